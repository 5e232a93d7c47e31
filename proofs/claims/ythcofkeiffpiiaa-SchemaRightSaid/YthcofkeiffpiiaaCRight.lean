/- Law SchemaRight, by computing. -/
import Derived.Test.YthcofkeiffpiiaaC03e
namespace Go.Proofs.Ythcofkeiffpiiaa
open Go.RowKit

theorem right_cut (l : List Sp_) (n cap : Nat) (hn : n ≤ l.length) (hl : l.length ≤ 1099511627776) (b : Bool) (h : rightB (l.take n) = b) : FnOK Try.prog GG 10 [.ro 2 (l.map spC)] [.s (.o 0) 2 0 n cap] (fun r _ ext => r = .v (.bool b) ∧ ext = []) := by
  subst h
  have hlen : (l.take n).length = n := by rw [List.length_take]; omega
  have := right_p (l.take n) (l.drop n) cap (by omega)
  rw [List.take_append_drop, hlen] at this
  exact this
theorem right_one (y : Sp_) : rightB [y] = decide (y.a ≤ y.b) := by simp [rightB]
theorem right_take {l : List Sp_} {n : Nat} (h : rightB l = true) (hn : n ≤ l.length) : rightB (l.take n) = decide (0 < n) := by
  simp only [rightB, Bool.and_eq_true, decide_eq_true_eq, List.all_eq_true] at h
  rw [Bool.eq_iff_iff]
  simp only [rightB, Bool.and_eq_true, decide_eq_true_eq, List.all_eq_true, List.length_take]
  constructor
  · rintro ⟨h1, _⟩; omega
  · intro h0; exact ⟨by omega, fun y hy => h.2 y (List.mem_of_mem_take hy)⟩
def allB (l : List Sp_) (k : Nat) : Bool := decide (1 ≤ l.length ∧ l.length ≤ 4) && (l.take k).all fun x => decide (x.a ≤ x.b)
theorem allB_succ {l : List Sp_} {k : Nat} {y : Sp_} (h : l[k]? = some y) : allB l (k + 1) = (allB l k && decide (y.a ≤ y.b)) := by
  simp only [allB, List.take_add_one, h, Option.toList_some, List.all_append, List.all_cons, List.all_nil, Bool.and_true, Bool.and_assoc]
theorem allB_end (l : List Sp_) : rightB l = allB l l.length := by simp [allB, rightB]
set_option maxRecDepth 100000 in
set_option maxHeartbeats 4000000 in
theorem right_nil  : FnOK Try.prog GG 10 [] [.v (.slice none 0 0)] (fun r _ ext => r = .v (.bool false) ∧ ext = []) := by
  refine fn_val (C := seat) seat_ok [] GG_no (Try.func10) rfl rfl rfl rfl rfl (fun _ => rfl) rfl ?_
  repeat' ((try conv => whnf); first
    | (with_reducible refine BB_true ?_)
    | (with_reducible refine BB_false ?_)
    | (with_reducible refine Both.mk ?_ ?_)
    | (refine And.intro (PlanOK.mk (by kernel_rfl) rfl (by kernel_rfl) (by kernel_rfl)) ?_)
    | (refine And.intro rfl (Exists.intro _ (And.intro (by first | assumption | rfl) ?_)))
    | (refine And.intro (by omega) ?_)
    | (refine BB.mk (fun _h => ?_) (fun _h => ?_) <;> (first | (exact absurd _h (by decide)) | (exfalso; simp only [boolSet, eqInts, not_true_eq_false] at _h <;> omega) | skip)))
  all_goals (try conv => whnf)
  all_goals (try (refine Fin.mk ?_))
  all_goals (exact ⟨rfl, rfl⟩)
set_option maxRecDepth 100000 in
set_option maxHeartbeats 4000000 in
theorem schemaRight_ok (l : List Sp_) (cap : Nat) (hc : l.length ≤ cap) (at_ : Int) (h0 : 0 ≤ at_) (h1 : at_ ≤ 255) : FnOK Try.prog GG 7 [.ro 2 (l.map spC)] [.s (.o 0) 2 0 l.length cap, .v (.int .u8 at_)] (fun r _ ext => r = .v (.bool true) ∧ ext = []) := by
  by_cases hlen : l.length ≤ 8
  · refine fn_val (C := seat) seat_ok [] GG_no (Try.func7) rfl rfl rfl rfl rfl (fun _ => rfl) rfl ?_
    repeat' ((try conv => whnf); first
      | (with_reducible refine BB_true ?_)
      | (with_reducible refine BB_false ?_)
      | (with_reducible refine Both.mk ?_ ?_)
      | (refine And.intro (PlanOK.mk (by kernel_rfl) rfl (by kernel_rfl) (by kernel_rfl)) ?_)
      | (refine And.intro rfl (Exists.intro _ (And.intro (by first | assumption | rfl) ?_)))
      | (refine call_ro [] (awake_ok) GG_no rfl rfl rfl trivial ?_; rintro r bs' ext ⟨rfl, rfl⟩)
      | (refine And.intro (by omega) ?_)
      | (refine BB.mk (fun _h => ?_) (fun _h => ?_) <;> (first | (exact absurd _h (by decide)) | (exfalso; simp only [boolSet, eqInts, not_true_eq_false] at _h <;> omega) | skip)))
    all_goals (try conv => whnf)
    all_goals
      refine loop_rule (α := Nat) (fun k => k ≤ l.length) (fun k => { slots := [(0, .s (.o 0) 2 0 l.length cap), (1, .v (.int .u8 at_)), (5, .v (.bool (allB l k))), (22, .s (.o 0) 2 0 l.length cap), (23, .v (.int .i64 l.length)), (24, .v (.int .i64 k))], nt := 74, mem := ⟨GG, [.ro 2 (l.map spC)], []⟩ }) (fun k => l.length - k) 0 (Nat.zero_le _) ⟨⟨[], List.nodup_nil, GG_no, rfl, (SubOld.refl _ rfl), trivial, ⟨.inl rfl, .inl rfl, .inl (bool_eq (by simp only [allB, List.take_zero, List.all_nil, Bool.and_true]; rw [Bool.eq_iff_iff]; simp only [boolSet] at * <;> omega)), .inl rfl, .inl rfl, .inl rfl, trivial⟩⟩, rfl⟩ ?_ (fun _ => rfl)
      rintro k hk
      refine vc_sound (C := seat) seat_ok (pl := []) ?_
      by_cases hlt : k < l.length
      · obtain ⟨y, hy⟩ : ∃ y, l[k]? = some y := ⟨_, List.getElem?_eq_getElem hlt⟩
        have hrow := sp_at0 hy
        repeat' ((try conv => whnf); first
          | (with_reducible refine BB_true ?_)
          | (with_reducible refine BB_false ?_)
          | (with_reducible refine Both.mk ?_ ?_)
          | (refine And.intro (PlanOK.mk (by kernel_rfl) rfl (by kernel_rfl) (by kernel_rfl)) ?_)
          | (refine And.intro rfl (Exists.intro _ (And.intro (by first | assumption | rfl) ?_)))
          | (refine call_ro [_] (right_p_is [y] 1 (show 1 ≤ 1099511627776 by decide) _ (right_one y)) GG_no rfl rfl rfl ⟨⟨_, rfl, rfl, rfl⟩, trivial⟩ ?_; rintro r bs' ext ⟨rfl, rfl⟩)
          | (refine And.intro (by omega) ?_)
          | (refine BB.mk (fun _h => ?_) (fun _h => ?_) <;> (first | (exact absurd _h (by decide)) | (exfalso; simp only [boolSet, eqInts, not_true_eq_false] at _h <;> omega) | skip)))
        all_goals (try conv => whnf)
        all_goals
          refine ⟨k + 1, by omega, by omega, ⟨⟨[], List.nodup_nil, GG_no, rfl, SubOld.refl _ rfl, trivial, ⟨.inl rfl, .inl rfl, .inl (bool_eq ?_), .inl rfl, .inl rfl, .inl (num_eq (by rw [IntKind.wrap_i64]; omega)), trivial⟩⟩, rfl⟩⟩
          rw [allB_succ hy]
          simp_all
      · obtain rfl : k = l.length := by omega
        have hre := allB_end l
        cases hb : allB l l.length
        · rw [hb] at hre
          repeat' ((try conv => whnf); first
            | (with_reducible refine BB_true ?_)
            | (with_reducible refine BB_false ?_)
            | (with_reducible refine Both.mk ?_ ?_)
            | (refine And.intro (PlanOK.mk (by kernel_rfl) rfl (by kernel_rfl) (by kernel_rfl)) ?_)
            | (refine And.intro rfl (Exists.intro _ (And.intro (by first | assumption | rfl) ?_)))
            | (refine call_ro [.o 0] (right_p_is l cap (by omega) _ hre) GG_no rfl rfl rfl ⟨⟨_, rfl, rfl, rfl⟩, trivial⟩ ?_; rintro r bs' ext ⟨rfl, rfl⟩)
            | (refine call_ro [.o 0] (right_cut l ((IntKind.i64.wrap at_).tmod (IntKind.i64.wrap ((l.length : Int) + 1))).toNat cap (by omega) (by omega) _ (right_take hre (by omega))) GG_no rfl rfl rfl ⟨⟨_, rfl, rfl, rfl⟩, trivial⟩ ?_; rintro r bs' ext ⟨rfl, rfl⟩)
            | (refine call_ro [] (right_nil) GG_no rfl rfl rfl trivial ?_; rintro r bs' ext ⟨rfl, rfl⟩)
            | (refine call_ro [] (awake_ok) GG_no rfl rfl rfl trivial ?_; rintro r bs' ext ⟨rfl, rfl⟩)
            | (refine And.intro (show _ ≠ (0 : Int) by simp only [IntKind.wrap_i64] <;> omega) ?_)
            | (refine And.intro (by rw [hn]; omega) ?_)
            | (refine And.intro (by omega) ?_)
            | (refine BB.mk (fun _h => ?_) (fun _h => ?_) <;> (first | (exact absurd _h (by decide)) | (exfalso; simp only [boolSet, eqInts, not_true_eq_false] at _h <;> omega) | skip)))
          all_goals (try conv => whnf)
          all_goals (try exact ⟨rfl, rfl⟩)
        · rw [hb] at hre
          obtain ⟨n, hn⟩ : ∃ n : Nat, (IntKind.i64.wrap at_).tmod (IntKind.i64.wrap ((l.length : Int) + 1)) = n := ⟨((IntKind.i64.wrap at_).tmod (IntKind.i64.wrap ((l.length : Int) + 1))).toNat, by
            have := Int.tmod_nonneg (IntKind.i64.wrap ((l.length : Int) + 1)) (show 0 ≤ IntKind.i64.wrap at_ by rw [IntKind.wrap_i64]; omega)
            omega⟩
          have hnl : n ≤ l.length := by
            have h2 : 0 < IntKind.i64.wrap ((l.length : Int) + 1) := by rw [IntKind.wrap_i64]; omega
            have := Int.tmod_lt_of_pos (IntKind.i64.wrap at_) h2
            have h3 : IntKind.i64.wrap ((l.length : Int) + 1) = l.length + 1 := by rw [IntKind.wrap_i64]; omega
            omega
          repeat' ((try conv => whnf); first
            | (with_reducible refine BB_true ?_)
            | (with_reducible refine BB_false ?_)
            | (with_reducible refine Both.mk ?_ ?_)
            | (refine And.intro (PlanOK.mk (by kernel_rfl) rfl (by kernel_rfl) (by kernel_rfl)) ?_)
            | (refine And.intro rfl (Exists.intro _ (And.intro (by first | assumption | rfl) ?_)))
            | (refine call_ro [.o 0] (right_p_is l cap (by omega) _ hre) GG_no rfl rfl rfl ⟨⟨_, rfl, rfl, rfl⟩, trivial⟩ ?_; rintro r bs' ext ⟨rfl, rfl⟩)
            | (refine call_ro [.o 0] (right_cut l ((IntKind.i64.wrap at_).tmod (IntKind.i64.wrap ((l.length : Int) + 1))).toNat cap (by omega) (by omega) _ (right_take hre (by omega))) GG_no rfl rfl rfl ⟨⟨_, rfl, rfl, rfl⟩, trivial⟩ ?_; rintro r bs' ext ⟨rfl, rfl⟩)
            | (refine call_ro [] (right_nil) GG_no rfl rfl rfl trivial ?_; rintro r bs' ext ⟨rfl, rfl⟩)
            | (refine call_ro [] (awake_ok) GG_no rfl rfl rfl trivial ?_; rintro r bs' ext ⟨rfl, rfl⟩)
            | (refine And.intro (show _ ≠ (0 : Int) by simp only [IntKind.wrap_i64] <;> omega) ?_)
            | (refine And.intro (by rw [hn]; omega) ?_)
            | (refine And.intro (by omega) ?_)
            | (refine BB.mk (fun _h => ?_) (fun _h => ?_) <;> (first | (exact absurd _h (by decide)) | (exfalso; simp only [boolSet, eqInts, not_true_eq_false] at _h <;> omega) | skip)))
          all_goals (try conv => whnf)
          all_goals (try exact ⟨rfl, rfl⟩)
  · refine fn_val (C := seat) seat_ok [] GG_no (Try.func7) rfl rfl rfl rfl rfl (fun _ => rfl) rfl ?_
    repeat' ((try conv => whnf); first
      | (with_reducible refine BB_true ?_)
      | (with_reducible refine BB_false ?_)
      | (with_reducible refine Both.mk ?_ ?_)
      | (refine And.intro (PlanOK.mk (by kernel_rfl) rfl (by kernel_rfl) (by kernel_rfl)) ?_)
      | (refine And.intro rfl (Exists.intro _ (And.intro (by first | assumption | rfl) ?_)))
      | (refine call_ro [] (awake_ok) GG_no rfl rfl rfl trivial ?_; rintro r bs' ext ⟨rfl, rfl⟩)
      | (refine And.intro (by omega) ?_)
      | (refine BB.mk (fun _h => ?_) (fun _h => ?_) <;> (first | (exact absurd _h (by decide)) | (exfalso; simp only [boolSet, eqInts, not_true_eq_false] at _h <;> omega) | skip)))
    all_goals (try conv => whnf)
    all_goals exact ⟨rfl, rfl⟩
end Go.Proofs.Ythcofkeiffpiiaa
