/- Package push, by computing: the examples. -/
import Derived.Test.YthbgcdnjmdgkoaaP16d
namespace Go.Proofs.Ythbgcdnjmdgkoaa
open Go.RowKit

theorem pick_is (l d : List Int) (fan : Int) (c1 c2 : Nat) (o : List Int) (ho : pickL l d fan = o) (hc : l.length ≤ c1) (hl : l.length ≤ 1099511627776) (hd : d.length ≤ 1099511627776) (hb : ∀ x ∈ d, 0 ≤ x ∧ x < 4294967296) : FnOK Try.prog GG 12 [.ro 1 (l.map bC), .ro 1 (d.map uC)] [.s (.o 0) 1 0 l.length c1, .v (.int .i64 fan), .s (.o 1) 1 0 d.length c2] (fun r _ ext => ∃ cap', o.length ≤ cap' ∧ r = .s (.n 0) 1 0 o.length cap' ∧ ext = [.row 5 1 cap' (o.map bC)]) := by
  subst ho
  exact pick_raw l d fan c1 c2 (manyN fan l.length) rfl hc hl hd hb
theorem pickn_is (l d : List Int) (fan : Int) (c1 c2 : Nat) (o : List Int) (hd0 : d = []) (ho : pickL l d fan = o) (hc : l.length ≤ c1) (hl : l.length ≤ 1099511627776) (hd : d.length ≤ 1099511627776) (hb : ∀ x ∈ d, 0 ≤ x ∧ x < 4294967296) : FnOK Try.prog GG 12 [.ro 1 (l.map bC)] [.s (.o 0) 1 0 l.length c1, .v (.int .i64 fan), .v (.slice none 0 0)] (fun r _ ext => ∃ cap', o.length ≤ cap' ∧ r = .s (.n 0) 1 0 o.length cap' ∧ ext = [.row 5 1 cap' (o.map bC)]) := by
  subst ho
  exact pick_nil l d fan c1 c2 (manyN fan l.length) hd0 rfl hc hl hd hb
theorem same_is (l m r m' : List Int) (c1 c2 : Nat) (b : Bool) (hl : ∀ x ∈ l, 0 ≤ x ∧ x ≤ 255) (hr : ∀ x ∈ r, 0 ≤ x ∧ x ≤ 255) (h : decide (l = r) = b) : FnOK Try.prog GG 11 [.ro 1 ((l ++ m).map bC), .ro 1 ((r ++ m').map bC)] [.s (.o 0) 1 0 l.length c1, .s (.o 1) 1 0 r.length c2] (fun rr _ ext => rr = .v (.bool b) ∧ ext = []) := by
  subst h
  exact same_ok l m r m' c1 c2 hl hr
theorem less_no_is (x : Int) (h : x = 0) : FnOK Try.prog GG 9 [] [.v (.int .u8 x)] (fun r _ ext => r = .tup [.v (.int .u8 0), .v (.bool false)] ∧ ext = []) := by
  subst h
  exact less_no_p
set_option maxRecDepth 100000 in
set_option maxHeartbeats 4000000 in
theorem awake_ok  : FnOK Try.prog GG 8 [] [] (fun r _ ext => r = .v (.bool true) ∧ ext = []) := by
  refine fn_val (C := seat) seat_ok [] GG_no (Try.func8) rfl rfl rfl rfl rfl (fun _ => rfl) rfl ?_
  repeat' ((try conv => whnf); first
    | (with_reducible refine BB_true ?_)
    | (with_reducible refine BB_false ?_)
    | (with_reducible refine Both.mk ?_ ?_)
    | (with_reducible refine VS.mk ?_)
    | (refine PSem.go (C := seat) seat_ok ?_)
    | (refine And.intro (PlanOK.mk (by kernel_rfl) rfl (by kernel_rfl) (by kernel_rfl)) ?_)
    | (refine And.intro rfl (Exists.intro _ (And.intro (by first | assumption | rfl) ?_)))
    | (refine And.intro ⟨rfl, rfl, rfl⟩ ?_)
    | (refine call_ro [] (less_yes_p 3 (by decide) (by decide)) GG_no rfl rfl rfl trivial ?_; rintro r bs' ext ⟨rfl, rfl⟩)
    | (refine call_ro [] (less_no_p) GG_no rfl rfl rfl trivial ?_; rintro r bs' ext ⟨rfl, rfl⟩)
    | (refine call_ro [_, _] (pick_is [1, 2, 3] [4, 5] 2 3 2 [2, 3] (by decide) (by decide) (by decide) (by decide) (by decide)) GG_no rfl rfl rfl ⟨⟨_, rfl, rfl, rfl⟩, ⟨_, rfl, rfl, rfl⟩, trivial⟩ ?_; rintro r bs' ext ⟨ca, hca, rfl, rfl⟩)
    | (refine call_ro [_] (pickn_is [1, 2, 3] [] 9 3 0 [1, 2, 3] rfl (by decide) (by decide) (by decide) (by decide) (by decide)) GG_no rfl rfl rfl ⟨⟨_, rfl, rfl, rfl⟩, trivial⟩ ?_; rintro r bs' ext ⟨ca, hca, rfl, rfl⟩)
    | (refine call_ro [_, _] (pick_is [1, 2] [7] (-1) 2 1 [] (by decide) (by decide) (by decide) (by decide) (by decide)) GG_no rfl rfl rfl ⟨⟨_, rfl, rfl, rfl⟩, ⟨_, rfl, rfl, rfl⟩, trivial⟩ ?_; rintro r bs' ext ⟨ca, hca, rfl, rfl⟩)
    | (refine call_ro [_, _] (same_is [2, 3] [] [2, 3] [] _ _ true (by decide) (by decide) (by decide)) GG_no rfl rfl rfl ⟨⟨_, rfl, rfl, rfl⟩, ⟨_, rfl, rfl, rfl⟩, trivial⟩ ?_; rintro r bs' ext ⟨rfl, rfl⟩)
    | (refine call_ro [_, _] (same_is [1, 2, 3] [] [1, 2, 3] [] _ _ true (by decide) (by decide) (by decide)) GG_no rfl rfl rfl ⟨⟨_, rfl, rfl, rfl⟩, ⟨_, rfl, rfl, rfl⟩, trivial⟩ ?_; rintro r bs' ext ⟨rfl, rfl⟩)
    | (refine And.intro (by omega) ?_)
    | (refine BB.mk (fun _h => ?_) (fun _h => ?_) <;> (first | (exact absurd _h (by decide)) | (exfalso; simp only [boolSet] at _h <;> omega) | skip)))
  all_goals (try conv => whnf)
  all_goals (try (refine Fin.mk ?_))
  all_goals (exact ⟨rfl, rfl⟩)
set_option maxRecDepth 100000 in
set_option maxHeartbeats 4000000 in
theorem pushHops_ok (H : Nat) (hH : H ≤ 255) : FnOK Try.prog GG 7 [] [.v (.int .u8 H)] (fun r _ ext => r = .v (.bool true) ∧ ext = []) := by
  refine fn_val (C := seat) seat_ok [] GG_no (Try.func7) rfl rfl rfl rfl rfl (fun _ => rfl) rfl ?_
  repeat' ((try conv => whnf); first
    | (with_reducible refine BB_true ?_)
    | (with_reducible refine BB_false ?_)
    | (with_reducible refine Both.mk ?_ ?_)
    | (with_reducible refine VS.mk ?_)
    | (refine PSem.go (C := seat) seat_ok ?_)
    | (refine And.intro (PlanOK.mk (by kernel_rfl) rfl (by kernel_rfl) (by kernel_rfl)) ?_)
    | (refine And.intro rfl (Exists.intro _ (And.intro (by first | assumption | rfl) ?_)))
    | (refine And.intro ⟨rfl, rfl, rfl⟩ ?_)
    | (refine And.intro (by omega) ?_)
    | (refine BB.mk (fun _h => ?_) (fun _h => ?_) <;> (first | (exact absurd _h (by decide)) | (exfalso; simp only [boolSet] at _h <;> omega) | skip)))
  all_goals (try conv => whnf)
  refine loop_rule (α := Nat) (fun k => k ≤ H) (fun k => { slots := [(0, .v (.int .u8 H)), (3, .v (.int .i64 k)), (4, .v (.int .u8 ((H : Int) - (k : Int))))], nt := 41, mem := ⟨GG, [], []⟩ }) (fun k => H - k) 0 (Nat.zero_le _) ⟨⟨[], List.nodup_nil, GG_no, rfl, (SubOld.refl _ rfl), trivial, ⟨.inl rfl, .inl rfl, .inl (num_eq (by omega)), trivial⟩⟩, rfl⟩ ?_ (fun _ => rfl)
  rintro k hk
  refine vc_sound (C := seat) seat_ok (pl := []) ?_
  by_cases hlt : k < H
  · have ew : IntKind.u8.wrap ((H : Int) - (k : Int) - 1) = (H : Int) - (k : Int) - 1 := by rw [IntKind.wrap_u8]; omega
    have eb : ((H : Int) - (k : Int) - 1 != IntKind.u8.wrap ((H : Int) - (k : Int) - 1)) = false := by rw [ew]; simp
    repeat' ((try conv => whnf); first
      | (with_reducible refine BB_true ?_)
      | (with_reducible refine BB_false ?_)
      | (with_reducible refine Both.mk ?_ ?_)
      | (with_reducible refine VS.mk ?_)
      | (refine PSem.go (C := seat) seat_ok ?_)
      | (refine And.intro (PlanOK.mk (by kernel_rfl) rfl (by kernel_rfl) (by kernel_rfl)) ?_)
      | (refine And.intro rfl (Exists.intro _ (And.intro (by first | assumption | rfl) ?_)))
      | (refine And.intro ⟨rfl, rfl, rfl⟩ ?_)
      | (refine call_ro [] (less_yes_p _ (by omega) (by omega)) GG_no rfl rfl rfl trivial ?_; rintro r bs' ext ⟨rfl, rfl⟩)
      | (refine And.intro (by omega) ?_)
      | (refine BB.mk (fun _h => ?_) (fun _h => ?_) <;> (first | (exact absurd _h (by decide)) | (exfalso; simp only [boolSet] at _h <;> omega) | skip)))
    all_goals (try conv => whnf)
    exact ⟨k + 1, by omega, by omega, ⟨⟨[], List.nodup_nil, GG_no, rfl, SubOld.refl _ rfl, trivial, ⟨.inl rfl, .inl (num_eq (by rw [IntKind.wrap_i64]; omega)), .inl (num_eq (by omega)), trivial⟩⟩, rfl⟩⟩
  · have ew : IntKind.i64.wrap (H : Int) = H := by rw [IntKind.wrap_i64]; omega
    have eb : ((k : Int) == IntKind.i64.wrap (H : Int)) = true := by rw [ew, beq_iff_eq]; omega
    repeat' ((try conv => whnf); first
      | (with_reducible refine BB_true ?_)
      | (with_reducible refine BB_false ?_)
      | (with_reducible refine Both.mk ?_ ?_)
      | (with_reducible refine VS.mk ?_)
      | (refine PSem.go (C := seat) seat_ok ?_)
      | (refine And.intro (PlanOK.mk (by kernel_rfl) rfl (by kernel_rfl) (by kernel_rfl)) ?_)
      | (refine And.intro rfl (Exists.intro _ (And.intro (by first | assumption | rfl) ?_)))
      | (refine And.intro ⟨rfl, rfl, rfl⟩ ?_)
      | (refine call_ro [] (less_no_is _ (by omega)) GG_no rfl rfl rfl trivial ?_; rintro r bs' ext ⟨rfl, rfl⟩)
      | (refine call_ro [] (awake_ok) GG_no rfl rfl rfl trivial ?_; rintro r bs' ext ⟨rfl, rfl⟩)
      | (refine And.intro (by omega) ?_)
      | (refine BB.mk (fun _h => ?_) (fun _h => ?_) <;> (first | (exact absurd _h (by decide)) | (exfalso; simp only [boolSet] at _h <;> omega) | skip)))
    all_goals (try conv => whnf)
    exact Fin.mk ⟨rfl, rfl⟩
end Go.Proofs.Ythbgcdnjmdgkoaa
