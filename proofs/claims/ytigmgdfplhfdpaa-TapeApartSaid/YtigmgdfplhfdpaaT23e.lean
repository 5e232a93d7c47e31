/- The laws of tape: helpers. -/
import Derived.Test.YtigmgdfplhfdpaaT23d
namespace Go.Proofs.Ytigmgdfplhfdpaa
open Go.RowKit

theorem same_take {α : Type} {l r : List α} {k : Nat} {y : α} (h : l.take k = r.take k) (h1 : l[k]? = some y) (h2 : r[k]? = some y) : l.take (k + 1) = r.take (k + 1) := by
  rw [List.take_add_one, List.take_add_one, h, h1, h2]
theorem same_ne {α : Type} {l r : List α} {k : Nat} {y z : α} (h1 : l[k]? = some y) (h2 : r[k]? = some z) (h : y ≠ z) : l ≠ r := fun e => by
  subst e
  rw [h1] at h2
  exact h (Option.some.inj h2)
theorem bool_iff {a b : Bool} (h : a = true ↔ b = true) : a = b := by cases a <;> cases b <;> simp_all
set_option maxRecDepth 100000 in
set_option maxHeartbeats 4000000 in
theorem nums_z (l r : List Int) (c1 c2 : Nat) (hl : l.length ≤ 1099511627776) : FnOK Try.prog GG 14 [] [.z 1 (l.map nuC) c1, .z 1 (r.map nuC) c2] (fun rr _ ext => rr = .v (.bool (decide (l = r))) ∧ ext = []) := by
  have hml : (l.map nuC).length = l.length := List.length_map _
  have hmr : (r.map nuC).length = r.length := List.length_map _
  by_cases hlen : l.length = r.length
  · refine fn_val (C := seat) seat_ok [(6, (.of [(0, .take), (1, .take), (2, .take), (3, .take), (4, .take), (5, .take), (6, .take), (7, .take), (8, .take)]))] GG_no (Try.func14) rfl rfl rfl rfl rfl (fun _ => rfl) rfl ?_
    repeat' ((try conv => whnf); first
      | (with_reducible refine OKv.go (C := seat) seat_ok ?_)
      | (with_reducible refine BB_true ?_)
      | (with_reducible refine BB_false ?_)
      | (with_reducible refine Both.mk ?_ ?_)
      | (with_reducible refine VS.mk ?_)
      | (refine PSem.go (C := seat) seat_ok ?_)
      | (refine And.intro (PlanOK.mk (by kernel_rfl) rfl (by kernel_rfl) (by kernel_rfl)) ?_)
      | (refine And.intro rfl (Exists.intro _ (And.intro (by first | assumption | rfl) ?_)))
      | (refine And.intro ⟨rfl, rfl, rfl⟩ ?_)
      | (refine And.intro ⟨by omega, by simp only [List.length_map]; omega⟩ (Exists.intro _ (And.intro (by first | assumption | rfl) ?_)))
      | (refine And.intro (by omega) ?_)
      | (refine BB.mk (fun _h => ?_) (fun _h => ?_) <;> (first | (exact absurd _h (by decide)) | (exfalso; simp only [boolSet] at _h <;> omega) | skip)))
    all_goals (try conv => whnf)
    refine loop_rule (α := Nat) (fun k => k ≤ l.length ∧ l.take k = r.take k) (fun k => { slots := [(0, .z 1 (l.map nuC) c1), (1, .z 1 (r.map nuC) c2), (12, .v (.int .i64 (l.map nuC).length)), (13, .v (.int .i64 (k : Int)))], nt := 26, mem := ⟨GG, [], []⟩ }) (fun k => l.length - k) 0 ⟨Nat.zero_le _, rfl⟩ ⟨⟨[], List.nodup_nil, GG_no, rfl, (SubOld.refl _ rfl), trivial, ⟨.inl rfl, .inl rfl, .inl rfl, .inl rfl, trivial⟩⟩, rfl⟩ ?_ (fun _ => rfl)
    rintro k ⟨hk, heq⟩
    refine vc_sound (C := seat) seat_ok (pl := [(6, (.of [(0, .take), (1, .take), (2, .take), (3, .take), (4, .take), (5, .take), (6, .take), (7, .take), (8, .take)]))]) ?_
    by_cases hlt : k < l.length
    · obtain ⟨y, hy⟩ : ∃ y, l[k]? = some y := ⟨_, List.getElem?_eq_getElem hlt⟩
      obtain ⟨z, hz⟩ : ∃ z, r[k]? = some z := ⟨_, List.getElem?_eq_getElem (by omega)⟩
      have hrow := nu_at hy
      have hrow2 := nu_at hz
      repeat' ((try conv => whnf); first
        | (with_reducible refine OKv.go (C := seat) seat_ok ?_)
        | (with_reducible refine BB_true ?_)
        | (with_reducible refine BB_false ?_)
        | (with_reducible refine Both.mk ?_ ?_)
        | (with_reducible refine VS.mk ?_)
        | (refine PSem.go (C := seat) seat_ok ?_)
        | (refine And.intro (PlanOK.mk (by kernel_rfl) rfl (by kernel_rfl) (by kernel_rfl)) ?_)
        | (refine And.intro rfl (Exists.intro _ (And.intro (by first | assumption | rfl) ?_)))
        | (refine And.intro ⟨rfl, rfl, rfl⟩ ?_)
        | (refine And.intro ⟨by omega, by simp only [List.length_map]; omega⟩ (Exists.intro _ (And.intro (by first | assumption | rfl) ?_)))
        | (refine And.intro (by omega) ?_)
        | (refine BB.mk (fun _h => ?_) (fun _h => ?_) <;> (first | (exact absurd _h (by decide)) | (exfalso; simp only [boolSet] at _h <;> omega) | skip)))
      all_goals (try conv => whnf)
      all_goals (try (refine Fin.mk ?_))
      all_goals first
        | (have hne : y ≠ z := by intro e; subst e; simp only [boolSet] at * <;> omega
           exact ⟨bool_eq (decide_eq_false (same_ne hy hz hne)).symm, rfl⟩)
        | (have hyz : y = z := by simp only [boolSet] at * <;> omega
           subst hyz
           exact ⟨k + 1, ⟨by omega, same_take heq hy hz⟩, by omega, ⟨⟨[], List.nodup_nil, GG_no, rfl, SubOld.refl _ rfl, trivial, ⟨.inl rfl, .inl rfl, .inl rfl, .inl (num_eq (by rw [IntKind.wrap_i64]; omega)), trivial⟩⟩, rfl⟩⟩)
    · have e : l = r := by
        rw [List.take_of_length_le (by omega), List.take_of_length_le (by omega)] at heq
        exact heq
      repeat' ((try conv => whnf); first
        | (with_reducible refine OKv.go (C := seat) seat_ok ?_)
        | (with_reducible refine BB_true ?_)
        | (with_reducible refine BB_false ?_)
        | (with_reducible refine Both.mk ?_ ?_)
        | (with_reducible refine VS.mk ?_)
        | (refine PSem.go (C := seat) seat_ok ?_)
        | (refine And.intro (PlanOK.mk (by kernel_rfl) rfl (by kernel_rfl) (by kernel_rfl)) ?_)
        | (refine And.intro rfl (Exists.intro _ (And.intro (by first | assumption | rfl) ?_)))
        | (refine And.intro ⟨rfl, rfl, rfl⟩ ?_)
        | (refine And.intro (by omega) ?_)
        | (refine BB.mk (fun _h => ?_) (fun _h => ?_) <;> (first | (exact absurd _h (by decide)) | (exfalso; simp only [boolSet] at _h <;> omega) | skip)))
      all_goals (try conv => whnf)
      exact Fin.mk ⟨bool_eq (decide_eq_true e).symm, rfl⟩
  · have e : l ≠ r := fun h => hlen (by rw [h])
    refine fn_val (C := seat) seat_ok [(6, (.of [(0, .take), (1, .take), (2, .take), (3, .take), (4, .take), (5, .take), (6, .take), (7, .take), (8, .take)]))] GG_no (Try.func14) rfl rfl rfl rfl rfl (fun _ => rfl) rfl ?_
    repeat' ((try conv => whnf); first
      | (with_reducible refine OKv.go (C := seat) seat_ok ?_)
      | (with_reducible refine BB_true ?_)
      | (with_reducible refine BB_false ?_)
      | (with_reducible refine Both.mk ?_ ?_)
      | (with_reducible refine VS.mk ?_)
      | (refine PSem.go (C := seat) seat_ok ?_)
      | (refine And.intro (PlanOK.mk (by kernel_rfl) rfl (by kernel_rfl) (by kernel_rfl)) ?_)
      | (refine And.intro rfl (Exists.intro _ (And.intro (by first | assumption | rfl) ?_)))
      | (refine And.intro ⟨rfl, rfl, rfl⟩ ?_)
      | (refine And.intro (by omega) ?_)
      | (refine BB.mk (fun _h => ?_) (fun _h => ?_) <;> (first | (exact absurd _h (by decide)) | (exfalso; simp only [boolSet] at _h <;> omega) | skip)))
    all_goals (try conv => whnf)
    all_goals (try (refine Fin.mk ?_))
    all_goals first
      | exact ⟨bool_eq (decide_eq_false e).symm, rfl⟩
      | (exfalso; simp only [boolSet] at * <;> omega)
set_option maxRecDepth 100000 in
set_option maxHeartbeats 4000000 in
theorem sameT_z (l r : List Int) (c d : Nat) (a b : Int) (hl : l.length ≤ 1099511627776) (x : Bool) (hx : (decide (a = b) && decide (l = r)) = x) : FnOK Try.prog GG 13 [] [tpS l c a, tpS r d b] (fun rr _ ext => (rr = .v (.bool x)) ∧ ext = []) := by
  refine FnOK.pure GG_no rfl (fn_intro (C := seat) seat_ok [] GG_no (Try.func13) rfl rfl rfl rfl rfl ?_)
  repeat' ((try conv => whnf); first
    | (with_reducible refine OKv.go (C := seat) seat_ok ?_)
    | (with_reducible refine BB_true ?_)
    | (with_reducible refine BB_false ?_)
    | (with_reducible refine Both.mk ?_ ?_)
    | (with_reducible refine VS.mk ?_)
    | (refine PSem.go (C := seat) seat_ok ?_)
    | (refine And.intro (PlanOK.mk (by kernel_rfl) rfl (by kernel_rfl) (by kernel_rfl)) ?_)
    | (refine And.intro rfl (Exists.intro _ (And.intro (by first | assumption | rfl) ?_)))
    | (refine And.intro ⟨rfl, rfl, rfl⟩ ?_)
    | (refine call_ro [] (nums_z l r c d hl) GG_no rfl rfl rfl trivial ?_; rintro r bs' ext ⟨rfl, rfl⟩)
    | (refine BB.mk (fun _h => ?_) (fun _h => ?_) <;> (first | (exact absurd _h (by decide)) | (exfalso; simp only [boolSet] at _h <;> omega) | (simp only [boolSet] at _h) | skip))
    | (refine And.intro (by omega) ?_)
    | (refine BB.mk (fun _h => ?_) (fun _h => ?_) <;> (first | (exact absurd _h (by decide)) | (exfalso; simp only [boolSet] at _h <;> omega) | skip)))
  all_goals (try conv => whnf)
  all_goals exact ⟨_, _, FrzV.refl _ _, rfl, rfl, fun _ => rfl, bool_eq (by rw [← hx]; apply bool_iff; simp only [boolSet] at *; simp only [Bool.and_eq_true, decide_eq_true_eq, *]; try simp)⟩
theorem nums_b (l r : List Int) (c d : Nat) (hl : l.length ≤ 1099511627776) (x : Bool) (hx : decide (l = r) = x) : FnOK Try.prog GG 14 [] [.z 1 (l.map nuC) c, .z 1 (r.map nuC) d] (fun rr _ ext => rr = .v (.bool x) ∧ ext = []) := hx ▸ nums_z l r c d hl
theorem draw_b (l : List Int) (c : Nat) (at_ : Int) (hl : l.length ≤ 1099511627776) (hc : l.length ≤ c) (n : Int) (hn : n ≤ 9223372036854775807) (hok : ∀ y ∈ l, NuOk y) (x : Int) (q : Int) (hx : drI l (plI l at_) n = x) (hq : (drP l (plI l at_) n : Int) = q) : FnOK Try.prog GG 9 [] [tpS l c at_, .v (.int .i64 n)] (fun r _ ext => (∃ c', l.length ≤ c' ∧ r = .tup [.v (.int .i64 x), tpS l c' q]) ∧ ext = []) := hx ▸ hq ▸ draw_z l c at_ hl hc n hn hok
theorem some_b (l : List Int) (c : Nat) (at_ : Int) (hl : l.length ≤ 1099511627776) (hc : l.length ≤ c) (m : Int) (hm : m ≤ 9223372036854775807) (s : List Int) (q : Int) (hs : someK l (plI l at_) (cntN m) = s) (hq : (posK l (plI l at_) (cntN m) : Int) = q) : FnOK Try.prog GG 11 [] [tpS l c at_, .v (.int .i64 m)] (fun r _ ext => (∃ c1 c2, (l.length ≤ c1 ∧ s.length ≤ c2) ∧ r = .tup [.z 1 (s.map nuC) c2, tpS l c1 q]) ∧ ext = []) := by
  subst hs; subst hq
  rw [someK_len]
  exact some_z l c at_ hl hc m hm
instance (x : Int) : Decidable (NuOk x) := by unfold NuOk; infer_instance
set_option maxRecDepth 100000 in
set_option maxHeartbeats 4000000 in
theorem awake_ok : FnOK Try.prog GG 8 [] [] (fun r _ ext => (r = .v (.bool true)) ∧ ext = []) := by
  refine FnOK.pure GG_no rfl (fn_intro (C := seat) seat_ok [] GG_no (Try.func8) rfl rfl rfl rfl rfl ?_)
  repeat' ((try conv => whnf); first
    | (with_reducible refine OKv.go (C := seat) seat_ok ?_)
    | (with_reducible refine BB_true ?_)
    | (with_reducible refine BB_false ?_)
    | (with_reducible refine Both.mk ?_ ?_)
    | (with_reducible refine VS.mk ?_)
    | (refine PSem.go (C := seat) seat_ok ?_)
    | (refine And.intro (PlanOK.mk (by kernel_rfl) rfl (by kernel_rfl) (by kernel_rfl)) ?_)
    | (refine And.intro rfl (Exists.intro _ (And.intro (by first | assumption | rfl) ?_)))
    | (refine And.intro ⟨rfl, rfl, rfl⟩ ?_)
    | ((try (first | refine call_frz 0 rfl (frz_aggT 0 (by rfl) (frz_nil _ 1) (by rfl)) ?_ | refine call_frz 0 rfl (frz_aggT 0 (by rfl) (frz_row (by rfl) (by first | rfl | exact (List.length_map _).symm)) (by rfl)) ?_ | refine call_frz 0 rfl (frz_aggT 0 (by rfl) (frz_ro (by rfl) (by first | rfl | exact (List.length_map _).symm)) (by rfl)) ?_)); refine call_ro [] (draw_b [5, 7, 9] _ 0 (by decide) (by first | decide | assumption) 4 (by decide) (by decide) 1 1 (by decide) (by decide)) GG_no rfl rfl rfl trivial ?_; rintro r bs' ext ⟨⟨c1, hc1, rfl⟩, rfl⟩)
    | ((try (first | refine call_frz 0 rfl (frz_aggT 0 (by rfl) (frz_nil _ 1) (by rfl)) ?_ | refine call_frz 0 rfl (frz_aggT 0 (by rfl) (frz_row (by rfl) (by first | rfl | exact (List.length_map _).symm)) (by rfl)) ?_ | refine call_frz 0 rfl (frz_aggT 0 (by rfl) (frz_ro (by rfl) (by first | rfl | exact (List.length_map _).symm)) (by rfl)) ?_)); refine call_ro [] (some_b [5, 7, 9] _ 1 (by decide) (by first | decide | assumption) 3 (by decide) [7, 9, 5] 1 (by decide) (by decide)) GG_no rfl rfl rfl trivial ?_; rintro r bs' ext ⟨⟨c2, c3, ⟨hc2, hc3⟩, rfl⟩, rfl⟩)
    | ((try (first | refine call_frz 0 rfl (frz_aggT 0 (by rfl) (frz_nil _ 1) (by rfl)) ?_ | refine call_frz 0 rfl (frz_aggT 0 (by rfl) (frz_row (by rfl) (by first | rfl | exact (List.length_map _).symm)) (by rfl)) ?_ | refine call_frz 0 rfl (frz_aggT 0 (by rfl) (frz_ro (by rfl) (by first | rfl | exact (List.length_map _).symm)) (by rfl)) ?_)); refine call_ro [] (draw_b [5, 7, 9] _ 7 (by decide) (by first | decide | assumption) 4 (by decide) (by decide) 1 1 (by decide) (by decide)) GG_no rfl rfl rfl trivial ?_; rintro r bs' ext ⟨⟨c4, hc4, rfl⟩, rfl⟩)
    | ((try (first | refine call_frz 0 rfl (frz_aggT 0 (by rfl) (frz_nil _ 1) (by rfl)) ?_ | refine call_frz 0 rfl (frz_aggT 0 (by rfl) (frz_row (by rfl) (by first | rfl | exact (List.length_map _).symm)) (by rfl)) ?_ | refine call_frz 0 rfl (frz_aggT 0 (by rfl) (frz_ro (by rfl) (by first | rfl | exact (List.length_map _).symm)) (by rfl)) ?_)); refine call_ro [] (draw_b [5, 7, 9] _ 0 (by decide) (by first | decide | assumption) 0 (by decide) (by decide) 0 0 (by decide) (by decide)) GG_no rfl rfl rfl trivial ?_; rintro r bs' ext ⟨⟨c5, hc5, rfl⟩, rfl⟩)
    | ((try (first | refine call_frz 0 rfl (frz_aggT 0 (by rfl) (frz_nil _ 1) (by rfl)) ?_ | refine call_frz 0 rfl (frz_aggT 0 (by rfl) (frz_row (by rfl) (by first | rfl | exact (List.length_map _).symm)) (by rfl)) ?_ | refine call_frz 0 rfl (frz_aggT 0 (by rfl) (frz_ro (by rfl) (by first | rfl | exact (List.length_map _).symm)) (by rfl)) ?_)); refine call_ro [] (some_b [] _ 3 (by decide) (by first | decide | assumption) 2 (by decide) [0, 0] 0 (by decide) (by decide)) GG_no rfl rfl rfl trivial ?_; rintro r bs' ext ⟨⟨c6, c7, ⟨hc6, hc7⟩, rfl⟩, rfl⟩)
    | ((try (first | refine call_frz 0 rfl (frz_nil _ 1) ?_ | refine call_frz 0 rfl (frz_row rfl (by first | rfl | exact (List.length_map _).symm)) ?_ | refine call_frz 0 rfl (frz_ro rfl (by first | rfl | exact (List.length_map _).symm)) ?_)); (try (first | refine call_frz 1 rfl (frz_nil _ 1) ?_ | refine call_frz 1 rfl (frz_row rfl (by first | rfl | exact (List.length_map _).symm)) ?_ | refine call_frz 1 rfl (frz_ro rfl (by first | rfl | exact (List.length_map _).symm)) ?_)); refine call_ro [] (nums_b [7, 9, 5] [7, 9, 5] _ _ (by decide) true (by decide)) GG_no rfl rfl rfl trivial ?_; rintro r bs' ext ⟨rfl, rfl⟩)
    | ((try (first | refine call_frz 0 rfl (frz_nil _ 1) ?_ | refine call_frz 0 rfl (frz_row rfl (by first | rfl | exact (List.length_map _).symm)) ?_ | refine call_frz 0 rfl (frz_ro rfl (by first | rfl | exact (List.length_map _).symm)) ?_)); (try (first | refine call_frz 1 rfl (frz_nil _ 1) ?_ | refine call_frz 1 rfl (frz_row rfl (by first | rfl | exact (List.length_map _).symm)) ?_ | refine call_frz 1 rfl (frz_ro rfl (by first | rfl | exact (List.length_map _).symm)) ?_)); refine call_ro [] (nums_b [0, 0] [0, 0] _ _ (by decide) true (by decide)) GG_no rfl rfl rfl trivial ?_; rintro r bs' ext ⟨rfl, rfl⟩)
    | (refine BB.mk (fun _h => ?_) (fun _h => ?_) <;> (first | (exact absurd _h (by decide)) | (exfalso; simp only [boolSet] at _h <;> omega) | (simp only [boolSet] at _h) | skip))
    | (refine And.intro (by omega) ?_)
    | (refine BB.mk (fun _h => ?_) (fun _h => ?_) <;> (first | (exact absurd _h (by decide)) | (exfalso; simp only [boolSet] at _h <;> omega) | skip)))
  all_goals (try conv => whnf)
  all_goals first
    | exact ⟨_, _, FrzV.refl _ _, rfl, rfl, fun _ => rfl, rfl⟩
    | trace_state
end Go.Proofs.Ytigmgdfplhfdpaa
