/- Stage 10: the law's own examples; what it asks of lists. -/
import Derived.Test.YtccegmbklgmgnaaY10e
namespace Go.Proofs.Ytccegmbklgmgnaa
open Go.RowKit

set_option maxRecDepth 100000 in
set_option maxHeartbeats 4000000 in
theorem one_w (n a : Int) : FnOK Try.prog GG 26 [] [.v (.int .u8 n), .v (.int .u8 a)] (fun r _ ext => (r = deS ⟨n, 1, a, []⟩ 0) ∧ ext = []) := by
  refine FnOK.pure GG_no rfl (fn_intro (C := seat) seat_ok [] GG_no (Try.func26) rfl rfl rfl rfl rfl ?_)
  repeat' ((try conv => whnf); first
    | (with_reducible refine OKv.go (C := seat) seat_ok ?_)
    | (with_reducible refine BB_true ?_)
    | (with_reducible refine BB_false ?_)
    | (with_reducible refine Both.mk ?_ ?_)
    | (with_reducible refine VS.mk ?_)
    | (refine PSem.go (C := seat) seat_ok ?_)
    | (refine And.intro (PlanOK.mk (by kernel_rfl) rfl (by kernel_rfl) (by kernel_rfl)) ?_)
    | (refine And.intro rfl (Exists.intro _ (And.intro (by first | assumption | rfl) ?_)))
    | (refine And.intro ⟨rfl, rfl, rfl⟩ ?_)
    | (refine And.intro (by omega) ?_)
    | (refine BB.mk (fun _h => ?_) (fun _h => ?_) <;> (first | (exact absurd _h (by decide)) | (exfalso; simp only [boolSet] at _h <;> omega) | skip)))
  all_goals (try conv => whnf)
  exact ⟨_, _, frz_aggT 3 rfl (frz_nil _ 2) rfl, rfl, rfl, fun _ => rfl, rfl⟩
set_option maxRecDepth 100000 in
set_option maxHeartbeats 4000000 in
theorem awake_ok  : FnOK Try.prog GG 9 [] [] (fun r _ ext => (r = .v (.bool true)) ∧ ext = []) := by
  refine FnOK.pure GG_no rfl (fn_intro (C := seat) seat_ok [] GG_no (Try.func9) rfl rfl rfl rfl rfl ?_)
  repeat' ((try conv => whnf); first
    | (with_reducible refine OKv.go (C := seat) seat_ok ?_)
    | (with_reducible refine BB_true ?_)
    | (with_reducible refine BB_false ?_)
    | (with_reducible refine Both.mk ?_ ?_)
    | (with_reducible refine VS.mk ?_)
    | (refine PSem.go (C := seat) seat_ok ?_)
    | (refine And.intro (PlanOK.mk (by kernel_rfl) rfl (by kernel_rfl) (by kernel_rfl)) ?_)
    | (refine And.intro rfl (Exists.intro _ (And.intro (by first | assumption | rfl) ?_)))
    | (refine And.intro ⟨rfl, rfl, rfl⟩ ?_)
    | (refine call_ro [] (one_w _ _) GG_no rfl rfl rfl trivial ?_; rintro r bs' ext ⟨rfl, rfl⟩)
    | ((first | refine call_frz 0 rfl (frz_row rfl rfl) ?_ | refine call_frz 0 rfl (frz_ro rfl rfl) ?_); (first | refine call_frz 3 rfl (frz_row rfl rfl) ?_ | refine call_frz 3 rfl (frz_ro rfl rfl) ?_); refine call_ro [] (ask_ok [⟨1, 1, 1, []⟩, ⟨2, 1, 5, []⟩, ⟨3, 1, 0, []⟩] _ ⟨9, 1, 7, []⟩ _ 2 [3] _ (by decide) (by decide) (by decide) (by decide) (by decide) (by decide) 1 ⟨2, 1, 5, []⟩ (by decide) (by decide)) GG_no rfl rfl rfl trivial ?_; rintro r bs' ext ⟨⟨c', hc', rfl⟩, rfl⟩)
    | (refine call_frz 0 rfl (frz_nil _ 4) ?_; (first | refine call_frz 3 rfl (frz_row rfl rfl) ?_ | refine call_frz 3 rfl (frz_ro rfl rfl) ?_); refine call_ro [] (ask_no [] 0 ⟨9, 1, 7, []⟩ _ 2 [3] _ (by decide) (by decide) (by decide) (by decide) (by decide) (.inl rfl)) GG_no rfl rfl rfl trivial ?_; rintro r bs' ext ⟨rfl, rfl⟩)
    | ((first | refine call_frz 0 rfl (frz_row rfl rfl) ?_ | refine call_frz 0 rfl (frz_ro rfl rfl) ?_); (first | refine call_frz 1 rfl (frz_row rfl rfl) ?_ | refine call_frz 1 rfl (frz_ro rfl rfl) ?_); (first | refine call_frz 2 rfl (frz_row rfl rfl) ?_ | refine call_frz 2 rfl (frz_ro rfl rfl) ?_); refine call_ro [] (merge_ok [⟨1, 1, 1, []⟩, ⟨2, 1, 5, []⟩, ⟨3, 1, 0, []⟩] [⟨4, 1, 0, []⟩, ⟨5, 1, 0, []⟩] [⟨9, 1, 0, []⟩, ⟨3, 1, 0, []⟩] _ _ _ 9 3 ⟨by decide, by decide, by decide⟩ (by decide) (by decide) (by decide) (by decide) (by decide)) GG_no rfl rfl rfl trivial ?_; rintro r bs' ext ⟨⟨c', hc', rfl⟩, rfl⟩)
    | ((first | refine call_frz 1 rfl (frz_row rfl rfl) ?_ | refine call_frz 1 rfl (frz_ro rfl rfl) ?_); refine call_ro [] (descs_zz (askL [⟨1, 1, 1, []⟩, ⟨2, 1, 5, []⟩, ⟨3, 1, 0, []⟩] ⟨9, 1, 7, []⟩ ⟨2, 1, 5, []⟩ 2 [3]) [⟨9, 1, 0, []⟩, ⟨3, 1, 0, []⟩] _ _ (by decide) (by decide) true (by decide)) GG_no rfl rfl rfl trivial ?_; rintro r bs' ext ⟨rfl, rfl⟩)
    | ((first | refine call_frz 1 rfl (frz_row rfl rfl) ?_ | refine call_frz 1 rfl (frz_ro rfl rfl) ?_); refine call_ro [] (descs_zz (mergeN [⟨9, 1, 0, []⟩, ⟨3, 1, 0, []⟩] [⟨4, 1, 0, []⟩, ⟨5, 1, 0, []⟩] 9 3 [⟨1, 1, 1, []⟩, ⟨2, 1, 5, []⟩, ⟨3, 1, 0, []⟩] 2).1 [⟨1, 1, 1, []⟩, ⟨2, 1, 5, []⟩, ⟨4, 1, 0, []⟩] _ _ (by decide) (by decide) true (by decide)) GG_no rfl rfl rfl trivial ?_; rintro r bs' ext ⟨rfl, rfl⟩)
    | ((first | refine call_frz 0 rfl (frz_row rfl rfl) ?_ | refine call_frz 0 rfl (frz_ro rfl rfl) ?_); (first | refine call_frz 3 rfl (frz_row rfl rfl) ?_ | refine call_frz 3 rfl (frz_ro rfl rfl) ?_); refine call_ro [] (pick_ok [⟨1, 1, 1, []⟩, ⟨2, 1, 5, []⟩, ⟨3, 1, 0, []⟩] _ 2 1 [7, 8, 9] _ (by decide) (by decide) (by decide) (by decide)) GG_no rfl rfl rfl trivial ?_; rintro r bs' ext ⟨⟨c', hc', rfl⟩, rfl⟩)
    | (refine And.intro (by omega) ?_)
    | (refine BB.mk (fun _h => ?_) (fun _h => ?_) <;> (first | (exact absurd _h (by decide)) | (exfalso; simp only [boolSet] at _h <;> omega) | skip)))
  all_goals (try conv => whnf)
  exact ⟨_, _, FrzV.refl _ _, rfl, rfl, fun _ => rfl, rfl⟩
theorem sames_ok (a b : De) (c1 c2 : Nat) (hf : a.fl.length ≤ 1099511627776) (v : Bool) (hv : decide (a = b) = v) : FnOK Try.prog GG 21 [] [deS a c1, deS b c2] (fun r _ ext => r = .v (.bool v) ∧ ext = []) := by
  subst hv
  exact same_ok a b c1 c2 hf
set_option maxRecDepth 100000 in
set_option maxHeartbeats 4000000 in
theorem in_ok (l : List De) (cl : Nat) (d : De) (cd : Nat) (hl : l.length ≤ 1099511627776) (hd : d.fl.length ≤ 1099511627776) (hf : FlOk l) (b : Bool) (hb : l.any (fun y => decide (y = d)) = b) : FnOK Try.prog GG 20 [] [.z 4 (l.map deC) cl, deS d cd] (fun r _ ext => (r = .v (.bool b)) ∧ ext = []) := by
  have hlm : (l.map deC).length = l.length := List.length_map _
  refine FnOK.pure GG_no rfl (fn_intro (C := seat) seat_ok [] GG_no (Try.func20) rfl rfl rfl rfl rfl ?_)
  repeat' ((try conv => whnf); first
    | (with_reducible refine OKv.go (C := seat) seat_ok ?_)
    | (with_reducible refine BB_true ?_)
    | (with_reducible refine BB_false ?_)
    | (with_reducible refine Both.mk ?_ ?_)
    | (with_reducible refine VS.mk ?_)
    | (refine PSem.go (C := seat) seat_ok ?_)
    | (refine And.intro (PlanOK.mk (by kernel_rfl) rfl (by kernel_rfl) (by kernel_rfl)) ?_)
    | (refine And.intro rfl (Exists.intro _ (And.intro (by first | assumption | rfl) ?_)))
    | (refine And.intro ⟨rfl, rfl, rfl⟩ ?_)
    | (refine And.intro (by omega) ?_)
    | (refine BB.mk (fun _h => ?_) (fun _h => ?_) <;> (first | (exact absurd _h (by decide)) | (exfalso; simp only [boolSet] at _h <;> omega) | skip)))
  all_goals (try conv => whnf)
  refine loop_rule (α := Nat) (fun k => k ≤ l.length ∧ ∀ (j : Nat) y, j < k → l[j]? = some y → ¬ (y = d)) (fun k => { slots := [(3, .p (.n 0) 0 0 0), (7, .z 4 (l.map deC) cl), (8, .v (.int .i64 (l.map deC).length)), (9, .v (.int .i64 (k : Int)))], nt := 17, mem := ⟨GG, [], [.box 34 [.v (.int .u8 d.node), .v (.int .u16 d.inc), .v (.int .u8 d.age), .z 2 (d.fl.map spC) cd]]⟩ }) (fun k => l.length - k) 0 ⟨Nat.zero_le _, fun j y h => absurd h (Nat.not_lt_zero _)⟩ ⟨⟨[0], (by decide), GG_no, rfl, (SubOld.refl _ rfl), ⟨rfl, trivial⟩, ⟨.inl rfl, .inl rfl, .inl rfl, .inl rfl, trivial⟩⟩, rfl⟩ ?_ (fun _ => rfl)
  rintro k ⟨hk, hno⟩
  refine vc_sound (C := seat) seat_ok (pl := []) ?_
  by_cases hlt : k < l.length
  · obtain ⟨y, hy⟩ : ∃ y, l[k]? = some y := ⟨_, List.getElem?_eq_getElem hlt⟩
    have hrow := zde_at hy
    have hfy := hf y (List.mem_of_getElem? hy)
    by_cases hx : y = d
    · have hb1 : b = true := by rw [← hb]; exact List.any_eq_true.2 ⟨y, List.mem_of_getElem? hy, decide_eq_true hx⟩
      subst hb1
      repeat' ((try conv => whnf); first
        | (with_reducible refine OKv.go (C := seat) seat_ok ?_)
        | (with_reducible refine BB_true ?_)
        | (with_reducible refine BB_false ?_)
        | (with_reducible refine Both.mk ?_ ?_)
        | (with_reducible refine VS.mk ?_)
        | (refine PSem.go (C := seat) seat_ok ?_)
        | (refine And.intro (PlanOK.mk (by kernel_rfl) rfl (by kernel_rfl) (by kernel_rfl)) ?_)
        | (refine And.intro rfl (Exists.intro _ (And.intro (by first | assumption | rfl) ?_)))
        | (refine And.intro ⟨rfl, rfl, rfl⟩ ?_)
        | (refine call_ro [] (sames_ok y d _ _ hfy true (decide_eq_true hx)) GG_no rfl rfl rfl trivial ?_; rintro r bs' ext ⟨rfl, rfl⟩)
        | (refine And.intro ⟨by omega, by simp only [List.length_map]; omega⟩ (Exists.intro _ (And.intro (by first | assumption | rfl) ?_)))
        | (refine fun (caps : Nat → Nat) hcaps => ?_; conv at hcaps => whnf)
        | (refine BB.mk (fun _h => ?_) (fun _h => ?_) <;> (first | (exact absurd _h (by decide)) | (exfalso; simp only [boolSet] at _h <;> omega) | (simp only [boolSet] at _h) | skip))
        | (refine And.intro (by omega) ?_)
        | (refine BB.mk (fun _h => ?_) (fun _h => ?_) <;> (first | (exact absurd _h (by decide)) | (exfalso; simp only [boolSet] at _h <;> omega) | skip)))
      all_goals (try conv => whnf)
      all_goals first
        | exact ⟨_, _, FrzV.refl _ _, rfl, rfl, fun _ => rfl, rfl⟩
        | (exfalso; simp_all)
    · skip
      repeat' ((try conv => whnf); first
        | (with_reducible refine OKv.go (C := seat) seat_ok ?_)
        | (with_reducible refine BB_true ?_)
        | (with_reducible refine BB_false ?_)
        | (with_reducible refine Both.mk ?_ ?_)
        | (with_reducible refine VS.mk ?_)
        | (refine PSem.go (C := seat) seat_ok ?_)
        | (refine And.intro (PlanOK.mk (by kernel_rfl) rfl (by kernel_rfl) (by kernel_rfl)) ?_)
        | (refine And.intro rfl (Exists.intro _ (And.intro (by first | assumption | rfl) ?_)))
        | (refine And.intro ⟨rfl, rfl, rfl⟩ ?_)
        | (refine call_ro [] (sames_ok y d _ _ hfy false (decide_eq_false hx)) GG_no rfl rfl rfl trivial ?_; rintro r bs' ext ⟨rfl, rfl⟩)
        | (refine And.intro ⟨by omega, by simp only [List.length_map]; omega⟩ (Exists.intro _ (And.intro (by first | assumption | rfl) ?_)))
        | (refine fun (caps : Nat → Nat) hcaps => ?_; conv at hcaps => whnf)
        | (refine BB.mk (fun _h => ?_) (fun _h => ?_) <;> (first | (exact absurd _h (by decide)) | (exfalso; simp only [boolSet] at _h <;> omega) | (simp only [boolSet] at _h) | skip))
        | (refine And.intro (by omega) ?_)
        | (refine BB.mk (fun _h => ?_) (fun _h => ?_) <;> (first | (exact absurd _h (by decide)) | (exfalso; simp only [boolSet] at _h <;> omega) | skip)))
      all_goals (try conv => whnf)
      all_goals first
        | exact ⟨k + 1, ⟨by omega, fun j z hj hz => by
            rcases Nat.lt_succ_iff_lt_or_eq.1 hj with h | rfl
            · exact hno j z h hz
            · rw [hy] at hz; cases hz; exact hx⟩, by omega, ⟨⟨[0], by decide, GG_no, rfl, SubOld.refl _ rfl, ⟨rfl, trivial⟩, ⟨.inl rfl, .inl rfl, .inl rfl, .inl (num_eq (by rw [IntKind.wrap_i64]; omega)), trivial⟩⟩, rfl⟩⟩
        | (exfalso; simp_all)
  · obtain rfl : k = l.length := by omega
    have hb1 : b = false := by
      rw [← hb]
      refine Bool.eq_false_iff.2 fun h => ?_
      obtain ⟨z, hz, he⟩ := List.any_eq_true.1 h
      obtain ⟨j, hj⟩ := List.mem_iff_getElem?.1 hz
      exact hno j z (getElem?_lt hj) hj (of_decide_eq_true he)
    subst hb1
    repeat' ((try conv => whnf); first
      | (with_reducible refine OKv.go (C := seat) seat_ok ?_)
      | (with_reducible refine BB_true ?_)
      | (with_reducible refine BB_false ?_)
      | (with_reducible refine Both.mk ?_ ?_)
      | (with_reducible refine VS.mk ?_)
      | (refine PSem.go (C := seat) seat_ok ?_)
      | (refine And.intro (PlanOK.mk (by kernel_rfl) rfl (by kernel_rfl) (by kernel_rfl)) ?_)
      | (refine And.intro rfl (Exists.intro _ (And.intro (by first | assumption | rfl) ?_)))
      | (refine And.intro ⟨rfl, rfl, rfl⟩ ?_)
      | (refine And.intro (by omega) ?_)
      | (refine BB.mk (fun _h => ?_) (fun _h => ?_) <;> (first | (exact absurd _h (by decide)) | (exfalso; simp only [boolSet] at _h <;> omega) | skip)))
    all_goals (try conv => whnf)
    exact ⟨_, _, FrzV.refl _ _, rfl, rfl, fun _ => rfl, rfl⟩
set_option maxRecDepth 100000 in
set_option maxHeartbeats 4000000 in
theorem has_ok (l : List De) (cl : Nat) (x : Int) (hl : l.length ≤ 1099511627776) (hf : FlOk l) (b : Bool) (hb : hasN l x = b) : FnOK Try.prog GG 22 [] [.z 4 (l.map deC) cl, .v (.int .u8 x)] (fun r _ ext => (r = .v (.bool b)) ∧ ext = []) := by
  have hlm : (l.map deC).length = l.length := List.length_map _
  refine FnOK.pure GG_no rfl (fn_intro (C := seat) seat_ok [] GG_no (Try.func22) rfl rfl rfl rfl rfl ?_)
  repeat' ((try conv => whnf); first
    | (with_reducible refine OKv.go (C := seat) seat_ok ?_)
    | (with_reducible refine BB_true ?_)
    | (with_reducible refine BB_false ?_)
    | (with_reducible refine Both.mk ?_ ?_)
    | (with_reducible refine VS.mk ?_)
    | (refine PSem.go (C := seat) seat_ok ?_)
    | (refine And.intro (PlanOK.mk (by kernel_rfl) rfl (by kernel_rfl) (by kernel_rfl)) ?_)
    | (refine And.intro rfl (Exists.intro _ (And.intro (by first | assumption | rfl) ?_)))
    | (refine And.intro ⟨rfl, rfl, rfl⟩ ?_)
    | (refine And.intro (by omega) ?_)
    | (refine BB.mk (fun _h => ?_) (fun _h => ?_) <;> (first | (exact absurd _h (by decide)) | (exfalso; simp only [boolSet] at _h <;> omega) | skip)))
  all_goals (try conv => whnf)
  refine loop_rule (α := Nat) (fun k => k ≤ l.length ∧ ∀ (j : Nat) y, j < k → l[j]? = some y → ¬ (y.node = x)) (fun k => { slots := [(1, .v (.int .u8 x)), (7, .z 4 (l.map deC) cl), (8, .v (.int .i64 (l.map deC).length)), (9, .v (.int .i64 (k : Int)))], nt := 18, mem := ⟨GG, [], []⟩ }) (fun k => l.length - k) 0 ⟨Nat.zero_le _, fun j y h => absurd h (Nat.not_lt_zero _)⟩ ⟨⟨[], (by decide), GG_no, rfl, (SubOld.refl _ rfl), trivial, ⟨.inl rfl, .inl rfl, .inl rfl, .inl rfl, trivial⟩⟩, rfl⟩ ?_ (fun _ => rfl)
  rintro k ⟨hk, hno⟩
  refine vc_sound (C := seat) seat_ok (pl := []) ?_
  by_cases hlt : k < l.length
  · obtain ⟨y, hy⟩ : ∃ y, l[k]? = some y := ⟨_, List.getElem?_eq_getElem hlt⟩
    have hrow := zde_at hy
    have hfy := hf y (List.mem_of_getElem? hy)
    by_cases hx : y.node = x
    · have hb1 : b = true := by rw [← hb]; exact List.any_eq_true.2 ⟨y, List.mem_of_getElem? hy, decide_eq_true hx⟩
      subst hb1
      repeat' ((try conv => whnf); first
        | (with_reducible refine OKv.go (C := seat) seat_ok ?_)
        | (with_reducible refine BB_true ?_)
        | (with_reducible refine BB_false ?_)
        | (with_reducible refine Both.mk ?_ ?_)
        | (with_reducible refine VS.mk ?_)
        | (refine PSem.go (C := seat) seat_ok ?_)
        | (refine And.intro (PlanOK.mk (by kernel_rfl) rfl (by kernel_rfl) (by kernel_rfl)) ?_)
        | (refine And.intro rfl (Exists.intro _ (And.intro (by first | assumption | rfl) ?_)))
        | (refine And.intro ⟨rfl, rfl, rfl⟩ ?_)
        | (refine And.intro ⟨by omega, by simp only [List.length_map]; omega⟩ (Exists.intro _ (And.intro (by first | assumption | rfl) ?_)))
        | (refine fun (caps : Nat → Nat) hcaps => ?_; conv at hcaps => whnf)
        | (refine BB.mk (fun _h => ?_) (fun _h => ?_) <;> (first | (exact absurd _h (by decide)) | (exfalso; simp only [boolSet] at _h <;> omega) | (simp only [boolSet] at _h) | skip))
        | (refine And.intro (by omega) ?_)
        | (refine BB.mk (fun _h => ?_) (fun _h => ?_) <;> (first | (exact absurd _h (by decide)) | (exfalso; simp only [boolSet] at _h <;> omega) | skip)))
      all_goals (try conv => whnf)
      all_goals first
        | exact ⟨_, _, FrzV.refl _ _, rfl, rfl, fun _ => rfl, rfl⟩
        | (exfalso; simp_all)
    · skip
      repeat' ((try conv => whnf); first
        | (with_reducible refine OKv.go (C := seat) seat_ok ?_)
        | (with_reducible refine BB_true ?_)
        | (with_reducible refine BB_false ?_)
        | (with_reducible refine Both.mk ?_ ?_)
        | (with_reducible refine VS.mk ?_)
        | (refine PSem.go (C := seat) seat_ok ?_)
        | (refine And.intro (PlanOK.mk (by kernel_rfl) rfl (by kernel_rfl) (by kernel_rfl)) ?_)
        | (refine And.intro rfl (Exists.intro _ (And.intro (by first | assumption | rfl) ?_)))
        | (refine And.intro ⟨rfl, rfl, rfl⟩ ?_)
        | (refine And.intro ⟨by omega, by simp only [List.length_map]; omega⟩ (Exists.intro _ (And.intro (by first | assumption | rfl) ?_)))
        | (refine fun (caps : Nat → Nat) hcaps => ?_; conv at hcaps => whnf)
        | (refine BB.mk (fun _h => ?_) (fun _h => ?_) <;> (first | (exact absurd _h (by decide)) | (exfalso; simp only [boolSet] at _h <;> omega) | (simp only [boolSet] at _h) | skip))
        | (refine And.intro (by omega) ?_)
        | (refine BB.mk (fun _h => ?_) (fun _h => ?_) <;> (first | (exact absurd _h (by decide)) | (exfalso; simp only [boolSet] at _h <;> omega) | skip)))
      all_goals (try conv => whnf)
      all_goals first
        | exact ⟨k + 1, ⟨by omega, fun j z hj hz => by
            rcases Nat.lt_succ_iff_lt_or_eq.1 hj with h | rfl
            · exact hno j z h hz
            · rw [hy] at hz; cases hz; exact hx⟩, by omega, ⟨⟨[], by decide, GG_no, rfl, SubOld.refl _ rfl, trivial, ⟨.inl rfl, .inl rfl, .inl rfl, .inl (num_eq (by rw [IntKind.wrap_i64]; omega)), trivial⟩⟩, rfl⟩⟩
        | (exfalso; simp_all)
  · obtain rfl : k = l.length := by omega
    have hb1 : b = false := by
      rw [← hb]
      refine Bool.eq_false_iff.2 fun h => ?_
      obtain ⟨z, hz, he⟩ := List.any_eq_true.1 h
      obtain ⟨j, hj⟩ := List.mem_iff_getElem?.1 hz
      exact hno j z (getElem?_lt hj) hj (of_decide_eq_true he)
    subst hb1
    repeat' ((try conv => whnf); first
      | (with_reducible refine OKv.go (C := seat) seat_ok ?_)
      | (with_reducible refine BB_true ?_)
      | (with_reducible refine BB_false ?_)
      | (with_reducible refine Both.mk ?_ ?_)
      | (with_reducible refine VS.mk ?_)
      | (refine PSem.go (C := seat) seat_ok ?_)
      | (refine And.intro (PlanOK.mk (by kernel_rfl) rfl (by kernel_rfl) (by kernel_rfl)) ?_)
      | (refine And.intro rfl (Exists.intro _ (And.intro (by first | assumption | rfl) ?_)))
      | (refine And.intro ⟨rfl, rfl, rfl⟩ ?_)
      | (refine And.intro (by omega) ?_)
      | (refine BB.mk (fun _h => ?_) (fun _h => ?_) <;> (first | (exact absurd _h (by decide)) | (exfalso; simp only [boolSet] at _h <;> omega) | skip)))
    all_goals (try conv => whnf)
    exact ⟨_, _, FrzV.refl _ _, rfl, rfl, fun _ => rfl, rfl⟩
end Go.Proofs.Ytccegmbklgmgnaa
