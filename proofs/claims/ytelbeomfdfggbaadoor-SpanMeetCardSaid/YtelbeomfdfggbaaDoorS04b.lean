/- Package span, by computing: the rest. -/
import Derived.Test.YtelbeomfdfggbaaDoorS04
namespace Go.Proofs.YtelbeomfdfggbaaDoor
open Go.RowKit
def mF (a b c d : Int) : Int := if max a c ≤ min b d then max a c else 0
def mT (a b c d : Int) : Int := if max a c ≤ min b d then min b d else 0
def mO (a b c d : Int) : Bool := decide (max a c ≤ min b d)
theorem tup_sp {a b c d : Int} {x y : Bool} (h1 : a = c) (h2 : b = d) (h3 : x = y) : SV.tup [spS a b, .v (.bool x)] = .tup [spS c d, .v (.bool y)] := by rw [h1, h2, h3]
set_option maxRecDepth 100000 in
set_option maxHeartbeats 4000000 in
theorem meet_ok (a b c d : Int) : FnOK Tryd.prog GG 8 [] [spS a b, spS c d] (fun r _ ext => r = .tup [spS (mF a b c d) (mT a b c d), .v (.bool (mO a b c d))] ∧ ext = []) := by
  by_cases h : min b d < max a c
  all_goals (try (replace h : max a c ≤ min b d := Int.not_lt.1 h))
  all_goals
    refine fn_val (C := seat) seat_ok [] GG_no (Tryd.func8) rfl rfl rfl rfl rfl (fun _ => rfl) rfl ?_
    repeat' ((try conv => whnf); first
      | (with_reducible refine BB_true ?_)
      | (with_reducible refine BB_false ?_)
      | (refine And.intro (PlanOK.mk (by kernel_rfl) rfl (by kernel_rfl) (by kernel_rfl)) ?_)
      | (refine And.intro rfl (Exists.intro _ (And.intro (by first | assumption | rfl) ?_)))
      | (refine call_ro [] (plain_yes _ _ (by simp only [cond_true, cond_false]; omega)) GG_no rfl rfl rfl trivial ?_; rintro r bs' ext ⟨rfl, rfl⟩)
      | (refine call_ro [] (plain_no _ _ (by simp only [cond_true, cond_false]; omega)) GG_no rfl rfl rfl trivial ?_; rintro r bs' ext ⟨rfl, rfl⟩)
      | (refine And.intro (by omega) ?_)
      | (refine BB.mk (fun _h => ?_) (fun _h => ?_) <;> (first | (exact absurd _h (by decide)) | (exfalso; simp only [eqInts, Bool.and_true, Bool.and_eq_true, Bool.and_eq_false_iff, Bool.or_eq_true, Bool.or_eq_false_iff, Bool.not_eq_eq_eq_not, Bool.not_true, Bool.not_false, beq_iff_eq, bne_iff_ne, ne_eq, beq_eq_false_iff_ne, bne_eq_false_iff_eq, decide_eq_true_eq, decide_eq_false_iff_not, gt_iff_lt, ge_iff_le, Int.not_lt, Int.not_le] at _h; omega) | skip)))
    all_goals (try conv => whnf)
    all_goals (try (refine Fin.mk ?_))
  all_goals (first
  | (refine And.intro (tup_sp ?_ ?_ ?_) rfl <;> simp [mF, mT, mO] <;> omega)
  | (exfalso; simp_all [eqInts]; omega))
set_option maxRecDepth 100000 in
set_option maxHeartbeats 4000000 in
theorem sp_ok (a b : Int) : FnOK Tryd.prog GG 20 [] [.v (.int .i32 a), .v (.int .i32 b)] (fun r _ ext => r = spS a b ∧ ext = []) := by
  refine fn_val (C := seat) seat_ok [] GG_no (Tryd.func20) rfl rfl rfl rfl rfl (fun _ => rfl) rfl ?_
  repeat' ((try conv => whnf); first
    | (with_reducible refine BB_true ?_)
    | (with_reducible refine BB_false ?_)
    | (refine And.intro (PlanOK.mk (by kernel_rfl) rfl (by kernel_rfl) (by kernel_rfl)) ?_)
    | (refine And.intro rfl (Exists.intro _ (And.intro (by first | assumption | rfl) ?_)))
    | (refine And.intro (by omega) ?_)
    | (refine BB.mk (fun _h => ?_) (fun _h => ?_) <;> (first | (exact absurd _h (by decide)) | (exfalso; simp only [eqInts, Bool.and_true, Bool.and_eq_true, Bool.and_eq_false_iff, Bool.or_eq_true, Bool.or_eq_false_iff, Bool.not_eq_eq_eq_not, Bool.not_true, Bool.not_false, beq_iff_eq, bne_iff_ne, ne_eq, beq_eq_false_iff_ne, bne_eq_false_iff_eq, decide_eq_true_eq, decide_eq_false_iff_not, gt_iff_lt, ge_iff_le, Int.not_lt, Int.not_le] at _h; omega) | skip)))
  all_goals (try conv => whnf)
  all_goals (try (refine Fin.mk ?_))
  all_goals (exact ⟨rfl, rfl⟩)
end Go.Proofs.YtelbeomfdfggbaaDoor
