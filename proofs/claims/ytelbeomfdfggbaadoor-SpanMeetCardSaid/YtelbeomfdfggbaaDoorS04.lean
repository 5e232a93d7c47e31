/- Package span, by computing. -/
import Derived.Test.YtelbeomfdfggbaaDoorTy04
namespace Go.Proofs.YtelbeomfdfggbaaDoor
open Go.RowKit

def GG : List (Nat × SB) := [(0, .ro 2 [[.int .i32 1, .int .i32 0]])]
theorem GG_no : noOwn GG := by
  intro x b h
  have := assoc_mem h
  simp [GG] at this
  rw [this.2]
  exact fun h => h
abbrev spS (a b : Int) : SV := .agg [.v (.int .i32 a), .v (.int .i32 b)]
theorem spS_eq {a b c d : Int} (h1 : a = c) (h2 : b = d) : spS a b = spS c d := by rw [h1, h2]
def hasT (a b v : Int) : Bool := decide (a ≤ v) && decide (v ≤ b)
set_option maxRecDepth 100000 in
set_option maxHeartbeats 4000000 in
theorem has_ok (a b v : Int) : FnOK Tryd.prog GG 10 [] [spS a b, .v (.int .i32 v)] (fun r _ ext => r = .v (.bool (hasT a b v)) ∧ ext = []) := by
  refine fn_val (C := seat) seat_ok [] GG_no (Tryd.func10) rfl rfl rfl rfl rfl (fun _ => rfl) rfl ?_
  repeat' ((try conv => whnf); first
    | (with_reducible refine BB_true ?_)
    | (with_reducible refine BB_false ?_)
    | (refine And.intro (PlanOK.mk (by kernel_rfl) rfl (by kernel_rfl) (by kernel_rfl)) ?_)
    | (refine And.intro rfl (Exists.intro _ (And.intro (by first | assumption | rfl) ?_)))
    | (refine And.intro (by omega) ?_)
    | (refine BB.mk (fun _h => ?_) (fun _h => ?_) <;> (first | (exact absurd _h (by decide)) | (exfalso; simp only [eqInts, Bool.and_true, Bool.and_eq_true, Bool.and_eq_false_iff, Bool.or_eq_true, Bool.or_eq_false_iff, Bool.not_eq_eq_eq_not, Bool.not_true, Bool.not_false, beq_iff_eq, bne_iff_ne, ne_eq, beq_eq_false_iff_ne, bne_eq_false_iff_eq, decide_eq_true_eq, decide_eq_false_iff_not, gt_iff_lt, ge_iff_le, Int.not_lt, Int.not_le] at _h; omega) | skip)))
  all_goals (try conv => whnf)
  all_goals (try (refine Fin.mk ?_))
  all_goals (first
    | exact ⟨rfl, rfl⟩
    | (refine And.intro (congrArg SV.v (congrArg Value.bool ?_)) rfl; first | (simp_all [eqInts, hasT]; done) | (simp_all [eqInts, hasT]; omega))
    | (refine And.intro (congrArg SV.v (congrArg (Value.int _) ?_)) rfl; first | (simp_all [eqInts, IntKind.wrap_i32, IntKind.wrap_i64, IntKind.wrap_u8, IntKind.wrap_u16, IntKind.wrap_u32, IntKind.wrap_u64, hasT]; done) | (simp_all [eqInts, IntKind.wrap_i32, IntKind.wrap_i64, IntKind.wrap_u8, IntKind.wrap_u16, IntKind.wrap_u32, IntKind.wrap_u64, hasT]; omega))
    | (exfalso; simp_all [eqInts]; omega))
set_option maxRecDepth 100000 in
set_option maxHeartbeats 4000000 in
theorem plain_no (a b : Int) (h : b < a) : FnOK Tryd.prog GG 21 [] [spS a b] (fun r _ ext => r = spS 1 0 ∧ ext = []) := by
  refine fn_val (C := seat) seat_ok [] GG_no (Tryd.func21) rfl rfl rfl rfl rfl (fun _ => rfl) rfl ?_
  repeat' ((try conv => whnf); first
    | (with_reducible refine BB_true ?_)
    | (with_reducible refine BB_false ?_)
    | (refine And.intro (PlanOK.mk (by kernel_rfl) rfl (by kernel_rfl) (by kernel_rfl)) ?_)
    | (refine And.intro rfl (Exists.intro _ (And.intro (by first | assumption | rfl) ?_)))
    | (refine And.intro (by omega) ?_)
    | (refine BB.mk (fun _h => ?_) (fun _h => ?_) <;> (first | (exact absurd _h (by decide)) | (exfalso; simp only [eqInts, Bool.and_true, Bool.and_eq_true, Bool.and_eq_false_iff, Bool.or_eq_true, Bool.or_eq_false_iff, Bool.not_eq_eq_eq_not, Bool.not_true, Bool.not_false, beq_iff_eq, bne_iff_ne, ne_eq, beq_eq_false_iff_ne, bne_eq_false_iff_eq, decide_eq_true_eq, decide_eq_false_iff_not, gt_iff_lt, ge_iff_le, Int.not_lt, Int.not_le] at _h; omega) | skip)))
  all_goals (try conv => whnf)
  all_goals (try (refine Fin.mk ?_))
  all_goals exact ⟨rfl, rfl⟩
set_option maxRecDepth 100000 in
set_option maxHeartbeats 4000000 in
theorem plain_yes (a b : Int) (h : a ≤ b) : FnOK Tryd.prog GG 21 [] [spS a b] (fun r _ ext => r = spS a b ∧ ext = []) := by
  refine fn_val (C := seat) seat_ok [] GG_no (Tryd.func21) rfl rfl rfl rfl rfl (fun _ => rfl) rfl ?_
  repeat' ((try conv => whnf); first
    | (with_reducible refine BB_true ?_)
    | (with_reducible refine BB_false ?_)
    | (refine And.intro (PlanOK.mk (by kernel_rfl) rfl (by kernel_rfl) (by kernel_rfl)) ?_)
    | (refine And.intro rfl (Exists.intro _ (And.intro (by first | assumption | rfl) ?_)))
    | (refine And.intro (by omega) ?_)
    | (refine BB.mk (fun _h => ?_) (fun _h => ?_) <;> (first | (exact absurd _h (by decide)) | (exfalso; simp only [eqInts, Bool.and_true, Bool.and_eq_true, Bool.and_eq_false_iff, Bool.or_eq_true, Bool.or_eq_false_iff, Bool.not_eq_eq_eq_not, Bool.not_true, Bool.not_false, beq_iff_eq, bne_iff_ne, ne_eq, beq_eq_false_iff_ne, bne_eq_false_iff_eq, decide_eq_true_eq, decide_eq_false_iff_not, gt_iff_lt, ge_iff_le, Int.not_lt, Int.not_le] at _h; omega) | skip)))
  all_goals (try conv => whnf)
  all_goals (try (refine Fin.mk ?_))
  all_goals exact ⟨rfl, rfl⟩
def lenT (a b : Int) : Int := if b < a then 0 else min (b - a + 1) 4294967295
set_option maxRecDepth 100000 in
set_option maxHeartbeats 4000000 in
theorem len_ok (a b : Int) (ha : -2147483648 ≤ a) (ha' : a ≤ 2147483647) (hb : -2147483648 ≤ b) (hb' : b ≤ 2147483647) : FnOK Tryd.prog GG 12 [] [spS a b] (fun r _ ext => r = .v (.int .u32 (lenT a b)) ∧ ext = []) := by
  by_cases h : b < a
  all_goals (try (replace h : a ≤ b := Int.not_lt.1 h))
  all_goals
    refine fn_val (C := seat) seat_ok [(1, [(0, .take), (2, .take), (1, .do_), (3, .take)])] GG_no (Tryd.func12) rfl rfl rfl rfl rfl (fun _ => rfl) rfl ?_
    repeat' ((try conv => whnf); first
      | (with_reducible refine BB_true ?_)
      | (with_reducible refine BB_false ?_)
      | (refine And.intro (PlanOK.mk (by kernel_rfl) rfl (by kernel_rfl) (by kernel_rfl)) ?_)
      | (refine And.intro rfl (Exists.intro _ (And.intro (by first | assumption | rfl) ?_)))
      | (refine call_ro [] (plain_yes _ _ (by assumption)) GG_no rfl rfl rfl trivial ?_; rintro r bs' ext ⟨rfl, rfl⟩)
      | (refine call_ro [] (plain_no _ _ (by assumption)) GG_no rfl rfl rfl trivial ?_; rintro r bs' ext ⟨rfl, rfl⟩)
      | (refine And.intro (by omega) ?_)
      | (refine BB.mk (fun _h => ?_) (fun _h => ?_) <;> (first | (exact absurd _h (by decide)) | (exfalso; simp only [eqInts, Bool.and_true, Bool.and_eq_true, Bool.and_eq_false_iff, Bool.or_eq_true, Bool.or_eq_false_iff, Bool.not_eq_eq_eq_not, Bool.not_true, Bool.not_false, beq_iff_eq, bne_iff_ne, ne_eq, beq_eq_false_iff_ne, bne_eq_false_iff_eq, decide_eq_true_eq, decide_eq_false_iff_not, gt_iff_lt, ge_iff_le, Int.not_lt, Int.not_le] at _h; omega) | skip)))
    all_goals (try conv => whnf)
    all_goals (try (refine Fin.mk ?_))
  all_goals (first
    | exact ⟨rfl, rfl⟩
    | (refine And.intro (congrArg SV.v (congrArg Value.bool ?_)) rfl; first | (simp_all [eqInts, lenT]; done) | (simp_all [eqInts, lenT]; omega))
    | (refine And.intro (congrArg SV.v (congrArg (Value.int _) ?_)) rfl; first | (simp_all [eqInts, IntKind.wrap_i32, IntKind.wrap_i64, IntKind.wrap_u8, IntKind.wrap_u16, IntKind.wrap_u32, IntKind.wrap_u64, lenT]; done) | (simp_all [eqInts, IntKind.wrap_i32, IntKind.wrap_i64, IntKind.wrap_u8, IntKind.wrap_u16, IntKind.wrap_u32, IntKind.wrap_u64, lenT]; omega))
    | (exfalso; simp_all [eqInts]; omega))
end Go.Proofs.YtelbeomfdfggbaaDoor
