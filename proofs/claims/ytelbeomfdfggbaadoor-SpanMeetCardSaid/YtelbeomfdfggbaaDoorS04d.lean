/- The statement SpanMeet: by computing. -/
import Derived.Test.YtelbeomfdfggbaaDoorS04c
namespace Go.Proofs.YtelbeomfdfggbaaDoor
open Go.RowKit

theorem meet_ex (p q r s : Int) : FnOK Tryd.prog GG 8 [] [spS p q, spS r s] (fun w _ ext =>
    ((∃ x y : Int, w = .tup [spS x y, .v (.bool true)] ∧ (p ≤ q ∧ p ≤ s ∧ r ≤ q ∧ r ≤ s ∧ p ≤ x ∧ r ≤ x ∧ (x = p ∨ x = r) ∧ y ≤ q ∧ y ≤ s ∧ (y = q ∨ y = s))) ∨
      (w = .tup [spS 0 0, .v (.bool false)] ∧ (q < p ∨ s < p ∨ q < r ∨ s < r))) ∧ ext = []) := by
  refine (meet_ok p q r s).mono ?_
  rintro w bs' ext ⟨rfl, rfl⟩
  refine ⟨?_, rfl⟩
  by_cases h : p ≤ q ∧ p ≤ s ∧ r ≤ q ∧ r ≤ s
  · refine .inl ⟨max p r, min q s, tup_sp ?_ ?_ ?_, ?_⟩
    · unfold mF; rw [if_pos (by omega)]
    · unfold mT; rw [if_pos (by omega)]
    · unfold mO; simp; omega
    · omega
  · refine .inr ⟨tup_sp ?_ ?_ ?_, ?_⟩
    · unfold mF; rw [if_neg (by omega)]
    · unfold mT; rw [if_neg (by omega)]
    · unfold mO; simp; omega
    · omega
theorem has_ex (a b v : Int) : FnOK Tryd.prog GG 10 [] [spS a b, .v (.int .i32 v)] (fun w _ ext =>
    ((w = .v (.bool true) ∧ a ≤ v ∧ v ≤ b) ∨ (w = .v (.bool false) ∧ (v < a ∨ b < v))) ∧ ext = []) := by
  refine (has_ok a b v).mono ?_
  rintro w bs' ext ⟨rfl, rfl⟩
  refine ⟨?_, rfl⟩
  by_cases h : a ≤ v ∧ v ≤ b
  · exact .inl ⟨by simp [hasT, h], h⟩
  · exact .inr ⟨by simp [hasT]; omega, by omega⟩
theorem shared_ex (a b c d v : Int) : FnOK Tryd.prog GG 19 [.ro 2 [[.int .i32 a, .int .i32 b]], .ro 2 [[.int .i32 c, .int .i32 d]]] [.v (.int .i32 v), .p (.o 0) 0 0 0, .p (.o 1) 0 0 0] (fun w _ ext =>
    ((w = .v (.bool true) ∧ a ≤ v ∧ v ≤ b ∧ c ≤ v ∧ v ≤ d) ∨ (w = .v (.bool false) ∧ (v < a ∨ b < v ∨ v < c ∨ d < v))) ∧ ext = []) := by
  refine (shared_ok a b c d v).mono ?_
  rintro w bs' ext ⟨rfl, rfl⟩
  refine ⟨?_, rfl⟩
  by_cases h : a ≤ v ∧ v ≤ b ∧ c ≤ v ∧ v ≤ d
  · exact .inl ⟨by simp [hasT, h], h⟩
  · exact .inr ⟨by simp [hasT]; omega, by omega⟩

set_option maxRecDepth 100000 in
set_option maxHeartbeats 4000000 in
theorem spanMeet_ok (a b c d e f v : Int) : FnOK Tryd.prog GG 4 [] [spS a b, spS c d, spS e f, .v (.int .i32 v)] (fun r _ ext => r = .v (.bool true) ∧ ext = []) := by
  refine fn_val (C := seat) seat_ok [(3, [(0, .take), (1, .take), (2, .take), (3, .take), (4, .take), (5, .take), (6, .take), (7, .take), (8, .take), (9, .take), (10, .take), (11, .take), (12, .take), (15, .take), (16, .take), (13, .do_), (14, .take), (17, .do_), (18, .take), (19, .take), (20, .take), (21, .do_), (22, .take), (23, .take), (24, .take), (25, .take), (26, .take), (27, .take), (28, .take), (29, .take), (30, .take), (31, .take), (32, .take), (33, .take)])] GG_no (Tryd.func4) rfl rfl rfl rfl rfl (fun _ => rfl) rfl ?_
  repeat' ((try conv => whnf); first
    | (with_reducible refine BB_true ?_)
    | (with_reducible refine BB_false ?_)
    | (refine And.intro (PlanOK.mk (by kernel_rfl) rfl (by kernel_rfl) (by kernel_rfl)) ?_)
    | (refine And.intro rfl (Exists.intro _ (And.intro (by first | assumption | rfl) ?_)))
    | (refine call_ro [] (meet_ex _ _ _ _) GG_no rfl rfl rfl trivial ?_; rintro r bs' ext ⟨(⟨x, y, rfl, hm⟩ | ⟨rfl, hm⟩), rfl⟩ <;> (try (exfalso; omega)))
    | (refine call_ro [] (has_ex _ _ _) GG_no rfl rfl rfl trivial ?_; rintro r bs' ext ⟨(⟨rfl, hm⟩ | ⟨rfl, hm⟩), rfl⟩ <;> (try (exfalso; omega)))
    | (refine call_ro [_, _] (shared_ex _ _ _ _ _) GG_no rfl rfl rfl ⟨⟨_, rfl, _, rfl, rfl, rfl, rfl⟩, ⟨_, rfl, _, rfl, rfl, rfl, rfl⟩, trivial⟩ ?_; rintro r bs' ext ⟨(⟨rfl, hm⟩ | ⟨rfl, hm⟩), rfl⟩ <;> (try (exfalso; omega)))
    | (refine call_ro [] (awake_ok) GG_no rfl rfl rfl trivial ?_; rintro r bs' ext ⟨rfl, rfl⟩)
    | (refine And.intro (by omega) ?_)
    | (refine BB.mk (fun _h => ?_) (fun _h => ?_) <;> (first | (exact absurd _h (by decide)) | (exfalso; simp only [eqInts, Bool.and_true, Bool.and_eq_true, Bool.and_eq_false_iff, Bool.or_eq_true, Bool.or_eq_false_iff, Bool.not_eq_eq_eq_not, Bool.not_true, Bool.not_false, beq_iff_eq, bne_iff_ne, ne_eq, beq_eq_false_iff_ne, bne_eq_false_iff_eq, decide_eq_true_eq, decide_eq_false_iff_not, gt_iff_lt, ge_iff_le, Int.not_lt, Int.not_le] at _h; omega) | skip)))
  all_goals (try conv => whnf)
  all_goals (try (refine Fin.mk ?_))
  all_goals (first
  | exact ⟨rfl, rfl⟩
  | (exfalso
     simp only [hasT, IntKind.wrap_i32, IntKind.wrap_i64, IntKind.wrap_u8, IntKind.wrap_u16, IntKind.wrap_u32, IntKind.wrap_u64, eqInts, Bool.and_true, Bool.and_eq_true, Bool.and_eq_false_iff, Bool.or_eq_true, Bool.or_eq_false_iff, Bool.not_eq_eq_eq_not, Bool.not_true, Bool.not_false, beq_iff_eq, bne_iff_ne, ne_eq, beq_eq_false_iff_ne, bne_eq_false_iff_eq, decide_eq_true_eq, decide_eq_false_iff_not, gt_iff_lt, ge_iff_le, Int.not_lt, Int.not_le, Decidable.not_not, cond_true, cond_false] at *
     omega))
end Go.Proofs.YtelbeomfdfggbaaDoor
