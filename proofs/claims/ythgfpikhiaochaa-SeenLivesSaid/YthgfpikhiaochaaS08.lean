/- Package seen, by computing: what is seen. -/
import Derived.Test.YthgfpikhiaochaaE08
namespace Go.Proofs.Ythgfpikhiaochaa
open Go.RowKit

set_option maxRecDepth 100000 in
set_option maxHeartbeats 4000000 in
theorem sees_ok (I P B n : Nat) (hP : P ≤ 4294967295) (hB : B < 2 ^ 64) (hn : n ≤ 4294967295) : FnOK Try.prog GG 27 [] [.agg [.v (.int .u16 I), .v (.int .u32 P), .v (.int .u64 B)], .v (.int .u32 n)] (fun r _ ext => r = .v (.bool (sees P B n)) ∧ ext = []) := by
  by_cases hnP : n ≤ P
  · refine fn_val (C := seat) seat_ok [] GG_no (Try.func27) rfl rfl rfl rfl rfl (fun _ => rfl) rfl ?_
    repeat' ((try conv => whnf); first
      | (with_reducible refine BB_true ?_)
      | (with_reducible refine BB_false ?_)
      | (with_reducible refine Both.mk ?_ ?_)
      | (with_reducible refine VS.mk ?_)
      | (refine PSem.go (C := seat) seat_ok ?_)
      | (refine And.intro (PlanOK.mk (by kernel_rfl) rfl (by kernel_rfl) (by kernel_rfl)) ?_)
      | (refine And.intro rfl (Exists.intro _ (And.intro (by first | assumption | rfl) ?_)))
      | (refine And.intro ⟨rfl, rfl, rfl⟩ ?_)
      | (refine And.intro (by omega) ?_)
      | (refine BB.mk (fun _h => ?_) (fun _h => ?_) <;> (first | (exact absurd _h (by decide)) | (exfalso; simp only [boolSet] at _h <;> omega) | skip)))
    all_goals (try conv => whnf)
    exact Fin.mk ⟨bool_eq (by simp [sees, hnP]), rfl⟩
  · have e1 := far_sub (n := n) (P := P) (by omega) hn
    refine fn_val (C := seat) seat_ok [] GG_no (Try.func27) rfl rfl rfl rfl rfl (fun _ => rfl) rfl ?_
    repeat' ((try conv => whnf); first
      | (with_reducible refine BB_true ?_)
      | (with_reducible refine BB_false ?_)
      | (with_reducible refine Both.mk ?_ ?_)
      | (with_reducible refine VS.mk ?_)
      | (refine PSem.go (C := seat) seat_ok ?_)
      | (refine And.intro (PlanOK.mk (by kernel_rfl) rfl (by kernel_rfl) (by kernel_rfl)) ?_)
      | (refine And.intro rfl (Exists.intro _ (And.intro (by first | assumption | rfl) ?_)))
      | (refine And.intro ⟨rfl, rfl, rfl⟩ ?_)
      | (refine And.intro (by omega) ?_)
      | (refine BB.mk (fun _h => ?_) (fun _h => ?_) <;> (first | (exact absurd _h (by decide)) | (exfalso; simp only [boolSet] at _h <;> omega) | skip)))
    all_goals (try conv => whnf)
    all_goals
      refine Fin.mk ⟨bool_eq ?_, rfl⟩
      rw [and1, e1, Int.toNat_natCast, show IntKind.u64.bits = 64 from rfl, fdiv_pow, bit_of, far_bits hB]
      simp [sees, hnP, show 0 < n by omega]
set_option maxRecDepth 100000 in
set_option maxHeartbeats 4000000 in
theorem asked_ok (I P B : Nat) : FnOK Try.prog GG 25 [] [.agg [.v (.int .u16 I), .v (.int .u32 P), .v (.int .u64 B)]] (fun r _ ext => r = .bm 27 [.agg [.v (.int .u16 I), .v (.int .u32 P), .v (.int .u64 B)]] ∧ ext = []) := by
  refine fn_val (C := seat) seat_ok [] GG_no (Try.func25) rfl rfl rfl rfl rfl (fun _ => rfl) rfl ?_
  repeat' ((try conv => whnf); first
    | (with_reducible refine BB_true ?_)
    | (with_reducible refine BB_false ?_)
    | (with_reducible refine Both.mk ?_ ?_)
    | (with_reducible refine VS.mk ?_)
    | (refine PSem.go (C := seat) seat_ok ?_)
    | (refine And.intro (PlanOK.mk (by kernel_rfl) rfl (by kernel_rfl) (by kernel_rfl)) ?_)
    | (refine And.intro rfl (Exists.intro _ (And.intro (by first | assumption | rfl) ?_)))
    | (refine And.intro ⟨rfl, rfl, rfl⟩ ?_)
    | (refine And.intro (by omega) ?_)
    | (refine BB.mk (fun _h => ?_) (fun _h => ?_) <;> (first | (exact absurd _h (by decide)) | (exfalso; simp only [boolSet] at _h <;> omega) | skip)))
  all_goals (try conv => whnf)
  all_goals (try (refine Fin.mk ?_))
  all_goals (exact ⟨rfl, rfl⟩)
def hasB (I P B J n : Nat) : Bool := decide (0 < I) && decide (J = I) && sees P B n
set_option maxRecDepth 100000 in
set_option maxHeartbeats 4000000 in
theorem has_ok (I P B : Nat) (d : Int) (J n : Nat) (hP : P ≤ 4294967295) (hB : B < 2 ^ 64) (hn : n ≤ 4294967295) : FnOK Try.prog GG 15 [] [.agg [.v (.int .u16 I), .v (.int .u32 P), .v (.int .u64 B)], .agg [.v (.int .u8 d), .v (.int .u16 J), .v (.int .u32 n)]] (fun r _ ext => r = .v (.bool (hasB I P B J n)) ∧ ext = []) := by
  refine fn_val (C := seat) seat_ok [(1, (.of [(0, .take), (1, .take), (2, .take), (3, .take), (4, .take), (5, .take), (6, .take), (7, .take), (8, .take), (9, .take), (10, .take), (11, .take), (13, .take), (14, .take), (12, .do_), (15, .do_), (16, .take), (17, .take)]))] GG_no (Try.func15) rfl rfl rfl rfl rfl (fun _ => rfl) rfl ?_
  repeat' ((try conv => whnf); first
    | (with_reducible refine BB_true ?_)
    | (with_reducible refine BB_false ?_)
    | (with_reducible refine Both.mk ?_ ?_)
    | (with_reducible refine VS.mk ?_)
    | (refine PSem.go (C := seat) seat_ok ?_)
    | (refine And.intro (PlanOK.mk (by kernel_rfl) rfl (by kernel_rfl) (by kernel_rfl)) ?_)
    | (refine And.intro rfl (Exists.intro _ (And.intro (by first | assumption | rfl) ?_)))
    | (refine And.intro ⟨rfl, rfl, rfl⟩ ?_)
    | (refine call_ro [] (asked_ok I P B) GG_no rfl rfl rfl trivial ?_; rintro r bs' ext ⟨rfl, rfl⟩)
    | (refine call_ro [] (sees_ok I P B n hP hB hn) GG_no rfl rfl rfl trivial ?_; rintro r bs' ext ⟨rfl, rfl⟩)
    | (refine And.intro (by omega) ?_)
    | (refine BB.mk (fun _h => ?_) (fun _h => ?_) <;> (first | (exact absurd _h (by decide)) | (exfalso; simp only [boolSet] at _h <;> omega) | skip)))
  all_goals (try conv => whnf)
  all_goals (try (refine Fin.mk ?_))
  all_goals (first
  | exact ⟨rfl, rfl⟩
  | (refine ⟨bool_eq ?_, rfl⟩; grind [hasB])
  | (exfalso; grind))
set_option maxRecDepth 100000 in
set_option maxHeartbeats 4000000 in
theorem allowed_ok (w : Int) : FnOK Try.prog GG 21 [] [.v (.int .i64 w)] (fun r _ ext => r = .v (.bool (winB w)) ∧ ext = []) := by
  refine fn_val (C := seat) seat_ok [] GG_no (Try.func21) rfl rfl rfl rfl rfl (fun _ => rfl) rfl ?_
  repeat' ((try conv => whnf); first
    | (with_reducible refine BB_true ?_)
    | (with_reducible refine BB_false ?_)
    | (with_reducible refine Both.mk ?_ ?_)
    | (with_reducible refine VS.mk ?_)
    | (refine PSem.go (C := seat) seat_ok ?_)
    | (refine And.intro (PlanOK.mk (by kernel_rfl) rfl (by kernel_rfl) (by kernel_rfl)) ?_)
    | (refine And.intro rfl (Exists.intro _ (And.intro (by first | assumption | rfl) ?_)))
    | (refine And.intro ⟨rfl, rfl, rfl⟩ ?_)
    | (refine And.intro (by omega) ?_)
    | (refine BB.mk (fun _h => ?_) (fun _h => ?_) <;> (first | (exact absurd _h (by decide)) | (exfalso; simp only [boolSet] at _h <;> omega) | skip)))
  all_goals (try conv => whnf)
  all_goals (try (refine Fin.mk ?_))
  all_goals (first
  | exact ⟨rfl, rfl⟩
  | (refine ⟨bool_eq ?_, rfl⟩; grind [winB])
  | (exfalso; grind))
def fromI (I J : Nat) : Nat := if I < J then J else I
set_option maxRecDepth 100000 in
set_option maxHeartbeats 4000000 in
theorem begun_ok (I P B J : Nat) : FnOK Try.prog GG 23 [] [.agg [.v (.int .u16 I), .v (.int .u32 P), .v (.int .u64 B)], .v (.int .u16 J)] (fun r _ ext => r = .agg [.v (.int .u16 (fromI I J)), .v (.int .u32 (fromP I J P)), .v (.int .u64 (fromP I J B))] ∧ ext = []) := by
  refine fn_val (C := seat) seat_ok [] GG_no (Try.func23) rfl rfl rfl rfl rfl (fun _ => rfl) rfl ?_
  repeat' ((try conv => whnf); first
    | (with_reducible refine BB_true ?_)
    | (with_reducible refine BB_false ?_)
    | (with_reducible refine Both.mk ?_ ?_)
    | (with_reducible refine VS.mk ?_)
    | (refine PSem.go (C := seat) seat_ok ?_)
    | (refine And.intro (PlanOK.mk (by kernel_rfl) rfl (by kernel_rfl) (by kernel_rfl)) ?_)
    | (refine And.intro rfl (Exists.intro _ (And.intro (by first | assumption | rfl) ?_)))
    | (refine And.intro ⟨rfl, rfl, rfl⟩ ?_)
    | (refine And.intro (by omega) ?_)
    | (refine BB.mk (fun _h => ?_) (fun _h => ?_) <;> (first | (exact absurd _h (by decide)) | (exfalso; simp only [boolSet] at _h <;> omega) | skip)))
  all_goals (try conv => whnf)
  all_goals (try (refine Fin.mk ?_))
  all_goals
    refine ⟨?_, rfl⟩
    simp only [boolSet] at *
    by_cases hIJ : I < J
    · first
      | (exfalso; omega)
      | simp [fromI, fromP, hIJ]
    · first
      | (exfalso; omega)
      | simp [fromI, fromP, hIJ]
theorem may_num {w : Int} {I J P n : Nat} (hw : -9223372036854775808 ≤ w ∧ w ≤ 9223372036854775807) (hP : P ≤ 4294967295) (hn : n ≤ 4294967295) (h : winB w = true) :
    decide (IntKind.u64.wrap (n : Int) ≤ IntKind.u64.wrap (IntKind.u64.wrap (fromP I J P : Int) + IntKind.u64.wrap w)) = decide ((n : Int) ≤ fromP I J P + w) := by
  have hf : fromP I J P ≤ 4294967295 := by unfold fromP; split <;> omega
  have h1 : 1 ≤ w ∧ w ≤ 64 := by simpa [winB] using h
  rw [IntKind.wrap_u64, IntKind.wrap_u64, IntKind.wrap_u64, IntKind.wrap_u64]
  congr 1
  rw [eq_iff_iff]
  omega
theorem fromP_le {I J P m : Nat} (h : P ≤ m) : fromP I J P ≤ m := by unfold fromP; split <;> omega
theorem fromP_lt {I J B m : Nat} (h : B < m) : fromP I J B < m := by unfold fromP; split <;> omega
theorem sees_from {I P B J n : Nat} : sees (fromP I J P) (fromP I J B) n = (decide (I ≥ J) && sees P B n) := by
  by_cases h : I < J
  · simp [fromP, h, sees, show ¬ I ≥ J by omega]
    omega
  · simp [fromP, h, show I ≥ J by omega]
set_option maxRecDepth 100000 in
set_option maxHeartbeats 4000000 in
theorem may_ok (w : Int) (I P B : Nat) (d : Int) (J n : Nat) (hw : -9223372036854775808 ≤ w ∧ w ≤ 9223372036854775807) (hP : P ≤ 4294967295) (hB : B < 2 ^ 64) (hn : n ≤ 4294967295) : FnOK Try.prog GG 17 [] [.agg [.v (.int .u16 I), .v (.int .u32 P), .v (.int .u64 B)], .agg [.v (.int .u8 d), .v (.int .u16 J), .v (.int .u32 n)], .v (.int .i64 w)] (fun r _ ext => r = .v (.bool (mayB w I P B J n)) ∧ ext = []) := by
  refine fn_val (C := seat) seat_ok [(4, (.of [(0, .take), (2, .take), (3, .take), (1, .do_), (4, .do_), (5, .take), (6, .take), (7, .take), (8, .take), (9, .take), (10, .take), (11, .take), (12, .take), (13, .take), (14, .take), (15, .take), (16, .take), (17, .take), (18, .take)]))] GG_no (Try.func17) rfl rfl rfl rfl rfl (fun _ => rfl) rfl ?_
  repeat' ((try conv => whnf); first
    | (with_reducible refine BB_true ?_)
    | (with_reducible refine BB_false ?_)
    | (with_reducible refine Both.mk ?_ ?_)
    | (with_reducible refine VS.mk ?_)
    | (refine PSem.go (C := seat) seat_ok ?_)
    | (refine And.intro (PlanOK.mk (by kernel_rfl) rfl (by kernel_rfl) (by kernel_rfl)) ?_)
    | (refine And.intro rfl (Exists.intro _ (And.intro (by first | assumption | rfl) ?_)))
    | (refine And.intro ⟨rfl, rfl, rfl⟩ ?_)
    | (refine call_ro [] (allowed_ok w) GG_no rfl rfl rfl trivial ?_; rintro r bs' ext ⟨rfl, rfl⟩)
    | (refine call_ro [] (begun_ok I P B J) GG_no rfl rfl rfl trivial ?_; rintro r bs' ext ⟨rfl, rfl⟩)
    | (refine call_ro [] (asked_ok (fromI I J) (fromP I J P) (fromP I J B)) GG_no rfl rfl rfl trivial ?_; rintro r bs' ext ⟨rfl, rfl⟩)
    | (refine call_ro [] (sees_ok (fromI I J) (fromP I J P) (fromP I J B) n (fromP_le hP) (fromP_lt hB) hn) GG_no rfl rfl rfl trivial ?_; rintro r bs' ext ⟨rfl, rfl⟩)
    | (refine And.intro (by omega) ?_)
    | (refine BB.mk (fun _h => ?_) (fun _h => ?_) <;> (first | (exact absurd _h (by decide)) | (exfalso; simp only [boolSet] at _h <;> omega) | skip)))
  all_goals (try conv => whnf)
  all_goals (try (refine Fin.mk ?_))
  all_goals
    refine ⟨bool_eq ?_, rfl⟩
    try rw [may_num hw hP hn (by grind)]
    grind [mayB, fromP, sees_from]
set_option maxRecDepth 100000 in
set_option maxHeartbeats 4000000 in
theorem mark_ok (d I P B : Nat) : FnOK Try.prog GG 10 [] [.v (.int .u8 d), .agg [.v (.int .u16 I), .v (.int .u32 P), .v (.int .u64 B)]] (fun r _ ext => r = .agg [.v (.int .u8 d), .v (.int .u16 I), .v (.int .u32 P)] ∧ ext = []) := by
  refine fn_val (C := seat) seat_ok [] GG_no (Try.func10) rfl rfl rfl rfl rfl (fun _ => rfl) rfl ?_
  repeat' ((try conv => whnf); first
    | (with_reducible refine BB_true ?_)
    | (with_reducible refine BB_false ?_)
    | (with_reducible refine Both.mk ?_ ?_)
    | (with_reducible refine VS.mk ?_)
    | (refine PSem.go (C := seat) seat_ok ?_)
    | (refine And.intro (PlanOK.mk (by kernel_rfl) rfl (by kernel_rfl) (by kernel_rfl)) ?_)
    | (refine And.intro rfl (Exists.intro _ (And.intro (by first | assumption | rfl) ?_)))
    | (refine And.intro ⟨rfl, rfl, rfl⟩ ?_)
    | (refine And.intro (by omega) ?_)
    | (refine BB.mk (fun _h => ?_) (fun _h => ?_) <;> (first | (exact absurd _h (by decide)) | (exfalso; simp only [boolSet] at _h <;> omega) | skip)))
  all_goals (try conv => whnf)
  all_goals (try (refine Fin.mk ?_))
  all_goals (exact ⟨rfl, rfl⟩)
end Go.Proofs.Ythgfpikhiaochaa
