/- Laws SeenWindow and SeenLives, by computing. -/
import Derived.Test.YthgfpikhiaochaaSTells
namespace Go.Proofs.Ythgfpikhiaochaa
open Go.RowKit

set_option maxRecDepth 100000 in
set_option maxHeartbeats 4000000 in
theorem win_ok (m : Nat) (hm : m ≤ 255) : FnOK Try.prog GG 19 [] [.v (.int .u8 m)] (fun r _ ext => r = .v (.int .i64 ((1 + m % 64 : Nat) : Int)) ∧ ext = []) := by
  refine fn_val (C := seat) seat_ok [] GG_no (Try.func19) rfl rfl rfl rfl rfl (fun _ => rfl) rfl ?_
  repeat' ((try conv => whnf); first
    | (with_reducible refine BB_true ?_)
    | (with_reducible refine BB_false ?_)
    | (with_reducible refine Both.mk ?_ ?_)
    | (with_reducible refine VS.mk ?_)
    | (refine PSem.go (C := seat) seat_ok ?_)
    | (refine And.intro (PlanOK.mk (by kernel_rfl) rfl (by kernel_rfl) (by kernel_rfl)) ?_)
    | (refine And.intro rfl (Exists.intro _ (And.intro (by first | assumption | rfl) ?_)))
    | (refine And.intro ⟨rfl, rfl, rfl⟩ ?_)
    | (refine And.intro (by decide) ?_)
    | (refine And.intro (by omega) ?_)
    | (refine BB.mk (fun _h => ?_) (fun _h => ?_) <;> (first | (exact absurd _h (by decide)) | (exfalso; simp only [boolSet] at _h <;> omega) | skip)))
  all_goals (try conv => whnf)
  all_goals (try (refine Fin.mk ?_))
  all_goals
    refine ⟨num_eq ?_, rfl⟩
    rw [Int.tmod_eq_emod_of_nonneg (Int.natCast_nonneg _), IntKind.wrap_i64, IntKind.wrap_i64]
    omega
set_option maxRecDepth 100000 in
set_option maxHeartbeats 4000000 in
theorem seenWindow_ok (I P B m n : Nat) (oth : Int) (hI : I ≤ 65535) (hP : P ≤ 4294967295) (hB : B < 2 ^ 64) (hm : m ≤ 255) (hn : n ≤ 4294967295) (ho : -9223372036854775808 ≤ oth ∧ oth ≤ 9223372036854775807) : FnOK Try.prog GG 6 [] [.agg [.v (.int .u16 I), .v (.int .u32 P), .v (.int .u64 B)], .v (.int .u8 m), .v (.int .u32 n), .v (.int .i64 oth)] (fun r _ ext => r = .v (.bool true) ∧ ext = []) := by
  have hW : -9223372036854775808 ≤ ((1 + m % 64 : Nat) : Int) ∧ ((1 + m % 64 : Nat) : Int) ≤ 9223372036854775807 := by omega
  have hfar : IntKind.i64.wrap (IntKind.i64.wrap (n : Int) - IntKind.i64.wrap (P : Int)) = (n : Int) - P := by
    rw [IntKind.wrap_i64, IntKind.wrap_i64, IntKind.wrap_i64]
    omega
  cases hr : rightB ((1 + m % 64 : Nat) : Int) I P B with
  | false =>
    refine fn_val (C := seat) seat_ok [] GG_no (Try.func6) rfl rfl rfl rfl rfl (fun _ => rfl) rfl ?_
    repeat' ((try conv => whnf); first
      | (with_reducible refine BB_true ?_)
      | (with_reducible refine BB_false ?_)
      | (with_reducible refine Both.mk ?_ ?_)
      | (with_reducible refine VS.mk ?_)
      | (refine PSem.go (C := seat) seat_ok ?_)
      | (refine And.intro (PlanOK.mk (by kernel_rfl) rfl (by kernel_rfl) (by kernel_rfl)) ?_)
      | (refine And.intro rfl (Exists.intro _ (And.intro (by first | assumption | rfl) ?_)))
      | (refine And.intro ⟨rfl, rfl, rfl⟩ ?_)
      | (refine call_ro [] (win_ok m hm) GG_no rfl rfl rfl trivial ?_; rintro r bs' ext ⟨rfl, rfl⟩)
      | (refine call_ro [] (right_is ((1 + m % 64 : Nat) : Int) I P B hW hI hP hB false hr) GG_no rfl rfl rfl trivial ?_; rintro r bs' ext ⟨rfl, rfl⟩)
      | (refine call_ro [] (awake_ok) GG_no rfl rfl rfl trivial ?_; rintro r bs' ext ⟨rfl, rfl⟩)
      | (refine And.intro (by omega) ?_)
      | (refine BB.mk (fun _h => ?_) (fun _h => ?_) <;> (first | (exact absurd _h (by decide)) | (exfalso; simp only [hfar, boolSet] at _h <;> omega) | skip)))
    all_goals (try conv => whnf)
    all_goals exact Fin.mk ⟨rfl, rfl⟩
  | true =>
    obtain ⟨hf, hw1, h00, hev⟩ := right_fit hr
    by_cases hI0 : I = 0
    · subst hI0
      refine fn_val (C := seat) seat_ok [] GG_no (Try.func6) rfl rfl rfl rfl rfl (fun _ => rfl) rfl ?_
      repeat' ((try conv => whnf); first
        | (with_reducible refine BB_true ?_)
        | (with_reducible refine BB_false ?_)
        | (with_reducible refine Both.mk ?_ ?_)
        | (with_reducible refine VS.mk ?_)
        | (refine PSem.go (C := seat) seat_ok ?_)
        | (refine And.intro (PlanOK.mk (by kernel_rfl) rfl (by kernel_rfl) (by kernel_rfl)) ?_)
        | (refine And.intro rfl (Exists.intro _ (And.intro (by first | assumption | rfl) ?_)))
        | (refine And.intro ⟨rfl, rfl, rfl⟩ ?_)
        | (refine call_ro [] (win_ok m hm) GG_no rfl rfl rfl trivial ?_; rintro r bs' ext ⟨rfl, rfl⟩)
        | (refine call_ro [] (right_is ((1 + m % 64 : Nat) : Int) 0 P B hW hI hP hB true hr) GG_no rfl rfl rfl trivial ?_; rintro r bs' ext ⟨rfl, rfl⟩)
        | (refine call_ro [] (awake_ok) GG_no rfl rfl rfl trivial ?_; rintro r bs' ext ⟨rfl, rfl⟩)
        | (refine And.intro (by omega) ?_)
        | (refine BB.mk (fun _h => ?_) (fun _h => ?_) <;> (first | (exact absurd _h (by decide)) | (exfalso; simp only [hfar, boolSet] at _h <;> omega) | skip)))
      all_goals (try conv => whnf)
      all_goals exact Fin.mk ⟨rfl, rfl⟩
    · have hh0 : hasB I P B I 0 = false := by simp [hasB, sees]
      have hh : hasB I P B I n = sees P B n := by simp [hasB, show 0 < I by omega]
      have hmm : mayB ((1 + m % 64 : Nat) : Int) I P B I n = (decide (0 < n) && (!sees P B n && decide ((n : Int) ≤ P + ((1 + m % 64 : Nat) : Int)))) := by
        simp only [mayB, show winB ((1 + m % 64 : Nat) : Int) = true by simp [winB]; omega, show ¬ I < I by omega]
        simp [show 0 < I by omega]
      have hs0 : sees P B n = true → 0 < n := fun h => by simp [sees] at h; omega
      have hs1 : sees P B n = false → 0 < n → P < n := fun h h0 => by simp [sees, h0] at h; omega
      by_cases hoth : oth < 1 ∨ 64 < oth
      · have hwo : winB oth = false := by simp [winB]; omega
        have hmo : mayB oth I P B I n = false := by simp [mayB, hwo]
        have hro : rightB oth I P B = false := by simp [rightB, hwo]
        cases hs : sees P B n with
        | true =>
          have hn0 := hs0 hs
          rw [hs] at hh hmm
          have hm2 : mayB ((1 + m % 64 : Nat) : Int) I P B I n = false := by rw [hmm]; simp
          refine fn_val (C := seat) seat_ok [] GG_no (Try.func6) rfl rfl rfl rfl rfl (fun _ => rfl) rfl ?_
          repeat' ((try conv => whnf); first
            | (with_reducible refine BB_true ?_)
            | (with_reducible refine BB_false ?_)
            | (with_reducible refine Both.mk ?_ ?_)
            | (with_reducible refine VS.mk ?_)
            | (refine PSem.go (C := seat) seat_ok ?_)
            | (refine And.intro (PlanOK.mk (by kernel_rfl) rfl (by kernel_rfl) (by kernel_rfl)) ?_)
            | (refine And.intro rfl (Exists.intro _ (And.intro (by first | assumption | rfl) ?_)))
            | (refine And.intro ⟨rfl, rfl, rfl⟩ ?_)
            | (refine call_ro [] (win_ok m hm) GG_no rfl rfl rfl trivial ?_; rintro r bs' ext ⟨rfl, rfl⟩)
            | (refine call_ro [] (right_is ((1 + m % 64 : Nat) : Int) I P B hW hI hP hB true hr) GG_no rfl rfl rfl trivial ?_; rintro r bs' ext ⟨rfl, rfl⟩)
            | (refine call_ro [] (may_is ((1 + m % 64 : Nat) : Int) I P B 0 I n hW hP hB hn false hm2) GG_no rfl rfl rfl trivial ?_; rintro r bs' ext ⟨rfl, rfl⟩)
            | (refine call_ro [] (has_is I P B 0 I n hP hB hn true hh) GG_no rfl rfl rfl trivial ?_; rintro r bs' ext ⟨rfl, rfl⟩)
            | (refine call_ro [] (has_at I P B 0 I 0 hP hB (by decide) 0 false rfl hh0) GG_no rfl rfl rfl trivial ?_; rintro r bs' ext ⟨rfl, rfl⟩)
            | (refine call_ro [] (awake_ok) GG_no rfl rfl rfl trivial ?_; rintro r bs' ext ⟨rfl, rfl⟩)
            | (refine call_ro [] (may_is oth I P B 0 I n ho hP hB hn false hmo) GG_no rfl rfl rfl trivial ?_; rintro r bs' ext ⟨rfl, rfl⟩)
            | (refine call_ro [] (right_is oth I P B ho hI hP hB false hro) GG_no rfl rfl rfl trivial ?_; rintro r bs' ext ⟨rfl, rfl⟩)
            | (refine And.intro (by omega) ?_)
            | (refine BB.mk (fun _h => ?_) (fun _h => ?_) <;> (first | (exact absurd _h (by decide)) | (exfalso; simp only [hfar, boolSet] at _h <;> omega) | skip)))
          all_goals (try conv => whnf)
          all_goals exact Fin.mk ⟨rfl, rfl⟩
        | false =>
          have hn1 := hs1 hs
          rw [hs] at hh hmm
          by_cases hc : 0 < n ∧ (n : Int) ≤ P + ((1 + m % 64 : Nat) : Int)
          · have hm2 : mayB ((1 + m % 64 : Nat) : Int) I P B I n = true := by rw [hmm]; simp; omega
            refine fn_val (C := seat) seat_ok [] GG_no (Try.func6) rfl rfl rfl rfl rfl (fun _ => rfl) rfl ?_
            repeat' ((try conv => whnf); first
              | (with_reducible refine BB_true ?_)
              | (with_reducible refine BB_false ?_)
              | (with_reducible refine Both.mk ?_ ?_)
              | (with_reducible refine VS.mk ?_)
              | (refine PSem.go (C := seat) seat_ok ?_)
              | (refine And.intro (PlanOK.mk (by kernel_rfl) rfl (by kernel_rfl) (by kernel_rfl)) ?_)
              | (refine And.intro rfl (Exists.intro _ (And.intro (by first | assumption | rfl) ?_)))
              | (refine And.intro ⟨rfl, rfl, rfl⟩ ?_)
              | (refine call_ro [] (win_ok m hm) GG_no rfl rfl rfl trivial ?_; rintro r bs' ext ⟨rfl, rfl⟩)
              | (refine call_ro [] (right_is ((1 + m % 64 : Nat) : Int) I P B hW hI hP hB true hr) GG_no rfl rfl rfl trivial ?_; rintro r bs' ext ⟨rfl, rfl⟩)
              | (refine call_ro [] (may_is ((1 + m % 64 : Nat) : Int) I P B 0 I n hW hP hB hn true hm2) GG_no rfl rfl rfl trivial ?_; rintro r bs' ext ⟨rfl, rfl⟩)
              | (refine call_ro [] (has_is I P B 0 I n hP hB hn false hh) GG_no rfl rfl rfl trivial ?_; rintro r bs' ext ⟨rfl, rfl⟩)
              | (refine call_ro [] (has_at I P B 0 I 0 hP hB (by decide) 0 false rfl hh0) GG_no rfl rfl rfl trivial ?_; rintro r bs' ext ⟨rfl, rfl⟩)
              | (refine call_ro [] (awake_ok) GG_no rfl rfl rfl trivial ?_; rintro r bs' ext ⟨rfl, rfl⟩)
              | (refine call_ro [] (may_is oth I P B 0 I n ho hP hB hn false hmo) GG_no rfl rfl rfl trivial ?_; rintro r bs' ext ⟨rfl, rfl⟩)
              | (refine call_ro [] (right_is oth I P B ho hI hP hB false hro) GG_no rfl rfl rfl trivial ?_; rintro r bs' ext ⟨rfl, rfl⟩)
              | (refine And.intro (by omega) ?_)
              | (refine BB.mk (fun _h => ?_) (fun _h => ?_) <;> (first | (exact absurd _h (by decide)) | (exfalso; simp only [hfar, boolSet] at _h <;> omega) | skip)))
            all_goals (try conv => whnf)
            all_goals first
              | exact Fin.mk ⟨rfl, rfl⟩
              | (exfalso; clear hh hmm hh0; simp only [hfar, boolSet] at * <;> omega)
          · have hm2 : mayB ((1 + m % 64 : Nat) : Int) I P B I n = false := by rw [hmm]; simp; omega
            refine fn_val (C := seat) seat_ok [] GG_no (Try.func6) rfl rfl rfl rfl rfl (fun _ => rfl) rfl ?_
            repeat' ((try conv => whnf); first
              | (with_reducible refine BB_true ?_)
              | (with_reducible refine BB_false ?_)
              | (with_reducible refine Both.mk ?_ ?_)
              | (with_reducible refine VS.mk ?_)
              | (refine PSem.go (C := seat) seat_ok ?_)
              | (refine And.intro (PlanOK.mk (by kernel_rfl) rfl (by kernel_rfl) (by kernel_rfl)) ?_)
              | (refine And.intro rfl (Exists.intro _ (And.intro (by first | assumption | rfl) ?_)))
              | (refine And.intro ⟨rfl, rfl, rfl⟩ ?_)
              | (refine call_ro [] (win_ok m hm) GG_no rfl rfl rfl trivial ?_; rintro r bs' ext ⟨rfl, rfl⟩)
              | (refine call_ro [] (right_is ((1 + m % 64 : Nat) : Int) I P B hW hI hP hB true hr) GG_no rfl rfl rfl trivial ?_; rintro r bs' ext ⟨rfl, rfl⟩)
              | (refine call_ro [] (may_is ((1 + m % 64 : Nat) : Int) I P B 0 I n hW hP hB hn false hm2) GG_no rfl rfl rfl trivial ?_; rintro r bs' ext ⟨rfl, rfl⟩)
              | (refine call_ro [] (has_is I P B 0 I n hP hB hn false hh) GG_no rfl rfl rfl trivial ?_; rintro r bs' ext ⟨rfl, rfl⟩)
              | (refine call_ro [] (has_at I P B 0 I 0 hP hB (by decide) 0 false rfl hh0) GG_no rfl rfl rfl trivial ?_; rintro r bs' ext ⟨rfl, rfl⟩)
              | (refine call_ro [] (awake_ok) GG_no rfl rfl rfl trivial ?_; rintro r bs' ext ⟨rfl, rfl⟩)
              | (refine call_ro [] (may_is oth I P B 0 I n ho hP hB hn false hmo) GG_no rfl rfl rfl trivial ?_; rintro r bs' ext ⟨rfl, rfl⟩)
              | (refine call_ro [] (right_is oth I P B ho hI hP hB false hro) GG_no rfl rfl rfl trivial ?_; rintro r bs' ext ⟨rfl, rfl⟩)
              | (refine And.intro (by omega) ?_)
              | (refine BB.mk (fun _h => ?_) (fun _h => ?_) <;> (first | (exact absurd _h (by decide)) | (exfalso; simp only [hfar, boolSet] at _h <;> omega) | skip)))
            all_goals (try conv => whnf)
            all_goals first
              | exact Fin.mk ⟨rfl, rfl⟩
              | (exfalso; clear hh hmm hh0; simp only [hfar, boolSet] at * <;> omega)
      · cases hs : sees P B n with
        | true =>
          have hn0 := hs0 hs
          rw [hs] at hh hmm
          have hm2 : mayB ((1 + m % 64 : Nat) : Int) I P B I n = false := by rw [hmm]; simp
          refine fn_val (C := seat) seat_ok [] GG_no (Try.func6) rfl rfl rfl rfl rfl (fun _ => rfl) rfl ?_
          repeat' ((try conv => whnf); first
            | (with_reducible refine BB_true ?_)
            | (with_reducible refine BB_false ?_)
            | (with_reducible refine Both.mk ?_ ?_)
            | (with_reducible refine VS.mk ?_)
            | (refine PSem.go (C := seat) seat_ok ?_)
            | (refine And.intro (PlanOK.mk (by kernel_rfl) rfl (by kernel_rfl) (by kernel_rfl)) ?_)
            | (refine And.intro rfl (Exists.intro _ (And.intro (by first | assumption | rfl) ?_)))
            | (refine And.intro ⟨rfl, rfl, rfl⟩ ?_)
            | (refine call_ro [] (win_ok m hm) GG_no rfl rfl rfl trivial ?_; rintro r bs' ext ⟨rfl, rfl⟩)
            | (refine call_ro [] (right_is ((1 + m % 64 : Nat) : Int) I P B hW hI hP hB true hr) GG_no rfl rfl rfl trivial ?_; rintro r bs' ext ⟨rfl, rfl⟩)
            | (refine call_ro [] (may_is ((1 + m % 64 : Nat) : Int) I P B 0 I n hW hP hB hn false hm2) GG_no rfl rfl rfl trivial ?_; rintro r bs' ext ⟨rfl, rfl⟩)
            | (refine call_ro [] (has_is I P B 0 I n hP hB hn true hh) GG_no rfl rfl rfl trivial ?_; rintro r bs' ext ⟨rfl, rfl⟩)
            | (refine call_ro [] (has_at I P B 0 I 0 hP hB (by decide) 0 false rfl hh0) GG_no rfl rfl rfl trivial ?_; rintro r bs' ext ⟨rfl, rfl⟩)
            | (refine call_ro [] (awake_ok) GG_no rfl rfl rfl trivial ?_; rintro r bs' ext ⟨rfl, rfl⟩)
            | (refine And.intro (by omega) ?_)
            | (refine BB.mk (fun _h => ?_) (fun _h => ?_) <;> (first | (exact absurd _h (by decide)) | (exfalso; simp only [hfar, boolSet] at _h <;> omega) | skip)))
          all_goals (try conv => whnf)
          all_goals exact Fin.mk ⟨rfl, rfl⟩
        | false =>
          have hn1 := hs1 hs
          rw [hs] at hh hmm
          by_cases hc : 0 < n ∧ (n : Int) ≤ P + ((1 + m % 64 : Nat) : Int)
          · have hm2 : mayB ((1 + m % 64 : Nat) : Int) I P B I n = true := by rw [hmm]; simp; omega
            refine fn_val (C := seat) seat_ok [] GG_no (Try.func6) rfl rfl rfl rfl rfl (fun _ => rfl) rfl ?_
            repeat' ((try conv => whnf); first
              | (with_reducible refine BB_true ?_)
              | (with_reducible refine BB_false ?_)
              | (with_reducible refine Both.mk ?_ ?_)
              | (with_reducible refine VS.mk ?_)
              | (refine PSem.go (C := seat) seat_ok ?_)
              | (refine And.intro (PlanOK.mk (by kernel_rfl) rfl (by kernel_rfl) (by kernel_rfl)) ?_)
              | (refine And.intro rfl (Exists.intro _ (And.intro (by first | assumption | rfl) ?_)))
              | (refine And.intro ⟨rfl, rfl, rfl⟩ ?_)
              | (refine call_ro [] (win_ok m hm) GG_no rfl rfl rfl trivial ?_; rintro r bs' ext ⟨rfl, rfl⟩)
              | (refine call_ro [] (right_is ((1 + m % 64 : Nat) : Int) I P B hW hI hP hB true hr) GG_no rfl rfl rfl trivial ?_; rintro r bs' ext ⟨rfl, rfl⟩)
              | (refine call_ro [] (may_is ((1 + m % 64 : Nat) : Int) I P B 0 I n hW hP hB hn true hm2) GG_no rfl rfl rfl trivial ?_; rintro r bs' ext ⟨rfl, rfl⟩)
              | (refine call_ro [] (has_is I P B 0 I n hP hB hn false hh) GG_no rfl rfl rfl trivial ?_; rintro r bs' ext ⟨rfl, rfl⟩)
              | (refine call_ro [] (has_at I P B 0 I 0 hP hB (by decide) 0 false rfl hh0) GG_no rfl rfl rfl trivial ?_; rintro r bs' ext ⟨rfl, rfl⟩)
              | (refine call_ro [] (awake_ok) GG_no rfl rfl rfl trivial ?_; rintro r bs' ext ⟨rfl, rfl⟩)
              | (refine And.intro (by omega) ?_)
              | (refine BB.mk (fun _h => ?_) (fun _h => ?_) <;> (first | (exact absurd _h (by decide)) | (exfalso; simp only [hfar, boolSet] at _h <;> omega) | skip)))
            all_goals (try conv => whnf)
            all_goals first
              | exact Fin.mk ⟨rfl, rfl⟩
              | (exfalso; clear hh hmm hh0; simp only [hfar, boolSet] at * <;> omega)
          · have hm2 : mayB ((1 + m % 64 : Nat) : Int) I P B I n = false := by rw [hmm]; simp; omega
            refine fn_val (C := seat) seat_ok [] GG_no (Try.func6) rfl rfl rfl rfl rfl (fun _ => rfl) rfl ?_
            repeat' ((try conv => whnf); first
              | (with_reducible refine BB_true ?_)
              | (with_reducible refine BB_false ?_)
              | (with_reducible refine Both.mk ?_ ?_)
              | (with_reducible refine VS.mk ?_)
              | (refine PSem.go (C := seat) seat_ok ?_)
              | (refine And.intro (PlanOK.mk (by kernel_rfl) rfl (by kernel_rfl) (by kernel_rfl)) ?_)
              | (refine And.intro rfl (Exists.intro _ (And.intro (by first | assumption | rfl) ?_)))
              | (refine And.intro ⟨rfl, rfl, rfl⟩ ?_)
              | (refine call_ro [] (win_ok m hm) GG_no rfl rfl rfl trivial ?_; rintro r bs' ext ⟨rfl, rfl⟩)
              | (refine call_ro [] (right_is ((1 + m % 64 : Nat) : Int) I P B hW hI hP hB true hr) GG_no rfl rfl rfl trivial ?_; rintro r bs' ext ⟨rfl, rfl⟩)
              | (refine call_ro [] (may_is ((1 + m % 64 : Nat) : Int) I P B 0 I n hW hP hB hn false hm2) GG_no rfl rfl rfl trivial ?_; rintro r bs' ext ⟨rfl, rfl⟩)
              | (refine call_ro [] (has_is I P B 0 I n hP hB hn false hh) GG_no rfl rfl rfl trivial ?_; rintro r bs' ext ⟨rfl, rfl⟩)
              | (refine call_ro [] (has_at I P B 0 I 0 hP hB (by decide) 0 false rfl hh0) GG_no rfl rfl rfl trivial ?_; rintro r bs' ext ⟨rfl, rfl⟩)
              | (refine call_ro [] (awake_ok) GG_no rfl rfl rfl trivial ?_; rintro r bs' ext ⟨rfl, rfl⟩)
              | (refine And.intro (by omega) ?_)
              | (refine BB.mk (fun _h => ?_) (fun _h => ?_) <;> (first | (exact absurd _h (by decide)) | (exfalso; simp only [hfar, boolSet] at _h <;> omega) | skip)))
            all_goals (try conv => whnf)
            all_goals first
              | exact Fin.mk ⟨rfl, rfl⟩
              | (exfalso; clear hh hmm hh0; simp only [hfar, boolSet] at * <;> omega)
end Go.Proofs.Ythgfpikhiaochaa
