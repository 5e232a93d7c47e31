/- Law SeenLives, by computing. -/
import Derived.Test.YthgfpikhiaochaaSWin
namespace Go.Proofs.Ythgfpikhiaochaa
open Go.RowKit

theorem takeT_yes {w : Int} {I P B J n : Nat} (h : mayB w I P B J n = true) : takeT w I P B J n = (fromI I J, takeP I P B J n) := if_pos h
theorem takeT_no {w : Int} {I P B J n : Nat} (h : mayB w I P B J n = false) : takeT w I P B J n = (I, P, B) := by rw [takeT, h]; rfl
theorem norm_le : ∀ (k P B : Nat), fitB P B → P ≤ 4294967295 → (norm k P B).1 ≤ 4294967295 ∧ (norm k P B).2 ≤ B ∧ fitB (norm k P B).1 (norm k P B).2
  | 0, P, B, hf, h => ⟨h, Nat.le_refl _, hf⟩
  | k + 1, P, B, hf, h => by
    unfold norm
    by_cases h1 : B % 2 = 1
    · rw [if_pos h1]
      have := hf 0 (by simp [h1])
      obtain ⟨a, b, c⟩ := norm_le k (P + 1) (B / 2) (fit_half hf) (by omega)
      exact ⟨a, by omega, c⟩
    · rw [if_neg h1]
      exact ⟨h, Nat.le_refl _, hf⟩
theorem takeP_le {w : Int} {I P B J n : Nat} (hB : B < 2 ^ 64) (hP : P ≤ 4294967295) (hn : n ≤ 4294967295) (hf : fitB P B) (hm : mayB w I P B J n = true) : (takeP I P B J n).1 ≤ 4294967295 ∧ (takeP I P B J n).2 < 2 ^ 64 ∧ fitB (takeP I P B J n).1 (takeP I P B J n).2 := by
  obtain ⟨hw1, hw2, hJ0, hn0, hIJ, hPn, hk, hbit⟩ := may_facts hm
  obtain ⟨a, b, c⟩ := norm_le 64 _ _ (fit_or (fit_from (I := I) (J := J) hf) hPn hn) (fromP_le hP)
  exact ⟨a, Nat.lt_of_le_of_lt b (or_lt (fromP_lt hB) hk), c⟩
set_option maxRecDepth 100000 in
set_option maxHeartbeats 4000000 in
theorem seenLives_ok (I P B m J n : Nat) (d : Int) (hI : I ≤ 65535) (hP : P ≤ 4294967295) (hB : B < 2 ^ 64) (hm : m ≤ 255) (hJ : J ≤ 65535) (hn : n ≤ 4294967295) : FnOK Try.prog GG 7 [] [.agg [.v (.int .u16 I), .v (.int .u32 P), .v (.int .u64 B)], .v (.int .u8 m), .agg [.v (.int .u8 d), .v (.int .u16 J), .v (.int .u32 n)]] (fun r _ ext => r = .v (.bool true) ∧ ext = []) := by
  have hW : -9223372036854775808 ≤ ((1 + m % 64 : Nat) : Int) ∧ ((1 + m % 64 : Nat) : Int) ≤ 9223372036854775807 := by omega
  have hn64 : IntKind.i64.wrap (n : Int) = n := by rw [IntKind.wrap_i64]; omega
  cases hr : rightB ((1 + m % 64 : Nat) : Int) I P B with
  | false =>
    refine fn_val (C := seat) seat_ok [] GG_no (Try.func7) rfl rfl rfl rfl rfl (fun _ => rfl) rfl ?_
    repeat' ((try conv => whnf); first
      | (with_reducible refine BB_true ?_)
      | (with_reducible refine BB_false ?_)
      | (with_reducible refine Both.mk ?_ ?_)
      | (with_reducible refine VS.mk ?_)
      | (refine PSem.go (C := seat) seat_ok ?_)
      | (refine And.intro (PlanOK.mk (by kernel_rfl) rfl (by kernel_rfl) (by kernel_rfl)) ?_)
      | (refine And.intro rfl (Exists.intro _ (And.intro (by first | assumption | rfl) ?_)))
      | (refine And.intro ⟨rfl, rfl, rfl⟩ ?_)
      | (refine call_ro [] (win_ok m hm) GG_no rfl rfl rfl trivial ?_; rintro r bs' ext ⟨rfl, rfl⟩)
      | (refine call_ro [] (awake_ok) GG_no rfl rfl rfl trivial ?_; rintro r bs' ext ⟨rfl, rfl⟩)
      | (refine call_ro [] (right_is ((1 + m % 64 : Nat) : Int) I P B hW hI hP hB false hr) GG_no rfl rfl rfl trivial ?_; rintro r bs' ext ⟨rfl, rfl⟩)
      | (refine And.intro (by omega) ?_)
      | (refine BB.mk (fun _h => ?_) (fun _h => ?_) <;> (first | (exact absurd _h (by decide)) | (exfalso; simp only [hn64, boolSet] at _h <;> omega) | skip)))
    all_goals (try conv => whnf)
    all_goals exact Fin.mk ⟨rfl, rfl⟩
  | true =>
    obtain ⟨hf, hw1, h00, hev⟩ := right_fit hr
    by_cases hlt : J < I
    · have hmay : mayB ((1 + m % 64 : Nat) : Int) I P B J n = false := by simp [mayB, show ¬ I ≤ J by omega]
      have hh : hasB I P B J n = false := by simp [hasB, show J ≠ I by omega]
      refine fn_val (C := seat) seat_ok [] GG_no (Try.func7) rfl rfl rfl rfl rfl (fun _ => rfl) rfl ?_
      repeat' ((try conv => whnf); first
        | (with_reducible refine BB_true ?_)
        | (with_reducible refine BB_false ?_)
        | (with_reducible refine Both.mk ?_ ?_)
        | (with_reducible refine VS.mk ?_)
        | (refine PSem.go (C := seat) seat_ok ?_)
        | (refine And.intro (PlanOK.mk (by kernel_rfl) rfl (by kernel_rfl) (by kernel_rfl)) ?_)
        | (refine And.intro rfl (Exists.intro _ (And.intro (by first | assumption | rfl) ?_)))
        | (refine And.intro ⟨rfl, rfl, rfl⟩ ?_)
        | (refine call_ro [] (win_ok m hm) GG_no rfl rfl rfl trivial ?_; rintro r bs' ext ⟨rfl, rfl⟩)
        | (refine call_ro [] (awake_ok) GG_no rfl rfl rfl trivial ?_; rintro r bs' ext ⟨rfl, rfl⟩)
        | (refine call_ro [] (right_is ((1 + m % 64 : Nat) : Int) I P B hW hI hP hB true hr) GG_no rfl rfl rfl trivial ?_; rintro r bs' ext ⟨rfl, rfl⟩)
        | (refine call_ro [] (take_is ((1 + m % 64 : Nat) : Int) I P B d J n hW hP hB hn hI hJ hf _ _ _ _ _ _ (I, P, B) false rfl rfl rfl rfl rfl rfl (takeT_no hmay) hmay) GG_no rfl rfl rfl trivial ?_; rintro r bs' ext ⟨rfl, rfl⟩)
        | (refine call_ro [] (has_is I P B d J n hP hB hn false hh) GG_no rfl rfl rfl trivial ?_; rintro r bs' ext ⟨rfl, rfl⟩)
        | (refine And.intro (by omega) ?_)
        | (refine BB.mk (fun _h => ?_) (fun _h => ?_) <;> (first | (exact absurd _h (by decide)) | (exfalso; simp only [hn64, boolSet] at _h <;> omega) | skip)))
      all_goals (try conv => whnf)
      all_goals exact Fin.mk ⟨rfl, rfl⟩
    · by_cases hgt : I < J
      · have hwB : winB ((1 + m % 64 : Nat) : Int) = true := by simp [winB]; omega
        by_cases hc : 0 < n ∧ (n : Int) ≤ ((1 + m % 64 : Nat) : Int)
        · have hmay : mayB ((1 + m % 64 : Nat) : Int) I P B J n = true := by simp only [mayB, hwB, if_pos hgt, Bool.true_and, Bool.and_eq_true, decide_eq_true_eq]; omega
          have hmay0 : mayB ((1 + m % 64 : Nat) : Int) 0 0 0 J n = true := by simp only [mayB, hwB, if_pos (show 0 < J by omega), Bool.true_and, Bool.and_eq_true, decide_eq_true_eq]; omega
          obtain ⟨hp, hq, _⟩ := takeP_le hB hP hn hf hmay
          have e0 : takeP 0 0 0 J n = takeP I P B J n := by simp [takeP, fromP, hgt, show 0 < J by omega]
          have hT : takeT ((1 + m % 64 : Nat) : Int) I P B J n = (J, takeP I P B J n) := by rw [takeT_yes hmay]; simp [fromI, hgt]
          have hT0 : takeT ((1 + m % 64 : Nat) : Int) 0 0 0 J n = (J, takeP I P B J n) := by rw [takeT_yes hmay0]; simp [fromI, e0, show 0 < J by omega]
          have hh : hasB J (takeP I P B J n).1 (takeP I P B J n).2 I P = false := by simp [hasB, show I ≠ J by omega]
          refine fn_val (C := seat) seat_ok [] GG_no (Try.func7) rfl rfl rfl rfl rfl (fun _ => rfl) rfl ?_
          repeat' ((try conv => whnf); first
            | (with_reducible refine BB_true ?_)
            | (with_reducible refine BB_false ?_)
            | (with_reducible refine Both.mk ?_ ?_)
            | (with_reducible refine VS.mk ?_)
            | (refine PSem.go (C := seat) seat_ok ?_)
            | (refine And.intro (PlanOK.mk (by kernel_rfl) rfl (by kernel_rfl) (by kernel_rfl)) ?_)
            | (refine And.intro rfl (Exists.intro _ (And.intro (by first | assumption | rfl) ?_)))
            | (refine And.intro ⟨rfl, rfl, rfl⟩ ?_)
            | (refine call_ro [] (win_ok m hm) GG_no rfl rfl rfl trivial ?_; rintro r bs' ext ⟨rfl, rfl⟩)
            | (refine call_ro [] (awake_ok) GG_no rfl rfl rfl trivial ?_; rintro r bs' ext ⟨rfl, rfl⟩)
            | (refine call_ro [] (right_is ((1 + m % 64 : Nat) : Int) I P B hW hI hP hB true hr) GG_no rfl rfl rfl trivial ?_; rintro r bs' ext ⟨rfl, rfl⟩)
            | (refine call_ro [] (take_is ((1 + m % 64 : Nat) : Int) I P B d J n hW hP hB hn hI hJ hf _ _ _ _ _ _ (J, takeP I P B J n) true rfl rfl rfl rfl rfl rfl hT hmay) GG_no rfl rfl rfl trivial ?_; rintro r bs' ext ⟨rfl, rfl⟩)
            | (refine call_ro [] (take_is ((1 + m % 64 : Nat) : Int) 0 0 0 d J n hW (by decide) (by decide) hn (by decide) hJ (fun i hi => by simp at hi) _ _ _ _ _ _ (J, takeP I P B J n) true rfl rfl rfl rfl rfl rfl hT0 hmay0) GG_no rfl rfl rfl trivial ?_; rintro r bs' ext ⟨rfl, rfl⟩)
            | (refine call_ro [] (has_is J (takeP I P B J n).1 (takeP I P B J n).2 0 I P hp hq hP false hh) GG_no rfl rfl rfl trivial ?_; rintro r bs' ext ⟨rfl, rfl⟩)
            | (refine And.intro (by omega) ?_)
            | (refine BB.mk (fun _h => ?_) (fun _h => ?_) <;> (first | (exact absurd _h (by decide)) | (exfalso; simp only [hn64, boolSet] at _h <;> omega) | skip)))
          all_goals (try conv => whnf)
          all_goals first
            | exact Fin.mk ⟨rfl, rfl⟩
            | (exfalso; clear hh hT hT0 e0; simp only [hn64, boolSet] at * <;> omega)
        · have hmay : mayB ((1 + m % 64 : Nat) : Int) I P B J n = false := by simp only [mayB, hwB, if_pos hgt, Bool.true_and, Bool.and_eq_false_iff, decide_eq_false_iff_not]; omega
          have hmay0 : mayB ((1 + m % 64 : Nat) : Int) 0 0 0 J n = false := by simp only [mayB, hwB, if_pos (show 0 < J by omega), Bool.true_and, Bool.and_eq_false_iff, decide_eq_false_iff_not]; omega
          have hT : takeT ((1 + m % 64 : Nat) : Int) I P B J n = (I, P, B) := takeT_no hmay
          have hT0 : takeT ((1 + m % 64 : Nat) : Int) 0 0 0 J n = (0, 0, 0) := takeT_no hmay0
          refine fn_val (C := seat) seat_ok [] GG_no (Try.func7) rfl rfl rfl rfl rfl (fun _ => rfl) rfl ?_
          repeat' ((try conv => whnf); first
            | (with_reducible refine BB_true ?_)
            | (with_reducible refine BB_false ?_)
            | (with_reducible refine Both.mk ?_ ?_)
            | (with_reducible refine VS.mk ?_)
            | (refine PSem.go (C := seat) seat_ok ?_)
            | (refine And.intro (PlanOK.mk (by kernel_rfl) rfl (by kernel_rfl) (by kernel_rfl)) ?_)
            | (refine And.intro rfl (Exists.intro _ (And.intro (by first | assumption | rfl) ?_)))
            | (refine And.intro ⟨rfl, rfl, rfl⟩ ?_)
            | (refine call_ro [] (win_ok m hm) GG_no rfl rfl rfl trivial ?_; rintro r bs' ext ⟨rfl, rfl⟩)
            | (refine call_ro [] (awake_ok) GG_no rfl rfl rfl trivial ?_; rintro r bs' ext ⟨rfl, rfl⟩)
            | (refine call_ro [] (right_is ((1 + m % 64 : Nat) : Int) I P B hW hI hP hB true hr) GG_no rfl rfl rfl trivial ?_; rintro r bs' ext ⟨rfl, rfl⟩)
            | (refine call_ro [] (take_is ((1 + m % 64 : Nat) : Int) I P B d J n hW hP hB hn hI hJ hf _ _ _ _ _ _ (I, P, B) false rfl rfl rfl rfl rfl rfl hT hmay) GG_no rfl rfl rfl trivial ?_; rintro r bs' ext ⟨rfl, rfl⟩)
            | (refine call_ro [] (take_is ((1 + m % 64 : Nat) : Int) 0 0 0 d J n hW (by decide) (by decide) hn (by decide) hJ (fun i hi => by simp at hi) _ _ _ _ _ _ (0, 0, 0) false rfl rfl rfl rfl rfl rfl hT0 hmay0) GG_no rfl rfl rfl trivial ?_; rintro r bs' ext ⟨rfl, rfl⟩)
            | (refine And.intro (by omega) ?_)
            | (refine BB.mk (fun _h => ?_) (fun _h => ?_) <;> (first | (exact absurd _h (by decide)) | (exfalso; simp only [hn64, boolSet] at _h <;> omega) | skip)))
          all_goals (try conv => whnf)
          all_goals first
            | exact Fin.mk ⟨rfl, rfl⟩
            | (exfalso; clear hT hT0; simp only [hn64, boolSet] at * <;> omega)
      · cases hmay : mayB ((1 + m % 64 : Nat) : Int) I P B J n with
        | false =>
          refine fn_val (C := seat) seat_ok [] GG_no (Try.func7) rfl rfl rfl rfl rfl (fun _ => rfl) rfl ?_
          repeat' ((try conv => whnf); first
            | (with_reducible refine BB_true ?_)
            | (with_reducible refine BB_false ?_)
            | (with_reducible refine Both.mk ?_ ?_)
            | (with_reducible refine VS.mk ?_)
            | (refine PSem.go (C := seat) seat_ok ?_)
            | (refine And.intro (PlanOK.mk (by kernel_rfl) rfl (by kernel_rfl) (by kernel_rfl)) ?_)
            | (refine And.intro rfl (Exists.intro _ (And.intro (by first | assumption | rfl) ?_)))
            | (refine And.intro ⟨rfl, rfl, rfl⟩ ?_)
            | (refine call_ro [] (win_ok m hm) GG_no rfl rfl rfl trivial ?_; rintro r bs' ext ⟨rfl, rfl⟩)
            | (refine call_ro [] (awake_ok) GG_no rfl rfl rfl trivial ?_; rintro r bs' ext ⟨rfl, rfl⟩)
            | (refine call_ro [] (right_is ((1 + m % 64 : Nat) : Int) I P B hW hI hP hB true hr) GG_no rfl rfl rfl trivial ?_; rintro r bs' ext ⟨rfl, rfl⟩)
            | (refine call_ro [] (take_is ((1 + m % 64 : Nat) : Int) I P B d J n hW hP hB hn hI hJ hf _ _ _ _ _ _ _ false rfl rfl rfl rfl rfl rfl rfl hmay) GG_no rfl rfl rfl trivial ?_; rintro r bs' ext ⟨rfl, rfl⟩)
            | (refine And.intro (by omega) ?_)
            | (refine BB.mk (fun _h => ?_) (fun _h => ?_) <;> (first | (exact absurd _h (by decide)) | (exfalso; simp only [hn64, boolSet] at _h <;> omega) | skip)))
          all_goals (try conv => whnf)
          all_goals exact Fin.mk ⟨rfl, rfl⟩
        | true =>
          refine fn_val (C := seat) seat_ok [] GG_no (Try.func7) rfl rfl rfl rfl rfl (fun _ => rfl) rfl ?_
          repeat' ((try conv => whnf); first
            | (with_reducible refine BB_true ?_)
            | (with_reducible refine BB_false ?_)
            | (with_reducible refine Both.mk ?_ ?_)
            | (with_reducible refine VS.mk ?_)
            | (refine PSem.go (C := seat) seat_ok ?_)
            | (refine And.intro (PlanOK.mk (by kernel_rfl) rfl (by kernel_rfl) (by kernel_rfl)) ?_)
            | (refine And.intro rfl (Exists.intro _ (And.intro (by first | assumption | rfl) ?_)))
            | (refine And.intro ⟨rfl, rfl, rfl⟩ ?_)
            | (refine call_ro [] (win_ok m hm) GG_no rfl rfl rfl trivial ?_; rintro r bs' ext ⟨rfl, rfl⟩)
            | (refine call_ro [] (awake_ok) GG_no rfl rfl rfl trivial ?_; rintro r bs' ext ⟨rfl, rfl⟩)
            | (refine call_ro [] (right_is ((1 + m % 64 : Nat) : Int) I P B hW hI hP hB true hr) GG_no rfl rfl rfl trivial ?_; rintro r bs' ext ⟨rfl, rfl⟩)
            | (refine call_ro [] (take_is ((1 + m % 64 : Nat) : Int) I P B d J n hW hP hB hn hI hJ hf _ _ _ _ _ _ _ true rfl rfl rfl rfl rfl rfl rfl hmay) GG_no rfl rfl rfl trivial ?_; rintro r bs' ext ⟨rfl, rfl⟩)
            | (refine And.intro (by omega) ?_)
            | (refine BB.mk (fun _h => ?_) (fun _h => ?_) <;> (first | (exact absurd _h (by decide)) | (exfalso; simp only [hn64, boolSet] at _h <;> omega) | skip)))
          all_goals (try conv => whnf)
          all_goals exact Fin.mk ⟨rfl, rfl⟩
end Go.Proofs.Ythgfpikhiaochaa
