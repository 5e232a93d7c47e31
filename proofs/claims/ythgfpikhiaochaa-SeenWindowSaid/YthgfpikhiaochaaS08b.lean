/- Package seen, by computing: what is taken. -/
import Derived.Test.YthgfpikhiaochaaS08
namespace Go.Proofs.Ythgfpikhiaochaa
open Go.RowKit

theorem two_box {I : Int} {y y' z z' : Int} (h : y = y') (k : z = z') : some (SB.box 26 [.v (.int .u16 I), .v (.int .u32 y), .v (.int .u64 z)]) = some (SB.box 26 [.v (.int .u16 I), .v (.int .u32 y'), .v (.int .u64 z')]) := by rw [h, k]
/-- The row behind an id that may be taken, or the row as it was. -/
def takeT (w : Int) (I P B J n : Nat) : Nat × Nat × Nat := if mayB w I P B J n then (fromI I J, takeP I P B J n) else (I, P, B)
theorem may_facts {w : Int} {I P B J n : Nat} (h : mayB w I P B J n = true) : 1 ≤ w ∧ w ≤ 64 ∧ 0 < J ∧ 0 < n ∧ I ≤ J ∧ fromP I J P < n ∧ n - fromP I J P - 1 < 64 ∧ (fromP I J B).testBit (n - fromP I J P - 1) = false := by
  have h2 : sees (fromP I J P) (fromP I J B) n = false := by
    rw [sees_from]
    simp only [mayB, Bool.and_eq_true, decide_eq_true_eq] at h
    obtain ⟨_, h⟩ := h
    by_cases hIJ : I < J
    · simp [show ¬ I ≥ J by omega]
    · rw [if_neg hIJ] at h
      simp at h
      simp [h.1]
  have h3 : (1 ≤ w ∧ w ≤ 64) ∧ 0 < J ∧ 0 < n ∧ I ≤ J ∧ (n : Int) ≤ fromP I J P + w := by
    unfold mayB winB at h
    simp only [Bool.and_eq_true, decide_eq_true_eq] at h
    obtain ⟨⟨⟨⟨⟨a, b⟩, c⟩, d⟩, e⟩, g⟩ := h
    refine ⟨⟨a, b⟩, c, d, e, ?_⟩
    by_cases hIJ : I < J
    · rw [if_pos hIJ] at g
      simp only [decide_eq_true_eq] at g
      simp [fromP, hIJ]
      exact g
    · rw [if_neg hIJ] at g
      simp only [Bool.and_eq_true, decide_eq_true_eq] at g
      simp [fromP, hIJ]
      exact g.2
  obtain ⟨⟨h4, h5⟩, h6, h7, h8, h9⟩ := h3
  simp only [sees, h7, decide_true, Bool.true_and, Bool.or_eq_false_iff, decide_eq_false_iff_not] at h2
  exact ⟨h4, h5, h6, h7, h8, by omega, by omega, h2.2⟩
def fitB (P B : Nat) : Prop := ∀ i, B.testBit i = true → P + 1 + i ≤ 4294967295
theorem fit_half {P B : Nat} (h : fitB P B) : fitB (P + 1) (B / 2) := fun i hi => by
  rw [testBit_half] at hi
  have := h _ hi
  omega
theorem fit_or {P B n : Nat} (h : fitB P B) (hP : P < n) (hn : n ≤ 4294967295) : fitB P (B ||| 2 ^ (n - P - 1)) := fun i hi => by
  simp only [Nat.testBit_or, Nat.testBit_two_pow, Bool.or_eq_true, decide_eq_true_eq] at hi
  rcases hi with hi | hi
  · exact h i hi
  · omega
theorem fit_from {I J P B : Nat} (h : fitB P B) : fitB (fromP I J P) (fromP I J B) := by
  unfold fromP
  split
  · intro i hi
    simp at hi
  · exact h
theorem may_is (w : Int) (I P B : Nat) (d : Int) (J n : Nat) (hw : -9223372036854775808 ≤ w ∧ w ≤ 9223372036854775807) (hP : P ≤ 4294967295) (hB : B < 2 ^ 64) (hn : n ≤ 4294967295) (b : Bool) (hb : mayB w I P B J n = b) : FnOK Try.prog GG 17 [] [.agg [.v (.int .u16 I), .v (.int .u32 P), .v (.int .u64 B)], .agg [.v (.int .u8 d), .v (.int .u16 J), .v (.int .u32 n)], .v (.int .i64 w)] (fun r _ ext => r = .v (.bool b) ∧ ext = []) := by
  subst hb
  exact may_ok w I P B d J n hw hP hB hn
set_option maxRecDepth 100000 in
set_option maxHeartbeats 4000000 in
theorem take_ok (w : Int) (I P B : Nat) (d : Int) (J n : Nat) (hw : -9223372036854775808 ≤ w ∧ w ≤ 9223372036854775807) (hP : P ≤ 4294967295) (hB : B < 2 ^ 64) (hn : n ≤ 4294967295) (hI : I ≤ 65535) (hJ : J ≤ 65535) (hf : fitB P B) : FnOK Try.prog GG 13 [] [.agg [.v (.int .u16 I), .v (.int .u32 P), .v (.int .u64 B)], .agg [.v (.int .u8 d), .v (.int .u16 J), .v (.int .u32 n)], .v (.int .i64 w)] (fun r _ ext => r = .tup [.agg [.v (.int .u16 (takeT w I P B J n).1), .v (.int .u32 (takeT w I P B J n).2.1), .v (.int .u64 (takeT w I P B J n).2.2)], .v (.bool (mayB w I P B J n))] ∧ ext = []) := by
  cases hm : mayB w I P B J n with
  | true =>
    obtain ⟨hw1, hw2, hJ0, hn0, hIJ, hPn, hk, hbit⟩ := may_facts hm
    have e1 := far_sub hPn hn
    have hB' : fromP I J B < 2 ^ 64 := fromP_lt hB
    have hfit : fitB (fromP I J P) (fromP I J B ||| 2 ^ (n - fromP I J P - 1)) := fit_or (fit_from hf) hPn hn
    have e2 : IntKind.u64.wrap ((BitVec.ofInt IntKind.u64.bits (fromP I J B : Int) ||| BitVec.ofInt IntKind.u64.bits (IntKind.u64.wrap (1 * 2 ^ min (IntKind.u32.wrap (IntKind.u32.wrap ((n : Int) - (fromP I J P : Int)) - 1)).toNat IntKind.u64.bits))).toNat : Int) = ((fromP I J B ||| 2 ^ (n - fromP I J P - 1) : Nat) : Int) := by
      rw [e1, Int.toNat_natCast, show min (n - fromP I J P - 1) IntKind.u64.bits = n - fromP I J P - 1 from Nat.min_eq_left (by show _ ≤ 64; omega), pow_wrap hk]
      exact or_wrap hB' (Nat.pow_lt_pow_right (by omega) hk)
    simp only [takeT, hm, if_true]
    refine fn_val (C := seat) seat_ok [] GG_no (Try.func13) rfl rfl rfl rfl rfl (fun _ => rfl) rfl ?_
    repeat' ((try conv => whnf); first
      | (with_reducible refine BB_true ?_)
      | (with_reducible refine BB_false ?_)
      | (with_reducible refine Both.mk ?_ ?_)
      | (with_reducible refine VS.mk ?_)
      | (refine PSem.go (C := seat) seat_ok ?_)
      | (refine And.intro (PlanOK.mk (by kernel_rfl) rfl (by kernel_rfl) (by kernel_rfl)) ?_)
      | (refine And.intro rfl (Exists.intro _ (And.intro (by first | assumption | rfl) ?_)))
      | (refine And.intro ⟨rfl, rfl, rfl⟩ ?_)
      | (refine call_ro [] (may_is w I P B d J n hw hP hB hn true hm) GG_no rfl rfl rfl trivial ?_; rintro r bs' ext ⟨rfl, rfl⟩)
      | (refine call_ro [] (begun_ok I P B J) GG_no rfl rfl rfl trivial ?_; rintro r bs' ext ⟨rfl, rfl⟩)
      | (refine And.intro (by rw [e1]; omega) ?_)
      | (refine And.intro (by omega) ?_)
      | (refine BB.mk (fun _h => ?_) (fun _h => ?_) <;> (first | (exact absurd _h (by decide)) | (exfalso; simp only [boolSet] at _h <;> omega) | skip)))
    all_goals (try conv => whnf)
    refine loop_rule (α := Nat × Nat × Nat) (fun p => p.2.2 < 2 ^ p.1 ∧ p.1 ≤ 64 ∧ norm p.1 p.2.1 p.2.2 = takeP I P B J n ∧ fitB p.2.1 p.2.2) (fun p => { slots := [(6, .p (.n 0) 0 0 0), (8, .p (.n 1) 0 0 0)], nt := 43, mem := ⟨GG, [], [.box 26 [.v (.int .u16 0), .v (.int .u32 0), .v (.int .u64 0)], .box 26 [.v (.int .u16 (fromI I J)), .v (.int .u32 p.2.1), .v (.int .u64 p.2.2)]]⟩ }) (fun p => p.1) (64, fromP I J P, fromP I J B ||| 2 ^ (n - fromP I J P - 1)) ⟨or_lt hB' hk, Nat.le_refl _, rfl, hfit⟩ ⟨⟨[2, 3], (by decide), GG_no, rfl, (SubOld.refl _ rfl), ⟨rfl, congrArg (fun z => some (SB.box 26 [.v (.int .u16 (fromI I J)), .v (.int .u32 (fromP I J P)), .v (.int .u64 z)])) e2, trivial⟩, ⟨.inl rfl, .inl rfl, trivial⟩⟩, rfl⟩ ?_ (fun _ => rfl)
    rintro ⟨k, p, q⟩ ⟨h1, h2, h3, h4⟩
    dsimp only at h1 h2 h3 h4 ⊢
    refine vc_sound (C := seat) seat_ok (pl := []) ?_
    have hq : q < 2 ^ 64 := Nat.lt_of_lt_of_le h1 (Nat.pow_le_pow_right (by omega) h2)
    have e3 := and1 (q : Int)
    by_cases hodd : q % 2 = 1
    · have hb1 : (IntKind.u64.wrap ((BitVec.ofInt IntKind.u64.bits (q : Int) &&& BitVec.ofInt IntKind.u64.bits 1).toNat : Int) == 1) = true := by rw [e3, beq_iff_eq]; omega
      have hp1 : p + 1 ≤ 4294967295 := h4 0 (by simp [hodd])
      have e4 : IntKind.u32.wrap ((p : Int) + 1) = ((p + 1 : Nat) : Int) := by rw [IntKind.wrap_u32]; omega
      have e5 : (q : Int).fdiv (2 ^ min (Int.toNat 1) IntKind.u64.bits) = ((q / 2 : Nat) : Int) := fdiv_pow q 1
      repeat' ((try conv => whnf); first
        | (with_reducible refine BB_true ?_)
        | (with_reducible refine BB_false ?_)
        | (with_reducible refine Both.mk ?_ ?_)
        | (with_reducible refine VS.mk ?_)
        | (refine PSem.go (C := seat) seat_ok ?_)
        | (refine And.intro (PlanOK.mk (by kernel_rfl) rfl (by kernel_rfl) (by kernel_rfl)) ?_)
        | (refine And.intro rfl (Exists.intro _ (And.intro (by first | assumption | rfl) ?_)))
        | (refine And.intro ⟨rfl, rfl, rfl⟩ ?_)
        | (refine And.intro (by omega) ?_)
        | (refine BB.mk (fun _h => ?_) (fun _h => ?_) <;> (first | (exact absurd _h (by decide)) | (exfalso; simp only [boolSet] at _h <;> omega) | skip)))
      all_goals (try conv => whnf)
      obtain ⟨k', rfl⟩ : ∃ k', k = k' + 1 := ⟨k - 1, by rcases k with _ | k <;> simp at h1 ⊢; omega⟩
      exact ⟨(k', p + 1, q / 2), ⟨by dsimp only; rw [Nat.pow_succ] at h1; omega, by dsimp only; omega, by rw [norm_odd hodd] at h3; exact h3, fit_half h4⟩, by dsimp only; omega, ⟨⟨[0, 1], by decide, GG_no, rfl, SubOld.refl _ rfl, ⟨rfl, two_box e4 e5, trivial⟩, ⟨.inl rfl, .inl rfl, trivial⟩⟩, rfl⟩⟩
    · have hb1 : (IntKind.u64.wrap ((BitVec.ofInt IntKind.u64.bits (q : Int) &&& BitVec.ofInt IntKind.u64.bits 1).toNat : Int) == 1) = false := by rw [e3, beq_eq_false_iff_ne]; omega
      repeat' ((try conv => whnf); first
        | (with_reducible refine BB_true ?_)
        | (with_reducible refine BB_false ?_)
        | (with_reducible refine Both.mk ?_ ?_)
        | (with_reducible refine VS.mk ?_)
        | (refine PSem.go (C := seat) seat_ok ?_)
        | (refine And.intro (PlanOK.mk (by kernel_rfl) rfl (by kernel_rfl) (by kernel_rfl)) ?_)
        | (refine And.intro rfl (Exists.intro _ (And.intro (by first | assumption | rfl) ?_)))
        | (refine And.intro ⟨rfl, rfl, rfl⟩ ?_)
        | (refine And.intro (by omega) ?_)
        | (refine BB.mk (fun _h => ?_) (fun _h => ?_) <;> (first | (exact absurd _h (by decide)) | (exfalso; simp only [boolSet] at _h <;> omega) | skip)))
      all_goals (try conv => whnf)
      rw [norm_even (by omega)] at h3
      exact Fin.mk ⟨by rw [← h3], rfl⟩
  | false =>
    simp only [takeT, hm]
    refine fn_val (C := seat) seat_ok [] GG_no (Try.func13) rfl rfl rfl rfl rfl (fun _ => rfl) rfl ?_
    repeat' ((try conv => whnf); first
      | (with_reducible refine BB_true ?_)
      | (with_reducible refine BB_false ?_)
      | (with_reducible refine Both.mk ?_ ?_)
      | (with_reducible refine VS.mk ?_)
      | (refine PSem.go (C := seat) seat_ok ?_)
      | (refine And.intro (PlanOK.mk (by kernel_rfl) rfl (by kernel_rfl) (by kernel_rfl)) ?_)
      | (refine And.intro rfl (Exists.intro _ (And.intro (by first | assumption | rfl) ?_)))
      | (refine And.intro ⟨rfl, rfl, rfl⟩ ?_)
      | (refine call_ro [] (may_is w I P B d J n hw hP hB hn false hm) GG_no rfl rfl rfl trivial ?_; rintro r bs' ext ⟨rfl, rfl⟩)
      | (refine call_ro [] (begun_ok I P B J) GG_no rfl rfl rfl trivial ?_; rintro r bs' ext ⟨rfl, rfl⟩)
      | (refine And.intro (by rw [e1]; omega) ?_)
      | (refine And.intro (by omega) ?_)
      | (refine BB.mk (fun _h => ?_) (fun _h => ?_) <;> (first | (exact absurd _h (by decide)) | (exfalso; simp only [boolSet] at _h <;> omega) | skip)))
    all_goals (try conv => whnf)
    exact Fin.mk ⟨rfl, rfl⟩
end Go.Proofs.Ythgfpikhiaochaa
