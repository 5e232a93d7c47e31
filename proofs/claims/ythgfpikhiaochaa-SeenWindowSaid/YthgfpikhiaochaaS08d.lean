/- Package seen, by computing: the reference's Right and Take. -/
import Derived.Test.YthgfpikhiaochaaS08c
namespace Go.Proofs.Ythgfpikhiaochaa
open Go.RowKit

theorem bits_right {w : Int} {P B : Nat} (hB : B < 2 ^ 64) (hw : 1 ≤ w ∧ w ≤ 64) : (B % 2 = 0 ∧ B < 2 ^ min w.toNat (4294967295 - P)) ↔ ∀ i, i < 64 → B.testBit i = true → 1 ≤ i ∧ (i : Int) < w ∧ P + 1 + i ≤ 4294967295 := by
  rw [lt_bits hB]
  constructor
  · rintro ⟨h1, h2⟩ i hi hb
    have := h2 i hi hb
    refine ⟨?_, by omega, by omega⟩
    rcases i with _ | i
    · simp at hb; omega
    · omega
  · intro h
    refine ⟨?_, fun i hi hb => by have := h i hi hb; omega⟩
    by_cases h0 : B % 2 = 1
    · have := h 0 (by omega) (by simp [h0]); omega
    · omega
set_option maxRecDepth 100000 in
set_option maxHeartbeats 4000000 in
theorem rightR_ok (w : Int) (I P B : Nat) (hw : -9223372036854775808 ≤ w ∧ w ≤ 9223372036854775807) (hI : I ≤ 65535) (hP : P ≤ 4294967295) (hB : B < 2 ^ 64) : FnOK Try.prog GG 9 [] [.agg [.v (.int .u16 I), .v (.int .u32 P), .v (.int .u64 B)], .v (.int .i64 w)] (fun r _ ext => r = .v (.bool (rightB w I P B)) ∧ ext = []) := by
  by_cases hwB : 1 ≤ w ∧ w ≤ 64
  · have hb1 : winB w = true := by simpa [winB] using hwB
    by_cases hI0 : I = 0
    · refine fn_val (C := seat) seat_ok [] GG_no (Try.func9) rfl rfl rfl rfl rfl (fun _ => rfl) rfl ?_
      repeat' ((try conv => whnf); first
        | (with_reducible refine BB_true ?_)
        | (with_reducible refine BB_false ?_)
        | (with_reducible refine Both.mk ?_ ?_)
        | (with_reducible refine VS.mk ?_)
        | (refine PSem.go (C := seat) seat_ok ?_)
        | (refine And.intro (PlanOK.mk (by kernel_rfl) rfl (by kernel_rfl) (by kernel_rfl)) ?_)
        | (refine And.intro rfl (Exists.intro _ (And.intro (by first | assumption | rfl) ?_)))
        | (refine And.intro ⟨rfl, rfl, rfl⟩ ?_)
        | (refine And.intro (by omega) ?_)
        | (refine BB.mk (fun _h => ?_) (fun _h => ?_) <;> (first | (exact absurd _h (by decide)) | (exfalso; simp only [boolSet] at _h <;> omega) | skip)))
      all_goals (try conv => whnf)
      all_goals (try (refine Fin.mk ?_))
      all_goals
        refine ⟨bool_eq ?_, rfl⟩
        simp only [rightB, hb1, Bool.true_and]
        rw [if_pos hI0, Bool.eq_iff_iff]
        simp only [boolSet] at * <;> omega
    · have hspec : rightB w I P B = true ↔ ∀ i, i < 64 → B.testBit i = true → 1 ≤ i ∧ (i : Int) < w ∧ P + 1 + i ≤ 4294967295 := by
        rw [← bits_right hB hwB]
        simp [rightB, hb1, hI0]
      refine fn_val (C := seat) seat_ok [] GG_no (Try.func9) rfl rfl rfl rfl rfl (fun _ => rfl) rfl ?_
      repeat' ((try conv => whnf); first
        | (with_reducible refine BB_true ?_)
        | (with_reducible refine BB_false ?_)
        | (with_reducible refine Both.mk ?_ ?_)
        | (with_reducible refine VS.mk ?_)
        | (refine PSem.go (C := seat) seat_ok ?_)
        | (refine And.intro (PlanOK.mk (by kernel_rfl) rfl (by kernel_rfl) (by kernel_rfl)) ?_)
        | (refine And.intro rfl (Exists.intro _ (And.intro (by first | assumption | rfl) ?_)))
        | (refine And.intro ⟨rfl, rfl, rfl⟩ ?_)
        | (refine And.intro (by omega) ?_)
        | (refine BB.mk (fun _h => ?_) (fun _h => ?_) <;> (first | (exact absurd _h (by decide)) | (exfalso; simp only [boolSet] at _h <;> omega) | skip)))
      all_goals (try conv => whnf)
      refine loop_rule (α := Nat) (fun k => k ≤ 64 ∧ ∀ i, i < k → B.testBit i = true → 1 ≤ i ∧ (i : Int) < w ∧ P + 1 + i ≤ 4294967295) (fun k => { slots := [(1, .v (.int .i64 w)), (2, .p (.n 0) 0 0 0), (5, .v (.int .i64 (k : Int)))], nt := 49, mem := ⟨GG, [], [.box 26 [.v (.int .u16 I), .v (.int .u32 P), .v (.int .u64 B)]]⟩ }) (fun k => 64 - k) 0 ⟨Nat.zero_le _, fun i h => by omega⟩ ⟨⟨[0], (by decide), GG_no, rfl, (SubOld.refl _ rfl), ⟨rfl, trivial⟩, ⟨.inl rfl, .inl rfl, .inl rfl, trivial⟩⟩, rfl⟩ ?_ (fun _ => rfl)
      rintro k ⟨hk, hall⟩
      refine vc_sound (C := seat) seat_ok (pl := []) ?_
      by_cases hlt : k < 64
      · have hp : IntKind.i64.wrap (P : Int) = P := by rw [IntKind.wrap_i64]; omega
        have hp1 : IntKind.i64.wrap ((P : Int) + 1) = (P : Int) + 1 := by rw [IntKind.wrap_i64]; omega
        have hp2 : IntKind.i64.wrap ((P : Int) + 1 + (k : Int)) = (P : Int) + 1 + k := by rw [IntKind.wrap_i64]; omega
        have e2 : IntKind.i64.wrap ((k : Int) + 1) = ((k + 1 : Nat) : Int) := by rw [IntKind.wrap_i64]; omega
        have next : (B.testBit k = true → 1 ≤ k ∧ (k : Int) < w ∧ P + 1 + k ≤ 4294967295) → ∀ i, i < k + 1 → B.testBit i = true → 1 ≤ i ∧ (i : Int) < w ∧ P + 1 + i ≤ 4294967295 := fun h i hi hb => by
          by_cases e : i = k
          · subst e; exact h hb
          · exact hall i (by omega) hb
        have bad : B.testBit k = true → ¬ (1 ≤ k ∧ (k : Int) < w ∧ P + 1 + k ≤ 4294967295) → rightB w I P B = false := fun h1 h2 => by
          rw [← Bool.not_eq_true, hspec]
          exact fun h => h2 (h k hlt h1)
        cases hbk : B.testBit k with
        | true =>
          repeat' ((try conv => whnf); first
            | (with_reducible refine BB_true ?_)
            | (with_reducible refine BB_false ?_)
            | (with_reducible refine Both.mk ?_ ?_)
            | (with_reducible refine VS.mk ?_)
            | (refine PSem.go (C := seat) seat_ok ?_)
            | (refine And.intro (PlanOK.mk (by kernel_rfl) rfl (by kernel_rfl) (by kernel_rfl)) ?_)
            | (refine And.intro rfl (Exists.intro _ (And.intro (by first | assumption | rfl) ?_)))
            | (refine And.intro ⟨rfl, rfl, rfl⟩ ?_)
            | (refine call_ro [] (on_is B k true hB hlt hbk) GG_no rfl rfl rfl trivial ?_; rintro r bs' ext ⟨rfl, rfl⟩)
            | (refine And.intro (by omega) ?_)
            | (refine BB.mk (fun _h => ?_) (fun _h => ?_) <;> (first | (exact absurd _h (by decide)) | (exfalso; simp only [boolSet] at _h <;> omega) | skip)))
          all_goals (try conv => whnf)
          all_goals (try (refine Fin.mk ?_))
          all_goals first
            | (refine ⟨bool_eq (bad hbk ?_).symm, rfl⟩; (try rw [hp, hp1, hp2] at *); simp only [boolSet] at * <;> omega)
            | (refine ⟨k + 1, ⟨by omega, next ?_⟩, by omega, ⟨⟨[0], by decide, GG_no, rfl, SubOld.refl _ rfl, ⟨rfl, trivial⟩, ⟨.inl rfl, .inl rfl, .inl (num_eq e2), trivial⟩⟩, rfl⟩⟩; intro _; (try rw [hp, hp1, hp2] at *); simp only [boolSet] at * <;> omega)
        | false =>
          repeat' ((try conv => whnf); first
            | (with_reducible refine BB_true ?_)
            | (with_reducible refine BB_false ?_)
            | (with_reducible refine Both.mk ?_ ?_)
            | (with_reducible refine VS.mk ?_)
            | (refine PSem.go (C := seat) seat_ok ?_)
            | (refine And.intro (PlanOK.mk (by kernel_rfl) rfl (by kernel_rfl) (by kernel_rfl)) ?_)
            | (refine And.intro rfl (Exists.intro _ (And.intro (by first | assumption | rfl) ?_)))
            | (refine And.intro ⟨rfl, rfl, rfl⟩ ?_)
            | (refine call_ro [] (on_is B k false hB hlt hbk) GG_no rfl rfl rfl trivial ?_; rintro r bs' ext ⟨rfl, rfl⟩)
            | (refine And.intro (by omega) ?_)
            | (refine BB.mk (fun _h => ?_) (fun _h => ?_) <;> (first | (exact absurd _h (by decide)) | (exfalso; simp only [boolSet] at _h <;> omega) | skip)))
          all_goals (try conv => whnf)
          exact ⟨k + 1, ⟨by omega, next (fun h => by rw [hbk] at h; cases h)⟩, by omega, ⟨⟨[0], by decide, GG_no, rfl, SubOld.refl _ rfl, ⟨rfl, trivial⟩, ⟨.inl rfl, .inl rfl, .inl (num_eq e2), trivial⟩⟩, rfl⟩⟩
      · obtain rfl : k = 64 := by omega
        have hr := hspec.2 hall
        repeat' ((try conv => whnf); first
          | (with_reducible refine BB_true ?_)
          | (with_reducible refine BB_false ?_)
          | (with_reducible refine Both.mk ?_ ?_)
          | (with_reducible refine VS.mk ?_)
          | (refine PSem.go (C := seat) seat_ok ?_)
          | (refine And.intro (PlanOK.mk (by kernel_rfl) rfl (by kernel_rfl) (by kernel_rfl)) ?_)
          | (refine And.intro rfl (Exists.intro _ (And.intro (by first | assumption | rfl) ?_)))
          | (refine And.intro ⟨rfl, rfl, rfl⟩ ?_)
          | (refine And.intro (by omega) ?_)
          | (refine BB.mk (fun _h => ?_) (fun _h => ?_) <;> (first | (exact absurd _h (by decide)) | (exfalso; simp only [boolSet] at _h <;> omega) | skip)))
        all_goals (try conv => whnf)
        exact Fin.mk ⟨bool_eq hr.symm, rfl⟩
  · have hb0 : rightB w I P B = false := by simp [rightB, winB]; intro h1 h2; omega
    refine fn_val (C := seat) seat_ok [] GG_no (Try.func9) rfl rfl rfl rfl rfl (fun _ => rfl) rfl ?_
    repeat' ((try conv => whnf); first
      | (with_reducible refine BB_true ?_)
      | (with_reducible refine BB_false ?_)
      | (with_reducible refine Both.mk ?_ ?_)
      | (with_reducible refine VS.mk ?_)
      | (refine PSem.go (C := seat) seat_ok ?_)
      | (refine And.intro (PlanOK.mk (by kernel_rfl) rfl (by kernel_rfl) (by kernel_rfl)) ?_)
      | (refine And.intro rfl (Exists.intro _ (And.intro (by first | assumption | rfl) ?_)))
      | (refine And.intro ⟨rfl, rfl, rfl⟩ ?_)
      | (refine And.intro (by omega) ?_)
      | (refine BB.mk (fun _h => ?_) (fun _h => ?_) <;> (first | (exact absurd _h (by decide)) | (exfalso; simp only [boolSet] at _h <;> omega) | skip)))
    all_goals (try conv => whnf)
    all_goals (try (refine Fin.mk ?_))
    all_goals first
      | exact ⟨bool_eq hb0.symm, rfl⟩
      | (exfalso; simp only [boolSet] at * <;> omega)
theorem mayR_is (w : Int) (I P B : Nat) (d : Int) (J n : Nat) (hw : -9223372036854775808 ≤ w ∧ w ≤ 9223372036854775807) (hP : P ≤ 4294967295) (hB : B < 2 ^ 64) (hn : n ≤ 4294967295) (b : Bool) (hb : mayB w I P B J n = b) : FnOK Try.prog GG 18 [] [.agg [.v (.int .u16 I), .v (.int .u32 P), .v (.int .u64 B)], .agg [.v (.int .u8 d), .v (.int .u16 J), .v (.int .u32 n)], .v (.int .i64 w)] (fun r _ ext => r = .v (.bool b) ∧ ext = []) := by
  subst hb
  exact mayR_ok w I P B d J n hw hP hB hn
theorem add_wrap {B k : Nat} (hB : B < 2 ^ 64) (hk : k < 64) (h : B.testBit k = false) : IntKind.u64.wrap ((B : Int) + ((2 ^ k : Nat) : Int)) = ((B ||| 2 ^ k : Nat) : Int) := by
  have h1 := add_eq_or hB hk h
  have h2 := or_lt hB hk
  rw [← h1] at h2 ⊢
  rw [IntKind.wrap_u64]
  generalize 2 ^ k = m at h2
  omega
theorem three_box {I I' : Int} {y y' z z' : Int} (h0 : I = I') (h : y = y') (k : z = z') : some (SB.box 26 [.v (.int .u16 I), .v (.int .u32 y), .v (.int .u64 z)]) = some (SB.box 26 [.v (.int .u16 I'), .v (.int .u32 y'), .v (.int .u64 z')]) := by rw [h0, h, k]
set_option maxRecDepth 100000 in
set_option maxHeartbeats 4000000 in
theorem takeR_ok (w : Int) (I P B : Nat) (d : Int) (J n : Nat) (hw : -9223372036854775808 ≤ w ∧ w ≤ 9223372036854775807) (hP : P ≤ 4294967295) (hB : B < 2 ^ 64) (hn : n ≤ 4294967295) (hI : I ≤ 65535) (hJ : J ≤ 65535) (hf : fitB P B) : FnOK Try.prog GG 14 [] [.agg [.v (.int .u16 I), .v (.int .u32 P), .v (.int .u64 B)], .agg [.v (.int .u8 d), .v (.int .u16 J), .v (.int .u32 n)], .v (.int .i64 w)] (fun r _ ext => r = .tup [.agg [.v (.int .u16 (takeT w I P B J n).1), .v (.int .u32 (takeT w I P B J n).2.1), .v (.int .u64 (takeT w I P B J n).2.2)], .v (.bool (mayB w I P B J n))] ∧ ext = []) := by
  cases hm : mayB w I P B J n with
  | true =>
    obtain ⟨hw1, hw2, hJ0, hn0, hIJ, hPn, hk, hbit⟩ := may_facts hm
    have e1 := far_sub hPn hn
    have e2 : IntKind.i64.wrap (IntKind.u32.wrap (IntKind.u32.wrap ((n : Int) - (fromP I J P : Int)) - 1)) = ((n - fromP I J P - 1 : Nat) : Int) := by rw [e1, IntKind.wrap_i64]; omega
    have hB' : fromP I J B < 2 ^ 64 := fromP_lt hB
    have hfit : fitB (fromP I J P) (fromP I J B ||| 2 ^ (n - fromP I J P - 1)) := fit_or (fit_from hf) hPn hn
    have e3 := add_wrap hB' hk hbit
    simp only [takeT, hm, if_true]
    by_cases hlt : I < J
    · have f1 : fromI I J = J := if_pos hlt
      have f2 : fromP I J P = 0 := if_pos hlt
      have f3 : fromP I J B = 0 := if_pos hlt
      rw [f2] at e2
      rw [f2, f3] at e3
      have hk0 : n - 0 - 1 < 64 := by rw [f2] at hk; exact hk
      refine fn_val (C := seat) seat_ok [(5, (.of [(0, .take), (1, .take), (2, .take), (3, .take), (4, .take), (5, .take), (6, .take), (7, .take), (8, .take), (9, .do_), (10, .take), (11, .take), (12, .last)]))] GG_no (Try.func14) rfl rfl rfl rfl rfl (fun _ => rfl) rfl ?_
      repeat' ((try conv => whnf); first
        | (with_reducible refine BB_true ?_)
        | (with_reducible refine BB_false ?_)
        | (with_reducible refine Both.mk ?_ ?_)
        | (with_reducible refine VS.mk ?_)
        | (refine PSem.go (C := seat) seat_ok ?_)
        | (refine And.intro (PlanOK.mk (by kernel_rfl) rfl (by kernel_rfl) (by kernel_rfl)) ?_)
        | (refine And.intro rfl (Exists.intro _ (And.intro (by first | assumption | rfl) ?_)))
        | (refine And.intro ⟨rfl, rfl, rfl⟩ ?_)
        | (refine call_ro [] (mayR_is w I P B d J n hw hP hB hn true hm) GG_no rfl rfl rfl trivial ?_; rintro r bs' ext ⟨rfl, rfl⟩)
        | (refine call_ro [] (power_at (n - 0 - 1) _ hk0 e2) GG_no rfl rfl rfl trivial ?_; rintro r bs' ext ⟨rfl, rfl⟩)
        | (refine And.intro (by omega) ?_)
        | (refine BB.mk (fun _h => ?_) (fun _h => ?_) <;> (first | (exact absurd _h (by decide)) | (exfalso; simp only [boolSet] at _h <;> omega) | skip)))
      all_goals (try conv => whnf)
      refine loop_rule (α := Nat × Nat × Nat) (fun p => p.2.2 < 2 ^ p.1 ∧ p.1 ≤ 64 ∧ norm p.1 p.2.1 p.2.2 = takeP I P B J n ∧ fitB p.2.1 p.2.2) (fun p => { slots := [(3, .p (.n 0) 0 0 0), (6, .p (.n 1) 0 0 0)], nt := 47, mem := ⟨GG, [], [.box 26 [.v (.int .u16 (fromI I J)), .v (.int .u32 p.2.1), .v (.int .u64 p.2.2)], .box 26 [.v (.int .u16 0), .v (.int .u32 0), .v (.int .u64 0)]]⟩ }) (fun p => p.1) (64, fromP I J P, fromP I J B ||| 2 ^ (n - fromP I J P - 1)) ⟨or_lt hB' hk, Nat.le_refl _, rfl, hfit⟩ ⟨⟨[0, 2], (by decide), GG_no, rfl, (SubOld.refl _ rfl), ⟨three_box (by rw [f1]) (by rw [f2]; rfl) (by rw [f2, f3]; exact e3), rfl, trivial⟩, ⟨.inl rfl, .inl rfl, trivial⟩⟩, rfl⟩ ?_ (fun _ => rfl)
      rintro ⟨k, p, q⟩ ⟨h1, h2, h3, h4⟩
      dsimp only at h1 h2 h3 h4 ⊢
      refine vc_sound (C := seat) seat_ok (pl := [(5, (.of [(0, .take), (1, .take), (2, .take), (3, .take), (4, .take), (5, .take), (6, .take), (7, .take), (8, .take), (9, .do_), (10, .take), (11, .take), (12, .last)]))]) ?_
      have hq : q < 2 ^ 64 := Nat.lt_of_lt_of_le h1 (Nat.pow_le_pow_right (by omega) h2)
      have e3 : (q : Int).tmod 2 = (q : Int) % 2 := Int.tmod_eq_emod_of_nonneg (Int.natCast_nonneg _)
      by_cases hodd : q % 2 = 1
      · have hb1 : ((q : Int).tmod 2 == 1) = true := by rw [e3, beq_iff_eq]; omega
        have hp1 : p + 1 ≤ 4294967295 := h4 0 (by simp [hodd])
        have e4 : IntKind.u32.wrap ((p : Int) + 1) = ((p + 1 : Nat) : Int) := by rw [IntKind.wrap_u32]; omega
        have e5 : IntKind.u64.wrap ((q : Int).tdiv 2) = ((q / 2 : Nat) : Int) := by rw [Int.tdiv_eq_ediv_of_nonneg (Int.natCast_nonneg _), IntKind.wrap_u64]; omega
        repeat' ((try conv => whnf); first
          | (with_reducible refine BB_true ?_)
          | (with_reducible refine BB_false ?_)
          | (with_reducible refine Both.mk ?_ ?_)
          | (with_reducible refine VS.mk ?_)
          | (refine PSem.go (C := seat) seat_ok ?_)
          | (refine And.intro (PlanOK.mk (by kernel_rfl) rfl (by kernel_rfl) (by kernel_rfl)) ?_)
          | (refine And.intro rfl (Exists.intro _ (And.intro (by first | assumption | rfl) ?_)))
          | (refine And.intro ⟨rfl, rfl, rfl⟩ ?_)
          | (refine And.intro (by decide) ?_)
          | (refine And.intro (by omega) ?_)
          | (refine BB.mk (fun _h => ?_) (fun _h => ?_) <;> (first | (exact absurd _h (by decide)) | (exfalso; simp only [boolSet] at _h <;> omega) | skip)))
        all_goals (try conv => whnf)
        obtain ⟨k', rfl⟩ : ∃ k', k = k' + 1 := ⟨k - 1, by rcases k with _ | k <;> simp at h1 ⊢; omega⟩
        exact ⟨(k', p + 1, q / 2), ⟨by dsimp only; rw [Nat.pow_succ] at h1; omega, by dsimp only; omega, by rw [norm_odd hodd] at h3; exact h3, fit_half h4⟩, by dsimp only; omega, ⟨⟨[0, 1], by decide, GG_no, rfl, SubOld.refl _ rfl, ⟨two_box e4 e5, rfl, trivial⟩, ⟨.inl rfl, .inl rfl, trivial⟩⟩, rfl⟩⟩
      · have hb1 : ((q : Int).tmod 2 == 1) = false := by rw [e3, beq_eq_false_iff_ne]; omega
        repeat' ((try conv => whnf); first
          | (with_reducible refine BB_true ?_)
          | (with_reducible refine BB_false ?_)
          | (with_reducible refine Both.mk ?_ ?_)
          | (with_reducible refine VS.mk ?_)
          | (refine PSem.go (C := seat) seat_ok ?_)
          | (refine And.intro (PlanOK.mk (by kernel_rfl) rfl (by kernel_rfl) (by kernel_rfl)) ?_)
          | (refine And.intro rfl (Exists.intro _ (And.intro (by first | assumption | rfl) ?_)))
          | (refine And.intro ⟨rfl, rfl, rfl⟩ ?_)
          | (refine And.intro (by decide) ?_)
          | (refine And.intro (by omega) ?_)
          | (refine BB.mk (fun _h => ?_) (fun _h => ?_) <;> (first | (exact absurd _h (by decide)) | (exfalso; simp only [boolSet] at _h <;> omega) | skip)))
        all_goals (try conv => whnf)
        rw [norm_even (by omega)] at h3
        exact Fin.mk ⟨by rw [← h3], rfl⟩
    · have f1 : fromI I J = I := if_neg hlt
      have f2 : fromP I J P = P := if_neg hlt
      have f3 : fromP I J B = B := if_neg hlt
      rw [f2] at e2
      rw [f2, f3] at e3
      have hk0 : n - P - 1 < 64 := by rw [f2] at hk; exact hk
      refine fn_val (C := seat) seat_ok [(5, (.of [(0, .take), (1, .take), (2, .take), (3, .take), (4, .take), (5, .take), (6, .take), (7, .take), (8, .take), (9, .do_), (10, .take), (11, .take), (12, .last)]))] GG_no (Try.func14) rfl rfl rfl rfl rfl (fun _ => rfl) rfl ?_
      repeat' ((try conv => whnf); first
        | (with_reducible refine BB_true ?_)
        | (with_reducible refine BB_false ?_)
        | (with_reducible refine Both.mk ?_ ?_)
        | (with_reducible refine VS.mk ?_)
        | (refine PSem.go (C := seat) seat_ok ?_)
        | (refine And.intro (PlanOK.mk (by kernel_rfl) rfl (by kernel_rfl) (by kernel_rfl)) ?_)
        | (refine And.intro rfl (Exists.intro _ (And.intro (by first | assumption | rfl) ?_)))
        | (refine And.intro ⟨rfl, rfl, rfl⟩ ?_)
        | (refine call_ro [] (mayR_is w I P B d J n hw hP hB hn true hm) GG_no rfl rfl rfl trivial ?_; rintro r bs' ext ⟨rfl, rfl⟩)
        | (refine call_ro [] (power_at (n - P - 1) _ hk0 e2) GG_no rfl rfl rfl trivial ?_; rintro r bs' ext ⟨rfl, rfl⟩)
        | (refine And.intro (by omega) ?_)
        | (refine BB.mk (fun _h => ?_) (fun _h => ?_) <;> (first | (exact absurd _h (by decide)) | (exfalso; simp only [boolSet] at _h <;> omega) | skip)))
      all_goals (try conv => whnf)
      refine loop_rule (α := Nat × Nat × Nat) (fun p => p.2.2 < 2 ^ p.1 ∧ p.1 ≤ 64 ∧ norm p.1 p.2.1 p.2.2 = takeP I P B J n ∧ fitB p.2.1 p.2.2) (fun p => { slots := [(3, .p (.n 0) 0 0 0), (6, .p (.n 1) 0 0 0)], nt := 47, mem := ⟨GG, [], [.box 26 [.v (.int .u16 (fromI I J)), .v (.int .u32 p.2.1), .v (.int .u64 p.2.2)], .box 26 [.v (.int .u16 0), .v (.int .u32 0), .v (.int .u64 0)]]⟩ }) (fun p => p.1) (64, fromP I J P, fromP I J B ||| 2 ^ (n - fromP I J P - 1)) ⟨or_lt hB' hk, Nat.le_refl _, rfl, hfit⟩ ⟨⟨[0, 2], (by decide), GG_no, rfl, (SubOld.refl _ rfl), ⟨three_box (by rw [f1]) (by rw [f2]) (by rw [f2, f3]; exact e3), rfl, trivial⟩, ⟨.inl rfl, .inl rfl, trivial⟩⟩, rfl⟩ ?_ (fun _ => rfl)
      rintro ⟨k, p, q⟩ ⟨h1, h2, h3, h4⟩
      dsimp only at h1 h2 h3 h4 ⊢
      refine vc_sound (C := seat) seat_ok (pl := [(5, (.of [(0, .take), (1, .take), (2, .take), (3, .take), (4, .take), (5, .take), (6, .take), (7, .take), (8, .take), (9, .do_), (10, .take), (11, .take), (12, .last)]))]) ?_
      have hq : q < 2 ^ 64 := Nat.lt_of_lt_of_le h1 (Nat.pow_le_pow_right (by omega) h2)
      have e3 : (q : Int).tmod 2 = (q : Int) % 2 := Int.tmod_eq_emod_of_nonneg (Int.natCast_nonneg _)
      by_cases hodd : q % 2 = 1
      · have hb1 : ((q : Int).tmod 2 == 1) = true := by rw [e3, beq_iff_eq]; omega
        have hp1 : p + 1 ≤ 4294967295 := h4 0 (by simp [hodd])
        have e4 : IntKind.u32.wrap ((p : Int) + 1) = ((p + 1 : Nat) : Int) := by rw [IntKind.wrap_u32]; omega
        have e5 : IntKind.u64.wrap ((q : Int).tdiv 2) = ((q / 2 : Nat) : Int) := by rw [Int.tdiv_eq_ediv_of_nonneg (Int.natCast_nonneg _), IntKind.wrap_u64]; omega
        repeat' ((try conv => whnf); first
          | (with_reducible refine BB_true ?_)
          | (with_reducible refine BB_false ?_)
          | (with_reducible refine Both.mk ?_ ?_)
          | (with_reducible refine VS.mk ?_)
          | (refine PSem.go (C := seat) seat_ok ?_)
          | (refine And.intro (PlanOK.mk (by kernel_rfl) rfl (by kernel_rfl) (by kernel_rfl)) ?_)
          | (refine And.intro rfl (Exists.intro _ (And.intro (by first | assumption | rfl) ?_)))
          | (refine And.intro ⟨rfl, rfl, rfl⟩ ?_)
          | (refine And.intro (by decide) ?_)
          | (refine And.intro (by omega) ?_)
          | (refine BB.mk (fun _h => ?_) (fun _h => ?_) <;> (first | (exact absurd _h (by decide)) | (exfalso; simp only [boolSet] at _h <;> omega) | skip)))
        all_goals (try conv => whnf)
        obtain ⟨k', rfl⟩ : ∃ k', k = k' + 1 := ⟨k - 1, by rcases k with _ | k <;> simp at h1 ⊢; omega⟩
        exact ⟨(k', p + 1, q / 2), ⟨by dsimp only; rw [Nat.pow_succ] at h1; omega, by dsimp only; omega, by rw [norm_odd hodd] at h3; exact h3, fit_half h4⟩, by dsimp only; omega, ⟨⟨[0, 1], by decide, GG_no, rfl, SubOld.refl _ rfl, ⟨two_box e4 e5, rfl, trivial⟩, ⟨.inl rfl, .inl rfl, trivial⟩⟩, rfl⟩⟩
      · have hb1 : ((q : Int).tmod 2 == 1) = false := by rw [e3, beq_eq_false_iff_ne]; omega
        repeat' ((try conv => whnf); first
          | (with_reducible refine BB_true ?_)
          | (with_reducible refine BB_false ?_)
          | (with_reducible refine Both.mk ?_ ?_)
          | (with_reducible refine VS.mk ?_)
          | (refine PSem.go (C := seat) seat_ok ?_)
          | (refine And.intro (PlanOK.mk (by kernel_rfl) rfl (by kernel_rfl) (by kernel_rfl)) ?_)
          | (refine And.intro rfl (Exists.intro _ (And.intro (by first | assumption | rfl) ?_)))
          | (refine And.intro ⟨rfl, rfl, rfl⟩ ?_)
          | (refine And.intro (by decide) ?_)
          | (refine And.intro (by omega) ?_)
          | (refine BB.mk (fun _h => ?_) (fun _h => ?_) <;> (first | (exact absurd _h (by decide)) | (exfalso; simp only [boolSet] at _h <;> omega) | skip)))
        all_goals (try conv => whnf)
        rw [norm_even (by omega)] at h3
        exact Fin.mk ⟨by rw [← h3], rfl⟩
  | false =>
    simp only [takeT, hm]
    refine fn_val (C := seat) seat_ok [(5, (.of [(0, .take), (1, .take), (2, .take), (3, .take), (4, .take), (5, .take), (6, .take), (7, .take), (8, .take), (9, .do_), (10, .take), (11, .take), (12, .last)]))] GG_no (Try.func14) rfl rfl rfl rfl rfl (fun _ => rfl) rfl ?_
    repeat' ((try conv => whnf); first
      | (with_reducible refine BB_true ?_)
      | (with_reducible refine BB_false ?_)
      | (with_reducible refine Both.mk ?_ ?_)
      | (with_reducible refine VS.mk ?_)
      | (refine PSem.go (C := seat) seat_ok ?_)
      | (refine And.intro (PlanOK.mk (by kernel_rfl) rfl (by kernel_rfl) (by kernel_rfl)) ?_)
      | (refine And.intro rfl (Exists.intro _ (And.intro (by first | assumption | rfl) ?_)))
      | (refine And.intro ⟨rfl, rfl, rfl⟩ ?_)
      | (refine call_ro [] (mayR_is w I P B d J n hw hP hB hn false hm) GG_no rfl rfl rfl trivial ?_; rintro r bs' ext ⟨rfl, rfl⟩)
      | (refine And.intro (by omega) ?_)
      | (refine BB.mk (fun _h => ?_) (fun _h => ?_) <;> (first | (exact absurd _h (by decide)) | (exfalso; simp only [boolSet] at _h <;> omega) | skip)))
    all_goals (try conv => whnf)
    exact Fin.mk ⟨rfl, rfl⟩
end Go.Proofs.Ythgfpikhiaochaa
