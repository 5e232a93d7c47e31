/- Package seen, by computing: which rows are right; the reference. -/
import Derived.Test.YthgfpikhiaochaaS08b
namespace Go.Proofs.Ythgfpikhiaochaa
open Go.RowKit

theorem half_wrap {B k : Nat} (hB : B < 2 ^ 64) : IntKind.u64.wrap (((B / 2 ^ k : Nat) : Int).tdiv 2) = ((B / 2 ^ (k + 1) : Nat) : Int) := by
  have h1 : B / 2 ^ k < 2 ^ 64 := Nat.lt_of_le_of_lt (Nat.div_le_self _ _) hB
  rw [Int.tdiv_eq_ediv_of_nonneg (Int.natCast_nonneg _), Nat.pow_succ, ← Nat.div_div_eq_div_mul, IntKind.wrap_u64]
  generalize B / 2 ^ k = m at h1
  omega
theorem tmod_bit (B k : Nat) : ((((B / 2 ^ k : Nat) : Int).tmod 2) == 1) = B.testBit k := by
  rw [Int.tmod_eq_emod_of_nonneg (Int.natCast_nonneg _), bit_of]
theorem dbl_wrap {k : Nat} (h : k < 63) : IntKind.u64.wrap (((2 ^ k : Nat) : Int) * 2) = ((2 ^ (k + 1) : Nat) : Int) := by
  have h2 : 2 ^ (k + 1) < 2 ^ 64 := Nat.pow_lt_pow_right (by omega) (by omega)
  rw [IntKind.wrap_u64]
  rw [Nat.pow_succ] at h2 ⊢
  generalize 2 ^ k = m at h2
  omega
set_option maxRecDepth 100000 in
set_option maxHeartbeats 4000000 in
theorem on_ok (B i : Nat) (hB : B < 2 ^ 64) (hi : i < 64) : FnOK Try.prog GG 22 [] [.v (.int .u64 B), .v (.int .i64 i)] (fun r _ ext => r = .v (.bool (B.testBit i)) ∧ ext = []) := by
  refine fn_val (C := seat) seat_ok [] GG_no (Try.func22) rfl rfl rfl rfl rfl (fun _ => rfl) rfl ?_
  repeat' ((try conv => whnf); first
    | (with_reducible refine BB_true ?_)
    | (with_reducible refine BB_false ?_)
    | (with_reducible refine Both.mk ?_ ?_)
    | (with_reducible refine VS.mk ?_)
    | (refine PSem.go (C := seat) seat_ok ?_)
    | (refine And.intro (PlanOK.mk (by kernel_rfl) rfl (by kernel_rfl) (by kernel_rfl)) ?_)
    | (refine And.intro rfl (Exists.intro _ (And.intro (by first | assumption | rfl) ?_)))
    | (refine And.intro ⟨rfl, rfl, rfl⟩ ?_)
    | (refine And.intro (by omega) ?_)
    | (refine BB.mk (fun _h => ?_) (fun _h => ?_) <;> (first | (exact absurd _h (by decide)) | (exfalso; simp only [boolSet] at _h <;> omega) | skip)))
  all_goals (try conv => whnf)
  refine loop_rule (α := Nat) (fun k => k ≤ i) (fun k => { slots := [(0, .v (.int .u64 ((B / 2 ^ k : Nat) : Int))), (1, .v (.int .i64 i)), (5, .v (.int .i64 (k : Int)))], nt := 20, mem := ⟨GG, [], []⟩ }) (fun k => i - k) 0 (Nat.zero_le _) ⟨⟨[], List.nodup_nil, GG_no, rfl, (SubOld.refl _ rfl), trivial, ⟨.inl (num_eq (by rw [Nat.pow_zero, Nat.div_one])), .inl rfl, .inl rfl, trivial⟩⟩, rfl⟩ ?_ (fun _ => rfl)
  rintro k hk
  refine vc_sound (C := seat) seat_ok (pl := []) ?_
  by_cases hlt : k < i
  · have e1 := half_wrap (k := k) hB
    have e2 : IntKind.i64.wrap ((k : Int) + 1) = ((k + 1 : Nat) : Int) := by rw [IntKind.wrap_i64]; omega
    repeat' ((try conv => whnf); first
      | (with_reducible refine BB_true ?_)
      | (with_reducible refine BB_false ?_)
      | (with_reducible refine Both.mk ?_ ?_)
      | (with_reducible refine VS.mk ?_)
      | (refine PSem.go (C := seat) seat_ok ?_)
      | (refine And.intro (PlanOK.mk (by kernel_rfl) rfl (by kernel_rfl) (by kernel_rfl)) ?_)
      | (refine And.intro rfl (Exists.intro _ (And.intro (by first | assumption | rfl) ?_)))
      | (refine And.intro ⟨rfl, rfl, rfl⟩ ?_)
      | (refine And.intro (by decide) ?_)
      | (refine And.intro (by omega) ?_)
      | (refine BB.mk (fun _h => ?_) (fun _h => ?_) <;> (first | (exact absurd _h (by decide)) | (exfalso; simp only [boolSet] at _h <;> omega) | skip)))
    all_goals (try conv => whnf)
    exact ⟨k + 1, by omega, by omega, ⟨⟨[], List.nodup_nil, GG_no, rfl, SubOld.refl _ rfl, trivial, ⟨.inl (num_eq e1), .inl rfl, .inl (num_eq e2), trivial⟩⟩, rfl⟩⟩
  · obtain rfl : k = i := by omega
    have e1 := tmod_bit B k
    repeat' ((try conv => whnf); first
      | (with_reducible refine BB_true ?_)
      | (with_reducible refine BB_false ?_)
      | (with_reducible refine Both.mk ?_ ?_)
      | (with_reducible refine VS.mk ?_)
      | (refine PSem.go (C := seat) seat_ok ?_)
      | (refine And.intro (PlanOK.mk (by kernel_rfl) rfl (by kernel_rfl) (by kernel_rfl)) ?_)
      | (refine And.intro rfl (Exists.intro _ (And.intro (by first | assumption | rfl) ?_)))
      | (refine And.intro ⟨rfl, rfl, rfl⟩ ?_)
      | (refine And.intro (by decide) ?_)
      | (refine And.intro (by omega) ?_)
      | (refine BB.mk (fun _h => ?_) (fun _h => ?_) <;> (first | (exact absurd _h (by decide)) | (exfalso; simp only [boolSet] at _h <;> omega) | skip)))
    all_goals (try conv => whnf)
    all_goals exact Fin.mk ⟨bool_eq e1, rfl⟩
set_option maxRecDepth 100000 in
set_option maxHeartbeats 4000000 in
theorem power_ok (i : Nat) (hi : i < 64) : FnOK Try.prog GG 24 [] [.v (.int .i64 i)] (fun r _ ext => r = .v (.int .u64 ((2 ^ i : Nat) : Int)) ∧ ext = []) := by
  refine fn_val (C := seat) seat_ok [] GG_no (Try.func24) rfl rfl rfl rfl rfl (fun _ => rfl) rfl ?_
  repeat' ((try conv => whnf); first
    | (with_reducible refine BB_true ?_)
    | (with_reducible refine BB_false ?_)
    | (with_reducible refine Both.mk ?_ ?_)
    | (with_reducible refine VS.mk ?_)
    | (refine PSem.go (C := seat) seat_ok ?_)
    | (refine And.intro (PlanOK.mk (by kernel_rfl) rfl (by kernel_rfl) (by kernel_rfl)) ?_)
    | (refine And.intro rfl (Exists.intro _ (And.intro (by first | assumption | rfl) ?_)))
    | (refine And.intro ⟨rfl, rfl, rfl⟩ ?_)
    | (refine And.intro (by omega) ?_)
    | (refine BB.mk (fun _h => ?_) (fun _h => ?_) <;> (first | (exact absurd _h (by decide)) | (exfalso; simp only [boolSet] at _h <;> omega) | skip)))
  all_goals (try conv => whnf)
  refine loop_rule (α := Nat) (fun k => k ≤ i) (fun k => { slots := [(0, .v (.int .i64 i)), (3, .v (.int .u64 ((2 ^ k : Nat) : Int))), (4, .v (.int .i64 (k : Int)))], nt := 13, mem := ⟨GG, [], []⟩ }) (fun k => i - k) 0 (Nat.zero_le _) ⟨⟨[], List.nodup_nil, GG_no, rfl, (SubOld.refl _ rfl), trivial, ⟨.inl rfl, .inl rfl, .inl rfl, trivial⟩⟩, rfl⟩ ?_ (fun _ => rfl)
  rintro k hk
  refine vc_sound (C := seat) seat_ok (pl := []) ?_
  by_cases hlt : k < i
  · have e1 := dbl_wrap (k := k) (by omega)
    have e2 : IntKind.i64.wrap ((k : Int) + 1) = ((k + 1 : Nat) : Int) := by rw [IntKind.wrap_i64]; omega
    repeat' ((try conv => whnf); first
      | (with_reducible refine BB_true ?_)
      | (with_reducible refine BB_false ?_)
      | (with_reducible refine Both.mk ?_ ?_)
      | (with_reducible refine VS.mk ?_)
      | (refine PSem.go (C := seat) seat_ok ?_)
      | (refine And.intro (PlanOK.mk (by kernel_rfl) rfl (by kernel_rfl) (by kernel_rfl)) ?_)
      | (refine And.intro rfl (Exists.intro _ (And.intro (by first | assumption | rfl) ?_)))
      | (refine And.intro ⟨rfl, rfl, rfl⟩ ?_)
      | (refine And.intro (by omega) ?_)
      | (refine BB.mk (fun _h => ?_) (fun _h => ?_) <;> (first | (exact absurd _h (by decide)) | (exfalso; simp only [boolSet] at _h <;> omega) | skip)))
    all_goals (try conv => whnf)
    exact ⟨k + 1, by omega, by omega, ⟨⟨[], List.nodup_nil, GG_no, rfl, SubOld.refl _ rfl, trivial, ⟨.inl rfl, .inl (num_eq e1), .inl (num_eq e2), trivial⟩⟩, rfl⟩⟩
  · obtain rfl : k = i := by omega
    repeat' ((try conv => whnf); first
      | (with_reducible refine BB_true ?_)
      | (with_reducible refine BB_false ?_)
      | (with_reducible refine Both.mk ?_ ?_)
      | (with_reducible refine VS.mk ?_)
      | (refine PSem.go (C := seat) seat_ok ?_)
      | (refine And.intro (PlanOK.mk (by kernel_rfl) rfl (by kernel_rfl) (by kernel_rfl)) ?_)
      | (refine And.intro rfl (Exists.intro _ (And.intro (by first | assumption | rfl) ?_)))
      | (refine And.intro ⟨rfl, rfl, rfl⟩ ?_)
      | (refine And.intro (by omega) ?_)
      | (refine BB.mk (fun _h => ?_) (fun _h => ?_) <;> (first | (exact absurd _h (by decide)) | (exfalso; simp only [boolSet] at _h <;> omega) | skip)))
    all_goals (try conv => whnf)
    all_goals exact Fin.mk ⟨rfl, rfl⟩
theorem on_at (B i : Nat) (j : Int) (hB : B < 2 ^ 64) (hi : i < 64) (hj : j = i) : FnOK Try.prog GG 22 [] [.v (.int .u64 B), .v (.int .i64 j)] (fun r _ ext => r = .v (.bool (B.testBit i)) ∧ ext = []) := by
  subst hj
  exact on_ok B i hB hi
theorem on_is (B i : Nat) (b : Bool) (hB : B < 2 ^ 64) (hi : i < 64) (hb : B.testBit i = b) : FnOK Try.prog GG 22 [] [.v (.int .u64 B), .v (.int .i64 i)] (fun r _ ext => r = .v (.bool b) ∧ ext = []) := by
  subst hb
  exact on_ok B i hB hi
theorem power_at (i : Nat) (j : Int) (hi : i < 64) (hj : j = i) : FnOK Try.prog GG 24 [] [.v (.int .i64 j)] (fun r _ ext => r = .v (.int .u64 ((2 ^ i : Nat) : Int)) ∧ ext = []) := by
  subst hj
  exact power_ok i hi
set_option maxRecDepth 100000 in
set_option maxHeartbeats 4000000 in
theorem seen_ok (I P B n : Nat) (hP : P ≤ 4294967295) (hB : B < 2 ^ 64) (hn : n ≤ 4294967295) : FnOK Try.prog GG 26 [] [.agg [.v (.int .u16 I), .v (.int .u32 P), .v (.int .u64 B)], .v (.int .u32 n)] (fun r _ ext => r = .v (.bool (sees P B n)) ∧ ext = []) := by
  by_cases hnP : n ≤ P
  · refine fn_val (C := seat) seat_ok [] GG_no (Try.func26) rfl rfl rfl rfl rfl (fun _ => rfl) rfl ?_
    repeat' ((try conv => whnf); first
      | (with_reducible refine BB_true ?_)
      | (with_reducible refine BB_false ?_)
      | (with_reducible refine Both.mk ?_ ?_)
      | (with_reducible refine VS.mk ?_)
      | (refine PSem.go (C := seat) seat_ok ?_)
      | (refine And.intro (PlanOK.mk (by kernel_rfl) rfl (by kernel_rfl) (by kernel_rfl)) ?_)
      | (refine And.intro rfl (Exists.intro _ (And.intro (by first | assumption | rfl) ?_)))
      | (refine And.intro ⟨rfl, rfl, rfl⟩ ?_)
      | (refine And.intro (by omega) ?_)
      | (refine BB.mk (fun _h => ?_) (fun _h => ?_) <;> (first | (exact absurd _h (by decide)) | (exfalso; simp only [boolSet] at _h <;> omega) | skip)))
    all_goals (try conv => whnf)
    all_goals (try (refine Fin.mk ?_))
    all_goals (refine ⟨bool_eq ?_, rfl⟩; grind [sees])
  · have e1 := far_sub (n := n) (P := P) (by omega) hn
    by_cases hfar : n - P - 1 < 64
    · have e2 : IntKind.i64.wrap (IntKind.u32.wrap (IntKind.u32.wrap ((n : Int) - (P : Int)) - 1)) = ((n - P - 1 : Nat) : Int) := by rw [e1, IntKind.wrap_i64]; omega
      refine fn_val (C := seat) seat_ok [] GG_no (Try.func26) rfl rfl rfl rfl rfl (fun _ => rfl) rfl ?_
      repeat' ((try conv => whnf); first
        | (with_reducible refine BB_true ?_)
        | (with_reducible refine BB_false ?_)
        | (with_reducible refine Both.mk ?_ ?_)
        | (with_reducible refine VS.mk ?_)
        | (refine PSem.go (C := seat) seat_ok ?_)
        | (refine And.intro (PlanOK.mk (by kernel_rfl) rfl (by kernel_rfl) (by kernel_rfl)) ?_)
        | (refine And.intro rfl (Exists.intro _ (And.intro (by first | assumption | rfl) ?_)))
        | (refine And.intro ⟨rfl, rfl, rfl⟩ ?_)
        | (refine call_ro [] (on_at B (n - P - 1) _ hB hfar e2) GG_no rfl rfl rfl trivial ?_; rintro r bs' ext ⟨rfl, rfl⟩)
        | (refine And.intro (by omega) ?_)
        | (refine BB.mk (fun _h => ?_) (fun _h => ?_) <;> (first | (exact absurd _h (by decide)) | (exfalso; simp only [boolSet] at _h <;> omega) | skip)))
      all_goals (try conv => whnf)
      all_goals (try (refine Fin.mk ?_))
      all_goals (refine ⟨bool_eq ?_, rfl⟩; grind [sees])
    · have hb : B.testBit (n - P - 1) = false := Nat.testBit_lt_two_pow (Nat.lt_of_lt_of_le hB (Nat.pow_le_pow_right (by omega) (by omega)))
      refine fn_val (C := seat) seat_ok [] GG_no (Try.func26) rfl rfl rfl rfl rfl (fun _ => rfl) rfl ?_
      repeat' ((try conv => whnf); first
        | (with_reducible refine BB_true ?_)
        | (with_reducible refine BB_false ?_)
        | (with_reducible refine Both.mk ?_ ?_)
        | (with_reducible refine VS.mk ?_)
        | (refine PSem.go (C := seat) seat_ok ?_)
        | (refine And.intro (PlanOK.mk (by kernel_rfl) rfl (by kernel_rfl) (by kernel_rfl)) ?_)
        | (refine And.intro rfl (Exists.intro _ (And.intro (by first | assumption | rfl) ?_)))
        | (refine And.intro ⟨rfl, rfl, rfl⟩ ?_)
        | (refine And.intro (by omega) ?_)
        | (refine BB.mk (fun _h => ?_) (fun _h => ?_) <;> (first | (exact absurd _h (by decide)) | (exfalso; simp only [boolSet] at _h <;> omega) | skip)))
      all_goals (try conv => whnf)
      all_goals (try (refine Fin.mk ?_))
      all_goals (refine ⟨bool_eq ?_, rfl⟩; grind [sees])
set_option maxRecDepth 100000 in
set_option maxHeartbeats 4000000 in
theorem hasR_ok (I P B : Nat) (d : Int) (J n : Nat) (hP : P ≤ 4294967295) (hB : B < 2 ^ 64) (hn : n ≤ 4294967295) : FnOK Try.prog GG 16 [] [.agg [.v (.int .u16 I), .v (.int .u32 P), .v (.int .u64 B)], .agg [.v (.int .u8 d), .v (.int .u16 J), .v (.int .u32 n)]] (fun r _ ext => r = .v (.bool (hasB I P B J n)) ∧ ext = []) := by
  refine fn_val (C := seat) seat_ok [] GG_no (Try.func16) rfl rfl rfl rfl rfl (fun _ => rfl) rfl ?_
  repeat' ((try conv => whnf); first
    | (with_reducible refine BB_true ?_)
    | (with_reducible refine BB_false ?_)
    | (with_reducible refine Both.mk ?_ ?_)
    | (with_reducible refine VS.mk ?_)
    | (refine PSem.go (C := seat) seat_ok ?_)
    | (refine And.intro (PlanOK.mk (by kernel_rfl) rfl (by kernel_rfl) (by kernel_rfl)) ?_)
    | (refine And.intro rfl (Exists.intro _ (And.intro (by first | assumption | rfl) ?_)))
    | (refine And.intro ⟨rfl, rfl, rfl⟩ ?_)
    | (refine call_ro [] (seen_ok I P B n hP hB hn) GG_no rfl rfl rfl trivial ?_; rintro r bs' ext ⟨rfl, rfl⟩)
    | (refine And.intro (by omega) ?_)
    | (refine BB.mk (fun _h => ?_) (fun _h => ?_) <;> (first | (exact absurd _h (by decide)) | (exfalso; simp only [boolSet] at _h <;> omega) | skip)))
  all_goals (try conv => whnf)
  all_goals (try (refine Fin.mk ?_))
  all_goals (first
  | exact ⟨rfl, rfl⟩
  | (refine ⟨bool_eq ?_, rfl⟩; grind [hasB])
  | (exfalso; grind))
theorem mayR_num {w : Int} {P n : Nat} (hP : P ≤ 4294967295) (hn : n ≤ 4294967295) (h : 1 ≤ w ∧ w ≤ 64) :
    decide (IntKind.i64.wrap (n : Int) ≤ IntKind.i64.wrap (IntKind.i64.wrap (P : Int) + w)) = decide ((n : Int) ≤ P + w) := by
  rw [IntKind.wrap_i64, IntKind.wrap_i64, IntKind.wrap_i64]
  exact decide_eq_decide.2 (by omega)
theorem mayR_num2 {w : Int} {n : Nat} (hn : n ≤ 4294967295) : decide (IntKind.i64.wrap (n : Int) ≤ w) = decide ((n : Int) ≤ w) := by
  rw [IntKind.wrap_i64]
  exact decide_eq_decide.2 (by omega)
set_option maxRecDepth 100000 in
set_option maxHeartbeats 4000000 in
theorem mayR_ok (w : Int) (I P B : Nat) (d : Int) (J n : Nat) (hw : -9223372036854775808 ≤ w ∧ w ≤ 9223372036854775807) (hP : P ≤ 4294967295) (hB : B < 2 ^ 64) (hn : n ≤ 4294967295) : FnOK Try.prog GG 18 [] [.agg [.v (.int .u16 I), .v (.int .u32 P), .v (.int .u64 B)], .agg [.v (.int .u8 d), .v (.int .u16 J), .v (.int .u32 n)], .v (.int .i64 w)] (fun r _ ext => r = .v (.bool (mayB w I P B J n)) ∧ ext = []) := by
  refine fn_val (C := seat) seat_ok [] GG_no (Try.func18) rfl rfl rfl rfl rfl (fun _ => rfl) rfl ?_
  repeat' ((try conv => whnf); first
    | (with_reducible refine BB_true ?_)
    | (with_reducible refine BB_false ?_)
    | (with_reducible refine Both.mk ?_ ?_)
    | (with_reducible refine VS.mk ?_)
    | (refine PSem.go (C := seat) seat_ok ?_)
    | (refine And.intro (PlanOK.mk (by kernel_rfl) rfl (by kernel_rfl) (by kernel_rfl)) ?_)
    | (refine And.intro rfl (Exists.intro _ (And.intro (by first | assumption | rfl) ?_)))
    | (refine And.intro ⟨rfl, rfl, rfl⟩ ?_)
    | (refine call_ro [] (seen_ok I P B n hP hB hn) GG_no rfl rfl rfl trivial ?_; rintro r bs' ext ⟨rfl, rfl⟩)
    | (refine And.intro (by omega) ?_)
    | (refine BB.mk (fun _h => ?_) (fun _h => ?_) <;> (first | (exact absurd _h (by decide)) | (exfalso; simp only [boolSet] at _h <;> omega) | skip)))
  all_goals (try conv => whnf)
  all_goals (try (refine Fin.mk ?_))
  all_goals
    refine ⟨bool_eq ?_, rfl⟩
    try rw [mayR_num hP hn (by grind)]
    try rw [mayR_num2 hn]
    grind [mayB, winB]
set_option maxRecDepth 100000 in
set_option maxHeartbeats 4000000 in
theorem markR_ok (d I P B : Nat) : FnOK Try.prog GG 11 [] [.v (.int .u8 d), .agg [.v (.int .u16 I), .v (.int .u32 P), .v (.int .u64 B)]] (fun r _ ext => r = .agg [.v (.int .u8 d), .v (.int .u16 I), .v (.int .u32 P)] ∧ ext = []) := by
  refine fn_val (C := seat) seat_ok [] GG_no (Try.func11) rfl rfl rfl rfl rfl (fun _ => rfl) rfl ?_
  repeat' ((try conv => whnf); first
    | (with_reducible refine BB_true ?_)
    | (with_reducible refine BB_false ?_)
    | (with_reducible refine Both.mk ?_ ?_)
    | (with_reducible refine VS.mk ?_)
    | (refine PSem.go (C := seat) seat_ok ?_)
    | (refine And.intro (PlanOK.mk (by kernel_rfl) rfl (by kernel_rfl) (by kernel_rfl)) ?_)
    | (refine And.intro rfl (Exists.intro _ (And.intro (by first | assumption | rfl) ?_)))
    | (refine And.intro ⟨rfl, rfl, rfl⟩ ?_)
    | (refine And.intro (by omega) ?_)
    | (refine BB.mk (fun _h => ?_) (fun _h => ?_) <;> (first | (exact absurd _h (by decide)) | (exfalso; simp only [boolSet] at _h <;> omega) | skip)))
  all_goals (try conv => whnf)
  all_goals (try (refine Fin.mk ?_))
  all_goals (exact ⟨rfl, rfl⟩)
theorem room_num {w : Int} {P : Nat} (hP : P ≤ 4294967295) (h : 1 ≤ w ∧ w ≤ 64) : (bif false then (if IntKind.u64.wrap (4294967295 - IntKind.u64.wrap (P : Int)) > IntKind.u64.wrap w then IntKind.u64.wrap (4294967295 - IntKind.u64.wrap (P : Int)) else IntKind.u64.wrap w) else (if IntKind.u64.wrap (4294967295 - IntKind.u64.wrap (P : Int)) < IntKind.u64.wrap w then IntKind.u64.wrap (4294967295 - IntKind.u64.wrap (P : Int)) else IntKind.u64.wrap w)) = ((min w.toNat (4294967295 - P) : Nat) : Int) := by
  rw [IntKind.wrap_u64, IntKind.wrap_u64, IntKind.wrap_u64]
  simp only [cond_false]
  split <;> omega
theorem shr_zero (B : Nat) {k : Nat} (hk : k ≤ 64) : ((B : Int).fdiv (2 ^ min (k : Int).toNat IntKind.u64.bits) == 0) = decide (B < 2 ^ k) := by
  rw [Int.toNat_natCast, show min k IntKind.u64.bits = k from Nat.min_eq_left hk, fdiv_pow, Bool.eq_iff_iff, beq_iff_eq, decide_eq_true_eq]
  rw [show ((B / 2 ^ k : Nat) : Int) = 0 ↔ B / 2 ^ k = 0 by omega, Nat.div_eq_zero_iff]
  have := Nat.two_pow_pos k
  omega
theorem allowed_is (w : Int) (b : Bool) (hb : winB w = b) : FnOK Try.prog GG 21 [] [.v (.int .i64 w)] (fun r _ ext => r = .v (.bool b) ∧ ext = []) := by
  subst hb
  exact allowed_ok w
set_option maxRecDepth 100000 in
set_option maxHeartbeats 4000000 in
theorem right_ok (w : Int) (I P B : Nat) (hw : -9223372036854775808 ≤ w ∧ w ≤ 9223372036854775807) (hI : I ≤ 65535) (hP : P ≤ 4294967295) (hB : B < 2 ^ 64) : FnOK Try.prog GG 8 [] [.agg [.v (.int .u16 I), .v (.int .u32 P), .v (.int .u64 B)], .v (.int .i64 w)] (fun r _ ext => r = .v (.bool (rightB w I P B)) ∧ ext = []) := by
  cases hwB : winB w with
  | true =>
    have hw1 : 1 ≤ w ∧ w ≤ 64 := by simpa [winB] using hwB
    have e1 := room_num (w := w) hP hw1
    have e2 := shr_zero B (k := min w.toNat (4294967295 - P)) (by omega)
    have e3 := and1 (B : Int)
    refine fn_val (C := seat) seat_ok [] GG_no (Try.func8) rfl rfl rfl rfl rfl (fun _ => rfl) rfl ?_
    repeat' ((try conv => whnf); first
      | (with_reducible refine BB_true ?_)
      | (with_reducible refine BB_false ?_)
      | (with_reducible refine Both.mk ?_ ?_)
      | (with_reducible refine VS.mk ?_)
      | (refine PSem.go (C := seat) seat_ok ?_)
      | (refine And.intro (PlanOK.mk (by kernel_rfl) rfl (by kernel_rfl) (by kernel_rfl)) ?_)
      | (refine And.intro rfl (Exists.intro _ (And.intro (by first | assumption | rfl) ?_)))
      | (refine And.intro ⟨rfl, rfl, rfl⟩ ?_)
      | (refine call_ro [] (allowed_is w true hwB) GG_no rfl rfl rfl trivial ?_; rintro r bs' ext ⟨rfl, rfl⟩)
      | (refine And.intro (by rw [e1]; omega) ?_)
      | (refine And.intro (by omega) ?_)
      | (refine BB.mk (fun _h => ?_) (fun _h => ?_) <;> (first | (exact absurd _h (by decide)) | (exfalso; simp only [boolSet] at _h <;> omega) | skip)))
    all_goals (try conv => whnf)
    all_goals (try (refine Fin.mk ?_))
    all_goals
      refine ⟨bool_eq ?_, rfl⟩
      try rw [e1, e2]
      try rw [e3] at *
      clear e1 e2 e3
      simp only [rightB, hwB, Bool.true_and]
      rw [Bool.eq_iff_iff]
      by_cases hI0 : I = 0
      · rw [if_pos hI0]
        simp only [boolSet] at * <;> omega
      · rw [if_neg hI0]
        simp only [boolSet] at * <;> omega
  | false =>
    refine fn_val (C := seat) seat_ok [] GG_no (Try.func8) rfl rfl rfl rfl rfl (fun _ => rfl) rfl ?_
    repeat' ((try conv => whnf); first
      | (with_reducible refine BB_true ?_)
      | (with_reducible refine BB_false ?_)
      | (with_reducible refine Both.mk ?_ ?_)
      | (with_reducible refine VS.mk ?_)
      | (refine PSem.go (C := seat) seat_ok ?_)
      | (refine And.intro (PlanOK.mk (by kernel_rfl) rfl (by kernel_rfl) (by kernel_rfl)) ?_)
      | (refine And.intro rfl (Exists.intro _ (And.intro (by first | assumption | rfl) ?_)))
      | (refine And.intro ⟨rfl, rfl, rfl⟩ ?_)
      | (refine call_ro [] (allowed_is w false hwB) GG_no rfl rfl rfl trivial ?_; rintro r bs' ext ⟨rfl, rfl⟩)
      | (refine And.intro (by omega) ?_)
      | (refine BB.mk (fun _h => ?_) (fun _h => ?_) <;> (first | (exact absurd _h (by decide)) | (exfalso; simp only [boolSet] at _h <;> omega) | skip)))
    all_goals (try conv => whnf)
    all_goals (try (refine Fin.mk ?_))
    all_goals exact ⟨bool_eq (by simp [rightB, hwB]), rfl⟩
end Go.Proofs.Ythgfpikhiaochaa
