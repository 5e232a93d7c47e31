/- Package seen, by computing: the examples; what is said of rows. -/
import Derived.Test.YthgfpikhiaochaaS08d
namespace Go.Proofs.Ythgfpikhiaochaa
open Go.RowKit

theorem has_is (I P B : Nat) (d : Int) (J n : Nat) (hP : P ≤ 4294967295) (hB : B < 2 ^ 64) (hn : n ≤ 4294967295) (b : Bool) (hb : hasB I P B J n = b) : FnOK Try.prog GG 15 [] [.agg [.v (.int .u16 I), .v (.int .u32 P), .v (.int .u64 B)], .agg [.v (.int .u8 d), .v (.int .u16 J), .v (.int .u32 n)]] (fun r _ ext => r = .v (.bool b) ∧ ext = []) := by
  subst hb
  exact has_ok I P B d J n hP hB hn
theorem hasR_is (I P B : Nat) (d : Int) (J n : Nat) (hP : P ≤ 4294967295) (hB : B < 2 ^ 64) (hn : n ≤ 4294967295) (b : Bool) (hb : hasB I P B J n = b) : FnOK Try.prog GG 16 [] [.agg [.v (.int .u16 I), .v (.int .u32 P), .v (.int .u64 B)], .agg [.v (.int .u8 d), .v (.int .u16 J), .v (.int .u32 n)]] (fun r _ ext => r = .v (.bool b) ∧ ext = []) := by
  subst hb
  exact hasR_ok I P B d J n hP hB hn
theorem right_is (w : Int) (I P B : Nat) (hw : -9223372036854775808 ≤ w ∧ w ≤ 9223372036854775807) (hI : I ≤ 65535) (hP : P ≤ 4294967295) (hB : B < 2 ^ 64) (b : Bool) (hb : rightB w I P B = b) : FnOK Try.prog GG 8 [] [.agg [.v (.int .u16 I), .v (.int .u32 P), .v (.int .u64 B)], .v (.int .i64 w)] (fun r _ ext => r = .v (.bool b) ∧ ext = []) := by
  subst hb
  exact right_ok w I P B hw hI hP hB
theorem rightR_is (w : Int) (I P B : Nat) (hw : -9223372036854775808 ≤ w ∧ w ≤ 9223372036854775807) (hI : I ≤ 65535) (hP : P ≤ 4294967295) (hB : B < 2 ^ 64) (b : Bool) (hb : rightB w I P B = b) : FnOK Try.prog GG 9 [] [.agg [.v (.int .u16 I), .v (.int .u32 P), .v (.int .u64 B)], .v (.int .i64 w)] (fun r _ ext => r = .v (.bool b) ∧ ext = []) := by
  subst hb
  exact rightR_ok w I P B hw hI hP hB
theorem take_is (w : Int) (I P B : Nat) (d : Int) (J n : Nat) (hw : -9223372036854775808 ≤ w ∧ w ≤ 9223372036854775807) (hP : P ≤ 4294967295) (hB : B < 2 ^ 64) (hn : n ≤ 4294967295) (hI : I ≤ 65535) (hJ : J ≤ 65535) (hf : fitB P B) (i' p' q' d' j' n' : Int) (T : Nat × Nat × Nat) (b : Bool) (hi' : i' = I) (hp' : p' = P) (hq' : q' = B) (hd' : d' = d) (hj' : j' = J) (hn' : n' = n) (hT : takeT w I P B J n = T) (hb : mayB w I P B J n = b) : FnOK Try.prog GG 13 [] [.agg [.v (.int .u16 i'), .v (.int .u32 p'), .v (.int .u64 q')], .agg [.v (.int .u8 d'), .v (.int .u16 j'), .v (.int .u32 n')], .v (.int .i64 w)] (fun r _ ext => r = .tup [.agg [.v (.int .u16 T.1), .v (.int .u32 T.2.1), .v (.int .u64 T.2.2)], .v (.bool b)] ∧ ext = []) := by
  subst hT hb hi' hp' hq' hd' hj' hn'
  exact take_ok w I P B _ J n hw hP hB hn hI hJ hf
theorem takeR_is (w : Int) (I P B : Nat) (d : Int) (J n : Nat) (hw : -9223372036854775808 ≤ w ∧ w ≤ 9223372036854775807) (hP : P ≤ 4294967295) (hB : B < 2 ^ 64) (hn : n ≤ 4294967295) (hI : I ≤ 65535) (hJ : J ≤ 65535) (hf : fitB P B) (i' p' q' d' j' n' : Int) (T : Nat × Nat × Nat) (b : Bool) (hi' : i' = I) (hp' : p' = P) (hq' : q' = B) (hd' : d' = d) (hj' : j' = J) (hn' : n' = n) (hT : takeT w I P B J n = T) (hb : mayB w I P B J n = b) : FnOK Try.prog GG 14 [] [.agg [.v (.int .u16 i'), .v (.int .u32 p'), .v (.int .u64 q')], .agg [.v (.int .u8 d'), .v (.int .u16 j'), .v (.int .u32 n')], .v (.int .i64 w)] (fun r _ ext => r = .tup [.agg [.v (.int .u16 T.1), .v (.int .u32 T.2.1), .v (.int .u64 T.2.2)], .v (.bool b)] ∧ ext = []) := by
  subst hT hb hi' hp' hq' hd' hj' hn'
  exact takeR_ok w I P B _ J n hw hP hB hn hI hJ hf
theorem has_at (I P B : Nat) (d : Int) (J n : Nat) (hP : P ≤ 4294967295) (hB : B < 2 ^ 64) (hn : n ≤ 4294967295) (n' : Int) (b : Bool) (hn' : n' = n) (hb : hasB I P B J n = b) : FnOK Try.prog GG 15 [] [.agg [.v (.int .u16 I), .v (.int .u32 P), .v (.int .u64 B)], .agg [.v (.int .u8 d), .v (.int .u16 J), .v (.int .u32 n')]] (fun r _ ext => r = .v (.bool b) ∧ ext = []) := by
  subst hn' hb
  exact has_ok I P B d J n hP hB hn
theorem right_fit {w : Int} {I P B : Nat} (h : rightB w I P B = true) : fitB P B ∧ (1 ≤ w ∧ w ≤ 64) ∧ (I = 0 → P = 0 ∧ B = 0) ∧ B % 2 = 0 := by
  simp only [rightB, winB, Bool.and_eq_true, decide_eq_true_eq] at h
  obtain ⟨hw, h⟩ := h
  by_cases h0 : I = 0
  · rw [if_pos h0] at h
    simp only [Bool.and_eq_true, decide_eq_true_eq] at h
    obtain ⟨rfl, rfl⟩ := h
    exact ⟨fun i hi => by simp at hi, hw, fun _ => ⟨rfl, rfl⟩, rfl⟩
  · rw [if_neg h0] at h
    simp only [Bool.and_eq_true, decide_eq_true_eq] at h
    refine ⟨fun i hi => ?_, hw, fun e => (h0 e).elim, h.1⟩
    rcases Nat.lt_or_ge i (4294967295 - P) with h1 | h1
    · omega
    · rw [Nat.testBit_lt_two_pow (Nat.lt_of_lt_of_le h.2 (Nat.pow_le_pow_right (by omega) (by omega)))] at hi
      cases hi
def fitD (P B : Nat) : Bool := decide (P ≤ 4294967000) && decide (B < 256)
theorem fit_of {P B : Nat} (h : fitD P B = true) : fitB P B := fun i hi => by
  simp only [fitD, Bool.and_eq_true, decide_eq_true_eq] at h
  rcases Nat.lt_or_ge i 8 with h1 | h1
  · omega
  · rw [Nat.testBit_lt_two_pow (Nat.lt_of_lt_of_le h.2 (show 256 ≤ 2 ^ i from Nat.pow_le_pow_right (n := 2) (i := 8) (by omega) h1))] at hi
    cases hi
theorem take_ex (I P B J n : Nat) (T : Nat × Nat × Nat) (b : Bool) (i' p' q' d' j' n' : Int) (hi' : i' = I) (hp' : p' = P) (hq' : q' = B) (hd' : d' = 0) (hj' : j' = J) (hn' : n' = n) (hT : takeT 4 I P B J n = T) (hb : mayB 4 I P B J n = b) (hall : (fitD P B && decide (I ≤ 9) && decide (J ≤ 9) && decide (n ≤ 9)) = true) : FnOK Try.prog GG 13 [] [.agg [.v (.int .u16 i'), .v (.int .u32 p'), .v (.int .u64 q')], .agg [.v (.int .u8 d'), .v (.int .u16 j'), .v (.int .u32 n')], .v (.int .i64 4)] (fun r _ ext => r = .tup [.agg [.v (.int .u16 T.1), .v (.int .u32 T.2.1), .v (.int .u64 T.2.2)], .v (.bool b)] ∧ ext = []) := by
  simp only [Bool.and_eq_true, decide_eq_true_eq] at hall
  obtain ⟨⟨⟨h1, h2⟩, h3⟩, h4⟩ := hall
  have hf := fit_of h1
  simp only [fitD, Bool.and_eq_true, decide_eq_true_eq] at h1
  exact take_is 4 I P B 0 J n (by decide) (by omega) (by omega) (by omega) (by omega) (by omega) hf i' p' q' d' j' n' T b hi' hp' hq' hd' hj' hn' hT hb
set_option maxRecDepth 100000 in
set_option maxHeartbeats 4000000 in
theorem awake_ok  : FnOK Try.prog GG 12 [] [] (fun r _ ext => r = .v (.bool true) ∧ ext = []) := by
  refine fn_val (C := seat) seat_ok [] GG_no (Try.func12) rfl rfl rfl rfl rfl (fun _ => rfl) rfl ?_
  repeat' ((try conv => whnf); first
    | (with_reducible refine BB_true ?_)
    | (with_reducible refine BB_false ?_)
    | (with_reducible refine Both.mk ?_ ?_)
    | (with_reducible refine VS.mk ?_)
    | (refine PSem.go (C := seat) seat_ok ?_)
    | (refine And.intro (PlanOK.mk (by kernel_rfl) rfl (by kernel_rfl) (by kernel_rfl)) ?_)
    | (refine And.intro rfl (Exists.intro _ (And.intro (by first | assumption | rfl) ?_)))
    | (refine And.intro ⟨rfl, rfl, rfl⟩ ?_)
    | (with_reducible refine ⟨rfl, vc_sound (C := seat) seat_ok (pl := []) ?_⟩)
    | (refine loop_rounds 8 ?_)
    | (refine And.intro ⟨by decide, by decide⟩ ?_)
    | (refine call_ro [] (take_ex 0 0 0 1 2 (1, 0, 2) true _ _ _ _ _ _ (by decide) (by decide) (by decide) (by decide) (by decide) (by decide) (by decide) (by decide) (by decide)) GG_no rfl rfl rfl trivial ?_; rintro r bs' ext ⟨rfl, rfl⟩)
    | (refine call_ro [] (take_ex 1 0 2 1 1 (1, 2, 0) true _ _ _ _ _ _ (by decide) (by decide) (by decide) (by decide) (by decide) (by decide) (by decide) (by decide) (by decide)) GG_no rfl rfl rfl trivial ?_; rintro r bs' ext ⟨rfl, rfl⟩)
    | (refine call_ro [] (take_ex 1 2 0 1 2 (1, 2, 0) false _ _ _ _ _ _ (by decide) (by decide) (by decide) (by decide) (by decide) (by decide) (by decide) (by decide) (by decide)) GG_no rfl rfl rfl trivial ?_; rintro r bs' ext ⟨rfl, rfl⟩)
    | (refine call_ro [] (take_ex 1 2 0 1 7 (1, 2, 0) false _ _ _ _ _ _ (by decide) (by decide) (by decide) (by decide) (by decide) (by decide) (by decide) (by decide) (by decide)) GG_no rfl rfl rfl trivial ?_; rintro r bs' ext ⟨rfl, rfl⟩)
    | (refine call_ro [] (take_ex 1 2 0 1 6 (1, 2, 8) true _ _ _ _ _ _ (by decide) (by decide) (by decide) (by decide) (by decide) (by decide) (by decide) (by decide) (by decide)) GG_no rfl rfl rfl trivial ?_; rintro r bs' ext ⟨rfl, rfl⟩)
    | (refine call_ro [] (take_ex 1 2 8 2 1 (2, 1, 0) true _ _ _ _ _ _ (by decide) (by decide) (by decide) (by decide) (by decide) (by decide) (by decide) (by decide) (by decide)) GG_no rfl rfl rfl trivial ?_; rintro r bs' ext ⟨rfl, rfl⟩)
    | (refine call_ro [] (take_ex 2 1 0 1 3 (2, 1, 0) false _ _ _ _ _ _ (by decide) (by decide) (by decide) (by decide) (by decide) (by decide) (by decide) (by decide) (by decide)) GG_no rfl rfl rfl trivial ?_; rintro r bs' ext ⟨rfl, rfl⟩)
    | (refine call_ro [] (mark_ok 5 2 1 0) GG_no rfl rfl rfl trivial ?_; rintro r bs' ext ⟨rfl, rfl⟩)
    | (refine And.intro (by omega) ?_)
    | (refine BB.mk (fun _h => ?_) (fun _h => ?_) <;> (first | (exact absurd _h (by decide)) | (exfalso; simp only [boolSet] at _h <;> omega) | skip)))
  all_goals (try conv => whnf)
  all_goals (try (refine Fin.mk ?_))
  all_goals (exact ⟨rfl, rfl⟩)
end Go.Proofs.Ythgfpikhiaochaa
