/- Package seen: numbers and bits. -/
import Derived.Test.YthgfpikhiaochaaTy08
import Derived.Test.YthgfpikhiaochaaSymW
namespace Go.Proofs.Ythgfpikhiaochaa
open Go.RowKit

abbrev GG : List (Nat × SB) := []
theorem GG_no : noOwn GG := noOwn_nil
/-- Is a number seen? -/
def sees (P B n : Nat) : Bool := decide (0 < n) && (decide (n ≤ P) || B.testBit (n - P - 1))
/-- The prefix, as far as it goes. -/
def norm : Nat → Nat → Nat → Nat × Nat
  | 0, P, B => (P, B)
  | k + 1, P, B => if B % 2 = 1 then norm k (P + 1) (B / 2) else (P, B)
def winB (w : Int) : Bool := decide (1 ≤ w) && decide (w ≤ 64)
def rightB (w : Int) (I P B : Nat) : Bool := winB w && (if I = 0 then decide (P = 0) && decide (B = 0) else decide (B % 2 = 0) && decide (B < 2 ^ min w.toNat (4294967295 - P)))
def mayB (w : Int) (I P B J n : Nat) : Bool := winB w && decide (0 < J) && decide (0 < n) && decide (I ≤ J) && (if I < J then decide ((n : Int) ≤ w) else !sees P B n && decide ((n : Int) ≤ P + w))
def fromP (I J P : Nat) : Nat := if I < J then 0 else P
def takeP (I P B J n : Nat) : Nat × Nat := norm 64 (fromP I J P) (fromP I J B ||| 2 ^ (n - fromP I J P - 1))

theorem testBit_half (B i : Nat) : (B / 2).testBit i = B.testBit (i + 1) := by
  rw [Nat.testBit_succ]
theorem testBit_zero' (B : Nat) : B.testBit 0 = decide (B % 2 = 1) := Nat.testBit_zero B
theorem sees_step {P B : Nat} (h : B % 2 = 1) (n : Nat) : sees (P + 1) (B / 2) n = sees P B n := by
  simp only [sees, testBit_half]
  by_cases h0 : 0 < n
  · by_cases h1 : n ≤ P
    · simp [h0, h1, show n ≤ P + 1 by omega]
    · by_cases h2 : n = P + 1
      · subst h2
        simp [h]
      · rw [show n - (P + 1) - 1 + 1 = n - P - 1 by omega]
        simp [h0, h1, show ¬ n ≤ P + 1 by omega]
  · simp [h0]
theorem norm_spec : ∀ (k P B : Nat), B < 2 ^ k → (∀ n, sees (norm k P B).1 (norm k P B).2 n = sees P B n) ∧ (norm k P B).2 % 2 = 0 ∧ P ≤ (norm k P B).1 ∧ (norm k P B).2 ≤ B
  | 0, P, B, h => by
    have : B = 0 := by simpa using h
    subst this
    simp [norm]
  | k + 1, P, B, h => by
    unfold norm
    by_cases h1 : B % 2 = 1
    · rw [if_pos h1]
      obtain ⟨a, b, c, d⟩ := norm_spec k (P + 1) (B / 2) (by rw [Nat.pow_succ] at h; omega)
      exact ⟨fun n => (a n).trans (sees_step h1 n), b, by omega, by omega⟩
    · rw [if_neg h1]
      exact ⟨fun _ => rfl, by omega, Nat.le_refl _, Nat.le_refl _⟩
theorem norm_even {k P B : Nat} (h : B % 2 = 0) : norm k P B = (P, B) := by
  cases k with
  | zero => rfl
  | succ k => unfold norm; rw [if_neg (by omega)]
theorem norm_odd {k P B : Nat} (h : B % 2 = 1) : norm (k + 1) P B = norm k (P + 1) (B / 2) := by
  rw [norm, if_pos h]
/-- Two rows that see the same are the same. -/
theorem sees_inj {P B P' B' : Nat} (h : ∀ n, sees P B n = sees P' B' n) (hb : B % 2 = 0) (hb' : B' % 2 = 0) : P = P' ∧ B = B' := by
  have hP : P = P' := by
    rcases Nat.lt_trichotomy P P' with hlt | heq | hlt
    · have := h (P + 1)
      simp [sees, show P + 1 ≤ P' by omega, hb] at this
      omega
    · exact heq
    · have := h (P' + 1)
      simp [sees, show P' + 1 ≤ P by omega, hb'] at this
      omega
  subst hP
  refine ⟨rfl, Nat.eq_of_testBit_eq fun i => ?_⟩
  have := h (P + 1 + i)
  simpa [sees, show ¬ P + 1 + i ≤ P by omega, show P + 1 + i - P - 1 = i by omega, show 0 < P + 1 + i by omega] using this
theorem sees_or {P B x : Nat} (hx : P < x) (n : Nat) : sees P (B ||| 2 ^ (x - P - 1)) n = (sees P B n || decide (n = x)) := by
  simp only [sees, Nat.testBit_or, Nat.testBit_two_pow]
  by_cases h0 : 0 < n
  · by_cases h1 : n ≤ P
    · simp [h0, h1]
    · by_cases h2 : n = x
      · subst h2; simp [h0]
      · simp [h0, h1, h2, show x - P - 1 ≠ n - P - 1 by omega]
  · simp [h0, show n ≠ x by omega]
theorem or_lt {B k m : Nat} (h : B < 2 ^ m) (hk : k < m) : B ||| 2 ^ k < 2 ^ m := Nat.or_lt_two_pow h (Nat.pow_lt_pow_right (by omega) hk)
/-- A bit more, as a sum. -/
theorem add_eq_or {B k : Nat} (hB : B < 2 ^ 64) (hk : k < 64) (h : B.testBit k = false) : B + 2 ^ k = B ||| 2 ^ k := by
  have h2 : 2 ^ k < 2 ^ 64 := Nat.pow_lt_pow_right (by omega) hk
  have e := BitVec.add_eq_or_of_and_eq_zero (BitVec.ofNat 64 B) (BitVec.ofNat 64 (2 ^ k)) (by
    apply BitVec.eq_of_toNat_eq
    apply Nat.eq_of_testBit_eq
    intro i
    simp only [BitVec.toNat_and, BitVec.toNat_ofNat, Nat.mod_eq_of_lt hB, Nat.mod_eq_of_lt h2, Nat.testBit_and, Nat.testBit_two_pow, Nat.zero_mod, Nat.zero_testBit]
    by_cases hi : k = i
    · subst hi; simp [h]
    · simp [hi])
  have e' := congrArg BitVec.toNat e
  simp only [BitVec.toNat_add, BitVec.toNat_or, BitVec.toNat_ofNat, Nat.mod_eq_of_lt hB, Nat.mod_eq_of_lt h2] at e'
  have h3 := or_lt hB hk
  -- the sum is not cut
  have h4 : B + 2 ^ k < 2 ^ 64 := by
    -- B has the bit off: B = q * 2^(k+1) + r, r < 2^k
    have hr : B % 2 ^ (k + 1) < 2 ^ k := by
      rw [Nat.testBit_eq_decide_div_mod_eq] at h
      have h5 : B / 2 ^ k % 2 = 0 := by have := of_decide_eq_false h; omega
      rw [Nat.pow_succ, Nat.mod_mul, h5]
      simpa using Nat.mod_lt B (Nat.two_pow_pos k)
    have hq := Nat.div_add_mod B (2 ^ (k + 1))
    have hd : B / 2 ^ (k + 1) < 2 ^ (64 - (k + 1)) := by
      rw [Nat.div_lt_iff_lt_mul (Nat.two_pow_pos _), ← Nat.pow_add, show 64 - (k + 1) + (k + 1) = 64 by omega]
      exact hB
    have : 2 ^ (k + 1) * (B / 2 ^ (k + 1)) + 2 ^ (k + 1) ≤ 2 ^ 64 := by
      rw [← Nat.mul_succ, show (2 : Nat) ^ 64 = 2 ^ (k + 1) * 2 ^ (64 - (k + 1)) by rw [← Nat.pow_add]; congr 1; omega]
      exact Nat.mul_le_mul_left _ hd
    rw [Nat.pow_succ] at this hq hr
    omega
  rwa [Nat.mod_eq_of_lt h4] at e'
/-- Bits, one by one. -/
theorem lt_bits {B m : Nat} (hB : B < 2 ^ 64) : B < 2 ^ m ↔ ∀ i, i < 64 → B.testBit i = true → i < m := by
  constructor
  · intro h i _ hi
    rcases Nat.lt_or_ge i m with h1 | h1
    · exact h1
    · rw [Nat.testBit_lt_two_pow (Nat.lt_of_lt_of_le h (Nat.pow_le_pow_right (by omega) h1))] at hi
      cases hi
  · intro h
    refine Nat.lt_pow_two_of_testBit _ fun i hi => ?_
    cases hb : B.testBit i with
    | false => rfl
    | true =>
      rcases Nat.lt_or_ge i 64 with h1 | h1
      · have := h i h1 hb; omega
      · rw [Nat.testBit_lt_two_pow (Nat.lt_of_lt_of_le hB (Nat.pow_le_pow_right (by omega) h1))] at hb
        cases hb
theorem pigeon : ∀ (w : Nat) (l : List Nat), l.Nodup → (∀ x ∈ l, 1 ≤ x ∧ x ≤ w) → l.length ≤ w ∧ (l.length = w → ∀ m, 1 ≤ m → m ≤ w → m ∈ l)
  | 0, l, _, hb => by
    cases l with
    | nil => exact ⟨Nat.le_refl _, fun _ m h1 h2 => by omega⟩
    | cons x l => have := hb x (by simp); omega
  | w + 1, l, hn, hb => by
    by_cases hw : w + 1 ∈ l
    · have hlen := List.length_erase_of_mem hw
      have hpos : 0 < l.length := List.length_pos_of_mem hw
      obtain ⟨h1, h2⟩ := pigeon w (l.erase (w + 1)) (hn.erase _) (fun x hx => by
        have h3 := hb x (List.mem_of_mem_erase hx)
        have h4 : x ≠ w + 1 := fun e => by subst e; exact (List.Nodup.not_mem_erase hn) hx
        omega)
      refine ⟨by omega, fun e m hm1 hm2 => ?_⟩
      by_cases hm : m = w + 1
      · subst hm; exact hw
      · exact List.mem_of_mem_erase (h2 (by omega) m hm1 (by omega))
    · obtain ⟨h1, h2⟩ := pigeon w l hn (fun x hx => by
        have h3 := hb x hx
        have h4 : x ≠ w + 1 := fun e => by subst e; exact hw hx
        omega)
      exact ⟨by omega, fun e => by omega⟩

theorem fdiv_pow (B k : Nat) : (B : Int).fdiv (2 ^ k) = ((B / 2 ^ k : Nat) : Int) := by
  rw [Int.fdiv_eq_ediv_of_nonneg _ (by exact_mod_cast Nat.zero_le (2 ^ k))]
  push_cast
  rfl
theorem and1 (x : Int) : IntKind.u64.wrap ((BitVec.ofInt IntKind.u64.bits x &&& BitVec.ofInt IntKind.u64.bits 1).toNat : Int) = x % 2 := by
  show IntKind.u64.wrap ((BitVec.ofInt 64 x &&& BitVec.ofInt 64 1).toNat : Int) = x % 2
  rw [BitVec.toNat_and, BitVec.toNat_ofInt, BitVec.toNat_ofInt, show ((1 : Int) % ((2 ^ 64 : Nat) : Int)).toNat = 1 by decide, Nat.and_one_is_mod, IntKind.wrap_u64]
  omega
theorem or_wrap {a b : Nat} (ha : a < 2 ^ 64) (hb : b < 2 ^ 64) : IntKind.u64.wrap ((BitVec.ofInt IntKind.u64.bits (a : Int) ||| BitVec.ofInt IntKind.u64.bits (b : Int)).toNat : Int) = ((a ||| b : Nat) : Int) := by
  show IntKind.u64.wrap ((BitVec.ofInt 64 (a : Int) ||| BitVec.ofInt 64 (b : Int)).toNat : Int) = _
  rw [BitVec.toNat_or, BitVec.toNat_ofInt, BitVec.toNat_ofInt]
  have h := Nat.or_lt_two_pow ha hb
  rw [show ((a : Int) % ((2 ^ 64 : Nat) : Int)).toNat = a by omega, show ((b : Int) % ((2 ^ 64 : Nat) : Int)).toNat = b by omega, IntKind.wrap_u64]
  omega
theorem pow_wrap {k : Nat} (h : k < 64) : IntKind.u64.wrap (1 * 2 ^ k) = ((2 ^ k : Nat) : Int) := by
  have : 2 ^ k < 2 ^ 64 := Nat.pow_lt_pow_right (by omega) h
  rw [IntKind.wrap_u64, Int.one_mul]
  have e : (2 : Int) ^ k = ((2 ^ k : Nat) : Int) := by push_cast; rfl
  rw [e]
  generalize 2 ^ k = m at this
  omega
theorem bit_of (B k : Nat) : ((((B / 2 ^ k : Nat) : Int) % 2) == 1) = B.testBit k := by
  rw [Nat.testBit_eq_decide_div_mod_eq, Bool.eq_iff_iff, beq_iff_eq, decide_eq_true_eq]
  omega
theorem far_bits {B k : Nat} (hB : B < 2 ^ 64) : B.testBit (min k 64) = B.testBit k := by
  by_cases h : k < 64
  · rw [show min k 64 = k by omega]
  · rw [show min k 64 = 64 by omega, Nat.testBit_lt_two_pow hB, Nat.testBit_lt_two_pow (Nat.lt_of_lt_of_le hB (Nat.pow_le_pow_right (by omega) (by omega)))]
theorem far_sub {n P : Nat} (h : P < n) (hn : n ≤ 4294967295) : IntKind.u32.wrap (IntKind.u32.wrap ((n : Int) - (P : Int)) - 1) = ((n - P - 1 : Nat) : Int) := by
  rw [IntKind.wrap_u32, IntKind.wrap_u32]
  omega
end Go.Proofs.Ythgfpikhiaochaa
