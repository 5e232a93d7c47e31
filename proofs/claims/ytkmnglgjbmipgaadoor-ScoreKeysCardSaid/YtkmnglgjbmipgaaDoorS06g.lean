/- Reference of layer 6: numbers. -/
import Derived.Test.YtkmnglgjbmipgaaDoorS06d
import Derived.Test.YtkmnglgjbmipgaaDoorRFd
namespace Go.Proofs.YtkmnglgjbmipgaaDoor
open Go.RowKit

theorem w64 {x : Int} (h : -9223372036854775808 ≤ x ∧ x ≤ 9223372036854775807) : IntKind.i64.wrap x = x := by rw [IntKind.wrap_i64]; omega
theorem half_of (n : Int) : (n < 0 ∧ n.tmod 2 ≠ 0 → n.tdiv 2 - 1 = n / 2) ∧ (¬ (n < 0 ∧ n.tmod 2 ≠ 0) → n.tdiv 2 = n / 2) ∧ n / 2 ≤ n.tdiv 2 ∧ n.tdiv 2 ≤ n / 2 + 1 := by
  rw [Int.tdiv_eq_ediv, Int.tmod_eq_emod]
  have h2 : (2 : Int).sign = 1 := rfl
  have h3 : ((2 : Int).natAbs : Int) = 2 := rfl
  rw [h2]
  split <;> (rename_i h; refine ⟨fun k => ?_, fun k => ?_, ?_, ?_⟩) <;> first | omega | (simp only [h3] at k; omega) | (simp at k; omega)
/-- The quarter. -/
def mid (x : Sp) : Int := (x.a + x.b) / 2
def qN (r x : Sp) : Int := (4 * (mid x - r.a)) / (r.b - r.a + 1)
theorem mid_in {r x : Sp} (h : rigP r x = true) : r.a ≤ mid x ∧ mid x ≤ r.b := by
  unfold rigP covT at h
  simp only [Bool.and_eq_true, Bool.or_eq_true, decide_eq_true_eq] at h
  unfold mid
  omega
theorem qN_in {r x : Sp} (h : rigP r x = true) : 0 ≤ qN r x ∧ qN r x ≤ 3 := by
  have := mid_in h
  unfold qN
  constructor
  · exact Int.ediv_nonneg (by omega) (by omega)
  · have : (4 * (mid x - r.a)) / (r.b - r.a + 1) < 4 := Int.ediv_lt_of_lt_mul (by omega) (by omega)
    omega
theorem quar_eq {r x : Sp} (hr : SpOk r) (hx : SpOk x) (h : rigP r x = true) : quarW r.a r.b x.a x.b = qN r x := by
  have hm := mid_in h
  have hq := qN_in h
  unfold SpOk at hr hx
  unfold quarW
  have e0 : (2 : Int) ^ min (1 : Int).toNat IntKind.i64.bits = 2 := rfl
  rw [e0, Int.fdiv_eq_ediv_of_nonneg _ (by omega), w64 (x := r.a) (by omega), w64 (x := r.b) (by omega), w64 (x := x.a) (by omega), w64 (x := x.b) (by omega), w64 (x := r.b - r.a) (by omega), w64 (x := r.b - r.a + 1) (by omega), w64 (x := x.a + x.b) (by omega)]
  rw [if_neg (by omega)]
  rw [show (x.a + x.b) / 2 = mid x from rfl, w64 (x := mid x - r.a) (by omega), w64 (x := 4 * (mid x - r.a)) (by omega)]
  rw [Int.tdiv_eq_ediv_of_nonneg (by omega), show (4 * (mid x - r.a)) / (r.b - r.a + 1) = qN r x from rfl, w64 (by omega), IntKind.wrap_u8]
  omega
theorem q_step {r x : Sp} (h : rigP r x = true) {q : Int} : ((q + 1) * (r.b - r.a + 1) ≤ 4 * (mid x - r.a) ↔ q + 1 ≤ qN r x) := by
  have := mid_in h
  unfold qN
  exact (Int.le_ediv_iff_mul_le (by omega)).symm
def keyN (s g : List Sp) : Nat → Int
  | 0 => 0
  | k + 1 => 4 * keyN s g k + qN (atD s k) (atD g k)
theorem keyN_le {s g : List Sp} : ∀ k, (∀ j, j < k → rigP (atD s j) (atD g j) = true) → 0 ≤ keyN s g k ∧ keyN s g k < 4 ^ k
  | 0, _ => by simp [keyN]
  | k + 1, h => by
    have h1 := keyN_le k (fun j hj => h j (by omega))
    have h2 := qN_in (h k (by omega))
    unfold keyN
    rw [Int.pow_succ]
    omega
theorem keyN_eq {s g : List Sp} (hs : ∀ y ∈ s, SpOk y) (hg : ∀ y ∈ g, SpOk y) : ∀ k, k ≤ 4 → k ≤ s.length → k ≤ g.length → (∀ j, j < k → rigP (atD s j) (atD g j) = true) → keyW s g k = keyN s g k ∧ 0 ≤ keyN s g k ∧ keyN s g k ≤ 255
  | 0, _, _, _, _ => by simp [keyN, keyW]
  | k + 1, h4, h5, h6, h => by
    have h1 := keyN_eq hs hg k (by omega) (by omega) (by omega) (fun j hj => h j (by omega))
    have h2 := qN_in (h k (by omega))
    have h3 := keyN_le (k + 1) h
    have h7 : (4 : Int) ^ (k + 1) ≤ 256 := by
      have : k = 0 ∨ k = 1 ∨ k = 2 ∨ k = 3 := by omega
      rcases this with rfl | rfl | rfl | rfl <;> decide
    have h8 : keyN s g (k + 1) = 4 * keyN s g k + qN (atD s k) (atD g k) := rfl
    refine ⟨?_, by omega, by omega⟩
    unfold keyW
    rw [h1.1, quar_eq (hs _ (atD_mem (by omega))) (hg _ (atD_mem (by omega))) (h k (by omega)), h8, IntKind.wrap_u8, IntKind.wrap_u8]
    omega
end Go.Proofs.YtkmnglgjbmipgaaDoor
