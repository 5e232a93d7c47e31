/- Package score. -/
import Derived.Test.YtkmnglgjbmipgaaDoorF05e
namespace Go.Proofs.YtkmnglgjbmipgaaDoor
open Go.RowKit

theorem meetF_len' (a b : List Sp) : (meetF a b).length ≤ a.length := by
  rcases meetF_cases a b with ⟨_, _, h⟩ | ⟨h, _⟩
  · rw [h, mtL_len]; exact Nat.le_refl _
  · rw [h]; exact Nat.zero_le _
def lenP (x : Sp) : Int := lenT x.a x.b
theorem lenP_le {x : Sp} : 0 ≤ lenP x ∧ lenP x ≤ 4294967295 := by
  unfold lenP lenT
  split <;> omega
theorem lenP_pos {x : Sp} (h : x.a ≤ x.b) : 1 ≤ lenP x := by
  unfold lenP lenT
  split <;> omega
def prodL (m : List Sp) : Nat → Int
  | 0 => 1
  | k + 1 => min (prodL m k * lenP (atD m k)) 4294967295
theorem mul_le_M {a b : Int} (h1 : 0 ≤ a) (h2 : a ≤ 4294967295) (h3 : 0 ≤ b) (h4 : b ≤ 4294967295) : 0 ≤ a * b ∧ a * b ≤ 18446744065119617025 :=
  ⟨Int.mul_nonneg h1 h3, Int.le_trans (Int.mul_le_mul h2 h4 h3 (by omega)) (by omega)⟩
theorem prodL_le (m : List Sp) : ∀ k, 0 ≤ prodL m k ∧ prodL m k ≤ 4294967295
  | 0 => by unfold prodL; omega
  | k + 1 => by
    unfold prodL
    have h := prodL_le m k
    have := mul_le_M h.1 h.2 (lenP_le (x := atD m k)).1 (lenP_le (x := atD m k)).2
    omega
theorem prodL_pos {m : List Sp} (h : ∀ j, j < m.length → (atD m j).a ≤ (atD m j).b) : ∀ k, k ≤ m.length → 1 ≤ prodL m k
  | 0, _ => by unfold prodL; omega
  | k + 1, hk => by
    unfold prodL
    have h1 := prodL_pos h k (by omega)
    have h2 := lenP_pos (h k (by omega))
    have h3 := Int.mul_le_mul h1 h2 (by omega) (by omega : (0 : Int) ≤ prodL m k)
    omega
theorem prodL_mono {m m' : List Sp} : ∀ k, (∀ j, j < k → lenP (atD m j) ≤ lenP (atD m' j)) → prodL m k ≤ prodL m' k
  | 0, _ => by unfold prodL; omega
  | k + 1, h => by
    unfold prodL
    have h1 := prodL_mono k (fun j hj => h j (by omega))
    have h2 := Int.mul_le_mul h1 (h k (by omega)) (lenP_le (x := atD m k)).1 (Int.le_trans (prodL_le m k).1 h1)
    omega
theorem prodL_eq {m m' : List Sp} : ∀ k, (∀ j, j < k → lenP (atD m j) = lenP (atD m' j)) → prodL m k = prodL m' k
  | 0, _ => rfl
  | k + 1, h => by
    unfold prodL
    rw [prodL_eq k (fun j hj => h j (by omega)), h k (by omega)]
def ovl (l r : List Sp) : Int := if (meetF l r).length = 0 then 0 else prodL (meetF l r) (meetF l r).length
theorem ovl_le (l r : List Sp) : 0 ≤ ovl l r ∧ ovl l r ≤ 4294967295 := by
  unfold ovl
  split
  · omega
  · exact prodL_le _ _
theorem ovl_comm (l r : List Sp) : ovl l r = ovl r l := by unfold ovl; rw [meet_comm]
theorem atD_mem {α : Type} [Inhabited α] {l : List α} {j : Nat} (h : j < l.length) : atD l j ∈ l := List.mem_of_getElem? (atD_some h)
theorem mtP_ok {x y : Sp} (hx : SpOk x) (hy : SpOk y) : SpOk (mtP x y) := by
  unfold SpOk mtP at *
  simp only
  omega
theorem meet_ok {l r : List Sp} (hl : ∀ y ∈ l, SpOk y) (hr : ∀ y ∈ r, SpOk y) : ∀ j, j < (meetF l r).length → SpOk (atD (meetF l r) j) := by
  rcases meetF_cases l r with ⟨h1, h2, h3⟩ | ⟨h1, h2⟩
  · rw [h3, mtL_len]
    intro j hj
    rw [mtL_at hj]
    exact mtP_ok (hl _ (atD_mem hj)) (hr _ (atD_mem (by omega)))
  · rw [h1]; intro j hj; simp at hj
theorem metP_yes {x y : Sp} : metP x y = true ↔ max x.a y.a ≤ min x.b y.b := by
  unfold metP
  rw [decide_eq_true_eq]
theorem meet_full {l r : List Sp} : ∀ j, j < (meetF l r).length → (atD (meetF l r) j).a ≤ (atD (meetF l r) j).b := by
  rcases meetF_cases l r with ⟨h1, h2, h3⟩ | ⟨h1, h2⟩
  · rw [h3, mtL_len]
    intro j hj
    rw [mtL_at hj]
    exact metP_yes.1 (h2 j hj)
  · rw [h1]; intro j hj; simp at hj
theorem ovl_zero (l r : List Sp) : ovl l r = 0 ↔ (meetF l r).length = 0 := by
  unfold ovl
  constructor
  · intro h
    split at h
    · assumption
    · have := prodL_pos (m := meetF l r) meet_full _ (Nat.le_refl _)
      omega
  · intro h
    rw [if_pos h]
theorem mtL_eq {a b c d : List Sp} {n : Nat} (h : ∀ j, j < n → mtP (atD a j) (atD b j) = mtP (atD c j) (atD d j)) : mtL a b n = mtL c d n := by
  unfold mtL
  apply List.map_congr_left
  intro j hj
  exact h j (List.mem_range.1 hj)
/-- One of two that have something in common has no less with itself. -/
theorem ovl_self (l r : List Sp) : ovl l r ≤ ovl l l := by
  rcases meetF_cases l r with ⟨h1, h2, h3⟩ | ⟨h1, h2⟩
  · rcases meetF_cases l l with ⟨k1, k2, k3⟩ | ⟨k1, k2⟩
    · unfold ovl
      rw [h3, k3, mtL_len, mtL_len]
      split
      · omega
      · refine prodL_mono _ fun j hj => ?_
        rw [mtL_at hj, mtL_at hj]
        have := metP_yes.1 (h2 j hj)
        unfold lenP lenT mtP
        simp only
        split <;> split <;> omega
    · obtain ⟨j, hj, hn⟩ := k2 rfl
      have := metP_yes.1 (h2 j hj)
      have := metP_no.1 hn
      omega
  · have : ovl l r = 0 := (ovl_zero l r).2 (by rw [h1]; rfl)
    rw [this]
    exact (ovl_le l l).1
theorem ovl_of_meet (l r : List Sp) : ovl (meetF l r) (meetF l r) = ovl l r := by
  have hm : meetF (meetF l r) (meetF l r) = meetF l r := by
    rcases meetF_cases (meetF l r) (meetF l r) with ⟨k1, k2, k3⟩ | ⟨k1, k2⟩
    · rw [k3]
      refine atD_ext (mtL_len _ _ _) fun j hj => ?_
      rw [mtL_len] at hj
      rw [mtL_at hj]
      cases hx : atD (meetF l r) j
      unfold mtP
      simp
    · by_cases h0 : (meetF l r).length = 0
      · rw [k1]; exact (List.eq_nil_of_length_eq_zero h0).symm
      · obtain ⟨j, hj, hn⟩ := k2 rfl
        have := meet_full j hj
        have := metP_no.1 hn
        omega
  unfold ovl
  rw [hm]
theorem ovl_part (a b c : List Sp) : ovl (meetF a c) b ≤ ovl a b := by
  rcases meetF_cases (meetF a c) b with ⟨k1, k2, k3⟩ | ⟨k1, k2⟩
  · rcases meetF_cases a c with ⟨h1, h2, h3⟩ | ⟨h1, h2⟩
    · rw [h3] at k1 k2 k3 ⊢
      rw [mtL_len] at k1 k2 k3
      have hall : ∀ j, j < a.length → metP (atD a j) (atD b j) = true := fun j hj => by
        have := k2 j hj
        rw [mtL_at hj, metP_yes] at this
        unfold mtP at this
        simp only at this
        rw [metP_yes]
        omega
      rcases meetF_cases a b with ⟨g1, g2, g3⟩ | ⟨g1, g2⟩
      · unfold ovl
        rw [k3, g3, mtL_len, mtL_len]
        split
        · omega
        · refine prodL_mono _ fun j hj => ?_
          rw [mtL_at hj, mtL_at hj, mtL_at hj]
          unfold lenP lenT mtP
          simp only
          split <;> split <;> omega
      · obtain ⟨j, hj, hn⟩ := g2 (by omega)
        rw [hall j hj] at hn
        cases hn
    · have h0 : (meetF (meetF a c) b).length = 0 := by
        have := meetF_len' (meetF a c) b
        rw [h1] at this ⊢
        simpa using this
      have : ovl (meetF a c) b = 0 := (ovl_zero _ _).2 h0
      rw [this]
      exact (ovl_le a b).1
  · have : ovl (meetF a c) b = 0 := (ovl_zero _ _).2 (by rw [k1]; rfl)
    rw [this]
    exact (ovl_le a b).1
theorem ovl_covered {a b : List Sp} (h : coversB b a = true) : ovl a b = ovl a a := by
  rw [coversB_iff] at h
  by_cases h0 : a.length = 0
  · have e1 : (meetF a b).length = 0 := by have := meetF_len' a b; omega
    have e2 : (meetF a a).length = 0 := by have := meetF_len' a a; omega
    rw [(ovl_zero _ _).2 e1, (ovl_zero _ _).2 e2]
  · obtain ⟨h1, h2⟩ := h.resolve_left h0
    have hme : meetF a b = meetF a a := by
      rcases meetF_cases a b with ⟨g1, g2, g3⟩ | ⟨g1, g2⟩ <;> rcases meetF_cases a a with ⟨k1, k2, k3⟩ | ⟨k1, k2⟩
      · rw [g3, k3]
        refine mtL_eq fun j hj => ?_
        have e1 := metP_yes.1 (k2 j hj)
        have e2 := covP_iff.1 (h2 j (by omega))
        unfold mtP
        congr 1 <;> omega
      · obtain ⟨j, hj, hn⟩ := k2 rfl
        have e1 := metP_yes.1 (g2 j hj)
        have e2 := metP_no.1 hn
        omega
      · obtain ⟨j, hj, hn⟩ := g2 (by omega)
        have e1 := metP_yes.1 (k2 j hj)
        have e2 := metP_no.1 hn
        have e3 := covP_iff.1 (h2 j (by omega))
        omega
      · rw [g1, k1]
    unfold ovl
    rw [hme]
def quarW (ra rb xa xb : Int) : Int :=
  if IntKind.i64.wrap (IntKind.i64.wrap (IntKind.i64.wrap rb - IntKind.i64.wrap ra) + 1) < 1 then 0
  else IntKind.u8.wrap (IntKind.i64.wrap ((IntKind.i64.wrap (4 * IntKind.i64.wrap ((IntKind.i64.wrap (IntKind.i64.wrap xa + IntKind.i64.wrap xb)).fdiv (2 ^ min (1 : Int).toNat IntKind.i64.bits) - IntKind.i64.wrap ra))).tdiv (IntKind.i64.wrap (IntKind.i64.wrap (IntKind.i64.wrap rb - IntKind.i64.wrap ra) + 1))))
def keyW (s g : List Sp) : Nat → Int
  | 0 => 0
  | k + 1 => IntKind.u8.wrap (IntKind.u8.wrap (4 * keyW s g k) + quarW (atD s k).a (atD s k).b (atD g k).a (atD g k).b)
end Go.Proofs.YtkmnglgjbmipgaaDoor
