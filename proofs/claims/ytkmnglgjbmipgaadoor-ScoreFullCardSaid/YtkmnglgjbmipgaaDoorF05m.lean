/- Package filter: the mathematics. -/
import Derived.Test.YtkmnglgjbmipgaaDoorF05d
namespace Go.Proofs.YtkmnglgjbmipgaaDoor
open Go.RowKit

theorem atD_ext {α : Type} [Inhabited α] {l r : List α} (h : l.length = r.length) (k : ∀ j, j < l.length → atD l j = atD r j) : l = r := by
  apply List.ext_getElem? 
  intro i
  by_cases hi : i < l.length
  · rw [atD_some hi, atD_some (h ▸ hi), k i hi]
  · rw [List.getElem?_eq_none (by omega), List.getElem?_eq_none (by omega)]
theorem mtL_at {a b : List Sp} {n j : Nat} (h : j < n) : atD (mtL a b n) j = mtP (atD a j) (atD b j) := by
  have h1 : (mtL a b n)[j]? = some (mtP (atD a j) (atD b j)) := by
    unfold mtL
    rw [List.getElem?_map, List.getElem?_range h]; rfl
  have h2 := atD_some (l := mtL a b n) (k := j) (by rw [mtL_len]; exact h)
  rw [h1] at h2
  exact (Option.some.inj h2).symm
theorem meetF_cases (a b : List Sp) : (a.length = b.length ∧ (∀ j, j < a.length → metP (atD a j) (atD b j) = true) ∧ meetF a b = mtL a b a.length) ∨ (meetF a b = [] ∧ (a.length = b.length → ∃ j, j < a.length ∧ metP (atD a j) (atD b j) = false)) := by
  by_cases h : a.length = b.length
  · have hm : min a.length b.length = a.length := by omega
    cases hp : allP metP a b with
    | true =>
      have := allP_iff.1 hp
      rw [hm] at this
      exact .inl ⟨h, this, by rw [meetF_yes h (allP_iff.1 hp), hm]⟩
    | false =>
      have hn : ¬ ∀ k, k < min a.length b.length → metP (atD a k) (atD b k) = true := fun hh => by rw [allP_yes hh] at hp; cases hp
      obtain ⟨k, hk⟩ := Classical.not_forall.1 hn
      obtain ⟨hk1, hk2⟩ := Classical.not_imp.1 hk
      have hk2 : metP (atD a k) (atD b k) = false := by simpa using hk2
      exact .inr ⟨meetF_no hk1 hk2, fun _ => ⟨k, by omega, hk2⟩⟩
  · exact .inr ⟨meetF_ne h, fun e => (h e).elim⟩
theorem matchB_iff {l : List Sp} {v : List Int} : matchB l v = true ↔ l.length ≠ 0 ∧ l.length = v.length ∧ ∀ j, j < l.length → hasP (atD l j) (atD v j) = true := by
  unfold matchB
  rw [Bool.and_eq_true, Bool.and_eq_true, decide_eq_true_eq, decide_eq_true_eq, allP_iff]
  constructor
  · rintro ⟨h1, h2, h3⟩
    exact ⟨h1, h2, fun j hj => h3 j (by omega)⟩
  · rintro ⟨h1, h2, h3⟩
    exact ⟨h1, h2, fun j hj => h3 j (by omega)⟩
theorem coversB_iff {a b : List Sp} : coversB a b = true ↔ b.length = 0 ∨ (a.length = b.length ∧ ∀ j, j < a.length → covP (atD a j) (atD b j) = true) := by
  unfold coversB
  rw [Bool.or_eq_true, Bool.and_eq_true, decide_eq_true_eq, decide_eq_true_eq, allP_iff]
  constructor
  · rintro (h | ⟨h2, h3⟩)
    · exact .inl h
    · exact .inr ⟨h2, fun j hj => h3 j (by omega)⟩
  · rintro (h | ⟨h2, h3⟩)
    · exact .inl h
    · exact .inr ⟨h2, fun j hj => h3 j (by omega)⟩
theorem hasP_iff {x : Sp} {v : Int} : hasP x v = true ↔ x.a ≤ v ∧ v ≤ x.b := by
  unfold hasP hasT
  rw [Bool.and_eq_true, decide_eq_true_eq, decide_eq_true_eq]
theorem covP_iff {x y : Sp} : covP x y = true ↔ y.b < y.a ∨ (x.a ≤ y.a ∧ y.b ≤ x.b) := by
  unfold covP covT
  rw [Bool.or_eq_true, Bool.and_eq_true, decide_eq_true_eq, decide_eq_true_eq, decide_eq_true_eq]
theorem metP_no {x y : Sp} : metP x y = false ↔ min x.b y.b < max x.a y.a := by
  unfold metP
  rw [decide_eq_false_iff_not]
  omega
theorem bool_iff {a b : Bool} (h : a = true ↔ b = true) : a = b := by cases a <;> cases b <;> simp_all
theorem match_meet (a b : List Sp) (v : List Int) : matchB (meetF a b) v = (matchB a v && matchB b v) := by
  apply bool_iff
  rw [Bool.and_eq_true, matchB_iff, matchB_iff, matchB_iff]
  rcases meetF_cases a b with ⟨h1, h2, h3⟩ | ⟨h1, h2⟩
  · rw [h3, mtL_len]
    constructor
    · rintro ⟨k1, k2, k3⟩
      have hh : ∀ j, j < a.length → hasP (atD a j) (atD v j) = true ∧ hasP (atD b j) (atD v j) = true := fun j hj => by
        have := k3 j hj
        rw [mtL_at hj, hasP_iff] at this
        rw [hasP_iff, hasP_iff]
        simp only [mtP] at this
        omega
      exact ⟨⟨k1, k2, fun j hj => (hh j hj).1⟩, by omega, by omega, fun j hj => (hh j (by omega)).2⟩
    · rintro ⟨⟨k1, k2, k3⟩, k4, k5, k6⟩
      refine ⟨k1, k2, fun j hj => ?_⟩
      have e1 := k3 j hj
      have e2 := k6 j (by omega)
      rw [hasP_iff] at e1 e2
      rw [mtL_at hj, hasP_iff]
      simp only [mtP]
      omega
  · rw [h1]
    constructor
    · rintro ⟨k, _⟩
      exact (k rfl).elim
    · rintro ⟨⟨k1, k2, k3⟩, k4, k5, k6⟩
      obtain ⟨j, hj, hn⟩ := h2 (by omega)
      have e1 := k3 j hj
      have e2 := k6 j (by omega)
      rw [hasP_iff] at e1 e2
      rw [metP_no] at hn
      omega
theorem mtP_comm (x y : Sp) : mtP x y = mtP y x := by
  unfold mtP
  rw [Int.max_comm, Int.min_comm]
theorem meet_comm (a b : List Sp) : meetF a b = meetF b a := by
  rcases meetF_cases a b with ⟨h1, h2, h3⟩ | ⟨h1, h2⟩ <;> rcases meetF_cases b a with ⟨k1, k2, k3⟩ | ⟨k1, k2⟩
  · rw [h3, k3]
    refine atD_ext (by rw [mtL_len, mtL_len]; exact h1) fun j hj => ?_
    rw [mtL_len] at hj
    rw [mtL_at hj, mtL_at (by omega), mtP_comm]
  · exfalso
    obtain ⟨j, hj, hn⟩ := k2 h1.symm
    have := h2 j (by omega)
    rw [metP_no] at hn
    unfold metP at this
    rw [decide_eq_true_eq] at this
    omega
  · exfalso
    obtain ⟨j, hj, hn⟩ := h2 k1.symm
    have := k2 j (by omega)
    rw [metP_no] at hn
    unfold metP at this
    rw [decide_eq_true_eq] at this
    omega
  · rw [h1, k1]
theorem covers_meet (a b : List Sp) : coversB a (meetF a b) = true := by
  rw [coversB_iff]
  rcases meetF_cases a b with ⟨h1, h2, h3⟩ | ⟨h1, h2⟩
  · refine .inr ⟨by rw [h3, mtL_len], fun j hj => ?_⟩
    rw [h3, mtL_at hj, covP_iff]
    simp only [mtP]
    omega
  · exact .inl (by rw [h1]; rfl)
theorem covers_match {a b : List Sp} {v : List Int} (h : coversB a b = true) (k : matchB b v = true) : matchB a v = true := by
  rw [coversB_iff] at h
  rw [matchB_iff] at k ⊢
  obtain ⟨k1, k2, k3⟩ := k
  rcases h with h | ⟨h1, h2⟩
  · exact (k1 h).elim
  · refine ⟨by omega, by omega, fun j hj => ?_⟩
    have e1 := h2 j hj
    have e2 := k3 j (by omega)
    rw [covP_iff] at e1
    rw [hasP_iff] at e2 ⊢
    omega
theorem covers_trans {a b c : List Sp} (h : coversB a b = true) (k : coversB b c = true) : coversB a c = true := by
  rw [coversB_iff] at h k ⊢
  by_cases hc : c.length = 0
  · exact .inl hc
  · rcases k with k | ⟨k1, k2⟩
    · exact (hc k).elim
    rcases h with h | ⟨h1, h2⟩
    · omega
    refine .inr ⟨by omega, fun j hj => ?_⟩
    have e1 := h2 j hj
    have e2 := k2 j (by omega)
    rw [covP_iff] at e1 e2 ⊢
    omega
theorem covers_self (a : List Sp) : coversB a a = true := by
  rw [coversB_iff]
  refine .inr ⟨rfl, fun j hj => ?_⟩
  rw [covP_iff]
  omega
theorem covers_nil (a : List Sp) : coversB a [] = true := coversB_iff.2 (.inl rfl)
theorem covers_of_meet {a b : List Sp} (h : meetF a b = b) : coversB a b = true := h ▸ covers_meet a b
end Go.Proofs.YtkmnglgjbmipgaaDoor
