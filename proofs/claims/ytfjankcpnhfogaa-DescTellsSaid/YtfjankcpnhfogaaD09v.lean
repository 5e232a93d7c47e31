/- Law DescBounds: what one round finds. -/
import Derived.Test.YtfjankcpnhfogaaD09u
namespace Go.Proofs.Ytfjankcpnhfogaa
open Go.RowKit

theorem set_place {N : Int} {d : De} (hd : d.node = N) : ∀ {l : List De} {y : De}, l[placeN N l]? = some y → y.node = N → placeN N (l.set (placeN N l) d) = placeN N l
  | [], y, h, _ => by simp at h
  | e :: l, y, h, hy => by
    by_cases he : e.node < N
    · have e1 : ∀ m : List De, placeN N (e :: m) = placeN N m + 1 := fun m => by rw [placeN, if_pos he]
      rw [e1] at h ⊢
      rw [List.set_cons_succ, e1, set_place hd (by simpa using h) hy]
    · have e1 : placeN N (e :: l) = 0 := by rw [placeN, if_neg he]
      rw [e1, List.set_cons_zero, placeN, if_neg (by omega)]
theorem find_at {x : Int} {l : List De} {y : De} (h : l[placeN x l]? = some y) (e : y.node = x) : findZ x l = (placeN x l : Int) := by
  unfold findZ
  rw [h]
  exact if_pos e
/-- What one round of the law finds of what Put tells. -/
theorem put_found {me room : Int} {v : List De} (h : VOk me room v) (hi : ∀ y ∈ v, 0 ≤ y.inc) (d : De) (hd : 0 ≤ d.inc) :
    (∃ kk, (putP v d me room).2 = true ∧ findZ d.node (putP v d me room).1 = (kk : Nat) ∧ (putP v d me room).1[kk]? = some d) ∨
    (putP v d me room = (v, false) ∧ findZ d.node v = -1 ∧ (d.node = me ∨ d.inc = 0 ∨ room ≤ v.length)) ∨
    (∃ kk y, putP v d me room = (v, false) ∧ findZ d.node v = (kk : Nat) ∧ v[kk]? = some y ∧ newB d y = false) := by
  by_cases hb : d.node = me ∨ d.inc = 0
  · have e : putP v d me room = (v, false) := if_pos hb
    rcases has_or d.node v with ⟨y, hy, hx, hF, _⟩ | ⟨_, hF, _⟩
    · refine .inr (.inr ⟨placeN d.node v, y, e, hF, hy, ?_⟩)
      have h1 := h.each y (List.mem_of_getElem? hy)
      have h2 := hi y (List.mem_of_getElem? hy)
      unfold newB
      simp only [Bool.or_eq_false_iff, Bool.and_eq_false_iff, decide_eq_false_iff_not]
      omega
    · exact .inr (.inl ⟨e, hF, by omega⟩)
  · rcases has_or d.node v with ⟨y, hy, hx, hF, _⟩ | ⟨_, hF, _⟩
    · have hne : ¬ findZ d.node v = -1 := by omega
      cases hnb : newB d y with
      | true =>
        have e : putP v d me room = (v.set (placeN d.node v) d, true) := by
          unfold putP
          rw [if_neg hb, if_neg hne, hy, if_pos (by simpa using hnb)]
        have hp := set_place (d := d) rfl hy hx
        have hg : (v.set (placeN d.node v) d)[placeN d.node (v.set (placeN d.node v) d)]? = some d := by
          rw [hp, List.getElem?_set, if_pos rfl, if_pos (getElem?_lt hy)]
        refine .inl ⟨placeN d.node v, by rw [e], ?_, ?_⟩
        · rw [e, ← hp]
          show findZ d.node (v.set (placeN d.node (v.set (placeN d.node v) d)) d) = _
          rw [hp]
          exact (find_at hg rfl).trans (by rw [hp])
        · rw [e, ← hp]
          rw [hp] at hg ⊢
          exact hg
      | false =>
        have e : putP v d me room = (v, false) := by
          unfold putP
          rw [if_neg hb, if_neg hne, hy, if_neg (by simp [hnb])]
        exact .inr (.inr ⟨placeN d.node v, y, e, hF, hy, hnb⟩)
    · by_cases hroom : room ≤ v.length
      · have e : putP v d me room = (v, false) := by
          unfold putP
          rw [if_neg hb, if_pos hF, if_pos hroom]
        exact .inr (.inl ⟨e, hF, .inr (.inr hroom)⟩)
      · have e : putP v d me room = (insL v (placeN d.node v) d, true) := by
          unfold putP
          rw [if_neg hb, if_pos hF, if_neg hroom]
        have hp := insL_place (N := d.node) (x := d) rfl v
        have hg : (insL v (placeN d.node v) d)[placeN d.node (insL v (placeN d.node v) d)]? = some d := by
          rw [hp]
          exact insL_get (place_le _ _)
        refine .inl ⟨placeN d.node v, by rw [e], ?_, ?_⟩
        · rw [e]
          exact (find_at hg rfl).trans (by rw [hp])
        · rw [e]
          rw [hp] at hg
          exact hg
end Go.Proofs.Ytfjankcpnhfogaa
