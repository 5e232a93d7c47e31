/- Stage 11: what filling comes to. -/
import Derived.Test.YtjghbfbifkhloaaW11d
import Derived.Test.YtjghbfbifkhloaaD09v
namespace Go.Proofs.Ytjghbfbifkhloaa
open Go.RowKit

theorem find_has {l : List De} {y : De} {x : Int} (hr : Rising l) (hy : y ∈ l) (h : y.node = x) : ∃ k : Nat, findZ x l = k := by
  exact ⟨_, find_at (rising_at hr hy h) h⟩
theorem find_no {l : List De} {x : Int} (hr : Rising l) (h : findZ x l = -1) : ∀ y ∈ l, y.node ≠ x := fun y hy e => by
  obtain ⟨k, hk⟩ := find_has hr hy e
  omega
theorem find_cases (l : List De) (x : Int) : (findZ x l = -1) ∨ ∃ y ∈ l, y.node = x ∧ 0 ≤ findZ x l := by
  rcases has_or x l with ⟨y, h1, h2, h3, _⟩ | ⟨_, h, _⟩
  · exact .inr ⟨y, List.mem_of_getElem? h1, h2, by omega⟩
  · exact .inl h
theorem mem_insL {l : List De} {k : Nat} {d y : De} (h : y ∈ l) : y ∈ insL l k d := by
  unfold insL
  rw [← List.take_append_drop k l] at h
  rcases List.mem_append.1 h with h | h
  · exact List.mem_append.2 (.inl h)
  · exact List.mem_append.2 (.inr (List.mem_cons_of_mem _ h))
theorem insL_self {l : List De} {k : Nat} {d : De} : d ∈ insL l k d := by
  unfold insL
  exact List.mem_append.2 (.inr List.mem_cons_self)
/-- What Put comes to. -/
theorem put_cases (l : List De) (d : De) (me room : Int) :
    (putP l d me room = (l, false) ∧ (d.node = me ∨ d.inc = 0 ∨ (findZ d.node l = -1 ∧ room ≤ l.length) ∨ ∃ y, l[placeN d.node l]? = some y ∧ y.node = d.node ∧ newB d y = false)) ∨
    (putP l d me room = (insL l (placeN d.node l) d, true) ∧ d.node ≠ me ∧ d.inc ≠ 0 ∧ findZ d.node l = -1 ∧ (l.length : Int) < room) ∨
    (∃ y, putP l d me room = (l.set (placeN d.node l) d, true) ∧ d.node ≠ me ∧ d.inc ≠ 0 ∧ l[placeN d.node l]? = some y ∧ y.node = d.node ∧ newB d y = true) := by
  by_cases hb : d.node = me ∨ d.inc = 0
  · exact .inl ⟨if_pos hb, by omega⟩
  have hb' : d.node ≠ me ∧ d.inc ≠ 0 := ⟨fun h => hb (.inl h), fun h => hb (.inr h)⟩
  rcases has_or d.node l with ⟨y, hy, hx, hF, _⟩ | ⟨_, hF, _⟩
  · have hne : ¬ findZ d.node l = -1 := by omega
    cases hnb : newB d y with
    | true =>
      refine .inr (.inr ⟨y, ?_, hb'.1, hb'.2, hy, hx, hnb⟩)
      unfold putP
      rw [if_neg hb, if_neg hne, hy, if_pos (by simpa using hnb)]
    | false =>
      refine .inl ⟨?_, .inr (.inr (.inr ⟨y, hy, hx, hnb⟩))⟩
      unfold putP
      rw [if_neg hb, if_neg hne, hy, if_neg (by simp [hnb])]
  · by_cases hroom : room ≤ l.length
    · refine .inl ⟨?_, .inr (.inr (.inl ⟨hF, hroom⟩))⟩
      unfold putP
      rw [if_neg hb, if_pos hF, if_pos hroom]
    · refine .inr (.inl ⟨?_, hb'.1, hb'.2, hF, by omega⟩)
      unfold putP
      rw [if_neg hb, if_pos hF, if_neg hroom]
theorem mem_set_or {l : List De} {k : Nat} {z d y : De} (hz : l[k]? = some z) (hy : y ∈ l) : y = z ∨ y ∈ l.set k d := by
  obtain ⟨i, hi⟩ := List.mem_iff_getElem?.1 hy
  by_cases h : k = i
  · subst h
    rw [hz] at hi
    cases hi
    exact .inl rfl
  · exact .inr (List.mem_iff_getElem?.2 ⟨i, by rw [List.getElem?_set, if_neg h]; exact hi⟩)
theorem set_self {l : List De} {k : Nat} {z d : De} (hz : l[k]? = some z) : d ∈ l.set k d :=
  List.mem_iff_getElem?.2 ⟨k, by rw [List.getElem?_set, if_pos rfl, if_pos (getElem?_lt hz)]⟩
theorem put_nodes {l : List De} {d : De} {me room : Int} {y : De} (h : y ∈ l) : ∃ z ∈ (putP l d me room).1, z.node = y.node := by
  rcases put_cases l d me room with ⟨e, _⟩ | ⟨e, _⟩ | ⟨z, e, _, _, hz, hn, _⟩
  · rw [e]; exact ⟨y, h, rfl⟩
  · rw [e]; exact ⟨y, mem_insL h, rfl⟩
  · rw [e]
    rcases mem_set_or (d := d) hz h with rfl | h
    · exact ⟨d, set_self hz, hn.symm⟩
    · exact ⟨y, h, rfl⟩
theorem put_length (l : List De) (d : De) (me room : Int) : l.length ≤ (putP l d me room).1.length := by
  rcases put_cases l d me room with ⟨e, _⟩ | ⟨e, _⟩ | ⟨z, e, _⟩
  · rw [e]; exact Nat.le_refl _
  · rw [e, insL_len _ _ _ (place_le _ _)]; omega
  · rw [e, List.length_set]; exact Nat.le_refl _
theorem fill_nodes {got : List De} {me room : Int} {l : List De} {y : De} (h : y ∈ l) : ∀ k, ∃ z ∈ fillL got me room k l, z.node = y.node
  | 0 => ⟨y, h, rfl⟩
  | k + 1 => by
    obtain ⟨z, hz, e⟩ := fill_nodes (got := got) (me := me) (room := room) h k
    rw [fillL]
    split
    · obtain ⟨z', hz', e'⟩ := put_nodes (me := me) (room := room) (d := _) hz
      exact ⟨z', hz', e'.trans e⟩
    · exact ⟨z, hz, e⟩
theorem fill_length (got : List De) (me room : Int) (l : List De) : ∀ k, l.length ≤ (fillL got me room k l).length
  | 0 => Nat.le_refl _
  | k + 1 => by
    rw [fillL]
    split
    · exact Nat.le_trans (fill_length got me room l k) (put_length _ _ _ _)
    · exact fill_length got me room l k
/-- Put again, it would change nothing. -/
def Settled (me room : Int) (l : List De) (d : De) : Prop := d.node = me ∨ d.inc = 0 ∨ (∃ y ∈ l, y.node = d.node ∧ newB d y = false) ∨ (room ≤ l.length ∧ ∀ y ∈ l, y.node ≠ d.node)
theorem newB_irr (d : De) : newB d d = false := by
  unfold newB
  simp
theorem newB_trans {x y d : De} (h1 : newB x y = false) (h2 : newB d y = true) : newB x d = false := by
  unfold newB at *
  simp only [Bool.or_eq_false_iff, Bool.and_eq_false_iff, Bool.or_eq_true, Bool.and_eq_true, decide_eq_true_eq, decide_eq_false_iff_not] at *
  omega
theorem settled_put {me room : Int} {l : List De} (hr : Rising l) (d : De) : Settled me room (putP l d me room).1 d := by
  rcases put_cases l d me room with ⟨e, h⟩ | ⟨e, _⟩ | ⟨z, e, _, _, hz, hn, _⟩
  · rw [e]
    rcases h with h | h | ⟨h1, h2⟩ | ⟨y, hy, hn, hb⟩
    · exact .inl h
    · exact .inr (.inl h)
    · exact .inr (.inr (.inr ⟨h2, find_no hr h1⟩))
    · exact .inr (.inr (.inl ⟨y, List.mem_of_getElem? hy, hn, hb⟩))
  · rw [e]; exact .inr (.inr (.inl ⟨d, insL_self, rfl, newB_irr d⟩))
  · rw [e]; exact .inr (.inr (.inl ⟨d, set_self hz, rfl, newB_irr d⟩))
theorem settled_keep {me room : Int} {l : List De} {x : De} (h : Settled me room l x) (d : De) : Settled me room (putP l d me room).1 x := by
  rcases h with h | h | ⟨y, hy, hn, hb⟩ | ⟨h1, h2⟩
  · exact .inl h
  · exact .inr (.inl h)
  · refine .inr (.inr (.inl ?_))
    rcases put_cases l d me room with ⟨e, _⟩ | ⟨e, _⟩ | ⟨z, e, _, _, hz, hzn, hdz⟩
    · rw [e]; exact ⟨y, hy, hn, hb⟩
    · rw [e]; exact ⟨y, mem_insL hy, hn, hb⟩
    · rw [e]
      rcases mem_set_or (d := d) hz hy with rfl | hy
      · exact ⟨d, set_self hz, hzn.symm.trans hn, newB_trans hb hdz⟩
      · exact ⟨y, hy, hn, hb⟩
  · refine .inr (.inr (.inr ?_))
    rcases put_cases l d me room with ⟨e, _⟩ | ⟨_, _, _, _, hl⟩ | ⟨z, e, _, _, hz, hzn, _⟩
    · rw [e]; exact ⟨h1, h2⟩
    · omega
    · rw [e]
      refine ⟨by rw [List.length_set]; exact h1, fun y hy => ?_⟩
      rcases List.mem_or_eq_of_mem_set hy with hy | rfl
      · exact h2 y hy
      · rw [← hzn]
        exact h2 z (List.mem_of_getElem? hz)
theorem settled_same {me room : Int} {l : List De} (hr : Rising l) {d : De} (h : Settled me room l d) : putP l d me room = (l, false) := by
  rcases put_cases l d me room with ⟨e, _⟩ | ⟨_, h1, h2, h3, h4⟩ | ⟨z, _, h1, h2, hz, hzn, hdz⟩
  · exact e
  · exfalso
    rcases h with h | h | ⟨y, hy, hn, _⟩ | ⟨h, _⟩
    · exact h1 h
    · exact h2 h
    · exact find_no hr h3 y hy hn
    · omega
  · exfalso
    rcases h with h | h | ⟨y, hy, hn, hb⟩ | ⟨_, h⟩
    · exact h1 h
    · exact h2 h
    · have := rising_at hr hy hn
      rw [hz] at this
      cases this
      rw [hdz] at hb
      cases hb
    · exact h z (List.mem_of_getElem? hz) hzn
theorem fill_settled {got : List De} {me room : Int} {l : List De} (hV : VOk me room l) : ∀ k j d, j < k → got[j]? = some d → Settled me room (fillL got me room k l) d
  | 0, j, d, hj, _ => by omega
  | k + 1, j, d, hj, hd => by
    rw [fillL]
    by_cases e : j = k
    · subst e
      rw [hd]
      exact settled_put (fill_vok hV j).rising d
    · have ih := fill_settled hV k j d (by omega) hd
      split
      · exact settled_keep ih _
      · exact ih
theorem fill_idem {got : List De} {me room : Int} {o : List De} (hr : Rising o) (h : ∀ (j : Nat) d, got[j]? = some d → Settled me room o d) : ∀ k, fillL got me room k o = o
  | 0 => rfl
  | k + 1 => by
    rw [fillL, fill_idem hr h k]
    split
    · rename_i d hd
      rw [settled_same hr (h k d hd)]
    · rfl
end Go.Proofs.Ytjghbfbifkhloaa
