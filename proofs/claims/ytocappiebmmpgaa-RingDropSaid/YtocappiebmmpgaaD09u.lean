/- Descriptors: what keeps a view a view. -/
import Derived.Test.YtocappiebmmpgaaD09t
namespace Go.Proofs.Ytocappiebmmpgaa
open Go.RowKit

def putP (l : List De) (d : De) (self room : Int) : List De × Bool :=
  if d.node = self ∨ d.inc = 0 then (l, false)
  else if findZ d.node l = -1 then (if room ≤ l.length then (l, false) else (insL l (placeN d.node l) d, true))
  else if (l[placeN d.node l]?.any (newB d)) = true then (l.set (placeN d.node l) d, true) else (l, false)
theorem put_ok (l : List De) (cap : Nat) (hl : l.length ≤ 1099511627776) (hr : Rising l) (hf : FlOk l) (d : De) (cd : Nat) (hcd : d.fl.length ≤ cd) (hdl : d.fl.length ≤ 1099511627776) (self room : Int) : FnOK Try.prog GG 46 [.ro 4 (l.map deC)] [.s (.o 0) 4 0 l.length cap, deS d cd, .v (.int .u8 self), .v (.int .i64 room)] (fun r _ ext => ∃ cap', ((putP l d self room).1).length ≤ cap' ∧ r = .tup [.s (.n 0) 4 0 ((putP l d self room).1).length cap', .v (.bool (putP l d self room).2)] ∧ ext = [.row 27 4 cap' (((putP l d self room).1).map deC)]) := by
  by_cases hb : d.node = self ∨ d.inc = 0
  · have e : putP l d self room = (l, false) := if_pos hb
    rw [e]
    exact put_bad l cap hl hr hf d cd hcd hdl self room hb
  have hb' : d.node ≠ self ∧ d.inc ≠ 0 := ⟨fun h => hb (.inl h), fun h => hb (.inr h)⟩
  rcases has_or d.node l with ⟨y, hy, hx, hF, _⟩ | ⟨_, hF, _⟩
  · have hne : ¬ findZ d.node l = -1 := by omega
    cases hnb : newB d y with
    | true =>
      have e : putP l d self room = (l.set (placeN d.node l) d, true) := by
        unfold putP
        rw [if_neg hb, if_neg hne, hy, if_pos (by simpa using hnb)]
      rw [e]
      exact put_new l cap hl hr hf d cd hcd hdl self room y hy hx hb' hnb
    | false =>
      have e : putP l d self room = (l, false) := by
        unfold putP
        rw [if_neg hb, if_neg hne, hy, if_neg (by simp [hnb])]
      rw [e]
      exact put_old l cap hl hr hf d cd hcd hdl self room y hy hx hb' hnb
  · by_cases hroom : room ≤ l.length
    · have e : putP l d self room = (l, false) := by
        unfold putP
        rw [if_neg hb, if_pos hF, if_pos hroom]
      rw [e]
      exact put_full l cap hl hr hf d cd hcd hdl self room hF hb' hroom
    · have e : putP l d self room = (insL l (placeN d.node l) d, true) := by
        unfold putP
        rw [if_neg hb, if_pos hF, if_neg hroom]
      rw [e]
      exact put_ins l cap hl hr hf d cd hcd hdl self room hF hb' (by omega)
/-- A view: nodes rise, none is self, each incarnation is valid, and there are no more than its room. -/
structure VOk (me room : Int) (v : List De) : Prop where
  rising : Rising v
  each : ∀ y ∈ v, y.node ≠ me ∧ y.inc ≠ 0
  len : (v.length : Int) ≤ room
theorem VOk.right {self room : Int} {v : List De} (h : VOk self room v) : rightB v self room = true := by
  unfold rightB
  rw [decide_eq_true h.len, Bool.true_and]
  have : ∀ k, k ≤ v.length → rightN v self k = true := by
    intro k
    induction k with
    | zero => intro _; rfl
    | succ k ih =>
      intro hk
      unfold rightN
      rw [ih (by omega), Bool.true_and]
      have hy := List.getElem?_eq_getElem (show k < v.length by omega)
      have he := h.each _ (List.mem_of_getElem? hy)
      unfold okK
      rw [hy]
      simp only [decide_eq_true he.1, decide_eq_true he.2, Bool.true_and]
      cases k with
      | zero => rfl
      | succ j =>
        have hj := List.getElem?_eq_getElem (show j < v.length by omega)
        simp only [hj]
        exact decide_eq_true (List.pairwise_iff_getElem.1 h.rising j (j + 1) (by omega) (by omega) (by omega))
  exact this _ (Nat.le_refl _)
theorem set_rising {l : List De} {k : Nat} {y d : De} (hr : Rising l) (hy : l[k]? = some y) (hd : d.node = y.node) : Rising (l.set k d) := by
  refine List.pairwise_iff_getElem.2 fun i j hi hj hij => ?_
  rw [List.length_set] at hi hj
  obtain ⟨hk, e⟩ := List.getElem?_eq_some_iff.1 hy
  have h := List.pairwise_iff_getElem.1 hr i j hi hj hij
  rw [List.getElem_set, List.getElem_set]
  split <;> split
  · omega
  · rename_i e1 _; subst e1; rw [e] at h; omega
  · rename_i _ e1; subst e1; rw [e] at h; omega
  · exact h
theorem put_mem {l : List De} {d : De} {self room : Int} {y : De} (h : y ∈ (putP l d self room).1) : y = d ∨ y ∈ l := by
  unfold putP at h
  split at h
  · exact .inr h
  · split at h
    · split at h
      · exact .inr h
      · exact insL_mem h
    · split at h
      · rcases List.mem_or_eq_of_mem_set h with h | h
        · exact .inr h
        · exact .inl h
      · exact .inr h
theorem VOk.put {self room : Int} {v : List De} (h : VOk self room v) (d : De) : VOk self room (putP v d self room).1 := by
  unfold putP
  split
  · exact h
  rename_i hb
  have hb' : d.node ≠ self ∧ d.inc ≠ 0 := ⟨fun h => hb (.inl h), fun h => hb (.inr h)⟩
  split
  · rename_i hF
    split
    · exact h
    · have hn : ∀ y ∈ v, y.node ≠ d.node := fun y hy e => by
        have := rising_at h.rising hy e
        unfold findZ at hF
        rw [this] at hF
        simp only at hF
        rw [if_pos e] at hF
        omega
      refine ⟨insL_rising rfl h.rising hn, fun y hy => ?_, ?_⟩
      · rcases insL_mem hy with rfl | hy
        · exact hb'
        · exact h.each y hy
      · rw [insL_len _ _ _ (place_le _ _)]
        omega
  · rename_i hF
    split
    · rcases has_or d.node v with ⟨y, hy, hx, _⟩ | ⟨_, hF', _⟩
      · refine ⟨set_rising h.rising hy hx.symm, fun z hz => ?_, by rw [List.length_set]; exact h.len⟩
        rcases List.mem_or_eq_of_mem_set hz with hz | rfl
        · exact h.each z hz
        · exact hb'
      · exact (hF hF').elim
    · exact h
theorem VOk.drop {self room : Int} {v : List De} (h : VOk self room v) (x : Int) : VOk self room (dropL x v) :=
  ⟨drop_rising h.rising, fun y hy => h.each y (drop_mem hy), by have := drop_len (x := x) (l := v); have := h.len; omega⟩
theorem VOk.older {self room : Int} {v : List De} (h : VOk self room v) : VOk self room (v.map older) := by
  refine ⟨List.pairwise_map.2 h.rising, fun y hy => ?_, by rw [List.length_map]; exact h.len⟩
  obtain ⟨z, hz, rfl⟩ := List.mem_map.1 hy
  exact h.each z hz
theorem VOk.view {l : List De} {self room : Int} (h0 : 0 ≤ room) (hi : ∀ y ∈ l, 0 ≤ y.inc) : VOk self room (viewN l self room 256) := by
  refine ⟨view_rising l self room 256, fun y hy => ?_, ?_⟩
  · obtain ⟨z, hz, rfl, _, _, h⟩ := view_mem 256 y hy
    refine ⟨h, ?_⟩
    have := hi z hz
    show max z.inc 1 ≠ 0
    omega
  · have := (view_len l self room 256).2
    omega
end Go.Proofs.Ytocappiebmmpgaa
