/- Descriptors by computing: what Put tells, put twice. -/
import Derived.Test.YtocappiebmmpgaaD09o
import Derived.Test.YtocappiebmmpgaaD09q
namespace Go.Proofs.Ytocappiebmmpgaa
open Go.RowKit

theorem insL_cons (d : De) (l : List De) (k : Nat) (x : De) : insL (d :: l) (k + 1) x = d :: insL l k x := rfl
theorem insL_mem {v : List De} {k : Nat} {x y : De} (h : y ∈ insL v k x) : y = x ∨ y ∈ v := by
  unfold insL at h
  rcases List.mem_append.1 h with h | h
  · exact .inr (List.mem_of_mem_take h)
  · rcases List.mem_cons.1 h with h | h
    · exact .inl h
    · exact .inr (List.mem_of_mem_drop h)
theorem insL_place {N : Int} {x : De} (hx : x.node = N) : ∀ v : List De, placeN N (insL v (placeN N v) x) = placeN N v
  | [] => by
    show placeN N [x] = 0
    unfold placeN
    rw [if_neg (by omega)]
  | d :: l => by
    have ih := insL_place hx l
    by_cases hd : d.node < N
    · have e : ∀ m : List De, placeN N (d :: m) = placeN N m + 1 := fun m => by rw [placeN, if_pos hd]
      rw [e, insL_cons, e, ih]
    · have e : placeN N (d :: l) = 0 := by rw [placeN, if_neg hd]
      rw [e]
      show placeN N (x :: d :: l) = 0
      rw [placeN, if_neg (by omega)]
theorem insL_get {x : De} : ∀ {v : List De} {k : Nat}, k ≤ v.length → (insL v k x)[k]? = some x
  | [], k, h => by
    obtain rfl : k = 0 := by simpa using h
    rfl
  | d :: l, 0, _ => rfl
  | d :: l, k + 1, h => by
    rw [insL_cons]
    simpa using insL_get (x := x) (v := l) (k := k) (by simpa using h)
theorem insL_set {x y : De} : ∀ {v : List De} {k : Nat}, k ≤ v.length → (insL v k x).set k y = insL v k y
  | [], k, h => by
    obtain rfl : k = 0 := by simpa using h
    rfl
  | d :: l, 0, _ => rfl
  | d :: l, k + 1, h => by
    rw [insL_cons, insL_cons, List.set_cons_succ, insL_set (by simpa using h)]
theorem insL_rising {N : Int} {x : De} (hx : x.node = N) : ∀ {v : List De}, Rising v → (∀ y ∈ v, y.node ≠ N) → Rising (insL v (placeN N v) x)
  | [], _, _ => List.pairwise_singleton _ _
  | d :: l, hr, hn => by
    obtain ⟨h1, h2⟩ := List.pairwise_cons.1 hr
    have hd := hn d (by simp)
    have ih := insL_rising hx h2 (fun y hy => hn y (by simp [hy]))
    by_cases hlt : d.node < N
    · rw [placeN, if_pos hlt, insL_cons]
      refine List.pairwise_cons.2 ⟨fun y hy => ?_, ih⟩
      rcases insL_mem hy with rfl | hy
      · omega
      · exact h1 y hy
    · rw [placeN, if_neg hlt]
      show Rising (x :: d :: l)
      refine List.pairwise_cons.2 ⟨fun y hy => ?_, hr⟩
      rcases List.mem_cons.1 hy with rfl | hy
      · omega
      · have := h1 y hy
        omega
theorem rising_at {N : Int} : ∀ {l : List De}, Rising l → ∀ {y : De}, y ∈ l → y.node = N → l[placeN N l]? = some y
  | d :: l, hr, y, hy, e => by
    obtain ⟨h1, h2⟩ := List.pairwise_cons.1 hr
    unfold placeN
    rcases List.mem_cons.1 hy with rfl | hy
    · rw [if_neg (by omega)]; rfl
    · rw [if_pos (by have := h1 y hy; omega)]
      simpa using rising_at h2 hy e
theorem drop_mem {x : Int} {l : List De} {y : De} (h : y ∈ dropL x l) : y ∈ l := by
  rcases has_or x l with ⟨_, _, _, _, hD⟩ | ⟨_, _, hD⟩
  · rw [hD] at h; exact List.mem_of_mem_eraseIdx h
  · rw [hD] at h; exact h
theorem drop_rising {x : Int} {l : List De} (hr : Rising l) : Rising (dropL x l) := by
  rcases has_or x l with ⟨_, _, _, _, hD⟩ | ⟨_, _, hD⟩
  · rw [hD]; exact List.Pairwise.sublist (List.eraseIdx_sublist _ _) hr
  · rw [hD]; exact hr
theorem drop_len {x : Int} {l : List De} : (dropL x l).length ≤ l.length := by
  rcases has_or x l with ⟨_, _, _, _, hD⟩ | ⟨_, _, hD⟩
  · rw [hD]; exact List.length_eraseIdx_le _ _
  · rw [hD]; exact Nat.le_refl _
theorem drop_none {x : Int} {l : List De} (hr : Rising l) : ∀ y ∈ dropL x l, y.node ≠ x := by
  intro y hy e
  rcases has_or x l with ⟨z, hz, _, _, hD⟩ | ⟨hn, _, hD⟩
  · rw [hD] at hy
    obtain ⟨i, hi⟩ := List.getElem?_of_mem hy
    rw [List.getElem?_eraseIdx] at hi
    split at hi
    · rename_i hlt
      have h1 := rising_at hr (List.mem_of_getElem? hi) e
      obtain ⟨hl1, e1⟩ := List.getElem?_eq_some_iff.1 hi
      obtain ⟨hl2, e2⟩ := List.getElem?_eq_some_iff.1 h1
      have := List.pairwise_iff_getElem.1 hr i _ hl1 hl2 hlt
      rw [e1, e2] at this
      omega
    · rename_i hge
      have h1 := rising_at hr (List.mem_of_getElem? hi) e
      obtain ⟨hl1, e1⟩ := List.getElem?_eq_some_iff.1 hi
      obtain ⟨hl2, e2⟩ := List.getElem?_eq_some_iff.1 h1
      have := List.pairwise_iff_getElem.1 hr _ (i + 1) hl2 hl1 (by omega)
      rw [e1, e2] at this
      omega
  · rw [hD] at hy
    exact hn y (rising_at hr hy e) e
theorem find_none {x : Int} {l : List De} (h : ∀ y ∈ l, y.node ≠ x) : findZ x l = -1 := by
  rcases has_or x l with ⟨z, hz, e, _⟩ | ⟨_, h, _⟩
  · exact (h z (List.mem_of_getElem? hz) e).elim
  · exact h
theorem insL_fl {v : List De} {k : Nat} {x : De} (h : FlOk v) (hx : x.fl.length ≤ 1099511627776) : FlOk (insL v k x) := fun y hy => by
  rcases insL_mem hy with rfl | hy
  · exact hx
  · exact h y hy
theorem putI_z (l : List De) (cap : Nat) (hl : l.length ≤ 1099511627776) (hr : Rising l) (hf : FlOk l) (d : De) (cd : Nat) (hcd : d.fl.length ≤ cd) (hdl : d.fl.length ≤ 1099511627776) (self room : Int) (hn : ∀ y ∈ l, y.node ≠ d.node) (hb : d.node ≠ self ∧ d.inc ≠ 0) (hroom : (l.length : Int) < room) (o : List De) (ho : insL l (placeN d.node l) d = o) : FnOK Try.prog GG 46 [.ro 4 (l.map deC)] [.s (.o 0) 4 0 l.length cap, deS d cd, .v (.int .u8 self), .v (.int .i64 room)] (fun r _ ext => ∃ cap', (o).length ≤ cap' ∧ r = .tup [.s (.n 0) 4 0 (o).length cap', .v (.bool true)] ∧ ext = [.row 27 4 cap' ((o).map deC)]) := by
  subst ho
  exact put_ins l cap hl hr hf d cd hcd hdl self room (find_none hn) hb hroom
theorem putR_z (l : List De) (cap : Nat) (hl : l.length ≤ 1099511627776) (hr : Rising l) (hf : FlOk l) (d : De) (cd : Nat) (hcd : d.fl.length ≤ cd) (hdl : d.fl.length ≤ 1099511627776) (self room : Int) (v : List De) (x : De) (hv : l = insL v (placeN d.node v) x) (hx : x.node = d.node) (hb : d.node ≠ self ∧ d.inc ≠ 0) (b : Bool) (hnb : newB d x = b) (o : List De) (ho : insL v (placeN d.node v) (if b then d else x) = o) : FnOK Try.prog GG 46 [.ro 4 (l.map deC)] [.s (.o 0) 4 0 l.length cap, deS d cd, .v (.int .u8 self), .v (.int .i64 room)] (fun r _ ext => ∃ cap', (o).length ≤ cap' ∧ r = .tup [.s (.n 0) 4 0 (o).length cap', .v (.bool b)] ∧ ext = [.row 27 4 cap' ((o).map deC)]) := by
  have hp := insL_place (N := d.node) hx v
  have hg : l[placeN d.node l]? = some x := by rw [hv, hp]; exact insL_get (place_le _ _)
  cases b with
  | true =>
    have hs : l.set (placeN d.node l) d = o := by rw [hv, hp, insL_set (place_le _ _)]; exact ho
    subst hs
    exact put_new l cap hl hr hf d cd hcd hdl self room x hg hx hb hnb
  | false =>
    have hs : l = o := by rw [hv]; exact ho
    subst hs
    exact put_old l cap hl hr hf d cd hcd hdl self room x hg hx hb hnb
end Go.Proofs.Ytocappiebmmpgaa
