/- Stage 10: what merging comes to. -/
import Derived.Test.YtccegmbklgmgnaaY10f
namespace Go.Proofs.Ytccegmbklgmgnaa
open Go.RowKit

theorem find_has {l : List De} {y : De} {x : Int} (hr : Rising l) (hy : y ∈ l) (h : y.node = x) : ∃ k : Nat, findZ x l = k :=
  ⟨_, find_at (rising_at hr hy h) h⟩
theorem find_no {l : List De} {x : Int} (hr : Rising l) (h : findZ x l = -1) : ∀ y ∈ l, y.node ≠ x := fun y hy e => by
  obtain ⟨k, hk⟩ := find_has hr hy e
  omega
theorem find_cases (l : List De) (x : Int) : (findZ x l = -1) ∨ ∃ y ∈ l, y.node = x ∧ 0 ≤ findZ x l := by
  rcases has_or x l with ⟨y, h1, h2, h3, _⟩ | ⟨_, h, _⟩
  · exact .inr ⟨y, List.mem_of_getElem? h1, h2, by omega⟩
  · exact .inl h
theorem mem_insL {l : List De} {k : Nat} {d y : De} (h : y ∈ l) : y ∈ insL l k d := by
  unfold insL
  rw [← List.take_append_drop k l] at h
  rcases List.mem_append.1 h with h | h
  · exact List.mem_append.2 (.inl h)
  · exact List.mem_append.2 (.inr (List.mem_cons_of_mem _ h))
theorem insL_self {l : List De} {k : Nat} {d : De} : d ∈ insL l k d := by
  unfold insL
  exact List.mem_append.2 (.inr List.mem_cons_self)
theorem put_cases (l : List De) (d : De) (me room : Int) :
    (putP l d me room = (l, false) ∧ (d.node = me ∨ d.inc = 0 ∨ (findZ d.node l = -1 ∧ room ≤ l.length) ∨ ∃ y, l[placeN d.node l]? = some y ∧ y.node = d.node ∧ newB d y = false)) ∨
    (putP l d me room = (insL l (placeN d.node l) d, true) ∧ d.node ≠ me ∧ d.inc ≠ 0 ∧ findZ d.node l = -1 ∧ (l.length : Int) < room) ∨
    (∃ y, putP l d me room = (l.set (placeN d.node l) d, true) ∧ d.node ≠ me ∧ d.inc ≠ 0 ∧ l[placeN d.node l]? = some y ∧ y.node = d.node ∧ newB d y = true) := by
  by_cases hb : d.node = me ∨ d.inc = 0
  · exact .inl ⟨if_pos hb, by omega⟩
  have hb' : d.node ≠ me ∧ d.inc ≠ 0 := ⟨fun h => hb (.inl h), fun h => hb (.inr h)⟩
  rcases has_or d.node l with ⟨y, hy, hx, hF, _⟩ | ⟨_, hF, _⟩
  · have hne : ¬ findZ d.node l = -1 := by omega
    cases hnb : newB d y with
    | true =>
      refine .inr (.inr ⟨y, ?_, hb'.1, hb'.2, hy, hx, hnb⟩)
      unfold putP
      rw [if_neg hb, if_neg hne, hy, if_pos (by simpa using hnb)]
    | false =>
      refine .inl ⟨?_, .inr (.inr (.inr ⟨y, hy, hx, hnb⟩))⟩
      unfold putP
      rw [if_neg hb, if_neg hne, hy, if_neg (by simp [hnb])]
  · by_cases hroom : room ≤ l.length
    · refine .inl ⟨?_, .inr (.inr (.inl ⟨hF, hroom⟩))⟩
      unfold putP
      rw [if_neg hb, if_pos hF, if_pos hroom]
    · refine .inr (.inl ⟨?_, hb'.1, hb'.2, hF, by omega⟩)
      unfold putP
      rw [if_neg hb, if_pos hF, if_neg hroom]
theorem mem_set_or {l : List De} {k : Nat} {z d y : De} (hz : l[k]? = some z) (hy : y ∈ l) : y = z ∨ y ∈ l.set k d := by
  obtain ⟨i, hi⟩ := List.mem_iff_getElem?.1 hy
  by_cases h : k = i
  · subst h
    rw [hz] at hi
    cases hi
    exact .inl rfl
  · exact .inr (List.mem_iff_getElem?.2 ⟨i, by rw [List.getElem?_set, if_neg h]; exact hi⟩)
theorem set_self {l : List De} {k : Nat} {z d : De} (hz : l[k]? = some z) : d ∈ l.set k d :=
  List.mem_iff_getElem?.2 ⟨k, by rw [List.getElem?_set, if_pos rfl, if_pos (getElem?_lt hz)]⟩
theorem put_nodes {l : List De} {d : De} {me room : Int} {y : De} (h : y ∈ l) : ∃ z ∈ (putP l d me room).1, z.node = y.node := by
  rcases put_cases l d me room with ⟨e, _⟩ | ⟨e, _⟩ | ⟨z, e, _, _, hz, hn, _⟩
  · rw [e]; exact ⟨y, h, rfl⟩
  · rw [e]; exact ⟨y, mem_insL h, rfl⟩
  · rw [e]
    rcases mem_set_or (d := d) hz h with rfl | h
    · exact ⟨d, set_self hz, hn.symm⟩
    · exact ⟨y, h, rfl⟩
theorem put_length (l : List De) (d : De) (me room : Int) : l.length ≤ (putP l d me room).1.length ∧ (putP l d me room).1.length ≤ l.length + 1 := by
  rcases put_cases l d me room with ⟨e, _⟩ | ⟨e, _⟩ | ⟨z, e, _⟩
  · rw [e]; exact ⟨Nat.le_refl _, Nat.le_succ _⟩
  · rw [e, insL_len _ _ _ (place_le _ _)]; omega
  · rw [e, List.length_set]; omega
theorem put_true_mem {l : List De} {d : De} {me room : Int} (h : (putP l d me room).2 = true) : d ∈ (putP l d me room).1 := by
  rcases put_cases l d me room with ⟨e, _⟩ | ⟨e, _⟩ | ⟨z, e, _, _, hz, _⟩
  · rw [e] at h; cases h
  · rw [e]; exact insL_self
  · rw [e]; exact set_self hz
theorem eraseIdx_mem {l : List De} {k i : Nat} {x : De} (h : l[i]? = some x) (hne : i ≠ k) : x ∈ l.eraseIdx k := by
  refine List.mem_iff_getElem?.2 ?_
  by_cases hik : i < k
  · exact ⟨i, by rw [List.getElem?_eraseIdx_of_lt hik]; exact h⟩
  · exact ⟨i - 1, by rw [List.getElem?_eraseIdx_of_ge (by omega), show i - 1 + 1 = i by omega]; exact h⟩
theorem drop_keeps {l : List De} {x : Int} {y : De} (hr : Rising l) (hy : y ∈ l) (hn : y.node ≠ x) : y ∈ dropL x l := by
  rcases has_or x l with ⟨z, hz, hzn, _, hD⟩ | ⟨_, _, hD⟩
  · rw [hD]
    obtain ⟨i, hi⟩ := List.mem_iff_getElem?.1 hy
    refine eraseIdx_mem hi fun e => ?_
    rw [e, hz] at hi
    cases hi
    exact hn hzn
  · rw [hD]; exact hy
theorem drop_len1 {l : List De} {x : Int} (h : 0 ≤ findZ x l) : (dropL x l).length = l.length - 1 := by
  rcases has_or x l with ⟨z, hz, _, _, hD⟩ | ⟨_, hF, _⟩
  · rw [hD, List.length_eraseIdx_of_lt (getElem?_lt hz)]
  · omega
theorem hasN_of {l : List De} {y : De} (hy : y ∈ l) : hasN l y.node = true := List.any_eq_true.2 ⟨y, hy, decide_eq_true rfl⟩
theorem hasN_iff {l : List De} {x : Int} : hasN l x = true ↔ ∃ y ∈ l, y.node = x := by
  unfold hasN
  rw [List.any_eq_true]
  exact ⟨fun ⟨y, h1, h2⟩ => ⟨y, h1, of_decide_eq_true h2⟩, fun ⟨y, h1, h2⟩ => ⟨y, h1, decide_eq_true h2⟩⟩
theorem giveL_some {got l : List De} : ∀ {r : List De} {c : Nat} {s : De}, giveL got l r = (c, some s) → s ∈ r ∧ 0 ≤ findZ s.node l ∧ hasN got s.node = false
  | [], c, s, h => by simp [giveL] at h
  | q :: r, c, s, h => by
    rw [giveL_cons] at h
    split at h
    · rename_i hq
      simp only [Prod.mk.injEq, Option.some.injEq] at h
      obtain ⟨_, rfl⟩ := h
      exact ⟨List.mem_cons_self, hq.1, hq.2⟩
    · simp only [Prod.mk.injEq] at h
      have := giveL_some (r := r) (c := (giveL got l r).1) (s := s) (by rw [← h.2])
      exact ⟨List.mem_cons_of_mem _ this.1, this.2⟩
/-- What one that came does. -/
theorem mergeS_facts {sent got : List De} {me room : Int} {d : De} {p : List De × Nat} (hV : VOk me room p.1) (h0 : 0 ≤ d.inc) :
    p.1.length ≤ (mergeS sent got me room d p).1.length ∧ (mergeS sent got me room d p).1.length ≤ p.1.length + 1 ∧ (∀ y ∈ (mergeS sent got me room d p).1, y = d ∨ y ∈ p.1) ∧
    (∀ y ∈ p.1, hasN (mergeS sent got me room d p).1 y.node = true ∨ (hasN sent y.node = true ∧ hasN got y.node = false)) ∧
    (d.node = me ∨ d.inc = 0 ∨ hasN (mergeS sent got me room d p).1 d.node = true ∨ room ≤ (mergeS sent got me room d p).1.length) := by
  unfold mergeS
  by_cases hp : (putP p.1 d me room).2 = true
  · rw [if_pos hp]
    refine ⟨(put_length _ _ _ _).1, (put_length _ _ _ _).2, fun y hy => put_mem hy, fun y hy => ?_, .inr (.inr (.inl (hasN_of (put_true_mem hp))))⟩
    obtain ⟨z, hz, e⟩ := put_nodes (me := me) (room := room) (d := d) hy
    exact .inl (hasN_iff.2 ⟨z, hz, e⟩)
  · rw [if_neg hp]
    have hp : (putP p.1 d me room).2 = false := by simpa using hp
    by_cases hc : d.node = me ∨ d.inc < 1 ∨ 0 ≤ findZ d.node p.1
    · rw [if_pos hc]
      refine ⟨Nat.le_refl _, Nat.le_succ _, fun y hy => .inr hy, fun y hy => .inl (hasN_of hy), ?_⟩
      rcases hc with h | h | h
      · exact .inl h
      · exact .inr (.inl (by omega))
      · rcases find_cases p.1 d.node with h' | ⟨y, hy, e, _⟩
        · omega
        · exact .inr (.inr (.inl (hasN_iff.2 ⟨y, hy, e⟩)))
    · rw [if_neg hc]
      have hb : d.node ≠ me ∧ ¬ d.inc < 1 ∧ ¬ 0 ≤ findZ d.node p.1 := ⟨fun h => hc (.inl h), fun h => hc (.inr (.inl h)), fun h => hc (.inr (.inr h))⟩
      have hF : findZ d.node p.1 = -1 := by
        rcases find_cases p.1 d.node with h | ⟨_, _, _, h⟩
        · exact h
        · exact (hb.2.2 h).elim
      have hroom : room ≤ p.1.length := by
        rcases put_cases p.1 d me room with ⟨_, h1 | h1 | ⟨_, h1⟩ | ⟨y, hy, hn, _⟩⟩ | ⟨e, _⟩ | ⟨z, e, _⟩
        · exact (hb.1 h1).elim
        · omega
        · exact h1
        · exact (find_no hV.rising hF y (List.mem_of_getElem? hy) hn).elim
        · rw [e] at hp; cases hp
        · rw [e] at hp; cases hp
      split
      · rename_i c s e
        obtain ⟨hs, hsf, hsg⟩ := giveL_some e
        have hsm : hasN sent s.node = true := hasN_of (List.mem_of_mem_drop hs)
        have hU := hV.drop s.node
        have hVl := hV.len
        have hFu : findZ d.node (dropL s.node p.1) = -1 := find_none fun z hz => find_no hV.rising hF z (drop_mem hz)
        have hDl := drop_len1 hsf
        have h1 : 0 < p.1.length := by
          rcases find_cases p.1 s.node with h | ⟨y, hy, _⟩
          · omega
          · exact List.length_pos_of_mem hy
        have e2 : putP (dropL s.node p.1) d me room = (insL (dropL s.node p.1) (placeN d.node (dropL s.node p.1)) d, true) := by
          rcases put_cases (dropL s.node p.1) d me room with ⟨_, h1 | h1 | ⟨_, h1⟩ | ⟨z, hz, hn, _⟩⟩ | ⟨e, _⟩ | ⟨z, _, _, _, hz, hn, _⟩
          · exact (hb.1 h1).elim
          · omega
          · omega
          · exact (find_no hU.rising hFu z (List.mem_of_getElem? hz) hn).elim
          · exact e
          · exact (find_no hU.rising hFu z (List.mem_of_getElem? hz) hn).elim
        have hlen : (putP (dropL s.node p.1) d me room).1.length = p.1.length := by
          rw [e2, insL_len _ _ _ (place_le _ _), hDl]
          omega
        refine ⟨by dsimp only; omega, by dsimp only; omega, fun y hy => (put_mem hy).imp id drop_mem, fun y hy => ?_, .inr (.inr (.inl (hasN_of (put_true_mem (by rw [e2])))))⟩
        by_cases hys : y.node = s.node
        · rw [hys]; exact .inr ⟨hsm, hsg⟩
        · obtain ⟨z, hz, e3⟩ := put_nodes (me := me) (room := room) (d := d) (drop_keeps hV.rising hy hys)
          exact .inl (hasN_iff.2 ⟨z, hz, e3⟩)
      · exact ⟨Nat.le_refl _, Nat.le_succ _, fun y hy => .inr hy, fun y hy => .inl (hasN_of hy), .inr (.inr (.inr hroom))⟩
theorem merge_facts {sent got : List De} {me room : Int} {l : List De} (hV : VOk me room l) (hf : FlOk l) (hg : FlOk got) (hi : ∀ y ∈ got, 0 ≤ y.inc) : ∀ k,
    l.length ≤ (mergeN sent got me room l k).1.length ∧ (mergeN sent got me room l k).1.length ≤ l.length + k ∧ (∀ y ∈ (mergeN sent got me room l k).1, y ∈ got ∨ y ∈ l) ∧
    (∀ y ∈ l, hasN (mergeN sent got me room l k).1 y.node = true ∨ (hasN sent y.node = true ∧ hasN got y.node = false)) ∧
    (∀ (j : Nat) d, j < k → got[j]? = some d → d.node = me ∨ d.inc = 0 ∨ hasN (mergeN sent got me room l k).1 d.node = true ∨ room ≤ (mergeN sent got me room l k).1.length)
  | 0 => ⟨Nat.le_refl _, Nat.le_refl _, fun y hy => .inr hy, fun y hy => .inl (hasN_of hy), fun j d h => absurd h (Nat.not_lt_zero _)⟩
  | k + 1 => by
    obtain ⟨h1, h2, h3, h4, h5⟩ := merge_facts (sent := sent) hV hf hg hi k
    rw [mergeN]
    split
    · rename_i d hd
      obtain ⟨s1, s2, s3, s4, s5⟩ := mergeS_facts (sent := sent) (got := got) (d := d) (mergeN_ok (sent := sent) hV hf hg k).1 (hi d (List.mem_of_getElem? hd))
      have keep : ∀ x, hasN (mergeN sent got me room l k).1 x = true → hasN got x = true → hasN (mergeS sent got me room d (mergeN sent got me room l k)).1 x = true := fun x hx hgx => by
        obtain ⟨y, hy, rfl⟩ := hasN_iff.1 hx
        rcases s4 y hy with h | ⟨_, h⟩
        · exact h
        · rw [hgx] at h; cases h
      refine ⟨by omega, by omega, fun y hy => ?_, fun y hy => ?_, fun j x hj hx => ?_⟩
      · rcases s3 y hy with rfl | h
        · exact .inl (List.mem_of_getElem? hd)
        · exact h3 y h
      · rcases h4 y hy with h | h
        · obtain ⟨z, hz, e⟩ := hasN_iff.1 h
          rw [← e]
          exact s4 z hz
        · exact .inr h
      · rcases Nat.lt_succ_iff_lt_or_eq.1 hj with h | rfl
        · rcases h5 j x h hx with h | h | h | h
          · exact .inl h
          · exact .inr (.inl h)
          · exact .inr (.inr (.inl (keep _ h (hasN_of (List.mem_of_getElem? hx)))))
          · exact .inr (.inr (.inr (by omega)))
        · rw [hd] at hx
          cases hx
          exact s5
    · rename_i hd
      refine ⟨h1, by omega, h3, h4, fun j x hj hx => ?_⟩
      rcases Nat.lt_succ_iff_lt_or_eq.1 hj with h | rfl
      · exact h5 j x h hx
      · rw [hd] at hx; cases hx
end Go.Proofs.Ytccegmbklgmgnaa
