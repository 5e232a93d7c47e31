/- Descriptors by computing: View, one. -/
import Derived.Test.YtocappiebmmpgaaD09l
namespace Go.Proofs.Ytocappiebmmpgaa
open Go.RowKit

def fixD (y : De) : De := { y with inc := max y.inc 1 }
def goodD (self room : Int) (n m : Nat) (y : De) : Bool := decide (y.node = n) && decide (y.node ≠ self) && decide ((m : Int) < room)
def viewN (l : List De) (self room : Int) : Nat → List De
  | 0 => []
  | n + 1 => match l.find? (goodD self room n (viewN l self room n).length) with
    | some y => viewN l self room n ++ [fixD y]
    | none => viewN l self room n
theorem view_some {l : List De} {self room : Int} {n k : Nat} {y : De} (hb : ∀ z ∈ l.take k, goodD self room n (viewN l self room n).length z = false) (hy : l[k]? = some y) (hg : goodD self room n (viewN l self room n).length y = true) : viewN l self room (n + 1) = viewN l self room n ++ [fixD y] := by
  have hk := getElem?_lt hy
  have e : l.find? (goodD self room n (viewN l self room n).length) = some y := by
    generalize goodD self room n (viewN l self room n).length = q at hb hg
    obtain ⟨_, e⟩ := List.getElem?_eq_some_iff.1 hy
    have h2 : l.take k ++ y :: l.drop (k + 1) = l := by rw [← e, List.getElem_cons_drop, List.take_append_drop]
    rw [← h2, List.find?_append, List.find?_eq_none.2 (fun z hz => by rw [hb z hz]; decide), List.find?_cons_of_pos hg]
    rfl
  rw [viewN, e]
theorem view_none {l : List De} {self room : Int} {n : Nat} (hb : ∀ z ∈ l, goodD self room n (viewN l self room n).length z = false) : viewN l self room (n + 1) = viewN l self room n := by
  rw [viewN, List.find?_eq_none.2 (fun z hz => by rw [hb z hz]; decide)]
theorem view_len (l : List De) (self room : Int) : ∀ n, (viewN l self room n).length ≤ n ∧ ((viewN l self room n).length = 0 ∨ ((viewN l self room n).length : Int) ≤ room)
  | 0 => ⟨Nat.le_refl _, .inl rfl⟩
  | n + 1 => by
    have h := view_len l self room n
    unfold viewN
    split
    · rename_i y hy
      have := List.find?_some hy
      unfold goodD at this
      simp only [boolSet] at this
      rw [List.length_append]
      simp only [List.length_cons, List.length_nil]
      omega
    · omega
theorem view_mem {l : List De} {self room : Int} : ∀ n y, y ∈ viewN l self room n → ∃ z ∈ l, y = fixD z ∧ z.node < n ∧ 0 ≤ z.node ∧ z.node ≠ self
  | 0, y, h => by cases h
  | n + 1, y, h => by
    unfold viewN at h
    split at h
    · rename_i z hz
      rcases List.mem_append.1 h with h | h
      · obtain ⟨w, h1, h2, h3, h4⟩ := view_mem n y h
        exact ⟨w, h1, h2, by omega, h4⟩
      · cases List.mem_singleton.1 h
        have := List.find?_some hz
        unfold goodD at this
        simp only [boolSet] at this
        exact ⟨z, List.mem_of_find?_eq_some hz, rfl, by omega, by omega, by omega⟩
    · obtain ⟨w, h1, h2, h3, h4⟩ := view_mem n y h
      exact ⟨w, h1, h2, by omega, h4⟩
theorem view_rising (l : List De) (self room : Int) : ∀ n, Rising (viewN l self room n)
  | 0 => List.Pairwise.nil
  | n + 1 => by
    have h := view_rising l self room n
    unfold viewN
    split
    · rename_i y hy
      refine List.pairwise_append.2 ⟨h, List.pairwise_singleton _ _, fun a ha b hb => ?_⟩
      cases List.mem_singleton.1 hb
      obtain ⟨z, _, rfl, hz, _⟩ := view_mem n a ha
      have := List.find?_some hy
      unfold goodD at this
      simp only [boolSet] at this
      show z.node < y.node
      omega
    · exact h
end Go.Proofs.Ytocappiebmmpgaa
