/- Descriptors by computing: Oldest, Older, Same, lists the same, Delete, Drop. -/
import Derived.Test.YtocappiebmmpgaaD09e
namespace Go.Proofs.Ytocappiebmmpgaa
open Go.RowKit

def oldAt (l : List De) : Nat → Option Nat
  | 0 => none
  | k + 1 => match l[k]?, oldAt l k with
    | some d, some a => match l[a]? with
      | some y => if y.age < d.age then some k else some a
      | none => some a
    | some _, none => some k
    | none, r => r
def oldZ : Option Nat → Int
  | none => -1
  | some a => a
theorem oldAt_spec (l : List De) : ∀ k, k ≤ l.length → (k = 0 ∧ oldAt l k = none) ∨ ∃ a y, oldAt l k = some a ∧ l[a]? = some y ∧ a < k ∧ ∀ i z, i < k → l[i]? = some z → z.age ≤ y.age ∧ (z.age = y.age → a ≤ i)
  | 0, _ => .inl ⟨rfl, rfl⟩
  | k + 1, h => by
    right
    have hk := List.getElem?_eq_getElem (show k < l.length by omega)
    rcases oldAt_spec l k (by omega) with ⟨rfl, h0⟩ | ⟨a, y, h1, h2, h3, h4⟩
    · refine ⟨0, l[0], by simp only [oldAt, hk], hk, by omega, fun i z hi hz => ?_⟩
      obtain rfl : i = 0 := by omega
      rw [hk] at hz
      cases hz
      exact ⟨Int.le_refl _, fun _ => Nat.le_refl _⟩
    · by_cases hlt : y.age < (l[k]).age
      · refine ⟨k, l[k], by simp only [oldAt, hk, h1, h2, if_pos hlt], hk, by omega, fun i z hi hz => ?_⟩
        by_cases hik : i = k
        · subst hik
          rw [hk] at hz
          cases hz
          exact ⟨Int.le_refl _, fun _ => Nat.le_refl _⟩
        · have := (h4 i z (by omega) hz).1
          exact ⟨by omega, fun e => by omega⟩
      · refine ⟨a, y, by simp only [oldAt, hk, h1, h2, if_neg hlt], h2, by omega, fun i z hi hz => ?_⟩
        by_cases hik : i = k
        · subst hik
          rw [hk] at hz
          cases hz
          exact ⟨by omega, fun _ => by omega⟩
        · exact h4 i z (by omega) hz
end Go.Proofs.Ytocappiebmmpgaa
