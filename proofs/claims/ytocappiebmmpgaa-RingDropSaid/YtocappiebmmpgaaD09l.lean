/- Descriptors by computing: Right, View, one. -/
import Derived.Test.YtocappiebmmpgaaD09k
namespace Go.Proofs.Ytocappiebmmpgaa
open Go.RowKit

def okK (l : List De) (self : Int) (k : Nat) : Bool := match l[k]? with
  | none => true
  | some y => decide (y.node ≠ self) && decide (y.inc ≠ 0) && (match k with
    | 0 => true
    | j + 1 => match l[j]? with
      | none => true
      | some p => decide (p.node < y.node))
def rightN (l : List De) (self : Int) : Nat → Bool
  | 0 => true
  | k + 1 => rightN l self k && okK l self k
theorem rightN_false {l : List De} {self : Int} {k : Nat} (h : okK l self k = false) : ∀ n, k < n → rightN l self n = false
  | 0, hn => absurd hn (Nat.not_lt_zero _)
  | n + 1, hn => by
    unfold rightN
    by_cases e : k = n
    · subst e; rw [h, Bool.and_false]
    · rw [rightN_false h n (by omega), Bool.false_and]
def rightB (l : List De) (self room : Int) : Bool := decide ((l.length : Int) ≤ room) && rightN l self l.length
end Go.Proofs.Ytocappiebmmpgaa
