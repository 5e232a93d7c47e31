/- References: filters. -/
import Derived.Test.YtkmnglgjbmipgaaDoorRF
namespace Go.Proofs.YtkmnglgjbmipgaaDoor
open Go.RowKit

def allK {α β : Type} [Inhabited α] [Inhabited β] (p : α → β → Bool) (l : List α) (r : List β) (k : Nat) : Bool := (List.range k).all fun j => p (atD l j) (atD r j)
theorem allK_succ {α β : Type} [Inhabited α] [Inhabited β] (p : α → β → Bool) (l : List α) (r : List β) (k : Nat) : allK p l r (k + 1) = (allK p l r k && p (atD l k) (atD r k)) := by
  unfold allK
  rw [List.range_succ, List.all_append]
  simp
theorem allK_all {α β : Type} [Inhabited α] [Inhabited β] (p : α → β → Bool) (l : List α) (r : List β) : allK p l r (min l.length r.length) = allP p l r := rfl
end Go.Proofs.YtkmnglgjbmipgaaDoor
