/- Descriptors by computing: own, Copy. -/
import Derived.Test.YtkcdomafdjpbjaaD09
namespace Go.Proofs.Ytkcdomafdjpbjaa
open Go.RowKit

theorem map_take_in {α β : Type} {f : α → β} {l : List α} {y : α} {k : Nat} (hy : l[k]? = some y) : (l.take (k + 1)).map f = (l.take k).map f ++ [f y] := by
  rw [List.take_add_one, hy, List.map_append]
  rfl
theorem drop_take_all {α : Type} {l : List α} {n : Nat} (h : n = l.length) : (l.drop 0).take n = l := by
  subst h
  rw [List.drop_zero, List.take_length]
abbrev FlOk (l : List De) : Prop := ∀ y ∈ l, y.fl.length ≤ 1099511627776
end Go.Proofs.Ytkcdomafdjpbjaa
