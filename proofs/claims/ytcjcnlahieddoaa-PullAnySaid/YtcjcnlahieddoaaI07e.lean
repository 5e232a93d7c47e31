/- Package ident, by computing: Drop. -/
import Derived.Test.YtcjcnlahieddoaaI07d
namespace Go.Proofs.Ytcjcnlahieddoaa
open Go.RowKit

def dropL (l : List Id_) (x : Id_) : List Id_ := l.filter fun y => !eqB y x
theorem dropL_le (l : List Id_) (x : Id_) (k : Nat) : (dropL (l.take k) x).length ≤ k := Nat.le_trans (List.length_filter_le _ _) (List.length_take_le _ _)
theorem dropL_in {l : List Id_} {x y : Id_} {k : Nat} (hy : l[k]? = some y) (h : eqB y x = false) : dropL (l.take (k + 1)) x = dropL (l.take k) x ++ [y] := by
  unfold dropL
  rw [List.take_add_one, hy, List.filter_append]
  simp [h]
theorem dropL_out {l : List Id_} {x y : Id_} {k : Nat} (hy : l[k]? = some y) (h : eqB y x = true) : dropL (l.take (k + 1)) x = dropL (l.take k) x := by
  unfold dropL
  rw [List.take_add_one, hy, List.filter_append]
  simp [h]
end Go.Proofs.Ytcjcnlahieddoaa
