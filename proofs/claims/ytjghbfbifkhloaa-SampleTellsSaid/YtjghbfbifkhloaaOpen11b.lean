/- How the arguments of the laws are opened, and the world of their witnesses. -/
import Derived.Test.YtjghbfbifkhloaaD09o
import Derived.Lib.SmallJoins
namespace Go.Proofs.Ytjghbfbifkhloaa
open Go.RowKit Go.ChangeShapes Go.WideShapes Go.ChangeAt Go.Joins Go.Deep

section
variable {H : Type} {enc : TypeId × Value → H} {w : World} {b0 base : Nat} {hd : Bool} {v : Value} {d : DataW H} {p : List MemPlace}
theorem open_boo (hv : Value.okWide Try.prog w .any b0 4 v) (h : DataW.Trod enc Try.prog w base (fun _ => true) hd 4 v d p) : ∃ a : Bool, v = .bool a := by
  obtain ⟨a, rfl, _, _⟩ := open_bool Try.underlying4 hv h
  exact ⟨a, rfl⟩
end
end Go.Proofs.Ytjghbfbifkhloaa
