/- How the arguments of the laws are opened, and the world of their witnesses. -/
import Derived.Test.YtkcdomafdjpbjaaOpen21b
import Derived.Lib.SmallJoins
namespace Go.Proofs.Ytkcdomafdjpbjaa
open Go.RowKit Go.ChangeShapes Go.WideShapes Go.ChangeAt Go.Joins Go.Deep

section
variable {H : Type} {enc : TypeId × Value → H} {w : World} {b0 base : Nat} {hd : Bool} {v : Value} {d : DataW H} {p : List MemPlace}
theorem open_msl (hv : Value.okWide Try.prog w .any b0 22 v) (h : DataW.Trod enc Try.prog w base (fun _ => true) hd 22 v d p) :
    ∃ (ad : Option Addr) (l : List (Ms)) (cap : Nat), v = .slice ad l.length cap ∧ (∀ y ∈ l, MsIn y) ∧ RowIn w ad l.length cap 17 (l.map msC) :=
  rowIn_arg Try.underlying22 (by kernel_rfl) (by decide) (fun n cs' x h hl => el_ms n cs' x h hl) hv h
theorem open_u1l (hv : Value.okWide Try.prog w .any b0 32 v) (h : DataW.Trod enc Try.prog w base (fun _ => true) hd 32 v d p) :
    ∃ (ad : Option Addr) (l : List (Int)) (cap : Nat), v = .slice ad l.length cap ∧ (∀ y ∈ l, NuOk y) ∧ RowIn w ad l.length cap 1 (l.map u1C) :=
  rowIn_arg Try.underlying32 (by kernel_rfl) (by decide) (fun n cs' x h hl => el_u1 n cs' x h hl) hv h
end
end Go.Proofs.Ytkcdomafdjpbjaa
