/- How the arguments of the laws are opened, and the world of their witnesses. -/
import Derived.Test.YtfjankcpnhfogaaD09w
import Derived.Lib.SmallJoins
namespace Go.Proofs.Ytfjankcpnhfogaa
open Go.RowKit Go.ChangeShapes Go.WideShapes Go.ChangeAt Go.Joins Go.Deep

section
variable {H : Type} {enc : TypeId × Value → H} {w : World} {b0 base : Nat} {hd : Bool} {v : Value} {d : DataW H} {p : List MemPlace}
def U8Ok (x : Int) : Prop := 0 ≤ x ∧ x ≤ 255
theorem el_b8 (n : Nat) (cs' : List Value) (x : DataW H × List MemPlace) (h : DataW.trod enc Try.prog w base (fun _ => true) hd n 5 cs' = some x) (hl : cs'.length = 1) : ∃ y : Int, RelK (Z0 w) (bZ y) cs' ∧ U8Ok y := by
  match cs', hl with
  | [z0], _ =>
    obtain ⟨a8, e8, _, w8⟩ := DataW.trod_int Try.underlying5 h
    simp only [List.cons.injEq, and_true] at e8
    subst e8
    exact ⟨a8, (relK_v rfl relK_nil), (bounds_u8 w8)⟩
theorem open_u8s (hv : Value.okWide Try.prog w .any b0 42 v) (h : DataW.Trod enc Try.prog w base (fun _ => true) hd 42 v d p) :
    ∃ (ad : Option Addr) (l : List (Int)) (cap : Nat), v = .slice ad l.length cap ∧ (∀ y ∈ l, U8Ok y) ∧ RowIn w ad l.length cap 1 (l.map bZ) :=
  rowIn_arg Try.underlying42 (by kernel_rfl) (by decide) (fun n cs' x h hl => el_b8 n cs' x h hl) hv h
end
end Go.Proofs.Ytfjankcpnhfogaa
