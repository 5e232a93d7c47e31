/- How the arguments of the laws are opened, and the world of their witnesses. -/
import Derived.Test.YtcjegbcljipcbaaW01g
import Derived.Test.YtcjegbcljipcbaaSymX
import Derived.Lib.SmallJoins
namespace Go.Proofs.Ytcjegbcljipcbaa
open Go.RowKit Go.ChangeShapes Go.WideShapes Go.ChangeAt Go.Joins Go.Deep

section
variable {H : Type} {enc : TypeId × Value → H} {w : World} {b0 base : Nat} {sp : Nat → Bool} {hd : Bool} {v : Value} {d : DataW H} {p : List MemPlace}
theorem open_u8 (hv : Value.okWide Try.prog w .any b0 5 v) (h : DataW.Trod enc Try.prog w base sp hd 5 v d p) : ∃ a : Int, v = .int .u8 a ∧ 0 ≤ a ∧ a ≤ 255 := by
  obtain ⟨a, rfl, _, _, wa⟩ := open_int Try.underlying5 hv h
  have := bounds_u8 wa
  exact ⟨a, rfl, this.1, this.2⟩
theorem open_u64 (hv : Value.okWide Try.prog w .any b0 23 v) (h : DataW.Trod enc Try.prog w base sp hd 23 v d p) : ∃ a : Int, v = .int .u64 a ∧ 0 ≤ a ∧ a ≤ 18446744073709551615 := by
  obtain ⟨a, rfl, _, _, wa⟩ := open_int Try.underlying23 hv h
  have := bounds_u64 wa
  exact ⟨a, rfl, this.1, this.2⟩
theorem open_i64 (hv : Value.okWide Try.prog w .any b0 3 v) (h : DataW.Trod enc Try.prog w base sp hd 3 v d p) : ∃ a : Int, v = .int .i64 a ∧ -9223372036854775808 ≤ a ∧ a ≤ 9223372036854775807 := by
  obtain ⟨a, rfl, _, _, wa⟩ := open_int Try.underlying3 hv h
  have := bounds_i64 wa
  exact ⟨a, rfl, this.1, this.2⟩
theorem open_i32 (hv : Value.okWide Try.prog w .any b0 21 v) (h : DataW.Trod enc Try.prog w base sp hd 21 v d p) : ∃ a : Int, v = .int .i32 a ∧ -2147483648 ≤ a ∧ a ≤ 2147483647 := by
  obtain ⟨a, rfl, _, _, wa⟩ := open_int Try.underlying21 hv h
  have := bounds_i32 wa
  exact ⟨a, rfl, this.1, this.2⟩
def bOk (x : Nat) : Prop := x < 256
instance : Inhabited Nat := ⟨0⟩
theorem bN_ok (y : Nat) : CellsOK 1 (bN y) := ⟨rfl, fun u hu => by simp [bN] at hu; subst hu; rfl⟩
theorem el_b (n : Nat) (cs' : List Value) (x : DataW H × List MemPlace) (h : DataW.trod enc Try.prog w base sp hd n 5 cs' = some x) (_ : cs'.length = 1) : ∃ y : Nat, cs' = bN y ∧ bOk y := by
  obtain ⟨a, rfl, _, wa⟩ := DataW.trod_int Try.underlying5 h
  have := bounds_u8 wa
  obtain ⟨y, rfl⟩ := Int.eq_ofNat_of_zero_le this.1
  exact ⟨y, rfl, by unfold bOk; omega⟩
theorem open_bytes (hv : Value.okWide Try.prog w .any b0 22 v) (h : DataW.Trod enc Try.prog w base (fun _ => true) hd 22 v d p) :
    ∃ (ad : Option Addr) (l : List (Nat)) (cap : Nat), v = .slice ad l.length cap ∧ (∀ y ∈ l, bOk y) ∧ RowIn w ad l.length cap 1 (l.map bN) :=
  rowIn_arg Try.underlying22 (by kernel_rfl) (by decide) bN_ok (fun n cs' x h hl => el_b n cs' x h hl) hv h
end
/-- A world for the witnesses: the package-level variables hold what the program's text lays. -/
noncomputable def witW (os : Os) : World :=
  World.holding Try.prog os ⟨#[], #[], []⟩
end Go.Proofs.Ytcjegbcljipcbaa
