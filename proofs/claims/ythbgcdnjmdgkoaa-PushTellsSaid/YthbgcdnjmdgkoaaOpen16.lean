/- How the arguments of the laws of package push are opened, and the world of their witnesses. -/
import Derived.Test.YthbgcdnjmdgkoaaP16e
import Derived.Test.YthbgcdnjmdgkoaaSymX
import Derived.Lib.SmallJoins
namespace Go.Proofs.Ythbgcdnjmdgkoaa
open Go.RowKit Go.ChangeShapes Go.WideShapes Go.ChangeAt Go.Joins Go.Deep

section
variable {H : Type} {enc : TypeId × Value → H} {w : World} {b0 base : Nat} {sp : Nat → Bool} {hd : Bool} {v : Value} {d : DataW H} {p : List MemPlace}
theorem open_u8 (hv : Value.okWide Try.prog w .any b0 5 v) (h : DataW.Trod enc Try.prog w base sp hd 5 v d p) : ∃ a : Int, v = .int .u8 a ∧ 0 ≤ a ∧ a ≤ 255 := by
  obtain ⟨a, rfl, _, _, wa⟩ := open_int Try.underlying5 hv h
  have := bounds_u8 wa
  exact ⟨a, rfl, this.1, this.2⟩
theorem open_i64 (hv : Value.okWide Try.prog w .any b0 3 v) (h : DataW.Trod enc Try.prog w base sp hd 3 v d p) : ∃ a : Int, v = .int .i64 a ∧ -9223372036854775808 ≤ a ∧ a ≤ 9223372036854775807 := by
  obtain ⟨a, rfl, _, _, wa⟩ := open_int Try.underlying3 hv h
  have := bounds_i64 wa
  exact ⟨a, rfl, this.1, this.2⟩
def bOk (x : Int) : Prop := 0 ≤ x ∧ x ≤ 255
def uOk (x : Int) : Prop := 0 ≤ x ∧ x ≤ 4294967295
theorem el_b (n : Nat) (cs' : List Value) (x : DataW H × List MemPlace) (h : DataW.trod enc Try.prog w base sp hd n 5 cs' = some x) (_ : cs'.length = 1) : ∃ y : Int, cs' = bC y ∧ bOk y := by
  obtain ⟨a, rfl, _, wa⟩ := DataW.trod_int Try.underlying5 h
  exact ⟨a, rfl, bounds_u8 wa⟩
theorem el_u (n : Nat) (cs' : List Value) (x : DataW H × List MemPlace) (h : DataW.trod enc Try.prog w base sp hd n 33 cs' = some x) (_ : cs'.length = 1) : ∃ y : Int, cs' = uC y ∧ uOk y := by
  obtain ⟨a, rfl, _, wa⟩ := DataW.trod_int Try.underlying33 h
  exact ⟨a, rfl, bounds_u32 wa⟩
theorem bC_ok (y : Int) : CellsOK 1 (bC y) := ⟨rfl, fun u hu => by simp [bC] at hu; subst hu; rfl⟩
theorem uC_ok (y : Int) : CellsOK 1 (uC y) := ⟨rfl, fun u hu => by simp [uC] at hu; subst hu; rfl⟩
theorem open_bytes (hv : Value.okWide Try.prog w .any b0 22 v) (h : DataW.Trod enc Try.prog w base (fun _ => true) hd 22 v d p) :
    ∃ (ad : Option Addr) (l : List Int) (cap : Nat), v = .slice ad l.length cap ∧ (∀ y ∈ l, bOk y) ∧ RowIn w ad l.length cap 1 (l.map bC) :=
  rowIn_arg Try.underlying22 (by kernel_rfl) (by decide) bC_ok (fun n cs' x h hl => el_b n cs' x h hl) hv h
theorem open_words (hv : Value.okWide Try.prog w .any b0 23 v) (h : DataW.Trod enc Try.prog w base (fun _ => true) hd 23 v d p) :
    ∃ (ad : Option Addr) (l : List Int) (cap : Nat), v = .slice ad l.length cap ∧ (∀ y ∈ l, uOk y) ∧ RowIn w ad l.length cap 1 (l.map uC) :=
  rowIn_arg Try.underlying23 (by kernel_rfl) (by decide) uC_ok (fun n cs' x h hl => el_u n cs' x h hl) hv h
end
/-- A world for the witnesses: the package-level variables hold what the program's text lays. -/
noncomputable def witW (os : Os) : World :=
  World.holding Try.prog os ⟨#[], #[], []⟩
end Go.Proofs.Ythbgcdnjmdgkoaa
