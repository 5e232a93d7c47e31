/- How the arguments of the laws of package ident are opened, and the world of their witnesses. -/
import Derived.Test.YtoigdnfepmbpbaaI07h
import Derived.Lib.SmallJoins
namespace Go.Proofs.Ytoigdnfepmbpbaa
open Go.RowKit Go.ChangeShapes Go.WideShapes Go.ChangeAt Go.Joins

section
variable {H : Type} {enc : TypeId × Value → H} {w : World} {b0 base : Nat} {sp : Nat → Bool} {hd : Bool} {v : Value} {d : DataW H} {p : List MemPlace}
theorem open_i64 (hv : Value.okWide Try.prog w .any b0 3 v) (h : DataW.Trod enc Try.prog w base sp hd 3 v d p) : ∃ a : Int, v = .int .i64 a ∧ -9223372036854775808 ≤ a ∧ a ≤ 9223372036854775807 := by
  obtain ⟨a, rfl, _, _, wa⟩ := open_int Try.underlying3 hv h
  have := bounds_i64 wa
  exact ⟨a, rfl, this.1, this.2⟩
theorem open_u32 (hv : Value.okWide Try.prog w .any b0 23 v) (h : DataW.Trod enc Try.prog w base sp hd 23 v d p) : ∃ a : Int, v = .int .u32 a ∧ 0 ≤ a ∧ a ≤ 4294967295 := by
  obtain ⟨a, rfl, _, _, wa⟩ := open_int Try.underlying23 hv h
  have := bounds_u32 wa
  exact ⟨a, rfl, this.1, this.2⟩
theorem open_u16 (hv : Value.okWide Try.prog w .any b0 22 v) (h : DataW.Trod enc Try.prog w base sp hd 22 v d p) : ∃ a : Int, v = .int .u16 a ∧ 0 ≤ a ∧ a ≤ 65535 := by
  obtain ⟨a, rfl, _, _, wa⟩ := open_int Try.underlying22 hv h
  have := bounds_u16 wa
  exact ⟨a, rfl, this.1, this.2⟩
theorem open_u8 (hv : Value.okWide Try.prog w .any b0 5 v) (h : DataW.Trod enc Try.prog w base sp hd 5 v d p) : ∃ a : Int, v = .int .u8 a ∧ 0 ≤ a ∧ a ≤ 255 := by
  obtain ⟨a, rfl, _, _, wa⟩ := open_int Try.underlying5 hv h
  have := bounds_u8 wa
  exact ⟨a, rfl, this.1, this.2⟩
abbrev idV (x : Id_) : Value := .agg #[.int .u8 x.n, .int .u16 x.i, .int .u32 x.s]
theorem open_id (hv : Value.okWide Try.prog w .any b0 25 v) (h : DataW.Trod enc Try.prog w base sp hd 25 v d p) : ∃ x : Id_, v = idV x ∧ x.ok := by
  obtain ⟨v0, v1, v2, y0, y1, y2, n, rfl, _, _, h0, h1, h2⟩ := open_agg3 Try.underlying25 (by kernel_rfl) (by kernel_rfl) hv h
  obtain ⟨a, e0, _, wa⟩ := DataW.trod_int Try.underlying5 h0
  obtain ⟨b, e1, _, wb⟩ := DataW.trod_int Try.underlying22 h1
  obtain ⟨c, e2, _, wc⟩ := DataW.trod_int Try.underlying23 h2
  have ha := bounds_u8 wa
  have hb := bounds_u16 wb
  have hc := bounds_u32 wc
  simp only [List.cons.injEq, and_true] at e0 e1 e2
  subst e0; subst e1; subst e2
  exact ⟨⟨a, b, c⟩, rfl, ⟨by dsimp only; omega, by dsimp only; omega, by dsimp only; omega, by dsimp only; omega, by dsimp only; omega, by dsimp only; omega⟩⟩
end
theorem mem_nil (w : World) : MemOK ⟨fun | .g x => (x, 0) | _ => (0, 0), 0⟩ ⟨GG, [], []⟩ w := by
  refine ⟨fun a b hb => ?_, fun a b A B hA hB hO => ?_, fun x => rfl, rfl⟩
  · cases a <;> simp [Mem.look, assoc] at hb
  · cases a <;> simp [Mem.look, assoc] at hA

/-- A world for the witnesses: the package-level variables hold what the program's text lays. -/
noncomputable def witW (os : Os) : World :=
  World.holding Try.prog os ⟨#[], #[], []⟩
end Go.Proofs.Ytoigdnfepmbpbaa
