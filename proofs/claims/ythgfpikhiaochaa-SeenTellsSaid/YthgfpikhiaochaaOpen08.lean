/- How the arguments of the laws are opened, and the world of their witnesses. -/
import Derived.Test.YthgfpikhiaochaaS08e
import Derived.Test.YthgfpikhiaochaaSymX
import Derived.Lib.SmallJoins
namespace Go.Proofs.Ythgfpikhiaochaa
open Go.RowKit Go.ChangeShapes Go.WideShapes Go.ChangeAt Go.Joins Go.Deep

section
variable {H : Type} {enc : TypeId × Value → H} {w : World} {b0 base : Nat} {sp : Nat → Bool} {hd : Bool} {v : Value} {d : DataW H} {p : List MemPlace}
theorem open_u8 (hv : Value.okWide Try.prog w .any b0 5 v) (h : DataW.Trod enc Try.prog w base sp hd 5 v d p) : ∃ a : Int, v = .int .u8 a ∧ 0 ≤ a ∧ a ≤ 255 := by
  obtain ⟨a, rfl, _, _, wa⟩ := open_int Try.underlying5 hv h
  have := bounds_u8 wa
  exact ⟨a, rfl, this.1, this.2⟩
theorem open_u16 (hv : Value.okWide Try.prog w .any b0 22 v) (h : DataW.Trod enc Try.prog w base sp hd 22 v d p) : ∃ a : Int, v = .int .u16 a ∧ 0 ≤ a ∧ a ≤ 65535 := by
  obtain ⟨a, rfl, _, _, wa⟩ := open_int Try.underlying22 hv h
  have := bounds_u16 wa
  exact ⟨a, rfl, this.1, this.2⟩
theorem open_u32 (hv : Value.okWide Try.prog w .any b0 23 v) (h : DataW.Trod enc Try.prog w base sp hd 23 v d p) : ∃ a : Int, v = .int .u32 a ∧ 0 ≤ a ∧ a ≤ 4294967295 := by
  obtain ⟨a, rfl, _, _, wa⟩ := open_int Try.underlying23 hv h
  have := bounds_u32 wa
  exact ⟨a, rfl, this.1, this.2⟩
theorem open_i64 (hv : Value.okWide Try.prog w .any b0 3 v) (h : DataW.Trod enc Try.prog w base sp hd 3 v d p) : ∃ a : Int, v = .int .i64 a ∧ -9223372036854775808 ≤ a ∧ a ≤ 9223372036854775807 := by
  obtain ⟨a, rfl, _, _, wa⟩ := open_int Try.underlying3 hv h
  have := bounds_i64 wa
  exact ⟨a, rfl, this.1, this.2⟩
theorem open_row (hv : Value.okWide Try.prog w .any b0 26 v) (h : DataW.Trod enc Try.prog w base sp hd 26 v d p) : ∃ a0 a1 a2 : Int, v = .agg #[.int .u16 a0, .int .u32 a1, .int .u64 a2] ∧ (0 ≤ a0 ∧ a0 ≤ 65535) ∧ (0 ≤ a1 ∧ a1 ≤ 4294967295) ∧ (0 ≤ a2 ∧ a2 ≤ 18446744073709551615) := by
  obtain ⟨v0, v1, v2, y0, y1, y2, n, rfl, _, _, h0, h1, h2⟩ := open_agg3 Try.underlying26 (by kernel_rfl) (by kernel_rfl) hv h
  obtain ⟨a0, e0, _, w0⟩ := DataW.trod_int Try.underlying22 h0
  obtain ⟨a1, e1, _, w1⟩ := DataW.trod_int Try.underlying23 h1
  obtain ⟨a2, e2, _, w2⟩ := DataW.trod_int Try.underlying24 h2
  simp only [List.cons.injEq, and_true] at e0 e1 e2
  subst e0; subst e1; subst e2
  exact ⟨a0, a1, a2, rfl, bounds_u16 w0, bounds_u32 w1, bounds_u64 w2⟩
theorem open_id (hv : Value.okWide Try.prog w .any b0 28 v) (h : DataW.Trod enc Try.prog w base sp hd 28 v d p) : ∃ a0 a1 a2 : Int, v = .agg #[.int .u8 a0, .int .u16 a1, .int .u32 a2] ∧ (0 ≤ a0 ∧ a0 ≤ 255) ∧ (0 ≤ a1 ∧ a1 ≤ 65535) ∧ (0 ≤ a2 ∧ a2 ≤ 4294967295) := by
  obtain ⟨v0, v1, v2, y0, y1, y2, n, rfl, _, _, h0, h1, h2⟩ := open_agg3 Try.underlying28 (by kernel_rfl) (by kernel_rfl) hv h
  obtain ⟨a0, e0, _, w0⟩ := DataW.trod_int Try.underlying5 h0
  obtain ⟨a1, e1, _, w1⟩ := DataW.trod_int Try.underlying22 h1
  obtain ⟨a2, e2, _, w2⟩ := DataW.trod_int Try.underlying23 h2
  simp only [List.cons.injEq, and_true] at e0 e1 e2
  subst e0; subst e1; subst e2
  exact ⟨a0, a1, a2, rfl, bounds_u8 w0, bounds_u16 w1, bounds_u32 w2⟩
end
/-- A world for the witnesses: the package-level variables hold what the program's text lays. -/
noncomputable def witW (os : Os) : World :=
  World.holding Try.prog os ⟨#[], #[], []⟩
end Go.Proofs.Ythgfpikhiaochaa
