/- How the arguments of the laws are opened, and the world of their witnesses. -/
import Derived.Test.YtnkhdnmilncidaaU14g
import Derived.Test.YtnkhdnmilncidaaSymX
import Derived.Lib.SmallJoins
namespace Go.Proofs.Ytnkhdnmilncidaa
open Go.RowKit Go.ChangeShapes Go.WideShapes Go.ChangeAt Go.Joins Go.Deep

section
variable {H : Type} {enc : TypeId × Value → H} {w : World} {b0 base : Nat} {sp : Nat → Bool} {hd : Bool} {v : Value} {d : DataW H} {p : List MemPlace}
theorem open_u8 (hv : Value.okWide Try.prog w .any b0 5 v) (h : DataW.Trod enc Try.prog w base sp hd 5 v d p) : ∃ a : Int, v = .int .u8 a ∧ 0 ≤ a ∧ a ≤ 255 := by
  obtain ⟨a, rfl, _, _, wa⟩ := open_int Try.underlying5 hv h
  have := bounds_u8 wa
  exact ⟨a, rfl, this.1, this.2⟩
theorem open_u16 (hv : Value.okWide Try.prog w .any b0 24 v) (h : DataW.Trod enc Try.prog w base sp hd 24 v d p) : ∃ a : Int, v = .int .u16 a ∧ 0 ≤ a ∧ a ≤ 65535 := by
  obtain ⟨a, rfl, _, _, wa⟩ := open_int Try.underlying24 hv h
  have := bounds_u16 wa
  exact ⟨a, rfl, this.1, this.2⟩
instance : Inhabited Mb := ⟨⟨0, 0, 0⟩⟩
theorem mbC_ok (y : Mb) : CellsOK 3 (mbC y) := ⟨rfl, fun u hu => by simp [mbC] at hu; rcases hu with rfl | rfl | rfl <;> rfl⟩
theorem el_mb (n : Nat) (cs' : List Value) (x : DataW H × List MemPlace) (h : DataW.trod enc Try.prog w base sp hd n 26 cs' = some x) (hl : cs'.length = 3) : ∃ y : Mb, cs' = mbC y ∧ Mb.ok y := by
  match cs', hl with
  | [z0, z1, z2], _ =>
    have hu0 := Try.underlying26
    obtain ⟨f0_0, f0_1, f0_2, hs0⟩ : ∃ f0_0 f0_1 f0_2, Try.prog.underlying 26 = some (.struct #[f0_0, f0_1, f0_2]) := ⟨_, _, _, hu0⟩
    rw [hs0] at hu0
    simp at hu0
    have t0_0 : f0_0.type = 24 := by rw [hu0.1]
    have p0_0 : f0_0.offset = 0 := by rw [hu0.1]
    have c0_0 : Try.prog.cellsOf 24 = 1 := by kernel_rfl
    have t0_1 : f0_1.type = 5 := by rw [hu0.2.1]
    have p0_1 : f0_1.offset = 1 := by rw [hu0.2.1]
    have c0_1 : Try.prog.cellsOf 5 = 1 := by kernel_rfl
    have t0_2 : f0_2.type = 5 := by rw [hu0.2.2]
    have p0_2 : f0_2.offset = 2 := by rw [hu0.2.2]
    have c0_2 : Try.prog.cellsOf 5 = 1 := by kernel_rfl
    obtain ⟨y0_0, y0_1, y0_2, m0, _, _, h0_0, h0_1, h0_2⟩ := trod_struct3 hs0 h
    rw [t0_0, p0_0, c0_0] at h0_0
    simp only [List.drop_zero, List.drop_succ_cons, List.take_succ_cons, List.take_zero] at h0_0
    obtain ⟨a1, e1, _, w1⟩ := DataW.trod_int Try.underlying24 h0_0
    simp only [List.cons.injEq, and_true] at e1
    subst e1
    rw [t0_1, p0_1, c0_1] at h0_1
    simp only [List.drop_zero, List.drop_succ_cons, List.take_succ_cons, List.take_zero] at h0_1
    obtain ⟨a2, e2, _, w2⟩ := DataW.trod_int Try.underlying5 h0_1
    simp only [List.cons.injEq, and_true] at e2
    subst e2
    rw [t0_2, p0_2, c0_2] at h0_2
    simp only [List.drop_zero, List.drop_succ_cons, List.take_succ_cons, List.take_zero] at h0_2
    obtain ⟨a3, e3, _, w3⟩ := DataW.trod_int Try.underlying5 h0_2
    simp only [List.cons.injEq, and_true] at e3
    subst e3
    exact ⟨⟨a1, a2, a3⟩, rfl, ⟨(bounds_u16 w1).1, (bounds_u16 w1).2, (bounds_u8 w2).1, (bounds_u8 w2).2, (bounds_u8 w3).1, (bounds_u8 w3).2⟩⟩
theorem open_mbs (hv : Value.okWide Try.prog w .any b0 22 v) (h : DataW.Trod enc Try.prog w base (fun _ => true) hd 22 v d p) :
    ∃ (ad : Option Addr) (l : List (Mb)) (cap : Nat), v = .slice ad l.length cap ∧ (∀ y ∈ l, Mb.ok y) ∧ RowIn w ad l.length cap 3 (l.map mbC) :=
  rowIn_arg Try.underlying22 (by kernel_rfl) (by decide) mbC_ok (fun n cs' x h hl => el_mb n cs' x h hl) hv h
end
/-- A world for the witnesses: the package-level variables hold what the program's text lays. -/
noncomputable def witW (os : Os) : World :=
  World.holding Try.prog os ⟨#[], #[], []⟩
end Go.Proofs.Ytnkhdnmilncidaa
