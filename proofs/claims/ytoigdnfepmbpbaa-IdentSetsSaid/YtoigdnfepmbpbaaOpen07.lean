/- How the arguments of the laws of package ident are opened, and the world of their witnesses. -/
import Derived.Test.YtoigdnfepmbpbaaI07h
import Derived.Test.YtoigdnfepmbpbaaSymX
import Derived.Lib.SmallJoins
namespace Go.Proofs.Ytoigdnfepmbpbaa
open Go.RowKit Go.ChangeShapes Go.WideShapes Go.ChangeAt Go.Joins Go.Deep

section
variable {H : Type} {enc : TypeId × Value → H} {w : World} {b0 base : Nat} {sp : Nat → Bool} {hd : Bool} {v : Value} {d : DataW H} {p : List MemPlace}
theorem open_i64 (hv : Value.okWide Try.prog w .any b0 3 v) (h : DataW.Trod enc Try.prog w base sp hd 3 v d p) : ∃ a : Int, v = .int .i64 a ∧ -9223372036854775808 ≤ a ∧ a ≤ 9223372036854775807 := by
  obtain ⟨a, rfl, _, _, wa⟩ := open_int Try.underlying3 hv h
  have := bounds_i64 wa
  exact ⟨a, rfl, this.1, this.2⟩
theorem open_u32 (hv : Value.okWide Try.prog w .any b0 23 v) (h : DataW.Trod enc Try.prog w base sp hd 23 v d p) : ∃ a : Int, v = .int .u32 a ∧ 0 ≤ a ∧ a ≤ 4294967295 := by
  obtain ⟨a, rfl, _, _, wa⟩ := open_int Try.underlying23 hv h
  have := bounds_u32 wa
  exact ⟨a, rfl, this.1, this.2⟩
theorem open_u16 (hv : Value.okWide Try.prog w .any b0 22 v) (h : DataW.Trod enc Try.prog w base sp hd 22 v d p) : ∃ a : Int, v = .int .u16 a ∧ 0 ≤ a ∧ a ≤ 65535 := by
  obtain ⟨a, rfl, _, _, wa⟩ := open_int Try.underlying22 hv h
  have := bounds_u16 wa
  exact ⟨a, rfl, this.1, this.2⟩
theorem open_u8 (hv : Value.okWide Try.prog w .any b0 5 v) (h : DataW.Trod enc Try.prog w base sp hd 5 v d p) : ∃ a : Int, v = .int .u8 a ∧ 0 ≤ a ∧ a ≤ 255 := by
  obtain ⟨a, rfl, _, _, wa⟩ := open_int Try.underlying5 hv h
  have := bounds_u8 wa
  exact ⟨a, rfl, this.1, this.2⟩
abbrev idV (x : Id_) : Value := .agg #[.int .u8 x.n, .int .u16 x.i, .int .u32 x.s]
theorem open_id (hv : Value.okWide Try.prog w .any b0 25 v) (h : DataW.Trod enc Try.prog w base sp hd 25 v d p) : ∃ x : Id_, v = idV x ∧ x.ok := by
  obtain ⟨v0, v1, v2, y0, y1, y2, n, rfl, _, _, h0, h1, h2⟩ := open_agg3 Try.underlying25 (by kernel_rfl) (by kernel_rfl) hv h
  obtain ⟨a, e0, _, wa⟩ := DataW.trod_int Try.underlying5 h0
  obtain ⟨b, e1, _, wb⟩ := DataW.trod_int Try.underlying22 h1
  obtain ⟨c, e2, _, wc⟩ := DataW.trod_int Try.underlying23 h2
  have ha := bounds_u8 wa
  have hb := bounds_u16 wb
  have hc := bounds_u32 wc
  simp only [List.cons.injEq, and_true] at e0 e1 e2
  subst e0; subst e1; subst e2
  exact ⟨⟨a, b, c⟩, rfl, ⟨by dsimp only; omega, by dsimp only; omega, by dsimp only; omega, by dsimp only; omega, by dsimp only; omega, by dsimp only; omega⟩⟩
theorem el_id (n : Nat) (cs' : List Value) (x : DataW H × List MemPlace) (h : DataW.trod enc Try.prog w base sp hd n 25 cs' = some x) (hl : cs'.length = 3) : ∃ y : Id_, cs' = idC y ∧ y.ok := by
  have hu := Try.underlying25
  obtain ⟨f0, f1, f2, hs, hone⟩ : ∃ f0 f1 f2, Try.prog.underlying 25 = some (.struct #[f0, f1, f2]) ∧ oneCellFields Try.prog #[f0, f1, f2] = true := ⟨_, _, _, hu, by kernel_rfl⟩
  rw [hs] at hu
  simp at hu
  have t0 : f0.type = 5 := by rw [hu.1]
  have t1 : f1.type = 22 := by rw [hu.2.1]
  have t2 : f2.type = 23 := by rw [hu.2.2]
  obtain ⟨y0, y1, y2, m, _, _, h0, h1, h2⟩ := trod_struct3 hs h
  obtain ⟨o0, k0⟩ := hone_of hone 0 f0 rfl
  obtain ⟨o1, k1⟩ := hone_of hone 1 f1 rfl
  obtain ⟨o2, k2⟩ := hone_of hone 2 f2 rfl
  rw [t0] at h0 k0
  rw [t1] at h1 k1
  rw [t2] at h2 k2
  match cs', hl with
  | [c0, c1, c2], _ =>
    rw [o0, k0] at h0
    rw [o1, k1] at h1
    rw [o2, k2] at h2
    obtain ⟨a, e0, _, wa⟩ := DataW.trod_int Try.underlying5 h0
    obtain ⟨b, e1, _, wb⟩ := DataW.trod_int Try.underlying22 h1
    obtain ⟨c, e2, _, wc⟩ := DataW.trod_int Try.underlying23 h2
    simp only [List.drop_zero, List.take_succ_cons, List.take_zero, List.cons.injEq, and_true, List.drop_succ_cons] at e0 e1 e2
    subst e0; subst e1; subst e2
    have ha := bounds_u8 wa
    have hb := bounds_u16 wb
    have hc := bounds_u32 wc
    exact ⟨⟨a, b, c⟩, rfl, ⟨by dsimp only; omega, by dsimp only; omega, by dsimp only; omega, by dsimp only; omega, by dsimp only; omega, by dsimp only; omega⟩⟩
instance : Inhabited Id_ := ⟨⟨0, 0, 0⟩⟩
theorem idC_ok (y : Id_) : CellsOK 3 (idC y) := ⟨rfl, fun u hu => by simp [idC] at hu; rcases hu with rfl | rfl | rfl <;> rfl⟩
theorem open_ids (hv : Value.okWide Try.prog w .any b0 26 v) (h : DataW.Trod enc Try.prog w base (fun _ => true) hd 26 v d p) :
    ∃ (ad : Option Addr) (l : List Id_) (cap : Nat), v = .slice ad l.length cap ∧ (∀ y ∈ l, y.ok) ∧ RowIn w ad l.length cap 3 (l.map idC) :=
  rowIn_arg Try.underlying26 (by kernel_rfl) (by decide) idC_ok (fun n cs' x h hl => el_id n cs' x h hl) hv h
end
theorem mem_nil (w : World) : MemOK ⟨fun | .g x => (x, 0) | _ => (0, 0), 0⟩ ⟨GG, [], []⟩ w := by
  refine ⟨fun a b hb => ?_, fun a b A B hA hB hO => ?_, fun x => rfl, rfl⟩
  · cases a <;> simp [Mem.look, assoc] at hb
  · cases a <;> simp [Mem.look, assoc] at hA

/-- A world for the witnesses: the package-level variables hold what the program's text lays. -/
noncomputable def witW (os : Os) : World :=
  World.holding Try.prog os ⟨#[], #[], []⟩
end Go.Proofs.Ytoigdnfepmbpbaa
