/- How the arguments of the laws of package schema are opened, and the world of their witnesses. -/
import Derived.Test.YthcofkeiffpiiaaC03e
import Derived.Test.YthcofkeiffpiiaaSymX
import Derived.Lib.SmallJoins
namespace Go.Proofs.Ythcofkeiffpiiaa
open Go.RowKit Go.ChangeShapes Go.WideShapes Go.ChangeAt Go.Joins Go.Deep

section
variable {H : Type} {enc : TypeId × Value → H} {w : World} {b0 base : Nat} {sp : Nat → Bool} {hd : Bool} {v : Value} {d : DataW H} {p : List MemPlace}
theorem open_u8 (hv : Value.okWide Try.prog w .any b0 5 v) (h : DataW.Trod enc Try.prog w base sp hd 5 v d p) : ∃ a : Int, v = .int .u8 a ∧ 0 ≤ a ∧ a ≤ 255 := by
  obtain ⟨a, rfl, _, _, wa⟩ := open_int Try.underlying5 hv h
  have := bounds_u8 wa
  exact ⟨a, rfl, this.1, this.2⟩
def spOk (x : Sp_) : Prop := (-2147483648 ≤ x.a ∧ x.a ≤ 2147483647) ∧ (-2147483648 ≤ x.b ∧ x.b ≤ 2147483647)
theorem el_sp (n : Nat) (cs' : List Value) (x : DataW H × List MemPlace) (h : DataW.trod enc Try.prog w base sp hd n 44 cs' = some x) (hl : cs'.length = 2) : ∃ y : Sp_, cs' = spC y ∧ spOk y := by
  obtain ⟨f0, f1, hs, hone⟩ : ∃ f0 f1, Try.prog.underlying 44 = some (.struct #[f0, f1]) ∧ oneCellFields Try.prog #[f0, f1] = true := ⟨_, _, Try.underlying44, by kernel_rfl⟩
  have t0 : f0.type = 21 := by have := Try.underlying44; rw [hs] at this; simp at this; rw [this.1]
  have t1 : f1.type = 21 := by have := Try.underlying44; rw [hs] at this; simp at this; rw [this.2]
  obtain ⟨y0, y1, m, _, _, h0, h1⟩ := trod_struct2 hs h
  obtain ⟨o0, k0⟩ := hone_of hone 0 f0 rfl
  obtain ⟨o1, k1⟩ := hone_of hone 1 f1 rfl
  rw [t0] at h0 k0
  rw [t1] at h1 k1
  match cs', hl with
  | [c0, c1], _ =>
    rw [o0, k0] at h0
    rw [o1, k1] at h1
    obtain ⟨a, e0, _, wa⟩ := DataW.trod_int Try.underlying21 h0
    obtain ⟨b, e1, _, wb⟩ := DataW.trod_int Try.underlying21 h1
    simp only [List.drop_zero, List.take_succ_cons, List.take_zero, List.cons.injEq, and_true, List.drop_succ_cons] at e0 e1
    subst e0; subst e1
    exact ⟨⟨a, b⟩, rfl, bounds_i32 wa, bounds_i32 wb⟩
def iOk (x : Int) : Prop := -2147483648 ≤ x ∧ x ≤ 2147483647
def bOk (x : Int) : Prop := 0 ≤ x ∧ x ≤ 255
theorem el_i (n : Nat) (cs' : List Value) (x : DataW H × List MemPlace) (h : DataW.trod enc Try.prog w base sp hd n 21 cs' = some x) (_ : cs'.length = 1) : ∃ y : Int, cs' = iC y ∧ iOk y := by
  obtain ⟨a, rfl, _, wa⟩ := DataW.trod_int Try.underlying21 h
  exact ⟨a, rfl, bounds_i32 wa⟩
theorem el_b (n : Nat) (cs' : List Value) (x : DataW H × List MemPlace) (h : DataW.trod enc Try.prog w base sp hd n 5 cs' = some x) (_ : cs'.length = 1) : ∃ y : Int, cs' = bC y ∧ bOk y := by
  obtain ⟨a, rfl, _, wa⟩ := DataW.trod_int Try.underlying5 h
  exact ⟨a, rfl, bounds_u8 wa⟩
theorem spC_ok (y : Sp_) : CellsOK 2 (spC y) := ⟨rfl, fun u hu => by simp [spC] at hu; rcases hu with rfl | rfl <;> rfl⟩
theorem iC_ok (y : Int) : CellsOK 1 (iC y) := ⟨rfl, fun u hu => by simp [iC] at hu; subst hu; rfl⟩
theorem bC_ok (y : Int) : CellsOK 1 (bC y) := ⟨rfl, fun u hu => by simp [bC] at hu; subst hu; rfl⟩
theorem open_schema (hv : Value.okWide Try.prog w .any b0 23 v) (h : DataW.Trod enc Try.prog w base (fun _ => true) hd 23 v d p) :
    ∃ (ad : Option Addr) (l : List Sp_) (cap : Nat), v = .slice ad l.length cap ∧ (∀ y ∈ l, spOk y) ∧ RowIn w ad l.length cap 2 (l.map spC) :=
  rowIn_arg Try.underlying23 (by kernel_rfl) (by decide) spC_ok (fun n cs' x h hl => el_sp n cs' x h hl) hv h
theorem open_spans (hv : Value.okWide Try.prog w .any b0 22 v) (h : DataW.Trod enc Try.prog w base (fun _ => true) hd 22 v d p) :
    ∃ (ad : Option Addr) (l : List Sp_) (cap : Nat), v = .slice ad l.length cap ∧ (∀ y ∈ l, spOk y) ∧ RowIn w ad l.length cap 2 (l.map spC) :=
  rowIn_arg Try.underlying22 (by kernel_rfl) (by decide) spC_ok (fun n cs' x h hl => el_sp n cs' x h hl) hv h
theorem open_vals (hv : Value.okWide Try.prog w .any b0 28 v) (h : DataW.Trod enc Try.prog w base (fun _ => true) hd 28 v d p) :
    ∃ (ad : Option Addr) (l : List Int) (cap : Nat), v = .slice ad l.length cap ∧ (∀ y ∈ l, iOk y) ∧ RowIn w ad l.length cap 1 (l.map iC) :=
  rowIn_arg Try.underlying28 (by kernel_rfl) (by decide) iC_ok (fun n cs' x h hl => el_i n cs' x h hl) hv h
end
/-- A world for the witnesses: the package-level variables hold what the program's text lays. -/
noncomputable def witW (os : Os) : World :=
  World.holding Try.prog os ⟨#[], #[], []⟩
end Go.Proofs.Ythcofkeiffpiiaa
