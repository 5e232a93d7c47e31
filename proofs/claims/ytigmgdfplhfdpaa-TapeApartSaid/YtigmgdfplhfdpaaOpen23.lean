/- How the arguments of the laws are opened, and the world of their witnesses. -/
import Derived.Test.YtigmgdfplhfdpaaT23e
import Derived.Lib.SmallJoins
namespace Go.Proofs.Ytigmgdfplhfdpaa
open Go.RowKit Go.ChangeShapes Go.WideShapes Go.ChangeAt Go.Joins Go.Deep

section
variable {H : Type} {enc : TypeId × Value → H} {w : World} {b0 base : Nat} {hd : Bool} {v : Value} {d : DataW H} {p : List MemPlace}
structure Tp where
  l : List Int
  p : Int
def TpOk (y : Tp) : Prop := (∀ z ∈ y.l, NuOk z) ∧ -9223372036854775808 ≤ y.p ∧ y.p ≤ 9223372036854775807
def ShC (x : Int) : List CV := [.v (.int .u16 x)]
def ShOk (x : Int) : Prop := 0 ≤ x ∧ x ≤ 65535
theorem el_nu (n : Nat) (cs' : List Value) (x : DataW H × List MemPlace) (h : DataW.trod enc Try.prog w base (fun _ => true) hd n 34 cs' = some x) (hl : cs'.length = 1) : ∃ y : Int, RelK (Z0 w) (nuC y) cs' ∧ NuOk y := by
  match cs', hl with
  | [z0], _ =>
    obtain ⟨a0, e0, _, w0⟩ := DataW.trod_int Try.underlying34 h
    simp only [List.cons.injEq, and_true] at e0
    subst e0
    exact ⟨a0, (relK_v rfl relK_nil), (bounds_u32 w0)⟩
theorem el_sh (n : Nat) (cs' : List Value) (x : DataW H × List MemPlace) (h : DataW.trod enc Try.prog w base (fun _ => true) hd n 35 cs' = some x) (hl : cs'.length = 1) : ∃ y : Int, RelK (Z0 w) (ShC y) cs' ∧ ShOk y := by
  match cs', hl with
  | [z0], _ =>
    obtain ⟨a1, e1, _, w1⟩ := DataW.trod_int Try.underlying35 h
    simp only [List.cons.injEq, and_true] at e1
    subst e1
    exact ⟨a1, (relK_v rfl relK_nil), (bounds_u16 w1)⟩
theorem open_tape (hv : Value.okWide Try.prog w .any b0 24 v) (h : DataW.Trod enc Try.prog w base (fun _ => true) hd 24 v d p) : ∃ (y : Tp) (c0 : Nat), (y.l.length ≤ c0 ∧ c0 ≤ maxLen) ∧ TpOk y ∧ ∀ ads, Rel (rhoOf w ads) (tpS y.l c0 y.p) v := by
  have hu := Try.underlying24
  obtain ⟨cs, rfl, hsz⟩ := okWide_struct hu hv
  have hsz : cs.size = 2 := hsz.trans (by kernel_rfl)
  obtain ⟨fuel, hf⟩ := h
  obtain ⟨l, rfl⟩ : ∃ l : List Value, cs = l.toArray := ⟨cs.toList, by simp⟩
  match l, hsz with
  | [z0, z1], _ =>
    simp only [Value.cells] at hf
    have hu2 := Try.underlying24
    obtain ⟨f2_0, f2_1, hs2⟩ : ∃ f2_0 f2_1, Try.prog.underlying 24 = some (.struct #[f2_0, f2_1]) := ⟨_, _, hu2⟩
    rw [hs2] at hu2
    simp at hu2
    have t2_0 : f2_0.type = 22 := by rw [hu2.1]
    have p2_0 : f2_0.offset = 0 := by rw [hu2.1]
    have c2_0 : Try.prog.cellsOf 22 = 1 := by kernel_rfl
    have t2_1 : f2_1.type = 3 := by rw [hu2.2]
    have p2_1 : f2_1.offset = 1 := by rw [hu2.2]
    have c2_1 : Try.prog.cellsOf 3 = 1 := by kernel_rfl
    obtain ⟨y2_0, y2_1, m2, _, _, h2_0, h2_1⟩ := trod_struct2 hs2 hf
    rw [t2_0, p2_0, c2_0] at h2_0
    simp only [List.drop_zero, List.drop_succ_cons, List.take_succ_cons, List.take_zero] at h2_0
    obtain ⟨ad3, l3, cap3, e3, f3, R3⟩ := rowIn_of_trod Try.underlying22 (by kernel_rfl) (by decide) (fun n cs' x h hl => el_nu n cs' x h hl) h2_0
    simp only [List.cons.injEq, and_true] at e3
    subst e3
    rw [t2_1, p2_1, c2_1] at h2_1
    simp only [List.drop_zero, List.drop_succ_cons, List.take_succ_cons, List.take_zero] at h2_1
    obtain ⟨a4, e4, _, w4⟩ := DataW.trod_int Try.underlying3 h2_1
    simp only [List.cons.injEq, and_true] at e4
    subst e4
    exact ⟨⟨l3, a4⟩, cap3, ⟨R3.le, R3.max⟩, ⟨f3, (bounds_i64 w4)⟩, fun ads => rel_ev (relL_cons (rel_z R3) (relL_cons (rel_c rfl) relL_nil))⟩
theorem open_shorts (hv : Value.okWide Try.prog w .any b0 33 v) (h : DataW.Trod enc Try.prog w base (fun _ => true) hd 33 v d p) :
    ∃ (ad : Option Addr) (l : List (Int)) (cap : Nat), v = .slice ad l.length cap ∧ (∀ y ∈ l, ShOk y) ∧ RowIn w ad l.length cap 1 (l.map ShC) :=
  rowIn_arg Try.underlying33 (by kernel_rfl) (by decide) (fun n cs' x h hl => el_sh n cs' x h hl) hv h
theorem open_num (hv : Value.okWide Try.prog w .any b0 3 v) (h : DataW.Trod enc Try.prog w base (fun _ => true) hd 3 v d p) : ∃ a : Int, v = .int .i64 a ∧ -9223372036854775808 ≤ a ∧ a ≤ 9223372036854775807 := by
  obtain ⟨a, rfl, _, _, wa⟩ := open_int Try.underlying3 hv h
  have := bounds_i64 wa
  exact ⟨a, rfl, this.1, this.2⟩
theorem open_u32 (hv : Value.okWide Try.prog w .any b0 34 v) (h : DataW.Trod enc Try.prog w base (fun _ => true) hd 34 v d p) : ∃ a : Int, v = .int .u32 a ∧ 0 ≤ a ∧ a ≤ 4294967295 := by
  obtain ⟨a, rfl, _, _, wa⟩ := open_int Try.underlying34 hv h
  have := bounds_u32 wa
  exact ⟨a, rfl, this.1, this.2⟩
theorem open_u16 (hv : Value.okWide Try.prog w .any b0 35 v) (h : DataW.Trod enc Try.prog w base (fun _ => true) hd 35 v d p) : ∃ a : Int, v = .int .u16 a ∧ 0 ≤ a ∧ a ≤ 65535 := by
  obtain ⟨a, rfl, _, _, wa⟩ := open_int Try.underlying35 hv h
  have := bounds_u16 wa
  exact ⟨a, rfl, this.1, this.2⟩
theorem open_u8 (hv : Value.okWide Try.prog w .any b0 5 v) (h : DataW.Trod enc Try.prog w base (fun _ => true) hd 5 v d p) : ∃ a : Int, v = .int .u8 a ∧ 0 ≤ a ∧ a ≤ 255 := by
  obtain ⟨a, rfl, _, _, wa⟩ := open_int Try.underlying5 hv h
  have := bounds_u8 wa
  exact ⟨a, rfl, this.1, this.2⟩
end
/-- A world for the witnesses: the package-level variables hold what the program's text lays. -/
noncomputable def witW (os : Os) : World :=
  World.holding Try.prog os ⟨#[], #[], []⟩
end Go.Proofs.Ytigmgdfplhfdpaa
