/- How the arguments of the laws are opened, and the world of their witnesses. -/
import Derived.Test.YtccegmbklgmgnaaY10d
import Derived.Lib.SmallJoins
namespace Go.Proofs.Ytccegmbklgmgnaa
open Go.RowKit Go.ChangeShapes Go.WideShapes Go.ChangeAt Go.Joins Go.Deep

section
variable {H : Type} {enc : TypeId × Value → H} {w : World} {b0 base : Nat} {hd : Bool} {v : Value} {d : DataW H} {p : List MemPlace}
deriving instance Inhabited for Sp
deriving instance Inhabited for De
def SpOk (_ : Sp) : Prop := True
def U4Ok (y : Int) : Prop := 0 ≤ y ∧ y ≤ 4294967295
theorem el_sp (n : Nat) (cs' : List Value) (x : DataW H × List MemPlace) (h : DataW.trod enc Try.prog w base (fun _ => true) hd n 30 cs' = some x) (hl : cs'.length = 2) : ∃ y : Sp, RelK (Z0 w) (spC y) cs' ∧ SpOk y := by
  match cs', hl with
  | [z0, z1], _ =>
    have hu0 := Try.underlying30
    obtain ⟨f0_0, f0_1, hs0⟩ : ∃ f0_0 f0_1, Try.prog.underlying 30 = some (.struct #[f0_0, f0_1]) := ⟨_, _, hu0⟩
    rw [hs0] at hu0
    simp at hu0
    have t0_0 : f0_0.type = 21 := by rw [hu0.1]
    have p0_0 : f0_0.offset = 0 := by rw [hu0.1]
    have c0_0 : Try.prog.cellsOf 21 = 1 := by kernel_rfl
    have t0_1 : f0_1.type = 21 := by rw [hu0.2]
    have p0_1 : f0_1.offset = 1 := by rw [hu0.2]
    have c0_1 : Try.prog.cellsOf 21 = 1 := by kernel_rfl
    obtain ⟨y0_0, y0_1, m0, _, _, h0_0, h0_1⟩ := trod_struct2 hs0 h
    rw [t0_0, p0_0, c0_0] at h0_0
    simp only [List.drop_zero, List.drop_succ_cons, List.take_succ_cons, List.take_zero] at h0_0
    obtain ⟨a1, e1, _, w1⟩ := DataW.trod_int Try.underlying21 h0_0
    simp only [List.cons.injEq, and_true] at e1
    subst e1
    rw [t0_1, p0_1, c0_1] at h0_1
    simp only [List.drop_zero, List.drop_succ_cons, List.take_succ_cons, List.take_zero] at h0_1
    obtain ⟨a2, e2, _, w2⟩ := DataW.trod_int Try.underlying21 h0_1
    simp only [List.cons.injEq, and_true] at e2
    subst e2
    exact ⟨⟨a1, a2⟩, (relK_v rfl (relK_v rfl relK_nil)), trivial⟩
theorem el_de (n : Nat) (cs' : List Value) (x : DataW H × List MemPlace) (h : DataW.trod enc Try.prog w base (fun _ => true) hd n 34 cs' = some x) (hl : cs'.length = 4) : ∃ y : De, RelK (Z0 w) (deC y) cs' ∧ DeOk y := by
  match cs', hl with
  | [z0, z1, z2, z3], _ =>
    have hu3 := Try.underlying34
    obtain ⟨f3_0, f3_1, f3_2, f3_3, hs3⟩ : ∃ f3_0 f3_1 f3_2 f3_3, Try.prog.underlying 34 = some (.struct #[f3_0, f3_1, f3_2, f3_3]) := ⟨_, _, _, _, hu3⟩
    rw [hs3] at hu3
    simp at hu3
    have t3_0 : f3_0.type = 5 := by rw [hu3.1]
    have p3_0 : f3_0.offset = 0 := by rw [hu3.1]
    have c3_0 : Try.prog.cellsOf 5 = 1 := by kernel_rfl
    have t3_1 : f3_1.type = 28 := by rw [hu3.2.1]
    have p3_1 : f3_1.offset = 1 := by rw [hu3.2.1]
    have c3_1 : Try.prog.cellsOf 28 = 1 := by kernel_rfl
    have t3_2 : f3_2.type = 5 := by rw [hu3.2.2.1]
    have p3_2 : f3_2.offset = 2 := by rw [hu3.2.2.1]
    have c3_2 : Try.prog.cellsOf 5 = 1 := by kernel_rfl
    have t3_3 : f3_3.type = 32 := by rw [hu3.2.2.2]
    have p3_3 : f3_3.offset = 3 := by rw [hu3.2.2.2]
    have c3_3 : Try.prog.cellsOf 32 = 1 := by kernel_rfl
    obtain ⟨y3_0, y3_1, y3_2, y3_3, m3, _, _, h3_0, h3_1, h3_2, h3_3⟩ := trod_struct4 hs3 h
    rw [t3_0, p3_0, c3_0] at h3_0
    simp only [List.drop_zero, List.drop_succ_cons, List.take_succ_cons, List.take_zero] at h3_0
    obtain ⟨a4, e4, _, w4⟩ := DataW.trod_int Try.underlying5 h3_0
    simp only [List.cons.injEq, and_true] at e4
    subst e4
    rw [t3_1, p3_1, c3_1] at h3_1
    simp only [List.drop_zero, List.drop_succ_cons, List.take_succ_cons, List.take_zero] at h3_1
    obtain ⟨a5, e5, _, w5⟩ := DataW.trod_int Try.underlying28 h3_1
    simp only [List.cons.injEq, and_true] at e5
    subst e5
    rw [t3_2, p3_2, c3_2] at h3_2
    simp only [List.drop_zero, List.drop_succ_cons, List.take_succ_cons, List.take_zero] at h3_2
    obtain ⟨a6, e6, _, w6⟩ := DataW.trod_int Try.underlying5 h3_2
    simp only [List.cons.injEq, and_true] at e6
    subst e6
    rw [t3_3, p3_3, c3_3] at h3_3
    simp only [List.drop_zero, List.drop_succ_cons, List.take_succ_cons, List.take_zero] at h3_3
    obtain ⟨ad7, l7, cap7, e7, f7, R7⟩ := rowIn_of_trod Try.underlying32 (by kernel_rfl) (by decide) (fun n cs' x h hl => el_sp n cs' x h hl) h3_3
    simp only [List.cons.injEq, and_true] at e7
    subst e7
    exact ⟨⟨a4, a5, a6, l7⟩, (relK_v rfl (relK_v rfl (relK_v rfl (relK_z R7.cell relK_nil)))), ⟨(bounds_u8 w4), (bounds_u16 w5), (bounds_u8 w6)⟩⟩
theorem open_descs (hv : Value.okWide Try.prog w .any b0 22 v) (h : DataW.Trod enc Try.prog w base (fun _ => true) hd 22 v d p) :
    ∃ (ad : Option Addr) (l : List (De)) (cap : Nat), v = .slice ad l.length cap ∧ (∀ y ∈ l, DeOk y) ∧ RowIn w ad l.length cap 4 (l.map deC) :=
  rowIn_arg Try.underlying22 (by kernel_rfl) (by decide) (fun n cs' x h hl => el_de n cs' x h hl) hv h
theorem el_u4 (n : Nat) (cs' : List Value) (x : DataW H × List MemPlace) (h : DataW.trod enc Try.prog w base (fun _ => true) hd n 49 cs' = some x) (hl : cs'.length = 1) : ∃ y : Int, RelK (Z0 w) (u4C y) cs' ∧ U4Ok y := by
  match cs', hl with
  | [z0], _ =>
    obtain ⟨a8, e8, _, w8⟩ := DataW.trod_int Try.underlying49 h
    simp only [List.cons.injEq, and_true] at e8
    subst e8
    exact ⟨a8, (relK_v rfl relK_nil), (bounds_u32 w8)⟩
theorem open_u4s (hv : Value.okWide Try.prog w .any b0 23 v) (h : DataW.Trod enc Try.prog w base (fun _ => true) hd 23 v d p) :
    ∃ (ad : Option Addr) (l : List (Int)) (cap : Nat), v = .slice ad l.length cap ∧ (∀ y ∈ l, U4Ok y) ∧ RowIn w ad l.length cap 1 (l.map u4C) :=
  rowIn_arg Try.underlying23 (by kernel_rfl) (by decide) (fun n cs' x h hl => el_u4 n cs' x h hl) hv h
theorem open_u8 (hv : Value.okWide Try.prog w .any b0 5 v) (h : DataW.Trod enc Try.prog w base (fun _ => true) hd 5 v d p) : ∃ a : Int, v = .int .u8 a ∧ 0 ≤ a ∧ a ≤ 255 := by
  obtain ⟨a, rfl, _, _, wa⟩ := open_int Try.underlying5 hv h
  have := bounds_u8 wa
  exact ⟨a, rfl, this.1, this.2⟩
theorem open_i64 (hv : Value.okWide Try.prog w .any b0 3 v) (h : DataW.Trod enc Try.prog w base (fun _ => true) hd 3 v d p) : ∃ a : Int, v = .int .i64 a ∧ -9223372036854775808 ≤ a ∧ a ≤ 9223372036854775807 := by
  obtain ⟨a, rfl, _, _, wa⟩ := open_int Try.underlying3 hv h
  have := bounds_i64 wa
  exact ⟨a, rfl, this.1, this.2⟩
end
/-- A world for the witnesses: the package-level variables hold what the program's text lays. -/
noncomputable def witW (os : Os) : World :=
  World.holding Try.prog os ⟨#[], #[], []⟩
end Go.Proofs.Ytccegmbklgmgnaa
