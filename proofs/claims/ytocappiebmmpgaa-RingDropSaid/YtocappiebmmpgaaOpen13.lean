/- How the arguments of the laws are opened, and the world of their witnesses. -/
import Derived.Test.YtocappiebmmpgaaT13m
import Derived.Lib.SmallJoins
namespace Go.Proofs.Ytocappiebmmpgaa
open Go.RowKit Go.ChangeShapes Go.WideShapes Go.ChangeAt Go.Joins Go.Deep

section
variable {H : Type} {enc : TypeId × Value → H} {w : World} {b0 base : Nat} {hd : Bool} {v : Value} {d : DataW H} {p : List MemPlace}
deriving instance Inhabited for De
def SpOk (_ : Sp) : Prop := True
theorem el_sp (n : Nat) (cs' : List Value) (x : DataW H × List MemPlace) (h : DataW.trod enc Try.prog w base (fun _ => true) hd n 68 cs' = some x) (hl : cs'.length = 2) : ∃ y : Sp, RelK (Z0 w) (spC y) cs' ∧ SpOk y := by
  match cs', hl with
  | [z0, z1], _ =>
    have hu0 := Try.underlying68
    obtain ⟨f0_0, f0_1, hs0⟩ : ∃ f0_0 f0_1, Try.prog.underlying 68 = some (.struct #[f0_0, f0_1]) := ⟨_, _, hu0⟩
    rw [hs0] at hu0
    simp at hu0
    have t0_0 : f0_0.type = 21 := by rw [hu0.1]
    have p0_0 : f0_0.offset = 0 := by rw [hu0.1]
    have c0_0 : Try.prog.cellsOf 21 = 1 := by kernel_rfl
    have t0_1 : f0_1.type = 21 := by rw [hu0.2]
    have p0_1 : f0_1.offset = 1 := by rw [hu0.2]
    have c0_1 : Try.prog.cellsOf 21 = 1 := by kernel_rfl
    obtain ⟨y0_0, y0_1, m0, _, _, h0_0, h0_1⟩ := trod_struct2 hs0 h
    rw [t0_0, p0_0, c0_0] at h0_0
    simp only [List.drop_zero, List.drop_succ_cons, List.take_succ_cons, List.take_zero] at h0_0
    obtain ⟨a1, e1, _, w1⟩ := DataW.trod_int Try.underlying21 h0_0
    simp only [List.cons.injEq, and_true] at e1
    subst e1
    rw [t0_1, p0_1, c0_1] at h0_1
    simp only [List.drop_zero, List.drop_succ_cons, List.take_succ_cons, List.take_zero] at h0_1
    obtain ⟨a2, e2, _, w2⟩ := DataW.trod_int Try.underlying21 h0_1
    simp only [List.cons.injEq, and_true] at e2
    subst e2
    exact ⟨⟨a1, a2⟩, (relK_v rfl (relK_v rfl relK_nil)), trivial⟩
theorem open_schema (hv : Value.okWide Try.prog w .any b0 23 v) (h : DataW.Trod enc Try.prog w base (fun _ => true) hd 23 v d p) :
    ∃ (ad : Option Addr) (l : List (Sp)) (cap : Nat), v = .slice ad l.length cap ∧ (∀ y ∈ l, SpOk y) ∧ RowIn w ad l.length cap 2 (l.map spC) :=
  rowIn_arg Try.underlying23 (by kernel_rfl) (by decide) (fun n cs' x h hl => el_sp n cs' x h hl) hv h
theorem open_de (hv : Value.okWide Try.prog w .any b0 27 v) (h : DataW.Trod enc Try.prog w base (fun _ => true) hd 27 v d p) : ∃ (y : De) (c0 : Nat), (y.fl.length ≤ c0 ∧ c0 ≤ maxLen) ∧ DeOk y ∧ ∀ ads, Rel (rhoOf w ads) (deS y c0) v := by
  have hu := Try.underlying27
  obtain ⟨cs, rfl, hsz⟩ := okWide_struct hu hv
  have hsz : cs.size = 4 := hsz.trans (by kernel_rfl)
  obtain ⟨fuel, hf⟩ := h
  obtain ⟨l, rfl⟩ : ∃ l : List Value, cs = l.toArray := ⟨cs.toList, by simp⟩
  match l, hsz with
  | [z0, z1, z2, z3], _ =>
    simp only [Value.cells] at hf
    have hu3 := Try.underlying27
    obtain ⟨f3_0, f3_1, f3_2, f3_3, hs3⟩ : ∃ f3_0 f3_1 f3_2 f3_3, Try.prog.underlying 27 = some (.struct #[f3_0, f3_1, f3_2, f3_3]) := ⟨_, _, _, _, hu3⟩
    rw [hs3] at hu3
    simp at hu3
    have t3_0 : f3_0.type = 5 := by rw [hu3.1]
    have p3_0 : f3_0.offset = 0 := by rw [hu3.1]
    have c3_0 : Try.prog.cellsOf 5 = 1 := by kernel_rfl
    have t3_1 : f3_1.type = 24 := by rw [hu3.2.1]
    have p3_1 : f3_1.offset = 1 := by rw [hu3.2.1]
    have c3_1 : Try.prog.cellsOf 24 = 1 := by kernel_rfl
    have t3_2 : f3_2.type = 5 := by rw [hu3.2.2.1]
    have p3_2 : f3_2.offset = 2 := by rw [hu3.2.2.1]
    have c3_2 : Try.prog.cellsOf 5 = 1 := by kernel_rfl
    have t3_3 : f3_3.type = 25 := by rw [hu3.2.2.2]
    have p3_3 : f3_3.offset = 3 := by rw [hu3.2.2.2]
    have c3_3 : Try.prog.cellsOf 25 = 1 := by kernel_rfl
    obtain ⟨y3_0, y3_1, y3_2, y3_3, m3, _, _, h3_0, h3_1, h3_2, h3_3⟩ := trod_struct4 hs3 hf
    rw [t3_0, p3_0, c3_0] at h3_0
    simp only [List.drop_zero, List.drop_succ_cons, List.take_succ_cons, List.take_zero] at h3_0
    obtain ⟨a4, e4, _, w4⟩ := DataW.trod_int Try.underlying5 h3_0
    simp only [List.cons.injEq, and_true] at e4
    subst e4
    rw [t3_1, p3_1, c3_1] at h3_1
    simp only [List.drop_zero, List.drop_succ_cons, List.take_succ_cons, List.take_zero] at h3_1
    obtain ⟨a5, e5, _, w5⟩ := DataW.trod_int Try.underlying24 h3_1
    simp only [List.cons.injEq, and_true] at e5
    subst e5
    rw [t3_2, p3_2, c3_2] at h3_2
    simp only [List.drop_zero, List.drop_succ_cons, List.take_succ_cons, List.take_zero] at h3_2
    obtain ⟨a6, e6, _, w6⟩ := DataW.trod_int Try.underlying5 h3_2
    simp only [List.cons.injEq, and_true] at e6
    subst e6
    rw [t3_3, p3_3, c3_3] at h3_3
    simp only [List.drop_zero, List.drop_succ_cons, List.take_succ_cons, List.take_zero] at h3_3
    obtain ⟨ad7, l7, cap7, e7, f7, R7⟩ := rowIn_of_trod Try.underlying25 (by kernel_rfl) (by decide) (fun n cs' x h hl => el_sp n cs' x h hl) h3_3
    simp only [List.cons.injEq, and_true] at e7
    subst e7
    exact ⟨⟨a4, a5, a6, l7⟩, cap7, ⟨R7.le, R7.max⟩, ⟨(bounds_u8 w4), (bounds_u16 w5), (bounds_u8 w6)⟩, fun ads => rel_ev (relL_cons (rel_c rfl) (relL_cons (rel_c rfl) (relL_cons (rel_c rfl) (relL_cons (rel_z R7) relL_nil))))⟩
theorem el_de (n : Nat) (cs' : List Value) (x : DataW H × List MemPlace) (h : DataW.trod enc Try.prog w base (fun _ => true) hd n 27 cs' = some x) (hl : cs'.length = 4) : ∃ y : De, RelK (Z0 w) (deC y) cs' ∧ DeOk y := by
  match cs', hl with
  | [z0, z1, z2, z3], _ =>
    have hu8 := Try.underlying27
    obtain ⟨f8_0, f8_1, f8_2, f8_3, hs8⟩ : ∃ f8_0 f8_1 f8_2 f8_3, Try.prog.underlying 27 = some (.struct #[f8_0, f8_1, f8_2, f8_3]) := ⟨_, _, _, _, hu8⟩
    rw [hs8] at hu8
    simp at hu8
    have t8_0 : f8_0.type = 5 := by rw [hu8.1]
    have p8_0 : f8_0.offset = 0 := by rw [hu8.1]
    have c8_0 : Try.prog.cellsOf 5 = 1 := by kernel_rfl
    have t8_1 : f8_1.type = 24 := by rw [hu8.2.1]
    have p8_1 : f8_1.offset = 1 := by rw [hu8.2.1]
    have c8_1 : Try.prog.cellsOf 24 = 1 := by kernel_rfl
    have t8_2 : f8_2.type = 5 := by rw [hu8.2.2.1]
    have p8_2 : f8_2.offset = 2 := by rw [hu8.2.2.1]
    have c8_2 : Try.prog.cellsOf 5 = 1 := by kernel_rfl
    have t8_3 : f8_3.type = 25 := by rw [hu8.2.2.2]
    have p8_3 : f8_3.offset = 3 := by rw [hu8.2.2.2]
    have c8_3 : Try.prog.cellsOf 25 = 1 := by kernel_rfl
    obtain ⟨y8_0, y8_1, y8_2, y8_3, m8, _, _, h8_0, h8_1, h8_2, h8_3⟩ := trod_struct4 hs8 h
    rw [t8_0, p8_0, c8_0] at h8_0
    simp only [List.drop_zero, List.drop_succ_cons, List.take_succ_cons, List.take_zero] at h8_0
    obtain ⟨a9, e9, _, w9⟩ := DataW.trod_int Try.underlying5 h8_0
    simp only [List.cons.injEq, and_true] at e9
    subst e9
    rw [t8_1, p8_1, c8_1] at h8_1
    simp only [List.drop_zero, List.drop_succ_cons, List.take_succ_cons, List.take_zero] at h8_1
    obtain ⟨a10, e10, _, w10⟩ := DataW.trod_int Try.underlying24 h8_1
    simp only [List.cons.injEq, and_true] at e10
    subst e10
    rw [t8_2, p8_2, c8_2] at h8_2
    simp only [List.drop_zero, List.drop_succ_cons, List.take_succ_cons, List.take_zero] at h8_2
    obtain ⟨a11, e11, _, w11⟩ := DataW.trod_int Try.underlying5 h8_2
    simp only [List.cons.injEq, and_true] at e11
    subst e11
    rw [t8_3, p8_3, c8_3] at h8_3
    simp only [List.drop_zero, List.drop_succ_cons, List.take_succ_cons, List.take_zero] at h8_3
    obtain ⟨ad12, l12, cap12, e12, f12, R12⟩ := rowIn_of_trod Try.underlying25 (by kernel_rfl) (by decide) (fun n cs' x h hl => el_sp n cs' x h hl) h8_3
    simp only [List.cons.injEq, and_true] at e12
    subst e12
    exact ⟨⟨a9, a10, a11, l12⟩, (relK_v rfl (relK_v rfl (relK_v rfl (relK_z R12.cell relK_nil)))), ⟨(bounds_u8 w9), (bounds_u16 w10), (bounds_u8 w11)⟩⟩
theorem open_descs (hv : Value.okWide Try.prog w .any b0 28 v) (h : DataW.Trod enc Try.prog w base (fun _ => true) hd 28 v d p) :
    ∃ (ad : Option Addr) (l : List (De)) (cap : Nat), v = .slice ad l.length cap ∧ (∀ y ∈ l, DeOk y) ∧ RowIn w ad l.length cap 4 (l.map deC) :=
  rowIn_arg Try.underlying28 (by kernel_rfl) (by decide) (fun n cs' x h hl => el_de n cs' x h hl) hv h
theorem open_u8 (hv : Value.okWide Try.prog w .any b0 5 v) (h : DataW.Trod enc Try.prog w base (fun _ => true) hd 5 v d p) : ∃ a : Int, v = .int .u8 a ∧ 0 ≤ a ∧ a ≤ 255 := by
  obtain ⟨a, rfl, _, _, wa⟩ := open_int Try.underlying5 hv h
  have := bounds_u8 wa
  exact ⟨a, rfl, this.1, this.2⟩
theorem open_u16 (hv : Value.okWide Try.prog w .any b0 24 v) (h : DataW.Trod enc Try.prog w base (fun _ => true) hd 24 v d p) : ∃ a : Int, v = .int .u16 a ∧ 0 ≤ a ∧ a ≤ 65535 := by
  obtain ⟨a, rfl, _, _, wa⟩ := open_int Try.underlying24 hv h
  have := bounds_u16 wa
  exact ⟨a, rfl, this.1, this.2⟩
end
/-- A world for the witnesses: the package-level variables hold what the program's text lays. -/
noncomputable def witW (os : Os) : World :=
  World.holding Try.prog os ⟨#[], #[], []⟩
end Go.Proofs.Ytocappiebmmpgaa
