/- How the arguments of the laws are opened, and the world of their witnesses. -/
import Derived.Test.YtkcdomafdjpbjaaT21i
import Derived.Lib.SmallJoins
namespace Go.Proofs.Ytkcdomafdjpbjaa
open Go.RowKit Go.ChangeShapes Go.WideShapes Go.ChangeAt Go.Joins Go.Deep

section
variable {H : Type} {enc : TypeId × Value → H} {w : World} {b0 base : Nat} {hd : Bool} {v : Value} {d : DataW H} {p : List MemPlace}
theorem trod_struct11 {P : Program} {spare : Nat → Bool} {held : Bool} {t : TypeId} {f0 f1 f2 f3 f4 f5 f6 f7 f8 f9 f10 : Field} {fuel : Nat} {cs : List Value} {x : DataW H × List MemPlace} (ht : P.underlying t = some (.struct #[f0, f1, f2, f3, f4, f5, f6, f7, f8, f9, f10])) (h : DataW.trod enc P w base spare held fuel t cs = some x) :
    ∃ (y0 y1 y2 y3 y4 y5 y6 y7 y8 y9 y10 : DataW H × List MemPlace) (n : Nat), True ∧ True ∧ DataW.trod enc P w base spare held n f0.type ((cs.drop f0.offset).take (P.cellsOf f0.type)) = some y0 ∧ DataW.trod enc P w base spare held n f1.type ((cs.drop f1.offset).take (P.cellsOf f1.type)) = some y1 ∧ DataW.trod enc P w base spare held n f2.type ((cs.drop f2.offset).take (P.cellsOf f2.type)) = some y2 ∧ DataW.trod enc P w base spare held n f3.type ((cs.drop f3.offset).take (P.cellsOf f3.type)) = some y3 ∧ DataW.trod enc P w base spare held n f4.type ((cs.drop f4.offset).take (P.cellsOf f4.type)) = some y4 ∧ DataW.trod enc P w base spare held n f5.type ((cs.drop f5.offset).take (P.cellsOf f5.type)) = some y5 ∧ DataW.trod enc P w base spare held n f6.type ((cs.drop f6.offset).take (P.cellsOf f6.type)) = some y6 ∧ DataW.trod enc P w base spare held n f7.type ((cs.drop f7.offset).take (P.cellsOf f7.type)) = some y7 ∧ DataW.trod enc P w base spare held n f8.type ((cs.drop f8.offset).take (P.cellsOf f8.type)) = some y8 ∧ DataW.trod enc P w base spare held n f9.type ((cs.drop f9.offset).take (P.cellsOf f9.type)) = some y9 ∧ DataW.trod enc P w base spare held n f10.type ((cs.drop f10.offset).take (P.cellsOf f10.type)) = some y10 := by
  obtain ⟨xs, n, _, rfl, hl, hlen, hf⟩ := DataW.trod_struct ht h
  match xs, hlen with
  | [y0, y1, y2, y3, y4, y5, y6, y7, y8, y9, y10], _ => exact ⟨y0, y1, y2, y3, y4, y5, y6, y7, y8, y9, y10, n, trivial, trivial, by simpa using hf 0 f0 rfl, by simpa using hf 1 f1 rfl, by simpa using hf 2 f2 rfl, by simpa using hf 3 f3 rfl, by simpa using hf 4 f4 rfl, by simpa using hf 5 f5 rfl, by simpa using hf 6 f6 rfl, by simpa using hf 7 f7 rfl, by simpa using hf 8 f8 rfl, by simpa using hf 9 f9 rfl, by simpa using hf 10 f10 rfl⟩
deriving instance Inhabited for Sp
deriving instance Inhabited for De
def SpOk (_ : Sp) : Prop := True
def TrOk (_ : Tr) : Prop := True
def NuOk (_ : Int) : Prop := True
def DeIn (y : De) : Prop := y.fl.length ≤ 9223372036854775807
theorem el_sp (n : Nat) (cs' : List Value) (x : DataW H × List MemPlace) (h : DataW.trod enc Try.prog w base (fun _ => true) hd n 51 cs' = some x) (hl : cs'.length = 2) : ∃ y : Sp, RelK (Z0 w) (spC y) cs' ∧ SpOk y := by
  match cs', hl with
  | [z0, z1], _ =>
    have hu0 := Try.underlying51
    obtain ⟨f0_0, f0_1, hs0⟩ : ∃ f0_0 f0_1, Try.prog.underlying 51 = some (.struct #[f0_0, f0_1]) := ⟨_, _, hu0⟩
    rw [hs0] at hu0
    simp at hu0
    have t0_0 : f0_0.type = 21 := by rw [hu0.1]
    have p0_0 : f0_0.offset = 0 := by rw [hu0.1]
    have c0_0 : Try.prog.cellsOf 21 = 1 := by kernel_rfl
    have t0_1 : f0_1.type = 21 := by rw [hu0.2]
    have p0_1 : f0_1.offset = 1 := by rw [hu0.2]
    have c0_1 : Try.prog.cellsOf 21 = 1 := by kernel_rfl
    obtain ⟨y0_0, y0_1, m0, _, _, h0_0, h0_1⟩ := trod_struct2 hs0 h
    rw [t0_0, p0_0, c0_0] at h0_0
    simp only [List.drop_zero, List.drop_succ_cons, List.take_succ_cons, List.take_zero] at h0_0
    obtain ⟨a1, e1, _, w1⟩ := DataW.trod_int Try.underlying21 h0_0
    simp only [List.cons.injEq, and_true] at e1
    subst e1
    rw [t0_1, p0_1, c0_1] at h0_1
    simp only [List.drop_zero, List.drop_succ_cons, List.take_succ_cons, List.take_zero] at h0_1
    obtain ⟨a2, e2, _, w2⟩ := DataW.trod_int Try.underlying21 h0_1
    simp only [List.cons.injEq, and_true] at e2
    subst e2
    exact ⟨⟨a1, a2⟩, (relK_v rfl (relK_v rfl relK_nil)), trivial⟩
theorem el_mb (n : Nat) (cs' : List Value) (x : DataW H × List MemPlace) (h : DataW.trod enc Try.prog w base (fun _ => true) hd n 57 cs' = some x) (hl : cs'.length = 3) : ∃ y : Tr, RelK (Z0 w) (mbC y) cs' ∧ TrOk y := by
  match cs', hl with
  | [z0, z1, z2], _ =>
    have hu3 := Try.underlying57
    obtain ⟨f3_0, f3_1, f3_2, hs3⟩ : ∃ f3_0 f3_1 f3_2, Try.prog.underlying 57 = some (.struct #[f3_0, f3_1, f3_2]) := ⟨_, _, _, hu3⟩
    rw [hs3] at hu3
    simp at hu3
    have t3_0 : f3_0.type = 25 := by rw [hu3.1]
    have p3_0 : f3_0.offset = 0 := by rw [hu3.1]
    have c3_0 : Try.prog.cellsOf 25 = 1 := by kernel_rfl
    have t3_1 : f3_1.type = 5 := by rw [hu3.2.1]
    have p3_1 : f3_1.offset = 1 := by rw [hu3.2.1]
    have c3_1 : Try.prog.cellsOf 5 = 1 := by kernel_rfl
    have t3_2 : f3_2.type = 5 := by rw [hu3.2.2]
    have p3_2 : f3_2.offset = 2 := by rw [hu3.2.2]
    have c3_2 : Try.prog.cellsOf 5 = 1 := by kernel_rfl
    obtain ⟨y3_0, y3_1, y3_2, m3, _, _, h3_0, h3_1, h3_2⟩ := trod_struct3 hs3 h
    rw [t3_0, p3_0, c3_0] at h3_0
    simp only [List.drop_zero, List.drop_succ_cons, List.take_succ_cons, List.take_zero] at h3_0
    obtain ⟨a4, e4, _, w4⟩ := DataW.trod_int Try.underlying25 h3_0
    simp only [List.cons.injEq, and_true] at e4
    subst e4
    rw [t3_1, p3_1, c3_1] at h3_1
    simp only [List.drop_zero, List.drop_succ_cons, List.take_succ_cons, List.take_zero] at h3_1
    obtain ⟨a5, e5, _, w5⟩ := DataW.trod_int Try.underlying5 h3_1
    simp only [List.cons.injEq, and_true] at e5
    subst e5
    rw [t3_2, p3_2, c3_2] at h3_2
    simp only [List.drop_zero, List.drop_succ_cons, List.take_succ_cons, List.take_zero] at h3_2
    obtain ⟨a6, e6, _, w6⟩ := DataW.trod_int Try.underlying5 h3_2
    simp only [List.cons.injEq, and_true] at e6
    subst e6
    exact ⟨⟨a4, a5, a6⟩, (relK_v rfl (relK_v rfl (relK_v rfl relK_nil))), trivial⟩
theorem el_mk (n : Nat) (cs' : List Value) (x : DataW H × List MemPlace) (h : DataW.trod enc Try.prog w base (fun _ => true) hd n 35 cs' = some x) (hl : cs'.length = 3) : ∃ y : Tr, RelK (Z0 w) (mkC y) cs' ∧ TrOk y := by
  match cs', hl with
  | [z0, z1, z2], _ =>
    have hu7 := Try.underlying35
    obtain ⟨f7_0, f7_1, f7_2, hs7⟩ : ∃ f7_0 f7_1 f7_2, Try.prog.underlying 35 = some (.struct #[f7_0, f7_1, f7_2]) := ⟨_, _, _, hu7⟩
    rw [hs7] at hu7
    simp at hu7
    have t7_0 : f7_0.type = 5 := by rw [hu7.1]
    have p7_0 : f7_0.offset = 0 := by rw [hu7.1]
    have c7_0 : Try.prog.cellsOf 5 = 1 := by kernel_rfl
    have t7_1 : f7_1.type = 25 := by rw [hu7.2.1]
    have p7_1 : f7_1.offset = 1 := by rw [hu7.2.1]
    have c7_1 : Try.prog.cellsOf 25 = 1 := by kernel_rfl
    have t7_2 : f7_2.type = 28 := by rw [hu7.2.2]
    have p7_2 : f7_2.offset = 2 := by rw [hu7.2.2]
    have c7_2 : Try.prog.cellsOf 28 = 1 := by kernel_rfl
    obtain ⟨y7_0, y7_1, y7_2, m7, _, _, h7_0, h7_1, h7_2⟩ := trod_struct3 hs7 h
    rw [t7_0, p7_0, c7_0] at h7_0
    simp only [List.drop_zero, List.drop_succ_cons, List.take_succ_cons, List.take_zero] at h7_0
    obtain ⟨a8, e8, _, w8⟩ := DataW.trod_int Try.underlying5 h7_0
    simp only [List.cons.injEq, and_true] at e8
    subst e8
    rw [t7_1, p7_1, c7_1] at h7_1
    simp only [List.drop_zero, List.drop_succ_cons, List.take_succ_cons, List.take_zero] at h7_1
    obtain ⟨a9, e9, _, w9⟩ := DataW.trod_int Try.underlying25 h7_1
    simp only [List.cons.injEq, and_true] at e9
    subst e9
    rw [t7_2, p7_2, c7_2] at h7_2
    simp only [List.drop_zero, List.drop_succ_cons, List.take_succ_cons, List.take_zero] at h7_2
    obtain ⟨a10, e10, _, w10⟩ := DataW.trod_int Try.underlying28 h7_2
    simp only [List.cons.injEq, and_true] at e10
    subst e10
    exact ⟨⟨a8, a9, a10⟩, (relK_v rfl (relK_v rfl (relK_v rfl relK_nil))), trivial⟩
theorem el_id (n : Nat) (cs' : List Value) (x : DataW H × List MemPlace) (h : DataW.trod enc Try.prog w base (fun _ => true) hd n 30 cs' = some x) (hl : cs'.length = 3) : ∃ y : Tr, RelK (Z0 w) (mkC y) cs' ∧ TrOk y := by
  match cs', hl with
  | [z0, z1, z2], _ =>
    have hu11 := Try.underlying30
    obtain ⟨f11_0, f11_1, f11_2, hs11⟩ : ∃ f11_0 f11_1 f11_2, Try.prog.underlying 30 = some (.struct #[f11_0, f11_1, f11_2]) := ⟨_, _, _, hu11⟩
    rw [hs11] at hu11
    simp at hu11
    have t11_0 : f11_0.type = 5 := by rw [hu11.1]
    have p11_0 : f11_0.offset = 0 := by rw [hu11.1]
    have c11_0 : Try.prog.cellsOf 5 = 1 := by kernel_rfl
    have t11_1 : f11_1.type = 25 := by rw [hu11.2.1]
    have p11_1 : f11_1.offset = 1 := by rw [hu11.2.1]
    have c11_1 : Try.prog.cellsOf 25 = 1 := by kernel_rfl
    have t11_2 : f11_2.type = 28 := by rw [hu11.2.2]
    have p11_2 : f11_2.offset = 2 := by rw [hu11.2.2]
    have c11_2 : Try.prog.cellsOf 28 = 1 := by kernel_rfl
    obtain ⟨y11_0, y11_1, y11_2, m11, _, _, h11_0, h11_1, h11_2⟩ := trod_struct3 hs11 h
    rw [t11_0, p11_0, c11_0] at h11_0
    simp only [List.drop_zero, List.drop_succ_cons, List.take_succ_cons, List.take_zero] at h11_0
    obtain ⟨a12, e12, _, w12⟩ := DataW.trod_int Try.underlying5 h11_0
    simp only [List.cons.injEq, and_true] at e12
    subst e12
    rw [t11_1, p11_1, c11_1] at h11_1
    simp only [List.drop_zero, List.drop_succ_cons, List.take_succ_cons, List.take_zero] at h11_1
    obtain ⟨a13, e13, _, w13⟩ := DataW.trod_int Try.underlying25 h11_1
    simp only [List.cons.injEq, and_true] at e13
    subst e13
    rw [t11_2, p11_2, c11_2] at h11_2
    simp only [List.drop_zero, List.drop_succ_cons, List.take_succ_cons, List.take_zero] at h11_2
    obtain ⟨a14, e14, _, w14⟩ := DataW.trod_int Try.underlying28 h11_2
    simp only [List.cons.injEq, and_true] at e14
    subst e14
    exact ⟨⟨a12, a13, a14⟩, (relK_v rfl (relK_v rfl (relK_v rfl relK_nil))), trivial⟩
theorem el_i4 (n : Nat) (cs' : List Value) (x : DataW H × List MemPlace) (h : DataW.trod enc Try.prog w base (fun _ => true) hd n 21 cs' = some x) (hl : cs'.length = 1) : ∃ y : Int, RelK (Z0 w) (i4C y) cs' ∧ NuOk y := by
  match cs', hl with
  | [z0], _ =>
    obtain ⟨a15, e15, _, w15⟩ := DataW.trod_int Try.underlying21 h
    simp only [List.cons.injEq, and_true] at e15
    subst e15
    exact ⟨a15, (relK_v rfl relK_nil), trivial⟩
theorem el_u1 (n : Nat) (cs' : List Value) (x : DataW H × List MemPlace) (h : DataW.trod enc Try.prog w base (fun _ => true) hd n 5 cs' = some x) (hl : cs'.length = 1) : ∃ y : Int, RelK (Z0 w) (u1C y) cs' ∧ NuOk y := by
  match cs', hl with
  | [z0], _ =>
    obtain ⟨a16, e16, _, w16⟩ := DataW.trod_int Try.underlying5 h
    simp only [List.cons.injEq, and_true] at e16
    subst e16
    exact ⟨a16, (relK_v rfl relK_nil), trivial⟩
theorem el_de (n : Nat) (cs' : List Value) (x : DataW H × List MemPlace) (h : DataW.trod enc Try.prog w base (fun _ => true) hd n 55 cs' = some x) (hl : cs'.length = 4) : ∃ y : De, RelK (Z0 w) (deC y) cs' ∧ DeIn y := by
  match cs', hl with
  | [z0, z1, z2, z3], _ =>
    have hu17 := Try.underlying55
    obtain ⟨f17_0, f17_1, f17_2, f17_3, hs17⟩ : ∃ f17_0 f17_1 f17_2 f17_3, Try.prog.underlying 55 = some (.struct #[f17_0, f17_1, f17_2, f17_3]) := ⟨_, _, _, _, hu17⟩
    rw [hs17] at hu17
    simp at hu17
    have t17_0 : f17_0.type = 5 := by rw [hu17.1]
    have p17_0 : f17_0.offset = 0 := by rw [hu17.1]
    have c17_0 : Try.prog.cellsOf 5 = 1 := by kernel_rfl
    have t17_1 : f17_1.type = 25 := by rw [hu17.2.1]
    have p17_1 : f17_1.offset = 1 := by rw [hu17.2.1]
    have c17_1 : Try.prog.cellsOf 25 = 1 := by kernel_rfl
    have t17_2 : f17_2.type = 5 := by rw [hu17.2.2.1]
    have p17_2 : f17_2.offset = 2 := by rw [hu17.2.2.1]
    have c17_2 : Try.prog.cellsOf 5 = 1 := by kernel_rfl
    have t17_3 : f17_3.type = 53 := by rw [hu17.2.2.2]
    have p17_3 : f17_3.offset = 3 := by rw [hu17.2.2.2]
    have c17_3 : Try.prog.cellsOf 53 = 1 := by kernel_rfl
    obtain ⟨y17_0, y17_1, y17_2, y17_3, m17, _, _, h17_0, h17_1, h17_2, h17_3⟩ := trod_struct4 hs17 h
    rw [t17_0, p17_0, c17_0] at h17_0
    simp only [List.drop_zero, List.drop_succ_cons, List.take_succ_cons, List.take_zero] at h17_0
    obtain ⟨a18, e18, _, w18⟩ := DataW.trod_int Try.underlying5 h17_0
    simp only [List.cons.injEq, and_true] at e18
    subst e18
    rw [t17_1, p17_1, c17_1] at h17_1
    simp only [List.drop_zero, List.drop_succ_cons, List.take_succ_cons, List.take_zero] at h17_1
    obtain ⟨a19, e19, _, w19⟩ := DataW.trod_int Try.underlying25 h17_1
    simp only [List.cons.injEq, and_true] at e19
    subst e19
    rw [t17_2, p17_2, c17_2] at h17_2
    simp only [List.drop_zero, List.drop_succ_cons, List.take_succ_cons, List.take_zero] at h17_2
    obtain ⟨a20, e20, _, w20⟩ := DataW.trod_int Try.underlying5 h17_2
    simp only [List.cons.injEq, and_true] at e20
    subst e20
    rw [t17_3, p17_3, c17_3] at h17_3
    simp only [List.drop_zero, List.drop_succ_cons, List.take_succ_cons, List.take_zero] at h17_3
    obtain ⟨ad21, l21, cap21, e21, f21, R21⟩ := rowIn_of_trod Try.underlying53 (by kernel_rfl) (by decide) (fun n cs' x h hl => el_sp n cs' x h hl) h17_3
    simp only [List.cons.injEq, and_true] at e21
    subst e21
    exact ⟨⟨a18, a19, a20, l21⟩, (relK_v rfl (relK_v rfl (relK_v rfl (relK_z R21.cell relK_nil)))), (Nat.le_trans R21.le R21.max)⟩
theorem open_ms (hv : Value.okWide Try.prog w .any b0 39 v) (h : DataW.Trod enc Try.prog w base (fun _ => true) hd 39 v d p) : ∃ (y : Ms) (c0 : Nat) (c1 : Nat) (c2 : Nat) (c3 : Nat) (c4 : Nat) (c5 : Nat), (y.list.length ≤ c0 ∧ c0 ≤ maxLen) ∧ (y.table.length ≤ c1 ∧ c1 ≤ maxLen) ∧ (y.vals.length ≤ c2 ∧ c2 ≤ maxLen) ∧ (y.data.length ≤ c3 ∧ c3 ≤ maxLen) ∧ (y.marks.length ≤ c4 ∧ c4 ≤ maxLen) ∧ (y.ids.length ≤ c5 ∧ c5 ≤ maxLen) ∧ MsIn y ∧ ∀ ads, Rel (rhoOf w ads) (msS y c0 c1 c2 c3 c4 c5) v := by
  have hu := Try.underlying39
  obtain ⟨cs, rfl, hsz⟩ := okWide_struct hu hv
  have hsz : cs.size = 17 := hsz.trans (by kernel_rfl)
  obtain ⟨fuel, hf⟩ := h
  obtain ⟨l, rfl⟩ : ∃ l : List Value, cs = l.toArray := ⟨cs.toList, by simp⟩
  match l, hsz with
  | [z0, z1, z2, z3, z4, z5, z6, z7, z8, z9, z10, z11, z12, z13, z14, z15, z16], _ =>
    simp only [Value.cells] at hf
    have hu22 := Try.underlying39
    obtain ⟨f22_0, f22_1, f22_2, f22_3, f22_4, f22_5, f22_6, f22_7, f22_8, f22_9, f22_10, hs22⟩ : ∃ f22_0 f22_1 f22_2 f22_3 f22_4 f22_5 f22_6 f22_7 f22_8 f22_9 f22_10, Try.prog.underlying 39 = some (.struct #[f22_0, f22_1, f22_2, f22_3, f22_4, f22_5, f22_6, f22_7, f22_8, f22_9, f22_10]) := ⟨_, _, _, _, _, _, _, _, _, _, _, hu22⟩
    rw [hs22] at hu22
    simp at hu22
    have t22_0 : f22_0.type = 5 := by rw [hu22.1]
    have p22_0 : f22_0.offset = 0 := by rw [hu22.1]
    have c22_0 : Try.prog.cellsOf 5 = 1 := by kernel_rfl
    have t22_1 : f22_1.type = 5 := by rw [hu22.2.1]
    have p22_1 : f22_1.offset = 1 := by rw [hu22.2.1]
    have c22_1 : Try.prog.cellsOf 5 = 1 := by kernel_rfl
    have t22_2 : f22_2.type = 25 := by rw [hu22.2.2.1]
    have p22_2 : f22_2.offset = 2 := by rw [hu22.2.2.1]
    have c22_2 : Try.prog.cellsOf 25 = 1 := by kernel_rfl
    have t22_3 : f22_3.type = 5 := by rw [hu22.2.2.2.1]
    have p22_3 : f22_3.offset = 3 := by rw [hu22.2.2.2.1]
    have c22_3 : Try.prog.cellsOf 5 = 1 := by kernel_rfl
    have t22_4 : f22_4.type = 26 := by rw [hu22.2.2.2.2.1]
    have p22_4 : f22_4.offset = 4 := by rw [hu22.2.2.2.2.1]
    have c22_4 : Try.prog.cellsOf 26 = 1 := by kernel_rfl
    have t22_5 : f22_5.type = 27 := by rw [hu22.2.2.2.2.2.1]
    have p22_5 : f22_5.offset = 5 := by rw [hu22.2.2.2.2.2.1]
    have c22_5 : Try.prog.cellsOf 27 = 1 := by kernel_rfl
    have t22_6 : f22_6.type = 34 := by rw [hu22.2.2.2.2.2.2.1]
    have p22_6 : f22_6.offset = 6 := by rw [hu22.2.2.2.2.2.2.1]
    have c22_6 : Try.prog.cellsOf 34 = 5 := by kernel_rfl
    have t22_7 : f22_7.type = 5 := by rw [hu22.2.2.2.2.2.2.2.1]
    have p22_7 : f22_7.offset = 11 := by rw [hu22.2.2.2.2.2.2.2.1]
    have c22_7 : Try.prog.cellsOf 5 = 1 := by kernel_rfl
    have t22_8 : f22_8.type = 35 := by rw [hu22.2.2.2.2.2.2.2.2.1]
    have p22_8 : f22_8.offset = 12 := by rw [hu22.2.2.2.2.2.2.2.2.1]
    have c22_8 : Try.prog.cellsOf 35 = 3 := by kernel_rfl
    have t22_9 : f22_9.type = 36 := by rw [hu22.2.2.2.2.2.2.2.2.2.1]
    have p22_9 : f22_9.offset = 15 := by rw [hu22.2.2.2.2.2.2.2.2.2.1]
    have c22_9 : Try.prog.cellsOf 36 = 1 := by kernel_rfl
    have t22_10 : f22_10.type = 37 := by rw [hu22.2.2.2.2.2.2.2.2.2.2]
    have p22_10 : f22_10.offset = 16 := by rw [hu22.2.2.2.2.2.2.2.2.2.2]
    have c22_10 : Try.prog.cellsOf 37 = 1 := by kernel_rfl
    obtain ⟨y22_0, y22_1, y22_2, y22_3, y22_4, y22_5, y22_6, y22_7, y22_8, y22_9, y22_10, m22, _, _, h22_0, h22_1, h22_2, h22_3, h22_4, h22_5, h22_6, h22_7, h22_8, h22_9, h22_10⟩ := trod_struct11 hs22 hf
    rw [t22_0, p22_0, c22_0] at h22_0
    simp only [List.drop_zero, List.drop_succ_cons, List.take_succ_cons, List.take_zero] at h22_0
    obtain ⟨a23, e23, _, w23⟩ := DataW.trod_int Try.underlying5 h22_0
    simp only [List.cons.injEq, and_true] at e23
    subst e23
    rw [t22_1, p22_1, c22_1] at h22_1
    simp only [List.drop_zero, List.drop_succ_cons, List.take_succ_cons, List.take_zero] at h22_1
    obtain ⟨a24, e24, _, w24⟩ := DataW.trod_int Try.underlying5 h22_1
    simp only [List.cons.injEq, and_true] at e24
    subst e24
    rw [t22_2, p22_2, c22_2] at h22_2
    simp only [List.drop_zero, List.drop_succ_cons, List.take_succ_cons, List.take_zero] at h22_2
    obtain ⟨a25, e25, _, w25⟩ := DataW.trod_int Try.underlying25 h22_2
    simp only [List.cons.injEq, and_true] at e25
    subst e25
    rw [t22_3, p22_3, c22_3] at h22_3
    simp only [List.drop_zero, List.drop_succ_cons, List.take_succ_cons, List.take_zero] at h22_3
    obtain ⟨a26, e26, _, w26⟩ := DataW.trod_int Try.underlying5 h22_3
    simp only [List.cons.injEq, and_true] at e26
    subst e26
    rw [t22_4, p22_4, c22_4] at h22_4
    simp only [List.drop_zero, List.drop_succ_cons, List.take_succ_cons, List.take_zero] at h22_4
    obtain ⟨ad27, l27, cap27, e27, f27, R27⟩ := rowIn_of_trod Try.underlying26 (by kernel_rfl) (by decide) (fun n cs' x h hl => el_de n cs' x h hl) h22_4
    simp only [List.cons.injEq, and_true] at e27
    subst e27
    rw [t22_5, p22_5, c22_5] at h22_5
    simp only [List.drop_zero, List.drop_succ_cons, List.take_succ_cons, List.take_zero] at h22_5
    obtain ⟨ad28, l28, cap28, e28, f28, R28⟩ := rowIn_of_trod Try.underlying27 (by kernel_rfl) (by decide) (fun n cs' x h hl => el_mb n cs' x h hl) h22_5
    simp only [List.cons.injEq, and_true] at e28
    subst e28
    rw [t22_6, p22_6, c22_6] at h22_6
    simp only [List.drop_zero, List.drop_succ_cons, List.take_succ_cons, List.take_zero] at h22_6
    have hu29 := Try.underlying34
    obtain ⟨f29_0, f29_1, f29_2, hs29⟩ : ∃ f29_0 f29_1 f29_2, Try.prog.underlying 34 = some (.struct #[f29_0, f29_1, f29_2]) := ⟨_, _, _, hu29⟩
    rw [hs29] at hu29
    simp at hu29
    have t29_0 : f29_0.type = 30 := by rw [hu29.1]
    have p29_0 : f29_0.offset = 0 := by rw [hu29.1]
    have c29_0 : Try.prog.cellsOf 30 = 3 := by kernel_rfl
    have t29_1 : f29_1.type = 31 := by rw [hu29.2.1]
    have p29_1 : f29_1.offset = 3 := by rw [hu29.2.1]
    have c29_1 : Try.prog.cellsOf 31 = 1 := by kernel_rfl
    have t29_2 : f29_2.type = 32 := by rw [hu29.2.2]
    have p29_2 : f29_2.offset = 4 := by rw [hu29.2.2]
    have c29_2 : Try.prog.cellsOf 32 = 1 := by kernel_rfl
    obtain ⟨y29_0, y29_1, y29_2, m29, _, _, h29_0, h29_1, h29_2⟩ := trod_struct3 hs29 h22_6
    rw [t29_0, p29_0, c29_0] at h29_0
    simp only [List.drop_zero, List.drop_succ_cons, List.take_succ_cons, List.take_zero] at h29_0
    have hu30 := Try.underlying30
    obtain ⟨f30_0, f30_1, f30_2, hs30⟩ : ∃ f30_0 f30_1 f30_2, Try.prog.underlying 30 = some (.struct #[f30_0, f30_1, f30_2]) := ⟨_, _, _, hu30⟩
    rw [hs30] at hu30
    simp at hu30
    have t30_0 : f30_0.type = 5 := by rw [hu30.1]
    have p30_0 : f30_0.offset = 0 := by rw [hu30.1]
    have c30_0 : Try.prog.cellsOf 5 = 1 := by kernel_rfl
    have t30_1 : f30_1.type = 25 := by rw [hu30.2.1]
    have p30_1 : f30_1.offset = 1 := by rw [hu30.2.1]
    have c30_1 : Try.prog.cellsOf 25 = 1 := by kernel_rfl
    have t30_2 : f30_2.type = 28 := by rw [hu30.2.2]
    have p30_2 : f30_2.offset = 2 := by rw [hu30.2.2]
    have c30_2 : Try.prog.cellsOf 28 = 1 := by kernel_rfl
    obtain ⟨y30_0, y30_1, y30_2, m30, _, _, h30_0, h30_1, h30_2⟩ := trod_struct3 hs30 h29_0
    rw [t30_0, p30_0, c30_0] at h30_0
    simp only [List.drop_zero, List.drop_succ_cons, List.take_succ_cons, List.take_zero] at h30_0
    obtain ⟨a31, e31, _, w31⟩ := DataW.trod_int Try.underlying5 h30_0
    simp only [List.cons.injEq, and_true] at e31
    subst e31
    rw [t30_1, p30_1, c30_1] at h30_1
    simp only [List.drop_zero, List.drop_succ_cons, List.take_succ_cons, List.take_zero] at h30_1
    obtain ⟨a32, e32, _, w32⟩ := DataW.trod_int Try.underlying25 h30_1
    simp only [List.cons.injEq, and_true] at e32
    subst e32
    rw [t30_2, p30_2, c30_2] at h30_2
    simp only [List.drop_zero, List.drop_succ_cons, List.take_succ_cons, List.take_zero] at h30_2
    obtain ⟨a33, e33, _, w33⟩ := DataW.trod_int Try.underlying28 h30_2
    simp only [List.cons.injEq, and_true] at e33
    subst e33
    rw [t29_1, p29_1, c29_1] at h29_1
    simp only [List.drop_zero, List.drop_succ_cons, List.take_succ_cons, List.take_zero] at h29_1
    obtain ⟨ad34, l34, cap34, e34, f34, R34⟩ := rowIn_of_trod Try.underlying31 (by kernel_rfl) (by decide) (fun n cs' x h hl => el_i4 n cs' x h hl) h29_1
    simp only [List.cons.injEq, and_true] at e34
    subst e34
    rw [t29_2, p29_2, c29_2] at h29_2
    simp only [List.drop_zero, List.drop_succ_cons, List.take_succ_cons, List.take_zero] at h29_2
    obtain ⟨ad35, l35, cap35, e35, f35, R35⟩ := rowIn_of_trod Try.underlying32 (by kernel_rfl) (by decide) (fun n cs' x h hl => el_u1 n cs' x h hl) h29_2
    simp only [List.cons.injEq, and_true] at e35
    subst e35
    rw [t22_7, p22_7, c22_7] at h22_7
    simp only [List.drop_zero, List.drop_succ_cons, List.take_succ_cons, List.take_zero] at h22_7
    obtain ⟨a36, e36, _, w36⟩ := DataW.trod_int Try.underlying5 h22_7
    simp only [List.cons.injEq, and_true] at e36
    subst e36
    rw [t22_8, p22_8, c22_8] at h22_8
    simp only [List.drop_zero, List.drop_succ_cons, List.take_succ_cons, List.take_zero] at h22_8
    have hu37 := Try.underlying35
    obtain ⟨f37_0, f37_1, f37_2, hs37⟩ : ∃ f37_0 f37_1 f37_2, Try.prog.underlying 35 = some (.struct #[f37_0, f37_1, f37_2]) := ⟨_, _, _, hu37⟩
    rw [hs37] at hu37
    simp at hu37
    have t37_0 : f37_0.type = 5 := by rw [hu37.1]
    have p37_0 : f37_0.offset = 0 := by rw [hu37.1]
    have c37_0 : Try.prog.cellsOf 5 = 1 := by kernel_rfl
    have t37_1 : f37_1.type = 25 := by rw [hu37.2.1]
    have p37_1 : f37_1.offset = 1 := by rw [hu37.2.1]
    have c37_1 : Try.prog.cellsOf 25 = 1 := by kernel_rfl
    have t37_2 : f37_2.type = 28 := by rw [hu37.2.2]
    have p37_2 : f37_2.offset = 2 := by rw [hu37.2.2]
    have c37_2 : Try.prog.cellsOf 28 = 1 := by kernel_rfl
    obtain ⟨y37_0, y37_1, y37_2, m37, _, _, h37_0, h37_1, h37_2⟩ := trod_struct3 hs37 h22_8
    rw [t37_0, p37_0, c37_0] at h37_0
    simp only [List.drop_zero, List.drop_succ_cons, List.take_succ_cons, List.take_zero] at h37_0
    obtain ⟨a38, e38, _, w38⟩ := DataW.trod_int Try.underlying5 h37_0
    simp only [List.cons.injEq, and_true] at e38
    subst e38
    rw [t37_1, p37_1, c37_1] at h37_1
    simp only [List.drop_zero, List.drop_succ_cons, List.take_succ_cons, List.take_zero] at h37_1
    obtain ⟨a39, e39, _, w39⟩ := DataW.trod_int Try.underlying25 h37_1
    simp only [List.cons.injEq, and_true] at e39
    subst e39
    rw [t37_2, p37_2, c37_2] at h37_2
    simp only [List.drop_zero, List.drop_succ_cons, List.take_succ_cons, List.take_zero] at h37_2
    obtain ⟨a40, e40, _, w40⟩ := DataW.trod_int Try.underlying28 h37_2
    simp only [List.cons.injEq, and_true] at e40
    subst e40
    rw [t22_9, p22_9, c22_9] at h22_9
    simp only [List.drop_zero, List.drop_succ_cons, List.take_succ_cons, List.take_zero] at h22_9
    obtain ⟨ad41, l41, cap41, e41, f41, R41⟩ := rowIn_of_trod Try.underlying36 (by kernel_rfl) (by decide) (fun n cs' x h hl => el_mk n cs' x h hl) h22_9
    simp only [List.cons.injEq, and_true] at e41
    subst e41
    rw [t22_10, p22_10, c22_10] at h22_10
    simp only [List.drop_zero, List.drop_succ_cons, List.take_succ_cons, List.take_zero] at h22_10
    obtain ⟨ad42, l42, cap42, e42, f42, R42⟩ := rowIn_of_trod Try.underlying37 (by kernel_rfl) (by decide) (fun n cs' x h hl => el_id n cs' x h hl) h22_10
    simp only [List.cons.injEq, and_true] at e42
    subst e42
    exact ⟨⟨a23, a24, a25, a26, l27, l28, ⟨a31, a32, a33⟩, l34, l35, a36, ⟨a38, a39, a40⟩, l41, l42⟩, cap27, cap28, cap34, cap35, cap41, cap42, ⟨R27.le, R27.max⟩, ⟨R28.le, R28.max⟩, ⟨R34.le, R34.max⟩, ⟨R35.le, R35.max⟩, ⟨R41.le, R41.max⟩, ⟨R42.le, R42.max⟩, ⟨(Nat.le_trans R27.le R27.max), f27, (Nat.le_trans R28.le R28.max), (Nat.le_trans R34.le R34.max), (Nat.le_trans R35.le R35.max), (Nat.le_trans R41.le R41.max), (Nat.le_trans R42.le R42.max)⟩, fun ads => rel_ev (relL_cons (rel_c rfl) (relL_cons (rel_c rfl) (relL_cons (rel_c rfl) (relL_cons (rel_c rfl) (relL_cons (rel_z R27) (relL_cons (rel_z R28) (relL_cons (rel_c rfl) (relL_cons (rel_c rfl) (relL_cons (rel_c rfl) (relL_cons (rel_z R34) (relL_cons (rel_z R35) (relL_cons (rel_c rfl) (relL_cons (rel_c rfl) (relL_cons (rel_c rfl) (relL_cons (rel_c rfl) (relL_cons (rel_z R41) (relL_cons (rel_z R42) relL_nil)))))))))))))))))⟩
theorem open_u8 (hv : Value.okWide Try.prog w .any b0 5 v) (h : DataW.Trod enc Try.prog w base (fun _ => true) hd 5 v d p) : ∃ a : Int, v = .int .u8 a ∧ 0 ≤ a ∧ a ≤ 255 := by
  obtain ⟨a, rfl, _, _, wa⟩ := open_int Try.underlying5 hv h
  have := bounds_u8 wa
  exact ⟨a, rfl, this.1, this.2⟩
theorem open_u16 (hv : Value.okWide Try.prog w .any b0 25 v) (h : DataW.Trod enc Try.prog w base (fun _ => true) hd 25 v d p) : ∃ a : Int, v = .int .u16 a ∧ 0 ≤ a ∧ a ≤ 65535 := by
  obtain ⟨a, rfl, _, _, wa⟩ := open_int Try.underlying25 hv h
  have := bounds_u16 wa
  exact ⟨a, rfl, this.1, this.2⟩
theorem open_i64 (hv : Value.okWide Try.prog w .any b0 3 v) (h : DataW.Trod enc Try.prog w base (fun _ => true) hd 3 v d p) : ∃ a : Int, v = .int .i64 a ∧ -9223372036854775808 ≤ a ∧ a ≤ 9223372036854775807 := by
  obtain ⟨a, rfl, _, _, wa⟩ := open_int Try.underlying3 hv h
  have := bounds_i64 wa
  exact ⟨a, rfl, this.1, this.2⟩
end
/-- A world for the witnesses: the package-level variables hold what the program's text lays. -/
noncomputable def witW (os : Os) : World :=
  World.holding Try.prog os ⟨#[], #[], []⟩
end Go.Proofs.Ytkcdomafdjpbjaa
