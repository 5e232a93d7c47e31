/- How the arguments of the laws are opened, and the world of their witnesses. -/
import Derived.Test.YtcjcnlahieddoaaK18h
import Derived.Test.YtcjcnlahieddoaaSymX
import Derived.Lib.SmallJoins
namespace Go.Proofs.Ytcjcnlahieddoaa
open Go.RowKit Go.ChangeShapes Go.WideShapes Go.ChangeAt Go.Joins Go.Deep

section
variable {H : Type} {enc : TypeId × Value → H} {w : World} {b0 base : Nat} {sp : Nat → Bool} {hd : Bool} {v : Value} {d : DataW H} {p : List MemPlace}
theorem open_u8 (hv : Value.okWide Try.prog w .any b0 5 v) (h : DataW.Trod enc Try.prog w base sp hd 5 v d p) : ∃ a : Int, v = .int .u8 a ∧ 0 ≤ a ∧ a ≤ 255 := by
  obtain ⟨a, rfl, _, _, wa⟩ := open_int Try.underlying5 hv h
  have := bounds_u8 wa
  exact ⟨a, rfl, this.1, this.2⟩
theorem open_i64 (hv : Value.okWide Try.prog w .any b0 3 v) (h : DataW.Trod enc Try.prog w base sp hd 3 v d p) : ∃ a : Int, v = .int .i64 a ∧ -9223372036854775808 ≤ a ∧ a ≤ 9223372036854775807 := by
  obtain ⟨a, rfl, _, _, wa⟩ := open_int Try.underlying3 hv h
  have := bounds_i64 wa
  exact ⟨a, rfl, this.1, this.2⟩
abbrev askV (a : Ask_) : Value := .agg #[.int .u8 a.id.n, .int .u16 a.id.i, .int .u32 a.id.s, .int .u8 a.fr, .int .u8 a.lf]
instance : Inhabited Ask_ := ⟨⟨⟨0, 0, 0⟩, 0, 0⟩⟩
theorem askC_ok (y : Ask_) : CellsOK 5 (askC y) := ⟨rfl, fun u hu => by simp [askC] at hu; rcases hu with rfl | rfl | rfl | rfl | rfl <;> rfl⟩
theorem el_ask (n : Nat) (cs' : List Value) (x : DataW H × List MemPlace) (h : DataW.trod enc Try.prog w base sp hd n 28 cs' = some x) (hl : cs'.length = 5) : ∃ y : Ask_, cs' = askC y ∧ Ask_.ok y := by
  match cs', hl with
  | [z0, z1, z2, z3, z4], _ =>
    have hu0 := Try.underlying28
    obtain ⟨f0_0, f0_1, f0_2, hs0⟩ : ∃ f0_0 f0_1 f0_2, Try.prog.underlying 28 = some (.struct #[f0_0, f0_1, f0_2]) := ⟨_, _, _, hu0⟩
    rw [hs0] at hu0
    simp at hu0
    have t0_0 : f0_0.type = 26 := by rw [hu0.1]
    have p0_0 : f0_0.offset = 0 := by rw [hu0.1]
    have c0_0 : Try.prog.cellsOf 26 = 3 := by kernel_rfl
    have t0_1 : f0_1.type = 5 := by rw [hu0.2.1]
    have p0_1 : f0_1.offset = 3 := by rw [hu0.2.1]
    have c0_1 : Try.prog.cellsOf 5 = 1 := by kernel_rfl
    have t0_2 : f0_2.type = 5 := by rw [hu0.2.2]
    have p0_2 : f0_2.offset = 4 := by rw [hu0.2.2]
    have c0_2 : Try.prog.cellsOf 5 = 1 := by kernel_rfl
    obtain ⟨y0_0, y0_1, y0_2, m0, _, _, h0_0, h0_1, h0_2⟩ := trod_struct3 hs0 h
    rw [t0_0, p0_0, c0_0] at h0_0
    simp only [List.drop_zero, List.drop_succ_cons, List.take_succ_cons, List.take_zero] at h0_0
    have hu1 := Try.underlying26
    obtain ⟨f1_0, f1_1, f1_2, hs1⟩ : ∃ f1_0 f1_1 f1_2, Try.prog.underlying 26 = some (.struct #[f1_0, f1_1, f1_2]) := ⟨_, _, _, hu1⟩
    rw [hs1] at hu1
    simp at hu1
    have t1_0 : f1_0.type = 5 := by rw [hu1.1]
    have p1_0 : f1_0.offset = 0 := by rw [hu1.1]
    have c1_0 : Try.prog.cellsOf 5 = 1 := by kernel_rfl
    have t1_1 : f1_1.type = 23 := by rw [hu1.2.1]
    have p1_1 : f1_1.offset = 1 := by rw [hu1.2.1]
    have c1_1 : Try.prog.cellsOf 23 = 1 := by kernel_rfl
    have t1_2 : f1_2.type = 24 := by rw [hu1.2.2]
    have p1_2 : f1_2.offset = 2 := by rw [hu1.2.2]
    have c1_2 : Try.prog.cellsOf 24 = 1 := by kernel_rfl
    obtain ⟨y1_0, y1_1, y1_2, m1, _, _, h1_0, h1_1, h1_2⟩ := trod_struct3 hs1 h0_0
    rw [t1_0, p1_0, c1_0] at h1_0
    simp only [List.drop_zero, List.drop_succ_cons, List.take_succ_cons, List.take_zero] at h1_0
    obtain ⟨a2, e2, _, w2⟩ := DataW.trod_int Try.underlying5 h1_0
    simp only [List.cons.injEq, and_true] at e2
    subst e2
    rw [t1_1, p1_1, c1_1] at h1_1
    simp only [List.drop_zero, List.drop_succ_cons, List.take_succ_cons, List.take_zero] at h1_1
    obtain ⟨a3, e3, _, w3⟩ := DataW.trod_int Try.underlying23 h1_1
    simp only [List.cons.injEq, and_true] at e3
    subst e3
    rw [t1_2, p1_2, c1_2] at h1_2
    simp only [List.drop_zero, List.drop_succ_cons, List.take_succ_cons, List.take_zero] at h1_2
    obtain ⟨a4, e4, _, w4⟩ := DataW.trod_int Try.underlying24 h1_2
    simp only [List.cons.injEq, and_true] at e4
    subst e4
    rw [t0_1, p0_1, c0_1] at h0_1
    simp only [List.drop_zero, List.drop_succ_cons, List.take_succ_cons, List.take_zero] at h0_1
    obtain ⟨a5, e5, _, w5⟩ := DataW.trod_int Try.underlying5 h0_1
    simp only [List.cons.injEq, and_true] at e5
    subst e5
    rw [t0_2, p0_2, c0_2] at h0_2
    simp only [List.drop_zero, List.drop_succ_cons, List.take_succ_cons, List.take_zero] at h0_2
    obtain ⟨a6, e6, _, w6⟩ := DataW.trod_int Try.underlying5 h0_2
    simp only [List.cons.injEq, and_true] at e6
    subst e6
    exact ⟨⟨⟨a2, a3, a4⟩, a5, a6⟩, rfl, ⟨⟨(bounds_u8 w2).1, Int.lt_add_one_of_le (bounds_u8 w2).2, (bounds_u16 w3).1, Int.lt_add_one_of_le (bounds_u16 w3).2, (bounds_u32 w4).1, Int.lt_add_one_of_le (bounds_u32 w4).2⟩, (bounds_u8 w5).1, (bounds_u8 w5).2, (bounds_u8 w6).1, (bounds_u8 w6).2⟩⟩
theorem open_ask (hv : Value.okWide Try.prog w .any b0 28 v) (h : DataW.Trod enc Try.prog w base sp hd 28 v d p) : ∃ y : Ask_, v = askV y ∧ Ask_.ok y := by
  have hu := Try.underlying28
  obtain ⟨cs, rfl, hsz⟩ := okWide_struct hu hv
  have hsz : cs.size = 5 := hsz.trans (by kernel_rfl)
  obtain ⟨fuel, hf⟩ := h
  obtain ⟨l, rfl⟩ : ∃ l : List Value, cs = l.toArray := ⟨cs.toList, by simp⟩
  match l, hsz with
  | [z0, z1, z2, z3, z4], _ =>
    simp only [Value.cells] at hf
    have hu7 := Try.underlying28
    obtain ⟨f7_0, f7_1, f7_2, hs7⟩ : ∃ f7_0 f7_1 f7_2, Try.prog.underlying 28 = some (.struct #[f7_0, f7_1, f7_2]) := ⟨_, _, _, hu7⟩
    rw [hs7] at hu7
    simp at hu7
    have t7_0 : f7_0.type = 26 := by rw [hu7.1]
    have p7_0 : f7_0.offset = 0 := by rw [hu7.1]
    have c7_0 : Try.prog.cellsOf 26 = 3 := by kernel_rfl
    have t7_1 : f7_1.type = 5 := by rw [hu7.2.1]
    have p7_1 : f7_1.offset = 3 := by rw [hu7.2.1]
    have c7_1 : Try.prog.cellsOf 5 = 1 := by kernel_rfl
    have t7_2 : f7_2.type = 5 := by rw [hu7.2.2]
    have p7_2 : f7_2.offset = 4 := by rw [hu7.2.2]
    have c7_2 : Try.prog.cellsOf 5 = 1 := by kernel_rfl
    obtain ⟨y7_0, y7_1, y7_2, m7, _, _, h7_0, h7_1, h7_2⟩ := trod_struct3 hs7 hf
    rw [t7_0, p7_0, c7_0] at h7_0
    simp only [List.drop_zero, List.drop_succ_cons, List.take_succ_cons, List.take_zero] at h7_0
    have hu8 := Try.underlying26
    obtain ⟨f8_0, f8_1, f8_2, hs8⟩ : ∃ f8_0 f8_1 f8_2, Try.prog.underlying 26 = some (.struct #[f8_0, f8_1, f8_2]) := ⟨_, _, _, hu8⟩
    rw [hs8] at hu8
    simp at hu8
    have t8_0 : f8_0.type = 5 := by rw [hu8.1]
    have p8_0 : f8_0.offset = 0 := by rw [hu8.1]
    have c8_0 : Try.prog.cellsOf 5 = 1 := by kernel_rfl
    have t8_1 : f8_1.type = 23 := by rw [hu8.2.1]
    have p8_1 : f8_1.offset = 1 := by rw [hu8.2.1]
    have c8_1 : Try.prog.cellsOf 23 = 1 := by kernel_rfl
    have t8_2 : f8_2.type = 24 := by rw [hu8.2.2]
    have p8_2 : f8_2.offset = 2 := by rw [hu8.2.2]
    have c8_2 : Try.prog.cellsOf 24 = 1 := by kernel_rfl
    obtain ⟨y8_0, y8_1, y8_2, m8, _, _, h8_0, h8_1, h8_2⟩ := trod_struct3 hs8 h7_0
    rw [t8_0, p8_0, c8_0] at h8_0
    simp only [List.drop_zero, List.drop_succ_cons, List.take_succ_cons, List.take_zero] at h8_0
    obtain ⟨a9, e9, _, w9⟩ := DataW.trod_int Try.underlying5 h8_0
    simp only [List.cons.injEq, and_true] at e9
    subst e9
    rw [t8_1, p8_1, c8_1] at h8_1
    simp only [List.drop_zero, List.drop_succ_cons, List.take_succ_cons, List.take_zero] at h8_1
    obtain ⟨a10, e10, _, w10⟩ := DataW.trod_int Try.underlying23 h8_1
    simp only [List.cons.injEq, and_true] at e10
    subst e10
    rw [t8_2, p8_2, c8_2] at h8_2
    simp only [List.drop_zero, List.drop_succ_cons, List.take_succ_cons, List.take_zero] at h8_2
    obtain ⟨a11, e11, _, w11⟩ := DataW.trod_int Try.underlying24 h8_2
    simp only [List.cons.injEq, and_true] at e11
    subst e11
    rw [t7_1, p7_1, c7_1] at h7_1
    simp only [List.drop_zero, List.drop_succ_cons, List.take_succ_cons, List.take_zero] at h7_1
    obtain ⟨a12, e12, _, w12⟩ := DataW.trod_int Try.underlying5 h7_1
    simp only [List.cons.injEq, and_true] at e12
    subst e12
    rw [t7_2, p7_2, c7_2] at h7_2
    simp only [List.drop_zero, List.drop_succ_cons, List.take_succ_cons, List.take_zero] at h7_2
    obtain ⟨a13, e13, _, w13⟩ := DataW.trod_int Try.underlying5 h7_2
    simp only [List.cons.injEq, and_true] at e13
    subst e13
    exact ⟨⟨⟨a9, a10, a11⟩, a12, a13⟩, rfl, ⟨⟨(bounds_u8 w9).1, Int.lt_add_one_of_le (bounds_u8 w9).2, (bounds_u16 w10).1, Int.lt_add_one_of_le (bounds_u16 w10).2, (bounds_u32 w11).1, Int.lt_add_one_of_le (bounds_u32 w11).2⟩, (bounds_u8 w12).1, (bounds_u8 w12).2, (bounds_u8 w13).1, (bounds_u8 w13).2⟩⟩
theorem open_asks (hv : Value.okWide Try.prog w .any b0 22 v) (h : DataW.Trod enc Try.prog w base (fun _ => true) hd 22 v d p) :
    ∃ (ad : Option Addr) (l : List (Ask_)) (cap : Nat), v = .slice ad l.length cap ∧ (∀ y ∈ l, Ask_.ok y) ∧ RowIn w ad l.length cap 5 (l.map askC) :=
  rowIn_arg Try.underlying22 (by kernel_rfl) (by decide) askC_ok (fun n cs' x h hl => el_ask n cs' x h hl) hv h
end
/-- A world for the witnesses: the package-level variables hold what the program's text lays. -/
noncomputable def witW (os : Os) : World :=
  World.holding Try.prog os ⟨#[], #[], []⟩
end Go.Proofs.Ytcjcnlahieddoaa
