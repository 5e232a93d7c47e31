/- How the arguments of the laws of package schema are opened, and the world of their witnesses. -/
import Derived.Test.YthcofkeiffpiiaaC03e
import Derived.Test.YthcofkeiffpiiaaSymX
import Derived.Lib.SmallJoins
namespace Go.Proofs.Ythcofkeiffpiiaa
open Go.RowKit Go.ChangeShapes Go.WideShapes Go.ChangeAt Go.Joins Go.Deep

section
variable {H : Type} {enc : TypeId × Value → H} {w : World} {b0 base : Nat} {sp : Nat → Bool} {hd : Bool} {v : Value} {d : DataW H} {p : List MemPlace}
theorem open_u8 (hv : Value.okWide Try.prog w .any b0 5 v) (h : DataW.Trod enc Try.prog w base sp hd 5 v d p) : ∃ a : Int, v = .int .u8 a ∧ 0 ≤ a ∧ a ≤ 255 := by
  obtain ⟨a, rfl, _, _, wa⟩ := open_int Try.underlying5 hv h
  have := bounds_u8 wa
  exact ⟨a, rfl, this.1, this.2⟩
def spOk (x : Sp_) : Prop := (-2147483648 ≤ x.a ∧ x.a ≤ 2147483647) ∧ (-2147483648 ≤ x.b ∧ x.b ≤ 2147483647)
theorem el_sp (n : Nat) (cs' : List Value) (x : DataW H × List MemPlace) (h : DataW.trod enc Try.prog w base sp hd n 44 cs' = some x) (hl : cs'.length = 2) : ∃ y : Sp_, cs' = spC y ∧ spOk y := by
  obtain ⟨f0, f1, hs, hone⟩ : ∃ f0 f1, Try.prog.underlying 44 = some (.struct #[f0, f1]) ∧ oneCellFields Try.prog #[f0, f1] = true := ⟨_, _, Try.underlying44, by kernel_rfl⟩
  have t0 : f0.type = 21 := by have := Try.underlying44; rw [hs] at this; simp at this; rw [this.1]
  have t1 : f1.type = 21 := by have := Try.underlying44; rw [hs] at this; simp at this; rw [this.2]
  obtain ⟨y0, y1, m, _, _, h0, h1⟩ := trod_struct2 hs h
  obtain ⟨o0, k0⟩ := hone_of hone 0 f0 rfl
  obtain ⟨o1, k1⟩ := hone_of hone 1 f1 rfl
  rw [t0] at h0 k0
  rw [t1] at h1 k1
  match cs', hl with
  | [c0, c1], _ =>
    rw [o0, k0] at h0
    rw [o1, k1] at h1
    obtain ⟨a, e0, _, wa⟩ := DataW.trod_int Try.underlying21 h0
    obtain ⟨b, e1, _, wb⟩ := DataW.trod_int Try.underlying21 h1
    simp only [List.drop_zero, List.take_succ_cons, List.take_zero, List.cons.injEq, and_true, List.drop_succ_cons] at e0 e1
    subst e0; subst e1
    exact ⟨⟨a, b⟩, rfl, bounds_i32 wa, bounds_i32 wb⟩
def iOk (x : Int) : Prop := -2147483648 ≤ x ∧ x ≤ 2147483647
def bOk (x : Int) : Prop := 0 ≤ x ∧ x ≤ 255
theorem el_i (n : Nat) (cs' : List Value) (x : DataW H × List MemPlace) (h : DataW.trod enc Try.prog w base sp hd n 21 cs' = some x) (_ : cs'.length = 1) : ∃ y : Int, cs' = iC y ∧ iOk y := by
  obtain ⟨a, rfl, _, wa⟩ := DataW.trod_int Try.underlying21 h
  exact ⟨a, rfl, bounds_i32 wa⟩
theorem el_b (n : Nat) (cs' : List Value) (x : DataW H × List MemPlace) (h : DataW.trod enc Try.prog w base sp hd n 5 cs' = some x) (_ : cs'.length = 1) : ∃ y : Int, cs' = bC y ∧ bOk y := by
  obtain ⟨a, rfl, _, wa⟩ := DataW.trod_int Try.underlying5 h
  exact ⟨a, rfl, bounds_u8 wa⟩
theorem spC_ok (y : Sp_) : CellsOK 2 (spC y) := ⟨rfl, fun u hu => by simp [spC] at hu; rcases hu with rfl | rfl <;> rfl⟩
theorem iC_ok (y : Int) : CellsOK 1 (iC y) := ⟨rfl, fun u hu => by simp [iC] at hu; subst hu; rfl⟩
theorem bC_ok (y : Int) : CellsOK 1 (bC y) := ⟨rfl, fun u hu => by simp [bC] at hu; subst hu; rfl⟩
theorem open_schema (hv : Value.okWide Try.prog w .any b0 23 v) (h : DataW.Trod enc Try.prog w base (fun _ => true) hd 23 v d p) :
    ∃ (ad : Option Addr) (l : List Sp_) (cap : Nat), v = .slice ad l.length cap ∧ (∀ y ∈ l, spOk y) ∧ RowIn w ad l.length cap 2 (l.map spC) :=
  rowIn_arg Try.underlying23 (by kernel_rfl) (by decide) spC_ok (fun n cs' x h hl => el_sp n cs' x h hl) hv h
theorem open_spans (hv : Value.okWide Try.prog w .any b0 22 v) (h : DataW.Trod enc Try.prog w base (fun _ => true) hd 22 v d p) :
    ∃ (ad : Option Addr) (l : List Sp_) (cap : Nat), v = .slice ad l.length cap ∧ (∀ y ∈ l, spOk y) ∧ RowIn w ad l.length cap 2 (l.map spC) :=
  rowIn_arg Try.underlying22 (by kernel_rfl) (by decide) spC_ok (fun n cs' x h hl => el_sp n cs' x h hl) hv h
theorem open_vals (hv : Value.okWide Try.prog w .any b0 28 v) (h : DataW.Trod enc Try.prog w base (fun _ => true) hd 28 v d p) :
    ∃ (ad : Option Addr) (l : List Int) (cap : Nat), v = .slice ad l.length cap ∧ (∀ y ∈ l, iOk y) ∧ RowIn w ad l.length cap 1 (l.map iC) :=
  rowIn_arg Try.underlying28 (by kernel_rfl) (by decide) iC_ok (fun n cs' x h hl => el_i n cs' x h hl) hv h
theorem open_ev (hv : Value.okWide Try.prog w .any b0 31 v) (h : DataW.Trod enc Try.prog w base (fun _ => true) hd 31 v d p) :
    ∃ (e : Ev_) (a1 a2 : Option Addr) (c1 c2 : Nat), v = .agg #[.int .u8 e.n, .int .u16 e.i, .int .u32 e.s, .slice a1 e.v.length c1, .slice a2 e.d.length c2] ∧ RowIn w a1 e.v.length c1 1 (e.v.map iC) ∧ RowIn w a2 e.d.length c2 1 (e.d.map bC) ∧
      ((0 ≤ e.n ∧ e.n ≤ 255) ∧ (0 ≤ e.i ∧ e.i ≤ 65535) ∧ (0 ≤ e.s ∧ e.s ≤ 4294967295)) ∧ (∀ x ∈ e.v, -2147483648 ≤ x ∧ x ≤ 2147483647) ∧ (∀ x ∈ e.d, 0 ≤ x ∧ x ≤ 255) := by
  have hu := Try.underlying31
  have hui := Try.underlying27
  obtain ⟨f0, f1, f2, hs⟩ : ∃ f0 f1 f2, Try.prog.underlying 31 = some (.struct #[f0, f1, f2]) := ⟨_, _, _, hu⟩
  rw [hs] at hu
  simp at hu
  have t0 : f0.type = 27 := by rw [hu.1]
  have t1 : f1.type = 28 := by rw [hu.2.1]
  have t2 : f2.type = 29 := by rw [hu.2.2]
  have p0 : f0.offset = 0 := by rw [hu.1]
  have p1 : f1.offset = 3 := by rw [hu.2.1]
  have p2 : f2.offset = 4 := by rw [hu.2.2]
  have c0 : Try.prog.cellsOf 27 = 3 := by kernel_rfl
  have c1 : Try.prog.cellsOf 28 = 1 := by kernel_rfl
  have c2 : Try.prog.cellsOf 29 = 1 := by kernel_rfl
  obtain ⟨cs, rfl, hsz⟩ := okWide_struct hs hv
  have hsz : cs.size = 5 := hsz.trans (by kernel_rfl)
  obtain ⟨fuel, hf⟩ := h
  obtain ⟨y0, y1, y2, m, _, _, h0, h1, h2⟩ := trod_struct3 hs hf
  rw [t0, p0, c0] at h0
  rw [t1, p1, c1] at h1
  rw [t2, p2, c2] at h2
  obtain ⟨l, rfl⟩ : ∃ l : List Value, cs = l.toArray := ⟨cs.toList, by simp⟩
  match l, hsz with
  | [v0, v1, v2, v3, v4], _ =>
    simp only [Value.cells, List.drop_zero, List.drop_succ_cons, List.take_succ_cons, List.take_zero] at h0 h1 h2
    obtain ⟨g0, g1, g2, gs, hone⟩ : ∃ g0 g1 g2, Try.prog.underlying 27 = some (.struct #[g0, g1, g2]) ∧ oneCellFields Try.prog #[g0, g1, g2] = true := ⟨_, _, _, hui, by kernel_rfl⟩
    rw [gs] at hui
    simp at hui
    have s0 : g0.type = 5 := by rw [hui.1]
    have s1 : g1.type = 24 := by rw [hui.2.1]
    have s2 : g2.type = 25 := by rw [hui.2.2]
    obtain ⟨x0, x1, x2, m', _, _, i0, i1, i2⟩ := trod_struct3 gs h0
    obtain ⟨o0, k0⟩ := hone_of hone 0 g0 rfl
    obtain ⟨o1, k1⟩ := hone_of hone 1 g1 rfl
    obtain ⟨o2, k2⟩ := hone_of hone 2 g2 rfl
    rw [s0] at i0 k0
    rw [s1] at i1 k1
    rw [s2] at i2 k2
    rw [o0, k0] at i0
    rw [o1, k1] at i1
    rw [o2, k2] at i2
    obtain ⟨a, e0, _, wa⟩ := DataW.trod_int Try.underlying5 i0
    obtain ⟨b, e1, _, wb⟩ := DataW.trod_int Try.underlying24 i1
    obtain ⟨c, e2, _, wc⟩ := DataW.trod_int Try.underlying25 i2
    simp only [List.drop_zero, List.take_succ_cons, List.take_zero, List.cons.injEq, and_true, List.drop_succ_cons] at e0 e1 e2
    subst e0; subst e1; subst e2
    obtain ⟨a1, lv, cv, ev, ov, rv⟩ := rowIn_of_trod Try.underlying28 (by kernel_rfl) (by decide) iC_ok (fun n cs' x h hl => el_i n cs' x h hl) h1
    obtain ⟨a2, ld, cd, ed, od, rd⟩ := rowIn_of_trod Try.underlying29 (by kernel_rfl) (by decide) bC_ok (fun n cs' x h hl => el_b n cs' x h hl) h2
    simp only [List.cons.injEq, and_true] at ev ed
    subst ev; subst ed
    exact ⟨⟨a, b, c, lv, ld⟩, a1, a2, cv, cd, rfl, rv, rd, ⟨bounds_u8 wa, bounds_u16 wb, bounds_u32 wc⟩, ov, od⟩
theorem open_id3 (hv : Value.okWide Try.prog w .any b0 27 v) (h : DataW.Trod enc Try.prog w base sp hd 27 v d p) : ∃ a b c : Int, v = .agg #[.int .u8 a, .int .u16 b, .int .u32 c] ∧ 0 ≤ a ∧ 0 ≤ b ∧ 0 ≤ c := by
  obtain ⟨v0, v1, v2, y0, y1, y2, n, rfl, _, _, h0, h1, h2⟩ := open_agg3 Try.underlying27 (by kernel_rfl) (by kernel_rfl) hv h
  obtain ⟨a, e0, _, wa⟩ := DataW.trod_int Try.underlying5 h0
  obtain ⟨b, e1, _, wb⟩ := DataW.trod_int Try.underlying24 h1
  obtain ⟨c, e2, _, wc⟩ := DataW.trod_int Try.underlying25 h2
  simp only [List.cons.injEq, and_true] at e0 e1 e2
  subst e0; subst e1; subst e2
  exact ⟨a, b, c, rfl, (bounds_u8 wa).1, (bounds_u16 wb).1, (bounds_u32 wc).1⟩
end
/-- A world for the witnesses: the package-level variables hold what the program's text lays. -/
noncomputable def witW (os : Os) : World :=
  World.holding Try.prog os ⟨#[], #[], []⟩
end Go.Proofs.Ythcofkeiffpiiaa
