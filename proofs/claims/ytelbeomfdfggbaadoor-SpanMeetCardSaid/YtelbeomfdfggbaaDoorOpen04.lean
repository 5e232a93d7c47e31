/- How the arguments of the laws of package span are opened, and the world of their witnesses. -/
import Derived.Test.YtelbeomfdfggbaaDoorAwake04
import Derived.Test.YtelbeomfdfggbaaDoorCards
import Derived.Test.YtelbeomfdfggbaaDoorTie
import Derived.Lib.SmallJoins
namespace Go.Proofs.YtelbeomfdfggbaaDoor
open Go.RowKit Go.ChangeShapes Go.WideShapes Go.ChangeAt Go.Joins

theorem gl_of_laid {W : World} (h : laidMet Tryd.prog [("grapevine/span.none", Rows.laid_grapevine_span_none)] W) : Gl W := by
  obtain ⟨ps, ⟨g', t', cs, fuel, p, q, hg', ht', hvar, hd, _, _⟩, _⟩ := h
  obtain rfl := Option.some.inj ((show Tryd.prog.globalNamed "grapevine/span.none" = some 0 by kernel_rfl).symm.trans hg')
  obtain rfl := Option.some.inj ((show (Tryd.prog.globals[0]?).map (·.type) = some 23 by kernel_rfl).symm.trans ht')
  obtain ⟨y0, y1, n, hx, hl, h0, h1⟩ := trod_struct2 Tryd.underlying23 hd
  have hl : cs.toList.length = 2 := hl.trans (by kernel_rfl)
  have hcell := fun i => World.var?_cell (show Tryd.prog.globalNamed "grapevine/span.none" = some 0 by kernel_rfl) hvar i
  match hm : cs.toList, hl with
  | [x, y], _ =>
    rw [hm] at h0 h1
    obtain ⟨a, e0, e1, _⟩ := DataW.trod_int Tryd.underlying21 h0
    obtain ⟨b, f0, f1, _⟩ := DataW.trod_int Tryd.underlying21 h1
    obtain rfl : y0 = _ := e1
    obtain rfl : y1 = _ := f1
    have k : Tryd.prog.cellsOf 21 = 1 := by kernel_rfl
    have hx' : x = .int .i32 a := by simpa [k] using e0
    have hy' : y = .int .i32 b := by
      have : ([x, y].drop 1).take (Tryd.prog.cellsOf 21) = [.int .i32 b] := f0
      simpa [k] using this
    have ha : (DataW.lit (Lit.int .i32 1) : DataW Unit) = .lit (.int .i32 a) ∧ (DataW.lit (Lit.int .i32 0) : DataW Unit) = .lit (.int .i32 b) := by
      simpa [Rows.laid_grapevine_span_none] using (Prod.mk.inj hx).1
    injection ha.1 with ea
    injection ea with _ ea
    injection ha.2 with eb
    injection eb with _ eb
    subst ea; subst eb; subst hx'; subst hy'
    have c0 : cs[0]? = some (.int .i32 1) := by rw [← Array.getElem?_toList, hm]; rfl
    have c1 : cs[1]? = some (.int .i32 0) := by rw [← Array.getElem?_toList, hm]; rfl
    exact ⟨(hcell 0).trans c0, (hcell 1).trans c1, World.block_lt_of_cell? W _ ((hcell 0).trans c0)⟩

section
variable {H : Type} {enc : TypeId × Value → H} {w : World} {b0 base : Nat} {sp : Nat → Bool} {hd : Bool} {v : Value} {d : DataW H} {p : List MemPlace}
theorem open_i32 (hv : Value.okWide Tryd.prog w .any b0 21 v) (h : DataW.Trod enc Tryd.prog w base sp hd 21 v d p) : ∃ a : Int, v = .int .i32 a ∧ -2147483648 ≤ a ∧ a ≤ 2147483647 := by
  obtain ⟨a, rfl, _, _, wa⟩ := open_int Tryd.underlying21 hv h
  have := bounds_i32 wa
  exact ⟨a, rfl, this.1, this.2⟩
theorem open_span (hv : Value.okWide Tryd.prog w .any b0 23 v) (h : DataW.Trod enc Tryd.prog w base sp hd 23 v d p) :
    ∃ a b : Int, v = spV a b ∧ -2147483648 ≤ a ∧ a ≤ 2147483647 ∧ -2147483648 ≤ b ∧ b ≤ 2147483647 := by
  obtain ⟨v0, v1, y0, y1, n, rfl, _, _, h0, h1⟩ := open_agg2 Tryd.underlying23 (by kernel_rfl) (by kernel_rfl) hv h
  obtain ⟨a, e0, _, wa⟩ := DataW.trod_int Tryd.underlying21 h0
  obtain ⟨b, e1, _, wb⟩ := DataW.trod_int Tryd.underlying21 h1
  have ha := bounds_i32 wa
  have hb := bounds_i32 wb
  simp only [List.cons.injEq, and_true] at e0 e1
  subst e0; subst e1
  exact ⟨a, b, rfl, ha.1, ha.2, hb.1, hb.2⟩
end

/-- A world for the witnesses: the package-level variables hold what the program's text lays. -/
noncomputable def witW (os : Os) : World :=
  { World.holding Tryd.prog os ⟨#[], #[], []⟩ with heap := ((World.holding Tryd.prog os ⟨#[], #[], []⟩).heap).modify 0 fun | .cells _ t frozen => .cells #[.int .i32 1, .int .i32 0] t frozen | o => o }
end Go.Proofs.YtelbeomfdfggbaaDoor
