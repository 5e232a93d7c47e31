/- How the arguments of the laws are opened, and the world of their witnesses. -/
import Derived.Test.YtkmnglgjbmipgaaDoorS06c
import Derived.Test.YtkmnglgjbmipgaaDoorCards
import Derived.Test.YtkmnglgjbmipgaaDoorTie
import Derived.Lib.SmallJoins
namespace Go.Proofs.YtkmnglgjbmipgaaDoor
open Go.RowKit Go.ChangeShapes Go.WideShapes Go.ChangeAt Go.Joins Go.Deep

/-- What the package-level variable holds. -/
structure Gl (w : World) : Prop where
  c0 : w.cell? ⟨0, 0, none⟩ = some (.int .i32 1)
  c1 : w.cell? ⟨0, 1, none⟩ = some (.int .i32 0)
  lt : 0 < w.heap.size
theorem glob_ok {w : World} (g : Gl w) : ∀ x b, assoc GG x = some b → (∀ ρ : Plc, ρ.z = Z0 w → BlkOK ρ (x, 0) b w) ∧ ¬ b.isOwn := by
  intro x b h
  have := assoc_mem h
  simp [GG] at this
  obtain ⟨rfl, rfl⟩ := this
  refine ⟨fun ρ _ => ⟨[[.int .i32 1, .int .i32 0]], ⟨rfl, fun e c d h1 h2 => ?_⟩, fun _ => g.lt, fun e c hc => ?_⟩, fun h => h⟩
  · cases e with
    | succ e => simp at h1
    | zero =>
      simp at h1 h2
      subst h1; subst h2
      exact ⟨RelK.vals (us := [.int .i32 1, .int .i32 0]) (by simp [Value.oneCell']), rfl⟩
  · cases e with
    | succ e => simp at hc
    | zero =>
      simp at hc
      subst hc
      refine ⟨⟨rfl, by simp [Value.oneCell']⟩, fun j u hu => ?_⟩
      match j with
      | 0 => simp at hu; subst hu; simpa using g.c0
      | 1 => simp at hu; subst hu; simpa using g.c1
      | j + 2 => simp at hu
theorem gl_of_laid {W : World} (h : laidMet Tryd.prog [("grapevine/span.none", Rows.laid_grapevine_span_none)] W) : Gl W := by
  obtain ⟨ps, ⟨g', t', cs, fuel, p, q, hg', ht', hvar, hd, _, _⟩, _⟩ := h
  obtain rfl := Option.some.inj ((show Tryd.prog.globalNamed "grapevine/span.none" = some 0 by kernel_rfl).symm.trans hg')
  obtain rfl := Option.some.inj ((show (Tryd.prog.globals[0]?).map (·.type) = some 36 by kernel_rfl).symm.trans ht')
  obtain ⟨y0, y1, n, hx, hl, h0, h1⟩ := trod_struct2 Tryd.underlying36 hd
  have hl : cs.toList.length = 2 := hl.trans (by kernel_rfl)
  have hcell := fun i => World.var?_cell (show Tryd.prog.globalNamed "grapevine/span.none" = some 0 by kernel_rfl) hvar i
  match hm : cs.toList, hl with
  | [x, y], _ =>
    rw [hm] at h0 h1
    obtain ⟨a, e0, e1, _⟩ := DataW.trod_int Tryd.underlying21 h0
    obtain ⟨b, f0, f1, _⟩ := DataW.trod_int Tryd.underlying21 h1
    obtain rfl : y0 = _ := e1
    obtain rfl : y1 = _ := f1
    have k : Tryd.prog.cellsOf 21 = 1 := by kernel_rfl
    have hx' : x = .int .i32 a := by simpa [k] using e0
    have hy' : y = .int .i32 b := by
      have : ([x, y].drop 1).take (Tryd.prog.cellsOf 21) = [.int .i32 b] := f0
      simpa [k] using this
    have ha : (DataW.lit (Lit.int .i32 1) : DataW Unit) = .lit (.int .i32 a) ∧ (DataW.lit (Lit.int .i32 0) : DataW Unit) = .lit (.int .i32 b) := by
      simpa [Rows.laid_grapevine_span_none] using (Prod.mk.inj hx).1
    injection ha.1 with ea
    injection ea with _ ea
    injection ha.2 with eb
    injection eb with _ eb
    subst ea; subst eb; subst hx'; subst hy'
    have c0 : cs[0]? = some (.int .i32 1) := by rw [← Array.getElem?_toList, hm]; rfl
    have c1 : cs[1]? = some (.int .i32 0) := by rw [← Array.getElem?_toList, hm]; rfl
    exact ⟨(hcell 0).trans c0, (hcell 1).trans c1, World.block_lt_of_cell? W _ ((hcell 0).trans c0)⟩

section
variable {H : Type} {enc : TypeId × Value → H} {w : World} {b0 base : Nat} {hd : Bool} {v : Value} {d : DataW H} {p : List MemPlace}
def NuOk (x : Int) : Prop := -2147483648 ≤ x ∧ x ≤ 2147483647
theorem el_sp (n : Nat) (cs' : List Value) (x : DataW H × List MemPlace) (h : DataW.trod enc Tryd.prog w base (fun _ => true) hd n 36 cs' = some x) (hl : cs'.length = 2) : ∃ y : Sp, RelK (Z0 w) (spC y) cs' ∧ SpOk y := by
  match cs', hl with
  | [z0, z1], _ =>
    have hu0 := Tryd.underlying36
    obtain ⟨f0_0, f0_1, hs0⟩ : ∃ f0_0 f0_1, Tryd.prog.underlying 36 = some (.struct #[f0_0, f0_1]) := ⟨_, _, hu0⟩
    rw [hs0] at hu0
    simp at hu0
    have t0_0 : f0_0.type = 21 := by rw [hu0.1]
    have p0_0 : f0_0.offset = 0 := by rw [hu0.1]
    have c0_0 : Tryd.prog.cellsOf 21 = 1 := by kernel_rfl
    have t0_1 : f0_1.type = 21 := by rw [hu0.2]
    have p0_1 : f0_1.offset = 1 := by rw [hu0.2]
    have c0_1 : Tryd.prog.cellsOf 21 = 1 := by kernel_rfl
    obtain ⟨y0_0, y0_1, m0, _, _, h0_0, h0_1⟩ := trod_struct2 hs0 h
    rw [t0_0, p0_0, c0_0] at h0_0
    simp only [List.drop_zero, List.drop_succ_cons, List.take_succ_cons, List.take_zero] at h0_0
    obtain ⟨a1, e1, _, w1⟩ := DataW.trod_int Tryd.underlying21 h0_0
    simp only [List.cons.injEq, and_true] at e1
    subst e1
    rw [t0_1, p0_1, c0_1] at h0_1
    simp only [List.drop_zero, List.drop_succ_cons, List.take_succ_cons, List.take_zero] at h0_1
    obtain ⟨a2, e2, _, w2⟩ := DataW.trod_int Tryd.underlying21 h0_1
    simp only [List.cons.injEq, and_true] at e2
    subst e2
    exact ⟨⟨a1, a2⟩, (relK_v rfl (relK_v rfl relK_nil)), ⟨(bounds_i32 w1), (bounds_i32 w2)⟩⟩
theorem open_filter (hv : Value.okWide Tryd.prog w .any b0 24 v) (h : DataW.Trod enc Tryd.prog w base (fun _ => true) hd 24 v d p) :
    ∃ (ad : Option Addr) (l : List (Sp)) (cap : Nat), v = .slice ad l.length cap ∧ (∀ y ∈ l, SpOk y) ∧ RowIn w ad l.length cap 2 (l.map spC) :=
  rowIn_arg Tryd.underlying24 (by kernel_rfl) (by decide) (fun n cs' x h hl => el_sp n cs' x h hl) hv h
theorem open_schema (hv : Value.okWide Tryd.prog w .any b0 23 v) (h : DataW.Trod enc Tryd.prog w base (fun _ => true) hd 23 v d p) :
    ∃ (ad : Option Addr) (l : List (Sp)) (cap : Nat), v = .slice ad l.length cap ∧ (∀ y ∈ l, SpOk y) ∧ RowIn w ad l.length cap 2 (l.map spC) :=
  rowIn_arg Tryd.underlying23 (by kernel_rfl) (by decide) (fun n cs' x h hl => el_sp n cs' x h hl) hv h
theorem open_i32 (hv : Value.okWide Tryd.prog w .any b0 21 v) (h : DataW.Trod enc Tryd.prog w base (fun _ => true) hd 21 v d p) : ∃ a : Int, v = .int .i32 a ∧ -2147483648 ≤ a ∧ a ≤ 2147483647 := by
  obtain ⟨a, rfl, _, _, wa⟩ := open_int Tryd.underlying21 hv h
  have := bounds_i32 wa
  exact ⟨a, rfl, this.1, this.2⟩
theorem el_nu (n : Nat) (cs' : List Value) (x : DataW H × List MemPlace) (h : DataW.trod enc Tryd.prog w base (fun _ => true) hd n 21 cs' = some x) (hl : cs'.length = 1) : ∃ y : Int, RelK (Z0 w) (nuC y) cs' ∧ NuOk y := by
  match cs', hl with
  | [z0], _ =>
    obtain ⟨a3, e3, _, w3⟩ := DataW.trod_int Tryd.underlying21 h
    simp only [List.cons.injEq, and_true] at e3
    subst e3
    exact ⟨a3, (relK_v rfl relK_nil), (bounds_i32 w3)⟩
theorem open_vals (hv : Value.okWide Tryd.prog w .any b0 39 v) (h : DataW.Trod enc Tryd.prog w base (fun _ => true) hd 39 v d p) :
    ∃ (ad : Option Addr) (l : List (Int)) (cap : Nat), v = .slice ad l.length cap ∧ (∀ y ∈ l, NuOk y) ∧ RowIn w ad l.length cap 1 (l.map nuC) :=
  rowIn_arg Tryd.underlying39 (by kernel_rfl) (by decide) (fun n cs' x h hl => el_nu n cs' x h hl) hv h
end
/-- A world for the witnesses: the package-level variables hold what the program's text lays. -/
noncomputable def witW (os : Os) : World :=
  { World.holding Tryd.prog os ⟨#[], #[], []⟩ with heap := ((World.holding Tryd.prog os ⟨#[], #[], []⟩).heap).modify 0 fun | .cells _ t frozen => .cells #[.int .i32 1, .int .i32 0] t frozen | o => o }
end Go.Proofs.YtkmnglgjbmipgaaDoor
