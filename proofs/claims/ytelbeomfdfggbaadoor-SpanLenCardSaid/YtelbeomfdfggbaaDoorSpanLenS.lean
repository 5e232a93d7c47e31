/- Law SpanLen: the statement. -/
import Derived.Test.YtelbeomfdfggbaaDoorS04c
namespace Go.Proofs.YtelbeomfdfggbaaDoor
open Go.RowKit Go.ChangeShapes

theorem spanLen_calls {H : Type} {enc : TypeId × Value → H} (W : World) (base : Nat) (args : Array Value) (ds : List (DataW H)) (ps : List MemPlace)
    (hval : ∀ (j : Nat) t v, Tryd.f7.params[j]? = some t → args[j]? = some v → Value.okWide Tryd.prog W .any base t v)
    (hA : DataW.TrodAll enc Tryd.prog W 0 (fun _ => true) true Tryd.f7.params.toList args.toList ds ps) (hlt : ∀ x ∈ ps, x.block < W.heap.size) (hL : laidMetH Tryd.prog Rows.spanLenRow.laid W)
    (hc : ∀ k, (OpenSpec.ofChange Rows.spanLenSpec).cond = some k → k H ds = true) (hw : (DataW.weightsEach Tryd.prog Tryd.f7.params.toList ds).all (· ≤ reachBytes) = true) :
    Calls Tryd.prog 7 args W (Yes W) := by
  have g := gl_of_laid hL
  rw [Tryd.params7] at hA hval
  obtain ⟨v0, vs0, d0, ds0, p0, q0, hvs0, hds0, hps0, h0, r0⟩ := trodAll_cons hA
  obtain ⟨v1, vs1, d1, ds1, p1, q1, hvs1, hds1, hps1, h1, r1⟩ := trodAll_cons r0
  obtain ⟨hvsE, _, _⟩ := trodAll_nil r1
  obtain rfl : args = #[v0, v1] := by cases args; simp_all
  obtain ⟨a, b, rfl, ha, ha', hb, hb'⟩ := open_span (hval 0 _ _ rfl rfl) h0
  obtain ⟨v, rfl, hv, hv'⟩ := open_i32 (hval 1 _ _ rfl rfl) h1
  exact yes_of_fn (spanLen_ok a b v ha ha' hb hb' hv hv') (mem_of_gl g) (by exact relL_of rfl) (fun k b h => by simp at h)

theorem spanLen_met (os : Os) : laidMet Tryd.prog Rows.spanLenRow.laid ((witW os).forCall (fun _ _ => 0) ⟨#[], #[.agg #[.int .i32 0, .int .i32 0], .int .i32 0], []⟩).memory :=
  laidMet_of_run' 8 (by kernel_rfl) (by kernel_rfl)
theorem spanLen_reads (os : Os) {H : Type} (enc : TypeId × Value → H) : ∃ places, DataW.whole enc Tryd.prog ((witW os).forCall (fun _ _ => 0) ⟨#[], #[.agg #[.int .i32 0, .int .i32 0], .int .i32 0], []⟩).memory Tryd.f7.params.toList Rows.spanLenSpec.vars false (#[.agg #[.int .i32 0, .int .i32 0], .int .i32 0] : Array Value).toList 8 = some ([.agg [.lit (.int .i32 0), .lit (.int .i32 0)], .lit (.int .i32 0)], [], places) :=
  ⟨[], by kernel_rfl⟩
set_option maxRecDepth 100000 in
theorem spanLen_said : Rows.SpanLenSaid :=
  OpenClaim.holds_of_cond 7 Tryd.f7 rfl rfl rfl rfl rfl rfl rfl ⟨rfl, rfl, rfl, rfl, rfl⟩ rfl rfl rfl rfl rfl (by kernel_rfl) Tryd.func7 (by kernel_rfl)
    (of_decide_eq_true (by kernel_rfl)) (by unfold Func.isWrapper; rw [if_neg (by decide +kernel)]; exact ⟨rfl, rfl⟩)
    (fun os started H enc _ F => by
      rw [OpenClaim.pre_eq_preRow]
      obtain ⟨places, hx⟩ := spanLen_reads os enc
      exact lifted (C := Tryd.checked) (f := 7) (fn := Tryd.f7) (s := Rows.spanLenSpec) (o := OpenSpec.ofChange Rows.spanLenSpec) (tb := 4) rfl rfl (by kernel_rfl) started (by kernel_rfl) Tryd.func7
        (witness_row_at (enc := enc) (C := Tryd.checked) false (witW os) #[.agg #[.int .i32 0, .int .i32 0], .int .i32 0] rfl (by kernel_rfl) (by kernel_rfl) (by kernel_rfl)
          (OpenSpec.preRow_of_cond 8 hx (by kernel_rfl) (fun k hk => by cases hk) (by kernel_rfl) (spanLen_met os)))
        (by kernel_rfl) (by kernel_rfl) rfl Tryd.underlying4 rfl (fun ds h => match ds, h with | [_, _], _ => rfl) spanLen_calls)
theorem spanLen_plain (f : FuncId) (fn : Func) (hf : Tryd.pinned.checked.prog.funcNamed "grapevine/grapevinelaw04.SpanLen" = some f) (hfn : Tryd.pinned.checked.prog.funcs[f]? = some fn) :
    false = Tryd.pinned.checked.prog.looks [] ∧ ∀ (j : Nat) t, fn.params[j]? = some t → Tryd.pinned.checked.prog.wantsStandIn t = false := by
  obtain rfl : f = 7 := Option.some.inj ((show Tryd.prog.funcNamed "grapevine/grapevinelaw04.SpanLen" = some 7 by kernel_rfl).symm.trans hf) |>.symm
  obtain rfl : fn = Tryd.f7 := (Option.some.inj (Tryd.func7.symm.trans hfn)).symm
  refine ⟨by kernel_rfl, fun j t ht => ?_⟩
  have hall : Tryd.f7.params.toList.all (fun t => !Tryd.prog.wantsStandIn t) = true := by kernel_rfl
  have hm : t ∈ Tryd.f7.params.toList := by simpa using Array.mem_of_getElem? ht
  have hz : Tryd.prog.wantsStandIn t = false := by simpa using List.all_eq_true.1 hall t hm
  exact hz
theorem spanLen_card : Rows.SpanLenCardSaid :=
  Claim7.holds_tied_plain_at .later [] _ _ _ _ spanLen_said (fun _ h => by cases h) (by kernel_rfl) (fun _ h => by cases h) spanLen_row_tie rfl ⟨rfl, rfl⟩ (by kernel_rfl) rfl spanLen_plain (by kernel_rfl)
end Go.Proofs.YtelbeomfdfggbaaDoor
