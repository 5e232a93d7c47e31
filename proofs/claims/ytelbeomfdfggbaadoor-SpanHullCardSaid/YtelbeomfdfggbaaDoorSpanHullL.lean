/- Law SpanHull: the statement. -/
import Derived.Test.YtelbeomfdfggbaaDoorSpanHull
namespace Go.Proofs.YtelbeomfdfggbaaDoor
open Go.RowKit Go.ChangeShapes

theorem spanHull_calls {H : Type} {enc : TypeId × Value → H} (W : World) (base : Nat) (args : Array Value) (ds : List (DataW H)) (ps : List MemPlace)
    (hval : ∀ (j : Nat) t v, Tryd.f6.params[j]? = some t → args[j]? = some v → Value.okWide Tryd.prog W .any base t v)
    (hA : DataW.TrodAll enc Tryd.prog W 0 (fun _ => true) true Tryd.f6.params.toList args.toList ds ps) (hlt : ∀ x ∈ ps, x.block < W.heap.size) (hL : laidMetH Tryd.prog Rows.spanHullRow.laid W)
    (hc : ∀ k, (OpenSpec.ofChange Rows.spanHullSpec).cond = some k → k H ds = true) (hw : (DataW.weightsEach Tryd.prog Tryd.f6.params.toList ds).all (· ≤ reachBytes) = true) :
    Calls Tryd.prog 6 args W (Yes W) := by
  have g := gl_of_laid hL
  rw [Tryd.params6] at hA hval
  obtain ⟨v0, vs0, d0, ds0, p0, q0, hvs0, hds0, hps0, h0, r0⟩ := trodAll_cons hA
  obtain ⟨v1, vs1, d1, ds1, p1, q1, hvs1, hds1, hps1, h1, r1⟩ := trodAll_cons r0
  obtain ⟨v2, vs2, d2, ds2, p2, q2, hvs2, hds2, hps2, h2, r2⟩ := trodAll_cons r1
  obtain ⟨hvsE, _, _⟩ := trodAll_nil r2
  obtain rfl : args = #[v0, v1, v2] := by cases args; simp_all
  obtain ⟨a, b, rfl, ha, ha', hb, hb'⟩ := open_span (hval 0 _ _ rfl rfl) h0
  obtain ⟨c, d, rfl, hc1, hc2, hd, hd'⟩ := open_span (hval 1 _ _ rfl rfl) h1
  obtain ⟨p, q, rfl, _, _, _, _⟩ := open_span (hval 2 _ _ rfl rfl) h2
  exact spanHull_walk a b c d p q W g ha ha' hb hb' hc1 hc2 hd hd'

theorem spanHull_met (os : Os) : laidMet Tryd.prog Rows.spanHullRow.laid ((witW os).forCall (fun _ _ => 0) ⟨#[], #[.agg #[.int .i32 0, .int .i32 0], .agg #[.int .i32 0, .int .i32 0], .agg #[.int .i32 0, .int .i32 0]], []⟩).memory :=
  laidMet_of_run' 8 (by kernel_rfl) (by kernel_rfl)
theorem spanHull_reads (os : Os) {H : Type} (enc : TypeId × Value → H) : ∃ places, DataW.whole enc Tryd.prog ((witW os).forCall (fun _ _ => 0) ⟨#[], #[.agg #[.int .i32 0, .int .i32 0], .agg #[.int .i32 0, .int .i32 0], .agg #[.int .i32 0, .int .i32 0]], []⟩).memory Tryd.f6.params.toList Rows.spanHullSpec.vars false (#[.agg #[.int .i32 0, .int .i32 0], .agg #[.int .i32 0, .int .i32 0], .agg #[.int .i32 0, .int .i32 0]] : Array Value).toList 8 = some ([.agg [.lit (.int .i32 0), .lit (.int .i32 0)], .agg [.lit (.int .i32 0), .lit (.int .i32 0)], .agg [.lit (.int .i32 0), .lit (.int .i32 0)]], [], places) :=
  ⟨[], by kernel_rfl⟩
set_option maxRecDepth 100000 in
theorem spanHull_said : Rows.SpanHullSaid :=
  OpenClaim.holds_of_cond 6 Tryd.f6 rfl rfl rfl rfl rfl rfl rfl ⟨rfl, rfl, rfl, rfl, rfl⟩ rfl rfl rfl rfl rfl (by kernel_rfl) Tryd.func6 (by kernel_rfl)
    (of_decide_eq_true (by kernel_rfl)) (by unfold Func.isWrapper; rw [if_neg (by decide +kernel)]; exact ⟨rfl, rfl⟩)
    (fun os started H enc _ F => by
      rw [OpenClaim.pre_eq_preRow]
      obtain ⟨places, hx⟩ := spanHull_reads os enc
      exact lifted (C := Tryd.checked) (f := 6) (fn := Tryd.f6) (s := Rows.spanHullSpec) (o := OpenSpec.ofChange Rows.spanHullSpec) (tb := 4) rfl rfl (by kernel_rfl) started (by kernel_rfl) Tryd.func6
        (witness_row_at (enc := enc) (C := Tryd.checked) false (witW os) #[.agg #[.int .i32 0, .int .i32 0], .agg #[.int .i32 0, .int .i32 0], .agg #[.int .i32 0, .int .i32 0]] rfl (by kernel_rfl) (by kernel_rfl) (by kernel_rfl)
          (OpenSpec.preRow_of_cond 8 hx (by kernel_rfl) (fun k hk => by cases hk) (by kernel_rfl) (spanHull_met os)))
        (by kernel_rfl) (by kernel_rfl) rfl Tryd.underlying4 rfl (fun ds h => match ds, h with | [_, _, _], _ => rfl) spanHull_calls)
theorem spanHull_plain (f : FuncId) (fn : Func) (hf : Tryd.pinned.checked.prog.funcNamed "grapevine/grapevinelaw04.SpanHull" = some f) (hfn : Tryd.pinned.checked.prog.funcs[f]? = some fn) :
    false = Tryd.pinned.checked.prog.looks [] ∧ ∀ (j : Nat) t, fn.params[j]? = some t → Tryd.pinned.checked.prog.wantsStandIn t = false := by
  obtain rfl : f = 6 := Option.some.inj ((show Tryd.prog.funcNamed "grapevine/grapevinelaw04.SpanHull" = some 6 by kernel_rfl).symm.trans hf) |>.symm
  obtain rfl : fn = Tryd.f6 := (Option.some.inj (Tryd.func6.symm.trans hfn)).symm
  refine ⟨by kernel_rfl, fun j t ht => ?_⟩
  have hall : Tryd.f6.params.toList.all (fun t => !Tryd.prog.wantsStandIn t) = true := by kernel_rfl
  have hm : t ∈ Tryd.f6.params.toList := by simpa using Array.mem_of_getElem? ht
  have hz : Tryd.prog.wantsStandIn t = false := by simpa using List.all_eq_true.1 hall t hm
  exact hz
theorem spanHull_card : Rows.SpanHullCardSaid :=
  Claim7.holds_tied_plain_at .later [] _ _ _ _ spanHull_said (fun _ h => by cases h) (by kernel_rfl) (fun _ h => by cases h) spanHull_row_tie rfl ⟨rfl, rfl⟩ (by kernel_rfl) rfl spanHull_plain (by kernel_rfl)
end Go.Proofs.YtelbeomfdfggbaaDoor
