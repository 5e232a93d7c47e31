/- Law SpanMeet: the statement. -/
import Derived.Test.YtelbeomfdfggbaaDoorS04d
namespace Go.Proofs.YtelbeomfdfggbaaDoor
open Go.RowKit Go.ChangeShapes

theorem spanMeet_calls {H : Type} {enc : TypeId × Value → H} (W : World) (base : Nat) (args : Array Value) (ds : List (DataW H)) (ps : List MemPlace)
    (hval : ∀ (j : Nat) t v, Tryd.f4.params[j]? = some t → args[j]? = some v → Value.okWide Tryd.prog W .any base t v)
    (hA : DataW.TrodAll enc Tryd.prog W 0 (fun _ => true) true Tryd.f4.params.toList args.toList ds ps) (hlt : ∀ x ∈ ps, x.block < W.heap.size) (hL : laidMetH Tryd.prog Rows.spanMeetRow.laid W)
    (hc : ∀ k, (OpenSpec.ofChange Rows.spanMeetSpec).cond = some k → k H ds = true) (hw : (DataW.weightsEach Tryd.prog Tryd.f4.params.toList ds).all (· ≤ reachBytes) = true) :
    Calls Tryd.prog 4 args W (Yes W) := by
  have g := gl_of_laid hL
  rw [Tryd.params4] at hA hval
  obtain ⟨v0, vs0, d0, ds0, p0, q0, hvs0, hds0, hps0, h0, r0⟩ := trodAll_cons hA
  obtain ⟨v1, vs1, d1, ds1, p1, q1, hvs1, hds1, hps1, h1, r1⟩ := trodAll_cons r0
  obtain ⟨v2, vs2, d2, ds2, p2, q2, hvs2, hds2, hps2, h2, r2⟩ := trodAll_cons r1
  obtain ⟨v3, vs3, d3, ds3, p3, q3, hvs3, hds3, hps3, h3, r3⟩ := trodAll_cons r2
  obtain ⟨hvsE, _, _⟩ := trodAll_nil r3
  obtain rfl : args = #[v0, v1, v2, v3] := by cases args; simp_all
  obtain ⟨a, b, rfl, _, _, _, _⟩ := open_span (hval 0 _ _ rfl rfl) h0
  obtain ⟨c, d, rfl, _, _, _, _⟩ := open_span (hval 1 _ _ rfl rfl) h1
  obtain ⟨e, f, rfl, _, _, _, _⟩ := open_span (hval 2 _ _ rfl rfl) h2
  obtain ⟨v, rfl, _, _⟩ := open_i32 (hval 3 _ _ rfl rfl) h3
  exact yes_of_fn (spanMeet_ok a b c d e f v) (mem_of_gl g) (by exact relL_of rfl) (fun k b h => by simp at h)

theorem spanMeet_met (os : Os) : laidMet Tryd.prog Rows.spanMeetRow.laid ((witW os).forCall (fun _ _ => 0) ⟨#[], #[.agg #[.int .i32 0, .int .i32 0], .agg #[.int .i32 0, .int .i32 0], .agg #[.int .i32 0, .int .i32 0], .int .i32 0], []⟩).memory :=
  laidMet_of_run' 8 (by kernel_rfl) (by kernel_rfl)
theorem spanMeet_reads (os : Os) {H : Type} (enc : TypeId × Value → H) : ∃ places, DataW.whole enc Tryd.prog ((witW os).forCall (fun _ _ => 0) ⟨#[], #[.agg #[.int .i32 0, .int .i32 0], .agg #[.int .i32 0, .int .i32 0], .agg #[.int .i32 0, .int .i32 0], .int .i32 0], []⟩).memory Tryd.f4.params.toList Rows.spanMeetSpec.vars false (#[.agg #[.int .i32 0, .int .i32 0], .agg #[.int .i32 0, .int .i32 0], .agg #[.int .i32 0, .int .i32 0], .int .i32 0] : Array Value).toList 8 = some ([.agg [.lit (.int .i32 0), .lit (.int .i32 0)], .agg [.lit (.int .i32 0), .lit (.int .i32 0)], .agg [.lit (.int .i32 0), .lit (.int .i32 0)], .lit (.int .i32 0)], [], places) :=
  ⟨[], by kernel_rfl⟩
set_option maxRecDepth 100000 in
theorem spanMeet_said : Rows.SpanMeetSaid :=
  OpenClaim.holds_of_cond 4 Tryd.f4 rfl rfl rfl rfl rfl rfl rfl ⟨rfl, rfl, rfl, rfl, rfl⟩ rfl rfl rfl rfl rfl (by kernel_rfl) Tryd.func4 (by kernel_rfl)
    (of_decide_eq_true (by kernel_rfl)) (by unfold Func.isWrapper; rw [if_neg (by decide +kernel)]; exact ⟨rfl, rfl⟩)
    (fun os started H enc _ F => by
      rw [OpenClaim.pre_eq_preRow]
      obtain ⟨places, hx⟩ := spanMeet_reads os enc
      exact lifted (C := Tryd.checked) (f := 4) (fn := Tryd.f4) (s := Rows.spanMeetSpec) (o := OpenSpec.ofChange Rows.spanMeetSpec) (tb := 4) rfl rfl (by kernel_rfl) started (by kernel_rfl) Tryd.func4
        (witness_row_at (enc := enc) (C := Tryd.checked) false (witW os) #[.agg #[.int .i32 0, .int .i32 0], .agg #[.int .i32 0, .int .i32 0], .agg #[.int .i32 0, .int .i32 0], .int .i32 0] rfl (by kernel_rfl) (by kernel_rfl) (by kernel_rfl)
          (OpenSpec.preRow_of_cond 8 hx (by kernel_rfl) (fun k hk => by cases hk) (by kernel_rfl) (spanMeet_met os)))
        (by kernel_rfl) (by kernel_rfl) rfl Tryd.underlying4 rfl (fun ds h => match ds, h with | [_, _, _, _], _ => rfl) spanMeet_calls)
theorem spanMeet_plain (f : FuncId) (fn : Func) (hf : Tryd.pinned.checked.prog.funcNamed "grapevine/grapevinelaw04.SpanMeet" = some f) (hfn : Tryd.pinned.checked.prog.funcs[f]? = some fn) :
    false = Tryd.pinned.checked.prog.looks [] ∧ ∀ (j : Nat) t, fn.params[j]? = some t → Tryd.pinned.checked.prog.wantsStandIn t = false := by
  obtain rfl : f = 4 := Option.some.inj ((show Tryd.prog.funcNamed "grapevine/grapevinelaw04.SpanMeet" = some 4 by kernel_rfl).symm.trans hf) |>.symm
  obtain rfl : fn = Tryd.f4 := (Option.some.inj (Tryd.func4.symm.trans hfn)).symm
  refine ⟨by kernel_rfl, fun j t ht => ?_⟩
  have hall : Tryd.f4.params.toList.all (fun t => !Tryd.prog.wantsStandIn t) = true := by kernel_rfl
  have hm : t ∈ Tryd.f4.params.toList := by simpa using Array.mem_of_getElem? ht
  have hz : Tryd.prog.wantsStandIn t = false := by simpa using List.all_eq_true.1 hall t hm
  exact hz
theorem spanMeet_card : Rows.SpanMeetCardSaid :=
  Claim7.holds_tied_plain_at .later [] _ _ _ _ spanMeet_said (fun _ h => by cases h) (by kernel_rfl) (fun _ h => by cases h) spanMeet_row_tie rfl ⟨rfl, rfl⟩ (by kernel_rfl) rfl spanMeet_plain (by kernel_rfl)
end Go.Proofs.YtelbeomfdfggbaaDoor
