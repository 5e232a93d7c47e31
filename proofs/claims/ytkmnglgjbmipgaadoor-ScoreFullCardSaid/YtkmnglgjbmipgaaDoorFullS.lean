/- Law ScoreFull: the statement. -/
import Derived.Test.YtkmnglgjbmipgaaDoorS06f
import Derived.Test.YtkmnglgjbmipgaaDoorOpen06
namespace Go.Proofs.YtkmnglgjbmipgaaDoor
open Go.RowKit Go.ChangeShapes

theorem scoreFull_calls {H : Type} {enc : TypeId × Value → H} (W : World) (base : Nat) (args : Array Value) (ds : List (DataW H)) (ps : List MemPlace)
    (hval : ∀ (j : Nat) t v, Tryd.f7.params[j]? = some t → args[j]? = some v → Value.okWide Tryd.prog W .any base t v)
    (hA : DataW.TrodAll enc Tryd.prog W 0 (fun _ => true) true Tryd.f7.params.toList args.toList ds ps) (_hlt : ∀ x ∈ ps, x.block < W.heap.size) (hL : laidMetH Tryd.prog Rows.scoreFullRow.laid W)
    (_hc : ∀ k, (OpenSpec.ofChange Rows.scoreFullSpec).cond = some k → k H ds = true) (_hw : (DataW.weightsEach Tryd.prog Tryd.f7.params.toList ds).all (· ≤ reachBytes) = true) :
    Calls Tryd.prog 7 args W (Yes W) := by
  rw [Tryd.params7] at hA hval
  obtain ⟨v0, vs0, d0, ds0, p0, q0, hvs0, hds0, hps0, h0, r0⟩ := trodAll_cons hA
  obtain ⟨v1, vs1, d1, ds1, p1, q1, hvs1, hds1, hps1, h1, r1⟩ := trodAll_cons r0
  obtain ⟨v2, vs2, d2, ds2, p2, q2, hvs2, hds2, hps2, h2, r2⟩ := trodAll_cons r1
  obtain ⟨hvsE, _, _⟩ := trodAll_nil r2
  obtain rfl : args = #[v0, v1, v2] := by cases args; simp_all
  have g := gl_of_laid hL
  obtain ⟨a1, a, ca, rfl, hoa, hA1⟩ := open_filter (hval 0 _ _ rfl rfl) h0
  obtain ⟨a2, b, cb, rfl, hob, hB1⟩ := open_filter (hval 1 _ _ rfl rfl) h1
  obtain ⟨v, rfl, hv1, hv2⟩ := open_i32 (hval 2 _ _ rfl rfl) h2
  exact yes_of_fn (scoreFull_ok a b v ca cb (by have := hA1.le; have := hA1.max; simp only [maxLen] at this; omega) (by have := hB1.le; have := hB1.max; simp only [maxLen] at this; omega) hA1.le hB1.le ⟨hv1, hv2⟩ hoa hob) (rho_q W []) (mem_of_rows (ads := []) (by exact trivial) (glob_ok g)) (relL_cons (rel_z hA1) (relL_cons (rel_z hB1) (relL_cons (rel_c rfl) relL_nil))) (fun k b h => (rowsIn_get (w := W) (ads := []) (by exact trivial) h).2)

theorem scoreFull_met (os : Os) : laidMet Tryd.prog Rows.scoreFullRow.laid ((witW os).forCall (fun _ _ => 0) ⟨#[], #[.slice none 0 0, .slice none 0 0, .int .i32 0], []⟩).memory :=
  laidMet_of_run' 8 (by kernel_rfl) (by kernel_rfl)
theorem scoreFull_reads (os : Os) {H : Type} (enc : TypeId × Value → H) : ∃ places, DataW.whole enc Tryd.prog ((witW os).forCall (fun _ _ => 0) ⟨#[], #[.slice none 0 0, .slice none 0 0, .int .i32 0], []⟩).memory Tryd.f7.params.toList Rows.scoreFullSpec.vars false (#[.slice none 0 0, .slice none 0 0, .int .i32 0] : Array Value).toList 8 = some ([.nil, .nil, .lit (.int .i32 0)], [], places) :=
  ⟨[], by kernel_rfl⟩
set_option maxRecDepth 100000 in
theorem scoreFull_said : Rows.ScoreFullSaid :=
  OpenClaim.holds_of_cond 7 Tryd.f7 rfl rfl rfl rfl rfl rfl rfl ⟨rfl, rfl, rfl, rfl, rfl⟩ rfl rfl rfl rfl rfl (by kernel_rfl) Tryd.func7 (by kernel_rfl)
    (of_decide_eq_true (by kernel_rfl)) (by unfold Func.isWrapper; rw [if_neg (by decide +kernel)]; exact ⟨rfl, rfl⟩)
    (fun os started H enc _ F => by
      rw [OpenClaim.pre_eq_preRow]
      obtain ⟨places, hx⟩ := scoreFull_reads os enc
      exact lifted (C := Tryd.checked) (f := 7) (fn := Tryd.f7) (s := Rows.scoreFullSpec) (o := OpenSpec.ofChange Rows.scoreFullSpec) (tb := 4) rfl rfl (by kernel_rfl) started (by kernel_rfl) Tryd.func7
        (witness_row_at (enc := enc) (C := Tryd.checked) false (witW os) #[.slice none 0 0, .slice none 0 0, .int .i32 0] rfl (by kernel_rfl) (by kernel_rfl) (by kernel_rfl)
          (OpenSpec.preRow_of_cond 8 hx (by kernel_rfl) (fun k hk => by cases hk) (by kernel_rfl) (scoreFull_met os)))
        (by kernel_rfl) (by kernel_rfl) rfl Tryd.underlying4 rfl (fun ds h => match ds, h with | [_, _, _], _ => rfl) scoreFull_calls)
theorem scoreFull_plain (f : FuncId) (fn : Func) (hf : Tryd.pinned.checked.prog.funcNamed "grapevine/grapevinelaw06.ScoreFull" = some f) (hfn : Tryd.pinned.checked.prog.funcs[f]? = some fn) :
    false = Tryd.pinned.checked.prog.looks [] ∧ ∀ (j : Nat) t, fn.params[j]? = some t → Tryd.pinned.checked.prog.wantsStandIn t = false := by
  obtain rfl : f = 7 := Option.some.inj ((show Tryd.prog.funcNamed "grapevine/grapevinelaw06.ScoreFull" = some 7 by kernel_rfl).symm.trans hf) |>.symm
  obtain rfl : fn = Tryd.f7 := (Option.some.inj (Tryd.func7.symm.trans hfn)).symm
  refine ⟨by kernel_rfl, fun j t ht => ?_⟩
  have hall : Tryd.f7.params.toList.all (fun t => !Tryd.prog.wantsStandIn t) = true := by kernel_rfl
  have hm : t ∈ Tryd.f7.params.toList := by simpa using Array.mem_of_getElem? ht
  have hz : Tryd.prog.wantsStandIn t = false := by simpa using List.all_eq_true.1 hall t hm
  exact hz
theorem scoreFull_card : Rows.ScoreFullCardSaid :=
  Claim7.holds_tied_plain_at .later [] _ _ _ _ scoreFull_said (fun _ h => by cases h) (by kernel_rfl) (fun _ h => by cases h) scoreFull_row_tie rfl ⟨rfl, rfl⟩ (by kernel_rfl) rfl scoreFull_plain (by kernel_rfl)
end Go.Proofs.YtkmnglgjbmipgaaDoor
