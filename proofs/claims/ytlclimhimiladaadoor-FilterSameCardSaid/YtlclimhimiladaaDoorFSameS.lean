/- Law FilterSame: the statement. -/
import Derived.Test.YtlclimhimiladaaDoorF05i
import Derived.Test.YtlclimhimiladaaDoorOpen05
namespace Go.Proofs.YtlclimhimiladaaDoor
open Go.RowKit Go.ChangeShapes

theorem filterSame_calls {H : Type} {enc : TypeId × Value → H} (W : World) (base : Nat) (args : Array Value) (ds : List (DataW H)) (ps : List MemPlace)
    (hval : ∀ (j : Nat) t v, Tryd.f8.params[j]? = some t → args[j]? = some v → Value.okWide Tryd.prog W .any base t v)
    (hA : DataW.TrodAll enc Tryd.prog W 0 (fun _ => true) true Tryd.f8.params.toList args.toList ds ps) (hlt : ∀ x ∈ ps, x.block < W.heap.size) (hL : laidMetH Tryd.prog Rows.filterSameRow.laid W)
    (hc : ∀ k, (OpenSpec.ofChange Rows.filterSameSpec).cond = some k → k H ds = true) (hw : (DataW.weightsEach Tryd.prog Tryd.f8.params.toList ds).all (· ≤ reachBytes) = true) :
    Calls Tryd.prog 8 args W (Yes W) := by
  rw [Tryd.params8] at hA hval
  obtain ⟨v0, vs0, d0, ds0, p0, q0, hvs0, hds0, hps0, h0, r0⟩ := trodAll_cons hA
  obtain ⟨v1, vs1, d1, ds1, p1, q1, hvs1, hds1, hps1, h1, r1⟩ := trodAll_cons r0
  obtain ⟨hvsE, _, _⟩ := trodAll_nil r1
  obtain rfl : args = #[v0, v1] := by cases args; simp_all
  have g := gl_of_laid hL
  obtain ⟨a1, l, ca, rfl, hok, hA1⟩ := open_filter (hval 0 _ _ rfl rfl) h0
  obtain ⟨at_, rfl, h2a, h2b⟩ := open_u8 (hval 1 _ _ rfl rfl) h1
  exact yes_of_fn (filterSame_ok l ca at_ (by have := hA1.le; have := hA1.max; simp only [maxLen] at this; omega) hA1.le hok ⟨h2a, h2b⟩) (rho_q W []) (mem_of_rows (ads := []) (by exact trivial) (glob_ok g)) (relL_cons (rel_z hA1) (relL_cons (rel_c rfl) relL_nil)) (fun k b h => (rowsIn_get (w := W) (ads := []) (by exact trivial) h).2)

theorem filterSame_met (os : Os) : laidMet Tryd.prog Rows.filterSameRow.laid ((witW os).forCall (fun _ _ => 0) ⟨#[], #[.slice none 0 0, .int .u8 0], []⟩).memory :=
  laidMet_of_run' 8 (by kernel_rfl) (by kernel_rfl)
theorem filterSame_reads (os : Os) {H : Type} (enc : TypeId × Value → H) : ∃ places, DataW.whole enc Tryd.prog ((witW os).forCall (fun _ _ => 0) ⟨#[], #[.slice none 0 0, .int .u8 0], []⟩).memory Tryd.f8.params.toList Rows.filterSameSpec.vars false (#[.slice none 0 0, .int .u8 0] : Array Value).toList 8 = some ([.nil, .lit (.int .u8 0)], [], places) :=
  ⟨[], by kernel_rfl⟩
set_option maxRecDepth 100000 in
theorem filterSame_said : Rows.FilterSameSaid :=
  OpenClaim.holds_of_cond 8 Tryd.f8 rfl rfl rfl rfl rfl rfl rfl ⟨rfl, rfl, rfl, rfl, rfl⟩ rfl rfl rfl rfl rfl (by kernel_rfl) Tryd.func8 (by kernel_rfl)
    (of_decide_eq_true (by kernel_rfl)) (by unfold Func.isWrapper; rw [if_neg (by decide +kernel)]; exact ⟨rfl, rfl⟩)
    (fun os started H enc _ F => by
      rw [OpenClaim.pre_eq_preRow]
      obtain ⟨places, hx⟩ := filterSame_reads os enc
      exact lifted (C := Tryd.checked) (f := 8) (fn := Tryd.f8) (s := Rows.filterSameSpec) (o := OpenSpec.ofChange Rows.filterSameSpec) (tb := 4) rfl rfl (by kernel_rfl) started (by kernel_rfl) Tryd.func8
        (witness_row_at (enc := enc) (C := Tryd.checked) false (witW os) #[.slice none 0 0, .int .u8 0] rfl (by kernel_rfl) (by kernel_rfl) (by kernel_rfl)
          (OpenSpec.preRow_of_cond 8 hx (by kernel_rfl) (fun k hk => by cases hk) (by kernel_rfl) (filterSame_met os)))
        (by kernel_rfl) (by kernel_rfl) rfl Tryd.underlying4 rfl (fun ds h => match ds, h with | [_, _], _ => rfl) filterSame_calls)
theorem filterSame_plain (f : FuncId) (fn : Func) (hf : Tryd.pinned.checked.prog.funcNamed "grapevine/grapevinelaw05.FilterSame" = some f) (hfn : Tryd.pinned.checked.prog.funcs[f]? = some fn) :
    false = Tryd.pinned.checked.prog.looks [] ∧ ∀ (j : Nat) t, fn.params[j]? = some t → Tryd.pinned.checked.prog.wantsStandIn t = false := by
  obtain rfl : f = 8 := Option.some.inj ((show Tryd.prog.funcNamed "grapevine/grapevinelaw05.FilterSame" = some 8 by kernel_rfl).symm.trans hf) |>.symm
  obtain rfl : fn = Tryd.f8 := (Option.some.inj (Tryd.func8.symm.trans hfn)).symm
  refine ⟨by kernel_rfl, fun j t ht => ?_⟩
  have hall : Tryd.f8.params.toList.all (fun t => !Tryd.prog.wantsStandIn t) = true := by kernel_rfl
  have hm : t ∈ Tryd.f8.params.toList := by simpa using Array.mem_of_getElem? ht
  have hz : Tryd.prog.wantsStandIn t = false := by simpa using List.all_eq_true.1 hall t hm
  exact hz
theorem filterSame_card : Rows.FilterSameCardSaid :=
  Claim7.holds_tied_plain_at .later [] _ _ _ _ filterSame_said (fun _ h => by cases h) (by kernel_rfl) (fun _ h => by cases h) filterSame_row_tie rfl ⟨rfl, rfl⟩ (by kernel_rfl) rfl filterSame_plain (by kernel_rfl)
end Go.Proofs.YtlclimhimiladaaDoor
