/- Law ScoreKeys: the statement. -/
import Derived.Test.YtkmnglgjbmipgaaDoorS06l
import Derived.Test.YtkmnglgjbmipgaaDoorOpen06
namespace Go.Proofs.YtkmnglgjbmipgaaDoor
open Go.RowKit Go.ChangeShapes

theorem scoreKeys_calls {H : Type} {enc : TypeId × Value → H} (W : World) (base : Nat) (args : Array Value) (ds : List (DataW H)) (ps : List MemPlace)
    (hval : ∀ (j : Nat) t v, Tryd.f8.params[j]? = some t → args[j]? = some v → Value.okWide Tryd.prog W .any base t v)
    (hA : DataW.TrodAll enc Tryd.prog W 0 (fun _ => true) true Tryd.f8.params.toList args.toList ds ps) (_hlt : ∀ x ∈ ps, x.block < W.heap.size) (hL : laidMetH Tryd.prog Rows.scoreKeysRow.laid W)
    (_hc : ∀ k, (OpenSpec.ofChange Rows.scoreKeysSpec).cond = some k → k H ds = true) (_hw : (DataW.weightsEach Tryd.prog Tryd.f8.params.toList ds).all (· ≤ reachBytes) = true) :
    Calls Tryd.prog 8 args W (Yes W) := by
  rw [Tryd.params8] at hA hval
  obtain ⟨v0, vs0, d0, ds0, p0, q0, hvs0, hds0, hps0, h0, r0⟩ := trodAll_cons hA
  obtain ⟨v1, vs1, d1, ds1, p1, q1, hvs1, hds1, hps1, h1, r1⟩ := trodAll_cons r0
  obtain ⟨v2, vs2, d2, ds2, p2, q2, hvs2, hds2, hps2, h2, r2⟩ := trodAll_cons r1
  obtain ⟨hvsE, _, _⟩ := trodAll_nil r2
  obtain rfl : args = #[v0, v1, v2] := by cases args; simp_all
  have g := gl_of_laid hL
  obtain ⟨a0, s, cs, rfl, hos, hS1⟩ := open_schema (hval 0 _ _ rfl rfl) h0
  obtain ⟨a1, va, ca, rfl, _, hA1⟩ := open_vals (hval 1 _ _ rfl rfl) h1
  obtain ⟨a2, vb, cb, rfl, _, hB1⟩ := open_vals (hval 2 _ _ rfl rfl) h2
  exact yes_of_fn (scoreKeys_ok s va vb cs ca cb (by have := hS1.le; have := hS1.max; simp only [maxLen] at this; omega) (by have := hA1.le; have := hA1.max; simp only [maxLen] at this; omega) (by have := hB1.le; have := hB1.max; simp only [maxLen] at this; omega) hos) (rho_q W []) (mem_of_rows (ads := []) (by exact trivial) (glob_ok g)) (relL_cons (rel_z hS1) (relL_cons (rel_z hA1) (relL_cons (rel_z hB1) relL_nil))) (fun k b h => (rowsIn_get (w := W) (ads := []) (by exact trivial) h).2)

theorem scoreKeys_met (os : Os) : laidMet Tryd.prog Rows.scoreKeysRow.laid ((witW os).forCall (fun _ _ => 0) ⟨#[], #[.slice none 0 0, .slice none 0 0, .slice none 0 0], []⟩).memory :=
  laidMet_of_run' 8 (by kernel_rfl) (by kernel_rfl)
theorem scoreKeys_reads (os : Os) {H : Type} (enc : TypeId × Value → H) : ∃ places, DataW.whole enc Tryd.prog ((witW os).forCall (fun _ _ => 0) ⟨#[], #[.slice none 0 0, .slice none 0 0, .slice none 0 0], []⟩).memory Tryd.f8.params.toList Rows.scoreKeysSpec.vars false (#[.slice none 0 0, .slice none 0 0, .slice none 0 0] : Array Value).toList 8 = some ([.nil, .nil, .nil], [], places) :=
  ⟨[], by kernel_rfl⟩
set_option maxRecDepth 100000 in
theorem scoreKeys_said : Rows.ScoreKeysSaid :=
  OpenClaim.holds_of_cond 8 Tryd.f8 rfl rfl rfl rfl rfl rfl rfl ⟨rfl, rfl, rfl, rfl, rfl⟩ rfl rfl rfl rfl rfl (by kernel_rfl) Tryd.func8 (by kernel_rfl)
    (of_decide_eq_true (by kernel_rfl)) (by unfold Func.isWrapper; rw [if_neg (by decide +kernel)]; exact ⟨rfl, rfl⟩)
    (fun os started H enc _ F => by
      rw [OpenClaim.pre_eq_preRow]
      obtain ⟨places, hx⟩ := scoreKeys_reads os enc
      exact lifted (C := Tryd.checked) (f := 8) (fn := Tryd.f8) (s := Rows.scoreKeysSpec) (o := OpenSpec.ofChange Rows.scoreKeysSpec) (tb := 4) rfl rfl (by kernel_rfl) started (by kernel_rfl) Tryd.func8
        (witness_row_at (enc := enc) (C := Tryd.checked) false (witW os) #[.slice none 0 0, .slice none 0 0, .slice none 0 0] rfl (by kernel_rfl) (by kernel_rfl) (by kernel_rfl)
          (OpenSpec.preRow_of_cond 8 hx (by kernel_rfl) (fun k hk => by cases hk) (by kernel_rfl) (scoreKeys_met os)))
        (by kernel_rfl) (by kernel_rfl) rfl Tryd.underlying4 rfl (fun ds h => match ds, h with | [_, _, _], _ => rfl) scoreKeys_calls)
theorem scoreKeys_plain (f : FuncId) (fn : Func) (hf : Tryd.pinned.checked.prog.funcNamed "grapevine/grapevinelaw06.ScoreKeys" = some f) (hfn : Tryd.pinned.checked.prog.funcs[f]? = some fn) :
    false = Tryd.pinned.checked.prog.looks [] ∧ ∀ (j : Nat) t, fn.params[j]? = some t → Tryd.pinned.checked.prog.wantsStandIn t = false := by
  obtain rfl : f = 8 := Option.some.inj ((show Tryd.prog.funcNamed "grapevine/grapevinelaw06.ScoreKeys" = some 8 by kernel_rfl).symm.trans hf) |>.symm
  obtain rfl : fn = Tryd.f8 := (Option.some.inj (Tryd.func8.symm.trans hfn)).symm
  refine ⟨by kernel_rfl, fun j t ht => ?_⟩
  have hall : Tryd.f8.params.toList.all (fun t => !Tryd.prog.wantsStandIn t) = true := by kernel_rfl
  have hm : t ∈ Tryd.f8.params.toList := by simpa using Array.mem_of_getElem? ht
  have hz : Tryd.prog.wantsStandIn t = false := by simpa using List.all_eq_true.1 hall t hm
  exact hz
theorem scoreKeys_card : Rows.ScoreKeysCardSaid :=
  Claim7.holds_tied_plain_at .later [] _ _ _ _ scoreKeys_said (fun _ h => by cases h) (by kernel_rfl) (fun _ h => by cases h) scoreKeys_row_tie rfl ⟨rfl, rfl⟩ (by kernel_rfl) rfl scoreKeys_plain (by kernel_rfl)
end Go.Proofs.YtkmnglgjbmipgaaDoor
