/- Law PulseMerge: the statement. -/
import Derived.Test.YtnkhdnmilncidaaU14g
import Derived.Test.YtnkhdnmilncidaaOpen14
namespace Go.Proofs.Ytnkhdnmilncidaa
open Go.RowKit Go.ChangeShapes

theorem pulseMerge_calls {H : Type} {enc : TypeId × Value → H} (W : World) (base : Nat) (args : Array Value) (ds : List (DataW H)) (ps : List MemPlace)
    (hval : ∀ (j : Nat) t v, Try.f5.params[j]? = some t → args[j]? = some v → Value.okWide Try.prog W .any base t v)
    (hA : DataW.TrodAll enc Try.prog W 0 (fun _ => true) true Try.f5.params.toList args.toList ds ps) (hlt : ∀ x ∈ ps, x.block < W.heap.size) (hL : laidMetH Try.prog Rows.pulseMergeRow.laid W)
    (hc : ∀ k, (OpenSpec.ofChange Rows.pulseMergeSpec).cond = some k → k H ds = true) (hw : (DataW.weightsEach Try.prog Try.f5.params.toList ds).all (· ≤ reachBytes) = true) :
    Calls Try.prog 5 args W (Yes W) := by
  rw [Try.params5] at hA hval
  obtain ⟨v0, vs0, d0, ds0, p0, q0, hvs0, hds0, hps0, h0, r0⟩ := trodAll_cons hA
  obtain ⟨v1, vs1, d1, ds1, p1, q1, hvs1, hds1, hps1, h1, r1⟩ := trodAll_cons r0
  obtain ⟨v2, vs2, d2, ds2, p2, q2, hvs2, hds2, hps2, h2, r2⟩ := trodAll_cons r1
  obtain ⟨hvsE, _, _⟩ := trodAll_nil r2
  obtain rfl : args = #[v0, v1, v2] := by cases args; simp_all
  obtain ⟨ad, a, c1, rfl, ha, hR⟩ := open_mbs (hval 0 _ _ rfl rfl) h0
  obtain ⟨ae, b, c2, rfl, hb, hS⟩ := open_mbs (hval 1 _ _ rfl rfl) h1
  obtain ⟨af, c, c3, rfl, hc, hT⟩ := open_mbs (hval 2 _ _ rfl rfl) h2
  exact yes_of_fn (pulseMerge_ok a b c c1 c2 c3 hR.le hS.le hT.le ha hb hc) (mem_of_rows (ads := [ad, ae, af]) (by exact ⟨hR.blk, hS.blk, hT.blk, trivial⟩) (fun x b h => by simp [assoc] at h)) (relL_cons (rel_row hR rfl) (relL_cons (rel_row hS rfl) (relL_cons (rel_row hT rfl) relL_nil))) (fun k b h => (rowsIn_get (w := W) (ads := [ad, ae, af]) (by exact ⟨hR.blk, hS.blk, hT.blk, trivial⟩) h).2)

theorem pulseMerge_met (os : Os) : laidMet Try.prog Rows.pulseMergeRow.laid ((witW os).forCall (fun _ _ => 0) ⟨#[], #[.slice none 0 0, .slice none 0 0, .slice none 0 0], []⟩).memory :=
  laidMet_of_run' 8 (by kernel_rfl) (by kernel_rfl)
theorem pulseMerge_reads (os : Os) {H : Type} (enc : TypeId × Value → H) : ∃ places, DataW.whole enc Try.prog ((witW os).forCall (fun _ _ => 0) ⟨#[], #[.slice none 0 0, .slice none 0 0, .slice none 0 0], []⟩).memory Try.f5.params.toList Rows.pulseMergeSpec.vars false (#[.slice none 0 0, .slice none 0 0, .slice none 0 0] : Array Value).toList 8 = some ([.nil, .nil, .nil], [], places) :=
  ⟨[], by kernel_rfl⟩
set_option maxRecDepth 100000 in
theorem pulseMerge_said : Rows.PulseMergeSaid :=
  OpenClaim.holds_of_cond 5 Try.f5 rfl rfl rfl rfl rfl rfl rfl ⟨rfl, rfl, rfl, rfl, rfl⟩ rfl rfl rfl rfl rfl (by kernel_rfl) Try.func5 (by kernel_rfl)
    (of_decide_eq_true (by kernel_rfl)) (by unfold Func.isWrapper; rw [if_neg (by decide +kernel)]; exact ⟨rfl, rfl⟩)
    (fun os started H enc _ F => by
      rw [OpenClaim.pre_eq_preRow]
      obtain ⟨places, hx⟩ := pulseMerge_reads os enc
      exact lifted (C := Try.checked) (f := 5) (fn := Try.f5) (s := Rows.pulseMergeSpec) (o := OpenSpec.ofChange Rows.pulseMergeSpec) (tb := 4) rfl rfl (by kernel_rfl) started (by kernel_rfl) Try.func5
        (witness_row_at (enc := enc) (C := Try.checked) false (witW os) #[.slice none 0 0, .slice none 0 0, .slice none 0 0] rfl (by kernel_rfl) (by kernel_rfl) (by kernel_rfl)
          (OpenSpec.preRow_of_cond 8 hx (by kernel_rfl) (fun k hk => by cases hk) (by kernel_rfl) (pulseMerge_met os)))
        (by kernel_rfl) (by kernel_rfl) rfl Try.underlying4 rfl (fun ds h => match ds, h with | [_, _, _], _ => rfl) pulseMerge_calls)
end Go.Proofs.Ytnkhdnmilncidaa
