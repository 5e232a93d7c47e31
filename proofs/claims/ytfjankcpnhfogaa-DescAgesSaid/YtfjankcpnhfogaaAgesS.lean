/- Law DescAges: the statement. -/
import Derived.Test.YtfjankcpnhfogaaD09o
import Derived.Test.YtfjankcpnhfogaaOpen09
namespace Go.Proofs.Ytfjankcpnhfogaa
open Go.RowKit Go.ChangeShapes

theorem descAges_calls {H : Type} {enc : TypeId × Value → H} (W : World) (base : Nat) (args : Array Value) (ds : List (DataW H)) (ps : List MemPlace)
    (hval : ∀ (j : Nat) t v, Try.f6.params[j]? = some t → args[j]? = some v → Value.okWide Try.prog W .any base t v)
    (hA : DataW.TrodAll enc Try.prog W 0 (fun _ => true) true Try.f6.params.toList args.toList ds ps) (hlt : ∀ x ∈ ps, x.block < W.heap.size) (hL : laidMetH Try.prog Rows.descAgesRow.laid W)
    (hc : ∀ k, (OpenSpec.ofChange Rows.descAgesSpec).cond = some k → k H ds = true) (hw : (DataW.weightsEach Try.prog Try.f6.params.toList ds).all (· ≤ reachBytes) = true) :
    Calls Try.prog 6 args W (Yes W) := by
  rw [Try.params6] at hA hval
  obtain ⟨v0, vs0, d0, ds0, p0, q0, hvs0, hds0, hps0, h0, r0⟩ := trodAll_cons hA
  obtain ⟨v1, vs1, d1, ds1, p1, q1, hvs1, hds1, hps1, h1, r1⟩ := trodAll_cons r0
  obtain ⟨hvsE, _, _⟩ := trodAll_nil r1
  obtain rfl : args = #[v0, v1] := by cases args; simp_all
  obtain ⟨ad, l, cap, rfl, hl, hR⟩ := open_descs (hval 0 _ _ rfl rfl) h0
  obtain ⟨self, rfl, _, _⟩ := open_u8 (hval 1 _ _ rfl rfl) h1
  exact yes_of_fn (descAges_ok l cap self (by have := hR.le; have := hR.max; simp only [maxLen] at this; omega) hl) (rho_q W [ad]) (mem_of_rows (ads := [ad]) (by exact ⟨(fun ρ h => hR.blk (by decide) h), trivial⟩) (fun x b h => by simp [assoc] at h)) (relL_cons (rel_row hR rfl) (relL_cons (rel_c rfl) relL_nil)) (fun k b h => (rowsIn_get (w := W) (ads := [ad]) (by exact ⟨(fun ρ h => hR.blk (by decide) h), trivial⟩) h).2)

theorem descAges_met (os : Os) : laidMet Try.prog Rows.descAgesRow.laid ((witW os).forCall (fun _ _ => 0) ⟨#[], #[.slice none 0 0, .int .u8 0], []⟩).memory :=
  laidMet_of_run' 8 (by kernel_rfl) (by kernel_rfl)
theorem descAges_reads (os : Os) {H : Type} (enc : TypeId × Value → H) : ∃ places, DataW.whole enc Try.prog ((witW os).forCall (fun _ _ => 0) ⟨#[], #[.slice none 0 0, .int .u8 0], []⟩).memory Try.f6.params.toList Rows.descAgesSpec.vars false (#[.slice none 0 0, .int .u8 0] : Array Value).toList 8 = some ([.nil, .lit (.int .u8 0)], [], places) :=
  ⟨[], by kernel_rfl⟩
set_option maxRecDepth 100000 in
theorem descAges_said : Rows.DescAgesSaid :=
  OpenClaim.holds_of_cond 6 Try.f6 rfl rfl rfl rfl rfl rfl rfl ⟨rfl, rfl, rfl, rfl, rfl⟩ rfl rfl rfl rfl rfl (by kernel_rfl) Try.func6 (by kernel_rfl)
    (of_decide_eq_true (by kernel_rfl)) (by unfold Func.isWrapper; rw [if_neg (by decide +kernel)]; exact ⟨rfl, rfl⟩)
    (fun os started H enc _ F => by
      rw [OpenClaim.pre_eq_preRow]
      obtain ⟨places, hx⟩ := descAges_reads os enc
      exact lifted (C := Try.checked) (f := 6) (fn := Try.f6) (s := Rows.descAgesSpec) (o := OpenSpec.ofChange Rows.descAgesSpec) (tb := 4) rfl rfl (by kernel_rfl) started (by kernel_rfl) Try.func6
        (witness_row_at (enc := enc) (C := Try.checked) false (witW os) #[.slice none 0 0, .int .u8 0] rfl (by kernel_rfl) (by kernel_rfl) (by kernel_rfl)
          (OpenSpec.preRow_of_cond 8 hx (by kernel_rfl) (fun k hk => by cases hk) (by kernel_rfl) (descAges_met os)))
        (by kernel_rfl) (by kernel_rfl) rfl Try.underlying4 rfl (fun ds h => match ds, h with | [_, _], _ => rfl) descAges_calls)
end Go.Proofs.Ytfjankcpnhfogaa
