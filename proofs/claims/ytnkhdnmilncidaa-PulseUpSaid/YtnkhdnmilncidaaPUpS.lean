/- Law PulseUp: the statement. -/
import Derived.Test.YtnkhdnmilncidaaU14h
import Derived.Test.YtnkhdnmilncidaaOpen14
namespace Go.Proofs.Ytnkhdnmilncidaa
open Go.RowKit Go.ChangeShapes

theorem pulseUp_calls {H : Type} {enc : TypeId × Value → H} (W : World) (base : Nat) (args : Array Value) (ds : List (DataW H)) (ps : List MemPlace)
    (hval : ∀ (j : Nat) t v, Try.f7.params[j]? = some t → args[j]? = some v → Value.okWide Try.prog W .any base t v)
    (hA : DataW.TrodAll enc Try.prog W 0 (fun _ => true) true Try.f7.params.toList args.toList ds ps) (hlt : ∀ x ∈ ps, x.block < W.heap.size) (hL : laidMetH Try.prog Rows.pulseUpRow.laid W)
    (hc : ∀ k, (OpenSpec.ofChange Rows.pulseUpSpec).cond = some k → k H ds = true) (hw : (DataW.weightsEach Try.prog Try.f7.params.toList ds).all (· ≤ reachBytes) = true) :
    Calls Try.prog 7 args W (Yes W) := by
  rw [Try.params7] at hA hval
  obtain ⟨v0, vs0, d0, ds0, p0, q0, hvs0, hds0, hps0, h0, r0⟩ := trodAll_cons hA
  obtain ⟨v1, vs1, d1, ds1, p1, q1, hvs1, hds1, hps1, h1, r1⟩ := trodAll_cons r0
  obtain ⟨v2, vs2, d2, ds2, p2, q2, hvs2, hds2, hps2, h2, r2⟩ := trodAll_cons r1
  obtain ⟨hvsE, _, _⟩ := trodAll_nil r2
  obtain rfl : args = #[v0, v1, v2] := by cases args; simp_all
  obtain ⟨ad, a, c1, rfl, ha, hR⟩ := open_mbs (hval 0 _ _ rfl rfl) h0
  obtain ⟨nd, rfl, hd0, hd1⟩ := open_u8 (hval 1 _ _ rfl rfl) h1
  obtain ⟨nd, rfl⟩ := Int.eq_ofNat_of_zero_le hd0
  obtain ⟨v, rfl, hv0, hv1⟩ := open_u16 (hval 2 _ _ rfl rfl) h2
  exact yes_of_fn (pulseUp_ok a c1 nd v hR.le ha (by omega) hv0 hv1) (mem_of_rows (ads := [ad]) (by exact ⟨hR.blk, trivial⟩) (fun x b h => by simp [assoc] at h)) (relL_cons (rel_row hR rfl) (relL_cons (rel_c rfl) (relL_cons (rel_c rfl) relL_nil))) (fun k b h => (rowsIn_get (w := W) (ads := [ad]) (by exact ⟨hR.blk, trivial⟩) h).2)

theorem pulseUp_met (os : Os) : laidMet Try.prog Rows.pulseUpRow.laid ((witW os).forCall (fun _ _ => 0) ⟨#[], #[.slice none 0 0, .int .u8 0, .int .u16 0], []⟩).memory :=
  laidMet_of_run' 8 (by kernel_rfl) (by kernel_rfl)
theorem pulseUp_reads (os : Os) {H : Type} (enc : TypeId × Value → H) : ∃ places, DataW.whole enc Try.prog ((witW os).forCall (fun _ _ => 0) ⟨#[], #[.slice none 0 0, .int .u8 0, .int .u16 0], []⟩).memory Try.f7.params.toList Rows.pulseUpSpec.vars false (#[.slice none 0 0, .int .u8 0, .int .u16 0] : Array Value).toList 8 = some ([.nil, .lit (.int .u8 0), .lit (.int .u16 0)], [], places) :=
  ⟨[], by kernel_rfl⟩
set_option maxRecDepth 100000 in
theorem pulseUp_said : Rows.PulseUpSaid :=
  OpenClaim.holds_of_cond 7 Try.f7 rfl rfl rfl rfl rfl rfl rfl ⟨rfl, rfl, rfl, rfl, rfl⟩ rfl rfl rfl rfl rfl (by kernel_rfl) Try.func7 (by kernel_rfl)
    (of_decide_eq_true (by kernel_rfl)) (by unfold Func.isWrapper; rw [if_neg (by decide +kernel)]; exact ⟨rfl, rfl⟩)
    (fun os started H enc _ F => by
      rw [OpenClaim.pre_eq_preRow]
      obtain ⟨places, hx⟩ := pulseUp_reads os enc
      exact lifted (C := Try.checked) (f := 7) (fn := Try.f7) (s := Rows.pulseUpSpec) (o := OpenSpec.ofChange Rows.pulseUpSpec) (tb := 4) rfl rfl (by kernel_rfl) started (by kernel_rfl) Try.func7
        (witness_row_at (enc := enc) (C := Try.checked) false (witW os) #[.slice none 0 0, .int .u8 0, .int .u16 0] rfl (by kernel_rfl) (by kernel_rfl) (by kernel_rfl)
          (OpenSpec.preRow_of_cond 8 hx (by kernel_rfl) (fun k hk => by cases hk) (by kernel_rfl) (pulseUp_met os)))
        (by kernel_rfl) (by kernel_rfl) rfl Try.underlying4 rfl (fun ds h => match ds, h with | [_, _, _], _ => rfl) pulseUp_calls)
end Go.Proofs.Ytnkhdnmilncidaa
