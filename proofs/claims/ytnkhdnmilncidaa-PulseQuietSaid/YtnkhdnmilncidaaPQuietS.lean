/- Law PulseQuiet: the statement. -/
import Derived.Test.YtnkhdnmilncidaaU14i
import Derived.Test.YtnkhdnmilncidaaOpen14
namespace Go.Proofs.Ytnkhdnmilncidaa
open Go.RowKit Go.ChangeShapes

theorem pulseQuiet_calls {H : Type} {enc : TypeId × Value → H} (W : World) (base : Nat) (args : Array Value) (ds : List (DataW H)) (ps : List MemPlace)
    (hval : ∀ (j : Nat) t v, Try.f6.params[j]? = some t → args[j]? = some v → Value.okWide Try.prog W .any base t v)
    (hA : DataW.TrodAll enc Try.prog W 0 (fun _ => true) true Try.f6.params.toList args.toList ds ps) (hlt : ∀ x ∈ ps, x.block < W.heap.size) (hL : laidMetH Try.prog Rows.pulseQuietRow.laid W)
    (hc : ∀ k, (OpenSpec.ofChange Rows.pulseQuietSpec).cond = some k → k H ds = true) (hw : (DataW.weightsEach Try.prog Try.f6.params.toList ds).all (· ≤ reachBytes) = true) :
    Calls Try.prog 6 args W (Yes W) := by
  rw [Try.params6] at hA hval
  obtain ⟨v0, vs0, d0, ds0, p0, q0, hvs0, hds0, hps0, h0, r0⟩ := trodAll_cons hA
  obtain ⟨v1, vs1, d1, ds1, p1, q1, hvs1, hds1, hps1, h1, r1⟩ := trodAll_cons r0
  obtain ⟨v2, vs2, d2, ds2, p2, q2, hvs2, hds2, hps2, h2, r2⟩ := trodAll_cons r1
  obtain ⟨hvsE, _, _⟩ := trodAll_nil r2
  obtain rfl : args = #[v0, v1, v2] := by cases args; simp_all
  obtain ⟨v, rfl, hv0, hv1⟩ := open_u16 (hval 0 _ _ rfl rfl) h0
  obtain ⟨af, rfl, ha0, ha1⟩ := open_u8 (hval 1 _ _ rfl rfl) h1
  obtain ⟨af, rfl⟩ := Int.eq_ofNat_of_zero_le ha0
  obtain ⟨a, rfl, hb0, hb1⟩ := open_u8 (hval 2 _ _ rfl rfl) h2
  obtain ⟨a, rfl⟩ := Int.eq_ofNat_of_zero_le hb0
  exact yes_of_fn (pulseQuiet_ok v af a hv0 hv1 (by omega) (by omega)) (mem_of_rows (ads := []) (by exact trivial) (fun x b h => by simp [assoc] at h)) (relL_cons (rel_c rfl) (relL_cons (rel_c rfl) (relL_cons (rel_c rfl) relL_nil))) (fun k b h => (rowsIn_get (w := W) (ads := []) (by exact trivial) h).2)

theorem pulseQuiet_met (os : Os) : laidMet Try.prog Rows.pulseQuietRow.laid ((witW os).forCall (fun _ _ => 0) ⟨#[], #[.int .u16 0, .int .u8 0, .int .u8 0], []⟩).memory :=
  laidMet_of_run' 8 (by kernel_rfl) (by kernel_rfl)
theorem pulseQuiet_reads (os : Os) {H : Type} (enc : TypeId × Value → H) : ∃ places, DataW.whole enc Try.prog ((witW os).forCall (fun _ _ => 0) ⟨#[], #[.int .u16 0, .int .u8 0, .int .u8 0], []⟩).memory Try.f6.params.toList Rows.pulseQuietSpec.vars false (#[.int .u16 0, .int .u8 0, .int .u8 0] : Array Value).toList 8 = some ([.lit (.int .u16 0), .lit (.int .u8 0), .lit (.int .u8 0)], [], places) :=
  ⟨[], by kernel_rfl⟩
set_option maxRecDepth 100000 in
theorem pulseQuiet_said : Rows.PulseQuietSaid :=
  OpenClaim.holds_of_cond 6 Try.f6 rfl rfl rfl rfl rfl rfl rfl ⟨rfl, rfl, rfl, rfl, rfl⟩ rfl rfl rfl rfl rfl (by kernel_rfl) Try.func6 (by kernel_rfl)
    (of_decide_eq_true (by kernel_rfl)) (by unfold Func.isWrapper; rw [if_neg (by decide +kernel)]; exact ⟨rfl, rfl⟩)
    (fun os started H enc _ F => by
      rw [OpenClaim.pre_eq_preRow]
      obtain ⟨places, hx⟩ := pulseQuiet_reads os enc
      exact lifted (C := Try.checked) (f := 6) (fn := Try.f6) (s := Rows.pulseQuietSpec) (o := OpenSpec.ofChange Rows.pulseQuietSpec) (tb := 4) rfl rfl (by kernel_rfl) started (by kernel_rfl) Try.func6
        (witness_row_at (enc := enc) (C := Try.checked) false (witW os) #[.int .u16 0, .int .u8 0, .int .u8 0] rfl (by kernel_rfl) (by kernel_rfl) (by kernel_rfl)
          (OpenSpec.preRow_of_cond 8 hx (by kernel_rfl) (fun k hk => by cases hk) (by kernel_rfl) (pulseQuiet_met os)))
        (by kernel_rfl) (by kernel_rfl) rfl Try.underlying4 rfl (fun ds h => match ds, h with | [_, _, _], _ => rfl) pulseQuiet_calls)
end Go.Proofs.Ytnkhdnmilncidaa
