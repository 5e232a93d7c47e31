/- Law PushHops: the statement. -/
import Derived.Test.YthbgcdnjmdgkoaaP16e
import Derived.Test.YthbgcdnjmdgkoaaOpen16
namespace Go.Proofs.Ythbgcdnjmdgkoaa
open Go.RowKit Go.ChangeShapes

theorem pushHops_calls {H : Type} {enc : TypeId × Value → H} (W : World) (base : Nat) (args : Array Value) (ds : List (DataW H)) (ps : List MemPlace)
    (hval : ∀ (j : Nat) t v, Try.f7.params[j]? = some t → args[j]? = some v → Value.okWide Try.prog W .any base t v)
    (hA : DataW.TrodAll enc Try.prog W 0 (fun _ => true) true Try.f7.params.toList args.toList ds ps) (hlt : ∀ x ∈ ps, x.block < W.heap.size) (hL : laidMetH Try.prog Rows.pushHopsRow.laid W)
    (hc : ∀ k, (OpenSpec.ofChange Rows.pushHopsSpec).cond = some k → k H ds = true) (hw : (DataW.weightsEach Try.prog Try.f7.params.toList ds).all (· ≤ reachBytes) = true) :
    Calls Try.prog 7 args W (Yes W) := by
  rw [Try.params7] at hA hval
  obtain ⟨v0, vs0, d0, ds0, p0, q0, hvs0, hds0, hps0, h0, r0⟩ := trodAll_cons hA
  obtain ⟨hvsE, _, _⟩ := trodAll_nil r0
  obtain rfl : args = #[v0] := by cases args; simp_all
  obtain ⟨a, rfl, ha, ha'⟩ := open_u8 (hval 0 _ _ rfl rfl) h0
  obtain ⟨n, rfl⟩ := Int.eq_ofNat_of_zero_le ha
  exact yes_of_fn (pushHops_ok n (by omega)) (mem_of_rows (ads := []) (by exact trivial) (fun x b h => by simp [assoc] at h)) (relL_cons (rel_c rfl) relL_nil) (fun k b h => (rowsIn_get (w := W) (ads := []) (by exact trivial) h).2)

theorem pushHops_met (os : Os) : laidMet Try.prog Rows.pushHopsRow.laid ((witW os).forCall (fun _ _ => 0) ⟨#[], #[.int .u8 0], []⟩).memory :=
  laidMet_of_run' 8 (by kernel_rfl) (by kernel_rfl)
theorem pushHops_reads (os : Os) {H : Type} (enc : TypeId × Value → H) : ∃ places, DataW.whole enc Try.prog ((witW os).forCall (fun _ _ => 0) ⟨#[], #[.int .u8 0], []⟩).memory Try.f7.params.toList Rows.pushHopsSpec.vars false (#[.int .u8 0] : Array Value).toList 8 = some ([.lit (.int .u8 0)], [], places) :=
  ⟨[], by kernel_rfl⟩
set_option maxRecDepth 100000 in
theorem pushHops_said : Rows.PushHopsSaid :=
  OpenClaim.holds_of_cond 7 Try.f7 rfl rfl rfl rfl rfl rfl rfl ⟨rfl, rfl, rfl, rfl, rfl⟩ rfl rfl rfl rfl rfl (by kernel_rfl) Try.func7 (by kernel_rfl)
    (of_decide_eq_true (by kernel_rfl)) (by unfold Func.isWrapper; rw [if_neg (by decide +kernel)]; exact ⟨rfl, rfl⟩)
    (fun os started H enc _ F => by
      rw [OpenClaim.pre_eq_preRow]
      obtain ⟨places, hx⟩ := pushHops_reads os enc
      exact lifted (C := Try.checked) (f := 7) (fn := Try.f7) (s := Rows.pushHopsSpec) (o := OpenSpec.ofChange Rows.pushHopsSpec) (tb := 4) rfl rfl (by kernel_rfl) started (by kernel_rfl) Try.func7
        (witness_row_at (enc := enc) (C := Try.checked) false (witW os) #[.int .u8 0] rfl (by kernel_rfl) (by kernel_rfl) (by kernel_rfl)
          (OpenSpec.preRow_of_cond 8 hx (by kernel_rfl) (fun k hk => by cases hk) (by kernel_rfl) (pushHops_met os)))
        (by kernel_rfl) (by kernel_rfl) rfl Try.underlying4 rfl (fun ds h => match ds, h with | [_], _ => rfl) pushHops_calls)
end Go.Proofs.Ythbgcdnjmdgkoaa
