/- Law OutboxOrder: the statement. -/
import Derived.Test.YtkcdomafdjpbjaaT21n
import Derived.Test.YtkcdomafdjpbjaaOpen21c
namespace Go.Proofs.Ytkcdomafdjpbjaa
open Go.RowKit Go.ChangeShapes

theorem outboxOrder_calls {H : Type} {enc : TypeId × Value → H} (W : World) (base : Nat) (args : Array Value) (ds : List (DataW H)) (ps : List MemPlace)
    (hval : ∀ (j : Nat) t v, Try.f4.params[j]? = some t → args[j]? = some v → Value.okWide Try.prog W .any base t v)
    (hA : DataW.TrodAll enc Try.prog W 0 (fun _ => true) true Try.f4.params.toList args.toList ds ps) (_hlt : ∀ x ∈ ps, x.block < W.heap.size) (hL : laidMetH Try.prog Rows.outboxOrderRow.laid W)
    (_hc : ∀ k, (OpenSpec.ofChange Rows.outboxOrderSpec).cond = some k → k H ds = true) (_hw : (DataW.weightsEach Try.prog Try.f4.params.toList ds).all (· ≤ reachBytes) = true) :
    Calls Try.prog 4 args W (Yes W) := by
  rw [Try.params4] at hA hval
  obtain ⟨v0, vs0, d0, ds0, p0, q0, hvs0, hds0, hps0, h0, r0⟩ := trodAll_cons hA
  obtain ⟨v1, vs1, d1, ds1, p1, q1, hvs1, hds1, hps1, h1, r1⟩ := trodAll_cons r0
  obtain ⟨v2, vs2, d2, ds2, p2, q2, hvs2, hds2, hps2, h2, r2⟩ := trodAll_cons r1
  obtain ⟨hvsE, _, _⟩ := trodAll_nil r2
  obtain rfl : args = #[v0, v1, v2] := by cases args; simp_all
  obtain ⟨room, rfl, _, _⟩ := open_u8 (hval 0 _ _ rfl rfl) h0
  obtain ⟨a1, l, cl, rfl, hl, hR1⟩ := open_msl (hval 1 _ _ rfl rfl) h1
  obtain ⟨a2, tks, ct, rfl, _, hR2⟩ := open_u1l (hval 2 _ _ rfl rfl) h2
  exact yes_of_fn (order_ok room l cl tks ct (Nat.le_trans hR1.le hR1.max) hl (Nat.le_trans hR2.le hR2.max)) (rho_q W []) (mem_of_rows (ads := []) (by exact trivial) (fun x b h => by simp [assoc] at h)) (relL_cons (rel_c rfl) (relL_cons (rel_z hR1) (relL_cons (rel_z hR2) relL_nil))) (fun k b h => (rowsIn_get (w := W) (ads := []) (by exact trivial) h).2)

theorem outboxOrder_met (os : Os) : laidMet Try.prog Rows.outboxOrderRow.laid ((witW os).forCall (fun _ _ => 0) ⟨#[], #[.int .u8 0, .slice none 0 0, .slice none 0 0], []⟩).memory :=
  laidMet_of_run' 8 (by kernel_rfl) (by kernel_rfl)
theorem outboxOrder_reads (os : Os) {H : Type} (enc : TypeId × Value → H) : ∃ places, DataW.whole enc Try.prog ((witW os).forCall (fun _ _ => 0) ⟨#[], #[.int .u8 0, .slice none 0 0, .slice none 0 0], []⟩).memory Try.f4.params.toList Rows.outboxOrderSpec.vars false (#[.int .u8 0, .slice none 0 0, .slice none 0 0] : Array Value).toList 8 = some ([.lit (.int .u8 0), .nil, .nil], [], places) :=
  ⟨[], by kernel_rfl⟩
set_option maxRecDepth 100000 in
theorem outboxOrder_said : Rows.OutboxOrderSaid :=
  OpenClaim.holds_of_cond 4 Try.f4 rfl rfl rfl rfl rfl rfl rfl ⟨rfl, rfl, rfl, rfl, rfl⟩ rfl rfl rfl rfl rfl (by kernel_rfl) Try.func4 (by kernel_rfl)
    (of_decide_eq_true (by kernel_rfl)) (by unfold Func.isWrapper; rw [if_neg (by decide +kernel)]; exact ⟨rfl, rfl⟩)
    (fun os started H enc _ F => by
      rw [OpenClaim.pre_eq_preRow]
      obtain ⟨places, hx⟩ := outboxOrder_reads os enc
      exact lifted (C := Try.checked) (f := 4) (fn := Try.f4) (s := Rows.outboxOrderSpec) (o := OpenSpec.ofChange Rows.outboxOrderSpec) (tb := 4) rfl rfl (by kernel_rfl) started (by kernel_rfl) Try.func4
        (witness_row_at (enc := enc) (C := Try.checked) false (witW os) #[.int .u8 0, .slice none 0 0, .slice none 0 0] rfl (by kernel_rfl) (by kernel_rfl) (by kernel_rfl)
          (OpenSpec.preRow_of_cond 8 hx (by kernel_rfl) (fun k hk => by cases hk) (by kernel_rfl) (outboxOrder_met os)))
        (by kernel_rfl) (by kernel_rfl) rfl Try.underlying4 rfl (fun ds h => match ds, h with | [_, _, _], _ => rfl) outboxOrder_calls)
end Go.Proofs.Ytkcdomafdjpbjaa
