/- Law OutboxTells: the statement. -/
import Derived.Test.YtkcdomafdjpbjaaT21m
import Derived.Test.YtkcdomafdjpbjaaOpen21b
namespace Go.Proofs.Ytkcdomafdjpbjaa
open Go.RowKit Go.ChangeShapes

theorem outboxTells_calls {H : Type} {enc : TypeId × Value → H} (W : World) (base : Nat) (args : Array Value) (ds : List (DataW H)) (ps : List MemPlace)
    (hval : ∀ (j : Nat) t v, Try.f3.params[j]? = some t → args[j]? = some v → Value.okWide Try.prog W .any base t v)
    (hA : DataW.TrodAll enc Try.prog W 0 (fun _ => true) true Try.f3.params.toList args.toList ds ps) (_hlt : ∀ x ∈ ps, x.block < W.heap.size) (hL : laidMetH Try.prog Rows.outboxTellsRow.laid W)
    (_hc : ∀ k, (OpenSpec.ofChange Rows.outboxTellsSpec).cond = some k → k H ds = true) (_hw : (DataW.weightsEach Try.prog Try.f3.params.toList ds).all (· ≤ reachBytes) = true) :
    Calls Try.prog 3 args W (Yes W) := by
  rw [Try.params3] at hA hval
  obtain ⟨v0, vs0, d0, ds0, p0, q0, hvs0, hds0, hps0, h0, r0⟩ := trodAll_cons hA
  obtain ⟨v1, vs1, d1, ds1, p1, q1, hvs1, hds1, hps1, h1, r1⟩ := trodAll_cons r0
  obtain ⟨hvsE, _, _⟩ := trodAll_nil r1
  obtain rfl : args = #[v0, v1] := by cases args; simp_all
  obtain ⟨o, c, ⟨hc, hcm⟩, hin, hO⟩ := open_ob (hval 0 _ _ rfl rfl) h0
  obtain ⟨m, c1, c2, c3, c4, c5, c6, _, _, _, _, _, _, hm, hM⟩ := open_ms (hval 1 _ _ rfl rfl) h1
  exact yes_of_fn (outboxTells_ok o.room o.lost o.l c m c1 c2 c3 c4 c5 c6 (Nat.le_trans hc hcm) hin hm) (rho_q W []) (mem_of_rows (ads := []) (by exact trivial) (fun x b h => by simp [assoc] at h)) (relL_cons (hO _) (relL_cons (hM _) relL_nil)) (fun k b h => (rowsIn_get (w := W) (ads := []) (by exact trivial) h).2)

theorem outboxTells_met (os : Os) : laidMet Try.prog Rows.outboxTellsRow.laid ((witW os).forCall (fun _ _ => 0) ⟨#[], #[.agg #[.int .i64 0, .slice none 0 0, .int .i64 0], .agg #[.int .u8 0, .int .u8 0, .int .u16 0, .int .u8 0, .slice none 0 0, .slice none 0 0, .int .u8 0, .int .u16 0, .int .u32 0, .slice none 0 0, .slice none 0 0, .int .u8 0, .int .u8 0, .int .u16 0, .int .u32 0, .slice none 0 0, .slice none 0 0]], []⟩).memory :=
  laidMet_of_run' 8 (by kernel_rfl) (by kernel_rfl)
theorem outboxTells_reads (os : Os) {H : Type} (enc : TypeId × Value → H) : ∃ places, DataW.whole enc Try.prog ((witW os).forCall (fun _ _ => 0) ⟨#[], #[.agg #[.int .i64 0, .slice none 0 0, .int .i64 0], .agg #[.int .u8 0, .int .u8 0, .int .u16 0, .int .u8 0, .slice none 0 0, .slice none 0 0, .int .u8 0, .int .u16 0, .int .u32 0, .slice none 0 0, .slice none 0 0, .int .u8 0, .int .u8 0, .int .u16 0, .int .u32 0, .slice none 0 0, .slice none 0 0]], []⟩).memory Try.f3.params.toList Rows.outboxTellsSpec.vars false (#[.agg #[.int .i64 0, .slice none 0 0, .int .i64 0], .agg #[.int .u8 0, .int .u8 0, .int .u16 0, .int .u8 0, .slice none 0 0, .slice none 0 0, .int .u8 0, .int .u16 0, .int .u32 0, .slice none 0 0, .slice none 0 0, .int .u8 0, .int .u8 0, .int .u16 0, .int .u32 0, .slice none 0 0, .slice none 0 0]] : Array Value).toList 8 = some ([.agg [.lit (.int .i64 0), .nil, .lit (.int .i64 0)], .agg [.lit (.int .u8 0), .lit (.int .u8 0), .lit (.int .u16 0), .lit (.int .u8 0), .nil, .nil, .agg [.agg [.lit (.int .u8 0), .lit (.int .u16 0), .lit (.int .u32 0)], .nil, .nil], .lit (.int .u8 0), .agg [.lit (.int .u8 0), .lit (.int .u16 0), .lit (.int .u32 0)], .nil, .nil]], [], places) :=
  ⟨[], by kernel_rfl⟩
set_option maxRecDepth 100000 in
theorem outboxTells_said : Rows.OutboxTellsSaid :=
  OpenClaim.holds_of_cond 3 Try.f3 rfl rfl rfl rfl rfl rfl rfl ⟨rfl, rfl, rfl, rfl, rfl⟩ rfl rfl rfl rfl rfl (by kernel_rfl) Try.func3 (by kernel_rfl)
    (of_decide_eq_true (by kernel_rfl)) (by unfold Func.isWrapper; rw [if_neg (by decide +kernel)]; exact ⟨rfl, rfl⟩)
    (fun os started H enc _ F => by
      rw [OpenClaim.pre_eq_preRow]
      obtain ⟨places, hx⟩ := outboxTells_reads os enc
      exact lifted (C := Try.checked) (f := 3) (fn := Try.f3) (s := Rows.outboxTellsSpec) (o := OpenSpec.ofChange Rows.outboxTellsSpec) (tb := 4) rfl rfl (by kernel_rfl) started (by kernel_rfl) Try.func3
        (witness_row_at (enc := enc) (C := Try.checked) false (witW os) #[.agg #[.int .i64 0, .slice none 0 0, .int .i64 0], .agg #[.int .u8 0, .int .u8 0, .int .u16 0, .int .u8 0, .slice none 0 0, .slice none 0 0, .int .u8 0, .int .u16 0, .int .u32 0, .slice none 0 0, .slice none 0 0, .int .u8 0, .int .u8 0, .int .u16 0, .int .u32 0, .slice none 0 0, .slice none 0 0]] rfl (by kernel_rfl) (by kernel_rfl) (by kernel_rfl)
          (OpenSpec.preRow_of_cond 8 hx (by kernel_rfl) (fun k hk => by cases hk) (by kernel_rfl) (outboxTells_met os)))
        (by kernel_rfl) (by kernel_rfl) rfl Try.underlying4 rfl (fun ds h => match ds, h with | [_, _], _ => rfl) outboxTells_calls)
end Go.Proofs.Ytkcdomafdjpbjaa
