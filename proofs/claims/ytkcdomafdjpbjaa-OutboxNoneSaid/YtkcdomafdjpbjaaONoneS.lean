/- Law OutboxNone: the statement. -/
import Derived.Test.YtkcdomafdjpbjaaT21i
import Derived.Test.YtkcdomafdjpbjaaOpen21
namespace Go.Proofs.Ytkcdomafdjpbjaa
open Go.RowKit Go.ChangeShapes

theorem outboxNone_calls {H : Type} {enc : TypeId × Value → H} (W : World) (base : Nat) (args : Array Value) (ds : List (DataW H)) (ps : List MemPlace)
    (hval : ∀ (j : Nat) t v, Try.f5.params[j]? = some t → args[j]? = some v → Value.okWide Try.prog W .any base t v)
    (hA : DataW.TrodAll enc Try.prog W 0 (fun _ => true) true Try.f5.params.toList args.toList ds ps) (_hlt : ∀ x ∈ ps, x.block < W.heap.size) (hL : laidMetH Try.prog Rows.outboxNoneRow.laid W)
    (_hc : ∀ k, (OpenSpec.ofChange Rows.outboxNoneSpec).cond = some k → k H ds = true) (_hw : (DataW.weightsEach Try.prog Try.f5.params.toList ds).all (· ≤ reachBytes) = true) :
    Calls Try.prog 5 args W (Yes W) := by
  rw [Try.params5] at hA hval
  obtain ⟨v0, vs0, d0, ds0, p0, q0, hvs0, hds0, hps0, h0, r0⟩ := trodAll_cons hA
  obtain ⟨v1, vs1, d1, ds1, p1, q1, hvs1, hds1, hps1, h1, r1⟩ := trodAll_cons r0
  obtain ⟨v2, vs2, d2, ds2, p2, q2, hvs2, hds2, hps2, h2, r2⟩ := trodAll_cons r1
  obtain ⟨v3, vs3, d3, ds3, p3, q3, hvs3, hds3, hps3, h3, r3⟩ := trodAll_cons r2
  obtain ⟨hvsE, _, _⟩ := trodAll_nil r3
  obtain rfl : args = #[v0, v1, v2, v3] := by cases args; simp_all
  obtain ⟨room, rfl, _, _⟩ := open_i64 (hval 0 _ _ rfl rfl) h0
  obtain ⟨lost, rfl, hl1, hl2⟩ := open_u16 (hval 1 _ _ rfl rfl) h1
  obtain ⟨m, c1, c2, c3, c4, c5, c6, _, _, _, _, _, _, hm, hM⟩ := open_ms (hval 2 _ _ rfl rfl) h2
  obtain ⟨many, rfl, hy1, hy2⟩ := open_u8 (hval 3 _ _ rfl rfl) h3
  exact yes_of_fn (none_ok room lost many m c1 c2 c3 c4 c5 c6 ⟨hl1, hl2⟩ ⟨hy1, hy2⟩ hm) (rho_q W []) (mem_of_rows (ads := []) (by exact trivial) (fun x b h => by simp [assoc] at h)) (relL_cons (rel_c rfl) (relL_cons (rel_c rfl) (relL_cons (hM _) (relL_cons (rel_c rfl) relL_nil)))) (fun k b h => (rowsIn_get (w := W) (ads := []) (by exact trivial) h).2)

theorem outboxNone_met (os : Os) : laidMet Try.prog Rows.outboxNoneRow.laid ((witW os).forCall (fun _ _ => 0) ⟨#[], #[.int .i64 0, .int .u16 0, .agg #[.int .u8 0, .int .u8 0, .int .u16 0, .int .u8 0, .slice none 0 0, .slice none 0 0, .int .u8 0, .int .u16 0, .int .u32 0, .slice none 0 0, .slice none 0 0, .int .u8 0, .int .u8 0, .int .u16 0, .int .u32 0, .slice none 0 0, .slice none 0 0], .int .u8 0], []⟩).memory :=
  laidMet_of_run' 8 (by kernel_rfl) (by kernel_rfl)
theorem outboxNone_reads (os : Os) {H : Type} (enc : TypeId × Value → H) : ∃ places, DataW.whole enc Try.prog ((witW os).forCall (fun _ _ => 0) ⟨#[], #[.int .i64 0, .int .u16 0, .agg #[.int .u8 0, .int .u8 0, .int .u16 0, .int .u8 0, .slice none 0 0, .slice none 0 0, .int .u8 0, .int .u16 0, .int .u32 0, .slice none 0 0, .slice none 0 0, .int .u8 0, .int .u8 0, .int .u16 0, .int .u32 0, .slice none 0 0, .slice none 0 0], .int .u8 0], []⟩).memory Try.f5.params.toList Rows.outboxNoneSpec.vars false (#[.int .i64 0, .int .u16 0, .agg #[.int .u8 0, .int .u8 0, .int .u16 0, .int .u8 0, .slice none 0 0, .slice none 0 0, .int .u8 0, .int .u16 0, .int .u32 0, .slice none 0 0, .slice none 0 0, .int .u8 0, .int .u8 0, .int .u16 0, .int .u32 0, .slice none 0 0, .slice none 0 0], .int .u8 0] : Array Value).toList 8 = some ([.lit (.int .i64 0), .lit (.int .u16 0), .agg [.lit (.int .u8 0), .lit (.int .u8 0), .lit (.int .u16 0), .lit (.int .u8 0), .nil, .nil, .agg [.agg [.lit (.int .u8 0), .lit (.int .u16 0), .lit (.int .u32 0)], .nil, .nil], .lit (.int .u8 0), .agg [.lit (.int .u8 0), .lit (.int .u16 0), .lit (.int .u32 0)], .nil, .nil], .lit (.int .u8 0)], [], places) :=
  ⟨[], by kernel_rfl⟩
set_option maxRecDepth 100000 in
theorem outboxNone_said : Rows.OutboxNoneSaid :=
  OpenClaim.holds_of_cond 5 Try.f5 rfl rfl rfl rfl rfl rfl rfl ⟨rfl, rfl, rfl, rfl, rfl⟩ rfl rfl rfl rfl rfl (by kernel_rfl) Try.func5 (by kernel_rfl)
    (of_decide_eq_true (by kernel_rfl)) (by unfold Func.isWrapper; rw [if_neg (by decide +kernel)]; exact ⟨rfl, rfl⟩)
    (fun os started H enc _ F => by
      rw [OpenClaim.pre_eq_preRow]
      obtain ⟨places, hx⟩ := outboxNone_reads os enc
      exact lifted (C := Try.checked) (f := 5) (fn := Try.f5) (s := Rows.outboxNoneSpec) (o := OpenSpec.ofChange Rows.outboxNoneSpec) (tb := 4) rfl rfl (by kernel_rfl) started (by kernel_rfl) Try.func5
        (witness_row_at (enc := enc) (C := Try.checked) false (witW os) #[.int .i64 0, .int .u16 0, .agg #[.int .u8 0, .int .u8 0, .int .u16 0, .int .u8 0, .slice none 0 0, .slice none 0 0, .int .u8 0, .int .u16 0, .int .u32 0, .slice none 0 0, .slice none 0 0, .int .u8 0, .int .u8 0, .int .u16 0, .int .u32 0, .slice none 0 0, .slice none 0 0], .int .u8 0] rfl (by kernel_rfl) (by kernel_rfl) (by kernel_rfl)
          (OpenSpec.preRow_of_cond 8 hx (by kernel_rfl) (fun k hk => by cases hk) (by kernel_rfl) (outboxNone_met os)))
        (by kernel_rfl) (by kernel_rfl) rfl Try.underlying4 rfl (fun ds h => match ds, h with | [_, _, _, _], _ => rfl) outboxNone_calls)
end Go.Proofs.Ytkcdomafdjpbjaa
