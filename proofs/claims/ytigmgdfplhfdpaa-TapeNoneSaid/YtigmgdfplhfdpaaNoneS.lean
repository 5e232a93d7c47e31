/- Law TapeNone: the statement. -/
import Derived.Test.YtigmgdfplhfdpaaT23f
import Derived.Test.YtigmgdfplhfdpaaOpen23
namespace Go.Proofs.Ytigmgdfplhfdpaa
open Go.RowKit Go.ChangeShapes

theorem tapeNone_calls {H : Type} {enc : TypeId × Value → H} (W : World) (base : Nat) (args : Array Value) (ds : List (DataW H)) (ps : List MemPlace)
    (hval : ∀ (j : Nat) t v, Try.f7.params[j]? = some t → args[j]? = some v → Value.okWide Try.prog W .any base t v)
    (hA : DataW.TrodAll enc Try.prog W 0 (fun _ => true) true Try.f7.params.toList args.toList ds ps) (_hlt : ∀ x ∈ ps, x.block < W.heap.size) (hL : laidMetH Try.prog Rows.tapeNoneRow.laid W)
    (_hc : ∀ k, (OpenSpec.ofChange Rows.tapeNoneSpec).cond = some k → k H ds = true) (_hw : (DataW.weightsEach Try.prog Try.f7.params.toList ds).all (· ≤ reachBytes) = true) :
    Calls Try.prog 7 args W (Yes W) := by
  rw [Try.params7] at hA hval
  obtain ⟨v0, vs0, d0, ds0, p0, q0, hvs0, hds0, hps0, h0, r0⟩ := trodAll_cons hA
  obtain ⟨v1, vs1, d1, ds1, p1, q1, hvs1, hds1, hps1, h1, r1⟩ := trodAll_cons r0
  obtain ⟨v2, vs2, d2, ds2, p2, q2, hvs2, hds2, hps2, h2, r2⟩ := trodAll_cons r1
  obtain ⟨v3, vs3, d3, ds3, p3, q3, hvs3, hds3, hps3, h3, r3⟩ := trodAll_cons r2
  obtain ⟨hvsE, _, _⟩ := trodAll_nil r3
  obtain rfl : args = #[v0, v1, v2, v3] := by cases args; simp_all
  obtain ⟨at_, rfl, _, _⟩ := open_num (hval 0 _ _ rfl rfl) h0
  obtain ⟨x, rfl, hx1, hx2⟩ := open_u32 (hval 1 _ _ rfl rfl) h1
  obtain ⟨th, rfl, ht1, ht2⟩ := open_u16 (hval 2 _ _ rfl rfl) h2
  obtain ⟨many, rfl, hm1, hm2⟩ := open_u8 (hval 3 _ _ rfl rfl) h3
  exact yes_of_fn (tapeNone_ok at_ x th many ⟨hx1, hx2⟩ ⟨ht1, ht2⟩ ⟨hm1, hm2⟩) (rho_q W []) (mem_of_rows (ads := []) (by exact trivial) (fun x b h => by simp [GG, assoc] at h)) (relL_cons (rel_c rfl) (relL_cons (rel_c rfl) (relL_cons (rel_c rfl) (relL_cons (rel_c rfl) relL_nil)))) (fun k b h => (rowsIn_get (w := W) (ads := []) (by exact trivial) h).2)

theorem tapeNone_met (os : Os) : laidMet Try.prog Rows.tapeNoneRow.laid ((witW os).forCall (fun _ _ => 0) ⟨#[], #[.int .i64 0, .int .u32 0, .int .u16 0, .int .u8 0], []⟩).memory :=
  laidMet_of_run' 8 (by kernel_rfl) (by kernel_rfl)
theorem tapeNone_reads (os : Os) {H : Type} (enc : TypeId × Value → H) : ∃ places, DataW.whole enc Try.prog ((witW os).forCall (fun _ _ => 0) ⟨#[], #[.int .i64 0, .int .u32 0, .int .u16 0, .int .u8 0], []⟩).memory Try.f7.params.toList Rows.tapeNoneSpec.vars false (#[.int .i64 0, .int .u32 0, .int .u16 0, .int .u8 0] : Array Value).toList 8 = some ([.lit (.int .i64 0), .lit (.int .u32 0), .lit (.int .u16 0), .lit (.int .u8 0)], [], places) :=
  ⟨[], by kernel_rfl⟩
set_option maxRecDepth 100000 in
theorem tapeNone_said : Rows.TapeNoneSaid :=
  OpenClaim.holds_of_cond 7 Try.f7 rfl rfl rfl rfl rfl rfl rfl ⟨rfl, rfl, rfl, rfl, rfl⟩ rfl rfl rfl rfl rfl (by kernel_rfl) Try.func7 (by kernel_rfl)
    (of_decide_eq_true (by kernel_rfl)) (by unfold Func.isWrapper; rw [if_neg (by decide +kernel)]; exact ⟨rfl, rfl⟩)
    (fun os started H enc _ F => by
      rw [OpenClaim.pre_eq_preRow]
      obtain ⟨places, hx⟩ := tapeNone_reads os enc
      exact lifted (C := Try.checked) (f := 7) (fn := Try.f7) (s := Rows.tapeNoneSpec) (o := OpenSpec.ofChange Rows.tapeNoneSpec) (tb := 4) rfl rfl (by kernel_rfl) started (by kernel_rfl) Try.func7
        (witness_row_at (enc := enc) (C := Try.checked) false (witW os) #[.int .i64 0, .int .u32 0, .int .u16 0, .int .u8 0] rfl (by kernel_rfl) (by kernel_rfl) (by kernel_rfl)
          (OpenSpec.preRow_of_cond 8 hx (by kernel_rfl) (fun k hk => by cases hk) (by kernel_rfl) (tapeNone_met os)))
        (by kernel_rfl) (by kernel_rfl) rfl Try.underlying4 rfl (fun ds h => match ds, h with | [_, _, _, _], _ => rfl) tapeNone_calls)
end Go.Proofs.Ytigmgdfplhfdpaa
