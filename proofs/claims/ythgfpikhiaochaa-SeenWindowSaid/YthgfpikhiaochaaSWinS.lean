/- Law SeenWindow: the statement. -/
import Derived.Test.YthgfpikhiaochaaSWin
import Derived.Test.YthgfpikhiaochaaOpen08
namespace Go.Proofs.Ythgfpikhiaochaa
open Go.RowKit Go.ChangeShapes

theorem seenWindow_calls {H : Type} {enc : TypeId × Value → H} (W : World) (base : Nat) (args : Array Value) (ds : List (DataW H)) (ps : List MemPlace)
    (hval : ∀ (j : Nat) t v, Try.f6.params[j]? = some t → args[j]? = some v → Value.okWide Try.prog W .any base t v)
    (hA : DataW.TrodAll enc Try.prog W 0 (fun _ => true) true Try.f6.params.toList args.toList ds ps) (hlt : ∀ x ∈ ps, x.block < W.heap.size) (hL : laidMetH Try.prog Rows.seenWindowRow.laid W)
    (hc : ∀ k, (OpenSpec.ofChange Rows.seenWindowSpec).cond = some k → k H ds = true) (hw : (DataW.weightsEach Try.prog Try.f6.params.toList ds).all (· ≤ reachBytes) = true) :
    Calls Try.prog 6 args W (Yes W) := by
  rw [Try.params6] at hA hval
  obtain ⟨v0, vs0, d0, ds0, p0, q0, hvs0, hds0, hps0, h0, r0⟩ := trodAll_cons hA
  obtain ⟨v1, vs1, d1, ds1, p1, q1, hvs1, hds1, hps1, h1, r1⟩ := trodAll_cons r0
  obtain ⟨v2, vs2, d2, ds2, p2, q2, hvs2, hds2, hps2, h2, r2⟩ := trodAll_cons r1
  obtain ⟨v3, vs3, d3, ds3, p3, q3, hvs3, hds3, hps3, h3, r3⟩ := trodAll_cons r2
  obtain ⟨hvsE, _, _⟩ := trodAll_nil r3
  obtain rfl : args = #[v0, v1, v2, v3] := by cases args; simp_all
  obtain ⟨I, P, B, rfl, hI, hP, hB⟩ := open_row (hval 0 _ _ rfl rfl) h0
  obtain ⟨I, rfl⟩ := Int.eq_ofNat_of_zero_le hI.1
  obtain ⟨P, rfl⟩ := Int.eq_ofNat_of_zero_le hP.1
  obtain ⟨B, rfl⟩ := Int.eq_ofNat_of_zero_le hB.1
  obtain ⟨m, rfl, hm, hm2⟩ := open_u8 (hval 1 _ _ rfl rfl) h1
  obtain ⟨m, rfl⟩ := Int.eq_ofNat_of_zero_le hm
  obtain ⟨n, rfl, hn, hn2⟩ := open_u32 (hval 2 _ _ rfl rfl) h2
  obtain ⟨n, rfl⟩ := Int.eq_ofNat_of_zero_le hn
  obtain ⟨o, rfl, ho0, ho1⟩ := open_i64 (hval 3 _ _ rfl rfl) h3
  have ho := And.intro ho0 ho1
  exact yes_of_fn (seenWindow_ok I P B m n o (by omega) (by omega) (by omega) (by omega) (by omega) ho) (mem_of_rows (ads := []) (by exact trivial) (fun x b h => by simp [assoc] at h)) (relL_cons (rel_c rfl) (relL_cons (rel_c rfl) (relL_cons (rel_c rfl) (relL_cons (rel_c rfl) relL_nil)))) (fun k b h => (rowsIn_get (w := W) (ads := []) (by exact trivial) h).2)

theorem seenWindow_met (os : Os) : laidMet Try.prog Rows.seenWindowRow.laid ((witW os).forCall (fun _ _ => 0) ⟨#[], #[.agg #[.int .u16 0, .int .u32 0, .int .u64 0], .int .u8 0, .int .u32 0, .int .i64 0], []⟩).memory :=
  laidMet_of_run' 8 (by kernel_rfl) (by kernel_rfl)
theorem seenWindow_reads (os : Os) {H : Type} (enc : TypeId × Value → H) : ∃ places, DataW.whole enc Try.prog ((witW os).forCall (fun _ _ => 0) ⟨#[], #[.agg #[.int .u16 0, .int .u32 0, .int .u64 0], .int .u8 0, .int .u32 0, .int .i64 0], []⟩).memory Try.f6.params.toList Rows.seenWindowSpec.vars false (#[.agg #[.int .u16 0, .int .u32 0, .int .u64 0], .int .u8 0, .int .u32 0, .int .i64 0] : Array Value).toList 8 = some ([.agg [.lit (.int .u16 0), .lit (.int .u32 0), .lit (.int .u64 0)], .lit (.int .u8 0), .lit (.int .u32 0), .lit (.int .i64 0)], [], places) :=
  ⟨[], by kernel_rfl⟩
set_option maxRecDepth 100000 in
theorem seenWindow_said : Rows.SeenWindowSaid :=
  OpenClaim.holds_of_cond 6 Try.f6 rfl rfl rfl rfl rfl rfl rfl ⟨rfl, rfl, rfl, rfl, rfl⟩ rfl rfl rfl rfl rfl (by kernel_rfl) Try.func6 (by kernel_rfl)
    (of_decide_eq_true (by kernel_rfl)) (by unfold Func.isWrapper; rw [if_neg (by decide +kernel)]; exact ⟨rfl, rfl⟩)
    (fun os started H enc _ F => by
      rw [OpenClaim.pre_eq_preRow]
      obtain ⟨places, hx⟩ := seenWindow_reads os enc
      exact lifted (C := Try.checked) (f := 6) (fn := Try.f6) (s := Rows.seenWindowSpec) (o := OpenSpec.ofChange Rows.seenWindowSpec) (tb := 4) rfl rfl (by kernel_rfl) started (by kernel_rfl) Try.func6
        (witness_row_at (enc := enc) (C := Try.checked) false (witW os) #[.agg #[.int .u16 0, .int .u32 0, .int .u64 0], .int .u8 0, .int .u32 0, .int .i64 0] rfl (by kernel_rfl) (by kernel_rfl) (by kernel_rfl)
          (OpenSpec.preRow_of_cond 8 hx (by kernel_rfl) (fun k hk => by cases hk) (by kernel_rfl) (seenWindow_met os)))
        (by kernel_rfl) (by kernel_rfl) rfl Try.underlying4 rfl (fun ds h => match ds, h with | [_, _, _, _], _ => rfl) seenWindow_calls)
end Go.Proofs.Ythgfpikhiaochaa
