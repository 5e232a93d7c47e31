/- Law CyclonTells: the statement. -/
import Derived.Test.YtccegmbklgmgnaaY10t
import Derived.Test.YtccegmbklgmgnaaOpen10
namespace Go.Proofs.Ytccegmbklgmgnaa
open Go.RowKit Go.ChangeShapes

theorem cyclonTells_calls {H : Type} {enc : TypeId × Value → H} (W : World) (base : Nat) (args : Array Value) (ds : List (DataW H)) (ps : List MemPlace)
    (hval : ∀ (j : Nat) t v, Try.f3.params[j]? = some t → args[j]? = some v → Value.okWide Try.prog W .any base t v)
    (hA : DataW.TrodAll enc Try.prog W 0 (fun _ => true) true Try.f3.params.toList args.toList ds ps) (hlt : ∀ x ∈ ps, x.block < W.heap.size) (hL : laidMetH Try.prog Rows.cyclonTellsRow.laid W)
    (hc : ∀ k, (OpenSpec.ofChange Rows.cyclonTellsSpec).cond = some k → k H ds = true) (hw : (DataW.weightsEach Try.prog Try.f3.params.toList ds).all (· ≤ reachBytes) = true) :
    Calls Try.prog 3 args W (Yes W) := by
  rw [Try.params3] at hA hval
  obtain ⟨v0, vs0, d0, ds0, p0, q0, hvs0, hds0, hps0, h0, r0⟩ := trodAll_cons hA
  obtain ⟨v1, vs1, d1, ds1, p1, q1, hvs1, hds1, hps1, h1, r1⟩ := trodAll_cons r0
  obtain ⟨v2, vs2, d2, ds2, p2, q2, hvs2, hds2, hps2, h2, r2⟩ := trodAll_cons r1
  obtain ⟨v3, vs3, d3, ds3, p3, q3, hvs3, hds3, hps3, h3, r3⟩ := trodAll_cons r2
  obtain ⟨v4, vs4, d4, ds4, p4, q4, hvs4, hds4, hps4, h4, r4⟩ := trodAll_cons r3
  obtain ⟨v5, vs5, d5, ds5, p5, q5, hvs5, hds5, hps5, h5, r5⟩ := trodAll_cons r4
  obtain ⟨v6, vs6, d6, ds6, p6, q6, hvs6, hds6, hps6, h6, r6⟩ := trodAll_cons r5
  obtain ⟨v7, vs7, d7, ds7, p7, q7, hvs7, hds7, hps7, h7, r7⟩ := trodAll_cons r6
  obtain ⟨hvsE, _, _⟩ := trodAll_nil r7
  obtain rfl : args = #[v0, v1, v2, v3, v4, v5, v6, v7] := by cases args; simp_all
  obtain ⟨a1, l, cl, rfl, hl, hR1⟩ := open_descs (hval 0 _ _ rfl rfl) h0
  obtain ⟨a2, got, cg, rfl, hg, hR2⟩ := open_descs (hval 1 _ _ rfl rfl) h1
  obtain ⟨a3, sent, cs, rfl, _, hR3⟩ := open_descs (hval 2 _ _ rfl rfl) h2
  obtain ⟨self, rfl, _, _⟩ := open_u8 (hval 3 _ _ rfl rfl) h3
  obtain ⟨not_, rfl, _, _⟩ := open_u8 (hval 4 _ _ rfl rfl) h4
  obtain ⟨room, rfl, hr0, hr1⟩ := open_u8 (hval 5 _ _ rfl rfl) h5
  obtain ⟨many, rfl, hm0, hm1⟩ := open_i64 (hval 6 _ _ rfl rfl) h6
  obtain ⟨a8, draws, cr, rfl, hdr, hR8⟩ := open_u4s (hval 7 _ _ rfl rfl) h7
  exact yes_of_fn (cyclonTells_ok l got sent cl cg cs self not_ room many draws cr (by have := hR1.le; have := hR1.max; simp only [maxLen] at this; omega) (by have := hR2.le; have := hR2.max; simp only [maxLen] at this; omega) (by have := hR3.le; have := hR3.max; simp only [maxLen] at this; omega) (by have := hR8.le; have := hR8.max; simp only [maxLen] at this; omega) hl hg hdr ⟨hr0, hr1⟩ ⟨hm0, hm1⟩) (rho_q W []) (mem_of_rows (ads := []) (by exact trivial) (fun x b h => by simp [assoc] at h)) (relL_cons (rel_z hR1) (relL_cons (rel_z hR2) (relL_cons (rel_z hR3) (relL_cons (rel_c rfl) (relL_cons (rel_c rfl) (relL_cons (rel_c rfl) (relL_cons (rel_c rfl) (relL_cons (rel_z hR8) relL_nil)))))))) (fun k b h => (rowsIn_get (w := W) (ads := []) (by exact trivial) h).2)

theorem cyclonTells_met (os : Os) : laidMet Try.prog Rows.cyclonTellsRow.laid ((witW os).forCall (fun _ _ => 0) ⟨#[], #[.slice none 0 0, .slice none 0 0, .slice none 0 0, .int .u8 0, .int .u8 0, .int .u8 0, .int .i64 0, .slice none 0 0], []⟩).memory :=
  laidMet_of_run' 8 (by kernel_rfl) (by kernel_rfl)
theorem cyclonTells_reads (os : Os) {H : Type} (enc : TypeId × Value → H) : ∃ places, DataW.whole enc Try.prog ((witW os).forCall (fun _ _ => 0) ⟨#[], #[.slice none 0 0, .slice none 0 0, .slice none 0 0, .int .u8 0, .int .u8 0, .int .u8 0, .int .i64 0, .slice none 0 0], []⟩).memory Try.f3.params.toList Rows.cyclonTellsSpec.vars false (#[.slice none 0 0, .slice none 0 0, .slice none 0 0, .int .u8 0, .int .u8 0, .int .u8 0, .int .i64 0, .slice none 0 0] : Array Value).toList 8 = some ([.nil, .nil, .nil, .lit (.int .u8 0), .lit (.int .u8 0), .lit (.int .u8 0), .lit (.int .i64 0), .nil], [], places) :=
  ⟨[], by kernel_rfl⟩
set_option maxRecDepth 100000 in
theorem cyclonTells_said : Rows.CyclonTellsSaid :=
  OpenClaim.holds_of_cond 3 Try.f3 rfl rfl rfl rfl rfl rfl rfl ⟨rfl, rfl, rfl, rfl, rfl⟩ rfl rfl rfl rfl rfl (by kernel_rfl) Try.func3 (by kernel_rfl)
    (of_decide_eq_true (by kernel_rfl)) (by unfold Func.isWrapper; rw [if_neg (by decide +kernel)]; exact ⟨rfl, rfl⟩)
    (fun os started H enc _ F => by
      rw [OpenClaim.pre_eq_preRow]
      obtain ⟨places, hx⟩ := cyclonTells_reads os enc
      exact lifted (C := Try.checked) (f := 3) (fn := Try.f3) (s := Rows.cyclonTellsSpec) (o := OpenSpec.ofChange Rows.cyclonTellsSpec) (tb := 4) rfl rfl (by kernel_rfl) started (by kernel_rfl) Try.func3
        (witness_row_at (enc := enc) (C := Try.checked) false (witW os) #[.slice none 0 0, .slice none 0 0, .slice none 0 0, .int .u8 0, .int .u8 0, .int .u8 0, .int .i64 0, .slice none 0 0] rfl (by kernel_rfl) (by kernel_rfl) (by kernel_rfl)
          (OpenSpec.preRow_of_cond 8 hx (by kernel_rfl) (fun k hk => by cases hk) (by kernel_rfl) (cyclonTells_met os)))
        (by kernel_rfl) (by kernel_rfl) rfl Try.underlying4 rfl (fun ds h => match ds, h with | [_, _, _, _, _, _, _, _], _ => rfl) cyclonTells_calls)
end Go.Proofs.Ytccegmbklgmgnaa
