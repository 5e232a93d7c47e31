/- Law WireBack: the statement. -/
import Derived.Test.YtcjegbcljipcbaaWBack
import Derived.Test.YtcjegbcljipcbaaOpen01
namespace Go.Proofs.Ytcjegbcljipcbaa
open Go.RowKit Go.ChangeShapes

theorem wireBack_calls {H : Type} {enc : TypeId × Value → H} (W : World) (base : Nat) (args : Array Value) (ds : List (DataW H)) (ps : List MemPlace)
    (hval : ∀ (j : Nat) t v, Try.f4.params[j]? = some t → args[j]? = some v → Value.okWide Try.prog W .any base t v)
    (hA : DataW.TrodAll enc Try.prog W 0 (fun _ => true) true Try.f4.params.toList args.toList ds ps) (hlt : ∀ x ∈ ps, x.block < W.heap.size) (hL : laidMetH Try.prog Rows.wireBackRow.laid W)
    (hc : ∀ k, (OpenSpec.ofChange Rows.wireBackSpec).cond = some k → k H ds = true) (hw : (DataW.weightsEach Try.prog Try.f4.params.toList ds).all (· ≤ reachBytes) = true) :
    Calls Try.prog 4 args W (Yes W) := by
  rw [Try.params4] at hA hval
  obtain ⟨v0, vs0, d0, ds0, p0, q0, hvs0, hds0, hps0, h0, r0⟩ := trodAll_cons hA
  obtain ⟨v1, vs1, d1, ds1, p1, q1, hvs1, hds1, hps1, h1, r1⟩ := trodAll_cons r0
  obtain ⟨v2, vs2, d2, ds2, p2, q2, hvs2, hds2, hps2, h2, r2⟩ := trodAll_cons r1
  obtain ⟨v3, vs3, d3, ds3, p3, q3, hvs3, hds3, hps3, h3, r3⟩ := trodAll_cons r2
  obtain ⟨v4, vs4, d4, ds4, p4, q4, hvs4, hds4, hps4, h4, r4⟩ := trodAll_cons r3
  obtain ⟨hvsE, _, _⟩ := trodAll_nil r4
  obtain rfl : args = #[v0, v1, v2, v3, v4] := by cases args; simp_all
  obtain ⟨x, rfl, hx0, hx1⟩ := open_u64 (hval 0 _ _ rfl rfl) h0
  obtain ⟨x, rfl⟩ := Int.eq_ofNat_of_zero_le hx0
  obtain ⟨n, rfl, hn0, hn1⟩ := open_u8 (hval 1 _ _ rfl rfl) h1
  obtain ⟨n, rfl⟩ := Int.eq_ofNat_of_zero_le hn0
  obtain ⟨ad, s, c1, rfl, hs, hR⟩ := open_bytes (hval 2 _ _ rfl rfl) h2
  obtain ⟨ae, g, c2, rfl, hg, hS⟩ := open_bytes (hval 3 _ _ rfl rfl) h3
  obtain ⟨af, b, c3, rfl, hb, hT⟩ := open_bytes (hval 4 _ _ rfl rfl) h4
  exact yes_of_fn (wireBack_ok x n s g b c1 c2 c3 (by omega) (by omega) hs hg hb hT.le) (mem_of_rows (ads := [ad, ae, af]) (by exact ⟨hR.blk, hS.blk, hT.blk, trivial⟩) (fun x b h => by simp [assoc] at h)) (relL_cons (rel_c rfl) (relL_cons (rel_c rfl) (relL_cons (rel_row hR rfl) (relL_cons (rel_row hS rfl) (relL_cons (rel_row hT rfl) relL_nil))))) (fun k b h => (rowsIn_get (w := W) (ads := [ad, ae, af]) (by exact ⟨hR.blk, hS.blk, hT.blk, trivial⟩) h).2)

theorem wireBack_met (os : Os) : laidMet Try.prog Rows.wireBackRow.laid ((witW os).forCall (fun _ _ => 0) ⟨#[], #[.int .u64 0, .int .u8 0, .slice none 0 0, .slice none 0 0, .slice none 0 0], []⟩).memory :=
  laidMet_of_run' 8 (by kernel_rfl) (by kernel_rfl)
theorem wireBack_reads (os : Os) {H : Type} (enc : TypeId × Value → H) : ∃ places, DataW.whole enc Try.prog ((witW os).forCall (fun _ _ => 0) ⟨#[], #[.int .u64 0, .int .u8 0, .slice none 0 0, .slice none 0 0, .slice none 0 0], []⟩).memory Try.f4.params.toList Rows.wireBackSpec.vars false (#[.int .u64 0, .int .u8 0, .slice none 0 0, .slice none 0 0, .slice none 0 0] : Array Value).toList 8 = some ([.lit (.int .u64 0), .lit (.int .u8 0), .nil, .nil, .nil], [], places) :=
  ⟨[], by kernel_rfl⟩
set_option maxRecDepth 100000 in
theorem wireBack_said : Rows.WireBackSaid :=
  OpenClaim.holds_of_cond 4 Try.f4 rfl rfl rfl rfl rfl rfl rfl ⟨rfl, rfl, rfl, rfl, rfl⟩ rfl rfl rfl rfl rfl (by kernel_rfl) Try.func4 (by kernel_rfl)
    (of_decide_eq_true (by kernel_rfl)) (by unfold Func.isWrapper; rw [if_neg (by decide +kernel)]; exact ⟨rfl, rfl⟩)
    (fun os started H enc _ F => by
      rw [OpenClaim.pre_eq_preRow]
      obtain ⟨places, hx⟩ := wireBack_reads os enc
      exact lifted (C := Try.checked) (f := 4) (fn := Try.f4) (s := Rows.wireBackSpec) (o := OpenSpec.ofChange Rows.wireBackSpec) (tb := 4) rfl rfl (by kernel_rfl) started (by kernel_rfl) Try.func4
        (witness_row_at (enc := enc) (C := Try.checked) false (witW os) #[.int .u64 0, .int .u8 0, .slice none 0 0, .slice none 0 0, .slice none 0 0] rfl (by kernel_rfl) (by kernel_rfl) (by kernel_rfl)
          (OpenSpec.preRow_of_cond 8 hx (by kernel_rfl) (fun k hk => by cases hk) (by kernel_rfl) (wireBack_met os)))
        (by kernel_rfl) (by kernel_rfl) rfl Try.underlying4 rfl (fun ds h => match ds, h with | [_, _, _, _, _], _ => rfl) wireBack_calls)
end Go.Proofs.Ytcjegbcljipcbaa
