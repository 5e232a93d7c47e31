/- Law WireTells: the statement. -/
import Derived.Test.YtcjegbcljipcbaaWTells
import Derived.Test.YtcjegbcljipcbaaOpen01
namespace Go.Proofs.Ytcjegbcljipcbaa
open Go.RowKit Go.ChangeShapes

theorem wireTells_calls {H : Type} {enc : TypeId × Value → H} (W : World) (base : Nat) (args : Array Value) (ds : List (DataW H)) (ps : List MemPlace)
    (hval : ∀ (j : Nat) t v, Try.f3.params[j]? = some t → args[j]? = some v → Value.okWide Try.prog W .any base t v)
    (hA : DataW.TrodAll enc Try.prog W 0 (fun _ => true) true Try.f3.params.toList args.toList ds ps) (hlt : ∀ x ∈ ps, x.block < W.heap.size) (hL : laidMetH Try.prog Rows.wireTellsRow.laid W)
    (hc : ∀ k, (OpenSpec.ofChange Rows.wireTellsSpec).cond = some k → k H ds = true) (hw : (DataW.weightsEach Try.prog Try.f3.params.toList ds).all (· ≤ reachBytes) = true) :
    Calls Try.prog 3 args W (Yes W) := by
  rw [Try.params3] at hA hval
  obtain ⟨v0, vs0, d0, ds0, p0, q0, hvs0, hds0, hps0, h0, r0⟩ := trodAll_cons hA
  obtain ⟨v1, vs1, d1, ds1, p1, q1, hvs1, hds1, hps1, h1, r1⟩ := trodAll_cons r0
  obtain ⟨v2, vs2, d2, ds2, p2, q2, hvs2, hds2, hps2, h2, r2⟩ := trodAll_cons r1
  obtain ⟨v3, vs3, d3, ds3, p3, q3, hvs3, hds3, hps3, h3, r3⟩ := trodAll_cons r2
  obtain ⟨v4, vs4, d4, ds4, p4, q4, hvs4, hds4, hps4, h4, r4⟩ := trodAll_cons r3
  obtain ⟨v5, vs5, d5, ds5, p5, q5, hvs5, hds5, hps5, h5, r5⟩ := trodAll_cons r4
  obtain ⟨hvsE, _, _⟩ := trodAll_nil r5
  obtain rfl : args = #[v0, v1, v2, v3, v4, v5] := by cases args; simp_all
  obtain ⟨ad, b, c1, rfl, hb, hR⟩ := open_bytes (hval 0 _ _ rfl rfl) h0
  obtain ⟨x, rfl, hx0, hx1⟩ := open_u64 (hval 1 _ _ rfl rfl) h1
  obtain ⟨x, rfl⟩ := Int.eq_ofNat_of_zero_le hx0
  obtain ⟨n, rfl, hn0, _⟩ := open_i64 (hval 2 _ _ rfl rfl) h2
  obtain ⟨ae, tx, c2, rfl, ht, hS⟩ := open_bytes (hval 3 _ _ rfl rfl) h3
  obtain ⟨most, rfl, _, _⟩ := open_i64 (hval 4 _ _ rfl rfl) h4
  obtain ⟨s, rfl, hs0, hs1⟩ := open_i32 (hval 5 _ _ rfl rfl) h5
  exact yes_of_fn (wireTells_ok b tx c1 c2 x n most s hb ht hR.le hS.le (by omega) hn0 hs0 hs1) (mem_of_rows (ads := [ad, ae]) (by exact ⟨hR.blk, hS.blk, trivial⟩) (fun x b h => by simp [assoc] at h)) (relL_cons (rel_row hR rfl) (relL_cons (rel_c rfl) (relL_cons (rel_c rfl) (relL_cons (rel_row hS rfl) (relL_cons (rel_c rfl) (relL_cons (rel_c rfl) relL_nil)))))) (fun k b h => (rowsIn_get (w := W) (ads := [ad, ae]) (by exact ⟨hR.blk, hS.blk, trivial⟩) h).2)

theorem wireTells_met (os : Os) : laidMet Try.prog Rows.wireTellsRow.laid ((witW os).forCall (fun _ _ => 0) ⟨#[], #[.slice none 0 0, .int .u64 0, .int .i64 0, .slice none 0 0, .int .i64 0, .int .i32 0], []⟩).memory :=
  laidMet_of_run' 8 (by kernel_rfl) (by kernel_rfl)
theorem wireTells_reads (os : Os) {H : Type} (enc : TypeId × Value → H) : ∃ places, DataW.whole enc Try.prog ((witW os).forCall (fun _ _ => 0) ⟨#[], #[.slice none 0 0, .int .u64 0, .int .i64 0, .slice none 0 0, .int .i64 0, .int .i32 0], []⟩).memory Try.f3.params.toList Rows.wireTellsSpec.vars false (#[.slice none 0 0, .int .u64 0, .int .i64 0, .slice none 0 0, .int .i64 0, .int .i32 0] : Array Value).toList 8 = some ([.nil, .lit (.int .u64 0), .lit (.int .i64 0), .nil, .lit (.int .i64 0), .lit (.int .i32 0)], [], places) :=
  ⟨[], by kernel_rfl⟩
set_option maxRecDepth 100000 in
theorem wireTells_said : Rows.WireTellsSaid :=
  OpenClaim.holds_of_cond 3 Try.f3 rfl rfl rfl rfl rfl rfl rfl ⟨rfl, rfl, rfl, rfl, rfl⟩ rfl rfl rfl rfl rfl (by kernel_rfl) Try.func3 (by kernel_rfl)
    (of_decide_eq_true (by kernel_rfl)) (by unfold Func.isWrapper; rw [if_neg (by decide +kernel)]; exact ⟨rfl, rfl⟩)
    (fun os started H enc _ F => by
      rw [OpenClaim.pre_eq_preRow]
      obtain ⟨places, hx⟩ := wireTells_reads os enc
      exact lifted (C := Try.checked) (f := 3) (fn := Try.f3) (s := Rows.wireTellsSpec) (o := OpenSpec.ofChange Rows.wireTellsSpec) (tb := 4) rfl rfl (by kernel_rfl) started (by kernel_rfl) Try.func3
        (witness_row_at (enc := enc) (C := Try.checked) false (witW os) #[.slice none 0 0, .int .u64 0, .int .i64 0, .slice none 0 0, .int .i64 0, .int .i32 0] rfl (by kernel_rfl) (by kernel_rfl) (by kernel_rfl)
          (OpenSpec.preRow_of_cond 8 hx (by kernel_rfl) (fun k hk => by cases hk) (by kernel_rfl) (wireTells_met os)))
        (by kernel_rfl) (by kernel_rfl) rfl Try.underlying4 rfl (fun ds h => match ds, h with | [_, _, _, _, _, _], _ => rfl) wireTells_calls)
end Go.Proofs.Ytcjegbcljipcbaa
