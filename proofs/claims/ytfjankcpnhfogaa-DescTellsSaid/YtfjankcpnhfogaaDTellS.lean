/- Law DescTells: the statement. -/
import Derived.Test.YtfjankcpnhfogaaDTells
import Derived.Test.YtfjankcpnhfogaaOpen09n
namespace Go.Proofs.Ytfjankcpnhfogaa
open Go.RowKit Go.ChangeShapes

theorem descTells_calls {H : Type} {enc : TypeId × Value → H} (W : World) (base : Nat) (args : Array Value) (ds : List (DataW H)) (ps : List MemPlace)
    (hval : ∀ (j : Nat) t v, Try.f3.params[j]? = some t → args[j]? = some v → Value.okWide Try.prog W .any base t v)
    (hA : DataW.TrodAll enc Try.prog W 0 (fun _ => true) true Try.f3.params.toList args.toList ds ps) (_hlt : ∀ x ∈ ps, x.block < W.heap.size) (hL : laidMetH Try.prog Rows.descTellsRow.laid W)
    (_hc : ∀ k, (OpenSpec.ofChange Rows.descTellsSpec).cond = some k → k H ds = true) (_hw : (DataW.weightsEach Try.prog Try.f3.params.toList ds).all (· ≤ reachBytes) = true) :
    Calls Try.prog 3 args W (Yes W) := by
  rw [Try.params3] at hA hval
  obtain ⟨v0, vs0, d0, ds0, p0, q0, hvs0, hds0, hps0, h0, r0⟩ := trodAll_cons hA
  obtain ⟨v1, vs1, d1, ds1, p1, q1, hvs1, hds1, hps1, h1, r1⟩ := trodAll_cons r0
  obtain ⟨v2, vs2, d2, ds2, p2, q2, hvs2, hds2, hps2, h2, r2⟩ := trodAll_cons r1
  obtain ⟨v3, vs3, d3, ds3, p3, q3, hvs3, hds3, hps3, h3, r3⟩ := trodAll_cons r2
  obtain ⟨v4, vs4, d4, ds4, p4, q4, hvs4, hds4, hps4, h4, r4⟩ := trodAll_cons r3
  obtain ⟨hvsE, _, _⟩ := trodAll_nil r4
  obtain rfl : args = #[v0, v1, v2, v3, v4] := by cases args; simp_all
  obtain ⟨a1, l, cap, rfl, hl, hR1⟩ := open_descs (hval 0 _ _ rfl rfl) h0
  obtain ⟨d, cd, ⟨hcd, hcdm⟩, hd, hD⟩ := open_de (hval 1 _ _ rfl rfl) h1
  obtain ⟨self, rfl, _, _⟩ := open_u8 (hval 2 _ _ rfl rfl) h2
  obtain ⟨node, rfl, _, _⟩ := open_u8 (hval 3 _ _ rfl rfl) h3
  obtain ⟨room, rfl, hr1, hr2⟩ := open_u8 (hval 4 _ _ rfl rfl) h4
  exact yes_of_fn (descTells_ok l cap d cd self node room (by have := hR1.le; have := hR1.max; simp only [maxLen] at this; omega) hl hd hcd ⟨hr1, hr2⟩) (rho_q W []) (mem_of_rows (ads := []) (by exact trivial) (fun x b h => by simp [assoc] at h)) (relL_cons (rel_z hR1) (relL_cons (hD _) (relL_cons (rel_c rfl) (relL_cons (rel_c rfl) (relL_cons (rel_c rfl) relL_nil))))) (fun k b h => (rowsIn_get (w := W) (ads := []) (by exact trivial) h).2)

theorem descTells_met (os : Os) : laidMet Try.prog Rows.descTellsRow.laid ((witW os).forCall (fun _ _ => 0) ⟨#[], #[.slice none 0 0, .agg #[.int .u8 0, .int .u16 0, .int .u8 0, .slice none 0 0], .int .u8 0, .int .u8 0, .int .u8 0], []⟩).memory :=
  laidMet_of_run' 8 (by kernel_rfl) (by kernel_rfl)
theorem descTells_reads (os : Os) {H : Type} (enc : TypeId × Value → H) : ∃ places, DataW.whole enc Try.prog ((witW os).forCall (fun _ _ => 0) ⟨#[], #[.slice none 0 0, .agg #[.int .u8 0, .int .u16 0, .int .u8 0, .slice none 0 0], .int .u8 0, .int .u8 0, .int .u8 0], []⟩).memory Try.f3.params.toList Rows.descTellsSpec.vars false (#[.slice none 0 0, .agg #[.int .u8 0, .int .u16 0, .int .u8 0, .slice none 0 0], .int .u8 0, .int .u8 0, .int .u8 0] : Array Value).toList 8 = some ([.nil, .agg [.lit (.int .u8 0), .lit (.int .u16 0), .lit (.int .u8 0), .nil], .lit (.int .u8 0), .lit (.int .u8 0), .lit (.int .u8 0)], [], places) :=
  ⟨[], by kernel_rfl⟩
set_option maxRecDepth 100000 in
theorem descTells_said : Rows.DescTellsSaid :=
  OpenClaim.holds_of_cond 3 Try.f3 rfl rfl rfl rfl rfl rfl rfl ⟨rfl, rfl, rfl, rfl, rfl⟩ rfl rfl rfl rfl rfl (by kernel_rfl) Try.func3 (by kernel_rfl)
    (of_decide_eq_true (by kernel_rfl)) (by unfold Func.isWrapper; rw [if_neg (by decide +kernel)]; exact ⟨rfl, rfl⟩)
    (fun os started H enc _ F => by
      rw [OpenClaim.pre_eq_preRow]
      obtain ⟨places, hx⟩ := descTells_reads os enc
      exact lifted (C := Try.checked) (f := 3) (fn := Try.f3) (s := Rows.descTellsSpec) (o := OpenSpec.ofChange Rows.descTellsSpec) (tb := 4) rfl rfl (by kernel_rfl) started (by kernel_rfl) Try.func3
        (witness_row_at (enc := enc) (C := Try.checked) false (witW os) #[.slice none 0 0, .agg #[.int .u8 0, .int .u16 0, .int .u8 0, .slice none 0 0], .int .u8 0, .int .u8 0, .int .u8 0] rfl (by kernel_rfl) (by kernel_rfl) (by kernel_rfl)
          (OpenSpec.preRow_of_cond 8 hx (by kernel_rfl) (fun k hk => by cases hk) (by kernel_rfl) (descTells_met os)))
        (by kernel_rfl) (by kernel_rfl) rfl Try.underlying4 rfl (fun ds h => match ds, h with | [_, _, _, _, _], _ => rfl) descTells_calls)
end Go.Proofs.Ytfjankcpnhfogaa
