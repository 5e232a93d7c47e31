/- Law DescBounds: the statement. -/
import Derived.Test.YtfjankcpnhfogaaOpen09b
import Derived.Test.YtfjankcpnhfogaaOpen09
namespace Go.Proofs.Ytfjankcpnhfogaa
open Go.RowKit Go.ChangeShapes

theorem descBounds_calls {H : Type} {enc : TypeId × Value → H} (W : World) (base : Nat) (args : Array Value) (ds : List (DataW H)) (ps : List MemPlace)
    (hval : ∀ (j : Nat) t v, Try.f4.params[j]? = some t → args[j]? = some v → Value.okWide Try.prog W .any base t v)
    (hA : DataW.TrodAll enc Try.prog W 0 (fun _ => true) true Try.f4.params.toList args.toList ds ps) (hlt : ∀ x ∈ ps, x.block < W.heap.size) (hL : laidMetH Try.prog Rows.descBoundsRow.laid W)
    (hc : ∀ k, (OpenSpec.ofChange Rows.descBoundsSpec).cond = some k → k H ds = true) (hw : (DataW.weightsEach Try.prog Try.f4.params.toList ds).all (· ≤ reachBytes) = true) :
    Calls Try.prog 4 args W (Yes W) := by
  rw [Try.params4] at hA hval
  obtain ⟨v0, vs0, d0, ds0, p0, q0, hvs0, hds0, hps0, h0, r0⟩ := trodAll_cons hA
  obtain ⟨v1, vs1, d1, ds1, p1, q1, hvs1, hds1, hps1, h1, r1⟩ := trodAll_cons r0
  obtain ⟨v2, vs2, d2, ds2, p2, q2, hvs2, hds2, hps2, h2, r2⟩ := trodAll_cons r1
  obtain ⟨v3, vs3, d3, ds3, p3, q3, hvs3, hds3, hps3, h3, r3⟩ := trodAll_cons r2
  obtain ⟨v4, vs4, d4, ds4, p4, q4, hvs4, hds4, hps4, h4, r4⟩ := trodAll_cons r3
  obtain ⟨hvsE, _, _⟩ := trodAll_nil r4
  obtain rfl : args = #[v0, v1, v2, v3, v4] := by cases args; simp_all
  obtain ⟨a1, l, c1, rfl, hl, hR1⟩ := open_descs (hval 0 _ _ rfl rfl) h0
  obtain ⟨a2, more, c2, rfl, hm, hR2⟩ := open_descs (hval 1 _ _ rfl rfl) h1
  obtain ⟨a3, drops, c3, rfl, hdr, hR3⟩ := open_u8s (hval 2 _ _ rfl rfl) h2
  obtain ⟨self, rfl, _, _⟩ := open_u8 (hval 3 _ _ rfl rfl) h3
  obtain ⟨room, rfl, hrl, hru⟩ := open_u8 (hval 4 _ _ rfl rfl) h4
  exact yes_of_fn (descBounds_ok l more drops c1 c2 c3 self room (by have := hR1.le; have := hR1.max; simp only [maxLen] at this; omega) (by have := hR2.le; have := hR2.max; simp only [maxLen] at this; omega) (by have := hR3.le; have := hR3.max; simp only [maxLen] at this; omega) hl hm hdr ⟨hrl, hru⟩) (rho_q W [a1, a2, a3]) (mem_of_rows (ads := [a1, a2, a3]) (by exact ⟨(fun ρ h => hR1.blk (by decide) h), (fun ρ h => hR2.blk (by decide) h), (fun ρ h => hR3.blk (by decide) h), trivial⟩) (fun x b h => by simp [assoc] at h)) (relL_cons (rel_row hR1 rfl) (relL_cons (rel_row hR2 rfl) (relL_cons (rel_row hR3 rfl) (relL_cons (rel_c rfl) (relL_cons (rel_c rfl) relL_nil))))) (fun k b h => (rowsIn_get (w := W) (ads := [a1, a2, a3]) (by exact ⟨(fun ρ h => hR1.blk (by decide) h), (fun ρ h => hR2.blk (by decide) h), (fun ρ h => hR3.blk (by decide) h), trivial⟩) h).2)

theorem descBounds_met (os : Os) : laidMet Try.prog Rows.descBoundsRow.laid ((witW os).forCall (fun _ _ => 0) ⟨#[], #[.slice none 0 0, .slice none 0 0, .slice none 0 0, .int .u8 0, .int .u8 0], []⟩).memory :=
  laidMet_of_run' 8 (by kernel_rfl) (by kernel_rfl)
theorem descBounds_reads (os : Os) {H : Type} (enc : TypeId × Value → H) : ∃ places, DataW.whole enc Try.prog ((witW os).forCall (fun _ _ => 0) ⟨#[], #[.slice none 0 0, .slice none 0 0, .slice none 0 0, .int .u8 0, .int .u8 0], []⟩).memory Try.f4.params.toList Rows.descBoundsSpec.vars false (#[.slice none 0 0, .slice none 0 0, .slice none 0 0, .int .u8 0, .int .u8 0] : Array Value).toList 8 = some ([.nil, .nil, .nil, .lit (.int .u8 0), .lit (.int .u8 0)], [], places) :=
  ⟨[], by kernel_rfl⟩
set_option maxRecDepth 100000 in
theorem descBounds_said : Rows.DescBoundsSaid :=
  OpenClaim.holds_of_cond 4 Try.f4 rfl rfl rfl rfl rfl rfl rfl ⟨rfl, rfl, rfl, rfl, rfl⟩ rfl rfl rfl rfl rfl (by kernel_rfl) Try.func4 (by kernel_rfl)
    (of_decide_eq_true (by kernel_rfl)) (by unfold Func.isWrapper; rw [if_neg (by decide +kernel)]; exact ⟨rfl, rfl⟩)
    (fun os started H enc _ F => by
      rw [OpenClaim.pre_eq_preRow]
      obtain ⟨places, hx⟩ := descBounds_reads os enc
      exact lifted (C := Try.checked) (f := 4) (fn := Try.f4) (s := Rows.descBoundsSpec) (o := OpenSpec.ofChange Rows.descBoundsSpec) (tb := 4) rfl rfl (by kernel_rfl) started (by kernel_rfl) Try.func4
        (witness_row_at (enc := enc) (C := Try.checked) false (witW os) #[.slice none 0 0, .slice none 0 0, .slice none 0 0, .int .u8 0, .int .u8 0] rfl (by kernel_rfl) (by kernel_rfl) (by kernel_rfl)
          (OpenSpec.preRow_of_cond 8 hx (by kernel_rfl) (fun k hk => by cases hk) (by kernel_rfl) (descBounds_met os)))
        (by kernel_rfl) (by kernel_rfl) rfl Try.underlying4 rfl (fun ds h => match ds, h with | [_, _, _, _, _], _ => rfl) descBounds_calls)
end Go.Proofs.Ytfjankcpnhfogaa
