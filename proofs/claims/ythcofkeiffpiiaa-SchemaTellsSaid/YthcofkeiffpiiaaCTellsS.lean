/- Law SchemaTells: the statement. -/
import Derived.Test.YthcofkeiffpiiaaCTells
import Derived.Test.YthcofkeiffpiiaaOpen03
namespace Go.Proofs.Ythcofkeiffpiiaa
open Go.RowKit Go.ChangeShapes

theorem schemaTells_calls {H : Type} {enc : TypeId × Value → H} (W : World) (base : Nat) (args : Array Value) (ds : List (DataW H)) (ps : List MemPlace)
    (hval : ∀ (j : Nat) t v, Try.f3.params[j]? = some t → args[j]? = some v → Value.okWide Try.prog W .any base t v)
    (hA : DataW.TrodAll enc Try.prog W 0 (fun _ => true) true Try.f3.params.toList args.toList ds ps) (hlt : ∀ x ∈ ps, x.block < W.heap.size) (hL : laidMetH Try.prog Rows.schemaTellsRow.laid W)
    (hc : ∀ k, (OpenSpec.ofChange Rows.schemaTellsSpec).cond = some k → k H ds = true) (hw : (DataW.weightsEach Try.prog Try.f3.params.toList ds).all (· ≤ reachBytes) = true) :
    Calls Try.prog 3 args W (Yes W) := by
  rw [Try.params3] at hA hval
  obtain ⟨v0, vs0, d0, ds0, p0, q0, hvs0, hds0, hps0, h0, r0⟩ := trodAll_cons hA
  obtain ⟨v1, vs1, d1, ds1, p1, q1, hvs1, hds1, hps1, h1, r1⟩ := trodAll_cons r0
  obtain ⟨v2, vs2, d2, ds2, p2, q2, hvs2, hds2, hps2, h2, r2⟩ := trodAll_cons r1
  obtain ⟨hvsE, _, _⟩ := trodAll_nil r2
  obtain rfl : args = #[v0, v1, v2] := by cases args; simp_all
  obtain ⟨ad, l, c, rfl, _, hR⟩ := open_schema (hval 0 _ _ rfl rfl) h0
  obtain ⟨a, a1, a2, c1, c2, rfl, r1, r2, _, _, oa⟩ := open_ev (hval 1 _ _ rfl rfl) h1
  obtain ⟨b, a3, a4, c3, c4, rfl, r3, r4, _, _, ob⟩ := open_ev (hval 2 _ _ rfl rfl) h2
  exact yes_of_fn (schemaTells_ok l a b c c1 c2 c3 c4 r1.le r2.le oa ob) (mem_of_rows (ads := [ad, a1, a2, a3, a4]) (by exact ⟨hR.blk, r1.blk, r2.blk, r3.blk, r4.blk, trivial⟩) (fun x b h => by simp [assoc] at h)) (relL_cons (rel_row hR rfl) (relL_cons (rel_ev (relL_cons (rel_c rfl) (relL_cons (rel_c rfl) (relL_cons (rel_c rfl) (relL_cons (rel_row r1 rfl) (relL_cons (rel_row r2 rfl) relL_nil)))))) (relL_cons (rel_ev (relL_cons (rel_c rfl) (relL_cons (rel_c rfl) (relL_cons (rel_c rfl) (relL_cons (rel_row r3 rfl) (relL_cons (rel_row r4 rfl) relL_nil)))))) relL_nil))) (fun k b h => (rowsIn_get (w := W) (ads := [ad, a1, a2, a3, a4]) (by exact ⟨hR.blk, r1.blk, r2.blk, r3.blk, r4.blk, trivial⟩) h).2)

theorem schemaTells_met (os : Os) : laidMet Try.prog Rows.schemaTellsRow.laid ((witW os).forCall (fun _ _ => 0) ⟨#[], #[.slice none 0 0, .agg #[.int .u8 0, .int .u16 0, .int .u32 0, .slice none 0 0, .slice none 0 0], .agg #[.int .u8 0, .int .u16 0, .int .u32 0, .slice none 0 0, .slice none 0 0]], []⟩).memory :=
  laidMet_of_run' 8 (by kernel_rfl) (by kernel_rfl)
theorem schemaTells_reads (os : Os) {H : Type} (enc : TypeId × Value → H) : ∃ places, DataW.whole enc Try.prog ((witW os).forCall (fun _ _ => 0) ⟨#[], #[.slice none 0 0, .agg #[.int .u8 0, .int .u16 0, .int .u32 0, .slice none 0 0, .slice none 0 0], .agg #[.int .u8 0, .int .u16 0, .int .u32 0, .slice none 0 0, .slice none 0 0]], []⟩).memory Try.f3.params.toList Rows.schemaTellsSpec.vars false (#[.slice none 0 0, .agg #[.int .u8 0, .int .u16 0, .int .u32 0, .slice none 0 0, .slice none 0 0], .agg #[.int .u8 0, .int .u16 0, .int .u32 0, .slice none 0 0, .slice none 0 0]] : Array Value).toList 8 = some ([.nil, .agg [.agg [.lit (.int .u8 0), .lit (.int .u16 0), .lit (.int .u32 0)], .nil, .nil], .agg [.agg [.lit (.int .u8 0), .lit (.int .u16 0), .lit (.int .u32 0)], .nil, .nil]], [], places) :=
  ⟨[], by kernel_rfl⟩
set_option maxRecDepth 100000 in
theorem schemaTells_said : Rows.SchemaTellsSaid :=
  OpenClaim.holds_of_cond 3 Try.f3 rfl rfl rfl rfl rfl rfl rfl ⟨rfl, rfl, rfl, rfl, rfl⟩ rfl rfl rfl rfl rfl (by kernel_rfl) Try.func3 (by kernel_rfl)
    (of_decide_eq_true (by kernel_rfl)) (by unfold Func.isWrapper; rw [if_neg (by decide +kernel)]; exact ⟨rfl, rfl⟩)
    (fun os started H enc _ F => by
      rw [OpenClaim.pre_eq_preRow]
      obtain ⟨places, hx⟩ := schemaTells_reads os enc
      exact lifted (C := Try.checked) (f := 3) (fn := Try.f3) (s := Rows.schemaTellsSpec) (o := OpenSpec.ofChange Rows.schemaTellsSpec) (tb := 4) rfl rfl (by kernel_rfl) started (by kernel_rfl) Try.func3
        (witness_row_at (enc := enc) (C := Try.checked) false (witW os) #[.slice none 0 0, .agg #[.int .u8 0, .int .u16 0, .int .u32 0, .slice none 0 0, .slice none 0 0], .agg #[.int .u8 0, .int .u16 0, .int .u32 0, .slice none 0 0, .slice none 0 0]] rfl (by kernel_rfl) (by kernel_rfl) (by kernel_rfl)
          (OpenSpec.preRow_of_cond 8 hx (by kernel_rfl) (fun k hk => by cases hk) (by kernel_rfl) (schemaTells_met os)))
        (by kernel_rfl) (by kernel_rfl) rfl Try.underlying4 rfl (fun ds h => match ds, h with | [_, _, _], _ => rfl) schemaTells_calls)
end Go.Proofs.Ythcofkeiffpiiaa
