/- Law TapeApart: the statement. -/
import Derived.Test.YtigmgdfplhfdpaaT23n
import Derived.Test.YtigmgdfplhfdpaaOpen23
namespace Go.Proofs.Ytigmgdfplhfdpaa
open Go.RowKit Go.ChangeShapes

theorem tapeApart_calls {H : Type} {enc : TypeId × Value → H} (W : World) (base : Nat) (args : Array Value) (ds : List (DataW H)) (ps : List MemPlace)
    (hval : ∀ (j : Nat) t v, Try.f6.params[j]? = some t → args[j]? = some v → Value.okWide Try.prog W .any base t v)
    (hA : DataW.TrodAll enc Try.prog W 0 (fun _ => true) true Try.f6.params.toList args.toList ds ps) (_hlt : ∀ x ∈ ps, x.block < W.heap.size) (hL : laidMetH Try.prog Rows.tapeApartRow.laid W)
    (_hc : ∀ k, (OpenSpec.ofChange Rows.tapeApartSpec).cond = some k → k H ds = true) (_hw : (DataW.weightsEach Try.prog Try.f6.params.toList ds).all (· ≤ reachBytes) = true) :
    Calls Try.prog 6 args W (Yes W) := by
  rw [Try.params6] at hA hval
  obtain ⟨v0, vs0, d0, ds0, p0, q0, hvs0, hds0, hps0, h0, r0⟩ := trodAll_cons hA
  obtain ⟨hvsE, _, _⟩ := trodAll_nil r0
  obtain rfl : args = #[v0] := by cases args; simp_all
  obtain ⟨tp, c, ⟨hc, hcm⟩, hok, hT⟩ := open_tape (hval 0 _ _ rfl rfl) h0
  exact yes_of_fn (tapeApart_ok tp.l c tp.p hc (by simp only [maxLen] at hcm; omega) hok.1) (rho_q W []) (mem_of_rows (ads := []) (by exact trivial) (fun x b h => by simp [GG, assoc] at h)) (relL_cons (hT _) relL_nil) (fun k b h => (rowsIn_get (w := W) (ads := []) (by exact trivial) h).2)

theorem tapeApart_met (os : Os) : laidMet Try.prog Rows.tapeApartRow.laid ((witW os).forCall (fun _ _ => 0) ⟨#[], #[.agg #[.slice none 0 0, .int .i64 0]], []⟩).memory :=
  laidMet_of_run' 8 (by kernel_rfl) (by kernel_rfl)
theorem tapeApart_reads (os : Os) {H : Type} (enc : TypeId × Value → H) : ∃ places, DataW.whole enc Try.prog ((witW os).forCall (fun _ _ => 0) ⟨#[], #[.agg #[.slice none 0 0, .int .i64 0]], []⟩).memory Try.f6.params.toList Rows.tapeApartSpec.vars false (#[.agg #[.slice none 0 0, .int .i64 0]] : Array Value).toList 8 = some ([.agg [.nil, .lit (.int .i64 0)]], [], places) :=
  ⟨[], by kernel_rfl⟩
set_option maxRecDepth 100000 in
theorem tapeApart_said : Rows.TapeApartSaid :=
  OpenClaim.holds_of_cond 6 Try.f6 rfl rfl rfl rfl rfl rfl rfl ⟨rfl, rfl, rfl, rfl, rfl⟩ rfl rfl rfl rfl rfl (by kernel_rfl) Try.func6 (by kernel_rfl)
    (of_decide_eq_true (by kernel_rfl)) (by unfold Func.isWrapper; rw [if_neg (by decide +kernel)]; exact ⟨rfl, rfl⟩)
    (fun os started H enc _ F => by
      rw [OpenClaim.pre_eq_preRow]
      obtain ⟨places, hx⟩ := tapeApart_reads os enc
      exact lifted (C := Try.checked) (f := 6) (fn := Try.f6) (s := Rows.tapeApartSpec) (o := OpenSpec.ofChange Rows.tapeApartSpec) (tb := 4) rfl rfl (by kernel_rfl) started (by kernel_rfl) Try.func6
        (witness_row_at (enc := enc) (C := Try.checked) false (witW os) #[.agg #[.slice none 0 0, .int .i64 0]] rfl (by kernel_rfl) (by kernel_rfl) (by kernel_rfl)
          (OpenSpec.preRow_of_cond 8 hx (by kernel_rfl) (fun k hk => by cases hk) (by kernel_rfl) (tapeApart_met os)))
        (by kernel_rfl) (by kernel_rfl) rfl Try.underlying4 rfl (fun ds h => match ds, h with | [_], _ => rfl) tapeApart_calls)
end Go.Proofs.Ytigmgdfplhfdpaa
