/- Law PullRight: the statement. -/
import Derived.Test.YtcjcnlahieddoaaKRight
import Derived.Test.YtcjcnlahieddoaaOpen18
namespace Go.Proofs.Ytcjcnlahieddoaa
open Go.RowKit Go.ChangeShapes Go.WideShapes Go.Deep

theorem sized_len {H : Type} {enc : TypeId × Value → H} {P : Program} {w : World} {base : Nat} {hd : Bool} {t e : TypeId} {ad : Option Addr} {len cap : Nat} {d : DataW H} {p : List MemPlace} (ht : P.underlying t = some (.slice e)) (h : DataW.Trod enc P w base (fun _ => true) hd t (.slice ad len cap) d p) : len = 0 ∨ ∃ el sp, d = .slice el sp ∧ len ≤ el.length + sp.length := by
  obtain ⟨fuel, h⟩ := h
  rcases open_slice ht h with ⟨h1, _⟩ | ⟨a, len', cap', m, n, D, Pl, h1, hb, hl, hm, hmm, hx, _⟩
  · simp [Value.cells] at h1
    exact .inl h1.2.1
  · simp [Value.cells] at h1
    obtain ⟨_, rfl, rfl⟩ := h1
    refine .inr ⟨_, _, congrArg Prod.fst hx, ?_⟩
    simp


theorem pullRight_calls {H : Type} {enc : TypeId × Value → H} (W : World) (base : Nat) (args : Array Value) (ds : List (DataW H)) (ps : List MemPlace)
    (hval : ∀ (j : Nat) t v, Try.f7.params[j]? = some t → args[j]? = some v → Value.okWide Try.prog W .any base t v)
    (hA : DataW.TrodAll enc Try.prog W 0 (fun _ => true) true Try.f7.params.toList args.toList ds ps) (_hlt : ∀ x ∈ ps, x.block < W.heap.size) (hL : laidMetH Try.prog Rows.pullRightRow.laid W)
    (_hc : ∀ k, (OpenSpec.ofChange Rows.pullRightSpec).cond = some k → k H ds = true) (_hw : (DataW.weightsEach Try.prog Try.f7.params.toList ds).all (· ≤ reachBytes) = true) :
    Calls Try.prog 7 args W (Yes W) := by
  rw [Try.params7] at hA hval
  obtain ⟨v0, vs0, d0, ds0, p0, q0, hvs0, hds0, hps0, h0, r0⟩ := trodAll_cons hA
  obtain ⟨v1, vs1, d1, ds1, p1, q1, hvs1, hds1, hps1, h1, r1⟩ := trodAll_cons r0
  obtain ⟨v2, vs2, d2, ds2, p2, q2, hvs2, hds2, hps2, h2, r2⟩ := trodAll_cons r1
  obtain ⟨hvsE, _, _⟩ := trodAll_nil r2
  obtain rfl : args = #[v0, v1, v2] := by cases args; simp_all
  obtain ⟨ad, l, cap, rfl, hl, hR⟩ := open_asks (hval 0 _ _ rfl rfl) h0
  obtain ⟨at_, rfl, ha0, ha1⟩ := open_u8 (hval 1 _ _ rfl rfl) h1
  obtain ⟨most, rfl, _, _⟩ := open_i64 (hval 2 _ _ rfl rfl) h2
  have hlb : l.length * 12 ≤ 140737488351232 := by
    rcases sized_len Try.underlying22 h0 with e | ⟨el, sp, rfl, hle⟩
    · omega
    · have hs := sized_slice _hw (j := 0) (t := 22) (e := 28) (by rw [Try.params7]; rfl) (by rw [hds0]; rfl) Try.underlying22
      have hb : Try.prog.bytesOf 28 = 12 := by kernel_rfl
      rw [hb] at hs
      simp only [reachBytes] at hs
      omega
  exact yes_of_fn (pullRight_ok l cap at_ most hR.le (by omega) hl ha0 ha1) (mem_of_rows (ads := [ad]) (by exact ⟨hR.blk, trivial⟩) (fun x b h => by simp [assoc] at h)) (relL_cons (rel_row hR rfl) (relL_cons (rel_c rfl) (relL_cons (rel_c rfl) relL_nil))) (fun k b h => (rowsIn_get (w := W) (ads := [ad]) (by exact ⟨hR.blk, trivial⟩) h).2)

theorem pullRight_met (os : Os) : laidMet Try.prog Rows.pullRightRow.laid ((witW os).forCall (fun _ _ => 0) ⟨#[], #[.slice none 0 0, .int .u8 0, .int .i64 0], []⟩).memory :=
  laidMet_of_run' 8 (by kernel_rfl) (by kernel_rfl)
theorem pullRight_reads (os : Os) {H : Type} (enc : TypeId × Value → H) : ∃ places, DataW.whole enc Try.prog ((witW os).forCall (fun _ _ => 0) ⟨#[], #[.slice none 0 0, .int .u8 0, .int .i64 0], []⟩).memory Try.f7.params.toList Rows.pullRightSpec.vars false (#[.slice none 0 0, .int .u8 0, .int .i64 0] : Array Value).toList 8 = some ([.nil, .lit (.int .u8 0), .lit (.int .i64 0)], [], places) :=
  ⟨[], by kernel_rfl⟩
set_option maxRecDepth 100000 in
theorem pullRight_said : Rows.PullRightSaid :=
  OpenClaim.holds_of_cond 7 Try.f7 rfl rfl rfl rfl rfl rfl rfl ⟨rfl, rfl, rfl, rfl, rfl⟩ rfl rfl rfl rfl rfl (by kernel_rfl) Try.func7 (by kernel_rfl)
    (of_decide_eq_true (by kernel_rfl)) (by unfold Func.isWrapper; rw [if_neg (by decide +kernel)]; exact ⟨rfl, rfl⟩)
    (fun os started H enc _ F => by
      rw [OpenClaim.pre_eq_preRow]
      obtain ⟨places, hx⟩ := pullRight_reads os enc
      exact lifted (C := Try.checked) (f := 7) (fn := Try.f7) (s := Rows.pullRightSpec) (o := OpenSpec.ofChange Rows.pullRightSpec) (tb := 4) rfl rfl (by kernel_rfl) started (by kernel_rfl) Try.func7
        (witness_row_at (enc := enc) (C := Try.checked) false (witW os) #[.slice none 0 0, .int .u8 0, .int .i64 0] rfl (by kernel_rfl) (by kernel_rfl) (by kernel_rfl)
          (OpenSpec.preRow_of_cond 8 hx (by kernel_rfl) (fun k hk => by cases hk) (by kernel_rfl) (pullRight_met os)))
        (by kernel_rfl) (by kernel_rfl) rfl Try.underlying4 rfl (fun ds h => match ds, h with | [_, _, _], _ => rfl) pullRight_calls)
end Go.Proofs.Ytcjcnlahieddoaa
