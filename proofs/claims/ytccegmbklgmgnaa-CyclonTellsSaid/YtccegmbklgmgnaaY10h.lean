/- Law CyclonMerge. -/
import Derived.Test.YtccegmbklgmgnaaY10g
namespace Go.Proofs.Ytccegmbklgmgnaa
open Go.RowKit

theorem view_eq (l : List De) (cap : Nat) (self room N : Int) (hl : l.length ≤ 1099511627776) (hi : ∀ y ∈ l, 0 ≤ y.node ∧ y.node ≤ 255) (v : List De) (hN : room = N) (hv : viewN l self N 256 = v) : FnOK Try.prog GG 10 [] [.z 4 (l.map deC) cap, .v (.int .u8 self), .v (.int .i64 room)] (fun r _ ext => (∃ cap', v.length ≤ cap' ∧ r = .z 4 (v.map deC) cap') ∧ ext = []) := by
  subst hN; subst hv
  exact view_zz l cap self room hl hi
theorem right_eq (l : List De) (cap : Nat) (self room N : Int) (hN : room = N) (hl : l.length ≤ 1099511627776) (hV : VOk self N l) : FnOK Try.prog GG 19 [] [.z 4 (l.map deC) cap, .v (.int .u8 self), .v (.int .i64 room)] (fun r _ ext => (r = .v (.bool true)) ∧ ext = []) := by
  subst hN
  exact right_zz l cap self room true hl hV.right
theorem merge_eq (l got sent : List De) (cl cg cs : Nat) (self room N : Int) (hN : room = N) (hV : VOk self N l) (hrm : N ≤ 1000) (hf : FlOk l) (hgf : FlOk got) (hg : got.length ≤ 1099511627776) (hs : sent.length ≤ 1099511627776) (o : List De) (ho : (mergeN sent got self N l got.length).1 = o) : FnOK Try.prog GG 17 [] [.z 4 (l.map deC) cl, .z 4 (got.map deC) cg, .z 4 (sent.map deC) cs, .v (.int .u8 self), .v (.int .i64 room)] (fun r _ ext => (∃ c', o.length ≤ c' ∧ r = .z 4 (o.map deC) c') ∧ ext = []) := by
  subst hN; subst ho
  exact merge_ok l got sent cl cg cs self room hV hrm hf hgf hg hs
set_option maxRecDepth 100000 in
set_option maxHeartbeats 4000000 in
theorem mFew1 (l got sent : List De) (cl cg cs : Nat) (self room : Int) (hl : l.length ≤ 9223372036854775807) (hgl : got.length ≤ 9223372036854775807) (hsl : sent.length ≤ 9223372036854775807) (hok : ∀ y ∈ l, DeOk y) (hgok : ∀ y ∈ got, DeOk y) (hrm : 0 ≤ room ∧ room ≤ 255) (h1 : (l.all (fun d => decide (d.fl.length ≤ 8)) && decide (l.length ≤ 20)) = false) : FnOK Try.prog GG 4 [] [.z 4 (l.map deC) cl, .z 4 (got.map deC) cg, .z 4 (sent.map deC) cs, .v (.int .u8 self), .v (.int .u8 room)] (fun r _ ext => (r = .v (.bool true)) ∧ ext = []) := by
  refine FnOK.pure GG_no rfl (fn_intro (C := seat) seat_ok [] GG_no (Try.func4) rfl rfl rfl rfl rfl ?_)
  repeat' ((try conv => whnf); first
    | (with_reducible refine OKv.go (C := seat) seat_ok ?_)
    | (with_reducible refine BB_true ?_)
    | (with_reducible refine BB_false ?_)
    | (with_reducible refine Both.mk ?_ ?_)
    | (with_reducible refine VS.mk ?_)
    | (refine PSem.go (C := seat) seat_ok ?_)
    | (refine And.intro (PlanOK.mk (by kernel_rfl) rfl (by kernel_rfl) (by kernel_rfl)) ?_)
    | (refine And.intro rfl (Exists.intro _ (And.intro (by first | assumption | rfl) ?_)))
    | (refine And.intro ⟨rfl, rfl, rfl⟩ ?_)
    | (refine call_ro [] (few_zz l cl _ hl h1) GG_no rfl rfl rfl trivial ?_; rintro r bs' ext ⟨rfl, rfl⟩)
    | (refine call_ro [] (awake_ok) GG_no rfl rfl rfl trivial ?_; rintro r bs' ext ⟨rfl, rfl⟩)
    | (refine And.intro (by omega) ?_)
    | (refine BB.mk (fun _h => ?_) (fun _h => ?_) <;> (first | (exact absurd _h (by decide)) | (exfalso; simp only [boolSet] at _h <;> omega) | skip)))
  all_goals (try conv => whnf)
  exact ⟨_, _, FrzV.refl _ _, rfl, rfl, fun _ => rfl, rfl⟩
set_option maxRecDepth 100000 in
set_option maxHeartbeats 4000000 in
theorem mFew2 (l got sent : List De) (cl cg cs : Nat) (self room : Int) (hl : l.length ≤ 9223372036854775807) (hgl : got.length ≤ 9223372036854775807) (hsl : sent.length ≤ 9223372036854775807) (hok : ∀ y ∈ l, DeOk y) (hgok : ∀ y ∈ got, DeOk y) (hrm : 0 ≤ room ∧ room ≤ 255) (h1 : (l.all (fun d => decide (d.fl.length ≤ 8)) && decide (l.length ≤ 20)) = true) (h2 : (got.all (fun d => decide (d.fl.length ≤ 8)) && decide (got.length ≤ 20)) = false) : FnOK Try.prog GG 4 [] [.z 4 (l.map deC) cl, .z 4 (got.map deC) cg, .z 4 (sent.map deC) cs, .v (.int .u8 self), .v (.int .u8 room)] (fun r _ ext => (r = .v (.bool true)) ∧ ext = []) := by
  refine FnOK.pure GG_no rfl (fn_intro (C := seat) seat_ok [] GG_no (Try.func4) rfl rfl rfl rfl rfl ?_)
  repeat' ((try conv => whnf); first
    | (with_reducible refine OKv.go (C := seat) seat_ok ?_)
    | (with_reducible refine BB_true ?_)
    | (with_reducible refine BB_false ?_)
    | (with_reducible refine Both.mk ?_ ?_)
    | (with_reducible refine VS.mk ?_)
    | (refine PSem.go (C := seat) seat_ok ?_)
    | (refine And.intro (PlanOK.mk (by kernel_rfl) rfl (by kernel_rfl) (by kernel_rfl)) ?_)
    | (refine And.intro rfl (Exists.intro _ (And.intro (by first | assumption | rfl) ?_)))
    | (refine And.intro ⟨rfl, rfl, rfl⟩ ?_)
    | (refine call_ro [] (few_zz l cl _ hl h1) GG_no rfl rfl rfl trivial ?_; rintro r bs' ext ⟨rfl, rfl⟩)
    | (refine call_ro [] (few_zz got cg _ hgl h2) GG_no rfl rfl rfl trivial ?_; rintro r bs' ext ⟨rfl, rfl⟩)
    | (refine call_ro [] (awake_ok) GG_no rfl rfl rfl trivial ?_; rintro r bs' ext ⟨rfl, rfl⟩)
    | (refine And.intro (by omega) ?_)
    | (refine BB.mk (fun _h => ?_) (fun _h => ?_) <;> (first | (exact absurd _h (by decide)) | (exfalso; simp only [boolSet] at _h <;> omega) | skip)))
  all_goals (try conv => whnf)
  exact ⟨_, _, FrzV.refl _ _, rfl, rfl, fun _ => rfl, rfl⟩
set_option maxRecDepth 100000 in
set_option maxHeartbeats 4000000 in
theorem mFew3 (l got sent : List De) (cl cg cs : Nat) (self room : Int) (hl : l.length ≤ 9223372036854775807) (hgl : got.length ≤ 9223372036854775807) (hsl : sent.length ≤ 9223372036854775807) (hok : ∀ y ∈ l, DeOk y) (hgok : ∀ y ∈ got, DeOk y) (hrm : 0 ≤ room ∧ room ≤ 255) (h1 : (l.all (fun d => decide (d.fl.length ≤ 8)) && decide (l.length ≤ 20)) = true) (h2 : (got.all (fun d => decide (d.fl.length ≤ 8)) && decide (got.length ≤ 20)) = true) (h3 : (sent.all (fun d => decide (d.fl.length ≤ 8)) && decide (sent.length ≤ 20)) = false) : FnOK Try.prog GG 4 [] [.z 4 (l.map deC) cl, .z 4 (got.map deC) cg, .z 4 (sent.map deC) cs, .v (.int .u8 self), .v (.int .u8 room)] (fun r _ ext => (r = .v (.bool true)) ∧ ext = []) := by
  refine FnOK.pure GG_no rfl (fn_intro (C := seat) seat_ok [] GG_no (Try.func4) rfl rfl rfl rfl rfl ?_)
  repeat' ((try conv => whnf); first
    | (with_reducible refine OKv.go (C := seat) seat_ok ?_)
    | (with_reducible refine BB_true ?_)
    | (with_reducible refine BB_false ?_)
    | (with_reducible refine Both.mk ?_ ?_)
    | (with_reducible refine VS.mk ?_)
    | (refine PSem.go (C := seat) seat_ok ?_)
    | (refine And.intro (PlanOK.mk (by kernel_rfl) rfl (by kernel_rfl) (by kernel_rfl)) ?_)
    | (refine And.intro rfl (Exists.intro _ (And.intro (by first | assumption | rfl) ?_)))
    | (refine And.intro ⟨rfl, rfl, rfl⟩ ?_)
    | (refine call_ro [] (few_zz l cl _ hl h1) GG_no rfl rfl rfl trivial ?_; rintro r bs' ext ⟨rfl, rfl⟩)
    | (refine call_ro [] (few_zz got cg _ hgl h2) GG_no rfl rfl rfl trivial ?_; rintro r bs' ext ⟨rfl, rfl⟩)
    | (refine call_ro [] (few_zz sent cs _ hsl h3) GG_no rfl rfl rfl trivial ?_; rintro r bs' ext ⟨rfl, rfl⟩)
    | (refine call_ro [] (awake_ok) GG_no rfl rfl rfl trivial ?_; rintro r bs' ext ⟨rfl, rfl⟩)
    | (refine And.intro (by omega) ?_)
    | (refine BB.mk (fun _h => ?_) (fun _h => ?_) <;> (first | (exact absurd _h (by decide)) | (exfalso; simp only [boolSet] at _h <;> omega) | skip)))
  all_goals (try conv => whnf)
  exact ⟨_, _, FrzV.refl _ _, rfl, rfl, fun _ => rfl, rfl⟩
set_option maxRecDepth 100000 in
set_option maxHeartbeats 4000000 in
theorem mGood (l got sent : List De) (cl cg cs : Nat) (self room : Int) (hl : l.length ≤ 9223372036854775807) (hgl : got.length ≤ 9223372036854775807) (hsl : sent.length ≤ 9223372036854775807) (hok : ∀ y ∈ l, DeOk y) (hgok : ∀ y ∈ got, DeOk y) (hrm : 0 ≤ room ∧ room ≤ 255) (h1 : (l.all (fun d => decide (d.fl.length ≤ 8)) && decide (l.length ≤ 20)) = true) (h2 : (got.all (fun d => decide (d.fl.length ≤ 8)) && decide (got.length ≤ 20)) = true) (h3 : (sent.all (fun d => decide (d.fl.length ≤ 8)) && decide (sent.length ≤ 20)) = true) : FnOK Try.prog GG 4 [] [.z 4 (l.map deC) cl, .z 4 (got.map deC) cg, .z 4 (sent.map deC) cs, .v (.int .u8 self), .v (.int .u8 room)] (fun r _ ext => (r = .v (.bool true)) ∧ ext = []) := by
  obtain ⟨hf, hl20⟩ := few_facts h1
  obtain ⟨hgf, hg20⟩ := few_facts h2
  obtain ⟨hsf, hs20⟩ := few_facts h3
  obtain ⟨N, hN⟩ : ∃ N, IntKind.i64.wrap (room.tmod 21) = N := ⟨_, rfl⟩
  have hN20 : 0 ≤ N ∧ N ≤ 20 := by
    rw [← hN, Int.tmod_eq_emod_of_nonneg hrm.1, IntKind.wrap_i64]
    omega
  have hV : VOk self N (viewN l self N 256) := VOk.view hN20.1 (fun y hy => (hok y hy).2.1.1)
  have hVf : FlOk (viewN l self N 256) := view_fl hf
  have hVl := hV.len
  have hw : IntKind.i64.wrap (room.tmod 21) = N := hN
  have hN2 : room.tmod 21 = N := by
    rw [← hN, Int.tmod_eq_emod_of_nonneg hrm.1, IntKind.wrap_i64]
    omega
  obtain ⟨v, hv⟩ : ∃ v, viewN l self N 256 = v := ⟨_, rfl⟩
  rw [hv] at hV hVf hVl
  obtain ⟨m, hm⟩ : ∃ m, (mergeN sent got self N v got.length).1 = m := ⟨_, rfl⟩
  have hgi : ∀ y ∈ got, 0 ≤ y.inc := fun y hy => (hgok y hy).2.1.1
  obtain ⟨hM, hMf, _⟩ := mergeN_ok (sent := sent) (got := got) hV hVf hgf got.length
  obtain ⟨e1, e2, e3, e4, e5⟩ := merge_facts (sent := sent) (got := got) hV hVf hgf hgi got.length
  rw [hm] at hM hMf e1 e2 e3 e4 e5
  have hMl := hM.len
  have hV6 : VOk self 60 v := ⟨hV.rising, hV.each, by omega⟩
  obtain ⟨w, hwd⟩ : ∃ w, (mergeN [] got self 60 v got.length).1 = w := ⟨_, rfl⟩
  obtain ⟨hW, hWf, _⟩ := mergeN_ok (sent := []) (got := got) hV6 hVf hgf got.length
  obtain ⟨w1, w2, _, _, w5⟩ := merge_facts (sent := []) (got := got) hV6 hVf hgf hgi got.length
  rw [hwd] at hW hWf w1 w2 w5
  have hlv : (v.map deC).length = v.length := List.length_map _
  have hlm : (m.map deC).length = m.length := List.length_map _
  have hlg : (got.map deC).length = got.length := List.length_map _
  refine FnOK.pure GG_no rfl (fn_intro (C := seat) seat_ok [] GG_no (Try.func4) rfl rfl rfl rfl rfl ?_)
  repeat' ((try conv => whnf); first
    | (with_reducible refine OKv.go (C := seat) seat_ok ?_)
    | (with_reducible refine BB_true ?_)
    | (with_reducible refine BB_false ?_)
    | (with_reducible refine Both.mk ?_ ?_)
    | (with_reducible refine VS.mk ?_)
    | (refine PSem.go (C := seat) seat_ok ?_)
    | (refine And.intro (PlanOK.mk (by kernel_rfl) rfl (by kernel_rfl) (by kernel_rfl)) ?_)
    | (refine And.intro rfl (Exists.intro _ (And.intro (by first | assumption | rfl) ?_)))
    | (refine And.intro ⟨rfl, rfl, rfl⟩ ?_)
    | (refine call_ro [] (few_zz l cl _ hl h1) GG_no rfl rfl rfl trivial ?_; rintro r bs' ext ⟨rfl, rfl⟩)
    | (refine call_ro [] (few_zz got cg _ hgl h2) GG_no rfl rfl rfl trivial ?_; rintro r bs' ext ⟨rfl, rfl⟩)
    | (refine call_ro [] (few_zz sent cs _ hsl h3) GG_no rfl rfl rfl trivial ?_; rintro r bs' ext ⟨rfl, rfl⟩)
    | (refine call_ro [] (view_eq l cl self _ N (by omega) (fun y hy => (hok y hy).1) v hw hv) GG_no rfl rfl rfl trivial ?_; rintro r bs' ext ⟨⟨cv, hcv, rfl⟩, rfl⟩)
    | (refine call_ro [] (merge_eq v got sent cv cg cs self _ N hw hV (by omega) hVf hgf (by omega) (by omega) m hm) GG_no rfl rfl rfl trivial ?_; rintro r bs' ext ⟨⟨cm, hcm, rfl⟩, rfl⟩)
    | (refine call_ro [] (right_eq m cm self _ N hw (by omega) hM) GG_no rfl rfl rfl trivial ?_; rintro r bs' ext ⟨rfl, rfl⟩)
    | (refine BB.mk (fun _h => ?_) (fun _h => ?_) <;> (first | (exact absurd _h (by decide)) | (exfalso; simp only [boolSet, IntKind.wrap_i64] at _h <;> omega) | (simp only [boolSet, IntKind.wrap_i64] at _h) | skip))
    | (refine And.intro (by omega) ?_)
    | (refine BB.mk (fun _h => ?_) (fun _h => ?_) <;> (first | (exact absurd _h (by decide)) | (exfalso; simp only [boolSet] at _h <;> omega) | skip)))
  all_goals (try conv => whnf)
  refine loop_rule (α := Nat) (fun k => k ≤ m.length) (fun k => { slots := [(1, .z 4 (got.map deC) cg), (2, .z 4 (sent.map deC) cs), (3, .v (.int .u8 self)), (11, .v (.int .i64 N)), (12, .z 4 (v.map deC) cv), (13, .z 4 (m.map deC) cm), (14, .fn 20 []), (15, .fn 22 []), (62, .z 4 (m.map deC) cm), (63, .v (.int .i64 m.length)), (64, .v (.int .i64 (k : Int)))], nt := 163, mem := ⟨GG, [], []⟩ }) (fun k => m.length - k) 0 (Nat.zero_le _) ⟨⟨[], List.nodup_nil, GG_no, rfl, (SubOld.refl _ rfl), trivial, ⟨.inl rfl, .inl rfl, .inl rfl, .inl (num_eq hw), .inl rfl, .inl rfl, .inl rfl, .inl rfl, .inl rfl, .inl (num_eq (by rw [hlm])), .inl rfl, trivial⟩⟩, rfl⟩ ?_ (fun _ => rfl)
  intro k hk
  dsimp only
  refine vc_sound (C := seat) seat_ok (pl := []) ?_
  by_cases hlt : k < m.length
  · obtain ⟨d, hd⟩ : ∃ d, m[k]? = some d := ⟨_, List.getElem?_eq_getElem hlt⟩
    have hrow := zde_at hd
    have hdm := List.mem_of_getElem? hd
    have hdf := hMf d hdm
    have hin : v.any (fun y => decide (y = d)) = true ∨ got.any (fun y => decide (y = d)) = true := (e3 d hdm).elim (fun h => .inr (List.any_eq_true.2 ⟨d, h, decide_eq_true rfl⟩)) (fun h => .inl (List.any_eq_true.2 ⟨d, h, decide_eq_true rfl⟩))
    repeat' ((try conv => whnf); first
      | (with_reducible refine OKv.go (C := seat) seat_ok ?_)
      | (with_reducible refine BB_true ?_)
      | (with_reducible refine BB_false ?_)
      | (with_reducible refine Both.mk ?_ ?_)
      | (with_reducible refine VS.mk ?_)
      | (refine PSem.go (C := seat) seat_ok ?_)
      | (refine And.intro (PlanOK.mk (by kernel_rfl) rfl (by kernel_rfl) (by kernel_rfl)) ?_)
      | (refine And.intro rfl (Exists.intro _ (And.intro (by first | assumption | rfl) ?_)))
      | (refine And.intro ⟨rfl, rfl, rfl⟩ ?_)
      | (refine call_ro [] (in_ok v cv d _ (by omega) hdf hVf _ rfl) GG_no rfl rfl rfl trivial ?_; rintro r bs' ext ⟨rfl, rfl⟩)
      | (refine call_ro [] (in_ok got cg d _ (by omega) hdf hgf _ rfl) GG_no rfl rfl rfl trivial ?_; rintro r bs' ext ⟨rfl, rfl⟩)
      | (refine And.intro ⟨by omega, by simp only [List.length_map]; omega⟩ (Exists.intro _ (And.intro (by first | assumption | rfl) ?_)))
      | (refine fun (caps : Nat → Nat) hcaps => ?_; conv at hcaps => whnf)
      | (refine BB.mk (fun _h => ?_) (fun _h => ?_) <;> (first | (exact absurd _h (by decide)) | (exfalso; simp only [boolSet, IntKind.wrap_i64] at _h <;> omega) | (simp only [boolSet, IntKind.wrap_i64] at _h) | skip))
      | (refine And.intro (by omega) ?_)
      | (refine BB.mk (fun _h => ?_) (fun _h => ?_) <;> (first | (exact absurd _h (by decide)) | (exfalso; simp only [boolSet] at _h <;> omega) | skip)))
    all_goals (try conv => whnf)
    all_goals first
      | exact ⟨k + 1, by omega, by (try dsimp only); omega, ⟨⟨[], by decide, GG_no, rfl, SubOld.refl _ rfl, trivial, ⟨.inl rfl, .inl rfl, .inl rfl, .inl rfl, .inl rfl, .inl rfl, .inl rfl, .inl rfl, .inl rfl, .inl rfl, .inl (num_eq (by rw [IntKind.wrap_i64]; omega)), trivial⟩⟩, rfl⟩⟩
      | (exfalso; rcases hin with h | h <;> simp_all)
  · obtain rfl : k = m.length := by omega
    repeat' ((try conv => whnf); first
      | (with_reducible refine OKv.go (C := seat) seat_ok ?_)
      | (with_reducible refine BB_true ?_)
      | (with_reducible refine BB_false ?_)
      | (with_reducible refine Both.mk ?_ ?_)
      | (with_reducible refine VS.mk ?_)
      | (refine PSem.go (C := seat) seat_ok ?_)
      | (refine And.intro (PlanOK.mk (by kernel_rfl) rfl (by kernel_rfl) (by kernel_rfl)) ?_)
      | (refine And.intro rfl (Exists.intro _ (And.intro (by first | assumption | rfl) ?_)))
      | (refine And.intro ⟨rfl, rfl, rfl⟩ ?_)
      | (refine BB.mk (fun _h => ?_) (fun _h => ?_) <;> (first | (exact absurd _h (by decide)) | (exfalso; simp only [boolSet, IntKind.wrap_i64] at _h <;> omega) | (simp only [boolSet, IntKind.wrap_i64] at _h) | skip))
      | (refine And.intro (by omega) ?_)
      | (refine BB.mk (fun _h => ?_) (fun _h => ?_) <;> (first | (exact absurd _h (by decide)) | (exfalso; simp only [boolSet] at _h <;> omega) | skip)))
    all_goals (try conv => whnf)
    refine loop_rule (α := Nat) (fun k => k ≤ v.length) (fun k => { slots := [(1, .z 4 (got.map deC) cg), (2, .z 4 (sent.map deC) cs), (3, .v (.int .u8 self)), (11, .v (.int .i64 N)), (12, .z 4 (v.map deC) cv), (13, .z 4 (m.map deC) cm), (15, .fn 22 []), (81, .z 4 (v.map deC) cv), (82, .v (.int .i64 v.length)), (83, .v (.int .i64 (k : Int)))], nt := 163, mem := ⟨GG, [], []⟩ }) (fun k => v.length - k) 0 (Nat.zero_le _) ⟨⟨[], List.nodup_nil, GG_no, rfl, (SubOld.refl _ rfl), trivial, ⟨.inl rfl, .inl rfl, .inl rfl, .inl rfl, .inl rfl, .inl rfl, .inl rfl, .inl rfl, .inl (num_eq (by rw [hlv])), .inl rfl, trivial⟩⟩, rfl⟩ ?_ (fun _ => rfl)
    intro k hk
    dsimp only
    refine vc_sound (C := seat) seat_ok (pl := []) ?_
    by_cases hlt : k < v.length
    · obtain ⟨d, hd⟩ : ∃ d, v[k]? = some d := ⟨_, List.getElem?_eq_getElem hlt⟩
      have hrow := zde_at hd
      have hdm := List.mem_of_getElem? hd
      have hfd := e4 d hdm
      repeat' ((try conv => whnf); first
        | (with_reducible refine OKv.go (C := seat) seat_ok ?_)
        | (with_reducible refine BB_true ?_)
        | (with_reducible refine BB_false ?_)
        | (with_reducible refine Both.mk ?_ ?_)
        | (with_reducible refine VS.mk ?_)
        | (refine PSem.go (C := seat) seat_ok ?_)
        | (refine And.intro (PlanOK.mk (by kernel_rfl) rfl (by kernel_rfl) (by kernel_rfl)) ?_)
        | (refine And.intro rfl (Exists.intro _ (And.intro (by first | assumption | rfl) ?_)))
        | (refine And.intro ⟨rfl, rfl, rfl⟩ ?_)
        | (refine call_ro [] (has_ok m cm d.node (by omega) hMf _ rfl) GG_no rfl rfl rfl trivial ?_; rintro r bs' ext ⟨rfl, rfl⟩)
        | (refine call_ro [] (has_ok sent cs d.node (by omega) hsf _ rfl) GG_no rfl rfl rfl trivial ?_; rintro r bs' ext ⟨rfl, rfl⟩)
        | (refine call_ro [] (has_ok got cg d.node (by omega) hgf _ rfl) GG_no rfl rfl rfl trivial ?_; rintro r bs' ext ⟨rfl, rfl⟩)
        | (refine And.intro ⟨by omega, by simp only [List.length_map]; omega⟩ (Exists.intro _ (And.intro (by first | assumption | rfl) ?_)))
        | (refine fun (caps : Nat → Nat) hcaps => ?_; conv at hcaps => whnf)
        | (refine BB.mk (fun _h => ?_) (fun _h => ?_) <;> (first | (exact absurd _h (by decide)) | (exfalso; simp only [boolSet, IntKind.wrap_i64] at _h <;> omega) | (simp only [boolSet, IntKind.wrap_i64] at _h) | skip))
        | (refine And.intro (by omega) ?_)
        | (refine BB.mk (fun _h => ?_) (fun _h => ?_) <;> (first | (exact absurd _h (by decide)) | (exfalso; simp only [boolSet] at _h <;> omega) | skip)))
      all_goals (try conv => whnf)
      all_goals first
        | exact ⟨k + 1, by omega, by (try dsimp only); omega, ⟨⟨[], by decide, GG_no, rfl, SubOld.refl _ rfl, trivial, ⟨.inl rfl, .inl rfl, .inl rfl, .inl rfl, .inl rfl, .inl rfl, .inl rfl, .inl rfl, .inl rfl, .inl (num_eq (by rw [IntKind.wrap_i64]; omega)), trivial⟩⟩, rfl⟩⟩
        | (exfalso; rcases hfd with h | ⟨h, h'⟩ <;> simp_all)
    · obtain rfl : k = v.length := by omega
      repeat' ((try conv => whnf); first
        | (with_reducible refine OKv.go (C := seat) seat_ok ?_)
        | (with_reducible refine BB_true ?_)
        | (with_reducible refine BB_false ?_)
        | (with_reducible refine Both.mk ?_ ?_)
        | (with_reducible refine VS.mk ?_)
        | (refine PSem.go (C := seat) seat_ok ?_)
        | (refine And.intro (PlanOK.mk (by kernel_rfl) rfl (by kernel_rfl) (by kernel_rfl)) ?_)
        | (refine And.intro rfl (Exists.intro _ (And.intro (by first | assumption | rfl) ?_)))
        | (refine And.intro ⟨rfl, rfl, rfl⟩ ?_)
        | (refine call_frz 2 rfl (frz_nil _ 4) ?_; refine call_ro [] (merge_eq v got [] cv cg 0 self _ 60 rfl hV6 (by decide) hVf hgf (by omega) (by decide) w hwd) GG_no rfl rfl rfl trivial ?_; rintro r bs' ext ⟨⟨cw, hcw, rfl⟩, rfl⟩)
        | (refine BB.mk (fun _h => ?_) (fun _h => ?_) <;> (first | (exact absurd _h (by decide)) | (exfalso; simp only [boolSet, IntKind.wrap_i64] at _h <;> omega) | (simp only [boolSet, IntKind.wrap_i64] at _h) | skip))
        | (refine And.intro (by omega) ?_)
        | (refine BB.mk (fun _h => ?_) (fun _h => ?_) <;> (first | (exact absurd _h (by decide)) | (exfalso; simp only [boolSet] at _h <;> omega) | skip)))
      all_goals (try conv => whnf)
      refine loop_rule (α := Nat) (fun k => k ≤ got.length) (fun k => { slots := [(1, .z 4 (got.map deC) cg), (2, .z 4 (sent.map deC) cs), (3, .v (.int .u8 self)), (11, .v (.int .i64 N)), (12, .z 4 (v.map deC) cv), (13, .z 4 (m.map deC) cm), (15, .fn 22 []), (20, .z 4 (w.map deC) cw), (113, .z 4 (got.map deC) cg), (114, .v (.int .i64 got.length)), (115, .v (.int .i64 (k : Int)))], nt := 163, mem := ⟨GG, [], []⟩ }) (fun k => got.length - k) 0 (Nat.zero_le _) ⟨⟨[], List.nodup_nil, GG_no, rfl, (SubOld.refl _ rfl), trivial, ⟨.inl rfl, .inl rfl, .inl rfl, .inl rfl, .inl rfl, .inl rfl, .inl rfl, .inl rfl, .inl rfl, .inl (num_eq (by rw [hlg])), .inl rfl, trivial⟩⟩, rfl⟩ ?_ (fun _ => rfl)
      intro k hk
      dsimp only
      refine vc_sound (C := seat) seat_ok (pl := []) ?_
      by_cases hlt : k < got.length
      · obtain ⟨d, hd⟩ : ∃ d, got[k]? = some d := ⟨_, List.getElem?_eq_getElem hlt⟩
        have hrow := zde_at hd
        have hdm := List.mem_of_getElem? hd
        have hdi := hgi d hdm
        have hf5 : d.node = self ∨ d.inc = 0 ∨ hasN m d.node = true ∨ N ≤ m.length := e5 k d hlt hd
        have hf6 : d.node = self ∨ d.inc = 0 ∨ hasN w d.node = true := by
          rcases w5 k d hlt hd with h | h | h | h
          · exact .inl h
          · exact .inr (.inl h)
          · exact .inr (.inr h)
          · omega
        repeat' ((try conv => whnf); first
          | (with_reducible refine OKv.go (C := seat) seat_ok ?_)
          | (with_reducible refine BB_true ?_)
          | (with_reducible refine BB_false ?_)
          | (with_reducible refine Both.mk ?_ ?_)
          | (with_reducible refine VS.mk ?_)
          | (refine PSem.go (C := seat) seat_ok ?_)
          | (refine And.intro (PlanOK.mk (by kernel_rfl) rfl (by kernel_rfl) (by kernel_rfl)) ?_)
          | (refine And.intro rfl (Exists.intro _ (And.intro (by first | assumption | rfl) ?_)))
          | (refine And.intro ⟨rfl, rfl, rfl⟩ ?_)
          | (refine call_ro [] (has_ok w cw d.node (by omega) hWf _ rfl) GG_no rfl rfl rfl trivial ?_; rintro r bs' ext ⟨rfl, rfl⟩)
          | (refine call_ro [] (has_ok m cm d.node (by omega) hMf _ rfl) GG_no rfl rfl rfl trivial ?_; rintro r bs' ext ⟨rfl, rfl⟩)
          | (refine And.intro ⟨by omega, by simp only [List.length_map]; omega⟩ (Exists.intro _ (And.intro (by first | assumption | rfl) ?_)))
          | (refine fun (caps : Nat → Nat) hcaps => ?_; conv at hcaps => whnf)
          | (refine BB.mk (fun _h => ?_) (fun _h => ?_) <;> (first | (exact absurd _h (by decide)) | (exfalso; simp only [boolSet, IntKind.wrap_i64] at _h <;> omega) | (simp only [boolSet, IntKind.wrap_i64] at _h) | skip))
          | (refine And.intro (by omega) ?_)
          | (refine BB.mk (fun _h => ?_) (fun _h => ?_) <;> (first | (exact absurd _h (by decide)) | (exfalso; simp only [boolSet] at _h <;> omega) | skip)))
        all_goals (try conv => whnf)
        all_goals first
          | exact ⟨k + 1, by omega, by (try dsimp only); omega, ⟨⟨[], by decide, GG_no, rfl, SubOld.refl _ rfl, trivial, ⟨.inl rfl, .inl rfl, .inl rfl, .inl rfl, .inl rfl, .inl rfl, .inl rfl, .inl rfl, .inl rfl, .inl rfl, .inl (num_eq (by rw [IntKind.wrap_i64]; omega)), trivial⟩⟩, rfl⟩⟩
          | (exfalso; rcases hf5 with h | h | h | h <;> rcases hf6 with h' | h' | h' <;> simp_all <;> omega)
      · obtain rfl : k = got.length := by omega
        repeat' ((try conv => whnf); first
          | (with_reducible refine OKv.go (C := seat) seat_ok ?_)
          | (with_reducible refine BB_true ?_)
          | (with_reducible refine BB_false ?_)
          | (with_reducible refine Both.mk ?_ ?_)
          | (with_reducible refine VS.mk ?_)
          | (refine PSem.go (C := seat) seat_ok ?_)
          | (refine And.intro (PlanOK.mk (by kernel_rfl) rfl (by kernel_rfl) (by kernel_rfl)) ?_)
          | (refine And.intro rfl (Exists.intro _ (And.intro (by first | assumption | rfl) ?_)))
          | (refine And.intro ⟨rfl, rfl, rfl⟩ ?_)
          | (refine call_ro [] (awake_ok) GG_no rfl rfl rfl trivial ?_; rintro r bs' ext ⟨rfl, rfl⟩)
          | (refine BB.mk (fun _h => ?_) (fun _h => ?_) <;> (first | (exact absurd _h (by decide)) | (exfalso; simp only [boolSet, IntKind.wrap_i64] at _h <;> omega) | (simp only [boolSet, IntKind.wrap_i64] at _h) | skip))
          | (refine And.intro (by omega) ?_)
          | (refine BB.mk (fun _h => ?_) (fun _h => ?_) <;> (first | (exact absurd _h (by decide)) | (exfalso; simp only [boolSet] at _h <;> omega) | skip)))
        all_goals (try conv => whnf)
        exact ⟨_, _, FrzV.refl _ _, rfl, rfl, fun _ => rfl, rfl⟩
theorem cyclonMerge_ok (l got sent : List De) (cl cg cs : Nat) (self room : Int) (hl : l.length ≤ 9223372036854775807) (hgl : got.length ≤ 9223372036854775807) (hsl : sent.length ≤ 9223372036854775807) (hok : ∀ y ∈ l, DeOk y) (hgok : ∀ y ∈ got, DeOk y) (hrm : 0 ≤ room ∧ room ≤ 255) : FnOK Try.prog GG 4 [] [.z 4 (l.map deC) cl, .z 4 (got.map deC) cg, .z 4 (sent.map deC) cs, .v (.int .u8 self), .v (.int .u8 room)] (fun r _ ext => r = .v (.bool true) ∧ ext = []) := by
  cases h1 : (l.all (fun d => decide (d.fl.length ≤ 8)) && decide (l.length ≤ 20)) with
  | false => exact mFew1 l got sent cl cg cs self room hl hgl hsl hok hgok hrm h1
  | true =>
    cases h2 : (got.all (fun d => decide (d.fl.length ≤ 8)) && decide (got.length ≤ 20)) with
    | false => exact mFew2 l got sent cl cg cs self room hl hgl hsl hok hgok hrm h1 h2
    | true =>
      cases h3 : (sent.all (fun d => decide (d.fl.length ≤ 8)) && decide (sent.length ≤ 20)) with
      | false => exact mFew3 l got sent cl cg cs self room hl hgl hsl hok hgok hrm h1 h2 h3
      | true => exact mGood l got sent cl cg cs self room hl hgl hsl hok hgok hrm h1 h2 h3
end Go.Proofs.Ytccegmbklgmgnaa
