/- Law SampleFill. -/
import Derived.Test.YtjghbfbifkhloaaW11g
namespace Go.Proofs.Ytjghbfbifkhloaa
open Go.RowKit

set_option maxRecDepth 100000 in
set_option maxHeartbeats 4000000 in
theorem fillFew (l got : List De) (cap cg : Nat) (self room : Int) (hl : l.length ≤ 9223372036854775807) (hgl : got.length ≤ 9223372036854775807) (hok : ∀ y ∈ l, DeOk y) (hgok : ∀ y ∈ got, DeOk y) (hrm : 0 ≤ room ∧ room ≤ 255) (hfew : (l.all (fun d => decide (d.fl.length ≤ 8)) && decide (l.length ≤ 20)) = false) : FnOK Try.prog GG 6 [] [.z 4 (l.map deC) cap, .z 4 (got.map deC) cg, .v (.int .u8 self), .v (.int .u8 room)] (fun r _ ext => (r = .v (.bool true)) ∧ ext = []) := by
  refine FnOK.pure GG_no rfl (fn_intro (C := seat) seat_ok [] GG_no (Try.func6) rfl rfl rfl rfl rfl ?_)
  repeat' ((try conv => whnf); first
    | (with_reducible refine OKv.go (C := seat) seat_ok ?_)
    | (with_reducible refine BB_true ?_)
    | (with_reducible refine BB_false ?_)
    | (with_reducible refine Both.mk ?_ ?_)
    | (with_reducible refine VS.mk ?_)
    | (refine PSem.go (C := seat) seat_ok ?_)
    | (refine And.intro (PlanOK.mk (by kernel_rfl) rfl (by kernel_rfl) (by kernel_rfl)) ?_)
    | (refine And.intro rfl (Exists.intro _ (And.intro (by first | assumption | rfl) ?_)))
    | (refine And.intro ⟨rfl, rfl, rfl⟩ ?_)
    | (refine call_ro [] (few_zz l cap _ hl hfew) GG_no rfl rfl rfl trivial ?_; rintro r bs' ext ⟨rfl, rfl⟩)
    | (refine call_ro [] (awake_ok) GG_no rfl rfl rfl trivial ?_; rintro r bs' ext ⟨rfl, rfl⟩)
    | (refine And.intro (by omega) ?_)
    | (refine BB.mk (fun _h => ?_) (fun _h => ?_) <;> (first | (exact absurd _h (by decide)) | (exfalso; simp only [boolSet] at _h <;> omega) | skip)))
  all_goals (try conv => whnf)
  exact ⟨_, _, FrzV.refl _ _, rfl, rfl, fun _ => rfl, rfl⟩
set_option maxRecDepth 100000 in
set_option maxHeartbeats 4000000 in
theorem fillFew2 (l got : List De) (cap cg : Nat) (self room : Int) (hl : l.length ≤ 9223372036854775807) (hgl : got.length ≤ 9223372036854775807) (hok : ∀ y ∈ l, DeOk y) (hgok : ∀ y ∈ got, DeOk y) (hrm : 0 ≤ room ∧ room ≤ 255) (hfew : (l.all (fun d => decide (d.fl.length ≤ 8)) && decide (l.length ≤ 20)) = true) (hfew2 : (got.all (fun d => decide (d.fl.length ≤ 8)) && decide (got.length ≤ 20)) = false) : FnOK Try.prog GG 6 [] [.z 4 (l.map deC) cap, .z 4 (got.map deC) cg, .v (.int .u8 self), .v (.int .u8 room)] (fun r _ ext => (r = .v (.bool true)) ∧ ext = []) := by
  refine FnOK.pure GG_no rfl (fn_intro (C := seat) seat_ok [] GG_no (Try.func6) rfl rfl rfl rfl rfl ?_)
  repeat' ((try conv => whnf); first
    | (with_reducible refine OKv.go (C := seat) seat_ok ?_)
    | (with_reducible refine BB_true ?_)
    | (with_reducible refine BB_false ?_)
    | (with_reducible refine Both.mk ?_ ?_)
    | (with_reducible refine VS.mk ?_)
    | (refine PSem.go (C := seat) seat_ok ?_)
    | (refine And.intro (PlanOK.mk (by kernel_rfl) rfl (by kernel_rfl) (by kernel_rfl)) ?_)
    | (refine And.intro rfl (Exists.intro _ (And.intro (by first | assumption | rfl) ?_)))
    | (refine And.intro ⟨rfl, rfl, rfl⟩ ?_)
    | (refine call_ro [] (few_zz l cap _ hl hfew) GG_no rfl rfl rfl trivial ?_; rintro r bs' ext ⟨rfl, rfl⟩)
    | (refine call_ro [] (few_zz got cg _ hgl hfew2) GG_no rfl rfl rfl trivial ?_; rintro r bs' ext ⟨rfl, rfl⟩)
    | (refine call_ro [] (awake_ok) GG_no rfl rfl rfl trivial ?_; rintro r bs' ext ⟨rfl, rfl⟩)
    | (refine And.intro (by omega) ?_)
    | (refine BB.mk (fun _h => ?_) (fun _h => ?_) <;> (first | (exact absurd _h (by decide)) | (exfalso; simp only [boolSet] at _h <;> omega) | skip)))
  all_goals (try conv => whnf)
  exact ⟨_, _, FrzV.refl _ _, rfl, rfl, fun _ => rfl, rfl⟩
theorem view_eq (l : List De) (cap : Nat) (self room N : Int) (hl : l.length ≤ 1099511627776) (hi : ∀ y ∈ l, 0 ≤ y.node ∧ y.node ≤ 255) (v : List De) (hN : room = N) (hv : viewN l self N 256 = v) : FnOK Try.prog GG 18 [] [.z 4 (l.map deC) cap, .v (.int .u8 self), .v (.int .i64 room)] (fun r _ ext => (∃ cap', v.length ≤ cap' ∧ r = .z 4 (v.map deC) cap') ∧ ext = []) := by
  subst hN; subst hv
  exact view_zz l cap self room hl hi
theorem fill_eq (l got : List De) (cap cg : Nat) (self room N : Int) (hN : room = N) (hV : VOk self N l) (hrm : N ≤ 1000) (hf : FlOk l) (hgf : FlOk got) (hg : got.length ≤ 1099511627776) (o : List De) (ho : fillL got self N got.length l = o) : FnOK Try.prog GG 22 [] [.z 4 (l.map deC) cap, .z 4 (got.map deC) cg, .v (.int .u8 self), .v (.int .i64 room)] (fun r _ ext => (∃ c', o.length ≤ c' ∧ r = .z 4 (o.map deC) c') ∧ ext = []) := by
  subst hN; subst ho
  exact fill_ok l got cap cg self room hV hrm hf hgf hg
theorem right_eq (l : List De) (cap : Nat) (self room N : Int) (hN : room = N) (hl : l.length ≤ 1099511627776) (hV : VOk self N l) : FnOK Try.prog GG 24 [] [.z 4 (l.map deC) cap, .v (.int .u8 self), .v (.int .i64 room)] (fun r _ ext => (r = .v (.bool true)) ∧ ext = []) := by
  subst hN
  exact right_zz l cap self room true hl hV.right
set_option maxRecDepth 100000 in
set_option maxHeartbeats 4000000 in
theorem fillGood (l got : List De) (cap cg : Nat) (self room : Int) (hl : l.length ≤ 9223372036854775807) (hgl : got.length ≤ 9223372036854775807) (hok : ∀ y ∈ l, DeOk y) (hgok : ∀ y ∈ got, DeOk y) (hrm : 0 ≤ room ∧ room ≤ 255) (hfew : (l.all (fun d => decide (d.fl.length ≤ 8)) && decide (l.length ≤ 20)) = true) (hfew2 : (got.all (fun d => decide (d.fl.length ≤ 8)) && decide (got.length ≤ 20)) = true) : FnOK Try.prog GG 6 [] [.z 4 (l.map deC) cap, .z 4 (got.map deC) cg, .v (.int .u8 self), .v (.int .u8 room)] (fun r _ ext => (r = .v (.bool true)) ∧ ext = []) := by
  obtain ⟨hf, hl20⟩ := few_facts hfew
  obtain ⟨hgf, hg20⟩ := few_facts hfew2
  obtain ⟨N, hN⟩ : ∃ N, IntKind.i64.wrap (room.tmod 21) = N := ⟨_, rfl⟩
  have hN20 : 0 ≤ N ∧ N ≤ 20 := by
    rw [← hN, Int.tmod_eq_emod_of_nonneg hrm.1, IntKind.wrap_i64]
    omega
  have hV : VOk self N (viewN l self N 256) := VOk.view hN20.1 (fun y hy => (hok y hy).2.1.1)
  have hVf : FlOk (viewN l self N 256) := view_fl hf
  have hVl := hV.len
  have hw : IntKind.i64.wrap (room.tmod 21) = N := hN
  have hN2 : room.tmod 21 = N := by
    rw [← hN, Int.tmod_eq_emod_of_nonneg hrm.1, IntKind.wrap_i64]
    omega
  obtain ⟨v, hv⟩ : ∃ v, viewN l self N 256 = v := ⟨_, rfl⟩
  rw [hv] at hV hVf hVl
  obtain ⟨o, ho⟩ : ∃ o, fillL got self N got.length v = o := ⟨_, rfl⟩
  have hO : VOk self N o := ho ▸ fill_vok hV _
  have hOf : FlOk o := ho ▸ fill_fl hVf hgf _
  have hOl := hO.len
  have hvo : v.length ≤ o.length := ho ▸ fill_length got self N v _
  have hlm : (v.map deC).length = v.length := List.length_map _
  have hlo : (o.map deC).length = o.length := List.length_map _
  have hlg : (got.map deC).length = got.length := List.length_map _
  have hset : ∀ (j : Nat) d, got[j]? = some d → Settled self N o d := fun j d hd => ho ▸ fill_settled hV got.length j d (getElem?_lt hd) hd
  have hid : fillL got self N got.length o = o := fill_idem hO.rising hset _
  refine FnOK.pure GG_no rfl (fn_intro (C := seat) seat_ok [] GG_no (Try.func6) rfl rfl rfl rfl rfl ?_)
  repeat' ((try conv => whnf); first
    | (with_reducible refine OKv.go (C := seat) seat_ok ?_)
    | (with_reducible refine BB_true ?_)
    | (with_reducible refine BB_false ?_)
    | (with_reducible refine Both.mk ?_ ?_)
    | (with_reducible refine VS.mk ?_)
    | (refine PSem.go (C := seat) seat_ok ?_)
    | (refine And.intro (PlanOK.mk (by kernel_rfl) rfl (by kernel_rfl) (by kernel_rfl)) ?_)
    | (refine And.intro rfl (Exists.intro _ (And.intro (by first | assumption | rfl) ?_)))
    | (refine And.intro ⟨rfl, rfl, rfl⟩ ?_)
    | (refine call_ro [] (few_zz l cap _ hl hfew) GG_no rfl rfl rfl trivial ?_; rintro r bs' ext ⟨rfl, rfl⟩)
    | (refine call_ro [] (few_zz got cg _ hgl hfew2) GG_no rfl rfl rfl trivial ?_; rintro r bs' ext ⟨rfl, rfl⟩)
    | (refine call_ro [] (view_eq l cap self _ N (by omega) (fun y hy => (hok y hy).1) v hw hv) GG_no rfl rfl rfl trivial ?_; rintro r bs' ext ⟨⟨cv, hcv, rfl⟩, rfl⟩)
    | (refine call_ro [] (fill_eq v got cv cg self _ N hw hV (by omega) hVf hgf (by omega) o ho) GG_no rfl rfl rfl trivial ?_; rintro r bs' ext ⟨⟨co, hco, rfl⟩, rfl⟩)
    | (refine call_ro [] (right_eq o co self _ N hw (by omega) hO) GG_no rfl rfl rfl trivial ?_; rintro r bs' ext ⟨rfl, rfl⟩)
    | (refine BB.mk (fun _h => ?_) (fun _h => ?_) <;> (first | (exact absurd _h (by decide)) | (exfalso; simp only [boolSet, IntKind.wrap_i64] at _h <;> omega) | (simp only [boolSet, IntKind.wrap_i64] at _h) | skip))
    | (refine And.intro (by omega) ?_)
    | (refine BB.mk (fun _h => ?_) (fun _h => ?_) <;> (first | (exact absurd _h (by decide)) | (exfalso; simp only [boolSet] at _h <;> omega) | skip)))
  all_goals (try conv => whnf)
  refine loop_rule (α := Nat) (fun k => k ≤ v.length) (fun k => { slots := [(1, .z 4 (got.map deC) cg), (2, .v (.int .u8 self)), (9, .v (.int .i64 N)), (10, .z 4 (v.map deC) cv), (11, .z 4 (o.map deC) co), (49, .z 4 (v.map deC) cv), (50, .v (.int .i64 v.length)), (51, .v (.int .i64 (k : Int)))], nt := 100, mem := ⟨GG, [], []⟩ }) (fun k => v.length - k) 0 (Nat.zero_le _) ⟨⟨[], List.nodup_nil, GG_no, rfl, (SubOld.refl _ rfl), trivial, ⟨.inl rfl, .inl rfl, .inl (num_eq hw), .inl rfl, .inl rfl, .inl rfl, .inl (num_eq (by rw [hlm])), .inl rfl, trivial⟩⟩, rfl⟩ ?_ (fun _ => rfl)
  intro k hk
  dsimp only
  refine vc_sound (C := seat) seat_ok (pl := []) ?_
  by_cases hlt : k < v.length
  · obtain ⟨d, hd⟩ : ∃ d, v[k]? = some d := ⟨_, List.getElem?_eq_getElem hlt⟩
    have hrow := zde_at hd
    have hdm := List.mem_of_getElem? hd
    obtain ⟨z, hz, hzn⟩ := fill_nodes (got := got) (me := self) (room := N) hdm got.length
    rw [ho] at hz
    obtain ⟨kk, hF⟩ := find_has hO.rising hz hzn
    repeat' ((try conv => whnf); first
      | (with_reducible refine OKv.go (C := seat) seat_ok ?_)
      | (with_reducible refine BB_true ?_)
      | (with_reducible refine BB_false ?_)
      | (with_reducible refine Both.mk ?_ ?_)
      | (with_reducible refine VS.mk ?_)
      | (refine PSem.go (C := seat) seat_ok ?_)
      | (refine And.intro (PlanOK.mk (by kernel_rfl) rfl (by kernel_rfl) (by kernel_rfl)) ?_)
      | (refine And.intro rfl (Exists.intro _ (And.intro (by first | assumption | rfl) ?_)))
      | (refine And.intro ⟨rfl, rfl, rfl⟩ ?_)
      | (refine call_ro [] (find_zz o co d.node (by omega) hO.rising _ hF) GG_no rfl rfl rfl trivial ?_; rintro r bs' ext ⟨rfl, rfl⟩)
      | (refine And.intro ⟨by omega, by simp only [List.length_map]; omega⟩ (Exists.intro _ (And.intro (by first | assumption | rfl) ?_)))
      | (refine fun (caps : Nat → Nat) hcaps => ?_; conv at hcaps => whnf)
      | (refine BB.mk (fun _h => ?_) (fun _h => ?_) <;> (first | (exact absurd _h (by decide)) | (exfalso; simp only [boolSet, IntKind.wrap_i64] at _h <;> omega) | (simp only [boolSet, IntKind.wrap_i64] at _h) | skip))
      | (refine And.intro (by omega) ?_)
      | (refine BB.mk (fun _h => ?_) (fun _h => ?_) <;> (first | (exact absurd _h (by decide)) | (exfalso; simp only [boolSet] at _h <;> omega) | skip)))
    all_goals (try conv => whnf)
    exact ⟨k + 1, by omega, by (try dsimp only); omega, ⟨⟨[], by decide, GG_no, rfl, SubOld.refl _ rfl, trivial, ⟨.inl rfl, .inl rfl, .inl rfl, .inl rfl, .inl rfl, .inl rfl, .inl rfl, .inl (num_eq (by rw [IntKind.wrap_i64]; omega)), trivial⟩⟩, rfl⟩⟩
  · obtain rfl : k = v.length := by omega
    repeat' ((try conv => whnf); first
      | (with_reducible refine OKv.go (C := seat) seat_ok ?_)
      | (with_reducible refine BB_true ?_)
      | (with_reducible refine BB_false ?_)
      | (with_reducible refine Both.mk ?_ ?_)
      | (with_reducible refine VS.mk ?_)
      | (refine PSem.go (C := seat) seat_ok ?_)
      | (refine And.intro (PlanOK.mk (by kernel_rfl) rfl (by kernel_rfl) (by kernel_rfl)) ?_)
      | (refine And.intro rfl (Exists.intro _ (And.intro (by first | assumption | rfl) ?_)))
      | (refine And.intro ⟨rfl, rfl, rfl⟩ ?_)
      | (refine BB.mk (fun _h => ?_) (fun _h => ?_) <;> (first | (exact absurd _h (by decide)) | (exfalso; simp only [boolSet, IntKind.wrap_i64] at _h <;> omega) | (simp only [boolSet, IntKind.wrap_i64] at _h) | skip))
      | (refine And.intro (by omega) ?_)
      | (refine BB.mk (fun _h => ?_) (fun _h => ?_) <;> (first | (exact absurd _h (by decide)) | (exfalso; simp only [boolSet] at _h <;> omega) | skip)))
    all_goals (try conv => whnf)
    refine loop_rule (α := Nat) (fun k => k ≤ got.length) (fun k => { slots := [(1, .z 4 (got.map deC) cg), (2, .v (.int .u8 self)), (9, .v (.int .i64 N)), (11, .z 4 (o.map deC) co), (61, .z 4 (got.map deC) cg), (62, .v (.int .i64 got.length)), (63, .v (.int .i64 (k : Int)))], nt := 100, mem := ⟨GG, [], []⟩ }) (fun k => got.length - k) 0 (Nat.zero_le _) ⟨⟨[], List.nodup_nil, GG_no, rfl, (SubOld.refl _ rfl), trivial, ⟨.inl rfl, .inl rfl, .inl rfl, .inl rfl, .inl rfl, .inl (num_eq (by rw [hlg])), .inl rfl, trivial⟩⟩, rfl⟩ ?_ (fun _ => rfl)
    intro k hk
    dsimp only
    refine vc_sound (C := seat) seat_ok (pl := []) ?_
    by_cases hlt : k < got.length
    · obtain ⟨d, hd⟩ : ∃ d, got[k]? = some d := ⟨_, List.getElem?_eq_getElem hlt⟩
      have hrow := zde_at hd
      have hdi := (hgok d (List.mem_of_getElem? hd)).2.1.1
      have hs : d.node = self ∨ d.inc = 0 ∨ 0 ≤ findZ d.node o ∨ N ≤ o.length := by
        rcases hset k d hd with h | h | ⟨y, hy, hn, _⟩ | ⟨h, _⟩
        · exact .inl h
        · exact .inr (.inl h)
        · obtain ⟨q, hq⟩ := find_has hO.rising hy hn
          exact .inr (.inr (.inl (by omega)))
        · exact .inr (.inr (.inr h))
      repeat' ((try conv => whnf); first
        | (with_reducible refine OKv.go (C := seat) seat_ok ?_)
        | (with_reducible refine BB_true ?_)
        | (with_reducible refine BB_false ?_)
        | (with_reducible refine Both.mk ?_ ?_)
        | (with_reducible refine VS.mk ?_)
        | (refine PSem.go (C := seat) seat_ok ?_)
        | (refine And.intro (PlanOK.mk (by kernel_rfl) rfl (by kernel_rfl) (by kernel_rfl)) ?_)
        | (refine And.intro rfl (Exists.intro _ (And.intro (by first | assumption | rfl) ?_)))
        | (refine And.intro ⟨rfl, rfl, rfl⟩ ?_)
        | (refine call_ro [] (find_zz o co d.node (by omega) hO.rising _ rfl) GG_no rfl rfl rfl trivial ?_; rintro r bs' ext ⟨rfl, rfl⟩)
        | (refine And.intro ⟨by omega, by simp only [List.length_map]; omega⟩ (Exists.intro _ (And.intro (by first | assumption | rfl) ?_)))
        | (refine fun (caps : Nat → Nat) hcaps => ?_; conv at hcaps => whnf)
        | (refine BB.mk (fun _h => ?_) (fun _h => ?_) <;> (first | (exact absurd _h (by decide)) | (exfalso; simp only [boolSet, IntKind.wrap_i64] at _h <;> omega) | (simp only [boolSet, IntKind.wrap_i64] at _h) | skip))
        | (refine And.intro (by omega) ?_)
        | (refine BB.mk (fun _h => ?_) (fun _h => ?_) <;> (first | (exact absurd _h (by decide)) | (exfalso; simp only [boolSet] at _h <;> omega) | skip)))
      all_goals (try conv => whnf)
      all_goals exact ⟨k + 1, by omega, by (try dsimp only); omega, ⟨⟨[], by decide, GG_no, rfl, SubOld.refl _ rfl, trivial, ⟨.inl rfl, .inl rfl, .inl rfl, .inl rfl, .inl rfl, .inl rfl, .inl (num_eq (by rw [IntKind.wrap_i64]; omega)), trivial⟩⟩, rfl⟩⟩
    · obtain rfl : k = got.length := by omega
      repeat' ((try conv => whnf); first
        | (with_reducible refine OKv.go (C := seat) seat_ok ?_)
        | (with_reducible refine BB_true ?_)
        | (with_reducible refine BB_false ?_)
        | (with_reducible refine Both.mk ?_ ?_)
        | (with_reducible refine VS.mk ?_)
        | (refine PSem.go (C := seat) seat_ok ?_)
        | (refine And.intro (PlanOK.mk (by kernel_rfl) rfl (by kernel_rfl) (by kernel_rfl)) ?_)
        | (refine And.intro rfl (Exists.intro _ (And.intro (by first | assumption | rfl) ?_)))
        | (refine And.intro ⟨rfl, rfl, rfl⟩ ?_)
        | (refine call_ro [] (fill_eq o got co cg self _ N rfl hO (by omega) hOf hgf (by omega) o hid) GG_no rfl rfl rfl trivial ?_; rintro r bs' ext ⟨⟨co2, hco2, rfl⟩, rfl⟩)
        | (refine call_ro [] (descs_zz o o _ _ (by omega) hOf true (by simp)) GG_no rfl rfl rfl trivial ?_; rintro r bs' ext ⟨rfl, rfl⟩)
        | (refine call_ro [] (awake_ok) GG_no rfl rfl rfl trivial ?_; rintro r bs' ext ⟨rfl, rfl⟩)
        | (refine BB.mk (fun _h => ?_) (fun _h => ?_) <;> (first | (exact absurd _h (by decide)) | (exfalso; simp only [boolSet, IntKind.wrap_i64] at _h <;> omega) | (simp only [boolSet, IntKind.wrap_i64] at _h) | skip))
        | (refine And.intro (by omega) ?_)
        | (refine BB.mk (fun _h => ?_) (fun _h => ?_) <;> (first | (exact absurd _h (by decide)) | (exfalso; simp only [boolSet] at _h <;> omega) | skip)))
      all_goals (try conv => whnf)
      exact ⟨_, _, FrzV.refl _ _, rfl, rfl, fun _ => rfl, rfl⟩
theorem sampleFill_ok (l got : List De) (cap cg : Nat) (self room : Int) (hl : l.length ≤ 9223372036854775807) (hgl : got.length ≤ 9223372036854775807) (hok : ∀ y ∈ l, DeOk y) (hgok : ∀ y ∈ got, DeOk y) (hrm : 0 ≤ room ∧ room ≤ 255) : FnOK Try.prog GG 6 [] [.z 4 (l.map deC) cap, .z 4 (got.map deC) cg, .v (.int .u8 self), .v (.int .u8 room)] (fun r _ ext => r = .v (.bool true) ∧ ext = []) := by
  cases hfew : (l.all (fun d => decide (d.fl.length ≤ 8)) && decide (l.length ≤ 20)) with
  | false => exact fillFew l got cap cg self room hl hgl hok hgok hrm hfew
  | true =>
    cases hfew2 : (got.all (fun d => decide (d.fl.length ≤ 8)) && decide (got.length ≤ 20)) with
    | false => exact fillFew2 l got cap cg self room hl hgl hok hgok hrm hfew hfew2
    | true => exact fillGood l got cap cg self room hl hgl hok hgok hrm hfew hfew2
end Go.Proofs.Ytjghbfbifkhloaa
