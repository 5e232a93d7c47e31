/- Law DescNewer, where two differ: the other half. -/
import Derived.Test.YtfjankcpnhfogaaD09x
namespace Go.Proofs.Ytfjankcpnhfogaa
open Go.RowKit

theorem view_u2 (l : List De) (cap : Nat) (self : Int) (hl : l.length ≤ 1099511627776) (hi : ∀ y ∈ l, 0 ≤ y.node ∧ y.node ≤ 255) (u : List De) (hu : viewN l self 20 256 = u) : FnOK Try.prog GG 15 [] [.z 4 (l.map deC) cap, .v (.int .u8 self), .v (.int .i64 20)] (fun r _ ext => (∃ cap', u.length ≤ cap' ∧ r = .z 4 (u.map deC) cap') ∧ ext = []) := by
  subst hu
  exact view_zz l cap self 20 hl hi
theorem drop_u2 (l : List De) (cap : Nat) (x : Int) (hl : l.length ≤ 1099511627776) (hr : Rising l) (hf : FlOk l) (o : List De) (ho : dropL x l = o) : FnOK Try.prog GG 23 [] [.z 4 (l.map deC) cap, .v (.int .u8 x)] (fun r _ ext => (∃ cap', o.length ≤ cap' ∧ r = .z 4 (o.map deC) cap') ∧ ext = []) := by
  subst ho
  exact drop_zz l cap x hl hr hf
set_option maxRecDepth 100000 in
set_option maxHeartbeats 4000000 in
theorem nGoodY (l : List De) (cap : Nat) (a b : De) (ca cb : Nat) (self : Int) (hl : l.length ≤ 9223372036854775807) (hok : ∀ y ∈ l, DeOk y) (ha : DeOk a) (hb : DeOk b) (hca : a.fl.length ≤ ca) (hcb : b.fl.length ≤ cb) (hfew : (l.all (fun d => decide (d.fl.length ≤ 8)) && decide (l.length ≤ 20)) = true) (h8 : a.fl.length ≤ 8 ∧ b.fl.length ≤ 8) (hq1 : a.node ≠ self) (hq2 : ¬ (mxI a.inc = mxI b.inc ∧ a.age = b.age)) (hnb : newB (yD a b) (xD a) = true) : FnOK Try.prog GG 5 [] [.z 4 (l.map deC) cap, deS a ca, deS b cb, .v (.int .u8 self)] (fun r _ ext => (r = .v (.bool true)) ∧ ext = []) := by
  have ham : (a.fl.map spC).length = a.fl.length := List.length_map _
  have hbm : (b.fl.map spC).length = b.fl.length := List.length_map _
  obtain ⟨hf, hl20⟩ := few_facts hfew
  have hV : VOk self 20 (viewN l self 20 256) := VOk.view (by decide) (fun y hy => (hok y hy).2.1.1)
  have hVf : FlOk (viewN l self 20 256) := view_fl hf
  have hVl := hV.len
  obtain ⟨u, hu⟩ : ∃ u, viewN l self 20 256 = u := ⟨_, rfl⟩
  rw [hu] at hV hVf hVl
  obtain ⟨v, hv⟩ : ∃ v, dropL a.node u = v := ⟨_, rfl⟩
  have hvn : ∀ y ∈ v, y.node ≠ a.node := hv ▸ drop_none hV.rising
  have hvr : Rising v := hv ▸ drop_rising hV.rising
  have hvf : FlOk v := fun z hz => hVf z (drop_mem (hv ▸ hz : z ∈ dropL a.node u))
  have hvl : v.length ≤ 20 := by
    have := drop_len (x := a.node) (l := u)
    rw [hv] at this
    omega
  have hmA : mxI a.inc = max a.inc 1 := by
    simp only [mxI, cond_true]
    split <;> omega
  have hmB : mxI b.inc = max b.inc 1 := by
    simp only [mxI, cond_true]
    split <;> omega
  have hxA : (xD a).inc = max a.inc 1 := hmA
  have hxB : (yD a b).inc = max b.inc 1 := hmB
  have hyA : (xD a).age = a.age := rfl
  have hyB : (yD a b).age = b.age := rfl
  have hAi : (xD a).inc ≠ 0 := mxI_ne ha.2.1.1
  have hBi : (yD a b).inc ≠ 0 := mxI_ne hb.2.1.1
  have e1 := putI (x := xD a) (me := self) hvn hq1 hAi hvl
  have e2 := putI (x := yD a b) (me := self) hvn hq1 hBi hvl
  have f1 := putJ (v := v) (x := xD a) (y := yD a b) (me := self) rfl hq1 hBi
  have f2 := putJ (v := v) (x := yD a b) (y := xD a) (me := self) rfl hq1 hAi
  have g1 := putJ (v := v) (x := xD a) (y := xD a) (me := self) rfl hq1 hAi
  have g2 := putJ (v := v) (x := yD a b) (y := yD a b) (me := self) rfl hq1 hBi
  rw [newB_irr] at g1 g2
  simp only [Bool.false_eq_true, if_false] at g1 g2
  have hfA : (xD a).fl.length ≤ 1099511627776 := by show a.fl.length ≤ _; omega
  have hfB : (yD a b).fl.length ≤ 1099511627776 := by show b.fl.length ≤ _; omega
  have rA : Rising (insL v (placeN a.node v) (xD a)) := insL_rising (x := xD a) rfl hvr hvn
  have rB : Rising (insL v (placeN a.node v) (yD a b)) := insL_rising (x := yD a b) rfl hvr hvn
  have lA : (insL v (placeN a.node v) (xD a)).length = v.length + 1 := insL_len _ _ _ (place_le _ _)
  have lB : (insL v (placeN a.node v) (yD a b)).length = v.length + 1 := insL_len _ _ _ (place_le _ _)
  have kA : FlOk (insL v (placeN a.node v) (xD a)) := insL_fl hvf hfA
  have kB : FlOk (insL v (placeN a.node v) (yD a b)) := insL_fl hvf hfB
  have hWn : (yD a b).node = a.node := rfl
  obtain ⟨i, hi⟩ : ∃ i, placeN a.node v = i := ⟨_, rfl⟩
  have hil : i ≤ v.length := hi ▸ place_le _ _
  have hgW : (insL v i (yD a b))[i]? = some (yD a b) := insL_get hil
  have hFW : findZ a.node (insL v i (yD a b)) = (i : Int) := by
    have hp : placeN a.node (insL v i (yD a b)) = i := by rw [← hi]; exact insL_place hWn v
    exact (find_at (by rw [hp]; exact hgW) hWn).trans (by rw [hp])
  have hi1 : placeN (xD a).node v = i := hi
  have hi2 : placeN (yD a b).node v = i := hi
  rw [hi1] at e1 f1 g1
  rw [hi2] at e2 f2 g2
  rw [hi] at rA rB lA lB kA kB
  have hrow := zde9 hgW
  · have f1' := f1
    have f2' := f2
    rw [hnb] at f1'
    rw [newB_asym hnb] at f2'
    simp only [Bool.false_eq_true, if_false] at f2'
    simp only [if_true] at f1'
    have hagA : putP (insL v i (yD a b)) (xD a) self 30 = (insL v i (yD a b), false) := f2'
    have hagB : putP (insL v i (yD a b)) (yD a b) self 30 = (insL v i (yD a b), false) := g2
    unfold newB at hnb
    simp only [Bool.or_eq_false_iff, Bool.and_eq_false_iff, Bool.or_eq_true, Bool.and_eq_true, decide_eq_true_eq, decide_eq_false_iff_not] at hnb
    refine FnOK.pure GG_no rfl (fn_intro (C := seat) seat_ok [(3, (.op 0 .take (.op 2 .take (.op 5 .take (.seq 3 [true, true, true, true, true, true, true, true, true, true, true, false, false, false] (.fork 1 (.fork 3 (.of [(4, .take), (6, .do_), (7, .take), (8, .take), (9, .do_), (10, .take)]) (.op 6 .do_ (.op 7 .take (.op 8 .take (.fork 3 (.of [(4, .take), (9, .do_), (10, .take)]) (.of [(9, .do_), (3, .do_), (4, .take), (10, .take)])))))) (.fork 3 (.op 4 .take (.fork 1 (.of [(6, .do_), (7, .take), (8, .take), (9, .do_), (10, .take)]) (.of [(6, .do_), (7, .take), (1, .do_), (8, .take), (9, .do_), (10, .take)]))) (.op 6 .do_ (.op 7 .take (.fork 1 (.op 8 .take (.fork 3 (.of [(4, .take), (9, .do_), (10, .take)]) (.of [(9, .do_), (3, .do_), (4, .take), (10, .take)]))) (.of [(3, .do_), (4, .take), (1, .do_), (8, .take), (9, .do_), (10, .take)])))))) (.of [(11, .do_), (12, .take), (13, .last)])))))), (6, (.op 0 .take (.op 1 .take (.op 3 .take (.op 4 .take (.seq 1 [true, true, true, true, true, true, true, false] (.fork 2 (.fork 5 (.of [(6, .do_)]) (.of [(6, .do_), (5, .do_)])) (.of [(6, .do_), (2, .do_), (5, .do_)])) (.of [(7, .last)]))))))), (8, (.of [(0, .take), (1, .take), (2, .take), (4, .take), (5, .take), (6, .take), (3, .do_), (7, .do_), (8, .take), (9, .take)])), (17, (.of [(0, .take), (1, .take), (2, .take), (3, .take), (4, .take), (5, .do_), (6, .take), (7, .take), (8, .take), (9, .take), (10, .take), (11, .take), (12, .take), (13, .take), (14, .take), (15, .take), (16, .take), (17, .do_), (18, .take), (19, .take), (20, .take), (21, .take), (22, .do_), (23, .take), (24, .take), (25, .do_), (26, .take), (27, .take)]))] GG_no (Try.func5) rfl rfl rfl rfl rfl ?_)
    repeat' ((try conv => whnf); first
      | (with_reducible refine OKv.go (C := seat) seat_ok ?_)
      | (with_reducible refine BB_true ?_)
      | (with_reducible refine BB_false ?_)
      | (with_reducible refine Both.mk ?_ ?_)
      | (with_reducible refine VS.mk ?_)
      | (refine PSem.go (C := seat) seat_ok ?_)
      | (refine And.intro (PlanOK.mk (by kernel_rfl) rfl (by kernel_rfl) (by kernel_rfl)) ?_)
      | (refine And.intro rfl (Exists.intro _ (And.intro (by first | assumption | rfl) ?_)))
      | (refine And.intro ⟨rfl, rfl, rfl⟩ ?_)
      | (refine call_ro [] (few_zz l cap _ hl hfew) GG_no rfl rfl rfl trivial ?_; rintro r bs' ext ⟨rfl, rfl⟩)
      | (refine call_ro [] (view_u2 l cap self (by omega) (fun y hy => (hok y hy).1) u hu) GG_no rfl rfl rfl trivial ?_; rintro r bs' ext ⟨⟨cu, hcu, rfl⟩, rfl⟩)
      | (refine call_ro [] (drop_u2 u cu a.node (by omega) hV.rising hVf v hv) GG_no rfl rfl rfl trivial ?_; rintro r bs' ext ⟨⟨cv, hcv, rfl⟩, rfl⟩)
      | (refine call_roZ [.n 3, .n 2] (twice_zz v cv (xD a) (yD a b) ca cb self hvl hvr hvf hca hcb h8.1 h8.2 _ _ _ _ e1 f1' (by rw [lA]; omega) rA kA) GG_no rfl rfl rfl ⟨⟨_, rfl, _, _, rfl, cellsZ_z cellsZ_nil, rfl⟩, ⟨_, rfl, _, _, rfl, cellsZ_v cellsZ_nil, rfl⟩, trivial⟩ ?_; rintro r bs' ext ⟨rfl, ⟨cp, hcp, rfl⟩, rfl⟩)
      | (refine call_roZ [.n 3, .n 2] (twice_zz v cv (yD a b) (xD a) cb ca self hvl hvr hvf hcb hca h8.2 h8.1 _ _ _ _ e2 f2' (by rw [lB]; omega) rB kB) GG_no rfl rfl rfl ⟨⟨_, rfl, _, _, rfl, cellsZ_z cellsZ_nil, rfl⟩, ⟨_, rfl, _, _, rfl, cellsZ_v cellsZ_nil, rfl⟩, trivial⟩ ?_; rintro r bs' ext ⟨rfl, ⟨cq, hcq, rfl⟩, rfl⟩)
      | (refine call_ro [] (find_zz (insL v i (yD a b)) _ a.node (by rw [lB]; omega) rB _ hFW) GG_no rfl rfl rfl trivial ?_; rintro r bs' ext ⟨rfl, rfl⟩)
      | (refine call_ro [] (descs_zz (insL v i (yD a b)) (insL v i (yD a b)) _ _ (by rw [lB]; omega) kB true (by simp)) GG_no rfl rfl rfl trivial ?_; rintro r bs' ext ⟨rfl, rfl⟩)
      | (refine call_ro [] (put_zz (insL v i (yD a b)) _ (by rw [lB]; omega) rB kB (xD a) ca hca hfA self 30 _ _ hagA) GG_no rfl rfl rfl trivial ?_; rintro r bs' ext ⟨⟨c8, hc8, rfl⟩, rfl⟩)
      | (refine call_ro [] (put_zz (insL v i (yD a b)) _ (by rw [lB]; omega) rB kB (yD a b) cb hcb hfB self 30 _ _ hagB) GG_no rfl rfl rfl trivial ?_; rintro r bs' ext ⟨⟨c9, hc9, rfl⟩, rfl⟩)
      | (refine call_ro [] (sames_ok (yD a b) (yD a b) _ _ (by first | exact hfA | exact hfB) true (decide_eq_true rfl)) GG_no rfl rfl rfl trivial ?_; rintro r bs' ext ⟨rfl, rfl⟩)
      | (refine call_ro [] (awake_ok) GG_no rfl rfl rfl trivial ?_; rintro r bs' ext ⟨rfl, rfl⟩)
      | (refine And.intro (⟨by omega, by rw [List.length_map, lB]; omega⟩ : _ ∧ _ < _) (Exists.intro _ (And.intro hrow ?_)))
      | (refine And.intro ⟨by omega, by simp only [List.length_map]; omega⟩ (Exists.intro _ (And.intro (by first | assumption | rfl) ?_)))
      | (refine fun (caps : Nat → Nat) hcaps => ?_; conv at hcaps => whnf)
      | (refine BB.mk (fun _h => ?_) (fun _h => ?_) <;> (first | (exact absurd _h (by decide)) | (exfalso; simp only [boolSet, List.length_map, lB] at _h <;> omega) | (simp only [boolSet, List.length_map, lB] at _h) | skip))
      | (refine And.intro (by omega) ?_)
      | (refine BB.mk (fun _h => ?_) (fun _h => ?_) <;> (first | (exact absurd _h (by decide)) | (exfalso; simp only [boolSet] at _h <;> omega) | skip)))
    all_goals (try conv => whnf)
    all_goals first
      | exact ⟨_, _, FrzV.refl _ _, rfl, rfl, fun _ => rfl, rfl⟩
      | (exfalso; omega)
end Go.Proofs.Ytfjankcpnhfogaa
