/- Law DescNewer. -/
import Derived.Test.YtfjankcpnhfogaaDZ
import Derived.Test.YtfjankcpnhfogaaD09v
import Derived.Test.YtfjankcpnhfogaaZH
namespace Go.Proofs.Ytfjankcpnhfogaa
open Go.RowKit

theorem zde9 {l : List De} {k : Nat} {y : De} (h : l[k]? = some y) : (l.map deC)[(k : Int).toNat]? = some [.v (.int .u8 y.node), .v (.int .u16 y.inc), .v (.int .u8 y.age), .z 2 (y.fl.map spC)] := by
  rw [Int.toNat_natCast, List.getElem?_map, h]; rfl
theorem putI {v : List De} {x : De} {me : Int} (hn : ∀ y ∈ v, y.node ≠ x.node) (hs : x.node ≠ me) (hi : x.inc ≠ 0) (hl : v.length ≤ 20) : putP v x me 30 = (insL v (placeN x.node v) x, true) := by
  unfold putP
  rw [if_neg (by omega), if_pos (find_none hn), if_neg (by omega)]
theorem putJ {v : List De} {x y : De} {me : Int} (hxy : y.node = x.node) (hs : x.node ≠ me) (hi : y.inc ≠ 0) : putP (insL v (placeN x.node v) x) y me 30 = if newB y x = true then (insL v (placeN x.node v) y, true) else (insL v (placeN x.node v) x, false) := by
  have hp : placeN y.node (insL v (placeN x.node v) x) = placeN x.node v := by rw [hxy]; exact insL_place rfl v
  have hg : (insL v (placeN x.node v) x)[placeN y.node (insL v (placeN x.node v) x)]? = some x := by rw [hp]; exact insL_get (place_le _ _)
  have hF : findZ y.node (insL v (placeN x.node v) x) = (placeN x.node v : Int) := (find_at hg hxy.symm).trans (by rw [hp])
  unfold putP
  rw [if_neg (by omega), if_neg (by omega), hg]
  cases hb : newB y x with
  | true => rw [if_pos (by simpa using hb), if_pos rfl, hp, insL_set (place_le _ _)]
  | false => rw [if_neg (by simp [hb]), if_neg (by simp)]
theorem newB_irr (d : De) : newB d d = false := by
  unfold newB
  simp
theorem newB_asym {x y : De} (h : newB x y = true) : newB y x = false := by
  unfold newB at *
  simp only [Bool.or_eq_false_iff, Bool.and_eq_false_iff, Bool.or_eq_true, Bool.and_eq_true, decide_eq_true_eq, decide_eq_false_iff_not] at *
  omega
theorem newB_tot {x y : De} (h : newB x y = false) (hne : ¬ (x.inc = y.inc ∧ x.age = y.age)) : newB y x = true := by
  unfold newB at *
  simp only [Bool.or_eq_false_iff, Bool.and_eq_false_iff, Bool.or_eq_true, Bool.and_eq_true, decide_eq_true_eq, decide_eq_false_iff_not] at *
  omega
theorem sames_ok (a b : De) (c1 c2 : Nat) (hf : a.fl.length ≤ 1099511627776) (v : Bool) (hv : decide (a = b) = v) : FnOK Try.prog GG 17 [] [deS a c1, deS b c2] (fun r _ ext => r = .v (.bool v) ∧ ext = []) := by
  subst hv
  exact same_ok a b c1 c2 hf
set_option maxRecDepth 100000 in
set_option maxHeartbeats 4000000 in
theorem twice_zz (v : List De) (cv : Nat) (x y : De) (cx cy : Nat) (self : Int) (hl : v.length ≤ 20) (hr : Rising v) (hf : FlOk v) (hcx : x.fl.length ≤ cx) (hcy : y.fl.length ≤ cy) (hx8 : x.fl.length ≤ 8) (hy8 : y.fl.length ≤ 8) (o1 o2 : List De) (b1 b2 : Bool) (h1 : putP v x self 30 = (o1, b1)) (h2 : putP o1 y self 30 = (o2, b2)) (ho1 : o1.length ≤ 1000) (hr1 : Rising o1) (hf1 : FlOk o1) : FnOK Try.prog GG 29 [.cst 22 [.z 4 (v.map deC) cv], .cst 5 [.v (.int .u8 self)]] [deS x cx, deS y cy, .p (.o 0) 0 0 0, .p (.o 1) 0 0 0] (fun r bs' ext => bs' = [.cst 22 [.z 4 (v.map deC) cv], .cst 5 [.v (.int .u8 self)]] ∧ (∃ c', o2.length ≤ c' ∧ r = .z 4 (o2.map deC) c') ∧ ext = []) := by
  refine FnOK.pureB GG_no (fun _ _ => ⟨.inl rfl, .inl rfl, trivial⟩) (fn_intro (C := seat) seat_ok [] GG_no (Try.func29) rfl rfl rfl rfl rfl ?_)
  repeat' ((try conv => whnf); first
    | (with_reducible refine OKv.go (C := seat) seat_ok ?_)
    | (with_reducible refine BB_true ?_)
    | (with_reducible refine BB_false ?_)
    | (with_reducible refine Both.mk ?_ ?_)
    | (with_reducible refine VS.mk ?_)
    | (refine PSem.go (C := seat) seat_ok ?_)
    | (refine And.intro (PlanOK.mk (by kernel_rfl) rfl (by kernel_rfl) (by kernel_rfl)) ?_)
    | (refine And.intro rfl (Exists.intro _ (And.intro (by first | assumption | rfl) ?_)))
    | (refine And.intro ⟨rfl, rfl, rfl⟩ ?_)
    | (refine call_ro [] (put_zz v cv (by omega) hr hf x cx hcx (by omega) self 30 o1 b1 h1) GG_no rfl rfl rfl trivial ?_; rintro r bs' ext ⟨⟨c1, hc1, rfl⟩, rfl⟩)
    | (refine call_ro [] (put_zz o1 c1 (by omega) hr1 hf1 y cy hcy (by omega) self 30 o2 b2 h2) GG_no rfl rfl rfl trivial ?_; rintro r bs' ext ⟨⟨c2, hc2, rfl⟩, rfl⟩)
    | (refine And.intro (by omega) ?_)
    | (refine BB.mk (fun _h => ?_) (fun _h => ?_) <;> (first | (exact absurd _h (by decide)) | (exfalso; simp only [boolSet] at _h <;> omega) | skip)))
  all_goals (try conv => whnf)
  exact ⟨_, _, FrzV.refl _ _, rfl, rfl, fun _ => rfl, c2, hc2, rfl⟩
set_option maxRecDepth 100000 in
set_option maxHeartbeats 4000000 in
theorem nFew1 (l : List De) (cap : Nat) (a b : De) (ca cb : Nat) (self : Int) (hl : l.length ≤ 9223372036854775807) (hok : ∀ y ∈ l, DeOk y) (ha : DeOk a) (hb : DeOk b) (hca : a.fl.length ≤ ca) (hcb : b.fl.length ≤ cb) (hfew : (l.all (fun d => decide (d.fl.length ≤ 8)) && decide (l.length ≤ 20)) = false) : FnOK Try.prog GG 5 [] [.z 4 (l.map deC) cap, deS a ca, deS b cb, .v (.int .u8 self)] (fun r _ ext => (r = .v (.bool true)) ∧ ext = []) := by
  have ham : (a.fl.map spC).length = a.fl.length := List.length_map _
  have hbm : (b.fl.map spC).length = b.fl.length := List.length_map _
  refine FnOK.pure GG_no rfl (fn_intro (C := seat) seat_ok [(3, (.op 0 .take (.op 2 .take (.op 5 .take (.seq 3 [true, true, true, true, true, true, true, true, true, true, true, false, false, false] (.fork 1 (.fork 3 (.of [(4, .take), (6, .do_), (7, .take), (8, .take), (9, .do_), (10, .take)]) (.op 6 .do_ (.op 7 .take (.op 8 .take (.fork 3 (.of [(4, .take), (9, .do_), (10, .take)]) (.of [(9, .do_), (3, .do_), (4, .take), (10, .take)])))))) (.fork 3 (.op 4 .take (.fork 1 (.of [(6, .do_), (7, .take), (8, .take), (9, .do_), (10, .take)]) (.of [(6, .do_), (7, .take), (1, .do_), (8, .take), (9, .do_), (10, .take)]))) (.op 6 .do_ (.op 7 .take (.fork 1 (.op 8 .take (.fork 3 (.of [(4, .take), (9, .do_), (10, .take)]) (.of [(9, .do_), (3, .do_), (4, .take), (10, .take)]))) (.of [(3, .do_), (4, .take), (1, .do_), (8, .take), (9, .do_), (10, .take)])))))) (.of [(11, .do_), (12, .take), (13, .last)])))))), (6, (.op 0 .take (.op 1 .take (.op 3 .take (.op 4 .take (.seq 1 [true, true, true, true, true, true, true, false] (.fork 2 (.fork 5 (.of [(6, .do_)]) (.of [(6, .do_), (5, .do_)])) (.of [(6, .do_), (2, .do_), (5, .do_)])) (.of [(7, .last)]))))))), (8, (.of [(0, .take), (1, .take), (2, .take), (4, .take), (5, .take), (6, .take), (3, .do_), (7, .do_), (8, .take), (9, .take)])), (17, (.of [(0, .take), (1, .take), (2, .take), (3, .take), (4, .take), (5, .do_), (6, .take), (7, .take), (8, .take), (9, .take), (10, .take), (11, .take), (12, .take), (13, .take), (14, .take), (15, .take), (16, .take), (17, .do_), (18, .take), (19, .take), (20, .take), (21, .take), (22, .do_), (23, .take), (24, .take), (25, .do_), (26, .take), (27, .take)]))] GG_no (Try.func5) rfl rfl rfl rfl rfl ?_)
  repeat' ((try conv => whnf); first
    | (with_reducible refine OKv.go (C := seat) seat_ok ?_)
    | (with_reducible refine BB_true ?_)
    | (with_reducible refine BB_false ?_)
    | (with_reducible refine Both.mk ?_ ?_)
    | (with_reducible refine VS.mk ?_)
    | (refine PSem.go (C := seat) seat_ok ?_)
    | (refine And.intro (PlanOK.mk (by kernel_rfl) rfl (by kernel_rfl) (by kernel_rfl)) ?_)
    | (refine And.intro rfl (Exists.intro _ (And.intro (by first | assumption | rfl) ?_)))
    | (refine And.intro ⟨rfl, rfl, rfl⟩ ?_)
    | (refine call_ro [] (few_zz l cap _ hl hfew) GG_no rfl rfl rfl trivial ?_; rintro r bs' ext ⟨rfl, rfl⟩)
    | (refine call_ro [] (awake_ok) GG_no rfl rfl rfl trivial ?_; rintro r bs' ext ⟨rfl, rfl⟩)
    | (refine BB.mk (fun _h => ?_) (fun _h => ?_) <;> (first | (exact absurd _h (by decide)) | (exfalso; simp only [boolSet] at _h <;> omega) | (simp only [boolSet] at _h) | skip))
    | (refine And.intro (by omega) ?_)
    | (refine BB.mk (fun _h => ?_) (fun _h => ?_) <;> (first | (exact absurd _h (by decide)) | (exfalso; simp only [boolSet] at _h <;> omega) | skip)))
  all_goals (try conv => whnf)
  exact ⟨_, _, FrzV.refl _ _, rfl, rfl, fun _ => rfl, rfl⟩
set_option maxRecDepth 100000 in
set_option maxHeartbeats 4000000 in
theorem nFew2 (l : List De) (cap : Nat) (a b : De) (ca cb : Nat) (self : Int) (hl : l.length ≤ 9223372036854775807) (hok : ∀ y ∈ l, DeOk y) (ha : DeOk a) (hb : DeOk b) (hca : a.fl.length ≤ ca) (hcb : b.fl.length ≤ cb) (hfew : (l.all (fun d => decide (d.fl.length ≤ 8)) && decide (l.length ≤ 20)) = true) (h8 : 8 < a.fl.length ∨ 8 < b.fl.length) : FnOK Try.prog GG 5 [] [.z 4 (l.map deC) cap, deS a ca, deS b cb, .v (.int .u8 self)] (fun r _ ext => (r = .v (.bool true)) ∧ ext = []) := by
  have ham : (a.fl.map spC).length = a.fl.length := List.length_map _
  have hbm : (b.fl.map spC).length = b.fl.length := List.length_map _
  refine FnOK.pure GG_no rfl (fn_intro (C := seat) seat_ok [(3, (.op 0 .take (.op 2 .take (.op 5 .take (.seq 3 [true, true, true, true, true, true, true, true, true, true, true, false, false, false] (.fork 1 (.fork 3 (.of [(4, .take), (6, .do_), (7, .take), (8, .take), (9, .do_), (10, .take)]) (.op 6 .do_ (.op 7 .take (.op 8 .take (.fork 3 (.of [(4, .take), (9, .do_), (10, .take)]) (.of [(9, .do_), (3, .do_), (4, .take), (10, .take)])))))) (.fork 3 (.op 4 .take (.fork 1 (.of [(6, .do_), (7, .take), (8, .take), (9, .do_), (10, .take)]) (.of [(6, .do_), (7, .take), (1, .do_), (8, .take), (9, .do_), (10, .take)]))) (.op 6 .do_ (.op 7 .take (.fork 1 (.op 8 .take (.fork 3 (.of [(4, .take), (9, .do_), (10, .take)]) (.of [(9, .do_), (3, .do_), (4, .take), (10, .take)]))) (.of [(3, .do_), (4, .take), (1, .do_), (8, .take), (9, .do_), (10, .take)])))))) (.of [(11, .do_), (12, .take), (13, .last)])))))), (6, (.op 0 .take (.op 1 .take (.op 3 .take (.op 4 .take (.seq 1 [true, true, true, true, true, true, true, false] (.fork 2 (.fork 5 (.of [(6, .do_)]) (.of [(6, .do_), (5, .do_)])) (.of [(6, .do_), (2, .do_), (5, .do_)])) (.of [(7, .last)]))))))), (8, (.of [(0, .take), (1, .take), (2, .take), (4, .take), (5, .take), (6, .take), (3, .do_), (7, .do_), (8, .take), (9, .take)])), (17, (.of [(0, .take), (1, .take), (2, .take), (3, .take), (4, .take), (5, .do_), (6, .take), (7, .take), (8, .take), (9, .take), (10, .take), (11, .take), (12, .take), (13, .take), (14, .take), (15, .take), (16, .take), (17, .do_), (18, .take), (19, .take), (20, .take), (21, .take), (22, .do_), (23, .take), (24, .take), (25, .do_), (26, .take), (27, .take)]))] GG_no (Try.func5) rfl rfl rfl rfl rfl ?_)
  repeat' ((try conv => whnf); first
    | (with_reducible refine OKv.go (C := seat) seat_ok ?_)
    | (with_reducible refine BB_true ?_)
    | (with_reducible refine BB_false ?_)
    | (with_reducible refine Both.mk ?_ ?_)
    | (with_reducible refine VS.mk ?_)
    | (refine PSem.go (C := seat) seat_ok ?_)
    | (refine And.intro (PlanOK.mk (by kernel_rfl) rfl (by kernel_rfl) (by kernel_rfl)) ?_)
    | (refine And.intro rfl (Exists.intro _ (And.intro (by first | assumption | rfl) ?_)))
    | (refine And.intro ⟨rfl, rfl, rfl⟩ ?_)
    | (refine call_ro [] (few_zz l cap _ hl hfew) GG_no rfl rfl rfl trivial ?_; rintro r bs' ext ⟨rfl, rfl⟩)
    | (refine call_ro [] (awake_ok) GG_no rfl rfl rfl trivial ?_; rintro r bs' ext ⟨rfl, rfl⟩)
    | (refine BB.mk (fun _h => ?_) (fun _h => ?_) <;> (first | (exact absurd _h (by decide)) | (exfalso; simp only [boolSet] at _h <;> omega) | (simp only [boolSet] at _h) | skip))
    | (refine And.intro (by omega) ?_)
    | (refine BB.mk (fun _h => ?_) (fun _h => ?_) <;> (first | (exact absurd _h (by decide)) | (exfalso; simp only [boolSet] at _h <;> omega) | skip)))
  all_goals (try conv => whnf)
  all_goals first
    | exact ⟨_, _, FrzV.refl _ _, rfl, rfl, fun _ => rfl, rfl⟩
    | (exfalso; omega)
set_option maxRecDepth 100000 in
set_option maxHeartbeats 4000000 in
theorem nEq (l : List De) (cap : Nat) (a b : De) (ca cb : Nat) (self : Int) (hl : l.length ≤ 9223372036854775807) (hok : ∀ y ∈ l, DeOk y) (ha : DeOk a) (hb : DeOk b) (hca : a.fl.length ≤ ca) (hcb : b.fl.length ≤ cb) (hfew : (l.all (fun d => decide (d.fl.length ≤ 8)) && decide (l.length ≤ 20)) = true) (h8 : a.fl.length ≤ 8 ∧ b.fl.length ≤ 8) (hq : a.node = self ∨ mxI a.inc = mxI b.inc ∧ a.age = b.age) : FnOK Try.prog GG 5 [] [.z 4 (l.map deC) cap, deS a ca, deS b cb, .v (.int .u8 self)] (fun r _ ext => (r = .v (.bool true)) ∧ ext = []) := by
  have ham : (a.fl.map spC).length = a.fl.length := List.length_map _
  have hbm : (b.fl.map spC).length = b.fl.length := List.length_map _
  simp only [mxI, cond_true] at hq
  refine FnOK.pure GG_no rfl (fn_intro (C := seat) seat_ok [(3, (.op 0 .take (.op 2 .take (.op 5 .take (.seq 3 [true, true, true, true, true, true, true, true, true, true, true, false, false, false] (.fork 1 (.fork 3 (.of [(4, .take), (6, .do_), (7, .take), (8, .take), (9, .do_), (10, .take)]) (.op 6 .do_ (.op 7 .take (.op 8 .take (.fork 3 (.of [(4, .take), (9, .do_), (10, .take)]) (.of [(9, .do_), (3, .do_), (4, .take), (10, .take)])))))) (.fork 3 (.op 4 .take (.fork 1 (.of [(6, .do_), (7, .take), (8, .take), (9, .do_), (10, .take)]) (.of [(6, .do_), (7, .take), (1, .do_), (8, .take), (9, .do_), (10, .take)]))) (.op 6 .do_ (.op 7 .take (.fork 1 (.op 8 .take (.fork 3 (.of [(4, .take), (9, .do_), (10, .take)]) (.of [(9, .do_), (3, .do_), (4, .take), (10, .take)]))) (.of [(3, .do_), (4, .take), (1, .do_), (8, .take), (9, .do_), (10, .take)])))))) (.of [(11, .do_), (12, .take), (13, .last)])))))), (6, (.op 0 .take (.op 1 .take (.op 3 .take (.op 4 .take (.seq 1 [true, true, true, true, true, true, true, false] (.fork 2 (.fork 5 (.of [(6, .do_)]) (.of [(6, .do_), (5, .do_)])) (.of [(6, .do_), (2, .do_), (5, .do_)])) (.of [(7, .last)]))))))), (8, (.of [(0, .take), (1, .take), (2, .take), (4, .take), (5, .take), (6, .take), (3, .do_), (7, .do_), (8, .take), (9, .take)])), (17, (.of [(0, .take), (1, .take), (2, .take), (3, .take), (4, .take), (5, .do_), (6, .take), (7, .take), (8, .take), (9, .take), (10, .take), (11, .take), (12, .take), (13, .take), (14, .take), (15, .take), (16, .take), (17, .do_), (18, .take), (19, .take), (20, .take), (21, .take), (22, .do_), (23, .take), (24, .take), (25, .do_), (26, .take), (27, .take)]))] GG_no (Try.func5) rfl rfl rfl rfl rfl ?_)
  repeat' ((try conv => whnf); first
    | (with_reducible refine OKv.go (C := seat) seat_ok ?_)
    | (with_reducible refine BB_true ?_)
    | (with_reducible refine BB_false ?_)
    | (with_reducible refine Both.mk ?_ ?_)
    | (with_reducible refine VS.mk ?_)
    | (refine PSem.go (C := seat) seat_ok ?_)
    | (refine And.intro (PlanOK.mk (by kernel_rfl) rfl (by kernel_rfl) (by kernel_rfl)) ?_)
    | (refine And.intro rfl (Exists.intro _ (And.intro (by first | assumption | rfl) ?_)))
    | (refine And.intro ⟨rfl, rfl, rfl⟩ ?_)
    | (refine call_ro [] (few_zz l cap _ hl hfew) GG_no rfl rfl rfl trivial ?_; rintro r bs' ext ⟨rfl, rfl⟩)
    | (refine call_ro [] (awake_ok) GG_no rfl rfl rfl trivial ?_; rintro r bs' ext ⟨rfl, rfl⟩)
    | (refine BB.mk (fun _h => ?_) (fun _h => ?_) <;> (first | (exact absurd _h (by decide)) | (exfalso; simp only [boolSet] at _h <;> omega) | (simp only [boolSet] at _h) | skip))
    | (refine And.intro (by omega) ?_)
    | (refine BB.mk (fun _h => ?_) (fun _h => ?_) <;> (first | (exact absurd _h (by decide)) | (exfalso; simp only [boolSet] at _h <;> omega) | skip)))
  all_goals (try conv => whnf)
  all_goals first
    | exact ⟨_, _, FrzV.refl _ _, rfl, rfl, fun _ => rfl, rfl⟩
    | (exfalso; omega)
end Go.Proofs.Ytfjankcpnhfogaa
