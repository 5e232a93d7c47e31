/- Several texts in one: W11j, W11k. -/
import Derived.Test.YtjghbfbifkhloaaR9m
import Derived.Test.YtjghbfbifkhloaaW11i
namespace Go.Proofs.Ytjghbfbifkhloaa
open Go.RowKit

set_option maxRecDepth 100000 in
set_option maxHeartbeats 4000000 in
theorem rstart_ok (n f : Int) (l : List De) (c : Nat) (h0 : 0 ≤ f) (M : Int) (hM : max f 1 = M) : FnOK Try.prog GG 11 [] [.v (.int .u8 n), .v (.int .u8 f), .z 4 (l.map deC) c] (fun r _ ext => (r = waF true n M l c) ∧ ext = []) := by
  refine FnOK.pure GG_no rfl (fn_intro (C := seat) seat_ok [] GG_no (Try.func11) rfl rfl rfl rfl rfl ?_)
  repeat' ((try conv => whnf); first
    | (with_reducible refine OKv.go (C := seat) seat_ok ?_)
    | (with_reducible refine BB_true ?_)
    | (with_reducible refine BB_false ?_)
    | (with_reducible refine Both.mk ?_ ?_)
    | (with_reducible refine VS.mk ?_)
    | (refine PSem.go (C := seat) seat_ok ?_)
    | (refine And.intro (PlanOK.mk (by kernel_rfl) rfl (by kernel_rfl) (by kernel_rfl)) ?_)
    | (refine And.intro rfl (Exists.intro _ (And.intro (by first | assumption | rfl) ?_)))
    | (refine And.intro ⟨rfl, rfl, rfl⟩ ?_)
    | (refine BB.mk (fun _h => ?_) (fun _h => ?_) <;> (first | (exact absurd _h (by decide)) | (exfalso; simp only [boolSet] at _h <;> omega) | (simp only [boolSet] at _h) | skip))
    | (refine And.intro (by omega) ?_)
    | (refine BB.mk (fun _h => ?_) (fun _h => ?_) <;> (first | (exact absurd _h (by decide)) | (exfalso; simp only [boolSet] at _h <;> omega) | skip)))
  all_goals (try conv => whnf)
  all_goals first
    | exact ⟨_, _, FrzV.refl _ _, rfl, rfl, fun _ => rfl, by rw [show M = 1 by omega]⟩
    | exact ⟨_, _, FrzV.refl _ _, rfl, rfl, fun _ => rfl, by rw [show M = f by omega]⟩
set_option maxRecDepth 100000 in
set_option maxHeartbeats 4000000 in
theorem rtick_dead (n f : Int) (l : List De) (c : Nat) : FnOK Try.prog GG 13 [] [waF false n f l c] (fun r _ ext => (r = .tup [waF false 0 0 [] 0, .v (.int .u8 0), .v (.bool false)]) ∧ ext = []) := by
  refine FnOK.pure GG_no rfl (fn_intro (C := seat) seat_ok [(4, (.of [(0, .take), (1, .take), (2, .take), (3, .do_), (4, .take), (5, .take)]))] GG_no (Try.func13) rfl rfl rfl rfl rfl ?_)
  repeat' ((try conv => whnf); first
    | (with_reducible refine OKv.go (C := seat) seat_ok ?_)
    | (with_reducible refine BB_true ?_)
    | (with_reducible refine BB_false ?_)
    | (with_reducible refine Both.mk ?_ ?_)
    | (with_reducible refine VS.mk ?_)
    | (refine PSem.go (C := seat) seat_ok ?_)
    | (refine And.intro (PlanOK.mk (by kernel_rfl) rfl (by kernel_rfl) (by kernel_rfl)) ?_)
    | (refine And.intro rfl (Exists.intro _ (And.intro (by first | assumption | rfl) ?_)))
    | (refine And.intro ⟨rfl, rfl, rfl⟩ ?_)
    | (refine And.intro (by omega) ?_)
    | (refine BB.mk (fun _h => ?_) (fun _h => ?_) <;> (first | (exact absurd _h (by decide)) | (exfalso; simp only [boolSet] at _h <;> omega) | skip)))
  all_goals (try conv => whnf)
  exact ⟨_, _, frz_tup 0 rfl (frz_aggT 3 rfl (frz_nil _ 4) rfl) rfl, rfl, rfl, fun _ => rfl, rfl⟩
set_option maxRecDepth 100000 in
set_option maxHeartbeats 4000000 in
theorem rtick_last (n : Int) (l : List De) (c : Nat) : FnOK Try.prog GG 13 [] [waF true n 1 l c] (fun r _ ext => (r = .tup [waF false 0 0 [] 0, .v (.int .u8 n), .v (.bool true)]) ∧ ext = []) := by
  refine FnOK.pure GG_no rfl (fn_intro (C := seat) seat_ok [(4, (.of [(0, .take), (1, .take), (2, .take), (3, .do_), (4, .take), (5, .take)]))] GG_no (Try.func13) rfl rfl rfl rfl rfl ?_)
  repeat' ((try conv => whnf); first
    | (with_reducible refine OKv.go (C := seat) seat_ok ?_)
    | (with_reducible refine BB_true ?_)
    | (with_reducible refine BB_false ?_)
    | (with_reducible refine Both.mk ?_ ?_)
    | (with_reducible refine VS.mk ?_)
    | (refine PSem.go (C := seat) seat_ok ?_)
    | (refine And.intro (PlanOK.mk (by kernel_rfl) rfl (by kernel_rfl) (by kernel_rfl)) ?_)
    | (refine And.intro rfl (Exists.intro _ (And.intro (by first | assumption | rfl) ?_)))
    | (refine And.intro ⟨rfl, rfl, rfl⟩ ?_)
    | (refine BB.mk (fun _h => ?_) (fun _h => ?_) <;> (first | (exact absurd _h (by decide)) | (exfalso; simp only [boolSet] at _h <;> omega) | (simp only [boolSet] at _h) | skip))
    | (refine And.intro (by omega) ?_)
    | (refine BB.mk (fun _h => ?_) (fun _h => ?_) <;> (first | (exact absurd _h (by decide)) | (exfalso; simp only [boolSet] at _h <;> omega) | skip)))
  all_goals (try conv => whnf)
  exact ⟨_, _, frz_tup 0 rfl (frz_aggT 3 rfl (frz_nil _ 4) rfl) rfl, rfl, rfl, fun _ => rfl, rfl⟩
set_option maxRecDepth 100000 in
set_option maxHeartbeats 4000000 in
theorem rtick_on (n f : Int) (h : 2 ≤ f ∧ f ≤ 255) (f' : Int) (hf' : f' = f - 1) (l : List De) (c : Nat) : FnOK Try.prog GG 13 [] [waF true n f l c] (fun r _ ext => (r = .tup [waF true n f' l c, .v (.int .u8 0), .v (.bool false)]) ∧ ext = []) := by
  refine FnOK.pure GG_no rfl (fn_intro (C := seat) seat_ok [(4, (.of [(0, .take), (1, .take), (2, .take), (3, .do_), (4, .take), (5, .take)]))] GG_no (Try.func13) rfl rfl rfl rfl rfl ?_)
  repeat' ((try conv => whnf); first
    | (with_reducible refine OKv.go (C := seat) seat_ok ?_)
    | (with_reducible refine BB_true ?_)
    | (with_reducible refine BB_false ?_)
    | (with_reducible refine Both.mk ?_ ?_)
    | (with_reducible refine VS.mk ?_)
    | (refine PSem.go (C := seat) seat_ok ?_)
    | (refine And.intro (PlanOK.mk (by kernel_rfl) rfl (by kernel_rfl) (by kernel_rfl)) ?_)
    | (refine And.intro rfl (Exists.intro _ (And.intro (by first | assumption | rfl) ?_)))
    | (refine And.intro ⟨rfl, rfl, rfl⟩ ?_)
    | (refine BB.mk (fun _h => ?_) (fun _h => ?_) <;> (first | (exact absurd _h (by decide)) | (exfalso; simp only [boolSet] at _h <;> omega) | (simp only [boolSet] at _h) | skip))
    | (refine And.intro (by omega) ?_)
    | (refine BB.mk (fun _h => ?_) (fun _h => ?_) <;> (first | (exact absurd _h (by decide)) | (exfalso; simp only [boolSet] at _h <;> omega) | skip)))
  all_goals (try conv => whnf)
  all_goals exact ⟨_, _, FrzV.refl _ _, rfl, rfl, fun _ => rfl, by rw [show f' = IntKind.u8.wrap (f - 1) by rw [IntKind.wrap_u8]; omega]⟩
set_option maxRecDepth 100000 in
set_option maxHeartbeats 4000000 in
theorem ranswer_no (s : Bool) (n f x : Int) (h : s = false ∨ n ≠ x) (l : List De) (c : Nat) : FnOK Try.prog GG 16 [] [waF s n f l c, .v (.int .u8 x)] (fun r _ ext => (r = .tup [waF s n f l c, .z 4 [] 0, .v (.bool false)]) ∧ ext = []) := by
  refine FnOK.pure GG_no rfl (fn_intro (C := seat) seat_ok [(2, (.of [(0, .take), (1, .take), (2, .take), (3, .do_), (4, .take), (5, .take)]))] GG_no (Try.func16) rfl rfl rfl rfl rfl ?_)
  repeat' ((try conv => whnf); first
    | (with_reducible refine OKv.go (C := seat) seat_ok ?_)
    | (with_reducible refine BB_true ?_)
    | (with_reducible refine BB_false ?_)
    | (with_reducible refine Both.mk ?_ ?_)
    | (with_reducible refine VS.mk ?_)
    | (refine PSem.go (C := seat) seat_ok ?_)
    | (refine And.intro (PlanOK.mk (by kernel_rfl) rfl (by kernel_rfl) (by kernel_rfl)) ?_)
    | (refine And.intro rfl (Exists.intro _ (And.intro (by first | assumption | rfl) ?_)))
    | (refine And.intro ⟨rfl, rfl, rfl⟩ ?_)
    | (refine And.intro (by omega) ?_)
    | (refine BB.mk (fun _h => ?_) (fun _h => ?_) <;> (first | (exact absurd _h (by decide)) | (exfalso; simp only [boolSet] at _h <;> omega) | skip)))
  all_goals (try conv => whnf)
  all_goals first
    | exact ⟨_, _, frz_tup 1 rfl (frz_nil _ 4) rfl, rfl, rfl, fun _ => rfl, rfl⟩
    | (exfalso; simp only [boolSet] at * <;> simp_all)
set_option maxRecDepth 100000 in
set_option maxHeartbeats 4000000 in
theorem ranswer_yes (n f : Int) (l : List De) (c : Nat) : FnOK Try.prog GG 16 [] [waF true n f l c, .v (.int .u8 n)] (fun r _ ext => (r = .tup [waF false 0 0 [] 0, .z 4 (l.map deC) c, .v (.bool true)]) ∧ ext = []) := by
  refine FnOK.pure GG_no rfl (fn_intro (C := seat) seat_ok [(2, (.of [(0, .take), (1, .take), (2, .take), (3, .do_), (4, .take), (5, .take)]))] GG_no (Try.func16) rfl rfl rfl rfl rfl ?_)
  repeat' ((try conv => whnf); first
    | (with_reducible refine OKv.go (C := seat) seat_ok ?_)
    | (with_reducible refine BB_true ?_)
    | (with_reducible refine BB_false ?_)
    | (with_reducible refine Both.mk ?_ ?_)
    | (with_reducible refine VS.mk ?_)
    | (refine PSem.go (C := seat) seat_ok ?_)
    | (refine And.intro (PlanOK.mk (by kernel_rfl) rfl (by kernel_rfl) (by kernel_rfl)) ?_)
    | (refine And.intro rfl (Exists.intro _ (And.intro (by first | assumption | rfl) ?_)))
    | (refine And.intro ⟨rfl, rfl, rfl⟩ ?_)
    | (refine And.intro (by omega) ?_)
    | (refine BB.mk (fun _h => ?_) (fun _h => ?_) <;> (first | (exact absurd _h (by decide)) | (exfalso; simp only [boolSet] at _h <;> omega) | skip)))
  all_goals (try conv => whnf)
  all_goals first
    | exact ⟨_, _, frz_tup 0 rfl (frz_aggT 3 rfl (frz_nil _ 4) rfl) rfl, rfl, rfl, fun _ => rfl, rfl⟩
    | (exfalso; simp only [boolSet] at * <;> simp_all)
set_option maxRecDepth 100000 in
set_option maxHeartbeats 4000000 in
theorem radm_put (l : List De) (cap : Nat) (hl : l.length ≤ 1000) (hr : Rising l) (hf : FlOk l) (d : De) (cd : Nat) (hcd : d.fl.length ≤ cd) (hdl : d.fl.length ≤ 1099511627776) (self room : Int) (o : List De) (he : putP l d self room = (o, true)) : FnOK Try.prog GG 21 [] [.z 4 (l.map deC) cap, deS d cd, .v (.int .u8 self), .v (.int .i64 room)] (fun r _ ext => (∃ c', (admL l d self room).length ≤ c' ∧ r = .z 4 ((admL l d self room).map deC) c') ∧ ext = []) := by
  have hA : admL l d self room = o := by unfold admL; rw [he]; rfl
  refine FnOK.pure GG_no rfl (fn_intro (C := seat) seat_ok [(7, (.of [(0, .take), (1, .take), (3, .take), (4, .take), (5, .take), (2, .do_), (6, .do_), (7, .take), (8, .take), (9, .take), (10, .take)]))] GG_no (Try.func21) rfl rfl rfl rfl rfl ?_)
  repeat' ((try conv => whnf); first
    | (with_reducible refine OKv.go (C := seat) seat_ok ?_)
    | (with_reducible refine BB_true ?_)
    | (with_reducible refine BB_false ?_)
    | (with_reducible refine Both.mk ?_ ?_)
    | (with_reducible refine VS.mk ?_)
    | (refine PSem.go (C := seat) seat_ok ?_)
    | (refine And.intro (PlanOK.mk (by kernel_rfl) rfl (by kernel_rfl) (by kernel_rfl)) ?_)
    | (refine And.intro rfl (Exists.intro _ (And.intro (by first | assumption | rfl) ?_)))
    | (refine And.intro ⟨rfl, rfl, rfl⟩ ?_)
    | (refine call_ro [] (rput_zz l cap hl hr d cd hcd self room hf hdl o true he) GG_no rfl rfl rfl trivial ?_; rintro r bs' ext ⟨⟨c1, hc1, rfl⟩, rfl⟩)
    | (refine BB.mk (fun _h => ?_) (fun _h => ?_) <;> (first | (exact absurd _h (by decide)) | (exfalso; simp only [boolSet] at _h <;> omega) | (simp only [boolSet] at _h) | skip))
    | (refine And.intro (by omega) ?_)
    | (refine BB.mk (fun _h => ?_) (fun _h => ?_) <;> (first | (exact absurd _h (by decide)) | (exfalso; simp only [boolSet] at _h <;> omega) | skip)))
  all_goals (try conv => whnf)
  exact ⟨_, _, FrzV.refl _ _, rfl, rfl, fun _ => rfl, c1, (by rw [hA]; exact hc1), by rw [hA]⟩
set_option maxRecDepth 100000 in
set_option maxHeartbeats 4000000 in
theorem radm_no (l : List De) (cap : Nat) (hl : l.length ≤ 1000) (hr : Rising l) (hf : FlOk l) (d : De) (cd : Nat) (hcd : d.fl.length ≤ cd) (hdl : d.fl.length ≤ 1099511627776) (self room : Int) (hcl : l.length ≤ cap) (he : putP l d self room = (l, false)) (hn : d.node = self ∨ d.inc < 1 ∨ 0 ≤ findZ d.node l ∨ l.length = 0) (h0 : 0 ≤ d.inc) : FnOK Try.prog GG 21 [] [.z 4 (l.map deC) cap, deS d cd, .v (.int .u8 self), .v (.int .i64 room)] (fun r _ ext => (∃ c', (admL l d self room).length ≤ c' ∧ r = .z 4 ((admL l d self room).map deC) c') ∧ ext = []) := by
  have hA : admL l d self room = l := by unfold admL; rw [he]; simp only [Bool.false_eq_true, if_false]; rw [if_pos hn]
  have hlm : (l.map deC).length = l.length := List.length_map _
  refine FnOK.pure GG_no rfl (fn_intro (C := seat) seat_ok [(7, (.of [(0, .take), (1, .take), (3, .take), (4, .take), (5, .take), (2, .do_), (6, .do_), (7, .take), (8, .take), (9, .take), (10, .take)]))] GG_no (Try.func21) rfl rfl rfl rfl rfl ?_)
  repeat' ((try conv => whnf); first
    | (with_reducible refine OKv.go (C := seat) seat_ok ?_)
    | (with_reducible refine BB_true ?_)
    | (with_reducible refine BB_false ?_)
    | (with_reducible refine Both.mk ?_ ?_)
    | (with_reducible refine VS.mk ?_)
    | (refine PSem.go (C := seat) seat_ok ?_)
    | (refine And.intro (PlanOK.mk (by kernel_rfl) rfl (by kernel_rfl) (by kernel_rfl)) ?_)
    | (refine And.intro rfl (Exists.intro _ (And.intro (by first | assumption | rfl) ?_)))
    | (refine And.intro ⟨rfl, rfl, rfl⟩ ?_)
    | (refine call_ro [] (rput_zz l cap hl hr d cd hcd self room hf hdl l false he) GG_no rfl rfl rfl trivial ?_; rintro r bs' ext ⟨⟨c1, hc1, rfl⟩, rfl⟩)
    | (refine call_ro [] (rfind_ok l cap d.node (by omega) hr _ rfl) GG_no rfl rfl rfl trivial ?_; rintro r bs' ext ⟨rfl, rfl⟩)
    | (refine BB.mk (fun _h => ?_) (fun _h => ?_) <;> (first | (exact absurd _h (by decide)) | (exfalso; simp only [boolSet] at _h <;> omega) | (simp only [boolSet] at _h) | skip))
    | (refine And.intro (by omega) ?_)
    | (refine BB.mk (fun _h => ?_) (fun _h => ?_) <;> (first | (exact absurd _h (by decide)) | (exfalso; simp only [boolSet] at _h <;> omega) | skip)))
  all_goals (try conv => whnf)
  all_goals first
    | exact ⟨_, _, FrzV.refl _ _, rfl, rfl, fun _ => rfl, cap, (by rw [hA]; exact hcl), by rw [hA]⟩
    | (exfalso; omega)
set_option maxRecDepth 100000 in
set_option maxHeartbeats 4000000 in
theorem radm_old (l : List De) (cap : Nat) (hl : l.length ≤ 1000) (hr : Rising l) (hf : FlOk l) (d : De) (cd : Nat) (hcd : d.fl.length ≤ cd) (hdl : d.fl.length ≤ 1099511627776) (self room : Int) (hag : ∀ y ∈ l, 0 ≤ y.age ∧ y.age ≤ 255) (h0 : 0 ≤ d.inc) (he : putP l d self room = (l, false)) (hn : ¬ (d.node = self ∨ d.inc < 1 ∨ 0 ≤ findZ d.node l ∨ l.length = 0)) (k : Nat) (y : De) (ho : oldAt l l.length = some k) (hy : l[k]? = some y) (o : List De) (b : Bool) (he2 : putP (dropL y.node l) d self room = (o, b)) : FnOK Try.prog GG 21 [] [.z 4 (l.map deC) cap, deS d cd, .v (.int .u8 self), .v (.int .i64 room)] (fun r _ ext => (∃ c', (admL l d self room).length ≤ c' ∧ r = .z 4 ((admL l d self room).map deC) c') ∧ ext = []) := by
  have hA : admL l d self room = o := by
    unfold admL
    rw [he]
    simp only [Bool.false_eq_true, if_false]
    rw [if_neg hn, ho]
    simp only
    rw [hy]
    simp only
    rw [he2]
  have hlm : (l.map deC).length = l.length := List.length_map _
  have hrow := zde_at hy
  have hkl := getElem?_lt hy
  refine FnOK.pure GG_no rfl (fn_intro (C := seat) seat_ok [(7, (.of [(0, .take), (1, .take), (3, .take), (4, .take), (5, .take), (2, .do_), (6, .do_), (7, .take), (8, .take), (9, .take), (10, .take)]))] GG_no (Try.func21) rfl rfl rfl rfl rfl ?_)
  repeat' ((try conv => whnf); first
    | (with_reducible refine OKv.go (C := seat) seat_ok ?_)
    | (with_reducible refine BB_true ?_)
    | (with_reducible refine BB_false ?_)
    | (with_reducible refine Both.mk ?_ ?_)
    | (with_reducible refine VS.mk ?_)
    | (refine PSem.go (C := seat) seat_ok ?_)
    | (refine And.intro (PlanOK.mk (by kernel_rfl) rfl (by kernel_rfl) (by kernel_rfl)) ?_)
    | (refine And.intro rfl (Exists.intro _ (And.intro (by first | assumption | rfl) ?_)))
    | (refine And.intro ⟨rfl, rfl, rfl⟩ ?_)
    | (refine call_ro [] (rput_zz l cap hl hr d cd hcd self room hf hdl l false he) GG_no rfl rfl rfl trivial ?_; rintro r bs' ext ⟨⟨c1, hc1, rfl⟩, rfl⟩)
    | (refine call_ro [] (rfind_ok l cap d.node (by omega) hr _ rfl) GG_no rfl rfl rfl trivial ?_; rintro r bs' ext ⟨rfl, rfl⟩)
    | (refine call_ro [] (roldest_ok l cap (by omega) hag (k : Int) (by rw [ho]; rfl)) GG_no rfl rfl rfl trivial ?_; rintro r bs' ext ⟨rfl, rfl⟩)
    | (refine call_ro [] (rdrop_ok l cap y.node (by omega) hr _ rfl) GG_no rfl rfl rfl trivial ?_; rintro r bs' ext ⟨⟨c2, hc2, rfl⟩, rfl⟩)
    | (refine call_ro [] (rput_zz (dropL y.node l) c2 (Nat.le_trans drop_len hl) (drop_rising hr) d cd hcd self room (fun z hz => hf z (drop_mem hz)) hdl o b he2) GG_no rfl rfl rfl trivial ?_; rintro r bs' ext ⟨⟨c1, hc1, rfl⟩, rfl⟩)
    | (refine And.intro ⟨by omega, by simp only [List.length_map]; omega⟩ (Exists.intro _ (And.intro (by first | assumption | rfl) ?_)))
    | (refine BB.mk (fun _h => ?_) (fun _h => ?_) <;> (first | (exact absurd _h (by decide)) | (exfalso; simp only [boolSet] at _h <;> omega) | (simp only [boolSet] at _h) | skip))
    | (refine And.intro (by omega) ?_)
    | (refine BB.mk (fun _h => ?_) (fun _h => ?_) <;> (first | (exact absurd _h (by decide)) | (exfalso; simp only [boolSet] at _h <;> omega) | skip)))
  all_goals (try conv => whnf)
  all_goals first
    | exact ⟨_, _, FrzV.refl _ _, rfl, rfl, fun _ => rfl, c1, (by rw [hA]; exact hc1), by rw [hA]⟩
    | (exfalso; omega)
theorem radmit_eq (l : List De) (cap : Nat) (hl : l.length ≤ 1000) (hcl : l.length ≤ cap) (hr : Rising l) (hf : FlOk l) (hag : ∀ y ∈ l, 0 ≤ y.age ∧ y.age ≤ 255) (d : De) (cd : Nat) (hcd : d.fl.length ≤ cd) (hdl : d.fl.length ≤ 1099511627776) (self room N : Int) (hN : room = N) (h0 : 0 ≤ d.inc) (o : List De) (ho : admL l d self N = o) : FnOK Try.prog GG 21 [] [.z 4 (l.map deC) cap, deS d cd, .v (.int .u8 self), .v (.int .i64 room)] (fun r _ ext => (∃ c', o.length ≤ c' ∧ r = .z 4 (o.map deC) c') ∧ ext = []) := by
  subst hN; subst ho
  cases hb : (putP l d self room).2 with
  | true => exact radm_put l cap hl hr hf d cd hcd hdl self room (putP l d self room).1 (by rw [← hb])
  | false =>
    have he := put_false hb
    by_cases hn : d.node = self ∨ d.inc < 1 ∨ 0 ≤ findZ d.node l ∨ l.length = 0
    · exact radm_no l cap hl hr hf d cd hcd hdl self room hcl he hn h0
    · rcases oldAt_spec l l.length (Nat.le_refl _) with ⟨h, _⟩ | ⟨a, y, ha, hy, _⟩
      · exact (hn (.inr (.inr (.inr h)))).elim
      · exact radm_old l cap hl hr hf d cd hcd hdl self room hag h0 he hn a y ha hy (putP (dropL y.node l) d self room).1 (putP (dropL y.node l) d self room).2 rfl
set_option maxRecDepth 100000 in
set_option maxHeartbeats 4000000 in
theorem rfill_ok (l got : List De) (cap cg : Nat) (self room : Int) (hcl : l.length ≤ cap) (hV : VOk self room l) (hrm : room ≤ 1000) (hf : FlOk l) (hgf : FlOk got) (hg : got.length ≤ 1099511627776) : FnOK Try.prog GG 23 [] [.z 4 (l.map deC) cap, .z 4 (got.map deC) cg, .v (.int .u8 self), .v (.int .i64 room)] (fun r _ ext => (∃ c', (fillL got self room got.length l).length ≤ c' ∧ r = .z 4 ((fillL got self room got.length l).map deC) c') ∧ ext = []) := by
  have hlen := hV.len
  have hgm : (got.map deC).length = got.length := List.length_map _
  refine FnOK.pure GG_no rfl (fn_intro (C := seat) seat_ok [] GG_no (Try.func23) rfl rfl rfl rfl rfl ?_)
  repeat' ((try conv => whnf); first
    | (with_reducible refine OKv.go (C := seat) seat_ok ?_)
    | (with_reducible refine BB_true ?_)
    | (with_reducible refine BB_false ?_)
    | (with_reducible refine Both.mk ?_ ?_)
    | (with_reducible refine VS.mk ?_)
    | (refine PSem.go (C := seat) seat_ok ?_)
    | (refine And.intro (PlanOK.mk (by kernel_rfl) rfl (by kernel_rfl) (by kernel_rfl)) ?_)
    | (refine And.intro rfl (Exists.intro _ (And.intro (by first | assumption | rfl) ?_)))
    | (refine And.intro ⟨rfl, rfl, rfl⟩ ?_)
    | (refine And.intro (by omega) ?_)
    | (refine BB.mk (fun _h => ?_) (fun _h => ?_) <;> (first | (exact absurd _h (by decide)) | (exfalso; simp only [boolSet] at _h <;> omega) | skip)))
  all_goals (try conv => whnf)
  refine loop_rule (α := Nat × Nat) (fun p => p.1 ≤ got.length ∧ (fillL got self room p.1 l).length ≤ p.2) (fun p => { slots := [(0, .z 4 ((fillL got self room p.1 l).map deC) p.2), (1, .z 4 (got.map deC) cg), (2, .v (.int .u8 self)), (3, .v (.int .i64 room)), (9, .v (.int .i64 (p.1 : Int)))], nt := 28, mem := ⟨GG, [], []⟩ }) (fun p => got.length - p.1) (0, cap) ⟨Nat.zero_le _, hcl⟩ ⟨⟨[], List.nodup_nil, GG_no, rfl, (SubOld.refl _ rfl), trivial, ⟨.inl rfl, .inl rfl, .inl rfl, .inl rfl, .inl rfl, trivial⟩⟩, rfl⟩ ?_ (fun _ => rfl)
  rintro ⟨k, c⟩ ⟨hk, hc⟩
  dsimp only at hk hc ⊢
  refine vc_sound (C := seat) seat_ok (pl := []) ?_
  have hVk := fill_vok (got := got) hV k
  have hfk := fill_fl (self := self) (room := room) hf hgf k
  have hlk := hVk.len
  by_cases hlt : k < got.length
  · obtain ⟨d, hd⟩ : ∃ d, got[k]? = some d := ⟨_, List.getElem?_eq_getElem hlt⟩
    have hrow := zde_at hd
    have hdf := hgf d (List.mem_of_getElem? hd)
    have hs := fill_succ (self := self) (room := room) (l := l) hd
    repeat' ((try conv => whnf); first
      | (with_reducible refine OKv.go (C := seat) seat_ok ?_)
      | (with_reducible refine BB_true ?_)
      | (with_reducible refine BB_false ?_)
      | (with_reducible refine Both.mk ?_ ?_)
      | (with_reducible refine VS.mk ?_)
      | (refine PSem.go (C := seat) seat_ok ?_)
      | (refine And.intro (PlanOK.mk (by kernel_rfl) rfl (by kernel_rfl) (by kernel_rfl)) ?_)
      | (refine And.intro rfl (Exists.intro _ (And.intro (by first | assumption | rfl) ?_)))
      | (refine And.intro ⟨rfl, rfl, rfl⟩ ?_)
      | (refine call_ro [] (rput_zz (fillL got self room k l) c (by omega) hVk.rising d _ (by simpa using hcaps.1) self room hfk hdf (fillL got self room (k + 1) l) (putP (fillL got self room k l) d self room).2 (by rw [hs])) GG_no rfl rfl rfl trivial ?_; rintro r bs' ext ⟨⟨c1, hc1, rfl⟩, rfl⟩)
      | (refine And.intro ⟨by omega, by simp only [List.length_map]; omega⟩ (Exists.intro _ (And.intro (by first | assumption | rfl) ?_)))
      | (refine fun (caps : Nat → Nat) hcaps => ?_; conv at hcaps => whnf)
      | (refine BB.mk (fun _h => ?_) (fun _h => ?_) <;> (first | (exact absurd _h (by decide)) | (exfalso; simp only [boolSet] at _h <;> omega) | (simp only [boolSet] at _h) | skip))
      | (refine And.intro (by omega) ?_)
      | (refine BB.mk (fun _h => ?_) (fun _h => ?_) <;> (first | (exact absurd _h (by decide)) | (exfalso; simp only [boolSet] at _h <;> omega) | skip)))
    all_goals (try conv => whnf)
    exact ⟨(k + 1, c1), ⟨by dsimp only; omega, hc1⟩, by dsimp only; omega, ⟨⟨[], by decide, GG_no, rfl, SubOld.refl _ rfl, trivial, ⟨.inl rfl, .inl rfl, .inl rfl, .inl rfl, .inl (num_eq (by rw [IntKind.wrap_i64]; omega)), trivial⟩⟩, rfl⟩⟩
  · obtain rfl : k = got.length := by omega
    repeat' ((try conv => whnf); first
      | (with_reducible refine OKv.go (C := seat) seat_ok ?_)
      | (with_reducible refine BB_true ?_)
      | (with_reducible refine BB_false ?_)
      | (with_reducible refine Both.mk ?_ ?_)
      | (with_reducible refine VS.mk ?_)
      | (refine PSem.go (C := seat) seat_ok ?_)
      | (refine And.intro (PlanOK.mk (by kernel_rfl) rfl (by kernel_rfl) (by kernel_rfl)) ?_)
      | (refine And.intro rfl (Exists.intro _ (And.intro (by first | assumption | rfl) ?_)))
      | (refine And.intro ⟨rfl, rfl, rfl⟩ ?_)
      | (refine BB.mk (fun _h => ?_) (fun _h => ?_) <;> (first | (exact absurd _h (by decide)) | (exfalso; simp only [boolSet] at _h <;> omega) | (simp only [boolSet] at _h) | skip))
      | (refine And.intro (by omega) ?_)
      | (refine BB.mk (fun _h => ?_) (fun _h => ?_) <;> (first | (exact absurd _h (by decide)) | (exfalso; simp only [boolSet] at _h <;> omega) | skip)))
    all_goals (try conv => whnf)
    exact ⟨_, _, FrzV.refl _ _, rfl, rfl, fun _ => rfl, c, hc, rfl⟩
set_option maxRecDepth 100000 in
set_option maxHeartbeats 4000000 in
theorem anew_ok (l : List De) (cap : Nat) (hl : l.length ≤ 1099511627776) (hf : FlOk l) : FnOK Try.prog GG 19 [] [.z 4 (l.map deC) cap] (fun r _ ext => (∃ c', l.length ≤ c' ∧ r = .z 4 (l.map deC) c') ∧ ext = []) := by
  have hlm : (l.map deC).length = l.length := List.length_map _
  refine FnOK.pure GG_no rfl (fn_intro (C := seat) seat_ok [] GG_no (Try.func19) rfl rfl rfl rfl rfl ?_)
  repeat' ((try conv => whnf); first
    | (with_reducible refine OKv.go (C := seat) seat_ok ?_)
    | (with_reducible refine BB_true ?_)
    | (with_reducible refine BB_false ?_)
    | (with_reducible refine Both.mk ?_ ?_)
    | (with_reducible refine VS.mk ?_)
    | (refine PSem.go (C := seat) seat_ok ?_)
    | (refine And.intro (PlanOK.mk (by kernel_rfl) rfl (by kernel_rfl) (by kernel_rfl)) ?_)
    | (refine And.intro rfl (Exists.intro _ (And.intro (by first | assumption | rfl) ?_)))
    | (refine And.intro ⟨rfl, rfl, rfl⟩ ?_)
    | (refine And.intro (by omega) ?_)
    | (refine BB.mk (fun _h => ?_) (fun _h => ?_) <;> (first | (exact absurd _h (by decide)) | (exfalso; simp only [boolSet] at _h <;> omega) | skip)))
  all_goals (try conv => whnf)
  refine loop_rule (α := Nat × Nat) (fun p => p.1 ≤ l.length ∧ p.1 ≤ p.2) (fun p => { slots := [(3, .s (.n 0) 4 0 p.1 p.2), (6, .z 4 (l.map deC) cap), (7, .v (.int .i64 (l.map deC).length)), (8, .v (.int .i64 (p.1 : Int)))], nt := 23, mem := ⟨GG, [], [.row 27 4 p.2 ((l.take p.1).map deC)]⟩ }) (fun p => l.length - p.1) (0, 0) ⟨Nat.zero_le _, Nat.zero_le _⟩ ⟨⟨[0], (by decide), GG_no, rfl, (SubOld.refl _ rfl), ⟨.inl (.inl ⟨rfl, rfl⟩), trivial⟩, ⟨.inr (.inl ⟨_, _, _, rfl, rfl⟩), .inl rfl, .inl rfl, .inl rfl, trivial⟩⟩, rfl⟩ ?_ (fun _ => rfl)
  rintro ⟨k, c⟩ ⟨hk, hc⟩
  dsimp only at hk hc ⊢
  refine vc_sound (C := seat) seat_ok (pl := []) ?_
  by_cases hlt : k < l.length
  · obtain ⟨y, hy⟩ : ∃ y, l[k]? = some y := ⟨_, List.getElem?_eq_getElem hlt⟩
    have hrow := zde_at hy
    have hfy := hf y (List.mem_of_getElem? hy)
    have htk : ((l.take k).map deC).length = k := by rw [List.length_map, List.length_take]; omega
    have hym : (y.fl.map spC).length = y.fl.length := List.length_map _
    repeat' ((try conv => whnf); first
      | (with_reducible refine OKv.go (C := seat) seat_ok ?_)
      | (with_reducible refine BB_true ?_)
      | (with_reducible refine BB_false ?_)
      | (with_reducible refine Both.mk ?_ ?_)
      | (with_reducible refine VS.mk ?_)
      | (refine PSem.go (C := seat) seat_ok ?_)
      | (refine And.intro (PlanOK.mk (by kernel_rfl) rfl (by kernel_rfl) (by kernel_rfl)) ?_)
      | (refine And.intro rfl (Exists.intro _ (And.intro (by first | assumption | rfl) ?_)))
      | (refine And.intro ⟨rfl, rfl, rfl⟩ ?_)
      | (refine And.intro ⟨by omega, by simp only [List.length_map]; omega⟩ (Exists.intro _ (And.intro (by first | assumption | rfl) ?_)))
      | (refine fun (caps : Nat → Nat) hcaps => ?_; conv at hcaps => whnf)
      | (refine And.intro ⟨rfl, rfl, rfl, by first | (simp only [chunks_len, List.length_map, List.length_take, List.length_drop, List.length_append, List.length_cons, List.length_nil] <;> omega) | omega | rfl⟩ ?_)
      | (refine And.intro ⟨rfl, by first | (simp only [chunks_len, List.length_map, List.length_take, List.length_drop, List.length_append, List.length_cons, List.length_nil] <;> omega) | omega | rfl⟩ ?_)
      | (refine And.intro (by first | exact ⟨rfl, Nat.le_refl _⟩ | first | (simp only [chunks_len, List.length_map, List.length_take, List.length_drop, List.length_append, List.length_cons, List.length_nil] <;> omega) | omega | rfl) ?_)
      | (refine fun (caps : Nat → Nat) hcaps => ?_; conv at hcaps => whnf)
      | (refine fun (cap' : Nat) hcap' => ?_)
      | (refine And.intro (by omega) ?_)
      | (refine BB.mk (fun _h => ?_) (fun _h => ?_) <;> (first | (exact absurd _h (by decide)) | (exfalso; simp only [boolSet] at _h <;> omega) | skip)))
    all_goals (try conv => whnf)
    refine ⟨(k + 1, cap'), ⟨by dsimp only; omega, by dsimp only; omega⟩, by dsimp only; omega, ⟨⟨[5], by decide, GG_no, rfl, SubOld.refl _ rfl, ⟨.inr (.inl ?_), trivial⟩, ⟨.inl ?_, .inl rfl, .inl rfl, .inl (num_eq (by rw [IntKind.wrap_i64]; omega)), trivial⟩⟩, rfl⟩⟩
    · dsimp only
      rw [map_take_in hy]
      have e : List.take (0 + (y.fl.map spC).length) (List.drop 0 ([] ++ y.fl.map spC)) = y.fl.map spC := by simp [List.take_of_length_le]
      show some (SB.row _ 4 cap' ((l.take k).map deC ++ [[.v (.int .u8 y.node), .v (.int .u16 y.inc), .v (.int .u8 y.age), .z 2 (List.take (0 + (y.fl.map spC).length) (List.drop 0 ([] ++ y.fl.map spC)))]])) = _
      rw [e]
      rfl
    · rfl
  · have hs : l.take k = l := List.take_of_length_le (by omega)
    obtain rfl : k = l.length := by omega
    repeat' ((try conv => whnf); first
      | (with_reducible refine OKv.go (C := seat) seat_ok ?_)
      | (with_reducible refine BB_true ?_)
      | (with_reducible refine BB_false ?_)
      | (with_reducible refine Both.mk ?_ ?_)
      | (with_reducible refine VS.mk ?_)
      | (refine PSem.go (C := seat) seat_ok ?_)
      | (refine And.intro (PlanOK.mk (by kernel_rfl) rfl (by kernel_rfl) (by kernel_rfl)) ?_)
      | (refine And.intro rfl (Exists.intro _ (And.intro (by first | assumption | rfl) ?_)))
      | (refine And.intro ⟨rfl, rfl, rfl⟩ ?_)
      | (refine BB.mk (fun _h => ?_) (fun _h => ?_) <;> (first | (exact absurd _h (by decide)) | (exfalso; simp only [boolSet] at _h <;> omega) | (simp only [boolSet] at _h) | skip))
      | (refine And.intro (by omega) ?_)
      | (refine BB.mk (fun _h => ?_) (fun _h => ?_) <;> (first | (exact absurd _h (by decide)) | (exfalso; simp only [boolSet] at _h <;> omega) | skip)))
    all_goals (try conv => whnf)
    exact ⟨_, _, frz_row rfl (by rw [List.length_map, hs]), rfl, rfl, fun _ => rfl, c, hc, (by rw [hs])⟩
end Go.Proofs.Ytjghbfbifkhloaa

namespace Go.Proofs.Ytjghbfbifkhloaa
open Go.RowKit

structure Wp where
  k : Nat
  s : Bool
  n : Int
  f : Int
  l : List De
  c1 : Nat
  c2 : Nat
def TInv (T : Nat) (got : List De) (p : Wp) : Prop := p.k ≤ T ∧ ((p.s = true ∧ 1 ≤ p.f ∧ p.f ≤ 255 ∧ p.l = got) ∨ (p.s = false ∧ p.l = []))
set_option maxRecDepth 100000 in
set_option maxHeartbeats 4000000 in
theorem tFew1 (node left frm : Int) (some_ : Bool) (ticks : Int) (l got : List De) (cap cg : Nat) (d : De) (cd : Nat) (self room : Int) (hl : l.length ≤ 9223372036854775807) (hgl : got.length ≤ 9223372036854775807) (hok : ∀ y ∈ l, DeOk y) (hgok : ∀ y ∈ got, DeOk y) (hd : DeOk d) (hcd : d.fl.length ≤ cd) (hcm : cd ≤ 9223372036854775807) (hlf : 0 ≤ left ∧ left ≤ 255) (htk : 0 ≤ ticks ∧ ticks ≤ 65535) (hcg : got.length ≤ cg) (hrm : 0 ≤ room ∧ room ≤ 255) (hfew : (l.all (fun d => decide (d.fl.length ≤ 8)) && decide (l.length ≤ 20)) = false) : FnOK Try.prog GG 3 [] [.v (.int .u8 node), .v (.int .u8 left), .v (.int .u8 frm), .v (.bool some_), .v (.int .u16 ticks), .z 4 (l.map deC) cap, .z 4 (got.map deC) cg, deS d cd, .v (.int .u8 self), .v (.int .u8 room)] (fun r _ ext => (r = .v (.bool true)) ∧ ext = []) := by
  refine FnOK.pure GG_no rfl (fn_intro (C := seat) seat_ok [(10, (.of [(0, .take), (1, .take), (2, .do_), (3, .last)])), (21, (.of [(0, .take), (1, .take), (2, .take), (3, .take), (5, .take), (6, .take), (7, .take), (8, .take), (4, .do_), (9, .do_), (10, .do_), (11, .take), (12, .take), (13, .take), (14, .take), (15, .take), (17, .take), (18, .take), (19, .take), (20, .take), (16, .do_), (21, .do_), (22, .do_), (23, .take), (24, .take), (25, .take), (26, .take), (27, .do_), (28, .take), (29, .take), (30, .do_), (31, .take), (32, .take)]))] GG_no (Try.func3) rfl rfl rfl rfl rfl ?_)
  repeat' ((try conv => whnf); first
    | (with_reducible refine OKv.go (C := seat) seat_ok ?_)
    | (with_reducible refine BB_true ?_)
    | (with_reducible refine BB_false ?_)
    | (with_reducible refine Both.mk ?_ ?_)
    | (with_reducible refine VS.mk ?_)
    | (refine PSem.go (C := seat) seat_ok ?_)
    | (refine And.intro (PlanOK.mk (by kernel_rfl) rfl (by kernel_rfl) (by kernel_rfl)) ?_)
    | (refine And.intro rfl (Exists.intro _ (And.intro (by first | assumption | rfl) ?_)))
    | (refine And.intro ⟨rfl, rfl, rfl⟩ ?_)
    | (refine call_ro [] (few_zz l cap _ hl hfew) GG_no rfl rfl rfl trivial ?_; rintro r bs' ext ⟨rfl, rfl⟩)
    | (refine call_ro [] (awake_ok) GG_no rfl rfl rfl trivial ?_; rintro r bs' ext ⟨rfl, rfl⟩)
    | (refine And.intro (by omega) ?_)
    | (refine BB.mk (fun _h => ?_) (fun _h => ?_) <;> (first | (exact absurd _h (by decide)) | (exfalso; simp only [boolSet] at _h <;> omega) | skip)))
  all_goals (try conv => whnf)
  exact ⟨_, _, FrzV.refl _ _, rfl, rfl, fun _ => rfl, rfl⟩
set_option maxRecDepth 100000 in
set_option maxHeartbeats 4000000 in
theorem tFew2 (node left frm : Int) (some_ : Bool) (ticks : Int) (l got : List De) (cap cg : Nat) (d : De) (cd : Nat) (self room : Int) (hl : l.length ≤ 9223372036854775807) (hgl : got.length ≤ 9223372036854775807) (hok : ∀ y ∈ l, DeOk y) (hgok : ∀ y ∈ got, DeOk y) (hd : DeOk d) (hcd : d.fl.length ≤ cd) (hcm : cd ≤ 9223372036854775807) (hlf : 0 ≤ left ∧ left ≤ 255) (htk : 0 ≤ ticks ∧ ticks ≤ 65535) (hcg : got.length ≤ cg) (hrm : 0 ≤ room ∧ room ≤ 255) (hfew : (l.all (fun d => decide (d.fl.length ≤ 8)) && decide (l.length ≤ 20)) = true) (hfew2 : (got.all (fun d => decide (d.fl.length ≤ 8)) && decide (got.length ≤ 20)) = false) : FnOK Try.prog GG 3 [] [.v (.int .u8 node), .v (.int .u8 left), .v (.int .u8 frm), .v (.bool some_), .v (.int .u16 ticks), .z 4 (l.map deC) cap, .z 4 (got.map deC) cg, deS d cd, .v (.int .u8 self), .v (.int .u8 room)] (fun r _ ext => (r = .v (.bool true)) ∧ ext = []) := by
  refine FnOK.pure GG_no rfl (fn_intro (C := seat) seat_ok [(10, (.of [(0, .take), (1, .take), (2, .do_), (3, .last)])), (21, (.of [(0, .take), (1, .take), (2, .take), (3, .take), (5, .take), (6, .take), (7, .take), (8, .take), (4, .do_), (9, .do_), (10, .do_), (11, .take), (12, .take), (13, .take), (14, .take), (15, .take), (17, .take), (18, .take), (19, .take), (20, .take), (16, .do_), (21, .do_), (22, .do_), (23, .take), (24, .take), (25, .take), (26, .take), (27, .do_), (28, .take), (29, .take), (30, .do_), (31, .take), (32, .take)]))] GG_no (Try.func3) rfl rfl rfl rfl rfl ?_)
  repeat' ((try conv => whnf); first
    | (with_reducible refine OKv.go (C := seat) seat_ok ?_)
    | (with_reducible refine BB_true ?_)
    | (with_reducible refine BB_false ?_)
    | (with_reducible refine Both.mk ?_ ?_)
    | (with_reducible refine VS.mk ?_)
    | (refine PSem.go (C := seat) seat_ok ?_)
    | (refine And.intro (PlanOK.mk (by kernel_rfl) rfl (by kernel_rfl) (by kernel_rfl)) ?_)
    | (refine And.intro rfl (Exists.intro _ (And.intro (by first | assumption | rfl) ?_)))
    | (refine And.intro ⟨rfl, rfl, rfl⟩ ?_)
    | (refine call_ro [] (few_zz l cap _ hl hfew) GG_no rfl rfl rfl trivial ?_; rintro r bs' ext ⟨rfl, rfl⟩)
    | (refine call_ro [] (few_zz got cg _ hgl hfew2) GG_no rfl rfl rfl trivial ?_; rintro r bs' ext ⟨rfl, rfl⟩)
    | (refine call_ro [] (awake_ok) GG_no rfl rfl rfl trivial ?_; rintro r bs' ext ⟨rfl, rfl⟩)
    | (refine And.intro (by omega) ?_)
    | (refine BB.mk (fun _h => ?_) (fun _h => ?_) <;> (first | (exact absurd _h (by decide)) | (exfalso; simp only [boolSet] at _h <;> omega) | skip)))
  all_goals (try conv => whnf)
  exact ⟨_, _, FrzV.refl _ _, rfl, rfl, fun _ => rfl, rfl⟩
set_option maxRecDepth 100000 in
set_option maxHeartbeats 4000000 in
theorem tFew3 (node left frm : Int) (some_ : Bool) (ticks : Int) (l got : List De) (cap cg : Nat) (d : De) (cd : Nat) (self room : Int) (hl : l.length ≤ 9223372036854775807) (hgl : got.length ≤ 9223372036854775807) (hok : ∀ y ∈ l, DeOk y) (hgok : ∀ y ∈ got, DeOk y) (hd : DeOk d) (hcd : d.fl.length ≤ cd) (hcm : cd ≤ 9223372036854775807) (hlf : 0 ≤ left ∧ left ≤ 255) (htk : 0 ≤ ticks ∧ ticks ≤ 65535) (hcg : got.length ≤ cg) (hrm : 0 ≤ room ∧ room ≤ 255) (hfew : (l.all (fun d => decide (d.fl.length ≤ 8)) && decide (l.length ≤ 20)) = true) (hfew2 : (got.all (fun d => decide (d.fl.length ≤ 8)) && decide (got.length ≤ 20)) = true) (h8 : 8 < d.fl.length) : FnOK Try.prog GG 3 [] [.v (.int .u8 node), .v (.int .u8 left), .v (.int .u8 frm), .v (.bool some_), .v (.int .u16 ticks), .z 4 (l.map deC) cap, .z 4 (got.map deC) cg, deS d cd, .v (.int .u8 self), .v (.int .u8 room)] (fun r _ ext => (r = .v (.bool true)) ∧ ext = []) := by
  have hdm : (d.fl.map spC).length = d.fl.length := List.length_map _
  refine FnOK.pure GG_no rfl (fn_intro (C := seat) seat_ok [(10, (.of [(0, .take), (1, .take), (2, .do_), (3, .last)])), (21, (.of [(0, .take), (1, .take), (2, .take), (3, .take), (5, .take), (6, .take), (7, .take), (8, .take), (4, .do_), (9, .do_), (10, .do_), (11, .take), (12, .take), (13, .take), (14, .take), (15, .take), (17, .take), (18, .take), (19, .take), (20, .take), (16, .do_), (21, .do_), (22, .do_), (23, .take), (24, .take), (25, .take), (26, .take), (27, .do_), (28, .take), (29, .take), (30, .do_), (31, .take), (32, .take)]))] GG_no (Try.func3) rfl rfl rfl rfl rfl ?_)
  repeat' ((try conv => whnf); first
    | (with_reducible refine OKv.go (C := seat) seat_ok ?_)
    | (with_reducible refine BB_true ?_)
    | (with_reducible refine BB_false ?_)
    | (with_reducible refine Both.mk ?_ ?_)
    | (with_reducible refine VS.mk ?_)
    | (refine PSem.go (C := seat) seat_ok ?_)
    | (refine And.intro (PlanOK.mk (by kernel_rfl) rfl (by kernel_rfl) (by kernel_rfl)) ?_)
    | (refine And.intro rfl (Exists.intro _ (And.intro (by first | assumption | rfl) ?_)))
    | (refine And.intro ⟨rfl, rfl, rfl⟩ ?_)
    | (refine call_ro [] (few_zz l cap _ hl hfew) GG_no rfl rfl rfl trivial ?_; rintro r bs' ext ⟨rfl, rfl⟩)
    | (refine call_ro [] (few_zz got cg _ hgl hfew2) GG_no rfl rfl rfl trivial ?_; rintro r bs' ext ⟨rfl, rfl⟩)
    | (refine call_ro [] (awake_ok) GG_no rfl rfl rfl trivial ?_; rintro r bs' ext ⟨rfl, rfl⟩)
    | (refine BB.mk (fun _h => ?_) (fun _h => ?_) <;> (first | (exact absurd _h (by decide)) | (exfalso; simp only [boolSet] at _h <;> omega) | (simp only [boolSet] at _h) | skip))
    | (refine And.intro (by omega) ?_)
    | (refine BB.mk (fun _h => ?_) (fun _h => ?_) <;> (first | (exact absurd _h (by decide)) | (exfalso; simp only [boolSet] at _h <;> omega) | skip)))
  all_goals (try conv => whnf)
  exact ⟨_, _, FrzV.refl _ _, rfl, rfl, fun _ => rfl, rfl⟩
theorem rfill_eq (l got : List De) (cap cg : Nat) (self room N : Int) (hN : room = N) (hcl : l.length ≤ cap) (hV : VOk self N l) (hrm : N ≤ 1000) (hf : FlOk l) (hgf : FlOk got) (hg : got.length ≤ 1099511627776) (o : List De) (ho : fillL got self N got.length l = o) : FnOK Try.prog GG 23 [] [.z 4 (l.map deC) cap, .z 4 (got.map deC) cg, .v (.int .u8 self), .v (.int .i64 room)] (fun r _ ext => (∃ c', o.length ≤ c' ∧ r = .z 4 (o.map deC) c') ∧ ext = []) := by
  subst hN; subst ho
  exact rfill_ok l got cap cg self room hcl hV hrm hf hgf hg
set_option maxRecDepth 100000 in
set_option maxHeartbeats 4000000 in
theorem tGood (node left frm : Int) (some_ : Bool) (ticks : Int) (l got : List De) (cap cg : Nat) (d : De) (cd : Nat) (self room : Int) (hl : l.length ≤ 9223372036854775807) (hgl : got.length ≤ 9223372036854775807) (hok : ∀ y ∈ l, DeOk y) (hgok : ∀ y ∈ got, DeOk y) (hd : DeOk d) (hcd : d.fl.length ≤ cd) (hcm : cd ≤ 9223372036854775807) (hlf : 0 ≤ left ∧ left ≤ 255) (htk : 0 ≤ ticks ∧ ticks ≤ 65535) (hcg : got.length ≤ cg) (hrm : 0 ≤ room ∧ room ≤ 255) (hfew : (l.all (fun d => decide (d.fl.length ≤ 8)) && decide (l.length ≤ 20)) = true) (hfew2 : (got.all (fun d => decide (d.fl.length ≤ 8)) && decide (got.length ≤ 20)) = true) (h8 : d.fl.length ≤ 8) : FnOK Try.prog GG 3 [] [.v (.int .u8 node), .v (.int .u8 left), .v (.int .u8 frm), .v (.bool some_), .v (.int .u16 ticks), .z 4 (l.map deC) cap, .z 4 (got.map deC) cg, deS d cd, .v (.int .u8 self), .v (.int .u8 room)] (fun r _ ext => (r = .v (.bool true)) ∧ ext = []) := by
  have hdm : (d.fl.map spC).length = d.fl.length := List.length_map _
  obtain ⟨hf, hl20⟩ := few_facts hfew
  obtain ⟨hgf, hg20⟩ := few_facts hfew2
  obtain ⟨N, hN⟩ : ∃ N, IntKind.i64.wrap (room.tmod 21) = N := ⟨_, rfl⟩
  have hN20 : 0 ≤ N ∧ N ≤ 20 := by
    rw [← hN, Int.tmod_eq_emod_of_nonneg hrm.1, IntKind.wrap_i64]
    omega
  have hV : VOk self N (viewN l self N 256) := VOk.view hN20.1 (fun y hy => (hok y hy).2.1.1)
  have hVf : FlOk (viewN l self N 256) := view_fl hf
  have hVl := hV.len
  have hw : IntKind.i64.wrap (room.tmod 21) = N := hN
  have hN2 : room.tmod 21 = N := by
    rw [← hN, Int.tmod_eq_emod_of_nonneg hrm.1, IntKind.wrap_i64]
    omega
  obtain ⟨v, hv⟩ : ∃ v, viewN l self N 256 = v := ⟨_, rfl⟩
  have hvok : ∀ y ∈ v, DeOk y := hv ▸ view_ok_mem hok
  rw [hv] at hV hVf hVl
  have hvag : ∀ y ∈ v, 0 ≤ y.age ∧ y.age ≤ 255 := fun y hy => (hvok y hy).2.2
  have hdi := hd.2.1.1
  obtain ⟨o, ho⟩ : ∃ o, admL v d self N = o := ⟨_, rfl⟩
  obtain ⟨hO, hmem, _, _, _, _, _⟩ := adm_facts (d := d) hV hdi
  rw [ho] at hO hmem
  have hOf : FlOk o := fun z hz => by
    rcases hmem z hz with rfl | h
    · omega
    · exact hVf z h
  have hOl := hO.len
  obtain ⟨w, hw2⟩ : ∃ w, fillL got self N got.length v = w := ⟨_, rfl⟩
  have hWf : FlOk w := hw2 ▸ fill_fl hVf hgf _
  have hWl := (hw2 ▸ fill_vok hV _ : VOk self N w).len
  obtain ⟨T, hT⟩ : ∃ T : Nat, ticks.tmod 300 = T := ⟨(ticks.tmod 300).toNat, by rw [Int.tmod_eq_emod_of_nonneg htk.1]; omega⟩
  have hT3 : T < 300 := by have := hT; rw [Int.tmod_eq_emod_of_nonneg htk.1] at this; omega
  obtain ⟨M, hM⟩ : ∃ M, max left 1 = M := ⟨_, rfl⟩
  have hM1 : 1 ≤ M ∧ M ≤ 255 := by omega
  cases some_ with
  | true =>
    refine FnOK.pure GG_no rfl (fn_intro (C := seat) seat_ok [(10, (.of [(0, .take), (1, .take), (2, .do_), (3, .last)])), (21, (.of [(0, .take), (1, .take), (2, .take), (3, .take), (5, .take), (6, .take), (7, .take), (8, .take), (4, .do_), (9, .do_), (10, .do_), (11, .take), (12, .take), (13, .take), (14, .take), (15, .take), (17, .take), (18, .take), (19, .take), (20, .take), (16, .do_), (21, .do_), (22, .do_), (23, .take), (24, .take), (25, .take), (26, .take), (27, .do_), (28, .take), (29, .take), (30, .do_), (31, .take), (32, .take)]))] GG_no (Try.func3) rfl rfl rfl rfl rfl ?_)
    repeat' ((try conv => whnf); first
      | (with_reducible refine OKv.go (C := seat) seat_ok ?_)
      | (with_reducible refine BB_true ?_)
      | (with_reducible refine BB_false ?_)
      | (with_reducible refine Both.mk ?_ ?_)
      | (with_reducible refine VS.mk ?_)
      | (refine PSem.go (C := seat) seat_ok ?_)
      | (refine And.intro (PlanOK.mk (by kernel_rfl) rfl (by kernel_rfl) (by kernel_rfl)) ?_)
      | (refine And.intro rfl (Exists.intro _ (And.intro (by first | assumption | rfl) ?_)))
      | (refine And.intro ⟨rfl, rfl, rfl⟩ ?_)
      | (refine call_ro [] (few_zz l cap _ hl hfew) GG_no rfl rfl rfl trivial ?_; rintro r bs' ext ⟨rfl, rfl⟩)
      | (refine call_ro [] (few_zz got cg _ hgl hfew2) GG_no rfl rfl rfl trivial ?_; rintro r bs' ext ⟨rfl, rfl⟩)
      | (refine call_ro [] (start_ok node left got cg (by omega) hgf M hM) GG_no rfl rfl rfl trivial ?_; rintro r bs' ext ⟨⟨c', hc', rfl⟩, rfl⟩)
      | (refine call_ro [] (rstart_ok node left got cg hlf.1 M hM) GG_no rfl rfl rfl trivial ?_; rintro r bs' ext ⟨rfl, rfl⟩)
      | (refine BB.mk (fun _h => ?_) (fun _h => ?_) <;> (first | (exact absurd _h (by decide)) | (exfalso; simp only [boolSet] at _h <;> omega) | (simp only [boolSet] at _h) | skip))
      | (refine And.intro (by omega) ?_)
      | (refine BB.mk (fun _h => ?_) (fun _h => ?_) <;> (first | (exact absurd _h (by decide)) | (exfalso; simp only [boolSet] at _h <;> omega) | skip)))
    all_goals (try conv => whnf)
    refine loop_ruleP (α := Wp) (fun p => TInv T got p) (fun p => { slots := [(2, .v (.int .u8 frm)), (5, .z 4 (l.map deC) cap), (6, .z 4 (got.map deC) cg), (8, .v (.int .u8 self)), (9, .v (.int .u8 room)), (17, .p (.n 0) 0 0 0), (21, .p (.n 1) 0 0 0), (22, .p (.n 2) 0 0 0), (66, .v (.int .u16 (T : Int))), (67, .v (.int .u16 (p.k : Int)))], nt := 168, mem := ⟨GG, [], [.box 27 [.v (.int .u8 d.node), .v (.int .u16 d.inc), .v (.int .u8 d.age), .z 2 (d.fl.map spC) cd], .box 31 [.v (.bool p.s), .v (.int .u8 p.n), .v (.int .u8 p.f), .z 4 (p.l.map deC) p.c1], .box 31 [.v (.bool p.s), .v (.int .u8 p.n), .v (.int .u8 p.f), .z 4 (p.l.map deC) p.c2]]⟩ }) (fun p => T - p.k) ⟨0, true, node, M, got, c', cg⟩ ⟨Nat.zero_le _, .inl ⟨rfl, hM1.1, hM1.2, rfl⟩⟩ (Ref.pass ⟨⟨[0, 1, 2], by decide, GG_no, rfl, SubOld.refl _ rfl, ⟨rfl, rfl, rfl, trivial⟩, ⟨.inl rfl, .inl rfl, .inl rfl, .inl rfl, .inl rfl, .inl rfl, .inl rfl, .inl rfl, .inl (num_eq hT), .inl rfl, trivial⟩⟩, rfl⟩) ?_ (fun _ => rfl)
    rintro ⟨k, s, n, ff, ls, c1, c2⟩ ⟨hk, H⟩
    dsimp only at hk H ⊢
    refine vc_sound (C := seat) seat_ok (pl := [(10, (.of [(0, .take), (1, .take), (2, .do_), (3, .last)])), (21, (.of [(0, .take), (1, .take), (2, .take), (3, .take), (5, .take), (6, .take), (7, .take), (8, .take), (4, .do_), (9, .do_), (10, .do_), (11, .take), (12, .take), (13, .take), (14, .take), (15, .take), (17, .take), (18, .take), (19, .take), (20, .take), (16, .do_), (21, .do_), (22, .do_), (23, .take), (24, .take), (25, .take), (26, .take), (27, .do_), (28, .take), (29, .take), (30, .do_), (31, .take), (32, .take)]))]) ?_
    by_cases hlt : k < T
    · rcases H with ⟨rfl, hf1, hf2, rfl⟩ | ⟨rfl, rfl⟩
      · by_cases h1 : ff = 1
        · subst h1
          repeat' ((try conv => whnf); first
            | (with_reducible refine OKv.go (C := seat) seat_ok ?_)
            | (with_reducible refine BB_true ?_)
            | (with_reducible refine BB_false ?_)
            | (with_reducible refine Both.mk ?_ ?_)
            | (with_reducible refine VS.mk ?_)
            | (refine PSem.go (C := seat) seat_ok ?_)
            | (refine And.intro (PlanOK.mk (by kernel_rfl) rfl (by kernel_rfl) (by kernel_rfl)) ?_)
            | (refine And.intro rfl (Exists.intro _ (And.intro (by first | assumption | rfl) ?_)))
            | (refine And.intro ⟨rfl, rfl, rfl⟩ ?_)
            | (refine call_ro [] (tick_last n 1 ls c1 (by omega)) GG_no rfl rfl rfl trivial ?_; rintro r bs' ext ⟨rfl, rfl⟩)
            | (refine call_ro [] (rtick_last n ls c2) GG_no rfl rfl rfl trivial ?_; rintro r bs' ext ⟨rfl, rfl⟩)
            | (refine call_ro [] (same_w false false 0 0 0 0 [] [] _ _ (by decide) (by decide) true (by decide)) GG_no rfl rfl rfl trivial ?_; rintro r bs' ext ⟨rfl, rfl⟩)
            | (refine BB.mk (fun _h => ?_) (fun _h => ?_) <;> (first | (exact absurd _h (by decide)) | (exfalso; simp only [boolSet] at _h <;> omega) | (simp only [boolSet] at _h) | skip))
            | (refine And.intro (by omega) ?_)
            | (refine BB.mk (fun _h => ?_) (fun _h => ?_) <;> (first | (exact absurd _h (by decide)) | (exfalso; simp only [boolSet] at _h <;> omega) | skip)))
          all_goals (try conv => whnf)
          exact ⟨⟨k + 1, false, 0, 0, [], 0, 0⟩, ⟨by dsimp only; omega, .inr ⟨rfl, rfl⟩⟩, by dsimp only; omega, (Ref.pass ⟨⟨[0, 1, 2], by decide, GG_no, rfl, SubOld.refl _ rfl, ⟨rfl, rfl, rfl, trivial⟩, ⟨.inl rfl, .inl rfl, .inl rfl, .inl rfl, .inl rfl, .inl rfl, .inl rfl, .inl rfl, .inl rfl, .inl (num_eq (by rw [IntKind.wrap_u16]; dsimp only; omega)), trivial⟩⟩, rfl⟩)⟩
        · skip
          repeat' ((try conv => whnf); first
            | (with_reducible refine OKv.go (C := seat) seat_ok ?_)
            | (with_reducible refine BB_true ?_)
            | (with_reducible refine BB_false ?_)
            | (with_reducible refine Both.mk ?_ ?_)
            | (with_reducible refine VS.mk ?_)
            | (refine PSem.go (C := seat) seat_ok ?_)
            | (refine And.intro (PlanOK.mk (by kernel_rfl) rfl (by kernel_rfl) (by kernel_rfl)) ?_)
            | (refine And.intro rfl (Exists.intro _ (And.intro (by first | assumption | rfl) ?_)))
            | (refine And.intro ⟨rfl, rfl, rfl⟩ ?_)
            | (refine call_ro [] (tick_on n ff (by omega) (ff - 1) rfl ls c1 (by omega) hgf) GG_no rfl rfl rfl trivial ?_; rintro r bs' ext ⟨⟨cc, hcc, rfl⟩, rfl⟩)
            | (refine call_ro [] (rtick_on n ff (by omega) (ff - 1) rfl ls c2) GG_no rfl rfl rfl trivial ?_; rintro r bs' ext ⟨rfl, rfl⟩)
            | (refine call_ro [] (same_w true true n _ n _ ls ls _ _ (by omega) hgf true (by simp)) GG_no rfl rfl rfl trivial ?_; rintro r bs' ext ⟨rfl, rfl⟩)
            | (refine BB.mk (fun _h => ?_) (fun _h => ?_) <;> (first | (exact absurd _h (by decide)) | (exfalso; simp only [boolSet] at _h <;> omega) | (simp only [boolSet] at _h) | skip))
            | (refine And.intro (by omega) ?_)
            | (refine BB.mk (fun _h => ?_) (fun _h => ?_) <;> (first | (exact absurd _h (by decide)) | (exfalso; simp only [boolSet] at _h <;> omega) | skip)))
          all_goals (try conv => whnf)
          exact ⟨⟨k + 1, true, n, (ff - 1), ls, cc, c2⟩, ⟨by dsimp only; omega, .inl ⟨rfl, by dsimp only; omega, by dsimp only; omega, rfl⟩⟩, by dsimp only; omega, (Ref.pass ⟨⟨[0, 1, 2], by decide, GG_no, rfl, SubOld.refl _ rfl, ⟨rfl, rfl, rfl, trivial⟩, ⟨.inl rfl, .inl rfl, .inl rfl, .inl rfl, .inl rfl, .inl rfl, .inl rfl, .inl rfl, .inl rfl, .inl (num_eq (by rw [IntKind.wrap_u16]; dsimp only; omega)), trivial⟩⟩, rfl⟩)⟩
      · skip
        repeat' ((try conv => whnf); first
          | (with_reducible refine OKv.go (C := seat) seat_ok ?_)
          | (with_reducible refine BB_true ?_)
          | (with_reducible refine BB_false ?_)
          | (with_reducible refine Both.mk ?_ ?_)
          | (with_reducible refine VS.mk ?_)
          | (refine PSem.go (C := seat) seat_ok ?_)
          | (refine And.intro (PlanOK.mk (by kernel_rfl) rfl (by kernel_rfl) (by kernel_rfl)) ?_)
          | (refine And.intro rfl (Exists.intro _ (And.intro (by first | assumption | rfl) ?_)))
          | (refine And.intro ⟨rfl, rfl, rfl⟩ ?_)
          | (refine call_ro [] (tick_dead n ff [] c1) GG_no rfl rfl rfl trivial ?_; rintro r bs' ext ⟨rfl, rfl⟩)
          | (refine call_ro [] (rtick_dead n ff [] c2) GG_no rfl rfl rfl trivial ?_; rintro r bs' ext ⟨rfl, rfl⟩)
          | (refine call_ro [] (same_w false false 0 0 0 0 [] [] _ _ (by decide) (by decide) true (by decide)) GG_no rfl rfl rfl trivial ?_; rintro r bs' ext ⟨rfl, rfl⟩)
          | (refine BB.mk (fun _h => ?_) (fun _h => ?_) <;> (first | (exact absurd _h (by decide)) | (exfalso; simp only [boolSet] at _h <;> omega) | (simp only [boolSet] at _h) | skip))
          | (refine And.intro (by omega) ?_)
          | (refine BB.mk (fun _h => ?_) (fun _h => ?_) <;> (first | (exact absurd _h (by decide)) | (exfalso; simp only [boolSet] at _h <;> omega) | skip)))
        all_goals (try conv => whnf)
        exact ⟨⟨k + 1, false, 0, 0, [], 0, 0⟩, ⟨by dsimp only; omega, .inr ⟨rfl, rfl⟩⟩, by dsimp only; omega, (Ref.pass ⟨⟨[0, 1, 2], by decide, GG_no, rfl, SubOld.refl _ rfl, ⟨rfl, rfl, rfl, trivial⟩, ⟨.inl rfl, .inl rfl, .inl rfl, .inl rfl, .inl rfl, .inl rfl, .inl rfl, .inl rfl, .inl rfl, .inl (num_eq (by rw [IntKind.wrap_u16]; dsimp only; omega)), trivial⟩⟩, rfl⟩)⟩
    · obtain rfl : k = T := by omega
      rcases H with ⟨rfl, hf1, hf2, rfl⟩ | ⟨rfl, rfl⟩
      · by_cases hnf : n = frm
        · subst hnf
          repeat' ((try conv => whnf); first
            | (with_reducible refine OKv.go (C := seat) seat_ok ?_)
            | (with_reducible refine BB_true ?_)
            | (with_reducible refine BB_false ?_)
            | (with_reducible refine Both.mk ?_ ?_)
            | (with_reducible refine VS.mk ?_)
            | (refine PSem.go (C := seat) seat_ok ?_)
            | (refine And.intro (PlanOK.mk (by kernel_rfl) rfl (by kernel_rfl) (by kernel_rfl)) ?_)
            | (refine And.intro rfl (Exists.intro _ (And.intro (by first | assumption | rfl) ?_)))
            | (refine And.intro ⟨rfl, rfl, rfl⟩ ?_)
            | (refine call_ro [] (answer_yes n ff ls c1 (by omega) hgf) GG_no rfl rfl rfl trivial ?_; rintro r bs' ext ⟨⟨cc, hcc, rfl⟩, rfl⟩)
            | (refine call_ro [] (ranswer_yes n ff ls c2) GG_no rfl rfl rfl trivial ?_; rintro r bs' ext ⟨rfl, rfl⟩)
            | (refine call_ro [] (same_w false false 0 0 0 0 [] [] _ _ (by decide) (by decide) true (by decide)) GG_no rfl rfl rfl trivial ?_; rintro r bs' ext ⟨rfl, rfl⟩)
            | (refine call_ro [] (descs_zz ls ls _ _ (by omega) hgf true (by simp)) GG_no rfl rfl rfl trivial ?_; rintro r bs' ext ⟨rfl, rfl⟩)
            | (refine call_ro [] (view_eq l cap self _ N (by omega) (fun y hy => (hok y hy).1) v hw hv) GG_no rfl rfl rfl trivial ?_; rintro r bs' ext ⟨⟨cv, hcv, rfl⟩, rfl⟩)
            | (refine call_ro [] (anew_ok v cv (by omega) hVf) GG_no rfl rfl rfl trivial ?_; rintro r bs' ext ⟨⟨ca, hca, rfl⟩, rfl⟩)
            | (refine call_ro [] (admit_eq v cv (by omega) hV.rising hVf d cd hcd (by omega) self _ N hw hdi o ho) GG_no rfl rfl rfl trivial ?_; rintro r bs' ext ⟨⟨co, hco, rfl⟩, rfl⟩)
            | (refine call_ro [] (radmit_eq v cv (by omega) hcv hV.rising hVf hvag d cd hcd (by omega) self _ N hw hdi o ho) GG_no rfl rfl rfl trivial ?_; rintro r bs' ext ⟨⟨co2, hco2, rfl⟩, rfl⟩)
            | (refine call_ro [] (fill_eq v ls cv cg self _ N hw hV (by omega) hVf hgf (by omega) w hw2) GG_no rfl rfl rfl trivial ?_; rintro r bs' ext ⟨⟨cw, hcw, rfl⟩, rfl⟩)
            | (refine call_ro [] (rfill_eq v ls cv cg self _ N hw hcv hV (by omega) hVf hgf (by omega) w hw2) GG_no rfl rfl rfl trivial ?_; rintro r bs' ext ⟨⟨cw2, hcw2, rfl⟩, rfl⟩)
            | (refine call_ro [] (descs_zz o o _ _ (by omega) hOf true (by simp)) GG_no rfl rfl rfl trivial ?_; rintro r bs' ext ⟨rfl, rfl⟩)
            | (refine call_ro [] (descs_zz w w _ _ (by omega) hWf true (by simp)) GG_no rfl rfl rfl trivial ?_; rintro r bs' ext ⟨rfl, rfl⟩)
            | (refine call_ro [] (descs_zz v v _ _ (by omega) hVf true (by simp)) GG_no rfl rfl rfl trivial ?_; rintro r bs' ext ⟨rfl, rfl⟩)
            | (refine call_ro [] (awake_ok) GG_no rfl rfl rfl trivial ?_; rintro r bs' ext ⟨rfl, rfl⟩)
            | (refine BB.mk (fun _h => ?_) (fun _h => ?_) <;> (first | (exact absurd _h (by decide)) | (exfalso; simp only [boolSet] at _h <;> omega) | (simp only [boolSet] at _h) | skip))
            | (refine And.intro (by omega) ?_)
            | (refine BB.mk (fun _h => ?_) (fun _h => ?_) <;> (first | (exact absurd _h (by decide)) | (exfalso; simp only [boolSet] at _h <;> omega) | skip)))
          all_goals (try conv => whnf)
          all_goals exact ⟨_, _, FrzV.refl _ _, rfl, rfl, fun _ => rfl, rfl⟩
        · skip
          repeat' ((try conv => whnf); first
            | (with_reducible refine OKv.go (C := seat) seat_ok ?_)
            | (with_reducible refine BB_true ?_)
            | (with_reducible refine BB_false ?_)
            | (with_reducible refine Both.mk ?_ ?_)
            | (with_reducible refine VS.mk ?_)
            | (refine PSem.go (C := seat) seat_ok ?_)
            | (refine And.intro (PlanOK.mk (by kernel_rfl) rfl (by kernel_rfl) (by kernel_rfl)) ?_)
            | (refine And.intro rfl (Exists.intro _ (And.intro (by first | assumption | rfl) ?_)))
            | (refine And.intro ⟨rfl, rfl, rfl⟩ ?_)
            | (refine call_ro [] (answer_no true n ff frm (.inr hnf) ls c1 (by omega) hgf) GG_no rfl rfl rfl trivial ?_; rintro r bs' ext ⟨⟨cc, hcc, rfl⟩, rfl⟩)
            | (refine call_ro [] (ranswer_no true n ff frm (.inr hnf) ls c2) GG_no rfl rfl rfl trivial ?_; rintro r bs' ext ⟨rfl, rfl⟩)
            | (refine call_ro [] (same_w true true n _ n _ ls ls _ _ (by omega) hgf true (by simp)) GG_no rfl rfl rfl trivial ?_; rintro r bs' ext ⟨rfl, rfl⟩)
            | (refine call_ro [] (descs_zz [] [] _ _ (by decide) (by decide) true (by decide)) GG_no rfl rfl rfl trivial ?_; rintro r bs' ext ⟨rfl, rfl⟩)
            | (refine call_ro [] (view_eq l cap self _ N (by omega) (fun y hy => (hok y hy).1) v hw hv) GG_no rfl rfl rfl trivial ?_; rintro r bs' ext ⟨⟨cv, hcv, rfl⟩, rfl⟩)
            | (refine call_ro [] (anew_ok v cv (by omega) hVf) GG_no rfl rfl rfl trivial ?_; rintro r bs' ext ⟨⟨ca, hca, rfl⟩, rfl⟩)
            | (refine call_ro [] (admit_eq v cv (by omega) hV.rising hVf d cd hcd (by omega) self _ N hw hdi o ho) GG_no rfl rfl rfl trivial ?_; rintro r bs' ext ⟨⟨co, hco, rfl⟩, rfl⟩)
            | (refine call_ro [] (radmit_eq v cv (by omega) hcv hV.rising hVf hvag d cd hcd (by omega) self _ N hw hdi o ho) GG_no rfl rfl rfl trivial ?_; rintro r bs' ext ⟨⟨co2, hco2, rfl⟩, rfl⟩)
            | (refine call_ro [] (fill_eq v ls cv cg self _ N hw hV (by omega) hVf hgf (by omega) w hw2) GG_no rfl rfl rfl trivial ?_; rintro r bs' ext ⟨⟨cw, hcw, rfl⟩, rfl⟩)
            | (refine call_ro [] (rfill_eq v ls cv cg self _ N hw hcv hV (by omega) hVf hgf (by omega) w hw2) GG_no rfl rfl rfl trivial ?_; rintro r bs' ext ⟨⟨cw2, hcw2, rfl⟩, rfl⟩)
            | (refine call_ro [] (descs_zz o o _ _ (by omega) hOf true (by simp)) GG_no rfl rfl rfl trivial ?_; rintro r bs' ext ⟨rfl, rfl⟩)
            | (refine call_ro [] (descs_zz w w _ _ (by omega) hWf true (by simp)) GG_no rfl rfl rfl trivial ?_; rintro r bs' ext ⟨rfl, rfl⟩)
            | (refine call_ro [] (descs_zz v v _ _ (by omega) hVf true (by simp)) GG_no rfl rfl rfl trivial ?_; rintro r bs' ext ⟨rfl, rfl⟩)
            | (refine call_ro [] (awake_ok) GG_no rfl rfl rfl trivial ?_; rintro r bs' ext ⟨rfl, rfl⟩)
            | (refine BB.mk (fun _h => ?_) (fun _h => ?_) <;> (first | (exact absurd _h (by decide)) | (exfalso; simp only [boolSet] at _h <;> omega) | (simp only [boolSet] at _h) | skip))
            | (refine And.intro (by omega) ?_)
            | (refine BB.mk (fun _h => ?_) (fun _h => ?_) <;> (first | (exact absurd _h (by decide)) | (exfalso; simp only [boolSet] at _h <;> omega) | skip)))
          all_goals (try conv => whnf)
          all_goals exact ⟨_, _, FrzV.refl _ _, rfl, rfl, fun _ => rfl, rfl⟩
      · skip
        repeat' ((try conv => whnf); first
          | (with_reducible refine OKv.go (C := seat) seat_ok ?_)
          | (with_reducible refine BB_true ?_)
          | (with_reducible refine BB_false ?_)
          | (with_reducible refine Both.mk ?_ ?_)
          | (with_reducible refine VS.mk ?_)
          | (refine PSem.go (C := seat) seat_ok ?_)
          | (refine And.intro (PlanOK.mk (by kernel_rfl) rfl (by kernel_rfl) (by kernel_rfl)) ?_)
          | (refine And.intro rfl (Exists.intro _ (And.intro (by first | assumption | rfl) ?_)))
          | (refine And.intro ⟨rfl, rfl, rfl⟩ ?_)
          | (refine call_ro [] (answer_no false n ff frm (.inl rfl) [] c1 (by decide) (by decide)) GG_no rfl rfl rfl trivial ?_; rintro r bs' ext ⟨⟨cc, hcc, rfl⟩, rfl⟩)
          | (refine call_ro [] (ranswer_no false n ff frm (.inl rfl) [] c2) GG_no rfl rfl rfl trivial ?_; rintro r bs' ext ⟨rfl, rfl⟩)
          | (refine call_ro [] (same_w false false n ff n ff [] [] _ _ (by decide) (by decide) true (by simp)) GG_no rfl rfl rfl trivial ?_; rintro r bs' ext ⟨rfl, rfl⟩)
          | (refine call_ro [] (descs_zz [] [] _ _ (by decide) (by decide) true (by decide)) GG_no rfl rfl rfl trivial ?_; rintro r bs' ext ⟨rfl, rfl⟩)
          | (refine call_ro [] (view_eq l cap self _ N (by omega) (fun y hy => (hok y hy).1) v hw hv) GG_no rfl rfl rfl trivial ?_; rintro r bs' ext ⟨⟨cv, hcv, rfl⟩, rfl⟩)
          | (refine call_ro [] (anew_ok v cv (by omega) hVf) GG_no rfl rfl rfl trivial ?_; rintro r bs' ext ⟨⟨ca, hca, rfl⟩, rfl⟩)
          | (refine call_ro [] (admit_eq v cv (by omega) hV.rising hVf d cd hcd (by omega) self _ N hw hdi o ho) GG_no rfl rfl rfl trivial ?_; rintro r bs' ext ⟨⟨co, hco, rfl⟩, rfl⟩)
          | (refine call_ro [] (radmit_eq v cv (by omega) hcv hV.rising hVf hvag d cd hcd (by omega) self _ N hw hdi o ho) GG_no rfl rfl rfl trivial ?_; rintro r bs' ext ⟨⟨co2, hco2, rfl⟩, rfl⟩)
          | (refine call_ro [] (fill_eq v got cv cg self _ N hw hV (by omega) hVf hgf (by omega) w hw2) GG_no rfl rfl rfl trivial ?_; rintro r bs' ext ⟨⟨cw, hcw, rfl⟩, rfl⟩)
          | (refine call_ro [] (rfill_eq v got cv cg self _ N hw hcv hV (by omega) hVf hgf (by omega) w hw2) GG_no rfl rfl rfl trivial ?_; rintro r bs' ext ⟨⟨cw2, hcw2, rfl⟩, rfl⟩)
          | (refine call_ro [] (descs_zz o o _ _ (by omega) hOf true (by simp)) GG_no rfl rfl rfl trivial ?_; rintro r bs' ext ⟨rfl, rfl⟩)
          | (refine call_ro [] (descs_zz w w _ _ (by omega) hWf true (by simp)) GG_no rfl rfl rfl trivial ?_; rintro r bs' ext ⟨rfl, rfl⟩)
          | (refine call_ro [] (descs_zz v v _ _ (by omega) hVf true (by simp)) GG_no rfl rfl rfl trivial ?_; rintro r bs' ext ⟨rfl, rfl⟩)
          | (refine call_ro [] (awake_ok) GG_no rfl rfl rfl trivial ?_; rintro r bs' ext ⟨rfl, rfl⟩)
          | (refine BB.mk (fun _h => ?_) (fun _h => ?_) <;> (first | (exact absurd _h (by decide)) | (exfalso; simp only [boolSet] at _h <;> omega) | (simp only [boolSet] at _h) | skip))
          | (refine And.intro (by omega) ?_)
          | (refine BB.mk (fun _h => ?_) (fun _h => ?_) <;> (first | (exact absurd _h (by decide)) | (exfalso; simp only [boolSet] at _h <;> omega) | skip)))
        all_goals (try conv => whnf)
        all_goals exact ⟨_, _, FrzV.refl _ _, rfl, rfl, fun _ => rfl, rfl⟩
  | false =>
    refine FnOK.pure GG_no rfl (fn_intro (C := seat) seat_ok [(10, (.of [(0, .take), (1, .take), (2, .do_), (3, .last)])), (21, (.of [(0, .take), (1, .take), (2, .take), (3, .take), (5, .take), (6, .take), (7, .take), (8, .take), (4, .do_), (9, .do_), (10, .do_), (11, .take), (12, .take), (13, .take), (14, .take), (15, .take), (17, .take), (18, .take), (19, .take), (20, .take), (16, .do_), (21, .do_), (22, .do_), (23, .take), (24, .take), (25, .take), (26, .take), (27, .do_), (28, .take), (29, .take), (30, .do_), (31, .take), (32, .take)]))] GG_no (Try.func3) rfl rfl rfl rfl rfl ?_)
    repeat' ((try conv => whnf); first
      | (with_reducible refine OKv.go (C := seat) seat_ok ?_)
      | (with_reducible refine BB_true ?_)
      | (with_reducible refine BB_false ?_)
      | (with_reducible refine Both.mk ?_ ?_)
      | (with_reducible refine VS.mk ?_)
      | (refine PSem.go (C := seat) seat_ok ?_)
      | (refine And.intro (PlanOK.mk (by kernel_rfl) rfl (by kernel_rfl) (by kernel_rfl)) ?_)
      | (refine And.intro rfl (Exists.intro _ (And.intro (by first | assumption | rfl) ?_)))
      | (refine And.intro ⟨rfl, rfl, rfl⟩ ?_)
      | (refine call_ro [] (few_zz l cap _ hl hfew) GG_no rfl rfl rfl trivial ?_; rintro r bs' ext ⟨rfl, rfl⟩)
      | (refine call_ro [] (few_zz got cg _ hgl hfew2) GG_no rfl rfl rfl trivial ?_; rintro r bs' ext ⟨rfl, rfl⟩)
      | (refine call_ro [] (start_ok node left got cg (by omega) hgf M hM) GG_no rfl rfl rfl trivial ?_; rintro r bs' ext ⟨⟨c', hc', rfl⟩, rfl⟩)
      | (refine call_ro [] (rstart_ok node left got cg hlf.1 M hM) GG_no rfl rfl rfl trivial ?_; rintro r bs' ext ⟨rfl, rfl⟩)
      | (refine BB.mk (fun _h => ?_) (fun _h => ?_) <;> (first | (exact absurd _h (by decide)) | (exfalso; simp only [boolSet] at _h <;> omega) | (simp only [boolSet] at _h) | skip))
      | (refine And.intro (by omega) ?_)
      | (refine BB.mk (fun _h => ?_) (fun _h => ?_) <;> (first | (exact absurd _h (by decide)) | (exfalso; simp only [boolSet] at _h <;> omega) | skip)))
    all_goals (try conv => whnf)
    refine loop_ruleP (α := Wp) (fun p => TInv T got p) (fun p => { slots := [(2, .v (.int .u8 frm)), (5, .z 4 (l.map deC) cap), (6, .z 4 (got.map deC) cg), (8, .v (.int .u8 self)), (9, .v (.int .u8 room)), (17, .p (.n 0) 0 0 0), (21, .p (.n 1) 0 0 0), (22, .p (.n 2) 0 0 0), (66, .v (.int .u16 (T : Int))), (67, .v (.int .u16 (p.k : Int)))], nt := 168, mem := ⟨GG, [], [.box 27 [.v (.int .u8 d.node), .v (.int .u16 d.inc), .v (.int .u8 d.age), .z 2 (d.fl.map spC) cd], .box 31 [.v (.bool p.s), .v (.int .u8 p.n), .v (.int .u8 p.f), .z 4 (p.l.map deC) p.c1], .box 31 [.v (.bool p.s), .v (.int .u8 p.n), .v (.int .u8 p.f), .z 4 (p.l.map deC) p.c2]]⟩ }) (fun p => T - p.k) ⟨0, false, 0, 0, [], 0, 0⟩ ⟨Nat.zero_le _, .inr ⟨rfl, rfl⟩⟩ (Pass.trans (pass_box 1 3 rfl rfl (frz_nil _ 4) rfl rfl) (Pass.trans (pass_box 2 3 rfl rfl (frz_nil _ 4) rfl rfl) (Ref.pass ?hs))) ?_ (fun _ => rfl)
    case hs => exact ⟨⟨[0, 1, 2], by decide, GG_no, rfl, SubOld.refl _ rfl, ⟨rfl, rfl, rfl, trivial⟩, ⟨.inl rfl, .inl rfl, .inl rfl, .inl rfl, .inl rfl, .inl rfl, .inl rfl, .inl rfl, .inl (num_eq hT), .inl rfl, trivial⟩⟩, rfl⟩
    rintro ⟨k, s, n, ff, ls, c1, c2⟩ ⟨hk, H⟩
    dsimp only at hk H ⊢
    refine vc_sound (C := seat) seat_ok (pl := [(10, (.of [(0, .take), (1, .take), (2, .do_), (3, .last)])), (21, (.of [(0, .take), (1, .take), (2, .take), (3, .take), (5, .take), (6, .take), (7, .take), (8, .take), (4, .do_), (9, .do_), (10, .do_), (11, .take), (12, .take), (13, .take), (14, .take), (15, .take), (17, .take), (18, .take), (19, .take), (20, .take), (16, .do_), (21, .do_), (22, .do_), (23, .take), (24, .take), (25, .take), (26, .take), (27, .do_), (28, .take), (29, .take), (30, .do_), (31, .take), (32, .take)]))]) ?_
    by_cases hlt : k < T
    · rcases H with ⟨rfl, hf1, hf2, rfl⟩ | ⟨rfl, rfl⟩
      · by_cases h1 : ff = 1
        · subst h1
          repeat' ((try conv => whnf); first
            | (with_reducible refine OKv.go (C := seat) seat_ok ?_)
            | (with_reducible refine BB_true ?_)
            | (with_reducible refine BB_false ?_)
            | (with_reducible refine Both.mk ?_ ?_)
            | (with_reducible refine VS.mk ?_)
            | (refine PSem.go (C := seat) seat_ok ?_)
            | (refine And.intro (PlanOK.mk (by kernel_rfl) rfl (by kernel_rfl) (by kernel_rfl)) ?_)
            | (refine And.intro rfl (Exists.intro _ (And.intro (by first | assumption | rfl) ?_)))
            | (refine And.intro ⟨rfl, rfl, rfl⟩ ?_)
            | (refine call_ro [] (tick_last n 1 ls c1 (by omega)) GG_no rfl rfl rfl trivial ?_; rintro r bs' ext ⟨rfl, rfl⟩)
            | (refine call_ro [] (rtick_last n ls c2) GG_no rfl rfl rfl trivial ?_; rintro r bs' ext ⟨rfl, rfl⟩)
            | (refine call_ro [] (same_w false false 0 0 0 0 [] [] _ _ (by decide) (by decide) true (by decide)) GG_no rfl rfl rfl trivial ?_; rintro r bs' ext ⟨rfl, rfl⟩)
            | (refine BB.mk (fun _h => ?_) (fun _h => ?_) <;> (first | (exact absurd _h (by decide)) | (exfalso; simp only [boolSet] at _h <;> omega) | (simp only [boolSet] at _h) | skip))
            | (refine And.intro (by omega) ?_)
            | (refine BB.mk (fun _h => ?_) (fun _h => ?_) <;> (first | (exact absurd _h (by decide)) | (exfalso; simp only [boolSet] at _h <;> omega) | skip)))
          all_goals (try conv => whnf)
          exact ⟨⟨k + 1, false, 0, 0, [], 0, 0⟩, ⟨by dsimp only; omega, .inr ⟨rfl, rfl⟩⟩, by dsimp only; omega, (Ref.pass ⟨⟨[0, 1, 2], by decide, GG_no, rfl, SubOld.refl _ rfl, ⟨rfl, rfl, rfl, trivial⟩, ⟨.inl rfl, .inl rfl, .inl rfl, .inl rfl, .inl rfl, .inl rfl, .inl rfl, .inl rfl, .inl rfl, .inl (num_eq (by rw [IntKind.wrap_u16]; dsimp only; omega)), trivial⟩⟩, rfl⟩)⟩
        · skip
          repeat' ((try conv => whnf); first
            | (with_reducible refine OKv.go (C := seat) seat_ok ?_)
            | (with_reducible refine BB_true ?_)
            | (with_reducible refine BB_false ?_)
            | (with_reducible refine Both.mk ?_ ?_)
            | (with_reducible refine VS.mk ?_)
            | (refine PSem.go (C := seat) seat_ok ?_)
            | (refine And.intro (PlanOK.mk (by kernel_rfl) rfl (by kernel_rfl) (by kernel_rfl)) ?_)
            | (refine And.intro rfl (Exists.intro _ (And.intro (by first | assumption | rfl) ?_)))
            | (refine And.intro ⟨rfl, rfl, rfl⟩ ?_)
            | (refine call_ro [] (tick_on n ff (by omega) (ff - 1) rfl ls c1 (by omega) hgf) GG_no rfl rfl rfl trivial ?_; rintro r bs' ext ⟨⟨cc, hcc, rfl⟩, rfl⟩)
            | (refine call_ro [] (rtick_on n ff (by omega) (ff - 1) rfl ls c2) GG_no rfl rfl rfl trivial ?_; rintro r bs' ext ⟨rfl, rfl⟩)
            | (refine call_ro [] (same_w true true n _ n _ ls ls _ _ (by omega) hgf true (by simp)) GG_no rfl rfl rfl trivial ?_; rintro r bs' ext ⟨rfl, rfl⟩)
            | (refine BB.mk (fun _h => ?_) (fun _h => ?_) <;> (first | (exact absurd _h (by decide)) | (exfalso; simp only [boolSet] at _h <;> omega) | (simp only [boolSet] at _h) | skip))
            | (refine And.intro (by omega) ?_)
            | (refine BB.mk (fun _h => ?_) (fun _h => ?_) <;> (first | (exact absurd _h (by decide)) | (exfalso; simp only [boolSet] at _h <;> omega) | skip)))
          all_goals (try conv => whnf)
          exact ⟨⟨k + 1, true, n, (ff - 1), ls, cc, c2⟩, ⟨by dsimp only; omega, .inl ⟨rfl, by dsimp only; omega, by dsimp only; omega, rfl⟩⟩, by dsimp only; omega, (Ref.pass ⟨⟨[0, 1, 2], by decide, GG_no, rfl, SubOld.refl _ rfl, ⟨rfl, rfl, rfl, trivial⟩, ⟨.inl rfl, .inl rfl, .inl rfl, .inl rfl, .inl rfl, .inl rfl, .inl rfl, .inl rfl, .inl rfl, .inl (num_eq (by rw [IntKind.wrap_u16]; dsimp only; omega)), trivial⟩⟩, rfl⟩)⟩
      · skip
        repeat' ((try conv => whnf); first
          | (with_reducible refine OKv.go (C := seat) seat_ok ?_)
          | (with_reducible refine BB_true ?_)
          | (with_reducible refine BB_false ?_)
          | (with_reducible refine Both.mk ?_ ?_)
          | (with_reducible refine VS.mk ?_)
          | (refine PSem.go (C := seat) seat_ok ?_)
          | (refine And.intro (PlanOK.mk (by kernel_rfl) rfl (by kernel_rfl) (by kernel_rfl)) ?_)
          | (refine And.intro rfl (Exists.intro _ (And.intro (by first | assumption | rfl) ?_)))
          | (refine And.intro ⟨rfl, rfl, rfl⟩ ?_)
          | (refine call_ro [] (tick_dead n ff [] c1) GG_no rfl rfl rfl trivial ?_; rintro r bs' ext ⟨rfl, rfl⟩)
          | (refine call_ro [] (rtick_dead n ff [] c2) GG_no rfl rfl rfl trivial ?_; rintro r bs' ext ⟨rfl, rfl⟩)
          | (refine call_ro [] (same_w false false 0 0 0 0 [] [] _ _ (by decide) (by decide) true (by decide)) GG_no rfl rfl rfl trivial ?_; rintro r bs' ext ⟨rfl, rfl⟩)
          | (refine BB.mk (fun _h => ?_) (fun _h => ?_) <;> (first | (exact absurd _h (by decide)) | (exfalso; simp only [boolSet] at _h <;> omega) | (simp only [boolSet] at _h) | skip))
          | (refine And.intro (by omega) ?_)
          | (refine BB.mk (fun _h => ?_) (fun _h => ?_) <;> (first | (exact absurd _h (by decide)) | (exfalso; simp only [boolSet] at _h <;> omega) | skip)))
        all_goals (try conv => whnf)
        exact ⟨⟨k + 1, false, 0, 0, [], 0, 0⟩, ⟨by dsimp only; omega, .inr ⟨rfl, rfl⟩⟩, by dsimp only; omega, (Ref.pass ⟨⟨[0, 1, 2], by decide, GG_no, rfl, SubOld.refl _ rfl, ⟨rfl, rfl, rfl, trivial⟩, ⟨.inl rfl, .inl rfl, .inl rfl, .inl rfl, .inl rfl, .inl rfl, .inl rfl, .inl rfl, .inl rfl, .inl (num_eq (by rw [IntKind.wrap_u16]; dsimp only; omega)), trivial⟩⟩, rfl⟩)⟩
    · obtain rfl : k = T := by omega
      rcases H with ⟨rfl, hf1, hf2, rfl⟩ | ⟨rfl, rfl⟩
      · by_cases hnf : n = frm
        · subst hnf
          repeat' ((try conv => whnf); first
            | (with_reducible refine OKv.go (C := seat) seat_ok ?_)
            | (with_reducible refine BB_true ?_)
            | (with_reducible refine BB_false ?_)
            | (with_reducible refine Both.mk ?_ ?_)
            | (with_reducible refine VS.mk ?_)
            | (refine PSem.go (C := seat) seat_ok ?_)
            | (refine And.intro (PlanOK.mk (by kernel_rfl) rfl (by kernel_rfl) (by kernel_rfl)) ?_)
            | (refine And.intro rfl (Exists.intro _ (And.intro (by first | assumption | rfl) ?_)))
            | (refine And.intro ⟨rfl, rfl, rfl⟩ ?_)
            | (refine call_ro [] (answer_yes n ff ls c1 (by omega) hgf) GG_no rfl rfl rfl trivial ?_; rintro r bs' ext ⟨⟨cc, hcc, rfl⟩, rfl⟩)
            | (refine call_ro [] (ranswer_yes n ff ls c2) GG_no rfl rfl rfl trivial ?_; rintro r bs' ext ⟨rfl, rfl⟩)
            | (refine call_ro [] (same_w false false 0 0 0 0 [] [] _ _ (by decide) (by decide) true (by decide)) GG_no rfl rfl rfl trivial ?_; rintro r bs' ext ⟨rfl, rfl⟩)
            | (refine call_ro [] (descs_zz ls ls _ _ (by omega) hgf true (by simp)) GG_no rfl rfl rfl trivial ?_; rintro r bs' ext ⟨rfl, rfl⟩)
            | (refine call_ro [] (view_eq l cap self _ N (by omega) (fun y hy => (hok y hy).1) v hw hv) GG_no rfl rfl rfl trivial ?_; rintro r bs' ext ⟨⟨cv, hcv, rfl⟩, rfl⟩)
            | (refine call_ro [] (anew_ok v cv (by omega) hVf) GG_no rfl rfl rfl trivial ?_; rintro r bs' ext ⟨⟨ca, hca, rfl⟩, rfl⟩)
            | (refine call_ro [] (admit_eq v cv (by omega) hV.rising hVf d cd hcd (by omega) self _ N hw hdi o ho) GG_no rfl rfl rfl trivial ?_; rintro r bs' ext ⟨⟨co, hco, rfl⟩, rfl⟩)
            | (refine call_ro [] (radmit_eq v cv (by omega) hcv hV.rising hVf hvag d cd hcd (by omega) self _ N hw hdi o ho) GG_no rfl rfl rfl trivial ?_; rintro r bs' ext ⟨⟨co2, hco2, rfl⟩, rfl⟩)
            | (refine call_ro [] (fill_eq v ls cv cg self _ N hw hV (by omega) hVf hgf (by omega) w hw2) GG_no rfl rfl rfl trivial ?_; rintro r bs' ext ⟨⟨cw, hcw, rfl⟩, rfl⟩)
            | (refine call_ro [] (rfill_eq v ls cv cg self _ N hw hcv hV (by omega) hVf hgf (by omega) w hw2) GG_no rfl rfl rfl trivial ?_; rintro r bs' ext ⟨⟨cw2, hcw2, rfl⟩, rfl⟩)
            | (refine call_ro [] (descs_zz o o _ _ (by omega) hOf true (by simp)) GG_no rfl rfl rfl trivial ?_; rintro r bs' ext ⟨rfl, rfl⟩)
            | (refine call_ro [] (descs_zz w w _ _ (by omega) hWf true (by simp)) GG_no rfl rfl rfl trivial ?_; rintro r bs' ext ⟨rfl, rfl⟩)
            | (refine call_ro [] (descs_zz v v _ _ (by omega) hVf true (by simp)) GG_no rfl rfl rfl trivial ?_; rintro r bs' ext ⟨rfl, rfl⟩)
            | (refine call_ro [] (awake_ok) GG_no rfl rfl rfl trivial ?_; rintro r bs' ext ⟨rfl, rfl⟩)
            | (refine BB.mk (fun _h => ?_) (fun _h => ?_) <;> (first | (exact absurd _h (by decide)) | (exfalso; simp only [boolSet] at _h <;> omega) | (simp only [boolSet] at _h) | skip))
            | (refine And.intro (by omega) ?_)
            | (refine BB.mk (fun _h => ?_) (fun _h => ?_) <;> (first | (exact absurd _h (by decide)) | (exfalso; simp only [boolSet] at _h <;> omega) | skip)))
          all_goals (try conv => whnf)
          all_goals exact ⟨_, _, FrzV.refl _ _, rfl, rfl, fun _ => rfl, rfl⟩
        · skip
          repeat' ((try conv => whnf); first
            | (with_reducible refine OKv.go (C := seat) seat_ok ?_)
            | (with_reducible refine BB_true ?_)
            | (with_reducible refine BB_false ?_)
            | (with_reducible refine Both.mk ?_ ?_)
            | (with_reducible refine VS.mk ?_)
            | (refine PSem.go (C := seat) seat_ok ?_)
            | (refine And.intro (PlanOK.mk (by kernel_rfl) rfl (by kernel_rfl) (by kernel_rfl)) ?_)
            | (refine And.intro rfl (Exists.intro _ (And.intro (by first | assumption | rfl) ?_)))
            | (refine And.intro ⟨rfl, rfl, rfl⟩ ?_)
            | (refine call_ro [] (answer_no true n ff frm (.inr hnf) ls c1 (by omega) hgf) GG_no rfl rfl rfl trivial ?_; rintro r bs' ext ⟨⟨cc, hcc, rfl⟩, rfl⟩)
            | (refine call_ro [] (ranswer_no true n ff frm (.inr hnf) ls c2) GG_no rfl rfl rfl trivial ?_; rintro r bs' ext ⟨rfl, rfl⟩)
            | (refine call_ro [] (same_w true true n _ n _ ls ls _ _ (by omega) hgf true (by simp)) GG_no rfl rfl rfl trivial ?_; rintro r bs' ext ⟨rfl, rfl⟩)
            | (refine call_ro [] (descs_zz [] [] _ _ (by decide) (by decide) true (by decide)) GG_no rfl rfl rfl trivial ?_; rintro r bs' ext ⟨rfl, rfl⟩)
            | (refine call_ro [] (view_eq l cap self _ N (by omega) (fun y hy => (hok y hy).1) v hw hv) GG_no rfl rfl rfl trivial ?_; rintro r bs' ext ⟨⟨cv, hcv, rfl⟩, rfl⟩)
            | (refine call_ro [] (anew_ok v cv (by omega) hVf) GG_no rfl rfl rfl trivial ?_; rintro r bs' ext ⟨⟨ca, hca, rfl⟩, rfl⟩)
            | (refine call_ro [] (admit_eq v cv (by omega) hV.rising hVf d cd hcd (by omega) self _ N hw hdi o ho) GG_no rfl rfl rfl trivial ?_; rintro r bs' ext ⟨⟨co, hco, rfl⟩, rfl⟩)
            | (refine call_ro [] (radmit_eq v cv (by omega) hcv hV.rising hVf hvag d cd hcd (by omega) self _ N hw hdi o ho) GG_no rfl rfl rfl trivial ?_; rintro r bs' ext ⟨⟨co2, hco2, rfl⟩, rfl⟩)
            | (refine call_ro [] (fill_eq v ls cv cg self _ N hw hV (by omega) hVf hgf (by omega) w hw2) GG_no rfl rfl rfl trivial ?_; rintro r bs' ext ⟨⟨cw, hcw, rfl⟩, rfl⟩)
            | (refine call_ro [] (rfill_eq v ls cv cg self _ N hw hcv hV (by omega) hVf hgf (by omega) w hw2) GG_no rfl rfl rfl trivial ?_; rintro r bs' ext ⟨⟨cw2, hcw2, rfl⟩, rfl⟩)
            | (refine call_ro [] (descs_zz o o _ _ (by omega) hOf true (by simp)) GG_no rfl rfl rfl trivial ?_; rintro r bs' ext ⟨rfl, rfl⟩)
            | (refine call_ro [] (descs_zz w w _ _ (by omega) hWf true (by simp)) GG_no rfl rfl rfl trivial ?_; rintro r bs' ext ⟨rfl, rfl⟩)
            | (refine call_ro [] (descs_zz v v _ _ (by omega) hVf true (by simp)) GG_no rfl rfl rfl trivial ?_; rintro r bs' ext ⟨rfl, rfl⟩)
            | (refine call_ro [] (awake_ok) GG_no rfl rfl rfl trivial ?_; rintro r bs' ext ⟨rfl, rfl⟩)
            | (refine BB.mk (fun _h => ?_) (fun _h => ?_) <;> (first | (exact absurd _h (by decide)) | (exfalso; simp only [boolSet] at _h <;> omega) | (simp only [boolSet] at _h) | skip))
            | (refine And.intro (by omega) ?_)
            | (refine BB.mk (fun _h => ?_) (fun _h => ?_) <;> (first | (exact absurd _h (by decide)) | (exfalso; simp only [boolSet] at _h <;> omega) | skip)))
          all_goals (try conv => whnf)
          all_goals exact ⟨_, _, FrzV.refl _ _, rfl, rfl, fun _ => rfl, rfl⟩
      · skip
        repeat' ((try conv => whnf); first
          | (with_reducible refine OKv.go (C := seat) seat_ok ?_)
          | (with_reducible refine BB_true ?_)
          | (with_reducible refine BB_false ?_)
          | (with_reducible refine Both.mk ?_ ?_)
          | (with_reducible refine VS.mk ?_)
          | (refine PSem.go (C := seat) seat_ok ?_)
          | (refine And.intro (PlanOK.mk (by kernel_rfl) rfl (by kernel_rfl) (by kernel_rfl)) ?_)
          | (refine And.intro rfl (Exists.intro _ (And.intro (by first | assumption | rfl) ?_)))
          | (refine And.intro ⟨rfl, rfl, rfl⟩ ?_)
          | (refine call_ro [] (answer_no false n ff frm (.inl rfl) [] c1 (by decide) (by decide)) GG_no rfl rfl rfl trivial ?_; rintro r bs' ext ⟨⟨cc, hcc, rfl⟩, rfl⟩)
          | (refine call_ro [] (ranswer_no false n ff frm (.inl rfl) [] c2) GG_no rfl rfl rfl trivial ?_; rintro r bs' ext ⟨rfl, rfl⟩)
          | (refine call_ro [] (same_w false false n ff n ff [] [] _ _ (by decide) (by decide) true (by simp)) GG_no rfl rfl rfl trivial ?_; rintro r bs' ext ⟨rfl, rfl⟩)
          | (refine call_ro [] (descs_zz [] [] _ _ (by decide) (by decide) true (by decide)) GG_no rfl rfl rfl trivial ?_; rintro r bs' ext ⟨rfl, rfl⟩)
          | (refine call_ro [] (view_eq l cap self _ N (by omega) (fun y hy => (hok y hy).1) v hw hv) GG_no rfl rfl rfl trivial ?_; rintro r bs' ext ⟨⟨cv, hcv, rfl⟩, rfl⟩)
          | (refine call_ro [] (anew_ok v cv (by omega) hVf) GG_no rfl rfl rfl trivial ?_; rintro r bs' ext ⟨⟨ca, hca, rfl⟩, rfl⟩)
          | (refine call_ro [] (admit_eq v cv (by omega) hV.rising hVf d cd hcd (by omega) self _ N hw hdi o ho) GG_no rfl rfl rfl trivial ?_; rintro r bs' ext ⟨⟨co, hco, rfl⟩, rfl⟩)
          | (refine call_ro [] (radmit_eq v cv (by omega) hcv hV.rising hVf hvag d cd hcd (by omega) self _ N hw hdi o ho) GG_no rfl rfl rfl trivial ?_; rintro r bs' ext ⟨⟨co2, hco2, rfl⟩, rfl⟩)
          | (refine call_ro [] (fill_eq v got cv cg self _ N hw hV (by omega) hVf hgf (by omega) w hw2) GG_no rfl rfl rfl trivial ?_; rintro r bs' ext ⟨⟨cw, hcw, rfl⟩, rfl⟩)
          | (refine call_ro [] (rfill_eq v got cv cg self _ N hw hcv hV (by omega) hVf hgf (by omega) w hw2) GG_no rfl rfl rfl trivial ?_; rintro r bs' ext ⟨⟨cw2, hcw2, rfl⟩, rfl⟩)
          | (refine call_ro [] (descs_zz o o _ _ (by omega) hOf true (by simp)) GG_no rfl rfl rfl trivial ?_; rintro r bs' ext ⟨rfl, rfl⟩)
          | (refine call_ro [] (descs_zz w w _ _ (by omega) hWf true (by simp)) GG_no rfl rfl rfl trivial ?_; rintro r bs' ext ⟨rfl, rfl⟩)
          | (refine call_ro [] (descs_zz v v _ _ (by omega) hVf true (by simp)) GG_no rfl rfl rfl trivial ?_; rintro r bs' ext ⟨rfl, rfl⟩)
          | (refine call_ro [] (awake_ok) GG_no rfl rfl rfl trivial ?_; rintro r bs' ext ⟨rfl, rfl⟩)
          | (refine BB.mk (fun _h => ?_) (fun _h => ?_) <;> (first | (exact absurd _h (by decide)) | (exfalso; simp only [boolSet] at _h <;> omega) | (simp only [boolSet] at _h) | skip))
          | (refine And.intro (by omega) ?_)
          | (refine BB.mk (fun _h => ?_) (fun _h => ?_) <;> (first | (exact absurd _h (by decide)) | (exfalso; simp only [boolSet] at _h <;> omega) | skip)))
        all_goals (try conv => whnf)
        all_goals exact ⟨_, _, FrzV.refl _ _, rfl, rfl, fun _ => rfl, rfl⟩
theorem sampleTells_ok (node left frm : Int) (some_ : Bool) (ticks : Int) (l got : List De) (cap cg : Nat) (d : De) (cd : Nat) (self room : Int) (hl : l.length ≤ 9223372036854775807) (hgl : got.length ≤ 9223372036854775807) (hok : ∀ y ∈ l, DeOk y) (hgok : ∀ y ∈ got, DeOk y) (hd : DeOk d) (hcd : d.fl.length ≤ cd) (hcm : cd ≤ 9223372036854775807) (hlf : 0 ≤ left ∧ left ≤ 255) (htk : 0 ≤ ticks ∧ ticks ≤ 65535) (hcg : got.length ≤ cg) (hrm : 0 ≤ room ∧ room ≤ 255) : FnOK Try.prog GG 3 [] [.v (.int .u8 node), .v (.int .u8 left), .v (.int .u8 frm), .v (.bool some_), .v (.int .u16 ticks), .z 4 (l.map deC) cap, .z 4 (got.map deC) cg, deS d cd, .v (.int .u8 self), .v (.int .u8 room)] (fun r _ ext => r = .v (.bool true) ∧ ext = []) := by
  cases hfew : (l.all (fun d => decide (d.fl.length ≤ 8)) && decide (l.length ≤ 20)) with
  | false => exact tFew1 node left frm some_ ticks l got cap cg d cd self room hl hgl hok hgok hd hcd hcm hlf htk hcg hrm hfew
  | true =>
    cases hfew2 : (got.all (fun d => decide (d.fl.length ≤ 8)) && decide (got.length ≤ 20)) with
    | false => exact tFew2 node left frm some_ ticks l got cap cg d cd self room hl hgl hok hgok hd hcd hcm hlf htk hcg hrm hfew hfew2
    | true =>
      by_cases h8 : d.fl.length ≤ 8
      · exact tGood node left frm some_ ticks l got cap cg d cd self room hl hgl hok hgok hd hcd hcm hlf htk hcg hrm hfew hfew2 h8
      · exact tFew3 node left frm some_ ticks l got cap cg d cd self room hl hgl hok hgok hd hcd hcm hlf htk hcg hrm hfew hfew2 (by omega)
end Go.Proofs.Ytjghbfbifkhloaa
