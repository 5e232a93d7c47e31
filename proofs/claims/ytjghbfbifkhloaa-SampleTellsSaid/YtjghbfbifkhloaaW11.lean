/- Stage 11: how long one is waited for. -/
import Derived.Test.YtjghbfbifkhloaaDZ
import Derived.Test.YtjghbfbifkhloaaTy11
namespace Go.Proofs.Ytjghbfbifkhloaa
open Go.RowKit

abbrev waF (s : Bool) (n f : Int) (l : List De) (c : Nat) : SV := .agg [.v (.bool s), .v (.int .u8 n), .v (.int .u8 f), .z 4 (l.map deC) c]
set_option maxRecDepth 100000 in
set_option maxHeartbeats 4000000 in
theorem wown_ok (s : Bool) (n f : Int) (l : List De) (c : Nat) (hl : l.length ≤ 1099511627776) (hf : FlOk l) : FnOK Try.prog GG 29 [] [waF s n f l c] (fun r _ ext => (∃ c', l.length ≤ c' ∧ r = waF s n f l c') ∧ ext = []) := by
  refine FnOK.pure GG_no rfl (fn_intro (C := seat) seat_ok [] GG_no (Try.func29) rfl rfl rfl rfl rfl ?_)
  repeat' ((try conv => whnf); first
    | (with_reducible refine OKv.go (C := seat) seat_ok ?_)
    | (with_reducible refine BB_true ?_)
    | (with_reducible refine BB_false ?_)
    | (with_reducible refine Both.mk ?_ ?_)
    | (with_reducible refine VS.mk ?_)
    | (refine PSem.go (C := seat) seat_ok ?_)
    | (refine And.intro (PlanOK.mk (by kernel_rfl) rfl (by kernel_rfl) (by kernel_rfl)) ?_)
    | (refine And.intro rfl (Exists.intro _ (And.intro (by first | assumption | rfl) ?_)))
    | (refine And.intro ⟨rfl, rfl, rfl⟩ ?_)
    | (refine call_ro [] (copy_zz l c hl hf) GG_no rfl rfl rfl trivial ?_; rintro r bs' ext ⟨⟨c', hc', rfl⟩, rfl⟩)
    | (refine And.intro (by omega) ?_)
    | (refine BB.mk (fun _h => ?_) (fun _h => ?_) <;> (first | (exact absurd _h (by decide)) | (exfalso; simp only [boolSet] at _h <;> omega) | skip)))
  all_goals (try conv => whnf)
  exact ⟨_, _, FrzV.refl _ _, rfl, rfl, fun _ => rfl, c', hc', rfl⟩
theorem mx_one (z : Int) : (bif true then (if (1 : Int) > z then 1 else z) else (if (1 : Int) < z then 1 else z)) = max z 1 := by
  simp only [cond_true]
  split <;> omega
theorem mx_two (z : Int) : (bif true then (if (1 : Int) > z then (1 : Int) else z) else (if (1 : Int) < z then 1 else z)) = max z 1 := mx_one z
set_option maxRecDepth 100000 in
set_option maxHeartbeats 4000000 in
theorem start_ok (n f : Int) (l : List De) (c : Nat) (hl : l.length ≤ 1099511627776) (hf : FlOk l) (M : Int) (hM : max f 1 = M) : FnOK Try.prog GG 10 [] [.v (.int .u8 n), .v (.int .u8 f), .z 4 (l.map deC) c] (fun r _ ext => (∃ c', l.length ≤ c' ∧ r = waF true n M l c') ∧ ext = []) := by
  refine FnOK.pure GG_no rfl (fn_intro (C := seat) seat_ok [] GG_no (Try.func10) rfl rfl rfl rfl rfl ?_)
  repeat' ((try conv => whnf); first
    | (with_reducible refine OKv.go (C := seat) seat_ok ?_)
    | (with_reducible refine BB_true ?_)
    | (with_reducible refine BB_false ?_)
    | (with_reducible refine Both.mk ?_ ?_)
    | (with_reducible refine VS.mk ?_)
    | (refine PSem.go (C := seat) seat_ok ?_)
    | (refine And.intro (PlanOK.mk (by kernel_rfl) rfl (by kernel_rfl) (by kernel_rfl)) ?_)
    | (refine And.intro rfl (Exists.intro _ (And.intro (by first | assumption | rfl) ?_)))
    | (refine And.intro ⟨rfl, rfl, rfl⟩ ?_)
    | (refine call_ro [] (copy_zz l c hl hf) GG_no rfl rfl rfl trivial ?_; rintro r bs' ext ⟨⟨c', hc', rfl⟩, rfl⟩)
    | (refine And.intro (by omega) ?_)
    | (refine BB.mk (fun _h => ?_) (fun _h => ?_) <;> (first | (exact absurd _h (by decide)) | (exfalso; simp only [boolSet] at _h <;> omega) | skip)))
  all_goals (try conv => whnf)
  exact ⟨_, _, FrzV.refl _ _, rfl, rfl, fun _ => rfl, c', hc', by rw [← hM, ← mx_one f]⟩
set_option maxRecDepth 100000 in
set_option maxHeartbeats 4000000 in
theorem tick_dead (n f : Int) (l : List De) (c : Nat) : FnOK Try.prog GG 12 [] [waF false n f l c] (fun r _ ext => (r = .tup [waF false 0 0 [] 0, .v (.int .u8 0), .v (.bool false)]) ∧ ext = []) := by
  refine FnOK.pure GG_no rfl (fn_intro (C := seat) seat_ok [(4, (.of [(0, .take), (1, .take), (2, .take), (3, .do_), (4, .take), (5, .take)]))] GG_no (Try.func12) rfl rfl rfl rfl rfl ?_)
  repeat' ((try conv => whnf); first
    | (with_reducible refine OKv.go (C := seat) seat_ok ?_)
    | (with_reducible refine BB_true ?_)
    | (with_reducible refine BB_false ?_)
    | (with_reducible refine Both.mk ?_ ?_)
    | (with_reducible refine VS.mk ?_)
    | (refine PSem.go (C := seat) seat_ok ?_)
    | (refine And.intro (PlanOK.mk (by kernel_rfl) rfl (by kernel_rfl) (by kernel_rfl)) ?_)
    | (refine And.intro rfl (Exists.intro _ (And.intro (by first | assumption | rfl) ?_)))
    | (refine And.intro ⟨rfl, rfl, rfl⟩ ?_)
    | (refine And.intro (by omega) ?_)
    | (refine BB.mk (fun _h => ?_) (fun _h => ?_) <;> (first | (exact absurd _h (by decide)) | (exfalso; simp only [boolSet] at _h <;> omega) | skip)))
  all_goals (try conv => whnf)
  exact ⟨_, _, frz_tup 0 rfl (frz_aggT 3 rfl (frz_nil _ 4) rfl) rfl, rfl, rfl, fun _ => rfl, rfl⟩
set_option maxRecDepth 100000 in
set_option maxHeartbeats 4000000 in
theorem tick_last (n f : Int) (l : List De) (c : Nat) (h : f ≤ 1) : FnOK Try.prog GG 12 [] [waF true n f l c] (fun r _ ext => (r = .tup [waF false 0 0 [] 0, .v (.int .u8 n), .v (.bool true)]) ∧ ext = []) := by
  refine FnOK.pure GG_no rfl (fn_intro (C := seat) seat_ok [(4, (.of [(0, .take), (1, .take), (2, .take), (3, .do_), (4, .take), (5, .take)]))] GG_no (Try.func12) rfl rfl rfl rfl rfl ?_)
  repeat' ((try conv => whnf); first
    | (with_reducible refine OKv.go (C := seat) seat_ok ?_)
    | (with_reducible refine BB_true ?_)
    | (with_reducible refine BB_false ?_)
    | (with_reducible refine Both.mk ?_ ?_)
    | (with_reducible refine VS.mk ?_)
    | (refine PSem.go (C := seat) seat_ok ?_)
    | (refine And.intro (PlanOK.mk (by kernel_rfl) rfl (by kernel_rfl) (by kernel_rfl)) ?_)
    | (refine And.intro rfl (Exists.intro _ (And.intro (by first | assumption | rfl) ?_)))
    | (refine And.intro ⟨rfl, rfl, rfl⟩ ?_)
    | (refine And.intro (by omega) ?_)
    | (refine BB.mk (fun _h => ?_) (fun _h => ?_) <;> (first | (exact absurd _h (by decide)) | (exfalso; simp only [boolSet] at _h <;> omega) | skip)))
  all_goals (try conv => whnf)
  exact ⟨_, _, frz_tup 0 rfl (frz_aggT 3 rfl (frz_nil _ 4) rfl) rfl, rfl, rfl, fun _ => rfl, rfl⟩
set_option maxRecDepth 100000 in
set_option maxHeartbeats 4000000 in
theorem tick_on (n f : Int) (h : 2 ≤ f ∧ f ≤ 255) (f' : Int) (hf' : f' = f - 1) (l : List De) (c : Nat) (hl : l.length ≤ 1099511627776) (hf : FlOk l) : FnOK Try.prog GG 12 [] [waF true n f l c] (fun r _ ext => (∃ c', l.length ≤ c' ∧ r = .tup [waF true n f' l c', .v (.int .u8 0), .v (.bool false)]) ∧ ext = []) := by
  refine FnOK.pure GG_no rfl (fn_intro (C := seat) seat_ok [(4, (.of [(0, .take), (1, .take), (2, .take), (3, .do_), (4, .take), (5, .take)]))] GG_no (Try.func12) rfl rfl rfl rfl rfl ?_)
  repeat' ((try conv => whnf); first
    | (with_reducible refine OKv.go (C := seat) seat_ok ?_)
    | (with_reducible refine BB_true ?_)
    | (with_reducible refine BB_false ?_)
    | (with_reducible refine Both.mk ?_ ?_)
    | (with_reducible refine VS.mk ?_)
    | (refine PSem.go (C := seat) seat_ok ?_)
    | (refine And.intro (PlanOK.mk (by kernel_rfl) rfl (by kernel_rfl) (by kernel_rfl)) ?_)
    | (refine And.intro rfl (Exists.intro _ (And.intro (by first | assumption | rfl) ?_)))
    | (refine And.intro ⟨rfl, rfl, rfl⟩ ?_)
    | (refine call_ro [] (wown_ok true n _ l c hl hf) GG_no rfl rfl rfl trivial ?_; rintro r bs' ext ⟨⟨c', hc', rfl⟩, rfl⟩)
    | (refine And.intro (by omega) ?_)
    | (refine BB.mk (fun _h => ?_) (fun _h => ?_) <;> (first | (exact absurd _h (by decide)) | (exfalso; simp only [boolSet] at _h <;> omega) | skip)))
  all_goals (try conv => whnf)
  exact ⟨_, _, FrzV.refl _ _, rfl, rfl, fun _ => rfl, c', hc', by rw [show f' = IntKind.u8.wrap (f - 1) by rw [IntKind.wrap_u8]; omega]⟩
set_option maxRecDepth 100000 in
set_option maxHeartbeats 4000000 in
theorem answer_no (s : Bool) (n f x : Int) (h : s = false ∨ n ≠ x) (l : List De) (c : Nat) (hl : l.length ≤ 1099511627776) (hf : FlOk l) : FnOK Try.prog GG 15 [] [waF s n f l c, .v (.int .u8 x)] (fun r _ ext => (∃ c', l.length ≤ c' ∧ r = .tup [waF s n f l c', .z 4 [] 0, .v (.bool false)]) ∧ ext = []) := by
  refine FnOK.pure GG_no rfl (fn_intro (C := seat) seat_ok [] GG_no (Try.func15) rfl rfl rfl rfl rfl ?_)
  repeat' ((try conv => whnf); first
    | (with_reducible refine OKv.go (C := seat) seat_ok ?_)
    | (with_reducible refine BB_true ?_)
    | (with_reducible refine BB_false ?_)
    | (with_reducible refine Both.mk ?_ ?_)
    | (with_reducible refine VS.mk ?_)
    | (refine PSem.go (C := seat) seat_ok ?_)
    | (refine And.intro (PlanOK.mk (by kernel_rfl) rfl (by kernel_rfl) (by kernel_rfl)) ?_)
    | (refine And.intro rfl (Exists.intro _ (And.intro (by first | assumption | rfl) ?_)))
    | (refine And.intro ⟨rfl, rfl, rfl⟩ ?_)
    | (refine call_ro [] (wown_ok s n f l c hl hf) GG_no rfl rfl rfl trivial ?_; rintro r bs' ext ⟨⟨c', hc', rfl⟩, rfl⟩)
    | (refine And.intro (by omega) ?_)
    | (refine BB.mk (fun _h => ?_) (fun _h => ?_) <;> (first | (exact absurd _h (by decide)) | (exfalso; simp only [boolSet] at _h <;> omega) | skip)))
  all_goals (try conv => whnf)
  all_goals first
    | exact ⟨_, _, frz_tup 1 rfl (frz_nil _ 4) rfl, rfl, rfl, fun _ => rfl, c', hc', rfl⟩
    | (exfalso; simp only [boolSet] at * <;> simp_all)
set_option maxRecDepth 100000 in
set_option maxHeartbeats 4000000 in
theorem answer_yes (n f : Int) (l : List De) (c : Nat) (hl : l.length ≤ 1099511627776) (hf : FlOk l) : FnOK Try.prog GG 15 [] [waF true n f l c, .v (.int .u8 n)] (fun r _ ext => (∃ c', l.length ≤ c' ∧ r = .tup [waF false 0 0 [] 0, .z 4 (l.map deC) c', .v (.bool true)]) ∧ ext = []) := by
  refine FnOK.pure GG_no rfl (fn_intro (C := seat) seat_ok [] GG_no (Try.func15) rfl rfl rfl rfl rfl ?_)
  repeat' ((try conv => whnf); first
    | (with_reducible refine OKv.go (C := seat) seat_ok ?_)
    | (with_reducible refine BB_true ?_)
    | (with_reducible refine BB_false ?_)
    | (with_reducible refine Both.mk ?_ ?_)
    | (with_reducible refine VS.mk ?_)
    | (refine PSem.go (C := seat) seat_ok ?_)
    | (refine And.intro (PlanOK.mk (by kernel_rfl) rfl (by kernel_rfl) (by kernel_rfl)) ?_)
    | (refine And.intro rfl (Exists.intro _ (And.intro (by first | assumption | rfl) ?_)))
    | (refine And.intro ⟨rfl, rfl, rfl⟩ ?_)
    | (refine call_ro [] (copy_zz l c hl hf) GG_no rfl rfl rfl trivial ?_; rintro r bs' ext ⟨⟨c', hc', rfl⟩, rfl⟩)
    | (refine And.intro (by omega) ?_)
    | (refine BB.mk (fun _h => ?_) (fun _h => ?_) <;> (first | (exact absurd _h (by decide)) | (exfalso; simp only [boolSet] at _h <;> omega) | skip)))
  all_goals (try conv => whnf)
  all_goals first
    | exact ⟨_, _, frz_tup 0 rfl (frz_aggT 3 rfl (frz_nil _ 4) rfl) rfl, rfl, rfl, fun _ => rfl, c', hc', rfl⟩
    | (exfalso; simp only [boolSet] at * <;> simp_all)
set_option maxRecDepth 100000 in
set_option maxHeartbeats 4000000 in
theorem same_w (s1 s2 : Bool) (n1 f1 n2 f2 : Int) (l1 l2 : List De) (c1 c2 : Nat) (hl : l1.length ≤ 1099511627776) (hf : FlOk l1) (b : Bool) (hb : (s1 == s2 && (n1 == n2) && (f1 == f2) && decide (l1 = l2)) = b) : FnOK Try.prog GG 14 [] [waF s1 n1 f1 l1 c1, waF s2 n2 f2 l2 c2] (fun r _ ext => (r = .v (.bool b)) ∧ ext = []) := by
  refine FnOK.pure GG_no rfl (fn_intro (C := seat) seat_ok [] GG_no (Try.func14) rfl rfl rfl rfl rfl ?_)
  repeat' ((try conv => whnf); first
    | (with_reducible refine OKv.go (C := seat) seat_ok ?_)
    | (with_reducible refine BB_true ?_)
    | (with_reducible refine BB_false ?_)
    | (with_reducible refine Both.mk ?_ ?_)
    | (with_reducible refine VS.mk ?_)
    | (refine PSem.go (C := seat) seat_ok ?_)
    | (refine And.intro (PlanOK.mk (by kernel_rfl) rfl (by kernel_rfl) (by kernel_rfl)) ?_)
    | (refine And.intro rfl (Exists.intro _ (And.intro (by first | assumption | rfl) ?_)))
    | (refine And.intro ⟨rfl, rfl, rfl⟩ ?_)
    | (refine call_ro [] (descs_zz l1 l2 c1 c2 hl hf _ rfl) GG_no rfl rfl rfl trivial ?_; rintro r bs' ext ⟨rfl, rfl⟩)
    | (refine And.intro (by omega) ?_)
    | (refine BB.mk (fun _h => ?_) (fun _h => ?_) <;> (first | (exact absurd _h (by decide)) | (exfalso; simp only [boolSet] at _h <;> omega) | skip)))
  all_goals (try conv => whnf)
  all_goals (subst hb; refine ⟨_, _, FrzV.refl _ _, rfl, rfl, fun _ => rfl, ?_⟩)
  all_goals first
    | (congr 2; simp_all; done)
    | (exfalso; simp_all; done)
set_option maxRecDepth 100000 in
set_option maxHeartbeats 4000000 in
theorem one_w (n a : Int) : FnOK Try.prog GG 27 [] [.v (.int .u8 n), .v (.int .u8 a)] (fun r _ ext => (r = deS ⟨n, 1, a, []⟩ 0) ∧ ext = []) := by
  refine FnOK.pure GG_no rfl (fn_intro (C := seat) seat_ok [] GG_no (Try.func27) rfl rfl rfl rfl rfl ?_)
  repeat' ((try conv => whnf); first
    | (with_reducible refine OKv.go (C := seat) seat_ok ?_)
    | (with_reducible refine BB_true ?_)
    | (with_reducible refine BB_false ?_)
    | (with_reducible refine Both.mk ?_ ?_)
    | (with_reducible refine VS.mk ?_)
    | (refine PSem.go (C := seat) seat_ok ?_)
    | (refine And.intro (PlanOK.mk (by kernel_rfl) rfl (by kernel_rfl) (by kernel_rfl)) ?_)
    | (refine And.intro rfl (Exists.intro _ (And.intro (by first | assumption | rfl) ?_)))
    | (refine And.intro ⟨rfl, rfl, rfl⟩ ?_)
    | (refine And.intro (by omega) ?_)
    | (refine BB.mk (fun _h => ?_) (fun _h => ?_) <;> (first | (exact absurd _h (by decide)) | (exfalso; simp only [boolSet] at _h <;> omega) | skip)))
  all_goals (try conv => whnf)
  exact ⟨_, _, frz_aggT 3 rfl (frz_nil _ 2) rfl, rfl, rfl, fun _ => rfl, rfl⟩
end Go.Proofs.Ytjghbfbifkhloaa
