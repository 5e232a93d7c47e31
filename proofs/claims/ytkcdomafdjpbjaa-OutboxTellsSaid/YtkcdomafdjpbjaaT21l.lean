/- The reference's Take; law OutboxTells. -/
import Derived.Test.YtkcdomafdjpbjaaT21k
import Derived.Test.YtkcdomafdjpbjaaT21h
namespace Go.Proofs.Ytkcdomafdjpbjaa
open Go.RowKit

set_option maxRecDepth 100000 in
set_option maxHeartbeats 4000000 in
theorem rtake_no (room lost : Int) (c : Nat) : FnOK Try.prog GG 10 [] [.agg [.v (.int .i64 room), .z 17 (([] : List Ms).map msC) c, .v (.int .i64 lost)]] (fun r _ ext => (∃ c', r = .tup [msS ms0 0 0 0 0 0 0, .agg [.v (.int .i64 room), .z 17 (([] : List Ms).map msC) c', .v (.int .i64 lost)], .v (.bool false)]) ∧ ext = []) := by
  refine FnOK.pure GG_no rfl (fn_intro (C := seat) seat_ok [(3, (.of [(0, .take), (1, .take), (2, .take), (3, .take), (5, .take), (4, .do_), (6, .do_), (7, .last), (8, .last), (9, .last)]))] GG_no (Try.func10) rfl rfl rfl rfl rfl ?_)
  repeat' ((try conv => whnf); first
    | (with_reducible refine OKv.go (C := seat) seat_ok ?_)
    | (with_reducible refine BB_true ?_)
    | (with_reducible refine BB_false ?_)
    | (with_reducible refine Both.mk ?_ ?_)
    | (with_reducible refine VS.mk ?_)
    | (refine PSem.go (C := seat) seat_ok ?_)
    | (refine And.intro (PlanOK.mk (by kernel_rfl) rfl (by kernel_rfl) (by kernel_rfl)) ?_)
    | (refine And.intro rfl (Exists.intro _ (And.intro (by first | assumption | rfl) ?_)))
    | (refine And.intro ⟨rfl, rfl, rfl⟩ ?_)
    | (refine call_ro [] (from_own room lost [] _ 0 (by decide) (by decide) ex_none) GG_no rfl rfl rfl trivial ?_; rintro r bs' ext ⟨c7, hc7, rfl, rfl⟩)
    | (refine fun (caps : Nat → Nat) hcaps => ?_; conv at hcaps => whnf)
    | (refine BB.mk (fun _h => ?_) (fun _h => ?_) <;> (first | (exact absurd _h (by decide)) | (exfalso; simp only [boolSet, List.map_nil, List.length_nil] at _h <;> omega) | (simp only [boolSet, List.map_nil, List.length_nil] at _h) | skip))
    | (refine And.intro (by omega) ?_)
    | (refine BB.mk (fun _h => ?_) (fun _h => ?_) <;> (first | (exact absurd _h (by decide)) | (exfalso; simp only [boolSet] at _h <;> omega) | skip)))
  all_goals (try conv => whnf)
  all_goals first
    | exact ⟨_, _, (FrzV.trans (frz_tup 0 (by rfl) (frz_aggT 4 (by rfl) (frz_nil _ 4) (by rfl)) (by rfl)) (FrzV.trans (frz_tup 0 (by rfl) (frz_aggT 5 (by rfl) (frz_nil _ 3) (by rfl)) (by rfl)) (FrzV.trans (frz_tup 0 (by rfl) (frz_aggT 9 (by rfl) (frz_nil _ 1) (by rfl)) (by rfl)) (FrzV.trans (frz_tup 0 (by rfl) (frz_aggT 10 (by rfl) (frz_nil _ 1) (by rfl)) (by rfl)) (FrzV.trans (frz_tup 0 (by rfl) (frz_aggT 15 (by rfl) (frz_nil _ 3) (by rfl)) (by rfl)) (FrzV.trans (frz_tup 0 (by rfl) (frz_aggT 16 (by rfl) (frz_nil _ 3) (by rfl)) (by rfl)) (frz_tup 1 (by rfl) (frz_aggT 1 (by rfl) (frz_rowF (els' := ([] : List Ms).map msC) (by rfl) (by rfl) (by rfl)) (by rfl)) (by rfl)))))))), rfl, rfl, fun _ => rfl, _, rfl⟩
    | trace_state
set_option maxRecDepth 100000 in
set_option maxHeartbeats 4000000 in
theorem rtake_yes (room lost : Int) (m : Ms) (l : List Ms) (c : Nat) (hl : l.length ≤ 900) (hm : ∀ y ∈ l, MsOk y) (hmm : MsOk m) : FnOK Try.prog GG 10 [] [.agg [.v (.int .i64 room), .z 17 ((m :: l).map msC) c, .v (.int .i64 lost)]] (fun r _ ext => (∃ d1 d2 d3 d4 d5 d6 c', r = .tup [msS m d1 d2 d3 d4 d5 d6, .agg [.v (.int .i64 room), .z 17 (l.map msC) c', .v (.int .i64 lost)], .v (.bool true)]) ∧ ext = []) := by
  have hlm : (l.map msC).length = l.length := List.length_map _
  refine FnOK.pure GG_no rfl (fn_intro (C := seat) seat_ok [(3, (.of [(0, .take), (1, .take), (2, .take), (3, .take), (5, .take), (4, .do_), (6, .do_), (7, .last), (8, .last), (9, .last)]))] GG_no (Try.func10) rfl rfl rfl rfl rfl ?_)
  repeat' ((try conv => whnf); first
    | (with_reducible refine OKv.go (C := seat) seat_ok ?_)
    | (with_reducible refine BB_true ?_)
    | (with_reducible refine BB_false ?_)
    | (with_reducible refine Both.mk ?_ ?_)
    | (with_reducible refine VS.mk ?_)
    | (refine PSem.go (C := seat) seat_ok ?_)
    | (refine And.intro (PlanOK.mk (by kernel_rfl) rfl (by kernel_rfl) (by kernel_rfl)) ?_)
    | (refine And.intro rfl (Exists.intro _ (And.intro (by first | assumption | rfl) ?_)))
    | (refine And.intro ⟨rfl, rfl, rfl⟩ ?_)
    | (refine call_ro [] (message_r m _ _ _ _ _ _ hmm) GG_no rfl rfl rfl trivial ?_; rintro r bs' ext ⟨⟨e1, e2, e3, e4, e5, e6, rfl⟩, rfl⟩)
    | (refine call_ro [] (from_own room lost (m :: l) _ 1 (by simp only [List.length_cons]; omega) (by simp only [List.length_cons]; omega) (fun y hy => by rcases List.mem_cons.1 hy with rfl | hy; exact hmm; exact hm y hy)) GG_no rfl rfl rfl trivial ?_; rintro r bs' ext ⟨c7, hc7, rfl, rfl⟩)
    | (refine And.intro ⟨by omega, by simp only [List.map_cons, List.length_cons]; omega⟩ (Exists.intro _ (And.intro (by rfl) ?_)))
    | (refine fun (caps : Nat → Nat) hcaps => ?_; conv at hcaps => whnf)
    | (refine fun (cap' : Nat) hcap' => ?_)
    | (refine BB.mk (fun _h => ?_) (fun _h => ?_) <;> (first | (exact absurd _h (by decide)) | (exfalso; simp only [boolSet, hlm, List.map_cons, List.length_cons] at _h <;> omega) | (simp only [boolSet, hlm, List.map_cons, List.length_cons] at _h) | skip))
    | (refine And.intro (by omega) ?_)
    | (refine BB.mk (fun _h => ?_) (fun _h => ?_) <;> (first | (exact absurd _h (by decide)) | (exfalso; simp only [boolSet] at _h <;> omega) | skip)))
  all_goals (try conv => whnf)
  all_goals first
    | exact ⟨_, _, (frz_tup 1 (by rfl) (frz_aggT 1 (by rfl) (frz_rowF (els' := l.map msC) (by rfl) (by rw [List.length_map]; rfl) (by rfl)) (by rfl)) (by rfl)), rfl, rfl, fun _ => rfl, _, _, _, _, _, _, _, rfl⟩
    | trace_state
set_option maxRecDepth 100000 in
set_option maxHeartbeats 4000000 in
theorem tells_n0 (room lost : Int) (c : Nat) (m : Ms) (c1 c2 c3 c4 c5 c6 : Nat) (hl : ([] : List Ms).length ≤ 9223372036854775807) (hin : ∀ y ∈ ([] : List Ms), MsIn y) (hmi : MsIn m) (h : room ≤ (([] : List Ms).length : Int)) : FnOK Try.prog GG 3 [] [.agg [.v (.int .i64 room), .z 17 (([] : List Ms).map msC) c, .v (.int .i64 lost)], msS m c1 c2 c3 c4 c5 c6] (fun r _ ext => (r = .v (.bool true)) ∧ ext = []) := by
  have hlm : (([] : List Ms).map msC).length = ([] : List Ms).length := List.length_map _
  refine FnOK.pure GG_no rfl (fn_intro (C := seat) seat_ok [(5, (.of [(0, .take), (1, .take), (3, .take), (4, .take), (2, .do_), (5, .do_), (6, .do_), (7, .take), (8, .take), (9, .take), (10, .do_), (11, .take), (12, .take), (13, .take), (14, .take), (15, .do_), (16, .take), (17, .take), (18, .take), (19, .take), (20, .take), (21, .take), (22, .take), (23, .do_), (24, .take), (25, .take)]))] GG_no (Try.func3) rfl rfl rfl rfl rfl ?_)
  repeat' ((try conv => whnf); first
    | (with_reducible refine OKv.go (C := seat) seat_ok ?_)
    | (with_reducible refine BB_true ?_)
    | (with_reducible refine BB_false ?_)
    | (with_reducible refine Both.mk ?_ ?_)
    | (with_reducible refine VS.mk ?_)
    | (refine PSem.go (C := seat) seat_ok ?_)
    | (refine And.intro (PlanOK.mk (by kernel_rfl) rfl (by kernel_rfl) (by kernel_rfl)) ?_)
    | (refine And.intro rfl (Exists.intro _ (And.intro (by first | assumption | rfl) ?_)))
    | (refine And.intro ⟨rfl, rfl, rfl⟩ ?_)
    | (refine call_ro [] (few_z ([] : List Ms) _ 30 hl hin) GG_no rfl rfl rfl trivial ?_; rintro r bs' ext ⟨⟨q1, rfl, hall⟩, rfl⟩; cases q1 <;> (try have hall := hall rfl))
    | (refine call_frz 0 rfl (frz_row (by rfl) (by rfl)) ?_; refine call_ro [] (few_z [m] _ 1 (by simp) (fun y hy => by rw [List.mem_singleton.1 hy]; exact hmi)) GG_no rfl rfl rfl trivial ?_; rintro r bs' ext ⟨⟨q, rfl, hq⟩, rfl⟩; cases q <;> (try have hq := (hq rfl).1 m (by simp)))
    | (refine call_ro [] (awake_ok) GG_no rfl rfl rfl trivial ?_; rintro r bs' ext ⟨rfl, rfl⟩)
    | (refine call_ro [] (take_no room lost _) GG_no rfl rfl rfl trivial ?_; rintro r bs' ext ⟨rfl, rfl⟩)
    | (refine call_ro [] (rtake_no room lost _) GG_no rfl rfl rfl trivial ?_; rintro r bs' ext ⟨⟨c9, rfl⟩, rfl⟩)
    | (refine call_ro [] (same_yes ms0 _ _ _ _ _ _ _ _ _ _ _ _ ms0_ok) GG_no rfl rfl rfl trivial ?_; rintro r bs' ext ⟨rfl, rfl⟩)
    | (refine call_ro [] (boxes_yes room lost [] _ _ (by decide) ex_none) GG_no rfl rfl rfl trivial ?_; rintro r bs' ext ⟨rfl, rfl⟩)
    | (refine call_ro [] (put_no room lost ([] : List Ms) _ m _ _ _ _ _ _ (by have := hall.2; omega) hall.1  h) GG_no rfl rfl rfl trivial ?_; rintro r bs' ext ⟨⟨cA, rfl⟩, rfl⟩)
    | (refine call_ro [] (rput_no room lost ([] : List Ms) _ m _ _ _ _ _ _ (by have := hall.2; omega) hall.1  h) GG_no rfl rfl rfl trivial ?_; rintro r bs' ext ⟨⟨cB, rfl⟩, rfl⟩)
    | (refine call_ro [] (boxes_yes room (IntKind.i64.wrap (lost + 1)) ([] : List Ms) _ _ (by have := hall.2; simp only [List.length_append, List.length_cons, List.length_nil] at *; omega) hall.1) GG_no rfl rfl rfl trivial ?_; rintro r bs' ext ⟨rfl, rfl⟩)
    | (refine fun (caps : Nat → Nat) hcaps => ?_; conv at hcaps => whnf)
    | (refine BB.mk (fun _h => ?_) (fun _h => ?_) <;> (first | (exact absurd _h (by decide)) | (exfalso; simp only [boolSet, hlm, List.map_cons, List.length_cons, List.map_nil, List.length_nil] at _h <;> omega) | (simp only [boolSet, hlm, List.map_cons, List.length_cons, List.map_nil, List.length_nil] at _h) | skip))
    | (refine And.intro (by omega) ?_)
    | (refine BB.mk (fun _h => ?_) (fun _h => ?_) <;> (first | (exact absurd _h (by decide)) | (exfalso; simp only [boolSet] at _h <;> omega) | skip)))
  all_goals (try conv => whnf)
  all_goals first
    | exact ⟨_, _, FrzV.refl _ _, rfl, rfl, fun _ => rfl, rfl⟩
    | trace_state
set_option maxRecDepth 100000 in
set_option maxHeartbeats 4000000 in
theorem tells_n1 (room lost : Int) (c : Nat) (m : Ms) (c1 c2 c3 c4 c5 c6 : Nat) (hl : ([] : List Ms).length ≤ 9223372036854775807) (hin : ∀ y ∈ ([] : List Ms), MsIn y) (hmi : MsIn m) (h : (([] : List Ms).length : Int) < room) : FnOK Try.prog GG 3 [] [.agg [.v (.int .i64 room), .z 17 (([] : List Ms).map msC) c, .v (.int .i64 lost)], msS m c1 c2 c3 c4 c5 c6] (fun r _ ext => (r = .v (.bool true)) ∧ ext = []) := by
  have hlm : (([] : List Ms).map msC).length = ([] : List Ms).length := List.length_map _
  refine FnOK.pure GG_no rfl (fn_intro (C := seat) seat_ok [(5, (.of [(0, .take), (1, .take), (3, .take), (4, .take), (2, .do_), (5, .do_), (6, .do_), (7, .take), (8, .take), (9, .take), (10, .do_), (11, .take), (12, .take), (13, .take), (14, .take), (15, .do_), (16, .take), (17, .take), (18, .take), (19, .take), (20, .take), (21, .take), (22, .take), (23, .do_), (24, .take), (25, .take)]))] GG_no (Try.func3) rfl rfl rfl rfl rfl ?_)
  repeat' ((try conv => whnf); first
    | (with_reducible refine OKv.go (C := seat) seat_ok ?_)
    | (with_reducible refine BB_true ?_)
    | (with_reducible refine BB_false ?_)
    | (with_reducible refine Both.mk ?_ ?_)
    | (with_reducible refine VS.mk ?_)
    | (refine PSem.go (C := seat) seat_ok ?_)
    | (refine And.intro (PlanOK.mk (by kernel_rfl) rfl (by kernel_rfl) (by kernel_rfl)) ?_)
    | (refine And.intro rfl (Exists.intro _ (And.intro (by first | assumption | rfl) ?_)))
    | (refine And.intro ⟨rfl, rfl, rfl⟩ ?_)
    | (refine call_ro [] (few_z ([] : List Ms) _ 30 hl hin) GG_no rfl rfl rfl trivial ?_; rintro r bs' ext ⟨⟨q1, rfl, hall⟩, rfl⟩; cases q1 <;> (try have hall := hall rfl))
    | (refine call_frz 0 rfl (frz_row (by rfl) (by rfl)) ?_; refine call_ro [] (few_z [m] _ 1 (by simp) (fun y hy => by rw [List.mem_singleton.1 hy]; exact hmi)) GG_no rfl rfl rfl trivial ?_; rintro r bs' ext ⟨⟨q, rfl, hq⟩, rfl⟩; cases q <;> (try have hq := (hq rfl).1 m (by simp)))
    | (refine call_ro [] (awake_ok) GG_no rfl rfl rfl trivial ?_; rintro r bs' ext ⟨rfl, rfl⟩)
    | (refine call_ro [] (take_no room lost _) GG_no rfl rfl rfl trivial ?_; rintro r bs' ext ⟨rfl, rfl⟩)
    | (refine call_ro [] (rtake_no room lost _) GG_no rfl rfl rfl trivial ?_; rintro r bs' ext ⟨⟨c9, rfl⟩, rfl⟩)
    | (refine call_ro [] (same_yes ms0 _ _ _ _ _ _ _ _ _ _ _ _ ms0_ok) GG_no rfl rfl rfl trivial ?_; rintro r bs' ext ⟨rfl, rfl⟩)
    | (refine call_ro [] (boxes_yes room lost [] _ _ (by decide) ex_none) GG_no rfl rfl rfl trivial ?_; rintro r bs' ext ⟨rfl, rfl⟩)
    | (refine call_ro [] (put_yes room lost ([] : List Ms) _ m _ _ _ _ _ _ (by have := hall.2; omega) hall.1 hq h) GG_no rfl rfl rfl trivial ?_; rintro r bs' ext ⟨⟨cA, rfl⟩, rfl⟩)
    | (refine call_ro [] (rput_yes room lost ([] : List Ms) _ m _ _ _ _ _ _ (by have := hall.2; omega) hall.1 hq h) GG_no rfl rfl rfl trivial ?_; rintro r bs' ext ⟨⟨cB, rfl⟩, rfl⟩)
    | (refine call_ro [] (boxes_yes room lost (([] : List Ms) ++ [m]) _ _ (by have := hall.2; simp only [List.length_append, List.length_cons, List.length_nil] at *; omega) (fun y hy => by rcases List.mem_append.1 hy with hy | hy; exact hall.1 y hy; rw [List.mem_singleton.1 hy]; exact hq)) GG_no rfl rfl rfl trivial ?_; rintro r bs' ext ⟨rfl, rfl⟩)
    | (refine fun (caps : Nat → Nat) hcaps => ?_; conv at hcaps => whnf)
    | (refine BB.mk (fun _h => ?_) (fun _h => ?_) <;> (first | (exact absurd _h (by decide)) | (exfalso; simp only [boolSet, hlm, List.map_cons, List.length_cons, List.map_nil, List.length_nil] at _h <;> omega) | (simp only [boolSet, hlm, List.map_cons, List.length_cons, List.map_nil, List.length_nil] at _h) | skip))
    | (refine And.intro (by omega) ?_)
    | (refine BB.mk (fun _h => ?_) (fun _h => ?_) <;> (first | (exact absurd _h (by decide)) | (exfalso; simp only [boolSet] at _h <;> omega) | skip)))
  all_goals (try conv => whnf)
  all_goals first
    | exact ⟨_, _, FrzV.refl _ _, rfl, rfl, fun _ => rfl, rfl⟩
    | trace_state
end Go.Proofs.Ytkcdomafdjpbjaa
