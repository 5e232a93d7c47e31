/- Law OutboxTells. -/
import Derived.Test.YtkcdomafdjpbjaaT21l
namespace Go.Proofs.Ytkcdomafdjpbjaa
open Go.RowKit

set_option maxRecDepth 100000 in
set_option maxHeartbeats 4000000 in
theorem tells_c0 (room lost : Int) (m0 : Ms) (l : List Ms) (c : Nat) (m : Ms) (c1 c2 c3 c4 c5 c6 : Nat) (hl : (m0 :: l).length ≤ 9223372036854775807) (hin : ∀ y ∈ m0 :: l, MsIn y) (hmi : MsIn m) (h : room ≤ ((m0 :: l).length : Int)) : FnOK Try.prog GG 3 [] [.agg [.v (.int .i64 room), .z 17 ((m0 :: l).map msC) c, .v (.int .i64 lost)], msS m c1 c2 c3 c4 c5 c6] (fun r _ ext => (r = .v (.bool true)) ∧ ext = []) := by
  have hlm : ((m0 :: l).map msC).length = (m0 :: l).length := List.length_map _
  refine FnOK.pure GG_no rfl (fn_intro (C := seat) seat_ok [(5, (.of [(0, .take), (1, .take), (3, .take), (4, .take), (2, .do_), (5, .do_), (6, .do_), (7, .take), (8, .take), (9, .take), (10, .do_), (11, .take), (12, .take), (13, .take), (14, .take), (15, .do_), (16, .take), (17, .take), (18, .take), (19, .take), (20, .take), (21, .take), (22, .take), (23, .do_), (24, .take), (25, .take)]))] GG_no (Try.func3) rfl rfl rfl rfl rfl ?_)
  repeat' ((try conv => whnf); first
    | (with_reducible refine OKv.go (C := seat) seat_ok ?_)
    | (with_reducible refine BB_true ?_)
    | (with_reducible refine BB_false ?_)
    | (with_reducible refine Both.mk ?_ ?_)
    | (with_reducible refine VS.mk ?_)
    | (refine PSem.go (C := seat) seat_ok ?_)
    | (refine And.intro (PlanOK.mk (by kernel_rfl) rfl (by kernel_rfl) (by kernel_rfl)) ?_)
    | (refine And.intro rfl (Exists.intro _ (And.intro (by first | assumption | rfl) ?_)))
    | (refine And.intro ⟨rfl, rfl, rfl⟩ ?_)
    | (refine call_ro [] (few_z (m0 :: l) _ 30 hl hin) GG_no rfl rfl rfl trivial ?_; rintro r bs' ext ⟨⟨q1, rfl, hall⟩, rfl⟩; cases q1 <;> (try have hall := hall rfl))
    | (refine call_frz 0 rfl (frz_row (by rfl) (by rfl)) ?_; refine call_ro [] (few_z [m] _ 1 (by simp) (fun y hy => by rw [List.mem_singleton.1 hy]; exact hmi)) GG_no rfl rfl rfl trivial ?_; rintro r bs' ext ⟨⟨q, rfl, hq⟩, rfl⟩; cases q <;> (try have hq := (hq rfl).1 m (by simp)))
    | (refine call_ro [] (awake_ok) GG_no rfl rfl rfl trivial ?_; rintro r bs' ext ⟨rfl, rfl⟩)
    | (refine call_ro [] (take_yes room lost m0 l _ (by have := hall.2; simp only [List.length_cons] at this; omega) (fun y hy => hall.1 y (List.mem_cons_of_mem _ hy)) (hall.1 m0 List.mem_cons_self)) GG_no rfl rfl rfl trivial ?_; rintro r bs' ext ⟨⟨d1, d2, d3, d4, d5, d6, c8, rfl⟩, rfl⟩)
    | (refine call_ro [] (rtake_yes room lost m0 l _ (by have := hall.2; simp only [List.length_cons] at this; omega) (fun y hy => hall.1 y (List.mem_cons_of_mem _ hy)) (hall.1 m0 List.mem_cons_self)) GG_no rfl rfl rfl trivial ?_; rintro r bs' ext ⟨⟨f1, f2, f3, f4, f5, f6, c9, rfl⟩, rfl⟩)
    | (refine call_ro [] (same_yes m0 _ _ _ _ _ _ _ _ _ _ _ _ (hall.1 m0 List.mem_cons_self)) GG_no rfl rfl rfl trivial ?_; rintro r bs' ext ⟨rfl, rfl⟩)
    | (refine call_ro [] (boxes_yes room lost l _ _ (by have := hall.2; simp only [List.length_cons] at this; omega) (fun y hy => hall.1 y (List.mem_cons_of_mem _ hy))) GG_no rfl rfl rfl trivial ?_; rintro r bs' ext ⟨rfl, rfl⟩)
    | (refine call_ro [] (put_no room lost (m0 :: l) _ m _ _ _ _ _ _ (by have := hall.2; omega) hall.1  h) GG_no rfl rfl rfl trivial ?_; rintro r bs' ext ⟨⟨cA, rfl⟩, rfl⟩)
    | (refine call_ro [] (rput_no room lost (m0 :: l) _ m _ _ _ _ _ _ (by have := hall.2; omega) hall.1  h) GG_no rfl rfl rfl trivial ?_; rintro r bs' ext ⟨⟨cB, rfl⟩, rfl⟩)
    | (refine call_ro [] (boxes_yes room (IntKind.i64.wrap (lost + 1)) (m0 :: l) _ _ (by have := hall.2; simp only [List.length_append, List.length_cons, List.length_nil] at *; omega) hall.1) GG_no rfl rfl rfl trivial ?_; rintro r bs' ext ⟨rfl, rfl⟩)
    | (refine fun (caps : Nat → Nat) hcaps => ?_; conv at hcaps => whnf)
    | (refine BB.mk (fun _h => ?_) (fun _h => ?_) <;> (first | (exact absurd _h (by decide)) | (exfalso; simp only [boolSet, hlm, List.map_cons, List.length_cons, List.map_nil, List.length_nil] at _h <;> omega) | (simp only [boolSet, hlm, List.map_cons, List.length_cons, List.map_nil, List.length_nil] at _h) | skip))
    | (refine And.intro (by omega) ?_)
    | (refine BB.mk (fun _h => ?_) (fun _h => ?_) <;> (first | (exact absurd _h (by decide)) | (exfalso; simp only [boolSet] at _h <;> omega) | skip)))
  all_goals (try conv => whnf)
  all_goals first
    | exact ⟨_, _, FrzV.refl _ _, rfl, rfl, fun _ => rfl, rfl⟩
    | trace_state
set_option maxRecDepth 100000 in
set_option maxHeartbeats 4000000 in
theorem tells_c1 (room lost : Int) (m0 : Ms) (l : List Ms) (c : Nat) (m : Ms) (c1 c2 c3 c4 c5 c6 : Nat) (hl : (m0 :: l).length ≤ 9223372036854775807) (hin : ∀ y ∈ m0 :: l, MsIn y) (hmi : MsIn m) (h : ((m0 :: l).length : Int) < room) : FnOK Try.prog GG 3 [] [.agg [.v (.int .i64 room), .z 17 ((m0 :: l).map msC) c, .v (.int .i64 lost)], msS m c1 c2 c3 c4 c5 c6] (fun r _ ext => (r = .v (.bool true)) ∧ ext = []) := by
  have hlm : ((m0 :: l).map msC).length = (m0 :: l).length := List.length_map _
  refine FnOK.pure GG_no rfl (fn_intro (C := seat) seat_ok [(5, (.of [(0, .take), (1, .take), (3, .take), (4, .take), (2, .do_), (5, .do_), (6, .do_), (7, .take), (8, .take), (9, .take), (10, .do_), (11, .take), (12, .take), (13, .take), (14, .take), (15, .do_), (16, .take), (17, .take), (18, .take), (19, .take), (20, .take), (21, .take), (22, .take), (23, .do_), (24, .take), (25, .take)]))] GG_no (Try.func3) rfl rfl rfl rfl rfl ?_)
  repeat' ((try conv => whnf); first
    | (with_reducible refine OKv.go (C := seat) seat_ok ?_)
    | (with_reducible refine BB_true ?_)
    | (with_reducible refine BB_false ?_)
    | (with_reducible refine Both.mk ?_ ?_)
    | (with_reducible refine VS.mk ?_)
    | (refine PSem.go (C := seat) seat_ok ?_)
    | (refine And.intro (PlanOK.mk (by kernel_rfl) rfl (by kernel_rfl) (by kernel_rfl)) ?_)
    | (refine And.intro rfl (Exists.intro _ (And.intro (by first | assumption | rfl) ?_)))
    | (refine And.intro ⟨rfl, rfl, rfl⟩ ?_)
    | (refine call_ro [] (few_z (m0 :: l) _ 30 hl hin) GG_no rfl rfl rfl trivial ?_; rintro r bs' ext ⟨⟨q1, rfl, hall⟩, rfl⟩; cases q1 <;> (try have hall := hall rfl))
    | (refine call_frz 0 rfl (frz_row (by rfl) (by rfl)) ?_; refine call_ro [] (few_z [m] _ 1 (by simp) (fun y hy => by rw [List.mem_singleton.1 hy]; exact hmi)) GG_no rfl rfl rfl trivial ?_; rintro r bs' ext ⟨⟨q, rfl, hq⟩, rfl⟩; cases q <;> (try have hq := (hq rfl).1 m (by simp)))
    | (refine call_ro [] (awake_ok) GG_no rfl rfl rfl trivial ?_; rintro r bs' ext ⟨rfl, rfl⟩)
    | (refine call_ro [] (take_yes room lost m0 l _ (by have := hall.2; simp only [List.length_cons] at this; omega) (fun y hy => hall.1 y (List.mem_cons_of_mem _ hy)) (hall.1 m0 List.mem_cons_self)) GG_no rfl rfl rfl trivial ?_; rintro r bs' ext ⟨⟨d1, d2, d3, d4, d5, d6, c8, rfl⟩, rfl⟩)
    | (refine call_ro [] (rtake_yes room lost m0 l _ (by have := hall.2; simp only [List.length_cons] at this; omega) (fun y hy => hall.1 y (List.mem_cons_of_mem _ hy)) (hall.1 m0 List.mem_cons_self)) GG_no rfl rfl rfl trivial ?_; rintro r bs' ext ⟨⟨f1, f2, f3, f4, f5, f6, c9, rfl⟩, rfl⟩)
    | (refine call_ro [] (same_yes m0 _ _ _ _ _ _ _ _ _ _ _ _ (hall.1 m0 List.mem_cons_self)) GG_no rfl rfl rfl trivial ?_; rintro r bs' ext ⟨rfl, rfl⟩)
    | (refine call_ro [] (boxes_yes room lost l _ _ (by have := hall.2; simp only [List.length_cons] at this; omega) (fun y hy => hall.1 y (List.mem_cons_of_mem _ hy))) GG_no rfl rfl rfl trivial ?_; rintro r bs' ext ⟨rfl, rfl⟩)
    | (refine call_ro [] (put_yes room lost (m0 :: l) _ m _ _ _ _ _ _ (by have := hall.2; omega) hall.1 hq h) GG_no rfl rfl rfl trivial ?_; rintro r bs' ext ⟨⟨cA, rfl⟩, rfl⟩)
    | (refine call_ro [] (rput_yes room lost (m0 :: l) _ m _ _ _ _ _ _ (by have := hall.2; omega) hall.1 hq h) GG_no rfl rfl rfl trivial ?_; rintro r bs' ext ⟨⟨cB, rfl⟩, rfl⟩)
    | (refine call_ro [] (boxes_yes room lost ((m0 :: l) ++ [m]) _ _ (by have := hall.2; simp only [List.length_append, List.length_cons, List.length_nil] at *; omega) (fun y hy => by rcases List.mem_append.1 hy with hy | hy; exact hall.1 y hy; rw [List.mem_singleton.1 hy]; exact hq)) GG_no rfl rfl rfl trivial ?_; rintro r bs' ext ⟨rfl, rfl⟩)
    | (refine fun (caps : Nat → Nat) hcaps => ?_; conv at hcaps => whnf)
    | (refine BB.mk (fun _h => ?_) (fun _h => ?_) <;> (first | (exact absurd _h (by decide)) | (exfalso; simp only [boolSet, hlm, List.map_cons, List.length_cons, List.map_nil, List.length_nil] at _h <;> omega) | (simp only [boolSet, hlm, List.map_cons, List.length_cons, List.map_nil, List.length_nil] at _h) | skip))
    | (refine And.intro (by omega) ?_)
    | (refine BB.mk (fun _h => ?_) (fun _h => ?_) <;> (first | (exact absurd _h (by decide)) | (exfalso; simp only [boolSet] at _h <;> omega) | skip)))
  all_goals (try conv => whnf)
  all_goals first
    | exact ⟨_, _, FrzV.refl _ _, rfl, rfl, fun _ => rfl, rfl⟩
    | trace_state
theorem outboxTells_ok (room lost : Int) (l : List Ms) (c : Nat) (m : Ms) (c1 c2 c3 c4 c5 c6 : Nat) (hl : l.length ≤ 9223372036854775807) (hin : ∀ y ∈ l, MsIn y) (hmi : MsIn m) : FnOK Try.prog GG 3 [] [.agg [.v (.int .i64 room), .z 17 (l.map msC) c, .v (.int .i64 lost)], msS m c1 c2 c3 c4 c5 c6] (fun r _ ext => (r = .v (.bool true)) ∧ ext = []) := by
  by_cases h : (l.length : Int) < room
  · cases l with
    | nil => exact tells_n1 room lost c m c1 c2 c3 c4 c5 c6 hl hin hmi h
    | cons m0 l => exact tells_c1 room lost m0 l c m c1 c2 c3 c4 c5 c6 hl hin hmi h
  · cases l with
    | nil => exact tells_n0 room lost c m c1 c2 c3 c4 c5 c6 hl hin hmi (by omega)
    | cons m0 l => exact tells_c0 room lost m0 l c m c1 c2 c3 c4 c5 c6 hl hin hmi (by omega)
end Go.Proofs.Ytkcdomafdjpbjaa
