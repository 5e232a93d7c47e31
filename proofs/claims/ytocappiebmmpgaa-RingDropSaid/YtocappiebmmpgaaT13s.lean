/- Ring: changed, all cases. -/
import Derived.Test.YtocappiebmmpgaaT13n
namespace Go.Proofs.Ytocappiebmmpgaa
open Go.RowKit

def e00 : De := ⟨0, 0, 0, []⟩
def outU (x : De) (c : Nat) : Nat → List SV
  | 0 => [.v (.bool false), .v (.bool false), .v (.int .u8 0), .v (.int .u16 0), .v (.int .u8 0), .v (.slice none 0 0), .v (.int .u8 0), .v (.int .u16 0), .v (.int .u8 0), .v (.slice none 0 0)]
  | _ + 1 => [.v (.bool true), .v (.bool false), .v (.int .u8 x.node), .v (.int .u16 x.inc), .v (.int .u8 x.age), .z 2 (x.fl.map spC) c, .v (.int .u8 0), .v (.int .u16 0), .v (.int .u8 0), .v (.slice none 0 0)]
def outV (x : De) (c : Nat) (y : De) (e : Nat) : Nat → List SV
  | 0 => [.v (.bool true), .v (.bool false), .v (.int .u8 x.node), .v (.int .u16 x.inc), .v (.int .u8 x.age), .z 2 (x.fl.map spC) c, .v (.int .u8 0), .v (.int .u16 0), .v (.int .u8 0), .v (.slice none 0 0)]
  | _ + 1 => [.v (.bool true), .v (.bool true), .v (.int .u8 x.node), .v (.int .u16 x.inc), .v (.int .u8 x.age), .z 2 (x.fl.map spC) c, .v (.int .u8 y.node), .v (.int .u16 y.inc), .v (.int .u8 y.age), .z 2 (y.fl.map spC) e]
set_option maxRecDepth 100000 in
set_option maxHeartbeats 4000000 in
theorem chg_00 (g : Nat) (n : Int) (x y x' y' : De) (cx cy : Nat) (hg1 : ∀ c, FnOK Try.prog GG g [.cst 5 [.v (.int .u8 n)]] [deS x c, .p (.o 0) 0 0 0] (fun r bs' ext => bs' = [.cst 5 [.v (.int .u8 n)]] ∧ (r = .z 4 (([] : List De).map deC) 0) ∧ ext = [])) (hg2 : ∀ c, FnOK Try.prog GG g [.cst 5 [.v (.int .u8 n)]] [deS y c, .p (.o 0) 0 0 0] (fun r bs' ext => bs' = [.cst 5 [.v (.int .u8 n)]] ∧ (r = .z 4 (([] : List De).map deC) 0) ∧ ext = [])) : FnOK Try.prog GG 42 [.box 5 [.v (.int .u8 n)]] [ringS true true x y cx cy, .fn g [.p (.o 0) 0 0 0]] (fun r bs' ext => bs' = [.box 5 [.v (.int .u8 n)]] ∧ (∃ c1 c2, e00.fl.length ≤ c1 ∧ e00.fl.length ≤ c2 ∧ r = ringS false false e00 e00 c1 c2) ∧ ext = []) := by
  refine FnOK.pureB GG_no (fun _ _ => ⟨rfl, trivial⟩) (fn_intro (C := seat) seat_ok [(6, (.of [(0, .take), (1, .take), (2, .do_), (3, .take), (4, .last)])), (12, (.of [(0, .take), (1, .take), (2, .do_), (3, .take), (4, .last)]))] GG_no (Try.func42) rfl rfl rfl rfl rfl ?_)
  repeat' ((try conv => whnf); first
    | (with_reducible refine OKv.go (C := seat) seat_ok ?_)
    | (with_reducible refine BB_true ?_)
    | (with_reducible refine BB_false ?_)
    | (with_reducible refine Both.mk ?_ ?_)
    | (with_reducible refine VS.mk ?_)
    | (refine PSem.go (C := seat) seat_ok ?_)
    | (refine And.intro (PlanOK.mk (by kernel_rfl) rfl (by kernel_rfl) (by kernel_rfl)) ?_)
    | (refine And.intro rfl (Exists.intro _ (And.intro (by first | assumption | rfl) ?_)))
    | (refine And.intro ⟨rfl, rfl, rfl⟩ ?_)
    | (refine call_roZ [.o 0] (hg1 _) GG_no rfl rfl rfl ⟨⟨_, rfl, _, _, rfl, cellsZ_v cellsZ_nil, rfl⟩, trivial⟩ ?_; rintro r bs' ext ⟨rfl, rfl, rfl⟩)
    | (refine fun (caps : Nat → Nat) hcaps => ?_; conv at hcaps => whnf)
    | (refine BB.mk (fun _h => ?_) (fun _h => ?_) <;> (first | (exact absurd _h (by decide)) | (exfalso; simp only [boolSet, List.map_nil, List.length_nil, List.map_cons, List.length_cons] at _h <;> omega) | (simp only [boolSet] at _h) | skip))
    | (refine And.intro (by omega) ?_)
    | (refine BB.mk (fun _h => ?_) (fun _h => ?_) <;> (first | (exact absurd _h (by decide)) | (exfalso; simp only [boolSet] at _h <;> omega) | skip)))
  all_goals (try conv => whnf)
  refine loop_rule (α := Nat) (fun k => k ≤ 0) (fun k => { slots := [(1, .fn g [.p (.o 0) 0 0 0]), (2, .p (.n 0) 0 0 0), (4, .p (.n 1) 0 0 0), (5, .p (.n 2) 0 0 0), (15, .z 4 (([] : List De).map deC) 0), (16, .v (.int .i64 (([] : List De).map deC).length)), (17, .v (.int .i64 (k : Int)))], nt := 41, mem := ⟨GG, [.box 5 [.v (.int .u8 n)]], [.box 34 [.v (.bool true), .v (.bool true), .v (.int .u8 x.node), .v (.int .u16 x.inc), .v (.int .u8 x.age), .z 2 (x.fl.map spC) cx, .v (.int .u8 y.node), .v (.int .u16 y.inc), .v (.int .u8 y.age), .z 2 (y.fl.map spC) cy], .box 34 (outU x 0 0), .box 34 (outU x 0 0)]⟩ }) (fun k => 0 - k) 0 (Nat.le_refl _) ⟨⟨[0, 1, 2], by decide, GG_no, rfl, ⟨rfl, trivial⟩, ⟨rfl, rfl, rfl, trivial⟩, ⟨.inl rfl, .inl rfl, .inl rfl, .inl rfl, .inl rfl, .inl rfl, .inl rfl, trivial⟩⟩, rfl⟩ ?_ (fun _ => rfl)
  intro k hk
  obtain rfl : k = 0 := by omega
  refine vc_sound (C := seat) seat_ok (pl := [(6, (.of [(0, .take), (1, .take), (2, .do_), (3, .take), (4, .last)])), (12, (.of [(0, .take), (1, .take), (2, .do_), (3, .take), (4, .last)]))]) ?_
  repeat' ((try conv => whnf); first
    | (with_reducible refine OKv.go (C := seat) seat_ok ?_)
    | (with_reducible refine BB_true ?_)
    | (with_reducible refine BB_false ?_)
    | (with_reducible refine Both.mk ?_ ?_)
    | (with_reducible refine VS.mk ?_)
    | (refine PSem.go (C := seat) seat_ok ?_)
    | (refine And.intro (PlanOK.mk (by kernel_rfl) rfl (by kernel_rfl) (by kernel_rfl)) ?_)
    | (refine And.intro rfl (Exists.intro _ (And.intro (by first | assumption | rfl) ?_)))
    | (refine And.intro ⟨rfl, rfl, rfl⟩ ?_)
    | (refine call_roZ [.o 0] (hg2 _) GG_no rfl rfl rfl ⟨⟨_, rfl, _, _, rfl, cellsZ_v cellsZ_nil, rfl⟩, trivial⟩ ?_; rintro r bs' ext ⟨rfl, rfl, rfl⟩)
    | (refine fun (caps : Nat → Nat) hcaps => ?_; conv at hcaps => whnf)
    | (refine BB.mk (fun _h => ?_) (fun _h => ?_) <;> (first | (exact absurd _h (by decide)) | (exfalso; simp only [boolSet, List.map_nil, List.length_nil, List.map_cons, List.length_cons] at _h <;> omega) | (simp only [boolSet] at _h) | skip))
    | (refine And.intro (by omega) ?_)
    | (refine BB.mk (fun _h => ?_) (fun _h => ?_) <;> (first | (exact absurd _h (by decide)) | (exfalso; simp only [boolSet] at _h <;> omega) | skip)))
  all_goals (try conv => whnf)
  refine loop_rule (α := Nat) (fun k => k ≤ 0) (fun k => { slots := [(4, .p (.n 1) 0 0 0), (5, .p (.n 2) 0 0 0), (30, .z 4 (([] : List De).map deC) 0), (31, .v (.int .i64 (([] : List De).map deC).length)), (32, .v (.int .i64 (k : Int)))], nt := 41, mem := ⟨GG, [.box 5 [.v (.int .u8 n)]], [.box 34 [.v (.bool true), .v (.bool true), .v (.int .u8 x.node), .v (.int .u16 x.inc), .v (.int .u8 x.age), .z 2 (x.fl.map spC) cx, .v (.int .u8 y.node), .v (.int .u16 y.inc), .v (.int .u8 y.age), .z 2 (y.fl.map spC) cy], .box 34 (outU x 0 0), .box 34 (outU x 0 0)]⟩ }) (fun k => 0 - k) 0 (Nat.le_refl _) ⟨⟨[0, 1, 2], by decide, GG_no, rfl, ⟨rfl, trivial⟩, ⟨rfl, rfl, rfl, trivial⟩, ⟨.inl rfl, .inl rfl, .inl rfl, .inl rfl, .inl rfl, trivial⟩⟩, rfl⟩ ?_ (fun _ => rfl)
  intro k hk
  obtain rfl : k = 0 := by omega
  refine vc_sound (C := seat) seat_ok (pl := [(6, (.of [(0, .take), (1, .take), (2, .do_), (3, .take), (4, .last)])), (12, (.of [(0, .take), (1, .take), (2, .do_), (3, .take), (4, .last)]))]) ?_
  repeat' ((try conv => whnf); first
    | (with_reducible refine OKv.go (C := seat) seat_ok ?_)
    | (with_reducible refine BB_true ?_)
    | (with_reducible refine BB_false ?_)
    | (with_reducible refine Both.mk ?_ ?_)
    | (with_reducible refine VS.mk ?_)
    | (refine PSem.go (C := seat) seat_ok ?_)
    | (refine And.intro (PlanOK.mk (by kernel_rfl) rfl (by kernel_rfl) (by kernel_rfl)) ?_)
    | (refine And.intro rfl (Exists.intro _ (And.intro (by first | assumption | rfl) ?_)))
    | (refine And.intro ⟨rfl, rfl, rfl⟩ ?_)
    | (refine fun (caps : Nat → Nat) hcaps => ?_; conv at hcaps => whnf)
    | (refine BB.mk (fun _h => ?_) (fun _h => ?_) <;> (first | (exact absurd _h (by decide)) | (exfalso; simp only [boolSet, List.map_nil, List.length_nil, List.map_cons, List.length_cons] at _h <;> omega) | (simp only [boolSet] at _h) | skip))
    | (refine And.intro (by omega) ?_)
    | (refine BB.mk (fun _h => ?_) (fun _h => ?_) <;> (first | (exact absurd _h (by decide)) | (exfalso; simp only [boolSet] at _h <;> omega) | skip)))
  all_goals (try conv => whnf)
  all_goals first
    | exact ⟨_, _, (FrzV.trans (frz_aggT 5 (by rfl) (frz_nil _ 2) (by rfl)) (frz_aggT 9 (by rfl) (frz_nil _ 2) (by rfl))), rfl, rfl, fun _ => rfl, _, _, (by exact Nat.zero_le _), (by exact Nat.zero_le _), rfl⟩
    | trace_state
set_option maxRecDepth 100000 in
set_option maxHeartbeats 4000000 in
theorem chg_01 (g : Nat) (n : Int) (x y x' y' : De) (cx cy : Nat) (hg1 : ∀ c, FnOK Try.prog GG g [.cst 5 [.v (.int .u8 n)]] [deS x c, .p (.o 0) 0 0 0] (fun r bs' ext => bs' = [.cst 5 [.v (.int .u8 n)]] ∧ (r = .z 4 (([] : List De).map deC) 0) ∧ ext = [])) (hg2 : ∀ c, FnOK Try.prog GG g [.cst 5 [.v (.int .u8 n)]] [deS y c, .p (.o 0) 0 0 0] (fun r bs' ext => bs' = [.cst 5 [.v (.int .u8 n)]] ∧ (∃ c', 1 ≤ c' ∧ r = .z 4 ([y'].map deC) c') ∧ ext = [])) : FnOK Try.prog GG 42 [.box 5 [.v (.int .u8 n)]] [ringS true true x y cx cy, .fn g [.p (.o 0) 0 0 0]] (fun r bs' ext => bs' = [.box 5 [.v (.int .u8 n)]] ∧ (∃ c1 c2, e00.fl.length ≤ c1 ∧ y'.fl.length ≤ c2 ∧ r = ringS false true e00 y' c1 c2) ∧ ext = []) := by
  refine FnOK.pureB GG_no (fun _ _ => ⟨rfl, trivial⟩) (fn_intro (C := seat) seat_ok [(6, (.of [(0, .take), (1, .take), (2, .do_), (3, .take), (4, .last)])), (12, (.of [(0, .take), (1, .take), (2, .do_), (3, .take), (4, .last)]))] GG_no (Try.func42) rfl rfl rfl rfl rfl ?_)
  repeat' ((try conv => whnf); first
    | (with_reducible refine OKv.go (C := seat) seat_ok ?_)
    | (with_reducible refine BB_true ?_)
    | (with_reducible refine BB_false ?_)
    | (with_reducible refine Both.mk ?_ ?_)
    | (with_reducible refine VS.mk ?_)
    | (refine PSem.go (C := seat) seat_ok ?_)
    | (refine And.intro (PlanOK.mk (by kernel_rfl) rfl (by kernel_rfl) (by kernel_rfl)) ?_)
    | (refine And.intro rfl (Exists.intro _ (And.intro (by first | assumption | rfl) ?_)))
    | (refine And.intro ⟨rfl, rfl, rfl⟩ ?_)
    | (refine call_roZ [.o 0] (hg1 _) GG_no rfl rfl rfl ⟨⟨_, rfl, _, _, rfl, cellsZ_v cellsZ_nil, rfl⟩, trivial⟩ ?_; rintro r bs' ext ⟨rfl, rfl, rfl⟩)
    | (refine fun (caps : Nat → Nat) hcaps => ?_; conv at hcaps => whnf)
    | (refine BB.mk (fun _h => ?_) (fun _h => ?_) <;> (first | (exact absurd _h (by decide)) | (exfalso; simp only [boolSet, List.map_nil, List.length_nil, List.map_cons, List.length_cons] at _h <;> omega) | (simp only [boolSet] at _h) | skip))
    | (refine And.intro (by omega) ?_)
    | (refine BB.mk (fun _h => ?_) (fun _h => ?_) <;> (first | (exact absurd _h (by decide)) | (exfalso; simp only [boolSet] at _h <;> omega) | skip)))
  all_goals (try conv => whnf)
  refine loop_rule (α := Nat) (fun k => k ≤ 0) (fun k => { slots := [(1, .fn g [.p (.o 0) 0 0 0]), (2, .p (.n 0) 0 0 0), (4, .p (.n 1) 0 0 0), (5, .p (.n 2) 0 0 0), (15, .z 4 (([] : List De).map deC) 0), (16, .v (.int .i64 (([] : List De).map deC).length)), (17, .v (.int .i64 (k : Int)))], nt := 41, mem := ⟨GG, [.box 5 [.v (.int .u8 n)]], [.box 34 [.v (.bool true), .v (.bool true), .v (.int .u8 x.node), .v (.int .u16 x.inc), .v (.int .u8 x.age), .z 2 (x.fl.map spC) cx, .v (.int .u8 y.node), .v (.int .u16 y.inc), .v (.int .u8 y.age), .z 2 (y.fl.map spC) cy], .box 34 (outU x 0 0), .box 34 (outU x 0 0)]⟩ }) (fun k => 0 - k) 0 (Nat.le_refl _) ⟨⟨[0, 1, 2], by decide, GG_no, rfl, ⟨rfl, trivial⟩, ⟨rfl, rfl, rfl, trivial⟩, ⟨.inl rfl, .inl rfl, .inl rfl, .inl rfl, .inl rfl, .inl rfl, .inl rfl, trivial⟩⟩, rfl⟩ ?_ (fun _ => rfl)
  intro k hk
  obtain rfl : k = 0 := by omega
  refine vc_sound (C := seat) seat_ok (pl := [(6, (.of [(0, .take), (1, .take), (2, .do_), (3, .take), (4, .last)])), (12, (.of [(0, .take), (1, .take), (2, .do_), (3, .take), (4, .last)]))]) ?_
  repeat' ((try conv => whnf); first
    | (with_reducible refine OKv.go (C := seat) seat_ok ?_)
    | (with_reducible refine BB_true ?_)
    | (with_reducible refine BB_false ?_)
    | (with_reducible refine Both.mk ?_ ?_)
    | (with_reducible refine VS.mk ?_)
    | (refine PSem.go (C := seat) seat_ok ?_)
    | (refine And.intro (PlanOK.mk (by kernel_rfl) rfl (by kernel_rfl) (by kernel_rfl)) ?_)
    | (refine And.intro rfl (Exists.intro _ (And.intro (by first | assumption | rfl) ?_)))
    | (refine And.intro ⟨rfl, rfl, rfl⟩ ?_)
    | (refine call_roZ [.o 0] (hg2 _) GG_no rfl rfl rfl ⟨⟨_, rfl, _, _, rfl, cellsZ_v cellsZ_nil, rfl⟩, trivial⟩ ?_; rintro r bs' ext ⟨rfl, ⟨c'2, hc', rfl⟩, rfl⟩)
    | (refine fun (caps : Nat → Nat) hcaps => ?_; conv at hcaps => whnf)
    | (refine BB.mk (fun _h => ?_) (fun _h => ?_) <;> (first | (exact absurd _h (by decide)) | (exfalso; simp only [boolSet, List.map_nil, List.length_nil, List.map_cons, List.length_cons] at _h <;> omega) | (simp only [boolSet] at _h) | skip))
    | (refine And.intro (by omega) ?_)
    | (refine BB.mk (fun _h => ?_) (fun _h => ?_) <;> (first | (exact absurd _h (by decide)) | (exfalso; simp only [boolSet] at _h <;> omega) | skip)))
  all_goals (try conv => whnf)
  refine loop_rule (α := Nat × Nat) (fun p => p.1 ≤ 1 ∧ (p.1 = 1 → y'.fl.length ≤ p.2)) (fun p => { slots := [(4, .p (.n 1) 0 0 0), (5, .p (.n 2) 0 0 0), (30, .z 4 ([y'].map deC) c'2), (31, .v (.int .i64 ([y'].map deC).length)), (32, .v (.int .i64 (p.1 : Int)))], nt := 41, mem := ⟨GG, [.box 5 [.v (.int .u8 n)]], [.box 34 [.v (.bool true), .v (.bool true), .v (.int .u8 x.node), .v (.int .u16 x.inc), .v (.int .u8 x.age), .z 2 (x.fl.map spC) cx, .v (.int .u8 y.node), .v (.int .u16 y.inc), .v (.int .u8 y.age), .z 2 (y.fl.map spC) cy], .box 34 (outU x 0 0), .box 34 (outC y' p.2 p.1)]⟩ }) (fun p => 1 - p.1) (0, 0) ⟨Nat.zero_le _, fun h => by cases h⟩ ⟨⟨[0, 1, 2], by decide, GG_no, rfl, ⟨rfl, trivial⟩, ⟨rfl, rfl, rfl, trivial⟩, ⟨.inl rfl, .inl rfl, .inl rfl, .inl rfl, .inl rfl, trivial⟩⟩, rfl⟩ ?_ (fun _ => rfl)
  rintro ⟨k, cc⟩ ⟨hk, hvc⟩
  dsimp only at hk hvc ⊢
  rcases (show k = 0 ∨ k = 1 by omega) with rfl | rfl
  · refine vc_sound (C := seat) seat_ok (pl := [(6, (.of [(0, .take), (1, .take), (2, .do_), (3, .take), (4, .last)])), (12, (.of [(0, .take), (1, .take), (2, .do_), (3, .take), (4, .last)]))]) ?_
    repeat' ((try conv => whnf); first
      | (with_reducible refine OKv.go (C := seat) seat_ok ?_)
      | (with_reducible refine BB_true ?_)
      | (with_reducible refine BB_false ?_)
      | (with_reducible refine Both.mk ?_ ?_)
      | (with_reducible refine VS.mk ?_)
      | (refine PSem.go (C := seat) seat_ok ?_)
      | (refine And.intro (PlanOK.mk (by kernel_rfl) rfl (by kernel_rfl) (by kernel_rfl)) ?_)
      | (refine And.intro rfl (Exists.intro _ (And.intro (by first | assumption | rfl) ?_)))
      | (refine And.intro ⟨rfl, rfl, rfl⟩ ?_)
      | (refine And.intro ⟨by omega, by simp⟩ (Exists.intro _ (And.intro (by rfl) ?_)))
      | (refine fun (caps : Nat → Nat) hcaps => ?_; conv at hcaps => whnf)
      | (refine BB.mk (fun _h => ?_) (fun _h => ?_) <;> (first | (exact absurd _h (by decide)) | (exfalso; simp only [boolSet, List.map_nil, List.length_nil, List.map_cons, List.length_cons] at _h <;> omega) | (simp only [boolSet] at _h) | skip))
      | (refine And.intro (by omega) ?_)
      | (refine BB.mk (fun _h => ?_) (fun _h => ?_) <;> (first | (exact absurd _h (by decide)) | (exfalso; simp only [boolSet] at _h <;> omega) | skip)))
    all_goals (try conv => whnf)
    all_goals first
      | exact ⟨(1, caps 3), ⟨Nat.le_refl _, fun _ => by simpa using hcaps.1⟩, by dsimp only; omega, ⟨⟨[0, 1, 2], by decide, GG_no, rfl, ⟨rfl, trivial⟩, ⟨rfl, rfl, rfl, trivial⟩, ⟨.inl rfl, .inl rfl, .inl rfl, .inl rfl, .inl (num_eq (by dsimp only; decide)), trivial⟩⟩, rfl⟩⟩
      | trace_state
  · refine vc_sound (C := seat) seat_ok (pl := [(6, (.of [(0, .take), (1, .take), (2, .do_), (3, .take), (4, .last)])), (12, (.of [(0, .take), (1, .take), (2, .do_), (3, .take), (4, .last)]))]) ?_
    repeat' ((try conv => whnf); first
      | (with_reducible refine OKv.go (C := seat) seat_ok ?_)
      | (with_reducible refine BB_true ?_)
      | (with_reducible refine BB_false ?_)
      | (with_reducible refine Both.mk ?_ ?_)
      | (with_reducible refine VS.mk ?_)
      | (refine PSem.go (C := seat) seat_ok ?_)
      | (refine And.intro (PlanOK.mk (by kernel_rfl) rfl (by kernel_rfl) (by kernel_rfl)) ?_)
      | (refine And.intro rfl (Exists.intro _ (And.intro (by first | assumption | rfl) ?_)))
      | (refine And.intro ⟨rfl, rfl, rfl⟩ ?_)
      | (refine fun (caps : Nat → Nat) hcaps => ?_; conv at hcaps => whnf)
      | (refine BB.mk (fun _h => ?_) (fun _h => ?_) <;> (first | (exact absurd _h (by decide)) | (exfalso; simp only [boolSet, List.map_nil, List.length_nil, List.map_cons, List.length_cons] at _h <;> omega) | (simp only [boolSet] at _h) | skip))
      | (refine And.intro (by omega) ?_)
      | (refine BB.mk (fun _h => ?_) (fun _h => ?_) <;> (first | (exact absurd _h (by decide)) | (exfalso; simp only [boolSet] at _h <;> omega) | skip)))
    all_goals (try conv => whnf)
    all_goals first
      | exact ⟨_, _, (frz_aggT 5 (by rfl) (frz_nil _ 2) (by rfl)), rfl, rfl, fun _ => rfl, _, _, (by exact Nat.zero_le _), hvc rfl, rfl⟩
      | trace_state
set_option maxRecDepth 100000 in
set_option maxHeartbeats 4000000 in
theorem chg_10 (g : Nat) (n : Int) (x y x' y' : De) (cx cy : Nat) (hg1 : ∀ c, FnOK Try.prog GG g [.cst 5 [.v (.int .u8 n)]] [deS x c, .p (.o 0) 0 0 0] (fun r bs' ext => bs' = [.cst 5 [.v (.int .u8 n)]] ∧ (∃ c', 1 ≤ c' ∧ r = .z 4 ([x'].map deC) c') ∧ ext = [])) (hg2 : ∀ c, FnOK Try.prog GG g [.cst 5 [.v (.int .u8 n)]] [deS y c, .p (.o 0) 0 0 0] (fun r bs' ext => bs' = [.cst 5 [.v (.int .u8 n)]] ∧ (r = .z 4 (([] : List De).map deC) 0) ∧ ext = [])) : FnOK Try.prog GG 42 [.box 5 [.v (.int .u8 n)]] [ringS true true x y cx cy, .fn g [.p (.o 0) 0 0 0]] (fun r bs' ext => bs' = [.box 5 [.v (.int .u8 n)]] ∧ (∃ c1 c2, x'.fl.length ≤ c1 ∧ e00.fl.length ≤ c2 ∧ r = ringS true false x' e00 c1 c2) ∧ ext = []) := by
  refine FnOK.pureB GG_no (fun _ _ => ⟨rfl, trivial⟩) (fn_intro (C := seat) seat_ok [(6, (.of [(0, .take), (1, .take), (2, .do_), (3, .take), (4, .last)])), (12, (.of [(0, .take), (1, .take), (2, .do_), (3, .take), (4, .last)]))] GG_no (Try.func42) rfl rfl rfl rfl rfl ?_)
  repeat' ((try conv => whnf); first
    | (with_reducible refine OKv.go (C := seat) seat_ok ?_)
    | (with_reducible refine BB_true ?_)
    | (with_reducible refine BB_false ?_)
    | (with_reducible refine Both.mk ?_ ?_)
    | (with_reducible refine VS.mk ?_)
    | (refine PSem.go (C := seat) seat_ok ?_)
    | (refine And.intro (PlanOK.mk (by kernel_rfl) rfl (by kernel_rfl) (by kernel_rfl)) ?_)
    | (refine And.intro rfl (Exists.intro _ (And.intro (by first | assumption | rfl) ?_)))
    | (refine And.intro ⟨rfl, rfl, rfl⟩ ?_)
    | (refine call_roZ [.o 0] (hg1 _) GG_no rfl rfl rfl ⟨⟨_, rfl, _, _, rfl, cellsZ_v cellsZ_nil, rfl⟩, trivial⟩ ?_; rintro r bs' ext ⟨rfl, ⟨c'1, hc', rfl⟩, rfl⟩)
    | (refine fun (caps : Nat → Nat) hcaps => ?_; conv at hcaps => whnf)
    | (refine BB.mk (fun _h => ?_) (fun _h => ?_) <;> (first | (exact absurd _h (by decide)) | (exfalso; simp only [boolSet, List.map_nil, List.length_nil, List.map_cons, List.length_cons] at _h <;> omega) | (simp only [boolSet] at _h) | skip))
    | (refine And.intro (by omega) ?_)
    | (refine BB.mk (fun _h => ?_) (fun _h => ?_) <;> (first | (exact absurd _h (by decide)) | (exfalso; simp only [boolSet] at _h <;> omega) | skip)))
  all_goals (try conv => whnf)
  refine loop_rule (α := Nat × Nat) (fun p => p.1 ≤ 1 ∧ (p.1 = 1 → x'.fl.length ≤ p.2)) (fun p => { slots := [(1, .fn g [.p (.o 0) 0 0 0]), (2, .p (.n 0) 0 0 0), (4, .p (.n 1) 0 0 0), (5, .p (.n 2) 0 0 0), (15, .z 4 ([x'].map deC) c'1), (16, .v (.int .i64 ([x'].map deC).length)), (17, .v (.int .i64 (p.1 : Int)))], nt := 41, mem := ⟨GG, [.box 5 [.v (.int .u8 n)]], [.box 34 [.v (.bool true), .v (.bool true), .v (.int .u8 x.node), .v (.int .u16 x.inc), .v (.int .u8 x.age), .z 2 (x.fl.map spC) cx, .v (.int .u8 y.node), .v (.int .u16 y.inc), .v (.int .u8 y.age), .z 2 (y.fl.map spC) cy], .box 34 (outU x 0 0), .box 34 (outU x' p.2 p.1)]⟩ }) (fun p => 1 - p.1) (0, 0) ⟨Nat.zero_le _, fun h => by cases h⟩ ⟨⟨[0, 1, 2], by decide, GG_no, rfl, ⟨rfl, trivial⟩, ⟨rfl, rfl, rfl, trivial⟩, ⟨.inl rfl, .inl rfl, .inl rfl, .inl rfl, .inl rfl, .inl rfl, .inl rfl, trivial⟩⟩, rfl⟩ ?_ (fun _ => rfl)
  rintro ⟨k, ca⟩ ⟨hk, hua⟩
  dsimp only at hk hua ⊢
  rcases (show k = 0 ∨ k = 1 by omega) with rfl | rfl
  · refine vc_sound (C := seat) seat_ok (pl := [(6, (.of [(0, .take), (1, .take), (2, .do_), (3, .take), (4, .last)])), (12, (.of [(0, .take), (1, .take), (2, .do_), (3, .take), (4, .last)]))]) ?_
    repeat' ((try conv => whnf); first
      | (with_reducible refine OKv.go (C := seat) seat_ok ?_)
      | (with_reducible refine BB_true ?_)
      | (with_reducible refine BB_false ?_)
      | (with_reducible refine Both.mk ?_ ?_)
      | (with_reducible refine VS.mk ?_)
      | (refine PSem.go (C := seat) seat_ok ?_)
      | (refine And.intro (PlanOK.mk (by kernel_rfl) rfl (by kernel_rfl) (by kernel_rfl)) ?_)
      | (refine And.intro rfl (Exists.intro _ (And.intro (by first | assumption | rfl) ?_)))
      | (refine And.intro ⟨rfl, rfl, rfl⟩ ?_)
      | (refine And.intro ⟨by omega, by simp⟩ (Exists.intro _ (And.intro (by rfl) ?_)))
      | (refine fun (caps : Nat → Nat) hcaps => ?_; conv at hcaps => whnf)
      | (refine BB.mk (fun _h => ?_) (fun _h => ?_) <;> (first | (exact absurd _h (by decide)) | (exfalso; simp only [boolSet, List.map_nil, List.length_nil, List.map_cons, List.length_cons] at _h <;> omega) | (simp only [boolSet] at _h) | skip))
      | (refine And.intro (by omega) ?_)
      | (refine BB.mk (fun _h => ?_) (fun _h => ?_) <;> (first | (exact absurd _h (by decide)) | (exfalso; simp only [boolSet] at _h <;> omega) | skip)))
    all_goals (try conv => whnf)
    all_goals first
      | exact ⟨(1, caps 3), ⟨Nat.le_refl _, fun _ => by simpa using hcaps.1⟩, by dsimp only; omega, ⟨⟨[0, 1, 2], by decide, GG_no, rfl, ⟨rfl, trivial⟩, ⟨rfl, rfl, rfl, trivial⟩, ⟨.inl rfl, .inl rfl, .inl rfl, .inl rfl, .inl rfl, .inl rfl, .inl (num_eq (by dsimp only; decide)), trivial⟩⟩, rfl⟩⟩
      | trace_state
  · refine vc_sound (C := seat) seat_ok (pl := [(6, (.of [(0, .take), (1, .take), (2, .do_), (3, .take), (4, .last)])), (12, (.of [(0, .take), (1, .take), (2, .do_), (3, .take), (4, .last)]))]) ?_
    repeat' ((try conv => whnf); first
      | (with_reducible refine OKv.go (C := seat) seat_ok ?_)
      | (with_reducible refine BB_true ?_)
      | (with_reducible refine BB_false ?_)
      | (with_reducible refine Both.mk ?_ ?_)
      | (with_reducible refine VS.mk ?_)
      | (refine PSem.go (C := seat) seat_ok ?_)
      | (refine And.intro (PlanOK.mk (by kernel_rfl) rfl (by kernel_rfl) (by kernel_rfl)) ?_)
      | (refine And.intro rfl (Exists.intro _ (And.intro (by first | assumption | rfl) ?_)))
      | (refine And.intro ⟨rfl, rfl, rfl⟩ ?_)
      | (refine call_roZ [.o 0] (hg2 _) GG_no rfl rfl rfl ⟨⟨_, rfl, _, _, rfl, cellsZ_v cellsZ_nil, rfl⟩, trivial⟩ ?_; rintro r bs' ext ⟨rfl, rfl, rfl⟩)
      | (refine fun (caps : Nat → Nat) hcaps => ?_; conv at hcaps => whnf)
      | (refine BB.mk (fun _h => ?_) (fun _h => ?_) <;> (first | (exact absurd _h (by decide)) | (exfalso; simp only [boolSet, List.map_nil, List.length_nil, List.map_cons, List.length_cons] at _h <;> omega) | (simp only [boolSet] at _h) | skip))
      | (refine And.intro (by omega) ?_)
      | (refine BB.mk (fun _h => ?_) (fun _h => ?_) <;> (first | (exact absurd _h (by decide)) | (exfalso; simp only [boolSet] at _h <;> omega) | skip)))
    all_goals (try conv => whnf)
    refine loop_rule (α := Nat) (fun k => k ≤ 0) (fun k => { slots := [(4, .p (.n 1) 0 0 0), (5, .p (.n 2) 0 0 0), (30, .z 4 (([] : List De).map deC) 0), (31, .v (.int .i64 (([] : List De).map deC).length)), (32, .v (.int .i64 (k : Int)))], nt := 41, mem := ⟨GG, [.box 5 [.v (.int .u8 n)]], [.box 34 [.v (.bool true), .v (.bool true), .v (.int .u8 x.node), .v (.int .u16 x.inc), .v (.int .u8 x.age), .z 2 (x.fl.map spC) cx, .v (.int .u8 y.node), .v (.int .u16 y.inc), .v (.int .u8 y.age), .z 2 (y.fl.map spC) cy], .box 34 (outU x 0 0), .box 34 (outU x' ca 1)]⟩ }) (fun k => 0 - k) 0 (Nat.le_refl _) ⟨⟨[0, 1, 2], by decide, GG_no, rfl, ⟨rfl, trivial⟩, ⟨rfl, rfl, rfl, trivial⟩, ⟨.inl rfl, .inl rfl, .inl rfl, .inl rfl, .inl rfl, trivial⟩⟩, rfl⟩ ?_ (fun _ => rfl)
    intro k hk
    obtain rfl : k = 0 := by omega
    refine vc_sound (C := seat) seat_ok (pl := [(6, (.of [(0, .take), (1, .take), (2, .do_), (3, .take), (4, .last)])), (12, (.of [(0, .take), (1, .take), (2, .do_), (3, .take), (4, .last)]))]) ?_
    repeat' ((try conv => whnf); first
      | (with_reducible refine OKv.go (C := seat) seat_ok ?_)
      | (with_reducible refine BB_true ?_)
      | (with_reducible refine BB_false ?_)
      | (with_reducible refine Both.mk ?_ ?_)
      | (with_reducible refine VS.mk ?_)
      | (refine PSem.go (C := seat) seat_ok ?_)
      | (refine And.intro (PlanOK.mk (by kernel_rfl) rfl (by kernel_rfl) (by kernel_rfl)) ?_)
      | (refine And.intro rfl (Exists.intro _ (And.intro (by first | assumption | rfl) ?_)))
      | (refine And.intro ⟨rfl, rfl, rfl⟩ ?_)
      | (refine fun (caps : Nat → Nat) hcaps => ?_; conv at hcaps => whnf)
      | (refine BB.mk (fun _h => ?_) (fun _h => ?_) <;> (first | (exact absurd _h (by decide)) | (exfalso; simp only [boolSet, List.map_nil, List.length_nil, List.map_cons, List.length_cons] at _h <;> omega) | (simp only [boolSet] at _h) | skip))
      | (refine And.intro (by omega) ?_)
      | (refine BB.mk (fun _h => ?_) (fun _h => ?_) <;> (first | (exact absurd _h (by decide)) | (exfalso; simp only [boolSet] at _h <;> omega) | skip)))
    all_goals (try conv => whnf)
    all_goals first
      | exact ⟨_, _, (frz_aggT 9 (by rfl) (frz_nil _ 2) (by rfl)), rfl, rfl, fun _ => rfl, _, _, hua rfl, (by exact Nat.zero_le _), rfl⟩
      | trace_state
set_option maxRecDepth 100000 in
set_option maxHeartbeats 4000000 in
theorem chg_11 (g : Nat) (n : Int) (x y x' y' : De) (cx cy : Nat) (hg1 : ∀ c, FnOK Try.prog GG g [.cst 5 [.v (.int .u8 n)]] [deS x c, .p (.o 0) 0 0 0] (fun r bs' ext => bs' = [.cst 5 [.v (.int .u8 n)]] ∧ (∃ c', 1 ≤ c' ∧ r = .z 4 ([x'].map deC) c') ∧ ext = [])) (hg2 : ∀ c, FnOK Try.prog GG g [.cst 5 [.v (.int .u8 n)]] [deS y c, .p (.o 0) 0 0 0] (fun r bs' ext => bs' = [.cst 5 [.v (.int .u8 n)]] ∧ (∃ c', 1 ≤ c' ∧ r = .z 4 ([y'].map deC) c') ∧ ext = [])) : FnOK Try.prog GG 42 [.box 5 [.v (.int .u8 n)]] [ringS true true x y cx cy, .fn g [.p (.o 0) 0 0 0]] (fun r bs' ext => bs' = [.box 5 [.v (.int .u8 n)]] ∧ (∃ c1 c2, x'.fl.length ≤ c1 ∧ y'.fl.length ≤ c2 ∧ r = ringS true true x' y' c1 c2) ∧ ext = []) := by
  refine FnOK.pureB GG_no (fun _ _ => ⟨rfl, trivial⟩) (fn_intro (C := seat) seat_ok [(6, (.of [(0, .take), (1, .take), (2, .do_), (3, .take), (4, .last)])), (12, (.of [(0, .take), (1, .take), (2, .do_), (3, .take), (4, .last)]))] GG_no (Try.func42) rfl rfl rfl rfl rfl ?_)
  repeat' ((try conv => whnf); first
    | (with_reducible refine OKv.go (C := seat) seat_ok ?_)
    | (with_reducible refine BB_true ?_)
    | (with_reducible refine BB_false ?_)
    | (with_reducible refine Both.mk ?_ ?_)
    | (with_reducible refine VS.mk ?_)
    | (refine PSem.go (C := seat) seat_ok ?_)
    | (refine And.intro (PlanOK.mk (by kernel_rfl) rfl (by kernel_rfl) (by kernel_rfl)) ?_)
    | (refine And.intro rfl (Exists.intro _ (And.intro (by first | assumption | rfl) ?_)))
    | (refine And.intro ⟨rfl, rfl, rfl⟩ ?_)
    | (refine call_roZ [.o 0] (hg1 _) GG_no rfl rfl rfl ⟨⟨_, rfl, _, _, rfl, cellsZ_v cellsZ_nil, rfl⟩, trivial⟩ ?_; rintro r bs' ext ⟨rfl, ⟨c'1, hc', rfl⟩, rfl⟩)
    | (refine fun (caps : Nat → Nat) hcaps => ?_; conv at hcaps => whnf)
    | (refine BB.mk (fun _h => ?_) (fun _h => ?_) <;> (first | (exact absurd _h (by decide)) | (exfalso; simp only [boolSet, List.map_nil, List.length_nil, List.map_cons, List.length_cons] at _h <;> omega) | (simp only [boolSet] at _h) | skip))
    | (refine And.intro (by omega) ?_)
    | (refine BB.mk (fun _h => ?_) (fun _h => ?_) <;> (first | (exact absurd _h (by decide)) | (exfalso; simp only [boolSet] at _h <;> omega) | skip)))
  all_goals (try conv => whnf)
  refine loop_rule (α := Nat × Nat) (fun p => p.1 ≤ 1 ∧ (p.1 = 1 → x'.fl.length ≤ p.2)) (fun p => { slots := [(1, .fn g [.p (.o 0) 0 0 0]), (2, .p (.n 0) 0 0 0), (4, .p (.n 1) 0 0 0), (5, .p (.n 2) 0 0 0), (15, .z 4 ([x'].map deC) c'1), (16, .v (.int .i64 ([x'].map deC).length)), (17, .v (.int .i64 (p.1 : Int)))], nt := 41, mem := ⟨GG, [.box 5 [.v (.int .u8 n)]], [.box 34 [.v (.bool true), .v (.bool true), .v (.int .u8 x.node), .v (.int .u16 x.inc), .v (.int .u8 x.age), .z 2 (x.fl.map spC) cx, .v (.int .u8 y.node), .v (.int .u16 y.inc), .v (.int .u8 y.age), .z 2 (y.fl.map spC) cy], .box 34 (outU x 0 0), .box 34 (outU x' p.2 p.1)]⟩ }) (fun p => 1 - p.1) (0, 0) ⟨Nat.zero_le _, fun h => by cases h⟩ ⟨⟨[0, 1, 2], by decide, GG_no, rfl, ⟨rfl, trivial⟩, ⟨rfl, rfl, rfl, trivial⟩, ⟨.inl rfl, .inl rfl, .inl rfl, .inl rfl, .inl rfl, .inl rfl, .inl rfl, trivial⟩⟩, rfl⟩ ?_ (fun _ => rfl)
  rintro ⟨k, ca⟩ ⟨hk, hua⟩
  dsimp only at hk hua ⊢
  rcases (show k = 0 ∨ k = 1 by omega) with rfl | rfl
  · refine vc_sound (C := seat) seat_ok (pl := [(6, (.of [(0, .take), (1, .take), (2, .do_), (3, .take), (4, .last)])), (12, (.of [(0, .take), (1, .take), (2, .do_), (3, .take), (4, .last)]))]) ?_
    repeat' ((try conv => whnf); first
      | (with_reducible refine OKv.go (C := seat) seat_ok ?_)
      | (with_reducible refine BB_true ?_)
      | (with_reducible refine BB_false ?_)
      | (with_reducible refine Both.mk ?_ ?_)
      | (with_reducible refine VS.mk ?_)
      | (refine PSem.go (C := seat) seat_ok ?_)
      | (refine And.intro (PlanOK.mk (by kernel_rfl) rfl (by kernel_rfl) (by kernel_rfl)) ?_)
      | (refine And.intro rfl (Exists.intro _ (And.intro (by first | assumption | rfl) ?_)))
      | (refine And.intro ⟨rfl, rfl, rfl⟩ ?_)
      | (refine And.intro ⟨by omega, by simp⟩ (Exists.intro _ (And.intro (by rfl) ?_)))
      | (refine fun (caps : Nat → Nat) hcaps => ?_; conv at hcaps => whnf)
      | (refine BB.mk (fun _h => ?_) (fun _h => ?_) <;> (first | (exact absurd _h (by decide)) | (exfalso; simp only [boolSet, List.map_nil, List.length_nil, List.map_cons, List.length_cons] at _h <;> omega) | (simp only [boolSet] at _h) | skip))
      | (refine And.intro (by omega) ?_)
      | (refine BB.mk (fun _h => ?_) (fun _h => ?_) <;> (first | (exact absurd _h (by decide)) | (exfalso; simp only [boolSet] at _h <;> omega) | skip)))
    all_goals (try conv => whnf)
    all_goals first
      | exact ⟨(1, caps 3), ⟨Nat.le_refl _, fun _ => by simpa using hcaps.1⟩, by dsimp only; omega, ⟨⟨[0, 1, 2], by decide, GG_no, rfl, ⟨rfl, trivial⟩, ⟨rfl, rfl, rfl, trivial⟩, ⟨.inl rfl, .inl rfl, .inl rfl, .inl rfl, .inl rfl, .inl rfl, .inl (num_eq (by dsimp only; decide)), trivial⟩⟩, rfl⟩⟩
      | trace_state
  · refine vc_sound (C := seat) seat_ok (pl := [(6, (.of [(0, .take), (1, .take), (2, .do_), (3, .take), (4, .last)])), (12, (.of [(0, .take), (1, .take), (2, .do_), (3, .take), (4, .last)]))]) ?_
    repeat' ((try conv => whnf); first
      | (with_reducible refine OKv.go (C := seat) seat_ok ?_)
      | (with_reducible refine BB_true ?_)
      | (with_reducible refine BB_false ?_)
      | (with_reducible refine Both.mk ?_ ?_)
      | (with_reducible refine VS.mk ?_)
      | (refine PSem.go (C := seat) seat_ok ?_)
      | (refine And.intro (PlanOK.mk (by kernel_rfl) rfl (by kernel_rfl) (by kernel_rfl)) ?_)
      | (refine And.intro rfl (Exists.intro _ (And.intro (by first | assumption | rfl) ?_)))
      | (refine And.intro ⟨rfl, rfl, rfl⟩ ?_)
      | (refine call_roZ [.o 0] (hg2 _) GG_no rfl rfl rfl ⟨⟨_, rfl, _, _, rfl, cellsZ_v cellsZ_nil, rfl⟩, trivial⟩ ?_; rintro r bs' ext ⟨rfl, ⟨c'2, hc', rfl⟩, rfl⟩)
      | (refine fun (caps : Nat → Nat) hcaps => ?_; conv at hcaps => whnf)
      | (refine BB.mk (fun _h => ?_) (fun _h => ?_) <;> (first | (exact absurd _h (by decide)) | (exfalso; simp only [boolSet, List.map_nil, List.length_nil, List.map_cons, List.length_cons] at _h <;> omega) | (simp only [boolSet] at _h) | skip))
      | (refine And.intro (by omega) ?_)
      | (refine BB.mk (fun _h => ?_) (fun _h => ?_) <;> (first | (exact absurd _h (by decide)) | (exfalso; simp only [boolSet] at _h <;> omega) | skip)))
    all_goals (try conv => whnf)
    refine loop_rule (α := Nat × Nat) (fun p => p.1 ≤ 1 ∧ (p.1 = 1 → y'.fl.length ≤ p.2)) (fun p => { slots := [(4, .p (.n 1) 0 0 0), (5, .p (.n 2) 0 0 0), (30, .z 4 ([y'].map deC) c'2), (31, .v (.int .i64 ([y'].map deC).length)), (32, .v (.int .i64 (p.1 : Int)))], nt := 41, mem := ⟨GG, [.box 5 [.v (.int .u8 n)]], [.box 34 [.v (.bool true), .v (.bool true), .v (.int .u8 x.node), .v (.int .u16 x.inc), .v (.int .u8 x.age), .z 2 (x.fl.map spC) cx, .v (.int .u8 y.node), .v (.int .u16 y.inc), .v (.int .u8 y.age), .z 2 (y.fl.map spC) cy], .box 34 (outU x 0 0), .box 34 (outV x' ca y' p.2 p.1)]⟩ }) (fun p => 1 - p.1) (0, 0) ⟨Nat.zero_le _, fun h => by cases h⟩ ⟨⟨[0, 1, 2], by decide, GG_no, rfl, ⟨rfl, trivial⟩, ⟨rfl, rfl, rfl, trivial⟩, ⟨.inl rfl, .inl rfl, .inl rfl, .inl rfl, .inl rfl, trivial⟩⟩, rfl⟩ ?_ (fun _ => rfl)
    rintro ⟨k, cc⟩ ⟨hk, hvc⟩
    dsimp only at hk hvc ⊢
    rcases (show k = 0 ∨ k = 1 by omega) with rfl | rfl
    · refine vc_sound (C := seat) seat_ok (pl := [(6, (.of [(0, .take), (1, .take), (2, .do_), (3, .take), (4, .last)])), (12, (.of [(0, .take), (1, .take), (2, .do_), (3, .take), (4, .last)]))]) ?_
      repeat' ((try conv => whnf); first
        | (with_reducible refine OKv.go (C := seat) seat_ok ?_)
        | (with_reducible refine BB_true ?_)
        | (with_reducible refine BB_false ?_)
        | (with_reducible refine Both.mk ?_ ?_)
        | (with_reducible refine VS.mk ?_)
        | (refine PSem.go (C := seat) seat_ok ?_)
        | (refine And.intro (PlanOK.mk (by kernel_rfl) rfl (by kernel_rfl) (by kernel_rfl)) ?_)
        | (refine And.intro rfl (Exists.intro _ (And.intro (by first | assumption | rfl) ?_)))
        | (refine And.intro ⟨rfl, rfl, rfl⟩ ?_)
        | (refine And.intro ⟨by omega, by simp⟩ (Exists.intro _ (And.intro (by rfl) ?_)))
        | (refine fun (caps : Nat → Nat) hcaps => ?_; conv at hcaps => whnf)
        | (refine BB.mk (fun _h => ?_) (fun _h => ?_) <;> (first | (exact absurd _h (by decide)) | (exfalso; simp only [boolSet, List.map_nil, List.length_nil, List.map_cons, List.length_cons] at _h <;> omega) | (simp only [boolSet] at _h) | skip))
        | (refine And.intro (by omega) ?_)
        | (refine BB.mk (fun _h => ?_) (fun _h => ?_) <;> (first | (exact absurd _h (by decide)) | (exfalso; simp only [boolSet] at _h <;> omega) | skip)))
      all_goals (try conv => whnf)
      all_goals first
        | exact ⟨(1, caps 3), ⟨Nat.le_refl _, fun _ => by simpa using hcaps.1⟩, by dsimp only; omega, ⟨⟨[0, 1, 2], by decide, GG_no, rfl, ⟨rfl, trivial⟩, ⟨rfl, rfl, rfl, trivial⟩, ⟨.inl rfl, .inl rfl, .inl rfl, .inl rfl, .inl (num_eq (by dsimp only; decide)), trivial⟩⟩, rfl⟩⟩
        | trace_state
    · refine vc_sound (C := seat) seat_ok (pl := [(6, (.of [(0, .take), (1, .take), (2, .do_), (3, .take), (4, .last)])), (12, (.of [(0, .take), (1, .take), (2, .do_), (3, .take), (4, .last)]))]) ?_
      repeat' ((try conv => whnf); first
        | (with_reducible refine OKv.go (C := seat) seat_ok ?_)
        | (with_reducible refine BB_true ?_)
        | (with_reducible refine BB_false ?_)
        | (with_reducible refine Both.mk ?_ ?_)
        | (with_reducible refine VS.mk ?_)
        | (refine PSem.go (C := seat) seat_ok ?_)
        | (refine And.intro (PlanOK.mk (by kernel_rfl) rfl (by kernel_rfl) (by kernel_rfl)) ?_)
        | (refine And.intro rfl (Exists.intro _ (And.intro (by first | assumption | rfl) ?_)))
        | (refine And.intro ⟨rfl, rfl, rfl⟩ ?_)
        | (refine fun (caps : Nat → Nat) hcaps => ?_; conv at hcaps => whnf)
        | (refine BB.mk (fun _h => ?_) (fun _h => ?_) <;> (first | (exact absurd _h (by decide)) | (exfalso; simp only [boolSet, List.map_nil, List.length_nil, List.map_cons, List.length_cons] at _h <;> omega) | (simp only [boolSet] at _h) | skip))
        | (refine And.intro (by omega) ?_)
        | (refine BB.mk (fun _h => ?_) (fun _h => ?_) <;> (first | (exact absurd _h (by decide)) | (exfalso; simp only [boolSet] at _h <;> omega) | skip)))
      all_goals (try conv => whnf)
      all_goals first
        | exact ⟨_, _, FrzV.refl _ _, rfl, rfl, fun _ => rfl, _, _, hua rfl, hvc rfl, rfl⟩
        | trace_state
set_option maxRecDepth 100000 in
set_option maxHeartbeats 4000000 in
theorem cho_11 (g : Nat) (x y x' y' : De) (cx cy : Nat) (hg1 : ∀ c, FnOK Try.prog GG g [] [deS x c] (fun r _ ext => (∃ c', 1 ≤ c' ∧ r = .z 4 ([x'].map deC) c') ∧ ext = [])) (hg2 : ∀ c, FnOK Try.prog GG g [] [deS y c] (fun r _ ext => (∃ c', 1 ≤ c' ∧ r = .z 4 ([y'].map deC) c') ∧ ext = [])) : FnOK Try.prog GG 42 [] [ringS true true x y cx cy, .fn g []] (fun r _ ext => (∃ c1 c2, x'.fl.length ≤ c1 ∧ y'.fl.length ≤ c2 ∧ r = ringS true true x' y' c1 c2) ∧ ext = []) := by
  refine FnOK.pure GG_no rfl (fn_intro (C := seat) seat_ok [(6, (.of [(0, .take), (1, .take), (2, .do_), (3, .take), (4, .last)])), (12, (.of [(0, .take), (1, .take), (2, .do_), (3, .take), (4, .last)]))] GG_no (Try.func42) rfl rfl rfl rfl rfl ?_)
  repeat' ((try conv => whnf); first
    | (with_reducible refine OKv.go (C := seat) seat_ok ?_)
    | (with_reducible refine BB_true ?_)
    | (with_reducible refine BB_false ?_)
    | (with_reducible refine Both.mk ?_ ?_)
    | (with_reducible refine VS.mk ?_)
    | (refine PSem.go (C := seat) seat_ok ?_)
    | (refine And.intro (PlanOK.mk (by kernel_rfl) rfl (by kernel_rfl) (by kernel_rfl)) ?_)
    | (refine And.intro rfl (Exists.intro _ (And.intro (by first | assumption | rfl) ?_)))
    | (refine And.intro ⟨rfl, rfl, rfl⟩ ?_)
    | (refine call_ro [] (hg1 _) GG_no rfl rfl rfl trivial ?_; rintro r bs' ext ⟨⟨c'1, hc', rfl⟩, rfl⟩)
    | (refine fun (caps : Nat → Nat) hcaps => ?_; conv at hcaps => whnf)
    | (refine BB.mk (fun _h => ?_) (fun _h => ?_) <;> (first | (exact absurd _h (by decide)) | (exfalso; simp only [boolSet, List.map_nil, List.length_nil, List.map_cons, List.length_cons] at _h <;> omega) | (simp only [boolSet] at _h) | skip))
    | (refine And.intro (by omega) ?_)
    | (refine BB.mk (fun _h => ?_) (fun _h => ?_) <;> (first | (exact absurd _h (by decide)) | (exfalso; simp only [boolSet] at _h <;> omega) | skip)))
  all_goals (try conv => whnf)
  refine loop_rule (α := Nat × Nat) (fun p => p.1 ≤ 1 ∧ (p.1 = 1 → x'.fl.length ≤ p.2)) (fun p => { slots := [(1, .fn g []), (2, .p (.n 0) 0 0 0), (4, .p (.n 1) 0 0 0), (5, .p (.n 2) 0 0 0), (15, .z 4 ([x'].map deC) c'1), (16, .v (.int .i64 ([x'].map deC).length)), (17, .v (.int .i64 (p.1 : Int)))], nt := 41, mem := ⟨GG, [], [.box 34 [.v (.bool true), .v (.bool true), .v (.int .u8 x.node), .v (.int .u16 x.inc), .v (.int .u8 x.age), .z 2 (x.fl.map spC) cx, .v (.int .u8 y.node), .v (.int .u16 y.inc), .v (.int .u8 y.age), .z 2 (y.fl.map spC) cy], .box 34 (outU x 0 0), .box 34 (outU x' p.2 p.1)]⟩ }) (fun p => 1 - p.1) (0, 0) ⟨Nat.zero_le _, fun h => by cases h⟩ ⟨⟨[0, 1, 2], by decide, GG_no, rfl, SubOld.refl _ rfl, ⟨rfl, rfl, rfl, trivial⟩, ⟨.inl rfl, .inl rfl, .inl rfl, .inl rfl, .inl rfl, .inl rfl, .inl rfl, trivial⟩⟩, rfl⟩ ?_ (fun _ => rfl)
  rintro ⟨k, ca⟩ ⟨hk, hua⟩
  dsimp only at hk hua ⊢
  rcases (show k = 0 ∨ k = 1 by omega) with rfl | rfl
  · refine vc_sound (C := seat) seat_ok (pl := [(6, (.of [(0, .take), (1, .take), (2, .do_), (3, .take), (4, .last)])), (12, (.of [(0, .take), (1, .take), (2, .do_), (3, .take), (4, .last)]))]) ?_
    repeat' ((try conv => whnf); first
      | (with_reducible refine OKv.go (C := seat) seat_ok ?_)
      | (with_reducible refine BB_true ?_)
      | (with_reducible refine BB_false ?_)
      | (with_reducible refine Both.mk ?_ ?_)
      | (with_reducible refine VS.mk ?_)
      | (refine PSem.go (C := seat) seat_ok ?_)
      | (refine And.intro (PlanOK.mk (by kernel_rfl) rfl (by kernel_rfl) (by kernel_rfl)) ?_)
      | (refine And.intro rfl (Exists.intro _ (And.intro (by first | assumption | rfl) ?_)))
      | (refine And.intro ⟨rfl, rfl, rfl⟩ ?_)
      | (refine And.intro ⟨by omega, by simp⟩ (Exists.intro _ (And.intro (by rfl) ?_)))
      | (refine fun (caps : Nat → Nat) hcaps => ?_; conv at hcaps => whnf)
      | (refine BB.mk (fun _h => ?_) (fun _h => ?_) <;> (first | (exact absurd _h (by decide)) | (exfalso; simp only [boolSet, List.map_nil, List.length_nil, List.map_cons, List.length_cons] at _h <;> omega) | (simp only [boolSet] at _h) | skip))
      | (refine And.intro (by omega) ?_)
      | (refine BB.mk (fun _h => ?_) (fun _h => ?_) <;> (first | (exact absurd _h (by decide)) | (exfalso; simp only [boolSet] at _h <;> omega) | skip)))
    all_goals (try conv => whnf)
    all_goals first
      | exact ⟨(1, caps 3), ⟨Nat.le_refl _, fun _ => by simpa using hcaps.1⟩, by dsimp only; omega, ⟨⟨[0, 1, 2], by decide, GG_no, rfl, SubOld.refl _ rfl, ⟨rfl, rfl, rfl, trivial⟩, ⟨.inl rfl, .inl rfl, .inl rfl, .inl rfl, .inl rfl, .inl rfl, .inl (num_eq (by dsimp only; decide)), trivial⟩⟩, rfl⟩⟩
      | trace_state
  · refine vc_sound (C := seat) seat_ok (pl := [(6, (.of [(0, .take), (1, .take), (2, .do_), (3, .take), (4, .last)])), (12, (.of [(0, .take), (1, .take), (2, .do_), (3, .take), (4, .last)]))]) ?_
    repeat' ((try conv => whnf); first
      | (with_reducible refine OKv.go (C := seat) seat_ok ?_)
      | (with_reducible refine BB_true ?_)
      | (with_reducible refine BB_false ?_)
      | (with_reducible refine Both.mk ?_ ?_)
      | (with_reducible refine VS.mk ?_)
      | (refine PSem.go (C := seat) seat_ok ?_)
      | (refine And.intro (PlanOK.mk (by kernel_rfl) rfl (by kernel_rfl) (by kernel_rfl)) ?_)
      | (refine And.intro rfl (Exists.intro _ (And.intro (by first | assumption | rfl) ?_)))
      | (refine And.intro ⟨rfl, rfl, rfl⟩ ?_)
      | (refine call_ro [] (hg2 _) GG_no rfl rfl rfl trivial ?_; rintro r bs' ext ⟨⟨c'2, hc', rfl⟩, rfl⟩)
      | (refine fun (caps : Nat → Nat) hcaps => ?_; conv at hcaps => whnf)
      | (refine BB.mk (fun _h => ?_) (fun _h => ?_) <;> (first | (exact absurd _h (by decide)) | (exfalso; simp only [boolSet, List.map_nil, List.length_nil, List.map_cons, List.length_cons] at _h <;> omega) | (simp only [boolSet] at _h) | skip))
      | (refine And.intro (by omega) ?_)
      | (refine BB.mk (fun _h => ?_) (fun _h => ?_) <;> (first | (exact absurd _h (by decide)) | (exfalso; simp only [boolSet] at _h <;> omega) | skip)))
    all_goals (try conv => whnf)
    refine loop_rule (α := Nat × Nat) (fun p => p.1 ≤ 1 ∧ (p.1 = 1 → y'.fl.length ≤ p.2)) (fun p => { slots := [(4, .p (.n 1) 0 0 0), (5, .p (.n 2) 0 0 0), (30, .z 4 ([y'].map deC) c'2), (31, .v (.int .i64 ([y'].map deC).length)), (32, .v (.int .i64 (p.1 : Int)))], nt := 41, mem := ⟨GG, [], [.box 34 [.v (.bool true), .v (.bool true), .v (.int .u8 x.node), .v (.int .u16 x.inc), .v (.int .u8 x.age), .z 2 (x.fl.map spC) cx, .v (.int .u8 y.node), .v (.int .u16 y.inc), .v (.int .u8 y.age), .z 2 (y.fl.map spC) cy], .box 34 (outU x 0 0), .box 34 (outV x' ca y' p.2 p.1)]⟩ }) (fun p => 1 - p.1) (0, 0) ⟨Nat.zero_le _, fun h => by cases h⟩ ⟨⟨[0, 1, 2], by decide, GG_no, rfl, SubOld.refl _ rfl, ⟨rfl, rfl, rfl, trivial⟩, ⟨.inl rfl, .inl rfl, .inl rfl, .inl rfl, .inl rfl, trivial⟩⟩, rfl⟩ ?_ (fun _ => rfl)
    rintro ⟨k, cc⟩ ⟨hk, hvc⟩
    dsimp only at hk hvc ⊢
    rcases (show k = 0 ∨ k = 1 by omega) with rfl | rfl
    · refine vc_sound (C := seat) seat_ok (pl := [(6, (.of [(0, .take), (1, .take), (2, .do_), (3, .take), (4, .last)])), (12, (.of [(0, .take), (1, .take), (2, .do_), (3, .take), (4, .last)]))]) ?_
      repeat' ((try conv => whnf); first
        | (with_reducible refine OKv.go (C := seat) seat_ok ?_)
        | (with_reducible refine BB_true ?_)
        | (with_reducible refine BB_false ?_)
        | (with_reducible refine Both.mk ?_ ?_)
        | (with_reducible refine VS.mk ?_)
        | (refine PSem.go (C := seat) seat_ok ?_)
        | (refine And.intro (PlanOK.mk (by kernel_rfl) rfl (by kernel_rfl) (by kernel_rfl)) ?_)
        | (refine And.intro rfl (Exists.intro _ (And.intro (by first | assumption | rfl) ?_)))
        | (refine And.intro ⟨rfl, rfl, rfl⟩ ?_)
        | (refine And.intro ⟨by omega, by simp⟩ (Exists.intro _ (And.intro (by rfl) ?_)))
        | (refine fun (caps : Nat → Nat) hcaps => ?_; conv at hcaps => whnf)
        | (refine BB.mk (fun _h => ?_) (fun _h => ?_) <;> (first | (exact absurd _h (by decide)) | (exfalso; simp only [boolSet, List.map_nil, List.length_nil, List.map_cons, List.length_cons] at _h <;> omega) | (simp only [boolSet] at _h) | skip))
        | (refine And.intro (by omega) ?_)
        | (refine BB.mk (fun _h => ?_) (fun _h => ?_) <;> (first | (exact absurd _h (by decide)) | (exfalso; simp only [boolSet] at _h <;> omega) | skip)))
      all_goals (try conv => whnf)
      all_goals first
        | exact ⟨(1, caps 3), ⟨Nat.le_refl _, fun _ => by simpa using hcaps.1⟩, by dsimp only; omega, ⟨⟨[0, 1, 2], by decide, GG_no, rfl, SubOld.refl _ rfl, ⟨rfl, rfl, rfl, trivial⟩, ⟨.inl rfl, .inl rfl, .inl rfl, .inl rfl, .inl (num_eq (by dsimp only; decide)), trivial⟩⟩, rfl⟩⟩
        | trace_state
    · refine vc_sound (C := seat) seat_ok (pl := [(6, (.of [(0, .take), (1, .take), (2, .do_), (3, .take), (4, .last)])), (12, (.of [(0, .take), (1, .take), (2, .do_), (3, .take), (4, .last)]))]) ?_
      repeat' ((try conv => whnf); first
        | (with_reducible refine OKv.go (C := seat) seat_ok ?_)
        | (with_reducible refine BB_true ?_)
        | (with_reducible refine BB_false ?_)
        | (with_reducible refine Both.mk ?_ ?_)
        | (with_reducible refine VS.mk ?_)
        | (refine PSem.go (C := seat) seat_ok ?_)
        | (refine And.intro (PlanOK.mk (by kernel_rfl) rfl (by kernel_rfl) (by kernel_rfl)) ?_)
        | (refine And.intro rfl (Exists.intro _ (And.intro (by first | assumption | rfl) ?_)))
        | (refine And.intro ⟨rfl, rfl, rfl⟩ ?_)
        | (refine fun (caps : Nat → Nat) hcaps => ?_; conv at hcaps => whnf)
        | (refine BB.mk (fun _h => ?_) (fun _h => ?_) <;> (first | (exact absurd _h (by decide)) | (exfalso; simp only [boolSet, List.map_nil, List.length_nil, List.map_cons, List.length_cons] at _h <;> omega) | (simp only [boolSet] at _h) | skip))
        | (refine And.intro (by omega) ?_)
        | (refine BB.mk (fun _h => ?_) (fun _h => ?_) <;> (first | (exact absurd _h (by decide)) | (exfalso; simp only [boolSet] at _h <;> omega) | skip)))
      all_goals (try conv => whnf)
      all_goals first
        | exact ⟨_, _, FrzV.refl _ _, rfl, rfl, fun _ => rfl, _, _, hua rfl, hvc rfl, rfl⟩
        | trace_state
set_option maxRecDepth 100000 in
set_option maxHeartbeats 4000000 in
theorem chg_no (g : Nat) (n : Int) (cx cy : Nat) : FnOK Try.prog GG 42 [.box 5 [.v (.int .u8 n)]] [ringS false false e00 e00 cx cy, .fn g [.p (.o 0) 0 0 0]] (fun r bs' ext => bs' = [.box 5 [.v (.int .u8 n)]] ∧ (r = ringS false false e00 e00 0 0) ∧ ext = []) := by
  refine FnOK.pureB GG_no (fun _ _ => ⟨rfl, trivial⟩) (fn_intro (C := seat) seat_ok [(6, (.of [(0, .take), (1, .take), (2, .do_), (3, .take), (4, .last)])), (12, (.of [(0, .take), (1, .take), (2, .do_), (3, .take), (4, .last)]))] GG_no (Try.func42) rfl rfl rfl rfl rfl ?_)
  repeat' ((try conv => whnf); first
    | (with_reducible refine OKv.go (C := seat) seat_ok ?_)
    | (with_reducible refine BB_true ?_)
    | (with_reducible refine BB_false ?_)
    | (with_reducible refine Both.mk ?_ ?_)
    | (with_reducible refine VS.mk ?_)
    | (refine PSem.go (C := seat) seat_ok ?_)
    | (refine And.intro (PlanOK.mk (by kernel_rfl) rfl (by kernel_rfl) (by kernel_rfl)) ?_)
    | (refine And.intro rfl (Exists.intro _ (And.intro (by first | assumption | rfl) ?_)))
    | (refine And.intro ⟨rfl, rfl, rfl⟩ ?_)
    | (refine fun (caps : Nat → Nat) hcaps => ?_; conv at hcaps => whnf)
    | (refine BB.mk (fun _h => ?_) (fun _h => ?_) <;> (first | (exact absurd _h (by decide)) | (exfalso; simp only [boolSet, List.map_nil, List.length_nil, List.map_cons, List.length_cons] at _h <;> omega) | (simp only [boolSet] at _h) | skip))
    | (refine And.intro (by omega) ?_)
    | (refine BB.mk (fun _h => ?_) (fun _h => ?_) <;> (first | (exact absurd _h (by decide)) | (exfalso; simp only [boolSet] at _h <;> omega) | skip)))
  all_goals (try conv => whnf)
  all_goals exact ⟨_, _, (FrzV.trans (frz_aggT 5 (by rfl) (frz_nil _ 2) (by rfl)) (frz_aggT 9 (by rfl) (frz_nil _ 2) (by rfl))), rfl, rfl, fun _ => rfl, rfl⟩
set_option maxRecDepth 100000 in
set_option maxHeartbeats 4000000 in
theorem cho_no (g : Nat) (cx cy : Nat) : FnOK Try.prog GG 42 [] [ringS false false e00 e00 cx cy, .fn g []] (fun r _ ext => (r = ringS false false e00 e00 0 0) ∧ ext = []) := by
  refine FnOK.pure GG_no rfl (fn_intro (C := seat) seat_ok [(6, (.of [(0, .take), (1, .take), (2, .do_), (3, .take), (4, .last)])), (12, (.of [(0, .take), (1, .take), (2, .do_), (3, .take), (4, .last)]))] GG_no (Try.func42) rfl rfl rfl rfl rfl ?_)
  repeat' ((try conv => whnf); first
    | (with_reducible refine OKv.go (C := seat) seat_ok ?_)
    | (with_reducible refine BB_true ?_)
    | (with_reducible refine BB_false ?_)
    | (with_reducible refine Both.mk ?_ ?_)
    | (with_reducible refine VS.mk ?_)
    | (refine PSem.go (C := seat) seat_ok ?_)
    | (refine And.intro (PlanOK.mk (by kernel_rfl) rfl (by kernel_rfl) (by kernel_rfl)) ?_)
    | (refine And.intro rfl (Exists.intro _ (And.intro (by first | assumption | rfl) ?_)))
    | (refine And.intro ⟨rfl, rfl, rfl⟩ ?_)
    | (refine fun (caps : Nat → Nat) hcaps => ?_; conv at hcaps => whnf)
    | (refine BB.mk (fun _h => ?_) (fun _h => ?_) <;> (first | (exact absurd _h (by decide)) | (exfalso; simp only [boolSet, List.map_nil, List.length_nil, List.map_cons, List.length_cons] at _h <;> omega) | (simp only [boolSet] at _h) | skip))
    | (refine And.intro (by omega) ?_)
    | (refine BB.mk (fun _h => ?_) (fun _h => ?_) <;> (first | (exact absurd _h (by decide)) | (exfalso; simp only [boolSet] at _h <;> omega) | skip)))
  all_goals (try conv => whnf)
  all_goals exact ⟨_, _, (FrzV.trans (frz_aggT 5 (by rfl) (frz_nil _ 2) (by rfl)) (frz_aggT 9 (by rfl) (frz_nil _ 2) (by rfl))), rfl, rfl, fun _ => rfl, rfl⟩
set_option maxRecDepth 100000 in
set_option maxHeartbeats 4000000 in
theorem drop_00 (n : Int) (x y : De) (cx cy : Nat) (hx : x.fl.length ≤ 1099511627776) (hy : y.fl.length ≤ 1099511627776) (h1 : x.node = n) (h2 : y.node = n) : FnOK Try.prog GG 22 [] [ringS true true x y cx cy, .v (.int .u8 n)] (fun r _ ext => (∃ c1 c2, e00.fl.length ≤ c1 ∧ e00.fl.length ≤ c2 ∧ r = ringS false false e00 e00 c1 c2) ∧ ext = []) := by
  refine FnOK.pure GG_no rfl (fn_intro (C := seat) seat_ok [] GG_no (Try.func22) rfl rfl rfl rfl rfl ?_)
  repeat' ((try conv => whnf); first
    | (with_reducible refine OKv.go (C := seat) seat_ok ?_)
    | (with_reducible refine BB_true ?_)
    | (with_reducible refine BB_false ?_)
    | (with_reducible refine Both.mk ?_ ?_)
    | (with_reducible refine VS.mk ?_)
    | (refine PSem.go (C := seat) seat_ok ?_)
    | (refine And.intro (PlanOK.mk (by kernel_rfl) rfl (by kernel_rfl) (by kernel_rfl)) ?_)
    | (refine And.intro rfl (Exists.intro _ (And.intro (by first | assumption | rfl) ?_)))
    | (refine And.intro ⟨rfl, rfl, rfl⟩ ?_)
    | (refine call_same [.n 1] (chg_00 43 n x y x y _ _ (fun c => drop1_no x c n hx h1) (fun c => drop1_no y c n hy h2)) GG_no rfl rfl rfl ⟨⟨_, rfl, .inr ⟨(fun _ h => by cases h), rfl⟩⟩, trivial⟩ (by decide) ?_; rintro r bs' ext ⟨rfl, ⟨c1, c2, hc1, hc2, rfl⟩, rfl⟩; refine And.intro rfl ?_)
    | (refine fun (caps : Nat → Nat) hcaps => ?_; conv at hcaps => whnf)
    | (refine BB.mk (fun _h => ?_) (fun _h => ?_) <;> (first | (exact absurd _h (by decide)) | (exfalso; simp only [boolSet] at _h <;> omega) | (simp only [boolSet] at _h) | skip))
    | (refine And.intro (by omega) ?_)
    | (refine BB.mk (fun _h => ?_) (fun _h => ?_) <;> (first | (exact absurd _h (by decide)) | (exfalso; simp only [boolSet] at _h <;> omega) | skip)))
  all_goals (try conv => whnf)
  all_goals first
    | exact ⟨_, _, FrzV.refl _ _, rfl, rfl, fun _ => rfl, _, _, hc1, hc2, rfl⟩
    | trace_state
set_option maxRecDepth 100000 in
set_option maxHeartbeats 4000000 in
theorem drop_01 (n : Int) (x y : De) (cx cy : Nat) (hx : x.fl.length ≤ 1099511627776) (hy : y.fl.length ≤ 1099511627776) (h1 : x.node = n) (h2 : y.node ≠ n) : FnOK Try.prog GG 22 [] [ringS true true x y cx cy, .v (.int .u8 n)] (fun r _ ext => (∃ c1 c2, e00.fl.length ≤ c1 ∧ y.fl.length ≤ c2 ∧ r = ringS false true e00 y c1 c2) ∧ ext = []) := by
  refine FnOK.pure GG_no rfl (fn_intro (C := seat) seat_ok [] GG_no (Try.func22) rfl rfl rfl rfl rfl ?_)
  repeat' ((try conv => whnf); first
    | (with_reducible refine OKv.go (C := seat) seat_ok ?_)
    | (with_reducible refine BB_true ?_)
    | (with_reducible refine BB_false ?_)
    | (with_reducible refine Both.mk ?_ ?_)
    | (with_reducible refine VS.mk ?_)
    | (refine PSem.go (C := seat) seat_ok ?_)
    | (refine And.intro (PlanOK.mk (by kernel_rfl) rfl (by kernel_rfl) (by kernel_rfl)) ?_)
    | (refine And.intro rfl (Exists.intro _ (And.intro (by first | assumption | rfl) ?_)))
    | (refine And.intro ⟨rfl, rfl, rfl⟩ ?_)
    | (refine call_same [.n 1] (chg_01 43 n x y x y _ _ (fun c => drop1_no x c n hx h1) (fun c => drop1_yes y c n hy h2)) GG_no rfl rfl rfl ⟨⟨_, rfl, .inr ⟨(fun _ h => by cases h), rfl⟩⟩, trivial⟩ (by decide) ?_; rintro r bs' ext ⟨rfl, ⟨c1, c2, hc1, hc2, rfl⟩, rfl⟩; refine And.intro rfl ?_)
    | (refine fun (caps : Nat → Nat) hcaps => ?_; conv at hcaps => whnf)
    | (refine BB.mk (fun _h => ?_) (fun _h => ?_) <;> (first | (exact absurd _h (by decide)) | (exfalso; simp only [boolSet] at _h <;> omega) | (simp only [boolSet] at _h) | skip))
    | (refine And.intro (by omega) ?_)
    | (refine BB.mk (fun _h => ?_) (fun _h => ?_) <;> (first | (exact absurd _h (by decide)) | (exfalso; simp only [boolSet] at _h <;> omega) | skip)))
  all_goals (try conv => whnf)
  all_goals first
    | exact ⟨_, _, FrzV.refl _ _, rfl, rfl, fun _ => rfl, _, _, hc1, hc2, rfl⟩
    | trace_state
set_option maxRecDepth 100000 in
set_option maxHeartbeats 4000000 in
theorem drop_10 (n : Int) (x y : De) (cx cy : Nat) (hx : x.fl.length ≤ 1099511627776) (hy : y.fl.length ≤ 1099511627776) (h1 : x.node ≠ n) (h2 : y.node = n) : FnOK Try.prog GG 22 [] [ringS true true x y cx cy, .v (.int .u8 n)] (fun r _ ext => (∃ c1 c2, x.fl.length ≤ c1 ∧ e00.fl.length ≤ c2 ∧ r = ringS true false x e00 c1 c2) ∧ ext = []) := by
  refine FnOK.pure GG_no rfl (fn_intro (C := seat) seat_ok [] GG_no (Try.func22) rfl rfl rfl rfl rfl ?_)
  repeat' ((try conv => whnf); first
    | (with_reducible refine OKv.go (C := seat) seat_ok ?_)
    | (with_reducible refine BB_true ?_)
    | (with_reducible refine BB_false ?_)
    | (with_reducible refine Both.mk ?_ ?_)
    | (with_reducible refine VS.mk ?_)
    | (refine PSem.go (C := seat) seat_ok ?_)
    | (refine And.intro (PlanOK.mk (by kernel_rfl) rfl (by kernel_rfl) (by kernel_rfl)) ?_)
    | (refine And.intro rfl (Exists.intro _ (And.intro (by first | assumption | rfl) ?_)))
    | (refine And.intro ⟨rfl, rfl, rfl⟩ ?_)
    | (refine call_same [.n 1] (chg_10 43 n x y x y _ _ (fun c => drop1_yes x c n hx h1) (fun c => drop1_no y c n hy h2)) GG_no rfl rfl rfl ⟨⟨_, rfl, .inr ⟨(fun _ h => by cases h), rfl⟩⟩, trivial⟩ (by decide) ?_; rintro r bs' ext ⟨rfl, ⟨c1, c2, hc1, hc2, rfl⟩, rfl⟩; refine And.intro rfl ?_)
    | (refine fun (caps : Nat → Nat) hcaps => ?_; conv at hcaps => whnf)
    | (refine BB.mk (fun _h => ?_) (fun _h => ?_) <;> (first | (exact absurd _h (by decide)) | (exfalso; simp only [boolSet] at _h <;> omega) | (simp only [boolSet] at _h) | skip))
    | (refine And.intro (by omega) ?_)
    | (refine BB.mk (fun _h => ?_) (fun _h => ?_) <;> (first | (exact absurd _h (by decide)) | (exfalso; simp only [boolSet] at _h <;> omega) | skip)))
  all_goals (try conv => whnf)
  all_goals first
    | exact ⟨_, _, FrzV.refl _ _, rfl, rfl, fun _ => rfl, _, _, hc1, hc2, rfl⟩
    | trace_state
set_option maxRecDepth 100000 in
set_option maxHeartbeats 4000000 in
theorem drop_11 (n : Int) (x y : De) (cx cy : Nat) (hx : x.fl.length ≤ 1099511627776) (hy : y.fl.length ≤ 1099511627776) (h1 : x.node ≠ n) (h2 : y.node ≠ n) : FnOK Try.prog GG 22 [] [ringS true true x y cx cy, .v (.int .u8 n)] (fun r _ ext => (∃ c1 c2, x.fl.length ≤ c1 ∧ y.fl.length ≤ c2 ∧ r = ringS true true x y c1 c2) ∧ ext = []) := by
  refine FnOK.pure GG_no rfl (fn_intro (C := seat) seat_ok [] GG_no (Try.func22) rfl rfl rfl rfl rfl ?_)
  repeat' ((try conv => whnf); first
    | (with_reducible refine OKv.go (C := seat) seat_ok ?_)
    | (with_reducible refine BB_true ?_)
    | (with_reducible refine BB_false ?_)
    | (with_reducible refine Both.mk ?_ ?_)
    | (with_reducible refine VS.mk ?_)
    | (refine PSem.go (C := seat) seat_ok ?_)
    | (refine And.intro (PlanOK.mk (by kernel_rfl) rfl (by kernel_rfl) (by kernel_rfl)) ?_)
    | (refine And.intro rfl (Exists.intro _ (And.intro (by first | assumption | rfl) ?_)))
    | (refine And.intro ⟨rfl, rfl, rfl⟩ ?_)
    | (refine call_same [.n 1] (chg_11 43 n x y x y _ _ (fun c => drop1_yes x c n hx h1) (fun c => drop1_yes y c n hy h2)) GG_no rfl rfl rfl ⟨⟨_, rfl, .inr ⟨(fun _ h => by cases h), rfl⟩⟩, trivial⟩ (by decide) ?_; rintro r bs' ext ⟨rfl, ⟨c1, c2, hc1, hc2, rfl⟩, rfl⟩; refine And.intro rfl ?_)
    | (refine fun (caps : Nat → Nat) hcaps => ?_; conv at hcaps => whnf)
    | (refine BB.mk (fun _h => ?_) (fun _h => ?_) <;> (first | (exact absurd _h (by decide)) | (exfalso; simp only [boolSet] at _h <;> omega) | (simp only [boolSet] at _h) | skip))
    | (refine And.intro (by omega) ?_)
    | (refine BB.mk (fun _h => ?_) (fun _h => ?_) <;> (first | (exact absurd _h (by decide)) | (exfalso; simp only [boolSet] at _h <;> omega) | skip)))
  all_goals (try conv => whnf)
  all_goals first
    | exact ⟨_, _, FrzV.refl _ _, rfl, rfl, fun _ => rfl, _, _, hc1, hc2, rfl⟩
    | trace_state
set_option maxRecDepth 100000 in
set_option maxHeartbeats 4000000 in
theorem drop_non (n : Int) (cx cy : Nat) : FnOK Try.prog GG 22 [] [ringS false false e00 e00 cx cy, .v (.int .u8 n)] (fun r _ ext => (r = ringS false false e00 e00 0 0) ∧ ext = []) := by
  refine FnOK.pure GG_no rfl (fn_intro (C := seat) seat_ok [] GG_no (Try.func22) rfl rfl rfl rfl rfl ?_)
  repeat' ((try conv => whnf); first
    | (with_reducible refine OKv.go (C := seat) seat_ok ?_)
    | (with_reducible refine BB_true ?_)
    | (with_reducible refine BB_false ?_)
    | (with_reducible refine Both.mk ?_ ?_)
    | (with_reducible refine VS.mk ?_)
    | (refine PSem.go (C := seat) seat_ok ?_)
    | (refine And.intro (PlanOK.mk (by kernel_rfl) rfl (by kernel_rfl) (by kernel_rfl)) ?_)
    | (refine And.intro rfl (Exists.intro _ (And.intro (by first | assumption | rfl) ?_)))
    | (refine And.intro ⟨rfl, rfl, rfl⟩ ?_)
    | (refine call_same [.n 1] (chg_no 43 n _ _) GG_no rfl rfl rfl ⟨⟨_, rfl, .inr ⟨(fun _ h => by cases h), rfl⟩⟩, trivial⟩ (by decide) ?_; rintro r bs' ext ⟨rfl, rfl, rfl⟩; refine And.intro rfl ?_)
    | (refine fun (caps : Nat → Nat) hcaps => ?_; conv at hcaps => whnf)
    | (refine BB.mk (fun _h => ?_) (fun _h => ?_) <;> (first | (exact absurd _h (by decide)) | (exfalso; simp only [boolSet] at _h <;> omega) | (simp only [boolSet] at _h) | skip))
    | (refine And.intro (by omega) ?_)
    | (refine BB.mk (fun _h => ?_) (fun _h => ?_) <;> (first | (exact absurd _h (by decide)) | (exfalso; simp only [boolSet] at _h <;> omega) | skip)))
  all_goals (try conv => whnf)
  all_goals first
    | exact ⟨_, _, FrzV.refl _ _, rfl, rfl, fun _ => rfl, rfl⟩
    | trace_state
set_option maxRecDepth 100000 in
set_option maxHeartbeats 4000000 in
theorem older1_z (d : De) (c : Nat) (hf : d.fl.length ≤ 1099511627776) (ha : 0 ≤ d.age ∧ d.age ≤ 255) : FnOK Try.prog GG 44 [] [deS d c] (fun r _ ext => (∃ c', 1 ≤ c' ∧ r = .z 4 ([older d].map deC) c') ∧ ext = []) := by
  refine FnOK.pure GG_no rfl (fn_intro (C := seat) seat_ok [] GG_no (Try.func44) rfl rfl rfl rfl rfl ?_)
  repeat' ((try conv => whnf); first
    | (with_reducible refine OKv.go (C := seat) seat_ok ?_)
    | (with_reducible refine BB_true ?_)
    | (with_reducible refine BB_false ?_)
    | (with_reducible refine Both.mk ?_ ?_)
    | (with_reducible refine VS.mk ?_)
    | (refine PSem.go (C := seat) seat_ok ?_)
    | (refine And.intro (PlanOK.mk (by kernel_rfl) rfl (by kernel_rfl) (by kernel_rfl)) ?_)
    | (refine And.intro rfl (Exists.intro _ (And.intro (by first | assumption | rfl) ?_)))
    | (refine And.intro ⟨rfl, rfl, rfl⟩ ?_)
    | (refine call_frz 0 rfl (frz_row (by rfl) (by rfl)) ?_; refine call_ro [] (older_zz [d] _ (by simp) (fun y hy => by rw [List.mem_singleton.1 hy]; exact hf) (fun y hy => by rw [List.mem_singleton.1 hy]; exact ha)) GG_no rfl rfl rfl trivial ?_; rintro r bs' ext ⟨⟨c', hc', rfl⟩, rfl⟩)
    | (refine fun (caps : Nat → Nat) hcaps => ?_; conv at hcaps => whnf)
    | (refine BB.mk (fun _h => ?_) (fun _h => ?_) <;> (first | (exact absurd _h (by decide)) | (exfalso; simp only [boolSet] at _h <;> omega) | (simp only [boolSet] at _h) | skip))
    | (refine And.intro (by omega) ?_)
    | (refine BB.mk (fun _h => ?_) (fun _h => ?_) <;> (first | (exact absurd _h (by decide)) | (exfalso; simp only [boolSet] at _h <;> omega) | skip)))
  all_goals (try conv => whnf)
  all_goals first
    | exact ⟨_, _, FrzV.refl _ _, rfl, rfl, fun _ => rfl, c', by simpa using hc', rfl⟩
    | trace_state
set_option maxRecDepth 100000 in
set_option maxHeartbeats 4000000 in
theorem older_tt (x y : De) (cx cy : Nat) (hx : x.fl.length ≤ 1099511627776) (hy : y.fl.length ≤ 1099511627776) (ha : 0 ≤ x.age ∧ x.age ≤ 255) (hb : 0 ≤ y.age ∧ y.age ≤ 255) : FnOK Try.prog GG 24 [] [ringS true true x y cx cy] (fun r _ ext => (∃ c1 c2, (older x).fl.length ≤ c1 ∧ (older y).fl.length ≤ c2 ∧ r = ringS true true (older x) (older y) c1 c2) ∧ ext = []) := by
  refine FnOK.pure GG_no rfl (fn_intro (C := seat) seat_ok [] GG_no (Try.func24) rfl rfl rfl rfl rfl ?_)
  repeat' ((try conv => whnf); first
    | (with_reducible refine OKv.go (C := seat) seat_ok ?_)
    | (with_reducible refine BB_true ?_)
    | (with_reducible refine BB_false ?_)
    | (with_reducible refine Both.mk ?_ ?_)
    | (with_reducible refine VS.mk ?_)
    | (refine PSem.go (C := seat) seat_ok ?_)
    | (refine And.intro (PlanOK.mk (by kernel_rfl) rfl (by kernel_rfl) (by kernel_rfl)) ?_)
    | (refine And.intro rfl (Exists.intro _ (And.intro (by first | assumption | rfl) ?_)))
    | (refine And.intro ⟨rfl, rfl, rfl⟩ ?_)
    | (refine call_ro [] (cho_11 44 x y (older x) (older y) _ _ (fun c => older1_z x c hx ha) (fun c => older1_z y c hy hb)) GG_no rfl rfl rfl trivial ?_; rintro r bs' ext ⟨⟨c1, c2, hc1, hc2, rfl⟩, rfl⟩)
    | (refine fun (caps : Nat → Nat) hcaps => ?_; conv at hcaps => whnf)
    | (refine BB.mk (fun _h => ?_) (fun _h => ?_) <;> (first | (exact absurd _h (by decide)) | (exfalso; simp only [boolSet] at _h <;> omega) | (simp only [boolSet] at _h) | skip))
    | (refine And.intro (by omega) ?_)
    | (refine BB.mk (fun _h => ?_) (fun _h => ?_) <;> (first | (exact absurd _h (by decide)) | (exfalso; simp only [boolSet] at _h <;> omega) | skip)))
  all_goals (try conv => whnf)
  all_goals first
    | exact ⟨_, _, FrzV.refl _ _, rfl, rfl, fun _ => rfl, _, _, hc1, hc2, rfl⟩
    | trace_state
set_option maxRecDepth 100000 in
set_option maxHeartbeats 4000000 in
theorem older_ff (cx cy : Nat) : FnOK Try.prog GG 24 [] [ringS false false e00 e00 cx cy] (fun r _ ext => (r = ringS false false e00 e00 0 0) ∧ ext = []) := by
  refine FnOK.pure GG_no rfl (fn_intro (C := seat) seat_ok [] GG_no (Try.func24) rfl rfl rfl rfl rfl ?_)
  repeat' ((try conv => whnf); first
    | (with_reducible refine OKv.go (C := seat) seat_ok ?_)
    | (with_reducible refine BB_true ?_)
    | (with_reducible refine BB_false ?_)
    | (with_reducible refine Both.mk ?_ ?_)
    | (with_reducible refine VS.mk ?_)
    | (refine PSem.go (C := seat) seat_ok ?_)
    | (refine And.intro (PlanOK.mk (by kernel_rfl) rfl (by kernel_rfl) (by kernel_rfl)) ?_)
    | (refine And.intro rfl (Exists.intro _ (And.intro (by first | assumption | rfl) ?_)))
    | (refine And.intro ⟨rfl, rfl, rfl⟩ ?_)
    | (refine call_ro [] (cho_no 44 _ _) GG_no rfl rfl rfl trivial ?_; rintro r bs' ext ⟨rfl, rfl⟩)
    | (refine fun (caps : Nat → Nat) hcaps => ?_; conv at hcaps => whnf)
    | (refine BB.mk (fun _h => ?_) (fun _h => ?_) <;> (first | (exact absurd _h (by decide)) | (exfalso; simp only [boolSet] at _h <;> omega) | (simp only [boolSet] at _h) | skip))
    | (refine And.intro (by omega) ?_)
    | (refine BB.mk (fun _h => ?_) (fun _h => ?_) <;> (first | (exact absurd _h (by decide)) | (exfalso; simp only [boolSet] at _h <;> omega) | skip)))
  all_goals (try conv => whnf)
  all_goals first
    | exact ⟨_, _, FrzV.refl _ _, rfl, rfl, fun _ => rfl, rfl⟩
    | trace_state
def listR (x y : De) : List De := if x.node < y.node then [x, y] else if y.node < x.node then [y, x] else [x]
set_option maxRecDepth 100000 in
set_option maxHeartbeats 4000000 in
theorem newer_same (x : De) (c1 c2 : Nat) : FnOK Try.prog GG 40 [] [deS x c1, deS x c2] (fun r _ ext => (r = .v (.bool false)) ∧ ext = []) := by
  refine FnOK.pure GG_no rfl (fn_intro (C := seat) seat_ok [] GG_no (Try.func40) rfl rfl rfl rfl rfl ?_)
  repeat' ((try conv => whnf); first
    | (with_reducible refine OKv.go (C := seat) seat_ok ?_)
    | (with_reducible refine BB_true ?_)
    | (with_reducible refine BB_false ?_)
    | (with_reducible refine Both.mk ?_ ?_)
    | (with_reducible refine VS.mk ?_)
    | (refine PSem.go (C := seat) seat_ok ?_)
    | (refine And.intro (PlanOK.mk (by kernel_rfl) rfl (by kernel_rfl) (by kernel_rfl)) ?_)
    | (refine And.intro rfl (Exists.intro _ (And.intro (by first | assumption | rfl) ?_)))
    | (refine And.intro ⟨rfl, rfl, rfl⟩ ?_)
    | (refine fun (caps : Nat → Nat) hcaps => ?_; conv at hcaps => whnf)
    | (refine BB.mk (fun _h => ?_) (fun _h => ?_) <;> (first | (exact absurd _h (by decide)) | (exfalso; simp only [boolSet] at _h <;> omega) | (simp only [boolSet] at _h) | skip))
    | (refine And.intro (by omega) ?_)
    | (refine BB.mk (fun _h => ?_) (fun _h => ?_) <;> (first | (exact absurd _h (by decide)) | (exfalso; simp only [boolSet] at _h <;> omega) | skip)))
  all_goals (try conv => whnf)
  all_goals first
    | exact ⟨_, _, FrzV.refl _ _, rfl, rfl, fun _ => rfl, rfl⟩
    | exact ⟨_, _, FrzV.refl _ _, rfl, rfl, fun _ => rfl, bool_eq (by simp)⟩
    | (exfalso; omega)
    | trace_state
set_option maxRecDepth 100000 in
set_option maxHeartbeats 4000000 in
theorem l_lt (x y : De) (cx cy : Nat) (hx : x.fl.length ≤ 1099511627776) (hy : y.fl.length ≤ 1099511627776) (h : x.node < y.node) : FnOK Try.prog GG 20 [] [ringS true true x y cx cy] (fun r _ ext => (∃ c', r = .z 4 ([x, y].map deC) c') ∧ ext = []) := by
  refine FnOK.pure GG_no rfl (fn_intro (C := seat) seat_ok [] GG_no (Try.func20) rfl rfl rfl rfl rfl ?_)
  repeat' ((try conv => whnf); first
    | (with_reducible refine OKv.go (C := seat) seat_ok ?_)
    | (with_reducible refine BB_true ?_)
    | (with_reducible refine BB_false ?_)
    | (with_reducible refine Both.mk ?_ ?_)
    | (with_reducible refine VS.mk ?_)
    | (refine PSem.go (C := seat) seat_ok ?_)
    | (refine And.intro (PlanOK.mk (by kernel_rfl) rfl (by kernel_rfl) (by kernel_rfl)) ?_)
    | (refine And.intro rfl (Exists.intro _ (And.intro (by first | assumption | rfl) ?_)))
    | (refine And.intro ⟨rfl, rfl, rfl⟩ ?_)
    | (refine call_frz 0 rfl (frz_row (by rfl) (by rfl)) ?_; refine call_ro [] (copy_zz [x, y] _ (by simp) (fun z hz => by rcases List.mem_cons.1 hz with rfl | h; exact hx; rw [List.mem_singleton.1 h]; exact hy)) GG_no rfl rfl rfl trivial ?_; rintro r bs' ext ⟨⟨c', hc', rfl⟩, rfl⟩)
    | (refine fun (caps : Nat → Nat) hcaps => ?_; conv at hcaps => whnf)
    | (refine BB.mk (fun _h => ?_) (fun _h => ?_) <;> (first | (exact absurd _h (by decide)) | (exfalso; simp only [boolSet] at _h <;> omega) | (simp only [boolSet] at _h) | skip))
    | (refine And.intro (by omega) ?_)
    | (refine BB.mk (fun _h => ?_) (fun _h => ?_) <;> (first | (exact absurd _h (by decide)) | (exfalso; simp only [boolSet] at _h <;> omega) | skip)))
  all_goals (try conv => whnf)
  all_goals first
    | exact ⟨_, _, FrzV.refl _ _, rfl, rfl, fun _ => rfl, c', rfl⟩
    | (exfalso; omega)
    | trace_state
set_option maxRecDepth 100000 in
set_option maxHeartbeats 4000000 in
theorem l_gt (x y : De) (cx cy : Nat) (hx : x.fl.length ≤ 1099511627776) (hy : y.fl.length ≤ 1099511627776) (h : y.node < x.node) : FnOK Try.prog GG 20 [] [ringS true true x y cx cy] (fun r _ ext => (∃ c', r = .z 4 ([y, x].map deC) c') ∧ ext = []) := by
  refine FnOK.pure GG_no rfl (fn_intro (C := seat) seat_ok [] GG_no (Try.func20) rfl rfl rfl rfl rfl ?_)
  repeat' ((try conv => whnf); first
    | (with_reducible refine OKv.go (C := seat) seat_ok ?_)
    | (with_reducible refine BB_true ?_)
    | (with_reducible refine BB_false ?_)
    | (with_reducible refine Both.mk ?_ ?_)
    | (with_reducible refine VS.mk ?_)
    | (refine PSem.go (C := seat) seat_ok ?_)
    | (refine And.intro (PlanOK.mk (by kernel_rfl) rfl (by kernel_rfl) (by kernel_rfl)) ?_)
    | (refine And.intro rfl (Exists.intro _ (And.intro (by first | assumption | rfl) ?_)))
    | (refine And.intro ⟨rfl, rfl, rfl⟩ ?_)
    | (refine call_frz 0 rfl (frz_row (by rfl) (by rfl)) ?_; refine call_ro [] (copy_zz [y, x] _ (by simp) (fun z hz => by rcases List.mem_cons.1 hz with rfl | h; exact hy; rw [List.mem_singleton.1 h]; exact hx)) GG_no rfl rfl rfl trivial ?_; rintro r bs' ext ⟨⟨c', hc', rfl⟩, rfl⟩)
    | (refine fun (caps : Nat → Nat) hcaps => ?_; conv at hcaps => whnf)
    | (refine BB.mk (fun _h => ?_) (fun _h => ?_) <;> (first | (exact absurd _h (by decide)) | (exfalso; simp only [boolSet] at _h <;> omega) | (simp only [boolSet] at _h) | skip))
    | (refine And.intro (by omega) ?_)
    | (refine BB.mk (fun _h => ?_) (fun _h => ?_) <;> (first | (exact absurd _h (by decide)) | (exfalso; simp only [boolSet] at _h <;> omega) | skip)))
  all_goals (try conv => whnf)
  all_goals first
    | exact ⟨_, _, FrzV.refl _ _, rfl, rfl, fun _ => rfl, c', rfl⟩
    | (exfalso; omega)
    | trace_state
set_option maxRecDepth 100000 in
set_option maxHeartbeats 4000000 in
theorem l_eq (x : De) (cx cy : Nat) (hx : x.fl.length ≤ 1099511627776) : FnOK Try.prog GG 20 [] [ringS true true x x cx cy] (fun r _ ext => (∃ c', r = .z 4 ([x].map deC) c') ∧ ext = []) := by
  refine FnOK.pure GG_no rfl (fn_intro (C := seat) seat_ok [] GG_no (Try.func20) rfl rfl rfl rfl rfl ?_)
  repeat' ((try conv => whnf); first
    | (with_reducible refine OKv.go (C := seat) seat_ok ?_)
    | (with_reducible refine BB_true ?_)
    | (with_reducible refine BB_false ?_)
    | (with_reducible refine Both.mk ?_ ?_)
    | (with_reducible refine VS.mk ?_)
    | (refine PSem.go (C := seat) seat_ok ?_)
    | (refine And.intro (PlanOK.mk (by kernel_rfl) rfl (by kernel_rfl) (by kernel_rfl)) ?_)
    | (refine And.intro rfl (Exists.intro _ (And.intro (by first | assumption | rfl) ?_)))
    | (refine And.intro ⟨rfl, rfl, rfl⟩ ?_)
    | (refine call_frz 0 rfl (frz_row (by rfl) (by rfl)) ?_; refine call_ro [] (copy_zz [x] _ (by simp) (fun z hz => by rw [List.mem_singleton.1 hz]; exact hx)) GG_no rfl rfl rfl trivial ?_; rintro r bs' ext ⟨⟨c', hc', rfl⟩, rfl⟩)
    | (refine call_ro [] (newer_same x _ _) GG_no rfl rfl rfl trivial ?_; rintro r bs' ext ⟨rfl, rfl⟩)
    | (refine fun (caps : Nat → Nat) hcaps => ?_; conv at hcaps => whnf)
    | (refine BB.mk (fun _h => ?_) (fun _h => ?_) <;> (first | (exact absurd _h (by decide)) | (exfalso; simp only [boolSet] at _h <;> omega) | (simp only [boolSet] at _h) | skip))
    | (refine And.intro (by omega) ?_)
    | (refine BB.mk (fun _h => ?_) (fun _h => ?_) <;> (first | (exact absurd _h (by decide)) | (exfalso; simp only [boolSet] at _h <;> omega) | skip)))
  all_goals (try conv => whnf)
  all_goals first
    | exact ⟨_, _, FrzV.refl _ _, rfl, rfl, fun _ => rfl, c', rfl⟩
    | (exfalso; omega)
    | trace_state
set_option maxRecDepth 100000 in
set_option maxHeartbeats 4000000 in
theorem l_s (x y : De) (cx cy : Nat) (hx : x.fl.length ≤ 1099511627776) : FnOK Try.prog GG 20 [] [ringS true false x y cx cy] (fun r _ ext => (∃ c', r = .z 4 ([x].map deC) c') ∧ ext = []) := by
  refine FnOK.pure GG_no rfl (fn_intro (C := seat) seat_ok [] GG_no (Try.func20) rfl rfl rfl rfl rfl ?_)
  repeat' ((try conv => whnf); first
    | (with_reducible refine OKv.go (C := seat) seat_ok ?_)
    | (with_reducible refine BB_true ?_)
    | (with_reducible refine BB_false ?_)
    | (with_reducible refine Both.mk ?_ ?_)
    | (with_reducible refine VS.mk ?_)
    | (refine PSem.go (C := seat) seat_ok ?_)
    | (refine And.intro (PlanOK.mk (by kernel_rfl) rfl (by kernel_rfl) (by kernel_rfl)) ?_)
    | (refine And.intro rfl (Exists.intro _ (And.intro (by first | assumption | rfl) ?_)))
    | (refine And.intro ⟨rfl, rfl, rfl⟩ ?_)
    | (refine call_frz 0 rfl (frz_row (by rfl) (by rfl)) ?_; refine call_ro [] (copy_zz [x] _ (by simp) (fun z hz => by rw [List.mem_singleton.1 hz]; exact hx)) GG_no rfl rfl rfl trivial ?_; rintro r bs' ext ⟨⟨c', hc', rfl⟩, rfl⟩)
    | (refine fun (caps : Nat → Nat) hcaps => ?_; conv at hcaps => whnf)
    | (refine BB.mk (fun _h => ?_) (fun _h => ?_) <;> (first | (exact absurd _h (by decide)) | (exfalso; simp only [boolSet] at _h <;> omega) | (simp only [boolSet] at _h) | skip))
    | (refine And.intro (by omega) ?_)
    | (refine BB.mk (fun _h => ?_) (fun _h => ?_) <;> (first | (exact absurd _h (by decide)) | (exfalso; simp only [boolSet] at _h <;> omega) | skip)))
  all_goals (try conv => whnf)
  all_goals first
    | exact ⟨_, _, FrzV.refl _ _, rfl, rfl, fun _ => rfl, c', rfl⟩
    | trace_state
set_option maxRecDepth 100000 in
set_option maxHeartbeats 4000000 in
theorem l_p (x y : De) (cx cy : Nat) (hx : x.fl.length ≤ 1099511627776) : FnOK Try.prog GG 20 [] [ringS false true y x cx cy] (fun r _ ext => (∃ c', r = .z 4 ([x].map deC) c') ∧ ext = []) := by
  refine FnOK.pure GG_no rfl (fn_intro (C := seat) seat_ok [] GG_no (Try.func20) rfl rfl rfl rfl rfl ?_)
  repeat' ((try conv => whnf); first
    | (with_reducible refine OKv.go (C := seat) seat_ok ?_)
    | (with_reducible refine BB_true ?_)
    | (with_reducible refine BB_false ?_)
    | (with_reducible refine Both.mk ?_ ?_)
    | (with_reducible refine VS.mk ?_)
    | (refine PSem.go (C := seat) seat_ok ?_)
    | (refine And.intro (PlanOK.mk (by kernel_rfl) rfl (by kernel_rfl) (by kernel_rfl)) ?_)
    | (refine And.intro rfl (Exists.intro _ (And.intro (by first | assumption | rfl) ?_)))
    | (refine And.intro ⟨rfl, rfl, rfl⟩ ?_)
    | (refine call_frz 0 rfl (frz_row (by rfl) (by rfl)) ?_; refine call_ro [] (copy_zz [x] _ (by simp) (fun z hz => by rw [List.mem_singleton.1 hz]; exact hx)) GG_no rfl rfl rfl trivial ?_; rintro r bs' ext ⟨⟨c', hc', rfl⟩, rfl⟩)
    | (refine fun (caps : Nat → Nat) hcaps => ?_; conv at hcaps => whnf)
    | (refine BB.mk (fun _h => ?_) (fun _h => ?_) <;> (first | (exact absurd _h (by decide)) | (exfalso; simp only [boolSet] at _h <;> omega) | (simp only [boolSet] at _h) | skip))
    | (refine And.intro (by omega) ?_)
    | (refine BB.mk (fun _h => ?_) (fun _h => ?_) <;> (first | (exact absurd _h (by decide)) | (exfalso; simp only [boolSet] at _h <;> omega) | skip)))
  all_goals (try conv => whnf)
  all_goals first
    | exact ⟨_, _, FrzV.refl _ _, rfl, rfl, fun _ => rfl, c', rfl⟩
    | trace_state
set_option maxRecDepth 100000 in
set_option maxHeartbeats 4000000 in
theorem l_no (x y : De) (cx cy : Nat) : FnOK Try.prog GG 20 [] [ringS false false x y cx cy] (fun r _ ext => (r = .z 4 (([] : List De).map deC) 0) ∧ ext = []) := by
  refine FnOK.pure GG_no rfl (fn_intro (C := seat) seat_ok [] GG_no (Try.func20) rfl rfl rfl rfl rfl ?_)
  repeat' ((try conv => whnf); first
    | (with_reducible refine OKv.go (C := seat) seat_ok ?_)
    | (with_reducible refine BB_true ?_)
    | (with_reducible refine BB_false ?_)
    | (with_reducible refine Both.mk ?_ ?_)
    | (with_reducible refine VS.mk ?_)
    | (refine PSem.go (C := seat) seat_ok ?_)
    | (refine And.intro (PlanOK.mk (by kernel_rfl) rfl (by kernel_rfl) (by kernel_rfl)) ?_)
    | (refine And.intro rfl (Exists.intro _ (And.intro (by first | assumption | rfl) ?_)))
    | (refine And.intro ⟨rfl, rfl, rfl⟩ ?_)
    | (refine fun (caps : Nat → Nat) hcaps => ?_; conv at hcaps => whnf)
    | (refine BB.mk (fun _h => ?_) (fun _h => ?_) <;> (first | (exact absurd _h (by decide)) | (exfalso; simp only [boolSet] at _h <;> omega) | (simp only [boolSet] at _h) | skip))
    | (refine And.intro (by omega) ?_)
    | (refine BB.mk (fun _h => ?_) (fun _h => ?_) <;> (first | (exact absurd _h (by decide)) | (exfalso; simp only [boolSet] at _h <;> omega) | skip)))
  all_goals (try conv => whnf)
  all_goals first
    | exact ⟨_, _, (frz_nil _ 4), rfl, rfl, fun _ => rfl, rfl⟩
    | trace_state
theorem list_g (x y : De) (cx cy : Nat) (hx : x.fl.length ≤ 1099511627776) (hy : y.fl.length ≤ 1099511627776) (he : x.node = y.node → x = y) : FnOK Try.prog GG 20 [] [ringS true true x y cx cy] (fun r _ ext => (∃ c', r = .z 4 ((listR x y).map deC) c') ∧ ext = []) := by
  unfold listR
  split
  · rename_i h
    exact l_lt x y cx cy hx hy h
  · rename_i h
    split
    · rename_i h2
      exact l_gt x y cx cy hx hy h2
    · rename_i h2
      obtain rfl := he (by omega)
      exact l_eq x cx cy hx
theorem list_k (x y : De) (cx cy : Nat) (hx : x.fl.length ≤ 1099511627776) (hy : y.fl.length ≤ 1099511627776) (he : x.node = y.node → x = y) (L : List De) (hL : listR x y = L) : FnOK Try.prog GG 20 [] [ringS true true x y cx cy] (fun r _ ext => (∃ c', r = .z 4 (L.map deC) c') ∧ ext = []) := hL ▸ list_g x y cx cy hx hy he
end Go.Proofs.Ytocappiebmmpgaa
