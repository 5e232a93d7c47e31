/- Ring: changed, where the first goes and the second stays. -/
import Derived.Test.YtocappiebmmpgaaT13h
import Derived.Test.YtocappiebmmpgaaZH
namespace Go.Proofs.Ytocappiebmmpgaa
open Go.RowKit

def outC (y : De) (c : Nat) : Nat → List SV
  | 0 => [.v (.bool false), .v (.bool false), .v (.int .u8 0), .v (.int .u16 0), .v (.int .u8 0), .v (.slice none 0 0), .v (.int .u8 0), .v (.int .u16 0), .v (.int .u8 0), .v (.slice none 0 0)]
  | _ + 1 => [.v (.bool false), .v (.bool true), .v (.int .u8 0), .v (.int .u16 0), .v (.int .u8 0), .v (.slice none 0 0), .v (.int .u8 y.node), .v (.int .u16 y.inc), .v (.int .u8 y.age), .z 2 (y.fl.map spC) c]
set_option maxRecDepth 100000 in
set_option maxHeartbeats 4000000 in
theorem changed_2 (g : Nat) (n : Int) (x y : De) (cx cy : Nat) (hcy : y.fl.length ≤ cy) (hg1 : ∀ c, FnOK Try.prog GG g [.cst 5 [.v (.int .u8 n)]] [deS x c, .p (.o 0) 0 0 0] (fun r bs' ext => bs' = [.cst 5 [.v (.int .u8 n)]] ∧ (r = .z 4 (([] : List De).map deC) 0) ∧ ext = [])) (hg2 : ∀ c, FnOK Try.prog GG g [.cst 5 [.v (.int .u8 n)]] [deS y c, .p (.o 0) 0 0 0] (fun r bs' ext => bs' = [.cst 5 [.v (.int .u8 n)]] ∧ (∃ c', 1 ≤ c' ∧ r = .z 4 ([y].map deC) c') ∧ ext = [])) : FnOK Try.prog GG 42 [.box 5 [.v (.int .u8 n)]] [ringS true true x y cx cy, .fn g [.p (.o 0) 0 0 0]] (fun r bs' ext => bs' = [.box 5 [.v (.int .u8 n)]] ∧ (∃ c', r = ringS false true ⟨0, 0, 0, []⟩ y 0 c') ∧ ext = []) := by
  refine FnOK.pureB GG_no (fun _ _ => ⟨rfl, trivial⟩) (fn_intro (C := seat) seat_ok [(6, (.of [(0, .take), (1, .take), (2, .do_), (3, .take), (4, .last)])), (12, (.of [(0, .take), (1, .take), (2, .do_), (3, .take), (4, .last)]))] GG_no (Try.func42) rfl rfl rfl rfl rfl ?_)
  repeat' ((try conv => whnf); first
    | (with_reducible refine OKv.go (C := seat) seat_ok ?_)
    | (with_reducible refine BB_true ?_)
    | (with_reducible refine BB_false ?_)
    | (with_reducible refine Both.mk ?_ ?_)
    | (with_reducible refine VS.mk ?_)
    | (refine PSem.go (C := seat) seat_ok ?_)
    | (refine And.intro (PlanOK.mk (by kernel_rfl) rfl (by kernel_rfl) (by kernel_rfl)) ?_)
    | (refine And.intro rfl (Exists.intro _ (And.intro (by first | assumption | rfl) ?_)))
    | (refine And.intro ⟨rfl, rfl, rfl⟩ ?_)
    | (refine call_roZ [.o 0] (hg1 _) GG_no rfl rfl rfl ⟨⟨_, rfl, _, _, rfl, cellsZ_v cellsZ_nil, rfl⟩, trivial⟩ ?_; rintro r bs' ext ⟨rfl, rfl, rfl⟩)
    | (refine call_roZ [.o 0] (hg2 _) GG_no rfl rfl rfl ⟨⟨_, rfl, _, _, rfl, cellsZ_v cellsZ_nil, rfl⟩, trivial⟩ ?_; rintro r bs' ext ⟨rfl, ⟨c', hc', rfl⟩, rfl⟩)
    | (refine fun (caps : Nat → Nat) hcaps => ?_; conv at hcaps => whnf)
    | (refine BB.mk (fun _h => ?_) (fun _h => ?_) <;> (first | (exact absurd _h (by decide)) | (exfalso; simp only [boolSet] at _h <;> omega) | (simp only [boolSet] at _h) | skip))
    | (refine And.intro (by omega) ?_)
    | (refine BB.mk (fun _h => ?_) (fun _h => ?_) <;> (first | (exact absurd _h (by decide)) | (exfalso; simp only [boolSet] at _h <;> omega) | skip)))
  all_goals (try conv => whnf)
  refine loop_rule (α := Nat) (fun k => k ≤ 0) (fun k => { slots := [(1, .fn g [.p (.o 0) 0 0 0]), (2, .p (.n 0) 0 0 0), (4, .p (.n 1) 0 0 0), (5, .p (.n 2) 0 0 0), (15, .z 4 (([] : List De).map deC) 0), (16, .v (.int .i64 (([] : List De).map deC).length)), (17, .v (.int .i64 (k : Int)))], nt := 41, mem := ⟨GG, [.box 5 [.v (.int .u8 n)]], [.box 34 [.v (.bool true), .v (.bool true), .v (.int .u8 x.node), .v (.int .u16 x.inc), .v (.int .u8 x.age), .z 2 (x.fl.map spC) cx, .v (.int .u8 y.node), .v (.int .u16 y.inc), .v (.int .u8 y.age), .z 2 (y.fl.map spC) cy], .box 34 (outC y 0 0), .box 34 (outC y 0 0)]⟩ }) (fun k => 0 - k) 0 (Nat.le_refl _) ⟨⟨[0, 1, 2], by decide, GG_no, rfl, ⟨rfl, trivial⟩, ⟨rfl, rfl, rfl, trivial⟩, ⟨.inl rfl, .inl rfl, .inl rfl, .inl rfl, .inl rfl, .inl rfl, .inl rfl, trivial⟩⟩, rfl⟩ ?_ (fun _ => rfl)
  intro k hk
  obtain rfl : k = 0 := by omega
  refine vc_sound (C := seat) seat_ok (pl := [(6, (.of [(0, .take), (1, .take), (2, .do_), (3, .take), (4, .last)])), (12, (.of [(0, .take), (1, .take), (2, .do_), (3, .take), (4, .last)]))]) ?_
  repeat' ((try conv => whnf); first
    | (with_reducible refine OKv.go (C := seat) seat_ok ?_)
    | (with_reducible refine BB_true ?_)
    | (with_reducible refine BB_false ?_)
    | (with_reducible refine Both.mk ?_ ?_)
    | (with_reducible refine VS.mk ?_)
    | (refine PSem.go (C := seat) seat_ok ?_)
    | (refine And.intro (PlanOK.mk (by kernel_rfl) rfl (by kernel_rfl) (by kernel_rfl)) ?_)
    | (refine And.intro rfl (Exists.intro _ (And.intro (by first | assumption | rfl) ?_)))
    | (refine And.intro ⟨rfl, rfl, rfl⟩ ?_)
    | (refine call_roZ [.o 0] (hg2 _) GG_no rfl rfl rfl ⟨⟨_, rfl, _, _, rfl, cellsZ_v cellsZ_nil, rfl⟩, trivial⟩ ?_; rintro r bs' ext ⟨rfl, ⟨c', hc', rfl⟩, rfl⟩)
    | (refine fun (caps : Nat → Nat) hcaps => ?_; conv at hcaps => whnf)
    | (refine BB.mk (fun _h => ?_) (fun _h => ?_) <;> (first | (exact absurd _h (by decide)) | (exfalso; simp only [boolSet, List.map_nil, List.length_nil, List.map_cons, List.length_cons] at _h <;> omega) | (simp only [boolSet] at _h) | skip))
    | (refine And.intro (by omega) ?_)
    | (refine BB.mk (fun _h => ?_) (fun _h => ?_) <;> (first | (exact absurd _h (by decide)) | (exfalso; simp only [boolSet] at _h <;> omega) | skip)))
  all_goals (try conv => whnf)
  refine loop_rule (α := Nat × Nat) (fun p => p.1 ≤ 1) (fun p => { slots := [(4, .p (.n 1) 0 0 0), (5, .p (.n 2) 0 0 0), (30, .z 4 ([y].map deC) c'), (31, .v (.int .i64 ([y].map deC).length)), (32, .v (.int .i64 (p.1 : Int)))], nt := 41, mem := ⟨GG, [.box 5 [.v (.int .u8 n)]], [.box 34 [.v (.bool true), .v (.bool true), .v (.int .u8 x.node), .v (.int .u16 x.inc), .v (.int .u8 x.age), .z 2 (x.fl.map spC) cx, .v (.int .u8 y.node), .v (.int .u16 y.inc), .v (.int .u8 y.age), .z 2 (y.fl.map spC) cy], .box 34 (outC y 0 0), .box 34 (outC y p.2 p.1)]⟩ }) (fun p => 1 - p.1) (0, 0) (Nat.zero_le _) ⟨⟨[0, 1, 2], by decide, GG_no, rfl, ⟨rfl, trivial⟩, ⟨rfl, rfl, rfl, trivial⟩, ⟨.inl rfl, .inl rfl, .inl rfl, .inl rfl, .inl rfl, trivial⟩⟩, rfl⟩ ?_ (fun _ => rfl)
  rintro ⟨k, cc⟩ hk
  dsimp only at hk ⊢
  rcases (show k = 0 ∨ k = 1 by omega) with rfl | rfl
  · refine vc_sound (C := seat) seat_ok (pl := [(6, (.of [(0, .take), (1, .take), (2, .do_), (3, .take), (4, .last)])), (12, (.of [(0, .take), (1, .take), (2, .do_), (3, .take), (4, .last)]))]) ?_
    repeat' ((try conv => whnf); first
      | (with_reducible refine OKv.go (C := seat) seat_ok ?_)
      | (with_reducible refine BB_true ?_)
      | (with_reducible refine BB_false ?_)
      | (with_reducible refine Both.mk ?_ ?_)
      | (with_reducible refine VS.mk ?_)
      | (refine PSem.go (C := seat) seat_ok ?_)
      | (refine And.intro (PlanOK.mk (by kernel_rfl) rfl (by kernel_rfl) (by kernel_rfl)) ?_)
      | (refine And.intro rfl (Exists.intro _ (And.intro (by first | assumption | rfl) ?_)))
      | (refine And.intro ⟨rfl, rfl, rfl⟩ ?_)
      | (refine And.intro ⟨by omega, by simp⟩ (Exists.intro _ (And.intro (by rfl) ?_)))
      | (refine fun (caps : Nat → Nat) hcaps => ?_; conv at hcaps => whnf)
      | (refine BB.mk (fun _h => ?_) (fun _h => ?_) <;> (first | (exact absurd _h (by decide)) | (exfalso; simp only [boolSet, List.map_nil, List.length_nil, List.map_cons, List.length_cons] at _h <;> omega) | (simp only [boolSet] at _h) | skip))
      | (refine And.intro (by omega) ?_)
      | (refine BB.mk (fun _h => ?_) (fun _h => ?_) <;> (first | (exact absurd _h (by decide)) | (exfalso; simp only [boolSet] at _h <;> omega) | skip)))
    all_goals (try conv => whnf)
    all_goals first
      | exact ⟨(1, caps 3), Nat.le_refl _, by dsimp only; omega, ⟨⟨[0, 1, 2], by decide, GG_no, rfl, ⟨rfl, trivial⟩, ⟨rfl, rfl, rfl, trivial⟩, ⟨.inl rfl, .inl rfl, .inl rfl, .inl rfl, .inl (num_eq (by dsimp only; decide)), trivial⟩⟩, rfl⟩⟩
      | trace_state
  · refine vc_sound (C := seat) seat_ok (pl := [(6, (.of [(0, .take), (1, .take), (2, .do_), (3, .take), (4, .last)])), (12, (.of [(0, .take), (1, .take), (2, .do_), (3, .take), (4, .last)]))]) ?_
    repeat' ((try conv => whnf); first
      | (with_reducible refine OKv.go (C := seat) seat_ok ?_)
      | (with_reducible refine BB_true ?_)
      | (with_reducible refine BB_false ?_)
      | (with_reducible refine Both.mk ?_ ?_)
      | (with_reducible refine VS.mk ?_)
      | (refine PSem.go (C := seat) seat_ok ?_)
      | (refine And.intro (PlanOK.mk (by kernel_rfl) rfl (by kernel_rfl) (by kernel_rfl)) ?_)
      | (refine And.intro rfl (Exists.intro _ (And.intro (by first | assumption | rfl) ?_)))
      | (refine And.intro ⟨rfl, rfl, rfl⟩ ?_)
      | (refine fun (caps : Nat → Nat) hcaps => ?_; conv at hcaps => whnf)
      | (refine BB.mk (fun _h => ?_) (fun _h => ?_) <;> (first | (exact absurd _h (by decide)) | (exfalso; simp only [boolSet, List.map_nil, List.length_nil, List.map_cons, List.length_cons] at _h <;> omega) | (simp only [boolSet] at _h) | skip))
      | (refine And.intro (by omega) ?_)
      | (refine BB.mk (fun _h => ?_) (fun _h => ?_) <;> (first | (exact absurd _h (by decide)) | (exfalso; simp only [boolSet] at _h <;> omega) | skip)))
    all_goals (try conv => whnf)
    all_goals first
      | exact ⟨_, _, (frz_aggT 5 (by rfl) (frz_nil _ 2) (by rfl)), rfl, rfl, fun _ => rfl, _, rfl⟩
      | trace_state
set_option maxRecDepth 100000 in
set_option maxHeartbeats 4000000 in
theorem drop_2 (n : Int) (x y : De) (cx cy : Nat) (hx : x.fl.length ≤ 1099511627776) (hy : y.fl.length ≤ 1099511627776) (hcy : y.fl.length ≤ cy) (h1 : x.node = n) (h2 : y.node ≠ n) : FnOK Try.prog GG 22 [] [ringS true true x y cx cy, .v (.int .u8 n)] (fun r _ ext => (∃ c', r = ringS false true ⟨0, 0, 0, []⟩ y 0 c') ∧ ext = []) := by
  refine FnOK.pure GG_no rfl (fn_intro (C := seat) seat_ok [] GG_no (Try.func22) rfl rfl rfl rfl rfl ?_)
  repeat' ((try conv => whnf); first
    | (with_reducible refine OKv.go (C := seat) seat_ok ?_)
    | (with_reducible refine BB_true ?_)
    | (with_reducible refine BB_false ?_)
    | (with_reducible refine Both.mk ?_ ?_)
    | (with_reducible refine VS.mk ?_)
    | (refine PSem.go (C := seat) seat_ok ?_)
    | (refine And.intro (PlanOK.mk (by kernel_rfl) rfl (by kernel_rfl) (by kernel_rfl)) ?_)
    | (refine And.intro rfl (Exists.intro _ (And.intro (by first | assumption | rfl) ?_)))
    | (refine And.intro ⟨rfl, rfl, rfl⟩ ?_)
    | (refine call_same [.n 1] (changed_2 43 n x y _ _ hcy (fun c => drop1_no x c n hx h1) (fun c => drop1_yes y c n hy h2)) GG_no rfl rfl rfl ⟨⟨_, rfl, .inr ⟨(fun _ h => by cases h), rfl⟩⟩, trivial⟩ (by decide) ?_; rintro r bs' ext ⟨rfl, ⟨c', rfl⟩, rfl⟩; refine And.intro rfl ?_)
    | (refine fun (caps : Nat → Nat) hcaps => ?_; conv at hcaps => whnf)
    | (refine BB.mk (fun _h => ?_) (fun _h => ?_) <;> (first | (exact absurd _h (by decide)) | (exfalso; simp only [boolSet] at _h <;> omega) | (simp only [boolSet] at _h) | skip))
    | (refine And.intro (by omega) ?_)
    | (refine BB.mk (fun _h => ?_) (fun _h => ?_) <;> (first | (exact absurd _h (by decide)) | (exfalso; simp only [boolSet] at _h <;> omega) | skip)))
  all_goals (try conv => whnf)
  all_goals first
    | exact ⟨_, _, FrzV.refl _ _, rfl, rfl, fun _ => rfl, _, rfl⟩
    | trace_state
theorem frz_rowF {m : Mem} {b t sz c len cap : Nat} {els els' : List (List CV)} (hl : m.look (.n b) = some (.row t sz c els)) (hn : len = els'.length) (he : els = els') : FrzV m (.s (.n b) sz 0 len cap) (.z sz els' cap) (m.set (.n b) (.ro sz els)) := by
  subst he
  exact frz_row hl hn
def s10 : List Sp := [⟨0, 9⟩]
def e1 : De := ⟨1, 1, 0, [⟨9, 9⟩]⟩
def e2 : De := ⟨2, 1, 0, [⟨0, 0⟩]⟩
def e5 : De := ⟨5, 1, 0, [⟨0, 0⟩]⟩
def e0 : De := ⟨0, 0, 0, []⟩
theorem u12 : uniLL 5 [] [[e2, e1]] = [e1, e2] := by decide
theorem sc1 : succD s10 (placeI s10 e5) e1 [e1, e2] = e1 := by decide
theorem pd2 : predD s10 (placeI s10 e5) e1 [e1, e2] = e2 := by decide
theorem place_b (s : List Sp) (d : De) (cs c : Nat) (hs : s.length ≤ 9223372036854775807) (hf : d.fl.length ≤ 9223372036854775807) (hn : 0 ≤ d.node ∧ d.node ≤ 255) (v : Int) (hv : placeI s d = v) : FnOK Try.prog GG 15 [] [.z 2 (s.map spC) cs, deS d c] (fun r _ ext => (r = .v (.int .u16 v)) ∧ ext = []) := hv ▸ place_r s d cs c hs hf hn
theorem far_b (a b v : Int) (hv : farI a b = v) : FnOK Try.prog GG 17 [] [.v (.int .u16 a), .v (.int .u16 b)] (fun r _ ext => (r = .v (.int .u16 v)) ∧ ext = []) := hv ▸ far_z a b
theorem ch12 (cs cd c : Nat) : FnOK Try.prog GG 12 [] [.z 2 (s10.map spC) cs, deS e5 cd, .z 1 ([[e2, e1]].map liC) c] (fun r _ ext => (∃ c1 c2, e1.fl.length ≤ c1 ∧ e2.fl.length ≤ c2 ∧ r = ringS true true e1 e2 c1 c2) ∧ ext = []) := by
  have h := choose_some s10 e5 [[e2, e1]] cs cd c (by decide) (by decide) (by decide) (by decide) (by decide) (by unfold FlOk; decide) (by decide) [e1, e2] u12 (by decide) (by unfold FlOk; decide) (by decide) e1 rfl
  rw [sc1, pd2] at h
  exact h
set_option maxRecDepth 100000 in
set_option maxHeartbeats 4000000 in
theorem awake_ok : FnOK Try.prog GG 10 [] [] (fun r _ ext => (r = .v (.bool true)) ∧ ext = []) := by
  refine FnOK.pure GG_no rfl (fn_intro (C := seat) seat_ok [(3, (.of [(1, .take), (2, .take), (3, .take), (0, .do_), (4, .do_), (5, .take), (6, .take), (8, .take), (9, .take), (10, .take), (7, .do_), (11, .do_), (12, .take), (13, .take), (14, .take), (15, .do_), (16, .take), (17, .take), (18, .take), (19, .take), (20, .take), (21, .take), (22, .take), (23, .take), (24, .take), (25, .take), (26, .take), (27, .take), (28, .take), (29, .take), (30, .take), (31, .take), (32, .take), (33, .take), (34, .take), (35, .take), (36, .take), (37, .take), (38, .take), (42, .take), (39, .do_), (40, .do_), (41, .do_), (43, .do_), (44, .take), (45, .take), (46, .take), (47, .do_), (48, .take), (49, .take), (50, .take), (51, .take), (52, .take), (53, .do_), (54, .take), (55, .take), (56, .take), (57, .take)]))] GG_no (Try.func10) rfl rfl rfl rfl rfl ?_)
  repeat' ((try conv => whnf); first
    | (with_reducible refine OKv.go (C := seat) seat_ok ?_)
    | (with_reducible refine BB_true ?_)
    | (with_reducible refine BB_false ?_)
    | (with_reducible refine Both.mk ?_ ?_)
    | (with_reducible refine VS.mk ?_)
    | (refine PSem.go (C := seat) seat_ok ?_)
    | (refine And.intro (PlanOK.mk (by kernel_rfl) rfl (by kernel_rfl) (by kernel_rfl)) ?_)
    | (refine And.intro rfl (Exists.intro _ (And.intro (by first | assumption | rfl) ?_)))
    | (refine And.intro ⟨rfl, rfl, rfl⟩ ?_)
    | (refine And.intro ⟨rfl, by first | decide | exact Nat.le_refl _⟩ ?_)
    | (refine call_ro [] (one_z 2 0) GG_no rfl rfl rfl trivial ?_; rintro r bs' ext ⟨rfl, rfl⟩)
    | (refine call_ro [] (one_z 1 9) GG_no rfl rfl rfl trivial ?_; rintro r bs' ext ⟨rfl, rfl⟩)
    | (refine call_ro [] (one_z 5 0) GG_no rfl rfl rfl trivial ?_; rintro r bs' ext ⟨rfl, rfl⟩)
    | (refine call_ro [] (ten_z) GG_no rfl rfl rfl trivial ?_; rintro r bs' ext ⟨rfl, rfl⟩)
    | (refine call_frz 2 rfl (frz_rowF (els' := [[e2, e1]].map liC) (by rfl) (by rfl) (by rfl)) ?_; refine call_ro [] (ch12 _ _ _) GG_no rfl rfl rfl trivial ?_; rintro r bs' ext ⟨⟨c1, c2, hc1, hc2, rfl⟩, rfl⟩)
    | (refine call_frz 2 rfl (frz_nil _ 1) ?_; refine call_ro [] (choose_none s10 e5 [] _ _ 0 (by decide) (by decide) (by decide) (by decide) (by simp) (by simp) (by simp) [] rfl rfl) GG_no rfl rfl rfl trivial ?_; rintro r bs' ext ⟨rfl, rfl⟩)
    | (refine call_frz 1 rfl (FrzV.trans (frz_aggT 5 (by rfl) (frz_nil _ 2) (by rfl)) (frz_aggT 9 (by rfl) (frz_nil _ 2) (by rfl))) ?_; refine call_ro [] (same_r false false false false e0 e0 e0 e0 0 0 0 0 (by decide) (by decide) true (by decide)) GG_no rfl rfl rfl trivial ?_; rintro r bs' ext ⟨rfl, rfl⟩)
    | (refine call_ro [] (place_b s10 e2 _ _ (by decide) (by decide) (by decide) 2 (by decide)) GG_no rfl rfl rfl trivial ?_; rintro r bs' ext ⟨rfl, rfl⟩)
    | (refine call_ro [] (place_b s10 e1 _ _ (by decide) (by decide) (by decide) 769 (by decide)) GG_no rfl rfl rfl trivial ?_; rintro r bs' ext ⟨rfl, rfl⟩)
    | (refine call_ro [] (far_b 769 2 64769 (by decide)) GG_no rfl rfl rfl trivial ?_; rintro r bs' ext ⟨rfl, rfl⟩)
    | (refine call_ro [] (list_lt e1 e2 _ _ (by decide) (by decide) (by decide)) GG_no rfl rfl rfl trivial ?_; rintro r bs' ext ⟨⟨c5, hc5, rfl⟩, rfl⟩)
    | (refine call_ro [] (drop_2 1 e1 e2 _ _ (by decide) (by decide) hc2 rfl (by decide)) GG_no rfl rfl rfl trivial ?_; rintro r bs' ext ⟨⟨c6, rfl⟩, rfl⟩)
    | (refine And.intro ⟨by decide, by decide⟩ (Exists.intro _ (And.intro (by rfl) ?_)))
    | (refine fun (caps : Nat → Nat) hcaps => ?_; conv at hcaps => whnf)
    | (refine BB.mk (fun _h => ?_) (fun _h => ?_) <;> (first | (exact absurd _h (by decide)) | (exfalso; simp only [boolSet] at _h <;> omega) | (simp only [boolSet] at _h) | skip))
    | (refine And.intro (by omega) ?_)
    | (refine BB.mk (fun _h => ?_) (fun _h => ?_) <;> (first | (exact absurd _h (by decide)) | (exfalso; simp only [boolSet] at _h <;> omega) | skip)))
  all_goals (try conv => whnf)
  all_goals first
    | exact ⟨_, _, FrzV.refl _ _, rfl, rfl, fun _ => rfl, rfl⟩
    | trace_state
end Go.Proofs.Ytocappiebmmpgaa
