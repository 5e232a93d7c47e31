/- Ring: awake. -/
import Derived.Test.YtocappiebmmpgaaT13i
namespace Go.Proofs.Ytocappiebmmpgaa
open Go.RowKit

theorem frz_rowF {m : Mem} {b t sz c len cap : Nat} {els els' : List (List CV)} (hl : m.look (.n b) = some (.row t sz c els)) (hn : len = els'.length) (he : els = els') : FrzV m (.s (.n b) sz 0 len cap) (.z sz els' cap) (m.set (.n b) (.ro sz els)) := by
  subst he
  exact frz_row hl hn
def s10 : List Sp := [⟨0, 9⟩]
def e1 : De := ⟨1, 1, 0, [⟨9, 9⟩]⟩
def e2 : De := ⟨2, 1, 0, [⟨0, 0⟩]⟩
def e5 : De := ⟨5, 1, 0, [⟨0, 0⟩]⟩
def e0 : De := ⟨0, 0, 0, []⟩
theorem u12 : uniLL 5 [] [[e2, e1]] = [e1, e2] := by decide
theorem sc1 : succD s10 (placeI s10 e5) e1 [e1, e2] = e1 := by decide
theorem pd2 : predD s10 (placeI s10 e5) e1 [e1, e2] = e2 := by decide
theorem place_b (s : List Sp) (d : De) (cs c : Nat) (hs : s.length ≤ 9223372036854775807) (hf : d.fl.length ≤ 1099511627776) (hn : 0 ≤ d.node ∧ d.node ≤ 255) (v : Int) (hv : placeI s d = v) : FnOK Try.prog GG 15 [] [.z 2 (s.map spC) cs, deS d c] (fun r _ ext => (r = .v (.int .u16 v)) ∧ ext = []) := hv ▸ place_r s d cs c hs hf hn
theorem far_b (a b v : Int) (hv : farI a b = v) : FnOK Try.prog GG 17 [] [.v (.int .u16 a), .v (.int .u16 b)] (fun r _ ext => (r = .v (.int .u16 v)) ∧ ext = []) := hv ▸ far_z a b
theorem ch12 (cs cd c : Nat) : FnOK Try.prog GG 12 [] [.z 2 (s10.map spC) cs, deS e5 cd, .z 1 ([[e2, e1]].map liC) c] (fun r _ ext => (∃ c1 c2, e1.fl.length ≤ c1 ∧ e2.fl.length ≤ c2 ∧ r = ringS true true e1 e2 c1 c2) ∧ ext = []) := by
  have h := choose_some s10 e5 [[e2, e1]] cs cd c (by decide) (by decide) (by decide) (by decide) (by decide) (by unfold FlOk; decide) (by decide) [e1, e2] u12 (by decide) (by unfold FlOk; decide) (by decide) e1 rfl
  rw [sc1, pd2] at h
  exact h
set_option maxRecDepth 100000 in
set_option maxHeartbeats 4000000 in
theorem awake_ok : FnOK Try.prog GG 10 [] [] (fun r _ ext => (r = .v (.bool true)) ∧ ext = []) := by
  refine FnOK.pure GG_no rfl (fn_intro (C := seat) seat_ok [(3, (.of [(1, .take), (2, .take), (3, .take), (0, .do_), (4, .do_), (5, .take), (6, .take), (8, .take), (9, .take), (10, .take), (7, .do_), (11, .do_), (12, .take), (13, .take), (14, .take), (15, .do_), (16, .take), (17, .take), (18, .take), (19, .take), (20, .take), (21, .take), (22, .take), (23, .take), (24, .take), (25, .take), (26, .take), (27, .take), (28, .take), (29, .take), (30, .take), (31, .take), (32, .take), (33, .take), (34, .take), (35, .take), (36, .take), (37, .take), (38, .take), (42, .take), (39, .do_), (40, .do_), (41, .do_), (43, .do_), (44, .take), (45, .take), (46, .take), (47, .do_), (48, .take), (49, .take), (50, .take), (51, .take), (52, .take), (53, .do_), (54, .take), (55, .take), (56, .take), (57, .take)]))] GG_no (Try.func10) rfl rfl rfl rfl rfl ?_)
  repeat' ((try conv => whnf); first
    | (with_reducible refine OKv.go (C := seat) seat_ok ?_)
    | (with_reducible refine BB_true ?_)
    | (with_reducible refine BB_false ?_)
    | (with_reducible refine Both.mk ?_ ?_)
    | (with_reducible refine VS.mk ?_)
    | (refine PSem.go (C := seat) seat_ok ?_)
    | (refine And.intro (PlanOK.mk (by kernel_rfl) rfl (by kernel_rfl) (by kernel_rfl)) ?_)
    | (refine And.intro rfl (Exists.intro _ (And.intro (by first | assumption | rfl) ?_)))
    | (refine And.intro ⟨rfl, rfl, rfl⟩ ?_)
    | (refine And.intro ⟨rfl, by first | decide | exact Nat.le_refl _⟩ ?_)
    | (refine call_ro [] (one_z 2 0) GG_no rfl rfl rfl trivial ?_; rintro r bs' ext ⟨rfl, rfl⟩)
    | (refine call_ro [] (one_z 1 9) GG_no rfl rfl rfl trivial ?_; rintro r bs' ext ⟨rfl, rfl⟩)
    | (refine call_ro [] (one_z 5 0) GG_no rfl rfl rfl trivial ?_; rintro r bs' ext ⟨rfl, rfl⟩)
    | (refine call_ro [] (ten_z) GG_no rfl rfl rfl trivial ?_; rintro r bs' ext ⟨rfl, rfl⟩)
    | (refine call_frz 2 rfl (frz_rowF (els' := [[e2, e1]].map liC) (by rfl) (by rfl) (by rfl)) ?_; refine call_ro [] (ch12 _ _ _) GG_no rfl rfl rfl trivial ?_; rintro r bs' ext ⟨⟨c1, c2, hc1, hc2, rfl⟩, rfl⟩)
    | (refine call_frz 2 rfl (frz_nil _ 1) ?_; refine call_ro [] (choose_none s10 e5 [] _ _ 0 (by decide) (by decide) (by decide) (by decide) (by simp) (by simp) (by simp) [] rfl rfl) GG_no rfl rfl rfl trivial ?_; rintro r bs' ext ⟨rfl, rfl⟩)
    | (refine call_frz 1 rfl (FrzV.trans (frz_aggT 5 (by rfl) (frz_nil _ 2) (by rfl)) (frz_aggT 9 (by rfl) (frz_nil _ 2) (by rfl))) ?_; refine call_ro [] (same_r false false false false e0 e0 e0 e0 0 0 0 0 (by decide) (by decide) true (by decide)) GG_no rfl rfl rfl trivial ?_; rintro r bs' ext ⟨rfl, rfl⟩)
    | (refine call_ro [] (place_b s10 e2 _ _ (by decide) (by decide) (by decide) 2 (by decide)) GG_no rfl rfl rfl trivial ?_; rintro r bs' ext ⟨rfl, rfl⟩)
    | (refine call_ro [] (place_b s10 e1 _ _ (by decide) (by decide) (by decide) 769 (by decide)) GG_no rfl rfl rfl trivial ?_; rintro r bs' ext ⟨rfl, rfl⟩)
    | (refine call_ro [] (far_b 769 2 64769 (by decide)) GG_no rfl rfl rfl trivial ?_; rintro r bs' ext ⟨rfl, rfl⟩)
    | (refine call_ro [] (list_lt e1 e2 _ _ (by decide) (by decide) (by decide)) GG_no rfl rfl rfl trivial ?_; rintro r bs' ext ⟨⟨c5, hc5, rfl⟩, rfl⟩)
    | (refine call_ro [] (drop_2 1 e1 e2 _ _ (by decide) (by decide) hc2 rfl (by decide)) GG_no rfl rfl rfl trivial ?_; rintro r bs' ext ⟨⟨c6, rfl⟩, rfl⟩)
    | (refine And.intro ⟨by decide, by decide⟩ (Exists.intro _ (And.intro (by rfl) ?_)))
    | (refine fun (caps : Nat → Nat) hcaps => ?_; conv at hcaps => whnf)
    | (refine BB.mk (fun _h => ?_) (fun _h => ?_) <;> (first | (exact absurd _h (by decide)) | (exfalso; simp only [boolSet] at _h <;> omega) | (simp only [boolSet] at _h) | skip))
    | (refine And.intro (by omega) ?_)
    | (refine BB.mk (fun _h => ?_) (fun _h => ?_) <;> (first | (exact absurd _h (by decide)) | (exfalso; simp only [boolSet] at _h <;> omega) | skip)))
  all_goals (try conv => whnf)
  all_goals first
    | exact ⟨_, _, FrzV.refl _ _, rfl, rfl, fun _ => rfl, rfl⟩
    | trace_state
end Go.Proofs.Ytocappiebmmpgaa
