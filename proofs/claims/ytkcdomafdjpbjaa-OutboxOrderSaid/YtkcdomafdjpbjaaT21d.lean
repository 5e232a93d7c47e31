/- Outboxes: Take. -/
import Derived.Test.YtkcdomafdjpbjaaT21c
namespace Go.Proofs.Ytkcdomafdjpbjaa
open Go.RowKit

def ms0 : Ms := ⟨0, 0, 0, 0, [], [], ⟨0, 0, 0⟩, [], [], 0, ⟨0, 0, 0⟩, [], []⟩
theorem ms0_ok : MsOk ms0 := ⟨by decide, (fun d hd => by cases hd), by decide, by decide, by decide, by decide, by decide⟩
theorem cut1 {α : Type} (x : α) (l : List α) {n k : Nat} (hn : n = l.length) (hk : k = 1) : List.take n (List.drop k (x :: l)) = l := by
  subst hk
  subst hn
  rw [List.drop_succ_cons, List.drop_zero, List.take_length]
set_option maxRecDepth 100000 in
set_option maxHeartbeats 4000000 in
theorem take_no (room lost : Int) (c : Nat) : FnOK Try.prog GG 9 [] [.agg [.v (.int .i64 room), .z 17 (([] : List Ms).map msC) c, .v (.int .i64 lost)]] (fun r _ ext => (r = .tup [msS ms0 0 0 0 0 0 0, .agg [.v (.int .i64 room), .z 17 (([] : List Ms).map msC) 0, .v (.int .i64 lost)], .v (.bool false)]) ∧ ext = []) := by
  refine FnOK.pure GG_no rfl (fn_intro (C := seat) seat_ok [(2, (.of [(0, .take), (1, .take), (2, .take), (3, .take), (4, .take), (5, .take), (6, .do_), (7, .last), (8, .last)])), (3, (.of [(0, .take), (1, .take), (2, .take), (3, .take), (5, .take), (6, .take), (7, .take), (8, .take), (9, .take), (11, .take), (12, .take), (4, .do_), (10, .do_), (13, .take), (14, .do_), (15, .last), (16, .last)]))] GG_no (Try.func9) rfl rfl rfl rfl rfl ?_)
  repeat' ((try conv => whnf); first
    | (with_reducible refine OKv.go (C := seat) seat_ok ?_)
    | (with_reducible refine BB_true ?_)
    | (with_reducible refine BB_false ?_)
    | (with_reducible refine Both.mk ?_ ?_)
    | (with_reducible refine VS.mk ?_)
    | (refine PSem.go (C := seat) seat_ok ?_)
    | (refine And.intro (PlanOK.mk (by kernel_rfl) rfl (by kernel_rfl) (by kernel_rfl)) ?_)
    | (refine And.intro rfl (Exists.intro _ (And.intro (by first | assumption | rfl) ?_)))
    | (refine And.intro ⟨rfl, rfl, rfl⟩ ?_)
    | (refine fun (caps : Nat → Nat) hcaps => ?_; conv at hcaps => whnf)
    | (refine BB.mk (fun _h => ?_) (fun _h => ?_) <;> (first | (exact absurd _h (by decide)) | (exfalso; simp only [boolSet, List.map_nil, List.length_nil] at _h <;> omega) | (simp only [boolSet, List.map_nil, List.length_nil] at _h) | skip))
    | (refine And.intro (by omega) ?_)
    | (refine BB.mk (fun _h => ?_) (fun _h => ?_) <;> (first | (exact absurd _h (by decide)) | (exfalso; simp only [boolSet] at _h <;> omega) | skip)))
  all_goals (try conv => whnf)
  all_goals first
    | exact ⟨_, _, (FrzV.trans (frz_tup 0 (by rfl) (frz_aggT 4 (by rfl) (frz_nil _ 4) (by rfl)) (by rfl)) (FrzV.trans (frz_tup 0 (by rfl) (frz_aggT 5 (by rfl) (frz_nil _ 3) (by rfl)) (by rfl)) (FrzV.trans (frz_tup 0 (by rfl) (frz_aggT 9 (by rfl) (frz_nil _ 1) (by rfl)) (by rfl)) (FrzV.trans (frz_tup 0 (by rfl) (frz_aggT 10 (by rfl) (frz_nil _ 1) (by rfl)) (by rfl)) (FrzV.trans (frz_tup 0 (by rfl) (frz_aggT 15 (by rfl) (frz_nil _ 3) (by rfl)) (by rfl)) (FrzV.trans (frz_tup 0 (by rfl) (frz_aggT 16 (by rfl) (frz_nil _ 3) (by rfl)) (by rfl)) (frz_tup 1 (by rfl) (frz_aggT 1 (by rfl) (frz_nil _ 17) (by rfl)) (by rfl)))))))), rfl, rfl, fun _ => rfl, rfl⟩
    | trace_state
set_option maxRecDepth 100000 in
set_option maxHeartbeats 4000000 in
theorem take_yes (room lost : Int) (m : Ms) (l : List Ms) (c : Nat) (hl : l.length ≤ 1000) (hm : ∀ y ∈ l, MsOk y) (hmm : MsOk m) : FnOK Try.prog GG 9 [] [.agg [.v (.int .i64 room), .z 17 ((m :: l).map msC) c, .v (.int .i64 lost)]] (fun r _ ext => (∃ d1 d2 d3 d4 d5 d6 c', r = .tup [msS m d1 d2 d3 d4 d5 d6, .agg [.v (.int .i64 room), .z 17 (l.map msC) c', .v (.int .i64 lost)], .v (.bool true)]) ∧ ext = []) := by
  have hlm : (l.map msC).length = l.length := List.length_map _
  refine FnOK.pure GG_no rfl (fn_intro (C := seat) seat_ok [(2, (.of [(0, .take), (1, .take), (2, .take), (3, .take), (4, .take), (5, .take), (6, .do_), (7, .last), (8, .last)])), (3, (.of [(0, .take), (1, .take), (2, .take), (3, .take), (5, .take), (6, .take), (7, .take), (8, .take), (9, .take), (11, .take), (12, .take), (4, .do_), (10, .do_), (13, .take), (14, .do_), (15, .last), (16, .last)]))] GG_no (Try.func9) rfl rfl rfl rfl rfl ?_)
  repeat' ((try conv => whnf); first
    | (with_reducible refine OKv.go (C := seat) seat_ok ?_)
    | (with_reducible refine BB_true ?_)
    | (with_reducible refine BB_false ?_)
    | (with_reducible refine Both.mk ?_ ?_)
    | (with_reducible refine VS.mk ?_)
    | (refine PSem.go (C := seat) seat_ok ?_)
    | (refine And.intro (PlanOK.mk (by kernel_rfl) rfl (by kernel_rfl) (by kernel_rfl)) ?_)
    | (refine And.intro rfl (Exists.intro _ (And.intro (by first | assumption | rfl) ?_)))
    | (refine And.intro ⟨rfl, rfl, rfl⟩ ?_)
    | (refine call_ro [] (message_z m _ _ _ _ _ _ hmm) GG_no rfl rfl rfl trivial ?_; rintro r bs' ext ⟨⟨e1, e2, e3, e4, e5, e6, rfl⟩, rfl⟩)
    | (refine call_frz 0 rfl (frz_z (els' := l.map msC) (cut1 _ _ (by simp only [List.map_cons, List.length_cons, List.length_map]; first | omega | rfl) (by first | rfl | omega))) ?_; refine call_ro [] (cop_ms l _ (by omega) hm) GG_no rfl rfl rfl trivial ?_; rintro r bs' ext ⟨c7, hc7, rfl, rfl⟩)
    | (refine And.intro ⟨by omega, by simp only [List.map_cons, List.length_cons]; omega⟩ (Exists.intro _ (And.intro (by rfl) ?_)))
    | (refine And.intro ⟨by omega, by simp only [List.map_cons, List.length_cons]; omega, by omega⟩ ?_)
    | (refine fun (caps : Nat → Nat) hcaps => ?_; conv at hcaps => whnf)
    | (refine fun (cap' : Nat) hcap' => ?_)
    | (refine BB.mk (fun _h => ?_) (fun _h => ?_) <;> (first | (exact absurd _h (by decide)) | (exfalso; simp only [boolSet, hlm, List.map_cons, List.length_cons] at _h <;> omega) | (simp only [boolSet, hlm, List.map_cons, List.length_cons] at _h) | skip))
    | (refine And.intro (by omega) ?_)
    | (refine BB.mk (fun _h => ?_) (fun _h => ?_) <;> (first | (exact absurd _h (by decide)) | (exfalso; simp only [boolSet] at _h <;> omega) | skip)))
  all_goals (try conv => whnf)
  all_goals first
    | exact ⟨_, _, (frz_tup 1 (by rfl) (frz_aggT 1 (by rfl) (frz_rowF (els' := l.map msC) (by rfl) (by rw [List.length_map]) (by rfl)) (by rfl)) (by rfl)), rfl, rfl, fun _ => rfl, _, _, _, _, _, _, _, rfl⟩
    | trace_state
end Go.Proofs.Ytkcdomafdjpbjaa
