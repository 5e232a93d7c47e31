/- The chapter's examples. -/
import Derived.Test.YtkcdomafdjpbjaaT21g
namespace Go.Proofs.Ytkcdomafdjpbjaa
open Go.RowKit

def exM (k : Int) : Ms := ⟨k, 0, 0, 0, [], [], ⟨0, 0, 0⟩, [], [], 0, ⟨0, 0, 0⟩, [], []⟩
theorem exM_ok (k : Int) : MsOk (exM k) := ⟨by simp [exM], (fun d hd => by cases hd), by simp [exM], by simp [exM], by simp [exM], by simp [exM], by simp [exM]⟩
def awC (c : Nat) : Nat → List SV
  | 0 => [.v (.int .i64 2), .v (.slice none 0 0), .v (.int .i64 0)]
  | 1 => [.v (.int .i64 2), .z 17 ([exM 0].map msC) c, .v (.int .i64 0)]
  | 2 => [.v (.int .i64 2), .z 17 ([exM 0, exM 1].map msC) c, .v (.int .i64 0)]
  | _ => [.v (.int .i64 2), .z 17 ([exM 0, exM 1].map msC) c, .v (.int .i64 1)]
theorem ex_all : ∀ y ∈ [exM 0, exM 1], MsOk y := fun y hy => by
  rcases List.mem_cons.1 hy with rfl | hy
  · exact exM_ok 0
  · rw [List.mem_singleton.1 hy]; exact exM_ok 1
theorem ex_one (k : Int) : ∀ y ∈ [exM k], MsOk y := fun y hy => by rw [List.mem_singleton.1 hy]; exact exM_ok k
theorem ex_none : ∀ y ∈ ([] : List Ms), MsOk y := fun y hy => absurd hy List.not_mem_nil
set_option maxRecDepth 100000 in
set_option maxHeartbeats 4000000 in
theorem awake_ok : FnOK Try.prog GG 8 [] [] (fun r _ ext => (r = .v (.bool true)) ∧ ext = []) := by
  refine FnOK.pure GG_no rfl (fn_intro (C := seat) seat_ok [] GG_no (Try.func8) rfl rfl rfl rfl rfl ?_)
  repeat' ((try conv => whnf); first
    | (with_reducible refine OKv.go (C := seat) seat_ok ?_)
    | (with_reducible refine BB_true ?_)
    | (with_reducible refine BB_false ?_)
    | (with_reducible refine Both.mk ?_ ?_)
    | (with_reducible refine VS.mk ?_)
    | (refine PSem.go (C := seat) seat_ok ?_)
    | (refine And.intro (PlanOK.mk (by kernel_rfl) rfl (by kernel_rfl) (by kernel_rfl)) ?_)
    | (refine And.intro rfl (Exists.intro _ (And.intro (by first | assumption | rfl) ?_)))
    | (refine And.intro ⟨rfl, rfl, rfl⟩ ?_)
    | (refine BB.mk (fun _h => ?_) (fun _h => ?_) <;> (first | (exact absurd _h (by decide)) | (exfalso; simp only [boolSet] at _h <;> omega) | (simp only [boolSet] at _h) | skip))
    | (refine And.intro (by omega) ?_)
    | (refine BB.mk (fun _h => ?_) (fun _h => ?_) <;> (first | (exact absurd _h (by decide)) | (exfalso; simp only [boolSet] at _h <;> omega) | skip)))
  all_goals (try conv => whnf)
  refine loop_rule (α := Nat × Nat) (fun p => p.1 ≤ 3) (fun p => { slots := [(1, .p (.n 0) 0 0 0), (13, .v (.int .i64 (p.1 : Int)))], nt := 69, mem := ⟨GG, [], [.box 24 (awC p.2 p.1)]⟩ }) (fun p => 3 - p.1) (0, 0) (Nat.zero_le _) ⟨⟨[0], by decide, GG_no, rfl, SubOld.refl _ rfl, ⟨rfl, trivial⟩, ⟨.inl rfl, .inl rfl, trivial⟩⟩, rfl⟩ ?_ (fun _ => rfl)
  rintro ⟨k, c⟩ hk
  dsimp only at hk ⊢
  rcases (show k = 0 ∨ k = 1 ∨ k = 2 ∨ k = 3 by omega) with rfl | rfl | rfl | rfl
  · refine vc_sound (C := seat) seat_ok (pl := []) ?_
    repeat' ((try conv => whnf); first
      | (with_reducible refine OKv.go (C := seat) seat_ok ?_)
      | (with_reducible refine BB_true ?_)
      | (with_reducible refine BB_false ?_)
      | (with_reducible refine Both.mk ?_ ?_)
      | (with_reducible refine VS.mk ?_)
      | (refine PSem.go (C := seat) seat_ok ?_)
      | (refine And.intro (PlanOK.mk (by kernel_rfl) rfl (by kernel_rfl) (by kernel_rfl)) ?_)
      | (refine And.intro rfl (Exists.intro _ (And.intro (by first | assumption | rfl) ?_)))
      | (refine And.intro ⟨rfl, rfl, rfl⟩ ?_)
      | (refine call_frz 0 rfl (frz_aggT 1 (by rfl) (frz_nil _ 17) (by rfl)) ?_; refine call_frz 1 rfl (FrzV.trans (frz_aggT 4 (by rfl) (frz_nil _ 4) (by rfl)) (FrzV.trans (frz_aggT 5 (by rfl) (frz_nil _ 3) (by rfl)) (FrzV.trans (frz_aggT 9 (by rfl) (frz_nil _ 1) (by rfl)) (FrzV.trans (frz_aggT 10 (by rfl) (frz_nil _ 1) (by rfl)) (FrzV.trans (frz_aggT 15 (by rfl) (frz_nil _ 3) (by rfl)) (frz_aggT 16 (by rfl) (frz_nil _ 3) (by rfl))))))) ?_; refine call_ro [] (put_yes 2 0 [] 0 (exM 0) 0 0 0 0 0 0 (by decide) ex_none (exM_ok 0) (by decide)) GG_no rfl rfl rfl trivial ?_; rintro r bs' ext ⟨⟨c1, rfl⟩, rfl⟩)
      | (refine fun (caps : Nat → Nat) hcaps => ?_; conv at hcaps => whnf)
      | (refine BB.mk (fun _h => ?_) (fun _h => ?_) <;> (first | (exact absurd _h (by decide)) | (exfalso; simp only [boolSet] at _h <;> omega) | (simp only [boolSet] at _h) | skip))
      | (refine And.intro (by omega) ?_)
      | (refine BB.mk (fun _h => ?_) (fun _h => ?_) <;> (first | (exact absurd _h (by decide)) | (exfalso; simp only [boolSet] at _h <;> omega) | skip)))
    all_goals (try conv => whnf)
    all_goals first
      | exact ⟨(1, c1), (by dsimp only; omega), (by dsimp only; omega), ⟨⟨[0], by decide, GG_no, rfl, SubOld.refl _ rfl, ⟨rfl, trivial⟩, ⟨.inl rfl, .inl (num_eq (by dsimp only; decide)), trivial⟩⟩, rfl⟩⟩
      | trace_state
  · refine vc_sound (C := seat) seat_ok (pl := []) ?_
    repeat' ((try conv => whnf); first
      | (with_reducible refine OKv.go (C := seat) seat_ok ?_)
      | (with_reducible refine BB_true ?_)
      | (with_reducible refine BB_false ?_)
      | (with_reducible refine Both.mk ?_ ?_)
      | (with_reducible refine VS.mk ?_)
      | (refine PSem.go (C := seat) seat_ok ?_)
      | (refine And.intro (PlanOK.mk (by kernel_rfl) rfl (by kernel_rfl) (by kernel_rfl)) ?_)
      | (refine And.intro rfl (Exists.intro _ (And.intro (by first | assumption | rfl) ?_)))
      | (refine And.intro ⟨rfl, rfl, rfl⟩ ?_)
      | (refine call_frz 1 rfl (FrzV.trans (frz_aggT 4 (by rfl) (frz_nil _ 4) (by rfl)) (FrzV.trans (frz_aggT 5 (by rfl) (frz_nil _ 3) (by rfl)) (FrzV.trans (frz_aggT 9 (by rfl) (frz_nil _ 1) (by rfl)) (FrzV.trans (frz_aggT 10 (by rfl) (frz_nil _ 1) (by rfl)) (FrzV.trans (frz_aggT 15 (by rfl) (frz_nil _ 3) (by rfl)) (frz_aggT 16 (by rfl) (frz_nil _ 3) (by rfl))))))) ?_; refine call_ro [] (put_yes 2 0 [exM 0] _ (exM 1) 0 0 0 0 0 0 (by decide) (ex_one 0) (exM_ok 1) (by decide)) GG_no rfl rfl rfl trivial ?_; rintro r bs' ext ⟨⟨c1, rfl⟩, rfl⟩)
      | (refine fun (caps : Nat → Nat) hcaps => ?_; conv at hcaps => whnf)
      | (refine BB.mk (fun _h => ?_) (fun _h => ?_) <;> (first | (exact absurd _h (by decide)) | (exfalso; simp only [boolSet] at _h <;> omega) | (simp only [boolSet] at _h) | skip))
      | (refine And.intro (by omega) ?_)
      | (refine BB.mk (fun _h => ?_) (fun _h => ?_) <;> (first | (exact absurd _h (by decide)) | (exfalso; simp only [boolSet] at _h <;> omega) | skip)))
    all_goals (try conv => whnf)
    all_goals first
      | exact ⟨(2, c1), (by dsimp only; omega), (by dsimp only; omega), ⟨⟨[0], by decide, GG_no, rfl, SubOld.refl _ rfl, ⟨rfl, trivial⟩, ⟨.inl rfl, .inl (num_eq (by dsimp only; decide)), trivial⟩⟩, rfl⟩⟩
      | trace_state
  · refine vc_sound (C := seat) seat_ok (pl := []) ?_
    repeat' ((try conv => whnf); first
      | (with_reducible refine OKv.go (C := seat) seat_ok ?_)
      | (with_reducible refine BB_true ?_)
      | (with_reducible refine BB_false ?_)
      | (with_reducible refine Both.mk ?_ ?_)
      | (with_reducible refine VS.mk ?_)
      | (refine PSem.go (C := seat) seat_ok ?_)
      | (refine And.intro (PlanOK.mk (by kernel_rfl) rfl (by kernel_rfl) (by kernel_rfl)) ?_)
      | (refine And.intro rfl (Exists.intro _ (And.intro (by first | assumption | rfl) ?_)))
      | (refine And.intro ⟨rfl, rfl, rfl⟩ ?_)
      | (refine call_frz 1 rfl (FrzV.trans (frz_aggT 4 (by rfl) (frz_nil _ 4) (by rfl)) (FrzV.trans (frz_aggT 5 (by rfl) (frz_nil _ 3) (by rfl)) (FrzV.trans (frz_aggT 9 (by rfl) (frz_nil _ 1) (by rfl)) (FrzV.trans (frz_aggT 10 (by rfl) (frz_nil _ 1) (by rfl)) (FrzV.trans (frz_aggT 15 (by rfl) (frz_nil _ 3) (by rfl)) (frz_aggT 16 (by rfl) (frz_nil _ 3) (by rfl))))))) ?_; refine call_ro [] (put_no 2 0 [exM 0, exM 1] _ (exM 2) 0 0 0 0 0 0 (by decide) ex_all (by decide)) GG_no rfl rfl rfl trivial ?_; rintro r bs' ext ⟨⟨c1, rfl⟩, rfl⟩)
      | (refine fun (caps : Nat → Nat) hcaps => ?_; conv at hcaps => whnf)
      | (refine BB.mk (fun _h => ?_) (fun _h => ?_) <;> (first | (exact absurd _h (by decide)) | (exfalso; simp only [boolSet] at _h <;> omega) | (simp only [boolSet] at _h) | skip))
      | (refine And.intro (by omega) ?_)
      | (refine BB.mk (fun _h => ?_) (fun _h => ?_) <;> (first | (exact absurd _h (by decide)) | (exfalso; simp only [boolSet] at _h <;> omega) | skip)))
    all_goals (try conv => whnf)
    all_goals first
      | exact ⟨(3, c1), (by dsimp only; omega), (by dsimp only; omega), ⟨⟨[0], by decide, GG_no, rfl, SubOld.refl _ rfl, ⟨rfl, trivial⟩, ⟨.inl rfl, .inl (num_eq (by dsimp only; decide)), trivial⟩⟩, rfl⟩⟩
      | trace_state
  · refine vc_sound (C := seat) seat_ok (pl := []) ?_
    repeat' ((try conv => whnf); first
      | (with_reducible refine OKv.go (C := seat) seat_ok ?_)
      | (with_reducible refine BB_true ?_)
      | (with_reducible refine BB_false ?_)
      | (with_reducible refine Both.mk ?_ ?_)
      | (with_reducible refine VS.mk ?_)
      | (refine PSem.go (C := seat) seat_ok ?_)
      | (refine And.intro (PlanOK.mk (by kernel_rfl) rfl (by kernel_rfl) (by kernel_rfl)) ?_)
      | (refine And.intro rfl (Exists.intro _ (And.intro (by first | assumption | rfl) ?_)))
      | (refine And.intro ⟨rfl, rfl, rfl⟩ ?_)
      | (refine call_ro [] (take_yes 2 1 (exM 0) [exM 1] _ (by decide) (ex_one 1) (exM_ok 0)) GG_no rfl rfl rfl trivial ?_; rintro r bs' ext ⟨⟨d1, d2, d3, d4, d5, d6, c7, rfl⟩, rfl⟩)
      | (refine call_ro [] (take_yes 2 1 (exM 1) [] _ (by decide) ex_none (exM_ok 1)) GG_no rfl rfl rfl trivial ?_; rintro r bs' ext ⟨⟨d1, d2, d3, d4, d5, d6, c7, rfl⟩, rfl⟩)
      | (refine call_ro [] (take_no 2 1 _) GG_no rfl rfl rfl trivial ?_; rintro r bs' ext ⟨rfl, rfl⟩)
      | (refine fun (caps : Nat → Nat) hcaps => ?_; conv at hcaps => whnf)
      | (refine BB.mk (fun _h => ?_) (fun _h => ?_) <;> (first | (exact absurd _h (by decide)) | (exfalso; simp only [boolSet] at _h <;> omega) | (simp only [boolSet] at _h) | skip))
      | (refine And.intro (by omega) ?_)
      | (refine BB.mk (fun _h => ?_) (fun _h => ?_) <;> (first | (exact absurd _h (by decide)) | (exfalso; simp only [boolSet] at _h <;> omega) | skip)))
    all_goals (try conv => whnf)
    all_goals first
      | exact ⟨_, _, FrzV.refl _ _, rfl, rfl, fun _ => rfl, rfl⟩
      | trace_state
end Go.Proofs.Ytkcdomafdjpbjaa
