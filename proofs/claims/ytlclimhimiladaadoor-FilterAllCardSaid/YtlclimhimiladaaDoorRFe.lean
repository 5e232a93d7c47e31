/- References: Normal. -/
import Derived.Test.YtlclimhimiladaaDoorRFd
import Derived.Test.YtlclimhimiladaaDoorF05e
namespace Go.Proofs.YtlclimhimiladaaDoor
open Go.RowKit

set_option maxRecDepth 100000 in
set_option maxHeartbeats 4000000 in
theorem rnorm_z (l r : List Sp) (ca cb : Nat) (hl : l.length ≤ 1099511627776) (hr : r.length ≤ 1099511627776) : FnOK Tryd.prog GG 22 [] [.z 2 (l.map spC) ca, .z 2 (r.map spC) cb] (fun rr _ ext => (∃ c', (meetF l r).length ≤ c' ∧ rr = .tup [.z 2 ((meetF l r).map spC) c', .v (.int .i64 (normE l r))]) ∧ ext = []) := by
  have hml : (l.map spC).length = l.length := List.length_map _
  have hmr : (r.map spC).length = r.length := List.length_map _
  by_cases hq : r.length ≠ 0 ∧ l.length = r.length
  · refine FnOK.pure GG_no rfl (fn_intro (C := seat) seat_ok [] GG_no (Tryd.func22) rfl rfl rfl rfl rfl ?_)
    repeat' ((try conv => whnf); first
      | (with_reducible refine OKv.go (C := seat) seat_ok ?_)
      | (with_reducible refine BB_true ?_)
      | (with_reducible refine BB_false ?_)
      | (with_reducible refine Both.mk ?_ ?_)
      | (with_reducible refine VS.mk ?_)
      | (refine PSem.go (C := seat) seat_ok ?_)
      | (refine And.intro (PlanOK.mk (by kernel_rfl) rfl (by kernel_rfl) (by kernel_rfl)) ?_)
      | (refine And.intro rfl (Exists.intro _ (And.intro (by first | assumption | rfl) ?_)))
      | (refine And.intro ⟨rfl, rfl, rfl⟩ ?_)
      | (refine BB.mk (fun _h => ?_) (fun _h => ?_) <;> (first | (exact absurd _h (by decide)) | (exfalso; simp only [boolSet, hml, hmr] at _h <;> omega) | (simp only [boolSet, hml, hmr] at _h) | skip))
      | (refine And.intro (by omega) ?_)
      | (refine BB.mk (fun _h => ?_) (fun _h => ?_) <;> (first | (exact absurd _h (by decide)) | (exfalso; simp only [boolSet] at _h <;> omega) | skip)))
    all_goals (try conv => whnf)
    refine loop_rule (α := Nat × Nat) (fun p => p.1 ≤ l.length ∧ p.1 ≤ p.2) (fun p => { slots := [(0, .z 2 (l.map spC) ca), (1, .z 2 (r.map spC) cb), (6, .s (.n 0) 2 0 p.1 p.2), (7, .v (.int .i64 (p.1 : Int)))], nt := 32, mem := ⟨GG, [], [.row 42 2 p.2 ((l.take p.1).map spC)]⟩ }) (fun p => l.length - p.1) (0, 0) ⟨Nat.zero_le _, Nat.zero_le _⟩ ⟨⟨[0], (by decide), GG_no, rfl, (SubOld.refl _ rfl), ⟨.inl (.inl ⟨rfl, rfl⟩), trivial⟩, ⟨.inl rfl, .inl rfl, .inr (.inl ⟨_, _, _, rfl, rfl⟩), .inl rfl, trivial⟩⟩, rfl⟩ ?_ (fun _ => rfl)
    rintro ⟨k, c⟩ ⟨hk, hc⟩
    dsimp only at hk hc ⊢
    refine vc_sound (C := seat) seat_ok (pl := []) ?_
    have hmm : ((l.take k).map spC).length = k := by rw [List.length_map, List.length_take]; omega
    by_cases hlt : k < l.length
    · have hrow := atC (l := l) (k := k) hlt
      repeat' ((try conv => whnf); first
        | (with_reducible refine OKv.go (C := seat) seat_ok ?_)
        | (with_reducible refine BB_true ?_)
        | (with_reducible refine BB_false ?_)
        | (with_reducible refine Both.mk ?_ ?_)
        | (with_reducible refine VS.mk ?_)
        | (refine PSem.go (C := seat) seat_ok ?_)
        | (refine And.intro (PlanOK.mk (by kernel_rfl) rfl (by kernel_rfl) (by kernel_rfl)) ?_)
        | (refine And.intro rfl (Exists.intro _ (And.intro (by first | assumption | rfl) ?_)))
        | (refine And.intro ⟨rfl, rfl, rfl⟩ ?_)
        | (refine And.intro ⟨by omega, by simp only [List.length_map]; omega⟩ (Exists.intro _ (And.intro (by first | assumption | rfl) ?_)))
        | (refine BB.mk (fun _h => ?_) (fun _h => ?_) <;> (first | (exact absurd _h (by decide)) | (exfalso; simp only [boolSet, hml, hmr] at _h <;> omega) | (simp only [boolSet, hml, hmr] at _h) | skip))
        | (refine And.intro ⟨rfl, rfl, rfl, by first | (simp only [chunks_len, List.length_map, List.length_take, List.length_drop, List.length_append, List.length_cons, List.length_nil] <;> omega) | omega | rfl⟩ ?_)
        | (refine And.intro ⟨rfl, by first | (simp only [chunks_len, List.length_map, List.length_take, List.length_drop, List.length_append, List.length_cons, List.length_nil] <;> omega) | omega | rfl⟩ ?_)
        | (refine And.intro (by first | exact ⟨rfl, Nat.le_refl _⟩ | first | (simp only [chunks_len, List.length_map, List.length_take, List.length_drop, List.length_append, List.length_cons, List.length_nil] <;> omega) | omega | rfl) ?_)
        | (refine fun (caps : Nat → Nat) hcaps => ?_; conv at hcaps => whnf)
        | (refine fun (cap' : Nat) hcap' => ?_)
        | (refine And.intro (by omega) ?_)
        | (refine BB.mk (fun _h => ?_) (fun _h => ?_) <;> (first | (exact absurd _h (by decide)) | (exfalso; simp only [boolSet] at _h <;> omega) | skip)))
      all_goals (try conv => whnf)
      refine ⟨(k + 1, cap'), ⟨by dsimp only; omega, by dsimp only; omega⟩, by dsimp only; omega, ⟨⟨[2], by decide, GG_no, rfl, SubOld.refl _ rfl, ⟨.inr (.inl ?_), trivial⟩, ⟨.inl rfl, .inl rfl, .inl rfl, .inl (num_eq (by rw [IntKind.wrap_i64]; omega)), trivial⟩⟩, rfl⟩⟩
      dsimp only
      rw [take_at hlt, List.map_append]
      rfl
    · obtain rfl : k = l.length := by omega
      repeat' ((try conv => whnf); first
        | (with_reducible refine OKv.go (C := seat) seat_ok ?_)
        | (with_reducible refine BB_true ?_)
        | (with_reducible refine BB_false ?_)
        | (with_reducible refine Both.mk ?_ ?_)
        | (with_reducible refine VS.mk ?_)
        | (refine PSem.go (C := seat) seat_ok ?_)
        | (refine And.intro (PlanOK.mk (by kernel_rfl) rfl (by kernel_rfl) (by kernel_rfl)) ?_)
        | (refine And.intro rfl (Exists.intro _ (And.intro (by first | assumption | rfl) ?_)))
        | (refine And.intro ⟨rfl, rfl, rfl⟩ ?_)
        | (refine call_frz 1 rfl (frz_row rfl hmm.symm) ?_; refine call_ro [] (rmeetF_zo r (l.take l.length) _ _ (by omega) (by rw [List.length_take]; omega) (meetF l r) (by rw [List.take_length, meet_comm])) GG_no rfl rfl rfl trivial ?_; rintro r bs' ext ⟨⟨c1, hc1, rfl⟩, rfl⟩)
        | (refine BB.mk (fun _h => ?_) (fun _h => ?_) <;> (first | (exact absurd _h (by decide)) | (exfalso; simp only [boolSet, hml, hmr] at _h <;> omega) | (simp only [boolSet, hml, hmr] at _h) | skip))
        | (refine And.intro (by omega) ?_)
        | (refine BB.mk (fun _h => ?_) (fun _h => ?_) <;> (first | (exact absurd _h (by decide)) | (exfalso; simp only [boolSet] at _h <;> omega) | skip)))
      all_goals (try conv => whnf)
      exact ⟨_, _, FrzV.refl _ _, rfl, rfl, fun _ => rfl, c1, hc1, tup2_eq rfl (by unfold normE; rw [if_pos (.inr (by omega))])⟩
  · refine FnOK.pure GG_no rfl (fn_intro (C := seat) seat_ok [] GG_no (Tryd.func22) rfl rfl rfl rfl rfl ?_)
    repeat' ((try conv => whnf); first
      | (with_reducible refine OKv.go (C := seat) seat_ok ?_)
      | (with_reducible refine BB_true ?_)
      | (with_reducible refine BB_false ?_)
      | (with_reducible refine Both.mk ?_ ?_)
      | (with_reducible refine VS.mk ?_)
      | (refine PSem.go (C := seat) seat_ok ?_)
      | (refine And.intro (PlanOK.mk (by kernel_rfl) rfl (by kernel_rfl) (by kernel_rfl)) ?_)
      | (refine And.intro rfl (Exists.intro _ (And.intro (by first | assumption | rfl) ?_)))
      | (refine And.intro ⟨rfl, rfl, rfl⟩ ?_)
      | (refine BB.mk (fun _h => ?_) (fun _h => ?_) <;> (first | (exact absurd _h (by decide)) | (exfalso; simp only [boolSet, hml, hmr] at _h <;> omega) | (simp only [boolSet, hml, hmr] at _h) | skip))
      | (refine And.intro (by omega) ?_)
      | (refine BB.mk (fun _h => ?_) (fun _h => ?_) <;> (first | (exact absurd _h (by decide)) | (exfalso; simp only [boolSet] at _h <;> omega) | skip)))
    all_goals (try conv => whnf)
    all_goals first
      | exact ⟨_, _, frz_tup 0 rfl (frz_nil _ 2) rfl, rfl, rfl, fun _ => rfl, 0, by rw [meetF_nil (by omega)]; exact Nat.le_refl _, tup2_eq (by rw [meetF_nil (by omega)]; rfl) (by unfold normE; rw [if_pos (.inl (by omega))])⟩
      | exact ⟨_, _, frz_tup 0 rfl (frz_nil _ 2) rfl, rfl, rfl, fun _ => rfl, 0, by rw [meetF_ne (by omega)]; exact Nat.le_refl _, tup2_eq (by rw [meetF_ne (by omega)]; rfl) (by unfold normE; rw [if_neg (by omega)])⟩
      | (exfalso; omega)
end Go.Proofs.YtlclimhimiladaaDoor
