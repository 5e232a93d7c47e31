/- References: Meet, Normal. -/
import Derived.Test.YtkmnglgjbmipgaaDoorRFc
import Derived.Test.YtkmnglgjbmipgaaDoorF05d
namespace Go.Proofs.YtkmnglgjbmipgaaDoor
open Go.RowKit

theorem take_at {α : Type} [Inhabited α] {l : List α} {k : Nat} (h : k < l.length) : l.take (k + 1) = l.take k ++ [atD l k] := by
  rw [List.take_add_one, atD_some h]; rfl
set_option maxRecDepth 100000 in
set_option maxHeartbeats 4000000 in
theorem rmeetF_z (l r : List Sp) (ca cb : Nat) (hl : l.length ≤ 1099511627776) (hr : r.length ≤ 1099511627776) : FnOK Tryd.prog GG 27 [] [.z 2 (l.map spC) ca, .z 2 (r.map spC) cb] (fun rr _ ext => (∃ c', (meetF l r).length ≤ c' ∧ rr = .z 2 ((meetF l r).map spC) c') ∧ ext = []) := by
  have hml : (l.map spC).length = l.length := List.length_map _
  have hmr : (r.map spC).length = r.length := List.length_map _
  by_cases hq : l.length = r.length
  · refine FnOK.pure GG_no rfl (fn_intro (C := seat) seat_ok [(7, (.op 0 .take (.op 1 .take (.op 2 .take (.op 3 .take (.op 4 .take (.op 5 .take (.op 6 .take (.op 7 .take (.seq 2 [true, true, true, true, true, true, true, true, true, true, true, true, true, false, false] (.fork 8 (.of [(9, .take), (10, .take), (11, .take), (12, .do_)]) (.of [(12, .do_), (8, .do_), (9, .take), (10, .take), (11, .take)])) (.of [(13, .do_), (14, .take)])))))))))))] GG_no (Tryd.func27) rfl rfl rfl rfl rfl ?_)
    repeat' ((try conv => whnf); first
      | (with_reducible refine OKv.go (C := seat) seat_ok ?_)
      | (with_reducible refine BB_true ?_)
      | (with_reducible refine BB_false ?_)
      | (with_reducible refine Both.mk ?_ ?_)
      | (with_reducible refine VS.mk ?_)
      | (refine PSem.go (C := seat) seat_ok ?_)
      | (refine And.intro (PlanOK.mk (by kernel_rfl) rfl (by kernel_rfl) (by kernel_rfl)) ?_)
      | (refine And.intro rfl (Exists.intro _ (And.intro (by first | assumption | rfl) ?_)))
      | (refine And.intro ⟨rfl, rfl, rfl⟩ ?_)
      | (refine BB.mk (fun _h => ?_) (fun _h => ?_) <;> (first | (exact absurd _h (by decide)) | (exfalso; simp only [boolSet, hml, hmr] at _h <;> omega) | (simp only [boolSet, hml, hmr] at _h) | skip))
      | (refine And.intro (by omega) ?_)
      | (refine BB.mk (fun _h => ?_) (fun _h => ?_) <;> (first | (exact absurd _h (by decide)) | (exfalso; simp only [boolSet] at _h <;> omega) | skip)))
    all_goals (try conv => whnf)
    refine loop_rule (α := Nat × Nat) (fun p => p.1 ≤ l.length ∧ p.1 ≤ p.2 ∧ ∀ j, j < p.1 → metP (atD l j) (atD r j) = true) (fun p => { slots := [(0, .z 2 (l.map spC) ca), (1, .z 2 (r.map spC) cb), (5, .s (.n 0) 2 0 p.1 p.2), (6, .v (.int .i64 (p.1 : Int)))], nt := 41, mem := ⟨GG, [], [.row 36 2 p.2 ((mtL l r p.1).map spC)]⟩ }) (fun p => l.length - p.1) (0, 0) ⟨Nat.zero_le _, Nat.zero_le _, fun j hj => by omega⟩ ⟨⟨[0], (by decide), GG_no, rfl, (SubOld.refl _ rfl), ⟨.inl (.inl ⟨rfl, rfl⟩), trivial⟩, ⟨.inl rfl, .inl rfl, .inr (.inl ⟨_, _, _, rfl, rfl⟩), .inl rfl, trivial⟩⟩, rfl⟩ ?_ (fun _ => rfl)
    rintro ⟨k, c⟩ ⟨hk, hc, hinv⟩
    dsimp only at hk hc hinv ⊢
    refine vc_sound (C := seat) seat_ok (pl := [(7, (.op 0 .take (.op 1 .take (.op 2 .take (.op 3 .take (.op 4 .take (.op 5 .take (.op 6 .take (.op 7 .take (.seq 2 [true, true, true, true, true, true, true, true, true, true, true, true, true, false, false] (.fork 8 (.of [(9, .take), (10, .take), (11, .take), (12, .do_)]) (.of [(12, .do_), (8, .do_), (9, .take), (10, .take), (11, .take)])) (.of [(13, .do_), (14, .take)])))))))))))]) ?_
    have hmt := mtL_len l r k
    have hmm : ((mtL l r k).map spC).length = k := by rw [List.length_map, hmt]
    by_cases hlt : k < l.length
    · have hrow := atC (l := l) (k := k) hlt
      have hrow2 := atC (l := r) (k := k) (by omega)
      repeat' ((try conv => whnf); first
        | (with_reducible refine OKv.go (C := seat) seat_ok ?_)
        | (with_reducible refine BB_true ?_)
        | (with_reducible refine BB_false ?_)
        | (with_reducible refine Both.mk ?_ ?_)
        | (with_reducible refine VS.mk ?_)
        | (refine PSem.go (C := seat) seat_ok ?_)
        | (refine And.intro (PlanOK.mk (by kernel_rfl) rfl (by kernel_rfl) (by kernel_rfl)) ?_)
        | (refine And.intro rfl (Exists.intro _ (And.intro (by first | assumption | rfl) ?_)))
        | (refine And.intro ⟨rfl, rfl, rfl⟩ ?_)
        | (refine call_ro [] (rmeet_z _ _ _ _) GG_no rfl rfl rfl trivial ?_; rintro r bs' ext ⟨(⟨hm, rfl⟩ | ⟨hm, rfl⟩), rfl⟩)
        | (refine And.intro ⟨by omega, by simp only [List.length_map]; omega⟩ (Exists.intro _ (And.intro (by first | assumption | rfl) ?_)))
        | (refine BB.mk (fun _h => ?_) (fun _h => ?_) <;> (first | (exact absurd _h (by decide)) | (exfalso; simp only [boolSet, hml, hmr] at _h <;> omega) | (simp only [boolSet, hml, hmr] at _h) | skip))
        | (refine And.intro ⟨rfl, rfl, rfl, by first | (simp only [chunks_len, List.length_map, List.length_take, List.length_drop, List.length_append, List.length_cons, List.length_nil] <;> omega) | omega | rfl⟩ ?_)
        | (refine And.intro ⟨rfl, by first | (simp only [chunks_len, List.length_map, List.length_take, List.length_drop, List.length_append, List.length_cons, List.length_nil] <;> omega) | omega | rfl⟩ ?_)
        | (refine And.intro (by first | exact ⟨rfl, Nat.le_refl _⟩ | first | (simp only [chunks_len, List.length_map, List.length_take, List.length_drop, List.length_append, List.length_cons, List.length_nil] <;> omega) | omega | rfl) ?_)
        | (refine fun (caps : Nat → Nat) hcaps => ?_; conv at hcaps => whnf)
        | (refine fun (cap' : Nat) hcap' => ?_)
        | (refine And.intro (by omega) ?_)
        | (refine BB.mk (fun _h => ?_) (fun _h => ?_) <;> (first | (exact absurd _h (by decide)) | (exfalso; simp only [boolSet] at _h <;> omega) | skip)))
      all_goals (try conv => whnf)
      all_goals first
        | exact ⟨(k + 1, cap'), ⟨by dsimp only; omega, by dsimp only; omega, inv_succ hinv (by unfold metP; exact decide_eq_true hm)⟩, by dsimp only; omega, ⟨⟨[3], by decide, GG_no, rfl, SubOld.refl _ rfl, ⟨.inr (.inl (by dsimp only; rw [mtL_succ, List.map_append]; rfl)), trivial⟩, ⟨.inl rfl, .inl rfl, .inl rfl, .inl (num_eq (by rw [IntKind.wrap_i64]; omega)), trivial⟩⟩, rfl⟩⟩
        | (have hno : metP (atD l k) (atD r k) = false := by unfold metP; exact decide_eq_false (by omega)
           exact ⟨_, _, frz_row rfl rfl, rfl, rfl, fun _ => rfl, 0, by rw [meetF_no (k := k) (by omega) hno]; exact Nat.le_refl _, by rw [meetF_no (k := k) (by omega) hno]; rfl⟩)
    · obtain rfl : k = l.length := by omega
      have hmin : min l.length r.length = l.length := by omega
      have hy := meetF_yes hq (fun j hj => hinv j (by omega))
      rw [hmin] at hy
      repeat' ((try conv => whnf); first
        | (with_reducible refine OKv.go (C := seat) seat_ok ?_)
        | (with_reducible refine BB_true ?_)
        | (with_reducible refine BB_false ?_)
        | (with_reducible refine Both.mk ?_ ?_)
        | (with_reducible refine VS.mk ?_)
        | (refine PSem.go (C := seat) seat_ok ?_)
        | (refine And.intro (PlanOK.mk (by kernel_rfl) rfl (by kernel_rfl) (by kernel_rfl)) ?_)
        | (refine And.intro rfl (Exists.intro _ (And.intro (by first | assumption | rfl) ?_)))
        | (refine And.intro ⟨rfl, rfl, rfl⟩ ?_)
        | (refine BB.mk (fun _h => ?_) (fun _h => ?_) <;> (first | (exact absurd _h (by decide)) | (exfalso; simp only [boolSet, hml, hmr] at _h <;> omega) | (simp only [boolSet, hml, hmr] at _h) | skip))
        | (refine And.intro (by omega) ?_)
        | (refine BB.mk (fun _h => ?_) (fun _h => ?_) <;> (first | (exact absurd _h (by decide)) | (exfalso; simp only [boolSet] at _h <;> omega) | skip)))
      all_goals (try conv => whnf)
      exact ⟨_, _, frz_row rfl (by rw [List.length_map, hmt]), rfl, rfl, fun _ => rfl, c, by rw [hy, hmt]; exact hc, by rw [hy]⟩
  · refine FnOK.pure GG_no rfl (fn_intro (C := seat) seat_ok [(7, (.op 0 .take (.op 1 .take (.op 2 .take (.op 3 .take (.op 4 .take (.op 5 .take (.op 6 .take (.op 7 .take (.seq 2 [true, true, true, true, true, true, true, true, true, true, true, true, true, false, false] (.fork 8 (.of [(9, .take), (10, .take), (11, .take), (12, .do_)]) (.of [(12, .do_), (8, .do_), (9, .take), (10, .take), (11, .take)])) (.of [(13, .do_), (14, .take)])))))))))))] GG_no (Tryd.func27) rfl rfl rfl rfl rfl ?_)
    repeat' ((try conv => whnf); first
      | (with_reducible refine OKv.go (C := seat) seat_ok ?_)
      | (with_reducible refine BB_true ?_)
      | (with_reducible refine BB_false ?_)
      | (with_reducible refine Both.mk ?_ ?_)
      | (with_reducible refine VS.mk ?_)
      | (refine PSem.go (C := seat) seat_ok ?_)
      | (refine And.intro (PlanOK.mk (by kernel_rfl) rfl (by kernel_rfl) (by kernel_rfl)) ?_)
      | (refine And.intro rfl (Exists.intro _ (And.intro (by first | assumption | rfl) ?_)))
      | (refine And.intro ⟨rfl, rfl, rfl⟩ ?_)
      | (refine BB.mk (fun _h => ?_) (fun _h => ?_) <;> (first | (exact absurd _h (by decide)) | (exfalso; simp only [boolSet, hml, hmr] at _h <;> omega) | (simp only [boolSet, hml, hmr] at _h) | skip))
      | (refine And.intro (by omega) ?_)
      | (refine BB.mk (fun _h => ?_) (fun _h => ?_) <;> (first | (exact absurd _h (by decide)) | (exfalso; simp only [boolSet] at _h <;> omega) | skip)))
    all_goals (try conv => whnf)
    all_goals first
      | exact ⟨_, _, frz_nil _ 2, rfl, rfl, fun _ => rfl, 0, by rw [meetF_ne hq]; exact Nat.le_refl _, by rw [meetF_ne hq]; rfl⟩
      | (exfalso; omega)
theorem rmeetF_zo (l r : List Sp) (ca cb : Nat) (hl : l.length ≤ 1099511627776) (hr : r.length ≤ 1099511627776) (o : List Sp) (ho : meetF l r = o) : FnOK Tryd.prog GG 27 [] [.z 2 (l.map spC) ca, .z 2 (r.map spC) cb] (fun rr _ ext => (∃ c', o.length ≤ c' ∧ rr = .z 2 (o.map spC) c') ∧ ext = []) := ho ▸ rmeetF_z l r ca cb hl hr
end Go.Proofs.YtkmnglgjbmipgaaDoor
