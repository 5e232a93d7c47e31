/- Package filter: Meet. -/
import Derived.Test.YtkmnglgjbmipgaaDoorF05c
namespace Go.Proofs.YtkmnglgjbmipgaaDoor
open Go.RowKit

def metP (x y : Sp) : Bool := decide (max x.a y.a ≤ min x.b y.b)
def mtP (x y : Sp) : Sp := ⟨max x.a y.a, min x.b y.b⟩
def mtL (a b : List Sp) (k : Nat) : List Sp := (List.range k).map fun j => mtP (atD a j) (atD b j)
theorem mtL_succ (a b : List Sp) (k : Nat) : mtL a b (k + 1) = mtL a b k ++ [mtP (atD a k) (atD b k)] := by
  unfold mtL
  rw [List.range_succ, List.map_append]; rfl
theorem mtL_len (a b : List Sp) (k : Nat) : (mtL a b k).length = k := by simp [mtL]
def meetF (a b : List Sp) : List Sp := bif decide (a.length = b.length) && allP metP a b then mtL a b (min a.length b.length) else []
theorem meetF_no {a b : List Sp} {k : Nat} (hk : k < min a.length b.length) (h : metP (atD a k) (atD b k) = false) : meetF a b = [] := by
  unfold meetF
  rw [allP_no hk h, Bool.and_false, cond_false]
theorem meetF_ne {a b : List Sp} (h : a.length ≠ b.length) : meetF a b = [] := by
  unfold meetF
  rw [decide_eq_false h, Bool.false_and, cond_false]
theorem meetF_yes {a b : List Sp} (h : a.length = b.length) (k : ∀ j, j < min a.length b.length → metP (atD a j) (atD b j) = true) : meetF a b = mtL a b (min a.length b.length) := by
  unfold meetF
  rw [decide_eq_true h, allP_yes k]; rfl
set_option maxRecDepth 100000 in
set_option maxHeartbeats 4000000 in
theorem meetF_z (l r : List Sp) (ca cb : Nat) (hl : l.length ≤ 1099511627776) (hr : r.length ≤ 1099511627776) : FnOK Tryd.prog GG 16 [] [.z 2 (l.map spC) ca, .z 2 (r.map spC) cb] (fun rr _ ext => (∃ c', (meetF l r).length ≤ c' ∧ rr = .z 2 ((meetF l r).map spC) c') ∧ ext = []) := by
  have hml : (l.map spC).length = l.length := List.length_map _
  have hmr : (r.map spC).length = r.length := List.length_map _
  by_cases hq : l.length = r.length
  · refine FnOK.pure GG_no rfl (fn_intro (C := seat) seat_ok [] GG_no (Tryd.func16) rfl rfl rfl rfl rfl ?_)
    repeat' ((try conv => whnf); first
      | (with_reducible refine OKv.go (C := seat) seat_ok ?_)
      | (with_reducible refine BB_true ?_)
      | (with_reducible refine BB_false ?_)
      | (with_reducible refine Both.mk ?_ ?_)
      | (with_reducible refine VS.mk ?_)
      | (refine PSem.go (C := seat) seat_ok ?_)
      | (refine And.intro (PlanOK.mk (by kernel_rfl) rfl (by kernel_rfl) (by kernel_rfl)) ?_)
      | (refine And.intro rfl (Exists.intro _ (And.intro (by first | assumption | rfl) ?_)))
      | (refine And.intro ⟨rfl, rfl, rfl⟩ ?_)
      | (refine call_ro [] (pairs_SS l r ca cb) GG_no rfl rfl rfl trivial ?_; rintro r bs' ext ⟨rfl, rfl⟩)
      | (refine BB.mk (fun _h => ?_) (fun _h => ?_) <;> (first | (exact absurd _h (by decide)) | (exfalso; simp only [boolSet, hml, hmr] at _h <;> omega) | (simp only [boolSet, hml, hmr] at _h) | skip))
      | (refine And.intro (by omega) ?_)
      | (refine BB.mk (fun _h => ?_) (fun _h => ?_) <;> (first | (exact absurd _h (by decide)) | (exfalso; simp only [boolSet] at _h <;> omega) | skip)))
    all_goals (try conv => whnf)
    refine range_rule (C := seat) (pl := []) ((iter_SS l r _ _ (by omega)).lend [.n 2, .n 3] (fun _ _ => cellsZ_agg (cellsZ_v (cellsZ_v cellsZ_nil)) (cellsZ_agg (cellsZ_v (cellsZ_v cellsZ_nil)) cellsZ_nil))) (α := Nat × Nat) (fun k p => p.1 = k ∧ p.1 ≤ p.2 ∧ ∀ j, j < k → metP (atD l j) (atD r j) = true) (fun p => { slots := [(4, .p (.n 0) 0 0 0), (5, .p (.n 1) 0 0 0), (17, .fn 39 [.p (.n 2) 0 0 0, .p (.n 3) 0 0 0])], nt := 33, mem := ⟨GG, [], [.box 24 [.v (.slice none 0 0)], .box 24 [.s (.n 4) 2 0 p.1 p.2], .cst 22 [.z 2 (l.map spC) ca], .cst 22 [.z 2 (r.map spC) cb], .row 36 2 p.2 ((mtL l r p.1).map spC)]⟩ }) (0, 0) ⟨rfl, Nat.le_refl _, (fun j hj => by omega)⟩
      ((pass_box (t := 24) (cells := [.v (.slice none 0 0)]) (cells' := [.s (.n 4) 2 0 0 0]) 1 0 rfl rfl (FrzV.weak (weak_nilS (.n 4) 2 0)) rfl rfl).trans (Ref.pass ⟨⟨[0, 1, 2, 3, 4], by decide, GG_no, rfl, SubOld.refl _ rfl, ⟨rfl, rfl, .inr rfl, .inr rfl, .inl (.inl ⟨rfl, rfl⟩), trivial⟩, ⟨.inl rfl, .inl rfl, .inl rfl, trivial⟩⟩, rfl⟩))
      (fun _ => rfl) (fun _ _ _ => ⟨⟨rfl, _, _, rfl, cellsZ_z cellsZ_nil⟩, ⟨rfl, _, _, rfl, cellsZ_z cellsZ_nil⟩, trivial⟩) (fun _ => rfl) (fun _ => rfl) rfl ?_ ?_
    · rintro k ⟨k', c⟩ hk ⟨rfl, hc, hinv⟩
      dsimp only at hk hc hinv ⊢
      have hmt := mtL_len l r k'
      have hmm : ((mtL l r k').map spC).length = k' := by rw [List.length_map, hmt]
      conv => whnf
      refine vc_sound (C := seat) seat_ok (pl := []) ?_
      repeat' ((try conv => whnf); first
        | (with_reducible refine OKv.go (C := seat) seat_ok ?_)
        | (with_reducible refine BB_true ?_)
        | (with_reducible refine BB_false ?_)
        | (with_reducible refine Both.mk ?_ ?_)
        | (with_reducible refine VS.mk ?_)
        | (refine PSem.go (C := seat) seat_ok ?_)
        | (refine And.intro (PlanOK.mk (by kernel_rfl) rfl (by kernel_rfl) (by kernel_rfl)) ?_)
        | (refine And.intro rfl (Exists.intro _ (And.intro (by first | assumption | rfl) ?_)))
        | (refine And.intro ⟨rfl, rfl, rfl⟩ ?_)
        | (refine call_ro [] (meet_z _ _ _ _) GG_no rfl rfl rfl trivial ?_; rintro r bs' ext ⟨(⟨hm, rfl⟩ | ⟨hm, rfl⟩), rfl⟩)
        | (refine BB.mk (fun _h => ?_) (fun _h => ?_) <;> (first | (exact absurd _h (by decide)) | (exfalso; simp only [boolSet] at _h <;> omega) | (simp only [boolSet] at _h) | skip))
        | (refine And.intro ⟨rfl, rfl, rfl, by first | (simp only [chunks_len, List.length_map, List.length_take, List.length_drop, List.length_append, List.length_cons, List.length_nil] <;> omega) | omega | rfl⟩ ?_)
        | (refine And.intro ⟨rfl, by first | (simp only [chunks_len, List.length_map, List.length_take, List.length_drop, List.length_append, List.length_cons, List.length_nil] <;> omega) | omega | rfl⟩ ?_)
        | (refine And.intro (by first | exact ⟨rfl, Nat.le_refl _⟩ | first | (simp only [chunks_len, List.length_map, List.length_take, List.length_drop, List.length_append, List.length_cons, List.length_nil] <;> omega) | omega | rfl) ?_)
        | (refine fun (caps : Nat → Nat) hcaps => ?_; conv at hcaps => whnf)
        | (refine fun (cap' : Nat) hcap' => ?_)
        | (refine And.intro (by omega) ?_)
        | (refine BB.mk (fun _h => ?_) (fun _h => ?_) <;> (first | (exact absurd _h (by decide)) | (exfalso; simp only [boolSet] at _h <;> omega) | skip)))
      all_goals (try conv => whnf)
      · refine ⟨(k' + 1, cap'), ⟨rfl, by dsimp only; omega, ext_inv (p := fun j => metP (atD l j) (atD r j)) hinv (by unfold metP; exact decide_eq_true hm)⟩, Ref.pass ⟨⟨[0, 1, 2, 3, 9], by decide, GG_no, rfl, SubOld.refl _ rfl, ⟨rfl, rfl, .inl rfl, .inl rfl, .inr (.inl ?_), trivial⟩, ⟨.inl rfl, .inl rfl, .inl rfl, trivial⟩⟩, rfl⟩⟩
        dsimp only
        rw [mtL_succ, List.map_append]
        rfl
      · have hno : metP (atD l k') (atD r k') = false := by unfold metP; exact decide_eq_false (by omega)
        exact ⟨_, _, frz_nil _ 2, rfl, rfl, fun _ => rfl, 0, by rw [meetF_no hk hno]; exact Nat.le_refl _, by rw [meetF_no hk hno]; rfl⟩
    · rintro ⟨k', c⟩ ⟨hk', hc, hinv⟩
      dsimp only at hk' hc
      have hmt := mtL_len l r k'
      repeat' ((try conv => whnf); first
        | (with_reducible refine OKv.go (C := seat) seat_ok ?_)
        | (with_reducible refine BB_true ?_)
        | (with_reducible refine BB_false ?_)
        | (with_reducible refine Both.mk ?_ ?_)
        | (with_reducible refine VS.mk ?_)
        | (refine PSem.go (C := seat) seat_ok ?_)
        | (refine And.intro (PlanOK.mk (by kernel_rfl) rfl (by kernel_rfl) (by kernel_rfl)) ?_)
        | (refine And.intro rfl (Exists.intro _ (And.intro (by first | assumption | rfl) ?_)))
        | (refine And.intro ⟨rfl, rfl, rfl⟩ ?_)
        | (refine And.intro (by omega) ?_)
        | (refine BB.mk (fun _h => ?_) (fun _h => ?_) <;> (first | (exact absurd _h (by decide)) | (exfalso; simp only [boolSet] at _h <;> omega) | skip)))
      all_goals (try conv => whnf)
      exact ⟨_, _, frz_row (b := 4) rfl (by rw [List.length_map, hmt]), rfl, rfl, fun _ => rfl, c, by rw [meetF_yes hq hinv, ← hk', hmt]; exact hc, by rw [meetF_yes hq hinv, ← hk']⟩
  · refine FnOK.pure GG_no rfl (fn_intro (C := seat) seat_ok [] GG_no (Tryd.func16) rfl rfl rfl rfl rfl ?_)
    repeat' ((try conv => whnf); first
      | (with_reducible refine OKv.go (C := seat) seat_ok ?_)
      | (with_reducible refine BB_true ?_)
      | (with_reducible refine BB_false ?_)
      | (with_reducible refine Both.mk ?_ ?_)
      | (with_reducible refine VS.mk ?_)
      | (refine PSem.go (C := seat) seat_ok ?_)
      | (refine And.intro (PlanOK.mk (by kernel_rfl) rfl (by kernel_rfl) (by kernel_rfl)) ?_)
      | (refine And.intro rfl (Exists.intro _ (And.intro (by first | assumption | rfl) ?_)))
      | (refine And.intro ⟨rfl, rfl, rfl⟩ ?_)
      | (refine BB.mk (fun _h => ?_) (fun _h => ?_) <;> (first | (exact absurd _h (by decide)) | (exfalso; simp only [boolSet, hml, hmr] at _h <;> omega) | (simp only [boolSet, hml, hmr] at _h) | skip))
      | (refine And.intro (by omega) ?_)
      | (refine BB.mk (fun _h => ?_) (fun _h => ?_) <;> (first | (exact absurd _h (by decide)) | (exfalso; simp only [boolSet] at _h <;> omega) | skip)))
    all_goals (try conv => whnf)
    all_goals first
      | exact ⟨_, _, frz_nil _ 2, rfl, rfl, fun _ => rfl, 0, by rw [meetF_ne hq]; exact Nat.le_refl _, by rw [meetF_ne hq]; rfl⟩
      | (exfalso; omega)
end Go.Proofs.YtkmnglgjbmipgaaDoor
