/- Of stages 3 to 5: Right, of the references. -/
import Derived.Test.YtocappiebmmpgaaT13j
namespace Go.Proofs.Ytocappiebmmpgaa
open Go.RowKit

def hasT (a b v : Int) : Bool := decide (a ≤ v) && decide (v ≤ b)
def covT (a b c d : Int) : Bool := decide (d < c) || (decide (a ≤ c) && decide (d ≤ b))
theorem bool_iff {a b : Bool} (h : a = true ↔ b = true) : a = b := by cases a <;> cases b <;> simp_all
def allP {α β : Type} [Inhabited α] [Inhabited β] (p : α → β → Bool) (l : List α) (r : List β) : Bool := (List.range (min l.length r.length)).all fun k => p (atD l k) (atD r k)
theorem allP_no {α β : Type} [Inhabited α] [Inhabited β] {p : α → β → Bool} {l : List α} {r : List β} {k : Nat} (hk : k < min l.length r.length) (h : p (atD l k) (atD r k) = false) : allP p l r = false := by
  unfold allP
  rw [List.all_eq_false]
  exact ⟨k, List.mem_range.2 hk, by rw [h]; decide⟩
theorem allP_yes {α β : Type} [Inhabited α] [Inhabited β] {p : α → β → Bool} {l : List α} {r : List β} (h : ∀ k, k < min l.length r.length → p (atD l k) (atD r k) = true) : allP p l r = true := by
  unfold allP
  rw [List.all_eq_true]
  exact fun k hk => h k (List.mem_range.1 hk)
def rigP (x y : Sp) : Bool := decide (y.f ≤ y.t) && covT x.f x.t y.f y.t
def rightF (s g : List Sp) : Bool := decide (g.length = 0) || (decide (s.length = g.length) && allP rigP s g)
theorem inv_succ {p : Nat → Prop} {k : Nat} (h : ∀ j, j < k → p j) (hk : p k) : ∀ j, j < k + 1 → p j := fun j hj => by
  rcases Nat.lt_succ_iff_lt_or_eq.1 hj with h' | rfl
  · exact h j h'
  · exact hk
def schB (s : List Sp) : Bool := (List.range s.length).all (fun j => decide ((atD s j).f ≤ (atD s j).t)) && (decide (0 < s.length) && decide (s.length < 5))
theorem schB_no {s : List Sp} {k : Nat} (hk : k < s.length) (h : (atD s k).t < (atD s k).f) : schB s = false := by
  have : (List.range s.length).all (fun j => decide ((atD s j).f ≤ (atD s j).t)) = false := by
    rw [List.all_eq_false]
    exact ⟨k, List.mem_range.2 hk, by simp only [decide_eq_true_eq]; omega⟩
  unfold schB
  rw [this, Bool.false_and]
theorem schB_yes {s : List Sp} (h : ∀ j, j < s.length → (atD s j).f ≤ (atD s j).t) : schB s = (decide (0 < s.length) && decide (s.length < 5)) := by
  have : (List.range s.length).all (fun j => decide ((atD s j).f ≤ (atD s j).t)) = true := by
    rw [List.all_eq_true]
    exact fun j hj => decide_eq_true (h j (List.mem_range.1 hj))
  unfold schB
  rw [this, Bool.true_and]
set_option maxRecDepth 100000 in
set_option maxHeartbeats 4000000 in
theorem rright13 (l r : List Sp) (ca cb : Nat) (hl : l.length ≤ 9223372036854775807) (hr : r.length ≤ 9223372036854775807) : FnOK Try.prog GG 28 [] [.z 2 (l.map spC) ca, .z 2 (r.map spC) cb] (fun rr _ ext => (rr = .v (.bool (rightF l r))) ∧ ext = []) := by
  have hml : (l.map spC).length = l.length := List.length_map _
  have hmr : (r.map spC).length = r.length := List.length_map _
  by_cases hq : r.length ≠ 0 ∧ l.length = r.length
  · refine FnOK.pure GG_no rfl (fn_intro (C := seat) seat_ok [(8, (.of [(0, .take), (1, .take), (2, .take), (3, .take), (4, .take), (5, .take), (6, .take), (7, .take), (8, .take), (9, .take), (10, .take), (11, .take), (12, .take), (13, .take), (14, .take), (15, .take), (16, .take), (17, .take), (18, .take), (19, .take), (20, .take), (21, .take), (22, .take), (23, .take), (24, .take), (25, .take), (26, .take), (27, .take), (28, .take), (29, .take), (30, .take), (31, .take), (32, .take), (33, .take), (34, .take), (35, .take), (36, .take)]))] GG_no (Try.func28) rfl rfl rfl rfl rfl ?_)
    repeat' ((try conv => whnf); first
      | (with_reducible refine OKv.go (C := seat) seat_ok ?_)
      | (with_reducible refine BB_true ?_)
      | (with_reducible refine BB_false ?_)
      | (with_reducible refine Both.mk ?_ ?_)
      | (with_reducible refine VS.mk ?_)
      | (refine PSem.go (C := seat) seat_ok ?_)
      | (refine And.intro (PlanOK.mk (by kernel_rfl) rfl (by kernel_rfl) (by kernel_rfl)) ?_)
      | (refine And.intro rfl (Exists.intro _ (And.intro (by first | assumption | rfl) ?_)))
      | (refine And.intro ⟨rfl, rfl, rfl⟩ ?_)
      | (refine BB.mk (fun _h => ?_) (fun _h => ?_) <;> (first | (exact absurd _h (by decide)) | (exfalso; simp only [boolSet, hml, hmr] at _h <;> omega) | (simp only [boolSet, hml, hmr] at _h) | skip))
      | (refine And.intro (by omega) ?_)
      | (refine BB.mk (fun _h => ?_) (fun _h => ?_) <;> (first | (exact absurd _h (by decide)) | (exfalso; simp only [boolSet] at _h <;> omega) | skip)))
    all_goals (try conv => whnf)
    refine loop_rule (α := Nat) (fun k => k ≤ r.length ∧ ∀ j, j < k → rigP (atD l j) (atD r j) = true) (fun k => { slots := [(0, .z 2 (l.map spC) ca), (1, .z 2 (r.map spC) cb), (5, .v (.int .i64 (k : Int)))], nt := 57, mem := ⟨GG, [], []⟩ }) (fun k => r.length - k) 0 ⟨Nat.zero_le _, fun j hj => by omega⟩ ⟨⟨[], List.nodup_nil, GG_no, rfl, (SubOld.refl _ rfl), trivial, ⟨.inl rfl, .inl rfl, .inl rfl, trivial⟩⟩, rfl⟩ ?_ (fun _ => rfl)
    rintro k ⟨hk, hinv⟩
    refine vc_sound (C := seat) seat_ok (pl := [(8, (.of [(0, .take), (1, .take), (2, .take), (3, .take), (4, .take), (5, .take), (6, .take), (7, .take), (8, .take), (9, .take), (10, .take), (11, .take), (12, .take), (13, .take), (14, .take), (15, .take), (16, .take), (17, .take), (18, .take), (19, .take), (20, .take), (21, .take), (22, .take), (23, .take), (24, .take), (25, .take), (26, .take), (27, .take), (28, .take), (29, .take), (30, .take), (31, .take), (32, .take), (33, .take), (34, .take), (35, .take), (36, .take)]))]) ?_
    by_cases hlt : k < r.length
    · have hrow := atC (l := l) (k := k) (by omega)
      have hrow2 := atC (l := r) (k := k) hlt
      repeat' ((try conv => whnf); first
        | (with_reducible refine OKv.go (C := seat) seat_ok ?_)
        | (with_reducible refine BB_true ?_)
        | (with_reducible refine BB_false ?_)
        | (with_reducible refine Both.mk ?_ ?_)
        | (with_reducible refine VS.mk ?_)
        | (refine PSem.go (C := seat) seat_ok ?_)
        | (refine And.intro (PlanOK.mk (by kernel_rfl) rfl (by kernel_rfl) (by kernel_rfl)) ?_)
        | (refine And.intro rfl (Exists.intro _ (And.intro (by first | assumption | rfl) ?_)))
        | (refine And.intro ⟨rfl, rfl, rfl⟩ ?_)
        | (refine And.intro ⟨by omega, by simp only [List.length_map]; omega⟩ (Exists.intro _ (And.intro (by first | assumption | rfl) ?_)))
        | (refine BB.mk (fun _h => ?_) (fun _h => ?_) <;> (first | (exact absurd _h (by decide)) | (exfalso; simp only [boolSet, hml, hmr] at _h <;> omega) | (simp only [boolSet, hml, hmr] at _h) | skip))
        | (refine And.intro (by omega) ?_)
        | (refine BB.mk (fun _h => ?_) (fun _h => ?_) <;> (first | (exact absurd _h (by decide)) | (exfalso; simp only [boolSet] at _h <;> omega) | skip)))
      all_goals (try conv => whnf)
      all_goals first
        | exact ⟨k + 1, ⟨by omega, inv_succ hinv (by unfold rigP covT; simp only [Bool.and_eq_true, Bool.or_eq_true, decide_eq_true_eq]; omega)⟩, by omega, ⟨⟨[], by decide, GG_no, rfl, SubOld.refl _ rfl, trivial, ⟨.inl rfl, .inl rfl, .inl (num_eq (by rw [IntKind.wrap_i64]; omega)), trivial⟩⟩, rfl⟩⟩
        | exact ⟨_, _, FrzV.refl _ _, rfl, rfl, fun _ => rfl, bool_eq (by unfold rightF; rw [allP_no (k := k) (by omega) (by unfold rigP covT; simp only [Bool.and_eq_false_iff, Bool.or_eq_false_iff, decide_eq_false_iff_not]; omega)]; simp only [Bool.and_false, Bool.or_false] <;> exact (decide_eq_false (by omega)).symm)⟩
    · obtain rfl : k = r.length := by omega
      repeat' ((try conv => whnf); first
        | (with_reducible refine OKv.go (C := seat) seat_ok ?_)
        | (with_reducible refine BB_true ?_)
        | (with_reducible refine BB_false ?_)
        | (with_reducible refine Both.mk ?_ ?_)
        | (with_reducible refine VS.mk ?_)
        | (refine PSem.go (C := seat) seat_ok ?_)
        | (refine And.intro (PlanOK.mk (by kernel_rfl) rfl (by kernel_rfl) (by kernel_rfl)) ?_)
        | (refine And.intro rfl (Exists.intro _ (And.intro (by first | assumption | rfl) ?_)))
        | (refine And.intro ⟨rfl, rfl, rfl⟩ ?_)
        | (refine BB.mk (fun _h => ?_) (fun _h => ?_) <;> (first | (exact absurd _h (by decide)) | (exfalso; simp only [boolSet, hml, hmr] at _h <;> omega) | (simp only [boolSet, hml, hmr] at _h) | skip))
        | (refine And.intro (by omega) ?_)
        | (refine BB.mk (fun _h => ?_) (fun _h => ?_) <;> (first | (exact absurd _h (by decide)) | (exfalso; simp only [boolSet] at _h <;> omega) | skip)))
      all_goals (try conv => whnf)
      have hyes := allP_yes (p := rigP) (l := l) (r := r) (fun j hj => hinv j (by omega))
      exact ⟨_, _, FrzV.refl _ _, rfl, rfl, fun _ => rfl, bool_eq (by unfold rightF; rw [hyes]; cases e1 : decide (l.length = r.length) <;> cases e2 : decide (r.length = 0) <;> cases e3 : decide (l.length ≠ 0) <;> simp only [decide_eq_true_eq, decide_eq_false_iff_not] at e1 e2 e3 <;> first | rfl | (exfalso; omega))⟩
  · refine FnOK.pure GG_no rfl (fn_intro (C := seat) seat_ok [(8, (.of [(0, .take), (1, .take), (2, .take), (3, .take), (4, .take), (5, .take), (6, .take), (7, .take), (8, .take), (9, .take), (10, .take), (11, .take), (12, .take), (13, .take), (14, .take), (15, .take), (16, .take), (17, .take), (18, .take), (19, .take), (20, .take), (21, .take), (22, .take), (23, .take), (24, .take), (25, .take), (26, .take), (27, .take), (28, .take), (29, .take), (30, .take), (31, .take), (32, .take), (33, .take), (34, .take), (35, .take), (36, .take)]))] GG_no (Try.func28) rfl rfl rfl rfl rfl ?_)
    repeat' ((try conv => whnf); first
      | (with_reducible refine OKv.go (C := seat) seat_ok ?_)
      | (with_reducible refine BB_true ?_)
      | (with_reducible refine BB_false ?_)
      | (with_reducible refine Both.mk ?_ ?_)
      | (with_reducible refine VS.mk ?_)
      | (refine PSem.go (C := seat) seat_ok ?_)
      | (refine And.intro (PlanOK.mk (by kernel_rfl) rfl (by kernel_rfl) (by kernel_rfl)) ?_)
      | (refine And.intro rfl (Exists.intro _ (And.intro (by first | assumption | rfl) ?_)))
      | (refine And.intro ⟨rfl, rfl, rfl⟩ ?_)
      | (refine BB.mk (fun _h => ?_) (fun _h => ?_) <;> (first | (exact absurd _h (by decide)) | (exfalso; simp only [boolSet, hml, hmr] at _h <;> omega) | (simp only [boolSet, hml, hmr] at _h) | skip))
      | (refine And.intro (by omega) ?_)
      | (refine BB.mk (fun _h => ?_) (fun _h => ?_) <;> (first | (exact absurd _h (by decide)) | (exfalso; simp only [boolSet] at _h <;> omega) | skip)))
    all_goals (try conv => whnf)
    all_goals first
      | exact ⟨_, _, FrzV.refl _ _, rfl, rfl, fun _ => rfl, bool_eq (by unfold rightF; cases e1 : decide (l.length = r.length) <;> cases e2 : decide (r.length = 0) <;> cases e3 : decide (l.length ≠ 0) <;> simp only [decide_eq_true_eq, decide_eq_false_iff_not] at e1 e2 e3 <;> first | rfl | (exfalso; omega))⟩
      | (exfalso; omega)
set_option maxRecDepth 100000 in
set_option maxHeartbeats 4000000 in
theorem rsch13 (l : List Sp) (ca : Nat) (hl : l.length ≤ 9223372036854775807) : FnOK Try.prog GG 29 [] [.z 2 (l.map spC) ca] (fun r _ ext => (r = .v (.bool (schB l))) ∧ ext = []) := by
  have hml : (l.map spC).length = l.length := List.length_map _
  refine FnOK.pure GG_no rfl (fn_intro (C := seat) seat_ok [(4, (.of [(0, .take), (1, .take), (2, .take), (3, .take), (4, .take), (5, .take), (6, .take), (7, .take), (8, .take), (9, .take), (10, .take)]))] GG_no (Try.func29) rfl rfl rfl rfl rfl ?_)
  repeat' ((try conv => whnf); first
    | (with_reducible refine OKv.go (C := seat) seat_ok ?_)
    | (with_reducible refine BB_true ?_)
    | (with_reducible refine BB_false ?_)
    | (with_reducible refine Both.mk ?_ ?_)
    | (with_reducible refine VS.mk ?_)
    | (refine PSem.go (C := seat) seat_ok ?_)
    | (refine And.intro (PlanOK.mk (by kernel_rfl) rfl (by kernel_rfl) (by kernel_rfl)) ?_)
    | (refine And.intro rfl (Exists.intro _ (And.intro (by first | assumption | rfl) ?_)))
    | (refine And.intro ⟨rfl, rfl, rfl⟩ ?_)
    | (refine And.intro (by omega) ?_)
    | (refine BB.mk (fun _h => ?_) (fun _h => ?_) <;> (first | (exact absurd _h (by decide)) | (exfalso; simp only [boolSet] at _h <;> omega) | skip)))
  all_goals (try conv => whnf)
  refine loop_rule (α := Nat) (fun k => k ≤ l.length ∧ ∀ j, j < k → (atD l j).f ≤ (atD l j).t) (fun k => { slots := [(0, .z 2 (l.map spC) ca), (3, .v (.int .i64 (k : Int)))], nt := 29, mem := ⟨GG, [], []⟩ }) (fun k => l.length - k) 0 ⟨Nat.zero_le _, fun j hj => by omega⟩ ⟨⟨[], List.nodup_nil, GG_no, rfl, (SubOld.refl _ rfl), trivial, ⟨.inl rfl, .inl rfl, trivial⟩⟩, rfl⟩ ?_ (fun _ => rfl)
  rintro k ⟨hk, hinv⟩
  refine vc_sound (C := seat) seat_ok (pl := [(4, (.of [(0, .take), (1, .take), (2, .take), (3, .take), (4, .take), (5, .take), (6, .take), (7, .take), (8, .take), (9, .take), (10, .take)]))]) ?_
  by_cases hlt : k < l.length
  · have hrow := atC (l := l) (k := k) hlt
    repeat' ((try conv => whnf); first
      | (with_reducible refine OKv.go (C := seat) seat_ok ?_)
      | (with_reducible refine BB_true ?_)
      | (with_reducible refine BB_false ?_)
      | (with_reducible refine Both.mk ?_ ?_)
      | (with_reducible refine VS.mk ?_)
      | (refine PSem.go (C := seat) seat_ok ?_)
      | (refine And.intro (PlanOK.mk (by kernel_rfl) rfl (by kernel_rfl) (by kernel_rfl)) ?_)
      | (refine And.intro rfl (Exists.intro _ (And.intro (by first | assumption | rfl) ?_)))
      | (refine And.intro ⟨rfl, rfl, rfl⟩ ?_)
      | (refine And.intro ⟨by omega, by simp only [List.length_map]; omega⟩ (Exists.intro _ (And.intro (by first | assumption | rfl) ?_)))
      | (refine BB.mk (fun _h => ?_) (fun _h => ?_) <;> (first | (exact absurd _h (by decide)) | (exfalso; simp only [boolSet, hml] at _h <;> omega) | (simp only [boolSet, hml] at _h) | skip))
      | (refine And.intro (by omega) ?_)
      | (refine BB.mk (fun _h => ?_) (fun _h => ?_) <;> (first | (exact absurd _h (by decide)) | (exfalso; simp only [boolSet] at _h <;> omega) | skip)))
    all_goals (try conv => whnf)
    all_goals first
      | exact ⟨k + 1, ⟨by omega, inv_succ hinv (by omega)⟩, by omega, ⟨⟨[], by decide, GG_no, rfl, SubOld.refl _ rfl, trivial, ⟨.inl rfl, .inl (num_eq (by rw [IntKind.wrap_i64]; omega)), trivial⟩⟩, rfl⟩⟩
      | exact ⟨_, _, FrzV.refl _ _, rfl, rfl, fun _ => rfl, bool_eq (schB_no hlt (by omega)).symm⟩
  · obtain rfl : k = l.length := by omega
    repeat' ((try conv => whnf); first
      | (with_reducible refine OKv.go (C := seat) seat_ok ?_)
      | (with_reducible refine BB_true ?_)
      | (with_reducible refine BB_false ?_)
      | (with_reducible refine Both.mk ?_ ?_)
      | (with_reducible refine VS.mk ?_)
      | (refine PSem.go (C := seat) seat_ok ?_)
      | (refine And.intro (PlanOK.mk (by kernel_rfl) rfl (by kernel_rfl) (by kernel_rfl)) ?_)
      | (refine And.intro rfl (Exists.intro _ (And.intro (by first | assumption | rfl) ?_)))
      | (refine And.intro ⟨rfl, rfl, rfl⟩ ?_)
      | (refine BB.mk (fun _h => ?_) (fun _h => ?_) <;> (first | (exact absurd _h (by decide)) | (exfalso; simp only [boolSet, hml] at _h <;> omega) | (simp only [boolSet, hml] at _h) | skip))
      | (refine And.intro (by omega) ?_)
      | (refine BB.mk (fun _h => ?_) (fun _h => ?_) <;> (first | (exact absurd _h (by decide)) | (exfalso; simp only [boolSet] at _h <;> omega) | skip)))
    all_goals (try conv => whnf)
    all_goals exact ⟨_, _, FrzV.refl _ _, rfl, rfl, fun _ => rfl, bool_eq (by rw [schB_yes hinv, hml] at *; apply bool_iff; simp only [Bool.and_eq_true, decide_eq_true_eq, Bool.false_eq_true, false_iff, true_iff]; omega)⟩
end Go.Proofs.Ytocappiebmmpgaa
