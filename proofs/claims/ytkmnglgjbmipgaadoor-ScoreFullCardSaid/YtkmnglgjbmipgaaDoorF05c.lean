/- Package filter: what says yes or no. -/
import Derived.Test.YtkmnglgjbmipgaaDoorF05b
namespace Go.Proofs.YtkmnglgjbmipgaaDoor
open Go.RowKit

theorem cellsZ_agg {l m : List SV} (h : CellsZ l) (k : CellsZ m) : CellsZ (.agg l :: m) := fun ρ ρ' us hz hr => by
  unfold RelL at hr
  obtain ⟨u, t, rfl, hu, ht⟩ := hr
  unfold RelL
  refine ⟨u, t, rfl, ?_, k ρ ρ' t hz ht⟩
  unfold Rel at *
  obtain ⟨us, rfl, hus⟩ := hu
  exact ⟨us, rfl, h ρ ρ' us hz hus⟩
def allP {α β : Type} [Inhabited α] [Inhabited β] (p : α → β → Bool) (l : List α) (r : List β) : Bool := (List.range (min l.length r.length)).all fun k => p (atD l k) (atD r k)
theorem allP_no {α β : Type} [Inhabited α] [Inhabited β] {p : α → β → Bool} {l : List α} {r : List β} {k : Nat} (hk : k < min l.length r.length) (h : p (atD l k) (atD r k) = false) : allP p l r = false := by
  unfold allP
  rw [List.all_eq_false]
  exact ⟨k, List.mem_range.2 hk, by rw [h]; decide⟩
theorem allP_yes {α β : Type} [Inhabited α] [Inhabited β] {p : α → β → Bool} {l : List α} {r : List β} (h : ∀ k, k < min l.length r.length → p (atD l k) (atD r k) = true) : allP p l r = true := by
  unfold allP
  rw [List.all_eq_true]
  exact fun k hk => h k (List.mem_range.1 hk)
theorem allP_iff {α β : Type} [Inhabited α] [Inhabited β] {p : α → β → Bool} {l : List α} {r : List β} : allP p l r = true ↔ ∀ k, k < min l.length r.length → p (atD l k) (atD r k) = true := by
  constructor
  · intro h
    unfold allP at h
    rw [List.all_eq_true] at h
    exact fun k hk => h k (List.mem_range.2 hk)
  · exact allP_yes
theorem ext_inv {p : Nat → Bool} {k : Nat} (h : ∀ j, j < k → p j = true) (hk : p k = true) : ∀ j, j < k + 1 → p j = true := fun j hj => by
  rcases Nat.lt_succ_iff_lt_or_eq.1 hj with h' | rfl
  · exact h j h'
  · exact hk
def hasP (x : Sp) (y : Int) : Bool := hasT x.a x.b y
def covP (x y : Sp) : Bool := covT x.a x.b y.a y.b
def rigP (x y : Sp) : Bool := decide (y.a ≤ y.b) && covT x.a x.b y.a y.b
def matchB (l : List Sp) (v : List Int) : Bool := decide (l.length ≠ 0) && (decide (l.length = v.length) && allP hasP l v)
def coversB (a b : List Sp) : Bool := decide (b.length = 0) || (decide (a.length = b.length) && allP covP a b)
def rightB (s g : List Sp) : Bool := decide (g.length = 0) || (decide (s.length = g.length) && allP rigP s g)
set_option maxRecDepth 100000 in
set_option maxHeartbeats 4000000 in
theorem match_z (l : List Sp) (r : List Int) (ca cb : Nat) (hl : l.length ≤ 1099511627776) (hr : r.length ≤ 1099511627776) : FnOK Tryd.prog GG 19 [] [.z 2 (l.map spC) ca, .z 1 (r.map nuC) cb] (fun rr _ ext => (rr = .v (.bool (matchB l r))) ∧ ext = []) := by
  have hml : (l.map spC).length = l.length := List.length_map _
  have hmr : (r.map nuC).length = r.length := List.length_map _
  by_cases hq : l.length ≠ 0 ∧ l.length = r.length
  · refine FnOK.pure GG_no rfl (fn_intro (C := seat) seat_ok [] GG_no (Tryd.func19) rfl rfl rfl rfl rfl ?_)
    repeat' ((try conv => whnf); first
      | (with_reducible refine OKv.go (C := seat) seat_ok ?_)
      | (with_reducible refine BB_true ?_)
      | (with_reducible refine BB_false ?_)
      | (with_reducible refine Both.mk ?_ ?_)
      | (with_reducible refine VS.mk ?_)
      | (refine PSem.go (C := seat) seat_ok ?_)
      | (refine And.intro (PlanOK.mk (by kernel_rfl) rfl (by kernel_rfl) (by kernel_rfl)) ?_)
      | (refine And.intro rfl (Exists.intro _ (And.intro (by first | assumption | rfl) ?_)))
      | (refine And.intro ⟨rfl, rfl, rfl⟩ ?_)
      | (refine call_ro [] (pairs_SN l r ca cb) GG_no rfl rfl rfl trivial ?_; rintro r bs' ext ⟨rfl, rfl⟩)
      | (refine BB.mk (fun _h => ?_) (fun _h => ?_) <;> (first | (exact absurd _h (by decide)) | (exfalso; simp only [boolSet, hml, hmr] at _h <;> omega) | (simp only [boolSet, hml, hmr] at _h) | skip))
      | (refine And.intro (by omega) ?_)
      | (refine BB.mk (fun _h => ?_) (fun _h => ?_) <;> (first | (exact absurd _h (by decide)) | (exfalso; simp only [boolSet] at _h <;> omega) | skip)))
    all_goals (try conv => whnf)
    refine range_rule (C := seat) (pl := []) ((iter_SN l r _ _ (by omega)).lend [.n 1, .n 2] (fun _ _ => cellsZ_agg (cellsZ_v (cellsZ_v cellsZ_nil)) (cellsZ_v cellsZ_nil))) (α := Unit) (fun k _ => ∀ j, j < k → hasP (atD l j) (atD r j) = true) (fun _ => { slots := [(4, .p (.n 0) 0 0 0), (19, .fn 40 [.p (.n 1) 0 0 0, .p (.n 2) 0 0 0])], nt := 26, mem := ⟨GG, [], [.box 4 [.v (.bool false)], .cst 22 [.z 2 (l.map spC) ca], .cst 39 [.z 1 (r.map nuC) cb]]⟩ }) () (fun j hj => by omega) (Ref.pass ⟨⟨[0, 1, 2], by decide, GG_no, rfl, SubOld.refl _ rfl, ⟨rfl, .inr rfl, .inr rfl, trivial⟩, ⟨.inl rfl, .inl rfl, trivial⟩⟩, rfl⟩) (fun _ => rfl) (fun _ _ _ => ⟨⟨rfl, _, _, rfl, cellsZ_z cellsZ_nil⟩, ⟨rfl, _, _, rfl, cellsZ_z cellsZ_nil⟩, trivial⟩) (fun _ => rfl) (fun _ => rfl) rfl ?_ ?_
    · intro k _ hk hinv
      conv => whnf
      refine vc_sound (C := seat) seat_ok (pl := []) ?_
      repeat' ((try conv => whnf); first
        | (with_reducible refine OKv.go (C := seat) seat_ok ?_)
        | (with_reducible refine BB_true ?_)
        | (with_reducible refine BB_false ?_)
        | (with_reducible refine Both.mk ?_ ?_)
        | (with_reducible refine VS.mk ?_)
        | (refine PSem.go (C := seat) seat_ok ?_)
        | (refine And.intro (PlanOK.mk (by kernel_rfl) rfl (by kernel_rfl) (by kernel_rfl)) ?_)
        | (refine And.intro rfl (Exists.intro _ (And.intro (by first | assumption | rfl) ?_)))
        | (refine And.intro ⟨rfl, rfl, rfl⟩ ?_)
        | (refine call_ro [] (has_z _ _ _) GG_no rfl rfl rfl trivial ?_; rintro r bs' ext ⟨rfl, rfl⟩)
        | (refine BB.mk (fun _h => ?_) (fun _h => ?_) <;> (first | (exact absurd _h (by decide)) | (exfalso; simp only [boolSet] at _h <;> omega) | (simp only [boolSet] at _h) | skip))
        | (refine And.intro (by omega) ?_)
        | (refine BB.mk (fun _h => ?_) (fun _h => ?_) <;> (first | (exact absurd _h (by decide)) | (exfalso; simp only [boolSet] at _h <;> omega) | skip)))
      all_goals (try conv => whnf)
      all_goals first
        | exact ⟨(), ext_inv (p := fun j => hasP (atD l j) (atD r j)) hinv (by unfold hasP; assumption), Ref.pass ⟨⟨[0, 1, 2], by decide, GG_no, rfl, SubOld.refl _ rfl, ⟨rfl, .inl rfl, .inl rfl, trivial⟩, ⟨.inl rfl, .inl rfl, trivial⟩⟩, rfl⟩⟩
        | (have hno : hasP (atD l k) (atD r k) = false := by unfold hasP; assumption
           exact ⟨_, _, FrzV.refl _ _, rfl, rfl, fun _ => rfl, bool_eq (by unfold matchB; rw [allP_no hk hno]; simp only [Bool.and_false, Bool.or_false] <;> exact (decide_eq_false (by omega)).symm)⟩)
    · intro _ hinv
      repeat' ((try conv => whnf); first
        | (with_reducible refine OKv.go (C := seat) seat_ok ?_)
        | (with_reducible refine BB_true ?_)
        | (with_reducible refine BB_false ?_)
        | (with_reducible refine Both.mk ?_ ?_)
        | (with_reducible refine VS.mk ?_)
        | (refine PSem.go (C := seat) seat_ok ?_)
        | (refine And.intro (PlanOK.mk (by kernel_rfl) rfl (by kernel_rfl) (by kernel_rfl)) ?_)
        | (refine And.intro rfl (Exists.intro _ (And.intro (by first | assumption | rfl) ?_)))
        | (refine And.intro ⟨rfl, rfl, rfl⟩ ?_)
        | (refine And.intro (by omega) ?_)
        | (refine BB.mk (fun _h => ?_) (fun _h => ?_) <;> (first | (exact absurd _h (by decide)) | (exfalso; simp only [boolSet] at _h <;> omega) | skip)))
      all_goals (try conv => whnf)
      exact ⟨_, _, FrzV.refl _ _, rfl, rfl, fun _ => rfl, bool_eq (by unfold matchB; rw [allP_yes hinv]; cases e1 : decide (l.length = r.length) <;> cases e2 : decide (r.length = 0) <;> cases e3 : decide (l.length ≠ 0) <;> simp only [decide_eq_true_eq, decide_eq_false_iff_not] at e1 e2 e3 <;> first | rfl | (exfalso; omega))⟩
  · refine FnOK.pure GG_no rfl (fn_intro (C := seat) seat_ok [] GG_no (Tryd.func19) rfl rfl rfl rfl rfl ?_)
    repeat' ((try conv => whnf); first
      | (with_reducible refine OKv.go (C := seat) seat_ok ?_)
      | (with_reducible refine BB_true ?_)
      | (with_reducible refine BB_false ?_)
      | (with_reducible refine Both.mk ?_ ?_)
      | (with_reducible refine VS.mk ?_)
      | (refine PSem.go (C := seat) seat_ok ?_)
      | (refine And.intro (PlanOK.mk (by kernel_rfl) rfl (by kernel_rfl) (by kernel_rfl)) ?_)
      | (refine And.intro rfl (Exists.intro _ (And.intro (by first | assumption | rfl) ?_)))
      | (refine And.intro ⟨rfl, rfl, rfl⟩ ?_)
      | (refine BB.mk (fun _h => ?_) (fun _h => ?_) <;> (first | (exact absurd _h (by decide)) | (exfalso; simp only [boolSet, hml, hmr] at _h <;> omega) | (simp only [boolSet, hml, hmr] at _h) | skip))
      | (refine And.intro (by omega) ?_)
      | (refine BB.mk (fun _h => ?_) (fun _h => ?_) <;> (first | (exact absurd _h (by decide)) | (exfalso; simp only [boolSet] at _h <;> omega) | skip)))
    all_goals (try conv => whnf)
    all_goals first
      | exact ⟨_, _, FrzV.refl _ _, rfl, rfl, fun _ => rfl, bool_eq (by unfold matchB; cases e1 : decide (l.length = r.length) <;> cases e2 : decide (r.length = 0) <;> cases e3 : decide (l.length ≠ 0) <;> simp only [decide_eq_true_eq, decide_eq_false_iff_not] at e1 e2 e3 <;> first | rfl | (exfalso; omega))⟩
      | (exfalso; omega)
set_option maxRecDepth 100000 in
set_option maxHeartbeats 4000000 in
theorem covers_z (l : List Sp) (r : List Sp) (ca cb : Nat) (hl : l.length ≤ 1099511627776) (hr : r.length ≤ 1099511627776) : FnOK Tryd.prog GG 17 [] [.z 2 (l.map spC) ca, .z 2 (r.map spC) cb] (fun rr _ ext => (rr = .v (.bool (coversB l r))) ∧ ext = []) := by
  have hml : (l.map spC).length = l.length := List.length_map _
  have hmr : (r.map spC).length = r.length := List.length_map _
  by_cases hq : r.length ≠ 0 ∧ l.length = r.length
  · refine FnOK.pure GG_no rfl (fn_intro (C := seat) seat_ok [] GG_no (Tryd.func17) rfl rfl rfl rfl rfl ?_)
    repeat' ((try conv => whnf); first
      | (with_reducible refine OKv.go (C := seat) seat_ok ?_)
      | (with_reducible refine BB_true ?_)
      | (with_reducible refine BB_false ?_)
      | (with_reducible refine Both.mk ?_ ?_)
      | (with_reducible refine VS.mk ?_)
      | (refine PSem.go (C := seat) seat_ok ?_)
      | (refine And.intro (PlanOK.mk (by kernel_rfl) rfl (by kernel_rfl) (by kernel_rfl)) ?_)
      | (refine And.intro rfl (Exists.intro _ (And.intro (by first | assumption | rfl) ?_)))
      | (refine And.intro ⟨rfl, rfl, rfl⟩ ?_)
      | (refine call_ro [] (pairs_SS l r ca cb) GG_no rfl rfl rfl trivial ?_; rintro r bs' ext ⟨rfl, rfl⟩)
      | (refine BB.mk (fun _h => ?_) (fun _h => ?_) <;> (first | (exact absurd _h (by decide)) | (exfalso; simp only [boolSet, hml, hmr] at _h <;> omega) | (simp only [boolSet, hml, hmr] at _h) | skip))
      | (refine And.intro (by omega) ?_)
      | (refine BB.mk (fun _h => ?_) (fun _h => ?_) <;> (first | (exact absurd _h (by decide)) | (exfalso; simp only [boolSet] at _h <;> omega) | skip)))
    all_goals (try conv => whnf)
    refine range_rule (C := seat) (pl := []) ((iter_SS l r _ _ (by omega)).lend [.n 1, .n 2] (fun _ _ => cellsZ_agg (cellsZ_v (cellsZ_v cellsZ_nil)) (cellsZ_agg (cellsZ_v (cellsZ_v cellsZ_nil)) cellsZ_nil))) (α := Unit) (fun k _ => ∀ j, j < k → covP (atD l j) (atD r j) = true) (fun _ => { slots := [(4, .p (.n 0) 0 0 0), (17, .fn 39 [.p (.n 1) 0 0 0, .p (.n 2) 0 0 0])], nt := 24, mem := ⟨GG, [], [.box 4 [.v (.bool false)], .cst 22 [.z 2 (l.map spC) ca], .cst 22 [.z 2 (r.map spC) cb]]⟩ }) () (fun j hj => by omega) (Ref.pass ⟨⟨[0, 1, 2], by decide, GG_no, rfl, SubOld.refl _ rfl, ⟨rfl, .inr rfl, .inr rfl, trivial⟩, ⟨.inl rfl, .inl rfl, trivial⟩⟩, rfl⟩) (fun _ => rfl) (fun _ _ _ => ⟨⟨rfl, _, _, rfl, cellsZ_z cellsZ_nil⟩, ⟨rfl, _, _, rfl, cellsZ_z cellsZ_nil⟩, trivial⟩) (fun _ => rfl) (fun _ => rfl) rfl ?_ ?_
    · intro k _ hk hinv
      conv => whnf
      refine vc_sound (C := seat) seat_ok (pl := []) ?_
      repeat' ((try conv => whnf); first
        | (with_reducible refine OKv.go (C := seat) seat_ok ?_)
        | (with_reducible refine BB_true ?_)
        | (with_reducible refine BB_false ?_)
        | (with_reducible refine Both.mk ?_ ?_)
        | (with_reducible refine VS.mk ?_)
        | (refine PSem.go (C := seat) seat_ok ?_)
        | (refine And.intro (PlanOK.mk (by kernel_rfl) rfl (by kernel_rfl) (by kernel_rfl)) ?_)
        | (refine And.intro rfl (Exists.intro _ (And.intro (by first | assumption | rfl) ?_)))
        | (refine And.intro ⟨rfl, rfl, rfl⟩ ?_)
        | (refine call_ro [] (cov_z _ _ _ _) GG_no rfl rfl rfl trivial ?_; rintro r bs' ext ⟨rfl, rfl⟩)
        | (refine BB.mk (fun _h => ?_) (fun _h => ?_) <;> (first | (exact absurd _h (by decide)) | (exfalso; simp only [boolSet] at _h <;> omega) | (simp only [boolSet] at _h) | skip))
        | (refine And.intro (by omega) ?_)
        | (refine BB.mk (fun _h => ?_) (fun _h => ?_) <;> (first | (exact absurd _h (by decide)) | (exfalso; simp only [boolSet] at _h <;> omega) | skip)))
      all_goals (try conv => whnf)
      all_goals first
        | exact ⟨(), ext_inv (p := fun j => covP (atD l j) (atD r j)) hinv (by unfold covP; assumption), Ref.pass ⟨⟨[0, 1, 2], by decide, GG_no, rfl, SubOld.refl _ rfl, ⟨rfl, .inl rfl, .inl rfl, trivial⟩, ⟨.inl rfl, .inl rfl, trivial⟩⟩, rfl⟩⟩
        | (have hno : covP (atD l k) (atD r k) = false := by unfold covP; assumption
           exact ⟨_, _, FrzV.refl _ _, rfl, rfl, fun _ => rfl, bool_eq (by unfold coversB; rw [allP_no hk hno]; simp only [Bool.and_false, Bool.or_false] <;> exact (decide_eq_false (by omega)).symm)⟩)
    · intro _ hinv
      repeat' ((try conv => whnf); first
        | (with_reducible refine OKv.go (C := seat) seat_ok ?_)
        | (with_reducible refine BB_true ?_)
        | (with_reducible refine BB_false ?_)
        | (with_reducible refine Both.mk ?_ ?_)
        | (with_reducible refine VS.mk ?_)
        | (refine PSem.go (C := seat) seat_ok ?_)
        | (refine And.intro (PlanOK.mk (by kernel_rfl) rfl (by kernel_rfl) (by kernel_rfl)) ?_)
        | (refine And.intro rfl (Exists.intro _ (And.intro (by first | assumption | rfl) ?_)))
        | (refine And.intro ⟨rfl, rfl, rfl⟩ ?_)
        | (refine And.intro (by omega) ?_)
        | (refine BB.mk (fun _h => ?_) (fun _h => ?_) <;> (first | (exact absurd _h (by decide)) | (exfalso; simp only [boolSet] at _h <;> omega) | skip)))
      all_goals (try conv => whnf)
      exact ⟨_, _, FrzV.refl _ _, rfl, rfl, fun _ => rfl, bool_eq (by unfold coversB; rw [allP_yes hinv]; cases e1 : decide (l.length = r.length) <;> cases e2 : decide (r.length = 0) <;> cases e3 : decide (l.length ≠ 0) <;> simp only [decide_eq_true_eq, decide_eq_false_iff_not] at e1 e2 e3 <;> first | rfl | (exfalso; omega))⟩
  · refine FnOK.pure GG_no rfl (fn_intro (C := seat) seat_ok [] GG_no (Tryd.func17) rfl rfl rfl rfl rfl ?_)
    repeat' ((try conv => whnf); first
      | (with_reducible refine OKv.go (C := seat) seat_ok ?_)
      | (with_reducible refine BB_true ?_)
      | (with_reducible refine BB_false ?_)
      | (with_reducible refine Both.mk ?_ ?_)
      | (with_reducible refine VS.mk ?_)
      | (refine PSem.go (C := seat) seat_ok ?_)
      | (refine And.intro (PlanOK.mk (by kernel_rfl) rfl (by kernel_rfl) (by kernel_rfl)) ?_)
      | (refine And.intro rfl (Exists.intro _ (And.intro (by first | assumption | rfl) ?_)))
      | (refine And.intro ⟨rfl, rfl, rfl⟩ ?_)
      | (refine BB.mk (fun _h => ?_) (fun _h => ?_) <;> (first | (exact absurd _h (by decide)) | (exfalso; simp only [boolSet, hml, hmr] at _h <;> omega) | (simp only [boolSet, hml, hmr] at _h) | skip))
      | (refine And.intro (by omega) ?_)
      | (refine BB.mk (fun _h => ?_) (fun _h => ?_) <;> (first | (exact absurd _h (by decide)) | (exfalso; simp only [boolSet] at _h <;> omega) | skip)))
    all_goals (try conv => whnf)
    all_goals first
      | exact ⟨_, _, FrzV.refl _ _, rfl, rfl, fun _ => rfl, bool_eq (by unfold coversB; cases e1 : decide (l.length = r.length) <;> cases e2 : decide (r.length = 0) <;> cases e3 : decide (l.length ≠ 0) <;> simp only [decide_eq_true_eq, decide_eq_false_iff_not] at e1 e2 e3 <;> first | rfl | (exfalso; omega))⟩
      | (exfalso; omega)
end Go.Proofs.YtkmnglgjbmipgaaDoor
