/- The document's own answer for the hull of two spans. -/
import Derived.Test.YtelbeomfdfggbaaDoorSpanH
namespace Go.Proofs.YtelbeomfdfggbaaDoor
open Go.RowKit

set_option maxHeartbeats 4000000 in
theorem ref_Hull (a b c d : Int) (w : World) : Calls Tryd.prog 17 #[spV a b, spV c d] w (Ret (hullV a b c d) w) := by
  obtain ⟨W, hW⟩ : ∃ W, W = (((w.alloc (.cells #[.int .i32 a, .int .i32 b] 23)).alloc (.cells #[.int .i32 c, .int .i32 d] 23)).alloc (.cells #[.int .i32 0, .int .i32 0] 23)) := ⟨_, rfl⟩
  have b0 : Below w.heap.size w W := by rw [hW]; (repeat' (first | (with_reducible exact Below.refl _ _) | (with_reducible assumption) | (with_reducible refine Below.alloc ?_ ?_ _) | (with_reducible refine Below.drew ?_) | (with_reducible refine belN ?_ _) | (with_reducible refine Below.setCell ?_ ?_ _) | (with_reducible exact Nat.le_refl _) | (refine Below.size (B := ?_) ?_; rotate_left; assumption) | omega | (simp only [World.size_alloc, World.size_setCell, World.size_drew]; omega) | (simp; omega)))
  have zW : W.heap.size = w.heap.size + 3 := by rw [hW]; simp
  have j0_0 : W.cell? ⟨w.heap.size, 0, none⟩ = some (.int .i32 a) := by rw [hW]; go_simp
  have j0_1 : W.cell? ⟨w.heap.size, 1, none⟩ = some (.int .i32 b) := by rw [hW]; go_simp
  have j1_0 : W.cell? ⟨w.heap.size + 1, 0, none⟩ = some (.int .i32 c) := by rw [hW]; go_simp
  have j1_1 : W.cell? ⟨w.heap.size + 1, 1, none⟩ = some (.int .i32 d) := by rw [hW]; go_simp
  have j2_0 : W.cell? ⟨w.heap.size + 1 + 1, 0, none⟩ = some (.int .i32 0) := by rw [hW]; go_simp
  have j2_1 : W.cell? ⟨w.heap.size + 1 + 1, 1, none⟩ = some (.int .i32 0) := by rw [hW]; go_simp
  have f0 : ∀ o, W.frozen? ⟨w.heap.size, o, none⟩ = false := fun o => by rw [hW]; go_simp
  have f1 : ∀ o, W.frozen? ⟨w.heap.size + 1, o, none⟩ = false := fun o => by rw [hW]; go_simp
  have f2 : ∀ o, W.frozen? ⟨w.heap.size + 1 + 1, o, none⟩ = false := fun o => by rw [hW]; go_simp
  have HG := Lib.hid (fun (w1 : World) (hb1 : Below W.heap.size W w1) => (⟨(hb1.cell (p := ⟨w.heap.size, 0, none⟩) (by simp only []; omega)).trans j0_0, (hb1.cell (p := ⟨w.heap.size, 1, none⟩) (by simp only []; omega)).trans j0_1, (hb1.cell (p := ⟨w.heap.size + 1, 0, none⟩) (by simp only []; omega)).trans j1_0, (hb1.cell (p := ⟨w.heap.size + 1, 1, none⟩) (by simp only []; omega)).trans j1_1, (hb1.cell (p := ⟨w.heap.size + 1 + 1, 0, none⟩) (by simp only []; omega)).trans j2_0, (hb1.cell (p := ⟨w.heap.size + 1 + 1, 1, none⟩) (by simp only []; omega)).trans j2_1, (hb1.frozen (p := ⟨w.heap.size, 0, none⟩) (by simp only []; omega)).trans (f0 0), (hb1.frozen (p := ⟨w.heap.size, 1, none⟩) (by simp only []; omega)).trans (f0 1), (hb1.frozen (p := ⟨w.heap.size + 1, 0, none⟩) (by simp only []; omega)).trans (f1 0), (hb1.frozen (p := ⟨w.heap.size + 1, 1, none⟩) (by simp only []; omega)).trans (f1 1), (hb1.frozen (p := ⟨w.heap.size + 1 + 1, 0, none⟩) (by simp only []; omega)).trans (f2 0), (hb1.frozen (p := ⟨w.heap.size + 1 + 1, 1, none⟩) (by simp only []; omega)).trans (f2 1), by have := hb1.size; omega, by have := hb1.size; omega, by have := hb1.size; omega⟩ :
    w1.cell? ⟨w.heap.size, 0, none⟩ = some (.int .i32 a) ∧ w1.cell? ⟨w.heap.size, 1, none⟩ = some (.int .i32 b) ∧ w1.cell? ⟨w.heap.size + 1, 0, none⟩ = some (.int .i32 c) ∧ w1.cell? ⟨w.heap.size + 1, 1, none⟩ = some (.int .i32 d) ∧ w1.cell? ⟨w.heap.size + 1 + 1, 0, none⟩ = some (.int .i32 0) ∧ w1.cell? ⟨w.heap.size + 1 + 1, 1, none⟩ = some (.int .i32 0) ∧ w1.frozen? ⟨w.heap.size, 0, none⟩ = false ∧ w1.frozen? ⟨w.heap.size, 1, none⟩ = false ∧ w1.frozen? ⟨w.heap.size + 1, 0, none⟩ = false ∧ w1.frozen? ⟨w.heap.size + 1, 1, none⟩ = false ∧ w1.frozen? ⟨w.heap.size + 1 + 1, 0, none⟩ = false ∧ w1.frozen? ⟨w.heap.size + 1 + 1, 1, none⟩ = false ∧ w.heap.size < w1.heap.size ∧ w.heap.size + 1 < w1.heap.size ∧ w.heap.size + 1 + 1 < w1.heap.size))
  clear j0_0 j0_1 j1_0 j1_1 j2_0 j2_1 f0 f1 f2
  have HS := Lib.hid (fun (w1 : World) (hb1 : Below W.heap.size W w1) => (by obtain ⟨c0_0, c0_1, c1_0, c1_1, c2_0, c2_1, f0_0, f0_1, f1_0, f1_1, f2_0, f2_1, s0, s1, s2⟩ := HG.out _ hb1; exact ⟨c0_0, c0_1, c1_0, c1_1, c2_0, c2_1⟩ :
    w1.cell? ⟨w.heap.size, 0, none⟩ = some (.int .i32 a) ∧ w1.cell? ⟨w.heap.size, 1, none⟩ = some (.int .i32 b) ∧ w1.cell? ⟨w.heap.size + 1, 0, none⟩ = some (.int .i32 c) ∧ w1.cell? ⟨w.heap.size + 1, 1, none⟩ = some (.int .i32 d) ∧ w1.cell? ⟨w.heap.size + 1 + 1, 0, none⟩ = some (.int .i32 0) ∧ w1.cell? ⟨w.heap.size + 1 + 1, 1, none⟩ = some (.int .i32 0)))
  have hB : Below W.heap.size W W.drew := (Below.refl _ _).drew
  have HW := Lib.hid hW
  clear hW
  by_cases h1 : b < a <;> by_cases h2 : d < c
  · have e1 : decide (a ≤ b) = false := by simpa using h1
    have e2 : decide (c ≤ d) = false := by simpa using h2
    rw [show hullV a b c d = spV 0 0 by simp [hullV, *]]
    go_enter Tryd.func17, Tryd.ntmps17
    go_wp2
    rw [← HW.out]
    refine region_plan (fun w' => w'.cell? ⟨w.heap.size, 0, none⟩ = some (.int .i32 a) ∧ w'.cell? ⟨w.heap.size, 1, none⟩ = some (.int .i32 b) ∧ w'.cell? ⟨w.heap.size + 1, 0, none⟩ = some (.int .i32 c) ∧ w'.cell? ⟨w.heap.size + 1, 1, none⟩ = some (.int .i32 d) ∧ w'.cell? ⟨w.heap.size + 1 + 1, 0, none⟩ = some (.int .i32 0) ∧ w'.cell? ⟨w.heap.size + 1 + 1, 1, none⟩ = some (.int .i32 0)) [(0, .take), (1, .take), (2, .take), (3, .take), (4, .take), (5, .take), (6, .take), (7, .take), (8, .take), (9, .take), (10, .take), (11, .take)] (by kernel_rfl) rfl (by kernel_rfl) (by kernel_rfl) (fun _ _ _ d _ h => by cases d <;> exact h) (HS.out _ hB) ?_
    simp only [zipOps, List.getElem?_toArray, List.getElem?_cons_zero, List.getElem?_cons_succ]
    repeat (first
      | (refine walk_skip (by rfl) ?_; try simp only [Act.put, List.setIfInBounds_toArray, List.set_cons_zero, List.set_cons_succ])
      | (refine walk_pass (by rfl) (HS.out _ hB) ?_; try simp only [Act.put, List.setIfInBounds_toArray, List.set_cons_zero, List.set_cons_succ])
      | (refine walk_take (v := ?_) (by rfl) (fun w hS => ?_) ?_
         rotate_left
         · obtain ⟨c0_0, c0_1, c1_0, c1_1, c2_0, c2_1⟩ := hS
           go_simp
           try with_reducible rfl
         try simp only [Act.put, List.setIfInBounds_toArray, List.set_cons_zero, List.set_cons_succ]))
    rw [walk_nil]
    obtain ⟨c0_0, c0_1, c1_0, c1_1, c2_0, c2_1, f0_0, f0_1, f1_0, f1_1, f2_0, f2_1, s0, s1, s2⟩ := HG.out W (Below.refl _ _)
    have hb := Lib.hid b0
    clear HG HS HW hB b0
    go_wp2
    all_goals refine bodyPost_ret (results_span rfl rfl (by go_simp; try with_reducible rfl) (by go_simp; try with_reducible rfl)) rfl ?_
    all_goals have hb := hb.out
    all_goals exact ret_of (by first | with_reducible rfl | exact spV_of (by omega) (by omega)) (by (repeat' (first | (with_reducible exact Below.refl _ _) | (with_reducible assumption) | (with_reducible refine Below.alloc ?_ ?_ _) | (with_reducible refine Below.drew ?_) | (with_reducible refine belN ?_ _) | (with_reducible refine Below.setCell ?_ ?_ _) | (with_reducible exact Nat.le_refl _) | (refine Below.size (B := ?_) ?_; rotate_left; assumption) | omega | (simp only [World.size_alloc, World.size_setCell, World.size_drew]; omega) | (simp; omega))))
  · have e1 : decide (a ≤ b) = false := by simpa using h1
    have e2 : c ≤ d := by omega
    rw [show hullV a b c d = spV c d by simp [hullV, *]]
    go_enter Tryd.func17, Tryd.ntmps17
    go_wp2
    rw [← HW.out]
    refine region_plan (fun w' => w'.cell? ⟨w.heap.size, 0, none⟩ = some (.int .i32 a) ∧ w'.cell? ⟨w.heap.size, 1, none⟩ = some (.int .i32 b) ∧ w'.cell? ⟨w.heap.size + 1, 0, none⟩ = some (.int .i32 c) ∧ w'.cell? ⟨w.heap.size + 1, 1, none⟩ = some (.int .i32 d) ∧ w'.cell? ⟨w.heap.size + 1 + 1, 0, none⟩ = some (.int .i32 0) ∧ w'.cell? ⟨w.heap.size + 1 + 1, 1, none⟩ = some (.int .i32 0)) [(0, .take), (1, .take), (2, .take), (3, .take), (4, .take), (5, .take), (6, .take), (7, .take), (8, .take), (9, .take), (10, .take), (11, .take)] (by kernel_rfl) rfl (by kernel_rfl) (by kernel_rfl) (fun _ _ _ d _ h => by cases d <;> exact h) (HS.out _ hB) ?_
    simp only [zipOps, List.getElem?_toArray, List.getElem?_cons_zero, List.getElem?_cons_succ]
    repeat (first
      | (refine walk_skip (by rfl) ?_; try simp only [Act.put, List.setIfInBounds_toArray, List.set_cons_zero, List.set_cons_succ])
      | (refine walk_pass (by rfl) (HS.out _ hB) ?_; try simp only [Act.put, List.setIfInBounds_toArray, List.set_cons_zero, List.set_cons_succ])
      | (refine walk_take (v := ?_) (by rfl) (fun w hS => ?_) ?_
         rotate_left
         · obtain ⟨c0_0, c0_1, c1_0, c1_1, c2_0, c2_1⟩ := hS
           go_simp
           try with_reducible rfl
         try simp only [Act.put, List.setIfInBounds_toArray, List.set_cons_zero, List.set_cons_succ]))
    rw [walk_nil]
    obtain ⟨c0_0, c0_1, c1_0, c1_1, c2_0, c2_1, f0_0, f0_1, f1_0, f1_1, f2_0, f2_1, s0, s1, s2⟩ := HG.out W (Below.refl _ _)
    have hb := Lib.hid b0
    clear HG HS HW hB b0
    go_wp2
    all_goals refine bodyPost_ret (results_span rfl rfl (by go_simp; try with_reducible rfl) (by go_simp; try with_reducible rfl)) rfl ?_
    all_goals have hb := hb.out
    all_goals exact ret_of (by first | with_reducible rfl | exact spV_of (by omega) (by omega)) (by (repeat' (first | (with_reducible exact Below.refl _ _) | (with_reducible assumption) | (with_reducible refine Below.alloc ?_ ?_ _) | (with_reducible refine Below.drew ?_) | (with_reducible refine belN ?_ _) | (with_reducible refine Below.setCell ?_ ?_ _) | (with_reducible exact Nat.le_refl _) | (refine Below.size (B := ?_) ?_; rotate_left; assumption) | omega | (simp only [World.size_alloc, World.size_setCell, World.size_drew]; omega) | (simp; omega))))
  · have e1 : a ≤ b := by omega
    have e2 : decide (c ≤ d) = false := by simpa using h2
    rw [show hullV a b c d = spV a b by simp [hullV, *]]
    go_enter Tryd.func17, Tryd.ntmps17
    go_wp2
    rw [← HW.out]
    refine region_plan (fun w' => w'.cell? ⟨w.heap.size, 0, none⟩ = some (.int .i32 a) ∧ w'.cell? ⟨w.heap.size, 1, none⟩ = some (.int .i32 b) ∧ w'.cell? ⟨w.heap.size + 1, 0, none⟩ = some (.int .i32 c) ∧ w'.cell? ⟨w.heap.size + 1, 1, none⟩ = some (.int .i32 d) ∧ w'.cell? ⟨w.heap.size + 1 + 1, 0, none⟩ = some (.int .i32 0) ∧ w'.cell? ⟨w.heap.size + 1 + 1, 1, none⟩ = some (.int .i32 0)) [(0, .take), (1, .take), (2, .take), (3, .take), (4, .take), (5, .take), (6, .take), (7, .take), (8, .take), (9, .take), (10, .take), (11, .take)] (by kernel_rfl) rfl (by kernel_rfl) (by kernel_rfl) (fun _ _ _ d _ h => by cases d <;> exact h) (HS.out _ hB) ?_
    simp only [zipOps, List.getElem?_toArray, List.getElem?_cons_zero, List.getElem?_cons_succ]
    repeat (first
      | (refine walk_skip (by rfl) ?_; try simp only [Act.put, List.setIfInBounds_toArray, List.set_cons_zero, List.set_cons_succ])
      | (refine walk_pass (by rfl) (HS.out _ hB) ?_; try simp only [Act.put, List.setIfInBounds_toArray, List.set_cons_zero, List.set_cons_succ])
      | (refine walk_take (v := ?_) (by rfl) (fun w hS => ?_) ?_
         rotate_left
         · obtain ⟨c0_0, c0_1, c1_0, c1_1, c2_0, c2_1⟩ := hS
           go_simp
           try with_reducible rfl
         try simp only [Act.put, List.setIfInBounds_toArray, List.set_cons_zero, List.set_cons_succ]))
    rw [walk_nil]
    obtain ⟨c0_0, c0_1, c1_0, c1_1, c2_0, c2_1, f0_0, f0_1, f1_0, f1_1, f2_0, f2_1, s0, s1, s2⟩ := HG.out W (Below.refl _ _)
    have hb := Lib.hid b0
    clear HG HS HW hB b0
    go_wp2
    all_goals refine bodyPost_ret (results_span rfl rfl (by go_simp; try with_reducible rfl) (by go_simp; try with_reducible rfl)) rfl ?_
    all_goals have hb := hb.out
    all_goals exact ret_of (by first | with_reducible rfl | exact spV_of (by omega) (by omega)) (by (repeat' (first | (with_reducible exact Below.refl _ _) | (with_reducible assumption) | (with_reducible refine Below.alloc ?_ ?_ _) | (with_reducible refine Below.drew ?_) | (with_reducible refine belN ?_ _) | (with_reducible refine Below.setCell ?_ ?_ _) | (with_reducible exact Nat.le_refl _) | (refine Below.size (B := ?_) ?_; rotate_left; assumption) | omega | (simp only [World.size_alloc, World.size_setCell, World.size_drew]; omega) | (simp; omega))))
  · have e1 : a ≤ b := by omega
    have e2 : c ≤ d := by omega
    rw [show hullV a b c d = spV (min a c) (max b d) by simp [hullV, *]]
    go_enter Tryd.func17, Tryd.ntmps17
    go_wp2
    rw [← HW.out]
    refine region_plan (fun w' => w'.cell? ⟨w.heap.size, 0, none⟩ = some (.int .i32 a) ∧ w'.cell? ⟨w.heap.size, 1, none⟩ = some (.int .i32 b) ∧ w'.cell? ⟨w.heap.size + 1, 0, none⟩ = some (.int .i32 c) ∧ w'.cell? ⟨w.heap.size + 1, 1, none⟩ = some (.int .i32 d) ∧ w'.cell? ⟨w.heap.size + 1 + 1, 0, none⟩ = some (.int .i32 0) ∧ w'.cell? ⟨w.heap.size + 1 + 1, 1, none⟩ = some (.int .i32 0)) [(0, .take), (1, .take), (2, .take), (3, .take), (4, .take), (5, .take), (6, .take), (7, .take), (8, .take), (9, .take), (10, .take), (11, .take)] (by kernel_rfl) rfl (by kernel_rfl) (by kernel_rfl) (fun _ _ _ d _ h => by cases d <;> exact h) (HS.out _ hB) ?_
    simp only [zipOps, List.getElem?_toArray, List.getElem?_cons_zero, List.getElem?_cons_succ]
    repeat (first
      | (refine walk_skip (by rfl) ?_; try simp only [Act.put, List.setIfInBounds_toArray, List.set_cons_zero, List.set_cons_succ])
      | (refine walk_pass (by rfl) (HS.out _ hB) ?_; try simp only [Act.put, List.setIfInBounds_toArray, List.set_cons_zero, List.set_cons_succ])
      | (refine walk_take (v := ?_) (by rfl) (fun w hS => ?_) ?_
         rotate_left
         · obtain ⟨c0_0, c0_1, c1_0, c1_1, c2_0, c2_1⟩ := hS
           go_simp
           try with_reducible rfl
         try simp only [Act.put, List.setIfInBounds_toArray, List.set_cons_zero, List.set_cons_succ]))
    rw [walk_nil]
    obtain ⟨c0_0, c0_1, c1_0, c1_1, c2_0, c2_1, f0_0, f0_1, f1_0, f1_1, f2_0, f2_1, s0, s1, s2⟩ := HG.out W (Below.refl _ _)
    have hb := Lib.hid b0
    clear HG HS HW hB b0
    go_wp2
    all_goals refine bodyPost_ret (results_span rfl rfl (by go_simp; try with_reducible rfl) (by go_simp; try with_reducible rfl)) rfl ?_
    all_goals have hb := hb.out
    all_goals exact ret_of (by first | with_reducible rfl | exact spV_of (by omega) (by omega)) (by (repeat' (first | (with_reducible exact Below.refl _ _) | (with_reducible assumption) | (with_reducible refine Below.alloc ?_ ?_ _) | (with_reducible refine Below.drew ?_) | (with_reducible refine belN ?_ _) | (with_reducible refine Below.setCell ?_ ?_ _) | (with_reducible exact Nat.le_refl _) | (refine Below.size (B := ?_) ?_; rotate_left; assumption) | omega | (simp only [World.size_alloc, World.size_setCell, World.size_drew]; omega) | (simp; omega))))
end Go.Proofs.YtelbeomfdfggbaaDoor
