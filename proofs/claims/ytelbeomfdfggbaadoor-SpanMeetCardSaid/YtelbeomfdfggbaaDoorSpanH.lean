/- The calls of package span, and of the document's own answer, that tell the hull of two spans. -/
import Derived.Test.YtelbeomfdfggbaaDoorSpanC
namespace Go.Proofs.YtelbeomfdfggbaaDoor
open Go.RowKit

def hullV (a b c d : Int) : Value := if b < a then (if d < c then spV 0 0 else spV c d) else (if d < c then spV a b else spV (min a c) (max b d))
set_option maxHeartbeats 4000000 in
theorem span_Hull (a b c d : Int) (w : World) (g : Gl w) : Calls Tryd.prog 16 #[spV a b, spV c d] w (Ret (hullV a b c d) w) := by
  obtain ⟨W, hW⟩ : ∃ W, W = (((w.alloc (.cells #[.int .i32 a, .int .i32 b] 23)).alloc (.cells #[.int .i32 c, .int .i32 d] 23)).alloc (.cells #[.int .i32 0, .int .i32 0] 23)) := ⟨_, rfl⟩
  have b0 : Below w.heap.size w W := by rw [hW]; (repeat' (first | (with_reducible exact Below.refl _ _) | (with_reducible assumption) | (with_reducible refine Below.alloc ?_ ?_ _) | (with_reducible refine Below.drew ?_) | (with_reducible refine belN ?_ _) | (with_reducible refine Below.setCell ?_ ?_ _) | (with_reducible exact Nat.le_refl _) | (refine Below.size (B := ?_) ?_; rotate_left; assumption) | omega | (simp only [World.size_alloc, World.size_setCell, World.size_drew]; omega) | (simp; omega)))
  have zW : W.heap.size = w.heap.size + 3 := by rw [hW]; simp
  have gW : Gl W := g.below b0
  have gw : w.heap.size ≠ 0 := by have := g.lt; omega
  have j0_0 : W.cell? ⟨w.heap.size, 0, none⟩ = some (.int .i32 a) := by rw [hW]; go_simp
  have j0_1 : W.cell? ⟨w.heap.size, 1, none⟩ = some (.int .i32 b) := by rw [hW]; go_simp
  have j1_0 : W.cell? ⟨w.heap.size + 1, 0, none⟩ = some (.int .i32 c) := by rw [hW]; go_simp
  have j1_1 : W.cell? ⟨w.heap.size + 1, 1, none⟩ = some (.int .i32 d) := by rw [hW]; go_simp
  have j2_0 : W.cell? ⟨w.heap.size + 1 + 1, 0, none⟩ = some (.int .i32 0) := by rw [hW]; go_simp
  have j2_1 : W.cell? ⟨w.heap.size + 1 + 1, 1, none⟩ = some (.int .i32 0) := by rw [hW]; go_simp
  have f0 : ∀ o, W.frozen? ⟨w.heap.size, o, none⟩ = false := fun o => by rw [hW]; go_simp
  have f1 : ∀ o, W.frozen? ⟨w.heap.size + 1, o, none⟩ = false := fun o => by rw [hW]; go_simp
  have f2 : ∀ o, W.frozen? ⟨w.heap.size + 1 + 1, o, none⟩ = false := fun o => by rw [hW]; go_simp
  have HG := Lib.hid (fun (w1 : World) (hb1 : Below W.heap.size W w1) => (⟨(gW.below hb1).c0, (gW.below hb1).c1, (hb1.cell (p := ⟨w.heap.size, 0, none⟩) (by simp only []; omega)).trans j0_0, (hb1.cell (p := ⟨w.heap.size, 1, none⟩) (by simp only []; omega)).trans j0_1, (hb1.cell (p := ⟨w.heap.size + 1, 0, none⟩) (by simp only []; omega)).trans j1_0, (hb1.cell (p := ⟨w.heap.size + 1, 1, none⟩) (by simp only []; omega)).trans j1_1, (hb1.cell (p := ⟨w.heap.size + 1 + 1, 0, none⟩) (by simp only []; omega)).trans j2_0, (hb1.cell (p := ⟨w.heap.size + 1 + 1, 1, none⟩) (by simp only []; omega)).trans j2_1, (hb1.frozen (p := ⟨w.heap.size, 0, none⟩) (by simp only []; omega)).trans (f0 0), (hb1.frozen (p := ⟨w.heap.size, 1, none⟩) (by simp only []; omega)).trans (f0 1), (hb1.frozen (p := ⟨w.heap.size + 1, 0, none⟩) (by simp only []; omega)).trans (f1 0), (hb1.frozen (p := ⟨w.heap.size + 1, 1, none⟩) (by simp only []; omega)).trans (f1 1), (hb1.frozen (p := ⟨w.heap.size + 1 + 1, 0, none⟩) (by simp only []; omega)).trans (f2 0), (hb1.frozen (p := ⟨w.heap.size + 1 + 1, 1, none⟩) (by simp only []; omega)).trans (f2 1), by have := hb1.size; omega, by have := hb1.size; omega, by have := hb1.size; omega, by have := hb1.size; have := g.lt; omega, by have := hb1.size; have := g.lt; omega⟩ :
    w1.cell? ⟨0, 0, none⟩ = some (.int .i32 1) ∧ w1.cell? ⟨0, 1, none⟩ = some (.int .i32 0) ∧ w1.cell? ⟨w.heap.size, 0, none⟩ = some (.int .i32 a) ∧ w1.cell? ⟨w.heap.size, 1, none⟩ = some (.int .i32 b) ∧ w1.cell? ⟨w.heap.size + 1, 0, none⟩ = some (.int .i32 c) ∧ w1.cell? ⟨w.heap.size + 1, 1, none⟩ = some (.int .i32 d) ∧ w1.cell? ⟨w.heap.size + 1 + 1, 0, none⟩ = some (.int .i32 0) ∧ w1.cell? ⟨w.heap.size + 1 + 1, 1, none⟩ = some (.int .i32 0) ∧ w1.frozen? ⟨w.heap.size, 0, none⟩ = false ∧ w1.frozen? ⟨w.heap.size, 1, none⟩ = false ∧ w1.frozen? ⟨w.heap.size + 1, 0, none⟩ = false ∧ w1.frozen? ⟨w.heap.size + 1, 1, none⟩ = false ∧ w1.frozen? ⟨w.heap.size + 1 + 1, 0, none⟩ = false ∧ w1.frozen? ⟨w.heap.size + 1 + 1, 1, none⟩ = false ∧ w.heap.size < w1.heap.size ∧ w.heap.size + 1 < w1.heap.size ∧ w.heap.size + 1 + 1 < w1.heap.size ∧ 0 < w1.heap.size ∧ w1.heap.size ≠ 0))
  clear j0_0 j0_1 j1_0 j1_1 j2_0 j2_1 f0 f1 f2
  have HS := Lib.hid (fun (w1 : World) (hb1 : Below W.heap.size W w1) => (by obtain ⟨g0, g1, c0_0, c0_1, c1_0, c1_1, c2_0, c2_1, f0_0, f0_1, f1_0, f1_1, f2_0, f2_1, s0, s1, s2, gs, gn⟩ := HG.out _ hb1; exact ⟨g0, g1, c0_0, c0_1, c1_0, c1_1, c2_0, c2_1⟩ :
    w1.cell? ⟨0, 0, none⟩ = some (.int .i32 1) ∧ w1.cell? ⟨0, 1, none⟩ = some (.int .i32 0) ∧ w1.cell? ⟨w.heap.size, 0, none⟩ = some (.int .i32 a) ∧ w1.cell? ⟨w.heap.size, 1, none⟩ = some (.int .i32 b) ∧ w1.cell? ⟨w.heap.size + 1, 0, none⟩ = some (.int .i32 c) ∧ w1.cell? ⟨w.heap.size + 1, 1, none⟩ = some (.int .i32 d) ∧ w1.cell? ⟨w.heap.size + 1 + 1, 0, none⟩ = some (.int .i32 0) ∧ w1.cell? ⟨w.heap.size + 1 + 1, 1, none⟩ = some (.int .i32 0)))
  have hB : Below W.heap.size W W.drew := (Below.refl _ _).drew
  have HW := Lib.hid hW
  clear hW
  have hq := run_spEq
  have q1 : spEq 1 0 1 0 = true := rfl
  by_cases h1 : b < a <;> by_cases h2 : d < c
  · rw [show hullV a b c d = spV 0 0 by simp [hullV, *]]
    go_enter Tryd.func16, Tryd.ntmps16
    go_wp2
    rw [← HW.out]
    obtain ⟨g0, g1, c0_0, c0_1, c1_0, c1_1, c2_0, c2_1, f0_0, f0_1, f1_0, f1_1, f2_0, f2_1, s0, s1, s2, gs, gn⟩ := HG.out _ hB
    refine region_plan (fun w' => w'.cell? ⟨w.heap.size + 1, 0, none⟩ = some (.int .i32 c) ∧ w'.cell? ⟨w.heap.size + 1, 1, none⟩ = some (.int .i32 d)) [(2, .take), (0, .do_), (1, .do_), (3, .do_), (4, .do_), (5, .last)] (by kernel_rfl) rfl (by kernel_rfl) (by kernel_rfl) (fun _ _ _ d _ h => by cases d <;> exact h) ⟨c1_0, c1_1⟩ ?_
    simp only [zipOps, List.getElem?_toArray, List.getElem?_cons_zero, List.getElem?_cons_succ]
    repeat (first
      | (refine walk_skip (by rfl) ?_; try simp only [Act.put, List.setIfInBounds_toArray, List.set_cons_zero, List.set_cons_succ])
      | (refine walk_pass (by rfl) ⟨c1_0, c1_1⟩ ?_; try simp only [Act.put, List.setIfInBounds_toArray, List.set_cons_zero, List.set_cons_succ])
      | (refine walk_take (v := ?_) (by rfl) (fun w hS => ?_) ?_
         rotate_left
         · obtain ⟨c1_0, c1_1⟩ := hS
           go_simp
           try with_reducible rfl
         try simp only [Act.put, List.setIfInBounds_toArray, List.set_cons_zero, List.set_cons_succ])
      | (refine walk_last (by rfl) (fun K hK => ?_)
         go_simp
         refine hK _ _ ?_
         clear hK K
         try simp only [Act.put, List.setIfInBounds_toArray, List.set_cons_zero, List.set_cons_succ])
      | (refine walk_do (by rfl) (fun K hK => ?_)
         go_simp
         go_at_call 21
         (with_reducible refine (span_plain_no a b _ (gW.below hB) h1).mono ?_)
         rintro e w1 ⟨rfl, hb1⟩
         dsimp only
         replace hB := Bel hB hb1
         obtain ⟨g0, g1, c0_0, c0_1, c1_0, c1_1, c2_0, c2_1, f0_0, f0_1, f1_0, f1_1, f2_0, f2_1, s0, s1, s2, gs, gn⟩ := HG.out _ hB
         refine hK _ _ ⟨c1_0, c1_1⟩ ?_
         clear hK K
         try simp only [Act.put, List.setIfInBounds_toArray, List.set_cons_zero, List.set_cons_succ])
      | (refine walk_do (by rfl) (fun K hK => ?_)
         go_simp
         go_at_call 21
         (with_reducible refine (span_plain_no c d _ (gW.below hB) h2).mono ?_)
         rintro e w1 ⟨rfl, hb1⟩
         dsimp only
         replace hB := Bel hB hb1
         obtain ⟨g0, g1, c0_0, c0_1, c1_0, c1_1, c2_0, c2_1, f0_0, f0_1, f1_0, f1_1, f2_0, f2_1, s0, s1, s2, gs, gn⟩ := HG.out _ hB
         refine hK _ _ ⟨c1_0, c1_1⟩ ?_
         clear hK K
         try simp only [Act.put, List.setIfInBounds_toArray, List.set_cons_zero, List.set_cons_succ])
      | (refine walk_do (by rfl) (fun K hK => ?_)
         go_simp
         refine hK _ _ ⟨by go_simp, by go_simp⟩ ?_
         clear hK K
         try simp only [Act.put, List.setIfInBounds_toArray, List.set_cons_zero, List.set_cons_succ]))
    rw [walk_nil]
    have hb := Lib.hid (Bel b0 hB)
    clear HG HS HW gW hB hb1 b0 g
    go_wp2
    all_goals refine bodyPost_ret (results_span rfl rfl (by go_simp; try with_reducible rfl) (by go_simp; try with_reducible rfl)) rfl ?_
    all_goals have hb := hb.out
    all_goals exact ret_of (by first | with_reducible rfl | exact spV_of (by omega) (by omega)) (by (repeat' (first | (with_reducible exact Below.refl _ _) | (with_reducible assumption) | (with_reducible refine Below.alloc ?_ ?_ _) | (with_reducible refine Below.drew ?_) | (with_reducible refine belN ?_ _) | (with_reducible refine Below.setCell ?_ ?_ _) | (with_reducible exact Nat.le_refl _) | (refine Below.size (B := ?_) ?_; rotate_left; assumption) | omega | (simp only [World.size_alloc, World.size_setCell, World.size_drew]; omega) | (simp; omega))))
  · have h2' : c ≤ d := by omega
    have q2 : spEq c d 1 0 = false := spEq_no (by omega)
    rw [show hullV a b c d = spV c d by simp [hullV, *]]
    go_enter Tryd.func16, Tryd.ntmps16
    go_wp2
    rw [← HW.out]
    obtain ⟨g0, g1, c0_0, c0_1, c1_0, c1_1, c2_0, c2_1, f0_0, f0_1, f1_0, f1_1, f2_0, f2_1, s0, s1, s2, gs, gn⟩ := HG.out _ hB
    refine region_plan (fun w' => w'.cell? ⟨w.heap.size + 1, 0, none⟩ = some (.int .i32 c) ∧ w'.cell? ⟨w.heap.size + 1, 1, none⟩ = some (.int .i32 d)) [(2, .take), (0, .do_), (1, .do_), (3, .do_), (4, .do_), (5, .last)] (by kernel_rfl) rfl (by kernel_rfl) (by kernel_rfl) (fun _ _ _ d _ h => by cases d <;> exact h) ⟨c1_0, c1_1⟩ ?_
    simp only [zipOps, List.getElem?_toArray, List.getElem?_cons_zero, List.getElem?_cons_succ]
    repeat (first
      | (refine walk_skip (by rfl) ?_; try simp only [Act.put, List.setIfInBounds_toArray, List.set_cons_zero, List.set_cons_succ])
      | (refine walk_pass (by rfl) ⟨c1_0, c1_1⟩ ?_; try simp only [Act.put, List.setIfInBounds_toArray, List.set_cons_zero, List.set_cons_succ])
      | (refine walk_take (v := ?_) (by rfl) (fun w hS => ?_) ?_
         rotate_left
         · obtain ⟨c1_0, c1_1⟩ := hS
           go_simp
           try with_reducible rfl
         try simp only [Act.put, List.setIfInBounds_toArray, List.set_cons_zero, List.set_cons_succ])
      | (refine walk_last (by rfl) (fun K hK => ?_)
         go_simp
         refine hK _ _ ?_
         clear hK K
         try simp only [Act.put, List.setIfInBounds_toArray, List.set_cons_zero, List.set_cons_succ])
      | (refine walk_do (by rfl) (fun K hK => ?_)
         go_simp
         go_at_call 21
         (with_reducible refine (span_plain_no a b _ (gW.below hB) h1).mono ?_)
         rintro e w1 ⟨rfl, hb1⟩
         dsimp only
         replace hB := Bel hB hb1
         obtain ⟨g0, g1, c0_0, c0_1, c1_0, c1_1, c2_0, c2_1, f0_0, f0_1, f1_0, f1_1, f2_0, f2_1, s0, s1, s2, gs, gn⟩ := HG.out _ hB
         refine hK _ _ ⟨c1_0, c1_1⟩ ?_
         clear hK K
         try simp only [Act.put, List.setIfInBounds_toArray, List.set_cons_zero, List.set_cons_succ])
      | (refine walk_do (by rfl) (fun K hK => ?_)
         go_simp
         go_at_call 21
         (with_reducible refine (span_plain_yes c d _ h2').mono ?_)
         rintro e w1 ⟨rfl, hb1⟩
         dsimp only
         replace hB := Bel hB hb1
         obtain ⟨g0, g1, c0_0, c0_1, c1_0, c1_1, c2_0, c2_1, f0_0, f0_1, f1_0, f1_1, f2_0, f2_1, s0, s1, s2, gs, gn⟩ := HG.out _ hB
         refine hK _ _ ⟨c1_0, c1_1⟩ ?_
         clear hK K
         try simp only [Act.put, List.setIfInBounds_toArray, List.set_cons_zero, List.set_cons_succ])
      | (refine walk_do (by rfl) (fun K hK => ?_)
         go_simp
         refine hK _ _ ⟨by go_simp, by go_simp⟩ ?_
         clear hK K
         try simp only [Act.put, List.setIfInBounds_toArray, List.set_cons_zero, List.set_cons_succ]))
    rw [walk_nil]
    have hb := Lib.hid (Bel b0 hB)
    clear HG HS HW gW hB hb1 b0 g
    go_wp2
    all_goals refine bodyPost_ret (results_span rfl rfl (by go_simp; try with_reducible rfl) (by go_simp; try with_reducible rfl)) rfl ?_
    all_goals have hb := hb.out
    all_goals exact ret_of (by first | with_reducible rfl | exact spV_of (by omega) (by omega)) (by (repeat' (first | (with_reducible exact Below.refl _ _) | (with_reducible assumption) | (with_reducible refine Below.alloc ?_ ?_ _) | (with_reducible refine Below.drew ?_) | (with_reducible refine belN ?_ _) | (with_reducible refine Below.setCell ?_ ?_ _) | (with_reducible exact Nat.le_refl _) | (refine Below.size (B := ?_) ?_; rotate_left; assumption) | omega | (simp only [World.size_alloc, World.size_setCell, World.size_drew]; omega) | (simp; omega))))
  · have h1' : a ≤ b := by omega
    have q2 : spEq a b 1 0 = false := spEq_no (by omega)
    rw [show hullV a b c d = spV a b by simp [hullV, *]]
    go_enter Tryd.func16, Tryd.ntmps16
    go_wp2
    rw [← HW.out]
    obtain ⟨g0, g1, c0_0, c0_1, c1_0, c1_1, c2_0, c2_1, f0_0, f0_1, f1_0, f1_1, f2_0, f2_1, s0, s1, s2, gs, gn⟩ := HG.out _ hB
    refine region_plan (fun w' => w'.cell? ⟨w.heap.size + 1, 0, none⟩ = some (.int .i32 c) ∧ w'.cell? ⟨w.heap.size + 1, 1, none⟩ = some (.int .i32 d)) [(2, .take), (0, .do_), (1, .do_), (3, .do_), (4, .do_), (5, .last)] (by kernel_rfl) rfl (by kernel_rfl) (by kernel_rfl) (fun _ _ _ d _ h => by cases d <;> exact h) ⟨c1_0, c1_1⟩ ?_
    simp only [zipOps, List.getElem?_toArray, List.getElem?_cons_zero, List.getElem?_cons_succ]
    repeat (first
      | (refine walk_skip (by rfl) ?_; try simp only [Act.put, List.setIfInBounds_toArray, List.set_cons_zero, List.set_cons_succ])
      | (refine walk_pass (by rfl) ⟨c1_0, c1_1⟩ ?_; try simp only [Act.put, List.setIfInBounds_toArray, List.set_cons_zero, List.set_cons_succ])
      | (refine walk_take (v := ?_) (by rfl) (fun w hS => ?_) ?_
         rotate_left
         · obtain ⟨c1_0, c1_1⟩ := hS
           go_simp
           try with_reducible rfl
         try simp only [Act.put, List.setIfInBounds_toArray, List.set_cons_zero, List.set_cons_succ])
      | (refine walk_last (by rfl) (fun K hK => ?_)
         go_simp
         refine hK _ _ ?_
         clear hK K
         try simp only [Act.put, List.setIfInBounds_toArray, List.set_cons_zero, List.set_cons_succ])
      | (refine walk_do (by rfl) (fun K hK => ?_)
         go_simp
         go_at_call 21
         (with_reducible refine (span_plain_yes a b _ h1').mono ?_)
         rintro e w1 ⟨rfl, hb1⟩
         dsimp only
         replace hB := Bel hB hb1
         obtain ⟨g0, g1, c0_0, c0_1, c1_0, c1_1, c2_0, c2_1, f0_0, f0_1, f1_0, f1_1, f2_0, f2_1, s0, s1, s2, gs, gn⟩ := HG.out _ hB
         refine hK _ _ ⟨c1_0, c1_1⟩ ?_
         clear hK K
         try simp only [Act.put, List.setIfInBounds_toArray, List.set_cons_zero, List.set_cons_succ])
      | (refine walk_do (by rfl) (fun K hK => ?_)
         go_simp
         go_at_call 21
         (with_reducible refine (span_plain_no c d _ (gW.below hB) h2).mono ?_)
         rintro e w1 ⟨rfl, hb1⟩
         dsimp only
         replace hB := Bel hB hb1
         obtain ⟨g0, g1, c0_0, c0_1, c1_0, c1_1, c2_0, c2_1, f0_0, f0_1, f1_0, f1_1, f2_0, f2_1, s0, s1, s2, gs, gn⟩ := HG.out _ hB
         refine hK _ _ ⟨c1_0, c1_1⟩ ?_
         clear hK K
         try simp only [Act.put, List.setIfInBounds_toArray, List.set_cons_zero, List.set_cons_succ])
      | (refine walk_do (by rfl) (fun K hK => ?_)
         go_simp
         refine hK _ _ ⟨by go_simp, by go_simp⟩ ?_
         clear hK K
         try simp only [Act.put, List.setIfInBounds_toArray, List.set_cons_zero, List.set_cons_succ]))
    rw [walk_nil]
    have hb := Lib.hid (Bel b0 hB)
    clear HG HS HW gW hB hb1 b0 g
    go_wp2
    all_goals refine bodyPost_ret (results_span rfl rfl (by go_simp; try with_reducible rfl) (by go_simp; try with_reducible rfl)) rfl ?_
    all_goals have hb := hb.out
    all_goals exact ret_of (by first | with_reducible rfl | exact spV_of (by omega) (by omega)) (by (repeat' (first | (with_reducible exact Below.refl _ _) | (with_reducible assumption) | (with_reducible refine Below.alloc ?_ ?_ _) | (with_reducible refine Below.drew ?_) | (with_reducible refine belN ?_ _) | (with_reducible refine Below.setCell ?_ ?_ _) | (with_reducible exact Nat.le_refl _) | (refine Below.size (B := ?_) ?_; rotate_left; assumption) | omega | (simp only [World.size_alloc, World.size_setCell, World.size_drew]; omega) | (simp; omega))))
  · have h1' : a ≤ b := by omega
    have h2' : c ≤ d := by omega
    have q2 : spEq a b 1 0 = false := spEq_no (by omega)
    have q3 : spEq c d 1 0 = false := spEq_no (by omega)
    rw [show hullV a b c d = spV (min a c) (max b d) by simp [hullV, *]]
    go_enter Tryd.func16, Tryd.ntmps16
    go_wp2
    rw [← HW.out]
    obtain ⟨g0, g1, c0_0, c0_1, c1_0, c1_1, c2_0, c2_1, f0_0, f0_1, f1_0, f1_1, f2_0, f2_1, s0, s1, s2, gs, gn⟩ := HG.out _ hB
    refine region_plan (fun w' => w'.cell? ⟨w.heap.size + 1, 0, none⟩ = some (.int .i32 c) ∧ w'.cell? ⟨w.heap.size + 1, 1, none⟩ = some (.int .i32 d)) [(2, .take), (0, .do_), (1, .do_), (3, .do_), (4, .do_), (5, .last)] (by kernel_rfl) rfl (by kernel_rfl) (by kernel_rfl) (fun _ _ _ d _ h => by cases d <;> exact h) ⟨c1_0, c1_1⟩ ?_
    simp only [zipOps, List.getElem?_toArray, List.getElem?_cons_zero, List.getElem?_cons_succ]
    repeat (first
      | (refine walk_skip (by rfl) ?_; try simp only [Act.put, List.setIfInBounds_toArray, List.set_cons_zero, List.set_cons_succ])
      | (refine walk_pass (by rfl) ⟨c1_0, c1_1⟩ ?_; try simp only [Act.put, List.setIfInBounds_toArray, List.set_cons_zero, List.set_cons_succ])
      | (refine walk_take (v := ?_) (by rfl) (fun w hS => ?_) ?_
         rotate_left
         · obtain ⟨c1_0, c1_1⟩ := hS
           go_simp
           try with_reducible rfl
         try simp only [Act.put, List.setIfInBounds_toArray, List.set_cons_zero, List.set_cons_succ])
      | (refine walk_last (by rfl) (fun K hK => ?_)
         go_simp
         refine hK _ _ ?_
         clear hK K
         try simp only [Act.put, List.setIfInBounds_toArray, List.set_cons_zero, List.set_cons_succ])
      | (refine walk_do (by rfl) (fun K hK => ?_)
         go_simp
         go_at_call 21
         (with_reducible refine (span_plain_yes a b _ h1').mono ?_)
         rintro e w1 ⟨rfl, hb1⟩
         dsimp only
         replace hB := Bel hB hb1
         obtain ⟨g0, g1, c0_0, c0_1, c1_0, c1_1, c2_0, c2_1, f0_0, f0_1, f1_0, f1_1, f2_0, f2_1, s0, s1, s2, gs, gn⟩ := HG.out _ hB
         refine hK _ _ ⟨c1_0, c1_1⟩ ?_
         clear hK K
         try simp only [Act.put, List.setIfInBounds_toArray, List.set_cons_zero, List.set_cons_succ])
      | (refine walk_do (by rfl) (fun K hK => ?_)
         go_simp
         go_at_call 21
         (with_reducible refine (span_plain_yes c d _ h2').mono ?_)
         rintro e w1 ⟨rfl, hb1⟩
         dsimp only
         replace hB := Bel hB hb1
         obtain ⟨g0, g1, c0_0, c0_1, c1_0, c1_1, c2_0, c2_1, f0_0, f0_1, f1_0, f1_1, f2_0, f2_1, s0, s1, s2, gs, gn⟩ := HG.out _ hB
         refine hK _ _ ⟨c1_0, c1_1⟩ ?_
         clear hK K
         try simp only [Act.put, List.setIfInBounds_toArray, List.set_cons_zero, List.set_cons_succ])
      | (refine walk_do (by rfl) (fun K hK => ?_)
         go_simp
         refine hK _ _ ⟨by go_simp, by go_simp⟩ ?_
         clear hK K
         try simp only [Act.put, List.setIfInBounds_toArray, List.set_cons_zero, List.set_cons_succ]))
    rw [walk_nil]
    have hb := Lib.hid (Bel b0 hB)
    clear HG HS HW gW hB hb1 b0 g
    go_wp2
    all_goals refine bodyPost_ret (results_span rfl rfl (by go_simp; try with_reducible rfl) (by go_simp; try with_reducible rfl)) rfl ?_
    all_goals have hb := hb.out
    all_goals exact ret_of (by first | with_reducible rfl | exact spV_of (by omega) (by omega)) (by (repeat' (first | (with_reducible exact Below.refl _ _) | (with_reducible assumption) | (with_reducible refine Below.alloc ?_ ?_ _) | (with_reducible refine Below.drew ?_) | (with_reducible refine belN ?_ _) | (with_reducible refine Below.setCell ?_ ?_ _) | (with_reducible exact Nat.le_refl _) | (refine Below.size (B := ?_) ?_; rotate_left; assumption) | omega | (simp only [World.size_alloc, World.size_setCell, World.size_drew]; omega) | (simp; omega))))
end Go.Proofs.YtelbeomfdfggbaaDoor
