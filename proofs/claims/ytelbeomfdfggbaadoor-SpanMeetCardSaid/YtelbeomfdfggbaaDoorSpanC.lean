/- The calls of package span, and of the document's own answer, that tell whether one span covers another one. -/
import Derived.Test.YtelbeomfdfggbaaDoorSpan
import Derived.Test.YtelbeomfdfggbaaDoorPlan
namespace Go.Proofs.YtelbeomfdfggbaaDoor
open Go.RowKit

def coversS (a b c d : Int) : Bool := decide (d < c) || (decide (a ≤ c) && decide (d ≤ b))
set_option maxHeartbeats 1000000 in
theorem span_Covers (a b c d : Int) (w : World) (g : Gl w) : Calls Tryd.prog 14 #[spV a b, spV c d] w (Ret (.bool (coversS a b c d)) w) := by
  obtain ⟨W, hW⟩ : ∃ W, W = ((w.alloc (.cells #[.int .i32 a, .int .i32 b] 23)).alloc (.cells #[.int .i32 c, .int .i32 d] 23)) := ⟨_, rfl⟩
  have b0 : Below w.heap.size w W := by rw [hW]; (repeat' (first | (with_reducible exact Below.refl _ _) | (with_reducible assumption) | (with_reducible refine Below.alloc ?_ ?_ _) | (with_reducible refine Below.drew ?_) | (with_reducible refine belN ?_ _) | (with_reducible refine Below.setCell ?_ ?_ _) | (with_reducible exact Nat.le_refl _) | (refine Below.size (B := ?_) ?_; rotate_left; assumption) | omega | (simp only [World.size_alloc, World.size_setCell, World.size_drew]; omega) | (simp; omega)))
  have zW : W.heap.size = w.heap.size + 2 := by rw [hW]; simp
  have gW : Gl W := g.below b0
  have gw : w.heap.size ≠ 0 := by have := g.lt; omega
  have j0_0 : W.cell? ⟨w.heap.size, 0, none⟩ = some (.int .i32 a) := by rw [hW]; go_simp
  have j0_1 : W.cell? ⟨w.heap.size, 1, none⟩ = some (.int .i32 b) := by rw [hW]; go_simp
  have j1_0 : W.cell? ⟨w.heap.size + 1, 0, none⟩ = some (.int .i32 c) := by rw [hW]; go_simp
  have j1_1 : W.cell? ⟨w.heap.size + 1, 1, none⟩ = some (.int .i32 d) := by rw [hW]; go_simp
  have HG := Lib.hid (fun (w1 : World) (hb1 : Below W.heap.size W w1) => (⟨(gW.below hb1).c0, (gW.below hb1).c1, (hb1.cell (p := ⟨w.heap.size, 0, none⟩) (by simp only []; omega)).trans j0_0, (hb1.cell (p := ⟨w.heap.size, 1, none⟩) (by simp only []; omega)).trans j0_1, (hb1.cell (p := ⟨w.heap.size + 1, 0, none⟩) (by simp only []; omega)).trans j1_0, (hb1.cell (p := ⟨w.heap.size + 1, 1, none⟩) (by simp only []; omega)).trans j1_1, by have := hb1.size; omega, by have := hb1.size; omega, by have := hb1.size; have := g.lt; omega, by have := hb1.size; have := g.lt; omega⟩ :
    w1.cell? ⟨0, 0, none⟩ = some (.int .i32 1) ∧ w1.cell? ⟨0, 1, none⟩ = some (.int .i32 0) ∧ w1.cell? ⟨w.heap.size, 0, none⟩ = some (.int .i32 a) ∧ w1.cell? ⟨w.heap.size, 1, none⟩ = some (.int .i32 b) ∧ w1.cell? ⟨w.heap.size + 1, 0, none⟩ = some (.int .i32 c) ∧ w1.cell? ⟨w.heap.size + 1, 1, none⟩ = some (.int .i32 d) ∧ w.heap.size < w1.heap.size ∧ w.heap.size + 1 < w1.heap.size ∧ 0 < w1.heap.size ∧ w1.heap.size ≠ 0))
  clear j0_0 j0_1 j1_0 j1_1
  have HS := Lib.hid (fun (w1 : World) (hb1 : Below W.heap.size W w1) => (by obtain ⟨g0, g1, c0_0, c0_1, c1_0, c1_1, s0, s1, gs, gn⟩ := HG.out _ hb1; exact ⟨g0, g1, c0_0, c0_1, c1_0, c1_1⟩ :
    w1.cell? ⟨0, 0, none⟩ = some (.int .i32 1) ∧ w1.cell? ⟨0, 1, none⟩ = some (.int .i32 0) ∧ w1.cell? ⟨w.heap.size, 0, none⟩ = some (.int .i32 a) ∧ w1.cell? ⟨w.heap.size, 1, none⟩ = some (.int .i32 b) ∧ w1.cell? ⟨w.heap.size + 1, 0, none⟩ = some (.int .i32 c) ∧ w1.cell? ⟨w.heap.size + 1, 1, none⟩ = some (.int .i32 d)))
  have hB : Below W.heap.size W W.drew := (Below.refl _ _).drew
  have HW := Lib.hid hW
  clear hW
  have hq := run_spEq
  by_cases h1 : d < c
  · have q1 : spEq 1 0 1 0 = true := rfl
    have e : coversS a b c d = true := by simp [coversS, h1]
    rw [e]
    go_enter Tryd.func14, Tryd.ntmps14
    go_wp2
    rw [← HW.out]
    refine region_plan (fun w' => w'.cell? ⟨0, 0, none⟩ = some (.int .i32 1) ∧ w'.cell? ⟨0, 1, none⟩ = some (.int .i32 0) ∧ w'.cell? ⟨w.heap.size, 0, none⟩ = some (.int .i32 a) ∧ w'.cell? ⟨w.heap.size, 1, none⟩ = some (.int .i32 b) ∧ w'.cell? ⟨w.heap.size + 1, 0, none⟩ = some (.int .i32 c) ∧ w'.cell? ⟨w.heap.size + 1, 1, none⟩ = some (.int .i32 d)) [(0, .take), (2, .take), (1, .do_), (3, .take), (4, .take), (5, .take), (6, .take), (7, .take), (8, .take), (9, .take), (10, .take), (11, .take), (12, .take), (13, .take), (14, .take), (15, .take), (16, .take), (17, .take), (18, .take)] (by kernel_rfl) rfl (by kernel_rfl) (by kernel_rfl) (fun _ _ _ d _ h => by cases d <;> exact h) (HS.out _ hB) ?_
    simp only [zipOps, List.getElem?_toArray, List.getElem?_cons_zero, List.getElem?_cons_succ]
    repeat (first
      | (refine walk_skip (by rfl) ?_; try simp only [Act.put, List.setIfInBounds_toArray, List.set_cons_zero, List.set_cons_succ])
      | (refine walk_pass (by rfl) (HS.out _ hB) ?_; try simp only [Act.put, List.setIfInBounds_toArray, List.set_cons_zero, List.set_cons_succ])
      | (refine walk_take (v := ?_) (by rfl) (fun w hS => ?_) ?_
         rotate_left
         · obtain ⟨g0, g1, c0_0, c0_1, c1_0, c1_1⟩ := hS
           go_simp
           try with_reducible rfl
         try simp only [Act.put, List.setIfInBounds_toArray, List.set_cons_zero, List.set_cons_succ])
      | (refine walk_do (by rfl) (fun K hK => ?_)
         go_simp
         go_at_call 21
         (with_reducible refine (span_plain_no c d _ (gW.below hB) h1).mono ?_)
         rintro e w1 ⟨rfl, hb1⟩
         dsimp only
         replace hB := Bel hB hb1
         refine hK _ _ (HS.out _ hB) ?_
         clear hK K
         try simp only [Act.put, List.setIfInBounds_toArray, List.set_cons_zero, List.set_cons_succ]))
    rw [walk_nil]
    go_wp2
    go_ret
    exact ret_of rfl (Bel b0 hB)
  have h1' : c ≤ d := by omega
  have q2 : spEq c d 1 0 = false := spEq_no (by omega)
  by_cases h2 : a ≤ c
  · have e : coversS a b c d = decide (d ≤ b) := by simp [coversS, h1, h2]
    rw [e]
    go_enter Tryd.func14, Tryd.ntmps14
    go_wp2
    rw [← HW.out]
    refine region_plan (fun w' => w'.cell? ⟨0, 0, none⟩ = some (.int .i32 1) ∧ w'.cell? ⟨0, 1, none⟩ = some (.int .i32 0) ∧ w'.cell? ⟨w.heap.size, 0, none⟩ = some (.int .i32 a) ∧ w'.cell? ⟨w.heap.size, 1, none⟩ = some (.int .i32 b) ∧ w'.cell? ⟨w.heap.size + 1, 0, none⟩ = some (.int .i32 c) ∧ w'.cell? ⟨w.heap.size + 1, 1, none⟩ = some (.int .i32 d)) [(0, .take), (2, .take), (1, .do_), (3, .take), (4, .take), (5, .take), (6, .take), (7, .take), (8, .take), (9, .take), (10, .take), (11, .take), (12, .take), (13, .take), (14, .take), (15, .take), (16, .take), (17, .take), (18, .take)] (by kernel_rfl) rfl (by kernel_rfl) (by kernel_rfl) (fun _ _ _ d _ h => by cases d <;> exact h) (HS.out _ hB) ?_
    simp only [zipOps, List.getElem?_toArray, List.getElem?_cons_zero, List.getElem?_cons_succ]
    repeat (first
      | (refine walk_skip (by rfl) ?_; try simp only [Act.put, List.setIfInBounds_toArray, List.set_cons_zero, List.set_cons_succ])
      | (refine walk_pass (by rfl) (HS.out _ hB) ?_; try simp only [Act.put, List.setIfInBounds_toArray, List.set_cons_zero, List.set_cons_succ])
      | (refine walk_take (v := ?_) (by rfl) (fun w hS => ?_) ?_
         rotate_left
         · obtain ⟨g0, g1, c0_0, c0_1, c1_0, c1_1⟩ := hS
           go_simp
           try with_reducible rfl
         try simp only [Act.put, List.setIfInBounds_toArray, List.set_cons_zero, List.set_cons_succ])
      | (refine walk_do (by rfl) (fun K hK => ?_)
         go_simp
         go_at_call 21
         (with_reducible refine (span_plain_yes c d _ h1').mono ?_)
         rintro e w1 ⟨rfl, hb1⟩
         dsimp only
         replace hB := Bel hB hb1
         refine hK _ _ (HS.out _ hB) ?_
         clear hK K
         try simp only [Act.put, List.setIfInBounds_toArray, List.set_cons_zero, List.set_cons_succ]))
    rw [walk_nil]
    go_wp2
    go_ret
    exact ret_of rfl (Bel b0 hB)
  · have e : coversS a b c d = false := by simp [coversS, h1, h2]
    rw [e]
    have hd : decide (a ≤ c) = false := by simpa using h2
    go_enter Tryd.func14, Tryd.ntmps14
    go_wp2
    rw [← HW.out]
    refine region_plan (fun w' => w'.cell? ⟨0, 0, none⟩ = some (.int .i32 1) ∧ w'.cell? ⟨0, 1, none⟩ = some (.int .i32 0) ∧ w'.cell? ⟨w.heap.size, 0, none⟩ = some (.int .i32 a) ∧ w'.cell? ⟨w.heap.size, 1, none⟩ = some (.int .i32 b) ∧ w'.cell? ⟨w.heap.size + 1, 0, none⟩ = some (.int .i32 c) ∧ w'.cell? ⟨w.heap.size + 1, 1, none⟩ = some (.int .i32 d)) [(0, .take), (2, .take), (1, .do_), (3, .take), (4, .take), (5, .take), (6, .take), (7, .take), (8, .take), (9, .take), (10, .take), (11, .take), (12, .take), (13, .take), (14, .take), (15, .take), (16, .take), (17, .take), (18, .take)] (by kernel_rfl) rfl (by kernel_rfl) (by kernel_rfl) (fun _ _ _ d _ h => by cases d <;> exact h) (HS.out _ hB) ?_
    simp only [zipOps, List.getElem?_toArray, List.getElem?_cons_zero, List.getElem?_cons_succ]
    repeat (first
      | (refine walk_skip (by rfl) ?_; try simp only [Act.put, List.setIfInBounds_toArray, List.set_cons_zero, List.set_cons_succ])
      | (refine walk_pass (by rfl) (HS.out _ hB) ?_; try simp only [Act.put, List.setIfInBounds_toArray, List.set_cons_zero, List.set_cons_succ])
      | (refine walk_take (v := ?_) (by rfl) (fun w hS => ?_) ?_
         rotate_left
         · obtain ⟨g0, g1, c0_0, c0_1, c1_0, c1_1⟩ := hS
           go_simp
           try with_reducible rfl
         try simp only [Act.put, List.setIfInBounds_toArray, List.set_cons_zero, List.set_cons_succ])
      | (refine walk_do (by rfl) (fun K hK => ?_)
         go_simp
         go_at_call 21
         (with_reducible refine (span_plain_yes c d _ h1').mono ?_)
         rintro e w1 ⟨rfl, hb1⟩
         dsimp only
         replace hB := Bel hB hb1
         refine hK _ _ (HS.out _ hB) ?_
         clear hK K
         try simp only [Act.put, List.setIfInBounds_toArray, List.set_cons_zero, List.set_cons_succ]))
    rw [walk_nil]
    go_wp2
    go_ret
    exact ret_of rfl (Bel b0 hB)

set_option maxHeartbeats 1000000 in
theorem ref_Covers (a b c d : Int) (w : World) : Calls Tryd.prog 15 #[spV a b, spV c d] w (Ret (.bool (coversS a b c d)) w) := by
  obtain ⟨W, hW⟩ : ∃ W, W = ((w.alloc (.cells #[.int .i32 a, .int .i32 b] 23)).alloc (.cells #[.int .i32 c, .int .i32 d] 23)) := ⟨_, rfl⟩
  have b0 : Below w.heap.size w W := by rw [hW]; (repeat' (first | (with_reducible exact Below.refl _ _) | (with_reducible assumption) | (with_reducible refine Below.alloc ?_ ?_ _) | (with_reducible refine Below.drew ?_) | (with_reducible refine belN ?_ _) | (with_reducible refine Below.setCell ?_ ?_ _) | (with_reducible exact Nat.le_refl _) | (refine Below.size (B := ?_) ?_; rotate_left; assumption) | omega | (simp only [World.size_alloc, World.size_setCell, World.size_drew]; omega) | (simp; omega)))
  have zW : W.heap.size = w.heap.size + 2 := by rw [hW]; simp
  have j0_0 : W.cell? ⟨w.heap.size, 0, none⟩ = some (.int .i32 a) := by rw [hW]; go_simp
  have j0_1 : W.cell? ⟨w.heap.size, 1, none⟩ = some (.int .i32 b) := by rw [hW]; go_simp
  have j1_0 : W.cell? ⟨w.heap.size + 1, 0, none⟩ = some (.int .i32 c) := by rw [hW]; go_simp
  have j1_1 : W.cell? ⟨w.heap.size + 1, 1, none⟩ = some (.int .i32 d) := by rw [hW]; go_simp
  have HG := Lib.hid (fun (w1 : World) (hb1 : Below W.heap.size W w1) => (⟨(hb1.cell (p := ⟨w.heap.size, 0, none⟩) (by simp only []; omega)).trans j0_0, (hb1.cell (p := ⟨w.heap.size, 1, none⟩) (by simp only []; omega)).trans j0_1, (hb1.cell (p := ⟨w.heap.size + 1, 0, none⟩) (by simp only []; omega)).trans j1_0, (hb1.cell (p := ⟨w.heap.size + 1, 1, none⟩) (by simp only []; omega)).trans j1_1, by have := hb1.size; omega, by have := hb1.size; omega⟩ :
    w1.cell? ⟨w.heap.size, 0, none⟩ = some (.int .i32 a) ∧ w1.cell? ⟨w.heap.size, 1, none⟩ = some (.int .i32 b) ∧ w1.cell? ⟨w.heap.size + 1, 0, none⟩ = some (.int .i32 c) ∧ w1.cell? ⟨w.heap.size + 1, 1, none⟩ = some (.int .i32 d) ∧ w.heap.size < w1.heap.size ∧ w.heap.size + 1 < w1.heap.size))
  clear j0_0 j0_1 j1_0 j1_1
  have HS := Lib.hid (fun (w1 : World) (hb1 : Below W.heap.size W w1) => (by obtain ⟨c0_0, c0_1, c1_0, c1_1, s0, s1⟩ := HG.out _ hb1; exact ⟨c0_0, c0_1, c1_0, c1_1⟩ :
    w1.cell? ⟨w.heap.size, 0, none⟩ = some (.int .i32 a) ∧ w1.cell? ⟨w.heap.size, 1, none⟩ = some (.int .i32 b) ∧ w1.cell? ⟨w.heap.size + 1, 0, none⟩ = some (.int .i32 c) ∧ w1.cell? ⟨w.heap.size + 1, 1, none⟩ = some (.int .i32 d)))
  have hB : Below W.heap.size W W.drew := (Below.refl _ _).drew
  have HW := Lib.hid hW
  clear hW
  clear HS hB
  by_cases h1 : d < c
  · have e : coversS a b c d = true := by simp [coversS, h1]
    rw [e]
    go_enter Tryd.func15, Tryd.ntmps15
    go_wp2
    go_ret
    exact ret_of rfl (by (repeat' (first | (with_reducible exact Below.refl _ _) | (with_reducible assumption) | (with_reducible refine Below.alloc ?_ ?_ _) | (with_reducible refine Below.drew ?_) | (with_reducible refine belN ?_ _) | (with_reducible refine Below.setCell ?_ ?_ _) | (with_reducible exact Nat.le_refl _) | (refine Below.size (B := ?_) ?_; rotate_left; assumption) | omega | (simp only [World.size_alloc, World.size_setCell, World.size_drew]; omega) | (simp; omega))))
  have h1' : c ≤ d := by omega
  have e : coversS a b c d = (hasS a b c && hasS a b d) := by
    rw [Bool.eq_iff_iff]; simp only [coversS, hasS, Bool.or_eq_true, Bool.and_eq_true, decide_eq_true_eq]; omega
  rw [e]
  cases h2 : hasS a b c
  all_goals
    go_enter Tryd.func15, Tryd.ntmps15
    go_wp2_with fail
    rw [← HW.out]
    refine (ref_Has a b c W).mono ?_
    rintro e w1 ⟨rfl, hb1⟩
    obtain ⟨c0_0, c0_1, c1_0, c1_1, s0, s1⟩ := HG.out _ hb1
    have hb := Bel b0 hb1
    go_wp2_with fail
    first
      | (refine (ref_Has a b d w1).mono ?_
         rintro e w2 ⟨rfl, hb2⟩
         have hb' := Bel hb hb2
         go_wp2
         go_ret
         exact ret_of (by simp) hb')
      | (go_ret
         exact ret_of (by simp) hb)
end Go.Proofs.YtelbeomfdfggbaaDoor
