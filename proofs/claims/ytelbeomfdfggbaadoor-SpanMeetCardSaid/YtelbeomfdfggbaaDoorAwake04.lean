/- The chapter's examples of package span. -/
import Derived.Test.YtelbeomfdfggbaaDoorSpanI
import Derived.Test.YtelbeomfdfggbaaDoorSpanB
namespace Go.Proofs.YtelbeomfdfggbaaDoor
open Go.RowKit

set_option maxHeartbeats 400000 in
theorem law_sp (a b : Int) (w : World) : Calls Tryd.prog 20 #[.int .i32 a, .int .i32 b] w (Ret (spV a b) w) := by
  go_enter Tryd.func20, Tryd.ntmps20
  go_wp2
  refine bodyPost_ret (results_span rfl rfl (by go_simp; try with_reducible rfl) (by go_simp; try with_reducible rfl)) rfl ?_
  exact ⟨rfl, by (repeat' (first | (with_reducible exact Below.refl _ _) | (with_reducible assumption) | (with_reducible refine Below.alloc ?_ ?_ _) | (with_reducible refine Below.drew ?_) | (with_reducible refine belN ?_ _) | (with_reducible refine Below.setCell ?_ ?_ _) | (with_reducible exact Nat.le_refl _) | (refine Below.size (B := ?_) ?_; rotate_left; assumption) | omega | (simp only [World.size_alloc, World.size_setCell, World.size_drew]; omega) | (simp; omega)))⟩

theorem Ret.conv {v v' : Value} {f : FuncId} {args : Array Value} {w : World} (h : Calls Tryd.prog f args w (Ret v w)) (e : v = v') : Calls Tryd.prog f args w (Ret v' w) := by rw [← e]; exact h

theorem awake_c1 (w : World) (g : Gl w) : Calls Tryd.prog 14 #[spV 1 9, spV 2 3] w (Ret (.bool true) w) := Ret.conv (span_Covers 1 9 2 3 w g) (by rfl)
theorem awake_c2 (w : World) (g : Gl w) : Calls Tryd.prog 14 #[spV 2 3, spV 1 9] w (Ret (.bool false) w) := Ret.conv (span_Covers 2 3 1 9 w g) (by rfl)
theorem awake_c3 (w : World) (g : Gl w) : Calls Tryd.prog 14 #[spV 5 5, spV 7 6] w (Ret (.bool true) w) := Ret.conv (span_Covers 5 5 7 6 w g) (by rfl)
theorem awake_c4 (w : World) (g : Gl w) : Calls Tryd.prog 16 #[spV 1 2, spV 8 9] w (Ret (spV 1 9) w) := Ret.conv (span_Hull 1 2 8 9 w g) (by rfl)
theorem awake_c5 (w : World) (g : Gl w) : Calls Tryd.prog 12 #[spV 3 3] w (Ret (.int .u32 1) w) := Ret.conv (span_Len 3 3 w g (by omega) (by omega) (by omega) (by omega)) (by rfl)
theorem awake_c6 (w : World) (g : Gl w) : Calls Tryd.prog 12 #[spV 5 4] w (Ret (.int .u32 0) w) := Ret.conv (span_Len 5 4 w g (by omega) (by omega) (by omega) (by omega)) (by rfl)
theorem awake_c7 (w : World) (g : Gl w) : Calls Tryd.prog 12 #[spV (-2147483648) 2147483647] w (Ret (.int .u32 4294967295) w) := Ret.conv (span_Len (-2147483648) 2147483647 w g (by omega) (by omega) (by omega) (by omega)) (by rfl)
theorem awake_m1 (w : World) (g : Gl w) : Calls Tryd.prog 8 #[spV 1 5, spV 4 9] w (Ret (.tuple #[spV 4 5, .bool true]) w) := Ret.conv (span_Meet 1 5 4 9 w g) (by rfl)
theorem awake_m2 (w : World) (g : Gl w) : Calls Tryd.prog 8 #[spV 1 3, spV 4 9] w (Ret (.tuple #[spV 0 0, .bool false]) w) := Ret.conv (span_Meet 1 3 4 9 w g) (by rfl)

set_option maxHeartbeats 4000000 in
theorem awake_yes (w : World) (g : Gl w) : Calls Tryd.prog 18 #[] w (Yes w) := by
  have hq := run_spEq
  have q1 : spEq 4 5 4 5 = true := rfl
  have q2 : spEq 1 9 1 9 = true := rfl
  go_enter Tryd.func18, Tryd.ntmps18
  go_wp2_with fail
  refine (law_sp 1 5 w).mono ?_
  rintro e w1 ⟨rfl, hb1⟩
  go_wp2_with fail
  refine (law_sp 4 9 w1).mono ?_
  rintro e w2 ⟨rfl, hb2⟩
  have h2 := Bel hb1 hb2
  go_wp2_with fail
  refine (awake_m1 w2 (g.below h2)).mono ?_
  rintro e w3 ⟨rfl, hb3⟩
  have h3 := Bel h2 hb3
  go_wp2_with fail
  refine (law_sp 1 3 _).mono ?_
  rintro e w4 ⟨rfl, hb4⟩
  have k0 : w4.cell? ⟨w3.heap.size, 0, none⟩ = some (.int .i32 4) := (hb4.cell (by simp)).trans (by go_simp)
  have k1 : w4.cell? ⟨w3.heap.size, 1, none⟩ = some (.int .i32 5) := (hb4.cell (by simp)).trans (by go_simp)
  have z4 : w3.heap.size < w4.heap.size := by have := hb4.size; simp at this; omega
  have h4 := Bel (w := w) (by (repeat' (first | (with_reducible exact Below.refl _ _) | (with_reducible assumption) | (with_reducible refine Below.alloc ?_ ?_ _) | (with_reducible refine Below.drew ?_) | (with_reducible refine belN ?_ _) | (with_reducible refine Below.setCell ?_ ?_ _) | (with_reducible exact Nat.le_refl _) | (refine Below.size (B := ?_) ?_; rotate_left; assumption) | omega | (simp only [World.size_alloc, World.size_setCell, World.size_drew]; omega) | (simp; omega)))) hb4
  go_wp2_with fail
  refine (law_sp 4 9 w4).mono ?_
  rintro e w5 ⟨rfl, hb5⟩
  have h5 := Bel h4 hb5
  go_wp2_with fail
  refine (awake_m2 w5 (g.below h5)).mono ?_
  rintro e w6 ⟨rfl, hb6⟩
  have h6 := Bel h5 hb6
  have h46 := Bel hb5 hb6
  go_wp2_with fail
  obtain ⟨W, hW⟩ : ∃ W, W = w6.alloc (.cells #[.int .i32 0, .int .i32 0] 23) := ⟨_, rfl⟩
  obtain ⟨A, hA⟩ : ∃ A, A = w3.heap.size := ⟨_, rfl⟩
  have b0 : Below w.heap.size w W := by rw [hW]; (repeat' (first | (with_reducible exact Below.refl _ _) | (with_reducible assumption) | (with_reducible refine Below.alloc ?_ ?_ _) | (with_reducible refine Below.drew ?_) | (with_reducible refine belN ?_ _) | (with_reducible refine Below.setCell ?_ ?_ _) | (with_reducible exact Nat.le_refl _) | (refine Below.size (B := ?_) ?_; rotate_left; assumption) | omega | (simp only [World.size_alloc, World.size_setCell, World.size_drew]; omega) | (simp; omega)))
  have b4 : Below w4.heap.size w4 W := by rw [hW]; (repeat' (first | (with_reducible exact Below.refl _ _) | (with_reducible assumption) | (with_reducible refine Below.alloc ?_ ?_ _) | (with_reducible refine Below.drew ?_) | (with_reducible refine belN ?_ _) | (with_reducible refine Below.setCell ?_ ?_ _) | (with_reducible exact Nat.le_refl _) | (refine Below.size (B := ?_) ?_; rotate_left; assumption) | omega | (simp only [World.size_alloc, World.size_setCell, World.size_drew]; omega) | (simp; omega)))
  rw [← hA] at k0 k1 z4
  have l0 : W.cell? ⟨A, 0, none⟩ = some (.int .i32 4) := (b4.cell z4).trans k0
  have l1 : W.cell? ⟨A, 1, none⟩ = some (.int .i32 5) := (b4.cell z4).trans k1
  have zA : A < W.heap.size := Nat.lt_of_lt_of_le z4 b4.size
  have gW : Gl W := g.below b0
  have HS := Lib.hid (fun (w1 : World) (hb1 : Below W.heap.size W w1) => (⟨(hb1.cell (p := ⟨A, 0, none⟩) zA).trans l0, (hb1.cell (p := ⟨A, 1, none⟩) zA).trans l1⟩ : w1.cell? ⟨A, 0, none⟩ = some (.int .i32 4) ∧ w1.cell? ⟨A, 1, none⟩ = some (.int .i32 5)))
  have hB : Below W.heap.size W W.drew := (Below.refl _ _).drew
  rw [← hW, ← hA]
  clear hW hA k0 k1 z4 l0 l1 zA b4 hb1 hb2 hb3 hb4 hb5 hb6 h2 h3 h4 h5 h6 h46
  refine region_plan (fun w' => w'.cell? ⟨A, 0, none⟩ = some (.int .i32 4) ∧ w'.cell? ⟨A, 1, none⟩ = some (.int .i32 5)) [(0, .take), (1, .take), (2, .take), (3, .do_), (4, .take), (5, .take), (6, .take), (7, .take), (8, .take), (9, .take), (10, .take), (11, .do_), (12, .do_), (13, .do_), (14, .take), (15, .take), (16, .do_), (17, .do_), (18, .do_), (19, .take), (20, .take), (21, .take), (22, .do_), (23, .do_), (24, .do_), (25, .take), (26, .take), (27, .do_), (28, .do_), (29, .do_), (30, .do_), (31, .take), (32, .take), (33, .take), (34, .do_), (35, .do_), (36, .take), (37, .take), (38, .take), (39, .do_), (40, .do_), (41, .take), (42, .take), (43, .take), (44, .do_), (45, .do_), (46, .take), (47, .take), (48, .take)] (by kernel_rfl) rfl (by kernel_rfl) (by kernel_rfl) (fun _ _ _ d _ h => by cases d <;> exact h) (HS.out _ hB) ?_
  simp only [zipOps, List.getElem?_toArray, List.getElem?_cons_zero, List.getElem?_cons_succ]
  repeat (first
    | (refine walk_skip (by rfl) ?_; try simp only [Act.put, List.setIfInBounds_toArray, List.set_cons_zero, List.set_cons_succ])
    | (refine walk_pass (by rfl) (HS.out _ hB) ?_; try simp only [Act.put, List.setIfInBounds_toArray, List.set_cons_zero, List.set_cons_succ])
    | (refine walk_take (v := ?_) (by rfl) (fun w hS => ?_) ?_
       rotate_left
       · obtain ⟨l0, l1⟩ := hS
         go_simp
         try with_reducible rfl
       try simp only [Act.put, List.setIfInBounds_toArray, List.set_cons_zero, List.set_cons_succ])
    | (refine walk_do (by rfl) (fun K hK => ?_)
       go_simp
       go_at_call 20
       (with_reducible refine (law_sp _ _ _).mono ?_)
       rintro e w1 ⟨rfl, hb1⟩
       dsimp only
       replace hB := Bel hB hb1
       refine hK _ _ (HS.out _ hB) ?_
       clear hK K
       try simp only [Act.put, List.setIfInBounds_toArray, List.set_cons_zero, List.set_cons_succ])
    | (refine walk_do (by rfl) (fun K hK => ?_)
       go_simp
       go_at_call 14
       (with_reducible refine (awake_c1 _ (gW.below hB)).mono ?_)
       rintro e w1 ⟨rfl, hb1⟩
       dsimp only
       replace hB := Bel hB hb1
       refine hK _ _ (HS.out _ hB) ?_
       clear hK K
       try simp only [Act.put, List.setIfInBounds_toArray, List.set_cons_zero, List.set_cons_succ])
    | (refine walk_do (by rfl) (fun K hK => ?_)
       go_simp
       go_at_call 14
       (with_reducible refine (awake_c2 _ (gW.below hB)).mono ?_)
       rintro e w1 ⟨rfl, hb1⟩
       dsimp only
       replace hB := Bel hB hb1
       refine hK _ _ (HS.out _ hB) ?_
       clear hK K
       try simp only [Act.put, List.setIfInBounds_toArray, List.set_cons_zero, List.set_cons_succ])
    | (refine walk_do (by rfl) (fun K hK => ?_)
       go_simp
       go_at_call 14
       (with_reducible refine (awake_c3 _ (gW.below hB)).mono ?_)
       rintro e w1 ⟨rfl, hb1⟩
       dsimp only
       replace hB := Bel hB hb1
       refine hK _ _ (HS.out _ hB) ?_
       clear hK K
       try simp only [Act.put, List.setIfInBounds_toArray, List.set_cons_zero, List.set_cons_succ])
    | (refine walk_do (by rfl) (fun K hK => ?_)
       go_simp
       go_at_call 16
       (with_reducible refine (awake_c4 _ (gW.below hB)).mono ?_)
       rintro e w1 ⟨rfl, hb1⟩
       dsimp only
       replace hB := Bel hB hb1
       refine hK _ _ (HS.out _ hB) ?_
       clear hK K
       try simp only [Act.put, List.setIfInBounds_toArray, List.set_cons_zero, List.set_cons_succ])
    | (refine walk_do (by rfl) (fun K hK => ?_)
       go_simp
       go_at_call 12
       (with_reducible refine (awake_c5 _ (gW.below hB)).mono ?_)
       rintro e w1 ⟨rfl, hb1⟩
       dsimp only
       replace hB := Bel hB hb1
       refine hK _ _ (HS.out _ hB) ?_
       clear hK K
       try simp only [Act.put, List.setIfInBounds_toArray, List.set_cons_zero, List.set_cons_succ])
    | (refine walk_do (by rfl) (fun K hK => ?_)
       go_simp
       go_at_call 12
       (with_reducible refine (awake_c6 _ (gW.below hB)).mono ?_)
       rintro e w1 ⟨rfl, hb1⟩
       dsimp only
       replace hB := Bel hB hb1
       refine hK _ _ (HS.out _ hB) ?_
       clear hK K
       try simp only [Act.put, List.setIfInBounds_toArray, List.set_cons_zero, List.set_cons_succ])
    | (refine walk_do (by rfl) (fun K hK => ?_)
       go_simp
       go_at_call 12
       (with_reducible refine (awake_c7 _ (gW.below hB)).mono ?_)
       rintro e w1 ⟨rfl, hb1⟩
       dsimp only
       replace hB := Bel hB hb1
       refine hK _ _ (HS.out _ hB) ?_
       clear hK K
       try simp only [Act.put, List.setIfInBounds_toArray, List.set_cons_zero, List.set_cons_succ]))
  rw [walk_nil]
  have hb := Lib.hid (Bel b0 hB)
  clear HS gW b0 hB g
  go_wp2
  go_ret
  exact ⟨rfl, hb.out⟩
end Go.Proofs.YtelbeomfdfggbaaDoor
