/- Law SpanTells: what the package answers is what the document's own answer says, for any two spans and any number. -/
import Derived.Test.YtelbeomfdfggbaaDoorNum04
namespace Go.Proofs.YtelbeomfdfggbaaDoor
open Go.RowKit Go.ChangeShapes

set_option maxHeartbeats 4000000 in
theorem spanTells_walk (a b c d v : Int) (w : World) (g : Gl w) (ha : -2147483648 ≤ a) (ha' : a ≤ 2147483647) (hb : -2147483648 ≤ b) (hb' : b ≤ 2147483647) :
    Calls Tryd.prog 3 #[spV a b, spV c d, .int .i32 v] w (Yes w) := by
  obtain ⟨x, hx⟩ : ∃ x, x = meetF a b c d := ⟨_, rfl⟩
  obtain ⟨y, hy⟩ : ∃ y, y = meetT a b c d := ⟨_, rfl⟩
  obtain ⟨o, ho⟩ : ∃ o, o = meetOk a b c d := ⟨_, rfl⟩
  have m1 := fun w g => Meet_n a b c d w g
  have m2 := fun w => refMeet_n a b c d w
  rw [← hx, ← hy, ← ho] at m1 m2
  have M1 := Lib.hid m1
  have M2 := Lib.hid m2
  clear hx hy ho m1 m2
  have hq := run_spEq
  have hself := spEq_self
  obtain ⟨W, hW⟩ : ∃ W, W = ((w.alloc (.cells #[.int .i32 a, .int .i32 b] 23)).alloc (.cells #[.int .i32 c, .int .i32 d] 23)) := ⟨_, rfl⟩
  have b0 : Below w.heap.size w W := by rw [hW]; (repeat' (first | (with_reducible exact Below.refl _ _) | (with_reducible assumption) | (with_reducible refine Below.alloc ?_ ?_ _) | (with_reducible refine Below.drew ?_) | (with_reducible refine belN ?_ _) | (with_reducible refine Below.setCell ?_ ?_ _) | (with_reducible exact Nat.le_refl _) | (refine Below.size (B := ?_) ?_; rotate_left; assumption) | omega | (simp only [World.size_alloc, World.size_setCell, World.size_drew]; omega) | (simp; omega)))
  have zW : W.heap.size = w.heap.size + 2 := by rw [hW]; simp
  have gW : Gl W := g.below b0
  have gw : w.heap.size ≠ 0 := by have := g.lt; omega
  have j0_0 : W.cell? ⟨w.heap.size, 0, none⟩ = some (.int .i32 a) := by rw [hW]; go_simp
  have j0_1 : W.cell? ⟨w.heap.size, 1, none⟩ = some (.int .i32 b) := by rw [hW]; go_simp
  have j1_0 : W.cell? ⟨w.heap.size + 1, 0, none⟩ = some (.int .i32 c) := by rw [hW]; go_simp
  have j1_1 : W.cell? ⟨w.heap.size + 1, 1, none⟩ = some (.int .i32 d) := by rw [hW]; go_simp
  have HG := Lib.hid (fun (w1 : World) (hb1 : Below W.heap.size W w1) => (⟨(gW.below hb1).c0, (gW.below hb1).c1, (hb1.cell (p := ⟨w.heap.size, 0, none⟩) (by simp only []; omega)).trans j0_0, (hb1.cell (p := ⟨w.heap.size, 1, none⟩) (by simp only []; omega)).trans j0_1, (hb1.cell (p := ⟨w.heap.size + 1, 0, none⟩) (by simp only []; omega)).trans j1_0, (hb1.cell (p := ⟨w.heap.size + 1, 1, none⟩) (by simp only []; omega)).trans j1_1, by have := hb1.size; omega, by have := hb1.size; omega, by have := hb1.size; have := g.lt; omega, by have := hb1.size; have := g.lt; omega⟩ :
    w1.cell? ⟨0, 0, none⟩ = some (.int .i32 1) ∧ w1.cell? ⟨0, 1, none⟩ = some (.int .i32 0) ∧ w1.cell? ⟨w.heap.size, 0, none⟩ = some (.int .i32 a) ∧ w1.cell? ⟨w.heap.size, 1, none⟩ = some (.int .i32 b) ∧ w1.cell? ⟨w.heap.size + 1, 0, none⟩ = some (.int .i32 c) ∧ w1.cell? ⟨w.heap.size + 1, 1, none⟩ = some (.int .i32 d) ∧ w.heap.size < w1.heap.size ∧ w.heap.size + 1 < w1.heap.size ∧ 0 < w1.heap.size ∧ w1.heap.size ≠ 0))
  clear j0_0 j0_1 j1_0 j1_1
  have HS := Lib.hid (fun (w1 : World) (hb1 : Below W.heap.size W w1) => (by obtain ⟨g0, g1, c0_0, c0_1, c1_0, c1_1, s0, s1, gs, gn⟩ := HG.out _ hb1; exact ⟨g0, g1, c0_0, c0_1, c1_0, c1_1⟩ :
    w1.cell? ⟨0, 0, none⟩ = some (.int .i32 1) ∧ w1.cell? ⟨0, 1, none⟩ = some (.int .i32 0) ∧ w1.cell? ⟨w.heap.size, 0, none⟩ = some (.int .i32 a) ∧ w1.cell? ⟨w.heap.size, 1, none⟩ = some (.int .i32 b) ∧ w1.cell? ⟨w.heap.size + 1, 0, none⟩ = some (.int .i32 c) ∧ w1.cell? ⟨w.heap.size + 1, 1, none⟩ = some (.int .i32 d)))
  have hB : Below W.heap.size W W.drew := (Below.refl _ _).drew
  have HW := Lib.hid hW
  clear hW
  clear HS hB
  go_enter Tryd.func3, Tryd.ntmps3
  go_wp2_with fail
  rw [← HW.out]
  refine (M1.out W gW).mono ?_
  rintro e w1 ⟨rfl, hb1⟩
  obtain ⟨g0, g1, c0_0, c0_1, c1_0, c1_1, s0, s1, gs, gn⟩ := HG.out _ hb1
  go_wp2_with fail
  refine (M2.out _).mono ?_
  rintro e w2 ⟨rfl, hb2⟩
  have h1 := Bel b0 hb1
  have x0 : w2.cell? ⟨w1.heap.size, 0, none⟩ = some (.int .i32 x) := (hb2.cell (by simp)).trans (by go_simp)
  have x1 : w2.cell? ⟨w1.heap.size, 1, none⟩ = some (.int .i32 y) := (hb2.cell (by simp)).trans (by go_simp)
  have z2 : w1.heap.size < w2.heap.size := by have := hb2.size; simp at this; omega
  have h2 : Below w.heap.size w w2 := Bel (w := w) (by (repeat' (first | (with_reducible exact Below.refl _ _) | (with_reducible assumption) | (with_reducible refine Below.alloc ?_ ?_ _) | (with_reducible refine Below.drew ?_) | (with_reducible refine belN ?_ _) | (with_reducible refine Below.setCell ?_ ?_ _) | (with_reducible exact Nat.le_refl _) | (refine Below.size (B := ?_) ?_; rotate_left; assumption) | omega | (simp only [World.size_alloc, World.size_setCell, World.size_drew]; omega) | (simp; omega)))) hb2
  have hW2 : Below W.heap.size W w2 := Bel (w := W) (by (repeat' (first | (with_reducible exact Below.refl _ _) | (with_reducible assumption) | (with_reducible refine Below.alloc ?_ ?_ _) | (with_reducible refine Below.drew ?_) | (with_reducible refine belN ?_ _) | (with_reducible refine Below.setCell ?_ ?_ _) | (with_reducible exact Nat.le_refl _) | (refine Below.size (B := ?_) ?_; rotate_left; assumption) | omega | (simp only [World.size_alloc, World.size_setCell, World.size_drew]; omega) | (simp; omega)))) hb2
  go_wp2_with fail
  obtain ⟨V, hV⟩ : ∃ V, V = w2.alloc (.cells #[.int .i32 x, .int .i32 y] 23) := ⟨_, rfl⟩
  have c0 : Below w.heap.size w V := by rw [hV]; (repeat' (first | (with_reducible exact Below.refl _ _) | (with_reducible assumption) | (with_reducible refine Below.alloc ?_ ?_ _) | (with_reducible refine Below.drew ?_) | (with_reducible refine belN ?_ _) | (with_reducible refine Below.setCell ?_ ?_ _) | (with_reducible exact Nat.le_refl _) | (refine Below.size (B := ?_) ?_; rotate_left; assumption) | omega | (simp only [World.size_alloc, World.size_setCell, World.size_drew]; omega) | (simp; omega)))
  have cW : Below W.heap.size W V := by rw [hV]; (repeat' (first | (with_reducible exact Below.refl _ _) | (with_reducible assumption) | (with_reducible refine Below.alloc ?_ ?_ _) | (with_reducible refine Below.drew ?_) | (with_reducible refine belN ?_ _) | (with_reducible refine Below.setCell ?_ ?_ _) | (with_reducible exact Nat.le_refl _) | (refine Below.size (B := ?_) ?_; rotate_left; assumption) | omega | (simp only [World.size_alloc, World.size_setCell, World.size_drew]; omega) | (simp; omega)))
  have c2 : Below w2.heap.size w2 V := by rw [hV]; (repeat' (first | (with_reducible exact Below.refl _ _) | (with_reducible assumption) | (with_reducible refine Below.alloc ?_ ?_ _) | (with_reducible refine Below.drew ?_) | (with_reducible refine belN ?_ _) | (with_reducible refine Below.setCell ?_ ?_ _) | (with_reducible exact Nat.le_refl _) | (refine Below.size (B := ?_) ?_; rotate_left; assumption) | omega | (simp only [World.size_alloc, World.size_setCell, World.size_drew]; omega) | (simp; omega)))
  have y0 : V.cell? ⟨w2.heap.size, 0, none⟩ = some (.int .i32 x) := by rw [hV]; go_simp
  have y1 : V.cell? ⟨w2.heap.size, 1, none⟩ = some (.int .i32 y) := by rw [hV]; go_simp
  have zV : w2.heap.size < V.heap.size := by rw [hV]; simp
  rw [← hV]
  clear hV
  obtain ⟨g0, g1, c0_0, c0_1, c1_0, c1_1, s0, s1, gs, gn⟩ := HG.out _ cW
  have gV : Gl V := g.below c0
  have x0' := (c2.cell (p := ⟨w1.heap.size, 0, none⟩) z2).trans x0
  have x1' := (c2.cell (p := ⟨w1.heap.size, 1, none⟩) z2).trans x1
  have hX : w1.heap.size < V.heap.size := by omega
  generalize w1.heap.size = X at *
  generalize w2.heap.size = Y at *
  have hA : w.heap.size < V.heap.size := by omega
  have hBx : w.heap.size + 1 < V.heap.size := by omega
  have HS := Lib.hid (fun (w1 : World) (hb1 : Below V.heap.size V w1) => (⟨(hb1.cell (p := ⟨w.heap.size, 0, none⟩) hA).trans c0_0, (hb1.cell (p := ⟨w.heap.size, 1, none⟩) hA).trans c0_1, (hb1.cell (p := ⟨w.heap.size + 1, 0, none⟩) hBx).trans c1_0, (hb1.cell (p := ⟨w.heap.size + 1, 1, none⟩) hBx).trans c1_1,
      (hb1.cell (p := ⟨X, 0, none⟩) hX).trans x0', (hb1.cell (p := ⟨X, 1, none⟩) hX).trans x1', (hb1.cell (p := ⟨Y, 0, none⟩) zV).trans y0, (hb1.cell (p := ⟨Y, 1, none⟩) zV).trans y1⟩ : w1.cell? ⟨w.heap.size, 0, none⟩ = some (.int .i32 a) ∧ w1.cell? ⟨w.heap.size, 1, none⟩ = some (.int .i32 b) ∧ w1.cell? ⟨w.heap.size + 1, 0, none⟩ = some (.int .i32 c) ∧ w1.cell? ⟨w.heap.size + 1, 1, none⟩ = some (.int .i32 d) ∧ w1.cell? ⟨X, 0, none⟩ = some (.int .i32 x) ∧ w1.cell? ⟨X, 1, none⟩ = some (.int .i32 y) ∧ w1.cell? ⟨Y, 0, none⟩ = some (.int .i32 x) ∧ w1.cell? ⟨Y, 1, none⟩ = some (.int .i32 y)))
  have hB : Below V.heap.size V V.drew := (Below.refl _ _).drew
  have gW := gV
  clear HG HW M1 M2
  refine region_plan (fun w' => w'.cell? ⟨w.heap.size, 0, none⟩ = some (.int .i32 a) ∧ w'.cell? ⟨w.heap.size, 1, none⟩ = some (.int .i32 b) ∧ w'.cell? ⟨w.heap.size + 1, 0, none⟩ = some (.int .i32 c) ∧ w'.cell? ⟨w.heap.size + 1, 1, none⟩ = some (.int .i32 d) ∧ w'.cell? ⟨X, 0, none⟩ = some (.int .i32 x) ∧ w'.cell? ⟨X, 1, none⟩ = some (.int .i32 y) ∧ w'.cell? ⟨Y, 0, none⟩ = some (.int .i32 x) ∧ w'.cell? ⟨Y, 1, none⟩ = some (.int .i32 y)) [(0, .take), (1, .take), (3, .take), (4, .take), (2, .do_), (5, .do_), (6, .take), (7, .take), (8, .take), (10, .take), (9, .do_), (11, .do_), (12, .take), (13, .take), (14, .take), (15, .take), (16, .take), (17, .take), (18, .take), (19, .take), (20, .take), (21, .take), (22, .take), (23, .take), (24, .take), (25, .take), (26, .take), (28, .take), (29, .take), (27, .do_), (30, .do_), (31, .take), (32, .take), (33, .take), (34, .take), (35, .take), (37, .take), (38, .take), (36, .do_), (39, .do_), (40, .take), (41, .take), (42, .take), (43, .do_), (44, .take), (45, .take)] (by kernel_rfl) rfl (by kernel_rfl) (by kernel_rfl) (fun _ _ _ d _ h => by cases d <;> exact h) (HS.out _ hB) ?_
  simp only [zipOps, List.getElem?_toArray, List.getElem?_cons_zero, List.getElem?_cons_succ]
  repeat (first
    | (refine walk_skip (by rfl) ?_; try simp only [Act.put, List.setIfInBounds_toArray, List.set_cons_zero, List.set_cons_succ])
    | (refine walk_pass (by rfl) (HS.out _ hB) ?_; try simp only [Act.put, List.setIfInBounds_toArray, List.set_cons_zero, List.set_cons_succ])
    | (refine walk_take (v := ?_) (by rfl) (fun w hS => ?_) ?_
       rotate_left
       · obtain ⟨l0, l1, l2, l3, l4, l5, l6, l7⟩ := hS
         go_simp
         try with_reducible rfl
       try simp only [Act.put, List.setIfInBounds_toArray, List.set_cons_zero, List.set_cons_succ])
    | (refine walk_do (by rfl) (fun K hK => ?_)
       go_simp
       go_at_call 10
       (with_reducible refine (span_Has _ _ _ _).mono ?_)
       rintro e w1 ⟨rfl, hb1⟩
       dsimp only
       replace hB := Bel hB hb1
       refine hK _ _ (HS.out _ hB) ?_
       clear hK K
       try simp only [Act.put, List.setIfInBounds_toArray, List.set_cons_zero, List.set_cons_succ])
    | (refine walk_do (by rfl) (fun K hK => ?_)
       go_simp
       go_at_call 11
       (with_reducible refine (ref_Has _ _ _ _).mono ?_)
       rintro e w1 ⟨rfl, hb1⟩
       dsimp only
       replace hB := Bel hB hb1
       refine hK _ _ (HS.out _ hB) ?_
       clear hK K
       try simp only [Act.put, List.setIfInBounds_toArray, List.set_cons_zero, List.set_cons_succ])
    | (refine walk_do (by rfl) (fun K hK => ?_)
       go_simp
       go_at_call 12
       (with_reducible refine (span_Len _ _ _ (gW.below hB) (by omega) (by omega) (by omega) (by omega)).mono ?_)
       rintro e w1 ⟨rfl, hb1⟩
       dsimp only
       replace hB := Bel hB hb1
       refine hK _ _ (HS.out _ hB) ?_
       clear hK K
       try simp only [Act.put, List.setIfInBounds_toArray, List.set_cons_zero, List.set_cons_succ])
    | (refine walk_do (by rfl) (fun K hK => ?_)
       go_simp
       go_at_call 13
       (with_reducible refine (ref_Len _ _ _ (by omega) (by omega) (by omega) (by omega)).mono ?_)
       rintro e w1 ⟨rfl, hb1⟩
       dsimp only
       replace hB := Bel hB hb1
       refine hK _ _ (HS.out _ hB) ?_
       clear hK K
       try simp only [Act.put, List.setIfInBounds_toArray, List.set_cons_zero, List.set_cons_succ])
    | (refine walk_do (by rfl) (fun K hK => ?_)
       go_simp
       go_at_call 14
       (with_reducible refine (span_Covers _ _ _ _ _ (gW.below hB)).mono ?_)
       rintro e w1 ⟨rfl, hb1⟩
       dsimp only
       replace hB := Bel hB hb1
       refine hK _ _ (HS.out _ hB) ?_
       clear hK K
       try simp only [Act.put, List.setIfInBounds_toArray, List.set_cons_zero, List.set_cons_succ])
    | (refine walk_do (by rfl) (fun K hK => ?_)
       go_simp
       go_at_call 15
       (with_reducible refine (ref_Covers _ _ _ _ _).mono ?_)
       rintro e w1 ⟨rfl, hb1⟩
       dsimp only
       replace hB := Bel hB hb1
       refine hK _ _ (HS.out _ hB) ?_
       clear hK K
       try simp only [Act.put, List.setIfInBounds_toArray, List.set_cons_zero, List.set_cons_succ])
    | (refine walk_do (by rfl) (fun K hK => ?_)
       go_simp
       go_at_call 16
       (with_reducible refine (Hull_n _ _ _ _ _ (gW.below hB)).mono ?_)
       rintro e w1 ⟨rfl, hb1⟩
       dsimp only
       replace hB := Bel hB hb1
       refine hK _ _ (HS.out _ hB) ?_
       clear hK K
       try simp only [Act.put, List.setIfInBounds_toArray, List.set_cons_zero, List.set_cons_succ])
    | (refine walk_do (by rfl) (fun K hK => ?_)
       go_simp
       go_at_call 17
       (with_reducible refine (refHull_n _ _ _ _ _).mono ?_)
       rintro e w1 ⟨rfl, hb1⟩
       dsimp only
       replace hB := Bel hB hb1
       refine hK _ _ (HS.out _ hB) ?_
       clear hK K
       try simp only [Act.put, List.setIfInBounds_toArray, List.set_cons_zero, List.set_cons_succ])
    | (refine walk_do (by rfl) (fun K hK => ?_)
       go_simp
       go_at_call 18
       (with_reducible refine (awake_yes _ (gW.below hB)).mono ?_)
       rintro e w1 ⟨rfl, hb1⟩
       dsimp only
       replace hB := Bel hB hb1
       refine hK _ _ (HS.out _ hB) ?_
       clear hK K
       try simp only [Act.put, List.setIfInBounds_toArray, List.set_cons_zero, List.set_cons_succ]))
  rw [walk_nil]
  have hb := Lib.hid (Bel c0 hB)
  clear HS
  go_wp2
  go_ret
  exact ⟨rfl, hb.out⟩

theorem spanTells_calls {H : Type} {enc : TypeId × Value → H} (W : World) (base : Nat) (args : Array Value) (ds : List (DataW H)) (ps : List MemPlace)
    (hval : ∀ (j : Nat) t v, Tryd.f3.params[j]? = some t → args[j]? = some v → Value.okWide Tryd.prog W .any base t v)
    (hA : DataW.TrodAll enc Tryd.prog W 0 (fun _ => true) true Tryd.f3.params.toList args.toList ds ps) (hlt : ∀ x ∈ ps, x.block < W.heap.size) (hL : laidMetH Tryd.prog Rows.spanTellsRow.laid W)
    (hc : ∀ k, (OpenSpec.ofChange Rows.spanTellsSpec).cond = some k → k H ds = true) (hw : (DataW.weightsEach Tryd.prog Tryd.f3.params.toList ds).all (· ≤ reachBytes) = true) :
    Calls Tryd.prog 3 args W (Yes W) := by
  have g := gl_of_laid hL
  rw [Tryd.params3] at hA hval
  obtain ⟨v0, vs0, d0, ds0, p0, q0, hvs0, hds0, hps0, h0, r0⟩ := trodAll_cons hA
  obtain ⟨v1, vs1, d1, ds1, p1, q1, hvs1, hds1, hps1, h1, r1⟩ := trodAll_cons r0
  obtain ⟨v2, vs2, d2, ds2, p2, q2, hvs2, hds2, hps2, h2, r2⟩ := trodAll_cons r1
  obtain ⟨hvsE, _, _⟩ := trodAll_nil r2
  obtain rfl : args = #[v0, v1, v2] := by cases args; simp_all
  obtain ⟨a, b, rfl, ha, ha', hb, hb'⟩ := open_span (hval 0 _ _ rfl rfl) h0
  obtain ⟨c, d, rfl, _, _, _, _⟩ := open_span (hval 1 _ _ rfl rfl) h1
  obtain ⟨v, rfl, _, _⟩ := open_i32 (hval 2 _ _ rfl rfl) h2
  exact spanTells_walk a b c d v W g ha ha' hb hb'

theorem spanTells_met (os : Os) : laidMet Tryd.prog Rows.spanTellsRow.laid ((witW os).forCall (fun _ _ => 0) ⟨#[], #[.agg #[.int .i32 0, .int .i32 0], .agg #[.int .i32 0, .int .i32 0], .int .i32 0], []⟩).memory :=
  laidMet_of_run' 8 (by kernel_rfl) (by kernel_rfl)
theorem spanTells_reads (os : Os) {H : Type} (enc : TypeId × Value → H) : ∃ places, DataW.whole enc Tryd.prog ((witW os).forCall (fun _ _ => 0) ⟨#[], #[.agg #[.int .i32 0, .int .i32 0], .agg #[.int .i32 0, .int .i32 0], .int .i32 0], []⟩).memory Tryd.f3.params.toList Rows.spanTellsSpec.vars false (#[.agg #[.int .i32 0, .int .i32 0], .agg #[.int .i32 0, .int .i32 0], .int .i32 0] : Array Value).toList 8 = some ([.agg [.lit (.int .i32 0), .lit (.int .i32 0)], .agg [.lit (.int .i32 0), .lit (.int .i32 0)], .lit (.int .i32 0)], [], places) :=
  ⟨[], by kernel_rfl⟩
set_option maxRecDepth 100000 in
theorem spanTells_said : Rows.SpanTellsSaid :=
  OpenClaim.holds_of_cond 3 Tryd.f3 rfl rfl rfl rfl rfl rfl rfl ⟨rfl, rfl, rfl, rfl, rfl⟩ rfl rfl rfl rfl rfl (by kernel_rfl) Tryd.func3 (by kernel_rfl)
    (of_decide_eq_true (by kernel_rfl)) (by unfold Func.isWrapper; rw [if_neg (by decide +kernel)]; exact ⟨rfl, rfl⟩)
    (fun os started H enc _ F => by
      rw [OpenClaim.pre_eq_preRow]
      obtain ⟨places, hx⟩ := spanTells_reads os enc
      exact lifted (C := Tryd.checked) (f := 3) (fn := Tryd.f3) (s := Rows.spanTellsSpec) (o := OpenSpec.ofChange Rows.spanTellsSpec) (tb := 4) rfl rfl (by kernel_rfl) started (by kernel_rfl) Tryd.func3
        (witness_row_at (enc := enc) (C := Tryd.checked) false (witW os) #[.agg #[.int .i32 0, .int .i32 0], .agg #[.int .i32 0, .int .i32 0], .int .i32 0] rfl (by kernel_rfl) (by kernel_rfl) (by kernel_rfl)
          (OpenSpec.preRow_of_cond 8 hx (by kernel_rfl) (fun k hk => by cases hk) (by kernel_rfl) (spanTells_met os)))
        (by kernel_rfl) (by kernel_rfl) rfl Tryd.underlying4 rfl (fun ds h => match ds, h with | [_, _, _], _ => rfl) spanTells_calls)
theorem spanTells_plain (f : FuncId) (fn : Func) (hf : Tryd.pinned.checked.prog.funcNamed "grapevine/grapevinelaw04.SpanTells" = some f) (hfn : Tryd.pinned.checked.prog.funcs[f]? = some fn) :
    false = Tryd.pinned.checked.prog.looks [] ∧ ∀ (j : Nat) t, fn.params[j]? = some t → Tryd.pinned.checked.prog.wantsStandIn t = false := by
  obtain rfl : f = 3 := Option.some.inj ((show Tryd.prog.funcNamed "grapevine/grapevinelaw04.SpanTells" = some 3 by kernel_rfl).symm.trans hf) |>.symm
  obtain rfl : fn = Tryd.f3 := (Option.some.inj (Tryd.func3.symm.trans hfn)).symm
  refine ⟨by kernel_rfl, fun j t ht => ?_⟩
  have hall : Tryd.f3.params.toList.all (fun t => !Tryd.prog.wantsStandIn t) = true := by kernel_rfl
  have hm : t ∈ Tryd.f3.params.toList := by simpa using Array.mem_of_getElem? ht
  have hz : Tryd.prog.wantsStandIn t = false := by simpa using List.all_eq_true.1 hall t hm
  exact hz
theorem spanTells_card : Rows.SpanTellsCardSaid :=
  Claim7.holds_tied_plain_at .later [] _ _ _ _ spanTells_said (fun _ h => by cases h) (by kernel_rfl) (fun _ h => by cases h) spanTells_row_tie rfl ⟨rfl, rfl⟩ (by kernel_rfl) rfl spanTells_plain (by kernel_rfl)
end Go.Proofs.YtelbeomfdfggbaaDoor
