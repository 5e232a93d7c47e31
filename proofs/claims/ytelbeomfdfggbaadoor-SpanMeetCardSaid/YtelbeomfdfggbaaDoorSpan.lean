/- The calls of package span: what each returns, and that nothing that lay in memory has turned. -/
import Derived.Test.YtelbeomfdfggbaaDoorBase
import Derived.Deep.RegionHeld3
import Derived.Deep.QuietTactic
import Derived.BigQuiet
namespace Go.Proofs.YtelbeomfdfggbaaDoor
open Go.RowKit

/-- A span, by value. -/
abbrev spV (a b : Int) : Value := .agg #[.int .i32 a, .int .i32 b]
/-- The package-level variable span.none, as the program's text lays it. -/
structure Gl (w : World) : Prop where
  c0 : w.cell? ⟨0, 0, none⟩ = some (.int .i32 1)
  c1 : w.cell? ⟨0, 1, none⟩ = some (.int .i32 0)
  lt : 0 < w.heap.size
theorem Gl.below {w w' : World} (h : Gl w) (hb : Below w.heap.size w w') : Gl w' :=
  ⟨(hb.cell (p := ⟨0, 0, none⟩) h.lt).trans h.c0, (hb.cell (p := ⟨0, 1, none⟩) h.lt).trans h.c1, Nat.lt_of_lt_of_le h.lt hb.size⟩

theorem results_span {fn : Func} {tmps : Array Value} {w : World} {t b : Nat} {x y : Value} (h : fn.results = #[.cell t 23]) (ha : tmps.getD t undef = .pointer (some ⟨b, 0, none⟩))
    (c0 : w.cell? ⟨b, 0, none⟩ = some x) (c1 : w.cell? ⟨b, 1, none⟩ = some y) : (results fn tmps).run Tryd.prog w = .ok (.agg #[x, y]) w := by
  rw [Array.getD_eq_getD_getElem?] at ha
  simp [results, h, go_sem, ha, c0, c1]
theorem results_span2 {fn : Func} {tmps : Array Value} {w : World} {t u b : Nat} {x y v : Value} (h : fn.results = #[.cell t 23, .tmp u]) (ha : tmps.getD t undef = .pointer (some ⟨b, 0, none⟩)) (hu : tmps.getD u undef = v)
    (c0 : w.cell? ⟨b, 0, none⟩ = some x) (c1 : w.cell? ⟨b, 1, none⟩ = some y) : (results fn tmps).run Tryd.prog w = .ok (.tuple #[.agg #[x, y], v]) w := by
  rw [Array.getD_eq_getD_getElem?] at ha hu
  simp [results, h, go_sem, ha, hu, c0, c1]

/-- Whether two spans are the same. -/
def spEq (a b c d : Int) : Bool := a == c && b == d
theorem spEq_iff {a b c d : Int} : spEq a b c d = true ↔ a = c ∧ b = d := by simp [spEq]
theorem spEq_no {a b c d : Int} (h : ¬ (a = c ∧ b = d)) : spEq a b c d = false := by
  cases e : spEq a b c d
  · rfl
  · exact absurd (spEq_iff.1 e) h
theorem run_spEq (w : World) (a b c d : Int) : (binOp .eql 23 (.agg #[.int .i32 a, .int .i32 b]) (.agg #[.int .i32 c, .int .i32 d])).run Tryd.prog w = .ok (.bool (spEq a b c d)) w := by
  by_cases h1 : a = c <;> by_cases h2 : b = d <;> simp [spEq, go_sem, h1, h2]


/-- What a call of this package ends in. -/
def Ret (v : Value) (w : World) (e : Ending) (w' : World) : Prop := e = .returned v ∧ Below w.heap.size w w'
theorem Gl.drew {w : World} (h : Gl w) : Gl w.drew := ⟨h.c0, h.c1, h.lt⟩
theorem ret_of {v v' : Value} {w w' : World} (h : v = v') (hb : Below w.heap.size w w') : Ret v' w (.returned v) w' := ⟨by rw [h], hb⟩
theorem spV_of {a b c d : Int} (h1 : a = c) (h2 : b = d) : spV a b = spV c d := by rw [h1, h2]
theorem pair_of {v v' : Value} {a b : Bool} (h : v = v') (h2 : a = b) : Value.tuple #[v, .bool a] = .tuple #[v', .bool b] := by rw [h, h2]

set_option maxHeartbeats 400000 in
theorem span_plain_no (a b : Int) (w : World) (g : Gl w) (h : b < a) : Calls Tryd.prog 21 #[spV a b] w (Ret (spV 1 0) w) := by
  obtain ⟨g0, g1, gl⟩ := g
  have gl0 : w.heap.size ≠ 0 := by omega
  go_enter Tryd.func21, Tryd.ntmps21
  go_wp2
  refine bodyPost_ret (results_span rfl rfl (by go_simp; try with_reducible rfl) (by go_simp; try with_reducible rfl)) rfl ?_
  exact ⟨rfl, by (repeat' (first | (with_reducible exact Below.refl _ _) | (with_reducible assumption) | (with_reducible refine Below.alloc ?_ ?_ _) | (with_reducible refine Below.drew ?_) | (with_reducible refine belN ?_ _) | (with_reducible refine Below.setCell ?_ ?_ _) | (with_reducible exact Nat.le_refl _) | (refine Below.size (B := ?_) ?_; rotate_left; assumption) | omega | (simp only [World.size_alloc, World.size_setCell, World.size_drew]; omega) | (simp; omega)))⟩
set_option maxHeartbeats 400000 in
theorem span_plain_yes (a b : Int) (w : World) (h : a ≤ b) : Calls Tryd.prog 21 #[spV a b] w (Ret (spV a b) w) := by
  go_enter Tryd.func21, Tryd.ntmps21
  go_wp2
  refine bodyPost_ret (results_span rfl rfl (by go_simp; try with_reducible rfl) (by go_simp; try with_reducible rfl)) rfl ?_
  exact ⟨rfl, by (repeat' (first | (with_reducible exact Below.refl _ _) | (with_reducible assumption) | (with_reducible refine Below.alloc ?_ ?_ _) | (with_reducible refine Below.drew ?_) | (with_reducible refine belN ?_ _) | (with_reducible refine Below.setCell ?_ ?_ _) | (with_reducible exact Nat.le_refl _) | (refine Below.size (B := ?_) ?_; rotate_left; assumption) | omega | (simp only [World.size_alloc, World.size_setCell, World.size_drew]; omega) | (simp; omega)))⟩

def hasS (a b v : Int) : Bool := decide (a ≤ v ∧ v ≤ b)
set_option maxHeartbeats 400000 in
theorem span_Has (a b v : Int) (w : World) : Calls Tryd.prog 10 #[spV a b, .int .i32 v] w (Ret (.bool (hasS a b v)) w) := by
  by_cases h : a ≤ v
  all_goals (try have h' : v < a := by omega)
  all_goals
    go_enter Tryd.func10, Tryd.ntmps10
    go_wp2
    go_ret
    exact ret_of (congrArg Value.bool (by rw [hasS, Bool.eq_iff_iff]; simp [h]; try omega)) (by (repeat' (first | (with_reducible exact Below.refl _ _) | (with_reducible assumption) | (with_reducible refine Below.alloc ?_ ?_ _) | (with_reducible refine Below.drew ?_) | (with_reducible refine belN ?_ _) | (with_reducible refine Below.setCell ?_ ?_ _) | (with_reducible exact Nat.le_refl _) | (refine Below.size (B := ?_) ?_; rotate_left; assumption) | omega | (simp only [World.size_alloc, World.size_setCell, World.size_drew]; omega) | (simp; omega))))
set_option maxHeartbeats 400000 in
theorem ref_Has (a b v : Int) (w : World) : Calls Tryd.prog 11 #[spV a b, .int .i32 v] w (Ret (.bool (hasS a b v)) w) := by
  by_cases h : a ≤ v
  all_goals (try have h' : v < a := by omega)
  all_goals
    go_enter Tryd.func11, Tryd.ntmps11
    go_wp2
    go_ret
    exact ret_of (congrArg Value.bool (by rw [hasS, Bool.eq_iff_iff]; simp [h]; try omega)) (by (repeat' (first | (with_reducible exact Below.refl _ _) | (with_reducible assumption) | (with_reducible refine Below.alloc ?_ ?_ _) | (with_reducible refine Below.drew ?_) | (with_reducible refine belN ?_ _) | (with_reducible refine Below.setCell ?_ ?_ _) | (with_reducible exact Nat.le_refl _) | (refine Below.size (B := ?_) ?_; rotate_left; assumption) | omega | (simp only [World.size_alloc, World.size_setCell, World.size_drew]; omega) | (simp; omega))))

def lenS (a b : Int) : Int := if b < a then 0 else min (b - a + 1) 4294967295
theorem lenS_eq {a b n : Int} (h : (b < a ∧ n = 0) ∨ (a ≤ b ∧ n = min (b - a + 1) 4294967295)) : n = lenS a b := by
  unfold lenS
  split <;> omega
set_option maxHeartbeats 400000 in
theorem span_Len (a b : Int) (w : World) (g : Gl w) (ha : -2147483648 ≤ a) (ha' : a ≤ 2147483647) (hb : b ≤ 2147483647) (hb' : -2147483648 ≤ b) :
    Calls Tryd.prog 12 #[spV a b] w (Ret (.int .u32 (lenS a b)) w) := by
  obtain ⟨W, hW⟩ : ∃ W, W = w.alloc (.cells #[.int .i32 a, .int .i32 b] 23) := ⟨_, rfl⟩
  have b0 : Below w.heap.size w W := by rw [hW]; (repeat' (first | (with_reducible exact Below.refl _ _) | (with_reducible assumption) | (with_reducible refine Below.alloc ?_ ?_ _) | (with_reducible refine Below.drew ?_) | (with_reducible refine belN ?_ _) | (with_reducible refine Below.setCell ?_ ?_ _) | (with_reducible exact Nat.le_refl _) | (refine Below.size (B := ?_) ?_; rotate_left; assumption) | omega | (simp only [World.size_alloc, World.size_setCell, World.size_drew]; omega) | (simp; omega)))
  have gW : Gl W := g.below b0
  have k0 : W.cell? ⟨w.heap.size, 0, none⟩ = some (.int .i32 a) := by rw [hW]; go_simp
  have k1 : W.cell? ⟨w.heap.size, 1, none⟩ = some (.int .i32 b) := by rw [hW]; go_simp
  have ks : w.heap.size < W.heap.size := by rw [hW]; simp
  have HG := Lib.hid (fun (w1 : World) (hb1 : Below W.heap.size W w1) => (⟨(gW.below hb1).c0, (gW.below hb1).c1, (hb1.cell (p := ⟨w.heap.size, 0, none⟩) ks).trans k0, (hb1.cell (p := ⟨w.heap.size, 1, none⟩) ks).trans k1⟩ :
    w1.cell? ⟨0, 0, none⟩ = some (.int .i32 1) ∧ w1.cell? ⟨0, 1, none⟩ = some (.int .i32 0) ∧ w1.cell? ⟨w.heap.size, 0, none⟩ = some (.int .i32 a) ∧ w1.cell? ⟨w.heap.size, 1, none⟩ = some (.int .i32 b)))
  have hB : Below W.heap.size W W.drew := (Below.refl _ _).drew
  have gl0 : w.heap.size ≠ 0 := by have := g.lt; omega
  have hq := run_spEq
  have q1 : spEq 1 0 1 0 = true := rfl
  have q2 : a ≤ b → spEq a b 1 0 = false := fun _ => spEq_no (by omega)
  by_cases h : b < a
  · clear q2
    go_enter Tryd.func12, Tryd.ntmps12
    go_wp2
    rw [← hW]
    clear hW
    go_region_held3 (fun w' => w'.cell? ⟨0, 0, none⟩ = some (.int .i32 1) ∧ w'.cell? ⟨0, 1, none⟩ = some (.int .i32 0) ∧ w'.cell? ⟨w.heap.size, 0, none⟩ = some (.int .i32 a) ∧ w'.cell? ⟨w.heap.size, 1, none⟩ = some (.int .i32 b))
      (exact HG.out _ hB)
      (first | (go_at_call 21; refine (span_plain_no a b _ (gW.below hB) h).mono ?_; rintro e w1 ⟨rfl, hb1⟩; replace hB := Bel hB hb1))
    go_wp2
    go_ret
    exact ret_of (by simp [lenS, h]) (Bel b0 hB)
  · have h' : a ≤ b := by omega
    simp only [h', true_imp_iff] at q2
    go_enter Tryd.func12, Tryd.ntmps12
    go_wp2
    rw [← hW]
    clear hW
    go_region_held3 (fun w' => w'.cell? ⟨0, 0, none⟩ = some (.int .i32 1) ∧ w'.cell? ⟨0, 1, none⟩ = some (.int .i32 0) ∧ w'.cell? ⟨w.heap.size, 0, none⟩ = some (.int .i32 a) ∧ w'.cell? ⟨w.heap.size, 1, none⟩ = some (.int .i32 b))
      (exact HG.out _ hB)
      (first | (go_at_call 21; refine (span_plain_yes a b _ h').mono ?_; rintro e w1 ⟨rfl, hb1⟩; replace hB := Bel hB hb1))
    go_wp2
    all_goals go_ret
    all_goals exact ret_of (congrArg (Value.int .u32) (lenS_eq (by omega))) (Bel b0 hB)
set_option maxHeartbeats 400000 in
theorem ref_Len (a b : Int) (w : World) (ha : -2147483648 ≤ a) (ha' : a ≤ 2147483647) (hb : b ≤ 2147483647) (hb' : -2147483648 ≤ b) :
    Calls Tryd.prog 13 #[spV a b] w (Ret (.int .u32 (lenS a b)) w) := by
  go_enter Tryd.func13, Tryd.ntmps13
  go_wp2
  all_goals go_ret
  all_goals exact ret_of (congrArg (Value.int .u32) (lenS_eq (by omega))) (by (repeat' (first | (with_reducible exact Below.refl _ _) | (with_reducible assumption) | (with_reducible refine Below.alloc ?_ ?_ _) | (with_reducible refine Below.drew ?_) | (with_reducible refine belN ?_ _) | (with_reducible refine Below.setCell ?_ ?_ _) | (with_reducible exact Nat.le_refl _) | (refine Below.size (B := ?_) ?_; rotate_left; assumption) | omega | (simp only [World.size_alloc, World.size_setCell, World.size_drew]; omega) | (simp; omega))))

/-- What two spans have in common. -/
def meetOk (a b c d : Int) : Bool := decide (max a c ≤ min b d)
def meetV (a b c d : Int) : Value := if max a c ≤ min b d then spV (max a c) (min b d) else spV 0 0
set_option maxHeartbeats 1000000 in
theorem span_Meet (a b c d : Int) (w : World) (g : Gl w) : Calls Tryd.prog 8 #[spV a b, spV c d] w (Ret (.tuple #[meetV a b c d, .bool (meetOk a b c d)]) w) := by
  have hq := run_spEq
  have q1 : spEq 1 0 1 0 = true := rfl
  obtain ⟨W, hW⟩ : ∃ W, W = ((w.alloc (.cells #[.int .i32 a, .int .i32 b] 23)).alloc (.cells #[.int .i32 c, .int .i32 d] 23)).alloc (.cells #[.int .i32 0, .int .i32 0] 23) := ⟨_, rfl⟩
  have b0 : Below w.heap.size w W := by rw [hW]; (repeat' (first | (with_reducible exact Below.refl _ _) | (with_reducible assumption) | (with_reducible refine Below.alloc ?_ ?_ _) | (with_reducible refine Below.drew ?_) | (with_reducible refine belN ?_ _) | (with_reducible refine Below.setCell ?_ ?_ _) | (with_reducible exact Nat.le_refl _) | (refine Below.size (B := ?_) ?_; rotate_left; assumption) | omega | (simp only [World.size_alloc, World.size_setCell, World.size_drew]; omega) | (simp; omega)))
  have gW : Gl W := g.below b0
  have zW : W.heap.size = w.heap.size + 3 := by rw [hW]; simp
  have j0 : W.cell? ⟨w.heap.size + 1 + 1, 0, none⟩ = some (.int .i32 0) := by rw [hW]; go_simp
  have j1 : W.cell? ⟨w.heap.size + 1 + 1, 1, none⟩ = some (.int .i32 0) := by rw [hW]; go_simp
  have j2 : ∀ o, W.frozen? ⟨w.heap.size + 1 + 1, o, none⟩ = false := fun o => by rw [hW]; go_simp
  have HG := Lib.hid (fun (w1 : World) (hb1 : Below W.heap.size W w1) => (⟨(gW.below hb1).c0, (gW.below hb1).c1, (hb1.cell (p := ⟨w.heap.size + 1 + 1, 0, none⟩) (by simp only []; omega)).trans j0, (hb1.cell (p := ⟨w.heap.size + 1 + 1, 1, none⟩) (by simp only []; omega)).trans j1,
      (hb1.frozen (p := ⟨w.heap.size + 1 + 1, 0, none⟩) (by simp only []; omega)).trans (j2 0), (hb1.frozen (p := ⟨w.heap.size + 1 + 1, 1, none⟩) (by simp only []; omega)).trans (j2 1), by have := hb1.size; omega⟩ :
    w1.cell? ⟨0, 0, none⟩ = some (.int .i32 1) ∧ w1.cell? ⟨0, 1, none⟩ = some (.int .i32 0) ∧ w1.cell? ⟨w.heap.size + 1 + 1, 0, none⟩ = some (.int .i32 0) ∧ w1.cell? ⟨w.heap.size + 1 + 1, 1, none⟩ = some (.int .i32 0) ∧
      w1.frozen? ⟨w.heap.size + 1 + 1, 0, none⟩ = false ∧ w1.frozen? ⟨w.heap.size + 1 + 1, 1, none⟩ = false ∧ w.heap.size + 1 + 1 < w1.heap.size))
  have GL := Lib.hid g.lt
  clear j0 j1 j2
  have HW := Lib.hid hW
  clear hW
  by_cases hok : max a c ≤ min b d
  · have q2 : ∀ x y : Int, x ≤ y → spEq x y 1 0 = false := fun _ _ _ => spEq_no (by omega)
    have Q2 := Lib.hid q2
    clear q2
    go_enter Tryd.func8, Tryd.ntmps8
    go_wp2_with fail
    all_goals
      rw [← HW.out]
      refine (span_plain_yes _ _ _ (by omega)).mono ?_
      rintro e w1 ⟨rfl, hb1⟩
      obtain ⟨g0, g1, j0, j1, f0, f1, s1⟩ := HG.out _ hb1
      have g2 : w1.heap.size ≠ 0 := by have := GL.out; omega
      have g3 : 0 < w1.heap.size := by have := GL.out; omega
      have hB := Bel b0 hb1
      first | have q2 := Q2.out a b (by omega) | skip
      first | have q3 := Q2.out c b (by omega) | skip
      first | have q4 := Q2.out a d (by omega) | skip
      first | have q5 := Q2.out c d (by omega) | skip
      go_wp2
      refine bodyPost_ret (results_span2 rfl rfl (by simp; try with_reducible rfl) (by go_simp; try with_reducible rfl) (by go_simp; try with_reducible rfl)) rfl ?_
      exact ret_of (by simp only [meetV, meetOk, if_pos hok, decide_eq_true hok]; exact pair_of (spV_of (by omega) (by omega)) rfl) (by (repeat' (first | (with_reducible exact Below.refl _ _) | (with_reducible assumption) | (with_reducible refine Below.alloc ?_ ?_ _) | (with_reducible refine Below.drew ?_) | (with_reducible refine belN ?_ _) | (with_reducible refine Below.setCell ?_ ?_ _) | (with_reducible exact Nat.le_refl _) | (refine Below.size (B := ?_) ?_; rotate_left; assumption) | omega | (simp only [World.size_alloc, World.size_setCell, World.size_drew]; omega) | (simp; omega))))
  · have hno : min b d < max a c := by omega
    go_enter Tryd.func8, Tryd.ntmps8
    go_wp2_with fail
    all_goals
      rw [← HW.out]
      refine (span_plain_no _ _ _ (gW.below (Below.refl _ _)) (by omega)).mono ?_
      rintro e w1 ⟨rfl, hb1⟩
      obtain ⟨g0, g1, j0, j1, f0, f1, s1⟩ := HG.out _ hb1
      have g2 : w1.heap.size ≠ 0 := by have := GL.out; omega
      have g3 : 0 < w1.heap.size := by have := GL.out; omega
      have hB := Bel b0 hb1
      go_wp2
      refine bodyPost_ret (results_span2 rfl rfl (by simp; try with_reducible rfl) (by go_simp; try with_reducible rfl) (by go_simp; try with_reducible rfl)) rfl ?_
      exact ret_of (by simp only [meetV, meetOk, if_neg (show ¬ max a c ≤ min b d by omega), decide_eq_false (show ¬ max a c ≤ min b d by omega)]) (by (repeat' (first | (with_reducible exact Below.refl _ _) | (with_reducible assumption) | (with_reducible refine Below.alloc ?_ ?_ _) | (with_reducible refine Below.drew ?_) | (with_reducible refine belN ?_ _) | (with_reducible refine Below.setCell ?_ ?_ _) | (with_reducible exact Nat.le_refl _) | (refine Below.size (B := ?_) ?_; rotate_left; assumption) | omega | (simp only [World.size_alloc, World.size_setCell, World.size_drew]; omega) | (simp; omega))))

end Go.Proofs.YtelbeomfdfggbaaDoor
