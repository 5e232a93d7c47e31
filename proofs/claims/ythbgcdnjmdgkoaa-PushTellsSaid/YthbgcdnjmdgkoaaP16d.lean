/- Package push, by computing: who is picked. -/
import Derived.Test.YthbgcdnjmdgkoaaP16c
namespace Go.Proofs.Ythbgcdnjmdgkoaa
open Go.RowKit

/-- What is left after so many picks, whom the next draw means, and who was picked. -/
def leftL (l d : List Int) : Nat → List Int
  | 0 => l
  | i + 1 => (leftL l d i).eraseIdx (d.getD i 0 % (leftL l d i).length).toNat
def atL (l d : List Int) (i : Nat) : Nat := (d.getD i 0 % (leftL l d i).length).toNat
def outL (l d : List Int) : Nat → List Int
  | 0 => []
  | i + 1 => outL l d i ++ [((leftL l d i)[atL l d i]?).getD 0]
theorem outL_len (l d : List Int) : ∀ i, (outL l d i).length = i
  | 0 => rfl
  | i + 1 => by rw [outL, List.length_append, outL_len l d i]; rfl
theorem atL_lt {l d : List Int} {i : Nat} (h : 0 < (leftL l d i).length) : atL l d i < (leftL l d i).length := by
  have h1 := Int.emod_lt_of_pos (d.getD i 0) (show (0 : Int) < (leftL l d i).length by omega)
  have h2 := Int.emod_nonneg (d.getD i 0) (show ((leftL l d i).length : Int) ≠ 0 by omega)
  simp only [atL]
  omega
theorem leftL_len (l d : List Int) : ∀ i, i ≤ l.length → (leftL l d i).length = l.length - i
  | 0, _ => rfl
  | i + 1, h => by
    have h1 := leftL_len l d i (by omega)
    have h2 : atL l d i < (leftL l d i).length := atL_lt (by omega)
    rw [leftL, List.length_eraseIdx, if_pos (by exact h2), h1]
    omega
def manyN (fan : Int) (n : Nat) : Nat := min (max fan 0).toNat n
def pickL (l d : List Int) (fan : Int) : List Int := outL l d (manyN fan l.length)
theorem pickL_len (l d : List Int) (fan : Int) : (pickL l d fan).length = manyN fan l.length := outL_len _ _ _
theorem u_at {d : List Int} {k : Nat} {y : Int} (h : d[k]? = some y) : (d.map uC)[0 + (k : Int).toNat]? = some [.int .u32 y] := by
  rw [Nat.zero_add, Int.toNat_natCast, List.getElem?_map, h]
  rfl
theorem getD_some {d : List Int} {k : Nat} {y : Int} (h : d[k]? = some y) : d.getD k 0 = y := by simp [h]
theorem getD_none {d : List Int} {k : Nat} (h : d.length ≤ k) : d.getD k 0 = 0 := by simp [h]
theorem draw_at (l d : List Int) (i : Nat) (cap c0 : Nat) (x : Int) (hx : 0 ≤ x) (hx' : x < 4294967296) (hd : d.getD i 0 = x) (h0 : i < l.length) (hc : l.length ≤ cap) (hl : l.length ≤ 1099511627776) : FnOK Try.prog GG 17 [.box 22 [.s (.o 1) 1 0 (leftL l d i).length cap], .row 5 1 c0 ((leftL l d i ++ List.replicate i 0).map bC)] [.v (.int .u32 x), .p (.o 0) 0 0 0] (fun r bs' ext => r = .v (.int .u8 (((leftL l d i)[atL l d i]?).getD 0)) ∧ bs' = [.box 22 [.s (.o 1) 1 0 (leftL l d (i + 1)).length cap], .row 5 1 c0 ((leftL l d (i + 1) ++ List.replicate (i + 1) 0).map bC)] ∧ ext = []) := by
  have h1 := leftL_len l d i (by omega)
  have h2 := leftL_len l d (i + 1) (by omega)
  have h3 := atL_lt (l := l) (d := d) (i := i) (by omega)
  have h4 : (leftL l d i)[atL l d i]? = some (((leftL l d i)[atL l d i]?).getD 0) := by rw [List.getElem?_eq_getElem h3]; rfl
  have h5 := Int.emod_nonneg x (show ((leftL l d i).length : Int) ≠ 0 by omega)
  have h := draw_ok (leftL l d i) (List.replicate i 0) cap c0 x _ (atL l d i) hx hx' (by rw [atL, hd]; omega) h4 (by omega) (by omega)
  have e : (leftL l d (i + 1)).length = (leftL l d i).length - 1 := by omega
  rw [e]
  exact h
set_option maxRecDepth 100000 in
set_option maxHeartbeats 4000000 in
theorem pick_raw (l d : List Int) (fan : Int) (c1 c2 N : Nat) (hN : manyN fan l.length = N) (hc : l.length ≤ c1) (hl : l.length ≤ 1099511627776) (hd : d.length ≤ 1099511627776) (hb : ∀ x ∈ d, 0 ≤ x ∧ x < 4294967296) : FnOK Try.prog GG 12 [.ro 1 (l.map bC), .ro 1 (d.map uC)] [.s (.o 0) 1 0 l.length c1, .v (.int .i64 fan), .s (.o 1) 1 0 d.length c2] (fun r _ ext => ∃ cap', (outL l d N).length ≤ cap' ∧ r = .s (.n 0) 1 0 (outL l d N).length cap' ∧ ext = [.row 5 1 cap' ((outL l d N).map bC)]) := by
  have hNl : N ≤ l.length := by rw [← hN, manyN]; omega
  simp only [manyN] at hN
  refine fn_newR (C := seat) seat_ok [] GG_no (Try.func12) rfl rfl rfl rfl rfl rfl ?_
  repeat' ((try conv => whnf); first
    | (with_reducible refine BB_true ?_)
    | (with_reducible refine BB_false ?_)
    | (with_reducible refine Both.mk ?_ ?_)
    | (with_reducible refine VS.mk ?_)
    | (refine PSem.go (C := seat) seat_ok ?_)
    | (refine And.intro (PlanOK.mk (by kernel_rfl) rfl (by kernel_rfl) (by kernel_rfl)) ?_)
    | (refine And.intro rfl (Exists.intro _ (And.intro (by first | assumption | rfl) ?_)))
    | (refine And.intro ⟨rfl, rfl, rfl⟩ ?_)
    | (refine call_ro [.o 0] (drawer_ok l c1 hc hl) GG_no rfl rfl rfl ⟨⟨_, rfl, rfl, rfl⟩, trivial⟩ ?_; rintro r bs' ext ⟨c0, hc0, rfl, rfl⟩)
    | (refine And.intro (by omega) ?_)
    | (refine BB.mk (fun _h => ?_) (fun _h => ?_) <;> (first | (exact absurd _h (by decide)) | (exfalso; simp only [boolSet] at _h <;> omega) | skip)))
  all_goals (try conv => whnf)
  refine loop_rule (α := Nat × Nat) (fun p => p.1 ≤ N ∧ (outL l d p.1).length ≤ p.2) (fun p => { slots := [(0, .s (.o 0) 1 0 l.length c1), (2, .s (.o 1) 1 0 d.length c2), (7, .fn 17 [.p (.n 0) 0 0 0]), (8, .s (.n 2) 1 0 (outL l d p.1).length p.2), (17, .v (.int .i64 N)), (18, .v (.int .i64 p.1))], nt := 37, mem := ⟨GG, [.ro 1 (l.map bC), .ro 1 (d.map uC)], [.box 22 [.s (.n 1) 1 0 (leftL l d p.1).length c0], .row 5 1 c0 ((leftL l d p.1 ++ List.replicate p.1 0).map bC), .row 5 1 p.2 ((outL l d p.1).map bC)]⟩ }) (fun p => N - p.1) (0, 0) ⟨Nat.zero_le _, Nat.le_refl _⟩ ⟨⟨[0, 1, 2], (by decide), GG_no, rfl, (SubOld.refl _ rfl), ⟨rfl, .inr (by simp [leftL]), .inl (.inl ⟨rfl, rfl⟩), trivial⟩, ⟨.inl rfl, .inl rfl, .inl rfl, .inr ⟨_, _, _, rfl, rfl⟩, .inl (num_eq (by simp only [cond_true, cond_false]; (repeat' split) <;> omega)), .inl rfl, trivial⟩⟩, rfl⟩ ?_ (fun _ => rfl)
  rintro ⟨i, c⟩ ⟨hi, hic⟩
  dsimp only at hi hic ⊢
  have hL := leftL_len l d i (by omega)
  have hO := outL_len l d i
  refine vc_sound (C := seat) seat_ok (pl := []) ?_
  by_cases hlt : i < N
  · by_cases hdr : i < d.length
    · obtain ⟨y, hy⟩ : ∃ y, d[i]? = some y := ⟨_, List.getElem?_eq_getElem hdr⟩
      have hrow := u_at hy
      have hx := hb y (List.mem_of_getElem? hy)
      repeat' ((try conv => whnf); first
        | (with_reducible refine BB_true ?_)
        | (with_reducible refine BB_false ?_)
        | (with_reducible refine Both.mk ?_ ?_)
        | (with_reducible refine VS.mk ?_)
        | (refine PSem.go (C := seat) seat_ok ?_)
        | (refine And.intro (PlanOK.mk (by kernel_rfl) rfl (by kernel_rfl) (by kernel_rfl)) ?_)
        | (refine And.intro rfl (Exists.intro _ (And.intro (by first | assumption | rfl) ?_)))
        | (refine And.intro ⟨rfl, rfl, rfl⟩ ?_)
        | (refine call_own [.n 0, .n 1] (draw_at l d i c0 c0 y hx.1 hx.2 (getD_some hy) (by omega) hc0 hl) GG_no rfl rfl rfl ⟨⟨_, rfl, .inr ⟨(fun _ h => by cases h), rfl⟩⟩, ⟨_, rfl, .inr ⟨(fun _ h => by cases h), rfl⟩⟩, trivial⟩ (by decide) ?_; rintro r bs' ext ⟨rfl, rfl, rfl⟩; refine ⟨⟨rfl, trivial⟩, ?_⟩)
        | (refine And.intro ⟨rfl, rfl, rfl, by rw [List.length_map]⟩ ?_)
        | (refine And.intro (by first | omega | (dsimp only; omega) | exact ⟨rfl, Nat.le_refl _⟩) ?_)
        | (intro cap' hcap')
        | (refine And.intro (by omega) ?_)
        | (refine BB.mk (fun _h => ?_) (fun _h => ?_) <;> (first | (exact absurd _h (by decide)) | (exfalso; simp only [boolSet] at _h <;> omega) | skip)))
      all_goals (try conv => whnf)
      refine ⟨(i + 1, cap'), ⟨by dsimp only; omega, ?_⟩, by dsimp only; omega, ⟨⟨[0, 1, 4], by decide, GG_no, rfl, SubOld.refl _ rfl, ?_, ⟨.inl rfl, .inl rfl, .inl rfl, .inl ?_, .inl rfl, .inl ?_, trivial⟩⟩, rfl⟩⟩
      · dsimp only
        rw [outL_len] at hcap' ⊢
        exact hcap'
      · refine ⟨rfl, .inr rfl, .inr ?_, trivial⟩
        refine congrArg (fun z => some (SB.row 5 1 cap' z)) (?_ : List.map bC (outL l d i) ++ [bC (((leftL l d i)[atL l d i]?).getD 0)] = _)
        dsimp only
        rw [outL, List.map_append]
        rfl
      · dsimp only
        rw [outL, List.length_append]
        rfl
      · exact num_eq (by rw [IntKind.wrap_i64]; dsimp only; omega)
    ·
      repeat' ((try conv => whnf); first
        | (with_reducible refine BB_true ?_)
        | (with_reducible refine BB_false ?_)
        | (with_reducible refine Both.mk ?_ ?_)
        | (with_reducible refine VS.mk ?_)
        | (refine PSem.go (C := seat) seat_ok ?_)
        | (refine And.intro (PlanOK.mk (by kernel_rfl) rfl (by kernel_rfl) (by kernel_rfl)) ?_)
        | (refine And.intro rfl (Exists.intro _ (And.intro (by first | assumption | rfl) ?_)))
        | (refine And.intro ⟨rfl, rfl, rfl⟩ ?_)
        | (refine call_own [.n 0, .n 1] (draw_at l d i c0 c0 0 (by omega) (by omega) (getD_none (by omega)) (by omega) hc0 hl) GG_no rfl rfl rfl ⟨⟨_, rfl, .inr ⟨(fun _ h => by cases h), rfl⟩⟩, ⟨_, rfl, .inr ⟨(fun _ h => by cases h), rfl⟩⟩, trivial⟩ (by decide) ?_; rintro r bs' ext ⟨rfl, rfl, rfl⟩; refine ⟨⟨rfl, trivial⟩, ?_⟩)
        | (refine And.intro ⟨rfl, rfl, rfl, by rw [List.length_map]⟩ ?_)
        | (refine And.intro (by first | omega | (dsimp only; omega) | exact ⟨rfl, Nat.le_refl _⟩) ?_)
        | (intro cap' hcap')
        | (refine And.intro (by omega) ?_)
        | (refine BB.mk (fun _h => ?_) (fun _h => ?_) <;> (first | (exact absurd _h (by decide)) | (exfalso; simp only [boolSet] at _h <;> omega) | skip)))
      all_goals (try conv => whnf)
      refine ⟨(i + 1, cap'), ⟨by dsimp only; omega, ?_⟩, by dsimp only; omega, ⟨⟨[0, 1, 4], by decide, GG_no, rfl, SubOld.refl _ rfl, ?_, ⟨.inl rfl, .inl rfl, .inl rfl, .inl ?_, .inl rfl, .inl ?_, trivial⟩⟩, rfl⟩⟩
      · dsimp only
        rw [outL_len] at hcap' ⊢
        exact hcap'
      · refine ⟨rfl, .inr rfl, .inr ?_, trivial⟩
        refine congrArg (fun z => some (SB.row 5 1 cap' z)) (?_ : List.map bC (outL l d i) ++ [bC (((leftL l d i)[atL l d i]?).getD 0)] = _)
        dsimp only
        rw [outL, List.map_append]
        rfl
      · dsimp only
        rw [outL, List.length_append]
        rfl
      · exact num_eq (by rw [IntKind.wrap_i64]; dsimp only; omega)
  · have he : i = N := by omega
    subst he
    repeat' ((try conv => whnf); first
      | (with_reducible refine BB_true ?_)
      | (with_reducible refine BB_false ?_)
      | (with_reducible refine Both.mk ?_ ?_)
      | (with_reducible refine VS.mk ?_)
      | (refine PSem.go (C := seat) seat_ok ?_)
      | (refine And.intro (PlanOK.mk (by kernel_rfl) rfl (by kernel_rfl) (by kernel_rfl)) ?_)
      | (refine And.intro rfl (Exists.intro _ (And.intro (by first | assumption | rfl) ?_)))
      | (refine And.intro ⟨rfl, rfl, rfl⟩ ?_)
      | (refine And.intro (by omega) ?_)
      | (refine BB.mk (fun _h => ?_) (fun _h => ?_) <;> (first | (exact absurd _h (by decide)) | (exfalso; simp only [boolSet] at _h <;> omega) | skip)))
    all_goals (try conv => whnf)
    exact ⟨⟨[2], .s (.n 0) 1 0 (outL l d i).length c, [.row 5 1 c ((outL l d i).map bC)], by decide, .inl (.inl rfl), ⟨.inr rfl, trivial⟩, c, hic, rfl, rfl⟩, rfl⟩
set_option maxRecDepth 100000 in
set_option maxHeartbeats 4000000 in
theorem pick_nil (l d : List Int) (fan : Int) (c1 c2 N : Nat) (hd0 : d = []) (hN : manyN fan l.length = N) (hc : l.length ≤ c1) (hl : l.length ≤ 1099511627776) (hd : d.length ≤ 1099511627776) (hb : ∀ x ∈ d, 0 ≤ x ∧ x < 4294967296) : FnOK Try.prog GG 12 [.ro 1 (l.map bC)] [.s (.o 0) 1 0 l.length c1, .v (.int .i64 fan), .v (.slice none 0 0)] (fun r _ ext => ∃ cap', (outL l d N).length ≤ cap' ∧ r = .s (.n 0) 1 0 (outL l d N).length cap' ∧ ext = [.row 5 1 cap' ((outL l d N).map bC)]) := by
  have hNl : N ≤ l.length := by rw [← hN, manyN]; omega
  simp only [manyN] at hN
  refine fn_newR (C := seat) seat_ok [] GG_no (Try.func12) rfl rfl rfl rfl rfl rfl ?_
  repeat' ((try conv => whnf); first
    | (with_reducible refine BB_true ?_)
    | (with_reducible refine BB_false ?_)
    | (with_reducible refine Both.mk ?_ ?_)
    | (with_reducible refine VS.mk ?_)
    | (refine PSem.go (C := seat) seat_ok ?_)
    | (refine And.intro (PlanOK.mk (by kernel_rfl) rfl (by kernel_rfl) (by kernel_rfl)) ?_)
    | (refine And.intro rfl (Exists.intro _ (And.intro (by first | assumption | rfl) ?_)))
    | (refine And.intro ⟨rfl, rfl, rfl⟩ ?_)
    | (refine call_ro [.o 0] (drawer_ok l c1 hc hl) GG_no rfl rfl rfl ⟨⟨_, rfl, rfl, rfl⟩, trivial⟩ ?_; rintro r bs' ext ⟨c0, hc0, rfl, rfl⟩)
    | (refine And.intro (by omega) ?_)
    | (refine BB.mk (fun _h => ?_) (fun _h => ?_) <;> (first | (exact absurd _h (by decide)) | (exfalso; simp only [boolSet] at _h <;> omega) | skip)))
  all_goals (try conv => whnf)
  refine loop_rule (α := Nat × Nat) (fun p => p.1 ≤ N ∧ (outL l d p.1).length ≤ p.2) (fun p => { slots := [(0, .s (.o 0) 1 0 l.length c1), (2, .v (.slice none 0 0)), (7, .fn 17 [.p (.n 0) 0 0 0]), (8, .s (.n 2) 1 0 (outL l d p.1).length p.2), (17, .v (.int .i64 N)), (18, .v (.int .i64 p.1))], nt := 37, mem := ⟨GG, [.ro 1 (l.map bC)], [.box 22 [.s (.n 1) 1 0 (leftL l d p.1).length c0], .row 5 1 c0 ((leftL l d p.1 ++ List.replicate p.1 0).map bC), .row 5 1 p.2 ((outL l d p.1).map bC)]⟩ }) (fun p => N - p.1) (0, 0) ⟨Nat.zero_le _, Nat.le_refl _⟩ ⟨⟨[0, 1, 2], (by decide), GG_no, rfl, (SubOld.refl _ rfl), ⟨rfl, .inr (by simp [leftL]), .inl (.inl ⟨rfl, rfl⟩), trivial⟩, ⟨.inl rfl, .inl rfl, .inl rfl, .inr ⟨_, _, _, rfl, rfl⟩, .inl (num_eq (by simp only [cond_true, cond_false]; (repeat' split) <;> omega)), .inl rfl, trivial⟩⟩, rfl⟩ ?_ (fun _ => rfl)
  rintro ⟨i, c⟩ ⟨hi, hic⟩
  dsimp only at hi hic ⊢
  have hL := leftL_len l d i (by omega)
  have hO := outL_len l d i
  refine vc_sound (C := seat) seat_ok (pl := []) ?_
  by_cases hlt : i < N
  · by_cases hdr : i < d.length
    · exfalso; subst hd0; simp at hdr
    ·
      repeat' ((try conv => whnf); first
        | (with_reducible refine BB_true ?_)
        | (with_reducible refine BB_false ?_)
        | (with_reducible refine Both.mk ?_ ?_)
        | (with_reducible refine VS.mk ?_)
        | (refine PSem.go (C := seat) seat_ok ?_)
        | (refine And.intro (PlanOK.mk (by kernel_rfl) rfl (by kernel_rfl) (by kernel_rfl)) ?_)
        | (refine And.intro rfl (Exists.intro _ (And.intro (by first | assumption | rfl) ?_)))
        | (refine And.intro ⟨rfl, rfl, rfl⟩ ?_)
        | (refine call_own [.n 0, .n 1] (draw_at l d i c0 c0 0 (by omega) (by omega) (getD_none (by omega)) (by omega) hc0 hl) GG_no rfl rfl rfl ⟨⟨_, rfl, .inr ⟨(fun _ h => by cases h), rfl⟩⟩, ⟨_, rfl, .inr ⟨(fun _ h => by cases h), rfl⟩⟩, trivial⟩ (by decide) ?_; rintro r bs' ext ⟨rfl, rfl, rfl⟩; refine ⟨⟨rfl, trivial⟩, ?_⟩)
        | (refine And.intro ⟨rfl, rfl, rfl, by rw [List.length_map]⟩ ?_)
        | (refine And.intro (by first | omega | (dsimp only; omega) | exact ⟨rfl, Nat.le_refl _⟩) ?_)
        | (intro cap' hcap')
        | (refine And.intro (by omega) ?_)
        | (refine BB.mk (fun _h => ?_) (fun _h => ?_) <;> (first | (exact absurd _h (by decide)) | (exfalso; simp only [boolSet] at _h <;> omega) | skip)))
      all_goals (try conv => whnf)
      refine ⟨(i + 1, cap'), ⟨by dsimp only; omega, ?_⟩, by dsimp only; omega, ⟨⟨[0, 1, 4], by decide, GG_no, rfl, SubOld.refl _ rfl, ?_, ⟨.inl rfl, .inl rfl, .inl rfl, .inl ?_, .inl rfl, .inl ?_, trivial⟩⟩, rfl⟩⟩
      · dsimp only
        rw [outL_len] at hcap' ⊢
        exact hcap'
      · refine ⟨rfl, .inr rfl, .inr ?_, trivial⟩
        refine congrArg (fun z => some (SB.row 5 1 cap' z)) (?_ : List.map bC (outL l d i) ++ [bC (((leftL l d i)[atL l d i]?).getD 0)] = _)
        dsimp only
        rw [outL, List.map_append]
        rfl
      · dsimp only
        rw [outL, List.length_append]
        rfl
      · exact num_eq (by rw [IntKind.wrap_i64]; dsimp only; omega)
  · have he : i = N := by omega
    subst he
    repeat' ((try conv => whnf); first
      | (with_reducible refine BB_true ?_)
      | (with_reducible refine BB_false ?_)
      | (with_reducible refine Both.mk ?_ ?_)
      | (with_reducible refine VS.mk ?_)
      | (refine PSem.go (C := seat) seat_ok ?_)
      | (refine And.intro (PlanOK.mk (by kernel_rfl) rfl (by kernel_rfl) (by kernel_rfl)) ?_)
      | (refine And.intro rfl (Exists.intro _ (And.intro (by first | assumption | rfl) ?_)))
      | (refine And.intro ⟨rfl, rfl, rfl⟩ ?_)
      | (refine And.intro (by omega) ?_)
      | (refine BB.mk (fun _h => ?_) (fun _h => ?_) <;> (first | (exact absurd _h (by decide)) | (exfalso; simp only [boolSet] at _h <;> omega) | skip)))
    all_goals (try conv => whnf)
    exact ⟨⟨[2], .s (.n 0) 1 0 (outL l d i).length c, [.row 5 1 c ((outL l d i).map bC)], by decide, .inl (.inl rfl), ⟨.inr rfl, trivial⟩, c, hic, rfl, rfl⟩, rfl⟩
end Go.Proofs.Ythbgcdnjmdgkoaa
