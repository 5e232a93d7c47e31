/- Package schema, by computing: Bring. -/
import Derived.Test.YthcofkeiffpiiaaC03c
namespace Go.Proofs.Ythcofkeiffpiiaa
open Go.RowKit

def mixL (l : List Sp_) (v : List Int) (k : Nat) : List Int := l.mapIdx fun i x => if i < k then boundI (v.getD i 0) x.a x.b else v.getD i 0
def bringL (l : List Sp_) (v : List Int) : List Int := l.mapIdx fun i x => boundI (v.getD i 0) x.a x.b
theorem mixL_len (l : List Sp_) (v : List Int) (k : Nat) : (mixL l v k).length = l.length := by simp [mixL]
theorem bringL_len (l : List Sp_) (v : List Int) : (bringL l v).length = l.length := by simp [bringL]
theorem mixL_end (l : List Sp_) (v : List Int) {k : Nat} (hk : l.length ≤ k) : mixL l v k = bringL l v := by
  apply List.ext_getElem?
  intro j
  simp only [mixL, bringL, List.getElem?_mapIdx]
  by_cases hj : j < l.length
  · rw [List.getElem?_eq_getElem hj, Option.map_some, Option.map_some, if_pos (by omega)]
  · rw [List.getElem?_eq_none (by omega)]; rfl
theorem mixL_at {l : List Sp_} {v : List Int} {k : Nat} {y : Sp_} (h : l[k]? = some y) : ((mixL l v k).map iC)[0 + (k : Int).toNat]? = some [.int .i32 (v.getD k 0)] := by
  rw [Nat.zero_add, Int.toNat_natCast, List.getElem?_map, mixL, List.getElem?_mapIdx, h, Option.map_some, if_neg (Nat.lt_irrefl _)]
  rfl
theorem mixL_set {l : List Sp_} {v : List Int} {k : Nat} {y : Sp_} (h : l[k]? = some y) : ((mixL l v k).map iC).set (0 + (k : Int).toNat) [.int .i32 (boundI (v.getD k 0) y.a y.b)] = (mixL l v (k + 1)).map iC := by
  apply List.ext_getElem?
  intro j
  have hk := getElem?_lt h
  rw [Nat.zero_add, Int.toNat_natCast, List.getElem?_set, List.length_map, mixL_len, List.getElem?_map, List.getElem?_map, mixL, mixL, List.getElem?_mapIdx, List.getElem?_mapIdx]
  by_cases hj : k = j
  · subst hj
    rw [if_pos rfl, if_pos hk, h, Option.map_some, if_pos (by omega)]
    rfl
  · rw [if_neg hj]
    cases l[j]? with
    | none => rfl
    | some x =>
      simp only [Option.map_some]
      by_cases h1 : j < k
      · rw [if_pos h1, if_pos (by omega)]
      · rw [if_neg h1, if_neg (by omega)]
theorem mixL_start (l : List Sp_) (v more : List Int) : (List.replicate l.length [Value.int .i32 0]).take 0 ++ ((((v ++ more).map iC).drop 0).take v.length).take l.length ++ (List.replicate l.length [Value.int .i32 0]).drop (0 + min v.length l.length) = (mixL l v 0).map iC := by
  apply List.ext_getElem?
  intro j
  rw [List.take_zero, List.nil_append, List.drop_zero, Nat.zero_add, ← List.map_take, List.take_left, List.getElem?_map, mixL, List.getElem?_mapIdx]
  by_cases h1 : j < l.length
  · rw [List.getElem?_eq_getElem h1, Option.map_some, Option.map_some, if_neg (Nat.not_lt_zero _)]
    by_cases h2 : j < v.length
    · rw [List.getElem?_append_left (by rw [List.length_take, List.length_map]; omega), List.getElem?_take, if_pos h1, List.getElem?_map, List.getElem?_eq_getElem h2]
      simp [h2, iC]
    · rw [List.getElem?_append_right (by rw [List.length_take, List.length_map]; omega), List.getElem?_drop, List.length_take, List.length_map]
      rw [List.getElem?_replicate, if_pos (by omega)]
      simp [h2, iC]
  · have h3 : l[j]? = none := List.getElem?_eq_none (by omega)
    rw [h3]
    exact List.getElem?_eq_none (by rw [List.length_append, List.length_drop, List.length_take, List.length_map, List.length_replicate]; omega)
set_option maxRecDepth 100000 in
set_option maxHeartbeats 4000000 in
theorem bring_p (l : List Sp_) (v more : List Int) (c1 c2 : Nat) (hl : l.length ≤ 1099511627776) : FnOK Try.prog GG 18 [.ro 2 (l.map spC), .ro 1 ((v ++ more).map iC)] [.s (.o 0) 2 0 l.length c1, .s (.o 1) 1 0 v.length c2] (fun r _ ext => ∃ cap', l.length ≤ cap' ∧ r = .s (.n 0) 1 0 (bringL l v).length cap' ∧ ext = [.row 21 1 cap' ((bringL l v).map iC)]) := by
  refine fn_new (C := seat) seat_ok [(6, (.of [(0, .take), (1, .take), (2, .take), (3, .take), (4, .take), (5, .take), (6, .take), (7, .take), (8, .take), (9, .take), (10, .do_), (11, .take), (12, .last)]))] GG_no (Try.func18) rfl rfl rfl rfl rfl rfl ?_
  repeat' ((try conv => whnf); first
    | (with_reducible refine BB_true ?_)
    | (with_reducible refine BB_false ?_)
    | (with_reducible refine Both.mk ?_ ?_)
    | (with_reducible refine VS.mk ?_)
    | (refine PSem.go (C := seat) seat_ok ?_)
    | (refine And.intro (PlanOK.mk (by kernel_rfl) rfl (by kernel_rfl) (by kernel_rfl)) ?_)
    | (refine And.intro rfl (Exists.intro _ (And.intro (by first | assumption | rfl) ?_)))
    | (refine And.intro ⟨rfl, rfl, rfl⟩ ?_)
    | (refine And.intro ⟨rfl, by first | (rw [List.length_map, List.length_append]; omega) | (rw [List.length_replicate]; show 0 + _ ≤ _; omega)⟩ ?_)
    | (refine And.intro (by first | omega | (dsimp only; omega)) ?_)
    | (refine And.intro (by omega) ?_)
    | (refine BB.mk (fun _h => ?_) (fun _h => ?_) <;> (first | (exact absurd _h (by decide)) | (exfalso; simp only [boolSet] at _h <;> omega) | skip)))
  all_goals (try conv => whnf)
  refine loop_rule (α := Nat) (fun k => k ≤ l.length) (fun k => { slots := [(5, .s (.n 0) 1 0 l.length l.length), (14, .s (.o 0) 2 0 l.length c1), (15, .v (.int .i64 l.length)), (16, .v (.int .i64 k))], nt := 35, mem := ⟨GG, [.ro 2 (l.map spC), .ro 1 ((v ++ more).map iC)], [.row 21 1 l.length ((mixL l v k).map iC)]⟩ }) (fun k => l.length - k) 0 (Nat.zero_le _) ⟨⟨[0], (by decide), GG_no, rfl, (SubOld.refl _ rfl), ⟨.inr (congrArg (fun z => some (SB.row 21 1 l.length z)) (mixL_start l v more)), trivial⟩, ⟨.inl rfl, .inl rfl, .inl rfl, .inl rfl, trivial⟩⟩, rfl⟩ ?_ (fun _ => rfl)
  rintro k hk
  have hml := mixL_len l v k
  refine vc_sound (C := seat) seat_ok (pl := [(6, (.of [(0, .take), (1, .take), (2, .take), (3, .take), (4, .take), (5, .take), (6, .take), (7, .take), (8, .take), (9, .take), (10, .do_), (11, .take), (12, .last)]))]) ?_
  by_cases hlt : k < l.length
  · obtain ⟨y, hy⟩ : ∃ y, l[k]? = some y := ⟨_, List.getElem?_eq_getElem hlt⟩
    have hrow := sp_at0 hy
    have hrow1 := mixL_at (v := v) hy
    repeat' ((try conv => whnf); first
      | (with_reducible refine BB_true ?_)
      | (with_reducible refine BB_false ?_)
      | (with_reducible refine Both.mk ?_ ?_)
      | (with_reducible refine VS.mk ?_)
      | (refine PSem.go (C := seat) seat_ok ?_)
      | (refine And.intro (PlanOK.mk (by kernel_rfl) rfl (by kernel_rfl) (by kernel_rfl)) ?_)
      | (refine And.intro rfl (Exists.intro _ (And.intro (by first | assumption | rfl) ?_)))
      | (refine And.intro ⟨rfl, rfl, rfl⟩ ?_)
      | (refine call_ro [] (bound_ok _ _ _) GG_no rfl rfl rfl trivial ?_; rintro r bs' ext ⟨rfl, rfl⟩)
      | (refine And.intro (by omega) ?_)
      | (refine BB.mk (fun _h => ?_) (fun _h => ?_) <;> (first | (exact absurd _h (by decide)) | (exfalso; simp only [boolSet] at _h <;> omega) | skip)))
    all_goals (try conv => whnf)
    refine ⟨k + 1, by omega, by omega, ⟨⟨[0], by decide, GG_no, rfl, SubOld.refl _ rfl, ⟨.inr (congrArg (fun z => some (SB.row 21 1 l.length z)) (mixL_set hy)), trivial⟩, ⟨.inl rfl, .inl rfl, .inl rfl, .inl (num_eq (by rw [IntKind.wrap_i64]; omega)), trivial⟩⟩, rfl⟩⟩
  · have he := mixL_end l v (show l.length ≤ k by omega)
    rw [he]
    repeat' ((try conv => whnf); first
      | (with_reducible refine BB_true ?_)
      | (with_reducible refine BB_false ?_)
      | (with_reducible refine Both.mk ?_ ?_)
      | (with_reducible refine VS.mk ?_)
      | (refine PSem.go (C := seat) seat_ok ?_)
      | (refine And.intro (PlanOK.mk (by kernel_rfl) rfl (by kernel_rfl) (by kernel_rfl)) ?_)
      | (refine And.intro rfl (Exists.intro _ (And.intro (by first | assumption | rfl) ?_)))
      | (refine And.intro ⟨rfl, rfl, rfl⟩ ?_)
      | (refine And.intro (by omega) ?_)
      | (refine BB.mk (fun _h => ?_) (fun _h => ?_) <;> (first | (exact absurd _h (by decide)) | (exfalso; simp only [boolSet] at _h <;> omega) | skip)))
    all_goals (try conv => whnf)
    refine ⟨⟨[0], .s (.n 0) 1 0 l.length l.length, [.row 21 1 l.length ((bringL l v).map iC)], by decide, rfl, ⟨.inr rfl, trivial⟩, l.length, Nat.le_refl _, ?_, rfl⟩, rfl⟩
    rw [bringL_len]
theorem bring_take {l : List Sp_} {v : List Int} {k : Nat} {y : Sp_} (h : l[k]? = some y) : (bringL l v).take (k + 1) = (bringL l v).take k ++ [boundI (v.getD k 0) y.a y.b] := by
  rw [List.take_add_one]
  congr 1
  rw [bringL, List.getElem?_mapIdx, h]
  rfl
theorem bring_le (l : List Sp_) (v : List Int) (k : Nat) : ((bringL l v).take k).length ≤ k := List.length_take_le _ _
set_option maxRecDepth 100000 in
set_option maxHeartbeats 4000000 in
theorem bring_r (l : List Sp_) (v : List Int) (c1 c2 : Nat) (hl : l.length ≤ 1099511627776) : FnOK Try.prog GG 19 [.ro 2 (l.map spC), .ro 1 (v.map iC)] [.s (.o 0) 2 0 l.length c1, .s (.o 1) 1 0 v.length c2] (fun r _ ext => ∃ cap', l.length ≤ cap' ∧ r = .s (.n 0) 1 0 (bringL l v).length cap' ∧ ext = [.row 21 1 cap' ((bringL l v).map iC)]) := by
  refine fn_newR (C := seat) seat_ok [] GG_no (Try.func19) rfl rfl rfl rfl rfl rfl ?_
  repeat' ((try conv => whnf); first
    | (with_reducible refine BB_true ?_)
    | (with_reducible refine BB_false ?_)
    | (with_reducible refine Both.mk ?_ ?_)
    | (with_reducible refine VS.mk ?_)
    | (refine PSem.go (C := seat) seat_ok ?_)
    | (refine And.intro (PlanOK.mk (by kernel_rfl) rfl (by kernel_rfl) (by kernel_rfl)) ?_)
    | (refine And.intro rfl (Exists.intro _ (And.intro (by first | assumption | rfl) ?_)))
    | (refine And.intro ⟨rfl, rfl, rfl⟩ ?_)
    | (refine And.intro ⟨rfl, rfl, rfl, by rw [List.length_map]⟩ ?_)
    | (refine And.intro (by first | omega | (dsimp only; omega) | exact ⟨rfl, Nat.le_refl _⟩) ?_)
    | (intro cap' hcap')
    | (refine And.intro (by omega) ?_)
    | (refine BB.mk (fun _h => ?_) (fun _h => ?_) <;> (first | (exact absurd _h (by decide)) | (exfalso; simp only [boolSet] at _h <;> omega) | skip)))
  all_goals (try conv => whnf)
  refine loop_rule (α := Nat × Nat) (fun p => p.1 ≤ l.length ∧ ((bringL l v).take p.1).length ≤ p.2) (fun p => { slots := [(0, .s (.o 0) 2 0 l.length c1), (1, .s (.o 1) 1 0 v.length c2), (5, .s (.n 0) 1 0 ((bringL l v).take p.1).length p.2), (6, .v (.int .i64 p.1))], nt := 51, mem := ⟨GG, [.ro 2 (l.map spC), .ro 1 (v.map iC)], [.row 21 1 p.2 (((bringL l v).take p.1).map iC)]⟩ }) (fun p => l.length - p.1) (0, 0) ⟨Nat.zero_le _, Nat.zero_le _⟩ ⟨⟨[0], (by decide), GG_no, rfl, (SubOld.refl _ rfl), ⟨.inl (.inl ⟨rfl, rfl⟩), trivial⟩, ⟨.inl rfl, .inl rfl, .inr ⟨_, _, _, rfl, rfl⟩, .inl rfl, trivial⟩⟩, rfl⟩ ?_ (fun _ => rfl)
  rintro ⟨k, c⟩ ⟨hk, hc⟩
  dsimp only at hk hc ⊢
  have hF := bring_le l v k
  refine vc_sound (C := seat) seat_ok (pl := []) ?_
  by_cases hlt : k < l.length
  · obtain ⟨y, hy⟩ : ∃ y, l[k]? = some y := ⟨_, List.getElem?_eq_getElem hlt⟩
    have hrow := sp_at0 hy
    by_cases hv : k < v.length
    · obtain ⟨z, hz⟩ : ∃ z, v[k]? = some z := ⟨_, List.getElem?_eq_getElem hv⟩
      have hrow1 := i_at0 hz
      repeat' ((try conv => whnf); first
        | (with_reducible refine BB_true ?_)
        | (with_reducible refine BB_false ?_)
        | (with_reducible refine Both.mk ?_ ?_)
        | (with_reducible refine VS.mk ?_)
        | (refine PSem.go (C := seat) seat_ok ?_)
        | (refine And.intro (PlanOK.mk (by kernel_rfl) rfl (by kernel_rfl) (by kernel_rfl)) ?_)
        | (refine And.intro rfl (Exists.intro _ (And.intro (by first | assumption | rfl) ?_)))
        | (refine And.intro ⟨rfl, rfl, rfl⟩ ?_)
        | (refine And.intro ⟨rfl, rfl, rfl, by rw [List.length_map]⟩ ?_)
        | (refine And.intro (by first | omega | (dsimp only; omega) | exact ⟨rfl, Nat.le_refl _⟩) ?_)
        | (intro cap' hcap')
        | (refine And.intro (by omega) ?_)
        | (refine BB.mk (fun _h => ?_) (fun _h => ?_) <;> (first | (exact absurd _h (by decide)) | (exfalso; simp only [boolSet] at _h <;> omega) | skip)))
      all_goals (try conv => whnf)
      all_goals
        refine ⟨(k + 1, cap'), ⟨by dsimp only; omega, ?_⟩, by dsimp only; omega, ⟨⟨[2], by decide, GG_no, rfl, SubOld.refl _ rfl, ?_, ⟨.inl rfl, .inl rfl, .inl ?_, .inl (num_eq (by rw [IntKind.wrap_i64]; dsimp only; omega)), trivial⟩⟩, rfl⟩⟩
        · dsimp only
          rw [bring_take hy]
          simpa using hcap'
        · refine ⟨.inr ?_, trivial⟩
          dsimp only
          rw [bring_take hy, List.map_append]
          refine congrArg (fun z => some (SB.row 21 1 cap' (((bringL l v).take k).map iC ++ [[Value.int .i32 z]]))) ?_
          have hz' : v.getD k 0 = z := by simp [List.getD_eq_getElem?_getD, hz]
          rw [hz']
          simp only [boolSet, boundI] at *
          (repeat' split) <;> omega
        · dsimp only
          rw [bring_take hy, List.length_append]
          rfl
    · have hz : v.getD k 0 = 0 := by simp [hv]
      repeat' ((try conv => whnf); first
        | (with_reducible refine BB_true ?_)
        | (with_reducible refine BB_false ?_)
        | (with_reducible refine Both.mk ?_ ?_)
        | (with_reducible refine VS.mk ?_)
        | (refine PSem.go (C := seat) seat_ok ?_)
        | (refine And.intro (PlanOK.mk (by kernel_rfl) rfl (by kernel_rfl) (by kernel_rfl)) ?_)
        | (refine And.intro rfl (Exists.intro _ (And.intro (by first | assumption | rfl) ?_)))
        | (refine And.intro ⟨rfl, rfl, rfl⟩ ?_)
        | (refine And.intro ⟨rfl, rfl, rfl, by rw [List.length_map]⟩ ?_)
        | (refine And.intro (by first | omega | (dsimp only; omega) | exact ⟨rfl, Nat.le_refl _⟩) ?_)
        | (intro cap' hcap')
        | (refine And.intro (by omega) ?_)
        | (refine BB.mk (fun _h => ?_) (fun _h => ?_) <;> (first | (exact absurd _h (by decide)) | (exfalso; simp only [boolSet] at _h <;> omega) | skip)))
      all_goals (try conv => whnf)
      all_goals
        refine ⟨(k + 1, cap'), ⟨by dsimp only; omega, ?_⟩, by dsimp only; omega, ⟨⟨[2], by decide, GG_no, rfl, SubOld.refl _ rfl, ?_, ⟨.inl rfl, .inl rfl, .inl ?_, .inl (num_eq (by rw [IntKind.wrap_i64]; dsimp only; omega)), trivial⟩⟩, rfl⟩⟩
        · dsimp only
          rw [bring_take hy]
          simpa using hcap'
        · refine ⟨.inr ?_, trivial⟩
          dsimp only
          rw [bring_take hy, List.map_append]
          refine congrArg (fun z => some (SB.row 21 1 cap' (((bringL l v).take k).map iC ++ [[Value.int .i32 z]]))) ?_
          rw [hz]
          simp only [boolSet, boundI] at *
          (repeat' split) <;> omega
        · dsimp only
          rw [bring_take hy, List.length_append]
          rfl
  · have hs : (bringL l v).take k = bringL l v := List.take_of_length_le (by rw [bringL_len]; omega)
    rw [hs] at hc hF ⊢
    repeat' ((try conv => whnf); first
      | (with_reducible refine BB_true ?_)
      | (with_reducible refine BB_false ?_)
      | (with_reducible refine Both.mk ?_ ?_)
      | (with_reducible refine VS.mk ?_)
      | (refine PSem.go (C := seat) seat_ok ?_)
      | (refine And.intro (PlanOK.mk (by kernel_rfl) rfl (by kernel_rfl) (by kernel_rfl)) ?_)
      | (refine And.intro rfl (Exists.intro _ (And.intro (by first | assumption | rfl) ?_)))
      | (refine And.intro ⟨rfl, rfl, rfl⟩ ?_)
      | (refine And.intro ⟨rfl, rfl, rfl, by rw [List.length_map]⟩ ?_)
      | (refine And.intro (by first | omega | (dsimp only; omega) | exact ⟨rfl, Nat.le_refl _⟩) ?_)
      | (intro cap' hcap')
      | (refine And.intro (by omega) ?_)
      | (refine BB.mk (fun _h => ?_) (fun _h => ?_) <;> (first | (exact absurd _h (by decide)) | (exfalso; simp only [boolSet] at _h <;> omega) | skip)))
    all_goals (try conv => whnf)
    exact ⟨⟨[0], .s (.n 0) 1 0 (bringL l v).length c, [.row 21 1 c ((bringL l v).map iC)], by decide, .inl (.inl rfl), ⟨.inr rfl, trivial⟩, c, by rw [bringL_len] at hc; exact hc, rfl, rfl⟩, rfl⟩
end Go.Proofs.Ythcofkeiffpiiaa
