/- Package pull, by computing: the reference's Tick. -/
import Derived.Test.YtcjcnlahieddoaaK18f
namespace Go.Proofs.Ytcjcnlahieddoaa
open Go.RowKit

theorem tick_in {l : List Ask_} {y : Ask_} {k : Nat} (hy : l[k]? = some y) (h : 1 < y.lf) : tickL (l.take (k + 1)) = tickL (l.take k) ++ [decA y] ∧ goneL (l.take (k + 1)) = goneL (l.take k) := by
  refine ⟨?_, ?_⟩
  · rw [tickL, keepT, filter_in hy (decide_eq_true h), List.map_append]; rfl
  · rw [goneL, filter_out hy (decide_eq_false (by omega))]; rfl
theorem tick_out {l : List Ask_} {y : Ask_} {k : Nat} (hy : l[k]? = some y) (h : y.lf ≤ 1) : tickL (l.take (k + 1)) = tickL (l.take k) ∧ goneL (l.take (k + 1)) = goneL (l.take k) ++ [y.id] := by
  refine ⟨?_, ?_⟩
  · rw [tickL, keepT, filter_out hy (decide_eq_false (by omega))]; rfl
  · rw [goneL, filter_in hy (decide_eq_true h), idsL, List.map_append]; rfl
theorem tick_le (l : List Ask_) (k : Nat) : (tickL (l.take k)).length ≤ k ∧ (goneL (l.take k)).length ≤ k := by
  rw [tickL, List.length_map, goneL, idsL_len]
  exact ⟨filter_le _ l k, filter_le _ l k⟩
set_option maxRecDepth 100000 in
set_option maxHeartbeats 4000000 in
theorem tickR_ok (l : List Ask_) (cap : Nat) (hl : l.length ≤ 1099511620000) (hok : ∀ y ∈ l, y.ok) : FnOK Try.prog GG 16 [.ro 5 (l.map askC)] [.s (.o 0) 5 0 l.length cap] (fun r _ ext => ∃ c1 c2, (tickL l).length ≤ c1 ∧ (goneL l).length ≤ c2 ∧ r = .tup [.s (.n 0) 5 0 (tickL l).length c1, .s (.n 1) 3 0 (goneL l).length c2] ∧ ext = [.row 28 5 c1 ((tickL l).map askC), .row 26 3 c2 ((goneL l).map idC)]) := by
  refine fn_newR (C := seat) seat_ok [] GG_no (Try.func16) rfl rfl rfl rfl rfl rfl ?_
  repeat' ((try conv => whnf); first
    | (with_reducible refine OKv.go (C := seat) seat_ok ?_)
    | (with_reducible refine BB_true ?_)
    | (with_reducible refine BB_false ?_)
    | (with_reducible refine Both.mk ?_ ?_)
    | (with_reducible refine VS.mk ?_)
    | (refine PSem.go (C := seat) seat_ok ?_)
    | (refine And.intro (PlanOK.mk (by kernel_rfl) rfl (by kernel_rfl) (by kernel_rfl)) ?_)
    | (refine And.intro rfl (Exists.intro _ (And.intro (by first | assumption | rfl) ?_)))
    | (refine And.intro ⟨rfl, rfl, rfl⟩ ?_)
    | (refine And.intro (by omega) ?_)
    | (refine BB.mk (fun _h => ?_) (fun _h => ?_) <;> (first | (exact absurd _h (by decide)) | (exfalso; simp only [boolSet] at _h <;> omega) | skip)))
  all_goals (try conv => whnf)
  refine loop_rule (α := Nat × Nat × Nat) (fun p => p.1 ≤ l.length ∧ (tickL (l.take p.1)).length ≤ p.2.1 ∧ (goneL (l.take p.1)).length ≤ p.2.2) (fun p => { slots := [(0, .s (.o 0) 5 0 l.length cap), (4, .s (.n 0) 5 0 (tickL (l.take p.1)).length p.2.1), (5, .s (.n 1) 3 0 (goneL (l.take p.1)).length p.2.2), (6, .v (.int .i64 p.1))], nt := 36, mem := ⟨GG, [.ro 5 (l.map askC)], [.row 28 5 p.2.1 ((tickL (l.take p.1)).map askC), .row 26 3 p.2.2 ((goneL (l.take p.1)).map idC)]⟩ }) (fun p => l.length - p.1) (0, 0, 0) ⟨Nat.zero_le _, Nat.zero_le _, Nat.zero_le _⟩ ⟨⟨[0, 1], (by decide), GG_no, rfl, (SubOld.refl _ rfl), ⟨.inl (.inl ⟨rfl, rfl⟩), .inl (.inl ⟨rfl, rfl⟩), trivial⟩, ⟨.inl rfl, .inr ⟨_, _, _, rfl, rfl⟩, .inr ⟨_, _, _, rfl, rfl⟩, .inl rfl, trivial⟩⟩, rfl⟩ ?_ (fun _ => rfl)
  rintro ⟨k, c1, c2⟩ ⟨hk, h1, h2⟩
  dsimp only at hk h1 h2 ⊢
  obtain ⟨hF1, hF2⟩ := tick_le l k
  refine vc_sound (C := seat) seat_ok (pl := []) ?_
  by_cases hlt : k < l.length
  · obtain ⟨y, hy⟩ : ∃ y, l[k]? = some y := ⟨_, List.getElem?_eq_getElem hlt⟩
    have hrow := ask_at hy
    have hyl := hok y (List.mem_of_getElem? hy)
    by_cases hlf : y.lf ≤ 1
    · obtain ⟨e1, e2⟩ := tick_out hy hlf
      repeat' ((try conv => whnf); first
        | (with_reducible refine OKv.go (C := seat) seat_ok ?_)
        | (with_reducible refine BB_true ?_)
        | (with_reducible refine BB_false ?_)
        | (with_reducible refine Both.mk ?_ ?_)
        | (with_reducible refine VS.mk ?_)
        | (refine PSem.go (C := seat) seat_ok ?_)
        | (refine And.intro (PlanOK.mk (by kernel_rfl) rfl (by kernel_rfl) (by kernel_rfl)) ?_)
        | (refine And.intro rfl (Exists.intro _ (And.intro (by first | assumption | rfl) ?_)))
        | (refine And.intro ⟨rfl, rfl, rfl⟩ ?_)
        | (refine And.intro ⟨rfl, rfl, rfl, by rw [List.length_map]⟩ ?_)
        | (refine And.intro ⟨rfl, by rw [List.length_map]; omega⟩ ?_)
        | (refine And.intro (by first | omega | (dsimp only; omega) | exact ⟨rfl, Nat.le_refl _⟩) ?_)
        | (intro cap' hcap')
        | (refine And.intro (by omega) ?_)
        | (refine BB.mk (fun _h => ?_) (fun _h => ?_) <;> (first | (exact absurd _h (by decide)) | (exfalso; simp only [boolSet] at _h <;> omega) | skip)))
      all_goals (try conv => whnf)
      refine ⟨(k + 1, c1, cap'), ⟨by dsimp only; omega, ?_, ?_⟩, by dsimp only; omega, ⟨⟨[0, 4], by decide, GG_no, rfl, SubOld.refl _ rfl, ⟨.inr ?_, .inr ?_, trivial⟩, ⟨.inl rfl, .inl ?_, .inl ?_, .inl (num_eq (by rw [IntKind.wrap_i64]; dsimp only; omega)), trivial⟩⟩, rfl⟩⟩
      · dsimp only; rw [e1]; exact h1
      · dsimp only; rw [e2, List.length_append]; simpa using hcap'
      · dsimp only; rw [e1]; rfl
      · dsimp only; rw [e2, List.map_append]; rfl
      · dsimp only; rw [e1]; rfl
      · dsimp only; rw [e2, List.length_append]; rfl
    · obtain ⟨e1, e2⟩ := tick_in hy (show 1 < y.lf by omega)
      have ew : IntKind.u8.wrap (y.lf - 1) = y.lf - 1 := by rw [IntKind.wrap_u8]; have := hyl.l1; omega
      repeat' ((try conv => whnf); first
        | (with_reducible refine OKv.go (C := seat) seat_ok ?_)
        | (with_reducible refine BB_true ?_)
        | (with_reducible refine BB_false ?_)
        | (with_reducible refine Both.mk ?_ ?_)
        | (with_reducible refine VS.mk ?_)
        | (refine PSem.go (C := seat) seat_ok ?_)
        | (refine And.intro (PlanOK.mk (by kernel_rfl) rfl (by kernel_rfl) (by kernel_rfl)) ?_)
        | (refine And.intro rfl (Exists.intro _ (And.intro (by first | assumption | rfl) ?_)))
        | (refine And.intro ⟨rfl, rfl, rfl⟩ ?_)
        | (refine And.intro ⟨rfl, rfl, rfl, by rw [List.length_map]⟩ ?_)
        | (refine And.intro ⟨rfl, by rw [List.length_map]; omega⟩ ?_)
        | (refine And.intro (by first | omega | (dsimp only; omega) | exact ⟨rfl, Nat.le_refl _⟩) ?_)
        | (intro cap' hcap')
        | (refine And.intro (by omega) ?_)
        | (refine BB.mk (fun _h => ?_) (fun _h => ?_) <;> (first | (exact absurd _h (by decide)) | (exfalso; simp only [boolSet] at _h <;> omega) | skip)))
      all_goals (try conv => whnf)
      refine ⟨(k + 1, cap', c2), ⟨by dsimp only; omega, ?_, ?_⟩, by dsimp only; omega, ⟨⟨[4, 1], by decide, GG_no, rfl, SubOld.refl _ rfl, ⟨.inr ?_, .inr ?_, trivial⟩, ⟨.inl rfl, .inl ?_, .inl ?_, .inl (num_eq (by rw [IntKind.wrap_i64]; dsimp only; omega)), trivial⟩⟩, rfl⟩⟩
      · dsimp only; rw [e1, List.length_append]; simpa using hcap'
      · dsimp only; rw [e2]; exact h2
      · dsimp only; rw [e1, List.map_append]
        show some (SB.row 28 5 cap' (List.map askC (tickL (List.take k l)) ++ [[.int .u8 y.id.n, .int .u16 y.id.i, .int .u32 y.id.s, .int .u8 y.fr, .int .u8 (IntKind.u8.wrap (y.lf - 1))]])) = _
        rw [ew]; rfl
      · dsimp only; rw [e2]; rfl
      · dsimp only; rw [e1, List.length_append]; rfl
      · dsimp only; rw [e2]; rfl
  · have hs : l.take k = l := List.take_of_length_le (by omega)
    rw [hs] at h1 h2 ⊢
    repeat' ((try conv => whnf); first
      | (with_reducible refine OKv.go (C := seat) seat_ok ?_)
      | (with_reducible refine BB_true ?_)
      | (with_reducible refine BB_false ?_)
      | (with_reducible refine Both.mk ?_ ?_)
      | (with_reducible refine VS.mk ?_)
      | (refine PSem.go (C := seat) seat_ok ?_)
      | (refine And.intro (PlanOK.mk (by kernel_rfl) rfl (by kernel_rfl) (by kernel_rfl)) ?_)
      | (refine And.intro rfl (Exists.intro _ (And.intro (by first | assumption | rfl) ?_)))
      | (refine And.intro ⟨rfl, rfl, rfl⟩ ?_)
      | (refine And.intro (by omega) ?_)
      | (refine BB.mk (fun _h => ?_) (fun _h => ?_) <;> (first | (exact absurd _h (by decide)) | (exfalso; simp only [boolSet] at _h <;> omega) | skip)))
    all_goals (try conv => whnf)
    exact ⟨⟨[0, 1], .tup [.s (.n 0) 5 0 (tickL l).length c1, .s (.n 1) 3 0 (goneL l).length c2], [.row 28 5 c1 ((tickL l).map askC), .row 26 3 c2 ((goneL l).map idC)], by decide, .inr ⟨_, _, rfl, rfl, .inl rfl, .inl rfl, trivial⟩, ⟨.inr rfl, .inr rfl, trivial⟩, c1, c2, h1, h2, rfl, rfl⟩, rfl⟩
end Go.Proofs.Ytcjcnlahieddoaa
