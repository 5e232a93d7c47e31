/- Law PullAny: what is put in whichever order. -/
import Derived.Test.YtcjcnlahieddoaaK18m
namespace Go.Proofs.Ytcjcnlahieddoaa
open Go.RowKit

theorem adds_step {l : List Ask_} (h : Apart l) (h0 : ∀ x ∈ l, x.lf ≠ 0) (hl : l.length ≤ 40) {k : Nat} {y : Ask_} (hy : l[k]? = some y) : addR (addsL 41 (l.take k)) y 41 = (addsL 41 (l.take (k + 1)), 0) := by
  have ha : Apart (l.take k) := List.Pairwise.sublist (List.take_sublist _ _) h
  have h1 := adds_mem (most := 41) (l.take k) [] List.Pairwise.nil ha (fun x hx => h0 x (List.mem_of_mem_take hx)) (fun x _ y hy => absurd hy List.not_mem_nil) (by rw [List.length_take]; simp; omega)
  have hlen : (addsL 41 (l.take k)).length ≤ 40 := by
    have : (addsL 41 (l.take k)).length = _ := h1.2.2
    rw [this, List.length_take]
    simp
    omega
  have e := add_in (a := addsL 41 (l.take k)) (x := y) (most := 41) (h0 y (List.mem_of_getElem? hy)) (fun z hz => by
    have hz := (h1.2.1 z).1 hz
    rcases hz with hz | hz
    · cases hz
    · obtain ⟨j, hj⟩ := List.getElem?_of_mem hz
      rw [List.getElem?_take] at hj
      split at hj
      · rename_i hjk
        obtain ⟨hj1, e1⟩ := List.getElem?_eq_some_iff.1 hj
        obtain ⟨hk1, e2⟩ := List.getElem?_eq_some_iff.1 hy
        have := List.pairwise_iff_getElem.1 h j k hj1 hk1 hjk
        rw [e1, e2] at this
        exact this
      · cases hj) (by omega)
  rw [e, adds_take hy, e]
theorem adds_len {l : List Ask_} (h : Apart l) (h0 : ∀ x ∈ l, x.lf ≠ 0) (hl : l.length ≤ 40) : (addsL 41 l).length = l.length ∧ riseP (addsL 41 l) ∧ ∀ z, z ∈ addsL 41 l ↔ z ∈ l := by
  have h1 := adds_mem (most := 41) l [] List.Pairwise.nil h h0 (fun x _ y hy => absurd hy List.not_mem_nil) (by simp; omega)
  exact ⟨by have := h1.2.2; simpa [addsL] using this, h1.1, fun z => by have := h1.2.1 z; simpa [addsL] using this⟩
set_option maxRecDepth 100000 in
set_option maxHeartbeats 4000000 in
theorem filled_ok (l : List Ask_) (cap : Nat) (hl : l.length ≤ 40) (h : Apart l) (h0 : ∀ x ∈ l, x.lf ≠ 0) : FnOK Try.prog GG 23 [.ro 5 (l.map askC)] [.s (.o 0) 5 0 l.length cap] (fun r _ ext => ∃ c, r = .tup [.s (.n 0) 5 0 (addsL 41 l).length c, .v (.bool true)] ∧ (addsL 41 l).length ≤ c ∧ ext = [.row 28 5 c ((addsL 41 l).map askC)]) := by
  refine fn_newR (C := seat) seat_ok [] GG_no (Try.func23) rfl rfl rfl rfl rfl rfl ?_
  repeat' ((try conv => whnf); first
    | (with_reducible refine OKv.go (C := seat) seat_ok ?_)
    | (with_reducible refine BB_true ?_)
    | (with_reducible refine BB_false ?_)
    | (with_reducible refine Both.mk ?_ ?_)
    | (with_reducible refine VS.mk ?_)
    | (refine PSem.go (C := seat) seat_ok ?_)
    | (refine And.intro (PlanOK.mk (by kernel_rfl) rfl (by kernel_rfl) (by kernel_rfl)) ?_)
    | (refine And.intro rfl (Exists.intro _ (And.intro (by first | assumption | rfl) ?_)))
    | (refine And.intro ⟨rfl, rfl, rfl⟩ ?_)
    | (refine And.intro (by omega) ?_)
    | (refine BB.mk (fun _h => ?_) (fun _h => ?_) <;> (first | (exact absurd _h (by decide)) | (exfalso; simp only [boolSet] at _h <;> omega) | skip)))
  all_goals (try conv => whnf)
  refine loop_rule (α := Nat × Nat) (fun p => p.1 ≤ l.length ∧ (addsL 41 (l.take p.1)).length ≤ p.2) (fun p => { slots := [(4, .s (.n 0) 5 0 (addsL 41 (l.take p.1)).length p.2), (5, .v (.bool true)), (10, .s (.o 0) 5 0 l.length cap), (11, .v (.int .i64 l.length)), (12, .v (.int .i64 p.1))], nt := 31, mem := ⟨GG, [.ro 5 (l.map askC)], [.row 28 5 p.2 ((addsL 41 (l.take p.1)).map askC)]⟩ }) (fun p => l.length - p.1) (0, 0) ⟨Nat.zero_le _, Nat.zero_le _⟩ ⟨⟨[0], (by decide), GG_no, rfl, (SubOld.refl _ rfl), ⟨.inl (.inl ⟨rfl, rfl⟩), trivial⟩, ⟨.inr ⟨_, _, _, rfl, rfl⟩, .inl rfl, .inl rfl, .inl rfl, .inl rfl, trivial⟩⟩, rfl⟩ ?_ (fun _ => rfl)
  rintro ⟨k, c⟩ ⟨hk, hcl⟩
  dsimp only at hk hcl ⊢
  have hal : (addsL 41 (l.take k)).length ≤ 40 := by
    have := (adds_len (l := l.take k) (List.Pairwise.sublist (List.take_sublist _ _) h) (fun x hx => h0 x (List.mem_of_mem_take hx)) (by rw [List.length_take]; omega)).1
    rw [this, List.length_take]; omega
  refine vc_sound (C := seat) seat_ok (pl := []) ?_
  by_cases hlt : k < l.length
  · obtain ⟨y, hy⟩ : ∃ y, l[k]? = some y := ⟨_, List.getElem?_eq_getElem hlt⟩
    have hrow := ask_at hy
    have hst := adds_step h h0 hl hy
    repeat' ((try conv => whnf); first
      | (with_reducible refine OKv.go (C := seat) seat_ok ?_)
      | (with_reducible refine BB_true ?_)
      | (with_reducible refine BB_false ?_)
      | (with_reducible refine Both.mk ?_ ?_)
      | (with_reducible refine VS.mk ?_)
      | (refine PSem.go (C := seat) seat_ok ?_)
      | (refine And.intro (PlanOK.mk (by kernel_rfl) rfl (by kernel_rfl) (by kernel_rfl)) ?_)
      | (refine And.intro rfl (Exists.intro _ (And.intro (by first | assumption | rfl) ?_)))
      | (refine And.intro ⟨rfl, rfl, rfl⟩ ?_)
      | (refine call_ro [.n 0] (addA_is (addsL 41 (l.take k)) c y 41 _ hst hcl (by omega)) GG_no rfl rfl rfl ⟨⟨_, rfl, rfl, rfl⟩, trivial⟩ ?_; rintro r bs' ext ⟨cap', hcap', rfl, rfl⟩)
      | (refine And.intro (by omega) ?_)
      | (refine BB.mk (fun _h => ?_) (fun _h => ?_) <;> (first | (exact absurd _h (by decide)) | (exfalso; simp only [boolSet] at _h <;> omega) | skip)))
    all_goals (try conv => whnf)
    refine ⟨(k + 1, cap'), ⟨by dsimp only; omega, hcap'⟩, by dsimp only; omega, ⟨⟨[2], by decide, GG_no, rfl, SubOld.refl _ rfl, ⟨.inr rfl, trivial⟩, ⟨.inl rfl, .inl rfl, .inl rfl, .inl rfl, .inl (num_eq (by rw [IntKind.wrap_i64]; dsimp only; omega)), trivial⟩⟩, rfl⟩⟩
  · have hs : l.take k = l := List.take_of_length_le (by omega)
    rw [hs] at hcl ⊢
    repeat' ((try conv => whnf); first
      | (with_reducible refine OKv.go (C := seat) seat_ok ?_)
      | (with_reducible refine BB_true ?_)
      | (with_reducible refine BB_false ?_)
      | (with_reducible refine Both.mk ?_ ?_)
      | (with_reducible refine VS.mk ?_)
      | (refine PSem.go (C := seat) seat_ok ?_)
      | (refine And.intro (PlanOK.mk (by kernel_rfl) rfl (by kernel_rfl) (by kernel_rfl)) ?_)
      | (refine And.intro rfl (Exists.intro _ (And.intro (by first | assumption | rfl) ?_)))
      | (refine And.intro ⟨rfl, rfl, rfl⟩ ?_)
      | (refine And.intro (by omega) ?_)
      | (refine BB.mk (fun _h => ?_) (fun _h => ?_) <;> (first | (exact absurd _h (by decide)) | (exfalso; simp only [boolSet] at _h <;> omega) | skip)))
    all_goals (try conv => whnf)
    exact ⟨⟨[0], .tup [.s (.n 0) 5 0 (addsL 41 l).length c, .v (.bool true)], [.row 28 5 c ((addsL 41 l).map askC)], by decide, .inr ⟨_, _, rfl, rfl, .inl rfl, .inl rfl, trivial⟩, ⟨.inr rfl, trivial⟩, c, rfl, hcl, rfl⟩, rfl⟩
end Go.Proofs.Ytcjcnlahieddoaa
