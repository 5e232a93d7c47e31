/- Descriptors by computing: Search, place, Find. -/
import Derived.Test.YtocappiebmmpgaaD09c
namespace Go.Proofs.Ytocappiebmmpgaa
open Go.RowKit

set_option maxRecDepth 100000 in
set_option maxHeartbeats 4000000 in
theorem search_ok (l : List De) (cap : Nat) (x : Int) (n g : Nat) (hn : n ≤ 1099511627776) (q : Nat → Bool) (hq : ∀ (i : Int) (k : Nat), i = k → k < n → FnOK Try.prog GG g [.box 28 [.s (.o 2) 4 0 l.length cap], .box 5 [.v (.int .u8 x)], .ro 4 (l.map deC)] [.v (.int .i64 i), .p (.o 0) 0 0 0, .p (.o 1) 0 0 0] (fun r bs' ext => bs' = [.box 28 [.s (.o 2) 4 0 l.length cap], .box 5 [.v (.int .u8 x)], .ro 4 (l.map deC)] ∧ r = .v (.bool (q k)) ∧ ext = [])) (hm : ∀ i j, i ≤ j → q i = true → q j = true) : FnOK Try.prog GG 57 [.box 28 [.s (.o 2) 4 0 l.length cap], .box 5 [.v (.int .u8 x)], .ro 4 (l.map deC)] [.v (.int .i64 n), .fn g [.p (.o 0) 0 0 0, .p (.o 1) 0 0 0]] (fun r bs' ext => bs' = [.box 28 [.s (.o 2) 4 0 l.length cap], .box 5 [.v (.int .u8 x)], .ro 4 (l.map deC)] ∧ ∃ k, k ≤ n ∧ (∀ i, i < k → q i = false) ∧ (∀ i, k ≤ i → i < n → q i = true) ∧ r = .v (.int .i64 (k : Int)) ∧ ext = []) := by
  refine fn_new2 (C := seat) seat_ok [] GG_no (Try.func57) rfl rfl rfl rfl rfl (fun _ _ => ⟨rfl, rfl, .inr (.inl rfl), trivial⟩) ?_
  repeat' ((try conv => whnf); first
    | (with_reducible refine OKv.go (C := seat) seat_ok ?_)
    | (with_reducible refine BB_true ?_)
    | (with_reducible refine BB_false ?_)
    | (with_reducible refine Both.mk ?_ ?_)
    | (with_reducible refine VS.mk ?_)
    | (refine PSem.go (C := seat) seat_ok ?_)
    | (refine And.intro (PlanOK.mk (by kernel_rfl) rfl (by kernel_rfl) (by kernel_rfl)) ?_)
    | (refine And.intro rfl (Exists.intro _ (And.intro (by first | assumption | rfl) ?_)))
    | (refine And.intro ⟨rfl, rfl, rfl⟩ ?_)
    | (refine And.intro (by omega) ?_)
    | (refine BB.mk (fun _h => ?_) (fun _h => ?_) <;> (first | (exact absurd _h (by decide)) | (exfalso; simp only [boolSet] at _h <;> omega) | skip)))
  all_goals (try conv => whnf)
  refine loop_rule (α := Nat × Nat) (fun p => p.1 ≤ p.2 ∧ p.2 ≤ n ∧ (∀ i, i < p.1 → q i = false) ∧ (∀ i, p.2 ≤ i → i < n → q i = true)) (fun p => { slots := [(1, .fn g [.p (.o 0) 0 0 0, .p (.o 1) 0 0 0]), (5, .v (.int .i64 (p.1 : Int))), (6, .v (.int .i64 (p.2 : Int)))], nt := 26, mem := ⟨GG, [.box 28 [.s (.o 2) 4 0 l.length cap], .box 5 [.v (.int .u8 x)], .ro 4 (l.map deC)], []⟩ }) (fun p => p.2 - p.1) (0, n) ⟨Nat.zero_le _, Nat.le_refl _, fun i h => absurd h (Nat.not_lt_zero i), fun i h1 h2 => absurd h2 (Nat.not_lt.2 h1)⟩ ⟨⟨[], List.nodup_nil, GG_no, rfl, ⟨rfl, rfl, .inr (.inl rfl), trivial⟩, trivial, ⟨.inl rfl, .inl rfl, .inl rfl, trivial⟩⟩, rfl⟩ ?_ (fun _ => rfl)
  rintro ⟨lo, hi⟩ ⟨h1, h2, h3, h4⟩
  dsimp only at h1 h2 h3 h4 ⊢
  refine vc_sound (C := seat) seat_ok (pl := []) ?_
  by_cases hlt : lo < hi
  · have hmid := mid_eq lo hi (by omega)
    have hml : (lo + hi) / 2 < n := by omega
    cases hb : q ((lo + hi) / 2) with
    | true =>
      repeat' ((try conv => whnf); first
        | (with_reducible refine OKv.go (C := seat) seat_ok ?_)
        | (with_reducible refine BB_true ?_)
        | (with_reducible refine BB_false ?_)
        | (with_reducible refine Both.mk ?_ ?_)
        | (with_reducible refine VS.mk ?_)
        | (refine PSem.go (C := seat) seat_ok ?_)
        | (refine And.intro (PlanOK.mk (by kernel_rfl) rfl (by kernel_rfl) (by kernel_rfl)) ?_)
        | (refine And.intro rfl (Exists.intro _ (And.intro (by first | assumption | rfl) ?_)))
        | (refine And.intro ⟨rfl, rfl, rfl⟩ ?_)
        | (refine call_same [.o 0, .o 1, .o 2] ((hq _ ((lo + hi) / 2) hmid hml).mono (fun r bs' ext h => (⟨h.1, by rw [h.2.1, hb], h.2.2⟩ : bs' = [.box 28 [.s (.o 2) 4 0 l.length cap], .box 5 [.v (.int .u8 x)], .ro 4 (l.map deC)] ∧ r = .v (.bool true) ∧ ext = []))) GG_no rfl rfl rfl ⟨⟨_, rfl, .inr ⟨(fun _ h => by cases h), rfl⟩⟩, ⟨_, rfl, .inr ⟨(fun _ h => by cases h), rfl⟩⟩, ⟨_, rfl, .inl ⟨rfl, rfl⟩⟩, trivial⟩ (by decide) ?_; rintro r bs' ext ⟨rfl, rfl, rfl⟩; refine And.intro rfl ?_)
        | (refine And.intro (by omega) ?_)
        | (refine BB.mk (fun _h => ?_) (fun _h => ?_) <;> (first | (exact absurd _h (by decide)) | (exfalso; simp only [boolSet] at _h <;> omega) | skip)))
      all_goals (try conv => whnf)
      refine ⟨(lo, (lo + hi) / 2), ⟨by dsimp only; omega, by dsimp only; omega, h3, fun i hi' hn' => hm _ i hi' hb⟩, by dsimp only; omega, ⟨⟨[], List.nodup_nil, GG_no, rfl, ⟨rfl, rfl, .inr (.inl rfl), trivial⟩, trivial, ⟨.inl rfl, .inl rfl, .inl (num_eq hmid), trivial⟩⟩, rfl⟩⟩
    | false =>
      repeat' ((try conv => whnf); first
        | (with_reducible refine OKv.go (C := seat) seat_ok ?_)
        | (with_reducible refine BB_true ?_)
        | (with_reducible refine BB_false ?_)
        | (with_reducible refine Both.mk ?_ ?_)
        | (with_reducible refine VS.mk ?_)
        | (refine PSem.go (C := seat) seat_ok ?_)
        | (refine And.intro (PlanOK.mk (by kernel_rfl) rfl (by kernel_rfl) (by kernel_rfl)) ?_)
        | (refine And.intro rfl (Exists.intro _ (And.intro (by first | assumption | rfl) ?_)))
        | (refine And.intro ⟨rfl, rfl, rfl⟩ ?_)
        | (refine call_same [.o 0, .o 1, .o 2] ((hq _ ((lo + hi) / 2) hmid hml).mono (fun r bs' ext h => (⟨h.1, by rw [h.2.1, hb], h.2.2⟩ : bs' = [.box 28 [.s (.o 2) 4 0 l.length cap], .box 5 [.v (.int .u8 x)], .ro 4 (l.map deC)] ∧ r = .v (.bool false) ∧ ext = []))) GG_no rfl rfl rfl ⟨⟨_, rfl, .inr ⟨(fun _ h => by cases h), rfl⟩⟩, ⟨_, rfl, .inr ⟨(fun _ h => by cases h), rfl⟩⟩, ⟨_, rfl, .inl ⟨rfl, rfl⟩⟩, trivial⟩ (by decide) ?_; rintro r bs' ext ⟨rfl, rfl, rfl⟩; refine And.intro rfl ?_)
        | (refine And.intro (by omega) ?_)
        | (refine BB.mk (fun _h => ?_) (fun _h => ?_) <;> (first | (exact absurd _h (by decide)) | (exfalso; simp only [boolSet] at _h <;> omega) | skip)))
      all_goals (try conv => whnf)
      refine ⟨((lo + hi) / 2 + 1, hi), ⟨by dsimp only; omega, h2, fun i hi' => ?_, h4⟩, by dsimp only; omega, ⟨⟨[], List.nodup_nil, GG_no, rfl, ⟨rfl, rfl, .inr (.inl rfl), trivial⟩, trivial, ⟨.inl rfl, .inl (num_eq (by rw [hmid, IntKind.wrap_i64]; dsimp only; omega)), .inl rfl, trivial⟩⟩, rfl⟩⟩
      dsimp only at hi'
      cases hq' : q i with
      | false => rfl
      | true => rw [hm i _ (by omega) hq'] at hb; cases hb
  · obtain rfl : lo = hi := by omega
    repeat' ((try conv => whnf); first
      | (with_reducible refine OKv.go (C := seat) seat_ok ?_)
      | (with_reducible refine BB_true ?_)
      | (with_reducible refine BB_false ?_)
      | (with_reducible refine Both.mk ?_ ?_)
      | (with_reducible refine VS.mk ?_)
      | (refine PSem.go (C := seat) seat_ok ?_)
      | (refine And.intro (PlanOK.mk (by kernel_rfl) rfl (by kernel_rfl) (by kernel_rfl)) ?_)
      | (refine And.intro rfl (Exists.intro _ (And.intro (by first | assumption | rfl) ?_)))
      | (refine And.intro ⟨rfl, rfl, rfl⟩ ?_)
      | (refine And.intro (by omega) ?_)
      | (refine BB.mk (fun _h => ?_) (fun _h => ?_) <;> (first | (exact absurd _h (by decide)) | (exfalso; simp only [boolSet] at _h <;> omega) | skip)))
    all_goals (try conv => whnf)
    exact Fin.mk ⟨⟨[], _, [], by decide, rfl, trivial, lo, h2, h3, h4, rfl, rfl⟩, rfl⟩
end Go.Proofs.Ytocappiebmmpgaa
