/- Package slices, by computing: Grow, Concat of ids. -/
import Derived.Test.YtcjcnlahieddoaaI07e
namespace Go.Proofs.Ytcjcnlahieddoaa
open Go.RowKit

set_option maxRecDepth 100000 in
set_option maxHeartbeats 4000000 in
theorem grow_ok (n : Int) (h0 : 0 < n) (h1 : n ≤ 1099511627776) : FnOK Try.prog GG 45 [] [.v (.slice none 0 0), .v (.int .i64 n)] (fun r _ ext => ∃ cap, n.toNat ≤ cap ∧ r = .s (.n 0) 3 0 0 cap ∧ ext = [.row 26 3 cap []]) := by
  refine fn_new (C := seat) seat_ok [] GG_no (Try.func45) rfl rfl rfl rfl rfl rfl ?_
  repeat' ((try conv => whnf); first
    | (with_reducible refine OKv.go (C := seat) seat_ok ?_)
    | (with_reducible refine BB_true ?_)
    | (with_reducible refine BB_false ?_)
    | (with_reducible refine Both.mk ?_ ?_)
    | (with_reducible refine VS.mk ?_)
    | (refine PSem.go (C := seat) seat_ok ?_)
    | (refine And.intro (PlanOK.mk (by kernel_rfl) rfl (by kernel_rfl) (by kernel_rfl)) ?_)
    | (refine And.intro rfl (Exists.intro _ (And.intro (by first | assumption | rfl) ?_)))
    | (refine And.intro ⟨rfl, by rw [List.length_map]; omega⟩ ?_)
    | (refine And.intro ⟨rfl, rfl, rfl, by simp only [List.length_append, List.length_take, List.length_drop, List.length_map, List.length_cons, List.length_nil] <;> omega⟩ ?_)
    | (refine And.intro (by first | omega | (simp only [IntKind.wrap_i64]; omega) | (dsimp only; omega) | exact ⟨rfl, Nat.le_refl _⟩) ?_)
    | (intro cap' hcap')
    | (refine And.intro (by omega) ?_)
    | (refine BB.mk (fun _h => ?_) (fun _h => ?_) <;> (first | (exact absurd _h (by decide)) | (exfalso; simp only [boolSet] at _h <;> omega) | skip)))
  all_goals (try conv => whnf)
  · exact ⟨⟨[0], .s (.n 0) 3 0 0 cap', [.row 26 3 cap' []], by decide, rfl, ⟨.inl (.inr ⟨_, rfl⟩), trivial⟩, cap', by simp only [IntKind.wrap_i64] at hcap'; omega, rfl, rfl⟩, rfl⟩
  · exfalso
    simp only [decide_eq_false_iff_not, IntKind.wrap_i64] at _h
    omega
set_option maxRecDepth 100000 in
set_option maxHeartbeats 4000000 in
theorem concat_ok (l : List Id_) (x : Id_) (k m e c1 c2 c3 : Nat) (he : k = e) (hk : k + m = l.length) (hl : l.length ≤ 1099511627000) : FnOK Try.prog GG 44 [.box 35 [.s (.o 1) 3 0 k c1, .s (.o 2) 3 0 1 c2, .s (.o 1) 3 e m c3], .ro 3 (l.map idC), .ro 3 [idC x]] [.s (.o 0) 1 0 3 3] (fun r bs' ext => bs' = [.box 35 [.s (.o 1) 3 0 k c1, .s (.o 2) 3 0 1 c2, .s (.o 1) 3 e m c3], .ro 3 (l.map idC), .ro 3 [idC x]] ∧ ∃ cap, r = .s (.n 0) 3 0 (l.length + 1) cap ∧ ext = [.row 26 3 cap ((l.take k ++ x :: l.drop k).map idC)]) := by
  subst he
  refine fn_new2 (C := seat) seat_ok [] GG_no (Try.func44) rfl rfl rfl rfl rfl (fun _ _ => ⟨rfl, .inr (.inl rfl), .inr (.inl rfl), trivial⟩) ?_
  repeat' ((try conv => whnf); first
    | (with_reducible refine OKv.go (C := seat) seat_ok ?_)
    | (with_reducible refine BB_true ?_)
    | (with_reducible refine BB_false ?_)
    | (with_reducible refine Both.mk ?_ ?_)
    | (with_reducible refine VS.mk ?_)
    | (refine PSem.go (C := seat) seat_ok ?_)
    | (refine And.intro (PlanOK.mk (by kernel_rfl) rfl (by kernel_rfl) (by kernel_rfl)) ?_)
    | (refine And.intro rfl (Exists.intro _ (And.intro (by first | assumption | rfl) ?_)))
    | (refine And.intro rfl (vc_sound (C := seat) seat_ok (pl := []) ?_))
    | (refine loop_rounds 4 ?_)
    | (refine And.intro ⟨rfl, by rw [List.length_map]; omega⟩ ?_)
    | (refine And.intro ⟨rfl, rfl, rfl, by simp only [List.length_append, List.length_take, List.length_drop, List.length_map, List.length_cons, List.length_nil] <;> omega⟩ ?_)
    | (refine And.intro (by first | omega | (simp only [IntKind.wrap_i64]; omega) | (dsimp only; omega) | exact ⟨rfl, Nat.le_refl _⟩) ?_)
    | (intro cap' hcap')
    | (refine call_ro [] (grow_ok _ (by simp only [IntKind.wrap_i64]; omega) (by simp only [IntKind.wrap_i64]; omega)) GG_no rfl rfl rfl trivial ?_; rintro r bs' ext ⟨gcap, hgcap, rfl, rfl⟩)
    | (refine And.intro (by omega) ?_)
    | (refine BB.mk (fun _h => ?_) (fun _h => ?_) <;> (first | (exact absurd _h (by decide)) | (exfalso; simp only [wrapSet, boolSet] at _h <;> omega) | skip)))
  all_goals (try conv => whnf)
  refine ⟨⟨[3], .s (.n 0) 3 0 (0 + k + 1 + m) cap', [.row 26 3 cap' _], by decide, rfl, ⟨.inr rfl, trivial⟩, cap', ?_, ?_⟩, rfl⟩
  · rw [show 0 + k + 1 + m = l.length + 1 by omega]
  · refine congrArg (fun z => [SB.row 26 3 cap' z]) ?_
    have hm : (l.drop k).take m = l.drop k := List.take_of_length_le (by rw [List.length_drop]; omega)
    simp [← List.map_drop, ← List.map_take, hm]
end Go.Proofs.Ytcjcnlahieddoaa
