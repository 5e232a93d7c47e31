/- The document's own answer for what two spans have in common. -/
import Derived.Test.YtelbeomfdfggbaaDoorSpan
namespace Go.Proofs.YtelbeomfdfggbaaDoor
open Go.RowKit

set_option maxHeartbeats 1000000 in
theorem ref_Meet (a b c d : Int) (w : World) : Calls Tryd.prog 9 #[spV a b, spV c d] w (Ret (.tuple #[meetV a b c d, .bool (meetOk a b c d)]) w) := by
  have fin : ∀ x y : Int, a ≤ x → c ≤ x → (x = a ∨ x = c) → y ≤ b → y ≤ d → (y = b ∨ y = d) → x ≤ y → Value.tuple #[spV x y, .bool true] = .tuple #[meetV a b c d, .bool (meetOk a b c d)] := by
    intro x y h1 h2 h3 h4 h5 h6 h7
    have e1 : x = max a c := by omega
    have e2 : y = min b d := by omega
    have h : max a c ≤ min b d := by omega
    simp only [meetV, meetOk, if_pos h, decide_eq_true h, e1, e2]
  have fin' : (b < a ∨ d < c ∨ b < c ∨ d < a) → Value.tuple #[spV 0 0, .bool false] = .tuple #[meetV a b c d, .bool (meetOk a b c d)] := by
    intro h
    have h : ¬ max a c ≤ min b d := by omega
    simp only [meetV, meetOk, if_neg h, decide_eq_false h]
  have F := Lib.hid fin
  have F' := Lib.hid fin'
  clear fin fin'
  by_cases h1 : b < a
  · go_enter Tryd.func9, Tryd.ntmps9
    go_wp2
    all_goals refine bodyPost_ret (results_span2 rfl rfl (by simp; try with_reducible rfl) (by go_simp; try with_reducible rfl) (by go_simp; try with_reducible rfl)) rfl ?_
    all_goals exact ret_of (F'.out (by omega)) (by (repeat' (first | (with_reducible exact Below.refl _ _) | (with_reducible assumption) | (with_reducible refine Below.alloc ?_ ?_ _) | (with_reducible refine Below.drew ?_) | (with_reducible refine belN ?_ _) | (with_reducible refine Below.setCell ?_ ?_ _) | (with_reducible exact Nat.le_refl _) | (refine Below.size (B := ?_) ?_; rotate_left; assumption) | omega | (simp only [World.size_alloc, World.size_setCell, World.size_drew]; omega) | (simp; omega))))
  by_cases h2 : d < c
  · go_enter Tryd.func9, Tryd.ntmps9
    go_wp2
    all_goals refine bodyPost_ret (results_span2 rfl rfl (by simp; try with_reducible rfl) (by go_simp; try with_reducible rfl) (by go_simp; try with_reducible rfl)) rfl ?_
    all_goals exact ret_of (F'.out (by omega)) (by (repeat' (first | (with_reducible exact Below.refl _ _) | (with_reducible assumption) | (with_reducible refine Below.alloc ?_ ?_ _) | (with_reducible refine Below.drew ?_) | (with_reducible refine belN ?_ _) | (with_reducible refine Below.setCell ?_ ?_ _) | (with_reducible exact Nat.le_refl _) | (refine Below.size (B := ?_) ?_; rotate_left; assumption) | omega | (simp only [World.size_alloc, World.size_setCell, World.size_drew]; omega) | (simp; omega))))
  · go_enter Tryd.func9, Tryd.ntmps9
    go_wp2
    go_quiet (fail)
    go_wp2
    all_goals refine bodyPost_ret (results_span2 rfl rfl (by simp; try with_reducible rfl) (by go_simp; try with_reducible rfl) (by go_simp; try with_reducible rfl)) rfl ?_
    all_goals first
      | exact ret_of (F.out _ _ (by omega) (by omega) (by omega) (by omega) (by omega) (by omega) (by omega)) (by (repeat' (first | (with_reducible exact Below.refl _ _) | (with_reducible assumption) | (with_reducible refine Below.alloc ?_ ?_ _) | (with_reducible refine Below.drew ?_) | (with_reducible refine belN ?_ _) | (with_reducible refine Below.setCell ?_ ?_ _) | (with_reducible exact Nat.le_refl _) | (refine Below.size (B := ?_) ?_; rotate_left; assumption) | omega | (simp only [World.size_alloc, World.size_setCell, World.size_drew]; omega) | (simp; omega))))
      | exact ret_of (F'.out (by omega)) (by (repeat' (first | (with_reducible exact Below.refl _ _) | (with_reducible assumption) | (with_reducible refine Below.alloc ?_ ?_ _) | (with_reducible refine Below.drew ?_) | (with_reducible refine belN ?_ _) | (with_reducible refine Below.setCell ?_ ?_ _) | (with_reducible exact Nat.le_refl _) | (refine Below.size (B := ?_) ?_; rotate_left; assumption) | omega | (simp only [World.size_alloc, World.size_setCell, World.size_drew]; omega) | (simp; omega))))

end Go.Proofs.YtelbeomfdfggbaaDoor
