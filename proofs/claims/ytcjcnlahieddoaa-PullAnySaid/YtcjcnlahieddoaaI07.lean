/- Package ident, by computing. -/
import Derived.Test.YtcjcnlahieddoaaTy18
namespace Go.Proofs.Ytcjcnlahieddoaa
open Go.RowKit

abbrev GG : List (Nat × SB) := []
theorem GG_no : noOwn GG := noOwn_nil
/-- An id. -/
structure Id_ where
  n : Int
  i : Int
  s : Int
structure Id_.ok (x : Id_) : Prop where
  n0 : 0 ≤ x.n
  n1 : x.n < 256
  i0 : 0 ≤ x.i
  i1 : x.i < 65536
  s0 : 0 ≤ x.s
  s1 : x.s < 4294967296
def idC (x : Id_) : List Value := [.int .u8 x.n, .int .u16 x.i, .int .u32 x.s]
abbrev idS (x : Id_) : SV := .agg [.v (.int .u8 x.n), .v (.int .u16 x.i), .v (.int .u32 x.s)]
def rightB (x : Id_) (nodes last : Int) : Bool := decide (x.n < nodes ∧ 1 ≤ x.i ∧ 1 ≤ x.s ∧ x.s ≤ last)
def lessB (x y : Id_) : Bool := decide (x.n < y.n ∨ (x.n = y.n ∧ (x.i < y.i ∨ (x.i = y.i ∧ x.s < y.s))))
def eqB (x y : Id_) : Bool := decide (x.n = y.n ∧ x.i = y.i ∧ x.s = y.s)
set_option maxRecDepth 100000 in
set_option maxHeartbeats 4000000 in
theorem less_p (x y : Id_) : FnOK Try.prog GG 32 [] [idS x, idS y] (fun r _ ext => r = .v (.bool (lessB x y)) ∧ ext = []) := by
  refine fn_val (C := seat) seat_ok [] GG_no (Try.func32) rfl rfl rfl rfl rfl (fun _ => rfl) rfl ?_
  repeat' ((try conv => whnf); first
    | (with_reducible refine OKv.go (C := seat) seat_ok ?_)
    | (with_reducible refine BB_true ?_)
    | (with_reducible refine BB_false ?_)
    | (with_reducible refine Both.mk ?_ ?_)
    | (with_reducible refine VS.mk ?_)
    | (refine PSem.go (C := seat) seat_ok ?_)
    | (refine And.intro (PlanOK.mk (by kernel_rfl) rfl (by kernel_rfl) (by kernel_rfl)) ?_)
    | (refine And.intro rfl (Exists.intro _ (And.intro (by first | assumption | rfl) ?_)))
    | (refine And.intro (by omega) ?_)
    | (refine BB.mk (fun _h => ?_) (fun _h => ?_) <;> (first | (exact absurd _h (by decide)) | (exfalso; simp only [boolSet] at _h <;> omega) | skip)))
  all_goals (try conv => whnf)
  all_goals (try (refine Fin.mk ?_))
  all_goals (first
  | exact ⟨rfl, rfl⟩
  | (refine ⟨bool_eq ?_, rfl⟩
     rw [Bool.eq_iff_iff]
     simp only [lessB, wrapSet, boolSet] at * <;> omega)
  | (refine ⟨num_eq ?_, rfl⟩; simp only [lessB, wrapSet, boolSet] at *; omega)
  | (exfalso; simp only [lessB, wrapSet, boolSet] at * <;> omega))
set_option maxRecDepth 100000 in
set_option maxHeartbeats 4000000 in
theorem less_r (x y : Id_) : FnOK Try.prog GG 29 [] [idS x, idS y] (fun r _ ext => r = .v (.bool (lessB x y)) ∧ ext = []) := by
  refine fn_val (C := seat) seat_ok [] GG_no (Try.func29) rfl rfl rfl rfl rfl (fun _ => rfl) rfl ?_
  repeat' ((try conv => whnf); first
    | (with_reducible refine OKv.go (C := seat) seat_ok ?_)
    | (with_reducible refine BB_true ?_)
    | (with_reducible refine BB_false ?_)
    | (with_reducible refine Both.mk ?_ ?_)
    | (with_reducible refine VS.mk ?_)
    | (refine PSem.go (C := seat) seat_ok ?_)
    | (refine And.intro (PlanOK.mk (by kernel_rfl) rfl (by kernel_rfl) (by kernel_rfl)) ?_)
    | (refine And.intro rfl (Exists.intro _ (And.intro (by first | assumption | rfl) ?_)))
    | (refine And.intro (by omega) ?_)
    | (refine BB.mk (fun _h => ?_) (fun _h => ?_) <;> (first | (exact absurd _h (by decide)) | (exfalso; simp only [boolSet] at _h <;> omega) | skip)))
  all_goals (try conv => whnf)
  all_goals (try (refine Fin.mk ?_))
  all_goals (first
  | exact ⟨rfl, rfl⟩
  | (refine ⟨bool_eq ?_, rfl⟩
     rw [Bool.eq_iff_iff]
     simp only [lessB, wrapSet, boolSet] at * <;> omega)
  | (refine ⟨num_eq ?_, rfl⟩; simp only [lessB, wrapSet, boolSet] at *; omega)
  | (exfalso; simp only [lessB, wrapSet, boolSet] at * <;> omega))
end Go.Proofs.Ytcjcnlahieddoaa
