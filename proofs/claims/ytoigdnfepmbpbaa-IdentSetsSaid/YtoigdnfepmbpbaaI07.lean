/- Package ident, by computing. -/
import Derived.Test.YtoigdnfepmbpbaaTy07
namespace Go.Proofs.Ytoigdnfepmbpbaa
open Go.RowKit

abbrev GG : List (Nat × SB) := []
theorem GG_no : noOwn GG := noOwn_nil
/-- An id. -/
structure Id_ where
  n : Int
  i : Int
  s : Int
structure Id_.ok (x : Id_) : Prop where
  n0 : 0 ≤ x.n
  n1 : x.n < 256
  i0 : 0 ≤ x.i
  i1 : x.i < 65536
  s0 : 0 ≤ x.s
  s1 : x.s < 4294967296
def idC (x : Id_) : List Value := [.int .u8 x.n, .int .u16 x.i, .int .u32 x.s]
abbrev idS (x : Id_) : SV := .agg [.v (.int .u8 x.n), .v (.int .u16 x.i), .v (.int .u32 x.s)]
def rightB (x : Id_) (nodes last : Int) : Bool := decide (x.n < nodes ∧ 1 ≤ x.i ∧ 1 ≤ x.s ∧ x.s ≤ last)
def lessB (x y : Id_) : Bool := decide (x.n < y.n ∨ (x.n = y.n ∧ (x.i < y.i ∨ (x.i = y.i ∧ x.s < y.s))))
def eqB (x y : Id_) : Bool := decide (x.n = y.n ∧ x.i = y.i ∧ x.s = y.s)
set_option maxRecDepth 100000 in
set_option maxHeartbeats 4000000 in
theorem right_p (x : Id_) (nodes last : Int) (hx : x.ok) : FnOK Try.prog GG 11 [] [idS x, .v (.int .i64 nodes), .v (.int .u32 last)] (fun r _ ext => r = .v (.bool (rightB x nodes last)) ∧ ext = []) := by
  obtain ⟨n0, n1, i0, i1, s0, s1⟩ := hx
  refine fn_val (C := seat) seat_ok [] GG_no (Try.func11) rfl rfl rfl rfl rfl (fun _ => rfl) rfl ?_
  repeat' ((try conv => whnf); first
    | (with_reducible refine BB_true ?_)
    | (with_reducible refine BB_false ?_)
    | (with_reducible refine Both.mk ?_ ?_)
    | (with_reducible refine VS.mk ?_)
    | (refine PSem.go (C := seat) seat_ok ?_)
    | (refine And.intro (PlanOK.mk (by kernel_rfl) rfl (by kernel_rfl) (by kernel_rfl)) ?_)
    | (refine And.intro rfl (Exists.intro _ (And.intro (by first | assumption | rfl) ?_)))
    | (refine And.intro (by omega) ?_)
    | (refine BB.mk (fun _h => ?_) (fun _h => ?_) <;> (first | (exact absurd _h (by decide)) | (exfalso; simp only [boolSet] at _h <;> omega) | skip)))
  all_goals (try conv => whnf)
  all_goals (try (refine Fin.mk ?_))
  all_goals (first
  | exact ⟨rfl, rfl⟩
  | (refine ⟨bool_eq ?_, rfl⟩
     rw [Bool.eq_iff_iff]
     simp only [rightB, wrapSet, boolSet] at * <;> omega)
  | (refine ⟨num_eq ?_, rfl⟩; simp only [rightB, wrapSet, boolSet] at *; omega)
  | (exfalso; simp only [rightB, wrapSet, boolSet] at * <;> omega))
set_option maxRecDepth 100000 in
set_option maxHeartbeats 4000000 in
theorem less_p (x y : Id_) : FnOK Try.prog GG 13 [] [idS x, idS y] (fun r _ ext => r = .v (.bool (lessB x y)) ∧ ext = []) := by
  refine fn_val (C := seat) seat_ok [] GG_no (Try.func13) rfl rfl rfl rfl rfl (fun _ => rfl) rfl ?_
  repeat' ((try conv => whnf); first
    | (with_reducible refine BB_true ?_)
    | (with_reducible refine BB_false ?_)
    | (with_reducible refine Both.mk ?_ ?_)
    | (with_reducible refine VS.mk ?_)
    | (refine PSem.go (C := seat) seat_ok ?_)
    | (refine And.intro (PlanOK.mk (by kernel_rfl) rfl (by kernel_rfl) (by kernel_rfl)) ?_)
    | (refine And.intro rfl (Exists.intro _ (And.intro (by first | assumption | rfl) ?_)))
    | (refine And.intro (by omega) ?_)
    | (refine BB.mk (fun _h => ?_) (fun _h => ?_) <;> (first | (exact absurd _h (by decide)) | (exfalso; simp only [boolSet] at _h <;> omega) | skip)))
  all_goals (try conv => whnf)
  all_goals (try (refine Fin.mk ?_))
  all_goals (first
  | exact ⟨rfl, rfl⟩
  | (refine ⟨bool_eq ?_, rfl⟩
     rw [Bool.eq_iff_iff]
     simp only [lessB, wrapSet, boolSet] at * <;> omega)
  | (refine ⟨num_eq ?_, rfl⟩; simp only [lessB, wrapSet, boolSet] at *; omega)
  | (exfalso; simp only [lessB, wrapSet, boolSet] at * <;> omega))
set_option maxRecDepth 100000 in
set_option maxHeartbeats 4000000 in
theorem next_no_p (x : Id_) (last : Int) (h : last ≤ x.s) : FnOK Try.prog GG 9 [] [idS x, .v (.int .u32 last)] (fun r _ ext => r = .tup [idS ⟨0, 0, 0⟩, .v (.int .i64 55)] ∧ ext = []) := by
  refine fn_val (C := seat) seat_ok [] GG_no (Try.func9) rfl rfl rfl rfl rfl (fun _ => rfl) rfl ?_
  repeat' ((try conv => whnf); first
    | (with_reducible refine BB_true ?_)
    | (with_reducible refine BB_false ?_)
    | (with_reducible refine Both.mk ?_ ?_)
    | (with_reducible refine VS.mk ?_)
    | (refine PSem.go (C := seat) seat_ok ?_)
    | (refine And.intro (PlanOK.mk (by kernel_rfl) rfl (by kernel_rfl) (by kernel_rfl)) ?_)
    | (refine And.intro rfl (Exists.intro _ (And.intro (by first | assumption | rfl) ?_)))
    | (refine And.intro (by omega) ?_)
    | (refine BB.mk (fun _h => ?_) (fun _h => ?_) <;> (first | (exact absurd _h (by decide)) | (exfalso; simp only [boolSet] at _h <;> omega) | skip)))
  all_goals (try conv => whnf)
  all_goals (try (refine Fin.mk ?_))
  · exact ⟨rfl, rfl⟩
set_option maxRecDepth 100000 in
set_option maxHeartbeats 4000000 in
theorem next_yes_p (x : Id_) (last : Int) (h : x.s < last) (hl : last < 4294967296) (h0 : 0 ≤ x.s) : FnOK Try.prog GG 9 [] [idS x, .v (.int .u32 last)] (fun r _ ext => r = .tup [idS ⟨x.n, x.i, x.s + 1⟩, .v (.int .i64 0)] ∧ ext = []) := by
  refine fn_val (C := seat) seat_ok [] GG_no (Try.func9) rfl rfl rfl rfl rfl (fun _ => rfl) rfl ?_
  repeat' ((try conv => whnf); first
    | (with_reducible refine BB_true ?_)
    | (with_reducible refine BB_false ?_)
    | (with_reducible refine Both.mk ?_ ?_)
    | (with_reducible refine VS.mk ?_)
    | (refine PSem.go (C := seat) seat_ok ?_)
    | (refine And.intro (PlanOK.mk (by kernel_rfl) rfl (by kernel_rfl) (by kernel_rfl)) ?_)
    | (refine And.intro rfl (Exists.intro _ (And.intro (by first | assumption | rfl) ?_)))
    | (refine And.intro (by omega) ?_)
    | (refine BB.mk (fun _h => ?_) (fun _h => ?_) <;> (first | (exact absurd _h (by decide)) | (exfalso; simp only [boolSet] at _h <;> omega) | skip)))
  all_goals (try conv => whnf)
  all_goals (try (refine Fin.mk ?_))
  · have e : IntKind.u32.wrap (x.s + 1) = x.s + 1 := by rw [IntKind.wrap_u32]; omega
    refine ⟨?_, rfl⟩
    show SV.tup [.agg [_, _, .v (.int .u32 (IntKind.u32.wrap (x.s + 1)))], _] = _
    rw [e]
set_option maxRecDepth 100000 in
set_option maxHeartbeats 4000000 in
theorem right_r (x : Id_) (nodes last : Int) (hx : x.ok) : FnOK Try.prog GG 12 [] [idS x, .v (.int .i64 nodes), .v (.int .u32 last)] (fun r _ ext => r = .v (.bool (rightB x nodes last)) ∧ ext = []) := by
  obtain ⟨n0, n1, i0, i1, s0, s1⟩ := hx
  refine fn_val (C := seat) seat_ok [] GG_no (Try.func12) rfl rfl rfl rfl rfl (fun _ => rfl) rfl ?_
  repeat' ((try conv => whnf); first
    | (with_reducible refine BB_true ?_)
    | (with_reducible refine BB_false ?_)
    | (with_reducible refine Both.mk ?_ ?_)
    | (with_reducible refine VS.mk ?_)
    | (refine PSem.go (C := seat) seat_ok ?_)
    | (refine And.intro (PlanOK.mk (by kernel_rfl) rfl (by kernel_rfl) (by kernel_rfl)) ?_)
    | (refine And.intro rfl (Exists.intro _ (And.intro (by first | assumption | rfl) ?_)))
    | (refine And.intro (by omega) ?_)
    | (refine BB.mk (fun _h => ?_) (fun _h => ?_) <;> (first | (exact absurd _h (by decide)) | (exfalso; simp only [boolSet] at _h <;> omega) | skip)))
  all_goals (try conv => whnf)
  all_goals (try (refine Fin.mk ?_))
  all_goals (first
  | exact ⟨rfl, rfl⟩
  | (refine ⟨bool_eq ?_, rfl⟩
     rw [Bool.eq_iff_iff]
     simp only [rightB, wrapSet, boolSet] at * <;> omega)
  | (refine ⟨num_eq ?_, rfl⟩; simp only [rightB, wrapSet, boolSet] at *; omega)
  | (exfalso; simp only [rightB, wrapSet, boolSet] at * <;> omega))
set_option maxRecDepth 100000 in
set_option maxHeartbeats 4000000 in
theorem less_r (x y : Id_) : FnOK Try.prog GG 14 [] [idS x, idS y] (fun r _ ext => r = .v (.bool (lessB x y)) ∧ ext = []) := by
  refine fn_val (C := seat) seat_ok [] GG_no (Try.func14) rfl rfl rfl rfl rfl (fun _ => rfl) rfl ?_
  repeat' ((try conv => whnf); first
    | (with_reducible refine BB_true ?_)
    | (with_reducible refine BB_false ?_)
    | (with_reducible refine Both.mk ?_ ?_)
    | (with_reducible refine VS.mk ?_)
    | (refine PSem.go (C := seat) seat_ok ?_)
    | (refine And.intro (PlanOK.mk (by kernel_rfl) rfl (by kernel_rfl) (by kernel_rfl)) ?_)
    | (refine And.intro rfl (Exists.intro _ (And.intro (by first | assumption | rfl) ?_)))
    | (refine And.intro (by omega) ?_)
    | (refine BB.mk (fun _h => ?_) (fun _h => ?_) <;> (first | (exact absurd _h (by decide)) | (exfalso; simp only [boolSet] at _h <;> omega) | skip)))
  all_goals (try conv => whnf)
  all_goals (try (refine Fin.mk ?_))
  all_goals (first
  | exact ⟨rfl, rfl⟩
  | (refine ⟨bool_eq ?_, rfl⟩
     rw [Bool.eq_iff_iff]
     simp only [lessB, wrapSet, boolSet] at * <;> omega)
  | (refine ⟨num_eq ?_, rfl⟩; simp only [lessB, wrapSet, boolSet] at *; omega)
  | (exfalso; simp only [lessB, wrapSet, boolSet] at * <;> omega))
set_option maxRecDepth 100000 in
set_option maxHeartbeats 4000000 in
theorem next_no_r (x : Id_) (last : Int) (h : last ≤ x.s) : FnOK Try.prog GG 10 [] [idS x, .v (.int .u32 last)] (fun r _ ext => r = .tup [idS ⟨0, 0, 0⟩, .v (.int .i64 55)] ∧ ext = []) := by
  refine fn_val (C := seat) seat_ok [] GG_no (Try.func10) rfl rfl rfl rfl rfl (fun _ => rfl) rfl ?_
  repeat' ((try conv => whnf); first
    | (with_reducible refine BB_true ?_)
    | (with_reducible refine BB_false ?_)
    | (with_reducible refine Both.mk ?_ ?_)
    | (with_reducible refine VS.mk ?_)
    | (refine PSem.go (C := seat) seat_ok ?_)
    | (refine And.intro (PlanOK.mk (by kernel_rfl) rfl (by kernel_rfl) (by kernel_rfl)) ?_)
    | (refine And.intro rfl (Exists.intro _ (And.intro (by first | assumption | rfl) ?_)))
    | (refine And.intro (by omega) ?_)
    | (refine BB.mk (fun _h => ?_) (fun _h => ?_) <;> (first | (exact absurd _h (by decide)) | (exfalso; simp only [boolSet] at _h <;> omega) | skip)))
  all_goals (try conv => whnf)
  all_goals (try (refine Fin.mk ?_))
  · exact ⟨rfl, rfl⟩
set_option maxRecDepth 100000 in
set_option maxHeartbeats 4000000 in
theorem next_yes_r (x : Id_) (last : Int) (h : x.s < last) (hl : last < 4294967296) (h0 : 0 ≤ x.s) : FnOK Try.prog GG 10 [] [idS x, .v (.int .u32 last)] (fun r _ ext => r = .tup [idS ⟨x.n, x.i, x.s + 1⟩, .v (.int .i64 0)] ∧ ext = []) := by
  refine fn_val (C := seat) seat_ok [] GG_no (Try.func10) rfl rfl rfl rfl rfl (fun _ => rfl) rfl ?_
  repeat' ((try conv => whnf); first
    | (with_reducible refine BB_true ?_)
    | (with_reducible refine BB_false ?_)
    | (with_reducible refine Both.mk ?_ ?_)
    | (with_reducible refine VS.mk ?_)
    | (refine PSem.go (C := seat) seat_ok ?_)
    | (refine And.intro (PlanOK.mk (by kernel_rfl) rfl (by kernel_rfl) (by kernel_rfl)) ?_)
    | (refine And.intro rfl (Exists.intro _ (And.intro (by first | assumption | rfl) ?_)))
    | (refine And.intro (by omega) ?_)
    | (refine BB.mk (fun _h => ?_) (fun _h => ?_) <;> (first | (exact absurd _h (by decide)) | (exfalso; simp only [boolSet] at _h <;> omega) | skip)))
  all_goals (try conv => whnf)
  all_goals (try (refine Fin.mk ?_))
  · have e : IntKind.u32.wrap (x.s + 1) = x.s + 1 := by rw [IntKind.wrap_u32]; omega
    refine ⟨?_, rfl⟩
    show SV.tup [.agg [_, _, .v (.int .u32 (IntKind.u32.wrap (x.s + 1)))], _] = _
    rw [e]
end Go.Proofs.Ytoigdnfepmbpbaa
