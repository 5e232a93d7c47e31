/- Laws IdentRight, IdentOrder, by computing. -/
import Derived.Test.YtoigdnfepmbpbaaOpen07
namespace Go.Proofs.Ytoigdnfepmbpbaa
open Go.RowKit

set_option maxRecDepth 100000 in
set_option maxHeartbeats 4000000 in
theorem identRight_ok (x : Id_) (n m a b : Int) (hx : x.ok) (ha : 0 ≤ a) (ha' : a ≤ 4294967295) (hb : 0 ≤ b) (hb' : b ≤ 4294967295) : FnOK Try.prog GG 7 [] [idS x, .v (.int .i64 n), .v (.int .i64 m), .v (.int .u32 a), .v (.int .u32 b)] (fun r _ ext => r = .v (.bool true) ∧ ext = []) := by
  have hx' := hx
  obtain ⟨n0, n1, i0, i1, s0, s1⟩ := hx
  have hx0 : Id_.ok ⟨x.n, 0, x.s⟩ := ⟨n0, n1, by dsimp only; omega, by dsimp only; omega, s0, s1⟩
  have q0 : (if n < m then m else n) = max n m := by split <;> omega
  have q1 : (if a < b then b else a) = max a b := by split <;> omega
  have q2 : (if (0 : Int) < n then (0 : Int) else n) = min n 0 := by split <;> omega
  have q3 : (if n < (0 : Int) then n else (0 : Int)) = min n 0 := by split <;> omega
  have q4 : (if (0 : Int) < n then n else (0 : Int)) = max n 0 := by split <;> omega
  refine fn_val (C := seat) seat_ok [] GG_no (Try.func7) rfl rfl rfl rfl rfl (fun _ => rfl) rfl ?_
  repeat' ((try conv => whnf); first
    | (with_reducible refine BB_true ?_)
    | (with_reducible refine BB_false ?_)
    | (refine And.intro (PlanOK.mk (by kernel_rfl) rfl (by kernel_rfl) (by kernel_rfl)) ?_)
    | (refine And.intro rfl (Exists.intro _ (And.intro (by first | assumption | rfl) ?_)))
    | (refine call_ro [] (right_p x _ _ hx') GG_no rfl rfl rfl trivial ?_; rintro r bs' ext ⟨rfl, rfl⟩)
    | (refine call_ro [] (right_p ⟨x.n, 0, x.s⟩ _ _ hx0) GG_no rfl rfl rfl trivial ?_; rintro r bs' ext ⟨rfl, rfl⟩)
    | (refine call_ro [] (awake_ok) GG_no rfl rfl rfl trivial ?_; rintro r bs' ext ⟨rfl, rfl⟩)
    | (refine And.intro (by omega) ?_)
    | (refine BB.mk (fun _h => ?_) (fun _h => ?_) <;> (first | (exact absurd _h (by decide)) | (exfalso; simp only [rightB, wrapSet, boolSet, eqInts] at _h; omega) | skip)))
  all_goals (try conv => whnf)
  all_goals (try (refine Fin.mk ?_))
  all_goals (first
  | exact ⟨rfl, rfl⟩
  | (refine ⟨bool_eq ?_, rfl⟩
     rw [Bool.eq_iff_iff]
     simp only [rightB, wrapSet, boolSet, eqInts] at * <;> omega)
  | (refine ⟨num_eq ?_, rfl⟩; simp only [rightB, wrapSet, boolSet, eqInts] at *; omega)
  | (exfalso; simp only [rightB, wrapSet, boolSet, eqInts] at * <;> omega))
end Go.Proofs.Ytoigdnfepmbpbaa
