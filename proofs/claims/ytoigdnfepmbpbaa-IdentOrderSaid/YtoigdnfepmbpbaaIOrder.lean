/- Law IdentOrder, by computing. -/
import Derived.Test.YtoigdnfepmbpbaaOpen07
namespace Go.Proofs.Ytoigdnfepmbpbaa
open Go.RowKit

theorem bneB_t {a b : Bool} : ((a != b) = true) ↔ ¬(a = true ↔ b = true) := by cases a <;> cases b <;> simp
theorem bneB_f {a b : Bool} : ((a != b) = false) ↔ (a = true ↔ b = true) := by cases a <;> cases b <;> simp
set_option maxRecDepth 100000 in
set_option maxHeartbeats 4000000 in
theorem identOrder_no (x y z : Id_) (last : Int) (hx : x.ok) (h : last ≤ x.s) (hl : last < 4294967296) : FnOK Try.prog GG 5 [] [idS x, idS y, idS z, .v (.int .u32 last)] (fun r _ ext => r = .v (.bool true) ∧ ext = []) := by
  obtain ⟨n0, n1, i0, i1, s0, s1⟩ := hx
  refine fn_val (C := seat) seat_ok [] GG_no (Try.func5) rfl rfl rfl rfl rfl (fun _ => rfl) rfl ?_
  repeat' ((try conv => whnf); first
    | (with_reducible refine BB_true ?_)
    | (with_reducible refine BB_false ?_)
    | (refine And.intro (PlanOK.mk (by kernel_rfl) rfl (by kernel_rfl) (by kernel_rfl)) ?_)
    | (refine And.intro rfl (Exists.intro _ (And.intro (by first | assumption | rfl) ?_)))
    | (refine call_ro [] (less_p x y) GG_no rfl rfl rfl trivial ?_; rintro r bs' ext ⟨rfl, rfl⟩)
    | (refine call_ro [] (less_p y x) GG_no rfl rfl rfl trivial ?_; rintro r bs' ext ⟨rfl, rfl⟩)
    | (refine call_ro [] (less_p y z) GG_no rfl rfl rfl trivial ?_; rintro r bs' ext ⟨rfl, rfl⟩)
    | (refine call_ro [] (less_p x z) GG_no rfl rfl rfl trivial ?_; rintro r bs' ext ⟨rfl, rfl⟩)
    | (refine call_ro [] (less_p x ⟨x.n, x.i, x.s + 1⟩) GG_no rfl rfl rfl trivial ?_; rintro r bs' ext ⟨rfl, rfl⟩)
    | (refine call_ro [] (less_p y ⟨x.n, x.i, x.s + 1⟩) GG_no rfl rfl rfl trivial ?_; rintro r bs' ext ⟨rfl, rfl⟩)
    | (refine call_ro [] (next_no_p x last h) GG_no rfl rfl rfl trivial ?_; rintro r bs' ext ⟨rfl, rfl⟩)
    | (refine call_ro [] (awake_ok) GG_no rfl rfl rfl trivial ?_; rintro r bs' ext ⟨rfl, rfl⟩)
    | (refine And.intro (by omega) ?_)
    | (refine BB.mk (fun _h => ?_) (fun _h => ?_) <;> (first | (exact absurd _h (by decide)) | (exfalso; simp only [lessB, wrapSet, boolSet, eqInts] at _h; omega) | skip)))
  all_goals (try conv => whnf)
  all_goals (try (refine Fin.mk ?_))
  all_goals (try exact ⟨rfl, rfl⟩)
  all_goals (try simp only [bneB_t, bneB_f] at *)
  all_goals exfalso
  all_goals (first
  | (simp only [lessB, IntKind.wrap_i32, IntKind.wrap_i64, IntKind.wrap_u8, IntKind.wrap_u16, IntKind.wrap_u32, IntKind.wrap_u64, boolSet, eqInts] at * <;> omega)
  | (simp_all [lessB, eqInts]; done)
  | (simp_all [lessB, eqInts] <;> omega))
set_option maxRecDepth 100000 in
set_option maxHeartbeats 4000000 in
theorem identOrder_yes (x y z : Id_) (last : Int) (hx : x.ok) (h : x.s < last) (hl : last < 4294967296) : FnOK Try.prog GG 5 [] [idS x, idS y, idS z, .v (.int .u32 last)] (fun r _ ext => r = .v (.bool true) ∧ ext = []) := by
  obtain ⟨n0, n1, i0, i1, s0, s1⟩ := hx
  refine fn_val (C := seat) seat_ok [] GG_no (Try.func5) rfl rfl rfl rfl rfl (fun _ => rfl) rfl ?_
  repeat' ((try conv => whnf); first
    | (with_reducible refine BB_true ?_)
    | (with_reducible refine BB_false ?_)
    | (refine And.intro (PlanOK.mk (by kernel_rfl) rfl (by kernel_rfl) (by kernel_rfl)) ?_)
    | (refine And.intro rfl (Exists.intro _ (And.intro (by first | assumption | rfl) ?_)))
    | (refine call_ro [] (less_p x y) GG_no rfl rfl rfl trivial ?_; rintro r bs' ext ⟨rfl, rfl⟩)
    | (refine call_ro [] (less_p y x) GG_no rfl rfl rfl trivial ?_; rintro r bs' ext ⟨rfl, rfl⟩)
    | (refine call_ro [] (less_p y z) GG_no rfl rfl rfl trivial ?_; rintro r bs' ext ⟨rfl, rfl⟩)
    | (refine call_ro [] (less_p x z) GG_no rfl rfl rfl trivial ?_; rintro r bs' ext ⟨rfl, rfl⟩)
    | (refine call_ro [] (less_p x ⟨x.n, x.i, x.s + 1⟩) GG_no rfl rfl rfl trivial ?_; rintro r bs' ext ⟨rfl, rfl⟩)
    | (refine call_ro [] (less_p y ⟨x.n, x.i, x.s + 1⟩) GG_no rfl rfl rfl trivial ?_; rintro r bs' ext ⟨rfl, rfl⟩)
    | (refine call_ro [] (next_yes_p x last h hl s0) GG_no rfl rfl rfl trivial ?_; rintro r bs' ext ⟨rfl, rfl⟩)
    | (refine call_ro [] (awake_ok) GG_no rfl rfl rfl trivial ?_; rintro r bs' ext ⟨rfl, rfl⟩)
    | (refine And.intro (by omega) ?_)
    | (refine BB.mk (fun _h => ?_) (fun _h => ?_) <;> (first | (exact absurd _h (by decide)) | (exfalso; simp only [lessB, wrapSet, boolSet, eqInts] at _h; omega) | skip)))
  all_goals (try conv => whnf)
  all_goals (try (refine Fin.mk ?_))
  all_goals (try exact ⟨rfl, rfl⟩)
  all_goals (try simp only [bneB_t, bneB_f] at *)
  all_goals exfalso
  all_goals (first
  | (simp only [lessB, IntKind.wrap_i32, IntKind.wrap_i64, IntKind.wrap_u8, IntKind.wrap_u16, IntKind.wrap_u32, IntKind.wrap_u64, boolSet, eqInts] at * <;> omega)
  | (simp_all [lessB, eqInts]; done)
  | (simp_all [lessB, eqInts] <;> omega))
theorem identOrder_ok (x y z : Id_) (last : Int) (hx : x.ok) (hl : last < 4294967296) : FnOK Try.prog GG 5 [] [idS x, idS y, idS z, .v (.int .u32 last)] (fun r _ ext => r = .v (.bool true) ∧ ext = []) := by
  by_cases h : x.s < last
  · exact identOrder_yes x y z last hx h hl
  · exact identOrder_no x y z last hx (by omega) hl
end Go.Proofs.Ytoigdnfepmbpbaa
