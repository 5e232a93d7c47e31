/- Package ident, by computing: loops. -/
import Derived.Test.YtcjcnlahieddoaaI07
namespace Go.Proofs.Ytcjcnlahieddoaa
open Go.RowKit

set_option maxRecDepth 100000 in
set_option maxHeartbeats 4000000 in
theorem has1_ok (x y : Id_) : FnOK Try.prog GG 39 [.ro 3 [idC x]] [idS y, .p (.o 0) 0 0 0] (fun r _ ext => r = .v (.bool (eqB y x)) ∧ ext = []) := by
  refine fn_val (C := seat) seat_ok [] GG_no (Try.func39) rfl rfl rfl rfl rfl (fun _ => rfl) rfl ?_
  repeat' ((try conv => whnf); first
    | (with_reducible refine OKv.go (C := seat) seat_ok ?_)
    | (with_reducible refine BB_true ?_)
    | (with_reducible refine BB_false ?_)
    | (with_reducible refine Both.mk ?_ ?_)
    | (with_reducible refine VS.mk ?_)
    | (refine PSem.go (C := seat) seat_ok ?_)
    | (refine And.intro (PlanOK.mk (by kernel_rfl) rfl (by kernel_rfl) (by kernel_rfl)) ?_)
    | (refine And.intro rfl (Exists.intro _ (And.intro (by first | assumption | rfl) ?_)))
    | (refine And.intro (by omega) ?_)
    | (refine BB.mk (fun _h => ?_) (fun _h => ?_) <;> (first | (exact absurd _h (by decide)) | (exfalso; simp only [boolSet] at _h <;> omega) | skip)))
  all_goals (try conv => whnf)
  all_goals (try (refine Fin.mk ?_))
  all_goals (first
  | exact ⟨rfl, rfl⟩
  | (refine ⟨bool_eq ?_, rfl⟩
     rw [Bool.eq_iff_iff]
     simp only [eqB, wrapSet, boolSet] at * <;> omega)
  | (refine ⟨num_eq ?_, rfl⟩; simp only [eqB, wrapSet, boolSet] at *; omega)
  | (exfalso; simp only [eqB, wrapSet, boolSet] at * <;> omega))
set_option maxRecDepth 100000 in
set_option maxHeartbeats 4000000 in
theorem put1_ok (x y : Id_) : FnOK Try.prog GG 43 [.ro 3 [idC x]] [idS y, .p (.o 0) 0 0 0] (fun r _ ext => r = .v (.bool (lessB x y)) ∧ ext = []) := by
  refine fn_val (C := seat) seat_ok [] GG_no (Try.func43) rfl rfl rfl rfl rfl (fun _ => rfl) rfl ?_
  repeat' ((try conv => whnf); first
    | (with_reducible refine OKv.go (C := seat) seat_ok ?_)
    | (with_reducible refine BB_true ?_)
    | (with_reducible refine BB_false ?_)
    | (with_reducible refine Both.mk ?_ ?_)
    | (with_reducible refine VS.mk ?_)
    | (refine PSem.go (C := seat) seat_ok ?_)
    | (refine And.intro (PlanOK.mk (by kernel_rfl) rfl (by kernel_rfl) (by kernel_rfl)) ?_)
    | (refine And.intro rfl (Exists.intro _ (And.intro (by first | assumption | rfl) ?_)))
    | (refine call_ro [] (less_p _ _) GG_no rfl rfl rfl trivial ?_; rintro r bs' ext ⟨rfl, rfl⟩)
    | (refine And.intro (by omega) ?_)
    | (refine BB.mk (fun _h => ?_) (fun _h => ?_) <;> (first | (exact absurd _h (by decide)) | (exfalso; simp only [boolSet] at _h <;> omega) | skip)))
  all_goals (try conv => whnf)
  all_goals (try (refine Fin.mk ?_))
  all_goals (exact ⟨rfl, rfl⟩)
theorem row_at {l : List Id_} {k : Nat} {y : Id_} (h : l[k]? = some y) : (l.map idC)[0 + (k : Int).toNat]? = some [.int .u8 y.n, .int .u16 y.i, .int .u32 y.s] := by
  simp [h, idC]
theorem findIdx_eq {p : Id_ → Bool} {l : List Id_} {k : Nat} {y : Id_} (h1 : ∀ z ∈ l.take k, p z = false) (h2 : l[k]? = some y) (h3 : p y = true) : k = l.findIdx p := by
  have hlt := getElem?_lt h2
  symm
  rw [List.findIdx_eq hlt]
  refine ⟨?_, fun j hj => ?_⟩
  · rw [List.getElem?_eq_getElem hlt] at h2
    cases h2
    exact h3
  · refine h1 _ ?_
    rw [List.mem_take_iff_getElem]
    exact ⟨j, by omega, rfl⟩
theorem take_snoc {p : Id_ → Bool} {l : List Id_} {k : Nat} {y : Id_} (h1 : ∀ z ∈ l.take k, p z = false) (h2 : l[k]? = some y) (h3 : p y = false) : ∀ z ∈ l.take (k + 1), p z = false := by
  intro z hz
  rw [List.take_add_one, h2] at hz
  simp only [Option.toList_some, List.mem_append, List.mem_singleton] at hz
  rcases hz with hz | rfl
  · exact h1 z hz
  · exact h3
set_option maxRecDepth 100000 in
set_option maxHeartbeats 4000000 in
theorem find_ok (l : List Id_) (x : Id_) (g cap : Nat) (p : Id_ → Bool) (hl : l.length ≤ 1099511627776) (hg : ∀ y, FnOK Try.prog GG g [.ro 3 [idC x]] [idS y, .p (.o 0) 0 0 0] (fun r _ ext => r = .v (.bool (p y)) ∧ ext = [])) : FnOK Try.prog GG 38 [.ro 3 (l.map idC), .ro 3 [idC x]] [.s (.o 0) 3 0 l.length cap, .fn g [.p (.o 1) 0 0 0]] (fun r _ ext => r = .v (.int .i64 (l.findIdx p)) ∧ ext = []) := by
  refine fn_val (C := seat) seat_ok [] GG_no (Try.func38) rfl rfl rfl rfl rfl (fun _ => rfl) rfl ?_
  repeat' ((try conv => whnf); first
    | (with_reducible refine OKv.go (C := seat) seat_ok ?_)
    | (with_reducible refine BB_true ?_)
    | (with_reducible refine BB_false ?_)
    | (with_reducible refine Both.mk ?_ ?_)
    | (with_reducible refine VS.mk ?_)
    | (refine PSem.go (C := seat) seat_ok ?_)
    | (refine And.intro (PlanOK.mk (by kernel_rfl) rfl (by kernel_rfl) (by kernel_rfl)) ?_)
    | (refine And.intro rfl (Exists.intro _ (And.intro (by first | assumption | rfl) ?_)))
    | (refine And.intro (by omega) ?_)
    | (refine BB.mk (fun _h => ?_) (fun _h => ?_) <;> (first | (exact absurd _h (by decide)) | (exfalso; simp only [boolSet] at _h <;> omega) | skip)))
  all_goals (try conv => whnf)
  refine loop_rule (α := Nat) (fun k => k ≤ l.length ∧ ∀ z ∈ l.take k, p z = false) (fun k => { slots := [(0, .s (.o 0) 3 0 l.length cap), (1, .fn g [.p (.o 1) 0 0 0]), (7, .s (.o 0) 3 0 l.length cap), (8, .v (.int .i64 l.length)), (9, .v (.int .i64 k))], nt := 21, mem := ⟨GG, [.ro 3 (l.map idC), .ro 3 [idC x]], []⟩ }) (fun k => l.length - k) 0 ⟨Nat.zero_le _, by simp⟩ ⟨⟨[], List.nodup_nil, GG_no, rfl, (SubOld.refl _ rfl), trivial, ⟨.inl rfl, .inl rfl, .inl rfl, .inl rfl, .inl rfl, trivial⟩⟩, rfl⟩ ?_ (fun _ => rfl)
  rintro k ⟨hk, hp⟩
  refine vc_sound (C := seat) seat_ok (pl := []) ?_
  by_cases hlt : k < l.length
  · obtain ⟨y, hy⟩ : ∃ y, l[k]? = some y := ⟨_, List.getElem?_eq_getElem hlt⟩
    have hrow := row_at hy
    repeat' ((try conv => whnf); first
      | (with_reducible refine OKv.go (C := seat) seat_ok ?_)
      | (with_reducible refine BB_true ?_)
      | (with_reducible refine BB_false ?_)
      | (with_reducible refine Both.mk ?_ ?_)
      | (with_reducible refine VS.mk ?_)
      | (refine PSem.go (C := seat) seat_ok ?_)
      | (refine And.intro (PlanOK.mk (by kernel_rfl) rfl (by kernel_rfl) (by kernel_rfl)) ?_)
      | (refine And.intro rfl (Exists.intro _ (And.intro (by first | assumption | rfl) ?_)))
      | (refine call_ro [.o 1] (hg y) GG_no rfl rfl rfl ⟨⟨_, rfl, rfl, rfl⟩, trivial⟩ ?_; rintro r bs' ext ⟨rfl, rfl⟩)
      | (refine And.intro (by omega) ?_)
      | (refine BB.mk (fun _h => ?_) (fun _h => ?_) <;> (first | (exact absurd _h (by decide)) | (exfalso; simp only [boolSet] at _h <;> omega) | skip)))
    all_goals (try conv => whnf)
    · exact fin_num (by rw [findIdx_eq hp hy _h]) rfl
    · exact ⟨k + 1, ⟨by omega, take_snoc hp hy _h⟩, by omega, ⟨⟨[], List.nodup_nil, GG_no, rfl, SubOld.refl _ rfl, trivial, ⟨.inl rfl, .inl rfl, .inl rfl, .inl rfl, .inl (num_eq (by rw [IntKind.wrap_i64]; omega)), trivial⟩⟩, rfl⟩⟩
  · have hp' : l.findIdx p = l.length := by
      rw [List.findIdx_eq_length]
      rw [List.take_of_length_le (by omega)] at hp
      exact hp
    repeat' ((try conv => whnf); first
      | (with_reducible refine OKv.go (C := seat) seat_ok ?_)
      | (with_reducible refine BB_true ?_)
      | (with_reducible refine BB_false ?_)
      | (with_reducible refine Both.mk ?_ ?_)
      | (with_reducible refine VS.mk ?_)
      | (refine PSem.go (C := seat) seat_ok ?_)
      | (refine And.intro (PlanOK.mk (by kernel_rfl) rfl (by kernel_rfl) (by kernel_rfl)) ?_)
      | (refine And.intro rfl (Exists.intro _ (And.intro (by first | assumption | rfl) ?_)))
      | (refine And.intro (by omega) ?_)
      | (refine BB.mk (fun _h => ?_) (fun _h => ?_) <;> (first | (exact absurd _h (by decide)) | (exfalso; simp only [boolSet] at _h <;> omega) | skip)))
    all_goals (try conv => whnf)
    exact fin_num (by rw [hp']) rfl
end Go.Proofs.Ytcjcnlahieddoaa
