/- Law SampleWait. -/
import Derived.Test.YtjghbfbifkhloaaW11d
namespace Go.Proofs.Ytjghbfbifkhloaa
open Go.RowKit

set_option maxRecDepth 100000 in
set_option maxHeartbeats 4000000 in
theorem waitFew (node other left : Int) (l : List De) (cap : Nat) (at_ : Int) (hl : l.length ≤ 9223372036854775807) (hlf : 0 ≤ left ∧ left ≤ 255) (hat : 0 ≤ at_ ∧ at_ ≤ 65535) (hfew : (l.all (fun d => decide (d.fl.length ≤ 8)) && decide (l.length ≤ 20)) = false) : FnOK Try.prog GG 4 [] [.v (.int .u8 node), .v (.int .u8 other), .v (.int .u8 left), .z 4 (l.map deC) cap, .v (.int .u16 at_)] (fun r _ ext => (r = .v (.bool true)) ∧ ext = []) := by
  refine FnOK.pure GG_no rfl (fn_intro (C := seat) seat_ok [] GG_no (Try.func4) rfl rfl rfl rfl rfl ?_)
  repeat' ((try conv => whnf); first
    | (with_reducible refine OKv.go (C := seat) seat_ok ?_)
    | (with_reducible refine BB_true ?_)
    | (with_reducible refine BB_false ?_)
    | (with_reducible refine Both.mk ?_ ?_)
    | (with_reducible refine VS.mk ?_)
    | (refine PSem.go (C := seat) seat_ok ?_)
    | (refine And.intro (PlanOK.mk (by kernel_rfl) rfl (by kernel_rfl) (by kernel_rfl)) ?_)
    | (refine And.intro rfl (Exists.intro _ (And.intro (by first | assumption | rfl) ?_)))
    | (refine And.intro ⟨rfl, rfl, rfl⟩ ?_)
    | (refine call_ro [] (few_zz l cap _ hl hfew) GG_no rfl rfl rfl trivial ?_; rintro r bs' ext ⟨rfl, rfl⟩)
    | (refine call_ro [] (awake_ok) GG_no rfl rfl rfl trivial ?_; rintro r bs' ext ⟨rfl, rfl⟩)
    | (refine And.intro (by omega) ?_)
    | (refine BB.mk (fun _h => ?_) (fun _h => ?_) <;> (first | (exact absurd _h (by decide)) | (exfalso; simp only [boolSet] at _h <;> omega) | skip)))
  all_goals (try conv => whnf)
  exact ⟨_, _, FrzV.refl _ _, rfl, rfl, fun _ => rfl, rfl⟩
structure Wq where
  k : Nat
  s : Bool
  n : Int
  f : Int
  l : List De
  c : Nat
  gone : Int
  back : Int
/-- How the law's loop stands. -/
def WInv (node M A : Int) (l : List De) (p : Wq) : Prop := p.k ≤ 260 ∧ (
  ((A < M ∧ p.k ≤ A ∧ A < 260 ∨ M ≤ A ∧ p.k < M) ∧ p.s = true ∧ p.n = node ∧ p.f = M - p.k ∧ p.l = l ∧ p.gone = 0 ∧ p.back = 0) ∨
  ((A < M ∧ A < p.k) ∧ p.s = false ∧ p.n = 0 ∧ p.f = 0 ∧ p.l = [] ∧ p.gone = 0 ∧ p.back = 1) ∨
  ((M ≤ A ∧ M ≤ p.k) ∧ p.s = false ∧ p.n = 0 ∧ p.f = 0 ∧ p.l = [] ∧ p.gone = 1 ∧ p.back = 0))
set_option maxRecDepth 100000 in
set_option maxHeartbeats 4000000 in
theorem waitGood (node other left : Int) (l : List De) (cap : Nat) (at_ : Int) (hl : l.length ≤ 9223372036854775807) (hlf : 0 ≤ left ∧ left ≤ 255) (hat : 0 ≤ at_ ∧ at_ ≤ 65535) (hfew : (l.all (fun d => decide (d.fl.length ≤ 8)) && decide (l.length ≤ 20)) = true) : FnOK Try.prog GG 4 [] [.v (.int .u8 node), .v (.int .u8 other), .v (.int .u8 left), .z 4 (l.map deC) cap, .v (.int .u16 at_)] (fun r _ ext => (r = .v (.bool true)) ∧ ext = []) := by
  obtain ⟨hf, hl20⟩ := few_facts hfew
  obtain ⟨M, hM⟩ : ∃ M, max left 1 = M := ⟨_, rfl⟩
  obtain ⟨A, hA⟩ : ∃ A, IntKind.i64.wrap (at_.tmod 300) = A := ⟨_, rfl⟩
  have hM1 : 1 ≤ M ∧ M ≤ 255 := by omega
  have hA1 : 0 ≤ A ∧ A < 300 := by
    rw [← hA, Int.tmod_eq_emod_of_nonneg hat.1, IntKind.wrap_i64]
    omega
  have hA2 : at_.tmod 300 = A := by
    rw [← hA, Int.tmod_eq_emod_of_nonneg hat.1, IntKind.wrap_i64]
    omega
  refine FnOK.pure GG_no rfl (fn_intro (C := seat) seat_ok [] GG_no (Try.func4) rfl rfl rfl rfl rfl ?_)
  repeat' ((try conv => whnf); first
    | (with_reducible refine OKv.go (C := seat) seat_ok ?_)
    | (with_reducible refine BB_true ?_)
    | (with_reducible refine BB_false ?_)
    | (with_reducible refine Both.mk ?_ ?_)
    | (with_reducible refine VS.mk ?_)
    | (refine PSem.go (C := seat) seat_ok ?_)
    | (refine And.intro (PlanOK.mk (by kernel_rfl) rfl (by kernel_rfl) (by kernel_rfl)) ?_)
    | (refine And.intro rfl (Exists.intro _ (And.intro (by first | assumption | rfl) ?_)))
    | (refine And.intro ⟨rfl, rfl, rfl⟩ ?_)
    | (refine call_ro [] (few_zz l cap _ hl hfew) GG_no rfl rfl rfl trivial ?_; rintro r bs' ext ⟨rfl, rfl⟩)
    | (refine call_ro [] (start_ok node left l cap (by omega) hf M hM) GG_no rfl rfl rfl trivial ?_; rintro r bs' ext ⟨⟨c', hc', rfl⟩, rfl⟩)
    | (refine And.intro (by omega) ?_)
    | (refine BB.mk (fun _h => ?_) (fun _h => ?_) <;> (first | (exact absurd _h (by decide)) | (exfalso; simp only [boolSet] at _h <;> omega) | skip)))
  all_goals (try conv => whnf)
  refine loop_rule (α := Wq) (fun p => WInv node M A l p) (fun p => { slots := [(0, .v (.int .u8 node)), (1, .v (.int .u8 other)), (3, .z 4 (l.map deC) cap), (4, .v (.int .u16 at_)), (11, .p (.n 0) 0 0 0), (12, .v (.int .i64 M)), (13, .v (.int .i64 p.gone)), (14, .v (.int .i64 p.back)), (37, .v (.int .i64 (p.k : Int)))], nt := 152, mem := ⟨GG, [], [.box 31 [.v (.bool p.s), .v (.int .u8 p.n), .v (.int .u8 p.f), .z 4 (p.l.map deC) p.c]]⟩ }) (fun p => 260 - p.k) ⟨0, true, node, M, l, c', 0, 0⟩ ⟨Nat.zero_le _, .inl ⟨by dsimp only; omega, rfl, rfl, by dsimp only; omega, rfl, rfl, rfl⟩⟩ ⟨⟨[0], (by decide), GG_no, rfl, (SubOld.refl _ rfl), ⟨rfl, trivial⟩, ⟨.inl rfl, .inl rfl, .inl rfl, .inl rfl, .inl rfl, .inl (num_eq (by rw [mx_one, IntKind.wrap_i64]; omega)), .inl rfl, .inl rfl, .inl rfl, trivial⟩⟩, rfl⟩ ?_ (fun _ => rfl)
  rintro ⟨k, s, n, ff, ls, c, g, b⟩ ⟨hk, H⟩
  dsimp only at hk H ⊢
  refine vc_sound (C := seat) seat_ok (pl := []) ?_
  have hml : (l.map deC).length = l.length := List.length_map _
  by_cases hlt : k < 260
  · rcases H with ⟨hH, rfl, rfl, rfl, rfl, rfl, rfl⟩ | ⟨hH, rfl, rfl, rfl, rfl, rfl, rfl⟩ | ⟨hH, rfl, rfl, rfl, rfl, rfl, rfl⟩
    · by_cases hkA : (k : Int) = A
      · by_cases hon : other = n
        · subst hon
          repeat' ((try conv => whnf); first
            | (with_reducible refine OKv.go (C := seat) seat_ok ?_)
            | (with_reducible refine BB_true ?_)
            | (with_reducible refine BB_false ?_)
            | (with_reducible refine Both.mk ?_ ?_)
            | (with_reducible refine VS.mk ?_)
            | (refine PSem.go (C := seat) seat_ok ?_)
            | (refine And.intro (PlanOK.mk (by kernel_rfl) rfl (by kernel_rfl) (by kernel_rfl)) ?_)
            | (refine And.intro rfl (Exists.intro _ (And.intro (by first | assumption | rfl) ?_)))
            | (refine And.intro ⟨rfl, rfl, rfl⟩ ?_)
            | (refine call_ro [] (answer_yes other (M - (k : Int)) ls c (by omega) hf) GG_no rfl rfl rfl trivial ?_; rintro r bs' ext ⟨⟨c1, hc1, rfl⟩, rfl⟩)
            | (refine call_ro [] (tick_dead 0 0 [] _) GG_no rfl rfl rfl trivial ?_; rintro r bs' ext ⟨rfl, rfl⟩)
            | (refine call_ro [] (descs_zz ls ls _ _ (by omega) hf true (by simp)) GG_no rfl rfl rfl trivial ?_; rintro r bs' ext ⟨rfl, rfl⟩)
            | (refine call_ro [] (awake_ok) GG_no rfl rfl rfl trivial ?_; rintro r bs' ext ⟨rfl, rfl⟩)
            | (refine BB.mk (fun _h => ?_) (fun _h => ?_) <;> (first | (exact absurd _h (by decide)) | (exfalso; simp only [boolSet, IntKind.wrap_i64] at _h <;> omega) | (simp only [boolSet, IntKind.wrap_i64] at _h) | skip))
            | (refine And.intro (by omega) ?_)
            | (refine BB.mk (fun _h => ?_) (fun _h => ?_) <;> (first | (exact absurd _h (by decide)) | (exfalso; simp only [boolSet] at _h <;> omega) | skip)))
          all_goals (try conv => whnf)
          all_goals first
            | exact ⟨_, _, FrzV.refl _ _, rfl, rfl, fun _ => rfl, rfl⟩
            | exact ⟨⟨k + 1, false, 0, 0, [], 0, 0, 1⟩, ⟨by dsimp only; omega, .inr (.inl ⟨by dsimp only; omega, rfl, rfl, rfl, rfl, rfl, rfl⟩)⟩, by dsimp only; omega, ⟨⟨[0], by decide, GG_no, rfl, SubOld.refl _ rfl, ⟨rfl, trivial⟩, ⟨(by first | exact .inl rfl | exact .inl (num_eq (by rw [IntKind.wrap_i64]; dsimp only; omega))), (by first | exact .inl rfl | exact .inl (num_eq (by rw [IntKind.wrap_i64]; dsimp only; omega))), (by first | exact .inl rfl | exact .inl (num_eq (by rw [IntKind.wrap_i64]; dsimp only; omega))), (by first | exact .inl rfl | exact .inl (num_eq (by rw [IntKind.wrap_i64]; dsimp only; omega))), (by first | exact .inl rfl | exact .inl (num_eq (by rw [IntKind.wrap_i64]; dsimp only; omega))), (by first | exact .inl rfl | exact .inl (num_eq (by rw [IntKind.wrap_i64]; dsimp only; omega))), (by first | exact .inl rfl | exact .inl (num_eq (by rw [IntKind.wrap_i64]; dsimp only; omega))), (by first | exact .inl rfl | exact .inl (num_eq (by rw [IntKind.wrap_i64]; dsimp only; omega))), (by first | exact .inl rfl | exact .inl (num_eq (by rw [IntKind.wrap_i64]; dsimp only; omega))), trivial⟩⟩, rfl⟩⟩
            | (exfalso; simp only [boolSet] at * <;> omega)
        · skip
          repeat' ((try conv => whnf); first
            | (with_reducible refine OKv.go (C := seat) seat_ok ?_)
            | (with_reducible refine BB_true ?_)
            | (with_reducible refine BB_false ?_)
            | (with_reducible refine Both.mk ?_ ?_)
            | (with_reducible refine VS.mk ?_)
            | (refine PSem.go (C := seat) seat_ok ?_)
            | (refine And.intro (PlanOK.mk (by kernel_rfl) rfl (by kernel_rfl) (by kernel_rfl)) ?_)
            | (refine And.intro rfl (Exists.intro _ (And.intro (by first | assumption | rfl) ?_)))
            | (refine And.intro ⟨rfl, rfl, rfl⟩ ?_)
            | (refine call_ro [] (answer_no true n (M - (k : Int)) other (.inr (fun e => hon e.symm)) ls c (by omega) hf) GG_no rfl rfl rfl trivial ?_; rintro r bs' ext ⟨⟨c1, hc1, rfl⟩, rfl⟩)
            | (refine call_ro [] (answer_yes n (M - (k : Int)) ls c (by omega) hf) GG_no rfl rfl rfl trivial ?_; rintro r bs' ext ⟨⟨c1, hc1, rfl⟩, rfl⟩)
            | (refine call_ro [] (tick_dead 0 0 [] _) GG_no rfl rfl rfl trivial ?_; rintro r bs' ext ⟨rfl, rfl⟩)
            | (refine call_ro [] (same_w true true n _ n _ ls ls _ _ (by omega) hf true (by simp)) GG_no rfl rfl rfl trivial ?_; rintro r bs' ext ⟨rfl, rfl⟩)
            | (refine call_ro [] (descs_zz ls ls _ _ (by omega) hf true (by simp)) GG_no rfl rfl rfl trivial ?_; rintro r bs' ext ⟨rfl, rfl⟩)
            | (refine BB.mk (fun _h => ?_) (fun _h => ?_) <;> (first | (exact absurd _h (by decide)) | (exfalso; simp only [boolSet, IntKind.wrap_i64] at _h <;> omega) | (simp only [boolSet, IntKind.wrap_i64] at _h) | skip))
            | (refine And.intro (by omega) ?_)
            | (refine BB.mk (fun _h => ?_) (fun _h => ?_) <;> (first | (exact absurd _h (by decide)) | (exfalso; simp only [boolSet] at _h <;> omega) | skip)))
          all_goals (try conv => whnf)
          all_goals first
            | exact ⟨_, _, FrzV.refl _ _, rfl, rfl, fun _ => rfl, rfl⟩
            | exact ⟨⟨k + 1, false, 0, 0, [], 0, 0, 1⟩, ⟨by dsimp only; omega, .inr (.inl ⟨by dsimp only; omega, rfl, rfl, rfl, rfl, rfl, rfl⟩)⟩, by dsimp only; omega, ⟨⟨[0], by decide, GG_no, rfl, SubOld.refl _ rfl, ⟨rfl, trivial⟩, ⟨(by first | exact .inl rfl | exact .inl (num_eq (by rw [IntKind.wrap_i64]; dsimp only; omega))), (by first | exact .inl rfl | exact .inl (num_eq (by rw [IntKind.wrap_i64]; dsimp only; omega))), (by first | exact .inl rfl | exact .inl (num_eq (by rw [IntKind.wrap_i64]; dsimp only; omega))), (by first | exact .inl rfl | exact .inl (num_eq (by rw [IntKind.wrap_i64]; dsimp only; omega))), (by first | exact .inl rfl | exact .inl (num_eq (by rw [IntKind.wrap_i64]; dsimp only; omega))), (by first | exact .inl rfl | exact .inl (num_eq (by rw [IntKind.wrap_i64]; dsimp only; omega))), (by first | exact .inl rfl | exact .inl (num_eq (by rw [IntKind.wrap_i64]; dsimp only; omega))), (by first | exact .inl rfl | exact .inl (num_eq (by rw [IntKind.wrap_i64]; dsimp only; omega))), (by first | exact .inl rfl | exact .inl (num_eq (by rw [IntKind.wrap_i64]; dsimp only; omega))), trivial⟩⟩, rfl⟩⟩
            | (exfalso; simp only [boolSet] at * <;> omega)
      · by_cases hkM : (k : Int) = M - 1
        · skip
          repeat' ((try conv => whnf); first
            | (with_reducible refine OKv.go (C := seat) seat_ok ?_)
            | (with_reducible refine BB_true ?_)
            | (with_reducible refine BB_false ?_)
            | (with_reducible refine Both.mk ?_ ?_)
            | (with_reducible refine VS.mk ?_)
            | (refine PSem.go (C := seat) seat_ok ?_)
            | (refine And.intro (PlanOK.mk (by kernel_rfl) rfl (by kernel_rfl) (by kernel_rfl)) ?_)
            | (refine And.intro rfl (Exists.intro _ (And.intro (by first | assumption | rfl) ?_)))
            | (refine And.intro ⟨rfl, rfl, rfl⟩ ?_)
            | (refine call_ro [] (tick_last n (M - (k : Int)) ls c (by omega)) GG_no rfl rfl rfl trivial ?_; rintro r bs' ext ⟨rfl, rfl⟩)
            | (refine call_frz 1 rfl (frz_aggT 3 rfl (frz_nil _ 4) rfl) ?_; refine call_ro [] (same_w false false 0 0 0 0 [] [] _ _ (by decide) (by decide) true (by decide)) GG_no rfl rfl rfl trivial ?_; rintro r bs' ext ⟨rfl, rfl⟩)
            | (refine BB.mk (fun _h => ?_) (fun _h => ?_) <;> (first | (exact absurd _h (by decide)) | (exfalso; simp only [boolSet, IntKind.wrap_i64] at _h <;> omega) | (simp only [boolSet, IntKind.wrap_i64] at _h) | skip))
            | (refine And.intro (by omega) ?_)
            | (refine BB.mk (fun _h => ?_) (fun _h => ?_) <;> (first | (exact absurd _h (by decide)) | (exfalso; simp only [boolSet] at _h <;> omega) | skip)))
          all_goals (try conv => whnf)
          all_goals first
            | exact ⟨_, _, FrzV.refl _ _, rfl, rfl, fun _ => rfl, rfl⟩
            | exact ⟨⟨k + 1, false, 0, 0, [], 0, 1, 0⟩, ⟨by dsimp only; omega, .inr (.inr ⟨by dsimp only; omega, rfl, rfl, rfl, rfl, rfl, rfl⟩)⟩, by dsimp only; omega, ⟨⟨[0], by decide, GG_no, rfl, SubOld.refl _ rfl, ⟨rfl, trivial⟩, ⟨(by first | exact .inl rfl | exact .inl (num_eq (by rw [IntKind.wrap_i64]; dsimp only; omega))), (by first | exact .inl rfl | exact .inl (num_eq (by rw [IntKind.wrap_i64]; dsimp only; omega))), (by first | exact .inl rfl | exact .inl (num_eq (by rw [IntKind.wrap_i64]; dsimp only; omega))), (by first | exact .inl rfl | exact .inl (num_eq (by rw [IntKind.wrap_i64]; dsimp only; omega))), (by first | exact .inl rfl | exact .inl (num_eq (by rw [IntKind.wrap_i64]; dsimp only; omega))), (by first | exact .inl rfl | exact .inl (num_eq (by rw [IntKind.wrap_i64]; dsimp only; omega))), (by first | exact .inl rfl | exact .inl (num_eq (by rw [IntKind.wrap_i64]; dsimp only; omega))), (by first | exact .inl rfl | exact .inl (num_eq (by rw [IntKind.wrap_i64]; dsimp only; omega))), (by first | exact .inl rfl | exact .inl (num_eq (by rw [IntKind.wrap_i64]; dsimp only; omega))), trivial⟩⟩, rfl⟩⟩
            | (exfalso; simp only [boolSet] at * <;> omega)
        · skip
          repeat' ((try conv => whnf); first
            | (with_reducible refine OKv.go (C := seat) seat_ok ?_)
            | (with_reducible refine BB_true ?_)
            | (with_reducible refine BB_false ?_)
            | (with_reducible refine Both.mk ?_ ?_)
            | (with_reducible refine VS.mk ?_)
            | (refine PSem.go (C := seat) seat_ok ?_)
            | (refine And.intro (PlanOK.mk (by kernel_rfl) rfl (by kernel_rfl) (by kernel_rfl)) ?_)
            | (refine And.intro rfl (Exists.intro _ (And.intro (by first | assumption | rfl) ?_)))
            | (refine And.intro ⟨rfl, rfl, rfl⟩ ?_)
            | (refine call_ro [] (tick_on n (M - (k : Int)) (by omega) (M - ((k + 1 : Nat) : Int)) (by omega) ls c (by omega) hf) GG_no rfl rfl rfl trivial ?_; rintro r bs' ext ⟨⟨c1, hc1, rfl⟩, rfl⟩)
            | (refine BB.mk (fun _h => ?_) (fun _h => ?_) <;> (first | (exact absurd _h (by decide)) | (exfalso; simp only [boolSet, IntKind.wrap_i64] at _h <;> omega) | (simp only [boolSet, IntKind.wrap_i64] at _h) | skip))
            | (refine And.intro (by omega) ?_)
            | (refine BB.mk (fun _h => ?_) (fun _h => ?_) <;> (first | (exact absurd _h (by decide)) | (exfalso; simp only [boolSet] at _h <;> omega) | skip)))
          all_goals (try conv => whnf)
          all_goals first
            | exact ⟨_, _, FrzV.refl _ _, rfl, rfl, fun _ => rfl, rfl⟩
            | exact ⟨⟨k + 1, true, n, (M - ((k + 1 : Nat) : Int)), ls, c1, 0, 0⟩, ⟨by dsimp only; omega, .inl ⟨by dsimp only; omega, rfl, rfl, by dsimp only, rfl, rfl, rfl⟩⟩, by dsimp only; omega, ⟨⟨[0], by decide, GG_no, rfl, SubOld.refl _ rfl, ⟨rfl, trivial⟩, ⟨(by first | exact .inl rfl | exact .inl (num_eq (by rw [IntKind.wrap_i64]; dsimp only; omega))), (by first | exact .inl rfl | exact .inl (num_eq (by rw [IntKind.wrap_i64]; dsimp only; omega))), (by first | exact .inl rfl | exact .inl (num_eq (by rw [IntKind.wrap_i64]; dsimp only; omega))), (by first | exact .inl rfl | exact .inl (num_eq (by rw [IntKind.wrap_i64]; dsimp only; omega))), (by first | exact .inl rfl | exact .inl (num_eq (by rw [IntKind.wrap_i64]; dsimp only; omega))), (by first | exact .inl rfl | exact .inl (num_eq (by rw [IntKind.wrap_i64]; dsimp only; omega))), (by first | exact .inl rfl | exact .inl (num_eq (by rw [IntKind.wrap_i64]; dsimp only; omega))), (by first | exact .inl rfl | exact .inl (num_eq (by rw [IntKind.wrap_i64]; dsimp only; omega))), (by first | exact .inl rfl | exact .inl (num_eq (by rw [IntKind.wrap_i64]; dsimp only; omega))), trivial⟩⟩, rfl⟩⟩
            | (exfalso; simp only [boolSet] at * <;> omega)
    · skip
      repeat' ((try conv => whnf); first
        | (with_reducible refine OKv.go (C := seat) seat_ok ?_)
        | (with_reducible refine BB_true ?_)
        | (with_reducible refine BB_false ?_)
        | (with_reducible refine Both.mk ?_ ?_)
        | (with_reducible refine VS.mk ?_)
        | (refine PSem.go (C := seat) seat_ok ?_)
        | (refine And.intro (PlanOK.mk (by kernel_rfl) rfl (by kernel_rfl) (by kernel_rfl)) ?_)
        | (refine And.intro rfl (Exists.intro _ (And.intro (by first | assumption | rfl) ?_)))
        | (refine And.intro ⟨rfl, rfl, rfl⟩ ?_)
        | (refine call_ro [] (tick_dead 0 0 [] _) GG_no rfl rfl rfl trivial ?_; rintro r bs' ext ⟨rfl, rfl⟩)
        | (refine BB.mk (fun _h => ?_) (fun _h => ?_) <;> (first | (exact absurd _h (by decide)) | (exfalso; simp only [boolSet, IntKind.wrap_i64] at _h <;> omega) | (simp only [boolSet, IntKind.wrap_i64] at _h) | skip))
        | (refine And.intro (by omega) ?_)
        | (refine BB.mk (fun _h => ?_) (fun _h => ?_) <;> (first | (exact absurd _h (by decide)) | (exfalso; simp only [boolSet] at _h <;> omega) | skip)))
      all_goals (try conv => whnf)
      all_goals first
        | exact ⟨_, _, FrzV.refl _ _, rfl, rfl, fun _ => rfl, rfl⟩
        | exact ⟨⟨k + 1, false, 0, 0, [], 0, 0, 1⟩, ⟨by dsimp only; omega, .inr (.inl ⟨by dsimp only; omega, rfl, rfl, rfl, rfl, rfl, rfl⟩)⟩, by dsimp only; omega, ⟨⟨[0], by decide, GG_no, rfl, SubOld.refl _ rfl, ⟨rfl, trivial⟩, ⟨(by first | exact .inl rfl | exact .inl (num_eq (by rw [IntKind.wrap_i64]; dsimp only; omega))), (by first | exact .inl rfl | exact .inl (num_eq (by rw [IntKind.wrap_i64]; dsimp only; omega))), (by first | exact .inl rfl | exact .inl (num_eq (by rw [IntKind.wrap_i64]; dsimp only; omega))), (by first | exact .inl rfl | exact .inl (num_eq (by rw [IntKind.wrap_i64]; dsimp only; omega))), (by first | exact .inl rfl | exact .inl (num_eq (by rw [IntKind.wrap_i64]; dsimp only; omega))), (by first | exact .inl rfl | exact .inl (num_eq (by rw [IntKind.wrap_i64]; dsimp only; omega))), (by first | exact .inl rfl | exact .inl (num_eq (by rw [IntKind.wrap_i64]; dsimp only; omega))), (by first | exact .inl rfl | exact .inl (num_eq (by rw [IntKind.wrap_i64]; dsimp only; omega))), (by first | exact .inl rfl | exact .inl (num_eq (by rw [IntKind.wrap_i64]; dsimp only; omega))), trivial⟩⟩, rfl⟩⟩
        | (exfalso; simp only [boolSet] at * <;> omega)
    · by_cases hkA : (k : Int) = A
      · skip
        repeat' ((try conv => whnf); first
          | (with_reducible refine OKv.go (C := seat) seat_ok ?_)
          | (with_reducible refine BB_true ?_)
          | (with_reducible refine BB_false ?_)
          | (with_reducible refine Both.mk ?_ ?_)
          | (with_reducible refine VS.mk ?_)
          | (refine PSem.go (C := seat) seat_ok ?_)
          | (refine And.intro (PlanOK.mk (by kernel_rfl) rfl (by kernel_rfl) (by kernel_rfl)) ?_)
          | (refine And.intro rfl (Exists.intro _ (And.intro (by first | assumption | rfl) ?_)))
          | (refine And.intro ⟨rfl, rfl, rfl⟩ ?_)
          | (refine call_ro [] (answer_no false 0 0 other (.inl rfl) [] _ (by decide) (by decide)) GG_no rfl rfl rfl trivial ?_; rintro r bs' ext ⟨⟨c1, hc1, rfl⟩, rfl⟩)
          | (refine call_ro [] (answer_no false 0 0 node (.inl rfl) [] _ (by decide) (by decide)) GG_no rfl rfl rfl trivial ?_; rintro r bs' ext ⟨⟨c1, hc1, rfl⟩, rfl⟩)
          | (refine call_ro [] (tick_dead 0 0 [] _) GG_no rfl rfl rfl trivial ?_; rintro r bs' ext ⟨rfl, rfl⟩)
          | (refine call_ro [] (same_w false false 0 0 0 0 [] [] _ _ (by decide) (by decide) true (by decide)) GG_no rfl rfl rfl trivial ?_; rintro r bs' ext ⟨rfl, rfl⟩)
          | (refine BB.mk (fun _h => ?_) (fun _h => ?_) <;> (first | (exact absurd _h (by decide)) | (exfalso; simp only [boolSet, IntKind.wrap_i64] at _h <;> omega) | (simp only [boolSet, IntKind.wrap_i64] at _h) | skip))
          | (refine And.intro (by omega) ?_)
          | (refine BB.mk (fun _h => ?_) (fun _h => ?_) <;> (first | (exact absurd _h (by decide)) | (exfalso; simp only [boolSet] at _h <;> omega) | skip)))
        all_goals (try conv => whnf)
        all_goals first
          | exact ⟨_, _, FrzV.refl _ _, rfl, rfl, fun _ => rfl, rfl⟩
          | exact ⟨⟨k + 1, false, 0, 0, [], 0, 1, 0⟩, ⟨by dsimp only; omega, .inr (.inr ⟨by dsimp only; omega, rfl, rfl, rfl, rfl, rfl, rfl⟩)⟩, by dsimp only; omega, ⟨⟨[0], by decide, GG_no, rfl, SubOld.refl _ rfl, ⟨rfl, trivial⟩, ⟨(by first | exact .inl rfl | exact .inl (num_eq (by rw [IntKind.wrap_i64]; dsimp only; omega))), (by first | exact .inl rfl | exact .inl (num_eq (by rw [IntKind.wrap_i64]; dsimp only; omega))), (by first | exact .inl rfl | exact .inl (num_eq (by rw [IntKind.wrap_i64]; dsimp only; omega))), (by first | exact .inl rfl | exact .inl (num_eq (by rw [IntKind.wrap_i64]; dsimp only; omega))), (by first | exact .inl rfl | exact .inl (num_eq (by rw [IntKind.wrap_i64]; dsimp only; omega))), (by first | exact .inl rfl | exact .inl (num_eq (by rw [IntKind.wrap_i64]; dsimp only; omega))), (by first | exact .inl rfl | exact .inl (num_eq (by rw [IntKind.wrap_i64]; dsimp only; omega))), (by first | exact .inl rfl | exact .inl (num_eq (by rw [IntKind.wrap_i64]; dsimp only; omega))), (by first | exact .inl rfl | exact .inl (num_eq (by rw [IntKind.wrap_i64]; dsimp only; omega))), trivial⟩⟩, rfl⟩⟩
          | (exfalso; simp only [boolSet] at * <;> omega)
      · skip
        repeat' ((try conv => whnf); first
          | (with_reducible refine OKv.go (C := seat) seat_ok ?_)
          | (with_reducible refine BB_true ?_)
          | (with_reducible refine BB_false ?_)
          | (with_reducible refine Both.mk ?_ ?_)
          | (with_reducible refine VS.mk ?_)
          | (refine PSem.go (C := seat) seat_ok ?_)
          | (refine And.intro (PlanOK.mk (by kernel_rfl) rfl (by kernel_rfl) (by kernel_rfl)) ?_)
          | (refine And.intro rfl (Exists.intro _ (And.intro (by first | assumption | rfl) ?_)))
          | (refine And.intro ⟨rfl, rfl, rfl⟩ ?_)
          | (refine call_ro [] (tick_dead 0 0 [] _) GG_no rfl rfl rfl trivial ?_; rintro r bs' ext ⟨rfl, rfl⟩)
          | (refine BB.mk (fun _h => ?_) (fun _h => ?_) <;> (first | (exact absurd _h (by decide)) | (exfalso; simp only [boolSet, IntKind.wrap_i64] at _h <;> omega) | (simp only [boolSet, IntKind.wrap_i64] at _h) | skip))
          | (refine And.intro (by omega) ?_)
          | (refine BB.mk (fun _h => ?_) (fun _h => ?_) <;> (first | (exact absurd _h (by decide)) | (exfalso; simp only [boolSet] at _h <;> omega) | skip)))
        all_goals (try conv => whnf)
        all_goals first
          | exact ⟨_, _, FrzV.refl _ _, rfl, rfl, fun _ => rfl, rfl⟩
          | exact ⟨⟨k + 1, false, 0, 0, [], 0, 1, 0⟩, ⟨by dsimp only; omega, .inr (.inr ⟨by dsimp only; omega, rfl, rfl, rfl, rfl, rfl, rfl⟩)⟩, by dsimp only; omega, ⟨⟨[0], by decide, GG_no, rfl, SubOld.refl _ rfl, ⟨rfl, trivial⟩, ⟨(by first | exact .inl rfl | exact .inl (num_eq (by rw [IntKind.wrap_i64]; dsimp only; omega))), (by first | exact .inl rfl | exact .inl (num_eq (by rw [IntKind.wrap_i64]; dsimp only; omega))), (by first | exact .inl rfl | exact .inl (num_eq (by rw [IntKind.wrap_i64]; dsimp only; omega))), (by first | exact .inl rfl | exact .inl (num_eq (by rw [IntKind.wrap_i64]; dsimp only; omega))), (by first | exact .inl rfl | exact .inl (num_eq (by rw [IntKind.wrap_i64]; dsimp only; omega))), (by first | exact .inl rfl | exact .inl (num_eq (by rw [IntKind.wrap_i64]; dsimp only; omega))), (by first | exact .inl rfl | exact .inl (num_eq (by rw [IntKind.wrap_i64]; dsimp only; omega))), (by first | exact .inl rfl | exact .inl (num_eq (by rw [IntKind.wrap_i64]; dsimp only; omega))), (by first | exact .inl rfl | exact .inl (num_eq (by rw [IntKind.wrap_i64]; dsimp only; omega))), trivial⟩⟩, rfl⟩⟩
          | (exfalso; simp only [boolSet] at * <;> omega)
  · obtain rfl : k = 260 := by omega
    rcases H with ⟨hH, rfl, rfl, rfl, rfl, rfl, rfl⟩ | ⟨hH, rfl, rfl, rfl, rfl, rfl, rfl⟩ | ⟨hH, rfl, rfl, rfl, rfl, rfl, rfl⟩
    · exfalso; omega
    · skip
      repeat' ((try conv => whnf); first
        | (with_reducible refine OKv.go (C := seat) seat_ok ?_)
        | (with_reducible refine BB_true ?_)
        | (with_reducible refine BB_false ?_)
        | (with_reducible refine Both.mk ?_ ?_)
        | (with_reducible refine VS.mk ?_)
        | (refine PSem.go (C := seat) seat_ok ?_)
        | (refine And.intro (PlanOK.mk (by kernel_rfl) rfl (by kernel_rfl) (by kernel_rfl)) ?_)
        | (refine And.intro rfl (Exists.intro _ (And.intro (by first | assumption | rfl) ?_)))
        | (refine And.intro ⟨rfl, rfl, rfl⟩ ?_)
        | (refine call_frz 1 rfl (frz_aggT 3 rfl (frz_nil _ 4) rfl) ?_; refine call_ro [] (same_w false false 0 0 0 0 [] [] _ _ (by decide) (by decide) true (by decide)) GG_no rfl rfl rfl trivial ?_; rintro r bs' ext ⟨rfl, rfl⟩)
        | (refine call_ro [] (awake_ok) GG_no rfl rfl rfl trivial ?_; rintro r bs' ext ⟨rfl, rfl⟩)
        | (refine BB.mk (fun _h => ?_) (fun _h => ?_) <;> (first | (exact absurd _h (by decide)) | (exfalso; simp only [boolSet, IntKind.wrap_i64] at _h <;> omega) | (simp only [boolSet, IntKind.wrap_i64] at _h) | skip))
        | (refine And.intro (by omega) ?_)
        | (refine BB.mk (fun _h => ?_) (fun _h => ?_) <;> (first | (exact absurd _h (by decide)) | (exfalso; simp only [boolSet] at _h <;> omega) | skip)))
      all_goals (try conv => whnf)
      all_goals first
        | exact ⟨_, _, FrzV.refl _ _, rfl, rfl, fun _ => rfl, rfl⟩
        | exact ⟨⟨0, true, 0, 0, [], 0, 0, 0⟩, ⟨by dsimp only; omega, .inl ⟨by dsimp only; omega, rfl, rfl, by dsimp only, rfl, rfl, rfl⟩⟩, by dsimp only; omega, ⟨⟨[0], by decide, GG_no, rfl, SubOld.refl _ rfl, ⟨rfl, trivial⟩, ⟨(by first | exact .inl rfl | exact .inl (num_eq (by rw [IntKind.wrap_i64]; dsimp only; omega))), (by first | exact .inl rfl | exact .inl (num_eq (by rw [IntKind.wrap_i64]; dsimp only; omega))), (by first | exact .inl rfl | exact .inl (num_eq (by rw [IntKind.wrap_i64]; dsimp only; omega))), (by first | exact .inl rfl | exact .inl (num_eq (by rw [IntKind.wrap_i64]; dsimp only; omega))), (by first | exact .inl rfl | exact .inl (num_eq (by rw [IntKind.wrap_i64]; dsimp only; omega))), (by first | exact .inl rfl | exact .inl (num_eq (by rw [IntKind.wrap_i64]; dsimp only; omega))), (by first | exact .inl rfl | exact .inl (num_eq (by rw [IntKind.wrap_i64]; dsimp only; omega))), (by first | exact .inl rfl | exact .inl (num_eq (by rw [IntKind.wrap_i64]; dsimp only; omega))), (by first | exact .inl rfl | exact .inl (num_eq (by rw [IntKind.wrap_i64]; dsimp only; omega))), trivial⟩⟩, rfl⟩⟩
        | (exfalso; simp only [boolSet] at * <;> omega)
    · skip
      repeat' ((try conv => whnf); first
        | (with_reducible refine OKv.go (C := seat) seat_ok ?_)
        | (with_reducible refine BB_true ?_)
        | (with_reducible refine BB_false ?_)
        | (with_reducible refine Both.mk ?_ ?_)
        | (with_reducible refine VS.mk ?_)
        | (refine PSem.go (C := seat) seat_ok ?_)
        | (refine And.intro (PlanOK.mk (by kernel_rfl) rfl (by kernel_rfl) (by kernel_rfl)) ?_)
        | (refine And.intro rfl (Exists.intro _ (And.intro (by first | assumption | rfl) ?_)))
        | (refine And.intro ⟨rfl, rfl, rfl⟩ ?_)
        | (refine call_frz 1 rfl (frz_aggT 3 rfl (frz_nil _ 4) rfl) ?_; refine call_ro [] (same_w false false 0 0 0 0 [] [] _ _ (by decide) (by decide) true (by decide)) GG_no rfl rfl rfl trivial ?_; rintro r bs' ext ⟨rfl, rfl⟩)
        | (refine call_ro [] (awake_ok) GG_no rfl rfl rfl trivial ?_; rintro r bs' ext ⟨rfl, rfl⟩)
        | (refine BB.mk (fun _h => ?_) (fun _h => ?_) <;> (first | (exact absurd _h (by decide)) | (exfalso; simp only [boolSet, IntKind.wrap_i64] at _h <;> omega) | (simp only [boolSet, IntKind.wrap_i64] at _h) | skip))
        | (refine And.intro (by omega) ?_)
        | (refine BB.mk (fun _h => ?_) (fun _h => ?_) <;> (first | (exact absurd _h (by decide)) | (exfalso; simp only [boolSet] at _h <;> omega) | skip)))
      all_goals (try conv => whnf)
      all_goals first
        | exact ⟨_, _, FrzV.refl _ _, rfl, rfl, fun _ => rfl, rfl⟩
        | exact ⟨⟨0, true, 0, 0, [], 0, 0, 0⟩, ⟨by dsimp only; omega, .inl ⟨by dsimp only; omega, rfl, rfl, by dsimp only, rfl, rfl, rfl⟩⟩, by dsimp only; omega, ⟨⟨[0], by decide, GG_no, rfl, SubOld.refl _ rfl, ⟨rfl, trivial⟩, ⟨(by first | exact .inl rfl | exact .inl (num_eq (by rw [IntKind.wrap_i64]; dsimp only; omega))), (by first | exact .inl rfl | exact .inl (num_eq (by rw [IntKind.wrap_i64]; dsimp only; omega))), (by first | exact .inl rfl | exact .inl (num_eq (by rw [IntKind.wrap_i64]; dsimp only; omega))), (by first | exact .inl rfl | exact .inl (num_eq (by rw [IntKind.wrap_i64]; dsimp only; omega))), (by first | exact .inl rfl | exact .inl (num_eq (by rw [IntKind.wrap_i64]; dsimp only; omega))), (by first | exact .inl rfl | exact .inl (num_eq (by rw [IntKind.wrap_i64]; dsimp only; omega))), (by first | exact .inl rfl | exact .inl (num_eq (by rw [IntKind.wrap_i64]; dsimp only; omega))), (by first | exact .inl rfl | exact .inl (num_eq (by rw [IntKind.wrap_i64]; dsimp only; omega))), (by first | exact .inl rfl | exact .inl (num_eq (by rw [IntKind.wrap_i64]; dsimp only; omega))), trivial⟩⟩, rfl⟩⟩
        | (exfalso; simp only [boolSet] at * <;> omega)
end Go.Proofs.Ytjghbfbifkhloaa
