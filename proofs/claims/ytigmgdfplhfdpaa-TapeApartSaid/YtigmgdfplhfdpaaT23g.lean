/- References of tape. -/
import Derived.Test.YtigmgdfplhfdpaaT23e
namespace Go.Proofs.Ytigmgdfplhfdpaa
open Go.RowKit

theorem plI_pos {l : List Int} {p k : Nat} : plI l (posK l p k : Int) = posK l p k := by
  by_cases h : l.length = 0
  · rw [posK_nil h]; unfold plI; split <;> omega
  · have := posK_lt h p k
    unfold plI
    rw [if_neg (by omega)]
    omega
theorem tpS_eq {l : List Int} {c : Nat} {a b : Int} (h : a = b) : tpS l c a = tpS l c b := by rw [h]
theorem tupN {l : List Int} {c : Nat} {a b x y : Int} (h1 : a = x) (h2 : b = y) : SV.tup [.v (.int .u32 a), tpS l c b] = .tup [.v (.int .u32 x), tpS l c y] := by rw [h1, h2]
set_option maxRecDepth 100000 in
set_option maxHeartbeats 4000000 in
theorem rplaced_z (l : List Int) (c : Nat) (at_ : Int) (hl : l.length ≤ 1099511627776) (hc : l.length ≤ c) : FnOK Try.prog GG 17 [] [tpS l c at_] (fun r _ ext => (∃ c', l.length ≤ c' ∧ r = tpS l c' (plI l at_)) ∧ ext = []) := by
  have hml : (l.map nuC).length = l.length := List.length_map _
  refine FnOK.pure GG_no rfl (fn_intro (C := seat) seat_ok [] GG_no (Try.func17) rfl rfl rfl rfl rfl ?_)
  repeat' ((try conv => whnf); first
    | (with_reducible refine OKv.go (C := seat) seat_ok ?_)
    | (with_reducible refine BB_true ?_)
    | (with_reducible refine BB_false ?_)
    | (with_reducible refine Both.mk ?_ ?_)
    | (with_reducible refine VS.mk ?_)
    | (refine PSem.go (C := seat) seat_ok ?_)
    | (refine And.intro (PlanOK.mk (by kernel_rfl) rfl (by kernel_rfl) (by kernel_rfl)) ?_)
    | (refine And.intro rfl (Exists.intro _ (And.intro (by first | assumption | rfl) ?_)))
    | (refine And.intro ⟨rfl, rfl, rfl⟩ ?_)
    | (refine BB.mk (fun _h => ?_) (fun _h => ?_) <;> (first | (exact absurd _h (by decide)) | (exfalso; simp only [boolSet, hml] at _h <;> omega) | (simp only [boolSet, hml] at _h) | skip))
    | (refine And.intro ⟨rfl, rfl, rfl, by first | (simp only [chunks_len, List.length_map, List.length_take, List.length_drop, List.length_append, List.length_cons, List.length_nil] <;> omega) | omega | rfl⟩ ?_)
    | (refine And.intro ⟨rfl, by first | (simp only [chunks_len, List.length_map, List.length_take, List.length_drop, List.length_append, List.length_cons, List.length_nil] <;> omega) | omega | rfl⟩ ?_)
    | (refine And.intro (by first | exact ⟨rfl, Nat.le_refl _⟩ | first | (simp only [chunks_len, List.length_map, List.length_take, List.length_drop, List.length_append, List.length_cons, List.length_nil] <;> omega) | omega | rfl) ?_)
    | (refine fun (caps : Nat → Nat) hcaps => ?_; conv at hcaps => whnf)
    | (refine fun (cap' : Nat) hcap' => ?_)
    | (refine And.intro (by omega) ?_)
    | (refine BB.mk (fun _h => ?_) (fun _h => ?_) <;> (first | (exact absurd _h (by decide)) | (exfalso; simp only [boolSet] at _h <;> omega) | skip)))
  all_goals (try conv => whnf)
  all_goals exact ⟨_, _, frz_aggT 0 (by rfl) (frz_rowF (els' := l.map nuC) (by rfl) (by rw [Nat.zero_add]) (by rfl)) (by rfl), rfl, rfl, fun _ => rfl, cap', by omega, tpS_eq (by unfold plI; split <;> omega)⟩
set_option maxRecDepth 100000 in
set_option maxHeartbeats 4000000 in
theorem rnext_z (l : List Int) (c : Nat) (p k : Nat) (a : Int) (hl : l.length ≤ 1099511627776) (ha : a = (posK l p k : Int)) : FnOK Try.prog GG 18 [] [tpS l c a] (fun r _ ext => (r = .tup [.v (.int .u32 (numK l p k)), tpS l c (posK l p (k + 1))]) ∧ ext = []) := by
  subst ha
  have hml : (l.map nuC).length = l.length := List.length_map _
  have hsucc := posK_succ l p k
  by_cases h0 : l.length = 0
  · have hn0 := numK_nil h0 p k
    have hp0 := posK_nil h0 p k
    rw [if_pos h0] at hsucc
    refine FnOK.pure GG_no rfl (fn_intro (C := seat) seat_ok [(2, (.of [(0, .take), (1, .take), (2, .last)])), (7, (.of [(0, .take), (1, .take), (2, .take), (3, .last)]))] GG_no (Try.func18) rfl rfl rfl rfl rfl ?_)
    repeat' ((try conv => whnf); first
      | (with_reducible refine OKv.go (C := seat) seat_ok ?_)
      | (with_reducible refine BB_true ?_)
      | (with_reducible refine BB_false ?_)
      | (with_reducible refine Both.mk ?_ ?_)
      | (with_reducible refine VS.mk ?_)
      | (refine PSem.go (C := seat) seat_ok ?_)
      | (refine And.intro (PlanOK.mk (by kernel_rfl) rfl (by kernel_rfl) (by kernel_rfl)) ?_)
      | (refine And.intro rfl (Exists.intro _ (And.intro (by first | assumption | rfl) ?_)))
      | (refine And.intro ⟨rfl, rfl, rfl⟩ ?_)
      | (refine BB.mk (fun _h => ?_) (fun _h => ?_) <;> (first | (exact absurd _h (by decide)) | (exfalso; simp only [boolSet, hml] at _h <;> omega) | (simp only [boolSet, hml] at _h) | skip))
      | (refine And.intro (by omega) ?_)
      | (refine BB.mk (fun _h => ?_) (fun _h => ?_) <;> (first | (exact absurd _h (by decide)) | (exfalso; simp only [boolSet] at _h <;> omega) | skip)))
    all_goals (try conv => whnf)
    all_goals exact ⟨_, _, FrzV.refl _ _, rfl, rfl, fun _ => rfl, tupN hn0.symm (by rw [hp0, hsucc])⟩
  · have hn0 := numK_pos h0 p k
    have hplt := posK_lt h0 p k
    rw [if_neg h0] at hsucc
    have hrow := atN hplt
    have hw : IntKind.i64.wrap (((posK l p k : Nat) : Int) + 1) = ((posK l p k + 1 : Nat) : Int) := by rw [IntKind.wrap_i64]; omega
    by_cases he : posK l p k + 1 = l.length
    all_goals
      refine FnOK.pure GG_no rfl (fn_intro (C := seat) seat_ok [(2, (.of [(0, .take), (1, .take), (2, .last)])), (7, (.of [(0, .take), (1, .take), (2, .take), (3, .last)]))] GG_no (Try.func18) rfl rfl rfl rfl rfl ?_)
      repeat' ((try conv => whnf); first
        | (with_reducible refine OKv.go (C := seat) seat_ok ?_)
        | (with_reducible refine BB_true ?_)
        | (with_reducible refine BB_false ?_)
        | (with_reducible refine Both.mk ?_ ?_)
        | (with_reducible refine VS.mk ?_)
        | (refine PSem.go (C := seat) seat_ok ?_)
        | (refine And.intro (PlanOK.mk (by kernel_rfl) rfl (by kernel_rfl) (by kernel_rfl)) ?_)
        | (refine And.intro rfl (Exists.intro _ (And.intro (by first | assumption | rfl) ?_)))
        | (refine And.intro ⟨rfl, rfl, rfl⟩ ?_)
        | (refine And.intro ⟨by omega, by simp only [List.length_map]; omega⟩ (Exists.intro _ (And.intro (by first | assumption | rfl) ?_)))
        | (refine BB.mk (fun _h => ?_) (fun _h => ?_) <;> (first | (exact absurd _h (by decide)) | (exfalso; simp only [boolSet, hml, hw] at _h <;> omega) | (simp only [boolSet, hml, hw] at _h) | skip))
        | (refine And.intro (by omega) ?_)
        | (refine BB.mk (fun _h => ?_) (fun _h => ?_) <;> (first | (exact absurd _h (by decide)) | (exfalso; simp only [boolSet] at _h <;> omega) | skip)))
      all_goals (try conv => whnf)
      all_goals first
        | exact ⟨_, _, FrzV.refl _ _, rfl, rfl, fun _ => rfl, tupN hn0.symm (by rw [hsucc, he, Nat.mod_self]; rfl)⟩
        | exact ⟨_, _, FrzV.refl _ _, rfl, rfl, fun _ => rfl, tupN hn0.symm (by rw [hsucc, hw, Nat.mod_eq_of_lt (by omega)])⟩
        | (exfalso; omega)
set_option maxRecDepth 100000 in
set_option maxHeartbeats 4000000 in
theorem rdraw_z (l : List Int) (c : Nat) (at_ : Int) (hl : l.length ≤ 1099511627776) (hc : l.length ≤ c) (n : Int) (hn : n ≤ 9223372036854775807) (hok : ∀ y ∈ l, NuOk y) : FnOK Try.prog GG 10 [] [tpS l c at_, .v (.int .i64 n)] (fun r _ ext => (∃ c', l.length ≤ c' ∧ r = .tup [.v (.int .i64 (drI l (plI l at_) n)), tpS l c' (drP l (plI l at_) n)]) ∧ ext = []) := by
  by_cases hn1 : n < 1
  · refine FnOK.pure GG_no rfl (fn_intro (C := seat) seat_ok [(3, (.of [(0, .take), (1, .take), (2, .last)])), (5, (.of [(0, .take), (1, .take), (2, .take), (3, .take), (4, .take), (5, .take), (6, .last)]))] GG_no (Try.func10) rfl rfl rfl rfl rfl ?_)
    repeat' ((try conv => whnf); first
      | (with_reducible refine OKv.go (C := seat) seat_ok ?_)
      | (with_reducible refine BB_true ?_)
      | (with_reducible refine BB_false ?_)
      | (with_reducible refine Both.mk ?_ ?_)
      | (with_reducible refine VS.mk ?_)
      | (refine PSem.go (C := seat) seat_ok ?_)
      | (refine And.intro (PlanOK.mk (by kernel_rfl) rfl (by kernel_rfl) (by kernel_rfl)) ?_)
      | (refine And.intro rfl (Exists.intro _ (And.intro (by first | assumption | rfl) ?_)))
      | (refine And.intro ⟨rfl, rfl, rfl⟩ ?_)
      | (refine call_ro [] (rplaced_z l c at_ hl hc) GG_no rfl rfl rfl trivial ?_; rintro r bs' ext ⟨⟨c1, hc1, rfl⟩, rfl⟩)
      | (refine BB.mk (fun _h => ?_) (fun _h => ?_) <;> (first | (exact absurd _h (by decide)) | (exfalso; simp only [boolSet] at _h <;> omega) | (simp only [boolSet] at _h) | skip))
      | (refine And.intro (by omega) ?_)
      | (refine BB.mk (fun _h => ?_) (fun _h => ?_) <;> (first | (exact absurd _h (by decide)) | (exfalso; simp only [boolSet] at _h <;> omega) | skip)))
    all_goals (try conv => whnf)
    all_goals exact ⟨_, _, FrzV.refl _ _, rfl, rfl, fun _ => rfl, c1, hc1, tupD (by unfold drI; rw [if_pos hn1]) (by unfold drP; rw [if_pos hn1])⟩
  · have hp0 := posK_zero (plI_lt l at_)
    have hnk := numK_ok hok (plI l at_) 0
    refine FnOK.pure GG_no rfl (fn_intro (C := seat) seat_ok [(3, (.of [(0, .take), (1, .take), (2, .last)])), (5, (.of [(0, .take), (1, .take), (2, .take), (3, .take), (4, .take), (5, .take), (6, .last)]))] GG_no (Try.func10) rfl rfl rfl rfl rfl ?_)
    repeat' ((try conv => whnf); first
      | (with_reducible refine OKv.go (C := seat) seat_ok ?_)
      | (with_reducible refine BB_true ?_)
      | (with_reducible refine BB_false ?_)
      | (with_reducible refine Both.mk ?_ ?_)
      | (with_reducible refine VS.mk ?_)
      | (refine PSem.go (C := seat) seat_ok ?_)
      | (refine And.intro (PlanOK.mk (by kernel_rfl) rfl (by kernel_rfl) (by kernel_rfl)) ?_)
      | (refine And.intro rfl (Exists.intro _ (And.intro (by first | assumption | rfl) ?_)))
      | (refine And.intro ⟨rfl, rfl, rfl⟩ ?_)
      | (refine call_ro [] (rplaced_z l c at_ hl hc) GG_no rfl rfl rfl trivial ?_; rintro r bs' ext ⟨⟨c1, hc1, rfl⟩, rfl⟩)
      | (refine call_ro [] (rnext_z l c1 (plI l at_) 0 _ hl (by rw [hp0])) GG_no rfl rfl rfl trivial ?_; rintro r bs' ext ⟨rfl, rfl⟩)
      | (refine And.intro (by omega) ?_)
      | (refine BB.mk (fun _h => ?_) (fun _h => ?_) <;> (first | (exact absurd _h (by decide)) | (exfalso; simp only [boolSet] at _h <;> omega) | (simp only [boolSet] at _h) | skip))
      | (refine And.intro (by omega) ?_)
      | (refine BB.mk (fun _h => ?_) (fun _h => ?_) <;> (first | (exact absurd _h (by decide)) | (exfalso; simp only [boolSet] at _h <;> omega) | skip)))
    all_goals (try conv => whnf)
    all_goals exact ⟨_, _, FrzV.refl _ _, rfl, rfl, fun _ => rfl, c1, hc1, tupD (by unfold drI; rw [if_neg hn1, show IntKind.i64.wrap (numK l (plI l at_) 0) = numK l (plI l at_) 0 by rw [IntKind.wrap_i64]; have := hnk.1; have := hnk.2; omega]; exact Int.tmod_eq_emod_of_nonneg hnk.1) (by unfold drP; rw [if_neg hn1])⟩
end Go.Proofs.Ytigmgdfplhfdpaa
