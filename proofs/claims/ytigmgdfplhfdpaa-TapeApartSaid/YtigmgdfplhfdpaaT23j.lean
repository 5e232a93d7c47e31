/- Law TapeParts. -/
import Derived.Test.YtigmgdfplhfdpaaT23g
import Derived.Test.YtigmgdfplhfdpaaT23e
namespace Go.Proofs.Ytigmgdfplhfdpaa
open Go.RowKit

theorem numK_add (l : List Int) (p x j : Nat) : numK l (posK l p x) j = numK l p (x + j) := by
  unfold numK posK
  split
  · rfl
  · rw [Nat.mod_add_mod, Nat.add_assoc]
theorem posK_add (l : List Int) (p x y : Nat) : posK l (posK l p x) y = posK l p (x + y) := by
  unfold posK
  split
  · rfl
  · rw [Nat.mod_add_mod, Nat.add_assoc]
theorem someK_add (l : List Int) (p x : Nat) : ∀ y, someK l p x ++ someK l (posK l p x) y = someK l p (x + y)
  | 0 => by simp [someK]
  | y + 1 => by
    rw [someK_succ, ← List.append_assoc, someK_add l p x y, numK_add, ← Nat.add_assoc, someK_succ]
theorem cnt_le {m : Int} {k : Nat} (h : m = (k : Int)) (hk : k ≤ 1000) : cntN m = k := by unfold cntN; omega
theorem some_c (l : List Int) (c : Nat) (at_ : Int) (hl : l.length ≤ 1099511627776) (hc : l.length ≤ c) (p : Nat) (hp : plI l at_ = p) (m : Int) (k : Nat) (hm : cntN m = k) (hm2 : m ≤ 9223372036854775807) : FnOK Try.prog GG 11 [] [tpS l c at_, .v (.int .i64 m)] (fun r _ ext => (∃ c1 c2, (l.length ≤ c1 ∧ k ≤ c2) ∧ r = .tup [.z 1 ((someK l p k).map nuC) c2, tpS l c1 (posK l p k)]) ∧ ext = []) := by
  subst hp; subst hm
  exact some_z l c at_ hl hc m hm2
set_option maxRecDepth 100000 in
set_option maxHeartbeats 4000000 in
theorem tapeParts_ok (l : List Int) (c : Nat) (p a b at2 : Int) (hc : l.length ≤ c) (hl : l.length ≤ 9223372036854775807) (hok : ∀ y ∈ l, NuOk y) (ha : 0 ≤ a ∧ a ≤ 65535) (hb : 0 ≤ b ∧ b ≤ 65535) : FnOK Try.prog GG 5 [] [tpS l c p, .v (.int .u16 a), .v (.int .u16 b), .v (.int .i64 at2)] (fun r _ ext => (r = .v (.bool true)) ∧ ext = []) := by
  have hml : (l.map nuC).length = l.length := List.length_map _
  by_cases h2 : 200 < l.length
  · refine FnOK.pure GG_no rfl (fn_intro (C := seat) seat_ok [] GG_no (Try.func5) rfl rfl rfl rfl rfl ?_)
    repeat' ((try conv => whnf); first
      | (with_reducible refine OKv.go (C := seat) seat_ok ?_)
      | (with_reducible refine BB_true ?_)
      | (with_reducible refine BB_false ?_)
      | (with_reducible refine Both.mk ?_ ?_)
      | (with_reducible refine VS.mk ?_)
      | (refine PSem.go (C := seat) seat_ok ?_)
      | (refine And.intro (PlanOK.mk (by kernel_rfl) rfl (by kernel_rfl) (by kernel_rfl)) ?_)
      | (refine And.intro rfl (Exists.intro _ (And.intro (by first | assumption | rfl) ?_)))
      | (refine And.intro ⟨rfl, rfl, rfl⟩ ?_)
      | (refine call_ro [] (awake_ok) GG_no rfl rfl rfl trivial ?_; rintro r bs' ext ⟨rfl, rfl⟩)
      | (refine BB.mk (fun _h => ?_) (fun _h => ?_) <;> (first | (exact absurd _h (by decide)) | (exfalso; simp only [bne_self_eq_false, beq_self_eq_true, Bool.false_eq_true, Bool.true_eq_false] at _h; done) | (exfalso; simp only [boolSet, hml] at _h <;> omega) | (simp only [boolSet, hml] at _h) | skip))
      | (refine And.intro (by omega) ?_)
      | (refine BB.mk (fun _h => ?_) (fun _h => ?_) <;> (first | (exact absurd _h (by decide)) | (exfalso; simp only [boolSet] at _h <;> omega) | skip)))
    all_goals (try conv => whnf)
    all_goals exact ⟨_, _, FrzV.refl _ _, rfl, rfl, fun _ => rfl, rfl⟩
  · obtain ⟨P, hP⟩ : ∃ P, plI l p = P := ⟨_, rfl⟩
    have hPz : posK l P 0 = P := by rw [← hP]; exact posK_zero (plI_lt l p)
    obtain ⟨X, hX, hX5⟩ : ∃ X : Nat, (IntKind.i64.wrap (a.tmod 501)) = (X : Int) ∧ X ≤ 500 := ⟨(a % 501).toNat, by rw [Int.tmod_eq_emod_of_nonneg ha.1, IntKind.wrap_i64]; omega, by omega⟩
    obtain ⟨Y, hY, hY5⟩ : ∃ Y : Nat, (IntKind.i64.wrap (b.tmod 501)) = (Y : Int) ∧ Y ≤ 500 := ⟨(b % 501).toNat, by rw [Int.tmod_eq_emod_of_nonneg hb.1, IntKind.wrap_i64]; omega, by omega⟩
    have hXY : IntKind.i64.wrap ((IntKind.i64.wrap (a.tmod 501)) + (IntKind.i64.wrap (b.tmod 501))) = ((X + Y : Nat) : Int) := by rw [hX, hY, IntKind.wrap_i64]; omega
    have hnX : IntKind.i64.wrap (0 - (IntKind.i64.wrap (a.tmod 501))) = -(X : Int) := by rw [hX, IntKind.wrap_i64]; omega
    have hnY : IntKind.i64.wrap (0 - (IntKind.i64.wrap (b.tmod 501))) = -(Y : Int) := by rw [hY, IntKind.wrap_i64]; omega
    obtain ⟨D, hD⟩ : ∃ D, drI l (plI l at2) 1099511627776 = D := ⟨_, rfl⟩
    obtain ⟨Q, hQ⟩ : ∃ Q : Nat, drP l (plI l at2) 1099511627776 = Q := ⟨_, rfl⟩
    have h0 : plI l 0 = 0 := by unfold plI; split <;> rfl
    by_cases hat : 0 ≤ at2 ∧ at2 < l.length
    all_goals
      have hp2 : ¬ (0 ≤ at2 ∧ at2 < l.length) → plI l 0 = plI l at2 := fun h => by
        rw [h0]
        unfold plI
        rw [if_pos (by omega)]
      refine FnOK.pure GG_no rfl (fn_intro (C := seat) seat_ok [] GG_no (Try.func5) rfl rfl rfl rfl rfl ?_)
      repeat' ((try conv => whnf); first
        | (with_reducible refine OKv.go (C := seat) seat_ok ?_)
        | (with_reducible refine BB_true ?_)
        | (with_reducible refine BB_false ?_)
        | (with_reducible refine Both.mk ?_ ?_)
        | (with_reducible refine VS.mk ?_)
        | (refine PSem.go (C := seat) seat_ok ?_)
        | (refine And.intro (PlanOK.mk (by kernel_rfl) rfl (by kernel_rfl) (by kernel_rfl)) ?_)
        | (refine And.intro rfl (Exists.intro _ (And.intro (by first | assumption | rfl) ?_)))
        | (refine And.intro ⟨rfl, rfl, rfl⟩ ?_)
        | (refine call_ro [] (awake_ok) GG_no rfl rfl rfl trivial ?_; rintro r bs' ext ⟨rfl, rfl⟩)
        | (refine call_ro [] (some_c l c p (by omega) hc P hP (IntKind.i64.wrap (a.tmod 501)) X (cnt_le hX (by omega)) (by omega)) GG_no rfl rfl rfl trivial ?_; rintro r bs' ext ⟨⟨c1, c2, ⟨hc1, hc2⟩, rfl⟩, rfl⟩)
        | (refine call_ro [] (some_c l c1 (posK l P X : Int) (by omega) hc1 (posK l P X) plI_pos (IntKind.i64.wrap (b.tmod 501)) Y (cnt_le hY (by omega)) (by omega)) GG_no rfl rfl rfl trivial ?_; rintro r bs' ext ⟨⟨c3, c4, ⟨hc3, hc4⟩, rfl⟩, rfl⟩)
        | (refine call_ro [] (some_c l c p (by omega) hc P hP (IntKind.i64.wrap ((IntKind.i64.wrap (a.tmod 501)) + (IntKind.i64.wrap (b.tmod 501)))) (X + Y) (cnt_le hXY (by omega)) (by omega)) GG_no rfl rfl rfl trivial ?_; rintro r bs' ext ⟨⟨c5, c6, ⟨hc5, hc6⟩, rfl⟩, rfl⟩)
        | (refine call_frz 0 rfl (frz_rowF (els' := (someK l P (X + Y)).map nuC) (by rfl) (by simp [someK_len]) (by rw [← someK_add, List.map_append]; simp; try rfl)) ?_; refine call_ro [] (nums_b (someK l P (X + Y)) (someK l P (X + Y)) _ _ (by rw [someK_len]; omega) true (by simp)) GG_no rfl rfl rfl trivial ?_; rintro r bs' ext ⟨rfl, rfl⟩)
        | (refine call_ro [] (sameT_z l l _ _ (posK l (posK l P X) Y : Int) (posK l P (X + Y) : Int) (by omega) true (by rw [posK_add]; simp)) GG_no rfl rfl rfl trivial ?_; rintro r bs' ext ⟨rfl, rfl⟩)
        | (refine call_ro [] (some_c l c p (by omega) hc P hP 1099511627776 1000 (by decide) (by decide)) GG_no rfl rfl rfl trivial ?_; rintro r bs' ext ⟨⟨c7, c8, ⟨hc7, hc8⟩, rfl⟩, rfl⟩)
        | (refine call_ro [] (some_c l c p (by omega) hc P hP (IntKind.i64.wrap (0 - (IntKind.i64.wrap (a.tmod 501)))) 0 (by rw [hnX]; unfold cntN; omega) (by omega)) GG_no rfl rfl rfl trivial ?_; rintro r bs' ext ⟨⟨c9, c10, ⟨hc9, hc10⟩, rfl⟩, rfl⟩)
        | (refine call_ro [] (draw_b l c p (by omega) hc (IntKind.i64.wrap (0 - (IntKind.i64.wrap (b.tmod 501)))) (by omega) hok 0 (P : Int) (by unfold drI; rw [if_pos (by omega)]) (by unfold drP; rw [if_pos (by omega), hP])) GG_no rfl rfl rfl trivial ?_; rintro r bs' ext ⟨⟨c11, hc11, rfl⟩, rfl⟩)
        | (refine call_ro [] (sameT_z l l _ _ (posK l P 0 : Int) (P : Int) (by omega) true (by rw [hPz]; simp)) GG_no rfl rfl rfl trivial ?_; rintro r bs' ext ⟨rfl, rfl⟩)
        | (refine call_ro [] (nums_b l l _ _ (by omega) true (by simp)) GG_no rfl rfl rfl trivial ?_; rintro r bs' ext ⟨rfl, rfl⟩)
        | (refine call_ro [] (draw_b l c at2 (by omega) hc 1099511627776 (by decide) hok D (Q : Int) hD (by rw [hQ])) GG_no rfl rfl rfl trivial ?_; rintro r bs' ext ⟨⟨c12, hc12, rfl⟩, rfl⟩)
        | (refine call_ro [] (draw_b l c 0 (by omega) hc 1099511627776 (by decide) hok D (Q : Int) (by rw [hp2 (by omega)]; exact hD) (by rw [hp2 (by omega), hQ])) GG_no rfl rfl rfl trivial ?_; rintro r bs' ext ⟨⟨c13, hc13, rfl⟩, rfl⟩)
        | (refine call_ro [] (sameT_z l l _ _ (Q : Int) (Q : Int) (by omega) true (by simp)) GG_no rfl rfl rfl trivial ?_; rintro r bs' ext ⟨rfl, rfl⟩)
        | (refine And.intro (by decide) ?_)
        | (refine And.intro ⟨rfl, rfl, rfl, by first | (simp only [chunks_len, List.length_map, List.length_take, List.length_drop, List.length_append, List.length_cons, List.length_nil] <;> omega) | omega | rfl⟩ ?_)
        | (refine And.intro ⟨rfl, by first | (simp only [chunks_len, List.length_map, List.length_take, List.length_drop, List.length_append, List.length_cons, List.length_nil] <;> omega) | omega | rfl⟩ ?_)
        | (refine And.intro (by first | exact ⟨rfl, Nat.le_refl _⟩ | first | (simp only [chunks_len, List.length_map, List.length_take, List.length_drop, List.length_append, List.length_cons, List.length_nil] <;> omega) | omega | rfl) ?_)
        | (refine fun (caps : Nat → Nat) hcaps => ?_; conv at hcaps => whnf)
        | (refine fun (cap' : Nat) hcap' => ?_)
        | (refine And.intro (by dsimp only; simp only [List.length_map, List.length_append, someK_len]; omega) ?_)
        | (refine BB.mk (fun _h => ?_) (fun _h => ?_) <;> (first | (exact absurd _h (by decide)) | (exfalso; simp only [bne_self_eq_false, beq_self_eq_true, Bool.false_eq_true, Bool.true_eq_false] at _h; done) | (exfalso; simp only [boolSet, List.length_map, someK_len, hXY, not_true_eq_false] at _h <;> omega) | (simp only [boolSet, hml] at _h) | skip))
        | (refine And.intro (by omega) ?_)
        | (refine BB.mk (fun _h => ?_) (fun _h => ?_) <;> (first | (exact absurd _h (by decide)) | (exfalso; simp only [boolSet] at _h <;> omega) | skip)))
      all_goals (try conv => whnf)
      all_goals first
        | exact ⟨_, _, FrzV.refl _ _, rfl, rfl, fun _ => rfl, rfl⟩
        | trace_state
end Go.Proofs.Ytigmgdfplhfdpaa
