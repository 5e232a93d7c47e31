/- Law TapeApart. -/
import Derived.Test.YtigmgdfplhfdpaaT23m
namespace Go.Proofs.Ytigmgdfplhfdpaa
open Go.RowKit

def incK (l : List Int) (k : Nat) : List Int := (List.range l.length).map fun i => if i < k then IntKind.u32.wrap (atD l i + 1) else atD l i
theorem incK_len (l : List Int) (k : Nat) : (incK l k).length = l.length := by simp [incK]
theorem incK_at? (l : List Int) (k j : Nat) : (incK l k)[j]? = if j < l.length then some (if j < k then IntKind.u32.wrap (atD l j + 1) else atD l j) else none := by
  unfold incK
  rw [List.getElem?_map]
  by_cases h : j < l.length
  · rw [List.getElem?_range h, if_pos h]; rfl
  · rw [if_neg h, List.getElem?_eq_none (by rw [List.length_range]; omega)]; rfl
theorem incK_zero (l : List Int) : incK l 0 = l := by
  apply List.ext_getElem?
  intro j
  rw [incK_at?, if_neg (Nat.not_lt_zero _)]
  by_cases h : j < l.length
  · rw [if_pos h, atD_some h]
  · rw [if_neg h, List.getElem?_eq_none (by omega)]
theorem incK_row {l : List Int} {k : Nat} (h : k < l.length) : ((incK l k).map nuC)[0 + (k : Int).toNat]? = some [.v (.int .u32 (atD l k))] := by
  rw [Nat.zero_add, Int.toNat_natCast, List.getElem?_map, incK_at?, if_pos h, if_neg (Nat.lt_irrefl _)]; rfl
theorem incK_set {l : List Int} {k : Nat} (h : k < l.length) : ((incK l k).map nuC).set (0 + (k : Int).toNat) [.v (.int .u32 (IntKind.u32.wrap (atD l k + 1)))] = (incK l (k + 1)).map nuC := by
  apply List.ext_getElem?
  intro j
  rw [Nat.zero_add, Int.toNat_natCast, List.getElem?_set, List.length_map, incK_len, List.getElem?_map, List.getElem?_map, incK_at?, incK_at?]
  by_cases hj : k = j
  · subst hj
    rw [if_pos rfl, if_pos h, if_pos h, if_pos (Nat.lt_succ_self _)]; rfl
  · rw [if_neg hj]
    by_cases h1 : j < k
    · rw [if_pos h1, if_pos (show j < k + 1 by omega)]
    · rw [if_neg h1, if_neg (show ¬ j < k + 1 by omega)]
theorem nu_at0 {l : List Int} {k : Nat} {y : Int} (h : l[k]? = some y) : (l.map nuC)[0 + (k : Int).toNat]? = some [.v (.int .u32 y)] := by
  rw [Nat.zero_add]
  exact nu_at h
set_option maxRecDepth 100000 in
set_option maxHeartbeats 4000000 in
theorem nums_o (l r : List Int) (c1 c2 : Nat) (hl : l.length ≤ 1099511627776) : FnOK Try.prog GG 14 [.ro 1 (l.map nuC), .ro 1 (r.map nuC)] [.s (.o 0) 1 0 l.length c1, .s (.o 1) 1 0 r.length c2] (fun rr _ ext => rr = .v (.bool (decide (l = r))) ∧ ext = []) := by
  by_cases hlen : l.length = r.length
  · refine fn_val (C := seat) seat_ok [(6, (.of [(0, .take), (1, .take), (2, .take), (3, .take), (4, .take), (5, .take), (6, .take), (7, .take), (8, .take)]))] GG_no (Try.func14) rfl rfl rfl rfl rfl (fun _ => rfl) rfl ?_
    repeat' ((try conv => whnf); first
      | (with_reducible refine OKv.go (C := seat) seat_ok ?_)
      | (with_reducible refine BB_true ?_)
      | (with_reducible refine BB_false ?_)
      | (with_reducible refine Both.mk ?_ ?_)
      | (with_reducible refine VS.mk ?_)
      | (refine PSem.go (C := seat) seat_ok ?_)
      | (refine And.intro (PlanOK.mk (by kernel_rfl) rfl (by kernel_rfl) (by kernel_rfl)) ?_)
      | (refine And.intro rfl (Exists.intro _ (And.intro (by first | assumption | rfl) ?_)))
      | (refine And.intro ⟨rfl, rfl, rfl⟩ ?_)
      | (refine And.intro ⟨by omega, by simp only [List.length_map]; omega⟩ (Exists.intro _ (And.intro (by first | assumption | rfl) ?_)))
      | (refine And.intro (by omega) ?_)
      | (refine BB.mk (fun _h => ?_) (fun _h => ?_) <;> (first | (exact absurd _h (by decide)) | (exfalso; simp only [boolSet] at _h <;> omega) | skip)))
    all_goals (try conv => whnf)
    refine loop_rule (α := Nat) (fun k => k ≤ l.length ∧ l.take k = r.take k) (fun k => { slots := [(0, .s (.o 0) 1 0 l.length c1), (1, .s (.o 1) 1 0 r.length c2), (12, .v (.int .i64 l.length)), (13, .v (.int .i64 (k : Int)))], nt := 26, mem := ⟨GG, [.ro 1 (l.map nuC), .ro 1 (r.map nuC)], []⟩ }) (fun k => l.length - k) 0 ⟨Nat.zero_le _, rfl⟩ ⟨⟨[], List.nodup_nil, GG_no, rfl, (SubOld.refl _ rfl), trivial, ⟨.inl rfl, .inl rfl, .inl rfl, .inl rfl, trivial⟩⟩, rfl⟩ ?_ (fun _ => rfl)
    rintro k ⟨hk, heq⟩
    refine vc_sound (C := seat) seat_ok (pl := [(6, (.of [(0, .take), (1, .take), (2, .take), (3, .take), (4, .take), (5, .take), (6, .take), (7, .take), (8, .take)]))]) ?_
    by_cases hlt : k < l.length
    · obtain ⟨y, hy⟩ : ∃ y, l[k]? = some y := ⟨_, List.getElem?_eq_getElem hlt⟩
      obtain ⟨z, hz⟩ : ∃ z, r[k]? = some z := ⟨_, List.getElem?_eq_getElem (by omega)⟩
      have hrow := nu_at0 hy
      have hrow2 := nu_at0 hz
      repeat' ((try conv => whnf); first
        | (with_reducible refine OKv.go (C := seat) seat_ok ?_)
        | (with_reducible refine BB_true ?_)
        | (with_reducible refine BB_false ?_)
        | (with_reducible refine Both.mk ?_ ?_)
        | (with_reducible refine VS.mk ?_)
        | (refine PSem.go (C := seat) seat_ok ?_)
        | (refine And.intro (PlanOK.mk (by kernel_rfl) rfl (by kernel_rfl) (by kernel_rfl)) ?_)
        | (refine And.intro rfl (Exists.intro _ (And.intro (by first | assumption | rfl) ?_)))
        | (refine And.intro ⟨rfl, rfl, rfl⟩ ?_)
        | (refine And.intro ⟨by omega, by simp only [List.length_map]; omega⟩ (Exists.intro _ (And.intro (by first | assumption | rfl) ?_)))
        | (refine And.intro (by omega) ?_)
        | (refine BB.mk (fun _h => ?_) (fun _h => ?_) <;> (first | (exact absurd _h (by decide)) | (exfalso; simp only [boolSet] at _h <;> omega) | skip)))
      all_goals (try conv => whnf)
      all_goals (try (refine Fin.mk ?_))
      all_goals first
        | (have hne : y ≠ z := by intro e; subst e; simp only [boolSet] at * <;> omega
           exact ⟨bool_eq (decide_eq_false (same_ne hy hz hne)).symm, rfl⟩)
        | (have hyz : y = z := by simp only [boolSet] at * <;> omega
           subst hyz
           exact ⟨k + 1, ⟨by omega, same_take heq hy hz⟩, by omega, ⟨⟨[], List.nodup_nil, GG_no, rfl, SubOld.refl _ rfl, trivial, ⟨.inl rfl, .inl rfl, .inl rfl, .inl (num_eq (by rw [IntKind.wrap_i64]; omega)), trivial⟩⟩, rfl⟩⟩)
    · have e : l = r := by
        rw [List.take_of_length_le (by omega), List.take_of_length_le (by omega)] at heq
        exact heq
      repeat' ((try conv => whnf); first
        | (with_reducible refine OKv.go (C := seat) seat_ok ?_)
        | (with_reducible refine BB_true ?_)
        | (with_reducible refine BB_false ?_)
        | (with_reducible refine Both.mk ?_ ?_)
        | (with_reducible refine VS.mk ?_)
        | (refine PSem.go (C := seat) seat_ok ?_)
        | (refine And.intro (PlanOK.mk (by kernel_rfl) rfl (by kernel_rfl) (by kernel_rfl)) ?_)
        | (refine And.intro rfl (Exists.intro _ (And.intro (by first | assumption | rfl) ?_)))
        | (refine And.intro ⟨rfl, rfl, rfl⟩ ?_)
        | (refine And.intro (by omega) ?_)
        | (refine BB.mk (fun _h => ?_) (fun _h => ?_) <;> (first | (exact absurd _h (by decide)) | (exfalso; simp only [boolSet] at _h <;> omega) | skip)))
      all_goals (try conv => whnf)
      exact Fin.mk ⟨bool_eq (decide_eq_true e).symm, rfl⟩
  · have e : l ≠ r := fun h => hlen (by rw [h])
    refine fn_val (C := seat) seat_ok [(6, (.of [(0, .take), (1, .take), (2, .take), (3, .take), (4, .take), (5, .take), (6, .take), (7, .take), (8, .take)]))] GG_no (Try.func14) rfl rfl rfl rfl rfl (fun _ => rfl) rfl ?_
    repeat' ((try conv => whnf); first
      | (with_reducible refine OKv.go (C := seat) seat_ok ?_)
      | (with_reducible refine BB_true ?_)
      | (with_reducible refine BB_false ?_)
      | (with_reducible refine Both.mk ?_ ?_)
      | (with_reducible refine VS.mk ?_)
      | (refine PSem.go (C := seat) seat_ok ?_)
      | (refine And.intro (PlanOK.mk (by kernel_rfl) rfl (by kernel_rfl) (by kernel_rfl)) ?_)
      | (refine And.intro rfl (Exists.intro _ (And.intro (by first | assumption | rfl) ?_)))
      | (refine And.intro ⟨rfl, rfl, rfl⟩ ?_)
      | (refine And.intro (by omega) ?_)
      | (refine BB.mk (fun _h => ?_) (fun _h => ?_) <;> (first | (exact absurd _h (by decide)) | (exfalso; simp only [boolSet] at _h <;> omega) | skip)))
    all_goals (try conv => whnf)
    all_goals (try (refine Fin.mk ?_))
    all_goals first
      | exact ⟨bool_eq (decide_eq_false e).symm, rfl⟩
      | (exfalso; simp only [boolSet] at * <;> omega)
theorem nums_on (l : List Int) (c1 c2 n1 n2 : Nat) (hl : l.length ≤ 1099511627776) (h1 : n1 = l.length) (h2 : n2 = l.length) : FnOK Try.prog GG 14 [.ro 1 (l.map nuC), .ro 1 (l.map nuC)] [.s (.o 0) 1 0 n1 c1, .s (.o 1) 1 0 n2 c2] (fun rr _ ext => rr = .v (.bool true) ∧ ext = []) := by
  subst h1; subst h2
  have h := nums_o l l c1 c2 hl
  rw [decide_eq_true rfl] at h
  exact h
theorem some_oc (l : List Int) (c : Nat) (at_ : Int) (hl : l.length ≤ 1099511627776) (hc : l.length ≤ c) (m : Int) (hm : m ≤ 9223372036854775807) (hm1 : 1 ≤ m) (k : Nat) (hk : cntN m = k) : FnOK Try.prog GG 11 [] [tpS l c at_, .v (.int .i64 m)] (fun r _ ext => ∃ c1 c2, l.length ≤ c1 ∧ k ≤ c2 ∧ r = .tup [.s (.n 1) 1 0 k c2, .agg [.s (.n 0) 1 0 l.length c1, .v (.int .i64 (posK l (plI l at_) k))]] ∧ ext = [.row 34 1 c1 (l.map nuC), .row 34 1 c2 ((someK l (plI l at_) k).map nuC)]) := by
  subst hk
  exact some_own l c at_ hl hc m hm hm1
set_option maxRecDepth 100000 in
set_option maxHeartbeats 4000000 in
theorem tapeApart_ok (l : List Int) (c : Nat) (p : Int) (hc : l.length ≤ c) (hl : l.length ≤ 9223372036854775807) (hok : ∀ y ∈ l, NuOk y) : FnOK Try.prog GG 6 [] [tpS l c p] (fun r _ ext => (r = .v (.bool true)) ∧ ext = []) := by
  have hml : (l.map nuC).length = l.length := List.length_map _
  by_cases hbad : l.length = 0 ∨ 200 < l.length
  · refine FnOK.pure GG_no rfl (fn_intro (C := seat) seat_ok [] GG_no (Try.func6) rfl rfl rfl rfl rfl ?_)
    repeat' ((try conv => whnf); first
      | (with_reducible refine OKv.go (C := seat) seat_ok ?_)
      | (with_reducible refine BB_true ?_)
      | (with_reducible refine BB_false ?_)
      | (with_reducible refine Both.mk ?_ ?_)
      | (with_reducible refine VS.mk ?_)
      | (refine PSem.go (C := seat) seat_ok ?_)
      | (refine And.intro (PlanOK.mk (by kernel_rfl) rfl (by kernel_rfl) (by kernel_rfl)) ?_)
      | (refine And.intro rfl (Exists.intro _ (And.intro (by first | assumption | rfl) ?_)))
      | (refine And.intro ⟨rfl, rfl, rfl⟩ ?_)
      | (refine call_ro [] (awake_ok) GG_no rfl rfl rfl trivial ?_; rintro r bs' ext ⟨rfl, rfl⟩)
      | (refine BB.mk (fun _h => ?_) (fun _h => ?_) <;> (first | (exact absurd _h (by decide)) | (exfalso; simp only [bne_self_eq_false, beq_self_eq_true, Bool.false_eq_true, Bool.true_eq_false] at _h; done) | (exfalso; simp only [boolSet, hml] at _h <;> omega) | (simp only [boolSet, hml] at _h) | skip))
      | (refine And.intro (by omega) ?_)
      | (refine BB.mk (fun _h => ?_) (fun _h => ?_) <;> (first | (exact absurd _h (by decide)) | (exfalso; simp only [boolSet] at _h <;> omega) | skip)))
    all_goals (try conv => whnf)
    all_goals first
      | exact ⟨_, _, FrzV.refl _ _, rfl, rfl, fun _ => rfl, rfl⟩
      | (exfalso; omega)
  · have hsl := someK_len l (plI l p) l.length
    have hsm : ((someK l (plI l p) l.length).map nuC).length = l.length := by rw [List.length_map, hsl]
    refine FnOK.pure GG_no rfl (fn_intro (C := seat) seat_ok [] GG_no (Try.func6) rfl rfl rfl rfl rfl ?_)
    repeat' ((try conv => whnf); first
      | (with_reducible refine OKv.go (C := seat) seat_ok ?_)
      | (with_reducible refine BB_true ?_)
      | (with_reducible refine BB_false ?_)
      | (with_reducible refine Both.mk ?_ ?_)
      | (with_reducible refine VS.mk ?_)
      | (refine PSem.go (C := seat) seat_ok ?_)
      | (refine And.intro (PlanOK.mk (by kernel_rfl) rfl (by kernel_rfl) (by kernel_rfl)) ?_)
      | (refine And.intro rfl (Exists.intro _ (And.intro (by first | assumption | rfl) ?_)))
      | (refine And.intro ⟨rfl, rfl, rfl⟩ ?_)
      | (refine call_ro [] (awake_ok) GG_no rfl rfl rfl trivial ?_; rintro r bs' ext ⟨rfl, rfl⟩)
      | (refine call_ro [] (draw_own l c p (by omega) hc 5 (by decide) hok) GG_no rfl rfl rfl trivial ?_; rintro r bs' ext ⟨c2, hc2, rfl, rfl⟩)
      | (refine call_ro [] (draw_own l c p (by omega) hc 0 (by decide) hok) GG_no rfl rfl rfl trivial ?_; rintro r bs' ext ⟨c3, hc3, rfl, rfl⟩)
      | (refine call_ro [] (some_oc l c p (by omega) hc ((l.map nuC).length : Int) (by omega) (by omega) l.length (cnt_le (by rw [List.length_map]) (by omega))) GG_no rfl rfl rfl trivial ?_; rintro r bs' ext ⟨c4, c5, hc4, hc5, rfl, rfl⟩)
      | (refine call_ro [.n 3, .n 2] (nums_on l _ _ _ _ (by omega) (by first | rfl | omega) (by first | rfl | omega)) GG_no rfl rfl rfl ⟨⟨_, rfl, rfl, rfl⟩, ⟨_, rfl, rfl, rfl⟩, trivial⟩ ?_; rintro r bs' ext ⟨rfl, rfl⟩)
      | (refine call_ro [.n 5, .n 2] (nums_on l _ _ _ _ (by omega) (by first | rfl | omega) (by first | rfl | omega)) GG_no rfl rfl rfl ⟨⟨_, rfl, rfl, rfl⟩, ⟨_, rfl, rfl, rfl⟩, trivial⟩ ?_; rintro r bs' ext ⟨rfl, rfl⟩)
      | (refine call_ro [.n 7, .n 2] (nums_on l _ _ _ _ (by omega) (by first | rfl | omega) (by first | rfl | omega)) GG_no rfl rfl rfl ⟨⟨_, rfl, rfl, rfl⟩, ⟨_, rfl, rfl, rfl⟩, trivial⟩ ?_; rintro r bs' ext ⟨rfl, rfl⟩)
      | (refine BB.mk (fun _h => ?_) (fun _h => ?_) <;> (first | (exact absurd _h (by decide)) | (exfalso; simp only [bne_self_eq_false, beq_self_eq_true, Bool.false_eq_true, Bool.true_eq_false] at _h; done) | (exfalso; simp only [boolSet, hml] at _h <;> omega) | (simp only [boolSet, hml] at _h) | skip))
      | (refine And.intro ⟨rfl, rfl, rfl, by first | (simp only [chunks_len, List.length_map, List.length_take, List.length_drop, List.length_append, List.length_cons, List.length_nil] <;> omega) | omega | rfl⟩ ?_)
      | (refine And.intro ⟨rfl, by first | (simp only [chunks_len, List.length_map, List.length_take, List.length_drop, List.length_append, List.length_cons, List.length_nil] <;> omega) | omega | rfl⟩ ?_)
      | (refine And.intro (by first | exact ⟨rfl, Nat.le_refl _⟩ | first | (simp only [chunks_len, List.length_map, List.length_take, List.length_drop, List.length_append, List.length_cons, List.length_nil] <;> omega) | omega | rfl) ?_)
      | (refine fun (caps : Nat → Nat) hcaps => ?_; conv at hcaps => whnf)
      | (refine fun (cap' : Nat) hcap' => ?_)
      | (refine And.intro (by dsimp only; simp only [List.length_map, List.length_nil]; omega) ?_)
      | (refine And.intro (by omega) ?_)
      | (refine BB.mk (fun _h => ?_) (fun _h => ?_) <;> (first | (exact absurd _h (by decide)) | (exfalso; simp only [boolSet] at _h <;> omega) | skip)))
    all_goals (try conv => whnf)
    refine loop_rule (α := Nat) (fun k => k ≤ l.length) (fun k => { slots := [(1, .p (.n 0) 0 0 0), (3, .s (.n 1) 1 0 (0 + (l.map nuC).length) cap'), (5, .p (.n 3) 0 0 0), (7, .p (.n 5) 0 0 0), (8, .s (.n 7) 1 0 l.length c5), (9, .p (.n 8) 0 0 0), (71, .v (.int .i64 ((0 + (l.map nuC).length) : Nat))), (72, .v (.int .i64 (k : Int)))], nt := 110, mem := ⟨GG, [], [.box 24 [.z 1 (l.map nuC) c, .v (.int .i64 p)], .row 34 1 cap' (l.map nuC), .row 34 1 c2 ((incK l k).map nuC), .box 24 [.s (.n 2) 1 0 l.length c2, .v (.int .i64 (drP l (plI l p) 5))], .row 34 1 c3 ((incK l k).map nuC), .box 24 [.s (.n 4) 1 0 l.length c3, .v (.int .i64 (drP l (plI l p) 0))], .row 34 1 c4 ((incK l k).map nuC), .row 34 1 c5 ((incK (someK l (plI l p) l.length) k).map nuC), .box 24 [.s (.n 6) 1 0 l.length c4, .v (.int .i64 (posK l (plI l p) l.length))]]⟩ }) (fun k => l.length - k) 0 (Nat.zero_le _) ⟨⟨[0, 2, 3, 4, 5, 6, 7, 8, 9], by decide, GG_no, rfl, SubOld.refl _ rfl, ⟨rfl, .inr (.inl rfl), .inr (.inl (by dsimp only; rw [incK_zero]; rfl)), rfl, .inr (.inl (by dsimp only; rw [incK_zero]; rfl)), rfl, .inr (.inl (by dsimp only; rw [incK_zero]; rfl)), .inr (.inl (by dsimp only; rw [incK_zero]; rfl)), rfl, trivial⟩, ⟨.inl rfl, .inl rfl, .inl rfl, .inl rfl, .inl rfl, .inl rfl, .inl rfl, .inl rfl, trivial⟩⟩, rfl⟩ ?_ (fun _ => rfl)
    intro k hk
    refine vc_sound (C := seat) seat_ok (pl := []) ?_
    by_cases hlt : k < l.length
    · have hr1 := incK_row hlt
      have hr2 := incK_row (l := someK l (plI l p) l.length) (k := k) (by omega)
      repeat' ((try conv => whnf); first
        | (with_reducible refine OKv.go (C := seat) seat_ok ?_)
        | (with_reducible refine BB_true ?_)
        | (with_reducible refine BB_false ?_)
        | (with_reducible refine Both.mk ?_ ?_)
        | (with_reducible refine VS.mk ?_)
        | (refine PSem.go (C := seat) seat_ok ?_)
        | (refine And.intro (PlanOK.mk (by kernel_rfl) rfl (by kernel_rfl) (by kernel_rfl)) ?_)
        | (refine And.intro rfl (Exists.intro _ (And.intro (by first | assumption | rfl) ?_)))
        | (refine And.intro ⟨rfl, rfl, rfl⟩ ?_)
        | (refine And.intro ⟨by omega, by omega⟩ (Exists.intro _ (And.intro (by assumption) ?_)))
        | (refine BB.mk (fun _h => ?_) (fun _h => ?_) <;> (first | (exact absurd _h (by decide)) | (exfalso; simp only [bne_self_eq_false, beq_self_eq_true, Bool.false_eq_true, Bool.true_eq_false] at _h; done) | (exfalso; simp only [boolSet, hml] at _h <;> omega) | (simp only [boolSet, hml] at _h) | skip))
        | (refine And.intro (by omega) ?_)
        | (refine BB.mk (fun _h => ?_) (fun _h => ?_) <;> (first | (exact absurd _h (by decide)) | (exfalso; simp only [boolSet] at _h <;> omega) | skip)))
      all_goals (try conv => whnf)
      all_goals first
        | exact ⟨k + 1, by omega, by omega, ⟨⟨[0, 1, 2, 3, 4, 5, 6, 7, 8], by decide, GG_no, rfl, SubOld.refl _ rfl, ⟨rfl, .inr (.inl rfl), .inr (.inl (congrArg (fun z => some (SB.row 34 1 c2 z)) (incK_set hlt))), rfl, .inr (.inl (congrArg (fun z => some (SB.row 34 1 c3 z)) (incK_set hlt))), rfl, .inr (.inl (congrArg (fun z => some (SB.row 34 1 c4 z)) (incK_set hlt))), .inr (.inl (congrArg (fun z => some (SB.row 34 1 c5 z)) (incK_set (l := someK l (plI l p) l.length) (k := k) (by omega)))), rfl, trivial⟩, ⟨.inl rfl, .inl rfl, .inl rfl, .inl rfl, .inl rfl, .inl rfl, .inl rfl, .inl (num_eq (by rw [IntKind.wrap_i64]; omega)), trivial⟩⟩, rfl⟩⟩
        | trace_state
    · obtain rfl : k = l.length := by omega
      repeat' ((try conv => whnf); first
        | (with_reducible refine OKv.go (C := seat) seat_ok ?_)
        | (with_reducible refine BB_true ?_)
        | (with_reducible refine BB_false ?_)
        | (with_reducible refine Both.mk ?_ ?_)
        | (with_reducible refine VS.mk ?_)
        | (refine PSem.go (C := seat) seat_ok ?_)
        | (refine And.intro (PlanOK.mk (by kernel_rfl) rfl (by kernel_rfl) (by kernel_rfl)) ?_)
        | (refine And.intro rfl (Exists.intro _ (And.intro (by first | assumption | rfl) ?_)))
        | (refine And.intro ⟨rfl, rfl, rfl⟩ ?_)
        | (refine call_frz 1 rfl (frz_rowF (els' := l.map nuC) (by rfl) (by rw [Nat.zero_add]) (by rfl)) ?_; refine call_ro [] (nums_b l l _ _ (by omega) true (by simp)) GG_no rfl rfl rfl trivial ?_; rintro r bs' ext ⟨rfl, rfl⟩)
        | (refine call_ro [] (awake_ok) GG_no rfl rfl rfl trivial ?_; rintro r bs' ext ⟨rfl, rfl⟩)
        | (refine BB.mk (fun _h => ?_) (fun _h => ?_) <;> (first | (exact absurd _h (by decide)) | (exfalso; simp only [bne_self_eq_false, beq_self_eq_true, Bool.false_eq_true, Bool.true_eq_false] at _h; done) | (exfalso; simp only [boolSet, hml] at _h <;> omega) | (simp only [boolSet, hml] at _h) | skip))
        | (refine And.intro (by omega) ?_)
        | (refine BB.mk (fun _h => ?_) (fun _h => ?_) <;> (first | (exact absurd _h (by decide)) | (exfalso; simp only [boolSet] at _h <;> omega) | skip)))
      all_goals (try conv => whnf)
      all_goals first
        | exact ⟨_, _, FrzV.refl _ _, rfl, rfl, fun _ => rfl, rfl⟩
        | trace_state
end Go.Proofs.Ytigmgdfplhfdpaa
