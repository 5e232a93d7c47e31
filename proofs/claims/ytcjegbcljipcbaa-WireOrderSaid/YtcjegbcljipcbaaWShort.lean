/- Law WireShort, by computing. -/
import Derived.Test.YtcjegbcljipcbaaWTells
namespace Go.Proofs.Ytcjegbcljipcbaa
open Go.RowKit

theorem textT_sub {l : List Nat} {a k : Nat} (hl : ∀ y ∈ l, y < 256) : ∀ y ∈ (l.drop a).take k, y < 256 := fun y hy => hl y (List.mem_of_mem_drop (List.mem_of_mem_take hy))
theorem same_at (l : List Nat) (E : List (List Value)) (e n c1 c2 : Nat) (e' n' : Nat) (hl : ∀ x ∈ l, x < 256) (h : (E.drop e).take n = l.map bN) (he : e' = e) (hn : n' = n) (hb : e + n ≤ E.length) : FnOK Try.prog GG 13 [.ro 1 E, .ro 1 (l.map bN)] [.s (.o 0) 1 e' n' c1, .s (.o 1) 1 0 l.length c2] (fun r _ ext => r = .v (.bool true) ∧ ext = []) := by
  subst he hn
  exact same_is l l _ _ _ 0 _ _ _ _ true hl hl h (all_row l) hb (all_len l) (decide_eq_true rfl)
set_option maxRecDepth 100000 in
set_option maxHeartbeats 4000000 in
theorem wireShort_yes (b : List Nat) (c1 : Nat) (n most : Int) (hb8 : ∀ y ∈ b, y < 256) (hc1 : b.length ≤ c1) (hn0 : -9223372036854775808 ≤ n) (hn1 : n ≤ 9223372036854775807) (hlen : b.length ≤ 200) (hn : 1 ≤ n ∧ n ≤ 8 ∧ n ≤ b.length) : FnOK Try.prog GG 6 [.ro 1 (b.map bN)] [.s (.o 0) 1 0 b.length c1, .v (.int .i64 n), .v (.int .i64 most)] (fun r _ ext => r = .v (.bool true) ∧ ext = []) := by
  have hT : takeT b n = (takeN (b.take n.toNat), b.drop n.toNat, true) := by rw [takeT, if_pos hn]
  have hd : (b.drop n.toNat).length = b.length - n.toNat := List.length_drop
  have ed : IntKind.i64.wrap ((b.length : Int) - n) = b.length - n := by rw [IntKind.wrap_i64]; omega
  by_cases h2 : 2 ≤ b.length
  · obtain ⟨x, hx⟩ : ∃ x, b[0]? = some x := ⟨_, List.getElem?_eq_getElem (by omega)⟩
    obtain ⟨y, hy⟩ : ∃ y, b[1]? = some y := ⟨_, List.getElem?_eq_getElem (by omega)⟩
    have hrow0 := at_row (all_row b) hx
    have hrow1 := at_row (all_row b) hy
    have eo := or_byte2 (hb8 x (List.mem_of_getElem? hx)) (hb8 y (List.mem_of_getElem? hy))
    rw [← take_two hx hy] at eo
    obtain ⟨z, hz⟩ : ∃ z, takeN (b.take 2) = z := ⟨_, rfl⟩
    rw [hz] at eo
    have ew : IntKind.i64.wrap ((b.length : Int) - 2) = (b.length : Int) - 2 := by rw [IntKind.wrap_i64]; omega
    by_cases hm : (z : Int) ≤ most ∧ z + 2 ≤ b.length
    · have hR : textT b most = ((b.drop 2).take z, b.drop (2 + z), true) := by rw [textT, hz, if_pos ⟨h2, hm⟩]
      have hl1 : ((b.drop 2).take z).length = z := by rw [List.length_take, List.length_drop]; omega
      have hl2 : (b.drop (2 + z)).length = b.length - (2 + z) := List.length_drop
      have hsub := sub_row (a := 2) (k := z) (all_row b) (by omega)
      have hsubl : 0 + 2 + z ≤ (b.map bN).length := by rw [List.length_map]; omega
      have e3 : IntKind.i64.wrap (2 + (((b.drop 2).take z).length : Int)) = 2 + z := by rw [IntKind.wrap_i64, hl1]; omega
      have e4a : IntKind.i64.wrap ((((b.drop 2).take z).length : Int) + ((b.drop (2 + z)).length : Int)) = (b.length : Int) - 2 := by
        rw [IntKind.wrap_i64]
        generalize ((b.drop 2).take z).length = p at *
        generalize (b.drop (2 + z)).length = q at *
        omega
      have e4 : IntKind.i64.wrap (IntKind.i64.wrap ((((b.drop 2).take z).length : Int) + ((b.drop (2 + z)).length : Int)) + 2) = b.length := by
        rw [e4a, IntKind.wrap_i64]
        omega
      refine fn_val (C := seat) seat_ok [(12, (.of [(0, .take), (1, .take), (2, .take), (3, .take), (4, .take), (5, .take), (6, .take), (7, .take), (8, .take), (9, .take), (10, .take)]))] GG_no (Try.func6) rfl rfl rfl rfl rfl (fun _ => rfl) rfl ?_
      repeat' ((try conv => whnf); first
        | (with_reducible refine BB_true ?_)
        | (with_reducible refine BB_false ?_)
        | (with_reducible refine Both.mk ?_ ?_)
        | (with_reducible refine VS.mk ?_)
        | (refine PSem.go (C := seat) seat_ok ?_)
        | (refine And.intro (PlanOK.mk (by kernel_rfl) rfl (by kernel_rfl) (by kernel_rfl)) ?_)
        | (refine And.intro rfl (Exists.intro _ (And.intro (by first | assumption | rfl) ?_)))
        | (refine And.intro ⟨rfl, rfl, rfl⟩ ?_)
        | (refine call_ro [.o 0] (take_is b _ 0 _ _ n (all_row b) (all_len b) hc1 (by omega) hb8 (takeN (b.take n.toNat), b.drop n.toNat, true) hT) GG_no rfl rfl rfl ⟨⟨_, rfl, rfl, rfl⟩, trivial⟩ ?_; rintro r bs' ext ⟨ca, hca, rfl, rfl⟩)
        | (refine call_ro [.o 0] (takeText_is b _ 0 _ _ most (all_row b) (all_len b) hc1 (by omega) hb8 ((b.drop 2).take z, b.drop (2 + z), true) hR) GG_no rfl rfl rfl ⟨⟨_, rfl, rfl, rfl⟩, trivial⟩ ?_; rintro r bs' ext ⟨cb, cc, hcb, hcc, rfl, rfl⟩)
        | (refine And.intro ⟨by (try rw [e3]); omega, by (try rw [e3]); omega, by (try rw [e3]); omega⟩ ?_)
        | (refine call_ro [_, _] (same_at ((b.drop 2).take z) _ (0 + 2) z _ _ _ _ (textT_sub hb8) hsub ?_ ?_ hsubl) GG_no rfl rfl rfl ⟨⟨_, rfl, rfl, rfl⟩, ⟨_, rfl, rfl, rfl⟩, trivial⟩ ?_; (· rfl); (· (rw [e3]; omega)); rintro r bs' ext ⟨rfl, rfl⟩)
        | (refine call_ro [] (awake_ok) GG_no rfl rfl rfl trivial ?_; rintro r bs' ext ⟨rfl, rfl⟩)
        | (refine And.intro (by omega) ?_)
        | (refine BB.mk (fun _h => ?_) (fun _h => ?_) <;> (first | (exact absurd _h (by decide)) | (exfalso; simp only [hl1, hl2, e3, e4, hd, ed, boolSet] at _h <;> omega) | skip)))
      all_goals (try conv => whnf)
      all_goals first
        | exact Fin.mk ⟨rfl, rfl⟩
        | (exfalso; simp only [hl1, hl2, e3, e4, hd, ed, boolSet] at * <;> omega)
    · have hR : textT b most = ([], [], false) := by rw [textT, hz, if_neg (by omega)]
      have ez0 : IntKind.i64.wrap ((([] : List Nat).length : Int) + (([] : List Nat).length : Int)) = 0 := by decide
      rcases (show ¬ (z : Int) ≤ most ∨ ((z : Int) ≤ most ∧ ¬ z + 2 ≤ b.length) by omega) with hm2 | hm2
      all_goals
        refine fn_val (C := seat) seat_ok [(12, (.of [(0, .take), (1, .take), (2, .take), (3, .take), (4, .take), (5, .take), (6, .take), (7, .take), (8, .take), (9, .take), (10, .take)]))] GG_no (Try.func6) rfl rfl rfl rfl rfl (fun _ => rfl) rfl ?_
        repeat' ((try conv => whnf); first
          | (with_reducible refine BB_true ?_)
          | (with_reducible refine BB_false ?_)
          | (with_reducible refine Both.mk ?_ ?_)
          | (with_reducible refine VS.mk ?_)
          | (refine PSem.go (C := seat) seat_ok ?_)
          | (refine And.intro (PlanOK.mk (by kernel_rfl) rfl (by kernel_rfl) (by kernel_rfl)) ?_)
          | (refine And.intro rfl (Exists.intro _ (And.intro (by first | assumption | rfl) ?_)))
          | (refine And.intro ⟨rfl, rfl, rfl⟩ ?_)
          | (refine call_ro [.o 0] (take_is b _ 0 _ _ n (all_row b) (all_len b) hc1 (by omega) hb8 (takeN (b.take n.toNat), b.drop n.toNat, true) hT) GG_no rfl rfl rfl ⟨⟨_, rfl, rfl, rfl⟩, trivial⟩ ?_; rintro r bs' ext ⟨ca, hca, rfl, rfl⟩)
          | (refine call_ro [.o 0] (takeText_is b _ 0 _ _ most (all_row b) (all_len b) hc1 (by omega) hb8 ([], [], false) hR) GG_no rfl rfl rfl ⟨⟨_, rfl, rfl, rfl⟩, trivial⟩ ?_; rintro r bs' ext ⟨cb, cc, hcb, hcc, rfl, rfl⟩)
          | (refine call_ro [] (awake_ok) GG_no rfl rfl rfl trivial ?_; rintro r bs' ext ⟨rfl, rfl⟩)
          | (refine And.intro (by omega) ?_)
          | (refine BB.mk (fun _h => ?_) (fun _h => ?_) <;> (first | (exact absurd _h (by decide)) | (exfalso; simp only [eo, ew, hd, ed, boolSet] at _h <;> omega) | skip)))
        all_goals (try conv => whnf)
        all_goals first
          | exact Fin.mk ⟨rfl, rfl⟩
          | (exfalso; simp only [eo, ew, hd, ed, boolSet] at * <;> omega)
  · have hR : textT b most = ([], [], false) := by rw [textT, if_neg (by omega)]
    refine fn_val (C := seat) seat_ok [(12, (.of [(0, .take), (1, .take), (2, .take), (3, .take), (4, .take), (5, .take), (6, .take), (7, .take), (8, .take), (9, .take), (10, .take)]))] GG_no (Try.func6) rfl rfl rfl rfl rfl (fun _ => rfl) rfl ?_
    repeat' ((try conv => whnf); first
      | (with_reducible refine BB_true ?_)
      | (with_reducible refine BB_false ?_)
      | (with_reducible refine Both.mk ?_ ?_)
      | (with_reducible refine VS.mk ?_)
      | (refine PSem.go (C := seat) seat_ok ?_)
      | (refine And.intro (PlanOK.mk (by kernel_rfl) rfl (by kernel_rfl) (by kernel_rfl)) ?_)
      | (refine And.intro rfl (Exists.intro _ (And.intro (by first | assumption | rfl) ?_)))
      | (refine And.intro ⟨rfl, rfl, rfl⟩ ?_)
      | (refine call_ro [.o 0] (take_is b _ 0 _ _ n (all_row b) (all_len b) hc1 (by omega) hb8 (takeN (b.take n.toNat), b.drop n.toNat, true) hT) GG_no rfl rfl rfl ⟨⟨_, rfl, rfl, rfl⟩, trivial⟩ ?_; rintro r bs' ext ⟨ca, hca, rfl, rfl⟩)
      | (refine call_ro [.o 0] (takeText_is b _ 0 _ _ most (all_row b) (all_len b) hc1 (by omega) hb8 ([], [], false) hR) GG_no rfl rfl rfl ⟨⟨_, rfl, rfl, rfl⟩, trivial⟩ ?_; rintro r bs' ext ⟨cb, cc, hcb, hcc, rfl, rfl⟩)
      | (refine call_ro [] (awake_ok) GG_no rfl rfl rfl trivial ?_; rintro r bs' ext ⟨rfl, rfl⟩)
      | (refine And.intro (by omega) ?_)
      | (refine BB.mk (fun _h => ?_) (fun _h => ?_) <;> (first | (exact absurd _h (by decide)) | (exfalso; simp only [hd, ed, boolSet] at _h <;> omega) | skip)))
    all_goals (try conv => whnf)
    all_goals first
      | exact Fin.mk ⟨rfl, rfl⟩
      | (exfalso; simp only [hd, ed, boolSet] at * <;> omega)
set_option maxRecDepth 100000 in
set_option maxHeartbeats 4000000 in
theorem wireShort_low (b : List Nat) (c1 : Nat) (n most : Int) (hb8 : ∀ y ∈ b, y < 256) (hc1 : b.length ≤ c1) (hn0 : -9223372036854775808 ≤ n) (hn1 : n ≤ 9223372036854775807) (hlen : b.length ≤ 200) (hn : n < 1) : FnOK Try.prog GG 6 [.ro 1 (b.map bN)] [.s (.o 0) 1 0 b.length c1, .v (.int .i64 n), .v (.int .i64 most)] (fun r _ ext => r = .v (.bool true) ∧ ext = []) := by
  have hT : takeT b n = (0, [], false) := by rw [takeT, if_neg (by omega)]
  have hd : True := trivial
  have ed : True := trivial
  by_cases h2 : 2 ≤ b.length
  · obtain ⟨x, hx⟩ : ∃ x, b[0]? = some x := ⟨_, List.getElem?_eq_getElem (by omega)⟩
    obtain ⟨y, hy⟩ : ∃ y, b[1]? = some y := ⟨_, List.getElem?_eq_getElem (by omega)⟩
    have hrow0 := at_row (all_row b) hx
    have hrow1 := at_row (all_row b) hy
    have eo := or_byte2 (hb8 x (List.mem_of_getElem? hx)) (hb8 y (List.mem_of_getElem? hy))
    rw [← take_two hx hy] at eo
    obtain ⟨z, hz⟩ : ∃ z, takeN (b.take 2) = z := ⟨_, rfl⟩
    rw [hz] at eo
    have ew : IntKind.i64.wrap ((b.length : Int) - 2) = (b.length : Int) - 2 := by rw [IntKind.wrap_i64]; omega
    by_cases hm : (z : Int) ≤ most ∧ z + 2 ≤ b.length
    · have hR : textT b most = ((b.drop 2).take z, b.drop (2 + z), true) := by rw [textT, hz, if_pos ⟨h2, hm⟩]
      have hl1 : ((b.drop 2).take z).length = z := by rw [List.length_take, List.length_drop]; omega
      have hl2 : (b.drop (2 + z)).length = b.length - (2 + z) := List.length_drop
      have hsub := sub_row (a := 2) (k := z) (all_row b) (by omega)
      have hsubl : 0 + 2 + z ≤ (b.map bN).length := by rw [List.length_map]; omega
      have e3 : IntKind.i64.wrap (2 + (((b.drop 2).take z).length : Int)) = 2 + z := by rw [IntKind.wrap_i64, hl1]; omega
      have e4a : IntKind.i64.wrap ((((b.drop 2).take z).length : Int) + ((b.drop (2 + z)).length : Int)) = (b.length : Int) - 2 := by
        rw [IntKind.wrap_i64]
        generalize ((b.drop 2).take z).length = p at *
        generalize (b.drop (2 + z)).length = q at *
        omega
      have e4 : IntKind.i64.wrap (IntKind.i64.wrap ((((b.drop 2).take z).length : Int) + ((b.drop (2 + z)).length : Int)) + 2) = b.length := by
        rw [e4a, IntKind.wrap_i64]
        omega
      refine fn_val (C := seat) seat_ok [(12, (.of [(0, .take), (1, .take), (2, .take), (3, .take), (4, .take), (5, .take), (6, .take), (7, .take), (8, .take), (9, .take), (10, .take)]))] GG_no (Try.func6) rfl rfl rfl rfl rfl (fun _ => rfl) rfl ?_
      repeat' ((try conv => whnf); first
        | (with_reducible refine BB_true ?_)
        | (with_reducible refine BB_false ?_)
        | (with_reducible refine Both.mk ?_ ?_)
        | (with_reducible refine VS.mk ?_)
        | (refine PSem.go (C := seat) seat_ok ?_)
        | (refine And.intro (PlanOK.mk (by kernel_rfl) rfl (by kernel_rfl) (by kernel_rfl)) ?_)
        | (refine And.intro rfl (Exists.intro _ (And.intro (by first | assumption | rfl) ?_)))
        | (refine And.intro ⟨rfl, rfl, rfl⟩ ?_)
        | (refine call_ro [.o 0] (take_is b _ 0 _ _ n (all_row b) (all_len b) hc1 (by omega) hb8 (0, [], false) hT) GG_no rfl rfl rfl ⟨⟨_, rfl, rfl, rfl⟩, trivial⟩ ?_; rintro r bs' ext ⟨ca, hca, rfl, rfl⟩)
        | (refine call_ro [.o 0] (takeText_is b _ 0 _ _ most (all_row b) (all_len b) hc1 (by omega) hb8 ((b.drop 2).take z, b.drop (2 + z), true) hR) GG_no rfl rfl rfl ⟨⟨_, rfl, rfl, rfl⟩, trivial⟩ ?_; rintro r bs' ext ⟨cb, cc, hcb, hcc, rfl, rfl⟩)
        | (refine And.intro ⟨by (try rw [e3]); omega, by (try rw [e3]); omega, by (try rw [e3]); omega⟩ ?_)
        | (refine call_ro [_, _] (same_at ((b.drop 2).take z) _ (0 + 2) z _ _ _ _ (textT_sub hb8) hsub ?_ ?_ hsubl) GG_no rfl rfl rfl ⟨⟨_, rfl, rfl, rfl⟩, ⟨_, rfl, rfl, rfl⟩, trivial⟩ ?_; (· rfl); (· (rw [e3]; omega)); rintro r bs' ext ⟨rfl, rfl⟩)
        | (refine call_ro [] (awake_ok) GG_no rfl rfl rfl trivial ?_; rintro r bs' ext ⟨rfl, rfl⟩)
        | (refine And.intro (by omega) ?_)
        | (refine BB.mk (fun _h => ?_) (fun _h => ?_) <;> (first | (exact absurd _h (by decide)) | (exfalso; simp only [hl1, hl2, e3, e4, hd, ed, boolSet] at _h <;> omega) | skip)))
      all_goals (try conv => whnf)
      all_goals first
        | exact Fin.mk ⟨rfl, rfl⟩
        | (exfalso; simp only [hl1, hl2, e3, e4, hd, ed, boolSet] at * <;> omega)
    · have hR : textT b most = ([], [], false) := by rw [textT, hz, if_neg (by omega)]
      have ez0 : IntKind.i64.wrap ((([] : List Nat).length : Int) + (([] : List Nat).length : Int)) = 0 := by decide
      rcases (show ¬ (z : Int) ≤ most ∨ ((z : Int) ≤ most ∧ ¬ z + 2 ≤ b.length) by omega) with hm2 | hm2
      all_goals
        refine fn_val (C := seat) seat_ok [(12, (.of [(0, .take), (1, .take), (2, .take), (3, .take), (4, .take), (5, .take), (6, .take), (7, .take), (8, .take), (9, .take), (10, .take)]))] GG_no (Try.func6) rfl rfl rfl rfl rfl (fun _ => rfl) rfl ?_
        repeat' ((try conv => whnf); first
          | (with_reducible refine BB_true ?_)
          | (with_reducible refine BB_false ?_)
          | (with_reducible refine Both.mk ?_ ?_)
          | (with_reducible refine VS.mk ?_)
          | (refine PSem.go (C := seat) seat_ok ?_)
          | (refine And.intro (PlanOK.mk (by kernel_rfl) rfl (by kernel_rfl) (by kernel_rfl)) ?_)
          | (refine And.intro rfl (Exists.intro _ (And.intro (by first | assumption | rfl) ?_)))
          | (refine And.intro ⟨rfl, rfl, rfl⟩ ?_)
          | (refine call_ro [.o 0] (take_is b _ 0 _ _ n (all_row b) (all_len b) hc1 (by omega) hb8 (0, [], false) hT) GG_no rfl rfl rfl ⟨⟨_, rfl, rfl, rfl⟩, trivial⟩ ?_; rintro r bs' ext ⟨ca, hca, rfl, rfl⟩)
          | (refine call_ro [.o 0] (takeText_is b _ 0 _ _ most (all_row b) (all_len b) hc1 (by omega) hb8 ([], [], false) hR) GG_no rfl rfl rfl ⟨⟨_, rfl, rfl, rfl⟩, trivial⟩ ?_; rintro r bs' ext ⟨cb, cc, hcb, hcc, rfl, rfl⟩)
          | (refine call_ro [] (awake_ok) GG_no rfl rfl rfl trivial ?_; rintro r bs' ext ⟨rfl, rfl⟩)
          | (refine And.intro (by omega) ?_)
          | (refine BB.mk (fun _h => ?_) (fun _h => ?_) <;> (first | (exact absurd _h (by decide)) | (exfalso; simp only [eo, ew, hd, ed, boolSet] at _h <;> omega) | skip)))
        all_goals (try conv => whnf)
        all_goals first
          | exact Fin.mk ⟨rfl, rfl⟩
          | (exfalso; simp only [eo, ew, hd, ed, boolSet] at * <;> omega)
  · have hR : textT b most = ([], [], false) := by rw [textT, if_neg (by omega)]
    refine fn_val (C := seat) seat_ok [(12, (.of [(0, .take), (1, .take), (2, .take), (3, .take), (4, .take), (5, .take), (6, .take), (7, .take), (8, .take), (9, .take), (10, .take)]))] GG_no (Try.func6) rfl rfl rfl rfl rfl (fun _ => rfl) rfl ?_
    repeat' ((try conv => whnf); first
      | (with_reducible refine BB_true ?_)
      | (with_reducible refine BB_false ?_)
      | (with_reducible refine Both.mk ?_ ?_)
      | (with_reducible refine VS.mk ?_)
      | (refine PSem.go (C := seat) seat_ok ?_)
      | (refine And.intro (PlanOK.mk (by kernel_rfl) rfl (by kernel_rfl) (by kernel_rfl)) ?_)
      | (refine And.intro rfl (Exists.intro _ (And.intro (by first | assumption | rfl) ?_)))
      | (refine And.intro ⟨rfl, rfl, rfl⟩ ?_)
      | (refine call_ro [.o 0] (take_is b _ 0 _ _ n (all_row b) (all_len b) hc1 (by omega) hb8 (0, [], false) hT) GG_no rfl rfl rfl ⟨⟨_, rfl, rfl, rfl⟩, trivial⟩ ?_; rintro r bs' ext ⟨ca, hca, rfl, rfl⟩)
      | (refine call_ro [.o 0] (takeText_is b _ 0 _ _ most (all_row b) (all_len b) hc1 (by omega) hb8 ([], [], false) hR) GG_no rfl rfl rfl ⟨⟨_, rfl, rfl, rfl⟩, trivial⟩ ?_; rintro r bs' ext ⟨cb, cc, hcb, hcc, rfl, rfl⟩)
      | (refine call_ro [] (awake_ok) GG_no rfl rfl rfl trivial ?_; rintro r bs' ext ⟨rfl, rfl⟩)
      | (refine And.intro (by omega) ?_)
      | (refine BB.mk (fun _h => ?_) (fun _h => ?_) <;> (first | (exact absurd _h (by decide)) | (exfalso; simp only [hd, ed, boolSet] at _h <;> omega) | skip)))
    all_goals (try conv => whnf)
    all_goals first
      | exact Fin.mk ⟨rfl, rfl⟩
      | (exfalso; simp only [hd, ed, boolSet] at * <;> omega)
set_option maxRecDepth 100000 in
set_option maxHeartbeats 4000000 in
theorem wireShort_high (b : List Nat) (c1 : Nat) (n most : Int) (hb8 : ∀ y ∈ b, y < 256) (hc1 : b.length ≤ c1) (hn0 : -9223372036854775808 ≤ n) (hn1 : n ≤ 9223372036854775807) (hlen : b.length ≤ 200) (hn : 8 < n) : FnOK Try.prog GG 6 [.ro 1 (b.map bN)] [.s (.o 0) 1 0 b.length c1, .v (.int .i64 n), .v (.int .i64 most)] (fun r _ ext => r = .v (.bool true) ∧ ext = []) := by
  have hT : takeT b n = (0, [], false) := by rw [takeT, if_neg (by omega)]
  have hd : True := trivial
  have ed : True := trivial
  by_cases h2 : 2 ≤ b.length
  · obtain ⟨x, hx⟩ : ∃ x, b[0]? = some x := ⟨_, List.getElem?_eq_getElem (by omega)⟩
    obtain ⟨y, hy⟩ : ∃ y, b[1]? = some y := ⟨_, List.getElem?_eq_getElem (by omega)⟩
    have hrow0 := at_row (all_row b) hx
    have hrow1 := at_row (all_row b) hy
    have eo := or_byte2 (hb8 x (List.mem_of_getElem? hx)) (hb8 y (List.mem_of_getElem? hy))
    rw [← take_two hx hy] at eo
    obtain ⟨z, hz⟩ : ∃ z, takeN (b.take 2) = z := ⟨_, rfl⟩
    rw [hz] at eo
    have ew : IntKind.i64.wrap ((b.length : Int) - 2) = (b.length : Int) - 2 := by rw [IntKind.wrap_i64]; omega
    by_cases hm : (z : Int) ≤ most ∧ z + 2 ≤ b.length
    · have hR : textT b most = ((b.drop 2).take z, b.drop (2 + z), true) := by rw [textT, hz, if_pos ⟨h2, hm⟩]
      have hl1 : ((b.drop 2).take z).length = z := by rw [List.length_take, List.length_drop]; omega
      have hl2 : (b.drop (2 + z)).length = b.length - (2 + z) := List.length_drop
      have hsub := sub_row (a := 2) (k := z) (all_row b) (by omega)
      have hsubl : 0 + 2 + z ≤ (b.map bN).length := by rw [List.length_map]; omega
      have e3 : IntKind.i64.wrap (2 + (((b.drop 2).take z).length : Int)) = 2 + z := by rw [IntKind.wrap_i64, hl1]; omega
      have e4a : IntKind.i64.wrap ((((b.drop 2).take z).length : Int) + ((b.drop (2 + z)).length : Int)) = (b.length : Int) - 2 := by
        rw [IntKind.wrap_i64]
        generalize ((b.drop 2).take z).length = p at *
        generalize (b.drop (2 + z)).length = q at *
        omega
      have e4 : IntKind.i64.wrap (IntKind.i64.wrap ((((b.drop 2).take z).length : Int) + ((b.drop (2 + z)).length : Int)) + 2) = b.length := by
        rw [e4a, IntKind.wrap_i64]
        omega
      refine fn_val (C := seat) seat_ok [(12, (.of [(0, .take), (1, .take), (2, .take), (3, .take), (4, .take), (5, .take), (6, .take), (7, .take), (8, .take), (9, .take), (10, .take)]))] GG_no (Try.func6) rfl rfl rfl rfl rfl (fun _ => rfl) rfl ?_
      repeat' ((try conv => whnf); first
        | (with_reducible refine BB_true ?_)
        | (with_reducible refine BB_false ?_)
        | (with_reducible refine Both.mk ?_ ?_)
        | (with_reducible refine VS.mk ?_)
        | (refine PSem.go (C := seat) seat_ok ?_)
        | (refine And.intro (PlanOK.mk (by kernel_rfl) rfl (by kernel_rfl) (by kernel_rfl)) ?_)
        | (refine And.intro rfl (Exists.intro _ (And.intro (by first | assumption | rfl) ?_)))
        | (refine And.intro ⟨rfl, rfl, rfl⟩ ?_)
        | (refine call_ro [.o 0] (take_is b _ 0 _ _ n (all_row b) (all_len b) hc1 (by omega) hb8 (0, [], false) hT) GG_no rfl rfl rfl ⟨⟨_, rfl, rfl, rfl⟩, trivial⟩ ?_; rintro r bs' ext ⟨ca, hca, rfl, rfl⟩)
        | (refine call_ro [.o 0] (takeText_is b _ 0 _ _ most (all_row b) (all_len b) hc1 (by omega) hb8 ((b.drop 2).take z, b.drop (2 + z), true) hR) GG_no rfl rfl rfl ⟨⟨_, rfl, rfl, rfl⟩, trivial⟩ ?_; rintro r bs' ext ⟨cb, cc, hcb, hcc, rfl, rfl⟩)
        | (refine And.intro ⟨by (try rw [e3]); omega, by (try rw [e3]); omega, by (try rw [e3]); omega⟩ ?_)
        | (refine call_ro [_, _] (same_at ((b.drop 2).take z) _ (0 + 2) z _ _ _ _ (textT_sub hb8) hsub ?_ ?_ hsubl) GG_no rfl rfl rfl ⟨⟨_, rfl, rfl, rfl⟩, ⟨_, rfl, rfl, rfl⟩, trivial⟩ ?_; (· rfl); (· (rw [e3]; omega)); rintro r bs' ext ⟨rfl, rfl⟩)
        | (refine call_ro [] (awake_ok) GG_no rfl rfl rfl trivial ?_; rintro r bs' ext ⟨rfl, rfl⟩)
        | (refine And.intro (by omega) ?_)
        | (refine BB.mk (fun _h => ?_) (fun _h => ?_) <;> (first | (exact absurd _h (by decide)) | (exfalso; simp only [hl1, hl2, e3, e4, hd, ed, boolSet] at _h <;> omega) | skip)))
      all_goals (try conv => whnf)
      all_goals first
        | exact Fin.mk ⟨rfl, rfl⟩
        | (exfalso; simp only [hl1, hl2, e3, e4, hd, ed, boolSet] at * <;> omega)
    · have hR : textT b most = ([], [], false) := by rw [textT, hz, if_neg (by omega)]
      have ez0 : IntKind.i64.wrap ((([] : List Nat).length : Int) + (([] : List Nat).length : Int)) = 0 := by decide
      rcases (show ¬ (z : Int) ≤ most ∨ ((z : Int) ≤ most ∧ ¬ z + 2 ≤ b.length) by omega) with hm2 | hm2
      all_goals
        refine fn_val (C := seat) seat_ok [(12, (.of [(0, .take), (1, .take), (2, .take), (3, .take), (4, .take), (5, .take), (6, .take), (7, .take), (8, .take), (9, .take), (10, .take)]))] GG_no (Try.func6) rfl rfl rfl rfl rfl (fun _ => rfl) rfl ?_
        repeat' ((try conv => whnf); first
          | (with_reducible refine BB_true ?_)
          | (with_reducible refine BB_false ?_)
          | (with_reducible refine Both.mk ?_ ?_)
          | (with_reducible refine VS.mk ?_)
          | (refine PSem.go (C := seat) seat_ok ?_)
          | (refine And.intro (PlanOK.mk (by kernel_rfl) rfl (by kernel_rfl) (by kernel_rfl)) ?_)
          | (refine And.intro rfl (Exists.intro _ (And.intro (by first | assumption | rfl) ?_)))
          | (refine And.intro ⟨rfl, rfl, rfl⟩ ?_)
          | (refine call_ro [.o 0] (take_is b _ 0 _ _ n (all_row b) (all_len b) hc1 (by omega) hb8 (0, [], false) hT) GG_no rfl rfl rfl ⟨⟨_, rfl, rfl, rfl⟩, trivial⟩ ?_; rintro r bs' ext ⟨ca, hca, rfl, rfl⟩)
          | (refine call_ro [.o 0] (takeText_is b _ 0 _ _ most (all_row b) (all_len b) hc1 (by omega) hb8 ([], [], false) hR) GG_no rfl rfl rfl ⟨⟨_, rfl, rfl, rfl⟩, trivial⟩ ?_; rintro r bs' ext ⟨cb, cc, hcb, hcc, rfl, rfl⟩)
          | (refine call_ro [] (awake_ok) GG_no rfl rfl rfl trivial ?_; rintro r bs' ext ⟨rfl, rfl⟩)
          | (refine And.intro (by omega) ?_)
          | (refine BB.mk (fun _h => ?_) (fun _h => ?_) <;> (first | (exact absurd _h (by decide)) | (exfalso; simp only [eo, ew, hd, ed, boolSet] at _h <;> omega) | skip)))
        all_goals (try conv => whnf)
        all_goals first
          | exact Fin.mk ⟨rfl, rfl⟩
          | (exfalso; simp only [eo, ew, hd, ed, boolSet] at * <;> omega)
  · have hR : textT b most = ([], [], false) := by rw [textT, if_neg (by omega)]
    refine fn_val (C := seat) seat_ok [(12, (.of [(0, .take), (1, .take), (2, .take), (3, .take), (4, .take), (5, .take), (6, .take), (7, .take), (8, .take), (9, .take), (10, .take)]))] GG_no (Try.func6) rfl rfl rfl rfl rfl (fun _ => rfl) rfl ?_
    repeat' ((try conv => whnf); first
      | (with_reducible refine BB_true ?_)
      | (with_reducible refine BB_false ?_)
      | (with_reducible refine Both.mk ?_ ?_)
      | (with_reducible refine VS.mk ?_)
      | (refine PSem.go (C := seat) seat_ok ?_)
      | (refine And.intro (PlanOK.mk (by kernel_rfl) rfl (by kernel_rfl) (by kernel_rfl)) ?_)
      | (refine And.intro rfl (Exists.intro _ (And.intro (by first | assumption | rfl) ?_)))
      | (refine And.intro ⟨rfl, rfl, rfl⟩ ?_)
      | (refine call_ro [.o 0] (take_is b _ 0 _ _ n (all_row b) (all_len b) hc1 (by omega) hb8 (0, [], false) hT) GG_no rfl rfl rfl ⟨⟨_, rfl, rfl, rfl⟩, trivial⟩ ?_; rintro r bs' ext ⟨ca, hca, rfl, rfl⟩)
      | (refine call_ro [.o 0] (takeText_is b _ 0 _ _ most (all_row b) (all_len b) hc1 (by omega) hb8 ([], [], false) hR) GG_no rfl rfl rfl ⟨⟨_, rfl, rfl, rfl⟩, trivial⟩ ?_; rintro r bs' ext ⟨cb, cc, hcb, hcc, rfl, rfl⟩)
      | (refine call_ro [] (awake_ok) GG_no rfl rfl rfl trivial ?_; rintro r bs' ext ⟨rfl, rfl⟩)
      | (refine And.intro (by omega) ?_)
      | (refine BB.mk (fun _h => ?_) (fun _h => ?_) <;> (first | (exact absurd _h (by decide)) | (exfalso; simp only [hd, ed, boolSet] at _h <;> omega) | skip)))
    all_goals (try conv => whnf)
    all_goals first
      | exact Fin.mk ⟨rfl, rfl⟩
      | (exfalso; simp only [hd, ed, boolSet] at * <;> omega)
set_option maxRecDepth 100000 in
set_option maxHeartbeats 4000000 in
theorem wireShort_far (b : List Nat) (c1 : Nat) (n most : Int) (hb8 : ∀ y ∈ b, y < 256) (hc1 : b.length ≤ c1) (hn0 : -9223372036854775808 ≤ n) (hn1 : n ≤ 9223372036854775807) (hlen : b.length ≤ 200) (hn : 1 ≤ n ∧ n ≤ 8 ∧ b.length < n) : FnOK Try.prog GG 6 [.ro 1 (b.map bN)] [.s (.o 0) 1 0 b.length c1, .v (.int .i64 n), .v (.int .i64 most)] (fun r _ ext => r = .v (.bool true) ∧ ext = []) := by
  have hT : takeT b n = (0, [], false) := by rw [takeT, if_neg (by omega)]
  have hd : True := trivial
  have ed : True := trivial
  by_cases h2 : 2 ≤ b.length
  · obtain ⟨x, hx⟩ : ∃ x, b[0]? = some x := ⟨_, List.getElem?_eq_getElem (by omega)⟩
    obtain ⟨y, hy⟩ : ∃ y, b[1]? = some y := ⟨_, List.getElem?_eq_getElem (by omega)⟩
    have hrow0 := at_row (all_row b) hx
    have hrow1 := at_row (all_row b) hy
    have eo := or_byte2 (hb8 x (List.mem_of_getElem? hx)) (hb8 y (List.mem_of_getElem? hy))
    rw [← take_two hx hy] at eo
    obtain ⟨z, hz⟩ : ∃ z, takeN (b.take 2) = z := ⟨_, rfl⟩
    rw [hz] at eo
    have ew : IntKind.i64.wrap ((b.length : Int) - 2) = (b.length : Int) - 2 := by rw [IntKind.wrap_i64]; omega
    by_cases hm : (z : Int) ≤ most ∧ z + 2 ≤ b.length
    · have hR : textT b most = ((b.drop 2).take z, b.drop (2 + z), true) := by rw [textT, hz, if_pos ⟨h2, hm⟩]
      have hl1 : ((b.drop 2).take z).length = z := by rw [List.length_take, List.length_drop]; omega
      have hl2 : (b.drop (2 + z)).length = b.length - (2 + z) := List.length_drop
      have hsub := sub_row (a := 2) (k := z) (all_row b) (by omega)
      have hsubl : 0 + 2 + z ≤ (b.map bN).length := by rw [List.length_map]; omega
      have e3 : IntKind.i64.wrap (2 + (((b.drop 2).take z).length : Int)) = 2 + z := by rw [IntKind.wrap_i64, hl1]; omega
      have e4a : IntKind.i64.wrap ((((b.drop 2).take z).length : Int) + ((b.drop (2 + z)).length : Int)) = (b.length : Int) - 2 := by
        rw [IntKind.wrap_i64]
        generalize ((b.drop 2).take z).length = p at *
        generalize (b.drop (2 + z)).length = q at *
        omega
      have e4 : IntKind.i64.wrap (IntKind.i64.wrap ((((b.drop 2).take z).length : Int) + ((b.drop (2 + z)).length : Int)) + 2) = b.length := by
        rw [e4a, IntKind.wrap_i64]
        omega
      refine fn_val (C := seat) seat_ok [(12, (.of [(0, .take), (1, .take), (2, .take), (3, .take), (4, .take), (5, .take), (6, .take), (7, .take), (8, .take), (9, .take), (10, .take)]))] GG_no (Try.func6) rfl rfl rfl rfl rfl (fun _ => rfl) rfl ?_
      repeat' ((try conv => whnf); first
        | (with_reducible refine BB_true ?_)
        | (with_reducible refine BB_false ?_)
        | (with_reducible refine Both.mk ?_ ?_)
        | (with_reducible refine VS.mk ?_)
        | (refine PSem.go (C := seat) seat_ok ?_)
        | (refine And.intro (PlanOK.mk (by kernel_rfl) rfl (by kernel_rfl) (by kernel_rfl)) ?_)
        | (refine And.intro rfl (Exists.intro _ (And.intro (by first | assumption | rfl) ?_)))
        | (refine And.intro ⟨rfl, rfl, rfl⟩ ?_)
        | (refine call_ro [.o 0] (take_is b _ 0 _ _ n (all_row b) (all_len b) hc1 (by omega) hb8 (0, [], false) hT) GG_no rfl rfl rfl ⟨⟨_, rfl, rfl, rfl⟩, trivial⟩ ?_; rintro r bs' ext ⟨ca, hca, rfl, rfl⟩)
        | (refine call_ro [.o 0] (takeText_is b _ 0 _ _ most (all_row b) (all_len b) hc1 (by omega) hb8 ((b.drop 2).take z, b.drop (2 + z), true) hR) GG_no rfl rfl rfl ⟨⟨_, rfl, rfl, rfl⟩, trivial⟩ ?_; rintro r bs' ext ⟨cb, cc, hcb, hcc, rfl, rfl⟩)
        | (refine And.intro ⟨by (try rw [e3]); omega, by (try rw [e3]); omega, by (try rw [e3]); omega⟩ ?_)
        | (refine call_ro [_, _] (same_at ((b.drop 2).take z) _ (0 + 2) z _ _ _ _ (textT_sub hb8) hsub ?_ ?_ hsubl) GG_no rfl rfl rfl ⟨⟨_, rfl, rfl, rfl⟩, ⟨_, rfl, rfl, rfl⟩, trivial⟩ ?_; (· rfl); (· (rw [e3]; omega)); rintro r bs' ext ⟨rfl, rfl⟩)
        | (refine call_ro [] (awake_ok) GG_no rfl rfl rfl trivial ?_; rintro r bs' ext ⟨rfl, rfl⟩)
        | (refine And.intro (by omega) ?_)
        | (refine BB.mk (fun _h => ?_) (fun _h => ?_) <;> (first | (exact absurd _h (by decide)) | (exfalso; simp only [hl1, hl2, e3, e4, hd, ed, boolSet] at _h <;> omega) | skip)))
      all_goals (try conv => whnf)
      all_goals first
        | exact Fin.mk ⟨rfl, rfl⟩
        | (exfalso; simp only [hl1, hl2, e3, e4, hd, ed, boolSet] at * <;> omega)
    · have hR : textT b most = ([], [], false) := by rw [textT, hz, if_neg (by omega)]
      have ez0 : IntKind.i64.wrap ((([] : List Nat).length : Int) + (([] : List Nat).length : Int)) = 0 := by decide
      rcases (show ¬ (z : Int) ≤ most ∨ ((z : Int) ≤ most ∧ ¬ z + 2 ≤ b.length) by omega) with hm2 | hm2
      all_goals
        refine fn_val (C := seat) seat_ok [(12, (.of [(0, .take), (1, .take), (2, .take), (3, .take), (4, .take), (5, .take), (6, .take), (7, .take), (8, .take), (9, .take), (10, .take)]))] GG_no (Try.func6) rfl rfl rfl rfl rfl (fun _ => rfl) rfl ?_
        repeat' ((try conv => whnf); first
          | (with_reducible refine BB_true ?_)
          | (with_reducible refine BB_false ?_)
          | (with_reducible refine Both.mk ?_ ?_)
          | (with_reducible refine VS.mk ?_)
          | (refine PSem.go (C := seat) seat_ok ?_)
          | (refine And.intro (PlanOK.mk (by kernel_rfl) rfl (by kernel_rfl) (by kernel_rfl)) ?_)
          | (refine And.intro rfl (Exists.intro _ (And.intro (by first | assumption | rfl) ?_)))
          | (refine And.intro ⟨rfl, rfl, rfl⟩ ?_)
          | (refine call_ro [.o 0] (take_is b _ 0 _ _ n (all_row b) (all_len b) hc1 (by omega) hb8 (0, [], false) hT) GG_no rfl rfl rfl ⟨⟨_, rfl, rfl, rfl⟩, trivial⟩ ?_; rintro r bs' ext ⟨ca, hca, rfl, rfl⟩)
          | (refine call_ro [.o 0] (takeText_is b _ 0 _ _ most (all_row b) (all_len b) hc1 (by omega) hb8 ([], [], false) hR) GG_no rfl rfl rfl ⟨⟨_, rfl, rfl, rfl⟩, trivial⟩ ?_; rintro r bs' ext ⟨cb, cc, hcb, hcc, rfl, rfl⟩)
          | (refine call_ro [] (awake_ok) GG_no rfl rfl rfl trivial ?_; rintro r bs' ext ⟨rfl, rfl⟩)
          | (refine And.intro (by omega) ?_)
          | (refine BB.mk (fun _h => ?_) (fun _h => ?_) <;> (first | (exact absurd _h (by decide)) | (exfalso; simp only [eo, ew, hd, ed, boolSet] at _h <;> omega) | skip)))
        all_goals (try conv => whnf)
        all_goals first
          | exact Fin.mk ⟨rfl, rfl⟩
          | (exfalso; simp only [eo, ew, hd, ed, boolSet] at * <;> omega)
  · have hR : textT b most = ([], [], false) := by rw [textT, if_neg (by omega)]
    refine fn_val (C := seat) seat_ok [(12, (.of [(0, .take), (1, .take), (2, .take), (3, .take), (4, .take), (5, .take), (6, .take), (7, .take), (8, .take), (9, .take), (10, .take)]))] GG_no (Try.func6) rfl rfl rfl rfl rfl (fun _ => rfl) rfl ?_
    repeat' ((try conv => whnf); first
      | (with_reducible refine BB_true ?_)
      | (with_reducible refine BB_false ?_)
      | (with_reducible refine Both.mk ?_ ?_)
      | (with_reducible refine VS.mk ?_)
      | (refine PSem.go (C := seat) seat_ok ?_)
      | (refine And.intro (PlanOK.mk (by kernel_rfl) rfl (by kernel_rfl) (by kernel_rfl)) ?_)
      | (refine And.intro rfl (Exists.intro _ (And.intro (by first | assumption | rfl) ?_)))
      | (refine And.intro ⟨rfl, rfl, rfl⟩ ?_)
      | (refine call_ro [.o 0] (take_is b _ 0 _ _ n (all_row b) (all_len b) hc1 (by omega) hb8 (0, [], false) hT) GG_no rfl rfl rfl ⟨⟨_, rfl, rfl, rfl⟩, trivial⟩ ?_; rintro r bs' ext ⟨ca, hca, rfl, rfl⟩)
      | (refine call_ro [.o 0] (takeText_is b _ 0 _ _ most (all_row b) (all_len b) hc1 (by omega) hb8 ([], [], false) hR) GG_no rfl rfl rfl ⟨⟨_, rfl, rfl, rfl⟩, trivial⟩ ?_; rintro r bs' ext ⟨cb, cc, hcb, hcc, rfl, rfl⟩)
      | (refine call_ro [] (awake_ok) GG_no rfl rfl rfl trivial ?_; rintro r bs' ext ⟨rfl, rfl⟩)
      | (refine And.intro (by omega) ?_)
      | (refine BB.mk (fun _h => ?_) (fun _h => ?_) <;> (first | (exact absurd _h (by decide)) | (exfalso; simp only [hd, ed, boolSet] at _h <;> omega) | skip)))
    all_goals (try conv => whnf)
    all_goals first
      | exact Fin.mk ⟨rfl, rfl⟩
      | (exfalso; simp only [hd, ed, boolSet] at * <;> omega)
set_option maxRecDepth 100000 in
set_option maxHeartbeats 4000000 in
theorem wireShort_ok (b : List Nat) (c1 : Nat) (n most : Int) (hb8 : ∀ y ∈ b, y < 256) (hc1 : b.length ≤ c1) (hn0 : -9223372036854775808 ≤ n) (hn1 : n ≤ 9223372036854775807) : FnOK Try.prog GG 6 [.ro 1 (b.map bN)] [.s (.o 0) 1 0 b.length c1, .v (.int .i64 n), .v (.int .i64 most)] (fun r _ ext => r = .v (.bool true) ∧ ext = []) := by
  by_cases hlen : b.length ≤ 200
  · by_cases h1 : n < 1
    · exact wireShort_low b c1 n most hb8 hc1 hn0 hn1 hlen h1
    · by_cases h2 : 8 < n
      · exact wireShort_high b c1 n most hb8 hc1 hn0 hn1 hlen h2
      · by_cases h3 : (b.length : Int) < n
        · exact wireShort_far b c1 n most hb8 hc1 hn0 hn1 hlen ⟨by omega, by omega, h3⟩
        · exact wireShort_yes b c1 n most hb8 hc1 hn0 hn1 hlen ⟨by omega, by omega, by omega⟩
  · refine fn_val (C := seat) seat_ok [(12, (.of [(0, .take), (1, .take), (2, .take), (3, .take), (4, .take), (5, .take), (6, .take), (7, .take), (8, .take), (9, .take), (10, .take)]))] GG_no (Try.func6) rfl rfl rfl rfl rfl (fun _ => rfl) rfl ?_
    repeat' ((try conv => whnf); first
      | (with_reducible refine BB_true ?_)
      | (with_reducible refine BB_false ?_)
      | (with_reducible refine Both.mk ?_ ?_)
      | (with_reducible refine VS.mk ?_)
      | (refine PSem.go (C := seat) seat_ok ?_)
      | (refine And.intro (PlanOK.mk (by kernel_rfl) rfl (by kernel_rfl) (by kernel_rfl)) ?_)
      | (refine And.intro rfl (Exists.intro _ (And.intro (by first | assumption | rfl) ?_)))
      | (refine And.intro ⟨rfl, rfl, rfl⟩ ?_)
      | (refine call_ro [] (awake_ok) GG_no rfl rfl rfl trivial ?_; rintro r bs' ext ⟨rfl, rfl⟩)
      | (refine And.intro (by omega) ?_)
      | (refine BB.mk (fun _h => ?_) (fun _h => ?_) <;> (first | (exact absurd _h (by decide)) | (exfalso; simp only [boolSet] at _h <;> omega) | skip)))
    all_goals (try conv => whnf)
    all_goals exact Fin.mk ⟨rfl, rfl⟩
end Go.Proofs.Ytcjegbcljipcbaa
