/- Law SchemaBring, by computing. -/
import Derived.Test.YthcofkeiffpiiaaCOf
namespace Go.Proofs.Ythcofkeiffpiiaa
open Go.RowKit

theorem bound_cases {w a b : Int} (h : a ≤ b) : boundI w a b = w ∨ (w < a ∧ boundI w a b = a) ∨ (b < w ∧ boundI w a b = b) := by
  unfold boundI
  split <;> split <;> omega
theorem bound_in {w a b : Int} (h : a ≤ b) : a ≤ boundI w a b ∧ boundI w a b ≤ b := by
  unfold boundI
  split <;> split <;> omega
theorem bring_at {s : List Sp_} {v : List Int} {k : Nat} {y : Sp_} (h : s[k]? = some y) : (bringL s v)[k]? = some (boundI (v.getD k 0) y.a y.b) := by
  rw [bringL, List.getElem?_mapIdx, h]
  rfl
theorem bring_fits {s : List Sp_} (h : ∀ y ∈ s, y.a ≤ y.b) (v : List Int) : fitsB s (bringL s v) = true := by
  simp only [fitsB, bringL_len, decide_true, Bool.true_and]
  refine zip_yes fun j y z _ hy hz => ?_
  rw [bring_at hy] at hz
  cases hz
  exact decide_eq_true ((bound_iff (h y (List.mem_of_getElem? hy))).2 (bound_in (h y (List.mem_of_getElem? hy))))
theorem fits_at {s : List Sp_} {v : List Int} (h : fitsB s v = true) {k : Nat} {y : Sp_} (hy : s[k]? = some y) : boundI (v.getD k 0) y.a y.b = v.getD k 0 ∧ k < v.length := by
  simp only [fitsB, Bool.and_eq_true, decide_eq_true_eq, List.all_eq_true] at h
  have hk := getElem?_lt hy
  have hz := List.getElem?_eq_getElem (show k < v.length by omega)
  have := h.2 (y, v[k]) (List.mem_of_getElem? (i := k) (List.getElem?_zip_eq_some.2 ⟨hy, hz⟩))
  simp only at this
  rw [List.getD_eq_getElem?_getD, hz]
  exact ⟨this, by omega⟩
theorem bring_same {s : List Sp_} {v : List Int} (h : fitsB s v = true) : bringL s v = v := by
  have hl : v.length = s.length := by simp only [fitsB, Bool.and_eq_true, decide_eq_true_eq] at h; exact h.1
  apply List.ext_getElem?
  intro k
  by_cases hk : k < s.length
  · have hy := List.getElem?_eq_getElem hk
    obtain ⟨h1, h2⟩ := fits_at h hy
    rw [bring_at hy, h1, List.getD_eq_getElem?_getD, List.getElem?_eq_getElem h2]
    rfl
  · rw [List.getElem?_eq_none (by rw [bringL_len]; omega), List.getElem?_eq_none (by omega)]
theorem bring_p0 (l : List Sp_) (v : List Int) (c1 c2 : Nat) (hl : l.length ≤ 1099511627776) : FnOK Try.prog GG 18 [.ro 2 (l.map spC), .ro 1 (v.map iC)] [.s (.o 0) 2 0 l.length c1, .s (.o 1) 1 0 v.length c2]
    (fun r _ ext => ∃ cap', l.length ≤ cap' ∧ r = .s (.n 0) 1 0 (bringL l v).length cap' ∧ ext = [.row 21 1 cap' ((bringL l v).map iC)]) := by
  have := bring_p l v [] c1 c2 hl
  rw [List.append_nil] at this
  exact this
set_option maxRecDepth 100000 in
set_option maxHeartbeats 4000000 in
theorem schemaBring_ok (l : List Sp_) (v : List Int) (c1 c2 : Nat) (hc : l.length ≤ c1) : FnOK Try.prog GG 4 [.ro 2 (l.map spC), .ro 1 (v.map iC)] [.s (.o 0) 2 0 l.length c1, .s (.o 1) 1 0 v.length c2] (fun r _ ext => r = .v (.bool true) ∧ ext = []) := by
  have hle := ofL_le l
  have hlen := ofL_len l
  have hbl := bringL_len (ofL l) v
  by_cases hv : v.length ≤ 20
  · cases hfb : fitsB (ofL l) v
    all_goals
      refine fn_val (C := seat) seat_ok [] GG_no (Try.func4) rfl rfl rfl rfl rfl (fun _ => rfl) rfl ?_
      repeat' ((try conv => whnf); first
        | (with_reducible refine BB_true ?_)
        | (with_reducible refine BB_false ?_)
        | (with_reducible refine Both.mk ?_ ?_)
        | (with_reducible refine VS.mk ?_)
        | (refine PSem.go (C := seat) seat_ok ?_)
        | (refine And.intro (PlanOK.mk (by kernel_rfl) rfl (by kernel_rfl) (by kernel_rfl)) ?_)
        | (refine And.intro rfl (Exists.intro _ (And.intro (by first | assumption | rfl) ?_)))
        | (refine And.intro ⟨rfl, rfl, rfl⟩ ?_)
        | (refine call_ro [.o 0] (of_ok l c1 hc) GG_no rfl rfl rfl ⟨⟨_, rfl, rfl, rfl⟩, trivial⟩ ?_; rintro r bs' ext ⟨cs, hcs, rfl, rfl⟩)
        | (refine call_ro [_, _] (bring_p0 (ofL l) v cs c2 (by omega)) GG_no rfl rfl rfl ⟨⟨_, rfl, rfl, rfl⟩, ⟨_, rfl, rfl, rfl⟩, trivial⟩ ?_; rintro r bs' ext ⟨cx, hcx, rfl, rfl⟩)
        | (refine call_ro [_] (right_p_is (ofL l) cs (by omega) true (ofL_right l)) GG_no rfl rfl rfl ⟨⟨_, rfl, rfl, rfl⟩, trivial⟩ ?_; rintro r bs' ext ⟨rfl, rfl⟩)
        | (refine call_ro [_, _] (fits_p_is (ofL l) (bringL (ofL l) v) cs cx (by omega) true (bring_fits hle v)) GG_no rfl rfl rfl ⟨⟨_, rfl, rfl, rfl⟩, ⟨_, rfl, rfl, rfl⟩, trivial⟩ ?_; rintro r bs' ext ⟨rfl, rfl⟩)
        | (refine call_ro [_, _] (bring_p0 (ofL l) (bringL (ofL l) v) cs cx (by omega)) GG_no rfl rfl rfl ⟨⟨_, rfl, rfl, rfl⟩, ⟨_, rfl, rfl, rfl⟩, trivial⟩ ?_; rintro r bs' ext ⟨cy, hcy, rfl, rfl⟩)
        | (refine call_ro [_, _] (vals_is (bringL (ofL l) (bringL (ofL l) v)) (bringL (ofL l) v) cy cx (by rw [bringL_len]; omega) true (decide_eq_true (bring_same (bring_fits hle v)))) GG_no rfl rfl rfl ⟨⟨_, rfl, rfl, rfl⟩, ⟨_, rfl, rfl, rfl⟩, trivial⟩ ?_; rintro r bs' ext ⟨rfl, rfl⟩)
        | (refine call_ro [_, _] (fits_p_is (ofL l) v cs c2 (by omega) _ hfb) GG_no rfl rfl rfl ⟨⟨_, rfl, rfl, rfl⟩, ⟨_, rfl, rfl, rfl⟩, trivial⟩ ?_; rintro r bs' ext ⟨rfl, rfl⟩)
        | (refine call_ro [_, _] (vals_is (bringL (ofL l) v) v cx c2 (by omega) true (decide_eq_true (bring_same hfb))) GG_no rfl rfl rfl ⟨⟨_, rfl, rfl, rfl⟩, ⟨_, rfl, rfl, rfl⟩, trivial⟩ ?_; rintro r bs' ext ⟨rfl, rfl⟩)
        | (refine call_ro [] (awake_ok) GG_no rfl rfl rfl trivial ?_; rintro r bs' ext ⟨rfl, rfl⟩)
        | (refine And.intro (by omega) ?_)
        | (refine BB.mk (fun _h => ?_) (fun _h => ?_) <;> (first | (exact absurd _h (by decide)) | (exfalso; simp only [boolSet] at _h <;> omega) | skip)))
      all_goals (try conv => whnf)
      refine loop_rule (α := Nat) (fun k => k ≤ (ofL l).length) (fun k => { slots := [(1, .s (.o 1) 1 0 v.length c2), (5, .s (.n 0) 2 0 (ofL l).length cs), (6, .s (.n 1) 1 0 (bringL (ofL l) v).length cx), (47, .s (.n 1) 1 0 (bringL (ofL l) v).length cx), (48, .v (.int .i64 (ofL l).length)), (49, .v (.int .i64 k))], nt := 104, mem := ⟨GG, [.ro 2 (l.map spC), .ro 1 (v.map iC)], [.row 44 2 cs ((ofL l).map spC), .row 21 1 cx ((bringL (ofL l) v).map iC)]⟩ }) (fun k => (ofL l).length - k) 0 (Nat.zero_le _) ⟨⟨[0, 1], (by decide), GG_no, rfl, (SubOld.refl _ rfl), ⟨.inr rfl, .inr rfl, trivial⟩, ⟨.inl rfl, .inl rfl, .inl rfl, .inl rfl, .inl (num_eq (by rw [hbl])), .inl rfl, trivial⟩⟩, rfl⟩ ?_ (fun _ => rfl)
      rintro k hk
      refine vc_sound (C := seat) seat_ok (pl := []) ?_
      by_cases hlt : k < (ofL l).length
      · obtain ⟨y, hy⟩ : ∃ y, (ofL l)[k]? = some y := ⟨_, List.getElem?_eq_getElem hlt⟩
        have hrow := sp_at0 hy
        have hxk := bring_at (v := v) hy
        have hbc := bound_cases (w := v.getD k 0) (hle y (List.mem_of_getElem? hy))
        generalize boundI (v.getD k 0) y.a y.b = z at hxk hbc
        have hrow1 := i_at0 hxk
        by_cases hkv : k < v.length
        · obtain ⟨w, hw⟩ : ∃ w, v[k]? = some w := ⟨_, List.getElem?_eq_getElem hkv⟩
          have hrow2 := i_at0 hw
          have hgd : v.getD k 0 = w := by simp [List.getD_eq_getElem?_getD, hw]
          rw [hgd] at hbc
          repeat' ((try conv => whnf); first
            | (with_reducible refine BB_true ?_)
            | (with_reducible refine BB_false ?_)
            | (with_reducible refine Both.mk ?_ ?_)
            | (with_reducible refine VS.mk ?_)
            | (refine PSem.go (C := seat) seat_ok ?_)
            | (refine And.intro (PlanOK.mk (by kernel_rfl) rfl (by kernel_rfl) (by kernel_rfl)) ?_)
            | (refine And.intro rfl (Exists.intro _ (And.intro (by first | assumption | rfl) ?_)))
            | (refine And.intro ⟨rfl, rfl, rfl⟩ ?_)
            | (refine And.intro (by omega) ?_)
            | (refine BB.mk (fun _h => ?_) (fun _h => ?_) <;> (first | (exact absurd _h (by decide)) | (exfalso; simp only [boolSet] at _h <;> omega) | skip)))
          all_goals (try conv => whnf)
          all_goals (first
          | (refine ⟨k + 1, by omega, by omega, ⟨⟨[0, 1], by decide, GG_no, rfl, SubOld.refl _ rfl, ⟨.inr rfl, .inr rfl, trivial⟩, ⟨.inl rfl, .inl rfl, .inl rfl, .inl rfl, .inl rfl, .inl (num_eq (by rw [IntKind.wrap_i64]; omega)), trivial⟩⟩, rfl⟩⟩; done)
          | (exfalso; simp only [boolSet] at * <;> omega))
        · have hgd : v.getD k 0 = 0 := by simp [hkv]
          rw [hgd] at hbc
          repeat' ((try conv => whnf); first
            | (with_reducible refine BB_true ?_)
            | (with_reducible refine BB_false ?_)
            | (with_reducible refine Both.mk ?_ ?_)
            | (with_reducible refine VS.mk ?_)
            | (refine PSem.go (C := seat) seat_ok ?_)
            | (refine And.intro (PlanOK.mk (by kernel_rfl) rfl (by kernel_rfl) (by kernel_rfl)) ?_)
            | (refine And.intro rfl (Exists.intro _ (And.intro (by first | assumption | rfl) ?_)))
            | (refine And.intro ⟨rfl, rfl, rfl⟩ ?_)
            | (refine And.intro (by omega) ?_)
            | (refine BB.mk (fun _h => ?_) (fun _h => ?_) <;> (first | (exact absurd _h (by decide)) | (exfalso; simp only [boolSet] at _h <;> omega) | skip)))
          all_goals (try conv => whnf)
          all_goals (first
          | (refine ⟨k + 1, by omega, by omega, ⟨⟨[0, 1], by decide, GG_no, rfl, SubOld.refl _ rfl, ⟨.inr rfl, .inr rfl, trivial⟩, ⟨.inl rfl, .inl rfl, .inl rfl, .inl rfl, .inl rfl, .inl (num_eq (by rw [IntKind.wrap_i64]; omega)), trivial⟩⟩, rfl⟩⟩; done)
          | (exfalso; simp only [boolSet] at * <;> omega))
      ·
        repeat' ((try conv => whnf); first
          | (with_reducible refine BB_true ?_)
          | (with_reducible refine BB_false ?_)
          | (with_reducible refine Both.mk ?_ ?_)
          | (with_reducible refine VS.mk ?_)
          | (refine PSem.go (C := seat) seat_ok ?_)
          | (refine And.intro (PlanOK.mk (by kernel_rfl) rfl (by kernel_rfl) (by kernel_rfl)) ?_)
          | (refine And.intro rfl (Exists.intro _ (And.intro (by first | assumption | rfl) ?_)))
          | (refine And.intro ⟨rfl, rfl, rfl⟩ ?_)
          | (refine call_ro [] (awake_ok) GG_no rfl rfl rfl trivial ?_; rintro r bs' ext ⟨rfl, rfl⟩)
          | (refine And.intro (by omega) ?_)
          | (refine BB.mk (fun _h => ?_) (fun _h => ?_) <;> (first | (exact absurd _h (by decide)) | (exfalso; simp only [boolSet] at _h <;> omega) | skip)))
        all_goals (try conv => whnf)
        all_goals exact ⟨rfl, rfl⟩
  · refine fn_val (C := seat) seat_ok [] GG_no (Try.func4) rfl rfl rfl rfl rfl (fun _ => rfl) rfl ?_
    repeat' ((try conv => whnf); first
      | (with_reducible refine BB_true ?_)
      | (with_reducible refine BB_false ?_)
      | (with_reducible refine Both.mk ?_ ?_)
      | (with_reducible refine VS.mk ?_)
      | (refine PSem.go (C := seat) seat_ok ?_)
      | (refine And.intro (PlanOK.mk (by kernel_rfl) rfl (by kernel_rfl) (by kernel_rfl)) ?_)
      | (refine And.intro rfl (Exists.intro _ (And.intro (by first | assumption | rfl) ?_)))
      | (refine And.intro ⟨rfl, rfl, rfl⟩ ?_)
      | (refine call_ro [] (awake_ok) GG_no rfl rfl rfl trivial ?_; rintro r bs' ext ⟨rfl, rfl⟩)
      | (refine And.intro (by omega) ?_)
      | (refine BB.mk (fun _h => ?_) (fun _h => ?_) <;> (first | (exact absurd _h (by decide)) | (exfalso; simp only [boolSet] at _h <;> omega) | skip)))
    all_goals (try conv => whnf)
    all_goals exact ⟨rfl, rfl⟩
end Go.Proofs.Ythcofkeiffpiiaa
