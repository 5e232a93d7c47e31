/- Law SchemaTells, by computing. -/
import Derived.Test.YthcofkeiffpiiaaCTellsA
namespace Go.Proofs.Ythcofkeiffpiiaa
open Go.RowKit

theorem right_le {l : List Sp_} (h : rightB l = true) : (∀ y ∈ l, y.a ≤ y.b) ∧ l.length ≤ 4 := by
  simp only [rightB, Bool.and_eq_true, decide_eq_true_eq, List.all_eq_true] at h
  exact ⟨h.2, h.1.2⟩
theorem vals_len (l : List Int) (m1 m2 c1 c2 : Nat) (hl : l.length ≤ 1099511627776) (h1 : m1 = l.length) (h2 : m2 = l.length) : FnOK Try.prog GG 17 [.ro 1 (l.map iC), .ro 1 (l.map iC)] [.s (.o 0) 1 0 m1 c1, .s (.o 1) 1 0 m2 c2] (fun r _ ext => r = .v (.bool true) ∧ ext = []) := by
  subst h1; subst h2
  exact vals_is l l c1 c2 hl true (decide_eq_true rfl)
set_option maxRecDepth 100000 in
set_option maxHeartbeats 4000000 in
theorem schemaTells_ok (l : List Sp_) (a b : Ev_) (c c1 c2 c3 c4 : Nat) (h1 : a.v.length ≤ c1) (h2 : a.d.length ≤ c2) (ha : ∀ x ∈ a.d, 0 ≤ x ∧ x ≤ 255) (hb : ∀ x ∈ b.d, 0 ≤ x ∧ x ≤ 255) : FnOK Try.prog GG 3 [.ro 2 (l.map spC), .ro 1 (a.v.map iC), .ro 1 (a.d.map bC), .ro 1 (b.v.map iC), .ro 1 (b.d.map bC)] [.s (.o 0) 2 0 l.length c, evS a (.o 1) (.o 2) c1 c2, evS b (.o 3) (.o 4) c3 c4] (fun r _ ext => r = .v (.bool true) ∧ ext = []) := by
  by_cases hl8 : l.length ≤ 8
  · cases hfa : decide (a.v.length ≤ 20 ∧ a.d.length ≤ 200)
    · refine fn_val (C := seat) seat_ok [(3, (.of [(0, .take), (2, .take), (1, .do_), (3, .do_), (4, .take), (5, .take), (6, .take), (7, .take), (9, .take), (10, .take), (8, .do_), (11, .do_), (12, .take), (13, .take), (14, .take), (15, .take), (17, .take), (16, .do_), (18, .do_), (19, .take), (20, .take)])), (8, (.of [(0, .take), (1, .take), (2, .take), (4, .take), (5, .take), (6, .take), (3, .do_), (7, .do_), (8, .take), (9, .take), (10, .take), (11, .take), (12, .take), (14, .take), (15, .take), (16, .take), (13, .do_), (17, .do_), (18, .do_), (19, .take), (20, .take), (21, .take), (22, .take), (24, .take), (25, .take), (23, .do_), (26, .do_), (27, .take), (28, .take), (29, .take), (30, .take), (31, .take), (32, .take), (33, .do_), (34, .take), (35, .take), (36, .do_), (37, .take), (38, .take)]))] GG_no (Try.func3) rfl rfl rfl rfl rfl (fun _ => rfl) rfl ?_
      repeat' ((try conv => whnf); first
        | (with_reducible refine BB_true ?_)
        | (with_reducible refine BB_false ?_)
        | (with_reducible refine Both.mk ?_ ?_)
        | (with_reducible refine VS.mk ?_)
        | (refine PSem.go (C := seat) seat_ok ?_)
        | (refine And.intro (PlanOK.mk (by kernel_rfl) rfl (by kernel_rfl) (by kernel_rfl)) ?_)
        | (refine And.intro rfl (Exists.intro _ (And.intro (by first | assumption | rfl) ?_)))
        | (refine call_ro [_, _] (few_is a _ _ _ hfa) GG_no rfl rfl rfl ⟨⟨_, rfl, rfl, rfl⟩, ⟨_, rfl, rfl, rfl⟩, trivial⟩ ?_; rintro r bs' ext ⟨rfl, rfl⟩)
        | (refine call_ro [] (awake_ok) GG_no rfl rfl rfl trivial ?_; rintro r bs' ext ⟨rfl, rfl⟩)
        | (refine And.intro (by omega) ?_)
        | (refine BB.mk (fun _h => ?_) (fun _h => ?_) <;> (first | (exact absurd _h (by decide)) | (exfalso; simp only [boolSet] at _h <;> omega) | skip)))
      all_goals (try conv => whnf)
      all_goals exact ⟨rfl, rfl⟩
    · have hfa' := of_decide_eq_true hfa
      cases hfb : decide (b.v.length ≤ 20 ∧ b.d.length ≤ 200)
      · refine fn_val (C := seat) seat_ok [(3, (.of [(0, .take), (2, .take), (1, .do_), (3, .do_), (4, .take), (5, .take), (6, .take), (7, .take), (9, .take), (10, .take), (8, .do_), (11, .do_), (12, .take), (13, .take), (14, .take), (15, .take), (17, .take), (16, .do_), (18, .do_), (19, .take), (20, .take)])), (8, (.of [(0, .take), (1, .take), (2, .take), (4, .take), (5, .take), (6, .take), (3, .do_), (7, .do_), (8, .take), (9, .take), (10, .take), (11, .take), (12, .take), (14, .take), (15, .take), (16, .take), (13, .do_), (17, .do_), (18, .do_), (19, .take), (20, .take), (21, .take), (22, .take), (24, .take), (25, .take), (23, .do_), (26, .do_), (27, .take), (28, .take), (29, .take), (30, .take), (31, .take), (32, .take), (33, .do_), (34, .take), (35, .take), (36, .do_), (37, .take), (38, .take)]))] GG_no (Try.func3) rfl rfl rfl rfl rfl (fun _ => rfl) rfl ?_
        repeat' ((try conv => whnf); first
          | (with_reducible refine BB_true ?_)
          | (with_reducible refine BB_false ?_)
          | (with_reducible refine Both.mk ?_ ?_)
          | (with_reducible refine VS.mk ?_)
          | (refine PSem.go (C := seat) seat_ok ?_)
          | (refine And.intro (PlanOK.mk (by kernel_rfl) rfl (by kernel_rfl) (by kernel_rfl)) ?_)
          | (refine And.intro rfl (Exists.intro _ (And.intro (by first | assumption | rfl) ?_)))
          | (refine call_ro [_, _] (few_is a _ _ _ hfa) GG_no rfl rfl rfl ⟨⟨_, rfl, rfl, rfl⟩, ⟨_, rfl, rfl, rfl⟩, trivial⟩ ?_; rintro r bs' ext ⟨rfl, rfl⟩)
          | (refine call_ro [_, _] (few_is b _ _ _ hfb) GG_no rfl rfl rfl ⟨⟨_, rfl, rfl, rfl⟩, ⟨_, rfl, rfl, rfl⟩, trivial⟩ ?_; rintro r bs' ext ⟨rfl, rfl⟩)
          | (refine call_ro [] (awake_ok) GG_no rfl rfl rfl trivial ?_; rintro r bs' ext ⟨rfl, rfl⟩)
          | (refine And.intro (by omega) ?_)
          | (refine BB.mk (fun _h => ?_) (fun _h => ?_) <;> (first | (exact absurd _h (by decide)) | (exfalso; simp only [boolSet] at _h <;> omega) | skip)))
        all_goals (try conv => whnf)
        all_goals exact ⟨rfl, rfl⟩
      · have hf : Few_ a c1 c2 := ⟨h1, h2, by omega, by omega⟩
        have hbl := bringL_len l a.v
        cases hrb : rightB l
        · refine fn_val (C := seat) seat_ok [(3, (.of [(0, .take), (2, .take), (1, .do_), (3, .do_), (4, .take), (5, .take), (6, .take), (7, .take), (9, .take), (10, .take), (8, .do_), (11, .do_), (12, .take), (13, .take), (14, .take), (15, .take), (17, .take), (16, .do_), (18, .do_), (19, .take), (20, .take)])), (8, (.of [(0, .take), (1, .take), (2, .take), (4, .take), (5, .take), (6, .take), (3, .do_), (7, .do_), (8, .take), (9, .take), (10, .take), (11, .take), (12, .take), (14, .take), (15, .take), (16, .take), (13, .do_), (17, .do_), (18, .do_), (19, .take), (20, .take), (21, .take), (22, .take), (24, .take), (25, .take), (23, .do_), (26, .do_), (27, .take), (28, .take), (29, .take), (30, .take), (31, .take), (32, .take), (33, .do_), (34, .take), (35, .take), (36, .do_), (37, .take), (38, .take)]))] GG_no (Try.func3) rfl rfl rfl rfl rfl (fun _ => rfl) rfl ?_
          repeat' ((try conv => whnf); first
            | (with_reducible refine BB_true ?_)
            | (with_reducible refine BB_false ?_)
            | (with_reducible refine Both.mk ?_ ?_)
            | (with_reducible refine VS.mk ?_)
            | (refine PSem.go (C := seat) seat_ok ?_)
            | (refine And.intro (PlanOK.mk (by kernel_rfl) rfl (by kernel_rfl) (by kernel_rfl)) ?_)
            | (refine And.intro rfl (Exists.intro _ (And.intro (by first | assumption | rfl) ?_)))
            | (refine call_ro [_, _] (few_is a _ _ _ hfa) GG_no rfl rfl rfl ⟨⟨_, rfl, rfl, rfl⟩, ⟨_, rfl, rfl, rfl⟩, trivial⟩ ?_; rintro r bs' ext ⟨rfl, rfl⟩)
            | (refine call_ro [_, _] (few_is b _ _ _ hfb) GG_no rfl rfl rfl ⟨⟨_, rfl, rfl, rfl⟩, ⟨_, rfl, rfl, rfl⟩, trivial⟩ ?_; rintro r bs' ext ⟨rfl, rfl⟩)
            | (refine call_ro [_] (right_p_is l c (by omega) _ hrb) GG_no rfl rfl rfl ⟨⟨_, rfl, rfl, rfl⟩, trivial⟩ ?_; rintro r bs' ext ⟨rfl, rfl⟩)
            | (refine call_ro [_] (right_r_is l c (by omega) _ hrb) GG_no rfl rfl rfl ⟨⟨_, rfl, rfl, rfl⟩, trivial⟩ ?_; rintro r bs' ext ⟨rfl, rfl⟩)
            | (refine call_ro [_, _, _, _] (same_is a b c1 c2 c3 c4 hf.v1 hf.d1 _ rfl) GG_no rfl rfl rfl ⟨⟨_, rfl, rfl, rfl⟩, ⟨_, rfl, rfl, rfl⟩, ⟨_, rfl, rfl, rfl⟩, ⟨_, rfl, rfl, rfl⟩, trivial⟩ ?_; rintro r bs' ext ⟨rfl, rfl⟩)
            | (refine call_ro [_, _, _, _] (same_r_is a b c1 c2 c3 c4 hf.v1 ha hb _ rfl) GG_no rfl rfl rfl ⟨⟨_, rfl, rfl, rfl⟩, ⟨_, rfl, rfl, rfl⟩, ⟨_, rfl, rfl, rfl⟩, ⟨_, rfl, rfl, rfl⟩, trivial⟩ ?_; rintro r bs' ext ⟨rfl, rfl⟩)
            | (refine call_ro [_, _] (copy_ok a c1 c2 hf) GG_no rfl rfl rfl ⟨⟨_, rfl, rfl, rfl⟩, ⟨_, rfl, rfl, rfl⟩, trivial⟩ ?_; rintro r bs' ext ⟨ca, cb, hfc, rfl, rfl⟩)
            | (refine call_ro [_, _, _, _] (same_r_is a a _ _ _ _ hf.v1 ha ha true (sameB_self a)) GG_no rfl rfl rfl ⟨⟨_, rfl, rfl, rfl⟩, ⟨_, rfl, rfl, rfl⟩, ⟨_, rfl, rfl, rfl⟩, ⟨_, rfl, rfl, rfl⟩, trivial⟩ ?_; rintro r bs' ext ⟨rfl, rfl⟩)
            | (refine call_ro [] (awake_ok) GG_no rfl rfl rfl trivial ?_; rintro r bs' ext ⟨rfl, rfl⟩)
            | (refine And.intro (by omega) ?_)
            | (refine BB.mk (fun _h => ?_) (fun _h => ?_) <;> (first | (exact absurd _h (by decide)) | (exfalso; simp only [boolSet] at _h <;> omega) | skip)))
          all_goals (try conv => whnf)
          all_goals exact ⟨rfl, rfl⟩
        · have hle := (right_le hrb).1
          refine fn_val (C := seat) seat_ok [(3, (.of [(0, .take), (2, .take), (1, .do_), (3, .do_), (4, .take), (5, .take), (6, .take), (7, .take), (9, .take), (10, .take), (8, .do_), (11, .do_), (12, .take), (13, .take), (14, .take), (15, .take), (17, .take), (16, .do_), (18, .do_), (19, .take), (20, .take)])), (8, (.of [(0, .take), (1, .take), (2, .take), (4, .take), (5, .take), (6, .take), (3, .do_), (7, .do_), (8, .take), (9, .take), (10, .take), (11, .take), (12, .take), (14, .take), (15, .take), (16, .take), (13, .do_), (17, .do_), (18, .do_), (19, .take), (20, .take), (21, .take), (22, .take), (24, .take), (25, .take), (23, .do_), (26, .do_), (27, .take), (28, .take), (29, .take), (30, .take), (31, .take), (32, .take), (33, .do_), (34, .take), (35, .take), (36, .do_), (37, .take), (38, .take)]))] GG_no (Try.func3) rfl rfl rfl rfl rfl (fun _ => rfl) rfl ?_
          repeat' ((try conv => whnf); first
            | (with_reducible refine BB_true ?_)
            | (with_reducible refine BB_false ?_)
            | (with_reducible refine Both.mk ?_ ?_)
            | (with_reducible refine VS.mk ?_)
            | (refine PSem.go (C := seat) seat_ok ?_)
            | (refine And.intro (PlanOK.mk (by kernel_rfl) rfl (by kernel_rfl) (by kernel_rfl)) ?_)
            | (refine And.intro rfl (Exists.intro _ (And.intro (by first | assumption | rfl) ?_)))
            | (refine call_ro [_, _] (few_is a _ _ _ hfa) GG_no rfl rfl rfl ⟨⟨_, rfl, rfl, rfl⟩, ⟨_, rfl, rfl, rfl⟩, trivial⟩ ?_; rintro r bs' ext ⟨rfl, rfl⟩)
            | (refine call_ro [_, _] (few_is b _ _ _ hfb) GG_no rfl rfl rfl ⟨⟨_, rfl, rfl, rfl⟩, ⟨_, rfl, rfl, rfl⟩, trivial⟩ ?_; rintro r bs' ext ⟨rfl, rfl⟩)
            | (refine call_ro [_] (right_p_is l c (by omega) _ hrb) GG_no rfl rfl rfl ⟨⟨_, rfl, rfl, rfl⟩, trivial⟩ ?_; rintro r bs' ext ⟨rfl, rfl⟩)
            | (refine call_ro [_] (right_r_is l c (by omega) _ hrb) GG_no rfl rfl rfl ⟨⟨_, rfl, rfl, rfl⟩, trivial⟩ ?_; rintro r bs' ext ⟨rfl, rfl⟩)
            | (refine call_ro [_, _, _, _] (same_is a b c1 c2 c3 c4 hf.v1 hf.d1 _ rfl) GG_no rfl rfl rfl ⟨⟨_, rfl, rfl, rfl⟩, ⟨_, rfl, rfl, rfl⟩, ⟨_, rfl, rfl, rfl⟩, ⟨_, rfl, rfl, rfl⟩, trivial⟩ ?_; rintro r bs' ext ⟨rfl, rfl⟩)
            | (refine call_ro [_, _, _, _] (same_r_is a b c1 c2 c3 c4 hf.v1 ha hb _ rfl) GG_no rfl rfl rfl ⟨⟨_, rfl, rfl, rfl⟩, ⟨_, rfl, rfl, rfl⟩, ⟨_, rfl, rfl, rfl⟩, ⟨_, rfl, rfl, rfl⟩, trivial⟩ ?_; rintro r bs' ext ⟨rfl, rfl⟩)
            | (refine call_ro [_, _] (copy_ok a c1 c2 hf) GG_no rfl rfl rfl ⟨⟨_, rfl, rfl, rfl⟩, ⟨_, rfl, rfl, rfl⟩, trivial⟩ ?_; rintro r bs' ext ⟨ca, cb, hfc, rfl, rfl⟩)
            | (refine call_ro [_, _, _, _] (same_r_is a a _ _ _ _ hf.v1 ha ha true (sameB_self a)) GG_no rfl rfl rfl ⟨⟨_, rfl, rfl, rfl⟩, ⟨_, rfl, rfl, rfl⟩, ⟨_, rfl, rfl, rfl⟩, ⟨_, rfl, rfl, rfl⟩, trivial⟩ ?_; rintro r bs' ext ⟨rfl, rfl⟩)
            | (refine call_ro [] (awake_ok) GG_no rfl rfl rfl trivial ?_; rintro r bs' ext ⟨rfl, rfl⟩)
            | (refine call_ro [_, _] (fits_p_is l a.v c c1 (by omega) _ rfl) GG_no rfl rfl rfl ⟨⟨_, rfl, rfl, rfl⟩, ⟨_, rfl, rfl, rfl⟩, trivial⟩ ?_; rintro r bs' ext ⟨rfl, rfl⟩)
            | (refine call_ro [_, _] (fits_r_is l a.v c c1 (by omega) hle _ rfl) GG_no rfl rfl rfl ⟨⟨_, rfl, rfl, rfl⟩, ⟨_, rfl, rfl, rfl⟩, trivial⟩ ?_; rintro r bs' ext ⟨rfl, rfl⟩)
            | (refine call_ro [_, _] (bring_p0 l a.v c c1 (by omega)) GG_no rfl rfl rfl ⟨⟨_, rfl, rfl, rfl⟩, ⟨_, rfl, rfl, rfl⟩, trivial⟩ ?_; rintro r bs' ext ⟨cx, hcx, rfl, rfl⟩)
            | (refine call_ro [_, _] (bring_r l a.v c c1 (by omega)) GG_no rfl rfl rfl ⟨⟨_, rfl, rfl, rfl⟩, ⟨_, rfl, rfl, rfl⟩, trivial⟩ ?_; rintro r bs' ext ⟨cy, hcy, rfl, rfl⟩)
            | (refine call_ro [_, _] (vals_is (bringL l a.v) (bringL l a.v) _ _ (by omega) true (decide_eq_true rfl)) GG_no rfl rfl rfl ⟨⟨_, rfl, rfl, rfl⟩, ⟨_, rfl, rfl, rfl⟩, trivial⟩ ?_; rintro r bs' ext ⟨rfl, rfl⟩)
            | (refine call_ro [_, _, _] (event_p_is l a c c1 c2 (by omega) hf.d1 _ rfl) GG_no rfl rfl rfl ⟨⟨_, rfl, rfl, rfl⟩, ⟨_, rfl, rfl, rfl⟩, ⟨_, rfl, rfl, rfl⟩, trivial⟩ ?_; rintro r bs' ext ⟨rfl, rfl⟩)
            | (refine call_ro [_, _, _] (event_r_is l a c c1 c2 (by omega) hf.d1 hle _ rfl) GG_no rfl rfl rfl ⟨⟨_, rfl, rfl, rfl⟩, ⟨_, rfl, rfl, rfl⟩, ⟨_, rfl, rfl, rfl⟩, trivial⟩ ?_; rintro r bs' ext ⟨rfl, rfl⟩)
            | (refine call_ro [_, _] (vals_len a.v _ _ _ _ hf.v1 rfl (by omega)) GG_no rfl rfl rfl ⟨⟨_, rfl, rfl, rfl⟩, ⟨_, rfl, rfl, by show [] ++ List.take a.v.length (List.drop 0 (List.map iC a.v)) = _; rw [List.nil_append, List.drop_zero, List.take_of_length_le (by rw [List.length_map]; omega)]⟩, trivial⟩ ?_; rintro r bs' ext ⟨rfl, rfl⟩)
            | (refine And.intro ⟨rfl, rfl, rfl, rfl⟩ ?_)
            | (refine And.intro ⟨rfl, by rw [List.length_map]; omega⟩ ?_)
            | (refine And.intro (by first | omega | (dsimp only; omega)) ?_)
            | (intro cap' hcap')
            | (refine And.intro (by omega) ?_)
            | (refine BB.mk (fun _h => ?_) (fun _h => ?_) <;> (first | (exact absurd _h (by decide)) | (exfalso; simp only [boolSet] at _h <;> omega) | skip)))
          all_goals (try conv => whnf)
          all_goals exact ⟨rfl, rfl⟩
  · refine fn_val (C := seat) seat_ok [(3, (.of [(0, .take), (2, .take), (1, .do_), (3, .do_), (4, .take), (5, .take), (6, .take), (7, .take), (9, .take), (10, .take), (8, .do_), (11, .do_), (12, .take), (13, .take), (14, .take), (15, .take), (17, .take), (16, .do_), (18, .do_), (19, .take), (20, .take)])), (8, (.of [(0, .take), (1, .take), (2, .take), (4, .take), (5, .take), (6, .take), (3, .do_), (7, .do_), (8, .take), (9, .take), (10, .take), (11, .take), (12, .take), (14, .take), (15, .take), (16, .take), (13, .do_), (17, .do_), (18, .do_), (19, .take), (20, .take), (21, .take), (22, .take), (24, .take), (25, .take), (23, .do_), (26, .do_), (27, .take), (28, .take), (29, .take), (30, .take), (31, .take), (32, .take), (33, .do_), (34, .take), (35, .take), (36, .do_), (37, .take), (38, .take)]))] GG_no (Try.func3) rfl rfl rfl rfl rfl (fun _ => rfl) rfl ?_
    repeat' ((try conv => whnf); first
      | (with_reducible refine BB_true ?_)
      | (with_reducible refine BB_false ?_)
      | (with_reducible refine Both.mk ?_ ?_)
      | (with_reducible refine VS.mk ?_)
      | (refine PSem.go (C := seat) seat_ok ?_)
      | (refine And.intro (PlanOK.mk (by kernel_rfl) rfl (by kernel_rfl) (by kernel_rfl)) ?_)
      | (refine And.intro rfl (Exists.intro _ (And.intro (by first | assumption | rfl) ?_)))
      | (refine call_ro [] (awake_ok) GG_no rfl rfl rfl trivial ?_; rintro r bs' ext ⟨rfl, rfl⟩)
      | (refine And.intro (by omega) ?_)
      | (refine BB.mk (fun _h => ?_) (fun _h => ?_) <;> (first | (exact absurd _h (by decide)) | (exfalso; simp only [boolSet] at _h <;> omega) | skip)))
    all_goals (try conv => whnf)
    all_goals exact ⟨rfl, rfl⟩
end Go.Proofs.Ythcofkeiffpiiaa
