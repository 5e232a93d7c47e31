/- Law SeenTells, by computing. -/
import Derived.Test.YthgfpikhiaochaaS08e
namespace Go.Proofs.Ythgfpikhiaochaa
open Go.RowKit

set_option maxRecDepth 100000 in
set_option maxHeartbeats 4000000 in
theorem seenTells_ok (w : Int) (I P B : Nat) (d : Int) (J n nd : Nat) (hw : -9223372036854775808 ≤ w ∧ w ≤ 9223372036854775807) (hI : I ≤ 65535) (hP : P ≤ 4294967295) (hB : B < 2 ^ 64) (hJ : J ≤ 65535) (hn : n ≤ 4294967295) : FnOK Try.prog GG 3 [] [.agg [.v (.int .u16 I), .v (.int .u32 P), .v (.int .u64 B)], .agg [.v (.int .u8 d), .v (.int .u16 J), .v (.int .u32 n)], .v (.int .i64 w), .v (.int .u8 nd)] (fun r _ ext => r = .v (.bool true) ∧ ext = []) := by
  cases hr : rightB w I P B with
  | false =>
    cases hr2 : rightB 64 I P B with
    | false =>
      refine fn_val (C := seat) seat_ok [(1, (.of [(0, .take), (1, .take), (3, .take), (4, .take), (2, .do_), (5, .do_), (6, .take), (7, .take), (8, .take), (9, .take), (11, .take), (12, .take), (10, .do_), (13, .do_), (14, .take), (15, .take)])), (4, (.of [(0, .take), (2, .take), (1, .do_), (3, .do_), (4, .take), (5, .take), (6, .do_), (7, .take), (8, .take)])), (7, (.of [(0, .take), (1, .take), (3, .take), (4, .take), (2, .do_), (5, .do_), (6, .take), (7, .take), (8, .take), (9, .take), (10, .take), (12, .take), (13, .take), (14, .take), (11, .do_), (15, .do_), (16, .take), (17, .take), (18, .take), (19, .take), (20, .take), (21, .take), (22, .take), (23, .take), (24, .take), (25, .take), (26, .take), (27, .take), (28, .take), (29, .do_), (30, .take), (31, .take)]))] GG_no (Try.func3) rfl rfl rfl rfl rfl (fun _ => rfl) rfl ?_
      repeat' ((try conv => whnf); first
        | (with_reducible refine BB_true ?_)
        | (with_reducible refine BB_false ?_)
        | (with_reducible refine Both.mk ?_ ?_)
        | (with_reducible refine VS.mk ?_)
        | (refine PSem.go (C := seat) seat_ok ?_)
        | (refine And.intro (PlanOK.mk (by kernel_rfl) rfl (by kernel_rfl) (by kernel_rfl)) ?_)
        | (refine And.intro rfl (Exists.intro _ (And.intro (by first | assumption | rfl) ?_)))
        | (refine And.intro ⟨rfl, rfl, rfl⟩ ?_)
        | (refine call_ro [] (right_is w I P B hw hI hP hB false hr) GG_no rfl rfl rfl trivial ?_; rintro r bs' ext ⟨rfl, rfl⟩)
        | (refine call_ro [] (rightR_is w I P B hw hI hP hB false hr) GG_no rfl rfl rfl trivial ?_; rintro r bs' ext ⟨rfl, rfl⟩)
        | (refine call_ro [] (mark_ok nd I P B) GG_no rfl rfl rfl trivial ?_; rintro r bs' ext ⟨rfl, rfl⟩)
        | (refine call_ro [] (markR_ok nd I P B) GG_no rfl rfl rfl trivial ?_; rintro r bs' ext ⟨rfl, rfl⟩)
        | (refine call_ro [] (awake_ok) GG_no rfl rfl rfl trivial ?_; rintro r bs' ext ⟨rfl, rfl⟩)
        | (refine call_ro [] (right_is 64 I P B (by decide) hI hP hB false hr2) GG_no rfl rfl rfl trivial ?_; rintro r bs' ext ⟨rfl, rfl⟩)
        | (refine call_ro [] (rightR_is 64 I P B (by decide) hI hP hB false hr2) GG_no rfl rfl rfl trivial ?_; rintro r bs' ext ⟨rfl, rfl⟩)
        | (refine And.intro (by omega) ?_)
        | (refine BB.mk (fun _h => ?_) (fun _h => ?_) <;> (first | (exact absurd _h (by decide)) | (exfalso; simp only [boolSet] at _h <;> omega) | skip)))
      all_goals (try conv => whnf)
      all_goals exact Fin.mk ⟨rfl, rfl⟩
    | true =>
      refine fn_val (C := seat) seat_ok [(1, (.of [(0, .take), (1, .take), (3, .take), (4, .take), (2, .do_), (5, .do_), (6, .take), (7, .take), (8, .take), (9, .take), (11, .take), (12, .take), (10, .do_), (13, .do_), (14, .take), (15, .take)])), (4, (.of [(0, .take), (2, .take), (1, .do_), (3, .do_), (4, .take), (5, .take), (6, .do_), (7, .take), (8, .take)])), (7, (.of [(0, .take), (1, .take), (3, .take), (4, .take), (2, .do_), (5, .do_), (6, .take), (7, .take), (8, .take), (9, .take), (10, .take), (12, .take), (13, .take), (14, .take), (11, .do_), (15, .do_), (16, .take), (17, .take), (18, .take), (19, .take), (20, .take), (21, .take), (22, .take), (23, .take), (24, .take), (25, .take), (26, .take), (27, .take), (28, .take), (29, .do_), (30, .take), (31, .take)]))] GG_no (Try.func3) rfl rfl rfl rfl rfl (fun _ => rfl) rfl ?_
      repeat' ((try conv => whnf); first
        | (with_reducible refine BB_true ?_)
        | (with_reducible refine BB_false ?_)
        | (with_reducible refine Both.mk ?_ ?_)
        | (with_reducible refine VS.mk ?_)
        | (refine PSem.go (C := seat) seat_ok ?_)
        | (refine And.intro (PlanOK.mk (by kernel_rfl) rfl (by kernel_rfl) (by kernel_rfl)) ?_)
        | (refine And.intro rfl (Exists.intro _ (And.intro (by first | assumption | rfl) ?_)))
        | (refine And.intro ⟨rfl, rfl, rfl⟩ ?_)
        | (refine call_ro [] (right_is w I P B hw hI hP hB false hr) GG_no rfl rfl rfl trivial ?_; rintro r bs' ext ⟨rfl, rfl⟩)
        | (refine call_ro [] (rightR_is w I P B hw hI hP hB false hr) GG_no rfl rfl rfl trivial ?_; rintro r bs' ext ⟨rfl, rfl⟩)
        | (refine call_ro [] (mark_ok nd I P B) GG_no rfl rfl rfl trivial ?_; rintro r bs' ext ⟨rfl, rfl⟩)
        | (refine call_ro [] (markR_ok nd I P B) GG_no rfl rfl rfl trivial ?_; rintro r bs' ext ⟨rfl, rfl⟩)
        | (refine call_ro [] (awake_ok) GG_no rfl rfl rfl trivial ?_; rintro r bs' ext ⟨rfl, rfl⟩)
        | (refine call_ro [] (right_is 64 I P B (by decide) hI hP hB true hr2) GG_no rfl rfl rfl trivial ?_; rintro r bs' ext ⟨rfl, rfl⟩)
        | (refine call_ro [] (rightR_is 64 I P B (by decide) hI hP hB true hr2) GG_no rfl rfl rfl trivial ?_; rintro r bs' ext ⟨rfl, rfl⟩)
        | (refine And.intro (by omega) ?_)
        | (refine BB.mk (fun _h => ?_) (fun _h => ?_) <;> (first | (exact absurd _h (by decide)) | (exfalso; simp only [boolSet] at _h <;> omega) | skip)))
      all_goals (try conv => whnf)
      all_goals exact Fin.mk ⟨rfl, rfl⟩
  | true =>
    obtain ⟨hf, hw1, h00, hev⟩ := right_fit hr
    cases hm : mayB w I P B J n with
    | false =>
      cases hh : hasB I P B J n with
      | false =>
        refine fn_val (C := seat) seat_ok [(1, (.of [(0, .take), (1, .take), (3, .take), (4, .take), (2, .do_), (5, .do_), (6, .take), (7, .take), (8, .take), (9, .take), (11, .take), (12, .take), (10, .do_), (13, .do_), (14, .take), (15, .take)])), (4, (.of [(0, .take), (2, .take), (1, .do_), (3, .do_), (4, .take), (5, .take), (6, .do_), (7, .take), (8, .take)])), (7, (.of [(0, .take), (1, .take), (3, .take), (4, .take), (2, .do_), (5, .do_), (6, .take), (7, .take), (8, .take), (9, .take), (10, .take), (12, .take), (13, .take), (14, .take), (11, .do_), (15, .do_), (16, .take), (17, .take), (18, .take), (19, .take), (20, .take), (21, .take), (22, .take), (23, .take), (24, .take), (25, .take), (26, .take), (27, .take), (28, .take), (29, .do_), (30, .take), (31, .take)]))] GG_no (Try.func3) rfl rfl rfl rfl rfl (fun _ => rfl) rfl ?_
        repeat' ((try conv => whnf); first
          | (with_reducible refine BB_true ?_)
          | (with_reducible refine BB_false ?_)
          | (with_reducible refine Both.mk ?_ ?_)
          | (with_reducible refine VS.mk ?_)
          | (refine PSem.go (C := seat) seat_ok ?_)
          | (refine And.intro (PlanOK.mk (by kernel_rfl) rfl (by kernel_rfl) (by kernel_rfl)) ?_)
          | (refine And.intro rfl (Exists.intro _ (And.intro (by first | assumption | rfl) ?_)))
          | (refine And.intro ⟨rfl, rfl, rfl⟩ ?_)
          | (refine call_ro [] (right_is w I P B hw hI hP hB true hr) GG_no rfl rfl rfl trivial ?_; rintro r bs' ext ⟨rfl, rfl⟩)
          | (refine call_ro [] (rightR_is w I P B hw hI hP hB true hr) GG_no rfl rfl rfl trivial ?_; rintro r bs' ext ⟨rfl, rfl⟩)
          | (refine call_ro [] (mark_ok nd I P B) GG_no rfl rfl rfl trivial ?_; rintro r bs' ext ⟨rfl, rfl⟩)
          | (refine call_ro [] (markR_ok nd I P B) GG_no rfl rfl rfl trivial ?_; rintro r bs' ext ⟨rfl, rfl⟩)
          | (refine call_ro [] (awake_ok) GG_no rfl rfl rfl trivial ?_; rintro r bs' ext ⟨rfl, rfl⟩)
          | (refine call_ro [] (take_is w I P B d J n hw hP hB hn hI hJ hf _ _ _ _ _ _ _ false rfl rfl rfl rfl rfl rfl rfl hm) GG_no rfl rfl rfl trivial ?_; rintro r bs' ext ⟨rfl, rfl⟩)
          | (refine call_ro [] (takeR_is w I P B d J n hw hP hB hn hI hJ hf _ _ _ _ _ _ _ false rfl rfl rfl rfl rfl rfl rfl hm) GG_no rfl rfl rfl trivial ?_; rintro r bs' ext ⟨rfl, rfl⟩)
          | (refine call_ro [] (may_is w I P B d J n hw hP hB hn false hm) GG_no rfl rfl rfl trivial ?_; rintro r bs' ext ⟨rfl, rfl⟩)
          | (refine call_ro [] (mayR_is w I P B d J n hw hP hB hn false hm) GG_no rfl rfl rfl trivial ?_; rintro r bs' ext ⟨rfl, rfl⟩)
          | (refine call_ro [] (has_is I P B d J n hP hB hn false hh) GG_no rfl rfl rfl trivial ?_; rintro r bs' ext ⟨rfl, rfl⟩)
          | (refine call_ro [] (hasR_is I P B d J n hP hB hn false hh) GG_no rfl rfl rfl trivial ?_; rintro r bs' ext ⟨rfl, rfl⟩)
          | (refine And.intro (by omega) ?_)
          | (refine BB.mk (fun _h => ?_) (fun _h => ?_) <;> (first | (exact absurd _h (by decide)) | (exfalso; simp only [boolSet] at _h <;> omega) | skip)))
        all_goals (try conv => whnf)
        all_goals exact Fin.mk ⟨rfl, rfl⟩
      | true =>
        refine fn_val (C := seat) seat_ok [(1, (.of [(0, .take), (1, .take), (3, .take), (4, .take), (2, .do_), (5, .do_), (6, .take), (7, .take), (8, .take), (9, .take), (11, .take), (12, .take), (10, .do_), (13, .do_), (14, .take), (15, .take)])), (4, (.of [(0, .take), (2, .take), (1, .do_), (3, .do_), (4, .take), (5, .take), (6, .do_), (7, .take), (8, .take)])), (7, (.of [(0, .take), (1, .take), (3, .take), (4, .take), (2, .do_), (5, .do_), (6, .take), (7, .take), (8, .take), (9, .take), (10, .take), (12, .take), (13, .take), (14, .take), (11, .do_), (15, .do_), (16, .take), (17, .take), (18, .take), (19, .take), (20, .take), (21, .take), (22, .take), (23, .take), (24, .take), (25, .take), (26, .take), (27, .take), (28, .take), (29, .do_), (30, .take), (31, .take)]))] GG_no (Try.func3) rfl rfl rfl rfl rfl (fun _ => rfl) rfl ?_
        repeat' ((try conv => whnf); first
          | (with_reducible refine BB_true ?_)
          | (with_reducible refine BB_false ?_)
          | (with_reducible refine Both.mk ?_ ?_)
          | (with_reducible refine VS.mk ?_)
          | (refine PSem.go (C := seat) seat_ok ?_)
          | (refine And.intro (PlanOK.mk (by kernel_rfl) rfl (by kernel_rfl) (by kernel_rfl)) ?_)
          | (refine And.intro rfl (Exists.intro _ (And.intro (by first | assumption | rfl) ?_)))
          | (refine And.intro ⟨rfl, rfl, rfl⟩ ?_)
          | (refine call_ro [] (right_is w I P B hw hI hP hB true hr) GG_no rfl rfl rfl trivial ?_; rintro r bs' ext ⟨rfl, rfl⟩)
          | (refine call_ro [] (rightR_is w I P B hw hI hP hB true hr) GG_no rfl rfl rfl trivial ?_; rintro r bs' ext ⟨rfl, rfl⟩)
          | (refine call_ro [] (mark_ok nd I P B) GG_no rfl rfl rfl trivial ?_; rintro r bs' ext ⟨rfl, rfl⟩)
          | (refine call_ro [] (markR_ok nd I P B) GG_no rfl rfl rfl trivial ?_; rintro r bs' ext ⟨rfl, rfl⟩)
          | (refine call_ro [] (awake_ok) GG_no rfl rfl rfl trivial ?_; rintro r bs' ext ⟨rfl, rfl⟩)
          | (refine call_ro [] (take_is w I P B d J n hw hP hB hn hI hJ hf _ _ _ _ _ _ _ false rfl rfl rfl rfl rfl rfl rfl hm) GG_no rfl rfl rfl trivial ?_; rintro r bs' ext ⟨rfl, rfl⟩)
          | (refine call_ro [] (takeR_is w I P B d J n hw hP hB hn hI hJ hf _ _ _ _ _ _ _ false rfl rfl rfl rfl rfl rfl rfl hm) GG_no rfl rfl rfl trivial ?_; rintro r bs' ext ⟨rfl, rfl⟩)
          | (refine call_ro [] (may_is w I P B d J n hw hP hB hn false hm) GG_no rfl rfl rfl trivial ?_; rintro r bs' ext ⟨rfl, rfl⟩)
          | (refine call_ro [] (mayR_is w I P B d J n hw hP hB hn false hm) GG_no rfl rfl rfl trivial ?_; rintro r bs' ext ⟨rfl, rfl⟩)
          | (refine call_ro [] (has_is I P B d J n hP hB hn true hh) GG_no rfl rfl rfl trivial ?_; rintro r bs' ext ⟨rfl, rfl⟩)
          | (refine call_ro [] (hasR_is I P B d J n hP hB hn true hh) GG_no rfl rfl rfl trivial ?_; rintro r bs' ext ⟨rfl, rfl⟩)
          | (refine And.intro (by omega) ?_)
          | (refine BB.mk (fun _h => ?_) (fun _h => ?_) <;> (first | (exact absurd _h (by decide)) | (exfalso; simp only [boolSet] at _h <;> omega) | skip)))
        all_goals (try conv => whnf)
        all_goals exact Fin.mk ⟨rfl, rfl⟩
    | true =>
      cases hh : hasB I P B J n with
      | false =>
        refine fn_val (C := seat) seat_ok [(1, (.of [(0, .take), (1, .take), (3, .take), (4, .take), (2, .do_), (5, .do_), (6, .take), (7, .take), (8, .take), (9, .take), (11, .take), (12, .take), (10, .do_), (13, .do_), (14, .take), (15, .take)])), (4, (.of [(0, .take), (2, .take), (1, .do_), (3, .do_), (4, .take), (5, .take), (6, .do_), (7, .take), (8, .take)])), (7, (.of [(0, .take), (1, .take), (3, .take), (4, .take), (2, .do_), (5, .do_), (6, .take), (7, .take), (8, .take), (9, .take), (10, .take), (12, .take), (13, .take), (14, .take), (11, .do_), (15, .do_), (16, .take), (17, .take), (18, .take), (19, .take), (20, .take), (21, .take), (22, .take), (23, .take), (24, .take), (25, .take), (26, .take), (27, .take), (28, .take), (29, .do_), (30, .take), (31, .take)]))] GG_no (Try.func3) rfl rfl rfl rfl rfl (fun _ => rfl) rfl ?_
        repeat' ((try conv => whnf); first
          | (with_reducible refine BB_true ?_)
          | (with_reducible refine BB_false ?_)
          | (with_reducible refine Both.mk ?_ ?_)
          | (with_reducible refine VS.mk ?_)
          | (refine PSem.go (C := seat) seat_ok ?_)
          | (refine And.intro (PlanOK.mk (by kernel_rfl) rfl (by kernel_rfl) (by kernel_rfl)) ?_)
          | (refine And.intro rfl (Exists.intro _ (And.intro (by first | assumption | rfl) ?_)))
          | (refine And.intro ⟨rfl, rfl, rfl⟩ ?_)
          | (refine call_ro [] (right_is w I P B hw hI hP hB true hr) GG_no rfl rfl rfl trivial ?_; rintro r bs' ext ⟨rfl, rfl⟩)
          | (refine call_ro [] (rightR_is w I P B hw hI hP hB true hr) GG_no rfl rfl rfl trivial ?_; rintro r bs' ext ⟨rfl, rfl⟩)
          | (refine call_ro [] (mark_ok nd I P B) GG_no rfl rfl rfl trivial ?_; rintro r bs' ext ⟨rfl, rfl⟩)
          | (refine call_ro [] (markR_ok nd I P B) GG_no rfl rfl rfl trivial ?_; rintro r bs' ext ⟨rfl, rfl⟩)
          | (refine call_ro [] (awake_ok) GG_no rfl rfl rfl trivial ?_; rintro r bs' ext ⟨rfl, rfl⟩)
          | (refine call_ro [] (take_is w I P B d J n hw hP hB hn hI hJ hf _ _ _ _ _ _ _ true rfl rfl rfl rfl rfl rfl rfl hm) GG_no rfl rfl rfl trivial ?_; rintro r bs' ext ⟨rfl, rfl⟩)
          | (refine call_ro [] (takeR_is w I P B d J n hw hP hB hn hI hJ hf _ _ _ _ _ _ _ true rfl rfl rfl rfl rfl rfl rfl hm) GG_no rfl rfl rfl trivial ?_; rintro r bs' ext ⟨rfl, rfl⟩)
          | (refine call_ro [] (may_is w I P B d J n hw hP hB hn true hm) GG_no rfl rfl rfl trivial ?_; rintro r bs' ext ⟨rfl, rfl⟩)
          | (refine call_ro [] (mayR_is w I P B d J n hw hP hB hn true hm) GG_no rfl rfl rfl trivial ?_; rintro r bs' ext ⟨rfl, rfl⟩)
          | (refine call_ro [] (has_is I P B d J n hP hB hn false hh) GG_no rfl rfl rfl trivial ?_; rintro r bs' ext ⟨rfl, rfl⟩)
          | (refine call_ro [] (hasR_is I P B d J n hP hB hn false hh) GG_no rfl rfl rfl trivial ?_; rintro r bs' ext ⟨rfl, rfl⟩)
          | (refine And.intro (by omega) ?_)
          | (refine BB.mk (fun _h => ?_) (fun _h => ?_) <;> (first | (exact absurd _h (by decide)) | (exfalso; simp only [boolSet] at _h <;> omega) | skip)))
        all_goals (try conv => whnf)
        all_goals exact Fin.mk ⟨rfl, rfl⟩
      | true =>
        refine fn_val (C := seat) seat_ok [(1, (.of [(0, .take), (1, .take), (3, .take), (4, .take), (2, .do_), (5, .do_), (6, .take), (7, .take), (8, .take), (9, .take), (11, .take), (12, .take), (10, .do_), (13, .do_), (14, .take), (15, .take)])), (4, (.of [(0, .take), (2, .take), (1, .do_), (3, .do_), (4, .take), (5, .take), (6, .do_), (7, .take), (8, .take)])), (7, (.of [(0, .take), (1, .take), (3, .take), (4, .take), (2, .do_), (5, .do_), (6, .take), (7, .take), (8, .take), (9, .take), (10, .take), (12, .take), (13, .take), (14, .take), (11, .do_), (15, .do_), (16, .take), (17, .take), (18, .take), (19, .take), (20, .take), (21, .take), (22, .take), (23, .take), (24, .take), (25, .take), (26, .take), (27, .take), (28, .take), (29, .do_), (30, .take), (31, .take)]))] GG_no (Try.func3) rfl rfl rfl rfl rfl (fun _ => rfl) rfl ?_
        repeat' ((try conv => whnf); first
          | (with_reducible refine BB_true ?_)
          | (with_reducible refine BB_false ?_)
          | (with_reducible refine Both.mk ?_ ?_)
          | (with_reducible refine VS.mk ?_)
          | (refine PSem.go (C := seat) seat_ok ?_)
          | (refine And.intro (PlanOK.mk (by kernel_rfl) rfl (by kernel_rfl) (by kernel_rfl)) ?_)
          | (refine And.intro rfl (Exists.intro _ (And.intro (by first | assumption | rfl) ?_)))
          | (refine And.intro ⟨rfl, rfl, rfl⟩ ?_)
          | (refine call_ro [] (right_is w I P B hw hI hP hB true hr) GG_no rfl rfl rfl trivial ?_; rintro r bs' ext ⟨rfl, rfl⟩)
          | (refine call_ro [] (rightR_is w I P B hw hI hP hB true hr) GG_no rfl rfl rfl trivial ?_; rintro r bs' ext ⟨rfl, rfl⟩)
          | (refine call_ro [] (mark_ok nd I P B) GG_no rfl rfl rfl trivial ?_; rintro r bs' ext ⟨rfl, rfl⟩)
          | (refine call_ro [] (markR_ok nd I P B) GG_no rfl rfl rfl trivial ?_; rintro r bs' ext ⟨rfl, rfl⟩)
          | (refine call_ro [] (awake_ok) GG_no rfl rfl rfl trivial ?_; rintro r bs' ext ⟨rfl, rfl⟩)
          | (refine call_ro [] (take_is w I P B d J n hw hP hB hn hI hJ hf _ _ _ _ _ _ _ true rfl rfl rfl rfl rfl rfl rfl hm) GG_no rfl rfl rfl trivial ?_; rintro r bs' ext ⟨rfl, rfl⟩)
          | (refine call_ro [] (takeR_is w I P B d J n hw hP hB hn hI hJ hf _ _ _ _ _ _ _ true rfl rfl rfl rfl rfl rfl rfl hm) GG_no rfl rfl rfl trivial ?_; rintro r bs' ext ⟨rfl, rfl⟩)
          | (refine call_ro [] (may_is w I P B d J n hw hP hB hn true hm) GG_no rfl rfl rfl trivial ?_; rintro r bs' ext ⟨rfl, rfl⟩)
          | (refine call_ro [] (mayR_is w I P B d J n hw hP hB hn true hm) GG_no rfl rfl rfl trivial ?_; rintro r bs' ext ⟨rfl, rfl⟩)
          | (refine call_ro [] (has_is I P B d J n hP hB hn true hh) GG_no rfl rfl rfl trivial ?_; rintro r bs' ext ⟨rfl, rfl⟩)
          | (refine call_ro [] (hasR_is I P B d J n hP hB hn true hh) GG_no rfl rfl rfl trivial ?_; rintro r bs' ext ⟨rfl, rfl⟩)
          | (refine And.intro (by omega) ?_)
          | (refine BB.mk (fun _h => ?_) (fun _h => ?_) <;> (first | (exact absurd _h (by decide)) | (exfalso; simp only [boolSet] at _h <;> omega) | skip)))
        all_goals (try conv => whnf)
        all_goals exact Fin.mk ⟨rfl, rfl⟩
end Go.Proofs.Ythgfpikhiaochaa
