/- Law PullTells, by computing. -/
import Derived.Test.YtcjcnlahieddoaaK18h
namespace Go.Proofs.Ytcjcnlahieddoaa
open Go.RowKit

theorem any_all {l : List Ask_} {x : Id_} (h : ((idsL l).any fun y => eqB y x) = false) : ∀ y ∈ l, eqB y.id x = false := fun y hy => by
  have := List.any_eq_false.1 h y.id (List.mem_map.2 ⟨y, hy, rfl⟩)
  simpa using this
theorem right_rise {l : List Ask_} {m : Int} (h : rightA l m = true) : riseP l := by
  simp only [rightA, Bool.and_eq_true] at h
  exact rise_pair h.2
theorem add_same {l : List Ask_} {x : Ask_} {most : Int} (h : riseP l) : addF l x most = addR l x most := by
  unfold addF addR
  by_cases h0 : x.lf = 0
  · rw [if_pos h0, if_pos h0]
  · rw [if_neg h0, if_neg h0]
    cases hh : (idsL l).any (fun y => eqB y x.id) with
    | true => rfl
    | false =>
      simp only [Bool.false_eq_true, if_false]
      by_cases hm : most ≤ l.length
      · rw [if_pos hm, if_pos hm]
      · rw [if_neg hm, if_neg hm, ins_eq h (any_all hh)]
theorem same_refl (l : List Id_) : sameB l l = true := by
  refine same_yes rfl fun j y z _ h1 h2 => ?_
  rw [h1] at h2
  cases h2
  exact eqB_iff'.2 ⟨rfl, rfl, rfl⟩
set_option maxRecDepth 100000 in
set_option maxHeartbeats 4000000 in
theorem pullTells_ok (l : List Ask_) (cap : Nat) (x : Ask_) (most : Int) (hc : l.length ≤ cap) (hok : ∀ y ∈ l, y.ok) : FnOK Try.prog GG 3 [.ro 5 (l.map askC)] [.s (.o 0) 5 0 l.length cap, askS x, .v (.int .i64 most)] (fun r _ ext => r = .v (.bool true) ∧ ext = []) := by
  by_cases hlen : l.length ≤ 100
  · have hb1 : (addR l x most).1.length ≤ 201 := by
      unfold addR
      split
      · dsimp only; omega
      · split
        · dsimp only; omega
        · split
          · dsimp only; omega
          · have h1 := List.length_filter_le (fun a : Ask_ => lessB a.id x.id) l
            have h2 := List.length_filter_le (fun a : Ask_ => !lessB a.id x.id) l
            simp only [insA, List.length_append, List.length_cons]
            omega
    have hb2 : (dropA l x.id).length ≤ 100 := Nat.le_trans (List.length_filter_le _ _) hlen
    have hb3 : (tickL l).length ≤ 100 ∧ (goneL l).length ≤ 100 := by
      have := tick_le l l.length
      rw [List.take_of_length_le (Nat.le_refl _)] at this
      omega
    cases hr : rightA l most with
    | false =>
      cases hh : (idsL l).any (fun y => eqB y x.id) with
      | false =>
        cases hr2 : rightA l 100 with
        | false =>
          refine fn_val (C := seat) seat_ok [(3, (.of [(0, .take), (1, .take), (3, .take), (4, .take), (2, .do_), (5, .do_), (6, .take), (7, .take), (8, .take), (9, .take), (10, .take), (12, .take), (13, .take), (14, .take), (11, .do_), (15, .do_), (16, .take), (17, .take)])), (11, (.of [(0, .take), (1, .take), (2, .do_), (3, .take), (4, .take), (5, .take), (6, .take), (7, .take), (8, .take), (9, .take), (10, .take), (11, .take), (13, .take), (14, .take), (15, .take), (12, .do_), (16, .do_), (17, .do_), (18, .take), (19, .take), (20, .take), (21, .take), (22, .do_), (23, .take), (24, .take), (25, .take), (26, .take), (27, .do_), (28, .take), (29, .take), (30, .do_), (31, .take), (32, .take)]))] GG_no (Try.func3) rfl rfl rfl rfl rfl (fun _ => rfl) rfl ?_
          repeat' ((try conv => whnf); first
            | (with_reducible refine BB_true ?_)
            | (with_reducible refine BB_false ?_)
            | (with_reducible refine Both.mk ?_ ?_)
            | (with_reducible refine VS.mk ?_)
            | (refine PSem.go (C := seat) seat_ok ?_)
            | (refine And.intro (PlanOK.mk (by kernel_rfl) rfl (by kernel_rfl) (by kernel_rfl)) ?_)
            | (refine And.intro rfl (Exists.intro _ (And.intro (by first | assumption | rfl) ?_)))
            | (refine And.intro ⟨rfl, rfl, rfl⟩ ?_)
            | (refine call_ro [.o 0] (rightA_is l _ most false (by omega) hr) GG_no rfl rfl rfl ⟨⟨_, rfl, rfl, rfl⟩, trivial⟩ ?_; rintro r bs' ext ⟨rfl, rfl⟩)
            | (refine call_ro [.o 0] (rightR_is l _ most false (by omega) hok hr) GG_no rfl rfl rfl ⟨⟨_, rfl, rfl, rfl⟩, trivial⟩ ?_; rintro r bs' ext ⟨rfl, rfl⟩)
            | (refine call_ro [.o 0] (hasA_is l _ x.id false (by omega) hh) GG_no rfl rfl rfl ⟨⟨_, rfl, rfl, rfl⟩, trivial⟩ ?_; rintro r bs' ext ⟨rfl, rfl⟩)
            | (refine call_ro [.o 0] (hasR_is l _ x.id false (by omega) hh) GG_no rfl rfl rfl ⟨⟨_, rfl, rfl, rfl⟩, trivial⟩ ?_; rintro r bs' ext ⟨rfl, rfl⟩)
            | (refine call_ro [.o 0] (rightR_is l _ 100 false (by omega) hok hr2) GG_no rfl rfl rfl ⟨⟨_, rfl, rfl, rfl⟩, trivial⟩ ?_; rintro r bs' ext ⟨rfl, rfl⟩)
            | (refine call_ro [] (awake_ok) GG_no rfl rfl rfl trivial ?_; rintro r bs' ext ⟨rfl, rfl⟩)
            | (refine And.intro (by omega) ?_)
            | (refine BB.mk (fun _h => ?_) (fun _h => ?_) <;> (first | (exact absurd _h (by decide)) | (exfalso; simp only [boolSet] at _h <;> omega) | skip)))
          all_goals (try conv => whnf)
          all_goals first
            | exact Fin.mk ⟨rfl, rfl⟩
            | (exfalso; simp only [boolSet] at * <;> omega)
        | true =>
          have hadd := add_same (x := x) (most := most) (right_rise hr2)
          refine fn_val (C := seat) seat_ok [(3, (.of [(0, .take), (1, .take), (3, .take), (4, .take), (2, .do_), (5, .do_), (6, .take), (7, .take), (8, .take), (9, .take), (10, .take), (12, .take), (13, .take), (14, .take), (11, .do_), (15, .do_), (16, .take), (17, .take)])), (11, (.of [(0, .take), (1, .take), (2, .do_), (3, .take), (4, .take), (5, .take), (6, .take), (7, .take), (8, .take), (9, .take), (10, .take), (11, .take), (13, .take), (14, .take), (15, .take), (12, .do_), (16, .do_), (17, .do_), (18, .take), (19, .take), (20, .take), (21, .take), (22, .do_), (23, .take), (24, .take), (25, .take), (26, .take), (27, .do_), (28, .take), (29, .take), (30, .do_), (31, .take), (32, .take)]))] GG_no (Try.func3) rfl rfl rfl rfl rfl (fun _ => rfl) rfl ?_
          repeat' ((try conv => whnf); first
            | (with_reducible refine BB_true ?_)
            | (with_reducible refine BB_false ?_)
            | (with_reducible refine Both.mk ?_ ?_)
            | (with_reducible refine VS.mk ?_)
            | (refine PSem.go (C := seat) seat_ok ?_)
            | (refine And.intro (PlanOK.mk (by kernel_rfl) rfl (by kernel_rfl) (by kernel_rfl)) ?_)
            | (refine And.intro rfl (Exists.intro _ (And.intro (by first | assumption | rfl) ?_)))
            | (refine And.intro ⟨rfl, rfl, rfl⟩ ?_)
            | (refine call_ro [.o 0] (rightA_is l _ most false (by omega) hr) GG_no rfl rfl rfl ⟨⟨_, rfl, rfl, rfl⟩, trivial⟩ ?_; rintro r bs' ext ⟨rfl, rfl⟩)
            | (refine call_ro [.o 0] (rightR_is l _ most false (by omega) hok hr) GG_no rfl rfl rfl ⟨⟨_, rfl, rfl, rfl⟩, trivial⟩ ?_; rintro r bs' ext ⟨rfl, rfl⟩)
            | (refine call_ro [.o 0] (hasA_is l _ x.id false (by omega) hh) GG_no rfl rfl rfl ⟨⟨_, rfl, rfl, rfl⟩, trivial⟩ ?_; rintro r bs' ext ⟨rfl, rfl⟩)
            | (refine call_ro [.o 0] (hasR_is l _ x.id false (by omega) hh) GG_no rfl rfl rfl ⟨⟨_, rfl, rfl, rfl⟩, trivial⟩ ?_; rintro r bs' ext ⟨rfl, rfl⟩)
            | (refine call_ro [.o 0] (rightR_is l _ 100 true (by omega) hok hr2) GG_no rfl rfl rfl ⟨⟨_, rfl, rfl, rfl⟩, trivial⟩ ?_; rintro r bs' ext ⟨rfl, rfl⟩)
            | (refine call_ro [] (awake_ok) GG_no rfl rfl rfl trivial ?_; rintro r bs' ext ⟨rfl, rfl⟩)
            | (refine call_ro [.o 0] (addA_is l _ x most (addR l x most) rfl hc (by omega)) GG_no rfl rfl rfl ⟨⟨_, rfl, rfl, rfl⟩, trivial⟩ ?_; rintro r bs' ext ⟨ca, hca, rfl, rfl⟩)
            | (refine call_ro [.o 0] (addF_is l _ x most (addR l x most) hadd (by omega)) GG_no rfl rfl rfl ⟨⟨_, rfl, rfl, rfl⟩, trivial⟩ ?_; rintro r bs' ext ⟨cb, hcb, rfl, rfl⟩)
            | (refine call_ro [.o 0] (tickA_ok l _ (by omega) hok) GG_no rfl rfl rfl ⟨⟨_, rfl, rfl, rfl⟩, trivial⟩ ?_; rintro r bs' ext ⟨cc, cd, hcc, hcd, rfl, rfl⟩)
            | (refine call_ro [.o 0] (tickR_ok l _ (by omega) hok) GG_no rfl rfl rfl ⟨⟨_, rfl, rfl, rfl⟩, trivial⟩ ?_; rintro r bs' ext ⟨ce, cf, hce, hcf, rfl, rfl⟩)
            | (refine call_ro [.o 0] (dropA_ok l _ x.id (by omega)) GG_no rfl rfl rfl ⟨⟨_, rfl, rfl, rfl⟩, trivial⟩ ?_; rintro r bs' ext ⟨cg, hcg, rfl, rfl⟩)
            | (refine call_ro [.o 0] (dropR_ok l _ x.id (by omega)) GG_no rfl rfl rfl ⟨⟨_, rfl, rfl, rfl⟩, trivial⟩ ?_; rintro r bs' ext ⟨ch, hch, rfl, rfl⟩)
            | (refine call_ro [_, _] (sameA_is (addR l x most).1 (addR l x most).1 _ _ true (by omega) (decide_eq_true rfl)) GG_no rfl rfl rfl ⟨⟨_, rfl, rfl, rfl⟩, ⟨_, rfl, rfl, rfl⟩, trivial⟩ ?_; rintro r bs' ext ⟨rfl, rfl⟩)
            | (refine call_ro [_, _] (sameA_is (dropA l x.id) (dropA l x.id) _ _ true (by omega) (decide_eq_true rfl)) GG_no rfl rfl rfl ⟨⟨_, rfl, rfl, rfl⟩, ⟨_, rfl, rfl, rfl⟩, trivial⟩ ?_; rintro r bs' ext ⟨rfl, rfl⟩)
            | (refine call_ro [_, _] (sameA_is (tickL l) (tickL l) _ _ true (by omega) (decide_eq_true rfl)) GG_no rfl rfl rfl ⟨⟨_, rfl, rfl, rfl⟩, ⟨_, rfl, rfl, rfl⟩, trivial⟩ ?_; rintro r bs' ext ⟨rfl, rfl⟩)
            | (refine call_ro [_, _] (sameI_is (goneL l) (goneL l) _ _ true (by omega) (same_refl _)) GG_no rfl rfl rfl ⟨⟨_, rfl, rfl, rfl⟩, ⟨_, rfl, rfl, rfl⟩, trivial⟩ ?_; rintro r bs' ext ⟨rfl, rfl⟩)
            | (refine And.intro (by omega) ?_)
            | (refine BB.mk (fun _h => ?_) (fun _h => ?_) <;> (first | (exact absurd _h (by decide)) | (exfalso; simp only [boolSet] at _h <;> omega) | skip)))
          all_goals (try conv => whnf)
          all_goals first
            | exact Fin.mk ⟨rfl, rfl⟩
            | (exfalso; simp only [boolSet] at * <;> omega)
      | true =>
        cases hr2 : rightA l 100 with
        | false =>
          refine fn_val (C := seat) seat_ok [(3, (.of [(0, .take), (1, .take), (3, .take), (4, .take), (2, .do_), (5, .do_), (6, .take), (7, .take), (8, .take), (9, .take), (10, .take), (12, .take), (13, .take), (14, .take), (11, .do_), (15, .do_), (16, .take), (17, .take)])), (11, (.of [(0, .take), (1, .take), (2, .do_), (3, .take), (4, .take), (5, .take), (6, .take), (7, .take), (8, .take), (9, .take), (10, .take), (11, .take), (13, .take), (14, .take), (15, .take), (12, .do_), (16, .do_), (17, .do_), (18, .take), (19, .take), (20, .take), (21, .take), (22, .do_), (23, .take), (24, .take), (25, .take), (26, .take), (27, .do_), (28, .take), (29, .take), (30, .do_), (31, .take), (32, .take)]))] GG_no (Try.func3) rfl rfl rfl rfl rfl (fun _ => rfl) rfl ?_
          repeat' ((try conv => whnf); first
            | (with_reducible refine BB_true ?_)
            | (with_reducible refine BB_false ?_)
            | (with_reducible refine Both.mk ?_ ?_)
            | (with_reducible refine VS.mk ?_)
            | (refine PSem.go (C := seat) seat_ok ?_)
            | (refine And.intro (PlanOK.mk (by kernel_rfl) rfl (by kernel_rfl) (by kernel_rfl)) ?_)
            | (refine And.intro rfl (Exists.intro _ (And.intro (by first | assumption | rfl) ?_)))
            | (refine And.intro ⟨rfl, rfl, rfl⟩ ?_)
            | (refine call_ro [.o 0] (rightA_is l _ most false (by omega) hr) GG_no rfl rfl rfl ⟨⟨_, rfl, rfl, rfl⟩, trivial⟩ ?_; rintro r bs' ext ⟨rfl, rfl⟩)
            | (refine call_ro [.o 0] (rightR_is l _ most false (by omega) hok hr) GG_no rfl rfl rfl ⟨⟨_, rfl, rfl, rfl⟩, trivial⟩ ?_; rintro r bs' ext ⟨rfl, rfl⟩)
            | (refine call_ro [.o 0] (hasA_is l _ x.id true (by omega) hh) GG_no rfl rfl rfl ⟨⟨_, rfl, rfl, rfl⟩, trivial⟩ ?_; rintro r bs' ext ⟨rfl, rfl⟩)
            | (refine call_ro [.o 0] (hasR_is l _ x.id true (by omega) hh) GG_no rfl rfl rfl ⟨⟨_, rfl, rfl, rfl⟩, trivial⟩ ?_; rintro r bs' ext ⟨rfl, rfl⟩)
            | (refine call_ro [.o 0] (rightR_is l _ 100 false (by omega) hok hr2) GG_no rfl rfl rfl ⟨⟨_, rfl, rfl, rfl⟩, trivial⟩ ?_; rintro r bs' ext ⟨rfl, rfl⟩)
            | (refine call_ro [] (awake_ok) GG_no rfl rfl rfl trivial ?_; rintro r bs' ext ⟨rfl, rfl⟩)
            | (refine And.intro (by omega) ?_)
            | (refine BB.mk (fun _h => ?_) (fun _h => ?_) <;> (first | (exact absurd _h (by decide)) | (exfalso; simp only [boolSet] at _h <;> omega) | skip)))
          all_goals (try conv => whnf)
          all_goals first
            | exact Fin.mk ⟨rfl, rfl⟩
            | (exfalso; simp only [boolSet] at * <;> omega)
        | true =>
          have hadd := add_same (x := x) (most := most) (right_rise hr2)
          refine fn_val (C := seat) seat_ok [(3, (.of [(0, .take), (1, .take), (3, .take), (4, .take), (2, .do_), (5, .do_), (6, .take), (7, .take), (8, .take), (9, .take), (10, .take), (12, .take), (13, .take), (14, .take), (11, .do_), (15, .do_), (16, .take), (17, .take)])), (11, (.of [(0, .take), (1, .take), (2, .do_), (3, .take), (4, .take), (5, .take), (6, .take), (7, .take), (8, .take), (9, .take), (10, .take), (11, .take), (13, .take), (14, .take), (15, .take), (12, .do_), (16, .do_), (17, .do_), (18, .take), (19, .take), (20, .take), (21, .take), (22, .do_), (23, .take), (24, .take), (25, .take), (26, .take), (27, .do_), (28, .take), (29, .take), (30, .do_), (31, .take), (32, .take)]))] GG_no (Try.func3) rfl rfl rfl rfl rfl (fun _ => rfl) rfl ?_
          repeat' ((try conv => whnf); first
            | (with_reducible refine BB_true ?_)
            | (with_reducible refine BB_false ?_)
            | (with_reducible refine Both.mk ?_ ?_)
            | (with_reducible refine VS.mk ?_)
            | (refine PSem.go (C := seat) seat_ok ?_)
            | (refine And.intro (PlanOK.mk (by kernel_rfl) rfl (by kernel_rfl) (by kernel_rfl)) ?_)
            | (refine And.intro rfl (Exists.intro _ (And.intro (by first | assumption | rfl) ?_)))
            | (refine And.intro ⟨rfl, rfl, rfl⟩ ?_)
            | (refine call_ro [.o 0] (rightA_is l _ most false (by omega) hr) GG_no rfl rfl rfl ⟨⟨_, rfl, rfl, rfl⟩, trivial⟩ ?_; rintro r bs' ext ⟨rfl, rfl⟩)
            | (refine call_ro [.o 0] (rightR_is l _ most false (by omega) hok hr) GG_no rfl rfl rfl ⟨⟨_, rfl, rfl, rfl⟩, trivial⟩ ?_; rintro r bs' ext ⟨rfl, rfl⟩)
            | (refine call_ro [.o 0] (hasA_is l _ x.id true (by omega) hh) GG_no rfl rfl rfl ⟨⟨_, rfl, rfl, rfl⟩, trivial⟩ ?_; rintro r bs' ext ⟨rfl, rfl⟩)
            | (refine call_ro [.o 0] (hasR_is l _ x.id true (by omega) hh) GG_no rfl rfl rfl ⟨⟨_, rfl, rfl, rfl⟩, trivial⟩ ?_; rintro r bs' ext ⟨rfl, rfl⟩)
            | (refine call_ro [.o 0] (rightR_is l _ 100 true (by omega) hok hr2) GG_no rfl rfl rfl ⟨⟨_, rfl, rfl, rfl⟩, trivial⟩ ?_; rintro r bs' ext ⟨rfl, rfl⟩)
            | (refine call_ro [] (awake_ok) GG_no rfl rfl rfl trivial ?_; rintro r bs' ext ⟨rfl, rfl⟩)
            | (refine call_ro [.o 0] (addA_is l _ x most (addR l x most) rfl hc (by omega)) GG_no rfl rfl rfl ⟨⟨_, rfl, rfl, rfl⟩, trivial⟩ ?_; rintro r bs' ext ⟨ca, hca, rfl, rfl⟩)
            | (refine call_ro [.o 0] (addF_is l _ x most (addR l x most) hadd (by omega)) GG_no rfl rfl rfl ⟨⟨_, rfl, rfl, rfl⟩, trivial⟩ ?_; rintro r bs' ext ⟨cb, hcb, rfl, rfl⟩)
            | (refine call_ro [.o 0] (tickA_ok l _ (by omega) hok) GG_no rfl rfl rfl ⟨⟨_, rfl, rfl, rfl⟩, trivial⟩ ?_; rintro r bs' ext ⟨cc, cd, hcc, hcd, rfl, rfl⟩)
            | (refine call_ro [.o 0] (tickR_ok l _ (by omega) hok) GG_no rfl rfl rfl ⟨⟨_, rfl, rfl, rfl⟩, trivial⟩ ?_; rintro r bs' ext ⟨ce, cf, hce, hcf, rfl, rfl⟩)
            | (refine call_ro [.o 0] (dropA_ok l _ x.id (by omega)) GG_no rfl rfl rfl ⟨⟨_, rfl, rfl, rfl⟩, trivial⟩ ?_; rintro r bs' ext ⟨cg, hcg, rfl, rfl⟩)
            | (refine call_ro [.o 0] (dropR_ok l _ x.id (by omega)) GG_no rfl rfl rfl ⟨⟨_, rfl, rfl, rfl⟩, trivial⟩ ?_; rintro r bs' ext ⟨ch, hch, rfl, rfl⟩)
            | (refine call_ro [_, _] (sameA_is (addR l x most).1 (addR l x most).1 _ _ true (by omega) (decide_eq_true rfl)) GG_no rfl rfl rfl ⟨⟨_, rfl, rfl, rfl⟩, ⟨_, rfl, rfl, rfl⟩, trivial⟩ ?_; rintro r bs' ext ⟨rfl, rfl⟩)
            | (refine call_ro [_, _] (sameA_is (dropA l x.id) (dropA l x.id) _ _ true (by omega) (decide_eq_true rfl)) GG_no rfl rfl rfl ⟨⟨_, rfl, rfl, rfl⟩, ⟨_, rfl, rfl, rfl⟩, trivial⟩ ?_; rintro r bs' ext ⟨rfl, rfl⟩)
            | (refine call_ro [_, _] (sameA_is (tickL l) (tickL l) _ _ true (by omega) (decide_eq_true rfl)) GG_no rfl rfl rfl ⟨⟨_, rfl, rfl, rfl⟩, ⟨_, rfl, rfl, rfl⟩, trivial⟩ ?_; rintro r bs' ext ⟨rfl, rfl⟩)
            | (refine call_ro [_, _] (sameI_is (goneL l) (goneL l) _ _ true (by omega) (same_refl _)) GG_no rfl rfl rfl ⟨⟨_, rfl, rfl, rfl⟩, ⟨_, rfl, rfl, rfl⟩, trivial⟩ ?_; rintro r bs' ext ⟨rfl, rfl⟩)
            | (refine And.intro (by omega) ?_)
            | (refine BB.mk (fun _h => ?_) (fun _h => ?_) <;> (first | (exact absurd _h (by decide)) | (exfalso; simp only [boolSet] at _h <;> omega) | skip)))
          all_goals (try conv => whnf)
          all_goals first
            | exact Fin.mk ⟨rfl, rfl⟩
            | (exfalso; simp only [boolSet] at * <;> omega)
    | true =>
      cases hh : (idsL l).any (fun y => eqB y x.id) with
      | false =>
        cases hr2 : rightA l 100 with
        | false =>
          refine fn_val (C := seat) seat_ok [(3, (.of [(0, .take), (1, .take), (3, .take), (4, .take), (2, .do_), (5, .do_), (6, .take), (7, .take), (8, .take), (9, .take), (10, .take), (12, .take), (13, .take), (14, .take), (11, .do_), (15, .do_), (16, .take), (17, .take)])), (11, (.of [(0, .take), (1, .take), (2, .do_), (3, .take), (4, .take), (5, .take), (6, .take), (7, .take), (8, .take), (9, .take), (10, .take), (11, .take), (13, .take), (14, .take), (15, .take), (12, .do_), (16, .do_), (17, .do_), (18, .take), (19, .take), (20, .take), (21, .take), (22, .do_), (23, .take), (24, .take), (25, .take), (26, .take), (27, .do_), (28, .take), (29, .take), (30, .do_), (31, .take), (32, .take)]))] GG_no (Try.func3) rfl rfl rfl rfl rfl (fun _ => rfl) rfl ?_
          repeat' ((try conv => whnf); first
            | (with_reducible refine BB_true ?_)
            | (with_reducible refine BB_false ?_)
            | (with_reducible refine Both.mk ?_ ?_)
            | (with_reducible refine VS.mk ?_)
            | (refine PSem.go (C := seat) seat_ok ?_)
            | (refine And.intro (PlanOK.mk (by kernel_rfl) rfl (by kernel_rfl) (by kernel_rfl)) ?_)
            | (refine And.intro rfl (Exists.intro _ (And.intro (by first | assumption | rfl) ?_)))
            | (refine And.intro ⟨rfl, rfl, rfl⟩ ?_)
            | (refine call_ro [.o 0] (rightA_is l _ most true (by omega) hr) GG_no rfl rfl rfl ⟨⟨_, rfl, rfl, rfl⟩, trivial⟩ ?_; rintro r bs' ext ⟨rfl, rfl⟩)
            | (refine call_ro [.o 0] (rightR_is l _ most true (by omega) hok hr) GG_no rfl rfl rfl ⟨⟨_, rfl, rfl, rfl⟩, trivial⟩ ?_; rintro r bs' ext ⟨rfl, rfl⟩)
            | (refine call_ro [.o 0] (hasA_is l _ x.id false (by omega) hh) GG_no rfl rfl rfl ⟨⟨_, rfl, rfl, rfl⟩, trivial⟩ ?_; rintro r bs' ext ⟨rfl, rfl⟩)
            | (refine call_ro [.o 0] (hasR_is l _ x.id false (by omega) hh) GG_no rfl rfl rfl ⟨⟨_, rfl, rfl, rfl⟩, trivial⟩ ?_; rintro r bs' ext ⟨rfl, rfl⟩)
            | (refine call_ro [.o 0] (rightR_is l _ 100 false (by omega) hok hr2) GG_no rfl rfl rfl ⟨⟨_, rfl, rfl, rfl⟩, trivial⟩ ?_; rintro r bs' ext ⟨rfl, rfl⟩)
            | (refine call_ro [] (awake_ok) GG_no rfl rfl rfl trivial ?_; rintro r bs' ext ⟨rfl, rfl⟩)
            | (refine And.intro (by omega) ?_)
            | (refine BB.mk (fun _h => ?_) (fun _h => ?_) <;> (first | (exact absurd _h (by decide)) | (exfalso; simp only [boolSet] at _h <;> omega) | skip)))
          all_goals (try conv => whnf)
          all_goals first
            | exact Fin.mk ⟨rfl, rfl⟩
            | (exfalso; simp only [boolSet] at * <;> omega)
        | true =>
          have hadd := add_same (x := x) (most := most) (right_rise hr2)
          refine fn_val (C := seat) seat_ok [(3, (.of [(0, .take), (1, .take), (3, .take), (4, .take), (2, .do_), (5, .do_), (6, .take), (7, .take), (8, .take), (9, .take), (10, .take), (12, .take), (13, .take), (14, .take), (11, .do_), (15, .do_), (16, .take), (17, .take)])), (11, (.of [(0, .take), (1, .take), (2, .do_), (3, .take), (4, .take), (5, .take), (6, .take), (7, .take), (8, .take), (9, .take), (10, .take), (11, .take), (13, .take), (14, .take), (15, .take), (12, .do_), (16, .do_), (17, .do_), (18, .take), (19, .take), (20, .take), (21, .take), (22, .do_), (23, .take), (24, .take), (25, .take), (26, .take), (27, .do_), (28, .take), (29, .take), (30, .do_), (31, .take), (32, .take)]))] GG_no (Try.func3) rfl rfl rfl rfl rfl (fun _ => rfl) rfl ?_
          repeat' ((try conv => whnf); first
            | (with_reducible refine BB_true ?_)
            | (with_reducible refine BB_false ?_)
            | (with_reducible refine Both.mk ?_ ?_)
            | (with_reducible refine VS.mk ?_)
            | (refine PSem.go (C := seat) seat_ok ?_)
            | (refine And.intro (PlanOK.mk (by kernel_rfl) rfl (by kernel_rfl) (by kernel_rfl)) ?_)
            | (refine And.intro rfl (Exists.intro _ (And.intro (by first | assumption | rfl) ?_)))
            | (refine And.intro ⟨rfl, rfl, rfl⟩ ?_)
            | (refine call_ro [.o 0] (rightA_is l _ most true (by omega) hr) GG_no rfl rfl rfl ⟨⟨_, rfl, rfl, rfl⟩, trivial⟩ ?_; rintro r bs' ext ⟨rfl, rfl⟩)
            | (refine call_ro [.o 0] (rightR_is l _ most true (by omega) hok hr) GG_no rfl rfl rfl ⟨⟨_, rfl, rfl, rfl⟩, trivial⟩ ?_; rintro r bs' ext ⟨rfl, rfl⟩)
            | (refine call_ro [.o 0] (hasA_is l _ x.id false (by omega) hh) GG_no rfl rfl rfl ⟨⟨_, rfl, rfl, rfl⟩, trivial⟩ ?_; rintro r bs' ext ⟨rfl, rfl⟩)
            | (refine call_ro [.o 0] (hasR_is l _ x.id false (by omega) hh) GG_no rfl rfl rfl ⟨⟨_, rfl, rfl, rfl⟩, trivial⟩ ?_; rintro r bs' ext ⟨rfl, rfl⟩)
            | (refine call_ro [.o 0] (rightR_is l _ 100 true (by omega) hok hr2) GG_no rfl rfl rfl ⟨⟨_, rfl, rfl, rfl⟩, trivial⟩ ?_; rintro r bs' ext ⟨rfl, rfl⟩)
            | (refine call_ro [] (awake_ok) GG_no rfl rfl rfl trivial ?_; rintro r bs' ext ⟨rfl, rfl⟩)
            | (refine call_ro [.o 0] (addA_is l _ x most (addR l x most) rfl hc (by omega)) GG_no rfl rfl rfl ⟨⟨_, rfl, rfl, rfl⟩, trivial⟩ ?_; rintro r bs' ext ⟨ca, hca, rfl, rfl⟩)
            | (refine call_ro [.o 0] (addF_is l _ x most (addR l x most) hadd (by omega)) GG_no rfl rfl rfl ⟨⟨_, rfl, rfl, rfl⟩, trivial⟩ ?_; rintro r bs' ext ⟨cb, hcb, rfl, rfl⟩)
            | (refine call_ro [.o 0] (tickA_ok l _ (by omega) hok) GG_no rfl rfl rfl ⟨⟨_, rfl, rfl, rfl⟩, trivial⟩ ?_; rintro r bs' ext ⟨cc, cd, hcc, hcd, rfl, rfl⟩)
            | (refine call_ro [.o 0] (tickR_ok l _ (by omega) hok) GG_no rfl rfl rfl ⟨⟨_, rfl, rfl, rfl⟩, trivial⟩ ?_; rintro r bs' ext ⟨ce, cf, hce, hcf, rfl, rfl⟩)
            | (refine call_ro [.o 0] (dropA_ok l _ x.id (by omega)) GG_no rfl rfl rfl ⟨⟨_, rfl, rfl, rfl⟩, trivial⟩ ?_; rintro r bs' ext ⟨cg, hcg, rfl, rfl⟩)
            | (refine call_ro [.o 0] (dropR_ok l _ x.id (by omega)) GG_no rfl rfl rfl ⟨⟨_, rfl, rfl, rfl⟩, trivial⟩ ?_; rintro r bs' ext ⟨ch, hch, rfl, rfl⟩)
            | (refine call_ro [_, _] (sameA_is (addR l x most).1 (addR l x most).1 _ _ true (by omega) (decide_eq_true rfl)) GG_no rfl rfl rfl ⟨⟨_, rfl, rfl, rfl⟩, ⟨_, rfl, rfl, rfl⟩, trivial⟩ ?_; rintro r bs' ext ⟨rfl, rfl⟩)
            | (refine call_ro [_, _] (sameA_is (dropA l x.id) (dropA l x.id) _ _ true (by omega) (decide_eq_true rfl)) GG_no rfl rfl rfl ⟨⟨_, rfl, rfl, rfl⟩, ⟨_, rfl, rfl, rfl⟩, trivial⟩ ?_; rintro r bs' ext ⟨rfl, rfl⟩)
            | (refine call_ro [_, _] (sameA_is (tickL l) (tickL l) _ _ true (by omega) (decide_eq_true rfl)) GG_no rfl rfl rfl ⟨⟨_, rfl, rfl, rfl⟩, ⟨_, rfl, rfl, rfl⟩, trivial⟩ ?_; rintro r bs' ext ⟨rfl, rfl⟩)
            | (refine call_ro [_, _] (sameI_is (goneL l) (goneL l) _ _ true (by omega) (same_refl _)) GG_no rfl rfl rfl ⟨⟨_, rfl, rfl, rfl⟩, ⟨_, rfl, rfl, rfl⟩, trivial⟩ ?_; rintro r bs' ext ⟨rfl, rfl⟩)
            | (refine And.intro (by omega) ?_)
            | (refine BB.mk (fun _h => ?_) (fun _h => ?_) <;> (first | (exact absurd _h (by decide)) | (exfalso; simp only [boolSet] at _h <;> omega) | skip)))
          all_goals (try conv => whnf)
          all_goals first
            | exact Fin.mk ⟨rfl, rfl⟩
            | (exfalso; simp only [boolSet] at * <;> omega)
      | true =>
        cases hr2 : rightA l 100 with
        | false =>
          refine fn_val (C := seat) seat_ok [(3, (.of [(0, .take), (1, .take), (3, .take), (4, .take), (2, .do_), (5, .do_), (6, .take), (7, .take), (8, .take), (9, .take), (10, .take), (12, .take), (13, .take), (14, .take), (11, .do_), (15, .do_), (16, .take), (17, .take)])), (11, (.of [(0, .take), (1, .take), (2, .do_), (3, .take), (4, .take), (5, .take), (6, .take), (7, .take), (8, .take), (9, .take), (10, .take), (11, .take), (13, .take), (14, .take), (15, .take), (12, .do_), (16, .do_), (17, .do_), (18, .take), (19, .take), (20, .take), (21, .take), (22, .do_), (23, .take), (24, .take), (25, .take), (26, .take), (27, .do_), (28, .take), (29, .take), (30, .do_), (31, .take), (32, .take)]))] GG_no (Try.func3) rfl rfl rfl rfl rfl (fun _ => rfl) rfl ?_
          repeat' ((try conv => whnf); first
            | (with_reducible refine BB_true ?_)
            | (with_reducible refine BB_false ?_)
            | (with_reducible refine Both.mk ?_ ?_)
            | (with_reducible refine VS.mk ?_)
            | (refine PSem.go (C := seat) seat_ok ?_)
            | (refine And.intro (PlanOK.mk (by kernel_rfl) rfl (by kernel_rfl) (by kernel_rfl)) ?_)
            | (refine And.intro rfl (Exists.intro _ (And.intro (by first | assumption | rfl) ?_)))
            | (refine And.intro ⟨rfl, rfl, rfl⟩ ?_)
            | (refine call_ro [.o 0] (rightA_is l _ most true (by omega) hr) GG_no rfl rfl rfl ⟨⟨_, rfl, rfl, rfl⟩, trivial⟩ ?_; rintro r bs' ext ⟨rfl, rfl⟩)
            | (refine call_ro [.o 0] (rightR_is l _ most true (by omega) hok hr) GG_no rfl rfl rfl ⟨⟨_, rfl, rfl, rfl⟩, trivial⟩ ?_; rintro r bs' ext ⟨rfl, rfl⟩)
            | (refine call_ro [.o 0] (hasA_is l _ x.id true (by omega) hh) GG_no rfl rfl rfl ⟨⟨_, rfl, rfl, rfl⟩, trivial⟩ ?_; rintro r bs' ext ⟨rfl, rfl⟩)
            | (refine call_ro [.o 0] (hasR_is l _ x.id true (by omega) hh) GG_no rfl rfl rfl ⟨⟨_, rfl, rfl, rfl⟩, trivial⟩ ?_; rintro r bs' ext ⟨rfl, rfl⟩)
            | (refine call_ro [.o 0] (rightR_is l _ 100 false (by omega) hok hr2) GG_no rfl rfl rfl ⟨⟨_, rfl, rfl, rfl⟩, trivial⟩ ?_; rintro r bs' ext ⟨rfl, rfl⟩)
            | (refine call_ro [] (awake_ok) GG_no rfl rfl rfl trivial ?_; rintro r bs' ext ⟨rfl, rfl⟩)
            | (refine And.intro (by omega) ?_)
            | (refine BB.mk (fun _h => ?_) (fun _h => ?_) <;> (first | (exact absurd _h (by decide)) | (exfalso; simp only [boolSet] at _h <;> omega) | skip)))
          all_goals (try conv => whnf)
          all_goals first
            | exact Fin.mk ⟨rfl, rfl⟩
            | (exfalso; simp only [boolSet] at * <;> omega)
        | true =>
          have hadd := add_same (x := x) (most := most) (right_rise hr2)
          refine fn_val (C := seat) seat_ok [(3, (.of [(0, .take), (1, .take), (3, .take), (4, .take), (2, .do_), (5, .do_), (6, .take), (7, .take), (8, .take), (9, .take), (10, .take), (12, .take), (13, .take), (14, .take), (11, .do_), (15, .do_), (16, .take), (17, .take)])), (11, (.of [(0, .take), (1, .take), (2, .do_), (3, .take), (4, .take), (5, .take), (6, .take), (7, .take), (8, .take), (9, .take), (10, .take), (11, .take), (13, .take), (14, .take), (15, .take), (12, .do_), (16, .do_), (17, .do_), (18, .take), (19, .take), (20, .take), (21, .take), (22, .do_), (23, .take), (24, .take), (25, .take), (26, .take), (27, .do_), (28, .take), (29, .take), (30, .do_), (31, .take), (32, .take)]))] GG_no (Try.func3) rfl rfl rfl rfl rfl (fun _ => rfl) rfl ?_
          repeat' ((try conv => whnf); first
            | (with_reducible refine BB_true ?_)
            | (with_reducible refine BB_false ?_)
            | (with_reducible refine Both.mk ?_ ?_)
            | (with_reducible refine VS.mk ?_)
            | (refine PSem.go (C := seat) seat_ok ?_)
            | (refine And.intro (PlanOK.mk (by kernel_rfl) rfl (by kernel_rfl) (by kernel_rfl)) ?_)
            | (refine And.intro rfl (Exists.intro _ (And.intro (by first | assumption | rfl) ?_)))
            | (refine And.intro ⟨rfl, rfl, rfl⟩ ?_)
            | (refine call_ro [.o 0] (rightA_is l _ most true (by omega) hr) GG_no rfl rfl rfl ⟨⟨_, rfl, rfl, rfl⟩, trivial⟩ ?_; rintro r bs' ext ⟨rfl, rfl⟩)
            | (refine call_ro [.o 0] (rightR_is l _ most true (by omega) hok hr) GG_no rfl rfl rfl ⟨⟨_, rfl, rfl, rfl⟩, trivial⟩ ?_; rintro r bs' ext ⟨rfl, rfl⟩)
            | (refine call_ro [.o 0] (hasA_is l _ x.id true (by omega) hh) GG_no rfl rfl rfl ⟨⟨_, rfl, rfl, rfl⟩, trivial⟩ ?_; rintro r bs' ext ⟨rfl, rfl⟩)
            | (refine call_ro [.o 0] (hasR_is l _ x.id true (by omega) hh) GG_no rfl rfl rfl ⟨⟨_, rfl, rfl, rfl⟩, trivial⟩ ?_; rintro r bs' ext ⟨rfl, rfl⟩)
            | (refine call_ro [.o 0] (rightR_is l _ 100 true (by omega) hok hr2) GG_no rfl rfl rfl ⟨⟨_, rfl, rfl, rfl⟩, trivial⟩ ?_; rintro r bs' ext ⟨rfl, rfl⟩)
            | (refine call_ro [] (awake_ok) GG_no rfl rfl rfl trivial ?_; rintro r bs' ext ⟨rfl, rfl⟩)
            | (refine call_ro [.o 0] (addA_is l _ x most (addR l x most) rfl hc (by omega)) GG_no rfl rfl rfl ⟨⟨_, rfl, rfl, rfl⟩, trivial⟩ ?_; rintro r bs' ext ⟨ca, hca, rfl, rfl⟩)
            | (refine call_ro [.o 0] (addF_is l _ x most (addR l x most) hadd (by omega)) GG_no rfl rfl rfl ⟨⟨_, rfl, rfl, rfl⟩, trivial⟩ ?_; rintro r bs' ext ⟨cb, hcb, rfl, rfl⟩)
            | (refine call_ro [.o 0] (tickA_ok l _ (by omega) hok) GG_no rfl rfl rfl ⟨⟨_, rfl, rfl, rfl⟩, trivial⟩ ?_; rintro r bs' ext ⟨cc, cd, hcc, hcd, rfl, rfl⟩)
            | (refine call_ro [.o 0] (tickR_ok l _ (by omega) hok) GG_no rfl rfl rfl ⟨⟨_, rfl, rfl, rfl⟩, trivial⟩ ?_; rintro r bs' ext ⟨ce, cf, hce, hcf, rfl, rfl⟩)
            | (refine call_ro [.o 0] (dropA_ok l _ x.id (by omega)) GG_no rfl rfl rfl ⟨⟨_, rfl, rfl, rfl⟩, trivial⟩ ?_; rintro r bs' ext ⟨cg, hcg, rfl, rfl⟩)
            | (refine call_ro [.o 0] (dropR_ok l _ x.id (by omega)) GG_no rfl rfl rfl ⟨⟨_, rfl, rfl, rfl⟩, trivial⟩ ?_; rintro r bs' ext ⟨ch, hch, rfl, rfl⟩)
            | (refine call_ro [_, _] (sameA_is (addR l x most).1 (addR l x most).1 _ _ true (by omega) (decide_eq_true rfl)) GG_no rfl rfl rfl ⟨⟨_, rfl, rfl, rfl⟩, ⟨_, rfl, rfl, rfl⟩, trivial⟩ ?_; rintro r bs' ext ⟨rfl, rfl⟩)
            | (refine call_ro [_, _] (sameA_is (dropA l x.id) (dropA l x.id) _ _ true (by omega) (decide_eq_true rfl)) GG_no rfl rfl rfl ⟨⟨_, rfl, rfl, rfl⟩, ⟨_, rfl, rfl, rfl⟩, trivial⟩ ?_; rintro r bs' ext ⟨rfl, rfl⟩)
            | (refine call_ro [_, _] (sameA_is (tickL l) (tickL l) _ _ true (by omega) (decide_eq_true rfl)) GG_no rfl rfl rfl ⟨⟨_, rfl, rfl, rfl⟩, ⟨_, rfl, rfl, rfl⟩, trivial⟩ ?_; rintro r bs' ext ⟨rfl, rfl⟩)
            | (refine call_ro [_, _] (sameI_is (goneL l) (goneL l) _ _ true (by omega) (same_refl _)) GG_no rfl rfl rfl ⟨⟨_, rfl, rfl, rfl⟩, ⟨_, rfl, rfl, rfl⟩, trivial⟩ ?_; rintro r bs' ext ⟨rfl, rfl⟩)
            | (refine And.intro (by omega) ?_)
            | (refine BB.mk (fun _h => ?_) (fun _h => ?_) <;> (first | (exact absurd _h (by decide)) | (exfalso; simp only [boolSet] at _h <;> omega) | skip)))
          all_goals (try conv => whnf)
          all_goals first
            | exact Fin.mk ⟨rfl, rfl⟩
            | (exfalso; simp only [boolSet] at * <;> omega)
  · refine fn_val (C := seat) seat_ok [(3, (.of [(0, .take), (1, .take), (3, .take), (4, .take), (2, .do_), (5, .do_), (6, .take), (7, .take), (8, .take), (9, .take), (10, .take), (12, .take), (13, .take), (14, .take), (11, .do_), (15, .do_), (16, .take), (17, .take)])), (11, (.of [(0, .take), (1, .take), (2, .do_), (3, .take), (4, .take), (5, .take), (6, .take), (7, .take), (8, .take), (9, .take), (10, .take), (11, .take), (13, .take), (14, .take), (15, .take), (12, .do_), (16, .do_), (17, .do_), (18, .take), (19, .take), (20, .take), (21, .take), (22, .do_), (23, .take), (24, .take), (25, .take), (26, .take), (27, .do_), (28, .take), (29, .take), (30, .do_), (31, .take), (32, .take)]))] GG_no (Try.func3) rfl rfl rfl rfl rfl (fun _ => rfl) rfl ?_
    repeat' ((try conv => whnf); first
      | (with_reducible refine BB_true ?_)
      | (with_reducible refine BB_false ?_)
      | (with_reducible refine Both.mk ?_ ?_)
      | (with_reducible refine VS.mk ?_)
      | (refine PSem.go (C := seat) seat_ok ?_)
      | (refine And.intro (PlanOK.mk (by kernel_rfl) rfl (by kernel_rfl) (by kernel_rfl)) ?_)
      | (refine And.intro rfl (Exists.intro _ (And.intro (by first | assumption | rfl) ?_)))
      | (refine And.intro ⟨rfl, rfl, rfl⟩ ?_)
      | (refine call_ro [] (awake_ok) GG_no rfl rfl rfl trivial ?_; rintro r bs' ext ⟨rfl, rfl⟩)
      | (refine And.intro (by omega) ?_)
      | (refine BB.mk (fun _h => ?_) (fun _h => ?_) <;> (first | (exact absurd _h (by decide)) | (exfalso; simp only [boolSet] at _h <;> omega) | skip)))
    all_goals (try conv => whnf)
    all_goals first
      | exact Fin.mk ⟨rfl, rfl⟩
      | (exfalso; simp only [boolSet] at * <;> omega)
end Go.Proofs.Ytcjcnlahieddoaa
