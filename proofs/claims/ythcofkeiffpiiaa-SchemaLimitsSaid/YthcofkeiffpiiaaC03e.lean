/- The chapter's examples, by computing. -/
import Derived.Test.YthcofkeiffpiiaaC03d
namespace Go.Proofs.Ythcofkeiffpiiaa
open Go.RowKit

def exE : Ev_ := ⟨0, 1, 1, [3, 5], List.replicate 64 0⟩
def exL : Ev_ := ⟨0, 1, 1, [3, 5], List.replicate 65 0⟩
set_option maxRecDepth 100000 in
set_option maxHeartbeats 4000000 in
theorem awake_ok  : FnOK Try.prog GG 9 [] [] (fun r _ ext => r = .v (.bool true) ∧ ext = []) := by
  refine fn_val (C := seat) seat_ok [(5, (.op 0 .take (.op 1 .do_ (.op 2 .take (.op 3 .take (.op 4 .do_ (.op 5 .do_ (.op 6 .take (.op 7 .take (.op 8 .take (.op 9 .do_ (.op 10 .do_ (.op 11 .take (.op 12 .take (.op 13 .take (.op 14 .take (.op 15 .do_ (.op 16 .do_ (.op 17 .take (.op 18 .take (.op 19 .take (.op 20 .take (.seq 33 [true, true, true, true, true, true, true, true, true, true, true, true, true, true, true, true, true, true, true, true, true, true, true, true, false, false, false, false, false, false, false, false, false, false, false, false, false, false, false, false, false, false, false, false, false, false, false, false, false, false, false, false, false, false, false, false, false] (.fork 21 (.fork 22 (.of [(23, .do_)]) (.of [(23, .do_), (22, .do_)])) (.of [(23, .do_), (21, .do_), (22, .do_)])) (.op 24 .do_ (.op 25 .take (.op 26 .take (.op 27 .take (.seq 26 [true, true, true, true, true, true, true, true, true, true, true, true, true, true, true, true, true, true, true, true, true, true, true, true, true, true, true, true, true, true, true, false, false, false, false, false, false, false, false, false, false, false, false, false, false, false, false, false, false, false, false, false, false, false, false, false, false] (.fork 28 (.fork 29 (.of [(30, .do_)]) (.of [(30, .do_), (29, .do_)])) (.of [(30, .do_), (28, .do_), (29, .do_)])) (.of [(31, .do_), (32, .take), (33, .take), (34, .take), (35, .take), (36, .do_), (37, .take), (38, .take), (39, .take), (40, .take), (41, .do_), (42, .take), (43, .take), (44, .take), (45, .take), (46, .take), (47, .do_), (48, .do_), (49, .take), (50, .take), (51, .take), (52, .take), (53, .do_), (54, .take), (55, .take), (56, .take)])))))))))))))))))))))))))))))] GG_no (Try.func9) rfl rfl rfl rfl rfl (fun _ => rfl) rfl ?_
  repeat' ((try conv => whnf); first
    | (with_reducible refine BB_true ?_)
    | (with_reducible refine BB_false ?_)
    | (with_reducible refine Both.mk ?_ ?_)
    | (with_reducible refine VS.mk ?_)
    | (refine PSem.go (C := seat) seat_ok ?_)
    | (refine And.intro (PlanOK.mk (by kernel_rfl) rfl (by kernel_rfl) (by kernel_rfl)) ?_)
    | (refine And.intro rfl (Exists.intro _ (And.intro (by first | assumption | rfl) ?_)))
    | (refine And.intro ⟨rfl, rfl, rfl⟩ ?_)
    | (refine call_ro [] (two_ok) GG_no rfl rfl rfl trivial ?_; rintro r bs' ext ⟨rfl, rfl⟩)
    | (refine call_ro [_, _] (copy_ok exE _ _ ⟨by decide, by decide, by decide, by decide⟩) GG_no rfl rfl rfl ⟨⟨_, rfl, rfl, rfl⟩, ⟨_, rfl, rfl, rfl⟩, trivial⟩ ?_; rintro r bs' ext ⟨c1', c2', hf', rfl, rfl⟩)
    | (refine call_ro [_] (right_p_is twoL 2 (by decide) true (by decide)) GG_no rfl rfl rfl ⟨⟨_, rfl, rfl, rfl⟩, trivial⟩ ?_; rintro r bs' ext ⟨rfl, rfl⟩)
    | (refine call_ro [_, _] (fits_p_is twoL [3, 5] 2 _ (by decide) true (by decide)) GG_no rfl rfl rfl ⟨⟨_, rfl, rfl, rfl⟩, ⟨_, rfl, rfl, rfl⟩, trivial⟩ ?_; rintro r bs' ext ⟨rfl, rfl⟩)
    | (refine call_ro [_, _] (fits_p_is twoL [3, 6] 2 _ (by decide) false (by decide)) GG_no rfl rfl rfl ⟨⟨_, rfl, rfl, rfl⟩, ⟨_, rfl, rfl, rfl⟩, trivial⟩ ?_; rintro r bs' ext ⟨rfl, rfl⟩)
    | (refine call_ro [_, _] (fits_p_is twoL [3] 2 _ (by decide) false (by decide)) GG_no rfl rfl rfl ⟨⟨_, rfl, rfl, rfl⟩, ⟨_, rfl, rfl, rfl⟩, trivial⟩ ?_; rintro r bs' ext ⟨rfl, rfl⟩)
    | (refine call_ro [_, _] (bring_p twoL [12, -9] [] 2 _ (by decide)) GG_no rfl rfl rfl ⟨⟨_, rfl, rfl, rfl⟩, ⟨_, rfl, rfl, rfl⟩, trivial⟩ ?_; rintro r bs' ext ⟨cb, hcb, rfl, rfl⟩)
    | (refine call_ro [_, _] (vals_is (bringL twoL [12, -9]) [9, -5] _ _ (by decide) true (by decide)) GG_no rfl rfl rfl ⟨⟨_, rfl, rfl, rfl⟩, ⟨_, rfl, rfl, rfl⟩, trivial⟩ ?_; rintro r bs' ext ⟨rfl, rfl⟩)
    | (refine call_ro [_, _] (bring_p twoL [4] [] 2 _ (by decide)) GG_no rfl rfl rfl ⟨⟨_, rfl, rfl, rfl⟩, ⟨_, rfl, rfl, rfl⟩, trivial⟩ ?_; rintro r bs' ext ⟨cb, hcb, rfl, rfl⟩)
    | (refine call_ro [_, _] (vals_is (bringL twoL [4]) [4, 0] _ _ (by decide) true (by decide)) GG_no rfl rfl rfl ⟨⟨_, rfl, rfl, rfl⟩, ⟨_, rfl, rfl, rfl⟩, trivial⟩ ?_; rintro r bs' ext ⟨rfl, rfl⟩)
    | (refine call_ro [_, _, _] (event_p_is twoL exE 2 _ _ (by decide) (by decide) true (by decide)) GG_no rfl rfl rfl ⟨⟨_, rfl, rfl, rfl⟩, ⟨_, rfl, rfl, rfl⟩, ⟨_, rfl, rfl, rfl⟩, trivial⟩ ?_; rintro r bs' ext ⟨rfl, rfl⟩)
    | (refine call_ro [_, _, _] (event_p_is twoL exL 2 _ _ (by decide) (by decide) false (by decide)) GG_no rfl rfl rfl ⟨⟨_, rfl, rfl, rfl⟩, ⟨_, rfl, rfl, rfl⟩, ⟨_, rfl, rfl, rfl⟩, trivial⟩ ?_; rintro r bs' ext ⟨rfl, rfl⟩)
    | (refine call_ro [_, _, _, _] (same_is exE exE _ _ _ _ (by decide) (by decide) true (by decide)) GG_no rfl rfl rfl ⟨⟨_, rfl, rfl, rfl⟩, ⟨_, rfl, rfl, rfl⟩, ⟨_, rfl, rfl, rfl⟩, ⟨_, rfl, rfl, rfl⟩, trivial⟩ ?_; rintro r bs' ext ⟨rfl, rfl⟩)
    | (refine call_ro [_, _, _, _] (same_is exE exL _ _ _ _ (by decide) (by decide) false (by decide)) GG_no rfl rfl rfl ⟨⟨_, rfl, rfl, rfl⟩, ⟨_, rfl, rfl, rfl⟩, ⟨_, rfl, rfl, rfl⟩, ⟨_, rfl, rfl, rfl⟩, trivial⟩ ?_; rintro r bs' ext ⟨rfl, rfl⟩)
    | (refine And.intro ⟨rfl, rfl, rfl, rfl⟩ ?_)
    | (refine And.intro ⟨rfl, by decide⟩ ?_)
    | (refine And.intro (by first | decide | omega | (dsimp only; omega)) ?_)
    | (intro cap' hcap')
    | (refine And.intro (by omega) ?_)
    | (refine BB.mk (fun _h => ?_) (fun _h => ?_) <;> (first | (exact absurd _h (by decide)) | (exfalso; simp only [boolSet] at _h <;> omega) | skip)))
  all_goals (try conv => whnf)
  all_goals (try (refine Fin.mk ?_))
  all_goals (exact ⟨rfl, rfl⟩)
end Go.Proofs.Ythcofkeiffpiiaa
