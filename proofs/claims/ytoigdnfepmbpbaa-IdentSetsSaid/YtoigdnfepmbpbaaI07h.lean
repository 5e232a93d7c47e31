/- The chapter's examples, by computing. -/
import Derived.Test.YtoigdnfepmbpbaaI07g
namespace Go.Proofs.Ytoigdnfepmbpbaa
open Go.RowKit

def exL : List Id_ := [⟨0, 1, 1⟩, ⟨0, 1, 2⟩, ⟨0, 1, 3⟩]
theorem put_lit (c : Nat) (hc : 2 ≤ c) : FnOK Try.prog GG 20 [.ro 3 (([⟨0, 1, 1⟩, ⟨0, 1, 3⟩] : List Id_).map idC)] [.s (.o 0) 3 0 2 c, idS ⟨0, 1, 2⟩]
    (fun r _ ext => ∃ cap, r = .s (.n 0) 3 0 3 cap ∧ ext = [.row 25 3 cap (exL.map idC)]) :=
  put_new [⟨0, 1, 1⟩, ⟨0, 1, 3⟩] ⟨0, 1, 2⟩ c (by decide) hc (by decide)
theorem drop_lit (c : Nat) : FnOK Try.prog GG 22 [.ro 3 (exL.map idC)] [.s (.o 0) 3 0 3 c, idS ⟨0, 1, 3⟩]
    (fun r _ ext => ∃ cap, r = .s (.n 0) 3 0 2 cap ∧ ext = [.row 25 3 cap (([⟨0, 1, 1⟩, ⟨0, 1, 2⟩] : List Id_).map idC)]) :=
  drop_p exL ⟨0, 1, 3⟩ c (by decide)
set_option maxRecDepth 100000 in
set_option maxHeartbeats 4000000 in
theorem one_ok (n : Int) : FnOK Try.prog GG 25 [] [.v (.int .u32 n)] (fun r _ ext => r = idS ⟨0, 1, n⟩ ∧ ext = []) := by
  refine fn_val (C := seat) seat_ok [] GG_no (Try.func25) rfl rfl rfl rfl rfl (fun _ => rfl) rfl ?_
  repeat' ((try conv => whnf); first
    | (with_reducible refine BB_true ?_)
    | (with_reducible refine BB_false ?_)
    | (with_reducible refine Both.mk ?_ ?_)
    | (with_reducible refine VS.mk ?_)
    | (refine PSem.go (C := seat) seat_ok ?_)
    | (refine And.intro (PlanOK.mk (by kernel_rfl) rfl (by kernel_rfl) (by kernel_rfl)) ?_)
    | (refine And.intro rfl (Exists.intro _ (And.intro (by first | assumption | rfl) ?_)))
    | (refine And.intro (by omega) ?_)
    | (refine BB.mk (fun _h => ?_) (fun _h => ?_) <;> (first | (exact absurd _h (by decide)) | (exfalso; simp only [boolSet] at _h <;> omega) | skip)))
  all_goals (try conv => whnf)
  all_goals (try (refine Fin.mk ?_))
  all_goals (exact ⟨rfl, rfl⟩)
set_option maxRecDepth 100000 in
set_option maxHeartbeats 4000000 in
theorem awake_ok  : FnOK Try.prog GG 8 [] [] (fun r _ ext => r = .v (.bool true) ∧ ext = []) := by
  refine fn_val (C := seat) seat_ok [] GG_no (Try.func8) rfl rfl rfl rfl rfl (fun _ => rfl) rfl ?_
  repeat' ((try conv => whnf); first
    | (with_reducible refine BB_true ?_)
    | (with_reducible refine BB_false ?_)
    | (with_reducible refine Both.mk ?_ ?_)
    | (with_reducible refine VS.mk ?_)
    | (refine PSem.go (C := seat) seat_ok ?_)
    | (refine And.intro (PlanOK.mk (by kernel_rfl) rfl (by kernel_rfl) (by kernel_rfl)) ?_)
    | (refine And.intro rfl (Exists.intro _ (And.intro (by first | assumption | rfl) ?_)))
    | (refine call_ro [] (one_ok _) GG_no rfl rfl rfl trivial ?_; rintro r bs' ext ⟨rfl, rfl⟩)
    | (refine call_ro [] (next_yes_p ⟨_, _, _⟩ _ (by decide) (by decide) (by decide)) GG_no rfl rfl rfl trivial ?_; rintro r bs' ext ⟨rfl, rfl⟩)
    | (refine call_ro [] (next_no_p ⟨_, _, _⟩ _ (by decide)) GG_no rfl rfl rfl trivial ?_; rintro r bs' ext ⟨rfl, rfl⟩)
    | (refine call_ro [] (right_p ⟨_, _, _⟩ _ _ (by constructor <;> decide)) GG_no rfl rfl rfl trivial ?_; rintro r bs' ext ⟨rfl, rfl⟩)
    | (refine call_ro [.n 4] (put_lit _ (by decide)) GG_no rfl rfl rfl ⟨⟨_, rfl, rfl, rfl⟩, trivial⟩ ?_; rintro r bs' ext ⟨c5, rfl, rfl⟩)
    | (refine call_ro [.n 5, .n 6] (same_ok exL exL _ _ (by decide)) GG_no rfl rfl rfl ⟨⟨_, rfl, rfl, rfl⟩, ⟨_, rfl, rfl, rfl⟩, trivial⟩ ?_; rintro r bs' ext ⟨rfl, rfl⟩)
    | (refine call_ro [.n 5] (drop_lit _) GG_no rfl rfl rfl ⟨⟨_, rfl, rfl, rfl⟩, trivial⟩ ?_; rintro r bs' ext ⟨c7, rfl, rfl⟩)
    | (refine And.intro (by omega) ?_)
    | (refine BB.mk (fun _h => ?_) (fun _h => ?_) <;> (first | (exact absurd _h (by decide)) | (exfalso; simp only [boolSet] at _h <;> omega) | skip)))
  all_goals (try conv => whnf)
  all_goals (try (refine Fin.mk ?_))
  all_goals (exact ⟨rfl, rfl⟩)
end Go.Proofs.Ytoigdnfepmbpbaa
