/- Stage 11: the law's own examples. -/
import Derived.Test.YtjghbfbifkhloaaW11c
namespace Go.Proofs.Ytjghbfbifkhloaa
open Go.RowKit

set_option maxRecDepth 100000 in
set_option maxHeartbeats 4000000 in
theorem awake_ok  : FnOK Try.prog GG 9 [] [] (fun r _ ext => (r = .v (.bool true)) ∧ ext = []) := by
  refine FnOK.pure GG_no rfl (fn_intro (C := seat) seat_ok [] GG_no (Try.func9) rfl rfl rfl rfl rfl ?_)
  repeat' ((try conv => whnf); first
    | (with_reducible refine OKv.go (C := seat) seat_ok ?_)
    | (with_reducible refine BB_true ?_)
    | (with_reducible refine BB_false ?_)
    | (with_reducible refine Both.mk ?_ ?_)
    | (with_reducible refine VS.mk ?_)
    | (refine PSem.go (C := seat) seat_ok ?_)
    | (refine And.intro (PlanOK.mk (by kernel_rfl) rfl (by kernel_rfl) (by kernel_rfl)) ?_)
    | (refine And.intro rfl (Exists.intro _ (And.intro (by first | assumption | rfl) ?_)))
    | (refine And.intro ⟨rfl, rfl, rfl⟩ ?_)
    | (refine call_ro [] (one_w _ _) GG_no rfl rfl rfl trivial ?_; rintro r bs' ext ⟨rfl, rfl⟩)
    | ((first | refine call_frz 2 rfl (frz_row rfl rfl) ?_ | refine call_frz 2 rfl (frz_ro rfl rfl) ?_); refine call_ro [] (start_ok 3 2 [⟨9, 1, 0, []⟩] _ (by decide) (by decide) 2 (by decide)) GG_no rfl rfl rfl trivial ?_; rintro r bs' ext ⟨⟨c', hc', rfl⟩, rfl⟩)
    | (refine call_ro [] (answer_no true 3 2 4 (.inr (by decide)) [⟨9, 1, 0, []⟩] _ (by decide) (by decide)) GG_no rfl rfl rfl trivial ?_; rintro r bs' ext ⟨⟨c', hc', rfl⟩, rfl⟩)
    | (refine call_ro [] (answer_yes 3 2 [⟨9, 1, 0, []⟩] _ (by decide) (by decide)) GG_no rfl rfl rfl trivial ?_; rintro r bs' ext ⟨⟨c', hc', rfl⟩, rfl⟩)
    | (refine call_ro [] (tick_on 3 2 (by decide) 1 (by decide) [⟨9, 1, 0, []⟩] _ (by decide) (by decide)) GG_no rfl rfl rfl trivial ?_; rintro r bs' ext ⟨⟨c', hc', rfl⟩, rfl⟩)
    | (refine call_ro [] (tick_last 3 1 [⟨9, 1, 0, []⟩] _ (by decide)) GG_no rfl rfl rfl trivial ?_; rintro r bs' ext ⟨rfl, rfl⟩)
    | (refine call_frz 1 rfl (frz_aggT 3 rfl (frz_nil _ 4) rfl) ?_; refine call_ro [] (same_w false false 0 0 0 0 [] [] 0 0 (by decide) (by decide) true (by decide)) GG_no rfl rfl rfl trivial ?_; rintro r bs' ext ⟨rfl, rfl⟩)
    | ((first | refine call_frz 0 rfl (frz_row rfl rfl) ?_ | refine call_frz 0 rfl (frz_ro rfl rfl) ?_); refine call_ro [] (admit_old [⟨1, 1, 5, []⟩, ⟨2, 1, 1, []⟩] _ (by decide) (by decide) (by decide) ⟨7, 1, 0, []⟩ _ (Nat.zero_le _) (by decide) 0 2 (by decide) (by decide) 0 ⟨1, 1, 5, []⟩ (by decide) (by decide) [⟨2, 1, 1, []⟩, ⟨7, 1, 0, []⟩] true (by decide)) GG_no rfl rfl rfl trivial ?_; rintro r bs' ext ⟨⟨c', hc', rfl⟩, rfl⟩)
    | ((first | refine call_frz 1 rfl (frz_row rfl rfl) ?_ | refine call_frz 1 rfl (frz_ro rfl rfl) ?_); refine call_ro [] (descs_zz (admL [⟨1, 1, 5, []⟩, ⟨2, 1, 1, []⟩] ⟨7, 1, 0, []⟩ 0 2) [⟨2, 1, 1, []⟩, ⟨7, 1, 0, []⟩] _ _ (by decide) (by decide) true (by decide)) GG_no rfl rfl rfl trivial ?_; rintro r bs' ext ⟨rfl, rfl⟩)
    | ((first | refine call_frz 0 rfl (frz_row rfl rfl) ?_ | refine call_frz 0 rfl (frz_ro rfl rfl) ?_); (first | refine call_frz 1 rfl (frz_row rfl rfl) ?_ | refine call_frz 1 rfl (frz_ro rfl rfl) ?_); refine call_ro [] (fill_ok [⟨1, 1, 5, []⟩, ⟨2, 1, 1, []⟩] [⟨7, 1, 0, []⟩] _ _ 0 2 ⟨by decide, by decide, by decide⟩ (by decide) (by decide) (by decide) (by decide)) GG_no rfl rfl rfl trivial ?_; rintro r bs' ext ⟨⟨c', hc', rfl⟩, rfl⟩)
    | ((first | refine call_frz 1 rfl (frz_row rfl rfl) ?_ | refine call_frz 1 rfl (frz_ro rfl rfl) ?_); refine call_ro [] (descs_zz (fillL [⟨7, 1, 0, []⟩] 0 2 1 [⟨1, 1, 5, []⟩, ⟨2, 1, 1, []⟩]) [⟨1, 1, 5, []⟩, ⟨2, 1, 1, []⟩] _ _ (by decide) (by decide) true (by decide)) GG_no rfl rfl rfl trivial ?_; rintro r bs' ext ⟨rfl, rfl⟩)
    | (refine And.intro (by omega) ?_)
    | (refine BB.mk (fun _h => ?_) (fun _h => ?_) <;> (first | (exact absurd _h (by decide)) | (exfalso; simp only [boolSet] at _h <;> omega) | skip)))
  all_goals (try conv => whnf)
  exact ⟨_, _, FrzV.refl _ _, rfl, rfl, fun _ => rfl, rfl⟩
end Go.Proofs.Ytjghbfbifkhloaa
