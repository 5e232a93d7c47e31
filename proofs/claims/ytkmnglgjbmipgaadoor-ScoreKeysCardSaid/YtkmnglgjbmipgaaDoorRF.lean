/- References: spans. -/
import Derived.Test.YtkmnglgjbmipgaaDoorF05m
namespace Go.Proofs.YtkmnglgjbmipgaaDoor
open Go.RowKit

set_option maxRecDepth 100000 in
set_option maxHeartbeats 4000000 in
theorem rmeet_z (a b c d : Int) : FnOK Tryd.prog GG 38 [] [spI a b, spI c d] (fun r _ ext => ((max a c ≤ min b d ∧ r = .tup [spI (max a c) (min b d), .v (.bool true)]) ∨ (min b d < max a c ∧ r = .tup [spI 0 0, .v (.bool false)])) ∧ ext = []) := by
  refine FnOK.pure GG_no rfl (fn_intro (C := seat) seat_ok [(3, (.of [(0, .take), (1, .take), (2, .take), (3, .take), (4, .take), (5, .take)]))] GG_no (Tryd.func38) rfl rfl rfl rfl rfl ?_)
  repeat' ((try conv => whnf); first
    | (with_reducible refine OKv.go (C := seat) seat_ok ?_)
    | (with_reducible refine BB_true ?_)
    | (with_reducible refine BB_false ?_)
    | (with_reducible refine Both.mk ?_ ?_)
    | (with_reducible refine VS.mk ?_)
    | (refine PSem.go (C := seat) seat_ok ?_)
    | (refine And.intro (PlanOK.mk (by kernel_rfl) rfl (by kernel_rfl) (by kernel_rfl)) ?_)
    | (refine And.intro rfl (Exists.intro _ (And.intro (by first | assumption | rfl) ?_)))
    | (refine And.intro ⟨rfl, rfl, rfl⟩ ?_)
    | (refine BB.mk (fun _h => ?_) (fun _h => ?_) <;> (first | (exact absurd _h (by decide)) | (exfalso; simp only [boolSet] at _h <;> omega) | (simp only [boolSet] at _h) | skip))
    | (refine And.intro (by omega) ?_)
    | (refine BB.mk (fun _h => ?_) (fun _h => ?_) <;> (first | (exact absurd _h (by decide)) | (exfalso; simp only [boolSet] at _h <;> omega) | skip)))
  all_goals (try conv => whnf)
  all_goals first
    | exact ⟨_, _, FrzV.refl _ _, rfl, rfl, fun _ => rfl, .inl ⟨by omega, tup_spI (by omega) (by omega)⟩⟩
    | exact ⟨_, _, FrzV.refl _ _, rfl, rfl, fun _ => rfl, .inr ⟨by omega, rfl⟩⟩
end Go.Proofs.YtkmnglgjbmipgaaDoor
