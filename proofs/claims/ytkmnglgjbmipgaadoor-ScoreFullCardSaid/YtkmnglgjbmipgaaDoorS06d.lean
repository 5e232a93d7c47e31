/- Laws ScoreTurn, ScoreGrows. -/
import Derived.Test.YtkmnglgjbmipgaaDoorS06c
namespace Go.Proofs.YtkmnglgjbmipgaaDoor
open Go.RowKit

theorem mem_ok {m : List Sp} (h : ∀ j, j < m.length → SpOk (atD m j)) : ∀ y ∈ m, SpOk y := fun y hy => by
  obtain ⟨j, hj⟩ := List.mem_iff_getElem?.1 hy
  have hlt := (List.getElem?_eq_some_iff.1 hj).1
  rw [atD_some hlt] at hj
  cases hj
  exact h j hlt
set_option maxRecDepth 100000 in
set_option maxHeartbeats 4000000 in
theorem scoreTurn_ok (a b : List Sp) (ca cb : Nat) (ha : a.length ≤ 9223372036854775807) (hb : b.length ≤ 9223372036854775807) (hoa : ∀ y ∈ a, SpOk y) (hob : ∀ y ∈ b, SpOk y) : FnOK Tryd.prog GG 4 [] [.z 2 (a.map spC) ca, .z 2 (b.map spC) cb] (fun r _ ext => (r = .v (.bool true)) ∧ ext = []) := by
  have hml : (a.map spC).length = a.length := List.length_map _
  have hmr : (b.map spC).length = b.length := List.length_map _
  by_cases h8 : a.length ≤ 8 ∧ b.length ≤ 8
  · have hm := meetF_len' a b
    have hmm : ((meetF a b).map spC).length = (meetF a b).length := List.length_map _
    have e1 := ovl_comm a b
    have e2 := ovl_self a b
    have e3 := ovl_self b a
    have e4 := ovl_zero a b
    have e5 := ovl_of_meet a b
    have hom : ∀ y ∈ meetF a b, SpOk y := mem_ok (meet_ok hoa hob)
    refine FnOK.pure GG_no rfl (fn_intro (C := seat) seat_ok [] GG_no (Tryd.func4) rfl rfl rfl rfl rfl ?_)
    repeat' ((try conv => whnf); first
      | (with_reducible refine OKv.go (C := seat) seat_ok ?_)
      | (with_reducible refine BB_true ?_)
      | (with_reducible refine BB_false ?_)
      | (with_reducible refine Both.mk ?_ ?_)
      | (with_reducible refine VS.mk ?_)
      | (refine PSem.go (C := seat) seat_ok ?_)
      | (refine And.intro (PlanOK.mk (by kernel_rfl) rfl (by kernel_rfl) (by kernel_rfl)) ?_)
      | (refine And.intro rfl (Exists.intro _ (And.intro (by first | assumption | rfl) ?_)))
      | (refine And.intro ⟨rfl, rfl, rfl⟩ ?_)
      | (refine call_ro [] (ovl_z a b _ _ (by omega) (by omega) hoa hob) GG_no rfl rfl rfl trivial ?_; rintro r bs' ext ⟨rfl, rfl⟩)
      | (refine call_ro [] (ovl_z b a _ _ (by omega) (by omega) hob hoa) GG_no rfl rfl rfl trivial ?_; rintro r bs' ext ⟨rfl, rfl⟩)
      | (refine call_ro [] (ovl_z a a _ _ (by omega) (by omega) hoa hoa) GG_no rfl rfl rfl trivial ?_; rintro r bs' ext ⟨rfl, rfl⟩)
      | (refine call_ro [] (ovl_z b b _ _ (by omega) (by omega) hob hob) GG_no rfl rfl rfl trivial ?_; rintro r bs' ext ⟨rfl, rfl⟩)
      | (refine call_ro [] (ovl_z (meetF a b) (meetF a b) _ _ (by omega) (by omega) hom hom) GG_no rfl rfl rfl trivial ?_; rintro r bs' ext ⟨rfl, rfl⟩)
      | (refine call_ro [] (meetF_z a b _ _ (by omega) (by omega)) GG_no rfl rfl rfl trivial ?_; rintro r bs' ext ⟨⟨c1, hc1, rfl⟩, rfl⟩)
      | (refine call_ro [] (awake_ok) GG_no rfl rfl rfl trivial ?_; rintro r bs' ext ⟨rfl, rfl⟩)
      | (refine BB.mk (fun _h => ?_) (fun _h => ?_) <;> (first | (exact absurd _h (by decide)) | (exfalso; simp only [boolSet, hml, hmr, hmm] at _h <;> omega) | (simp only [boolSet, hml, hmr, hmm] at _h) | skip))
      | (refine And.intro (by omega) ?_)
      | (refine BB.mk (fun _h => ?_) (fun _h => ?_) <;> (first | (exact absurd _h (by decide)) | (exfalso; simp only [boolSet] at _h <;> omega) | skip)))
    all_goals (try conv => whnf)
    all_goals first
      | exact ⟨_, _, FrzV.refl _ _, rfl, rfl, fun _ => rfl, rfl⟩
      | (exfalso; omega)
  · refine FnOK.pure GG_no rfl (fn_intro (C := seat) seat_ok [] GG_no (Tryd.func4) rfl rfl rfl rfl rfl ?_)
    repeat' ((try conv => whnf); first
      | (with_reducible refine OKv.go (C := seat) seat_ok ?_)
      | (with_reducible refine BB_true ?_)
      | (with_reducible refine BB_false ?_)
      | (with_reducible refine Both.mk ?_ ?_)
      | (with_reducible refine VS.mk ?_)
      | (refine PSem.go (C := seat) seat_ok ?_)
      | (refine And.intro (PlanOK.mk (by kernel_rfl) rfl (by kernel_rfl) (by kernel_rfl)) ?_)
      | (refine And.intro rfl (Exists.intro _ (And.intro (by first | assumption | rfl) ?_)))
      | (refine And.intro ⟨rfl, rfl, rfl⟩ ?_)
      | (refine call_ro [] (awake_ok) GG_no rfl rfl rfl trivial ?_; rintro r bs' ext ⟨rfl, rfl⟩)
      | (refine BB.mk (fun _h => ?_) (fun _h => ?_) <;> (first | (exact absurd _h (by decide)) | (exfalso; simp only [boolSet, hml, hmr] at _h <;> omega) | (simp only [boolSet, hml, hmr] at _h) | skip))
      | (refine And.intro (by omega) ?_)
      | (refine BB.mk (fun _h => ?_) (fun _h => ?_) <;> (first | (exact absurd _h (by decide)) | (exfalso; simp only [boolSet] at _h <;> omega) | skip)))
    all_goals (try conv => whnf)
    all_goals first
      | exact ⟨_, _, FrzV.refl _ _, rfl, rfl, fun _ => rfl, rfl⟩
      | (exfalso; omega)
end Go.Proofs.YtkmnglgjbmipgaaDoor
