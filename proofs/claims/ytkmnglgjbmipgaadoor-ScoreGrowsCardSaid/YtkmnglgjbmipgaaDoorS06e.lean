/- Law ScoreGrows. -/
import Derived.Test.YtkmnglgjbmipgaaDoorS06d
namespace Go.Proofs.YtkmnglgjbmipgaaDoor
open Go.RowKit

theorem covers_zc (l r : List Sp) (ca cb : Nat) (hl : l.length ≤ 1099511627776) (hr : r.length ≤ 1099511627776) (b : Bool) (hb : coversB l r = b) : FnOK Tryd.prog GG 17 [] [.z 2 (l.map spC) ca, .z 2 (r.map spC) cb] (fun rr _ ext => rr = .v (.bool b) ∧ ext = []) := hb ▸ covers_z l r ca cb hl hr
set_option maxRecDepth 100000 in
set_option maxHeartbeats 4000000 in
theorem scoreGrows_ok (a b c : List Sp) (ca cb cc : Nat) (ha : a.length ≤ 9223372036854775807) (hb : b.length ≤ 9223372036854775807) (hc : c.length ≤ 9223372036854775807) (hoa : ∀ y ∈ a, SpOk y) (hob : ∀ y ∈ b, SpOk y) (hoc : ∀ y ∈ c, SpOk y) : FnOK Tryd.prog GG 5 [] [.z 2 (a.map spC) ca, .z 2 (b.map spC) cb, .z 2 (c.map spC) cc] (fun r _ ext => (r = .v (.bool true)) ∧ ext = []) := by
  have hml : (a.map spC).length = a.length := List.length_map _
  have hmr : (b.map spC).length = b.length := List.length_map _
  have hmm : (c.map spC).length = c.length := List.length_map _
  by_cases h8 : a.length ≤ 8 ∧ b.length ≤ 8 ∧ c.length ≤ 8
  · have hm := meetF_len' a c
    have e1 := ovl_part a b c
    have hom : ∀ y ∈ meetF a c, SpOk y := mem_ok (meet_ok hoa hoc)
    cases hcv : coversB b a
    all_goals
      first
        | have e2 := ovl_covered hcv
        | skip
      refine FnOK.pure GG_no rfl (fn_intro (C := seat) seat_ok [] GG_no (Tryd.func5) rfl rfl rfl rfl rfl ?_)
      repeat' ((try conv => whnf); first
        | (with_reducible refine OKv.go (C := seat) seat_ok ?_)
        | (with_reducible refine BB_true ?_)
        | (with_reducible refine BB_false ?_)
        | (with_reducible refine Both.mk ?_ ?_)
        | (with_reducible refine VS.mk ?_)
        | (refine PSem.go (C := seat) seat_ok ?_)
        | (refine And.intro (PlanOK.mk (by kernel_rfl) rfl (by kernel_rfl) (by kernel_rfl)) ?_)
        | (refine And.intro rfl (Exists.intro _ (And.intro (by first | assumption | rfl) ?_)))
        | (refine And.intro ⟨rfl, rfl, rfl⟩ ?_)
        | (refine call_ro [] (ovl_z (meetF a c) b _ _ (by omega) (by omega) hom hob) GG_no rfl rfl rfl trivial ?_; rintro r bs' ext ⟨rfl, rfl⟩)
        | (refine call_ro [] (ovl_z a b _ _ (by omega) (by omega) hoa hob) GG_no rfl rfl rfl trivial ?_; rintro r bs' ext ⟨rfl, rfl⟩)
        | (refine call_ro [] (ovl_z a a _ _ (by omega) (by omega) hoa hoa) GG_no rfl rfl rfl trivial ?_; rintro r bs' ext ⟨rfl, rfl⟩)
        | (refine call_ro [] (meetF_z a c _ _ (by omega) (by omega)) GG_no rfl rfl rfl trivial ?_; rintro r bs' ext ⟨⟨c1, hc1, rfl⟩, rfl⟩)
        | (refine call_ro [] (covers_zc b a _ _ (by omega) (by omega) _ hcv) GG_no rfl rfl rfl trivial ?_; rintro r bs' ext ⟨rfl, rfl⟩)
        | (refine call_ro [] (awake_ok) GG_no rfl rfl rfl trivial ?_; rintro r bs' ext ⟨rfl, rfl⟩)
        | (refine BB.mk (fun _h => ?_) (fun _h => ?_) <;> (first | (exact absurd _h (by decide)) | (exfalso; simp only [boolSet, hml, hmr, hmm] at _h <;> omega) | (simp only [boolSet, hml, hmr, hmm] at _h) | skip))
        | (refine And.intro (by omega) ?_)
        | (refine BB.mk (fun _h => ?_) (fun _h => ?_) <;> (first | (exact absurd _h (by decide)) | (exfalso; simp only [boolSet] at _h <;> omega) | skip)))
      all_goals (try conv => whnf)
      all_goals first
        | exact ⟨_, _, FrzV.refl _ _, rfl, rfl, fun _ => rfl, rfl⟩
        | (exfalso; omega)
  · refine FnOK.pure GG_no rfl (fn_intro (C := seat) seat_ok [] GG_no (Tryd.func5) rfl rfl rfl rfl rfl ?_)
    repeat' ((try conv => whnf); first
      | (with_reducible refine OKv.go (C := seat) seat_ok ?_)
      | (with_reducible refine BB_true ?_)
      | (with_reducible refine BB_false ?_)
      | (with_reducible refine Both.mk ?_ ?_)
      | (with_reducible refine VS.mk ?_)
      | (refine PSem.go (C := seat) seat_ok ?_)
      | (refine And.intro (PlanOK.mk (by kernel_rfl) rfl (by kernel_rfl) (by kernel_rfl)) ?_)
      | (refine And.intro rfl (Exists.intro _ (And.intro (by first | assumption | rfl) ?_)))
      | (refine And.intro ⟨rfl, rfl, rfl⟩ ?_)
      | (refine call_ro [] (awake_ok) GG_no rfl rfl rfl trivial ?_; rintro r bs' ext ⟨rfl, rfl⟩)
      | (refine BB.mk (fun _h => ?_) (fun _h => ?_) <;> (first | (exact absurd _h (by decide)) | (exfalso; simp only [boolSet, hml, hmr, hmm] at _h <;> omega) | (simp only [boolSet, hml, hmr, hmm] at _h) | skip))
      | (refine And.intro (by omega) ?_)
      | (refine BB.mk (fun _h => ?_) (fun _h => ?_) <;> (first | (exact absurd _h (by decide)) | (exfalso; simp only [boolSet] at _h <;> omega) | skip)))
    all_goals (try conv => whnf)
    all_goals first
      | exact ⟨_, _, FrzV.refl _ _, rfl, rfl, fun _ => rfl, rfl⟩
      | (exfalso; omega)
end Go.Proofs.YtkmnglgjbmipgaaDoor
