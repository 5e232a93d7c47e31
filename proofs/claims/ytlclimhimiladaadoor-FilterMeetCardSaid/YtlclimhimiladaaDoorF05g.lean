/- Law FilterMeet. -/
import Derived.Test.YtlclimhimiladaaDoorF05f
namespace Go.Proofs.YtlclimhimiladaaDoor
open Go.RowKit

theorem match_m (a b : List Sp) (v : List Int) (ca cb : Nat) (hl : (meetF a b).length ≤ 1099511627776) (hr : v.length ≤ 1099511627776) (x y : Bool) (hA : matchB a v = x) (hB : matchB b v = y) : FnOK Tryd.prog GG 14 [] [.z 2 ((meetF a b).map spC) ca, .z 1 (v.map nuC) cb] (fun rr _ ext => rr = .v (.bool (x && y)) ∧ ext = []) :=
  match_zb (meetF a b) v ca cb hl hr _ (by rw [match_meet, hA, hB])
set_option maxRecDepth 100000 in
set_option maxHeartbeats 4000000 in
theorem filterMeet_ok (a b : List Sp) (v : List Int) (ca cb cv : Nat) (ha : a.length ≤ 9223372036854775807) (hb : b.length ≤ 9223372036854775807) (hv : v.length ≤ 9223372036854775807) : FnOK Tryd.prog GG 5 [] [.z 2 (a.map spC) ca, .z 2 (b.map spC) cb, .z 1 (v.map nuC) cv] (fun r _ ext => (r = .v (.bool true)) ∧ ext = []) := by
  cases hfew : fewB a b v with
  | false =>
    refine FnOK.pure GG_no rfl (fn_intro (C := seat) seat_ok [] GG_no (Tryd.func5) rfl rfl rfl rfl rfl ?_)
    repeat' ((try conv => whnf); first
      | (with_reducible refine OKv.go (C := seat) seat_ok ?_)
      | (with_reducible refine BB_true ?_)
      | (with_reducible refine BB_false ?_)
      | (with_reducible refine Both.mk ?_ ?_)
      | (with_reducible refine VS.mk ?_)
      | (refine PSem.go (C := seat) seat_ok ?_)
      | (refine And.intro (PlanOK.mk (by kernel_rfl) rfl (by kernel_rfl) (by kernel_rfl)) ?_)
      | (refine And.intro rfl (Exists.intro _ (And.intro (by first | assumption | rfl) ?_)))
      | (refine And.intro ⟨rfl, rfl, rfl⟩ ?_)
      | (refine call_ro [] (few_z a b v _ _ _ false hfew) GG_no rfl rfl rfl trivial ?_; rintro r bs' ext ⟨rfl, rfl⟩)
      | (refine call_ro [] (awake_ok) GG_no rfl rfl rfl trivial ?_; rintro r bs' ext ⟨rfl, rfl⟩)
      | (refine And.intro (by omega) ?_)
      | (refine BB.mk (fun _h => ?_) (fun _h => ?_) <;> (first | (exact absurd _h (by decide)) | (exfalso; simp only [boolSet] at _h <;> omega) | skip)))
    all_goals (try conv => whnf)
    all_goals exact ⟨_, _, FrzV.refl _ _, rfl, rfl, fun _ => rfl, rfl⟩
  | true =>
    have h8 := of_decide_eq_true hfew
    have hm := meetF_len a b
    have hm' := meetF_len b a
    cases hA : matchB a v <;> cases hB : matchB b v
    all_goals
      refine FnOK.pure GG_no rfl (fn_intro (C := seat) seat_ok [] GG_no (Tryd.func5) rfl rfl rfl rfl rfl ?_)
      repeat' ((try conv => whnf); first
        | (with_reducible refine OKv.go (C := seat) seat_ok ?_)
        | (with_reducible refine BB_true ?_)
        | (with_reducible refine BB_false ?_)
        | (with_reducible refine Both.mk ?_ ?_)
        | (with_reducible refine VS.mk ?_)
        | (refine PSem.go (C := seat) seat_ok ?_)
        | (refine And.intro (PlanOK.mk (by kernel_rfl) rfl (by kernel_rfl) (by kernel_rfl)) ?_)
        | (refine And.intro rfl (Exists.intro _ (And.intro (by first | assumption | rfl) ?_)))
        | (refine And.intro ⟨rfl, rfl, rfl⟩ ?_)
        | (refine call_ro [] (few_z a b v _ _ _ true hfew) GG_no rfl rfl rfl trivial ?_; rintro r bs' ext ⟨rfl, rfl⟩)
        | (refine call_ro [] (awake_ok) GG_no rfl rfl rfl trivial ?_; rintro r bs' ext ⟨rfl, rfl⟩)
        | (refine call_ro [] (meetF_z a b _ _ (by omega) (by omega)) GG_no rfl rfl rfl trivial ?_; rintro r bs' ext ⟨⟨c1, hc1, rfl⟩, rfl⟩)
        | (refine call_ro [] (meetF_z b a _ _ (by omega) (by omega)) GG_no rfl rfl rfl trivial ?_; rintro r bs' ext ⟨⟨c2, hc2, rfl⟩, rfl⟩)
        | (refine call_ro [] (match_m a b v _ _ (by omega) (by omega) _ _ hA hB) GG_no rfl rfl rfl trivial ?_; rintro r bs' ext ⟨rfl, rfl⟩)
        | (refine call_ro [] (match_zb a v _ _ (by omega) (by omega) _ hA) GG_no rfl rfl rfl trivial ?_; rintro r bs' ext ⟨rfl, rfl⟩)
        | (refine call_ro [] (match_zb b v _ _ (by omega) (by omega) _ hB) GG_no rfl rfl rfl trivial ?_; rintro r bs' ext ⟨rfl, rfl⟩)
        | (refine call_ro [] (same_z (meetF a b) (meetF b a) _ _ (by omega) true (decide_eq_true (meet_comm a b))) GG_no rfl rfl rfl trivial ?_; rintro r bs' ext ⟨rfl, rfl⟩)
        | (refine call_ro [] (covers_zb a (meetF a b) _ _ (by omega) (by omega) true (covers_meet a b)) GG_no rfl rfl rfl trivial ?_; rintro r bs' ext ⟨rfl, rfl⟩)
        | (refine call_ro [] (covers_zb b (meetF a b) _ _ (by omega) (by omega) true (by rw [meet_comm]; exact covers_meet b a)) GG_no rfl rfl rfl trivial ?_; rintro r bs' ext ⟨rfl, rfl⟩)
        | (refine BB.mk (fun _h => ?_) (fun _h => ?_) <;> (first | (exact absurd _h (by decide)) | (exfalso; simp only [boolSet] at _h <;> omega) | (simp only [boolSet] at _h) | skip))
        | (refine And.intro (by omega) ?_)
        | (refine BB.mk (fun _h => ?_) (fun _h => ?_) <;> (first | (exact absurd _h (by decide)) | (exfalso; simp only [boolSet] at _h <;> omega) | skip)))
      all_goals (try conv => whnf)
      all_goals exact ⟨_, _, FrzV.refl _ _, rfl, rfl, fun _ => rfl, rfl⟩
end Go.Proofs.YtlclimhimiladaaDoor
