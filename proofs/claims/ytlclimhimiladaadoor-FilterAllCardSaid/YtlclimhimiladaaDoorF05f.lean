/- The laws of filter: helpers. -/
import Derived.Test.YtlclimhimiladaaDoorF05e
namespace Go.Proofs.YtlclimhimiladaaDoor
open Go.RowKit

theorem match_zb (l : List Sp) (r : List Int) (ca cb : Nat) (hl : l.length ≤ 1099511627776) (hr : r.length ≤ 1099511627776) (b : Bool) (hb : matchB l r = b) : FnOK Tryd.prog GG 14 [] [.z 2 (l.map spC) ca, .z 1 (r.map nuC) cb] (fun rr _ ext => rr = .v (.bool b) ∧ ext = []) := hb ▸ match_z l r ca cb hl hr
theorem covers_zb (l r : List Sp) (ca cb : Nat) (hl : l.length ≤ 1099511627776) (hr : r.length ≤ 1099511627776) (b : Bool) (hb : coversB l r = b) : FnOK Tryd.prog GG 16 [] [.z 2 (l.map spC) ca, .z 2 (r.map spC) cb] (fun rr _ ext => rr = .v (.bool b) ∧ ext = []) := hb ▸ covers_z l r ca cb hl hr
theorem right_zb (l r : List Sp) (ca cb : Nat) (hl : l.length ≤ 1099511627776) (hr : r.length ≤ 1099511627776) (hk : ∀ k, k < r.length → SpOk (atD r k)) (b : Bool) (hb : rightB l r = b) : FnOK Tryd.prog GG 23 [] [.z 2 (l.map spC) ca, .z 2 (r.map spC) cb] (fun rr _ ext => rr = .v (.bool b) ∧ ext = []) := hb ▸ right_z l r ca cb hl hr hk
theorem meetF_zo (l r : List Sp) (ca cb : Nat) (hl : l.length ≤ 1099511627776) (hr : r.length ≤ 1099511627776) (o : List Sp) (ho : meetF l r = o) : FnOK Tryd.prog GG 12 [] [.z 2 (l.map spC) ca, .z 2 (r.map spC) cb] (fun rr _ ext => (∃ c', o.length ≤ c' ∧ rr = .z 2 (o.map spC) c') ∧ ext = []) := ho ▸ meetF_z l r ca cb hl hr
theorem norm_zo (l r : List Sp) (ca cb : Nat) (hl : l.length ≤ 1099511627776) (hr : r.length ≤ 1099511627776) (o : List Sp) (e : Int) (ho : meetF l r = o) (he : normE l r = e) : FnOK Tryd.prog GG 21 [] [.z 2 (l.map spC) ca, .z 2 (r.map spC) cb] (fun rr _ ext => (∃ c', o.length ≤ c' ∧ rr = .tup [.z 2 (o.map spC) c', .v (.int .i64 e)]) ∧ ext = []) := ho ▸ he ▸ norm_z l r ca cb hl hr
theorem meetF_len (a b : List Sp) : (meetF a b).length ≤ a.length := by
  rcases meetF_cases a b with ⟨_, _, h⟩ | ⟨h, _⟩
  · rw [h, mtL_len]; exact Nat.le_refl _
  · rw [h]; exact Nat.zero_le _
def fewB (l r : List Sp) (v : List Int) : Bool := decide (l.length ≤ 8 ∧ r.length ≤ 8 ∧ v.length ≤ 8)
def twoL : List Sp := [⟨0, 9⟩, ⟨-5, 5⟩]
set_option maxRecDepth 100000 in
set_option maxHeartbeats 4000000 in
theorem two_z : FnOK Tryd.prog GG 28 [] [] (fun r _ ext => (r = .z 2 (twoL.map spC) 2) ∧ ext = []) := by
  refine FnOK.pure GG_no rfl (fn_intro (C := seat) seat_ok [] GG_no (Tryd.func28) rfl rfl rfl rfl rfl ?_)
  repeat' ((try conv => whnf); first
    | (with_reducible refine OKv.go (C := seat) seat_ok ?_)
    | (with_reducible refine BB_true ?_)
    | (with_reducible refine BB_false ?_)
    | (with_reducible refine Both.mk ?_ ?_)
    | (with_reducible refine VS.mk ?_)
    | (refine PSem.go (C := seat) seat_ok ?_)
    | (refine And.intro (PlanOK.mk (by kernel_rfl) rfl (by kernel_rfl) (by kernel_rfl)) ?_)
    | (refine And.intro rfl (Exists.intro _ (And.intro (by first | assumption | rfl) ?_)))
    | (refine And.intro ⟨rfl, rfl, rfl⟩ ?_)
    | (refine And.intro (by omega) ?_)
    | (refine BB.mk (fun _h => ?_) (fun _h => ?_) <;> (first | (exact absurd _h (by decide)) | (exfalso; simp only [boolSet] at _h <;> omega) | skip)))
  all_goals (try conv => whnf)
  exact ⟨_, _, frz_row rfl rfl, rfl, rfl, fun _ => rfl, rfl⟩
set_option maxRecDepth 100000 in
set_option maxHeartbeats 4000000 in
theorem few_z (l r : List Sp) (v : List Int) (ca cb cv : Nat) (b : Bool) (hb : fewB l r v = b) : FnOK Tryd.prog GG 9 [] [.z 2 (l.map spC) ca, .z 2 (r.map spC) cb, .z 1 (v.map nuC) cv] (fun rr _ ext => (rr = .v (.bool b)) ∧ ext = []) := by
  refine FnOK.pure GG_no rfl (fn_intro (C := seat) seat_ok [] GG_no (Tryd.func9) rfl rfl rfl rfl rfl ?_)
  repeat' ((try conv => whnf); first
    | (with_reducible refine OKv.go (C := seat) seat_ok ?_)
    | (with_reducible refine BB_true ?_)
    | (with_reducible refine BB_false ?_)
    | (with_reducible refine Both.mk ?_ ?_)
    | (with_reducible refine VS.mk ?_)
    | (refine PSem.go (C := seat) seat_ok ?_)
    | (refine And.intro (PlanOK.mk (by kernel_rfl) rfl (by kernel_rfl) (by kernel_rfl)) ?_)
    | (refine And.intro rfl (Exists.intro _ (And.intro (by first | assumption | rfl) ?_)))
    | (refine And.intro ⟨rfl, rfl, rfl⟩ ?_)
    | (refine BB.mk (fun _h => ?_) (fun _h => ?_) <;> (first | (exact absurd _h (by decide)) | (exfalso; simp only [boolSet] at _h <;> omega) | (simp only [boolSet] at _h) | skip))
    | (refine And.intro (by omega) ?_)
    | (refine BB.mk (fun _h => ?_) (fun _h => ?_) <;> (first | (exact absurd _h (by decide)) | (exfalso; simp only [boolSet] at _h <;> omega) | skip)))
  all_goals (try conv => whnf)
  all_goals exact ⟨_, _, FrzV.refl _ _, rfl, rfl, fun _ => rfl, bool_eq (by rw [← hb]; unfold fewB; apply bool_iff; simp only [decide_eq_true_eq, Bool.false_eq_true, false_iff, true_iff, List.length_map] at *; omega)⟩
set_option maxRecDepth 100000 in
set_option maxHeartbeats 4000000 in
theorem awake_ok : FnOK Tryd.prog GG 10 [] [] (fun r _ ext => (r = .v (.bool true)) ∧ ext = []) := by
  refine FnOK.pure GG_no rfl (fn_intro (C := seat) seat_ok [] GG_no (Tryd.func10) rfl rfl rfl rfl rfl ?_)
  repeat' ((try conv => whnf); first
    | (with_reducible refine OKv.go (C := seat) seat_ok ?_)
    | (with_reducible refine BB_true ?_)
    | (with_reducible refine BB_false ?_)
    | (with_reducible refine Both.mk ?_ ?_)
    | (with_reducible refine VS.mk ?_)
    | (refine PSem.go (C := seat) seat_ok ?_)
    | (refine And.intro (PlanOK.mk (by kernel_rfl) rfl (by kernel_rfl) (by kernel_rfl)) ?_)
    | (refine And.intro rfl (Exists.intro _ (And.intro (by first | assumption | rfl) ?_)))
    | (refine And.intro ⟨rfl, rfl, rfl⟩ ?_)
    | (refine call_ro [] (two_z) GG_no rfl rfl rfl trivial ?_; rintro r bs' ext ⟨rfl, rfl⟩)
    | ((try (first | refine call_frz 0 rfl (frz_nil _ 2) ?_ | refine call_frz 0 rfl (frz_row rfl rfl) ?_ | refine call_frz 0 rfl (frz_ro rfl rfl) ?_)); (try (first | refine call_frz 1 rfl (frz_nil _ 2) ?_ | refine call_frz 1 rfl (frz_row rfl rfl) ?_ | refine call_frz 1 rfl (frz_ro rfl rfl) ?_)); refine call_ro [] (norm_zo twoL [⟨3, 20⟩, ⟨-9, 0⟩] 2 2 (by decide) (by decide) [⟨3, 9⟩, ⟨-5, 0⟩] 0 (by decide) (by decide)) GG_no rfl rfl rfl trivial ?_; rintro r bs' ext ⟨⟨c1, hc1, rfl⟩, rfl⟩)
    | ((try (first | refine call_frz 0 rfl (frz_nil _ 2) ?_ | refine call_frz 0 rfl (frz_row rfl rfl) ?_ | refine call_frz 0 rfl (frz_ro rfl rfl) ?_)); (try (first | refine call_frz 1 rfl (frz_nil _ 2) ?_ | refine call_frz 1 rfl (frz_row rfl rfl) ?_ | refine call_frz 1 rfl (frz_ro rfl rfl) ?_)); refine call_ro [] (norm_zo twoL [⟨10, 20⟩, ⟨0, 0⟩] 2 2 (by decide) (by decide) [] 0 (by decide) (by decide)) GG_no rfl rfl rfl trivial ?_; rintro r bs' ext ⟨⟨c2, hc2, rfl⟩, rfl⟩)
    | ((try (first | refine call_frz 0 rfl (frz_nil _ 2) ?_ | refine call_frz 0 rfl (frz_row rfl rfl) ?_ | refine call_frz 0 rfl (frz_ro rfl rfl) ?_)); (try (first | refine call_frz 1 rfl (frz_nil _ 2) ?_ | refine call_frz 1 rfl (frz_row rfl rfl) ?_ | refine call_frz 1 rfl (frz_ro rfl rfl) ?_)); refine call_ro [] (norm_zo twoL [⟨1, 2⟩] 2 1 (by decide) (by decide) [] 50 (by decide) (by decide)) GG_no rfl rfl rfl trivial ?_; rintro r bs' ext ⟨⟨c3, hc3, rfl⟩, rfl⟩)
    | ((try (first | refine call_frz 0 rfl (frz_nil _ 2) ?_ | refine call_frz 0 rfl (frz_row rfl rfl) ?_ | refine call_frz 0 rfl (frz_ro rfl rfl) ?_)); (try (first | refine call_frz 1 rfl (frz_nil _ 2) ?_ | refine call_frz 1 rfl (frz_row rfl rfl) ?_ | refine call_frz 1 rfl (frz_ro rfl rfl) ?_)); refine call_ro [] (meetF_zo [⟨3, 9⟩, ⟨-5, 0⟩] [⟨0, 3⟩, ⟨0, 9⟩] 2 2 (by decide) (by decide) [⟨3, 3⟩, ⟨0, 0⟩] (by decide)) GG_no rfl rfl rfl trivial ?_; rintro r bs' ext ⟨⟨c4, hc4, rfl⟩, rfl⟩)
    | ((try (first | refine call_frz 0 rfl (frz_nil _ 2) ?_ | refine call_frz 0 rfl (frz_row rfl rfl) ?_ | refine call_frz 0 rfl (frz_ro rfl rfl) ?_)); (try (first | refine call_frz 1 rfl (frz_nil _ 2) ?_ | refine call_frz 1 rfl (frz_row rfl rfl) ?_ | refine call_frz 1 rfl (frz_ro rfl rfl) ?_)); refine call_ro [] (same_z [⟨3, 9⟩, ⟨-5, 0⟩] [⟨3, 9⟩, ⟨-5, 0⟩] _ _ (by decide) true (by decide)) GG_no rfl rfl rfl trivial ?_; rintro r bs' ext ⟨rfl, rfl⟩)
    | ((try (first | refine call_frz 0 rfl (frz_nil _ 2) ?_ | refine call_frz 0 rfl (frz_row rfl rfl) ?_ | refine call_frz 0 rfl (frz_ro rfl rfl) ?_)); (try (first | refine call_frz 1 rfl (frz_nil _ 2) ?_ | refine call_frz 1 rfl (frz_row rfl rfl) ?_ | refine call_frz 1 rfl (frz_ro rfl rfl) ?_)); refine call_ro [] (same_z [⟨3, 3⟩, ⟨0, 0⟩] [⟨3, 3⟩, ⟨0, 0⟩] _ _ (by decide) true (by decide)) GG_no rfl rfl rfl trivial ?_; rintro r bs' ext ⟨rfl, rfl⟩)
    | ((try (first | refine call_frz 0 rfl (frz_nil _ 2) ?_ | refine call_frz 0 rfl (frz_row rfl rfl) ?_ | refine call_frz 0 rfl (frz_ro rfl rfl) ?_)); (try (first | refine call_frz 1 rfl (frz_nil _ 1) ?_ | refine call_frz 1 rfl (frz_row rfl rfl) ?_ | refine call_frz 1 rfl (frz_ro rfl rfl) ?_)); refine call_ro [] (match_zb [⟨3, 9⟩, ⟨-5, 0⟩] [4, 0] _ _ (by decide) (by decide) true (by decide)) GG_no rfl rfl rfl trivial ?_; rintro r bs' ext ⟨rfl, rfl⟩)
    | ((try (first | refine call_frz 0 rfl (frz_nil _ 2) ?_ | refine call_frz 0 rfl (frz_row rfl rfl) ?_ | refine call_frz 0 rfl (frz_ro rfl rfl) ?_)); (try (first | refine call_frz 1 rfl (frz_nil _ 1) ?_ | refine call_frz 1 rfl (frz_row rfl rfl) ?_ | refine call_frz 1 rfl (frz_ro rfl rfl) ?_)); refine call_ro [] (match_zb [⟨3, 9⟩, ⟨-5, 0⟩] [4, 1] _ _ (by decide) (by decide) false (by decide)) GG_no rfl rfl rfl trivial ?_; rintro r bs' ext ⟨rfl, rfl⟩)
    | ((try (first | refine call_frz 0 rfl (frz_nil _ 2) ?_ | refine call_frz 0 rfl (frz_row rfl rfl) ?_ | refine call_frz 0 rfl (frz_ro rfl rfl) ?_)); (try (first | refine call_frz 1 rfl (frz_nil _ 1) ?_ | refine call_frz 1 rfl (frz_row rfl rfl) ?_ | refine call_frz 1 rfl (frz_ro rfl rfl) ?_)); refine call_ro [] (match_zb [⟨3, 9⟩, ⟨-5, 0⟩] [4] _ _ (by decide) (by decide) false (by decide)) GG_no rfl rfl rfl trivial ?_; rintro r bs' ext ⟨rfl, rfl⟩)
    | ((try (first | refine call_frz 0 rfl (frz_nil _ 2) ?_ | refine call_frz 0 rfl (frz_row rfl rfl) ?_ | refine call_frz 0 rfl (frz_ro rfl rfl) ?_)); (try (first | refine call_frz 1 rfl (frz_nil _ 1) ?_ | refine call_frz 1 rfl (frz_row rfl rfl) ?_ | refine call_frz 1 rfl (frz_ro rfl rfl) ?_)); refine call_ro [] (match_zb [] [] _ _ (by decide) (by decide) false (by decide)) GG_no rfl rfl rfl trivial ?_; rintro r bs' ext ⟨rfl, rfl⟩)
    | ((try (first | refine call_frz 0 rfl (frz_nil _ 2) ?_ | refine call_frz 0 rfl (frz_row rfl rfl) ?_ | refine call_frz 0 rfl (frz_ro rfl rfl) ?_)); (try (first | refine call_frz 1 rfl (frz_nil _ 2) ?_ | refine call_frz 1 rfl (frz_row rfl rfl) ?_ | refine call_frz 1 rfl (frz_ro rfl rfl) ?_)); refine call_ro [] (right_zb twoL [⟨3, 9⟩, ⟨-5, 0⟩] 2 2 (by decide) (by decide) (fun k hk => by match k, hk with | 0, _ => exact ⟨⟨by decide, by decide⟩, ⟨by decide, by decide⟩⟩ | 1, _ => exact ⟨⟨by decide, by decide⟩, ⟨by decide, by decide⟩⟩) true (by decide)) GG_no rfl rfl rfl trivial ?_; rintro r bs' ext ⟨rfl, rfl⟩)
    | (refine BB.mk (fun _h => ?_) (fun _h => ?_) <;> (first | (exact absurd _h (by decide)) | (exfalso; simp only [boolSet] at _h <;> omega) | (simp only [boolSet] at _h) | skip))
    | (refine And.intro (by omega) ?_)
    | (refine BB.mk (fun _h => ?_) (fun _h => ?_) <;> (first | (exact absurd _h (by decide)) | (exfalso; simp only [boolSet] at _h <;> omega) | skip)))
  all_goals (try conv => whnf)
  all_goals first
    | exact ⟨_, _, FrzV.refl _ _, rfl, rfl, fun _ => rfl, rfl⟩
    | trace_state
end Go.Proofs.YtlclimhimiladaaDoor
