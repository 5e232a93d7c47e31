/- Package score: Key. -/
import Derived.Test.YtkmnglgjbmipgaaDoorS06b
namespace Go.Proofs.YtkmnglgjbmipgaaDoor
open Go.RowKit

theorem min_e {a b c d : Nat} (h1 : a = c) (h2 : b = d) : (bif false then (if (b : Int) > (a : Int) then (b : Int) else (a : Int)) else (if (b : Int) < (a : Int) then (b : Int) else (a : Int))) = ((min c d : Nat) : Int) := by
  rw [h1, h2, cond_false]
  split <;> omega
set_option maxRecDepth 100000 in
set_option maxHeartbeats 4000000 in
theorem key_z (l r : List Sp) (ca cb : Nat) (hl : l.length ≤ 1099511627776) (hr : r.length ≤ 1099511627776) : FnOK Tryd.prog GG 14 [] [.z 2 (l.map spC) ca, .z 2 (r.map spC) cb] (fun rr _ ext => (rr = .v (.int .u8 (keyW l r (min l.length r.length)))) ∧ ext = []) := by
  have hml : (l.map spC).length = l.length := List.length_map _
  have hmr : (r.map spC).length = r.length := List.length_map _
  refine FnOK.pure GG_no rfl (fn_intro (C := seat) seat_ok [(5, (.of [(0, .take), (1, .take), (2, .take), (3, .take), (4, .take), (5, .take), (6, .take), (7, .take), (8, .take), (9, .take), (10, .do_), (11, .take), (12, .take)]))] GG_no (Tryd.func14) rfl rfl rfl rfl rfl ?_)
  repeat' ((try conv => whnf); first
    | (with_reducible refine OKv.go (C := seat) seat_ok ?_)
    | (with_reducible refine BB_true ?_)
    | (with_reducible refine BB_false ?_)
    | (with_reducible refine Both.mk ?_ ?_)
    | (with_reducible refine VS.mk ?_)
    | (refine PSem.go (C := seat) seat_ok ?_)
    | (refine And.intro (PlanOK.mk (by kernel_rfl) rfl (by kernel_rfl) (by kernel_rfl)) ?_)
    | (refine And.intro rfl (Exists.intro _ (And.intro (by first | assumption | rfl) ?_)))
    | (refine And.intro ⟨rfl, rfl, rfl⟩ ?_)
    | (refine And.intro (by omega) ?_)
    | (refine BB.mk (fun _h => ?_) (fun _h => ?_) <;> (first | (exact absurd _h (by decide)) | (exfalso; simp only [boolSet] at _h <;> omega) | skip)))
  all_goals (try conv => whnf)
  refine loop_rule (α := Nat) (fun k => k ≤ min l.length r.length) (fun k => { slots := [(0, .z 2 (l.map spC) ca), (1, .z 2 (r.map spC) cb), (5, .v (.int .u8 (keyW l r k))), (11, .v (.int .i64 ((min l.length r.length : Nat) : Int))), (12, .v (.int .i64 (k : Int)))], nt := 29, mem := ⟨GG, [], []⟩ }) (fun k => min l.length r.length - k) 0 (Nat.zero_le _) ⟨⟨[], List.nodup_nil, GG_no, rfl, (SubOld.refl _ rfl), trivial, ⟨.inl rfl, .inl rfl, .inl rfl, .inl (num_eq (min_e hml hmr)), .inl rfl, trivial⟩⟩, rfl⟩ ?_ (fun _ => rfl)
  intro k hk
  refine vc_sound (C := seat) seat_ok (pl := [(5, (.of [(0, .take), (1, .take), (2, .take), (3, .take), (4, .take), (5, .take), (6, .take), (7, .take), (8, .take), (9, .take), (10, .do_), (11, .take), (12, .take)]))]) ?_
  by_cases hlt : k < min l.length r.length
  · have hrow := atC (l := l) (k := k) (by omega)
    have hrow2 := atC (l := r) (k := k) (by omega)
    repeat' ((try conv => whnf); first
      | (with_reducible refine OKv.go (C := seat) seat_ok ?_)
      | (with_reducible refine BB_true ?_)
      | (with_reducible refine BB_false ?_)
      | (with_reducible refine Both.mk ?_ ?_)
      | (with_reducible refine VS.mk ?_)
      | (refine PSem.go (C := seat) seat_ok ?_)
      | (refine And.intro (PlanOK.mk (by kernel_rfl) rfl (by kernel_rfl) (by kernel_rfl)) ?_)
      | (refine And.intro rfl (Exists.intro _ (And.intro (by first | assumption | rfl) ?_)))
      | (refine And.intro ⟨rfl, rfl, rfl⟩ ?_)
      | (refine call_ro [] (quar_z _ _ _ _) GG_no rfl rfl rfl trivial ?_; rintro r bs' ext ⟨rfl, rfl⟩)
      | (refine And.intro ⟨by omega, by simp only [List.length_map]; omega⟩ (Exists.intro _ (And.intro (by first | assumption | rfl) ?_)))
      | (refine BB.mk (fun _h => ?_) (fun _h => ?_) <;> (first | (exact absurd _h (by decide)) | (exfalso; simp only [boolSet, hml, hmr] at _h <;> omega) | (simp only [boolSet, hml, hmr] at _h) | skip))
      | (refine And.intro (by omega) ?_)
      | (refine BB.mk (fun _h => ?_) (fun _h => ?_) <;> (first | (exact absurd _h (by decide)) | (exfalso; simp only [boolSet] at _h <;> omega) | skip)))
    all_goals (try conv => whnf)
    exact ⟨k + 1, by omega, by omega, ⟨⟨[], by decide, GG_no, rfl, SubOld.refl _ rfl, trivial, ⟨.inl rfl, .inl rfl, .inl rfl, .inl rfl, .inl (num_eq (by rw [IntKind.wrap_i64]; omega)), trivial⟩⟩, rfl⟩⟩
  · obtain rfl : k = min l.length r.length := by omega
    repeat' ((try conv => whnf); first
      | (with_reducible refine OKv.go (C := seat) seat_ok ?_)
      | (with_reducible refine BB_true ?_)
      | (with_reducible refine BB_false ?_)
      | (with_reducible refine Both.mk ?_ ?_)
      | (with_reducible refine VS.mk ?_)
      | (refine PSem.go (C := seat) seat_ok ?_)
      | (refine And.intro (PlanOK.mk (by kernel_rfl) rfl (by kernel_rfl) (by kernel_rfl)) ?_)
      | (refine And.intro rfl (Exists.intro _ (And.intro (by first | assumption | rfl) ?_)))
      | (refine And.intro ⟨rfl, rfl, rfl⟩ ?_)
      | (refine BB.mk (fun _h => ?_) (fun _h => ?_) <;> (first | (exact absurd _h (by decide)) | (exfalso; simp only [boolSet, hml, hmr] at _h <;> omega) | (simp only [boolSet, hml, hmr] at _h) | skip))
      | (refine And.intro (by omega) ?_)
      | (refine BB.mk (fun _h => ?_) (fun _h => ?_) <;> (first | (exact absurd _h (by decide)) | (exfalso; simp only [boolSet] at _h <;> omega) | skip)))
    all_goals (try conv => whnf)
    exact ⟨_, _, FrzV.refl _ _, rfl, rfl, fun _ => rfl, rfl⟩
def twoL : List Sp := [⟨0, 9⟩, ⟨-5, 5⟩]
theorem ovl_zb (l r : List Sp) (ca cb : Nat) (hl : l.length ≤ 1099511627776) (hr : r.length ≤ 1099511627776) (hol : ∀ y ∈ l, SpOk y) (hor : ∀ y ∈ r, SpOk y) (x : Int) (hx : ovl l r = x) : FnOK Tryd.prog GG 10 [] [.z 2 (l.map spC) ca, .z 2 (r.map spC) cb] (fun rr _ ext => rr = .v (.int .u32 x) ∧ ext = []) := hx ▸ ovl_z l r ca cb hl hr hol hor
theorem key_zb (l r : List Sp) (ca cb : Nat) (hl : l.length ≤ 1099511627776) (hr : r.length ≤ 1099511627776) (x : Int) (hx : keyW l r (min l.length r.length) = x) : FnOK Tryd.prog GG 14 [] [.z 2 (l.map spC) ca, .z 2 (r.map spC) cb] (fun rr _ ext => rr = .v (.int .u8 x) ∧ ext = []) := hx ▸ key_z l r ca cb hl hr
instance (x : Sp) : Decidable (SpOk x) := by unfold SpOk; infer_instance
set_option maxRecDepth 100000 in
set_option maxHeartbeats 4000000 in
theorem two_z : FnOK Tryd.prog GG 24 [] [] (fun r _ ext => (r = .z 2 (twoL.map spC) 2) ∧ ext = []) := by
  refine FnOK.pure GG_no rfl (fn_intro (C := seat) seat_ok [] GG_no (Tryd.func24) rfl rfl rfl rfl rfl ?_)
  repeat' ((try conv => whnf); first
    | (with_reducible refine OKv.go (C := seat) seat_ok ?_)
    | (with_reducible refine BB_true ?_)
    | (with_reducible refine BB_false ?_)
    | (with_reducible refine Both.mk ?_ ?_)
    | (with_reducible refine VS.mk ?_)
    | (refine PSem.go (C := seat) seat_ok ?_)
    | (refine And.intro (PlanOK.mk (by kernel_rfl) rfl (by kernel_rfl) (by kernel_rfl)) ?_)
    | (refine And.intro rfl (Exists.intro _ (And.intro (by first | assumption | rfl) ?_)))
    | (refine And.intro ⟨rfl, rfl, rfl⟩ ?_)
    | (refine And.intro (by omega) ?_)
    | (refine BB.mk (fun _h => ?_) (fun _h => ?_) <;> (first | (exact absurd _h (by decide)) | (exfalso; simp only [boolSet] at _h <;> omega) | skip)))
  all_goals (try conv => whnf)
  exact ⟨_, _, frz_row rfl rfl, rfl, rfl, fun _ => rfl, rfl⟩
set_option maxRecDepth 100000 in
set_option maxHeartbeats 4000000 in
theorem awake_ok : FnOK Tryd.prog GG 9 [] [] (fun r _ ext => (r = .v (.bool true)) ∧ ext = []) := by
  refine FnOK.pure GG_no rfl (fn_intro (C := seat) seat_ok [] GG_no (Tryd.func9) rfl rfl rfl rfl rfl ?_)
  repeat' ((try conv => whnf); first
    | (with_reducible refine OKv.go (C := seat) seat_ok ?_)
    | (with_reducible refine BB_true ?_)
    | (with_reducible refine BB_false ?_)
    | (with_reducible refine Both.mk ?_ ?_)
    | (with_reducible refine VS.mk ?_)
    | (refine PSem.go (C := seat) seat_ok ?_)
    | (refine And.intro (PlanOK.mk (by kernel_rfl) rfl (by kernel_rfl) (by kernel_rfl)) ?_)
    | (refine And.intro rfl (Exists.intro _ (And.intro (by first | assumption | rfl) ?_)))
    | (refine And.intro ⟨rfl, rfl, rfl⟩ ?_)
    | (refine call_ro [] (two_z) GG_no rfl rfl rfl trivial ?_; rintro r bs' ext ⟨rfl, rfl⟩)
    | ((try (first | refine call_frz 0 rfl (frz_nil _ 2) ?_ | refine call_frz 0 rfl (frz_row rfl (by first | rfl | exact (List.length_map _).symm)) ?_ | refine call_frz 0 rfl (frz_ro rfl (by first | rfl | exact (List.length_map _).symm)) ?_)); (try (first | refine call_frz 1 rfl (frz_nil _ 2) ?_ | refine call_frz 1 rfl (frz_row rfl (by first | rfl | exact (List.length_map _).symm)) ?_ | refine call_frz 1 rfl (frz_ro rfl (by first | rfl | exact (List.length_map _).symm)) ?_)); refine call_ro [] (ovl_zb [⟨0, 9⟩, ⟨0, 4⟩] [⟨5, 20⟩, ⟨0, 0⟩] _ _ (by decide) (by decide) (by decide) (by decide) 5 (by decide)) GG_no rfl rfl rfl trivial ?_; rintro r bs' ext ⟨rfl, rfl⟩)
    | ((try (first | refine call_frz 0 rfl (frz_nil _ 2) ?_ | refine call_frz 0 rfl (frz_row rfl (by first | rfl | exact (List.length_map _).symm)) ?_ | refine call_frz 0 rfl (frz_ro rfl (by first | rfl | exact (List.length_map _).symm)) ?_)); (try (first | refine call_frz 1 rfl (frz_nil _ 2) ?_ | refine call_frz 1 rfl (frz_row rfl (by first | rfl | exact (List.length_map _).symm)) ?_ | refine call_frz 1 rfl (frz_ro rfl (by first | rfl | exact (List.length_map _).symm)) ?_)); refine call_ro [] (key_zb twoL [⟨3, 9⟩, ⟨-5, 0⟩] 2 2 (by decide) (by decide) 8 (by decide)) GG_no rfl rfl rfl trivial ?_; rintro r bs' ext ⟨rfl, rfl⟩)
    | ((try (first | refine call_frz 0 rfl (frz_nil _ 2) ?_ | refine call_frz 0 rfl (frz_row rfl (by first | rfl | exact (List.length_map _).symm)) ?_ | refine call_frz 0 rfl (frz_ro rfl (by first | rfl | exact (List.length_map _).symm)) ?_)); (try (first | refine call_frz 1 rfl (frz_nil _ 2) ?_ | refine call_frz 1 rfl (frz_row rfl (by first | rfl | exact (List.length_map _).symm)) ?_ | refine call_frz 1 rfl (frz_ro rfl (by first | rfl | exact (List.length_map _).symm)) ?_)); refine call_ro [] (key_zb twoL [] 2 0 (by decide) (by decide) 0 (by decide)) GG_no rfl rfl rfl trivial ?_; rintro r bs' ext ⟨rfl, rfl⟩)
    | ((try (first | refine call_frz 0 rfl (frz_nil _ 2) ?_ | refine call_frz 0 rfl (frz_row rfl (by first | rfl | exact (List.length_map _).symm)) ?_ | refine call_frz 0 rfl (frz_ro rfl (by first | rfl | exact (List.length_map _).symm)) ?_)); (try (first | refine call_frz 1 rfl (frz_nil _ 2) ?_ | refine call_frz 1 rfl (frz_row rfl (by first | rfl | exact (List.length_map _).symm)) ?_ | refine call_frz 1 rfl (frz_ro rfl (by first | rfl | exact (List.length_map _).symm)) ?_)); refine call_ro [] (ovl_zb [⟨0, 9⟩, ⟨0, 4⟩] [] _ 0 (by decide) (by decide) (by decide) (by decide) 0 (by decide)) GG_no rfl rfl rfl trivial ?_; rintro r bs' ext ⟨rfl, rfl⟩)
    | (refine BB.mk (fun _h => ?_) (fun _h => ?_) <;> (first | (exact absurd _h (by decide)) | (exfalso; simp only [boolSet] at _h <;> omega) | (simp only [boolSet] at _h) | skip))
    | (refine And.intro (by omega) ?_)
    | (refine BB.mk (fun _h => ?_) (fun _h => ?_) <;> (first | (exact absurd _h (by decide)) | (exfalso; simp only [boolSet] at _h <;> omega) | skip)))
  all_goals (try conv => whnf)
  all_goals exact ⟨_, _, FrzV.refl _ _, rfl, rfl, fun _ => rfl, rfl⟩
end Go.Proofs.YtkmnglgjbmipgaaDoor
