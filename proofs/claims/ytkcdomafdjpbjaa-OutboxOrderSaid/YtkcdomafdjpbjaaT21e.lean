/- The same messages are the same. -/
import Derived.Test.YtkcdomafdjpbjaaT21d
namespace Go.Proofs.Ytkcdomafdjpbjaa
open Go.RowKit

set_option maxRecDepth 100000 in
set_option maxHeartbeats 4000000 in
theorem marks_yes (l : List Tr) (c1 c2 : Nat) (hl : l.length ≤ 1000000) : FnOK Try.prog GG 23 [] [.z 3 (l.map mkC) c1, .z 3 (l.map mkC) c2] (fun r _ ext => (r = .v (.bool true)) ∧ ext = []) := by
  have hlm : (l.map mkC).length = l.length := List.length_map _
  refine FnOK.pure GG_no rfl (fn_intro (C := seat) seat_ok [(6, (.of [(0, .take), (1, .take), (2, .take), (3, .take), (4, .take), (5, .take), (6, .take), (7, .take), (8, .take)]))] GG_no (Try.func23) rfl rfl rfl rfl rfl ?_)
  repeat' ((try conv => whnf); first
    | (with_reducible refine OKv.go (C := seat) seat_ok ?_)
    | (with_reducible refine BB_true ?_)
    | (with_reducible refine BB_false ?_)
    | (with_reducible refine Both.mk ?_ ?_)
    | (with_reducible refine VS.mk ?_)
    | (refine PSem.go (C := seat) seat_ok ?_)
    | (refine And.intro (PlanOK.mk (by kernel_rfl) rfl (by kernel_rfl) (by kernel_rfl)) ?_)
    | (refine And.intro rfl (Exists.intro _ (And.intro (by first | assumption | rfl) ?_)))
    | (refine And.intro ⟨rfl, rfl, rfl⟩ ?_)
    | (refine BB.mk (fun _h => ?_) (fun _h => ?_) <;> (first | (exact absurd _h (by decide)) | (exfalso; simp only [boolSet, hlm] at _h <;> omega) | (exfalso; simp at _h; done) | (simp only [boolSet, hlm] at _h) | skip))
    | (refine And.intro (by omega) ?_)
    | (refine BB.mk (fun _h => ?_) (fun _h => ?_) <;> (first | (exact absurd _h (by decide)) | (exfalso; simp only [boolSet] at _h <;> omega) | skip)))
  all_goals (try conv => whnf)
  refine loop_rule (α := Nat) (fun k => k ≤ l.length) (fun k => { slots := [(0, .z 3 (l.map mkC) c1), (1, .z 3 (l.map mkC) c2), (12, .v (.int .i64 (l.map mkC).length)), (13, .v (.int .i64 (k : Int)))], nt := 26, mem := ⟨GG, [], []⟩ }) (fun k => l.length - k) 0 (Nat.zero_le _) ⟨⟨[], List.nodup_nil, GG_no, rfl, (SubOld.refl _ rfl), trivial, ⟨.inl rfl, .inl rfl, .inl rfl, .inl rfl, trivial⟩⟩, rfl⟩ ?_ (fun _ => rfl)
  intro k hk
  refine vc_sound (C := seat) seat_ok (pl := [(6, (.of [(0, .take), (1, .take), (2, .take), (3, .take), (4, .take), (5, .take), (6, .take), (7, .take), (8, .take)]))]) ?_
  by_cases hlt : k < l.length
  · obtain ⟨y, hy⟩ : ∃ y, l[k]? = some y := ⟨_, List.getElem?_eq_getElem hlt⟩
    have hrow := mk_z hy
    repeat' ((try conv => whnf); first
      | (with_reducible refine OKv.go (C := seat) seat_ok ?_)
      | (with_reducible refine BB_true ?_)
      | (with_reducible refine BB_false ?_)
      | (with_reducible refine Both.mk ?_ ?_)
      | (with_reducible refine VS.mk ?_)
      | (refine PSem.go (C := seat) seat_ok ?_)
      | (refine And.intro (PlanOK.mk (by kernel_rfl) rfl (by kernel_rfl) (by kernel_rfl)) ?_)
      | (refine And.intro rfl (Exists.intro _ (And.intro (by first | assumption | rfl) ?_)))
      | (refine And.intro ⟨rfl, rfl, rfl⟩ ?_)
      | (refine And.intro ⟨by omega, by simp only [List.length_map]; omega⟩ (Exists.intro _ (And.intro (by first | assumption | rfl) ?_)))
      | (refine fun (caps : Nat → Nat) hcaps => ?_; conv at hcaps => whnf)
      | (refine BB.mk (fun _h => ?_) (fun _h => ?_) <;> (first | (exact absurd _h (by decide)) | (exfalso; simp only [boolSet, hlm] at _h <;> omega) | (exfalso; simp at _h; done) | (simp only [boolSet, hlm] at _h) | skip))
      | (refine And.intro (by omega) ?_)
      | (refine BB.mk (fun _h => ?_) (fun _h => ?_) <;> (first | (exact absurd _h (by decide)) | (exfalso; simp only [boolSet] at _h <;> omega) | skip)))
    all_goals (try conv => whnf)
    all_goals first
      | exact ⟨k + 1, by omega, by omega, ⟨⟨[], by decide, GG_no, rfl, SubOld.refl _ rfl, trivial, ⟨.inl rfl, .inl rfl, .inl rfl, .inl (num_eq (by rw [IntKind.wrap_i64]; omega)), trivial⟩⟩, rfl⟩⟩
      | trace_state
  · obtain rfl : k = l.length := by omega
    repeat' ((try conv => whnf); first
      | (with_reducible refine OKv.go (C := seat) seat_ok ?_)
      | (with_reducible refine BB_true ?_)
      | (with_reducible refine BB_false ?_)
      | (with_reducible refine Both.mk ?_ ?_)
      | (with_reducible refine VS.mk ?_)
      | (refine PSem.go (C := seat) seat_ok ?_)
      | (refine And.intro (PlanOK.mk (by kernel_rfl) rfl (by kernel_rfl) (by kernel_rfl)) ?_)
      | (refine And.intro rfl (Exists.intro _ (And.intro (by first | assumption | rfl) ?_)))
      | (refine And.intro ⟨rfl, rfl, rfl⟩ ?_)
      | (refine BB.mk (fun _h => ?_) (fun _h => ?_) <;> (first | (exact absurd _h (by decide)) | (exfalso; simp only [boolSet, hlm] at _h <;> omega) | (exfalso; simp at _h; done) | (simp only [boolSet, hlm] at _h) | skip))
      | (refine And.intro (by omega) ?_)
      | (refine BB.mk (fun _h => ?_) (fun _h => ?_) <;> (first | (exact absurd _h (by decide)) | (exfalso; simp only [boolSet] at _h <;> omega) | skip)))
    all_goals (try conv => whnf)
    all_goals exact ⟨_, _, FrzV.refl _ _, rfl, rfl, fun _ => rfl, rfl⟩
set_option maxRecDepth 100000 in
set_option maxHeartbeats 4000000 in
theorem ids_yes (l : List Tr) (c1 c2 : Nat) (hl : l.length ≤ 1000000) : FnOK Try.prog GG 24 [] [.z 3 (l.map mkC) c1, .z 3 (l.map mkC) c2] (fun r _ ext => (r = .v (.bool true)) ∧ ext = []) := by
  have hlm : (l.map mkC).length = l.length := List.length_map _
  refine FnOK.pure GG_no rfl (fn_intro (C := seat) seat_ok [(6, (.of [(0, .take), (1, .take), (2, .take), (3, .take), (4, .take), (5, .take), (6, .take), (7, .take), (8, .take)]))] GG_no (Try.func24) rfl rfl rfl rfl rfl ?_)
  repeat' ((try conv => whnf); first
    | (with_reducible refine OKv.go (C := seat) seat_ok ?_)
    | (with_reducible refine BB_true ?_)
    | (with_reducible refine BB_false ?_)
    | (with_reducible refine Both.mk ?_ ?_)
    | (with_reducible refine VS.mk ?_)
    | (refine PSem.go (C := seat) seat_ok ?_)
    | (refine And.intro (PlanOK.mk (by kernel_rfl) rfl (by kernel_rfl) (by kernel_rfl)) ?_)
    | (refine And.intro rfl (Exists.intro _ (And.intro (by first | assumption | rfl) ?_)))
    | (refine And.intro ⟨rfl, rfl, rfl⟩ ?_)
    | (refine BB.mk (fun _h => ?_) (fun _h => ?_) <;> (first | (exact absurd _h (by decide)) | (exfalso; simp only [boolSet, hlm] at _h <;> omega) | (exfalso; simp at _h; done) | (simp only [boolSet, hlm] at _h) | skip))
    | (refine And.intro (by omega) ?_)
    | (refine BB.mk (fun _h => ?_) (fun _h => ?_) <;> (first | (exact absurd _h (by decide)) | (exfalso; simp only [boolSet] at _h <;> omega) | skip)))
  all_goals (try conv => whnf)
  refine loop_rule (α := Nat) (fun k => k ≤ l.length) (fun k => { slots := [(0, .z 3 (l.map mkC) c1), (1, .z 3 (l.map mkC) c2), (12, .v (.int .i64 (l.map mkC).length)), (13, .v (.int .i64 (k : Int)))], nt := 26, mem := ⟨GG, [], []⟩ }) (fun k => l.length - k) 0 (Nat.zero_le _) ⟨⟨[], List.nodup_nil, GG_no, rfl, (SubOld.refl _ rfl), trivial, ⟨.inl rfl, .inl rfl, .inl rfl, .inl rfl, trivial⟩⟩, rfl⟩ ?_ (fun _ => rfl)
  intro k hk
  refine vc_sound (C := seat) seat_ok (pl := [(6, (.of [(0, .take), (1, .take), (2, .take), (3, .take), (4, .take), (5, .take), (6, .take), (7, .take), (8, .take)]))]) ?_
  by_cases hlt : k < l.length
  · obtain ⟨y, hy⟩ : ∃ y, l[k]? = some y := ⟨_, List.getElem?_eq_getElem hlt⟩
    have hrow := mk_z hy
    repeat' ((try conv => whnf); first
      | (with_reducible refine OKv.go (C := seat) seat_ok ?_)
      | (with_reducible refine BB_true ?_)
      | (with_reducible refine BB_false ?_)
      | (with_reducible refine Both.mk ?_ ?_)
      | (with_reducible refine VS.mk ?_)
      | (refine PSem.go (C := seat) seat_ok ?_)
      | (refine And.intro (PlanOK.mk (by kernel_rfl) rfl (by kernel_rfl) (by kernel_rfl)) ?_)
      | (refine And.intro rfl (Exists.intro _ (And.intro (by first | assumption | rfl) ?_)))
      | (refine And.intro ⟨rfl, rfl, rfl⟩ ?_)
      | (refine And.intro ⟨by omega, by simp only [List.length_map]; omega⟩ (Exists.intro _ (And.intro (by first | assumption | rfl) ?_)))
      | (refine fun (caps : Nat → Nat) hcaps => ?_; conv at hcaps => whnf)
      | (refine BB.mk (fun _h => ?_) (fun _h => ?_) <;> (first | (exact absurd _h (by decide)) | (exfalso; simp only [boolSet, hlm] at _h <;> omega) | (exfalso; simp at _h; done) | (simp only [boolSet, hlm] at _h) | skip))
      | (refine And.intro (by omega) ?_)
      | (refine BB.mk (fun _h => ?_) (fun _h => ?_) <;> (first | (exact absurd _h (by decide)) | (exfalso; simp only [boolSet] at _h <;> omega) | skip)))
    all_goals (try conv => whnf)
    all_goals first
      | exact ⟨k + 1, by omega, by omega, ⟨⟨[], by decide, GG_no, rfl, SubOld.refl _ rfl, trivial, ⟨.inl rfl, .inl rfl, .inl rfl, .inl (num_eq (by rw [IntKind.wrap_i64]; omega)), trivial⟩⟩, rfl⟩⟩
      | trace_state
  · obtain rfl : k = l.length := by omega
    repeat' ((try conv => whnf); first
      | (with_reducible refine OKv.go (C := seat) seat_ok ?_)
      | (with_reducible refine BB_true ?_)
      | (with_reducible refine BB_false ?_)
      | (with_reducible refine Both.mk ?_ ?_)
      | (with_reducible refine VS.mk ?_)
      | (refine PSem.go (C := seat) seat_ok ?_)
      | (refine And.intro (PlanOK.mk (by kernel_rfl) rfl (by kernel_rfl) (by kernel_rfl)) ?_)
      | (refine And.intro rfl (Exists.intro _ (And.intro (by first | assumption | rfl) ?_)))
      | (refine And.intro ⟨rfl, rfl, rfl⟩ ?_)
      | (refine BB.mk (fun _h => ?_) (fun _h => ?_) <;> (first | (exact absurd _h (by decide)) | (exfalso; simp only [boolSet, hlm] at _h <;> omega) | (exfalso; simp at _h; done) | (simp only [boolSet, hlm] at _h) | skip))
      | (refine And.intro (by omega) ?_)
      | (refine BB.mk (fun _h => ?_) (fun _h => ?_) <;> (first | (exact absurd _h (by decide)) | (exfalso; simp only [boolSet] at _h <;> omega) | skip)))
    all_goals (try conv => whnf)
    all_goals exact ⟨_, _, FrzV.refl _ _, rfl, rfl, fun _ => rfl, rfl⟩
set_option maxRecDepth 100000 in
set_option maxHeartbeats 4000000 in
theorem descs_yes (l : List De) (c1 c2 : Nat) (hl : l.length ≤ 1000000) (hf : ∀ y ∈ l, y.fl.length ≤ 1000) : FnOK Try.prog GG 21 [] [.z 4 (l.map deC) c1, .z 4 (l.map deC) c2] (fun r _ ext => (r = .v (.bool true)) ∧ ext = []) := by
  have hlm : (l.map deC).length = l.length := List.length_map _
  refine FnOK.pure GG_no rfl (fn_intro (C := seat) seat_ok [(6, (.of [(0, .take), (1, .take), (2, .take), (3, .take), (4, .take), (5, .take), (6, .take), (7, .take), (8, .take), (9, .take), (10, .take), (11, .take), (12, .take), (13, .take), (14, .take), (15, .take), (16, .take), (17, .take), (18, .take), (19, .take), (20, .take), (21, .take), (22, .take), (23, .take), (24, .take), (25, .take), (26, .take), (27, .take), (28, .take), (29, .take), (30, .take), (31, .take), (32, .take), (33, .take), (34, .take), (35, .take), (36, .take), (37, .take), (38, .take), (39, .take), (40, .take), (41, .take), (42, .take), (43, .take), (44, .take), (45, .take), (46, .take), (47, .take), (48, .take), (49, .take), (50, .take), (51, .take)])), (11, (.of [(0, .take), (1, .take), (2, .take), (3, .take), (4, .take), (5, .take), (6, .take), (7, .take), (8, .take), (9, .take), (10, .take), (11, .take), (12, .take), (13, .take), (14, .take), (15, .take), (16, .take)]))] GG_no (Try.func21) rfl rfl rfl rfl rfl ?_)
  repeat' ((try conv => whnf); first
    | (with_reducible refine OKv.go (C := seat) seat_ok ?_)
    | (with_reducible refine BB_true ?_)
    | (with_reducible refine BB_false ?_)
    | (with_reducible refine Both.mk ?_ ?_)
    | (with_reducible refine VS.mk ?_)
    | (refine PSem.go (C := seat) seat_ok ?_)
    | (refine And.intro (PlanOK.mk (by kernel_rfl) rfl (by kernel_rfl) (by kernel_rfl)) ?_)
    | (refine And.intro rfl (Exists.intro _ (And.intro (by first | assumption | rfl) ?_)))
    | (refine And.intro ⟨rfl, rfl, rfl⟩ ?_)
    | (refine BB.mk (fun _h => ?_) (fun _h => ?_) <;> (first | (exact absurd _h (by decide)) | (exfalso; simp only [boolSet, hlm] at _h <;> omega) | (exfalso; simp at _h; done) | (simp only [boolSet, hlm] at _h) | skip))
    | (refine And.intro (by omega) ?_)
    | (refine BB.mk (fun _h => ?_) (fun _h => ?_) <;> (first | (exact absurd _h (by decide)) | (exfalso; simp only [boolSet] at _h <;> omega) | skip)))
  all_goals (try conv => whnf)
  refine loop_rule (α := Nat) (fun k => k ≤ l.length) (fun k => { slots := [(0, .z 4 (l.map deC) c1), (1, .z 4 (l.map deC) c2), (13, .v (.int .i64 (l.map deC).length)), (14, .v (.int .i64 (k : Int)))], nt := 97, mem := ⟨GG, [], []⟩ }) (fun k => l.length - k) 0 (Nat.zero_le _) ⟨⟨[], List.nodup_nil, GG_no, rfl, (SubOld.refl _ rfl), trivial, ⟨.inl rfl, .inl rfl, .inl rfl, .inl rfl, trivial⟩⟩, rfl⟩ ?_ (fun _ => rfl)
  intro k hk
  refine vc_sound (C := seat) seat_ok (pl := [(6, (.of [(0, .take), (1, .take), (2, .take), (3, .take), (4, .take), (5, .take), (6, .take), (7, .take), (8, .take), (9, .take), (10, .take), (11, .take), (12, .take), (13, .take), (14, .take), (15, .take), (16, .take), (17, .take), (18, .take), (19, .take), (20, .take), (21, .take), (22, .take), (23, .take), (24, .take), (25, .take), (26, .take), (27, .take), (28, .take), (29, .take), (30, .take), (31, .take), (32, .take), (33, .take), (34, .take), (35, .take), (36, .take), (37, .take), (38, .take), (39, .take), (40, .take), (41, .take), (42, .take), (43, .take), (44, .take), (45, .take), (46, .take), (47, .take), (48, .take), (49, .take), (50, .take), (51, .take)])), (11, (.of [(0, .take), (1, .take), (2, .take), (3, .take), (4, .take), (5, .take), (6, .take), (7, .take), (8, .take), (9, .take), (10, .take), (11, .take), (12, .take), (13, .take), (14, .take), (15, .take), (16, .take)]))]) ?_
  by_cases hlt : k < l.length
  · obtain ⟨y, hy⟩ : ∃ y, l[k]? = some y := ⟨_, List.getElem?_eq_getElem hlt⟩
    have hrow := zd_z hy
    have hfy := hf y (List.mem_of_getElem? hy)
    have hfm : (y.fl.map spC).length = y.fl.length := List.length_map _
    repeat' ((try conv => whnf); first
      | (with_reducible refine OKv.go (C := seat) seat_ok ?_)
      | (with_reducible refine BB_true ?_)
      | (with_reducible refine BB_false ?_)
      | (with_reducible refine Both.mk ?_ ?_)
      | (with_reducible refine VS.mk ?_)
      | (refine PSem.go (C := seat) seat_ok ?_)
      | (refine And.intro (PlanOK.mk (by kernel_rfl) rfl (by kernel_rfl) (by kernel_rfl)) ?_)
      | (refine And.intro rfl (Exists.intro _ (And.intro (by first | assumption | rfl) ?_)))
      | (refine And.intro ⟨rfl, rfl, rfl⟩ ?_)
      | (refine And.intro ⟨by omega, by simp only [List.length_map]; omega⟩ (Exists.intro _ (And.intro (by first | assumption | rfl) ?_)))
      | (refine fun (cap' : Nat) hcap' => ?_)
      | (refine fun (caps : Nat → Nat) hcaps => ?_; conv at hcaps => whnf)
      | (refine BB.mk (fun _h => ?_) (fun _h => ?_) <;> (first | (exact absurd _h (by decide)) | (exfalso; simp only [boolSet, hlm, hfm] at _h <;> omega) | (exfalso; simp at _h; done) | (simp only [boolSet, hlm, hfm] at _h) | skip))
      | (refine And.intro (by omega) ?_)
      | (refine BB.mk (fun _h => ?_) (fun _h => ?_) <;> (first | (exact absurd _h (by decide)) | (exfalso; simp only [boolSet] at _h <;> omega) | skip)))
    all_goals (try conv => whnf)
    refine loop_rule (α := Nat) (fun j => j ≤ y.fl.length) (fun j => { slots := [(0, .z 4 (l.map deC) c1), (1, .z 4 (l.map deC) c2), (5, .v (.int .i64 (k : Int))), (13, .v (.int .i64 (l.map deC).length)), (14, .v (.int .i64 (k : Int))), (74, .v (.int .i64 (y.fl.map spC).length)), (75, .v (.int .i64 (j : Int)))], nt := 97, mem := ⟨GG, [], []⟩ }) (fun j => y.fl.length - j) 0 (Nat.zero_le _) ⟨⟨[], List.nodup_nil, GG_no, rfl, (SubOld.refl _ rfl), trivial, ⟨.inl rfl, .inl rfl, .inl rfl, .inl rfl, .inl rfl, .inl rfl, .inl rfl, trivial⟩⟩, rfl⟩ ?_ (fun _ => rfl)
    intro j hj
    refine vc_sound (C := seat) seat_ok (pl := [(6, (.of [(0, .take), (1, .take), (2, .take), (3, .take), (4, .take), (5, .take), (6, .take), (7, .take), (8, .take), (9, .take), (10, .take), (11, .take), (12, .take), (13, .take), (14, .take), (15, .take), (16, .take), (17, .take), (18, .take), (19, .take), (20, .take), (21, .take), (22, .take), (23, .take), (24, .take), (25, .take), (26, .take), (27, .take), (28, .take), (29, .take), (30, .take), (31, .take), (32, .take), (33, .take), (34, .take), (35, .take), (36, .take), (37, .take), (38, .take), (39, .take), (40, .take), (41, .take), (42, .take), (43, .take), (44, .take), (45, .take), (46, .take), (47, .take), (48, .take), (49, .take), (50, .take), (51, .take)])), (11, (.of [(0, .take), (1, .take), (2, .take), (3, .take), (4, .take), (5, .take), (6, .take), (7, .take), (8, .take), (9, .take), (10, .take), (11, .take), (12, .take), (13, .take), (14, .take), (15, .take), (16, .take)]))]) ?_
    by_cases hlj : j < y.fl.length
    · obtain ⟨z, hz⟩ : ∃ z, y.fl[j]? = some z := ⟨_, List.getElem?_eq_getElem hlj⟩
      have hrow2 := sp_z hz
      repeat' ((try conv => whnf); first
        | (with_reducible refine OKv.go (C := seat) seat_ok ?_)
        | (with_reducible refine BB_true ?_)
        | (with_reducible refine BB_false ?_)
        | (with_reducible refine Both.mk ?_ ?_)
        | (with_reducible refine VS.mk ?_)
        | (refine PSem.go (C := seat) seat_ok ?_)
        | (refine And.intro (PlanOK.mk (by kernel_rfl) rfl (by kernel_rfl) (by kernel_rfl)) ?_)
        | (refine And.intro rfl (Exists.intro _ (And.intro (by first | assumption | rfl) ?_)))
        | (refine And.intro ⟨rfl, rfl, rfl⟩ ?_)
        | (refine And.intro ⟨by omega, by simp only [List.length_map]; omega⟩ (Exists.intro _ (And.intro (by first | assumption | rfl) ?_)))
        | (refine fun (cap' : Nat) hcap' => ?_)
        | (refine fun (caps : Nat → Nat) hcaps => ?_; conv at hcaps => whnf)
        | (refine BB.mk (fun _h => ?_) (fun _h => ?_) <;> (first | (exact absurd _h (by decide)) | (exfalso; simp only [boolSet, hlm, hfm] at _h <;> omega) | (exfalso; simp at _h; done) | (simp only [boolSet, hlm, hfm] at _h) | skip))
        | (refine And.intro (by omega) ?_)
        | (refine BB.mk (fun _h => ?_) (fun _h => ?_) <;> (first | (exact absurd _h (by decide)) | (exfalso; simp only [boolSet] at _h <;> omega) | skip)))
      all_goals (try conv => whnf)
      all_goals first
        | exact ⟨j + 1, by omega, by omega, ⟨⟨[], by decide, GG_no, rfl, SubOld.refl _ rfl, trivial, ⟨.inl rfl, .inl rfl, .inl rfl, .inl rfl, .inl rfl, .inl rfl, .inl (num_eq (by rw [IntKind.wrap_i64]; omega)), trivial⟩⟩, rfl⟩⟩
        | trace_state
    · obtain rfl : j = y.fl.length := by omega
      repeat' ((try conv => whnf); first
        | (with_reducible refine OKv.go (C := seat) seat_ok ?_)
        | (with_reducible refine BB_true ?_)
        | (with_reducible refine BB_false ?_)
        | (with_reducible refine Both.mk ?_ ?_)
        | (with_reducible refine VS.mk ?_)
        | (refine PSem.go (C := seat) seat_ok ?_)
        | (refine And.intro (PlanOK.mk (by kernel_rfl) rfl (by kernel_rfl) (by kernel_rfl)) ?_)
        | (refine And.intro rfl (Exists.intro _ (And.intro (by first | assumption | rfl) ?_)))
        | (refine And.intro ⟨rfl, rfl, rfl⟩ ?_)
        | (refine BB.mk (fun _h => ?_) (fun _h => ?_) <;> (first | (exact absurd _h (by decide)) | (exfalso; simp only [boolSet, hlm, hfm] at _h <;> omega) | (exfalso; simp at _h; done) | (simp only [boolSet, hlm, hfm] at _h) | skip))
        | (refine And.intro (by omega) ?_)
        | (refine BB.mk (fun _h => ?_) (fun _h => ?_) <;> (first | (exact absurd _h (by decide)) | (exfalso; simp only [boolSet] at _h <;> omega) | skip)))
      all_goals (try conv => whnf)
      all_goals first
        | exact ⟨k + 1, by omega, by omega, ⟨⟨[], by decide, GG_no, rfl, SubOld.refl _ rfl, trivial, ⟨.inl rfl, .inl rfl, .inl rfl, .inl (num_eq (by rw [IntKind.wrap_i64]; omega)), trivial⟩⟩, rfl⟩⟩
        | trace_state
  · obtain rfl : k = l.length := by omega
    repeat' ((try conv => whnf); first
      | (with_reducible refine OKv.go (C := seat) seat_ok ?_)
      | (with_reducible refine BB_true ?_)
      | (with_reducible refine BB_false ?_)
      | (with_reducible refine Both.mk ?_ ?_)
      | (with_reducible refine VS.mk ?_)
      | (refine PSem.go (C := seat) seat_ok ?_)
      | (refine And.intro (PlanOK.mk (by kernel_rfl) rfl (by kernel_rfl) (by kernel_rfl)) ?_)
      | (refine And.intro rfl (Exists.intro _ (And.intro (by first | assumption | rfl) ?_)))
      | (refine And.intro ⟨rfl, rfl, rfl⟩ ?_)
      | (refine BB.mk (fun _h => ?_) (fun _h => ?_) <;> (first | (exact absurd _h (by decide)) | (exfalso; simp only [boolSet, hlm] at _h <;> omega) | (exfalso; simp at _h; done) | (simp only [boolSet, hlm] at _h) | skip))
      | (refine And.intro (by omega) ?_)
      | (refine BB.mk (fun _h => ?_) (fun _h => ?_) <;> (first | (exact absurd _h (by decide)) | (exfalso; simp only [boolSet] at _h <;> omega) | skip)))
    all_goals (try conv => whnf)
    all_goals exact ⟨_, _, FrzV.refl _ _, rfl, rfl, fun _ => rfl, rfl⟩
set_option maxRecDepth 100000 in
set_option maxHeartbeats 4000000 in
theorem event_yes (t : Tr) (v b : List Int) (c1 c2 c3 c4 : Nat) (hv : v.length ≤ 1000) (hb : b.length ≤ 1000) : FnOK Try.prog GG 22 [] [.agg [.v (.int .u8 t.a), .v (.int .u16 t.b), .v (.int .u32 t.c), .z 1 (v.map i4C) c1, .z 1 (b.map u1C) c2], .agg [.v (.int .u8 t.a), .v (.int .u16 t.b), .v (.int .u32 t.c), .z 1 (v.map i4C) c3, .z 1 (b.map u1C) c4]] (fun r _ ext => (r = .v (.bool true)) ∧ ext = []) := by
  have hlm : (v.map i4C).length = v.length := List.length_map _
  refine FnOK.pure GG_no rfl (fn_intro (C := seat) seat_ok [(6, (.of [(0, .take), (1, .take), (2, .take), (3, .take), (4, .take), (5, .take), (6, .take), (7, .take), (8, .take), (9, .take), (10, .take)]))] GG_no (Try.func22) rfl rfl rfl rfl rfl ?_)
  repeat' ((try conv => whnf); first
    | (with_reducible refine OKv.go (C := seat) seat_ok ?_)
    | (with_reducible refine BB_true ?_)
    | (with_reducible refine BB_false ?_)
    | (with_reducible refine Both.mk ?_ ?_)
    | (with_reducible refine VS.mk ?_)
    | (refine PSem.go (C := seat) seat_ok ?_)
    | (refine And.intro (PlanOK.mk (by kernel_rfl) rfl (by kernel_rfl) (by kernel_rfl)) ?_)
    | (refine And.intro rfl (Exists.intro _ (And.intro (by first | assumption | rfl) ?_)))
    | (refine And.intro ⟨rfl, rfl, rfl⟩ ?_)
    | (refine Exists.intro b (And.intro rfl ?_))
    | (refine fun (caps : Nat → Nat) hcaps => ?_; conv at hcaps => whnf)
    | (refine BB.mk (fun _h => ?_) (fun _h => ?_) <;> (first | (exact absurd _h (by decide)) | (exfalso; simp only [boolSet, hlm] at _h <;> omega) | (exfalso; simp at _h; done) | (simp only [boolSet, hlm] at _h) | skip))
    | (refine And.intro (by omega) ?_)
    | (refine BB.mk (fun _h => ?_) (fun _h => ?_) <;> (first | (exact absurd _h (by decide)) | (exfalso; simp only [boolSet] at _h <;> omega) | skip)))
  all_goals (try conv => whnf)
  refine loop_rule (α := Nat) (fun k => k ≤ v.length) (fun k => { slots := [(2, .p (.n 0) 0 0 0), (3, .p (.n 1) 0 0 0), (5, .v (.int .i64 (k : Int)))], nt := 47, mem := ⟨GG, [], [.box 34 [.v (.int .u8 t.a), .v (.int .u16 t.b), .v (.int .u32 t.c), .z 1 (v.map i4C) c1, .z 1 (b.map u1C) c2], .box 34 [.v (.int .u8 t.a), .v (.int .u16 t.b), .v (.int .u32 t.c), .z 1 (v.map i4C) c3, .z 1 (b.map u1C) c4]]⟩ }) (fun k => v.length - k) 0 (Nat.zero_le _) ⟨⟨[0, 1], (by decide), GG_no, rfl, (SubOld.refl _ rfl), ⟨rfl, rfl, trivial⟩, ⟨.inl rfl, .inl rfl, .inl rfl, trivial⟩⟩, rfl⟩ ?_ (fun _ => rfl)
  intro k hk
  refine vc_sound (C := seat) seat_ok (pl := [(6, (.of [(0, .take), (1, .take), (2, .take), (3, .take), (4, .take), (5, .take), (6, .take), (7, .take), (8, .take), (9, .take), (10, .take)]))]) ?_
  by_cases hlt : k < v.length
  · obtain ⟨y, hy⟩ : ∃ y, v[k]? = some y := ⟨_, List.getElem?_eq_getElem hlt⟩
    have hrow := i4_z hy
    repeat' ((try conv => whnf); first
      | (with_reducible refine OKv.go (C := seat) seat_ok ?_)
      | (with_reducible refine BB_true ?_)
      | (with_reducible refine BB_false ?_)
      | (with_reducible refine Both.mk ?_ ?_)
      | (with_reducible refine VS.mk ?_)
      | (refine PSem.go (C := seat) seat_ok ?_)
      | (refine And.intro (PlanOK.mk (by kernel_rfl) rfl (by kernel_rfl) (by kernel_rfl)) ?_)
      | (refine And.intro rfl (Exists.intro _ (And.intro (by first | assumption | rfl) ?_)))
      | (refine And.intro ⟨rfl, rfl, rfl⟩ ?_)
      | (refine And.intro ⟨by omega, by simp only [List.length_map]; omega⟩ (Exists.intro _ (And.intro (by first | assumption | rfl) ?_)))
      | (refine fun (caps : Nat → Nat) hcaps => ?_; conv at hcaps => whnf)
      | (refine BB.mk (fun _h => ?_) (fun _h => ?_) <;> (first | (exact absurd _h (by decide)) | (exfalso; simp only [boolSet, hlm] at _h <;> omega) | (exfalso; simp at _h; done) | (simp only [boolSet, hlm] at _h) | skip))
      | (refine And.intro (by omega) ?_)
      | (refine BB.mk (fun _h => ?_) (fun _h => ?_) <;> (first | (exact absurd _h (by decide)) | (exfalso; simp only [boolSet] at _h <;> omega) | skip)))
    all_goals (try conv => whnf)
    all_goals first
      | exact ⟨k + 1, by omega, by omega, ⟨⟨[0, 1], by decide, GG_no, rfl, SubOld.refl _ rfl, ⟨rfl, rfl, trivial⟩, ⟨.inl rfl, .inl rfl, .inl (num_eq (by rw [IntKind.wrap_i64]; omega)), trivial⟩⟩, rfl⟩⟩
      | trace_state
  · obtain rfl : k = v.length := by omega
    repeat' ((try conv => whnf); first
      | (with_reducible refine OKv.go (C := seat) seat_ok ?_)
      | (with_reducible refine BB_true ?_)
      | (with_reducible refine BB_false ?_)
      | (with_reducible refine Both.mk ?_ ?_)
      | (with_reducible refine VS.mk ?_)
      | (refine PSem.go (C := seat) seat_ok ?_)
      | (refine And.intro (PlanOK.mk (by kernel_rfl) rfl (by kernel_rfl) (by kernel_rfl)) ?_)
      | (refine And.intro rfl (Exists.intro _ (And.intro (by first | assumption | rfl) ?_)))
      | (refine And.intro ⟨rfl, rfl, rfl⟩ ?_)
      | (refine BB.mk (fun _h => ?_) (fun _h => ?_) <;> (first | (exact absurd _h (by decide)) | (exfalso; simp only [boolSet, hlm] at _h <;> omega) | (exfalso; simp at _h; done) | (simp only [boolSet, hlm] at _h) | skip))
      | (refine And.intro (by omega) ?_)
      | (refine BB.mk (fun _h => ?_) (fun _h => ?_) <;> (first | (exact absurd _h (by decide)) | (exfalso; simp only [boolSet] at _h <;> omega) | skip)))
    all_goals (try conv => whnf)
    all_goals exact ⟨_, _, FrzV.refl _ _, rfl, rfl, fun _ => rfl, rfl⟩
end Go.Proofs.Ytkcdomafdjpbjaa
