/- Iterators over two lists. -/
import Derived.Test.YtkmnglgjbmipgaaDoorF05
namespace Go.Proofs.YtkmnglgjbmipgaaDoor
open Go.RowKit

theorem min_i {α β : Type} {l : List α} {r : List β} {a b : Nat} (h1 : l.length = a) (h2 : r.length = b) : (bif false then (if (r.length : Int) > (l.length : Int) then (r.length : Int) else (l.length : Int)) else (if (r.length : Int) < (l.length : Int) then (r.length : Int) else (l.length : Int))) = ((min a b : Nat) : Int) := by
  rw [h1, h2, cond_false]
  split <;> omega
set_option maxRecDepth 100000 in
set_option maxHeartbeats 4000000 in
theorem pairs_SS (l : List Sp) (r : List Sp) (ca cb : Nat) : FnOK Tryd.prog GG 30 [] [.z 2 (l.map spC) ca, .z 2 (r.map spC) cb] (fun r' _ ext => r' = .fn 39 [.p (.n 0) 0 0 0, .p (.n 1) 0 0 0] ∧ ext = [.box 22 [.z 2 (l.map spC) ca], .box 22 [.z 2 (r.map spC) cb]]) := by
  refine fn_new (C := seat) seat_ok [] GG_no (Tryd.func30) rfl rfl rfl rfl rfl rfl ?_
  repeat' ((try conv => whnf); first
    | (with_reducible refine OKv.go (C := seat) seat_ok ?_)
    | (with_reducible refine BB_true ?_)
    | (with_reducible refine BB_false ?_)
    | (with_reducible refine Both.mk ?_ ?_)
    | (with_reducible refine VS.mk ?_)
    | (refine PSem.go (C := seat) seat_ok ?_)
    | (refine And.intro (PlanOK.mk (by kernel_rfl) rfl (by kernel_rfl) (by kernel_rfl)) ?_)
    | (refine And.intro rfl (Exists.intro _ (And.intro (by first | assumption | rfl) ?_)))
    | (refine And.intro ⟨rfl, rfl, rfl⟩ ?_)
    | (refine And.intro (by omega) ?_)
    | (refine BB.mk (fun _h => ?_) (fun _h => ?_) <;> (first | (exact absurd _h (by decide)) | (exfalso; simp only [boolSet] at _h <;> omega) | skip)))
  all_goals (try conv => whnf)
  all_goals exact ⟨⟨[0, 1], .fn 39 [.p (.n 0) 0 0 0, .p (.n 1) 0 0 0], [.box 22 [.z 2 (l.map spC) ca], .box 22 [.z 2 (r.map spC) cb]], by decide, rfl, ⟨rfl, rfl, trivial⟩, rfl, rfl⟩, rfl⟩
set_option maxRecDepth 100000 in
set_option maxHeartbeats 4000000 in
theorem iter_SS (l : List Sp) (r : List Sp) (ca cb : Nat) (hl : l.length ≤ 1099511627776) : IterO Tryd.prog 39 [.cst 22 [.z 2 (l.map spC) ca], .cst 22 [.z 2 (r.map spC) cb]] (capsO 2) (min l.length r.length) (fun k => [spI (atD l k).a (atD l k).b, spI (atD r k).a (atD r k).b]) := by
  have hml : (l.map spC).length = l.length := List.length_map _
  have hmr : (r.map spC).length = r.length := List.length_map _
  refine iter_intro (C := seat) (caps := capsO 2) seat_ok [(3, [(0, .take), (1, .take), (2, .take), (3, .take), (4, .take), (5, .take), (6, .take), (7, .take), (8, .take), (9, .last), (10, .last)])] (by decide) (Tryd.func39) rfl rfl rfl rfl rfl ?_
  intro y
  repeat' ((try conv => whnf); first
    | (with_reducible refine BB_true ?_)
    | (with_reducible refine BB_false ?_)
    | (refine BB.mk (fun _h => ?_) (fun _h => ?_)))
  refine loop_ruleI (fun k => { slots := [(0, .v (.func (.yield y) #[] #[])), (1, .p (.o 0) 0 0 0), (2, .p (.o 1) 0 0 0), (9, .v (.int .i64 ((min l.length r.length : Nat) : Int))), (10, .v (.int .i64 (k : Int)))], nt := 25, mem := ⟨[], [], []⟩ }) ⟨0, rfl, Nat.zero_le _, ⟨rfl, rfl, rfl, num_eq (min_i hml hmr), rfl, trivial⟩⟩ (fun _ => rfl) ?_
  intro k hk
  refine OKi.go (C := seat) seat_ok [(3, [(0, .take), (1, .take), (2, .take), (3, .take), (4, .take), (5, .take), (6, .take), (7, .take), (8, .take), (9, .last), (10, .last)])] (by decide) ?_
  by_cases hlt : k < min l.length r.length
  · have hrow := atC (l := l) (k := k) (by omega)
    have hrow2 := atC (l := r) (k := k) (by omega)
    repeat' ((try conv => whnf); first
      | (with_reducible refine BB_true ?_)
      | (with_reducible refine BB_false ?_)
      | (refine And.intro (PlanOKI.mk (by kernel_rfl) rfl (by kernel_rfl) (by kernel_rfl)) ?_)
      | (refine And.intro ⟨hlt, rfl, rfl⟩ (Both.mk ?_ ?_))
      | (refine And.intro ⟨by omega, by simp only [List.length_map]; omega⟩ (Exists.intro _ (And.intro (by first | assumption | rfl) ?_)))
      | (refine BB.mk (fun _h => ?_) (fun _h => ?_) <;> (first | (exact absurd _h (by decide)) | (exfalso; simp only [boolSet] at _h <;> omega) | skip)))
    all_goals (try conv => whnf)
    all_goals first
      | exact ⟨rfl, hlt, rfl, rfl, rfl, rfl, num_eq (by rw [IntKind.wrap_i64]; omega), trivial⟩
      | exact .inr rfl
  · repeat' ((try conv => whnf); first
      | (with_reducible refine BB_true ?_)
      | (with_reducible refine BB_false ?_)
      | (refine BB.mk (fun _h => ?_) (fun _h => ?_) <;> (first | (exact absurd _h (by decide)) | (exfalso; simp only [boolSet] at _h <;> omega) | skip)))
    all_goals (try conv => whnf)
    all_goals first
      | exact .inl (congrArg some (by omega))
      | exact .inr rfl
set_option maxRecDepth 100000 in
set_option maxHeartbeats 4000000 in
theorem pairs_SN (l : List Sp) (r : List Int) (ca cb : Nat) : FnOK Tryd.prog GG 33 [] [.z 2 (l.map spC) ca, .z 1 (r.map nuC) cb] (fun r' _ ext => r' = .fn 40 [.p (.n 0) 0 0 0, .p (.n 1) 0 0 0] ∧ ext = [.box 22 [.z 2 (l.map spC) ca], .box 39 [.z 1 (r.map nuC) cb]]) := by
  refine fn_new (C := seat) seat_ok [] GG_no (Tryd.func33) rfl rfl rfl rfl rfl rfl ?_
  repeat' ((try conv => whnf); first
    | (with_reducible refine OKv.go (C := seat) seat_ok ?_)
    | (with_reducible refine BB_true ?_)
    | (with_reducible refine BB_false ?_)
    | (with_reducible refine Both.mk ?_ ?_)
    | (with_reducible refine VS.mk ?_)
    | (refine PSem.go (C := seat) seat_ok ?_)
    | (refine And.intro (PlanOK.mk (by kernel_rfl) rfl (by kernel_rfl) (by kernel_rfl)) ?_)
    | (refine And.intro rfl (Exists.intro _ (And.intro (by first | assumption | rfl) ?_)))
    | (refine And.intro ⟨rfl, rfl, rfl⟩ ?_)
    | (refine And.intro (by omega) ?_)
    | (refine BB.mk (fun _h => ?_) (fun _h => ?_) <;> (first | (exact absurd _h (by decide)) | (exfalso; simp only [boolSet] at _h <;> omega) | skip)))
  all_goals (try conv => whnf)
  all_goals exact ⟨⟨[0, 1], .fn 40 [.p (.n 0) 0 0 0, .p (.n 1) 0 0 0], [.box 22 [.z 2 (l.map spC) ca], .box 39 [.z 1 (r.map nuC) cb]], by decide, rfl, ⟨rfl, rfl, trivial⟩, rfl, rfl⟩, rfl⟩
set_option maxRecDepth 100000 in
set_option maxHeartbeats 4000000 in
theorem iter_SN (l : List Sp) (r : List Int) (ca cb : Nat) (hl : l.length ≤ 1099511627776) : IterO Tryd.prog 40 [.cst 22 [.z 2 (l.map spC) ca], .cst 39 [.z 1 (r.map nuC) cb]] (capsO 2) (min l.length r.length) (fun k => [spI (atD l k).a (atD l k).b, .v (.int .i32 (atD r k))]) := by
  have hml : (l.map spC).length = l.length := List.length_map _
  have hmr : (r.map nuC).length = r.length := List.length_map _
  refine iter_intro (C := seat) (caps := capsO 2) seat_ok [(3, [(0, .take), (1, .take), (2, .take), (3, .take), (4, .take), (5, .take), (6, .take), (7, .take), (8, .take), (9, .last), (10, .last)])] (by decide) (Tryd.func40) rfl rfl rfl rfl rfl ?_
  intro y
  repeat' ((try conv => whnf); first
    | (with_reducible refine BB_true ?_)
    | (with_reducible refine BB_false ?_)
    | (refine BB.mk (fun _h => ?_) (fun _h => ?_)))
  refine loop_ruleI (fun k => { slots := [(0, .v (.func (.yield y) #[] #[])), (1, .p (.o 0) 0 0 0), (2, .p (.o 1) 0 0 0), (9, .v (.int .i64 ((min l.length r.length : Nat) : Int))), (10, .v (.int .i64 (k : Int)))], nt := 25, mem := ⟨[], [], []⟩ }) ⟨0, rfl, Nat.zero_le _, ⟨rfl, rfl, rfl, num_eq (min_i hml hmr), rfl, trivial⟩⟩ (fun _ => rfl) ?_
  intro k hk
  refine OKi.go (C := seat) seat_ok [(3, [(0, .take), (1, .take), (2, .take), (3, .take), (4, .take), (5, .take), (6, .take), (7, .take), (8, .take), (9, .last), (10, .last)])] (by decide) ?_
  by_cases hlt : k < min l.length r.length
  · have hrow := atC (l := l) (k := k) (by omega)
    have hrow2 := atN (l := r) (k := k) (by omega)
    repeat' ((try conv => whnf); first
      | (with_reducible refine BB_true ?_)
      | (with_reducible refine BB_false ?_)
      | (refine And.intro (PlanOKI.mk (by kernel_rfl) rfl (by kernel_rfl) (by kernel_rfl)) ?_)
      | (refine And.intro ⟨hlt, rfl, rfl⟩ (Both.mk ?_ ?_))
      | (refine And.intro ⟨by omega, by simp only [List.length_map]; omega⟩ (Exists.intro _ (And.intro (by first | assumption | rfl) ?_)))
      | (refine BB.mk (fun _h => ?_) (fun _h => ?_) <;> (first | (exact absurd _h (by decide)) | (exfalso; simp only [boolSet] at _h <;> omega) | skip)))
    all_goals (try conv => whnf)
    all_goals first
      | exact ⟨rfl, hlt, rfl, rfl, rfl, rfl, num_eq (by rw [IntKind.wrap_i64]; omega), trivial⟩
      | exact .inr rfl
  · repeat' ((try conv => whnf); first
      | (with_reducible refine BB_true ?_)
      | (with_reducible refine BB_false ?_)
      | (refine BB.mk (fun _h => ?_) (fun _h => ?_) <;> (first | (exact absurd _h (by decide)) | (exfalso; simp only [boolSet] at _h <;> omega) | skip)))
    all_goals (try conv => whnf)
    all_goals first
      | exact .inl (congrArg some (by omega))
      | exact .inr rfl
end Go.Proofs.YtkmnglgjbmipgaaDoor
