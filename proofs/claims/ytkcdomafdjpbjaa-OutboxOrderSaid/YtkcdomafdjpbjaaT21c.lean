/- Outboxes: Put, Take. -/
import Derived.Test.YtkcdomafdjpbjaaT21b
import Derived.Test.YtkcdomafdjpbjaaZI
namespace Go.Proofs.Ytkcdomafdjpbjaa
open Go.RowKit

set_option maxRecDepth 100000 in
set_option maxHeartbeats 4000000 in
theorem cop_ms (l : List Ms) (c : Nat) (hl : l.length ≤ 1000000) (hm : ∀ y ∈ l, MsOk y) : FnOK Try.prog GG 19 [] [.z 17 (l.map msC) c, .fn 18 []] (fun r _ ext => ∃ cap', l.length ≤ cap' ∧ r = .s (.n 0) 17 0 l.length cap' ∧ ext = [.row 39 17 cap' (l.map msC)]) := by
  have hlm : (l.map msC).length = l.length := List.length_map _
  refine fn_newR (C := seat) seat_ok [] GG_no (Try.func19) rfl rfl rfl rfl rfl rfl ?_
  repeat' ((try conv => whnf); first
    | (with_reducible refine OKv.go (C := seat) seat_ok ?_)
    | (with_reducible refine BB_true ?_)
    | (with_reducible refine BB_false ?_)
    | (with_reducible refine Both.mk ?_ ?_)
    | (with_reducible refine VS.mk ?_)
    | (refine PSem.go (C := seat) seat_ok ?_)
    | (refine And.intro (PlanOK.mk (by kernel_rfl) rfl (by kernel_rfl) (by kernel_rfl)) ?_)
    | (refine And.intro rfl (Exists.intro _ (And.intro (by first | assumption | rfl) ?_)))
    | (refine And.intro ⟨rfl, rfl, rfl⟩ ?_)
    | (refine And.intro (by omega) ?_)
    | (refine BB.mk (fun _h => ?_) (fun _h => ?_) <;> (first | (exact absurd _h (by decide)) | (exfalso; simp only [boolSet] at _h <;> omega) | skip)))
  all_goals (try conv => whnf)
  refine loop_rule (α := Nat × Nat) (fun p => p.1 ≤ l.length ∧ p.1 ≤ p.2) (fun p => { slots := [(1, .fn 18 []), (5, .s (.n 0) 17 0 p.1 p.2), (8, .z 17 (l.map msC) c), (9, .v (.int .i64 (l.map msC).length)), (10, .v (.int .i64 (p.1 : Int)))], nt := 22, mem := ⟨GG, [], [.row 39 17 p.2 ((l.take p.1).map msC)]⟩ }) (fun p => l.length - p.1) (0, 0) ⟨Nat.zero_le _, Nat.zero_le _⟩ ⟨⟨[0], (by decide), GG_no, rfl, (SubOld.refl _ rfl), ⟨.inl (.inl ⟨rfl, rfl⟩), trivial⟩, ⟨.inl rfl, .inr (.inl ⟨_, _, _, rfl, rfl⟩), .inl rfl, .inl rfl, .inl rfl, trivial⟩⟩, rfl⟩ ?_ (fun _ => rfl)
  rintro ⟨k, c'⟩ ⟨hk, hc⟩
  dsimp only at hk hc ⊢
  refine vc_sound (C := seat) seat_ok (pl := []) ?_
  by_cases hlt : k < l.length
  · obtain ⟨y, hy⟩ : ∃ y, l[k]? = some y := ⟨_, List.getElem?_eq_getElem hlt⟩
    have hrow := ms_z hy
    have htk : ((l.take k).map msC).length = k := by rw [List.length_map, List.length_take]; omega
    have hmy := hm y (List.mem_of_getElem? hy)
    repeat' ((try conv => whnf); first
      | (with_reducible refine OKv.go (C := seat) seat_ok ?_)
      | (with_reducible refine BB_true ?_)
      | (with_reducible refine BB_false ?_)
      | (with_reducible refine Both.mk ?_ ?_)
      | (with_reducible refine VS.mk ?_)
      | (refine PSem.go (C := seat) seat_ok ?_)
      | (refine And.intro (PlanOK.mk (by kernel_rfl) rfl (by kernel_rfl) (by kernel_rfl)) ?_)
      | (refine And.intro rfl (Exists.intro _ (And.intro (by first | assumption | rfl) ?_)))
      | (refine And.intro ⟨rfl, rfl, rfl⟩ ?_)
      | (refine call_ro [] (message_z y _ _ _ _ _ _ hmy) GG_no rfl rfl rfl trivial ?_; rintro r bs' ext ⟨⟨d1, d2, d3, d4, d5, d6, rfl⟩, rfl⟩)
      | (refine And.intro ⟨by omega, by simp only [List.length_map]; omega⟩ (Exists.intro _ (And.intro (by first | assumption | rfl) ?_)))
      | (refine And.intro ⟨rfl, rfl, rfl, by first | omega | rfl⟩ ?_)
      | (refine And.intro ⟨rfl, by first | omega | rfl | (simp only [chunks_len] <;> omega)⟩ ?_)
      | (refine And.intro (by first | exact ⟨rfl, Nat.le_refl _⟩ | omega | rfl | (dsimp only; omega)) ?_)
      | (refine fun (caps : Nat → Nat) hcaps => ?_; conv at hcaps => whnf)
      | (refine fun (cap' : Nat) hcap' => ?_)
      | (refine BB.mk (fun _h => ?_) (fun _h => ?_) <;> (first | (exact absurd _h (by decide)) | (exfalso; simp only [boolSet] at _h <;> omega) | (simp only [boolSet] at _h) | skip))
      | (refine And.intro (by omega) ?_)
      | (refine BB.mk (fun _h => ?_) (fun _h => ?_) <;> (first | (exact absurd _h (by decide)) | (exfalso; simp only [boolSet] at _h <;> omega) | skip)))
    all_goals (try conv => whnf)
    refine ⟨(k + 1, cap'), ⟨by dsimp only; omega, by dsimp only; omega⟩, by dsimp only; omega, ⟨⟨[3], by decide, GG_no, rfl, SubOld.refl _ rfl, ⟨.inr (.inl ?_), trivial⟩, ⟨.inl rfl, .inl ?_, .inl rfl, .inl rfl, .inl (num_eq (by rw [IntKind.wrap_i64]; dsimp only; omega)), trivial⟩⟩, rfl⟩⟩
    · dsimp only
      rw [map_take_in hy]
      rfl
    · rfl
  · have hs : l.take k = l := List.take_of_length_le (by omega)
    obtain rfl : k = l.length := by omega
    repeat' ((try conv => whnf); first
      | (with_reducible refine OKv.go (C := seat) seat_ok ?_)
      | (with_reducible refine BB_true ?_)
      | (with_reducible refine BB_false ?_)
      | (with_reducible refine Both.mk ?_ ?_)
      | (with_reducible refine VS.mk ?_)
      | (refine PSem.go (C := seat) seat_ok ?_)
      | (refine And.intro (PlanOK.mk (by kernel_rfl) rfl (by kernel_rfl) (by kernel_rfl)) ?_)
      | (refine And.intro rfl (Exists.intro _ (And.intro (by first | assumption | rfl) ?_)))
      | (refine And.intro ⟨rfl, rfl, rfl⟩ ?_)
      | (refine BB.mk (fun _h => ?_) (fun _h => ?_) <;> (first | (exact absurd _h (by decide)) | (exfalso; simp only [boolSet] at _h <;> omega) | (simp only [boolSet] at _h) | skip))
      | (refine And.intro (by omega) ?_)
      | (refine BB.mk (fun _h => ?_) (fun _h => ?_) <;> (first | (exact absurd _h (by decide)) | (exfalso; simp only [boolSet] at _h <;> omega) | skip)))
    all_goals (try conv => whnf)
    rw [hs]
    exact ⟨⟨[0], .s (.n 0) 17 0 l.length c', [.row 39 17 c' (l.map msC)], by decide, .inl (.inl rfl), ⟨.inr (.inl rfl), trivial⟩, c', hc, rfl, rfl⟩, rfl⟩
set_option maxRecDepth 100000 in
set_option maxHeartbeats 4000000 in
theorem put_no (room lost : Int) (l : List Ms) (c : Nat) (m : Ms) (c1 c2 c3 c4 c5 c6 : Nat) (hl : l.length ≤ 1000) (hm : ∀ y ∈ l, MsOk y) (h : room ≤ l.length) : FnOK Try.prog GG 12 [] [.agg [.v (.int .i64 room), .z 17 (l.map msC) c, .v (.int .i64 lost)], msS m c1 c2 c3 c4 c5 c6] (fun r _ ext => (∃ c', r = .agg [.v (.int .i64 room), .z 17 (l.map msC) c', .v (.int .i64 (IntKind.i64.wrap (lost + 1)))]) ∧ ext = []) := by
  have hlm : (l.map msC).length = l.length := List.length_map _
  refine FnOK.pure GG_no rfl (fn_intro (C := seat) seat_ok [(1, (.op 0 .take (.op 1 .take (.op 2 .take (.op 3 .take (.op 5 .take (.op 6 .take (.seq 1 [true, true, true, true, true, true, true, true, true, false] (.fork 4 (.of [(7, .take), (8, .do_)]) (.of [(8, .do_), (4, .do_), (7, .take)])) (.of [(9, .last)]))))))))), (3, (.of [(0, .take), (1, .take), (2, .take), (3, .do_), (4, .do_), (5, .last), (6, .last), (7, .last)]))] GG_no (Try.func12) rfl rfl rfl rfl rfl ?_)
  repeat' ((try conv => whnf); first
    | (with_reducible refine OKv.go (C := seat) seat_ok ?_)
    | (with_reducible refine BB_true ?_)
    | (with_reducible refine BB_false ?_)
    | (with_reducible refine Both.mk ?_ ?_)
    | (with_reducible refine VS.mk ?_)
    | (refine PSem.go (C := seat) seat_ok ?_)
    | (refine And.intro (PlanOK.mk (by kernel_rfl) rfl (by kernel_rfl) (by kernel_rfl)) ?_)
    | (refine And.intro rfl (Exists.intro _ (And.intro (by first | assumption | rfl) ?_)))
    | (refine And.intro ⟨rfl, rfl, rfl⟩ ?_)
    | (refine call_ro [] (cop_ms l _ (by omega) hm) GG_no rfl rfl rfl trivial ?_; rintro r bs' ext ⟨c7, hc7, rfl, rfl⟩)
    | (refine fun (caps : Nat → Nat) hcaps => ?_; conv at hcaps => whnf)
    | (refine BB.mk (fun _h => ?_) (fun _h => ?_) <;> (first | (exact absurd _h (by decide)) | (exfalso; simp only [boolSet, hlm] at _h <;> omega) | (simp only [boolSet, hlm] at _h) | skip))
    | (refine And.intro (by omega) ?_)
    | (refine BB.mk (fun _h => ?_) (fun _h => ?_) <;> (first | (exact absurd _h (by decide)) | (exfalso; simp only [boolSet] at _h <;> omega) | skip)))
  all_goals (try conv => whnf)
  all_goals first
    | exact ⟨_, _, (frz_aggT 1 (by rfl) (frz_rowF (els' := l.map msC) (by rfl) (by rw [List.length_map]) (by rfl)) (by rfl)), rfl, rfl, fun _ => rfl, _, rfl⟩
    | trace_state
set_option maxRecDepth 100000 in
set_option maxHeartbeats 4000000 in
theorem put_yes (room lost : Int) (l : List Ms) (c : Nat) (m : Ms) (c1 c2 c3 c4 c5 c6 : Nat) (hl : l.length ≤ 1000) (hm : ∀ y ∈ l, MsOk y) (hmm : MsOk m) (h : l.length < room) : FnOK Try.prog GG 12 [] [.agg [.v (.int .i64 room), .z 17 (l.map msC) c, .v (.int .i64 lost)], msS m c1 c2 c3 c4 c5 c6] (fun r _ ext => (∃ c', r = .agg [.v (.int .i64 room), .z 17 ((l ++ [m]).map msC) c', .v (.int .i64 lost)]) ∧ ext = []) := by
  have hlm : (l.map msC).length = l.length := List.length_map _
  refine FnOK.pure GG_no rfl (fn_intro (C := seat) seat_ok [(1, (.op 0 .take (.op 1 .take (.op 2 .take (.op 3 .take (.op 5 .take (.op 6 .take (.seq 1 [true, true, true, true, true, true, true, true, true, false] (.fork 4 (.of [(7, .take), (8, .do_)]) (.of [(8, .do_), (4, .do_), (7, .take)])) (.of [(9, .last)]))))))))), (3, (.of [(0, .take), (1, .take), (2, .take), (3, .do_), (4, .do_), (5, .last), (6, .last), (7, .last)]))] GG_no (Try.func12) rfl rfl rfl rfl rfl ?_)
  repeat' ((try conv => whnf); first
    | (with_reducible refine OKv.go (C := seat) seat_ok ?_)
    | (with_reducible refine BB_true ?_)
    | (with_reducible refine BB_false ?_)
    | (with_reducible refine Both.mk ?_ ?_)
    | (with_reducible refine VS.mk ?_)
    | (refine PSem.go (C := seat) seat_ok ?_)
    | (refine And.intro (PlanOK.mk (by kernel_rfl) rfl (by kernel_rfl) (by kernel_rfl)) ?_)
    | (refine And.intro rfl (Exists.intro _ (And.intro (by first | assumption | rfl) ?_)))
    | (refine And.intro ⟨rfl, rfl, rfl⟩ ?_)
    | (refine call_ro [] (cop_ms l _ (by omega) hm) GG_no rfl rfl rfl trivial ?_; rintro r bs' ext ⟨c7, hc7, rfl, rfl⟩)
    | (refine call_ro [] (message_z m _ _ _ _ _ _ hmm) GG_no rfl rfl rfl trivial ?_; rintro r bs' ext ⟨⟨e1, e2, e3, e4, e5, e6, rfl⟩, rfl⟩)
    | (refine And.intro ⟨rfl, rfl, rfl, by first | omega | rfl⟩ ?_)
    | (refine And.intro ⟨rfl, by first | omega | rfl | (simp only [chunks_len] <;> omega)⟩ ?_)
    | (refine And.intro (by first | exact ⟨rfl, Nat.le_refl _⟩ | omega | rfl | (dsimp only; omega)) ?_)
    | (refine fun (caps : Nat → Nat) hcaps => ?_; conv at hcaps => whnf)
    | (refine fun (cap' : Nat) hcap' => ?_)
    | (refine BB.mk (fun _h => ?_) (fun _h => ?_) <;> (first | (exact absurd _h (by decide)) | (exfalso; simp only [boolSet, hlm] at _h <;> omega) | (simp only [boolSet, hlm] at _h) | skip))
    | (refine And.intro (by omega) ?_)
    | (refine BB.mk (fun _h => ?_) (fun _h => ?_) <;> (first | (exact absurd _h (by decide)) | (exfalso; simp only [boolSet] at _h <;> omega) | skip)))
  all_goals (try conv => whnf)
  all_goals first
    | exact ⟨_, _, (frz_aggT 1 (by rfl) (frz_rowF (els' := (l ++ [m]).map msC) (by rfl) (by simp) (by rw [List.map_append]; rfl)) (by rfl)), rfl, rfl, fun _ => rfl, _, rfl⟩
    | trace_state
end Go.Proofs.Ytkcdomafdjpbjaa
