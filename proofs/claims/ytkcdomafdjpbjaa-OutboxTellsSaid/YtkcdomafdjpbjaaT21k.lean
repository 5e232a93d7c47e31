/- The reference: from, Put, Take. -/
import Derived.Test.YtkcdomafdjpbjaaT21j
namespace Go.Proofs.Ytkcdomafdjpbjaa
open Go.RowKit

set_option maxRecDepth 100000 in
set_option maxHeartbeats 4000000 in
theorem from_own (room lost : Int) (l : List Ms) (c a0 : Nat) (hl : l.length ≤ 1000) (ha : a0 ≤ l.length) (hm : ∀ y ∈ l, MsOk y) : FnOK Try.prog GG 20 [] [.agg [.v (.int .i64 room), .z 17 (l.map msC) c, .v (.int .i64 lost)], .v (.int .i64 (a0 : Int))] (fun r _ ext => ∃ cap', (l.drop a0).length ≤ cap' ∧ r = .agg [.v (.int .i64 room), .s (.n 0) 17 0 (l.drop a0).length cap', .v (.int .i64 lost)] ∧ ext = [.row 39 17 cap' ((l.drop a0).map msC)]) := by
  have hlm : (l.map msC).length = l.length := List.length_map _
  have hdl : (l.drop a0).length = l.length - a0 := List.length_drop
  refine fn_newR (C := seat) seat_ok [(5, (.of [(0, .take), (1, .take), (2, .take), (3, .take), (4, .take), (5, .take), (6, .take), (7, .do_), (8, .do_), (9, .last), (10, .last), (11, .last)]))] GG_no (Try.func20) rfl rfl rfl rfl rfl rfl ?_
  repeat' ((try conv => whnf); first
    | (with_reducible refine OKv.go (C := seat) seat_ok ?_)
    | (with_reducible refine BB_true ?_)
    | (with_reducible refine BB_false ?_)
    | (with_reducible refine Both.mk ?_ ?_)
    | (with_reducible refine VS.mk ?_)
    | (refine PSem.go (C := seat) seat_ok ?_)
    | (refine And.intro (PlanOK.mk (by kernel_rfl) rfl (by kernel_rfl) (by kernel_rfl)) ?_)
    | (refine And.intro rfl (Exists.intro _ (And.intro (by first | assumption | rfl) ?_)))
    | (refine And.intro ⟨rfl, rfl, rfl⟩ ?_)
    | (refine fun (caps : Nat → Nat) hcaps => ?_; conv at hcaps => whnf)
    | (refine BB.mk (fun _h => ?_) (fun _h => ?_) <;> (first | (exact absurd _h (by decide)) | (exfalso; simp only [boolSet, hlm] at _h <;> omega) | (exfalso; simp at _h; done) | (simp only [boolSet, hlm] at _h) | skip))
    | (refine And.intro (by omega) ?_)
    | (refine BB.mk (fun _h => ?_) (fun _h => ?_) <;> (first | (exact absurd _h (by decide)) | (exfalso; simp only [boolSet] at _h <;> omega) | skip)))
  all_goals (try conv => whnf)
  refine loop_ruleP (α := Nat × Nat) (fun p => p.1 ≤ (l.drop a0).length ∧ p.1 ≤ p.2) (fun p => { slots := [(2, .p (.n 0) 0 0 0), (4, .p (.n 1) 0 0 0), (5, .p (.n 2) 0 0 0), (6, .v (.int .i64 ((a0 + p.1 : Nat) : Int)))], nt := 32, mem := ⟨GG, [], [.box 24 [.v (.int .i64 room), .z 17 (l.map msC) c, .v (.int .i64 lost)], .box 24 [.v (.int .i64 0), .v (.slice none 0 0), .v (.int .i64 0)], .box 24 [.v (.int .i64 room), .s (.n 3) 17 0 p.1 p.2, .v (.int .i64 lost)], .row 39 17 p.2 (((l.drop a0).take p.1).map msC)]⟩ }) (fun p => (l.drop a0).length - p.1) (0, 0) ⟨Nat.zero_le _, Nat.zero_le _⟩ ?hs ?_ (fun _ => rfl)
  case hs =>
    refine Pass.trans (pass_box 2 1 rfl rfl (FrzV.weak (weak_nilS (.n 3) 17 0)) rfl rfl) ?_
    exact Ref.pass ⟨⟨[0, 1, 2, 3], by decide, GG_no, rfl, SubOld.refl _ rfl, ⟨rfl, rfl, rfl, .inl (.inl ⟨rfl, rfl⟩), trivial⟩, ⟨.inl rfl, .inl rfl, .inl rfl, .inl rfl, trivial⟩⟩, rfl⟩
  rintro ⟨k, cc⟩ ⟨hk, hcc⟩
  dsimp only at hk hcc ⊢
  refine vc_sound (C := seat) seat_ok (pl := [(5, (.of [(0, .take), (1, .take), (2, .take), (3, .take), (4, .take), (5, .take), (6, .take), (7, .do_), (8, .do_), (9, .last), (10, .last), (11, .last)]))]) ?_
  by_cases hlt : k < (l.drop a0).length
  · obtain ⟨y, hy⟩ : ∃ y, (l.drop a0)[k]? = some y := ⟨_, List.getElem?_eq_getElem hlt⟩
    have hy1 : l[a0 + k]? = some y := by rw [List.getElem?_drop] at hy; exact hy
    have hrow := ms_z hy1
    have hmy := hm y (List.mem_of_getElem? hy1)
    have htk : (((l.drop a0).take k).map msC).length = k := by rw [List.length_map, List.length_take]; omega
    repeat' ((try conv => whnf); first
      | (with_reducible refine OKv.go (C := seat) seat_ok ?_)
      | (with_reducible refine BB_true ?_)
      | (with_reducible refine BB_false ?_)
      | (with_reducible refine Both.mk ?_ ?_)
      | (with_reducible refine VS.mk ?_)
      | (refine PSem.go (C := seat) seat_ok ?_)
      | (refine And.intro (PlanOK.mk (by kernel_rfl) rfl (by kernel_rfl) (by kernel_rfl)) ?_)
      | (refine And.intro rfl (Exists.intro _ (And.intro (by first | assumption | rfl) ?_)))
      | (refine And.intro ⟨rfl, rfl, rfl⟩ ?_)
      | (refine call_ro [] (message_r y _ _ _ _ _ _ hmy) GG_no rfl rfl rfl trivial ?_; rintro r bs' ext ⟨⟨e1, e2, e3, e4, e5, e6, rfl⟩, rfl⟩)
      | (refine And.intro ⟨by omega, by simp only [List.length_map]; omega⟩ (Exists.intro _ (And.intro (by first | assumption | rfl) ?_)))
      | (refine And.intro ⟨rfl, rfl, rfl, by first | omega | rfl⟩ ?_)
      | (refine And.intro ⟨rfl, by first | omega | rfl | (simp only [chunks_len] <;> omega)⟩ ?_)
      | (refine And.intro (by first | exact ⟨rfl, Nat.le_refl _⟩ | omega | rfl | (dsimp only; omega)) ?_)
      | (refine fun (caps : Nat → Nat) hcaps => ?_; conv at hcaps => whnf)
      | (refine fun (cap' : Nat) hcap' => ?_)
      | (refine BB.mk (fun _h => ?_) (fun _h => ?_) <;> (first | (exact absurd _h (by decide)) | (exfalso; simp only [boolSet, hlm] at _h <;> omega) | (exfalso; simp at _h; done) | (simp only [boolSet, hlm] at _h) | skip))
      | (refine And.intro (by omega) ?_)
      | (refine BB.mk (fun _h => ?_) (fun _h => ?_) <;> (first | (exact absurd _h (by decide)) | (exfalso; simp only [boolSet] at _h <;> omega) | skip)))
    all_goals (try conv => whnf)
    all_goals first
      | (refine ⟨(k + 1, cap'), ⟨by dsimp only; omega, by dsimp only; omega⟩, by dsimp only; omega, Ref.pass ⟨⟨[0, 1, 2, 5], by decide, GG_no, rfl, SubOld.refl _ rfl, ⟨rfl, rfl, rfl, .inr (.inl ?_), trivial⟩, ⟨.inl rfl, .inl rfl, .inl rfl, .inl (num_eq (by rw [IntKind.wrap_i64]; dsimp only; omega)), trivial⟩⟩, rfl⟩⟩
         dsimp only
         rw [map_take_in hy]
         rfl)
      | trace_state
  · have hs : (l.drop a0).take k = (l.drop a0) := List.take_of_length_le (by omega)
    obtain rfl : k = (l.drop a0).length := by omega
    repeat' ((try conv => whnf); first
      | (with_reducible refine OKv.go (C := seat) seat_ok ?_)
      | (with_reducible refine BB_true ?_)
      | (with_reducible refine BB_false ?_)
      | (with_reducible refine Both.mk ?_ ?_)
      | (with_reducible refine VS.mk ?_)
      | (refine PSem.go (C := seat) seat_ok ?_)
      | (refine And.intro (PlanOK.mk (by kernel_rfl) rfl (by kernel_rfl) (by kernel_rfl)) ?_)
      | (refine And.intro rfl (Exists.intro _ (And.intro (by first | assumption | rfl) ?_)))
      | (refine And.intro ⟨rfl, rfl, rfl⟩ ?_)
      | (refine fun (caps : Nat → Nat) hcaps => ?_; conv at hcaps => whnf)
      | (refine BB.mk (fun _h => ?_) (fun _h => ?_) <;> (first | (exact absurd _h (by decide)) | (exfalso; simp only [boolSet, hlm] at _h <;> omega) | (exfalso; simp at _h; done) | (simp only [boolSet, hlm] at _h) | skip))
      | (refine And.intro (by omega) ?_)
      | (refine BB.mk (fun _h => ?_) (fun _h => ?_) <;> (first | (exact absurd _h (by decide)) | (exfalso; simp only [boolSet] at _h <;> omega) | skip)))
    all_goals (try conv => whnf)
    rw [hs]
    exact ⟨⟨[3], .agg [.v (.int .i64 room), .s (.n 0) 17 0 (l.drop a0).length cc, .v (.int .i64 lost)], [.row 39 17 cc ((l.drop a0).map msC)], by decide, .inl (.inl rfl), ⟨.inr (.inl rfl), trivial⟩, cc, hcc, rfl, rfl⟩, rfl⟩
set_option maxRecDepth 100000 in
set_option maxHeartbeats 4000000 in
theorem rput_no (room lost : Int) (l : List Ms) (c : Nat) (m : Ms) (c1 c2 c3 c4 c5 c6 : Nat) (hl : l.length ≤ 1000) (hm : ∀ y ∈ l, MsOk y) (h : room ≤ l.length) : FnOK Try.prog GG 13 [] [.agg [.v (.int .i64 room), .z 17 (l.map msC) c, .v (.int .i64 lost)], msS m c1 c2 c3 c4 c5 c6] (fun r _ ext => (∃ c', r = .agg [.v (.int .i64 room), .z 17 (l.map msC) c', .v (.int .i64 (IntKind.i64.wrap (lost + 1)))]) ∧ ext = []) := by
  have hlm : (l.map msC).length = l.length := List.length_map _
  refine FnOK.pure GG_no rfl (fn_intro (C := seat) seat_ok [(3, (.of [(0, .take), (1, .take), (2, .take), (3, .do_), (4, .do_), (5, .last), (6, .last), (7, .last)]))] GG_no (Try.func13) rfl rfl rfl rfl rfl ?_)
  repeat' ((try conv => whnf); first
    | (with_reducible refine OKv.go (C := seat) seat_ok ?_)
    | (with_reducible refine BB_true ?_)
    | (with_reducible refine BB_false ?_)
    | (with_reducible refine Both.mk ?_ ?_)
    | (with_reducible refine VS.mk ?_)
    | (refine PSem.go (C := seat) seat_ok ?_)
    | (refine And.intro (PlanOK.mk (by kernel_rfl) rfl (by kernel_rfl) (by kernel_rfl)) ?_)
    | (refine And.intro rfl (Exists.intro _ (And.intro (by first | assumption | rfl) ?_)))
    | (refine And.intro ⟨rfl, rfl, rfl⟩ ?_)
    | (refine call_ro [] (from_own room lost l _ 0 (by omega) (by omega) hm) GG_no rfl rfl rfl trivial ?_; rintro r bs' ext ⟨c7, hc7, rfl, rfl⟩)
    | (refine fun (caps : Nat → Nat) hcaps => ?_; conv at hcaps => whnf)
    | (refine BB.mk (fun _h => ?_) (fun _h => ?_) <;> (first | (exact absurd _h (by decide)) | (exfalso; simp only [boolSet, hlm] at _h <;> omega) | (simp only [boolSet, hlm] at _h) | skip))
    | (refine And.intro (by omega) ?_)
    | (refine BB.mk (fun _h => ?_) (fun _h => ?_) <;> (first | (exact absurd _h (by decide)) | (exfalso; simp only [boolSet] at _h <;> omega) | skip)))
  all_goals (try conv => whnf)
  all_goals first
    | exact ⟨_, _, (frz_aggT 1 (by rfl) (frz_rowF (els' := l.map msC) (by rfl) (by rw [List.length_map]; rfl) (by rfl)) (by rfl)), rfl, rfl, fun _ => rfl, _, rfl⟩
    | trace_state
set_option maxRecDepth 100000 in
set_option maxHeartbeats 4000000 in
theorem rput_yes (room lost : Int) (l : List Ms) (c : Nat) (m : Ms) (c1 c2 c3 c4 c5 c6 : Nat) (hl : l.length ≤ 1000) (hm : ∀ y ∈ l, MsOk y) (hmm : MsOk m) (h : l.length < room) : FnOK Try.prog GG 13 [] [.agg [.v (.int .i64 room), .z 17 (l.map msC) c, .v (.int .i64 lost)], msS m c1 c2 c3 c4 c5 c6] (fun r _ ext => (∃ c', r = .agg [.v (.int .i64 room), .z 17 ((l ++ [m]).map msC) c', .v (.int .i64 lost)]) ∧ ext = []) := by
  have hlm : (l.map msC).length = l.length := List.length_map _
  have hd0 : (l.drop 0).length = l.length := rfl
  have hd1 : ((l.drop 0).map msC).length = l.length := hlm
  refine FnOK.pure GG_no rfl (fn_intro (C := seat) seat_ok [(3, (.of [(0, .take), (1, .take), (2, .take), (3, .do_), (4, .do_), (5, .last), (6, .last), (7, .last)]))] GG_no (Try.func13) rfl rfl rfl rfl rfl ?_)
  repeat' ((try conv => whnf); first
    | (with_reducible refine OKv.go (C := seat) seat_ok ?_)
    | (with_reducible refine BB_true ?_)
    | (with_reducible refine BB_false ?_)
    | (with_reducible refine Both.mk ?_ ?_)
    | (with_reducible refine VS.mk ?_)
    | (refine PSem.go (C := seat) seat_ok ?_)
    | (refine And.intro (PlanOK.mk (by kernel_rfl) rfl (by kernel_rfl) (by kernel_rfl)) ?_)
    | (refine And.intro rfl (Exists.intro _ (And.intro (by first | assumption | rfl) ?_)))
    | (refine And.intro ⟨rfl, rfl, rfl⟩ ?_)
    | (refine call_ro [] (from_own room lost l _ 0 (by omega) (by omega) hm) GG_no rfl rfl rfl trivial ?_; rintro r bs' ext ⟨c7, hc7, rfl, rfl⟩)
    | (refine call_ro [] (message_r m _ _ _ _ _ _ hmm) GG_no rfl rfl rfl trivial ?_; rintro r bs' ext ⟨⟨e1, e2, e3, e4, e5, e6, rfl⟩, rfl⟩)
    | (refine And.intro ⟨rfl, rfl, rfl, by first | omega | rfl⟩ ?_)
    | (refine And.intro ⟨rfl, by first | omega | rfl | (simp only [chunks_len] <;> omega)⟩ ?_)
    | (refine And.intro (by first | exact ⟨rfl, Nat.le_refl _⟩ | omega | rfl | (dsimp only; omega)) ?_)
    | (refine fun (caps : Nat → Nat) hcaps => ?_; conv at hcaps => whnf)
    | (refine fun (cap' : Nat) hcap' => ?_)
    | (refine BB.mk (fun _h => ?_) (fun _h => ?_) <;> (first | (exact absurd _h (by decide)) | (exfalso; simp only [boolSet, hlm] at _h <;> omega) | (simp only [boolSet, hlm] at _h) | skip))
    | (refine And.intro (by omega) ?_)
    | (refine BB.mk (fun _h => ?_) (fun _h => ?_) <;> (first | (exact absurd _h (by decide)) | (exfalso; simp only [boolSet] at _h <;> omega) | skip)))
  all_goals (try conv => whnf)
  all_goals first
    | exact ⟨_, _, (frz_aggT 1 (by rfl) (frz_rowF (els' := (l ++ [m]).map msC) (by rfl) (by simp) (by rw [List.map_append]; rfl)) (by rfl)), rfl, rfl, fun _ => rfl, _, rfl⟩
    | trace_state
end Go.Proofs.Ytkcdomafdjpbjaa
