/- References of tape: Some. -/
import Derived.Test.YtigmgdfplhfdpaaT23g
namespace Go.Proofs.Ytigmgdfplhfdpaa
open Go.RowKit

set_option maxRecDepth 100000 in
set_option maxHeartbeats 4000000 in
theorem rsome_z (l : List Int) (c : Nat) (at_ : Int) (hl : l.length ≤ 1099511627776) (hc : l.length ≤ c) (m : Int) (hm : m ≤ 9223372036854775807) : FnOK Try.prog GG 12 [] [tpS l c at_, .v (.int .i64 m)] (fun r _ ext => (∃ c1 c2, (l.length ≤ c1 ∧ cntN m ≤ c2) ∧ r = .tup [.z 1 ((someK l (plI l at_) (cntN m)).map nuC) c2, tpS l c1 (posK l (plI l at_) (cntN m))]) ∧ ext = []) := by
  have hp0 := posK_zero (plI_lt l at_)
  have hcn : cntN m ≤ 1000 := by unfold cntN; omega
  refine FnOK.pure GG_no rfl (fn_intro (C := seat) seat_ok [(9, (.of [(0, .take), (1, .take), (2, .take), (3, .last)]))] GG_no (Try.func12) rfl rfl rfl rfl rfl ?_)
  repeat' ((try conv => whnf); first
    | (with_reducible refine OKv.go (C := seat) seat_ok ?_)
    | (with_reducible refine BB_true ?_)
    | (with_reducible refine BB_false ?_)
    | (with_reducible refine Both.mk ?_ ?_)
    | (with_reducible refine VS.mk ?_)
    | (refine PSem.go (C := seat) seat_ok ?_)
    | (refine And.intro (PlanOK.mk (by kernel_rfl) rfl (by kernel_rfl) (by kernel_rfl)) ?_)
    | (refine And.intro rfl (Exists.intro _ (And.intro (by first | assumption | rfl) ?_)))
    | (refine And.intro ⟨rfl, rfl, rfl⟩ ?_)
    | (refine call_ro [] (rplaced_z l c at_ hl hc) GG_no rfl rfl rfl trivial ?_; rintro r bs' ext ⟨⟨c1, hc1, rfl⟩, rfl⟩)
    | (refine And.intro (by omega) ?_)
    | (refine BB.mk (fun _h => ?_) (fun _h => ?_) <;> (first | (exact absurd _h (by decide)) | (exfalso; simp only [boolSet] at _h <;> omega) | skip)))
  all_goals (try conv => whnf)
  refine loop_rule (α := Nat × Nat) (fun p => p.1 ≤ cntN m ∧ p.1 ≤ p.2) (fun p => { slots := [(1, .v (.int .i64 m)), (2, .p (.n 0) 0 0 0), (5, .p (.n 1) 0 0 0), (6, .s (.n 2) 1 0 p.1 p.2), (7, .v (.int .i64 (p.1 : Int)))], nt := 33, mem := ⟨GG, [], [.box 24 [.z 1 (l.map nuC) c1, .v (.int .i64 (posK l (plI l at_) p.1))], .box 24 [.v (.slice none 0 0), .v (.int .i64 0)], .row 34 1 p.2 ((someK l (plI l at_) p.1).map nuC)]⟩ }) (fun p => cntN m - p.1) (0, 0) ⟨Nat.zero_le _, Nat.zero_le _⟩ ⟨⟨[0, 1, 2], by decide, GG_no, rfl, SubOld.refl _ rfl, ⟨?e1, rfl, .inl (.inl ⟨rfl, rfl⟩), trivial⟩, ⟨.inl rfl, .inl rfl, .inl rfl, .inr (.inl ⟨_, _, _, rfl, rfl⟩), .inl rfl, trivial⟩⟩, rfl⟩ ?_ (fun _ => rfl)
  case e1 =>
    dsimp only
    rw [hp0]
    rfl
  rintro ⟨k, cc⟩ ⟨hk, hcc⟩
  dsimp only at hk hcc ⊢
  refine vc_sound (C := seat) seat_ok (pl := [(9, (.of [(0, .take), (1, .take), (2, .take), (3, .last)]))]) ?_
  have hsl := someK_len l (plI l at_) k
  have hsm : ((someK l (plI l at_) k).map nuC).length = k := by rw [List.length_map, hsl]
  by_cases hlt : k < cntN m
  · have hkm : (k : Int) < m := by unfold cntN at hlt; omega
    repeat' ((try conv => whnf); first
      | (with_reducible refine OKv.go (C := seat) seat_ok ?_)
      | (with_reducible refine BB_true ?_)
      | (with_reducible refine BB_false ?_)
      | (with_reducible refine Both.mk ?_ ?_)
      | (with_reducible refine VS.mk ?_)
      | (refine PSem.go (C := seat) seat_ok ?_)
      | (refine And.intro (PlanOK.mk (by kernel_rfl) rfl (by kernel_rfl) (by kernel_rfl)) ?_)
      | (refine And.intro rfl (Exists.intro _ (And.intro (by first | assumption | rfl) ?_)))
      | (refine And.intro ⟨rfl, rfl, rfl⟩ ?_)
      | (refine call_ro [] (rnext_z l c1 (plI l at_) k _ hl rfl) GG_no rfl rfl rfl trivial ?_; rintro r bs' ext ⟨rfl, rfl⟩)
      | (refine BB.mk (fun _h => ?_) (fun _h => ?_) <;> (first | (exact absurd _h (by decide)) | (exfalso; simp only [boolSet] at _h <;> omega) | (simp only [boolSet] at _h) | skip))
      | (refine And.intro ⟨rfl, rfl, rfl, by first | (simp only [chunks_len, List.length_map, List.length_take, List.length_drop, List.length_append, List.length_cons, List.length_nil] <;> omega) | omega | rfl⟩ ?_)
      | (refine And.intro ⟨rfl, by first | (simp only [chunks_len, List.length_map, List.length_take, List.length_drop, List.length_append, List.length_cons, List.length_nil] <;> omega) | omega | rfl⟩ ?_)
      | (refine And.intro (by first | exact ⟨rfl, Nat.le_refl _⟩ | first | (simp only [chunks_len, List.length_map, List.length_take, List.length_drop, List.length_append, List.length_cons, List.length_nil] <;> omega) | omega | rfl) ?_)
      | (refine fun (caps : Nat → Nat) hcaps => ?_; conv at hcaps => whnf)
      | (refine fun (cap' : Nat) hcap' => ?_)
      | (refine And.intro (by omega) ?_)
      | (refine BB.mk (fun _h => ?_) (fun _h => ?_) <;> (first | (exact absurd _h (by decide)) | (exfalso; simp only [boolSet] at _h <;> omega) | skip)))
    all_goals (try conv => whnf)
    all_goals exact ⟨(k + 1, cap'), ⟨by dsimp only; omega, by dsimp only; omega⟩, by dsimp only; omega, ⟨⟨[0, 1, 5], by decide, GG_no, rfl, SubOld.refl _ rfl, ⟨rfl, rfl, .inr (.inl (by dsimp only; rw [someK_succ, List.map_append]; rfl)), trivial⟩, ⟨.inl rfl, .inl rfl, .inl rfl, .inl rfl, .inl (num_eq (by rw [IntKind.wrap_i64]; omega)), trivial⟩⟩, rfl⟩⟩
  · obtain rfl : k = cntN m := by omega
    have hnm : ¬ ((cntN m : Int) < m ∧ (cntN m : Int) < 1000) := by unfold cntN; omega
    repeat' ((try conv => whnf); first
      | (with_reducible refine OKv.go (C := seat) seat_ok ?_)
      | (with_reducible refine BB_true ?_)
      | (with_reducible refine BB_false ?_)
      | (with_reducible refine Both.mk ?_ ?_)
      | (with_reducible refine VS.mk ?_)
      | (refine PSem.go (C := seat) seat_ok ?_)
      | (refine And.intro (PlanOK.mk (by kernel_rfl) rfl (by kernel_rfl) (by kernel_rfl)) ?_)
      | (refine And.intro rfl (Exists.intro _ (And.intro (by first | assumption | rfl) ?_)))
      | (refine And.intro ⟨rfl, rfl, rfl⟩ ?_)
      | (refine BB.mk (fun _h => ?_) (fun _h => ?_) <;> (first | (exact absurd _h (by decide)) | (exfalso; simp only [boolSet] at _h <;> omega) | (simp only [boolSet] at _h) | skip))
      | (refine And.intro (by omega) ?_)
      | (refine BB.mk (fun _h => ?_) (fun _h => ?_) <;> (first | (exact absurd _h (by decide)) | (exfalso; simp only [boolSet] at _h <;> omega) | skip)))
    all_goals (try conv => whnf)
    all_goals exact ⟨_, _, frz_tup 0 (by rfl) (frz_rowF (els' := (someK l (plI l at_) (cntN m)).map nuC) (by rfl) (by rw [List.length_map, someK_len]) (by rfl)) (by rfl), rfl, rfl, fun _ => rfl, c1, cc, ⟨hc1, hcc⟩, rfl⟩
end Go.Proofs.Ytigmgdfplhfdpaa
