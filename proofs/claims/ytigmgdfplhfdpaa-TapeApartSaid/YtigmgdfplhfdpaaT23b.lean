/- Package tape: the iterator. -/
import Derived.Test.YtigmgdfplhfdpaaT23
namespace Go.Proofs.Ytigmgdfplhfdpaa
open Go.RowKit

set_option maxRecDepth 100000 in
set_option maxHeartbeats 4000000 in
theorem numbers_z (l : List Int) (c : Nat) (at_ : Int) : FnOK Try.prog GG 16 [] [tpS l c at_] (fun r _ ext => r = .fn 21 [.p (.n 0) 0 0 0] ∧ ext = [.box 24 [.z 1 (l.map nuC) c, .v (.int .i64 at_)]]) := by
  refine fn_new (C := seat) seat_ok [] GG_no (Try.func16) rfl rfl rfl rfl rfl rfl ?_
  repeat' ((try conv => whnf); first
    | (with_reducible refine OKv.go (C := seat) seat_ok ?_)
    | (with_reducible refine BB_true ?_)
    | (with_reducible refine BB_false ?_)
    | (with_reducible refine Both.mk ?_ ?_)
    | (with_reducible refine VS.mk ?_)
    | (refine PSem.go (C := seat) seat_ok ?_)
    | (refine And.intro (PlanOK.mk (by kernel_rfl) rfl (by kernel_rfl) (by kernel_rfl)) ?_)
    | (refine And.intro rfl (Exists.intro _ (And.intro (by first | assumption | rfl) ?_)))
    | (refine And.intro ⟨rfl, rfl, rfl⟩ ?_)
    | (refine And.intro (by omega) ?_)
    | (refine BB.mk (fun _h => ?_) (fun _h => ?_) <;> (first | (exact absurd _h (by decide)) | (exfalso; simp only [boolSet] at _h <;> omega) | skip)))
  all_goals (try conv => whnf)
  all_goals exact ⟨⟨[0], .fn 21 [.p (.n 0) 0 0 0], [.box 24 [.z 1 (l.map nuC) c, .v (.int .i64 at_)]], by decide, rfl, ⟨rfl, trivial⟩, rfl, rfl⟩, rfl⟩
set_option maxRecDepth 100000 in
set_option maxHeartbeats 4000000 in
theorem iter_z (l : List Int) (c : Nat) (at_ : Int) (N : Nat) (hl : l.length ≤ 1099511627776) : IterO Try.prog 21 [.cst 24 [.z 1 (l.map nuC) c, .v (.int .i64 at_)]] (capsO 1) true N (fun k => [.v (.int .u32 (numK l (plI l at_) k)), .v (.int .i64 (posK l (plI l at_) (k + 1)))]) := by
  have hml : (l.map nuC).length = l.length := List.length_map _
  refine iter_intro (C := seat) (caps := capsO 1) seat_ok [] (by decide) (Try.func21) rfl rfl rfl rfl rfl ?_
  intro y
  repeat' ((try conv => whnf); first
    | (refine PureCall.of (place_z l c at_) ?_)
    | (refine BB.mk (fun _h => ?_) (fun _h => ?_)))
  refine loop_ruleN rfl (fun k => { slots := [(0, .v (.func (.yield y) #[] #[])), (1, .p (.o 0) 0 0 0), (3, .v (.int .i64 (posK l (plI l at_) k)))], nt := 27, mem := ⟨[], [], []⟩ }) ⟨0, rfl, Nat.zero_le _, ⟨rfl, rfl, num_eq (by rw [posK_zero (plI_lt l at_)]), trivial⟩⟩ (fun _ => rfl) ?_
  intro k hlt
  refine OKi.go (C := seat) seat_ok [] (by decide) ?_
  have hsucc := posK_succ l (plI l at_) k
  by_cases h0 : l.length = 0
  · have hn0 := numK_nil h0 (plI l at_) k
    have hp0 := posK_nil h0 (plI l at_) k
    rw [if_pos h0] at hsucc
    repeat' ((try conv => whnf); first
      | (with_reducible refine BB_true ?_)
      | (with_reducible refine BB_false ?_)
      | (refine And.intro ⟨hlt, rfl, enc_eq hn0.symm (by rw [hp0, hsucc])⟩ (Both.mk ?_ ?_))
      | (refine BB.mk (fun _h => ?_) (fun _h => ?_) <;> (first | (exact absurd _h (by decide)) | (exfalso; simp only [boolSet, hml] at _h <;> omega) | (simp only [boolSet, hml] at _h) | skip)))
    all_goals (try conv => whnf)
    all_goals first
      | exact ⟨rfl, rfl, rfl, num_eq (by rw [hp0, hsucc]), trivial⟩
      | exact .inr rfl
  · have hn0 := numK_pos h0 (plI l at_) k
    have hplt := posK_lt h0 (plI l at_) k
    rw [if_neg h0] at hsucc
    have hrow := atN hplt
    have hmod : (IntKind.i64.wrap (((posK l (plI l at_) k : Nat) : Int) + 1)).tmod ((l.map nuC).length : Int) = ((posK l (plI l at_) (k + 1) : Nat) : Int) := by
      rw [hml, hsucc]
      have e1 : IntKind.i64.wrap (((posK l (plI l at_) k : Nat) : Int) + 1) = ((posK l (plI l at_) k + 1 : Nat) : Int) := by rw [IntKind.wrap_i64]; omega
      rw [e1]; rfl
    repeat' ((try conv => whnf); first
      | (with_reducible refine BB_true ?_)
      | (with_reducible refine BB_false ?_)
      | (refine And.intro ⟨hlt, rfl, enc_eq hn0.symm hmod⟩ (Both.mk ?_ ?_))
      | (refine And.intro ⟨by omega, by rw [hml]; omega⟩ (Exists.intro _ (And.intro (by first | assumption | rfl) ?_)))
      | (refine And.intro (by rw [hml]; omega) ?_)
      | (refine BB.mk (fun _h => ?_) (fun _h => ?_) <;> (first | (exact absurd _h (by decide)) | (exfalso; simp only [boolSet, hml] at _h <;> omega) | (simp only [boolSet, hml] at _h) | skip)))
    all_goals (try conv => whnf)
    all_goals first
      | exact ⟨rfl, rfl, rfl, num_eq hmod, trivial⟩
      | exact .inr rfl
end Go.Proofs.Ytigmgdfplhfdpaa
