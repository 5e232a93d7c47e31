/- Package push, by computing: one hop less; rows of bytes that are the same, copied. -/
import Derived.Test.YthbgcdnjmdgkoaaTy16
import Derived.Test.YthbgcdnjmdgkoaaSymW
namespace Go.Proofs.Ythbgcdnjmdgkoaa
open Go.RowKit

abbrev GG : List (Nat × SB) := []
theorem GG_no : noOwn GG := noOwn_nil
def bC (x : Int) : List Value := [.int .u8 x]
def uC (x : Int) : List Value := [.int .u32 x]
theorem u8_inj {x y : Int} (hx : 0 ≤ x ∧ x ≤ 255) (hy : 0 ≤ y ∧ y ≤ 255) (h : UInt8.ofNat x.toNat = UInt8.ofNat y.toNat) : x = y := by
  have := congrArg UInt8.toNat h
  simp only [UInt8.toNat_ofNat'] at this
  omega
theorem map_inj : ∀ {a b : List Int}, (∀ x ∈ a, 0 ≤ x ∧ x ≤ 255) → (∀ x ∈ b, 0 ≤ x ∧ x ≤ 255) → a.map (fun n => UInt8.ofNat n.toNat) = b.map (fun n => UInt8.ofNat n.toNat) → a = b
  | [], [], _, _, _ => rfl
  | [], _ :: _, _, _, h => by simp at h
  | _ :: _, [], _, _, h => by simp at h
  | x :: a, y :: b, ha, hb, h => by
    simp only [List.map_cons, List.cons.injEq] at h
    rw [u8_inj (ha x (by simp)) (hb y (by simp)) h.1, map_inj (fun z hz => ha z (by simp [hz])) (fun z hz => hb z (by simp [hz])) h.2]
theorem str_eq {a b : List Int} (ha : ∀ x ∈ a, 0 ≤ x ∧ x ≤ 255) (hb : ∀ x ∈ b, 0 ≤ x ∧ x ≤ 255) : ((strOfNums a).toList == (strOfNums b).toList) = decide (a = b) := by
  rw [Bool.eq_iff_iff, beq_iff_eq, decide_eq_true_eq, ByteArray.toList_eq, ByteArray.toList_eq, strOfNums_data, strOfNums_data]
  exact ⟨map_inj ha hb, fun h => by rw [h]⟩
theorem bytes_of (l more : List Int) : (((l ++ more).map bC).drop 0).take l.length = l.map (fun n => [Value.int .u8 n]) := by
  rw [List.drop_zero, ← List.map_take, List.take_left]
  rfl
set_option maxRecDepth 100000 in
set_option maxHeartbeats 4000000 in
theorem less_no_p  : FnOK Try.prog GG 9 [] [.v (.int .u8 0)] (fun r _ ext => r = .tup [.v (.int .u8 0), .v (.bool false)] ∧ ext = []) := by
  refine fn_val (C := seat) seat_ok [] GG_no (Try.func9) rfl rfl rfl rfl rfl (fun _ => rfl) rfl ?_
  repeat' ((try conv => whnf); first
    | (with_reducible refine BB_true ?_)
    | (with_reducible refine BB_false ?_)
    | (with_reducible refine Both.mk ?_ ?_)
    | (with_reducible refine VS.mk ?_)
    | (refine PSem.go (C := seat) seat_ok ?_)
    | (refine And.intro (PlanOK.mk (by kernel_rfl) rfl (by kernel_rfl) (by kernel_rfl)) ?_)
    | (refine And.intro rfl (Exists.intro _ (And.intro (by first | assumption | rfl) ?_)))
    | (refine And.intro ⟨rfl, rfl, rfl⟩ ?_)
    | (refine And.intro (by omega) ?_)
    | (refine BB.mk (fun _h => ?_) (fun _h => ?_) <;> (first | (exact absurd _h (by decide)) | (exfalso; simp only [boolSet] at _h <;> omega) | skip)))
  all_goals (try conv => whnf)
  all_goals (try (refine Fin.mk ?_))
  all_goals (exact ⟨rfl, rfl⟩)
set_option maxRecDepth 100000 in
set_option maxHeartbeats 4000000 in
theorem less_yes_p (x : Int) (h0 : 0 < x) (h : x ≤ 255) : FnOK Try.prog GG 9 [] [.v (.int .u8 x)] (fun r _ ext => r = .tup [.v (.int .u8 (x - 1)), .v (.bool true)] ∧ ext = []) := by
  refine fn_val (C := seat) seat_ok [] GG_no (Try.func9) rfl rfl rfl rfl rfl (fun _ => rfl) rfl ?_
  repeat' ((try conv => whnf); first
    | (with_reducible refine BB_true ?_)
    | (with_reducible refine BB_false ?_)
    | (with_reducible refine Both.mk ?_ ?_)
    | (with_reducible refine VS.mk ?_)
    | (refine PSem.go (C := seat) seat_ok ?_)
    | (refine And.intro (PlanOK.mk (by kernel_rfl) rfl (by kernel_rfl) (by kernel_rfl)) ?_)
    | (refine And.intro rfl (Exists.intro _ (And.intro (by first | assumption | rfl) ?_)))
    | (refine And.intro ⟨rfl, rfl, rfl⟩ ?_)
    | (refine And.intro (by omega) ?_)
    | (refine BB.mk (fun _h => ?_) (fun _h => ?_) <;> (first | (exact absurd _h (by decide)) | (exfalso; simp only [boolSet] at _h <;> omega) | skip)))
  all_goals (try conv => whnf)
  all_goals (try (refine Fin.mk ?_))
  all_goals
    have e : IntKind.u8.wrap (x - 1) = x - 1 := by rw [IntKind.wrap_u8]; omega
    refine ⟨?_, rfl⟩
    show SV.tup [.v (.int .u8 (IntKind.u8.wrap (x - 1))), _] = _
    rw [e]
set_option maxRecDepth 100000 in
set_option maxHeartbeats 4000000 in
theorem less_no_r  : FnOK Try.prog GG 10 [] [.v (.int .u8 0)] (fun r _ ext => r = .tup [.v (.int .u8 0), .v (.bool false)] ∧ ext = []) := by
  refine fn_val (C := seat) seat_ok [] GG_no (Try.func10) rfl rfl rfl rfl rfl (fun _ => rfl) rfl ?_
  repeat' ((try conv => whnf); first
    | (with_reducible refine BB_true ?_)
    | (with_reducible refine BB_false ?_)
    | (with_reducible refine Both.mk ?_ ?_)
    | (with_reducible refine VS.mk ?_)
    | (refine PSem.go (C := seat) seat_ok ?_)
    | (refine And.intro (PlanOK.mk (by kernel_rfl) rfl (by kernel_rfl) (by kernel_rfl)) ?_)
    | (refine And.intro rfl (Exists.intro _ (And.intro (by first | assumption | rfl) ?_)))
    | (refine And.intro ⟨rfl, rfl, rfl⟩ ?_)
    | (refine And.intro (by omega) ?_)
    | (refine BB.mk (fun _h => ?_) (fun _h => ?_) <;> (first | (exact absurd _h (by decide)) | (exfalso; simp only [boolSet] at _h <;> omega) | skip)))
  all_goals (try conv => whnf)
  all_goals (try (refine Fin.mk ?_))
  all_goals (exact ⟨rfl, rfl⟩)
set_option maxRecDepth 100000 in
set_option maxHeartbeats 4000000 in
theorem less_yes_r (x : Int) (h0 : 0 < x) (h : x ≤ 255) : FnOK Try.prog GG 10 [] [.v (.int .u8 x)] (fun r _ ext => r = .tup [.v (.int .u8 (x - 1)), .v (.bool true)] ∧ ext = []) := by
  refine fn_val (C := seat) seat_ok [] GG_no (Try.func10) rfl rfl rfl rfl rfl (fun _ => rfl) rfl ?_
  repeat' ((try conv => whnf); first
    | (with_reducible refine BB_true ?_)
    | (with_reducible refine BB_false ?_)
    | (with_reducible refine Both.mk ?_ ?_)
    | (with_reducible refine VS.mk ?_)
    | (refine PSem.go (C := seat) seat_ok ?_)
    | (refine And.intro (PlanOK.mk (by kernel_rfl) rfl (by kernel_rfl) (by kernel_rfl)) ?_)
    | (refine And.intro rfl (Exists.intro _ (And.intro (by first | assumption | rfl) ?_)))
    | (refine And.intro ⟨rfl, rfl, rfl⟩ ?_)
    | (refine And.intro (by omega) ?_)
    | (refine BB.mk (fun _h => ?_) (fun _h => ?_) <;> (first | (exact absurd _h (by decide)) | (exfalso; simp only [boolSet] at _h <;> omega) | skip)))
  all_goals (try conv => whnf)
  all_goals (try (refine Fin.mk ?_))
  all_goals
    have e : IntKind.u8.wrap (x - 1) = x - 1 := by rw [IntKind.wrap_u8]; omega
    refine ⟨?_, rfl⟩
    show SV.tup [.v (.int .u8 (IntKind.u8.wrap (x - 1))), _] = _
    rw [e]
set_option maxRecDepth 100000 in
set_option maxHeartbeats 4000000 in
theorem same_ok (l m r m' : List Int) (c1 c2 : Nat) (hl : ∀ x ∈ l, 0 ≤ x ∧ x ≤ 255) (hr : ∀ x ∈ r, 0 ≤ x ∧ x ≤ 255) : FnOK Try.prog GG 11 [.ro 1 ((l ++ m).map bC), .ro 1 ((r ++ m').map bC)] [.s (.o 0) 1 0 l.length c1, .s (.o 1) 1 0 r.length c2] (fun rr _ ext => rr = .v (.bool (decide (l = r))) ∧ ext = []) := by
  have hs := str_eq hl hr
  refine fn_val (C := seat) seat_ok [] GG_no (Try.func11) rfl rfl rfl rfl rfl (fun _ => rfl) rfl ?_
  repeat' ((try conv => whnf); first
    | (with_reducible refine BB_true ?_)
    | (with_reducible refine BB_false ?_)
    | (with_reducible refine Both.mk ?_ ?_)
    | (with_reducible refine VS.mk ?_)
    | (refine PSem.go (C := seat) seat_ok ?_)
    | (refine And.intro (PlanOK.mk (by kernel_rfl) rfl (by kernel_rfl) (by kernel_rfl)) ?_)
    | (refine And.intro rfl (Exists.intro _ (And.intro (by first | assumption | rfl) ?_)))
    | (refine And.intro ⟨rfl, rfl, rfl⟩ ?_)
    | (refine And.intro ⟨rfl, by rw [List.length_map, List.length_append]; omega⟩ ?_)
    | (refine Exists.intro l (And.intro (bytes_of l m) ?_))
    | (refine Exists.intro r (And.intro (bytes_of r m') ?_))
    | (refine And.intro (by omega) ?_)
    | (refine BB.mk (fun _h => ?_) (fun _h => ?_) <;> (first | (exact absurd _h (by decide)) | (exfalso; simp only [boolSet] at _h <;> omega) | skip)))
  all_goals (try conv => whnf)
  all_goals exact fin_bool hs rfl
set_option maxRecDepth 100000 in
set_option maxHeartbeats 4000000 in
theorem clone_ok (l : List Int) (cap : Nat) (hc : l.length ≤ cap) (hl : l.length ≤ 1099511627776) : FnOK Try.prog GG 16 [.ro 1 (l.map bC)] [.s (.o 0) 1 0 l.length cap] (fun r _ ext => ∃ cap', l.length ≤ cap' ∧ r = .s (.n 0) 1 0 l.length cap' ∧ ext = [.row 5 1 cap' (l.map bC)]) := by
  refine fn_newR (C := seat) seat_ok [] GG_no (Try.func16) rfl rfl rfl rfl rfl rfl ?_
  repeat' ((try conv => whnf); first
    | (with_reducible refine BB_true ?_)
    | (with_reducible refine BB_false ?_)
    | (with_reducible refine Both.mk ?_ ?_)
    | (with_reducible refine VS.mk ?_)
    | (refine PSem.go (C := seat) seat_ok ?_)
    | (refine And.intro (PlanOK.mk (by kernel_rfl) rfl (by kernel_rfl) (by kernel_rfl)) ?_)
    | (refine And.intro rfl (Exists.intro _ (And.intro (by first | assumption | rfl) ?_)))
    | (refine And.intro ⟨rfl, rfl, rfl⟩ ?_)
    | (refine fun (b : Bool) hb => ?_)
    | (refine And.intro ⟨rfl, rfl, rfl, rfl⟩ ?_)
    | (refine And.intro ⟨rfl, by rw [List.length_map]; omega⟩ ?_)
    | (refine And.intro (by first | omega | (dsimp only; omega)) ?_)
    | (intro cap' hcap')
    | (refine And.intro (by omega) ?_)
    | (refine BB.mk (fun _h => ?_) (fun _h => ?_) <;> (first | (exact absurd _h (by decide)) | (exfalso; simp only [boolSet] at _h <;> omega) | skip)))
  all_goals (try conv => whnf)
  · have h0 : cap = 0 := by
      by_cases h : cap = 0
      · exact h
      · rw [hb h] at _h; cases _h
    have hl0 : l = [] := List.eq_nil_of_length_eq_zero (by omega)
    subst hl0
    exact ⟨⟨[0], .s (.n 0) 1 0 0 0, [.row 5 1 0 []], by decide, .inl (.inr ⟨_, _, _, rfl, rfl⟩), ⟨.inl (.inl ⟨rfl, rfl⟩), trivial⟩, 0, Nat.le_refl _, rfl, rfl⟩, rfl⟩
  · refine ⟨⟨[1], .s (.n 0) 1 0 (0 + l.length) cap', [.row 5 1 cap' (l.map bC)], by decide, .inl (.inl rfl), ⟨.inr ?_, trivial⟩, cap', by omega, by rw [Nat.zero_add], rfl⟩, rfl⟩
    show some (SB.row 5 1 cap' ([] ++ ((l.map bC).drop 0).take l.length)) = _
    rw [List.nil_append, List.drop_zero, List.take_of_length_le (by rw [List.length_map]; omega)]
end Go.Proofs.Ythbgcdnjmdgkoaa
