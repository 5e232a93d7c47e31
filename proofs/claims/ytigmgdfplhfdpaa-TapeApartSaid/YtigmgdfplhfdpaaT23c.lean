/- Package tape: Draw. -/
import Derived.Test.YtigmgdfplhfdpaaT23b
namespace Go.Proofs.Ytigmgdfplhfdpaa
open Go.RowKit

theorem tupD {l : List Int} {c : Nat} {a b x y : Int} (h1 : a = x) (h2 : b = y) : SV.tup [.v (.int .i64 a), tpS l c b] = .tup [.v (.int .i64 x), tpS l c y] := by rw [h1, h2]
def NuOk (x : Int) : Prop := 0 ≤ x ∧ x ≤ 4294967295
theorem numK_ok {l : List Int} (h : ∀ y ∈ l, NuOk y) (p k : Nat) : NuOk (numK l p k) := by
  unfold numK
  split
  · exact ⟨Int.le_refl _, by omega⟩
  · rename_i h0
    exact h _ (List.mem_of_getElem? (atD_some (Nat.mod_lt _ (by omega))))
def drI (l : List Int) (p : Nat) (n : Int) : Int := if n < 1 then 0 else numK l p 0 % n
def drP (l : List Int) (p : Nat) (n : Int) : Nat := if n < 1 then p else posK l p 1
theorem rem_eq {x n : Int} (hx : NuOk x) (h1 : 1 ≤ n) (h2 : n ≤ 9223372036854775807) : IntKind.i64.wrap ((IntKind.u64.wrap x).tmod (IntKind.u64.wrap n)) = x % n := by
  obtain ⟨hx1, hx2⟩ := hx
  have e1 : IntKind.u64.wrap x = x := by rw [IntKind.wrap_u64]; omega
  have e2 : IntKind.u64.wrap n = n := by rw [IntKind.wrap_u64]; omega
  rw [e1, e2, Int.tmod_eq_emod_of_nonneg hx1, IntKind.wrap_i64]
  have := Int.emod_nonneg x (show n ≠ 0 by omega)
  have := Int.emod_lt_of_pos x (show 0 < n by omega)
  omega
set_option maxRecDepth 100000 in
set_option maxHeartbeats 4000000 in
theorem clone_ok (l : List Int) (cap : Nat) (hc : l.length ≤ cap) (hl : l.length ≤ 1099511627776) : FnOK Try.prog GG 19 [] [.z 1 (l.map nuC) cap] (fun r _ ext => ∃ cap', l.length ≤ cap' ∧ r = .s (.n 0) 1 0 l.length cap' ∧ ext = [.row 34 1 cap' (l.map nuC)]) := by
  refine fn_newR (C := seat) seat_ok [] GG_no (Try.func19) rfl rfl rfl rfl rfl rfl ?_
  repeat' ((try conv => whnf); first
    | (with_reducible refine OKv.go (C := seat) seat_ok ?_)
    | (with_reducible refine BB_true ?_)
    | (with_reducible refine BB_false ?_)
    | (with_reducible refine Both.mk ?_ ?_)
    | (with_reducible refine VS.mk ?_)
    | (refine PSem.go (C := seat) seat_ok ?_)
    | (refine And.intro (PlanOK.mk (by kernel_rfl) rfl (by kernel_rfl) (by kernel_rfl)) ?_)
    | (refine And.intro rfl (Exists.intro _ (And.intro (by first | assumption | rfl) ?_)))
    | (refine And.intro ⟨rfl, rfl, rfl⟩ ?_)
    | (refine fun (b : Bool) hb => ?_)
    | (refine And.intro ⟨rfl, rfl, rfl, by first | (simp only [chunks_len, List.length_map, List.length_take, List.length_drop, List.length_append, List.length_cons, List.length_nil] <;> omega) | omega | rfl⟩ ?_)
    | (refine And.intro ⟨rfl, by first | (simp only [chunks_len, List.length_map, List.length_take, List.length_drop, List.length_append, List.length_cons, List.length_nil] <;> omega) | omega | rfl⟩ ?_)
    | (refine And.intro (by first | exact ⟨rfl, Nat.le_refl _⟩ | first | (simp only [chunks_len, List.length_map, List.length_take, List.length_drop, List.length_append, List.length_cons, List.length_nil] <;> omega) | omega | rfl) ?_)
    | (refine fun (caps : Nat → Nat) hcaps => ?_; conv at hcaps => whnf)
    | (refine fun (cap' : Nat) hcap' => ?_)
    | (refine And.intro (by omega) ?_)
    | (refine BB.mk (fun _h => ?_) (fun _h => ?_) <;> (first | (exact absurd _h (by decide)) | (exfalso; simp only [boolSet] at _h <;> omega) | skip)))
  all_goals (try conv => whnf)
  · have hl0 : l = [] := by
      by_cases h : (l.map nuC).length = 0
      · exact List.map_eq_nil_iff.1 (List.eq_nil_of_length_eq_zero h)
      · rw [hb h] at _h; cases _h
    subst hl0
    exact ⟨⟨[0], .s (.n 0) 1 0 0 0, [.row 34 1 0 []], by decide, .inl (.inr (.inl ⟨_, _, _, rfl, rfl⟩)), ⟨.inl (.inl ⟨rfl, rfl⟩), trivial⟩, 0, Nat.le_refl _, rfl, rfl⟩, rfl⟩
  · refine ⟨⟨[1], .s (.n 0) 1 0 (0 + (l.map nuC).length) cap', [.row 34 1 cap' (l.map nuC)], by decide, .inl (.inl rfl), ⟨.inr (.inl rfl), trivial⟩, cap', by simp only [chunks_len, List.length_map] at hcap' <;> omega, by rw [Nat.zero_add, List.length_map], rfl⟩, rfl⟩
set_option maxRecDepth 100000 in
set_option maxHeartbeats 4000000 in
theorem placed_z (l : List Int) (c : Nat) (at_ : Int) (hl : l.length ≤ 1099511627776) (hc : l.length ≤ c) : FnOK Try.prog GG 15 [] [tpS l c at_] (fun r _ ext => (∃ c', l.length ≤ c' ∧ r = tpS l c' (plI l at_)) ∧ ext = []) := by
  refine FnOK.pure GG_no rfl (fn_intro (C := seat) seat_ok [(1, (.of [(0, .take), (1, .take), (3, .take), (2, .do_), (4, .do_), (5, .take), (6, .last)]))] GG_no (Try.func15) rfl rfl rfl rfl rfl ?_)
  repeat' ((try conv => whnf); first
    | (with_reducible refine OKv.go (C := seat) seat_ok ?_)
    | (with_reducible refine BB_true ?_)
    | (with_reducible refine BB_false ?_)
    | (with_reducible refine Both.mk ?_ ?_)
    | (with_reducible refine VS.mk ?_)
    | (refine PSem.go (C := seat) seat_ok ?_)
    | (refine And.intro (PlanOK.mk (by kernel_rfl) rfl (by kernel_rfl) (by kernel_rfl)) ?_)
    | (refine And.intro rfl (Exists.intro _ (And.intro (by first | assumption | rfl) ?_)))
    | (refine And.intro ⟨rfl, rfl, rfl⟩ ?_)
    | (refine call_ro [] (clone_ok l c hc hl) GG_no rfl rfl rfl trivial ?_; rintro r bs' ext ⟨c', hc', rfl, rfl⟩)
    | (refine call_ro [] (place_z l c at_) GG_no rfl rfl rfl trivial ?_; rintro r bs' ext ⟨rfl, rfl⟩)
    | (refine And.intro (by omega) ?_)
    | (refine BB.mk (fun _h => ?_) (fun _h => ?_) <;> (first | (exact absurd _h (by decide)) | (exfalso; simp only [boolSet] at _h <;> omega) | skip)))
  all_goals (try conv => whnf)
  all_goals exact ⟨_, _, frz_aggT 0 (by rfl) (frz_row (by rfl) (List.length_map _).symm) (by rfl), rfl, rfl, fun _ => rfl, c', hc', rfl⟩
set_option maxRecDepth 100000 in
set_option maxHeartbeats 4000000 in
theorem draw_z (l : List Int) (c : Nat) (at_ : Int) (hl : l.length ≤ 1099511627776) (hc : l.length ≤ c) (n : Int) (hn : n ≤ 9223372036854775807) (hok : ∀ y ∈ l, NuOk y) : FnOK Try.prog GG 9 [] [tpS l c at_, .v (.int .i64 n)] (fun r _ ext => (∃ c', l.length ≤ c' ∧ r = .tup [.v (.int .i64 (drI l (plI l at_) n)), tpS l c' (drP l (plI l at_) n)]) ∧ ext = []) := by
  by_cases hn1 : n < 1
  · refine FnOK.pure GG_no rfl (fn_intro (C := seat) seat_ok [(3, (.of [(0, .take), (1, .take), (2, .last)])), (9, (.of [(0, .take), (1, .take), (2, .take), (3, .last)]))] GG_no (Try.func9) rfl rfl rfl rfl rfl ?_)
    repeat' ((try conv => whnf); first
      | (with_reducible refine OKv.go (C := seat) seat_ok ?_)
      | (with_reducible refine BB_true ?_)
      | (with_reducible refine BB_false ?_)
      | (with_reducible refine Both.mk ?_ ?_)
      | (with_reducible refine VS.mk ?_)
      | (refine PSem.go (C := seat) seat_ok ?_)
      | (refine And.intro (PlanOK.mk (by kernel_rfl) rfl (by kernel_rfl) (by kernel_rfl)) ?_)
      | (refine And.intro rfl (Exists.intro _ (And.intro (by first | assumption | rfl) ?_)))
      | (refine And.intro ⟨rfl, rfl, rfl⟩ ?_)
      | (refine call_ro [] (placed_z l c at_ hl hc) GG_no rfl rfl rfl trivial ?_; rintro r bs' ext ⟨⟨c1, hc1, rfl⟩, rfl⟩)
      | (refine BB.mk (fun _h => ?_) (fun _h => ?_) <;> (first | (exact absurd _h (by decide)) | (exfalso; simp only [boolSet] at _h <;> omega) | (simp only [boolSet] at _h) | skip))
      | (refine And.intro (by omega) ?_)
      | (refine BB.mk (fun _h => ?_) (fun _h => ?_) <;> (first | (exact absurd _h (by decide)) | (exfalso; simp only [boolSet] at _h <;> omega) | skip)))
    all_goals (try conv => whnf)
    all_goals exact ⟨_, _, FrzV.refl _ _, rfl, rfl, fun _ => rfl, c1, hc1, tupD (by unfold drI; rw [if_pos hn1]) (by unfold drP; rw [if_pos hn1])⟩
  · refine FnOK.pure GG_no rfl (fn_intro (C := seat) seat_ok [(3, (.of [(0, .take), (1, .take), (2, .last)])), (9, (.of [(0, .take), (1, .take), (2, .take), (3, .last)]))] GG_no (Try.func9) rfl rfl rfl rfl rfl ?_)
    repeat' ((try conv => whnf); first
      | (with_reducible refine OKv.go (C := seat) seat_ok ?_)
      | (with_reducible refine BB_true ?_)
      | (with_reducible refine BB_false ?_)
      | (with_reducible refine Both.mk ?_ ?_)
      | (with_reducible refine VS.mk ?_)
      | (refine PSem.go (C := seat) seat_ok ?_)
      | (refine And.intro (PlanOK.mk (by kernel_rfl) rfl (by kernel_rfl) (by kernel_rfl)) ?_)
      | (refine And.intro rfl (Exists.intro _ (And.intro (by first | assumption | rfl) ?_)))
      | (refine And.intro ⟨rfl, rfl, rfl⟩ ?_)
      | (refine call_ro [] (placed_z l c at_ hl hc) GG_no rfl rfl rfl trivial ?_; rintro r bs' ext ⟨⟨c1, hc1, rfl⟩, rfl⟩)
      | (refine call_ro [] (numbers_z l c at_) GG_no rfl rfl rfl trivial ?_; rintro r bs' ext ⟨rfl, rfl⟩)
      | (refine BB.mk (fun _h => ?_) (fun _h => ?_) <;> (first | (exact absurd _h (by decide)) | (exfalso; simp only [boolSet] at _h <;> omega) | (simp only [boolSet] at _h) | skip))
      | (refine And.intro (by omega) ?_)
      | (refine BB.mk (fun _h => ?_) (fun _h => ?_) <;> (first | (exact absurd _h (by decide)) | (exfalso; simp only [boolSet] at _h <;> omega) | skip)))
    all_goals (try conv => whnf)
    refine range_rule (C := seat) (pl := [(3, (.of [(0, .take), (1, .take), (2, .last)])), (9, (.of [(0, .take), (1, .take), (2, .take), (3, .last)]))]) ((iter_z l c at_ 1 hl).lend [.n 5] (fun _ _ => cellsZ_v (cellsZ_v cellsZ_nil))) (α := Unit) (fun k _ => k = 0) (fun _ => { slots := [(3, .p (.n 1) 0 0 0), (5, .p (.n 2) 0 0 0), (6, .p (.n 3) 0 0 0), (7, .p (.n 4) 0 0 0), (16, .fn 21 [.p (.n 5) 0 0 0])], nt := 29, mem := ⟨GG, [], [.box 24 [.z 1 (l.map nuC) c, .v (.int .i64 at_)], .box 3 [.v (.int .i64 n)], .box 24 [.v (.slice none 0 0), .v (.int .i64 0)], .box 24 [.z 1 (l.map nuC) c1, .v (.int .i64 (plI l at_))], .box 3 [.v (.int .i64 0)], .cst 24 [.z 1 (l.map nuC) c, .v (.int .i64 at_)]]⟩ }) () rfl (Ref.pass ⟨⟨[0, 1, 2, 3, 4, 5], by decide, GG_no, rfl, SubOld.refl _ rfl, ⟨rfl, rfl, rfl, rfl, rfl, .inr rfl, trivial⟩, ⟨.inl rfl, .inl rfl, .inl rfl, .inl rfl, .inl rfl, trivial⟩⟩, rfl⟩) (fun _ => rfl) (fun _ _ _ => ⟨⟨rfl, _, _, rfl, cellsZ_z (cellsZ_v cellsZ_nil)⟩, trivial⟩) (fun _ => rfl) (fun _ => rfl) rfl ?_ ?_ (fun _ _ h => absurd h (by decide))
    · intro k _ hk hinv
      obtain rfl : k = 0 := hinv
      conv => whnf
      refine vc_sound (C := seat) seat_ok (pl := [(3, (.of [(0, .take), (1, .take), (2, .last)])), (9, (.of [(0, .take), (1, .take), (2, .take), (3, .last)]))]) ?_
      repeat' ((try conv => whnf); first
        | (with_reducible refine OKv.go (C := seat) seat_ok ?_)
        | (with_reducible refine BB_true ?_)
        | (with_reducible refine BB_false ?_)
        | (with_reducible refine Both.mk ?_ ?_)
        | (with_reducible refine VS.mk ?_)
        | (refine PSem.go (C := seat) seat_ok ?_)
        | (refine And.intro (PlanOK.mk (by kernel_rfl) rfl (by kernel_rfl) (by kernel_rfl)) ?_)
        | (refine And.intro rfl (Exists.intro _ (And.intro (by first | assumption | rfl) ?_)))
        | (refine And.intro ⟨rfl, rfl, rfl⟩ ?_)
        | (refine And.intro (by rw [IntKind.wrap_u64]; omega) ?_)
        | (refine And.intro (by omega) ?_)
        | (refine BB.mk (fun _h => ?_) (fun _h => ?_) <;> (first | (exact absurd _h (by decide)) | (exfalso; simp only [boolSet] at _h <;> omega) | skip)))
      all_goals (try conv => whnf)
      all_goals exact ⟨_, _, FrzV.refl _ _, rfl, rfl, fun _ => rfl, c1, hc1, tupD (by unfold drI; rw [if_neg hn1]; exact rem_eq (numK_ok hok _ _) (by omega) hn) (by unfold drP; rw [if_neg hn1])⟩
    · intro _ hinv
      exact absurd hinv (by decide)
end Go.Proofs.Ytigmgdfplhfdpaa
