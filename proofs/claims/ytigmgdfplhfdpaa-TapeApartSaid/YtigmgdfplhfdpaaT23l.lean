/- What is drawn, and the tape in memory of its own. -/
import Derived.Test.YtigmgdfplhfdpaaT23k
namespace Go.Proofs.Ytigmgdfplhfdpaa
open Go.RowKit

theorem tupO {n c : Nat} {a b y z : Int} (h1 : a = y) (h2 : b = z) : SV.tup [.v (.int .i64 a), .agg [.s (.n 0) 1 0 n c, .v (.int .i64 b)]] = .tup [.v (.int .i64 y), .agg [.s (.n 0) 1 0 n c, .v (.int .i64 z)]] := by rw [h1, h2]
set_option maxRecDepth 100000 in
set_option maxHeartbeats 4000000 in
theorem placed_own (l : List Int) (c : Nat) (at_ : Int) (hl : l.length ≤ 1099511627776) (hc : l.length ≤ c) : FnOK Try.prog GG 15 [] [tpS l c at_] (fun r _ ext => ∃ c', l.length ≤ c' ∧ r = .agg [.s (.n 0) 1 0 l.length c', .v (.int .i64 (plI l at_))] ∧ ext = [.row 34 1 c' (l.map nuC)]) := by
  have hml : (l.map nuC).length = l.length := List.length_map _
  refine fn_newR (C := seat) seat_ok [(1, (.of [(0, .take), (1, .take), (3, .take), (2, .do_), (4, .do_), (5, .take), (6, .last)]))] GG_no (Try.func15) rfl rfl rfl rfl rfl rfl ?_
  repeat' ((try conv => whnf); first
    | (with_reducible refine OKv.go (C := seat) seat_ok ?_)
    | (with_reducible refine BB_true ?_)
    | (with_reducible refine BB_false ?_)
    | (with_reducible refine Both.mk ?_ ?_)
    | (with_reducible refine VS.mk ?_)
    | (refine PSem.go (C := seat) seat_ok ?_)
    | (refine And.intro (PlanOK.mk (by kernel_rfl) rfl (by kernel_rfl) (by kernel_rfl)) ?_)
    | (refine And.intro rfl (Exists.intro _ (And.intro (by first | assumption | rfl) ?_)))
    | (refine And.intro ⟨rfl, rfl, rfl⟩ ?_)
    | (refine call_ro [] (clone_ok l c hc hl) GG_no rfl rfl rfl trivial ?_; rintro r bs' ext ⟨c', hc', rfl, rfl⟩)
    | (refine call_ro [] (place_z l c at_) GG_no rfl rfl rfl trivial ?_; rintro r bs' ext ⟨rfl, rfl⟩)
    | (refine BB.mk (fun _h => ?_) (fun _h => ?_) <;> (first | (exact absurd _h (by decide)) | (exfalso; simp only [boolSet, hml] at _h <;> omega) | (simp only [boolSet, hml] at _h) | skip))
    | (refine And.intro (by omega) ?_)
    | (refine BB.mk (fun _h => ?_) (fun _h => ?_) <;> (first | (exact absurd _h (by decide)) | (exfalso; simp only [boolSet] at _h <;> omega) | skip)))
  all_goals (try conv => whnf)
  all_goals first
    | exact ⟨⟨[2], .agg [.s (.n 0) 1 0 l.length c', .v (.int .i64 (plI l at_))], [.row 34 1 c' (l.map nuC)], by decide, .inl (.inl rfl), ⟨.inr (.inl rfl), trivial⟩, c', hc', rfl, rfl⟩, rfl⟩
    | exact ⟨⟨[0], .agg [.s (.n 0) 1 0 l.length c', .v (.int .i64 (plI l at_))], [.row 34 1 c' (l.map nuC)], by decide, .inl (.inl rfl), ⟨.inr (.inl rfl), trivial⟩, c', hc', rfl, rfl⟩, rfl⟩
    | trace_state
set_option maxRecDepth 100000 in
set_option maxHeartbeats 4000000 in
theorem draw_own (l : List Int) (c : Nat) (at_ : Int) (hl : l.length ≤ 1099511627776) (hc : l.length ≤ c) (n : Int) (hn : n ≤ 9223372036854775807) (hok : ∀ y ∈ l, NuOk y) : FnOK Try.prog GG 9 [] [tpS l c at_, .v (.int .i64 n)] (fun r _ ext => ∃ c', l.length ≤ c' ∧ r = .tup [.v (.int .i64 (drI l (plI l at_) n)), .agg [.s (.n 0) 1 0 l.length c', .v (.int .i64 (drP l (plI l at_) n))]] ∧ ext = [.row 34 1 c' (l.map nuC)]) := by
  by_cases hn1 : n < 1
  · refine fn_newR (C := seat) seat_ok [(3, (.of [(0, .take), (1, .take), (2, .last)])), (9, (.of [(0, .take), (1, .take), (2, .take), (3, .last)]))] GG_no (Try.func9) rfl rfl rfl rfl rfl rfl ?_
    repeat' ((try conv => whnf); first
      | (with_reducible refine OKv.go (C := seat) seat_ok ?_)
      | (with_reducible refine BB_true ?_)
      | (with_reducible refine BB_false ?_)
      | (with_reducible refine Both.mk ?_ ?_)
      | (with_reducible refine VS.mk ?_)
      | (refine PSem.go (C := seat) seat_ok ?_)
      | (refine And.intro (PlanOK.mk (by kernel_rfl) rfl (by kernel_rfl) (by kernel_rfl)) ?_)
      | (refine And.intro rfl (Exists.intro _ (And.intro (by first | assumption | rfl) ?_)))
      | (refine And.intro ⟨rfl, rfl, rfl⟩ ?_)
      | (refine call_ro [] (placed_own l c at_ hl hc) GG_no rfl rfl rfl trivial ?_; rintro r bs' ext ⟨c1, hc1, rfl, rfl⟩)
      | (refine BB.mk (fun _h => ?_) (fun _h => ?_) <;> (first | (exact absurd _h (by decide)) | (exfalso; simp only [boolSet] at _h <;> omega) | (simp only [boolSet] at _h) | skip))
      | (refine And.intro (by omega) ?_)
      | (refine BB.mk (fun _h => ?_) (fun _h => ?_) <;> (first | (exact absurd _h (by decide)) | (exfalso; simp only [boolSet] at _h <;> omega) | skip)))
    all_goals (try conv => whnf)
    all_goals exact ⟨⟨[3], .tup [.v (.int .i64 0), .agg [.s (.n 0) 1 0 l.length c1, .v (.int .i64 (plI l at_))]], [.row 34 1 c1 (l.map nuC)], by decide, .inl (.inl rfl), ⟨.inr (.inl rfl), trivial⟩, c1, hc1, tupO (by unfold drI; rw [if_pos hn1]) (by unfold drP; rw [if_pos hn1]), rfl⟩, rfl⟩
  · refine fn_newR (C := seat) seat_ok [(3, (.of [(0, .take), (1, .take), (2, .last)])), (9, (.of [(0, .take), (1, .take), (2, .take), (3, .last)]))] GG_no (Try.func9) rfl rfl rfl rfl rfl rfl ?_
    repeat' ((try conv => whnf); first
      | (with_reducible refine OKv.go (C := seat) seat_ok ?_)
      | (with_reducible refine BB_true ?_)
      | (with_reducible refine BB_false ?_)
      | (with_reducible refine Both.mk ?_ ?_)
      | (with_reducible refine VS.mk ?_)
      | (refine PSem.go (C := seat) seat_ok ?_)
      | (refine And.intro (PlanOK.mk (by kernel_rfl) rfl (by kernel_rfl) (by kernel_rfl)) ?_)
      | (refine And.intro rfl (Exists.intro _ (And.intro (by first | assumption | rfl) ?_)))
      | (refine And.intro ⟨rfl, rfl, rfl⟩ ?_)
      | (refine call_ro [] (placed_own l c at_ hl hc) GG_no rfl rfl rfl trivial ?_; rintro r bs' ext ⟨c1, hc1, rfl, rfl⟩)
      | (refine call_ro [] (numbers_z l c at_) GG_no rfl rfl rfl trivial ?_; rintro r bs' ext ⟨rfl, rfl⟩)
      | (refine BB.mk (fun _h => ?_) (fun _h => ?_) <;> (first | (exact absurd _h (by decide)) | (exfalso; simp only [boolSet] at _h <;> omega) | (simp only [boolSet] at _h) | skip))
      | (refine And.intro (by omega) ?_)
      | (refine BB.mk (fun _h => ?_) (fun _h => ?_) <;> (first | (exact absurd _h (by decide)) | (exfalso; simp only [boolSet] at _h <;> omega) | skip)))
    all_goals (try conv => whnf)
    refine range_rule (C := seat) (pl := [(3, (.of [(0, .take), (1, .take), (2, .last)])), (9, (.of [(0, .take), (1, .take), (2, .take), (3, .last)]))]) ((iter_z l c at_ 1 hl).lend [.n 6] (fun _ _ => cellsZ_v (cellsZ_v cellsZ_nil))) (α := Unit) (fun k _ => k = 0) (fun _ => { slots := [(3, .p (.n 1) 0 0 0), (5, .p (.n 2) 0 0 0), (6, .p (.n 4) 0 0 0), (7, .p (.n 5) 0 0 0), (16, .fn 21 [.p (.n 6) 0 0 0])], nt := 29, mem := ⟨GG, [], [.box 24 [.z 1 (l.map nuC) c, .v (.int .i64 at_)], .box 3 [.v (.int .i64 n)], .box 24 [.v (.slice none 0 0), .v (.int .i64 0)], .row 34 1 c1 (l.map nuC), .box 24 [.s (.n 3) 1 0 l.length c1, .v (.int .i64 (plI l at_))], .box 3 [.v (.int .i64 0)], .cst 24 [.z 1 (l.map nuC) c, .v (.int .i64 at_)]]⟩ }) () rfl (Ref.pass ⟨⟨[0, 1, 2, 3, 4, 5, 6], by decide, GG_no, rfl, SubOld.refl _ rfl, ⟨rfl, rfl, rfl, .inr (.inl rfl), rfl, rfl, .inr rfl, trivial⟩, ⟨.inl rfl, .inl rfl, .inl rfl, .inl rfl, .inl rfl, trivial⟩⟩, rfl⟩) (fun _ => rfl) (fun _ _ _ => ⟨⟨rfl, _, _, rfl, cellsZ_z (cellsZ_v cellsZ_nil)⟩, trivial⟩) (fun _ => rfl) (fun _ => rfl) rfl ?_ ?_ (fun _ _ h => absurd h (by decide))
    · intro k _ hk hinv
      obtain rfl : k = 0 := hinv
      conv => whnf
      refine vc_sound (C := seat) seat_ok (pl := [(3, (.of [(0, .take), (1, .take), (2, .last)])), (9, (.of [(0, .take), (1, .take), (2, .take), (3, .last)]))]) ?_
      repeat' ((try conv => whnf); first
        | (with_reducible refine OKv.go (C := seat) seat_ok ?_)
        | (with_reducible refine BB_true ?_)
        | (with_reducible refine BB_false ?_)
        | (with_reducible refine Both.mk ?_ ?_)
        | (with_reducible refine VS.mk ?_)
        | (refine PSem.go (C := seat) seat_ok ?_)
        | (refine And.intro (PlanOK.mk (by kernel_rfl) rfl (by kernel_rfl) (by kernel_rfl)) ?_)
        | (refine And.intro rfl (Exists.intro _ (And.intro (by first | assumption | rfl) ?_)))
        | (refine And.intro ⟨rfl, rfl, rfl⟩ ?_)
        | (refine And.intro (by rw [IntKind.wrap_u64]; omega) ?_)
        | (refine And.intro (by omega) ?_)
        | (refine BB.mk (fun _h => ?_) (fun _h => ?_) <;> (first | (exact absurd _h (by decide)) | (exfalso; simp only [boolSet] at _h <;> omega) | skip)))
      all_goals (try conv => whnf)
      all_goals first
        | exact ⟨⟨[3], .tup [.v (.int .i64 (IntKind.i64.wrap ((IntKind.u64.wrap (numK l (plI l at_) 0)).tmod (IntKind.u64.wrap n)))), .agg [.s (.n 0) 1 0 l.length c1, .v (.int .i64 (posK l (plI l at_) 1))]], [.row 34 1 c1 (l.map nuC)], by decide, .inl (.inl rfl), ⟨.inr (.inl rfl), trivial⟩, c1, hc1, tupO (by unfold drI; rw [if_neg hn1]; exact rem_eq (numK_ok hok _ _) (by omega) hn) (by unfold drP; rw [if_neg hn1]), rfl⟩, rfl⟩
        | trace_state
    · intro _ hinv
      exact absurd hinv (by decide)
end Go.Proofs.Ytigmgdfplhfdpaa
