/- Package tape: Some. -/
import Derived.Test.YtigmgdfplhfdpaaT23c
namespace Go.Proofs.Ytigmgdfplhfdpaa
open Go.RowKit

theorem frz_rowF {m : Mem} {b t sz c len cap : Nat} {els els' : List (List CV)} (hl : m.look (.n b) = some (.row t sz c els)) (hn : len = els'.length) (he : els = els') : FrzV m (.s (.n b) sz 0 len cap) (.z sz els' cap) (m.set (.n b) (.ro sz els)) := by
  subst he
  exact frz_row hl hn
def someK (l : List Int) (p k : Nat) : List Int := (List.range k).map (numK l p)
theorem someK_len (l : List Int) (p k : Nat) : (someK l p k).length = k := by simp [someK]
theorem someK_succ (l : List Int) (p k : Nat) : someK l p (k + 1) = someK l p k ++ [numK l p k] := by
  unfold someK
  rw [List.range_succ, List.map_append]; rfl
def cntN (m : Int) : Nat := (min m 1000).toNat
theorem tupS {l s s' : List Int} {c d : Nat} {b y : Int} (h1 : s = s') (h2 : b = y) : SV.tup [.z 1 (s.map nuC) d, tpS l c b] = .tup [.z 1 (s'.map nuC) d, tpS l c y] := by rw [h1, h2]
set_option maxRecDepth 100000 in
set_option maxHeartbeats 4000000 in
theorem some_z (l : List Int) (c : Nat) (at_ : Int) (hl : l.length ≤ 1099511627776) (hc : l.length ≤ c) (m : Int) (hm : m ≤ 9223372036854775807) : FnOK Try.prog GG 11 [] [tpS l c at_, .v (.int .i64 m)] (fun r _ ext => (∃ c1 c2, (l.length ≤ c1 ∧ cntN m ≤ c2) ∧ r = .tup [.z 1 ((someK l (plI l at_) (cntN m)).map nuC) c2, tpS l c1 (posK l (plI l at_) (cntN m))]) ∧ ext = []) := by
  have hp0 := posK_zero (plI_lt l at_)
  by_cases hn1 : m < 1
  · have h0 : cntN m = 0 := by unfold cntN; omega
    refine FnOK.pure GG_no rfl (fn_intro (C := seat) seat_ok [(3, (.of [(0, .take), (1, .take), (2, .last)])), (10, (.of [(0, .take), (1, .take), (2, .take), (3, .last)]))] GG_no (Try.func11) rfl rfl rfl rfl rfl ?_)
    repeat' ((try conv => whnf); first
      | (with_reducible refine OKv.go (C := seat) seat_ok ?_)
      | (with_reducible refine BB_true ?_)
      | (with_reducible refine BB_false ?_)
      | (with_reducible refine Both.mk ?_ ?_)
      | (with_reducible refine VS.mk ?_)
      | (refine PSem.go (C := seat) seat_ok ?_)
      | (refine And.intro (PlanOK.mk (by kernel_rfl) rfl (by kernel_rfl) (by kernel_rfl)) ?_)
      | (refine And.intro rfl (Exists.intro _ (And.intro (by first | assumption | rfl) ?_)))
      | (refine And.intro ⟨rfl, rfl, rfl⟩ ?_)
      | (refine call_ro [] (placed_z l c at_ hl hc) GG_no rfl rfl rfl trivial ?_; rintro r bs' ext ⟨⟨c1, hc1, rfl⟩, rfl⟩)
      | (refine BB.mk (fun _h => ?_) (fun _h => ?_) <;> (first | (exact absurd _h (by decide)) | (exfalso; simp only [boolSet] at _h <;> omega) | (simp only [boolSet] at _h) | skip))
      | (refine And.intro (by omega) ?_)
      | (refine BB.mk (fun _h => ?_) (fun _h => ?_) <;> (first | (exact absurd _h (by decide)) | (exfalso; simp only [boolSet] at _h <;> omega) | skip)))
    all_goals (try conv => whnf)
    all_goals exact ⟨_, _, frz_tup 0 (by rfl) (frz_nil _ 1) (by rfl), rfl, rfl, fun _ => rfl, c1, 0, ⟨hc1, by omega⟩, by rw [h0, hp0]; rfl⟩
  · have hN : 1 ≤ cntN m := by unfold cntN; omega
    have hmin : (if (1000 : Int) < m then (1000 : Int) else m) = (cntN m : Int) := by unfold cntN; split <;> omega
    refine FnOK.pure GG_no rfl (fn_intro (C := seat) seat_ok [(3, (.of [(0, .take), (1, .take), (2, .last)])), (10, (.of [(0, .take), (1, .take), (2, .take), (3, .last)]))] GG_no (Try.func11) rfl rfl rfl rfl rfl ?_)
    repeat' ((try conv => whnf); first
      | (with_reducible refine OKv.go (C := seat) seat_ok ?_)
      | (with_reducible refine BB_true ?_)
      | (with_reducible refine BB_false ?_)
      | (with_reducible refine Both.mk ?_ ?_)
      | (with_reducible refine VS.mk ?_)
      | (refine PSem.go (C := seat) seat_ok ?_)
      | (refine And.intro (PlanOK.mk (by kernel_rfl) rfl (by kernel_rfl) (by kernel_rfl)) ?_)
      | (refine And.intro rfl (Exists.intro _ (And.intro (by first | assumption | rfl) ?_)))
      | (refine And.intro ⟨rfl, rfl, rfl⟩ ?_)
      | (refine call_ro [] (placed_z l c at_ hl hc) GG_no rfl rfl rfl trivial ?_; rintro r bs' ext ⟨⟨c1, hc1, rfl⟩, rfl⟩)
      | (refine call_ro [] (numbers_z l c at_) GG_no rfl rfl rfl trivial ?_; rintro r bs' ext ⟨rfl, rfl⟩)
      | (refine BB.mk (fun _h => ?_) (fun _h => ?_) <;> (first | (exact absurd _h (by decide)) | (exfalso; simp only [boolSet] at _h <;> omega) | (simp only [boolSet] at _h) | skip))
      | (refine And.intro (by omega) ?_)
      | (refine BB.mk (fun _h => ?_) (fun _h => ?_) <;> (first | (exact absurd _h (by decide)) | (exfalso; simp only [boolSet] at _h <;> omega) | skip)))
    all_goals (try conv => whnf)
    refine range_rule (C := seat) (pl := [(3, (.of [(0, .take), (1, .take), (2, .last)])), (10, (.of [(0, .take), (1, .take), (2, .take), (3, .last)]))]) ((iter_z l c at_ (cntN m) hl).lend [.n 5] (fun _ _ => cellsZ_v (cellsZ_v cellsZ_nil))) (α := Nat × Nat) (fun k p => p.1 = k ∧ p.1 ≤ p.2 ∧ k < cntN m) (fun p => { slots := [(3, .p (.n 1) 0 0 0), (5, .p (.n 2) 0 0 0), (6, .p (.n 3) 0 0 0), (7, .p (.n 4) 0 0 0), (16, .fn 21 [.p (.n 5) 0 0 0])], nt := 32, mem := ⟨GG, [], [.box 24 [.z 1 (l.map nuC) c, .v (.int .i64 at_)], .box 3 [.v (.int .i64 m)], .box 24 [.v (.slice none 0 0), .v (.int .i64 0)], .box 24 [.z 1 (l.map nuC) c1, .v (.int .i64 (posK l (plI l at_) p.1))], .box 22 [.s (.n 6) 1 0 p.1 p.2], .cst 24 [.z 1 (l.map nuC) c, .v (.int .i64 at_)], .row 34 1 p.2 ((someK l (plI l at_) p.1).map nuC)]⟩ }) (0, 0) ⟨rfl, Nat.le_refl _, hN⟩
      ((pass_box (t := 22) (cells := [.v (.slice none 0 0)]) (cells' := [.s (.n 6) 1 0 0 0]) 4 0 rfl rfl (FrzV.weak (weak_nilS (.n 6) 1 0)) rfl rfl).trans (Ref.pass ⟨⟨[0, 1, 2, 3, 4, 5, 6], by decide, GG_no, rfl, SubOld.refl _ rfl, ⟨rfl, rfl, rfl, ?e1, rfl, .inr rfl, .inl (.inl ⟨rfl, rfl⟩), trivial⟩, ⟨.inl rfl, .inl rfl, .inl rfl, .inl rfl, .inl rfl, trivial⟩⟩, rfl⟩))
      (fun _ => rfl) (fun _ _ _ => ⟨⟨rfl, _, _, rfl, cellsZ_z (cellsZ_v cellsZ_nil)⟩, trivial⟩) (fun _ => rfl) (fun _ => rfl) rfl ?_ ?_ (fun _ _ h => absurd h.2.2 (Nat.lt_irrefl _))
    case e1 =>
      dsimp only
      rw [hp0]
      rfl
    · rintro k ⟨k', cc⟩ hk ⟨rfl, hcc, hlt⟩
      dsimp only at hk hcc hlt ⊢
      have hsl := someK_len l (plI l at_) k'
      have hsm : ((someK l (plI l at_) k').map nuC).length = k' := by rw [List.length_map, hsl]
      conv => whnf
      refine vc_sound (C := seat) seat_ok (pl := [(3, (.of [(0, .take), (1, .take), (2, .last)])), (10, (.of [(0, .take), (1, .take), (2, .take), (3, .last)]))]) ?_
      repeat' ((try conv => whnf); first
        | (with_reducible refine OKv.go (C := seat) seat_ok ?_)
        | (with_reducible refine BB_true ?_)
        | (with_reducible refine BB_false ?_)
        | (with_reducible refine Both.mk ?_ ?_)
        | (with_reducible refine VS.mk ?_)
        | (refine PSem.go (C := seat) seat_ok ?_)
        | (refine And.intro (PlanOK.mk (by kernel_rfl) rfl (by kernel_rfl) (by kernel_rfl)) ?_)
        | (refine And.intro rfl (Exists.intro _ (And.intro (by first | assumption | rfl) ?_)))
        | (refine And.intro ⟨rfl, rfl, rfl⟩ ?_)
        | (refine And.intro ⟨rfl, rfl, rfl, by first | (simp only [chunks_len, List.length_map, List.length_take, List.length_drop, List.length_append, List.length_cons, List.length_nil] <;> omega) | omega | rfl⟩ ?_)
        | (refine And.intro ⟨rfl, by first | (simp only [chunks_len, List.length_map, List.length_take, List.length_drop, List.length_append, List.length_cons, List.length_nil] <;> omega) | omega | rfl⟩ ?_)
        | (refine And.intro (by first | exact ⟨rfl, Nat.le_refl _⟩ | first | (simp only [chunks_len, List.length_map, List.length_take, List.length_drop, List.length_append, List.length_cons, List.length_nil] <;> omega) | omega | rfl) ?_)
        | (refine fun (caps : Nat → Nat) hcaps => ?_; conv at hcaps => whnf)
        | (refine fun (cap' : Nat) hcap' => ?_)
        | (refine BB.mk (fun _h => ?_) (fun _h => ?_) <;> (first | (exact absurd _h (by decide)) | (exfalso; simp only [boolSet, cond_false, hmin] at _h <;> omega) | (simp only [boolSet, cond_false, hmin] at _h) | skip))
        | (refine And.intro (by omega) ?_)
        | (refine BB.mk (fun _h => ?_) (fun _h => ?_) <;> (first | (exact absurd _h (by decide)) | (exfalso; simp only [boolSet] at _h <;> omega) | skip)))
      all_goals (try conv => whnf)
      all_goals first
        | exact ⟨(k' + 1, cap'), ⟨rfl, by dsimp only; omega, by omega⟩, Ref.pass ⟨⟨[0, 1, 2, 3, 4, 5, 8], by decide, GG_no, rfl, SubOld.refl _ rfl, ⟨rfl, rfl, rfl, rfl, rfl, .inl rfl, .inr (.inl (by dsimp only; rw [someK_succ, List.map_append]; rfl)), trivial⟩, ⟨.inl rfl, .inl rfl, .inl rfl, .inl rfl, .inl rfl, trivial⟩⟩, rfl⟩⟩
        | exact ⟨_, _, frz_tup 0 (by rfl) (frz_rowF (els' := (someK l (plI l at_) (k' + 1)).map nuC) (by rfl) (by rw [List.length_map, someK_len]) (by rw [someK_succ, List.map_append]; rfl)) (by rfl), rfl, rfl, fun _ => rfl, c1, cap', ⟨hc1, by omega⟩, by rw [show cntN m = k' + 1 by omega]; rfl⟩
    · rintro ⟨k', cc⟩ ⟨_, _, h⟩
      exact absurd h (Nat.lt_irrefl _)
end Go.Proofs.Ytigmgdfplhfdpaa
