/- Stage 10: Merge. -/
import Derived.Test.YtccegmbklgmgnaaY10
namespace Go.Proofs.Ytccegmbklgmgnaa
open Go.RowKit

/-- From whom on is given up: how many are looked at, and whom. -/
def giveL (got l : List De) : List De → Nat × Option De
  | [] => (0, none)
  | s :: r => if 0 ≤ findZ s.node l ∧ hasN got s.node = false then (1, some s) else ((giveL got l r).1 + 1, (giveL got l r).2)
theorem giveL_cons {got l r : List De} {s : De} : giveL got l (s :: r) = if 0 ≤ findZ s.node l ∧ hasN got s.node = false then (1, some s) else ((giveL got l r).1 + 1, (giveL got l r).2) := rfl
theorem giveL_le (got l : List De) : ∀ r, (giveL got l r).1 ≤ r.length
  | [] => Nat.le_refl _
  | s :: r => by
    rw [giveL_cons]
    have := giveL_le got l r
    split
    · simp
    · simp only [List.length_cons]; omega
def lessOf (l : List De) : Option De → List De
  | none => []
  | some s => dropL s.node l
set_option maxRecDepth 100000 in
set_option maxHeartbeats 4000000 in
theorem drop1_ok (l sent got : List De) (cl cs cg : Nat) (at_ : Nat) (hl : l.length ≤ 1099511627776) (hsl : sent.length ≤ 1099511627776) (hgl : got.length ≤ 1099511627776) (hr : Rising l) (hf : FlOk l) (hat : at_ ≤ sent.length) : FnOK Try.prog GG 40 [.box 3 [.v (.int .i64 (at_ : Int))], .box 22 [.z 4 (sent.map deC) cs], .box 22 [.z 4 (got.map deC) cg]] [.z 4 (l.map deC) cl, .p (.o 0) 0 0 0, .p (.o 1) 0 0 0, .p (.o 2) 0 0 0] (fun r bs' ext => (∃ c', (lessOf l (giveL got l (sent.drop at_)).2).length ≤ c' ∧ r = .tup [.z 4 ((lessOf l (giveL got l (sent.drop at_)).2).map deC) c', .v (.bool (giveL got l (sent.drop at_)).2.isSome)] ∧ bs' = [.box 3 [.v (.int .i64 ((at_ + (giveL got l (sent.drop at_)).1 : Nat) : Int))], .box 22 [.z 4 (sent.map deC) cs], .box 22 [.z 4 (got.map deC) cg]]) ∧ ext = []) := by
  have hsm : (sent.map deC).length = sent.length := List.length_map _
  refine FnOK.pureW (Q := fun r bs' => ∃ c', (lessOf l (giveL got l (sent.drop at_)).2).length ≤ c' ∧ r = .tup [.z 4 ((lessOf l (giveL got l (sent.drop at_)).2).map deC) c', .v (.bool (giveL got l (sent.drop at_)).2.isSome)] ∧ bs' = [.box 3 [.v (.int .i64 ((at_ + (giveL got l (sent.drop at_)).1 : Nat) : Int))], .box 22 [.z 4 (sent.map deC) cs], .box 22 [.z 4 (got.map deC) cg]]) GG_no (fn_intro (C := seat) seat_ok [] GG_no (Try.func40) rfl rfl rfl rfl rfl ?_)
  repeat' ((try conv => whnf); first
    | (with_reducible refine OKv.go (C := seat) seat_ok ?_)
    | (with_reducible refine BB_true ?_)
    | (with_reducible refine BB_false ?_)
    | (with_reducible refine Both.mk ?_ ?_)
    | (with_reducible refine VS.mk ?_)
    | (refine PSem.go (C := seat) seat_ok ?_)
    | (refine And.intro (PlanOK.mk (by kernel_rfl) rfl (by kernel_rfl) (by kernel_rfl)) ?_)
    | (refine And.intro rfl (Exists.intro _ (And.intro (by first | assumption | rfl) ?_)))
    | (refine And.intro ⟨rfl, rfl, rfl⟩ ?_)
    | (refine And.intro (by omega) ?_)
    | (refine BB.mk (fun _h => ?_) (fun _h => ?_) <;> (first | (exact absurd _h (by decide)) | (exfalso; simp only [boolSet] at _h <;> omega) | skip)))
  all_goals (try conv => whnf)
  refine loop_rule (α := Nat) (fun k => k ≤ sent.length ∧ k + (giveL got l (sent.drop k)).1 = at_ + (giveL got l (sent.drop at_)).1 ∧ (giveL got l (sent.drop k)).2 = (giveL got l (sent.drop at_)).2) (fun k => { slots := [(0, .z 4 (l.map deC) cl), (1, .p (.o 0) 0 0 0), (2, .p (.o 1) 0 0 0), (3, .p (.o 2) 0 0 0)], nt := 32, mem := ⟨GG, [.box 3 [.v (.int .i64 (k : Int))], .box 22 [.z 4 (sent.map deC) cs], .box 22 [.z 4 (got.map deC) cg]], []⟩ }) (fun k => sent.length - k) at_ ⟨hat, rfl, rfl⟩ ⟨⟨[], List.nodup_nil, GG_no, rfl, ⟨rfl, rfl, rfl, trivial⟩, trivial, ⟨.inl rfl, .inl rfl, .inl rfl, .inl rfl, trivial⟩⟩, rfl⟩ ?_ (fun _ => rfl)
  rintro k ⟨hk, he1, he2⟩
  refine vc_sound (C := seat) seat_ok (pl := []) ?_
  by_cases hlt : k < sent.length
  · obtain ⟨d, hd⟩ : ∃ d, sent[k]? = some d := ⟨_, List.getElem?_eq_getElem hlt⟩
    have hrow := zde_at hd
    have hcons : sent.drop k = d :: sent.drop (k + 1) := by
      rw [List.drop_eq_getElem_cons hlt]
      congr 1
      rw [List.getElem?_eq_getElem hlt] at hd
      exact Option.some.inj hd
    have hstep := giveL_cons (got := got) (l := l) (r := sent.drop (k + 1)) (s := d)
    rw [← hcons] at hstep
    by_cases hg : 0 ≤ findZ d.node l ∧ hasN got d.node = false
    · rw [if_pos hg] at hstep
      obtain ⟨hg1, hg2⟩ := hg
      rw [hstep] at he1 he2
      dsimp only at he1 he2
      have hw : IntKind.i64.wrap ((k : Int) + 1) = ((at_ + (giveL got l (sent.drop at_)).1 : Nat) : Int) := by rw [IntKind.wrap_i64]; omega
      repeat' ((try conv => whnf); first
        | (with_reducible refine OKv.go (C := seat) seat_ok ?_)
        | (with_reducible refine BB_true ?_)
        | (with_reducible refine BB_false ?_)
        | (with_reducible refine Both.mk ?_ ?_)
        | (with_reducible refine VS.mk ?_)
        | (refine PSem.go (C := seat) seat_ok ?_)
        | (refine And.intro (PlanOK.mk (by kernel_rfl) rfl (by kernel_rfl) (by kernel_rfl)) ?_)
        | (refine And.intro rfl (Exists.intro _ (And.intro (by first | assumption | rfl) ?_)))
        | (refine And.intro ⟨rfl, rfl, rfl⟩ ?_)
        | (refine call_ro [] (find_zz l cl d.node hl hr _ rfl) GG_no rfl rfl rfl trivial ?_; rintro r bs' ext ⟨rfl, rfl⟩)
        | (refine call_ro [] (names_ok got cg d.node hgl false hg2) GG_no rfl rfl rfl trivial ?_; rintro r bs' ext ⟨rfl, rfl⟩)
        | (refine call_ro [] (drop_zz l cl d.node hl hr hf) GG_no rfl rfl rfl trivial ?_; rintro r bs' ext ⟨⟨c', hc', rfl⟩, rfl⟩)
        | (refine And.intro ⟨by omega, by simp only [List.length_map]; omega⟩ (Exists.intro _ (And.intro (by first | assumption | rfl) ?_)))
        | (refine BB.mk (fun _h => ?_) (fun _h => ?_) <;> (first | (exact absurd _h (by decide)) | (exfalso; simp only [boolSet] at _h <;> omega) | (simp only [boolSet] at _h) | skip))
        | (refine And.intro (by omega) ?_)
        | (refine BB.mk (fun _h => ?_) (fun _h => ?_) <;> (first | (exact absurd _h (by decide)) | (exfalso; simp only [boolSet] at _h <;> omega) | skip)))
      all_goals (try conv => whnf)
      exact ⟨_, _, FrzV.refl _ _, rfl, (fun _ _ => ⟨rfl, rfl, rfl, trivial⟩), fun _ => rfl, c', (by rw [← he2]; exact hc'), (by rw [← he2]; rfl), congrArg (fun z : Int => ([.box 3 [.v (.int .i64 z)], .box 22 [.z 4 (sent.map deC) cs], .box 22 [.z 4 (got.map deC) cg]] : List SB)) hw⟩
    · rw [if_neg hg] at hstep
      rw [hstep] at he1 he2
      dsimp only at he1 he2
      have hw : IntKind.i64.wrap ((k : Int) + 1) = ((k + 1 : Nat) : Int) := by rw [IntKind.wrap_i64]; omega
      repeat' ((try conv => whnf); first
        | (with_reducible refine OKv.go (C := seat) seat_ok ?_)
        | (with_reducible refine BB_true ?_)
        | (with_reducible refine BB_false ?_)
        | (with_reducible refine Both.mk ?_ ?_)
        | (with_reducible refine VS.mk ?_)
        | (refine PSem.go (C := seat) seat_ok ?_)
        | (refine And.intro (PlanOK.mk (by kernel_rfl) rfl (by kernel_rfl) (by kernel_rfl)) ?_)
        | (refine And.intro rfl (Exists.intro _ (And.intro (by first | assumption | rfl) ?_)))
        | (refine And.intro ⟨rfl, rfl, rfl⟩ ?_)
        | (refine call_ro [] (find_zz l cl d.node hl hr _ rfl) GG_no rfl rfl rfl trivial ?_; rintro r bs' ext ⟨rfl, rfl⟩)
        | (refine call_ro [] (names_ok got cg d.node hgl _ rfl) GG_no rfl rfl rfl trivial ?_; rintro r bs' ext ⟨rfl, rfl⟩)
        | (refine And.intro ⟨by omega, by simp only [List.length_map]; omega⟩ (Exists.intro _ (And.intro (by first | assumption | rfl) ?_)))
        | (refine BB.mk (fun _h => ?_) (fun _h => ?_) <;> (first | (exact absurd _h (by decide)) | (exfalso; simp only [boolSet] at _h <;> omega) | (simp only [boolSet] at _h) | skip))
        | (refine And.intro (by omega) ?_)
        | (refine BB.mk (fun _h => ?_) (fun _h => ?_) <;> (first | (exact absurd _h (by decide)) | (exfalso; simp only [boolSet] at _h <;> omega) | skip)))
      all_goals (try conv => whnf)
      all_goals first
        | exact ⟨k + 1, ⟨by omega, by omega, he2⟩, by omega, ⟨⟨[], by decide, GG_no, rfl, ⟨congrArg (fun z => some (SB.box 3 [.v (.int .i64 z)])) hw, rfl, rfl, trivial⟩, trivial, ⟨.inl rfl, .inl rfl, .inl rfl, .inl rfl, trivial⟩⟩, rfl⟩⟩
        | (exfalso; apply hg; exact ⟨by omega, by simp_all⟩)
  · obtain rfl : k = sent.length := by omega
    rw [List.drop_length] at he1 he2
    simp only [giveL] at he1 he2
    repeat' ((try conv => whnf); first
      | (with_reducible refine OKv.go (C := seat) seat_ok ?_)
      | (with_reducible refine BB_true ?_)
      | (with_reducible refine BB_false ?_)
      | (with_reducible refine Both.mk ?_ ?_)
      | (with_reducible refine VS.mk ?_)
      | (refine PSem.go (C := seat) seat_ok ?_)
      | (refine And.intro (PlanOK.mk (by kernel_rfl) rfl (by kernel_rfl) (by kernel_rfl)) ?_)
      | (refine And.intro rfl (Exists.intro _ (And.intro (by first | assumption | rfl) ?_)))
      | (refine And.intro ⟨rfl, rfl, rfl⟩ ?_)
      | (refine BB.mk (fun _h => ?_) (fun _h => ?_) <;> (first | (exact absurd _h (by decide)) | (exfalso; simp only [boolSet] at _h <;> omega) | (simp only [boolSet] at _h) | skip))
      | (refine And.intro (by omega) ?_)
      | (refine BB.mk (fun _h => ?_) (fun _h => ?_) <;> (first | (exact absurd _h (by decide)) | (exfalso; simp only [boolSet] at _h <;> omega) | skip)))
    all_goals (try conv => whnf)
    exact ⟨_, _, frz_tup 0 rfl (frz_nil _ 4) rfl, rfl, (fun _ _ => ⟨rfl, rfl, rfl, trivial⟩), fun _ => rfl, 0, (by rw [← he2]; exact Nat.le_refl _), (by rw [← he2]; rfl), congrArg (fun z : Int => ([.box 3 [.v (.int .i64 z)], .box 22 [.z 4 (sent.map deC) cs], .box 22 [.z 4 (got.map deC) cg]] : List SB)) (show ((sent.length : Nat) : Int) = ((at_ + (giveL got l (sent.drop at_)).1 : Nat) : Int) by omega)⟩
set_option maxRecDepth 100000 in
set_option maxHeartbeats 4000000 in
theorem dropper_ok (sent got : List De) (cs cg : Nat) : FnOK Try.prog GG 32 [] [.z 4 (sent.map deC) cs, .z 4 (got.map deC) cg] (fun r _ ext => r = .fn 40 [.p (.n 2) 0 0 0, .p (.n 0) 0 0 0, .p (.n 1) 0 0 0] ∧ ext = [.box 22 [.z 4 (sent.map deC) cs], .box 22 [.z 4 (got.map deC) cg], .box 3 [.v (.int .i64 0)]]) := by
  refine fn_new (C := seat) seat_ok [] GG_no (Try.func32) rfl rfl rfl rfl rfl rfl ?_
  repeat' ((try conv => whnf); first
    | (with_reducible refine OKv.go (C := seat) seat_ok ?_)
    | (with_reducible refine BB_true ?_)
    | (with_reducible refine BB_false ?_)
    | (with_reducible refine Both.mk ?_ ?_)
    | (with_reducible refine VS.mk ?_)
    | (refine PSem.go (C := seat) seat_ok ?_)
    | (refine And.intro (PlanOK.mk (by kernel_rfl) rfl (by kernel_rfl) (by kernel_rfl)) ?_)
    | (refine And.intro rfl (Exists.intro _ (And.intro (by first | assumption | rfl) ?_)))
    | (refine And.intro ⟨rfl, rfl, rfl⟩ ?_)
    | (refine And.intro (by omega) ?_)
    | (refine BB.mk (fun _h => ?_) (fun _h => ?_) <;> (first | (exact absurd _h (by decide)) | (exfalso; simp only [boolSet] at _h <;> omega) | skip)))
  all_goals (try conv => whnf)
  exact Fin.mk ⟨⟨[0, 1, 2], .fn 40 [.p (.n 2) 0 0 0, .p (.n 0) 0 0 0, .p (.n 1) 0 0 0], [.box 22 [.z 4 (sent.map deC) cs], .box 22 [.z 4 (got.map deC) cg], .box 3 [.v (.int .i64 0)]], by decide, rfl, ⟨rfl, rfl, rfl, trivial⟩, rfl, rfl⟩, rfl⟩
end Go.Proofs.Ytccegmbklgmgnaa
