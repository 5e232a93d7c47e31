/- Stage 11: who is let in, and who fills a view. -/
import Derived.Test.YtjghbfbifkhloaaW11
namespace Go.Proofs.Ytjghbfbifkhloaa
open Go.RowKit

/-- Who stands there behind Admit. -/
def admL (l : List De) (d : De) (self room : Int) : List De :=
  if (putP l d self room).2 = true then (putP l d self room).1
  else if d.node = self ∨ d.inc < 1 ∨ 0 ≤ findZ d.node l ∨ l.length = 0 then l
  else match oldAt l l.length with
    | some k => match l[k]? with
      | some y => (putP (dropL y.node l) d self room).1
      | none => l
    | none => l
theorem zde_at {l : List De} {k : Nat} {y : De} (h : l[k]? = some y) : (l.map deC)[(k : Int).toNat]? = some [.v (.int .u8 y.node), .v (.int .u16 y.inc), .v (.int .u8 y.age), .z 2 (y.fl.map spC)] := by
  rw [Int.toNat_natCast, List.getElem?_map, h]; rfl
def fillL (got : List De) (self room : Int) : Nat → List De → List De
  | 0, l => l
  | k + 1, l => match got[k]? with
    | some d => (putP (fillL got self room k l) d self room).1
    | none => fillL got self room k l
theorem put_false {l : List De} {d : De} {self room : Int} (h : (putP l d self room).2 = false) : putP l d self room = (l, false) := by
  unfold putP at h ⊢
  split at h
  · rename_i h1; rw [if_pos h1]
  · rename_i h1
    rw [if_neg h1]
    split at h
    · rename_i h2
      rw [if_pos h2]
      split at h
      · rename_i h3; rw [if_pos h3]
      · cases h
    · rename_i h2
      rw [if_neg h2]
      split at h
      · cases h
      · rename_i h3; rw [if_neg h3]
set_option maxRecDepth 100000 in
set_option maxHeartbeats 4000000 in
theorem adm1_ok (l : List De) (cap : Nat) (hl : l.length ≤ 1099511627776) (hr : Rising l) (hf : FlOk l) (d : De) (cd : Nat) (hcd : d.fl.length ≤ cd) (hdl : d.fl.length ≤ 1099511627776) (self room : Int) (o : List De) (b : Bool) (he : putP l d self room = (o, b)) : FnOK Try.prog GG 31 [.box 27 [.v (.int .u8 d.node), .v (.int .u16 d.inc), .v (.int .u8 d.age), .z 2 (d.fl.map spC) cd], .box 5 [.v (.int .u8 self)], .box 3 [.v (.int .i64 room)]] [.z 4 (l.map deC) cap, .p (.o 0) 0 0 0, .p (.o 1) 0 0 0, .p (.o 2) 0 0 0] (fun r bs' ext => bs' = [.box 27 [.v (.int .u8 d.node), .v (.int .u16 d.inc), .v (.int .u8 d.age), .z 2 (d.fl.map spC) cd], .box 5 [.v (.int .u8 self)], .box 3 [.v (.int .i64 room)]] ∧ (∃ c', o.length ≤ c' ∧ r = .tup [.z 4 (o.map deC) c', .v (.bool b)]) ∧ ext = []) := by
  refine FnOK.pureB GG_no (fun _ _ => ⟨rfl, rfl, rfl, trivial⟩) (fn_intro (C := seat) seat_ok [] GG_no (Try.func31) rfl rfl rfl rfl rfl ?_)
  repeat' ((try conv => whnf); first
    | (with_reducible refine OKv.go (C := seat) seat_ok ?_)
    | (with_reducible refine BB_true ?_)
    | (with_reducible refine BB_false ?_)
    | (with_reducible refine Both.mk ?_ ?_)
    | (with_reducible refine VS.mk ?_)
    | (refine PSem.go (C := seat) seat_ok ?_)
    | (refine And.intro (PlanOK.mk (by kernel_rfl) rfl (by kernel_rfl) (by kernel_rfl)) ?_)
    | (refine And.intro rfl (Exists.intro _ (And.intro (by first | assumption | rfl) ?_)))
    | (refine And.intro ⟨rfl, rfl, rfl⟩ ?_)
    | (refine call_ro [] (put_zz l cap hl hr hf d cd hcd hdl self room o b he) GG_no rfl rfl rfl trivial ?_; rintro r bs' ext ⟨⟨c', hc', rfl⟩, rfl⟩)
    | (refine And.intro (by omega) ?_)
    | (refine BB.mk (fun _h => ?_) (fun _h => ?_) <;> (first | (exact absurd _h (by decide)) | (exfalso; simp only [boolSet] at _h <;> omega) | skip)))
  all_goals (try conv => whnf)
  exact ⟨_, _, FrzV.refl _ _, rfl, rfl, fun _ => rfl, c', hc', rfl⟩
set_option maxRecDepth 100000 in
set_option maxHeartbeats 4000000 in
theorem admit_put (l : List De) (cap : Nat) (hl : l.length ≤ 1099511627776) (hr : Rising l) (hf : FlOk l) (d : De) (cd : Nat) (hcd : d.fl.length ≤ cd) (hdl : d.fl.length ≤ 1099511627776) (self room : Int) (o : List De) (he : putP l d self room = (o, true)) : FnOK Try.prog GG 20 [] [.z 4 (l.map deC) cap, deS d cd, .v (.int .u8 self), .v (.int .i64 room)] (fun r _ ext => (∃ c', (admL l d self room).length ≤ c' ∧ r = .z 4 ((admL l d self room).map deC) c') ∧ ext = []) := by
  have hA : admL l d self room = o := by unfold admL; rw [he]; rfl
  refine FnOK.pure GG_no rfl (fn_intro (C := seat) seat_ok [] GG_no (Try.func20) rfl rfl rfl rfl rfl ?_)
  repeat' ((try conv => whnf); first
    | (with_reducible refine OKv.go (C := seat) seat_ok ?_)
    | (with_reducible refine BB_true ?_)
    | (with_reducible refine BB_false ?_)
    | (with_reducible refine Both.mk ?_ ?_)
    | (with_reducible refine VS.mk ?_)
    | (refine PSem.go (C := seat) seat_ok ?_)
    | (refine And.intro (PlanOK.mk (by kernel_rfl) rfl (by kernel_rfl) (by kernel_rfl)) ?_)
    | (refine And.intro rfl (Exists.intro _ (And.intro (by first | assumption | rfl) ?_)))
    | (refine And.intro ⟨rfl, rfl, rfl⟩ ?_)
    | (refine call_same [.n 0, .n 1, .n 2] (adm1_ok l cap hl hr hf d cd hcd hdl self room o true he) GG_no rfl rfl rfl ⟨⟨_, rfl, .inr ⟨(fun _ h => by cases h), rfl⟩⟩, ⟨_, rfl, .inr ⟨(fun _ h => by cases h), rfl⟩⟩, ⟨_, rfl, .inr ⟨(fun _ h => by cases h), rfl⟩⟩, trivial⟩ (by decide) ?_; rintro r bs' ext ⟨rfl, ⟨c1, hc1, rfl⟩, rfl⟩; refine And.intro rfl ?_)
    | (refine BB.mk (fun _h => ?_) (fun _h => ?_) <;> (first | (exact absurd _h (by decide)) | (exfalso; simp only [boolSet] at _h <;> omega) | (simp only [boolSet] at _h) | skip))
    | (refine And.intro (by omega) ?_)
    | (refine BB.mk (fun _h => ?_) (fun _h => ?_) <;> (first | (exact absurd _h (by decide)) | (exfalso; simp only [boolSet] at _h <;> omega) | skip)))
  all_goals (try conv => whnf)
  exact ⟨_, _, FrzV.refl _ _, rfl, rfl, fun _ => rfl, c1, (by rw [hA]; exact hc1), by rw [hA]⟩
set_option maxRecDepth 100000 in
set_option maxHeartbeats 4000000 in
theorem admit_no (l : List De) (cap : Nat) (hl : l.length ≤ 1099511627776) (hr : Rising l) (hf : FlOk l) (d : De) (cd : Nat) (hcd : d.fl.length ≤ cd) (hdl : d.fl.length ≤ 1099511627776) (self room : Int) (he : putP l d self room = (l, false)) (hn : d.node = self ∨ d.inc < 1 ∨ 0 ≤ findZ d.node l ∨ l.length = 0) (h0 : 0 ≤ d.inc) : FnOK Try.prog GG 20 [] [.z 4 (l.map deC) cap, deS d cd, .v (.int .u8 self), .v (.int .i64 room)] (fun r _ ext => (∃ c', (admL l d self room).length ≤ c' ∧ r = .z 4 ((admL l d self room).map deC) c') ∧ ext = []) := by
  have hA : admL l d self room = l := by unfold admL; rw [he]; simp only [Bool.false_eq_true, if_false]; rw [if_pos hn]
  have hlm : (l.map deC).length = l.length := List.length_map _
  refine FnOK.pure GG_no rfl (fn_intro (C := seat) seat_ok [] GG_no (Try.func20) rfl rfl rfl rfl rfl ?_)
  repeat' ((try conv => whnf); first
    | (with_reducible refine OKv.go (C := seat) seat_ok ?_)
    | (with_reducible refine BB_true ?_)
    | (with_reducible refine BB_false ?_)
    | (with_reducible refine Both.mk ?_ ?_)
    | (with_reducible refine VS.mk ?_)
    | (refine PSem.go (C := seat) seat_ok ?_)
    | (refine And.intro (PlanOK.mk (by kernel_rfl) rfl (by kernel_rfl) (by kernel_rfl)) ?_)
    | (refine And.intro rfl (Exists.intro _ (And.intro (by first | assumption | rfl) ?_)))
    | (refine And.intro ⟨rfl, rfl, rfl⟩ ?_)
    | (refine call_same [.n 0, .n 1, .n 2] (adm1_ok l cap hl hr hf d cd hcd hdl self room l false he) GG_no rfl rfl rfl ⟨⟨_, rfl, .inr ⟨(fun _ h => by cases h), rfl⟩⟩, ⟨_, rfl, .inr ⟨(fun _ h => by cases h), rfl⟩⟩, ⟨_, rfl, .inr ⟨(fun _ h => by cases h), rfl⟩⟩, trivial⟩ (by decide) ?_; rintro r bs' ext ⟨rfl, ⟨c1, hc1, rfl⟩, rfl⟩; refine And.intro rfl ?_)
    | (refine call_ro [] (find_zz l cap d.node hl hr _ rfl) GG_no rfl rfl rfl trivial ?_; rintro r bs' ext ⟨rfl, rfl⟩)
    | (refine BB.mk (fun _h => ?_) (fun _h => ?_) <;> (first | (exact absurd _h (by decide)) | (exfalso; simp only [boolSet] at _h <;> omega) | (simp only [boolSet] at _h) | skip))
    | (refine And.intro (by omega) ?_)
    | (refine BB.mk (fun _h => ?_) (fun _h => ?_) <;> (first | (exact absurd _h (by decide)) | (exfalso; simp only [boolSet] at _h <;> omega) | skip)))
  all_goals (try conv => whnf)
  all_goals exact ⟨_, _, FrzV.refl _ _, rfl, rfl, fun _ => rfl, c1, (by rw [hA]; exact hc1), by rw [hA]⟩
set_option maxRecDepth 100000 in
set_option maxHeartbeats 4000000 in
theorem admit_old (l : List De) (cap : Nat) (hl : l.length ≤ 1099511627776) (hr : Rising l) (hf : FlOk l) (d : De) (cd : Nat) (hcd : d.fl.length ≤ cd) (hdl : d.fl.length ≤ 1099511627776) (self room : Int) (he : putP l d self room = (l, false)) (hn : ¬ (d.node = self ∨ d.inc < 1 ∨ 0 ≤ findZ d.node l ∨ l.length = 0)) (k : Nat) (y : De) (ho : oldAt l l.length = some k) (hy : l[k]? = some y) (o : List De) (b : Bool) (he2 : putP (dropL y.node l) d self room = (o, b)) : FnOK Try.prog GG 20 [] [.z 4 (l.map deC) cap, deS d cd, .v (.int .u8 self), .v (.int .i64 room)] (fun r _ ext => (∃ c', (admL l d self room).length ≤ c' ∧ r = .z 4 ((admL l d self room).map deC) c') ∧ ext = []) := by
  have hA : admL l d self room = o := by
    unfold admL
    rw [he]
    simp only [Bool.false_eq_true, if_false]
    rw [if_neg hn, ho]
    simp only
    rw [hy]
    simp only
    rw [he2]
  have hlm : (l.map deC).length = l.length := List.length_map _
  have hrow := zde_at hy
  have hkl := getElem?_lt hy
  refine FnOK.pure GG_no rfl (fn_intro (C := seat) seat_ok [] GG_no (Try.func20) rfl rfl rfl rfl rfl ?_)
  repeat' ((try conv => whnf); first
    | (with_reducible refine OKv.go (C := seat) seat_ok ?_)
    | (with_reducible refine BB_true ?_)
    | (with_reducible refine BB_false ?_)
    | (with_reducible refine Both.mk ?_ ?_)
    | (with_reducible refine VS.mk ?_)
    | (refine PSem.go (C := seat) seat_ok ?_)
    | (refine And.intro (PlanOK.mk (by kernel_rfl) rfl (by kernel_rfl) (by kernel_rfl)) ?_)
    | (refine And.intro rfl (Exists.intro _ (And.intro (by first | assumption | rfl) ?_)))
    | (refine And.intro ⟨rfl, rfl, rfl⟩ ?_)
    | (refine call_same [.n 0, .n 1, .n 2] (adm1_ok l cap hl hr hf d cd hcd hdl self room l false he) GG_no rfl rfl rfl ⟨⟨_, rfl, .inr ⟨(fun _ h => by cases h), rfl⟩⟩, ⟨_, rfl, .inr ⟨(fun _ h => by cases h), rfl⟩⟩, ⟨_, rfl, .inr ⟨(fun _ h => by cases h), rfl⟩⟩, trivial⟩ (by decide) ?_; rintro r bs' ext ⟨rfl, ⟨c1, hc1, rfl⟩, rfl⟩; refine And.intro rfl ?_)
    | (refine call_ro [] (find_zz l cap d.node hl hr _ rfl) GG_no rfl rfl rfl trivial ?_; rintro r bs' ext ⟨rfl, rfl⟩)
    | (refine call_ro [] (oldest_zz l cap (k : Int) hl (by rw [ho]; rfl)) GG_no rfl rfl rfl trivial ?_; rintro r bs' ext ⟨rfl, rfl⟩)
    | (refine call_ro [] (drop_zz l cap y.node hl hr hf) GG_no rfl rfl rfl trivial ?_; rintro r bs' ext ⟨⟨c2, hc2, rfl⟩, rfl⟩)
    | (refine call_same [.n 0, .n 1, .n 2] (adm1_ok (dropL y.node l) c2 (Nat.le_trans drop_len hl) (drop_rising hr) (fun z hz => hf z (drop_mem hz)) d cd hcd hdl self room o b he2) GG_no rfl rfl rfl ⟨⟨_, rfl, .inr ⟨(fun _ h => by cases h), rfl⟩⟩, ⟨_, rfl, .inr ⟨(fun _ h => by cases h), rfl⟩⟩, ⟨_, rfl, .inr ⟨(fun _ h => by cases h), rfl⟩⟩, trivial⟩ (by decide) ?_; rintro r bs' ext ⟨rfl, ⟨c1, hc1, rfl⟩, rfl⟩; refine And.intro rfl ?_)
    | (refine And.intro ⟨by omega, by simp only [List.length_map]; omega⟩ (Exists.intro _ (And.intro (by first | assumption | rfl) ?_)))
    | (refine BB.mk (fun _h => ?_) (fun _h => ?_) <;> (first | (exact absurd _h (by decide)) | (exfalso; simp only [boolSet] at _h <;> omega) | (simp only [boolSet] at _h) | skip))
    | (refine And.intro (by omega) ?_)
    | (refine BB.mk (fun _h => ?_) (fun _h => ?_) <;> (first | (exact absurd _h (by decide)) | (exfalso; simp only [boolSet] at _h <;> omega) | skip)))
  all_goals (try conv => whnf)
  all_goals exact ⟨_, _, FrzV.refl _ _, rfl, rfl, fun _ => rfl, c1, (by rw [hA]; exact hc1), by rw [hA]⟩
end Go.Proofs.Ytjghbfbifkhloaa
