/- Package push, by computing: what is deleted. -/
import Derived.Test.YthbgcdnjmdgkoaaP16
namespace Go.Proofs.Ythbgcdnjmdgkoaa
open Go.RowKit

theorem del_pq {α : Type} (p q m : List α) (y o : α) : List.take (p.length + q.length) (List.take p.length (p ++ y :: q ++ m) ++ List.take q.length (List.drop (p.length + 1) (p ++ y :: q ++ m)) ++ List.drop (p.length + q.length) (p ++ y :: q ++ m)) ++ List.replicate 1 o ++ List.drop (p.length + q.length + 1) (List.take p.length (p ++ y :: q ++ m) ++ List.take q.length (List.drop (p.length + 1) (p ++ y :: q ++ m)) ++ List.drop (p.length + q.length) (p ++ y :: q ++ m)) = p ++ q ++ o :: m := by
  have h1 : List.take p.length (p ++ y :: q ++ m) = p := by rw [List.append_assoc, List.take_left]
  have h2 : List.drop (p.length + 1) (p ++ y :: q ++ m) = q ++ m := by
    rw [List.append_assoc, List.drop_append]
    simp
  have h3 : List.drop 1 (List.drop (p.length + q.length) (p ++ y :: q ++ m)) = m := by
    rw [List.drop_drop]
    have e : p.length + q.length + 1 = (p ++ y :: q).length := by simp; omega
    rw [e, List.drop_left]
  rw [h1, h2, List.take_left]
  generalize List.drop (p.length + q.length) (p ++ y :: q ++ m) = X at h3 ⊢
  rw [← List.length_append, List.take_left, ← List.drop_drop, List.drop_left, h3]
  simp
theorem del_row {l more : List Int} {k a b c d e g x : Nat} (hk : k < l.length) (ha : a = k) (hb : b = l.length - (k + 1)) (hc : c = k + 1) (hd : d = l.length - 1) (hx : x = l.length - 1) (he : e = 1) (hg : g = l.length) :
    List.take x (List.take a (List.map bC (l ++ more)) ++ List.take b (List.drop c (List.map bC (l ++ more))) ++ List.drop d (List.map bC (l ++ more))) ++ List.replicate e [Value.int .u8 0] ++ List.drop g (List.take a (List.map bC (l ++ more)) ++ List.take b (List.drop c (List.map bC (l ++ more))) ++ List.drop d (List.map bC (l ++ more))) = (l.eraseIdx k ++ 0 :: more).map bC := by
  subst hb hc hd hx he hg
  subst ha
  obtain ⟨p, y, q, rfl, hp⟩ : ∃ p y q, l = p ++ y :: q ∧ p.length = a := ⟨l.take a, l[a], l.drop (a + 1), by rw [List.getElem_cons_drop, List.take_append_drop], by rw [List.length_take]; omega⟩
  subst hp
  have h := del_pq (p.map bC) (q.map bC) (more.map bC) (bC y) [Value.int .u8 0]
  simp only [List.length_map] at h
  have e1 : (p ++ y :: q).length - (p.length + 1) = q.length := by rw [List.length_append, List.length_cons]; omega
  have e2 : (p ++ y :: q).length - 1 = p.length + q.length := by rw [List.length_append, List.length_cons]; omega
  have e3 : (p ++ y :: q).length = p.length + q.length + 1 := by rw [List.length_append, List.length_cons]; omega
  have e4 : (p ++ y :: q).eraseIdx p.length = p ++ q := by
    rw [List.eraseIdx_append_of_length_le (Nat.le_refl _)]
    simp
  rw [e1, e2, e3, e4]
  simp only [List.map_append, List.map_cons]
  rw [h]
  rfl
set_option maxRecDepth 100000 in
set_option maxHeartbeats 4000000 in
theorem delete_raw (l more : List Int) (k : Nat) (j : Int) (cap c0 : Nat) (hk : k < l.length) (hj : j = k + 1) (hc : l.length ≤ cap) (hl : l.length ≤ 1099511627776) : FnOK Try.prog GG 18 [.row 5 1 c0 ((l ++ more).map bC)] [.s (.o 0) 1 0 l.length cap, .v (.int .i64 k), .v (.int .i64 j)] (fun r bs' ext => r = .s (.o 0) 1 0 (l.length - 1) cap ∧ bs' = [.row 5 1 c0 ((l.eraseIdx k ++ 0 :: more).map bC)] ∧ ext = []) := by
  subst hj
  refine fn_intro (C := seat) seat_ok [(5, (.of [(0, .take), (1, .take), (2, .take), (3, .take), (4, .take), (5, .take), (6, .last), (7, .last)]))] GG_no (Try.func18) rfl rfl rfl rfl rfl ?_
  repeat' ((try conv => whnf); first
    | (with_reducible refine BB_true ?_)
    | (with_reducible refine BB_false ?_)
    | (with_reducible refine Both.mk ?_ ?_)
    | (with_reducible refine VS.mk ?_)
    | (refine PSem.go (C := seat) seat_ok ?_)
    | (refine And.intro (PlanOK.mk (by kernel_rfl) rfl (by kernel_rfl) (by kernel_rfl)) ?_)
    | (refine And.intro rfl (Exists.intro _ (And.intro (by first | assumption | rfl) ?_)))
    | (refine And.intro ⟨rfl, rfl, rfl⟩ ?_)
    | (refine And.intro ⟨rfl, rfl, rfl, by simp; omega, by omega⟩ ?_)
    | (refine And.intro ⟨rfl, by simp; omega⟩ ?_)
    | (refine And.intro (by omega) ?_)
    | (refine BB.mk (fun _h => ?_) (fun _h => ?_) <;> (first | (exact absurd _h (by decide)) | (exfalso; simp only [boolSet] at _h <;> omega) | skip)))
  all_goals (try conv => whnf)
  · refine ⟨?_, congrArg (fun z => [SB.row 5 1 c0 z]) (del_row hk ?_ ?_ ?_ ?_ ?_ ?_ ?_), rfl⟩
    · congr 1 <;> omega
    all_goals omega
end Go.Proofs.Ythbgcdnjmdgkoaa
