/- Descriptors by computing: Delete, Drop. -/
import Derived.Test.YtfjankcpnhfogaaD09g
namespace Go.Proofs.Ytfjankcpnhfogaa
open Go.RowKit

theorem del_pq {α : Type} (p q : List α) (y o : α) : List.take (p.length + q.length) (List.take p.length (p ++ y :: q) ++ List.take q.length (List.drop (p.length + 1) (p ++ y :: q)) ++ List.drop (p.length + q.length) (p ++ y :: q)) ++ List.replicate 1 o ++ List.drop (p.length + q.length + 1) (List.take p.length (p ++ y :: q) ++ List.take q.length (List.drop (p.length + 1) (p ++ y :: q)) ++ List.drop (p.length + q.length) (p ++ y :: q)) = p ++ q ++ [o] := by
  have h1 : List.take p.length (p ++ y :: q) = p := by rw [List.take_left]
  have h2 : List.drop (p.length + 1) (p ++ y :: q) = q := by
    rw [List.drop_append]
    simp
  have h3 : List.drop 1 (List.drop (p.length + q.length) (p ++ y :: q)) = [] := by
    rw [List.drop_drop, List.drop_eq_nil_iff]
    simp
    omega
  rw [h1, h2, List.take_length]
  generalize List.drop (p.length + q.length) (p ++ y :: q) = X at h3 ⊢
  rw [← List.length_append, List.take_left, ← List.drop_drop, List.drop_left, h3]
  simp
theorem del_rowZ {A : List (List CV)} {o : List CV} {k a b c d e g x : Nat} (hk : k < A.length) (ha : a = k) (hb : b = A.length - (k + 1)) (hc : c = k + 1) (hd : d = A.length - 1) (hx : x = A.length - 1) (he : e = 1) (hg : g = A.length) :
    List.take x (List.take a A ++ List.take b (List.drop c A) ++ List.drop d A) ++ List.replicate e o ++ List.drop g (List.take a A ++ List.take b (List.drop c A) ++ List.drop d A) = A.eraseIdx k ++ [o] := by
  subst hb hc hd hx he hg
  subst ha
  obtain ⟨p, y, q, rfl, hp⟩ : ∃ p y q, A = p ++ y :: q ∧ p.length = a := ⟨A.take a, A[a], A.drop (a + 1), by rw [List.getElem_cons_drop, List.take_append_drop], by rw [List.length_take]; omega⟩
  subst hp
  have h := del_pq p q y o
  have e1 : (p ++ y :: q).length - (p.length + 1) = q.length := by rw [List.length_append, List.length_cons]; omega
  have e2 : (p ++ y :: q).length - 1 = p.length + q.length := by rw [List.length_append, List.length_cons]; omega
  have e3 : (p ++ y :: q).length = p.length + q.length + 1 := by rw [List.length_append, List.length_cons]; omega
  have e4 : (p ++ y :: q).eraseIdx p.length = p ++ q := by
    rw [List.eraseIdx_append_of_length_le (Nat.le_refl _)]
    simp
  rw [e1, e2, e3, e4]
  exact h
set_option maxRecDepth 100000 in
set_option maxHeartbeats 4000000 in
theorem delete_raw (A : List (List CV)) (n k : Nat) (j : Int) (cap c0 : Nat) (hn : n = A.length) (hk : k < n) (hj : j = k + 1) (hc : n ≤ cap) (hl : n ≤ 1099511627776) : FnOK Try.prog GG 38 [.row 27 4 c0 A] [.s (.o 0) 4 0 n cap, .v (.int .i64 k), .v (.int .i64 j)] (fun r bs' ext => r = .s (.o 0) 4 0 (n - 1) cap ∧ bs' = [.row 27 4 c0 (A.eraseIdx k ++ [[CV.v (.int .u8 0), .v (.int .u16 0), .v (.int .u8 0), .v (.slice none 0 0)]])] ∧ ext = []) := by
  subst hj
  refine fn_intro (C := seat) seat_ok [(5, (.of [(0, .take), (1, .take), (2, .take), (3, .take), (4, .take), (5, .take), (6, .last), (7, .last)]))] GG_no (Try.func38) rfl rfl rfl rfl rfl ?_
  repeat' ((try conv => whnf); first
    | (with_reducible refine OKv.go (C := seat) seat_ok ?_)
    | (with_reducible refine BB_true ?_)
    | (with_reducible refine BB_false ?_)
    | (with_reducible refine Both.mk ?_ ?_)
    | (with_reducible refine VS.mk ?_)
    | (refine PSem.go (C := seat) seat_ok ?_)
    | (refine And.intro (PlanOK.mk (by kernel_rfl) rfl (by kernel_rfl) (by kernel_rfl)) ?_)
    | (refine And.intro rfl (Exists.intro _ (And.intro (by first | assumption | rfl) ?_)))
    | (refine And.intro ⟨rfl, rfl, rfl⟩ ?_)
    | (refine Or.inl (And.intro ⟨rfl, rfl, rfl, by simp; omega, by omega⟩ ?_))
    | (refine And.intro ⟨rfl, by simp; omega⟩ ?_)
    | (refine And.intro (by omega) ?_)
    | (refine BB.mk (fun _h => ?_) (fun _h => ?_) <;> (first | (exact absurd _h (by decide)) | (exfalso; simp only [boolSet] at _h <;> omega) | skip)))
  all_goals (try conv => whnf)
  · refine ⟨?_, congrArg (fun z => [SB.row 27 4 c0 z]) (del_rowZ (hn ▸ hk) ?_ ?_ ?_ ?_ ?_ ?_ ?_), rfl⟩
    · congr 1 <;> omega
    all_goals omega
end Go.Proofs.Ytfjankcpnhfogaa
