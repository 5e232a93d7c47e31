/- Descriptors by computing: Delete, Drop. -/
import Derived.Test.YtocappiebmmpgaaD09g
namespace Go.Proofs.Ytocappiebmmpgaa
open Go.RowKit

theorem del_pq {α : Type} (p q : List α) (y o : α) : List.take (p.length + q.length) (List.take p.length (p ++ y :: q) ++ List.take q.length (List.drop (p.length + 1) (p ++ y :: q)) ++ List.drop (p.length + q.length) (p ++ y :: q)) ++ List.replicate 1 o ++ List.drop (p.length + q.length + 1) (List.take p.length (p ++ y :: q) ++ List.take q.length (List.drop (p.length + 1) (p ++ y :: q)) ++ List.drop (p.length + q.length) (p ++ y :: q)) = p ++ q ++ [o] := by
  have h1 : List.take p.length (p ++ y :: q) = p := by rw [List.take_left]
  have h2 : List.drop (p.length + 1) (p ++ y :: q) = q := by
    rw [List.drop_append]
    simp
  have h3 : List.drop 1 (List.drop (p.length + q.length) (p ++ y :: q)) = [] := by
    rw [List.drop_drop, List.drop_eq_nil_iff]
    simp
    omega
  rw [h1, h2, List.take_length]
  generalize List.drop (p.length + q.length) (p ++ y :: q) = X at h3 ⊢
  rw [← List.length_append, List.take_left, ← List.drop_drop, List.drop_left, h3]
  simp
theorem del_rowZ {A : List (List CV)} {o : List CV} {k a b c d e g x : Nat} (hk : k < A.length) (ha : a = k) (hb : b = A.length - (k + 1)) (hc : c = k + 1) (hd : d = A.length - 1) (hx : x = A.length - 1) (he : e = 1) (hg : g = A.length) :
    List.take x (List.take a A ++ List.take b (List.drop c A) ++ List.drop d A) ++ List.replicate e o ++ List.drop g (List.take a A ++ List.take b (List.drop c A) ++ List.drop d A) = A.eraseIdx k ++ [o] := by
  subst hb hc hd hx he hg
  subst ha
  obtain ⟨p, y, q, rfl, hp⟩ : ∃ p y q, A = p ++ y :: q ∧ p.length = a := ⟨A.take a, A[a], A.drop (a + 1), by rw [List.getElem_cons_drop, List.take_append_drop], by rw [List.length_take]; omega⟩
  subst hp
  have h := del_pq p q y o
  have e1 : (p ++ y :: q).length - (p.length + 1) = q.length := by rw [List.length_append, List.length_cons]; omega
  have e2 : (p ++ y :: q).length - 1 = p.length + q.length := by rw [List.length_append, List.length_cons]; omega
  have e3 : (p ++ y :: q).length = p.length + q.length + 1 := by rw [List.length_append, List.length_cons]; omega
  have e4 : (p ++ y :: q).eraseIdx p.length = p ++ q := by
    rw [List.eraseIdx_append_of_length_le (Nat.le_refl _)]
    simp
  rw [e1, e2, e3, e4]
  exact h
end Go.Proofs.Ytocappiebmmpgaa
