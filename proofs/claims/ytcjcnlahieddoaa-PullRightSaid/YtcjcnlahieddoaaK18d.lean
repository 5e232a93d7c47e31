/- Package pull, by computing: the reference. -/
import Derived.Test.YtcjcnlahieddoaaK18c
namespace Go.Proofs.Ytcjcnlahieddoaa
open Go.RowKit

theorem lessB_iff {a b : Id_} : lessB a b = true ↔ (a.n < b.n ∨ (a.n = b.n ∧ (a.i < b.i ∨ (a.i = b.i ∧ a.s < b.s)))) := decide_eq_true_iff
theorem eqB_iff' {a b : Id_} : eqB a b = true ↔ (a.n = b.n ∧ a.i = b.i ∧ a.s = b.s) := decide_eq_true_iff
theorem lessB_trans {a b c : Id_} (h : lessB a b = true) (k : lessB b c = true) : lessB a c = true := by
  rw [lessB_iff] at *; omega
theorem lessB_tot {a b : Id_} (h : eqB a b = false) : lessB b a = !lessB a b := by
  rw [← Bool.not_eq_true, eqB_iff'] at h
  rw [Bool.eq_iff_iff, Bool.not_eq_true', ← Bool.not_eq_true, lessB_iff, lessB_iff]
  omega
def riseP (l : List Ask_) : Prop := l.Pairwise fun a b => lessB a.id b.id = true
theorem rise_pair : ∀ {l : List Ask_}, risingB (idsL l) = true → riseP l
  | [], _ => List.Pairwise.nil
  | [a], _ => by simp [riseP]
  | a :: b :: l, h => by
    rw [rising_iff] at h
    have h2 : riseP (b :: l) := rise_pair (l := b :: l) (by
      rw [rising_iff]
      intro i y z hi h1 h2
      exact h (i + 1) y z (by simp [idsL] at hi ⊢; omega) (by simpa using h1) (by simpa using h2))
    have h0 : lessB a.id b.id = true := h 0 a.id b.id (by simp [idsL]) rfl rfl
    refine List.Pairwise.cons (fun c hc => ?_) h2
    rcases List.mem_cons.1 hc with rfl | hc
    · exact h0
    · exact lessB_trans h0 ((List.pairwise_cons.1 h2).1 c hc)
/-- Where one comes in. -/
def insF (l : List Ask_) (x : Ask_) : List Ask_ := l.take (l.findIdx fun y => lessB x.id y.id) ++ x :: l.drop (l.findIdx fun y => lessB x.id y.id)
theorem ins_eq : ∀ {l : List Ask_} {x : Ask_}, riseP l → (∀ y ∈ l, eqB y.id x.id = false) → insF l x = insA l x
  | [], x, _, _ => rfl
  | a :: l, x, hr, hn => by
    obtain ⟨h1, h2⟩ := List.pairwise_cons.1 hr
    have ha := lessB_tot (hn a (by simp))
    cases hx : lessB x.id a.id with
    | true =>
      have e1 : lessB a.id x.id = false := by have h9 := congrArg not ha; rw [hx, Bool.not_not] at h9; exact h9.symm
      have e2 : ∀ y ∈ l, lessB y.id x.id = false := fun y hy => by
        have := lessB_trans hx (h1 y hy)
        have h3 := lessB_tot (hn y (by simp [hy]))
        have h9 := congrArg not h3
        rw [this, Bool.not_not] at h9
        exact h9.symm
      have f1 : (a :: l).findIdx (fun y => lessB x.id y.id) = 0 := by simp [List.findIdx_cons, hx]
      rw [insF, f1, insA, List.filter_cons, e1]
      have g1 : l.filter (fun y => lessB y.id x.id) = [] := List.filter_eq_nil_iff.2 (fun y hy => by rw [e2 y hy]; decide)
      have g2 : (a :: l).filter (fun y => !lessB y.id x.id) = a :: l := List.filter_eq_self.2 (fun y hy => by
        rcases List.mem_cons.1 hy with rfl | hy
        · rw [e1]; rfl
        · rw [e2 y hy]; rfl)
      rw [g1, g2]
      rfl
    | false =>
      have e1 : lessB a.id x.id = true := by have h9 := congrArg not ha; rw [hx, Bool.not_not] at h9; exact h9.symm
      have f1 : (a :: l).findIdx (fun y => lessB x.id y.id) = l.findIdx (fun y => lessB x.id y.id) + 1 := by simp [List.findIdx_cons, hx]
      have ih := ins_eq (x := x) h2 (fun y hy => hn y (by simp [hy]))
      rw [insF, f1, insA, List.filter_cons, e1, List.filter_cons, e1]
      rw [insF, insA] at ih
      simp only [List.take_succ_cons, List.drop_succ_cons, if_true, List.cons_append, Bool.not_true, Bool.false_eq_true, if_false]
      rw [ih]
/-- What stands so far. -/
def insK (l : List Ask_) (x : Ask_) (j k : Nat) : List Ask_ := if k ≤ j then l.take k else l.take j ++ x :: (l.take k).drop j
theorem insK_lt {l : List Ask_} {x y : Ask_} {j k : Nat} (hy : l[k]? = some y) (h : k < j) : insK l x j (k + 1) = insK l x j k ++ [y] := by
  rw [insK, if_pos (by omega), insK, if_pos (by omega), List.take_add_one, hy]; rfl
theorem insK_eq {l : List Ask_} {x y : Ask_} {k : Nat} (hy : l[k]? = some y) : insK l x k (k + 1) = insK l x k k ++ [x] ++ [y] := by
  have hk := getElem?_lt hy
  rw [insK, if_neg (by omega), insK, if_pos (Nat.le_refl _), List.take_add_one, hy, List.drop_append, List.drop_of_length_le (by simp; omega)]
  simp
  rw [show k - min k l.length = 0 by omega]; rfl
theorem insK_gt {l : List Ask_} {x y : Ask_} {j k : Nat} (hy : l[k]? = some y) (h : j < k) : insK l x j (k + 1) = insK l x j k ++ [y] := by
  have hk := getElem?_lt hy
  rw [insK, if_neg (by omega), insK, if_neg (by omega), List.take_add_one, hy, List.drop_append_of_le_length (by simp; omega)]
  simp
theorem insK_len {l : List Ask_} {x : Ask_} {j k : Nat} (hk : k ≤ l.length) : (insK l x j k).length = if k ≤ j then k else k + 1 := by
  unfold insK
  split
  · rw [List.length_take]; omega
  · simp; omega
end Go.Proofs.Ytcjcnlahieddoaa
