/- Rows of ids that rise: what is put and dropped. -/
import Derived.Test.YtoigdnfepmbpbaaITells
namespace Go.Proofs.Ytoigdnfepmbpbaa
open Go.RowKit

theorem eqB_iff {x y : Id_} : eqB x y = true ↔ x = y := by
  cases x; cases y
  simp [eqB]
theorem eqB_false {x y : Id_} : eqB x y = false ↔ x ≠ y := by rw [← Bool.not_eq_true, eqB_iff]
theorem less_trans {x y z : Id_} (h1 : lessB x y = true) (h2 : lessB y z = true) : lessB x z = true := by
  simp only [lessB, decide_eq_true_eq] at *
  omega
theorem less_irr (x : Id_) : ¬ lessB x x = true := by
  simp only [lessB, decide_eq_true_eq]
  omega
theorem less_tot {x y : Id_} (h : lessB x y = false) (hne : y ≠ x) : lessB y x = true := by
  have h3 : ¬ (y.n = x.n ∧ y.i = x.i ∧ y.s = x.s) := fun e => hne (by cases x; cases y; simp at e; simp [e])
  simp only [lessB, decide_eq_true_eq, decide_eq_false_iff_not] at *
  omega
abbrev Up (l : List Id_) : Prop := l.Pairwise fun a b => lessB a b = true
theorem up_cons {x : Id_} {l : List Id_} : Up (x :: l) ↔ (∀ z ∈ l, lessB x z = true) ∧ Up l := List.pairwise_cons
theorem go_up : ∀ (x : Id_) (r : List Id_), risingB.go x r = true ↔ Up (x :: r)
  | x, [] => by simp [risingB.go]
  | x, y :: r => by
    rw [risingB.go, Bool.and_eq_true, go_up y r, up_cons (x := x)]
    constructor
    · rintro ⟨h1, h2⟩
      refine ⟨fun z hz => ?_, h2⟩
      rcases List.mem_cons.1 hz with rfl | hz
      · exact h1
      · exact less_trans h1 ((up_cons.1 h2).1 z hz)
    · rintro ⟨h1, h2⟩
      exact ⟨h1 y (by simp), h2⟩
theorem rising_up (l : List Id_) : risingB l = true ↔ Up l := by
  cases l with
  | nil => simp [risingB]
  | cons x r => exact go_up x r
theorem insL_cons (y : Id_) (l : List Id_) (x : Id_) : insL (y :: l) x = if lessB x y then x :: y :: l else y :: insL l x := by
  simp only [insL, List.findIdx_cons]
  cases h : lessB x y <;> simp
theorem insL_nil (x : Id_) : insL [] x = [x] := rfl
theorem mem_ins {l : List Id_} {x z : Id_} : z ∈ insL l x ↔ z = x ∨ z ∈ l := by
  induction l with
  | nil => simp [insL_nil]
  | cons y l ih =>
    rw [insL_cons]
    split
    · simp
    · simp only [List.mem_cons, ih]
      constructor
      · rintro (h | h | h)
        · exact .inr (.inl h)
        · exact .inl h
        · exact .inr (.inr h)
      · rintro (h | h | h)
        · exact .inr (.inl h)
        · exact .inl h
        · exact .inr (.inr h)
theorem up_ins {l : List Id_} {x : Id_} (h : Up l) (hx : x ∉ l) : Up (insL l x) := by
  induction l with
  | nil => simp [insL_nil]
  | cons y l ih =>
    rw [insL_cons]
    rw [up_cons] at h
    split
    · rename_i hl
      refine up_cons.2 ⟨fun z hz => ?_, up_cons.2 h⟩
      rcases List.mem_cons.1 hz with rfl | hz
      · exact hl
      · exact less_trans hl (h.1 z hz)
    · rename_i hl
      refine up_cons.2 ⟨fun z hz => ?_, ih h.2 (fun hm => hx (by simp [hm]))⟩
      rcases mem_ins.1 hz with rfl | hz
      · exact less_tot (by simpa using hl) (fun e => hx (by simp [e]))
      · exact h.1 z hz
theorem any_mem {l : List Id_} {x : Id_} : (l.any fun y => eqB y x) = true ↔ x ∈ l := by
  rw [List.any_eq_true]
  constructor
  · rintro ⟨y, hy, h⟩
    rw [eqB_iff] at h
    exact h ▸ hy
  · intro h
    exact ⟨x, h, eqB_iff.2 rfl⟩
theorem mem_put {l : List Id_} {x z : Id_} : z ∈ putL l x ↔ z = x ∨ z ∈ l := by
  unfold putL
  split
  · rename_i h
    rw [any_mem] at h
    exact ⟨fun h => .inr h, fun h' => h'.elim (fun e => e ▸ h) id⟩
  · exact mem_ins
theorem up_put {l : List Id_} {x : Id_} (h : Up l) : Up (putL l x) := by
  unfold putL
  split
  · exact h
  · rename_i h'
    exact up_ins h (fun hm => h' (any_mem.2 hm))
theorem mem_drop {l : List Id_} {x z : Id_} : z ∈ dropL l x ↔ z ∈ l ∧ z ≠ x := by
  simp only [dropL, List.mem_filter, Bool.not_eq_true', eqB_false]
theorem up_drop {l : List Id_} {x : Id_} (h : Up l) : Up (dropL l x) := h.filter _
def madeL (l : List Id_) : List Id_ := l.foldl putL []
theorem made_fold (l a : List Id_) : (Up a → Up (l.foldl putL a)) ∧ ∀ z, z ∈ l.foldl putL a ↔ z ∈ l ∨ z ∈ a := by
  induction l generalizing a with
  | nil => exact ⟨fun h => h, fun z => by simp⟩
  | cons y l ih =>
    obtain ⟨h1, h2⟩ := ih (putL a y)
    refine ⟨fun h => h1 (up_put h), fun z => ?_⟩
    rw [List.foldl_cons, h2, mem_put, List.mem_cons]
    constructor
    · rintro (h | h | h)
      · exact .inl (.inr h)
      · exact .inl (.inl h)
      · exact .inr h
    · rintro ((h | h) | h)
      · exact .inr (.inl h)
      · exact .inl h
      · exact .inr (.inr h)
theorem up_made (l : List Id_) : Up (madeL l) := (made_fold l []).1 List.Pairwise.nil
theorem mem_made {l : List Id_} {z : Id_} : z ∈ madeL l ↔ z ∈ l := by
  have := (made_fold l []).2 z
  simpa [madeL] using this
theorem up_same : ∀ {a b : List Id_}, Up a → Up b → (∀ z, z ∈ a ↔ z ∈ b) → a = b
  | [], [], _, _, _ => rfl
  | [], y :: b, _, _, h => by have := (h y).2 (by simp); cases this
  | x :: a, [], _, _, h => by have := (h x).1 (by simp); cases this
  | x :: a, y :: b, ha, hb, h => by
    rw [up_cons] at ha hb
    have hxy : x = y := by
      rcases List.mem_cons.1 ((h x).1 (by simp)) with e | hx
      · exact e
      rcases List.mem_cons.1 ((h y).2 (by simp)) with e | hy
      · exact e.symm
      exact (less_irr x (less_trans (ha.1 y hy) (hb.1 x hx))).elim
    subst hxy
    congr 1
    refine up_same ha.2 hb.2 fun z => ?_
    constructor
    · intro hz
      rcases List.mem_cons.1 ((h z).1 (by simp [hz])) with rfl | hz'
      · exact (less_irr _ (ha.1 _ hz)).elim
      · exact hz'
    · intro hz
      rcases List.mem_cons.1 ((h z).2 (by simp [hz])) with rfl | hz'
      · exact (less_irr _ (hb.1 _ hz)).elim
      · exact hz'
theorem put_put (l : List Id_) (x : Id_) : putL (putL l x) x = putL l x := by
  have : ((putL l x).any fun y => eqB y x) = true := any_mem.2 (mem_put.2 (.inl rfl))
  rw [putL, if_pos this]
theorem drop_drop' (l : List Id_) (x : Id_) : dropL (dropL l x) x = dropL l x := by
  simp [dropL, List.filter_filter]
theorem drop_put {l : List Id_} (x : Id_) (h : Up l) : dropL (putL l x) x = dropL l x :=
  up_same (up_drop (up_put h)) (up_drop h) fun z => by
    rw [mem_drop, mem_drop, mem_put]
    constructor
    · rintro ⟨h1 | h1, h2⟩
      · exact (h2 h1).elim
      · exact ⟨h1, h2⟩
    · rintro ⟨h1, h2⟩
      exact ⟨.inr h1, h2⟩
def rotL (l : List Id_) (k : Nat) : List Id_ := l.drop k ++ l.take k
theorem made_rot (l : List Id_) (k : Nat) : madeL (rotL l k) = madeL l :=
  up_same (up_made _) (up_made _) fun z => by
    rw [mem_made, mem_made, rotL, List.mem_append, or_comm, ← List.mem_append, List.take_append_drop]
theorem madeL_len (l : List Id_) : (madeL l).length ≤ l.length := by
  have : ∀ (l a : List Id_), (l.foldl putL a).length ≤ l.length + a.length := by
    intro l
    induction l with
    | nil => intro a; simp
    | cons y l ih =>
      intro a
      have h1 := ih (putL a y)
      have h2 := putL_len a y
      simp only [List.foldl_cons, List.length_cons]
      omega
  have h := this l []
  simp only [List.length_nil, Nat.add_zero] at h
  exact h
theorem made_take {l : List Id_} {k : Nat} {y : Id_} (h : l[k]? = some y) : madeL (l.take (k + 1)) = putL (madeL (l.take k)) y := by
  rw [take_suc h, madeL, List.foldl_append]
  rfl
end Go.Proofs.Ytoigdnfepmbpbaa
