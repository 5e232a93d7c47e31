/- Asks that are added one by one. -/
import Derived.Test.YtcjcnlahieddoaaK18i
namespace Go.Proofs.Ytcjcnlahieddoaa
open Go.RowKit

def addsL (most : Int) (l : List Ask_) : List Ask_ := l.foldl (fun a x => (addR a x most).1) []
theorem adds_take {most : Int} {l : List Ask_} {k : Nat} {y : Ask_} (h : l[k]? = some y) : addsL most (l.take (k + 1)) = (addR (addsL most (l.take k)) y most).1 := by
  unfold addsL
  rw [List.take_add_one, h, List.foldl_append]
  rfl
theorem ins_mem {l : List Ask_} {x y : Ask_} : y ∈ insA l x ↔ y = x ∨ y ∈ l := by
  unfold insA
  rw [List.mem_append, List.mem_cons, List.mem_filter, List.mem_filter]
  cases h : lessB y.id x.id <;> simp [or_comm]
theorem ins_len (l : List Ask_) (x : Ask_) : (insA l x).length = l.length + 1 := by
  have h : ∀ (l : List Ask_), (l.filter fun a => lessB a.id x.id).length + (l.filter fun a => !lessB a.id x.id).length = l.length := by
    intro l
    induction l with
    | nil => rfl
    | cons a l ih =>
      cases h : lessB a.id x.id <;> simp [h] <;> omega
  have := h l
  unfold insA
  rw [List.length_append, List.length_cons]
  omega
theorem ins_rise {l : List Ask_} {x : Ask_} (h : riseP l) (hn : ∀ y ∈ l, eqB y.id x.id = false) : riseP (insA l x) := by
  unfold insA riseP
  rw [List.pairwise_append]
  have hb : ∀ y ∈ l.filter (fun a => !lessB a.id x.id), lessB x.id y.id = true := fun y hy => by
    obtain ⟨h1, h2⟩ := List.mem_filter.1 hy
    rw [lessB_tot (hn y h1)]
    exact h2
  refine ⟨h.filter _, List.pairwise_cons.2 ⟨hb, h.filter _⟩, fun a ha b hb' => ?_⟩
  have h1 := (List.mem_filter.1 ha).2
  rcases List.mem_cons.1 hb' with rfl | hb'
  · exact h1
  · exact lessB_trans h1 (hb b hb')
/-- A list of asks that is right, of so many at most. -/
structure AOk (most : Int) (l : List Ask_) : Prop where
  rise : riseP l
  lf : ∀ y ∈ l, 0 < y.lf
  len : (l.length : Int) ≤ most
  ok : ∀ y ∈ l, y.ok
theorem AOk.nil {most : Int} (h : 0 ≤ most) : AOk most [] := ⟨List.Pairwise.nil, fun _ h => absurd h List.not_mem_nil, h, fun _ h => absurd h List.not_mem_nil⟩
theorem any_ne {l : List Ask_} {x : Id_} (h : ((idsL l).any fun y => eqB y x) = false) : ∀ y ∈ l, eqB y.id x = false := fun y hy => by
  have := List.any_eq_false.1 h y.id (List.mem_map.2 ⟨y, hy, rfl⟩)
  simpa using this
theorem AOk.add {most : Int} {l : List Ask_} (h : AOk most l) {x : Ask_} (hx : x.ok) : AOk most (addR l x most).1 := by
  unfold addR
  split
  · exact h
  · rename_i h0
    split
    · exact h
    · rename_i h1
      split
      · exact h
      · rename_i h2
        have h0' := hx.l0
        refine ⟨ins_rise h.rise (any_ne (by simpa using h1)), fun y hy => ?_, ?_, fun y hy => ?_⟩
        · rcases ins_mem.1 hy with rfl | hy
          · omega
          · exact h.lf y hy
        · rw [ins_len]; omega
        · rcases ins_mem.1 hy with rfl | hy
          · exact hx
          · exact h.ok y hy
theorem adds_ok {most : Int} (hm : 0 ≤ most) {l : List Ask_} (h : ∀ y ∈ l, y.ok) : AOk most (addsL most l) := by
  have : ∀ (l a : List Ask_), AOk most a → (∀ y ∈ l, y.ok) → AOk most (l.foldl (fun a x => (addR a x most).1) a) := by
    intro l
    induction l with
    | nil => intro a ha _; exact ha
    | cons x l ih => intro a ha hl; exact ih _ (ha.add (hl x List.mem_cons_self)) (fun y hy => hl y (List.mem_cons_of_mem _ hy))
  exact this l [] (AOk.nil hm) h
theorem rise_up {l : List Ask_} (h : riseP l) : risingB (idsL l) = true := by
  rw [rising_up]
  exact List.pairwise_map.2 h
theorem AOk.right {m : Int} {l : List Ask_} (h : AOk m l) (most : Int) : rightA l most = decide ((l.length : Int) ≤ most) := by
  unfold rightA
  have h1 : (l.all fun a => decide (0 < a.lf)) = true := List.all_eq_true.2 fun y hy => decide_eq_true (h.lf y hy)
  rw [h1, rise_up h.rise, Bool.and_true, Bool.and_true, Bool.eq_iff_iff]
  simp only [Bool.and_eq_true, decide_eq_true_eq]
  omega
theorem right_zero {l : List Ask_} {k : Nat} {y : Ask_} (hk : k < l.length) (hy : y.lf = 0) (most : Int) : rightA (l.set k y) most = false := by
  unfold rightA
  have h1 : ((l.set k y).all fun a => decide (0 < a.lf)) = false := List.all_eq_false.2 ⟨y, List.mem_of_getElem? (i := k) (by rw [List.getElem?_set, if_pos rfl, if_pos hk]), by simp [hy]⟩
  rw [h1, Bool.and_false, Bool.false_and]
def twiceL (l : List Ask_) (k : Nat) (y : Ask_) : List Ask_ := l.take (k + 1) ++ y :: l.drop (k + 1)
theorem right_twice {l : List Ask_} {k : Nat} {y : Ask_} (hy : l[k]? = some y) (most : Int) : rightA (twiceL l k y) most = false := by
  have : ¬ Up (idsL (twiceL l k y)) := fun h => by
    unfold twiceL at h
    rw [List.take_add_one, hy] at h
    have h := List.pairwise_map.1 h
    have h := (List.pairwise_append.1 h).2.2 y (by simp) y (by simp)
    exact less_irr _ h
  have h2 : risingB (idsL (twiceL l k y)) = false := by
    rw [← Bool.not_eq_true, rising_up]
    exact this
  unfold rightA
  rw [h2, Bool.and_false]
theorem made_up {l : List Id_} (h : Up l) : madeL l = l := up_same (up_made l) h fun z => mem_made
theorem rise_same : ∀ {a b : List Ask_}, riseP a → riseP b → (∀ z, z ∈ a ↔ z ∈ b) → a = b
  | [], [], _, _, _ => rfl
  | [], y :: b, _, _, h => by have := (h y).2 (by simp); cases this
  | x :: a, [], _, _, h => by have := (h x).1 (by simp); cases this
  | x :: a, y :: b, ha, hb, h => by
    obtain ⟨ha1, ha2⟩ := List.pairwise_cons.1 ha
    obtain ⟨hb1, hb2⟩ := List.pairwise_cons.1 hb
    have hxy : x = y := by
      rcases List.mem_cons.1 ((h x).1 (by simp)) with e | hx
      · exact e
      rcases List.mem_cons.1 ((h y).2 (by simp)) with e | hy
      · exact e.symm
      exact (less_irr x.id (less_trans (ha1 y hy) (hb1 x hx))).elim
    subst hxy
    congr 1
    refine rise_same ha2 hb2 fun z => ?_
    constructor
    · intro hz
      rcases List.mem_cons.1 ((h z).1 (by simp [hz])) with rfl | hz'
      · exact (less_irr _ (ha1 _ hz)).elim
      · exact hz'
    · intro hz
      rcases List.mem_cons.1 ((h z).2 (by simp [hz])) with rfl | hz'
      · exact (less_irr _ (hb1 _ hz)).elim
      · exact hz'
theorem add_in {a : List Ask_} {x : Ask_} {most : Int} (h0 : x.lf ≠ 0) (hn : ∀ y ∈ a, y.id ≠ x.id) (hl : (a.length : Int) < most) : addR a x most = (insA a x, 0) := by
  unfold addR
  rw [if_neg h0, if_neg, if_neg (by omega)]
  intro h
  obtain ⟨y, hy, e⟩ := List.any_eq_true.1 h
  obtain ⟨z, hz, rfl⟩ := List.mem_map.1 hy
  exact hn z hz (eqB_iff.1 e)
theorem sl_eq {a : Nm} {sz e l c l' c' : Nat} (h : l = l') (h2 : c = c') : SV.s a sz e l c = .s a sz e l' c' := by rw [h, h2]
def Apart (l : List Ask_) : Prop := l.Pairwise fun a b => a.id ≠ b.id
/-- Asks of unlike ids, put one by one where there is room: all are there. -/
theorem adds_mem {most : Int} : ∀ (l a : List Ask_), riseP a → Apart l → (∀ x ∈ l, x.lf ≠ 0) → (∀ x ∈ l, ∀ y ∈ a, y.id ≠ x.id) → (a.length : Int) + l.length ≤ most →
    riseP (l.foldl (fun a x => (addR a x most).1) a) ∧ (∀ z, z ∈ l.foldl (fun a x => (addR a x most).1) a ↔ z ∈ a ∨ z ∈ l) ∧ (l.foldl (fun a x => (addR a x most).1) a).length = a.length + l.length
  | [], a, ha, _, _, _, _ => ⟨ha, fun z => by simp, by simp⟩
  | x :: l, a, ha, hl, h0, hn, hr => by
    obtain ⟨h1, h2⟩ := List.pairwise_cons.1 hl
    have hr1 : (a.length : Int) + l.length + 1 ≤ most := by rw [List.length_cons] at hr; omega
    have e : addR a x most = (insA a x, 0) := add_in (most := most) (h0 x List.mem_cons_self) (hn x List.mem_cons_self) (by omega)
    have hi := adds_mem (most := most) l (insA a x) (ins_rise ha fun y hy => eqB_false.2 (hn x List.mem_cons_self y hy)) h2 (fun y hy => h0 y (List.mem_cons_of_mem _ hy)) (fun y hy z hz => by
      rcases ins_mem.1 hz with rfl | hz
      · exact h1 y hy
      · exact hn y (List.mem_cons_of_mem _ hy) z hz) (by rw [ins_len]; omega)
    have e2 : (x :: l).foldl (fun a x => (addR a x most).1) a = l.foldl (fun a x => (addR a x most).1) (insA a x) := by rw [List.foldl_cons, e]
    rw [e2]
    refine ⟨hi.1, fun z => ?_, by rw [hi.2.2, ins_len, List.length_cons]; omega⟩
    rw [hi.2.1, ins_mem, List.mem_cons]
    constructor
    · rintro ((h | h) | h)
      · exact .inr (.inl h)
      · exact .inl h
      · exact .inr (.inr h)
    · rintro (h | h | h)
      · exact .inl (.inr h)
      · exact .inl (.inl h)
      · exact .inr h
def rotA (l : List Ask_) (k : Nat) : List Ask_ := l.drop k ++ l.take k
theorem apart_rot {l : List Ask_} (h : Apart l) (k : Nat) : Apart (rotA l k) := by
  have h2 : Apart (l.take k ++ l.drop k) := by rw [List.take_append_drop]; exact h
  obtain ⟨h3, h4, h5⟩ := List.pairwise_append.1 h2
  exact List.pairwise_append.2 ⟨h4, h3, fun a ha b hb => (h5 b hb a ha).symm⟩
theorem mem_rot {l : List Ask_} {k : Nat} {z : Ask_} : z ∈ rotA l k ↔ z ∈ l := by
  unfold rotA
  rw [List.mem_append, or_comm, ← List.mem_append, List.take_append_drop]
theorem rot_len (l : List Ask_) (k : Nat) : (rotA l k).length = l.length := by
  simp only [rotA, List.length_append, List.length_take, List.length_drop]; omega
theorem adds_rot {most : Int} {l : List Ask_} (h : Apart l) (h0 : ∀ x ∈ l, x.lf ≠ 0) (hl : (l.length : Int) ≤ most) (k : Nat) : addsL most (rotA l k) = addsL most l := by
  have h1 := adds_mem (most := most) l [] List.Pairwise.nil h h0 (fun x _ y hy => absurd hy List.not_mem_nil) (by simpa using hl)
  have h2 := adds_mem (most := most) (rotA l k) [] List.Pairwise.nil (apart_rot h k) (fun x hx => h0 x (mem_rot.1 hx)) (fun x _ y hy => absurd hy List.not_mem_nil) (by rw [rot_len]; simpa using hl)
  refine rise_same h2.1 h1.1 fun z => ?_
  unfold addsL
  rw [h2.2.1, h1.2.1, mem_rot]
theorem drop_ins {l : List Ask_} {x : Ask_} (h : riseP l) (hn : ∀ y ∈ l, y.id ≠ x.id) : dropA (insA l x) x.id = l :=
  rise_same (List.Pairwise.filter _ (ins_rise h fun y hy => eqB_false.2 (hn y hy))) h fun z => by
    unfold dropA
    rw [List.mem_filter, ins_mem]
    constructor
    · rintro ⟨rfl | h1, h2⟩
      · simp [eqB] at h2
      · exact h1
    · intro h1
      exact ⟨.inr h1, by rw [eqB_false.2 (hn z h1)]; rfl⟩
theorem id_any {l : List Ask_} {x : Id_} : ((idsL l).any fun y => eqB y x) = true ↔ ∃ y ∈ l, y.id = x := by
  rw [any_mem]
  exact List.mem_map
end Go.Proofs.Ytcjcnlahieddoaa
