/- Law DescAges, by computing. -/
import Derived.Test.YtocappiebmmpgaaD09n
namespace Go.Proofs.Ytocappiebmmpgaa
open Go.RowKit

theorem oldAt_older {l : List De} (h : ∀ y ∈ l, y.age < 254) : ∀ k, oldAt (l.map older) k = oldAt l k
  | 0 => rfl
  | k + 1 => by
    unfold oldAt
    rw [oldAt_older h k, List.getElem?_map]
    cases hk : l[k]? with
    | none => rfl
    | some d =>
      have hd := h d (List.mem_of_getElem? hk)
      simp only [Option.map_some]
      cases ha : oldAt l k with
      | none => rfl
      | some a =>
        simp only [List.getElem?_map]
        cases hy : l[a]? with
        | none => rfl
        | some y =>
          have hy' := h y (List.mem_of_getElem? hy)
          have e1 : (older d).age = d.age + 1 := by unfold older; simp only; rw [if_pos (by omega)]
          have e2 : (older y).age = y.age + 1 := by unfold older; simp only; rw [if_pos (by omega)]
          simp only [Option.map_some, e1, e2]
          by_cases hlt : y.age < d.age
          · rw [if_pos hlt, if_pos (by omega)]
          · rw [if_neg hlt, if_neg (by omega)]
def fullN (l : List De) (k : Nat) : Bool := (l.take k).any (fun d => decide (254 ≤ d.age))
theorem full_step {l : List De} {k : Nat} {y : De} (hy : l[k]? = some y) : fullN l (k + 1) = (fullN l k || decide (254 ≤ y.age)) := by
  unfold fullN
  rw [List.take_add_one, hy, List.any_append]
  simp
theorem full_end {l : List De} (h : fullN l l.length = false) : ∀ y ∈ l, y.age < 254 := by
  intro y hy
  unfold fullN at h
  rw [List.take_length, List.any_eq_false] at h
  have := h y hy
  simpa using this
def DeOk (y : De) : Prop := (0 ≤ y.node ∧ y.node ≤ 255) ∧ (0 ≤ y.inc ∧ y.inc ≤ 65535) ∧ (0 ≤ y.age ∧ y.age ≤ 255)
theorem view_fl {l : List De} {self room : Int} (h : FlOk l) : FlOk (viewN l self room 256) := by
  intro y hy
  obtain ⟨z, hz, rfl, _⟩ := view_mem 256 y hy
  exact h z hz
theorem few_facts {l : List De} (h : (l.all (fun d => decide (d.fl.length ≤ 8)) && decide (l.length ≤ 20)) = true) : FlOk l ∧ l.length ≤ 20 := by
  rw [Bool.and_eq_true, List.all_eq_true] at h
  refine ⟨fun y hy => ?_, by simpa using h.2⟩
  have := h.1 y hy
  simp only [decide_eq_true_eq] at this
  omega
theorem view_ok_mem {l : List De} {self room : Int} (h : ∀ y ∈ l, DeOk y) : ∀ y ∈ viewN l self room 256, DeOk y := by
  intro y hy
  obtain ⟨z, hz, rfl, _⟩ := view_mem 256 y hy
  obtain ⟨h1, h2, h3⟩ := h z hz
  refine ⟨h1, ?_, h3⟩
  show 0 ≤ max z.inc 1 ∧ max z.inc 1 ≤ 65535
  omega
theorem few_b (l : List De) (cap : Nat) (b : Bool) (hl : l.length ≤ 9223372036854775807) (hb : (l.all (fun d => decide (d.fl.length ≤ 8)) && decide (l.length ≤ 20)) = b) : FnOK Try.prog GG 8 [.ro 4 (l.map deC)] [.s (.o 0) 4 0 l.length cap] (fun r _ ext => r = .v (.bool b) ∧ ext = []) := by
  subst hb
  exact few_ok l cap hl
end Go.Proofs.Ytocappiebmmpgaa
