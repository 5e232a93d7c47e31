/- A region that draws its order, walked once, by a plan: what yields in every world that meets S may be taken as soon as it is ready; what else there is comes up alone. -/
import Derived.Test.YtkcdomafdjpbjaaBase
import Derived.OrdersHeld
import Derived.Deep.RegionHeld
namespace Go.Proofs.Ytkcdomafdjpbjaa
open Go.RowKit

section
variable {P : Program} {ops : Array Oper} {Q : Exit → Act → World → Prop} {S : World → Prop} {F : List Nat}

/-- Whatever order comes up: S is owed behind each operation, but for those of F, which wait for all that is taken by S. -/
def anyF (P : Program) (ops : Array Oper) (Q : Exit → Act → World → Prop) (S : World → Prop) (F : List Nat) : Nat → Array Bool → Act → World → Prop
  | 0, listed, a, w => Region.ready .any ops listed = [] ∧ Q .normal a w
  | fuel + 1, listed, a, w =>
    (Region.ready .any ops listed = [] → Q .normal a w) ∧
    ∀ i ∈ Region.ready .any ops listed, wpOp P ops Q i (fun a' w' => (F.contains i = false → S w') ∧ anyF P ops Q S F fuel (listed.setIfInBounds i true) a' w') a w

theorem any_of_F : ∀ (fuel : Nat) (listed : Array Bool) (a : Act) (w : World), anyF P ops Q S F fuel listed a w → wpAny P .any ops Q fuel listed a w
  | 0, _, _, _, h => h
  | fuel + 1, _, _, _, h => ⟨h.1, fun i hi => wpOp_mono (fun a' w' h' => any_of_F fuel _ a' w' h'.2) (h.2 i hi)⟩

theorem waits_of_ready {listed : Array Bool} {i j : Nat} {oj : Oper} (hr : i ∈ Region.ready .any ops listed) (hj : j ∈ Region.ready .any ops listed) (hoj : ops[j]? = some oj) :
    ∀ e ∈ oj.after, Region.binds .any e = true → e.on ≠ i := by
  obtain ⟨_, oj', hoj', hall⟩ := mem_ready.1 hj
  obtain rfl : oj' = oj := Option.some.inj (hoj'.symm.trans hoj)
  intro e he hb heq
  have h1 := hall e he hb
  have h0 := (mem_ready.1 hr).1
  rw [heq] at h1
  rcases Nat.lt_or_ge i listed.size with h' | h'
  · simp [h'] at h0 h1; rw [h0] at h1; cases h1
  · simp [Array.getElem?_eq_none h'] at h1

/-- j comes behind i, over others. -/
def waitsN (ops : Array Oper) : Nat → Nat → Nat → Bool
  | 0, _, _ => false
  | n + 1, i, j => match ops[j]? with
    | some o => o.after.any fun e => Region.binds .any e && (e.on == i || waitsN ops n i e.on)
    | none => false
/-- What is listed stands behind what is listed. -/
def Closed (ops : Array Oper) (listed : Array Bool) : Prop := ∀ k ok, ops[k]? = some ok → listed.getD k false = true → ∀ e ∈ ok.after, Region.binds .any e = true → listed.getD e.on false = true
theorem waitsN_spec {listed : Array Bool} (hc : Closed ops listed) {i : Nat} : ∀ (n j : Nat) (oj : Oper), ops[j]? = some oj → waitsN ops n i j = true → (∀ e ∈ oj.after, Region.binds .any e = true → listed.getD e.on false = true) → listed.getD i false = true
  | 0, j, oj, _, h, _ => by cases h
  | n + 1, j, oj, hj, h, hl => by
    simp only [waitsN, hj, Array.any_eq_true, Bool.and_eq_true, Bool.or_eq_true, beq_iff_eq] at h
    obtain ⟨k, hk, h1, h2⟩ := h
    have hon := hl _ (Array.getElem_mem hk) h1
    rcases h2 with h2 | h2
    · rw [← h2]; exact hon
    · cases ho : ops[oj.after[k].on]? with
      | none =>
        cases n with
        | zero => cases h2
        | succ n => simp [waitsN, ho] at h2
      | some o' => exact waitsN_spec hc n _ o' ho h2 (hc _ o' ho hon)
theorem Closed.put {listed : Array Bool} (hc : Closed ops listed) {j : Nat} (hj : j ∈ Region.ready .any ops listed) : Closed ops (listed.setIfInBounds j true) := by
  intro k ok hk hl e he hb
  by_cases hjk : j = k
  · subst hjk
    obtain ⟨_, oj, hoj, hall⟩ := mem_ready.1 hj
    obtain rfl : oj = ok := Option.some.inj (hoj.symm.trans hk)
    exact getD_set_true (hall e he hb)
  · rw [getD_set_ne false hjk] at hl
    exact getD_set_true (hc k ok hk hl e he hb)
theorem unlisted_of_ready {listed : Array Bool} {i : Nat} (hr : i ∈ Region.ready .any ops listed) : listed.getD i false = true → False := by
  intro h1
  have h0 := (mem_ready.1 hr).1
  rcases Nat.lt_or_ge i listed.size with h' | h'
  · simp [h'] at h0 h1; rw [h0] at h1; cases h1
  · simp [Array.getElem?_eq_none h'] at h1

theorem anyF_take {i : Nat} {oi : Oper} {v : Value} (hi : ops[i]? = some oi) (hsel : ∀ (j : Nat) (o : Oper) cs b, ops[j]? = some o → o.op ≠ .select cs b)
    (hQ : ∀ c a w, Q (.panic c) (a.put oi.dst v) w → Q (.panic c) a w)
    (hF : ∀ j ∈ F, ∀ oj, ops[j]? = some oj → waitsN ops ops.size i j = true) :
    ∀ (fuel : Nat) (listed : Array Bool) (a : Act) (w : World), Closed ops listed →
      (∀ j oj, ops[j]? = some oj → j ≠ i → listed.getD j true = false → (∀ e ∈ oj.after, Region.binds .any e = true → e.on ≠ i) → oi.apart ops oj = true) →
      i ∈ Region.ready .any ops listed → YieldsIf P ops S oi v a → S w →
      anyF P ops Q S F fuel (listed.setIfInBounds i true) (a.put oi.dst v) w → anyF P ops Q S F (fuel + 1) listed a w := by
  intro fuel
  induction fuel with
  | zero =>
    intro listed a w _ _ hr hy hS H
    refine ⟨fun h => (by rw [h] at hr; cases hr), fun j hj => ?_⟩
    by_cases hji : j = i
    · subst hji; exact hy.wpOp hi hS ⟨fun _ => hS, H⟩
    · have := ready_mono hj hji
      rw [H.1] at this
      cases this
  | succ fuel ih =>
    intro listed a w hcl hfree hr hy hS H
    refine ⟨fun h => (by rw [h] at hr; cases hr), fun j hj => ?_⟩
    by_cases hji : j = i
    · subst hji; exact hy.wpOp hi hS ⟨fun _ => hS, H⟩
    · have h1 := H.2 j (ready_mono hj hji)
      obtain ⟨hjun, oj, hoj, hall⟩ := mem_ready.1 hj
      have hnot := waits_of_ready hr hj hoj
      have hjF : F.contains j = false := by
        cases hc : F.contains j
        · rfl
        · exact (unlisted_of_ready hr (waitsN_spec hcl _ j oj hoj (hF j (by simpa using hc) oj hoj) hall)).elim
      have h2 := wpOp_putIf hoj (hfree j oj hoj hji hjun hnot) (fun cs b => hsel i oi cs b hi) (fun cs b => hsel j oj cs b hoj) hQ hy h1
      have hfree' : ∀ k ok, ops[k]? = some ok → k ≠ i → (listed.setIfInBounds j true).getD k true = false →
          (∀ e ∈ ok.after, Region.binds .any e = true → e.on ≠ i) → oi.apart ops ok = true := fun k ok hk hki hun hno => by
        refine hfree k ok hk hki ?_ hno
        by_cases hjk : j = k
        · subst hjk; exact hjun
        · rw [getD_set_ne true hjk] at hun; exact hun
      refine wpOp_mono (fun a' w' h3 => ⟨h3.2.1, ih (listed.setIfInBounds j true) a' w' (hcl.put hj) hfree' (ready_mono hr (Ne.symm hji)) h3.1 (h3.2.1 hjF) ?_⟩) h2
      rw [Array.setIfInBounds_comm _ _ hji]
      exact h3.2.2

/-- How an operation of a plan is met: it yields in every world that meets S; it is carried out and S stands anew behind it; it is one of the last, behind which S is owed no more. -/
inductive Way where
  | take | do_ | last
  deriving DecidableEq

/-- The walk by a plan. -/
def walkH (P : Program) (ops : Array Oper) (Q : Exit → Act → World → Prop) (S : World → Prop) : List (Way × Oper) → Act → World → Prop
  | [], a, w => Q .normal a w
  | (.take, o) :: rest, a, w => ∃ v, YieldsIf P ops S o v a ∧ walkH P ops Q S rest (a.put o.dst v) w
  | (.do_, o) :: rest, a, w =>
    if Region.wanted o (yielded ops a.tmps) then o.wp P a w (fun a' w' => S w' ∧ walkH P ops Q S rest a' w') Q ∨ (o.asks P a w ∧ LetsOut Q) else S w ∧ walkH P ops Q S rest (a.put o.dst undef) w
  | (.last, o) :: rest, a, w =>
    if Region.wanted o (yielded ops a.tmps) then o.wp P a w (fun a' w' => walkH P ops Q S rest a' w') Q ∨ (o.asks P a w ∧ LetsOut Q) else walkH P ops Q S rest (a.put o.dst undef) w

/-- The operations of a plan, written out. -/
def zipOps (ops : Array Oper) : List (Nat × Way) → List (Way × Oper)
  | [] => []
  | (i, q) :: rest => match ops[i]? with
    | some o => (q, o) :: zipOps ops rest
    | none => zipOps ops rest

def lasts (plan : List (Nat × Way)) : List Nat := (plan.filter fun x => decide (x.2 = .last)).map (·.1)

/-- j waits for i. -/
def waitsFor (ops : Array Oper) (i j : Nat) : Bool := match ops[j]? with
  | some _ => waitsN ops 1 i j || waitsN ops ops.size i j
  | none => true
theorem waitsN_mono {i : Nat} : ∀ (n m j : Nat), n ≤ m → waitsN ops n i j = true → waitsN ops m i j = true
  | 0, _, _, _, h => by cases h
  | n + 1, 0, _, hm, _ => by omega
  | n + 1, m + 1, j, hm, h => by
    simp only [waitsN] at h ⊢
    split at h
    · simp only [Array.any_eq_true, Bool.and_eq_true, Bool.or_eq_true, beq_iff_eq] at h ⊢
      obtain ⟨k, hk, h1, h2⟩ := h
      exact ⟨k, hk, h1, h2.imp_right (waitsN_mono n m _ (by omega))⟩
    · cases h
theorem waitsFor_spec {i j : Nat} (h : waitsFor ops i j = true) (oj : Oper) (hj : ops[j]? = some oj) : waitsN ops ops.size i j = true := by
  simp only [waitsFor, hj, Bool.or_eq_true] at h
  rcases h with h | h
  · exact waitsN_mono 1 _ _ (by have := (Array.getElem?_eq_some_iff.1 hj).1; omega) h
  · exact h

/-- The plan fits the region's edges. -/
def planOk (ops : Array Oper) (F : List Nat) : List (Nat × Way) → Array Bool → Bool
  | [], listed => (Region.ready .any ops listed).isEmpty
  | (i, .take) :: rest, listed => decide (i < ops.size) && Region.free .any ops listed i && (Region.ready .any ops listed).contains i && F.all (waitsFor ops i) && planOk ops F rest (listed.setIfInBounds i true)
  | (i, .do_) :: rest, listed => decide (i < ops.size) && decide (Region.ready .any ops listed = [i]) && planOk ops F rest (listed.setIfInBounds i true)
  | (i, .last) :: rest, listed => decide (i < ops.size) && decide (Region.ready .any ops listed = [i]) && F.contains i && rest.all (fun x => !decide (x.2 = .take)) && planOk ops F rest (listed.setIfInBounds i true)

theorem anyF_of_walk (hs : Region.noSelect ops = true) (hQ : ∀ c a w d v, Q (.panic c) (a.put d v) w → Q (.panic c) a w) :
    ∀ (plan : List (Nat × Way)) (listed : Array Bool) (a : Act) (w : World), Closed ops listed → planOk ops F plan listed = true → (S w ∨ plan.all (fun x => !decide (x.2 = .take)) = true) → walkH P ops Q S (zipOps ops plan) a w → anyF P ops Q S F plan.length listed a w
  | [], listed, a, w, _, h, _, hw => by
    have h' : Region.ready .any ops listed = [] := by simpa [planOk] using h
    exact ⟨h', hw⟩
  | (i, .take) :: rest, listed, a, w, hcl, h, hS, hw => by
    simp only [planOk, Bool.and_eq_true, decide_eq_true_eq, List.all_eq_true] at h
    obtain ⟨⟨⟨⟨hi, h1⟩, h2⟩, h3⟩, h4⟩ := h
    have ho : ops[i]? = some ops[i] := Array.getElem?_eq_getElem hi
    simp only [zipOps, ho] at hw
    obtain ⟨v, hy, hr⟩ := hw
    have hS' : S w := by
      rcases hS with h | h
      · exact h
      · simp at h
    exact anyF_take ho (Region.noSelect_spec hs) (fun c a w => hQ c a w _ _) (fun j hj oj hoj => waitsFor_spec (h3 j hj) oj hoj) _ listed a w hcl (Region.free_spec ho h1) (by simpa using h2) hy hS'
      (anyF_of_walk hs hQ rest _ _ _ (hcl.put (by simpa using h2)) h4 (.inl hS') hr)
  | (i, .do_) :: rest, listed, a, w, hcl, h, hS, hw => by
    simp only [planOk, Bool.and_eq_true, decide_eq_true_eq] at h
    obtain ⟨⟨hi, h1⟩, h3⟩ := h
    have ho : ops[i]? = some ops[i] := Array.getElem?_eq_getElem hi
    simp only [zipOps, ho] at hw
    refine ⟨fun h0 => (by rw [h1] at h0; cases h0), fun j hj => ?_⟩
    rw [h1] at hj
    obtain rfl : j = i := by simpa using hj
    have hw' : wpOp P ops Q j (fun a' w' => S w' ∧ walkH P ops Q S (zipOps ops rest) a' w') a w := by
      unfold wpOp
      simp only [ho]
      exact hw
    exact wpOp_mono (fun a' w' hh => ⟨fun _ => hh.1, anyF_of_walk hs hQ rest _ _ _ (hcl.put (by rw [h1]; simp)) h3 (.inl hh.1) hh.2⟩) hw'
  | (i, .last) :: rest, listed, a, w, hcl, h, hS, hw => by
    simp only [planOk, Bool.and_eq_true, decide_eq_true_eq] at h
    obtain ⟨⟨⟨⟨hi, h1⟩, h2⟩, h3⟩, h4⟩ := h
    have ho : ops[i]? = some ops[i] := Array.getElem?_eq_getElem hi
    simp only [zipOps, ho] at hw
    refine ⟨fun h0 => (by rw [h1] at h0; cases h0), fun j hj => ?_⟩
    rw [h1] at hj
    obtain rfl : j = i := by simpa using hj
    have hw' : wpOp P ops Q j (fun a' w' => walkH P ops Q S (zipOps ops rest) a' w') a w := by
      unfold wpOp
      simp only [ho]
      exact hw
    exact wpOp_mono (fun a' w' hh => ⟨fun h0 => (by rw [h2] at h0; cases h0), anyF_of_walk hs hQ rest _ _ _ (hcl.put (by rw [h1]; simp)) h4 (.inr h3) hh⟩) hw'

/-- THE BEGINNING. -/
theorem region_plan {id : Nat} {a : Act} {w : World} (S : World → Prop) (plan : List (Nat × Way)) (hm : P.follows .mixedOrders = true) (hn : plan.length = ops.size)
    (hs : Region.noSelect ops = true) (hp : planOk ops (lasts plan) plan (Array.replicate ops.size false) = true) (hQ : ∀ c a w d v, Q (.panic c) (a.put d v) w → Q (.panic c) a w)
    (hS : S w.drew) (h : walkH P ops Q S (zipOps ops plan) a w.drew) : (Code.region id ops true).wp P Q a w := by
  refine wp_region_any hm (any_of_F (S := S) (F := lasts plan) _ _ _ _ ?_)
  rw [← hn]
  exact anyF_of_walk hs hQ plan _ a w.drew (fun k ok _ hl => by exfalso; rw [Array.getD_eq_getD_getElem?, Array.getElem?_replicate] at hl; split at hl <;> simp at hl) (by rw [hn]; exact hp) (.inl hS) h

theorem walk_nil {a : Act} {w : World} : walkH P ops Q S [] a w = Q .normal a w := rfl
theorem walk_take {rest : List (Way × Oper)} {a : Act} {w : World} {v : Value} {o : Oper} (hw : Region.wanted o (yielded ops a.tmps) = true)
    (hy : ∀ w, S w → (execOp a.eval o).run P w = .ok (.value v) w) (h : walkH P ops Q S rest (a.put o.dst v) w) : walkH P ops Q S ((.take, o) :: rest) a w :=
  ⟨v, .inl ⟨hw, hy⟩, h⟩
theorem walk_skip {rest : List (Way × Oper)} {a : Act} {w : World} {o : Oper} (hw : Region.wanted o (yielded ops a.tmps) = false)
    (h : walkH P ops Q S rest (a.put o.dst undef) w) : walkH P ops Q S ((.take, o) :: rest) a w :=
  ⟨undef, .inr ⟨hw, rfl⟩, h⟩
theorem walk_pass {rest : List (Way × Oper)} {a : Act} {w : World} {o : Oper} (hw : Region.wanted o (yielded ops a.tmps) = false)
    (hS : S w) (h : walkH P ops Q S rest (a.put o.dst undef) w) : walkH P ops Q S ((.do_, o) :: rest) a w := by
  simp only [walkH, hw, Bool.false_eq_true, if_false]
  exact ⟨hS, h⟩
/-- What does not yield in every such world: carried out here; S anew behind it. -/
theorem walk_do {rest : List (Way × Oper)} {a : Act} {w : World} {o : Oper} (hw : Region.wanted o (yielded ops a.tmps) = true)
    (h : ∀ K : Act → World → Prop, (∀ a' w', S w' → walkH P ops Q S rest a' w' → K a' w') → o.wp P a w K Q) : walkH P ops Q S ((.do_, o) :: rest) a w := by
  simp only [walkH, hw, if_true]
  exact .inl (h _ fun _ _ h1 h2 => ⟨h1, h2⟩)
theorem walk_last {rest : List (Way × Oper)} {a : Act} {w : World} {o : Oper} (hw : Region.wanted o (yielded ops a.tmps) = true)
    (h : ∀ K : Act → World → Prop, (∀ a' w', walkH P ops Q S rest a' w' → K a' w') → o.wp P a w K Q) : walkH P ops Q S ((.last, o) :: rest) a w := by
  simp only [walkH, hw, if_true]
  exact .inl (h _ fun _ _ h2 => h2)

/-! ### Plans that fork: where several operations are ready that do not yield in every such world, each of them may come first. -/
inductive PT where
  | nil
  | op (i : Nat) (q : Way) (r : PT)
  | fork (i : Nat) (x y : PT)
  | seq (m : Nat) (L : List Bool) (x y : PT)
def PT.of : List (Nat × Way) → PT
  | [] => .nil
  | (i, q) :: l => .op i q (PT.of l)
def PT.lasts : PT → List Nat
  | .nil => []
  | .op i .last r => i :: r.lasts
  | .op _ _ r => r.lasts
  | .fork _ x y => x.lasts ++ y.lasts
  | .seq _ _ x y => x.lasts ++ y.lasts
def PT.noTake : PT → Bool
  | .nil => true
  | .op _ .take _ => false
  | .op _ _ r => r.noTake
  | .fork _ x y => x.noTake && y.noTake
  | .seq _ _ x y => x.noTake && y.noTake
def PT.noLast : PT → Bool
  | .nil => true
  | .op _ .last _ => false
  | .op _ _ r => r.noLast
  | .fork _ x y => x.noLast && y.noLast
  | .seq _ _ x y => x.noLast && y.noLast

def walkT (P : Program) (ops : Array Oper) (Q : Exit → Act → World → Prop) (S : World → Prop) : PT → (Act → World → Prop) → Act → World → Prop
  | .nil, K, a, w => K a w
  | .op i .take r, K, a, w => ∃ o, ops[i]? = some o ∧ ∃ v, YieldsIf P ops S o v a ∧ walkT P ops Q S r K (a.put o.dst v) w
  | .op i .do_ r, K, a, w => S w ∧ wpOp P ops Q i (fun a' w' => S w' ∧ walkT P ops Q S r K a' w') a w
  | .op i .last r, K, a, w => wpOp P ops Q i (fun a' w' => walkT P ops Q S r K a' w') a w
  | .fork i x y, K, a, w => (S w ∧ wpOp P ops Q i (fun a' w' => S w' ∧ walkT P ops Q S x K a' w') a w) ∧ walkT P ops Q S y K a w
  | .seq _ _ x y, K, a, w => walkT P ops Q S x (fun a' w' => walkT P ops Q S y K a' w') a w

def planOkT (ops : Array Oper) (F : List Nat) : PT → (Nat → Array Bool → Bool) → Nat → List Nat → Array Bool → Bool
  | .nil, k, n, ex, listed => ex.isEmpty && k n listed
  | .op i .take r, k, n, ex, listed => decide (i < ops.size) && ex.isEmpty && Region.free .any ops listed i && (Region.ready .any ops listed).contains i && F.all (waitsFor ops i) && (match n with
    | 0 => false
    | m + 1 => planOkT ops F r k m [] (listed.setIfInBounds i true))
  | .op i .do_ r, k, n, ex, listed => decide (i < ops.size) && decide ((Region.ready .any ops listed).filter (fun j => !ex.contains j) = [i]) && (match n with
    | 0 => false
    | m + 1 => planOkT ops F r k m [] (listed.setIfInBounds i true))
  | .op i .last r, k, n, ex, listed => decide (i < ops.size) && ex.isEmpty && decide (Region.ready .any ops listed = [i]) && F.contains i && r.noTake && (match n with
    | 0 => false
    | m + 1 => planOkT ops F r k m [] (listed.setIfInBounds i true))
  | .fork i x y, k, n, ex, listed => decide (i < ops.size) && (Region.ready .any ops listed).contains i && (match n with
    | 0 => false
    | m + 1 => planOkT ops F x k m [] (listed.setIfInBounds i true) && planOkT ops F y k (m + 1) (i :: ex) listed)
  | .seq m L x y, k, n, ex, listed => x.noLast && planOkT ops F x (fun n' l' => n' == m && l'.toList == L) n ex listed && planOkT ops F y k m [] L.toArray

/-- The same as anyF, for those that are not of 'ex'. -/
def anyX (P : Program) (ops : Array Oper) (Q : Exit → Act → World → Prop) (S : World → Prop) (F : List Nat) (n : Nat) (ex : List Nat) (listed : Array Bool) (a : Act) (w : World) : Prop :=
  match n with
  | 0 => Region.ready .any ops listed = [] ∧ Q .normal a w
  | n + 1 => (Region.ready .any ops listed = [] → Q .normal a w) ∧
    ∀ i ∈ Region.ready .any ops listed, i ∉ ex → wpOp P ops Q i (fun a' w' => (F.contains i = false → S w') ∧ anyF P ops Q S F n (listed.setIfInBounds i true) a' w') a w
theorem anyX_nil {n : Nat} {listed : Array Bool} {a : Act} {w : World} (h : anyX P ops Q S F n [] listed a w) : anyF P ops Q S F n listed a w := by
  cases n with
  | zero => exact h
  | succ n => exact ⟨h.1, fun i hi => h.2 i hi (by simp)⟩

theorem anyX_of_walk (hs : Region.noSelect ops = true) (hQ : ∀ c a w d v, Q (.panic c) (a.put d v) w → Q (.panic c) a w) :
    ∀ (plan : PT) (k : Nat → Array Bool → Bool) (K : Act → World → Prop) (n : Nat) (ex : List Nat) (listed : Array Bool) (a : Act) (w : World), Closed ops listed → planOkT ops F plan k n ex listed = true → (S w ∨ plan.noTake = true) →
      (∀ n' listed' a' w', k n' listed' = true → Closed ops listed' → (S w → plan.noLast = true → S w') → K a' w' → anyF P ops Q S F n' listed' a' w') → walkT P ops Q S plan K a w → anyX P ops Q S F n ex listed a w
  | .nil, k, K, n, ex, listed, a, w, hcl, h, _, hk, hw => by
    simp only [planOkT, Bool.and_eq_true, List.isEmpty_iff] at h
    obtain ⟨rfl, h⟩ := h
    have := hk n listed a w h hcl (fun h _ => h) hw
    cases n with
    | zero => exact this
    | succ n => exact ⟨this.1, fun i hi _ => this.2 i hi⟩
  | .op i .take r, k, K, n, ex, listed, a, w, hcl, h, hS, hk, hw => by
    simp only [planOkT, Bool.and_eq_true, decide_eq_true_eq, List.all_eq_true, List.isEmpty_iff] at h
    obtain ⟨⟨⟨⟨⟨hi, rfl⟩, h1⟩, h2⟩, h3⟩, h4⟩ := h
    cases n with
    | zero => simp at h4
    | succ n =>
      simp only at h4
      obtain ⟨o, ho, v, hy, hr⟩ := hw
      have hS' : S w := by
        rcases hS with h | h
        · exact h
        · simp [PT.noTake] at h
      have := anyF_take (P := P) (Q := Q) (S := S) (F := F) ho (Region.noSelect_spec hs) (fun c a w => hQ c a w _ _) (fun j hj oj hoj => waitsFor_spec (h3 j hj) oj hoj) n listed a w hcl (Region.free_spec ho h1) (by simpa using h2) hy hS'
        (anyX_nil (anyX_of_walk hs hQ r k K n [] _ _ _ (hcl.put (by simpa using h2)) h4 (.inl hS') hk hr))
      exact ⟨this.1, fun j hj _ => this.2 j hj⟩
  | .op i .do_ r, k, K, n, ex, listed, a, w, hcl, h, hS, hk, hw => by
    simp only [planOkT, Bool.and_eq_true, decide_eq_true_eq] at h
    obtain ⟨⟨hi, h1⟩, h4⟩ := h
    have hmem : i ∈ Region.ready .any ops listed := by
      have : i ∈ (Region.ready .any ops listed).filter (fun j => !ex.contains j) := by rw [h1]; simp
      exact (List.mem_filter.1 this).1
    cases n with
    | zero => simp at h4
    | succ n =>
      simp only at h4
      refine ⟨fun h0 => (by rw [h0] at hmem; cases hmem), fun j hj hex => ?_⟩
      have : j ∈ (Region.ready .any ops listed).filter (fun j => !ex.contains j) := List.mem_filter.2 ⟨hj, by simpa using hex⟩
      rw [h1] at this
      obtain rfl : j = i := by simpa using this
      exact wpOp_mono (fun a' w' hh => ⟨fun _ => hh.1, anyX_nil (anyX_of_walk hs hQ r k K n [] _ _ _ (hcl.put hmem) h4 (.inl hh.1) (fun n' l' a2 w2 k1 k2 k3 k4 => hk n' l' a2 w2 k1 k2 (fun _ hl => k3 hh.1 hl) k4) hh.2)⟩) hw.2
  | .op i .last r, k, K, n, ex, listed, a, w, hcl, h, hS, hk, hw => by
    simp only [planOkT, Bool.and_eq_true, decide_eq_true_eq, List.isEmpty_iff] at h
    obtain ⟨⟨⟨⟨⟨hi, rfl⟩, h1⟩, h2⟩, h3⟩, h4⟩ := h
    cases n with
    | zero => simp at h4
    | succ n =>
      simp only at h4
      refine ⟨fun h0 => (by rw [h1] at h0; cases h0), fun j hj _ => ?_⟩
      rw [h1] at hj
      obtain rfl : j = i := by simpa using hj
      exact wpOp_mono (fun a' w' hh => ⟨fun h0 => (by rw [h2] at h0; cases h0), anyX_nil (anyX_of_walk hs hQ r k K n [] _ _ _ (hcl.put (by rw [h1]; simp)) h4 (.inr h3)
        (fun n' l' a2 w2 k1 k2 _ k4 => hk n' l' a2 w2 k1 k2 (fun _ hl => by simp [PT.noLast] at hl) k4) hh)⟩) hw
  | .fork i x y, k, K, n, ex, listed, a, w, hcl, h, hS, hk, hw => by
    simp only [planOkT, Bool.and_eq_true, decide_eq_true_eq] at h
    obtain ⟨⟨hi, h1⟩, h4⟩ := h
    have hmem : i ∈ Region.ready .any ops listed := by simpa using h1
    cases n with
    | zero => simp at h4
    | succ n =>
      simp only [Bool.and_eq_true] at h4
      obtain ⟨⟨hSw, hx⟩, hy⟩ := hw
      have hrest := anyX_of_walk hs hQ y k K (n + 1) (i :: ex) listed a w hcl h4.2 (.inl hSw)
        (fun n' l' a2 w2 k1 k2 k3 k4 => hk n' l' a2 w2 k1 k2 (fun hs hl => k3 hs (by simp [PT.noLast] at hl; exact hl.2)) k4) hy
      refine ⟨fun h0 => (by rw [h0] at hmem; cases hmem), fun j hj hex => ?_⟩
      by_cases hji : j = i
      · subst hji
        exact wpOp_mono (fun a' w' hh => ⟨fun _ => hh.1, anyX_nil (anyX_of_walk hs hQ x k K n [] _ _ _ (hcl.put hmem) h4.1 (.inl hh.1)
          (fun n' l' a2 w2 k1 k2 k3 k4 => hk n' l' a2 w2 k1 k2 (fun _ hl => k3 hh.1 (by simp [PT.noLast] at hl; exact hl.1)) k4) hh.2)⟩) hx
      · exact hrest.2 j hj (by simp [hji, hex])
  | .seq m L x y, k, K, n, ex, listed, a, w, hcl, h, hS, hk, hw => by
    simp only [planOkT, Bool.and_eq_true] at h
    obtain ⟨⟨hnl, hx⟩, hy⟩ := h
    refine anyX_of_walk hs hQ x _ (fun a' w' => walkT P ops Q S y K a' w') n ex listed a w hcl hx (hS.imp id fun h => by simp [PT.noTake] at h; exact h.1) ?_ hw
    intro n' l' a' w' h1 h2 h3 h4
    simp only [Bool.and_eq_true, beq_iff_eq] at h1
    obtain ⟨rfl, rfl⟩ := h1
    rw [Array.toArray_toList] at hy
    refine anyX_nil (anyX_of_walk hs hQ y k K n' [] l' a' w' h2 hy (hS.imp (fun h => h3 h hnl) fun h => by simp [PT.noTake] at h; exact h.2) ?_ h4)
    exact fun n2 l2 a2 w2 k1 k2 k3 k4 => hk n2 l2 a2 w2 k1 k2 (fun hs hl => k3 (h3 hs hnl) (by simp [PT.noLast] at hl; exact hl.2)) k4
def endOk (ops : Array Oper) (n : Nat) (listed : Array Bool) : Bool := n == 0 && (Region.ready .any ops listed).isEmpty

/-- THE BEGINNING. -/
theorem region_planT {id : Nat} {a : Act} {w : World} (S : World → Prop) (plan : PT) (hm : P.follows .mixedOrders = true)
    (hs : Region.noSelect ops = true) (hp : planOkT ops plan.lasts plan (endOk ops) ops.size [] (Array.replicate ops.size false) = true) (hQ : ∀ c a w d v, Q (.panic c) (a.put d v) w → Q (.panic c) a w)
    (hS : S w.drew) (h : walkT P ops Q S plan (fun a w => Q .normal a w) a w.drew) : (Code.region id ops true).wp P Q a w := by
  refine wp_region_any hm (any_of_F (S := S) (F := plan.lasts) _ _ _ _ ?_)
  refine anyX_nil (anyX_of_walk hs hQ plan _ (fun a w => Q .normal a w) _ [] _ a w.drew (fun k ok _ hl => by exfalso; rw [Array.getD_eq_getD_getElem?, Array.getElem?_replicate] at hl; split at hl <;> simp at hl) hp (.inl hS) ?_ h)
  intro n' l' a' w' h1 _ _ h4
  simp only [endOk, Bool.and_eq_true, beq_iff_eq, List.isEmpty_iff] at h1
  obtain ⟨rfl, h1⟩ := h1
  exact ⟨h1, h4⟩
end
end Go.Proofs.Ytkcdomafdjpbjaa
