/- Plans that fork, walked so that what is known to stay may grow; regions in a round of a range over a function. -/
import Derived.Test.YtkcdomafdjpbjaaPlan
import Derived.OrdersIn
import Derived.TacticsIn
namespace Go.Proofs.Ytkcdomafdjpbjaa
open Go.RowKit

/-- The fence that lets all in, in whichever round. -/
def fenceR (r : Option Nat) : Fence := { fn := fun _ => True, depth := none, alive := false, round := r }
theorem callsIn_R {r : Option Nat} {n : Nat} {P : Program} {f : FuncId} {args : Array Value} {w : World} {R : Ending → World → Prop} (h : Calls P f args w R) : CallsIn (fenceR r) n P f args w R :=
  (callsIn_wide (n := n)).2 h
theorem rowsIn_R {r : Option Nat} {n : Nat} {P : Program} {row : String} {args : Array Value} {w : World} {R : Value → World → Prop} (h : Rows P row args w R) : RowsIn (fenceR r) n P row args w R :=
  fun c cs _ => let ⟨v, w', h1, h2⟩ := h c cs; ⟨v, w', h1, stepsIn_wide.2 h2⟩
def notDefer (o : Oper) : Bool := match o.op with
  | .defer _ => false
  | _ => true
theorem opIn {r : Option Nat} {n : Nat} {P : Program} {o : Oper} (hd : notDefer o = true) {a : Act} {w : World} {K : Act → World → Prop} {Q : Exit → Act → World → Prop} (h : o.wp P a w K Q) : o.wpIn (fenceR r) n P a w K Q := by
  unfold Oper.wp at h
  unfold Oper.wpIn
  refine ⟨fun f _ => trivial, ?_⟩
  rw [Oper.semAt_eq _ _ _ (fun c e => by unfold notDefer at hd; rw [e] at hd; cases hd)]
  generalize (execOp a.eval o).run P w = res at *
  cases res with
  | ok x w' =>
    cases x <;> simp only [Oper.upon, Oper.uponIn] at h ⊢ <;> first
      | exact h
      | exact ⟨fun e => (by cases e), callsIn_R h⟩
      | exact ⟨fun e => (by cases e), rowsIn_R h⟩
  | halt x w' => cases x <;> simp only [Oper.upon, Oper.uponIn] at h ⊢ <;> exact h
theorem nd_of {ops : Array Oper} (h : ops.toList.all notDefer = true) {i : Nat} {o : Oper} (ho : ops[i]? = some o) : notDefer o = true :=
  List.all_eq_true.1 h o (by simpa using Array.mem_of_getElem? ho)
theorem opsIn {r : Option Nat} {n : Nat} {P : Program} {ops : Array Oper} (hnd : ops.toList.all notDefer = true) {Q : Exit → Act → World → Prop} (hQ : ¬ LetsOut Q) : ∀ {is : List Nat} {a : Act} {w : World}, wpOps P ops Q is a w → wpOpsIn (fenceR r) n P ops Q is a w
  | [], a, w, h => h
  | i :: is, a, w, h => by
    unfold wpOps at h
    unfold wpOpsIn
    cases ho : ops[i]? with
    | none => simp only [ho] at h ⊢; exact opsIn hnd hQ h
    | some o =>
      simp only [ho] at h ⊢
      split
      · rename_i hw
        rw [if_pos hw] at h
        rcases h with h | h
        · exact Oper.wpIn_mono (fun a w h => opsIn hnd hQ h) (opIn (nd_of hnd ho) h)
        · exact (hQ h.2).elim
      · rename_i hw
        rw [if_neg hw] at h
        exact ⟨fun f _ => trivial, opsIn hnd hQ h⟩
theorem wpOpIn_R {r : Option Nat} {n : Nat} {P : Program} {ops : Array Oper} (hnd : ops.toList.all notDefer = true) {Q : Exit → Act → World → Prop} (hQ : ¬ LetsOut Q) {i : Nat} {K K' : Act → World → Prop} (hK : ∀ a w, K a w → K' a w) {a : Act} {w : World} (h : wpOp P ops Q i K a w) : wpOpIn (fenceR r) n P ops Q i K' a w := by
  unfold wpOp at h
  unfold wpOpIn
  cases ho : ops[i]? with
  | none => simp only [ho] at h ⊢; exact hK _ _ h
  | some o =>
    simp only [ho] at h ⊢
    split
    · rename_i hw
      rw [if_pos hw] at h
      rcases h with h | h
      · exact Oper.wpIn_mono hK (opIn (nd_of hnd ho) h)
      · exact (hQ h.2).elim
    · rename_i hw
      rw [if_neg hw] at h
      exact ⟨fun f _ => trivial, hK _ _ h⟩
theorem anyIn {r : Option Nat} {n : Nat} {P : Program} {md : Region.Mode} {ops : Array Oper} (hnd : ops.toList.all notDefer = true) {Q : Exit → Act → World → Prop} (hQ : ¬ LetsOut Q) : ∀ {fuel : Nat} {listed : Array Bool} {a : Act} {w : World}, wpAny P md ops Q fuel listed a w → wpAnyIn (fenceR r) n P md ops Q fuel listed a w
  | 0, _, _, _, h => h
  | _ + 1, _, _, _, h => ⟨h.1, fun i hi => wpOpIn_R hnd hQ (fun _ _ h => anyIn hnd hQ h) (h.2 i hi)⟩
section
variable {P : Program} {ops : Array Oper} {Q : Exit → Act → World → Prop} {F : List Nat}

theorem anyF_mono {S S' : World → Prop} (hS : ∀ w, S' w → S w) : ∀ {fuel : Nat} {listed : Array Bool} {a : Act} {w : World}, anyF P ops Q S' F fuel listed a w → anyF P ops Q S F fuel listed a w
  | 0, _, _, _, h => h
  | _ + 1, _, _, _, h => ⟨h.1, fun i hi => wpOp_mono (fun _ _ h => ⟨fun hf => hS _ (h.1 hf), anyF_mono hS h.2⟩) (h.2 i hi)⟩
/-- A plan's walk; what is kept may grow behind each operation that is not taken. -/
def walkZ (P : Program) (ops : Array Oper) (Q : Exit → Act → World → Prop) : PT → (World → Prop) → ((World → Prop) → Act → World → Prop) → Act → World → Prop
  | .nil, S, K, a, w => K S a w
  | .op i .take r, S, K, a, w => ∃ o, ops[i]? = some o ∧ ∃ v, YieldsIf P ops S o v a ∧ walkZ P ops Q r S K (a.put o.dst v) w
  | .op i .do_ r, S, K, a, w => S w ∧ wpOp P ops Q i (fun a' w' => ∃ S' : World → Prop, (∀ w, S' w → S w) ∧ S' w' ∧ walkZ P ops Q r S' K a' w') a w
  | .op i .last r, S, K, a, w => wpOp P ops Q i (fun a' w' => ∃ S' : World → Prop, (∀ w, S' w → S w) ∧ walkZ P ops Q r S' K a' w') a w
  | .fork i x y, S, K, a, w => (S w ∧ wpOp P ops Q i (fun a' w' => ∃ S' : World → Prop, (∀ w, S' w → S w) ∧ S' w' ∧ walkZ P ops Q x S' K a' w') a w) ∧ walkZ P ops Q y S K a w
  | .seq _ _ x y, S, K, a, w => walkZ P ops Q x S (fun S' a' w' => walkZ P ops Q y S' K a' w') a w

theorem anyX_of_walkZ (hs : Region.noSelect ops = true) (hQ : ∀ c a w d v, Q (.panic c) (a.put d v) w → Q (.panic c) a w) :
    ∀ (plan : PT) (k : Nat → Array Bool → Bool) (K : (World → Prop) → Act → World → Prop) (n : Nat) (ex : List Nat) (listed : Array Bool) (S : World → Prop) (a : Act) (w : World), Closed ops listed → planOkT ops F plan k n ex listed = true → (S w ∨ plan.noTake = true) →
      (∀ (S' : World → Prop) n' listed' a' w', (∀ w, S' w → S w) → k n' listed' = true → Closed ops listed' → (S w → plan.noLast = true → S' w') → K S' a' w' → anyF P ops Q S' F n' listed' a' w') → walkZ P ops Q plan S K a w → anyX P ops Q S F n ex listed a w
  | .nil, k, K, n, ex, listed, S, a, w, hcl, h, _, hk, hw => by
    simp only [planOkT, Bool.and_eq_true, List.isEmpty_iff] at h
    obtain ⟨rfl, h⟩ := h
    have := hk S n listed a w (fun _ h => h) h hcl (fun h _ => h) hw
    cases n with
    | zero => exact this
    | succ n => exact ⟨this.1, fun i hi _ => this.2 i hi⟩
  | .op i .take r, k, K, n, ex, listed, S, a, w, hcl, h, hS, hk, hw => by
    simp only [planOkT, Bool.and_eq_true, decide_eq_true_eq, List.all_eq_true, List.isEmpty_iff] at h
    obtain ⟨⟨⟨⟨⟨hi, rfl⟩, h1⟩, h2⟩, h3⟩, h4⟩ := h
    cases n with
    | zero => simp at h4
    | succ n =>
      simp only at h4
      obtain ⟨o, ho, v, hy, hr⟩ := hw
      have hS' : S w := by
        rcases hS with h | h
        · exact h
        · simp [PT.noTake] at h
      have := anyF_take (P := P) (Q := Q) (S := S) (F := F) ho (Region.noSelect_spec hs) (fun c a w => hQ c a w _ _) (fun j hj oj hoj => waitsFor_spec (h3 j hj) oj hoj) n listed a w hcl (Region.free_spec ho h1) (by simpa using h2) hy hS'
        (anyX_nil (anyX_of_walkZ hs hQ r k K n [] _ S _ _ (hcl.put (by simpa using h2)) h4 (.inl hS') hk hr))
      exact ⟨this.1, fun j hj _ => this.2 j hj⟩
  | .op i .do_ r, k, K, n, ex, listed, S, a, w, hcl, h, hS, hk, hw => by
    simp only [planOkT, Bool.and_eq_true, decide_eq_true_eq] at h
    obtain ⟨⟨hi, h1⟩, h4⟩ := h
    have hmem : i ∈ Region.ready .any ops listed := by
      have : i ∈ (Region.ready .any ops listed).filter (fun j => !ex.contains j) := by rw [h1]; simp
      exact (List.mem_filter.1 this).1
    cases n with
    | zero => simp at h4
    | succ n =>
      simp only at h4
      refine ⟨fun h0 => (by rw [h0] at hmem; cases hmem), fun j hj hex => ?_⟩
      have : j ∈ (Region.ready .any ops listed).filter (fun j => !ex.contains j) := List.mem_filter.2 ⟨hj, by simpa using hex⟩
      rw [h1] at this
      obtain rfl : j = i := by simpa using this
      exact wpOp_mono (fun a' w' ⟨S', hs', hw', hh⟩ => ⟨fun _ => hs' _ hw', anyF_mono hs' (anyX_nil (anyX_of_walkZ hs hQ r k K n [] _ S' _ _ (hcl.put hmem) h4 (.inl hw')
        (fun S2 n' l' a2 w2 k0 k1 k2 k3 k4 => hk S2 n' l' a2 w2 (fun w h => hs' w (k0 w h)) k1 k2 (fun _ hl => k3 hw' hl) k4) hh))⟩) hw.2
  | .op i .last r, k, K, n, ex, listed, S, a, w, hcl, h, hS, hk, hw => by
    simp only [planOkT, Bool.and_eq_true, decide_eq_true_eq, List.isEmpty_iff] at h
    obtain ⟨⟨⟨⟨⟨hi, rfl⟩, h1⟩, h2⟩, h3⟩, h4⟩ := h
    cases n with
    | zero => simp at h4
    | succ n =>
      simp only at h4
      refine ⟨fun h0 => (by rw [h1] at h0; cases h0), fun j hj _ => ?_⟩
      rw [h1] at hj
      obtain rfl : j = i := by simpa using hj
      exact wpOp_mono (fun a' w' ⟨S', hs', hh⟩ => ⟨fun h0 => (by rw [h2] at h0; cases h0), anyF_mono hs' (anyX_nil (anyX_of_walkZ hs hQ r k K n [] _ S' _ _ (hcl.put (by rw [h1]; simp)) h4 (.inr h3)
        (fun S2 n' l' a2 w2 k0 k1 k2 _ k4 => hk S2 n' l' a2 w2 (fun w h => hs' w (k0 w h)) k1 k2 (fun _ hl => by simp [PT.noLast] at hl) k4) hh))⟩) hw
  | .fork i x y, k, K, n, ex, listed, S, a, w, hcl, h, hS, hk, hw => by
    simp only [planOkT, Bool.and_eq_true, decide_eq_true_eq] at h
    obtain ⟨⟨hi, h1⟩, h4⟩ := h
    have hmem : i ∈ Region.ready .any ops listed := by simpa using h1
    cases n with
    | zero => simp at h4
    | succ n =>
      simp only [Bool.and_eq_true] at h4
      obtain ⟨⟨hSw, hx⟩, hy⟩ := hw
      have hrest := anyX_of_walkZ hs hQ y k K (n + 1) (i :: ex) listed S a w hcl h4.2 (.inl hSw)
        (fun S2 n' l' a2 w2 k0 k1 k2 k3 k4 => hk S2 n' l' a2 w2 k0 k1 k2 (fun hs hl => k3 hs (by simp [PT.noLast] at hl; exact hl.2)) k4) hy
      refine ⟨fun h0 => (by rw [h0] at hmem; cases hmem), fun j hj hex => ?_⟩
      by_cases hji : j = i
      · subst hji
        exact wpOp_mono (fun a' w' ⟨S', hs', hw', hh⟩ => ⟨fun _ => hs' _ hw', anyF_mono hs' (anyX_nil (anyX_of_walkZ hs hQ x k K n [] _ S' _ _ (hcl.put hmem) h4.1 (.inl hw')
          (fun S2 n' l' a2 w2 k0 k1 k2 k3 k4 => hk S2 n' l' a2 w2 (fun w h => hs' w (k0 w h)) k1 k2 (fun _ hl => k3 hw' (by simp [PT.noLast] at hl; exact hl.1)) k4) hh))⟩) hx
      · exact hrest.2 j hj (by simp [hji, hex])
  | .seq m L x y, k, K, n, ex, listed, S, a, w, hcl, h, hS, hk, hw => by
    simp only [planOkT, Bool.and_eq_true] at h
    obtain ⟨⟨hnl, hx⟩, hy⟩ := h
    refine anyX_of_walkZ hs hQ x _ (fun S' a' w' => walkZ P ops Q y S' K a' w') n ex listed S a w hcl hx (hS.imp id fun h => by simp [PT.noTake] at h; exact h.1) ?_ hw
    intro S' n' l' a' w' h0 h1 h2 h3 h4
    simp only [Bool.and_eq_true, beq_iff_eq] at h1
    obtain ⟨rfl, rfl⟩ := h1
    rw [Array.toArray_toList] at hy
    refine anyX_nil (anyX_of_walkZ hs hQ y k K n' [] l' S' a' w' h2 hy (hS.imp (fun h => h3 h hnl) fun h => by simp [PT.noTake] at h; exact h.2) ?_ h4)
    exact fun S2 n2 l2 a2 w2 k0 k1 k2 k3 k4 => hk S2 n2 l2 a2 w2 (fun w h => h0 w (k0 w h)) k1 k2 (fun hs hl => k3 (h3 hs hnl) (by simp [PT.noLast] at hl; exact hl.2)) k4

/-- THE BEGINNING. -/
theorem region_planZ {r : Option Nat} {m : Nat} {id : Nat} {a : Act} {w : World} (S : World → Prop) (plan : PT) (hm : P.follows .mixedOrders = true) (hnd : ops.toList.all notDefer = true) (hL : ¬ LetsOut Q)
    (hs : Region.noSelect ops = true) (hp : planOkT ops plan.lasts plan (endOk ops) ops.size [] (Array.replicate ops.size false) = true) (hQ : ∀ c a w d v, Q (.panic c) (a.put d v) w → Q (.panic c) a w)
    (hS : S w.drew) (h : walkZ P ops Q plan S (fun _ a w => Q .normal a w) a w.drew) : (Code.region id ops true).wpIn (fenceR r) m P Q a w := by
  refine wpIn_region_any hm (anyIn hnd hL (any_of_F (S := S) (F := plan.lasts) _ _ _ _ ?_))
  refine anyX_nil (anyX_of_walkZ hs hQ plan _ (fun _ a w => Q .normal a w) _ [] _ S a w.drew (fun k ok _ hl => by exfalso; rw [Array.getD_eq_getD_getElem?, Array.getElem?_replicate] at hl; split at hl <;> simp at hl) hp (.inl hS) ?_ h)
  intro S' n' l' a' w' _ h1 _ _ h4
  simp only [endOk, Bool.and_eq_true, beq_iff_eq, List.isEmpty_iff] at h1
  obtain ⟨rfl, h1⟩ := h1
  exact ⟨h1, h4⟩
end
end Go.Proofs.Ytkcdomafdjpbjaa
