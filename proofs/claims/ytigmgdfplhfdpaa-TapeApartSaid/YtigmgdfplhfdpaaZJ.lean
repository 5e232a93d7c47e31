/- Iterators: what a function comes to that calls yield and only reads besides. -/
import Derived.Test.YtigmgdfplhfdpaaZI
namespace Go.Proofs.Ytigmgdfplhfdpaa
open Go.RowKit

section
variable {P : Program} {ops : Array Oper} {Q : Exit → Act → World → Prop} {S : World → Prop} {F : List Nat}
theorem opI_take {i : Nat} {o : Oper} {v : Value} {a : Act} (hi : ops[i]? = some o) (hy : YieldsIf P ops S o v a) {K : Act → World → Prop} {w : World} (hS : S w) (h : K (a.put o.dst v) w) : wpOpIn (fenceR none) 0 P ops Q i K a w := by
  unfold wpOpIn
  simp only [hi]
  rcases hy with ⟨hw, hv⟩ | ⟨hw, rfl⟩
  · simp only [hw, if_true, Oper.wpIn]
    refine ⟨fun _ _ => trivial, ?_⟩
    simp only [fenceR, Oper.semAt_none, hv w hS, Oper.uponIn]
    exact h
  · simp only [hw, Bool.false_eq_true, if_false]
    exact ⟨fun _ _ => trivial, h⟩
theorem opI_putIf {j : Nat} {oi oj : Oper} {v : Value} (hj : ops[j]? = some oj) (hap : oi.apart ops oj = true) (hsi : ∀ cs b, oi.op ≠ .select cs b) (hsj : ∀ cs b, oj.op ≠ .select cs b)
    (hQ : ∀ c a w, Q (.panic c) (a.put oi.dst v) w → Q (.panic c) a w) {K : Act → World → Prop} {a : Act} {w : World} (hy : YieldsIf P ops S oi v a) (h : wpOpIn (fenceR none) 0 P ops Q j K (a.put oi.dst v) w) :
    wpOpIn (fenceR none) 0 P ops Q j (fun a' w' => YieldsIf P ops S oi v a' ∧ K (a'.put oi.dst v) w') a w := by
  obtain ⟨h1, h2, h3⟩ := Oper.apart_spec hap
  have keep : ∀ (a : Act), YieldsIf P ops S oi v a → ∀ u, YieldsIf P ops S oi v (a.put oj.dst u) := fun a hy u => hy.of_same (execOp_put oi hsi a oj.dst u h3) (wanted_put oi a oj.dst u h3)
  have keepD : ∀ d, YieldsIf P ops S oi v { a with defers := d :: a.defers } := fun d => hy.of_same rfl rfl
  unfold wpOpIn at *
  simp only [hj] at *
  rw [wanted_put oj a oi.dst v h1] at h
  split
  · rename_i hw
    simp only [hw, if_true] at h
    unfold Oper.wpIn at *
    refine ⟨fun _ _ => trivial, ?_⟩
    have h := h.2
    simp only [fenceR, Oper.semAt_none] at h ⊢
    rw [execOp_put oj hsj a oi.dst v h1] at h
    generalize (execOp a.eval oj).run P w = r at *
    cases r with
    | ok x w' =>
      cases x with
      | value u => exact ⟨keep a hy u, by rw [← Act.put_comm a v u h2]; exact h⟩
      | skip => exact ⟨keep a hy _, by rw [← Act.put_comm a v undef h2]; exact h⟩
      | defer d =>
        refine ⟨keep _ (keepD d) _, ?_⟩
        rw [← Act.put_comm _ v undef h2, ← Act.put_defers]
        exact h
      | enter f args =>
        refine ⟨h.1, CallsIn.mono h.2 fun e w'' he => ?_⟩
        cases e with
        | returned u => exact ⟨keep a hy u, by rw [← Act.put_comm a v u h2]; exact he⟩
        | panicked c => exact hQ _ _ _ he
        | outgrown => exact he
      | row row args => exact ⟨h.1, RowsIn.mono h.2 fun u w'' he => ⟨keep a hy u, by rw [← Act.put_comm a v u h2]; exact he⟩⟩
      | round l f tmps assign body =>
        refine ⟨h.1, RoundIn.mono h.2 fun e w'' he => ?_⟩
        cases e with
        | returned u => exact ⟨keep a hy u, by rw [← Act.put_comm a v u h2]; exact he⟩
        | panicked c => exact hQ _ _ _ he
        | outgrown => exact he
      | _ => exact h
    | halt x w' =>
      cases x with
      | panic u => exact hQ _ _ _ h
      | _ => exact h
  · rename_i hw
    simp only [hw] at h
    exact ⟨fun _ _ => trivial, keep a hy _, by rw [← Act.put_comm a v undef h2]; exact h.2⟩
/-- Whatever order comes up. -/
def anyI (P : Program) (ops : Array Oper) (Q : Exit → Act → World → Prop) (S : World → Prop) (F : List Nat) : Nat → Array Bool → Act → World → Prop
  | 0, listed, a, w => Region.ready .any ops listed = [] ∧ Q .normal a w
  | fuel + 1, listed, a, w =>
    (Region.ready .any ops listed = [] → Q .normal a w) ∧
    ∀ i ∈ Region.ready .any ops listed, wpOpIn (fenceR none) 0 P ops Q i (fun a' w' => (F.contains i = false → S w') ∧ anyI P ops Q S F fuel (listed.setIfInBounds i true) a' w') a w
theorem any_of_I : ∀ (fuel : Nat) (listed : Array Bool) (a : Act) (w : World), anyI P ops Q S F fuel listed a w → wpAnyIn (fenceR none) 0 P .any ops Q fuel listed a w
  | 0, _, _, _, h => h
  | _ + 1, _, _, _, h => ⟨h.1, fun i hi => wpOpIn_mono (fun a' w' h' => any_of_I _ _ a' w' h'.2) (h.2 i hi)⟩
theorem anyI_take {i : Nat} {oi : Oper} {v : Value} (hi : ops[i]? = some oi) (hsel : ∀ (j : Nat) (o : Oper) cs b, ops[j]? = some o → o.op ≠ .select cs b)
    (hQ : ∀ c a w, Q (.panic c) (a.put oi.dst v) w → Q (.panic c) a w) (hF : ∀ j ∈ F, ∀ oj, ops[j]? = some oj → waitsN ops ops.size i j = true) :
    ∀ (fuel : Nat) (listed : Array Bool) (a : Act) (w : World), Closed ops listed →
      (∀ j oj, ops[j]? = some oj → j ≠ i → listed.getD j true = false → (∀ e ∈ oj.after, Region.binds .any e = true → e.on ≠ i) → oi.apart ops oj = true) →
      i ∈ Region.ready .any ops listed → YieldsIf P ops S oi v a → S w →
      anyI P ops Q S F fuel (listed.setIfInBounds i true) (a.put oi.dst v) w → anyI P ops Q S F (fuel + 1) listed a w := by
  intro fuel
  induction fuel with
  | zero =>
    intro listed a w _ _ hr hy hS H
    refine ⟨fun h => (by rw [h] at hr; cases hr), fun j hj => ?_⟩
    by_cases hji : j = i
    · subst hji; exact opI_take hi hy hS ⟨fun _ => hS, H⟩
    · have := ready_mono hj hji
      rw [H.1] at this
      cases this
  | succ fuel ih =>
    intro listed a w hcl hfree hr hy hS H
    refine ⟨fun h => (by rw [h] at hr; cases hr), fun j hj => ?_⟩
    by_cases hji : j = i
    · subst hji; exact opI_take hi hy hS ⟨fun _ => hS, H⟩
    · have h1 := H.2 j (ready_mono hj hji)
      obtain ⟨hjun, oj, hoj, hall⟩ := mem_ready.1 hj
      have hnot := waits_of_ready hr hj hoj
      have hjF : F.contains j = false := by
        cases hc : F.contains j
        · rfl
        · exact (unlisted_of_ready hr (waitsN_spec hcl _ j oj hoj (hF j (by simpa using hc) oj hoj) hall)).elim
      have h2 := opI_putIf hoj (hfree j oj hoj hji hjun hnot) (fun cs b => hsel i oi cs b hi) (fun cs b => hsel j oj cs b hoj) hQ hy h1
      have hfree' : ∀ k ok, ops[k]? = some ok → k ≠ i → (listed.setIfInBounds j true).getD k true = false →
          (∀ e ∈ ok.after, Region.binds .any e = true → e.on ≠ i) → oi.apart ops ok = true := fun k ok hk hki hun hno => by
        refine hfree k ok hk hki ?_ hno
        by_cases hjk : j = k
        · subst hjk; exact hjun
        · rw [getD_set_ne true hjk] at hun; exact hun
      refine wpOpIn_mono (fun a' w' h3 => ⟨h3.2.1, ih (listed.setIfInBounds j true) a' w' (hcl.put hj) hfree' (ready_mono hr (Ne.symm hji)) h3.1 (h3.2.1 hjF) ?_⟩) h2
      rw [Array.setIfInBounds_comm _ _ hji]
      exact h3.2.2
/-- The walk by a plan: what is taken, and then the last ones. -/
def walkI (P : Program) (ops : Array Oper) (Q : Exit → Act → World → Prop) (S : World → Prop) : List (Nat × Way) → Act → World → Prop
  | [], a, w => Q .normal a w
  | (i, .take) :: rest, a, w => ∃ o, ops[i]? = some o ∧ ∃ v, YieldsIf P ops S o v a ∧ walkI P ops Q S rest (a.put o.dst v) w
  | (_, .do_) :: _, _, _ => False
  | (i, .last) :: rest, a, w => wpOpIn (fenceR none) 0 P ops Q i (fun a' w' => walkI P ops Q S rest a' w') a w
theorem anyI_of_walk (hs : Region.noSelect ops = true) (hQ : ∀ c a w d v, Q (.panic c) (a.put d v) w → Q (.panic c) a w) :
    ∀ (plan : List (Nat × Way)) (listed : Array Bool) (a : Act) (w : World), Closed ops listed → planOk ops F plan listed = true → (S w ∨ plan.all (fun x => !decide (x.2 = .take)) = true) → walkI P ops Q S plan a w → anyI P ops Q S F plan.length listed a w
  | [], listed, a, w, _, h, _, hw => by
    have h' : Region.ready .any ops listed = [] := by simpa [planOk] using h
    exact ⟨h', hw⟩
  | (i, .take) :: rest, listed, a, w, hcl, h, hS, hw => by
    simp only [planOk, Bool.and_eq_true, decide_eq_true_eq, List.all_eq_true] at h
    obtain ⟨⟨⟨⟨hi, h1⟩, h2⟩, h3⟩, h4⟩ := h
    obtain ⟨o, ho, v, hy, hr⟩ := hw
    have hS' : S w := by
      rcases hS with h | h
      · exact h
      · simp at h
    exact anyI_take ho (Region.noSelect_spec hs) (fun c a w => hQ c a w _ _) (fun j hj oj hoj => waitsFor_spec (h3 j hj) oj hoj) _ listed a w hcl (Region.free_spec ho h1) (by simpa using h2) hy hS'
      (anyI_of_walk hs hQ rest _ _ _ (hcl.put (by simpa using h2)) h4 (.inl hS') hr)
  | (i, .do_) :: rest, listed, a, w, _, _, _, hw => hw.elim
  | (i, .last) :: rest, listed, a, w, hcl, h, hS, hw => by
    simp only [planOk, Bool.and_eq_true, decide_eq_true_eq] at h
    obtain ⟨⟨⟨⟨hi, h1⟩, h2⟩, h3⟩, h4⟩ := h
    refine ⟨fun h0 => (by rw [h1] at h0; cases h0), fun j hj => ?_⟩
    rw [h1] at hj
    obtain rfl : j = i := by simpa using hj
    exact wpOpIn_mono (fun a' w' hh => ⟨fun h0 => (by rw [h2] at h0; cases h0), anyI_of_walk hs hQ rest _ _ _ (hcl.put (by rw [h1]; simp)) h4 (.inr h3) hh⟩) hw
theorem region_planI {id : Nat} {a : Act} {w : World} (S : World → Prop) (plan : List (Nat × Way)) (hm : P.follows .mixedOrders = true) (hn : plan.length = ops.size)
    (hs : Region.noSelect ops = true) (hp : planOk ops (lasts plan) plan (Array.replicate ops.size false) = true) (hQ : ∀ c a w d v, Q (.panic c) (a.put d v) w → Q (.panic c) a w)
    (hS : S w.drew) (h : walkI P ops Q S plan a w.drew) : (Code.region id ops true).wpIn (fenceR none) 0 P Q a w := by
  refine wpIn_region_any hm (any_of_I (S := S) (F := lasts plan) _ _ _ _ ?_)
  rw [← hn]
  exact anyI_of_walk hs hQ plan _ a w.drew (fun k ok _ hl => by exfalso; rw [Array.getD_eq_getD_getElem?, Array.getElem?_replicate] at hl; split at hl <;> simp at hl) (by rw [hn]; exact hp) (.inl hS) h
theorem seq_of_walkI : ∀ (l : List Nat) {a : Act} {w : World}, walkI P ops Q S (l.map fun i => (i, Way.last)) a w → wpOpsIn (fenceR none) 0 P ops Q l a w
  | [], _, _, h => h
  | i :: l, a, w, h => by
    rw [wpOpsIn_cons]
    exact wpOpIn_mono (fun a' w' h => seq_of_walkI l h) h
end

/-! ### What is known of an iterator's activation -/
/-- How a consumer is met: k rounds are over, or it wants no more. -/
structure ICtx (P : Program) (l : Nat) (bs : List SB) (caps : List SV) (inf : Bool) (N : Nat) (enc : Nat → List SV) (lb : List Value) (J : Nat → Plc → World → Prop) (Jx : World → Prop) : Prop where
  mem : ∀ k ρ W, J k ρ W → MemOK ρ ⟨[], bs, []⟩ W ∧ RelL ρ caps lb
  drew : ∀ k ρ W, J k ρ W → J k ρ W.drew
  drewx : ∀ W, Jx W → Jx W.drew
  grow : ∀ k ρ W W', J k ρ W → Grown W W' → J k ρ W'
  last : inf = true → ∀ ρ W, ¬ J N ρ W
  yield : ∀ k ρ W us, J k ρ W → k < N → RelL ρ (enc k) us → YieldAt (fenceR none) 0 P l us.toArray W fun e W' => (e = .returned (.bool true) ∧ ∃ ρ', J (k + 1) ρ' W') ∨ (e = .returned (.bool false) ∧ Jx W')
def atX : Nm → Nat × Nat
  | .g x => (x, 0)
  | _ => (0, 0)
def ρx : Plc := { at_ := atX, nx := 0, z := fun _ _ => none, q := fun _ => none, gh := fun _ => undef }
def Wd (J : Nat → Plc → World → Prop) (Jx : World → Prop) : Option Nat → Plc → World → Prop
  | some k, ρ, W => J k ρ W
  | none, ρ, W => Jx W ∧ ρ = ρx
def memOf (bs : List SB) : Option Nat → Mem
  | some _ => ⟨[], bs, []⟩
  | none => ⟨[], [], []⟩
theorem memX (W : World) : MemOK ρx ⟨[], [], []⟩ W where
  blk a b h := by cases a <;> simp [Mem.look, assoc] at h
  sep a b A B h := by cases a <;> simp [Mem.look, assoc] at h
  glob _ := rfl
  nx := rfl
  fz _ _ _ h := by cases h
  sepz a A h := by cases a <;> simp [Mem.look, assoc] at h
  fq _ _ h := by cases h
def keptX (caps : List SV) (a : Nm) (e sz f : Nat) : Bool := match caps with
  | [] => false
  | .p a' e' sz' f' :: l => match nmEq a' a && Nat.beq e' e && Nat.beq sz' sz && Nat.beq f' f with
    | true => true
    | false => keptX l a e sz f
  | _ :: l => keptX l a e sz f
def keepX (caps : List SV) : SV → SV
  | .v y => .v y
  | .p a e sz f => match keptX caps a e sz f with
    | true => .p a e sz f
    | false => .any
  | _ => .any
def keepV (caps : List SV) (nt : Nat) : List (Nat × SV) → List (Nat × SV)
  | [] => []
  | (t, x) :: l => match Nat.blt t nt with
    | true => (t, keepX caps x) :: keepV caps nt l
    | false => keepV caps nt l
theorem nmEq_eq : ∀ {a b : Nm}, nmEq a b = true → a = b
  | .o a, .o b, h => by rw [Nat.eq_of_beq_eq_true h]
  | .n a, .n b, h => by rw [Nat.eq_of_beq_eq_true h]
  | .g a, .g b, h => by rw [Nat.eq_of_beq_eq_true h]
  | .o _, .n _, h | .o _, .g _, h | .n _, .o _, h | .n _, .g _, h | .g _, .o _, h | .g _, .n _, h => by cases h
theorem keptX_mem {a : Nm} {e sz f : Nat} : ∀ {caps : List SV}, keptX caps a e sz f = true → SV.p a e sz f ∈ caps
  | [], h => by cases h
  | x :: l, h => by
    unfold keptX at h
    split at h
    · rename_i h0; cases h0
    · rename_i a' e' sz' f' l' h0
      injection h0 with h1 h2
      subst h2
      split at h
      · rename_i hb
        simp only [Bool.and_eq_true] at hb
        obtain ⟨⟨⟨b1, b2⟩, b3⟩, b4⟩ := hb
        rw [h1, nmEq_eq b1, Nat.eq_of_beq_eq_true b2, Nat.eq_of_beq_eq_true b3, Nat.eq_of_beq_eq_true b4]
        exact List.mem_cons_self ..
      · exact List.mem_cons_of_mem _ (keptX_mem h)
    · rename_i h0
      injection h0 with _ h2
      subst h2
      exact List.mem_cons_of_mem _ (keptX_mem h)
theorem keepX_rel {ρ ρ' : Plc} {caps : List SV} {lb : List Value} (h1 : RelL ρ caps lb) (h2 : RelL ρ' caps lb) {x : SV} {u : Value} (h : Rel ρ x u) : Rel ρ' (keepX caps x) u := by
  unfold keepX
  split
  · unfold Rel at *; exact h
  · rename_i a e sz f
    split
    · rename_i hk
      obtain ⟨i, hi⟩ := List.mem_iff_getElem?.1 (keptX_mem hk)
      obtain ⟨u1, e1, r1⟩ := h1.get hi
      obtain ⟨u2, e2, r2⟩ := h2.get hi
      rw [e1] at e2
      cases e2
      have : u = u1 := by unfold Rel at h r1; rw [h.1, r1.1]
      rw [this]
      exact r2
    · unfold Rel; trivial
  · unfold Rel; trivial
def keepSt (caps : List SV) (s : St) : St := { slots := keepV caps s.nt s.slots, nt := s.nt, mem := s.mem }
theorem assoc_keepV (caps : List SV) (nt t : Nat) : ∀ l, assoc (keepV caps nt l) t = if t < nt then (assoc l t).map (keepX caps) else none
  | [] => by simp [keepV, assoc]
  | (k, x) :: l => by
    unfold keepV
    cases h : Nat.blt k nt with
    | true =>
      have hk : k < nt := Nat.lt_of_succ_le (Nat.le_of_ble_eq_true h)
      simp only [assoc_cons, assoc_keepV caps nt t l]
      by_cases e : k = t
      · subst e; simp [hk]
      · simp [e]
    | false =>
      have hk : ¬ k < nt := fun hlt => by
        have : Nat.blt k nt = true := Nat.ble_eq_true_of_le hlt
        rw [h] at this; cases this
      simp only [assoc_cons, assoc_keepV caps nt t l]
      by_cases e : k = t
      · subst e; simp [hk]
      · simp [e]
theorem keep_act {ρ ρ' : Plc} {s : St} {a : Act} (h : ActOK ρ s a) (hd : a.defers = []) {caps : List SV} {lb : List Value} (h1 : RelL ρ caps lb) (h2 : RelL ρ' caps lb) : ActOK ρ' (keepSt caps s) a where
  rel t := by
    unfold St.get keepSt
    simp only [assoc_keepV]
    by_cases ht : t < s.nt
    · rw [if_pos ht]
      have := h.rel t
      unfold St.get at this
      cases e : assoc s.slots t with
      | none => simp only [Option.map_none]; unfold Rel; trivial
      | some x =>
        simp only [Option.map_some]
        rw [e] at this
        simp only at this
        unfold tmpAt at this ⊢
        rw [if_pos ht] at this ⊢
        exact keepX_rel h1 h2 this
    · rw [if_neg ht]; unfold Rel; trivial
  size := h.size
  defers := ⟨[], List.nodup_nil, hd, fun D hD => by cases hD⟩

/-- The callee of a call of a value. -/
def callVal (op : Op) : Option (Operand × List Operand) := match op with
  | .call { callee := .value f, args, .. } => some (f, args.toList)
  | _ => none
/-- A call whose result is a value. -/
structure PureCall (P : Program) (g : Nat) (args : List SV) (K : Value → Prop) : Prop where
  out : ∃ Q : Value → Prop, (FnOK P [] g [] args fun r _ ext => (∃ x, r = .v x ∧ Q x) ∧ ext = []) ∧ ∀ x, Q x → K x
theorem PureCall.of {P : Program} {g : Nat} {args : List SV} {x : Value} {K : Value → Prop} (h : FnOK P [] g [] args fun r _ ext => r = .v x ∧ ext = []) (k : K x) : PureCall P g args K :=
  ⟨fun y => y = x, h.mono (fun r _ ext ⟨h1, h2⟩ => ⟨⟨x, h1, rfl⟩, h2⟩), fun _ e => e ▸ k⟩
section
variable (C : Seat) (l : Nat) (bs : List SB) (caps : List SV) (inf : Bool) (N : Nat) (enc : Nat → List SV)
/-- An operation that reads, or the call of yield. -/
def lastK (μ : Option Nat) (s : St) (o : Oper) (K : Option Nat → St → Prop) : Prop :=
  match callVal o.op with
  | some (f, args) => match μ with
    | some k => match s.ev f with
      | .fn g cap => PureCall C.P g (args.map s.ev ++ cap) fun x => putS s o.dst (.v x) (K (some k))
      | _ => (k < N ∧ s.ev f = .v (.func (.yield l) #[] #[]) ∧ args.map s.ev = enc k) ∧
        Both (forceSt (keepSt caps s) fun s => putS s o.dst (.v (.bool true)) (K (some (k + 1)))) (forceSt (keepSt [] s) fun s => putS s o.dst (.v (.bool false)) (K none))
    | none => False
  | none => pureOp C (memOf bs μ) s.ev o.op (fun sv => putS s o.dst sv (K μ)) False
def viter (ops : Array Oper) : List (Nat × Way) → Option Nat → St → (Option Nat → St → Prop) → Prop
  | [], μ, s, K => K μ s
  | (i, .take) :: r, μ, s, K => match ops[i]? with
    | some o => guardK ops s o (fun s => pureOp C (memOf bs μ) s.ev o.op (fun sv => putS s o.dst sv fun s' => viter ops r μ s' K) False) (fun s => skipK s o fun s' => viter ops r μ s' K)
    | none => False
  | (_, .do_) :: _, _, _, _ => False
  | (i, .last) :: r, μ, s, K => match ops[i]? with
    | some o => guardK ops s o (fun s => lastK C l bs caps N enc μ s o fun μ' s' => viter ops r μ' s' K) (fun s => skipK s o fun s' => viter ops r μ s' K)
    | none => False
/-- How an iterator's code is left. -/
def IPost (J : Nat → Plc → World → Prop) (Jx : World → Prop) (nt : Nat) (K : Exit → Option Nat → St → Prop) : Exit → Act → World → Prop
  | .panic _, _, _ => False
  | .outgrown, _, _ => False
  | .goto _, _, _ => False
  | e, a, W => ∃ μ ρ st, Wd J Jx μ ρ W ∧ ActOK ρ st a ∧ a.defers = [] ∧ st.nt = nt ∧ K e μ st
structure OKi (c : Code) (μ : Option Nat) (st : St) (K : Exit → Option Nat → St → Prop) : Prop where
  out : ∀ lb J Jx, ICtx C.P l bs caps inf N enc lb J Jx → ∀ ρ a W, Wd J Jx μ ρ W → ActOK ρ st a → a.defers = [] → c.wpIn (fenceR none) 0 C.P (IPost J Jx st.nt K) a W
structure PlanOKI (P : Program) (ops : Array Oper) (plan : List (Nat × Way)) : Prop where
  mixed : P.follows .mixedOrders = true
  len : plan.length = ops.size
  nosel : Region.noSelect ops = true
  ok : planOk ops (lasts plan) plan (Array.replicate ops.size false) = true
def vi (pl : List (Nat × List (Nat × Way))) : Code → Option Nat → St → (Exit → Option Nat → St → Prop) → Prop
  | .skip, μ, st, K => K .normal μ st
  | .seq x y, μ, st, K => vi pl x μ st fun e μ s => match e with
    | .normal => vi pl y μ s K
    | e => K e μ s
  | .cond c x y, μ, st, K => match st.ev c with
    | .v (.bool b) => BB b (vi pl x μ (knowC st c true) K) (vi pl y μ (knowC st c false) K)
    | _ => False
  | .block id b, μ, st, K => vi pl b μ st fun e μ s => match e with
    | .exit i => match Nat.beq i id with
      | true => K .normal μ s
      | false => K (.exit i) μ s
    | e => K e μ s
  | .exit id, μ, st, K => K (.exit id) μ st
  | .ret, μ, st, K => K .ret μ st
  | .region _ ops false, μ, st, K => viter C l bs caps N enc ops ((List.range ops.size).map fun i => (i, Way.last)) μ st (K .normal)
  | .region id ops true, μ, st, K => match assoc pl id with
    | some plan => PlanOKI C.P ops plan ∧ viter C l bs caps N enc ops plan μ st (K .normal)
    | none => False
  | .loop b, μ, st, K => forceSt st fun st => OKi C l bs caps inf N enc (.loop b) μ st K
  | _, _, _, _ => False
end

section
variable {C : Seat} {l : Nat} {bs : List SB} {caps : List SV} {inf : Bool} {N : Nat} {enc : Nat → List SV} {lb : List Value} {J : Nat → Plc → World → Prop} {Jx : World → Prop}
theorem Wd.mem (h : ICtx C.P l bs caps inf N enc lb J Jx) {μ : Option Nat} {ρ : Plc} {W : World} (hw : Wd J Jx μ ρ W) : MemOK ρ (memOf bs μ) W := by
  cases μ with
  | some k => exact (h.mem k ρ W hw).1
  | none => obtain ⟨_, rfl⟩ := hw; exact memX W
theorem Wd.drew (h : ICtx C.P l bs caps inf N enc lb J Jx) {μ : Option Nat} {ρ : Plc} {W : World} (hw : Wd J Jx μ ρ W) : Wd J Jx μ ρ W.drew := by
  cases μ with
  | some k => exact h.drew k ρ W hw
  | none => exact ⟨h.drewx W hw.1, hw.2⟩
theorem putS_act {ρ : Plc} {st : St} {a : Act} {dst : Option Nat} {x : SV} {u : Value} {K : St → Prop} (h : putS st dst x K) (ha : ActOK ρ st a) (hx : Rel ρ x u) : ∃ st2, ActOK ρ st2 (a.put dst u) ∧ K st2 ∧ st2.nt = st.nt := by
  obtain ⟨st2, h1, _, h3, h4⟩ := putK_same h ha hx
  exact ⟨st2, h1, h3, h4⟩
theorem put_defers (a : Act) (dst : Option Nat) (u : Value) : (a.put dst u).defers = a.defers := by cases dst <;> rfl
theorem wpOpIn_of {ops : Array Oper} {i : Nat} {o : Oper} {K : Act → World → Prop} {a : Act} {w : World} {Q : Exit → Act → World → Prop} {P : Program} (hi : ops[i]? = some o) (h : if Region.wanted o (yielded ops a.tmps) = true then o.wpIn (fenceR none) 0 P a w K Q else K (a.put o.dst undef) w) : wpOpIn (fenceR none) 0 P ops Q i K a w := by
  unfold wpOpIn
  simp only [hi]
  split
  · rename_i hw; rw [if_pos hw] at h; exact h
  · rename_i hw; rw [if_neg hw] at h; exact ⟨fun _ _ => trivial, h⟩
theorem viter_sound (hC : C.ok) (hx : ICtx C.P l bs caps inf N enc lb J Jx) {ops : Array Oper} {Q : Exit → Act → World → Prop} {nt : Nat} {K : Option Nat → St → Prop} {w0 : World}
    (hQ : ∀ μ ρ st a W, Wd J Jx μ ρ W → ActOK ρ st a → a.defers = [] → st.nt = nt → K μ st → Q .normal a W) :
    ∀ {plan : List (Nat × Way)} {μ : Option Nat} {st : St} {ρ : Plc} {a : Act} {w : World}, (w = w0 ∨ plan.all (fun x => !decide (x.2 = .take)) = true) → Wd J Jx μ ρ w → ActOK ρ st a → a.defers = [] → st.nt = nt →
      (plan.Pairwise fun x y => x.2 = .last → y.2 = .last) → viter C l bs caps N enc ops plan μ st K → walkI C.P ops Q (fun w => w = w0) plan a w
  | [], μ, st, ρ, a, w, _, hw, ha, hd, hn, _, h => hQ μ ρ st a w hw ha hd hn h
  | (i, .take) :: r, μ, st, ρ, a, w, hs, hw, ha, hd, hn, hp, h => by
    have hs : w = w0 := by
      rcases hs with h | h
      · exact h
      · simp at h
    unfold viter at h
    split at h
    rotate_left
    · exact h.elim
    rename_i o ho
    refine ⟨o, ho, ?_⟩
    obtain ⟨st', ha', _, hnt, ⟨hwa, h⟩ | ⟨hwa, h⟩⟩ := guardK_sound h ha
    · have hm := Wd.mem hx hw
      rcases pureOp_sound hC hm.blks (a := a) (fun x => ha'.ev hm.glob x) (o := o) h with ⟨sv, v, h1, h2, h3⟩ | h
      · obtain ⟨st2, k1, k2, k3⟩ := putS_act h1 ha' h2
        refine ⟨v, .inl ⟨hwa, fun w' e => ?_⟩, viter_sound hC hx hQ (.inl hs) hw k1 ((put_defers _ _ _).trans hd) (k3.trans (hnt.trans hn)) (List.pairwise_cons.1 hp).2 k2⟩
        have e : w' = w0 := e
        rw [e, ← hs]
        exact h3 w hm.same
      · exact h.elim
    · obtain ⟨st2, k1, k2, k3⟩ := putS_act h ha' (rel_v undef)
      exact ⟨undef, .inr ⟨hwa, rfl⟩, viter_sound hC hx hQ (.inl hs) hw k1 ((put_defers _ _ _).trans hd) (k3.trans (hnt.trans hn)) (List.pairwise_cons.1 hp).2 k2⟩
  | (i, .do_) :: r, μ, st, ρ, a, w, _, _, _, _, _, _, h => h.elim
  | (i, .last) :: r, μ, st, ρ, a, w, _, hw, ha, hd, hn, hp, h => by
    obtain ⟨hp1, hp2⟩ := List.pairwise_cons.1 hp
    have hr : r.all (fun x => !decide (x.2 = .take)) = true := by
      rw [List.all_eq_true]
      intro x hxr
      rw [hp1 x hxr rfl]
      rfl
    unfold viter at h
    split at h
    rotate_left
    · exact h.elim
    rename_i o ho
    unfold walkI
    refine wpOpIn_of ho ?_
    obtain ⟨st', ha', _, hnt, ⟨hwa, h⟩ | ⟨hwa, h⟩⟩ := guardK_sound h ha
    · rw [if_pos hwa]
      unfold lastK at h
      unfold Oper.wpIn
      refine ⟨fun _ _ => trivial, ?_⟩
      simp only [fenceR, Oper.semAt_none]
      have hm := Wd.mem hx hw
      split at h
      · rename_i f args hcv
        obtain ⟨k, rfl⟩ : ∃ k, μ = some k := by
          cases μ with
          | none => exact h.elim
          | some k => exact ⟨k, rfl⟩
        simp only at h
        split at h
        · -- a call of a function
          rename_i g cap hfv0
          obtain ⟨Q', hfn, hQ'⟩ := h.out
          have hfv := ha'.ev hm.glob f
          rw [hfv0] at hfv
          unfold Rel at hfv
          obtain ⟨us, hfv, hus⟩ := hfv
          have hargs : RelL ρ (args.map st'.ev ++ cap) (args.map a.eval ++ us) := (relL_map (ha'.ev hm.glob) args).append hus
          have hmc : MemOK { ρ with q := fun _ => none } ⟨[], [], []⟩ w := by
            refine ⟨fun a b hb => ?_, fun a b A B hA => ?_, hm.glob, hm.nx, hm.fz, fun a A hA => ?_, fun b o hb => by cases hb⟩
            · cases a <;> simp [Mem.look, assoc] at hb
            · cases a <;> simp [Mem.look, assoc] at hA
            · cases a <;> simp [Mem.look, assoc] at hA
          have hcall := hfn.out { ρ with q := fun _ => none } w _ (fun _ => rfl) hmc (hargs.noq _)
          obtain ⟨fn, hfn', hbody, hname⟩ := hfn.ent
          have hrun : (execOp a.eval o).run C.P w = .ok (.enter g (args.map a.eval ++ us).toArray) w := by
            obtain ⟨dst, op, ty, pos, after, guard⟩ := o
            simp only at hcv
            unfold callVal at hcv
            split at hcv
            · rename_i f' args' at' _h
              simp only [Option.some.injEq, Prod.mk.injEq] at hcv
              obtain ⟨rfl, rfl⟩ := hcv
              have hp : program.run C.P w = .ok C.P w := rfl
              have hn' : ¬ fn.name = "runtime.NumGoroutine" := by simpa using hname
              have hb' : ¬ fn.body = none := fun e => by rw [e] at hbody; cases hbody
              simp [execOp, resolve, hfv, Deferred.ofValue, invoke, callFunc, hp, hfn', hn', hb']
            · cases hcv
          rw [hrun]
          have hup : o.uponIn (fenceR none) 0 C.P a (fun a' w' => walkI C.P ops Q (fun w => w = w0) r a' w') Q (.ok (.enter g (args.map a.eval ++ us).toArray) w) := by
            rw [Oper.uponIn_enter]
            refine ⟨fun h => (by cases h), CallsIn.mono (callsIn_R hcall) ?_⟩
            rintro e w' ⟨ρ', r', bs', ext, u, rfl, hH', hu, ⟨x, rfl, hx'⟩, _⟩
            unfold Rel at hu
            rw [hu]
            have hgr : Grown w w' := ⟨⟨hH'.size, fun n hn => hH'.fr n hn (fun ⟨k, b, hb, _⟩ => by simp at hb)⟩, hH'.os, hH'.tape, hH'.output⟩
            have hJ' : J k ρ w' := hx.grow k ρ w w' hw hgr
            obtain ⟨st2, k1, k2, k3⟩ := putS_act (hQ' _ hx') ha' (rel_v x)
            exact viter_sound hC hx hQ (.inr hr) (μ := some k) (ρ := ρ) hJ' k1 ((put_defers _ _ _).trans hd) (k3.trans (hnt.trans hn)) hp2 k2
          exact hup
        obtain ⟨⟨hk, hf, he⟩, h⟩ := h
        have hfv := ha'.ev hm.glob f
        rw [hf] at hfv
        unfold Rel at hfv
        have hus : RelL ρ (enc k) (args.map a.eval) := by
          rw [← he]
          exact relL_map (ha'.ev hm.glob) args
        obtain ⟨fn, tmps, assign, body, hy, hR⟩ := hx.yield k ρ w _ hw hk hus
        have hrun : (execOp a.eval o).run C.P w = .ok (.round l fn tmps assign body) w := by
          obtain ⟨dst, op, ty, pos, after, guard⟩ := o
          simp only at hcv
          unfold callVal at hcv
          split at hcv
          · rename_i f' args' at' _h
            simp only [Option.some.injEq, Prod.mk.injEq] at hcv
            obtain ⟨rfl, rfl⟩ := hcv
            have e2 : (args'.toList.map a.eval).toArray = Array.map a.eval args' := Array.ext' (by simp)
            rw [e2] at hy
            simp [execOp, resolve, hfv, Deferred.ofValue, invoke, hy]
          · cases hcv
        rw [hrun]
        have hup := Oper.uponIn_round (F := fenceR none) (n := 0) (P := C.P) (o := o) (a := a) (next := fun a' w' => walkI C.P ops Q (fun w => w = w0) r a' w') (Q := Q) (w := w) l fn tmps assign body
        have : o.uponIn (fenceR none) 0 C.P a (fun a' w' => walkI C.P ops Q (fun w => w = w0) r a' w') Q (.ok (.round l fn tmps assign body) w) := by
          rw [hup]
          refine ⟨fun h => (by cases h), RoundIn.mono hR ?_⟩
          rintro e W' (⟨rfl, ρ', hJ⟩ | ⟨rfl, hJ⟩)
          · have hrel := (hx.mem _ _ _ hw).2
            have hA := keep_act ha' hd hrel (hx.mem _ _ _ hJ).2
            obtain ⟨st2, k1, k2, k3⟩ := putS_act (forceSt_spec (K := fun s => putS s o.dst (.v (.bool true)) _) h.l) hA (rel_v (.bool true))
            exact viter_sound hC hx hQ (.inr hr) (μ := some (k + 1)) (ρ := ρ') hJ k1 ((put_defers _ _ _).trans hd) (k3.trans (hnt.trans hn)) hp2 k2
          · have hA := keep_act (caps := []) (lb := []) ha' hd (ρ' := ρx) (by unfold RelL; rfl) (by unfold RelL; rfl)
            obtain ⟨st2, k1, k2, k3⟩ := putS_act (forceSt_spec (K := fun s => putS s o.dst (.v (.bool false)) _) h.r) hA (rel_v (.bool false))
            exact viter_sound hC hx hQ (.inr hr) (μ := none) (ρ := ρx) ⟨hJ, rfl⟩ k1 ((put_defers _ _ _).trans hd) (k3.trans (hnt.trans hn)) hp2 k2
        exact this
      · rcases pureOp_sound hC hm.blks (a := a) (fun x => ha'.ev hm.glob x) (o := o) h with ⟨sv, v, h1, h2, h3⟩ | h
        · obtain ⟨st2, k1, k2, k3⟩ := putS_act h1 ha' h2
          rw [h3 w hm.same]
          exact viter_sound hC hx hQ (.inr hr) hw k1 ((put_defers _ _ _).trans hd) (k3.trans (hnt.trans hn)) hp2 k2
        · exact h.elim
    · rw [if_neg (by rw [hwa]; simp)]
      obtain ⟨st2, k1, k2, k3⟩ := putS_act h ha' (rel_v undef)
      exact viter_sound hC hx hQ (.inr hr) hw k1 ((put_defers _ _ _).trans hd) (k3.trans (hnt.trans hn)) hp2 k2
theorem vi_sound (hC : C.ok) {pl : List (Nat × List (Nat × Way))} (hpl : ∀ id plan, assoc pl id = some plan → plan.Pairwise fun x y => x.2 = .last → y.2 = .last) :
    ∀ {c : Code} {μ : Option Nat} {st : St} {K : Exit → Option Nat → St → Prop}, vi C l bs caps inf N enc pl c μ st K → OKi C l bs caps inf N enc c μ st K
  | .skip, μ, st, K, h => ⟨fun lb J Jx _ ρ a W hw ha hd => wpIn_skip ⟨μ, ρ, st, hw, ha, hd, rfl, h⟩⟩
  | .seq x y, μ, st, K, h => by
    refine ⟨fun lb J Jx hx ρ a W hw ha hd => wpIn_seq ?_⟩
    refine wpIn_mono ((vi_sound hC hpl (c := x) h).out lb J Jx hx ρ a W hw ha hd) ?_
    intro e a' w' hp
    cases e with
    | normal =>
      obtain ⟨μ', ρ', st', h1, h2, h3, h4, h5⟩ := hp
      have := (vi_sound hC hpl (c := y) h5).out lb J Jx hx ρ' a' w' h1 h2 h3
      rw [h4] at this
      exact this
    | exit i => exact hp
    | ret => exact hp
    | goto l => exact hp
    | panic l => exact hp
    | outgrown => exact hp
  | .cond c x y, μ, st, K, h => by
    unfold vi at h
    split at h
    · rename_i b hb
      refine ⟨fun lb J Jx hx ρ a W hw ha hd => ?_⟩
      have hc := ha.ev (Wd.mem hx hw).glob c
      rw [hb] at hc
      unfold Rel at hc
      cases b with
      | true =>
        have := (vi_sound hC hpl (c := x) (h.t rfl)).out lb J Jx hx ρ a W hw (knowC_ok ha hb) hd
        rw [(knowC_mem st c true).2] at this
        exact wpIn_cond hc this
      | false =>
        have := (vi_sound hC hpl (c := y) (h.f rfl)).out lb J Jx hx ρ a W hw (knowC_ok ha hb) hd
        rw [(knowC_mem st c false).2] at this
        exact wpIn_cond hc this
    · exact h.elim
  | .block id b, μ, st, K, h => by
    refine ⟨fun lb J Jx hx ρ a W hw ha hd => wpIn_block ?_⟩
    refine wpIn_mono ((vi_sound hC hpl (c := b) h).out lb J Jx hx ρ a W hw ha hd) ?_
    intro e a' w' hp
    cases e with
    | exit i =>
      obtain ⟨μ', ρ', st', h1, h2, h3, h4, h5⟩ := hp
      unfold Exit.inBlock
      simp only at h5 ⊢
      by_cases hi : i = id
      · subst hi
        rw [if_pos rfl]
        simp at h5
        exact ⟨μ', ρ', st', h1, h2, h3, h4, h5⟩
      · rw [if_neg hi]
        have : Nat.beq i id = false := by
          cases hb : Nat.beq i id
          · rfl
          · exact absurd (Nat.eq_of_beq_eq_true hb) hi
        rw [this] at h5
        exact ⟨μ', ρ', st', h1, h2, h3, h4, h5⟩
    | normal => exact hp
    | ret => exact hp
    | goto l => exact hp
    | panic l => exact hp
    | outgrown => exact hp
  | .exit id, μ, st, K, h => ⟨fun lb J Jx _ ρ a W hw ha hd => wpIn_exit ⟨μ, ρ, st, hw, ha, hd, rfl, h⟩⟩
  | .ret, μ, st, K, h => ⟨fun lb J Jx _ ρ a W hw ha hd => wpIn_ret ⟨μ, ρ, st, hw, ha, hd, rfl, h⟩⟩
  | .region id ops false, μ, st, K, h => by
    refine ⟨fun lb J Jx hx ρ a W hw ha hd => wpIn_region (seq_of_walkI (S := fun w => w = W) _ ?_)⟩
    refine viter_sound hC hx (Q := IPost J Jx st.nt K) (nt := st.nt) (K := K .normal) (fun μ ρ s a W h1 h2 h3 h4 h5 => ⟨μ, ρ, s, h1, h2, h3, h4, h5⟩) (.inl rfl) hw ha hd rfl ?_ h
    rw [List.pairwise_map]
    exact List.Pairwise.imp (R := fun _ _ => True) (fun _ _ => rfl) (List.pairwise_iff_forall_sublist.2 fun _ => trivial)
  | .region id ops true, μ, st, K, h => by
    unfold vi at h
    split at h
    · rename_i plan hp
      obtain ⟨hok, h⟩ := h
      refine ⟨fun lb J Jx hx ρ a W hw ha hd => region_planI (fun w => w = W.drew) plan hok.mixed hok.len hok.nosel hok.ok (fun _ _ _ _ _ h => h) rfl ?_⟩
      exact viter_sound hC hx (Q := IPost J Jx st.nt K) (nt := st.nt) (K := K .normal) (fun μ ρ s a W h1 h2 h3 h4 h5 => ⟨μ, ρ, s, h1, h2, h3, h4, h5⟩) (.inl rfl) (Wd.drew hx hw) ha hd rfl (hpl _ _ hp) h
    · exact h.elim
  | .loop b, μ, st, K, h => forceSt_spec (K := fun st => OKi C l bs caps inf N enc (.loop b) μ st K) h
  | .rangeFunc .., _, _, _, h => h.elim
  | .scope _, _, _, _, h => h.elim
  | .label _, _, _, _, h => h.elim
  | .goto _, _, _, _, h => h.elim
  | .refuse _, _, _, _, h => h.elim
theorem OKi.go (hC : C.ok) (pl : List (Nat × List (Nat × Way))) (hpl : (pl.all fun p => decide (p.2.Pairwise fun x y => x.2 = .last → y.2 = .last)) = true) {c : Code} {μ : Option Nat} {st : St} {K : Exit → Option Nat → St → Prop} (h : vi C l bs caps inf N enc pl c μ st K) : OKi C l bs caps inf N enc c μ st K :=
  vi_sound hC (fun _ _ e => of_decide_eq_true (List.all_eq_true.1 hpl _ (assoc_mem e))) h
/-- What is known of slots says less. -/
def leS : List (Nat × SV) → St → Prop
  | [], _ => True
  | (t, x) :: l, s => s.get t = x ∧ leS l s
theorem leS_get : ∀ {l : List (Nat × SV)} {s : St}, leS l s → ∀ {t : Nat} {x : SV}, assoc l t = some x → s.get t = x
  | [], _, _, t, x, e => by simp [assoc] at e
  | (k, y) :: l, s, h, t, x, e => by
    rw [assoc_cons] at e
    split at e
    · rename_i hk
      cases e
      rw [← hk]
      exact h.1
    · exact leS_get h.2 e
theorem leS_act {ρ : Plc} {s t : St} {a : Act} (h : ActOK ρ s a) (hl : leS t.slots s) (hn : t.nt = s.nt) : ActOK ρ t a where
  rel j := by
    rw [hn]
    unfold St.get
    cases e : assoc t.slots j with
    | none => simp only; unfold Rel; trivial
    | some x =>
      simp only
      have := leS_get hl e
      rw [← this]
      exact h.rel j
  size := by rw [hn]; exact h.size
  defers := h.defers
/-- A loop of an iterator. -/
theorem loop_ruleI {b : Code} {μ : Option Nat} {st : St} {K : Exit → Option Nat → St → Prop} (S : Nat → St) (hN : ∃ k, μ = some k ∧ k ≤ N ∧ leS (S k).slots st) (hnt : ∀ k, (S k).nt = st.nt)
    (round : ∀ k, k ≤ N → OKi C l bs caps inf N enc b (some k) (S k) fun e μ s => match e with
      | .normal => forceSt s fun s => μ = some (k + 1) ∧ k < N ∧ leS (S (k + 1)).slots s
      | e => K e μ s) : OKi C l bs caps inf N enc (.loop b) μ st K := by
  refine ⟨fun lb J Jx hx ρ a W hw ha hd => ?_⟩
  obtain ⟨k0, rfl, hk0, hl0⟩ := hN
  have key : ∀ n k, N - k < n → k ≤ N → ∀ ρ a W, Wd J Jx (some k) ρ W → ActOK ρ (S k) a → a.defers = [] → Code.roundsIn (fenceR none) 0 C.P b (IPost J Jx st.nt K) n a W := by
    intro n
    induction n with
    | zero => intro k hn; omega
    | succ n ih =>
      intro k hn hk ρ a W hw ha hd
      rw [roundsIn_succ]
      refine wpIn_mono ((round k hk).out lb J Jx hx ρ a W hw ha hd) ?_
      intro e a' w' hp
      cases e with
      | normal =>
        obtain ⟨μ', ρ', s, k1, k2, k3, k4, hq⟩ := hp
        obtain ⟨rfl, k5, k6⟩ := forceSt_spec (K := fun s => μ' = some (k + 1) ∧ k < N ∧ leS (S (k + 1)).slots s) hq
        exact ih (k + 1) (by omega) (by omega) ρ' a' w' k1 (leS_act k2 k6 (by rw [hnt, k4, hnt])) k3
      | exit i => obtain ⟨μ', ρ', s, k1, k2, k3, k4, k5⟩ := hp; exact ⟨μ', ρ', s, k1, k2, k3, k4.trans (hnt k), k5⟩
      | ret => obtain ⟨μ', ρ', s, k1, k2, k3, k4, k5⟩ := hp; exact ⟨μ', ρ', s, k1, k2, k3, k4.trans (hnt k), k5⟩
      | goto l => exact hp
      | panic l => exact hp
      | outgrown => exact hp
  exact wpIn_loop_rounds (N - k0 + 1) (key _ k0 (by omega) hk0 ρ a W hw (leS_act ha hl0 (hnt k0)) hd)
/-- A loop that the consumer ends. -/
theorem loop_ruleN {b : Code} {μ : Option Nat} {st : St} {K : Exit → Option Nat → St → Prop} (hinf : inf = true) (S : Nat → St) (hN : ∃ k, μ = some k ∧ k ≤ N ∧ leS (S k).slots st) (hnt : ∀ k, (S k).nt = st.nt)
    (round : ∀ k, k < N → OKi C l bs caps inf N enc b (some k) (S k) fun e μ s => match e with
      | .normal => forceSt s fun s => μ = some (k + 1) ∧ leS (S (k + 1)).slots s
      | e => K e μ s) : OKi C l bs caps inf N enc (.loop b) μ st K := by
  refine ⟨fun lb J Jx hx ρ a W hw ha hd => ?_⟩
  obtain ⟨k0, rfl, hk0, hl0⟩ := hN
  have key : ∀ n k, N - k < n → k ≤ N → ∀ ρ a W, Wd J Jx (some k) ρ W → ActOK ρ (S k) a → a.defers = [] → Code.roundsIn (fenceR none) 0 C.P b (IPost J Jx st.nt K) n a W := by
    intro n
    induction n with
    | zero => intro k hn; omega
    | succ n ih =>
      intro k hn hk ρ a W hw ha hd
      by_cases hlt : k < N
      · rw [roundsIn_succ]
        refine wpIn_mono ((round k hlt).out lb J Jx hx ρ a W hw ha hd) ?_
        intro e a' w' hp
        cases e with
        | normal =>
          obtain ⟨μ', ρ', s, k1, k2, k3, k4, hq⟩ := hp
          obtain ⟨rfl, k6⟩ := forceSt_spec (K := fun s => μ' = some (k + 1) ∧ leS (S (k + 1)).slots s) hq
          exact ih (k + 1) (by omega) (by omega) ρ' a' w' k1 (leS_act k2 k6 (by rw [hnt, k4, hnt])) k3
        | exit i => obtain ⟨μ', ρ', s, k1, k2, k3, k4, k5⟩ := hp; exact ⟨μ', ρ', s, k1, k2, k3, k4.trans (hnt k), k5⟩
        | ret => obtain ⟨μ', ρ', s, k1, k2, k3, k4, k5⟩ := hp; exact ⟨μ', ρ', s, k1, k2, k3, k4.trans (hnt k), k5⟩
        | goto l => exact hp
        | panic l => exact hp
        | outgrown => exact hp
      · obtain rfl : k = N := by omega
        exact (hx.last hinf ρ W hw).elim
  exact wpIn_loop_rounds (N - k0 + 1) (key _ k0 (by omega) hk0 ρ a W hw (leS_act ha hl0 (hnt k0)) hd)
/-- An iterator that is handed boxes and rows that stay. -/
structure IterO (P : Program) (f : Nat) (bs : List SB) (caps : List SV) (inf : Bool) (N : Nat) (enc : Nat → List SV) : Prop where
  ent : Enters P f
  out : ∀ (l : Nat) (lb : List Value) (J : Nat → Plc → World → Prop) (Jx : World → Prop) (W : World), ICtx P l bs caps inf N enc lb J Jx → (∃ ρ, J 0 ρ W) →
    CallsIn (fenceR none) 0 P f (.func (.yield l) #[] #[] :: lb).toArray W fun e W' => (∃ v, e = .returned v) ∧ ((∃ ρ, J N ρ W') ∨ Jx W')
theorem iter_intro {C : Seat} {bs : List SB} {caps : List SV} {inf : Bool} {N : Nat} {enc : Nat → List SV} (hC : C.ok) (pl : List (Nat × List (Nat × Way))) (hpl : (pl.all fun p => decide (p.2.Pairwise fun x y => x.2 = .last → y.2 = .last)) = true) {f : Nat} {fn : Func} {c : Code} (hf : C.P.funcs[f]? = some fn) (hb : fn.body = some c) (hname : (fn.name == "runtime.NumGoroutine") = false)
    {nt : Nat} (hnt : fn.ntmps = nt) (hrs : fn.results.toList = []) (hn : Nat.ble (caps.length + 1) nt = true)
    (h : ∀ l, startK (.v (.func (.yield l) #[] #[]) :: caps) nt ⟨[], [], []⟩ fun s => vi C l bs caps inf N enc pl c (some 0) s fun e μ _ => match e with
      | .normal => μ = some N ∨ μ = none
      | .ret => μ = some N ∨ μ = none
      | _ => False) : IterO C.P f bs caps inf N enc := by
  subst hnt
  refine ⟨⟨fn, hf, by rw [hb]; rfl, hname⟩, fun l lb J Jx W hx h0 => callsIn_of_wp hf hb trivial ?_⟩
  obtain ⟨ρ, h0⟩ := h0
  have hpl' : ∀ id plan, assoc pl id = some plan → plan.Pairwise fun x y => x.2 = .last → y.2 = .last := fun id plan e => of_decide_eq_true (List.all_eq_true.1 hpl _ (assoc_mem e))
  have hr : RelL ρ (.v (.func (.yield l) #[] #[]) :: caps) (.func (.yield l) #[] #[] :: lb) := by
    unfold RelL
    exact ⟨_, _, rfl, by unfold Rel; rfl, (hx.mem _ _ _ h0).2⟩
  have hA := startSt_ok (nt := fn.ntmps) hr (by simpa using Nat.le_of_ble_eq_true hn) ⟨[], [], []⟩
  have hv := startK_spec (K := fun s => vi C l bs caps inf N enc pl c (some 0) s _) (h l)
  refine wpIn_mono ((vi_sound hC hpl' hv).out lb J Jx hx ρ _ W h0 hA rfl) ?_
  intro e a' w' hp
  have key : ∀ μ ρ, Wd J Jx μ ρ w' → (μ = some N ∨ μ = none) → a'.defers = [] → (a'.defers = [] ∧ ∃ v, (results fn a'.tmps).run C.P w' = .ok v w' ∧ ((∃ v', Ending.returned v = .returned v') ∧ ((∃ ρ, J N ρ w') ∨ Jx w'))) := by
    intro μ ρ hw hμ hd
    refine ⟨hd, ?_⟩
    have : ∃ v, (results fn a'.tmps).run C.P w' = .ok v w' := by
      have hre : fn.results = #[] := Array.ext' (by simpa using hrs)
      rw [results_eq, hre]
      exact ⟨_, by simp [Sem.run_bind, Sem.run_pure]; rfl⟩
    obtain ⟨v, hv⟩ := this
    refine ⟨v, hv, ⟨_, rfl⟩, ?_⟩
    rcases hμ with rfl | rfl
    · exact .inl ⟨ρ, hw⟩
    · exact .inr hw.1
  cases e with
  | normal => obtain ⟨μ, ρ', s, h1, _, h3, _, h5⟩ := hp; exact key μ ρ' h1 h5 h3
  | ret => obtain ⟨μ, ρ', s, h1, _, h3, _, h5⟩ := hp; exact key μ ρ' h1 h5 h3
  | exit i => obtain ⟨_, _, _, _, _, _, _, h⟩ := hp; exact h.elim
  | goto l => exact hp.elim
  | panic l => exact hp.elim
  | outgrown => exact hp.elim
end
end Go.Proofs.Ytigmgdfplhfdpaa
