/- Ranges over a function: the rounds, by what holds between them. -/
import Derived.Test.YtkcdomafdjpbjaaZG
import Derived.RangeFuncNested
namespace Go.Proofs.Ytkcdomafdjpbjaa
open Go.RowKit

mutual
theorem Rel.qg {ρ : Plc} (q' : Nat → Option Obj) (g' : Nat → Value) : ∀ {x : SV} {u : Value}, Rel ρ x u → Rel { ρ with q := q', gh := g' } x u
  | .any, u, h => by unfold Rel at *; exact h
  | .v x, u, h => by unfold Rel at *; exact h
  | .z .., u, h => by unfold Rel at *; exact h
  | .zp _, u, h => by unfold Rel at *; exact h
  | .p .., u, h => by unfold Rel at *; exact h
  | .s .., u, h => by unfold Rel at *; exact h
  | .agg l, u, h => by unfold Rel at *; obtain ⟨us, h1, h2⟩ := h; exact ⟨us, h1, h2.qg q' g'⟩
  | .tup l, u, h => by unfold Rel at *; obtain ⟨us, h1, h2⟩ := h; exact ⟨us, h1, h2.qg q' g'⟩
  | .fn f l, u, h => by unfold Rel at *; obtain ⟨us, h1, h2⟩ := h; exact ⟨us, h1, h2.qg q' g'⟩
  | .bm f l, u, h => by unfold Rel at *; obtain ⟨us, h1, h2⟩ := h; exact ⟨us, h1, h2.qg q' g'⟩
theorem RelL.qg {ρ : Plc} (q' : Nat → Option Obj) (g' : Nat → Value) : ∀ {l : List SV} {us : List Value}, RelL ρ l us → RelL { ρ with q := q', gh := g' } l us
  | [], us, h => by unfold RelL at *; exact h
  | x :: l, us, h => by
    unfold RelL at *
    obtain ⟨u, r, h1, h2, h3⟩ := h
    exact ⟨u, r, h1, h2.qg q' g', h3.qg q' g'⟩
end
theorem BlkOK.qg {ρ : Plc} (q' : Nat → Option Obj) (g' : Nat → Value) {b : Nat × Nat} {w : World} : ∀ {B : SB}, BlkOK ρ b B w → BlkOK { ρ with q := q', gh := g' } b B w
  | .dead, _ => trivial
  | .ro .., h => h
  | .row .., h => h
  | .box .., ⟨h1, us, h2, h3⟩ => ⟨h1, us, h2.qg q' g', h3⟩
  | .cst .., ⟨h1, us, h2, h3⟩ => ⟨h1, us, h2.qg q' g', h3⟩
/-- The world's book-keeping turns. -/
structure Turned (w0 : World) (O : Nat → Prop) (w w' : World) : Prop where
  cells : CellsSame w w'
  os : w'.os = w.os
  tape : w'.tape = w.tape
  output : w'.output = w.output
  fr : ∀ n, n < w0.heap.size → ¬ O n → w'.heap[n]? = w.heap[n]?
theorem Turned.refl (w0 : World) (O : Nat → Prop) (w : World) : Turned w0 O w w := ⟨⟨Nat.le_refl _, fun _ _ h _ => h⟩, rfl, rfl, rfl, fun _ _ _ => rfl⟩
theorem Turned.put {w0 : World} {O : Nat → Prop} {w : World} {l : Nat} {o : Obj} (hl : w0.heap.size ≤ l) (h : w.heap[l]? = some o) (ho : o.isCells = false) (o' : Obj) : Turned w0 O w (w.putObj l o') :=
  ⟨cellsSame_put h ho, rfl, rfl, rfl, fun _ hn _ => World.putObj_heap_other (by omega)⟩
theorem alloc_get {w : World} {o : Obj} {n : Nat} (hn : n < w.heap.size) : (w.alloc o).heap[n]? = w.heap[n]? := by
  show (w.heap.push o)[n]? = _
  rw [Array.getElem?_push, if_neg (by omega)]
theorem Turned.alloc {w0 : World} {O : Nat → Prop} {w : World} (hs : w0.heap.size ≤ w.heap.size) (o : Obj) : Turned w0 O w (w.alloc o) :=
  ⟨⟨by simp, fun n x hx _ => (alloc_get (Array.getElem?_eq_some_iff.1 hx).1).trans hx⟩, rfl, rfl, rfl, fun _ hn _ => alloc_get (by omega)⟩
theorem Turned.trans {w0 : World} {O : Nat → Prop} {a b c : World} (h : Turned w0 O a b) (k : Turned w0 O b c) : Turned w0 O a c :=
  ⟨⟨Nat.le_trans h.cells.size k.cells.size, fun n o e hc => k.cells.blk n o (h.cells.blk n o e hc) hc⟩, k.os.trans h.os, k.tape.trans h.tape, k.output.trans h.output, fun n hn hO => (k.fr n hn hO).trans (h.fr n hn hO)⟩
theorem Holds.turn {E : Env} {ρ : Plc} {m : Mem} {w w' : World} (h : Holds E ρ m w) (r' : Option Nat) (q0' : Nat → Option Obj) (g' : Nat → Value) (q' : Nat → Option Obj) (hc : Turned E.w0 E.O w w')
    (hfq : ∀ b o, q' b = some o → w'.heap[b]? = some o ∧ o.isCells = false) (hql : ∀ b ds, q' b = some (.deferred ds) → E.w0.heap.size ≤ b)
    (hrd : (∀ b o, q0' b = some o → q' b = some o) ∧ ∀ l, r' = some l → ∃ rec, q0' l = some (.loop rec)) : Holds { E with r := r', q0 := q0', gh := g' } { ρ with q := q', gh := g' } m w' :=
  ⟨⟨fun a A ha => ((h.mem.blk a A ha).qg _ _).cellsSame hc.cells, h.mem.sep, h.mem.glob, h.mem.nx, fun b o v hz => hc.cells.cell (h.mem.fz b o v hz), h.mem.sepz, hfq⟩, h.low, h.new, h.old, h.len, h.gl, hc.os.trans h.os, hc.tape.trans h.tape, hc.output.trans h.output,
    Nat.le_trans h.size hc.cells.size, fun n hn hO => (hc.fr n hn hO).trans (h.fr n hn hO), hrd, hql, h.zn, h.zk, rfl⟩

/-- A world that has more, and all that it had. -/
structure Grown (w w' : World) : Prop where
  kept : Kept w w'
  os : w'.os = w.os
  tape : w'.tape = w.tape
  output : w'.output = w.output
theorem Holds.grown {E : Env} {ρ : Plc} {m : Mem} {w w' : World} (h : Holds E ρ m w) (hg : Grown w w') : Holds E ρ m w' := by
  have hlt : ∀ n (o : Obj), w.heap[n]? = some o → n < w.heap.size := fun n o e => (Array.getElem?_eq_some_iff.1 e).1
  have hgh := h.gh
  have := h.turn (w' := w') E.r E.q0 E.gh ρ.q ⟨⟨hg.kept.size, fun n o e _ => (hg.kept.blk n (hlt n o e)).trans e⟩, hg.os, hg.tape, hg.output, fun n hn _ => hg.kept.blk n (Nat.lt_of_lt_of_le hn h.size)⟩
    (fun b o e => ⟨(hg.kept.blk b (hlt b o (h.mem.fq b o e).1)).trans (h.mem.fq b o e).1, (h.mem.fq b o e).2⟩) h.ql h.rd
  rw [← hgh] at this
  have e : ({ E with r := E.r, q0 := E.q0, gh := ρ.gh } : Env) = E := by rw [hgh]
  rw [e] at this
  exact this

/-! The slots of a round: its own, and the loop's, behind them. -/
def lowS (nt : Nat) : List (Nat × SV) → List (Nat × SV)
  | [] => []
  | (t, x) :: l => match Nat.blt t nt with
    | true => (t, x) :: lowS nt l
    | false => lowS nt l
def shiftS (nt : Nat) : List (Nat × SV) → List (Nat × SV)
  | [] => []
  | (t, x) :: l => (nt + t, x) :: shiftS nt l
def unshiftS (nt : Nat) : List (Nat × SV) → List (Nat × SV)
  | [] => []
  | (t, x) :: l => match Nat.ble nt t with
    | true => (t - nt, x) :: unshiftS nt l
    | false => unshiftS nt l
def zipS : List Nat → List SV → List (Nat × SV) → List (Nat × SV)
  | p :: ps, v :: vs, l => zipS ps vs ((p, v) :: l)
  | _, _, l => l
def appS : List (Nat × SV) → List (Nat × SV) → List (Nat × SV)
  | [], m => m
  | x :: l, m => x :: appS l m
def roundSt (ps : List Nat) (vals : List SV) (s : St) : St := { slots := zipS ps vals (appS (lowS s.nt s.slots) (shiftS s.nt s.slots)), nt := s.nt, mem := s.mem }
def backSt (s : St) : St := { slots := unshiftS s.nt s.slots, nt := s.nt, mem := s.mem }
def forceKeys : List (Nat × SV) → (List (Nat × SV) → Prop) → Prop
  | [], K => K []
  | (t, x) :: l, K => forceNat t fun t => forceSV x fun x => forceKeys l fun l => K ((t, x) :: l)
theorem forceKeys_spec : ∀ {l : List (Nat × SV)} {K : List (Nat × SV) → Prop}, forceKeys l K → K l
  | [], _, h => h
  | (t, x) :: l, K, h => by
    unfold forceKeys at h
    exact forceKeys_spec (l := l) (K := fun l => K ((t, x) :: l)) (forceSV_spec (K := fun x => forceKeys l fun l => K ((t, x) :: l)) (forceNat_spec (K := fun t => forceSV x fun x => forceKeys l fun l => K ((t, x) :: l)) h))
def forceSt2 (s : St) (K : St → Prop) : Prop := forceKeys s.slots fun l => forceM s.mem fun m => forceNat s.nt fun n => K ⟨l, n, m⟩
theorem forceSt2_spec {s : St} {K : St → Prop} (h : forceSt2 s K) : K s :=
  forceNat_spec (K := fun n => K ⟨s.slots, n, s.mem⟩) (forceM_spec (K := fun m => forceNat s.nt fun n => K ⟨s.slots, n, m⟩) (forceKeys_spec (K := fun l => forceM s.mem fun m => forceNat s.nt fun n => K ⟨l, n, m⟩) h))

theorem assoc_lowS (nt t : Nat) : ∀ l, assoc (lowS nt l) t = if t < nt then assoc l t else none
  | [] => by simp [lowS, assoc]
  | (k, x) :: l => by
    unfold lowS
    cases h : Nat.blt k nt with
    | true =>
      have hk : k < nt := Nat.lt_of_succ_le (Nat.le_of_ble_eq_true h)
      simp only [assoc_cons, assoc_lowS nt t l]
      by_cases e : k = t
      · subst e; simp [hk]
      · simp [e]
    | false =>
      have hk : ¬ k < nt := fun hlt => by
        have : Nat.blt k nt = true := Nat.ble_eq_true_of_le hlt
        rw [h] at this; cases this
      simp only [assoc_cons, assoc_lowS nt t l]
      by_cases e : k = t
      · subst e; simp [hk]
      · simp [e]
theorem assoc_shiftS (nt t : Nat) : ∀ l, assoc (shiftS nt l) t = if nt ≤ t then assoc l (t - nt) else none
  | [] => by simp [shiftS, assoc]
  | (k, x) :: l => by
    unfold shiftS
    simp only [assoc_cons, assoc_shiftS nt t l]
    by_cases h : nt ≤ t
    · by_cases e : nt + k = t
      · have : k = t - nt := by omega
        simp [e, h, this]
      · have : k ≠ t - nt := by omega
        simp [e, h, this]
    · have : nt + k ≠ t := by omega
      simp [this, h]
theorem assoc_unshiftS (nt t : Nat) : ∀ l, assoc (unshiftS nt l) t = assoc l (nt + t)
  | [] => by simp [unshiftS, assoc]
  | (k, x) :: l => by
    unfold unshiftS
    cases h : Nat.ble nt k with
    | true =>
      have hk := Nat.le_of_ble_eq_true h
      simp only [assoc_cons, assoc_unshiftS nt t l]
      by_cases e : k = nt + t
      · have : k - nt = t := by omega
        simp [e]
      · have : k - nt ≠ t := by omega
        simp [e, this]
    | false =>
      have hk : ¬ nt ≤ k := fun hle => by
        have : Nat.ble nt k = true := Nat.ble_eq_true_of_le hle
        rw [h] at this; cases this
      have e : k ≠ nt + t := by omega
      simp [assoc_cons, assoc_unshiftS nt t l, e]
theorem assoc_appS {m : List (Nat × SV)} {t : Nat} : ∀ l, assoc (appS l m) t = (assoc l t).or (assoc m t)
  | [] => by simp [appS, assoc]
  | (k, x) :: l => by
    unfold appS
    simp only [assoc_cons, assoc_appS l]
    split <;> simp
theorem assoc_round (nt t : Nat) (l : List (Nat × SV)) : assoc (appS (lowS nt l) (shiftS nt l)) t = if t < nt then assoc l t else assoc l (t - nt) := by
  rw [assoc_appS, assoc_lowS, assoc_shiftS]
  by_cases h : t < nt
  · simp [h, Nat.not_le.2 h]
  · simp [h, Nat.not_lt.1 h]
theorem zip_act {ρ : Plc} {s : St} : ∀ {ps : List Nat} {vals : List SV} {us : List Value} {l : List (Nat × SV)} {a : Act}, ActOK ρ { s with slots := l } a → RelL ρ vals us → ps.all (Nat.blt · s.nt) = true →
    ActOK ρ { s with slots := zipS ps vals l } { a with tmps := (ps.zip us).foldl (fun t p => t.setIfInBounds p.1 p.2) a.tmps }
  | [], _, _, _, _, h, _, _ => by simpa [zipS] using h
  | p :: ps, [], us, l, a, h, hr, _ => by
    unfold RelL at hr
    subst hr
    simpa [zipS] using h
  | p :: ps, v :: vs, us, l, a, h, hr, hp => by
    unfold RelL at hr
    obtain ⟨u, r, rfl, hu, hr⟩ := hr
    simp only [List.all_cons, Bool.and_eq_true] at hp
    exact zip_act (s := s) (l := (p, v) :: l) (a := a.put (some p) u) (h.put (s := { s with slots := l }) (Nat.lt_of_succ_le (Nat.le_of_ble_eq_true hp.1)) hu) hr hp.2
/-- What a round knows of its slots, as it begins. -/
theorem round_act {ρ : Plc} {s : St} {a : Act} (h : ActOK ρ s a) {ps : List Nat} {vals : List SV} {us : List Value} (hr : RelL ρ vals us) (hp : ps.all (Nat.blt · s.nt) = true) :
    ActOK { ρ with gh := fun t => tmpAt ρ s.nt a (t - s.nt) } (roundSt ps vals s) { tmps := (ps.zip us).foldl (fun t p => t.setIfInBounds p.1 p.2) a.tmps, defers := [] } := by
  refine zip_act (s := s) (a := { tmps := a.tmps, defers := [] }) ⟨fun t => ?_, h.size, [], List.nodup_nil, rfl, fun D hD => by cases hD⟩ (hr.qg ρ.q _) hp
  unfold St.get
  simp only [assoc_round]
  unfold tmpAt
  simp only
  by_cases ht : t < s.nt
  · rw [if_pos ht, if_pos ht]
    have := (h.rel t).qg ρ.q (fun t => tmpAt ρ s.nt a (t - s.nt))
    unfold tmpAt at this
    rw [if_pos ht] at this
    exact this
  · rw [if_neg ht, if_neg ht]
    exact (h.rel (t - s.nt)).qg ρ.q _
/-- .. and what is known of the loop's slots behind it. -/
theorem back_act {ρ ρ' : Plc} {nt : Nat} {s : St} {a a' : Act} (h : ActOK ρ' s a') (hn : s.nt = nt) (hsz : a.tmps.size = nt) (hg : ρ'.gh = fun t => tmpAt ρ nt a (t - nt)) {q' : Nat → Option Obj}
    (hd : ∃ Ds : List Nat, Ds.Nodup ∧ a.defers = Ds.map markOf ∧ ∀ D ∈ Ds, q' D = some (.deferred (some []))) : ActOK { ρ' with q := q', gh := ρ.gh } (backSt s) a := by
  subst hn
  refine ⟨fun t => ?_, hsz, hd⟩
  have hr := (h.rel (s.nt + t)).qg q' ρ.gh
  unfold tmpAt at hr
  rw [if_neg (by omega), hg] at hr
  simp only [Nat.add_sub_cancel_left] at hr
  have e1 : (backSt s).get t = s.get (s.nt + t) := by
    unfold St.get backSt
    simp only [assoc_unshiftS]
  rw [e1]
  exact hr

/-- What an iterator comes to: so many rounds, each with what it is handed; what it reads is told of memory. -/
structure IterOK (P : Program) (gf : Nat) (caps : List SV) (R : Mem → Prop) (inf : Bool) (N : Nat) (enc : Nat → List SV) : Prop where
  ent : Enters P gf
  out : ∀ (l : Nat) (lb : List Value) (J : Nat → Plc → World → Prop) (Jx : World → Prop) (W : World),
    (∀ k ρ W, J k ρ W → ∃ m, R m ∧ RelL ρ caps lb ∧ MemOK ρ m W) → (∀ k ρ W, J k ρ W → J k ρ W.drew) → (∀ W, Jx W → Jx W.drew) → (∀ k ρ W W', J k ρ W → Grown W W' → J k ρ W') → (inf = true → ∀ ρ W, ¬ J N ρ W) →
    (∀ k ρ W1 us, J k ρ W1 → k < N → RelL ρ (enc k) us → YieldAt (fenceR none) 0 P l us.toArray W1 fun e W' => (e = .returned (.bool true) ∧ ∃ ρ', J (k + 1) ρ' W') ∨ (e = .returned (.bool false) ∧ Jx W')) →
    (∃ ρ, J 0 ρ W) → CallsIn (fenceR none) 0 P gf (.func (.yield l) #[] #[] :: lb).toArray W fun e W' => (∃ v, e = .returned v) ∧ ((∃ ρ, J N ρ W') ∨ Jx W')

def updQ (q : Nat → Option Obj) (l : Nat) (o : Obj) : Nat → Option Obj := fun b => if b = l then some o else q b
theorem updQ_same (q : Nat → Option Obj) (l : Nat) (o : Obj) : updQ q l o l = some o := by simp [updQ]
theorem updQ_ne {q : Nat → Option Obj} {l b : Nat} {o : Obj} (h : b ≠ l) : updQ q l o b = q b := by simp [updQ, h]
/-- How a round's code is left. -/
def leftBy (K : Exit → St → Prop) (c : Code) (s : St) : Prop := match c with
  | .ret => K .ret s
  | .exit id => K (.exit id) s
  | _ => False
theorem fold_zip (ps : Array Nat) (us : List Value) (t : Array Value) : (ps.zip us.toArray).foldl (fun t (p, v) => t.setIfInBounds p v) t = (ps.toList.zip us).foldl (fun t p => t.setIfInBounds p.1 p.2) t := by
  rw [← Array.foldl_toList]
  simp
theorem ActOK.turn {ρ : Plc} {s : St} {a : Act} (h : ActOK ρ s a) {q' : Nat → Option Obj} {g' : Nat → Value} (hg : g' = ρ.gh) {ds : List Deferred}
    (hd : ∃ Ds : List Nat, Ds.Nodup ∧ ds = Ds.map markOf ∧ ∀ D ∈ Ds, q' D = some (.deferred (some []))) : ActOK { ρ with q := q', gh := g' } s { a with defers := ds } := by
  subst hg
  exact ⟨fun t => (h.rel t).qg q' ρ.gh, h.size, hd⟩
theorem fq_put {q : Nat → Option Obj} {w : World} (hfq : ∀ b o, q b = some o → w.heap[b]? = some o ∧ o.isCells = false) {l : Nat} {o0 : Obj} (hl : w.heap[l]? = some o0) {o' : Obj} (ho : o'.isCells = false) :
    ∀ b o, updQ q l o' b = some o → (w.putObj l o').heap[b]? = some o ∧ o.isCells = false := by
  intro b o hq
  by_cases e : b = l
  · subst e
    rw [updQ_same] at hq
    cases hq
    exact ⟨World.putObj_heap_same (Array.getElem?_eq_some_iff.1 hl).1, ho⟩
  · rw [updQ_ne e] at hq
    rw [World.putObj_heap_other e]
    exact hfq b o hq
theorem ql_put {q : Nat → Option Obj} {B : Nat} (h : ∀ b ds, q b = some (.deferred ds) → B ≤ b) {l : Nat} {r : Loop} : ∀ b ds, updQ q l (.loop r) b = some (.deferred ds) → B ≤ b := by
  intro b ds hq
  by_cases e : b = l
  · subst e; rw [updQ_same] at hq; cases hq
  · rw [updQ_ne e] at hq; exact h b ds hq
theorem fenceR_any {r : Option Nat} {n : Nat} {P : Program} {f : FuncId} {args : Array Value} {w : World} {R : Ending → World → Prop} (h : CallsIn (fenceR none) n P f args w R) : CallsIn (fenceR r) n P f args w R := h
section core
variable {C : Seat} {pl : List (Nat × PT)} {ps : Array Tmp} {asg body : Code} {st : St} {K : Exit → St → Prop} {α : Type} {gf : Nat} {caps : List SV} {R : Mem → Prop} {inf : Bool} {N : Nat} {enc : Nat → List SV}
theorem range_core (it : IterOK C.P gf caps R inf N enc) (Inv : Nat → α → Prop) (S : α → St) (x0 : α) (h0 : Inv 0 x0) (g : Operand)
    (hg : ∀ x, (S x).ev g = .fn gf caps) (hR : ∀ k x, Inv k x → R (S x).mem) (hnt : ∀ x, (S x).nt = st.nt) (hps : ∀ k, (enc k).length = ps.size) (hpl : ps.toList.all (Nat.blt · st.nt) = true)
    (round : ∀ k x, k < N → Inv k x → forceSt2 (roundSt ps.toList (enc k) (S x)) fun s => OKs C.P asg s fun e s => match e with
      | .normal => OKv C pl body s fun e s => match e with
        | .normal => forceSt2 (backSt s) fun s => ∃ x', Inv (k + 1) x' ∧ Pass s (S x')
        | e => forceSt2 (backSt s) fun s => K e s
      | _ => False)
    (done : ∀ x, Inv N x → K .normal (S x)) (hinf : inf = true → ∀ x, ¬ Inv N x)
    {E : Env} (hE : E.P = C.P) {ρ : Plc} {a : Act} {W1 : World} {l : Nat} {fn : FuncId} {D : Nat} {mark : List Deferred} {qb : Nat → Option Obj}
    (hq0 : ∀ b o, E.q0 b = some o → b ≠ l ∧ qb b = some o) (hr0 : ∀ l0, E.r = some l0 → ∃ rec, E.q0 l0 = some (.loop rec)) (hlE : E.w0.heap.size ≤ l) (lb : List Value) (hlb : a.eval g = .func (.func gf) #[] lb.toArray)
    (hmark : ∃ Ds : List Nat, Ds.Nodup ∧ mark ++ a.defers = Ds.map markOf ∧ ∀ D ∈ Ds, D ≠ l ∧ qb D = some (.deferred (some [])))
    (ha : ActOK ρ (S x0) a) (hH : Holds { E with q0 := updQ qb l (.loop { state := .ready, pending := none, fn, tmps := a.tmps, params := ps, assign := asg, body, defers := D }) } ρ (S x0).mem W1) :
    CallsIn (fenceR E.r) 0 C.P gf (.func (.yield l) #[] #[] :: lb).toArray W1 (rangePost (fenceR E.r) 0 C.P l (CPost E st.nt K) { a with defers := mark ++ a.defers }) := by
  obtain ⟨rec, hrec⟩ : ∃ rec : LoopState → Option Code → Loop, rec = fun st' pe => { state := st', pending := pe, fn, tmps := a.tmps, params := ps, assign := asg, body, defers := D } := ⟨_, rfl⟩
  have hrdy : ({ state := .ready, pending := none, fn, tmps := a.tmps, params := ps, assign := asg, body, defers := D } : Loop) = rec .ready none := by rw [hrec]
  rw [hrdy] at hH
  have hr2 : ∀ (o : Loop) l0, E.r = some l0 → ∃ rec', updQ qb l (.loop o) l0 = some (.loop rec') := by
    intro o l0 e
    obtain ⟨r0, hr⟩ := hr0 l0 e
    obtain ⟨h1, h2⟩ := hq0 _ _ hr
    exact ⟨r0, by rw [updQ_ne h1]; exact h2⟩
  obtain ⟨J, hJ⟩ : ∃ J : Nat → Plc → World → Prop, J = fun k ρ W => ∃ x, Inv k x ∧ ActOK ρ (S x) a ∧ Holds { E with q0 := updQ qb l (.loop (rec .ready none)) } ρ (S x).mem W := ⟨_, rfl⟩
  obtain ⟨Jx, hJx⟩ : ∃ Jx : World → Prop, Jx = fun W => ∃ c ρ s, leftBy K c s ∧ s.nt = st.nt ∧ ActOK ρ s a ∧ Holds { E with q0 := updQ qb l (.loop (rec .done (some c))) } ρ s.mem W := ⟨_, rfl⟩
  refine (fenceR_any (it.out l lb J Jx W1 ?_ ?_ ?_ ?_ ?_ ?_ ⟨ρ, by rw [hJ]; exact ⟨x0, h0, ha, hH⟩⟩)).mono ?_
  · intro k ρ' W h
    rw [hJ] at h
    obtain ⟨x, hI, hA, hHo⟩ := h
    have := hA.ev hHo.mem.glob g
    rw [hg x, hlb] at this
    unfold Rel at this
    obtain ⟨us, e, hus⟩ := this
    injection e with _ _ e
    have e := congrArg Array.toList e
    simp only at e
    subst e
    exact ⟨_, hR k x hI, hus, hHo.mem⟩
  · intro k ρ' W h
    rw [hJ] at h ⊢
    obtain ⟨x, hI, hA, hHo⟩ := h
    exact ⟨x, hI, hA, hHo.drew⟩
  · intro W h
    rw [hJx] at h ⊢
    obtain ⟨c, ρ2, s, hc, hn, hA, hHo⟩ := h
    exact ⟨c, ρ2, s, hc, hn, hA, hHo.drew⟩
  · intro k ρ' W W' h hg
    rw [hJ] at h ⊢
    obtain ⟨x, hI, hA, hHo⟩ := h
    exact ⟨x, hI, hA, hHo.grown hg⟩
  · intro hi ρ' W h
    rw [hJ] at h
    obtain ⟨x, hI, _⟩ := h
    exact hinf hi x hI
  · intro k ρ' W us h hk hus
    rw [hJ] at h
    obtain ⟨x, hI, hA, hHo⟩ := h
    have hq : ρ'.q l = some (.loop (rec .ready none)) := hHo.rd.1 _ _ (updQ_same _ _ _)
    have hw := (hHo.mem.fq _ _ hq).1
    have hy := run_yield (P := C.P) (args := us.toArray) hw (by rw [hrec]; simp [hus.len, hps])
    rw [hrec] at hy
    simp only at hy
    rw [fold_zip] at hy
    refine ⟨fn, _, asg, body, hy, roundIn_of_wpIn trivial ?_⟩
    clear hy
    have rnd := forceSt2_spec (K := fun s => OKs C.P asg s _) (round k x hk hI)
    have hA5 := round_act hA hus (ps := ps.toList) (by rw [hnt]; exact hpl)
    obtain ⟨g5, hg5⟩ : ∃ g5 : Nat → Value, g5 = fun t => tmpAt ρ' (S x).nt a (t - (S x).nt) := ⟨_, rfl⟩
    rw [← hg5] at hA5
    have hH5 : Holds { E with r := some l, q0 := ρ'.q, gh := g5 } { ρ' with q := ρ'.q, gh := g5 } (S x).mem W :=
      hHo.turn (some l) ρ'.q g5 ρ'.q (Turned.refl _ _ _) hHo.mem.fq hHo.ql ⟨fun _ _ h => h, fun l' e => by cases e; exact ⟨_, hq⟩⟩
    refine wpIn_mono (rnd.out { E with r := some l, q0 := ρ'.q, gh := g5 } _ _ W hE hA5 hH5) ?_
    intro e a1 w1 hp
    cases e with
    | exit i => obtain ⟨_, _, _, _, _, h⟩ := hp; exact h.elim
    | ret => obtain ⟨_, _, _, _, _, h⟩ := hp; exact h.elim
    | goto i => exact hp.elim
    | panic i => exact hp.elim
    | outgrown => exact hp.elim
    | normal =>
      obtain ⟨ρ1, s1, k1, k2, k3, k4⟩ := hp
      have hq1 : ρ1.q l = some (.loop (rec .ready none)) := k2.rd.1 _ _ hq
      have hw1 := (k2.mem.fq _ _ hq1).1
      refine ⟨_, run_beginRound hw1 (by rw [hrec]), ?_⟩
      obtain ⟨q2, hq2⟩ : ∃ q2, q2 = updQ ρ1.q l (.loop { rec .ready none with state := .busy }) := ⟨_, rfl⟩
      have hH6 : Holds { E with r := some l, q0 := q2, gh := g5 } { ρ1 with q := q2, gh := g5 } s1.mem (w1.putObj l (.loop { rec .ready none with state := .busy })) :=
        k2.turn (some l) q2 g5 q2 (Turned.put hlE hw1 rfl _) (by rw [hq2]; exact fq_put k2.mem.fq hw1 rfl) (by rw [hq2]; exact ql_put k2.ql) ⟨fun _ _ h => h, fun l' e => by cases e; exact ⟨_, by rw [hq2]; exact updQ_same _ _ _⟩⟩
      have hA6 : ActOK { ρ1 with q := q2, gh := g5 } s1 a1 := by
        obtain ⟨Ds, d1, d2, d3⟩ := k1.defers
        refine k1.turn k2.gh.symm ⟨Ds, d1, d2, fun D hD => ?_⟩
        have := d3 D hD
        have hne : D ≠ l := by rintro rfl; rw [hq1] at this; cases this
        rw [hq2, updQ_ne hne]
        exact this
      refine wpIn_mono (k4.ok.out { E with r := some l, q0 := q2, gh := g5 } _ _ _ hE hA6 hH6) ?_
      -- behind the body
      have fin : ∀ (jump : Option Code) (ρ2 : Plc) (s2 : St) (a2 : Act) (w3 : World), ActOK ρ2 s2 a2 → Holds { E with r := some l, q0 := q2, gh := g5 } ρ2 s2.mem w3 → s2.nt = s1.nt →
          ∃ w4, (Instr.endRound l jump).run C.P w3 = .ok (.bool jump.isNone) w4 ∧ ∃ ρ3, ActOK ρ3 (backSt s2) a ∧ Holds { E with q0 := updQ qb l (.loop (rec (if jump.isNone then .ready else .done) jump)) } ρ3 (backSt s2).mem w4 := by
        intro jump ρ2 s2 a2 w3 m1 m2 m3
        have hb : ρ2.q l = some (.loop { rec .ready none with state := .busy }) := m2.rd.1 _ _ (by show q2 _ = _; rw [hq2]; exact updQ_same _ _ _)
        have hw3 := (m2.mem.fq _ _ hb).1
        have hrun := run_endRound (P := C.P) jump hw3
        have hre : ({ ({ rec .ready none with state := .busy } : Loop) with state := if jump.isNone then .ready else .done, pending := jump } : Loop) = rec (if jump.isNone then .ready else .done) jump := by rw [hrec]
        rw [hre] at hrun
        refine ⟨_, hrun, { ρ2 with q := updQ ρ2.q l (.loop (rec (if jump.isNone then .ready else .done) jump)), gh := ρ'.gh }, ?_, ?_⟩
        · refine back_act (ρ := ρ') m1 (nt := (S x).nt) (m3.trans k3) (hA.size) (m2.gh.trans hg5) ?_
          obtain ⟨Ds, d1, d2, d3⟩ := hA.defers
          refine ⟨Ds, d1, d2, fun D hD => ?_⟩
          have h3 := d3 D hD
          have hne : D ≠ l := by rintro rfl; rw [hq] at h3; cases h3
          rw [updQ_ne hne]
          exact m2.rd.1 _ _ (by show q2 _ = _; rw [hq2, updQ_ne hne]; exact k2.rd.1 _ _ h3)
        · have hgE : ρ'.gh = E.gh := hHo.gh
          rw [hgE]
          refine m2.turn E.r _ E.gh _ (Turned.put hlE hw3 rfl _) (fq_put m2.mem.fq hw3 rfl) (ql_put m2.ql) ⟨fun b o h => ?_, hr2 _⟩
          by_cases e : b = l
          · subst e; rw [updQ_same] at h ⊢; exact h
          · rw [updQ_ne e] at h ⊢
            exact m2.rd.1 _ _ (by show q2 _ = _; rw [hq2, updQ_ne e]; exact k2.rd.1 _ _ (hHo.rd.1 _ _ (by show updQ qb l _ _ = _; rw [updQ_ne e]; exact h)))
      intro e a2 w3 hp
      cases e with
      | normal =>
        obtain ⟨ρ2, s2, m1, m2, m3, m4⟩ := hp
        obtain ⟨w4, hrun, ρ3, n1, n2⟩ := fin none ρ2 s2 a2 w3 m1 m2 m3
        refine ⟨_, w4, hrun, .inl ⟨rfl, ?_⟩⟩
        obtain ⟨x', hI', hpass⟩ := forceSt2_spec (K := fun s => ∃ x', Inv (k + 1) x' ∧ Pass s (S x')) m4
        obtain ⟨ρ4, p1, p2⟩ := hpass.use n1 n2
        exact ⟨ρ4, by rw [hJ]; exact ⟨x', hI', p1, p2⟩⟩
      | ret =>
        obtain ⟨ρ2, s2, m1, m2, m3, m4⟩ := hp
        obtain ⟨w4, hrun, ρ3, n1, n2⟩ := fin (some .ret) ρ2 s2 a2 w3 m1 m2 m3
        exact ⟨_, w4, hrun, .inr ⟨rfl, by rw [hJx]; exact ⟨.ret, ρ3, backSt s2, forceSt2_spec (K := fun s => K .ret s) m4, m3.trans (k3.trans (hnt x)), n1, n2⟩⟩⟩
      | exit i =>
        obtain ⟨ρ2, s2, m1, m2, m3, m4⟩ := hp
        obtain ⟨w4, hrun, ρ3, n1, n2⟩ := fin (some (.exit i)) ρ2 s2 a2 w3 m1 m2 m3
        exact ⟨_, w4, hrun, .inr ⟨rfl, by rw [hJx]; exact ⟨.exit i, ρ3, backSt s2, forceSt2_spec (K := fun s => K (.exit i) s) m4, m3.trans (k3.trans (hnt x)), n1, n2⟩⟩⟩
      | goto i => exact hp.elim
      | panic i => exact hp.elim
      | outgrown => exact hp.elim
  · -- behind the iterator
    have last : ∀ (st' : LoopState) (pe : Option Code) (ρ2 : Plc) (s2 : St) (w3 : World), st' ≠ .busy → ActOK ρ2 s2 a → Holds { E with q0 := updQ qb l (.loop (rec st' pe)) } ρ2 s2.mem w3 →
        ∃ w4, (Instr.endLoop l).run C.P w3 = .ok pe w4 ∧ ∃ ρ3, ActOK ρ3 s2 { a with defers := mark ++ a.defers } ∧ Holds E ρ3 s2.mem w4 := by
      intro st' pe ρ2 s2 w3 hst m1 m2
      have hb : ρ2.q l = some (.loop (rec st' pe)) := m2.rd.1 _ _ (updQ_same _ _ _)
      have hw3 := (m2.mem.fq _ _ hb).1
      have hrun := run_endLoop (P := C.P) hw3 (by rw [hrec]; exact hst)
      have hpe : (rec st' pe).pending = pe := by rw [hrec]
      obtain ⟨rex, hrex⟩ : ∃ rex : Loop, rex = { rec st' pe with state := .exhausted } := ⟨_, rfl⟩
      rw [← hrex, hpe] at hrun
      refine ⟨_, hrun, { ρ2 with q := updQ ρ2.q l (.loop rex), gh := E.gh }, ?_, ?_⟩
      · obtain ⟨Ds, d1, d2, d3⟩ := hmark
        refine m1.turn m2.gh.symm ⟨Ds, d1, d2, fun D hD => ?_⟩
        obtain ⟨h1, h2⟩ := d3 D hD
        rw [updQ_ne h1]
        exact m2.rd.1 _ _ (by show updQ qb l _ _ = _; rw [updQ_ne h1]; exact h2)
      · refine m2.turn E.r E.q0 E.gh _ (Turned.put hlE hw3 rfl _) (fq_put m2.mem.fq hw3 rfl) (ql_put m2.ql) ⟨fun b o h => ?_, hr0⟩
        obtain ⟨h1, h2⟩ := hq0 _ _ h
        rw [updQ_ne h1]
        exact m2.rd.1 _ _ (by show updQ qb l _ _ = _; rw [updQ_ne h1]; exact h2)
    rintro e W' ⟨⟨v, rfl⟩, ⟨ρ2, h⟩ | h⟩
    · rw [hJ] at h
      obtain ⟨x, hI, hA, hHo⟩ := h
      obtain ⟨w4, hrun, ρ3, n1, n2⟩ := last _ _ ρ2 (S x) W' (by simp) hA hHo
      exact ⟨none, w4, hrun, ρ3, S x, n1, n2, hnt x, done x hI⟩
    · rw [hJx] at h
      obtain ⟨c, ρ2, s, hc, hn, hA, hHo⟩ := h
      obtain ⟨w4, hrun, ρ3, n1, n2⟩ := last _ _ ρ2 s W' (by simp) hA hHo
      refine ⟨some c, w4, hrun, ?_⟩
      unfold leftBy at hc
      split at hc
      · exact wpIn_ret ⟨ρ3, s, n1, n2, hn, hc⟩
      · exact wpIn_exit ⟨ρ3, s, n1, n2, hn, hc⟩
      · exact hc.elim
/-- **A range over a function**: what holds between the rounds. -/
theorem range_rule (it : IterOK C.P gf caps R inf N enc) (Inv : Nat → α → Prop) (S : α → St) (x0 : α) (h0 : Inv 0 x0) {g : Operand} (hs : Pass st (S x0))
    (hg : ∀ x, (S x).ev g = .fn gf caps) (hR : ∀ k x, Inv k x → R (S x).mem) (hnt : ∀ x, (S x).nt = st.nt) (hps : ∀ k, (enc k).length = ps.size) (hpl : ps.toList.all (Nat.blt · st.nt) = true)
    (round : ∀ k x, k < N → Inv k x → forceSt2 (roundSt ps.toList (enc k) (S x)) fun s => OKs C.P asg s fun e s => match e with
      | .normal => OKv C pl body s fun e s => match e with
        | .normal => forceSt2 (backSt s) fun s => ∃ x', Inv (k + 1) x' ∧ Pass s (S x')
        | e => forceSt2 (backSt s) fun s => K e s
      | _ => False)
    (done : ∀ x, Inv N x → K .normal (S x)) (hinf : inf = true → ∀ x, ¬ Inv N x := by intro h; cases h) : OKs C.P (.rangeFunc g ps asg body) st K := by
  refine ⟨fun E ρ a w hE ha hH => ?_⟩
  obtain ⟨ρ, ha, hH⟩ := hs.use ha hH
  have hgv := ha.ev hH.mem.glob g
  rw [hg x0] at hgv
  unfold Rel at hgv
  obtain ⟨lb, hlb, _⟩ := hgv
  have hcall : ∀ args w, (callFunc gf args).run C.P w = .ok (.enter gf args) w := by
    intro args w
    obtain ⟨fn, hf, hb, hname⟩ := it.ent
    have h2 : fn.name ≠ "runtime.NumGoroutine" := by simpa using hname
    obtain ⟨c, hc⟩ : ∃ c, fn.body = some c := by
      cases e : fn.body with
      | none => rw [e] at hb; cases hb
      | some c => exact ⟨c, rfl⟩
    simp [callFunc, hf, h2, hc]
  have hqlt : ∀ b o, ρ.q b = some o → b < w.heap.size := fun b o h => (Array.getElem?_eq_some_iff.1 (hH.mem.fq b o h).1).1
  refine wpIn_rangeFunc ?_
  intro fn _
  obtain ⟨Ds, d1, d2, d3⟩ := ha.defers
  have hinv : ∀ (l : Nat) W1, (invoke (Target.fn (.func gf) lb.toArray) #[Value.func (.yield l) #[] #[]]).run C.P W1 = .ok (.enter gf (Value.func (.yield l) #[] #[] :: lb).toArray) W1 := by
    intro l W1
    have : (Value.func (.yield l) #[] #[] :: lb).toArray = #[Value.func (.yield l) #[] #[]] ++ lb.toArray := by simp
    rw [this]
    simp [invoke, go_sem, hcall]
  cases hr : E.r with
  | none =>
    obtain ⟨r0, hr0⟩ : ∃ r0 : Loop, r0 = { state := .ready, pending := none, fn, tmps := a.tmps, params := ps, assign := asg, body, defers := w.heap.size } := ⟨_, rfl⟩
    refine ⟨w.heap.size + 1, [{ target := .collected w.heap.size, args := #[] }], (w.alloc (.deferred (some []))).alloc (.loop r0), { target := .fn (.func gf) lb.toArray, args := #[.func (.yield (w.heap.size + 1)) #[] #[]] },
      (w.alloc (.deferred (some []))).alloc (.loop r0), gf, (.func (.yield (w.heap.size + 1)) #[] #[] :: lb).toArray, (w.alloc (.deferred (some []))).alloc (.loop r0), ?_, ?_, fun _ _ => trivial, hinv _ _, fun h => (by cases h), ?_⟩
    · rw [hr0]; exact run_enterLoop_outer _ _ _ _ _
    · simp only [resolve, hlb]
      simp [go_sem]
    · have hT : Turned E.w0 E.O w ((w.alloc (.deferred (some []))).alloc (.loop r0)) := (Turned.alloc hH.size _).trans (Turned.alloc (by have := hH.size; simp; omega) _)
      have hD : ((w.alloc (.deferred (some []))).alloc (.loop r0)).heap[w.heap.size]? = some (.deferred (some [])) := (alloc_get (by simp)).trans (World.alloc_heap_new w _)
      have hL : ((w.alloc (.deferred (some []))).alloc (.loop r0)).heap[w.heap.size + 1]? = some (.loop r0) := by
        have := World.alloc_heap_new (w.alloc (.deferred (some []))) (.loop r0)
        rwa [World.size_alloc] at this
      have hfq : ∀ b o, updQ (updQ ρ.q w.heap.size (.deferred (some []))) (w.heap.size + 1) (.loop r0) b = some o → ((w.alloc (.deferred (some []))).alloc (.loop r0)).heap[b]? = some o ∧ o.isCells = false := by
        intro b o h
        by_cases e : b = w.heap.size + 1
        · subst e; rw [updQ_same] at h; cases h; exact ⟨hL, rfl⟩
        · rw [updQ_ne e] at h
          by_cases e2 : b = w.heap.size
          · subst e2; rw [updQ_same] at h; cases h; exact ⟨hD, rfl⟩
          · rw [updQ_ne e2] at h
            have hlt := hqlt b o h
            exact ⟨((alloc_get (by simp; omega)).trans (alloc_get hlt)).trans (hH.mem.fq b o h).1, (hH.mem.fq b o h).2⟩
      have hql : ∀ b ds, updQ (updQ ρ.q w.heap.size (.deferred (some []))) (w.heap.size + 1) (.loop r0) b = some (.deferred ds) → E.w0.heap.size ≤ b := by
        refine ql_put fun b ds h => ?_
        by_cases e2 : b = w.heap.size
        · subst e2; exact hH.size
        · rw [updQ_ne e2] at h; exact hH.ql b ds h
      have hH1 := hH.turn E.r (updQ (updQ ρ.q w.heap.size (.deferred (some []))) (w.heap.size + 1) (.loop r0)) E.gh (updQ (updQ ρ.q w.heap.size (.deferred (some []))) (w.heap.size + 1) (.loop r0)) hT hfq hql
        ⟨fun _ _ h => h, fun l0 e => by rw [hr] at e; cases e⟩
      have hold : ∀ b o, ρ.q b = some o → updQ (updQ ρ.q w.heap.size (.deferred (some []))) (w.heap.size + 1) (.loop r0) b = some o := fun b o h => by
        have := hqlt b o h
        rw [updQ_ne (by omega), updQ_ne (by omega)]; exact h
      have hA1 : ActOK { ρ with q := updQ (updQ ρ.q w.heap.size (.deferred (some []))) (w.heap.size + 1) (.loop r0), gh := E.gh } (S x0) a :=
        ha.turn hH.gh.symm (ds := a.defers) ⟨Ds, d1, d2, fun D hD => hold _ _ (d3 D hD)⟩
      rw [← hr]
      subst hr0
      refine range_core it Inv S x0 h0 g hg hR hnt hps hpl round done hinf hE (qb := updQ ρ.q w.heap.size (.deferred (some []))) ?_ hH.rd.2 (by have := hH.size; omega) lb hlb ⟨w.heap.size :: Ds, ?_, ?_, ?_⟩ hA1 hH1
      · intro b o h
        have h' := hH.rd.1 b o h
        have := hqlt b o h'
        exact ⟨by omega, by rw [updQ_ne (by omega)]; exact h'⟩
      · refine List.nodup_cons.2 ⟨fun hD => ?_, d1⟩
        have := hqlt _ _ (d3 _ hD)
        omega
      · rw [d2]; rfl
      · intro D hD
        rcases List.mem_cons.1 hD with rfl | hD
        · exact ⟨by omega, updQ_same _ _ _⟩
        · have := hqlt _ _ (d3 _ hD)
          exact ⟨by omega, by rw [updQ_ne (by omega)]; exact d3 _ hD⟩
  | some l0 =>
    obtain ⟨r1, hr1⟩ := hH.rd.2 l0 hr
    have hr1 := hH.rd.1 _ _ hr1
    have hw0 := (hH.mem.fq _ _ hr1).1
    obtain ⟨r0, hr0⟩ : ∃ r0 : Loop, r0 = { state := .ready, pending := none, fn, tmps := a.tmps, params := ps, assign := asg, body, defers := r1.defers } := ⟨_, rfl⟩
    refine ⟨w.heap.size, [], w.alloc (.loop r0), { target := .fn (.func gf) lb.toArray, args := #[.func (.yield w.heap.size) #[] #[]] },
      w.alloc (.loop r0), gf, (.func (.yield w.heap.size) #[] #[] :: lb).toArray, w.alloc (.loop r0), ?_, ?_, fun _ _ => trivial, hinv _ _, fun h => (by cases h), ?_⟩
    · rw [hr0]; exact run_enterLoop_inner hw0 _ _ _ _ _
    · simp only [resolve, hlb]
      simp [go_sem]
    · have hT : Turned E.w0 E.O w (w.alloc (.loop r0)) := Turned.alloc hH.size _
      have hL : (w.alloc (.loop r0)).heap[w.heap.size]? = some (.loop r0) := World.alloc_heap_new w _
      have hfq : ∀ b o, updQ ρ.q w.heap.size (.loop r0) b = some o → (w.alloc (.loop r0)).heap[b]? = some o ∧ o.isCells = false := by
        intro b o h
        by_cases e : b = w.heap.size
        · subst e; rw [updQ_same] at h; cases h; exact ⟨hL, rfl⟩
        · rw [updQ_ne e] at h
          exact ⟨(alloc_get (hqlt b o h)).trans (hH.mem.fq b o h).1, (hH.mem.fq b o h).2⟩
      have hold : ∀ b o, ρ.q b = some o → updQ ρ.q w.heap.size (.loop r0) b = some o := fun b o h => by
        have := hqlt b o h
        rw [updQ_ne (by omega)]; exact h
      have hH1 := hH.turn E.r (updQ ρ.q w.heap.size (.loop r0)) E.gh (updQ ρ.q w.heap.size (.loop r0)) hT hfq (ql_put hH.ql)
        ⟨fun _ _ h => h, fun l1 e => by rw [hr] at e; cases e; exact ⟨_, hold _ _ hr1⟩⟩
      have hA1 : ActOK { ρ with q := updQ ρ.q w.heap.size (.loop r0), gh := E.gh } (S x0) a :=
        ha.turn hH.gh.symm (ds := a.defers) ⟨Ds, d1, d2, fun D hD => hold _ _ (d3 D hD)⟩
      rw [← hr]
      subst hr0
      refine range_core it Inv S x0 h0 g hg hR hnt hps hpl round done hinf hE (qb := ρ.q) ?_ hH.rd.2 hH.size lb hlb ⟨Ds, d1, d2, fun D hD => ?_⟩ hA1 hH1
      · intro b o h
        have h' := hH.rd.1 b o h
        have := hqlt b o h'
        exact ⟨by omega, h'⟩
      · have := hqlt _ _ (d3 _ hD)
        exact ⟨by omega, d3 _ hD⟩
end core
end Go.Proofs.Ytkcdomafdjpbjaa
