/- Regions and code. -/
import Derived.Test.YtcjcnlahieddoaaSymB
namespace Go.Proofs.Ytcjcnlahieddoaa
open Go.RowKit

def skipK (st : St) (o : Oper) (K : St → Prop) : Prop := putS st o.dst (.v undef) K
def St.know (st : St) (d : Nat) (b : Bool) : St := match st with
  | ⟨sl, nt, m⟩ => ⟨(d, .v (.bool b)) :: sl, nt, m⟩
theorem ActOK.know {ρ : Plc} {st : St} {a : Act} (h : ActOK ρ st a) {d : Nat} {b : Bool} (hb : st.get d = .v (.bool b)) : ActOK ρ (st.know d b) a where
  rel t := by
    by_cases e : d = t
    · subst e
      have := h.rel d
      rw [hb] at this
      unfold St.know St.get
      simp only [assoc_cons, if_true]
      exact this
    · have := h.rel t
      unfold St.get at this
      unfold St.know St.get
      simp only [assoc_cons, if_neg e]
      exact this
  size := h.size
  defers := h.defers

/-- What an operation's guard says. -/
def guardK (ops : Array Oper) (st : St) (o : Oper) (run skip : St → Prop) : Prop :=
  match o.guard with
  | none => run st
  | some (j, want) => match ops[j]? with
    | some oj => match oj.dst with
      | some d => match st.get d with
        | .v (.bool b) => match want with
          | true => BB b (run (st.know d true)) (skip (st.know d false))
          | false => BB b (skip (st.know d true)) (run (st.know d false))
        | .v (.tuple _) => skip st
        | _ => False
      | none => False
    | none => False
theorem guardK_sound {ops : Array Oper} {st : St} {o : Oper} {run skip : St → Prop} (h : guardK ops st o run skip) {ρ : Plc} {a : Act} (ha : ActOK ρ st a) :
    ∃ st', ActOK ρ st' a ∧ st'.mem = st.mem ∧ st'.nt = st.nt ∧ ((Region.wanted o (yielded ops a.tmps) = true ∧ run st') ∨ (Region.wanted o (yielded ops a.tmps) = false ∧ skip st')) := by
  unfold guardK at h
  split at h
  · rename_i hg
    exact ⟨st, ha, rfl, rfl, .inl ⟨by simp [Region.wanted, hg], h⟩⟩
  · rename_i j want hg
    split at h
    rotate_left
    · exact h.elim
    rename_i oj hoj
    split at h
    rotate_left
    · exact h.elim
    rename_i d hd
    have hw : Region.wanted o (yielded ops a.tmps) = (yielded ops a.tmps j == some want) := by simp [Region.wanted, hg]
    have hr := ha.rel d
    split at h
    · rename_i b hb
      rw [hb] at hr
      unfold Rel at hr
      have hy : yielded ops a.tmps j = some b := by
        rw [Array.getD_eq_getD_getElem?] at hr
        cases hv : a.tmps[d]? with
        | none => rw [hv] at hr; cases hr
        | some v =>
          rw [hv] at hr
          simp at hr
          subst hr
          simp [yielded, hoj, hd, hv]
      rw [hy] at hw
      cases b <;> cases want <;> simp only at h
      · exact ⟨_, ha.know hb, rfl, rfl, .inl ⟨by simp [hw], h.f rfl⟩⟩
      · exact ⟨_, ha.know hb, rfl, rfl, .inr ⟨by simp [hw], h.f rfl⟩⟩
      · exact ⟨_, ha.know hb, rfl, rfl, .inr ⟨by simp [hw], h.t rfl⟩⟩
      · exact ⟨_, ha.know hb, rfl, rfl, .inl ⟨by simp [hw], h.t rfl⟩⟩
    · rename_i vs hb
      rw [hb] at hr
      unfold Rel at hr
      have hy : yielded ops a.tmps j = none := by
        rw [Array.getD_eq_getD_getElem?] at hr
        cases hv : a.tmps[d]? with
        | none => simp [yielded, hoj, hd, hv]
        | some v =>
          rw [hv] at hr
          simp at hr
          subst hr
          simp [yielded, hoj, hd, hv]
      rw [hy] at hw
      exact ⟨st, ha, rfl, rfl, .inr ⟨by simp [hw], h⟩⟩
    · exact h.elim

/-- Operations one behind the other. -/
def vseq (C : Seat) (ops : Array Oper) : List Oper → St → (St → Prop) → Prop
  | [], st, K => K st
  | o :: r, st, K => guardK ops st o (fun s => vop C false s o fun s' => vseq C ops r s' K) (fun s => skipK s o fun s' => vseq C ops r s' K)

/-- What stands behind a region. -/
def RegPost (E : Env) (nt : Nat) (K : St → Prop) (Q : Exit → Act → World → Prop) : Prop :=
  ∀ ρ st a w, ActOK ρ st a → Holds E ρ st.mem w → st.nt = nt → K st → Q .normal a w
theorem vseq_sound {C : Seat} (hC : C.ok) {E : Env} (hE : E.P = C.P) {ops : Array Oper} {Q : Exit → Act → World → Prop} {nt : Nat} {K : St → Prop} (hQ : RegPost E nt K Q) :
    ∀ {l : List Oper} {is : List Nat} {st : St} {ρ : Plc} {a : Act} {w : World}, is.map (ops[·]?) = l.map some → st.nt = nt → ActOK ρ st a → Holds E ρ st.mem w → vseq C ops l st K → wpOps C.P ops Q is a w
  | [], [], st, ρ, a, w, _, hn, ha, hH, h => hQ ρ st a w ha hH hn h
  | [], _ :: _, _, _, _, _, hl, _, _, _, _ => by simp at hl
  | _ :: _, [], _, _, _, _, hl, _, _, _, _ => by simp at hl
  | o :: l, i :: is, st, ρ, a, w, hl, hn, ha, hH, h => by
    simp only [List.map_cons, List.cons.injEq] at hl
    obtain ⟨hi, hl⟩ := hl
    unfold vseq at h
    unfold wpOps
    simp only [hi]
    obtain ⟨st', ha', hm, hnt, ⟨hw, h⟩ | ⟨hw, h⟩⟩ := guardK_sound h ha
    · rw [if_pos hw]
      refine .inl ?_
      refine Oper.wp_mono ?_ ((vop_sound hC h).out E ρ a w Q hE ha' (by rw [hm]; exact hH))
      rintro a2 w2 ⟨ρ2, st2, _, h2, h3, h4, h5, _⟩
      exact vseq_sound hC hE hQ hl (h5.trans (hnt.trans hn)) h2 h3 h4
    · rw [if_neg (by rw [hw]; simp)]
      obtain ⟨ρ2, st2, _, h2, h3, h4, h5, _⟩ := putK_sound (keep := false) (w := w) ((putS_eq _ _ _ _).mp h) ha' (Agree.refl ρ) (by rw [hm]; exact hH) (rel_v undef) (fun e => by cases e)
      exact vseq_sound hC hE hQ hl (h5.trans (hnt.trans hn)) h2 h3 h4

theorem BlksOK.agree {ρ ρ' : Plc} {m : Mem} {w : World} (h : MemOK ρ m w) (k : Agree ρ ρ') : BlksOK ρ' m w :=
  ⟨fun a b ha => by rw [k.eq a (h.has ha)]; exact (h.blk a b ha).agree k⟩
theorem Kept.same {ρ ρ' : Plc} {m : Mem} {w w' : World} (h : MemOK ρ m w) (k : Agree ρ ρ') (hs : Kept w w') : Same ρ' m w w' :=
  ⟨hs.size, fun a b ha hl => by rw [k.eq a (h.has ha)]; exact hs.blk _ ((h.blk a b ha).lt hl)⟩
theorem Holds.drew {E : Env} {ρ : Plc} {m : Mem} {w : World} (h : Holds E ρ m w) : Holds E ρ m w.drew :=
  ⟨⟨fun a b ha => BlkOK.same (w := w) (w' := w.drew) (Nat.le_refl _) (h.mem.blk a b ha) (fun _ => rfl), h.mem.sep, h.mem.glob, h.mem.nx⟩, h.low, h.new, h.old, h.len, h.gl, h.os, h.tape, h.output, h.size, h.fr⟩

theorem assoc_map {α β : Type} (f : α → β) (x : Nat) : ∀ l : List (Nat × α), assoc (l.map fun p => (p.1, f p.2)) x = (assoc l x).map f
  | [] => rfl
  | (k, v) :: l => by
    rw [List.map_cons, assoc_cons, assoc_cons, assoc_map f x l]
    split <;> rfl
/-- The operation is an append. -/
def isApp : Op → Bool
  | .call { callee := .builtin .append, .. } => true
  | .store .. => true
  | _ => false
/-- What may be read while rows are put to. -/
def softB : SB → SB
  | .row .. => .dead
  | b => b
def softM (soft : Bool) (m : Mem) : Mem := match soft with
  | true => ⟨m.glob.map fun p => (p.1, softB p.2), m.old.map softB, m.ext.map softB⟩
  | false => m
/-- The row that is put to was there when the region began. -/
def softOK (m0 : Mem) (x : SV) : Prop := match x with
  | .v (.slice none 0 0) => True
  | .s (.n b) _ _ _ cap => match m0.look (.n b) with
    | some (.row _ _ cap0 _) => cap0 = cap
    | _ => cap = 0
  | _ => False
def softK (m0 : Mem) (x : SV) (K : Prop) : Prop := match x with
  | .v (.slice none 0 0) => K
  | .s (.n b) _ _ _ cap => match m0.look (.n b) with
    | some (.row _ _ cap0 _) => cap0 = cap ∧ K
    | _ => cap = 0 ∧ K
  | _ => False
theorem softK_spec {m0 : Mem} {x : SV} {K : Prop} (h : softK m0 x K) : softOK m0 x ∧ K := by
  unfold softK at h
  unfold softOK
  split at h
  · exact ⟨trivial, h⟩
  · rename_i b sz e len cap
    split at h
    · exact h
    · exact h
  · exact h.elim
/-- An operation ahead of the last ones. -/
def vdo (C : Seat) (soft : Bool) (m0 : Mem) (s : St) (o : Oper) (K : St → Prop) : Prop :=
  match soft, o.op with
  | true, .call { callee := .builtin .append, args, argTypes } => match args.toList with
    | [x, y] => match s.ev x with
      | .s (.n b) sz e len cap => match Nat.ble m0.ext.length b, s.mem.look (.n b) with
        | true, some (.row _ _ cap2 _) => (Nat.ble m0.ext.length b = true ∧ s.mem.old = m0.old ∧ s.mem.ext.take m0.ext.length = m0.ext) ∧ cap2 = cap ∧ appendK C.T s o.dst argTypes (.s (.n b) sz e len cap) (s.ev y) K False
        | _, _ => softK m0 (.s (.n b) sz e len cap) (appendK C.T s o.dst argTypes (.s (.n b) sz e len cap) (s.ev y) K False)
      | _ => softK m0 (s.ev x) (appendK C.T s o.dst argTypes (s.ev x) (s.ev y) K False)
    | _ => False
  | true, .store t a x => match s.ev a, assoc C.T t with
    | .p (.n b) e sz f, some i => match s.mem.look (.n b) with
      | some (.box _ _) => (Nat.ble m0.ext.length b = true ∧ s.mem.old = m0.old ∧ s.mem.ext.take m0.ext.length = m0.ext) ∧ storeK s i (.n b) e sz f (s.ev x) (fun s' => putM s' o.dst (.v undef) s'.mem K) False
      | _ => False
    | _, _ => False
  | _, .convert src dst x => match Nat.beq src dst, s.ev x with
    | true, .s (.n b) sz e n c => (Nat.ble m0.ext.length b = true ∧ s.mem.old = m0.old ∧ s.mem.ext.take m0.ext.length = m0.ext) ∧ markK C.T s o.dst src (.s (.n b) sz e n c) K False
    | _, _ => vop C true s o K
  | _, _ => vop C true s o K
/-- Whichever comes first. -/
structure Both (A B : Prop) : Prop where
  l : A
  r : B
def forceSlots : List (Nat × SV) → (List (Nat × SV) → Prop) → Prop
  | [], K => K []
  | (t, x) :: l, K => forceSV x fun x => forceSlots l fun l => K ((t, x) :: l)
theorem forceSlots_spec : ∀ {l : List (Nat × SV)} {K : List (Nat × SV) → Prop}, forceSlots l K → K l
  | [], _, h => h
  | (t, x) :: l, K, h => by
    unfold forceSlots at h
    exact forceSlots_spec (l := l) (K := fun l => K ((t, x) :: l)) (forceSV_spec (K := fun x => forceSlots l fun l => K ((t, x) :: l)) h)
def forceSt (s : St) (K : St → Prop) : Prop := forceSlots s.slots fun l => forceM s.mem fun m => forceNat s.nt fun n => K ⟨l, n, m⟩
theorem forceSt_spec {s : St} {K : St → Prop} (h : forceSt s K) : K s :=
  forceNat_spec (K := fun n => K ⟨s.slots, n, s.mem⟩) (forceM_spec (K := fun m => forceNat s.nt fun n => K ⟨s.slots, n, m⟩) (forceSlots_spec (K := fun l => forceM s.mem fun m => forceNat s.nt fun n => K ⟨l, n, m⟩) h))
/-- A plan's rest, from what is known of a call on. -/
structure PSem (C : Seat) (ops : Array Oper) (soft : Bool) (m0 : Mem) (y : PT) (st : St) (K : St → Prop) : Prop where
  out : ∀ {E : Env} (_ : E.P = C.P) {Q : Exit → Act → World → Prop} {nt : Nat} {ρ0 : Plc} {w0 : World} (_ : MemOK ρ0 m0 w0) (_ : m0.glob = E.gl) {KW : Act → World → Prop} {ρ : Plc} {a : Act} {w : World}, st.nt = nt → Agree ρ0 ρ → ActOK ρ st a → Holds E ρ st.mem w →
    Same ρ0 (softM soft m0) w0 w →
    (∀ ρ' st' a' w', Agree ρ0 ρ' → ActOK ρ' st' a' → Holds E ρ' st'.mem w' → st'.nt = nt → (y.noLast = true → Same ρ0 (softM soft m0) w0 w') → K st' → KW a' w') →
    walkT C.P ops Q (fun w' => Same ρ0 (softM soft m0) w0 w') y KW a w
/-- All orders of some operations, and then the rest. -/
structure VS (F : (St → Prop) → Prop) (J : St → Prop) : Prop where
  go : F J
theorem VS.cut {F : (St → Prop) → Prop} {J : St → Prop} {α : Type} (S : α → St) (Inv : α → Prop) (h2 : ∀ x, Inv x → J (S x)) (h1 : (∀ x, Inv x → J (S x)) → F J) : VS F J := ⟨h1 h2⟩
def PT.lastOnly : PT → Bool
  | .nil => true
  | .op _ .last r => r.lastOnly
  | _ => false
def PT.soft (ops : Array Oper) : PT → Bool
  | .nil => false
  | .op i .do_ r => (match ops[i]? with
    | some o => isApp o.op
    | none => false) || r.soft ops
  | .op _ _ r => r.soft ops
  | .fork i x y => (match ops[i]? with
    | some o => isApp o.op
    | none => false) || x.soft ops || y.soft ops
  | .seq _ _ x y => x.soft ops || y.soft ops
/-- Operations of a region that draws its order, by a plan; behind the first of the last ones nothing is taken by what stood ahead. -/
def vplan (C : Seat) (ops : Array Oper) (soft : Bool) (m0 : Mem) : PT → St → (St → Prop) → Prop
  | .nil, st, K => K st
  | .op i .take r, st, K => match ops[i]? with
    | some o => guardK ops st o (fun s => pureOp C (softM soft m0) s.ev o.op (fun sv => putS s o.dst sv fun s' => vplan C ops soft m0 r s' K) False) (fun s => skipK s o fun s' => vplan C ops soft m0 r s' K)
    | none => False
  | .op i .do_ r, st, K => match ops[i]? with
    | some o => guardK ops st o (fun s => vdo C soft m0 s o fun s' => vplan C ops soft m0 r s' K) (fun s => skipK s o fun s' => vplan C ops soft m0 r s' K)
    | none => False
  | .op i .last r, st, K => match ops[i]?, r.lastOnly with
    | some o, true => guardK ops st o (fun s => vop C false s o fun s' => vplan C ops soft m0 r s' K) (fun s => skipK s o fun s' => vplan C ops soft m0 r s' K)
    | _, _ => False
  | .fork i x y, st, K => match ops[i]? with
    | some o => Both (guardK ops st o (fun s => vdo C soft m0 s o fun s' => vplan C ops soft m0 x s' K) (fun s => skipK s o fun s' => vplan C ops soft m0 x s' K)) (vplan C ops soft m0 y st K)
    | none => False
  | .seq _ _ x y, st, K => match x.noLast with
    | true => VS (vplan C ops soft m0 x st) (fun s => forceSt s fun s => PSem C ops soft m0 y s K)
    | false => False

theorem softM_look {soft : Bool} {m : Mem} {a : Nm} {b : SB} (h : (softM soft m).look a = some b) : b = .dead ∨ (m.look a = some b ∧ (soft = true → ∀ t sz cap els, b ≠ .row t sz cap els)) := by
  cases soft with
  | false => exact .inr ⟨h, fun e => by cases e⟩
  | true =>
    have key : ∀ l : List SB, ∀ k : Nat, (l.map softB)[k]? = some b → b = .dead ∨ (l[k]? = some b ∧ ∀ t sz cap els, b ≠ .row t sz cap els) := by
      intro l k hk
      rw [List.getElem?_map, Option.map_eq_some_iff] at hk
      obtain ⟨c, h1, rfl⟩ := hk
      cases c with
      | row t sz cap els => exact .inl rfl
      | dead => exact .inl rfl
      | ro sz els => exact .inr ⟨h1, fun _ _ _ _ => by simp [softB]⟩
      | box t cells => exact .inr ⟨h1, fun _ _ _ _ => by simp [softB]⟩
    cases a with
    | o k => exact (key _ _ h).imp id fun ⟨h1, h2⟩ => ⟨h1, fun _ => h2⟩
    | n k => exact (key _ _ h).imp id fun ⟨h1, h2⟩ => ⟨h1, fun _ => h2⟩
    | g x =>
      have hg : assoc (m.glob.map fun p => (p.1, softB p.2)) x = some b := h
      rw [assoc_map, Option.map_eq_some_iff] at hg
      obtain ⟨c, h1, rfl⟩ := hg
      cases c with
      | row t sz cap els => exact .inl rfl
      | dead => exact .inl rfl
      | ro sz els => exact .inr ⟨h1, fun _ _ _ _ _ => by simp [softB]⟩
      | box t cells => exact .inr ⟨h1, fun _ _ _ _ _ => by simp [softB]⟩
theorem softM_blks {soft : Bool} {ρ : Plc} {m : Mem} {w : World} (h : BlksOK ρ m w) : BlksOK ρ (softM soft m) w :=
  ⟨fun a b ha => by
    rcases softM_look ha with rfl | ⟨h1, _⟩
    · trivial
    · exact h.blk a b h1⟩
theorem Same.agree {soft : Bool} {ρ ρ' : Plc} {m : Mem} {w0 w w' : World} (hm : MemOK ρ m w0) (k : Agree ρ ρ') (h : Same ρ (softM soft m) w w') : Same ρ' (softM soft m) w w' :=
  ⟨h.size, fun a b ha hl => by
    rcases softM_look ha with rfl | ⟨h1, _⟩
    · exact hl.elim
    · rw [k.eq a (hm.has h1)]; exact h.blk a b ha hl⟩
theorem Same.kept {soft : Bool} {ρ : Plc} {m : Mem} {w0 w w' : World} (hm : MemOK ρ m w0) (h : Same ρ (softM soft m) w0 w) (k : Kept w w') : Same ρ (softM soft m) w0 w' :=
  ⟨Nat.le_trans h.size k.size, fun a b ha hl => by
    refine (k.blk _ ?_).trans (h.blk a b ha hl)
    exact Nat.lt_of_lt_of_le (BlkOK.lt ((softM_blks hm.blks).blk a b ha) hl) h.size⟩
theorem Same.store {soft : Bool} {ρ ρ' : Plc} {m m' : Mem} {w0 w w' : World} (hm : MemOK ρ m w0) (ka : Agree ρ ρ') (hm' : MemOK ρ' m' w) {b : Nat} {B0 : SB} (hb : m'.look (.n b) = some B0) (hO : B0.isOwn) (hbm : m.ext.length ≤ b) (ho : m'.old = m.old) (hx : m'.ext.take m.ext.length = m.ext) (hg : m'.glob = m.glob)
    (h : Same ρ (softM soft m) w0 w) (k : w.heap.size ≤ w'.heap.size ∧ ∀ n, n < w.heap.size → n ≠ (ρ'.at_ (.n b)).1 → w'.heap[n]? = w.heap[n]?) : Same ρ (softM soft m) w0 w' :=
  ⟨Nat.le_trans h.size k.1, fun a B ha hl => by
    rcases softM_look ha with rfl | ⟨h1, h2⟩
    · exact hl.elim
    · have hl' : m'.look a = some B := by
        cases a with
        | o i => show m'.old[i]? = _; rw [ho]; exact h1
        | g x => show assoc m'.glob x = _; rw [hg]; exact h1
        | n i =>
          have hi : i < m.ext.length := getElem?_lt (show m.ext[i]? = some B from h1)
          have : (m'.ext.take m.ext.length)[i]? = some B := by rw [hx]; exact h1
          rw [List.getElem?_take, if_pos hi] at this
          exact this
      have hne : (.n b : Nm) ≠ a := by
        rintro rfl
        have : b < m.ext.length := getElem?_lt (show m.ext[b]? = some B from h1)
        omega
      rw [k.2 _ (Nat.lt_of_lt_of_le (BlkOK.lt ((softM_blks hm.blks).blk a B ha) hl) h.size) ?_, h.blk a B ha hl]
      rw [← ka.eq a (hm.has h1)]
      exact (hm'.sep _ _ _ _ hb hl' hO hl hne).symm⟩
theorem Same.app {ρ ρ' : Plc} {m : Mem} {w0 w w' : World} (hm : MemOK ρ m w0) (ka : Agree ρ ρ') {x : SV} (hx : softOK m x) (h : Same ρ (softM true m) w0 w) (k : AppKept ρ' x w w') : Same ρ (softM true m) w0 w' :=
  ⟨Nat.le_trans h.size k.size, fun a b ha hl => by
    refine (k.blk _ ?_ ?_).trans (h.blk a b ha hl)
    · exact Nat.lt_of_lt_of_le (BlkOK.lt ((softM_blks hm.blks).blk a b ha) hl) h.size
    · rintro b' sz e len cap rfl hc
      unfold softOK at hx
      simp only at hx
      split at hx
      · rename_i t2 sz2 cap0 els hb'
        subst hx
        rcases softM_look ha with rfl | ⟨h1, h2⟩
        · exact hl.elim
        · rw [ka.eq _ (hm.has hb')]
          refine (hm.sep _ _ _ _ hb' h1 hc hl ?_).symm
          rintro rfl
          rw [hb'] at h1
          cases h1
          exact h2 rfl _ _ _ _ rfl
      · exact (hc hx).elim⟩

theorem wpOp_run {P : Program} {ops : Array Oper} {Q : Exit → Act → World → Prop} {K : Act → World → Prop} {i : Nat} {o : Oper} {a : Act} {w : World} (ho : ops[i]? = some o) (hw : Region.wanted o (yielded ops a.tmps) = true) (h : o.wp P a w K Q) : wpOp P ops Q i K a w := by
  unfold wpOp
  simp only [ho, hw, if_true]
  exact .inl h
theorem wpOp_skip {P : Program} {ops : Array Oper} {Q : Exit → Act → World → Prop} {K : Act → World → Prop} {i : Nat} {o : Oper} {a : Act} {w : World} (ho : ops[i]? = some o) (hw : Region.wanted o (yielded ops a.tmps) = false) (h : K (a.put o.dst undef) w) : wpOp P ops Q i K a w := by
  unfold wpOp
  simp only [ho, hw, Bool.false_eq_true, if_false]
  exact h
theorem PT.noTake_of {r : PT} : r.lastOnly = true → r.noTake = true := by
  induction r with
  | nil => intro _; rfl
  | op i q r ih => cases q <;> simp [PT.lastOnly, PT.noTake]; exact ih
  | fork i x y _ _ => simp [PT.lastOnly]
  | seq m L x y _ _ => simp [PT.lastOnly]

theorem vdo_sound {C : Seat} (hC : C.ok) {E : Env} (hE : E.P = C.P) {ops : Array Oper} {Q : Exit → Act → World → Prop} {K : St → Prop} {soft : Bool} {ρ0 : Plc} {m0 : Mem} {w0 : World} (h0 : MemOK ρ0 m0 w0) (hg0 : m0.glob = E.gl) {st : St} {ρ : Plc} {a : Act} {w : World} (hk : Agree ρ0 ρ) (hH : Holds E ρ st.mem w)
    (hS : Same ρ0 (softM soft m0) w0 w) {i : Nat} {o : Oper} (ho : ops[i]? = some o) {st' : St} (ha' : ActOK ρ st' a) (hm : st'.mem = st.mem) (hw : Region.wanted o (yielded ops a.tmps) = true) (h : vdo C soft m0 st' o K) :
    wpOp C.P ops Q i (fun a' w' => Same ρ0 (softM soft m0) w0 w' ∧ ∃ ρ2 st2, Agree ρ0 ρ2 ∧ ActOK ρ2 st2 a' ∧ Holds E ρ2 st2.mem w' ∧ K st2 ∧ st2.nt = st'.nt) a w := by
  refine wpOp_run ho hw ?_
  unfold vdo at h
  split at h
  · rename_i args argTypes hop
    obtain ⟨od, oo, oty, opos, oaf, ogd⟩ := o
    simp only at hop
    subst hop
    split at h
    rotate_left
    · exact h.elim
    rename_i x y hargs
    have key : (softOK m0 (st'.ev x) ∨ ∃ b B0, (∃ sz e len cap, st'.ev x = .s (.n b) sz e len cap) ∧ st'.mem.look (.n b) = some B0 ∧ B0.isOwn ∧ m0.ext.length ≤ b ∧ st'.mem.old = m0.old ∧ st'.mem.ext.take m0.ext.length = m0.ext) ∧ appendK C.T st' od argTypes (st'.ev x) (st'.ev y) K False := by
      split at h
      · rename_i b sz e len cap ex
        rw [ex]
        split at h
        · rename_i t2 sz2 cap2 els hble hlk
          obtain ⟨h1, rfl, h⟩ := h
          by_cases hc : cap2 = 0
          · refine ⟨.inl ?_, h⟩
            have hno : m0.look (.n b) = none := List.getElem?_eq_none (Nat.le_of_ble_eq_true hble)
            unfold softOK
            simp only [hno]
            exact hc
          · exact ⟨.inr ⟨b, _, ⟨_, _, _, _, rfl⟩, hlk, hc, Nat.le_of_ble_eq_true h1.1, h1.2.1, h1.2.2⟩, h⟩
        · obtain ⟨h1, h2⟩ := softK_spec h
          exact ⟨.inl h1, h2⟩
      · obtain ⟨h1, h2⟩ := softK_spec h
        exact ⟨.inl h1, h2⟩
    obtain ⟨hsoft, h⟩ := key
    have ha2 : args.map a.eval = #[a.eval x, a.eval y] := Array.ext' (by simp [hargs])
    rcases appendK_sound hC hE ha' (by rw [hm]; exact hH) (ty := oty) (ha'.ev hH.mem.glob x) (ha'.ev hH.mem.glob y) h with h | ⟨r', w', hrun, hpost, hkept⟩
    · exact h.elim
    rw [hE] at hrun
    unfold Oper.wp
    have : (execOp a.eval ⟨od, .call { callee := .builtin .append, args, argTypes }, oty, opos, oaf, ogd⟩).run C.P w = .ok (.value r') w' := by
      simp only [execOp, resolve, Sem.run_bind, Sem.run_pure, Result.andThen_ok, invoke, builtin, ha2, hrun]
    rw [this]
    obtain ⟨ρ2, st2, k2, h2, h3, h4, h5, h6⟩ := hpost
    rcases hsoft with hsoft | ⟨b, B0, ⟨sz, e, len, cap, ex⟩, hB0, hO0, hb1, hb2, hb3⟩
    · exact ⟨hS.app h0 hk hsoft hkept, ρ2, st2, hk.trans k2, h2, h3, h4, h5⟩
    · rw [hm] at hB0 hb2 hb3
      refine ⟨hS.store h0 hk hH.mem hB0 hO0 hb1 hb2 hb3 (hH.gl.trans hg0.symm) ⟨hkept.size, fun n hn hne => hkept.blk n hn (fun b' sz' e' len' cap' hx' _ => ?_)⟩, ρ2, st2, hk.trans k2, h2, h3, h4, h5⟩
      rw [ex] at hx'
      cases hx'
      exact hne
  · rename_i t ad x hop
    obtain ⟨od, oo, oty, opos, oaf, ogd⟩ := o
    simp only at hop
    subst hop
    split at h
    rotate_left
    · exact h.elim
    rename_i b e sz f i ea hi
    split at h
    rotate_left
    · exact h.elim
    rename_i bt cells hbox
    obtain ⟨⟨hb1, hb2, hb3⟩, h⟩ := h
    have hx := ha'.ev hH.mem.glob ad
    rw [ea] at hx
    unfold Rel at hx
    obtain ⟨hx, _⟩ := hx
    rcases storeK_sound hC hE ha' (by rw [hm]; exact hH) hi (ha'.ev hH.mem.glob x) h with h | ⟨w', hrun, hkeep, m', hH', h⟩
    · exact h.elim
    rw [hE] at hrun
    unfold Oper.wp
    have : (execOp a.eval ⟨od, .store t ad x, oty, opos, oaf, ogd⟩).run C.P w = .ok .skip w' := by
      simp only [execOp, Instr.storeAt, hx, Instr.sureAddr, Sem.run_bind, Sem.run_pure, Result.andThen_ok, hrun]
    rw [this]
    obtain ⟨ρ2, st2, k2, h2, h3, h4, h5, _⟩ := putM_sound (keep := false) (ρ := ρ) (w := w) (st := { st' with mem := m' }) h (ha'.mem m') (Agree.refl ρ) hH' (rel_v undef) (fun e => by cases e)
    rw [hm] at hbox hb2 hb3
    exact ⟨hS.store h0 hk hH.mem hbox trivial (Nat.le_of_ble_eq_true hb1) hb2 hb3 (hH.gl.trans hg0.symm) ⟨hkeep.1, fun n _ => hkeep.2 n⟩, ρ2, st2, hk.trans k2, h2, h3, h4, h5⟩
  · rename_i src dst x hop
    obtain ⟨od, oo, oty, opos, oaf, ogd⟩ := o
    simp only at hop
    subst hop
    split at h
    · rename_i b sz e n c hbeq hev
      obtain rfl := Nat.eq_of_beq_eq_true hbeq
      obtain ⟨⟨hb1, hb2, hb3⟩, h⟩ := h
      have hv := ha'.ev hH.mem.glob x
      rw [hev] at hv
      rcases markK_sound hC hE ha' (by rw [hm]; exact hH) hv h with h | ⟨u, w', hrun, hkeep, ⟨B0, hB0, hO0⟩, m', hH', hr', h⟩
      · exact h.elim
      rw [hE] at hrun
      unfold Oper.wp
      have : (execOp a.eval ⟨od, .convert src src x, oty, opos, oaf, ogd⟩).run C.P w = .ok (.value u) w' := by
        simp only [execOp, Sem.run_bind, hrun, Result.andThen_ok, Sem.run_pure]
      rw [this]
      obtain ⟨ρ2, st2, k2, h2, h3, h4, h5, _⟩ := putM_sound (keep := false) (ρ := ρ) (w := w) (st := { st' with mem := m' }) h (ha'.mem m') (Agree.refl ρ) hH' hr' (fun e => by cases e)
      rw [hm] at hB0 hb2 hb3
      exact ⟨hS.store h0 hk hH.mem hB0 hO0 (Nat.le_of_ble_eq_true hb1) hb2 hb3 (hH.gl.trans hg0.symm) ⟨hkeep.1, fun n _ => hkeep.2 n⟩, ρ2, st2, hk.trans k2, h2, h3, h4, h5⟩
    · refine Oper.wp_mono ?_ ((vop_sound hC h).out E ρ a w Q hE ha' (by rw [hm]; exact hH))
      rintro a2 w2 ⟨ρ2, st2, k2, h2, h3, h4, h5, h6⟩
      exact ⟨hS.kept h0 (h6 rfl), ρ2, st2, hk.trans k2, h2, h3, h4, h5⟩
  · refine Oper.wp_mono ?_ ((vop_sound hC h).out E ρ a w Q hE ha' (by rw [hm]; exact hH))
    rintro a2 w2 ⟨ρ2, st2, k2, h2, h3, h4, h5, h6⟩
    exact ⟨hS.kept h0 (h6 rfl), ρ2, st2, hk.trans k2, h2, h3, h4, h5⟩

theorem vplan_sound {C : Seat} (hC : C.ok) {E : Env} (hE : E.P = C.P) {ops : Array Oper} {Q : Exit → Act → World → Prop} {nt : Nat} {soft : Bool} {ρ0 : Plc} {m0 : Mem} {w0 : World} (h0 : MemOK ρ0 m0 w0) (hg0 : m0.glob = E.gl) :
    ∀ {l : PT} {K : St → Prop} {KW : Act → World → Prop} {st : St} {ρ : Plc} {a : Act} {w : World}, st.nt = nt → Agree ρ0 ρ → ActOK ρ st a → Holds E ρ st.mem w →
      (Same ρ0 (softM soft m0) w0 w ∨ l.lastOnly = true) →
      (∀ ρ' st' a' w', Agree ρ0 ρ' → ActOK ρ' st' a' → Holds E ρ' st'.mem w' → st'.nt = nt → (Same ρ0 (softM soft m0) w0 w → l.noLast = true → Same ρ0 (softM soft m0) w0 w') → K st' → KW a' w') →
      vplan C ops soft m0 l st K → walkT C.P ops Q (fun w' => Same ρ0 (softM soft m0) w0 w') l KW a w
  | .nil, K, KW, st, ρ, a, w, hn, hk, ha, hH, _, hQ, h => hQ ρ st a w hk ha hH hn (fun h _ => h) h
  | .op i .take r, K, KW, st, ρ, a, w, hn, hk, ha, hH, hS, hQ, h => by
    have hS := hS.resolve_right (by simp [PT.lastOnly])
    unfold vplan at h
    split at h
    rotate_left
    · exact h.elim
    rename_i o ho
    refine ⟨o, ho, ?_⟩
    obtain ⟨st', ha', hm, hnt, ⟨hw, h⟩ | ⟨hw, h⟩⟩ := guardK_sound h ha
    · rcases pureOp_sound hC (softM_blks (BlksOK.agree h0 hk)) (a := a) (fun x => ha'.ev hH.mem.glob x) (o := o) h with ⟨sv, v, h1, h2, h3⟩ | h
      · refine ⟨v, .inl ⟨hw, fun w' hs => h3 w' (Same.agree h0 hk hs)⟩, ?_⟩
        obtain ⟨ρ2, st2, k2, h2, h3, h4, h5, _⟩ := putK_sound (keep := false) (w := w) ((putS_eq _ _ _ _).mp h1) ha' (Agree.refl ρ) (by rw [hm]; exact hH) h2 (fun e => by cases e)
        exact vplan_sound hC hE h0 hg0 (h5.trans (hnt.trans hn)) (hk.trans k2) h2 h3 (.inl hS) (hQ) h4
      · exact h.elim
    · refine ⟨undef, .inr ⟨hw, rfl⟩, ?_⟩
      obtain ⟨ρ2, st2, k2, h2, h3, h4, h5, _⟩ := putK_sound (keep := false) (w := w) ((putS_eq _ _ _ _).mp h) ha' (Agree.refl ρ) (by rw [hm]; exact hH) (rel_v undef) (fun e => by cases e)
      exact vplan_sound hC hE h0 hg0 (h5.trans (hnt.trans hn)) (hk.trans k2) h2 h3 (.inl hS) (hQ) h4
  | .op i .do_ r, K, KW, st, ρ, a, w, hn, hk, ha, hH, hS, hQ, h => by
    have hS := hS.resolve_right (by simp [PT.lastOnly])
    unfold vplan at h
    split at h
    rotate_left
    · exact h.elim
    rename_i o ho
    refine ⟨hS, ?_⟩
    obtain ⟨st', ha', hm, hnt, ⟨hw, h⟩ | ⟨hw, h⟩⟩ := guardK_sound h ha
    · refine wpOp_mono ?_ (vdo_sound hC hE h0 hg0 hk hH hS ho ha' hm hw h)
      rintro a' w' ⟨hS2, ρ2, st2, k2, h2, h3, h4, h5⟩
      exact ⟨hS2, vplan_sound hC hE h0 hg0 (h5.trans (hnt.trans hn)) k2 h2 h3 (.inl hS2) (fun ρ' st' a' w' g1 g2 g3 g4 g5 g6 => hQ ρ' st' a' w' g1 g2 g3 g4 (fun _ hl => g5 hS2 hl) g6) h4⟩
    · refine wpOp_skip ho hw ⟨hS, ?_⟩
      obtain ⟨ρ2, st2, k2, h2, h3, h4, h5, _⟩ := putK_sound (keep := false) (w := w) ((putS_eq _ _ _ _).mp h) ha' (Agree.refl ρ) (by rw [hm]; exact hH) (rel_v undef) (fun e => by cases e)
      exact vplan_sound hC hE h0 hg0 (h5.trans (hnt.trans hn)) (hk.trans k2) h2 h3 (.inl hS) (hQ) h4
  | .op i .last r, K, KW, st, ρ, a, w, hn, hk, ha, hH, hS, hQ, h => by
    unfold vplan at h
    split at h
    rotate_left
    · exact h.elim
    rename_i o ho hall
    obtain ⟨st', ha', hm, hnt, ⟨hw, h⟩ | ⟨hw, h⟩⟩ := guardK_sound h ha
    · refine wpOp_run ho hw ?_
      refine Oper.wp_mono ?_ ((vop_sound hC h).out E ρ a w Q hE ha' (by rw [hm]; exact hH))
      rintro a2 w2 ⟨ρ2, st2, k2, h2, h3, h4, h5, h6⟩
      exact vplan_sound hC hE h0 hg0 (h5.trans (hnt.trans hn)) (hk.trans k2) h2 h3 (.inr hall) (fun ρ' st' a' w' g1 g2 g3 g4 _ g6 => hQ ρ' st' a' w' g1 g2 g3 g4 (fun _ hl => by simp [PT.noLast] at hl) g6) h4
    · refine wpOp_skip ho hw ?_
      obtain ⟨ρ2, st2, k2, h2, h3, h4, h5, _⟩ := putK_sound (keep := false) (w := w) ((putS_eq _ _ _ _).mp h) ha' (Agree.refl ρ) (by rw [hm]; exact hH) (rel_v undef) (fun e => by cases e)
      exact vplan_sound hC hE h0 hg0 (h5.trans (hnt.trans hn)) (hk.trans k2) h2 h3 (.inr hall) (fun ρ' st' a' w' g1 g2 g3 g4 _ g6 => hQ ρ' st' a' w' g1 g2 g3 g4 (fun _ hl => by simp [PT.noLast] at hl) g6) h4
  | .fork i x y, K, KW, st, ρ, a, w, hn, hk, ha, hH, hS, hQ, h => by
    have hS := hS.resolve_right (by simp [PT.lastOnly])
    unfold vplan at h
    split at h
    rotate_left
    · exact h.elim
    rename_i o ho
    obtain ⟨h, hy⟩ := h
    refine ⟨⟨hS, ?_⟩, vplan_sound hC hE h0 hg0 hn hk ha hH (.inl hS) (fun ρ' st' a' w' g1 g2 g3 g4 g5 g6 => hQ ρ' st' a' w' g1 g2 g3 g4 (fun hs hl => g5 hs (by simp [PT.noLast] at hl; exact hl.2)) g6) hy⟩
    obtain ⟨st', ha', hm, hnt, ⟨hw, h⟩ | ⟨hw, h⟩⟩ := guardK_sound h ha
    · refine wpOp_mono ?_ (vdo_sound hC hE h0 hg0 hk hH hS ho ha' hm hw h)
      rintro a' w' ⟨hS2, ρ2, st2, k2, h2, h3, h4, h5⟩
      exact ⟨hS2, vplan_sound hC hE h0 hg0 (h5.trans (hnt.trans hn)) k2 h2 h3 (.inl hS2) (fun ρ' st' a' w' g1 g2 g3 g4 g5 g6 => hQ ρ' st' a' w' g1 g2 g3 g4 (fun _ hl => g5 hS2 (by simp [PT.noLast] at hl; exact hl.1)) g6) h4⟩
    · refine wpOp_skip ho hw ⟨hS, ?_⟩
      obtain ⟨ρ2, st2, k2, h2, h3, h4, h5, _⟩ := putK_sound (keep := false) (w := w) ((putS_eq _ _ _ _).mp h) ha' (Agree.refl ρ) (by rw [hm]; exact hH) (rel_v undef) (fun e => by cases e)
      exact vplan_sound hC hE h0 hg0 (h5.trans (hnt.trans hn)) (hk.trans k2) h2 h3 (.inl hS) (fun ρ' st' a' w' g1 g2 g3 g4 g5 g6 => hQ ρ' st' a' w' g1 g2 g3 g4 (fun _ hl => g5 hS (by simp [PT.noLast] at hl; exact hl.1)) g6) h4
  | .seq m L x y, K, KW, st, ρ, a, w, hn, hk, ha, hH, hS, hQ, h => by
    have hS := hS.resolve_right (by simp [PT.lastOnly])
    unfold vplan at h
    split at h
    rotate_left
    · exact h.elim
    rename_i hnl
    refine vplan_sound hC hE h0 hg0 (l := x) (K := fun s => forceSt s fun s => PSem C ops soft m0 y s K) (KW := fun a w => walkT C.P ops Q (fun w' => Same ρ0 (softM soft m0) w0 w') y KW a w) hn hk ha hH (.inl hS) ?_ h.go
    intro ρ' st' a' w' k1 k2 k3 k4 k5 k6
    refine (forceSt_spec (K := fun s => PSem C ops soft m0 y s K) k6).out hE h0 hg0 k4 k1 k2 k3 (k5 hS hnl) ?_
    exact fun ρ2 st2 a2 w2 g1 g2 g3 g4 g5 g6 => hQ ρ2 st2 a2 w2 g1 g2 g3 g4 (fun hs hl => g5 (by simp [PT.noLast] at hl; exact hl.2)) g6
theorem PSem.go {C : Seat} (hC : C.ok) {ops : Array Oper} {soft : Bool} {m0 : Mem} {y : PT} {st : St} {K : St → Prop} (h : vplan C ops soft m0 y st K) : PSem C ops soft m0 y st K :=
  ⟨fun hE _ _ _ _ h0 hg0 _ _ _ _ hn hk ha hH hS hQ => vplan_sound hC hE h0 hg0 hn hk ha hH (.inl hS) (fun ρ' st' a' w' g1 g2 g3 g4 g5 g6 => hQ ρ' st' a' w' g1 g2 g3 g4 (fun hl => g5 hS hl) g6) h⟩

structure PlanOK (P : Program) (ops : Array Oper) (plan : PT) : Prop where
  mixed : P.follows .mixedOrders = true
  len : ops.size = ops.size
  nosel : Region.noSelect ops = true
  ok : planOkT ops plan.lasts plan (endOk ops) ops.size [] (Array.replicate ops.size false) = true

/-- What stands behind a piece of code. -/
def CPost (E : Env) (nt : Nat) (K : Exit → St → Prop) : Exit → Act → World → Prop
  | .panic _, _, _ => False
  | .outgrown, _, _ => False
  | .goto _, _, _ => False
  | e, a, w => ∃ ρ st, ActOK ρ st a ∧ Holds E ρ st.mem w ∧ st.nt = nt ∧ K e st
structure OKs (P : Program) (c : Code) (st : St) (K : Exit → St → Prop) : Prop where
  out : ∀ E ρ a w, E.P = P → ActOK ρ st a → Holds E ρ st.mem w → c.wp P (CPost E st.nt K) a w

def knowC (st : St) (c : Operand) (b : Bool) : St := match c with
  | .tmp t => st.know t b
  | _ => st
/-- The same, under a name that a walk stops at (the kernel then never meets a half unfolded `vc`). -/
structure OKv (C : Seat) (pl : List (Nat × PT)) (c : Code) (st : St) (K : Exit → St → Prop) : Prop where
  ok : OKs C.P c st K
/-- What a piece of code leaves to show. -/
def vc (C : Seat) (pl : List (Nat × PT)) : Code → St → (Exit → St → Prop) → Prop
  | .skip, st, K => K .normal st
  | .seq x y, st, K => vc C pl x st fun e s => match e with
    | .normal => OKv C pl y s K
    | e => K e s
  | .cond c x y, st, K => match st.ev c with
    | .v (.bool b) => BB b (OKv C pl x (knowC st c true) K) (OKv C pl y (knowC st c false) K)
    | _ => OKs C.P (.cond c x y) st K
  | .block id b, st, K => vc C pl b st fun e s => match e with
    | .exit i => match Nat.beq i id with
      | true => K .normal s
      | false => K (.exit i) s
    | e => K e s
  | .exit id, st, K => K (.exit id) st
  | .ret, st, K => K .ret st
  | .region _ ops false, st, K => vseq C ops ops.toList st (K .normal)
  | .region id ops true, st, K => match assoc pl id with
    | some plan => PlanOK C.P ops plan ∧ vplan C ops (plan.soft ops) st.mem plan st (K .normal)
    | none => OKs C.P (.region id ops true) st K
  | .loop b, st, K => forceSt st fun st => OKs C.P (.loop b) st K
  | c, st, K => OKs C.P c st K

theorem knowC_ok {ρ : Plc} {st : St} {a : Act} (h : ActOK ρ st a) {c : Operand} {b : Bool} (hb : st.ev c = .v (.bool b)) : ActOK ρ (knowC st c b) a := by
  unfold knowC
  split
  · exact h.know hb
  · exact h
theorem knowC_mem (st : St) (c : Operand) (b : Bool) : (knowC st c b).mem = st.mem ∧ (knowC st c b).nt = st.nt := by
  unfold knowC
  split <;> exact ⟨rfl, rfl⟩

theorem vc_sound {C : Seat} (hC : C.ok) {pl : List (Nat × PT)} : ∀ {c : Code} {st : St} {K : Exit → St → Prop}, vc C pl c st K → OKs C.P c st K
  | .skip, st, K, h => ⟨fun E ρ a w _ ha hH => wp_skip ⟨ρ, st, ha, hH, rfl, h⟩⟩
  | .seq x y, st, K, h => by
    refine ⟨fun E ρ a w hE ha hH => wp_seq ?_⟩
    refine wp_mono ((vc_sound hC (c := x) h).out E ρ a w hE ha hH) ?_
    intro e a' w' hp
    cases e with
    | normal =>
      obtain ⟨ρ', st', h1, h2, h3, h4⟩ := hp
      have := h4.ok.out E ρ' a' w' hE h1 h2
      rw [h3] at this
      exact this
    | exit i => exact hp
    | ret => exact hp
    | goto l => exact hp
    | panic l => exact hp
    | outgrown => exact hp
  | .cond c x y, st, K, h => by
    unfold vc at h
    split at h
    · rename_i b hb
      refine ⟨fun E ρ a w hE ha hH => ?_⟩
      have hc := ha.ev hH.mem.glob c
      rw [hb] at hc
      unfold Rel at hc
      cases b with
      | true =>
        have := (h.t rfl).ok.out E ρ a w hE (knowC_ok ha hb) (by rw [(knowC_mem st c true).1]; exact hH)
        rw [(knowC_mem st c true).2] at this
        exact wp_cond hc this
      | false =>
        have := (h.f rfl).ok.out E ρ a w hE (knowC_ok ha hb) (by rw [(knowC_mem st c false).1]; exact hH)
        rw [(knowC_mem st c false).2] at this
        exact wp_cond hc this
    · exact h
  | .block id b, st, K, h => by
    refine ⟨fun E ρ a w hE ha hH => wp_block ?_⟩
    refine wp_mono ((vc_sound hC (c := b) h).out E ρ a w hE ha hH) ?_
    intro e a' w' hp
    cases e with
    | exit i =>
      obtain ⟨ρ', st', h1, h2, h3, h4⟩ := hp
      unfold Exit.inBlock
      simp only at h4 ⊢
      by_cases hi : i = id
      · subst hi
        rw [if_pos rfl]
        simp at h4
        exact ⟨ρ', st', h1, h2, h3, h4⟩
      · rw [if_neg hi]
        have : Nat.beq i id = false := by
          cases hb : Nat.beq i id
          · rfl
          · exact absurd (Nat.eq_of_beq_eq_true hb) hi
        rw [this] at h4
        exact ⟨ρ', st', h1, h2, h3, h4⟩
    | normal => exact hp
    | ret => exact hp
    | goto l => exact hp
    | panic l => exact hp
    | outgrown => exact hp
  | .exit id, st, K, h => ⟨fun E ρ a w _ ha hH => wp_exit ⟨ρ, st, ha, hH, rfl, h⟩⟩
  | .ret, st, K, h => ⟨fun E ρ a w _ ha hH => wp_ret ⟨ρ, st, ha, hH, rfl, h⟩⟩
  | .region id ops false, st, K, h => by
    refine ⟨fun E ρ a w hE ha hH => wp_region ?_⟩
    have hQ : RegPost E st.nt (K .normal) (CPost E st.nt K) := fun ρ s a w h1 h2 h3 h4 => ⟨ρ, s, h1, h2, h3, h4⟩
    refine vseq_sound hC hE hQ (l := ops.toList) ?_ rfl ha hH h
    apply List.ext_getElem?
    intro i
    by_cases hi : i < ops.size
    · simp [hi]
    · simp [hi]
  | .region id ops true, st, K, h => by
    unfold vc at h
    split at h
    · rename_i plan hpl
      obtain ⟨hp, h⟩ := h
      refine ⟨fun E ρ a w hE ha hH => ?_⟩
      have hQ : RegPost E st.nt (K .normal) (CPost E st.nt K) := fun ρ s a w h1 h2 h3 h4 => ⟨ρ, s, h1, h2, h3, h4⟩
      refine region_planT (fun w' => Same ρ (softM (plan.soft ops) st.mem) w.drew w') plan hp.mixed hp.nosel hp.ok (fun _ _ _ _ _ h => h) (Same.refl _ _ _) ?_
      exact vplan_sound hC hE hH.drew.mem hH.gl rfl (Agree.refl ρ) ha hH.drew (.inl (Same.refl _ _ _)) (fun ρ' st' a' w' _ g2 g3 g4 _ g6 => hQ ρ' st' a' w' g2 g3 g4 g6) h
    · exact h
  | .loop b, st, K, h => forceSt_spec (K := fun st => OKs C.P (.loop b) st K) h
  | .rangeFunc .., _, _, h => h
  | .scope _, _, _, h => h
  | .label _, _, _, h => h
  | .goto _, _, _, h => h
  | .refuse _, _, _, h => h
theorem OKv.go {C : Seat} (hC : C.ok) {pl : List (Nat × PT)} {c : Code} {st : St} {K : Exit → St → Prop} (h : vc C pl c st K) : OKv C pl c st K := ⟨vc_sound hC h⟩
end Go.Proofs.Ytcjcnlahieddoaa
