/- Regions and code. -/
import Derived.Test.YtkcdomafdjpbjaaZB
import Derived.Test.YtkcdomafdjpbjaaZN
namespace Go.Proofs.Ytkcdomafdjpbjaa
open Go.RowKit

def skipK (st : St) (o : Oper) (K : St → Prop) : Prop := putS st o.dst (.v undef) K
def St.know (st : St) (d : Nat) (b : Bool) : St := match st with
  | ⟨sl, nt, m⟩ => ⟨(d, .v (.bool b)) :: sl, nt, m⟩
theorem ActOK.know {ρ : Plc} {st : St} {a : Act} (h : ActOK ρ st a) {d : Nat} {b : Bool} (hb : st.get d = .v (.bool b)) : ActOK ρ (st.know d b) a where
  rel t := by
    by_cases e : d = t
    · subst e
      have := h.rel d
      rw [hb] at this
      unfold St.know St.get
      simp only [assoc_cons, if_true]
      exact this
    · have := h.rel t
      unfold St.get at this
      unfold St.know St.get
      simp only [assoc_cons, if_neg e]
      exact this
  size := h.size
  defers := h.defers
theorem St.ev_tmp {st : St} {d : Nat} {x : SV} (h : st.ev (.tmp d) = x) (hx : x ≠ .any) : d < st.nt ∧ st.get d = x := by
  unfold St.ev at h
  simp only at h
  split at h
  · rename_i ht; exact ⟨Nat.lt_of_succ_le (Nat.le_of_ble_eq_true ht), h⟩
  · exact (hx h.symm).elim

/-- What an operation's guard says. -/
def guardK (ops : Array Oper) (st : St) (o : Oper) (run skip : St → Prop) : Prop :=
  match o.guard with
  | none => run st
  | some (j, want) => match ops[j]? with
    | some oj => match oj.dst with
      | some d => match st.ev (.tmp d) with
        | .v (.bool b) => match want with
          | true => BB b (run (st.know d true)) (skip (st.know d false))
          | false => BB b (skip (st.know d true)) (run (st.know d false))
        | .v (.tuple _) => skip st
        | _ => False
      | none => False
    | none => False
theorem guardK_sound {ops : Array Oper} {st : St} {o : Oper} {run skip : St → Prop} (h : guardK ops st o run skip) {ρ : Plc} {a : Act} (ha : ActOK ρ st a) :
    ∃ st', ActOK ρ st' a ∧ st'.mem = st.mem ∧ st'.nt = st.nt ∧ ((Region.wanted o (yielded ops a.tmps) = true ∧ run st') ∨ (Region.wanted o (yielded ops a.tmps) = false ∧ skip st')) := by
  unfold guardK at h
  split at h
  · rename_i hg
    exact ⟨st, ha, rfl, rfl, .inl ⟨by simp [Region.wanted, hg], h⟩⟩
  · rename_i j want hg
    split at h
    rotate_left
    · exact h.elim
    rename_i oj hoj
    split at h
    rotate_left
    · exact h.elim
    rename_i d hd
    have hw : Region.wanted o (yielded ops a.tmps) = (yielded ops a.tmps j == some want) := by simp [Region.wanted, hg]
    split at h
    · rename_i b hb
      obtain ⟨hlt, hb⟩ := St.ev_tmp hb (by simp)
      have hr := ha.rel d
      unfold tmpAt at hr
      rw [hb, if_pos hlt] at hr
      unfold Rel at hr
      have hy : yielded ops a.tmps j = some b := by
        rw [Array.getD_eq_getD_getElem?] at hr
        cases hv : a.tmps[d]? with
        | none => rw [hv] at hr; cases hr
        | some v =>
          rw [hv] at hr
          simp at hr
          subst hr
          simp [yielded, hoj, hd, hv]
      rw [hy] at hw
      cases b <;> cases want <;> simp only at h
      · exact ⟨_, ha.know hb, rfl, rfl, .inl ⟨by simp [hw], h.f rfl⟩⟩
      · exact ⟨_, ha.know hb, rfl, rfl, .inr ⟨by simp [hw], h.f rfl⟩⟩
      · exact ⟨_, ha.know hb, rfl, rfl, .inr ⟨by simp [hw], h.t rfl⟩⟩
      · exact ⟨_, ha.know hb, rfl, rfl, .inl ⟨by simp [hw], h.t rfl⟩⟩
    · rename_i vs hb
      obtain ⟨hlt, hb⟩ := St.ev_tmp hb (by simp)
      have hr := ha.rel d
      unfold tmpAt at hr
      rw [hb, if_pos hlt] at hr
      unfold Rel at hr
      have hy : yielded ops a.tmps j = none := by
        rw [Array.getD_eq_getD_getElem?] at hr
        cases hv : a.tmps[d]? with
        | none => simp [yielded, hoj, hd, hv]
        | some v =>
          rw [hv] at hr
          simp at hr
          subst hr
          simp [yielded, hoj, hd, hv]
      rw [hy] at hw
      exact ⟨st, ha, rfl, rfl, .inr ⟨by simp [hw], h⟩⟩
    · exact h.elim

/-- Operations one behind the other. -/
def vseq (C : Seat) (ops : Array Oper) : List Oper → St → (St → Prop) → Prop
  | [], st, K => K st
  | o :: r, st, K => guardK ops st o (fun s => vop C false s o fun s' => vseq C ops r s' K) (fun s => skipK s o fun s' => vseq C ops r s' K)

/-- What stands behind a region. -/
def RegPost (E : Env) (nt : Nat) (K : St → Prop) (Q : Exit → Act → World → Prop) : Prop :=
  ∀ ρ st a w, ActOK ρ st a → Holds E ρ st.mem w → st.nt = nt → K st → Q .normal a w
theorem vseq_sound {C : Seat} (hC : C.ok) {E : Env} (hE : E.P = C.P) {ops : Array Oper} {Q : Exit → Act → World → Prop} {nt : Nat} {K : St → Prop} (hQ : RegPost E nt K Q) :
    ∀ {l : List Oper} {is : List Nat} {st : St} {ρ : Plc} {a : Act} {w : World}, is.map (ops[·]?) = l.map some → st.nt = nt → ActOK ρ st a → Holds E ρ st.mem w → vseq C ops l st K → wpOps C.P ops Q is a w
  | [], [], st, ρ, a, w, _, hn, ha, hH, h => hQ ρ st a w ha hH hn h
  | [], _ :: _, _, _, _, _, hl, _, _, _, _ => by simp at hl
  | _ :: _, [], _, _, _, _, hl, _, _, _, _ => by simp at hl
  | o :: l, i :: is, st, ρ, a, w, hl, hn, ha, hH, h => by
    simp only [List.map_cons, List.cons.injEq] at hl
    obtain ⟨hi, hl⟩ := hl
    unfold vseq at h
    unfold wpOps
    simp only [hi]
    obtain ⟨st', ha', hm, hnt, ⟨hw, h⟩ | ⟨hw, h⟩⟩ := guardK_sound h ha
    · rw [if_pos hw]
      refine .inl ?_
      refine Oper.wp_mono ?_ ((vop_sound hC h).out E ρ a w Q hE ha' (by rw [hm]; exact hH))
      rintro a2 w2 ⟨ρ2, st2, _, h2, h3, h4, h5, _⟩
      exact vseq_sound hC hE hQ hl (h5.trans (hnt.trans hn)) h2 h3 h4
    · rw [if_neg (by rw [hw]; simp)]
      obtain ⟨ρ2, st2, _, h2, h3, h4, h5, _⟩ := putK_sound (keep := false) (w := w) ((putS_eq st' o.dst (.v undef) _).mp h) ha' (Agree.refl ρ) (by rw [hm]; exact hH) (rel_v undef) (fun e => by cases e)
      exact vseq_sound hC hE hQ hl (h5.trans (hnt.trans hn)) h2 h3 h4

theorem BlksOK.agree {ρ ρ' : Plc} {m : Mem} {w : World} (h : MemOK ρ m w) (k : Agree ρ ρ') : BlksOK ρ' m w :=
  ⟨fun a b ha => by rw [k.eq a (h.has ha)]; exact (h.blk a b ha).agree k⟩
/-- The blocks that are known are as they were. -/
structure SameB (ρ : Plc) (m : Mem) (w w' : World) : Prop where
  size : w.heap.size ≤ w'.heap.size
  blk : ∀ a b, m.look a = some b → b.isLive → w'.heap[(ρ.at_ a).1]? = w.heap[(ρ.at_ a).1]?
theorem SameB.refl (ρ : Plc) (m : Mem) (w : World) : SameB ρ m w w := ⟨Nat.le_refl _, fun _ _ _ _ => rfl⟩
/-- .. and what stays, stays. -/
def S0 (ρ0 : Plc) (m : Mem) (w0 : World) (ρ : Plc) (w' : World) : Prop := SameB ρ0 m w0 w' ∧ ∀ b o v, ρ.z b o = some v → w'.cell? ⟨b, o, none⟩ = some v
theorem S0.le {ρ0 : Plc} {m : Mem} {w0 : World} {ρ ρ' : Plc} (h : ∀ b o v, ρ.z b o = some v → ρ'.z b o = some v) : ∀ w, S0 ρ0 m w0 ρ' w → S0 ρ0 m w0 ρ w := fun _ k => ⟨k.1, fun b o v e => k.2 b o v (h b o v e)⟩
theorem Holds.drew {E : Env} {ρ : Plc} {m : Mem} {w : World} (h : Holds E ρ m w) : Holds E ρ m w.drew :=
  ⟨⟨fun a b ha => BlkOK.same (w := w) (w' := w.drew) (Nat.le_refl _) (h.mem.blk a b ha) (fun _ => rfl), h.mem.sep, h.mem.glob, h.mem.nx, h.mem.fz, h.mem.sepz, h.mem.fq⟩, h.low, h.new, h.old, h.len, h.gl, h.os, h.tape, h.output, h.size, h.fr, h.rd, h.ql, h.zn, h.zk, h.gh⟩

theorem assoc_map {α β : Type} (f : α → β) (x : Nat) : ∀ l : List (Nat × α), assoc (l.map fun p => (p.1, f p.2)) x = (assoc l x).map f
  | [] => rfl
  | (k, v) :: l => by
    rw [List.map_cons, assoc_cons, assoc_cons, assoc_map f x l]
    split <;> rfl
/-- The operation is an append. -/
def isApp : Op → Bool
  | .call { callee := .builtin .append, .. } => true
  | .store .. => true
  | _ => false
/-- What may be read while rows are put to. -/
def softB : SB → SB
  | .row .. => .dead
  | b => b
def nmEq : Nm → Nm → Bool
  | .o a, .o b => Nat.beq a b
  | .n a, .n b => Nat.beq a b
  | .g a, .g b => Nat.beq a b
  | _, _ => false
theorem nmEq_self : ∀ a : Nm, nmEq a a = true
  | .o a => Nat.beq_refl a
  | .n a => Nat.beq_refl a
  | .g a => Nat.beq_refl a
def memN : List Nm → Nm → Bool
  | [], _ => false
  | b :: l, a => match nmEq b a with
    | true => true
    | false => memN l a
/-- .. and while these boxes are written. -/
def softX (x : Bool) (b : SB) : SB := match x, b with
  | _, .row .. => .dead
  | true, .box .. => .dead
  | _, b => b
def killL (mk : Nat → Nm) (D : List Nm) : Nat → List SB → List SB
  | _, [] => []
  | k, b :: l => softX (memN D (mk k)) b :: killL mk D (k + 1) l
def softM (soft : Option (List Nm)) (m : Mem) : Mem := match soft with
  | some D => ⟨m.glob.map fun p => (p.1, softB p.2), killL .o D 0 m.old, killL .n D 0 m.ext⟩
  | none => m
/-- The row that is put to was there when the region began. -/
def softOK (m0 : Mem) (x : SV) : Prop := match x with
  | .v (.slice none 0 0) => True
  | .s (.n b) _ _ _ cap => match m0.look (.n b) with
    | some (.row _ _ cap0 _) => cap0 = cap
    | _ => cap = 0
  | _ => False
def softK (m0 : Mem) (x : SV) (K : Prop) : Prop := match x with
  | .v (.slice none 0 0) => K
  | .s (.n b) _ _ _ cap => match m0.look (.n b) with
    | some (.row _ _ cap0 _) => cap0 = cap ∧ K
    | _ => cap = 0 ∧ K
  | _ => False
theorem softK_spec {m0 : Mem} {x : SV} {K : Prop} (h : softK m0 x K) : softOK m0 x ∧ K := by
  unfold softK at h
  unfold softOK
  split at h
  · exact ⟨trivial, h⟩
  · rename_i b sz e len cap
    split at h
    · exact h
    · exact h
  · exact h.elim
/-- An operation ahead of the last ones. -/
def storeOK (D : List Nm) (m0 : Mem) (a : Nm) : Bool := match a with
  | .n b => match Nat.ble m0.ext.length b with
    | true => true
    | false => memN D a
  | .g _ => false
  | a => memN D a
def vdo (C : Seat) (soft : Option (List Nm)) (m0 : Mem) (s : St) (o : Oper) (K : St → Prop) : Prop :=
  match soft, o.op with
  | some D, .call { callee := .builtin .append, args, argTypes } => match args.toList with
    | [x, y] => match s.ev x with
      | .s (.n b) sz e len cap => match Nat.ble m0.ext.length b, s.mem.look (.n b) with
        | true, some (.row _ _ cap2 _) => (storeOK D m0 (.n b) = true ∧ killL .o D 0 s.mem.old = killL .o D 0 m0.old ∧ killL .n D 0 (s.mem.ext.take m0.ext.length) = killL .n D 0 m0.ext) ∧ cap2 = cap ∧ appendK C.T s o.dst argTypes (.s (.n b) sz e len cap) (s.ev y) K False
        | _, _ => softK m0 (.s (.n b) sz e len cap) (appendK C.T s o.dst argTypes (.s (.n b) sz e len cap) (s.ev y) K False)
      | _ => softK m0 (s.ev x) (appendK C.T s o.dst argTypes (s.ev x) (s.ev y) K False)
    | _ => False
  | some D, .store t a x => match s.ev a, assoc C.T t with
    | .p b e sz f, some i => match s.mem.look b with
      | some (.box _ _) => (storeOK D m0 b = true ∧ killL .o D 0 s.mem.old = killL .o D 0 m0.old ∧ killL .n D 0 (s.mem.ext.take m0.ext.length) = killL .n D 0 m0.ext) ∧ storeK s i b e sz f (s.ev x) (fun s' => putM s' o.dst (.v undef) s'.mem K) False
      | _ => False
    | _, _ => False
  | some D, .convert src dst x => match Nat.beq src dst, s.ev x with
    | true, .s (.n b) sz e n c => (storeOK D m0 (.n b) = true ∧ killL .o D 0 s.mem.old = killL .o D 0 m0.old ∧ killL .n D 0 (s.mem.ext.take m0.ext.length) = killL .n D 0 m0.ext) ∧ markK C.T s o.dst src (.s (.n b) sz e n c) K False
    | _, _ => vop C true s o K
  | none, .convert src dst x => match Nat.beq src dst, s.ev x with
    | true, .s (.n b) sz e n c => (Nat.ble m0.ext.length b = true ∧ s.mem.old = m0.old ∧ s.mem.ext.take m0.ext.length = m0.ext) ∧ markK C.T s o.dst src (.s (.n b) sz e n c) K False
    | _, _ => vop C true s o K
  | _, _ => vop C true s o K
/-- Whichever comes first. -/
structure Both (A B : Prop) : Prop where
  l : A
  r : B
def forceSlots : List (Nat × SV) → (List (Nat × SV) → Prop) → Prop
  | [], K => K []
  | (t, x) :: l, K => forceSV x fun x => forceSlots l fun l => K ((t, x) :: l)
theorem forceSlots_spec : ∀ {l : List (Nat × SV)} {K : List (Nat × SV) → Prop}, forceSlots l K → K l
  | [], _, h => h
  | (t, x) :: l, K, h => by
    unfold forceSlots at h
    exact forceSlots_spec (l := l) (K := fun l => K ((t, x) :: l)) (forceSV_spec (K := fun x => forceSlots l fun l => K ((t, x) :: l)) h)
def forceSt (s : St) (K : St → Prop) : Prop := forceSlots s.slots fun l => forceM s.mem fun m => forceNat s.nt fun n => K ⟨l, n, m⟩
theorem forceSt_spec {s : St} {K : St → Prop} (h : forceSt s K) : K s :=
  forceNat_spec (K := fun n => K ⟨s.slots, n, s.mem⟩) (forceM_spec (K := fun m => forceNat s.nt fun n => K ⟨s.slots, n, m⟩) (forceSlots_spec (K := fun l => forceM s.mem fun m => forceNat s.nt fun n => K ⟨l, n, m⟩) h))
/-- A plan's rest, from what is known of a call on. -/
structure PSem (C : Seat) (ops : Array Oper) (soft : Option (List Nm)) (m0 : Mem) (y : PT) (st : St) (K : St → Prop) : Prop where
  out : ∀ {E : Env} (_ : E.P = C.P) {Q : Exit → Act → World → Prop} {nt : Nat} {ρ0 : Plc} {w0 : World} (_ : MemOK ρ0 m0 w0) (_ : m0.glob = E.gl) {KW : (World → Prop) → Act → World → Prop} {ρ : Plc} {a : Act} {w : World}, st.nt = nt → Agree ρ0 ρ → ActOK ρ st a → Holds E ρ st.mem w →
    S0 ρ0 (softM soft m0) w0 ρ w →
    (∀ ρ' st' a' w', Agree ρ0 ρ' → (∀ b o v, ρ.z b o = some v → ρ'.z b o = some v) → ActOK ρ' st' a' → Holds E ρ' st'.mem w' → st'.nt = nt → (y.noLast = true → S0 ρ0 (softM soft m0) w0 ρ' w') → K st' → KW (S0 ρ0 (softM soft m0) w0 ρ') a' w') →
    walkZ C.P ops Q y (S0 ρ0 (softM soft m0) w0 ρ) KW a w
/-- All orders of some operations, and then the rest. -/
structure VS (F : (St → Prop) → Prop) (J : St → Prop) : Prop where
  go : F J
theorem VS.cut {F : (St → Prop) → Prop} {J : St → Prop} {α : Type} (S : α → St) (Inv : α → Prop) (h2 : ∀ x, Inv x → J (S x)) (h1 : (∀ x, Inv x → J (S x)) → F J) : VS F J := ⟨h1 h2⟩
def PT.lastOnly : PT → Bool
  | .nil => true
  | .op _ .last r => r.lastOnly
  | _ => false
def PT.soft (ops : Array Oper) : PT → Bool
  | .nil => false
  | .op i .do_ r => (match ops[i]? with
    | some o => isApp o.op
    | none => false) || r.soft ops
  | .op _ _ r => r.soft ops
  | .fork i x y => (match ops[i]? with
    | some o => isApp o.op
    | none => false) || x.soft ops || y.soft ops
  | .seq _ _ x y => x.soft ops || y.soft ops
def rootOp (ops : List Oper) : Nat → Operand → Operand
  | 0, x => x
  | n + 1, .tmp t => match ops.find? (fun o => match o.dst, o.op with
      | some d, .fieldAddr .. => Nat.beq d t
      | _, _ => false) with
    | some o => match o.op with
      | .fieldAddr _ x _ => rootOp ops n x
      | _ => .tmp t
    | none => .tmp t
  | _, x => x
def storeTo (ops : Array Oper) (i : Nat) (l : List Operand) : List Operand := match ops[i]? with
  | some o => match o.op with
    | .store _ a _ => rootOp ops.toList 4 a :: l
    | _ => l
  | none => l
def PT.stores (ops : Array Oper) : PT → List Operand
  | .nil => []
  | .op i .do_ r => storeTo ops i (r.stores ops)
  | .op _ _ r => r.stores ops
  | .fork i x y => storeTo ops i (x.stores ops ++ y.stores ops)
  | .seq _ _ x y => x.stores ops ++ y.stores ops
def roots (st : St) : List Operand → List Nm
  | [] => []
  | x :: l => match st.ev x with
    | .p a _ _ _ => a :: roots st l
    | _ => roots st l
/-- The boxes that are written ahead of the last operations. -/
def PT.softD (ops : Array Oper) (plan : PT) (st : St) : Option (List Nm) := match plan.soft ops with
  | true => some (roots st (plan.stores ops))
  | false => none
def forceNs : List Nm → (List Nm → Prop) → Prop
  | [], K => K []
  | a :: l, K => forceN a fun a => forceNs l fun l => K (a :: l)
theorem forceNs_spec : ∀ {l : List Nm} {K : List Nm → Prop}, forceNs l K → K l
  | [], _, h => h
  | a :: l, K, h => by
    unfold forceNs at h
    exact forceNs_spec (l := l) (K := fun l => K (a :: l)) (forceN_spec (K := fun a => forceNs l fun l => K (a :: l)) h)
def forceD (D : Option (List Nm)) (K : Option (List Nm) → Prop) : Prop := match D with
  | none => K none
  | some l => forceNs l fun l => K (some l)
theorem forceD_spec {D : Option (List Nm)} {K : Option (List Nm) → Prop} (h : forceD D K) : K D := by
  cases D with
  | none => exact h
  | some l => exact forceNs_spec (K := fun l => K (some l)) h
/-- Operations of a region that draws its order, by a plan; behind the first of the last ones nothing is taken by what stood ahead. -/
def vplan (C : Seat) (ops : Array Oper) (soft : Option (List Nm)) (m0 : Mem) : PT → St → (St → Prop) → Prop
  | .nil, st, K => K st
  | .op i .take r, st, K => match ops[i]? with
    | some o => guardK ops st o (fun s => pureOp C (softM soft m0) s.ev o.op (fun sv => putS s o.dst sv fun s' => vplan C ops soft m0 r s' K) False) (fun s => skipK s o fun s' => vplan C ops soft m0 r s' K)
    | none => False
  | .op i .do_ r, st, K => match ops[i]? with
    | some o => guardK ops st o (fun s => vdo C soft m0 s o fun s' => vplan C ops soft m0 r s' K) (fun s => skipK s o fun s' => vplan C ops soft m0 r s' K)
    | none => False
  | .op i .last r, st, K => match ops[i]?, r.lastOnly with
    | some o, true => guardK ops st o (fun s => vop C false s o fun s' => vplan C ops soft m0 r s' K) (fun s => skipK s o fun s' => vplan C ops soft m0 r s' K)
    | _, _ => False
  | .fork i x y, st, K => match ops[i]? with
    | some o => Both (guardK ops st o (fun s => vdo C soft m0 s o fun s' => vplan C ops soft m0 x s' K) (fun s => skipK s o fun s' => vplan C ops soft m0 x s' K)) (vplan C ops soft m0 y st K)
    | none => False
  | .seq _ _ x y, st, K => match x.noLast with
    | true => VS (vplan C ops soft m0 x st) (fun s => forceSt s fun s => PSem C ops soft m0 y s K)
    | false => False

theorem softX_spec {x : Bool} {c b : SB} (h : softX x c = b) : b = .dead ∨ (c = b ∧ (∀ t sz cap els, b ≠ .row t sz cap els) ∧ (x = true → ∀ t cells, b ≠ .box t cells)) := by
  subst h
  cases x <;> cases c <;> simp [softX]
theorem killL_get {mk : Nat → Nm} {D : List Nm} : ∀ {l : List SB} {k i : Nat} {b : SB}, (killL mk D k l)[i]? = some b → ∃ c, l[i]? = some c ∧ softX (memN D (mk (k + i))) c = b
  | [], k, i, b, h => by simp [killL] at h
  | c :: l, k, i, b, h => by
    unfold killL at h
    cases i with
    | zero => simp at h; exact ⟨c, rfl, h⟩
    | succ i =>
      obtain ⟨c', h1, h2⟩ := killL_get (l := l) (k := k + 1) (i := i) (b := b) (by simpa using h)
      exact ⟨c', by simpa using h1, by rw [← h2]; congr 3; omega⟩
theorem softM_look {soft : Option (List Nm)} {m : Mem} {a : Nm} {b : SB} (h : (softM soft m).look a = some b) : b = .dead ∨ (m.look a = some b ∧ (∀ D, soft = some D → (∀ t sz cap els, b ≠ .row t sz cap els) ∧ ((∀ x, a ≠ .g x) → memN D a = true → ∀ t cells, b ≠ .box t cells))) := by
  cases soft with
  | none => exact .inr ⟨h, fun _ e => by cases e⟩
  | some D =>
    cases a with
    | o k =>
      obtain ⟨c, h1, h2⟩ := killL_get (k := 0) (show (killL .o D 0 m.old)[k]? = some b from h)
      rw [Nat.zero_add] at h2
      rcases softX_spec h2 with h3 | ⟨rfl, h4, h5⟩
      · exact .inl h3
      · exact .inr ⟨h1, fun D' e => by cases e; exact ⟨h4, fun _ => h5⟩⟩
    | n k =>
      obtain ⟨c, h1, h2⟩ := killL_get (k := 0) (show (killL .n D 0 m.ext)[k]? = some b from h)
      rw [Nat.zero_add] at h2
      rcases softX_spec h2 with h3 | ⟨rfl, h4, h5⟩
      · exact .inl h3
      · exact .inr ⟨h1, fun D' e => by cases e; exact ⟨h4, fun _ => h5⟩⟩
    | g x =>
      have hg : assoc (m.glob.map fun p => (p.1, softB p.2)) x = some b := h
      rw [assoc_map, Option.map_eq_some_iff] at hg
      obtain ⟨c, h1, rfl⟩ := hg
      cases c with
      | row t sz cap els => exact .inl rfl
      | dead => exact .inl rfl
      | ro sz els => exact .inr ⟨h1, fun _ _ => ⟨fun _ _ _ _ => by simp [softB], fun h => (h x rfl).elim⟩⟩
      | box t cells => exact .inr ⟨h1, fun _ _ => ⟨fun _ _ _ _ => by simp [softB], fun h => (h x rfl).elim⟩⟩
      | cst t cells => exact .inr ⟨h1, fun _ _ => ⟨fun _ _ _ _ => by simp [softB], fun h => (h x rfl).elim⟩⟩
theorem softM_blks {soft : Option (List Nm)} {ρ : Plc} {m : Mem} {w : World} (h : BlksOK ρ m w) : BlksOK ρ (softM soft m) w :=
  ⟨fun a b ha => by
    rcases softM_look ha with rfl | ⟨h1, _⟩
    · trivial
    · exact h.blk a b h1⟩
theorem S0.same {soft : Option (List Nm)} {ρ ρ' : Plc} {m : Mem} {w0 w' : World} (hm : MemOK ρ m w0) (k : Agree ρ ρ') (h : S0 ρ (softM soft m) w0 ρ' w') : Same ρ' (softM soft m) w0 w' :=
  ⟨h.1.size, fun a b ha hl => by
    rcases softM_look ha with rfl | ⟨h1, _⟩
    · exact hl.elim
    · rw [k.eq a (hm.has h1)]; exact h.1.blk a b ha hl, h.2⟩
theorem SameB.kept {soft : Option (List Nm)} {ρ : Plc} {m : Mem} {w0 w w' : World} (hm : MemOK ρ m w0) (h : SameB ρ (softM soft m) w0 w) (k : Kept w w') : SameB ρ (softM soft m) w0 w' :=
  ⟨Nat.le_trans h.size k.size, fun a b ha hl => by
    refine (k.blk _ ?_).trans (h.blk a b ha hl)
    exact Nat.lt_of_lt_of_le (BlkOK.lt ((softM_blks hm.blks).blk a b ha) hl) h.size⟩
theorem SameB.store {soft : Option (List Nm)} {ρ ρ' : Plc} {m m' : Mem} {w0 w w' : World} (hm : MemOK ρ m w0) (ka : Agree ρ ρ') (hm' : MemOK ρ' m' w) {b : Nat} {B0 : SB} (hb : m'.look (.n b) = some B0) (hO : B0.isOwn) (hbm : m.ext.length ≤ b) (ho : m'.old = m.old) (hx : m'.ext.take m.ext.length = m.ext) (hg : m'.glob = m.glob)
    (h : SameB ρ (softM soft m) w0 w) (k : w.heap.size ≤ w'.heap.size ∧ ∀ n, n ≠ (ρ'.at_ (.n b)).1 → w'.heap[n]? = w.heap[n]?) : SameB ρ (softM soft m) w0 w' :=
  ⟨Nat.le_trans h.size k.1, fun a B ha hl => by
    rcases softM_look ha with rfl | ⟨h1, _⟩
    · exact hl.elim
    · have hl' : m'.look a = some B := by
        cases a with
        | o i => show m'.old[i]? = _; rw [ho]; exact h1
        | g x => show assoc m'.glob x = _; rw [hg]; exact h1
        | n i =>
          have hi : i < m.ext.length := getElem?_lt (show m.ext[i]? = some B from h1)
          have : (m'.ext.take m.ext.length)[i]? = some B := by rw [hx]; exact h1
          rw [List.getElem?_take, if_pos hi] at this
          exact this
      have hne : (.n b : Nm) ≠ a := by
        rintro rfl
        have : b < m.ext.length := getElem?_lt (show m.ext[b]? = some B from h1)
        omega
      rw [k.2 _ ?_, h.blk a B ha hl]
      rw [← ka.eq a (hm.has h1)]
      exact (hm'.sep _ _ _ _ hb hl' hO hl hne).symm⟩
theorem SameB.storeD {D : List Nm} {ρ ρ' : Plc} {m m' : Mem} {w0 w w' : World} (hm : MemOK ρ m w0) (ka : Agree ρ ρ') (hm' : MemOK ρ' m' w) {b : Nm} {B0 : SB} (hb : m'.look b = some B0) (hO : B0.isOwn) (hbm : storeOK D m b = true) (ho : killL .o D 0 m'.old = killL .o D 0 m.old) (hx : killL .n D 0 (m'.ext.take m.ext.length) = killL .n D 0 m.ext) (hg : m'.glob = m.glob)
    (h : SameB ρ (softM (some D) m) w0 w) (k : w.heap.size ≤ w'.heap.size ∧ ∀ n, n < w.heap.size → n ≠ (ρ'.at_ b).1 → w'.heap[n]? = w.heap[n]?) : SameB ρ (softM (some D) m) w0 w' :=
  ⟨Nat.le_trans h.size k.1, fun a B ha hl => by
    rcases softM_look ha with rfl | ⟨h1, h2⟩
    · exact hl.elim
    · have hl' : m'.look a = some B := by
        cases a with
        | o i =>
          have ha2 : (killL .o D 0 m'.old)[i]? = some B := by rw [ho]; exact ha
          obtain ⟨c, k1, k2⟩ := killL_get ha2
          rcases softX_spec k2 with rfl | ⟨rfl, _⟩
          · exact hl.elim
          · exact k1
        | g x => show assoc m'.glob x = _; rw [hg]; exact h1
        | n i =>
          have ha2 : (killL .n D 0 (m'.ext.take m.ext.length))[i]? = some B := by rw [hx]; exact ha
          obtain ⟨c, k1, k2⟩ := killL_get ha2
          have hi : i < m.ext.length := getElem?_lt (show m.ext[i]? = some B from h1)
          rw [List.getElem?_take, if_pos hi] at k1
          rcases softX_spec k2 with rfl | ⟨rfl, _⟩
          · exact hl.elim
          · exact k1
      have hne : b ≠ a := by
        rintro rfl
        rw [hb] at hl'
        cases hl'
        have hnew : ∀ i, b = .n i → m.ext.length ≤ i → False := fun i e hi => by
          subst e
          have : i < m.ext.length := getElem?_lt (show m.ext[i]? = some _ from h1)
          omega
        cases B0 with
        | dead => exact hO
        | ro _ _ => exact hO
        | cst _ _ => exact hO
        | row t sz cap els => exact (h2 D rfl).1 _ _ _ _ rfl
        | box t cells =>
          unfold storeOK at hbm
          split at hbm
          · rename_i i
            split at hbm
            · rename_i hle
              exact hnew i rfl (Nat.le_of_ble_eq_true hle)
            · exact (h2 D rfl).2 (by simp) hbm _ _ rfl
          · cases hbm
          · rename_i hn1 hn2
            exact (h2 D rfl).2 hn2 hbm _ _ rfl
      rw [k.2 _ (Nat.lt_of_lt_of_le (BlkOK.lt ((softM_blks hm.blks).blk a B ha) hl) h.size) ?_, h.blk a B ha hl]
      rw [← ka.eq a (hm.has h1)]
      exact (hm'.sep _ _ _ _ hb hl' hO hl hne).symm⟩
theorem SameB.app {D : List Nm} {ρ ρ' : Plc} {m : Mem} {w0 w w' : World} (hm : MemOK ρ m w0) (ka : Agree ρ ρ') {x : SV} (hx : softOK m x) (h : SameB ρ (softM (some D) m) w0 w) (k : AppKept ρ' x w w') : SameB ρ (softM (some D) m) w0 w' :=
  ⟨Nat.le_trans h.size k.size, fun a b ha hl => by
    refine (k.blk _ ?_ ?_).trans (h.blk a b ha hl)
    · exact Nat.lt_of_lt_of_le (BlkOK.lt ((softM_blks hm.blks).blk a b ha) hl) h.size
    · rintro b' sz e len cap rfl hc
      unfold softOK at hx
      simp only at hx
      split at hx
      · rename_i t2 sz2 cap0 els hb'
        subst hx
        rcases softM_look ha with rfl | ⟨h1, h2⟩
        · exact hl.elim
        · rw [ka.eq _ (hm.has hb')]
          refine (hm.sep _ _ _ _ hb' h1 hc hl ?_).symm
          rintro rfl
          rw [hb'] at h1
          cases h1
          exact (h2 D rfl).1 _ _ _ _ rfl
      · exact (hc hx).elim⟩

theorem wpOp_run {P : Program} {ops : Array Oper} {Q : Exit → Act → World → Prop} {K : Act → World → Prop} {i : Nat} {o : Oper} {a : Act} {w : World} (ho : ops[i]? = some o) (hw : Region.wanted o (yielded ops a.tmps) = true) (h : o.wp P a w K Q) : wpOp P ops Q i K a w := by
  unfold wpOp
  simp only [ho, hw, if_true]
  exact .inl h
theorem wpOp_skip {P : Program} {ops : Array Oper} {Q : Exit → Act → World → Prop} {K : Act → World → Prop} {i : Nat} {o : Oper} {a : Act} {w : World} (ho : ops[i]? = some o) (hw : Region.wanted o (yielded ops a.tmps) = false) (h : K (a.put o.dst undef) w) : wpOp P ops Q i K a w := by
  unfold wpOp
  simp only [ho, hw, Bool.false_eq_true, if_false]
  exact h
theorem PT.noTake_of {r : PT} : r.lastOnly = true → r.noTake = true := by
  induction r with
  | nil => intro _; rfl
  | op i q r ih => cases q <;> simp [PT.lastOnly, PT.noTake]; exact ih
  | fork i x y _ _ => simp [PT.lastOnly]
  | seq m L x y _ _ => simp [PT.lastOnly]

theorem vdo_sound {C : Seat} (hC : C.ok) {E : Env} (hE : E.P = C.P) {ops : Array Oper} {Q : Exit → Act → World → Prop} {K : St → Prop} {soft : Option (List Nm)} {ρ0 : Plc} {m0 : Mem} {w0 : World} (h0 : MemOK ρ0 m0 w0) (hg0 : m0.glob = E.gl) {st : St} {ρ : Plc} {a : Act} {w : World} (hk : Agree ρ0 ρ) (hH : Holds E ρ st.mem w)
    (hS : SameB ρ0 (softM soft m0) w0 w) {i : Nat} {o : Oper} (ho : ops[i]? = some o) {st' : St} (ha' : ActOK ρ st' a) (hm : st'.mem = st.mem) (hw : Region.wanted o (yielded ops a.tmps) = true) (h : vdo C soft m0 st' o K) :
    wpOp C.P ops Q i (fun a' w' => ∃ ρ2 st2, S0 ρ0 (softM soft m0) w0 ρ2 w' ∧ Agree ρ ρ2 ∧ ActOK ρ2 st2 a' ∧ Holds E ρ2 st2.mem w' ∧ K st2 ∧ st2.nt = st'.nt) a w := by
  refine wpOp_run ho hw ?_
  unfold vdo at h
  split at h
  · rename_i D args argTypes hop
    obtain ⟨od, oo, oty, opos, oaf, ogd⟩ := o
    simp only at hop
    subst hop
    split at h
    rotate_left
    · exact h.elim
    rename_i x y hargs
    have key : (softOK m0 (st'.ev x) ∨ ∃ b B0, (∃ sz e len cap, st'.ev x = .s (.n b) sz e len cap) ∧ st'.mem.look (.n b) = some B0 ∧ B0.isOwn ∧ storeOK D m0 (.n b) = true ∧ killL .o D 0 st'.mem.old = killL .o D 0 m0.old ∧ killL .n D 0 (st'.mem.ext.take m0.ext.length) = killL .n D 0 m0.ext) ∧ appendK C.T st' od argTypes (st'.ev x) (st'.ev y) K False := by
      split at h
      · rename_i b sz e len cap ex
        rw [ex]
        split at h
        · rename_i t2 sz2 cap2 els hble hlk
          obtain ⟨h1, rfl, h⟩ := h
          by_cases hc : cap2 = 0
          · refine ⟨.inl ?_, h⟩
            have hno : m0.look (.n b) = none := List.getElem?_eq_none (Nat.le_of_ble_eq_true hble)
            unfold softOK
            simp only [hno]
            exact hc
          · exact ⟨.inr ⟨b, _, ⟨_, _, _, _, rfl⟩, hlk, hc, h1.1, h1.2.1, h1.2.2⟩, h⟩
        · obtain ⟨h1, h2⟩ := softK_spec h
          exact ⟨.inl h1, h2⟩
      · obtain ⟨h1, h2⟩ := softK_spec h
        exact ⟨.inl h1, h2⟩
    obtain ⟨hsoft, h⟩ := key
    have ha2 : args.map a.eval = #[a.eval x, a.eval y] := Array.ext' (by simp [hargs])
    rcases appendK_sound hC hE ha' (by rw [hm]; exact hH) (ty := oty) (ha'.ev hH.mem.glob x) (ha'.ev hH.mem.glob y) h with h | ⟨r', w', hrun, hpost, hkept⟩
    · exact h.elim
    rw [hE] at hrun
    unfold Oper.wp
    have : (execOp a.eval ⟨od, .call { callee := .builtin .append, args, argTypes }, oty, opos, oaf, ogd⟩).run C.P w = .ok (.value r') w' := by
      simp only [execOp, resolve, Sem.run_bind, Sem.run_pure, Result.andThen_ok, invoke, builtin, ha2, hrun]
    rw [this]
    obtain ⟨ρ2, st2, k2, h2, h3, h4, h5, h6⟩ := hpost
    rcases hsoft with hsoft | ⟨b, B0, ⟨sz, e, len, cap, ex⟩, hB0, hO0, hb1, hb2, hb3⟩
    · exact ⟨ρ2, st2, ⟨hS.app h0 hk hsoft hkept, h3.mem.fz⟩, k2, h2, h3, h4, h5⟩
    · rw [hm] at hB0 hb2 hb3
      refine ⟨ρ2, st2, ⟨hS.storeD h0 hk hH.mem hB0 hO0 hb1 hb2 hb3 (hH.gl.trans hg0.symm) ⟨hkept.size, fun n hn hne => hkept.blk n hn (fun b' sz' e' len' cap' hx' _ => ?_)⟩, h3.mem.fz⟩, k2, h2, h3, h4, h5⟩
      rw [ex] at hx'
      cases hx'
      exact hne
  · rename_i D t ad x hop
    obtain ⟨od, oo, oty, opos, oaf, ogd⟩ := o
    simp only at hop
    subst hop
    split at h
    rotate_left
    · exact h.elim
    rename_i b e sz f i ea hi
    split at h
    rotate_left
    · exact h.elim
    rename_i bt cells hbox
    obtain ⟨⟨hb1, hb2, hb3⟩, h⟩ := h
    have hx := ha'.ev hH.mem.glob ad
    rw [ea] at hx
    unfold Rel at hx
    obtain ⟨hx, _⟩ := hx
    rcases storeK_sound hC hE ha' (by rw [hm]; exact hH) hi (ha'.ev hH.mem.glob x) h with h | ⟨w', hrun, hkeep, ρ1, m', hk1, hH', h⟩
    · exact h.elim
    rw [hE] at hrun
    unfold Oper.wp
    have : (execOp a.eval ⟨od, .store t ad x, oty, opos, oaf, ogd⟩).run C.P w = .ok .skip w' := by
      simp only [execOp, Instr.storeAt, hx, Instr.sureAddr, Sem.run_bind, Sem.run_pure, Result.andThen_ok, hrun]
    rw [this]
    obtain ⟨ρ2, st2, k2, h2, h3, h4, h5, _⟩ := putM_sound (keep := false) (ρ := ρ) (w := w) (st := { st' with mem := m' }) h (ha'.mem m') hk1 hH' (rel_v undef) (fun e => by cases e)
    rw [hm] at hbox hb2 hb3
    exact ⟨ρ2, st2, ⟨hS.storeD h0 hk hH.mem hbox trivial hb1 hb2 hb3 (hH.gl.trans hg0.symm) ⟨hkeep.1, fun n _ => hkeep.2 n⟩, h3.mem.fz⟩, k2, h2, h3, h4, h5⟩
  · rename_i D src dst x hop
    obtain ⟨od, oo, oty, opos, oaf, ogd⟩ := o
    simp only at hop
    subst hop
    split at h
    · rename_i b sz e n c hbeq hev
      obtain rfl := Nat.eq_of_beq_eq_true hbeq
      obtain ⟨⟨hb1, hb2, hb3⟩, h⟩ := h
      have hv := ha'.ev hH.mem.glob x
      rw [hev] at hv
      rcases markK_sound hC hE ha' (by rw [hm]; exact hH) hv h with h | ⟨u, w', hrun, hkeep, ⟨B0, hB0, hO0⟩, m', hH', hr', h⟩
      · exact h.elim
      rw [hE] at hrun
      unfold Oper.wp
      have : (execOp a.eval ⟨od, .convert src src x, oty, opos, oaf, ogd⟩).run C.P w = .ok (.value u) w' := by
        simp only [execOp, Sem.run_bind, hrun, Result.andThen_ok, Sem.run_pure]
      rw [this]
      obtain ⟨ρ2, st2, k2, h2, h3, h4, h5, _⟩ := putM_sound (keep := false) (ρ := ρ) (w := w) (st := { st' with mem := m' }) h (ha'.mem m') (Agree.refl ρ) hH' hr' (fun e => by cases e)
      rw [hm] at hB0 hb2 hb3
      exact ⟨ρ2, st2, ⟨hS.storeD h0 hk hH.mem hB0 hO0 hb1 hb2 hb3 (hH.gl.trans hg0.symm) ⟨hkeep.1, fun n _ => hkeep.2 n⟩, h3.mem.fz⟩, k2, h2, h3, h4, h5⟩
    · refine Oper.wp_mono ?_ ((vop_sound hC h).out E ρ a w Q hE ha' (by rw [hm]; exact hH))
      rintro a2 w2 ⟨ρ2, st2, k2, h2, h3, h4, h5, h6⟩
      exact ⟨ρ2, st2, ⟨hS.kept h0 (h6 rfl), h3.mem.fz⟩, k2, h2, h3, h4, h5⟩
  · rename_i src dst x hop
    obtain ⟨od, oo, oty, opos, oaf, ogd⟩ := o
    simp only at hop
    subst hop
    split at h
    · rename_i b sz e n c hbeq hev
      obtain rfl := Nat.eq_of_beq_eq_true hbeq
      obtain ⟨⟨hb1, hb2, hb3⟩, h⟩ := h
      have hv := ha'.ev hH.mem.glob x
      rw [hev] at hv
      rcases markK_sound hC hE ha' (by rw [hm]; exact hH) hv h with h | ⟨u, w', hrun, hkeep, ⟨B0, hB0, hO0⟩, m', hH', hr', h⟩
      · exact h.elim
      rw [hE] at hrun
      unfold Oper.wp
      have : (execOp a.eval ⟨od, .convert src src x, oty, opos, oaf, ogd⟩).run C.P w = .ok (.value u) w' := by
        simp only [execOp, Sem.run_bind, hrun, Result.andThen_ok, Sem.run_pure]
      rw [this]
      obtain ⟨ρ2, st2, k2, h2, h3, h4, h5, _⟩ := putM_sound (keep := false) (ρ := ρ) (w := w) (st := { st' with mem := m' }) h (ha'.mem m') (Agree.refl ρ) hH' hr' (fun e => by cases e)
      rw [hm] at hB0 hb2 hb3
      exact ⟨ρ2, st2, ⟨hS.store h0 hk hH.mem hB0 hO0 (Nat.le_of_ble_eq_true hb1) hb2 hb3 (hH.gl.trans hg0.symm) hkeep, h3.mem.fz⟩, k2, h2, h3, h4, h5⟩
    · refine Oper.wp_mono ?_ ((vop_sound hC h).out E ρ a w Q hE ha' (by rw [hm]; exact hH))
      rintro a2 w2 ⟨ρ2, st2, k2, h2, h3, h4, h5, h6⟩
      exact ⟨ρ2, st2, ⟨hS.kept h0 (h6 rfl), h3.mem.fz⟩, k2, h2, h3, h4, h5⟩
  · refine Oper.wp_mono ?_ ((vop_sound hC h).out E ρ a w Q hE ha' (by rw [hm]; exact hH))
    rintro a2 w2 ⟨ρ2, st2, k2, h2, h3, h4, h5, h6⟩
    exact ⟨ρ2, st2, ⟨hS.kept h0 (h6 rfl), h3.mem.fz⟩, k2, h2, h3, h4, h5⟩

/-- What is put leaves all as it lies. -/
theorem putK_same {ρ : Plc} {st : St} {a : Act} {dst : Option Nat} {x : SV} {u : Value} {K : St → Prop} (h : putS st dst x K) (ha : ActOK ρ st a) (hx : Rel ρ x u) : ∃ st2, ActOK ρ st2 (a.put dst u) ∧ st2.mem = st.mem ∧ K st2 ∧ st2.nt = st.nt := by
  rw [putS_eq, putK_eq] at h
  split at h
  · rename_i d
    split at h
    · rename_i hd
      have hd : d < st.nt := Nat.lt_of_succ_le (Nat.le_of_ble_eq_true hd)
      exact ⟨_, (ha.put hd hx).mem st.mem, rfl, forceSV_spec (K := fun x => K { slots := (d, x) :: st.slots, nt := st.nt, mem := st.mem }) h, rfl⟩
    · exact h.elim
  · exact ⟨_, ha.mem st.mem, rfl, h, rfl⟩
theorem vplan_sound {C : Seat} (hC : C.ok) {E : Env} (hE : E.P = C.P) {ops : Array Oper} {Q : Exit → Act → World → Prop} {nt : Nat} {soft : Option (List Nm)} {ρ0 : Plc} {m0 : Mem} {w0 : World} (h0 : MemOK ρ0 m0 w0) (hg0 : m0.glob = E.gl) :
    ∀ {l : PT} {K : St → Prop} {KW : (World → Prop) → Act → World → Prop} {st : St} {ρ : Plc} {a : Act} {w : World}, st.nt = nt → Agree ρ0 ρ → ActOK ρ st a → Holds E ρ st.mem w →
      (S0 ρ0 (softM soft m0) w0 ρ w ∨ l.lastOnly = true) →
      (∀ ρ' st' a' w', Agree ρ0 ρ' → (∀ b o v, ρ.z b o = some v → ρ'.z b o = some v) → ActOK ρ' st' a' → Holds E ρ' st'.mem w' → st'.nt = nt → (S0 ρ0 (softM soft m0) w0 ρ w → l.noLast = true → S0 ρ0 (softM soft m0) w0 ρ' w') → K st' → KW (S0 ρ0 (softM soft m0) w0 ρ') a' w') →
      vplan C ops soft m0 l st K → walkZ C.P ops Q l (S0 ρ0 (softM soft m0) w0 ρ) KW a w
  | .nil, K, KW, st, ρ, a, w, hn, hk, ha, hH, _, hQ, h => hQ ρ st a w hk (fun _ _ _ h => h) ha hH hn (fun h _ => h) h
  | .op i .take r, K, KW, st, ρ, a, w, hn, hk, ha, hH, hS, hQ, h => by
    have hS := hS.resolve_right (by simp [PT.lastOnly])
    unfold vplan at h
    split at h
    rotate_left
    · exact h.elim
    rename_i o ho
    refine ⟨o, ho, ?_⟩
    obtain ⟨st', ha', hm, hnt, ⟨hw, h⟩ | ⟨hw, h⟩⟩ := guardK_sound h ha
    · rcases pureOp_sound hC (softM_blks (BlksOK.agree h0 hk)) (a := a) (fun x => ha'.ev hH.mem.glob x) (o := o) h with ⟨sv, v, h1, h2, h3⟩ | h
      · refine ⟨v, .inl ⟨hw, fun w' hs => h3 w' (S0.same h0 hk hs)⟩, ?_⟩
        obtain ⟨st2, h2, h3, h4, h5⟩ := putK_same h1 ha' h2
        exact vplan_sound hC hE h0 hg0 (h5.trans (hnt.trans hn)) hk h2 (by rw [h3, hm]; exact hH) (.inl hS) hQ h4
      · exact h.elim
    · refine ⟨undef, .inr ⟨hw, rfl⟩, ?_⟩
      obtain ⟨st2, h2, h3, h4, h5⟩ := putK_same h ha' (rel_v undef)
      exact vplan_sound hC hE h0 hg0 (h5.trans (hnt.trans hn)) hk h2 (by rw [h3, hm]; exact hH) (.inl hS) hQ h4
  | .op i .do_ r, K, KW, st, ρ, a, w, hn, hk, ha, hH, hS, hQ, h => by
    have hS := hS.resolve_right (by simp [PT.lastOnly])
    unfold vplan at h
    split at h
    rotate_left
    · exact h.elim
    rename_i o ho
    refine ⟨hS, ?_⟩
    obtain ⟨st', ha', hm, hnt, ⟨hw, h⟩ | ⟨hw, h⟩⟩ := guardK_sound h ha
    · refine wpOp_mono ?_ (vdo_sound hC hE h0 hg0 hk hH hS.1 ho ha' hm hw h)
      rintro a' w' ⟨ρ2, st2, hS2, k2, h2, h3, h4, h5⟩
      exact ⟨_, S0.le k2.z, hS2, vplan_sound hC hE h0 hg0 (h5.trans (hnt.trans hn)) (hk.trans k2) h2 h3 (.inl hS2) (fun ρ' st' a' w' g1 gz g2 g3 g4 g5 g6 => hQ ρ' st' a' w' g1 (fun b o v e => gz b o v (k2.z b o v e)) g2 g3 g4 (fun _ hl => g5 hS2 hl) g6) h4⟩
    · obtain ⟨st2, h2, h3, h4, h5⟩ := putK_same h ha' (rel_v undef)
      refine wpOp_skip ho hw ⟨_, fun _ h => h, hS, ?_⟩
      exact vplan_sound hC hE h0 hg0 (h5.trans (hnt.trans hn)) hk h2 (by rw [h3, hm]; exact hH) (.inl hS) hQ h4
  | .op i .last r, K, KW, st, ρ, a, w, hn, hk, ha, hH, hS, hQ, h => by
    unfold vplan at h
    split at h
    rotate_left
    · exact h.elim
    rename_i o ho hall
    obtain ⟨st', ha', hm, hnt, ⟨hw, h⟩ | ⟨hw, h⟩⟩ := guardK_sound h ha
    · refine wpOp_run ho hw ?_
      refine Oper.wp_mono ?_ ((vop_sound hC h).out E ρ a w Q hE ha' (by rw [hm]; exact hH))
      rintro a2 w2 ⟨ρ2, st2, k2, h2, h3, h4, h5, h6⟩
      exact ⟨_, S0.le k2.z, vplan_sound hC hE h0 hg0 (h5.trans (hnt.trans hn)) (hk.trans k2) h2 h3 (.inr hall) (fun ρ' st' a' w' g1 gz g2 g3 g4 _ g6 => hQ ρ' st' a' w' g1 (fun b o v e => gz b o v (k2.z b o v e)) g2 g3 g4 (fun _ hl => by simp [PT.noLast] at hl) g6) h4⟩
    · obtain ⟨st2, h2, h3, h4, h5⟩ := putK_same h ha' (rel_v undef)
      refine wpOp_skip ho hw ⟨_, fun _ h => h, ?_⟩
      exact vplan_sound hC hE h0 hg0 (h5.trans (hnt.trans hn)) hk h2 (by rw [h3, hm]; exact hH) (.inr hall) (fun ρ' st' a' w' g1 gz g2 g3 g4 _ g6 => hQ ρ' st' a' w' g1 gz g2 g3 g4 (fun _ hl => by simp [PT.noLast] at hl) g6) h4
  | .fork i x y, K, KW, st, ρ, a, w, hn, hk, ha, hH, hS, hQ, h => by
    have hS := hS.resolve_right (by simp [PT.lastOnly])
    unfold vplan at h
    split at h
    rotate_left
    · exact h.elim
    rename_i o ho
    obtain ⟨h, hy⟩ := h
    refine ⟨⟨hS, ?_⟩, vplan_sound hC hE h0 hg0 hn hk ha hH (.inl hS) (fun ρ' st' a' w' g1 gz g2 g3 g4 g5 g6 => hQ ρ' st' a' w' g1 gz g2 g3 g4 (fun hs hl => g5 hs (by simp [PT.noLast] at hl; exact hl.2)) g6) hy⟩
    obtain ⟨st', ha', hm, hnt, ⟨hw, h⟩ | ⟨hw, h⟩⟩ := guardK_sound h ha
    · refine wpOp_mono ?_ (vdo_sound hC hE h0 hg0 hk hH hS.1 ho ha' hm hw h)
      rintro a' w' ⟨ρ2, st2, hS2, k2, h2, h3, h4, h5⟩
      exact ⟨_, S0.le k2.z, hS2, vplan_sound hC hE h0 hg0 (h5.trans (hnt.trans hn)) (hk.trans k2) h2 h3 (.inl hS2) (fun ρ' st' a' w' g1 gz g2 g3 g4 g5 g6 => hQ ρ' st' a' w' g1 (fun b o v e => gz b o v (k2.z b o v e)) g2 g3 g4 (fun _ hl => g5 hS2 (by simp [PT.noLast] at hl; exact hl.1)) g6) h4⟩
    · obtain ⟨st2, h2, h3, h4, h5⟩ := putK_same h ha' (rel_v undef)
      refine wpOp_skip ho hw ⟨_, fun _ h => h, hS, ?_⟩
      exact vplan_sound hC hE h0 hg0 (h5.trans (hnt.trans hn)) hk h2 (by rw [h3, hm]; exact hH) (.inl hS) (fun ρ' st' a' w' g1 gz g2 g3 g4 g5 g6 => hQ ρ' st' a' w' g1 gz g2 g3 g4 (fun hs hl => g5 hs (by simp [PT.noLast] at hl; exact hl.1)) g6) h4
  | .seq m L x y, K, KW, st, ρ, a, w, hn, hk, ha, hH, hS, hQ, h => by
    have hS := hS.resolve_right (by simp [PT.lastOnly])
    unfold vplan at h
    split at h
    rotate_left
    · exact h.elim
    rename_i hnl
    refine vplan_sound hC hE h0 hg0 (l := x) (K := fun s => forceSt s fun s => PSem C ops soft m0 y s K) (KW := fun S a w => walkZ C.P ops Q y S KW a w) hn hk ha hH (.inl hS) ?_ h.go
    intro ρ' st' a' w' k1 kz k2 k3 k4 k5 k6
    refine (forceSt_spec (K := fun s => PSem C ops soft m0 y s K) k6).out hE h0 hg0 k4 k1 k2 k3 (k5 hS hnl) ?_
    exact fun ρ2 st2 a2 w2 g1 gz g2 g3 g4 g5 g6 => hQ ρ2 st2 a2 w2 g1 (fun b o v e => gz b o v (kz b o v e)) g2 g3 g4 (fun hs hl => g5 (by simp [PT.noLast] at hl; exact hl.2)) g6
theorem PSem.go {C : Seat} (hC : C.ok) {ops : Array Oper} {soft : Option (List Nm)} {m0 : Mem} {y : PT} {st : St} {K : St → Prop} (h : vplan C ops soft m0 y st K) : PSem C ops soft m0 y st K :=
  ⟨fun hE _ _ _ _ h0 hg0 _ _ _ _ hn hk ha hH hS hQ => vplan_sound hC hE h0 hg0 hn hk ha hH (.inl hS) (fun ρ' st' a' w' g1 gz g2 g3 g4 g5 g6 => hQ ρ' st' a' w' g1 gz g2 g3 g4 (fun hl => g5 hS hl) g6) h⟩

structure PlanOK (P : Program) (ops : Array Oper) (plan : PT) : Prop where
  mixed : P.follows .mixedOrders = true
  len : ops.size = ops.size
  nosel : Region.noSelect ops = true
  ok : planOkT ops plan.lasts plan (endOk ops) ops.size [] (Array.replicate ops.size false) = true

/-- What stands behind a piece of code. -/
def CPost (E : Env) (nt : Nat) (K : Exit → St → Prop) : Exit → Act → World → Prop
  | .panic _, _, _ => False
  | .outgrown, _, _ => False
  | .goto _, _, _ => False
  | e, a, w => ∃ ρ st, ActOK ρ st a ∧ Holds E ρ st.mem w ∧ st.nt = nt ∧ K e st
structure OKs (P : Program) (c : Code) (st : St) (K : Exit → St → Prop) : Prop where
  out : ∀ E ρ a w, E.P = P → ActOK ρ st a → Holds E ρ st.mem w → c.wpIn (fenceR E.r) 0 P (CPost E st.nt K) a w
theorem CPost.no_out {E : Env} {nt : Nat} {K : Exit → St → Prop} : ¬ LetsOut (CPost E nt K) := fun ⟨_, _, h⟩ => h

def knowC (st : St) (c : Operand) (b : Bool) : St := match c with
  | .tmp t => st.know t b
  | _ => st
/-- The same, under a name that a walk stops at (the kernel then never meets a half unfolded `vc`). -/
structure OKv (C : Seat) (pl : List (Nat × PT)) (c : Code) (st : St) (K : Exit → St → Prop) : Prop where
  ok : OKs C.P c st K
/-- What a piece of code leaves to show. -/
def vc (C : Seat) (pl : List (Nat × PT)) : Code → St → (Exit → St → Prop) → Prop
  | .skip, st, K => K .normal st
  | .seq x y, st, K => vc C pl x st fun e s => match e with
    | .normal => OKv C pl y s K
    | e => K e s
  | .cond c x y, st, K => match st.ev c with
    | .v (.bool b) => BB b (OKv C pl x (knowC st c true) K) (OKv C pl y (knowC st c false) K)
    | _ => OKs C.P (.cond c x y) st K
  | .block id b, st, K => vc C pl b st fun e s => match e with
    | .exit i => match Nat.beq i id with
      | true => K .normal s
      | false => K (.exit i) s
    | e => K e s
  | .exit id, st, K => K (.exit id) st
  | .ret, st, K => K .ret st
  | .region id ops false, st, K => match ops.toList.all notDefer with
    | true => vseq C ops ops.toList st (K .normal)
    | false => OKs C.P (.region id ops false) st K
  | .region id ops true, st, K => match ops.toList.all notDefer, assoc pl id with
    | true, some plan => PlanOK C.P ops plan ∧ forceD (plan.softD ops st) fun D => vplan C ops D st.mem plan st (K .normal)
    | _, _ => OKs C.P (.region id ops true) st K
  | .loop b, st, K => forceSt st fun st => OKs C.P (.loop b) st K
  | .rangeFunc g ps s1 b, st, K => forceSt st fun st => OKs C.P (.rangeFunc g ps s1 b) st K
  | c, st, K => OKs C.P c st K

theorem knowC_ok {ρ : Plc} {st : St} {a : Act} (h : ActOK ρ st a) {c : Operand} {b : Bool} (hb : st.ev c = .v (.bool b)) : ActOK ρ (knowC st c b) a := by
  unfold knowC
  split
  · exact h.know (St.ev_tmp hb (by simp)).2
  · exact h
theorem knowC_mem (st : St) (c : Operand) (b : Bool) : (knowC st c b).mem = st.mem ∧ (knowC st c b).nt = st.nt := by
  unfold knowC
  split <;> exact ⟨rfl, rfl⟩

theorem vc_sound {C : Seat} (hC : C.ok) {pl : List (Nat × PT)} : ∀ {c : Code} {st : St} {K : Exit → St → Prop}, vc C pl c st K → OKs C.P c st K
  | .skip, st, K, h => ⟨fun E ρ a w _ ha hH => wpIn_skip ⟨ρ, st, ha, hH, rfl, h⟩⟩
  | .seq x y, st, K, h => by
    refine ⟨fun E ρ a w hE ha hH => wpIn_seq ?_⟩
    refine wpIn_mono ((vc_sound hC (c := x) h).out E ρ a w hE ha hH) ?_
    intro e a' w' hp
    cases e with
    | normal =>
      obtain ⟨ρ', st', h1, h2, h3, h4⟩ := hp
      have := h4.ok.out E ρ' a' w' hE h1 h2
      rw [h3] at this
      exact this
    | exit i => exact hp
    | ret => exact hp
    | goto l => exact hp
    | panic l => exact hp
    | outgrown => exact hp
  | .cond c x y, st, K, h => by
    unfold vc at h
    split at h
    · rename_i b hb
      refine ⟨fun E ρ a w hE ha hH => ?_⟩
      have hc := ha.ev hH.mem.glob c
      rw [hb] at hc
      unfold Rel at hc
      cases b with
      | true =>
        have := (h.t rfl).ok.out E ρ a w hE (knowC_ok ha hb) (by rw [(knowC_mem st c true).1]; exact hH)
        rw [(knowC_mem st c true).2] at this
        exact wpIn_cond hc this
      | false =>
        have := (h.f rfl).ok.out E ρ a w hE (knowC_ok ha hb) (by rw [(knowC_mem st c false).1]; exact hH)
        rw [(knowC_mem st c false).2] at this
        exact wpIn_cond hc this
    · exact h
  | .block id b, st, K, h => by
    refine ⟨fun E ρ a w hE ha hH => wpIn_block ?_⟩
    refine wpIn_mono ((vc_sound hC (c := b) h).out E ρ a w hE ha hH) ?_
    intro e a' w' hp
    cases e with
    | exit i =>
      obtain ⟨ρ', st', h1, h2, h3, h4⟩ := hp
      unfold Exit.inBlock
      simp only at h4 ⊢
      by_cases hi : i = id
      · subst hi
        rw [if_pos rfl]
        simp at h4
        exact ⟨ρ', st', h1, h2, h3, h4⟩
      · rw [if_neg hi]
        have : Nat.beq i id = false := by
          cases hb : Nat.beq i id
          · rfl
          · exact absurd (Nat.eq_of_beq_eq_true hb) hi
        rw [this] at h4
        exact ⟨ρ', st', h1, h2, h3, h4⟩
    | normal => exact hp
    | ret => exact hp
    | goto l => exact hp
    | panic l => exact hp
    | outgrown => exact hp
  | .exit id, st, K, h => ⟨fun E ρ a w _ ha hH => wpIn_exit ⟨ρ, st, ha, hH, rfl, h⟩⟩
  | .ret, st, K, h => ⟨fun E ρ a w _ ha hH => wpIn_ret ⟨ρ, st, ha, hH, rfl, h⟩⟩
  | .region id ops false, st, K, h => by
    unfold vc at h
    split at h
    rotate_left
    · exact h
    rename_i hnd
    refine ⟨fun E ρ a w hE ha hH => wpIn_region (opsIn hnd CPost.no_out ?_)⟩
    have hQ : RegPost E st.nt (K .normal) (CPost E st.nt K) := fun ρ s a w h1 h2 h3 h4 => ⟨ρ, s, h1, h2, h3, h4⟩
    refine vseq_sound hC hE hQ (l := ops.toList) ?_ rfl ha hH h
    apply List.ext_getElem?
    intro i
    by_cases hi : i < ops.size
    · simp [hi]
    · simp [hi]
  | .region id ops true, st, K, h => by
    unfold vc at h
    split at h
    · rename_i plan hnd hpl
      obtain ⟨hp, h⟩ := h
      refine ⟨fun E ρ a w hE ha hH => ?_⟩
      have hQ : RegPost E st.nt (K .normal) (CPost E st.nt K) := fun ρ s a w h1 h2 h3 h4 => ⟨ρ, s, h1, h2, h3, h4⟩
      replace h := forceD_spec (K := fun D => vplan C ops D st.mem plan st (K .normal)) h
      have hS : S0 ρ (softM (plan.softD ops st) st.mem) w.drew ρ w.drew := ⟨SameB.refl _ _ _, hH.drew.mem.fz⟩
      refine region_planZ (S0 ρ (softM (plan.softD ops st) st.mem) w.drew ρ) plan hp.mixed hnd CPost.no_out hp.nosel hp.ok (fun _ _ _ _ _ h => h) hS ?_
      exact vplan_sound hC hE hH.drew.mem hH.gl rfl (Agree.refl ρ) ha hH.drew (.inl hS) (fun ρ' st' a' w' _ _ g2 g3 g4 _ g6 => hQ ρ' st' a' w' g2 g3 g4 g6) h
    · exact h
  | .loop b, st, K, h => forceSt_spec (K := fun st => OKs C.P (.loop b) st K) h
  | .rangeFunc g ps s1 b, st, K, h => forceSt_spec (K := fun st => OKs C.P (.rangeFunc g ps s1 b) st K) h
  | .scope _, _, _, h => h
  | .label _, _, _, h => h
  | .goto _, _, _, h => h
  | .refuse _, _, _, h => h
theorem OKv.go {C : Seat} (hC : C.ok) {pl : List (Nat × PT)} {c : Code} {st : St} {K : Exit → St → Prop} (h : vc C pl c st K) : OKv C pl c st K := ⟨vc_sound hC h⟩
end Go.Proofs.Ytkcdomafdjpbjaa
