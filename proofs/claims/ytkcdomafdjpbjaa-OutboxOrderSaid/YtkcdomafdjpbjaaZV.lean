/- One operation: what is left to show. -/
import Derived.Test.YtkcdomafdjpbjaaZM
namespace Go.Proofs.Ytkcdomafdjpbjaa
open Go.RowKit

/-- What stands behind an operation. -/
def OpPost (E : Env) (ρ : Plc) (m : Mem) (w : World) (keep : Bool) (nt : Nat) (K : St → Prop) (a' : Act) (w' : World) : Prop :=
  ∃ ρ' st', Agree ρ ρ' ∧ ActOK ρ' st' a' ∧ Holds E ρ' st'.mem w' ∧ K st' ∧ st'.nt = nt ∧ (keep = true → Kept w w')
structure OpSem (P : Program) (keep : Bool) (st : St) (o : Oper) (K : St → Prop) : Prop where
  out : ∀ E ρ a w Q, E.P = P → ActOK ρ st a → Holds E ρ st.mem w → o.wp P a w (OpPost E ρ st.mem w keep st.nt K) Q
def Enters (P : Program) (f : Nat) : Prop := ∃ fn, P.funcs[f]? = some fn ∧ fn.body.isNone = false ∧ (fn.name == "runtime.NumGoroutine") = false
/-- A function is called: of the program's text, or one that the model knows by itself. -/
def Called (P : Program) (f : Nat) (us : Array Value) (w : World) (Q : Ending → World → Prop) : Prop :=
  (Enters P f ∧ Calls P f us w Q) ∨ ∃ v w', (callFunc f us).run P w = .ok (.value v) w' ∧ Q (.returned v) w'
theorem Called.mono {P : Program} {f : Nat} {us : Array Value} {w : World} {Q Q' : Ending → World → Prop} (h : Called P f us w Q) (k : ∀ e w', Q e w' → Q' e w') : Called P f us w Q' :=
  h.imp (fun h => ⟨h.1, h.2.mono k⟩) fun ⟨v, w', h1, h2⟩ => ⟨v, w', h1, k _ _ h2⟩
structure CallSem (P : Program) (keep : Bool) (m : Mem) (n : Nat) (f : Nat) (args : List SV) (K : SV → Mem → Prop) : Prop where
  out : ∀ E ρ w us, E.P = P → Holds E ρ m w → RelL ρ args us → Called P f us.toArray w fun e w' =>
    ∃ ρ' r m' u, e = .returned u ∧ Agree ρ ρ' ∧ Holds E ρ' m' w' ∧ Rel ρ' r u ∧ K r m' ∧ (keep = true → Kept w w')

/-! What is computed is written out before it goes on. -/
def forceNat : Nat → (Nat → Prop) → Prop
  | 0, K => K 0
  | n + 1, K => forceNat n fun m => K (m + 1)
theorem forceNat_spec : ∀ {n : Nat} {K : Nat → Prop}, forceNat n K → K n
  | 0, _, h => h
  | n + 1, K, h => forceNat_spec (n := n) (K := fun m => K (m + 1)) h
def forceN (a : Nm) (K : Nm → Prop) : Prop := match a with
  | .n i => forceNat i fun j => K (.n j)
  | .o k => K (.o k)
  | .g x => K (.g x)
theorem forceN_spec {a : Nm} {K : Nm → Prop} (h : forceN a K) : K a := by
  cases a with
  | n i => exact forceNat_spec (K := fun j => K (.n j)) h
  | o k => exact h
  | g x => exact h
def force0 (x : SV) (K : SV → Prop) : Prop := match x with
  | .any => K .any
  | .v x => K (.v x)
  | .p a e sz f => forceN a fun a => K (.p a e sz f)
  | .s a sz e len cap => forceN a fun a => K (.s a sz e len cap)
  | .z sz els cap => K (.z sz els cap)
  | .zp c => K (.zp c)
  | .agg l => K (.agg l)
  | .tup l => K (.tup l)
  | .fn f l => K (.fn f l)
  | .bm f l => K (.bm f l)
theorem force0_spec {x : SV} {K : SV → Prop} (h : force0 x K) : K x := by
  cases x with
  | p a e sz f => exact forceN_spec (K := fun a => K (.p a e sz f)) h
  | s a sz e len cap => exact forceN_spec (K := fun a => K (.s a sz e len cap)) h
  | any => exact h
  | z _ _ _ => exact h
  | zp _ => exact h
  | v _ => exact h
  | agg _ => exact h
  | tup _ => exact h
  | fn _ _ => exact h
  | bm _ _ => exact h
def forceL0 : List SV → (List SV → Prop) → Prop
  | [], K => K []
  | x :: l, K => force0 x fun x => forceL0 l fun l => K (x :: l)
theorem forceL0_spec : ∀ {l : List SV} {K : List SV → Prop}, forceL0 l K → K l
  | [], _, h => h
  | x :: l, K, h => by
    unfold forceL0 at h
    exact forceL0_spec (K := fun l => K (x :: l)) (force0_spec (K := fun x => forceL0 l fun l => K (x :: l)) h)
def force1 (x : SV) (K : SV → Prop) : Prop := match x with
  | .agg l => forceL0 l fun l => K (.agg l)
  | .fn f l => forceL0 l fun l => K (.fn f l)
  | .bm f l => forceL0 l fun l => K (.bm f l)
  | x => force0 x K
theorem force1_spec {x : SV} {K : SV → Prop} (h : force1 x K) : K x := by
  cases x with
  | agg l => exact forceL0_spec (K := fun l => K (.agg l)) h
  | fn f l => exact forceL0_spec (K := fun l => K (.fn f l)) h
  | bm f l => exact forceL0_spec (K := fun l => K (.bm f l)) h
  | p a e sz f => exact force0_spec h
  | s a sz e len cap => exact force0_spec h
  | any => exact h
  | z _ _ _ => exact h
  | zp _ => exact h
  | v _ => exact h
  | tup _ => exact h
def forceL : List SV → (List SV → Prop) → Prop
  | [], K => K []
  | x :: l, K => force1 x fun x => forceL l fun l => K (x :: l)
theorem forceL_spec : ∀ {l : List SV} {K : List SV → Prop}, forceL l K → K l
  | [], _, h => h
  | x :: l, K, h => by
    unfold forceL at h
    exact forceL_spec (K := fun l => K (x :: l)) (force1_spec (K := fun x => forceL l fun l => K (x :: l)) h)
def forceSV (x : SV) (K : SV → Prop) : Prop := match x with
  | .tup l => forceL l fun l => K (.tup l)
  | x => force1 x K
theorem forceSV_spec {x : SV} {K : SV → Prop} (h : forceSV x K) : K x := by
  cases x with
  | tup l => exact forceL_spec (K := fun l => K (.tup l)) h
  | agg l => exact force1_spec h
  | fn f l => exact force1_spec h
  | bm f l => exact force1_spec h
  | p a e sz f => exact force1_spec h
  | s a sz e len cap => exact force1_spec h
  | any => exact h
  | z _ _ _ => exact h
  | zp _ => exact h
  | v _ => exact h
def forceB (B : SB) (K : SB → Prop) : Prop := match B with
  | .dead => K .dead
  | .ro sz els => K (.ro sz els)
  | .box t cells => forceL cells fun cells => K (.box t cells)
  | .cst t cells => forceL cells fun cells => K (.cst t cells)
  | .row t sz cap els => K (.row t sz cap els)
theorem forceB_spec {B : SB} {K : SB → Prop} (h : forceB B K) : K B := by
  cases B with
  | box t cells => exact forceL_spec (K := fun cells => K (.box t cells)) h
  | cst t cells => exact forceL_spec (K := fun cells => K (.cst t cells)) h
  | dead => exact h
  | ro _ _ => exact h
  | row _ _ _ _ => exact h
def forceBs : List SB → (List SB → Prop) → Prop
  | [], K => K []
  | B :: l, K => forceB B fun B => forceBs l fun l => K (B :: l)
theorem forceBs_spec : ∀ {l : List SB} {K : List SB → Prop}, forceBs l K → K l
  | [], _, h => h
  | B :: l, K, h => by
    unfold forceBs at h
    exact forceBs_spec (K := fun l => K (B :: l)) (forceB_spec (K := fun B => forceBs l fun l => K (B :: l)) h)
def forceG : List (Nat × SB) → (List (Nat × SB) → Prop) → Prop
  | [], K => K []
  | (k, b) :: l, K => forceG l fun l => K ((k, b) :: l)
theorem forceG_spec : ∀ {l : List (Nat × SB)} {K : List (Nat × SB) → Prop}, forceG l K → K l
  | [], _, h => h
  | (k, b) :: l, K, h => forceG_spec (l := l) (K := fun l => K ((k, b) :: l)) h
def forceM (m : Mem) (K : Mem → Prop) : Prop := forceG m.glob fun g => forceBs m.old fun o => forceBs m.ext fun x => K ⟨g, o, x⟩
theorem forceM_spec {m : Mem} {K : Mem → Prop} (h : forceM m K) : K m :=
  forceBs_spec (K := fun x => K ⟨m.glob, m.old, x⟩) (forceBs_spec (K := fun o => forceBs m.ext fun x => K ⟨m.glob, o, x⟩) (forceG_spec (K := fun g => forceBs m.old fun o => forceBs m.ext fun x => K ⟨g, o, x⟩) h))

def putK (st : St) (dst : Option Nat) (x : SV) (m : Mem) (K : St → Prop) : Prop := match st with
  | ⟨sl, nt, _⟩ => match dst with
    | some d => match Nat.blt d nt with
      | true => forceSV x fun x => K ⟨(d, x) :: sl, nt, m⟩
      | false => False
    | none => K ⟨sl, nt, m⟩
theorem putK_eq (st : St) (dst : Option Nat) (x : SV) (m : Mem) (K : St → Prop) : putK st dst x m K = match dst with
  | some d => match Nat.blt d st.nt with
    | true => forceSV x fun x => K { slots := (d, x) :: st.slots, nt := st.nt, mem := m }
    | false => False
  | none => K { slots := st.slots, nt := st.nt, mem := m } := by cases st; rfl
/-- The same, where memory stays. -/
def putS (st : St) (dst : Option Nat) (x : SV) (K : St → Prop) : Prop := match st with
  | ⟨sl, nt, m⟩ => match dst with
    | some d => match Nat.blt d nt with
      | true => forceSV x fun x => K ⟨(d, x) :: sl, nt, m⟩
      | false => False
    | none => K ⟨sl, nt, m⟩
theorem putS_eq (st : St) (dst : Option Nat) (x : SV) (K : St → Prop) : putS st dst x K = putK st dst x st.mem K := by cases st; rfl
/-- The same, where memory is another one. -/
def putM (st : St) (dst : Option Nat) (x : SV) (m : Mem) (K : St → Prop) : Prop := forceM m fun m => putK st dst x m K
theorem putK_sound {E : Env} {ρ ρ' : Plc} {st : St} {a : Act} {w w' : World} {keep : Bool} {dst : Option Nat} {x : SV} {u : Value} {m : Mem} {K : St → Prop} (h : putK st dst x m K) (ha : ActOK ρ st a) (hk : Agree ρ ρ') (hH : Holds E ρ' m w') (hx : Rel ρ' x u)
    (hs : keep = true → Kept w w') : OpPost E ρ st.mem w keep st.nt K (a.put dst u) w' := by
  rw [putK_eq] at h
  split at h
  · rename_i d
    split at h
    · rename_i hd
      have hd : d < st.nt := Nat.lt_of_succ_le (Nat.le_of_ble_eq_true hd)
      exact ⟨ρ', _, hk, ((ha.agree hk).put hd hx).mem m, hH, forceSV_spec (K := fun x => K { slots := (d, x) :: st.slots, nt := st.nt, mem := m }) h, rfl, hs⟩
    · exact h.elim
  · exact ⟨ρ', _, hk, (ha.agree hk).mem m, hH, h, rfl, hs⟩
theorem putM_sound {E : Env} {ρ ρ' : Plc} {st : St} {a : Act} {w w' : World} {keep : Bool} {dst : Option Nat} {x : SV} {u : Value} {m : Mem} {K : St → Prop} (h : putM st dst x m K) (ha : ActOK ρ st a) (hk : Agree ρ ρ') (hH : Holds E ρ' m w') (hx : Rel ρ' x u)
    (hs : keep = true → Kept w w') : OpPost E ρ st.mem w keep st.nt K (a.put dst u) w' :=
  putK_sound (forceM_spec (K := fun m => putK st dst x m K) h) ha hk hH hx hs

/-- The cells that a value is stored as. -/
def flatSV (x : SV) (K : List SV → Prop) (other : Prop) : Prop := match x with
  | .any => other
  | .tup _ => other
  | .v (.agg _) => other
  | x => K (cellsSV x)
theorem flatSV_sound {ρ : Plc} {x : SV} {u : Value} {K : List SV → Prop} {other : Prop} (h : flatSV x K other) (hx : Rel ρ x u) : other ∨ ∃ us, u.cells.toList = us ∧ RelL ρ (cellsSV x) us ∧ K (cellsSV x) := by
  unfold flatSV at h
  split at h
  · exact .inl h
  · exact .inl h
  · exact .inl h
  · rename_i h1 h2 h3
    obtain ⟨us, e1, e2⟩ := hx.cells h1 h2 (fun y e cs e' => h3 cs (by rw [e, e']))
    exact .inr ⟨us, e1, e2, h⟩
def oneS : SV → Bool
  | .v x => x.oneCell'
  | .p .. | .s .. | .fn .. | .bm .. | .z .. | .zp _ => true
  | _ => false
theorem oneS_sound {ρ : Plc} : ∀ {x : SV} {u : Value}, oneS x = true → Rel ρ x u → u.oneCell' = true
  | .v x, u, h, hr => by unfold Rel at hr; subst hr; exact h
  | .p .., u, _, hr => by unfold Rel at hr; rw [hr.1]; rfl
  | .s .., u, _, hr => by unfold Rel at hr; obtain ⟨ad, rfl, _⟩ := hr; rfl
  | .z .., u, _, hr => by unfold Rel at hr; obtain ⟨ad, rfl, _⟩ := hr; rfl
  | .zp _, u, _, hr => by unfold Rel at hr; obtain ⟨b, o, us, rfl, _⟩ := hr; rfl
  | .fn .., u, _, hr => by unfold Rel at hr; obtain ⟨us, rfl, _⟩ := hr; rfl
  | .bm .., u, _, hr => by unfold Rel at hr; obtain ⟨us, rfl, _⟩ := hr; rfl
  | .any, _, h, _ => by cases h
  | .agg _, _, h, _ => by cases h
  | .tup _, _, h, _ => by cases h
/-- What is known of all cells outright. -/
def groundL : List SV → Option (List Value)
  | [] => some []
  | .v x :: l => match groundL l with
    | some r => some (x :: r)
    | none => none
  | _ => none
theorem groundL_sound {ρ : Plc} : ∀ {l : List SV} {r us : List Value}, groundL l = some r → RelL ρ l us → us = r
  | [], r, us, h, hr => by
    unfold groundL at h; unfold RelL at hr
    cases h; exact hr
  | .v x :: l, r, us, h, hr => by
    unfold groundL at h; unfold RelL Rel at hr
    obtain ⟨u, us', rfl, rfl, hr⟩ := hr
    split at h
    · rename_i r' e
      cases h
      rw [groundL_sound e hr]
    · cases h
  | .z .. :: _, _, _, h, _ | .zp _ :: _, _, _, h, _ | .any :: _, _, _, h, _ | .p .. :: _, _, _, h, _ | .s .. :: _, _, _, h, _ | .agg _ :: _, _, _, h, _ | .tup _ :: _, _, _, h, _ | .fn .. :: _, _, _, h, _ | .bm .. :: _, _, _, h, _ => by cases h
def storeK (st : St) (t : TI) (b : Nm) (e sz f : Nat) (x : SV) (K : St → Prop) (other : Prop) : Prop :=
  match b with
  | .g _ => other
  | b => match st.mem.look b with
    | some (.box t' cells) => flatSV x (fun vs => match vs.all oneS, Nat.beq vs.length t.size, Nat.ble (e * sz + f + t.size) cells.length with
      | true, true, true => K { st with mem := st.mem.set b (.box t' (cells.take (e * sz + f) ++ vs ++ cells.drop (e * sz + f + t.size))) }
      | _, _, _ => other) other
    | some (.row _ _ _ _) => flatSV x (fun vs => match Nat.beq vs.length t.size with
      | true => frzL vs st.mem (fun m cs => match m.look b with
        | some (.row t' sz' cap els) => match Nat.ble (f + t.size) sz' with
          | true => e * sz = e * sz' ∧ ∃ c, els[e]? = some c ∧ K { st with mem := m.set b (.row t' sz' cap (els.set e (c.take f ++ cs ++ c.drop (f + t.size)))) }
          | false => other
        | _ => other) other
      | false => other) other
    | _ => other

theorem one_all {ρ : Plc} {vs : List SV} {us : List Value} (h : vs.all oneS = true) (hr : RelL ρ vs us) : ∀ u ∈ us, u.oneCell' = true := by
  intro u hu
  obtain ⟨i, hi⟩ := List.mem_iff_getElem?.1 hu
  have hl := getElem?_lt hi
  rw [hr.len] at hl
  obtain ⟨u', h1, h2⟩ := hr.get (List.getElem?_eq_getElem hl)
  rw [hi] at h1
  cases h1
  exact oneS_sound ((List.all_eq_true.1 h) _ (List.getElem_mem hl)) h2
theorem flatten_set {sz : Nat} : ∀ {els : List (List Value)} {e : Nat} {c d : List Value}, (∀ c ∈ els, c.length = sz) → els[e]? = some c → d.length = sz →
    (els.set e d).flatten = els.flatten.take (e * sz) ++ d ++ els.flatten.drop (e * sz + sz)
  | [], e, c, d, _, h, _ => by simp at h
  | x :: xs, 0, c, d, hs, h, hd => by
    have : x.length = sz := hs x (by simp)
    simp only [List.set_cons_zero, List.flatten_cons, Nat.zero_mul, List.take_zero, List.nil_append, Nat.zero_add]
    rw [← this, List.drop_left]
  | x :: xs, e + 1, c, d, hs, h, hd => by
    have hx : x.length = sz := hs x (by simp)
    simp only [List.set_cons_succ, List.flatten_cons]
    rw [flatten_set (fun c hc => hs c (by simp [hc])) (by simpa using h) hd]
    have e1 : (e + 1) * sz = x.length + e * sz := by rw [hx, Nat.add_mul]; omega
    rw [e1, List.take_length_add_append, Nat.add_assoc, List.drop_length_add_append]
    simp [List.append_assoc]
theorem take_splice {cur : List Value} {n o : Nat} {vs : List Value} (h : o + vs.length ≤ n) (hn : n ≤ cur.length) :
    (cur.take o ++ vs ++ cur.drop (o + vs.length)).take n = (cur.take n).take o ++ vs ++ (cur.take n).drop (o + vs.length) := by
  have hA : (cur.take n).length = n := by simp; omega
  have hc : cur = cur.take n ++ cur.drop n := (List.take_append_drop n cur).symm
  generalize cur.take n = A at *
  generalize cur.drop n = B at *
  subst hc
  have e1 : (A ++ B).take o = A.take o := List.take_append_of_le_length (by omega)
  have e2 : (A ++ B).drop (o + vs.length) = A.drop (o + vs.length) ++ B := List.drop_append_of_le_length (by omega)
  rw [e1, e2, ← List.append_assoc]
  have hl : (A.take o ++ vs ++ A.drop (o + vs.length)).length = n := by simp; omega
  rw [List.take_append_of_le_length (by omega), List.take_of_length_le (by omega)]

/-- A store. -/
theorem storeK_sound {C : Seat} (hC : C.ok) {E : Env} (hE : E.P = C.P) {ρ : Plc} {st : St} {a : Act} {w : World} (ha : ActOK ρ st a) (hH : Holds E ρ st.mem w) {ty : Nat} {t : TI} (ht : assoc C.T ty = some t) {b : Nm} {e sz f : Nat} {x : SV} {u : Value} (hx : Rel ρ x u)
    {K : St → Prop} {other : Prop} (h : storeK st t b e sz f x K other) :
    other ∨ ∃ w', (storeVar ty (locA ρ b (e * sz + f)) u).run E.P w = .ok () w' ∧ (w.heap.size ≤ w'.heap.size ∧ ∀ n, n ≠ (ρ.at_ b).1 → w'.heap[n]? = w.heap[n]?) ∧ ∃ ρ' m', Agree ρ ρ' ∧ Holds E ρ' m' w' ∧ K { st with mem := m' } := by
  rw [hE]
  have hT := hC.ty _ _ ht
  unfold storeK at h
  split at h
  · exact .inl h
  rename_i hb
  have hg : ∀ x, b ≠ .g x := fun x e => hb x e
  split at h
  · rename_i t' cells hl
    rcases flatSV_sound h hx with h | ⟨us, hu, hr, h⟩
    · exact .inl h
    split at h
    rotate_left
    · exact .inl h
    rename_i hone hlen hle
    have hlen := Nat.eq_of_beq_eq_true hlen
    have hle := Nat.le_of_ble_eq_true hle
    obtain ⟨h0, cs, hcs, hw⟩ := hH.mem.blk _ _ hl
    have h1 := one_all hone hr
    have hul : us.length = t.size := by rw [hr.len, hlen]
    have hst := run_storeCells_at C.P (ρ.at_ b).1 (e * sz + f) t' us 0 cs.toArray w hw (by simp [hcs.len]; omega) h1
    simp only [Nat.add_zero] at hst
    have hblk : BlkOK ρ (ρ.at_ b) (.box t' (cells.take (e * sz + f) ++ cellsSV x ++ cells.drop (e * sz + f + t.size))) (w.setRow (ρ.at_ b).1 (cs.toArray.toList.take (e * sz + f) ++ us ++ cs.toArray.toList.drop (e * sz + f + us.length)).toArray) := by
      refine ⟨h0, cs.take (e * sz + f) ++ us ++ cs.drop (e * sz + f + t.size), ((hcs.take _).append hr).append (hcs.drop _), ?_⟩
      rw [setRow_heap w _ _ _ _ _ hw]
      simp [hul]
    refine .inr ⟨_, ?_, ⟨by simp, fun n hn => setRow_other w _ n _ hn⟩, ρ, _, Agree.refl ρ, hH.set hg hl (.inl trivial) (fun _ => trivial) (fun _ => trivial) hblk ?_ ?_ ?_ ?_ ?_, h⟩
    · simp only [storeVar, Sem.run_bind, hT.sizeOf, Result.andThen_ok]
      rw [if_neg (by rw [← Array.length_toList, hu, hul]; simp)]
      simp only [Sem.run_bind, hu, locA, h0, Nat.zero_add]
      rw [hst]
    · rfl
    · rfl
    · rfl
    · simp
    · exact fun n hn => setRow_other w _ n _ hn
  · rename_i hl0
    rcases flatSV_sound h hx with h | ⟨us, hu, hr, h⟩
    · exact .inl h
    split at h
    rotate_left
    · exact .inl h
    rename_i hlen
    have hlen := Nat.eq_of_beq_eq_true hlen
    rcases frzL_sound hH hr h with h | ⟨ρ1, m1, cs, hk1, hH1, hcs1, h⟩
    · exact .inl h
    split at h
    rotate_left
    · exact .inl h
    rename_i t' sz' cap els hl
    split at h
    rotate_left
    · exact .inl h
    rename_i hle
    have hle := Nat.le_of_ble_eq_true hle
    obtain ⟨hoff, cc, hec0, h⟩ := h
    have hat : ρ1.at_ b = ρ.at_ b := hk1.eq b (hH.mem.has hl0)
    have h1 := hcs1.one
    have hul : us.length = t.size := by rw [hr.len, hlen]
    obtain ⟨raw, hR, hcap, hok, hk⟩ := hH1.mem.blk _ _ hl
    obtain ⟨c, hec, hrc, hcl⟩ := hR.get hec0
    have hel := getElem?_lt hec
    have hc0 : cap ≠ 0 := by omega
    obtain ⟨h0, hm, cur, hw, hcs, htk⟩ := hk hc0
    have hfit : e * sz' + sz' ≤ raw.length * sz' := by rw [← Nat.succ_mul]; exact Nat.mul_le_mul_right _ hel
    have hfit2 : raw.length * sz' ≤ cap * sz' := Nat.mul_le_mul_right _ hcap
    have hst := run_storeCells_at C.P (ρ1.at_ b).1 (e * sz' + f) t' us 0 cur w hw (by omega) h1
    simp only [Nat.add_zero] at hst
    rw [hoff]
    have hblk : BlkOK ρ1 (ρ1.at_ b) (.row t' sz' cap (els.set e (cc.take f ++ cs ++ cc.drop (f + t.size)))) (w.setRow (ρ1.at_ b).1 (cur.toList.take (e * sz' + f) ++ us ++ cur.toList.drop (e * sz' + f + us.length)).toArray) := by
      refine ⟨raw.set e (c.take f ++ us ++ c.drop (f + t.size)), hR.set e (((hrc.take f).append hcs1).append (hrc.drop _)) (by simp; omega), by simp; exact hcap, ?_, fun _ => ⟨h0, hm, _, setRow_heap w _ _ _ _ _ hw, ?_, ?_⟩⟩
      · intro d hd
        rcases List.mem_or_eq_of_mem_set hd with hd | rfl
        · exact hok d hd
        · refine ⟨by simp; omega, fun v hv => ?_⟩
          have hco := (hok c (List.mem_of_getElem? hec)).2
          simp only [List.mem_append] at hv
          rcases hv with (hv | hv) | hv
          · exact hco v (List.mem_of_mem_take hv)
          · exact h1 v hv
          · exact hco v (List.mem_of_mem_drop hv)
      · simp only [List.size_toArray, List.length_append, List.length_take, List.length_drop, Array.length_toList]
        omega
      · simp only [List.length_set]
        rw [take_splice (by omega) (by simp; omega), htk, flatten_set (fun c hc => (hok c hc).1) hec (by simp; omega)]
        have hF : raw.flatten.length = raw.length * sz' := by rw [← htk]; simp; omega
        have hcF : ∀ j, j < sz' → raw.flatten[e * sz' + j]? = c[j]? := fun j hj => by
          rw [flatten_get (fun c hc => (hok c hc).1) hec (List.getElem?_eq_getElem (by omega)), List.getElem?_eq_getElem (by omega)]
        apply List.ext_getElem?
        intro j
        simp only [List.getElem?_append, List.length_append, List.length_take, List.getElem?_take, List.getElem?_drop, List.length_drop, hF, hcl]
        rw [show min (e * sz' + f) (raw.length * sz') = e * sz' + f by omega, show min (e * sz') (raw.length * sz') = e * sz' by omega, show min f sz' = f by omega, hul]
        by_cases j1 : j < e * sz' + f
        · simp only [show j < e * sz' + f + t.size by omega, if_true, j1]
          by_cases j2 : j < e * sz'
          · simp [j2, show j < e * sz' + (f + t.size + (sz' - (f + t.size))) by omega]
          · have := hcF (j - e * sz') (by omega)
            rw [show e * sz' + (j - e * sz') = j by omega] at this
            simp [j2, show j < e * sz' + (f + t.size + (sz' - (f + t.size))) by omega, show j - e * sz' < f + t.size by omega, show j - e * sz' < f by omega, this]
        · by_cases j3 : j < e * sz' + f + t.size
          · simp [j1, j3, show ¬ j < e * sz' by omega, show j < e * sz' + (f + t.size + (sz' - (f + t.size))) by omega, show j - e * sz' < f + t.size by omega, show ¬ j - e * sz' < f by omega, show j - e * sz' - f = j - (e * sz' + f) by omega]
          · simp only [j3, if_false]
            by_cases j4 : j < e * sz' + sz'
            · have := hcF (j - e * sz') (by omega)
              rw [show e * sz' + (j - e * sz') = j by omega] at this
              rw [show e * sz' + f + t.size + (j - (e * sz' + f + t.size)) = j by omega, this]
              simp only [show ¬ j < e * sz' by omega, show j < e * sz' + (f + t.size + (sz' - (f + t.size))) by omega, show ¬ j - e * sz' < f + t.size by omega, if_true, if_false]
              congr 1
              omega
            · rw [show e * sz' + f + t.size + (j - (e * sz' + f + t.size)) = j by omega]
              simp only [show ¬ j < e * sz' + (f + t.size + (sz' - (f + t.size))) by omega, if_false]
              congr 1
              omega
    refine .inr ⟨_, ?_, ⟨by simp, fun n hn => setRow_other w _ n _ (by rw [hat]; exact hn)⟩, ρ1, _, hk1, hH1.set (B' := .row t' sz' cap (els.set e (cc.take f ++ cs ++ cc.drop (f + t.size)))) hg hl (.inl hc0) (fun h => h) (fun h => h) hblk ?_ ?_ ?_ ?_ ?_, h⟩
    · simp only [storeVar, Sem.run_bind, hT.sizeOf, Result.andThen_ok]
      rw [if_neg (by rw [← Array.length_toList, hu, hul]; simp)]
      rw [hat] at h0 hst
      simp only [Sem.run_bind, hu, locA, h0, Nat.zero_add]
      rw [hst, hat]
    · rfl
    · rfl
    · rfl
    · simp
    · exact fun n hn => setRow_other w _ n _ hn
  · exact .inl h
end Go.Proofs.Ytkcdomafdjpbjaa
