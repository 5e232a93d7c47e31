/- Loops; small words for the walks by computing. -/
import Derived.Test.YtkcdomafdjpbjaaZF
import Derived.LoopNIn
namespace Go.Proofs.Ytkcdomafdjpbjaa
open Go.RowKit

theorem assoc_mem {α : Type} : ∀ {l : List (Nat × α)} {t : Nat} {x : α}, assoc l t = some x → (t, x) ∈ l
  | [], t, x, h => by simp [assoc] at h
  | (k, v) :: l, t, x, h => by
    rw [assoc_cons] at h
    split at h
    · rename_i e; subst e; cases h; exact List.mem_cons_self
    · exact List.mem_cons_of_mem _ (assoc_mem h)
theorem noOwn_nil : noOwn [] := fun x b h => by simp [assoc] at h

theorem relL_const {ρ : Plc} : ∀ us : List Value, RelL ρ (us.map constV) us
  | [] => by simp only [List.map_nil]; unfold RelL; rfl
  | u :: us => by
    simp only [List.map_cons]
    unfold RelL
    exact ⟨u, us, rfl, Rel.const u, relL_const us⟩
theorem relL_of {ρ : Plc} {args : List SV} {us : List Value} (h : args = us.map constV) : RelL ρ args us := h ▸ relL_const us
/-- What a law's call owes. -/
theorem yes_of_fn {P : Program} {f : Nat} {bs : List SB} {args : List SV} {G : List (Nat × SB)} (h : FnOK P G f bs args fun r _ ext => r = .v (.bool true) ∧ ext = []) {w : World} {us : List Value} {ρ : Plc} (hq : ∀ b, ρ.q b = none) (hm : MemOK ρ ⟨G, bs, []⟩ w) (hr : RelL ρ args us)
    (hO : ∀ (k : Nat) (b : SB), bs[k]? = some b → ¬ b.isOwn) : Calls P f us.toArray w (Yes w) := by
  refine (h.out ρ w us hq hm hr).mono ?_
  rintro e w' ⟨ρ', r, bs', ext, u, rfl, hH, hu, rfl, _⟩
  unfold Rel at hu
  subst hu
  exact ⟨rfl, hH.os, hH.tape, hH.output, hH.size, fun n hn => hH.fr n hn (fun ⟨k, b, hb, ho, _⟩ => hO k b hb ho)⟩

/-! ### Fewer names -/
def subN (names : List Nat) (base : Nat) : Nm → Nm
  | .n k => .n (names.getD k base)
  | a => a
/-- A cell is told so: the slice of nothing as one of no elements. -/
def LeC (c c' : CV) : Prop := c = c' ∨ ∃ sz, c' = .z sz [] ∧ c = .v (.slice none 0 0)
def LeK : List CV → List CV → Prop
  | [], [] => True
  | x :: l, y :: l' => LeC x y ∧ LeK l l'
  | _, _ => False
def LeEls : List (List CV) → List (List CV) → Prop
  | [], [] => True
  | x :: l, y :: l' => LeK x y ∧ LeEls l l'
  | _, _ => False
theorem LeK.refl : ∀ l : List CV, LeK l l
  | [] => trivial
  | _ :: l => ⟨.inl rfl, LeK.refl l⟩
theorem LeEls.refl : ∀ l : List (List CV), LeEls l l
  | [] => trivial
  | x :: l => ⟨LeK.refl x, LeEls.refl l⟩
theorem LeEls.append : ∀ {l l' r r' : List (List CV)}, LeEls l l' → LeEls r r' → LeEls (l ++ r) (l' ++ r')
  | [], [], _, _, _, h => h
  | _ :: _, _ :: _, _, _, h, k => ⟨h.1, LeEls.append h.2 k⟩
  | [], _ :: _, _, _, h, _ => h.elim
  | _ :: _, [], _, _, h, _ => h.elim
theorem LeK.rel {Z : Nat → Nat → Option Value} : ∀ {l l' : List CV} {us : List Value}, LeK l l' → RelK Z l us → RelK Z l' us
  | [], [], us, _, h => h
  | x :: l, y :: l', us, h, hu => by
    unfold RelK at hu ⊢
    obtain ⟨u, r, h1, h2, h3⟩ := hu
    refine ⟨u, r, h1, ?_, LeK.rel h.2 h3⟩
    rcases h.1 with rfl | ⟨sz, rfl, rfl⟩
    · exact h2
    · unfold RelC at h2 ⊢
      exact ⟨none, 0, h2.1, Nat.le_refl _, .inl rfl⟩
  | [], _ :: _, _, h, _ => h.elim
  | _ :: _, [], _, h, _ => h.elim
theorem LeEls.len : ∀ {l l' : List (List CV)}, LeEls l l' → l.length = l'.length
  | [], [], _ => rfl
  | _ :: l, _ :: l', h => by simp [LeEls.len h.2]
  | [], _ :: _, h => h.elim
  | _ :: _, [], h => h.elim
theorem LeEls.get : ∀ {l l' : List (List CV)}, LeEls l l' → ∀ {e : Nat} {c' : List CV}, l'[e]? = some c' → ∃ c, l[e]? = some c ∧ LeK c c'
  | [], [], _, e, c', h => by simp at h
  | x :: l, y :: l', h, e, c', k => by
    cases e with
    | zero => simp at k; subst k; exact ⟨x, rfl, h.1⟩
    | succ e => simpa using LeEls.get h.2 (e := e) (by simpa using k)
  | [], _ :: _, h, _, _, _ => h.elim
  | _ :: _, [], h, _, _, _ => h.elim
theorem LeEls.rel {Z : Nat → Nat → Option Value} {sz : Nat} {l l' : List (List CV)} {raw : List (List Value)} (h : LeEls l l') (k : RelR Z sz l raw) : RelR Z sz l' raw :=
  ⟨k.1.trans h.len, fun e c' d h1 h2 => by
    obtain ⟨c, h3, h4⟩ := h.get h1
    exact ⟨h4.rel (k.2 e c d h3 h2).1, (k.2 e c d h3 h2).2⟩⟩
/-- What was known of a block says what is told of it. -/
def LeB (σ : Nm → Nm) (B : Option SB) : SB → Prop
  | .dead => True
  | .row t sz cap els => ((cap = 0 ∧ els = []) ∨ ∃ more, B = some (.row t sz cap (els ++ more))) ∨ B = some (.row t sz cap els) ∨ ∃ els0, B = some (.row t sz cap els0) ∧ LeEls els0 els
  | .box t cells => B = some (.box t (renL σ cells))
  | .ro sz els => els = [] ∨ B = some (.ro sz els) ∨ ∃ t cap, B = some (.row t sz cap els)
  | .cst t cells => B = some (.cst t (renL σ cells)) ∨ B = some (.box t (renL σ cells))
def SubExt (σ : Nm → Nm) (ext : List SB) : List Nat → List SB → Prop
  | [], [] => True
  | i :: is, B :: bs => LeB σ ext[i]? B ∧ SubExt σ ext is bs
  | _, _ => False
theorem SubExt.get {σ : Nm → Nm} {ext : List SB} : ∀ {is : List Nat} {bs : List SB}, SubExt σ ext is bs → is.length = bs.length ∧ ∀ {k : Nat} {B : SB}, bs[k]? = some B → ∃ i, is[k]? = some i ∧ LeB σ ext[i]? B
  | [], [], _ => ⟨rfl, fun h => by simp at h⟩
  | i :: is, B :: bs, h => by
    obtain ⟨h1, h2⟩ := h.2.get
    refine ⟨by simp [h1], fun {k C} e => ?_⟩
    cases k with
    | zero => simp at e; subst e; exact ⟨i, rfl, h.1⟩
    | succ k => simpa using h2 (k := k) (by simpa using e)
  | [], _ :: _, h => h.elim
  | _ :: _, [], h => h.elim
def SubOld (σ : Nm → Nm) : List SB → List SB → Prop
  | [], [] => True
  | A :: l, B :: bs => LeB σ (some A) B ∧ SubOld σ l bs
  | _, _ => False
theorem SubOld.get {σ : Nm → Nm} : ∀ {l bs : List SB}, SubOld σ l bs → l.length = bs.length ∧ ∀ {k : Nat} {B : SB}, bs[k]? = some B → ∃ A, l[k]? = some A ∧ LeB σ (some A) B
  | [], [], _ => ⟨rfl, fun h => by simp at h⟩
  | A :: l, B :: bs, h => by
    obtain ⟨h1, h2⟩ := h.2.get
    refine ⟨by simp [h1], fun {k C} e => ?_⟩
    cases k with
    | zero => simp at e; subst e; exact ⟨A, rfl, h.1⟩
    | succ k => simpa using h2 (k := k) (by simpa using e)
  | [], _ :: _, h => h.elim
  | _ :: _, [], h => h.elim
theorem LeB.ok {ρ ρ' : Plc} {σ : Nm → Nm} (hz : ∀ b o v, ρ.z b o = some v → ρ'.z b o = some v) (hun : ∀ a, ρ.has (σ a) → ρ'.has a ∧ ρ.at_ (σ a) = ρ'.at_ a) {b : Nat × Nat} {w : World} {B : Option SB} : ∀ {C : SB}, LeB σ B C → (∀ A, B = some A → BlkOK ρ b A w) →
    BlkOK ρ' b C w ∧ (C.isLive → ∃ A, B = some A ∧ A.isLive) ∧ (C.isOwn → ∃ A, B = some A ∧ A.isOwn)
  | .dead, _, _ => ⟨trivial, fun h => h.elim, fun h => h.elim⟩
  | .row t sz cap els, h, hB => by
    rcases h with (⟨rfl, rfl⟩ | ⟨more, h⟩) | h | ⟨els0, h, hle⟩
    · exact ⟨⟨[], RelR.nil, Nat.le_refl _, (fun c hc => by cases hc), fun h => (h rfl).elim⟩, fun h => (h rfl).elim, fun h => (h rfl).elim⟩
    · obtain ⟨raw, hR, h1, h2, h3⟩ := hB _ h
      have hR1 := hR.take els.length
      rw [List.take_left' rfl] at hR1
      have hRl := hR.1
      rw [List.length_append] at hRl
      have hraw : raw = raw.take els.length ++ raw.drop els.length := (List.take_append_drop _ _).symm
      refine ⟨⟨raw.take els.length, hR1.mono hz, by rw [hR1.1]; omega, fun c hc => h2 c (List.mem_of_mem_take hc), fun hc => ?_⟩, fun hl => ⟨_, h, hl⟩, fun hl => ⟨_, h, hl⟩⟩
      obtain ⟨h4, h5, cur, h6, h7, h8⟩ := h3 hc
      refine ⟨h4, h5, cur, h6, h7, ?_⟩
      have hlen : (raw.take els.length).flatten.length = els.length * sz := by rw [flatten_len fun d hd => (h2 d (List.mem_of_mem_take hd)).1, hR1.1]
      have e1 : raw.flatten.take (els.length * sz) = (raw.take els.length).flatten := by
        conv => lhs; rw [hraw]
        rw [List.flatten_append, List.take_append_of_le_length (Nat.le_of_eq hlen.symm), List.take_of_length_le (Nat.le_of_eq hlen)]
      rw [hR1.1, ← e1, ← h8, List.take_take, Nat.min_eq_left (Nat.mul_le_mul_right _ (by omega))]
    · exact ⟨(hB _ h).rowz hz, fun hl => ⟨_, h, hl⟩, fun hl => ⟨_, h, hl⟩⟩
    · obtain ⟨raw, hR, h1⟩ := hB _ h
      exact ⟨⟨raw, (hle.rel hR).mono hz, h1⟩, fun hl => ⟨_, h, hl⟩, fun hl => ⟨_, h, hl⟩⟩
  | .box t cells, h, hB => by
    obtain ⟨h1, us, h2, h3⟩ := hB _ h
    exact ⟨⟨h1, us, RelL.unren hz hun h2, h3⟩, fun _ => ⟨_, h, trivial⟩, fun _ => ⟨_, h, trivial⟩⟩
  | .cst t cells, h, hB => by
    rcases h with h | h
    · obtain ⟨h1, us, h2, h3⟩ := hB _ h
      exact ⟨⟨h1, us, RelL.unren hz hun h2, h3⟩, fun _ => ⟨_, h, trivial⟩, fun h => h.elim⟩
    · obtain ⟨h1, us, h2, h3⟩ := hB _ h
      exact ⟨⟨h1, us, RelL.unren hz hun h2, h3⟩, fun _ => ⟨_, h, trivial⟩, fun h => h.elim⟩
  | .ro sz els, h, hB => by
    rcases h with rfl | h | ⟨t, cap, h⟩
    · exact ⟨⟨[], RelR.nil, fun h => (h rfl).elim, fun e c he => by simp at he⟩, fun h => (h rfl).elim, fun h => h.elim⟩
    · exact ⟨(hB _ h).roz hz, fun hl => ⟨_, h, hl⟩, fun h => h.elim⟩
    · have := viewB_ok (ρ' := ρ') hz (B := .row t sz cap els) (C := .ro sz els) ⟨rfl, rfl⟩ (hB _ h)
      exact ⟨this.1, fun hl => ⟨_, h, this.2.2 hl⟩, fun h => h.elim⟩
theorem subHolds {E : Env} {ρ : Plc} {m : Mem} {w : World} (h : Holds E ρ m w) (hG : noOwn m.glob) {names : List Nat} (hnd : names.Nodup) {ext' old' : List SB} (ho : SubOld (subN names m.ext.length) m.old old') (hx : SubExt (subN names m.ext.length) m.ext names ext') :
    ∃ ρ', Holds E ρ' { glob := m.glob, old := old', ext := ext' } w ∧ (∀ a, ρ.has (subN names m.ext.length a) → ρ'.has a ∧ ρ.at_ (subN names m.ext.length a) = ρ'.at_ a) ∧ ρ'.z = ρ.z ∧ ρ'.q = ρ.q ∧ ρ'.gh = ρ.gh := by
  obtain ⟨hlen, hget⟩ := hx.get
  obtain ⟨holen, hoget⟩ := ho.get
  obtain ⟨ρ', hρ'⟩ : ∃ ρ' : Plc, ρ' = ⟨fun | .n k => ρ.at_ (.n (names.getD k m.ext.length)) | a => ρ.at_ a, ext'.length, ρ.z, ρ.q, ρ.gh⟩ := ⟨_, rfl⟩
  have hGh : ρ'.gh = ρ.gh := by rw [hρ']
  have hZ : ρ'.z = ρ.z := by rw [hρ']
  have hQ : ρ'.q = ρ.q := by rw [hρ']
  have hz1 : ∀ b o v, ρ.z b o = some v → ρ'.z b o = some v := fun b o v h => by rw [hZ]; exact h
  have hat : ∀ a, ρ'.at_ a = ρ.at_ (subN names m.ext.length a) := fun a => by rw [hρ']; cases a <;> rfl
  have hun : ∀ a, ρ.has (subN names m.ext.length a) → ρ'.has a ∧ ρ.at_ (subN names m.ext.length a) = ρ'.at_ a := by
    intro a ha
    refine ⟨?_, (hat a).symm⟩
    cases a with
    | o k => trivial
    | g x => trivial
    | n k =>
      have ha : names.getD k m.ext.length < ρ.nx := ha
      rw [h.mem.nx] at ha
      show k < ρ'.nx
      rw [hρ']
      simp only
      rw [← hlen]
      by_cases hk : k < names.length
      · exact hk
      · rw [List.getD_eq_getElem?_getD, List.getElem?_eq_none (by omega)] at ha
        simp at ha
  -- a block of the new list, as it was
  have hnew : ∀ {k : Nat} {C : SB}, ext'[k]? = some C → ∃ i, names[k]? = some i ∧ ρ'.at_ (.n k) = ρ.at_ (.n i) ∧ BlkOK ρ' (ρ'.at_ (.n k)) C w ∧ (C.isLive → ∃ A, m.ext[i]? = some A ∧ A.isLive) ∧ (C.isOwn → ∃ A, m.ext[i]? = some A ∧ A.isOwn) := by
    intro k C hC
    obtain ⟨i, hi, hle⟩ := hget hC
    have e : ρ'.at_ (.n k) = ρ.at_ (.n i) := by
      rw [hat]
      show ρ.at_ (.n (names.getD k m.ext.length)) = _
      rw [List.getD_eq_getElem?_getD, hi]; rfl
    have := LeB.ok (b := ρ.at_ (.n i)) (w := w) hz1 hun hle (fun A hA => h.mem.blk (.n i) A hA)
    exact ⟨i, hi, e, by rw [e]; exact this.1, this.2⟩
  have hold : ∀ {k : Nat} {C : SB}, old'[k]? = some C → BlkOK ρ' (ρ'.at_ (.o k)) C w ∧ (C.isLive → ∃ A, m.old[k]? = some A ∧ A.isLive) ∧ (C.isOwn → ∃ A, m.old[k]? = some A ∧ A.isOwn) := by
    intro k C hC
    obtain ⟨A, hA, hle⟩ := hoget hC
    have := LeB.ok (b := ρ.at_ (.o k)) (w := w) hz1 hun hle (fun A' hA' => by cases hA'; exact h.mem.blk (.o k) A hA)
    rw [hat]
    refine ⟨this.1, fun hl => ?_, fun hl => ?_⟩
    · obtain ⟨A', h1, h2⟩ := this.2.1 hl; cases h1; exact ⟨A, hA, h2⟩
    · obtain ⟨A', h1, h2⟩ := this.2.2 hl; cases h1; exact ⟨A, hA, h2⟩
  have cls : ∀ {a : Nm} {A : SB}, (Mem.mk m.glob old' ext').look a = some A → (A.isLive → ∃ A', m.look (subN names m.ext.length a) = some A' ∧ A'.isLive) ∧ (A.isOwn → ∃ A', m.look (subN names m.ext.length a) = some A' ∧ A'.isOwn) ∧ BlkOK ρ' (ρ'.at_ a) A w := by
    intro a A hA
    cases a with
    | n k =>
      obtain ⟨i, hi, e, hb, h1, h2⟩ := hnew hA
      have : subN names m.ext.length (.n k) = .n i := by
        show Nm.n (names.getD k m.ext.length) = _
        rw [List.getD_eq_getElem?_getD, hi]; rfl
      rw [this]
      exact ⟨h1, h2, hb⟩
    | o k =>
      obtain ⟨hb, h1, h2⟩ := hold hA
      exact ⟨h1, h2, hb⟩
    | g k =>
      refine ⟨fun hl => ⟨A, hA, hl⟩, fun hl => ⟨A, hA, hl⟩, ?_⟩
      have hb := h.mem.blk (.g k) A hA
      rw [hat]
      cases A with
      | dead => trivial
      | ro sz els => exact hb.roz hz1
      | box t cells => exact (hG k _ hA trivial).elim
      | cst t cells => exact (hG k _ hA trivial).elim
      | row t sz cap els => exact hb.rowz hz1
  refine ⟨ρ', ⟨⟨?_, ?_, ?_, ?_, (by rw [hZ]; exact h.mem.fz), ?_, (by rw [hQ]; exact h.mem.fq)⟩, ?_, ?_, ?_, by rw [← h.len]; exact holen.symm, h.gl, h.os, h.tape, h.output, h.size, h.fr, (by rw [hQ]; exact h.rd), (by rw [hQ]; exact h.ql), (by rw [hZ]; exact h.zn), (by rw [hZ]; exact h.zk), hGh.trans h.gh⟩, hun, hZ, hQ, hGh⟩
  · intro a A hA
    exact (cls hA).2.2
  · intro a b A B hA hB hO hL hne
    obtain ⟨A', hA', hO'⟩ := (cls hA).2.1 hO
    obtain ⟨B', hB', hL'⟩ := (cls hB).1 hL
    rw [hat, hat]
    refine h.mem.sep _ _ _ _ hA' hB' hO' hL' ?_
    intro he
    apply hne
    cases a with
    | o k => cases b with
      | o k' => exact he
      | n k' => cases he
      | g k' => cases he
    | g k => cases b with
      | g k' => exact he
      | n k' => cases he
      | o k' => cases he
    | n k => cases b with
      | o k' => cases he
      | g k' => cases he
      | n k' =>
        obtain ⟨i, hi, _⟩ := hnew hA
        obtain ⟨j, hj, _⟩ := hnew hB
        have he : Nm.n (names.getD k m.ext.length) = .n (names.getD k' m.ext.length) := he
        rw [List.getD_eq_getElem?_getD, List.getD_eq_getElem?_getD, hi, hj] at he
        injection he with he
        simp only [Option.getD_some] at he
        subst he
        congr 1
        exact (List.getElem?_inj (getElem?_lt hi) hnd).1 (hi.trans hj.symm)
  · intro x
    rw [hat]
    exact h.mem.glob x
  · rw [hρ']
  · intro a A hA hO o
    obtain ⟨A', hA', hO'⟩ := (cls hA).2.1 hO
    rw [hat, hZ]
    exact h.mem.sepz _ A' hA' hO' o
  · intro a A hA hO
    obtain ⟨A', hA', hO'⟩ := (cls hA).2.1 hO
    rw [hat]
    exact h.low _ A' hA' hO'
  · intro k B hB hl
    obtain ⟨i, hi, e, _, h1, _⟩ := hnew hB
    obtain ⟨A', hA', hL'⟩ := h1 hl
    rw [e, hZ]
    exact h.new i A' hA' hL'
  · intro k
    rw [hat]
    exact h.old k

/-- .. and of several. -/
def LeR (σ : Nm → Nm) (r r' : SV) : Prop := LeV σ r r' ∨ ∃ l l', r = .tup l ∧ r' = .tup l' ∧ LeVs σ l l'
theorem LeR.rel {ρ ρ' : Plc} {σ : Nm → Nm} (hz : ∀ b o v, ρ'.z b o = some v → ρ.z b o = some v) (hh : ∀ a, ρ'.has (σ a) → ρ.has a ∧ ρ'.at_ (σ a) = ρ.at_ a) {r r' : SV} {u : Value} (h : LeR σ r r') (hu : Rel ρ' r u) : Rel ρ r' u := by
  rcases h with h | ⟨l, l', rfl, rfl, h⟩
  · exact h.rel hz hh hu
  · unfold Rel at hu ⊢
    obtain ⟨us, h1, h2⟩ := hu
    exact ⟨us, h1, h.rel hz hh h2⟩
/-- What is handed back is told of fewer blocks. -/
theorem FnOK.gcR {P : Program} {G : List (Nat × SB)} (hG : noOwn G) {f : Nat} {bs : List SB} {args : List SV} {K : SV → List SB → List SB → Prop}
    (h : FnOK P G f bs args fun r bs' ext => ∃ names r' bs'' ext', names.Nodup ∧ LeR (subN names ext.length) r r' ∧ SubOld (subN names ext.length) bs' bs'' ∧ SubExt (subN names ext.length) ext names ext' ∧ K r' bs'' ext') : FnOK P G f bs args K := by
  refine ⟨h.ent, fun ρ w us hq hm hr => (h.out ρ w us hq hm hr).mono ?_⟩
  rintro e w' ⟨ρ', r, bs', ext, u, rfl, hH, hu, names, r', bs'', ext', h1, h2, h3, h4, h5⟩
  obtain ⟨ρ2, k1, k2, kz, kq, kg⟩ := subHolds hH hG h1 h3 h4
  exact ⟨ρ2, r', bs'', ext', u, rfl, k1, h2.rel (fun b o v h => by rw [kz]; exact h) k2 hu, h5⟩
theorem FnOK.gc {P : Program} {G : List (Nat × SB)} (hG : noOwn G) {f : Nat} {bs : List SB} {args : List SV} {K : SV → List SB → List SB → Prop}
    (h : FnOK P G f bs args fun r bs' ext => ∃ names r' bs'' ext', names.Nodup ∧ r = r'.ren (subN names ext.length) ∧ SubOld (subN names ext.length) bs' bs'' ∧ SubExt (subN names ext.length) ext names ext' ∧ K r' bs'' ext') : FnOK P G f bs args K :=
  FnOK.gcR hG (h.mono fun _ _ _ ⟨names, r', bs'', ext', h1, h2, h3⟩ => ⟨names, r', bs'', ext', h1, .inl (.inl h2), h3⟩)
def oldRo : List SB → Bool
  | [] => true
  | .ro .. :: l => oldRo l
  | .row .. :: l => oldRo l
  | .dead :: l => oldRo l
  | .box .. :: _ => false
  | .cst .. :: _ => false
theorem SubOld.refl (σ : Nm → Nm) : ∀ {l : List SB}, oldRo l = true → SubOld σ l l
  | [], _ => trivial
  | .ro .. :: l, h => ⟨.inr (.inl rfl), SubOld.refl σ (l := l) h⟩
  | .row .. :: l, h => ⟨.inr (.inl rfl), SubOld.refl σ (l := l) h⟩
  | .dead :: l, h => ⟨trivial, SubOld.refl σ (l := l) h⟩
  | .box .. :: _, h => by cases h
  | .cst .. :: _, h => by cases h
/-- The end of a walk. -/
structure Fin (p : Prop) : Prop where
  out : p
/-- A function that hands back a value with no memory of its own. -/
theorem fn_val {C : Seat} (hC : C.ok) (pl : List (Nat × PT)) {G : List (Nat × SB)} (hG : noOwn G) {f : Nat} {fn : Func} {c : Code} (hf : C.P.funcs[f]? = some fn) (hb : fn.body = some c) (hname : (fn.name == "runtime.NumGoroutine") = false)
    {bs : List SB} {args : List SV} {nt : Nat} {rs : List ResultVar} (hnt : fn.ntmps = nt) (hrs : fn.results.toList = rs) (hn : Nat.ble args.length nt = true) {X : SV} (hX : ∀ σ : Nm → Nm, X.ren σ = X) (hbs : oldRo bs = true) (h : startK args nt ⟨G, bs, []⟩ fun s => vc C pl c s (retK C.toCtx rs fun r bs' _ => Fin (r = X ∧ bs' = bs))) :
    FnOK C.P G f bs args fun r _ ext => r = X ∧ ext = [] := by
  refine FnOK.gc hG ((fn_intro hC pl hG hf hb hname hnt hrs hn h).mono ?_)
  rintro r bs' ext ⟨rfl, rfl⟩
  exact ⟨[], r, bs', [], List.nodup_nil, (hX _).symm, SubOld.refl _ hbs, trivial, rfl, rfl⟩

theorem num_eq {k : IntKind} {a b : Int} (h : a = b) : SV.v (.int k a) = .v (.int k b) := by rw [h]
theorem bool_eq {a b : Bool} (h : a = b) : SV.v (.bool a) = .v (.bool b) := by rw [h]
theorem fin_num {k : IntKind} {a b : Int} {bs bs' : List SB} (h : a = b) (h2 : bs = bs') : Fin (SV.v (.int k a) = .v (.int k b) ∧ bs = bs') := ⟨by rw [h], h2⟩
theorem fin_bool {a b : Bool} {bs bs' : List SB} (h : a = b) (h2 : bs = bs') : Fin (SV.v (.bool a) = .v (.bool b) ∧ bs = bs') := ⟨by rw [h], h2⟩
/-- The same, of whatever value that is told. -/
theorem fn_ex {C : Seat} (hC : C.ok) (pl : List (Nat × PT)) {G : List (Nat × SB)} (hG : noOwn G) {f : Nat} {fn : Func} {c : Code} (hf : C.P.funcs[f]? = some fn) (hb : fn.body = some c) (hname : (fn.name == "runtime.NumGoroutine") = false)
    {bs : List SB} {args : List SV} {nt : Nat} {rs : List ResultVar} (hnt : fn.ntmps = nt) (hrs : fn.results.toList = rs) (hn : Nat.ble args.length nt = true) {Q : SV → Prop} (hQ : ∀ (σ : Nm → Nm) r, Q r → r.ren σ = r) (hbs : oldRo bs = true)
    (h : startK args nt ⟨G, bs, []⟩ fun s => vc C pl c s (retK C.toCtx rs fun r bs' _ => Fin (Q r ∧ bs' = bs))) :
    FnOK C.P G f bs args fun r _ ext => Q r ∧ ext = [] := by
  refine FnOK.gc hG ((fn_intro hC pl hG hf hb hname hnt hrs hn h).mono ?_)
  rintro r bs' ext ⟨h1, rfl⟩
  exact ⟨[], r, bs', [], List.nodup_nil, (hQ _ _ h1).symm, SubOld.refl _ hbs, trivial, h1, rfl⟩
/-- A function that hands back memory of its own: the blocks that are kept, by their names. -/
theorem fn_new {C : Seat} (hC : C.ok) (pl : List (Nat × PT)) {G : List (Nat × SB)} (hG : noOwn G) {f : Nat} {fn : Func} {c : Code} (hf : C.P.funcs[f]? = some fn) (hb : fn.body = some c) (hname : (fn.name == "runtime.NumGoroutine") = false)
    {bs : List SB} {args : List SV} {nt : Nat} {rs : List ResultVar} (hnt : fn.ntmps = nt) (hrs : fn.results.toList = rs) (hn : Nat.ble args.length nt = true) {Q : SV → List SB → Prop} (hbs : oldRo bs = true)
    (h : startK args nt ⟨G, bs, []⟩ fun s => vc C pl c s (retK C.toCtx rs fun r bs' ext => Fin ((∃ names r' ext', names.Nodup ∧ r = r'.ren (subN names ext.length) ∧ SubExt (subN names ext.length) ext names ext' ∧ Q r' ext') ∧ bs' = bs))) :
    FnOK C.P G f bs args fun r _ ext => Q r ext := by
  refine FnOK.gc hG ((fn_intro hC pl hG hf hb hname hnt hrs hn h).mono ?_)
  rintro r bs' ext ⟨⟨names, r', ext', h1, h2, h3, h4⟩, rfl⟩
  exact ⟨names, r', bs', ext', h1, h2, SubOld.refl _ hbs, h3, h4⟩
/-- The same, of a slice of nothing too. -/
theorem fn_newR {C : Seat} (hC : C.ok) (pl : List (Nat × PT)) {G : List (Nat × SB)} (hG : noOwn G) {f : Nat} {fn : Func} {c : Code} (hf : C.P.funcs[f]? = some fn) (hb : fn.body = some c) (hname : (fn.name == "runtime.NumGoroutine") = false)
    {bs : List SB} {args : List SV} {nt : Nat} {rs : List ResultVar} (hnt : fn.ntmps = nt) (hrs : fn.results.toList = rs) (hn : Nat.ble args.length nt = true) {Q : SV → List SB → Prop} (hbs : oldRo bs = true)
    (h : startK args nt ⟨G, bs, []⟩ fun s => vc C pl c s (retK C.toCtx rs fun r bs' ext => Fin ((∃ names r' ext', names.Nodup ∧ LeR (subN names ext.length) r r' ∧ SubExt (subN names ext.length) ext names ext' ∧ Q r' ext') ∧ bs' = bs))) :
    FnOK C.P G f bs args fun r _ ext => Q r ext := by
  refine FnOK.gcR hG ((fn_intro hC pl hG hf hb hname hnt hrs hn h).mono ?_)
  rintro r bs' ext ⟨⟨names, r', ext', h1, h2, h3, h4⟩, rfl⟩
  exact ⟨names, r', bs', ext', h1, h2, SubOld.refl _ hbs, h3, h4⟩
theorem fn_new2 {C : Seat} (hC : C.ok) (pl : List (Nat × PT)) {G : List (Nat × SB)} (hG : noOwn G) {f : Nat} {fn : Func} {c : Code} (hf : C.P.funcs[f]? = some fn) (hb : fn.body = some c) (hname : (fn.name == "runtime.NumGoroutine") = false)
    {bs : List SB} {args : List SV} {nt : Nat} {rs : List ResultVar} (hnt : fn.ntmps = nt) (hrs : fn.results.toList = rs) (hn : Nat.ble args.length nt = true) {Q : SV → List SB → Prop} (hbs : ∀ names base, SubOld (subN names base) bs bs)
    (h : startK args nt ⟨G, bs, []⟩ fun s => vc C pl c s (retK C.toCtx rs fun r bs' ext => Fin ((∃ names r' ext', names.Nodup ∧ r = r'.ren (subN names ext.length) ∧ SubExt (subN names ext.length) ext names ext' ∧ Q r' ext') ∧ bs' = bs))) :
    FnOK C.P G f bs args fun r bs' ext => bs' = bs ∧ Q r ext := by
  refine FnOK.gc hG ((fn_intro hC pl hG hf hb hname hnt hrs hn h).mono ?_)
  rintro r bs' ext ⟨⟨names, r', ext', h1, h2, h3, h4⟩, rfl⟩
  exact ⟨names, r', bs', ext', h1, h2, hbs _ _, h3, rfl, h4⟩

/-! ### Loops -/
/-- What is known is also known so, of fewer blocks. -/
def LeSlots (σ : Nm → Nm) (s : St) : List (Nat × SV) → Prop
  | [] => True
  | (t, x) :: l => LeV σ (s.get t) x ∧ LeSlots σ s l
theorem LeSlots.get {σ : Nm → Nm} {s : St} : ∀ {l : List (Nat × SV)}, LeSlots σ s l → ∀ {t : Nat} {x : SV}, assoc l t = some x → LeV σ (s.get t) x
  | [], _, t, x, h => by simp [assoc] at h
  | (k, y) :: l, h, t, x, e => by
    rw [assoc_cons] at e
    split at e
    · rename_i hk; subst hk; cases e; exact h.1
    · exact h.2.get e
structure Ref (s t : St) : Prop where
  names : ∃ names : List Nat, names.Nodup ∧ noOwn s.mem.glob ∧ t.mem.glob = s.mem.glob ∧ SubOld (subN names s.mem.ext.length) s.mem.old t.mem.old ∧ SubExt (subN names s.mem.ext.length) s.mem.ext names t.mem.ext ∧ LeSlots (subN names s.mem.ext.length) s t.slots
  nt : t.nt = s.nt
theorem Ref.use {s t : St} (h : Ref s t) {E : Env} {ρ : Plc} {a : Act} {w : World} (ha : ActOK ρ s a) (hH : Holds E ρ s.mem w) : ∃ ρ', ActOK ρ' t a ∧ Holds E ρ' t.mem w := by
  obtain ⟨names, h1, h2, h3, h4, h5, h6⟩ := h.names
  obtain ⟨ρ2, k1, k2, kz, kq, kg⟩ := subHolds hH h2 h1 h4 h5
  refine ⟨ρ2, ⟨fun x => ?_, by rw [h.nt]; exact ha.size, by rw [kq]; exact ha.defers⟩, ?_⟩
  · unfold St.get
    cases e : assoc t.slots x with
    | none => simp only; unfold Rel; trivial
    | some y =>
      simp only
      rw [tmpAt_gh kg, h.nt]
      exact (h6.get e).rel (fun b o v h => by rw [kz]; exact h) k2 (ha.rel x)
  · cases hm : t.mem with
    | mk g o x =>
      rw [hm] at h3
      simp only at h3
      rw [hm] at k1
      rw [h3]
      exact k1
/-- The same, where the first names stay. -/
structure RefP (k : Nat) (s t : St) : Prop where
  names : ∃ names : List Nat, names.Nodup ∧ names.take k = List.range k ∧ noOwn s.mem.glob ∧ t.mem.glob = s.mem.glob ∧ SubOld (subN names s.mem.ext.length) s.mem.old t.mem.old ∧ SubExt (subN names s.mem.ext.length) s.mem.ext names t.mem.ext ∧ LeSlots (subN names s.mem.ext.length) s t.slots
  nt : t.nt = s.nt
theorem PSem.join {C : Seat} {ops : Array Oper} {soft : Option (List Nm)} {m0 : Mem} {y : PT} {s t : St} {K : St → Prop} (hr : RefP m0.ext.length s t) (h : forceSt t fun t => PSem C ops soft m0 y t K) : PSem C ops soft m0 y s K := by
  have h := forceSt_spec (K := fun t => PSem C ops soft m0 y t K) h
  refine ⟨fun hE Q nt ρ0 w0 h0 hg0 KW ρ a w hn hk ha hH hS hQ => ?_⟩
  obtain ⟨names, h1, hpre, h2, h3, h4, h5, h6⟩ := hr.names
  obtain ⟨ρ2, k1, k2, kz, kq, kg⟩ := subHolds hH h2 h1 h4 h5
  have hA : ActOK ρ2 t a := by
    refine ⟨fun x => ?_, by rw [hr.nt]; exact ha.size, by rw [kq]; exact ha.defers⟩
    unfold St.get
    cases e : assoc t.slots x with
    | none => simp only; unfold Rel; trivial
    | some y =>
      simp only
      rw [tmpAt_gh kg, hr.nt]
      exact (h6.get e).rel (fun b o v h => by rw [kz]; exact h) k2 (ha.rel x)
  have hM : t.mem = ⟨s.mem.glob, t.mem.old, t.mem.ext⟩ := by rw [← h3]
  have hidx : ∀ i, i < m0.ext.length → names.getD i s.mem.ext.length = i := by
    intro i hi
    have : (names.take m0.ext.length)[i]? = some i := by rw [hpre]; simp [hi]
    rw [List.getElem?_take, if_pos hi] at this
    rw [List.getD_eq_getElem?_getD, this]; rfl
  have hnm : ∀ a, ρ0.has a → ρ2.has a ∧ ρ2.at_ a = ρ0.at_ a := by
    intro a ha0
    have hσ : subN names s.mem.ext.length a = a := by
      cases a with
      | n i =>
        show Nm.n (names.getD i s.mem.ext.length) = _
        rw [hidx i (by have : i < ρ0.nx := ha0; rw [h0.nx] at this; exact this)]
      | o k => rfl
      | g x => rfl
    have hhas := hk.has ha0
    have := k2 a (by rw [hσ]; exact hhas)
    rw [hσ] at this
    exact ⟨this.1, this.2.symm.trans (hk.eq a ha0)⟩
  have hk2 : Agree ρ0 ρ2 := by
    refine ⟨?_, fun a ha0 => (hnm a ha0).2, fun b o v h => by rw [kz]; exact hk.z b o v h, fun b o h => by rw [kq]; exact hk.q b o h, kg.trans hk.gh⟩
    cases hz : ρ0.nx with
    | zero => exact Nat.zero_le _
    | succ n => exact (hnm (.n n) (show n < ρ0.nx by omega)).1
  have hSe : S0 ρ0 (softM soft m0) w0 ρ = S0 ρ0 (softM soft m0) w0 ρ2 := by unfold S0; rw [kz]
  rw [hSe] at hS ⊢
  exact h.out hE h0 hg0 (by rw [hr.nt]; exact hn) hk2 hA (by rw [hM]; exact k1) hS (fun ρ' st' a' w' g1 gz g2 g3 g4 g5 g6 => hQ ρ' st' a' w' g1 (fun b o v h => gz b o v (by rw [kz]; exact h)) g2 g3 g4 g5 g6)
/-- A loop, by what holds at each round's head. -/
theorem loop_rule {P : Program} {b : Code} {st : St} {K : Exit → St → Prop} {α : Type} (Inv : α → Prop) (S : α → St) (μ : α → Nat) (x0 : α) (h0 : Inv x0) (hs : Ref st (S x0))
    (round : ∀ x, Inv x → OKs P b (S x) fun e s => match e with
      | .normal => forceSt s fun s => ∃ x', Inv x' ∧ μ x' < μ x ∧ Ref s (S x')
      | e => K e s) (hnt : ∀ x, (S x).nt = st.nt) : OKs P (.loop b) st K := by
  refine ⟨fun E ρ a w hE ha hH => ?_⟩
  obtain ⟨ρ1, h1, h2⟩ := hs.use ha hH
  have key : ∀ n x, μ x < n → Inv x → ∀ ρ a w, ActOK ρ (S x) a → Holds E ρ (S x).mem w → Code.roundsIn (fenceR E.r) 0 P b (CPost E st.nt K) n a w := by
    intro n
    induction n with
    | zero => intro x hn; omega
    | succ n ih =>
      intro x hn hI ρ a w ha hH
      rw [roundsIn_succ]
      refine wpIn_mono ((round x hI).out E ρ a w hE ha hH) ?_
      intro e a' w' hp
      cases e with
      | normal =>
        obtain ⟨ρ', s, k1, k2, k3, hq⟩ := hp
        obtain ⟨x', k4, k5, k6⟩ := forceSt_spec (K := fun s => ∃ x', Inv x' ∧ μ x' < μ x ∧ Ref s (S x')) hq
        obtain ⟨ρ2, k7, k8⟩ := k6.use k1 k2
        exact ih x' (by omega) k4 ρ2 a' w' k7 k8
      | exit i => obtain ⟨ρ', s, k1, k2, k3, k4⟩ := hp; exact ⟨ρ', s, k1, k2, k3.trans (hnt x), k4⟩
      | ret => obtain ⟨ρ', s, k1, k2, k3, k4⟩ := hp; exact ⟨ρ', s, k1, k2, k3.trans (hnt x), k4⟩
      | goto l => exact hp
      | panic l => exact hp
      | outgrown => exact hp
  exact wpIn_loop_rounds (μ x0 + 1) (key _ x0 (by omega) h0 ρ1 a w h1 h2)
/-- A loop, round by round. -/
def Rounds (P : Program) (b : Code) (nt : Nat) : Nat → St → (Exit → St → Prop) → Prop
  | 0, _, _ => False
  | n + 1, st, K => st.nt = nt ∧ OKs P b st fun e s => match e with
    | .normal => forceSt s fun s => Rounds P b nt n s K
    | e => K e s
theorem loop_rounds {P : Program} {b : Code} {st : St} {K : Exit → St → Prop} (n : Nat) (h : Rounds P b st.nt n st K) : OKs P (.loop b) st K := by
  refine ⟨fun E ρ a w hE ha hH => ?_⟩
  have key : ∀ n s ρ a w, Rounds P b st.nt n s K → ActOK ρ s a → Holds E ρ s.mem w → Code.roundsIn (fenceR E.r) 0 P b (CPost E st.nt K) n a w := by
    intro n
    induction n with
    | zero => intro s ρ a w h; exact h.elim
    | succ n ih =>
      intro s ρ a w h ha hH
      obtain ⟨hn, h⟩ := h
      rw [roundsIn_succ]
      refine wpIn_mono (h.out E ρ a w hE ha hH) ?_
      intro e a' w' hp
      cases e with
      | normal =>
        obtain ⟨ρ', s', k1, k2, k3, k4⟩ := hp
        exact ih s' ρ' a' w' (forceSt_spec (K := fun s => Rounds P b st.nt n s K) k4) k1 k2
      | exit i => obtain ⟨ρ', s', k1, k2, k3, k4⟩ := hp; exact ⟨ρ', s', k1, k2, k3.trans hn, k4⟩
      | ret => obtain ⟨ρ', s', k1, k2, k3, k4⟩ := hp; exact ⟨ρ', s', k1, k2, k3.trans hn, k4⟩
      | goto l => exact hp
      | panic l => exact hp
      | outgrown => exact hp
  exact wpIn_loop_rounds n (key n st ρ a w h ha hH)
/-! Bundles of equations: one word each. -/
theorem boolSet :
    (∀ a : Bool, (a && true) = a) ∧ (∀ a b : Bool, ((a && b) = true) = (a = true ∧ b = true)) ∧ (∀ a b : Bool, ((a && b) = false) = (a = false ∨ b = false)) ∧
    (∀ a b : Bool, ((a || b) = true) = (a = true ∨ b = true)) ∧ (∀ a b : Bool, ((a || b) = false) = (a = false ∧ b = false)) ∧
    (∀ a : Bool, ((!a) = true) = (a = false)) ∧ (∀ a : Bool, ((!a) = false) = (a = true)) ∧
    (∀ a b : Int, ((a == b) = true) = (a = b)) ∧ (∀ a b : Int, ((a == b) = false) = ¬(a = b)) ∧ (∀ a b : Int, ((a != b) = true) = ¬(a = b)) ∧ (∀ a b : Int, ((a != b) = false) = (a = b)) ∧
    (∀ a b : Bool, ((a == b) = true) = (a = true ↔ b = true)) ∧ (∀ a b : Bool, ((a == b) = false) = ¬(a = true ↔ b = true)) ∧ (∀ a b : Bool, ((a != b) = true) = ¬(a = true ↔ b = true)) ∧ (∀ a b : Bool, ((a != b) = false) = (a = true ↔ b = true)) ∧
    (∀ (p : Prop) [Decidable p], (decide p = true) = p) ∧ (∀ (p : Prop) [Decidable p], (decide p = false) = ¬p) ∧
    (∀ a b : Int, cond true a b = a) ∧ (∀ a b : Int, cond false a b = b) ∧
    ((false = true) = False) ∧ ((true = false) = False) ∧ (∀ p : Prop, (True ↔ p) = p) ∧ (∀ p : Prop, (p ↔ True) = p) ∧ (∀ p : Prop, (False ↔ p) = ¬p) ∧ (∀ p : Prop, (p ↔ False) = ¬p) ∧
    ((¬True) = False) ∧ ((¬False) = True) ∧ (∀ p : Prop, (True ∧ p) = p) ∧ (∀ p : Prop, (p ∧ True) = p) ∧ (∀ p : Prop, (False ∧ p) = False) ∧ (∀ p : Prop, (p ∧ False) = False) ∧ (∀ p : Prop, (False ∨ p) = p) ∧ (∀ p : Prop, (p ∨ False) = p) ∧
    (eqInts [] [] = true) ∧ (∀ (x y : Int) (xs ys : List Int), eqInts (x :: xs) (y :: ys) = (x == y && eqInts xs ys)) := by
  refine ⟨?_, ?_, ?_, ?_, ?_, ?_, ?_, ?_, ?_, ?_, ?_, ?_, ?_, ?_, ?_, ?_, ?_, ?_, ?_, ?_, ?_, ?_, ?_, ?_, ?_, ?_, ?_, ?_, ?_, ?_, ?_, ?_, ?_, ?_, ?_⟩ <;> intros <;> first
    | rfl
    | (simp; done)
    | (rename_i a b; cases a <;> cases b <;> simp)
theorem wrapSet : (type_of% @IntKind.wrap_i32) ∧ (type_of% @IntKind.wrap_i64) ∧ (type_of% @IntKind.wrap_u8) ∧ (type_of% @IntKind.wrap_u16) ∧ (type_of% @IntKind.wrap_u32) ∧ (type_of% @IntKind.wrap_u64) :=
  ⟨@IntKind.wrap_i32, @IntKind.wrap_i64, @IntKind.wrap_u8, @IntKind.wrap_u16, @IntKind.wrap_u32, @IntKind.wrap_u64⟩
end Go.Proofs.Ytkcdomafdjpbjaa
