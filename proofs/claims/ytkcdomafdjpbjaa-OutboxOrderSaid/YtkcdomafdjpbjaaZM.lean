/- What an operation does that writes or makes memory; calls. -/
import Derived.Test.YtkcdomafdjpbjaaZR
namespace Go.Proofs.Ytkcdomafdjpbjaa
open Go.RowKit

/-- How a call began: the world, the blocks that it may write, where what was handed in lies. -/
structure Env where
  P : Program
  w0 : World
  O : Nat → Prop
  ρ0 : Nat → Nat × Nat
  n0 : Nat
  gl : List (Nat × SB)
  r : Option Nat := none
  q0 : Nat → Option Obj := fun _ => none
  z0 : Nat → Nat → Option Value
  gh : Nat → Value
structure Holds (E : Env) (ρ : Plc) (m : Mem) (w : World) : Prop where
  mem : MemOK ρ m w
  low : ∀ a A, m.look a = some A → A.isOwn → E.O (ρ.at_ a).1 ∨ E.w0.heap.size ≤ (ρ.at_ a).1
  new : ∀ i B, m.ext[i]? = some B → B.isLive → E.w0.heap.size ≤ (ρ.at_ (.n i)).1 ∨ ∃ o v, ρ.z (ρ.at_ (.n i)).1 o = some v
  old : ∀ k, ρ.at_ (.o k) = E.ρ0 k
  len : m.old.length = E.n0
  gl : m.glob = E.gl
  os : w.os = E.w0.os
  tape : w.tape = E.w0.tape
  output : w.output = E.w0.output
  size : E.w0.heap.size ≤ w.heap.size
  fr : ∀ n, n < E.w0.heap.size → ¬ E.O n → w.heap[n]? = E.w0.heap[n]?
  rd : (∀ b o, E.q0 b = some o → ρ.q b = some o) ∧ ∀ l, E.r = some l → ∃ rec, E.q0 l = some (.loop rec)
  ql : ∀ b ds, ρ.q b = some (.deferred ds) → E.w0.heap.size ≤ b
  zn : ∀ b o v, ρ.z b o = some v → (∃ o' v', E.z0 b o' = some v') ∨ E.w0.heap.size ≤ b
  zk : ∀ b o v, E.z0 b o = some v → ρ.z b o = some v
  gh : ρ.gh = E.gh

/-- A world with one block more. -/
structure Grew (w w' : World) (o : Obj) : Prop where
  heap : w'.heap = w.heap.push o
  os : w'.os = w.os
  tape : w'.tape = w.tape
  output : w'.output = w.output
theorem Grew.alloc (w : World) (o : Obj) : Grew w (w.alloc o) o := ⟨rfl, rfl, rfl, rfl⟩
theorem Grew.drewAlloc (w : World) (o : Obj) : Grew w (w.drew.alloc o) o := ⟨rfl, rfl, rfl, rfl⟩
theorem Grew.size {w w' : World} {o : Obj} (h : Grew w w' o) : w'.heap.size = w.heap.size + 1 := by rw [h.heap]; simp
theorem Grew.new {w w' : World} {o : Obj} (h : Grew w w' o) : w'.heap[w.heap.size]? = some o := by rw [h.heap]; simp
theorem Grew.old {w w' : World} {o : Obj} (h : Grew w w' o) {n : Nat} (hn : n < w.heap.size) : w'.heap[n]? = w.heap[n]? := by
  rw [h.heap, Array.getElem?_push, if_neg (by omega)]

theorem cell_lt {w : World} {a : Addr} {v : Value} (h : w.cell? a = some v) : a.block < w.heap.size := by
  unfold World.cell? at h
  cases ho : w.heap[a.block]? with
  | none => simp [ho] at h
  | some o => exact (Array.getElem?_eq_some_iff.1 ho).1
theorem BlkOK.cells {ρ : Plc} {b : Nat × Nat} {w : World} : ∀ {B : SB}, BlkOK ρ b B w → B.isOwn → ∃ o : Obj, w.heap[b.1]? = some o ∧ o.isCells = true
  | .box .., ⟨_, _, _, h⟩, _ => ⟨_, h, rfl⟩
  | .row .., ⟨_, _, _, _, h⟩, k => by
    obtain ⟨_, _, _, h, _⟩ := h k
    exact ⟨_, h, rfl⟩
  | .dead, _, h => h.elim
  | .ro .., _, h => h.elim
  | .cst .., _, h => h.elim
theorem MemOK.qne {ρ : Plc} {m : Mem} {w : World} (h : MemOK ρ m w) {a : Nm} {A : SB} (ha : m.look a = some A) (hO : A.isOwn) {b : Nat} {o : Obj} (hb : ρ.q b = some o) : b ≠ (ρ.at_ a).1 := by
  rintro rfl
  obtain ⟨o', h1, h2⟩ := (h.blk _ _ ha).cells hO
  obtain ⟨h3, h4⟩ := h.fq _ _ hb
  rw [h1] at h3
  cases h3
  rw [h2] at h4
  cases h4
theorem MemOK.zne {ρ : Plc} {m : Mem} {w : World} (h : MemOK ρ m w) {a : Nm} {A : SB} (ha : m.look a = some A) (hO : A.isOwn) {b o : Nat} {v : Value} (hb : ρ.z b o = some v) : b ≠ (ρ.at_ a).1 := by
  rintro rfl
  rw [h.sepz _ _ ha hO] at hb
  cases hb
def Plc.push (ρ : Plc) (p : Nat × Nat) : Plc := ⟨fun a => if a = .n ρ.nx then p else ρ.at_ a, ρ.nx + 1, ρ.z, ρ.q, ρ.gh⟩
theorem Plc.push_agree (ρ : Plc) (p : Nat × Nat) : Agree ρ (ρ.push p) :=
  ⟨Nat.le_succ _, fun a h => by
    unfold push
    simp only
    rw [if_neg]
    rintro rfl
    exact Nat.lt_irrefl _ h, fun _ _ _ h => h, fun _ _ h => h, rfl⟩
theorem Plc.push_new (ρ : Plc) (p : Nat × Nat) : (ρ.push p).at_ (.n ρ.nx) = p := by simp [push]
def Mem.push (m : Mem) (B : SB) : Mem := { m with ext := m.ext ++ [B] }
theorem Mem.look_push {m : Mem} {B : SB} : ∀ {a : Nm} {A : SB}, (m.push B).look a = some A → (m.look a = some A ∧ a ≠ .n m.ext.length) ∨ (a = .n m.ext.length ∧ A = B)
  | .o k, A, h => .inl ⟨h, by simp⟩
  | .g x, A, h => .inl ⟨h, by simp⟩
  | .n i, A, h => by
    have h : (m.ext ++ [B])[i]? = some A := h
    by_cases hi : i < m.ext.length
    · rw [List.getElem?_append_left hi] at h
      exact .inl ⟨h, by simp; omega⟩
    · have h2 := getElem?_lt h
      simp at h2
      have : i = m.ext.length := by omega
      subst this
      simp at h
      exact .inr ⟨rfl, h.symm⟩
/-- One block more, with a name of its own. -/
theorem Holds.push {E : Env} {ρ : Plc} {m : Mem} {w w' : World} (h : Holds E ρ m w) {o : Obj} (hg : Grew w w' o) {B : SB} (hB : BlkOK (ρ.push (w.heap.size, 0)) (w.heap.size, 0) B w') :
    Holds E (ρ.push (w.heap.size, 0)) (m.push B) w' := by
  have hk := ρ.push_agree (w.heap.size, 0)
  have hat : ∀ {a A}, m.look a = some A → (ρ.push (w.heap.size, 0)).at_ a = ρ.at_ a := fun ha => hk.eq _ (h.mem.has ha)
  have hnew : (ρ.push (w.heap.size, 0)).at_ (.n m.ext.length) = (w.heap.size, 0) := by rw [← h.mem.nx]; exact ρ.push_new _
  have hlt : ∀ {a A}, m.look a = some A → A.isLive → (ρ.at_ a).1 < w.heap.size := fun ha hl => (h.mem.blk _ _ ha).lt hl
  refine ⟨⟨?_, ?_, ?_, ?_, ?_, ?_, ?_⟩, ?_, ?_, ?_, h.len, h.gl, hg.os.trans h.os, hg.tape.trans h.tape, hg.output.trans h.output, by rw [hg.size]; exact Nat.le_succ_of_le h.size, ?_, h.rd, h.ql, h.zn, h.zk, h.gh⟩
  · intro a A ha
    rcases Mem.look_push ha with ⟨ha, _⟩ | ⟨rfl, rfl⟩
    · rw [hat ha]
      exact ((h.mem.blk _ _ ha).agree hk).same (by rw [hg.size]; omega) (fun hl => hg.old (hlt ha hl))
    · rw [hnew]; exact hB
  · intro a b A B' ha hb hA hB' hne
    rcases Mem.look_push ha with ⟨ha2, _⟩ | ⟨rfl, rfl⟩ <;> rcases Mem.look_push hb with ⟨hb2, _⟩ | ⟨rfl, rfl⟩
    · rw [hat ha2, hat hb2]; exact h.mem.sep _ _ _ _ ha2 hb2 hA hB' hne
    · rw [hat ha2, hnew]
      have := hlt ha2 (SB.live_of_own hA)
      exact Nat.ne_of_lt this
    · rw [hat hb2, hnew]
      have := hlt hb2 hB'
      exact (Nat.ne_of_lt this).symm
    · exact (hne rfl).elim
  · intro x
    rw [hk.eq _ (show ρ.has (.g x) from trivial)]
    exact h.mem.glob x
  · show ρ.nx + 1 = (m.ext ++ [B]).length
    rw [h.mem.nx]; simp
  · intro b o v hz
    have hc := h.mem.fz b o v hz
    rw [World.cell?_of_block (w := w) (hg.old (cell_lt hc))]
    exact hc
  · intro a A ha hA o
    rcases Mem.look_push ha with ⟨ha, _⟩ | ⟨rfl, rfl⟩
    · rw [hat ha]; exact h.mem.sepz _ _ ha hA o
    · rw [hnew]
      cases hz : (ρ.push (w.heap.size, 0)).z w.heap.size o with
      | none => rfl
      | some v => exact absurd (cell_lt (h.mem.fz _ _ _ hz)) (Nat.lt_irrefl _)
  · intro b o hq
    obtain ⟨h1, h2⟩ := h.mem.fq b o hq
    exact ⟨(hg.old (Array.getElem?_eq_some_iff.1 h1).1).trans h1, h2⟩
  · intro a A ha hA
    rcases Mem.look_push ha with ⟨ha, _⟩ | ⟨rfl, rfl⟩
    · rw [hat ha]; exact h.low _ _ ha hA
    · rw [hnew]; exact .inr h.size
  · intro i B' hi hl
    rcases Mem.look_push (a := .n i) hi with ⟨ha, _⟩ | ⟨e, rfl⟩
    · rw [hat ha]; exact h.new _ _ ha hl
    · rw [e, hnew]; exact .inl h.size
  · intro k
    rw [hk.eq _ (show ρ.has (.o k) from trivial)]
    exact h.old k
  · intro n hn hO
    rw [hg.old (Nat.lt_of_lt_of_le hn h.size)]
    exact h.fr n hn hO

def Mem.set (m : Mem) (a : Nm) (B : SB) : Mem := match a with
  | .o k => { m with old := m.old.set k B }
  | .n i => { m with ext := m.ext.set i B }
  | .g _ => m
theorem Mem.look_set {m : Mem} {B : SB} : ∀ {a b : Nm} {A : SB}, (∀ x, a ≠ .g x) → (m.set a B).look b = some A → (b = a ∧ A = B) ∨ (b ≠ a ∧ m.look b = some A)
  | .g x, _, _, h, _ => (h x rfl).elim
  | .o k, b, A, _, h => by
    cases b with
    | o k' =>
      have h : (m.old.set k B)[k']? = some A := h
      rw [List.getElem?_set] at h
      by_cases e : k = k'
      · subst e
        rw [if_pos rfl] at h
        by_cases h2 : k < m.old.length
        · rw [if_pos h2] at h; cases h; exact .inl ⟨rfl, rfl⟩
        · rw [if_neg h2] at h; cases h
      · rw [if_neg e] at h
        exact .inr ⟨by simp; omega, h⟩
    | n i => exact .inr ⟨by simp, h⟩
    | g x => exact .inr ⟨by simp, h⟩
  | .n k, b, A, _, h => by
    cases b with
    | n k' =>
      have h : (m.ext.set k B)[k']? = some A := h
      rw [List.getElem?_set] at h
      by_cases e : k = k'
      · subst e
        rw [if_pos rfl] at h
        by_cases h2 : k < m.ext.length
        · rw [if_pos h2] at h; cases h; exact .inl ⟨rfl, rfl⟩
        · rw [if_neg h2] at h; cases h
      · rw [if_neg e] at h
        exact .inr ⟨by simp; omega, h⟩
    | o i => exact .inr ⟨by simp, h⟩
    | g x => exact .inr ⟨by simp, h⟩
/-- A block of the call's own is written. -/
theorem Holds.set {E : Env} {ρ : Plc} {m : Mem} {w w' : World} (h : Holds E ρ m w) {a : Nm} {B B' : SB} (hg : ∀ x, a ≠ .g x) (ha : m.look a = some B) (hB : B.isOwn ∨ w' = w) (hBO : B'.isOwn → B.isOwn) (hBL : B'.isLive → B.isLive)
    (hw : BlkOK ρ (ρ.at_ a) B' w') (hos : w'.os = w.os) (htape : w'.tape = w.tape) (hout : w'.output = w.output) (hsz : w'.heap.size = w.heap.size) (hot : ∀ n, n ≠ (ρ.at_ a).1 → w'.heap[n]? = w.heap[n]?) :
    Holds E ρ (m.set a B') w' := by
  have hlen : (m.set a B').ext.length = m.ext.length := by cases a <;> simp [Mem.set]
  have hlen2 : (m.set a B').old.length = m.old.length := by cases a <;> simp [Mem.set]
  have hoth : ∀ {b A}, m.look b = some A → A.isLive → b ≠ a → w'.heap[(ρ.at_ b).1]? = w.heap[(ρ.at_ b).1]? := by
    intro b A hb hl hne
    rcases hB with hB | rfl
    · exact hot _ (h.mem.sep _ _ _ _ ha hb hB hl (fun e => hne e.symm)).symm
    · rfl
  refine ⟨⟨?_, ?_, h.mem.glob, by rw [hlen]; exact h.mem.nx, ?_, ?_, ?_⟩, ?_, ?_, h.old, by rw [hlen2]; exact h.len, ?_, hos.trans h.os, htape.trans h.tape, hout.trans h.output, by rw [hsz]; exact h.size, ?_, h.rd, h.ql, h.zn, h.zk, h.gh⟩
  · intro b A hb
    rcases Mem.look_set hg hb with ⟨rfl, rfl⟩ | ⟨hne, hb⟩
    · exact hw
    · exact (h.mem.blk _ _ hb).same (by omega) (fun hl => hoth hb hl hne)
  · intro b c A C hb hc hA hC hne
    rcases Mem.look_set hg hb with ⟨e1, e2⟩ | ⟨hb1, hb2⟩ <;> rcases Mem.look_set hg hc with ⟨e3, e4⟩ | ⟨hc1, hc2⟩
    · exact (hne (e1.trans e3.symm)).elim
    · rw [e1]; exact h.mem.sep _ _ _ _ ha hc2 (hBO (e2 ▸ hA)) hC (fun e => hc1 e.symm)
    · rw [e3]; exact h.mem.sep _ _ _ _ hb2 ha hA (hBL (e4 ▸ hC)) hb1
    · exact h.mem.sep _ _ _ _ hb2 hc2 hA hC hne
  · intro b o v hz
    have hc := h.mem.fz b o v hz
    rcases hB with hB | rfl
    · rw [World.cell?_of_block (w := w) (hot b (h.mem.zne ha hB hz))]
      exact hc
    · exact hc
  · intro b A hb hA o
    rcases Mem.look_set hg hb with ⟨rfl, rfl⟩ | ⟨_, hb⟩
    · exact h.mem.sepz _ _ ha (hBO hA) o
    · exact h.mem.sepz _ _ hb hA o
  · intro b o hq
    obtain ⟨h1, h2⟩ := h.mem.fq b o hq
    refine ⟨?_, h2⟩
    rcases hB with hB | rfl
    · exact (hot b (h.mem.qne ha hB hq)).trans h1
    · exact h1
  · intro b A hb hA
    rcases Mem.look_set hg hb with ⟨rfl, rfl⟩ | ⟨_, hb⟩
    · exact h.low _ _ ha (hBO hA)
    · exact h.low _ _ hb hA
  · intro i A hi hl
    rcases Mem.look_set (b := .n i) hg hi with ⟨e, rfl⟩ | ⟨_, hb⟩
    · subst e
      exact h.new _ _ ha (hBL hl)
    · exact h.new _ _ hb hl
  · have : (m.set a B').glob = m.glob := by cases a <;> rfl
    rw [this]; exact h.gl
  · intro n hn hO
    rcases hB with hB | rfl
    · rw [hot n]
      · exact h.fr n hn hO
      · intro e
        rcases h.low _ _ ha hB with h1 | h1
        · rw [← e] at h1; exact hO h1
        · omega
    · exact h.fr n hn hO
/-- What is no more looked at. -/
theorem Holds.kill {E : Env} {ρ : Plc} {m : Mem} {w : World} (h : Holds E ρ m w) {a : Nm} {B : SB} (hg : ∀ x, a ≠ .g x) (ha : m.look a = some B) : Holds E ρ (m.set a .dead) w :=
  h.set hg ha (.inr rfl) (fun h => h.elim) (fun h => h.elim) trivial rfl rfl rfl rfl (fun _ _ => rfl)

/-! ### What stays from here on -/
def Plc.frz (ρ : Plc) (w : World) (b : Nat) : Plc :=
  { ρ with z := fun b' o => match ρ.z b' o with
      | some v => some v
      | none => if b' = b then w.cell? ⟨b', o, none⟩ else none }
theorem Plc.frz_agree (ρ : Plc) (w : World) (b : Nat) : Agree ρ (ρ.frz w b) :=
  ⟨Nat.le_refl _, fun _ _ => rfl, fun b o v h => by simp only [Plc.frz, h], fun _ _ h => h, rfl⟩
theorem Plc.frz_of {ρ : Plc} {w : World} {b b' o : Nat} {v : Value} (h : (ρ.frz w b).z b' o = some v) : ρ.z b' o = some v ∨ (b' = b ∧ w.cell? ⟨b', o, none⟩ = some v) := by
  simp only [Plc.frz] at h
  cases hz : ρ.z b' o with
  | some u => rw [hz] at h; exact .inl h
  | none =>
    rw [hz] at h
    simp only at h
    split at h
    · rename_i e; exact .inr ⟨e, h⟩
    · cases h
theorem Holds.addZ {E : Env} {ρ : Plc} {m : Mem} {w : World} (h : Holds E ρ m w) {b : Nat} (hb : ∀ a A, m.look a = some A → A.isOwn → (ρ.at_ a).1 ≠ b) (hbn : E.w0.heap.size ≤ b ∨ ∃ o v, ρ.z b o = some v) : Holds E (ρ.frz w b) m w := by
  have hk := ρ.frz_agree w b
  refine ⟨⟨fun a A ha => (h.mem.blk a A ha).agree hk, h.mem.sep, h.mem.glob, h.mem.nx, fun b' o v hz => ?_, fun a A ha hO o => ?_, h.mem.fq⟩, h.low, fun i B hi hl => (h.new i B hi hl).imp id (fun ⟨o, v, hz⟩ => ⟨o, v, hk.z _ _ _ hz⟩), h.old, h.len, h.gl, h.os, h.tape, h.output, h.size, h.fr, h.rd, h.ql, fun b' o v hz => ?_, fun b' o v hz => hk.z _ _ _ (h.zk _ _ _ hz), h.gh⟩
  · rcases Plc.frz_of hz with hz | ⟨_, hc⟩
    · exact h.mem.fz _ _ _ hz
    · exact hc
  · cases hz : (ρ.frz w b).z (ρ.at_ a).1 o with
    | none => exact hz
    | some v =>
      exfalso
      rcases Plc.frz_of hz with hz | ⟨e, _⟩
      · rw [h.mem.sepz _ _ ha hO] at hz; cases hz
      · exact hb a A ha hO e
  · rcases Plc.frz_of hz with hz | ⟨rfl, _⟩
    · exact h.zn _ _ _ hz
    · exact hbn.elim .inr (fun ⟨o', v', hz'⟩ => h.zn _ _ _ hz')
theorem Holds.frzRo {E : Env} {ρ : Plc} {m : Mem} {w : World} (h : Holds E ρ m w) {i : Nat} {sz : Nat} {els : List (List CV)} (hl : m.look (.n i) = some (.ro sz els)) (hne : els ≠ []) :
    ∃ ρ', Agree ρ ρ' ∧ Holds E ρ' m w ∧ RelZ ρ'.z (ρ.at_ (.n i)).1 sz els (ρ.at_ (.n i)).2 := by
  obtain ⟨a, ea⟩ : ∃ a, a = Nm.n i := ⟨_, rfl⟩
  have hnew := h.new i _ hl hne
  rw [← ea] at hl hnew ⊢
  have hk := ρ.frz_agree w (ρ.at_ a).1
  refine ⟨ρ.frz w (ρ.at_ a).1, hk, h.addZ (fun c C hc hO => ?_) hnew, ?_⟩
  · exact h.mem.sep _ _ _ _ hc hl hO hne (fun e => by rw [e, hl] at hc; cases hc; exact hO)
  · obtain ⟨raw, hR, hb⟩ := h.mem.blk _ _ hl
    refine RelZ.of fun e c he => ?_
    obtain ⟨d, hd, h1, h2⟩ := hR.get he
    refine ⟨d, h1.mono hk.z, h2, fun j u hu => ?_⟩
    have hc := (hb.2 e d hd).2 j u hu
    simp only [Plc.frz]
    cases hz : ρ.z (ρ.at_ a).1 ((ρ.at_ a).2 + (e * sz + j)) with
    | some v =>
      have := h.mem.fz _ _ _ hz
      rw [hc] at this
      exact this.symm
    | none => simp only [if_true]; exact hc
theorem row_ro {ρ : Plc} {b : Nat × Nat} {t sz cap : Nat} {els : List (List CV)} {w : World} (h : BlkOK ρ b (.row t sz cap els) w) : BlkOK ρ b (.ro sz els) w := by
  obtain ⟨raw, hR, h0, h1, h2⟩ := h
  have hc : ∀ {e : Nat} {c}, raw[e]? = some c → cap ≠ 0 := fun he => by have := getElem?_lt he; omega
  refine ⟨raw, hR, fun hne => ?_, fun e c he => ⟨h1 c (List.mem_of_getElem? he), fun j u hu => ?_⟩⟩
  · have : cap ≠ 0 := by
      intro hc0
      subst hc0
      exact hne (List.eq_nil_of_length_eq_zero (by omega))
    obtain ⟨_, _, cur, hw, _⟩ := h2 this
    exact (Array.getElem?_eq_some_iff.1 hw).1
  · obtain ⟨e0, _, cur, hw, hcs, htk⟩ := h2 (hc he)
    rw [e0, Nat.zero_add, cell_of_row w _ _ _ _ _ hw]
    have := flatten_get (fun c hc => (h1 c hc).1) he hu
    rw [← htk, List.getElem?_take] at this
    split at this
    · simpa using this
    · cases this
/-- A row of the call's own is written no more. -/
theorem Holds.toRo {E : Env} {ρ : Plc} {m : Mem} {w : World} (h : Holds E ρ m w) {i t sz cap : Nat} {els : List (List CV)} (hl : m.look (.n i) = some (.row t sz cap els)) : Holds E ρ (m.set (.n i) (.ro sz els)) w :=
  h.set (by simp) hl (.inr rfl) (fun h => h.elim) (fun hne hc0 => hne (by
    obtain ⟨raw, hR, h0, _⟩ := h.mem.blk _ _ hl
    subst hc0
    exact List.eq_nil_of_length_eq_zero (by have := hR.1; omega))) (row_ro (h.mem.blk _ _ hl)) rfl rfl rfl rfl (fun _ _ => rfl)
theorem Mem.look_set_same {m : Mem} {i : Nat} {B C : SB} (h : m.look (.n i) = some B) : (m.set (.n i) C).look (.n i) = some C := by
  have hi : i < m.ext.length := getElem?_lt (show m.ext[i]? = some B from h)
  show (m.ext.set i C)[i]? = some C
  simp [hi]

/-- A value's cells as they stay: rows of the call's own that they tell of are written no more. -/
def frzK (m : Mem) (x : SV) (K : Mem → CV → Prop) (other : Prop) : Prop := match x with
  | .v x => match x.oneCell' with
    | true => K m (.v x)
    | false => other
  | .z sz els _ => K m (.z sz els)
  | .s (.n b) sz e len _ => match m.look (.n b) with
    | some (.row _ sz2 _ els) => (sz2 = sz ∧ e + len ≤ els.length) ∧ K (m.set (.n b) (.ro sz2 els)) (.z sz ((els.drop e).take len))
    | some (.ro sz2 els) => (sz2 = sz ∧ e + len ≤ els.length) ∧ K m (.z sz ((els.drop e).take len))
    | _ => other
  | _ => other
def frzL : List SV → Mem → (Mem → List CV → Prop) → Prop → Prop
  | [], m, K, _ => K m []
  | x :: l, m, K, o => frzK m x (fun m c => frzL l m (fun m r => K m (c :: r)) o) o
theorem frzK_sound {E : Env} {ρ : Plc} {m : Mem} {w : World} (hH : Holds E ρ m w) {x : SV} {u : Value} (hx : Rel ρ x u) {K : Mem → CV → Prop} {other : Prop} (h : frzK m x K other) :
    other ∨ ∃ ρ' m' c, Agree ρ ρ' ∧ Holds E ρ' m' w ∧ RelC ρ'.z c u ∧ K m' c := by
  have ro : ∀ {m : Mem} {b sz e len cap : Nat} {els : List (List CV)}, Holds E ρ m w → m.look (.n b) = some (.ro sz els) → Rel ρ (.s (.n b) sz e len cap) u → e + len ≤ els.length → K m (.z sz ((els.drop e).take len)) →
      ∃ ρ' m' c, Agree ρ ρ' ∧ Holds E ρ' m' w ∧ RelC ρ'.z c u ∧ K m' c := by
    intro m b sz e len cap els hH hl hx hle hK
    unfold Rel at hx
    obtain ⟨ad, rfl, hlc, hcap⟩ := hx
    have hlen : ((els.drop e).take len).length = len := by simp; omega
    by_cases h0 : len = 0
    · refine ⟨ρ, m, _, Agree.refl ρ, hH, ?_, hK⟩
      unfold RelC
      have hnil : (els.drop e).take len = [] := List.eq_nil_of_length_eq_zero (by rw [hlen, h0])
      exact ⟨ad, cap, by rw [hlen], by rw [hlen]; exact hlc, hcap.imp id fun ⟨had, _⟩ => ⟨_, _, had, by rw [hnil]; unfold RelZ; trivial⟩⟩
    · obtain ⟨ρ', hk, hH', hz⟩ := hH.frzRo hl (by rintro rfl; simp at hle; omega)
      refine ⟨ρ', m, _, hk, hH', ?_, hK⟩
      obtain ⟨had, _⟩ := hcap.resolve_left (by omega)
      unfold RelC
      exact ⟨ad, cap, by rw [hlen], by rw [hlen]; exact hlc, .inr ⟨_, (ρ.at_ (.n b)).2 + e * sz, had, (hz.drop e).take len⟩⟩
  unfold frzK at h
  split at h
  · split at h
    · rename_i ho
      unfold Rel at hx
      exact .inr ⟨ρ, m, _, Agree.refl ρ, hH, by unfold RelC; exact ⟨hx, ho⟩, h⟩
    · exact .inl h
  · unfold Rel at hx
    obtain ⟨ad, h1, h2, h3⟩ := hx
    exact .inr ⟨ρ, m, _, Agree.refl ρ, hH, by unfold RelC; exact ⟨ad, _, h1, h2, h3⟩, h⟩
  · split at h
    · rename_i hl
      obtain ⟨⟨rfl, hle⟩, h⟩ := h
      exact .inr (ro (hH.toRo hl) (Mem.look_set_same hl) hx hle h)
    · rename_i hl
      obtain ⟨⟨rfl, hle⟩, h⟩ := h
      exact .inr (ro hH hl hx hle h)
    · exact .inl h
  · exact .inl h
theorem frzL_sound {E : Env} : ∀ {l : List SV} {ρ : Plc} {m : Mem} {w : World} {us : List Value} {K : Mem → List CV → Prop} {other : Prop}, Holds E ρ m w → RelL ρ l us → frzL l m K other →
    other ∨ ∃ ρ' m' cs, Agree ρ ρ' ∧ Holds E ρ' m' w ∧ RelK ρ'.z cs us ∧ K m' cs
  | [], ρ, m, w, us, K, other, hH, hr, h => by
    unfold RelL at hr
    subst hr
    exact .inr ⟨ρ, m, [], Agree.refl ρ, hH, by unfold RelK; rfl, h⟩
  | x :: l, ρ, m, w, us, K, other, hH, hr, h => by
    unfold RelL at hr
    obtain ⟨u, r, rfl, hu, hr⟩ := hr
    unfold frzL at h
    rcases frzK_sound hH hu h with h | ⟨ρ1, m1, c, k1, hH1, hc, h⟩
    · exact .inl h
    rcases frzL_sound hH1 (hr.agree k1) h with h | ⟨ρ2, m2, cs, k2, hH2, hcs, h⟩
    · exact .inl h
    · exact .inr ⟨ρ2, m2, c :: cs, k1.trans k2, hH2, by unfold RelK; exact ⟨u, r, rfl, hc.mono k2.z, hcs⟩, h⟩
end Go.Proofs.Ytkcdomafdjpbjaa
