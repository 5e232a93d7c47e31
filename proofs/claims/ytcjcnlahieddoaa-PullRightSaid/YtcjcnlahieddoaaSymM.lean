/- What an operation does that writes or makes memory; calls. -/
import Derived.Test.YtcjcnlahieddoaaSymR
namespace Go.Proofs.Ytcjcnlahieddoaa
open Go.RowKit

/-- How a call began: the world, the blocks that it may write, where what was handed in lies. -/
structure Env where
  P : Program
  w0 : World
  O : Nat → Prop
  ρ0 : Nat → Nat × Nat
  n0 : Nat
  gl : List (Nat × SB)
structure Holds (E : Env) (ρ : Plc) (m : Mem) (w : World) : Prop where
  mem : MemOK ρ m w
  low : ∀ a A, m.look a = some A → A.isOwn → E.O (ρ.at_ a).1 ∨ E.w0.heap.size ≤ (ρ.at_ a).1
  new : ∀ i B, m.ext[i]? = some B → B.isLive → E.w0.heap.size ≤ (ρ.at_ (.n i)).1
  old : ∀ k, ρ.at_ (.o k) = E.ρ0 k
  len : m.old.length = E.n0
  gl : m.glob = E.gl
  os : w.os = E.w0.os
  tape : w.tape = E.w0.tape
  output : w.output = E.w0.output
  size : E.w0.heap.size ≤ w.heap.size
  fr : ∀ n, n < E.w0.heap.size → ¬ E.O n → w.heap[n]? = E.w0.heap[n]?

/-- A world with one block more. -/
structure Grew (w w' : World) (o : Obj) : Prop where
  heap : w'.heap = w.heap.push o
  os : w'.os = w.os
  tape : w'.tape = w.tape
  output : w'.output = w.output
theorem Grew.alloc (w : World) (o : Obj) : Grew w (w.alloc o) o := ⟨rfl, rfl, rfl, rfl⟩
theorem Grew.drewAlloc (w : World) (o : Obj) : Grew w (w.drew.alloc o) o := ⟨rfl, rfl, rfl, rfl⟩
theorem Grew.size {w w' : World} {o : Obj} (h : Grew w w' o) : w'.heap.size = w.heap.size + 1 := by rw [h.heap]; simp
theorem Grew.new {w w' : World} {o : Obj} (h : Grew w w' o) : w'.heap[w.heap.size]? = some o := by rw [h.heap]; simp
theorem Grew.old {w w' : World} {o : Obj} (h : Grew w w' o) {n : Nat} (hn : n < w.heap.size) : w'.heap[n]? = w.heap[n]? := by
  rw [h.heap, Array.getElem?_push, if_neg (by omega)]

def Plc.push (ρ : Plc) (p : Nat × Nat) : Plc := ⟨fun a => if a = .n ρ.nx then p else ρ.at_ a, ρ.nx + 1⟩
theorem Plc.push_agree (ρ : Plc) (p : Nat × Nat) : Agree ρ (ρ.push p) :=
  ⟨Nat.le_succ _, fun a h => by
    unfold push
    simp only
    rw [if_neg]
    rintro rfl
    exact Nat.lt_irrefl _ h⟩
theorem Plc.push_new (ρ : Plc) (p : Nat × Nat) : (ρ.push p).at_ (.n ρ.nx) = p := by simp [push]
def Mem.push (m : Mem) (B : SB) : Mem := { m with ext := m.ext ++ [B] }
theorem Mem.look_push {m : Mem} {B : SB} : ∀ {a : Nm} {A : SB}, (m.push B).look a = some A → (m.look a = some A ∧ a ≠ .n m.ext.length) ∨ (a = .n m.ext.length ∧ A = B)
  | .o k, A, h => .inl ⟨h, by simp⟩
  | .g x, A, h => .inl ⟨h, by simp⟩
  | .n i, A, h => by
    have h : (m.ext ++ [B])[i]? = some A := h
    by_cases hi : i < m.ext.length
    · rw [List.getElem?_append_left hi] at h
      exact .inl ⟨h, by simp; omega⟩
    · have h2 := getElem?_lt h
      simp at h2
      have : i = m.ext.length := by omega
      subst this
      simp at h
      exact .inr ⟨rfl, h.symm⟩
/-- One block more, with a name of its own. -/
theorem Holds.push {E : Env} {ρ : Plc} {m : Mem} {w w' : World} (h : Holds E ρ m w) {o : Obj} (hg : Grew w w' o) {B : SB} (hB : BlkOK (ρ.push (w.heap.size, 0)) (w.heap.size, 0) B w') :
    Holds E (ρ.push (w.heap.size, 0)) (m.push B) w' := by
  have hk := ρ.push_agree (w.heap.size, 0)
  have hat : ∀ {a A}, m.look a = some A → (ρ.push (w.heap.size, 0)).at_ a = ρ.at_ a := fun ha => hk.eq _ (h.mem.has ha)
  have hnew : (ρ.push (w.heap.size, 0)).at_ (.n m.ext.length) = (w.heap.size, 0) := by rw [← h.mem.nx]; exact ρ.push_new _
  have hlt : ∀ {a A}, m.look a = some A → A.isLive → (ρ.at_ a).1 < w.heap.size := fun ha hl => (h.mem.blk _ _ ha).lt hl
  refine ⟨⟨?_, ?_, ?_, ?_⟩, ?_, ?_, ?_, h.len, h.gl, hg.os.trans h.os, hg.tape.trans h.tape, hg.output.trans h.output, by rw [hg.size]; exact Nat.le_succ_of_le h.size, ?_⟩
  · intro a A ha
    rcases Mem.look_push ha with ⟨ha, _⟩ | ⟨rfl, rfl⟩
    · rw [hat ha]
      exact ((h.mem.blk _ _ ha).agree hk).same (by rw [hg.size]; omega) (fun hl => hg.old (hlt ha hl))
    · rw [hnew]; exact hB
  · intro a b A B' ha hb hA hB' hne
    rcases Mem.look_push ha with ⟨ha2, _⟩ | ⟨rfl, rfl⟩ <;> rcases Mem.look_push hb with ⟨hb2, _⟩ | ⟨rfl, rfl⟩
    · rw [hat ha2, hat hb2]; exact h.mem.sep _ _ _ _ ha2 hb2 hA hB' hne
    · rw [hat ha2, hnew]
      have := hlt ha2 (SB.live_of_own hA)
      exact Nat.ne_of_lt this
    · rw [hat hb2, hnew]
      have := hlt hb2 hB'
      exact (Nat.ne_of_lt this).symm
    · exact (hne rfl).elim
  · intro x
    rw [hk.eq _ (show ρ.has (.g x) from trivial)]
    exact h.mem.glob x
  · show ρ.nx + 1 = (m.ext ++ [B]).length
    rw [h.mem.nx]; simp
  · intro a A ha hA
    rcases Mem.look_push ha with ⟨ha, _⟩ | ⟨rfl, rfl⟩
    · rw [hat ha]; exact h.low _ _ ha hA
    · rw [hnew]; exact .inr h.size
  · intro i B' hi hl
    rcases Mem.look_push (a := .n i) hi with ⟨ha, _⟩ | ⟨e, rfl⟩
    · rw [hat ha]; exact h.new _ _ ha hl
    · rw [e, hnew]; exact h.size
  · intro k
    rw [hk.eq _ (show ρ.has (.o k) from trivial)]
    exact h.old k
  · intro n hn hO
    rw [hg.old (Nat.lt_of_lt_of_le hn h.size)]
    exact h.fr n hn hO

def Mem.set (m : Mem) (a : Nm) (B : SB) : Mem := match a with
  | .o k => { m with old := m.old.set k B }
  | .n i => { m with ext := m.ext.set i B }
  | .g _ => m
theorem Mem.look_set {m : Mem} {B : SB} : ∀ {a b : Nm} {A : SB}, (∀ x, a ≠ .g x) → (m.set a B).look b = some A → (b = a ∧ A = B) ∨ (b ≠ a ∧ m.look b = some A)
  | .g x, _, _, h, _ => (h x rfl).elim
  | .o k, b, A, _, h => by
    cases b with
    | o k' =>
      have h : (m.old.set k B)[k']? = some A := h
      rw [List.getElem?_set] at h
      by_cases e : k = k'
      · subst e
        rw [if_pos rfl] at h
        by_cases h2 : k < m.old.length
        · rw [if_pos h2] at h; cases h; exact .inl ⟨rfl, rfl⟩
        · rw [if_neg h2] at h; cases h
      · rw [if_neg e] at h
        exact .inr ⟨by simp; omega, h⟩
    | n i => exact .inr ⟨by simp, h⟩
    | g x => exact .inr ⟨by simp, h⟩
  | .n k, b, A, _, h => by
    cases b with
    | n k' =>
      have h : (m.ext.set k B)[k']? = some A := h
      rw [List.getElem?_set] at h
      by_cases e : k = k'
      · subst e
        rw [if_pos rfl] at h
        by_cases h2 : k < m.ext.length
        · rw [if_pos h2] at h; cases h; exact .inl ⟨rfl, rfl⟩
        · rw [if_neg h2] at h; cases h
      · rw [if_neg e] at h
        exact .inr ⟨by simp; omega, h⟩
    | o i => exact .inr ⟨by simp, h⟩
    | g x => exact .inr ⟨by simp, h⟩
/-- A block of the call's own is written. -/
theorem Holds.set {E : Env} {ρ : Plc} {m : Mem} {w w' : World} (h : Holds E ρ m w) {a : Nm} {B B' : SB} (hg : ∀ x, a ≠ .g x) (ha : m.look a = some B) (hB : B.isOwn ∨ w' = w) (hBO : B'.isOwn → B.isOwn) (hBL : B'.isLive → B.isLive)
    (hw : BlkOK ρ (ρ.at_ a) B' w') (hos : w'.os = w.os) (htape : w'.tape = w.tape) (hout : w'.output = w.output) (hsz : w'.heap.size = w.heap.size) (hot : ∀ n, n ≠ (ρ.at_ a).1 → w'.heap[n]? = w.heap[n]?) :
    Holds E ρ (m.set a B') w' := by
  have hlen : (m.set a B').ext.length = m.ext.length := by cases a <;> simp [Mem.set]
  have hlen2 : (m.set a B').old.length = m.old.length := by cases a <;> simp [Mem.set]
  have hoth : ∀ {b A}, m.look b = some A → A.isLive → b ≠ a → w'.heap[(ρ.at_ b).1]? = w.heap[(ρ.at_ b).1]? := by
    intro b A hb hl hne
    rcases hB with hB | rfl
    · exact hot _ (h.mem.sep _ _ _ _ ha hb hB hl (fun e => hne e.symm)).symm
    · rfl
  refine ⟨⟨?_, ?_, h.mem.glob, by rw [hlen]; exact h.mem.nx⟩, ?_, ?_, h.old, by rw [hlen2]; exact h.len, ?_, hos.trans h.os, htape.trans h.tape, hout.trans h.output, by rw [hsz]; exact h.size, ?_⟩
  · intro b A hb
    rcases Mem.look_set hg hb with ⟨rfl, rfl⟩ | ⟨hne, hb⟩
    · exact hw
    · exact (h.mem.blk _ _ hb).same (by omega) (fun hl => hoth hb hl hne)
  · intro b c A C hb hc hA hC hne
    rcases Mem.look_set hg hb with ⟨e1, e2⟩ | ⟨hb1, hb2⟩ <;> rcases Mem.look_set hg hc with ⟨e3, e4⟩ | ⟨hc1, hc2⟩
    · exact (hne (e1.trans e3.symm)).elim
    · rw [e1]; exact h.mem.sep _ _ _ _ ha hc2 (hBO (e2 ▸ hA)) hC (fun e => hc1 e.symm)
    · rw [e3]; exact h.mem.sep _ _ _ _ hb2 ha hA (hBL (e4 ▸ hC)) hb1
    · exact h.mem.sep _ _ _ _ hb2 hc2 hA hC hne
  · intro b A hb hA
    rcases Mem.look_set hg hb with ⟨rfl, rfl⟩ | ⟨_, hb⟩
    · exact h.low _ _ ha (hBO hA)
    · exact h.low _ _ hb hA
  · intro i A hi hl
    rcases Mem.look_set (b := .n i) hg hi with ⟨e, rfl⟩ | ⟨_, hb⟩
    · subst e
      exact h.new _ _ ha (hBL hl)
    · exact h.new _ _ hb hl
  · have : (m.set a B').glob = m.glob := by cases a <;> rfl
    rw [this]; exact h.gl
  · intro n hn hO
    rcases hB with hB | rfl
    · rw [hot n]
      · exact h.fr n hn hO
      · intro e
        rcases h.low _ _ ha hB with h1 | h1
        · rw [← e] at h1; exact hO h1
        · omega
    · exact h.fr n hn hO
/-- What is no more looked at. -/
theorem Holds.kill {E : Env} {ρ : Plc} {m : Mem} {w : World} (h : Holds E ρ m w) {a : Nm} {B : SB} (hg : ∀ x, a ≠ .g x) (ha : m.look a = some B) : Holds E ρ (m.set a .dead) w :=
  h.set hg ha (.inr rfl) (fun h => h.elim) (fun h => h.elim) trivial rfl rfl rfl rfl (fun _ _ => rfl)
end Go.Proofs.Ytcjcnlahieddoaa
