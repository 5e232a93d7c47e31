/- Walks by computing: what is known of a call's slots and memory is a value; what an operation does to it is a function; what is left to show comes out by evaluation. -/
import Derived.Test.YtkcdomafdjpbjaaPlan
import Derived.OwnWalk
import Derived.RangeFuncNested
import Derived.RangeFuncLeaves
namespace Go.Proofs.Ytkcdomafdjpbjaa
open Go.RowKit

/-- A block's name: one that was there when the call began, one that came since, a package-level variable. -/
inductive Nm where
  | o (k : Nat) | n (i : Nat) | g (x : Nat)
  deriving DecidableEq

/-- A cell that stays: a value, or a slice whose elements stay. -/
inductive CV where
  | v (x : Value)
  | z (sz : Nat) (els : List (List CV))
/-- A value, as far as it is known; z: a slice whose elements stay as they are, zp: a pointer to such cells. -/
inductive SV where
  | any
  | v (x : Value)
  | z (sz : Nat) (els : List (List CV)) (cap : Nat)
  | zp (cells : List CV)
  | p (a : Nm) (e sz f : Nat)
  | s (a : Nm) (sz e len cap : Nat)
  | agg (l : List SV)
  | tup (l : List SV)
  | fn (f : Nat) (cap : List SV)
  | bm (f : Nat) (recv : List SV)

/-- A block, as far as it is known. -/
inductive SB where
  | dead
  | ro (sz : Nat) (els : List (List CV))
  | box (t : Nat) (cells : List SV)
  | row (t sz cap : Nat) (els : List (List CV))
  | cst (t : Nat) (cells : List SV)

structure Mem where
  glob : List (Nat × SB)
  old : List SB
  ext : List SB

def assoc {α : Type} : List (Nat × α) → Nat → Option α
  | [], _ => none
  | (k, v) :: r, t => bif Nat.beq k t then some v else assoc r t
def Mem.look (m : Mem) : Nm → Option SB
  | .o k => m.old[k]?
  | .n i => m.ext[i]?
  | .g x => assoc m.glob x

/-- Where the blocks lie; so many have come since the call began. -/
structure Plc where
  at_ : Nm → Nat × Nat
  nx : Nat
  z : Nat → Nat → Option Value
  q : Nat → Option Obj
  gh : Nat → Value
def Plc.has (ρ : Plc) : Nm → Prop
  | .n i => i < ρ.nx
  | _ => True
def locA (ρ : Plc) (a : Nm) (off : Nat) : Addr := ⟨(ρ.at_ a).1, (ρ.at_ a).2 + off, none⟩
structure Agree (ρ ρ' : Plc) : Prop where
  le : ρ.nx ≤ ρ'.nx
  eq : ∀ a, ρ.has a → ρ'.at_ a = ρ.at_ a
  z : ∀ b o v, ρ.z b o = some v → ρ'.z b o = some v
  q : ∀ b o, ρ.q b = some o → ρ'.q b = some o
  gh : ρ'.gh = ρ.gh
theorem Agree.has {ρ ρ' : Plc} (k : Agree ρ ρ') : ∀ {a : Nm}, ρ.has a → ρ'.has a
  | .n _, h => Nat.lt_of_lt_of_le h k.le
  | .o _, _ => trivial
  | .g _, _ => trivial
theorem Agree.refl (ρ : Plc) : Agree ρ ρ := ⟨Nat.le_refl _, fun _ _ => rfl, fun _ _ _ h => h, fun _ _ h => h, rfl⟩
theorem Agree.trans {ρ ρ' ρ'' : Plc} (h : Agree ρ ρ') (k : Agree ρ' ρ'') : Agree ρ ρ'' := ⟨Nat.le_trans h.le k.le, fun a ha => (k.eq a (h.has ha)).trans (h.eq a ha), fun b o v e => k.z b o v (h.z b o v e), fun b o e => k.q b o (h.q b o e), k.gh.trans h.gh⟩
theorem Agree.loc {ρ ρ' : Plc} (k : Agree ρ ρ') {a : Nm} (h : ρ.has a) (off : Nat) : locA ρ' a off = locA ρ a off := by unfold locA; rw [k.eq a h]

/-! Cells that stay. -/
mutual
def RelC (Z : Nat → Nat → Option Value) : CV → Value → Prop
  | .v x, u => u = x ∧ x.oneCell' = true
  | .z sz els, u => ∃ ad cap, u = .slice ad els.length cap ∧ els.length ≤ cap ∧ (cap = 0 ∨ ∃ b o, ad = some ⟨b, o, none⟩ ∧ RelZ Z b sz els o)
def RelK (Z : Nat → Nat → Option Value) : List CV → List Value → Prop
  | [], us => us = []
  | c :: l, us => ∃ u r, us = u :: r ∧ RelC Z c u ∧ RelK Z l r
def RelZ (Z : Nat → Nat → Option Value) (b sz : Nat) : List (List CV) → Nat → Prop
  | [], _ => True
  | c :: els, o => (∃ us, RelK Z c us ∧ us.length = sz ∧ ∀ (j : Nat) u, us[j]? = some u → Z b (o + j) = some u) ∧ RelZ Z b sz els (o + sz)
end
mutual
theorem RelC.mono {Z Z' : Nat → Nat → Option Value} (h : ∀ b o v, Z b o = some v → Z' b o = some v) : ∀ {c : CV} {u : Value}, RelC Z c u → RelC Z' c u
  | .v x, u, hr => by unfold RelC at *; exact hr
  | .z sz els, u, hr => by
    unfold RelC at *
    obtain ⟨ad, cap, h1, h2, h3⟩ := hr
    exact ⟨ad, cap, h1, h2, h3.imp id fun ⟨b, o, e, k⟩ => ⟨b, o, e, RelZ.mono h k⟩⟩
theorem RelK.mono {Z Z' : Nat → Nat → Option Value} (h : ∀ b o v, Z b o = some v → Z' b o = some v) : ∀ {l : List CV} {us : List Value}, RelK Z l us → RelK Z' l us
  | [], us, hr => by unfold RelK at *; exact hr
  | c :: l, us, hr => by
    unfold RelK at *
    obtain ⟨u, r, h1, h2, h3⟩ := hr
    exact ⟨u, r, h1, RelC.mono h h2, RelK.mono h h3⟩
theorem RelZ.mono {Z Z' : Nat → Nat → Option Value} (h : ∀ b o v, Z b o = some v → Z' b o = some v) {b sz : Nat} : ∀ {els : List (List CV)} {o : Nat}, RelZ Z b sz els o → RelZ Z' b sz els o
  | [], _, _ => by unfold RelZ; trivial
  | c :: els, o, hr => by
    unfold RelZ at *
    obtain ⟨⟨us, h1, h2, h3⟩, h4⟩ := hr
    exact ⟨⟨us, RelK.mono h h1, h2, fun j u e => h _ _ _ (h3 j u e)⟩, RelZ.mono h h4⟩
end
theorem RelC.one {Z : Nat → Nat → Option Value} : ∀ {c : CV} {u : Value}, RelC Z c u → u.oneCell' = true
  | .v x, u, h => by unfold RelC at h; rw [h.1]; exact h.2
  | .z .., u, h => by unfold RelC at h; obtain ⟨ad, cap, rfl, _⟩ := h; rfl
theorem RelK.len {Z : Nat → Nat → Option Value} : ∀ {l : List CV} {us : List Value}, RelK Z l us → us.length = l.length
  | [], us, h => by unfold RelK at h; subst h; rfl
  | _ :: l, us, h => by
    unfold RelK at h
    obtain ⟨u, r, rfl, _, h⟩ := h
    simp [h.len]
theorem RelK.get {Z : Nat → Nat → Option Value} : ∀ {l : List CV} {us : List Value}, RelK Z l us → ∀ {i : Nat} {x : CV}, l[i]? = some x → ∃ u, us[i]? = some u ∧ RelC Z x u
  | [], us, _, i, x, e => by simp at e
  | y :: l, us, h, i, x, e => by
    unfold RelK at h
    obtain ⟨u, r, rfl, hu, h⟩ := h
    cases i with
    | zero => simp at e; subst e; exact ⟨u, rfl, hu⟩
    | succ i => simp at e; simpa using h.get e
theorem RelK.of {Z : Nat → Nat → Option Value} : ∀ {l : List CV} {us : List Value}, us.length = l.length → (∀ (i : Nat) (x : CV) (u : Value), l[i]? = some x → us[i]? = some u → RelC Z x u) → RelK Z l us
  | [], us, h, _ => by unfold RelK; exact List.eq_nil_of_length_eq_zero (by simpa using h)
  | y :: l, [], h, _ => by simp at h
  | y :: l, u :: us, h, k => by
    unfold RelK
    exact ⟨u, us, rfl, k 0 y u rfl rfl, RelK.of (by simpa using h) (fun i x w h1 h2 => k (i + 1) x w (by simpa using h1) (by simpa using h2))⟩
theorem RelK.append {Z : Nat → Nat → Option Value} : ∀ {l : List CV} {us : List Value} {l' : List CV} {us' : List Value}, RelK Z l us → RelK Z l' us' → RelK Z (l ++ l') (us ++ us')
  | [], us, _, _, h, k => by
    unfold RelK at h
    subst h; exact k
  | _ :: l, us, _, _, h, k => by
    unfold RelK at h
    obtain ⟨u, r, rfl, hu, h⟩ := h
    simp only [List.cons_append]
    unfold RelK
    exact ⟨u, _, rfl, hu, h.append k⟩
theorem RelK.drop {Z : Nat → Nat → Option Value} {l : List CV} {us : List Value} (h : RelK Z l us) (k : Nat) : RelK Z (l.drop k) (us.drop k) :=
  .of (by simp [h.len]) fun i x u h1 h2 => by
    rw [List.getElem?_drop] at h1 h2
    obtain ⟨u', e, hr⟩ := h.get h1
    rw [h2] at e
    cases e
    exact hr
theorem RelK.take {Z : Nat → Nat → Option Value} {l : List CV} {us : List Value} (h : RelK Z l us) (k : Nat) : RelK Z (l.take k) (us.take k) :=
  .of (by simp [h.len]) fun i x u h1 h2 => by
    rw [List.getElem?_take] at h1 h2
    split at h1
    · rename_i hlt
      rw [if_pos hlt] at h2
      obtain ⟨u', e, hr⟩ := h.get h1
      rw [h2] at e
      cases e
      exact hr
    · cases h1
theorem RelK.one {Z : Nat → Nat → Option Value} : ∀ {l : List CV} {us : List Value}, RelK Z l us → ∀ u ∈ us, u.oneCell' = true
  | [], us, h, u, hu => by unfold RelK at h; subst h; cases hu
  | _ :: l, us, h, u, hu => by
    unfold RelK at h
    obtain ⟨u0, r, rfl, h0, h⟩ := h
    rcases List.mem_cons.1 hu with rfl | hu
    · exact h0.one
    · exact h.one u hu
theorem RelK.vals {Z : Nat → Nat → Option Value} {us : List Value} (h : ∀ u ∈ us, u.oneCell' = true) : RelK Z (us.map .v) us :=
  .of (by simp) fun i x u h1 h2 => by
    simp [h2] at h1
    subst h1
    unfold RelC
    exact ⟨rfl, h u (List.mem_of_getElem? h2)⟩
/-- Elements, each as it is known. -/
def RelR (Z : Nat → Nat → Option Value) (sz : Nat) (els : List (List CV)) (raw : List (List Value)) : Prop :=
  raw.length = els.length ∧ ∀ (e : Nat) c d, els[e]? = some c → raw[e]? = some d → RelK Z c d ∧ d.length = sz
theorem RelR.mono {Z Z' : Nat → Nat → Option Value} (h : ∀ b o v, Z b o = some v → Z' b o = some v) {sz : Nat} {els : List (List CV)} {raw : List (List Value)} (k : RelR Z sz els raw) : RelR Z' sz els raw :=
  ⟨k.1, fun e c d h1 h2 => ⟨(k.2 e c d h1 h2).1.mono h, (k.2 e c d h1 h2).2⟩⟩
theorem RelR.nil {Z : Nat → Nat → Option Value} {sz : Nat} : RelR Z sz [] [] := ⟨rfl, fun e c d h => by simp at h⟩
theorem RelR.get {Z : Nat → Nat → Option Value} {sz : Nat} {els : List (List CV)} {raw : List (List Value)} (k : RelR Z sz els raw) {e : Nat} {c : List CV} (h : els[e]? = some c) : ∃ d, raw[e]? = some d ∧ RelK Z c d ∧ d.length = sz := by
  have hl : e < els.length := (List.getElem?_eq_some_iff.1 h).1
  have hr := List.getElem?_eq_getElem (show e < raw.length by rw [k.1]; exact hl)
  exact ⟨_, hr, k.2 e c _ h hr⟩
theorem RelR.get' {Z : Nat → Nat → Option Value} {sz : Nat} {els : List (List CV)} {raw : List (List Value)} (k : RelR Z sz els raw) {e : Nat} {d : List Value} (h : raw[e]? = some d) : ∃ c, els[e]? = some c ∧ RelK Z c d ∧ d.length = sz := by
  have hl : e < raw.length := (List.getElem?_eq_some_iff.1 h).1
  have hr := List.getElem?_eq_getElem (show e < els.length by rw [← k.1]; exact hl)
  exact ⟨_, hr, k.2 e _ _ hr h⟩
theorem RelR.append {Z : Nat → Nat → Option Value} {sz : Nat} {els els' : List (List CV)} {raw raw' : List (List Value)} (h : RelR Z sz els raw) (k : RelR Z sz els' raw') : RelR Z sz (els ++ els') (raw ++ raw') :=
  ⟨by simp [h.1, k.1], fun e c d h1 h2 => by
    rw [List.getElem?_append] at h1 h2
    rw [h.1] at h2
    split at h1
    · rename_i hl; rw [if_pos hl] at h2; exact h.2 e c d h1 h2
    · rename_i hl; rw [if_neg hl] at h2; exact k.2 _ c d h1 h2⟩
theorem RelR.drop {Z : Nat → Nat → Option Value} {sz : Nat} {els : List (List CV)} {raw : List (List Value)} (h : RelR Z sz els raw) (n : Nat) : RelR Z sz (els.drop n) (raw.drop n) :=
  ⟨by simp [h.1], fun e c d h1 h2 => by rw [List.getElem?_drop] at h1 h2; exact h.2 _ c d h1 h2⟩
theorem RelR.take {Z : Nat → Nat → Option Value} {sz : Nat} {els : List (List CV)} {raw : List (List Value)} (h : RelR Z sz els raw) (n : Nat) : RelR Z sz (els.take n) (raw.take n) :=
  ⟨by simp [h.1], fun e c d h1 h2 => by
    rw [List.getElem?_take] at h1 h2
    split at h1
    · rename_i hl; rw [if_pos hl] at h2; exact h.2 _ c d h1 h2
    · cases h1⟩
theorem RelR.set {Z : Nat → Nat → Option Value} {sz : Nat} {els : List (List CV)} {raw : List (List Value)} (h : RelR Z sz els raw) (n : Nat) {c : List CV} {d : List Value} (hc : RelK Z c d) (hd : d.length = sz) : RelR Z sz (els.set n c) (raw.set n d) :=
  ⟨by simp [h.1], fun e c' d' h1 h2 => by
    rw [List.getElem?_set] at h1 h2
    rw [h.1] at h2
    by_cases hk : n = e
    · subst hk
      simp only [if_true] at h1 h2
      split at h1
      · rename_i hl; rw [if_pos hl] at h2; cases h1; cases h2; exact ⟨hc, hd⟩
      · cases h1
    · rw [if_neg hk] at h1 h2; exact h.2 _ _ _ h1 h2⟩
theorem RelR.replicate {Z : Nat → Nat → Option Value} {sz n : Nat} {c : List CV} {d : List Value} (hc : RelK Z c d) (hd : d.length = sz) : RelR Z sz (List.replicate n c) (List.replicate n d) :=
  ⟨by simp, fun e c' d' h1 h2 => by
    rw [List.getElem?_replicate] at h1 h2
    split at h1
    · rename_i hl; rw [if_pos hl] at h2; cases h1; cases h2; exact ⟨hc, hd⟩
    · cases h1⟩
theorem RelR.one {Z : Nat → Nat → Option Value} {sz : Nat} {c : List CV} {d : List Value} (hc : RelK Z c d) (hd : d.length = sz) : RelR Z sz [c] [d] := RelR.replicate (n := 1) hc hd
theorem RelR.nilEq {Z : Nat → Nat → Option Value} {sz : Nat} {els : List (List CV)} {raw : List (List Value)} (h : RelR Z sz els raw) : els = [] ↔ raw = [] := by
  constructor
  · rintro rfl; exact List.eq_nil_of_length_eq_zero (by rw [h.1]; rfl)
  · rintro rfl; exact List.eq_nil_of_length_eq_zero (by rw [← h.1]; rfl)
/-- What stays at a place, element by element. -/
theorem RelZ.get {Z : Nat → Nat → Option Value} {b sz : Nat} : ∀ {els : List (List CV)} {o : Nat}, RelZ Z b sz els o → ∀ {e : Nat} {c : List CV}, els[e]? = some c → ∃ us, RelK Z c us ∧ us.length = sz ∧ ∀ (j : Nat) u, us[j]? = some u → Z b (o + (e * sz + j)) = some u
  | [], _, _, e, c, h => by simp at h
  | d :: els, o, hr, e, c, h => by
    unfold RelZ at hr
    cases e with
    | zero => simp at h; subst h; simpa using hr.1
    | succ e =>
      obtain ⟨us, h1, h2, h3⟩ := RelZ.get hr.2 (e := e) (by simpa using h)
      refine ⟨us, h1, h2, fun j u hu => ?_⟩
      have := h3 j u hu
      rw [show o + ((e + 1) * sz + j) = o + sz + (e * sz + j) by rw [Nat.add_mul]; omega]
      exact this
theorem RelZ.of {Z : Nat → Nat → Option Value} {b sz : Nat} : ∀ {els : List (List CV)} {o : Nat}, (∀ (e : Nat) (c : List CV), els[e]? = some c → ∃ us, RelK Z c us ∧ us.length = sz ∧ ∀ (j : Nat) u, us[j]? = some u → Z b (o + (e * sz + j)) = some u) → RelZ Z b sz els o
  | [], _, _ => by unfold RelZ; trivial
  | d :: els, o, h => by
    unfold RelZ
    refine ⟨by simpa using h 0 d rfl, RelZ.of fun e c he => ?_⟩
    obtain ⟨us, h1, h2, h3⟩ := h (e + 1) c (by simpa using he)
    refine ⟨us, h1, h2, fun j u hu => ?_⟩
    have := h3 j u hu
    rw [show o + ((e + 1) * sz + j) = o + sz + (e * sz + j) by rw [Nat.add_mul]; omega] at this
    exact this
theorem RelZ.drop {Z : Nat → Nat → Option Value} {b sz : Nat} {els : List (List CV)} {o : Nat} (h : RelZ Z b sz els o) (n : Nat) : RelZ Z b sz (els.drop n) (o + n * sz) :=
  .of fun e c he => by
    rw [List.getElem?_drop] at he
    obtain ⟨us, h1, h2, h3⟩ := h.get he
    refine ⟨us, h1, h2, fun j u hu => ?_⟩
    have := h3 j u hu
    rw [Nat.add_mul] at this
    rw [show o + n * sz + (e * sz + j) = o + (n * sz + e * sz + j) by omega]
    exact this
theorem RelZ.take {Z : Nat → Nat → Option Value} {b sz : Nat} {els : List (List CV)} {o : Nat} (h : RelZ Z b sz els o) (n : Nat) : RelZ Z b sz (els.take n) o :=
  .of fun e c he => by
    rw [List.getElem?_take] at he
    split at he
    · exact h.get he
    · cases he
/-- The elements as they stand. -/
theorem RelZ.raw {Z : Nat → Nat → Option Value} {b sz : Nat} : ∀ {els : List (List CV)} {o : Nat}, RelZ Z b sz els o → ∃ raw, RelR Z sz els raw ∧ ∀ (e : Nat) d, raw[e]? = some d → ∀ (j : Nat) u, d[j]? = some u → Z b (o + (e * sz + j)) = some u
  | [], _, _ => ⟨[], RelR.nil, fun e d h => by simp at h⟩
  | c :: els, o, h => by
    unfold RelZ at h
    obtain ⟨⟨us, h1, h2, h3⟩, h4⟩ := h
    obtain ⟨raw, k1, k2⟩ := RelZ.raw h4
    refine ⟨us :: raw, ⟨by simp [k1.1], fun e c' d' e1 e2 => ?_⟩, fun e d hd j u hu => ?_⟩
    · cases e with
      | zero => simp at e1 e2; subst e1; subst e2; exact ⟨h1, h2⟩
      | succ e => exact k1.2 e c' d' (by simpa using e1) (by simpa using e2)
    · cases e with
      | zero => simp at hd; subst hd; simpa using h3 j u hu
      | succ e =>
        have := k2 e d (by simpa using hd) j u hu
        rw [show o + ((e + 1) * sz + j) = o + sz + (e * sz + j) by rw [Nat.add_mul]; omega]
        exact this

mutual
def Rel (ρ : Plc) : SV → Value → Prop
  | .any, _ => True
  | .v x, u => u = x
  | .z sz els cap, u => ∃ ad, u = .slice ad els.length cap ∧ els.length ≤ cap ∧ (cap = 0 ∨ ∃ b o, ad = some ⟨b, o, none⟩ ∧ RelZ ρ.z b sz els o)
  | .zp cells, u => ∃ b o us, u = .pointer (some ⟨b, o, none⟩) ∧ RelK ρ.z cells us ∧ ∀ (j : Nat) v, us[j]? = some v → ρ.z b (o + j) = some v
  | .p a e sz f, u => u = .pointer (some (locA ρ a (e * sz + f))) ∧ ρ.has a
  | .s a sz e len cap, u => ∃ ad, u = .slice ad len cap ∧ len ≤ cap ∧ (cap = 0 ∨ (ad = some (locA ρ a (e * sz)) ∧ ρ.has a))
  | .agg l, u => ∃ us, u = .agg us.toArray ∧ RelL ρ l us
  | .tup l, u => ∃ us, u = .tuple us.toArray ∧ RelL ρ l us
  | .fn f l, u => ∃ us, u = .func (.func f) #[] us.toArray ∧ RelL ρ l us
  | .bm f l, u => ∃ us, u = .func (.func f) us.toArray #[] ∧ RelL ρ l us
def RelL (ρ : Plc) : List SV → List Value → Prop
  | [], us => us = []
  | x :: l, us => ∃ u r, us = u :: r ∧ Rel ρ x u ∧ RelL ρ l r
end

theorem RelL.len {ρ : Plc} : ∀ {l : List SV} {us : List Value}, RelL ρ l us → us.length = l.length
  | [], us, h => by
    unfold RelL at h
    subst h; rfl
  | _ :: l, us, h => by
    unfold RelL at h
    obtain ⟨u, r, rfl, _, h⟩ := h
    simp [h.len]
theorem RelL.get {ρ : Plc} : ∀ {l : List SV} {us : List Value}, RelL ρ l us → ∀ {i : Nat} {x : SV}, l[i]? = some x → ∃ u, us[i]? = some u ∧ Rel ρ x u
  | [], us, _, i, x, e => by simp at e
  | y :: l, us, h, i, x, e => by
    unfold RelL at h
    obtain ⟨u, r, rfl, hu, h⟩ := h
    cases i with
    | zero => simp at e; subst e; exact ⟨u, rfl, hu⟩
    | succ i => simp at e; simpa using h.get e
theorem RelL.of {ρ : Plc} : ∀ {l : List SV} {us : List Value}, us.length = l.length → (∀ (i : Nat) (x : SV) (u : Value), l[i]? = some x → us[i]? = some u → Rel ρ x u) → RelL ρ l us
  | [], us, h, _ => by unfold RelL; exact List.eq_nil_of_length_eq_zero (by simpa using h)
  | y :: l, [], h, _ => by simp at h
  | y :: l, u :: us, h, k => by
    unfold RelL
    exact ⟨u, us, rfl, k 0 y u rfl rfl, RelL.of (by simpa using h) (fun i x w h1 h2 => k (i + 1) x w (by simpa using h1) (by simpa using h2))⟩
theorem RelL.append {ρ : Plc} : ∀ {l : List SV} {us : List Value} {l' : List SV} {us' : List Value}, RelL ρ l us → RelL ρ l' us' → RelL ρ (l ++ l') (us ++ us')
  | [], us, _, _, h, k => by
    unfold RelL at h
    subst h; exact k
  | _ :: l, us, _, _, h, k => by
    unfold RelL at h
    obtain ⟨u, r, rfl, hu, h⟩ := h
    simp only [List.cons_append]
    unfold RelL
    exact ⟨u, _, rfl, hu, h.append k⟩
theorem RelL.drop {ρ : Plc} {l : List SV} {us : List Value} (h : RelL ρ l us) (k : Nat) : RelL ρ (l.drop k) (us.drop k) :=
  .of (by simp [h.len]) fun i x u h1 h2 => by
    rw [List.getElem?_drop] at h1 h2
    obtain ⟨u', e, hr⟩ := h.get h1
    rw [h2] at e
    cases e
    exact hr
theorem RelL.take {ρ : Plc} {l : List SV} {us : List Value} (h : RelL ρ l us) (k : Nat) : RelL ρ (l.take k) (us.take k) :=
  .of (by simp [h.len]) fun i x u h1 h2 => by
    rw [List.getElem?_take] at h1 h2
    split at h1
    · rename_i hlt
      rw [if_pos hlt] at h2
      obtain ⟨u', e, hr⟩ := h.get h1
      rw [h2] at e
      cases e
      exact hr
    · cases h1
theorem RelL.set {ρ : Plc} {l : List SV} {us : List Value} (h : RelL ρ l us) (k : Nat) {x : SV} {u : Value} (hx : Rel ρ x u) : RelL ρ (l.set k x) (us.set k u) :=
  .of (by simp [h.len]) fun i y w h1 h2 => by
    rw [List.getElem?_set] at h1 h2
    rw [h.len] at h2
    by_cases hk : k = i
    · subst hk
      simp only [if_true] at h1 h2
      split at h1
      · rename_i hl
        rw [if_pos hl] at h2
        cases h1; cases h2; exact hx
      · cases h1
    · rw [if_neg hk] at h1 h2
      obtain ⟨u', e, hr⟩ := h.get h1
      rw [h2] at e
      cases e
      exact hr
theorem RelL.vals {ρ : Plc} (us : List Value) : RelL ρ (us.map .v) us :=
  .of (by simp) fun i x u h1 h2 => by
    simp [h2] at h1
    subst h1
    unfold Rel; rfl

mutual
theorem Rel.agree {ρ ρ' : Plc} : ∀ {x : SV} {u : Value}, Agree ρ ρ' → Rel ρ x u → Rel ρ' x u
  | .any, u, _, _ => by unfold Rel; trivial
  | .v x, u, _, h => by unfold Rel at *; exact h
  | .z sz els cap, u, k, h => by
    unfold Rel at *
    obtain ⟨ad, h1, h2, h3⟩ := h
    exact ⟨ad, h1, h2, h3.imp id fun ⟨b, o, e, r⟩ => ⟨b, o, e, r.mono k.z⟩⟩
  | .zp cells, u, k, h => by
    unfold Rel at *
    obtain ⟨b, o, us, h1, h2, h3⟩ := h
    exact ⟨b, o, us, h1, h2.mono k.z, fun j v e => k.z _ _ _ (h3 j v e)⟩
  | .p a e sz f, u, k, h => by unfold Rel at *; exact ⟨by rw [k.loc h.2]; exact h.1, k.has h.2⟩
  | .s a sz e len cap, u, k, h => by
    unfold Rel at *
    obtain ⟨ad, h1, h2, h3⟩ := h
    exact ⟨ad, h1, h2, h3.imp id fun h => ⟨by rw [k.loc h.2]; exact h.1, k.has h.2⟩⟩
  | .agg l, u, k, h => by
    unfold Rel at *
    obtain ⟨us, h1, h2⟩ := h
    exact ⟨us, h1, h2.agree k⟩
  | .tup l, u, k, h => by
    unfold Rel at *
    obtain ⟨us, h1, h2⟩ := h
    exact ⟨us, h1, h2.agree k⟩
  | .fn f l, u, k, h => by
    unfold Rel at *
    obtain ⟨us, h1, h2⟩ := h
    exact ⟨us, h1, h2.agree k⟩
  | .bm f l, u, k, h => by
    unfold Rel at *
    obtain ⟨us, h1, h2⟩ := h
    exact ⟨us, h1, h2.agree k⟩
theorem RelL.agree {ρ ρ' : Plc} : ∀ {l : List SV} {us : List Value}, Agree ρ ρ' → RelL ρ l us → RelL ρ' l us
  | [], us, _, h => by unfold RelL at *; exact h
  | x :: l, us, k, h => by
    unfold RelL at *
    obtain ⟨u, r, h1, h2, h3⟩ := h
    exact ⟨u, r, h1, h2.agree k, h3.agree k⟩
end

/-- What a type says of its values' cells. -/
inductive D where
  | bool | int (k : IntKind) | str | ptr | slice (e : Nat) | array (n e : Nat) | struct (fs : List (Nat × Nat)) | fn | other
def dsc : TypeDesc → D
  | .bool => .bool | .int k => .int k | .string => .str | .pointer _ => .ptr | .slice e => .slice e | .array n e => .array n e
  | .struct fs => .struct (fs.toList.map fun f => (f.offset, f.type)) | .func .. => .fn | _ => .other
structure TI where
  size : Nat
  bytes : Nat
  zero : List Value
  d : D
def D.agg : D → Bool
  | .struct _ | .array _ _ => true
  | _ => false
structure TIok (P : Program) (t : Nat) (i : TI) : Prop where
  info : (P.info? t).map (fun f => (f.size, f.bytes, f.zero.map (·.cells.toList))) = some (i.size, i.bytes, some i.zero)
  und : (P.underlying t).map dsc = some i.d
structure Ctx where
  P : Program
  T : List (Nat × TI)
def Ctx.ok (C : Ctx) : Prop := ∀ t i, assoc C.T t = some i → TIok C.P t i

section
variable {P : Program} {t : Nat} {i : TI} (w : World)
theorem TIok.info' (h : TIok P t i) : ∃ f, P.info? t = some f ∧ f.size = i.size ∧ f.bytes = i.bytes ∧ ∃ z, f.zero = some z ∧ z.cells.toList = i.zero := by
  obtain ⟨f, hf, he⟩ := Option.map_eq_some_iff.1 h.info
  injection he with h1 h2
  injection h2 with h2 h3
  obtain ⟨z, hz, hz'⟩ := Option.map_eq_some_iff.1 h3
  exact ⟨f, hf, h1, h2, z, hz, hz'⟩
theorem TIok.und' (h : TIok P t i) : ∃ d, P.underlying t = some d ∧ dsc d = i.d := Option.map_eq_some_iff.1 h.und
theorem TIok.sizeOf (h : TIok P t i) : (sizeOf t).run P w = .ok i.size w := by
  obtain ⟨f, hf, h1, _⟩ := h.info'
  simp [Go.sizeOf, typeInfo, hf, h1]
theorem TIok.zeroV (h : TIok P t i) : ∃ z, (zeroValue t).run P w = .ok z w ∧ z.cells.toList = i.zero := by
  obtain ⟨f, hf, _, _, z, hz, hz'⟩ := h.info'
  exact ⟨z, by simp [zeroValue, typeInfo, hf, hz], hz'⟩
theorem TIok.isAgg (h : TIok P t i) : (isAgg t).run P w = .ok i.d.agg w := by
  obtain ⟨d, hd, he⟩ := h.und'
  unfold Go.isAgg
  rw [Sem.run_bind, run_underlying hd w]
  rw [← he]
  cases d <;> simp [dsc, D.agg]
end

def SB.isOwn : SB → Prop
  | .box .. => True
  | .row _ _ cap _ => cap ≠ 0
  | _ => False
def SB.isLive : SB → Prop
  | .dead => False
  | .ro _ els => els ≠ []
  | .box .. => True
  | .cst .. => True
  | .row _ _ cap _ => cap ≠ 0
theorem SB.live_of_own : ∀ {b : SB}, b.isOwn → b.isLive
  | .box .., _ => trivial
  | .row .., h => h
  | .dead, h => h.elim
  | .ro .., h => h.elim
  | .cst .., h => h.elim
/-- The cells of one element. -/
def CellsOK (sz : Nat) (c : List Value) : Prop := c.length = sz ∧ ∀ u ∈ c, u.oneCell' = true
theorem RelR.cells {Z : Nat → Nat → Option Value} {sz : Nat} {els : List (List CV)} {raw : List (List Value)} (h : RelR Z sz els raw) : ∀ d ∈ raw, CellsOK sz d := by
  intro d hd
  obtain ⟨i, hi⟩ := List.mem_iff_getElem?.1 hd
  obtain ⟨c, _, h1, h2⟩ := h.get' hi
  exact ⟨h2, h1.one⟩
def rawRo (b : Nat × Nat) (sz : Nat) (els : List (List Value)) (w : World) : Prop :=
  (els ≠ [] → b.1 < w.heap.size) ∧ ∀ (e : Nat) c, els[e]? = some c → CellsOK sz c ∧ ∀ (j : Nat) u, c[j]? = some u → w.cell? ⟨b.1, b.2 + (e * sz + j), none⟩ = some u
def rawRow (b : Nat × Nat) (t sz cap : Nat) (els : List (List Value)) (w : World) : Prop :=
  els.length ≤ cap ∧ (∀ c ∈ els, CellsOK sz c) ∧ (cap ≠ 0 → b.2 = 0 ∧ cap ≤ maxLen ∧ ∃ cur, w.heap[b.1]? = some (.cells cur t (0, 0)) ∧ cur.size = cap * sz ∧ cur.toList.take (els.length * sz) = els.flatten)
/-- A block reads as is known of it. -/
def BlkOK (ρ : Plc) (b : Nat × Nat) : SB → World → Prop
  | .dead, _ => True
  | .ro sz els, w => ∃ raw, RelR ρ.z sz els raw ∧ rawRo b sz raw w
  | .box t cells, w => b.2 = 0 ∧ ∃ us, RelL ρ cells us ∧ w.heap[b.1]? = some (.cells us.toArray t (0, 0))
  | .row t sz cap els, w => ∃ raw, RelR ρ.z sz els raw ∧ rawRow b t sz cap raw w
  | .cst t cells, w => b.2 = 0 ∧ ∃ us, RelL ρ cells us ∧ w.heap[b.1]? = some (.cells us.toArray t (0, 0))

structure MemOK (ρ : Plc) (m : Mem) (w : World) : Prop where
  blk : ∀ a b, m.look a = some b → BlkOK ρ (ρ.at_ a) b w
  sep : ∀ a b A B, m.look a = some A → m.look b = some B → A.isOwn → B.isLive → a ≠ b → (ρ.at_ a).1 ≠ (ρ.at_ b).1
  glob : ∀ x, ρ.at_ (.g x) = (x, 0)
  nx : ρ.nx = m.ext.length
  fz : ∀ b o v, ρ.z b o = some v → w.cell? ⟨b, o, none⟩ = some v
  sepz : ∀ a A, m.look a = some A → A.isOwn → ∀ o, ρ.z (ρ.at_ a).1 o = none
  fq : ∀ b o, ρ.q b = some o → w.heap[b]? = some o ∧ o.isCells = false
/-- All blocks read as is known of them. -/
structure BlksOK (ρ : Plc) (m : Mem) (w : World) : Prop where
  blk : ∀ a b, m.look a = some b → BlkOK ρ (ρ.at_ a) b w
theorem MemOK.blks {ρ : Plc} {m : Mem} {w : World} (h : MemOK ρ m w) : BlksOK ρ m w := ⟨h.blk⟩
/-- The blocks that are known are as they were. -/
structure Same (ρ : Plc) (m : Mem) (w w' : World) : Prop where
  size : w.heap.size ≤ w'.heap.size
  blk : ∀ a b, m.look a = some b → b.isLive → w'.heap[(ρ.at_ a).1]? = w.heap[(ρ.at_ a).1]?
  z : ∀ b o v, ρ.z b o = some v → w'.cell? ⟨b, o, none⟩ = some v
theorem MemOK.same {ρ : Plc} {m : Mem} {w : World} (h : MemOK ρ m w) : Same ρ m w w := ⟨Nat.le_refl _, fun _ _ _ _ => rfl, h.fz⟩
/-- All blocks that there were are as they were. -/
structure Kept (w w' : World) : Prop where
  size : w.heap.size ≤ w'.heap.size
  blk : ∀ n, n < w.heap.size → w'.heap[n]? = w.heap[n]?
theorem Kept.refl (w : World) : Kept w w := ⟨Nat.le_refl _, fun _ _ => rfl⟩
theorem Kept.trans {a b c : World} (h : Kept a b) (k : Kept b c) : Kept a c := ⟨Nat.le_trans h.size k.size, fun n hn => (k.blk n (Nat.lt_of_lt_of_le hn h.size)).trans (h.blk n hn)⟩
theorem BlkOK.lt {ρ : Plc} {b : Nat × Nat} {w : World} : ∀ {B : SB}, BlkOK ρ b B w → B.isLive → b.1 < w.heap.size
  | .dead, _, h => h.elim
  | .ro .., ⟨_, hr, h⟩, k => h.1 (fun e => k (hr.nilEq.2 e))
  | .box .., ⟨_, _, _, h⟩, _ => (Array.getElem?_eq_some_iff.1 h).1
  | .cst .., ⟨_, _, _, h⟩, _ => (Array.getElem?_eq_some_iff.1 h).1
  | .row .., ⟨_, _, _, _, h⟩, k => by
    obtain ⟨_, _, _, h, _⟩ := h k
    exact (Array.getElem?_eq_some_iff.1 h).1
theorem BlkOK.same {ρ : Plc} {b : Nat × Nat} {w w' : World} (hs : w.heap.size ≤ w'.heap.size) : ∀ {B : SB}, BlkOK ρ b B w → (B.isLive → w'.heap[b.1]? = w.heap[b.1]?) → BlkOK ρ b B w'
  | .dead, _, _ => trivial
  | .ro sz els, ⟨raw, hr, h⟩, k => ⟨raw, hr, fun hne => Nat.lt_of_lt_of_le (h.1 hne) hs, fun e c he => ⟨(h.2 e c he).1, fun j u hu => by
      have hne : els ≠ [] := by intro h0; rw [hr.nilEq.1 h0] at he; simp at he
      rw [World.cell?_of_block (w := w) (k hne)]
      exact (h.2 e c he).2 j u hu⟩⟩
  | .box .., ⟨h1, us, h2, h3⟩, k => ⟨h1, us, h2, (k trivial).trans h3⟩
  | .cst .., ⟨h1, us, h2, h3⟩, k => ⟨h1, us, h2, (k trivial).trans h3⟩
  | .row .., ⟨raw, hr, h0, h1, h2⟩, k => ⟨raw, hr, h0, h1, fun hc => by
      obtain ⟨h3, h4, cur, h5, h6⟩ := h2 hc
      exact ⟨h3, h4, cur, (k hc).trans h5, h6⟩⟩
theorem BlkOK.agree {ρ ρ' : Plc} (k : Agree ρ ρ') {b : Nat × Nat} {w : World} : ∀ {B : SB}, BlkOK ρ b B w → BlkOK ρ' b B w
  | .dead, _ => trivial
  | .ro .., ⟨raw, hr, h⟩ => ⟨raw, hr.mono k.z, h⟩
  | .box .., ⟨h1, us, h2, h3⟩ => ⟨h1, us, h2.agree k, h3⟩
  | .cst .., ⟨h1, us, h2, h3⟩ => ⟨h1, us, h2.agree k, h3⟩
  | .row .., ⟨raw, hr, h⟩ => ⟨raw, hr.mono k.z, h⟩
theorem getElem?_lt {α : Type} {l : List α} {i : Nat} {x : α} (h : l[i]? = some x) : i < l.length := by
  obtain ⟨h, _⟩ := List.getElem?_eq_some_iff.1 h
  exact h
theorem MemOK.has {ρ : Plc} {m : Mem} {w : World} (h : MemOK ρ m w) : ∀ {a : Nm} {b : SB}, m.look a = some b → ρ.has a
  | .o _, _, _ => trivial
  | .g _, _, _ => trivial
  | .n i, b, e => by
    show i < ρ.nx
    rw [h.nx]
    exact getElem?_lt (show m.ext[i]? = some b from e)

structure St where
  slots : List (Nat × SV)
  nt : Nat
  mem : Mem
def St.get (s : St) (t : Nat) : SV := match assoc s.slots t with
  | some x => x
  | none => .any
def constV : Value → SV
  | .agg cs => .agg (cs.toList.map .v)
  | x => .v x
def St.ev (s : St) : Operand → SV
  | .tmp t => match Nat.blt t s.nt with
    | true => s.get t
    | false => .any
  | .const x => constV x
  | .global g => .p (.g g) 0 0 0
  | .func f => .fn f []
def St.put (s : St) (d : Nat) (x : SV) : St := { s with slots := (d, x) :: s.slots }
def markOf (D : Nat) : Deferred := { target := .collected D, args := #[] }
/-- What stands in a slot: beyond a call's own ones, what another call holds. -/
def tmpAt (ρ : Plc) (nt : Nat) (a : Act) (t : Nat) : Value := if t < nt then a.tmps.getD t undef else ρ.gh t
theorem tmpAt_gh {ρ ρ' : Plc} (h : ρ'.gh = ρ.gh) (nt : Nat) (a : Act) (t : Nat) : tmpAt ρ' nt a t = tmpAt ρ nt a t := by unfold tmpAt; rw [h]
structure ActOK (ρ : Plc) (s : St) (a : Act) : Prop where
  rel : ∀ t, Rel ρ (s.get t) (tmpAt ρ s.nt a t)
  size : a.tmps.size = s.nt
  defers : ∃ Ds : List Nat, Ds.Nodup ∧ a.defers = Ds.map markOf ∧ ∀ D ∈ Ds, ρ.q D = some (.deferred (some []))
theorem assoc_cons {α : Type} (k t : Nat) (x : α) (l : List (Nat × α)) : assoc ((k, x) :: l) t = if k = t then some x else assoc l t := by
  show (bif Nat.beq k t then some x else assoc l t) = _
  by_cases h : k = t
  · subst h; simp
  · have : Nat.beq k t = false := by
      cases hb : Nat.beq k t
      · rfl
      · exact absurd (Nat.eq_of_beq_eq_true hb) h
    rw [this, if_neg h]; rfl
theorem tmpAt_put {ρ : Plc} {nt : Nat} {a : Act} (hn : a.tmps.size = nt) {d : Nat} (hd : d < nt) (u : Value) (t : Nat) : tmpAt ρ nt (a.put (some d) u) t = if d = t then u else tmpAt ρ nt a t := by
  unfold tmpAt Act.put
  by_cases e : d = t
  · subst e
    rw [if_pos hd, if_pos rfl]
    simp [hn, hd]
  · rw [if_neg e]
    by_cases ht : t < nt
    · rw [if_pos ht, if_pos ht]
      simp [Array.getElem?_setIfInBounds, e, Array.getD_eq_getD_getElem?]
    · rw [if_neg ht, if_neg ht]
theorem ActOK.put {ρ : Plc} {s : St} {a : Act} (h : ActOK ρ s a) {d : Nat} (hd : d < s.nt) {x : SV} {u : Value} (hx : Rel ρ x u) : ActOK ρ (s.put d x) (a.put (some d) u) where
  rel t := by
    show Rel ρ ((s.put d x).get t) (tmpAt ρ s.nt (a.put (some d) u) t)
    rw [tmpAt_put h.size hd]
    unfold St.put St.get
    simp only [assoc_cons]
    by_cases e : d = t
    · subst e
      simp only [if_true]
      exact hx
    · rw [if_neg e, if_neg e]
      exact h.rel t
  size := by simpa [Act.put, St.put] using h.size
  defers := h.defers
theorem ActOK.agree {ρ ρ' : Plc} (k : Agree ρ ρ') {s : St} {a : Act} (h : ActOK ρ s a) : ActOK ρ' s a := ⟨fun t => by rw [tmpAt_gh k.gh]; exact (h.rel t).agree k, h.size, let ⟨Ds, h1, h2, h3⟩ := h.defers; ⟨Ds, h1, h2, fun D hD => k.q _ _ (h3 D hD)⟩⟩
theorem ActOK.mem {ρ : Plc} {s : St} {a : Act} (h : ActOK ρ s a) (m : Mem) : ActOK ρ { s with mem := m } a := ⟨h.rel, h.size, h.defers⟩
theorem Rel.const {ρ : Plc} (x : Value) : Rel ρ (constV x) x := by
  unfold constV
  split
  · rename_i cs
    unfold Rel
    exact ⟨cs.toList, by simp, RelL.vals _⟩
  · unfold Rel; rfl
theorem ActOK.ev {ρ : Plc} {s : St} {a : Act} (h : ActOK ρ s a) (hg : ∀ x, ρ.at_ (.g x) = (x, 0)) : ∀ x : Operand, Rel ρ (s.ev x) (a.eval x)
  | .tmp t => by
    show Rel ρ (match Nat.blt t s.nt with
      | true => s.get t
      | false => .any) (a.tmps.getD t undef)
    split
    · rename_i ht
      have := h.rel t
      unfold tmpAt at this
      rw [if_pos (Nat.lt_of_succ_le (Nat.le_of_ble_eq_true ht))] at this
      exact this
    · unfold Rel; trivial
  | .const x => Rel.const x
  | .global g => by
    show Rel ρ (.p (.g g) 0 0 0) _
    unfold Rel locA
    exact ⟨by rw [hg]; rfl, trivial⟩
  | .func f => by
    show Rel ρ (.fn f []) _
    unfold Rel RelL
    exact ⟨[], rfl, rfl⟩
end Go.Proofs.Ytkcdomafdjpbjaa
