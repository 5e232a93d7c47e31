/- Iterators in a caller's memory. -/
import Derived.Test.YtigmgdfplhfdpaaZJ
import Derived.Test.YtigmgdfplhfdpaaZH
namespace Go.Proofs.Ytigmgdfplhfdpaa
open Go.RowKit

/-- The locked boxes that an iterator reads. -/
def Lent (m : Mem) : List Nm → List SB → Prop
  | [], [] => True
  | a :: ns, b :: bs => (m.look a = some b ∧ ∃ t cells, b = .cst t cells ∧ CellsZ cells) ∧ Lent m ns bs
  | _, _ => False
theorem Lent.get {m : Mem} : ∀ {ns : List Nm} {bs : List SB}, Lent m ns bs → ∀ {k : Nat} {b : SB}, bs[k]? = some b → ∃ a t cells, ns[k]? = some a ∧ m.look a = some b ∧ b = .cst t cells ∧ CellsZ cells
  | [], [], _, k, b, h => by simp at h
  | a :: ns, b' :: bs, h, k, b, e => by
    cases k with
    | zero =>
      simp at e; subst e
      obtain ⟨⟨h1, t, cells, h2, h3⟩, _⟩ := h
      exact ⟨a, t, cells, rfl, h1, h2, h3⟩
    | succ k => simpa using h.2.get (k := k) (by simpa using e)
  | [], _ :: _, h, _, _, _ => h.elim
  | _ :: _, [], h, _, _, _ => h.elim
theorem Lent.has {m : Mem} : ∀ {ns : List Nm} {bs : List SB}, Lent m ns bs → ∀ {k : Nat} {a : Nm}, ns[k]? = some a → ∃ B, m.look a = some B
  | [], [], _, k, b, h => by simp at h
  | a :: ns, b' :: bs, h, k, b, e => by
    cases k with
    | zero =>
      simp at e; subst e
      obtain ⟨⟨h1, _⟩, _⟩ := h
      exact ⟨_, h1⟩
    | succ k => exact h.2.has (k := k) (by simpa using e)
  | [], _ :: _, h, _, _, _ => h.elim
  | _ :: _, [], h, _, _, _ => h.elim
def atV (ρ : Plc) (ns : List Nm) : Nm → Nat × Nat
  | .o k => ρ.at_ (ns.getD k (.g 0))
  | .g x => (x, 0)
  | .n _ => (0, 0)
/-- How the iterator sees it. -/
def seenBy (ρ : Plc) (ns : List Nm) : Plc := ⟨atV ρ ns, 0, ρ.z, fun _ => none, ρ.gh⟩
theorem lent_mem {ρ : Plc} {m : Mem} {W : World} (hm : MemOK ρ m W) {ns : List Nm} {bs : List SB} (h : Lent m ns bs) : MemOK (seenBy ρ ns) ⟨[], bs, []⟩ W where
  blk a b ha := by
    cases a with
    | n i => simp [Mem.look] at ha
    | g x => simp [Mem.look, assoc] at ha
    | o k =>
      obtain ⟨a', t, cells, h1, h2, rfl, h3⟩ := h.get (show bs[k]? = some b from ha)
      obtain ⟨h0, us, hr, hw⟩ := hm.blk _ _ h2
      have e : (seenBy ρ ns).at_ (.o k) = ρ.at_ a' := by
        show ρ.at_ (ns.getD k (.g 0)) = _
        rw [List.getD_eq_getElem?_getD, h1]; rfl
      rw [e]
      exact ⟨h0, us, h3 ρ (seenBy ρ ns) us (fun b o v h => h) hr, hw⟩
  sep a b A B ha _ hO := by
    cases a with
    | n i => simp [Mem.look] at ha
    | g x => simp [Mem.look, assoc] at ha
    | o k =>
      obtain ⟨a', t, cells, _, _, rfl, _⟩ := h.get (show bs[k]? = some A from ha)
      exact hO.elim
  glob _ := rfl
  nx := rfl
  fz := hm.fz
  sepz a A ha hO := by
    cases a with
    | n i => simp [Mem.look] at ha
    | g x => simp [Mem.look, assoc] at ha
    | o k =>
      obtain ⟨a', t, cells, _, _, rfl, _⟩ := h.get (show bs[k]? = some A from ha)
      exact hO.elim
  fq _ _ h := by cases h
def capsO (n : Nat) : List SV := (List.range n).map fun k => .p (.o k) 0 0 0
def capsN (ns : List Nm) : List SV := ns.map fun a => .p a 0 0 0
theorem lent_caps {ρ : Plc} {ns : List Nm} {lb : List Value} (h : RelL ρ (capsN ns) lb) : RelL (seenBy ρ ns) (capsO ns.length) lb :=
  RelL.of (by rw [h.len]; simp [capsN, capsO]) fun i x u hx hu => by
    simp only [capsO, List.getElem?_map, Option.map_eq_some_iff] at hx
    obtain ⟨k, hk, rfl⟩ := hx
    have hk' : k = i ∧ i < ns.length := by
      rw [List.getElem?_eq_some_iff] at hk
      obtain ⟨h1, h2⟩ := hk
      simp at h1 h2
      exact ⟨h2.symm, h1⟩
    obtain ⟨rfl, hlt⟩ := hk'
    obtain ⟨u', hu', hr⟩ := h.get (i := k) (x := .p ns[k] 0 0 0) (by simp [capsN, hlt])
    rw [hu] at hu'
    cases hu'
    unfold Rel at hr ⊢
    refine ⟨hr.1.trans ?_, trivial⟩
    unfold locA
    have : (seenBy ρ ns).at_ (.o k) = ρ.at_ ns[k] := by
      show ρ.at_ (ns.getD k (.g 0)) = _
      rw [List.getD_eq_getElem?_getD, List.getElem?_eq_getElem hlt]; rfl
    rw [this]
/-- **An iterator's contract, in a caller's memory.** -/
theorem IterO.lend {P : Program} {f : Nat} {bs : List SB} {inf : Bool} {N : Nat} {enc : Nat → List SV} (ns : List Nm) (it : IterO P f bs (capsO ns.length) inf N enc) (he : ∀ k, k < N → ∀ (ρ ρ' : Plc) us, (∀ b o v, ρ.z b o = some v → ρ'.z b o = some v) → RelL ρ (enc k) us → RelL ρ' (enc k) us) :
    IterOK P f (capsN ns) (fun m => Lent m ns bs) inf N enc := by
  refine ⟨it.ent, fun l lb J Jx W hm hd hdx hgr hla hy h0 => ?_⟩
  have hx : ICtx P l bs (capsO ns.length) inf N enc lb (fun k ρ' W => ∃ ρ, J k ρ W ∧ ρ' = seenBy ρ ns) Jx := by
    refine ⟨?_, ?_, hdx, fun k ρ' W W' ⟨ρ, hJ, e⟩ hg => ⟨ρ, hgr k ρ W W' hJ hg, e⟩, fun hi ρ' W ⟨ρ, hJ, _⟩ => hla hi ρ W hJ, ?_⟩
    · rintro k ρ' W ⟨ρ, hJ, rfl⟩
      obtain ⟨m, h1, h2, h3⟩ := hm k ρ W hJ
      exact ⟨lent_mem h3 h1, lent_caps h2⟩
    · rintro k ρ' W ⟨ρ, hJ, rfl⟩
      exact ⟨ρ, hd k ρ W hJ, rfl⟩
    · rintro k ρ' W us ⟨ρ, hJ, rfl⟩ hk hus
      obtain ⟨fn, tmps, asg, body, h1, h2⟩ := hy k ρ W us hJ hk (he k hk (seenBy ρ ns) ρ us (fun b o v h => h) hus)
      refine ⟨fn, tmps, asg, body, h1, RoundIn.mono h2 ?_⟩
      rintro e W' (⟨rfl, ρ', hJ'⟩ | h)
      · exact .inl ⟨rfl, _, ρ', hJ', rfl⟩
      · exact .inr h
  obtain ⟨ρ, h0⟩ := h0
  refine (it.out l lb _ Jx W hx ⟨_, ρ, h0, rfl⟩).mono ?_
  rintro e W' ⟨h1, ⟨_, ρ', hJ, _⟩ | h⟩
  · exact ⟨h1, .inl ⟨ρ', hJ⟩⟩
  · exact ⟨h1, .inr h⟩
end Go.Proofs.Ytigmgdfplhfdpaa
