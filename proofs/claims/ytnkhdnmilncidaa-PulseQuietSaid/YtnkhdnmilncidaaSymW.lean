/- A call of a function that changes blocks of the caller's own. -/
import Derived.Test.YtnkhdnmilncidaaSymL
namespace Go.Proofs.Ytnkhdnmilncidaa
open Go.RowKit

/-- A box, or a row. -/
def SB.isBR : SB → Prop
  | .box .. => True
  | .row .. => True
  | _ => False
/-- What became of the blocks: as live, and as much the caller's own, as they were. -/
def Kinds : List SB → List SB → Prop
  | [], [] => True
  | .box .. :: l, .box .. :: l' => Kinds l l'
  | .row _ _ cap _ :: l, .row _ _ cap' _ :: l' => cap' = cap ∧ Kinds l l'
  | .ro .. :: l, _ :: l' => Kinds l l'
  | .dead :: l, _ :: l' => Kinds l l'
  | _, _ => False
theorem Kinds.get : ∀ {l l' : List SB}, Kinds l l' → ∀ {k : Nat} {b : SB}, l[k]? = some b → ∃ b', l'[k]? = some b' ∧ (b.isBR → (b'.isLive → b.isLive) ∧ (b'.isOwn → b.isOwn))
  | [], [], _, k, b, h => by simp at h
  | B :: l, B' :: l', h, k, b, e => by
    have hr : Kinds l l' := by
      cases B <;> cases B' <;> simp only [Kinds] at h <;> first
        | exact h
        | exact h.2
        | exact h.elim
    cases k with
    | zero =>
      simp at e; subst e
      refine ⟨B', rfl, fun hb => ?_⟩
      cases B with
      | dead => exact hb.elim
      | ro _ _ => exact hb.elim
      | box _ _ => exact ⟨fun _ => trivial, fun _ => trivial⟩
      | row t sz cap els =>
        cases B' <;> simp only [Kinds] at h <;> first
          | exact h.elim
          | skip
        obtain ⟨rfl, _⟩ := h
        exact ⟨fun h => h, fun h => h⟩
    | succ k => simpa using hr.get (k := k) (by simpa using e)
  | [], _ :: _, h, _, _, _ => by simp [Kinds] at h
  | B :: _, [], h, _, _, _ => by cases B <;> simp [Kinds] at h
/-- The caller's memory, where what it handed over is what it became. -/
def Mem.setL (σ : Nm → Nm) : Mem → List Nm → List SB → List SB → Mem
  | m, a :: ns, .box _ _ :: bs, b' :: bs' => Mem.setL σ (m.set a (b'.ren σ)) ns bs bs'
  | m, a :: ns, .row _ _ _ _ :: bs, b' :: bs' => Mem.setL σ (m.set a (b'.ren σ)) ns bs bs'
  | m, _ :: ns, _ :: bs, _ :: bs' => Mem.setL σ m ns bs bs'
  | m, _, _, _ => m
theorem Mem.set_len (m : Mem) (a : Nm) (B : SB) : (m.set a B).ext.length = m.ext.length ∧ (m.set a B).old.length = m.old.length ∧ (m.set a B).glob = m.glob := by cases a <;> simp [Mem.set]
theorem Mem.setL_len (σ : Nm → Nm) : ∀ (ns : List Nm) (bs bs' : List SB) (m : Mem), (m.setL σ ns bs bs').ext.length = m.ext.length ∧ (m.setL σ ns bs bs').old.length = m.old.length ∧ (m.setL σ ns bs bs').glob = m.glob
  | a :: ns, B :: bs, B' :: bs', m => by
    cases B with
    | box t c =>
      have h := Mem.setL_len σ ns bs bs' (m.set a (B'.ren σ))
      have h2 := m.set_len a (B'.ren σ)
      exact ⟨h.1.trans h2.1, h.2.1.trans h2.2.1, h.2.2.trans h2.2.2⟩
    | row t sz c e =>
      have h := Mem.setL_len σ ns bs bs' (m.set a (B'.ren σ))
      have h2 := m.set_len a (B'.ren σ)
      exact ⟨h.1.trans h2.1, h.2.1.trans h2.2.1, h.2.2.trans h2.2.2⟩
    | dead => exact Mem.setL_len σ ns bs bs' m
    | ro _ _ => exact Mem.setL_len σ ns bs bs' m
  | [], _, _, m => by cases ‹List SB› <;> exact ⟨rfl, rfl, rfl⟩
  | _ :: _, [], _, m => ⟨rfl, rfl, rfl⟩
  | _ :: _, B :: _, [], m => by cases B <;> exact ⟨rfl, rfl, rfl⟩
/-- What stands there then. -/
theorem Mem.setL_look (σ : Nm → Nm) : ∀ (ns : List Nm) (bs bs' : List SB) (m : Mem), ns.Nodup → (∀ (k : Nat) (a : Nm) (b : SB), ns[k]? = some a → bs[k]? = some b → b.isBR → ∀ x, a ≠ .g x) → ns.length = bs.length → bs.length = bs'.length →
    ∀ {a : Nm} {B : SB}, (m.setL σ ns bs bs').look a = some B →
      (∃ (k : Nat) (b b' : SB), ns[k]? = some a ∧ bs[k]? = some b ∧ b.isBR ∧ bs'[k]? = some b' ∧ B = b'.ren σ) ∨ (m.look a = some B ∧ ∀ (k : Nat) (b : SB), ns[k]? = some a → bs[k]? = some b → ¬ b.isBR)
  | [], [], [], m, _, _, _, _, a, B, h => .inr ⟨h, fun k b hk => by simp at hk⟩
  | a0 :: ns, b0 :: bs, b0' :: bs', m, hnd, hg, hl, hl', a, B, h => by
    have hnd' := List.nodup_cons.1 hnd
    have hg' : ∀ (k : Nat) (a : Nm) (b : SB), ns[k]? = some a → bs[k]? = some b → b.isBR → ∀ x, a ≠ .g x := fun k a b h1 h2 => hg (k + 1) a b (by simpa using h1) (by simpa using h2)
    have shift : (∃ (k : Nat) (b b' : SB), ns[k]? = some a ∧ bs[k]? = some b ∧ b.isBR ∧ bs'[k]? = some b' ∧ B = b'.ren σ) → ∃ (k : Nat) (b b' : SB), (a0 :: ns)[k]? = some a ∧ (b0 :: bs)[k]? = some b ∧ b.isBR ∧ (b0' :: bs')[k]? = some b' ∧ B = b'.ren σ :=
      fun ⟨k, b, b', h1, h2, h3, h4, h5⟩ => ⟨k + 1, b, b', by simpa using h1, by simpa using h2, h3, by simpa using h4, h5⟩
    by_cases hbr : b0.isBR
    · have hstep : (m.setL σ (a0 :: ns) (b0 :: bs) (b0' :: bs')) = (m.set a0 (b0'.ren σ)).setL σ ns bs bs' := by
        cases b0 with
        | box _ _ => rfl
        | row _ _ _ _ => rfl
        | dead => exact hbr.elim
        | ro _ _ => exact hbr.elim
      rw [hstep] at h
      rcases Mem.setL_look σ ns bs bs' _ hnd'.2 hg' (by simpa using hl) (by simpa using hl') h with h | ⟨h1, h2⟩
      · exact .inl (shift h)
      · rcases Mem.look_set (hg 0 a0 b0 rfl rfl hbr) h1 with ⟨rfl, rfl⟩ | ⟨hne, h1⟩
        · exact .inl ⟨0, b0, b0', rfl, rfl, hbr, rfl, rfl⟩
        · refine .inr ⟨h1, fun k b hk hb => ?_⟩
          cases k with
          | zero => simp at hk; exact (hne hk.symm).elim
          | succ k => exact h2 k b (by simpa using hk) (by simpa using hb)
    · have hstep : (m.setL σ (a0 :: ns) (b0 :: bs) (b0' :: bs')) = m.setL σ ns bs bs' := by
        cases b0 with
        | box _ _ => exact (hbr trivial).elim
        | row _ _ _ _ => exact (hbr trivial).elim
        | dead => rfl
        | ro _ _ => rfl
      rw [hstep] at h
      rcases Mem.setL_look σ ns bs bs' _ hnd'.2 hg' (by simpa using hl) (by simpa using hl') h with h | ⟨h1, h2⟩
      · exact .inl (shift h)
      · refine .inr ⟨h1, fun k b hk hb => ?_⟩
        cases k with
        | zero => simp at hk hb; subst hb; exact hbr
        | succ k => exact h2 k b (by simpa using hk) (by simpa using hb)
  | [], _ :: _, _, _, _, _, hl, _, _, _, _ => by simp at hl
  | _ :: _, [], _, _, _, _, hl, _, _, _, _ => by simp at hl
  | [], [], _ :: _, _, _, _, _, hl, _, _, _ => by simp at hl
  | _ :: _, _ :: _, [], _, _, _, _, hl, _, _, _ => by simp at hl
theorem SB.own_br : ∀ {b : SB}, b.isOwn → b.isBR
  | .box .., _ => trivial
  | .row .., _ => trivial
  | .dead, h => h.elim
  | .ro .., h => h.elim
theorem Lends.len {m : Mem} {σ : Nm → Nm} : ∀ {ns : List Nm} {bs : List SB}, Lends m σ ns bs → ns.length = bs.length
  | [], [], _ => rfl
  | _ :: ns, _ :: bs, h => by simp [Lends.len h.2]
  | [], _ :: _, h => h.elim
  | _ :: _, [], h => h.elim
/-- A call of a function that is handed blocks of the caller's own, and changes them. -/
theorem call_own {P : Program} {m : Mem} {n : Nat} {f : Nat} {args : List SV} {K : SV → Mem → Prop} {G : List (Nat × SB)} {bs : List SB} {args0 : List SV} {K0 : SV → List SB → List SB → Prop} (ns : List Nm) (hf : FnOK P G f bs args0 K0)
    (hG : noOwn G) (hmG : m.glob = G) (hn : m.ext.length = n) (ha : args = renL (renN ns n) args0) (hv : Lends m (renN ns n) ns bs) (hd : ns.Nodup) (h : ∀ r bs' ext, K0 r bs' ext → Kinds bs bs' ∧ K (r.ren (renN ns n)) ((m.setL (renN ns n) ns bs bs').grow (ext.map (SB.ren (renN ns n))))) : CallSem P false m n f args K := by
  subst hn
  refine ⟨hf.ent, fun E ρ w us hE hH hr => ?_⟩
  subst ha
  -- how the callee sees it
  obtain ⟨ρc, hρc⟩ : ∃ ρc : Plc, ρc = ⟨fun | .o k => ρ.at_ (ns.getD k (.g 0)) | .g x => (x, 0) | .n _ => (0, 0), 0⟩ := ⟨_, rfl⟩
  have hnsHas : ∀ k, ρ.has (ns.getD k (.g 0)) := fun k => by
    rw [List.getD_eq_getElem?_getD]
    cases e : ns[k]? with
    | none => exact trivial
    | some a =>
      obtain ⟨B, _, hB, _⟩ := hv.has e
      exact hH.mem.has hB
  have hcO : ∀ k, ρc.at_ (.o k) = ρ.at_ (ns.getD k (.g 0)) := fun k => by rw [hρc]
  have hcG : ∀ x, ρc.at_ (.g x) = (x, 0) := fun x => by rw [hρc]
  have hcN : ρc.nx = 0 := by rw [hρc]
  have hargs : RelL ρc args0 us := RelL.unren (σ := renN ns m.ext.length) (fun a h => by
    cases a with
    | o k => exact ⟨trivial, (hcO k).symm⟩
    | g x => exact ⟨trivial, (hH.mem.glob x).trans (hcG x).symm⟩
    | n i =>
      have h : m.ext.length + i < ρ.nx := h
      rw [hH.mem.nx] at h
      omega) hr
  have hun : ∀ a, ρ.has (renN ns m.ext.length a) → ρc.has a ∧ ρ.at_ (renN ns m.ext.length a) = ρc.at_ a := fun a h => by
    cases a with
    | o k => exact ⟨trivial, (hcO k).symm⟩
    | g x => exact ⟨trivial, (hH.mem.glob x).trans (hcG x).symm⟩
    | n i =>
      have h : m.ext.length + i < ρ.nx := h
      rw [hH.mem.nx] at h
      omega
  -- a block as the callee sees it
  have hbs : ∀ {k : Nat} {b : SB}, bs[k]? = some b → ∃ a B, ns[k]? = some a ∧ m.look a = some B ∧ ρc.at_ (.o k) = ρ.at_ a ∧ BlkOK ρc (ρc.at_ (.o k)) b w ∧ (b.isOwn → B.isOwn ∧ (∀ x, a ≠ .g x) ∧ B = b.ren (renN ns m.ext.length)) ∧ (b.isLive → B.isLive) := fun {k b} hb => by
    obtain ⟨a, B, h1, h2, h3⟩ := hv.get hb
    have hat : ρc.at_ (.o k) = ρ.at_ a := by rw [hcO, List.getD_eq_getElem?_getD, h1]; rfl
    refine ⟨a, B, h1, h2, hat, ?_⟩
    rw [hat]
    rcases h3 with h3 | ⟨h3, rfl⟩
    · have := viewB_ok (ρ' := ρc) h3 (hH.mem.blk _ _ h2)
      exact ⟨this.1, fun ho => (this.2.1 ho).elim, this.2.2⟩
    · refine ⟨?_, fun ho => ⟨ren_own.2 ho, h3, rfl⟩, fun hl => ren_live.2 hl⟩
      have hb' := hH.mem.blk _ _ h2
      cases b with
      | dead => trivial
      | ro sz els => exact hb'
      | box t cells =>
        obtain ⟨k1, us', k2, k3⟩ := hb'
        exact ⟨k1, us', RelL.unren hun k2, k3⟩
      | row t sz cap els => exact hb'
  have hmem : MemOK ρc ⟨G, bs, []⟩ w := by
    refine ⟨?_, ?_, hcG, hcN⟩
    · intro a b hb
      cases a with
      | o k => obtain ⟨_, _, _, _, _, h5, _⟩ := hbs hb; exact h5
      | n i => simp [Mem.look] at hb
      | g x =>
        have h1 := hH.mem.blk (.g x) b (by show assoc m.glob x = _; rw [hmG]; exact hb)
        rw [hH.mem.glob] at h1
        rw [hcG]
        cases b with
        | dead => trivial
        | ro sz els => exact h1
        | box t cells => exact (hG x _ hb trivial).elim
        | row t sz cap els => exact ⟨h1.1, h1.2.1, fun hc => h1.2.2 hc⟩
    · intro a b A B hA hB hO hL hne
      cases a with
      | n i => simp [Mem.look] at hA
      | g x => exact (hG x A hA hO).elim
      | o k =>
        obtain ⟨a1, A1, k1, k2, k3, _, k5, _⟩ := hbs hA
        obtain ⟨k6, k7, _⟩ := k5 hO
        cases b with
        | n i => simp [Mem.look] at hB
        | g x =>
          have hBm : m.look (.g x) = some B := by show assoc m.glob x = _; rw [hmG]; exact hB
          rw [k3, hcG, ← hH.mem.glob x]
          exact hH.mem.sep _ _ _ _ k2 hBm k6 hL (k7 x)
        | o k' =>
          obtain ⟨b1, B1, j1, j2, j3, _, _, j6⟩ := hbs hB
          rw [k3, j3]
          refine hH.mem.sep _ _ _ _ k2 j2 k6 (j6 hL) (fun e => ?_)
          subst e
          have : k = k' := (List.getElem?_inj (getElem?_lt k1) hd).1 (k1.trans j1.symm)
          exact hne (by rw [this])
  refine (hf.out ρc w us hmem hargs).mono ?_
  rintro e w' ⟨ρ', r, bs', ext, u, rfl, hH', hr', hK⟩
  obtain ⟨hkinds, hK2⟩ := h r bs' ext hK
  -- a block that is not handed over as the caller's own
  have hfr : ∀ {a A}, m.look a = some A → A.isLive → (∀ (k : Nat) (b : SB), ns[k]? = some a → bs[k]? = some b → ¬ b.isOwn) → w'.heap[(ρ.at_ a).1]? = w.heap[(ρ.at_ a).1]? := by
    intro a A ha hl hno
    refine hH'.fr _ ((hH.mem.blk _ _ ha).lt hl) ?_
    rintro ⟨k, b, hb, hO, he⟩
    obtain ⟨a1, A1, k1, k2, k3, _, k5, _⟩ := hbs hb
    obtain ⟨k6, _, _⟩ := k5 hO
    have he : (ρc.at_ (.o k)).1 = (ρ.at_ a).1 := he
    rw [k3] at he
    by_cases e : a1 = a
    · subst e
      exact hno k b k1 hb hO
    · exact hH.mem.sep _ _ _ _ k2 ha k6 hl e he
  obtain ⟨ρ2, hρ2⟩ : ∃ ρ2 : Plc, ρ2 = ⟨fun | .n i => if i < m.ext.length then ρ.at_ (.n i) else ρ'.at_ (.n (i - m.ext.length)) | a => ρ.at_ a, ρ.nx + ext.length⟩ := ⟨_, rfl⟩
  have hag : Agree ρ ρ2 := by
    rw [hρ2]
    refine ⟨Nat.le_add_right _ _, fun a h => ?_⟩
    cases a with
    | n i =>
      have h : i < ρ.nx := h
      rw [hH.mem.nx] at h
      simp only
      rw [if_pos h]
    | o k => rfl
    | g x => rfl
  have h2n : ∀ i, ρ2.at_ (.n (m.ext.length + i)) = ρ'.at_ (.n i) := fun i => by
    rw [hρ2]
    simp only
    rw [if_neg (by omega), show m.ext.length + i - m.ext.length = i by omega]
  have hren : RenOK ρ' ρ2 (renN ns m.ext.length) := by
    refine ⟨fun a h => ?_, fun a h => ?_⟩
    · cases a with
      | o k => exact hag.has (hnsHas k)
      | g x => exact trivial
      | n i =>
        have h : i < ρ'.nx := h
        rw [hH'.mem.nx] at h
        show m.ext.length + i < ρ2.nx
        rw [hρ2]
        simp only
        rw [hH.mem.nx]
        have h : i < ext.length := h
        omega
    · cases a with
      | o k =>
        show ρ2.at_ (ns.getD k (.g 0)) = _
        rw [hag.eq _ (hnsHas k), hH'.old k]
        exact (hcO k).symm
      | g x => rw [hH'.mem.glob]; show ρ2.at_ (.g x) = _; rw [hag.eq _ (show ρ.has (.g x) from trivial)]; exact hH.mem.glob x
      | n i => exact h2n i
  have hlenB : bs'.length = bs.length := hH'.len
  have hlenN : ns.length = bs.length := by
    exact Lends.len hv
  have hgN : ∀ (k : Nat) (a : Nm) (b : SB), ns[k]? = some a → bs[k]? = some b → b.isBR → ∀ x, a ≠ .g x := by
    intro k a b h1 h2 hb
    obtain ⟨a1, B, j1, j2, j3⟩ := hv.get h2
    rw [h1] at j1
    cases j1
    rcases j3 with j3 | j3
    · exfalso
      cases b <;> cases B <;> simp only [viewB, SB.isBR] at j3 hb
    · exact j3.1
  have hlen2 := Mem.setL_len (renN ns m.ext.length) ns bs bs' m
  have hlook : ∀ {a B}, ((m.setL (renN ns m.ext.length) ns bs bs').grow (ext.map (SB.ren (renN ns m.ext.length)))).look a = some B →
      (∃ k b b' A, ns[k]? = some a ∧ bs[k]? = some b ∧ b.isBR ∧ bs'[k]? = some b' ∧ B = b'.ren (renN ns m.ext.length) ∧ m.look a = some A ∧ (b'.isOwn → A.isOwn) ∧ (b'.isLive → A.isLive) ∧ ρ2.at_ a = ρ'.at_ (.o k) ∧ ρ2.at_ a = ρ.at_ a) ∨
      (m.look a = some B ∧ ρ2.at_ a = ρ.at_ a ∧ ∀ (k : Nat) (b : SB), ns[k]? = some a → bs[k]? = some b → ¬ b.isBR) ∨ ∃ i B0, a = .n (m.ext.length + i) ∧ ext[i]? = some B0 ∧ B = B0.ren (renN ns m.ext.length) := by
    intro a B hB
    have key : (m.setL (renN ns m.ext.length) ns bs bs').look a = some B → _ := fun hB => Mem.setL_look (renN ns m.ext.length) ns bs bs' m hd hgN hlenN hlenB.symm hB
    have fin : (m.setL (renN ns m.ext.length) ns bs bs').look a = some B → (∃ k b b' A, ns[k]? = some a ∧ bs[k]? = some b ∧ b.isBR ∧ bs'[k]? = some b' ∧ B = b'.ren (renN ns m.ext.length) ∧ m.look a = some A ∧ (b'.isOwn → A.isOwn) ∧ (b'.isLive → A.isLive) ∧ ρ2.at_ a = ρ'.at_ (.o k) ∧ ρ2.at_ a = ρ.at_ a) ∨
      (m.look a = some B ∧ ρ2.at_ a = ρ.at_ a ∧ ∀ (k : Nat) (b : SB), ns[k]? = some a → bs[k]? = some b → ¬ b.isBR) := by
      intro hB
      rcases key hB with ⟨k, b, b', h1, h2, h3, h4, h5⟩ | ⟨h1, h2⟩
      · obtain ⟨a1, A, j1, j2, j3, _, j5, j6⟩ := hbs h2
        rw [h1] at j1
        cases j1
        obtain ⟨b2, q1, q2⟩ := hkinds.get h2
        rw [h4] at q1
        cases q1
        have hq := q2 h3
        have hat : ρ2.at_ a = ρ.at_ a := hag.eq _ (hH.mem.has j2)
        exact .inl ⟨k, b, b', A, h1, h2, h3, h4, h5, j2, fun ho => (j5 (hq.2 ho)).1, fun hl => j6 (hq.1 hl), by rw [hat, hH'.old k]; exact j3.symm, hat⟩
      · exact .inr ⟨h1, hag.eq _ (hH.mem.has h1), h2⟩
    cases a with
    | o k => exact (fin hB).imp id .inl
    | g x => exact (fin hB).imp id .inl
    | n i =>
      have hB' : ((m.setL (renN ns m.ext.length) ns bs bs').ext ++ ext.map (SB.ren (renN ns m.ext.length)))[i]? = some B := hB
      by_cases hi : i < m.ext.length
      · rw [List.getElem?_append_left (by rw [hlen2.1]; exact hi)] at hB'
        exact (fin hB').imp id .inl
      · rw [List.getElem?_append_right (by rw [hlen2.1]; omega), hlen2.1, List.getElem?_map, Option.map_eq_some_iff] at hB'
        obtain ⟨B0, h1, h2⟩ := hB'
        exact .inr (.inr ⟨i - m.ext.length, B0, by congr 1; omega, h1, h2.symm⟩)
  have hown : ∀ {B : SB}, (B.ren (renN ns m.ext.length)).isOwn ↔ B.isOwn := fun {B} => by cases B <;> exact Iff.rfl
  have hlive : ∀ {B : SB}, (B.ren (renN ns m.ext.length)).isLive ↔ B.isLive := fun {B} => by cases B <;> exact Iff.rfl
  have hblk : ∀ {p : Nat × Nat} {B0 : SB}, BlkOK ρ' p B0 w' → BlkOK ρ2 p (B0.ren (renN ns m.ext.length)) w' := by
    intro p B0 this
    cases B0 with
    | dead => trivial
    | ro sz els => exact this
    | box t cells =>
      obtain ⟨h1, us, h2, h3⟩ := this
      exact ⟨h1, us, h2.ren hren, h3⟩
    | row t sz cap els => exact this
  have hlt : ∀ {a A}, m.look a = some A → A.isLive → (ρ.at_ a).1 < w.heap.size := fun ha hl => (hH.mem.blk _ _ ha).lt hl
  have hge : ∀ {i B0}, ext[i]? = some B0 → B0.isLive → w.heap.size ≤ (ρ'.at_ (.n i)).1 := fun hi hl => hH'.new _ _ hi hl
  refine ⟨ρ2, _, (m.setL (renN ns m.ext.length) ns bs bs').grow (ext.map (SB.ren (renN ns m.ext.length))), u, rfl, hag, ⟨⟨?_, ?_, ?_, ?_⟩, ?_, ?_, ?_, hlen2.2.1.trans hH.len, hlen2.2.2.trans hH.gl, hH'.os.trans hH.os, hH'.tape.trans hH.tape, hH'.output.trans hH.output, Nat.le_trans hH.size hH'.size, ?_⟩, hr'.ren hren, hK2, fun e => by cases e⟩
  · intro a B hB
    rcases hlook hB with ⟨k, b, b', A, h1, h2, h3, h4, rfl, h5, h6, h7, h8, h9⟩ | ⟨h1, h2, h3⟩ | ⟨i, B0, rfl, h1, rfl⟩
    · rw [h8]
      exact hblk (hH'.mem.blk (.o k) b' h4)
    · rw [h2]
      exact ((hH.mem.blk _ _ h1).agree hag).same hH'.size (fun hl => hfr h1 hl (fun k b k1 k2 k3 => h3 k b k1 k2 (SB.own_br k3)))
    · rw [h2n]
      exact hblk (hH'.mem.blk (.n i) B0 h1)
  · intro a b A B hA hB hO hL hne
    rcases hlook hA with ⟨k, b1, b1', A1, h1, h2, h3, h4, rfl, h5, h6, h7, h8, h9⟩ | ⟨h1, h2, h3⟩ | ⟨i, B0, rfl, h1, rfl⟩ <;>
      rcases hlook hB with ⟨q, c1, c1', C1, g1, g2, g3, g4, rfl, g5, g6, g7, g8, g9⟩ | ⟨g1, g2, g3⟩ | ⟨j, C0, rfl, g1, rfl⟩
    · rw [h8, g8]
      exact hH'.mem.sep (.o k) (.o q) _ _ h4 g4 (hown.1 hO) (hlive.1 hL) (fun e => by
        injection e with e
        subst e
        rw [h1] at g1
        cases g1
        exact hne rfl)
    · rw [h9, g2]
      exact hH.mem.sep _ _ _ _ h5 g1 (h6 (hown.1 hO)) hL hne
    · rw [h9, h2n]
      have := hlt h5 (SB.live_of_own (h6 (hown.1 hO)))
      have := hge g1 (hlive.1 hL)
      omega
    · rw [h2, g9]
      exact hH.mem.sep _ _ _ _ h1 g5 hO (g7 (hlive.1 hL)) hne
    · rw [h2, g2]; exact hH.mem.sep _ _ _ _ h1 g1 hO hL hne
    · rw [h2, h2n]
      have := hlt h1 (SB.live_of_own hO)
      have := hge g1 (hlive.1 hL)
      omega
    · rw [g9, h2n]
      have := hlt g5 (g7 (hlive.1 hL))
      have := hge h1 (SB.live_of_own (hown.1 hO))
      omega
    · rw [g2, h2n]
      have := hlt g1 hL
      have := hge h1 (SB.live_of_own (hown.1 hO))
      omega
    · rw [h2n, h2n]
      exact hH'.mem.sep (.n i) (.n j) _ _ h1 g1 (hown.1 hO) (hlive.1 hL) (fun e => hne (by injection e with e; rw [e]))
  · intro x
    rw [hag.eq _ (show ρ.has (.g x) from trivial)]
    exact hH.mem.glob x
  · rw [hρ2]
    show ρ.nx + ext.length = ((m.setL (renN ns m.ext.length) ns bs bs').ext ++ ext.map _).length
    rw [hH.mem.nx, List.length_append, hlen2.1]; simp
  · intro a A hA hO
    rcases hlook hA with ⟨k, b, b', A1, h1, h2, h3, h4, rfl, h5, h6, h7, h8, h9⟩ | ⟨h1, h2, h3⟩ | ⟨i, B0, rfl, h1, rfl⟩
    · rw [h9]; exact hH.low _ _ h5 (h6 (hown.1 hO))
    · rw [h2]; exact hH.low _ _ h1 hO
    · rw [h2n]
      exact .inr (Nat.le_trans hH.size (hge h1 (SB.live_of_own (hown.1 hO))))
  · intro i B hi hl
    rcases hlook (a := .n i) hi with ⟨k, b, b', A1, h1, h2, h3, h4, rfl, h5, h6, h7, h8, h9⟩ | ⟨h1, h2, h3⟩ | ⟨j, B0, e, h1, rfl⟩
    · rw [h9]; exact hH.new _ _ h5 (h7 (hlive.1 hl))
    · rw [h2]; exact hH.new _ _ h1 hl
    · rw [e, h2n]
      exact Nat.le_trans hH.size (hge h1 (hlive.1 hl))
  · intro k
    rw [hag.eq _ (show ρ.has (.o k) from trivial)]
    exact hH.old k
  · intro n hn hO
    rw [hH'.fr n (Nat.lt_of_lt_of_le hn hH.size)]
    · exact hH.fr n hn hO
    · rintro ⟨k, b, hb, hO', he⟩
      obtain ⟨a1, A1, k1, k2, k3, _, k5, _⟩ := hbs hb
      have he : (ρc.at_ (.o k)).1 = n := he
      rw [k3] at he
      rcases hH.low _ _ k2 (k5 hO').1 with h1 | h1
      · rw [he] at h1; exact hO h1
      · omega
end Go.Proofs.Ytnkhdnmilncidaa
