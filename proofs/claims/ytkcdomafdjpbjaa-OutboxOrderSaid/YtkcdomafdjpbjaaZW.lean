/- A call of a function that changes blocks of the caller's own. -/
import Derived.Test.YtkcdomafdjpbjaaZL
namespace Go.Proofs.Ytkcdomafdjpbjaa
open Go.RowKit

/-- A box, or a row. -/
def SB.isBR : SB → Prop
  | .box .. => True
  | .row .. => True
  | _ => False
/-- What became of the blocks: as live, and as much the caller's own, as they were. -/
def Kinds : List SB → List SB → Prop
  | [], [] => True
  | .box .. :: l, .box .. :: l' => Kinds l l'
  | .row _ _ cap _ :: l, .row _ _ cap' _ :: l' => cap' = cap ∧ Kinds l l'
  | .ro .. :: l, _ :: l' => Kinds l l'
  | .cst .. :: l, _ :: l' => Kinds l l'
  | .dead :: l, _ :: l' => Kinds l l'
  | _, _ => False
theorem Kinds.get : ∀ {l l' : List SB}, Kinds l l' → ∀ {k : Nat} {b : SB}, l[k]? = some b → ∃ b', l'[k]? = some b' ∧ (b.isBR → (b'.isLive → b.isLive) ∧ (b'.isOwn → b.isOwn))
  | [], [], _, k, b, h => by simp at h
  | B :: l, B' :: l', h, k, b, e => by
    have hr : Kinds l l' := by
      cases B <;> cases B' <;> simp only [Kinds] at h <;> first
        | exact h
        | exact h.2
        | exact h.elim
    cases k with
    | zero =>
      simp at e; subst e
      refine ⟨B', rfl, fun hb => ?_⟩
      cases B with
      | dead => exact hb.elim
      | ro _ _ => exact hb.elim
      | cst _ _ => exact hb.elim
      | box _ _ => exact ⟨fun _ => trivial, fun _ => trivial⟩
      | row t sz cap els =>
        cases B' <;> simp only [Kinds] at h <;> first
          | exact h.elim
          | skip
        obtain ⟨rfl, _⟩ := h
        exact ⟨fun h => h, fun h => h⟩
    | succ k => simpa using hr.get (k := k) (by simpa using e)
  | [], _ :: _, h, _, _, _ => by simp [Kinds] at h
  | B :: _, [], h, _, _, _ => by cases B <;> simp [Kinds] at h
/-- The caller's memory, where what it handed over is what it became. -/
def Mem.setL (σ : Nm → Nm) : Mem → List Nm → List SB → List SB → Mem
  | m, a :: ns, .box _ _ :: bs, b' :: bs' => Mem.setL σ (m.set a (b'.ren σ)) ns bs bs'
  | m, a :: ns, .row _ _ _ _ :: bs, b' :: bs' => Mem.setL σ (m.set a (b'.ren σ)) ns bs bs'
  | m, _ :: ns, _ :: bs, _ :: bs' => Mem.setL σ m ns bs bs'
  | m, _, _, _ => m
theorem Mem.set_len (m : Mem) (a : Nm) (B : SB) : (m.set a B).ext.length = m.ext.length ∧ (m.set a B).old.length = m.old.length ∧ (m.set a B).glob = m.glob := by cases a <;> simp [Mem.set]
theorem Mem.setL_len (σ : Nm → Nm) : ∀ (ns : List Nm) (bs bs' : List SB) (m : Mem), (m.setL σ ns bs bs').ext.length = m.ext.length ∧ (m.setL σ ns bs bs').old.length = m.old.length ∧ (m.setL σ ns bs bs').glob = m.glob
  | a :: ns, B :: bs, B' :: bs', m => by
    cases B with
    | box t c =>
      have h := Mem.setL_len σ ns bs bs' (m.set a (B'.ren σ))
      have h2 := m.set_len a (B'.ren σ)
      exact ⟨h.1.trans h2.1, h.2.1.trans h2.2.1, h.2.2.trans h2.2.2⟩
    | row t sz c e =>
      have h := Mem.setL_len σ ns bs bs' (m.set a (B'.ren σ))
      have h2 := m.set_len a (B'.ren σ)
      exact ⟨h.1.trans h2.1, h.2.1.trans h2.2.1, h.2.2.trans h2.2.2⟩
    | dead => exact Mem.setL_len σ ns bs bs' m
    | ro _ _ => exact Mem.setL_len σ ns bs bs' m
    | cst _ _ => exact Mem.setL_len σ ns bs bs' m
  | [], _, _, m => by cases ‹List SB› <;> exact ⟨rfl, rfl, rfl⟩
  | _ :: _, [], _, m => ⟨rfl, rfl, rfl⟩
  | _ :: _, B :: _, [], m => by cases B <;> exact ⟨rfl, rfl, rfl⟩
/-- What stands there then. -/
theorem Mem.setL_look (σ : Nm → Nm) : ∀ (ns : List Nm) (bs bs' : List SB) (m : Mem), ns.Nodup → (∀ (k : Nat) (a : Nm) (b : SB), ns[k]? = some a → bs[k]? = some b → b.isBR → ∀ x, a ≠ .g x) → ns.length = bs.length → bs.length = bs'.length →
    ∀ {a : Nm} {B : SB}, (m.setL σ ns bs bs').look a = some B →
      (∃ (k : Nat) (b b' : SB), ns[k]? = some a ∧ bs[k]? = some b ∧ b.isBR ∧ bs'[k]? = some b' ∧ B = b'.ren σ) ∨ (m.look a = some B ∧ ∀ (k : Nat) (b : SB), ns[k]? = some a → bs[k]? = some b → ¬ b.isBR)
  | [], [], [], m, _, _, _, _, a, B, h => .inr ⟨h, fun k b hk => by simp at hk⟩
  | a0 :: ns, b0 :: bs, b0' :: bs', m, hnd, hg, hl, hl', a, B, h => by
    have hnd' := List.nodup_cons.1 hnd
    have hg' : ∀ (k : Nat) (a : Nm) (b : SB), ns[k]? = some a → bs[k]? = some b → b.isBR → ∀ x, a ≠ .g x := fun k a b h1 h2 => hg (k + 1) a b (by simpa using h1) (by simpa using h2)
    have shift : (∃ (k : Nat) (b b' : SB), ns[k]? = some a ∧ bs[k]? = some b ∧ b.isBR ∧ bs'[k]? = some b' ∧ B = b'.ren σ) → ∃ (k : Nat) (b b' : SB), (a0 :: ns)[k]? = some a ∧ (b0 :: bs)[k]? = some b ∧ b.isBR ∧ (b0' :: bs')[k]? = some b' ∧ B = b'.ren σ :=
      fun ⟨k, b, b', h1, h2, h3, h4, h5⟩ => ⟨k + 1, b, b', by simpa using h1, by simpa using h2, h3, by simpa using h4, h5⟩
    by_cases hbr : b0.isBR
    · have hstep : (m.setL σ (a0 :: ns) (b0 :: bs) (b0' :: bs')) = (m.set a0 (b0'.ren σ)).setL σ ns bs bs' := by
        cases b0 with
        | box _ _ => rfl
        | row _ _ _ _ => rfl
        | dead => exact hbr.elim
        | ro _ _ => exact hbr.elim
        | cst _ _ => exact hbr.elim
      rw [hstep] at h
      rcases Mem.setL_look σ ns bs bs' _ hnd'.2 hg' (by simpa using hl) (by simpa using hl') h with h | ⟨h1, h2⟩
      · exact .inl (shift h)
      · rcases Mem.look_set (hg 0 a0 b0 rfl rfl hbr) h1 with ⟨rfl, rfl⟩ | ⟨hne, h1⟩
        · exact .inl ⟨0, b0, b0', rfl, rfl, hbr, rfl, rfl⟩
        · refine .inr ⟨h1, fun k b hk hb => ?_⟩
          cases k with
          | zero => simp at hk; exact (hne hk.symm).elim
          | succ k => exact h2 k b (by simpa using hk) (by simpa using hb)
    · have hstep : (m.setL σ (a0 :: ns) (b0 :: bs) (b0' :: bs')) = m.setL σ ns bs bs' := by
        cases b0 with
        | box _ _ => exact (hbr trivial).elim
        | row _ _ _ _ => exact (hbr trivial).elim
        | dead => rfl
        | ro _ _ => rfl
        | cst _ _ => rfl
      rw [hstep] at h
      rcases Mem.setL_look σ ns bs bs' _ hnd'.2 hg' (by simpa using hl) (by simpa using hl') h with h | ⟨h1, h2⟩
      · exact .inl (shift h)
      · refine .inr ⟨h1, fun k b hk hb => ?_⟩
        cases k with
        | zero => simp at hk hb; subst hb; exact hbr
        | succ k => exact h2 k b (by simpa using hk) (by simpa using hb)
  | [], _ :: _, _, _, _, _, hl, _, _, _, _ => by simp at hl
  | _ :: _, [], _, _, _, _, hl, _, _, _, _ => by simp at hl
  | [], [], _ :: _, _, _, _, _, hl, _, _, _ => by simp at hl
  | _ :: _, _ :: _, [], _, _, _, _, hl, _, _, _ => by simp at hl
theorem SB.own_br : ∀ {b : SB}, b.isOwn → b.isBR
  | .box .., _ => trivial
  | .row .., _ => trivial
  | .dead, h => h.elim
  | .ro .., h => h.elim
  | .cst .., h => h.elim
theorem Lends.len {m : Mem} {σ : Nm → Nm} : ∀ {ns : List Nm} {bs : List SB}, Lends m σ ns bs → ns.length = bs.length
  | [], [], _ => rfl
  | _ :: ns, _ :: bs, h => by simp [Lends.len h.2]
  | [], _ :: _, h => h.elim
  | _ :: _, [], h => h.elim
/-- A call of a function that is handed blocks of the caller's own, and changes them. -/
theorem call_own {P : Program} {m : Mem} {n : Nat} {f : Nat} {args : List SV} {K : SV → Mem → Prop} {G : List (Nat × SB)} {bs : List SB} {args0 : List SV} {K0 : SV → List SB → List SB → Prop} (ns : List Nm) (hf : FnOK P G f bs args0 K0)
    (hG : noOwn G) (hmG : m.glob = G) (hn : m.ext.length = n) (ha : args = renL (renN ns n) args0) (hv : Lends m (renN ns n) ns bs) (hd : ns.Nodup) (h : ∀ r bs' ext, K0 r bs' ext → Kinds bs bs' ∧ K (r.ren (renN ns n)) ((m.setL (renN ns n) ns bs bs').grow (ext.map (SB.ren (renN ns n))))) : CallSem P false m n f args K := by
  subst hn
  refine ⟨fun E ρ w us hE hH hr => .inl ⟨hf.ent, ?_⟩⟩
  subst ha
  -- how the callee sees it
  obtain ⟨ρc, hρc⟩ : ∃ ρc : Plc, ρc = ⟨fun | .o k => ρ.at_ (ns.getD k (.g 0)) | .g x => (x, 0) | .n _ => (0, 0), 0, ρ.z, fun _ => none, ρ.gh⟩ := ⟨_, rfl⟩
  have hcZ : ρc.z = ρ.z := by rw [hρc]
  have hcQ : ∀ b, ρc.q b = none := fun b => by rw [hρc]
  have hz1 : ∀ b o v, ρ.z b o = some v → ρc.z b o = some v := fun b o v h => by rw [hcZ]; exact h
  have hz2 : ∀ b o v, ρc.z b o = some v → ρ.z b o = some v := fun b o v h => by rw [hcZ] at h; exact h
  have hnsHas : ∀ k, ρ.has (ns.getD k (.g 0)) := fun k => by
    rw [List.getD_eq_getElem?_getD]
    cases e : ns[k]? with
    | none => exact trivial
    | some a =>
      obtain ⟨B, _, hB, _⟩ := hv.has e
      exact hH.mem.has hB
  have hcO : ∀ k, ρc.at_ (.o k) = ρ.at_ (ns.getD k (.g 0)) := fun k => by rw [hρc]
  have hcG : ∀ x, ρc.at_ (.g x) = (x, 0) := fun x => by rw [hρc]
  have hcN : ρc.nx = 0 := by rw [hρc]
  have hargs : RelL ρc args0 us := RelL.unren (σ := renN ns m.ext.length) hz1 (fun a h => by
    cases a with
    | o k => exact ⟨trivial, (hcO k).symm⟩
    | g x => exact ⟨trivial, (hH.mem.glob x).trans (hcG x).symm⟩
    | n i =>
      have h : m.ext.length + i < ρ.nx := h
      rw [hH.mem.nx] at h
      omega) hr
  have hun : ∀ a, ρ.has (renN ns m.ext.length a) → ρc.has a ∧ ρ.at_ (renN ns m.ext.length a) = ρc.at_ a := fun a h => by
    cases a with
    | o k => exact ⟨trivial, (hcO k).symm⟩
    | g x => exact ⟨trivial, (hH.mem.glob x).trans (hcG x).symm⟩
    | n i =>
      have h : m.ext.length + i < ρ.nx := h
      rw [hH.mem.nx] at h
      omega
  -- a block as the callee sees it
  have hbs : ∀ {k : Nat} {b : SB}, bs[k]? = some b → ∃ a B, ns[k]? = some a ∧ m.look a = some B ∧ ρc.at_ (.o k) = ρ.at_ a ∧ BlkOK ρc (ρc.at_ (.o k)) b w ∧ (b.isOwn → B.isOwn ∧ (∀ x, a ≠ .g x) ∧ B = b.ren (renN ns m.ext.length)) ∧ (b.isLive → B.isLive) := fun {k b} hb => by
    obtain ⟨a, B, h1, h2, h3⟩ := hv.get hb
    have hat : ρc.at_ (.o k) = ρ.at_ a := by rw [hcO, List.getD_eq_getElem?_getD, h1]; rfl
    refine ⟨a, B, h1, h2, hat, ?_⟩
    rw [hat]
    rcases h3 with h3 | ⟨h3, rfl⟩
    · have := viewB_ok (ρ' := ρc) hz1 h3 (hH.mem.blk _ _ h2)
      exact ⟨this.1, fun ho => (this.2.1 ho).elim, this.2.2⟩
    · refine ⟨?_, fun ho => ⟨ren_own.2 ho, h3, rfl⟩, fun hl => ren_live.2 hl⟩
      have hb' := hH.mem.blk _ _ h2
      cases b with
      | dead => trivial
      | ro sz els => exact hb'.roz hz1
      | box t cells =>
        obtain ⟨k1, us', k2, k3⟩ := hb'
        exact ⟨k1, us', RelL.unren hz1 hun k2, k3⟩
      | cst t cells =>
        obtain ⟨k1, us', k2, k3⟩ := hb'
        exact ⟨k1, us', RelL.unren hz1 hun k2, k3⟩
      | row t sz cap els => exact hb'.rowz hz1
  have hmem : MemOK ρc ⟨G, bs, []⟩ w := by
    refine ⟨?_, ?_, hcG, hcN, fun b o v hz => hH.mem.fz b o v (hz2 b o v hz), ?_, fun b o hq => by rw [hcQ] at hq; cases hq⟩
    · intro a b hb
      cases a with
      | o k => obtain ⟨_, _, _, _, _, h5, _⟩ := hbs hb; exact h5
      | n i => simp [Mem.look] at hb
      | g x =>
        have h1 := hH.mem.blk (.g x) b (by show assoc m.glob x = _; rw [hmG]; exact hb)
        rw [hH.mem.glob] at h1
        rw [hcG]
        cases b with
        | dead => trivial
        | ro sz els => exact h1.roz hz1
        | box t cells => exact (hG x _ hb trivial).elim
        | cst t cells => exact (hG x _ hb trivial).elim
        | row t sz cap els => exact h1.rowz hz1
    · intro a b A B hA hB hO hL hne
      cases a with
      | n i => simp [Mem.look] at hA
      | g x => exact (hG x A hA (SB.fix_of_own hO)).elim
      | o k =>
        obtain ⟨a1, A1, k1, k2, k3, _, k5, _⟩ := hbs hA
        obtain ⟨k6, k7, _⟩ := k5 hO
        cases b with
        | n i => simp [Mem.look] at hB
        | g x =>
          have hBm : m.look (.g x) = some B := by show assoc m.glob x = _; rw [hmG]; exact hB
          rw [k3, hcG, ← hH.mem.glob x]
          exact hH.mem.sep _ _ _ _ k2 hBm k6 hL (k7 x)
        | o k' =>
          obtain ⟨b1, B1, j1, j2, j3, _, _, j6⟩ := hbs hB
          rw [k3, j3]
          refine hH.mem.sep _ _ _ _ k2 j2 k6 (j6 hL) (fun e => ?_)
          subst e
          have : k = k' := (List.getElem?_inj (getElem?_lt k1) hd).1 (k1.trans j1.symm)
          exact hne (by rw [this])
    · intro a A hA hO o
      cases a with
      | n i => simp [Mem.look] at hA
      | g x => exact (hG x A hA (SB.fix_of_own hO)).elim
      | o k =>
        obtain ⟨a1, A1, k1, k2, k3, _, k5, _⟩ := hbs hA
        rw [k3, hcZ]
        exact hH.mem.sepz _ _ k2 (k5 hO).1 o
  refine (hf.out ρc w us hcQ hmem hargs).mono ?_
  rintro e w' ⟨ρ', r, bs', ext, u, rfl, hH', hr', hK⟩
  obtain ⟨hkinds, hK2⟩ := h r bs' ext hK
  -- a block that is not handed over as the caller's own
  have hfr : ∀ {a A}, m.look a = some A → A.isLive → (∀ (k : Nat) (b : SB), ns[k]? = some a → bs[k]? = some b → ¬ b.isOwn) → w'.heap[(ρ.at_ a).1]? = w.heap[(ρ.at_ a).1]? := by
    intro a A ha hl hno
    refine hH'.fr _ ((hH.mem.blk _ _ ha).lt hl) ?_
    rintro ⟨k, b, hb, hO, he⟩
    obtain ⟨a1, A1, k1, k2, k3, _, k5, _⟩ := hbs hb
    obtain ⟨k6, _, _⟩ := k5 hO
    have he : (ρc.at_ (.o k)).1 = (ρ.at_ a).1 := he
    rw [k3] at he
    by_cases e : a1 = a
    · subst e
      exact hno k b k1 hb hO
    · exact hH.mem.sep _ _ _ _ k2 ha k6 hl e he
  obtain ⟨ρ2, hρ2⟩ : ∃ ρ2 : Plc, ρ2 = ⟨fun | .n i => if i < m.ext.length then ρ.at_ (.n i) else ρ'.at_ (.n (i - m.ext.length)) | a => ρ.at_ a, ρ.nx + ext.length, ρ'.z, ρ.q, ρ.gh⟩ := ⟨_, rfl⟩
  have h2G : ρ2.gh = ρ.gh := by rw [hρ2]
  have h2Z : ρ2.z = ρ'.z := by rw [hρ2]
  have h2Q : ρ2.q = ρ.q := by rw [hρ2]
  have hzle : ∀ b o v, ρ.z b o = some v → ρ'.z b o = some v := fun b o v h => hH'.zk b o v (hz1 b o v h)
  have hag : Agree ρ ρ2 := by
    rw [hρ2]
    refine ⟨Nat.le_add_right _ _, fun a h => ?_, hzle, fun _ _ h => h, rfl⟩
    cases a with
    | n i =>
      have h : i < ρ.nx := h
      rw [hH.mem.nx] at h
      simp only
      rw [if_pos h]
    | o k => rfl
    | g x => rfl
  have h2n : ∀ i, ρ2.at_ (.n (m.ext.length + i)) = ρ'.at_ (.n i) := fun i => by
    rw [hρ2]
    simp only
    rw [if_neg (by omega), show m.ext.length + i - m.ext.length = i by omega]
  have hren : RenOK ρ' ρ2 (renN ns m.ext.length) := by
    refine ⟨fun a h => ?_, fun a h => ?_, fun b o v h => by rw [h2Z]; exact h⟩
    · cases a with
      | o k => exact hag.has (hnsHas k)
      | g x => exact trivial
      | n i =>
        have h : i < ρ'.nx := h
        rw [hH'.mem.nx] at h
        show m.ext.length + i < ρ2.nx
        rw [hρ2]
        simp only
        rw [hH.mem.nx]
        have h : i < ext.length := h
        omega
    · cases a with
      | o k =>
        show ρ2.at_ (ns.getD k (.g 0)) = _
        rw [hag.eq _ (hnsHas k), hH'.old k]
        exact (hcO k).symm
      | g x => rw [hH'.mem.glob]; show ρ2.at_ (.g x) = _; rw [hag.eq _ (show ρ.has (.g x) from trivial)]; exact hH.mem.glob x
      | n i => exact h2n i
  have hlenB : bs'.length = bs.length := hH'.len
  have hlenN : ns.length = bs.length := by
    exact Lends.len hv
  have hgN : ∀ (k : Nat) (a : Nm) (b : SB), ns[k]? = some a → bs[k]? = some b → b.isBR → ∀ x, a ≠ .g x := by
    intro k a b h1 h2 hb
    obtain ⟨a1, B, j1, j2, j3⟩ := hv.get h2
    rw [h1] at j1
    cases j1
    rcases j3 with j3 | j3
    · exfalso
      cases b <;> cases B <;> simp only [viewB, SB.isBR] at j3 hb
    · exact j3.1
  have hlen2 := Mem.setL_len (renN ns m.ext.length) ns bs bs' m
  have hlook : ∀ {a B}, ((m.setL (renN ns m.ext.length) ns bs bs').grow (ext.map (SB.ren (renN ns m.ext.length)))).look a = some B →
      (∃ k b b' A, ns[k]? = some a ∧ bs[k]? = some b ∧ b.isBR ∧ bs'[k]? = some b' ∧ B = b'.ren (renN ns m.ext.length) ∧ m.look a = some A ∧ (b'.isOwn → A.isOwn) ∧ (b'.isLive → A.isLive) ∧ ρ2.at_ a = ρ'.at_ (.o k) ∧ ρ2.at_ a = ρ.at_ a) ∨
      (m.look a = some B ∧ ρ2.at_ a = ρ.at_ a ∧ ∀ (k : Nat) (b : SB), ns[k]? = some a → bs[k]? = some b → ¬ b.isBR) ∨ ∃ i B0, a = .n (m.ext.length + i) ∧ ext[i]? = some B0 ∧ B = B0.ren (renN ns m.ext.length) := by
    intro a B hB
    have key : (m.setL (renN ns m.ext.length) ns bs bs').look a = some B → _ := fun hB => Mem.setL_look (renN ns m.ext.length) ns bs bs' m hd hgN hlenN hlenB.symm hB
    have fin : (m.setL (renN ns m.ext.length) ns bs bs').look a = some B → (∃ k b b' A, ns[k]? = some a ∧ bs[k]? = some b ∧ b.isBR ∧ bs'[k]? = some b' ∧ B = b'.ren (renN ns m.ext.length) ∧ m.look a = some A ∧ (b'.isOwn → A.isOwn) ∧ (b'.isLive → A.isLive) ∧ ρ2.at_ a = ρ'.at_ (.o k) ∧ ρ2.at_ a = ρ.at_ a) ∨
      (m.look a = some B ∧ ρ2.at_ a = ρ.at_ a ∧ ∀ (k : Nat) (b : SB), ns[k]? = some a → bs[k]? = some b → ¬ b.isBR) := by
      intro hB
      rcases key hB with ⟨k, b, b', h1, h2, h3, h4, h5⟩ | ⟨h1, h2⟩
      · obtain ⟨a1, A, j1, j2, j3, _, j5, j6⟩ := hbs h2
        rw [h1] at j1
        cases j1
        obtain ⟨b2, q1, q2⟩ := hkinds.get h2
        rw [h4] at q1
        cases q1
        have hq := q2 h3
        have hat : ρ2.at_ a = ρ.at_ a := hag.eq _ (hH.mem.has j2)
        exact .inl ⟨k, b, b', A, h1, h2, h3, h4, h5, j2, fun ho => (j5 (hq.2 ho)).1, fun hl => j6 (hq.1 hl), by rw [hat, hH'.old k]; exact j3.symm, hat⟩
      · exact .inr ⟨h1, hag.eq _ (hH.mem.has h1), h2⟩
    cases a with
    | o k => exact (fin hB).imp id .inl
    | g x => exact (fin hB).imp id .inl
    | n i =>
      have hB' : ((m.setL (renN ns m.ext.length) ns bs bs').ext ++ ext.map (SB.ren (renN ns m.ext.length)))[i]? = some B := hB
      by_cases hi : i < m.ext.length
      · rw [List.getElem?_append_left (by rw [hlen2.1]; exact hi)] at hB'
        exact (fin hB').imp id .inl
      · rw [List.getElem?_append_right (by rw [hlen2.1]; omega), hlen2.1, List.getElem?_map, Option.map_eq_some_iff] at hB'
        obtain ⟨B0, h1, h2⟩ := hB'
        exact .inr (.inr ⟨i - m.ext.length, B0, by congr 1; omega, h1, h2.symm⟩)
  have hown : ∀ {B : SB}, (B.ren (renN ns m.ext.length)).isOwn ↔ B.isOwn := fun {B} => by cases B <;> exact Iff.rfl
  have hlive : ∀ {B : SB}, (B.ren (renN ns m.ext.length)).isLive ↔ B.isLive := fun {B} => by cases B <;> exact Iff.rfl
  have hblk : ∀ {p : Nat × Nat} {B0 : SB}, BlkOK ρ' p B0 w' → BlkOK ρ2 p (B0.ren (renN ns m.ext.length)) w' := by
    intro p B0 this
    cases B0 with
    | dead => trivial
    | ro sz els => exact this.roz hren.z
    | box t cells =>
      obtain ⟨h1, us, h2, h3⟩ := this
      exact ⟨h1, us, h2.ren hren, h3⟩
    | cst t cells =>
      obtain ⟨h1, us, h2, h3⟩ := this
      exact ⟨h1, us, h2.ren hren, h3⟩
    | row t sz cap els => exact this.rowz hren.z
  have hlt : ∀ {a A}, m.look a = some A → A.isLive → (ρ.at_ a).1 < w.heap.size := fun ha hl => (hH.mem.blk _ _ ha).lt hl
  have hge : ∀ {i B0}, ext[i]? = some B0 → B0.isOwn → w.heap.size ≤ (ρ'.at_ (.n i)).1 := fun {i B0} hi hO => (hH'.new _ _ hi (SB.live_of_own hO)).resolve_right (fun ⟨o, v, hz⟩ => by
    rw [hH'.mem.sepz (.n i) B0 hi hO] at hz
    cases hz)
  have hnl : ∀ {a A i C0}, m.look a = some A → A.isOwn → ext[i]? = some C0 → C0.isLive → (ρ.at_ a).1 ≠ (ρ'.at_ (.n i)).1 := fun {a A i C0} ha hO hi hl e => by
    have hlta := hlt ha (SB.live_of_own hO)
    have back : ∀ o v, ρ'.z (ρ'.at_ (.n i)).1 o = some v → False := fun o v hz => by
      rcases hH'.zn _ _ _ hz with ⟨o', v', h⟩ | h
      · have := hz2 _ _ _ h
        rw [← e, hH.mem.sepz _ _ ha hO] at this
        cases this
      · have h : w.heap.size ≤ (ρ'.at_ (.n i)).1 := h
        omega
    rcases hH'.new _ _ hi hl with h | ⟨o, v, hz⟩
    · have h : w.heap.size ≤ (ρ'.at_ (.n i)).1 := h
      omega
    · exact back o v hz
  refine ⟨ρ2, _, (m.setL (renN ns m.ext.length) ns bs bs').grow (ext.map (SB.ren (renN ns m.ext.length))), u, rfl, hag, ⟨⟨?_, ?_, ?_, ?_, (fun b o v hz => hH'.mem.fz b o v (by rw [h2Z] at hz; exact hz)), ?_, ?_⟩, ?_, ?_, ?_, hlen2.2.1.trans hH.len, hlen2.2.2.trans hH.gl, hH'.os.trans hH.os, hH'.tape.trans hH.tape, hH'.output.trans hH.output, Nat.le_trans hH.size hH'.size, ?_, ⟨fun b o hq => by rw [h2Q]; exact hH.rd.1 b o hq, hH.rd.2⟩, (fun b ds hq => hH.ql b ds (by rw [h2Q] at hq; exact hq)), (fun b o v hz => by rw [h2Z] at hz; exact (hH'.zn b o v hz).elim (fun ⟨o', v', h⟩ => hH.zn b o' v' (hz2 b o' v' h)) (fun h => .inr (Nat.le_trans hH.size h))), (fun b o v h => by rw [h2Z]; exact hzle _ _ _ (hH.zk b o v h)), h2G.trans hH.gh⟩, hr'.ren hren, hK2, fun e => by cases e⟩
  · intro a B hB
    rcases hlook hB with ⟨k, b, b', A, h1, h2, h3, h4, rfl, h5, h6, h7, h8, h9⟩ | ⟨h1, h2, h3⟩ | ⟨i, B0, rfl, h1, rfl⟩
    · rw [h8]
      exact hblk (hH'.mem.blk (.o k) b' h4)
    · rw [h2]
      exact ((hH.mem.blk _ _ h1).agree hag).same hH'.size (fun hl => hfr h1 hl (fun k b k1 k2 k3 => h3 k b k1 k2 (SB.own_br k3)))
    · rw [h2n]
      exact hblk (hH'.mem.blk (.n i) B0 h1)
  · intro a b A B hA hB hO hL hne
    rcases hlook hA with ⟨k, b1, b1', A1, h1, h2, h3, h4, rfl, h5, h6, h7, h8, h9⟩ | ⟨h1, h2, h3⟩ | ⟨i, B0, rfl, h1, rfl⟩ <;>
      rcases hlook hB with ⟨q, c1, c1', C1, g1, g2, g3, g4, rfl, g5, g6, g7, g8, g9⟩ | ⟨g1, g2, g3⟩ | ⟨j, C0, rfl, g1, rfl⟩
    · rw [h8, g8]
      exact hH'.mem.sep (.o k) (.o q) _ _ h4 g4 (hown.1 hO) (hlive.1 hL) (fun e => by
        injection e with e
        subst e
        rw [h1] at g1
        cases g1
        exact hne rfl)
    · rw [h9, g2]
      exact hH.mem.sep _ _ _ _ h5 g1 (h6 (hown.1 hO)) hL hne
    · rw [h9, h2n]
      exact hnl h5 (h6 (hown.1 hO)) g1 (hlive.1 hL)
    · rw [h2, g9]
      exact hH.mem.sep _ _ _ _ h1 g5 hO (g7 (hlive.1 hL)) hne
    · rw [h2, g2]; exact hH.mem.sep _ _ _ _ h1 g1 hO hL hne
    · rw [h2, h2n]
      exact hnl h1 hO g1 (hlive.1 hL)
    · rw [g9, h2n]
      have := hlt g5 (g7 (hlive.1 hL))
      have := hge h1 (hown.1 hO)
      omega
    · rw [g2, h2n]
      have := hlt g1 hL
      have := hge h1 (hown.1 hO)
      omega
    · rw [h2n, h2n]
      exact hH'.mem.sep (.n i) (.n j) _ _ h1 g1 (hown.1 hO) (hlive.1 hL) (fun e => hne (by injection e with e; rw [e]))
  · intro x
    rw [hag.eq _ (show ρ.has (.g x) from trivial)]
    exact hH.mem.glob x
  · rw [hρ2]
    show ρ.nx + ext.length = ((m.setL (renN ns m.ext.length) ns bs bs').ext ++ ext.map _).length
    rw [hH.mem.nx, List.length_append, hlen2.1]; simp
  · intro a A hA hO o
    have old : ∀ {A1 : SB}, m.look a = some A1 → A1.isOwn → ρ2.z (ρ.at_ a).1 o = none := by
      intro A1 h1 hO1
      rw [h2Z]
      cases hz : ρ'.z (ρ.at_ a).1 o with
      | none => rfl
      | some v =>
        exfalso
        rcases hH'.zn _ _ _ hz with ⟨o', v', h⟩ | h
        · have := hz2 _ _ _ h
          rw [hH.mem.sepz _ _ h1 hO1] at this
          cases this
        · have := hlt h1 (SB.live_of_own hO1)
          have h : w.heap.size ≤ (ρ.at_ a).1 := h
          omega
    rcases hlook hA with ⟨k, b, b', A1, h1, h2, h3, h4, rfl, h5, h6, h7, h8, h9⟩ | ⟨h1, h2, h3⟩ | ⟨i, B0, rfl, h1, rfl⟩
    · rw [h9]; exact old h5 (h6 (hown.1 hO))
    · rw [h2]; exact old h1 hO
    · rw [h2n, h2Z]
      exact hH'.mem.sepz (.n i) B0 h1 (hown.1 hO) o
  · intro b o hq
    rw [h2Q] at hq
    obtain ⟨h1, h2⟩ := hH.mem.fq b o hq
    refine ⟨(hH'.fr b (Array.getElem?_eq_some_iff.1 h1).1 ?_).trans h1, h2⟩
    rintro ⟨k, b', hb, hO, he⟩
    obtain ⟨a1, A1, k1, k2, k3, _, k5, _⟩ := hbs hb
    have he : (ρc.at_ (.o k)).1 = b := he
    rw [k3] at he
    exact hH.mem.qne k2 (k5 hO).1 hq he.symm
  · intro a A hA hO
    rcases hlook hA with ⟨k, b, b', A1, h1, h2, h3, h4, rfl, h5, h6, h7, h8, h9⟩ | ⟨h1, h2, h3⟩ | ⟨i, B0, rfl, h1, rfl⟩
    · rw [h9]; exact hH.low _ _ h5 (h6 (hown.1 hO))
    · rw [h2]; exact hH.low _ _ h1 hO
    · rw [h2n]
      exact .inr (Nat.le_trans hH.size (hge h1 (hown.1 hO)))
  · intro i B hi hl
    rcases hlook (a := .n i) hi with ⟨k, b, b', A1, h1, h2, h3, h4, rfl, h5, h6, h7, h8, h9⟩ | ⟨h1, h2, h3⟩ | ⟨j, B0, e, h1, rfl⟩
    · rw [h9, h2Z]; exact (hH.new _ _ h5 (h7 (hlive.1 hl))).imp id (fun ⟨o, v, hz⟩ => ⟨o, v, hzle _ _ _ hz⟩)
    · rw [h2, h2Z]; exact (hH.new _ _ h1 hl).imp id (fun ⟨o, v, hz⟩ => ⟨o, v, hzle _ _ _ hz⟩)
    · rw [e, h2n, h2Z]
      exact (hH'.new _ _ h1 (hlive.1 hl)).imp (fun h => Nat.le_trans hH.size h) id
  · intro k
    rw [hag.eq _ (show ρ.has (.o k) from trivial)]
    exact hH.old k
  · intro n hn hO
    rw [hH'.fr n (Nat.lt_of_lt_of_le hn hH.size)]
    · exact hH.fr n hn hO
    · rintro ⟨k, b, hb, hO', he⟩
      obtain ⟨a1, A1, k1, k2, k3, _, k5, _⟩ := hbs hb
      have he : (ρc.at_ (.o k)).1 = n := he
      rw [k3] at he
      rcases hH.low _ _ k2 (k5 hO').1 with h1 | h1
      · rw [he] at h1; exact hO h1
      · omega

/-! ### What stays, under a name of its own -/
theorem Holds.nameZ {E : Env} {ρ : Plc} {m : Mem} {w : World} (h : Holds E ρ m w) {b o sz : Nat} {els : List (List CV)} (hsz : 0 < sz) (hz : els = [] ∨ RelZ ρ.z b sz els o) :
    Holds E (ρ.push (b, o)) (m.push (.ro sz els)) w := by
  have hk := ρ.push_agree (b, o)
  have hat : ∀ {a A}, m.look a = some A → (ρ.push (b, o)).at_ a = ρ.at_ a := fun ha => hk.eq _ (h.mem.has ha)
  have hnew : (ρ.push (b, o)).at_ (.n m.ext.length) = (b, o) := by rw [← h.mem.nx]; exact ρ.push_new _
  have hback : els ≠ [] → ∃ o' v, ρ.z b o' = some v := by
    intro hne
    have hz := hz.resolve_left hne
    obtain ⟨c, l, rfl⟩ := List.exists_cons_of_ne_nil hne
    obtain ⟨us, _, hl, hc⟩ := hz.get (e := 0) (c := c) rfl
    exact ⟨_, _, hc 0 _ (List.getElem?_eq_getElem (by omega))⟩
  have hblk : BlkOK (ρ.push (b, o)) (b, o) (.ro sz els) w := by
    rcases hz with rfl | hz
    · exact ⟨[], RelR.nil, fun h => (h rfl).elim, fun e c he => by simp at he⟩
    · obtain ⟨raw, hR, hc⟩ := hz.raw
      refine ⟨raw, hR, fun hne => ?_, fun e d hd => ⟨hR.cells d (List.mem_of_getElem? hd), fun j u hu => h.mem.fz _ _ _ (hc e d hd j u hu)⟩⟩
      obtain ⟨o', v, hv⟩ := hback (fun e => hne (hR.nilEq.1 e))
      exact cell_lt (h.mem.fz _ _ _ hv)
  have hne : ∀ {a A}, m.look a = some A → A.isOwn → els ≠ [] → (ρ.at_ a).1 ≠ b := fun ha hO hl e => by
    obtain ⟨o', v, hv⟩ := hback hl
    exact h.mem.zne ha hO hv e.symm
  refine ⟨⟨?_, ?_, ?_, ?_, h.mem.fz, ?_, h.mem.fq⟩, ?_, ?_, ?_, h.len, h.gl, h.os, h.tape, h.output, h.size, h.fr, h.rd, h.ql, h.zn, h.zk, h.gh⟩
  · intro a A ha
    rcases Mem.look_push ha with ⟨ha, _⟩ | ⟨rfl, rfl⟩
    · rw [hat ha]; exact (h.mem.blk _ _ ha).agree hk
    · rw [hnew]; exact hblk
  · intro a c A B' ha hb hA hB' hne'
    rcases Mem.look_push ha with ⟨ha2, _⟩ | ⟨e1, e2⟩ <;> rcases Mem.look_push hb with ⟨hb2, _⟩ | ⟨e3, e4⟩
    · rw [hat ha2, hat hb2]; exact h.mem.sep _ _ _ _ ha2 hb2 hA hB' hne'
    · rw [hat ha2, e3, hnew]
      rw [e4] at hB'
      exact hne ha2 hA hB'
    · rw [e2] at hA; exact hA.elim
    · rw [e2] at hA; exact hA.elim
  · intro x
    rw [hk.eq _ (show ρ.has (.g x) from trivial)]
    exact h.mem.glob x
  · show ρ.nx + 1 = (m.ext ++ [_]).length
    rw [h.mem.nx]; simp
  · intro a A ha hA o
    rcases Mem.look_push ha with ⟨ha, _⟩ | ⟨rfl, rfl⟩
    · rw [hat ha]; exact h.mem.sepz _ _ ha hA o
    · exact hA.elim
  · intro a A ha hA
    rcases Mem.look_push ha with ⟨ha, _⟩ | ⟨rfl, rfl⟩
    · rw [hat ha]; exact h.low _ _ ha hA
    · exact hA.elim
  · intro j B' hj hl
    rcases Mem.look_push (a := .n j) hj with ⟨ha, _⟩ | ⟨e, rfl⟩
    · rw [hat ha]; exact h.new _ _ ha hl
    · rw [e, hnew]
      exact .inr (hback hl)
  · intro k
    rw [hk.eq _ (show ρ.has (.o k) from trivial)]
    exact h.old k
/-- A call that is handed what stays, as a row that has a name. -/
theorem call_nameZ {P : Program} {keep : Bool} {m : Mem} {n : Nat} {f : Nat} {args : List SV} {K : SV → Mem → Prop} (i : Nat) {sz : Nat} {els : List (List CV)} {cap : Nat} (hsz : Nat.blt 0 sz = true) (hi : args[i]? = some (.z sz els cap)) (hn : m.ext.length = n)
    (h : CallSem P keep (m.push (.ro sz els)) (n + 1) f (args.set i (.s (.n n) sz 0 els.length cap)) K) : CallSem P keep m n f args K := by
  subst hn
  refine ⟨fun E ρ w us hE hH hr => ?_⟩
  have hsz : 0 < sz := Nat.lt_of_succ_le (Nat.le_of_ble_eq_true hsz)
  obtain ⟨u, hu, hz⟩ := hr.get hi
  unfold Rel at hz
  obtain ⟨ad, rfl, hle, hz⟩ := hz
  obtain ⟨b, o, hz1, hz2⟩ : ∃ b o, (els = [] ∨ RelZ ρ.z b sz els o) ∧ (cap = 0 ∨ ad = some ⟨b, o, none⟩) := by
    rcases hz with rfl | ⟨b, o, rfl, hz⟩
    · exact ⟨0, 0, .inl (List.eq_nil_of_length_eq_zero (by omega)), .inl rfl⟩
    · exact ⟨b, o, .inr hz, .inr rfl⟩
  have hk := ρ.push_agree (b, o)
  have hH' := hH.nameZ hsz hz1
  have hat : (ρ.push (b, o)).at_ (.n m.ext.length) = (b, o) := by rw [← hH.mem.nx]; exact ρ.push_new _
  have hargs : RelL (ρ.push (b, o)) (args.set i (.s (.n m.ext.length) sz 0 els.length cap)) us := by
    have := (hr.agree hk).set i (x := .s (.n m.ext.length) sz 0 els.length cap) (u := .slice ad els.length cap) (by
      unfold Rel
      refine ⟨ad, rfl, hle, hz2.imp id fun e => ⟨?_, ?_⟩⟩
      · rw [e]; unfold locA; rw [hat]; simp
      · show m.ext.length < ρ.nx + 1
        rw [hH.mem.nx]; omega)
    have hset : us.set i (.slice ad els.length cap) = us := by
      apply List.ext_getElem?
      intro j
      rw [List.getElem?_set]
      split
      · rename_i e; subst e; rw [hu]; simp [getElem?_lt hu]
      · rfl
    rwa [hset] at this
  refine (h.out E (ρ.push (b, o)) w us hE hH' hargs).mono ?_
  rintro e w' ⟨ρ', r, m', u, h1, h2, h3, h4, h5, h6⟩
  exact ⟨ρ', r, m', u, h1, hk.trans h2, h3, h4, h5, h6⟩
end Go.Proofs.Ytkcdomafdjpbjaa
