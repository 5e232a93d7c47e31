/- Boxes that hold slices of what stays, lent to a function that only reads them. -/
import Derived.Test.YtocappiebmmpgaaZG
namespace Go.Proofs.Ytocappiebmmpgaa
open Go.RowKit

def CellsZ (cells : List SV) : Prop := ∀ (ρ ρ' : Plc) (us : List Value), (∀ b o v, ρ.z b o = some v → ρ'.z b o = some v) → RelL ρ cells us → RelL ρ' cells us
theorem cellsZ_nil : CellsZ [] := fun ρ ρ' us hz h => by
  unfold RelL at *; exact h
theorem cellsZ_v {x : Value} {l : List SV} (h : CellsZ l) : CellsZ (.v x :: l) := fun ρ ρ' us hz hr => by
  unfold RelL at hr
  obtain ⟨u, t, rfl, hu, ht⟩ := hr
  unfold RelL
  refine ⟨u, t, rfl, ?_, h ρ ρ' t hz ht⟩
  unfold Rel at *
  exact hu
theorem cellsZ_z {sz : Nat} {els : List (List CV)} {cap : Nat} {l : List SV} (h : CellsZ l) : CellsZ (.z sz els cap :: l) := fun ρ ρ' us hz hr => by
  unfold RelL at hr
  obtain ⟨u, t, rfl, hu, ht⟩ := hr
  unfold RelL
  refine ⟨u, t, rfl, ?_, h ρ ρ' t hz ht⟩
  unfold Rel at *
  obtain ⟨ad, h1, h2, h3⟩ := hu
  exact ⟨ad, h1, h2, h3.imp id fun ⟨b, o, e, k⟩ => ⟨b, o, e, RelZ.mono hz k⟩⟩
def viewZ (B C : SB) : Prop := ∃ t cells, B = .box t cells ∧ CellsZ cells ∧ C = .cst t cells
theorem viewZ_ok {ρ ρ' : Plc} (hz : ∀ b o v, ρ.z b o = some v → ρ'.z b o = some v) {b : Nat × Nat} {w : World} {B C : SB} (hv : viewZ B C) (hB : BlkOK ρ b B w) : BlkOK ρ' b C w ∧ ¬ C.isOwn := by
  obtain ⟨t, cells, rfl, hc, rfl⟩ := hv
  obtain ⟨h0, us, hr, hw⟩ := hB
  exact ⟨⟨h0, us, hc ρ ρ' us hz hr, hw⟩, fun h => h⟩
def ViewsZ (m : Mem) : List Nm → List SB → Prop
  | [], [] => True
  | a :: ns, b :: bs => (∃ B, m.look a = some B ∧ viewZ B b) ∧ ViewsZ m ns bs
  | _, _ => False
theorem ViewsZ.get {m : Mem} : ∀ {ns : List Nm} {bs : List SB}, ViewsZ m ns bs → ∀ {k : Nat} {b : SB}, bs[k]? = some b → ∃ a B, ns[k]? = some a ∧ m.look a = some B ∧ viewZ B b
  | [], [], _, k, b, h => by simp at h
  | a :: ns, b' :: bs, h, k, b, e => by
    cases k with
    | zero =>
      simp at e; subst e
      obtain ⟨⟨B, h1, h2⟩, _⟩ := h
      exact ⟨a, B, rfl, h1, h2⟩
    | succ k => simpa using h.2.get (k := k) (by simpa using e)
  | [], _ :: _, h, _, _, _ => h.elim
  | _ :: _, [], h, _, _, _ => h.elim
theorem ViewsZ.has {m : Mem} : ∀ {ns : List Nm} {bs : List SB}, ViewsZ m ns bs → ∀ {k : Nat} {a : Nm}, ns[k]? = some a → ∃ B, m.look a = some B
  | [], [], _, k, b, h => by simp at h
  | a :: ns, b' :: bs, h, k, b, e => by
    cases k with
    | zero =>
      simp at e; subst e
      obtain ⟨⟨B, h1, _⟩, _⟩ := h
      exact ⟨B, h1⟩
    | succ k => exact h.2.has (k := k) (by simpa using e)
  | [], _ :: _, h, _, _, _ => h.elim
  | _ :: _, [], h, _, _, _ => h.elim
theorem call_roZ {P : Program} {keep : Bool} {m : Mem} {n : Nat} {f : Nat} {args : List SV} {K : SV → Mem → Prop} {G : List (Nat × SB)} {bs : List SB} {args0 : List SV} {K0 : SV → List SB → List SB → Prop} (ns : List Nm) (hf : FnOK P G f bs args0 K0)
    (hG : noOwn G) (hmG : m.glob = G) (hn : m.ext.length = n) (ha0 : args = renL (renN ns n) args0) (hv : ViewsZ m ns bs) (h : ∀ r bs' ext, K0 r bs' ext → K (r.ren (renN ns n)) (m.grow (ext.map (SB.ren (renN ns n))))) : CallSem P keep m n f args K := by
  have ha : LeVs (renN ns n) args args0 := ha0 ▸ leVs_ren _ _
  subst hn
  refine ⟨fun E ρ w us hE hH hr => .inl ⟨hf.ent, ?_⟩⟩
  -- how the callee sees it
  obtain ⟨ρc, hρc⟩ : ∃ ρc : Plc, ρc = ⟨fun | .o k => ρ.at_ (ns.getD k (.g 0)) | .g x => (x, 0) | .n _ => (0, 0), 0, ρ.z, fun _ => none, ρ.gh⟩ := ⟨_, rfl⟩
  have hcZ : ρc.z = ρ.z := by rw [hρc]
  have hcQ : ∀ b, ρc.q b = none := fun b => by rw [hρc]
  have hz1 : ∀ b o v, ρ.z b o = some v → ρc.z b o = some v := fun b o v h => by rw [hcZ]; exact h
  have hz2 : ∀ b o v, ρc.z b o = some v → ρ.z b o = some v := fun b o v h => by rw [hcZ] at h; exact h
  have hnsHas : ∀ k, ρ.has (ns.getD k (.g 0)) := fun k => by
    rw [List.getD_eq_getElem?_getD]
    cases e : ns[k]? with
    | none => exact trivial
    | some a =>
      obtain ⟨B, hB⟩ := hv.has e
      exact hH.mem.has hB
  have hcO : ∀ k, ρc.at_ (.o k) = ρ.at_ (ns.getD k (.g 0)) := fun k => by rw [hρc]
  have hcG : ∀ x, ρc.at_ (.g x) = (x, 0) := fun x => by rw [hρc]
  have hcN : ρc.nx = 0 := by rw [hρc]
  have hargs : RelL ρc args0 us := LeVs.rel (σ := renN ns m.ext.length) hz1 (fun a h => by
    cases a with
    | o k => exact ⟨trivial, (hcO k).symm⟩
    | g x => exact ⟨trivial, (hH.mem.glob x).trans (hcG x).symm⟩
    | n i =>
      have h : m.ext.length + i < ρ.nx := h
      rw [hH.mem.nx] at h
      omega) ha hr
  have hbs : ∀ {k : Nat} {b : SB}, bs[k]? = some b → BlkOK ρc (ρc.at_ (.o k)) b w ∧ ¬ b.isOwn := fun {k b} hb => by
    obtain ⟨a, B, h1, h2, h3⟩ := hv.get hb
    · have := viewZ_ok (ρ' := ρc) hz1 h3 (hH.mem.blk _ _ h2)
      rw [hcO, List.getD_eq_getElem?_getD, h1]
      exact this
  have hmem : MemOK ρc ⟨G, bs, []⟩ w := by
    refine ⟨?_, ?_, hcG, hcN, fun b o v hz => hH.mem.fz b o v (hz2 b o v hz), ?_, fun b o hq => by rw [hcQ] at hq; cases hq⟩
    · intro a b hb
      cases a with
      | o k => exact (hbs hb).1
      | n i => simp [Mem.look] at hb
      | g x =>
        have h1 := hH.mem.blk (.g x) b (by show assoc m.glob x = _; rw [hmG]; exact hb)
        rw [hH.mem.glob] at h1
        rw [hcG]
        cases b with
        | dead => trivial
        | ro sz els => exact h1.roz hz1
        | box t cells => exact (hG x _ hb trivial).elim
        | cst t cells => exact (hG x _ hb trivial).elim
        | row t sz cap els => exact h1.rowz hz1
    · intro a b A B hA hB hO _ _
      cases a with
      | o k => exact ((hbs hA).2 hO).elim
      | n i => simp [Mem.look] at hA
      | g x => exact (hG x A hA (SB.fix_of_own hO)).elim
    · intro a A hA hO o
      cases a with
      | o k => exact ((hbs hA).2 hO).elim
      | n i => simp [Mem.look] at hA
      | g x => exact (hG x A hA (SB.fix_of_own hO)).elim
  refine (hf.out ρc w us hcQ hmem hargs).mono ?_
  rintro e w' ⟨ρ', r, bs', ext, u, rfl, hH', hr', hK⟩
  have hnoO : ∀ n, ¬ (envOf P ρc bs G w).O n := by
    rintro n ⟨k, b, hb, hO, _⟩
    exact (hbs hb).2 hO
  have hkept : Kept w w' := ⟨hH'.size, fun n hn => hH'.fr n hn (hnoO n)⟩
  obtain ⟨ρ2, hρ2⟩ : ∃ ρ2 : Plc, ρ2 = ⟨fun | .n i => if i < m.ext.length then ρ.at_ (.n i) else ρ'.at_ (.n (i - m.ext.length)) | a => ρ.at_ a, ρ.nx + ext.length, ρ'.z, ρ.q, ρ.gh⟩ := ⟨_, rfl⟩
  have h2G : ρ2.gh = ρ.gh := by rw [hρ2]
  have h2Z : ρ2.z = ρ'.z := by rw [hρ2]
  have h2Q : ρ2.q = ρ.q := by rw [hρ2]
  have hzle : ∀ b o v, ρ.z b o = some v → ρ'.z b o = some v := fun b o v h => hH'.zk b o v (hz1 b o v h)
  have hag : Agree ρ ρ2 := by
    rw [hρ2]
    refine ⟨Nat.le_add_right _ _, fun a h => ?_, hzle, fun _ _ h => h, rfl⟩
    cases a with
    | n i =>
      have h : i < ρ.nx := h
      rw [hH.mem.nx] at h
      simp only
      rw [if_pos h]
    | o k => rfl
    | g x => rfl
  have h2n : ∀ i, ρ2.at_ (.n (m.ext.length + i)) = ρ'.at_ (.n i) := fun i => by
    rw [hρ2]
    simp only
    rw [if_neg (by omega), show m.ext.length + i - m.ext.length = i by omega]
  have hren : RenOK ρ' ρ2 (renN ns m.ext.length) := by
    refine ⟨fun a h => ?_, fun a h => ?_, fun b o v h => by rw [h2Z]; exact h⟩
    · cases a with
      | o k => exact hag.has (hnsHas k)
      | g x => exact trivial
      | n i =>
        have h : i < ρ'.nx := h
        rw [hH'.mem.nx] at h
        show m.ext.length + i < ρ2.nx
        rw [hρ2]
        simp only
        rw [hH.mem.nx]
        have h : i < ext.length := h
        omega
    · cases a with
      | o k =>
        show ρ2.at_ (ns.getD k (.g 0)) = _
        rw [hag.eq _ (hnsHas k), hH'.old k]
        exact (hcO k).symm
      | g x => rw [hH'.mem.glob]; show ρ2.at_ (.g x) = _; rw [hag.eq _ (show ρ.has (.g x) from trivial)]; exact hH.mem.glob x
      | n i => exact h2n i
  have hlook : ∀ {a B}, (m.grow (ext.map (SB.ren (renN ns m.ext.length)))).look a = some B → (m.look a = some B ∧ ρ2.at_ a = ρ.at_ a) ∨ ∃ i B0, a = .n (m.ext.length + i) ∧ ext[i]? = some B0 ∧ B = B0.ren (renN ns m.ext.length) := by
    intro a B hB
    cases a with
    | o k => exact .inl ⟨hB, hag.eq _ trivial⟩
    | g x => exact .inl ⟨hB, hag.eq _ trivial⟩
    | n i =>
      have hB : (m.ext ++ ext.map (SB.ren (renN ns m.ext.length)))[i]? = some B := hB
      by_cases hi : i < m.ext.length
      · rw [List.getElem?_append_left hi] at hB
        exact .inl ⟨hB, hag.eq _ (by show i < ρ.nx; rw [hH.mem.nx]; exact hi)⟩
      · rw [List.getElem?_append_right (by omega), List.getElem?_map, Option.map_eq_some_iff] at hB
        obtain ⟨B0, h1, h2⟩ := hB
        exact .inr ⟨i - m.ext.length, B0, by congr 1; omega, h1, h2.symm⟩
  have hown : ∀ {B : SB}, (B.ren (renN ns m.ext.length)).isOwn ↔ B.isOwn := fun {B} => by cases B <;> exact Iff.rfl
  have hlive : ∀ {B : SB}, (B.ren (renN ns m.ext.length)).isLive ↔ B.isLive := fun {B} => by cases B <;> exact Iff.rfl
  have hext : ∀ {i B0}, ext[i]? = some B0 → BlkOK ρ2 (ρ2.at_ (.n (m.ext.length + i))) (B0.ren (renN ns m.ext.length)) w' := by
    intro i B0 hB
    rw [h2n]
    have := hH'.mem.blk (.n i) B0 hB
    cases B0 with
    | dead => trivial
    | ro sz els => exact this.roz hren.z
    | box t cells =>
      obtain ⟨h1, us, h2, h3⟩ := this
      exact ⟨h1, us, h2.ren hren, h3⟩
    | cst t cells =>
      obtain ⟨h1, us, h2, h3⟩ := this
      exact ⟨h1, us, h2.ren hren, h3⟩
    | row t sz cap els => exact this.rowz hren.z
  have hlt : ∀ {a A}, m.look a = some A → A.isLive → (ρ.at_ a).1 < w.heap.size := fun ha hl => (hH.mem.blk _ _ ha).lt hl
  have hge : ∀ {i B0}, ext[i]? = some B0 → B0.isOwn → w.heap.size ≤ (ρ'.at_ (.n i)).1 := fun {i B0} hi hO => (hH'.new _ _ hi (SB.live_of_own hO)).resolve_right (fun ⟨o, v, hz⟩ => by
    rw [hH'.mem.sepz (.n i) B0 hi hO] at hz
    cases hz)
  have hnl : ∀ {a A i C0}, m.look a = some A → A.isOwn → ext[i]? = some C0 → C0.isLive → (ρ.at_ a).1 ≠ (ρ'.at_ (.n i)).1 := fun {a A i C0} ha hO hi hl e => by
    have hlta := hlt ha (SB.live_of_own hO)
    have back : ∀ o v, ρ'.z (ρ'.at_ (.n i)).1 o = some v → False := fun o v hz => by
      rcases hH'.zn _ _ _ hz with ⟨o', v', h⟩ | h
      · have := hz2 _ _ _ h
        rw [← e, hH.mem.sepz _ _ ha hO] at this
        cases this
      · have h : w.heap.size ≤ (ρ'.at_ (.n i)).1 := h
        omega
    rcases hH'.new _ _ hi hl with h | ⟨o, v, hz⟩
    · have h : w.heap.size ≤ (ρ'.at_ (.n i)).1 := h
      omega
    · exact back o v hz
  refine ⟨ρ2, _, m.grow (ext.map (SB.ren (renN ns m.ext.length))), u, rfl, hag, ⟨⟨?_, ?_, ?_, ?_, (fun b o v hz => hH'.mem.fz b o v (by rw [h2Z] at hz; exact hz)), ?_, ?_⟩, ?_, ?_, ?_, hH.len, hH.gl, hH'.os.trans hH.os, hH'.tape.trans hH.tape, hH'.output.trans hH.output, Nat.le_trans hH.size hH'.size, ?_, ⟨fun b o hq => by rw [h2Q]; exact hH.rd.1 b o hq, hH.rd.2⟩, (fun b ds hq => hH.ql b ds (by rw [h2Q] at hq; exact hq)), (fun b o v hz => by rw [h2Z] at hz; exact (hH'.zn b o v hz).elim (fun ⟨o', v', h⟩ => hH.zn b o' v' (hz2 b o' v' h)) (fun h => .inr (Nat.le_trans hH.size h))), (fun b o v h => by rw [h2Z]; exact hzle _ _ _ (hH.zk b o v h)), h2G.trans hH.gh⟩, hr'.ren hren, h r bs' ext hK, fun _ => hkept⟩
  · intro a B hB
    rcases hlook hB with ⟨h1, h2⟩ | ⟨i, B0, rfl, h1, rfl⟩
    · rw [h2]
      exact ((hH.mem.blk _ _ h1).agree hag).same hH'.size (fun hl => hkept.blk _ (hlt h1 hl))
    · exact hext h1
  · intro a b A B hA hB hO hL hne
    rcases hlook hA with ⟨h1, h2⟩ | ⟨i, B0, rfl, h1, rfl⟩ <;> rcases hlook hB with ⟨k1, k2⟩ | ⟨j, C0, rfl, k1, rfl⟩
    · rw [h2, k2]; exact hH.mem.sep _ _ _ _ h1 k1 hO hL hne
    · rw [h2, h2n]
      exact hnl h1 hO k1 (hlive.1 hL)
    · rw [k2, h2n]
      have := hlt k1 hL
      have := hge h1 (hown.1 hO)
      omega
    · rw [h2n, h2n]
      exact hH'.mem.sep (.n i) (.n j) _ _ h1 k1 (hown.1 hO) (hlive.1 hL) (fun e => hne (by injection e with e; rw [e]))
  · intro x
    rw [hag.eq _ (show ρ.has (.g x) from trivial)]
    exact hH.mem.glob x
  · rw [hρ2]
    show ρ.nx + ext.length = (m.ext ++ ext.map _).length
    rw [hH.mem.nx]; simp
  · intro a A hA hO o
    rcases hlook hA with ⟨h1, h2⟩ | ⟨i, B0, rfl, h1, rfl⟩
    · rw [h2, h2Z]
      cases hz : ρ'.z (ρ.at_ a).1 o with
      | none => rfl
      | some v =>
        exfalso
        rcases hH'.zn _ _ _ hz with ⟨o', v', h⟩ | h
        · have := hz2 _ _ _ h
          rw [hH.mem.sepz _ _ h1 hO] at this
          cases this
        · have := hlt h1 (SB.live_of_own hO)
          have h : w.heap.size ≤ (ρ.at_ a).1 := h
          omega
    · rw [h2n, h2Z]
      exact hH'.mem.sepz (.n i) B0 h1 (hown.1 hO) o
  · intro b o hq
    rw [h2Q] at hq
    obtain ⟨h1, h2⟩ := hH.mem.fq b o hq
    exact ⟨(hkept.blk b (Array.getElem?_eq_some_iff.1 h1).1).trans h1, h2⟩
  · intro a A hA hO
    rcases hlook hA with ⟨h1, h2⟩ | ⟨i, B0, rfl, h1, rfl⟩
    · rw [h2]; exact hH.low _ _ h1 hO
    · rw [h2n]
      exact .inr (Nat.le_trans hH.size (hge h1 (hown.1 hO)))
  · intro i B hi hl
    rcases hlook (a := .n i) hi with ⟨h1, h2⟩ | ⟨j, B0, e, h1, rfl⟩
    · rw [h2, h2Z]; exact (hH.new _ _ h1 hl).imp id (fun ⟨o, v, hz⟩ => ⟨o, v, hzle _ _ _ hz⟩)
    · rw [e, h2n, h2Z]
      exact (hH'.new _ _ h1 (hlive.1 hl)).imp (fun h => Nat.le_trans hH.size h) id
  · intro k
    rw [hag.eq _ (show ρ.has (.o k) from trivial)]
    exact hH.old k
  · intro n hn hO
    rw [hkept.blk n (Nat.lt_of_lt_of_le hn hH.size)]
    exact hH.fr n hn hO

end Go.Proofs.Ytocappiebmmpgaa
