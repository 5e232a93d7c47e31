/- What is known, told otherwise: values that stay from here on; contracts of values only. -/
import Derived.Test.YtkcdomafdjpbjaaZY
import Derived.Test.YtkcdomafdjpbjaaZW
namespace Go.Proofs.Ytkcdomafdjpbjaa
open Go.RowKit

/-- What is known of a value says what is told instead. -/
def Weak (x y : SV) : Prop := ∀ ρ u, Rel ρ x u → Rel ρ y u
theorem weak_nil (sz : Nat) : Weak (.v (.slice none 0 0)) (.z sz [] 0) := fun ρ u h => by
  unfold Rel at h ⊢
  exact ⟨none, h, Nat.le_refl _, .inl rfl⟩
theorem weak_nilS (a : Nm) (sz e : Nat) : Weak (.v (.slice none 0 0)) (.s a sz e 0 0) := fun ρ u h => by
  unfold Rel at h ⊢
  exact ⟨none, h, Nat.le_refl _, .inl rfl⟩
theorem FrzV.weak {m : Mem} {x y : SV} (h : Weak x y) : FrzV m x y m := fun _ ρ _ u hH hx => ⟨ρ, Agree.refl ρ, hH, h ρ u hx⟩
theorem FrzV.refl (m : Mem) (x : SV) : FrzV m x x m := fun _ ρ _ _ hH hx => ⟨ρ, Agree.refl ρ, hH, hx⟩
theorem FrzV.trans {m m' m'' : Mem} {x y z : SV} (h : FrzV m x y m') (k : FrzV m' y z m'') : FrzV m x z m'' := fun E ρ w u hH hx => by
  obtain ⟨ρ1, h1, h2, h3⟩ := h E ρ w u hH hx
  obtain ⟨ρ2, k1, k2, k3⟩ := k E ρ1 w u h2 h3
  exact ⟨ρ2, h1.trans k1, k2, k3⟩
theorem frz_nil (m : Mem) (sz : Nat) : FrzV m (.v (.slice none 0 0)) (.z sz [] 0) m := .weak (weak_nil sz)
/-- A row of the call's own, told as what stays. -/
theorem frz_row {m : Mem} {b t sz c len cap : Nat} {els : List (List CV)} (hl : m.look (.n b) = some (.row t sz c els)) (hn : len = els.length) : FrzV m (.s (.n b) sz 0 len cap) (.z sz els cap) (m.set (.n b) (.ro sz els)) := by
  subst hn
  have := frz_s (cap := cap) hl (e := 0) (len := els.length) (by omega)
  rwa [List.drop_zero, List.take_length] at this
/-- The same, of a row that has more behind. -/
theorem frz_rowM {m : Mem} {b t sz c len cap : Nat} {els more : List (List CV)} (hl : m.look (.n b) = some (.row t sz c (els ++ more))) (hn : len = els.length) : FrzV m (.s (.n b) sz 0 len cap) (.z sz els cap) (m.set (.n b) (.ro sz (els ++ more))) := by
  subst hn
  have := frz_s (cap := cap) hl (e := 0) (len := els.length) (by rw [List.length_append]; omega)
  rwa [List.drop_zero, List.take_left' rfl] at this
/-- The same, of a row that is written no more. -/
theorem frz_roS {m : Mem} {b sz e len cap : Nat} {els : List (List CV)} (hl : m.look (.n b) = some (.ro sz els)) (hle : e + len ≤ els.length) : FrzV m (.s (.n b) sz e len cap) (.z sz ((els.drop e).take len) cap) m := by
  intro E ρ w u hH hx
  obtain ⟨ad, rfl, hlc, hcap⟩ : ∃ ad, u = .slice ad len cap ∧ len ≤ cap ∧ (cap = 0 ∨ (ad = some (locA ρ (.n b) (e * sz)) ∧ ρ.has (.n b))) := by
    unfold Rel at hx
    exact hx
  have hlen : ((els.drop e).take len).length = len := by simp; omega
  rcases frzK_sound (K := fun m' c => m' = m ∧ c = .z sz ((els.drop e).take len)) (other := False) hH hx (by
    unfold frzK
    dsimp only
    rw [hl]
    exact ⟨⟨rfl, hle⟩, rfl, rfl⟩) with h | ⟨ρ', m', c', hk, hH', hc, rfl, rfl⟩
  · exact h.elim
  · refine ⟨ρ', hk, hH', ?_⟩
    unfold RelC at hc
    obtain ⟨ad', cap', e1, h2, h3⟩ := hc
    rw [hlen] at e1
    cases e1
    unfold Rel
    exact ⟨ad, by rw [hlen], h2, h3⟩
theorem frz_ro {m : Mem} {b sz len cap : Nat} {els : List (List CV)} (hl : m.look (.n b) = some (.ro sz els)) (hn : len = els.length) : FrzV m (.s (.n b) sz 0 len cap) (.z sz els cap) m := by
  subst hn
  have := frz_roS (cap := cap) hl (e := 0) (len := els.length) (by omega)
  rwa [List.drop_zero, List.take_length] at this
theorem frz_z {m : Mem} {sz cap : Nat} {els els' : List (List CV)} (h : els = els') : FrzV m (.z sz els cap) (.z sz els' cap) m := h ▸ FrzV.refl _ _
/-- A part of a value. -/
theorem frz_aggT {m m' : Mem} {l : List SV} (j : Nat) {x y : SV} (hj : l[j]? = some x) (h : FrzV m x y m') {l' : List SV} (hl : l.set j y = l') : FrzV m (.agg l) (.agg l') m' := hl ▸ frz_agg hj h
theorem frz_tup {m m' : Mem} {l : List SV} (j : Nat) {x y : SV} (hj : l[j]? = some x) (h : FrzV m x y m') {l' : List SV} (hl : l.set j y = l') : FrzV m (.tup l) (.tup l') m' := by
  subst hl
  intro E ρ w u hH hx
  unfold Rel at hx
  obtain ⟨us, rfl, hus⟩ := hx
  obtain ⟨ρ', hk, hH', hy⟩ := frz_agg hj h E ρ w (.agg us.toArray) hH (by unfold Rel; exact ⟨us, rfl, hus⟩)
  refine ⟨ρ', hk, hH', ?_⟩
  unfold Rel at hy ⊢
  obtain ⟨us', e, hus'⟩ := hy
  injection e with e
  have e := congrArg Array.toList e
  simp only at e
  subst e
  exact ⟨_, rfl, hus'⟩
/-- What is known of a call says what is told instead. -/
structure Pass (s t : St) : Prop where
  use : ∀ {E : Env} {ρ : Plc} {a : Act} {w : World}, ActOK ρ s a → Holds E ρ s.mem w → ∃ ρ', ActOK ρ' t a ∧ Holds E ρ' t.mem w
  nt : t.nt = s.nt
theorem Pass.refl (s : St) : Pass s s := ⟨fun h k => ⟨_, h, k⟩, rfl⟩
theorem Pass.trans {s t u : St} (h : Pass s t) (k : Pass t u) : Pass s u := ⟨fun a b => let ⟨_, h1, h2⟩ := h.use a b; k.use h1 h2, k.nt.trans h.nt⟩
theorem Ref.pass {s t : St} (h : Ref s t) : Pass s t := ⟨fun a b => h.use a b, h.nt⟩
/-- A slot's value, told otherwise. -/
theorem pass_slot {s : St} (t : Nat) {x y : SV} {m' : Mem} (hx : s.get t = x) (h : FrzV s.mem x y m') : Pass s { slots := (t, y) :: s.slots, nt := s.nt, mem := m' } := by
  refine ⟨fun {E ρ a w} ha hH => ?_, rfl⟩
  subst hx
  obtain ⟨ρ', hk, hH', hy⟩ := h E ρ w _ hH (ha.rel t)
  have ha' := ha.agree hk
  refine ⟨ρ', ⟨fun j => ?_, ha.size, ha'.defers⟩, hH'⟩
  unfold St.get
  simp only [assoc_cons]
  by_cases e : t = j
  · subst e
    rw [if_pos rfl]
    simp only
    rw [tmpAt_gh hk.gh]
    exact hy
  · rw [if_neg e]
    exact ha'.rel j
/-- A box's cell, told otherwise. -/
theorem frz_box {E : Env} {ρ : Plc} {m m' : Mem} {w : World} (hH : Holds E ρ m w) {b t : Nat} {cells : List SV} (hl : m.look (.n b) = some (.box t cells)) {j : Nat} {x y : SV} (hj : cells[j]? = some x) (hf : FrzV m x y m') (hl' : m'.look (.n b) = some (.box t cells)) :
    ∃ ρ', Agree ρ ρ' ∧ Holds E ρ' (m'.set (.n b) (.box t (cells.set j y))) w := by
  obtain ⟨h0, us, hr, hw⟩ := hH.mem.blk _ _ hl
  obtain ⟨u, hu, hx⟩ := hr.get hj
  obtain ⟨ρ', hk, hH', hy⟩ := hf E ρ w u hH hx
  have hat : ρ'.at_ (.n b) = ρ.at_ (.n b) := hk.eq _ (hH.mem.has hl)
  refine ⟨ρ', hk, hH'.set (w' := w) (by simp) hl' (.inr rfl) (fun _ => trivial) (fun _ => trivial) ?_ rfl rfl rfl rfl (fun _ _ => rfl)⟩
  rw [hat]
  refine ⟨h0, us, ?_, hw⟩
  have := (hr.agree hk).set j (x := y) (u := u) hy
  have hset : us.set j u = us := by
    apply List.ext_getElem?
    intro k
    rw [List.getElem?_set]
    split
    · rename_i e; subst e; rw [hu]; simp [getElem?_lt hu]
    · rfl
  rwa [hset] at this
theorem pass_box {s : St} (b j : Nat) {t : Nat} {cells cells' : List SV} {x y : SV} {m' : Mem} (hl : s.mem.look (.n b) = some (.box t cells)) (hj : cells[j]? = some x) (hf : FrzV s.mem x y m') (hl' : m'.look (.n b) = some (.box t cells)) (hc : cells.set j y = cells') :
    Pass s { slots := s.slots, nt := s.nt, mem := m'.set (.n b) (.box t cells') } := by
  subst hc
  refine ⟨fun {E ρ a w} ha hH => ?_, rfl⟩
  obtain ⟨ρ', hk, hH'⟩ := frz_box hH hl hj hf hl'
  exact ⟨ρ', (ha.agree hk).mem _, hH'⟩
theorem ok_pass {P : Program} {c : Code} {s t : St} {K : Exit → St → Prop} (h : Pass s t) (k : OKs P c t K) : OKs P c s K := by
  refine ⟨fun E ρ a w hE ha hH => ?_⟩
  obtain ⟨ρ', ha', hH'⟩ := h.use ha hH
  have := k.out E ρ' a w hE ha' hH'
  rwa [h.nt] at this
/-- A loop, by what holds at each round's head; what is known may be told otherwise there. -/
theorem loop_ruleP {P : Program} {b : Code} {st : St} {K : Exit → St → Prop} {α : Type} (Inv : α → Prop) (S : α → St) (μ : α → Nat) (x0 : α) (h0 : Inv x0) (hs : Pass st (S x0))
    (round : ∀ x, Inv x → OKs P b (S x) fun e s => match e with
      | .normal => forceSt s fun s => ∃ x', Inv x' ∧ μ x' < μ x ∧ Pass s (S x')
      | e => K e s) (hnt : ∀ x, (S x).nt = st.nt) : OKs P (.loop b) st K := by
  refine ⟨fun E ρ a w hE ha hH => ?_⟩
  obtain ⟨ρ1, h1, h2⟩ := hs.use ha hH
  have key : ∀ n x, μ x < n → Inv x → ∀ ρ a w, ActOK ρ (S x) a → Holds E ρ (S x).mem w → Code.roundsIn (fenceR E.r) 0 P b (CPost E st.nt K) n a w := by
    intro n
    induction n with
    | zero => intro x hn; omega
    | succ n ih =>
      intro x hn hI ρ a w ha hH
      rw [roundsIn_succ]
      refine wpIn_mono ((round x hI).out E ρ a w hE ha hH) ?_
      intro e a' w' hp
      cases e with
      | normal =>
        obtain ⟨ρ', s, k1, k2, k3, hq⟩ := hp
        obtain ⟨x', k4, k5, k6⟩ := forceSt_spec (K := fun s => ∃ x', Inv x' ∧ μ x' < μ x ∧ Pass s (S x')) hq
        obtain ⟨ρ2, k7, k8⟩ := k6.use k1 k2
        exact ih x' (by omega) k4 ρ2 a' w' k7 k8
      | exit i => obtain ⟨ρ', s, k1, k2, k3, k4⟩ := hp; exact ⟨ρ', s, k1, k2, k3.trans (hnt x), k4⟩
      | ret => obtain ⟨ρ', s, k1, k2, k3, k4⟩ := hp; exact ⟨ρ', s, k1, k2, k3.trans (hnt x), k4⟩
      | goto l => exact hp
      | panic l => exact hp
      | outgrown => exact hp
  exact wpIn_loop_rounds (μ x0 + 1) (key _ x0 (by omega) h0 ρ1 a w h1 h2)
/-- A contract out of what a call comes to. -/
theorem FnOK.of_call {P : Program} {G : List (Nat × SB)} (hG : noOwn G) {f : Nat} {bs : List SB} {args : List SV} {K : SV → List SB → List SB → Prop} (he : Enters P f)
    (h : CallSem P false ⟨G, bs, []⟩ 0 f args fun r m' => K r m'.old m'.ext) : FnOK P G f bs args K := by
  refine ⟨he, fun ρ w us hq hm hr => ?_⟩
  have hH : Holds (envOf P ρ bs G w) ρ ⟨G, bs, []⟩ w := by
    refine ⟨hm, ?_, ?_, fun _ => rfl, rfl, rfl, rfl, rfl, rfl, Nat.le_refl _, fun _ _ _ => rfl, ⟨fun b o hb => (by cases hb), fun l hl => (by cases hl)⟩, (fun b ds hb => by rw [hq] at hb; cases hb), fun b o v hz => .inl ⟨o, v, hz⟩, fun b o v hz => hz, rfl⟩
    · intro a A ha hA
      cases a with
      | o k => exact .inl ⟨k, A, ha, hA, rfl⟩
      | n i => simp [Mem.look] at ha
      | g x => exact (hG x A ha (SB.fix_of_own hA)).elim
    · intro i B hi
      simp at hi
  rcases h.out _ ρ w us rfl hH hr with ⟨_, hc⟩ | ⟨v, w', h1, _⟩
  · refine hc.mono ?_
    rintro e w' ⟨ρ', r, m', u, rfl, _, hH', hu, hK, _⟩
    refine ⟨ρ', r, m'.old, m'.ext, u, rfl, ?_, hu, hK⟩
    have hg := hH'.gl
    cases m' with
    | mk g o x => simp only at hg; rw [hg] at hH'; exact hH'
  · obtain ⟨fn, hf, hb, hname⟩ := he
    have h2 : fn.name ≠ "runtime.NumGoroutine" := by simpa using hname
    obtain ⟨c, hc⟩ : ∃ c, fn.body = some c := by
      cases e : fn.body with
      | none => rw [e] at hb; cases hb
      | some c => exact ⟨c, rfl⟩
    have : (callFunc f us.toArray).run P w = .ok (.enter f us.toArray) w := by simp [callFunc, hf, h2, hc]
    rw [this] at h1
    cases h1
/-- A function whose results stay: a value without memory of its own. -/
theorem FnOK.pure {P : Program} {G : List (Nat × SB)} (hG : noOwn G) {f : Nat} {bs : List SB} {args : List SV} {Q : SV → Prop} (hbs : oldRo bs = true)
    (h : FnOK P G f bs args fun r bs' ext => ∃ r' m', FrzV ⟨G, bs', ext⟩ r r' m' ∧ m'.glob = G ∧ m'.old = bs ∧ (∀ σ : Nm → Nm, r'.ren σ = r') ∧ Q r') : FnOK P G f bs args fun r _ ext => Q r ∧ ext = [] := by
  refine FnOK.gc hG (K := fun r _ ext => Q r ∧ ext = []) ⟨h.ent, fun ρ w us hq hm hr => (h.out ρ w us hq hm hr).mono ?_⟩
  rintro e w' ⟨ρ', r, bs', ext, u, rfl, hH, hu, r', m', h1, h2, h3, h4, h5⟩
  obtain ⟨ρ2, _, hH2, hu2⟩ := h1 _ ρ' w' u hH hu
  refine ⟨ρ2, r', bs, m'.ext, u, rfl, ?_, hu2, [], r', bs, [], List.nodup_nil, (h4 _).symm, SubOld.refl _ hbs, trivial, h5, rfl⟩
  cases m' with
  | mk g o x => simp only at h2 h3; subst h2; subst h3; exact hH2
/-- The same, of a function that reads boxes. -/
theorem FnOK.pureB {P : Program} {G : List (Nat × SB)} (hG : noOwn G) {f : Nat} {bs : List SB} {args : List SV} {Q : SV → Prop} (hbs : ∀ names base, SubOld (subN names base) bs bs)
    (h : FnOK P G f bs args fun r bs' ext => ∃ r' m', FrzV ⟨G, bs', ext⟩ r r' m' ∧ m'.glob = G ∧ m'.old = bs ∧ (∀ σ : Nm → Nm, r'.ren σ = r') ∧ Q r') : FnOK P G f bs args fun r bs' ext => bs' = bs ∧ Q r ∧ ext = [] := by
  refine FnOK.gc hG (K := fun r bs' ext => bs' = bs ∧ Q r ∧ ext = []) ⟨h.ent, fun ρ w us hq hm hr => (h.out ρ w us hq hm hr).mono ?_⟩
  rintro e w' ⟨ρ', r, bs', ext, u, rfl, hH, hu, r', m', h1, h2, h3, h4, h5⟩
  obtain ⟨ρ2, _, hH2, hu2⟩ := h1 _ ρ' w' u hH hu
  refine ⟨ρ2, r', bs, m'.ext, u, rfl, ?_, hu2, [], r', bs, [], List.nodup_nil, (h4 _).symm, hbs _ _, trivial, rfl, h5, rfl⟩
  cases m' with
  | mk g o x => simp only at h2 h3; subst h2; subst h3; exact hH2
/-- The same, of a function that changes what it is handed. -/
theorem FnOK.pureW {P : Program} {G : List (Nat × SB)} (hG : noOwn G) {f : Nat} {bs : List SB} {args : List SV} {Q : SV → List SB → Prop}
    (h : FnOK P G f bs args fun r bs' ext => ∃ r' m', FrzV ⟨G, bs', ext⟩ r r' m' ∧ m'.glob = G ∧ (∀ names base, SubOld (subN names base) m'.old m'.old) ∧ (∀ σ : Nm → Nm, r'.ren σ = r') ∧ Q r' m'.old) : FnOK P G f bs args fun r bs' ext => Q r bs' ∧ ext = [] := by
  refine FnOK.gc hG (K := fun r bs' ext => Q r bs' ∧ ext = []) ⟨h.ent, fun ρ w us hq hm hr => (h.out ρ w us hq hm hr).mono ?_⟩
  rintro e w' ⟨ρ', r, bs', ext, u, rfl, hH, hu, r', m', h1, h2, h3, h4, h5⟩
  obtain ⟨ρ2, _, hH2, hu2⟩ := h1 _ ρ' w' u hH hu
  refine ⟨ρ2, r', m'.old, m'.ext, u, rfl, ?_, hu2, [], r', m'.old, [], List.nodup_nil, (h4 _).symm, h3 _ _, trivial, h5, rfl⟩
  cases m' with
  | mk g o x => simp only at h2; subst h2; exact hH2
/-- A call that is handed what stays, as a row that has a name; its length as it is told. -/
theorem call_nameL {P : Program} {keep : Bool} {m : Mem} {n : Nat} {f : Nat} {args : List SV} {K : SV → Mem → Prop} (i : Nat) {sz len : Nat} {els : List (List CV)} {cap : Nat} (hlen : els.length = len) (hsz : Nat.blt 0 sz = true) (hi : args[i]? = some (.z sz els cap)) (hn : m.ext.length = n)
    (h : CallSem P keep (m.push (.ro sz els)) (n + 1) f (args.set i (.s (.n n) sz 0 len cap)) K) : CallSem P keep m n f args K := by
  subst hlen
  exact call_nameZ i hsz hi hn h
end Go.Proofs.Ytkcdomafdjpbjaa
