/- append. -/
import Derived.Test.YtkcdomafdjpbjaaZV
namespace Go.Proofs.Ytkcdomafdjpbjaa
open Go.RowKit

/-- A block under another name. -/
theorem Holds.rename {E : Env} {ρ : Plc} {m : Mem} {w : World} (h : Holds E ρ m w) {i : Nat} {B : SB} (hb : m.look (.n i) = some B) :
    Holds E (ρ.push (ρ.at_ (.n i))) ((m.set (.n i) .dead).push B) w := by
  have hk := ρ.push_agree (ρ.at_ (.n i))
  have hH := h.kill (a := .n i) (by simp) hb
  have hlen : (m.set (.n i) .dead).ext.length = m.ext.length := by simp [Mem.set]
  have hnew : (ρ.push (ρ.at_ (.n i))).at_ (.n (m.set (.n i) .dead).ext.length) = ρ.at_ (.n i) := by rw [hlen, ← h.mem.nx]; exact ρ.push_new _
  have hat : ∀ {a A}, (m.set (.n i) .dead).look a = some A → (ρ.push (ρ.at_ (.n i))).at_ a = ρ.at_ a := fun ha => hk.eq _ (hH.mem.has ha)
  have hne : ∀ {a A}, (m.set (.n i) .dead).look a = some A → A.isLive → a ≠ .n i ∧ m.look a = some A := fun ha hl => by
    rcases Mem.look_set (by simp) ha with ⟨_, rfl⟩ | ⟨h1, h2⟩
    · exact hl.elim
    · exact ⟨h1, h2⟩
  refine ⟨⟨?_, ?_, ?_, ?_, h.mem.fz, ?_, h.mem.fq⟩, ?_, ?_, ?_, hH.len, hH.gl, h.os, h.tape, h.output, h.size, h.fr, h.rd, h.ql, h.zn, h.zk, h.gh⟩
  · intro a A ha
    rcases Mem.look_push ha with ⟨ha, _⟩ | ⟨rfl, rfl⟩
    · rw [hat ha]; exact (hH.mem.blk _ _ ha).agree hk
    · rw [hnew]; exact (h.mem.blk _ _ hb).agree hk
  · intro a b A B' ha hb' hA hB' hne'
    rcases Mem.look_push ha with ⟨ha2, _⟩ | ⟨e1, e2⟩ <;> rcases Mem.look_push hb' with ⟨hb2, _⟩ | ⟨e3, e4⟩
    · rw [hat ha2, hat hb2]; exact hH.mem.sep _ _ _ _ ha2 hb2 hA hB' hne'
    · rw [hat ha2, e3, hnew]
      obtain ⟨h1, h2⟩ := hne ha2 (SB.live_of_own hA)
      exact h.mem.sep _ _ _ _ h2 hb hA (e4 ▸ hB') h1
    · rw [hat hb2, e1, hnew]
      obtain ⟨h1, h2⟩ := hne hb2 hB'
      exact h.mem.sep _ _ _ _ hb h2 (e2 ▸ hA) hB' (fun e => h1 e.symm)
    · exact (hne' (e1.trans e3.symm)).elim
  · intro x
    rw [hk.eq _ (show ρ.has (.g x) from trivial)]
    exact h.mem.glob x
  · show ρ.nx + 1 = ((m.set (.n i) .dead).ext ++ [B]).length
    rw [List.length_append, hlen, h.mem.nx]; rfl
  · intro a A ha hA o
    rcases Mem.look_push ha with ⟨ha, _⟩ | ⟨rfl, rfl⟩
    · rw [hat ha]; exact hH.mem.sepz _ _ ha hA o
    · rw [hnew]; exact h.mem.sepz _ _ hb hA o
  · intro a A ha hA
    rcases Mem.look_push ha with ⟨ha, _⟩ | ⟨rfl, rfl⟩
    · rw [hat ha]; exact hH.low _ _ ha hA
    · rw [hnew]; exact h.low _ _ hb hA
  · intro j B' hj hl
    rcases Mem.look_push (a := .n j) hj with ⟨ha, _⟩ | ⟨e, rfl⟩
    · rw [hat ha]; exact hH.new _ _ ha hl
    · rw [e, hnew]; exact h.new _ _ hb hl
  · intro k
    rw [hk.eq _ (show ρ.has (.o k) from trivial)]
    exact h.old k
/-- A block that there is not. -/
theorem Holds.pushNone {E : Env} {ρ : Plc} {m : Mem} {w : World} (h : Holds E ρ m w) {B : SB} (hO : ¬ B.isOwn) (hL : ¬ B.isLive) (hB : BlkOK (ρ.push (0, 0)) (0, 0) B w) : Holds E (ρ.push (0, 0)) (m.push B) w := by
  have hk := ρ.push_agree (0, 0)
  have hat : ∀ {a A}, m.look a = some A → (ρ.push (0, 0)).at_ a = ρ.at_ a := fun ha => hk.eq _ (h.mem.has ha)
  have hnew : (ρ.push (0, 0)).at_ (.n m.ext.length) = (0, 0) := by rw [← h.mem.nx]; exact ρ.push_new _
  refine ⟨⟨?_, ?_, ?_, ?_, h.mem.fz, ?_, h.mem.fq⟩, ?_, ?_, ?_, h.len, h.gl, h.os, h.tape, h.output, h.size, h.fr, h.rd, h.ql, h.zn, h.zk, h.gh⟩
  · intro a A ha
    rcases Mem.look_push ha with ⟨ha, _⟩ | ⟨rfl, rfl⟩
    · rw [hat ha]; exact (h.mem.blk _ _ ha).agree hk
    · rw [hnew]; exact hB
  · intro a b A B' ha hb hA hB' hne
    rcases Mem.look_push ha with ⟨ha2, _⟩ | ⟨e1, e2⟩ <;> rcases Mem.look_push hb with ⟨hb2, _⟩ | ⟨e3, e4⟩
    · rw [hat ha2, hat hb2]; exact h.mem.sep _ _ _ _ ha2 hb2 hA hB' hne
    · exact (hL (e4 ▸ hB')).elim
    · exact (hO (e2 ▸ hA)).elim
    · exact (hO (e2 ▸ hA)).elim
  · intro x
    rw [hk.eq _ (show ρ.has (.g x) from trivial)]
    exact h.mem.glob x
  · show ρ.nx + 1 = (m.ext ++ [B]).length
    rw [h.mem.nx]; simp
  · intro a A ha hA o
    rcases Mem.look_push ha with ⟨ha, _⟩ | ⟨rfl, rfl⟩
    · rw [hat ha]; exact h.mem.sepz _ _ ha hA o
    · exact (hO hA).elim
  · intro a A ha hA
    rcases Mem.look_push ha with ⟨ha, _⟩ | ⟨rfl, rfl⟩
    · rw [hat ha]; exact h.low _ _ ha hA
    · exact (hO hA).elim
  · intro j B' hj hl
    rcases Mem.look_push (a := .n j) hj with ⟨ha, _⟩ | ⟨e, rfl⟩
    · rw [hat ha]; exact h.new _ _ ha hl
    · exact (hL hl).elim
  · intro k
    rw [hk.eq _ (show ρ.has (.o k) from trivial)]
    exact h.old k

theorem flatten_len {sz : Nat} : ∀ {l : List (List Value)}, (∀ d ∈ l, d.length = sz) → l.flatten.length = l.length * sz
  | [], _ => by simp
  | d :: l, h => by
    simp only [List.flatten_cons, List.length_append, List.length_cons]
    rw [flatten_len (fun d hd => h d (by simp [hd])), h d (by simp), Nat.add_mul]
    omega
theorem flatten_one {sz : Nat} {l : List (List Value)} (h : ∀ d ∈ l, CellsOK sz d) : ∀ u ∈ l.flatten, u.oneCell' = true := by
  intro u hu
  obtain ⟨d, hd, hu⟩ := List.mem_flatten.1 hu
  exact (h d hd).2 u hu

/-- append, behind the row that it is put to. -/
def appK (st : St) (dst : Option Nat) (el sz bytes : Nat) (m : Mem) (els : List (List CV)) (len : Nat) (y : SV) (K : St → Prop) (other : Prop) : Prop :=
  readEls st.mem y sz (fun news n => ((len + n) * bytes ≤ 140737488355328) ∧
    ∀ cap', len + n ≤ cap' → putM st dst (.s (.n m.ext.length) sz 0 (len + n) cap') (m.push (.row el sz cap' (els ++ news))) K) other
def appendK (T : List (Nat × TI)) (st : St) (dst : Option Nat) (ts : Array Nat) (x y : SV) (K : St → Prop) (other : Prop) : Prop :=
  match ts.toList with
  | [t, t'] => match Nat.beq t t', assoc T t with
    | true, some i => match i.d with
      | .slice el => match assoc T el with
        | some j => match Nat.beq j.size 0, Nat.beq j.bytes 0, Nat.beq j.zero.length j.size with
          | false, false, true => match x with
            | .v (.slice none 0 0) => appK st dst el j.size j.bytes st.mem [] 0 y K other
            | .z _ els0 cap0 => (els0.length = 0 ∧ cap0 = 0) ∧ appK st dst el j.size j.bytes st.mem [] 0 y K other
            | .s (.o k) _ _ len cap => match st.mem.look (.o k) with
              | some (.ro _ _) => (len = 0 ∧ cap = 0) ∧ appK st dst el j.size j.bytes st.mem [] 0 y K other
              | _ => other
            | .s (.n b) sz e len cap => match st.mem.look (.n b), Nat.beq sz j.size with
              | some (.row t2 sz2 cap2 els), true => match Nat.beq t2 el with
                | true => (sz2 = sz ∧ e = 0 ∧ cap2 = cap ∧ els.length = len) ∧ appK st dst el j.size j.bytes (st.mem.set (.n b) .dead) els len y K other
                | false => other
              | _, _ => other
            | _ => other
          | _, _, _ => other
        | none => other
      | _ => other
    | _, _ => other
  | _ => other

theorem run_append_none {P : Program} {w : World} {t ty e : Nat} {f : TypeInfo} (ht : P.underlying t = some (.slice e)) (hf : P.info? e = some f) (b : Option Addr) (len cap : Nat) (ad : Option Addr) (c : Nat) (hl : len ≤ cap) :
    (Builtin.append_ #[t, t] ty #[.slice b len cap, .slice ad 0 c]).run P w = .ok (.slice b len cap) w := by
  have h1 : (Builtin.firstCells f.size 0 (.slice ad 0 c)).run P w = .ok #[] w := by
    cases ad <;> simp [Builtin.firstCells, loadCells, loadCellsFrom]
  cases b <;> simp [Builtin.append_, run_underlying ht, sizeOf, typeInfo, hf, Builtin.lenOf, hl, h1, storeCells]

/-- All blocks that there were are as they were, but for the row that is put to. -/
structure AppKept (ρ : Plc) (x : SV) (w w' : World) : Prop where
  size : w.heap.size ≤ w'.heap.size
  blk : ∀ n, n < w.heap.size → (∀ b sz e len cap, x = .s (.n b) sz e len cap → cap ≠ 0 → n ≠ (ρ.at_ (.n b)).1) → w'.heap[n]? = w.heap[n]?
theorem Kept.app {ρ : Plc} {x : SV} {w w' : World} (h : Kept w w') : AppKept ρ x w w' := ⟨h.size, fun n hn _ => h.blk n hn⟩
theorem Kept.drewAlloc (w : World) (o : Obj) : Kept w (w.drew.alloc o) := ⟨by rw [(Grew.drewAlloc w o).size]; omega, fun _ hn => (Grew.drewAlloc w o).old hn⟩
theorem appendK_sound {C : Seat} (hC : C.ok) {E : Env} (hE : E.P = C.P) {ρ : Plc} {st : St} {a : Act} {w : World} (ha : ActOK ρ st a) (hH : Holds E ρ st.mem w) {dst : Option Nat} {ts : Array Nat} {ty : Nat} {x y : SV} {u v : Value} (hx : Rel ρ x u) (hy : Rel ρ y v)
    {K : St → Prop} {other : Prop} (h : appendK C.T st dst ts x y K other) :
    other ∨ ∃ r w', (Builtin.append_ ts ty #[u, v]).run E.P w = .ok r w' ∧ OpPost E ρ st.mem w false st.nt K (a.put dst r) w' ∧ AppKept ρ x w w' := by
  rw [hE]
  unfold appendK at h
  split at h
  rotate_left
  · exact .inl h
  rename_i t t' hts
  have hts : ts = #[t, t'] := by rw [← Array.toArray_toList (xs := ts), hts]
  subst hts
  split at h
  rotate_left
  · exact .inl h
  rename_i i htt hi
  have htt := Nat.eq_of_beq_eq_true htt
  subst htt
  split at h
  rotate_left
  · exact .inl h
  rename_i el hd
  split at h
  rotate_left
  · exact .inl h
  rename_i j hj
  split at h
  rotate_left
  · exact .inl h
  rename_i hsz hby hzl
  have hsz : 0 < j.size := Nat.pos_of_ne_zero (fun e => by rw [e] at hsz; cases hsz)
  have hby : 0 < j.bytes := Nat.pos_of_ne_zero (fun e => by rw [e] at hby; cases hby)
  have hzl := Nat.eq_of_beq_eq_true hzl
  have ht := slice_of hC.ty hi hd
  obtain ⟨f, hf, hf1, hf2, z, hz, hzc⟩ := (hC.ty _ _ hj).info'
  have hzs : z.cells.size = f.size := by rw [← Array.length_toList, hzc, hzl, hf1]
  -- growth
  have grow : ∀ (b : Option Addr) (len cap : Nat) (els : List (List CV)) (raw : List (List Value)) (m : Mem), u = .slice b len cap → len ≤ cap → RelR ρ.z j.size els raw → raw.length = len →
      (b = none → len = 0 ∧ cap = 0) → (∀ a, b = some a → ∀ (k : Nat) v, raw.flatten[k]? = some v → w.cell? (a.add k) = some v) → Holds E ρ m w →
      ∀ (news : List (List CV)) (rawn : List (List Value)) (n : Nat) (ad : Option Addr) (c : Nat), v = .slice ad n c → RelR ρ.z j.size news rawn → rawn.length = n → (ad = none → n = 0) → (∀ a, ad = some a → ∀ (k : Nat) v, rawn.flatten[k]? = some v → w.cell? (a.add k) = some v) →
      cap < len + n → (len + n) * j.bytes ≤ 140737488355328 → (∀ cap', len + n ≤ cap' → putM st dst (.s (.n m.ext.length) j.size 0 (len + n) cap') (m.push (.row el j.size cap' (els ++ news))) K) →
      ∃ r w', (Builtin.append_ #[t, t] ty #[u, v]).run C.P w = .ok r w' ∧ OpPost E ρ st.mem w false st.nt K (a.put dst r) w' ∧ Kept w w' := by
    intro b len cap els raw m hu hlc hR hel hb hbc hm news rawn n ad c hv hRn hnl hadn hadc hgt hbytes hK
    have hok := hR.cells
    have hnok := hRn.cells
    have hn0 : ad ≠ none := fun e => by have := hadn e; omega
    obtain ⟨a1, ha1⟩ := Option.ne_none_iff_exists'.1 hn0
    have hfl : raw.flatten.length = len * f.size := by rw [flatten_len (fun d hd => (hok d hd).1), hel, hf1]
    have hfn : rawn.flatten.length = n * f.size := by rw [flatten_len (fun d hd => (hnok d hd).1), hnl, hf1]
    have hln : len + n ≤ 140737488355328 := Nat.le_trans (Nat.le_mul_of_pos_right _ hby) hbytes
    have hbytes' : (len + n) * f.bytes ≤ 140737488355328 := by rw [hf2]; exact hbytes
    have hrun : (Builtin.append_ #[t, t] ty #[u, v]).run C.P w = .ok (.slice (some ⟨w.heap.size, 0, none⟩) (len + n) (grownCap w (len + n) cap el))
        (w.drew.alloc (.cells (raw.flatten.toArray ++ rawn.flatten.toArray ++ Builtin.zeroCells z.cells (grownCap w (len + n) cap el - (len + n))) el)) := by
      cases b with
      | none =>
        obtain ⟨rfl, rfl⟩ := hb rfl
        have he : raw = [] := List.eq_nil_of_length_eq_zero hel
        subst he
        rw [hu, hv, ha1]
        have := run_append_nil (P := C.P) w t ty el f z ht hf hz a1 n c rawn.flatten hfn (hadc a1 ha1) (by omega) (by omega) (by simp only [Nat.zero_add] at hbytes'; omega)
        simpa using this
      | some b0 =>
        rw [hu, hv, ha1]
        exact run_append_grow (P := C.P) w t ty el f z ht hf hz b0 len cap raw.flatten hfl (hbc b0 rfl) a1 n c rawn.flatten hfn (hadc a1 ha1) (by omega) (by omega) (growslice_fits (by omega) hbytes')
    have hge := grownCap_ge w (len + n) cap el
    have hcm : grownCap w (len + n) cap el ≤ maxLen := grownCap_le_maxLen w (len + n) cap el (by simp only [maxLen]; omega)
    refine ⟨_, _, hrun, ?_⟩
    have hk := ρ.push_agree (w.heap.size, 0)
    have hgr := Grew.drewAlloc w (.cells (raw.flatten.toArray ++ rawn.flatten.toArray ++ Builtin.zeroCells z.cells (grownCap w (len + n) cap el - (len + n))) el)
    have hok2 : ∀ c ∈ raw ++ rawn, CellsOK j.size c := fun c hc => (List.mem_append.1 hc).elim (hok c) (hnok c)
    have hF : (raw ++ rawn).flatten.length = (len + n) * j.size := by rw [flatten_len (fun d hd => (hok2 d hd).1), List.length_append, hel, hnl]
    have hblk : BlkOK (ρ.push (w.heap.size, 0)) (w.heap.size, 0) (.row el j.size (grownCap w (len + n) cap el) (els ++ news)) (w.drew.alloc (.cells (raw.flatten.toArray ++ rawn.flatten.toArray ++ Builtin.zeroCells z.cells (grownCap w (len + n) cap el - (len + n))) el)) := by
      refine ⟨raw ++ rawn, hR.append hRn, by simp [hel, hnl]; omega, hok2, fun _ => ⟨rfl, hcm, _, hgr.new, ?_, ?_⟩⟩
      · simp only [Array.size_append, List.size_toArray, size_zeroCells, hzs, hfl, hfn, hf1, ← Nat.add_mul]
        congr 1
        omega
      · rw [show (raw ++ rawn).length * j.size = (raw.flatten ++ rawn.flatten).length by rw [← List.flatten_append, hF, List.length_append, hel, hnl]]
        simp only [Array.toList_append, List.flatten_append]
        exact List.take_left
    refine ⟨putM_sound (hK _ hge) ha hk (hm.push hgr hblk) ?_ (fun e => by cases e), Kept.drewAlloc _ _⟩
    unfold Rel
    refine ⟨_, rfl, hge, .inr ⟨?_, ?_⟩⟩
    · unfold locA
      rw [← hm.mem.nx, ρ.push_new]
      simp
    · show m.ext.length < ρ.nx + 1
      rw [hm.mem.nx]; omega
  have wk : ∀ {x' : SV}, (∃ r w', (Builtin.append_ #[t, t] ty #[u, v]).run C.P w = .ok r w' ∧ OpPost E ρ st.mem w false st.nt K (a.put dst r) w' ∧ Kept w w') →
      ∃ r w', (Builtin.append_ #[t, t] ty #[u, v]).run C.P w = .ok r w' ∧ OpPost E ρ st.mem w false st.nt K (a.put dst r) w' ∧ AppKept ρ x' w w' := fun ⟨r, w', h1, h2, h3⟩ => ⟨r, w', h1, h2, h3.app⟩
  have nil : ∀ (ad0 : Option Addr), u = .slice ad0 0 0 → appK st dst el j.size j.bytes st.mem [] 0 y K other →
      other ∨ ∃ r w', (Builtin.append_ #[t, t] ty #[u, v]).run C.P w = .ok r w' ∧ OpPost E ρ st.mem w false st.nt K (a.put dst r) w' ∧ AppKept ρ x w w' := by
    intro ad0 hx h
    unfold appK at h
    rcases readEls_sound hH.mem.blks h hy with h | ⟨news, rawn, n, ad, c, h, hv, hRn, hnl, hnok, hadn, hadc⟩
    · exact .inl h
    obtain ⟨hbytes, h⟩ := h
    refine .inr ?_
    by_cases hn : n = 0
    · subst hn
      have he : news = [] := List.eq_nil_of_length_eq_zero (by rw [← hRn.1, hnl])
      subst he
      refine ⟨_, _, by rw [hx, hv]; exact run_append_none ht hf ad0 0 0 ad c (Nat.le_refl _), ?_⟩
      refine ⟨putM_sound (h 0 (Nat.le_refl _)) ha (ρ.push_agree (0, 0)) (hH.pushNone (by simp [SB.isOwn]) (by simp [SB.isLive]) ⟨[], RelR.nil, by simp, (fun c hc => by cases hc), fun h => (h rfl).elim⟩) ?_ (fun e => by cases e), (Kept.refl w).app⟩
      unfold Rel
      exact ⟨ad0, rfl, Nat.le_refl _, .inl rfl⟩
    · exact wk (grow ad0 0 0 [] [] st.mem hx (Nat.le_refl _) RelR.nil rfl (fun _ => ⟨rfl, rfl⟩) (fun a e k v hv => by simp at hv) hH news rawn n ad c hv hRn hnl hadn (fun a e => hadc a e w hH.mem.same) (by omega) hbytes h)
  split at h
  · -- the slice of nothing
    unfold Rel at hx
    exact nil none hx h
  · obtain ⟨⟨h0, rfl⟩, h⟩ := h
    unfold Rel at hx
    obtain ⟨ad0, hx, _⟩ := hx
    rw [h0] at hx
    exact nil ad0 hx h
  · split at h
    · obtain ⟨⟨rfl, rfl⟩, h⟩ := h
      unfold Rel at hx
      obtain ⟨ad0, hx, _⟩ := hx
      exact nil ad0 hx h
    · exact .inl h
  · rename_i b sz e len cap
    split at h
    rotate_left
    · exact .inl h
    rename_i t2 sz2 cap2 els hl hszb
    have hszb := Nat.eq_of_beq_eq_true hszb
    subst hszb
    split at h
    rotate_left
    · exact .inl h
    rename_i hte
    have hte := Nat.eq_of_beq_eq_true hte
    subst hte
    obtain ⟨⟨rfl, rfl, rfl, rfl⟩, h⟩ := h
    unfold appK at h
    rcases readEls_sound hH.mem.blks h hy with h | ⟨news, rawn, n, ad, c, h, hv, hRn, hnl, hnok, hadn, hadc⟩
    · exact .inl h
    obtain ⟨hbytes, h⟩ := h
    unfold Rel at hx
    obtain ⟨ad0, hu, hlc, hcap⟩ := hx
    obtain ⟨raw, hR, hb1, hb2, hb3⟩ := hH.mem.blk _ _ hl
    have hRl := hR.1
    have hlen2 : (st.mem.set (.n b) .dead).ext.length = st.mem.ext.length := by simp [Mem.set]
    refine .inr ?_
    by_cases hroom : els.length + n ≤ cap2
    · -- in place
      by_cases hc0 : cap2 = 0
      · subst hc0
        have hn : n = 0 := by omega
        have hel : els.length = 0 := by omega
        have he : els = [] := List.eq_nil_of_length_eq_zero hel
        subst he
        subst hn
        have he : news = [] := List.eq_nil_of_length_eq_zero (by rw [← hRn.1, hnl])
        subst he
        refine ⟨_, _, by rw [hu, hv]; exact run_append_none ht hf ad0 _ _ ad c (Nat.le_refl _), ?_⟩
        refine ⟨putM_sound (h 0 (Nat.le_refl _)) ha (ρ.push_agree (0, 0)) ((hH.kill (by simp) hl).pushNone (by simp [SB.isOwn]) (by simp [SB.isLive]) ⟨[], RelR.nil, by simp, (fun c hc => by cases hc), fun h => (h rfl).elim⟩) ?_ (fun e => by cases e), (Kept.refl w).app⟩
        unfold Rel
        exact ⟨ad0, rfl, Nat.le_refl _, .inl rfl⟩
      · obtain ⟨h0, hcm, cur, hw, hcs, htk⟩ := hb3 hc0
        obtain ⟨had0, hhas⟩ := hcap.resolve_left hc0
        have hloc : locA ρ (.n b) (0 * j.size) = ⟨(ρ.at_ (.n b)).1, 0, none⟩ := by unfold locA; rw [h0]; simp
        have hfl : raw.flatten.length = els.length * j.size := by rw [flatten_len (fun d hd => (hb2 d hd).1), hRl]
        have hfn : rawn.flatten.length = n * j.size := by rw [flatten_len (fun d hd => (hnok d hd).1), hnl]
        have hfit : els.length * j.size + rawn.flatten.length ≤ cur.size := by rw [hfn, hcs, ← Nat.add_mul]; exact Nat.mul_le_mul_right _ hroom
        have hok2 : ∀ c ∈ raw ++ rawn, CellsOK j.size c := fun c hc => (List.mem_append.1 hc).elim (hb2 c) (hnok c)
        have hrun : ∃ cur', (Builtin.append_ #[t, t] ty #[u, v]).run C.P w = .ok (.slice ad0 (els.length + n) cap2) (w.setRow (ρ.at_ (.n b)).1 cur') ∧ cur'.size = cur.size ∧ cur'.toList.take ((els.length + n) * j.size) = (raw ++ rawn).flatten := by
          rw [hRl] at htk
          by_cases hn : n = 0
          · subst hn
            have he : rawn = [] := List.eq_nil_of_length_eq_zero hnl
            subst he
            refine ⟨cur, ?_, rfl, by simp [htk]⟩
            rw [hu, hv, run_append_none ht hf ad0 _ _ ad c hlc]
            congr 1
            have hst := setRow_heap w (ρ.at_ (.n b)).1 cur cur t2 (0, 0) hw
            cases w with
            | mk heap tape drawn os output =>
              unfold World.setRow
              congr 1
              apply Array.ext
              · simp
              · intro k h1 h2
                simp only [Array.getElem_modify]
                split
                · rename_i hk
                  subst hk
                  have := (Array.getElem?_eq_some_iff.1 hw).2
                  simp at this
                  rw [this]
                · rfl
          · have hn0 : ad ≠ none := fun e => hn (hadn e)
            obtain ⟨a1, ha1⟩ := Option.ne_none_iff_exists'.1 hn0
            have hr := run_append_room (P := C.P) w t ty t2 f ht hf (ρ.at_ (.n b)).1 els.length cap2 cur hw a1 n c rawn.flatten (by rw [hfn, hf1]) (hadc a1 ha1 w hH.mem.same) (flatten_one hnok) hroom (by rw [hf1]; exact hfit)
            refine ⟨_, by rw [hu, hv, ha1, had0, hloc]; exact hr, ?_, ?_⟩
            · rw [hf1]
              simp only [List.size_toArray, List.length_append, List.length_take, List.length_drop, Array.length_toList]
              omega
            · rw [hf1]
              rw [htk, ← List.flatten_append]
              exact List.take_left' (by rw [flatten_len (fun d hd => (hok2 d hd).1), List.length_append, hnl, hRl])
        obtain ⟨cur', hrun, hcs', htk'⟩ := hrun
        refine ⟨_, _, hrun, ?_⟩
        have hblk : BlkOK ρ (ρ.at_ (.n b)) (.row t2 j.size cap2 (els ++ news)) (w.setRow (ρ.at_ (.n b)).1 cur') :=
          ⟨raw ++ rawn, hR.append hRn, by simp [hnl]; omega, hok2, fun _ => ⟨h0, hcm, cur', setRow_heap w _ _ _ _ _ hw, by rw [hcs', hcs], by rw [List.length_append, hnl, hRl, htk']⟩⟩
        have hset := hH.set (B' := .row t2 j.size cap2 (els ++ news)) (w' := w.setRow (ρ.at_ (.n b)).1 cur') (by simp) hl (.inl hc0) (fun _ => hc0) (fun _ => hc0) hblk rfl rfl rfl (by simp) (fun n hn => setRow_other w _ n _ hn)
        have hlk : (st.mem.set (.n b) (.row t2 j.size cap2 (els ++ news))).look (.n b) = some (.row t2 j.size cap2 (els ++ news)) := by
          have : b < st.mem.ext.length := getElem?_lt (show st.mem.ext[b]? = _ from hl)
          show (st.mem.ext.set b _)[b]? = _
          simp [this]
        have hren := hset.rename hlk
        have hmm : (st.mem.set (.n b) (.row t2 j.size cap2 (els ++ news))).set (.n b) .dead = st.mem.set (.n b) .dead := by simp [Mem.set]
        rw [hmm] at hren
        refine ⟨putM_sound (h cap2 hroom) ha (ρ.push_agree _) hren ?_ (fun e => by cases e), ⟨by simp, fun n hn hne => setRow_other w _ n _ (hne b _ _ _ _ rfl hc0)⟩⟩
        unfold Rel
        refine ⟨_, rfl, hroom, .inr ⟨?_, ?_⟩⟩
        · rw [had0]
          unfold locA
          rw [hlen2, ← hH.mem.nx, ρ.push_new]
        · show (st.mem.set (.n b) .dead).ext.length < ρ.nx + 1
          rw [hlen2, hH.mem.nx]; omega
    · refine wk (grow ad0 els.length cap2 els raw (st.mem.set (.n b) .dead) hu hlc hR hRl (fun e => ?_) (fun a1 e k v hv => ?_) (hH.kill (by simp) hl) news rawn n ad c hv hRn hnl hadn (fun a e => hadc a e w hH.mem.same) (by omega) hbytes h)
      · rcases hcap with hc | ⟨hc, _⟩
        · omega
        · rw [e] at hc; cases hc
      · have hc0 : cap2 ≠ 0 := by
          rintro rfl
          have he : raw = [] := List.eq_nil_of_length_eq_zero (by omega)
          subst he
          simp at hv
        obtain ⟨h0, hcm, cur, hw, hcs, htk⟩ := hb3 hc0
        obtain ⟨had0, hhas⟩ := hcap.resolve_left hc0
        rw [had0] at e
        cases e
        rw [loc_add]
        unfold locA
        rw [h0, Nat.zero_mul, Nat.zero_add, Nat.zero_add, cell_of_row w _ _ _ _ _ hw]
        rw [← htk, List.getElem?_take] at hv
        split at hv
        · simpa using hv
        · cases hv
  · exact .inl h
end Go.Proofs.Ytkcdomafdjpbjaa
