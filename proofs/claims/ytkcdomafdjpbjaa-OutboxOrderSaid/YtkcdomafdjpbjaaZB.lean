/- One operation, whichever. -/
import Derived.Test.YtkcdomafdjpbjaaZA
import Derived.Lib.ConvBytes
import Derived.Lib.AppendZeros
namespace Go.Proofs.Ytkcdomafdjpbjaa
open Go.RowKit

def fillG (place : Nat → Option (Nat × Nat)) : List (Nat × SV) → List SV → (List SV → Prop) → Prop → Prop
  | [], cells, K, _ => K cells
  | (j, x) :: rest, cells, K, o => match place j with
    | some (off, n) => flatSV x (fun vs => match Nat.beq vs.length n, Nat.ble (off + n) cells.length with
      | true, true => fillG place rest (cells.take off ++ vs ++ cells.drop (off + n)) K o
      | _, _ => o) o
    | none => o
theorem fillG_sound {ρ : Plc} {place : Nat → Option (Nat × Nat)} :
    ∀ {parts : List (Nat × SV)} {vs : List (Nat × Value)} {cells : List SV} {cs : Array Value} {K : List SV → Prop} {o : Prop}, fillG place parts cells K o → RelL ρ cells cs.toList → parts.length = vs.length →
      (∀ (n : Nat) q u, parts[n]? = some q → vs[n]? = some u → q.1 = u.1 ∧ Rel ρ q.2 u.2) →
      o ∨ ∃ cells' cs', K cells' ∧ RelL ρ cells' cs'.toList ∧ Instr.fill place cs vs = some cs' ∧ cs'.size = cs.size
  | [], [], cells, cs, K, o, h, hr, _, _ => .inr ⟨cells, cs, h, hr, rfl, rfl⟩
  | [], _ :: _, _, _, _, _, _, _, hl, _ => by simp at hl
  | _ :: _, [], _, _, _, _, _, _, hl, _ => by simp at hl
  | (j, x) :: rest, (j', u) :: us, cells, cs, K, o, h, hr, hl, hq => by
    obtain ⟨rfl, hxu⟩ := hq 0 _ _ rfl rfl
    simp only at hxu
    unfold fillG at h
    split at h
    rotate_left
    · exact .inl h
    rename_i off n hpl
    rcases flatSV_sound h hxu with h | ⟨ws, hws, hrw, h⟩
    · exact .inl h
    split at h
    rotate_left
    · exact .inl h
    rename_i hb hle
    have hb := Nat.eq_of_beq_eq_true hb
    have hle := Nat.le_of_ble_eq_true hle
    have hul : u.cells.size = n := by rw [← Array.length_toList, hws, hrw.len, hb]
    have hcl : cs.size = cells.length := by rw [← Array.length_toList, hr.len]
    have hset := set_range off u.cells.toList cs 0 (by rw [Array.length_toList]; omega)
    simp only [Nat.add_zero, Array.length_toList, hul] at hset
    have hr' : RelL ρ (cells.take off ++ cellsSV x ++ cells.drop (off + n)) (((u.cells.toList.zipIdx 0).foldl (fun cs p => cs.setIfInBounds (off + p.2) p.1) cs)).toList := by
      rw [hset]
      exact ((hr.take off).append (hws ▸ hrw)).append (hr.drop _)
    rcases fillG_sound h hr' (by simpa using hl) (fun n q u h1 h2 => hq (n + 1) q u (by simpa using h1) (by simpa using h2)) with h | ⟨cells', cs', h1, h2, h3, h4⟩
    · exact .inl h
    refine .inr ⟨cells', cs', h1, h2, ?_, ?_⟩
    · unfold Instr.fill
      rw [hpl]
      have hc : ¬ (u.cells.size ≠ n ∨ off + u.cells.size > cs.size) := by omega
      simp only [ne_eq, Bool.or_eq_true, decide_eq_true_eq] at hc ⊢
      rw [if_neg (by simpa using hc)]
      rw [← h3]
      congr 1
      rw [← Array.foldl_toList]
      simp [Array.toList_zipIdx]
    · rw [h4, ← Array.length_toList, hset]
      simp only [List.length_append, List.length_take, List.length_drop, Array.length_toList, hul]
      omega
def chunks {α : Type} (sz : Nat) : Nat → List α → List (List α)
  | 0, _ => []
  | n + 1, l => l.take sz :: chunks sz n (l.drop sz)
theorem chunks_len {α : Type} (sz : Nat) : ∀ (n : Nat) (l : List α), (chunks sz n l).length = n
  | 0, _ => rfl
  | n + 1, l => by simp [chunks, chunks_len sz n]
theorem chunks_flat (sz : Nat) : ∀ (n : Nat) (l : List Value), l.length = n * sz → (chunks sz n l).flatten = l ∧ ∀ c ∈ chunks sz n l, c.length = sz ∧ ∀ u ∈ c, u ∈ l
  | 0, l, h => by
    have : l = [] := List.eq_nil_of_length_eq_zero (by simpa using h)
    subst this
    exact ⟨rfl, fun c hc => by cases hc⟩
  | n + 1, l, h => by
    rw [Nat.add_mul] at h
    obtain ⟨h1, h2⟩ := chunks_flat sz n (l.drop sz) (by simp; omega)
    refine ⟨by simp [chunks, h1], fun c hc => ?_⟩
    simp only [chunks, List.mem_cons] at hc
    rcases hc with rfl | hc
    · exact ⟨by simp; omega, fun u hu => List.mem_of_mem_take hu⟩
    · exact ⟨(h2 c hc).1, fun u hu => List.mem_of_mem_drop ((h2 c hc).2 u hu)⟩
theorem chunks_rel {Z : Nat → Nat → Option Value} {sz : Nat} : ∀ (n : Nat) {cs : List CV} {us : List Value}, RelK Z cs us → us.length = n * sz → RelR Z sz (chunks sz n cs) (chunks sz n us)
  | 0, _, _, _, _ => RelR.nil
  | n + 1, cs, us, h, hl => by
    rw [Nat.add_mul] at hl
    have ih := chunks_rel (sz := sz) n (h.drop sz) (by simp; omega)
    exact (RelR.one (h.take sz) (by simp; omega)).append ih

theorem rep_cells {z : Value} {zs : List Value} {sz : Nat} (hzc : z.cells.toList = zs) (hzl : zs.length = sz) (hsz : 0 < sz) (len : Nat) :
    ((Array.range (len * sz)).map (z.cells[· % z.cells.size]!)).toList = (List.replicate len zs).flatten := by
  have hzs : z.cells.size = sz := by rw [← Array.length_toList, hzc, hzl]
  apply List.ext_getElem?
  intro k
  have hfl : ((List.replicate len zs).flatten).length = len * sz := by simp [hzl]
  by_cases hk : k < len * sz
  · have hq : k / sz < len := (Nat.div_lt_iff_lt_mul hsz).2 hk
    have hr : k % sz < sz := Nat.mod_lt _ hsz
    have h1 : (List.replicate len zs)[k / sz]? = some zs := by simp [hq]
    have h2 := flatten_get (sz := sz) (els := List.replicate len zs) (fun c hc => by rw [List.eq_of_mem_replicate hc]; exact hzl) h1 (List.getElem?_eq_getElem (show k % sz < zs.length by omega))
    rw [Nat.mul_comm, Nat.div_add_mod] at h2
    rw [h2]
    have h3 : z.cells[k % sz]! = zs[k % sz]'(by omega) := by
      rw [getElem!_pos z.cells _ (by omega)]
      simp [← hzc]
    simp [hk, hzs, h3]
  · rw [List.getElem?_eq_none (by simp; omega), List.getElem?_eq_none (by rw [hfl]; omega)]
/-- A row that is written out. -/
def rowK (st : St) (dst : Option Nat) (el sz len : Nat) (cells : List SV) (K : St → Prop) (other : Prop) : Prop :=
  frzL cells st.mem (fun m cs => putM st dst (.s (.n m.ext.length) sz 0 len len) (m.push (.row el sz len (chunks sz len cs))) K)
    (match Nat.ble len 0 with
    | false => putM st dst (.s (.n st.mem.ext.length) sz 0 len len) (st.mem.push (.box el cells)) K
    | true => other)

/-- append(nil, make([]T, n)...). -/
def zerosK (T : List (Nat × TI)) (st : St) (dst : Option Nat) (ts : Array Nat) (x y : SV) (K : St → Prop) (other : Prop) : Prop :=
  match ts.toList with
  | [t, t'] => match assoc T t, assoc T t' with
    | some i, some i' => match i.d, i'.d with
      | .slice el, .int _ => match assoc T el with
        | some j => match Nat.beq j.size 0, Nat.beq j.bytes 0, Nat.beq j.zero.length j.size, j.zero.all (·.oneCell') with
          | false, false, true, true => match x, y with
            | .v (.slice none 0 0), .v (.int _ n) => (0 < n ∧ n * j.bytes ≤ 140737488355328) ∧
                ∀ cap', n.toNat ≤ cap' → putM st dst (.s (.n st.mem.ext.length) j.size 0 n.toNat cap') (st.mem.push (.row el j.size cap' (List.replicate n.toNat (j.zero.map .v)))) K
            | _, _ => other
          | _, _, _, _ => other
        | none => other
      | _, _ => other
    | _, _ => other
  | _ => other
theorem zeroCells_flat {z : Value} {zs : List Value} (h : z.cells.toList = zs) {sz : Nat} (hl : zs.length = sz) (hsz : 0 < sz) (n : Nat) : (Builtin.zeroCells z.cells n).toList = (List.replicate n zs).flatten := by
  have := rep_cells h hl hsz n
  have hs : z.cells.size = sz := by rw [← Array.length_toList, h, hl]
  rw [← this]
  simp [Builtin.zeroCells, hs]
theorem zerosK_sound {C : Seat} (hC : C.ok) {E : Env} (hE : E.P = C.P) {ρ : Plc} {st : St} {a : Act} {w : World} (ha : ActOK ρ st a) (hH : Holds E ρ st.mem w) {dst : Option Nat} {ts : Array Nat} {ty : Nat} {x y : SV} {u v : Value} (hx : Rel ρ x u) (hy : Rel ρ y v)
    {K : St → Prop} {other : Prop} (h : zerosK C.T st dst ts x y K other) :
    other ∨ ∃ r w', (Builtin.append_ ts ty #[u, v]).run C.P w = .ok r w' ∧ OpPost E ρ st.mem w false st.nt K (a.put dst r) w' := by
  unfold zerosK at h
  split at h
  rotate_left
  · exact .inl h
  rename_i t t' hts
  have hts : ts = #[t, t'] := by rw [← Array.toArray_toList (xs := ts), hts]
  subst hts
  split at h
  rotate_left
  · exact .inl h
  rename_i i i' hi hi'
  split at h
  rotate_left
  · exact .inl h
  rename_i el k' hd hd'
  split at h
  rotate_left
  · exact .inl h
  rename_i j hj
  split at h
  rotate_left
  · exact .inl h
  rename_i hsz hby hzl hzo
  have hsz : 0 < j.size := Nat.pos_of_ne_zero (fun e => by rw [e] at hsz; cases hsz)
  have hby : 0 < j.bytes := Nat.pos_of_ne_zero (fun e => by rw [e] at hby; cases hby)
  have hzl := Nat.eq_of_beq_eq_true hzl
  have hzo := List.all_eq_true.1 hzo
  split at h
  rotate_left
  · exact .inl h
  rename_i k n
  obtain ⟨⟨h0, hb⟩, h⟩ := h
  obtain ⟨f, hf, hf1, hf2, z, hz, hzc⟩ := (hC.ty _ _ hj).info'
  have ht := slice_of hC.ty hi hd
  have ht' := int_of hC.ty hi' hd'
  unfold Rel at hx hy
  obtain ⟨m, rfl⟩ : ∃ m : Nat, n = m := ⟨n.toNat, by omega⟩
  have hbm : m * j.bytes ≤ 140737488355328 := by
    have : ((m * j.bytes : Nat) : Int) = (m : Int) * j.bytes := Int.natCast_mul _ _
    omega
  have hm : m ≤ 140737488355328 := Nat.le_trans (Nat.le_mul_of_pos_right _ hby) hbm
  have hrun := Lib.run_append_nil_zeros (P := C.P) w t t' ty el f z k k' ht ht' hf hz m (by omega) (by omega) (by omega) (by rw [hf2]; omega)
  rw [← hx, ← hy] at hrun
  refine .inr ⟨_, _, hrun, ?_⟩
  have hge := grownCap_ge w m 0 el
  have hcm : grownCap w m 0 el ≤ maxLen := grownCap_le_maxLen w m 0 el (by simp only [maxLen]; omega)
  have hzs : z.cells.size = j.size := by rw [← Array.length_toList, hzc, hzl]
  have hgr := Grew.drewAlloc w (.cells (Builtin.zeroCells z.cells m ++ Builtin.zeroCells z.cells (grownCap w m 0 el - m)) el)
  have hk := ρ.push_agree (w.heap.size, 0)
  refine putM_sound (h _ (by simpa using hge)) ha hk (hH.push hgr ⟨_, RelR.replicate (RelK.vals hzo) hzl, by simpa using hge, fun c hc => by rw [List.eq_of_mem_replicate hc]; exact ⟨hzl, hzo⟩, fun _ => ⟨rfl, hcm, _, hgr.new, ?_, ?_⟩⟩) ?_ (fun e => by cases e)
  · simp only [Array.size_append, size_zeroCells, hzs, ← Nat.add_mul]
    congr 1
    omega
  · simp only [Array.toList_append, zeroCells_flat hzc hzl hsz, Int.toNat_natCast, List.length_replicate]
    exact List.take_left' (by simp [hzl])
  · unfold Rel locA
    refine ⟨_, rfl, by simpa using hge, .inr ⟨?_, ?_⟩⟩
    · rw [← hH.mem.nx, ρ.push_new]
      simp
    · show st.mem.ext.length < ρ.nx + 1
      rw [hH.mem.nx]; omega

theorem flat_take {sz : Nat} {l : List (List Value)} (h : ∀ d ∈ l, d.length = sz) (e : Nat) (he : e ≤ l.length) : l.flatten.take (e * sz) = (l.take e).flatten ∧ l.flatten.drop (e * sz) = (l.drop e).flatten := by
  have h1 : (l.take e).flatten.length = e * sz := by
    rw [flatten_len (fun d hd => h d (List.mem_of_mem_take hd)), List.length_take, Nat.min_eq_left he]
  have h2 : l.flatten = (l.take e).flatten ++ (l.drop e).flatten := by rw [← List.flatten_append, List.take_append_drop]
  rw [h2]
  exact ⟨List.take_left' h1, List.drop_left' h1⟩
/-- copy, onto a row of the call's own. -/
def copyK (T : List (Nat × TI)) (st : St) (dst : Option Nat) (ts : Array Nat) (x y : SV) (K : St → Prop) (other : Prop) : Prop :=
  match ts.toList with
  | [t, _] => match assoc T t with
    | some i => match i.d with
      | .slice el => match assoc T el with
        | some j => match x with
          | .s (.n b) sz e len _ => match st.mem.look (.n b), Nat.beq sz j.size with
            | some (.row t2 sz2 cap2 els), true => readEls st.mem y j.size (fun news n => (sz2 = sz ∧ e + len ≤ els.length) ∧
                putM st dst (.v (.int .i64 (min n len : Nat))) (st.mem.set (.n b) (.row t2 sz2 cap2 (els.take e ++ news.take len ++ els.drop (e + min n len)))) K) other
            | _, _ => other
          | _ => other
        | none => other
      | _ => other
    | none => other
  | _ => other
theorem copyK_sound {C : Seat} (hC : C.ok) {E : Env} (hE : E.P = C.P) {ρ : Plc} {st : St} {a : Act} {w : World} (ha : ActOK ρ st a) (hH : Holds E ρ st.mem w) {dst : Option Nat} {ts : Array Nat} {ty : Nat} {x y : SV} {u v : Value} (hx : Rel ρ x u) (hy : Rel ρ y v)
    {K : St → Prop} {other : Prop} (h : copyK C.T st dst ts x y K other) :
    other ∨ ∃ r w', (Builtin.copy_ ts ty #[u, v]).run C.P w = .ok r w' ∧ OpPost E ρ st.mem w false st.nt K (a.put dst r) w' := by
  unfold copyK at h
  split at h
  rotate_left
  · exact .inl h
  rename_i t t' hts
  have hts : ts = #[t, t'] := by rw [← Array.toArray_toList (xs := ts), hts]
  subst hts
  split at h
  rotate_left
  · exact .inl h
  rename_i i hi
  split at h
  rotate_left
  · exact .inl h
  rename_i el hd
  split at h
  rotate_left
  · exact .inl h
  rename_i j hj
  split at h
  rotate_left
  · exact .inl h
  rename_i b sz e len cap
  split at h
  rotate_left
  · exact .inl h
  rename_i t2 sz2 cap2 els hl hszb
  have hszb := Nat.eq_of_beq_eq_true hszb
  subst hszb
  rcases readEls_sound hH.mem.blks h hy with h | ⟨news, rawn, n, ad, c, h, hv, hRn, hnl, hnok, hadn, hadc⟩
  · exact .inl h
  obtain ⟨⟨rfl, hle⟩, h⟩ := h
  unfold Rel at hx
  obtain ⟨ad0, hu, hlc, hcap⟩ := hx
  obtain ⟨raw, hR, hb1, hb2, hb3⟩ := hH.mem.blk _ _ hl
  have hRl := hR.1
  have hRnl := hRn.1
  obtain ⟨f, hf, hf1, hf2, _⟩ := (hC.ty _ _ hj).info'
  have ht := slice_of hC.ty hi hd
  have hk : min n len = (rawn.take len).length := by rw [List.length_take, hnl, Nat.min_comm]
  have hfn : (rawn.take len).flatten.length = min n len * j.size := by rw [flatten_len (fun d hd => (hnok d (List.mem_of_mem_take hd)).1), hk]
  have hok2 : ∀ c ∈ raw.take e ++ rawn.take len ++ raw.drop (e + min n len), CellsOK j.size c := fun c hc => by
    rcases List.mem_append.1 hc with hc | hc
    · rcases List.mem_append.1 hc with hc | hc
      · exact hb2 c (List.mem_of_mem_take hc)
      · exact hnok c (List.mem_of_mem_take hc)
    · exact hb2 c (List.mem_of_mem_drop hc)
  have hlen2 : (raw.take e ++ rawn.take len ++ raw.drop (e + min n len)).length = raw.length := by
    rw [List.length_append, List.length_append, ← hk]
    simp only [List.length_take, List.length_drop]
    omega
  refine .inr ?_
  by_cases h0 : min n len = 0
  · have hels : els.take e ++ news.take len ++ els.drop (e + min n len) = els := by
      have : news.take len = [] := List.eq_nil_of_length_eq_zero (by rw [List.length_take]; omega)
      rw [this, h0]
      simp
    rw [hels] at h
    have hrun : (Builtin.copy_ #[t, t'] ty #[u, v]).run C.P w = .ok (.int .i64 (min n len : Nat)) w := by
      have h0' : Nat.min n len = 0 := h0
      have h1 : (Builtin.firstCells f.size 0 v).run C.P w = .ok #[] w := by
        rw [hv]
        cases ad <;> simp [Builtin.firstCells, loadCells, loadCellsFrom]
      rw [hu, hv] at *
      cases ad0 <;> simp [Builtin.copy_, run_underlying ht, Builtin.lenOf, sizeOf, typeInfo, hf, h0', h1, storeCells, goInt, h0]
    refine ⟨_, _, hrun, ?_⟩
    have hset := hH.set (B' := .row t2 j.size cap2 els) (w' := w) (by simp) hl (.inr rfl) (fun h => h) (fun h => h) (hH.mem.blk _ _ hl) rfl rfl rfl rfl (fun _ _ => rfl)
    exact putM_sound h ha (Agree.refl ρ) hset (rel_v _) (fun e => by cases e)
  · have hc0 : cap2 ≠ 0 := by omega
    obtain ⟨h00, hcm, cur, hw, hcs, htk⟩ := hb3 hc0
    obtain ⟨had0, hhas⟩ := hcap.resolve_left (by omega)
    have hn0 : ad ≠ none := fun e => by have := hadn e; omega
    obtain ⟨a1, ha1⟩ := Option.ne_none_iff_exists'.1 hn0
    have hmul : ∀ q, q ≤ raw.length → q * j.size ≤ cur.size := fun q hq => by rw [hcs]; exact Nat.mul_le_mul_right _ (by omega)
    have hfit : e * j.size + (rawn.take len).flatten.length ≤ cur.size := by rw [hfn, ← Nat.add_mul]; exact hmul _ (by omega)
    have hload : (loadCells a1 (min n len * j.size)).run C.P w = .ok (rawn.take len).flatten.toArray w := by
      have := run_loadCells_list (P := C.P) w a1 (rawn.take len).flatten (fun k v hkv => hadc a1 ha1 w hH.mem.same k v (by
        have e1 : rawn.flatten = (rawn.take len).flatten ++ (rawn.drop len).flatten := by rw [← List.flatten_append, List.take_append_drop]
        rw [e1, List.getElem?_append_left (getElem?_lt hkv)]
        exact hkv))
      rw [hfn] at this
      exact this
    have hst := run_storeCells_at C.P (ρ.at_ (.n b)).1 (e * j.size) t2 (rawn.take len).flatten 0 cur w hw (by simpa using hfit) (flatten_one (fun d hd => hnok d (List.mem_of_mem_take hd)))
    simp only [Nat.add_zero] at hst
    have hrun : (Builtin.copy_ #[t, t'] ty #[u, v]).run C.P w = .ok (.int .i64 (min n len : Nat)) (w.setRow (ρ.at_ (.n b)).1 (cur.toList.take (e * j.size) ++ (rawn.take len).flatten ++ cur.toList.drop (e * j.size + (rawn.take len).flatten.length)).toArray) := by
      have hloc : locA ρ (.n b) (e * j.size) = ⟨(ρ.at_ (.n b)).1, e * j.size, none⟩ := by unfold locA; rw [h00]; simp
      have hm : Nat.min n len = min n len := rfl
      rw [hu, hv, had0, ha1, hloc]
      simp [Builtin.copy_, run_underlying ht, Builtin.lenOf, sizeOf, typeInfo, hf, hf1, hm, Builtin.firstCells, hload, hst, goInt]
    refine ⟨_, _, hrun, ?_⟩
    have hblk : BlkOK ρ (ρ.at_ (.n b)) (.row t2 j.size cap2 (els.take e ++ news.take len ++ els.drop (e + min n len))) (w.setRow (ρ.at_ (.n b)).1 (cur.toList.take (e * j.size) ++ (rawn.take len).flatten ++ cur.toList.drop (e * j.size + (rawn.take len).flatten.length)).toArray) := by
      have hnn : min n len = (rawn.take len).length := hk
      refine ⟨raw.take e ++ rawn.take len ++ raw.drop (e + min n len), ((hR.take _).append (hRn.take _)).append (hR.drop _), by rw [hlen2]; exact hb1, hok2, fun _ => ⟨h00, hcm, _, setRow_heap w _ _ _ _ _ hw, ?_, ?_⟩⟩
      · rw [← hcs]
        simp only [List.size_toArray, List.length_append, List.length_take, List.length_drop, Array.length_toList]
        omega
      · have hF : raw.flatten.length = raw.length * j.size := flatten_len (fun d hd => (hb2 d hd).1)
        have hq : e * j.size + (rawn.take len).flatten.length ≤ raw.length * j.size := by rw [hfn, ← Nat.add_mul]; exact Nat.mul_le_mul_right _ (by omega)
        have hq2 : raw.length * j.size ≤ cur.toList.length := by rw [Array.length_toList]; exact hmul _ (Nat.le_refl _)
        rw [hlen2, take_splice hq hq2, htk, hfn, ← Nat.add_mul]
        rw [(flat_take (fun d hd => (hb2 d hd).1) e (by omega)).1, (flat_take (fun d hd => (hb2 d hd).1) (e + min n len) (by omega)).2]
        simp
    have hset := hH.set (B' := .row t2 j.size cap2 (els.take e ++ news.take len ++ els.drop (e + min n len))) (w' := w.setRow (ρ.at_ (.n b)).1 _) (by simp) hl (.inl hc0) (fun _ => hc0) (fun _ => hc0) hblk rfl rfl rfl (by simp) (fun n hn => setRow_other w _ n _ hn)
    exact putM_sound h ha (Agree.refl ρ) hset (rel_v _) (fun e => by cases e)

/-- What a row of the call's own becomes, of which some elements in a row are written. -/
theorem row_splice {ρ : Plc} {b : Nat × Nat} {t sz cap : Nat} {els news : List (List CV)} {rawn : List (List Value)} {w : World} (hb : BlkOK ρ b (.row t sz cap els) w) (hc0 : cap ≠ 0) (hRn : RelR ρ.z sz news rawn) {e : Nat} (he : e + news.length ≤ els.length) :
    ∃ cur : Array Value, b.2 = 0 ∧ w.heap[b.1]? = some (.cells cur t (0, 0)) ∧ cur.size = cap * sz ∧ e * sz + rawn.flatten.length ≤ cur.size ∧
      BlkOK ρ b (.row t sz cap (els.take e ++ news ++ els.drop (e + news.length))) (w.setRow b.1 (cur.toList.take (e * sz) ++ rawn.flatten ++ cur.toList.drop (e * sz + rawn.flatten.length)).toArray) := by
  obtain ⟨raw, hR, hb1, hb2, hb3⟩ := hb
  have hn := hRn.cells
  have hRl := hR.1
  have hRnl := hRn.1
  obtain ⟨h00, hcm, cur, hw, hcs, htk⟩ := hb3 hc0
  have hfn : rawn.flatten.length = rawn.length * sz := flatten_len (fun d hd => (hn d hd).1)
  have hmul : ∀ q, q ≤ raw.length → q * sz ≤ cur.size := fun q hq => by rw [hcs]; exact Nat.mul_le_mul_right _ (by omega)
  have hfit : e * sz + rawn.flatten.length ≤ cur.size := by rw [hfn, ← Nat.add_mul]; exact hmul _ (by omega)
  have hlen2 : (raw.take e ++ rawn ++ raw.drop (e + news.length)).length = raw.length := by
    simp only [List.length_append, List.length_take, List.length_drop]
    omega
  refine ⟨cur, h00, hw, hcs, hfit, raw.take e ++ rawn ++ raw.drop (e + news.length), ((hR.take _).append hRn).append (hR.drop _), by rw [hlen2]; exact hb1, fun c hc => ?_, fun _ => ⟨h00, hcm, _, setRow_heap w _ _ _ _ _ hw, ?_, ?_⟩⟩
  · rcases List.mem_append.1 hc with hc | hc
    · rcases List.mem_append.1 hc with hc | hc
      · exact hb2 c (List.mem_of_mem_take hc)
      · exact hn c hc
    · exact hb2 c (List.mem_of_mem_drop hc)
  · rw [← hcs]
    simp only [List.size_toArray, List.length_append, List.length_take, List.length_drop, Array.length_toList]
    omega
  · have hF : raw.flatten.length = raw.length * sz := flatten_len (fun d hd => (hb2 d hd).1)
    have hq : e * sz + rawn.flatten.length ≤ raw.length * sz := by rw [hfn, ← Nat.add_mul]; exact Nat.mul_le_mul_right _ (by omega)
    have hq2 : raw.length * sz ≤ cur.toList.length := by rw [Array.length_toList]; exact hmul _ (Nat.le_refl _)
    rw [hlen2, take_splice hq hq2, htk, hfn, ← Nat.add_mul]
    rw [(flat_take (fun d hd => (hb2 d hd).1) e (by omega)).1, (flat_take (fun d hd => (hb2 d hd).1) (e + rawn.length) (by omega)).2, hRnl]
    simp
/-- clear, of a slice of a row of the call's own. -/
def clearK (T : List (Nat × TI)) (st : St) (dst : Option Nat) (ts : Array Nat) (x : SV) (K : St → Prop) (other : Prop) : Prop :=
  match ts.toList with
  | [t] => match assoc T t with
    | some i => match i.d with
      | .slice el => match assoc T el with
        | some j => match Nat.beq j.zero.length j.size, j.zero.all (·.oneCell'), Nat.beq j.size 0, x with
          | true, true, false, .s a sz e len _ => match a, st.mem.look a, Nat.beq sz j.size with
            | .g _, _, _ => other
            | a, some (.row t2 sz2 cap2 els), true => (sz2 = sz ∧ e + len ≤ els.length) ∧ putM st dst (.tup []) (st.mem.set a (.row t2 sz2 cap2 (els.take e ++ List.replicate len (j.zero.map .v) ++ els.drop (e + len)))) K
            | _, _, _ => other
          | _, _, _, _ => other
        | none => other
      | _ => other
    | none => other
  | _ => other
theorem clearK_sound {C : Seat} (hC : C.ok) {E : Env} (hE : E.P = C.P) {ρ : Plc} {st : St} {a : Act} {w : World} (ha : ActOK ρ st a) (hH : Holds E ρ st.mem w) {dst : Option Nat} {ts : Array Nat} {ty : Nat} {x : SV} {u : Value} (hx : Rel ρ x u)
    {K : St → Prop} {other : Prop} (h : clearK C.T st dst ts x K other) :
    other ∨ ∃ r w', (Builtin.clear_ ts ty #[u]).run C.P w = .ok r w' ∧ OpPost E ρ st.mem w false st.nt K (a.put dst r) w' := by
  unfold clearK at h
  split at h
  rotate_left
  · exact .inl h
  rename_i t hts
  have hts : ts = #[t] := by rw [← Array.toArray_toList (xs := ts), hts]
  subst hts
  split at h
  rotate_left
  · exact .inl h
  rename_i i hi
  split at h
  rotate_left
  · exact .inl h
  rename_i el hd
  split at h
  rotate_left
  · exact .inl h
  rename_i j hj
  split at h
  rotate_left
  · exact .inl h
  rename_i b sz e len cap hzl hzo hsz
  have hzl := Nat.eq_of_beq_eq_true hzl
  have hzo := List.all_eq_true.1 hzo
  have hsz : 0 < j.size := Nat.pos_of_ne_zero (fun e => by rw [e] at hsz; cases hsz)
  split at h
  · exact .inl h
  rotate_left
  · exact .inl h
  rename_i b b2 _ _ t2 sz2 cap2 els hb hszb hl
  have hszb := Nat.eq_of_beq_eq_true hszb
  subst hszb
  have hg : ∀ x, b ≠ .g x := fun x e => hb x e
  obtain ⟨⟨rfl, hle⟩, h⟩ := h
  unfold Rel at hx
  obtain ⟨ad0, rfl, hlc, hcap⟩ := hx
  have ht := slice_of hC.ty hi hd
  have hun : (Value.tuple #[]) = .tuple #[] := rfl
  have hrel : ∀ ρ, Rel ρ (.tup []) (.tuple #[]) := fun ρ => by unfold Rel; exact ⟨[], rfl, by unfold RelL; rfl⟩
  refine .inr ?_
  by_cases h0 : len = 0
  · subst h0
    have hrun : (Builtin.clear_ #[t] ty #[.slice ad0 0 cap]).run C.P w = .ok (.tuple #[]) w := by
      cases ad0 <;> simp [Builtin.clear_, run_underlying ht]
    have hels : els.take e ++ List.replicate 0 (j.zero.map .v) ++ els.drop (e + 0) = els := by simp
    rw [hels] at h
    have hset := hH.set (B' := .row t2 j.size cap2 els) (w' := w) hg hl (.inr rfl) (fun h => h) (fun h => h) (hH.mem.blk _ _ hl) rfl rfl rfl rfl (fun _ _ => rfl)
    exact ⟨_, _, hrun, putM_sound h ha (Agree.refl ρ) hset (hrel ρ) (fun e => by cases e)⟩
  · have hbk := hH.mem.blk _ _ hl
    have hc0 : cap2 ≠ 0 := by obtain ⟨raw, hR, h1, _⟩ := hbk; have := hR.1; omega
    obtain ⟨had0, hhas⟩ := hcap.resolve_left (by omega)
    have hnl : (List.replicate len (j.zero.map CV.v)).length = len := List.length_replicate
    have hRn : RelR ρ.z j.size (List.replicate len (j.zero.map CV.v)) (List.replicate len j.zero) := RelR.replicate (RelK.vals hzo) hzl
    have hone : ∀ d ∈ List.replicate len j.zero, CellsOK j.size d := fun d hd => by rw [List.eq_of_mem_replicate hd]; exact ⟨hzl, hzo⟩
    obtain ⟨cur, h00, hw, hcs, hfit, hblk⟩ := row_splice hbk hc0 hRn (e := e) (by rw [hnl]; exact hle)
    rw [hnl] at hblk
    obtain ⟨z, hz, hzc⟩ := (hC.ty _ _ hj).zeroV w
    have hzf := zeroCells_flat hzc hzl hsz len
    have hst := run_storeCells_at C.P (ρ.at_ b).1 (e * j.size) t2 (List.replicate len j.zero).flatten 0 cur w hw (by simpa using hfit) (flatten_one hone)
    simp only [Nat.add_zero] at hst
    have hloc : locA ρ b (e * j.size) = ⟨(ρ.at_ b).1, e * j.size, none⟩ := by unfold locA; rw [h00]; simp
    have hrun : (Builtin.clear_ #[t] ty #[.slice ad0 len cap]).run C.P w = .ok (.tuple #[]) (w.setRow (ρ.at_ b).1 (cur.toList.take (e * j.size) ++ (List.replicate len j.zero).flatten ++ cur.toList.drop (e * j.size + (List.replicate len j.zero).flatten.length)).toArray) := by
      rw [had0, hloc]
      obtain ⟨n, rfl⟩ : ∃ n, len = n + 1 := ⟨len - 1, by omega⟩
      simp only [Builtin.clear_, Sem.run_bind, run_underlying ht, Result.andThen_ok]
      simp only [List.getElem?_toArray, List.getElem?_cons_zero, Sem.run_bind, run_underlying ht, Result.andThen_ok, hz, hzf, hst, Sem.run_pure]
    refine ⟨_, _, hrun, ?_⟩
    have hset := hH.set (w' := w.setRow (ρ.at_ b).1 _) hg hl (.inl hc0) (fun _ => hc0) (fun _ => hc0) hblk rfl rfl rfl (by simp) (fun n hn => setRow_other w _ n _ hn)
    exact putM_sound h ha (Agree.refl ρ) hset (hrel ρ) (fun e => by cases e)

/-- append, within a row that was handed over. -/
def appInK (T : List (Nat × TI)) (st : St) (dst : Option Nat) (ts : Array Nat) (x y : SV) (K : St → Prop) (other : Prop) : Prop :=
  match ts.toList with
  | [t, t'] => match Nat.beq t t', assoc T t with
    | true, some i => match i.d with
      | .slice el => match assoc T el with
        | some j => match Nat.beq j.size 0, x with
          | false, .s (.o k) sz e len cap => match st.mem.look (.o k), Nat.beq sz j.size with
            | some (.row t2 sz2 cap2 els), true => readEls st.mem y j.size (fun news n => ((t2 = el ∧ sz2 = sz ∧ e = 0 ∧ len + n ≤ els.length ∧ len + n ≤ cap) ∧
                putM st dst (.s (.o k) sz 0 (len + n) cap) (st.mem.set (.o k) (.row t2 sz2 cap2 (els.take len ++ news ++ els.drop (len + n)))) K) ∨ other) other
            | _, _ => other
          | _, _ => other
        | none => other
      | _ => other
    | _, _ => other
  | _ => other
theorem appInK_sound {C : Seat} (hC : C.ok) {E : Env} (hE : E.P = C.P) {ρ : Plc} {st : St} {a : Act} {w : World} (ha : ActOK ρ st a) (hH : Holds E ρ st.mem w) {dst : Option Nat} {ts : Array Nat} {ty : Nat} {x y : SV} {u v : Value} (hx : Rel ρ x u) (hy : Rel ρ y v)
    {K : St → Prop} {other : Prop} (h : appInK C.T st dst ts x y K other) :
    other ∨ ∃ r w', (Builtin.append_ ts ty #[u, v]).run C.P w = .ok r w' ∧ OpPost E ρ st.mem w false st.nt K (a.put dst r) w' := by
  unfold appInK at h
  split at h
  rotate_left
  · exact .inl h
  rename_i t t' hts
  have hts : ts = #[t, t'] := by rw [← Array.toArray_toList (xs := ts), hts]
  subst hts
  split at h
  rotate_left
  · exact .inl h
  rename_i i htt hi
  have htt := Nat.eq_of_beq_eq_true htt
  subst htt
  split at h
  rotate_left
  · exact .inl h
  rename_i el hd
  split at h
  rotate_left
  · exact .inl h
  rename_i j hj
  split at h
  rotate_left
  · exact .inl h
  rename_i k sz e len cap hsz
  split at h
  rotate_left
  · exact .inl h
  rename_i t2 sz2 cap2 els hl hszb
  have hszb := Nat.eq_of_beq_eq_true hszb
  subst hszb
  rcases readEls_sound hH.mem.blks h hy with h' | ⟨news, rawn, n, ad, c, h3, hv, hRn, hnl, hnok, hadn, hadc⟩
  · exact .inl h'
  rcases h3 with ⟨⟨rfl, rfl, rfl, hle, hroom⟩, h4⟩ | h3
  rotate_left
  · exact .inl h3
  unfold Rel at hx
  obtain ⟨ad0, hu, hlc, hcap⟩ := hx
  have ht := slice_of hC.ty hi hd
  obtain ⟨f, hf, hf1, hf2, _⟩ := (hC.ty _ _ hj).info'
  have hbk := hH.mem.blk _ _ hl
  refine .inr ?_
  by_cases hn : n = 0
  · subst hn
    have he : news = [] := List.eq_nil_of_length_eq_zero (by rw [← hRn.1, hnl])
    subst he
    have hels : els.take len ++ [] ++ els.drop (len + 0) = els := by simp
    rw [hels] at h4
    have hset := hH.set (B' := .row t2 j.size cap2 els) (w' := w) (a := .o k) (by simp) hl (.inr rfl) (fun h => h) (fun h => h) hbk rfl rfl rfl rfl (fun _ _ => rfl)
    refine ⟨_, _, by rw [hu, hv]; exact run_append_none ht hf ad0 len cap ad c hlc, putM_sound h4 ha (Agree.refl ρ) hset ?_ (fun e => by cases e)⟩
    unfold Rel
    exact ⟨ad0, rfl, hlc, hcap⟩
  · have hRnl := hRn.1
    have hc0 : cap2 ≠ 0 := by obtain ⟨raw, hR, h1, _⟩ := hbk; have := hR.1; omega
    obtain ⟨had0, hhas⟩ := hcap.resolve_left (by omega)
    obtain ⟨cur, h00, hw, hcs, hfit, hblk⟩ := row_splice hbk hc0 hRn (e := len) (by omega)
    have hn0 : ad ≠ none := fun e => hn (hadn e)
    obtain ⟨a1, ha1⟩ := Option.ne_none_iff_exists'.1 hn0
    have hfn : rawn.flatten.length = n * j.size := by rw [flatten_len (fun d hd => (hnok d hd).1), hnl]
    have hloc : locA ρ (.o k) (0 * j.size) = ⟨(ρ.at_ (.o k)).1, 0, none⟩ := by unfold locA; rw [h00]; simp
    have hr := run_append_room (P := C.P) w t ty t2 f ht hf (ρ.at_ (.o k)).1 len cap cur hw a1 n c rawn.flatten (by rw [hfn, hf1]) (hadc a1 ha1 w hH.mem.same) (flatten_one hnok) hroom (by rw [hf1]; exact hfit)
    rw [hf1] at hr
    refine ⟨_, _, by rw [hu, hv, ha1, had0, hloc]; exact hr, ?_⟩
    rw [← hRnl, hnl] at hblk
    have hset := hH.set (a := .o k) (w' := w.setRow (ρ.at_ (.o k)).1 _) (by simp) hl (.inl hc0) (fun _ => hc0) (fun _ => hc0) hblk rfl rfl rfl (by simp) (fun n hn => setRow_other w _ n _ hn)
    refine putM_sound h4 ha (Agree.refl ρ) hset ?_ (fun e => by cases e)
    unfold Rel
    exact ⟨_, rfl, hroom, .inr ⟨congrArg some hloc.symm, trivial⟩⟩

/-- A text's bytes, as a row that is read alone. -/
def txtEls (s : ByteArray) : List (List CV) := s.data.toList.map fun b => [.v (Value.int .u8 b.toNat)]
def txtRaw (s : ByteArray) : List (List Value) := s.data.toList.map fun b => [Value.int .u8 b.toNat]
theorem txt_rel (Z : Nat → Nat → Option Value) (s : ByteArray) : RelR Z 1 (txtEls s) (txtRaw s) :=
  ⟨by simp [txtEls, txtRaw], fun e c d h1 h2 => by
    simp only [txtEls, txtRaw, List.getElem?_map, Option.map_eq_some_iff] at h1 h2
    obtain ⟨b, hb, rfl⟩ := h1
    obtain ⟨b', hb', rfl⟩ := h2
    rw [hb] at hb'
    cases hb'
    exact ⟨by unfold RelK RelK RelC; exact ⟨_, _, rfl, ⟨rfl, rfl⟩, rfl⟩, rfl⟩⟩
def convK (T : List (Nat × TI)) (st : St) (dst : Option Nat) (src dstT : Nat) (x : SV) (K : St → Prop) (other : Prop) : Prop :=
  match assoc T src, assoc T dstT, x with
  | some i0, some i, .v (.string s) => match i0.d, i.d with
    | .str, .slice el => match assoc T el with
      | some j => match j.d with
        | .int .u8 => ∀ cap', s.size ≤ cap' → putM st dst (.s (.n st.mem.ext.length) 1 0 s.size cap') (st.mem.push (.ro 1 (txtEls s))) K
        | _ => other
      | none => other
    | _, _ => other
  | _, _, _ => other
/-- A text that the program names, as bytes: its row is read alone from here on. -/
def markK (T : List (Nat × TI)) (st : St) (dst : Option Nat) (t : Nat) (x : SV) (K : St → Prop) (other : Prop) : Prop :=
  match assoc T t, x with
  | some i, .s (.n b) sz e n c => match i.d with
    | .slice el => match assoc T el with
      | some j => match j.d, st.mem.look (.n b) with
        | .int .u8, some (.row _ sz' cap els) => (c ≠ 0 ∧ cap ≠ 0) ∧ putM { st with mem := st.mem.set (.n b) (.ro sz' els) } dst (.s (.n b) sz e n c) (st.mem.set (.n b) (.ro sz' els)) K
        | _, _ => other
      | none => other
    | _ => other
  | _, _ => other
theorem markK_sound {C : Seat} (hC : C.ok) {E : Env} (hE : E.P = C.P) {ρ : Plc} {st : St} {a : Act} {w : World} (ha : ActOK ρ st a) (hH : Holds E ρ st.mem w) {dst : Option Nat} {t b sz e n c : Nat} {u : Value} (hx : Rel ρ (.s (.n b) sz e n c) u)
    {K : St → Prop} {other : Prop} (h : markK C.T st dst t (.s (.n b) sz e n c) K other) :
    other ∨ ∃ r w', (convert t t u).run E.P w = .ok r w' ∧ (w.heap.size ≤ w'.heap.size ∧ ∀ n, n ≠ (ρ.at_ (.n b)).1 → w'.heap[n]? = w.heap[n]?) ∧ (∃ B0, st.mem.look (.n b) = some B0 ∧ B0.isOwn) ∧
      ∃ m', Holds E ρ m' w' ∧ Rel ρ (.s (.n b) sz e n c) r ∧ putM { st with mem := m' } dst (.s (.n b) sz e n c) m' K := by
  rw [hE]
  unfold markK at h
  split at h
  rotate_left
  · exact .inl h
  rename_i i b' sz' e' n' c' hi hxe
  cases hxe
  split at h
  rotate_left
  · exact .inl h
  rename_i el hd
  split at h
  rotate_left
  · exact .inl h
  rename_i j hj
  split at h
  rotate_left
  · exact .inl h
  rename_i t2 sz2 cap els hdj hl
  obtain ⟨⟨hc, hcap⟩, h⟩ := h
  have hu := slice_of hC.ty hi hd
  have he := int_of hC.ty hj hdj
  have hx' := hx
  unfold Rel at hx
  obtain ⟨ad, rfl, hnc, had⟩ := hx
  obtain ⟨had, hhas⟩ := had.resolve_left hc
  obtain ⟨raw, hR, hb1, hb2, hb3⟩ := hH.mem.blk _ _ hl
  have hRl := hR.1
  obtain ⟨h0, hcm, cur, hw, hcs, htk⟩ := hb3 hcap
  refine .inr ⟨_, w.freeze ⟨(ρ.at_ (.n b)).1, cur.size, none⟩ 1, ?_, ⟨?_, ?_⟩, ⟨_, hl, hcap⟩, _, ?_, hx', h⟩
  · rw [had]
    have hsh : w.shape? (ρ.at_ (.n b)).1 = some (t2, cur.size) := by simp [World.shape?, hw]
    simp [convert, run_underlying hu, run_underlying he, locA, markStringish, hsh]
  · simp [World.freeze]
  · intro k hk
    simp only [World.freeze, if_neg (show ¬ (1 = 0) by decide)]
    rw [Array.getElem?_modify, if_neg (fun e => hk e.symm)]
  · have hnew : (w.freeze ⟨(ρ.at_ (.n b)).1, cur.size, none⟩ 1).heap[(ρ.at_ (.n b)).1]? = some (.cells cur t2 (cur.size, cur.size + 1)) := by
      simp only [World.freeze, if_neg (show ¬ (1 = 0) by decide)]
      rw [Array.getElem?_modify, if_pos rfl, hw]
      rfl
    refine hH.set (a := .n b) (B' := .ro sz2 els) (w' := w.freeze ⟨(ρ.at_ (.n b)).1, cur.size, none⟩ 1) (by simp) hl (.inl hcap) (fun h => h.elim) (fun _ => hcap) ?_ ?_ ?_ ?_ ?_ ?_
    · refine ⟨raw, hR, fun _ => (Array.getElem?_eq_some_iff.1 hnew).1, fun k d hd => ⟨hb2 d (List.mem_of_getElem? hd), fun q v hv => ?_⟩⟩
      rw [h0, Nat.zero_add, cell_of_row _ _ _ _ _ _ hnew]
      have hin := flatten_get (fun c hc => (hb2 c hc).1) hd hv
      rw [← htk, List.getElem?_take] at hin
      split at hin
      · simpa using hin
      · cases hin
    · rfl
    · rfl
    · rfl
    · simp [World.freeze]
    · intro k hk
      simp only [World.freeze, if_neg (show ¬ (1 = 0) by decide)]
      rw [Array.getElem?_modify, if_neg (fun e => hk e.symm)]
theorem Grew.bytes (w : World) (e : TypeId) (s : ByteArray) : Grew w (Lib.bytesWorld w e s) (.cells (Lib.bytesCells w e s) e ((Lib.bytesCells w e s).size, (Lib.bytesCells w e s).size + 1)) := by
  refine ⟨?_, rfl, rfl, rfl⟩
  apply Array.ext_getElem?
  intro i
  rcases Nat.lt_trichotomy i w.heap.size with h | h | h
  · rw [Lib.bytesWorld_at_old w e s i h, Array.getElem?_push, if_neg (by omega)]
  · subst h
    rw [Lib.bytesWorld_at_new]
    simp
  · rw [Array.getElem?_eq_none (by rw [Lib.bytesWorld_size]; omega), Array.getElem?_eq_none (by simp; omega)]
def vop (C : Seat) (keep : Bool) (st : St) (o : Oper) (K : St → Prop) : Prop :=
  match o.op with
  | .box t x => flatSV (st.ev x) (fun cells => putM st o.dst (.p (.n st.mem.ext.length) 0 0 0) (st.mem.push (.box t cells)) K) (OpSem C.P keep st o K)
  | .alloc t => match assoc C.T t with
    | some i => putM st o.dst (.p (.n st.mem.ext.length) 0 0 0) (st.mem.push (.box t (i.zero.map .v))) K
    | none => OpSem C.P keep st o K
  | .store t a x => match keep, st.ev a, assoc C.T t with
    | false, .p b e sz f, some i => storeK st i b e sz f (st.ev x) (fun s => putM s o.dst (.v undef) s.mem K) (OpSem C.P keep st o K)
    | _, _, _ => OpSem C.P keep st o K
  | .buildSlice t len parts => match assoc C.T t with
    | some i => match i.d with
      | .slice el => match assoc C.T el with
        | some j => match Nat.ble (len * j.size) 16777216, Nat.beq j.zero.length j.size, Nat.beq j.size 0 with
          | true, true, false => fillG (fun k => some (k * j.size, j.size)) (parts.toList.map fun q => (q.1, st.ev q.2)) ((List.replicate len j.zero).flatten.map .v)
              (fun cells => rowK st o.dst el j.size len cells K (OpSem C.P keep st o K)) (OpSem C.P keep st o K)
          | _, _, _ => OpSem C.P keep st o K
        | none => OpSem C.P keep st o K
      | _ => OpSem C.P keep st o K
    | none => OpSem C.P keep st o K
  | .makeSlice t l c => match assoc C.T t, st.ev l, st.ev c with
    | some i, .v (.int _ n), .v (.int _ k) => match i.d with
      | .slice el => match assoc C.T el with
        | some j => match Nat.beq j.zero.length j.size, j.zero.all (·.oneCell'), Nat.beq j.size 0, Nat.beq j.bytes 0 with
          | true, true, false, false => (0 ≤ n ∧ n ≤ k ∧ k * j.bytes ≤ 140737488355328) ∧
              putM st o.dst (.s (.n st.mem.ext.length) j.size 0 n.toNat k.toNat) (st.mem.push (.row el j.size k.toNat (List.replicate n.toNat (j.zero.map .v)))) K
          | _, _, _, _ => OpSem C.P keep st o K
        | none => OpSem C.P keep st o K
      | _ => OpSem C.P keep st o K
    | _, _, _ => OpSem C.P keep st o K
  | .call { callee := .value f, args, argTypes } => match st.ev f with
    | .fn g cap => forceL (args.toList.map st.ev ++ cap) fun xs => forceM st.mem fun m => forceNat m.ext.length fun n => CallSem C.P keep m n g xs (fun r m => putM st o.dst r m K)
    | .bm g cap => forceL (cap ++ args.toList.map st.ev) fun xs => forceM st.mem fun m => forceNat m.ext.length fun n => CallSem C.P keep m n g xs (fun r m => putM st o.dst r m K)
    | _ => OpSem C.P keep st o K
  | .call { callee := .builtin .append, args, argTypes } => match keep, args.toList with
    | false, [x, y] => appendK C.T st o.dst argTypes (st.ev x) (st.ev y) K (zerosK C.T st o.dst argTypes (st.ev x) (st.ev y) K (appInK C.T st o.dst argTypes (st.ev x) (st.ev y) K (OpSem C.P keep st o K)))
    | _, _ => OpSem C.P keep st o K
  | .call { callee := .builtin .copy, args, argTypes } => match keep, args.toList with
    | false, [x, y] => copyK C.T st o.dst argTypes (st.ev x) (st.ev y) K (OpSem C.P keep st o K)
    | _, _ => OpSem C.P keep st o K
  | .call { callee := .builtin .clear, args, argTypes } => match keep, args.toList with
    | false, [x] => clearK C.T st o.dst argTypes (st.ev x) K (OpSem C.P keep st o K)
    | _, _ => OpSem C.P keep st o K
  | .convert src dst x => match keep, Nat.beq src dst, st.ev x with
    | false, true, .s (.n b) sz e n c => markK C.T st o.dst src (.s (.n b) sz e n c) K (OpSem C.P keep st o K)
    | _, _, _ => convK C.T st o.dst src dst (st.ev x) K (pureOp C st.mem st.ev (.convert src dst x) (fun sv => putS st o.dst sv K) (OpSem C.P keep st o K))
  | op => pureOp C st.mem st.ev op (fun sv => putS st o.dst sv K) (OpSem C.P keep st o K)

theorem vop_sound {C : Seat} (hC : C.ok) {keep : Bool} {st : St} {o : Oper} {K : St → Prop} (h : vop C keep st o K) : OpSem C.P keep st o K := by
  obtain ⟨dst, op, ty, pos, after, guard⟩ := o
  have pure' : pureOp C st.mem st.ev op (fun sv => putS st dst sv K) (OpSem C.P keep st ⟨dst, op, ty, pos, after, guard⟩ K) → OpSem C.P keep st ⟨dst, op, ty, pos, after, guard⟩ K := by
    intro h
    by_cases hs : OpSem C.P keep st ⟨dst, op, ty, pos, after, guard⟩ K
    · exact hs
    · refine ⟨fun E ρ a w Q hE ha hH => ?_⟩
      rcases pureOp_sound hC hH.mem.blks (a := a) (fun x => ha.ev hH.mem.glob x) (o := ⟨dst, op, ty, pos, after, guard⟩) h with ⟨sv, v, h1, h2, h3⟩ | h
      · unfold Oper.wp
        rw [h3 w hH.mem.same]
        exact putK_sound (putS_eq _ _ _ _ ▸ h1) ha (Agree.refl _) hH h2 (fun _ => Kept.refl _)
      · exact (hs h).elim
  unfold vop at h
  simp only at h
  split at h
  · -- box
    rename_i t x
    by_cases hs : OpSem C.P keep st ⟨dst, .box t x, ty, pos, after, guard⟩ K
    · exact hs
    refine ⟨fun E ρ a w Q hE ha hH => ?_⟩
    rcases flatSV_sound h (ha.ev hH.mem.glob x) with h | ⟨us, hu, hr, h⟩
    · exact (hs h).elim
    have hrun : (execOp a.eval ⟨dst, .box t x, ty, pos, after, guard⟩).run C.P w = .ok (.value (.pointer (some ⟨w.heap.size, 0, none⟩))) (w.alloc (.cells us.toArray t)) := by
      have : (a.eval x).cells = us.toArray := Array.ext' (by simpa using hu)
      simp only [execOp, Instr.box, newVar, newRow, this]
      rfl
    unfold Oper.wp
    rw [hrun]
    have hgr := Grew.alloc w (.cells us.toArray t)
    have hk := ρ.push_agree (w.heap.size, 0)
    refine putM_sound h ha hk (hH.push hgr ⟨rfl, us, hr.agree hk, hgr.new⟩) ?_ (fun _ => ⟨by rw [hgr.size]; omega, fun n hn => hgr.old hn⟩)
    unfold Rel locA
    refine ⟨by rw [← hH.mem.nx, ρ.push_new], ?_⟩
    show st.mem.ext.length < ρ.nx + 1
    rw [hH.mem.nx]; omega
  · -- alloc
    rename_i t
    split at h
    rotate_left
    · exact h
    rename_i i hi
    refine ⟨fun E ρ a w Q hE ha hH => ?_⟩
    obtain ⟨z, hz, hzc⟩ := (hC.ty _ _ hi).zeroV w
    have hrun : (execOp a.eval ⟨dst, .alloc t, ty, pos, after, guard⟩).run C.P w = .ok (.value (.pointer (some ⟨w.heap.size, 0, none⟩))) (w.alloc (.cells z.cells t)) := by
      simp only [execOp, Instr.alloc, Sem.run_bind, hz, Result.andThen_ok, newVar, newRow]
      rfl
    unfold Oper.wp
    rw [hrun]
    have hgr := Grew.alloc w (.cells z.cells t)
    have hk := ρ.push_agree (w.heap.size, 0)
    refine putM_sound h ha hk (hH.push hgr ⟨rfl, i.zero, RelL.vals _, by rw [hgr.new, ← hzc]⟩) ?_ (fun _ => ⟨by rw [hgr.size]; omega, fun n hn => hgr.old hn⟩)
    unfold Rel locA
    refine ⟨by rw [← hH.mem.nx, ρ.push_new], ?_⟩
    show st.mem.ext.length < ρ.nx + 1
    rw [hH.mem.nx]; omega
  · -- store
    rename_i t x y
    split at h
    rotate_left
    · exact h
    rename_i b e sz f i ex hi
    by_cases hs : OpSem C.P false st ⟨dst, .store t x y, ty, pos, after, guard⟩ K
    · exact hs
    refine ⟨fun E ρ a w Q hE ha hH => ?_⟩
    have hx := ha.ev hH.mem.glob x
    rw [ex] at hx
    unfold Rel at hx
    obtain ⟨hx, _⟩ := hx
    rcases storeK_sound hC hE ha hH hi (ha.ev hH.mem.glob y) h with h | ⟨w', hrun, _, ρ1, m', hk1, hH', h⟩
    · exact (hs h).elim
    rw [hE] at hrun
    unfold Oper.wp
    have : (execOp a.eval ⟨dst, .store t x y, ty, pos, after, guard⟩).run C.P w = .ok .skip w' := by
      simp only [execOp, Instr.storeAt, hx, Instr.sureAddr, Sem.run_bind, Sem.run_pure, Result.andThen_ok, hrun]
    rw [this]
    obtain ⟨ρ', st', h1, h2, h3, h4, h5, _⟩ := putM_sound (keep := false) (ρ := ρ) (w := w) (st := { st with mem := m' }) h (ha.mem m') hk1 hH' (rel_v undef) (fun e => by cases e)
    exact ⟨ρ', st', h1, h2, h3, h4, h5, fun e => by cases e⟩
  · -- buildSlice
    rename_i t len parts
    split at h
    rotate_left
    · exact h
    rename_i i hi
    split at h
    rotate_left
    · exact h
    rename_i el hd
    split at h
    rotate_left
    · exact h
    rename_i j hj
    split at h
    rotate_left
    · exact h
    rename_i hbig hzl hsz
    have hbig := Nat.le_of_ble_eq_true hbig
    have hzl := Nat.eq_of_beq_eq_true hzl
    have hsz : 0 < j.size := Nat.pos_of_ne_zero (fun e => by rw [e] at hsz; cases hsz)
    by_cases hs : OpSem C.P keep st ⟨dst, .buildSlice t len parts, ty, pos, after, guard⟩ K
    · exact hs
    refine ⟨fun E ρ a w Q hE ha hH => ?_⟩
    have hu := slice_of hC.ty hi hd
    obtain ⟨z, hz, hzc⟩ := (hC.ty _ _ hj).zeroV w
    have hzs : z.cells.size = j.size := by rw [← Array.length_toList, hzc, hzl]
    have hrep := rep_cells (z := z) (sz := j.size) hzc hzl hsz len
    have hrel : RelL ρ ((List.replicate len j.zero).flatten.map .v) ((Array.range (len * j.size)).map (z.cells[· % z.cells.size]!)).toList := by rw [hrep]; exact RelL.vals _
    rcases fillG_sound (vs := (parts.map fun q => (q.1, a.eval q.2)).toList) h hrel (by simp) (fun n q u hq hu' => by
        simp only [Array.toList_map, List.getElem?_map, Option.map_eq_some_iff] at hq hu'
        obtain ⟨x, hx, rfl⟩ := hq
        obtain ⟨y, hy, rfl⟩ := hu'
        rw [hx] at hy
        cases hy
        exact ⟨rfl, ha.ev hH.mem.glob _⟩) with h | ⟨cells, cs, h, hr, hfill, hcs⟩
    · exact (hs h).elim
    have hcs' : cs.size = len * j.size := by rw [hcs]; simp
    have hrun : (execOp a.eval ⟨dst, .buildSlice t len parts, ty, pos, after, guard⟩).run C.P w = .ok (.value (.slice (some ⟨w.heap.size, 0, none⟩) len len)) (w.alloc (.cells cs el)) := by
      simp only [execOp, Instr.buildSlice, Sem.run_bind, run_underlying hu, Result.andThen_ok, (hC.ty _ _ hj).sizeOf]
      rw [if_neg (by omega)]
      by_cases h0 : len * j.size = 0
      · have hl0 : len = 0 := by
          rcases Nat.mul_eq_zero.1 h0 with h | h
          · exact h
          · omega
        subst hl0
        have hcz : ∀ z' : Array Value, Instr.fill (fun k => some (k * j.size, j.size)) ((Array.range (0 * j.size)).map (z'[· % z'.size]!)) (parts.map fun q => (q.1, a.eval q.2)).toList = some cs := by
          intro z'
          rw [← hfill]
          congr 1
          apply Array.ext
          · simp
          · intro k h1 h2
            simp at h1
        rw [if_pos h0]
        simp only [Sem.run_pure, Result.andThen_ok, Sem.run_bind, hcz, newRow]
        rfl
      · rw [if_neg h0]
        simp only [Sem.run_bind, hz, Result.andThen_ok, Sem.run_pure, hfill, newRow]
        rfl
    unfold Oper.wp
    rw [hrun]
    have hgr := Grew.alloc w (.cells cs el)
    have hk := ρ.push_agree (w.heap.size, 0)
    have hsame : keep = true → Kept w (w.alloc (.cells cs el)) := fun _ => ⟨by rw [hgr.size]; omega, fun n hn => hgr.old hn⟩
    have hrelS : ∀ (ρ1 : Plc) (m1 : Mem), ρ1.nx = m1.ext.length → Rel (ρ1.push (w.heap.size, 0)) (.s (.n m1.ext.length) j.size 0 len len) (.slice (some ⟨w.heap.size, 0, none⟩) len len) := fun ρ1 m1 hnx => by
      unfold Rel locA
      refine ⟨_, rfl, Nat.le_refl _, .inr ⟨by rw [← hnx, ρ1.push_new]; simp, ?_⟩⟩
      show m1.ext.length < ρ1.nx + 1
      rw [hnx]; omega
    unfold rowK at h
    rcases frzL_sound hH hr h with h | ⟨ρ1, m1, cvs, hk1, hH1, hcv, h⟩
    rotate_left
    · have hul : cs.toList.length = len * j.size := by rw [Array.length_toList, hcs']
      obtain ⟨hc1, hc2⟩ := chunks_flat j.size len cs.toList hul
      have hlenm : len ≤ maxLen := by
        have := Nat.le_mul_of_pos_right len hsz
        simp only [maxLen]
        omega
      have hk := ρ1.push_agree (w.heap.size, 0)
      have hRR := chunks_rel len hcv hul
      refine putM_sound h ha (hk1.trans hk) (hH1.push hgr ⟨_, hRR, by rw [chunks_len]; exact Nat.le_refl _, hRR.cells, fun _ => ⟨rfl, hlenm, cs, hgr.new, hcs', ?_⟩⟩) (hrelS ρ1 m1 hH1.mem.nx) hsame
      rw [chunks_len, hc1]
      exact List.take_of_length_le (by omega)
    · split at h
      · exact putM_sound h ha hk (hH.push hgr ⟨rfl, cs.toList, hr.agree hk, by rw [hgr.new]⟩) (hrelS ρ st.mem hH.mem.nx) hsame
      · exact (hs h).elim
  · -- makeSlice
    rename_i t l c
    split at h
    rotate_left
    · exact h
    rename_i i k1 n k2 k hi el' ec'
    split at h
    rotate_left
    · exact h
    rename_i el hd
    split at h
    rotate_left
    · exact h
    rename_i j hj
    split at h
    rotate_left
    · exact h
    rename_i hzl hzo hsz hby
    have hzl := Nat.eq_of_beq_eq_true hzl
    have hzo := List.all_eq_true.1 hzo
    have hsz : 0 < j.size := Nat.pos_of_ne_zero (fun e => by rw [e] at hsz; cases hsz)
    have hby : 0 < j.bytes := Nat.pos_of_ne_zero (fun e => by rw [e] at hby; cases hby)
    obtain ⟨⟨h0, hnk, hkb⟩, h⟩ := h
    refine ⟨fun E ρ a w Q hE ha hH => ?_⟩
    have hl := ha.ev hH.mem.glob l
    have hc := ha.ev hH.mem.glob c
    rw [el'] at hl
    rw [ec'] at hc
    unfold Rel at hl hc
    have hu := slice_of hC.ty hi hd
    obtain ⟨f, hf, hf1, hf2, z, hz, hzc⟩ := (hC.ty _ _ hj).info'
    have hzv : (zeroValue el).run C.P w = .ok z w := by simp [zeroValue, typeInfo, hf, hz]
    have hkk : k ≤ 140737488355328 := by
      have h1 : k * 1 ≤ k * (j.bytes : Int) := Int.mul_le_mul_of_nonneg_left (by omega) (by omega)
      omega
    have w1 : IntKind.i64.wrap n = n := IntWalk.i64_in _ (by omega)
    have w2 : IntKind.i64.wrap k = k := IntWalk.i64_in _ (by omega)
    have hbk : (j.bytes : Int) * k ≤ 281474976710656 := by rw [Int.mul_comm]; omega
    have hroom : k.toNat * j.bytes ≤ 140737488355328 := by
      have : ((k.toNat * j.bytes : Nat) : Int) = k * j.bytes := by
        rw [Int.natCast_mul, Int.toNat_of_nonneg (by omega)]
      omega
    have hrep := rep_cells (z := z) (sz := j.size) hzc hzl hsz k.toNat
    have hrun : ∃ cs : Array Value, (execOp a.eval ⟨dst, .makeSlice t l c, ty, pos, after, guard⟩).run C.P w = .ok (.value (.slice (some ⟨w.heap.size, 0, none⟩) n.toNat k.toNat)) (w.alloc (.cells cs el)) ∧ cs.toList = (List.replicate k.toNat j.zero).flatten := by
      have hask : (askRoom (k.toNat * j.bytes)).run C.P w = .ok () w := by
        unfold askRoom
        rw [if_neg (by simp only [roomBytes]; omega)]
        rfl
      by_cases h0' : k.toNat * j.size = 0
      · have hk0 : k.toNat = 0 := by
          rcases Nat.mul_eq_zero.1 h0' with h | h
          · exact h
          · omega
        refine ⟨#[], ?_, by simp [hk0]⟩
        simp [execOp, hl, hc, Instr.makeSlice, run_underlying hu, asInt, asIntOf, typeInfo, hf, hf2, w1, w2, (hC.ty _ _ hj).sizeOf, hask, h0', newRow]
        rw [if_neg (by omega)]
        have e0 : (Array.range 0).map (fun _ => (default : Value)) = #[] := Array.ext' (by simp)
        rw [e0]
      · refine ⟨_, ?_, hrep⟩
        simp [execOp, hl, hc, Instr.makeSlice, run_underlying hu, asInt, asIntOf, typeInfo, hf, hf2, w1, w2, (hC.ty _ _ hj).sizeOf, hask, h0', newRow, hzv]
        intro hcc
        exfalso
        omega
    obtain ⟨cs, hrun, hcs⟩ := hrun
    unfold Oper.wp
    rw [hrun]
    have hgr := Grew.alloc w (.cells cs el)
    have hk := ρ.push_agree (w.heap.size, 0)
    have hcl : cs.size = k.toNat * j.size := by rw [← Array.length_toList, hcs]; simp [hzl]
    refine putM_sound h ha hk (hH.push hgr ⟨List.replicate n.toNat j.zero, RelR.replicate (RelK.vals hzo) hzl, by simp; omega, fun c hc => ?_, fun _ => ⟨rfl, by simp only [maxLen]; omega, cs, hgr.new, hcl, ?_⟩⟩) ?_ (fun _ => ⟨by rw [hgr.size]; omega, fun n hn => hgr.old hn⟩)
    · rw [List.eq_of_mem_replicate hc]
      exact ⟨hzl, hzo⟩
    · rw [hcs, List.length_replicate]
      have : List.replicate k.toNat j.zero = List.replicate n.toNat j.zero ++ List.replicate (k.toNat - n.toNat) j.zero := by
        rw [List.replicate_append_replicate]
        congr 1
        omega
      rw [this, List.flatten_append]
      exact List.take_left' (by simp [hzl])
    · unfold Rel locA
      refine ⟨_, rfl, by omega, .inr ⟨by rw [← hH.mem.nx, ρ.push_new]; simp, ?_⟩⟩
      show st.mem.ext.length < ρ.nx + 1
      rw [hH.mem.nx]; omega
  · -- call
    rename_i f args argTypes
    split at h
    · rename_i g cap eg
      replace h := forceL_spec (K := fun xs => forceM st.mem fun m => forceNat m.ext.length fun n => CallSem C.P keep m n g xs (fun r m => putM st dst r m K)) h
      replace h := forceM_spec (K := fun m => forceNat m.ext.length fun n => CallSem C.P keep m n g (args.toList.map st.ev ++ cap) (fun r m => putM st dst r m K)) h
      replace h := forceNat_spec (K := fun n => CallSem C.P keep st.mem n g (args.toList.map st.ev ++ cap) (fun r m => putM st dst r m K)) h
      refine ⟨fun E ρ a w Q hE ha hH => ?_⟩
      have hf := ha.ev hH.mem.glob f
      rw [eg] at hf
      unfold Rel at hf
      obtain ⟨us, hf, hus⟩ := hf
      rcases h.out E ρ w _ hE hH ((relL_map (ha.ev hH.mem.glob) args.toList).append hus) with ⟨⟨fn, hfn, hbody, hname⟩, hcall⟩ | ⟨v, w', hcf, ρ', r, m', u, e1, hk, hH', hr, hK, hs⟩
      · have hrun : (execOp a.eval ⟨dst, .call { callee := .value f, args, argTypes }, ty, pos, after, guard⟩).run C.P w = .ok (.enter g (args.toList.map a.eval ++ us).toArray) w := by
          have hp : program.run C.P w = .ok C.P w := rfl
          have hn' : ¬ fn.name = "runtime.NumGoroutine" := by simpa using hname
          have hb' : ¬ fn.body = none := fun e => by rw [e] at hbody; cases hbody
          simp [execOp, resolve, hf, Deferred.ofValue, invoke, callFunc, hp, hfn, hn', hb']
        unfold Oper.wp
        rw [hrun]
        refine Calls.mono hcall ?_
        rintro e w' ⟨ρ', r, m', u, rfl, hk, hH', hr, hK, hs⟩
        exact putM_sound hK ha hk hH' hr hs
      · cases e1
        have hrun : (execOp a.eval ⟨dst, .call { callee := .value f, args, argTypes }, ty, pos, after, guard⟩).run C.P w = .ok (.value v) w' := by
          simp [execOp, resolve, hf, Deferred.ofValue, invoke]
          rw [show Array.map a.eval args ++ us.toArray = (args.toList.map a.eval ++ us).toArray from Array.ext' (by simp)]
          exact hcf
        unfold Oper.wp
        rw [hrun]
        exact putM_sound hK ha hk hH' hr hs
    · rename_i g cap eg
      replace h := forceL_spec (K := fun xs => forceM st.mem fun m => forceNat m.ext.length fun n => CallSem C.P keep m n g xs (fun r m => putM st dst r m K)) h
      replace h := forceM_spec (K := fun m => forceNat m.ext.length fun n => CallSem C.P keep m n g (cap ++ args.toList.map st.ev) (fun r m => putM st dst r m K)) h
      replace h := forceNat_spec (K := fun n => CallSem C.P keep st.mem n g (cap ++ args.toList.map st.ev) (fun r m => putM st dst r m K)) h
      refine ⟨fun E ρ a w Q hE ha hH => ?_⟩
      have hf := ha.ev hH.mem.glob f
      rw [eg] at hf
      unfold Rel at hf
      obtain ⟨us, hf, hus⟩ := hf
      rcases h.out E ρ w _ hE hH (hus.append (relL_map (ha.ev hH.mem.glob) args.toList)) with ⟨⟨fn, hfn, hbody, hname⟩, hcall⟩ | ⟨v, w', hcf, ρ', r, m', u, e1, hk, hH', hr, hK, hs⟩
      · have hrun : (execOp a.eval ⟨dst, .call { callee := .value f, args, argTypes }, ty, pos, after, guard⟩).run C.P w = .ok (.enter g (us ++ args.toList.map a.eval).toArray) w := by
          have hp : program.run C.P w = .ok C.P w := rfl
          have hn' : ¬ fn.name = "runtime.NumGoroutine" := by simpa using hname
          have hb' : ¬ fn.body = none := fun e => by rw [e] at hbody; cases hbody
          simp [execOp, resolve, hf, Deferred.ofValue, invoke, callFunc, hp, hfn, hn', hb']
        unfold Oper.wp
        rw [hrun]
        refine Calls.mono hcall ?_
        rintro e w' ⟨ρ', r, m', u, rfl, hk, hH', hr, hK, hs⟩
        exact putM_sound hK ha hk hH' hr hs
      · cases e1
        have hrun : (execOp a.eval ⟨dst, .call { callee := .value f, args, argTypes }, ty, pos, after, guard⟩).run C.P w = .ok (.value v) w' := by
          simp [execOp, resolve, hf, Deferred.ofValue, invoke]
          rw [show us.toArray ++ Array.map a.eval args = (us ++ args.toList.map a.eval).toArray from Array.ext' (by simp)]
          exact hcf
        unfold Oper.wp
        rw [hrun]
        exact putM_sound hK ha hk hH' hr hs
    · exact h
  · -- append
    rename_i args argTypes
    split at h
    rotate_left
    · exact h
    rename_i x y hargs
    by_cases hs : OpSem C.P false st ⟨dst, .call { callee := .builtin .append, args, argTypes }, ty, pos, after, guard⟩ K
    · exact hs
    refine ⟨fun E ρ a w Q hE ha hH => ?_⟩
    have ha' : args.map a.eval = #[a.eval x, a.eval y] := Array.ext' (by simp [hargs])
    rcases appendK_sound hC hE ha hH (ty := ty) (ha.ev hH.mem.glob x) (ha.ev hH.mem.glob y) h with h | ⟨r, w', hrun, hpost, _⟩
    · rcases zerosK_sound hC hE ha hH (ty := ty) (ha.ev hH.mem.glob x) (ha.ev hH.mem.glob y) h with h | ⟨r, w', hrun, hpost⟩
      · rcases appInK_sound hC hE ha hH (ty := ty) (ha.ev hH.mem.glob x) (ha.ev hH.mem.glob y) h with h | ⟨r, w', hrun, hpost⟩
        · exact (hs h).elim
        · unfold Oper.wp
          have : (execOp a.eval ⟨dst, .call { callee := .builtin .append, args, argTypes }, ty, pos, after, guard⟩).run C.P w = .ok (.value r) w' := by
            simp only [execOp, resolve, Sem.run_bind, Sem.run_pure, Result.andThen_ok, invoke, builtin, ha', hrun]
          rw [this]
          exact hpost
      · unfold Oper.wp
        have : (execOp a.eval ⟨dst, .call { callee := .builtin .append, args, argTypes }, ty, pos, after, guard⟩).run C.P w = .ok (.value r) w' := by
          simp only [execOp, resolve, Sem.run_bind, Sem.run_pure, Result.andThen_ok, invoke, builtin, ha', hrun]
        rw [this]
        exact hpost
    rw [hE] at hrun
    unfold Oper.wp
    have : (execOp a.eval ⟨dst, .call { callee := .builtin .append, args, argTypes }, ty, pos, after, guard⟩).run C.P w = .ok (.value r) w' := by
      simp only [execOp, resolve, Sem.run_bind, Sem.run_pure, Result.andThen_ok, invoke, builtin, ha', hrun]
    rw [this]
    exact hpost
  · -- copy
    rename_i args argTypes
    split at h
    rotate_left
    · exact h
    rename_i x y hargs
    by_cases hs : OpSem C.P false st ⟨dst, .call { callee := .builtin .copy, args, argTypes }, ty, pos, after, guard⟩ K
    · exact hs
    refine ⟨fun E ρ a w Q hE ha hH => ?_⟩
    have ha' : args.map a.eval = #[a.eval x, a.eval y] := Array.ext' (by simp [hargs])
    rcases copyK_sound hC hE ha hH (ty := ty) (ha.ev hH.mem.glob x) (ha.ev hH.mem.glob y) h with h | ⟨r, w', hrun, hpost⟩
    · exact (hs h).elim
    unfold Oper.wp
    have : (execOp a.eval ⟨dst, .call { callee := .builtin .copy, args, argTypes }, ty, pos, after, guard⟩).run C.P w = .ok (.value r) w' := by
      simp only [execOp, resolve, Sem.run_bind, Sem.run_pure, Result.andThen_ok, invoke, builtin, ha', hrun]
    rw [this]
    exact hpost
  · -- clear
    rename_i args argTypes
    split at h
    rotate_left
    · exact h
    rename_i x hargs
    by_cases hs : OpSem C.P false st ⟨dst, .call { callee := .builtin .clear, args, argTypes }, ty, pos, after, guard⟩ K
    · exact hs
    refine ⟨fun E ρ a w Q hE ha hH => ?_⟩
    have ha' : args.map a.eval = #[a.eval x] := Array.ext' (by simp [hargs])
    rcases clearK_sound hC hE ha hH (ty := ty) (ha.ev hH.mem.glob x) h with h | ⟨r, w', hrun, hpost⟩
    · exact (hs h).elim
    unfold Oper.wp
    have : (execOp a.eval ⟨dst, .call { callee := .builtin .clear, args, argTypes }, ty, pos, after, guard⟩).run C.P w = .ok (.value r) w' := by
      simp only [execOp, resolve, Sem.run_bind, Sem.run_pure, Result.andThen_ok, invoke, builtin, ha', hrun]
    rw [this]
    exact hpost
  · -- convert
    rename_i src dstT x
    split at h
    · rename_i b sz e n c hbeq hev
      obtain rfl := Nat.eq_of_beq_eq_true hbeq
      by_cases hs : OpSem C.P false st ⟨dst, .convert src src x, ty, pos, after, guard⟩ K
      · exact hs
      refine ⟨fun E ρ a w Q hE ha hH => ?_⟩
      have hv := ha.ev hH.mem.glob x
      rw [hev] at hv
      rcases markK_sound hC hE ha hH hv h with h | ⟨u, w', hrun, _, _, m', hH', hr', h⟩
      · exact (hs h).elim
      rw [hE] at hrun
      unfold Oper.wp
      have : (execOp a.eval ⟨dst, .convert src src x, ty, pos, after, guard⟩).run C.P w = .ok (.value u) w' := by
        simp only [execOp, Sem.run_bind, hrun, Result.andThen_ok, Sem.run_pure]
      rw [this]
      obtain ⟨ρ', st', h1, h2, h3, h4, h5, _⟩ := putM_sound (keep := false) (ρ := ρ) (w := w) (st := { st with mem := m' }) h (ha.mem m') (Agree.refl ρ) hH' hr' (fun e => by cases e)
      exact ⟨ρ', st', h1, h2, h3, h4, h5, fun e => by cases e⟩
    unfold convK at h
    split at h
    rotate_left
    · exact pure' h
    rename_i i0 i s hi0 hi hx
    split at h
    rotate_left
    · exact pure' h
    rename_i el hd0 hd
    split at h
    rotate_left
    · exact pure' h
    rename_i j hj
    split at h
    rotate_left
    · exact pure' h
    rename_i hdj
    refine ⟨fun E ρ a w Q hE ha hH => ?_⟩
    have hs := str_of hC.ty hi0 hd0
    have hu := slice_of hC.ty hi hd
    have he := int_of hC.ty hj hdj
    have hv := ha.ev hH.mem.glob x
    rw [hx] at hv
    unfold Rel at hv
    have hrun : (execOp a.eval ⟨dst, .convert src dstT x, ty, pos, after, guard⟩).run C.P w = .ok (.value (.slice (some ⟨w.heap.size, 0, none⟩) s.size (grownCap w s.size 0 el))) (Lib.bytesWorld w el s) := by
      simp only [execOp, hv, Sem.run_bind, Lib.run_convert_string_bytes w src dstT el s hs hu he, Result.andThen_ok, Sem.run_pure]
    unfold Oper.wp
    rw [hrun]
    have hgr := Grew.bytes w el s
    have hk := ρ.push_agree (w.heap.size, 0)
    have hge := grownCap_ge w s.size 0 el
    refine putM_sound (h _ hge) ha hk (hH.push hgr ⟨_, txt_rel _ s, fun _ => by rw [hgr.size]; show w.heap.size < _; omega, fun e c hc => ?_⟩) ?_ (fun _ => ⟨by rw [hgr.size]; omega, fun n hn => hgr.old hn⟩)
    · have hlt := getElem?_lt hc
      simp only [txtRaw, List.length_map, Array.length_toList] at hlt
      simp only [txtRaw, List.getElem?_map, Option.map_eq_some_iff] at hc
      obtain ⟨b, hb, rfl⟩ := hc
      refine ⟨⟨rfl, fun u hu => by simp at hu; subst hu; rfl⟩, fun k u hu => ?_⟩
      cases k with
      | zero =>
        simp at hu
        subst hu
        have h1 := Lib.bytesWorld_cell w el s e hlt
        simp only [Nat.mul_one, Nat.add_zero, Nat.zero_add]
        rw [h1, List.getD_eq_getElem?_getD, hb]
        rfl
      | succ k => simp at hu
    · unfold Rel locA
      refine ⟨_, rfl, hge, .inr ⟨by rw [← hH.mem.nx, ρ.push_new], ?_⟩⟩
      show st.mem.ext.length < ρ.nx + 1
      rw [hH.mem.nx]; omega
  · exact pure' h
end Go.Proofs.Ytkcdomafdjpbjaa
