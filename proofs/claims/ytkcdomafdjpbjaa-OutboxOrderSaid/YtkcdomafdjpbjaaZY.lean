/- Walks by computing: what is handed in as what stays. -/
import Derived.Test.YtkcdomafdjpbjaaZX
import Derived.Lib.AppendZerosOnto
import Derived.Lib.Overlaps
import Derived.Laws.Externs
namespace Go.Proofs.Ytkcdomafdjpbjaa
open Go.RowKit Go.Deep

/-- A value, told as what stays. -/
def FrzV (m : Mem) (x y : SV) (m' : Mem) : Prop := ∀ E ρ w u, Holds E ρ m w → Rel ρ x u → ∃ ρ', Agree ρ ρ' ∧ Holds E ρ' m' w ∧ Rel ρ' y u
theorem frz_s {m : Mem} {b t sz c e len cap : Nat} {els : List (List CV)} (hl : m.look (.n b) = some (.row t sz c els)) (hle : e + len ≤ els.length) : FrzV m (.s (.n b) sz e len cap) (.z sz ((els.drop e).take len) cap) (m.set (.n b) (.ro sz els)) := by
  intro E ρ w u hH hx
  obtain ⟨ad, rfl, hlc, hcap⟩ : ∃ ad, u = .slice ad len cap ∧ len ≤ cap ∧ (cap = 0 ∨ (ad = some (locA ρ (.n b) (e * sz)) ∧ ρ.has (.n b))) := by
    unfold Rel at hx
    exact hx
  have hlen : ((els.drop e).take len).length = len := by simp; omega
  rcases frzK_sound (K := fun m' c => m' = m.set (.n b) (.ro sz els) ∧ c = .z sz ((els.drop e).take len)) (other := False) hH hx (by
    unfold frzK
    dsimp only
    rw [hl]
    exact ⟨⟨rfl, hle⟩, rfl, rfl⟩) with h | ⟨ρ', m', c', hk, hH', hc, rfl, rfl⟩
  · exact h.elim
  · refine ⟨ρ', hk, hH', ?_⟩
    unfold RelC at hc
    obtain ⟨ad', cap', e1, h2, h3⟩ := hc
    rw [hlen] at e1
    cases e1
    unfold Rel
    exact ⟨ad, by rw [hlen], h2, h3⟩
theorem frz_agg {m m' : Mem} {l : List SV} {j : Nat} {x y : SV} (hj : l[j]? = some x) (h : FrzV m x y m') : FrzV m (.agg l) (.agg (l.set j y)) m' := by
  intro E ρ w u hH hx
  unfold Rel at hx
  obtain ⟨us, rfl, hus⟩ := hx
  obtain ⟨v, hv, hxv⟩ := hus.get hj
  obtain ⟨ρ', hk, hH', hy⟩ := h E ρ w v hH hxv
  refine ⟨ρ', hk, hH', ?_⟩
  unfold Rel
  refine ⟨us, rfl, ?_⟩
  have := (hus.agree hk).set j (x := y) (u := v) hy
  have hset : us.set j v = us := by
    apply List.ext_getElem?
    intro k
    rw [List.getElem?_set]
    split
    · rename_i e; subst e; rw [hv]; simp [getElem?_lt hv]
    · rfl
  rwa [hset] at this
/-- A call that is handed a value of the caller's own, which stays from here on. -/
theorem call_frz {P : Program} {keep : Bool} {m m' : Mem} {n : Nat} {f : Nat} {args : List SV} {K : SV → Mem → Prop} (i : Nat) {x y : SV} (hi : args[i]? = some x) (hf : FrzV m x y m') (h : CallSem P keep m' n f (args.set i y) K) : CallSem P keep m n f args K := by
  refine ⟨fun E ρ w us hE hH hr => ?_⟩
  obtain ⟨u, hu, hx⟩ := hr.get hi
  obtain ⟨ρ1, hk, hH', hy⟩ := hf E ρ w u hH hx
  have hargs : RelL ρ1 (args.set i y) us := by
    have := (hr.agree hk).set i (x := y) (u := u) hy
    have hset : us.set i u = us := by
      apply List.ext_getElem?
      intro j
      rw [List.getElem?_set]
      split
      · rename_i e; subst e; rw [hu]; simp [getElem?_lt hu]
      · rfl
    rwa [hset] at this
  refine (h.out E ρ1 w us hE hH' hargs).mono ?_
  rintro e w' ⟨ρ', r, m', u, h1, h2, h3, h4, h5, h6⟩
  exact ⟨ρ', r, m', u, h1, hk.trans h2, h3, h4, h5, h6⟩
/-- A row of the caller's own is written no more. -/
theorem call_toRo {P : Program} {keep : Bool} {m : Mem} {n : Nat} {f : Nat} {args : List SV} {K : SV → Mem → Prop} (b : Nat) {t sz cap : Nat} {els : List (List CV)} (hl : m.look (.n b) = some (.row t sz cap els)) (h : CallSem P keep (m.set (.n b) (.ro sz els)) n f args K) : CallSem P keep m n f args K :=
  ⟨fun E ρ w us hE hH hr => h.out E ρ w us hE (hH.toRo hl) hr⟩

/-- append, where the row has no room for more: a new row. -/
def appNK (T : List (Nat × TI)) (st : St) (dst : Option Nat) (ts : Array Nat) (x y : SV) (K : St → Prop) : Prop :=
  match ts.toList with
  | [t, t'] => match Nat.beq t t', assoc T t with
    | true, some i => match i.d with
      | .slice el => match assoc T el with
        | some j => match Nat.beq j.size 0, Nat.beq j.bytes 0, Nat.beq j.zero.length j.size, x with
          | false, false, true, .s a sz e len cap => readEls st.mem (.s a sz e len cap) j.size (fun olds _ => readEls st.mem y j.size (fun news n => (cap < len + n ∧ (len + n) * j.bytes ≤ 140737488355328) ∧
              ∀ cap', len + n ≤ cap' → putM st dst (.s (.n st.mem.ext.length) j.size 0 (len + n) cap') (st.mem.push (.row el j.size cap' (olds ++ news))) K) False) False
          | _, _, _, _ => False
        | none => False
      | _ => False
    | _, _ => False
  | _ => False
theorem appNK_sound {C : Seat} (hC : C.ok) {E : Env} {ρ : Plc} {st : St} {a : Act} {w : World} (ha : ActOK ρ st a) (hH : Holds E ρ st.mem w) {dst : Option Nat} {ts : Array Nat} {ty : Nat} {x y : SV} {u v : Value} (hx : Rel ρ x u) (hy : Rel ρ y v)
    {K : St → Prop} (h : appNK C.T st dst ts x y K) :
    ∃ r w', (Builtin.append_ ts ty #[u, v]).run C.P w = .ok r w' ∧ OpPost E ρ st.mem w false st.nt K (a.put dst r) w' := by
  unfold appNK at h
  split at h
  rotate_left
  · exact h.elim
  rename_i t t' hts
  have hts : ts = #[t, t'] := by rw [← Array.toArray_toList (xs := ts), hts]
  subst hts
  split at h
  rotate_left
  · exact h.elim
  rename_i i htt hi
  have htt := Nat.eq_of_beq_eq_true htt
  subst htt
  split at h
  rotate_left
  · exact h.elim
  rename_i el hd
  split at h
  rotate_left
  · exact h.elim
  rename_i j hj
  split at h
  rotate_left
  · exact h.elim
  rename_i a0 sz e len cap hsz hby hzl
  have hsz : 0 < j.size := Nat.pos_of_ne_zero (fun e => by rw [e] at hsz; cases hsz)
  have hby : 0 < j.bytes := Nat.pos_of_ne_zero (fun e => by rw [e] at hby; cases hby)
  have hzl := Nat.eq_of_beq_eq_true hzl
  have ht := slice_of hC.ty hi hd
  obtain ⟨f, hf, hf1, hf2, z, hz, hzc⟩ := (hC.ty _ _ hj).info'
  have hzs : z.cells.size = f.size := by rw [← Array.length_toList, hzc, hzl, hf1]
  rcases readEls_sound hH.mem.blks h hx with h | ⟨olds, raw, len', b, cap', h, hu, hR, hel, hok, hbn, hbc⟩
  · exact h.elim
  obtain ⟨ad0, hu2, hlc, _⟩ : ∃ ad, u = .slice ad len cap ∧ len ≤ cap ∧ (cap = 0 ∨ (ad = some (locA ρ a0 (e * sz)) ∧ ρ.has a0)) := by
    unfold Rel at hx
    exact hx
  have hu3 := hu2.symm.trans hu
  simp only [Value.slice.injEq] at hu3
  obtain ⟨rfl, rfl, rfl⟩ := hu3
  rcases readEls_sound hH.mem.blks h hy with h | ⟨news, rawn, n, ad, c, h, hv, hRn, hnl, hnok, hadn, hadc⟩
  · exact h.elim
  obtain ⟨⟨hgt, hbytes⟩, hK⟩ := h
  have hn0 : ad ≠ none := fun e => by have := hadn e; omega
  obtain ⟨a1, ha1⟩ := Option.ne_none_iff_exists'.1 hn0
  have hfl : raw.flatten.length = len * f.size := by rw [flatten_len (fun d hd => (hok d hd).1), hel, hf1]
  have hfn : rawn.flatten.length = n * f.size := by rw [flatten_len (fun d hd => (hnok d hd).1), hnl, hf1]
  have hln : len + n ≤ 140737488355328 := Nat.le_trans (Nat.le_mul_of_pos_right _ hby) hbytes
  have hbytes' : (len + n) * f.bytes ≤ 140737488355328 := by rw [hf2]; exact hbytes
  have hge := grownCap_ge w (len + n) cap el
  have hcm : grownCap w (len + n) cap el ≤ maxLen := grownCap_le_maxLen w (len + n) cap el (by simp only [maxLen]; omega)
  have hb0 : ad0 = none → len = 0 := fun e => by have := hbn e; omega
  have hrun : (Builtin.append_ #[t, t] ty #[u, v]).run C.P w = .ok (.slice (some ⟨w.heap.size, 0, none⟩) (len + n) (grownCap w (len + n) cap el))
      (w.drew.alloc (.cells (raw.flatten.toArray ++ rawn.flatten.toArray ++ Builtin.zeroCells z.cells (grownCap w (len + n) cap el - (len + n))) el)) := by
    rw [hu2, hv, ha1]
    have hsrc := run_append_grow_src (P := C.P) w t t ty el f z ht hf hz ad0 len cap raw.flatten (by
      cases ad0 with
      | none =>
        have hl0 := hb0 rfl
        subst hl0
        have he : raw = [] := List.eq_nil_of_length_eq_zero hel
        subst he
        exact run_firstCells_none (P := C.P) w.drew f.size 0 0 cap
      | some b0 => exact run_firstCells_some (P := C.P) w.drew f.size len b0 len cap raw.flatten hfl (fun k v hkv => by simpa using hbc b0 rfl w hH.mem.same k v hkv)) (.slice (some a1) n c) n rawn.flatten (Src.ofSlice w ht a1 n c rawn.flatten hfn (fun k v hkv => hadc a1 ha1 w hH.mem.same k v hkv) (flatten_one hnok)) hgt (by omega) (growslice_fits (by omega) hbytes')
    rw [hsrc]
    simp
  refine ⟨_, _, hrun, ?_⟩
  have hk := ρ.push_agree (w.heap.size, 0)
  have hgr := Grew.drewAlloc w (.cells (raw.flatten.toArray ++ rawn.flatten.toArray ++ Builtin.zeroCells z.cells (grownCap w (len + n) cap el - (len + n))) el)
  have hok2 : ∀ c ∈ raw ++ rawn, CellsOK j.size c := fun c hc => (List.mem_append.1 hc).elim (hok c) (hnok c)
  have hF : (raw ++ rawn).flatten.length = (len + n) * j.size := by rw [flatten_len (fun d hd => (hok2 d hd).1), List.length_append, hel, hnl]
  have hblk : BlkOK (ρ.push (w.heap.size, 0)) (w.heap.size, 0) (.row el j.size (grownCap w (len + n) cap el) (olds ++ news)) (w.drew.alloc (.cells (raw.flatten.toArray ++ rawn.flatten.toArray ++ Builtin.zeroCells z.cells (grownCap w (len + n) cap el - (len + n))) el)) := by
    refine ⟨raw ++ rawn, hR.append hRn, by simp [hel, hnl]; omega, hok2, fun _ => ⟨rfl, hcm, _, hgr.new, ?_, ?_⟩⟩
    · simp only [Array.size_append, List.size_toArray, size_zeroCells, hzs, hfl, hfn, hf1, ← Nat.add_mul]
      congr 1
      omega
    · rw [show (raw ++ rawn).length * j.size = (raw.flatten ++ rawn.flatten).length by rw [← List.flatten_append, hF, List.length_append, hel, hnl]]
      simp only [Array.toList_append, List.flatten_append]
      exact List.take_left
  refine putM_sound (hK _ hge) ha hk (hH.push hgr hblk) ?_ (fun e => by cases e)
  unfold Rel
  refine ⟨_, rfl, hge, .inr ⟨?_, ?_⟩⟩
  · unfold locA
    rw [← hH.mem.nx, ρ.push_new]
    simp
  · show st.mem.ext.length < ρ.nx + 1
    rw [hH.mem.nx]; omega
theorem op_appN {C : Seat} (hC : C.ok) {st : St} {dst : Option Nat} {args : Array Operand} {ts : Array Nat} {ty : Nat} {pos : _} {after : _} {guard : _} {x y : Operand} {K : St → Prop} (hargs : args.toList = [x, y]) (h : appNK C.T st dst ts (st.ev x) (st.ev y) K) :
    OpSem C.P false st ⟨dst, .call { callee := .builtin .append, args, argTypes := ts }, ty, pos, after, guard⟩ K := by
  refine ⟨fun E ρ a w Q hE ha hH => ?_⟩
  have ha' : args.map a.eval = #[a.eval x, a.eval y] := Array.ext' (by simp [hargs])
  obtain ⟨r, w', hrun, hpost⟩ := appNK_sound hC ha hH (ty := ty) (ha.ev hH.mem.glob x) (ha.ev hH.mem.glob y) h
  unfold Oper.wp
  have : (execOp a.eval ⟨dst, .call { callee := .builtin .append, args, argTypes := ts }, ty, pos, after, guard⟩).run C.P w = .ok (.value r) w' := by
    simp only [execOp, resolve, Sem.run_bind, Sem.run_pure, Result.andThen_ok, invoke, builtin, ha', hrun]
  rw [this]
  exact hpost
/-- append(s, make([]T, n)...), where the row has no room for more: a new row. -/
def appZK (T : List (Nat × TI)) (st : St) (dst : Option Nat) (ts : Array Nat) (x y : SV) (K : St → Prop) : Prop :=
  match ts.toList with
  | [t, t'] => match assoc T t, assoc T t' with
    | some i, some i' => match i.d, i'.d with
      | .slice el, .int _ => match assoc T el with
        | some j => match Nat.beq j.size 0, Nat.beq j.bytes 0, Nat.beq j.zero.length j.size, j.zero.all (·.oneCell') with
          | false, false, true, true => match x, y with
            | .s a sz e len cap, .v (.int _ n) => readEls st.mem (.s a sz e len cap) j.size (fun olds _ => (0 < n ∧ cap < len + n.toNat ∧ (len + n.toNat) * j.bytes ≤ 140737488355328) ∧
                ∀ cap', len + n.toNat ≤ cap' → putM st dst (.s (.n st.mem.ext.length) j.size 0 (len + n.toNat) cap') (st.mem.push (.row el j.size cap' (olds ++ List.replicate n.toNat (j.zero.map .v)))) K) False
            | _, _ => False
          | _, _, _, _ => False
        | none => False
      | _, _ => False
    | _, _ => False
  | _ => False
theorem appZK_sound {C : Seat} (hC : C.ok) {E : Env} {ρ : Plc} {st : St} {a : Act} {w : World} (ha : ActOK ρ st a) (hH : Holds E ρ st.mem w) {dst : Option Nat} {ts : Array Nat} {ty : Nat} {x y : SV} {u v : Value} (hx : Rel ρ x u) (hy : Rel ρ y v)
    {K : St → Prop} (h : appZK C.T st dst ts x y K) :
    ∃ r w', (Builtin.append_ ts ty #[u, v]).run C.P w = .ok r w' ∧ OpPost E ρ st.mem w false st.nt K (a.put dst r) w' := by
  unfold appZK at h
  split at h
  rotate_left
  · exact h.elim
  rename_i t t' hts
  have hts : ts = #[t, t'] := by rw [← Array.toArray_toList (xs := ts), hts]
  subst hts
  split at h
  rotate_left
  · exact h.elim
  rename_i i i' hi hi'
  split at h
  rotate_left
  · exact h.elim
  rename_i el k' hd hd'
  split at h
  rotate_left
  · exact h.elim
  rename_i j hj
  split at h
  rotate_left
  · exact h.elim
  rename_i hsz hby hzl hzo
  have hsz : 0 < j.size := Nat.pos_of_ne_zero (fun e => by rw [e] at hsz; cases hsz)
  have hby : 0 < j.bytes := Nat.pos_of_ne_zero (fun e => by rw [e] at hby; cases hby)
  have hzl := Nat.eq_of_beq_eq_true hzl
  have hzo := List.all_eq_true.1 hzo
  split at h
  rotate_left
  · exact h.elim
  rename_i a0 sz e len cap kn n
  have ht := slice_of hC.ty hi hd
  have ht' := int_of hC.ty hi' hd'
  obtain ⟨f, hf, hf1, hf2, z, hz, hzc⟩ := (hC.ty _ _ hj).info'
  have hzs : z.cells.size = j.size := by rw [← Array.length_toList, hzc, hzl]
  rcases readEls_sound hH.mem.blks h hx with h | ⟨olds, raw, len', b, cap', h, hu, hR, hel, hok, hbn, hbc⟩
  · exact h.elim
  obtain ⟨ad0, hu2, hlc, _⟩ : ∃ ad, u = .slice ad len cap ∧ len ≤ cap ∧ (cap = 0 ∨ (ad = some (locA ρ a0 (e * sz)) ∧ ρ.has a0)) := by
    unfold Rel at hx
    exact hx
  have hu3 := hu2.symm.trans hu
  simp only [Value.slice.injEq] at hu3
  obtain ⟨rfl, rfl, rfl⟩ := hu3
  obtain ⟨⟨h0, hgt, hbytes⟩, hK⟩ := h
  unfold Rel at hy
  subst hy
  obtain ⟨m, rfl⟩ : ∃ m : Nat, n = m := ⟨n.toNat, by omega⟩
  rw [Int.toNat_natCast] at *
  have hfl : raw.flatten.length = len * f.size := by rw [flatten_len (fun d hd => (hok d hd).1), hel, hf1]
  have hln : len + m ≤ 140737488355328 := Nat.le_trans (Nat.le_mul_of_pos_right _ hby) hbytes
  have hbytes' : (len + m) * f.bytes ≤ 140737488355328 := by rw [hf2]; exact hbytes
  have hmb : m * f.bytes ≤ 140737488355328 := Nat.le_trans (Nat.mul_le_mul_right _ (by omega)) hbytes'
  have hge := grownCap_ge w (len + m) cap el
  have hcm : grownCap w (len + m) cap el ≤ maxLen := grownCap_le_maxLen w (len + m) cap el (by simp only [maxLen]; omega)
  have hb0 : ad0 = none → len = 0 := fun e => by have := hbn e; omega
  have hrun := Lib.run_append_grow_zeros (P := C.P) w t t' ty el f z kn k' ht ht' hf hz ad0 len cap raw.flatten (by
      cases ad0 with
      | none =>
        have hl0 := hb0 rfl
        subst hl0
        have he : raw = [] := List.eq_nil_of_length_eq_zero hel
        subst he
        exact run_firstCells_none (P := C.P) w.drew f.size 0 0 cap
      | some b0 => exact run_firstCells_some (P := C.P) w.drew f.size len b0 len cap raw.flatten hfl (fun k v hkv => by simpa using hbc b0 rfl w hH.mem.same k v hkv)) m (by omega) (by omega) hgt (by omega) (by omega) (growslice_fits (by omega) hbytes')
  refine ⟨_, _, by rw [hu2]; exact hrun, ?_⟩
  have hk := ρ.push_agree (w.heap.size, 0)
  have hgr := Grew.drewAlloc w (.cells (raw.flatten.toArray ++ Builtin.zeroCells z.cells m ++ Builtin.zeroCells z.cells (grownCap w (len + m) cap el - (len + m))) el)
  have hok2 : ∀ c ∈ raw ++ List.replicate m j.zero, CellsOK j.size c := fun c hc => (List.mem_append.1 hc).elim (hok c) (fun hc => by rw [List.eq_of_mem_replicate hc]; exact ⟨hzl, hzo⟩)
  have hRn : RelR ρ.z j.size (List.replicate m (j.zero.map CV.v)) (List.replicate m j.zero) := RelR.replicate (RelK.vals hzo) hzl
  have hzfl : (List.replicate m j.zero).flatten.length = m * j.size := by rw [flatten_len (sz := j.size) (fun d hd => by rw [List.eq_of_mem_replicate hd]; exact hzl), List.length_replicate]
  have hblk : BlkOK (ρ.push (w.heap.size, 0)) (w.heap.size, 0) (.row el j.size (grownCap w (len + m) cap el) (olds ++ List.replicate m (j.zero.map .v))) (w.drew.alloc (.cells (raw.flatten.toArray ++ Builtin.zeroCells z.cells m ++ Builtin.zeroCells z.cells (grownCap w (len + m) cap el - (len + m))) el)) := by
    refine ⟨raw ++ List.replicate m j.zero, hR.append hRn, by simp [hel]; omega, hok2, fun _ => ⟨rfl, hcm, _, hgr.new, ?_, ?_⟩⟩
    · simp only [Array.size_append, List.size_toArray, size_zeroCells, hzs, hfl, hf1, ← Nat.add_mul]
      congr 1
      omega
    · rw [show (raw ++ List.replicate m j.zero).length * j.size = (raw.flatten ++ (List.replicate m j.zero).flatten).length by rw [List.length_append, List.length_append, hzfl, hfl, hf1, hel, List.length_replicate, Nat.add_mul]]
      simp only [Array.toList_append, List.flatten_append, zeroCells_flat hzc hzl hsz]
      exact List.take_left
  refine putM_sound (hK _ hge) ha hk (hH.push hgr hblk) ?_ (fun e => by cases e)
  unfold Rel
  refine ⟨_, rfl, hge, .inr ⟨?_, ?_⟩⟩
  · unfold locA
    rw [← hH.mem.nx, ρ.push_new]
    simp
  · show st.mem.ext.length < ρ.nx + 1
    rw [hH.mem.nx]; omega
theorem op_appZ {C : Seat} (hC : C.ok) {st : St} {dst : Option Nat} {args : Array Operand} {ts : Array Nat} {ty : Nat} {pos : _} {after : _} {guard : _} {x y : Operand} {K : St → Prop} (hargs : args.toList = [x, y]) (h : appZK C.T st dst ts (st.ev x) (st.ev y) K) :
    OpSem C.P false st ⟨dst, .call { callee := .builtin .append, args, argTypes := ts }, ty, pos, after, guard⟩ K := by
  refine ⟨fun E ρ a w Q hE ha hH => ?_⟩
  have ha' : args.map a.eval = #[a.eval x, a.eval y] := Array.ext' (by simp [hargs])
  obtain ⟨r, w', hrun, hpost⟩ := appZK_sound hC ha hH (ty := ty) (ha.ev hH.mem.glob x) (ha.ev hH.mem.glob y) h
  unfold Oper.wp
  have : (execOp a.eval ⟨dst, .call { callee := .builtin .append, args, argTypes := ts }, ty, pos, after, guard⟩).run C.P w = .ok (.value r) w' := by
    simp only [execOp, resolve, Sem.run_bind, Sem.run_pure, Result.andThen_ok, invoke, builtin, ha', hrun]
  rw [this]
  exact hpost

theorem op_appZm {C : Seat} (hC : C.ok) {st : St} {dst : Option Nat} {args : Array Operand} {ts : Array Nat} {ty : Nat} {pos : _} {after : _} {guard : _} {x y : Operand} {K : St → Prop} (m : Nat) {k : IntKind} (hargs : args.toList = [x, y]) (hy : st.ev y = .v (.int k m)) (h : appZK C.T st dst ts (st.ev x) (.v (.int k m)) K) :
    OpSem C.P false st ⟨dst, .call { callee := .builtin .append, args, argTypes := ts }, ty, pos, after, guard⟩ K :=
  op_appZ hC hargs (hy ▸ h)

/-- append, in place, behind what is known of a row that was handed over. -/
def appIK (T : List (Nat × TI)) (st : St) (dst : Option Nat) (ts : Array Nat) (x y : SV) (K : St → Prop) : Prop :=
  match ts.toList with
  | [t, t'] => match Nat.beq t t', assoc T t with
    | true, some i => match i.d with
      | .slice el => match assoc T el with
        | some j => match x with
          | .s (.o k) sz e len cap => match st.mem.look (.o k), Nat.beq sz j.size with
            | some (.row t2 sz2 cap2 els), true => readEls st.mem y j.size (fun news n => (t2 = el ∧ sz2 = sz ∧ e = 0 ∧ cap2 = cap ∧ els.length = len ∧ 0 < n ∧ len + n ≤ cap) ∧
                putM st dst (.s (.o k) sz 0 (len + n) cap) (st.mem.set (.o k) (.row t2 sz2 cap2 (els ++ news))) K) False
            | _, _ => False
          | _ => False
        | none => False
      | _ => False
    | _, _ => False
  | _ => False
theorem appIK_sound {C : Seat} (hC : C.ok) {E : Env} {ρ : Plc} {st : St} {a : Act} {w : World} (ha : ActOK ρ st a) (hH : Holds E ρ st.mem w) {dst : Option Nat} {ts : Array Nat} {ty : Nat} {x y : SV} {u v : Value} (hx : Rel ρ x u) (hy : Rel ρ y v)
    {K : St → Prop} (h : appIK C.T st dst ts x y K) :
    ∃ r w', (Builtin.append_ ts ty #[u, v]).run C.P w = .ok r w' ∧ OpPost E ρ st.mem w false st.nt K (a.put dst r) w' := by
  unfold appIK at h
  split at h
  rotate_left
  · exact h.elim
  rename_i t t' hts
  have hts : ts = #[t, t'] := by rw [← Array.toArray_toList (xs := ts), hts]
  subst hts
  split at h
  rotate_left
  · exact h.elim
  rename_i i htt hi
  have htt := Nat.eq_of_beq_eq_true htt
  subst htt
  split at h
  rotate_left
  · exact h.elim
  rename_i el hd
  split at h
  rotate_left
  · exact h.elim
  rename_i j hj
  split at h
  rotate_left
  · exact h.elim
  rename_i k sz e len cap
  split at h
  rotate_left
  · exact h.elim
  rename_i t2 sz2 cap2 els hl hszb
  have hszb := Nat.eq_of_beq_eq_true hszb
  subst hszb
  rcases readEls_sound hH.mem.blks h hy with h' | ⟨news, rawn, n, ad, c, h3, hv, hRn, hnl, hnok, hadn, hadc⟩
  · exact h'.elim
  obtain ⟨⟨rfl, rfl, rfl, rfl, rfl, hn, hroom⟩, h4⟩ := h3
  unfold Rel at hx
  obtain ⟨ad0, hu, hlc, hcap⟩ := hx
  have ht := slice_of hC.ty hi hd
  obtain ⟨f, hf, hf1, hf2, _⟩ := (hC.ty _ _ hj).info'
  obtain ⟨raw, hR, hb1, hb2, hb3⟩ := hH.mem.blk _ _ hl
  have hRl := hR.1
  have hc0 : cap2 ≠ 0 := by omega
  obtain ⟨h0, hcm, cur, hw, hcs, htk⟩ := hb3 hc0
  obtain ⟨had0, hhas⟩ := hcap.resolve_left hc0
  have hloc : locA ρ (.o k) (0 * j.size) = ⟨(ρ.at_ (.o k)).1, 0, none⟩ := by unfold locA; rw [h0]; simp
  have hfl : raw.flatten.length = els.length * j.size := by rw [flatten_len (fun d hd => (hb2 d hd).1), hRl]
  have hfn : rawn.flatten.length = n * j.size := by rw [flatten_len (fun d hd => (hnok d hd).1), hnl]
  have hfit : els.length * j.size + rawn.flatten.length ≤ cur.size := by rw [hfn, hcs, ← Nat.add_mul]; exact Nat.mul_le_mul_right _ hroom
  have hok2 : ∀ c ∈ raw ++ rawn, CellsOK j.size c := fun c hc => (List.mem_append.1 hc).elim (hb2 c) (hnok c)
  have hn0 : ad ≠ none := fun e => by have := hadn e; omega
  obtain ⟨a1, ha1⟩ := Option.ne_none_iff_exists'.1 hn0
  rw [hRl] at htk
  have hr := run_append_room (P := C.P) w t ty t2 f ht hf (ρ.at_ (.o k)).1 els.length cap2 cur hw a1 n c rawn.flatten (by rw [hfn, hf1]) (hadc a1 ha1 w hH.mem.same) (flatten_one hnok) hroom (by rw [hf1]; exact hfit)
  rw [hf1] at hr
  refine ⟨_, _, by rw [hu, hv, ha1, had0, hloc]; exact hr, ?_⟩
  have hblk : BlkOK ρ (ρ.at_ (.o k)) (.row t2 j.size cap2 (els ++ news)) (w.setRow (ρ.at_ (.o k)).1 (cur.toList.take (els.length * j.size) ++ rawn.flatten ++ cur.toList.drop (els.length * j.size + rawn.flatten.length)).toArray) := by
    refine ⟨raw ++ rawn, hR.append hRn, by simp [hnl]; omega, hok2, fun _ => ⟨h0, hcm, _, setRow_heap w _ _ _ _ _ hw, ?_, ?_⟩⟩
    · rw [← hcs]
      simp only [List.size_toArray, List.length_append, List.length_take, List.length_drop, Array.length_toList]
      omega
    · rw [htk, ← List.flatten_append]
      exact List.take_left' (by rw [flatten_len (fun d hd => (hok2 d hd).1)])
  have hset := hH.set (a := .o k) (w' := w.setRow (ρ.at_ (.o k)).1 _) (by simp) hl (.inl hc0) (fun _ => hc0) (fun _ => hc0) hblk rfl rfl rfl (by simp) (fun n hn => setRow_other w _ n _ hn)
  refine putM_sound h4 ha (Agree.refl ρ) hset ?_ (fun e => by cases e)
  unfold Rel
  exact ⟨_, rfl, hroom, .inr ⟨congrArg some hloc.symm, trivial⟩⟩
theorem op_appI {C : Seat} (hC : C.ok) {st : St} {dst : Option Nat} {args : Array Operand} {ts : Array Nat} {ty : Nat} {pos : _} {after : _} {guard : _} {x y : Operand} {K : St → Prop} (hargs : args.toList = [x, y]) (h : appIK C.T st dst ts (st.ev x) (st.ev y) K) :
    OpSem C.P false st ⟨dst, .call { callee := .builtin .append, args, argTypes := ts }, ty, pos, after, guard⟩ K := by
  refine ⟨fun E ρ a w Q hE ha hH => ?_⟩
  have ha' : args.map a.eval = #[a.eval x, a.eval y] := Array.ext' (by simp [hargs])
  obtain ⟨r, w', hrun, hpost⟩ := appIK_sound hC ha hH (ty := ty) (ha.ev hH.mem.glob x) (ha.ev hH.mem.glob y) h
  unfold Oper.wp
  have : (execOp a.eval ⟨dst, .call { callee := .builtin .append, args, argTypes := ts }, ty, pos, after, guard⟩).run C.P w = .ok (.value r) w' := by
    simp only [execOp, resolve, Sem.run_bind, Sem.run_pure, Result.andThen_ok, invoke, builtin, ha', hrun]
  rw [this]
  exact hpost
/-- What a row of the call's own becomes, of which some elements in a row are written, also behind what is known of it. -/
theorem row_splice2 {ρ : Plc} {b : Nat × Nat} {t sz cap : Nat} {els news : List (List CV)} {rawn : List (List Value)} {w : World} (hb : BlkOK ρ b (.row t sz cap els) w) (hc0 : cap ≠ 0) (hRn : RelR ρ.z sz news rawn) {e : Nat} (he : e ≤ els.length) (hec : e + news.length ≤ cap) :
    ∃ cur : Array Value, b.2 = 0 ∧ w.heap[b.1]? = some (.cells cur t (0, 0)) ∧ cur.size = cap * sz ∧ e * sz + rawn.flatten.length ≤ cur.size ∧
      BlkOK ρ b (.row t sz cap (els.take e ++ news ++ els.drop (e + news.length))) (w.setRow b.1 (cur.toList.take (e * sz) ++ rawn.flatten ++ cur.toList.drop (e * sz + rawn.flatten.length)).toArray) := by
  by_cases hle : e + news.length ≤ els.length
  · exact row_splice hb hc0 hRn hle
  obtain ⟨raw, hR, hb1, hb2, hb3⟩ := hb
  have hn := hRn.cells
  have hRl := hR.1
  have hRnl := hRn.1
  obtain ⟨h00, hcm, cur, hw, hcs, htk⟩ := hb3 hc0
  have hfn : rawn.flatten.length = rawn.length * sz := flatten_len (fun d hd => (hn d hd).1)
  have hfit : e * sz + rawn.flatten.length ≤ cur.size := by rw [hfn, ← Nat.add_mul, hcs]; exact Nat.mul_le_mul_right _ (by omega)
  have hdr : els.drop (e + news.length) = [] := List.drop_eq_nil_of_le (by omega)
  rw [hdr, List.append_nil]
  have hok2 : ∀ c ∈ raw.take e ++ rawn, CellsOK sz c := fun c hc => (List.mem_append.1 hc).elim (fun hc => hb2 c (List.mem_of_mem_take hc)) (hn c)
  have hlen2 : (raw.take e ++ rawn).length = e + rawn.length := by
    rw [List.length_append, List.length_take]
    omega
  refine ⟨cur, h00, hw, hcs, hfit, raw.take e ++ rawn, (hR.take _).append hRn, by rw [hlen2]; omega, hok2, fun _ => ⟨h00, hcm, _, setRow_heap w _ _ _ _ _ hw, ?_, ?_⟩⟩
  · rw [← hcs]
    simp only [List.size_toArray, List.length_append, List.length_take, List.length_drop, Array.length_toList]
    omega
  · have h1 : cur.toList.take (e * sz) = (raw.take e).flatten := by
      rw [← (flat_take (fun d hd => (hb2 d hd).1) e (by omega)).1, ← htk, List.take_take, Nat.min_eq_left (Nat.mul_le_mul_right _ (by omega))]
    rw [h1, hlen2, ← List.flatten_append]
    exact List.take_left' (by rw [flatten_len (fun d hd => (hok2 d hd).1), hlen2])
/-- copy, onto any row of the call's own, also behind what is known of it. -/
def copyXK (T : List (Nat × TI)) (st : St) (dst : Option Nat) (ts : Array Nat) (x y : SV) (K : St → Prop) : Prop :=
  match ts.toList with
  | [t, _] => match assoc T t with
    | some i => match i.d with
      | .slice el => match assoc T el with
        | some j => match x, y with
          | .s a sz e len _, .s b sz' e2 n2 cap' => match a, st.mem.look a, Nat.beq sz j.size with
            | .g _, _, _ => False
            | a, some (.row t2 sz2 cap2 els), true => readEls st.mem (.s b sz' e2 (min n2 len) cap') j.size (fun news c => (sz2 = sz ∧ e ≤ els.length ∧ e + c ≤ cap2) ∧
                putM st dst (.v (.int .i64 (c : Nat))) (st.mem.set a (.row t2 sz2 cap2 (els.take e ++ news ++ els.drop (e + c)))) K) False
            | _, _, _ => False
          | _, _ => False
        | none => False
      | _ => False
    | none => False
  | _ => False
theorem copyXK_sound {C : Seat} (hC : C.ok) {E : Env} {ρ : Plc} {st : St} {a : Act} {w : World} (ha : ActOK ρ st a) (hH : Holds E ρ st.mem w) {dst : Option Nat} {ts : Array Nat} {ty : Nat} {x y : SV} {u v : Value} (hx : Rel ρ x u) (hy : Rel ρ y v)
    {K : St → Prop} (h : copyXK C.T st dst ts x y K) :
    ∃ r w', (Builtin.copy_ ts ty #[u, v]).run C.P w = .ok r w' ∧ OpPost E ρ st.mem w false st.nt K (a.put dst r) w' := by
  unfold copyXK at h
  split at h
  rotate_left
  · exact h.elim
  rename_i t t' hts
  have hts : ts = #[t, t'] := by rw [← Array.toArray_toList (xs := ts), hts]
  subst hts
  split at h
  rotate_left
  · exact h.elim
  rename_i i hi
  split at h
  rotate_left
  · exact h.elim
  rename_i el hd
  split at h
  rotate_left
  · exact h.elim
  rename_i j hj
  split at h
  rotate_left
  · exact h.elim
  rename_i a0 sz e len capx b sz' e2 n2 cap'
  split at h
  · exact h.elim
  rotate_left
  · exact h.elim
  rename_i a0 b2 _ _ t2 sz2 cap2 els hb hszb hl
  have hszb := Nat.eq_of_beq_eq_true hszb
  subst hszb
  have hg : ∀ x, a0 ≠ .g x := fun x e => hb x e
  obtain ⟨ad, hv, hnc, had⟩ : ∃ ad, v = .slice ad n2 cap' ∧ n2 ≤ cap' ∧ (cap' = 0 ∨ (ad = some (locA ρ b (e2 * sz')) ∧ ρ.has b)) := by
    unfold Rel at hy
    exact hy
  have hys : Rel ρ (.s b sz' e2 (min n2 len) cap') (.slice ad (min n2 len) cap') := by
    unfold Rel
    exact ⟨ad, rfl, by omega, had⟩
  rcases readEls_sound hH.mem.blks h hys with h' | ⟨news, rawn, n, ad', c, h3, hv', hRn, hnl, hnok, hadn, hadc⟩
  · exact h'.elim
  simp only [Value.slice.injEq] at hv'
  obtain ⟨rfl, hnn, rfl⟩ := hv'
  obtain ⟨⟨rfl, hle, hec⟩, h4⟩ := h3
  unfold Rel at hx
  obtain ⟨ad0, hu, hlc, hcap⟩ := hx
  have hRnl := hRn.1
  obtain ⟨f, hf, hf1, hf2, _⟩ := (hC.ty _ _ hj).info'
  have ht := slice_of hC.ty hi hd
  have hfn : rawn.flatten.length = n * j.size := by rw [flatten_len (fun d hd => (hnok d hd).1), hnl]
  by_cases h0 : n = 0
  · have he : news = [] := List.eq_nil_of_length_eq_zero (by omega)
    have hels : els.take e ++ news ++ els.drop (e + n) = els := by
      rw [he, h0]
      simp
    rw [hels] at h4
    have h0' : Nat.min n2 len = 0 := by show min n2 len = 0; omega
    have hrun : (Builtin.copy_ #[t, t'] ty #[u, v]).run C.P w = .ok (.int .i64 (n : Nat)) w := by
      have h1 : (Builtin.firstCells f.size 0 v).run C.P w = .ok #[] w := by
        rw [hv]
        cases ad <;> simp [Builtin.firstCells, loadCells, loadCellsFrom]
      rw [hu, hv] at *
      cases ad0 <;> simp [Builtin.copy_, run_underlying ht, Builtin.lenOf, sizeOf, typeInfo, hf, h0', h1, storeCells, goInt, h0]
    refine ⟨_, _, hrun, ?_⟩
    have hset := hH.set (B' := .row t2 j.size cap2 els) (w' := w) hg hl (.inr rfl) (fun h => h) (fun h => h) (hH.mem.blk _ _ hl) rfl rfl rfl rfl (fun _ _ => rfl)
    exact putM_sound h4 ha (Agree.refl ρ) hset (rel_v _) (fun e => by cases e)
  · have hc0 : cap2 ≠ 0 := by omega
    obtain ⟨cur, h00, hw, hcs, hfit, hblk⟩ := row_splice2 (hH.mem.blk _ _ hl) hc0 hRn hle (by omega)
    have hnews : news.length = n := by omega
    rw [hnews] at hblk
    obtain ⟨had0, hhas⟩ := hcap.resolve_left (by omega)
    have hn0 : ad ≠ none := fun e => by have := hadn e; omega
    obtain ⟨a1, ha1⟩ := Option.ne_none_iff_exists'.1 hn0
    have hload : (loadCells a1 (n * j.size)).run C.P w = .ok rawn.flatten.toArray w := by
      have := run_loadCells_list (P := C.P) w a1 rawn.flatten (fun k v hkv => hadc a1 ha1 w hH.mem.same k v hkv)
      rw [hfn] at this
      exact this
    have hst := run_storeCells_at C.P (ρ.at_ a0).1 (e * j.size) t2 rawn.flatten 0 cur w hw (by simpa using hfit) (flatten_one (fun d hd => hnok d hd))
    simp only [Nat.add_zero] at hst
    have hrun : (Builtin.copy_ #[t, t'] ty #[u, v]).run C.P w = .ok (.int .i64 (n : Nat)) (w.setRow (ρ.at_ a0).1 (cur.toList.take (e * j.size) ++ rawn.flatten ++ cur.toList.drop (e * j.size + rawn.flatten.length)).toArray) := by
      have hloc : locA ρ a0 (e * j.size) = ⟨(ρ.at_ a0).1, e * j.size, none⟩ := by unfold locA; rw [h00]; simp
      have hm : Nat.min n2 len = min n2 len := rfl
      rw [hu, hv, had0, ha1, hloc]
      simp [Builtin.copy_, run_underlying ht, Builtin.lenOf, sizeOf, typeInfo, hf, hf1, hm, Builtin.firstCells, hload, hst, goInt, hnn]
    refine ⟨_, _, hrun, ?_⟩
    have hset := hH.set (a := a0) (w' := w.setRow (ρ.at_ a0).1 _) hg hl (.inl hc0) (fun _ => hc0) (fun _ => hc0) hblk rfl rfl rfl (by simp) (fun n hn => setRow_other w _ n _ hn)
    exact putM_sound h4 ha (Agree.refl ρ) hset (rel_v _) (fun e => by cases e)
theorem op_copyX {C : Seat} (hC : C.ok) {st : St} {dst : Option Nat} {args : Array Operand} {ts : Array Nat} {ty : Nat} {pos : _} {after : _} {guard : _} {x y : Operand} {K : St → Prop} (hargs : args.toList = [x, y]) (h : copyXK C.T st dst ts (st.ev x) (st.ev y) K) :
    OpSem C.P false st ⟨dst, .call { callee := .builtin .copy, args, argTypes := ts }, ty, pos, after, guard⟩ K := by
  refine ⟨fun E ρ a w Q hE ha hH => ?_⟩
  have ha' : args.map a.eval = #[a.eval x, a.eval y] := Array.ext' (by simp [hargs])
  obtain ⟨r, w', hrun, hpost⟩ := copyXK_sound hC ha hH (ty := ty) (ha.ev hH.mem.glob x) (ha.ev hH.mem.glob y) h
  unfold Oper.wp
  have : (execOp a.eval ⟨dst, .call { callee := .builtin .copy, args, argTypes := ts }, ty, pos, after, guard⟩).run C.P w = .ok (.value r) w' := by
    simp only [execOp, resolve, Sem.run_bind, Sem.run_pure, Result.andThen_ok, invoke, builtin, ha', hrun]
  rw [this]
  exact hpost

/-- slices.overlaps, of two rows of the call's own. -/
theorem call_overlaps {C : Seat} (hC : C.ok) {keep : Bool} {m : Mem} {n f : Nat} {K : SV → Mem → Prop} {fn : Func} (hfn : C.P.funcs[f]? = some fn) (hname : (fn.name == "runtime.NumGoroutine") = false) (hbody : fn.body.isNone = true) (hnx : Extern.findNext fn = none) {tS tR e : Nat} {i j : TI} (hext : Extern.find fn = some (Extern.SlicesOverlaps.overlaps #[tS, tS] #[tR]))
    (hi : assoc C.T tS = some i) (hd : i.d = .slice e) (hj : assoc C.T e = some j) {a b : Nm} {sza ea la ca szb eb lb cb ta szA capA tb szB capB : Nat} {elsA elsB : List (List CV)}
    (hla : m.look a = some (.row ta szA capA elsA)) (hlb : m.look b = some (.row tb szB capB elsB)) (hab : a ≠ b) (hca : ca ≠ 0) (hcb : cb ≠ 0) (hcA : capA ≠ 0) (hcB : capB ≠ 0) (hsB : szB ≠ 0) (hea : ea = 0) (h : K (.v (.bool false)) m) :
    CallSem C.P keep m n f [.s a sza ea la ca, .s b szb eb lb cb] K := by
  refine ⟨fun E ρ w us hE hH hr => .inr ?_⟩
  obtain ⟨fi, hf, _⟩ := (hC.ty _ _ hj).info'
  unfold RelL RelL RelL at hr
  obtain ⟨u, r, rfl, hu, u2, r2, rfl, hu2, rfl⟩ := hr
  unfold Rel at hu hu2
  obtain ⟨ad, rfl, _, had⟩ := hu
  obtain ⟨ad2, rfl, _, had2⟩ := hu2
  obtain ⟨rfl, _⟩ := had.resolve_left hca
  obtain ⟨rfl, _⟩ := had2.resolve_left hcb
  obtain ⟨rawA, _, _, _, hA3⟩ := hH.mem.blk _ _ hla
  obtain ⟨rawB, _, _, _, hB3⟩ := hH.mem.blk _ _ hlb
  obtain ⟨a0, _, curA, hwA, hsA, _⟩ := hA3 hcA
  obtain ⟨b0, _, curB, hwB, hsB', _⟩ := hB3 hcB
  subst hea
  have hne := hH.mem.sep a b _ _ hla hlb hcA hcB hab
  have hrun := Lib.run_overlaps_apart (P := C.P) w tS tR e (slice_of hC.ty hi hd) fi.size (fun w => by simp [sizeOf, typeInfo, hf]) (locA ρ a (0 * sza)) (locA ρ b (eb * szb)) la ca lb cb hne ta tb curA.size curB.size (by simp [World.shape?, locA, hwA]) (by simp [World.shape?, locA, hwB])
    (by rw [hsB']; exact Nat.mul_ne_zero hcB hsB) (by simp [World.frozen?, locA, hwA, a0]) (by simp [World.frozen?, locA, hwA])
  refine ⟨.bool false, w, ?_, ρ, .v (.bool false), m, .bool false, rfl, Agree.refl ρ, hH, rel_v _, h, fun _ => Kept.refl w⟩
  rw [run_callFunc_extern hfn hname hbody hnx hext, hrun]
  rfl
end Go.Proofs.Ytkcdomafdjpbjaa
