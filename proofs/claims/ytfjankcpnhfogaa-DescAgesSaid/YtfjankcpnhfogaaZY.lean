/- Walks by computing: what is handed in as what stays. -/
import Derived.Test.YtfjankcpnhfogaaZX
import Derived.Lib.AppendZerosOnto
namespace Go.Proofs.Ytfjankcpnhfogaa
open Go.RowKit Go.Deep

/-- A value, told as what stays. -/
def FrzV (m : Mem) (x y : SV) (m' : Mem) : Prop := ∀ E ρ w u, Holds E ρ m w → Rel ρ x u → ∃ ρ', Agree ρ ρ' ∧ Holds E ρ' m' w ∧ Rel ρ' y u
theorem frz_s {m : Mem} {b t sz c e len cap : Nat} {els : List (List CV)} (hl : m.look (.n b) = some (.row t sz c els)) (hle : e + len ≤ els.length) : FrzV m (.s (.n b) sz e len cap) (.z sz ((els.drop e).take len) cap) (m.set (.n b) (.ro sz els)) := by
  intro E ρ w u hH hx
  obtain ⟨ad, rfl, hlc, hcap⟩ : ∃ ad, u = .slice ad len cap ∧ len ≤ cap ∧ (cap = 0 ∨ (ad = some (locA ρ (.n b) (e * sz)) ∧ ρ.has (.n b))) := by
    unfold Rel at hx
    exact hx
  have hlen : ((els.drop e).take len).length = len := by simp; omega
  rcases frzK_sound (K := fun m' c => m' = m.set (.n b) (.ro sz els) ∧ c = .z sz ((els.drop e).take len)) (other := False) hH hx (by
    unfold frzK
    dsimp only
    rw [hl]
    exact ⟨⟨rfl, hle⟩, rfl, rfl⟩) with h | ⟨ρ', m', c', hk, hH', hc, rfl, rfl⟩
  · exact h.elim
  · refine ⟨ρ', hk, hH', ?_⟩
    unfold RelC at hc
    obtain ⟨ad', cap', e1, h2, h3⟩ := hc
    rw [hlen] at e1
    cases e1
    unfold Rel
    exact ⟨ad, by rw [hlen], h2, h3⟩
theorem frz_agg {m m' : Mem} {l : List SV} {j : Nat} {x y : SV} (hj : l[j]? = some x) (h : FrzV m x y m') : FrzV m (.agg l) (.agg (l.set j y)) m' := by
  intro E ρ w u hH hx
  unfold Rel at hx
  obtain ⟨us, rfl, hus⟩ := hx
  obtain ⟨v, hv, hxv⟩ := hus.get hj
  obtain ⟨ρ', hk, hH', hy⟩ := h E ρ w v hH hxv
  refine ⟨ρ', hk, hH', ?_⟩
  unfold Rel
  refine ⟨us, rfl, ?_⟩
  have := (hus.agree hk).set j (x := y) (u := v) hy
  have hset : us.set j v = us := by
    apply List.ext_getElem?
    intro k
    rw [List.getElem?_set]
    split
    · rename_i e; subst e; rw [hv]; simp [getElem?_lt hv]
    · rfl
  rwa [hset] at this
/-- A call that is handed a value of the caller's own, which stays from here on. -/
theorem call_frz {P : Program} {keep : Bool} {m m' : Mem} {n : Nat} {f : Nat} {args : List SV} {K : SV → Mem → Prop} (i : Nat) {x y : SV} (hi : args[i]? = some x) (hf : FrzV m x y m') (h : CallSem P keep m' n f (args.set i y) K) : CallSem P keep m n f args K := by
  refine ⟨h.ent, fun E ρ w us hE hH hr => ?_⟩
  obtain ⟨u, hu, hx⟩ := hr.get hi
  obtain ⟨ρ1, hk, hH', hy⟩ := hf E ρ w u hH hx
  have hargs : RelL ρ1 (args.set i y) us := by
    have := (hr.agree hk).set i (x := y) (u := u) hy
    have hset : us.set i u = us := by
      apply List.ext_getElem?
      intro j
      rw [List.getElem?_set]
      split
      · rename_i e; subst e; rw [hu]; simp [getElem?_lt hu]
      · rfl
    rwa [hset] at this
  refine (h.out E ρ1 w us hE hH' hargs).mono ?_
  rintro e w' ⟨ρ', r, m', u, h1, h2, h3, h4, h5, h6⟩
  exact ⟨ρ', r, m', u, h1, hk.trans h2, h3, h4, h5, h6⟩
/-- A row of the caller's own is written no more. -/
theorem call_toRo {P : Program} {keep : Bool} {m : Mem} {n : Nat} {f : Nat} {args : List SV} {K : SV → Mem → Prop} (b : Nat) {t sz cap : Nat} {els : List (List CV)} (hl : m.look (.n b) = some (.row t sz cap els)) (h : CallSem P keep (m.set (.n b) (.ro sz els)) n f args K) : CallSem P keep m n f args K :=
  ⟨h.ent, fun E ρ w us hE hH hr => h.out E ρ w us hE (hH.toRo hl) hr⟩

/-- append, where the row has no room for more: a new row. -/
def appNK (T : List (Nat × TI)) (st : St) (dst : Option Nat) (ts : Array Nat) (x y : SV) (K : St → Prop) : Prop :=
  match ts.toList with
  | [t, t'] => match Nat.beq t t', assoc T t with
    | true, some i => match i.d with
      | .slice el => match assoc T el with
        | some j => match Nat.beq j.size 0, Nat.beq j.bytes 0, Nat.beq j.zero.length j.size, x with
          | false, false, true, .s a sz e len cap => readEls st.mem (.s a sz e len cap) j.size (fun olds _ => readEls st.mem y j.size (fun news n => (cap < len + n ∧ (len + n) * j.bytes ≤ 140737488355328) ∧
              ∀ cap', len + n ≤ cap' → putM st dst (.s (.n st.mem.ext.length) j.size 0 (len + n) cap') (st.mem.push (.row el j.size cap' (olds ++ news))) K) False) False
          | _, _, _, _ => False
        | none => False
      | _ => False
    | _, _ => False
  | _ => False
theorem appNK_sound {C : Seat} (hC : C.ok) {E : Env} {ρ : Plc} {st : St} {a : Act} {w : World} (ha : ActOK ρ st a) (hH : Holds E ρ st.mem w) {dst : Option Nat} {ts : Array Nat} {ty : Nat} {x y : SV} {u v : Value} (hx : Rel ρ x u) (hy : Rel ρ y v)
    {K : St → Prop} (h : appNK C.T st dst ts x y K) :
    ∃ r w', (Builtin.append_ ts ty #[u, v]).run C.P w = .ok r w' ∧ OpPost E ρ st.mem w false st.nt K (a.put dst r) w' := by
  unfold appNK at h
  split at h
  rotate_left
  · exact h.elim
  rename_i t t' hts
  have hts : ts = #[t, t'] := by rw [← Array.toArray_toList (xs := ts), hts]
  subst hts
  split at h
  rotate_left
  · exact h.elim
  rename_i i htt hi
  have htt := Nat.eq_of_beq_eq_true htt
  subst htt
  split at h
  rotate_left
  · exact h.elim
  rename_i el hd
  split at h
  rotate_left
  · exact h.elim
  rename_i j hj
  split at h
  rotate_left
  · exact h.elim
  rename_i a0 sz e len cap hsz hby hzl
  have hsz : 0 < j.size := Nat.pos_of_ne_zero (fun e => by rw [e] at hsz; cases hsz)
  have hby : 0 < j.bytes := Nat.pos_of_ne_zero (fun e => by rw [e] at hby; cases hby)
  have hzl := Nat.eq_of_beq_eq_true hzl
  have ht := slice_of hC.ty hi hd
  obtain ⟨f, hf, hf1, hf2, z, hz, hzc⟩ := (hC.ty _ _ hj).info'
  have hzs : z.cells.size = f.size := by rw [← Array.length_toList, hzc, hzl, hf1]
  rcases readEls_sound hH.mem.blks h hx with h | ⟨olds, raw, len', b, cap', h, hu, hR, hel, hok, hbn, hbc⟩
  · exact h.elim
  obtain ⟨ad0, hu2, hlc, _⟩ : ∃ ad, u = .slice ad len cap ∧ len ≤ cap ∧ (cap = 0 ∨ (ad = some (locA ρ a0 (e * sz)) ∧ ρ.has a0)) := by
    unfold Rel at hx
    exact hx
  have hu3 := hu2.symm.trans hu
  simp only [Value.slice.injEq] at hu3
  obtain ⟨rfl, rfl, rfl⟩ := hu3
  rcases readEls_sound hH.mem.blks h hy with h | ⟨news, rawn, n, ad, c, h, hv, hRn, hnl, hnok, hadn, hadc⟩
  · exact h.elim
  obtain ⟨⟨hgt, hbytes⟩, hK⟩ := h
  have hn0 : ad ≠ none := fun e => by have := hadn e; omega
  obtain ⟨a1, ha1⟩ := Option.ne_none_iff_exists'.1 hn0
  have hfl : raw.flatten.length = len * f.size := by rw [flatten_len (fun d hd => (hok d hd).1), hel, hf1]
  have hfn : rawn.flatten.length = n * f.size := by rw [flatten_len (fun d hd => (hnok d hd).1), hnl, hf1]
  have hln : len + n ≤ 140737488355328 := Nat.le_trans (Nat.le_mul_of_pos_right _ hby) hbytes
  have hbytes' : (len + n) * f.bytes ≤ 140737488355328 := by rw [hf2]; exact hbytes
  have hge := grownCap_ge w (len + n) cap el
  have hcm : grownCap w (len + n) cap el ≤ maxLen := grownCap_le_maxLen w (len + n) cap el (by simp only [maxLen]; omega)
  have hb0 : ad0 = none → len = 0 := fun e => by have := hbn e; omega
  have hrun : (Builtin.append_ #[t, t] ty #[u, v]).run C.P w = .ok (.slice (some ⟨w.heap.size, 0, none⟩) (len + n) (grownCap w (len + n) cap el))
      (w.drew.alloc (.cells (raw.flatten.toArray ++ rawn.flatten.toArray ++ Builtin.zeroCells z.cells (grownCap w (len + n) cap el - (len + n))) el)) := by
    rw [hu2, hv, ha1]
    have hsrc := run_append_grow_src (P := C.P) w t t ty el f z ht hf hz ad0 len cap raw.flatten (by
      cases ad0 with
      | none =>
        have hl0 := hb0 rfl
        subst hl0
        have he : raw = [] := List.eq_nil_of_length_eq_zero hel
        subst he
        exact run_firstCells_none (P := C.P) w.drew f.size 0 0 cap
      | some b0 => exact run_firstCells_some (P := C.P) w.drew f.size len b0 len cap raw.flatten hfl (fun k v hkv => by simpa using hbc b0 rfl w hH.mem.same k v hkv)) (.slice (some a1) n c) n rawn.flatten (Src.ofSlice w ht a1 n c rawn.flatten hfn (fun k v hkv => hadc a1 ha1 w hH.mem.same k v hkv) (flatten_one hnok)) hgt (by omega) (growslice_fits (by omega) hbytes')
    rw [hsrc]
    simp
  refine ⟨_, _, hrun, ?_⟩
  have hk := ρ.push_agree (w.heap.size, 0)
  have hgr := Grew.drewAlloc w (.cells (raw.flatten.toArray ++ rawn.flatten.toArray ++ Builtin.zeroCells z.cells (grownCap w (len + n) cap el - (len + n))) el)
  have hok2 : ∀ c ∈ raw ++ rawn, CellsOK j.size c := fun c hc => (List.mem_append.1 hc).elim (hok c) (hnok c)
  have hF : (raw ++ rawn).flatten.length = (len + n) * j.size := by rw [flatten_len (fun d hd => (hok2 d hd).1), List.length_append, hel, hnl]
  have hblk : BlkOK (ρ.push (w.heap.size, 0)) (w.heap.size, 0) (.row el j.size (grownCap w (len + n) cap el) (olds ++ news)) (w.drew.alloc (.cells (raw.flatten.toArray ++ rawn.flatten.toArray ++ Builtin.zeroCells z.cells (grownCap w (len + n) cap el - (len + n))) el)) := by
    refine ⟨raw ++ rawn, hR.append hRn, by simp [hel, hnl]; omega, hok2, fun _ => ⟨rfl, hcm, _, hgr.new, ?_, ?_⟩⟩
    · simp only [Array.size_append, List.size_toArray, size_zeroCells, hzs, hfl, hfn, hf1, ← Nat.add_mul]
      congr 1
      omega
    · rw [show (raw ++ rawn).length * j.size = (raw.flatten ++ rawn.flatten).length by rw [← List.flatten_append, hF, List.length_append, hel, hnl]]
      simp only [Array.toList_append, List.flatten_append]
      exact List.take_left
  refine putM_sound (hK _ hge) ha hk (hH.push hgr hblk) ?_ (fun e => by cases e)
  unfold Rel
  refine ⟨_, rfl, hge, .inr ⟨?_, ?_⟩⟩
  · unfold locA
    rw [← hH.mem.nx, ρ.push_new]
    simp
  · show st.mem.ext.length < ρ.nx + 1
    rw [hH.mem.nx]; omega
theorem op_appN {C : Seat} (hC : C.ok) {st : St} {dst : Option Nat} {args : Array Operand} {ts : Array Nat} {ty : Nat} {pos : _} {after : _} {guard : _} {x y : Operand} {K : St → Prop} (hargs : args.toList = [x, y]) (h : appNK C.T st dst ts (st.ev x) (st.ev y) K) :
    OpSem C.P false st ⟨dst, .call { callee := .builtin .append, args, argTypes := ts }, ty, pos, after, guard⟩ K := by
  refine ⟨fun E ρ a w Q hE ha hH => ?_⟩
  have ha' : args.map a.eval = #[a.eval x, a.eval y] := Array.ext' (by simp [hargs])
  obtain ⟨r, w', hrun, hpost⟩ := appNK_sound hC ha hH (ty := ty) (ha.ev hH.mem.glob x) (ha.ev hH.mem.glob y) h
  unfold Oper.wp
  have : (execOp a.eval ⟨dst, .call { callee := .builtin .append, args, argTypes := ts }, ty, pos, after, guard⟩).run C.P w = .ok (.value r) w' := by
    simp only [execOp, resolve, Sem.run_bind, Sem.run_pure, Result.andThen_ok, invoke, builtin, ha', hrun]
  rw [this]
  exact hpost
end Go.Proofs.Ytfjankcpnhfogaa
