/- Walks by computing: append onto a row of the call's own that was cut at its front. -/
import Derived.Test.YtkcdomafdjpbjaaZY
import Derived.Test.YtkcdomafdjpbjaaZG
namespace Go.Proofs.Ytkcdomafdjpbjaa
open Go.RowKit Go.Deep

/-- append, onto a row of the call's own of which the first e elements are behind: in place or not, the row is told anew. -/
def appEK (e : Nat) (T : List (Nat × TI)) (st : St) (dst : Option Nat) (ts : Array Nat) (x y : SV) (K : St → Prop) : Prop :=
  match ts.toList with
  | [t, t'] => match Nat.beq t t', assoc T t with
    | true, some i => match i.d with
      | .slice el => match assoc T el with
        | some j => match Nat.beq j.size 0, Nat.beq j.bytes 0, Nat.beq j.zero.length j.size, x with
          | false, false, true, .s (.n b) szf e0 len cap => match st.mem.look (.n b) with
            | some (.row t2 sz2 cap2 els) => readEls st.mem y j.size (fun news n => (t2 = el ∧ sz2 = j.size ∧ e0 * szf = e * j.size ∧ els.length = e + len ∧ cap2 = e + cap ∧ 0 < n ∧ (len + n) * j.bytes ≤ 140737488355328) ∧
                ∀ e' cap' els', els'.length = e' + (len + n) → els'.drop e' = els.drop e ++ news → len + n ≤ cap' →
                  putM st dst (.s (.n st.mem.ext.length) j.size e' (len + n) cap') ((st.mem.set (.n b) .dead).push (.row el j.size (e' + cap') els')) K) False
            | _ => False
          | _, _, _, _ => False
        | none => False
      | _ => False
    | _, _ => False
  | _ => False
theorem appEK_sound (e : Nat) {C : Seat} (hC : C.ok) {E : Env} {ρ : Plc} {st : St} {a : Act} {w : World} (ha : ActOK ρ st a) (hH : Holds E ρ st.mem w) {dst : Option Nat} {ts : Array Nat} {ty : Nat} {x y : SV} {u v : Value} (hx : Rel ρ x u) (hy : Rel ρ y v)
    {K : St → Prop} (h : appEK e C.T st dst ts x y K) :
    ∃ r w', (Builtin.append_ ts ty #[u, v]).run C.P w = .ok r w' ∧ OpPost E ρ st.mem w false st.nt K (a.put dst r) w' := by
  unfold appEK at h
  split at h
  rotate_left
  · exact h.elim
  rename_i t t' hts
  have hts : ts = #[t, t'] := by rw [← Array.toArray_toList (xs := ts), hts]
  subst hts
  split at h
  rotate_left
  · exact h.elim
  rename_i i htt hi
  have htt := Nat.eq_of_beq_eq_true htt
  subst htt
  split at h
  rotate_left
  · exact h.elim
  rename_i el hd
  split at h
  rotate_left
  · exact h.elim
  rename_i j hj
  split at h
  rotate_left
  · exact h.elim
  rename_i b szf e0 len cap hsz hby hzl
  have hsz : 0 < j.size := Nat.pos_of_ne_zero (fun e => by rw [e] at hsz; cases hsz)
  have hby : 0 < j.bytes := Nat.pos_of_ne_zero (fun e => by rw [e] at hby; cases hby)
  have hzl := Nat.eq_of_beq_eq_true hzl
  split at h
  rotate_left
  · exact h.elim
  rename_i t2 sz2 cap2 els hl
  have ht := slice_of hC.ty hi hd
  obtain ⟨f, hf, hf1, hf2, z, hz, hzc⟩ := (hC.ty _ _ hj).info'
  have hzs : z.cells.size = f.size := by rw [← Array.length_toList, hzc, hzl, hf1]
  rcases readEls_sound hH.mem.blks h hy with h | ⟨news, rawn, n, ad, c, h, hv, hRn, hnl, hnok, hadn, hadc⟩
  · exact h.elim
  obtain ⟨⟨rfl, rfl, hee, hlen, rfl, hn, hbytes⟩, hK⟩ := h
  have hRnl := hRn.1
  have hn0 : ad ≠ none := fun e => by have := hadn e; omega
  obtain ⟨a1, ha1⟩ := Option.ne_none_iff_exists'.1 hn0
  have hfn : rawn.flatten.length = n * j.size := by rw [flatten_len (fun d hd => (hnok d hd).1), hnl]
  have hlen2 : (st.mem.set (.n b) .dead).ext.length = st.mem.ext.length := by simp [Mem.set]
  obtain ⟨ad0, hu, hlc, hcap⟩ : ∃ ad, u = .slice ad len cap ∧ len ≤ cap ∧ (cap = 0 ∨ (ad = some (locA ρ (.n b) (e * j.size)) ∧ ρ.has (.n b))) := by
    unfold Rel at hx
    rw [hee] at hx
    exact hx
  by_cases hroom : len + n ≤ cap
  · have hc0 : e + cap ≠ 0 := by omega
    obtain ⟨had0, hhas⟩ := hcap.resolve_left (by omega)
    obtain ⟨cur, h00, hw, hcs, hfit, hblk⟩ := row_splice2 (hH.mem.blk _ _ hl) hc0 hRn (Nat.le_refl els.length) (by omega)
    have hels : els.take els.length ++ news ++ els.drop (els.length + news.length) = els ++ news := by
      rw [List.take_length, List.drop_eq_nil_of_le (by omega), List.append_nil]
    rw [hels] at hblk
    have hoff : e * j.size + len * j.size = els.length * j.size := by rw [hlen, Nat.add_mul]
    have hst := run_storeCells_at C.P (ρ.at_ (.n b)).1 (els.length * j.size) t2 rawn.flatten 0 cur w hw (by simpa using hfit) (flatten_one (fun d hd => hnok d hd))
    simp only [Nat.add_zero] at hst
    have hfc := run_firstCells_some (P := C.P) w f.size n a1 n c rawn.flatten (by rw [hfn, hf1]) (hadc a1 ha1 w hH.mem.same)
    rw [hf1] at hfc
    have hrun : (Builtin.append_ #[t, t] ty #[u, v]).run C.P w = .ok (.slice ad0 (len + n) cap) (w.setRow (ρ.at_ (.n b)).1 (cur.toList.take (els.length * j.size) ++ rawn.flatten ++ cur.toList.drop (els.length * j.size + rawn.flatten.length)).toArray) := by
      have hloc : locA ρ (.n b) (e * j.size) = ⟨(ρ.at_ (.n b)).1, e * j.size, none⟩ := by unfold locA; rw [h00]; simp
      rw [hu, hv, had0, ha1, hloc]
      simp [Builtin.append_, run_underlying ht, sizeOf, typeInfo, hf, hf1, Builtin.lenOf, hroom, hfc, Addr.add_lit, hoff, hst]
    refine ⟨_, _, hrun, ?_⟩
    have hset := hH.set (B' := .row t2 j.size (e + cap) (els ++ news)) (w' := w.setRow (ρ.at_ (.n b)).1 _) (by simp) hl (.inl hc0) (fun _ => hc0) (fun _ => hc0) hblk rfl rfl rfl (by simp) (fun n hn => setRow_other w _ n _ hn)
    have hlk : (st.mem.set (.n b) (.row t2 j.size (e + cap) (els ++ news))).look (.n b) = some (.row t2 j.size (e + cap) (els ++ news)) := by
      have : b < st.mem.ext.length := getElem?_lt (show st.mem.ext[b]? = _ from hl)
      show (st.mem.ext.set b _)[b]? = _
      simp [this]
    have hren := hset.rename hlk
    have hmm : (st.mem.set (.n b) (.row t2 j.size (e + cap) (els ++ news))).set (.n b) .dead = st.mem.set (.n b) .dead := by simp [Mem.set]
    rw [hmm] at hren
    refine putM_sound (hK e cap (els ++ news) (by rw [List.length_append]; omega) (List.drop_append_of_le_length (by omega)) hroom) ha (ρ.push_agree _) hren ?_ (fun e => by cases e)
    unfold Rel
    refine ⟨_, rfl, hroom, .inr ⟨?_, ?_⟩⟩
    · rw [had0]
      unfold locA
      rw [← hlen2, ← (hH.kill (a := .n b) (by simp) hl).mem.nx, ρ.push_new]
    · show st.mem.ext.length < ρ.nx + 1
      rw [hH.mem.nx]; omega
  · obtain ⟨raw, hR, hb1, hb2, hb3⟩ := hH.mem.blk _ _ hl
    have hRl := hR.1
    have hR2 := hR.drop e
    have hok : ∀ c ∈ raw.drop e, CellsOK j.size c := fun c hc => hb2 c (List.mem_of_mem_drop hc)
    have hrl : (raw.drop e).length = len := by rw [List.length_drop]; omega
    have hfl : (raw.drop e).flatten.length = len * f.size := by rw [flatten_len (fun d hd => (hok d hd).1), hrl, hf1]
    have hfn' : rawn.flatten.length = n * f.size := by rw [hfn, hf1]
    have hln : len + n ≤ 140737488355328 := Nat.le_trans (Nat.le_mul_of_pos_right _ hby) hbytes
    have hbytes' : (len + n) * f.bytes ≤ 140737488355328 := by rw [hf2]; exact hbytes
    have hge := grownCap_ge w (len + n) cap t2
    have hcm : grownCap w (len + n) cap t2 ≤ maxLen := grownCap_le_maxLen w (len + n) cap t2 (by simp only [maxLen]; omega)
    have hrun : (Builtin.append_ #[t, t] ty #[u, v]).run C.P w = .ok (.slice (some ⟨w.heap.size, 0, none⟩) (len + n) (grownCap w (len + n) cap t2))
        (w.drew.alloc (.cells ((raw.drop e).flatten.toArray ++ rawn.flatten.toArray ++ Builtin.zeroCells z.cells (grownCap w (len + n) cap t2 - (len + n))) t2)) := by
      rw [hu, hv, ha1]
      have hsrc := run_append_grow_src (P := C.P) w t t ty t2 f z ht hf hz ad0 len cap (raw.drop e).flatten (by
        cases had : ad0 with
        | none =>
          have hl0 : cap = 0 := hcap.resolve_right (fun h => by rw [had] at h; cases h.1)
          have hl0 : len = 0 := by omega
          have he : raw.drop e = [] := List.eq_nil_of_length_eq_zero (by omega)
          rw [he, hl0]
          exact run_firstCells_none (P := C.P) w.drew f.size 0 0 cap
        | some b0 =>
          refine run_firstCells_some (P := C.P) w.drew f.size len b0 len cap (raw.drop e).flatten hfl (fun k v hkv => ?_)
          by_cases hc0 : cap = 0
          · have he : raw.drop e = [] := List.eq_nil_of_length_eq_zero (by omega)
            rw [he] at hkv
            simp at hkv
          · obtain ⟨h0, _, cur, hw, hcs, htk⟩ := hb3 (by omega)
            obtain ⟨had0, _⟩ := hcap.resolve_left hc0
            rw [had] at had0
            cases had0
            have hsp : raw.flatten = (raw.take e).flatten ++ (raw.drop e).flatten := by rw [← List.flatten_append, List.take_append_drop]
            have hte : (raw.take e).flatten.length = e * j.size := by rw [flatten_len (fun d hd => (hb2 d (List.mem_of_mem_take hd)).1), List.length_take, Nat.min_eq_left (by omega)]
            have hk2 : raw.flatten[e * j.size + k]? = some v := by
              rw [hsp, List.getElem?_append_right (by omega), hte, Nat.add_sub_cancel_left]
              exact hkv
            rw [loc_add]
            unfold locA
            rw [h0, Nat.zero_add]
            have hcell : w.cell? ⟨(ρ.at_ (.n b)).1, e * j.size + k, none⟩ = some v := by
              rw [cell_of_row w _ _ _ _ _ hw]
              rw [← htk, List.getElem?_take] at hk2
              split at hk2
              · simpa using hk2
              · cases hk2
            simpa using hcell) (.slice (some a1) n c) n rawn.flatten (Src.ofSlice w ht a1 n c rawn.flatten hfn' (fun k v hkv => hadc a1 ha1 w hH.mem.same k v hkv) (flatten_one hnok)) (by omega) (by omega) (growslice_fits (by omega) hbytes')
      rw [hsrc]
      simp
    refine ⟨_, _, hrun, ?_⟩
    have hH2 := hH.kill (a := .n b) (by simp) hl
    have hk := ρ.push_agree (w.heap.size, 0)
    have hgr := Grew.drewAlloc w (.cells ((raw.drop e).flatten.toArray ++ rawn.flatten.toArray ++ Builtin.zeroCells z.cells (grownCap w (len + n) cap t2 - (len + n))) t2)
    have hok2 : ∀ c ∈ raw.drop e ++ rawn, CellsOK j.size c := fun c hc => (List.mem_append.1 hc).elim (hok c) (hnok c)
    have hF : (raw.drop e ++ rawn).flatten.length = (len + n) * j.size := by rw [flatten_len (fun d hd => (hok2 d hd).1), List.length_append, hrl, hnl]
    have hblk : BlkOK (ρ.push (w.heap.size, 0)) (w.heap.size, 0) (.row t2 j.size (0 + grownCap w (len + n) cap t2) (els.drop e ++ news)) (w.drew.alloc (.cells ((raw.drop e).flatten.toArray ++ rawn.flatten.toArray ++ Builtin.zeroCells z.cells (grownCap w (len + n) cap t2 - (len + n))) t2)) := by
      rw [Nat.zero_add]
      refine ⟨raw.drop e ++ rawn, hR2.append hRn, by rw [List.length_append, hrl, hnl]; exact hge, hok2, fun _ => ⟨rfl, hcm, _, hgr.new, ?_, ?_⟩⟩
      · simp only [Array.size_append, List.size_toArray, size_zeroCells, hzs, hfl, hfn', hf1, ← Nat.add_mul]
        congr 1
        omega
      · rw [show (raw.drop e ++ rawn).length * j.size = ((raw.drop e).flatten ++ rawn.flatten).length by rw [← List.flatten_append, hF, List.length_append, hrl, hnl]]
        simp only [Array.toList_append, List.flatten_append]
        exact List.take_left
    refine putM_sound (hK 0 _ (els.drop e ++ news) (by rw [List.length_append, List.length_drop]; omega) rfl hge) ha hk (hH2.push hgr hblk) ?_ (fun e => by cases e)
    unfold Rel
    refine ⟨_, rfl, hge, .inr ⟨?_, ?_⟩⟩
    · unfold locA
      rw [← hH.mem.nx, ρ.push_new]
      simp
    · show st.mem.ext.length < ρ.nx + 1
      rw [hH.mem.nx]; omega
theorem weak_off (b : Nm) (e sz len cap : Nat) : Weak (.s b sz e len cap) (.s b 1 (e * sz) len cap) := fun ρ u h => by
  unfold Rel at h ⊢
  rw [Nat.mul_one]
  exact h
/-- A slice of elements that is told as one of cells: so that the computing stops at an append onto it. -/
theorem ok_off {P : Program} {c : Code} {s : St} {K : Exit → St → Prop} (q t : Nat) {b2 b e sz len cap : Nat} (_ : s.get q = .p (.n b2) 0 0 0) (h8 : s.get t = .s (.n b) sz e len cap)
    (k : OKs P c { slots := (t, .s (.n b) 1 (e * sz) len cap) :: s.slots, nt := s.nt, mem := s.mem } K) : OKs P c s K := ok_pass (pass_slot t h8 (FrzV.weak (weak_off _ _ _ _ _))) k
theorem op_appE (e : Nat) {C : Seat} (hC : C.ok) {st : St} {dst : Option Nat} {args : Array Operand} {ts : Array Nat} {ty : Nat} {pos : _} {after : _} {guard : _} {x y : Operand} {K : St → Prop} (hargs : args.toList = [x, y]) (h : appEK e C.T st dst ts (st.ev x) (st.ev y) K) :
    OpSem C.P false st ⟨dst, .call { callee := .builtin .append, args, argTypes := ts }, ty, pos, after, guard⟩ K := by
  refine ⟨fun E ρ a w Q hE ha hH => ?_⟩
  have ha' : args.map a.eval = #[a.eval x, a.eval y] := Array.ext' (by simp [hargs])
  obtain ⟨r, w', hrun, hpost⟩ := appEK_sound e hC ha hH (ty := ty) (ha.ev hH.mem.glob x) (ha.ev hH.mem.glob y) h
  unfold Oper.wp
  have : (execOp a.eval ⟨dst, .call { callee := .builtin .append, args, argTypes := ts }, ty, pos, after, guard⟩).run C.P w = .ok (.value r) w' := by
    simp only [execOp, resolve, Sem.run_bind, Sem.run_pure, Result.andThen_ok, invoke, builtin, ha', hrun]
  rw [this]
  exact hpost
end Go.Proofs.Ytkcdomafdjpbjaa
