/- What an operation does that writes and makes no memory: that it is so. -/
import Derived.Test.YtkcdomafdjpbjaaZQ
namespace Go.Proofs.Ytkcdomafdjpbjaa
open Go.RowKit

theorem rel_v {ρ : Plc} (x : Value) : Rel ρ (.v x) x := by unfold Rel; rfl
theorem minSV_sound {ρ : Plc} (big : Bool) (k : IntKind) : ∀ {l : List SV} {us : List Value} {x : Int} {K : SV → Prop} {other : Prop}, RelL ρ l us → minSV big k x l K other →
    (∃ y, K (.v (.int k y)) ∧ ∀ (P : Program) w, (us.foldlM (bif big then Builtin.max2 else Builtin.min2) (.int k x)).run P w = .ok (.int k y) w) ∨ other
  | [], us, x, K, other, hr, h => by
    unfold RelL at hr
    subst hr
    exact .inl ⟨x, h, fun P w => by simp⟩
  | .v (.int k' y) :: l, us, x, K, other, hr, h => by
    unfold RelL Rel at hr
    obtain ⟨u, us', rfl, rfl, hr⟩ := hr
    unfold minSV at h
    rcases minSV_sound big k hr h with ⟨z, hz, hrun⟩ | h
    · refine .inl ⟨z, hz, fun P w => ?_⟩
      cases big
      · simp only [cond_false] at hrun ⊢
        simp [Builtin.min2, hrun]
      · simp only [cond_true] at hrun ⊢
        simp [Builtin.max2, hrun]
    · exact .inr h
  | .z .. :: _, _, _, _, _, _, h | .zp _ :: _, _, _, _, _, _, h | .any :: _, _, _, _, _, _, h | .p .. :: _, _, _, _, _, _, h | .s .. :: _, _, _, _, _, _, h | .agg _ :: _, _, _, _, _, _, h | .tup _ :: _, _, _, _, _, _, h | .fn .. :: _, _, _, _, _, _, h | .bm .. :: _, _, _, _, _, _, h => .inr h
  | .v (.bool _) :: _, _, _, _, _, _, h | .v (.float ..) :: _, _, _, _, _, _, h | .v (.complex ..) :: _, _, _, _, _, _, h | .v (.string _) :: _, _, _, _, _, _, h
  | .v (.pointer _) :: _, _, _, _, _, _, h | .v (.slice ..) :: _, _, _, _, _, _, h | .v (.map _) :: _, _, _, _, _, _, h | .v (.chan _) :: _, _, _, _, _, _, h
  | .v (.func ..) :: _, _, _, _, _, _, h | .v .nilFunc :: _, _, _, _, _, _, h | .v (.iface ..) :: _, _, _, _, _, _, h | .v .nilIface :: _, _, _, _, _, _, h
  | .v (.agg _) :: _, _, _, _, _, _, h | .v (.tuple _) :: _, _, _, _, _, _, h => .inr h

theorem boundSV_sound {ρ : Plc} {x : Option SV} {d : Int} {K : Int → Prop} {other : Prop} {u : Option Value} (h : boundSV x d K other) (hl : x.isSome = u.isSome) (hr : ∀ y z, x = some y → u = some z → Rel ρ y z) :
    other ∨ ∃ i, K i ∧ ((u = none ∧ i = d) ∨ ∃ k, u = some (.int k i)) := by
  unfold boundSV at h
  split at h
  · refine .inr ⟨_, h, .inl ⟨?_, rfl⟩⟩
    cases u <;> simp_all
  · rename_i k i
    cases u with
    | none => simp at hl
    | some z =>
      have := hr _ _ rfl rfl
      unfold Rel at this
      subst this
      exact .inr ⟨_, h, .inr ⟨_, rfl⟩⟩
  · exact .inl h

theorem fields_of {C : Ctx} (hC : C.ok) {t : Nat} {i : TI} {fs : List (Nat × Nat)} (hi : assoc C.T t = some i) (hd : i.d = .struct fs) :
    ∃ fields : Array Field, C.P.underlying t = some (.struct fields) ∧ ∀ (f off ft : Nat), fs[f]? = some (off, ft) → ∃ fd : Field, fields[f]? = some fd ∧ fd.offset = off ∧ fd.type = ft := by
  obtain ⟨d, hu, he⟩ := (hC t i hi).und'
  rw [hd] at he
  cases d <;> simp only [dsc] at he <;> first
    | (cases he; done)
    | skip
  rename_i fields
  injection he with he
  refine ⟨fields, hu, fun f off ft hf => ?_⟩
  rw [← he] at hf
  simp only [List.getElem?_map, Option.map_eq_some_iff] at hf
  obtain ⟨fd, h1, h2⟩ := hf
  injection h2 with h2 h3
  exact ⟨fd, by simpa using h1, h2, h3⟩
theorem slice_of {C : Ctx} (hC : C.ok) {t : Nat} {i : TI} {e : Nat} (hi : assoc C.T t = some i) (hd : i.d = .slice e) : C.P.underlying t = some (.slice e) := by
  obtain ⟨d, hu, he⟩ := (hC t i hi).und'
  rw [hd] at he
  cases d <;> simp only [dsc] at he <;> first
    | (cases he; done)
    | skip
  injection he with he
  rw [hu, he]
theorem array_of {C : Ctx} (hC : C.ok) {t : Nat} {i : TI} {n e : Nat} (hi : assoc C.T t = some i) (hd : i.d = .array n e) : C.P.underlying t = some (.array n e) := by
  obtain ⟨d, hu, he⟩ := (hC t i hi).und'
  rw [hd] at he
  cases d <;> simp only [dsc] at he <;> first
    | (cases he; done)
    | skip
  injection he with h1 h2
  rw [hu, h1, h2]
theorem int_of {C : Ctx} (hC : C.ok) {t : Nat} {i : TI} {k : IntKind} (hi : assoc C.T t = some i) (hd : i.d = .int k) : C.P.underlying t = some (.int k) := by
  obtain ⟨d, hu, he⟩ := (hC t i hi).und'
  rw [hd] at he
  cases d <;> simp only [dsc] at he <;> first
    | (cases he; done)
    | skip
  injection he with he
  rw [hu, he]
theorem bool_of {C : Ctx} (hC : C.ok) {t : Nat} {i : TI} (hi : assoc C.T t = some i) (hd : i.d = .bool) : C.P.underlying t = some .bool := by
  obtain ⟨d, hu, he⟩ := (hC t i hi).und'
  rw [hd] at he
  cases d <;> simp only [dsc] at he <;> first
    | (cases he; done)
    | skip
  exact hu
theorem flat_bytes : ∀ ns : List Int, (ns.map fun n => [Value.int .u8 n]).flatten = ns.map (Value.int .u8)
  | [] => rfl
  | n :: ns => by simp [flat_bytes ns]
theorem rel_bytes {Z : Nat → Nat → Option Value} {ns : List Int} {raw : List (List Value)} (h : RelR Z 1 (ns.map fun n => [.v (Value.int .u8 n)]) raw) : raw = ns.map fun n => [Value.int .u8 n] := by
  apply List.ext_getElem?
  intro i
  by_cases hi : i < ns.length
  · have h1 : (ns.map fun n => [CV.v (Value.int .u8 n)])[i]? = some [.v (.int .u8 ns[i])] := by simp [hi]
    obtain ⟨d, h2, h3, _⟩ := h.get h1
    rw [h2]
    unfold RelK RelK RelC at h3
    obtain ⟨u, r, rfl, ⟨rfl, _⟩, rfl⟩ := h3
    simp [hi]
  · have := h.1
    simp at this
    rw [List.getElem?_eq_none (by omega), List.getElem?_eq_none (by simp; omega)]
theorem str_of {C : Ctx} (hC : C.ok) {t : Nat} {i : TI} (hi : assoc C.T t = some i) (hd : i.d = .str) : C.P.underlying t = some .string := by
  obtain ⟨d, hu, he⟩ := (hC t i hi).und'
  rw [hd] at he
  cases d <;> simp only [dsc] at he <;> first
    | (cases he; done)
    | skip
  exact hu
theorem run_eq_bool {P : Program} (w : World) {t : Nat} (h : P.underlying t = some .bool) (n : Nat) {p q : Bool} : (Op.equalIn (n + 1) t (.bool p) (.bool q)).run P w = .ok (p == q) w := by
  simp [Op.equalIn, run_underlying h]
theorem run_eq_slice {P : Program} (w : World) {t e : Nat} (h : P.underlying t = some (.slice e)) (n : Nat) (ad : Option Addr) (len cap : Nat) : (Op.equalIn (n + 1) t (.slice ad len cap) (.slice none 0 0)).run P w = .ok ad.isNone w := by
  cases ad <;> simp [Op.equalIn, run_underlying h]
theorem loc_add (ρ : Plc) (a : Nm) (x y : Nat) : (locA ρ a x).add y = locA ρ a (x + y) := by
  unfold locA Addr.add
  split
  · rename_i h; subst h; rfl
  · simp [Nat.add_assoc]
theorem add_none (b o j : Nat) : (⟨b, o, none⟩ : Addr).add j = ⟨b, o + j, none⟩ := by
  unfold Addr.add
  split
  · rename_i h; subst h; rfl
  · rfl
theorem flat_split {sz : Nat} : ∀ {raw : List (List Value)}, (∀ d ∈ raw, d.length = sz) → ∀ {j : Nat} {v : Value}, raw.flatten[j]? = some v → ∃ e d k, raw[e]? = some d ∧ d[k]? = some v ∧ j = e * sz + k
  | [], _, j, v, h => by simp at h
  | d :: raw, hl, j, v, h => by
    have hd : d.length = sz := hl d (by simp)
    rw [List.flatten_cons, List.getElem?_append] at h
    split at h
    · exact ⟨0, d, j, rfl, h, by omega⟩
    · obtain ⟨e, d', k, h1, h2, h3⟩ := flat_split (fun d hd => hl d (by simp [hd])) h
      exact ⟨e + 1, d', k, by simpa using h1, h2, by rw [Nat.add_mul]; omega⟩
/-- The slice reads so, in each world that keeps the blocks. -/
theorem readEls_sound {ρ : Plc} {m : Mem} {w : World} (hm : BlksOK ρ m w) {x : SV} {u : Value} {sz : Nat} {K : List (List CV) → Nat → Prop} {other : Prop} (h : readEls m x sz K other) (hx : Rel ρ x u) :
    other ∨ ∃ els raw n ad c, K els n ∧ u = .slice ad n c ∧ RelR ρ.z sz els raw ∧ raw.length = n ∧ (∀ d ∈ raw, CellsOK sz d) ∧ (ad = none → n = 0) ∧ ∀ a, ad = some a → ∀ w', Same ρ m w w' → ∀ (j : Nat) v, raw.flatten[j]? = some v → w'.cell? (a.add j) = some v := by
  unfold readEls at h
  split at h
  · unfold Rel at hx
    exact .inr ⟨[], [], 0, none, 0, h, hx, RelR.nil, rfl, (fun d hd => by cases hd), fun _ => rfl, (fun a e => by cases e)⟩
  · rename_i sz' els cap
    split at h
    rotate_left
    · exact .inl h
    rename_i hsz
    obtain rfl := Nat.eq_of_beq_eq_true hsz
    unfold Rel at hx
    obtain ⟨ad, rfl, hle, hz⟩ := hx
    rcases hz with rfl | ⟨b, o, rfl, hz⟩
    · have h0 : els = [] := List.eq_nil_of_length_eq_zero (by omega)
      subst h0
      exact .inr ⟨[], [], 0, ad, 0, h, rfl, RelR.nil, rfl, (fun d hd => by cases hd), fun _ => rfl, fun a e w' hs j v hv => by simp at hv⟩
    · obtain ⟨raw, hr, hc⟩ := hz.raw
      refine .inr ⟨els, raw, _, _, _, h, rfl, hr, hr.1, hr.cells, (fun e => by cases e), fun a e w' hs j v hv => ?_⟩
      cases e
      obtain ⟨e, d, k, h1, h2, rfl⟩ := flat_split (fun d hd => (hr.cells d hd).1) hv
      rw [add_none]
      exact hs.z _ _ _ (hc e d h1 k v h2)
  · rename_i a sz' e n c
    unfold Rel at hx
    obtain ⟨ad, rfl, hnc, hcap⟩ := hx
    have fin : ∀ (els : List (List CV)) (raw : List (List Value)), e + n ≤ els.length → K ((els.drop e).take n) n → RelR ρ.z sz els raw → sz = sz' →
        (n ≠ 0 → ∀ w', Same ρ m w w' → ∀ (j : Nat) v, raw.flatten[j]? = some v → w'.cell? (locA ρ a j) = some v) →
        ∃ els raw n' ad' c', K els n' ∧ Value.slice ad n c = .slice ad' n' c' ∧ RelR ρ.z sz els raw ∧ raw.length = n' ∧ (∀ d ∈ raw, CellsOK sz d) ∧ (ad' = none → n' = 0) ∧ ∀ a, ad' = some a → ∀ w', Same ρ m w w' → ∀ (j : Nat) v, raw.flatten[j]? = some v → w'.cell? (a.add j) = some v := by
      intro els raw hle hK hR hsz hc
      have hR2 := (hR.drop e).take n
      refine ⟨_, _, n, ad, c, hK, rfl, hR2, by rw [hR2.1]; simp; omega, hR2.cells, fun e0 => ?_, fun a' ea w' hs j v hv => ?_⟩
      · rcases hcap with hcap | hcap
        · omega
        · rw [e0] at hcap; cases hcap.1
      · have hn : n ≠ 0 := by
          rintro rfl
          simp at hv
        obtain ⟨had, _⟩ := hcap.resolve_left (by omega)
        rw [ea] at had
        cases had
        rw [loc_add, ← hsz]
        refine hc hn w' hs _ v ?_
        obtain ⟨e', d, k, h1, h2, rfl⟩ := flat_split (fun d hd => (hR2.cells d hd).1) hv
        rw [List.getElem?_take] at h1
        split at h1
        · rw [List.getElem?_drop] at h1
          have := flatten_get (fun c hc => (hR.cells c hc).1) h1 h2
          rw [Nat.add_mul] at this
          rw [show e * sz + (e' * sz + k) = e * sz + e' * sz + k by omega]
          exact this
        · cases h1
    split at h
    · rename_i sz'' els hbq hl
      have hsz := Nat.eq_of_beq_eq_true hbq
      obtain ⟨⟨rfl, hle⟩, h⟩ := h
      obtain ⟨raw, hR, hb⟩ := hm.blk _ _ hl
      refine .inr (fin els raw hle h hR hsz fun hn w' hs j v hv => ?_)
      have hne : els ≠ [] := by rintro rfl; simp at hle; omega
      obtain ⟨e', d, k, h1, h2, rfl⟩ := flat_split (fun d hd => (hR.cells d hd).1) hv
      unfold locA
      rw [World.cell?_of_block (w := w) (hs.blk _ _ hl hne)]
      exact (hb.2 _ _ h1).2 _ _ h2
    · rename_i t' sz'' cap' els hbq hl
      have hsz := Nat.eq_of_beq_eq_true hbq
      obtain ⟨⟨rfl, hle⟩, h⟩ := h
      obtain ⟨raw, hR, hcl, hok, hk⟩ := hm.blk _ _ hl
      refine .inr (fin els raw hle h hR hsz fun hn w' hs j v hv => ?_)
      have hc0 : cap' ≠ 0 := by have := hR.1; omega
      obtain ⟨h0, _, cur, hw, hcs, htk⟩ := hk hc0
      have hw' := (hs.blk _ _ hl hc0).trans hw
      unfold locA
      rw [h0, Nat.zero_add, cell_of_row w' _ _ _ _ _ hw']
      rw [← htk, List.getElem?_take] at hv
      split at hv
      · simpa using hv
      · cases hv
    · exact .inl h
  · exact .inl h
theorem lenSV_sound {C : Ctx} (hC : C.ok) {ρ : Plc} {ts : Array Nat} {x : SV} {u : Value} {K : Nat → Nat → Prop} {other : Prop} (h : lenSV C.T ts x K other) (hr : Rel ρ x u) :
    other ∨ ∃ t ad n c e, ts = #[t] ∧ K n c ∧ u = .slice ad n c ∧ C.P.underlying t = some (.slice e) := by
  unfold lenSV at h
  split at h
  rotate_left
  · exact .inl h
  rename_i t ht
  have hts : ts = #[t] := by rw [← Array.toArray_toList (xs := ts), ht]
  split at h
  · rename_i i a sz e n c hi
    unfold Rel at hr
    obtain ⟨ad, rfl, _⟩ := hr
    split at h
    · rename_i el hd
      exact .inr ⟨t, ad, n, c, el, hts, h, rfl, slice_of hC hi hd⟩
    · exact .inl h
  · rename_i i ad n c hi
    unfold Rel at hr
    subst hr
    split at h
    · rename_i el hd
      exact .inr ⟨t, ad, n, c, el, hts, h, rfl, slice_of hC hi hd⟩
    · exact .inl h
  · rename_i i sz els c hi
    unfold Rel at hr
    obtain ⟨ad, rfl, _⟩ := hr
    split at h
    · rename_i el hd
      exact .inr ⟨t, ad, els.length, c, el, hts, h, rfl, slice_of hC hi hd⟩
    · exact .inl h
  · exact .inl h

theorem lenStr_sound {C : Ctx} (hC : C.ok) {ρ : Plc} {ts : Array Nat} {x : SV} {u : Value} {K : Nat → Prop} {other : Prop} (h : lenStr C.T ts x K other) (hr : Rel ρ x u) :
    other ∨ ∃ t s, ts = #[t] ∧ K s.size ∧ u = .string s ∧ C.P.underlying t = some .string := by
  unfold lenStr at h
  split at h
  rotate_left
  · exact .inl h
  rename_i t ht
  have hts : ts = #[t] := by rw [← Array.toArray_toList (xs := ts), ht]
  split at h
  · rename_i i s hi
    unfold Rel at hr
    subst hr
    split at h
    · rename_i hd
      exact .inr ⟨t, s, hts, h, rfl, str_of hC hi hd⟩
    · exact .inl h
  · exact .inl h
theorem relL_map {ρ : Plc} {ev : Operand → SV} {a : Act} (hev : ∀ x, Rel ρ (ev x) (a.eval x)) : ∀ l : List Operand, RelL ρ (l.map ev) (l.map a.eval)
  | [] => by unfold RelL; rfl
  | x :: l => by
    simp only [List.map_cons]
    unfold RelL
    exact ⟨_, _, rfl, hev x, relL_map hev l⟩

theorem places_of {C : Ctx} (hC : C.ok) : ∀ (fs : List Field), (fs.map fun f => (f.offset, f.type)).all (fun q => (assoc C.T q.2).isSome) = true →
    ∃ places, fs.mapM (fun f => (C.P.info? f.type).map fun i => (f.offset, i.size)) = some places ∧ ∀ (j : Nat) (fd : Field), fs[j]? = some fd → ∃ n, (∀ k, assoc C.T fd.type = some k → k.size = n) ∧ places[j]? = some (fd.offset, n)
  | [], _ => ⟨[], by simp, fun j fd h => by simp at h⟩
  | f :: fs, h => by
    simp only [List.map_cons, List.all_cons, Bool.and_eq_true] at h
    obtain ⟨places, h1, h2⟩ := places_of hC fs h.2
    obtain ⟨i, hi⟩ := Option.isSome_iff_exists.1 h.1
    obtain ⟨g, hg, hs, _⟩ := (hC _ _ hi).info'
    refine ⟨(f.offset, g.size) :: places, by simp [hg, h1], fun j fd hj => ?_⟩
    cases j with
    | zero =>
      simp at hj
      subst hj
      exact ⟨g.size, fun k hk => by rw [hi] at hk; cases hk; exact hs.symm, rfl⟩
    | succ j =>
      obtain ⟨n, hn⟩ := h2 j fd (by simpa using hj)
      exact ⟨n, hn.1, by simpa using hn.2⟩

theorem pureOp_sound {C : Seat} (hC : C.ok) {ρ : Plc} {m : Mem} {w : World} (hm : BlksOK ρ m w) {ev : Operand → SV} {a : Act} (hev : ∀ x, Rel ρ (ev x) (a.eval x)) {o : Oper} {K : SV → Prop} {other : Prop} (h : pureOp C m ev o.op K other) :
    (∃ sv v, K sv ∧ Rel ρ sv v ∧ ∀ w', Same ρ m w w' → (execOp a.eval o).run C.P w' = .ok (.value v) w') ∨ other := by
  obtain ⟨dst, op, ty, pos, after, guard⟩ := o
  simp only at h
  unfold pureOp at h
  split at h
  · -- move
    exact .inl ⟨_, _, h, hev _, fun w' _ => by simp [execOp]⟩
  · exact .inl ⟨_, _, h, hev _, fun w' _ => by simp [execOp]⟩
  · -- pick
    rename_i c x y
    split at h
    · rename_i t ht
      have hc := hev c
      rw [ht] at hc
      unfold Rel at hc
      cases t
      · exact .inl ⟨_, _, h.f rfl, hev y, fun w' _ => by simp [execOp, hc, asBool]⟩
      · exact .inl ⟨_, _, h.t rfl, hev x, fun w' _ => by simp [execOp, hc, asBool]⟩
    · exact .inr h
  · -- load
    rename_i t x
    obtain ⟨sv, v, h1, h2, ad, h3, h4⟩ := loadSV_sound hC.ty hm h (hev x)
    refine .inl ⟨sv, v, h1, h2, fun w' hs => ?_⟩
    simp only [execOp, h3, Instr.loadAt, Instr.sureAddr, Sem.run_bind, Sem.run_pure, Result.andThen_ok, h4 w' hs]
  · -- binOp
    rename_i op t x y yt
    have bin : (∃ sv v, K sv ∧ Rel ρ sv v ∧ ∀ w', (do eqGuard op t x y (a.eval x) (a.eval y); binOp op t (a.eval x) (a.eval y)).run C.P w' = .ok v w') ∨ other →
        (∃ sv v, K sv ∧ Rel ρ sv v ∧ ∀ w', Same ρ m w w' → (execOp a.eval ⟨dst, .binOp op t x y yt, ty, pos, after, guard⟩).run C.P w' = .ok (.value v) w') ∨ other := by
      rintro (⟨sv, v, h1, h2, h3⟩ | h)
      · refine .inl ⟨sv, v, h1, h2, fun w' _ => ?_⟩
        have := h3 w'
        simp only [execOp]
        rw [Sem.run_bind, this]
        rfl
      · exact .inr h
    have hx := hev x
    have hy := hev y
    split at h
    · rename_i k p k' q ex ey
      rw [ex] at hx
      rw [ey] at hy
      unfold Rel at hx hy
      rw [hx, hy] at bin
      split at h
      · exact bin (.inl ⟨_, _, h.2, rel_v _, fun w' => by simp [eqGuard, binOp, Op.shift, Int.not_lt.2 h.1]⟩)
      · exact bin (.inl ⟨_, _, h.2, rel_v _, fun w' => by simp [eqGuard, binOp, Op.shift, Int.not_lt.2 h.1]⟩)
      · split at h
        · rename_i hk
          obtain rfl := of_decide_eq_true hk
          exact bin (intBin_sound h)
        · exact .inr h
    · rename_i xs ys ex ey
      rw [ex] at hx
      rw [ey] at hy
      unfold Rel at hx hy
      obtain ⟨us, hx, hus⟩ := hx
      obtain ⟨vs, hy, hvs⟩ := hy
      rw [hx, hy] at bin
      exact bin (eqSV_sound hC.eq hus hvs h)
    · rename_i p q ex ey
      rw [ex] at hx
      rw [ey] at hy
      unfold Rel at hx hy
      rw [hx, hy] at bin
      split at h
      · rename_i i hi
        split at h
        · rename_i hd
          have hu := bool_of hC.ty hi hd
          refine bin (.inl ⟨_, _, h, rel_v _, fun w' => ?_⟩)
          simp [eqGuard, binOp, Op.equal, Op.maxDepth, run_eq_bool w' hu 9999]
        · rename_i hd
          have hu := bool_of hC.ty hi hd
          refine bin (.inl ⟨_, _, h, rel_v _, fun w' => ?_⟩)
          simp [eqGuard, binOp, Op.equal, Op.maxDepth, run_eq_bool w' hu 9999]
          cases p <;> cases q <;> rfl
        · exact .inr h
      · exact .inr h
    · rename_i s1 s2 ex ey
      rw [ex] at hx
      rw [ey] at hy
      unfold Rel at hx hy
      rw [hx, hy] at bin
      split at h
      · exact bin (.inl ⟨_, _, h, rel_v _, fun w' => by simp [eqGuard, binOp, Op.stringOp]⟩)
      · exact bin (.inl ⟨_, _, h, rel_v _, fun w' => by simp [eqGuard, binOp, Op.stringOp]⟩)
      · exact bin (.inl ⟨_, _, h, rel_v _, fun w' => by simp [eqGuard, binOp, Op.stringOp]⟩)
      · exact .inr h
    · rename_i b0 sz0 e0 n0 cap ex ey
      rw [ex] at hx
      rw [ey] at hy
      unfold Rel at hx hy
      obtain ⟨ad, hx, hle, hcap⟩ := hx
      rw [hx, hy] at bin
      have hne : cap ≠ 0 → ad.isNone = false := fun h0 => by rw [(hcap.resolve_left h0).1]; rfl
      split at h
      · rename_i i hi
        split at h
        · rename_i el hd
          have hu := slice_of hC.ty hi hd
          refine bin (.inl ⟨_, _, h ad.isNone hne, rel_v _, fun w' => ?_⟩)
          simp [eqGuard, binOp, Op.equal, Op.maxDepth, run_eq_slice w' hu 9999]
        · rename_i el hd
          have hu := slice_of hC.ty hi hd
          refine bin (.inl ⟨_, _, h (!ad.isNone) (fun h0 => by rw [hne h0]; rfl), rel_v _, fun w' => ?_⟩)
          simp [eqGuard, binOp, Op.equal, Op.maxDepth, run_eq_slice w' hu 9999]
        · exact .inr h
      · exact .inr h
    · rename_i sz0 els0 cap ex ey
      rw [ex] at hx
      rw [ey] at hy
      unfold Rel at hx hy
      obtain ⟨ad, hx, hle, hcap⟩ := hx
      have hne : els0.length ≠ 0 → ad.isNone = false := fun h0 => by
        rcases hcap with rfl | ⟨b, o, rfl, _⟩
        · omega
        · rfl
      rw [hx, hy] at bin
      split at h
      · rename_i i hi
        split at h
        · rename_i el hd
          have hu := slice_of hC.ty hi hd
          refine bin (.inl ⟨_, _, h ad.isNone hne, rel_v _, fun w' => ?_⟩)
          simp [eqGuard, binOp, Op.equal, Op.maxDepth, run_eq_slice w' hu 9999]
        · rename_i el hd
          have hu := slice_of hC.ty hi hd
          refine bin (.inl ⟨_, _, h (!ad.isNone) (fun h0 => by rw [hne h0]; rfl), rel_v _, fun w' => ?_⟩)
          simp [eqGuard, binOp, Op.equal, Op.maxDepth, run_eq_slice w' hu 9999]
        · exact .inr h
      · exact .inr h
    · rename_i ex ey
      rw [ex] at hx
      rw [ey] at hy
      unfold Rel at hx hy
      rw [hx, hy] at bin
      split at h
      · rename_i i hi
        split at h
        · rename_i el hd
          have hu := slice_of hC.ty hi hd
          refine bin (.inl ⟨_, _, h, rel_v _, fun w' => ?_⟩)
          simp [eqGuard, binOp, Op.equal, Op.maxDepth, run_eq_slice w' hu 9999]
        · rename_i el hd
          have hu := slice_of hC.ty hi hd
          refine bin (.inl ⟨_, _, h, rel_v _, fun w' => ?_⟩)
          simp [eqGuard, binOp, Op.equal, Op.maxDepth, run_eq_slice w' hu 9999]
        · exact .inr h
      · exact .inr h
    · exact .inr h
  · -- unOp
    rename_i op t x
    have hx := hev x
    split at h
    · rename_i b ex
      rw [ex] at hx
      unfold Rel at hx
      exact .inl ⟨_, _, h, rel_v _, fun w' _ => by simp [execOp, hx, Op.unary]⟩
    · rename_i k n ex
      rw [ex] at hx
      unfold Rel at hx
      exact .inl ⟨_, _, h, rel_v _, fun w' _ => by simp [execOp, hx, Op.unary, Op.intArith]⟩
    · rename_i k n ex
      rw [ex] at hx
      unfold Rel at hx
      unfold intBin at h
      exact .inl ⟨_, _, h, rel_v _, fun w' _ => by simp [execOp, hx, Op.unary, Op.intBits]⟩
    · exact .inr h
  · -- convert
    rename_i src t x
    have hx := hev x
    split at h
    · rename_i i0 i k n hi0 hi ex
      rw [ex] at hx
      unfold Rel at hx
      split at h
      · rename_i k' hd
        have hu := int_of hC.ty hi hd
        obtain ⟨d, hd0, _⟩ := (hC.ty _ _ hi0).und'
        refine .inl ⟨_, _, h, rel_v _, fun w' _ => ?_⟩
        simp only [execOp, hx]
        cases d <;> simp [convert, run_underlying hu, run_underlying hd0, Conv.intToInt]
      · exact .inr h
    · rename_i i0 i b sz e n c hi0 hi ex
      rw [ex] at hx
      split at h
      · rename_i el hd0 hd
        split at h
        · rename_i j hj
          split at h
          · rename_i hdj
            have hs := slice_of hC.ty hi0 hd0
            have he := int_of hC.ty hj hdj
            have hd := str_of hC.ty hi hd
            rcases readEls_sound hm h hx with h | ⟨els, raw, n', ad, c', ⟨ns, hels, hK⟩, hv, hR, hl, _, hnone, hcells⟩
            · exact .inr h
            · refine .inl ⟨_, _, hK, rel_v _, fun w' hsame => ?_⟩
              simp only [execOp, hv]
              have hraw := rel_bytes (hels ▸ hR)
              have hns : ns.length = n' := by rw [← hl, hraw, List.length_map]
              cases ad with
              | none =>
                have h0 := hnone rfl
                have : ns = [] := List.eq_nil_of_length_eq_zero (by omega)
                subst this
                rw [Sem.run_bind, run_convert_bytes_nil w' src el hs he n' c' t hd]
                rfl
              | some ad =>
                have hload : (loadCells ad n').run C.P w' = .ok (ns.map (Value.int .u8)).toArray w' := by
                  have := run_loadCells_list (P := C.P) w' ad (ns.map (Value.int .u8)) (fun k v hk => hcells ad rfl w' hsame k v (by
                    rw [hraw, flat_bytes]
                    exact hk))
                  rw [List.length_map, hns] at this
                  exact this
                rw [Sem.run_bind, run_convert_bytes_string w' src t el _ n' c' hs he hd, run_bytesToString w' ad n' c' ns hload, foldl_push_bytes]
                simp [strOfNums, ByteArray.empty, ByteArray.emptyWithCapacity]
                rfl
          · exact .inr h
        · exact .inr h
      · exact .inr h
    · rename_i i0 i sz els0 c hi0 hi ex
      rw [ex] at hx
      split at h
      · rename_i el hd0 hd
        split at h
        · rename_i j hj
          split at h
          · rename_i hdj
            have hs := slice_of hC.ty hi0 hd0
            have he := int_of hC.ty hj hdj
            have hd := str_of hC.ty hi hd
            rcases readEls_sound hm h hx with h | ⟨els, raw, n', ad, c', ⟨ns, hels, hK⟩, hv, hR, hl, _, hnone, hcells⟩
            · exact .inr h
            · refine .inl ⟨_, _, hK, rel_v _, fun w' hsame => ?_⟩
              simp only [execOp, hv]
              have hraw := rel_bytes (hels ▸ hR)
              have hns : ns.length = n' := by rw [← hl, hraw, List.length_map]
              cases ad with
              | none =>
                have h0 := hnone rfl
                have : ns = [] := List.eq_nil_of_length_eq_zero (by omega)
                subst this
                rw [Sem.run_bind, run_convert_bytes_nil w' src el hs he n' c' t hd]
                rfl
              | some ad =>
                have hload : (loadCells ad n').run C.P w' = .ok (ns.map (Value.int .u8)).toArray w' := by
                  have := run_loadCells_list (P := C.P) w' ad (ns.map (Value.int .u8)) (fun k v hk => hcells ad rfl w' hsame k v (by
                    rw [hraw, flat_bytes]
                    exact hk))
                  rw [List.length_map, hns] at this
                  exact this
                rw [Sem.run_bind, run_convert_bytes_string w' src t el _ n' c' hs he hd, run_bytesToString w' ad n' c' ns hload, foldl_push_bytes]
                simp [strOfNums, ByteArray.empty, ByteArray.emptyWithCapacity]
                rfl
          · exact .inr h
        · exact .inr h
      · exact .inr h
    · exact .inr h
  · -- fieldAddr
    rename_i t x f
    have hx := hev x
    split at h
    · rename_i i b e sz f0 hi ex
      rw [ex] at hx
      unfold Rel at hx
      obtain ⟨hx, hhas⟩ := hx
      split at h
      · rename_i fs hd
        split at h
        · rename_i off ft hf
          split at h
          · rename_i j hj
            split at h
            · rename_i hz
              obtain ⟨fields, hu, hfs⟩ := fields_of hC.ty hi hd
              obtain ⟨fd, h1, h2, h3⟩ := hfs _ _ _ hf
              have hsz := (hC.ty _ _ hj).sizeOf
              have hne : j.size ≠ 0 := fun e => by rw [e] at hz; cases hz
              refine .inl ⟨_, _, h, by unfold Rel; exact ⟨rfl, hhas⟩, fun w' _ => ?_⟩
              simp [execOp, hx, Instr.fieldAt, run_underlying hu, h1, Instr.sureAddr, fieldPlace, h3, hsz, hne, h2, loc_add, Nat.add_assoc]
            · exact .inr h
          · exact .inr h
        · exact .inr h
      · exact .inr h
    · rename_i i c hi ex
      rw [ex] at hx
      unfold Rel at hx
      obtain ⟨b, o, us, hx, hus, hz⟩ := hx
      split at h
      · rename_i fs hd
        split at h
        · rename_i off ft hf
          split at h
          · rename_i j hj
            split at h
            · rename_i hz'
              obtain ⟨fields, hu, hfs⟩ := fields_of hC.ty hi hd
              obtain ⟨fd, h1, h2, h3⟩ := hfs _ _ _ hf
              have hsz := (hC.ty _ _ hj).sizeOf
              have hne : j.size ≠ 0 := fun e => by rw [e] at hz'; cases hz'
              refine .inl ⟨_, .pointer (some ⟨b, o + off, none⟩), h, by
                unfold Rel
                refine ⟨b, o + off, _, rfl, hus.drop off, fun k v hv => ?_⟩
                rw [List.getElem?_drop] at hv
                rw [Nat.add_assoc]
                exact hz _ v hv, fun w' _ => ?_⟩
              simp [execOp, hx, Instr.fieldAt, run_underlying hu, h1, Instr.sureAddr, fieldPlace, h3, hsz, hne, h2, add_none]
            · exact .inr h
          · exact .inr h
        · exact .inr h
      · exact .inr h
    · exact .inr h
  · -- field
    rename_i t x f
    have hx := hev x
    split at h
    · rename_i i l hi ex
      rw [ex] at hx
      unfold Rel at hx
      obtain ⟨us, hx, hus⟩ := hx
      split at h
      · rename_i fs hd
        split at h
        · rename_i off ft hf
          obtain ⟨fields, hu, hfs⟩ := fields_of hC.ty hi hd
          obtain ⟨fd, h1, h2, h3⟩ := hfs _ _ _ hf
          split at h
          · rename_i j hj
            have hsz := (hC.ty _ _ hj).sizeOf
            have hag := (hC.ty _ _ hj).isAgg
            split at h
            · rename_i ha
              refine .inl ⟨_, .agg ((us.drop off).take j.size).toArray, h, by unfold Rel; exact ⟨_, rfl, (hus.drop _).take _⟩, fun w' _ => ?_⟩
              simp [execOp, hx, Instr.field, run_underlying hu, h1, asAgg, part, h3, hsz, hag, ha, h2]
            · rename_i ha
              split at h
              · rename_i c hc
                obtain ⟨u, hu', hr⟩ := hus.get hc
                refine .inl ⟨_, u, h, hr, fun w' _ => ?_⟩
                simp [execOp, hx, Instr.field, run_underlying hu, h1, asAgg, part, h3, hag, ha, h2, hu']
              · exact .inr h
          · exact .inr h
        · exact .inr h
      · exact .inr h
    · exact .inr h
  · -- indexAddr
    rename_i t x ix
    have hx := hev x
    have hix := hev ix
    split at h
    · rename_i i k n hi ex
      rw [ex] at hix
      unfold Rel at hix
      split at h
      · rename_i el b sz e len cap hd exx
        rw [exx] at hx
        unfold Rel at hx
        obtain ⟨ad, hx, hlc, hcap⟩ := hx
        split at h
        · rename_i j hj
          split at h
          · rename_i hb
            have hb := Nat.eq_of_beq_eq_true hb
            obtain ⟨⟨h0, hn⟩, h⟩ := h
            obtain ⟨had, hhas⟩ := hcap.resolve_left (by omega)
            have hu := slice_of hC.ty hi hd
            have hsz := (hC.ty _ _ hj).sizeOf
            refine .inl ⟨_, _, h, by unfold Rel; exact ⟨rfl, hhas⟩, fun w' _ => ?_⟩
            simp [execOp, hx, hix, Instr.indexAt, asIntOf, run_underlying hu, had, h0, hn, hsz, hb, loc_add, Nat.add_mul]
          · exact .inr h
        · exact .inr h
      · rename_i el sz els cap hd exx
        rw [exx] at hx
        unfold Rel at hx
        obtain ⟨ad, hx, hlc, hcap⟩ := hx
        split at h
        · rename_i j hj
          split at h
          · rename_i hb
            have hb := Nat.eq_of_beq_eq_true hb
            obtain ⟨⟨h0, hn⟩, c, hc, h⟩ := h
            obtain ⟨b, o, rfl, hz⟩ := hcap.resolve_left (by have := getElem?_lt hc; omega)
            obtain ⟨us, hus, hl, hcell⟩ := hz.get hc
            have hu := slice_of hC.ty hi hd
            have hsz := (hC.ty _ _ hj).sizeOf
            refine .inl ⟨_, .pointer (some ⟨b, o + n.toNat * sz, none⟩), h, by
              unfold Rel
              refine ⟨b, _, us, rfl, hus, fun k v hv => ?_⟩
              rw [Nat.add_assoc]
              exact hcell k v hv, fun w' _ => ?_⟩
            simp [execOp, hx, hix, Instr.indexAt, asIntOf, run_underlying hu, h0, hn, hsz, hb, add_none]
          · exact .inr h
        · exact .inr h
      · rename_i len el b e sz f hd exx
        rw [exx] at hx
        unfold Rel at hx
        obtain ⟨hx, hhas⟩ := hx
        split at h
        · rename_i j hj hb
          have hb := Nat.eq_of_beq_eq_true hb
          obtain ⟨⟨h0, hn⟩, h⟩ := h
          have hu := array_of hC.ty hi hd
          have hsz := (hC.ty _ _ hj).sizeOf
          refine .inl ⟨_, _, h, by unfold Rel; exact ⟨rfl, hhas⟩, fun w' _ => ?_⟩
          simp [execOp, hx, hix, Instr.indexAt, asIntOf, run_underlying hu, Instr.sureAddr, h0, hn, hsz, loc_add, hb]
        · exact .inr h
      · exact .inr h
    · exact .inr h
  · -- extract
    rename_i x j
    have hx := hev x
    split at h
    · rename_i l ex
      rw [ex] at hx
      unfold Rel at hx
      obtain ⟨us, hx, hus⟩ := hx
      split at h
      · rename_i c hc
        obtain ⟨u, hu', hr⟩ := hus.get hc
        refine .inl ⟨_, u, h, hr, fun w' _ => ?_⟩
        simp [execOp, hx, Instr.extract, hu']
      · exact .inr h
    · exact .inr h
  · -- makeFunc
    rename_i f first captured
    split at h
    · rename_i hf
      have hf' : first = #[] := by rw [← Array.toArray_toList (xs := first), hf]
      subst hf'
      refine .inl ⟨_, .func (.func f) #[] (captured.toList.map a.eval).toArray, h, by unfold Rel; exact ⟨_, rfl, relL_map hev _⟩, fun w' _ => ?_⟩
      simp [execOp, Instr.makeFunc]
      apply Array.ext'
      simp
    · split at h
      · rename_i hf
        have hf' : captured = #[] := by rw [← Array.toArray_toList (xs := captured), hf]
        subst hf'
        refine .inl ⟨_, .func (.func f) (first.toList.map a.eval).toArray #[], h, by unfold Rel; exact ⟨_, rfl, relL_map hev _⟩, fun w' _ => ?_⟩
        simp [execOp, Instr.makeFunc]
        apply Array.ext'
        simp
      · exact .inr h
  · -- nilCheck
    rename_i x
    have hx := hev x
    split at h
    · rename_i b e sz f ex
      rw [ex] at hx
      have hx' := hx
      unfold Rel at hx
      exact .inl ⟨_, _, h, hx', fun w' _ => by simp [execOp, hx.1]⟩
    · rename_i f l ex
      rw [ex] at hx
      have hx' := hx
      unfold Rel at hx
      obtain ⟨us, hu, _⟩ := hx
      exact .inl ⟨_, _, h, hx', fun w' _ => by simp [execOp, hu]⟩
    · rename_i c ex
      rw [ex] at hx
      have hx' := hx
      unfold Rel at hx
      obtain ⟨b, o, us, hu, _⟩ := hx
      exact .inl ⟨_, _, h, hx', fun w' _ => by simp [execOp, hu]⟩
    · exact .inr h
  · -- build
    rename_i t parts
    split at h
    · rename_i i hi
      split at h
      · rename_i fs hd
        split at h
        · rename_i hall
          obtain ⟨d, hu, he⟩ := (hC.ty _ _ hi).und'
          obtain ⟨it, hit, _, _, z, hz, hzc⟩ := (hC.ty _ _ hi).info'
          rw [hd] at he
          cases d <;> simp only [dsc] at he <;> first
            | (cases he; done)
            | skip
          rename_i fields
          injection he with he
          obtain ⟨places, hpl, hat⟩ := places_of hC.ty fields.toList (by rw [he]; exact hall)
          have hrr : RelL ρ (i.zero.map .v) z.cells.toList := by rw [hzc]; exact RelL.vals _
          obtain ⟨cells', cs', h1, h2, h3⟩ := fillSV_sound hC.ty (place := (places.toArray[·]?)) (vs := (parts.toList.map fun q => (q.1, a.eval q.2))) (fun j off ft hf => by
              rw [← he] at hf
              simp only [List.getElem?_map, Option.map_eq_some_iff] at hf
              obtain ⟨fd, hfd, hq⟩ := hf
              injection hq with hq1 hq2
              subst hq1; subst hq2
              obtain ⟨n, hn1, hn2⟩ := hat j fd hfd
              exact ⟨n, hn1, by simpa using hn2⟩) h hrr (by simp) (fun n q u hq hu' => by
              simp only [List.getElem?_map, Option.map_eq_some_iff] at hq hu'
              obtain ⟨x, hx, rfl⟩ := hq
              obtain ⟨y, hy, rfl⟩ := hu'
              rw [hx] at hy
              cases hy
              exact ⟨rfl, hev _⟩)
          refine .inl ⟨_, .agg cs', h1, by unfold Rel; exact ⟨cs'.toList, by simp, h2⟩, fun w' _ => ?_⟩
          have hb : C.P.built t ((parts.map fun q => (q.1, a.eval q.2))).toList = some cs' := by
            unfold Program.built
            simp only [hit, hu, hz, hpl]
            simpa using h3
          have := run_build w' t _ cs' hb
          simp [execOp, this]
        · exact .inr h
      · exact .inr h
    · exact .inr h
  · -- slice
    rename_i t x lo hi mx
    have hx := hev x
    split at h
    · rename_i i hi' ex
      rw [ex] at hx
      unfold Rel at hx
      split at h
      · rename_i el hd
        split at h
        · rename_i j hj
          have hu := slice_of hC.ty hi' hd
          have hsz := (hC.ty _ _ hj).sizeOf
          rcases boundSV_sound (ρ := ρ) (u := lo.map a.eval) h (by cases lo <;> rfl) (fun y z e1 e2 => by
            cases lo with
            | none => cases e1
            | some lo => cases e1; cases e2; exact hev _) with h | ⟨l, h, hl⟩
          · exact .inr h
          rcases boundSV_sound (ρ := ρ) (u := hi.map a.eval) h (by cases hi <;> rfl) (fun y z e1 e2 => by
            cases hi with
            | none => cases e1
            | some hi => cases e1; cases e2; exact hev _) with h | ⟨r, h, hr⟩
          · exact .inr h
          obtain ⟨⟨h0, h1, h2⟩, hK⟩ := h
          obtain rfl : r = 0 := by omega
          obtain rfl : l = 0 := by omega
          have hbounds : ∀ w', (Instr.sliceBounds true 0 0 (lo.map a.eval) (hi.map a.eval) none).run C.P w' = .ok (0, 0, 0) w' := by
            intro w'
            rcases hl with ⟨hl, _⟩ | ⟨k, hl⟩ <;> rcases hr with ⟨hr, _⟩ | ⟨k', hr⟩ <;> simp [Instr.sliceBounds, hl, hr, Instr.sliceBound, asIntOf]
          refine .inl ⟨_, _, hK, rel_v _, fun w' _ => ?_⟩
          simp only [execOp, Option.map_none, hx, Sem.run_bind, Instr.sliceAt, run_underlying hu, Result.andThen_ok, Instr.slice, hbounds, hsz, Sem.run_pure]
          simp
        · exact .inr h
      · exact .inr h
    · rename_i i b sz e len cap hi' ex
      rw [ex] at hx
      unfold Rel at hx
      obtain ⟨ad, hx, hlc, hcap⟩ := hx
      split at h
      · rename_i el hd
        split at h
        · rename_i j hj
          split at h
          · rename_i hb
            have hb := Nat.eq_of_beq_eq_true hb
            have hu := slice_of hC.ty hi' hd
            have hsz := (hC.ty _ _ hj).sizeOf
            rcases boundSV_sound (ρ := ρ) (u := lo.map a.eval) h (by cases lo <;> rfl) (fun y z e1 e2 => by
              cases lo with
              | none => cases e1
              | some lo => cases e1; cases e2; exact hev _) with h | ⟨l, h, hl⟩
            · exact .inr h
            rcases boundSV_sound (ρ := ρ) (u := hi.map a.eval) h (by cases hi <;> rfl) (fun y z e1 e2 => by
              cases hi with
              | none => cases e1
              | some hi => cases e1; cases e2; exact hev _) with h | ⟨r, h, hr⟩
            · exact .inr h
            obtain ⟨⟨h0, h1, h2⟩, h⟩ := h
            have hbounds : ∀ w', (Instr.sliceBounds true len cap (lo.map a.eval) (hi.map a.eval) none).run C.P w' = .ok (l.toNat, r.toNat, cap) w' := by
              intro w'
              have hrc : r.toNat ≤ cap := by omega
              rcases hl with ⟨hl, rfl⟩ | ⟨k, hl⟩ <;> rcases hr with ⟨hr, rfl⟩ | ⟨k', hr⟩
              · simp [Instr.sliceBounds, hl, hr]
              · have : 0 ≤ r := by omega
                simp [Instr.sliceBounds, hl, hr, Instr.sliceBound, asIntOf, this, h2]
              · have : l ≤ (len : Int) := by omega
                simp [Instr.sliceBounds, hl, hr, Instr.sliceBound, asIntOf, this, h0]
              · have h3 : 0 ≤ r := by omega
                have h4 : l ≤ ((r.toNat : Nat) : Int) := by omega
                have h5 : ((r.toNat : Nat) : Int) = r := by omega
                have h6 : l ≤ max r 0 := by omega
                simp [Instr.sliceBounds, hl, hr, Instr.sliceBound, asIntOf, h3, h2, h0, h6]
            have hrel : Rel ρ (.s b sz (e + l.toNat) (r.toNat - l.toNat) (cap - l.toNat)) (.slice (if cap = l.toNat then ad else ad.map (·.add (l.toNat * sz))) (r.toNat - l.toNat) (cap - l.toNat)) := by
              unfold Rel
              refine ⟨_, rfl, by omega, ?_⟩
              by_cases hc : cap = l.toNat
              · exact .inl (by omega)
              · obtain ⟨had, hhas⟩ := hcap.resolve_left (by omega)
                refine .inr ⟨?_, hhas⟩
                rw [if_neg hc, had]
                simp [loc_add, Nat.add_mul]
            refine .inl ⟨_, _, h, hrel, fun w' _ => ?_⟩
            simp only [execOp, Option.map_none, hx, Sem.run_bind, Instr.sliceAt, run_underlying hu, Result.andThen_ok, Instr.slice, hbounds, hsz, hb, Sem.run_pure]
          · exact .inr h
        · exact .inr h
      · exact .inr h
    · rename_i i b sz e len cap mx hi' ex
      rw [ex] at hx
      unfold Rel at hx
      obtain ⟨ad, hx, hlc, hcap⟩ := hx
      split at h
      · rename_i el hd
        split at h
        · rename_i j hj
          split at h
          · rename_i hi hb
            have hb := Nat.eq_of_beq_eq_true hb
            have hu := slice_of hC.ty hi' hd
            have hsz := (hC.ty _ _ hj).sizeOf
            rcases boundSV_sound (ρ := ρ) (u := lo.map a.eval) h (by cases lo <;> rfl) (fun y z e1 e2 => by
              cases lo with
              | none => cases e1
              | some lo => cases e1; cases e2; exact hev _) with h | ⟨l, h, hl⟩
            · exact .inr h
            rcases boundSV_sound (ρ := ρ) (u := some (a.eval hi)) h rfl (fun y z e1 e2 => by cases e1; cases e2; exact hev _) with h | ⟨r, h, hr⟩
            · exact .inr h
            rcases boundSV_sound (ρ := ρ) (u := some (a.eval mx)) h rfl (fun y z e1 e2 => by cases e1; cases e2; exact hev _) with h | ⟨q, h, hq⟩
            · exact .inr h
            obtain ⟨⟨h0, h1, h2, h3⟩, h⟩ := h
            obtain ⟨k2, hr⟩ := hr.resolve_left (fun e => by cases e.1)
            obtain ⟨k3, hq⟩ := hq.resolve_left (fun e => by cases e.1)
            simp only [Option.some.injEq] at hr hq
            have hbounds : ∀ w', (Instr.sliceBounds true len cap (lo.map a.eval) (some (a.eval hi)) (some (a.eval mx))).run C.P w' = .ok (l.toNat, r.toNat, q.toNat) w' := by
              intro w'
              have p1 : 0 ≤ q := by omega
              have p2 : 0 ≤ r := by omega
              have p3 : r ≤ ((q.toNat : Nat) : Int) := by omega
              have p4 : l ≤ ((r.toNat : Nat) : Int) := by omega
              have p5 : r ≤ max q 0 := by omega
              have p6 : l ≤ max r 0 := by omega
              rcases hl with ⟨hl, rfl⟩ | ⟨k, hl⟩
              · simp [Instr.sliceBounds, hl, hr, hq, Instr.sliceBound, asIntOf, p1, p2, h3, p5]
              · simp [Instr.sliceBounds, hl, hr, hq, Instr.sliceBound, asIntOf, p1, p2, h3, p5, h0, p6]
            have hrel : Rel ρ (.s b sz (e + l.toNat) (r.toNat - l.toNat) (q.toNat - l.toNat)) (.slice (if q.toNat = l.toNat then ad else ad.map (·.add (l.toNat * sz))) (r.toNat - l.toNat) (q.toNat - l.toNat)) := by
              unfold Rel
              refine ⟨_, rfl, by omega, ?_⟩
              by_cases hc : q.toNat = l.toNat
              · exact .inl (by omega)
              · obtain ⟨had, hhas⟩ := hcap.resolve_left (by omega)
                refine .inr ⟨?_, hhas⟩
                rw [if_neg hc, had]
                simp [loc_add, Nat.add_mul]
            refine .inl ⟨_, _, h, hrel, fun w' _ => ?_⟩
            simp only [execOp, Option.map_some, hx, Sem.run_bind, Instr.sliceAt, run_underlying hu, Result.andThen_ok, Instr.slice, hbounds, hsz, hb, Sem.run_pure]
          · exact .inr h
        · exact .inr h
      · exact .inr h
    · rename_i i sz els cap hi' ex
      rw [ex] at hx
      unfold Rel at hx
      obtain ⟨ad, hx, hlc, hcap⟩ := hx
      split at h
      · rename_i el hd
        split at h
        · rename_i j hj
          split at h
          · rename_i hb
            have hb := Nat.eq_of_beq_eq_true hb
            have hu := slice_of hC.ty hi' hd
            have hsz := (hC.ty _ _ hj).sizeOf
            rcases boundSV_sound (ρ := ρ) (u := lo.map a.eval) h (by cases lo <;> rfl) (fun y z e1 e2 => by
              cases lo with
              | none => cases e1
              | some lo => cases e1; cases e2; exact hev _) with h | ⟨l, h, hl⟩
            · exact .inr h
            rcases boundSV_sound (ρ := ρ) (u := hi.map a.eval) h (by cases hi <;> rfl) (fun y z e1 e2 => by
              cases hi with
              | none => cases e1
              | some hi => cases e1; cases e2; exact hev _) with h | ⟨r, h, hr⟩
            · exact .inr h
            obtain ⟨⟨h0, h1, h2⟩, h⟩ := h
            have hbounds : ∀ w', (Instr.sliceBounds true els.length cap (lo.map a.eval) (hi.map a.eval) none).run C.P w' = .ok (l.toNat, r.toNat, cap) w' := by
              intro w'
              have hrc : r.toNat ≤ cap := by omega
              have h2' : r ≤ (cap : Int) := by omega
              rcases hl with ⟨hl, rfl⟩ | ⟨k, hl⟩ <;> rcases hr with ⟨hr, rfl⟩ | ⟨k', hr⟩
              · simp [Instr.sliceBounds, hl, hr]
              · have : 0 ≤ r := by omega
                simp [Instr.sliceBounds, hl, hr, Instr.sliceBound, asIntOf, this, h2']
              · have : l ≤ (els.length : Int) := by omega
                simp [Instr.sliceBounds, hl, hr, Instr.sliceBound, asIntOf, this, h0]
              · have h3 : 0 ≤ r := by omega
                have h4 : l ≤ ((r.toNat : Nat) : Int) := by omega
                have h5 : ((r.toNat : Nat) : Int) = r := by omega
                have h6 : l ≤ max r 0 := by omega
                simp [Instr.sliceBounds, hl, hr, Instr.sliceBound, asIntOf, h3, h2', h0, h6]
            have hrel : Rel ρ (.z sz ((els.drop l.toNat).take (r.toNat - l.toNat)) (cap - l.toNat)) (.slice (if cap = l.toNat then ad else ad.map (·.add (l.toNat * sz))) (r.toNat - l.toNat) (cap - l.toNat)) := by
              have hlen : ((els.drop l.toNat).take (r.toNat - l.toNat)).length = r.toNat - l.toNat := by simp; omega
              unfold Rel
              refine ⟨_, by rw [hlen], by rw [hlen]; omega, ?_⟩
              by_cases hc : cap = l.toNat
              · exact .inl (by omega)
              · obtain ⟨b, o, rfl, hz⟩ := hcap.resolve_left (by omega)
                refine .inr ⟨b, o + l.toNat * sz, ?_, (hz.drop _).take _⟩
                rw [if_neg hc]
                simp [add_none]
            refine .inl ⟨_, _, h, hrel, fun w' _ => ?_⟩
            simp only [execOp, Option.map_none, hx, Sem.run_bind, Instr.sliceAt, run_underlying hu, Result.andThen_ok, Instr.slice, hbounds, hsz, hb, Sem.run_pure]
          · exact .inr h
        · exact .inr h
      · exact .inr h
    · rename_i i sz els cap mx hi' ex
      rw [ex] at hx
      unfold Rel at hx
      obtain ⟨ad, hx, hlc, hcap⟩ := hx
      split at h
      · rename_i el hd
        split at h
        · rename_i j hj
          split at h
          · rename_i hi hb
            have hb := Nat.eq_of_beq_eq_true hb
            have hu := slice_of hC.ty hi' hd
            have hsz := (hC.ty _ _ hj).sizeOf
            rcases boundSV_sound (ρ := ρ) (u := lo.map a.eval) h (by cases lo <;> rfl) (fun y z e1 e2 => by
              cases lo with
              | none => cases e1
              | some lo => cases e1; cases e2; exact hev _) with h | ⟨l, h, hl⟩
            · exact .inr h
            rcases boundSV_sound (ρ := ρ) (u := some (a.eval hi)) h rfl (fun y z e1 e2 => by cases e1; cases e2; exact hev _) with h | ⟨r, h, hr⟩
            · exact .inr h
            rcases boundSV_sound (ρ := ρ) (u := some (a.eval mx)) h rfl (fun y z e1 e2 => by cases e1; cases e2; exact hev _) with h | ⟨q, h, hq⟩
            · exact .inr h
            obtain ⟨⟨h0, h1, h2e, h2, h3⟩, h⟩ := h
            obtain ⟨k2, hr⟩ := hr.resolve_left (fun e => by cases e.1)
            obtain ⟨k3, hq⟩ := hq.resolve_left (fun e => by cases e.1)
            simp only [Option.some.injEq] at hr hq
            have hbounds : ∀ w', (Instr.sliceBounds true els.length cap (lo.map a.eval) (some (a.eval hi)) (some (a.eval mx))).run C.P w' = .ok (l.toNat, r.toNat, q.toNat) w' := by
              intro w'
              have p1 : 0 ≤ q := by omega
              have p2 : 0 ≤ r := by omega
              have p3 : r ≤ ((q.toNat : Nat) : Int) := by omega
              have p4 : l ≤ ((r.toNat : Nat) : Int) := by omega
              have p5 : r ≤ max q 0 := by omega
              have p6 : l ≤ max r 0 := by omega
              rcases hl with ⟨hl, rfl⟩ | ⟨k, hl⟩
              · simp [Instr.sliceBounds, hl, hr, hq, Instr.sliceBound, asIntOf, p1, p2, h3, p5]
              · simp [Instr.sliceBounds, hl, hr, hq, Instr.sliceBound, asIntOf, p1, p2, h3, p5, h0, p6]
            have hrel : Rel ρ (.z sz ((els.drop l.toNat).take (r.toNat - l.toNat)) (q.toNat - l.toNat)) (.slice (if q.toNat = l.toNat then ad else ad.map (·.add (l.toNat * sz))) (r.toNat - l.toNat) (q.toNat - l.toNat)) := by
              have hlen : ((els.drop l.toNat).take (r.toNat - l.toNat)).length = r.toNat - l.toNat := by simp; omega
              unfold Rel
              refine ⟨_, by rw [hlen], by rw [hlen]; omega, ?_⟩
              by_cases hc : q.toNat = l.toNat
              · exact .inl (by omega)
              · obtain ⟨b, o, rfl, hz⟩ := hcap.resolve_left (by omega)
                refine .inr ⟨b, o + l.toNat * sz, ?_, (hz.drop _).take _⟩
                rw [if_neg hc]
                simp [add_none]
            refine .inl ⟨_, _, h, hrel, fun w' _ => ?_⟩
            simp only [execOp, Option.map_some, hx, Sem.run_bind, Instr.sliceAt, run_underlying hu, Result.andThen_ok, Instr.slice, hbounds, hsz, hb, Sem.run_pure]
          · exact .inr h
        · exact .inr h
      · exact .inr h
    · exact .inr h
  · -- builtins
    rename_i b args argTypes
    have hargs := relL_map hev args.toList
    split at h
    · rename_i x ex
      rw [ex] at hargs
      unfold RelL RelL at hargs
      obtain ⟨u, us, hus, hu, rfl⟩ := hargs
      rcases lenStr_sound hC.ty h hu with h | ⟨t, b, rfl, h, rfl, hd⟩
      rotate_left
      · have ha : args.map a.eval = #[.string b] := Array.ext' (by simpa using hus)
        exact .inl ⟨_, _, h, rel_v _, fun w' _ => by simp [execOp, resolve, invoke, builtin, ha, Builtin.len_, run_underlying hd, goInt]⟩
      rcases lenSV_sound hC.ty h hu with h | ⟨t, ad, n, c, e, rfl, h, rfl, hd⟩
      · exact .inr h
      have ha : args.map a.eval = #[.slice ad n c] := Array.ext' (by simpa using hus)
      exact .inl ⟨_, _, h, rel_v _, fun w' _ => by simp [execOp, resolve, invoke, builtin, ha, Builtin.len_, run_underlying hd, goInt]⟩
    · rename_i x ex
      rw [ex] at hargs
      unfold RelL RelL at hargs
      obtain ⟨u, us, hus, hu, rfl⟩ := hargs
      rcases lenSV_sound hC.ty h hu with h | ⟨t, ad, n, c, e, rfl, h, rfl, hd⟩
      · exact .inr h
      have ha : args.map a.eval = #[.slice ad n c] := Array.ext' (by simpa using hus)
      exact .inl ⟨_, _, h, rel_v _, fun w' _ => by simp [execOp, resolve, invoke, builtin, ha, Builtin.cap_, run_underlying hd, goInt]⟩
    · rename_i k x l ex
      rw [ex] at hargs
      unfold RelL at hargs
      obtain ⟨u, us, hus, hu, hr⟩ := hargs
      unfold Rel at hu
      subst hu
      rcases minSV_sound false k hr h with ⟨y, h, hrun⟩ | h
      · have ha : (args.map a.eval).toList = .int k x :: us := by simpa using hus
        refine .inl ⟨_, _, h, rel_v _, fun w' _ => ?_⟩
        have := hrun C.P w'
        simp only [cond_false] at this
        simp [execOp, resolve, invoke, builtin, Builtin.min_, hus, this]
      · exact .inr h
    · rename_i k x l ex
      rw [ex] at hargs
      unfold RelL at hargs
      obtain ⟨u, us, hus, hu, hr⟩ := hargs
      unfold Rel at hu
      subst hu
      rcases minSV_sound true k hr h with ⟨y, h, hrun⟩ | h
      · have ha : (args.map a.eval).toList = .int k x :: us := by simpa using hus
        refine .inl ⟨_, _, h, rel_v _, fun w' _ => ?_⟩
        have := hrun C.P w'
        simp only [cond_true] at this
        simp [execOp, resolve, invoke, builtin, Builtin.max_, hus, this]
      · exact .inr h
    · exact .inr h
  · exact .inr h
end Go.Proofs.Ytkcdomafdjpbjaa
