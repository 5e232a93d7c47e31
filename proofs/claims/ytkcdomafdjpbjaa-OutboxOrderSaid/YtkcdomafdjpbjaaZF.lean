/- Functions and calls. -/
import Derived.Test.YtkcdomafdjpbjaaZC
namespace Go.Proofs.Ytkcdomafdjpbjaa
open Go.RowKit

def envOf (P : Program) (ρ : Plc) (bs : List SB) (G : List (Nat × SB)) (w : World) : Env :=
  { P, w0 := w, O := fun n => ∃ k b, bs[k]? = some b ∧ b.isOwn ∧ (ρ.at_ (.o k)).1 = n, ρ0 := fun k => ρ.at_ (.o k), n0 := bs.length, gl := G, z0 := ρ.z, gh := ρ.gh }
/-- What a function comes to, called with what is known of its arguments' blocks. -/
structure FnOK (P : Program) (G : List (Nat × SB)) (f : Nat) (bs : List SB) (args : List SV) (K : SV → List SB → List SB → Prop) : Prop where
  ent : Enters P f
  out : ∀ (ρ : Plc) w us, (∀ b, ρ.q b = none) → MemOK ρ ⟨G, bs, []⟩ w → RelL ρ args us → Calls P f us.toArray w fun e w' =>
    ∃ ρ' r bs' ext u, e = .returned u ∧ Holds (envOf P ρ bs G w) ρ' ⟨G, bs', ext⟩ w' ∧ Rel ρ' r u ∧ K r bs' ext
theorem FnOK.mono {P : Program} {G : List (Nat × SB)} {f : Nat} {bs : List SB} {args : List SV} {K K' : SV → List SB → List SB → Prop} (h : FnOK P G f bs args K) (hk : ∀ r bs' ext, K r bs' ext → K' r bs' ext) : FnOK P G f bs args K' :=
  ⟨h.ent, fun ρ w us hq hm hr => (h.out ρ w us hq hm hr).mono fun e w' ⟨ρ', r, bs', ext, u, h1, h2, h3, h4⟩ => ⟨ρ', r, bs', ext, u, h1, h2, h3, hk _ _ _ h4⟩⟩

def slotsFrom : Nat → List SV → List (Nat × SV)
  | _, [] => []
  | k, x :: l => (k, x) :: slotsFrom (k + 1) l
def startSt (args : List SV) (nt : Nat) (m : Mem) : St := { slots := slotsFrom 0 args, nt := nt, mem := m }
theorem slotsFrom_get : ∀ (l : List SV) (k t : Nat), assoc (slotsFrom k l) t = if k ≤ t then l[t - k]? else none
  | [], k, t => by simp [slotsFrom, assoc]
  | x :: l, k, t => by
    unfold slotsFrom
    rw [assoc_cons, slotsFrom_get l (k + 1) t]
    by_cases h : k = t
    · subst h; simp
    · rw [if_neg h]
      by_cases h2 : k ≤ t
      · rw [if_pos h2, if_pos (by omega), show t - k = (t - (k + 1)) + 1 by omega]; rfl
      · rw [if_neg h2, if_neg (by omega)]
def startL : Nat → List SV → (List (Nat × SV) → Prop) → Prop
  | _, [], K => K []
  | k, x :: l, K => forceSV x fun x => startL (k + 1) l fun r => K ((k, x) :: r)
theorem startL_spec : ∀ {l : List SV} {k : Nat} {K : List (Nat × SV) → Prop}, startL k l K → K (slotsFrom k l)
  | [], _, _, h => h
  | x :: l, k, K, h => by
    unfold startL at h
    exact startL_spec (l := l) (K := fun r => K ((k, x) :: r)) (forceSV_spec (K := fun x => startL (k + 1) l fun r => K ((k, x) :: r)) h)
def startK (args : List SV) (nt : Nat) (m : Mem) (K : St → Prop) : Prop := startL 0 args fun l => forceM m fun m => K { slots := l, nt := nt, mem := m }
theorem startK_spec {args : List SV} {nt : Nat} {m : Mem} {K : St → Prop} (h : startK args nt m K) : K (startSt args nt m) :=
  forceM_spec (K := fun m => K { slots := slotsFrom 0 args, nt := nt, mem := m }) (startL_spec (K := fun l => forceM m fun m => K { slots := l, nt := nt, mem := m }) h)
theorem startSt_ok {ρ : Plc} {args : List SV} {us : List Value} (h : RelL ρ args us) {nt : Nat} (hn : args.length ≤ nt) (m : Mem) :
    ActOK ρ (startSt args nt m) { tmps := us.toArray ++ Array.replicate (nt - us.toArray.size) undef, defers := [] } where
  rel t := by
    unfold startSt St.get
    simp only [slotsFrom_get, Nat.zero_le, if_true, Nat.sub_zero]
    cases e : args[t]? with
    | none => simp only; unfold Rel; trivial
    | some x =>
      obtain ⟨u, hu, hr⟩ := h.get e
      have hl := getElem?_lt hu
      simp only
      unfold tmpAt
      rw [if_pos (by have := h.len; omega)]
      rw [Array.getD_eq_getD_getElem?, Array.getElem?_append_left (by simpa using hl)]
      simp [hu, hr]
  size := by
    have := h.len
    simp [startSt]; omega
  defers := ⟨[], List.nodup_nil, rfl, fun D hD => by cases hD⟩

def vres (C : Ctx) (s : St) : List ResultVar → (List SV → Prop) → Prop
  | [], K => K []
  | .tmp t :: r, K => vres C s r fun l => K (s.ev (.tmp t) :: l)
  | .cell a t :: r, K => loadSV C s.mem t (s.ev (.tmp a)) fun x => vres C s r fun l => K (x :: l)
def oneOf : List SV → SV
  | [x] => x
  | l => .tup l
def retK (C : Ctx) (rs : List ResultVar) (K : SV → List SB → List SB → Prop) : Exit → St → Prop
  | .normal, s => vres C s rs fun l => forceSV (oneOf l) fun r => forceM s.mem fun m => K r m.old m.ext
  | .ret, s => vres C s rs fun l => forceSV (oneOf l) fun r => forceM s.mem fun m => K r m.old m.ext
  | _, _ => False
def resF (tmps : Array Value) : ResultVar → Sem Value
  | .tmp t => pure (tmps.getD t undef)
  | .cell x t => do loadVar t (← asAddr (tmps.getD x undef))
theorem results_eq (fn : Func) (tmps : Array Value) : results fn tmps = (do
    let vs ← fn.results.mapM (resF tmps)
    pure (if h : vs.size = 1 then vs[0] else .tuple vs)) := by
  unfold results
  congr 2
theorem vres_sound {C : Ctx} (hC : C.ok) {ρ : Plc} {s : St} {a : Act} {w : World} (ha : ActOK ρ s a) (hm : MemOK ρ s.mem w) : ∀ {rs : List ResultVar} {K : List SV → Prop}, vres C s rs K →
    ∃ l us, K l ∧ RelL ρ l us ∧ (rs.mapM (resF a.tmps)).run C.P w = .ok us w
  | [], K, h => ⟨[], [], h, by unfold RelL; rfl, by simp⟩
  | .tmp t :: r, K, h => by
    obtain ⟨l, us, h1, h2, h3⟩ := vres_sound hC ha hm (rs := r) h
    refine ⟨_, a.tmps.getD t undef :: us, h1, by unfold RelL; exact ⟨_, _, rfl, ha.ev hm.glob (.tmp t), h2⟩, ?_⟩
    simp only [List.mapM_cons, resF, Sem.run_bind, Sem.run_pure, Result.andThen_ok, h3]
  | .cell x t :: r, K, h => by
    obtain ⟨sv, v, h1, h2, ad, h3, h4⟩ := loadSV_sound hC hm.blks h (ha.ev hm.glob (.tmp x))
    have h3 : a.tmps.getD x undef = .pointer (some ad) := h3
    obtain ⟨l, us, k1, k2, k3⟩ := vres_sound hC ha hm (rs := r) h1
    refine ⟨_, v :: us, k1, by unfold RelL; exact ⟨_, _, rfl, h2, k2⟩, ?_⟩
    simp only [List.mapM_cons, resF, Sem.run_bind, h3, asAddr, Sem.run_pure, Result.andThen_ok, h4 w hm.same, k3]
theorem oneOf_rel {ρ : Plc} : ∀ {l : List SV} {us : List Value}, RelL ρ l us → ∃ u, Rel ρ (oneOf l) u ∧ (if h : us.toArray.size = 1 then us.toArray[0] else .tuple us.toArray) = u
  | [], us, h => by
    unfold RelL at h
    subst h
    exact ⟨_, by unfold oneOf Rel; exact ⟨[], rfl, by unfold RelL; rfl⟩, rfl⟩
  | [x], us, h => by
    unfold RelL RelL at h
    obtain ⟨u, r, rfl, hu, rfl⟩ := h
    exact ⟨u, hu, rfl⟩
  | x :: y :: l, us, h => by
    have hl := h.len
    simp only [List.length_cons] at hl
    refine ⟨_, by unfold oneOf Rel; exact ⟨us, rfl, h⟩, ?_⟩
    rw [dif_neg (by simp; omega)]

theorem retK_spec {C : Ctx} {rs : List ResultVar} {K : SV → List SB → List SB → Prop} {e : Exit} {s : St} (h : retK C rs K e s) : vres C s rs fun l => K (oneOf l) s.mem.old s.mem.ext := by
  have key : ∀ (rs : List ResultVar) (F G : List SV → Prop), (∀ l, F l → G l) → vres C s rs F → vres C s rs G := by
    intro rs
    induction rs with
    | nil => intro F G hFG h; exact hFG _ h
    | cons r rs ih =>
      intro F G hFG h
      cases r with
      | tmp t => exact ih _ _ (fun l hl => hFG _ hl) h
      | cell a t => exact loadSV_mono (fun x hx => ih _ _ (fun l hl => hFG _ hl) hx) h
  cases e with
  | normal => exact key _ _ _ (fun l hl => forceM_spec (K := fun m => K (oneOf l) m.old m.ext) (forceSV_spec (K := fun r => forceM s.mem fun m => K r m.old m.ext) hl)) h
  | ret => exact key _ _ _ (fun l hl => forceM_spec (K := fun m => K (oneOf l) m.old m.ext) (forceSV_spec (K := fun r => forceM s.mem fun m => K r m.old m.ext) hl)) h
  | exit _ => exact h.elim
  | goto _ => exact h.elim
  | panic _ => exact h.elim
  | outgrown => exact h.elim
def SB.isFix : SB → Prop
  | .cst .. => True
  | b => b.isOwn
theorem SB.fix_of_own : ∀ {b : SB}, b.isOwn → b.isFix
  | .box .., h => h
  | .row .., h => h
  | .cst .., h => h.elim
  | .dead, h => h.elim
  | .ro .., h => h.elim
def noOwn (G : List (Nat × SB)) : Prop := ∀ x b, assoc G x = some b → ¬ b.isFix

/-! ### What is taken up at a call's end -/
mutual
theorem Rel.noq {ρ : Plc} (q' : Nat → Option Obj) : ∀ {x : SV} {u : Value}, Rel ρ x u → Rel { ρ with q := q' } x u
  | .any, u, h => by unfold Rel at *; exact h
  | .v x, u, h => by unfold Rel at *; exact h
  | .z .., u, h => by unfold Rel at *; exact h
  | .zp _, u, h => by unfold Rel at *; exact h
  | .p .., u, h => by unfold Rel at *; exact h
  | .s .., u, h => by unfold Rel at *; exact h
  | .agg l, u, h => by unfold Rel at *; obtain ⟨us, h1, h2⟩ := h; exact ⟨us, h1, h2.noq q'⟩
  | .tup l, u, h => by unfold Rel at *; obtain ⟨us, h1, h2⟩ := h; exact ⟨us, h1, h2.noq q'⟩
  | .fn f l, u, h => by unfold Rel at *; obtain ⟨us, h1, h2⟩ := h; exact ⟨us, h1, h2.noq q'⟩
  | .bm f l, u, h => by unfold Rel at *; obtain ⟨us, h1, h2⟩ := h; exact ⟨us, h1, h2.noq q'⟩
theorem RelL.noq {ρ : Plc} (q' : Nat → Option Obj) : ∀ {l : List SV} {us : List Value}, RelL ρ l us → RelL { ρ with q := q' } l us
  | [], us, h => by unfold RelL at *; exact h
  | x :: l, us, h => by
    unfold RelL at *
    obtain ⟨u, r, h1, h2, h3⟩ := h
    exact ⟨u, r, h1, h2.noq q', h3.noq q'⟩
end
theorem BlkOK.noq {ρ : Plc} (q' : Nat → Option Obj) {b : Nat × Nat} {w : World} : ∀ {B : SB}, BlkOK ρ b B w → BlkOK { ρ with q := q' } b B w
  | .dead, _ => trivial
  | .ro .., h => h
  | .row .., h => h
  | .box .., ⟨h1, us, h2, h3⟩ => ⟨h1, us, h2.noq q', h3⟩
  | .cst .., ⟨h1, us, h2, h3⟩ => ⟨h1, us, h2.noq q', h3⟩
/-- All that is cells is as it was. -/
structure CellsSame (w w' : World) : Prop where
  size : w.heap.size ≤ w'.heap.size
  blk : ∀ (n : Nat) (o : Obj), w.heap[n]? = some o → o.isCells = true → w'.heap[n]? = some o
theorem CellsSame.cell {w w' : World} (h : CellsSame w w') {a : Addr} {v : Value} (hc : w.cell? a = some v) : w'.cell? a = some v := by
  obtain ⟨o, h1, h2⟩ := cells_of_cell hc
  rw [World.cell?_of_block (w := w) ((h.blk _ _ h1 h2).trans h1.symm)]
  exact hc
theorem BlkOK.cellsSame {ρ : Plc} {b : Nat × Nat} {w w' : World} (h : CellsSame w w') : ∀ {B : SB}, BlkOK ρ b B w → BlkOK ρ b B w'
  | .dead, _ => trivial
  | .ro .., ⟨raw, hr, k⟩ => ⟨raw, hr, fun hne => Nat.lt_of_lt_of_le (k.1 hne) h.size, fun e c he => ⟨(k.2 e c he).1, fun j u hu => h.cell ((k.2 e c he).2 j u hu)⟩⟩
  | .row .., ⟨raw, hr, k1, k2, k3⟩ => ⟨raw, hr, k1, k2, fun hc => by
      obtain ⟨k4, k5, cur, k6, k7⟩ := k3 hc
      exact ⟨k4, k5, cur, h.blk _ _ k6 rfl, k7⟩⟩
  | .box .., ⟨h1, us, h2, h3⟩ => ⟨h1, us, h2, h.blk _ _ h3 rfl⟩
  | .cst .., ⟨h1, us, h2, h3⟩ => ⟨h1, us, h2, h.blk _ _ h3 rfl⟩
theorem cellsSame_put {w : World} {D : Nat} {o o' : Obj} (h : w.heap[D]? = some o) (ho : o.isCells = false) : CellsSame w (w.putObj D o') :=
  ⟨by simp, fun n x hx hc => by
    rw [World.putObj_heap_other]
    · exact hx
    · rintro rfl
      rw [h] at hx
      cases hx
      rw [ho] at hc
      cases hc⟩
/-- A block of book-keeping is done with. -/
theorem Holds.unq {E : Env} {ρ : Plc} {m : Mem} {w : World} (h : Holds E ρ m w) (hr : E.r = none ∧ E.q0 = fun _ => none) {D : Nat} {ds : Option (List Deferred)} (hD : ρ.q D = some (.deferred ds)) (o' : Obj) :
    Holds E { ρ with q := fun b => if b = D then none else ρ.q b } m (w.putObj D o') := by
  obtain ⟨h1, h2⟩ := h.mem.fq _ _ hD
  have hc : CellsSame w (w.putObj D o') := cellsSame_put h1 h2
  refine ⟨⟨fun a A ha => ((h.mem.blk a A ha).noq _).cellsSame hc, h.mem.sep, h.mem.glob, h.mem.nx, fun b o v hz => hc.cell (h.mem.fz b o v hz), h.mem.sepz, fun b o hq => ?_⟩, h.low, h.new, h.old, h.len, h.gl, h.os, h.tape, h.output, Nat.le_trans h.size hc.size, fun n hn hO => ?_, ⟨fun b o hq => ?_, fun l hl => ?_⟩, fun b ds hq => ?_, h.zn, h.zk, h.gh⟩
  · simp only at hq
    split at hq
    · cases hq
    · rename_i hne
      rw [World.putObj_heap_other hne]
      exact h.mem.fq b o hq
  · have := h.ql _ _ hD
    rw [World.putObj_heap_other (by omega)]
    exact h.fr n hn hO
  · rw [hr.2] at hq; cases hq
  · rw [hr.1] at hl; cases hl
  · simp only at hq
    split at hq
    · cases hq
    · exact h.ql b ds hq
/-- The marks are taken up, one by one. -/
theorem leaves_of {C : Seat} {E : Env} (hr : E.r = none ∧ E.q0 = fun _ => none) {fn : Func} {tmps : Array Value} {R : Ending → World → Prop} : ∀ {Ds : List Nat} {ρ : Plc} {m : Mem} {w : World}, Ds.Nodup → (∀ D ∈ Ds, ρ.q D = some (.deferred (some []))) → Holds E ρ m w →
    (∀ q' w', Holds E { ρ with q := q' } m w' → ∃ v, (results fn tmps).run C.P w' = .ok v w' ∧ R (.returned v) w') → LeavesInM Fence.wide 0 C.P fn tmps R (Ds.map markOf) .returning w
  | [], ρ, m, w, _, _, hH, h => by
    obtain ⟨v, h1, h2⟩ := h ρ.q w hH
    exact ⟨v, h1, h2⟩
  | D :: Ds, ρ, m, w, hd, hq, hH, h => by
    obtain ⟨hd1, hd2⟩ := List.nodup_cons.1 hd
    have hD := hq D (by simp)
    refine ⟨by simp, .inl ⟨D, _, rfl, run_takeDeferred (hH.mem.fq _ _ hD).1, ?_⟩⟩
    refine leaves_of (C := C) hr hd2 (fun D' hD' => ?_) (hH.unq hr hD (.deferred none)) (fun q' w' hH' => h q' w' hH')
    have : D' ≠ D := by rintro rfl; exact hd1 hD'
    simp only [if_neg this]
    exact hq D' (by simp [hD'])
/-- A function's contract, out of what its body leaves to show. -/
theorem fn_intro {C : Seat} (hC : C.ok) (pl : List (Nat × PT)) {G : List (Nat × SB)} (hG : noOwn G) {f : Nat} {fn : Func} {c : Code} (hf : C.P.funcs[f]? = some fn) (hb : fn.body = some c) (hname : (fn.name == "runtime.NumGoroutine") = false)
    {bs : List SB} {args : List SV} {nt : Nat} {rs : List ResultVar} (hnt : fn.ntmps = nt) (hrs : fn.results.toList = rs) (hn : Nat.ble args.length nt = true) {K : SV → List SB → List SB → Prop} (h : startK args nt ⟨G, bs, []⟩ fun s => vc C pl c s (retK C.toCtx rs K)) : FnOK C.P G f bs args K := by
  subst hnt; subst hrs
  replace h := startK_spec (K := fun s => vc C pl c s (retK C.toCtx fn.results.toList K)) h
  refine ⟨⟨fn, hf, by rw [hb]; rfl, hname⟩, fun ρ w us hq hm hr => (callsIn_wide (n := 0)).1 (callsIn_of_wp_marks hf hb trivial ?_)⟩
  have hH : Holds (envOf C.P ρ bs G w) ρ ⟨G, bs, []⟩ w := by
    refine ⟨hm, ?_, ?_, fun _ => rfl, rfl, rfl, rfl, rfl, rfl, Nat.le_refl _, fun _ _ _ => rfl, ⟨fun b o hb => (by cases hb), fun l hl => (by cases hl)⟩, (fun b ds hb => by rw [hq] at hb; cases hb), fun b o v hz => .inl ⟨o, v, hz⟩, fun b o v hz => hz, rfl⟩
    · intro a A ha hA
      cases a with
      | o k => exact .inl ⟨k, A, ha, hA, rfl⟩
      | n i => simp [Mem.look] at ha
      | g x => exact (hG x A ha (SB.fix_of_own hA)).elim
    · intro i B hi
      simp at hi
  refine wpIn_mono ((vc_sound hC h).out (envOf C.P ρ bs G w) ρ _ w rfl (startSt_ok hr (Nat.le_of_ble_eq_true hn) _) hH) ?_
  intro e a' w' hp
  have key : ∀ (ρ' : Plc) (s : St), ActOK ρ' s a' → Holds (envOf C.P ρ bs G w) ρ' s.mem w' → (vres C.toCtx s fn.results.toList fun l => K (oneOf l) s.mem.old s.mem.ext) →
      LeavesInM Fence.wide 0 C.P fn a'.tmps (fun e w' => ∃ ρ' r bs' ext u, e = .returned u ∧ Holds (envOf C.P ρ bs G w) ρ' ⟨G, bs', ext⟩ w' ∧ Rel ρ' r u ∧ K r bs' ext) a'.defers .returning w' := by
    intro ρ' s h1 h2 h4
    obtain ⟨Ds, d1, d2, d3⟩ := h1.defers
    rw [d2]
    refine leaves_of (C := C) (E := envOf C.P ρ bs G w) ⟨rfl, rfl⟩ d1 d3 h2 fun q' w2 hH2 => ?_
    have hA : ActOK { ρ' with q := q' } s { tmps := a'.tmps, defers := [] } := ⟨fun t => (h1.rel t).noq q', h1.size, [], List.nodup_nil, rfl, fun D hD => by cases hD⟩
    obtain ⟨l, us', k1, k2, k3⟩ := vres_sound hC.ty hA hH2.mem h4
    obtain ⟨u, k4, k5⟩ := oneOf_rel k2
    refine ⟨u, ?_, _, oneOf l, s.mem.old, s.mem.ext, u, rfl, ?_, k4, k1⟩
    · have harr : (fn.results.mapM (resF a'.tmps)).run C.P w2 = .ok us'.toArray w2 := by
        rw [Array.mapM_eq_mapM_toList]
        show (List.toArray <$> fn.results.toList.mapM (resF a'.tmps)).run C.P w2 = _
        rw [map_eq_pure_bind, Sem.run_bind, k3]
        rfl
      rw [results_eq]
      rw [Sem.run_bind, harr]
      simp only [Result.andThen_ok, Sem.run_pure, k5]
    · have : s.mem = ⟨G, s.mem.old, s.mem.ext⟩ := by
        have := hH2.gl
        cases hs : s.mem with
        | mk g o x => rw [hs] at this; simp only at this; rw [this]; rfl
      rw [← this]; exact hH2
  cases e with
  | normal =>
    obtain ⟨ρ', s, h1, h2, h3, h4⟩ := hp
    exact key ρ' s h1 h2 (retK_spec (e := .normal) h4)
  | ret =>
    obtain ⟨ρ', s, h1, h2, h3, h4⟩ := hp
    exact key ρ' s h1 h2 (retK_spec (e := .ret) h4)
  | exit i => obtain ⟨ρ', s, h1, h2, h3, h4⟩ := hp; exact h4.elim
  | goto l => exact hp
  | panic l => exact hp.elim
  | outgrown => exact hp.elim

/-! ### A call -/
def renN (ns : List Nm) (base : Nat) : Nm → Nm
  | .o k => ns.getD k (.g 0)
  | .n i => .n (base + i)
  | .g x => .g x
mutual
def SV.ren (σ : Nm → Nm) : SV → SV
  | .any => .any
  | .v x => .v x
  | .z sz els cap => .z sz els cap
  | .zp c => .zp c
  | .p a e sz f => .p (σ a) e sz f
  | .s a sz e len cap => .s (σ a) sz e len cap
  | .agg l => .agg (renL σ l)
  | .tup l => .tup (renL σ l)
  | .fn g l => .fn g (renL σ l)
  | .bm g l => .bm g (renL σ l)
def renL (σ : Nm → Nm) : List SV → List SV
  | [] => []
  | x :: l => x.ren σ :: renL σ l
end
def SB.ren (σ : Nm → Nm) : SB → SB
  | .box t cells => .box t (renL σ cells)
  | .cst t cells => .cst t (renL σ cells)
  | b => b
theorem renL_len (σ : Nm → Nm) : ∀ l, (renL σ l).length = l.length
  | [] => by unfold renL; rfl
  | x :: l => by unfold renL; simp [renL_len σ l]
structure RenOK (ρ ρ' : Plc) (σ : Nm → Nm) : Prop where
  has : ∀ a, ρ.has a → ρ'.has (σ a)
  eq : ∀ a, ρ.has a → ρ'.at_ (σ a) = ρ.at_ a
  z : ∀ b o v, ρ.z b o = some v → ρ'.z b o = some v
theorem RenOK.loc {ρ ρ' : Plc} {σ : Nm → Nm} (k : RenOK ρ ρ' σ) {a : Nm} (h : ρ.has a) (off : Nat) : locA ρ' (σ a) off = locA ρ a off := by unfold locA; rw [k.eq a h]
mutual
theorem Rel.ren {ρ ρ' : Plc} {σ : Nm → Nm} (k : RenOK ρ ρ' σ) : ∀ {x : SV} {u : Value}, Rel ρ x u → Rel ρ' (x.ren σ) u
  | .any, u, _ => by unfold SV.ren Rel; trivial
  | .v x, u, h => by unfold SV.ren; unfold Rel at *; exact h
  | .z sz els cap, u, h => by
    unfold SV.ren; unfold Rel at *
    obtain ⟨ad, h1, h2, h3⟩ := h
    exact ⟨ad, h1, h2, h3.imp id fun ⟨b, o, e, r⟩ => ⟨b, o, e, r.mono k.z⟩⟩
  | .zp cells, u, h => by
    unfold SV.ren; unfold Rel at *
    obtain ⟨b, o, us, h1, h2, h3⟩ := h
    exact ⟨b, o, us, h1, h2.mono k.z, fun j v e => k.z _ _ _ (h3 j v e)⟩
  | .p a e sz f, u, h => by unfold SV.ren; unfold Rel at *; exact ⟨by rw [k.loc h.2]; exact h.1, k.has _ h.2⟩
  | .s a sz e len cap, u, h => by
    unfold SV.ren; unfold Rel at *
    obtain ⟨ad, h1, h2, h3⟩ := h
    exact ⟨ad, h1, h2, h3.imp id fun h => ⟨by rw [k.loc h.2]; exact h.1, k.has _ h.2⟩⟩
  | .agg l, u, h => by
    unfold SV.ren; unfold Rel at *
    obtain ⟨us, h1, h2⟩ := h
    exact ⟨us, h1, h2.ren k⟩
  | .tup l, u, h => by
    unfold SV.ren; unfold Rel at *
    obtain ⟨us, h1, h2⟩ := h
    exact ⟨us, h1, h2.ren k⟩
  | .fn g l, u, h => by
    unfold SV.ren; unfold Rel at *
    obtain ⟨us, h1, h2⟩ := h
    exact ⟨us, h1, h2.ren k⟩
  | .bm g l, u, h => by
    unfold SV.ren; unfold Rel at *
    obtain ⟨us, h1, h2⟩ := h
    exact ⟨us, h1, h2.ren k⟩
theorem RelL.ren {ρ ρ' : Plc} {σ : Nm → Nm} (k : RenOK ρ ρ' σ) : ∀ {l : List SV} {us : List Value}, RelL ρ l us → RelL ρ' (renL σ l) us
  | [], us, h => by unfold renL; unfold RelL at *; exact h
  | x :: l, us, h => by
    unfold renL; unfold RelL at *
    obtain ⟨u, r, h1, h2, h3⟩ := h
    exact ⟨u, r, h1, h2.ren k, h3.ren k⟩
end
mutual
theorem Rel.unren {ρ ρ' : Plc} {σ : Nm → Nm} (hz : ∀ b o v, ρ'.z b o = some v → ρ.z b o = some v) (hh : ∀ a, ρ'.has (σ a) → ρ.has a ∧ ρ'.at_ (σ a) = ρ.at_ a) : ∀ {x : SV} {u : Value}, Rel ρ' (x.ren σ) u → Rel ρ x u
  | .any, u, _ => by unfold Rel; trivial
  | .v x, u, h => by unfold SV.ren at h; unfold Rel at *; exact h
  | .z sz els cap, u, h => by
    unfold SV.ren at h; unfold Rel at *
    obtain ⟨ad, h1, h2, h3⟩ := h
    exact ⟨ad, h1, h2, h3.imp id fun ⟨b, o, e, r⟩ => ⟨b, o, e, r.mono hz⟩⟩
  | .zp cells, u, h => by
    unfold SV.ren at h; unfold Rel at *
    obtain ⟨b, o, us, h1, h2, h3⟩ := h
    exact ⟨b, o, us, h1, h2.mono hz, fun j v e => hz _ _ _ (h3 j v e)⟩
  | .p a e sz f, u, h => by
    unfold SV.ren at h; unfold Rel at *
    obtain ⟨h1, h2⟩ := hh a h.2
    exact ⟨by have := h.1; unfold locA at *; rw [h2] at this; exact this, h1⟩
  | .s a sz e len cap, u, h => by
    unfold SV.ren at h; unfold Rel at *
    obtain ⟨ad, h1, h2, h3⟩ := h
    refine ⟨ad, h1, h2, h3.imp id fun h => ?_⟩
    obtain ⟨k1, k2⟩ := hh a h.2
    exact ⟨by have := h.1; unfold locA at *; rw [k2] at this; exact this, k1⟩
  | .agg l, u, h => by
    unfold SV.ren at h; unfold Rel at *
    obtain ⟨us, h1, h2⟩ := h
    exact ⟨us, h1, RelL.unren hz hh h2⟩
  | .tup l, u, h => by
    unfold SV.ren at h; unfold Rel at *
    obtain ⟨us, h1, h2⟩ := h
    exact ⟨us, h1, RelL.unren hz hh h2⟩
  | .fn g l, u, h => by
    unfold SV.ren at h; unfold Rel at *
    obtain ⟨us, h1, h2⟩ := h
    exact ⟨us, h1, RelL.unren hz hh h2⟩
  | .bm g l, u, h => by
    unfold SV.ren at h; unfold Rel at *
    obtain ⟨us, h1, h2⟩ := h
    exact ⟨us, h1, RelL.unren hz hh h2⟩
theorem RelL.unren {ρ ρ' : Plc} {σ : Nm → Nm} (hz : ∀ b o v, ρ'.z b o = some v → ρ.z b o = some v) (hh : ∀ a, ρ'.has (σ a) → ρ.has a ∧ ρ'.at_ (σ a) = ρ.at_ a) : ∀ {l : List SV} {us : List Value}, RelL ρ' (renL σ l) us → RelL ρ l us
  | [], us, h => by unfold renL at h; unfold RelL at *; exact h
  | x :: l, us, h => by
    unfold renL at h; unfold RelL at *
    obtain ⟨u, r, h1, h2, h3⟩ := h
    exact ⟨u, r, h1, h2.unren hz hh, RelL.unren hz hh h3⟩
end
/-- A block may be read so. -/
def viewB : SB → SB → Prop
  | .ro sz els, .ro sz' els' => sz = sz' ∧ els = els'
  | .row _ sz _ els, .ro sz' els' => sz = sz' ∧ els = els'
  | .box _ cells, .ro sz' els' => ∃ vals, groundL cells = some vals ∧ vals.all (·.oneCell') = true ∧ sz' = vals.length ∧ els' = [vals.map .v]
  | _, _ => False
def Views (m : Mem) : List Nm → List SB → Prop
  | [], [] => True
  | a :: ns, b :: bs => (∃ B, m.look a = some B ∧ viewB B b) ∧ Views m ns bs
  | _, _ => False
theorem Views.get {m : Mem} : ∀ {ns : List Nm} {bs : List SB}, Views m ns bs → ∀ {k : Nat} {b : SB}, bs[k]? = some b → ∃ a B, ns[k]? = some a ∧ m.look a = some B ∧ viewB B b
  | [], [], _, k, b, h => by simp at h
  | a :: ns, b' :: bs, h, k, b, e => by
    cases k with
    | zero =>
      simp at e; subst e
      obtain ⟨⟨B, h1, h2⟩, _⟩ := h
      exact ⟨a, B, rfl, h1, h2⟩
    | succ k => simpa using h.2.get (k := k) (by simpa using e)
  | [], _ :: _, h, _, _, _ => h.elim
  | _ :: _, [], h, _, _, _ => h.elim
theorem Views.has {m : Mem} : ∀ {ns : List Nm} {bs : List SB}, Views m ns bs → ∀ {k : Nat} {a : Nm}, ns[k]? = some a → ∃ B, m.look a = some B
  | [], [], _, k, b, h => by simp at h
  | a :: ns, b' :: bs, h, k, b, e => by
    cases k with
    | zero =>
      simp at e; subst e
      obtain ⟨⟨B, h1, h2⟩, _⟩ := h
      exact ⟨B, h1⟩
    | succ k => exact h.2.has (k := k) (by simpa using e)
  | [], _ :: _, h, _, _, _ => h.elim
  | _ :: _, [], h, _, _, _ => h.elim
theorem BlkOK.roz {ρ ρ' : Plc} (hz : ∀ b o v, ρ.z b o = some v → ρ'.z b o = some v) {b : Nat × Nat} {sz : Nat} {els : List (List CV)} {w : World} (h : BlkOK ρ b (.ro sz els) w) : BlkOK ρ' b (.ro sz els) w := by
  obtain ⟨raw, h1, h2⟩ := h
  exact ⟨raw, h1.mono hz, h2⟩
theorem BlkOK.rowz {ρ ρ' : Plc} (hz : ∀ b o v, ρ.z b o = some v → ρ'.z b o = some v) {b : Nat × Nat} {t sz cap : Nat} {els : List (List CV)} {w : World} (h : BlkOK ρ b (.row t sz cap els) w) : BlkOK ρ' b (.row t sz cap els) w := by
  obtain ⟨raw, h1, h2⟩ := h
  exact ⟨raw, h1.mono hz, h2⟩
theorem viewB_ok {ρ ρ' : Plc} (hz : ∀ b o v, ρ.z b o = some v → ρ'.z b o = some v) {b : Nat × Nat} {w : World} : ∀ {B C : SB}, viewB B C → BlkOK ρ b B w → BlkOK ρ' b C w ∧ ¬ C.isOwn ∧ (C.isLive → B.isLive)
  | .ro sz els, .ro _ _, ⟨rfl, rfl⟩, h => ⟨h.roz hz, fun h => h, fun h => h⟩
  | .row t sz cap els, .ro _ _, ⟨rfl, rfl⟩, h => by
    refine ⟨(row_ro h).roz hz, fun h => h, fun hne hc0 => ?_⟩
    obtain ⟨raw, hR, h0, _⟩ := h
    subst hc0
    exact hne (List.eq_nil_of_length_eq_zero (by have := hR.1; omega))
  | .box t cells, .ro _ _, ⟨vals, hg, ho, rfl, rfl⟩, ⟨h0, us, hr, hw⟩ => by
    have := groundL_sound hg hr
    subst this
    have ho' := List.all_eq_true.1 ho
    refine ⟨⟨[us], RelR.one (RelK.vals ho') rfl, fun _ => (Array.getElem?_eq_some_iff.1 hw).1, fun e c he => ?_⟩, fun h => h, fun _ => trivial⟩
    cases e with
    | zero =>
      simp at he
      subst he
      refine ⟨⟨rfl, ho'⟩, fun j u hu => ?_⟩
      rw [h0, cell_of_row w _ _ _ _ _ hw]
      simpa using hu
    | succ e => simp at he
  | .dead, _, h, _ => by cases h
  | .cst .., _, h, _ => by cases h
  | .ro .., .dead, h, _ | .ro .., .box .., h, _ | .ro .., .row .., h, _ | .ro .., .cst .., h, _ => by cases h
  | .row .., .dead, h, _ | .row .., .box .., h, _ | .row .., .row .., h, _ | .row .., .cst .., h, _ => by cases h
  | .box .., .dead, h, _ | .box .., .box .., h, _ | .box .., .row .., h, _ | .box .., .cst .., h, _ => by cases h

def Mem.grow (m : Mem) (xs : List SB) : Mem := { m with ext := m.ext ++ xs }
/-- What is handed back is told so: the slice of nothing also as one without room. -/
def LeV (σ : Nm → Nm) (r r' : SV) : Prop := r = r'.ren σ ∨ (∃ a sz e, r' = .s a sz e 0 0 ∧ r = .v (.slice none 0 0)) ∨ ∃ sz, r' = .z sz [] 0 ∧ r = .v (.slice none 0 0)
def LeVs (σ : Nm → Nm) : List SV → List SV → Prop
  | [], [] => True
  | x :: l, y :: l' => LeV σ x y ∧ LeVs σ l l'
  | _, _ => False
theorem LeV.rel {ρ ρ' : Plc} {σ : Nm → Nm} (hz : ∀ b o v, ρ'.z b o = some v → ρ.z b o = some v) (hh : ∀ a, ρ'.has (σ a) → ρ.has a ∧ ρ'.at_ (σ a) = ρ.at_ a) {r r' : SV} {u : Value} (h : LeV σ r r') (hu : Rel ρ' r u) : Rel ρ r' u := by
  rcases h with rfl | ⟨a, sz, e, rfl, rfl⟩ | ⟨sz, rfl, rfl⟩
  · exact Rel.unren hz hh hu
  · unfold Rel at hu ⊢
    exact ⟨none, hu, Nat.le_refl _, .inl rfl⟩
  · unfold Rel at hu ⊢
    exact ⟨none, hu, Nat.le_refl _, .inl rfl⟩
theorem LeVs.rel {ρ ρ' : Plc} {σ : Nm → Nm} (hz : ∀ b o v, ρ'.z b o = some v → ρ.z b o = some v) (hh : ∀ a, ρ'.has (σ a) → ρ.has a ∧ ρ'.at_ (σ a) = ρ.at_ a) : ∀ {l l' : List SV} {us : List Value}, LeVs σ l l' → RelL ρ' l us → RelL ρ l' us
  | [], [], us, _, hu => by unfold RelL at hu ⊢; exact hu
  | x :: l, y :: l', us, h, hu => by
    unfold RelL at hu ⊢
    obtain ⟨u, r, h1, h2, h3⟩ := hu
    exact ⟨u, r, h1, h.1.rel hz hh h2, h.2.rel hz hh h3⟩
  | [], _ :: _, _, h, _ => h.elim
  | _ :: _, [], _, h, _ => h.elim
theorem leVs_ren (σ : Nm → Nm) : ∀ l : List SV, LeVs σ (renL σ l) l
  | [] => by unfold renL; trivial
  | x :: l => by unfold renL; exact ⟨.inl rfl, leVs_ren σ l⟩
/-- The same, of what is not there too. -/
def ViewsN (m : Mem) : List Nm → List SB → Prop
  | [], [] => True
  | a :: ns, b :: bs => ((∃ B, m.look a = some B ∧ viewB B b) ∨ (a = .g 0 ∧ ∃ sz, b = .ro sz [])) ∧ ViewsN m ns bs
  | _, _ => False
theorem ViewsN.get {m : Mem} : ∀ {ns : List Nm} {bs : List SB}, ViewsN m ns bs → ∀ {k : Nat} {b : SB}, bs[k]? = some b → ∃ a, ns[k]? = some a ∧ ((∃ B, m.look a = some B ∧ viewB B b) ∨ (a = .g 0 ∧ ∃ sz, b = .ro sz []))
  | [], [], _, k, b, h => by simp at h
  | a :: ns, b' :: bs, h, k, b, e => by
    cases k with
    | zero =>
      simp at e; subst e
      exact ⟨a, rfl, h.1⟩
    | succ k => simpa using h.2.get (k := k) (by simpa using e)
  | [], _ :: _, h, _, _, _ => h.elim
  | _ :: _, [], h, _, _, _ => h.elim
theorem ViewsN.has {m : Mem} : ∀ {ns : List Nm} {bs : List SB}, ViewsN m ns bs → ∀ {k : Nat} {a : Nm}, ns[k]? = some a → (∃ B, m.look a = some B) ∨ a = .g 0
  | [], [], _, k, b, h => by simp at h
  | a :: ns, b' :: bs, h, k, b, e => by
    cases k with
    | zero =>
      simp at e; subst e
      exact h.1.imp (fun ⟨B, h1, _⟩ => ⟨B, h1⟩) (fun h => h.1)
    | succ k => exact h.2.has (k := k) (by simpa using e)
  | [], _ :: _, h, _, _, _ => h.elim
  | _ :: _, [], h, _, _, _ => h.elim
theorem Views.n {m : Mem} : ∀ {ns : List Nm} {bs : List SB}, Views m ns bs → ViewsN m ns bs
  | [], [], _ => trivial
  | _ :: _, _ :: _, h => ⟨.inl h.1, h.2.n⟩
  | [], _ :: _, h => h.elim
  | _ :: _, [], h => h.elim
/-- A call of a function that only reads what it is handed; what is handed may be the slice of nothing. -/
theorem call_roN {P : Program} {keep : Bool} {m : Mem} {n : Nat} {f : Nat} {args : List SV} {K : SV → Mem → Prop} {G : List (Nat × SB)} {bs : List SB} {args0 : List SV} {K0 : SV → List SB → List SB → Prop} (ns : List Nm) (hf : FnOK P G f bs args0 K0)
    (hG : noOwn G) (hmG : m.glob = G) (hn : m.ext.length = n) (ha : LeVs (renN ns n) args args0) (hv : ViewsN m ns bs) (h : ∀ r bs' ext, K0 r bs' ext → K (r.ren (renN ns n)) (m.grow (ext.map (SB.ren (renN ns n))))) : CallSem P keep m n f args K := by
  subst hn
  refine ⟨fun E ρ w us hE hH hr => .inl ⟨hf.ent, ?_⟩⟩
  -- how the callee sees it
  obtain ⟨ρc, hρc⟩ : ∃ ρc : Plc, ρc = ⟨fun | .o k => ρ.at_ (ns.getD k (.g 0)) | .g x => (x, 0) | .n _ => (0, 0), 0, ρ.z, fun _ => none, ρ.gh⟩ := ⟨_, rfl⟩
  have hcZ : ρc.z = ρ.z := by rw [hρc]
  have hcQ : ∀ b, ρc.q b = none := fun b => by rw [hρc]
  have hz1 : ∀ b o v, ρ.z b o = some v → ρc.z b o = some v := fun b o v h => by rw [hcZ]; exact h
  have hz2 : ∀ b o v, ρc.z b o = some v → ρ.z b o = some v := fun b o v h => by rw [hcZ] at h; exact h
  have hnsHas : ∀ k, ρ.has (ns.getD k (.g 0)) := fun k => by
    rw [List.getD_eq_getElem?_getD]
    cases e : ns[k]? with
    | none => exact trivial
    | some a =>
      rcases hv.has e with ⟨B, hB⟩ | rfl
      · exact hH.mem.has hB
      · exact trivial
  have hcO : ∀ k, ρc.at_ (.o k) = ρ.at_ (ns.getD k (.g 0)) := fun k => by rw [hρc]
  have hcG : ∀ x, ρc.at_ (.g x) = (x, 0) := fun x => by rw [hρc]
  have hcN : ρc.nx = 0 := by rw [hρc]
  have hargs : RelL ρc args0 us := LeVs.rel (σ := renN ns m.ext.length) hz1 (fun a h => by
    cases a with
    | o k => exact ⟨trivial, (hcO k).symm⟩
    | g x => exact ⟨trivial, (hH.mem.glob x).trans (hcG x).symm⟩
    | n i =>
      have h : m.ext.length + i < ρ.nx := h
      rw [hH.mem.nx] at h
      omega) ha hr
  have hbs : ∀ {k : Nat} {b : SB}, bs[k]? = some b → BlkOK ρc (ρc.at_ (.o k)) b w ∧ ¬ b.isOwn := fun {k b} hb => by
    obtain ⟨a, h1, ⟨B, h2, h3⟩ | ⟨_, sz, rfl⟩⟩ := hv.get hb
    · have := viewB_ok (ρ' := ρc) hz1 h3 (hH.mem.blk _ _ h2)
      rw [hcO, List.getD_eq_getElem?_getD, h1]
      exact ⟨this.1, this.2.1⟩
    · exact ⟨⟨[], RelR.nil, fun h => (h rfl).elim, fun e c he => by simp at he⟩, fun h => h⟩
  have hmem : MemOK ρc ⟨G, bs, []⟩ w := by
    refine ⟨?_, ?_, hcG, hcN, fun b o v hz => hH.mem.fz b o v (hz2 b o v hz), ?_, fun b o hq => by rw [hcQ] at hq; cases hq⟩
    · intro a b hb
      cases a with
      | o k => exact (hbs hb).1
      | n i => simp [Mem.look] at hb
      | g x =>
        have h1 := hH.mem.blk (.g x) b (by show assoc m.glob x = _; rw [hmG]; exact hb)
        rw [hH.mem.glob] at h1
        rw [hcG]
        cases b with
        | dead => trivial
        | ro sz els => exact h1.roz hz1
        | box t cells => exact (hG x _ hb trivial).elim
        | cst t cells => exact (hG x _ hb trivial).elim
        | row t sz cap els => exact h1.rowz hz1
    · intro a b A B hA hB hO _ _
      cases a with
      | o k => exact ((hbs hA).2 hO).elim
      | n i => simp [Mem.look] at hA
      | g x => exact (hG x A hA (SB.fix_of_own hO)).elim
    · intro a A hA hO o
      cases a with
      | o k => exact ((hbs hA).2 hO).elim
      | n i => simp [Mem.look] at hA
      | g x => exact (hG x A hA (SB.fix_of_own hO)).elim
  refine (hf.out ρc w us hcQ hmem hargs).mono ?_
  rintro e w' ⟨ρ', r, bs', ext, u, rfl, hH', hr', hK⟩
  have hnoO : ∀ n, ¬ (envOf P ρc bs G w).O n := by
    rintro n ⟨k, b, hb, hO, _⟩
    exact (hbs hb).2 hO
  have hkept : Kept w w' := ⟨hH'.size, fun n hn => hH'.fr n hn (hnoO n)⟩
  obtain ⟨ρ2, hρ2⟩ : ∃ ρ2 : Plc, ρ2 = ⟨fun | .n i => if i < m.ext.length then ρ.at_ (.n i) else ρ'.at_ (.n (i - m.ext.length)) | a => ρ.at_ a, ρ.nx + ext.length, ρ'.z, ρ.q, ρ.gh⟩ := ⟨_, rfl⟩
  have h2G : ρ2.gh = ρ.gh := by rw [hρ2]
  have h2Z : ρ2.z = ρ'.z := by rw [hρ2]
  have h2Q : ρ2.q = ρ.q := by rw [hρ2]
  have hzle : ∀ b o v, ρ.z b o = some v → ρ'.z b o = some v := fun b o v h => hH'.zk b o v (hz1 b o v h)
  have hag : Agree ρ ρ2 := by
    rw [hρ2]
    refine ⟨Nat.le_add_right _ _, fun a h => ?_, hzle, fun _ _ h => h, rfl⟩
    cases a with
    | n i =>
      have h : i < ρ.nx := h
      rw [hH.mem.nx] at h
      simp only
      rw [if_pos h]
    | o k => rfl
    | g x => rfl
  have h2n : ∀ i, ρ2.at_ (.n (m.ext.length + i)) = ρ'.at_ (.n i) := fun i => by
    rw [hρ2]
    simp only
    rw [if_neg (by omega), show m.ext.length + i - m.ext.length = i by omega]
  have hren : RenOK ρ' ρ2 (renN ns m.ext.length) := by
    refine ⟨fun a h => ?_, fun a h => ?_, fun b o v h => by rw [h2Z]; exact h⟩
    · cases a with
      | o k => exact hag.has (hnsHas k)
      | g x => exact trivial
      | n i =>
        have h : i < ρ'.nx := h
        rw [hH'.mem.nx] at h
        show m.ext.length + i < ρ2.nx
        rw [hρ2]
        simp only
        rw [hH.mem.nx]
        have h : i < ext.length := h
        omega
    · cases a with
      | o k =>
        show ρ2.at_ (ns.getD k (.g 0)) = _
        rw [hag.eq _ (hnsHas k), hH'.old k]
        exact (hcO k).symm
      | g x => rw [hH'.mem.glob]; show ρ2.at_ (.g x) = _; rw [hag.eq _ (show ρ.has (.g x) from trivial)]; exact hH.mem.glob x
      | n i => exact h2n i
  have hlook : ∀ {a B}, (m.grow (ext.map (SB.ren (renN ns m.ext.length)))).look a = some B → (m.look a = some B ∧ ρ2.at_ a = ρ.at_ a) ∨ ∃ i B0, a = .n (m.ext.length + i) ∧ ext[i]? = some B0 ∧ B = B0.ren (renN ns m.ext.length) := by
    intro a B hB
    cases a with
    | o k => exact .inl ⟨hB, hag.eq _ trivial⟩
    | g x => exact .inl ⟨hB, hag.eq _ trivial⟩
    | n i =>
      have hB : (m.ext ++ ext.map (SB.ren (renN ns m.ext.length)))[i]? = some B := hB
      by_cases hi : i < m.ext.length
      · rw [List.getElem?_append_left hi] at hB
        exact .inl ⟨hB, hag.eq _ (by show i < ρ.nx; rw [hH.mem.nx]; exact hi)⟩
      · rw [List.getElem?_append_right (by omega), List.getElem?_map, Option.map_eq_some_iff] at hB
        obtain ⟨B0, h1, h2⟩ := hB
        exact .inr ⟨i - m.ext.length, B0, by congr 1; omega, h1, h2.symm⟩
  have hown : ∀ {B : SB}, (B.ren (renN ns m.ext.length)).isOwn ↔ B.isOwn := fun {B} => by cases B <;> exact Iff.rfl
  have hlive : ∀ {B : SB}, (B.ren (renN ns m.ext.length)).isLive ↔ B.isLive := fun {B} => by cases B <;> exact Iff.rfl
  have hext : ∀ {i B0}, ext[i]? = some B0 → BlkOK ρ2 (ρ2.at_ (.n (m.ext.length + i))) (B0.ren (renN ns m.ext.length)) w' := by
    intro i B0 hB
    rw [h2n]
    have := hH'.mem.blk (.n i) B0 hB
    cases B0 with
    | dead => trivial
    | ro sz els => exact this.roz hren.z
    | box t cells =>
      obtain ⟨h1, us, h2, h3⟩ := this
      exact ⟨h1, us, h2.ren hren, h3⟩
    | cst t cells =>
      obtain ⟨h1, us, h2, h3⟩ := this
      exact ⟨h1, us, h2.ren hren, h3⟩
    | row t sz cap els => exact this.rowz hren.z
  have hlt : ∀ {a A}, m.look a = some A → A.isLive → (ρ.at_ a).1 < w.heap.size := fun ha hl => (hH.mem.blk _ _ ha).lt hl
  have hge : ∀ {i B0}, ext[i]? = some B0 → B0.isOwn → w.heap.size ≤ (ρ'.at_ (.n i)).1 := fun {i B0} hi hO => (hH'.new _ _ hi (SB.live_of_own hO)).resolve_right (fun ⟨o, v, hz⟩ => by
    rw [hH'.mem.sepz (.n i) B0 hi hO] at hz
    cases hz)
  have hnl : ∀ {a A i C0}, m.look a = some A → A.isOwn → ext[i]? = some C0 → C0.isLive → (ρ.at_ a).1 ≠ (ρ'.at_ (.n i)).1 := fun {a A i C0} ha hO hi hl e => by
    have hlta := hlt ha (SB.live_of_own hO)
    have back : ∀ o v, ρ'.z (ρ'.at_ (.n i)).1 o = some v → False := fun o v hz => by
      rcases hH'.zn _ _ _ hz with ⟨o', v', h⟩ | h
      · have := hz2 _ _ _ h
        rw [← e, hH.mem.sepz _ _ ha hO] at this
        cases this
      · have h : w.heap.size ≤ (ρ'.at_ (.n i)).1 := h
        omega
    rcases hH'.new _ _ hi hl with h | ⟨o, v, hz⟩
    · have h : w.heap.size ≤ (ρ'.at_ (.n i)).1 := h
      omega
    · exact back o v hz
  refine ⟨ρ2, _, m.grow (ext.map (SB.ren (renN ns m.ext.length))), u, rfl, hag, ⟨⟨?_, ?_, ?_, ?_, (fun b o v hz => hH'.mem.fz b o v (by rw [h2Z] at hz; exact hz)), ?_, ?_⟩, ?_, ?_, ?_, hH.len, hH.gl, hH'.os.trans hH.os, hH'.tape.trans hH.tape, hH'.output.trans hH.output, Nat.le_trans hH.size hH'.size, ?_, ⟨fun b o hq => by rw [h2Q]; exact hH.rd.1 b o hq, hH.rd.2⟩, (fun b ds hq => hH.ql b ds (by rw [h2Q] at hq; exact hq)), (fun b o v hz => by rw [h2Z] at hz; exact (hH'.zn b o v hz).elim (fun ⟨o', v', h⟩ => hH.zn b o' v' (hz2 b o' v' h)) (fun h => .inr (Nat.le_trans hH.size h))), (fun b o v h => by rw [h2Z]; exact hzle _ _ _ (hH.zk b o v h)), h2G.trans hH.gh⟩, hr'.ren hren, h r bs' ext hK, fun _ => hkept⟩
  · intro a B hB
    rcases hlook hB with ⟨h1, h2⟩ | ⟨i, B0, rfl, h1, rfl⟩
    · rw [h2]
      exact ((hH.mem.blk _ _ h1).agree hag).same hH'.size (fun hl => hkept.blk _ (hlt h1 hl))
    · exact hext h1
  · intro a b A B hA hB hO hL hne
    rcases hlook hA with ⟨h1, h2⟩ | ⟨i, B0, rfl, h1, rfl⟩ <;> rcases hlook hB with ⟨k1, k2⟩ | ⟨j, C0, rfl, k1, rfl⟩
    · rw [h2, k2]; exact hH.mem.sep _ _ _ _ h1 k1 hO hL hne
    · rw [h2, h2n]
      exact hnl h1 hO k1 (hlive.1 hL)
    · rw [k2, h2n]
      have := hlt k1 hL
      have := hge h1 (hown.1 hO)
      omega
    · rw [h2n, h2n]
      exact hH'.mem.sep (.n i) (.n j) _ _ h1 k1 (hown.1 hO) (hlive.1 hL) (fun e => hne (by injection e with e; rw [e]))
  · intro x
    rw [hag.eq _ (show ρ.has (.g x) from trivial)]
    exact hH.mem.glob x
  · rw [hρ2]
    show ρ.nx + ext.length = (m.ext ++ ext.map _).length
    rw [hH.mem.nx]; simp
  · intro a A hA hO o
    rcases hlook hA with ⟨h1, h2⟩ | ⟨i, B0, rfl, h1, rfl⟩
    · rw [h2, h2Z]
      cases hz : ρ'.z (ρ.at_ a).1 o with
      | none => rfl
      | some v =>
        exfalso
        rcases hH'.zn _ _ _ hz with ⟨o', v', h⟩ | h
        · have := hz2 _ _ _ h
          rw [hH.mem.sepz _ _ h1 hO] at this
          cases this
        · have := hlt h1 (SB.live_of_own hO)
          have h : w.heap.size ≤ (ρ.at_ a).1 := h
          omega
    · rw [h2n, h2Z]
      exact hH'.mem.sepz (.n i) B0 h1 (hown.1 hO) o
  · intro b o hq
    rw [h2Q] at hq
    obtain ⟨h1, h2⟩ := hH.mem.fq b o hq
    exact ⟨(hkept.blk b (Array.getElem?_eq_some_iff.1 h1).1).trans h1, h2⟩
  · intro a A hA hO
    rcases hlook hA with ⟨h1, h2⟩ | ⟨i, B0, rfl, h1, rfl⟩
    · rw [h2]; exact hH.low _ _ h1 hO
    · rw [h2n]
      exact .inr (Nat.le_trans hH.size (hge h1 (hown.1 hO)))
  · intro i B hi hl
    rcases hlook (a := .n i) hi with ⟨h1, h2⟩ | ⟨j, B0, e, h1, rfl⟩
    · rw [h2, h2Z]; exact (hH.new _ _ h1 hl).imp id (fun ⟨o, v, hz⟩ => ⟨o, v, hzle _ _ _ hz⟩)
    · rw [e, h2n, h2Z]
      exact (hH'.new _ _ h1 (hlive.1 hl)).imp (fun h => Nat.le_trans hH.size h) id
  · intro k
    rw [hag.eq _ (show ρ.has (.o k) from trivial)]
    exact hH.old k
  · intro n hn hO
    rw [hkept.blk n (Nat.lt_of_lt_of_le hn hH.size)]
    exact hH.fr n hn hO

/-- A call of a function that only reads what it is handed. -/
theorem call_ro {P : Program} {keep : Bool} {m : Mem} {n : Nat} {f : Nat} {args : List SV} {K : SV → Mem → Prop} {G : List (Nat × SB)} {bs : List SB} {args0 : List SV} {K0 : SV → List SB → List SB → Prop} (ns : List Nm) (hf : FnOK P G f bs args0 K0)
    (hG : noOwn G) (hmG : m.glob = G) (hn : m.ext.length = n) (ha : args = renL (renN ns n) args0) (hv : Views m ns bs) (h : ∀ r bs' ext, K0 r bs' ext → K (r.ren (renN ns n)) (m.grow (ext.map (SB.ren (renN ns n))))) : CallSem P keep m n f args K :=
  call_roN ns hf hG hmG hn (ha ▸ leVs_ren _ _) hv.n h
/-- A block is handed over as it is, or may be read so. -/
def Lends (m : Mem) (σ : Nm → Nm) : List Nm → List SB → Prop
  | [], [] => True
  | a :: ns, b :: bs => (∃ B, m.look a = some B ∧ (viewB B b ∨ ((∀ x, a ≠ .g x) ∧ B = b.ren σ))) ∧ Lends m σ ns bs
  | _, _ => False
theorem Lends.get {m : Mem} {σ : Nm → Nm} : ∀ {ns : List Nm} {bs : List SB}, Lends m σ ns bs → ∀ {k : Nat} {b : SB}, bs[k]? = some b → ∃ a B, ns[k]? = some a ∧ m.look a = some B ∧ (viewB B b ∨ ((∀ x, a ≠ .g x) ∧ B = b.ren σ))
  | [], [], _, k, b, h => by simp at h
  | a :: ns, b' :: bs, h, k, b, e => by
    cases k with
    | zero =>
      simp at e; subst e
      obtain ⟨⟨B, h1, h2⟩, _⟩ := h
      exact ⟨a, B, rfl, h1, h2⟩
    | succ k => simpa using h.2.get (k := k) (by simpa using e)
  | [], _ :: _, h, _, _, _ => h.elim
  | _ :: _, [], h, _, _, _ => h.elim
theorem Lends.has {m : Mem} {σ : Nm → Nm} : ∀ {ns : List Nm} {bs : List SB}, Lends m σ ns bs → ∀ {k : Nat} {a : Nm}, ns[k]? = some a → ∃ B b, m.look a = some B ∧ bs[k]? = some b
  | [], [], _, k, b, h => by simp at h
  | a :: ns, b' :: bs, h, k, b, e => by
    cases k with
    | zero =>
      simp at e; subst e
      obtain ⟨⟨B, h1, h2⟩, _⟩ := h
      exact ⟨B, b', h1, rfl⟩
    | succ k => simpa using h.2.has (k := k) (by simpa using e)
  | [], _ :: _, h, _, _, _ => h.elim
  | _ :: _, [], h, _, _, _ => h.elim
theorem ren_own {σ : Nm → Nm} {B : SB} : (B.ren σ).isOwn ↔ B.isOwn := by cases B <;> exact Iff.rfl
theorem ren_live {σ : Nm → Nm} {B : SB} : (B.ren σ).isLive ↔ B.isLive := by cases B <;> exact Iff.rfl
/-- A call of a function that is handed blocks of the caller's own, and leaves them as they were. -/
theorem call_same {P : Program} {m : Mem} {n : Nat} {f : Nat} {args : List SV} {K : SV → Mem → Prop} {G : List (Nat × SB)} {bs : List SB} {args0 : List SV} {K0 : SV → List SB → List SB → Prop} (ns : List Nm) (hf : FnOK P G f bs args0 K0)
    (hG : noOwn G) (hmG : m.glob = G) (hn : m.ext.length = n) (ha : args = renL (renN ns n) args0) (hv : Lends m (renN ns n) ns bs) (hd : ns.Nodup) (h : ∀ r bs' ext, K0 r bs' ext → bs' = bs ∧ K (r.ren (renN ns n)) (m.grow (ext.map (SB.ren (renN ns n))))) : CallSem P false m n f args K := by
  subst hn
  refine ⟨fun E ρ w us hE hH hr => .inl ⟨hf.ent, ?_⟩⟩
  subst ha
  -- how the callee sees it
  obtain ⟨ρc, hρc⟩ : ∃ ρc : Plc, ρc = ⟨fun | .o k => ρ.at_ (ns.getD k (.g 0)) | .g x => (x, 0) | .n _ => (0, 0), 0, ρ.z, fun _ => none, ρ.gh⟩ := ⟨_, rfl⟩
  have hcZ : ρc.z = ρ.z := by rw [hρc]
  have hcQ : ∀ b, ρc.q b = none := fun b => by rw [hρc]
  have hz1 : ∀ b o v, ρ.z b o = some v → ρc.z b o = some v := fun b o v h => by rw [hcZ]; exact h
  have hz2 : ∀ b o v, ρc.z b o = some v → ρ.z b o = some v := fun b o v h => by rw [hcZ] at h; exact h
  have hnsHas : ∀ k, ρ.has (ns.getD k (.g 0)) := fun k => by
    rw [List.getD_eq_getElem?_getD]
    cases e : ns[k]? with
    | none => exact trivial
    | some a =>
      obtain ⟨B, _, hB, _⟩ := hv.has e
      exact hH.mem.has hB
  have hcO : ∀ k, ρc.at_ (.o k) = ρ.at_ (ns.getD k (.g 0)) := fun k => by rw [hρc]
  have hcG : ∀ x, ρc.at_ (.g x) = (x, 0) := fun x => by rw [hρc]
  have hcN : ρc.nx = 0 := by rw [hρc]
  have hargs : RelL ρc args0 us := RelL.unren (σ := renN ns m.ext.length) hz1 (fun a h => by
    cases a with
    | o k => exact ⟨trivial, (hcO k).symm⟩
    | g x => exact ⟨trivial, (hH.mem.glob x).trans (hcG x).symm⟩
    | n i =>
      have h : m.ext.length + i < ρ.nx := h
      rw [hH.mem.nx] at h
      omega) hr
  have hun : ∀ a, ρ.has (renN ns m.ext.length a) → ρc.has a ∧ ρ.at_ (renN ns m.ext.length a) = ρc.at_ a := fun a h => by
    cases a with
    | o k => exact ⟨trivial, (hcO k).symm⟩
    | g x => exact ⟨trivial, (hH.mem.glob x).trans (hcG x).symm⟩
    | n i =>
      have h : m.ext.length + i < ρ.nx := h
      rw [hH.mem.nx] at h
      omega
  -- a block as the callee sees it
  have hbs : ∀ {k : Nat} {b : SB}, bs[k]? = some b → ∃ a B, ns[k]? = some a ∧ m.look a = some B ∧ ρc.at_ (.o k) = ρ.at_ a ∧ BlkOK ρc (ρc.at_ (.o k)) b w ∧ (b.isOwn → B.isOwn ∧ (∀ x, a ≠ .g x) ∧ B = b.ren (renN ns m.ext.length)) ∧ (b.isLive → B.isLive) := fun {k b} hb => by
    obtain ⟨a, B, h1, h2, h3⟩ := hv.get hb
    have hat : ρc.at_ (.o k) = ρ.at_ a := by rw [hcO, List.getD_eq_getElem?_getD, h1]; rfl
    refine ⟨a, B, h1, h2, hat, ?_⟩
    rw [hat]
    rcases h3 with h3 | ⟨h3, rfl⟩
    · have := viewB_ok (ρ' := ρc) hz1 h3 (hH.mem.blk _ _ h2)
      exact ⟨this.1, fun ho => (this.2.1 ho).elim, this.2.2⟩
    · refine ⟨?_, fun ho => ⟨ren_own.2 ho, h3, rfl⟩, fun hl => ren_live.2 hl⟩
      have hb' := hH.mem.blk _ _ h2
      cases b with
      | dead => trivial
      | ro sz els => exact hb'.roz hz1
      | box t cells =>
        obtain ⟨k1, us', k2, k3⟩ := hb'
        exact ⟨k1, us', RelL.unren hz1 hun k2, k3⟩
      | cst t cells =>
        obtain ⟨k1, us', k2, k3⟩ := hb'
        exact ⟨k1, us', RelL.unren hz1 hun k2, k3⟩
      | row t sz cap els => exact hb'.rowz hz1
  have hmem : MemOK ρc ⟨G, bs, []⟩ w := by
    refine ⟨?_, ?_, hcG, hcN, fun b o v hz => hH.mem.fz b o v (hz2 b o v hz), ?_, fun b o hq => by rw [hcQ] at hq; cases hq⟩
    · intro a b hb
      cases a with
      | o k => obtain ⟨_, _, _, _, _, h5, _⟩ := hbs hb; exact h5
      | n i => simp [Mem.look] at hb
      | g x =>
        have h1 := hH.mem.blk (.g x) b (by show assoc m.glob x = _; rw [hmG]; exact hb)
        rw [hH.mem.glob] at h1
        rw [hcG]
        cases b with
        | dead => trivial
        | ro sz els => exact h1.roz hz1
        | box t cells => exact (hG x _ hb trivial).elim
        | cst t cells => exact (hG x _ hb trivial).elim
        | row t sz cap els => exact h1.rowz hz1
    · intro a b A B hA hB hO hL hne
      cases a with
      | n i => simp [Mem.look] at hA
      | g x => exact (hG x A hA (SB.fix_of_own hO)).elim
      | o k =>
        obtain ⟨a1, A1, k1, k2, k3, _, k5, _⟩ := hbs hA
        obtain ⟨k6, k7, _⟩ := k5 hO
        cases b with
        | n i => simp [Mem.look] at hB
        | g x =>
          have hBm : m.look (.g x) = some B := by show assoc m.glob x = _; rw [hmG]; exact hB
          rw [k3, hcG, ← hH.mem.glob x]
          exact hH.mem.sep _ _ _ _ k2 hBm k6 hL (k7 x)
        | o k' =>
          obtain ⟨b1, B1, j1, j2, j3, _, _, j6⟩ := hbs hB
          rw [k3, j3]
          refine hH.mem.sep _ _ _ _ k2 j2 k6 (j6 hL) (fun e => ?_)
          subst e
          have : k = k' := (List.getElem?_inj (getElem?_lt k1) hd).1 (k1.trans j1.symm)
          exact hne (by rw [this])
    · intro a A hA hO o
      cases a with
      | n i => simp [Mem.look] at hA
      | g x => exact (hG x A hA (SB.fix_of_own hO)).elim
      | o k =>
        obtain ⟨a1, A1, k1, k2, k3, _, k5, _⟩ := hbs hA
        rw [k3, hcZ]
        exact hH.mem.sepz _ _ k2 (k5 hO).1 o
  refine (hf.out ρc w us hcQ hmem hargs).mono ?_
  rintro e w' ⟨ρ', r, bs', ext, u, rfl, hH', hr', hK⟩
  obtain ⟨rfl, hK2⟩ := h r bs' ext hK
  -- a block that is not handed over as the caller's own
  have hfr : ∀ {a A}, m.look a = some A → A.isLive → (∀ (k : Nat) (b : SB), ns[k]? = some a → bs'[k]? = some b → ¬ b.isOwn) → w'.heap[(ρ.at_ a).1]? = w.heap[(ρ.at_ a).1]? := by
    intro a A ha hl hno
    refine hH'.fr _ ((hH.mem.blk _ _ ha).lt hl) ?_
    rintro ⟨k, b, hb, hO, he⟩
    obtain ⟨a1, A1, k1, k2, k3, _, k5, _⟩ := hbs hb
    obtain ⟨k6, _, _⟩ := k5 hO
    have he : (ρc.at_ (.o k)).1 = (ρ.at_ a).1 := he
    rw [k3] at he
    by_cases e : a1 = a
    · subst e
      exact hno k b k1 hb hO
    · exact hH.mem.sep _ _ _ _ k2 ha k6 hl e he
  obtain ⟨ρ2, hρ2⟩ : ∃ ρ2 : Plc, ρ2 = ⟨fun | .n i => if i < m.ext.length then ρ.at_ (.n i) else ρ'.at_ (.n (i - m.ext.length)) | a => ρ.at_ a, ρ.nx + ext.length, ρ'.z, ρ.q, ρ.gh⟩ := ⟨_, rfl⟩
  have h2G : ρ2.gh = ρ.gh := by rw [hρ2]
  have h2Z : ρ2.z = ρ'.z := by rw [hρ2]
  have h2Q : ρ2.q = ρ.q := by rw [hρ2]
  have hzle : ∀ b o v, ρ.z b o = some v → ρ'.z b o = some v := fun b o v h => hH'.zk b o v (hz1 b o v h)
  have hag : Agree ρ ρ2 := by
    rw [hρ2]
    refine ⟨Nat.le_add_right _ _, fun a h => ?_, hzle, fun _ _ h => h, rfl⟩
    cases a with
    | n i =>
      have h : i < ρ.nx := h
      rw [hH.mem.nx] at h
      simp only
      rw [if_pos h]
    | o k => rfl
    | g x => rfl
  have h2n : ∀ i, ρ2.at_ (.n (m.ext.length + i)) = ρ'.at_ (.n i) := fun i => by
    rw [hρ2]
    simp only
    rw [if_neg (by omega), show m.ext.length + i - m.ext.length = i by omega]
  have hren : RenOK ρ' ρ2 (renN ns m.ext.length) := by
    refine ⟨fun a h => ?_, fun a h => ?_, fun b o v h => by rw [h2Z]; exact h⟩
    · cases a with
      | o k => exact hag.has (hnsHas k)
      | g x => exact trivial
      | n i =>
        have h : i < ρ'.nx := h
        rw [hH'.mem.nx] at h
        show m.ext.length + i < ρ2.nx
        rw [hρ2]
        simp only
        rw [hH.mem.nx]
        have h : i < ext.length := h
        omega
    · cases a with
      | o k =>
        show ρ2.at_ (ns.getD k (.g 0)) = _
        rw [hag.eq _ (hnsHas k), hH'.old k]
        exact (hcO k).symm
      | g x => rw [hH'.mem.glob]; show ρ2.at_ (.g x) = _; rw [hag.eq _ (show ρ.has (.g x) from trivial)]; exact hH.mem.glob x
      | n i => exact h2n i
  have hlook : ∀ {a B}, (m.grow (ext.map (SB.ren (renN ns m.ext.length)))).look a = some B → (m.look a = some B ∧ ρ2.at_ a = ρ.at_ a) ∨ ∃ i B0, a = .n (m.ext.length + i) ∧ ext[i]? = some B0 ∧ B = B0.ren (renN ns m.ext.length) := by
    intro a B hB
    cases a with
    | o k => exact .inl ⟨hB, hag.eq _ trivial⟩
    | g x => exact .inl ⟨hB, hag.eq _ trivial⟩
    | n i =>
      have hB : (m.ext ++ ext.map (SB.ren (renN ns m.ext.length)))[i]? = some B := hB
      by_cases hi : i < m.ext.length
      · rw [List.getElem?_append_left hi] at hB
        exact .inl ⟨hB, hag.eq _ (by show i < ρ.nx; rw [hH.mem.nx]; exact hi)⟩
      · rw [List.getElem?_append_right (by omega), List.getElem?_map, Option.map_eq_some_iff] at hB
        obtain ⟨B0, h1, h2⟩ := hB
        exact .inr ⟨i - m.ext.length, B0, by congr 1; omega, h1, h2.symm⟩
  have hown : ∀ {B : SB}, (B.ren (renN ns m.ext.length)).isOwn ↔ B.isOwn := fun {B} => by cases B <;> exact Iff.rfl
  have hlive : ∀ {B : SB}, (B.ren (renN ns m.ext.length)).isLive ↔ B.isLive := fun {B} => by cases B <;> exact Iff.rfl
  have hext : ∀ {i B0}, ext[i]? = some B0 → BlkOK ρ2 (ρ2.at_ (.n (m.ext.length + i))) (B0.ren (renN ns m.ext.length)) w' := by
    intro i B0 hB
    rw [h2n]
    have := hH'.mem.blk (.n i) B0 hB
    cases B0 with
    | dead => trivial
    | ro sz els => exact this.roz hren.z
    | box t cells =>
      obtain ⟨h1, us, h2, h3⟩ := this
      exact ⟨h1, us, h2.ren hren, h3⟩
    | cst t cells =>
      obtain ⟨h1, us, h2, h3⟩ := this
      exact ⟨h1, us, h2.ren hren, h3⟩
    | row t sz cap els => exact this.rowz hren.z
  have hlt : ∀ {a A}, m.look a = some A → A.isLive → (ρ.at_ a).1 < w.heap.size := fun ha hl => (hH.mem.blk _ _ ha).lt hl
  have hge : ∀ {i B0}, ext[i]? = some B0 → B0.isOwn → w.heap.size ≤ (ρ'.at_ (.n i)).1 := fun {i B0} hi hO => (hH'.new _ _ hi (SB.live_of_own hO)).resolve_right (fun ⟨o, v, hz⟩ => by
    rw [hH'.mem.sepz (.n i) B0 hi hO] at hz
    cases hz)
  have hnl : ∀ {a A i C0}, m.look a = some A → A.isOwn → ext[i]? = some C0 → C0.isLive → (ρ.at_ a).1 ≠ (ρ'.at_ (.n i)).1 := fun {a A i C0} ha hO hi hl e => by
    have hlta := hlt ha (SB.live_of_own hO)
    have back : ∀ o v, ρ'.z (ρ'.at_ (.n i)).1 o = some v → False := fun o v hz => by
      rcases hH'.zn _ _ _ hz with ⟨o', v', h⟩ | h
      · have := hz2 _ _ _ h
        rw [← e, hH.mem.sepz _ _ ha hO] at this
        cases this
      · have h : w.heap.size ≤ (ρ'.at_ (.n i)).1 := h
        omega
    rcases hH'.new _ _ hi hl with h | ⟨o, v, hz⟩
    · have h : w.heap.size ≤ (ρ'.at_ (.n i)).1 := h
      omega
    · exact back o v hz
  refine ⟨ρ2, _, m.grow (ext.map (SB.ren (renN ns m.ext.length))), u, rfl, hag, ⟨⟨?_, ?_, ?_, ?_, (fun b o v hz => hH'.mem.fz b o v (by rw [h2Z] at hz; exact hz)), ?_, ?_⟩, ?_, ?_, ?_, hH.len, hH.gl, hH'.os.trans hH.os, hH'.tape.trans hH.tape, hH'.output.trans hH.output, Nat.le_trans hH.size hH'.size, ?_, ⟨fun b o hq => by rw [h2Q]; exact hH.rd.1 b o hq, hH.rd.2⟩, (fun b ds hq => hH.ql b ds (by rw [h2Q] at hq; exact hq)), (fun b o v hz => by rw [h2Z] at hz; exact (hH'.zn b o v hz).elim (fun ⟨o', v', h⟩ => hH.zn b o' v' (hz2 b o' v' h)) (fun h => .inr (Nat.le_trans hH.size h))), (fun b o v h => by rw [h2Z]; exact hzle _ _ _ (hH.zk b o v h)), h2G.trans hH.gh⟩, hr'.ren hren, hK2, fun e => by cases e⟩
  · intro a B hB
    rcases hlook hB with ⟨h1, h2⟩ | ⟨i, B0, rfl, h1, rfl⟩
    · rw [h2]
      by_cases hown' : ∃ (k : Nat) (b : SB), ns[k]? = some a ∧ bs'[k]? = some b ∧ b.isOwn
      · obtain ⟨k, b, k1, k2, k3⟩ := hown'
        obtain ⟨a1, A1, j1, j2, j3, _, j5, _⟩ := hbs k2
        obtain ⟨_, _, j6⟩ := j5 k3
        rw [k1] at j1
        cases j1
        rw [h1] at j2
        cases j2
        have hb' := hH'.mem.blk (.o k) b k2
        rw [hH'.old k] at hb'
        have hb' : BlkOK ρ' (ρc.at_ (.o k)) b w' := hb'
        rw [j3] at hb'
        rw [j6]
        cases b with
        | dead => exact k3.elim
        | ro sz els => exact k3.elim
        | cst t cells => exact k3.elim
        | box t cells =>
          obtain ⟨q1, us', q2, q3⟩ := hb'
          exact ⟨q1, us', q2.ren hren, q3⟩
        | row t sz cap els => exact hb'.rowz hren.z
      · exact ((hH.mem.blk _ _ h1).agree hag).same hH'.size (fun hl => hfr h1 hl (fun k b k1 k2 k3 => hown' ⟨k, b, k1, k2, k3⟩))
    · exact hext h1
  · intro a b A B hA hB hO hL hne
    rcases hlook hA with ⟨h1, h2⟩ | ⟨i, B0, rfl, h1, rfl⟩ <;> rcases hlook hB with ⟨k1, k2⟩ | ⟨j, C0, rfl, k1, rfl⟩
    · rw [h2, k2]; exact hH.mem.sep _ _ _ _ h1 k1 hO hL hne
    · rw [h2, h2n]
      exact hnl h1 hO k1 (hlive.1 hL)
    · rw [k2, h2n]
      have := hlt k1 hL
      have := hge h1 (hown.1 hO)
      omega
    · rw [h2n, h2n]
      exact hH'.mem.sep (.n i) (.n j) _ _ h1 k1 (hown.1 hO) (hlive.1 hL) (fun e => hne (by injection e with e; rw [e]))
  · intro x
    rw [hag.eq _ (show ρ.has (.g x) from trivial)]
    exact hH.mem.glob x
  · rw [hρ2]
    show ρ.nx + ext.length = (m.ext ++ ext.map _).length
    rw [hH.mem.nx]; simp
  · intro a A hA hO o
    rcases hlook hA with ⟨h1, h2⟩ | ⟨i, B0, rfl, h1, rfl⟩
    · rw [h2, h2Z]
      cases hz : ρ'.z (ρ.at_ a).1 o with
      | none => rfl
      | some v =>
        exfalso
        rcases hH'.zn _ _ _ hz with ⟨o', v', h⟩ | h
        · have := hz2 _ _ _ h
          rw [hH.mem.sepz _ _ h1 hO] at this
          cases this
        · have := hlt h1 (SB.live_of_own hO)
          have h : w.heap.size ≤ (ρ.at_ a).1 := h
          omega
    · rw [h2n, h2Z]
      exact hH'.mem.sepz (.n i) B0 h1 (hown.1 hO) o
  · intro b o hq
    rw [h2Q] at hq
    obtain ⟨h1, h2⟩ := hH.mem.fq b o hq
    refine ⟨(hH'.fr b (Array.getElem?_eq_some_iff.1 h1).1 ?_).trans h1, h2⟩
    rintro ⟨k, b', hb, hO, he⟩
    obtain ⟨a1, A1, k1, k2, k3, _, k5, _⟩ := hbs hb
    have he : (ρc.at_ (.o k)).1 = b := he
    rw [k3] at he
    exact hH.mem.qne k2 (k5 hO).1 hq he.symm
  · intro a A hA hO
    rcases hlook hA with ⟨h1, h2⟩ | ⟨i, B0, rfl, h1, rfl⟩
    · rw [h2]; exact hH.low _ _ h1 hO
    · rw [h2n]
      exact .inr (Nat.le_trans hH.size (hge h1 (hown.1 hO)))
  · intro i B hi hl
    rcases hlook (a := .n i) hi with ⟨h1, h2⟩ | ⟨j, B0, e, h1, rfl⟩
    · rw [h2, h2Z]; exact (hH.new _ _ h1 hl).imp id (fun ⟨o, v, hz⟩ => ⟨o, v, hzle _ _ _ hz⟩)
    · rw [e, h2n, h2Z]
      exact (hH'.new _ _ h1 (hlive.1 hl)).imp (fun h => Nat.le_trans hH.size h) id
  · intro k
    rw [hag.eq _ (show ρ.has (.o k) from trivial)]
    exact hH.old k
  · intro n hn hO
    rw [hH'.fr n (Nat.lt_of_lt_of_le hn hH.size)]
    · exact hH.fr n hn hO
    · rintro ⟨k, b, hb, hO', he⟩
      obtain ⟨a1, A1, k1, k2, k3, _, k5, _⟩ := hbs hb
      have he : (ρc.at_ (.o k)).1 = n := he
      rw [k3] at he
      rcases hH.low _ _ k2 (k5 hO').1 with h1 | h1
      · rw [he] at h1; exact hO h1
      · omega
end Go.Proofs.Ytkcdomafdjpbjaa
