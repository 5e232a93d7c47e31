/- What an operation does that writes and makes no memory. -/
import Derived.Test.YtkcdomafdjpbjaaZ
namespace Go.Proofs.Ytkcdomafdjpbjaa
open Go.RowKit

/-- Whichever a truth value is. -/
structure BB (b : Bool) (A B : Prop) : Prop where
  t : b = true → A
  f : b = false → B
theorem BB_true {A B : Prop} (h : A) : BB true A B := ⟨fun _ => h, fun e => nomatch e⟩
theorem BB_false {A B : Prop} (h : B) : BB false A B := ⟨fun e => (nomatch e), fun _ => h⟩

def rangeSV (cells : List SV) (o : Nat) (i : TI) (K : SV → Prop) : Prop :=
  match i.d.agg with
  | true => match Nat.ble (o + i.size) cells.length with
    | true => K (.agg ((cells.drop o).take i.size))
    | false => False
  | false => match cells[o]? with
    | some c => K c
    | none => False
/-- A cell that stays, as a value: of how much room a slice has nothing is known. -/
def svC (c : CV) (K : SV → Prop) : Prop := match c with
  | .v x => K (.v x)
  | .z sz els => ∀ cap, els.length ≤ cap → K (.z sz els cap)
/-- The same, of several: the room of each is a number that nothing else is known of. -/
def svOf (f : Nat → Nat) : List CV → Nat → List SV
  | [], _ => []
  | .v x :: l, i => .v x :: svOf f l (i + 1)
  | .z sz els :: l, i => .z sz els (f i) :: svOf f l (i + 1)
def capsOk (f : Nat → Nat) : List CV → Nat → Prop
  | [], _ => True
  | .v _ :: l, i => capsOk f l (i + 1)
  | .z _ els :: l, i => els.length ≤ f i ∧ capsOk f l (i + 1)
def anyZ : List CV → Bool
  | [] => false
  | .v _ :: l => anyZ l
  | .z _ _ :: _ => true
def svK (l : List CV) (K : List SV → Prop) : Prop := match anyZ l with
  | true => ∀ caps : Nat → Nat, capsOk caps l 0 → K (svOf caps l 0)
  | false => K (svOf (fun _ => 0) l 0)
def cellsK (c : List CV) (f : Nat) (i : TI) (K : SV → Prop) : Prop :=
  match i.d.agg with
    | true => match Nat.ble (f + i.size) c.length with
      | true => svK ((c.drop f).take i.size) fun l => K (.agg l)
      | false => False
    | false => match c[f]? with
      | some u => svC u K
      | none => False
def rowSV (sz' : Nat) (els : List (List CV)) (e sz f : Nat) (i : TI) (K : SV → Prop) : Prop :=
  e * sz = e * sz' ∧ ∃ c, els[e]? = some c ∧ cellsK c f i K
def loadSV (C : Ctx) (m : Mem) (t : Nat) (x : SV) (K : SV → Prop) : Prop :=
  match x with
  | .p a e sz f => match assoc C.T t with
    | some i => match m.look a with
      | some (.box _ cells) => rangeSV cells (e * sz + f) i K
      | some (.cst _ cells) => rangeSV cells (e * sz + f) i K
      | some (.ro sz' els) => rowSV sz' els e sz f i K
      | some (.row _ sz' _ els) => rowSV sz' els e sz f i K
      | _ => False
    | none => False
  | .zp c => match assoc C.T t with
    | some i => cellsK c 0 i K
    | none => False
  | _ => False

theorem svC_mono {c : CV} {F G : SV → Prop} (h : ∀ x, F x → G x) (hl : svC c F) : svC c G := by
  cases c with
  | v x => exact h _ hl
  | z sz els => exact fun cap hc => h _ (hl cap hc)
theorem svK_mono {l : List CV} {F G : List SV → Prop} (h : ∀ x, F x → G x) (hl : svK l F) : svK l G := by
  unfold svK at *
  split at hl
  · exact fun caps hc => h _ (hl caps hc)
  · exact h _ hl
theorem svC_sound {ρ : Plc} {c : CV} {u : Value} {K : SV → Prop} (h : svC c K) (hr : RelC ρ.z c u) : ∃ sv, K sv ∧ Rel ρ sv u := by
  cases c with
  | v x =>
    unfold RelC at hr
    exact ⟨_, h, by unfold Rel; exact hr.1⟩
  | z sz els =>
    unfold RelC at hr
    obtain ⟨ad, cap, h1, h2, h3⟩ := hr
    exact ⟨_, h cap h2, by unfold Rel; exact ⟨ad, h1, h2, h3⟩⟩
def capOf (us : List Value) (j : Nat) : Nat := match us[j]? with
  | some (.slice _ _ c) => c
  | _ => 0
theorem svOf_rel {ρ : Plc} (us : List Value) : ∀ {l : List CV} {i : Nat}, RelK ρ.z l (us.drop i) → capsOk (capOf us) l i ∧ RelL ρ (svOf (capOf us) l i) (us.drop i)
  | [], i, h => by
    unfold RelK at h
    exact ⟨trivial, by unfold svOf RelL; exact h⟩
  | c :: l, i, h => by
    unfold RelK at h
    obtain ⟨u, r, hu, h1, h2⟩ := h
    have hr : r = us.drop (i + 1) := by rw [← List.tail_drop, hu]; rfl
    have hi : us[i]? = some u := by rw [← List.head?_drop, hu]; rfl
    obtain ⟨k1, k2⟩ := svOf_rel us (l := l) (i := i + 1) (hr ▸ h2)
    cases c with
    | v x =>
      unfold RelC at h1
      refine ⟨k1, ?_⟩
      unfold svOf RelL Rel
      exact ⟨u, r, hu, h1.1, hr ▸ k2⟩
    | z sz els =>
      unfold RelC at h1
      obtain ⟨ad, cap, rfl, h3, h4⟩ := h1
      have hcap : capOf us i = cap := by unfold capOf; rw [hi]
      refine ⟨⟨by rw [hcap]; exact h3, k1⟩, ?_⟩
      unfold svOf RelL Rel
      rw [hcap]
      exact ⟨_, r, hu, ⟨ad, rfl, h3, h4⟩, hr ▸ k2⟩
theorem svOf_noz {ρ : Plc} (f : Nat → Nat) : ∀ {l : List CV} {us : List Value} {i : Nat}, anyZ l = false → RelK ρ.z l us → RelL ρ (svOf f l i) us
  | [], us, i, _, h => by
    unfold RelK at h
    unfold svOf RelL
    exact h
  | .v x :: l, us, i, ha, h => by
    unfold RelK RelC at h
    obtain ⟨u, r, rfl, h1, h2⟩ := h
    unfold svOf RelL Rel
    exact ⟨u, r, rfl, h1.1, svOf_noz f (l := l) ha h2⟩
  | .z _ _ :: _, us, i, ha, h => by cases ha
theorem svK_sound {ρ : Plc} {l : List CV} {us : List Value} {K : List SV → Prop} (h : svK l K) (hr : RelK ρ.z l us) : ∃ svs, K svs ∧ RelL ρ svs us := by
  unfold svK at h
  split at h
  · obtain ⟨k1, k2⟩ := svOf_rel us (l := l) (i := 0) (by simpa using hr)
    exact ⟨_, h _ k1, by simpa using k2⟩
  · rename_i ha
    exact ⟨_, h, svOf_noz _ ha hr⟩
theorem cellsK_mono {c : List CV} {f : Nat} {i : TI} {F G : SV → Prop} (h : ∀ x, F x → G x) (hl : cellsK c f i F) : cellsK c f i G := by
  unfold cellsK at *
  cases h1 : i.d.agg with
  | true =>
    rw [h1] at hl
    cases h2 : Nat.ble (f + i.size) c.length with
    | true => simp only [h2] at hl ⊢; exact svK_mono (fun x hx => h _ hx) hl
    | false => simp only [h2] at hl
  | false =>
    rw [h1] at hl
    cases h2 : c[f]? with
    | some c => simp only [h2] at hl ⊢; exact svC_mono h hl
    | none => simp only [h2] at hl
theorem rangeSV_mono {cells : List SV} {o : Nat} {i : TI} {F G : SV → Prop} (h : ∀ x, F x → G x) (hl : rangeSV cells o i F) : rangeSV cells o i G := by
  unfold rangeSV at *
  cases h1 : i.d.agg with
  | true =>
    rw [h1] at hl
    cases h2 : Nat.ble (o + i.size) cells.length with
    | true => simp only [h2] at hl ⊢; exact h _ hl
    | false => simp only [h2] at hl
  | false =>
    rw [h1] at hl
    cases h2 : cells[o]? with
    | some c => simp only [h2] at hl ⊢; exact h _ hl
    | none => simp only [h2] at hl
theorem rowSV_mono {sz' : Nat} {els : List (List CV)} {e sz f : Nat} {i : TI} {F G : SV → Prop} (h : ∀ x, F x → G x) (hl : rowSV sz' els e sz f i F) : rowSV sz' els e sz f i G := by
  unfold rowSV at *
  obtain ⟨k1, c, k2, hl⟩ := hl
  exact ⟨k1, c, k2, cellsK_mono h hl⟩
theorem loadSV_mono {C : Ctx} {m : Mem} {t : Nat} {x : SV} {F G : SV → Prop} (h : ∀ x, F x → G x) (hl : loadSV C m t x F) : loadSV C m t x G := by
  cases x with
  | p a e sz f =>
    unfold loadSV at *
    cases h1 : assoc C.T t with
    | none => simp only [h1] at hl
    | some i =>
      simp only [h1] at hl ⊢
      cases h2 : m.look a with
      | none => simp only [h2] at hl
      | some B =>
        simp only [h2] at hl ⊢
        cases B with
        | dead => exact hl
        | ro _ _ => exact rowSV_mono h hl
        | box _ _ => exact rangeSV_mono h hl
        | cst _ _ => exact rangeSV_mono h hl
        | row _ _ _ _ => exact rowSV_mono h hl
  | zp c =>
    unfold loadSV at *
    cases h1 : assoc C.T t with
    | none => simp only [h1] at hl
    | some i => simp only [h1] at hl ⊢; exact cellsK_mono h hl
  | z _ _ _ => exact hl.elim
  | any => exact hl.elim
  | v _ => exact hl.elim
  | s _ _ _ _ _ => exact hl.elim
  | agg _ => exact hl.elim
  | tup _ => exact hl.elim
  | fn _ _ => exact hl.elim
  | bm _ _ => exact hl.elim
theorem loadCells_at {P : Program} {w : World} {b o : Nat} (cs : List Value) (h : ∀ (j : Nat) u, cs[j]? = some u → w.cell? ⟨b, o + j, none⟩ = some u) :
    (loadCells ⟨b, o, none⟩ cs.length).run P w = .ok cs.toArray w :=
  run_loadCells_list (P := P) w ⟨b, o, none⟩ cs fun j v hv => by
    have : (⟨b, o, none⟩ : Addr).add j = ⟨b, o + j, none⟩ := by unfold Addr.add; split <;> simp_all
    rw [this]
    exact h j v hv

theorem flatten_get {sz : Nat} : ∀ {els : List (List Value)} {e j : Nat} {c : List Value} {u : Value}, (∀ c ∈ els, c.length = sz) → els[e]? = some c → c[j]? = some u → els.flatten[e * sz + j]? = some u
  | [], e, j, c, u, _, h, _ => by simp at h
  | d :: ds, 0, j, c, u, hsz, h, hu => by
    simp at h
    subst h
    simp only [List.flatten_cons, Nat.zero_mul, Nat.zero_add]
    rw [List.getElem?_append_left (getElem?_lt hu)]
    exact hu
  | d :: ds, e + 1, j, c, u, hsz, h, hu => by
    have hd : d.length = sz := hsz d (by simp)
    simp only [List.flatten_cons]
    rw [List.getElem?_append_right (by rw [hd, Nat.add_mul]; omega), hd, show (e + 1) * sz + j - sz = e * sz + j by rw [Nat.add_mul]; omega]
    exact flatten_get (fun c hc => hsz c (by simp [hc])) (by simpa using h) hu
/-- What a load of cells yields, wherever they stand. -/
theorem cellsK_sound {C : Ctx} {ρ : Plc} {t : Nat} {i : TI} (hT : TIok C.P t i) {c : List CV} {d : List Value} {f b o : Nat} {K : SV → Prop} (h : cellsK c f i K) (hr : RelK ρ.z c d) :
    ∃ sv v, K sv ∧ Rel ρ sv v ∧ ∀ w' : World, (∀ (j : Nat) u, d[j]? = some u → w'.cell? ⟨b, o + j, none⟩ = some u) → (loadVar t ⟨b, o + f, none⟩).run C.P w' = .ok v w' := by
  unfold cellsK at h
  split at h
  · rename_i hag
    split at h
    · rename_i hle
      have hle := Nat.le_of_ble_eq_true hle
      have hlen : ((d.drop f).take i.size).length = i.size := by simp [hr.len]; omega
      obtain ⟨svs, h, k⟩ := svK_sound h ((hr.drop f).take i.size)
      refine ⟨_, .agg ((d.drop f).take i.size).toArray, h, by unfold Rel; exact ⟨_, rfl, k⟩, fun w' hc => ?_⟩
      have hl := loadCells_at (P := C.P) (w := w') (b := b) (o := o + f) ((d.drop f).take i.size) fun j u hu => by
        rw [List.getElem?_take] at hu
        split at hu
        · rw [List.getElem?_drop] at hu
          have := hc (f + j) u hu
          rw [← this]
          congr 2
          omega
        · cases hu
      rw [hlen] at hl
      simp [loadVar, hT.isAgg, hag, hT.sizeOf, hl]
    · exact h.elim
  · rename_i hag
    split at h
    · rename_i u hu
      obtain ⟨v, hv, hrc⟩ := hr.get hu
      obtain ⟨sv, h, k⟩ := svC_sound h hrc
      refine ⟨_, v, h, k, fun w' hc => ?_⟩
      have := hc f v hv
      simp [loadVar, hT.isAgg, hag, run_load, this]
    · exact h.elim
/-- What a load of a box yields. -/
theorem rangeSV_sound {C : Ctx} {ρ : Plc} {t : Nat} {i : TI} (hT : TIok C.P t i) {cells : List SV} {us : List Value} {b o : Nat} {K : SV → Prop} (h : rangeSV cells o i K) (hr : RelL ρ cells us) :
    ∃ sv v, K sv ∧ Rel ρ sv v ∧ ∀ w' : World, (∀ (j : Nat), w'.cell? ⟨b, j, none⟩ = us[j]?) → (loadVar t ⟨b, o, none⟩).run C.P w' = .ok v w' := by
  unfold rangeSV at h
  split at h
  · rename_i hag
    split at h
    · rename_i hle
      have hle := Nat.le_of_ble_eq_true hle
      have hlen : ((us.drop o).take i.size).length = i.size := by simp [hr.len]; omega
      refine ⟨_, .agg ((us.drop o).take i.size).toArray, h, by unfold Rel; exact ⟨_, rfl, (hr.drop _).take _⟩, fun w' hc => ?_⟩
      have hl := loadCells_at (P := C.P) (w := w') (b := b) (o := o) ((us.drop o).take i.size) fun j u hu => by
        rw [List.getElem?_take] at hu
        split at hu
        · rw [List.getElem?_drop] at hu
          rw [hc, ← hu]
        · cases hu
      rw [hlen] at hl
      simp [loadVar, hT.isAgg, hag, hT.sizeOf, hl]
    · exact h.elim
  · rename_i hag
    split at h
    · rename_i c hcc
      obtain ⟨u, hu, hru⟩ := hr.get hcc
      refine ⟨_, u, h, hru, fun w' hc => ?_⟩
      have := hc o
      rw [hu] at this
      simp [loadVar, hT.isAgg, hag, run_load, this]
    · exact h.elim
/-- What a load yields in every world that keeps the blocks. -/
theorem loadSV_sound {C : Ctx} (hC : C.ok) {ρ : Plc} {m : Mem} {w : World} (hm : BlksOK ρ m w) {t : Nat} {x : SV} {K : SV → Prop} (h : loadSV C m t x K) {u : Value} (hx : Rel ρ x u) :
    ∃ sv v, K sv ∧ Rel ρ sv v ∧ ∃ a, u = .pointer (some a) ∧ ∀ w', Same ρ m w w' → (loadVar t a).run C.P w' = .ok v w' := by
  unfold loadSV at h
  split at h
  · rename_i a e sz f
    split at h
    rotate_left
    · exact h.elim
    rename_i i hi
    have hT := hC t i hi
    unfold Rel locA at hx
    obtain ⟨rfl, hhas⟩ := hx
    have box : ∀ (t' : Nat) (cells : List SV) (us : List Value), rangeSV cells (e * sz + f) i K → RelL ρ cells us → (ρ.at_ a).2 = 0 → (∀ w', Same ρ m w w' → w'.heap[(ρ.at_ a).1]? = some (.cells us.toArray t' (0, 0))) →
        ∃ sv v, K sv ∧ Rel ρ sv v ∧ ∃ a', Value.pointer (some ⟨(ρ.at_ a).1, (ρ.at_ a).2 + (e * sz + f), none⟩) = .pointer (some a') ∧ ∀ w', Same ρ m w w' → (loadVar t a').run C.P w' = .ok v w' := by
      intro t' cells us h hr h0 hc
      obtain ⟨sv, v, h1, h2, h3⟩ := rangeSV_sound hT (b := (ρ.at_ a).1) h hr
      refine ⟨sv, v, h1, h2, _, rfl, fun w' hs => ?_⟩
      rw [h0, Nat.zero_add]
      refine h3 w' fun j => ?_
      rw [cell_of_row w' _ j _ _ _ (hc w' hs)]
      simp
    have row : ∀ (sz' : Nat) (els : List (List CV)) (raw : List (List Value)), rowSV sz' els e sz f i K → RelR ρ.z sz' els raw →
        (∀ w', Same ρ m w w' → ∀ (e : Nat) d, raw[e]? = some d → ∀ (j : Nat) u, d[j]? = some u → w'.cell? ⟨(ρ.at_ a).1, (ρ.at_ a).2 + (e * sz' + j), none⟩ = some u) →
        ∃ sv v, K sv ∧ Rel ρ sv v ∧ ∃ a', Value.pointer (some ⟨(ρ.at_ a).1, (ρ.at_ a).2 + (e * sz + f), none⟩) = .pointer (some a') ∧ ∀ w', Same ρ m w w' → (loadVar t a').run C.P w' = .ok v w' := by
      intro sz' els raw h hr hc
      obtain ⟨he, c, hec, h⟩ := h
      obtain ⟨d, hd, hrk, _⟩ := hr.get hec
      obtain ⟨sv, v, h1, h2, h3⟩ := cellsK_sound hT (b := (ρ.at_ a).1) (o := (ρ.at_ a).2 + e * sz') h hrk
      refine ⟨sv, v, h1, h2, _, rfl, fun w' hs => ?_⟩
      rw [he, ← Nat.add_assoc]
      refine h3 w' fun j u hu => ?_
      rw [Nat.add_assoc]
      exact hc w' hs e d hd j u hu
    split at h
    · rename_i t' cells hb
      obtain ⟨h0, us, hr, hw⟩ := hm.blk _ _ hb
      exact box t' cells us h hr h0 fun w' hs => (hs.blk _ _ hb trivial).trans hw
    · rename_i t' cells hb
      obtain ⟨h0, us, hr, hw⟩ := hm.blk _ _ hb
      exact box t' cells us h hr h0 fun w' hs => (hs.blk _ _ hb trivial).trans hw
    · rename_i sz' els hb
      obtain ⟨raw, hr, hk⟩ := hm.blk _ _ hb
      refine row sz' els raw h hr fun w' hs e d hd j u hu => ?_
      have hne : els ≠ [] := by intro h0; rw [hr.nilEq.1 h0] at hd; simp at hd
      rw [World.cell?_of_block (w := w) (hs.blk _ _ hb hne)]
      exact (hk.2 e d hd).2 j u hu
    · rename_i t' sz' cap els hb
      obtain ⟨raw, hr, hle, hsz, hk⟩ := hm.blk _ _ hb
      refine row sz' els raw h hr fun w' hs e c hec j u hu => ?_
      have hcap : cap ≠ 0 := by
        have := getElem?_lt hec
        omega
      obtain ⟨h0, _, cur, hcur, hcs, htk⟩ := hk hcap
      have hcur' := (hs.blk _ _ hb hcap).trans hcur
      rw [h0, Nat.zero_add, cell_of_row w' _ _ _ _ _ hcur']
      have hel : e < raw.length := getElem?_lt hec
      have hj : j < sz' := by rw [← (hsz c (List.mem_of_getElem? hec)).1]; exact getElem?_lt hu
      have hin : raw.flatten[e * sz' + j]? = some u := flatten_get (fun c hc => (hsz c hc).1) hec hu
      rw [← htk, List.getElem?_take] at hin
      split at hin
      · simpa using hin
      · cases hin
    · exact h.elim
  · rename_i c
    split at h
    rotate_left
    · exact h.elim
    rename_i i hi
    unfold Rel at hx
    obtain ⟨b, o, us, rfl, hr, hz⟩ := hx
    obtain ⟨sv, v, h1, h2, h3⟩ := cellsK_sound (hC t i hi) (b := b) (o := o) (f := 0) h hr
    exact ⟨sv, v, h1, h2, _, rfl, fun w' hs => h3 w' fun j u hu => hs.z _ _ _ (hz j u hu)⟩
  · exact h.elim
end Go.Proofs.Ytkcdomafdjpbjaa
