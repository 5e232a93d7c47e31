/- What an operation does that writes and makes no memory. -/
import Derived.Test.YtcjcnlahieddoaaSym
namespace Go.Proofs.Ytcjcnlahieddoaa
open Go.RowKit

/-- Whichever a truth value is. -/
structure BB (b : Bool) (A B : Prop) : Prop where
  t : b = true → A
  f : b = false → B
theorem BB_true {A B : Prop} (h : A) : BB true A B := ⟨fun _ => h, fun e => nomatch e⟩
theorem BB_false {A B : Prop} (h : B) : BB false A B := ⟨fun e => (nomatch e), fun _ => h⟩

def rangeSV (cells : List SV) (o : Nat) (i : TI) (K : SV → Prop) : Prop :=
  match i.d.agg with
  | true => match Nat.ble (o + i.size) cells.length with
    | true => K (.agg ((cells.drop o).take i.size))
    | false => False
  | false => match cells[o]? with
    | some c => K c
    | none => False
def rowSV (sz' : Nat) (els : List (List Value)) (e sz f : Nat) (i : TI) (K : SV → Prop) : Prop :=
  e * sz = e * sz' ∧ ∃ c, els[e]? = some c ∧ match i.d.agg with
    | true => match Nat.ble (f + i.size) c.length with
      | true => K (.agg (((c.drop f).take i.size).map .v))
      | false => False
    | false => match c[f]? with
      | some u => K (.v u)
      | none => False
def loadSV (C : Ctx) (m : Mem) (t : Nat) (x : SV) (K : SV → Prop) : Prop :=
  match x with
  | .p a e sz f => match assoc C.T t with
    | some i => match m.look a with
      | some (.box _ cells) => rangeSV cells (e * sz + f) i K
      | some (.ro sz' els) => rowSV sz' els e sz f i K
      | some (.row _ sz' _ els) => rowSV sz' els e sz f i K
      | _ => False
    | none => False
  | _ => False

theorem rangeSV_mono {cells : List SV} {o : Nat} {i : TI} {F G : SV → Prop} (h : ∀ x, F x → G x) (hl : rangeSV cells o i F) : rangeSV cells o i G := by
  unfold rangeSV at *
  cases h1 : i.d.agg with
  | true =>
    rw [h1] at hl
    cases h2 : Nat.ble (o + i.size) cells.length with
    | true => simp only [h2] at hl ⊢; exact h _ hl
    | false => simp only [h2] at hl
  | false =>
    rw [h1] at hl
    cases h2 : cells[o]? with
    | some c => simp only [h2] at hl ⊢; exact h _ hl
    | none => simp only [h2] at hl
theorem rowSV_mono {sz' : Nat} {els : List (List Value)} {e sz f : Nat} {i : TI} {F G : SV → Prop} (h : ∀ x, F x → G x) (hl : rowSV sz' els e sz f i F) : rowSV sz' els e sz f i G := by
  unfold rowSV at *
  obtain ⟨k1, c, k2, hl⟩ := hl
  refine ⟨k1, c, k2, ?_⟩
  cases h1 : i.d.agg with
  | true =>
    rw [h1] at hl
    cases h2 : Nat.ble (f + i.size) c.length with
    | true => simp only [h2] at hl ⊢; exact h _ hl
    | false => simp only [h2] at hl
  | false =>
    rw [h1] at hl
    cases h2 : c[f]? with
    | some c => simp only [h2] at hl ⊢; exact h _ hl
    | none => simp only [h2] at hl
theorem loadSV_mono {C : Ctx} {m : Mem} {t : Nat} {x : SV} {F G : SV → Prop} (h : ∀ x, F x → G x) (hl : loadSV C m t x F) : loadSV C m t x G := by
  cases x with
  | p a e sz f =>
    unfold loadSV at *
    cases h1 : assoc C.T t with
    | none => simp only [h1] at hl
    | some i =>
      simp only [h1] at hl ⊢
      cases h2 : m.look a with
      | none => simp only [h2] at hl
      | some B =>
        simp only [h2] at hl ⊢
        cases B with
        | dead => exact hl
        | ro _ _ => exact rowSV_mono h hl
        | box _ _ => exact rangeSV_mono h hl
        | row _ _ _ _ => exact rowSV_mono h hl
  | any => exact hl.elim
  | v _ => exact hl.elim
  | s _ _ _ _ _ => exact hl.elim
  | agg _ => exact hl.elim
  | tup _ => exact hl.elim
  | fn _ _ => exact hl.elim
  | bm _ _ => exact hl.elim
theorem loadCells_at {P : Program} {w : World} {b o : Nat} (cs : List Value) (h : ∀ (j : Nat) u, cs[j]? = some u → w.cell? ⟨b, o + j, none⟩ = some u) :
    (loadCells ⟨b, o, none⟩ cs.length).run P w = .ok cs.toArray w :=
  run_loadCells_list (P := P) w ⟨b, o, none⟩ cs fun j v hv => by
    have : (⟨b, o, none⟩ : Addr).add j = ⟨b, o + j, none⟩ := by unfold Addr.add; split <;> simp_all
    rw [this]
    exact h j v hv

theorem flatten_get {sz : Nat} : ∀ {els : List (List Value)} {e j : Nat} {c : List Value} {u : Value}, (∀ c ∈ els, c.length = sz) → els[e]? = some c → c[j]? = some u → els.flatten[e * sz + j]? = some u
  | [], e, j, c, u, _, h, _ => by simp at h
  | d :: ds, 0, j, c, u, hsz, h, hu => by
    simp at h
    subst h
    simp only [List.flatten_cons, Nat.zero_mul, Nat.zero_add]
    rw [List.getElem?_append_left (getElem?_lt hu)]
    exact hu
  | d :: ds, e + 1, j, c, u, hsz, h, hu => by
    have hd : d.length = sz := hsz d (by simp)
    simp only [List.flatten_cons]
    rw [List.getElem?_append_right (by rw [hd, Nat.add_mul]; omega), hd, show (e + 1) * sz + j - sz = e * sz + j by rw [Nat.add_mul]; omega]
    exact flatten_get (fun c hc => hsz c (by simp [hc])) (by simpa using h) hu
/-- What a load yields in every world that keeps the blocks. -/
theorem loadSV_sound {C : Ctx} (hC : C.ok) {ρ : Plc} {m : Mem} {w : World} (hm : BlksOK ρ m w) {t : Nat} {x : SV} {K : SV → Prop} (h : loadSV C m t x K) {u : Value} (hx : Rel ρ x u) :
    ∃ sv v, K sv ∧ Rel ρ sv v ∧ ∃ a, u = .pointer (some a) ∧ ∀ w', Same ρ m w w' → (loadVar t a).run C.P w' = .ok v w' := by
  unfold loadSV at h
  split at h
  rotate_left
  · exact h.elim
  rename_i a e sz f
  split at h
  rotate_left
  · exact h.elim
  rename_i i hi
  have hT := hC t i hi
  unfold Rel locA at hx
  obtain ⟨rfl, hhas⟩ := hx
  -- the rule for a row
  have row : ∀ (sz' : Nat) (els : List (List Value)), rowSV sz' els e sz f i K →
      (∀ w', Same ρ m w w' → ∀ (e : Nat) c, els[e]? = some c → ∀ (j : Nat) u, c[j]? = some u → w'.cell? ⟨(ρ.at_ a).1, (ρ.at_ a).2 + (e * sz' + j), none⟩ = some u) →
      ∃ sv v, K sv ∧ Rel ρ sv v ∧ ∃ a', Value.pointer (some ⟨(ρ.at_ a).1, (ρ.at_ a).2 + (e * sz + f), none⟩) = .pointer (some a') ∧ ∀ w', Same ρ m w w' → (loadVar t a').run C.P w' = .ok v w' := by
    intro sz' els h hc
    obtain ⟨he, c, hec, h⟩ := h
    rw [he]
    split at h
    · rename_i hag
      split at h
      · rename_i hle
        have hle := Nat.le_of_ble_eq_true hle
        have hlen : ((c.drop f).take i.size).length = i.size := by simp; omega
        refine ⟨_, .agg ((c.drop f).take i.size).toArray, h, by unfold Rel; exact ⟨_, rfl, RelL.vals _⟩, _, rfl, fun w' hs => ?_⟩
        have hl := loadCells_at (P := C.P) (w := w') (b := (ρ.at_ a).1) (o := (ρ.at_ a).2 + (e * sz' + f)) ((c.drop f).take i.size) fun j u hu => by
          rw [List.getElem?_take] at hu
          split at hu
          · rw [List.getElem?_drop] at hu
            have := hc w' hs e c hec (f + j) u hu
            rw [← this]
            congr 2
            omega
          · cases hu
        rw [hlen] at hl
        simp [loadVar, hT.isAgg, hag, hT.sizeOf, hl]
      · exact h.elim
    · rename_i hag
      split at h
      · rename_i u hu
        refine ⟨_, u, h, by unfold Rel; rfl, _, rfl, fun w' hs => ?_⟩
        have := hc w' hs e c hec f u hu
        simp [loadVar, hT.isAgg, hag, run_load, this]
      · exact h.elim
  split at h
  · rename_i t' cells hb
    obtain ⟨h0, us, hr, hw⟩ := hm.blk _ _ hb
    have hc : ∀ w', Same ρ m w w' → ∀ (j : Nat), w'.cell? ⟨(ρ.at_ a).1, j, none⟩ = us[j]? := fun w' hs j => by
      have := hs.blk _ _ hb trivial
      rw [hw] at this
      rw [cell_of_row w' _ j _ _ _ this]
      simp
    rw [h0]
    unfold rangeSV at h
    split at h
    · rename_i hag
      split at h
      · rename_i hle
        have hle := Nat.le_of_ble_eq_true hle
        have hlen : ((us.drop (e * sz + f)).take i.size).length = i.size := by simp [hr.len]; omega
        refine ⟨_, .agg ((us.drop (e * sz + f)).take i.size).toArray, h, by unfold Rel; exact ⟨_, rfl, (hr.drop _).take _⟩, _, rfl, fun w' hs => ?_⟩
        have hl := loadCells_at (P := C.P) (w := w') (b := (ρ.at_ a).1) (o := 0 + (e * sz + f)) ((us.drop (e * sz + f)).take i.size) fun j u hu => by
          rw [List.getElem?_take] at hu
          split at hu
          · rw [List.getElem?_drop] at hu
            rw [hc w' hs, ← hu]
            congr 1
            omega
          · cases hu
        rw [hlen] at hl
        simp only [Nat.zero_add] at hl
        simp [loadVar, hT.isAgg, hag, hT.sizeOf, hl]
      · exact h.elim
    · rename_i hag
      split at h
      · rename_i c hcc
        obtain ⟨u, hu, hru⟩ := hr.get hcc
        refine ⟨_, u, h, hru, _, rfl, fun w' hs => ?_⟩
        have := hc w' hs (e * sz + f)
        rw [hu] at this
        simp [loadVar, hT.isAgg, hag, run_load, this]
      · exact h.elim
  · rename_i sz' els hb
    refine row sz' els h fun w' hs e c hec j u hu => ?_
    have hk := hm.blk _ _ hb
    have hne : els ≠ [] := by intro h0; subst h0; simp at hec
    rw [World.cell?_of_block (w := w) (hs.blk _ _ hb hne)]
    exact (hk.2 e c hec).2 j u hu
  · rename_i t' sz' cap els hb
    refine row sz' els h fun w' hs e c hec j u hu => ?_
    obtain ⟨hle, hsz, hk⟩ := hm.blk _ _ hb
    have hcap : cap ≠ 0 := by
      have := getElem?_lt hec
      omega
    obtain ⟨h0, _, cur, hcur, hcs, htk⟩ := hk hcap
    have hcur' := (hs.blk _ _ hb hcap).trans hcur
    rw [h0, Nat.zero_add, cell_of_row w' _ _ _ _ _ hcur']
    have hel : e < els.length := getElem?_lt hec
    have hj : j < sz' := by rw [← (hsz c (List.mem_of_getElem? hec)).1]; exact getElem?_lt hu
    have hin : els.flatten[e * sz' + j]? = some u := flatten_get (fun c hc => (hsz c hc).1) hec hu
    rw [← htk, List.getElem?_take] at hin
    split at hin
    · simpa using hin
    · cases hin
  · exact h.elim
end Go.Proofs.Ytcjcnlahieddoaa
