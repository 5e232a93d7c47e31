/- How a slice that is handed in is opened: a row that is only read. -/
import Derived.Test.YtcjcnlahieddoaaSymL
import Derived.Deep.Slices
namespace Go.Proofs.Ytcjcnlahieddoaa
open Go.RowKit Go.ChangeShapes Go.WideShapes Go.Deep

def adOf : Option Addr → Nat × Nat
  | some a => (a.block, a.off)
  | none => (0, 0)
/-- A slice's row. -/
structure RowIn (w : World) (ad : Option Addr) (len cap sz : Nat) (els : List (List Value)) : Prop where
  le : len ≤ cap
  max : cap ≤ maxLen
  at_ : cap = 0 ∨ ∃ b o, ad = some ⟨b, o, none⟩
  blk : ∀ ρ, BlkOK ρ (adOf ad) (.ro sz els) w
section
variable {H : Type} {enc : TypeId × Value → H} {P : Program} {w : World} {base : Nat} {hd : Bool}
theorem rowIn_of_trod {α : Type} [Inhabited α] {C : α → List Value} {ok : α → Prop} {t e sz : Nat} (ht : P.underlying t = some (.slice e)) (hc : P.cellsOf e = sz) (hpos : 0 < sz) (hC : ∀ y, CellsOK sz (C y))
    (hel : ∀ n cs' x, DataW.trod enc P w base (fun _ => true) hd n e cs' = some x → cs'.length = sz → ∃ y, cs' = C y ∧ ok y) {fuel : Nat} {cs : List Value} {x : DataW H × List MemPlace} (h : DataW.trod enc P w base (fun _ => true) hd fuel t cs = some x) :
    ∃ (ad : Option Addr) (l : List α) (cap : Nat), cs = [.slice ad l.length cap] ∧ (∀ y ∈ l, ok y) ∧ RowIn w ad l.length cap sz (l.map C) := by
  rcases open_slice ht h with ⟨rfl, rfl⟩ | ⟨a, len, cap, m, n, D, Pl, rfl, hb, hl, hm, hmm, rfl, hx⟩
  · exact ⟨none, [], 0, rfl, fun y hy => (nomatch hy), ⟨Nat.le_refl _, Nat.zero_le _, .inl rfl, fun ρ => ⟨fun h => (h rfl).elim, fun e c he => by simp at he⟩⟩⟩
  simp only [if_true] at hmm
  subst hmm
  rw [hc] at hx
  have hone : ∀ i, i < m → ∃ y : α, w.cells? base (a.add (i * sz)) sz = some (C y) ∧ ok y := by
    intro i hi
    obtain ⟨cs', h1, h2⟩ := hx i hi
    obtain ⟨y, rfl, hy⟩ := hel _ _ _ h2 (World.cells?_some h1).2.1
    exact ⟨y, h1, hy⟩
  have sp : m ≠ 0 → a.spot = none ∧ a.block < w.heap.size := by
    intro h0
    obtain ⟨y, h1, _⟩ := hone 0 (by omega)
    have h2 := (World.cells?_some h1).2.2 0 hpos
    have h3 := List.getElem?_eq_getElem (show 0 < (C y).length by rw [(hC y).1]; exact hpos)
    rw [h3] at h2
    simp only [Nat.zero_mul, Addr.add, if_true] at h2
    unfold World.cell? at h2
    split at h2
    · rename_i hw
      refine ⟨?_, (Array.getElem?_eq_some_iff.1 hw).1⟩
      cases hs : a.spot with
      | none => rfl
      | some s => rw [hs] at h2; simp at h2
    · cases h2
  obtain ⟨f, hf⟩ := choose_lt hone
  refine ⟨some a, (List.range len).map f, m, by simp, fun y hy => ?_, ⟨by simpa using hl, hm, ?_, fun ρ => ⟨fun hne => ?_, fun i c hi => ?_⟩⟩⟩
  · obtain ⟨i, hi, rfl⟩ := List.mem_map.1 hy
    exact (hf i (by simp at hi; omega)).2
  · by_cases h0 : m = 0
    · exact .inl h0
    · refine .inr ⟨a.block, a.off, ?_⟩
      have := (sp h0).1
      cases a
      simp only at this
      rw [this]
  · have : len ≠ 0 := by rintro rfl; simp at hne
    exact (sp (by omega)).2
  · have hil := getElem?_lt hi
    simp only [List.length_map, List.length_range] at hil
    simp only [List.getElem?_map, List.getElem?_range hil, Option.map_some, Option.some.injEq] at hi
    subst hi
    refine ⟨hC _, fun j u hu => ?_⟩
    obtain ⟨h1, _⟩ := hf i (by omega)
    have hjl : j < sz := by rw [← (hC (f i)).1]; exact getElem?_lt hu
    have h2 := (World.cells?_some h1).2.2 j hjl
    rw [hu, add_add] at h2
    rw [← h2]
    congr 1
    have hs := (sp (by omega)).1
    cases a with
    | mk b o s =>
      simp only at hs
      subst hs
      unfold Addr.add adOf
      by_cases h0 : i * sz + j = 0
      · simp only [h0, if_true, Nat.add_zero]
      · simp only [h0, if_false]
theorem rowIn_arg {α : Type} [Inhabited α] {C : α → List Value} {ok : α → Prop} {t e sz b0 : Nat} (ht : P.underlying t = some (.slice e)) (hc : P.cellsOf e = sz) (hpos : 0 < sz) (hC : ∀ y, CellsOK sz (C y))
    (hel : ∀ n cs' x, DataW.trod enc P w base (fun _ => true) hd n e cs' = some x → cs'.length = sz → ∃ y, cs' = C y ∧ ok y) {v : Value} {d : DataW H} {p : List MemPlace} (hv : Value.okWide P w .any b0 t v) (h : DataW.Trod enc P w base (fun _ => true) hd t v d p) :
    ∃ (ad : Option Addr) (l : List α) (cap : Nat), v = .slice ad l.length cap ∧ (∀ y ∈ l, ok y) ∧ RowIn w ad l.length cap sz (l.map C) := by
  obtain ⟨a0, len0, cap0, rfl⟩ := okWide_slice ht hv
  obtain ⟨fuel, h⟩ := h
  obtain ⟨ad, l, cap, h1, h2, h3⟩ := rowIn_of_trod ht hc hpos hC hel h
  have h1 : [Value.slice a0 len0 cap0] = [.slice ad l.length cap] := h1
  simp only [List.cons.injEq, and_true] at h1
  exact ⟨ad, l, cap, h1, h2, h3⟩
end
/-- Where what is handed in lies. -/
def rhoOf (ads : List (Option Addr)) : Plc := ⟨fun | .o k => adOf (ads.getD k none) | .g x => (x, 0) | .n _ => (0, 0), 0⟩
def rowsIn (w : World) : List (Option Addr) → List SB → Prop
  | [], [] => True
  | ad :: ads, .ro sz els :: bs => (∀ ρ, BlkOK ρ (adOf ad) (.ro sz els) w) ∧ rowsIn w ads bs
  | _, _ => False
theorem rowsIn_get {w : World} : ∀ {ads : List (Option Addr)} {bs : List SB}, rowsIn w ads bs → ∀ {k : Nat} {b : SB}, bs[k]? = some b → (∀ ρ, BlkOK ρ (adOf (ads.getD k none)) b w) ∧ ¬ b.isOwn
  | [], [], _, k, b, h => by simp at h
  | ad :: ads, .ro sz els :: bs, h, k, b, e => by
    cases k with
    | zero => simp at e; subst e; exact ⟨h.1, fun h => h.elim⟩
    | succ k => simpa using rowsIn_get h.2 (k := k) (by simpa using e)
  | [], _ :: _, h, _, _, _ => h.elim
  | _ :: _, [], h, _, _, _ => h.elim
  | _ :: _, .dead :: _, h, _, _, _ => h.elim
  | _ :: _, .box .. :: _, h, _, _, _ => h.elim
  | _ :: _, .row .. :: _, h, _, _, _ => h.elim
theorem mem_of_rows {w : World} {ads : List (Option Addr)} {bs : List SB} {G : List (Nat × SB)} (h : rowsIn w ads bs) (hG : ∀ x b, assoc G x = some b → (∀ ρ, BlkOK ρ (x, 0) b w) ∧ ¬ b.isOwn) : MemOK (rhoOf ads) ⟨G, bs, []⟩ w := by
  have key : ∀ a b, (Mem.mk G bs []).look a = some b → BlkOK (rhoOf ads) ((rhoOf ads).at_ a) b w ∧ ¬ b.isOwn := by
    intro a b hb
    cases a with
    | o k => obtain ⟨h1, h2⟩ := rowsIn_get h hb; exact ⟨h1 _, h2⟩
    | n i => simp [Mem.look] at hb
    | g x => obtain ⟨h1, h2⟩ := hG x b hb; exact ⟨h1 _, h2⟩
  exact ⟨fun a b hb => (key a b hb).1, fun a b A B hA hB hO => ((key a A hA).2 hO).elim, fun x => rfl, rfl⟩
/-- A slice that is handed in, as it is told. -/
theorem rel_row {w : World} {ads : List (Option Addr)} {k : Nat} {ad : Option Addr} {len cap sz : Nat} {els : List (List Value)} (h : RowIn w ad len cap sz els) (hk : ads[k]? = some ad) : Rel (rhoOf ads) (.s (.o k) sz 0 len cap) (.slice ad len cap) := by
  unfold Rel
  refine ⟨ad, rfl, h.le, h.at_.imp id fun ⟨b, o, e⟩ => ⟨?_, trivial⟩⟩
  subst e
  unfold locA rhoOf
  simp [adOf, hk]
theorem relL_nil {ρ : Plc} : RelL ρ [] [] := by unfold RelL; rfl
theorem relL_cons {ρ : Plc} {x : SV} {u : Value} {l : List SV} {us : List Value} (h : Rel ρ x u) (hl : RelL ρ l us) : RelL ρ (x :: l) (u :: us) := by unfold RelL; exact ⟨u, us, rfl, h, hl⟩
theorem rel_c {ρ : Plc} {x : SV} {u : Value} (h : x = constV u) : Rel ρ x u := h ▸ Rel.const u
theorem rel_ev {ρ : Plc} {l : List SV} {us : List Value} (h : RelL ρ l us) : Rel ρ (.agg l) (.agg us.toArray) := by unfold Rel; exact ⟨us, rfl, h⟩
end Go.Proofs.Ytcjcnlahieddoaa
