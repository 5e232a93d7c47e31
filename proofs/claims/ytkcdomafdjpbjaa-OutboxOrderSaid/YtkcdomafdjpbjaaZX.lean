/- How a slice that is handed in is opened: a row that is only read, and stays. -/
import Derived.Test.YtkcdomafdjpbjaaZL
import Derived.Deep.Slices
namespace Go.Proofs.Ytkcdomafdjpbjaa
open Go.RowKit Go.ChangeShapes Go.WideShapes Go.Deep

def adOf : Option Addr → Nat × Nat
  | some a => (a.block, a.off)
  | none => (0, 0)
/-- All that lies in memory. -/
def Z0 (w : World) : Nat → Nat → Option Value := fun b o => w.cell? ⟨b, o, none⟩
/-- A slice's row. -/
structure RowIn (w : World) (ad : Option Addr) (len cap sz : Nat) (els : List (List CV)) : Prop where
  le : len ≤ cap
  max : cap ≤ maxLen
  len : els.length = len
  z : cap = 0 ∨ ∃ b o, ad = some ⟨b, o, none⟩ ∧ RelZ (Z0 w) b sz els o
theorem RowIn.at_ {w : World} {ad : Option Addr} {len cap sz : Nat} {els : List (List CV)} (h : RowIn w ad len cap sz els) : cap = 0 ∨ ∃ b o, ad = some ⟨b, o, none⟩ := h.z.imp id fun ⟨b, o, e, _⟩ => ⟨b, o, e⟩
theorem RowIn.cell {w : World} {ad : Option Addr} {len cap sz : Nat} {els : List (List CV)} (h : RowIn w ad len cap sz els) : RelC (Z0 w) (.z sz els) (.slice ad len cap) := by
  unfold RelC
  exact ⟨ad, cap, by rw [h.len], by rw [h.len]; exact h.le, h.z⟩
theorem RowIn.blk {w : World} {ad : Option Addr} {len cap sz : Nat} {els : List (List CV)} (h : RowIn w ad len cap sz els) (hsz : 0 < sz) {ρ : Plc} (hρ : ρ.z = Z0 w) : BlkOK ρ (adOf ad) (.ro sz els) w := by
  rcases h.z with h0 | ⟨b, o, rfl, hz⟩
  · have : els = [] := List.eq_nil_of_length_eq_zero (by have := h.len; have := h.le; omega)
    subst this
    exact ⟨[], RelR.nil, fun h => (h rfl).elim, fun e c he => by simp at he⟩
  · obtain ⟨raw, hR, hc⟩ := hz.raw
    have hcell : ∀ (e : Nat) d, raw[e]? = some d → ∀ (j : Nat) u, d[j]? = some u → w.cell? ⟨b, o + (e * sz + j), none⟩ = some u := fun e d hd j u hu => hc e d hd j u hu
    refine ⟨raw, by rw [hρ]; exact hR, fun hne => ?_, fun e d hd => ⟨hR.cells d (List.mem_of_getElem? hd), hcell e d hd⟩⟩
    obtain ⟨d, l, rfl⟩ := List.exists_cons_of_ne_nil hne
    have hd := (hR.cells d (by simp)).1
    exact cell_lt (hcell 0 d rfl 0 _ (List.getElem?_eq_getElem (by omega)))
section
variable {H : Type} {enc : TypeId × Value → H} {P : Program} {w : World} {base : Nat} {hd : Bool}
theorem rowIn_of_trod {α : Type} [Inhabited α] {C : α → List CV} {ok : α → Prop} {t e sz : Nat} (ht : P.underlying t = some (.slice e)) (hc : P.cellsOf e = sz) (hpos : 0 < sz)
    (hel : ∀ n cs' x, DataW.trod enc P w base (fun _ => true) hd n e cs' = some x → cs'.length = sz → ∃ y, RelK (Z0 w) (C y) cs' ∧ ok y) {fuel : Nat} {cs : List Value} {x : DataW H × List MemPlace} (h : DataW.trod enc P w base (fun _ => true) hd fuel t cs = some x) :
    ∃ (ad : Option Addr) (l : List α) (cap : Nat), cs = [.slice ad l.length cap] ∧ (∀ y ∈ l, ok y) ∧ RowIn w ad l.length cap sz (l.map C) := by
  rcases open_slice ht h with ⟨rfl, rfl⟩ | ⟨a, len, cap, m, n, D, Pl, rfl, hb, hl, hm, hmm, rfl, hx⟩
  · exact ⟨none, [], 0, rfl, fun y hy => (nomatch hy), ⟨Nat.le_refl _, Nat.zero_le _, rfl, .inl rfl⟩⟩
  simp only [if_true] at hmm
  subst hmm
  rw [hc] at hx
  have hone : ∀ i, i < m → ∃ y : α × List Value, w.cells? base (a.add (i * sz)) sz = some y.2 ∧ RelK (Z0 w) (C y.1) y.2 ∧ ok y.1 := by
    intro i hi
    obtain ⟨cs', h1, h2⟩ := hx i hi
    obtain ⟨y, hy1, hy2⟩ := hel _ _ _ h2 (World.cells?_some h1).2.1
    exact ⟨(y, cs'), h1, hy1, hy2⟩
  have sp : m ≠ 0 → a.spot = none := by
    intro h0
    obtain ⟨y, h1, _⟩ := hone 0 (by omega)
    have h2 := (World.cells?_some h1).2.2 0 hpos
    have h3 := List.getElem?_eq_getElem (show 0 < y.2.length by rw [(World.cells?_some h1).2.1]; exact hpos)
    rw [h3] at h2
    simp only [Nat.zero_mul, Addr.add, if_true] at h2
    unfold World.cell? at h2
    split at h2
    · cases hs : a.spot with
      | none => rfl
      | some s => rw [hs] at h2; simp at h2
    · cases h2
  obtain ⟨f, hf⟩ := choose_lt hone
  refine ⟨some a, (List.range len).map fun i => (f i).1, m, by simp, fun y hy => ?_, ⟨by simpa using hl, hm, by simp, ?_⟩⟩
  · obtain ⟨i, hi, rfl⟩ := List.mem_map.1 hy
    exact (hf i (by simp at hi; omega)).2.2
  · by_cases h0 : m = 0
    · exact .inl h0
    · refine .inr ⟨a.block, a.off, ?_, RelZ.of fun e c he => ?_⟩
      · have := sp h0
        cases a
        simp only at this
        rw [this]
      · have hil := getElem?_lt he
        simp only [List.length_map, List.length_range] at hil
        simp only [List.getElem?_map, List.getElem?_range hil, Option.map_some, Option.some.injEq] at he
        subst he
        obtain ⟨h1, h2, _⟩ := hf e (by omega)
        refine ⟨(f e).2, h2, (World.cells?_some h1).2.1, fun j u hu => ?_⟩
        have hjl : j < sz := by rw [← (World.cells?_some h1).2.1]; exact getElem?_lt hu
        have h3 := (World.cells?_some h1).2.2 j hjl
        rw [hu, add_add] at h3
        show w.cell? _ = _
        rw [← h3]
        congr 1
        have hs := sp h0
        cases a with
        | mk b o s =>
          simp only at hs
          subst hs
          unfold Addr.add
          by_cases h0 : e * sz + j = 0
          · simp only [h0, if_true, Nat.add_zero]
          · simp only [h0, if_false]
theorem rowIn_arg {α : Type} [Inhabited α] {C : α → List CV} {ok : α → Prop} {t e sz b0 : Nat} (ht : P.underlying t = some (.slice e)) (hc : P.cellsOf e = sz) (hpos : 0 < sz)
    (hel : ∀ n cs' x, DataW.trod enc P w base (fun _ => true) hd n e cs' = some x → cs'.length = sz → ∃ y, RelK (Z0 w) (C y) cs' ∧ ok y) {v : Value} {d : DataW H} {p : List MemPlace} (hv : Value.okWide P w .any b0 t v) (h : DataW.Trod enc P w base (fun _ => true) hd t v d p) :
    ∃ (ad : Option Addr) (l : List α) (cap : Nat), v = .slice ad l.length cap ∧ (∀ y ∈ l, ok y) ∧ RowIn w ad l.length cap sz (l.map C) := by
  obtain ⟨a0, len0, cap0, rfl⟩ := okWide_slice ht hv
  obtain ⟨fuel, h⟩ := h
  obtain ⟨ad, l, cap, h1, h2, h3⟩ := rowIn_of_trod ht hc hpos hel h
  have h1 : [Value.slice a0 len0 cap0] = [.slice ad l.length cap] := h1
  simp only [List.cons.injEq, and_true] at h1
  exact ⟨ad, l, cap, h1, h2, h3⟩
end
theorem relK_v {Z : Nat → Nat → Option Value} {u : Value} {l : List CV} {us : List Value} (hu : u.oneCell' = true) (h : RelK Z l us) : RelK Z (.v u :: l) (u :: us) := by
  unfold RelK
  exact ⟨u, us, rfl, by unfold RelC; exact ⟨rfl, hu⟩, h⟩
theorem relK_z {Z : Nat → Nat → Option Value} {c : CV} {u : Value} {l : List CV} {us : List Value} (hu : RelC Z c u) (h : RelK Z l us) : RelK Z (c :: l) (u :: us) := by
  unfold RelK
  exact ⟨u, us, rfl, hu, h⟩
theorem relK_nil {Z : Nat → Nat → Option Value} : RelK Z [] [] := by unfold RelK; rfl
/-- Where what is handed in lies. -/
def rhoOf (w : World) (ads : List (Option Addr)) : Plc := ⟨fun | .o k => adOf (ads.getD k none) | .g x => (x, 0) | .n _ => (0, 0), 0, Z0 w, fun _ => none, fun _ => default⟩
def rowsIn (w : World) : List (Option Addr) → List SB → Prop
  | [], [] => True
  | ad :: ads, .ro sz els :: bs => (∀ ρ : Plc, ρ.z = Z0 w → BlkOK ρ (adOf ad) (.ro sz els) w) ∧ rowsIn w ads bs
  | _, _ => False
theorem rowsIn_get {w : World} : ∀ {ads : List (Option Addr)} {bs : List SB}, rowsIn w ads bs → ∀ {k : Nat} {b : SB}, bs[k]? = some b → (∀ ρ : Plc, ρ.z = Z0 w → BlkOK ρ (adOf (ads.getD k none)) b w) ∧ ¬ b.isOwn
  | [], [], _, k, b, h => by simp at h
  | ad :: ads, .ro sz els :: bs, h, k, b, e => by
    cases k with
    | zero => simp at e; subst e; exact ⟨h.1, fun h => h.elim⟩
    | succ k => simpa using rowsIn_get h.2 (k := k) (by simpa using e)
  | [], _ :: _, h, _, _, _ => h.elim
  | _ :: _, [], h, _, _, _ => h.elim
  | _ :: _, .dead :: _, h, _, _, _ => h.elim
  | _ :: _, .box .. :: _, h, _, _, _ => h.elim
  | _ :: _, .cst .. :: _, h, _, _, _ => h.elim
  | _ :: _, .row .. :: _, h, _, _, _ => h.elim
theorem mem_of_rows {w : World} {ads : List (Option Addr)} {bs : List SB} {G : List (Nat × SB)} (h : rowsIn w ads bs) (hG : ∀ x b, assoc G x = some b → (∀ ρ : Plc, ρ.z = Z0 w → BlkOK ρ (x, 0) b w) ∧ ¬ b.isOwn) : MemOK (rhoOf w ads) ⟨G, bs, []⟩ w := by
  have key : ∀ a b, (Mem.mk G bs []).look a = some b → BlkOK (rhoOf w ads) ((rhoOf w ads).at_ a) b w ∧ ¬ b.isOwn := by
    intro a b hb
    cases a with
    | o k => obtain ⟨h1, h2⟩ := rowsIn_get h hb; exact ⟨h1 _ rfl, h2⟩
    | n i => simp [Mem.look] at hb
    | g x => obtain ⟨h1, h2⟩ := hG x b hb; exact ⟨h1 _ rfl, h2⟩
  exact ⟨fun a b hb => (key a b hb).1, fun a b A B hA hB hO => ((key a A hA).2 hO).elim, fun x => rfl, rfl, fun b o v h => h, fun a A ha hO => ((key a A ha).2 hO).elim, fun b o h => by cases h⟩
theorem rho_q (w : World) (ads : List (Option Addr)) : ∀ b, (rhoOf w ads).q b = none := fun _ => rfl
/-- A slice that is handed in, as it is told: by a name, or as what stays. -/
theorem rel_row {w : World} {ads : List (Option Addr)} {k : Nat} {ad : Option Addr} {len cap sz : Nat} {els : List (List CV)} (h : RowIn w ad len cap sz els) (hk : ads[k]? = some ad) : Rel (rhoOf w ads) (.s (.o k) sz 0 len cap) (.slice ad len cap) := by
  unfold Rel
  refine ⟨ad, rfl, h.le, h.at_.imp id fun ⟨b, o, e⟩ => ⟨?_, trivial⟩⟩
  subst e
  unfold locA rhoOf
  simp [adOf, hk]
theorem rel_z {w : World} {ads : List (Option Addr)} {ad : Option Addr} {len cap sz : Nat} {els : List (List CV)} (h : RowIn w ad len cap sz els) : Rel (rhoOf w ads) (.z sz els cap) (.slice ad len cap) := by
  unfold Rel
  exact ⟨ad, by rw [h.len], by rw [h.len]; exact h.le, h.z⟩
theorem relL_nil {ρ : Plc} : RelL ρ [] [] := by unfold RelL; rfl
theorem relL_cons {ρ : Plc} {x : SV} {u : Value} {l : List SV} {us : List Value} (h : Rel ρ x u) (hl : RelL ρ l us) : RelL ρ (x :: l) (u :: us) := by unfold RelL; exact ⟨u, us, rfl, h, hl⟩
theorem rel_c {ρ : Plc} {x : SV} {u : Value} (h : x = constV u) : Rel ρ x u := h ▸ Rel.const u
theorem rel_ev {ρ : Plc} {l : List SV} {us : List Value} (h : RelL ρ l us) : Rel ρ (.agg l) (.agg us.toArray) := by unfold Rel; exact ⟨us, rfl, h⟩
end Go.Proofs.Ytkcdomafdjpbjaa
