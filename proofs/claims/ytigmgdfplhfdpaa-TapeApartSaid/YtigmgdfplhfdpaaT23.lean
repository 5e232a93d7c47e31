/- Package tape: numbers. -/
import Derived.Test.YtigmgdfplhfdpaaTy23
import Derived.Test.YtigmgdfplhfdpaaZK
namespace Go.Proofs.Ytigmgdfplhfdpaa
open Go.RowKit

def GG : List (Nat × SB) := []
theorem GG_no : noOwn GG := fun x b h => by simp [GG, assoc] at h
def atD {α : Type} [Inhabited α] (l : List α) (k : Nat) : α := l.getD k default
theorem atD_some {α : Type} [Inhabited α] {l : List α} {k : Nat} (h : k < l.length) : l[k]? = some (atD l k) := by
  unfold atD
  rw [List.getD_eq_getElem?_getD, List.getElem?_eq_getElem h]; rfl
theorem atD_ext {α : Type} [Inhabited α] {l r : List α} (h : l.length = r.length) (k : ∀ j, j < l.length → atD l j = atD r j) : l = r := by
  apply List.ext_getElem?
  intro i
  by_cases hi : i < l.length
  · rw [atD_some hi, atD_some (h ▸ hi), k i hi]
  · rw [List.getElem?_eq_none (by omega), List.getElem?_eq_none (by omega)]
def nuC (x : Int) : List CV := [.v (.int .u32 x)]
theorem atN {l : List Int} {k : Nat} (h : k < l.length) : (l.map nuC)[(k : Int).toNat]? = some [.v (.int .u32 (atD l k))] := by
  rw [Int.toNat_natCast, List.getElem?_map, atD_some h]; rfl
theorem nu_at {l : List Int} {k : Nat} {y : Int} (h : l[k]? = some y) : (l.map nuC)[(k : Int).toNat]? = some [.v (.int .u32 y)] := by
  rw [Int.toNat_natCast, List.getElem?_map, h]; rfl
abbrev tpS (l : List Int) (c : Nat) (at_ : Int) : SV := .agg [.z 1 (l.map nuC) c, .v (.int .i64 at_)]
def plI (l : List Int) (at_ : Int) : Nat := if at_ < 0 ∨ (l.length : Int) ≤ at_ then 0 else at_.toNat
theorem plI_lt (l : List Int) (at_ : Int) : plI l at_ = 0 ∨ plI l at_ < l.length := by
  unfold plI
  split <;> omega
/-- Where the tape is behind k numbers, and the number that comes then. -/
def posK (l : List Int) (p k : Nat) : Nat := if l.length = 0 then 0 else (p + k) % l.length
def numK (l : List Int) (p k : Nat) : Int := if l.length = 0 then 0 else atD l ((p + k) % l.length)
theorem posK_lt {l : List Int} (h : l.length ≠ 0) (p k : Nat) : posK l p k < l.length := by
  unfold posK
  rw [if_neg h]
  exact Nat.mod_lt _ (by omega)
theorem posK_zero {l : List Int} {p : Nat} (h : p = 0 ∨ p < l.length) : posK l p 0 = p := by
  unfold posK
  split
  · omega
  · rw [Nat.add_zero]
    exact Nat.mod_eq_of_lt (by omega)
theorem posK_succ (l : List Int) (p k : Nat) : posK l p (k + 1) = if l.length = 0 then 0 else (posK l p k + 1) % l.length := by
  unfold posK
  split
  · rfl
  · rename_i h
    rw [Nat.mod_add_mod, Nat.add_assoc]
theorem numK_pos {l : List Int} (h : l.length ≠ 0) (p k : Nat) : numK l p k = atD l (posK l p k) := by
  unfold numK posK
  rw [if_neg h, if_neg h]
theorem numK_nil {l : List Int} (h : l.length = 0) (p k : Nat) : numK l p k = 0 := if_pos h
theorem posK_nil {l : List Int} (h : l.length = 0) (p k : Nat) : posK l p k = 0 := if_pos h
theorem enc_eq {a b c d : Int} (h1 : a = c) (h2 : b = d) : [SV.v (.int .u32 a), SV.v (.int .i64 b)] = [.v (.int .u32 c), .v (.int .i64 d)] := by rw [h1, h2]
theorem cellsZ_agg {l m : List SV} (h : CellsZ l) (k : CellsZ m) : CellsZ (.agg l :: m) := fun ρ ρ' us hz hr => by
  unfold RelL at hr
  obtain ⟨u, t, rfl, hu, ht⟩ := hr
  unfold RelL
  refine ⟨u, t, rfl, ?_, k ρ ρ' t hz ht⟩
  unfold Rel at *
  obtain ⟨us, rfl, hus⟩ := hu
  exact ⟨us, rfl, h ρ ρ' us hz hus⟩
set_option maxRecDepth 100000 in
set_option maxHeartbeats 4000000 in
theorem place_z (l : List Int) (c : Nat) (at_ : Int) : FnOK Try.prog GG 20 [] [tpS l c at_] (fun r _ ext => (r = .v (.int .i64 (plI l at_))) ∧ ext = []) := by
  have hml : (l.map nuC).length = l.length := List.length_map _
  refine FnOK.pure GG_no rfl (fn_intro (C := seat) seat_ok [] GG_no (Try.func20) rfl rfl rfl rfl rfl ?_)
  repeat' ((try conv => whnf); first
    | (with_reducible refine OKv.go (C := seat) seat_ok ?_)
    | (with_reducible refine BB_true ?_)
    | (with_reducible refine BB_false ?_)
    | (with_reducible refine Both.mk ?_ ?_)
    | (with_reducible refine VS.mk ?_)
    | (refine PSem.go (C := seat) seat_ok ?_)
    | (refine And.intro (PlanOK.mk (by kernel_rfl) rfl (by kernel_rfl) (by kernel_rfl)) ?_)
    | (refine And.intro rfl (Exists.intro _ (And.intro (by first | assumption | rfl) ?_)))
    | (refine And.intro ⟨rfl, rfl, rfl⟩ ?_)
    | (refine BB.mk (fun _h => ?_) (fun _h => ?_) <;> (first | (exact absurd _h (by decide)) | (exfalso; simp only [boolSet, hml] at _h <;> omega) | (simp only [boolSet, hml] at _h) | skip))
    | (refine And.intro (by omega) ?_)
    | (refine BB.mk (fun _h => ?_) (fun _h => ?_) <;> (first | (exact absurd _h (by decide)) | (exfalso; simp only [boolSet] at _h <;> omega) | skip)))
  all_goals (try conv => whnf)
  all_goals exact ⟨_, _, FrzV.refl _ _, rfl, rfl, fun _ => rfl, num_eq (by unfold plI; split <;> omega)⟩
end Go.Proofs.Ytigmgdfplhfdpaa
