/- Law DescNewer, by computing. -/
import Derived.Test.YtocappiebmmpgaaD09s
namespace Go.Proofs.Ytocappiebmmpgaa
open Go.RowKit

theorem row_cut {ρ : Plc} {b : Nat × Nat} {t sz cap : Nat} {X Y : List (List CV)} {w : World} (h : BlkOK ρ b (.row t sz cap (X ++ Y)) w) : BlkOK ρ b (.row t sz cap X) w := by
  obtain ⟨raw, hR, h0, h1, h2⟩ := h
  have hl := hR.1
  rw [List.length_append] at hl
  have hX : (raw.take X.length).length = X.length := by rw [List.length_take]; omega
  have hRX := hR.take X.length
  rw [List.take_left' rfl] at hRX
  refine ⟨raw.take X.length, hRX, by rw [hX]; omega, fun c hc => h1 c (List.mem_of_mem_take hc), fun hc0 => ?_⟩
  obtain ⟨e0, hcm, cur, hw, hcs, htk⟩ := h2 hc0
  refine ⟨e0, hcm, cur, hw, hcs, ?_⟩
  rw [hX, ← (flat_take (fun d hd => (h1 d hd).1) X.length (by omega)).1, ← htk, List.take_take, Nat.min_eq_left (Nat.mul_le_mul_right _ (by omega))]
/-- What lies behind a row's first elements is no more told. -/
theorem call_cut {P : Program} {keep : Bool} {m : Mem} {n : Nat} {f : Nat} {args : List SV} {K : SV → Mem → Prop} (b : Nat) {t sz cap : Nat} {X Y : List (List CV)} (hl : m.look (.n b) = some (.row t sz cap (X ++ Y))) (h : CallSem P keep (m.set (.n b) (.row t sz cap X)) n f args K) : CallSem P keep m n f args K :=
  ⟨fun E ρ w us hE hH hr => h.out E ρ w us hE (hH.set (by simp) hl (.inr rfl) (fun h => h) (fun h => h) (row_cut (hH.mem.blk _ _ hl)) rfl rfl rfl rfl (fun _ _ => rfl)) hr⟩
abbrev mxI (z : Int) : Int := bif true then (if (1 : Int) > z then 1 else z) else (if (1 : Int) < z then 1 else z)
theorem mxI_ne {z : Int} (h : 0 ≤ z) : mxI z ≠ 0 := by
  unfold mxI
  simp only [cond_true]
  split <;> omega
abbrev xD (a : De) : De := ⟨a.node, mxI a.inc, a.age, a.fl⟩
abbrev yD (a b : De) : De := ⟨a.node, mxI b.inc, b.age, b.fl⟩
end Go.Proofs.Ytocappiebmmpgaa
