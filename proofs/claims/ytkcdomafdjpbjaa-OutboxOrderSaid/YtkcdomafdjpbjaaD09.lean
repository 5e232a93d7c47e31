/- Descriptors by computing: what they are; filters the same, and copied. -/
import Derived.Test.YtkcdomafdjpbjaaZW
import Derived.Test.YtkcdomafdjpbjaaZX
import Derived.Test.YtkcdomafdjpbjaaTy21
namespace Go.Proofs.Ytkcdomafdjpbjaa
open Go.RowKit

abbrev GG : List (Nat × SB) := []
theorem GG_no : noOwn GG := noOwn_nil
structure Sp where
  f : Int
  t : Int
  deriving DecidableEq
def spC (s : Sp) : List CV := [.v (.int .i32 s.f), .v (.int .i32 s.t)]
structure De where
  node : Int
  inc : Int
  age : Int
  fl : List Sp
  deriving DecidableEq
def deC (d : De) : List CV := [.v (.int .u8 d.node), .v (.int .u16 d.inc), .v (.int .u8 d.age), .z 2 (d.fl.map spC)]
abbrev deS (d : De) (cap : Nat) : SV := .agg [.v (.int .u8 d.node), .v (.int .u16 d.inc), .v (.int .u8 d.age), .z 2 (d.fl.map spC) cap]
abbrev deN (d : De) (cap : Nat) : SV := .agg [.v (.int .u8 d.node), .v (.int .u16 d.inc), .v (.int .u8 d.age), .s (.n 0) 2 0 d.fl.length cap]
theorem sp_at {l : List Sp} {k : Nat} {y : Sp} (h : l[k]? = some y) : (l.map spC)[(k : Int).toNat]? = some [.v (.int .i32 y.f), .v (.int .i32 y.t)] := by
  rw [Int.toNat_natCast, List.getElem?_map, h]; rfl
theorem de_at {l : List De} {k : Nat} {y : De} (h : l[k]? = some y) : (l.map deC)[0 + (k : Int).toNat]? = some [.v (.int .u8 y.node), .v (.int .u16 y.inc), .v (.int .u8 y.age), .z 2 (y.fl.map spC)] := by
  rw [Nat.zero_add, Int.toNat_natCast, List.getElem?_map, h]; rfl
theorem same_take {α : Type} {l r : List α} {k : Nat} {y : α} (h : l.take k = r.take k) (h1 : l[k]? = some y) (h2 : r[k]? = some y) : l.take (k + 1) = r.take (k + 1) := by
  rw [List.take_add_one, List.take_add_one, h, h1, h2]
theorem same_ne {α : Type} {l r : List α} {k : Nat} {y z : α} (h1 : l[k]? = some y) (h2 : r[k]? = some z) (h : y ≠ z) : l ≠ r := fun e => by
  subst e
  rw [h1] at h2
  exact h (Option.some.inj h2)
end Go.Proofs.Ytkcdomafdjpbjaa
