/- Law SchemaSame, by computing: what is turned. -/
import Derived.Test.YthcofkeiffpiiaaC03e
namespace Go.Proofs.Ythcofkeiffpiiaa
open Go.RowKit

set_option maxRecDepth 100000 in
set_option maxHeartbeats 4000000 in
theorem few_x (e : Ev_) (c1 c2 : Nat) : FnOK Try.prog GG 8 [.ro 1 (e.v.map iC), .ro 1 (e.d.map bC)] [evS e (.o 0) (.o 1) c1 c2] (fun r _ ext => r = .v (.bool (decide (e.v.length ≤ 20 ∧ e.d.length ≤ 200))) ∧ ext = []) := by
  refine fn_val (C := seat) seat_ok [] GG_no (Try.func8) rfl rfl rfl rfl rfl (fun _ => rfl) rfl ?_
  repeat' ((try conv => whnf); first
    | (with_reducible refine BB_true ?_)
    | (with_reducible refine BB_false ?_)
    | (with_reducible refine Both.mk ?_ ?_)
    | (with_reducible refine VS.mk ?_)
    | (refine PSem.go (C := seat) seat_ok ?_)
    | (refine And.intro (PlanOK.mk (by kernel_rfl) rfl (by kernel_rfl) (by kernel_rfl)) ?_)
    | (refine And.intro rfl (Exists.intro _ (And.intro (by first | assumption | rfl) ?_)))
    | (refine And.intro ⟨rfl, rfl, rfl⟩ ?_)
    | (refine And.intro (by omega) ?_)
    | (refine BB.mk (fun _h => ?_) (fun _h => ?_) <;> (first | (exact absurd _h (by decide)) | (exfalso; simp only [boolSet] at _h <;> omega) | skip)))
  all_goals (try conv => whnf)
  all_goals (try (refine Fin.mk ?_))
  all_goals (first
  | exact ⟨rfl, rfl⟩
  | (refine ⟨bool_eq ?_, rfl⟩
     rw [Bool.eq_iff_iff]
     simp only [wrapSet, boolSet] at * <;> omega)
  | (refine ⟨num_eq ?_, rfl⟩; simp only [wrapSet, boolSet] at *; omega)
  | (exfalso; simp only [wrapSet, boolSet] at * <;> omega))
theorem few_is (e : Ev_) (c1 c2 : Nat) (b : Bool) (h : decide (e.v.length ≤ 20 ∧ e.d.length ≤ 200) = b) : FnOK Try.prog GG 8 [.ro 1 (e.v.map iC), .ro 1 (e.d.map bC)] [evS e (.o 0) (.o 1) c1 c2] (fun r _ ext => r = .v (.bool b) ∧ ext = []) := by
  subst h
  exact few_x e c1 c2
theorem turn_i32 (x : Int) : IntKind.i32.wrap ((BitVec.ofInt 32 x ^^^ BitVec.ofInt 32 1).toNat : Int) ≠ x := by
  intro h
  have h1 : BitVec.ofInt 32 (IntKind.i32.wrap ((BitVec.ofInt 32 x ^^^ BitVec.ofInt 32 1).toNat : Int)) = BitVec.ofInt 32 x := by rw [h]
  have h2 : ∀ n : Nat, BitVec.ofInt 32 (IntKind.i32.wrap (n : Int)) = BitVec.ofNat 32 n := by
    intro n
    apply BitVec.eq_of_toNat_eq
    rw [BitVec.toNat_ofInt, BitVec.toNat_ofNat, IntKind.wrap_i32]
    omega
  rw [h2, BitVec.ofNat_toNat, BitVec.setWidth_eq] at h1
  have h3 : BitVec.ofInt 32 1 = 0#32 := by
    have := congrArg (BitVec.ofInt 32 x ^^^ ·) h1
    simp only [← BitVec.xor_assoc, BitVec.xor_self, BitVec.zero_xor] at this
    exact this
  exact absurd h3 (by decide)
theorem turn_u8 (x : Int) : IntKind.u8.wrap ((BitVec.ofInt 8 x ^^^ BitVec.ofInt 8 1).toNat : Int) ≠ x := by
  intro h
  have h1 : BitVec.ofInt 8 (IntKind.u8.wrap ((BitVec.ofInt 8 x ^^^ BitVec.ofInt 8 1).toNat : Int)) = BitVec.ofInt 8 x := by rw [h]
  have h2 : ∀ n : Nat, BitVec.ofInt 8 (IntKind.u8.wrap (n : Int)) = BitVec.ofNat 8 n := by
    intro n
    apply BitVec.eq_of_toNat_eq
    rw [BitVec.toNat_ofInt, BitVec.toNat_ofNat, IntKind.wrap_u8]
    omega
  rw [h2, BitVec.ofNat_toNat, BitVec.setWidth_eq] at h1
  have h3 : BitVec.ofInt 8 1 = 0#8 := by
    have := congrArg (BitVec.ofInt 8 x ^^^ ·) h1
    simp only [← BitVec.xor_assoc, BitVec.xor_self, BitVec.zero_xor] at this
    exact this
  exact absurd h3 (by decide)
theorem turn_u16 (x : Int) : IntKind.u16.wrap ((BitVec.ofInt 16 x ^^^ BitVec.ofInt 16 1).toNat : Int) ≠ x := by
  intro h
  have h1 : BitVec.ofInt 16 (IntKind.u16.wrap ((BitVec.ofInt 16 x ^^^ BitVec.ofInt 16 1).toNat : Int)) = BitVec.ofInt 16 x := by rw [h]
  have h2 : ∀ n : Nat, BitVec.ofInt 16 (IntKind.u16.wrap (n : Int)) = BitVec.ofNat 16 n := by
    intro n
    apply BitVec.eq_of_toNat_eq
    rw [BitVec.toNat_ofInt, BitVec.toNat_ofNat, IntKind.wrap_u16]
    omega
  rw [h2, BitVec.ofNat_toNat, BitVec.setWidth_eq] at h1
  have h3 : BitVec.ofInt 16 1 = 0#16 := by
    have := congrArg (BitVec.ofInt 16 x ^^^ ·) h1
    simp only [← BitVec.xor_assoc, BitVec.xor_self, BitVec.zero_xor] at this
    exact this
  exact absurd h3 (by decide)
theorem turn_u32 (x : Int) : IntKind.u32.wrap ((BitVec.ofInt 32 x ^^^ BitVec.ofInt 32 1).toNat : Int) ≠ x := by
  intro h
  have h1 : BitVec.ofInt 32 (IntKind.u32.wrap ((BitVec.ofInt 32 x ^^^ BitVec.ofInt 32 1).toNat : Int)) = BitVec.ofInt 32 x := by rw [h]
  have h2 : ∀ n : Nat, BitVec.ofInt 32 (IntKind.u32.wrap (n : Int)) = BitVec.ofNat 32 n := by
    intro n
    apply BitVec.eq_of_toNat_eq
    rw [BitVec.toNat_ofInt, BitVec.toNat_ofNat, IntKind.wrap_u32]
    omega
  rw [h2, BitVec.ofNat_toNat, BitVec.setWidth_eq] at h1
  have h3 : BitVec.ofInt 32 1 = 0#32 := by
    have := congrArg (BitVec.ofInt 32 x ^^^ ·) h1
    simp only [← BitVec.xor_assoc, BitVec.xor_self, BitVec.zero_xor] at this
    exact this
  exact absurd h3 (by decide)
theorem set_ne {l : List Int} {k : Nat} {z x : Int} (h : l[k]? = some z) (hx : x ≠ z) : decide (l = l.set k x) = false := by
  refine decide_eq_false fun e => hx ?_
  have h1 : (l.set k x)[k]? = some x := by simp [getElem?_lt h]
  rw [← e, h] at h1
  cases h1
  rfl
theorem set_ne' {l : List Int} {k : Nat} {z x : Int} (h : l[k]? = some z) (hx : x ≠ z) : decide (l.set k x = l) = false := by
  refine decide_eq_false fun e => hx ?_
  have h1 : (l.set k x)[k]? = some x := by simp [getElem?_lt h]
  rw [e, h] at h1
  cases h1
  rfl
theorem iC_set (l : List Int) (k : Nat) (x : Int) : (l.map iC).set k [.int .i32 x] = (l.set k x).map iC := by rw [List.map_set]; rfl
theorem bC_set (l : List Int) (k : Nat) (x : Int) : (l.map bC).set k [.int .u8 x] = (l.set k x).map bC := by rw [List.map_set]; rfl
theorem sameB_self (e : Ev_) : sameB e e = true := by simp [sameB, idB]
theorem same_isn (e f : Ev_) (n1 n2 n3 n4 c1 c2 c3 c4 : Nat) (h1 : n1 = e.v.length) (h2 : n2 = e.d.length) (h3 : n3 = f.v.length) (h4 : n4 = f.d.length) (hv : e.v.length ≤ 1099511627776) (hd : e.d.length ≤ 1099511627776) (b : Bool) (h : sameB e f = b) :
    FnOK Try.prog GG 12 [.ro 1 (e.v.map iC), .ro 1 (e.d.map bC), .ro 1 (f.v.map iC), .ro 1 (f.d.map bC)] [.agg [.v (.int .u8 e.n), .v (.int .u16 e.i), .v (.int .u32 e.s), .s (.o 0) 1 0 n1 c1, .s (.o 1) 1 0 n2 c2], .agg [.v (.int .u8 f.n), .v (.int .u16 f.i), .v (.int .u32 f.s), .s (.o 2) 1 0 n3 c3, .s (.o 3) 1 0 n4 c4]] (fun r _ ext => r = .v (.bool b) ∧ ext = []) := by
  subst h1; subst h2; subst h3; subst h4
  exact same_is e f c1 c2 c3 c4 hv hd b h
end Go.Proofs.Ythcofkeiffpiiaa
