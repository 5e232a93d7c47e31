/- What an operation does that writes and makes no memory: the rest of them. -/
import Derived.Test.YtkcdomafdjpbjaaZP
namespace Go.Proofs.Ytkcdomafdjpbjaa
open Go.RowKit

def eqInts : List Int → List Int → Bool
  | [], [] => true
  | x :: xs, y :: ys => x == y && eqInts xs ys
  | _, _ => false
def aggI (ks : List IntKind) (xs : List Int) : Value := .agg ((ks.zip xs).map fun p => Value.int p.1 p.2).toArray
/-- Values of a type are the same just if their numbers are. -/
def EqOK (P : Program) (t : Nat) (ks : List IntKind) : Prop :=
  ∀ (xs ys : List Int) (x y : Operand) (w : World), xs.length = ks.length → ys.length = ks.length →
    (do eqGuard .eql t x y (aggI ks xs) (aggI ks ys); binOp .eql t (aggI ks xs) (aggI ks ys)).run P w = .ok (.bool (eqInts xs ys)) w ∧
    (do eqGuard .neq t x y (aggI ks xs) (aggI ks ys); binOp .neq t (aggI ks xs) (aggI ks ys)).run P w = .ok (.bool (!eqInts xs ys)) w
def intsK : List IntKind → List SV → (List Int → Prop) → Prop → Prop
  | [], [], K, _ => K []
  | k :: ks, .v (.int k' x) :: l, K, o => match decide (k = k') with
    | true => intsK ks l (fun r => K (x :: r)) o
    | false => o
  | _, _, _, o => o
theorem intsK_spec {ρ : Plc} : ∀ {ks : List IntKind} {l : List SV} {K : List Int → Prop} {o : Prop} {us : List Value}, intsK ks l K o → RelL ρ l us →
    o ∨ ∃ xs : List Int, K xs ∧ xs.length = ks.length ∧ us = (ks.zip xs).map fun p => Value.int p.1 p.2
  | [], [], K, _, us, h, r => by
    unfold RelL at r
    exact .inr ⟨[], h, rfl, r⟩
  | k :: ks, .v (.int k' x) :: l, K, o, us, h, r => by
    unfold intsK at h
    unfold RelL at r
    obtain ⟨u, us', rfl, hu, hr⟩ := r
    split at h
    · rename_i hk
      obtain rfl : k = k' := of_decide_eq_true hk
      rcases intsK_spec h hr with h | ⟨xs, h1, h2, h3⟩
      · exact .inl h
      · refine .inr ⟨x :: xs, h1, by simp [h2], ?_⟩
        unfold Rel at hu
        simp [h3, hu]
    · exact .inl h
  | [], _ :: _, _, _, _, h, _ => .inl h
  | _ :: _, [], _, _, _, h, _ => .inl h
  | _ :: _, .any :: _, _, _, _, h, _ | _ :: _, .p .. :: _, _, _, _, h, _ | _ :: _, .s .. :: _, _, _, _, h, _ | _ :: _, .agg _ :: _, _, _, _, h, _
  | _ :: _, .tup _ :: _, _, _, _, h, _ | _ :: _, .fn .. :: _, _, _, _, h, _ | _ :: _, .bm .. :: _, _, _, _, h, _ | _ :: _, .z .. :: _, _, _, _, h, _ | _ :: _, .zp _ :: _, _, _, _, h, _ => .inl h
  | _ :: _, .v (.bool _) :: _, _, _, _, h, _ | _ :: _, .v (.float ..) :: _, _, _, _, h, _ | _ :: _, .v (.complex ..) :: _, _, _, _, h, _ | _ :: _, .v (.string _) :: _, _, _, _, h, _
  | _ :: _, .v (.pointer _) :: _, _, _, _, h, _ | _ :: _, .v (.slice ..) :: _, _, _, _, h, _ | _ :: _, .v (.map _) :: _, _, _, _, h, _ | _ :: _, .v (.chan _) :: _, _, _, _, h, _
  | _ :: _, .v (.func ..) :: _, _, _, _, h, _ | _ :: _, .v .nilFunc :: _, _, _, _, h, _ | _ :: _, .v (.iface ..) :: _, _, _, _, h, _ | _ :: _, .v .nilIface :: _, _, _, _, h, _
  | _ :: _, .v (.agg _) :: _, _, _, _, h, _ | _ :: _, .v (.tuple _) :: _, _, _, _, h, _ => .inl h

/-- The operations on two numbers of a kind (shifts apart). -/
def intBin (op : BinOp) (k : IntKind) (x y : Int) (K : SV → Prop) (other : Prop) : Prop := match op with
  | .add => K (.v (.int k (k.wrap (x + y))))
  | .sub => K (.v (.int k (k.wrap (x - y))))
  | .mul => K (.v (.int k (k.wrap (x * y))))
  | .quo => y ≠ 0 ∧ K (.v (.int k (k.wrap (x.tdiv y))))
  | .rem => y ≠ 0 ∧ K (.v (.int k (x.tmod y)))
  | .and => K (.v (.int k (k.wrap (BitVec.ofInt k.bits x &&& BitVec.ofInt k.bits y).toNat)))
  | .or => K (.v (.int k (k.wrap (BitVec.ofInt k.bits x ||| BitVec.ofInt k.bits y).toNat)))
  | .xor => K (.v (.int k (k.wrap (BitVec.ofInt k.bits x ^^^ BitVec.ofInt k.bits y).toNat)))
  | .andNot => K (.v (.int k (k.wrap (BitVec.ofInt k.bits x &&& ~~~ BitVec.ofInt k.bits y).toNat)))
  | .eql => K (.v (.bool (x == y)))
  | .neq => K (.v (.bool (x != y)))
  | .lss => K (.v (.bool (decide (x < y))))
  | .leq => K (.v (.bool (decide (x ≤ y))))
  | .gtr => K (.v (.bool (decide (x > y))))
  | .geq => K (.v (.bool (decide (x ≥ y))))
  | _ => other
theorem intBin_sound {P : Program} {op : BinOp} {t : Nat} {k : IntKind} {x y : Int} {K : SV → Prop} {other : Prop} {ρ : Plc} {X Y : Operand} (h : intBin op k x y K other) :
    (∃ sv v, K sv ∧ Rel ρ sv v ∧ ∀ w', (do eqGuard op t X Y (.int k x) (.int k y); binOp op t (.int k x) (.int k y)).run P w' = .ok v w') ∨ other := by
  cases op <;> simp only [intBin] at h <;> first
    | exact .inr h
    | (refine .inl ⟨_, _, h, by unfold Rel; rfl, fun w' => ?_⟩; simp [eqGuard, binOp, Op.intArith, Op.intBits, Op.intCmp]; done)
    | (refine .inl ⟨_, _, h.2, by unfold Rel; rfl, fun w' => ?_⟩; simp [eqGuard, binOp, Op.intDiv, h.1]; done)
def eqSV (E : List (Nat × List IntKind)) (op : BinOp) (t : Nat) (xs ys : List SV) (K : SV → Prop) (other : Prop) : Prop :=
  match assoc E t with
  | some ks => intsK ks xs (fun a => intsK ks ys (fun b => match op with
    | .eql => K (.v (.bool (eqInts a b)))
    | .neq => K (.v (.bool (!eqInts a b)))
    | _ => other) other) other
  | none => other
theorem eqSV_sound {P : Program} {E : List (Nat × List IntKind)} (hE : ∀ t ks, assoc E t = some ks → EqOK P t ks) {op : BinOp} {t : Nat} {xs ys : List SV} {K : SV → Prop} {other : Prop} {ρ : Plc} {X Y : Operand} {us vs : List Value}
    (hx : RelL ρ xs us) (hy : RelL ρ ys vs) (h : eqSV E op t xs ys K other) :
    (∃ sv v, K sv ∧ Rel ρ sv v ∧ ∀ w', (do eqGuard op t X Y (.agg us.toArray) (.agg vs.toArray); binOp op t (.agg us.toArray) (.agg vs.toArray)).run P w' = .ok v w') ∨ other := by
  unfold eqSV at h
  split at h
  · rename_i ks hk
    rcases intsK_spec h hx with h | ⟨a, h, ha, rfl⟩
    · exact .inr h
    rcases intsK_spec h hy with h | ⟨b, h, hb, rfl⟩
    · exact .inr h
    split at h
    · exact .inl ⟨_, _, h, by unfold Rel; rfl, fun w' => (hE t ks hk a b X Y w' ha hb).1⟩
    · exact .inl ⟨_, _, h, by unfold Rel; rfl, fun w' => (hE t ks hk a b X Y w' ha hb).2⟩
    · exact .inr h
  · exact .inr h
end Go.Proofs.Ytkcdomafdjpbjaa
