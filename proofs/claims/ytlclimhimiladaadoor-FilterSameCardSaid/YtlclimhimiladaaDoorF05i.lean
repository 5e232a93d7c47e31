/- Law FilterSame. -/
import Derived.Test.YtlclimhimiladaaDoorF05f
namespace Go.Proofs.YtlclimhimiladaaDoor
open Go.RowKit

theorem frz_rowE {m : Mem} {b t sz c len cap : Nat} {els els' : List (List CV)} (hl : m.look (.n b) = some (.row t sz c els)) (hn : len = els'.length) (he : els = els') : FrzV m (.s (.n b) sz 0 len cap) (.z sz els' cap) (m.set (.n b) (.ro sz els)) := by
  subst he
  exact frz_row hl hn
def xb (x : Int) : Int := IntKind.i32.wrap (BitVec.ofInt IntKind.i32.bits x ^^^ BitVec.ofInt IntKind.i32.bits 1).toNat
theorem xb_ne {x : Int} (h1 : -2147483648 ≤ x) (h2 : x ≤ 2147483647) : xb x ≠ x := by
  intro h
  have e1 : BitVec.ofInt 32 (xb x) = BitVec.ofInt 32 x ^^^ BitVec.ofInt 32 1 := by
    unfold xb
    apply BitVec.eq_of_toNat_eq
    rw [IntKind.wrap_i32]
    have hb : IntKind.i32.bits = 32 := rfl
    rw [hb]
    have := (BitVec.ofInt 32 x ^^^ BitVec.ofInt 32 1).isLt
    rw [BitVec.toNat_ofInt]
    omega
  rw [h] at e1
  have e2 := congrArg (· ^^^ BitVec.ofInt 32 x) e1
  simp only [BitVec.xor_self] at e2
  rw [BitVec.xor_comm (BitVec.ofInt 32 x) _, BitVec.xor_assoc, BitVec.xor_self] at e2
  exact absurd e2 (by decide)
theorem set_ne {l : List Sp} {k : Nat} (hk : k < l.length) (ho : SpOk (atD l k)) : l.set k ⟨(atD l k).a, xb (atD l k).b⟩ ≠ l := by
  intro h
  have h1 := congrArg (·[k]?) h
  simp only [List.getElem?_set, if_true, if_pos hk, atD_some hk] at h1
  have h2 := congrArg Sp.b (Option.some.inj h1)
  exact xb_ne ho.2.1 ho.2.2 h2
set_option maxRecDepth 100000 in
set_option maxHeartbeats 4000000 in
theorem filterSame_ok (l : List Sp) (ca : Nat) (at_ : Int) (hl : l.length ≤ 9223372036854775807) (hca : l.length ≤ ca) (hok : ∀ y ∈ l, SpOk y) (hat : 0 ≤ at_ ∧ at_ ≤ 255) : FnOK Tryd.prog GG 8 [] [.z 2 (l.map spC) ca, .v (.int .u8 at_)] (fun r _ ext => (r = .v (.bool true)) ∧ ext = []) := by
  have hmc : (l.map spC).length = l.length := List.length_map _
  by_cases h8 : 8 < l.length
  · refine FnOK.pure GG_no rfl (fn_intro (C := seat) seat_ok [] GG_no (Tryd.func8) rfl rfl rfl rfl rfl ?_)
    repeat' ((try conv => whnf); first
      | (with_reducible refine OKv.go (C := seat) seat_ok ?_)
      | (with_reducible refine BB_true ?_)
      | (with_reducible refine BB_false ?_)
      | (with_reducible refine Both.mk ?_ ?_)
      | (with_reducible refine VS.mk ?_)
      | (refine PSem.go (C := seat) seat_ok ?_)
      | (refine And.intro (PlanOK.mk (by kernel_rfl) rfl (by kernel_rfl) (by kernel_rfl)) ?_)
      | (refine And.intro rfl (Exists.intro _ (And.intro (by first | assumption | rfl) ?_)))
      | (refine And.intro ⟨rfl, rfl, rfl⟩ ?_)
      | (refine call_ro [] (awake_ok) GG_no rfl rfl rfl trivial ?_; rintro r bs' ext ⟨rfl, rfl⟩)
      | (refine BB.mk (fun _h => ?_) (fun _h => ?_) <;> (first | (exact absurd _h (by decide)) | (exfalso; simp only [boolSet, hmc] at _h <;> omega) | (simp only [boolSet, hmc] at _h) | skip))
      | (refine And.intro (by omega) ?_)
      | (refine BB.mk (fun _h => ?_) (fun _h => ?_) <;> (first | (exact absurd _h (by decide)) | (exfalso; simp only [boolSet] at _h <;> omega) | skip)))
    all_goals (try conv => whnf)
    all_goals first
      | exact ⟨_, _, FrzV.refl _ _, rfl, rfl, fun _ => rfl, rfl⟩
      | (exfalso; omega)
  · by_cases h0 : l.length = 0
    · refine FnOK.pure GG_no rfl (fn_intro (C := seat) seat_ok [] GG_no (Tryd.func8) rfl rfl rfl rfl rfl ?_)
      repeat' ((try conv => whnf); first
        | (with_reducible refine OKv.go (C := seat) seat_ok ?_)
        | (with_reducible refine BB_true ?_)
        | (with_reducible refine BB_false ?_)
        | (with_reducible refine Both.mk ?_ ?_)
        | (with_reducible refine VS.mk ?_)
        | (refine PSem.go (C := seat) seat_ok ?_)
        | (refine And.intro (PlanOK.mk (by kernel_rfl) rfl (by kernel_rfl) (by kernel_rfl)) ?_)
        | (refine And.intro rfl (Exists.intro _ (And.intro (by first | assumption | rfl) ?_)))
        | (refine And.intro ⟨rfl, rfl, rfl⟩ ?_)
        | (refine call_ro [] (copy_own l ca hca (by omega)) GG_no rfl rfl rfl trivial ?_; rintro r bs' ext ⟨c', hc', rfl, rfl⟩)
        | (refine call_ro [] (awake_ok) GG_no rfl rfl rfl trivial ?_; rintro r bs' ext ⟨rfl, rfl⟩)
        | (refine call_frz 0 rfl (frz_rowE (els' := (l ++ [(⟨0, 0⟩ : Sp)]).map spC) (by rfl) (by rw [List.length_map, List.length_append]; first | rfl | simp | omega) (by rw [List.map_append]; rfl)) ?_; refine call_ro [] (same_z (l ++ [⟨0, 0⟩]) l _ _ (by simp; omega) false (decide_eq_false (fun h => by have := congrArg List.length h; simp at this))) GG_no rfl rfl rfl trivial ?_; rintro r bs' ext ⟨rfl, rfl⟩)
        | ((try (first | refine call_frz 0 rfl (frz_nil _ 2) ?_ | refine call_frz 0 rfl (frz_row rfl (by first | rfl | exact (List.length_map _).symm)) ?_ | refine call_frz 0 rfl (frz_ro rfl (by first | rfl | exact (List.length_map _).symm)) ?_)); (try (first | refine call_frz 1 rfl (frz_nil _ 2) ?_ | refine call_frz 1 rfl (frz_row rfl (by first | rfl | exact (List.length_map _).symm)) ?_ | refine call_frz 1 rfl (frz_ro rfl (by first | rfl | exact (List.length_map _).symm)) ?_)); refine call_ro [] (same_z l l _ _ (by omega) true (by simp)) GG_no rfl rfl rfl trivial ?_; rintro r bs' ext ⟨rfl, rfl⟩)
        | (refine And.intro ⟨rfl, rfl, rfl, by first | (simp only [chunks_len, List.length_map, List.length_take, List.length_drop, List.length_append, List.length_cons, List.length_nil] <;> omega) | omega | rfl⟩ ?_)
        | (refine And.intro ⟨rfl, by first | (simp only [chunks_len, List.length_map, List.length_take, List.length_drop, List.length_append, List.length_cons, List.length_nil] <;> omega) | omega | rfl⟩ ?_)
        | (refine And.intro (by first | exact ⟨rfl, Nat.le_refl _⟩ | first | (simp only [chunks_len, List.length_map, List.length_take, List.length_drop, List.length_append, List.length_cons, List.length_nil] <;> omega) | omega | rfl) ?_)
        | (refine fun (caps : Nat → Nat) hcaps => ?_; conv at hcaps => whnf)
        | (refine fun (cap' : Nat) hcap' => ?_)
        | (refine BB.mk (fun _h => ?_) (fun _h => ?_) <;> (first | (exact absurd _h (by decide)) | (exfalso; simp only [boolSet, hmc] at _h <;> omega) | (simp only [boolSet, hmc] at _h) | skip))
        | (refine And.intro (by omega) ?_)
        | (refine BB.mk (fun _h => ?_) (fun _h => ?_) <;> (first | (exact absurd _h (by decide)) | (exfalso; simp only [boolSet] at _h <;> omega) | skip)))
      all_goals (try conv => whnf)
      all_goals first
        | exact ⟨_, _, FrzV.refl _ _, rfl, rfl, fun _ => rfl, rfl⟩
        | (exfalso; omega)
    · have hk0 : (IntKind.i64.wrap at_).tmod (l.length : Int) = ((at_.toNat % l.length : Nat) : Int) := by
        have e1 : IntKind.i64.wrap at_ = ((at_.toNat : Nat) : Int) := by rw [IntKind.wrap_i64]; omega
        rw [e1]; rfl
      obtain ⟨k, hk, hkl⟩ : ∃ k : Nat, (IntKind.i64.wrap at_).tmod (l.length : Int) = (k : Int) ∧ k < l.length := ⟨_, hk0, Nat.mod_lt _ (by omega)⟩
      have hrow : (l.map spC)[0 + ((IntKind.i64.wrap at_).tmod (l.length : Int)).toNat]? = some [.v (.int .i32 (atD l k).a), .v (.int .i32 (atD l k).b)] := by
        rw [hk, Nat.zero_add]
        exact atC hkl
      refine FnOK.pure GG_no rfl (fn_intro (C := seat) seat_ok [] GG_no (Tryd.func8) rfl rfl rfl rfl rfl ?_)
      repeat' ((try conv => whnf); first
        | (with_reducible refine OKv.go (C := seat) seat_ok ?_)
        | (with_reducible refine BB_true ?_)
        | (with_reducible refine BB_false ?_)
        | (with_reducible refine Both.mk ?_ ?_)
        | (with_reducible refine VS.mk ?_)
        | (refine PSem.go (C := seat) seat_ok ?_)
        | (refine And.intro (PlanOK.mk (by kernel_rfl) rfl (by kernel_rfl) (by kernel_rfl)) ?_)
        | (refine And.intro rfl (Exists.intro _ (And.intro (by first | assumption | rfl) ?_)))
        | (refine And.intro ⟨rfl, rfl, rfl⟩ ?_)
        | (refine call_ro [] (copy_own l ca hca (by omega)) GG_no rfl rfl rfl trivial ?_; rintro r bs' ext ⟨c', hc', rfl, rfl⟩)
        | (refine call_ro [] (awake_ok) GG_no rfl rfl rfl trivial ?_; rintro r bs' ext ⟨rfl, rfl⟩)
        | (refine call_frz 0 rfl (frz_rowE (els' := (l ++ [(⟨0, 0⟩ : Sp)]).map spC) (by rfl) (by rw [List.length_map, List.length_append]; first | rfl | simp | omega) (by rw [List.map_append]; rfl)) ?_; refine call_ro [] (same_z (l ++ [⟨0, 0⟩]) l _ _ (by simp; omega) false (decide_eq_false (fun h => by have := congrArg List.length h; simp at this))) GG_no rfl rfl rfl trivial ?_; rintro r bs' ext ⟨rfl, rfl⟩)
        | (refine call_frz 0 rfl (frz_rowE (els' := (l.set k ⟨(atD l k).a, xb (atD l k).b⟩).map spC) (by rfl) (by rw [List.length_map, List.length_set]) (by rw [List.map_set, hk, Nat.zero_add, Int.toNat_natCast]; rfl)) ?_; refine call_ro [] (same_z (l.set k ⟨(atD l k).a, xb (atD l k).b⟩) l _ _ (by rw [List.length_set]; omega) false (decide_eq_false (set_ne hkl (hok _ (List.mem_of_getElem? (atD_some hkl)))))) GG_no rfl rfl rfl trivial ?_; rintro r bs' ext ⟨rfl, rfl⟩)
        | ((try (first | refine call_frz 0 rfl (frz_nil _ 2) ?_ | refine call_frz 0 rfl (frz_row rfl (by first | rfl | exact (List.length_map _).symm)) ?_ | refine call_frz 0 rfl (frz_ro rfl (by first | rfl | exact (List.length_map _).symm)) ?_)); (try (first | refine call_frz 1 rfl (frz_nil _ 2) ?_ | refine call_frz 1 rfl (frz_row rfl (by first | rfl | exact (List.length_map _).symm)) ?_ | refine call_frz 1 rfl (frz_ro rfl (by first | rfl | exact (List.length_map _).symm)) ?_)); refine call_ro [] (same_z l l _ _ (by omega) true (by simp)) GG_no rfl rfl rfl trivial ?_; rintro r bs' ext ⟨rfl, rfl⟩)
        | (refine And.intro ⟨by rw [hk]; omega, by rw [hk]; omega⟩ ?_)
        | (refine And.intro ⟨rfl, rfl, rfl, by first | (simp only [chunks_len, List.length_map, List.length_take, List.length_drop, List.length_append, List.length_cons, List.length_nil] <;> omega) | omega | rfl⟩ ?_)
        | (refine And.intro ⟨rfl, by first | (simp only [chunks_len, List.length_map, List.length_take, List.length_drop, List.length_append, List.length_cons, List.length_nil] <;> omega) | omega | rfl⟩ ?_)
        | (refine And.intro (by first | exact ⟨rfl, Nat.le_refl _⟩ | first | (simp only [chunks_len, List.length_map, List.length_take, List.length_drop, List.length_append, List.length_cons, List.length_nil] <;> omega) | omega | rfl) ?_)
        | (refine fun (caps : Nat → Nat) hcaps => ?_; conv at hcaps => whnf)
        | (refine fun (cap' : Nat) hcap' => ?_)
        | (refine BB.mk (fun _h => ?_) (fun _h => ?_) <;> (first | (exact absurd _h (by decide)) | (exfalso; simp only [boolSet, hmc] at _h <;> omega) | (simp only [boolSet, hmc] at _h) | skip))
        | (refine And.intro (by omega) ?_)
        | (refine BB.mk (fun _h => ?_) (fun _h => ?_) <;> (first | (exact absurd _h (by decide)) | (exfalso; simp only [boolSet] at _h <;> omega) | skip)))
      all_goals (try conv => whnf)
      all_goals first
        | exact ⟨_, _, FrzV.refl _ _, rfl, rfl, fun _ => rfl, rfl⟩
        | trace_state
end Go.Proofs.YtlclimhimiladaaDoor
