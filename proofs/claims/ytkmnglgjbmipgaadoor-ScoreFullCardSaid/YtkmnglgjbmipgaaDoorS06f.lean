/- Law ScoreFull. -/
import Derived.Test.YtkmnglgjbmipgaaDoorS06d
namespace Go.Proofs.YtkmnglgjbmipgaaDoor
open Go.RowKit

theorem frz_rowF {m : Mem} {b t sz c len cap : Nat} {els els' : List (List CV)} (hl : m.look (.n b) = some (.row t sz c els)) (hn : len = els'.length) (he : els = els') : FrzV m (.s (.n b) sz 0 len cap) (.z sz els' cap) (m.set (.n b) (.ro sz els)) := by
  subst he
  exact frz_row hl hn
theorem frz_roG {m : Mem} {b sz e len cap : Nat} {els els' : List (List CV)} (hl : m.look (.n b) = some (.ro sz els)) (hle : e + len ≤ els.length) (he : (els.drop e).take len = els') : FrzV m (.s (.n b) sz e len cap) (.z sz els' cap) m := he ▸ frz_roS hl hle
theorem frz_rowG {m : Mem} {b t sz c e len cap : Nat} {els els' : List (List CV)} (hl : m.look (.n b) = some (.row t sz c els)) (hle : e + len ≤ els.length) (he : (els.drop e).take len = els') : FrzV m (.s (.n b) sz e len cap) (.z sz els' cap) (m.set (.n b) (.ro sz els)) := he ▸ frz_s hl hle
theorem atD_snoc {α : Type} [Inhabited α] {l : List α} {o : α} : atD (l ++ [o]) l.length = o := by
  unfold atD
  rw [List.getD_eq_getElem?_getD, List.getElem?_append_right (Nat.le_refl _), Nat.sub_self]; rfl
theorem atD_init {α : Type} [Inhabited α] {l : List α} {o : α} {j : Nat} (h : j < l.length) : atD (l ++ [o]) j = atD l j := by
  unfold atD
  rw [List.getD_eq_getElem?_getD, List.getD_eq_getElem?_getD, List.getElem?_append_left h]
theorem ovl_snoc {a b : List Sp} {v : Int} (h : a.length = b.length) (h0 : 0 < a.length) : ovl (a ++ [⟨v, v⟩]) (b ++ [⟨v, v⟩]) = ovl a b := by
  have hla : (a ++ [(⟨v, v⟩ : Sp)]).length = a.length + 1 := List.length_append
  have hlb : (b ++ [(⟨v, v⟩ : Sp)]).length = b.length + 1 := List.length_append
  have hlast : mtP (atD (a ++ [⟨v, v⟩]) a.length) (atD (b ++ [⟨v, v⟩]) a.length) = ⟨v, v⟩ := by
    rw [atD_snoc, h, atD_snoc]
    unfold mtP
    dsimp only
    rw [Int.max_self, Int.min_self]
  rcases meetF_cases a b with ⟨h1, h2, h3⟩ | ⟨h1, h2⟩
  · have hy : meetF (a ++ [⟨v, v⟩]) (b ++ [⟨v, v⟩]) = mtL (a ++ [⟨v, v⟩]) (b ++ [⟨v, v⟩]) (a.length + 1) := by
      rw [meetF_yes (by omega) (fun j hj => by
        by_cases hj2 : j < a.length
        · rw [atD_init hj2, atD_init (by omega)]
          exact h2 j hj2
        · obtain rfl : j = a.length := by omega
          rw [atD_snoc, h, atD_snoc, metP_yes]
          dsimp only
          omega)]
      rw [hla, hlb, h, Nat.min_self]
    have e : prodL (mtL (a ++ [⟨v, v⟩]) (b ++ [⟨v, v⟩]) (a.length + 1)) a.length = prodL (mtL a b a.length) a.length := prodL_eq _ fun j hj => by
      rw [mtL_at (by omega), mtL_at hj, atD_init hj, atD_init (by omega)]
    have hp := prodL_le (mtL a b a.length) a.length
    unfold ovl
    rw [hy, h3, mtL_len, mtL_len, if_neg (by omega), if_neg (by omega)]
    show min (prodL _ a.length * lenP (atD _ a.length)) 4294967295 = _
    rw [e, mtL_at (by omega), hlast]
    have : lenP ⟨v, v⟩ = 1 := by
      unfold lenP lenT
      dsimp only
      rw [if_neg (by omega)]
      omega
    rw [this]
    omega
  · obtain ⟨j, hj, hn⟩ := h2 h
    have hy : meetF (a ++ [⟨v, v⟩]) (b ++ [⟨v, v⟩]) = [] := meetF_no (k := j) (by omega) (by rw [atD_init hj, atD_init (by omega)]; exact hn)
    unfold ovl
    rw [hy, h1]
def wide : Sp := ⟨-2147483648, 2147483647⟩
theorem wide_ok {l : List Sp} (h : ∀ y ∈ l, y = wide) : ∀ y ∈ l, SpOk y := fun y hy => by
  rw [h y hy]
  unfold wide SpOk
  dsimp only
  omega
theorem snoc_ok {l : List Sp} {v : Int} (h : ∀ y ∈ l, SpOk y) (hv : -2147483648 ≤ v ∧ v ≤ 2147483647) : ∀ y ∈ l ++ [⟨v, v⟩], SpOk y := fun y hy => by
  rcases List.mem_append.1 hy with h1 | h1
  · exact h y h1
  · rw [List.mem_singleton.1 h1]
    exact ⟨hv, hv⟩
set_option maxRecDepth 100000 in
set_option maxHeartbeats 4000000 in
theorem scoreFull_ok (a b : List Sp) (v : Int) (ca cb : Nat) (ha : a.length ≤ 9223372036854775807) (hb : b.length ≤ 9223372036854775807) (hca : a.length ≤ ca) (hcb : b.length ≤ cb) (hv : -2147483648 ≤ v ∧ v ≤ 2147483647) (hoa : ∀ y ∈ a, SpOk y) (hob : ∀ y ∈ b, SpOk y) : FnOK Tryd.prog GG 7 [] [.z 2 (a.map spC) ca, .z 2 (b.map spC) cb, .v (.int .i32 v)] (fun r _ ext => (r = .v (.bool true)) ∧ ext = []) := by
  have hml : (a.map spC).length = a.length := List.length_map _
  have hmr : (b.map spC).length = b.length := List.length_map _
  by_cases h8 : a.length ≤ 7 ∧ b.length ≤ 7
  · by_cases hq : a.length = b.length ∧ 0 < a.length
    all_goals
      refine FnOK.pure GG_no rfl (fn_intro (C := seat) seat_ok [(5, (.op 0 .take (.op 2 .take (.op 5 .take (.op 7 .take (.seq 3 [true, true, true, true, true, true, true, true, true, false, false, false] (.fork 1 (.fork 3 (.fork 4 (.fork 6 (.of [(8, .do_)]) (.of [(8, .do_), (6, .do_)])) (.of [(8, .do_), (4, .do_), (6, .do_)])) (.of [(8, .do_), (3, .do_), (4, .do_), (6, .do_)])) (.fork 3 (.fork 1 (.fork 4 (.fork 6 (.of [(8, .do_)]) (.of [(8, .do_), (6, .do_)])) (.of [(8, .do_), (4, .do_), (6, .do_)])) (.of [(8, .do_), (1, .do_), (4, .do_), (6, .do_)])) (.op 8 .do_ (.fork 1 (.of [(3, .do_), (4, .do_), (6, .do_)]) (.of [(3, .do_), (1, .do_), (4, .do_), (6, .do_)]))))) (.of [(9, .last), (10, .last), (11, .last)]))))))), (8, (.of [(0, .take), (1, .take), (2, .do_), (3, .take), (4, .take), (5, .take), (6, .take), (7, .take), (8, .take), (9, .do_), (10, .take), (11, .take), (12, .take), (13, .do_), (14, .take), (15, .take)]))] GG_no (Tryd.func7) rfl rfl rfl rfl rfl ?_)
      repeat' ((try conv => whnf); first
        | (with_reducible refine OKv.go (C := seat) seat_ok ?_)
        | (with_reducible refine BB_true ?_)
        | (with_reducible refine BB_false ?_)
        | (with_reducible refine Both.mk ?_ ?_)
        | (with_reducible refine VS.mk ?_)
        | (refine PSem.go (C := seat) seat_ok ?_)
        | (refine And.intro (PlanOK.mk (by kernel_rfl) rfl (by kernel_rfl) (by kernel_rfl)) ?_)
        | (refine And.intro rfl (Exists.intro _ (And.intro (by first | assumption | rfl) ?_)))
        | (refine And.intro ⟨rfl, rfl, rfl⟩ ?_)
        | (refine call_ro [] (awake_ok) GG_no rfl rfl rfl trivial ?_; rintro r bs' ext ⟨rfl, rfl⟩)
        | (refine call_ro [] (copy_own a ca hca (by omega)) GG_no rfl rfl rfl trivial ?_; rintro r bs' ext ⟨ca, hca, rfl, rfl⟩)
        | (refine call_ro [] (copy_own b cb hcb (by omega)) GG_no rfl rfl rfl trivial ?_; rintro r bs' ext ⟨cb, hcb, rfl, rfl⟩)
        | (refine call_ro [] (ovl_z a b _ _ (by omega) (by omega) hoa hob) GG_no rfl rfl rfl trivial ?_; rintro r bs' ext ⟨rfl, rfl⟩)
        | ((first | refine call_frz 0 rfl (frz_rowF (els' := (a ++ [(⟨v, v⟩ : Sp)]).map spC) (by rfl) (by simp) (by simp; rfl)) ?_ | refine call_frz 0 rfl (frz_rowF (els' := (a ++ [(⟨v, v⟩ : Sp)]).map spC) (by rfl) (by simp) (by rw [List.map_append]; rfl)) ?_); (first | refine call_frz 1 rfl (frz_rowF (els' := (b ++ [(⟨v, v⟩ : Sp)]).map spC) (by rfl) (by simp) (by simp; rfl)) ?_ | refine call_frz 1 rfl (frz_rowF (els' := (b ++ [(⟨v, v⟩ : Sp)]).map spC) (by rfl) (by simp) (by rw [List.map_append]; rfl)) ?_); refine call_ro [] (ovl_zb (a ++ [⟨v, v⟩]) (b ++ [⟨v, v⟩]) _ _ (by simp; omega) (by simp; omega) (snoc_ok hoa hv) (snoc_ok hob hv) (ovl a b) (ovl_snoc hq.1 hq.2)) GG_no rfl rfl rfl trivial ?_; rintro r bs' ext ⟨rfl, rfl⟩)
        | ((first | refine call_frz 0 rfl (frz_rowG (els' := [wide, wide].map spC) (by rfl) (by decide) (by rfl)) ?_ | refine call_frz 0 rfl (frz_roG (els' := [wide, wide].map spC) (by rfl) (by decide) (by rfl)) ?_); (first | refine call_frz 1 rfl (frz_rowG (els' := [wide, wide].map spC) (by rfl) (by decide) (by rfl)) ?_ | refine call_frz 1 rfl (frz_roG (els' := [wide, wide].map spC) (by rfl) (by decide) (by rfl)) ?_); refine call_ro [] (ovl_zb [wide, wide] [wide, wide] _ _ (by decide) (by decide) (wide_ok (by simp)) (wide_ok (by simp)) 4294967295 (by decide)) GG_no rfl rfl rfl trivial ?_; rintro r bs' ext ⟨rfl, rfl⟩)
        | ((first | refine call_frz 0 rfl (frz_rowG (els' := [wide].map spC) (by rfl) (by decide) (by rfl)) ?_ | refine call_frz 0 rfl (frz_roG (els' := [wide].map spC) (by rfl) (by decide) (by rfl)) ?_); (first | refine call_frz 1 rfl (frz_rowG (els' := [wide].map spC) (by rfl) (by decide) (by rfl)) ?_ | refine call_frz 1 rfl (frz_roG (els' := [wide].map spC) (by rfl) (by decide) (by rfl)) ?_); refine call_ro [] (ovl_zb [wide] [wide] _ _ (by decide) (by decide) (wide_ok (by simp)) (wide_ok (by simp)) 4294967295 (by decide)) GG_no rfl rfl rfl trivial ?_; rintro r bs' ext ⟨rfl, rfl⟩)
        | (refine And.intro ⟨rfl, rfl, rfl, by first | (simp only [chunks_len, List.length_map, List.length_take, List.length_drop, List.length_append, List.length_cons, List.length_nil] <;> omega) | omega | rfl⟩ ?_)
        | (refine And.intro ⟨rfl, by first | (simp only [chunks_len, List.length_map, List.length_take, List.length_drop, List.length_append, List.length_cons, List.length_nil] <;> omega) | omega | rfl⟩ ?_)
        | (refine And.intro (by first | exact ⟨rfl, Nat.le_refl _⟩ | first | (simp only [chunks_len, List.length_map, List.length_take, List.length_drop, List.length_append, List.length_cons, List.length_nil] <;> omega) | omega | rfl) ?_)
        | (refine fun (caps : Nat → Nat) hcaps => ?_; conv at hcaps => whnf)
        | (refine fun (cap' : Nat) hcap' => ?_)
        | (refine And.intro (by dsimp only; simp only [List.length_map, List.length_append]; omega) ?_)
        | (refine BB.mk (fun _h => ?_) (fun _h => ?_) <;> (first | (exact absurd _h (by decide)) | (exfalso; simp only [bne_self_eq_false, beq_self_eq_true, Bool.false_eq_true, Bool.true_eq_false] at _h; done) | (exfalso; simp only [boolSet, hml, hmr] at _h <;> omega) | (simp only [boolSet, hml, hmr] at _h) | skip))
        | (refine And.intro (by omega) ?_)
        | (refine BB.mk (fun _h => ?_) (fun _h => ?_) <;> (first | (exact absurd _h (by decide)) | (exfalso; simp only [boolSet] at _h <;> omega) | skip)))
      all_goals (try conv => whnf)
      all_goals first
        | exact ⟨_, _, FrzV.refl _ _, rfl, rfl, fun _ => rfl, rfl⟩
        | trace_state
  · refine FnOK.pure GG_no rfl (fn_intro (C := seat) seat_ok [(5, (.op 0 .take (.op 2 .take (.op 5 .take (.op 7 .take (.seq 3 [true, true, true, true, true, true, true, true, true, false, false, false] (.fork 1 (.fork 3 (.fork 4 (.fork 6 (.of [(8, .do_)]) (.of [(8, .do_), (6, .do_)])) (.of [(8, .do_), (4, .do_), (6, .do_)])) (.of [(8, .do_), (3, .do_), (4, .do_), (6, .do_)])) (.fork 3 (.fork 1 (.fork 4 (.fork 6 (.of [(8, .do_)]) (.of [(8, .do_), (6, .do_)])) (.of [(8, .do_), (4, .do_), (6, .do_)])) (.of [(8, .do_), (1, .do_), (4, .do_), (6, .do_)])) (.op 8 .do_ (.fork 1 (.of [(3, .do_), (4, .do_), (6, .do_)]) (.of [(3, .do_), (1, .do_), (4, .do_), (6, .do_)]))))) (.of [(9, .last), (10, .last), (11, .last)]))))))), (8, (.of [(0, .take), (1, .take), (2, .do_), (3, .take), (4, .take), (5, .take), (6, .take), (7, .take), (8, .take), (9, .do_), (10, .take), (11, .take), (12, .take), (13, .do_), (14, .take), (15, .take)]))] GG_no (Tryd.func7) rfl rfl rfl rfl rfl ?_)
    repeat' ((try conv => whnf); first
      | (with_reducible refine OKv.go (C := seat) seat_ok ?_)
      | (with_reducible refine BB_true ?_)
      | (with_reducible refine BB_false ?_)
      | (with_reducible refine Both.mk ?_ ?_)
      | (with_reducible refine VS.mk ?_)
      | (refine PSem.go (C := seat) seat_ok ?_)
      | (refine And.intro (PlanOK.mk (by kernel_rfl) rfl (by kernel_rfl) (by kernel_rfl)) ?_)
      | (refine And.intro rfl (Exists.intro _ (And.intro (by first | assumption | rfl) ?_)))
      | (refine And.intro ⟨rfl, rfl, rfl⟩ ?_)
      | (refine call_ro [] (awake_ok) GG_no rfl rfl rfl trivial ?_; rintro r bs' ext ⟨rfl, rfl⟩)
      | (refine BB.mk (fun _h => ?_) (fun _h => ?_) <;> (first | (exact absurd _h (by decide)) | (exfalso; simp only [bne_self_eq_false, beq_self_eq_true, Bool.false_eq_true, Bool.true_eq_false] at _h; done) | (exfalso; simp only [boolSet, hml, hmr] at _h <;> omega) | (simp only [boolSet, hml, hmr] at _h) | skip))
      | (refine And.intro (by omega) ?_)
      | (refine BB.mk (fun _h => ?_) (fun _h => ?_) <;> (first | (exact absurd _h (by decide)) | (exfalso; simp only [boolSet] at _h <;> omega) | skip)))
    all_goals (try conv => whnf)
    all_goals first
      | exact ⟨_, _, FrzV.refl _ _, rfl, rfl, fun _ => rfl, rfl⟩
      | (exfalso; omega)
end Go.Proofs.YtkmnglgjbmipgaaDoor
