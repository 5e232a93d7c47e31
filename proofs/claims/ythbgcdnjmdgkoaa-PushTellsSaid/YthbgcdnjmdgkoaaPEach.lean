/- Law PushEach, by computing. -/
import Derived.Test.YthbgcdnjmdgkoaaP16e
namespace Go.Proofs.Ythbgcdnjmdgkoaa
open Go.RowKit

theorem leftL_zero {l d : List Int} (hd : d.length ≤ 1) : ∀ j, leftL l d (j + 1) = (leftL l d 1).drop j
  | 0 => by rw [List.drop_zero]
  | j + 1 => by
    rw [leftL, getD_none (by omega), Int.zero_emod, leftL_zero hd j]
    cases h : (leftL l d 1).drop j with
    | nil => rw [← List.drop_drop, h]; rfl
    | cons x t => rw [← List.drop_drop, h]; rfl
theorem outL_zero {l d : List Int} (hd : d.length ≤ 1) : ∀ j, j ≤ (leftL l d 1).length → outL l d (j + 1) = outL l d 1 ++ (leftL l d 1).take j
  | 0, _ => by rw [List.take_zero, List.append_nil]
  | j + 1, hj => by
    rw [outL, outL_zero hd j (by omega), List.append_assoc, List.take_add_one, atL, getD_none (by omega), Int.zero_emod, leftL_zero hd j]
    congr 2
    rw [show Int.toNat 0 = 0 from rfl, List.getElem?_drop, Nat.add_zero, List.getElem?_eq_getElem (by omega)]
    rfl
theorem each_all {l : List Int} {k : Nat} {y : Int} (hy : l[k]? = some y) : outL l [(k : Int)] l.length = [y] ++ l.take k ++ l.drop (k + 1) := by
  have hk : k < l.length := (List.getElem?_eq_some_iff.1 hy).1
  have e : ((k : Int) % (l.length : Int)).toNat = k := by rw [Int.emod_eq_of_lt (by omega) (by omega)]; rfl
  have e1 : leftL l [(k : Int)] 1 = l.eraseIdx k := by
    show l.eraseIdx ((k : Int) % (l.length : Int)).toNat = _
    rw [e]
  have e2 : outL l [(k : Int)] 1 = [y] := by
    show [] ++ [(l[((k : Int) % (l.length : Int)).toNat]?).getD 0] = _
    rw [e, hy]
    rfl
  obtain ⟨n, hn⟩ : ∃ n, l.length = n + 1 := ⟨l.length - 1, by omega⟩
  have e3 : (l.eraseIdx k).length = n := by rw [List.length_eraseIdx, if_pos hk]; omega
  rw [hn, outL_zero (by simp) n (by rw [e1]; omega), e1, e2, List.take_of_length_le (by omega), List.eraseIdx_eq_take_drop_succ, List.append_assoc]
theorem each_one {l : List Int} {k : Nat} {y : Int} (hy : l[k]? = some y) : outL l [(k : Int) + l.length] 1 = [y] := by
  have hk : k < l.length := (List.getElem?_eq_some_iff.1 hy).1
  have e : (((k : Int) + l.length) % (l.length : Int)).toNat = k := by rw [Int.add_emod_right, Int.emod_eq_of_lt (by omega) (by omega)]; rfl
  show [] ++ [(l[(((k : Int) + l.length) % (l.length : Int)).toNat]?).getD 0] = _
  rw [e, hy]
  rfl
set_option maxRecDepth 100000 in
set_option maxHeartbeats 4000000 in
theorem same_gen (l r : List Int) (E1 E2 : List (List Value)) (e1 e2 n1 n2 c1 c2 : Nat) (b : Bool) (hl : ∀ x ∈ l, 0 ≤ x ∧ x ≤ 255) (hr : ∀ x ∈ r, 0 ≤ x ∧ x ≤ 255) (h1 : (E1.drop e1).take n1 = l.map bC) (h2 : (E2.drop e2).take n2 = r.map bC) (b1 : e1 + n1 ≤ E1.length) (b2 : e2 + n2 ≤ E2.length) (h : decide (l = r) = b) : FnOK Try.prog GG 11 [.ro 1 E1, .ro 1 E2] [.s (.o 0) 1 e1 n1 c1, .s (.o 1) 1 e2 n2 c2] (fun rr _ ext => rr = .v (.bool b) ∧ ext = []) := by
  subst h
  have hs := str_eq hl hr
  refine fn_val (C := seat) seat_ok [] GG_no (Try.func11) rfl rfl rfl rfl rfl (fun _ => rfl) rfl ?_
  repeat' ((try conv => whnf); first
    | (with_reducible refine BB_true ?_)
    | (with_reducible refine BB_false ?_)
    | (with_reducible refine Both.mk ?_ ?_)
    | (with_reducible refine VS.mk ?_)
    | (refine PSem.go (C := seat) seat_ok ?_)
    | (refine And.intro (PlanOK.mk (by kernel_rfl) rfl (by kernel_rfl) (by kernel_rfl)) ?_)
    | (refine And.intro rfl (Exists.intro _ (And.intro (by first | assumption | rfl) ?_)))
    | (refine And.intro ⟨rfl, rfl, rfl⟩ ?_)
    | (refine And.intro ⟨rfl, b1⟩ ?_)
    | (refine And.intro ⟨rfl, b2⟩ ?_)
    | (refine Exists.intro l (And.intro h1 ?_))
    | (refine Exists.intro r (And.intro h2 ?_))
    | (refine And.intro (by omega) ?_)
    | (refine BB.mk (fun _h => ?_) (fun _h => ?_) <;> (first | (exact absurd _h (by decide)) | (exfalso; simp only [boolSet] at _h <;> omega) | skip)))
  all_goals (try conv => whnf)
  all_goals exact fin_bool hs rfl
theorem want_row {l : List Int} {k i j n : Nat} {y : Int} (hk : k < l.length) (hi : i = k) (hj : j = k + 1) (hn : n = 1 + i + (l.length - j)) : (([bC y] ++ List.take i (List.drop 0 (l.map bC)) ++ List.take (l.length - j) (List.drop (0 + j) (l.map bC))).drop 0).take n = ([y] ++ l.take k ++ l.drop (k + 1)).map bC := by
  subst hi; subst hj; subst hn
  rw [Nat.zero_add, List.drop_zero, List.drop_zero, List.take_of_length_le (i := l.length - (i + 1)) (by rw [List.length_drop, List.length_map]; omega), List.take_of_length_le (by simp; omega)]
  simp only [List.map_append, List.map_take, List.map_drop, List.map_cons, List.map_nil]
theorem want_len {l : List Int} {k i j n : Nat} {y : Int} (hk : k < l.length) (hi : i = k) (hj : j = k + 1) (hn : n = 1 + i + (l.length - j)) : 0 + n ≤ ([bC y] ++ List.take i (List.drop 0 (l.map bC)) ++ List.take (l.length - j) (List.drop (0 + j) (l.map bC))).length := by
  subst hi; subst hj; subst hn
  simp
  omega
theorem one_row {l : List Int} {k e n : Nat} {y : Int} (hy : l[k]? = some y) (he : e = k) (hn : n = 1) : ((l.map bC).drop e).take n = [y].map bC := by
  subst he; subst hn
  have hk := getElem?_lt hy
  rw [← List.map_drop, ← List.map_take, List.drop_eq_getElem_cons hk, List.take_succ_cons, List.take_zero]
  rw [List.getElem?_eq_getElem hk] at hy
  cases hy
  rfl
theorem all_row (o : List Int) : ((o.map bC).drop 0).take o.length = o.map bC := by rw [List.drop_zero, List.take_of_length_le (by rw [List.length_map]; omega)]
theorem all_len (o : List Int) : 0 + o.length ≤ (o.map bC).length := by rw [List.length_map]; omega
set_option maxRecDepth 100000 in
set_option maxHeartbeats 4000000 in
theorem pushEach_ok (l : List Int) (cap : Nat) (a : Int) (ha : 0 ≤ a) (ha' : a ≤ 255) (hl : ∀ x ∈ l, 0 ≤ x ∧ x ≤ 255) (hc : l.length ≤ cap) : FnOK Try.prog GG 6 [.ro 1 (l.map bC)] [.s (.o 0) 1 0 l.length cap, .v (.int .u8 a)] (fun r _ ext => r = .v (.bool true) ∧ ext = []) := by
  by_cases hlen : 1 ≤ l.length ∧ l.length ≤ 100
  · obtain ⟨hlen1, hlen2⟩ := hlen
    have h1 := Int.emod_nonneg a (show (l.length : Int) ≠ 0 by omega)
    have h2 := Int.emod_lt_of_pos a (show (0 : Int) < l.length by omega)
    obtain ⟨k, hk⟩ : ∃ k : Nat, a % (l.length : Int) = k := ⟨(a % (l.length : Int)).toNat, by omega⟩
    obtain ⟨y, hy⟩ : ∃ y, l[k]? = some y := ⟨_, List.getElem?_eq_getElem (by omega)⟩
    have hat : (IntKind.i64.wrap a).tmod (l.length : Int) = k := by
      rw [show IntKind.i64.wrap a = a by rw [IntKind.wrap_i64]; omega, Int.tmod_eq_emod_of_nonneg ha, hk]
    have hat1 : IntKind.i64.wrap ((IntKind.i64.wrap a).tmod (l.length : Int) + 1) = k + 1 := by rw [hat, IntKind.wrap_i64]; omega
    have hud : IntKind.u32.wrap ((IntKind.i64.wrap a).tmod (l.length : Int)) = k := by rw [hat, IntKind.wrap_u32]; omega
    have hue : IntKind.u32.wrap (IntKind.i64.wrap ((IntKind.i64.wrap a).tmod (l.length : Int) + (l.length : Int))) = k + l.length := by rw [hat, IntKind.wrap_i64, IntKind.wrap_u32]; omega
    have hrow := b_at (more := []) hy hat
    rw [List.append_nil] at hrow
    have hlk := getElem?_lt hy
    have hi1 : ((IntKind.i64.wrap a).tmod (l.length : Int)).toNat - Int.toNat 0 = k := by omega
    have hj1 : (IntKind.i64.wrap ((IntKind.i64.wrap a).tmod (l.length : Int) + 1)).toNat = k + 1 := by omega
    have hye : ∀ x ∈ [y], 0 ≤ x ∧ x ≤ 255 := fun x hx => by rw [List.mem_singleton] at hx; subst hx; exact hl _ (List.mem_of_getElem? hy)
    have hoe : ∀ x ∈ ([y] ++ l.take k ++ l.drop (k + 1)), 0 ≤ x ∧ x ≤ 255 := fun x hx => by
      simp only [List.mem_append] at hx
      rcases hx with (hx | hx) | hx
      · exact hye x hx
      · exact hl _ (List.mem_of_mem_take hx)
      · exact hl _ (List.mem_of_mem_drop hx)
    have ho1 : pickL l [IntKind.u32.wrap ((IntKind.i64.wrap a).tmod (l.length : Int))] (l.length : Int) = ([y] ++ l.take k ++ l.drop (k + 1)) := by
      rw [hud, pickL, show manyN (l.length : Int) l.length = l.length by rw [manyN]; omega, each_all hy]
    have ho2 : pickL l [IntKind.u32.wrap (IntKind.i64.wrap ((IntKind.i64.wrap a).tmod (l.length : Int) + (l.length : Int)))] 1 = [y] := by
      rw [hue, pickL, show manyN 1 l.length = 1 by rw [manyN]; omega, each_one hy]
    refine fn_val (C := seat) seat_ok [(5, (.of [(0, .take), (1, .take), (2, .take), (3, .take), (5, .take), (6, .take), (7, .take), (4, .do_), (8, .last), (9, .last)])), (6, (.of [(0, .take), (1, .take), (2, .take), (3, .take), (4, .take), (5, .take), (6, .do_), (7, .do_), (8, .take), (9, .take), (10, .take), (11, .take), (12, .take), (13, .take), (14, .take), (17, .take), (18, .take), (19, .take), (20, .take), (21, .take), (15, .do_), (16, .do_), (22, .do_), (23, .take), (24, .take), (25, .do_), (26, .take), (27, .take)]))] GG_no (Try.func6) rfl rfl rfl rfl rfl (fun _ => rfl) rfl ?_
    repeat' ((try conv => whnf); first
      | (with_reducible refine BB_true ?_)
      | (with_reducible refine BB_false ?_)
      | (with_reducible refine Both.mk ?_ ?_)
      | (with_reducible refine VS.mk ?_)
      | (refine PSem.go (C := seat) seat_ok ?_)
      | (refine And.intro (PlanOK.mk (by kernel_rfl) rfl (by kernel_rfl) (by kernel_rfl)) ?_)
      | (refine And.intro rfl (Exists.intro _ (And.intro (by first | assumption | rfl) ?_)))
      | (refine And.intro ⟨rfl, rfl, rfl⟩ ?_)
      | (refine call_ro [_, _] (pick_is l [IntKind.u32.wrap ((IntKind.i64.wrap a).tmod (l.length : Int))] (l.length : Int) _ _ ([y] ++ l.take k ++ l.drop (k + 1)) ho1 hc (by omega) (by simp) (fun x hx => by rw [List.mem_singleton] at hx; subst hx; rw [hud]; omega)) GG_no rfl rfl rfl ⟨⟨_, rfl, rfl, rfl⟩, ⟨_, rfl, rfl, rfl⟩, trivial⟩ ?_; rintro r bs' ext ⟨ca, hca, rfl, rfl⟩)
      | (refine call_ro [_, _] (pick_is l [IntKind.u32.wrap (IntKind.i64.wrap ((IntKind.i64.wrap a).tmod (l.length : Int) + (l.length : Int)))] 1 _ _ [y] ho2 hc (by omega) (by simp) (fun x hx => by rw [List.mem_singleton] at hx; subst hx; rw [hue]; omega)) GG_no rfl rfl rfl ⟨⟨_, rfl, rfl, rfl⟩, ⟨_, rfl, rfl, rfl⟩, trivial⟩ ?_; rintro r bs' ext ⟨cb, hcb, rfl, rfl⟩)
      | (refine And.intro (show (l.length : Int) ≠ 0 by omega) ?_)
      | (refine And.intro (by rw [hat]; omega) ?_)
      | (refine And.intro (by rw [hat, hat1]; omega) ?_)
      | (refine And.intro (by rw [hat1]; omega) ?_)
      | (with_reducible refine And.intro (And.intro rfl ?_) ?_; · (simp; omega))
      | (refine And.intro (show _ = _ ∧ _ = _ ∧ _ = _ ∧ _ from ⟨rfl, rfl, rfl, rfl⟩) ?_)
      | (refine And.intro (show _ = _ ∧ _ = _ ∧ _ = _ ∧ _ from ⟨rfl, rfl, rfl, by rw [List.length_append, List.length_take, List.length_drop, List.length_map, hat]; show 1 + min _ _ = 1 + _; omega⟩) ?_)
      | (refine And.intro ⟨rfl, rfl, rfl, by rw [List.length_map]⟩ ?_)
      | (refine And.intro (by first | omega | (dsimp only; omega) | exact ⟨rfl, Nat.le_refl _⟩) ?_)
      | (intro cap' hcap')
      | (refine call_ro [] (awake_ok) GG_no rfl rfl rfl trivial ?_; rintro r bs' ext ⟨rfl, rfl⟩)
      | (refine call_ro [_, _] (same_gen ([y] ++ l.take k ++ l.drop (k + 1)) ([y] ++ l.take k ++ l.drop (k + 1)) _ _ _ _ _ _ _ _ true hoe hoe (all_row _) (want_row hlk hi1 hj1 (by omega)) (all_len _) (want_len hlk hi1 hj1 (by omega)) (by simp)) GG_no rfl rfl rfl ⟨⟨_, rfl, rfl, rfl⟩, ⟨_, rfl, rfl, rfl⟩, trivial⟩ ?_; rintro r bs' ext ⟨rfl, rfl⟩)
      | (refine call_ro [_, _] (same_gen [y] [y] _ _ _ _ _ _ _ _ true hye hye (all_row _) (one_row hy (by omega) (by omega)) (all_len _) (by rw [List.length_map]; omega) (by simp)) GG_no rfl rfl rfl ⟨⟨_, rfl, rfl, rfl⟩, ⟨_, rfl, rfl, rfl⟩, trivial⟩ ?_; rintro r bs' ext ⟨rfl, rfl⟩)
      | (refine And.intro (by omega) ?_)
      | (refine BB.mk (fun _h => ?_) (fun _h => ?_) <;> (first | (exact absurd _h (by decide)) | (exfalso; simp only [boolSet] at _h <;> omega) | skip)))
    all_goals (try conv => whnf)
    all_goals exact Fin.mk ⟨rfl, rfl⟩
  · rcases (show l.length = 0 ∨ 100 < l.length by omega) with h0 | h0
    all_goals
      refine fn_val (C := seat) seat_ok [(5, (.of [(0, .take), (1, .take), (2, .take), (3, .take), (5, .take), (6, .take), (7, .take), (4, .do_), (8, .last), (9, .last)])), (6, (.of [(0, .take), (1, .take), (2, .take), (3, .take), (4, .take), (5, .take), (6, .do_), (7, .do_), (8, .take), (9, .take), (10, .take), (11, .take), (12, .take), (13, .take), (14, .take), (17, .take), (18, .take), (19, .take), (20, .take), (21, .take), (15, .do_), (16, .do_), (22, .do_), (23, .take), (24, .take), (25, .do_), (26, .take), (27, .take)]))] GG_no (Try.func6) rfl rfl rfl rfl rfl (fun _ => rfl) rfl ?_
      repeat' ((try conv => whnf); first
        | (with_reducible refine BB_true ?_)
        | (with_reducible refine BB_false ?_)
        | (with_reducible refine Both.mk ?_ ?_)
        | (with_reducible refine VS.mk ?_)
        | (refine PSem.go (C := seat) seat_ok ?_)
        | (refine And.intro (PlanOK.mk (by kernel_rfl) rfl (by kernel_rfl) (by kernel_rfl)) ?_)
        | (refine And.intro rfl (Exists.intro _ (And.intro (by first | assumption | rfl) ?_)))
        | (refine And.intro ⟨rfl, rfl, rfl⟩ ?_)
        | (refine call_ro [] (awake_ok) GG_no rfl rfl rfl trivial ?_; rintro r bs' ext ⟨rfl, rfl⟩)
        | (refine And.intro (by omega) ?_)
        | (refine BB.mk (fun _h => ?_) (fun _h => ?_) <;> (first | (exact absurd _h (by decide)) | (exfalso; simp only [boolSet] at _h <;> omega) | skip)))
      all_goals (try conv => whnf)
      all_goals exact ⟨rfl, rfl⟩
end Go.Proofs.Ythbgcdnjmdgkoaa
