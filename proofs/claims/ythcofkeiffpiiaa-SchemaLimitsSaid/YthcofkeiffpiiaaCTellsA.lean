/- The reference's Same, by computing. -/
import Derived.Test.YthcofkeiffpiiaaCBring
import Derived.Test.YthcofkeiffpiiaaCSameA
import Derived.Laws.Strings
namespace Go.Proofs.Ythcofkeiffpiiaa
open Go.RowKit

theorem u8_inj {x y : Int} (hx : 0 ≤ x ∧ x ≤ 255) (hy : 0 ≤ y ∧ y ≤ 255) (h : UInt8.ofNat x.toNat = UInt8.ofNat y.toNat) : x = y := by
  have := congrArg UInt8.toNat h
  simp only [UInt8.toNat_ofNat'] at this
  omega
theorem map_inj : ∀ {a b : List Int}, (∀ x ∈ a, 0 ≤ x ∧ x ≤ 255) → (∀ x ∈ b, 0 ≤ x ∧ x ≤ 255) → a.map (fun n => UInt8.ofNat n.toNat) = b.map (fun n => UInt8.ofNat n.toNat) → a = b
  | [], [], _, _, _ => rfl
  | [], _ :: _, _, _, h => by simp at h
  | _ :: _, [], _, _, h => by simp at h
  | x :: a, y :: b, ha, hb, h => by
    simp only [List.map_cons, List.cons.injEq] at h
    rw [u8_inj (ha x (by simp)) (hb y (by simp)) h.1, map_inj (fun z hz => ha z (by simp [hz])) (fun z hz => hb z (by simp [hz])) h.2]
theorem str_eq {a b : List Int} (ha : ∀ x ∈ a, 0 ≤ x ∧ x ≤ 255) (hb : ∀ x ∈ b, 0 ≤ x ∧ x ≤ 255) : ((strOfNums a).toList == (strOfNums b).toList) = decide (a = b) := by
  rw [Bool.eq_iff_iff, beq_iff_eq, decide_eq_true_eq, ByteArray.toList_eq, ByteArray.toList_eq, strOfNums_data, strOfNums_data]
  exact ⟨map_inj ha hb, fun h => by rw [h]⟩
theorem bytes_of (l : List Int) : ((l.map bC).drop 0).take l.length = l.map (fun n => [Value.int .u8 n]) := by
  rw [List.drop_zero, List.take_of_length_le (by rw [List.length_map]; omega)]
  rfl
theorem id_eq (a b : Ev_) : eqInts [a.n, a.i, a.s] [b.n, b.i, b.s] = idB a b := by
  rw [Bool.eq_iff_iff]
  simp only [idB, boolSet]
set_option maxRecDepth 100000 in
set_option maxHeartbeats 4000000 in
theorem same_r (a b : Ev_) (c1 c2 c3 c4 : Nat) (hv : a.v.length ≤ 1099511627776) (ha : ∀ x ∈ a.d, 0 ≤ x ∧ x ≤ 255) (hb : ∀ x ∈ b.d, 0 ≤ x ∧ x ≤ 255) : FnOK Try.prog GG 13 [.ro 1 (a.v.map iC), .ro 1 (a.d.map bC), .ro 1 (b.v.map iC), .ro 1 (b.d.map bC)] [evS a (.o 0) (.o 1) c1 c2, evS b (.o 2) (.o 3) c3 c4] (fun r _ ext => r = .v (.bool (sameB a b)) ∧ ext = []) := by
  have hstr := str_eq ha hb
  have hid := id_eq a b
  by_cases hg : idB a b = true ∧ a.v.length = b.v.length ∧ a.d = b.d
  · obtain ⟨hi, hlen, hd⟩ := hg
    have hid2 : eqInts [a.n, a.i, a.s] [b.n, b.i, b.s] = true := by rw [hid, hi]
    have hstr2 : ((strOfNums a.d).toList == (strOfNums b.d).toList) = true := by rw [hstr]; exact decide_eq_true hd
    refine fn_val (C := seat) seat_ok [(6, (.of [(0, .take), (1, .take), (2, .take), (3, .take), (4, .take), (5, .take), (6, .take), (7, .take), (8, .take), (9, .take), (10, .take)]))] GG_no (Try.func13) rfl rfl rfl rfl rfl (fun _ => rfl) rfl ?_
    repeat' ((try conv => whnf); first
      | (with_reducible refine BB_true ?_)
      | (with_reducible refine BB_false ?_)
      | (with_reducible refine Both.mk ?_ ?_)
      | (with_reducible refine VS.mk ?_)
      | (refine PSem.go (C := seat) seat_ok ?_)
      | (refine And.intro (PlanOK.mk (by kernel_rfl) rfl (by kernel_rfl) (by kernel_rfl)) ?_)
      | (refine And.intro rfl (Exists.intro _ (And.intro (by first | assumption | rfl) ?_)))
      | (refine And.intro ⟨rfl, rfl, rfl⟩ ?_)
      | (refine And.intro ⟨rfl, by rw [List.length_map]; omega⟩ ?_)
      | (refine Exists.intro a.d (And.intro (bytes_of a.d) ?_))
      | (refine Exists.intro b.d (And.intro (bytes_of b.d) ?_))
      | (refine And.intro (by omega) ?_)
      | (refine BB.mk (fun _h => ?_) (fun _h => ?_) <;> (first | (exact absurd _h (by decide)) | (exfalso; simp only [hid2, hstr2, boolSet] at _h <;> omega) | skip)))
    all_goals (try conv => whnf)
    refine loop_rule (α := Nat) (fun k => k ≤ a.v.length ∧ ∀ j, j < k → ∀ y z, a.v[j]? = some y → b.v[j]? = some z → y = z) (fun k => { slots := [(2, .p (.n 0) 0 0 0), (3, .p (.n 1) 0 0 0), (5, .v (.int .i64 k))], nt := 47, mem := ⟨GG, [.ro 1 (a.v.map iC), .ro 1 (a.d.map bC), .ro 1 (b.v.map iC), .ro 1 (b.d.map bC)], [.box 31 [.v (.int .u8 a.n), .v (.int .u16 a.i), .v (.int .u32 a.s), .s (.o 0) 1 0 a.v.length c1, .s (.o 1) 1 0 a.d.length c2], .box 31 [.v (.int .u8 b.n), .v (.int .u16 b.i), .v (.int .u32 b.s), .s (.o 2) 1 0 b.v.length c3, .s (.o 3) 1 0 b.d.length c4]]⟩ }) (fun k => a.v.length - k) 0 ⟨Nat.zero_le _, fun j hj => by omega⟩ ⟨⟨[0, 1], (by decide), GG_no, rfl, (SubOld.refl _ rfl), ⟨rfl, rfl, trivial⟩, ⟨.inl rfl, .inl rfl, .inl rfl, trivial⟩⟩, rfl⟩ ?_ (fun _ => rfl)
    rintro k ⟨hk, hp⟩
    refine vc_sound (C := seat) seat_ok (pl := [(6, (.of [(0, .take), (1, .take), (2, .take), (3, .take), (4, .take), (5, .take), (6, .take), (7, .take), (8, .take), (9, .take), (10, .take)]))]) ?_
    by_cases hlt : k < a.v.length
    · obtain ⟨y, hy⟩ : ∃ y, a.v[k]? = some y := ⟨_, List.getElem?_eq_getElem hlt⟩
      obtain ⟨z, hz⟩ : ∃ z, b.v[k]? = some z := ⟨_, List.getElem?_eq_getElem (by omega)⟩
      have hrow := i_at0 hy
      have hrow1 := i_at0 hz
      repeat' ((try conv => whnf); first
        | (with_reducible refine BB_true ?_)
        | (with_reducible refine BB_false ?_)
        | (with_reducible refine Both.mk ?_ ?_)
        | (with_reducible refine VS.mk ?_)
        | (refine PSem.go (C := seat) seat_ok ?_)
        | (refine And.intro (PlanOK.mk (by kernel_rfl) rfl (by kernel_rfl) (by kernel_rfl)) ?_)
        | (refine And.intro rfl (Exists.intro _ (And.intro (by first | assumption | rfl) ?_)))
        | (refine And.intro ⟨rfl, rfl, rfl⟩ ?_)
        | (refine And.intro (by omega) ?_)
        | (refine BB.mk (fun _h => ?_) (fun _h => ?_) <;> (first | (exact absurd _h (by decide)) | (exfalso; simp only [boolSet] at _h <;> omega) | skip)))
      all_goals (try conv => whnf)
      · refine fin_bool ?_ rfl
        have hne : decide (a.v = b.v) = false := decide_eq_false (fun h => by
          rw [h, hz] at hy
          cases hy
          simp at _h)
        simp only [sameB, hne, Bool.and_false, Bool.false_and]
      · have hh : y = z := by simp only [boolSet] at _h; omega
        exact ⟨k + 1, ⟨by omega, snoc_inv hp (fun y' z' h1 h2 => by rw [hy] at h1; rw [hz] at h2; cases h1; cases h2; exact hh)⟩, by omega, ⟨⟨[0, 1], by decide, GG_no, rfl, SubOld.refl _ rfl, ⟨rfl, rfl, trivial⟩, ⟨.inl rfl, .inl rfl, .inl (num_eq (by rw [IntKind.wrap_i64]; omega)), trivial⟩⟩, rfl⟩⟩
    · have hs : a.v = b.v := by
        apply List.ext_getElem?
        intro j
        by_cases hj : j < a.v.length
        · have h1 := List.getElem?_eq_getElem hj
          have h2 := List.getElem?_eq_getElem (show j < b.v.length by omega)
          rw [h1, h2, hp j (by omega) _ _ h1 h2]
        · rw [List.getElem?_eq_none (by omega), List.getElem?_eq_none (by omega)]
      have hs' : sameB a b = true := by simp only [sameB, hi, hs, hd, decide_true, Bool.and_true]
      repeat' ((try conv => whnf); first
        | (with_reducible refine BB_true ?_)
        | (with_reducible refine BB_false ?_)
        | (with_reducible refine Both.mk ?_ ?_)
        | (with_reducible refine VS.mk ?_)
        | (refine PSem.go (C := seat) seat_ok ?_)
        | (refine And.intro (PlanOK.mk (by kernel_rfl) rfl (by kernel_rfl) (by kernel_rfl)) ?_)
        | (refine And.intro rfl (Exists.intro _ (And.intro (by first | assumption | rfl) ?_)))
        | (refine And.intro ⟨rfl, rfl, rfl⟩ ?_)
        | (refine And.intro (by omega) ?_)
        | (refine BB.mk (fun _h => ?_) (fun _h => ?_) <;> (first | (exact absurd _h (by decide)) | (exfalso; simp only [boolSet] at _h <;> omega) | skip)))
      all_goals (try conv => whnf)
      exact fin_bool (by rw [hs']) rfl
  · have hs : sameB a b = false := by
      cases h : sameB a b
      · rfl
      · simp only [sameB, Bool.and_eq_true, decide_eq_true_eq] at h
        exact (hg ⟨h.1.1, by rw [h.1.2], h.2⟩).elim
    refine fn_val (C := seat) seat_ok [(6, (.of [(0, .take), (1, .take), (2, .take), (3, .take), (4, .take), (5, .take), (6, .take), (7, .take), (8, .take), (9, .take), (10, .take)]))] GG_no (Try.func13) rfl rfl rfl rfl rfl (fun _ => rfl) rfl ?_
    repeat' ((try conv => whnf); first
      | (with_reducible refine BB_true ?_)
      | (with_reducible refine BB_false ?_)
      | (with_reducible refine Both.mk ?_ ?_)
      | (with_reducible refine VS.mk ?_)
      | (refine PSem.go (C := seat) seat_ok ?_)
      | (refine And.intro (PlanOK.mk (by kernel_rfl) rfl (by kernel_rfl) (by kernel_rfl)) ?_)
      | (refine And.intro rfl (Exists.intro _ (And.intro (by first | assumption | rfl) ?_)))
      | (refine And.intro ⟨rfl, rfl, rfl⟩ ?_)
      | (refine And.intro ⟨rfl, by rw [List.length_map]; omega⟩ ?_)
      | (refine Exists.intro a.d (And.intro (bytes_of a.d) ?_))
      | (refine Exists.intro b.d (And.intro (bytes_of b.d) ?_))
      | (refine And.intro (by omega) ?_)
      | (refine BB.mk (fun _h => ?_) (fun _h => ?_) <;> (first | (exact absurd _h (by decide)) | (exfalso; simp only [boolSet] at _h <;> omega) | skip)))
    all_goals (try conv => whnf)
    all_goals first
    | exact fin_bool (by rw [hs]) rfl
    | (exfalso
       rw [hid] at *
       rw [hstr] at *
       refine hg ⟨by simp_all, by simp only [boolSet] at *; omega, by simp_all⟩)
theorem same_r_is (a b : Ev_) (c1 c2 c3 c4 : Nat) (hv : a.v.length ≤ 1099511627776) (ha : ∀ x ∈ a.d, 0 ≤ x ∧ x ≤ 255) (hb : ∀ x ∈ b.d, 0 ≤ x ∧ x ≤ 255) (q : Bool) (h : sameB a b = q) : FnOK Try.prog GG 13 [.ro 1 (a.v.map iC), .ro 1 (a.d.map bC), .ro 1 (b.v.map iC), .ro 1 (b.d.map bC)] [evS a (.o 0) (.o 1) c1 c2, evS b (.o 2) (.o 3) c3 c4] (fun r _ ext => r = .v (.bool q) ∧ ext = []) := by
  subst h
  exact same_r a b c1 c2 c3 c4 hv ha hb
end Go.Proofs.Ythcofkeiffpiiaa
