/- Descriptors by computing: Older, Same, lists the same. -/
import Derived.Test.YtocappiebmmpgaaD09f
namespace Go.Proofs.Ytocappiebmmpgaa
open Go.RowKit

def older (d : De) : De := { d with age := if d.age < 255 then d.age + 1 else d.age }
def midO (l : List De) (k : Nat) : List De := (l.take k).map older ++ l.drop k
theorem midO_len (l : List De) (k : Nat) : (midO l k).length = l.length := by
  unfold midO
  rw [List.length_append, List.length_map, ← List.length_append, List.take_append_drop]
theorem midO_at {l : List De} {k : Nat} {y : De} (h : l[k]? = some y) : (midO l k)[k]? = some y := by
  have hk := getElem?_lt h
  unfold midO
  rw [List.getElem?_append_right (by simp; omega)]
  rw [List.length_map, List.length_take, List.getElem?_drop, Nat.min_eq_left (by omega), Nat.sub_self, Nat.add_zero]
  exact h
theorem midO_set {l : List De} {k : Nat} {y : De} (h : l[k]? = some y) : (midO l k).set k (older y) = midO l (k + 1) := by
  have hk := getElem?_lt h
  obtain ⟨_, hy⟩ := List.getElem?_eq_some_iff.1 h
  have hlen : ((l.take k).map older).length = k := by rw [List.length_map, List.length_take]; omega
  unfold midO
  rw [List.set_append_right _ _ (by omega), hlen, Nat.sub_self, ← List.getElem_cons_drop hk, hy, List.set_cons_zero, List.take_add_one, h, List.map_append, List.append_assoc]
  rfl
theorem midO_same {l : List De} {k : Nat} {y : De} (h : l[k]? = some y) (e : older y = y) : midO l k = midO l (k + 1) := by
  rw [← midO_set h, e]
  apply List.ext_getElem?
  intro i
  rw [List.getElem?_set]
  split
  · rename_i hi
    subst hi
    rw [midO_at h, midO_len, if_pos (getElem?_lt h)]
  · rfl
theorem midO_end (l : List De) : midO l l.length = l.map older := by
  unfold midO
  rw [List.take_length, List.drop_length, List.append_nil]
set_option maxRecDepth 100000 in
set_option maxHeartbeats 4000000 in
theorem older_ok (l : List De) (cap : Nat) (hl : l.length ≤ 1099511627776) (hf : FlOk l) (hb : ∀ y ∈ l, 0 ≤ y.age ∧ y.age ≤ 255) : FnOK Try.prog GG 45 [.ro 4 (l.map deC)] [.s (.o 0) 4 0 l.length cap] (fun r _ ext => ∃ cap', l.length ≤ cap' ∧ r = .s (.n 0) 4 0 l.length cap' ∧ ext = [.row 27 4 cap' ((l.map older).map deC)]) := by
  refine fn_new (C := seat) seat_ok [] GG_no (Try.func45) rfl rfl rfl rfl rfl rfl ?_
  repeat' ((try conv => whnf); first
    | (with_reducible refine OKv.go (C := seat) seat_ok ?_)
    | (with_reducible refine BB_true ?_)
    | (with_reducible refine BB_false ?_)
    | (with_reducible refine Both.mk ?_ ?_)
    | (with_reducible refine VS.mk ?_)
    | (refine PSem.go (C := seat) seat_ok ?_)
    | (refine And.intro (PlanOK.mk (by kernel_rfl) rfl (by kernel_rfl) (by kernel_rfl)) ?_)
    | (refine And.intro rfl (Exists.intro _ (And.intro (by first | assumption | rfl) ?_)))
    | (refine And.intro ⟨rfl, rfl, rfl⟩ ?_)
    | (refine call_ro [.o 0] (copy_ok l cap hl hf) GG_no rfl rfl rfl ⟨⟨_, rfl, rfl, rfl⟩, trivial⟩ ?_; rintro r bs' ext ⟨c', hc', rfl, rfl⟩)
    | (refine And.intro (by omega) ?_)
    | (refine BB.mk (fun _h => ?_) (fun _h => ?_) <;> (first | (exact absurd _h (by decide)) | (exfalso; simp only [boolSet] at _h <;> omega) | skip)))
  all_goals (try conv => whnf)
  refine loop_rule (α := Nat) (fun k => k ≤ l.length) (fun k => { slots := [(3, .s (.n 0) 4 0 l.length c'), (8, .v (.int .i64 l.length)), (9, .v (.int .i64 (k : Int)))], nt := 28, mem := ⟨GG, [.ro 4 (l.map deC)], [.row 27 4 c' ((midO l k).map deC)]⟩ }) (fun k => l.length - k) 0 (Nat.zero_le _) ⟨⟨[0], (by decide), GG_no, rfl, (SubOld.refl _ rfl), ⟨.inr (.inl rfl), trivial⟩, ⟨.inl rfl, .inl rfl, .inl rfl, trivial⟩⟩, rfl⟩ ?_ (fun _ => rfl)
  intro k hk
  refine vc_sound (C := seat) seat_ok (pl := []) ?_
  by_cases hlt : k < l.length
  · obtain ⟨y, hy⟩ : ∃ y, l[k]? = some y := ⟨_, List.getElem?_eq_getElem hlt⟩
    have hrow := de_at (midO_at hy)
    have hby := hb y (List.mem_of_getElem? hy)
    repeat' ((try conv => whnf); first
      | (with_reducible refine OKv.go (C := seat) seat_ok ?_)
      | (with_reducible refine BB_true ?_)
      | (with_reducible refine BB_false ?_)
      | (with_reducible refine Both.mk ?_ ?_)
      | (with_reducible refine VS.mk ?_)
      | (refine PSem.go (C := seat) seat_ok ?_)
      | (refine And.intro (PlanOK.mk (by kernel_rfl) rfl (by kernel_rfl) (by kernel_rfl)) ?_)
      | (refine And.intro rfl (Exists.intro _ (And.intro (by first | assumption | rfl) ?_)))
      | (refine And.intro ⟨rfl, rfl, rfl⟩ ?_)
      | (refine And.intro ⟨rfl, rfl, rfl, by first | (simp only [chunks_len, List.length_map, List.length_take, List.length_drop, List.length_append, List.length_cons, List.length_nil] <;> omega) | omega | rfl⟩ ?_)
      | (refine And.intro ⟨rfl, by first | (simp only [chunks_len, List.length_map, List.length_take, List.length_drop, List.length_append, List.length_cons, List.length_nil] <;> omega) | omega | rfl⟩ ?_)
      | (refine And.intro (by first | exact ⟨rfl, Nat.le_refl _⟩ | first | (simp only [chunks_len, List.length_map, List.length_take, List.length_drop, List.length_append, List.length_cons, List.length_nil] <;> omega) | omega | rfl) ?_)
      | (refine fun (caps : Nat → Nat) hcaps => ?_; conv at hcaps => whnf)
      | (refine fun (cap' : Nat) hcap' => ?_)
      | (refine And.intro (by omega) ?_)
      | (refine BB.mk (fun _h => ?_) (fun _h => ?_) <;> (first | (exact absurd _h (by decide)) | (exfalso; simp only [boolSet] at _h <;> omega) | skip)))
    all_goals (try conv => whnf)
    · refine ⟨k + 1, by omega, by omega, ⟨⟨[0], by decide, GG_no, rfl, SubOld.refl _ rfl, ⟨.inr (.inl ?_), trivial⟩, ⟨.inl rfl, .inl rfl, .inl (num_eq (by rw [IntKind.wrap_i64]; omega)), trivial⟩⟩, rfl⟩⟩
      simp only [boolSet] at _h
      have hw : IntKind.u8.wrap (y.age + 1) = y.age + 1 := by rw [IntKind.wrap_u8]; omega
      rw [← midO_set hy, List.map_set, hw]
      show some (SB.row _ 4 c' (((midO l k).map deC).set (0 + (k : Int).toNat) _)) = _
      rw [Nat.zero_add, Int.toNat_natCast]
      unfold older
      rw [if_pos (by omega)]
      rfl
    · refine ⟨k + 1, by omega, by omega, ⟨⟨[0], by decide, GG_no, rfl, SubOld.refl _ rfl, ⟨.inr (.inl ?_), trivial⟩, ⟨.inl rfl, .inl rfl, .inl (num_eq (by rw [IntKind.wrap_i64]; omega)), trivial⟩⟩, rfl⟩⟩
      simp only [boolSet] at _h
      rw [← midO_same hy (by unfold older; rw [if_neg (by omega)])]
      rfl
  · obtain rfl : k = l.length := by omega
    rw [midO_end]
    repeat' ((try conv => whnf); first
      | (with_reducible refine OKv.go (C := seat) seat_ok ?_)
      | (with_reducible refine BB_true ?_)
      | (with_reducible refine BB_false ?_)
      | (with_reducible refine Both.mk ?_ ?_)
      | (with_reducible refine VS.mk ?_)
      | (refine PSem.go (C := seat) seat_ok ?_)
      | (refine And.intro (PlanOK.mk (by kernel_rfl) rfl (by kernel_rfl) (by kernel_rfl)) ?_)
      | (refine And.intro rfl (Exists.intro _ (And.intro (by first | assumption | rfl) ?_)))
      | (refine And.intro ⟨rfl, rfl, rfl⟩ ?_)
      | (refine And.intro (by omega) ?_)
      | (refine BB.mk (fun _h => ?_) (fun _h => ?_) <;> (first | (exact absurd _h (by decide)) | (exfalso; simp only [boolSet] at _h <;> omega) | skip)))
    all_goals (try conv => whnf)
    exact Fin.mk ⟨⟨[0], .s (.n 0) 4 0 l.length c', [.row 27 4 c' ((l.map older).map deC)], by decide, rfl, ⟨.inr (.inl rfl), trivial⟩, c', hc', rfl, rfl⟩, rfl⟩
set_option maxRecDepth 100000 in
set_option maxHeartbeats 4000000 in
theorem desc_ok (a b : De) (c1 c2 : Nat) (hf : a.fl.length ≤ 1099511627776) : FnOK Try.prog GG 27 [] [deS a c1, deS b c2] (fun r _ ext => r = .v (.bool (decide (a = b))) ∧ ext = []) := by
  refine fn_val (C := seat) seat_ok [] GG_no (Try.func27) rfl rfl rfl rfl rfl (fun _ => rfl) rfl ?_
  repeat' ((try conv => whnf); first
    | (with_reducible refine OKv.go (C := seat) seat_ok ?_)
    | (with_reducible refine BB_true ?_)
    | (with_reducible refine BB_false ?_)
    | (with_reducible refine Both.mk ?_ ?_)
    | (with_reducible refine VS.mk ?_)
    | (refine PSem.go (C := seat) seat_ok ?_)
    | (refine And.intro (PlanOK.mk (by kernel_rfl) rfl (by kernel_rfl) (by kernel_rfl)) ?_)
    | (refine And.intro rfl (Exists.intro _ (And.intro (by first | assumption | rfl) ?_)))
    | (refine And.intro ⟨rfl, rfl, rfl⟩ ?_)
    | (refine call_ro [] (spans_ok a.fl b.fl c1 c2 hf) GG_no rfl rfl rfl trivial ?_; rintro r bs' ext ⟨rfl, rfl⟩)
    | (refine And.intro (by omega) ?_)
    | (refine BB.mk (fun _h => ?_) (fun _h => ?_) <;> (first | (exact absurd _h (by decide)) | (exfalso; simp only [boolSet] at _h <;> omega) | skip)))
  all_goals (try conv => whnf)
  all_goals (try (refine Fin.mk ?_))
  all_goals (try (refine Fin.mk ?_))
  all_goals
    refine ⟨bool_eq ?_, rfl⟩
    rw [Bool.eq_iff_iff]
    cases a; cases b
    simp only [boolSet, De.mk.injEq] at * <;> grind
/-- what lies in a row, from the place e on -/
abbrev AtE (A : List (List CV)) (e : Nat) (l : List De) : Prop := ∀ (k : Nat) (y : De), l[k]? = some y → A[e + (k : Int).toNat]? = some [.v (.int .u8 y.node), .v (.int .u16 y.inc), .v (.int .u8 y.age), .z 2 (y.fl.map spC)]
theorem atE_map {l : List De} : AtE (l.map deC) 0 l := fun _ _ h => de_at h
theorem atE_more {l : List De} {m : List (List CV)} : AtE (l.map deC ++ m) 0 l := fun k y h => by
  rw [List.getElem?_append_left]
  · exact de_at h
  · have := getElem?_lt h
    rw [List.length_map]
    omega
theorem atE_drop {x : De} {l : List De} : AtE ((x :: l).map deC) 1 l := fun k y h => by
  have := de_at (l := x :: l) (k := k + 1) (y := y) (by simpa using h)
  have e : 0 + (((k + 1 : Nat) : Int)).toNat = 1 + (k : Int).toNat := by omega
  rw [e] at this
  exact this
set_option maxRecDepth 100000 in
set_option maxHeartbeats 4000000 in
theorem descs_raw (l r : List De) (c1 c2 : Nat) (hl : l.length ≤ 1099511627776) (A B : List (List CV)) (e1 e2 : Nat) (hA : AtE A e1 l) (hB : AtE B e2 r) (hfl : FlOk l) : FnOK Try.prog GG 19 [.ro 4 A, .ro 4 B] [.s (.o 0) 4 e1 l.length c1, .s (.o 1) 4 e2 r.length c2] (fun rr _ ext => rr = .v (.bool (decide (l = r))) ∧ ext = []) := by
  by_cases hlen : l.length = r.length
  · refine fn_val (C := seat) seat_ok [(6, (.of [(0, .take), (1, .take), (2, .take), (3, .take), (4, .take), (5, .take), (6, .take), (7, .take), (8, .do_), (9, .take)]))] GG_no (Try.func19) rfl rfl rfl rfl rfl (fun _ => rfl) rfl ?_
    repeat' ((try conv => whnf); first
      | (with_reducible refine OKv.go (C := seat) seat_ok ?_)
      | (with_reducible refine BB_true ?_)
      | (with_reducible refine BB_false ?_)
      | (with_reducible refine Both.mk ?_ ?_)
      | (with_reducible refine VS.mk ?_)
      | (refine PSem.go (C := seat) seat_ok ?_)
      | (refine And.intro (PlanOK.mk (by kernel_rfl) rfl (by kernel_rfl) (by kernel_rfl)) ?_)
      | (refine And.intro rfl (Exists.intro _ (And.intro (by first | assumption | rfl) ?_)))
      | (refine And.intro ⟨rfl, rfl, rfl⟩ ?_)
      | (refine And.intro ⟨by omega, by simp only [List.length_map]; omega⟩ (Exists.intro _ (And.intro (by first | assumption | rfl) ?_)))
      | (refine call_ro [] (desc_ok y z _ _ (hfl y (List.mem_of_getElem? hy))) GG_no rfl rfl rfl trivial ?_; rintro r bs' ext ⟨rfl, rfl⟩)
      | (refine fun (caps : Nat → Nat) hcaps => ?_; conv at hcaps => whnf)
      | (refine And.intro (by omega) ?_)
      | (refine BB.mk (fun _h => ?_) (fun _h => ?_) <;> (first | (exact absurd _h (by decide)) | (exfalso; simp only [boolSet] at _h <;> omega) | skip)))
    all_goals (try conv => whnf)
    refine loop_rule (α := Nat) (fun k => k ≤ l.length ∧ l.take k = r.take k) (fun k => { slots := [(0, .s (.o 0) 4 e1 l.length c1), (1, .s (.o 1) 4 e2 r.length c2), (12, .v (.int .i64 l.length)), (13, .v (.int .i64 (k : Int)))], nt := 27, mem := ⟨GG, [.ro 4 A, .ro 4 B], []⟩ }) (fun k => l.length - k) 0 ⟨Nat.zero_le _, rfl⟩ ⟨⟨[], List.nodup_nil, GG_no, rfl, (SubOld.refl _ rfl), trivial, ⟨.inl rfl, .inl rfl, .inl rfl, .inl rfl, trivial⟩⟩, rfl⟩ ?_ (fun _ => rfl)
    rintro k ⟨hk, heq⟩
    refine vc_sound (C := seat) seat_ok (pl := [(6, (.of [(0, .take), (1, .take), (2, .take), (3, .take), (4, .take), (5, .take), (6, .take), (7, .take), (8, .do_), (9, .take)]))]) ?_
    by_cases hlt : k < l.length
    · obtain ⟨y, hy⟩ : ∃ y, l[k]? = some y := ⟨_, List.getElem?_eq_getElem hlt⟩
      obtain ⟨z, hz⟩ : ∃ z, r[k]? = some z := ⟨_, List.getElem?_eq_getElem (by omega)⟩
      have hrow := hA k y hy
      have hrow2 := hB k z hz
      repeat' ((try conv => whnf); first
        | (with_reducible refine OKv.go (C := seat) seat_ok ?_)
        | (with_reducible refine BB_true ?_)
        | (with_reducible refine BB_false ?_)
        | (with_reducible refine Both.mk ?_ ?_)
        | (with_reducible refine VS.mk ?_)
        | (refine PSem.go (C := seat) seat_ok ?_)
        | (refine And.intro (PlanOK.mk (by kernel_rfl) rfl (by kernel_rfl) (by kernel_rfl)) ?_)
        | (refine And.intro rfl (Exists.intro _ (And.intro (by first | assumption | rfl) ?_)))
        | (refine And.intro ⟨rfl, rfl, rfl⟩ ?_)
        | (refine And.intro ⟨by omega, by simp only [List.length_map]; omega⟩ (Exists.intro _ (And.intro (by first | assumption | rfl) ?_)))
        | (refine call_ro [] (desc_ok y z _ _ (hfl y (List.mem_of_getElem? hy))) GG_no rfl rfl rfl trivial ?_; rintro r bs' ext ⟨rfl, rfl⟩)
        | (refine fun (caps : Nat → Nat) hcaps => ?_; conv at hcaps => whnf)
        | (refine And.intro (by omega) ?_)
        | (refine BB.mk (fun _h => ?_) (fun _h => ?_) <;> (first | (exact absurd _h (by decide)) | (exfalso; simp only [boolSet] at _h <;> omega) | skip)))
      all_goals (try conv => whnf)
      all_goals (try (refine Fin.mk ?_))
      all_goals first
        | (have hne : y ≠ z := by intro e; subst e; simp only [boolSet] at * <;> grind
           exact ⟨bool_eq (decide_eq_false (same_ne hy hz hne)).symm, rfl⟩)
        | (have hyz : y = z := by simp only [boolSet] at * <;> grind
           subst hyz
           exact ⟨k + 1, ⟨by omega, same_take heq hy hz⟩, by omega, ⟨⟨[], List.nodup_nil, GG_no, rfl, SubOld.refl _ rfl, trivial, ⟨.inl rfl, .inl rfl, .inl rfl, .inl (num_eq (by rw [IntKind.wrap_i64]; omega)), trivial⟩⟩, rfl⟩⟩)
    · have e : l = r := by
        rw [List.take_of_length_le (by omega), List.take_of_length_le (by omega)] at heq
        exact heq
      repeat' ((try conv => whnf); first
        | (with_reducible refine OKv.go (C := seat) seat_ok ?_)
        | (with_reducible refine BB_true ?_)
        | (with_reducible refine BB_false ?_)
        | (with_reducible refine Both.mk ?_ ?_)
        | (with_reducible refine VS.mk ?_)
        | (refine PSem.go (C := seat) seat_ok ?_)
        | (refine And.intro (PlanOK.mk (by kernel_rfl) rfl (by kernel_rfl) (by kernel_rfl)) ?_)
        | (refine And.intro rfl (Exists.intro _ (And.intro (by first | assumption | rfl) ?_)))
        | (refine And.intro ⟨rfl, rfl, rfl⟩ ?_)
        | (refine And.intro (by omega) ?_)
        | (refine BB.mk (fun _h => ?_) (fun _h => ?_) <;> (first | (exact absurd _h (by decide)) | (exfalso; simp only [boolSet] at _h <;> omega) | skip)))
      all_goals (try conv => whnf)
      exact Fin.mk ⟨bool_eq (decide_eq_true e).symm, rfl⟩
  · have e : l ≠ r := fun h => hlen (by rw [h])
    refine fn_val (C := seat) seat_ok [(6, (.of [(0, .take), (1, .take), (2, .take), (3, .take), (4, .take), (5, .take), (6, .take), (7, .take), (8, .do_), (9, .take)]))] GG_no (Try.func19) rfl rfl rfl rfl rfl (fun _ => rfl) rfl ?_
    repeat' ((try conv => whnf); first
      | (with_reducible refine OKv.go (C := seat) seat_ok ?_)
      | (with_reducible refine BB_true ?_)
      | (with_reducible refine BB_false ?_)
      | (with_reducible refine Both.mk ?_ ?_)
      | (with_reducible refine VS.mk ?_)
      | (refine PSem.go (C := seat) seat_ok ?_)
      | (refine And.intro (PlanOK.mk (by kernel_rfl) rfl (by kernel_rfl) (by kernel_rfl)) ?_)
      | (refine And.intro rfl (Exists.intro _ (And.intro (by first | assumption | rfl) ?_)))
      | (refine And.intro ⟨rfl, rfl, rfl⟩ ?_)
      | (refine And.intro (by omega) ?_)
      | (refine BB.mk (fun _h => ?_) (fun _h => ?_) <;> (first | (exact absurd _h (by decide)) | (exfalso; simp only [boolSet] at _h <;> omega) | skip)))
    all_goals (try conv => whnf)
    all_goals (try (refine Fin.mk ?_))
    all_goals first
      | exact ⟨bool_eq (decide_eq_false e).symm, rfl⟩
      | (exfalso; simp only [boolSet] at * <;> omega)
end Go.Proofs.Ytocappiebmmpgaa
