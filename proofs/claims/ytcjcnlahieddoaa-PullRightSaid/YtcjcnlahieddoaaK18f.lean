/- Package pull, by computing: the reference's Right, Add, Tick. -/
import Derived.Test.YtcjcnlahieddoaaK18e
namespace Go.Proofs.Ytcjcnlahieddoaa
open Go.RowKit

theorem ask_at1 {l : List Ask_} {k : Nat} {y : Ask_} (hk : 1 ≤ k) (h : l[k - 1]? = some y) (hb : k ≤ 1099511627776) : (l.map askC)[0 + (IntKind.i64.wrap ((k : Int) - 1)).toNat]? = some [.int .u8 y.id.n, .int .u16 y.id.i, .int .u32 y.id.s, .int .u8 y.fr, .int .u8 y.lf] := by
  have e : (IntKind.i64.wrap ((k : Int) - 1)).toNat = k - 1 := by rw [IntKind.wrap_i64]; omega
  rw [e, Nat.zero_add, List.getElem?_map, h]; rfl
theorem less_is (x y : Id_) (b : Bool) (hb : lessB x y = b) : FnOK Try.prog GG 29 [] [idS x, idS y] (fun r _ ext => r = .v (.bool b) ∧ ext = []) := by
  subst hb
  exact less_r x y
theorem lf_next {l : List Ask_} {k : Nat} {y : Ask_} (h : ∀ z ∈ l.take k, 0 < z.lf) (hy : l[k]? = some y) (hn : 0 < y.lf) : ∀ z ∈ l.take (k + 1), 0 < z.lf := fun z hz => by
  rw [List.take_add_one, hy] at hz
  rcases List.mem_append.1 hz with hz | hz
  · exact h z hz
  · simp at hz; subst hz; exact hn
theorem rises_next {l : List Ask_} {k : Nat} {y z : Ask_} (h : risesAt (idsL l) k) (hy : l[k - 1]? = some y) (hz : l[k]? = some z) (hl : lessB y.id z.id = true) : risesAt (idsL l) (k + 1) := by
  intro i a b hi ha hb
  by_cases e : i + 1 < k
  · exact h i a b e ha hb
  · have e1 : i = k - 1 := by omega
    subst e1
    have e2 : k - 1 + 1 = k := by omega
    rw [e2] at hb
    rw [List.getElem?_map, hy] at ha
    rw [List.getElem?_map, hz] at hb
    cases ha; cases hb
    exact hl
theorem right_bad1 {l : List Ask_} {most : Int} {y : Ask_} {k : Nat} (hy : l[k]? = some y) (h : ¬ 0 < y.lf) : rightA l most = false := by
  have : (l.all fun a => decide (0 < a.lf)) = false := List.all_eq_false.2 ⟨y, List.mem_of_getElem? hy, by simpa using h⟩
  simp [rightA, this]
theorem right_bad2 {l : List Ask_} {most : Int} {y z : Ask_} {k : Nat} (hk : 1 ≤ k) (hy : l[k - 1]? = some y) (hz : l[k]? = some z) (h : lessB y.id z.id = false) : rightA l most = false := by
  have : risingB (idsL l) = false := by
    rw [← Bool.not_eq_true, rising_iff]
    intro hh
    have hkl := getElem?_lt hz
    have := hh (k - 1) y.id z.id (by rw [idsL_len]; omega) (by rw [List.getElem?_map, hy]; rfl) (by rw [show k - 1 + 1 = k by omega, List.getElem?_map, hz]; rfl)
    rw [h] at this; cases this
  simp [rightA, this]
theorem right_end {l : List Ask_} {most : Int} (h1 : ∀ z ∈ l, 0 < z.lf) (h2 : risesAt (idsL l) l.length) : rightA l most = (decide (0 ≤ most) && decide ((l.length : Int) ≤ most)) := by
  have e1 : (l.all fun a => decide (0 < a.lf)) = true := List.all_eq_true.2 (fun z hz => decide_eq_true (h1 z hz))
  have e2 : risingB (idsL l) = true := (rising_iff _).2 (by rw [idsL_len]; exact h2)
  simp [rightA, e1, e2]
set_option maxRecDepth 100000 in
set_option maxHeartbeats 4000000 in
theorem rightR_ok (l : List Ask_) (cap : Nat) (most : Int) (hl : l.length ≤ 1099511627776) (hok : ∀ y ∈ l, y.ok) : FnOK Try.prog GG 10 [.ro 5 (l.map askC)] [.s (.o 0) 5 0 l.length cap, .v (.int .i64 most)] (fun r _ ext => r = .v (.bool (rightA l most)) ∧ ext = []) := by
  refine fn_val (C := seat) seat_ok [(4, (.of [(0, .take), (1, .take), (2, .take), (3, .take), (4, .take), (5, .take), (6, .take), (7, .take), (8, .take), (9, .take), (10, .take), (11, .take), (12, .take), (13, .take), (14, .take), (15, .take), (16, .take), (17, .take), (18, .take), (19, .take), (20, .take), (21, .do_), (22, .take), (23, .take), (24, .take)]))] GG_no (Try.func10) rfl rfl rfl rfl rfl (fun _ => rfl) rfl ?_
  repeat' ((try conv => whnf); first
    | (with_reducible refine OKv.go (C := seat) seat_ok ?_)
    | (with_reducible refine BB_true ?_)
    | (with_reducible refine BB_false ?_)
    | (with_reducible refine Both.mk ?_ ?_)
    | (with_reducible refine VS.mk ?_)
    | (refine PSem.go (C := seat) seat_ok ?_)
    | (refine And.intro (PlanOK.mk (by kernel_rfl) rfl (by kernel_rfl) (by kernel_rfl)) ?_)
    | (refine And.intro rfl (Exists.intro _ (And.intro (by first | assumption | rfl) ?_)))
    | (refine And.intro ⟨rfl, rfl, rfl⟩ ?_)
    | (refine And.intro (by omega) ?_)
    | (refine BB.mk (fun _h => ?_) (fun _h => ?_) <;> (first | (exact absurd _h (by decide)) | (exfalso; simp only [boolSet] at _h <;> omega) | skip)))
  all_goals (try conv => whnf)
  refine loop_rule (α := Nat) (fun k => k ≤ l.length ∧ (∀ z ∈ l.take k, 0 < z.lf) ∧ risesAt (idsL l) k) (fun k => { slots := [(0, .s (.o 0) 5 0 l.length cap), (1, .v (.int .i64 most)), (5, .v (.int .i64 (k : Int)))], nt := 45, mem := ⟨GG, [.ro 5 (l.map askC)], []⟩ }) (fun k => l.length - k) 0 ⟨Nat.zero_le _, by simp, fun i _ _ h => by omega⟩ ⟨⟨[], List.nodup_nil, GG_no, rfl, (SubOld.refl _ rfl), trivial, ⟨.inl rfl, .inl rfl, .inl rfl, trivial⟩⟩, rfl⟩ ?_ (fun _ => rfl)
  rintro k ⟨hk, hall, hris⟩
  refine vc_sound (C := seat) seat_ok (pl := [(4, (.of [(0, .take), (1, .take), (2, .take), (3, .take), (4, .take), (5, .take), (6, .take), (7, .take), (8, .take), (9, .take), (10, .take), (11, .take), (12, .take), (13, .take), (14, .take), (15, .take), (16, .take), (17, .take), (18, .take), (19, .take), (20, .take), (21, .do_), (22, .take), (23, .take), (24, .take)]))]) ?_
  by_cases hlt : k < l.length
  · obtain ⟨y, hy⟩ : ∃ y, l[k]? = some y := ⟨_, List.getElem?_eq_getElem hlt⟩
    have hrow := ask_at hy
    have hy0 := (hok y (List.mem_of_getElem? hy)).l0
    by_cases hpos : 0 < y.lf
    · by_cases hk0 : k = 0
      ·
        repeat' ((try conv => whnf); first
          | (with_reducible refine OKv.go (C := seat) seat_ok ?_)
          | (with_reducible refine BB_true ?_)
          | (with_reducible refine BB_false ?_)
          | (with_reducible refine Both.mk ?_ ?_)
          | (with_reducible refine VS.mk ?_)
          | (refine PSem.go (C := seat) seat_ok ?_)
          | (refine And.intro (PlanOK.mk (by kernel_rfl) rfl (by kernel_rfl) (by kernel_rfl)) ?_)
          | (refine And.intro rfl (Exists.intro _ (And.intro (by first | assumption | rfl) ?_)))
          | (refine And.intro ⟨rfl, rfl, rfl⟩ ?_)
          | (refine And.intro (by simp only [IntKind.wrap_i64]; omega) ?_)
          | (refine And.intro (by omega) ?_)
          | (refine BB.mk (fun _h => ?_) (fun _h => ?_) <;> (first | (exact absurd _h (by decide)) | (exfalso; simp only [boolSet] at _h <;> omega) | skip)))
        all_goals (try conv => whnf)
        all_goals first
          | (exact ⟨k + 1, ⟨by omega, lf_next hall hy hpos, fun i _ _ h => by omega⟩, by omega, ⟨⟨[], List.nodup_nil, GG_no, rfl, SubOld.refl _ rfl, trivial, ⟨.inl rfl, .inl rfl, .inl (num_eq (by rw [IntKind.wrap_i64]; omega)), trivial⟩⟩, rfl⟩⟩)
          | (exfalso; simp only [boolSet] at * <;> omega)
      · obtain ⟨x, hx⟩ : ∃ x, l[k - 1]? = some x := ⟨_, List.getElem?_eq_getElem (by omega)⟩
        have hrow1 := ask_at1 (by omega) hx (by omega)
        cases hless : lessB x.id y.id with
        | true =>
          repeat' ((try conv => whnf); first
            | (with_reducible refine OKv.go (C := seat) seat_ok ?_)
            | (with_reducible refine BB_true ?_)
            | (with_reducible refine BB_false ?_)
            | (with_reducible refine Both.mk ?_ ?_)
            | (with_reducible refine VS.mk ?_)
            | (refine PSem.go (C := seat) seat_ok ?_)
            | (refine And.intro (PlanOK.mk (by kernel_rfl) rfl (by kernel_rfl) (by kernel_rfl)) ?_)
            | (refine And.intro rfl (Exists.intro _ (And.intro (by first | assumption | rfl) ?_)))
            | (refine And.intro ⟨rfl, rfl, rfl⟩ ?_)
            | (refine call_ro [] (less_is x.id y.id true hless) GG_no rfl rfl rfl trivial ?_; rintro r bs' ext ⟨rfl, rfl⟩)
            | (refine And.intro (by simp only [IntKind.wrap_i64]; omega) ?_)
            | (refine And.intro (by omega) ?_)
            | (refine BB.mk (fun _h => ?_) (fun _h => ?_) <;> (first | (exact absurd _h (by decide)) | (exfalso; simp only [boolSet] at _h <;> omega) | skip)))
          all_goals (try conv => whnf)
          all_goals first
            | (exact ⟨k + 1, ⟨by omega, lf_next hall hy hpos, rises_next hris hx hy hless⟩, by omega, ⟨⟨[], List.nodup_nil, GG_no, rfl, SubOld.refl _ rfl, trivial, ⟨.inl rfl, .inl rfl, .inl (num_eq (by rw [IntKind.wrap_i64]; omega)), trivial⟩⟩, rfl⟩⟩)
            | (exfalso; simp only [boolSet] at * <;> omega)
        | false =>
          repeat' ((try conv => whnf); first
            | (with_reducible refine OKv.go (C := seat) seat_ok ?_)
            | (with_reducible refine BB_true ?_)
            | (with_reducible refine BB_false ?_)
            | (with_reducible refine Both.mk ?_ ?_)
            | (with_reducible refine VS.mk ?_)
            | (refine PSem.go (C := seat) seat_ok ?_)
            | (refine And.intro (PlanOK.mk (by kernel_rfl) rfl (by kernel_rfl) (by kernel_rfl)) ?_)
            | (refine And.intro rfl (Exists.intro _ (And.intro (by first | assumption | rfl) ?_)))
            | (refine And.intro ⟨rfl, rfl, rfl⟩ ?_)
            | (refine call_ro [] (less_is x.id y.id false hless) GG_no rfl rfl rfl trivial ?_; rintro r bs' ext ⟨rfl, rfl⟩)
            | (refine And.intro (by simp only [IntKind.wrap_i64]; omega) ?_)
            | (refine And.intro (by omega) ?_)
            | (refine BB.mk (fun _h => ?_) (fun _h => ?_) <;> (first | (exact absurd _h (by decide)) | (exfalso; simp only [boolSet] at _h <;> omega) | skip)))
          all_goals (try conv => whnf)
          all_goals first
            | exact Fin.mk ⟨bool_eq (right_bad2 (by omega) hx hy hless).symm, rfl⟩
            | (exfalso; simp only [boolSet] at * <;> omega)
    · by_cases hk0 : k = 0
      ·
        repeat' ((try conv => whnf); first
          | (with_reducible refine OKv.go (C := seat) seat_ok ?_)
          | (with_reducible refine BB_true ?_)
          | (with_reducible refine BB_false ?_)
          | (with_reducible refine Both.mk ?_ ?_)
          | (with_reducible refine VS.mk ?_)
          | (refine PSem.go (C := seat) seat_ok ?_)
          | (refine And.intro (PlanOK.mk (by kernel_rfl) rfl (by kernel_rfl) (by kernel_rfl)) ?_)
          | (refine And.intro rfl (Exists.intro _ (And.intro (by first | assumption | rfl) ?_)))
          | (refine And.intro ⟨rfl, rfl, rfl⟩ ?_)
          | (refine And.intro (by simp only [IntKind.wrap_i64]; omega) ?_)
          | (refine And.intro (by omega) ?_)
          | (refine BB.mk (fun _h => ?_) (fun _h => ?_) <;> (first | (exact absurd _h (by decide)) | (exfalso; simp only [boolSet] at _h <;> omega) | skip)))
        all_goals (try conv => whnf)
        all_goals first
          | exact Fin.mk ⟨bool_eq (right_bad1 hy hpos).symm, rfl⟩
          | (exfalso; simp only [boolSet] at * <;> omega)
      · obtain ⟨x, hx⟩ : ∃ x, l[k - 1]? = some x := ⟨_, List.getElem?_eq_getElem (by omega)⟩
        have hrow1 := ask_at1 (by omega) hx (by omega)
        repeat' ((try conv => whnf); first
          | (with_reducible refine OKv.go (C := seat) seat_ok ?_)
          | (with_reducible refine BB_true ?_)
          | (with_reducible refine BB_false ?_)
          | (with_reducible refine Both.mk ?_ ?_)
          | (with_reducible refine VS.mk ?_)
          | (refine PSem.go (C := seat) seat_ok ?_)
          | (refine And.intro (PlanOK.mk (by kernel_rfl) rfl (by kernel_rfl) (by kernel_rfl)) ?_)
          | (refine And.intro rfl (Exists.intro _ (And.intro (by first | assumption | rfl) ?_)))
          | (refine And.intro ⟨rfl, rfl, rfl⟩ ?_)
          | (refine call_ro [] (less_r x.id y.id) GG_no rfl rfl rfl trivial ?_; rintro r bs' ext ⟨rfl, rfl⟩)
          | (refine And.intro (by simp only [IntKind.wrap_i64]; omega) ?_)
          | (refine And.intro (by omega) ?_)
          | (refine BB.mk (fun _h => ?_) (fun _h => ?_) <;> (first | (exact absurd _h (by decide)) | (exfalso; simp only [boolSet] at _h <;> omega) | skip)))
        all_goals (try conv => whnf)
        all_goals first
          | exact Fin.mk ⟨bool_eq (right_bad1 hy hpos).symm, rfl⟩
          | (exfalso; simp only [boolSet] at * <;> omega)
  · obtain rfl : k = l.length := by omega
    rw [List.take_of_length_le (Nat.le_refl _)] at hall
    have he := right_end (most := most) hall hris
    repeat' ((try conv => whnf); first
      | (with_reducible refine OKv.go (C := seat) seat_ok ?_)
      | (with_reducible refine BB_true ?_)
      | (with_reducible refine BB_false ?_)
      | (with_reducible refine Both.mk ?_ ?_)
      | (with_reducible refine VS.mk ?_)
      | (refine PSem.go (C := seat) seat_ok ?_)
      | (refine And.intro (PlanOK.mk (by kernel_rfl) rfl (by kernel_rfl) (by kernel_rfl)) ?_)
      | (refine And.intro rfl (Exists.intro _ (And.intro (by first | assumption | rfl) ?_)))
      | (refine And.intro ⟨rfl, rfl, rfl⟩ ?_)
      | (refine And.intro (by omega) ?_)
      | (refine BB.mk (fun _h => ?_) (fun _h => ?_) <;> (first | (exact absurd _h (by decide)) | (exfalso; simp only [boolSet] at _h <;> omega) | skip)))
    all_goals (try conv => whnf)
    all_goals (try (refine Fin.mk ?_))
    all_goals
      refine ⟨bool_eq ?_, rfl⟩
      rw [he, Bool.eq_iff_iff]
      simp only [boolSet] at * <;> omega
theorem hasR_is (l : List Ask_) (cap : Nat) (x : Id_) (b : Bool) (hl : l.length ≤ 1099511627776) (hb : ((idsL l).any (fun y => eqB y x)) = b) : FnOK Try.prog GG 12 [.ro 5 (l.map askC)] [.s (.o 0) 5 0 l.length cap, idS x] (fun r _ ext => r = .v (.bool b) ∧ ext = []) := by
  subst hb
  exact hasR_ok l cap x hl
theorem rightR_is (l : List Ask_) (cap : Nat) (most : Int) (b : Bool) (hl : l.length ≤ 1099511627776) (hok : ∀ y ∈ l, y.ok) (hb : rightA l most = b) : FnOK Try.prog GG 10 [.ro 5 (l.map askC)] [.s (.o 0) 5 0 l.length cap, .v (.int .i64 most)] (fun r _ ext => r = .v (.bool b) ∧ ext = []) := by
  subst hb
  exact rightR_ok l cap most hl hok
def addF (l : List Ask_) (x : Ask_) (most : Int) : List Ask_ × Int :=
  if x.lf = 0 then (l, 2) else if (idsL l).any (fun y => eqB y x.id) then (l, 150) else if most ≤ l.length then (l, 52) else (insF l x, 0)
theorem find_lt {l : List Ask_} {x y : Ask_} {k : Nat} (hy : l[k]? = some y) (h : k < l.findIdx fun y => lessB x.id y.id) : lessB x.id y.id = false := by
  have := List.not_of_lt_findIdx h
  rw [List.getElem?_eq_some_iff] at hy
  obtain ⟨_, rfl⟩ := hy
  simpa using this
theorem find_eq {l : List Ask_} {x y : Ask_} {k : Nat} (hy : l[k]? = some y) (h : k = l.findIdx fun y => lessB x.id y.id) : lessB x.id y.id = true := by
  subst h
  rw [List.getElem?_eq_some_iff] at hy
  obtain ⟨hlt, rfl⟩ := hy
  exact List.findIdx_getElem (w := hlt)
set_option maxRecDepth 100000 in
set_option maxHeartbeats 4000000 in
theorem addF_ok (l : List Ask_) (cap : Nat) (x : Ask_) (most : Int) (hl : l.length ≤ 400000000000) : FnOK Try.prog GG 14 [.ro 5 (l.map askC)] [.s (.o 0) 5 0 l.length cap, askS x, .v (.int .i64 most)] (fun r _ ext => ∃ cap, (addF l x most).1.length ≤ cap ∧ r = .tup [.s (.n 0) 5 0 (addF l x most).1.length cap, .v (.int .i64 (addF l x most).2)] ∧ ext = [.row 28 5 cap ((addF l x most).1.map askC)]) := by
  by_cases h0 : x.lf = 0
  · have e : addF l x most = (l, 2) := if_pos h0
    rw [e]
    refine fn_newR (C := seat) seat_ok [(12, (.of [(0, .take), (1, .take), (2, .take), (3, .take), (4, .take), (5, .take), (6, .take), (7, .take), (8, .take), (9, .take), (10, .do_), (11, .take)]))] GG_no (Try.func14) rfl rfl rfl rfl rfl rfl ?_
    repeat' ((try conv => whnf); first
      | (with_reducible refine OKv.go (C := seat) seat_ok ?_)
      | (with_reducible refine BB_true ?_)
      | (with_reducible refine BB_false ?_)
      | (with_reducible refine Both.mk ?_ ?_)
      | (with_reducible refine VS.mk ?_)
      | (refine PSem.go (C := seat) seat_ok ?_)
      | (refine And.intro (PlanOK.mk (by kernel_rfl) rfl (by kernel_rfl) (by kernel_rfl)) ?_)
      | (refine And.intro rfl (Exists.intro _ (And.intro (by first | assumption | rfl) ?_)))
      | (refine And.intro ⟨rfl, rfl, rfl⟩ ?_)
      | (refine call_ro [.o 0] (hasR_is l _ x.id true (by omega) hh) GG_no rfl rfl rfl ⟨⟨_, rfl, rfl, rfl⟩, trivial⟩ ?_; rintro r bs' ext ⟨rfl, rfl⟩)
      | (refine And.intro ⟨rfl, by rw [List.length_map]; omega⟩ ?_)
      | (refine And.intro ⟨rfl, rfl, rfl, by rw [List.length_map]⟩ ?_)
      | (refine And.intro ⟨rfl, by rw [List.length_map]; omega⟩ ?_)
      | (refine And.intro (by first | omega | (dsimp only; omega) | exact ⟨rfl, Nat.le_refl _⟩) ?_)
      | (intro cap' hcap')
      | (refine And.intro (by omega) ?_)
      | (refine BB.mk (fun _h => ?_) (fun _h => ?_) <;> (first | (exact absurd _h (by decide)) | (exfalso; simp only [boolSet] at _h <;> omega) | skip)))
    all_goals (try conv => whnf)
    all_goals (first
      | (exfalso; simp only [boolSet] at * <;> omega)
      | skip)
    refine ⟨⟨[1], .tup [.s (.n 0) 5 0 (0 + l.length) cap', .v (.int .i64 2)], [.row 28 5 cap' (l.map askC)], by decide, .inr ⟨_, _, rfl, rfl, .inl rfl, .inl rfl, trivial⟩, ⟨.inr ?_, trivial⟩, cap', by dsimp only; omega, by dsimp only; rw [Nat.zero_add], rfl⟩, rfl⟩
    show some (SB.row 28 5 cap' ([] ++ ((l.map askC).drop 0).take l.length)) = _
    rw [List.nil_append, List.drop_zero, List.take_of_length_le (by rw [List.length_map]; omega)]
  · cases hh : (idsL l).any (fun y => eqB y x.id) with
    | true =>
      have e : addF l x most = (l, 150) := by simp [addF, h0, hh]
      rw [e]
      refine fn_newR (C := seat) seat_ok [(12, (.of [(0, .take), (1, .take), (2, .take), (3, .take), (4, .take), (5, .take), (6, .take), (7, .take), (8, .take), (9, .take), (10, .do_), (11, .take)]))] GG_no (Try.func14) rfl rfl rfl rfl rfl rfl ?_
      repeat' ((try conv => whnf); first
        | (with_reducible refine OKv.go (C := seat) seat_ok ?_)
        | (with_reducible refine BB_true ?_)
        | (with_reducible refine BB_false ?_)
        | (with_reducible refine Both.mk ?_ ?_)
        | (with_reducible refine VS.mk ?_)
        | (refine PSem.go (C := seat) seat_ok ?_)
        | (refine And.intro (PlanOK.mk (by kernel_rfl) rfl (by kernel_rfl) (by kernel_rfl)) ?_)
        | (refine And.intro rfl (Exists.intro _ (And.intro (by first | assumption | rfl) ?_)))
        | (refine And.intro ⟨rfl, rfl, rfl⟩ ?_)
        | (refine call_ro [.o 0] (hasR_is l _ x.id true (by omega) hh) GG_no rfl rfl rfl ⟨⟨_, rfl, rfl, rfl⟩, trivial⟩ ?_; rintro r bs' ext ⟨rfl, rfl⟩)
        | (refine And.intro ⟨rfl, by rw [List.length_map]; omega⟩ ?_)
        | (refine And.intro ⟨rfl, rfl, rfl, by rw [List.length_map]⟩ ?_)
        | (refine And.intro ⟨rfl, by rw [List.length_map]; omega⟩ ?_)
        | (refine And.intro (by first | omega | (dsimp only; omega) | exact ⟨rfl, Nat.le_refl _⟩) ?_)
        | (intro cap' hcap')
        | (refine And.intro (by omega) ?_)
        | (refine BB.mk (fun _h => ?_) (fun _h => ?_) <;> (first | (exact absurd _h (by decide)) | (exfalso; simp only [boolSet] at _h <;> omega) | skip)))
      all_goals (try conv => whnf)
      refine ⟨⟨[1], .tup [.s (.n 0) 5 0 (0 + l.length) cap', .v (.int .i64 150)], [.row 28 5 cap' (l.map askC)], by decide, .inr ⟨_, _, rfl, rfl, .inl rfl, .inl rfl, trivial⟩, ⟨.inr ?_, trivial⟩, cap', by dsimp only; omega, by dsimp only; rw [Nat.zero_add], rfl⟩, rfl⟩
      show some (SB.row 28 5 cap' ([] ++ ((l.map askC).drop 0).take l.length)) = _
      rw [List.nil_append, List.drop_zero, List.take_of_length_le (by rw [List.length_map]; omega)]
    | false =>
      by_cases hm : most ≤ l.length
      · have e : addF l x most = (l, 52) := by simp only [addF, if_neg h0, hh, if_pos hm]; rfl
        rw [e]
        refine fn_newR (C := seat) seat_ok [(12, (.of [(0, .take), (1, .take), (2, .take), (3, .take), (4, .take), (5, .take), (6, .take), (7, .take), (8, .take), (9, .take), (10, .do_), (11, .take)]))] GG_no (Try.func14) rfl rfl rfl rfl rfl rfl ?_
        repeat' ((try conv => whnf); first
          | (with_reducible refine OKv.go (C := seat) seat_ok ?_)
          | (with_reducible refine BB_true ?_)
          | (with_reducible refine BB_false ?_)
          | (with_reducible refine Both.mk ?_ ?_)
          | (with_reducible refine VS.mk ?_)
          | (refine PSem.go (C := seat) seat_ok ?_)
          | (refine And.intro (PlanOK.mk (by kernel_rfl) rfl (by kernel_rfl) (by kernel_rfl)) ?_)
          | (refine And.intro rfl (Exists.intro _ (And.intro (by first | assumption | rfl) ?_)))
          | (refine And.intro ⟨rfl, rfl, rfl⟩ ?_)
          | (refine call_ro [.o 0] (hasR_is l _ x.id false (by omega) hh) GG_no rfl rfl rfl ⟨⟨_, rfl, rfl, rfl⟩, trivial⟩ ?_; rintro r bs' ext ⟨rfl, rfl⟩)
          | (refine And.intro ⟨rfl, by rw [List.length_map]; omega⟩ ?_)
          | (refine And.intro ⟨rfl, rfl, rfl, by rw [List.length_map]⟩ ?_)
          | (refine And.intro ⟨rfl, by rw [List.length_map]; omega⟩ ?_)
          | (refine And.intro (by first | omega | (dsimp only; omega) | exact ⟨rfl, Nat.le_refl _⟩) ?_)
          | (intro cap' hcap')
          | (refine And.intro (by omega) ?_)
          | (refine BB.mk (fun _h => ?_) (fun _h => ?_) <;> (first | (exact absurd _h (by decide)) | (exfalso; simp only [boolSet] at _h <;> omega) | skip)))
        all_goals (try conv => whnf)
        refine ⟨⟨[1], .tup [.s (.n 0) 5 0 (0 + l.length) cap', .v (.int .i64 52)], [.row 28 5 cap' (l.map askC)], by decide, .inr ⟨_, _, rfl, rfl, .inl rfl, .inl rfl, trivial⟩, ⟨.inr ?_, trivial⟩, cap', by dsimp only; omega, by dsimp only; rw [Nat.zero_add], rfl⟩, rfl⟩
        show some (SB.row 28 5 cap' ([] ++ ((l.map askC).drop 0).take l.length)) = _
        rw [List.nil_append, List.drop_zero, List.take_of_length_le (by rw [List.length_map]; omega)]
      · have e : addF l x most = (insF l x, 0) := by simp only [addF, if_neg h0, hh, if_neg hm]; rfl
        rw [e]
        obtain ⟨j, hj⟩ : ∃ j, j = l.findIdx fun y => lessB x.id y.id := ⟨_, rfl⟩
        have hjl : j ≤ l.length := by rw [hj]; exact List.findIdx_le_length
        refine fn_newR (C := seat) seat_ok [(12, (.of [(0, .take), (1, .take), (2, .take), (3, .take), (4, .take), (5, .take), (6, .take), (7, .take), (8, .take), (9, .take), (10, .do_), (11, .take)]))] GG_no (Try.func14) rfl rfl rfl rfl rfl rfl ?_
        repeat' ((try conv => whnf); first
          | (with_reducible refine OKv.go (C := seat) seat_ok ?_)
          | (with_reducible refine BB_true ?_)
          | (with_reducible refine BB_false ?_)
          | (with_reducible refine Both.mk ?_ ?_)
          | (with_reducible refine VS.mk ?_)
          | (refine PSem.go (C := seat) seat_ok ?_)
          | (refine And.intro (PlanOK.mk (by kernel_rfl) rfl (by kernel_rfl) (by kernel_rfl)) ?_)
          | (refine And.intro rfl (Exists.intro _ (And.intro (by first | assumption | rfl) ?_)))
          | (refine And.intro ⟨rfl, rfl, rfl⟩ ?_)
          | (refine call_ro [.o 0] (hasR_is l _ x.id false (by omega) hh) GG_no rfl rfl rfl ⟨⟨_, rfl, rfl, rfl⟩, trivial⟩ ?_; rintro r bs' ext ⟨rfl, rfl⟩)
          | (refine And.intro ⟨rfl, by rw [List.length_map]; omega⟩ ?_)
          | (refine And.intro ⟨rfl, rfl, rfl, by rw [List.length_map]⟩ ?_)
          | (refine And.intro ⟨rfl, by rw [List.length_map]; omega⟩ ?_)
          | (refine And.intro (by first | omega | (dsimp only; omega) | exact ⟨rfl, Nat.le_refl _⟩) ?_)
          | (intro cap' hcap')
          | (refine And.intro (by omega) ?_)
          | (refine BB.mk (fun _h => ?_) (fun _h => ?_) <;> (first | (exact absurd _h (by decide)) | (exfalso; simp only [boolSet] at _h <;> omega) | skip)))
        all_goals (try conv => whnf)
        refine loop_rule (α := Nat × Nat) (fun p => p.1 ≤ l.length ∧ (insK l x j p.1).length ≤ p.2) (fun p => { slots := [(0, .s (.o 0) 5 0 l.length cap), (4, .p (.n 0) 0 0 0), (8, .s (.n 1) 5 0 (insK l x j p.1).length p.2), (9, .v (.bool (decide (j < p.1)))), (10, .v (.int .i64 p.1))], nt := 67, mem := ⟨GG, [.ro 5 (l.map askC)], [.box 28 [.v (.int .u8 x.id.n), .v (.int .u16 x.id.i), .v (.int .u32 x.id.s), .v (.int .u8 x.fr), .v (.int .u8 x.lf)], .row 28 5 p.2 ((insK l x j p.1).map askC)]⟩ }) (fun p => l.length - p.1) (0, 0) ⟨Nat.zero_le _, by rw [insK_len (Nat.zero_le _), if_pos (Nat.zero_le _)]; exact Nat.le_refl _⟩ ⟨⟨[0, 1], (by decide), GG_no, rfl, (SubOld.refl _ rfl), ⟨rfl, .inl (.inl ⟨rfl, by dsimp only; rw [insK, if_pos (Nat.zero_le _)]; rfl⟩), trivial⟩, ⟨.inl rfl, .inl rfl, .inr ⟨_, _, _, by dsimp only; rw [insK_len (Nat.zero_le _), if_pos (Nat.zero_le _)], rfl⟩, .inl (bool_eq (decide_eq_false (Nat.not_lt_zero _)).symm), .inl rfl, trivial⟩⟩, rfl⟩ ?_ (fun _ => rfl)
        rintro ⟨k, c'⟩ ⟨hk, hc⟩
        dsimp only at hk hc ⊢
        have hKl := insK_len (x := x) (j := j) hk
        have hKb : (insK l x j k).length ≤ k + 1 := by rw [hKl]; split <;> omega
        refine vc_sound (C := seat) seat_ok (pl := [(12, (.of [(0, .take), (1, .take), (2, .take), (3, .take), (4, .take), (5, .take), (6, .take), (7, .take), (8, .take), (9, .take), (10, .do_), (11, .take)]))]) ?_
        by_cases hlt : k < l.length
        · obtain ⟨y, hy⟩ : ∃ y, l[k]? = some y := ⟨_, List.getElem?_eq_getElem hlt⟩
          have hrow := ask_at hy
          rcases Nat.lt_trichotomy k j with hkj | hkj | hkj
          · have hless := find_lt hy (by rw [← hj]; exact hkj)
            have hd : decide (j < k) = false := decide_eq_false (by omega)
            have hd1 : decide (j < k + 1) = false := decide_eq_false (by omega)
            rw [hd]
            have hi := insK_lt (x := x) hy hkj
            repeat' ((try conv => whnf); first
              | (with_reducible refine OKv.go (C := seat) seat_ok ?_)
              | (with_reducible refine BB_true ?_)
              | (with_reducible refine BB_false ?_)
              | (with_reducible refine Both.mk ?_ ?_)
              | (with_reducible refine VS.mk ?_)
              | (refine PSem.go (C := seat) seat_ok ?_)
              | (refine And.intro (PlanOK.mk (by kernel_rfl) rfl (by kernel_rfl) (by kernel_rfl)) ?_)
              | (refine And.intro rfl (Exists.intro _ (And.intro (by first | assumption | rfl) ?_)))
              | (refine And.intro ⟨rfl, rfl, rfl⟩ ?_)
              | (refine call_ro [] (less_is x.id y.id false hless) GG_no rfl rfl rfl trivial ?_; rintro r bs' ext ⟨rfl, rfl⟩)
              | (refine And.intro ⟨rfl, rfl, rfl, by rw [List.length_map]⟩ ?_)
              | (refine And.intro ⟨rfl, by rw [List.length_map]; omega⟩ ?_)
              | (refine And.intro (by first | omega | (dsimp only; omega) | exact ⟨rfl, Nat.le_refl _⟩) ?_)
              | (intro cap' hcap')
              | (refine And.intro (by omega) ?_)
              | (refine BB.mk (fun _h => ?_) (fun _h => ?_) <;> (first | (exact absurd _h (by decide)) | (exfalso; simp only [boolSet] at _h <;> omega) | skip)))
            all_goals (try conv => whnf)
            refine ⟨(k + 1, cap'), ⟨by dsimp only; omega, ?_⟩, by dsimp only; omega, ⟨⟨[0, 3], by decide, GG_no, rfl, SubOld.refl _ rfl, ⟨rfl, .inr ?_, trivial⟩, ⟨.inl rfl, .inl rfl, .inl ?_, .inl (bool_eq hd1.symm), .inl (num_eq (by rw [IntKind.wrap_i64]; dsimp only; omega)), trivial⟩⟩, rfl⟩⟩
            · dsimp only
              rw [hi, List.length_append]
              simpa using hcap'
            · dsimp only
              rw [hi, List.map_append]
              rfl
            · dsimp only
              rw [hi, List.length_append]
              rfl
          · subst hkj
            have hless := find_eq hy hj
            have hd : decide (k < k) = false := decide_eq_false (by omega)
            have hd1 : decide (k < k + 1) = true := decide_eq_true (by omega)
            rw [hd]
            have hi := insK_eq (x := x) hy
            rw [if_pos (Nat.le_refl _)] at hKl
            repeat' ((try conv => whnf); first
              | (with_reducible refine OKv.go (C := seat) seat_ok ?_)
              | (with_reducible refine BB_true ?_)
              | (with_reducible refine BB_false ?_)
              | (with_reducible refine Both.mk ?_ ?_)
              | (with_reducible refine VS.mk ?_)
              | (refine PSem.go (C := seat) seat_ok ?_)
              | (refine And.intro (PlanOK.mk (by kernel_rfl) rfl (by kernel_rfl) (by kernel_rfl)) ?_)
              | (refine And.intro rfl (Exists.intro _ (And.intro (by first | assumption | rfl) ?_)))
              | (refine And.intro ⟨rfl, rfl, rfl⟩ ?_)
              | (refine call_ro [] (less_is x.id y.id true hless) GG_no rfl rfl rfl trivial ?_; rintro r bs' ext ⟨rfl, rfl⟩)
              | (refine And.intro ⟨rfl, rfl, rfl, by rw [List.length_append, List.length_map]; rfl⟩ ?_)
              | (refine And.intro ⟨rfl, rfl, rfl, by rw [List.length_map]⟩ ?_)
              | (refine And.intro ⟨rfl, by rw [List.length_map]; omega⟩ ?_)
              | (refine And.intro (by first | omega | (dsimp only; omega) | exact ⟨rfl, Nat.le_refl _⟩) ?_)
              | (intro cap' hcap')
              | (refine And.intro (by omega) ?_)
              | (refine BB.mk (fun _h => ?_) (fun _h => ?_) <;> (first | (exact absurd _h (by decide)) | (exfalso; simp only [boolSet] at _h <;> omega) | skip)))
            all_goals (try conv => whnf)
            refine ⟨(k + 1, cap'), ⟨by dsimp only; omega, ?_⟩, by dsimp only; omega, ⟨⟨[0, 5], by decide, GG_no, rfl, SubOld.refl _ rfl, ⟨rfl, .inr ?_, trivial⟩, ⟨.inl rfl, .inl rfl, .inl ?_, .inl (bool_eq hd1.symm), .inl (num_eq (by rw [IntKind.wrap_i64]; dsimp only; omega)), trivial⟩⟩, rfl⟩⟩
            · dsimp only
              rw [hi, List.length_append, List.length_append]
              simpa using hcap'
            · dsimp only
              rw [hi, List.map_append, List.map_append]
              rfl
            · dsimp only
              rw [hi, List.length_append, List.length_append]
              rfl
          · have hd : decide (j < k) = true := decide_eq_true hkj
            have hd1 : decide (j < k + 1) = true := decide_eq_true (by omega)
            rw [hd]
            have hi := insK_gt (x := x) hy hkj
            repeat' ((try conv => whnf); first
              | (with_reducible refine OKv.go (C := seat) seat_ok ?_)
              | (with_reducible refine BB_true ?_)
              | (with_reducible refine BB_false ?_)
              | (with_reducible refine Both.mk ?_ ?_)
              | (with_reducible refine VS.mk ?_)
              | (refine PSem.go (C := seat) seat_ok ?_)
              | (refine And.intro (PlanOK.mk (by kernel_rfl) rfl (by kernel_rfl) (by kernel_rfl)) ?_)
              | (refine And.intro rfl (Exists.intro _ (And.intro (by first | assumption | rfl) ?_)))
              | (refine And.intro ⟨rfl, rfl, rfl⟩ ?_)
              | (refine And.intro ⟨rfl, rfl, rfl, by rw [List.length_map]⟩ ?_)
              | (refine And.intro ⟨rfl, by rw [List.length_map]; omega⟩ ?_)
              | (refine And.intro (by first | omega | (dsimp only; omega) | exact ⟨rfl, Nat.le_refl _⟩) ?_)
              | (intro cap' hcap')
              | (refine And.intro (by omega) ?_)
              | (refine BB.mk (fun _h => ?_) (fun _h => ?_) <;> (first | (exact absurd _h (by decide)) | (exfalso; simp only [boolSet] at _h <;> omega) | skip)))
            all_goals (try conv => whnf)
            refine ⟨(k + 1, cap'), ⟨by dsimp only; omega, ?_⟩, by dsimp only; omega, ⟨⟨[0, 3], by decide, GG_no, rfl, SubOld.refl _ rfl, ⟨rfl, .inr ?_, trivial⟩, ⟨.inl rfl, .inl rfl, .inl ?_, .inl (bool_eq hd1.symm), .inl (num_eq (by rw [IntKind.wrap_i64]; dsimp only; omega)), trivial⟩⟩, rfl⟩⟩
            · dsimp only
              rw [hi, List.length_append]
              simpa using hcap'
            · dsimp only
              rw [hi, List.map_append]
              rfl
            · dsimp only
              rw [hi, List.length_append]
              rfl
        · obtain rfl : k = l.length := by omega
          by_cases hjk : j < l.length
          · have hd : decide (j < l.length) = true := decide_eq_true hjk
            rw [hd]
            have he : insK l x j l.length = insF l x := by
              rw [insK, if_neg (by omega), List.take_of_length_le (Nat.le_refl _), insF, ← hj]
            rw [he] at hc ⊢
            repeat' ((try conv => whnf); first
              | (with_reducible refine OKv.go (C := seat) seat_ok ?_)
              | (with_reducible refine BB_true ?_)
              | (with_reducible refine BB_false ?_)
              | (with_reducible refine Both.mk ?_ ?_)
              | (with_reducible refine VS.mk ?_)
              | (refine PSem.go (C := seat) seat_ok ?_)
              | (refine And.intro (PlanOK.mk (by kernel_rfl) rfl (by kernel_rfl) (by kernel_rfl)) ?_)
              | (refine And.intro rfl (Exists.intro _ (And.intro (by first | assumption | rfl) ?_)))
              | (refine And.intro ⟨rfl, rfl, rfl⟩ ?_)
              | (refine And.intro ⟨rfl, rfl, rfl, by rw [List.length_map]⟩ ?_)
              | (refine And.intro ⟨rfl, by rw [List.length_map]; omega⟩ ?_)
              | (refine And.intro (by first | omega | (dsimp only; omega) | exact ⟨rfl, Nat.le_refl _⟩) ?_)
              | (intro cap' hcap')
              | (refine And.intro (by omega) ?_)
              | (refine BB.mk (fun _h => ?_) (fun _h => ?_) <;> (first | (exact absurd _h (by decide)) | (exfalso; simp only [boolSet] at _h <;> omega) | skip)))
            all_goals (try conv => whnf)
            exact ⟨⟨[1], .tup [.s (.n 0) 5 0 (insF l x).length c', .v (.int .i64 0)], [.row 28 5 c' ((insF l x).map askC)], by decide, .inr ⟨_, _, rfl, rfl, .inl rfl, .inl rfl, trivial⟩, ⟨.inr rfl, trivial⟩, c', hc, rfl, rfl⟩, rfl⟩
          · have hd : decide (j < l.length) = false := decide_eq_false hjk
            rw [hd]
            have hjl2 : j = l.length := by omega
            have he : insK l x j l.length = l := by rw [insK, if_pos (by omega), List.take_of_length_le (Nat.le_refl _)]
            have hf : insF l x = l ++ [x] := by
              rw [insF, ← hj, hjl2, List.take_of_length_le (Nat.le_refl _), List.drop_of_length_le (Nat.le_refl _)]
            rw [he] at hc ⊢
            repeat' ((try conv => whnf); first
              | (with_reducible refine OKv.go (C := seat) seat_ok ?_)
              | (with_reducible refine BB_true ?_)
              | (with_reducible refine BB_false ?_)
              | (with_reducible refine Both.mk ?_ ?_)
              | (with_reducible refine VS.mk ?_)
              | (refine PSem.go (C := seat) seat_ok ?_)
              | (refine And.intro (PlanOK.mk (by kernel_rfl) rfl (by kernel_rfl) (by kernel_rfl)) ?_)
              | (refine And.intro rfl (Exists.intro _ (And.intro (by first | assumption | rfl) ?_)))
              | (refine And.intro ⟨rfl, rfl, rfl⟩ ?_)
              | (refine And.intro ⟨rfl, rfl, rfl, by rw [List.length_map]⟩ ?_)
              | (refine And.intro ⟨rfl, by rw [List.length_map]; omega⟩ ?_)
              | (refine And.intro (by first | omega | (dsimp only; omega) | exact ⟨rfl, Nat.le_refl _⟩) ?_)
              | (intro cap' hcap')
              | (refine And.intro (by omega) ?_)
              | (refine BB.mk (fun _h => ?_) (fun _h => ?_) <;> (first | (exact absurd _h (by decide)) | (exfalso; simp only [boolSet] at _h <;> omega) | skip)))
            all_goals (try conv => whnf)
            refine ⟨⟨[3], .tup [.s (.n 0) 5 0 (l.length + 1) cap', .v (.int .i64 0)], [.row 28 5 cap' ((insF l x).map askC)], by decide, .inr ⟨_, _, rfl, rfl, .inl rfl, .inl rfl, trivial⟩, ⟨.inr ?_, trivial⟩, cap', ?_, ?_, rfl⟩, rfl⟩
            · rw [hf, List.map_append]; rfl
            · (try dsimp only); rw [hf, List.length_append]; exact hcap'
            · (try dsimp only); rw [hf, List.length_append]; rfl
end Go.Proofs.Ytcjcnlahieddoaa
