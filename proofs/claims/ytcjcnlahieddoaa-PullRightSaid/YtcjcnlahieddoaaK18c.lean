/- Package pull, by computing: what may be asked of a list. -/
import Derived.Test.YtcjcnlahieddoaaK18b
namespace Go.Proofs.Ytcjcnlahieddoaa
open Go.RowKit

abbrev idsL (l : List Ask_) : List Id_ := l.map (·.id)
theorem ids_is (l : List Ask_) (cap : Nat) (hl : l.length ≤ 1099511627776) : FnOK Try.prog GG 28 [.ro 5 (l.map askC)] [.s (.o 0) 5 0 l.length cap] (fun r _ ext => ∃ cap, l.length ≤ cap ∧ r = .s (.n 0) 3 0 (idsL l).length cap ∧ ext = [.row 26 3 cap ((idsL l).map idC)]) :=
  (ids_ok l cap hl).mono fun r _ ext ⟨c, h0, h1, h2⟩ => ⟨c, h0, by rw [h1, List.length_map], h2⟩
theorem idsL_len (l : List Ask_) : (idsL l).length = l.length := List.length_map _
def rightA (l : List Ask_) (most : Int) : Bool := decide (0 ≤ most) && decide ((l.length : Int) ≤ most) && l.all (fun a => decide (0 < a.lf)) && risingB (idsL l)
theorem filter_all {α : Type} (q : α → Bool) (l : List α) : ((l.filter q).length = l.length) ↔ l.all q = true := by
  rw [List.length_filter_eq_length_iff, List.all_eq_true]
set_option maxRecDepth 100000 in
set_option maxHeartbeats 4000000 in
theorem rightA_ok (l : List Ask_) (cap : Nat) (most : Int) (hl : l.length ≤ 1099511627776) : FnOK Try.prog GG 9 [.ro 5 (l.map askC)] [.s (.o 0) 5 0 l.length cap, .v (.int .i64 most)] (fun r _ ext => r = .v (.bool (rightA l most)) ∧ ext = []) := by
  have hfa := filter_all (fun a : Ask_ => decide (0 < a.lf)) l
  refine fn_val (C := seat) seat_ok [] GG_no (Try.func9) rfl rfl rfl rfl rfl (fun _ => rfl) rfl ?_
  repeat' ((try conv => whnf); first
    | (with_reducible refine OKv.go (C := seat) seat_ok ?_)
    | (with_reducible refine BB_true ?_)
    | (with_reducible refine BB_false ?_)
    | (with_reducible refine Both.mk ?_ ?_)
    | (with_reducible refine VS.mk ?_)
    | (refine PSem.go (C := seat) seat_ok ?_)
    | (refine And.intro (PlanOK.mk (by kernel_rfl) rfl (by kernel_rfl) (by kernel_rfl)) ?_)
    | (refine And.intro rfl (Exists.intro _ (And.intro (by first | assumption | rfl) ?_)))
    | (refine And.intro ⟨rfl, rfl, rfl⟩ ?_)
    | (refine call_ro [.o 0] (keep_n l 27 cap _ hl right1_ok) GG_no rfl rfl rfl ⟨⟨_, rfl, rfl, rfl⟩, trivial⟩ ?_; rintro r bs' ext ⟨ca, hca, rfl, rfl⟩)
    | (refine call_ro [.o 0] (ids_is l _ hl) GG_no rfl rfl rfl ⟨⟨_, rfl, rfl, rfl⟩, trivial⟩ ?_; rintro r bs' ext ⟨cb, hcb, rfl, rfl⟩)
    | (refine call_ro [_] (rising_p (idsL l) _ (by rw [idsL_len]; exact hl)) GG_no rfl rfl rfl ⟨⟨_, rfl, rfl, rfl⟩, trivial⟩ ?_; rintro r bs' ext ⟨rfl, rfl⟩)
    | (refine And.intro (by omega) ?_)
    | (refine BB.mk (fun _h => ?_) (fun _h => ?_) <;> (first | (exact absurd _h (by decide)) | (exfalso; simp only [boolSet] at _h <;> omega) | skip)))
  all_goals (try conv => whnf)
  all_goals (try (refine Fin.mk ?_))
  all_goals
    refine ⟨bool_eq ?_, rfl⟩
    grind [rightA]
set_option maxRecDepth 100000 in
set_option maxHeartbeats 4000000 in
theorem hasA_ok (l : List Ask_) (cap : Nat) (x : Id_) (hl : l.length ≤ 1099511627776) : FnOK Try.prog GG 11 [.ro 5 (l.map askC)] [.s (.o 0) 5 0 l.length cap, idS x] (fun r _ ext => r = .v (.bool ((idsL l).any (fun y => eqB y x))) ∧ ext = []) := by
  refine fn_val (C := seat) seat_ok [(1, (.of [(0, .take), (2, .take), (1, .do_), (3, .do_), (4, .take)]))] GG_no (Try.func11) rfl rfl rfl rfl rfl (fun _ => rfl) rfl ?_
  repeat' ((try conv => whnf); first
    | (with_reducible refine OKv.go (C := seat) seat_ok ?_)
    | (with_reducible refine BB_true ?_)
    | (with_reducible refine BB_false ?_)
    | (with_reducible refine Both.mk ?_ ?_)
    | (with_reducible refine VS.mk ?_)
    | (refine PSem.go (C := seat) seat_ok ?_)
    | (refine And.intro (PlanOK.mk (by kernel_rfl) rfl (by kernel_rfl) (by kernel_rfl)) ?_)
    | (refine And.intro rfl (Exists.intro _ (And.intro (by first | assumption | rfl) ?_)))
    | (refine And.intro ⟨rfl, rfl, rfl⟩ ?_)
    | (refine call_ro [.o 0] (ids_is l _ hl) GG_no rfl rfl rfl ⟨⟨_, rfl, rfl, rfl⟩, trivial⟩ ?_; rintro r bs' ext ⟨cb, hcb, rfl, rfl⟩)
    | (refine call_ro [_] (has_p (idsL l) x _ (by rw [idsL_len]; exact hl)) GG_no rfl rfl rfl ⟨⟨_, rfl, rfl, rfl⟩, trivial⟩ ?_; rintro r bs' ext ⟨rfl, rfl⟩)
    | (refine And.intro (by omega) ?_)
    | (refine BB.mk (fun _h => ?_) (fun _h => ?_) <;> (first | (exact absurd _h (by decide)) | (exfalso; simp only [boolSet] at _h <;> omega) | skip)))
  all_goals (try conv => whnf)
  all_goals (try (refine Fin.mk ?_))
  all_goals (exact ⟨rfl, rfl⟩)
theorem hasA_is (l : List Ask_) (cap : Nat) (x : Id_) (b : Bool) (hl : l.length ≤ 1099511627776) (hb : ((idsL l).any (fun y => eqB y x)) = b) : FnOK Try.prog GG 11 [.ro 5 (l.map askC)] [.s (.o 0) 5 0 l.length cap, idS x] (fun r _ ext => r = .v (.bool b) ∧ ext = []) := by
  subst hb
  exact hasA_ok l cap x hl
theorem rightA_is (l : List Ask_) (cap : Nat) (most : Int) (b : Bool) (hl : l.length ≤ 1099511627776) (hb : rightA l most = b) : FnOK Try.prog GG 9 [.ro 5 (l.map askC)] [.s (.o 0) 5 0 l.length cap, .v (.int .i64 most)] (fun r _ ext => r = .v (.bool b) ∧ ext = []) := by
  subst hb
  exact rightA_ok l cap most hl
def dropA (l : List Ask_) (x : Id_) : List Ask_ := l.filter fun a => !eqB a.id x
set_option maxRecDepth 100000 in
set_option maxHeartbeats 4000000 in
theorem dropA_ok (l : List Ask_) (cap : Nat) (x : Id_) (hl : l.length ≤ 1099511627776) : FnOK Try.prog GG 18 [.ro 5 (l.map askC)] [.s (.o 0) 5 0 l.length cap, idS x] (fun r _ ext => ∃ cap, (dropA l x).length ≤ cap ∧ r = .s (.n 0) 5 0 (dropA l x).length cap ∧ ext = [.row 28 5 cap ((dropA l x).map askC)]) := by
  refine fn_newR (C := seat) seat_ok [] GG_no (Try.func18) rfl rfl rfl rfl rfl rfl ?_
  repeat' ((try conv => whnf); first
    | (with_reducible refine OKv.go (C := seat) seat_ok ?_)
    | (with_reducible refine BB_true ?_)
    | (with_reducible refine BB_false ?_)
    | (with_reducible refine Both.mk ?_ ?_)
    | (with_reducible refine VS.mk ?_)
    | (refine PSem.go (C := seat) seat_ok ?_)
    | (refine And.intro (PlanOK.mk (by kernel_rfl) rfl (by kernel_rfl) (by kernel_rfl)) ?_)
    | (refine And.intro rfl (Exists.intro _ (And.intro (by first | assumption | rfl) ?_)))
    | (refine And.intro ⟨rfl, rfl, rfl⟩ ?_)
    | (refine call_ro [.o 0, .n 0] (keep_c l 37 _ _ hl _ _ (drop1_ok x)) GG_no rfl rfl rfl ⟨⟨_, rfl, rfl, rfl⟩, ⟨_, rfl, _, rfl, rfl, rfl, rfl⟩, trivial⟩ ?_; rintro r bs' ext ⟨ca, hca, rfl, rfl⟩)
    | (refine And.intro (by omega) ?_)
    | (refine BB.mk (fun _h => ?_) (fun _h => ?_) <;> (first | (exact absurd _h (by decide)) | (exfalso; simp only [boolSet] at _h <;> omega) | skip)))
  all_goals (try conv => whnf)
  exact ⟨⟨[1], .s (.n 0) 5 0 (dropA l x).length ca, [.row 28 5 ca ((dropA l x).map askC)], by decide, .inl (.inl rfl), ⟨.inr rfl, trivial⟩, ca, hca, rfl, rfl⟩, rfl⟩
def insA (l : List Ask_) (x : Ask_) : List Ask_ := l.filter (fun a => lessB a.id x.id) ++ x :: l.filter (fun a => !lessB a.id x.id)
def addR (l : List Ask_) (x : Ask_) (most : Int) : List Ask_ × Int :=
  if x.lf = 0 then (l, 2) else if (idsL l).any (fun y => eqB y x.id) then (l, 150) else if most ≤ l.length then (l, 52) else (insA l x, 0)
set_option maxRecDepth 100000 in
set_option maxHeartbeats 4000000 in
theorem addA_ok (l : List Ask_) (cap : Nat) (x : Ask_) (most : Int) (hc : l.length ≤ cap) (hl : l.length ≤ 400000000000) : FnOK Try.prog GG 13 [.ro 5 (l.map askC)] [.s (.o 0) 5 0 l.length cap, askS x, .v (.int .i64 most)] (fun r _ ext => ∃ cap, (addR l x most).1.length ≤ cap ∧ r = .tup [.s (.n 0) 5 0 (addR l x most).1.length cap, .v (.int .i64 (addR l x most).2)] ∧ ext = [.row 28 5 cap ((addR l x most).1.map askC)]) := by
  by_cases h0 : x.lf = 0
  · have e : addR l x most = (l, 2) := if_pos h0
    rw [e]
    refine fn_newR (C := seat) seat_ok [] GG_no (Try.func13) rfl rfl rfl rfl rfl rfl ?_
    repeat' ((try conv => whnf); first
      | (with_reducible refine OKv.go (C := seat) seat_ok ?_)
      | (with_reducible refine BB_true ?_)
      | (with_reducible refine BB_false ?_)
      | (with_reducible refine Both.mk ?_ ?_)
      | (with_reducible refine VS.mk ?_)
      | (refine PSem.go (C := seat) seat_ok ?_)
      | (refine And.intro (PlanOK.mk (by kernel_rfl) rfl (by kernel_rfl) (by kernel_rfl)) ?_)
      | (refine And.intro rfl (Exists.intro _ (And.intro (by first | assumption | rfl) ?_)))
      | (refine And.intro ⟨rfl, rfl, rfl⟩ ?_)
      | (refine call_ro [.o 0] (clone_ok l cap hc (by omega)) GG_no rfl rfl rfl ⟨⟨_, rfl, rfl, rfl⟩, trivial⟩ ?_; rintro r bs' ext ⟨cl, hcl, rfl, rfl⟩)
      | (refine call_ro [.o 0] (hasA_is l _ x.id true (by omega) hh) GG_no rfl rfl rfl ⟨⟨_, rfl, rfl, rfl⟩, trivial⟩ ?_; rintro r bs' ext ⟨rfl, rfl⟩)
      | (refine And.intro (by omega) ?_)
      | (refine BB.mk (fun _h => ?_) (fun _h => ?_) <;> (first | (exact absurd _h (by decide)) | (exfalso; simp only [boolSet] at _h <;> omega) | skip)))
    all_goals (try conv => whnf)
    all_goals (first
      | (exfalso; simp only [boolSet] at * <;> omega)
      | skip)
    exact ⟨⟨[1], .tup [.s (.n 0) 5 0 l.length cl, .v (.int .i64 2)], [.row 28 5 cl (l.map askC)], by decide, .inr ⟨_, _, rfl, rfl, .inl rfl, .inl rfl, trivial⟩, ⟨.inr rfl, trivial⟩, cl, hcl, rfl, rfl⟩, rfl⟩
  · cases hh : (idsL l).any (fun y => eqB y x.id) with
    | true =>
      have e : addR l x most = (l, 150) := by simp [addR, h0, hh]
      rw [e]
      refine fn_newR (C := seat) seat_ok [] GG_no (Try.func13) rfl rfl rfl rfl rfl rfl ?_
      repeat' ((try conv => whnf); first
        | (with_reducible refine OKv.go (C := seat) seat_ok ?_)
        | (with_reducible refine BB_true ?_)
        | (with_reducible refine BB_false ?_)
        | (with_reducible refine Both.mk ?_ ?_)
        | (with_reducible refine VS.mk ?_)
        | (refine PSem.go (C := seat) seat_ok ?_)
        | (refine And.intro (PlanOK.mk (by kernel_rfl) rfl (by kernel_rfl) (by kernel_rfl)) ?_)
        | (refine And.intro rfl (Exists.intro _ (And.intro (by first | assumption | rfl) ?_)))
        | (refine And.intro ⟨rfl, rfl, rfl⟩ ?_)
        | (refine call_ro [.o 0] (clone_ok l cap hc (by omega)) GG_no rfl rfl rfl ⟨⟨_, rfl, rfl, rfl⟩, trivial⟩ ?_; rintro r bs' ext ⟨cl, hcl, rfl, rfl⟩)
        | (refine call_ro [.o 0] (hasA_is l _ x.id true (by omega) hh) GG_no rfl rfl rfl ⟨⟨_, rfl, rfl, rfl⟩, trivial⟩ ?_; rintro r bs' ext ⟨rfl, rfl⟩)
        | (refine And.intro (by omega) ?_)
        | (refine BB.mk (fun _h => ?_) (fun _h => ?_) <;> (first | (exact absurd _h (by decide)) | (exfalso; simp only [boolSet] at _h <;> omega) | skip)))
      all_goals (try conv => whnf)
      exact ⟨⟨[1], .tup [.s (.n 0) 5 0 l.length cl, .v (.int .i64 150)], [.row 28 5 cl (l.map askC)], by decide, .inr ⟨_, _, rfl, rfl, .inl rfl, .inl rfl, trivial⟩, ⟨.inr rfl, trivial⟩, cl, hcl, rfl, rfl⟩, rfl⟩
    | false =>
      by_cases hm : most ≤ l.length
      · have e : addR l x most = (l, 52) := by simp only [addR, if_neg h0, hh, if_pos hm]; rfl
        rw [e]
        refine fn_newR (C := seat) seat_ok [] GG_no (Try.func13) rfl rfl rfl rfl rfl rfl ?_
        repeat' ((try conv => whnf); first
          | (with_reducible refine OKv.go (C := seat) seat_ok ?_)
          | (with_reducible refine BB_true ?_)
          | (with_reducible refine BB_false ?_)
          | (with_reducible refine Both.mk ?_ ?_)
          | (with_reducible refine VS.mk ?_)
          | (refine PSem.go (C := seat) seat_ok ?_)
          | (refine And.intro (PlanOK.mk (by kernel_rfl) rfl (by kernel_rfl) (by kernel_rfl)) ?_)
          | (refine And.intro rfl (Exists.intro _ (And.intro (by first | assumption | rfl) ?_)))
          | (refine And.intro ⟨rfl, rfl, rfl⟩ ?_)
          | (refine call_ro [.o 0] (clone_ok l cap hc (by omega)) GG_no rfl rfl rfl ⟨⟨_, rfl, rfl, rfl⟩, trivial⟩ ?_; rintro r bs' ext ⟨cl, hcl, rfl, rfl⟩)
          | (refine call_ro [.o 0] (hasA_is l _ x.id false (by omega) hh) GG_no rfl rfl rfl ⟨⟨_, rfl, rfl, rfl⟩, trivial⟩ ?_; rintro r bs' ext ⟨rfl, rfl⟩)
          | (refine And.intro (by omega) ?_)
          | (refine BB.mk (fun _h => ?_) (fun _h => ?_) <;> (first | (exact absurd _h (by decide)) | (exfalso; simp only [boolSet] at _h <;> omega) | skip)))
        all_goals (try conv => whnf)
        exact ⟨⟨[1], .tup [.s (.n 0) 5 0 l.length cl, .v (.int .i64 52)], [.row 28 5 cl (l.map askC)], by decide, .inr ⟨_, _, rfl, rfl, .inl rfl, .inl rfl, trivial⟩, ⟨.inr rfl, trivial⟩, cl, hcl, rfl, rfl⟩, rfl⟩
      · have e : addR l x most = (insA l x, 0) := by simp only [addR, if_neg h0, hh, if_neg hm]; rfl
        rw [e]
        refine fn_newR (C := seat) seat_ok [] GG_no (Try.func13) rfl rfl rfl rfl rfl rfl ?_
        repeat' ((try conv => whnf); first
          | (with_reducible refine OKv.go (C := seat) seat_ok ?_)
          | (with_reducible refine BB_true ?_)
          | (with_reducible refine BB_false ?_)
          | (with_reducible refine Both.mk ?_ ?_)
          | (with_reducible refine VS.mk ?_)
          | (refine PSem.go (C := seat) seat_ok ?_)
          | (refine And.intro (PlanOK.mk (by kernel_rfl) rfl (by kernel_rfl) (by kernel_rfl)) ?_)
          | (refine And.intro rfl (Exists.intro _ (And.intro (by first | assumption | rfl) ?_)))
          | (refine And.intro ⟨rfl, rfl, rfl⟩ ?_)
          | (refine call_ro [.o 0] (clone_ok l cap hc (by omega)) GG_no rfl rfl rfl ⟨⟨_, rfl, rfl, rfl⟩, trivial⟩ ?_; rintro r bs' ext ⟨cl, hcl, rfl, rfl⟩)
          | (refine call_ro [.o 0] (hasA_is l _ x.id false (by omega) hh) GG_no rfl rfl rfl ⟨⟨_, rfl, rfl, rfl⟩, trivial⟩ ?_; rintro r bs' ext ⟨rfl, rfl⟩)
          | (refine call_ro [.o 0, .n 0] (keep_c l 31 _ _ (by omega) _ _ (add1_ok x)) GG_no rfl rfl rfl ⟨⟨_, rfl, rfl, rfl⟩, ⟨_, rfl, _, rfl, rfl, rfl, rfl⟩, trivial⟩ ?_; rintro r bs' ext ⟨ca, hca, rfl, rfl⟩)
          | (refine call_ro [.o 0, .n 0] (keep_c l 33 _ _ (by omega) _ _ (add2_ok x)) GG_no rfl rfl rfl ⟨⟨_, rfl, rfl, rfl⟩, ⟨_, rfl, _, rfl, rfl, rfl, rfl⟩, trivial⟩ ?_; rintro r bs' ext ⟨cb, hcb, rfl, rfl⟩)
          | (refine And.intro (by omega) ?_)
          | (refine BB.mk (fun _h => ?_) (fun _h => ?_) <;> (first | (exact absurd _h (by decide)) | (exfalso; simp only [boolSet] at _h <;> omega) | skip)))
        all_goals (try conv => whnf)
        refine call_same [.n 4, .n 1, .n 3, .n 2] (concatA_ok (l.filter fun a => lessB a.id x.id) (l.filter fun a => !lessB a.id x.id) x _ _ _ ?_) GG_no rfl rfl rfl ⟨⟨_, rfl, .inr ⟨(fun x h => by cases h), rfl⟩⟩, ⟨_, rfl, .inl ⟨rfl, rfl⟩⟩, ⟨_, rfl, .inl ⟨rfl, rfl⟩⟩, ⟨_, rfl, .inl ⟨rfl, rfl⟩⟩, trivial⟩ (by decide) ?_
        · have h1 := List.length_filter_le (fun a : Ask_ => lessB a.id x.id) l
          have h2 := List.length_filter_le (fun a : Ask_ => !lessB a.id x.id) l
          omega
        rintro r bs' ext ⟨rfl, cap', hcap', rfl, rfl⟩
        refine ⟨rfl, ?_⟩
        repeat' ((try conv => whnf); first
          | (with_reducible refine OKv.go (C := seat) seat_ok ?_)
          | (with_reducible refine BB_true ?_)
          | (with_reducible refine BB_false ?_)
          | (with_reducible refine Both.mk ?_ ?_)
          | (with_reducible refine VS.mk ?_)
          | (refine PSem.go (C := seat) seat_ok ?_)
          | (refine And.intro (PlanOK.mk (by kernel_rfl) rfl (by kernel_rfl) (by kernel_rfl)) ?_)
          | (refine And.intro rfl (Exists.intro _ (And.intro (by first | assumption | rfl) ?_)))
          | (refine And.intro ⟨rfl, rfl, rfl⟩ ?_)
          | (refine And.intro (by omega) ?_)
          | (refine BB.mk (fun _h => ?_) (fun _h => ?_) <;> (first | (exact absurd _h (by decide)) | (exfalso; simp only [boolSet] at _h <;> omega) | skip)))
        all_goals (try conv => whnf)
        have e : (insA l x).length = (l.filter fun a => lessB a.id x.id).length + 1 + (l.filter fun a => !lessB a.id x.id).length := by simp [insA]; omega
        refine ⟨⟨[5], .tup [.s (.n 0) 5 0 ((l.filter fun a => lessB a.id x.id).length + 1 + (l.filter fun a => !lessB a.id x.id).length) cap', .v (.int .i64 0)], [.row 28 5 cap' ((insA l x).map askC)], by decide, .inr ⟨_, _, rfl, rfl, .inl rfl, .inl rfl, trivial⟩, ⟨.inr rfl, trivial⟩, cap', by dsimp only; omega, by dsimp only; rw [e], rfl⟩, rfl⟩
def decA (a : Ask_) : Ask_ := ⟨a.id, a.fr, a.lf - 1⟩
def keepT (l : List Ask_) : List Ask_ := l.filter fun a => decide (1 < a.lf)
def tickL (l : List Ask_) : List Ask_ := (keepT l).map decA
def goneL (l : List Ask_) : List Id_ := idsL (l.filter fun a => decide (a.lf ≤ 1))
def midL (K : List Ask_) (k : Nat) : List Ask_ := (K.take k).map decA ++ K.drop k
theorem midL_len (K : List Ask_) (k : Nat) (h : k ≤ K.length) : (midL K k).length = K.length := by
  simp [midL]; omega
theorem mid_at {K : List Ask_} {k : Nat} {y : Ask_} (h : K[k]? = some y) : (midL K k)[k]? = some y := by
  have hk := getElem?_lt h
  rw [midL, List.getElem?_append_right (by simp; omega), List.length_map, List.length_take, List.getElem?_drop, show min k K.length = k by omega, show k + (k - k) = k by omega, h]
theorem mid_set {K : List Ask_} {k : Nat} {y : Ask_} (h : K[k]? = some y) : (midL K k).set k (decA y) = midL K (k + 1) := by
  have hk := getElem?_lt h
  have e : (List.map decA (K.take k)).length = k := by rw [List.length_map, List.length_take]; omega
  rw [midL, List.set_append_right _ _ (by omega), e, Nat.sub_self, List.drop_eq_getElem_cons hk, List.set_cons_zero, midL, List.take_add_one, h, List.map_append]
  simp
theorem mid_row {K : List Ask_} {k : Nat} {y : Ask_} (h : K[k]? = some y) {z : Int} (hz : z = y.lf - 1) : ((midL K k).map askC).set (0 + (k : Int).toNat) [.int .u8 y.id.n, .int .u16 y.id.i, .int .u32 y.id.s, .int .u8 y.fr, .int .u8 z] = (midL K (k + 1)).map askC := by
  rw [← mid_set h, List.map_set, Nat.zero_add, Int.toNat_natCast, hz]
  rfl
set_option maxRecDepth 100000 in
set_option maxHeartbeats 4000000 in
theorem tickA_ok (l : List Ask_) (cap : Nat) (hl : l.length ≤ 1099511620000) (hok : ∀ y ∈ l, y.ok) : FnOK Try.prog GG 15 [.ro 5 (l.map askC)] [.s (.o 0) 5 0 l.length cap] (fun r _ ext => ∃ c1 c2, (tickL l).length ≤ c1 ∧ (goneL l).length ≤ c2 ∧ r = .tup [.s (.n 0) 5 0 (tickL l).length c1, .s (.n 1) 3 0 (goneL l).length c2] ∧ ext = [.row 28 5 c1 ((tickL l).map askC), .row 26 3 c2 ((goneL l).map idC)]) := by
  refine fn_newR (C := seat) seat_ok [] GG_no (Try.func15) rfl rfl rfl rfl rfl rfl ?_
  repeat' ((try conv => whnf); first
    | (with_reducible refine OKv.go (C := seat) seat_ok ?_)
    | (with_reducible refine BB_true ?_)
    | (with_reducible refine BB_false ?_)
    | (with_reducible refine Both.mk ?_ ?_)
    | (with_reducible refine VS.mk ?_)
    | (refine PSem.go (C := seat) seat_ok ?_)
    | (refine And.intro (PlanOK.mk (by kernel_rfl) rfl (by kernel_rfl) (by kernel_rfl)) ?_)
    | (refine And.intro rfl (Exists.intro _ (And.intro (by first | assumption | rfl) ?_)))
    | (refine And.intro ⟨rfl, rfl, rfl⟩ ?_)
    | (refine call_ro [.o 0] (keep_n l 35 cap _ (by omega) tick1_ok) GG_no rfl rfl rfl ⟨⟨_, rfl, rfl, rfl⟩, trivial⟩ ?_; rintro r bs' ext ⟨ca, hca, rfl, rfl⟩)
    | (refine And.intro (by omega) ?_)
    | (refine BB.mk (fun _h => ?_) (fun _h => ?_) <;> (first | (exact absurd _h (by decide)) | (exfalso; simp only [boolSet] at _h <;> omega) | skip)))
  all_goals (try conv => whnf)
  refine loop_rule (α := Nat) (fun k => k ≤ (keepT l).length) (fun k => { slots := [(0, .s (.o 0) 5 0 l.length cap), (4, .s (.n 0) 5 0 (keepT l).length ca), (9, .v (.int .i64 (keepT l).length)), (10, .v (.int .i64 (k : Int)))], nt := 26, mem := ⟨GG, [.ro 5 (l.map askC)], [.row 28 5 ca ((midL (keepT l) k).map askC)]⟩ }) (fun k => (keepT l).length - k) 0 (Nat.zero_le _) ⟨⟨[0], (by decide), GG_no, rfl, (SubOld.refl _ rfl), ⟨.inr rfl, trivial⟩, ⟨.inl rfl, .inl rfl, .inl rfl, .inl rfl, trivial⟩⟩, rfl⟩ ?_ (fun _ => rfl)
  rintro k hk
  have hkl : (keepT l).length ≤ l.length := List.length_filter_le _ _
  refine vc_sound (C := seat) seat_ok (pl := []) ?_
  by_cases hlt : k < (keepT l).length
  · obtain ⟨y, hy⟩ : ∃ y, (keepT l)[k]? = some y := ⟨_, List.getElem?_eq_getElem hlt⟩
    have hrow := ask_at (mid_at hy)
    have hym := List.mem_filter.1 (List.mem_of_getElem? hy)
    have hyl := hok y hym.1
    have h1 : 1 < y.lf := of_decide_eq_true hym.2
    have ew : IntKind.u8.wrap (y.lf - 1) = y.lf - 1 := by rw [IntKind.wrap_u8]; have := hyl.l1; omega
    repeat' ((try conv => whnf); first
      | (with_reducible refine OKv.go (C := seat) seat_ok ?_)
      | (with_reducible refine BB_true ?_)
      | (with_reducible refine BB_false ?_)
      | (with_reducible refine Both.mk ?_ ?_)
      | (with_reducible refine VS.mk ?_)
      | (refine PSem.go (C := seat) seat_ok ?_)
      | (refine And.intro (PlanOK.mk (by kernel_rfl) rfl (by kernel_rfl) (by kernel_rfl)) ?_)
      | (refine And.intro rfl (Exists.intro _ (And.intro (by first | assumption | rfl) ?_)))
      | (refine And.intro ⟨rfl, rfl, rfl⟩ ?_)
      | (refine And.intro (by omega) ?_)
      | (refine BB.mk (fun _h => ?_) (fun _h => ?_) <;> (first | (exact absurd _h (by decide)) | (exfalso; simp only [boolSet] at _h <;> omega) | skip)))
    all_goals (try conv => whnf)
    exact ⟨k + 1, by omega, by omega, ⟨⟨[0], by decide, GG_no, rfl, SubOld.refl _ rfl, ⟨.inr (congrArg (fun z => some (SB.row 28 5 ca z)) (mid_row hy ew)), trivial⟩, ⟨.inl rfl, .inl rfl, .inl rfl, .inl (num_eq (by rw [IntKind.wrap_i64]; omega)), trivial⟩⟩, rfl⟩⟩
  · obtain rfl : k = (keepT l).length := by omega
    have em : midL (keepT l) (keepT l).length = tickL l := by rw [midL, List.take_of_length_le (Nat.le_refl _), List.drop_eq_nil_of_le (Nat.le_refl _), List.append_nil]; rfl
    have el : (tickL l).length = (keepT l).length := List.length_map _
    have hg := List.length_filter_le (fun a : Ask_ => decide (a.lf ≤ 1)) l
    rw [em]
    repeat' ((try conv => whnf); first
      | (with_reducible refine OKv.go (C := seat) seat_ok ?_)
      | (with_reducible refine BB_true ?_)
      | (with_reducible refine BB_false ?_)
      | (with_reducible refine Both.mk ?_ ?_)
      | (with_reducible refine VS.mk ?_)
      | (refine PSem.go (C := seat) seat_ok ?_)
      | (refine And.intro (PlanOK.mk (by kernel_rfl) rfl (by kernel_rfl) (by kernel_rfl)) ?_)
      | (refine And.intro rfl (Exists.intro _ (And.intro (by first | assumption | rfl) ?_)))
      | (refine And.intro ⟨rfl, rfl, rfl⟩ ?_)
      | (refine call_ro [.o 0] (keep_n l 36 cap _ (by omega) tick2_ok) GG_no rfl rfl rfl ⟨⟨_, rfl, rfl, rfl⟩, trivial⟩ ?_; rintro r bs' ext ⟨cb, hcb, rfl, rfl⟩)
      | (refine call_ro [_] (ids_is _ _ (by omega)) GG_no rfl rfl rfl ⟨⟨_, rfl, rfl, rfl⟩, trivial⟩ ?_; rintro r bs' ext ⟨cd, hcd, rfl, rfl⟩)
      | (refine And.intro (by omega) ?_)
      | (refine BB.mk (fun _h => ?_) (fun _h => ?_) <;> (first | (exact absurd _h (by decide)) | (exfalso; simp only [boolSet] at _h <;> omega) | skip)))
    all_goals (try conv => whnf)
    refine ⟨⟨[0, 2], .tup [.s (.n 0) 5 0 (tickL l).length ca, .s (.n 1) 3 0 (goneL l).length cd], [.row 28 5 ca ((tickL l).map askC), .row 26 3 cd ((goneL l).map idC)], by decide, .inr ⟨_, _, rfl, rfl, .inl (by rw [el]; rfl), .inl rfl, trivial⟩, ⟨.inr rfl, .inr rfl, trivial⟩, ca, cd, by rw [el]; exact hca, ?_, rfl, rfl⟩, rfl⟩
    rw [goneL, idsL_len]
    exact hcd
end Go.Proofs.Ytcjcnlahieddoaa
