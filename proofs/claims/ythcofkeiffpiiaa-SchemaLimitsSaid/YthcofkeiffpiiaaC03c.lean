/- Package schema, by computing: copies, events. -/
import Derived.Test.YthcofkeiffpiiaaC03b
namespace Go.Proofs.Ythcofkeiffpiiaa
open Go.RowKit

set_option maxRecDepth 100000 in
set_option maxHeartbeats 4000000 in
theorem clone_i (l : List Int) (cap : Nat) (hc : l.length ≤ cap) (hl : l.length ≤ 1099511627776) : FnOK Try.prog GG 26 [.ro 1 (l.map iC)] [.s (.o 0) 1 0 l.length cap] (fun r _ ext => ∃ cap', l.length ≤ cap' ∧ r = .s (.n 0) 1 0 l.length cap' ∧ ext = [.row 21 1 cap' (l.map iC)]) := by
  refine fn_newR (C := seat) seat_ok [] GG_no (Try.func26) rfl rfl rfl rfl rfl rfl ?_
  repeat' ((try conv => whnf); first
    | (with_reducible refine BB_true ?_)
    | (with_reducible refine BB_false ?_)
    | (with_reducible refine Both.mk ?_ ?_)
    | (with_reducible refine VS.mk ?_)
    | (refine PSem.go (C := seat) seat_ok ?_)
    | (refine And.intro (PlanOK.mk (by kernel_rfl) rfl (by kernel_rfl) (by kernel_rfl)) ?_)
    | (refine And.intro rfl (Exists.intro _ (And.intro (by first | assumption | rfl) ?_)))
    | (refine And.intro ⟨rfl, rfl, rfl⟩ ?_)
    | (refine fun (b : Bool) hb => ?_)
    | (refine And.intro ⟨rfl, rfl, rfl, rfl⟩ ?_)
    | (refine And.intro ⟨rfl, by rw [List.length_map]; omega⟩ ?_)
    | (refine And.intro (by first | omega | (dsimp only; omega)) ?_)
    | (intro cap' hcap')
    | (refine And.intro (by omega) ?_)
    | (refine BB.mk (fun _h => ?_) (fun _h => ?_) <;> (first | (exact absurd _h (by decide)) | (exfalso; simp only [boolSet] at _h <;> omega) | skip)))
  all_goals (try conv => whnf)
  · have h0 : cap = 0 := by
      by_cases h : cap = 0
      · exact h
      · rw [hb h] at _h; cases _h
    have hl0 : l = [] := List.eq_nil_of_length_eq_zero (by omega)
    subst hl0
    exact ⟨⟨[0], .s (.n 0) 1 0 0 0, [.row 21 1 0 []], by decide, .inl (.inr ⟨_, _, _, rfl, rfl⟩), ⟨.inl (.inl ⟨rfl, rfl⟩), trivial⟩, 0, Nat.le_refl _, rfl, rfl⟩, rfl⟩
  · refine ⟨⟨[1], .s (.n 0) 1 0 (0 + l.length) cap', [.row 21 1 cap' (l.map iC)], by decide, .inl (.inl rfl), ⟨.inr ?_, trivial⟩, cap', by omega, by rw [Nat.zero_add], rfl⟩, rfl⟩
    show some (SB.row 21 1 cap' ([] ++ ((l.map iC).drop 0).take l.length)) = _
    rw [List.nil_append, List.drop_zero, List.take_of_length_le (by rw [List.length_map]; omega)]
set_option maxRecDepth 100000 in
set_option maxHeartbeats 4000000 in
theorem clone_b (l : List Int) (cap : Nat) (hc : l.length ≤ cap) (hl : l.length ≤ 1099511627776) : FnOK Try.prog GG 27 [.ro 1 (l.map bC)] [.s (.o 0) 1 0 l.length cap] (fun r _ ext => ∃ cap', l.length ≤ cap' ∧ r = .s (.n 0) 1 0 l.length cap' ∧ ext = [.row 5 1 cap' (l.map bC)]) := by
  refine fn_newR (C := seat) seat_ok [] GG_no (Try.func27) rfl rfl rfl rfl rfl rfl ?_
  repeat' ((try conv => whnf); first
    | (with_reducible refine BB_true ?_)
    | (with_reducible refine BB_false ?_)
    | (with_reducible refine Both.mk ?_ ?_)
    | (with_reducible refine VS.mk ?_)
    | (refine PSem.go (C := seat) seat_ok ?_)
    | (refine And.intro (PlanOK.mk (by kernel_rfl) rfl (by kernel_rfl) (by kernel_rfl)) ?_)
    | (refine And.intro rfl (Exists.intro _ (And.intro (by first | assumption | rfl) ?_)))
    | (refine And.intro ⟨rfl, rfl, rfl⟩ ?_)
    | (refine fun (b : Bool) hb => ?_)
    | (refine And.intro ⟨rfl, rfl, rfl, rfl⟩ ?_)
    | (refine And.intro ⟨rfl, by rw [List.length_map]; omega⟩ ?_)
    | (refine And.intro (by first | omega | (dsimp only; omega)) ?_)
    | (intro cap' hcap')
    | (refine And.intro (by omega) ?_)
    | (refine BB.mk (fun _h => ?_) (fun _h => ?_) <;> (first | (exact absurd _h (by decide)) | (exfalso; simp only [boolSet] at _h <;> omega) | skip)))
  all_goals (try conv => whnf)
  · have h0 : cap = 0 := by
      by_cases h : cap = 0
      · exact h
      · rw [hb h] at _h; cases _h
    have hl0 : l = [] := List.eq_nil_of_length_eq_zero (by omega)
    subst hl0
    exact ⟨⟨[0], .s (.n 0) 1 0 0 0, [.row 5 1 0 []], by decide, .inl (.inr ⟨_, _, _, rfl, rfl⟩), ⟨.inl (.inl ⟨rfl, rfl⟩), trivial⟩, 0, Nat.le_refl _, rfl, rfl⟩, rfl⟩
  · refine ⟨⟨[1], .s (.n 0) 1 0 (0 + l.length) cap', [.row 5 1 cap' (l.map bC)], by decide, .inl (.inl rfl), ⟨.inr ?_, trivial⟩, cap', by omega, by rw [Nat.zero_add], rfl⟩, rfl⟩
    show some (SB.row 5 1 cap' ([] ++ ((l.map bC).drop 0).take l.length)) = _
    rw [List.nil_append, List.drop_zero, List.take_of_length_le (by rw [List.length_map]; omega)]
/-- An event. -/
structure Ev_ where
  n : Int
  i : Int
  s : Int
  v : List Int
  d : List Int
abbrev evS (e : Ev_) (a b : Nm) (c1 c2 : Nat) : SV := .agg [.v (.int .u8 e.n), .v (.int .u16 e.i), .v (.int .u32 e.s), .s a 1 0 e.v.length c1, .s b 1 0 e.d.length c2]
def idB (e f : Ev_) : Bool := decide (e.n = f.n ∧ e.i = f.i ∧ e.s = f.s)
def sameB (e f : Ev_) : Bool := idB e f && decide (e.v = f.v) && decide (e.d = f.d)
def eventB (l : List Sp_) (e : Ev_) : Bool := decide (e.n < 12 ∧ 1 ≤ e.i ∧ 1 ≤ e.s ∧ e.d.length ≤ 64) && fitsB l e.v
structure Few_ (e : Ev_) (c1 c2 : Nat) : Prop where
  v : e.v.length ≤ c1
  d : e.d.length ≤ c2
  v1 : e.v.length ≤ 1099511627776
  d1 : e.d.length ≤ 1099511627776
set_option maxRecDepth 100000 in
set_option maxHeartbeats 4000000 in
theorem copy_ok (e : Ev_) (c1 c2 : Nat) (hf : Few_ e c1 c2) : FnOK Try.prog GG 14 [.ro 1 (e.v.map iC), .ro 1 (e.d.map bC)] [evS e (.o 0) (.o 1) c1 c2] (fun r _ ext => ∃ c1' c2', Few_ e c1' c2' ∧ r = evS e (.n 0) (.n 1) c1' c2' ∧ ext = [.row 21 1 c1' (e.v.map iC), .row 5 1 c2' (e.d.map bC)]) := by
  refine fn_new (C := seat) seat_ok [(1, (.of [(0, .take), (1, .take), (2, .take), (3, .take), (5, .take), (6, .take), (4, .do_), (7, .do_), (8, .take), (9, .last)]))] GG_no (Try.func14) rfl rfl rfl rfl rfl rfl ?_
  repeat' ((try conv => whnf); first
    | (with_reducible refine BB_true ?_)
    | (with_reducible refine BB_false ?_)
    | (with_reducible refine Both.mk ?_ ?_)
    | (with_reducible refine VS.mk ?_)
    | (refine PSem.go (C := seat) seat_ok ?_)
    | (refine And.intro (PlanOK.mk (by kernel_rfl) rfl (by kernel_rfl) (by kernel_rfl)) ?_)
    | (refine And.intro rfl (Exists.intro _ (And.intro (by first | assumption | rfl) ?_)))
    | (refine And.intro ⟨rfl, rfl, rfl⟩ ?_)
    | (refine call_ro [.o 0] (clone_i e.v c1 hf.v hf.v1) GG_no rfl rfl rfl ⟨⟨_, rfl, rfl, rfl⟩, trivial⟩ ?_; rintro r bs' ext ⟨c1', hc1, rfl, rfl⟩)
    | (refine call_ro [.o 1] (clone_b e.d c2 hf.d hf.d1) GG_no rfl rfl rfl ⟨⟨_, rfl, rfl, rfl⟩, trivial⟩ ?_; rintro r bs' ext ⟨c2', hc2, rfl, rfl⟩)
    | (refine And.intro (by omega) ?_)
    | (refine BB.mk (fun _h => ?_) (fun _h => ?_) <;> (first | (exact absurd _h (by decide)) | (exfalso; simp only [boolSet] at _h <;> omega) | skip)))
  all_goals (try conv => whnf)
  exact ⟨⟨[2, 3], evS e (.n 0) (.n 1) c1' c2', [.row 21 1 c1' (e.v.map iC), .row 5 1 c2' (e.d.map bC)], by decide, rfl, ⟨.inr rfl, .inr rfl, trivial⟩, c1', c2', ⟨hc1, hc2, hf.v1, hf.d1⟩, rfl, rfl⟩, rfl⟩
theorem equal_i_is (l r : List Int) (c1 c2 : Nat) (hl : l.length ≤ 1099511627776) (b : Bool) (h : decide (l = r) = b) : FnOK Try.prog GG 24 [.ro 1 (l.map iC), .ro 1 (r.map iC)] [.s (.o 0) 1 0 l.length c1, .s (.o 1) 1 0 r.length c2] (fun r _ ext => r = .v (.bool b) ∧ ext = []) := by
  subst h
  exact equal_i l r c1 c2 hl
theorem equal_b_is (l r : List Int) (c1 c2 : Nat) (hl : l.length ≤ 1099511627776) (b : Bool) (h : decide (l = r) = b) : FnOK Try.prog GG 25 [.ro 1 (l.map bC), .ro 1 (r.map bC)] [.s (.o 0) 1 0 l.length c1, .s (.o 1) 1 0 r.length c2] (fun r _ ext => r = .v (.bool b) ∧ ext = []) := by
  subst h
  exact equal_b l r c1 c2 hl
theorem vals_is (l r : List Int) (c1 c2 : Nat) (hl : l.length ≤ 1099511627776) (b : Bool) (h : decide (l = r) = b) : FnOK Try.prog GG 17 [.ro 1 (l.map iC), .ro 1 (r.map iC)] [.s (.o 0) 1 0 l.length c1, .s (.o 1) 1 0 r.length c2] (fun r _ ext => r = .v (.bool b) ∧ ext = []) := by
  subst h
  exact vals_ok l r c1 c2 hl
theorem fits_p_is (l : List Sp_) (v : List Int) (c1 c2 : Nat) (hl : l.length ≤ 1099511627776) (b : Bool) (h : fitsB l v = b) : FnOK Try.prog GG 15 [.ro 2 (l.map spC), .ro 1 (v.map iC)] [.s (.o 0) 2 0 l.length c1, .s (.o 1) 1 0 v.length c2] (fun r _ ext => r = .v (.bool b) ∧ ext = []) := by
  subst h
  exact (by simpa only [List.append_nil] using fits_p l v [] c1 c2 hl)
theorem right_p_is (l : List Sp_) (cap : Nat) (hl : l.length ≤ 1099511627776) (b : Bool) (h : rightB l = b) : FnOK Try.prog GG 10 [.ro 2 (l.map spC)] [.s (.o 0) 2 0 l.length cap] (fun r _ ext => r = .v (.bool b) ∧ ext = []) := by
  subst h
  exact (by simpa only [List.append_nil] using right_p l [] cap hl)
theorem fits_r_is (l : List Sp_) (v : List Int) (c1 c2 : Nat) (hl : l.length ≤ 1099511627776) (hr : ∀ y ∈ l, y.a ≤ y.b) (b : Bool) (h : fitsB l v = b) : FnOK Try.prog GG 16 [.ro 2 (l.map spC), .ro 1 (v.map iC)] [.s (.o 0) 2 0 l.length c1, .s (.o 1) 1 0 v.length c2] (fun r _ ext => r = .v (.bool b) ∧ ext = []) := by
  subst h
  exact (by simpa only [List.append_nil] using fits_r l v [] c1 c2 hl hr)
theorem right_r_is (l : List Sp_) (cap : Nat) (hl : l.length ≤ 1099511627776) (b : Bool) (h : rightB l = b) : FnOK Try.prog GG 11 [.ro 2 (l.map spC)] [.s (.o 0) 2 0 l.length cap] (fun r _ ext => r = .v (.bool b) ∧ ext = []) := by
  subst h
  exact (by simpa only [List.append_nil] using right_r l [] cap hl)
set_option maxRecDepth 100000 in
set_option maxHeartbeats 4000000 in
theorem same_g (e f : Ev_) (c1 c2 c3 c4 : Nat) (hv : e.v.length ≤ 1099511627776) (hd : e.d.length ≤ 1099511627776) (b1 b2 : Bool) (h1 : decide (e.v = f.v) = b1) (h2 : decide (e.d = f.d) = b2) : FnOK Try.prog GG 12 [.ro 1 (e.v.map iC), .ro 1 (e.d.map bC), .ro 1 (f.v.map iC), .ro 1 (f.d.map bC)] [evS e (.o 0) (.o 1) c1 c2, evS f (.o 2) (.o 3) c3 c4] (fun r _ ext => r = .v (.bool (idB e f && b1 && b2)) ∧ ext = []) := by
  refine fn_val (C := seat) seat_ok [] GG_no (Try.func12) rfl rfl rfl rfl rfl (fun _ => rfl) rfl ?_
  repeat' ((try conv => whnf); first
    | (with_reducible refine BB_true ?_)
    | (with_reducible refine BB_false ?_)
    | (with_reducible refine Both.mk ?_ ?_)
    | (with_reducible refine VS.mk ?_)
    | (refine PSem.go (C := seat) seat_ok ?_)
    | (refine And.intro (PlanOK.mk (by kernel_rfl) rfl (by kernel_rfl) (by kernel_rfl)) ?_)
    | (refine And.intro rfl (Exists.intro _ (And.intro (by first | assumption | rfl) ?_)))
    | (refine And.intro ⟨rfl, rfl, rfl⟩ ?_)
    | (refine call_ro [.o 0, .o 2] (equal_i_is e.v f.v c1 c3 hv b1 h1) GG_no rfl rfl rfl ⟨⟨_, rfl, rfl, rfl⟩, ⟨_, rfl, rfl, rfl⟩, trivial⟩ ?_; rintro r bs' ext ⟨rfl, rfl⟩)
    | (refine call_ro [.o 1, .o 3] (equal_b_is e.d f.d c2 c4 hd b2 h2) GG_no rfl rfl rfl ⟨⟨_, rfl, rfl, rfl⟩, ⟨_, rfl, rfl, rfl⟩, trivial⟩ ?_; rintro r bs' ext ⟨rfl, rfl⟩)
    | (refine And.intro (by omega) ?_)
    | (refine BB.mk (fun _h => ?_) (fun _h => ?_) <;> (first | (exact absurd _h (by decide)) | (exfalso; simp only [boolSet] at _h <;> omega) | skip)))
  all_goals (try conv => whnf)
  all_goals (try (refine Fin.mk ?_))
  all_goals (first
  | exact ⟨rfl, rfl⟩
  | (refine ⟨bool_eq ?_, rfl⟩
     cases b1 <;> cases b2 <;> (rw [Bool.eq_iff_iff]; simp only [idB, wrapSet, boolSet] at * <;> omega))
  | (exfalso; cases b1 <;> cases b2 <;> (simp only [idB, wrapSet, boolSet] at * <;> omega)))
theorem same_is (e f : Ev_) (c1 c2 c3 c4 : Nat) (hv : e.v.length ≤ 1099511627776) (hd : e.d.length ≤ 1099511627776) (b : Bool) (h : sameB e f = b) : FnOK Try.prog GG 12 [.ro 1 (e.v.map iC), .ro 1 (e.d.map bC), .ro 1 (f.v.map iC), .ro 1 (f.d.map bC)] [evS e (.o 0) (.o 1) c1 c2, evS f (.o 2) (.o 3) c3 c4] (fun r _ ext => r = .v (.bool b) ∧ ext = []) := by
  subst h
  exact same_g e f c1 c2 c3 c4 hv hd _ _ rfl rfl
set_option maxRecDepth 100000 in
set_option maxHeartbeats 4000000 in
theorem event_g_p (l : List Sp_) (e : Ev_) (c c1 c2 : Nat) (hl : l.length ≤ 1099511627776) (hd : e.d.length ≤ 1099511627776) (b : Bool) (h : fitsB l e.v = b) : FnOK Try.prog GG 20 [.ro 2 (l.map spC), .ro 1 (e.v.map iC), .ro 1 (e.d.map bC)] [.s (.o 0) 2 0 l.length c, evS e (.o 1) (.o 2) c1 c2] (fun r _ ext => r = .v (.bool (decide (e.n < 12 ∧ 1 ≤ e.i ∧ 1 ≤ e.s ∧ e.d.length ≤ 64) && b)) ∧ ext = []) := by
  refine fn_val (C := seat) seat_ok [] GG_no (Try.func20) rfl rfl rfl rfl rfl (fun _ => rfl) rfl ?_
  repeat' ((try conv => whnf); first
    | (with_reducible refine BB_true ?_)
    | (with_reducible refine BB_false ?_)
    | (with_reducible refine Both.mk ?_ ?_)
    | (with_reducible refine VS.mk ?_)
    | (refine PSem.go (C := seat) seat_ok ?_)
    | (refine And.intro (PlanOK.mk (by kernel_rfl) rfl (by kernel_rfl) (by kernel_rfl)) ?_)
    | (refine And.intro rfl (Exists.intro _ (And.intro (by first | assumption | rfl) ?_)))
    | (refine And.intro ⟨rfl, rfl, rfl⟩ ?_)
    | (refine call_ro [.o 0, .o 1] (fits_p_is l e.v c c1 hl b h) GG_no rfl rfl rfl ⟨⟨_, rfl, rfl, rfl⟩, ⟨_, rfl, rfl, rfl⟩, trivial⟩ ?_; rintro r bs' ext ⟨rfl, rfl⟩)
    | (refine And.intro (by omega) ?_)
    | (refine BB.mk (fun _h => ?_) (fun _h => ?_) <;> (first | (exact absurd _h (by decide)) | (exfalso; simp only [boolSet] at _h <;> omega) | skip)))
  all_goals (try conv => whnf)
  all_goals (try (refine Fin.mk ?_))
  all_goals (first
  | exact ⟨rfl, rfl⟩
  | (refine ⟨bool_eq ?_, rfl⟩
     cases b <;> (rw [Bool.eq_iff_iff]; simp only [wrapSet, boolSet] at * <;> omega))
  | (exfalso; cases b <;> (simp only [wrapSet, boolSet] at * <;> omega)))
theorem event_p_is (l : List Sp_) (e : Ev_) (c c1 c2 : Nat) (hl : l.length ≤ 1099511627776) (hd : e.d.length ≤ 1099511627776) (b : Bool) (h : eventB l e = b) : FnOK Try.prog GG 20 [.ro 2 (l.map spC), .ro 1 (e.v.map iC), .ro 1 (e.d.map bC)] [.s (.o 0) 2 0 l.length c, evS e (.o 1) (.o 2) c1 c2] (fun r _ ext => r = .v (.bool b) ∧ ext = []) := by
  subst h
  exact event_g_p l e c c1 c2 hl hd _ rfl
set_option maxRecDepth 100000 in
set_option maxHeartbeats 4000000 in
theorem event_g_r (l : List Sp_) (e : Ev_) (c c1 c2 : Nat) (hl : l.length ≤ 1099511627776) (hd : e.d.length ≤ 1099511627776) (hr : ∀ y ∈ l, y.a ≤ y.b) (b : Bool) (h : fitsB l e.v = b) : FnOK Try.prog GG 21 [.ro 2 (l.map spC), .ro 1 (e.v.map iC), .ro 1 (e.d.map bC)] [.s (.o 0) 2 0 l.length c, evS e (.o 1) (.o 2) c1 c2] (fun r _ ext => r = .v (.bool (decide (e.n < 12 ∧ 1 ≤ e.i ∧ 1 ≤ e.s ∧ e.d.length ≤ 64) && b)) ∧ ext = []) := by
  refine fn_val (C := seat) seat_ok [] GG_no (Try.func21) rfl rfl rfl rfl rfl (fun _ => rfl) rfl ?_
  repeat' ((try conv => whnf); first
    | (with_reducible refine BB_true ?_)
    | (with_reducible refine BB_false ?_)
    | (with_reducible refine Both.mk ?_ ?_)
    | (with_reducible refine VS.mk ?_)
    | (refine PSem.go (C := seat) seat_ok ?_)
    | (refine And.intro (PlanOK.mk (by kernel_rfl) rfl (by kernel_rfl) (by kernel_rfl)) ?_)
    | (refine And.intro rfl (Exists.intro _ (And.intro (by first | assumption | rfl) ?_)))
    | (refine And.intro ⟨rfl, rfl, rfl⟩ ?_)
    | (refine call_ro [.o 0, .o 1] (fits_r_is l e.v c c1 hl hr b h) GG_no rfl rfl rfl ⟨⟨_, rfl, rfl, rfl⟩, ⟨_, rfl, rfl, rfl⟩, trivial⟩ ?_; rintro r bs' ext ⟨rfl, rfl⟩)
    | (refine And.intro (by omega) ?_)
    | (refine BB.mk (fun _h => ?_) (fun _h => ?_) <;> (first | (exact absurd _h (by decide)) | (exfalso; simp only [boolSet] at _h <;> omega) | skip)))
  all_goals (try conv => whnf)
  all_goals (try (refine Fin.mk ?_))
  all_goals (first
  | exact ⟨rfl, rfl⟩
  | (refine ⟨bool_eq ?_, rfl⟩
     cases b <;> (rw [Bool.eq_iff_iff]; simp only [wrapSet, boolSet] at * <;> omega))
  | (exfalso; cases b <;> (simp only [wrapSet, boolSet] at * <;> omega)))
theorem event_r_is (l : List Sp_) (e : Ev_) (c c1 c2 : Nat) (hl : l.length ≤ 1099511627776) (hd : e.d.length ≤ 1099511627776) (hr : ∀ y ∈ l, y.a ≤ y.b) (b : Bool) (h : eventB l e = b) : FnOK Try.prog GG 21 [.ro 2 (l.map spC), .ro 1 (e.v.map iC), .ro 1 (e.d.map bC)] [.s (.o 0) 2 0 l.length c, evS e (.o 1) (.o 2) c1 c2] (fun r _ ext => r = .v (.bool b) ∧ ext = []) := by
  subst h
  exact event_g_r l e c c1 c2 hl hd hr _ rfl
def twoL : List Sp_ := [⟨0, 9⟩, ⟨-5, 5⟩]
set_option maxRecDepth 100000 in
set_option maxHeartbeats 4000000 in
theorem two_ok  : FnOK Try.prog GG 23 [] [] (fun r _ ext => r = .s (.n 0) 2 0 2 2 ∧ ext = [.row 44 2 2 (twoL.map spC)]) := by
  refine fn_new (C := seat) seat_ok [] GG_no (Try.func23) rfl rfl rfl rfl rfl rfl ?_
  repeat' ((try conv => whnf); first
    | (with_reducible refine BB_true ?_)
    | (with_reducible refine BB_false ?_)
    | (with_reducible refine Both.mk ?_ ?_)
    | (with_reducible refine VS.mk ?_)
    | (refine PSem.go (C := seat) seat_ok ?_)
    | (refine And.intro (PlanOK.mk (by kernel_rfl) rfl (by kernel_rfl) (by kernel_rfl)) ?_)
    | (refine And.intro rfl (Exists.intro _ (And.intro (by first | assumption | rfl) ?_)))
    | (refine And.intro ⟨rfl, rfl, rfl⟩ ?_)
    | (refine And.intro (by omega) ?_)
    | (refine BB.mk (fun _h => ?_) (fun _h => ?_) <;> (first | (exact absurd _h (by decide)) | (exfalso; simp only [boolSet] at _h <;> omega) | skip)))
  all_goals (try conv => whnf)
  exact ⟨⟨[0], .s (.n 0) 2 0 2 2, [.row 44 2 2 (twoL.map spC)], by decide, rfl, ⟨.inr rfl, trivial⟩, rfl, rfl⟩, rfl⟩
end Go.Proofs.Ythcofkeiffpiiaa
