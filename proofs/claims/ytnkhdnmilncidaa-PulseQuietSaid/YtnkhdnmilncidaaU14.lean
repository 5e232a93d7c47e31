/- Package pulse, by computing: members. -/
import Derived.Test.YtnkhdnmilncidaaTy14
import Derived.Test.YtnkhdnmilncidaaSymW
namespace Go.Proofs.Ytnkhdnmilncidaa
open Go.RowKit

abbrev GG : List (Nat × SB) := []
theorem GG_no : noOwn GG := noOwn_nil
structure Mb where
  i : Int
  s : Int
  q : Int
structure Mb.ok (a : Mb) : Prop where
  i0 : 0 ≤ a.i
  i1 : a.i ≤ 65535
  s0 : 0 ≤ a.s
  s1 : a.s ≤ 255
  q0 : 0 ≤ a.q
  q1 : a.q ≤ 255
theorem mb_ext {a b : Mb} (h1 : a.i = b.i) (h2 : a.s = b.s) (h3 : a.q = b.q) : a = b := by cases a; cases b; simp_all
instance : DecidableEq Mb := fun x y => if h : x.i = y.i ∧ x.s = y.s ∧ x.q = y.q then .isTrue (mb_ext h.1 h.2.1 h.2.2) else .isFalse (fun e => h (by subst e; exact ⟨rfl, rfl, rfl⟩))
def mbC (a : Mb) : List Value := [.int .u16 a.i, .int .u8 a.s, .int .u8 a.q]
abbrev mbS (a : Mb) : SV := .agg [.v (.int .u16 a.i), .v (.int .u8 a.s), .v (.int .u8 a.q)]
theorem mb_at {l : List Mb} {k : Nat} {y : Mb} (h : l[k]? = some y) : (l.map mbC)[0 + (k : Int).toNat]? = some [.int .u16 y.i, .int .u8 y.s, .int .u8 y.q] := by
  rw [Nat.zero_add, Int.toNat_natCast, List.getElem?_map, h]; rfl
theorem win_at {E : List (List Value)} {e m : Nat} {l : List Mb} (h : (E.drop e).take m = l.map mbC) {k : Nat} {y : Mb} (hy : l[k]? = some y) : E[e + (k : Int).toNat]? = some [.int .u16 y.i, .int .u8 y.s, .int .u8 y.q] := by
  have h1 : ((E.drop e).take m)[k]? = some (mbC y) := by rw [h, List.getElem?_map, hy]; rfl
  rw [List.getElem?_take] at h1
  split at h1
  · rw [List.getElem?_drop] at h1
    rw [Int.toNat_natCast]; exact h1
  · cases h1
theorem map_take_in {α β : Type} {f : α → β} {l : List α} {y : α} {k : Nat} (hy : l[k]? = some y) : (l.take (k + 1)).map f = (l.take k).map f ++ [f y] := by
  rw [List.take_add_one, hy, List.map_append]
  rfl
def newerB (a b : Mb) : Bool := decide (a.i > b.i) || (decide (a.i = b.i) && decide (0 < a.i) && decide (a.s > b.s))
def upB (m : Mb) : Bool := decide (m.s = 1) || decide (m.s = 2)
def heardM (v : Int) (m : Mb) : Mb := if v > m.i ∨ (v = m.i ∧ 0 < v ∧ m.s ≠ 3) then ⟨v, 1, 0⟩ else m
def leftM (v : Int) (m : Mb) : Mb := if v = 0 ∨ v < m.i then m else if v > m.i then ⟨v, 3, 0⟩ else ⟨v, 3, m.q⟩
set_option maxRecDepth 100000 in
set_option maxHeartbeats 4000000 in
theorem newer_ok (a b : Mb) : FnOK Try.prog GG 9 [] [mbS a, mbS b] (fun r _ ext => r = .v (.bool (newerB a b)) ∧ ext = []) := by
  refine fn_val (C := seat) seat_ok [] GG_no (Try.func9) rfl rfl rfl rfl rfl (fun _ => rfl) rfl ?_
  repeat' ((try conv => whnf); first
    | (with_reducible refine OKv.go (C := seat) seat_ok ?_)
    | (with_reducible refine BB_true ?_)
    | (with_reducible refine BB_false ?_)
    | (with_reducible refine Both.mk ?_ ?_)
    | (with_reducible refine VS.mk ?_)
    | (refine PSem.go (C := seat) seat_ok ?_)
    | (refine And.intro (PlanOK.mk (by kernel_rfl) rfl (by kernel_rfl) (by kernel_rfl)) ?_)
    | (refine And.intro rfl (Exists.intro _ (And.intro (by first | assumption | rfl) ?_)))
    | (refine And.intro ⟨rfl, rfl, rfl⟩ ?_)
    | (refine And.intro (by omega) ?_)
    | (refine BB.mk (fun _h => ?_) (fun _h => ?_) <;> (first | (exact absurd _h (by decide)) | (exfalso; simp only [boolSet] at _h <;> omega) | skip)))
  all_goals (try conv => whnf)
  all_goals (try (refine Fin.mk ?_))
  all_goals (refine ⟨bool_eq ?_, rfl⟩; grind [newerB])
set_option maxRecDepth 100000 in
set_option maxHeartbeats 4000000 in
theorem up_ok (a : Mb) : FnOK Try.prog GG 31 [] [mbS a] (fun r _ ext => r = .v (.bool (upB a)) ∧ ext = []) := by
  refine fn_val (C := seat) seat_ok [] GG_no (Try.func31) rfl rfl rfl rfl rfl (fun _ => rfl) rfl ?_
  repeat' ((try conv => whnf); first
    | (with_reducible refine OKv.go (C := seat) seat_ok ?_)
    | (with_reducible refine BB_true ?_)
    | (with_reducible refine BB_false ?_)
    | (with_reducible refine Both.mk ?_ ?_)
    | (with_reducible refine VS.mk ?_)
    | (refine PSem.go (C := seat) seat_ok ?_)
    | (refine And.intro (PlanOK.mk (by kernel_rfl) rfl (by kernel_rfl) (by kernel_rfl)) ?_)
    | (refine And.intro rfl (Exists.intro _ (And.intro (by first | assumption | rfl) ?_)))
    | (refine And.intro ⟨rfl, rfl, rfl⟩ ?_)
    | (refine And.intro (by omega) ?_)
    | (refine BB.mk (fun _h => ?_) (fun _h => ?_) <;> (first | (exact absurd _h (by decide)) | (exfalso; simp only [boolSet] at _h <;> omega) | skip)))
  all_goals (try conv => whnf)
  all_goals (try (refine Fin.mk ?_))
  all_goals (refine ⟨bool_eq ?_, rfl⟩; grind [upB])
theorem newer_is (a b : Mb) (bb : Bool) (hb : newerB a b = bb) : FnOK Try.prog GG 9 [] [mbS a, mbS b] (fun r _ ext => r = .v (.bool bb) ∧ ext = []) := by
  subst hb
  exact newer_ok a b
theorem up_is (a : Mb) (bb : Bool) (hb : upB a = bb) : FnOK Try.prog GG 31 [] [mbS a] (fun r _ ext => r = .v (.bool bb) ∧ ext = []) := by
  subst hb
  exact up_ok a
set_option maxRecDepth 100000 in
set_option maxHeartbeats 4000000 in
theorem heard1_ok (v : Int) (a : Mb) : FnOK Try.prog GG 27 [.ro 1 [[.int .u16 v]]] [mbS a, .p (.o 0) 0 0 0] (fun r _ ext => r = mbS (heardM v a) ∧ ext = []) := by
  refine fn_val (C := seat) seat_ok [] GG_no (Try.func27) rfl rfl rfl rfl rfl (fun _ => rfl) rfl ?_
  repeat' ((try conv => whnf); first
    | (with_reducible refine OKv.go (C := seat) seat_ok ?_)
    | (with_reducible refine BB_true ?_)
    | (with_reducible refine BB_false ?_)
    | (with_reducible refine Both.mk ?_ ?_)
    | (with_reducible refine VS.mk ?_)
    | (refine PSem.go (C := seat) seat_ok ?_)
    | (refine And.intro (PlanOK.mk (by kernel_rfl) rfl (by kernel_rfl) (by kernel_rfl)) ?_)
    | (refine And.intro rfl (Exists.intro _ (And.intro (by first | assumption | rfl) ?_)))
    | (refine And.intro ⟨rfl, rfl, rfl⟩ ?_)
    | (refine And.intro (by omega) ?_)
    | (refine BB.mk (fun _h => ?_) (fun _h => ?_) <;> (first | (exact absurd _h (by decide)) | (exfalso; simp only [boolSet] at _h <;> omega) | skip)))
  all_goals (try conv => whnf)
  all_goals (try (refine Fin.mk ?_))
  all_goals
    refine ⟨?_, rfl⟩
    simp only [boolSet] at *
    by_cases hc : v > a.i ∨ (v = a.i ∧ 0 < v ∧ a.s ≠ 3)
    · first | (rw [heardM, if_pos hc]; done) | (rw [heardM, if_pos hc]; rfl) | (exfalso; omega)
    · first | (rw [heardM, if_neg hc]; done) | (rw [heardM, if_neg hc]; rfl) | (exfalso; omega)
set_option maxRecDepth 100000 in
set_option maxHeartbeats 4000000 in
theorem left1_ok (v : Int) (a : Mb) : FnOK Try.prog GG 29 [.ro 1 [[.int .u16 v]]] [mbS a, .p (.o 0) 0 0 0] (fun r _ ext => r = mbS (leftM v a) ∧ ext = []) := by
  refine fn_val (C := seat) seat_ok [] GG_no (Try.func29) rfl rfl rfl rfl rfl (fun _ => rfl) rfl ?_
  repeat' ((try conv => whnf); first
    | (with_reducible refine OKv.go (C := seat) seat_ok ?_)
    | (with_reducible refine BB_true ?_)
    | (with_reducible refine BB_false ?_)
    | (with_reducible refine Both.mk ?_ ?_)
    | (with_reducible refine VS.mk ?_)
    | (refine PSem.go (C := seat) seat_ok ?_)
    | (refine And.intro (PlanOK.mk (by kernel_rfl) rfl (by kernel_rfl) (by kernel_rfl)) ?_)
    | (refine And.intro rfl (Exists.intro _ (And.intro (by first | assumption | rfl) ?_)))
    | (refine And.intro ⟨rfl, rfl, rfl⟩ ?_)
    | (refine And.intro (by omega) ?_)
    | (refine BB.mk (fun _h => ?_) (fun _h => ?_) <;> (first | (exact absurd _h (by decide)) | (exfalso; simp only [boolSet] at _h <;> omega) | skip)))
  all_goals (try conv => whnf)
  all_goals (try (refine Fin.mk ?_))
  all_goals
    refine ⟨?_, rfl⟩
    simp only [boolSet] at *
    by_cases hc : v = 0 ∨ v < a.i
    · first | (rw [leftM, if_pos hc]; done) | (rw [leftM, if_pos hc]; rfl) | (exfalso; omega)
    · by_cases hd : v > a.i
      · first | (rw [leftM, if_neg hc, if_pos hd]; done) | (rw [leftM, if_neg hc, if_pos hd]; rfl) | (exfalso; omega)
      · first | (rw [leftM, if_neg hc, if_neg hd]; done) | (rw [leftM, if_neg hc, if_neg hd]; rfl) | (exfalso; omega)
set_option maxRecDepth 100000 in
set_option maxHeartbeats 4000000 in
theorem clone_ok (l : List Mb) (n cap : Nat) (hn : l.length = n) (hc : n ≤ cap) (hl : n ≤ 1099511627776) : FnOK Try.prog GG 30 [.ro 3 (l.map mbC)] [.s (.o 0) 3 0 n cap] (fun r _ ext => ∃ cap', n ≤ cap' ∧ r = .s (.n 0) 3 0 n cap' ∧ ext = [.row 26 3 cap' (l.map mbC)]) := by
  subst hn
  refine fn_newR (C := seat) seat_ok [] GG_no (Try.func30) rfl rfl rfl rfl rfl rfl ?_
  repeat' ((try conv => whnf); first
    | (with_reducible refine OKv.go (C := seat) seat_ok ?_)
    | (with_reducible refine BB_true ?_)
    | (with_reducible refine BB_false ?_)
    | (with_reducible refine Both.mk ?_ ?_)
    | (with_reducible refine VS.mk ?_)
    | (refine PSem.go (C := seat) seat_ok ?_)
    | (refine And.intro (PlanOK.mk (by kernel_rfl) rfl (by kernel_rfl) (by kernel_rfl)) ?_)
    | (refine And.intro rfl (Exists.intro _ (And.intro (by first | assumption | rfl) ?_)))
    | (refine And.intro ⟨rfl, rfl, rfl⟩ ?_)
    | (refine fun (b : Bool) hb => ?_)
    | (refine And.intro ⟨rfl, rfl, rfl, rfl⟩ ?_)
    | (refine And.intro ⟨rfl, rfl, rfl, by rw [List.length_map]⟩ ?_)
    | (refine And.intro ⟨rfl, rfl, rfl, by rw [List.length_map, List.length_map]⟩ ?_)
    | (refine And.intro ⟨rfl, by rw [List.length_map]; omega⟩ ?_)
    | (refine And.intro (by first | omega | (dsimp only; omega) | exact ⟨rfl, Nat.le_refl _⟩) ?_)
    | (intro cap' hcap')
    | (refine And.intro (by omega) ?_)
    | (refine BB.mk (fun _h => ?_) (fun _h => ?_) <;> (first | (exact absurd _h (by decide)) | (exfalso; simp only [boolSet] at _h <;> omega) | skip)))
  all_goals (try conv => whnf)
  · have h0 : cap = 0 := by
      by_cases h : cap = 0
      · exact h
      · rw [hb h] at _h; cases _h
    have hl0 : l = [] := List.eq_nil_of_length_eq_zero (by omega)
    subst hl0
    exact ⟨⟨[0], .s (.n 0) 3 0 0 0, [.row 26 3 0 []], by decide, .inl (.inr ⟨_, _, _, rfl, rfl⟩), ⟨.inl (.inl ⟨rfl, rfl⟩), trivial⟩, 0, Nat.le_refl _, rfl, rfl⟩, rfl⟩
  · refine ⟨⟨[1], .s (.n 0) 3 0 (0 + l.length) cap', [.row 26 3 cap' (l.map mbC)], by decide, .inl (.inl rfl), ⟨.inr ?_, trivial⟩, cap', by omega, by rw [Nat.zero_add], rfl⟩, rfl⟩
    show some (SB.row 26 3 cap' ([] ++ ((l.map mbC).drop 0).take l.length)) = _
    rw [List.nil_append, List.drop_zero, List.take_of_length_le (by rw [List.length_map]; omega)]
def modL (l : List Mb) (k : Nat) (q : Mb → Mb) : List Mb := match l[k]? with
  | some y => l.set k (q y)
  | none => l
theorem modL_in {l : List Mb} {k : Nat} {y : Mb} (q : Mb → Mb) (h : l[k]? = some y) : modL l k q = l.set k (q y) := by unfold modL; rw [h]
theorem modL_out {l : List Mb} {k : Nat} (q : Mb → Mb) (h : l.length ≤ k) : modL l k q = l := by unfold modL; rw [List.getElem?_eq_none h]
theorem modL_len (l : List Mb) (k : Nat) (q : Mb → Mb) : (modL l k q).length = l.length := by
  unfold modL
  split
  · rw [List.length_set]
  · rfl
theorem mod_row {l : List Mb} {k : Nat} {y : Mb} (q : Mb → Mb) (h : l[k]? = some y) : (l.map mbC).set (0 + (k : Int).toNat) [.int .u16 (q y).i, .int .u8 (q y).s, .int .u8 (q y).q] = (modL l k q).map mbC := by
  rw [modL_in q h, List.map_set, Nat.zero_add, Int.toNat_natCast]
  rfl
set_option maxRecDepth 100000 in
set_option maxHeartbeats 4000000 in
theorem changed_ok (l : List Mb) (n cap : Nat) (hn : l.length = n) (hc : n ≤ cap) (hl : n ≤ 1099511627776) (q : Mb → Mb) (g : Nat) (v : Int) (x : Int) (k : Nat) (hx : x = k) (hq : ∀ a, FnOK Try.prog GG g [.ro 1 [[.int .u16 v]]] [mbS a, .p (.o 0) 0 0 0] (fun r _ ext => r = mbS (q a) ∧ ext = [])) : FnOK Try.prog GG 26 [.ro 3 (l.map mbC), .ro 1 [[.int .u16 v]]] [.s (.o 0) 3 0 n cap, .v (.int .i64 x), .fn g [.p (.o 1) 0 0 0]] (fun r _ ext => ∃ cap, n ≤ cap ∧ r = .s (.n 0) 3 0 n cap ∧ ext = [.row 26 3 cap ((modL l k q).map mbC)]) := by
  subst hx
  by_cases hlt : k < n
  · obtain ⟨y, hy⟩ : ∃ y, l[k]? = some y := ⟨_, List.getElem?_eq_getElem (by omega)⟩
    have hrow := mb_at hy
    refine fn_newR (C := seat) seat_ok [] GG_no (Try.func26) rfl rfl rfl rfl rfl rfl ?_
    repeat' ((try conv => whnf); first
      | (with_reducible refine OKv.go (C := seat) seat_ok ?_)
      | (with_reducible refine BB_true ?_)
      | (with_reducible refine BB_false ?_)
      | (with_reducible refine Both.mk ?_ ?_)
      | (with_reducible refine VS.mk ?_)
      | (refine PSem.go (C := seat) seat_ok ?_)
      | (refine And.intro (PlanOK.mk (by kernel_rfl) rfl (by kernel_rfl) (by kernel_rfl)) ?_)
      | (refine And.intro rfl (Exists.intro _ (And.intro (by first | assumption | rfl) ?_)))
      | (refine And.intro ⟨rfl, rfl, rfl⟩ ?_)
      | (refine call_ro [.o 0] (clone_ok l n _ hn hc hl) GG_no rfl rfl rfl ⟨⟨_, rfl, rfl, rfl⟩, trivial⟩ ?_; rintro r bs' ext ⟨ca, hca, rfl, rfl⟩)
      | (refine call_ro [.o 1] (hq y) GG_no rfl rfl rfl ⟨⟨_, rfl, rfl, rfl⟩, trivial⟩ ?_; rintro r bs' ext ⟨rfl, rfl⟩)
      | (refine And.intro (by omega) ?_)
      | (refine BB.mk (fun _h => ?_) (fun _h => ?_) <;> (first | (exact absurd _h (by decide)) | (exfalso; simp only [boolSet] at _h <;> omega) | skip)))
    all_goals (try conv => whnf)
    exact ⟨⟨[0], .s (.n 0) 3 0 n ca, [.row 26 3 ca ((modL l k q).map mbC)], by decide, .inl (.inl rfl), ⟨.inr (congrArg (fun z => some (SB.row 26 3 ca z)) (mod_row q hy)), trivial⟩, ca, hca, rfl, rfl⟩, rfl⟩
  · have hm := modL_out q (show l.length ≤ k by omega)
    rw [hm]
    refine fn_newR (C := seat) seat_ok [] GG_no (Try.func26) rfl rfl rfl rfl rfl rfl ?_
    repeat' ((try conv => whnf); first
      | (with_reducible refine OKv.go (C := seat) seat_ok ?_)
      | (with_reducible refine BB_true ?_)
      | (with_reducible refine BB_false ?_)
      | (with_reducible refine Both.mk ?_ ?_)
      | (with_reducible refine VS.mk ?_)
      | (refine PSem.go (C := seat) seat_ok ?_)
      | (refine And.intro (PlanOK.mk (by kernel_rfl) rfl (by kernel_rfl) (by kernel_rfl)) ?_)
      | (refine And.intro rfl (Exists.intro _ (And.intro (by first | assumption | rfl) ?_)))
      | (refine And.intro ⟨rfl, rfl, rfl⟩ ?_)
      | (refine call_ro [.o 0] (clone_ok l n _ hn hc hl) GG_no rfl rfl rfl ⟨⟨_, rfl, rfl, rfl⟩, trivial⟩ ?_; rintro r bs' ext ⟨ca, hca, rfl, rfl⟩)
      | (refine And.intro (by omega) ?_)
      | (refine BB.mk (fun _h => ?_) (fun _h => ?_) <;> (first | (exact absurd _h (by decide)) | (exfalso; simp only [boolSet] at _h <;> omega) | skip)))
    all_goals (try conv => whnf)
    exact ⟨⟨[0], .s (.n 0) 3 0 n ca, [.row 26 3 ca (l.map mbC)], by decide, .inl (.inl rfl), ⟨.inr rfl, trivial⟩, ca, hca, rfl, rfl⟩, rfl⟩
set_option maxRecDepth 100000 in
set_option maxHeartbeats 4000000 in
theorem heard_ok (l : List Mb) (n cap : Nat) (hn : l.length = n) (hc : n ≤ cap) (hl : n ≤ 1099511627776) (k : Nat) (hk : k ≤ 255) (v : Int) : FnOK Try.prog GG 14 [.ro 3 (l.map mbC)] [.s (.o 0) 3 0 n cap, .v (.int .u8 (k : Int)), .v (.int .u16 v)] (fun r _ ext => ∃ cap, n ≤ cap ∧ r = .s (.n 0) 3 0 n cap ∧ ext = [.row 26 3 cap ((modL l k (heardM v)).map mbC)]) := by
  refine fn_newR (C := seat) seat_ok [] GG_no (Try.func14) rfl rfl rfl rfl rfl rfl ?_
  repeat' ((try conv => whnf); first
    | (with_reducible refine OKv.go (C := seat) seat_ok ?_)
    | (with_reducible refine BB_true ?_)
    | (with_reducible refine BB_false ?_)
    | (with_reducible refine Both.mk ?_ ?_)
    | (with_reducible refine VS.mk ?_)
    | (refine PSem.go (C := seat) seat_ok ?_)
    | (refine And.intro (PlanOK.mk (by kernel_rfl) rfl (by kernel_rfl) (by kernel_rfl)) ?_)
    | (refine And.intro rfl (Exists.intro _ (And.intro (by first | assumption | rfl) ?_)))
    | (refine And.intro ⟨rfl, rfl, rfl⟩ ?_)
    | (refine call_ro [.o 0, .n 0] (changed_ok l n _ hn hc hl (heardM v) 27 v _ k (by rw [IntKind.wrap_i64]; omega) (heard1_ok v)) GG_no rfl rfl rfl ⟨⟨_, rfl, rfl, rfl⟩, ⟨_, rfl, _, rfl, rfl, rfl, rfl⟩, trivial⟩ ?_; rintro r bs' ext ⟨ca, hca, rfl, rfl⟩)
    | (refine And.intro (by omega) ?_)
    | (refine BB.mk (fun _h => ?_) (fun _h => ?_) <;> (first | (exact absurd _h (by decide)) | (exfalso; simp only [boolSet] at _h <;> omega) | skip)))
  all_goals (try conv => whnf)
  exact ⟨⟨[1], .s (.n 0) 3 0 n ca, [.row 26 3 ca ((modL l k (heardM v)).map mbC)], by decide, .inl (.inl rfl), ⟨.inr rfl, trivial⟩, ca, hca, rfl, rfl⟩, rfl⟩
set_option maxRecDepth 100000 in
set_option maxHeartbeats 4000000 in
theorem left_ok (l : List Mb) (n cap : Nat) (hn : l.length = n) (hc : n ≤ cap) (hl : n ≤ 1099511627776) (k : Nat) (hk : k ≤ 255) (v : Int) : FnOK Try.prog GG 16 [.ro 3 (l.map mbC)] [.s (.o 0) 3 0 n cap, .v (.int .u8 (k : Int)), .v (.int .u16 v)] (fun r _ ext => ∃ cap, n ≤ cap ∧ r = .s (.n 0) 3 0 n cap ∧ ext = [.row 26 3 cap ((modL l k (leftM v)).map mbC)]) := by
  refine fn_newR (C := seat) seat_ok [] GG_no (Try.func16) rfl rfl rfl rfl rfl rfl ?_
  repeat' ((try conv => whnf); first
    | (with_reducible refine OKv.go (C := seat) seat_ok ?_)
    | (with_reducible refine BB_true ?_)
    | (with_reducible refine BB_false ?_)
    | (with_reducible refine Both.mk ?_ ?_)
    | (with_reducible refine VS.mk ?_)
    | (refine PSem.go (C := seat) seat_ok ?_)
    | (refine And.intro (PlanOK.mk (by kernel_rfl) rfl (by kernel_rfl) (by kernel_rfl)) ?_)
    | (refine And.intro rfl (Exists.intro _ (And.intro (by first | assumption | rfl) ?_)))
    | (refine And.intro ⟨rfl, rfl, rfl⟩ ?_)
    | (refine call_ro [.o 0, .n 0] (changed_ok l n _ hn hc hl (leftM v) 29 v _ k (by rw [IntKind.wrap_i64]; omega) (left1_ok v)) GG_no rfl rfl rfl ⟨⟨_, rfl, rfl, rfl⟩, ⟨_, rfl, _, rfl, rfl, rfl, rfl⟩, trivial⟩ ?_; rintro r bs' ext ⟨ca, hca, rfl, rfl⟩)
    | (refine And.intro (by omega) ?_)
    | (refine BB.mk (fun _h => ?_) (fun _h => ?_) <;> (first | (exact absurd _h (by decide)) | (exfalso; simp only [boolSet] at _h <;> omega) | skip)))
  all_goals (try conv => whnf)
  exact ⟨⟨[1], .s (.n 0) 3 0 n ca, [.row 26 3 ca ((modL l k (leftM v)).map mbC)], by decide, .inl (.inl rfl), ⟨.inr rfl, trivial⟩, ca, hca, rfl, rfl⟩, rfl⟩
end Go.Proofs.Ytnkhdnmilncidaa
