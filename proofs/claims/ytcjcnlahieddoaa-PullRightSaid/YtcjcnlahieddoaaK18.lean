/- Package pull, by computing: asks; which are kept. -/
import Derived.Test.YtcjcnlahieddoaaI07g
namespace Go.Proofs.Ytcjcnlahieddoaa
open Go.RowKit

structure Ask_ where
  id : Id_
  fr : Int
  lf : Int
structure Ask_.ok (a : Ask_) : Prop where
  id : a.id.ok
  f0 : 0 ≤ a.fr
  f1 : a.fr ≤ 255
  l0 : 0 ≤ a.lf
  l1 : a.lf ≤ 255
def askC (a : Ask_) : List Value := [.int .u8 a.id.n, .int .u16 a.id.i, .int .u32 a.id.s, .int .u8 a.fr, .int .u8 a.lf]
abbrev askS (a : Ask_) : SV := .agg [.v (.int .u8 a.id.n), .v (.int .u16 a.id.i), .v (.int .u32 a.id.s), .v (.int .u8 a.fr), .v (.int .u8 a.lf)]
theorem ask_at {l : List Ask_} {k : Nat} {y : Ask_} (h : l[k]? = some y) : (l.map askC)[0 + (k : Int).toNat]? = some [.int .u8 y.id.n, .int .u16 y.id.i, .int .u32 y.id.s, .int .u8 y.fr, .int .u8 y.lf] := by
  rw [Nat.zero_add, Int.toNat_natCast, List.getElem?_map, h]; rfl
theorem map_take_in {α β : Type} {f : α → β} {l : List α} {y : α} {k : Nat} (hy : l[k]? = some y) : (l.take (k + 1)).map f = (l.take k).map f ++ [f y] := by
  rw [List.take_add_one, hy, List.map_append]
  rfl
theorem filter_in {α : Type} {q : α → Bool} {l : List α} {y : α} {k : Nat} (hy : l[k]? = some y) (h : q y = true) : (l.take (k + 1)).filter q = (l.take k).filter q ++ [y] := by
  rw [List.take_add_one, hy, List.filter_append]
  simp [h]
theorem filter_out {α : Type} {q : α → Bool} {l : List α} {y : α} {k : Nat} (hy : l[k]? = some y) (h : q y = false) : (l.take (k + 1)).filter q = (l.take k).filter q := by
  rw [List.take_add_one, hy, List.filter_append]
  simp [h]
theorem filter_le {α : Type} (q : α → Bool) (l : List α) (k : Nat) : ((l.take k).filter q).length ≤ k := Nat.le_trans (List.length_filter_le _ _) (List.length_take_le _ _)
set_option maxRecDepth 100000 in
set_option maxHeartbeats 4000000 in
theorem right1_ok  (a : Ask_) : FnOK Try.prog GG 27 [] [askS a] (fun r _ ext => r = .v (.bool (decide (0 < a.lf))) ∧ ext = []) := by
  refine fn_val (C := seat) seat_ok [] GG_no (Try.func27) rfl rfl rfl rfl rfl (fun _ => rfl) rfl ?_
  repeat' ((try conv => whnf); first
    | (with_reducible refine OKv.go (C := seat) seat_ok ?_)
    | (with_reducible refine BB_true ?_)
    | (with_reducible refine BB_false ?_)
    | (with_reducible refine Both.mk ?_ ?_)
    | (with_reducible refine VS.mk ?_)
    | (refine PSem.go (C := seat) seat_ok ?_)
    | (refine And.intro (PlanOK.mk (by kernel_rfl) rfl (by kernel_rfl) (by kernel_rfl)) ?_)
    | (refine And.intro rfl (Exists.intro _ (And.intro (by first | assumption | rfl) ?_)))
    | (refine And.intro ⟨rfl, rfl, rfl⟩ ?_)
    | (refine And.intro (by omega) ?_)
    | (refine BB.mk (fun _h => ?_) (fun _h => ?_) <;> (first | (exact absurd _h (by decide)) | (exfalso; simp only [boolSet] at _h <;> omega) | skip)))
  all_goals (try conv => whnf)
  all_goals (try (refine Fin.mk ?_))
  all_goals (try (refine Fin.mk ?_))
  all_goals (refine ⟨bool_eq ?_, rfl⟩; first | rfl | grind)
set_option maxRecDepth 100000 in
set_option maxHeartbeats 4000000 in
theorem tick1_ok  (a : Ask_) : FnOK Try.prog GG 35 [] [askS a] (fun r _ ext => r = .v (.bool (decide (1 < a.lf))) ∧ ext = []) := by
  refine fn_val (C := seat) seat_ok [] GG_no (Try.func35) rfl rfl rfl rfl rfl (fun _ => rfl) rfl ?_
  repeat' ((try conv => whnf); first
    | (with_reducible refine OKv.go (C := seat) seat_ok ?_)
    | (with_reducible refine BB_true ?_)
    | (with_reducible refine BB_false ?_)
    | (with_reducible refine Both.mk ?_ ?_)
    | (with_reducible refine VS.mk ?_)
    | (refine PSem.go (C := seat) seat_ok ?_)
    | (refine And.intro (PlanOK.mk (by kernel_rfl) rfl (by kernel_rfl) (by kernel_rfl)) ?_)
    | (refine And.intro rfl (Exists.intro _ (And.intro (by first | assumption | rfl) ?_)))
    | (refine And.intro ⟨rfl, rfl, rfl⟩ ?_)
    | (refine And.intro (by omega) ?_)
    | (refine BB.mk (fun _h => ?_) (fun _h => ?_) <;> (first | (exact absurd _h (by decide)) | (exfalso; simp only [boolSet] at _h <;> omega) | skip)))
  all_goals (try conv => whnf)
  all_goals (try (refine Fin.mk ?_))
  all_goals (try (refine Fin.mk ?_))
  all_goals (refine ⟨bool_eq ?_, rfl⟩; first | rfl | grind)
set_option maxRecDepth 100000 in
set_option maxHeartbeats 4000000 in
theorem tick2_ok  (a : Ask_) : FnOK Try.prog GG 36 [] [askS a] (fun r _ ext => r = .v (.bool (decide (a.lf ≤ 1))) ∧ ext = []) := by
  refine fn_val (C := seat) seat_ok [] GG_no (Try.func36) rfl rfl rfl rfl rfl (fun _ => rfl) rfl ?_
  repeat' ((try conv => whnf); first
    | (with_reducible refine OKv.go (C := seat) seat_ok ?_)
    | (with_reducible refine BB_true ?_)
    | (with_reducible refine BB_false ?_)
    | (with_reducible refine Both.mk ?_ ?_)
    | (with_reducible refine VS.mk ?_)
    | (refine PSem.go (C := seat) seat_ok ?_)
    | (refine And.intro (PlanOK.mk (by kernel_rfl) rfl (by kernel_rfl) (by kernel_rfl)) ?_)
    | (refine And.intro rfl (Exists.intro _ (And.intro (by first | assumption | rfl) ?_)))
    | (refine And.intro ⟨rfl, rfl, rfl⟩ ?_)
    | (refine And.intro (by omega) ?_)
    | (refine BB.mk (fun _h => ?_) (fun _h => ?_) <;> (first | (exact absurd _h (by decide)) | (exfalso; simp only [boolSet] at _h <;> omega) | skip)))
  all_goals (try conv => whnf)
  all_goals (try (refine Fin.mk ?_))
  all_goals (try (refine Fin.mk ?_))
  all_goals (refine ⟨bool_eq ?_, rfl⟩; first | rfl | grind)
set_option maxRecDepth 100000 in
set_option maxHeartbeats 4000000 in
theorem add1_ok (x : Ask_) (a : Ask_) : FnOK Try.prog GG 31 [.ro 5 [askC x]] [askS a, .p (.o 0) 0 0 0] (fun r _ ext => r = .v (.bool (lessB a.id x.id)) ∧ ext = []) := by
  refine fn_val (C := seat) seat_ok [] GG_no (Try.func31) rfl rfl rfl rfl rfl (fun _ => rfl) rfl ?_
  repeat' ((try conv => whnf); first
    | (with_reducible refine OKv.go (C := seat) seat_ok ?_)
    | (with_reducible refine BB_true ?_)
    | (with_reducible refine BB_false ?_)
    | (with_reducible refine Both.mk ?_ ?_)
    | (with_reducible refine VS.mk ?_)
    | (refine PSem.go (C := seat) seat_ok ?_)
    | (refine And.intro (PlanOK.mk (by kernel_rfl) rfl (by kernel_rfl) (by kernel_rfl)) ?_)
    | (refine And.intro rfl (Exists.intro _ (And.intro (by first | assumption | rfl) ?_)))
    | (refine And.intro ⟨rfl, rfl, rfl⟩ ?_)
    | (refine call_ro [] (less_p a.id x.id) GG_no rfl rfl rfl trivial ?_; rintro r bs' ext ⟨rfl, rfl⟩)
    | (refine And.intro (by omega) ?_)
    | (refine BB.mk (fun _h => ?_) (fun _h => ?_) <;> (first | (exact absurd _h (by decide)) | (exfalso; simp only [boolSet] at _h <;> omega) | skip)))
  all_goals (try conv => whnf)
  all_goals (try (refine Fin.mk ?_))
  all_goals (try (refine Fin.mk ?_))
  all_goals (refine ⟨bool_eq ?_, rfl⟩; first | rfl | grind)
set_option maxRecDepth 100000 in
set_option maxHeartbeats 4000000 in
theorem add2_ok (x : Ask_) (a : Ask_) : FnOK Try.prog GG 33 [.ro 5 [askC x]] [askS a, .p (.o 0) 0 0 0] (fun r _ ext => r = .v (.bool (!lessB a.id x.id)) ∧ ext = []) := by
  refine fn_val (C := seat) seat_ok [] GG_no (Try.func33) rfl rfl rfl rfl rfl (fun _ => rfl) rfl ?_
  repeat' ((try conv => whnf); first
    | (with_reducible refine OKv.go (C := seat) seat_ok ?_)
    | (with_reducible refine BB_true ?_)
    | (with_reducible refine BB_false ?_)
    | (with_reducible refine Both.mk ?_ ?_)
    | (with_reducible refine VS.mk ?_)
    | (refine PSem.go (C := seat) seat_ok ?_)
    | (refine And.intro (PlanOK.mk (by kernel_rfl) rfl (by kernel_rfl) (by kernel_rfl)) ?_)
    | (refine And.intro rfl (Exists.intro _ (And.intro (by first | assumption | rfl) ?_)))
    | (refine And.intro ⟨rfl, rfl, rfl⟩ ?_)
    | (refine call_ro [] (less_p a.id x.id) GG_no rfl rfl rfl trivial ?_; rintro r bs' ext ⟨rfl, rfl⟩)
    | (refine And.intro (by omega) ?_)
    | (refine BB.mk (fun _h => ?_) (fun _h => ?_) <;> (first | (exact absurd _h (by decide)) | (exfalso; simp only [boolSet] at _h <;> omega) | skip)))
  all_goals (try conv => whnf)
  all_goals (try (refine Fin.mk ?_))
  all_goals (try (refine Fin.mk ?_))
  all_goals (refine ⟨bool_eq ?_, rfl⟩; first | rfl | grind)
set_option maxRecDepth 100000 in
set_option maxHeartbeats 4000000 in
theorem drop1_ok (x : Id_) (a : Ask_) : FnOK Try.prog GG 37 [.ro 3 [idC x]] [askS a, .p (.o 0) 0 0 0] (fun r _ ext => r = .v (.bool (!eqB a.id x)) ∧ ext = []) := by
  refine fn_val (C := seat) seat_ok [] GG_no (Try.func37) rfl rfl rfl rfl rfl (fun _ => rfl) rfl ?_
  repeat' ((try conv => whnf); first
    | (with_reducible refine OKv.go (C := seat) seat_ok ?_)
    | (with_reducible refine BB_true ?_)
    | (with_reducible refine BB_false ?_)
    | (with_reducible refine Both.mk ?_ ?_)
    | (with_reducible refine VS.mk ?_)
    | (refine PSem.go (C := seat) seat_ok ?_)
    | (refine And.intro (PlanOK.mk (by kernel_rfl) rfl (by kernel_rfl) (by kernel_rfl)) ?_)
    | (refine And.intro rfl (Exists.intro _ (And.intro (by first | assumption | rfl) ?_)))
    | (refine And.intro ⟨rfl, rfl, rfl⟩ ?_)
    | (refine And.intro (by omega) ?_)
    | (refine BB.mk (fun _h => ?_) (fun _h => ?_) <;> (first | (exact absurd _h (by decide)) | (exfalso; simp only [boolSet] at _h <;> omega) | skip)))
  all_goals (try conv => whnf)
  all_goals (try (refine Fin.mk ?_))
  all_goals (try (refine Fin.mk ?_))
  all_goals
    refine ⟨bool_eq ?_, rfl⟩
    rw [Bool.eq_iff_iff]
    simp only [eqB, boolSet] <;> omega
theorem keepn {g : Nat} {q : Ask_ → Bool} (y : Ask_) (hq : ∀ a, FnOK Try.prog GG g [] [askS a] (fun r _ ext => r = .v (.bool (q a)) ∧ ext = [])) (b : Bool) (hb : q y = b) : FnOK Try.prog GG g [] [askS y] (fun r _ ext => r = .v (.bool b) ∧ ext = []) := hb ▸ hq y
theorem keepc {sz : Nat} {c : List Value} {g : Nat} {q : Ask_ → Bool} (y : Ask_) (hq : ∀ a, FnOK Try.prog GG g [.ro sz [c]] [askS a, .p (.o 0) 0 0 0] (fun r _ ext => r = .v (.bool (q a)) ∧ ext = [])) (b : Bool) (hb : q y = b) : FnOK Try.prog GG g [.ro sz [c]] [askS y, .p (.o 0) 0 0 0] (fun r _ ext => r = .v (.bool b) ∧ ext = []) := hb ▸ hq y
set_option maxRecDepth 100000 in
set_option maxHeartbeats 4000000 in
theorem keep_n (l : List Ask_) (g cap : Nat) (q : Ask_ → Bool) (hl : l.length ≤ 1099511627776)  (hq : ∀ a, FnOK Try.prog GG g [] [askS a] (fun r _ ext => r = .v (.bool (q a)) ∧ ext = [])) : FnOK Try.prog GG 26 [.ro 5 (l.map askC)] [.s (.o 0) 5 0 l.length cap, .fn g []] (fun r _ ext => ∃ cap, (l.filter q).length ≤ cap ∧ r = .s (.n 0) 5 0 (l.filter q).length cap ∧ ext = [.row 28 5 cap ((l.filter q).map askC)]) := by
  refine fn_newR (C := seat) seat_ok [] GG_no (Try.func26) rfl rfl rfl rfl rfl rfl ?_
  repeat' ((try conv => whnf); first
    | (with_reducible refine OKv.go (C := seat) seat_ok ?_)
    | (with_reducible refine BB_true ?_)
    | (with_reducible refine BB_false ?_)
    | (with_reducible refine Both.mk ?_ ?_)
    | (with_reducible refine VS.mk ?_)
    | (refine PSem.go (C := seat) seat_ok ?_)
    | (refine And.intro (PlanOK.mk (by kernel_rfl) rfl (by kernel_rfl) (by kernel_rfl)) ?_)
    | (refine And.intro rfl (Exists.intro _ (And.intro (by first | assumption | rfl) ?_)))
    | (refine And.intro ⟨rfl, rfl, rfl⟩ ?_)
    | (refine And.intro (by omega) ?_)
    | (refine BB.mk (fun _h => ?_) (fun _h => ?_) <;> (first | (exact absurd _h (by decide)) | (exfalso; simp only [boolSet] at _h <;> omega) | skip)))
  all_goals (try conv => whnf)
  refine loop_rule (α := Nat × Nat) (fun p => p.1 ≤ l.length ∧ ((l.take p.1).filter q).length ≤ p.2) (fun p => { slots := [(0, .s (.o 0) 5 0 l.length cap), (1, .fn g []), (5, .s (.n 0) 5 0 ((l.take p.1).filter q).length p.2), (8, .s (.o 0) 5 0 l.length cap), (9, .v (.int .i64 l.length)), (10, .v (.int .i64 p.1))], nt := 23, mem := ⟨GG, [.ro 5 (l.map askC)], [.row 28 5 p.2 (((l.take p.1).filter q).map askC)]⟩ }) (fun p => l.length - p.1) (0, 0) ⟨Nat.zero_le _, Nat.zero_le _⟩ ⟨⟨[0], (by decide), GG_no, rfl, (SubOld.refl _ rfl), ⟨.inl (.inl ⟨rfl, rfl⟩), trivial⟩, ⟨.inl rfl, .inl rfl, .inr ⟨_, _, _, rfl, rfl⟩, .inl rfl, .inl rfl, .inl rfl, trivial⟩⟩, rfl⟩ ?_ (fun _ => rfl)
  rintro ⟨k, c'⟩ ⟨hk, hc⟩
  dsimp only at hk hc ⊢
  have hF := filter_le q l k
  refine vc_sound (C := seat) seat_ok (pl := []) ?_
  by_cases hlt : k < l.length
  · obtain ⟨y, hy⟩ : ∃ y, l[k]? = some y := ⟨_, List.getElem?_eq_getElem hlt⟩
    have hrow := ask_at hy
    cases hh : q y with
    | true =>
      repeat' ((try conv => whnf); first
        | (with_reducible refine OKv.go (C := seat) seat_ok ?_)
        | (with_reducible refine BB_true ?_)
        | (with_reducible refine BB_false ?_)
        | (with_reducible refine Both.mk ?_ ?_)
        | (with_reducible refine VS.mk ?_)
        | (refine PSem.go (C := seat) seat_ok ?_)
        | (refine And.intro (PlanOK.mk (by kernel_rfl) rfl (by kernel_rfl) (by kernel_rfl)) ?_)
        | (refine And.intro rfl (Exists.intro _ (And.intro (by first | assumption | rfl) ?_)))
        | (refine And.intro ⟨rfl, rfl, rfl⟩ ?_)
        | (refine call_ro [] ((keepn y hq true hh)) GG_no rfl rfl rfl trivial ?_; rintro r bs' ext ⟨rfl, rfl⟩)
        | (refine And.intro ⟨rfl, rfl, rfl, by rw [List.length_map]⟩ ?_)
        | (refine And.intro ⟨rfl, by rw [List.length_map]; omega⟩ ?_)
        | (refine And.intro (by first | omega | (dsimp only; omega) | exact ⟨rfl, Nat.le_refl _⟩) ?_)
        | (intro cap' hcap')
        | (refine And.intro (by omega) ?_)
        | (refine BB.mk (fun _h => ?_) (fun _h => ?_) <;> (first | (exact absurd _h (by decide)) | (exfalso; simp only [boolSet] at _h <;> omega) | skip)))
      all_goals (try conv => whnf)
      refine ⟨(k + 1, cap'), ⟨by dsimp only; omega, ?_⟩, by dsimp only; omega, ⟨⟨[3], by decide, GG_no, rfl, SubOld.refl _ rfl, ⟨.inr ?_, trivial⟩, ⟨.inl rfl, .inl rfl, .inl ?_, .inl rfl, .inl rfl, .inl (num_eq (by rw [IntKind.wrap_i64]; dsimp only; omega)), trivial⟩⟩, rfl⟩⟩
      · dsimp only
        rw [filter_in hy hh, List.length_append]
        simpa using hcap'
      · dsimp only
        rw [filter_in hy hh, List.map_append]
        rfl
      · dsimp only
        rw [filter_in hy hh, List.length_append]
        rfl
    | false =>
      repeat' ((try conv => whnf); first
        | (with_reducible refine OKv.go (C := seat) seat_ok ?_)
        | (with_reducible refine BB_true ?_)
        | (with_reducible refine BB_false ?_)
        | (with_reducible refine Both.mk ?_ ?_)
        | (with_reducible refine VS.mk ?_)
        | (refine PSem.go (C := seat) seat_ok ?_)
        | (refine And.intro (PlanOK.mk (by kernel_rfl) rfl (by kernel_rfl) (by kernel_rfl)) ?_)
        | (refine And.intro rfl (Exists.intro _ (And.intro (by first | assumption | rfl) ?_)))
        | (refine And.intro ⟨rfl, rfl, rfl⟩ ?_)
        | (refine call_ro [] ((keepn y hq false hh)) GG_no rfl rfl rfl trivial ?_; rintro r bs' ext ⟨rfl, rfl⟩)
        | (refine And.intro ⟨rfl, rfl, rfl, by rw [List.length_map]⟩ ?_)
        | (refine And.intro ⟨rfl, by rw [List.length_map]; omega⟩ ?_)
        | (refine And.intro (by first | omega | (dsimp only; omega) | exact ⟨rfl, Nat.le_refl _⟩) ?_)
        | (intro cap' hcap')
        | (refine And.intro (by omega) ?_)
        | (refine BB.mk (fun _h => ?_) (fun _h => ?_) <;> (first | (exact absurd _h (by decide)) | (exfalso; simp only [boolSet] at _h <;> omega) | skip)))
      all_goals (try conv => whnf)
      refine ⟨(k + 1, c'), ⟨by dsimp only; omega, ?_⟩, by dsimp only; omega, ⟨⟨[0], by decide, GG_no, rfl, SubOld.refl _ rfl, ⟨.inr ?_, trivial⟩, ⟨.inl rfl, .inl rfl, .inl ?_, .inl rfl, .inl rfl, .inl (num_eq (by rw [IntKind.wrap_i64]; dsimp only; omega)), trivial⟩⟩, rfl⟩⟩
      · dsimp only
        rw [filter_out hy hh]
        exact hc
      · dsimp only
        rw [filter_out hy hh]
        rfl
      · dsimp only
        rw [filter_out hy hh]
        rfl
  · have hs : l.take k = l := List.take_of_length_le (by omega)
    rw [hs] at hc hF ⊢
    repeat' ((try conv => whnf); first
      | (with_reducible refine OKv.go (C := seat) seat_ok ?_)
      | (with_reducible refine BB_true ?_)
      | (with_reducible refine BB_false ?_)
      | (with_reducible refine Both.mk ?_ ?_)
      | (with_reducible refine VS.mk ?_)
      | (refine PSem.go (C := seat) seat_ok ?_)
      | (refine And.intro (PlanOK.mk (by kernel_rfl) rfl (by kernel_rfl) (by kernel_rfl)) ?_)
      | (refine And.intro rfl (Exists.intro _ (And.intro (by first | assumption | rfl) ?_)))
      | (refine And.intro ⟨rfl, rfl, rfl⟩ ?_)
      | (refine And.intro (by omega) ?_)
      | (refine BB.mk (fun _h => ?_) (fun _h => ?_) <;> (first | (exact absurd _h (by decide)) | (exfalso; simp only [boolSet] at _h <;> omega) | skip)))
    all_goals (try conv => whnf)
    exact ⟨⟨[0], .s (.n 0) 5 0 (l.filter q).length c', [.row 28 5 c' ((l.filter q).map askC)], by decide, .inl (.inl rfl), ⟨.inr rfl, trivial⟩, c', hc, rfl, rfl⟩, rfl⟩
set_option maxRecDepth 100000 in
set_option maxHeartbeats 4000000 in
theorem keep_c (l : List Ask_) (g cap : Nat) (q : Ask_ → Bool) (hl : l.length ≤ 1099511627776) (sz : Nat) (c : List Value) (hq : ∀ a, FnOK Try.prog GG g [.ro sz [c]] [askS a, .p (.o 0) 0 0 0] (fun r _ ext => r = .v (.bool (q a)) ∧ ext = [])) : FnOK Try.prog GG 26 [.ro 5 (l.map askC), .ro sz [c]] [.s (.o 0) 5 0 l.length cap, .fn g [.p (.o 1) 0 0 0]] (fun r _ ext => ∃ cap, (l.filter q).length ≤ cap ∧ r = .s (.n 0) 5 0 (l.filter q).length cap ∧ ext = [.row 28 5 cap ((l.filter q).map askC)]) := by
  refine fn_newR (C := seat) seat_ok [] GG_no (Try.func26) rfl rfl rfl rfl rfl rfl ?_
  repeat' ((try conv => whnf); first
    | (with_reducible refine OKv.go (C := seat) seat_ok ?_)
    | (with_reducible refine BB_true ?_)
    | (with_reducible refine BB_false ?_)
    | (with_reducible refine Both.mk ?_ ?_)
    | (with_reducible refine VS.mk ?_)
    | (refine PSem.go (C := seat) seat_ok ?_)
    | (refine And.intro (PlanOK.mk (by kernel_rfl) rfl (by kernel_rfl) (by kernel_rfl)) ?_)
    | (refine And.intro rfl (Exists.intro _ (And.intro (by first | assumption | rfl) ?_)))
    | (refine And.intro ⟨rfl, rfl, rfl⟩ ?_)
    | (refine And.intro (by omega) ?_)
    | (refine BB.mk (fun _h => ?_) (fun _h => ?_) <;> (first | (exact absurd _h (by decide)) | (exfalso; simp only [boolSet] at _h <;> omega) | skip)))
  all_goals (try conv => whnf)
  refine loop_rule (α := Nat × Nat) (fun p => p.1 ≤ l.length ∧ ((l.take p.1).filter q).length ≤ p.2) (fun p => { slots := [(0, .s (.o 0) 5 0 l.length cap), (1, .fn g [.p (.o 1) 0 0 0]), (5, .s (.n 0) 5 0 ((l.take p.1).filter q).length p.2), (8, .s (.o 0) 5 0 l.length cap), (9, .v (.int .i64 l.length)), (10, .v (.int .i64 p.1))], nt := 23, mem := ⟨GG, [.ro 5 (l.map askC), .ro sz [c]], [.row 28 5 p.2 (((l.take p.1).filter q).map askC)]⟩ }) (fun p => l.length - p.1) (0, 0) ⟨Nat.zero_le _, Nat.zero_le _⟩ ⟨⟨[0], (by decide), GG_no, rfl, (SubOld.refl _ rfl), ⟨.inl (.inl ⟨rfl, rfl⟩), trivial⟩, ⟨.inl rfl, .inl rfl, .inr ⟨_, _, _, rfl, rfl⟩, .inl rfl, .inl rfl, .inl rfl, trivial⟩⟩, rfl⟩ ?_ (fun _ => rfl)
  rintro ⟨k, c'⟩ ⟨hk, hc⟩
  dsimp only at hk hc ⊢
  have hF := filter_le q l k
  refine vc_sound (C := seat) seat_ok (pl := []) ?_
  by_cases hlt : k < l.length
  · obtain ⟨y, hy⟩ : ∃ y, l[k]? = some y := ⟨_, List.getElem?_eq_getElem hlt⟩
    have hrow := ask_at hy
    cases hh : q y with
    | true =>
      repeat' ((try conv => whnf); first
        | (with_reducible refine OKv.go (C := seat) seat_ok ?_)
        | (with_reducible refine BB_true ?_)
        | (with_reducible refine BB_false ?_)
        | (with_reducible refine Both.mk ?_ ?_)
        | (with_reducible refine VS.mk ?_)
        | (refine PSem.go (C := seat) seat_ok ?_)
        | (refine And.intro (PlanOK.mk (by kernel_rfl) rfl (by kernel_rfl) (by kernel_rfl)) ?_)
        | (refine And.intro rfl (Exists.intro _ (And.intro (by first | assumption | rfl) ?_)))
        | (refine And.intro ⟨rfl, rfl, rfl⟩ ?_)
        | (refine call_ro [.o 1] ((keepc y hq true hh)) GG_no rfl rfl rfl ⟨⟨_, rfl, rfl, rfl⟩, trivial⟩ ?_; rintro r bs' ext ⟨rfl, rfl⟩)
        | (refine And.intro ⟨rfl, rfl, rfl, by rw [List.length_map]⟩ ?_)
        | (refine And.intro ⟨rfl, by rw [List.length_map]; omega⟩ ?_)
        | (refine And.intro (by first | omega | (dsimp only; omega) | exact ⟨rfl, Nat.le_refl _⟩) ?_)
        | (intro cap' hcap')
        | (refine And.intro (by omega) ?_)
        | (refine BB.mk (fun _h => ?_) (fun _h => ?_) <;> (first | (exact absurd _h (by decide)) | (exfalso; simp only [boolSet] at _h <;> omega) | skip)))
      all_goals (try conv => whnf)
      refine ⟨(k + 1, cap'), ⟨by dsimp only; omega, ?_⟩, by dsimp only; omega, ⟨⟨[3], by decide, GG_no, rfl, SubOld.refl _ rfl, ⟨.inr ?_, trivial⟩, ⟨.inl rfl, .inl rfl, .inl ?_, .inl rfl, .inl rfl, .inl (num_eq (by rw [IntKind.wrap_i64]; dsimp only; omega)), trivial⟩⟩, rfl⟩⟩
      · dsimp only
        rw [filter_in hy hh, List.length_append]
        simpa using hcap'
      · dsimp only
        rw [filter_in hy hh, List.map_append]
        rfl
      · dsimp only
        rw [filter_in hy hh, List.length_append]
        rfl
    | false =>
      repeat' ((try conv => whnf); first
        | (with_reducible refine OKv.go (C := seat) seat_ok ?_)
        | (with_reducible refine BB_true ?_)
        | (with_reducible refine BB_false ?_)
        | (with_reducible refine Both.mk ?_ ?_)
        | (with_reducible refine VS.mk ?_)
        | (refine PSem.go (C := seat) seat_ok ?_)
        | (refine And.intro (PlanOK.mk (by kernel_rfl) rfl (by kernel_rfl) (by kernel_rfl)) ?_)
        | (refine And.intro rfl (Exists.intro _ (And.intro (by first | assumption | rfl) ?_)))
        | (refine And.intro ⟨rfl, rfl, rfl⟩ ?_)
        | (refine call_ro [.o 1] ((keepc y hq false hh)) GG_no rfl rfl rfl ⟨⟨_, rfl, rfl, rfl⟩, trivial⟩ ?_; rintro r bs' ext ⟨rfl, rfl⟩)
        | (refine And.intro ⟨rfl, rfl, rfl, by rw [List.length_map]⟩ ?_)
        | (refine And.intro ⟨rfl, by rw [List.length_map]; omega⟩ ?_)
        | (refine And.intro (by first | omega | (dsimp only; omega) | exact ⟨rfl, Nat.le_refl _⟩) ?_)
        | (intro cap' hcap')
        | (refine And.intro (by omega) ?_)
        | (refine BB.mk (fun _h => ?_) (fun _h => ?_) <;> (first | (exact absurd _h (by decide)) | (exfalso; simp only [boolSet] at _h <;> omega) | skip)))
      all_goals (try conv => whnf)
      refine ⟨(k + 1, c'), ⟨by dsimp only; omega, ?_⟩, by dsimp only; omega, ⟨⟨[0], by decide, GG_no, rfl, SubOld.refl _ rfl, ⟨.inr ?_, trivial⟩, ⟨.inl rfl, .inl rfl, .inl ?_, .inl rfl, .inl rfl, .inl (num_eq (by rw [IntKind.wrap_i64]; dsimp only; omega)), trivial⟩⟩, rfl⟩⟩
      · dsimp only
        rw [filter_out hy hh]
        exact hc
      · dsimp only
        rw [filter_out hy hh]
        rfl
      · dsimp only
        rw [filter_out hy hh]
        rfl
  · have hs : l.take k = l := List.take_of_length_le (by omega)
    rw [hs] at hc hF ⊢
    repeat' ((try conv => whnf); first
      | (with_reducible refine OKv.go (C := seat) seat_ok ?_)
      | (with_reducible refine BB_true ?_)
      | (with_reducible refine BB_false ?_)
      | (with_reducible refine Both.mk ?_ ?_)
      | (with_reducible refine VS.mk ?_)
      | (refine PSem.go (C := seat) seat_ok ?_)
      | (refine And.intro (PlanOK.mk (by kernel_rfl) rfl (by kernel_rfl) (by kernel_rfl)) ?_)
      | (refine And.intro rfl (Exists.intro _ (And.intro (by first | assumption | rfl) ?_)))
      | (refine And.intro ⟨rfl, rfl, rfl⟩ ?_)
      | (refine And.intro (by omega) ?_)
      | (refine BB.mk (fun _h => ?_) (fun _h => ?_) <;> (first | (exact absurd _h (by decide)) | (exfalso; simp only [boolSet] at _h <;> omega) | skip)))
    all_goals (try conv => whnf)
    exact ⟨⟨[0], .s (.n 0) 5 0 (l.filter q).length c', [.row 28 5 c' ((l.filter q).map askC)], by decide, .inl (.inl rfl), ⟨.inr rfl, trivial⟩, c', hc, rfl, rfl⟩, rfl⟩
end Go.Proofs.Ytcjcnlahieddoaa
