/- Package pulse, by computing: ticks; rows compared. -/
import Derived.Test.YtnkhdnmilncidaaU14c
namespace Go.Proofs.Ytnkhdnmilncidaa
open Go.RowKit

def tickM (af : Int) (k : Nat) (m : Mb) : Mb := if k = 0 ∨ upB m = false then m else ⟨m.i, if m.s = 1 ∧ af ≤ min m.q 254 + 1 then 2 else m.s, min m.q 254 + 1⟩
def goneAt (af : Int) (l : List Mb) (k : Nat) : Bool := match l[k]? with
  | some m => decide (k ≠ 0) && upB m && decide (m.s = 1) && decide (af ≤ min m.q 254 + 1)
  | none => false
theorem goneAt_in {af : Int} {l : List Mb} {k : Nat} {m : Mb} (h : l[k]? = some m) : goneAt af l k = (decide (k ≠ 0) && upB m && decide (m.s = 1) && decide (af ≤ min m.q 254 + 1)) := by unfold goneAt; rw [h]
def tickL (af : Int) (l : List Mb) : List Mb := l.mapIdx (tickM af)
def goneL (af : Int) (l : List Mb) : List Nat := (List.range l.length).filter (goneAt af l)
theorem h00 : IntKind.i64.wrap 0 = 0 := by rw [IntKind.wrap_i64]; rfl
theorem midF_row2 {f : Nat → Mb → Mb} {l : List Mb} {k : Nat} {y : Mb} {a b c : Int} (r : List Value) (h : l[k]? = some y) (hf : f k y = ⟨a, b, c⟩) : (((midF f l k).map mbC).set (0 + (k : Int).toNat) r).set (0 + (k : Int).toNat) [.int .u16 a, .int .u8 b, .int .u8 c] = (midF f l (k + 1)).map mbC := by
  rw [List.set_set]
  exact midF_row h hf
theorem set_read {f : Nat → Mb → Mb} {l : List Mb} {k : Nat} {y : Mb} (r : List Value) (h : l[k]? = some y) : (((midF f l k).map mbC).set (0 + (k : Int).toNat) r)[0 + (k : Int).toNat]? = some r := by
  have hk := getElem?_lt h
  rw [Nat.zero_add, Int.toNat_natCast, List.getElem?_set_self (by rw [List.length_map, midF_len]; exact hk)]
set_option maxRecDepth 100000 in
set_option maxHeartbeats 4000000 in
theorem tick_ok (l : List Mb) (n cap : Nat) (af : Int) (hn : l.length = n) (hc : n ≤ cap) (hl : n ≤ 256) (hok : ∀ y ∈ l, y.ok) : FnOK Try.prog GG 20 [.ro 3 (l.map mbC)] [.s (.o 0) 3 0 n cap, .v (.int .u8 0), .v (.int .i64 af)] (fun r _ ext => ∃ c1 c2, n ≤ c1 ∧ (goneL af l).length ≤ c2 ∧ r = .tup [.s (.n 0) 3 0 n c1, .s (.n 1) 1 0 (goneL af l).length c2] ∧ ext = [.row 26 3 c1 ((tickL af l).map mbC), .row 5 1 c2 ((goneL af l).map bK)]) := by
  have ew : (0 : Int) = 0 := rfl
  have ew2 : (0 : Int) = 0 := rfl
  have ew3 : (0 : Int) = 0 := rfl
  have ew4 : (0 : Int) = 0 := rfl
  refine fn_newR (C := seat) seat_ok [] GG_no (Try.func20) rfl rfl rfl rfl rfl rfl ?_
  repeat' ((try conv => whnf); first
    | (with_reducible refine OKv.go (C := seat) seat_ok ?_)
    | (with_reducible refine BB_true ?_)
    | (with_reducible refine BB_false ?_)
    | (with_reducible refine Both.mk ?_ ?_)
    | (with_reducible refine VS.mk ?_)
    | (refine PSem.go (C := seat) seat_ok ?_)
    | (refine And.intro (PlanOK.mk (by kernel_rfl) rfl (by kernel_rfl) (by kernel_rfl)) ?_)
    | (refine And.intro rfl (Exists.intro _ (And.intro (by first | assumption | rfl) ?_)))
    | (refine And.intro ⟨rfl, rfl, rfl⟩ ?_)
    | (refine call_ro [.o 0] (clone_ok l n _ hn hc (by omega)) GG_no rfl rfl rfl ⟨⟨_, rfl, rfl, rfl⟩, trivial⟩ ?_; rintro r bs' ext ⟨ca, hca, rfl, rfl⟩)
    | (refine And.intro (by omega) ?_)
    | (refine BB.mk (fun _h => ?_) (fun _h => ?_) <;> (first | (exact absurd _h (by decide)) | (exfalso; simp only [h00, ew, ew2, ew3, ew4, boolSet] at _h <;> omega) | skip)))
  all_goals (try conv => whnf)
  clear ew ew2 ew3 ew4
  refine loop_rule (α := Nat × Nat) (fun p => p.1 ≤ n ∧ ((List.range p.1).filter (goneAt af l)).length ≤ p.2) (fun p => { slots := [(1, .v (.int .u8 0)), (2, .v (.int .i64 af)), (8, .s (.n 0) 3 0 n ca), (9, .s (.n 1) 1 0 ((List.range p.1).filter (goneAt af l)).length p.2), (15, .v (.int .i64 n)), (16, .v (.int .i64 p.1))], nt := 67, mem := ⟨GG, [.ro 3 (l.map mbC)], [.row 26 3 ca ((midF (tickM af) l p.1).map mbC), .row 5 1 p.2 (((List.range p.1).filter (goneAt af l)).map bK)]⟩ }) (fun p => n - p.1) (0, 0) ⟨Nat.zero_le _, Nat.zero_le _⟩ ⟨⟨[0, 1], (by decide), GG_no, rfl, (SubOld.refl _ rfl), ⟨.inr (by rw [midF_zero]; rfl), .inl (.inl ⟨rfl, rfl⟩), trivial⟩, ⟨.inl rfl, .inl rfl, .inl rfl, .inr ⟨_, _, _, rfl, rfl⟩, .inl rfl, .inl rfl, trivial⟩⟩, rfl⟩ ?_ (fun _ => rfl)
  rintro ⟨k, c'⟩ ⟨hk, hc'⟩
  dsimp only at hk hc' ⊢
  have hF := range_le (goneAt af l) k
  refine vc_sound (C := seat) seat_ok (pl := []) ?_
  by_cases hlt : k < n
  · obtain ⟨y, hy⟩ : ∃ y, l[k]? = some y := ⟨_, List.getElem?_eq_getElem (by omega)⟩
    have hyo := hok y (List.mem_of_getElem? hy)
    have hq0 := hyo.q0
    have hq1 := hyo.q1
    have hrow := mb_at (midF_at (f := tickM af) hy)
    have hga := goneAt_in (af := af) hy
    have hw : IntKind.u8.wrap (k : Int) = (k : Int) := by rw [IntKind.wrap_u8]; omega
    obtain ⟨Q, hQ⟩ : ∃ Q, Q = min y.q 254 + 1 := ⟨_, rfl⟩
    have hQ0 : 0 ≤ Q ∧ Q ≤ 255 := by omega
    have ew : (IntKind.u8.wrap ((bif false then if (254 : Int) > y.q then 254 else y.q else if (254 : Int) < y.q then 254 else y.q) + 1)) = Q := by
      rw [hQ, IntKind.wrap_u8]; simp only [cond_false]; split <;> omega
    have ew3 : (IntKind.u8.wrap ((bif false then if y.q < 254 then 254 else y.q else if (254 : Int) < y.q then 254 else y.q) + 1)) = Q := ew
    have ew4 : (IntKind.u8.wrap ((if (254 : Int) < y.q then 254 else y.q) + 1)) = Q := ew
    have ew2 : IntKind.i64.wrap Q = Q := by rw [IntKind.wrap_i64]; omega
    have hset := set_read (f := tickM af) [.int .u16 y.i, .int .u8 y.s, .int .u8 (IntKind.u8.wrap ((bif false then if (254 : Int) > y.q then 254 else y.q else if (254 : Int) < y.q then 254 else y.q) + 1))] hy
    rw [← hQ] at hga
    by_cases hk0 : k = 0 ∨ upB y = false
    · have hf : tickM af k y = y := if_pos hk0
      have hs := midF_same (f := tickM af) hy hf
      have hg : goneAt af l k = false := by rw [hga]; rcases hk0 with h | h <;> simp [h]
      cases hu : upB y with
      | true =>
        have hk00 : k = 0 := by
          rcases hk0 with h | h
          · exact h
          · rw [hu] at h; cases h
        repeat' ((try conv => whnf); first
          | (with_reducible refine OKv.go (C := seat) seat_ok ?_)
          | (with_reducible refine BB_true ?_)
          | (with_reducible refine BB_false ?_)
          | (with_reducible refine Both.mk ?_ ?_)
          | (with_reducible refine VS.mk ?_)
          | (refine PSem.go (C := seat) seat_ok ?_)
          | (refine And.intro (PlanOK.mk (by kernel_rfl) rfl (by kernel_rfl) (by kernel_rfl)) ?_)
          | (refine And.intro rfl (Exists.intro _ (And.intro (by first | assumption | rfl) ?_)))
          | (refine And.intro ⟨rfl, rfl, rfl⟩ ?_)
          | (refine call_ro [] (up_is y true hu) GG_no rfl rfl rfl trivial ?_; rintro r bs' ext ⟨rfl, rfl⟩)
          | (refine And.intro (by omega) ?_)
          | (refine BB.mk (fun _h => ?_) (fun _h => ?_) <;> (first | (exact absurd _h (by decide)) | (exfalso; simp only [h00, ew, ew2, ew3, ew4, boolSet] at _h <;> omega) | skip)))
        all_goals (try conv => whnf)
        refine ⟨(k + 1, c'), ⟨by dsimp only; omega, ?_⟩, by dsimp only; omega, ⟨⟨[0, 1], by decide, GG_no, rfl, SubOld.refl _ rfl, ⟨.inr ?_, .inr ?_, trivial⟩, ⟨.inl rfl, .inl rfl, .inl rfl, .inl ?_, .inl rfl, .inl (num_eq (by rw [IntKind.wrap_i64]; dsimp only; omega)), trivial⟩⟩, rfl⟩⟩
        · dsimp only
          rw [range_out hg]
          exact hc'
        · dsimp only
          exact congrArg (fun z : List Mb => some (SB.row 26 3 ca (z.map mbC))) hs
        · dsimp only
          rw [range_out hg]
          rfl
        · dsimp only
          rw [range_out hg]
          rfl
      | false =>
        repeat' ((try conv => whnf); first
          | (with_reducible refine OKv.go (C := seat) seat_ok ?_)
          | (with_reducible refine BB_true ?_)
          | (with_reducible refine BB_false ?_)
          | (with_reducible refine Both.mk ?_ ?_)
          | (with_reducible refine VS.mk ?_)
          | (refine PSem.go (C := seat) seat_ok ?_)
          | (refine And.intro (PlanOK.mk (by kernel_rfl) rfl (by kernel_rfl) (by kernel_rfl)) ?_)
          | (refine And.intro rfl (Exists.intro _ (And.intro (by first | assumption | rfl) ?_)))
          | (refine And.intro ⟨rfl, rfl, rfl⟩ ?_)
          | (refine call_ro [] (up_is y false hu) GG_no rfl rfl rfl trivial ?_; rintro r bs' ext ⟨rfl, rfl⟩)
          | (refine And.intro (by omega) ?_)
          | (refine BB.mk (fun _h => ?_) (fun _h => ?_) <;> (first | (exact absurd _h (by decide)) | (exfalso; simp only [h00, ew, ew2, ew3, ew4, boolSet] at _h <;> omega) | skip)))
        all_goals (try conv => whnf)
        all_goals
          refine ⟨(k + 1, c'), ⟨by dsimp only; omega, ?_⟩, by dsimp only; omega, ⟨⟨[0, 1], by decide, GG_no, rfl, SubOld.refl _ rfl, ⟨.inr ?_, .inr ?_, trivial⟩, ⟨.inl rfl, .inl rfl, .inl rfl, .inl ?_, .inl rfl, .inl (num_eq (by rw [IntKind.wrap_i64]; dsimp only; omega)), trivial⟩⟩, rfl⟩⟩
          · dsimp only
            rw [range_out hg]
            exact hc'
          · dsimp only
            exact congrArg (fun z : List Mb => some (SB.row 26 3 ca (z.map mbC))) hs
          · dsimp only
            rw [range_out hg]
            rfl
          · dsimp only
            rw [range_out hg]
            rfl
    · obtain ⟨hk1, hu⟩ : k ≠ 0 ∧ upB y = true := ⟨fun h => hk0 (.inl h), by cases h : upB y; exact absurd (.inr h) hk0; rfl⟩
      by_cases hs1 : y.s = 1
      · by_cases haf : af ≤ Q
        · have hf : tickM af k y = ⟨y.i, 2, (IntKind.u8.wrap ((bif false then if (254 : Int) > y.q then 254 else y.q else if (254 : Int) < y.q then 254 else y.q) + 1))⟩ := by rw [ew, tickM, if_neg hk0, ← hQ, if_pos ⟨hs1, haf⟩]
          have hg : goneAt af l k = true := by rw [hga]; simp [hk1, hu, hs1, haf]
          repeat' ((try conv => whnf); first
            | (with_reducible refine OKv.go (C := seat) seat_ok ?_)
            | (with_reducible refine BB_true ?_)
            | (with_reducible refine BB_false ?_)
            | (with_reducible refine Both.mk ?_ ?_)
            | (with_reducible refine VS.mk ?_)
            | (refine PSem.go (C := seat) seat_ok ?_)
            | (refine And.intro (PlanOK.mk (by kernel_rfl) rfl (by kernel_rfl) (by kernel_rfl)) ?_)
            | (refine And.intro rfl (Exists.intro _ (And.intro (by first | assumption | rfl) ?_)))
            | (refine And.intro ⟨rfl, rfl, rfl⟩ ?_)
            | (refine call_ro [] (up_is y true hu) GG_no rfl rfl rfl trivial ?_; rintro r bs' ext ⟨rfl, rfl⟩)
            | (refine And.intro ⟨rfl, rfl, rfl, by rw [List.length_map]⟩ ?_)
            | (refine And.intro ⟨rfl, rfl, rfl, by rw [List.length_map, List.length_map]⟩ ?_)
            | (refine And.intro ⟨rfl, by rw [List.length_map]; omega⟩ ?_)
            | (refine And.intro (by first | omega | (dsimp only; omega) | exact ⟨rfl, Nat.le_refl _⟩) ?_)
            | (intro cap' hcap')
            | (refine And.intro (by omega) ?_)
            | (refine BB.mk (fun _h => ?_) (fun _h => ?_) <;> (first | (exact absurd _h (by decide)) | (exfalso; simp only [h00, ew, ew2, ew3, ew4, boolSet] at _h <;> omega) | skip)))
          all_goals (try conv => whnf)
          refine ⟨(k + 1, cap'), ⟨by dsimp only; omega, ?_⟩, by dsimp only; omega, ⟨⟨[0, 3], by decide, GG_no, rfl, SubOld.refl _ rfl, ⟨.inr ?_, .inr ?_, trivial⟩, ⟨.inl rfl, .inl rfl, .inl rfl, .inl ?_, .inl rfl, .inl (num_eq (by rw [IntKind.wrap_i64]; dsimp only; omega)), trivial⟩⟩, rfl⟩⟩
          · dsimp only
            rw [range_in hg, List.length_append]
            simpa using hcap'
          · dsimp only
            exact congrArg (fun z => some (SB.row 26 3 ca z)) (midF_row2 _ hy hf)
          · dsimp only
            rw [range_in hg, List.map_append, hw]
            rfl
          · dsimp only
            rw [range_in hg, List.length_append]
            rfl
        · have hf : tickM af k y = ⟨y.i, y.s, (IntKind.u8.wrap ((bif false then if (254 : Int) > y.q then 254 else y.q else if (254 : Int) < y.q then 254 else y.q) + 1))⟩ := by rw [ew, tickM, if_neg hk0, ← hQ, if_neg (by omega)]
          have hg : goneAt af l k = false := by rw [hga]; simp [haf]
          repeat' ((try conv => whnf); first
            | (with_reducible refine OKv.go (C := seat) seat_ok ?_)
            | (with_reducible refine BB_true ?_)
            | (with_reducible refine BB_false ?_)
            | (with_reducible refine Both.mk ?_ ?_)
            | (with_reducible refine VS.mk ?_)
            | (refine PSem.go (C := seat) seat_ok ?_)
            | (refine And.intro (PlanOK.mk (by kernel_rfl) rfl (by kernel_rfl) (by kernel_rfl)) ?_)
            | (refine And.intro rfl (Exists.intro _ (And.intro (by first | assumption | rfl) ?_)))
            | (refine And.intro ⟨rfl, rfl, rfl⟩ ?_)
            | (refine call_ro [] (up_is y true hu) GG_no rfl rfl rfl trivial ?_; rintro r bs' ext ⟨rfl, rfl⟩)
            | (refine And.intro ⟨rfl, rfl, rfl, by rw [List.length_map]⟩ ?_)
            | (refine And.intro ⟨rfl, rfl, rfl, by rw [List.length_map, List.length_map]⟩ ?_)
            | (refine And.intro ⟨rfl, by rw [List.length_map]; omega⟩ ?_)
            | (refine And.intro (by first | omega | (dsimp only; omega) | exact ⟨rfl, Nat.le_refl _⟩) ?_)
            | (intro cap' hcap')
            | (refine And.intro (by omega) ?_)
            | (refine BB.mk (fun _h => ?_) (fun _h => ?_) <;> (first | (exact absurd _h (by decide)) | (exfalso; simp only [h00, ew, ew2, ew3, ew4, boolSet] at _h <;> omega) | skip)))
          all_goals (try conv => whnf)
          refine ⟨(k + 1, c'), ⟨by dsimp only; omega, ?_⟩, by dsimp only; omega, ⟨⟨[0, 1], by decide, GG_no, rfl, SubOld.refl _ rfl, ⟨.inr ?_, .inr ?_, trivial⟩, ⟨.inl rfl, .inl rfl, .inl rfl, .inl ?_, .inl rfl, .inl (num_eq (by rw [IntKind.wrap_i64]; dsimp only; omega)), trivial⟩⟩, rfl⟩⟩
          · dsimp only
            rw [range_out hg]
            exact hc'
          · dsimp only
            exact congrArg (fun z => some (SB.row 26 3 ca z)) (midF_row hy hf)
          · dsimp only
            rw [range_out hg]
            rfl
          · dsimp only
            rw [range_out hg]
            rfl
      · have hf : tickM af k y = ⟨y.i, y.s, (IntKind.u8.wrap ((bif false then if (254 : Int) > y.q then 254 else y.q else if (254 : Int) < y.q then 254 else y.q) + 1))⟩ := by rw [ew, tickM, if_neg hk0, ← hQ, if_neg (by omega)]
        have hg : goneAt af l k = false := by rw [hga]; simp [hs1]
        repeat' ((try conv => whnf); first
          | (with_reducible refine OKv.go (C := seat) seat_ok ?_)
          | (with_reducible refine BB_true ?_)
          | (with_reducible refine BB_false ?_)
          | (with_reducible refine Both.mk ?_ ?_)
          | (with_reducible refine VS.mk ?_)
          | (refine PSem.go (C := seat) seat_ok ?_)
          | (refine And.intro (PlanOK.mk (by kernel_rfl) rfl (by kernel_rfl) (by kernel_rfl)) ?_)
          | (refine And.intro rfl (Exists.intro _ (And.intro (by first | assumption | rfl) ?_)))
          | (refine And.intro ⟨rfl, rfl, rfl⟩ ?_)
          | (refine call_ro [] (up_is y true hu) GG_no rfl rfl rfl trivial ?_; rintro r bs' ext ⟨rfl, rfl⟩)
          | (refine And.intro ⟨rfl, rfl, rfl, by rw [List.length_map]⟩ ?_)
          | (refine And.intro ⟨rfl, rfl, rfl, by rw [List.length_map, List.length_map]⟩ ?_)
          | (refine And.intro ⟨rfl, by rw [List.length_map]; omega⟩ ?_)
          | (refine And.intro (by first | omega | (dsimp only; omega) | exact ⟨rfl, Nat.le_refl _⟩) ?_)
          | (intro cap' hcap')
          | (refine And.intro (by omega) ?_)
          | (refine BB.mk (fun _h => ?_) (fun _h => ?_) <;> (first | (exact absurd _h (by decide)) | (exfalso; simp only [h00, ew, ew2, ew3, ew4, boolSet] at _h <;> omega) | skip)))
        all_goals (try conv => whnf)
        refine ⟨(k + 1, c'), ⟨by dsimp only; omega, ?_⟩, by dsimp only; omega, ⟨⟨[0, 1], by decide, GG_no, rfl, SubOld.refl _ rfl, ⟨.inr ?_, .inr ?_, trivial⟩, ⟨.inl rfl, .inl rfl, .inl rfl, .inl ?_, .inl rfl, .inl (num_eq (by rw [IntKind.wrap_i64]; dsimp only; omega)), trivial⟩⟩, rfl⟩⟩
        · dsimp only
          rw [range_out hg]
          exact hc'
        · dsimp only
          exact congrArg (fun z => some (SB.row 26 3 ca z)) (midF_row hy hf)
        · dsimp only
          rw [range_out hg]
          rfl
        · dsimp only
          rw [range_out hg]
          rfl
  · obtain rfl : k = l.length := by omega
    have he : midF (tickM af) l l.length = tickL af l := midF_end (Nat.le_refl _)
    have ew : (0 : Int) = 0 := rfl
    have ew2 : (0 : Int) = 0 := rfl
    have ew3 : (0 : Int) = 0 := rfl
    have ew4 : (0 : Int) = 0 := rfl
    rw [he]
    repeat' ((try conv => whnf); first
      | (with_reducible refine OKv.go (C := seat) seat_ok ?_)
      | (with_reducible refine BB_true ?_)
      | (with_reducible refine BB_false ?_)
      | (with_reducible refine Both.mk ?_ ?_)
      | (with_reducible refine VS.mk ?_)
      | (refine PSem.go (C := seat) seat_ok ?_)
      | (refine And.intro (PlanOK.mk (by kernel_rfl) rfl (by kernel_rfl) (by kernel_rfl)) ?_)
      | (refine And.intro rfl (Exists.intro _ (And.intro (by first | assumption | rfl) ?_)))
      | (refine And.intro ⟨rfl, rfl, rfl⟩ ?_)
      | (refine And.intro (by omega) ?_)
      | (refine BB.mk (fun _h => ?_) (fun _h => ?_) <;> (first | (exact absurd _h (by decide)) | (exfalso; simp only [h00, ew, ew2, ew3, ew4, boolSet] at _h <;> omega) | skip)))
    all_goals (try conv => whnf)
    exact ⟨⟨[0, 1], .tup [.s (.n 0) 3 0 n ca, .s (.n 1) 1 0 (goneL af l).length c'], [.row 26 3 ca ((tickL af l).map mbC), .row 5 1 c' ((goneL af l).map bK)], by decide, .inr ⟨_, _, rfl, rfl, .inl rfl, .inl rfl, trivial⟩, ⟨.inr rfl, .inr rfl, trivial⟩, ca, c', hca, hc', rfl, rfl⟩, rfl⟩
end Go.Proofs.Ytnkhdnmilncidaa
