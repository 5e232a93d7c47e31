/- Law IdentRuns, by computing. -/
import Derived.Test.YtoigdnfepmbpbaaOpen07
namespace Go.Proofs.Ytoigdnfepmbpbaa
open Go.RowKit

def runL (n i : Int) (k : Nat) : List Id_ := (List.range k).map fun j : Nat => ⟨n, i, (j : Int) + 1⟩
theorem runL_len (n i : Int) (k : Nat) : (runL n i k).length = k := by simp [runL]
theorem runL_succ (n i : Int) (k : Nat) : runL n i (k + 1) = runL n i k ++ [⟨n, i, (k : Int) + 1⟩] := by simp [runL, List.range_succ]
theorem runL_at {n i : Int} {k j : Nat} {y : Id_} (h : (runL n i k)[j]? = some y) : y = ⟨n, i, (j : Int) + 1⟩ := by
  simp only [runL, List.getElem?_map, Option.map_eq_some_iff] at h
  obtain ⟨a, h1, rfl⟩ := h
  have := List.getElem?_eq_some_iff.1 h1
  obtain ⟨h2, h3⟩ := this
  simp at h3
  subst h3
  rfl
theorem runL_rises (n i : Int) (k : Nat) : risingB (runL n i k) = true := by
  rw [rising_iff]
  intro j y z _ hy hz
  rw [runL_at hy, runL_at hz]
  refine decide_eq_true ?_
  dsimp only
  omega
theorem rising_yes (l : List Id_) (cap : Nat) (hl : l.length ≤ 1099511627776) (hr : risingB l = true) : FnOK Try.prog GG 15 [.ro 3 (l.map idC)] [.s (.o 0) 3 0 l.length cap] (fun r _ ext => r = .v (.bool true) ∧ ext = []) := by
  refine (rising_p l cap hl).mono ?_
  rintro r bs' ext ⟨rfl, rfl⟩
  exact ⟨by rw [hr], rfl⟩
set_option maxRecDepth 100000 in
set_option maxHeartbeats 4000000 in
theorem identRuns_ok (n i last : Int) (hn : 0 ≤ n) (hi : 0 ≤ i) (hi' : i < 65536) (hl : 0 ≤ last) (hl' : last < 65536) : FnOK Try.prog GG 6 [] [.v (.int .u8 n), .v (.int .u16 i), .v (.int .u16 last)] (fun r _ ext => r = .v (.bool true) ∧ ext = []) := by
  obtain ⟨E, hE⟩ : ∃ E : Nat, last.tmod 301 = E := ⟨(last.tmod 301).toNat, by have := Int.tmod_nonneg 301 hl; omega⟩
  have hE' : E < 301 := by have := Int.tmod_lt_of_pos last (show (0 : Int) < 301 by decide); omega
  have hm0 := Int.tmod_nonneg 12 hn
  have hm1 := Int.tmod_lt_of_pos n (show (0 : Int) < 12 by decide)
  refine fn_val (C := seat) seat_ok [(8, [(0, .take), (1, .take), (4, .take), (2, .do_), (3, .do_), (5, .take), (6, .last)])] GG_no (Try.func6) rfl rfl rfl rfl rfl (fun _ => rfl) rfl ?_
  repeat' ((try conv => whnf); first
    | (with_reducible refine BB_true ?_)
    | (with_reducible refine BB_false ?_)
    | (refine And.intro (PlanOK.mk (by kernel_rfl) rfl (by kernel_rfl) (by kernel_rfl)) ?_)
    | (refine And.intro rfl (Exists.intro _ (And.intro (by first | assumption | rfl) ?_)))
    | (refine call_ro [] (awake_ok) GG_no rfl rfl rfl trivial ?_; rintro r bs' ext ⟨rfl, rfl⟩)
    | (refine And.intro (by decide) ?_)
    | (refine And.intro (by omega) ?_)
    | (refine BB.mk (fun _h => ?_) (fun _h => ?_) <;> (first | (exact absurd _h (by decide)) | (exfalso; simp only [rightB, runL_len, wrapSet, boolSet, eqInts] at _h; omega) | skip)))
  all_goals (try conv => whnf)
  · exact ⟨rfl, rfl⟩
  have hi1 : 1 ≤ i := by simp only [boolSet] at _h; omega
  refine loop_rule (α := Nat × Nat) (fun p => p.1 ≤ E ∧ (runL (n.tmod 12) i p.1).length ≤ p.2) (fun p => { slots := [(7, .v (.int .u32 E)), (8, .p (.n 0) 0 0 0), (9, .s (.n 1) 3 0 (runL (n.tmod 12) i p.1).length p.2)], nt := 56, mem := ⟨GG, [], [.box 25 [.v (.int .u8 (n.tmod 12)), .v (.int .u16 i), .v (.int .u32 p.1)], .row 25 3 p.2 ((runL (n.tmod 12) i p.1).map idC)]⟩ }) (fun p => E - p.1) (0, 0) ⟨Nat.zero_le _, Nat.zero_le _⟩ ⟨⟨[0, 1], (by decide), GG_no, rfl, (SubOld.refl _ rfl), ⟨rfl, .inl (.inl ⟨rfl, rfl⟩), trivial⟩, ⟨.inl (num_eq (by rw [IntKind.wrap_u32, hE]; omega)), .inl rfl, .inr ⟨_, _, _, rfl, rfl⟩, trivial⟩⟩, rfl⟩ ?_ (fun _ => rfl)
  rintro ⟨k, c⟩ ⟨hk, hc⟩
  dsimp only at hk hc ⊢
  have hF := runL_len (n.tmod 12) i k
  refine vc_sound (C := seat) seat_ok (pl := [(8, [(0, .take), (1, .take), (4, .take), (2, .do_), (3, .do_), (5, .take), (6, .last)])]) ?_
  by_cases hlt : k < E
  · have hxr : Id_.ok ⟨n.tmod 12, i, (k : Int) + 1⟩ := ⟨hm0, by dsimp only; omega, hi, hi', by dsimp only; omega, by dsimp only; omega⟩
    repeat' ((try conv => whnf); first
      | (with_reducible refine BB_true ?_)
      | (with_reducible refine BB_false ?_)
      | (refine And.intro (PlanOK.mk (by kernel_rfl) rfl (by kernel_rfl) (by kernel_rfl)) ?_)
      | (refine And.intro rfl (Exists.intro _ (And.intro (by first | assumption | rfl) ?_)))
      | (refine call_ro [] (next_yes_p ⟨n.tmod 12, i, (k : Int)⟩ (E : Int) (by dsimp only; omega) (by omega) (by dsimp only; omega)) GG_no rfl rfl rfl trivial ?_; rintro r bs' ext ⟨rfl, rfl⟩)
      | (refine call_ro [] (right_p ⟨n.tmod 12, i, (k : Int) + 1⟩ 12 (E : Int) hxr) GG_no rfl rfl rfl trivial ?_; rintro r bs' ext ⟨rfl, rfl⟩)
      | (refine And.intro ⟨rfl, rfl, rfl, by rw [List.length_map]⟩ ?_)
      | (refine And.intro (by first | omega | (dsimp only; omega) | exact ⟨rfl, Nat.le_refl _⟩) ?_)
      | (intro cap' hcap')
      | (refine And.intro (by omega) ?_)
      | (refine BB.mk (fun _h => ?_) (fun _h => ?_) <;> (first | (exact absurd _h (by decide)) | (exfalso; simp only [rightB, runL_len, wrapSet, boolSet, eqInts] at _h; omega) | skip)))
    all_goals (try conv => whnf)
    refine ⟨(k + 1, cap'), ⟨by dsimp only; omega, ?_⟩, by dsimp only; omega, ⟨⟨[0, 4], by decide, GG_no, rfl, SubOld.refl _ rfl, ?_, ⟨.inl rfl, .inl rfl, .inl ?_, trivial⟩⟩, rfl⟩⟩
    · dsimp only
      rw [runL_len] at hcap' ⊢
      exact hcap'
    · refine ⟨rfl, .inr ?_, trivial⟩
      dsimp only
      rw [runL_succ, List.map_append]
      rfl
    · dsimp only
      rw [runL_succ, List.length_append]
      rfl
  · have hke : k = E := by omega
    subst hke
    repeat' ((try conv => whnf); first
      | (with_reducible refine BB_true ?_)
      | (with_reducible refine BB_false ?_)
      | (refine And.intro (PlanOK.mk (by kernel_rfl) rfl (by kernel_rfl) (by kernel_rfl)) ?_)
      | (refine And.intro rfl (Exists.intro _ (And.intro (by first | assumption | rfl) ?_)))
      | (refine call_ro [] (next_no_p ⟨n.tmod 12, i, (k : Int)⟩ (k : Int) (Int.le_refl _)) GG_no rfl rfl rfl trivial ?_; rintro r bs' ext ⟨rfl, rfl⟩)
      | (refine call_ro [.n 1] (rising_yes _ _ (by omega) (runL_rises _ _ _)) GG_no rfl rfl rfl ⟨⟨_, rfl, rfl, rfl⟩, trivial⟩ ?_; rintro r bs' ext ⟨rfl, rfl⟩)
      | (refine call_ro [] (awake_ok) GG_no rfl rfl rfl trivial ?_; rintro r bs' ext ⟨rfl, rfl⟩)
      | (refine And.intro (by omega) ?_)
      | (refine BB.mk (fun _h => ?_) (fun _h => ?_) <;> (first | (exact absurd _h (by decide)) | (exfalso; simp only [rightB, runL_len, wrapSet, boolSet, eqInts] at _h; omega) | skip)))
    all_goals (try conv => whnf)
    all_goals (first
    | exact ⟨rfl, rfl⟩
    | skip)
end Go.Proofs.Ytoigdnfepmbpbaa
