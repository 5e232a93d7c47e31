/- Law PulseQuiet, by computing. -/
import Derived.Test.YtnkhdnmilncidaaU14h
namespace Go.Proofs.Ytnkhdnmilncidaa
open Go.RowKit

def Q4 (i s q : Int) : List Mb := [⟨1, 1, 0⟩, ⟨i, s, q⟩, ⟨3, 3, 0⟩, ⟨0, 0, 0⟩]
def sQ (n q : Int) : Int := if n ≤ q then 2 else 1
theorem sQ_or (n q : Int) : (n ≤ q ∧ sQ n q = 2) ∨ (¬ n ≤ q ∧ sQ n q = 1) := by
  unfold sQ
  split
  · exact .inl ⟨by assumption, rfl⟩
  · exact .inr ⟨by assumption, rfl⟩
theorem tick_Q4 {n I s q : Int} (hs : s = 1 ∨ s = 2) (hq : q ≤ 254) (hq0 : 0 ≤ q) : tickL n (Q4 I s q) = Q4 I (if s = 1 ∧ n ≤ q + 1 then 2 else s) (q + 1) := by
  have e0 : tickM n 0 ⟨1, 1, 0⟩ = ⟨1, 1, 0⟩ := if_pos (.inl rfl)
  have e2 : tickM n 2 ⟨3, 3, 0⟩ = ⟨3, 3, 0⟩ := if_pos (.inr rfl)
  have e3 : tickM n 3 ⟨0, 0, 0⟩ = ⟨0, 0, 0⟩ := if_pos (.inr rfl)
  have e1 : tickM n 1 ⟨I, s, q⟩ = ⟨I, if s = 1 ∧ n ≤ q + 1 then 2 else s, q + 1⟩ := by
    have hu : upB ⟨I, s, q⟩ = true := by rcases hs with h | h <;> simp [upB, h]
    have hm : min q 254 = q := by omega
    unfold tickM
    rw [if_neg (by rw [hu]; simp)]
    simp only [hm]
  show [tickM n 0 ⟨1, 1, 0⟩, tickM n 1 ⟨I, s, q⟩, tickM n 2 ⟨3, 3, 0⟩, tickM n 3 ⟨0, 0, 0⟩] = _
  rw [e0, e1, e2, e3]
  rfl
theorem gone_Q4 {n I s q : Int} (hs : s = 1 ∨ s = 2) (hq : q ≤ 254) (hq0 : 0 ≤ q) : goneL n (Q4 I s q) = if s = 1 ∧ n ≤ q + 1 then [1] else [] := by
  have g0 : goneAt n (Q4 I s q) 0 = false := rfl
  have g2 : goneAt n (Q4 I s q) 2 = false := rfl
  have g3 : goneAt n (Q4 I s q) 3 = false := rfl
  have hm : min q 254 = q := by omega
  have g1 : goneAt n (Q4 I s q) 1 = decide (s = 1 ∧ n ≤ q + 1) := by
    have h := goneAt_in (af := n) (l := Q4 I s q) (k := 1) (m := ⟨I, s, q⟩) rfl
    rw [h]
    simp only [hm, upB]
    rcases hs with h | h <;> simp [h]
  show List.filter (goneAt n (Q4 I s q)) [0, 1, 2, 3] = _
  simp only [List.filter_cons, g0, g1, g2, g3, List.filter_nil]
  by_cases h : s = 1 ∧ n ≤ q + 1
  · simp [h]
  · simp [h]
theorem Q4_ok {i s q : Int} (h : 0 ≤ i ∧ i ≤ 65535 ∧ 0 ≤ s ∧ s ≤ 255 ∧ 0 ≤ q ∧ q ≤ 255) : ∀ y ∈ Q4 i s q, y.ok := fun y hy => by
  simp only [Q4, List.mem_cons, List.not_mem_nil, or_false] at hy
  rcases hy with rfl | rfl | rfl | rfl
  · exact ⟨by decide, by decide, by decide, by decide, by decide, by decide⟩
  · exact ⟨by dsimp only; omega, by dsimp only; omega, by dsimp only; omega, by dsimp only; omega, by dsimp only; omega, by dsimp only; omega⟩
  · exact ⟨by decide, by decide, by decide, by decide, by decide, by decide⟩
  · exact ⟨by decide, by decide, by decide, by decide, by decide, by decide⟩
theorem up_Q4 {n i q r : Int} : upL (Q4 i (sQ n q) r) = [0, 1] := by
  rcases sQ_or n q with ⟨_, h⟩ | ⟨_, h⟩ <;> rw [h] <;> rfl
theorem heard_Q4 {n I q : Int} (h : 1 ≤ I) : modL (Q4 I (sQ n q) q) 1 (heardM I) = Q4 I 1 0 := by
  show [(⟨1, 1, 0⟩ : Mb), heardM I ⟨I, sQ n q, q⟩, ⟨3, 3, 0⟩, ⟨0, 0, 0⟩] = _
  rw [heardM, if_pos (.inr ⟨rfl, by omega, by rcases sQ_or n q with ⟨_, h⟩ | ⟨_, h⟩ <;> (dsimp only; omega)⟩)]
  rfl
theorem no_txt : ((strOfNums []).toList == ({ data := #[1] } : ByteArray).toList) = false := by
  rw [ByteArray.toList_eq, strOfNums_data, ByteArray.toList_eq]
  rfl
theorem two_txt : ((strOfNums [0, 1]).toList == ({ data := #[0, 1] } : ByteArray).toList) = true := by
  rw [ByteArray.toList_eq, strOfNums_data, ByteArray.toList_eq]
  rfl
theorem n_is (af : Nat) (h : af ≤ 255) : 1 ≤ (IntKind.i64.wrap (1 + IntKind.i64.wrap ((af : Int).tmod 100))) ∧ (IntKind.i64.wrap (1 + IntKind.i64.wrap ((af : Int).tmod 100))) ≤ 100 := by
  have h1 : IntKind.i64.wrap ((af : Int).tmod 100) = ((af % 100 : Nat) : Int) := by
    rw [Int.tmod_eq_emod_of_nonneg (Int.natCast_nonneg af), IntKind.wrap_i64]
    omega
  rw [h1]
  have h2 : af % 100 < 100 := Nat.mod_lt _ (by decide)
  generalize af % 100 = r at h2
  rw [IntKind.wrap_i64]
  omega
set_option maxRecDepth 100000 in
set_option maxHeartbeats 4000000 in
theorem pulseQuiet_ok (v : Int) (af at_ : Nat) (hv0 : 0 ≤ v) (hv1 : v ≤ 65535) (haf : af ≤ 255) (hat : at_ ≤ 255) : FnOK Try.prog GG 6 [] [.v (.int .u16 v), .v (.int .u8 (af : Int)), .v (.int .u8 (at_ : Int))] (fun r _ ext => r = .v (.bool true) ∧ ext = []) := by
  refine fn_val (C := seat) seat_ok [] GG_no (Try.func6) rfl rfl rfl rfl rfl (fun _ => rfl) rfl ?_
  repeat' ((try conv => whnf); first
    | (with_reducible refine OKv.go (C := seat) seat_ok ?_)
    | (with_reducible refine BB_true ?_)
    | (with_reducible refine BB_false ?_)
    | (with_reducible refine Both.mk ?_ ?_)
    | (with_reducible refine VS.mk ?_)
    | (refine PSem.go (C := seat) seat_ok ?_)
    | (refine And.intro (PlanOK.mk (by kernel_rfl) rfl (by kernel_rfl) (by kernel_rfl)) ?_)
    | (refine And.intro rfl (Exists.intro _ (And.intro (by first | assumption | rfl) ?_)))
    | (refine And.intro ⟨rfl, rfl, rfl⟩ ?_)
    | (refine And.intro (by omega) ?_)
    | (refine BB.mk (fun _h => ?_) (fun _h => ?_) <;> (first | (exact absurd _h (by decide)) | (exfalso; simp only [boolSet] at _h <;> omega) | skip)))
  all_goals (try conv => whnf)
  have hn : 1 ≤ (IntKind.i64.wrap (1 + IntKind.i64.wrap ((af : Int).tmod 100))) ∧ (IntKind.i64.wrap (1 + IntKind.i64.wrap ((af : Int).tmod 100))) ≤ 100 := n_is af haf
  have hI : 1 ≤ (bif true then if (1 : Int) > v then (1 : Int) else v else if (1 : Int) < v then (1 : Int) else v) ∧ (bif true then if (1 : Int) > v then (1 : Int) else v else if (1 : Int) < v then (1 : Int) else v) ≤ 65535 := by
    simp only [cond_true]
    split <;> omega
  generalize (IntKind.i64.wrap (1 + IntKind.i64.wrap ((af : Int).tmod 100))) = n at *
  generalize (bif true then if (1 : Int) > v then (1 : Int) else v else if (1 : Int) < v then (1 : Int) else v) = I at *
  obtain ⟨hn1, hn2⟩ := hn
  obtain ⟨hI1, hI2⟩ := hI
  have m1 : modL ([⟨1, 1, 0⟩, ⟨0, 0, 0⟩, ⟨0, 0, 0⟩, ⟨0, 0, 0⟩] : List Mb) 1 (heardM I) = ([⟨1, 1, 0⟩, ⟨I, 1, 0⟩, ⟨0, 0, 0⟩, ⟨0, 0, 0⟩] : List Mb) := by
    show [(⟨1, 1, 0⟩ : Mb), heardM I ⟨0, 0, 0⟩, ⟨0, 0, 0⟩, ⟨0, 0, 0⟩] = _
    rw [heardM, if_pos (.inl (by dsimp only; omega))]
  have m2 : modL ([⟨1, 1, 0⟩, ⟨I, 1, 0⟩, ⟨0, 0, 0⟩, ⟨0, 0, 0⟩] : List Mb) 2 (leftM 3) = Q4 I 1 0 := rfl
  repeat' ((try conv => whnf); first
    | (with_reducible refine OKv.go (C := seat) seat_ok ?_)
    | (with_reducible refine BB_true ?_)
    | (with_reducible refine BB_false ?_)
    | (with_reducible refine Both.mk ?_ ?_)
    | (with_reducible refine VS.mk ?_)
    | (refine PSem.go (C := seat) seat_ok ?_)
    | (refine And.intro (PlanOK.mk (by kernel_rfl) rfl (by kernel_rfl) (by kernel_rfl)) ?_)
    | (refine And.intro rfl (Exists.intro _ (And.intro (by first | assumption | rfl) ?_)))
    | (refine And.intro ⟨rfl, rfl, rfl⟩ ?_)
    | (refine call_ro [] (new4_ok ()) GG_no rfl rfl rfl trivial ?_; rintro r bs' ext ⟨c0, hc0, rfl, rfl⟩)
    | (refine call_ro [_] (heard_is (Z4) (([⟨1, 1, 0⟩, ⟨0, 0, 0⟩, ⟨0, 0, 0⟩, ⟨0, 0, 0⟩] : List Mb)) 4 _ 0 _ rfl 1 rfl (by omega) (by decide) (by decide) (by decide)) GG_no rfl rfl rfl ⟨⟨_, rfl, rfl, rfl⟩, trivial⟩ ?_; rintro r bs' ext ⟨ca, hca, rfl, rfl⟩)
    | (refine call_ro [_] (heard_is (([⟨1, 1, 0⟩, ⟨0, 0, 0⟩, ⟨0, 0, 0⟩, ⟨0, 0, 0⟩] : List Mb)) (([⟨1, 1, 0⟩, ⟨I, 1, 0⟩, ⟨0, 0, 0⟩, ⟨0, 0, 0⟩] : List Mb)) 4 _ 1 _ rfl I rfl (by omega) (by decide) (by decide) (m1)) GG_no rfl rfl rfl ⟨⟨_, rfl, rfl, rfl⟩, trivial⟩ ?_; rintro r bs' ext ⟨cb, hcb, rfl, rfl⟩)
    | (refine call_ro [_] (left_is (([⟨1, 1, 0⟩, ⟨I, 1, 0⟩, ⟨0, 0, 0⟩, ⟨0, 0, 0⟩] : List Mb)) (Q4 I 1 0) 4 _ 2 _ rfl 3 rfl (by omega) (by decide) (by decide) (m2)) GG_no rfl rfl rfl ⟨⟨_, rfl, rfl, rfl⟩, trivial⟩ ?_; rintro r bs' ext ⟨cc, hcc, rfl, rfl⟩)
    | (refine And.intro (by omega) ?_)
    | (refine BB.mk (fun _h => ?_) (fun _h => ?_) <;> (first | (exact absurd _h (by decide)) | (exfalso; simp only [boolSet] at _h <;> omega) | skip)))
  all_goals (try conv => whnf)
  refine loop_rule (α := Nat × Nat × Nat) (fun p => p.1 ≤ 250 ∧ p.2.1 ≤ p.1 ∧ 4 ≤ p.2.2) (fun p => { slots := [(0, .v (.int .u16 I)), (2, .v (.int .u8 (at_ : Int))), (7, .v (.int .i64 n)), (8, .s (.n 0) 3 0 4 p.2.2), (9, .v (.int .i64 (p.2.1 : Int))), (28, .v (.int .i64 (p.1 : Int)))], nt := 127, mem := ⟨GG, [], [.row 26 3 p.2.2 ((Q4 I (sQ n (p.2.1 : Int)) (p.2.1 : Int)).map mbC)]⟩ }) (fun p => 250 - p.1) (0, 0, cc) ⟨Nat.zero_le _, Nat.le_refl _, hcc⟩ ⟨⟨[3], (by decide), GG_no, rfl, (SubOld.refl _ rfl), ⟨.inr (by dsimp only; rw [show sQ n ((0 : Nat) : Int) = 1 from if_neg (by omega)]; rfl), trivial⟩, ⟨.inl rfl, .inl rfl, .inl rfl, .inl rfl, .inl rfl, .inl rfl, trivial⟩⟩, rfl⟩ ?_ (fun _ => rfl)
  rintro ⟨k, S, cap⟩ ⟨hk, hS, hc⟩
  dsimp only at hk hS hc ⊢
  refine vc_sound (C := seat) seat_ok (pl := []) ?_
  have hwa : IntKind.i64.wrap (at_ : Int) = at_ := by rw [IntKind.wrap_i64]; omega
  by_cases hlt : k < 250
  · by_cases hka : k = at_
    · have hw1 : IntKind.i64.wrap 1 = 1 := by rw [IntKind.wrap_i64]; omega
      have hw0 : IntKind.i64.wrap (0 + 1) = 1 := by rw [IntKind.wrap_i64]; omega
      have hs0 : sQ n 0 = 1 := if_neg (by omega)
      have hH : modL (Q4 I (sQ n (S : Int)) (S : Int)) 1 (heardM I) = Q4 I 1 0 := heard_Q4 hI1
      have hT : tickL n (Q4 I 1 0) = Q4 I (sQ n 1) 1 := by
        have h1 : n ≤ 100 := hn2
        rw [tick_Q4 (by omega) (by omega) (by omega)]
        have h2 := sQ_or n 1
        have e : (if (1 : Int) = 1 ∧ n ≤ 0 + 1 then 2 else (1 : Int)) = sQ n 1 := by split <;> omega
        rw [e]
        try rfl
      have qok : ∀ y ∈ Q4 I 1 0, y.ok := Q4_ok (by omega)
      have hst : ((sQ n 1 == 2) != decide (n ≤ 1)) = false := by
        rcases sQ_or n 1 with ⟨h1, h2⟩ | ⟨h1, h2⟩ <;> simp [h1, h2]
      by_cases hSn : 1 = n
      · have hG : goneL n (Q4 I 1 0) = [1] := by
          have h1 : n ≤ 100 := hn2
          rw [gone_Q4 (by omega) (by omega) (by omega), if_pos (by omega)]
        have hne : (((strOfNums [1]).toList == ({ data := #[1] } : ByteArray).toList) != (1 == n)) = false := by
          rw [one_txt]; simp [hSn]
        repeat' ((try conv => whnf); first
          | (with_reducible refine OKv.go (C := seat) seat_ok ?_)
          | (with_reducible refine BB_true ?_)
          | (with_reducible refine BB_false ?_)
          | (with_reducible refine Both.mk ?_ ?_)
          | (with_reducible refine VS.mk ?_)
          | (refine PSem.go (C := seat) seat_ok ?_)
          | (refine And.intro (PlanOK.mk (by kernel_rfl) rfl (by kernel_rfl) (by kernel_rfl)) ?_)
          | (refine And.intro rfl (Exists.intro _ (And.intro (by first | assumption | rfl) ?_)))
          | (refine And.intro ⟨rfl, rfl, rfl⟩ ?_)
          | (refine call_ro [_] (heard_is (Q4 I (sQ n (S : Int)) (S : Int)) (Q4 I 1 0) 4 _ 1 _ rfl I rfl (by omega) (by decide) (by decide) (hH)) GG_no rfl rfl rfl ⟨⟨_, rfl, rfl, rfl⟩, trivial⟩ ?_; rintro r bs' ext ⟨ch, hch, rfl, rfl⟩)
          | (refine call_ro [_] (tick_is (Q4 I 1 0) (Q4 I (sQ n 1) 1) [1] 4 _ n rfl (by omega) (by decide) qok hT hG) GG_no rfl rfl rfl ⟨⟨_, rfl, rfl, rfl⟩, trivial⟩ ?_; rintro r bs' ext ⟨ct, cg, hct, hcg, rfl, rfl⟩)
          | (refine And.intro ⟨rfl, by first | decide | (simp only [List.length_map, List.length_cons, List.length_nil] <;> omega)⟩ ?_)
          | (refine Exists.intro [1] (And.intro rfl ?_))
          | (refine And.intro (by omega) ?_)
          | (refine BB.mk (fun _h => ?_) (fun _h => ?_) <;> (first | (exfalso; simp only [hwa, hw1, hw0, hne, hst, boolSet] at _h <;> omega) | (exact absurd _h (by decide)) | skip)))
        all_goals (try conv => whnf)
        all_goals exact ⟨(k + 1, 1, ct), ⟨by dsimp only; omega, by dsimp only; omega, hct⟩, by dsimp only; omega, ⟨⟨[2], by decide, GG_no, rfl, SubOld.refl _ rfl, ⟨.inr (by rfl), trivial⟩, ⟨.inl rfl, .inl rfl, .inl rfl, .inl rfl, .inl (num_eq (by dsimp only; rw [IntKind.wrap_i64]; omega)), .inl (num_eq (by rw [IntKind.wrap_i64]; dsimp only; omega)), trivial⟩⟩, rfl⟩⟩
      · have hG : goneL n (Q4 I 1 0) = [] := by
          have h1 : n ≤ 100 := hn2
          rw [gone_Q4 (by omega) (by omega) (by omega), if_neg (by omega)]
        have hne : (((strOfNums []).toList == ({ data := #[1] } : ByteArray).toList) != (1 == n)) = false := by
          rw [no_txt]; simp [hSn]
        repeat' ((try conv => whnf); first
          | (with_reducible refine OKv.go (C := seat) seat_ok ?_)
          | (with_reducible refine BB_true ?_)
          | (with_reducible refine BB_false ?_)
          | (with_reducible refine Both.mk ?_ ?_)
          | (with_reducible refine VS.mk ?_)
          | (refine PSem.go (C := seat) seat_ok ?_)
          | (refine And.intro (PlanOK.mk (by kernel_rfl) rfl (by kernel_rfl) (by kernel_rfl)) ?_)
          | (refine And.intro rfl (Exists.intro _ (And.intro (by first | assumption | rfl) ?_)))
          | (refine And.intro ⟨rfl, rfl, rfl⟩ ?_)
          | (refine call_ro [_] (heard_is (Q4 I (sQ n (S : Int)) (S : Int)) (Q4 I 1 0) 4 _ 1 _ rfl I rfl (by omega) (by decide) (by decide) (hH)) GG_no rfl rfl rfl ⟨⟨_, rfl, rfl, rfl⟩, trivial⟩ ?_; rintro r bs' ext ⟨ch, hch, rfl, rfl⟩)
          | (refine call_ro [_] (tick_is (Q4 I 1 0) (Q4 I (sQ n 1) 1) [] 4 _ n rfl (by omega) (by decide) qok hT hG) GG_no rfl rfl rfl ⟨⟨_, rfl, rfl, rfl⟩, trivial⟩ ?_; rintro r bs' ext ⟨ct, cg, hct, hcg, rfl, rfl⟩)
          | (refine And.intro ⟨rfl, by first | decide | (simp only [List.length_map, List.length_cons, List.length_nil] <;> omega)⟩ ?_)
          | (refine Exists.intro [] (And.intro rfl ?_))
          | (refine And.intro (by omega) ?_)
          | (refine BB.mk (fun _h => ?_) (fun _h => ?_) <;> (first | (exfalso; simp only [hwa, hw1, hw0, hne, hst, boolSet] at _h <;> omega) | (exact absurd _h (by decide)) | skip)))
        all_goals (try conv => whnf)
        all_goals exact ⟨(k + 1, 1, ct), ⟨by dsimp only; omega, by dsimp only; omega, hct⟩, by dsimp only; omega, ⟨⟨[2], by decide, GG_no, rfl, SubOld.refl _ rfl, ⟨.inr (by rfl), trivial⟩, ⟨.inl rfl, .inl rfl, .inl rfl, .inl rfl, .inl (num_eq (by dsimp only; rw [IntKind.wrap_i64]; omega)), .inl (num_eq (by rw [IntKind.wrap_i64]; dsimp only; omega)), trivial⟩⟩, rfl⟩⟩
    · have hw1 : IntKind.i64.wrap ((S : Int) + 1) = (S : Int) + 1 := by rw [IntKind.wrap_i64]; omega
      have hw0 : (0 : Int) = 0 := rfl
      have hT : tickL n (Q4 I (sQ n (S : Int)) (S : Int)) = Q4 I (sQ n ((S : Int) + 1)) ((S : Int) + 1) := by
        have h1 := sQ_or n (S : Int)
        rw [tick_Q4 (by omega) (by omega) (by omega)]
        have h2 := sQ_or n ((S : Int) + 1)
        have e : (if sQ n (S : Int) = 1 ∧ n ≤ (S : Int) + 1 then 2 else sQ n (S : Int)) = sQ n ((S : Int) + 1) := by split <;> omega
        rw [e]
        try rfl
      have qok : ∀ y ∈ Q4 I (sQ n (S : Int)) (S : Int), y.ok := Q4_ok (by have h1 := sQ_or n (S : Int); omega)
      have hst : ((sQ n ((S : Int) + 1) == 2) != decide (n ≤ ((S : Int) + 1))) = false := by
        rcases sQ_or n ((S : Int) + 1) with ⟨h1, h2⟩ | ⟨h1, h2⟩ <;> simp [h1, h2]
      by_cases hSn : ((S : Int) + 1) = n
      · have hG : goneL n (Q4 I (sQ n (S : Int)) (S : Int)) = [1] := by
          have h1 := sQ_or n (S : Int)
          rw [gone_Q4 (by omega) (by omega) (by omega), if_pos (by omega)]
        have hne : (((strOfNums [1]).toList == ({ data := #[1] } : ByteArray).toList) != (((S : Int) + 1) == n)) = false := by
          rw [one_txt]; simp [hSn]
        repeat' ((try conv => whnf); first
          | (with_reducible refine OKv.go (C := seat) seat_ok ?_)
          | (with_reducible refine BB_true ?_)
          | (with_reducible refine BB_false ?_)
          | (with_reducible refine Both.mk ?_ ?_)
          | (with_reducible refine VS.mk ?_)
          | (refine PSem.go (C := seat) seat_ok ?_)
          | (refine And.intro (PlanOK.mk (by kernel_rfl) rfl (by kernel_rfl) (by kernel_rfl)) ?_)
          | (refine And.intro rfl (Exists.intro _ (And.intro (by first | assumption | rfl) ?_)))
          | (refine And.intro ⟨rfl, rfl, rfl⟩ ?_)
          | (refine call_ro [_] (tick_is (Q4 I (sQ n (S : Int)) (S : Int)) (Q4 I (sQ n ((S : Int) + 1)) ((S : Int) + 1)) [1] 4 _ n rfl (by omega) (by decide) qok hT hG) GG_no rfl rfl rfl ⟨⟨_, rfl, rfl, rfl⟩, trivial⟩ ?_; rintro r bs' ext ⟨ct, cg, hct, hcg, rfl, rfl⟩)
          | (refine And.intro ⟨rfl, by first | decide | (simp only [List.length_map, List.length_cons, List.length_nil] <;> omega)⟩ ?_)
          | (refine Exists.intro [1] (And.intro rfl ?_))
          | (refine And.intro (by omega) ?_)
          | (refine BB.mk (fun _h => ?_) (fun _h => ?_) <;> (first | (exfalso; simp only [hwa, hw1, hw0, hne, hst, boolSet] at _h <;> omega) | (exact absurd _h (by decide)) | skip)))
        all_goals (try conv => whnf)
        all_goals exact ⟨(k + 1, S + 1, ct), ⟨by dsimp only; omega, by dsimp only; omega, hct⟩, by dsimp only; omega, ⟨⟨[1], by decide, GG_no, rfl, SubOld.refl _ rfl, ⟨.inr (by dsimp only; rw [show ((S + 1 : Nat) : Int) = (S : Int) + 1 by omega]; rfl), trivial⟩, ⟨.inl rfl, .inl rfl, .inl rfl, .inl rfl, .inl (num_eq (by dsimp only; rw [IntKind.wrap_i64]; omega)), .inl (num_eq (by rw [IntKind.wrap_i64]; dsimp only; omega)), trivial⟩⟩, rfl⟩⟩
      · have hG : goneL n (Q4 I (sQ n (S : Int)) (S : Int)) = [] := by
          have h1 := sQ_or n (S : Int)
          rw [gone_Q4 (by omega) (by omega) (by omega), if_neg (by omega)]
        have hne : (((strOfNums []).toList == ({ data := #[1] } : ByteArray).toList) != (((S : Int) + 1) == n)) = false := by
          rw [no_txt]; simp [hSn]
        repeat' ((try conv => whnf); first
          | (with_reducible refine OKv.go (C := seat) seat_ok ?_)
          | (with_reducible refine BB_true ?_)
          | (with_reducible refine BB_false ?_)
          | (with_reducible refine Both.mk ?_ ?_)
          | (with_reducible refine VS.mk ?_)
          | (refine PSem.go (C := seat) seat_ok ?_)
          | (refine And.intro (PlanOK.mk (by kernel_rfl) rfl (by kernel_rfl) (by kernel_rfl)) ?_)
          | (refine And.intro rfl (Exists.intro _ (And.intro (by first | assumption | rfl) ?_)))
          | (refine And.intro ⟨rfl, rfl, rfl⟩ ?_)
          | (refine call_ro [_] (tick_is (Q4 I (sQ n (S : Int)) (S : Int)) (Q4 I (sQ n ((S : Int) + 1)) ((S : Int) + 1)) [] 4 _ n rfl (by omega) (by decide) qok hT hG) GG_no rfl rfl rfl ⟨⟨_, rfl, rfl, rfl⟩, trivial⟩ ?_; rintro r bs' ext ⟨ct, cg, hct, hcg, rfl, rfl⟩)
          | (refine And.intro ⟨rfl, by first | decide | (simp only [List.length_map, List.length_cons, List.length_nil] <;> omega)⟩ ?_)
          | (refine Exists.intro [] (And.intro rfl ?_))
          | (refine And.intro (by omega) ?_)
          | (refine BB.mk (fun _h => ?_) (fun _h => ?_) <;> (first | (exfalso; simp only [hwa, hw1, hw0, hne, hst, boolSet] at _h <;> omega) | (exact absurd _h (by decide)) | skip)))
        all_goals (try conv => whnf)
        all_goals exact ⟨(k + 1, S + 1, ct), ⟨by dsimp only; omega, by dsimp only; omega, hct⟩, by dsimp only; omega, ⟨⟨[1], by decide, GG_no, rfl, SubOld.refl _ rfl, ⟨.inr (by dsimp only; rw [show ((S + 1 : Nat) : Int) = (S : Int) + 1 by omega]; rfl), trivial⟩, ⟨.inl rfl, .inl rfl, .inl rfl, .inl rfl, .inl (num_eq (by dsimp only; rw [IntKind.wrap_i64]; omega)), .inl (num_eq (by rw [IntKind.wrap_i64]; dsimp only; omega)), trivial⟩⟩, rfl⟩⟩
  · have hup : upL (Q4 I (sQ n (S : Int)) (S : Int)) = [0, 1] := up_Q4
    repeat' ((try conv => whnf); first
      | (with_reducible refine OKv.go (C := seat) seat_ok ?_)
      | (with_reducible refine BB_true ?_)
      | (with_reducible refine BB_false ?_)
      | (with_reducible refine Both.mk ?_ ?_)
      | (with_reducible refine VS.mk ?_)
      | (refine PSem.go (C := seat) seat_ok ?_)
      | (refine And.intro (PlanOK.mk (by kernel_rfl) rfl (by kernel_rfl) (by kernel_rfl)) ?_)
      | (refine And.intro rfl (Exists.intro _ (And.intro (by first | assumption | rfl) ?_)))
      | (refine And.intro ⟨rfl, rfl, rfl⟩ ?_)
      | (refine call_ro [_] (up3_is (Q4 I (sQ n (S : Int)) (S : Int)) [0, 1] 4 _ rfl (by decide) hup) GG_no rfl rfl rfl ⟨⟨_, rfl, rfl, rfl⟩, trivial⟩ ?_; rintro r bs' ext ⟨cu, hcu, rfl, rfl⟩)
      | (refine And.intro ⟨rfl, by decide⟩ ?_)
      | (refine Exists.intro [0, 1] (And.intro rfl ?_))
      | (refine call_ro [] (awake_ok ()) GG_no rfl rfl rfl trivial ?_; rintro r bs' ext ⟨rfl, rfl⟩)
      | (refine And.intro (by omega) ?_)
      | (refine BB.mk (fun _h => ?_) (fun _h => ?_) <;> (first | (exact absurd _h (by decide)) | (exfalso; simp only [two_txt, boolSet] at _h <;> omega) | skip)))
    all_goals (try conv => whnf)
    all_goals exact Fin.mk ⟨rfl, rfl⟩
end Go.Proofs.Ytnkhdnmilncidaa
