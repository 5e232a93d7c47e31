/- Law PullRight, by computing. -/
import Derived.Test.YtcjcnlahieddoaaK18m
namespace Go.Proofs.Ytcjcnlahieddoaa
open Go.RowKit

theorem same_refl (l : List Id_) : sameB l l = true := by
  refine same_yes rfl fun j y z _ h1 h2 => ?_
  rw [h1] at h2
  cases h2
  exact eqB_iff'.2 ⟨rfl, rfl, rfl⟩
theorem made_ids (A : List Ask_) (n c : Nat) (h : AOk 40 A) (hn : A.length = n) : FnOK Try.prog GG 24 [.ro 3 ((A.map (·.id)).map idC)] [.s (.o 0) 3 0 n c] (fun r _ ext => ∃ cap, n ≤ cap ∧ r = .s (.n 0) 3 0 n cap ∧ ext = [.row 26 3 cap ((A.map (·.id)).map idC)]) := by
  subst hn
  have hl := h.len
  have e := idsL_len A
  have hm := made_ok (idsL A) c (by omega)
  rw [made_up (rising_up _ |>.1 (rise_up h.rise))] at hm
  rw [e] at hm
  exact hm
theorem same_ids (A : List Ask_) (n c1 c2 : Nat) (hn : A.length = n) (h40 : A.length ≤ 40) : FnOK Try.prog GG 20 [.ro 3 ((A.map (·.id)).map idC), .ro 3 ((A.map (·.id)).map idC)] [.s (.o 0) 3 0 n c1, .s (.o 1) 3 0 n c2] (fun r _ ext => r = .v (.bool true) ∧ ext = []) := by
  subst hn
  have e := idsL_len A
  have h := sameI_is (idsL A) (idsL A) c1 c2 true (by omega) (same_refl _)
  rw [e] at h
  exact h
set_option maxRecDepth 100000 in
set_option maxHeartbeats 4000000 in
theorem pullRight_ok (l : List Ask_) (cap : Nat) (at_ most : Int) (hc : l.length ≤ cap) (hl : l.length ≤ 11728124029610) (hok : ∀ y ∈ l, y.ok) (ha0 : 0 ≤ at_) (ha1 : at_ ≤ 255) : FnOK Try.prog GG 7 [.ro 5 (l.map askC)] [.s (.o 0) 5 0 l.length cap, .v (.int .u8 at_), .v (.int .i64 most)] (fun r _ ext => r = .v (.bool true) ∧ ext = []) := by
  have hN : (l.take 40).length = min 40 l.length := List.length_take
  refine fn_val (C := seat) seat_ok [(15, (.op 1 .take (.op 2 .take (.op 3 .take (.op 4 .take (.op 6 .take (.op 7 .take (.op 8 .take (.op 12 .take (.op 13 .take (.op 14 .take (.op 15 .take (.seq 3 [true, true, true, true, true, true, true, true, true, true, true, false, true, true, true, true, false, false] (.fork 0 (.fork 5 (.of [(9, .do_), (10, .do_)]) (.op 9 .do_ (.fork 5 (.of [(10, .do_)]) (.of [(10, .do_), (5, .do_)])))) (.op 9 .do_ (.fork 0 (.fork 5 (.of [(10, .do_)]) (.of [(10, .do_), (5, .do_)])) (.of [(10, .do_), (0, .do_), (5, .do_)])))) (.of [(11, .do_), (16, .last), (17, .last)]))))))))))))))] GG_no (Try.func7) rfl rfl rfl rfl rfl (fun _ => rfl) rfl ?_
  repeat' ((try conv => whnf); first
    | (with_reducible refine OKv.go (C := seat) seat_ok ?_)
    | (with_reducible refine BB_true ?_)
    | (with_reducible refine BB_false ?_)
    | (with_reducible refine Both.mk ?_ ?_)
    | (with_reducible refine VS.mk ?_)
    | (refine PSem.go (C := seat) seat_ok ?_)
    | (refine And.intro (PlanOK.mk (by kernel_rfl) rfl (by kernel_rfl) (by kernel_rfl)) ?_)
    | (refine And.intro rfl (Exists.intro _ (And.intro (by first | assumption | rfl) ?_)))
    | (refine And.intro ⟨rfl, rfl, rfl⟩ ?_)
    | (refine And.intro ⟨by first | omega | decide | (simp only [cond_true, cond_false]; (repeat' split) <;> omega), by first | omega | exact Int.le_refl _ | (simp only [cond_true, cond_false]; (repeat' split) <;> omega), by first | omega | (show ((_ : Nat) : Int) ≤ _; omega) | (simp only [cond_true, cond_false]; (repeat' split) <;> omega)⟩ ?_)
    | (refine And.intro (by omega) ?_)
    | (refine BB.mk (fun _h => ?_) (fun _h => ?_) <;> (first | (exact absurd _h (by decide)) | (exfalso; simp only [boolSet] at _h <;> omega) | skip)))
  all_goals (try conv => whnf)
  refine loop_rule (α := Nat × Nat) (fun p => p.1 ≤ (l.take 40).length ∧ (addsL 40 ((l.take 40).take p.1)).length ≤ p.2) (fun p => { slots := [(1, .v (.int .u8 at_)), (2, .v (.int .i64 most)), (7, .s (.n 0) 5 0 (addsL 40 ((l.take 40).take p.1)).length p.2), (21, .s (.o 0) 5 0 (l.take 40).length cap), (22, .v (.int .i64 (l.take 40).length)), (23, .v (.int .i64 p.1))], nt := 110, mem := ⟨GG, [.ro 5 (l.map askC)], [.row 28 5 p.2 ((addsL 40 ((l.take 40).take p.1)).map askC)]⟩ }) (fun p => (l.take 40).length - p.1) (0, 0) ⟨Nat.zero_le _, Nat.zero_le _⟩ ⟨⟨[0], (by decide), GG_no, rfl, (SubOld.refl _ rfl), ⟨.inl (.inl ⟨rfl, rfl⟩), trivial⟩, ⟨.inl rfl, .inl rfl, .inr ⟨_, _, _, rfl, rfl⟩, .inl (sl_eq (by simp only [cond_true, cond_false]; (repeat' split) <;> omega) (Nat.sub_zero _)), .inl (num_eq (by simp only [cond_true, cond_false]; (repeat' split) <;> omega)), .inl rfl, trivial⟩⟩, rfl⟩ ?_ (fun _ => rfl)
  rintro ⟨k, c⟩ ⟨hk, hcl⟩
  dsimp only at hk hcl ⊢
  have hA : AOk 40 (addsL 40 ((l.take 40).take k)) := adds_ok (by decide) fun y hy => hok y (List.mem_of_mem_take (List.mem_of_mem_take hy))
  have hAl := hA.len
  refine vc_sound (C := seat) seat_ok (pl := [(15, (.op 1 .take (.op 2 .take (.op 3 .take (.op 4 .take (.op 6 .take (.op 7 .take (.op 8 .take (.op 9 .take (.op 12 .take (.op 13 .take (.op 14 .take (.op 15 .take (.seq 3 [true, true, true, true, true, true, true, true, true, true, true, false, true, true, true, true, false, false] (.fork 0 (.fork 5 (.of [(10, .do_)]) (.of [(10, .do_), (5, .do_)])) (.of [(10, .do_), (0, .do_), (5, .do_)])) (.of [(11, .do_), (16, .last), (17, .last)])))))))))))))))]) ?_
  by_cases hlt : k < (l.take 40).length
  · obtain ⟨y, hy⟩ : ∃ y, (l.take 40)[k]? = some y := ⟨_, List.getElem?_eq_getElem hlt⟩
    have hy1 : l[k]? = some y := by
      rw [List.getElem?_take] at hy
      split at hy
      · exact hy
      · cases hy
    have hrow := ask_at hy1
    have hat := adds_take (most := 40) hy
    repeat' ((try conv => whnf); first
      | (with_reducible refine OKv.go (C := seat) seat_ok ?_)
      | (with_reducible refine BB_true ?_)
      | (with_reducible refine BB_false ?_)
      | (with_reducible refine Both.mk ?_ ?_)
      | (with_reducible refine VS.mk ?_)
      | (refine PSem.go (C := seat) seat_ok ?_)
      | (refine And.intro (PlanOK.mk (by kernel_rfl) rfl (by kernel_rfl) (by kernel_rfl)) ?_)
      | (refine And.intro rfl (Exists.intro _ (And.intro (by first | assumption | rfl) ?_)))
      | (refine And.intro ⟨rfl, rfl, rfl⟩ ?_)
      | (refine call_ro [.n 0] (addA_is (addsL 40 ((l.take 40).take k)) c y 40 _ rfl hcl (by omega)) GG_no rfl rfl rfl ⟨⟨_, rfl, rfl, rfl⟩, trivial⟩ ?_; rintro r bs' ext ⟨cap', hcap', rfl, rfl⟩)
      | (refine And.intro (by omega) ?_)
      | (refine BB.mk (fun _h => ?_) (fun _h => ?_) <;> (first | (exact absurd _h (by decide)) | (exfalso; simp only [boolSet] at _h <;> omega) | skip)))
    all_goals (try conv => whnf)
    refine ⟨(k + 1, cap'), ⟨by dsimp only; omega, by dsimp only; rw [hat]; exact hcap'⟩, by dsimp only; omega, ⟨⟨[2], by decide, GG_no, rfl, SubOld.refl _ rfl, ⟨.inr ?_, trivial⟩, ⟨.inl rfl, .inl rfl, .inl ?_, .inl rfl, .inl rfl, .inl (num_eq (by rw [IntKind.wrap_i64]; dsimp only; omega)), trivial⟩⟩, rfl⟩⟩
    · dsimp only
      rw [hat]
      rfl
    · dsimp only
      rw [hat]
      rfl
  · have hs : (l.take 40).take k = l.take 40 := List.take_of_length_le (by omega)
    rw [hs] at hA hAl hcl ⊢
    obtain ⟨A, hAe⟩ : ∃ A, addsL 40 (l.take 40) = A := ⟨_, rfl⟩
    rw [hAe] at hA hAl hcl ⊢
    have hrm := hA.right most
    have hn40 : A.length ≤ 40 := by omega
    cases hm : decide ((A.length : Int) ≤ most)
    all_goals
      rw [hm] at hrm
      have hm' := hm
      simp only [decide_eq_true_eq, decide_eq_false_iff_not] at hm'
      by_cases hA0 : A.length = 0
      · skip
        repeat' ((try conv => whnf); first
          | (with_reducible refine OKv.go (C := seat) seat_ok ?_)
          | (with_reducible refine BB_true ?_)
          | (with_reducible refine BB_false ?_)
          | (with_reducible refine Both.mk ?_ ?_)
          | (with_reducible refine VS.mk ?_)
          | (refine PSem.go (C := seat) seat_ok ?_)
          | (refine And.intro (PlanOK.mk (by kernel_rfl) rfl (by kernel_rfl) (by kernel_rfl)) ?_)
          | (refine And.intro rfl (Exists.intro _ (And.intro (by first | assumption | rfl) ?_)))
          | (refine And.intro ⟨rfl, rfl, rfl⟩ ?_)
          | (refine call_roN [.g 0] (rightA_is [] 0 0 true (by decide) (by decide)) GG_no rfl rfl ⟨.inr ⟨_, _, _, rfl, rfl⟩, .inl rfl, trivial⟩ ⟨.inr ⟨rfl, _, rfl⟩, trivial⟩ ?_; rintro r bs' ext ⟨rfl, rfl⟩)
          | (refine call_roN [.g 0] (rightA_is [] 0 (-1) false (by decide) (by decide)) GG_no rfl rfl ⟨.inr ⟨_, _, _, rfl, rfl⟩, .inl rfl, trivial⟩ ⟨.inr ⟨rfl, _, rfl⟩, trivial⟩ ?_; rintro r bs' ext ⟨rfl, rfl⟩)
          | (refine call_ro [.n 0] (rightA_is A c most _ (by omega) hrm) GG_no rfl rfl rfl ⟨⟨_, rfl, rfl, rfl⟩, trivial⟩ ?_; rintro r bs' ext ⟨rfl, rfl⟩)
          | (refine call_ro [] (awake_ok) GG_no rfl rfl rfl trivial ?_; rintro r bs' ext ⟨rfl, rfl⟩)
          | (refine And.intro (show _ ≠ (0 : Int) by omega) ?_)
          | (refine And.intro (by omega) ?_)
          | (refine BB.mk (fun _h => ?_) (fun _h => ?_) <;> (first | (exact absurd _h (by decide)) | (exfalso; simp only [boolSet] at _h <;> omega) | skip)))
        all_goals (try conv => whnf)
        all_goals exact ⟨rfl, rfl⟩
      · obtain ⟨kk, hkk, hkl⟩ : ∃ kk : Nat, (IntKind.i64.wrap at_).tmod (A.length : Int) = kk ∧ kk < A.length := by
          have h0 := Int.tmod_nonneg (A.length : Int) (show 0 ≤ IntKind.i64.wrap at_ by rw [IntKind.wrap_i64]; omega)
          have h1 := Int.tmod_lt_of_pos (IntKind.i64.wrap at_) (show (0 : Int) < A.length by omega)
          exact ⟨((IntKind.i64.wrap at_).tmod (A.length : Int)).toNat, by omega, by omega⟩
        obtain ⟨y, hy⟩ : ∃ y, A[kk]? = some y := ⟨_, List.getElem?_eq_getElem hkl⟩
        have hyr := ask_at hy
        have hyk : (A.map askC)[0 + ((IntKind.i64.wrap at_).tmod (A.length : Int)).toNat]? = some [.int .u8 y.id.n, .int .u16 y.id.i, .int .u32 y.id.s, .int .u8 y.fr, .int .u8 y.lf] := by rw [hkk]; exact hyr
        have hta : ([] ++ List.take A.length (List.drop 0 (A.map askC))) = A.map askC := by rw [List.nil_append, List.drop_zero]; exact List.take_of_length_le (by rw [List.length_map]; omega)
        have hbk : ([] ++ List.take A.length (List.drop 0 (A.map askC)))[0 + ((IntKind.i64.wrap at_).tmod (A.length : Int)).toNat]? = some [.int .u8 y.id.n, .int .u16 y.id.i, .int .u32 y.id.s, .int .u8 y.fr, .int .u8 y.lf] := by rw [hta]; exact hyk
        have hkw : IntKind.i64.wrap ((IntKind.i64.wrap at_).tmod (A.length : Int) + 1) = (kk : Int) + 1 := by rw [hkk, IntKind.wrap_i64]; omega
        have hch : (chunks 5 0 []).length = 0 := rfl
        have hch1 : (chunks 5 1 [.int .u8 y.id.n, .int .u16 y.id.i, .int .u32 y.id.s, .int .u8 y.fr, .int .u8 y.lf]).length = 1 := rfl
        have hbE : ([] ++ List.take A.length (List.drop 0 (A.map askC))).set (0 + ((IntKind.i64.wrap at_).tmod (A.length : Int)).toNat) [.int .u8 y.id.n, .int .u16 y.id.i, .int .u32 y.id.s, .int .u8 y.fr, .int .u8 0] = (A.set kk ⟨y.id, y.fr, 0⟩).map askC := by
          rw [hta, hkk, Nat.zero_add, Int.toNat_natCast, List.map_set]
          rfl
        have hbT : (([] ++ List.take ((IntKind.i64.wrap ((IntKind.i64.wrap at_).tmod (A.length : Int) + 1)).toNat - Int.toNat 0) (List.drop (0 + Int.toNat 0) (A.map askC))) ++ [[.int .u8 y.id.n, .int .u16 y.id.i, .int .u32 y.id.s, .int .u8 y.fr, .int .u8 y.lf]]) ++ List.take ((A.length : Int).toNat - (IntKind.i64.wrap ((IntKind.i64.wrap at_).tmod (A.length : Int) + 1)).toNat) (List.drop (0 + (IntKind.i64.wrap ((IntKind.i64.wrap at_).tmod (A.length : Int) + 1)).toNat) (A.map askC)) = (twiceL A kk y).map askC := by
          have e1 : ((kk : Int) + 1).toNat = kk + 1 := by omega
          have e2 : Int.toNat 0 = 0 := rfl
          rw [hkw, e1, e2, Nat.sub_zero, Nat.zero_add, List.drop_zero, List.nil_append, Int.toNat_natCast, Nat.zero_add, List.take_of_length_le (l := List.drop (kk + 1) _) (by simp)]
          unfold twiceL
          rw [List.map_append, List.map_cons, List.map_take, List.map_drop, List.append_assoc]
          rfl
        have htl : (twiceL A kk y).length = A.length + 1 := by
          unfold twiceL
          rw [List.length_append, List.length_cons, List.length_take, List.length_drop]
          omega
        have hsl : (A.set kk ⟨y.id, y.fr, 0⟩).length = A.length := List.length_set
        have hrb := right_zero (l := A) (k := kk) (y := ⟨y.id, y.fr, 0⟩) hkl rfl 100
        have hrt := right_twice hy 100
        have hMI := fun n c h => made_ids A n c hA h
        have hSI := fun n c1 c2 h => same_ids A n c1 c2 h hn40
        repeat' ((try conv => whnf); first
          | (with_reducible refine OKv.go (C := seat) seat_ok ?_)
          | (with_reducible refine BB_true ?_)
          | (with_reducible refine BB_false ?_)
          | (with_reducible refine Both.mk ?_ ?_)
          | (with_reducible refine VS.mk ?_)
          | (refine PSem.go (C := seat) seat_ok ?_)
          | (refine And.intro (PlanOK.mk (by kernel_rfl) rfl (by kernel_rfl) (by kernel_rfl)) ?_)
          | (refine And.intro rfl (Exists.intro _ (And.intro (by first | assumption | rfl) ?_)))
          | (refine And.intro ⟨rfl, rfl, rfl⟩ ?_)
          | (refine call_roN [.g 0] (rightA_is [] 0 0 true (by decide) (by decide)) GG_no rfl rfl ⟨.inr ⟨_, _, _, rfl, rfl⟩, .inl rfl, trivial⟩ ⟨.inr ⟨rfl, _, rfl⟩, trivial⟩ ?_; rintro r bs' ext ⟨rfl, rfl⟩)
          | (refine call_roN [.g 0] (rightA_is [] 0 (-1) false (by decide) (by decide)) GG_no rfl rfl ⟨.inr ⟨_, _, _, rfl, rfl⟩, .inl rfl, trivial⟩ ⟨.inr ⟨rfl, _, rfl⟩, trivial⟩ ?_; rintro r bs' ext ⟨rfl, rfl⟩)
          | (refine call_ro [.n 0] (rightA_is A c most _ (by omega) hrm) GG_no rfl rfl rfl ⟨⟨_, rfl, rfl, rfl⟩, trivial⟩ ?_; rintro r bs' ext ⟨rfl, rfl⟩)
          | (refine call_ro [] (awake_ok) GG_no rfl rfl rfl trivial ?_; rintro r bs' ext ⟨rfl, rfl⟩)
          | (refine And.intro (show _ ≠ (0 : Int) by omega) ?_)
          | (refine Exists.intro _ (And.intro hbk ?_))
          | (refine And.intro ⟨rfl, Nat.le_refl _⟩ ?_)
          | (refine And.intro ⟨rfl, rfl, rfl, by first | rfl | (simp only [List.length_append, List.length_take, List.length_drop, List.length_map, List.length_nil] <;> omega)⟩ ?_)
          | (refine And.intro ⟨rfl, by rw [List.length_map]; omega⟩ ?_)
          | (refine And.intro (by first | omega | (dsimp only; omega)) ?_)
          | (intro cap' hcap')
          | (refine And.intro ⟨by first | omega | decide | (simp only [cond_true, cond_false]; (repeat' split) <;> omega), by first | omega | exact Int.le_refl _ | (simp only [cond_true, cond_false]; (repeat' split) <;> omega), by first | omega | (show ((_ : Nat) : Int) ≤ _; omega) | (simp only [cond_true, cond_false]; (repeat' split) <;> omega)⟩ ?_)
          | (refine And.intro (by omega) ?_)
          | (refine BB.mk (fun _h => ?_) (fun _h => ?_) <;> (first | (exact absurd _h (by decide)) | (exfalso; simp only [boolSet] at _h <;> omega) | skip)))
        all_goals (try conv => whnf)

        all_goals
          rename_i cb hcb c5 hc5 c6 hc6
          refine loop_rule (α := Nat × Nat) (fun p => p.1 ≤ A.length ∧ p.1 ≤ p.2) (fun p => { slots := [(7, .s (.n 0) 5 0 A.length c), (12, .s (.n 1) 5 0 (A.set kk ⟨y.id, y.fr, 0⟩).length cb), (13, .s (.n 2) 5 0 (twiceL A kk y).length cap'), (14, .s (.n 3) 3 0 p.1 p.2), (81, .s (.n 0) 5 0 A.length c), (82, .v (.int .i64 A.length)), (83, .v (.int .i64 p.1))], nt := 110, mem := ⟨GG, [.ro 5 (l.map askC)], [.row 28 5 c (A.map askC), .row 28 5 cb ((A.set kk ⟨y.id, y.fr, 0⟩).map askC), .row 28 5 cap' ((twiceL A kk y).map askC), .row 26 3 p.2 (((A.take p.1).map (·.id)).map idC)]⟩ }) (fun p => A.length - p.1) (0, 0) ⟨Nat.zero_le _, Nat.zero_le _⟩ ⟨⟨[0, 2, 7, 8], (by decide), GG_no, rfl, (SubOld.refl _ rfl), ⟨.inr rfl, .inr (congrArg (fun z => some (SB.row 28 5 cb z)) hbE), .inr (congrArg (fun z => some (SB.row 28 5 cap' z)) hbT), .inl (.inl ⟨rfl, rfl⟩), trivial⟩, ⟨.inl rfl, .inl (sl_eq (by rw [hsl]; omega) rfl), .inl (sl_eq (by rw [htl]; omega) rfl), .inr ⟨_, _, _, rfl, rfl⟩, .inl rfl, .inl rfl, .inl rfl, trivial⟩⟩, rfl⟩ ?_ (fun _ => rfl)
          rintro ⟨k2, ci⟩ ⟨hk2, hci⟩
          dsimp only at hk2 hci ⊢
          refine vc_sound (C := seat) seat_ok (pl := [(15, (.op 1 .take (.op 2 .take (.op 3 .take (.op 4 .take (.op 6 .take (.op 7 .take (.op 8 .take (.op 12 .take (.op 13 .take (.op 14 .take (.op 15 .take (.seq 3 [true, true, true, true, true, true, true, true, true, true, true, false, true, true, true, true, false, false] (.fork 0 (.fork 5 (.of [(9, .do_), (10, .do_)]) (.op 9 .do_ (.fork 5 (.of [(10, .do_)]) (.of [(10, .do_), (5, .do_)])))) (.op 9 .do_ (.fork 0 (.fork 5 (.of [(10, .do_)]) (.of [(10, .do_), (5, .do_)])) (.of [(10, .do_), (0, .do_), (5, .do_)])))) (.of [(11, .do_), (16, .last), (17, .last)]))))))))))))))]) ?_
          by_cases hlt2 : k2 < A.length
          · obtain ⟨z, hz⟩ : ∃ z, A[k2]? = some z := ⟨_, List.getElem?_eq_getElem hlt2⟩
            have hrow := ask_at hz
            have hmin : min k2 A.length = k2 := by omega
            repeat' ((try conv => whnf); first
              | (with_reducible refine OKv.go (C := seat) seat_ok ?_)
              | (with_reducible refine BB_true ?_)
              | (with_reducible refine BB_false ?_)
              | (with_reducible refine Both.mk ?_ ?_)
              | (with_reducible refine VS.mk ?_)
              | (refine PSem.go (C := seat) seat_ok ?_)
              | (refine And.intro (PlanOK.mk (by kernel_rfl) rfl (by kernel_rfl) (by kernel_rfl)) ?_)
              | (refine And.intro rfl (Exists.intro _ (And.intro (by first | assumption | rfl) ?_)))
              | (refine And.intro ⟨rfl, rfl, rfl⟩ ?_)
              | (refine And.intro ⟨rfl, rfl, rfl, by simp only [List.length_map, List.length_take]; omega⟩ ?_)
              | (refine And.intro ⟨rfl, rfl, rfl, by rw [List.length_map]⟩ ?_)
              | (refine And.intro ⟨rfl, by rw [List.length_map]; omega⟩ ?_)
              | (refine And.intro (by first | omega | (dsimp only; omega) | exact ⟨rfl, Nat.le_refl _⟩) ?_)
              | (intro cap' hcap')
              | (refine And.intro (by omega) ?_)
              | (refine BB.mk (fun _h => ?_) (fun _h => ?_) <;> (first | (exact absurd _h (by decide)) | (exfalso; simp only [boolSet] at _h <;> omega) | skip)))
            all_goals (try conv => whnf)
            all_goals first
              | (refine ⟨(k2 + 1, cap'), ⟨by dsimp only; omega, by dsimp only; omega⟩, by dsimp only; omega, ⟨⟨[0, 1, 2, 6], by decide, GG_no, rfl, SubOld.refl _ rfl, ⟨.inr rfl, .inr rfl, .inr rfl, .inr ?_, trivial⟩, ⟨.inl rfl, .inl rfl, .inl rfl, .inl rfl, .inl rfl, .inl rfl, .inl (num_eq (by rw [IntKind.wrap_i64]; dsimp only; omega)), trivial⟩⟩, rfl⟩⟩
                 dsimp only
                 rw [map_take_in hz, List.map_append]
                 rfl)
              | trace_state
          · obtain rfl : k2 = A.length := by omega
            rw [List.take_length]
            repeat' ((try conv => whnf); first
              | (with_reducible refine OKv.go (C := seat) seat_ok ?_)
              | (with_reducible refine BB_true ?_)
              | (with_reducible refine BB_false ?_)
              | (with_reducible refine Both.mk ?_ ?_)
              | (with_reducible refine VS.mk ?_)
              | (refine PSem.go (C := seat) seat_ok ?_)
              | (refine And.intro (PlanOK.mk (by kernel_rfl) rfl (by kernel_rfl) (by kernel_rfl)) ?_)
              | (refine And.intro rfl (Exists.intro _ (And.intro (by first | assumption | rfl) ?_)))
              | (refine And.intro ⟨rfl, rfl, rfl⟩ ?_)
              | (refine call_ro [_] (rightA_is (A.set kk ⟨y.id, y.fr, 0⟩) cb 100 false (by rw [hsl]; omega) hrb) GG_no rfl rfl rfl ⟨⟨_, rfl, rfl, rfl⟩, trivial⟩ ?_; rintro r bs' ext ⟨rfl, rfl⟩)
              | (refine call_ro [_] (rightA_is (twiceL A kk y) _ 100 false (by rw [htl]; omega) hrt) GG_no rfl rfl rfl ⟨⟨_, rfl, rfl, rfl⟩, trivial⟩ ?_; rintro r bs' ext ⟨rfl, rfl⟩)
              | (refine call_ro [_] (hMI _ _ rfl) GG_no rfl rfl rfl ⟨⟨_, rfl, rfl, rfl⟩, trivial⟩ ?_; rintro r bs' ext ⟨cm, hcm, rfl, rfl⟩)
              | (refine call_ro [_, _] (hSI _ _ _ rfl) GG_no rfl rfl rfl ⟨⟨_, rfl, rfl, rfl⟩, ⟨_, rfl, rfl, rfl⟩, trivial⟩ ?_; rintro r bs' ext ⟨rfl, rfl⟩)
              | (refine call_ro [] (awake_ok) GG_no rfl rfl rfl trivial ?_; rintro r bs' ext ⟨rfl, rfl⟩)
              | (refine And.intro (by omega) ?_)
              | (refine BB.mk (fun _h => ?_) (fun _h => ?_) <;> (first | (exact absurd _h (by decide)) | (exfalso; simp only [boolSet] at _h <;> omega) | skip)))
            all_goals (try conv => whnf)
            all_goals exact ⟨rfl, rfl⟩

end Go.Proofs.Ytcjcnlahieddoaa
