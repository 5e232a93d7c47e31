/- Law TapeRound. -/
import Derived.Test.YtigmgdfplhfdpaaT23j
namespace Go.Proofs.Ytigmgdfplhfdpaa
open Go.RowKit

def shC (x : Int) : List CV := [.v (.int .u16 x)]
theorem someK_at {l : List Int} {p k j : Nat} (h : j < k) : (someK l p k)[j]? = some (numK l p j) := by
  unfold someK
  rw [List.getElem?_map, List.getElem?_range h]; rfl
theorem someK_row {l : List Int} {p k j : Nat} (h : j < k) : ((someK l p k).map nuC)[(j : Int).toNat]? = some [.v (.int .u32 (numK l p j))] := nu_at (someK_at h)
theorem posK_full {l : List Int} {p : Nat} (h : p < l.length) : posK l p l.length = p := by
  unfold posK
  rw [if_neg (by omega), Nat.add_mod_right, Nat.mod_eq_of_lt h]
theorem dr_step {l : List Int} {p k : Nat} {n : Int} (h : 1 ≤ n) : drI l (posK l p k) n = numK l p k % n := by
  unfold drI
  rw [if_neg (by omega), numK_add, Nat.add_zero]
theorem drp_step {l : List Int} {p k : Nat} {n : Int} (h : 1 ≤ n) : drP l (posK l p k) n = posK l p (k + 1) := by
  unfold drP
  rw [if_neg (by omega), posK_add]
theorem cut_eq {th : List Int} {x : Int} {T : Nat} (hx : x = T) : List.take (x.toNat - Int.toNat 0) (List.drop (Int.toNat 0) (th.map shC)) = (th.take T).map shC := by
  subst hx
  rw [Int.toNat_natCast, show Int.toNat 0 = 0 from rfl, Nat.sub_zero, List.drop_zero, List.map_take]
theorem cut_len {th : List Int} {x : Int} {T : Nat} (hx : x = T) (hT : T ≤ th.length) : ((List.take (x.toNat - Int.toNat 0) (List.drop (Int.toNat 0) (th.map shC))).length : Int) = (T : Int) := by
  rw [cut_eq hx, List.length_map, List.length_take]
  omega
theorem z_eq {sz : Nat} {a b : List (List CV)} {c d : Nat} (h : a = b) (k : c = d) : SV.z sz a c = SV.z sz b d := by rw [h, k]
theorem sh_at {th : List Int} {k : Nat} (h : k < th.length) : (th.map shC)[(k : Int).toNat]? = some [.v (.int .u16 (atD th k))] := by
  rw [Int.toNat_natCast, List.getElem?_map, atD_some h]; rfl
set_option maxRecDepth 100000 in
set_option maxHeartbeats 4000000 in
theorem tapeRound_ok (l th : List Int) (c d : Nat) (p : Int) (hc : l.length ≤ c) (hl : l.length ≤ 9223372036854775807) (hth : th.length ≤ 9223372036854775807) (hok : ∀ y ∈ l, NuOk y) (hsh : ∀ y ∈ th, 0 ≤ y ∧ y ≤ 65535) : FnOK Try.prog GG 4 [] [tpS l c p, .z 1 (th.map shC) d] (fun r _ ext => (r = .v (.bool true)) ∧ ext = []) := by
  have hml : (l.map nuC).length = l.length := List.length_map _
  by_cases hbad : l.length = 0 ∨ 200 < l.length ∨ p < 0 ∨ (l.length : Int) ≤ p
  · refine FnOK.pure GG_no rfl (fn_intro (C := seat) seat_ok [(5, (.of [(0, .take), (1, .take), (2, .do_), (3, .take), (4, .take), (5, .take), (6, .take), (7, .do_), (8, .take), (9, .take), (10, .take), (11, .take), (12, .take), (13, .do_), (14, .take), (15, .take), (16, .take), (17, .take), (18, .take), (19, .take), (20, .take), (21, .take), (22, .take), (23, .take), (24, .take), (25, .take), (26, .take), (27, .take), (28, .take), (29, .take), (30, .take), (31, .take), (32, .take), (33, .take), (34, .take), (35, .take)]))] GG_no (Try.func4) rfl rfl rfl rfl rfl ?_)
    repeat' ((try conv => whnf); first
      | (with_reducible refine OKv.go (C := seat) seat_ok ?_)
      | (with_reducible refine BB_true ?_)
      | (with_reducible refine BB_false ?_)
      | (with_reducible refine Both.mk ?_ ?_)
      | (with_reducible refine VS.mk ?_)
      | (refine PSem.go (C := seat) seat_ok ?_)
      | (refine And.intro (PlanOK.mk (by kernel_rfl) rfl (by kernel_rfl) (by kernel_rfl)) ?_)
      | (refine And.intro rfl (Exists.intro _ (And.intro (by first | assumption | rfl) ?_)))
      | (refine And.intro ⟨rfl, rfl, rfl⟩ ?_)
      | (refine call_ro [] (awake_ok) GG_no rfl rfl rfl trivial ?_; rintro r bs' ext ⟨rfl, rfl⟩)
      | (refine BB.mk (fun _h => ?_) (fun _h => ?_) <;> (first | (exact absurd _h (by decide)) | (exfalso; simp only [bne_self_eq_false, beq_self_eq_true, Bool.false_eq_true, Bool.true_eq_false] at _h; done) | (exfalso; simp only [boolSet, hml] at _h <;> omega) | (simp only [boolSet, hml] at _h) | skip))
      | (refine And.intro (by omega) ?_)
      | (refine BB.mk (fun _h => ?_) (fun _h => ?_) <;> (first | (exact absurd _h (by decide)) | (exfalso; simp only [boolSet] at _h <;> omega) | skip)))
    all_goals (try conv => whnf)
    all_goals first
      | exact ⟨_, _, FrzV.refl _ _, rfl, rfl, fun _ => rfl, rfl⟩
      | (exfalso; omega)
      | trace_state
  · obtain ⟨P, rfl, hP⟩ : ∃ P : Nat, p = (P : Int) ∧ P < l.length := ⟨p.toNat, by omega, by omega⟩
    have hpl : plI l (P : Int) = P := by
      unfold plI
      rw [if_neg (by omega)]
      omega
    have hPN := posK_full hP
    have hP0 : posK l P 0 = P := posK_zero (.inr hP)
    have hmt : (th.map shC).length = th.length := List.length_map _
    have hsl := someK_len l P l.length
    have hrow := atN hP
    have hr0 : numK l P 0 = atD l P := by rw [numK_pos (by omega), hP0]
    obtain ⟨T, hT⟩ : ∃ T, min th.length 100 = T := ⟨_, rfl⟩
    have hM : (bif false then (if (100 : Int) > ((th.map shC).length : Int) then 100 else ((th.map shC).length : Int)) else (if (100 : Int) < ((th.map shC).length : Int) then 100 else ((th.map shC).length : Int))) = (T : Int) := by
      rw [hmt]
      simp only [cond_false]
      split <;> omega
    have hCL := cut_len (th := th) hM (by omega)
    have hCL2 : ((List.take ((if (100 : Int) < (th.length : Int) then 100 else (th.length : Int)).toNat - Int.toNat 0) (List.drop (Int.toNat 0) (th.map shC))).length : Int) = (T : Int) := cut_len (by split <;> omega) (by omega)
    have hsT : ((someK l P T).map nuC).length = T := by rw [List.length_map, someK_len]
    have hrow0 : ((someK l P l.length).map nuC)[(0 : Int).toNat]? = some [.v (.int .u32 (atD l P))] := by
      have := someK_row (l := l) (p := P) (k := l.length) (j := 0) (by omega)
      rw [hr0] at this
      exact this
    refine FnOK.pure GG_no rfl (fn_intro (C := seat) seat_ok [(5, (.of [(0, .take), (1, .take), (2, .do_), (3, .take), (4, .take), (5, .take), (6, .take), (7, .do_), (8, .take), (9, .take), (10, .take), (11, .take), (12, .take), (13, .do_), (14, .take), (15, .take), (16, .take), (17, .take), (18, .take), (19, .take), (20, .take), (21, .take), (22, .take), (23, .take), (24, .take), (25, .take), (26, .take), (27, .take), (28, .take), (29, .take), (30, .take), (31, .take), (32, .take), (33, .take), (34, .take), (35, .take)]))] GG_no (Try.func4) rfl rfl rfl rfl rfl ?_)
    repeat' ((try conv => whnf); first
      | (with_reducible refine OKv.go (C := seat) seat_ok ?_)
      | (with_reducible refine BB_true ?_)
      | (with_reducible refine BB_false ?_)
      | (with_reducible refine Both.mk ?_ ?_)
      | (with_reducible refine VS.mk ?_)
      | (refine PSem.go (C := seat) seat_ok ?_)
      | (refine And.intro (PlanOK.mk (by kernel_rfl) rfl (by kernel_rfl) (by kernel_rfl)) ?_)
      | (refine And.intro rfl (Exists.intro _ (And.intro (by first | assumption | rfl) ?_)))
      | (refine And.intro ⟨rfl, rfl, rfl⟩ ?_)
      | (refine call_ro [] (awake_ok) GG_no rfl rfl rfl trivial ?_; rintro r bs' ext ⟨rfl, rfl⟩)
      | (refine call_ro [] (some_c l c (P : Int) (by omega) hc P hpl ((l.map nuC).length : Int) l.length (cnt_le (by rw [List.length_map]) (by omega)) (by omega)) GG_no rfl rfl rfl trivial ?_; rintro r bs' ext ⟨⟨c1, c2, ⟨hc1, hc2⟩, rfl⟩, rfl⟩)
      | (refine call_ro [] (some_c l c1 (posK l P l.length : Int) (by omega) hc1 P (by rw [plI_pos, hPN]) ((l.map nuC).length : Int) l.length (cnt_le (by rw [List.length_map]) (by omega)) (by omega)) GG_no rfl rfl rfl trivial ?_; rintro r bs' ext ⟨⟨c3, c4, ⟨hc3, hc4⟩, rfl⟩, rfl⟩)
      | (refine call_ro [] (sameT_z l l _ _ (posK l P l.length : Int) (P : Int) (by omega) true (by rw [hPN]; simp)) GG_no rfl rfl rfl trivial ?_; rintro r bs' ext ⟨rfl, rfl⟩)
      | (refine call_ro [] (nums_b (someK l P l.length) (someK l P l.length) _ _ (by omega) true (by simp)) GG_no rfl rfl rfl trivial ?_; rintro r bs' ext ⟨rfl, rfl⟩)
      | (refine And.intro ⟨by omega, by simp only [List.length_map]; omega⟩ (Exists.intro _ (And.intro (by first | assumption | rfl) ?_)))
      | (refine And.intro ⟨by decide, by rw [hM]; omega, by rw [hM]; omega⟩ ?_)
      | (refine call_ro [] (some_c l c (P : Int) (by omega) hc P hpl _ T (cnt_le (cut_len (th := th) hM (by omega)) (by omega)) (by rw [cut_len (th := th) hM (by omega)]; omega)) GG_no rfl rfl rfl trivial ?_; rintro r bs' ext ⟨⟨c5, c6, ⟨hc5, hc6⟩, rfl⟩, rfl⟩)
      | (refine BB.mk (fun _h => ?_) (fun _h => ?_) <;> (first | (exact absurd _h (by decide)) | (exfalso; simp only [bne_self_eq_false, beq_self_eq_true, Bool.false_eq_true, Bool.true_eq_false] at _h; done) | (exfalso; simp only [boolSet, hsT, hmt, hCL2, ne_eq, not_true_eq_false] at _h; done) | (exfalso; simp only [boolSet, hml, hmt, List.length_map, someK_len, ne_eq, not_true_eq_false] at _h <;> omega) | (simp only [boolSet, hml, hmt] at _h) | skip))
      | (refine And.intro (by omega) ?_)
      | (refine BB.mk (fun _h => ?_) (fun _h => ?_) <;> (first | (exact absurd _h (by decide)) | (exfalso; simp only [boolSet] at _h <;> omega) | skip)))
    all_goals (try conv => whnf)
    refine loop_rule (α := Nat × Nat) (fun p => p.1 ≤ T ∧ l.length ≤ p.2) (fun p => { slots := [(9, .z 1 ((someK l P T).map nuC) c6), (10, .p (.n 0) 0 0 0), (11, .p (.n 1) 0 0 0), (111, .z 1 ((th.take T).map shC) d), (112, .v (.int .i64 (T : Int))), (113, .v (.int .i64 (p.1 : Int)))], nt := 154, mem := ⟨GG, [], [.box 24 [.z 1 (l.map nuC) c5, .v (.int .i64 (posK l P T))], .box 24 [.z 1 (l.map nuC) p.2, .v (.int .i64 (posK l P p.1))]]⟩ }) (fun p => T - p.1) (0, c) ⟨Nat.zero_le _, hc⟩
      ⟨⟨[3, 4], by decide, GG_no, rfl, SubOld.refl _ rfl, ⟨rfl, by dsimp only; rw [hP0]; rfl, trivial⟩, ⟨.inl rfl, .inl rfl, .inl rfl, .inl (z_eq (cut_eq hM) rfl), .inl (num_eq hCL), .inl rfl, trivial⟩⟩, rfl⟩ ?_ (fun _ => rfl)
    rintro ⟨k, e⟩ ⟨hk, he⟩
    dsimp only at hk he ⊢
    refine vc_sound (C := seat) seat_ok (pl := [(5, (.of [(0, .take), (1, .take), (2, .do_), (3, .take), (4, .take), (5, .take), (6, .take), (7, .do_), (8, .take), (9, .take), (10, .take), (11, .take), (12, .take), (13, .do_), (14, .take), (15, .take), (16, .take), (17, .take), (18, .take), (19, .take), (20, .take), (21, .take), (22, .take), (23, .take), (24, .take), (25, .take), (26, .take), (27, .take), (28, .take), (29, .take), (30, .take), (31, .take), (32, .take), (33, .take), (34, .take), (35, .take)]))]) ?_
    by_cases hlt : k < T
    · obtain ⟨x, hxe⟩ : ∃ x, atD (th.take T) k = x := ⟨_, rfl⟩
      have hrowT := sh_at (th := th.take T) (k := k) (by rw [List.length_take]; omega)
      rw [hxe] at hrowT
      have hx : 0 ≤ x ∧ x ≤ 65535 := by
        rw [← hxe]
        exact hsh _ (List.mem_of_mem_take (List.mem_of_getElem? (atD_some (by rw [List.length_take]; omega))))
      have hlT : ((th.take T).map shC).length = T := by rw [List.length_map, List.length_take]; omega
      have hrowS := someK_row (l := l) (p := P) hlt
      obtain ⟨n, hn⟩ : ∃ n, (IntKind.i64.wrap (IntKind.i64.wrap x + 1)) = n := ⟨_, rfl⟩
      have hn1 : 1 ≤ n ∧ n ≤ 65536 := by rw [← hn]; simp only [IntKind.wrap_i64]; omega
      have hnk := numK_ok hok P k
      obtain ⟨r0, hr0⟩ : ∃ r0, numK l P k % n = r0 := ⟨_, rfl⟩
      have hrb : 0 ≤ r0 ∧ r0 < n := by
        rw [← hr0]
        exact ⟨Int.emod_nonneg _ (by omega), Int.emod_lt_of_pos _ (by omega)⟩
      have hrem : IntKind.i64.wrap ((numK l P k).tmod (IntKind.u32.wrap (IntKind.i64.wrap (IntKind.i64.wrap x + 1)))) = r0 := by
        have e2 : IntKind.u32.wrap n = n := by rw [IntKind.wrap_u32]; omega
        rw [hn, e2, Int.tmod_eq_emod_of_nonneg hnk.1, IntKind.wrap_i64, hr0]
        omega
      repeat' ((try conv => whnf); first
        | (with_reducible refine OKv.go (C := seat) seat_ok ?_)
        | (with_reducible refine BB_true ?_)
        | (with_reducible refine BB_false ?_)
        | (with_reducible refine Both.mk ?_ ?_)
        | (with_reducible refine VS.mk ?_)
        | (refine PSem.go (C := seat) seat_ok ?_)
        | (refine And.intro (PlanOK.mk (by kernel_rfl) rfl (by kernel_rfl) (by kernel_rfl)) ?_)
        | (refine And.intro rfl (Exists.intro _ (And.intro (by first | assumption | rfl) ?_)))
        | (refine And.intro ⟨rfl, rfl, rfl⟩ ?_)
        | (refine call_ro [] (draw_b l e (posK l P k : Int) (by omega) he (IntKind.i64.wrap (IntKind.i64.wrap x + 1)) (by omega) hok r0 (posK l P (k + 1) : Int) (by rw [plI_pos, hn, dr_step hn1.1, hr0]) (by rw [plI_pos, hn, drp_step hn1.1])) GG_no rfl rfl rfl trivial ?_; rintro r bs' ext ⟨⟨e1, he1, rfl⟩, rfl⟩)
        | (refine And.intro ⟨by omega, by omega⟩ (Exists.intro _ (And.intro (by assumption) ?_)))
        | (refine And.intro (by rw [IntKind.wrap_u32]; omega) ?_)
        | (refine BB.mk (fun _h => ?_) (fun _h => ?_) <;> (first | (exact absurd _h (by decide)) | (exfalso; simp only [bne_self_eq_false, beq_self_eq_true, Bool.false_eq_true, Bool.true_eq_false] at _h; done) | (exfalso; simp only [boolSet, hrem, hn, not_true_eq_false] at _h <;> omega) | (exfalso; simp only [boolSet, hrem, not_true_eq_false] at _h; done) | (simp only [boolSet] at _h) | skip))
        | (refine And.intro (by omega) ?_)
        | (refine BB.mk (fun _h => ?_) (fun _h => ?_) <;> (first | (exact absurd _h (by decide)) | (exfalso; simp only [boolSet] at _h <;> omega) | skip)))
      all_goals (try conv => whnf)
      all_goals first
        | exact ⟨(k + 1, e1), ⟨by dsimp only; omega, he1⟩, by dsimp only; omega, ⟨⟨[0, 1], by decide, GG_no, rfl, SubOld.refl _ rfl, ⟨rfl, rfl, trivial⟩, ⟨.inl rfl, .inl rfl, .inl rfl, .inl rfl, .inl rfl, .inl (num_eq (by rw [IntKind.wrap_i64]; omega)), trivial⟩⟩, rfl⟩⟩
        | trace_state
    · obtain rfl : k = T := by omega
      repeat' ((try conv => whnf); first
        | (with_reducible refine OKv.go (C := seat) seat_ok ?_)
        | (with_reducible refine BB_true ?_)
        | (with_reducible refine BB_false ?_)
        | (with_reducible refine Both.mk ?_ ?_)
        | (with_reducible refine VS.mk ?_)
        | (refine PSem.go (C := seat) seat_ok ?_)
        | (refine And.intro (PlanOK.mk (by kernel_rfl) rfl (by kernel_rfl) (by kernel_rfl)) ?_)
        | (refine And.intro rfl (Exists.intro _ (And.intro (by first | assumption | rfl) ?_)))
        | (refine And.intro ⟨rfl, rfl, rfl⟩ ?_)
        | (refine call_ro [] (sameT_z l l _ _ (posK l P k : Int) (posK l P k : Int) (by omega) true (by simp)) GG_no rfl rfl rfl trivial ?_; rintro r bs' ext ⟨rfl, rfl⟩)
        | (refine call_ro [] (awake_ok) GG_no rfl rfl rfl trivial ?_; rintro r bs' ext ⟨rfl, rfl⟩)
        | (refine BB.mk (fun _h => ?_) (fun _h => ?_) <;> (first | (exact absurd _h (by decide)) | (exfalso; simp only [bne_self_eq_false, beq_self_eq_true, Bool.false_eq_true, Bool.true_eq_false] at _h; done) | (exfalso; simp only [boolSet, ne_eq, not_true_eq_false] at _h; done) | (exfalso; simp only [boolSet, hml, List.length_map, someK_len, ne_eq, not_true_eq_false] at _h <;> omega) | (simp only [boolSet, hml] at _h) | skip))
        | (refine And.intro (by omega) ?_)
        | (refine BB.mk (fun _h => ?_) (fun _h => ?_) <;> (first | (exact absurd _h (by decide)) | (exfalso; simp only [boolSet] at _h <;> omega) | skip)))
      all_goals (try conv => whnf)
      all_goals first
        | exact ⟨_, _, FrzV.refl _ _, rfl, rfl, fun _ => rfl, rfl⟩
        | trace_state
end Go.Proofs.Ytigmgdfplhfdpaa
