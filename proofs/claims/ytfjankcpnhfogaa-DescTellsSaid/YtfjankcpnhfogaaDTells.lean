/- Law DescTells. -/
import Derived.Test.YtfjankcpnhfogaaD09z
namespace Go.Proofs.Ytfjankcpnhfogaa
open Go.RowKit

theorem view_v (l : List De) (cap : Nat) (self room : Int) (hl : l.length ≤ 1099511627776) (hi : ∀ y ∈ l, 0 ≤ y.node ∧ y.node ≤ 255) (u : List De) (hu : viewN l self room 256 = u) : FnOK Try.prog GG 15 [] [.z 4 (l.map deC) cap, .v (.int .u8 self), .v (.int .i64 room)] (fun r _ ext => (∃ cap', u.length ≤ cap' ∧ r = .z 4 (u.map deC) cap') ∧ ext = []) := by
  subst hu
  exact view_zz l cap self room hl hi
theorem few_of {l : List De} (h : (l.all (fun d => decide (d.fl.length ≤ 8)) && decide (l.length ≤ 20)) = true) : FlOk l ∧ l.length ≤ 20 := by
  simp only [Bool.and_eq_true, List.all_eq_true, decide_eq_true_eq] at h
  exact ⟨fun y hy => by have := h.1 y hy; omega, h.2⟩
theorem put_flt {l : List De} {d : De} {self room : Int} (h : FlOk l) (hd : d.fl.length ≤ 1099511627776) : FlOk (putP l d self room).1 := fun y hy => by
  rcases put_mem hy with rfl | h1
  · exact hd
  · exact h y h1
theorem put_len (v : List De) (d : De) (self room : Int) : (putP v d self room).1.length ≤ v.length + 1 := by
  unfold putP
  (repeat' split) <;> first | exact Nat.le_succ _ | (rw [insL_len _ _ _ (place_le _ _)]; omega) | (rw [List.length_set]; omega) | (simp only [List.length_set]; omega) | (simp; omega)
theorem desc_b (a b : De) (c1 c2 : Nat) (hf : a.fl.length ≤ 1099511627776) (v : Bool) (hv : decide (a = b) = v) : FnOK Try.prog GG 18 [] [deS a c1, deS b c2] (fun r _ ext => r = .v (.bool v) ∧ ext = []) := hv ▸ desc_ok a b c1 c2 hf
theorem right_neg (l : List De) (self : Int) : rightB l self (-1) = false := by
  unfold rightB
  rw [decide_eq_false (by omega), Bool.false_and]
set_option maxRecDepth 100000 in
set_option maxHeartbeats 4000000 in
theorem descTells_ok (l : List De) (cap : Nat) (d : De) (cd : Nat) (self node room : Int) (hl : l.length ≤ 9223372036854775807) (hok : ∀ y ∈ l, DeOk y) (hd : DeOk d) (hcd : d.fl.length ≤ cd) (hroom : 0 ≤ room ∧ room ≤ 255) : FnOK Try.prog GG 3 [] [.z 4 (l.map deC) cap, deS d cd, .v (.int .u8 self), .v (.int .u8 node), .v (.int .u8 room)] (fun r _ ext => (r = .v (.bool true)) ∧ ext = []) := by
  have hlm : (l.map deC).length = l.length := List.length_map _
  have hdm : (d.fl.map spC).length = d.fl.length := List.length_map _
  cases hfew : (l.all (fun d => decide (d.fl.length ≤ 8)) && decide (l.length ≤ 20)) with
  | false =>
    refine FnOK.pure GG_no rfl (fn_intro (C := seat) seat_ok [(13, (.of [(0, .take), (1, .take), (3, .take), (4, .take), (2, .do_), (5, .do_), (6, .take)]))] GG_no (Try.func3) rfl rfl rfl rfl rfl ?_)
    repeat' ((try conv => whnf); first
      | (with_reducible refine OKv.go (C := seat) seat_ok ?_)
      | (with_reducible refine BB_true ?_)
      | (with_reducible refine BB_false ?_)
      | (with_reducible refine Both.mk ?_ ?_)
      | (with_reducible refine VS.mk ?_)
      | (refine PSem.go (C := seat) seat_ok ?_)
      | (refine And.intro (PlanOK.mk (by kernel_rfl) rfl (by kernel_rfl) (by kernel_rfl)) ?_)
      | (refine And.intro rfl (Exists.intro _ (And.intro (by first | assumption | rfl) ?_)))
      | (refine And.intro ⟨rfl, rfl, rfl⟩ ?_)
      | (refine call_ro [] (few_zz l cap false hl hfew) GG_no rfl rfl rfl trivial ?_; rintro r bs' ext ⟨rfl, rfl⟩)
      | (refine call_ro [] awake_ok GG_no rfl rfl rfl trivial ?_; rintro r bs' ext ⟨rfl, rfl⟩)
      | (refine BB.mk (fun _h => ?_) (fun _h => ?_) <;> (first | (exact absurd _h (by decide)) | (exfalso; simp only [bne_self_eq_false, beq_self_eq_true, Bool.false_eq_true, Bool.true_eq_false] at _h; done) | (exfalso; simp only [boolSet, hlm, hdm] at _h <;> omega) | (simp only [boolSet, hlm, hdm] at _h) | skip))
      | (refine And.intro (by omega) ?_)
      | (refine BB.mk (fun _h => ?_) (fun _h => ?_) <;> (first | (exact absurd _h (by decide)) | (exfalso; simp only [boolSet] at _h <;> omega) | skip)))
    all_goals (try conv => whnf)
    all_goals exact ⟨_, _, FrzV.refl _ _, rfl, rfl, fun _ => rfl, rfl⟩
  | true =>
    by_cases h8 : 8 < d.fl.length
    · refine FnOK.pure GG_no rfl (fn_intro (C := seat) seat_ok [(13, (.of [(0, .take), (1, .take), (3, .take), (4, .take), (2, .do_), (5, .do_), (6, .take)]))] GG_no (Try.func3) rfl rfl rfl rfl rfl ?_)
      repeat' ((try conv => whnf); first
        | (with_reducible refine OKv.go (C := seat) seat_ok ?_)
        | (with_reducible refine BB_true ?_)
        | (with_reducible refine BB_false ?_)
        | (with_reducible refine Both.mk ?_ ?_)
        | (with_reducible refine VS.mk ?_)
        | (refine PSem.go (C := seat) seat_ok ?_)
        | (refine And.intro (PlanOK.mk (by kernel_rfl) rfl (by kernel_rfl) (by kernel_rfl)) ?_)
        | (refine And.intro rfl (Exists.intro _ (And.intro (by first | assumption | rfl) ?_)))
        | (refine And.intro ⟨rfl, rfl, rfl⟩ ?_)
        | (refine call_ro [] (few_zz l cap true hl hfew) GG_no rfl rfl rfl trivial ?_; rintro r bs' ext ⟨rfl, rfl⟩)
        | (refine call_ro [] awake_ok GG_no rfl rfl rfl trivial ?_; rintro r bs' ext ⟨rfl, rfl⟩)
        | (refine BB.mk (fun _h => ?_) (fun _h => ?_) <;> (first | (exact absurd _h (by decide)) | (exfalso; simp only [bne_self_eq_false, beq_self_eq_true, Bool.false_eq_true, Bool.true_eq_false] at _h; done) | (exfalso; simp only [boolSet, hlm, hdm] at _h <;> omega) | (simp only [boolSet, hlm, hdm] at _h) | skip))
        | (refine And.intro (by omega) ?_)
        | (refine BB.mk (fun _h => ?_) (fun _h => ?_) <;> (first | (exact absurd _h (by decide)) | (exfalso; simp only [boolSet] at _h <;> omega) | skip)))
      all_goals (try conv => whnf)
      all_goals first
        | exact ⟨_, _, FrzV.refl _ _, rfl, rfl, fun _ => rfl, rfl⟩
        | (exfalso; omega)
    · obtain ⟨hf, hl20⟩ := few_of hfew
      obtain ⟨R, hR⟩ : ∃ R, IntKind.i64.wrap (room.tmod 21) = R := ⟨_, rfl⟩
      have hR0 : 0 ≤ R ∧ R ≤ 20 := by rw [← hR, Int.tmod_eq_emod_of_nonneg hroom.1, IntKind.wrap_i64]; omega
      have hV : VOk self R (viewN l self R 256) := VOk.view hR0.1 (fun y hy => (hok y hy).2.1.1)
      have hVf : FlOk (viewN l self R 256) := view_fl hf
      have hVo := view_ok_mem (self := self) (room := R) hok
      have hVl := hV.len
      have hVr := hV.rising
      obtain ⟨v, hv⟩ : ∃ v, viewN l self R 256 = v := ⟨_, rfl⟩
      rw [hv] at hVf hVo hVl hVr
      have hVag : ∀ y ∈ v, 0 ≤ y.age ∧ y.age ≤ 255 := fun y hy => (hVo y hy).2.2
      have hmv : (v.map deC).length = v.length := List.length_map _
      have hdl : d.fl.length ≤ 1099511627776 := by omega
      obtain ⟨b, hb⟩ : ∃ b, rightB l self R = b := ⟨_, rfl⟩
      obtain ⟨o, pb, he⟩ : ∃ o pb, putP v d self R = (o, pb) := ⟨_, _, rfl⟩
      have hof : FlOk o := by
        have := put_flt (self := self) (room := R) hVf hdl
        rw [he] at this
        exact this
      have hol : o.length ≤ 1000 := by
        have := put_len v d self R
        rw [he] at this
        dsimp only at this
        omega
      obtain ⟨z, hz⟩ : ∃ z, findZ node v = z := ⟨_, rfl⟩
      obtain ⟨w, hw⟩ : ∃ w, oldZ (oldAt v v.length) = w := ⟨_, rfl⟩
      have hoF : FlOk (v.map older) := fun y hy => by
        obtain ⟨x, hx, rfl⟩ := List.mem_map.1 hy
        exact hVf x hx
      have hdL := drop_len (x := node) (l := v)
      have hdF : FlOk (dropL node v) := fun y hy => hVf y (drop_mem hy)
      subst hR
      refine FnOK.pure GG_no rfl (fn_intro (C := seat) seat_ok [(13, (.of [(0, .take), (1, .take), (3, .take), (4, .take), (2, .do_), (5, .do_), (6, .take)]))] GG_no (Try.func3) rfl rfl rfl rfl rfl ?_)
      repeat' ((try conv => whnf); first
        | (with_reducible refine OKv.go (C := seat) seat_ok ?_)
        | (with_reducible refine BB_true ?_)
        | (with_reducible refine BB_false ?_)
        | (with_reducible refine Both.mk ?_ ?_)
        | (with_reducible refine VS.mk ?_)
        | (refine PSem.go (C := seat) seat_ok ?_)
        | (refine And.intro (PlanOK.mk (by kernel_rfl) rfl (by kernel_rfl) (by kernel_rfl)) ?_)
        | (refine And.intro rfl (Exists.intro _ (And.intro (by first | assumption | rfl) ?_)))
        | (refine And.intro ⟨rfl, rfl, rfl⟩ ?_)
        | (refine call_ro [] (few_zz l cap true hl hfew) GG_no rfl rfl rfl trivial ?_; rintro r bs' ext ⟨rfl, rfl⟩)
        | (refine call_ro [] (right_zz l cap self (IntKind.i64.wrap (room.tmod 21)) b (by omega) hb) GG_no rfl rfl rfl trivial ?_; rintro r bs' ext ⟨rfl, rfl⟩)
        | (refine call_ro [] (rright_zz l cap self (IntKind.i64.wrap (room.tmod 21)) (by omega) b hb) GG_no rfl rfl rfl trivial ?_; rintro r bs' ext ⟨rfl, rfl⟩)
        | (refine call_ro [] (copy_zz l cap (by omega) hf) GG_no rfl rfl rfl trivial ?_; rintro r bs' ext ⟨⟨c1, hc1, rfl⟩, rfl⟩)
        | (refine call_ro [] (descs_zz l l _ _ (by omega) hf true (decide_eq_true rfl)) GG_no rfl rfl rfl trivial ?_; rintro r bs' ext ⟨rfl, rfl⟩)
        | (refine call_ro [] (right_zz l cap self (-1) false (by omega) (right_neg l self)) GG_no rfl rfl rfl trivial ?_; rintro r bs' ext ⟨rfl, rfl⟩)
        | (refine call_ro [] (sames_is d cd hcd (by omega) hd) GG_no rfl rfl rfl trivial ?_; rintro r bs' ext ⟨rfl, rfl⟩)
        | (refine call_ro [] (view_v l cap self (IntKind.i64.wrap (room.tmod 21)) (by omega) (fun y hy => (hok y hy).1) v hv) GG_no rfl rfl rfl trivial ?_; rintro r bs' ext ⟨⟨cv, hcv, rfl⟩, rfl⟩)
        | (refine call_ro [] (anew_zz v cv (by omega) hVf) GG_no rfl rfl rfl trivial ?_; rintro r bs' ext ⟨⟨cw, hcw, rfl⟩, rfl⟩)
        | (refine fun (caps : Nat → Nat) hcaps => ?_; conv at hcaps => whnf)
        | (refine BB.mk (fun _h => ?_) (fun _h => ?_) <;> (first | (exact absurd _h (by decide)) | (exfalso; simp only [bne_self_eq_false, beq_self_eq_true, Bool.false_eq_true, Bool.true_eq_false] at _h; done) | (exfalso; simp only [boolSet, hlm, hdm] at _h <;> omega) | (simp only [boolSet, hlm, hdm] at _h) | skip))
        | (refine And.intro (by omega) ?_)
        | (refine BB.mk (fun _h => ?_) (fun _h => ?_) <;> (first | (exact absurd _h (by decide)) | (exfalso; simp only [boolSet] at _h <;> omega) | skip)))
      all_goals (try conv => whnf)
      refine loop_rule (α := Nat) (fun k => k ≤ l.length) (fun k => { slots := [(2, .v (.int .u8 self)), (3, .v (.int .u8 node)), (6, .p (.n 0) 0 0 0), (11, .v (.int .i64 (IntKind.i64.wrap (room.tmod 21)))), (12, .z 4 (v.map deC) cv), (13, .z 4 (v.map deC) cw), (64, .z 4 (l.map deC) cap), (65, .v (.int .i64 (l.map deC).length)), (66, .v (.int .i64 (k : Int)))], nt := 143, mem := ⟨GG, [], [.box 27 [.v (.int .u8 d.node), .v (.int .u16 d.inc), .v (.int .u8 d.age), .z 2 (d.fl.map spC) cd]]⟩ }) (fun k => l.length - k) 0 (Nat.zero_le _) ⟨⟨[0], (by decide), GG_no, rfl, (SubOld.refl _ rfl), ⟨rfl, trivial⟩, ⟨.inl rfl, .inl rfl, .inl rfl, .inl rfl, .inl rfl, .inl rfl, .inl rfl, .inl rfl, .inl rfl, trivial⟩⟩, rfl⟩ ?_ (fun _ => rfl)
      intro k hk
      refine vc_sound (C := seat) seat_ok (pl := [(13, (.of [(0, .take), (1, .take), (3, .take), (4, .take), (2, .do_), (5, .do_), (6, .take)]))]) ?_
      by_cases hlt : k < l.length
      · obtain ⟨y, hy⟩ : ∃ y, l[k]? = some y := ⟨_, List.getElem?_eq_getElem hlt⟩
        have hrow := zde9 hy
        have hyf := hf y (List.mem_of_getElem? hy)
        obtain ⟨q, hq⟩ : ∃ q, decide (y = d) = q := ⟨_, rfl⟩
        repeat' ((try conv => whnf); first
          | (with_reducible refine OKv.go (C := seat) seat_ok ?_)
          | (with_reducible refine BB_true ?_)
          | (with_reducible refine BB_false ?_)
          | (with_reducible refine Both.mk ?_ ?_)
          | (with_reducible refine VS.mk ?_)
          | (refine PSem.go (C := seat) seat_ok ?_)
          | (refine And.intro (PlanOK.mk (by kernel_rfl) rfl (by kernel_rfl) (by kernel_rfl)) ?_)
          | (refine And.intro rfl (Exists.intro _ (And.intro (by first | assumption | rfl) ?_)))
          | (refine And.intro ⟨rfl, rfl, rfl⟩ ?_)
          | (refine call_ro [] (sames_ok y d _ _ hyf q hq) GG_no rfl rfl rfl trivial ?_; rintro r bs' ext ⟨rfl, rfl⟩)
          | (refine call_ro [] (desc_b y d _ _ hyf q hq) GG_no rfl rfl rfl trivial ?_; rintro r bs' ext ⟨rfl, rfl⟩)
          | (refine And.intro ⟨by omega, by simp only [List.length_map]; omega⟩ (Exists.intro _ (And.intro (by first | assumption | rfl) ?_)))
          | (refine fun (caps : Nat → Nat) hcaps => ?_; conv at hcaps => whnf)
          | (refine BB.mk (fun _h => ?_) (fun _h => ?_) <;> (first | (exact absurd _h (by decide)) | (exfalso; simp only [bne_self_eq_false, beq_self_eq_true, Bool.false_eq_true, Bool.true_eq_false] at _h; done) | (exfalso; simp only [boolSet, hlm, hdm] at _h <;> omega) | (simp only [boolSet, hlm, hdm] at _h) | skip))
          | (refine And.intro (by omega) ?_)
          | (refine BB.mk (fun _h => ?_) (fun _h => ?_) <;> (first | (exact absurd _h (by decide)) | (exfalso; simp only [boolSet] at _h <;> omega) | skip)))
        all_goals (try conv => whnf)
        all_goals first
          | exact ⟨k + 1, by omega, by omega, ⟨⟨[0], by decide, GG_no, rfl, SubOld.refl _ rfl, ⟨rfl, trivial⟩, ⟨.inl rfl, .inl rfl, .inl rfl, .inl rfl, .inl rfl, .inl rfl, .inl rfl, .inl rfl, .inl (num_eq (by rw [IntKind.wrap_i64]; omega)), trivial⟩⟩, rfl⟩⟩
          | trace_state
      · obtain rfl : k = l.length := by omega
        repeat' ((try conv => whnf); first
          | (with_reducible refine OKv.go (C := seat) seat_ok ?_)
          | (with_reducible refine BB_true ?_)
          | (with_reducible refine BB_false ?_)
          | (with_reducible refine Both.mk ?_ ?_)
          | (with_reducible refine VS.mk ?_)
          | (refine PSem.go (C := seat) seat_ok ?_)
          | (refine And.intro (PlanOK.mk (by kernel_rfl) rfl (by kernel_rfl) (by kernel_rfl)) ?_)
          | (refine And.intro rfl (Exists.intro _ (And.intro (by first | assumption | rfl) ?_)))
          | (refine And.intro ⟨rfl, rfl, rfl⟩ ?_)
          | (refine call_ro [] (put_zz v cv (by omega) hVr hVf d cd hcd hdl self (IntKind.i64.wrap (room.tmod 21)) o pb he) GG_no rfl rfl rfl trivial ?_; rintro r bs' ext ⟨⟨c3, hc3, rfl⟩, rfl⟩)
          | (refine call_ro [] (rput_zz v cv (by omega) hVr d cd hcd self (IntKind.i64.wrap (room.tmod 21)) hVf hdl o pb he) GG_no rfl rfl rfl trivial ?_; rintro r bs' ext ⟨⟨c4, hc4, rfl⟩, rfl⟩)
          | (refine call_ro [] (descs_zz o o _ _ (by omega) hof true (decide_eq_true rfl)) GG_no rfl rfl rfl trivial ?_; rintro r bs' ext ⟨rfl, rfl⟩)
          | (refine call_ro [] (find_zz v cv node (by omega) hVr z hz) GG_no rfl rfl rfl trivial ?_; rintro r bs' ext ⟨rfl, rfl⟩)
          | (refine call_ro [] (rfind_ok v cv node (by omega) hVr z hz) GG_no rfl rfl rfl trivial ?_; rintro r bs' ext ⟨rfl, rfl⟩)
          | (refine call_ro [] (drop_zz v cv node (by omega) hVr hVf) GG_no rfl rfl rfl trivial ?_; rintro r bs' ext ⟨⟨c5, hc5, rfl⟩, rfl⟩)
          | (refine call_ro [] (rdrop_ok v cv node (by omega) hVr (dropL node v) rfl) GG_no rfl rfl rfl trivial ?_; rintro r bs' ext ⟨⟨c6, hc6, rfl⟩, rfl⟩)
          | (refine call_ro [] (descs_zz (dropL node v) (dropL node v) _ _ (by omega) hdF true (decide_eq_true rfl)) GG_no rfl rfl rfl trivial ?_; rintro r bs' ext ⟨rfl, rfl⟩)
          | (refine call_ro [] (older_zz v cv (by omega) hVf hVag) GG_no rfl rfl rfl trivial ?_; rintro r bs' ext ⟨⟨c7, hc7, rfl⟩, rfl⟩)
          | (refine call_ro [] (rolder_zz v cv (by omega) hVag) GG_no rfl rfl rfl trivial ?_; rintro r bs' ext ⟨⟨c8, hc8, rfl⟩, rfl⟩)
          | (refine call_ro [] (descs_zz (v.map older) (v.map older) _ _ (by rw [List.length_map]; omega) hoF true (decide_eq_true rfl)) GG_no rfl rfl rfl trivial ?_; rintro r bs' ext ⟨rfl, rfl⟩)
          | (refine call_ro [] (oldest_zz v cv w (by omega) hw) GG_no rfl rfl rfl trivial ?_; rintro r bs' ext ⟨rfl, rfl⟩)
          | (refine call_ro [] (roldest_ok v cv (by omega) hVag w hw) GG_no rfl rfl rfl trivial ?_; rintro r bs' ext ⟨rfl, rfl⟩)
          | (refine call_ro [] (descs_zz v v _ _ (by omega) hVf true (decide_eq_true rfl)) GG_no rfl rfl rfl trivial ?_; rintro r bs' ext ⟨rfl, rfl⟩)
          | (refine call_ro [] awake_ok GG_no rfl rfl rfl trivial ?_; rintro r bs' ext ⟨rfl, rfl⟩)
          | (refine BB.mk (fun _h => ?_) (fun _h => ?_) <;> (first | (exact absurd _h (by decide)) | (exfalso; simp only [bne_self_eq_false, beq_self_eq_true, Bool.false_eq_true, Bool.true_eq_false] at _h; done) | (exfalso; simp only [boolSet, hlm, hdm] at _h <;> omega) | (simp only [boolSet, hlm, hdm] at _h) | skip))
          | (refine And.intro (by omega) ?_)
          | (refine BB.mk (fun _h => ?_) (fun _h => ?_) <;> (first | (exact absurd _h (by decide)) | (exfalso; simp only [boolSet] at _h <;> omega) | skip)))
        all_goals (try conv => whnf)
        all_goals first
          | exact ⟨_, _, FrzV.refl _ _, rfl, rfl, fun _ => rfl, rfl⟩
          | trace_state
end Go.Proofs.Ytfjankcpnhfogaa
