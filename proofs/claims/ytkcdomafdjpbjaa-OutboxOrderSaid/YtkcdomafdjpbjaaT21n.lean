/- Law OutboxOrder. -/
import Derived.Test.YtkcdomafdjpbjaaT21h
import Derived.Test.YtkcdomafdjpbjaaZE
namespace Go.Proofs.Ytkcdomafdjpbjaa
open Go.RowKit

structure OS where
  i : Nat
  e : Nat
  cap : Nat
  cT : Nat
  pt : Nat
  tk : Nat
  c : Nat
  W : List Ms
  els : List (List CV)
structure OI (R : Int) (e cap cT pt tk : Nat) (W : List Ms) (els : List (List CV)) : Prop where
  pl : els.length = e + W.length
  pd : els.drop e = W.map msC
  pc : W.length ≤ cap
  px : cT = e + cap
  po : ∀ y ∈ W, MsOk y
  pn : W.length + tk = pt
  pr : (W.length : Int) ≤ R ∨ W.length = 0
theorem OI.get {R : Int} {e cap cT pt tk : Nat} {W : List Ms} {els : List (List CV)} (h : OI R e cap cT pt tk W els) {k : Nat} {y : Ms} (hy : W[k]? = some y) : els[e + k]? = some (msC y) := by
  have h1 : (els.drop e)[k]? = some (msC y) := by rw [h.pd, List.getElem?_map, hy]; rfl
  rwa [List.getElem?_drop] at h1
theorem OI.next {R : Int} {e cap cT pt tk : Nat} {m : Ms} {W : List Ms} {els : List (List CV)} (h : OI R e cap cT pt tk (m :: W) els) : OI R (e + 1) (cap - 1) cT pt (tk + 1) W els := by
  have h1 := h.pl; have h2 := h.pc; have h3 := h.px; have h4 := h.pn; have h5 := h.pr
  simp only [List.length_cons] at h1 h2 h4 h5
  refine ⟨by omega, ?_, by omega, by omega, fun y hy => h.po y (List.mem_cons_of_mem _ hy), by omega, by omega⟩
  rw [← List.drop_drop, h.pd]
  rfl
theorem OI.put {R : Int} {e cap cT pt tk e2 cap2 : Nat} {y : Ms} {W : List Ms} {els els2 : List (List CV)} (h : OI R e cap cT pt tk W els) (hy : MsOk y) (hr : (W.length : Int) < R) (hl : els2.length = e2 + (W.length + 1)) (hd : els2.drop e2 = els.drop e ++ [msC y]) (hc : W.length + 1 ≤ cap2) : OI R e2 cap2 (e2 + cap2) (pt + 1) tk (W ++ [y]) els2 := by
  have h4 := h.pn
  refine ⟨by simp; omega, ?_, by simpa using hc, rfl, fun z hz => ?_, by simp; omega, .inl (by simp; omega)⟩
  · rw [hd, h.pd, List.map_append]; rfl
  · rcases List.mem_append.1 hz with hz | hz
    · exact h.po z hz
    · rw [List.mem_singleton.1 hz]; exact hy
theorem lenO : (∀ W : List Ms, (W.map msC).length = W.length) ∧ (∀ l : List Int, (l.map u1C).length = l.length) ∧ (∀ (y : Ms) (W : List Ms), (y :: W).length = W.length + 1) ∧ ([] : List Ms).length = 0 := ⟨fun _ => List.length_map _, fun _ => List.length_map _, fun _ _ => rfl, rfl⟩
theorem s_eq {a : Nm} {sz e len cap e' len' cap' : Nat} (h1 : e = e') (h2 : len = len') (h3 : cap = cap') : SV.s a sz e len cap = SV.s a sz e' len' cap' := by rw [h1, h2, h3]
theorem min_cnt (n i : Nat) (h : i ≤ 40) (hn : (n : Int) ≤ 9223372036854775807) : IntKind.i64.wrap ((bif false then if IntKind.i64.wrap ((i : Int) + 1) > (n : Int) then IntKind.i64.wrap ((i : Int) + 1) else (n : Int) else if IntKind.i64.wrap ((i : Int) + 1) < (n : Int) then IntKind.i64.wrap ((i : Int) + 1) else (n : Int)) - (bif false then if (i : Int) > (n : Int) then (i : Int) else (n : Int) else if (i : Int) < (n : Int) then (i : Int) else (n : Int))) = ((if i < n then 1 else 0 : Nat) : Int) := by
  have h1 : IntKind.i64.wrap ((i : Int) + 1) = i + 1 := by rw [IntKind.wrap_i64]; omega
  rw [h1]
  simp only [cond_false, IntKind.wrap_i64]
  (repeat' split) <;> omega
theorem put_yj (room lost lost' : Int) (l : List Ms) (c : Nat) (m : Ms) (c1 c2 c3 c4 c5 c6 : Nat) (hl : l.length ≤ 1000) (hm : ∀ y ∈ l, MsOk y) (hmm : MsOk m) (h : l.length < room) (hw : lost = lost') : FnOK Try.prog GG 12 [] [.agg [.v (.int .i64 room), .z 17 (l.map msC) c, .v (.int .i64 lost)], msS m c1 c2 c3 c4 c5 c6] (fun r _ ext => (∃ c', r = .agg [.v (.int .i64 room), .z 17 ((l ++ [m]).map msC) c', .v (.int .i64 lost')]) ∧ ext = []) := hw ▸ put_yes room lost l c m c1 c2 c3 c4 c5 c6 hl hm hmm h
theorem put_nj (room lost lost' : Int) (l : List Ms) (c : Nat) (m : Ms) (c1 c2 c3 c4 c5 c6 : Nat) (hl : l.length ≤ 1000) (hm : ∀ y ∈ l, MsOk y) (h : room ≤ l.length) (hw : IntKind.i64.wrap (lost + 1) = lost') : FnOK Try.prog GG 12 [] [.agg [.v (.int .i64 room), .z 17 (l.map msC) c, .v (.int .i64 lost)], msS m c1 c2 c3 c4 c5 c6] (fun r _ ext => (∃ c', r = .agg [.v (.int .i64 room), .z 17 (l.map msC) c', .v (.int .i64 lost')]) ∧ ext = []) := hw ▸ put_no room lost l c m c1 c2 c3 c4 c5 c6 hl hm h
set_option maxRecDepth 100000 in
set_option maxHeartbeats 4000000 in
theorem order_ok (room : Int) (l : List Ms) (c0 : Nat) (tks : List Int) (ct : Nat) (hl : l.length ≤ 9223372036854775807) (hin : ∀ y ∈ l, MsIn y) (htl : tks.length ≤ 9223372036854775807) : FnOK Try.prog GG 4 [] [.v (.int .u8 room), .z 17 (l.map msC) c0, .z 1 (tks.map u1C) ct] (fun r _ ext => (r = .v (.bool true)) ∧ ext = []) := by
  have hlm : (l.map msC).length = l.length := List.length_map _
  have htm : (tks.map u1C).length = tks.length := List.length_map _
  obtain ⟨RX, hRX⟩ : ∃ RX : Int, RX = (IntKind.i64.wrap (IntKind.i64.wrap (room.tmod 15) - 2)) := ⟨_, rfl⟩
  refine FnOK.pure GG_no rfl (fn_intro (C := seat) seat_ok [(18, (.of [(0, .take), (1, .take), (2, .take), (3, .take), (4, .take), (5, .take), (6, .take), (7, .take), (8, .take), (9, .take), (10, .take), (11, .take), (12, .do_), (13, .take), (14, .take), (15, .take), (16, .take), (17, .take), (18, .take), (19, .take), (20, .take), (21, .take), (22, .do_), (23, .take), (24, .take), (25, .take)])), (31, (.of [(0, .take), (1, .take), (2, .take), (3, .take), (4, .take), (5, .take), (6, .take), (7, .take), (8, .take), (9, .do_), (10, .take)]))] GG_no (Try.func4) rfl rfl rfl rfl rfl ?_)
  repeat' ((try conv => whnf); first
    | (with_reducible refine OKv.go (C := seat) seat_ok ?_)
    | (with_reducible refine BB_true ?_)
    | (with_reducible refine BB_false ?_)
    | (with_reducible refine Both.mk ?_ ?_)
    | (with_reducible refine VS.mk ?_)
    | (refine PSem.go (C := seat) seat_ok ?_)
    | (refine And.intro (PlanOK.mk (by kernel_rfl) rfl (by kernel_rfl) (by kernel_rfl)) ?_)
    | (refine And.intro rfl (Exists.intro _ (And.intro (by first | assumption | rfl) ?_)))
    | (refine And.intro ⟨rfl, rfl, rfl⟩ ?_)
    | (refine call_ro [] (few_z l _ 40 hl hin) GG_no rfl rfl rfl trivial ?_; rintro r bs' ext ⟨⟨q1, rfl, hall⟩, rfl⟩; cases q1 <;> (try have hall := hall rfl))
    | (refine call_ro [] (awake_ok) GG_no rfl rfl rfl trivial ?_; rintro r bs' ext ⟨rfl, rfl⟩)
    | (refine fun (caps : Nat → Nat) hcaps => ?_; conv at hcaps => whnf)
    | (refine BB.mk (fun _h => ?_) (fun _h => ?_) <;> (first | (exact absurd _h (by decide)) | (exfalso; simp only [boolSet, lenO] at _h <;> omega) | (exfalso; simp at _h; done) | (simp only [boolSet, lenO] at _h) | skip))
    | (refine And.intro (by omega) ?_)
    | (refine BB.mk (fun _h => ?_) (fun _h => ?_) <;> (first | (exact absurd _h (by decide)) | (exfalso; simp only [boolSet] at _h <;> omega) | skip)))
  all_goals (try conv => whnf)
  all_goals first
    | exact ⟨_, _, FrzV.refl _ _, rfl, rfl, fun _ => rfl, rfl⟩
    | skip
  obtain ⟨hok, hl40⟩ := hall
  refine loop_ruleP (α := OS) (fun q => q.i ≤ l.length ∧ q.pt ≤ q.i ∧ OI RX q.e q.cap q.cT q.pt q.tk q.W q.els) (fun q => { slots := [(2, .z 1 (tks.map u1C) ct), (7, .p (.n 0) 0 0 0), (8, .s (.n 1) 17 q.e q.W.length q.cap), (9, .v (.int .i64 ((q.pt : Nat) : Int))), (10, .v (.int .i64 ((q.tk : Nat) : Int))), (26, .z 17 (l.map msC) c0), (27, .v (.int .i64 (l.map msC).length)), (28, .v (.int .i64 ((q.i : Nat) : Int)))], nt := 158, mem := ⟨GG, [], [.box 24 [.v (.int .i64 RX), .z 17 (q.W.map msC) q.c, .v (.int .i64 ((q.i : Int) - (q.pt : Int)))], .row 39 17 q.cT q.els]⟩ }) (fun q => l.length - q.i) ⟨0, 0, 0, 0, 0, 0, 0, [], []⟩ ⟨Nat.zero_le _, Nat.zero_le _, ⟨rfl, rfl, Nat.zero_le _, rfl, (fun y hy => absurd hy List.not_mem_nil), rfl, .inr rfl⟩⟩ ?hs ?_ (fun _ => rfl)
  case hs =>
    refine Pass.trans (pass_box 0 1 rfl rfl (frz_nil _ 17) rfl rfl) ?_
    exact Ref.pass ⟨⟨[0, 1], by decide, GG_no, rfl, SubOld.refl _ rfl, ⟨by rw [hRX]; rfl, .inl (.inl ⟨rfl, rfl⟩), trivial⟩, ⟨.inl rfl, .inl rfl, .inr (.inl ⟨_, _, _, rfl, rfl⟩), .inl rfl, .inl rfl, .inl rfl, .inl rfl, .inl rfl, trivial⟩⟩, rfl⟩
  clear hRX
  rintro ⟨i, e, cap, cT, pt, tk, c1, W, els⟩ ⟨hi, hpi, hI⟩
  dsimp only at hi hpi hI ⊢
  have hWl := hI.pl; have hWc := hI.pc; have hWt := hI.px; have hWn := hI.pn; have hWr := hI.pr
  by_cases hlt : i < l.length
  rotate_left
  · obtain rfl : i = l.length := by omega
    refine vc_sound (C := seat) seat_ok (pl := [(18, (.of [(0, .take), (1, .take), (2, .take), (3, .take), (4, .take), (5, .take), (6, .take), (7, .take), (8, .take), (9, .take), (10, .take), (11, .take), (12, .do_), (13, .take), (14, .take), (15, .take), (16, .take), (17, .take), (18, .take), (19, .take), (20, .take), (21, .take), (22, .do_), (23, .take), (24, .take), (25, .take)])), (31, (.of [(0, .take), (1, .take), (2, .take), (3, .take), (4, .take), (5, .take), (6, .take), (7, .take), (8, .take), (9, .do_), (10, .take)]))]) ?_
    repeat' ((try conv => whnf); first
      | (with_reducible refine OKv.go (C := seat) seat_ok ?_)
      | (with_reducible refine BB_true ?_)
      | (with_reducible refine BB_false ?_)
      | (with_reducible refine Both.mk ?_ ?_)
      | (with_reducible refine VS.mk ?_)
      | (refine PSem.go (C := seat) seat_ok ?_)
      | (refine And.intro (PlanOK.mk (by kernel_rfl) rfl (by kernel_rfl) (by kernel_rfl)) ?_)
      | (refine And.intro rfl (Exists.intro _ (And.intro (by first | assumption | rfl) ?_)))
      | (refine And.intro ⟨rfl, rfl, rfl⟩ ?_)
      | (refine call_ro [] (awake_ok) GG_no rfl rfl rfl trivial ?_; rintro r bs' ext ⟨rfl, rfl⟩)
      | (refine BB.mk (fun _h => ?_) (fun _h => ?_) <;> (first | (exact absurd _h (by decide)) | (exfalso; simp only [boolSet, lenO] at _h <;> omega) | (exfalso; simp at _h; done) | (simp only [boolSet, lenO] at _h) | skip))
      | (refine And.intro (by omega) ?_)
      | (refine BB.mk (fun _h => ?_) (fun _h => ?_) <;> (first | (exact absurd _h (by decide)) | (exfalso; simp only [boolSet] at _h <;> omega) | skip)))
    all_goals (try conv => whnf)
    all_goals exact ⟨_, _, FrzV.refl _ _, rfl, rfl, fun _ => rfl, rfl⟩
  obtain ⟨y, hy⟩ : ∃ y, l[i]? = some y := ⟨_, List.getElem?_eq_getElem hlt⟩
  have hrow := ms_z hy
  have hmy := hok y (List.mem_of_getElem? hy)
  have hw1 : IntKind.i64.wrap ((i : Int) + 1) = ((i + 1 : Nat) : Int) := by rw [IntKind.wrap_i64]; omega
  have hwp : IntKind.i64.wrap ((pt : Int) + 1) = ((pt + 1 : Nat) : Int) := by rw [IntKind.wrap_i64]; omega
  by_cases hro : (W.length : Int) < RX
  · refine vc_sound (C := seat) seat_ok (pl := [(18, (.of [(0, .take), (1, .take), (2, .take), (3, .take), (4, .take), (5, .take), (6, .take), (7, .take), (8, .take), (9, .take), (10, .take), (11, .take), (12, .do_), (13, .take), (14, .take), (15, .take), (16, .take), (17, .take), (18, .take), (19, .take), (20, .take), (21, .take), (22, .do_), (23, .take), (24, .take), (25, .take)])), (31, (.of [(0, .take), (1, .take), (2, .take), (3, .take), (4, .take), (5, .take), (6, .take), (7, .take), (8, .take), (9, .do_), (10, .take)]))]) ?_
    repeat' ((try conv => whnf); first
      | (with_reducible refine OKv.go (C := seat) seat_ok ?_)
      | (with_reducible refine BB_true ?_)
      | (with_reducible refine BB_false ?_)
      | (with_reducible refine Both.mk ?_ ?_)
      | (with_reducible refine VS.mk ?_)
      | (refine PSem.go (C := seat) seat_ok ?_)
      | (refine And.intro (PlanOK.mk (by kernel_rfl) rfl (by kernel_rfl) (by kernel_rfl)) ?_)
      | (refine And.intro rfl (Exists.intro _ (And.intro (by first | assumption | rfl) ?_)))
      | (refine And.intro ⟨rfl, rfl, rfl⟩ ?_)
      | (refine call_ro [] (put_yj RX ((i : Int) - (pt : Int)) ((((i + 1 : Nat) : Int)) - (((pt + 1) : Nat) : Int)) W c1 y _ _ _ _ _ _ (by omega) hI.po hmy hro (by omega)) GG_no rfl rfl rfl trivial ?_; rintro r bs' ext ⟨⟨c7, rfl⟩, rfl⟩)
      | (refine And.intro ⟨by omega, by simp only [List.length_map]; omega⟩ (Exists.intro _ (And.intro (by first | assumption | rfl) ?_)))
      | (refine BB.mk (fun _h => ?_) (fun _h => ?_); refine OKv.mk ?_; refine ok_off 12 8 rfl rfl ?_; refine vc_sound (C := seat) seat_ok (pl := []) ?_; rotate_left; (exfalso; simp only [boolSet, lenO] at _h <;> omega))
      | (refine op_appE e seat_ok rfl ?_)
      | (refine And.intro ⟨rfl, rfl, Nat.mul_one _, hWl, hWt, ?_, ?_⟩ ?_; (first | decide | omega); (first | omega | (dsimp only; omega)))
      | (refine And.intro ⟨rfl, ?_⟩ ?_; (first | omega | rfl | (simp only [chunks_len] <;> omega)))
      | (refine fun e2 cap2 els2 hl2 hd2 hc2 => ?_)
      | (refine fun (caps : Nat → Nat) hcaps => ?_; conv at hcaps => whnf)
      | (refine BB.mk (fun _h => ?_) (fun _h => ?_) <;> (first | (exact absurd _h (by decide)) | (exfalso; simp only [boolSet, lenO] at _h <;> omega) | (exfalso; simp at _h; done) | (simp only [boolSet, lenO] at _h) | skip))
      | (refine And.intro (by omega) ?_)
      | (refine BB.mk (fun _h => ?_) (fun _h => ?_) <;> (first | (exact absurd _h (by decide)) | (exfalso; simp only [boolSet] at _h <;> omega) | skip)))
    all_goals (try conv => whnf)
    refine loop_rule (α := OS) (fun q => q.i ≤ (if i < tks.length then 1 else 0 : Nat) ∧ q.pt = (pt + 1) ∧ OI RX q.e q.cap q.cT q.pt q.tk q.W q.els) (fun q => { slots := [(2, .z 1 (tks.map u1C) ct), (7, .p (.n 0) 0 0 0), (8, .s (.n 1) 17 q.e q.W.length q.cap), (9, .v (.int .i64 (((pt + 1) : Nat) : Int))), (10, .v (.int .i64 ((q.tk : Nat) : Int))), (26, .z 17 (l.map msC) c0), (27, .v (.int .i64 (l.map msC).length)), (28, .v (.int .i64 ((i : Nat) : Int))), (11, .v (.int .i64 (i : Int))), (56, .v (.int .i64 ((if i < tks.length then 1 else 0 : Nat) : Int))), (57, .v (.int .i64 ((q.i : Nat) : Int)))], nt := 158, mem := ⟨GG, [], [.box 24 [.v (.int .i64 RX), .z 17 (q.W.map msC) q.c, .v (.int .i64 ((((i + 1 : Nat) : Int)) - (((pt + 1) : Nat) : Int)))], .row 39 17 q.cT q.els]⟩ }) (fun q => (if i < tks.length then 1 else 0 : Nat) - q.i) ⟨0, e2, cap2, e2 + cap2, pt + 1, tk, c7, W ++ [y], els2⟩ ⟨Nat.zero_le _, rfl, hI.put hmy hro hl2 hd2 hc2⟩ ⟨⟨[0, 4], by decide, GG_no, rfl, SubOld.refl _ rfl, ⟨rfl, .inr (.inl rfl), trivial⟩, ⟨.inl rfl, .inl rfl, .inl (s_eq rfl (by simp) rfl), .inl (num_eq hwp), .inl rfl, .inl rfl, .inl rfl, .inl rfl, .inl rfl, .inl (num_eq (by rw [← min_cnt tks.length i (by omega) (by omega), ← htm])), .inl rfl, trivial⟩⟩, rfl⟩ ?_ (fun _ => rfl)
    clear hI hWl hWc hWt hWn hWr hro
    clear hl2 hd2 hc2
    rintro ⟨j, e, cap, cT, P0, tk, c1, W, els⟩ ⟨hj, hP, hI⟩
    dsimp only at hj hP hI ⊢
    have hWl := hI.pl; have hWc := hI.pc; have hWt := hI.px; have hWn := hI.pn; have hWr := hI.pr
    by_cases hjt : j < (if i < tks.length then 1 else 0 : Nat)
    · have hit : i < tks.length := by
        split at hjt <;> omega
      obtain ⟨z, hz⟩ : ∃ z, tks[i]? = some z := ⟨_, List.getElem?_eq_getElem hit⟩
      have hrz := u1_z hz
      obtain ⟨M, hN, hN2⟩ : ∃ M : Int, z.tmod 4 = M ∧ M < 4 := ⟨_, rfl, Int.tmod_lt_of_pos z (by decide)⟩
      refine vc_sound (C := seat) seat_ok (pl := [(18, (.of [(0, .take), (1, .take), (2, .take), (3, .take), (4, .take), (5, .take), (6, .take), (7, .take), (8, .take), (9, .take), (10, .take), (11, .take), (12, .do_), (13, .take), (14, .take), (15, .take), (16, .take), (17, .take), (18, .take), (19, .take), (20, .take), (21, .take), (22, .do_), (23, .take), (24, .take), (25, .take)])), (31, (.of [(0, .take), (1, .take), (2, .take), (3, .take), (4, .take), (5, .take), (6, .take), (7, .take), (8, .take), (9, .do_), (10, .take)]))]) ?_
      repeat' ((try conv => whnf); first
        | (with_reducible refine OKv.go (C := seat) seat_ok ?_)
        | (with_reducible refine BB_true ?_)
        | (with_reducible refine BB_false ?_)
        | (with_reducible refine Both.mk ?_ ?_)
        | (with_reducible refine VS.mk ?_)
        | (refine PSem.go (C := seat) seat_ok ?_)
        | (refine And.intro (PlanOK.mk (by kernel_rfl) rfl (by kernel_rfl) (by kernel_rfl)) ?_)
        | (refine And.intro rfl (Exists.intro _ (And.intro (by first | assumption | rfl) ?_)))
        | (refine And.intro ⟨rfl, rfl, rfl⟩ ?_)
        | (refine And.intro ⟨by omega, by simp only [List.length_map]; omega⟩ (Exists.intro _ (And.intro (by first | assumption | rfl) ?_)))
        | (refine fun (caps : Nat → Nat) hcaps => ?_; conv at hcaps => whnf)
        | (refine And.intro (show _ ≠ (0 : Int) by decide) ?_)
        | (refine BB.mk (fun _h => ?_) (fun _h => ?_) <;> (first | (exact absurd _h (by decide)) | (exfalso; simp only [boolSet, lenO] at _h <;> omega) | (exfalso; simp at _h; done) | (simp only [boolSet, lenO] at _h) | skip))
        | (refine And.intro (by omega) ?_)
        | (refine BB.mk (fun _h => ?_) (fun _h => ?_) <;> (first | (exact absurd _h (by decide)) | (exfalso; simp only [boolSet] at _h <;> omega) | skip)))
      all_goals (try conv => whnf)
      refine loop_rule (α := OS) (fun q => q.i ≤ M.toNat ∧ q.pt = (pt + 1) ∧ OI RX q.e q.cap q.cT q.pt q.tk q.W q.els) (fun q => { slots := [(2, .z 1 (tks.map u1C) ct), (7, .p (.n 0) 0 0 0), (8, .s (.n 1) 17 q.e q.W.length q.cap), (9, .v (.int .i64 (((pt + 1) : Nat) : Int))), (10, .v (.int .i64 ((q.tk : Nat) : Int))), (26, .z 17 (l.map msC) c0), (27, .v (.int .i64 (l.map msC).length)), (28, .v (.int .i64 ((i : Nat) : Int))), (11, .v (.int .i64 (i : Int))), (56, .v (.int .i64 ((if i < tks.length then 1 else 0 : Nat) : Int))), (57, .v (.int .i64 ((j : Nat) : Int))), (63, .v (.int .u8 M)), (64, .v (.int .u8 ((q.i : Nat) : Int)))], nt := 158, mem := ⟨GG, [], [.box 24 [.v (.int .i64 RX), .z 17 (q.W.map msC) q.c, .v (.int .i64 ((((i + 1 : Nat) : Int)) - (((pt + 1) : Nat) : Int)))], .row 39 17 q.cT q.els]⟩ }) (fun q => M.toNat - q.i) ⟨0, e, cap, cT, P0, tk, c1, W, els⟩ ⟨Nat.zero_le _, hP, hI⟩ ⟨⟨[0, 1], by decide, GG_no, rfl, SubOld.refl _ rfl, ⟨rfl, .inr (.inl rfl), trivial⟩, ⟨.inl rfl, .inl rfl, .inl rfl, .inl rfl, .inl rfl, .inl rfl, .inl rfl, .inl rfl, .inl rfl, .inl rfl, .inl rfl, .inl (num_eq hN), .inl rfl, trivial⟩⟩, rfl⟩ ?_ (fun _ => rfl)
      clear hI hWl hWc hWt hWn hWr hP
      rintro ⟨k, e, cap, cT, P0, tk, c1, W, els⟩ ⟨hk, hP, hI⟩
      dsimp only at hk hP hI ⊢
      have hWl := hI.pl; have hWc := hI.pc; have hWt := hI.px; have hWn := hI.pn; have hWr := hI.pr
      have hwt : IntKind.i64.wrap ((tk : Int) + 1) = ((tk + 1 : Nat) : Int) := by rw [IntKind.wrap_i64]; omega
      by_cases hkt : (k : Int) < M
      · have hwk : IntKind.u8.wrap ((k : Int) + 1) = ((k + 1 : Nat) : Int) := by rw [IntKind.wrap_u8]; omega
        cases W with
        | nil =>
          refine vc_sound (C := seat) seat_ok (pl := [(18, (.of [(0, .take), (1, .take), (2, .take), (3, .take), (4, .take), (5, .take), (6, .take), (7, .take), (8, .take), (9, .take), (10, .take), (11, .take), (12, .do_), (13, .take), (14, .take), (15, .take), (16, .take), (17, .take), (18, .take), (19, .take), (20, .take), (21, .take), (22, .do_), (23, .take), (24, .take), (25, .take)])), (31, (.of [(0, .take), (1, .take), (2, .take), (3, .take), (4, .take), (5, .take), (6, .take), (7, .take), (8, .take), (9, .do_), (10, .take)]))]) ?_
          repeat' ((try conv => whnf); first
            | (with_reducible refine OKv.go (C := seat) seat_ok ?_)
            | (with_reducible refine BB_true ?_)
            | (with_reducible refine BB_false ?_)
            | (with_reducible refine Both.mk ?_ ?_)
            | (with_reducible refine VS.mk ?_)
            | (refine PSem.go (C := seat) seat_ok ?_)
            | (refine And.intro (PlanOK.mk (by kernel_rfl) rfl (by kernel_rfl) (by kernel_rfl)) ?_)
            | (refine And.intro rfl (Exists.intro _ (And.intro (by first | assumption | rfl) ?_)))
            | (refine And.intro ⟨rfl, rfl, rfl⟩ ?_)
            | (refine call_ro [] (take_no RX ((((i + 1 : Nat) : Int)) - (((pt + 1) : Nat) : Int)) _) GG_no rfl rfl rfl trivial ?_; rintro r bs' ext ⟨rfl, rfl⟩)
            | (refine call_ro [] (boxes_yes RX ((((i + 1 : Nat) : Int)) - (((pt + 1) : Nat) : Int)) [] _ _ (by decide) ex_none) GG_no rfl rfl rfl trivial ?_; rintro r bs' ext ⟨rfl, rfl⟩)
            | (refine fun (caps : Nat → Nat) hcaps => ?_; conv at hcaps => whnf)
            | (refine BB.mk (fun _h => ?_) (fun _h => ?_) <;> (first | (exact absurd _h (by decide)) | (exfalso; simp only [boolSet, lenO] at _h <;> omega) | (exfalso; simp at _h; done) | (simp only [boolSet, lenO] at _h) | skip))
            | (refine And.intro (by omega) ?_)
            | (refine BB.mk (fun _h => ?_) (fun _h => ?_) <;> (first | (exact absurd _h (by decide)) | (exfalso; simp only [boolSet] at _h <;> omega) | skip)))
          all_goals (try conv => whnf)
          all_goals first
            | exact ⟨⟨k + 1, e, cap, cT, P0, tk, 0, [], els⟩, ⟨by dsimp only; omega, hP, hI⟩, by dsimp only; omega, ⟨⟨[0, 1], by decide, GG_no, rfl, SubOld.refl _ rfl, ⟨rfl, .inr (.inl rfl), trivial⟩, ⟨.inl rfl, .inl rfl, .inl rfl, .inl rfl, .inl rfl, .inl rfl, .inl rfl, .inl rfl, .inl rfl, .inl rfl, .inl rfl, .inl rfl, .inl (num_eq hwk), trivial⟩⟩, rfl⟩⟩
            | trace_state
        | cons m0 W =>
          have hm0 := hI.po m0 (List.mem_cons_self ..)
          have hget := hI.get (k := 0) rfl
          refine vc_sound (C := seat) seat_ok (pl := [(18, (.of [(0, .take), (1, .take), (2, .take), (3, .take), (4, .take), (5, .take), (6, .take), (7, .take), (8, .take), (9, .take), (10, .take), (11, .take), (12, .do_), (13, .take), (14, .take), (15, .take), (16, .take), (17, .take), (18, .take), (19, .take), (20, .take), (21, .take), (22, .do_), (23, .take), (24, .take), (25, .take)])), (31, (.of [(0, .take), (1, .take), (2, .take), (3, .take), (4, .take), (5, .take), (6, .take), (7, .take), (8, .take), (9, .do_), (10, .take)]))]) ?_
          repeat' ((try conv => whnf); first
            | (with_reducible refine OKv.go (C := seat) seat_ok ?_)
            | (with_reducible refine BB_true ?_)
            | (with_reducible refine BB_false ?_)
            | (with_reducible refine Both.mk ?_ ?_)
            | (with_reducible refine VS.mk ?_)
            | (refine PSem.go (C := seat) seat_ok ?_)
            | (refine And.intro (PlanOK.mk (by kernel_rfl) rfl (by kernel_rfl) (by kernel_rfl)) ?_)
            | (refine And.intro rfl (Exists.intro _ (And.intro (by first | assumption | rfl) ?_)))
            | (refine And.intro ⟨rfl, rfl, rfl⟩ ?_)
            | (refine call_ro [] (take_yes RX ((((i + 1 : Nat) : Int)) - (((pt + 1) : Nat) : Int)) m0 W _ (by simp only [List.length_cons] at hWn; omega) (fun y hy => hI.po y (List.mem_cons_of_mem _ hy)) hm0) GG_no rfl rfl rfl trivial ?_; rintro r bs' ext ⟨⟨d1, d2, d3, d4, d5, d6, c7, rfl⟩, rfl⟩)
            | (refine call_ro [] (same_yes m0 _ _ _ _ _ _ _ _ _ _ _ _ hm0) GG_no rfl rfl rfl trivial ?_; rintro r bs' ext ⟨rfl, rfl⟩)
            | (refine And.intro ⟨?_, ?_⟩ (Exists.intro _ (And.intro (by first | exact hget | assumption | rfl) ?_)); omega; (simp only [List.length_cons]; omega))
            | (refine And.intro ⟨?_, ?_, ?_⟩ ?_; omega; (simp only [List.length_cons]; omega); (simp only [List.length_cons] at hWc ⊢; omega))
            | (refine And.intro ⟨?_, ?_⟩ ?_; omega; (simp only [List.length_cons]; omega))
            | (refine fun (caps : Nat → Nat) hcaps => ?_; conv at hcaps => whnf)
            | (refine BB.mk (fun _h => ?_) (fun _h => ?_) <;> (first | (exact absurd _h (by decide)) | (exfalso; simp only [boolSet, lenO] at _h <;> omega) | (exfalso; simp at _h; done) | (simp only [boolSet, lenO] at _h) | skip))
            | (refine And.intro (by omega) ?_)
            | (refine BB.mk (fun _h => ?_) (fun _h => ?_) <;> (first | (exact absurd _h (by decide)) | (exfalso; simp only [boolSet] at _h <;> omega) | skip)))
          all_goals (try conv => whnf)
          all_goals first
            | exact ⟨⟨k + 1, e + 1, cap - 1, cT, P0, tk + 1, c7, W, els⟩, ⟨by dsimp only; omega, hP, hI.next⟩, by dsimp only; omega, ⟨⟨[0, 1], by decide, GG_no, rfl, SubOld.refl _ rfl, ⟨rfl, .inr (.inl rfl), trivial⟩, ⟨.inl rfl, .inl rfl, .inl (s_eq rfl (by simp) rfl), .inl rfl, .inl (num_eq hwt), .inl rfl, .inl rfl, .inl rfl, .inl rfl, .inl rfl, .inl rfl, .inl rfl, .inl (num_eq hwk), trivial⟩⟩, rfl⟩⟩
            | trace_state
      · have hwj : IntKind.i64.wrap ((j : Int) + 1) = ((j + 1 : Nat) : Int) := by rw [IntKind.wrap_i64]; split at hj <;> omega
        refine vc_sound (C := seat) seat_ok (pl := [(18, (.of [(0, .take), (1, .take), (2, .take), (3, .take), (4, .take), (5, .take), (6, .take), (7, .take), (8, .take), (9, .take), (10, .take), (11, .take), (12, .do_), (13, .take), (14, .take), (15, .take), (16, .take), (17, .take), (18, .take), (19, .take), (20, .take), (21, .take), (22, .do_), (23, .take), (24, .take), (25, .take)])), (31, (.of [(0, .take), (1, .take), (2, .take), (3, .take), (4, .take), (5, .take), (6, .take), (7, .take), (8, .take), (9, .do_), (10, .take)]))]) ?_
        repeat' ((try conv => whnf); first
          | (with_reducible refine OKv.go (C := seat) seat_ok ?_)
          | (with_reducible refine BB_true ?_)
          | (with_reducible refine BB_false ?_)
          | (with_reducible refine Both.mk ?_ ?_)
          | (with_reducible refine VS.mk ?_)
          | (refine PSem.go (C := seat) seat_ok ?_)
          | (refine And.intro (PlanOK.mk (by kernel_rfl) rfl (by kernel_rfl) (by kernel_rfl)) ?_)
          | (refine And.intro rfl (Exists.intro _ (And.intro (by first | assumption | rfl) ?_)))
          | (refine And.intro ⟨rfl, rfl, rfl⟩ ?_)
          | (refine BB.mk (fun _h => ?_) (fun _h => ?_) <;> (first | (exact absurd _h (by decide)) | (exfalso; simp only [boolSet, lenO] at _h <;> omega) | (exfalso; simp at _h; done) | (simp only [boolSet, lenO] at _h) | skip))
          | (refine And.intro (by omega) ?_)
          | (refine BB.mk (fun _h => ?_) (fun _h => ?_) <;> (first | (exact absurd _h (by decide)) | (exfalso; simp only [boolSet] at _h <;> omega) | skip)))
        all_goals (try conv => whnf)
        all_goals first
          | exact ⟨⟨j + 1, e, cap, cT, P0, tk, c1, W, els⟩, ⟨by dsimp only; omega, hP, hI⟩, by dsimp only; omega, ⟨⟨[0, 1], by decide, GG_no, rfl, SubOld.refl _ rfl, ⟨rfl, .inr (.inl rfl), trivial⟩, ⟨.inl rfl, .inl rfl, .inl rfl, .inl rfl, .inl rfl, .inl rfl, .inl rfl, .inl rfl, .inl rfl, .inl rfl, .inl (num_eq hwj), trivial⟩⟩, rfl⟩⟩
          | trace_state
    · obtain rfl : j = (if i < tks.length then 1 else 0 : Nat) := by omega
      have hwm : (W.map msC).length = W.length := List.length_map _
      have hw2 : IntKind.i64.wrap (((i + 1 : Nat) : Int) - (((pt + 1) : Nat) : Int)) = ((((i + 1 : Nat) : Int)) - (((pt + 1) : Nat) : Int)) := by rw [IntKind.wrap_i64]; omega
      have hw3 : IntKind.i64.wrap ((W.length : Int) + (tk : Int)) = ((W.length + tk : Nat) : Int) := by rw [IntKind.wrap_i64]; omega
      have hM : (W.length : Int) ≤ (bif true then if (0 : Int) > RX then 0 else RX else if (0 : Int) < RX then 0 else RX) := by simp only [cond_true]; split <;> omega
      have hWW := And.intro hw1 (And.intro hw2 hw3)
      refine vc_sound (C := seat) seat_ok (pl := [(18, (.of [(0, .take), (1, .take), (2, .take), (3, .take), (4, .take), (5, .take), (6, .take), (7, .take), (8, .take), (9, .take), (10, .take), (11, .take), (12, .do_), (13, .take), (14, .take), (15, .take), (16, .take), (17, .take), (18, .take), (19, .take), (20, .take), (21, .take), (22, .do_), (23, .take), (24, .take), (25, .take)])), (31, (.of [(0, .take), (1, .take), (2, .take), (3, .take), (4, .take), (5, .take), (6, .take), (7, .take), (8, .take), (9, .do_), (10, .take)]))]) ?_
      repeat' ((try conv => whnf); first
        | (with_reducible refine OKv.go (C := seat) seat_ok ?_)
        | (with_reducible refine BB_true ?_)
        | (with_reducible refine BB_false ?_)
        | (with_reducible refine Both.mk ?_ ?_)
        | (with_reducible refine VS.mk ?_)
        | (refine PSem.go (C := seat) seat_ok ?_)
        | (refine And.intro (PlanOK.mk (by kernel_rfl) rfl (by kernel_rfl) (by kernel_rfl)) ?_)
        | (refine And.intro rfl (Exists.intro _ (And.intro (by first | assumption | rfl) ?_)))
        | (refine And.intro ⟨rfl, rfl, rfl⟩ ?_)
        | (refine fun (caps : Nat → Nat) hcaps => ?_; conv at hcaps => whnf)
        | (refine BB.mk (fun _h => ?_) (fun _h => ?_) <;> (first | (exact absurd _h (by decide)) | (exfalso; simp only [boolSet, lenO, hWW] at _h <;> omega) | (exfalso; simp only [boolSet, lenO, hWW, cond_true] at _h; split at _h <;> omega) | (simp only [boolSet, lenO] at _h) | skip))
        | (refine And.intro (by omega) ?_)
        | (refine BB.mk (fun _h => ?_) (fun _h => ?_) <;> (first | (exact absurd _h (by decide)) | (exfalso; simp only [boolSet] at _h <;> omega) | skip)))
      all_goals (try conv => whnf)
      refine loop_rule (α := Nat) (fun k => k ≤ W.length) (fun k => { slots := [(2, .z 1 (tks.map u1C) ct), (7, .p (.n 0) 0 0 0), (8, .s (.n 1) 17 e W.length cap), (9, .v (.int .i64 (((pt + 1) : Nat) : Int))), (10, .v (.int .i64 ((tk : Nat) : Int))), (26, .z 17 (l.map msC) c0), (27, .v (.int .i64 (l.map msC).length)), (28, .v (.int .i64 ((i : Nat) : Int))), (140, .v (.int .i64 (W.length : Int))), (141, .v (.int .i64 (k : Int)))], nt := 158, mem := ⟨GG, [], [.box 24 [.v (.int .i64 RX), .z 17 (W.map msC) c1, .v (.int .i64 ((((i + 1 : Nat) : Int)) - (((pt + 1) : Nat) : Int)))], .row 39 17 cT els]⟩ }) (fun k => W.length - k) 0 (Nat.zero_le _) ⟨⟨[0, 1], by decide, GG_no, rfl, SubOld.refl _ rfl, ⟨rfl, .inr (.inl rfl), trivial⟩, ⟨.inl rfl, .inl rfl, .inl rfl, .inl rfl, .inl rfl, .inl rfl, .inl rfl, .inl rfl, .inl rfl, .inl rfl, trivial⟩⟩, rfl⟩ ?_ (fun _ => rfl)
      intro k hk
      by_cases hkt : k < W.length
      · obtain ⟨x, hx⟩ : ∃ x, W[k]? = some x := ⟨_, List.getElem?_eq_getElem hkt⟩
        have hrow3 := ms_z hx
        have hget := hI.get hx
        have hmx := hI.po x (List.mem_of_getElem? hx)
        refine vc_sound (C := seat) seat_ok (pl := [(18, (.of [(0, .take), (1, .take), (2, .take), (3, .take), (4, .take), (5, .take), (6, .take), (7, .take), (8, .take), (9, .take), (10, .take), (11, .take), (12, .do_), (13, .take), (14, .take), (15, .take), (16, .take), (17, .take), (18, .take), (19, .take), (20, .take), (21, .take), (22, .do_), (23, .take), (24, .take), (25, .take)])), (31, (.of [(0, .take), (1, .take), (2, .take), (3, .take), (4, .take), (5, .take), (6, .take), (7, .take), (8, .take), (9, .do_), (10, .take)]))]) ?_
        repeat' ((try conv => whnf); first
          | (with_reducible refine OKv.go (C := seat) seat_ok ?_)
          | (with_reducible refine BB_true ?_)
          | (with_reducible refine BB_false ?_)
          | (with_reducible refine Both.mk ?_ ?_)
          | (with_reducible refine VS.mk ?_)
          | (refine PSem.go (C := seat) seat_ok ?_)
          | (refine And.intro (PlanOK.mk (by kernel_rfl) rfl (by kernel_rfl) (by kernel_rfl)) ?_)
          | (refine And.intro rfl (Exists.intro _ (And.intro (by first | assumption | rfl) ?_)))
          | (refine And.intro ⟨rfl, rfl, rfl⟩ ?_)
          | (refine call_ro [] (same_yes x _ _ _ _ _ _ _ _ _ _ _ _ hmx) GG_no rfl rfl rfl trivial ?_; rintro r bs' ext ⟨rfl, rfl⟩)
          | (refine And.intro ⟨?_, ?_⟩ (Exists.intro _ (And.intro (by first | exact hget | assumption | rfl) ?_)); omega; (simp only [List.length_cons]; omega))
          | (refine And.intro ⟨by omega, by simp only [List.length_map]; omega⟩ (Exists.intro _ (And.intro (by first | assumption | rfl) ?_)))
          | (refine fun (caps : Nat → Nat) hcaps => ?_; conv at hcaps => whnf)
          | (refine BB.mk (fun _h => ?_) (fun _h => ?_) <;> (first | (exact absurd _h (by decide)) | (exfalso; simp only [boolSet, lenO, hWW] at _h <;> omega) | (exfalso; simp only [boolSet, lenO, hWW, cond_true] at _h; split at _h <;> omega) | (simp only [boolSet, lenO] at _h) | skip))
          | (refine And.intro (by omega) ?_)
          | (refine BB.mk (fun _h => ?_) (fun _h => ?_) <;> (first | (exact absurd _h (by decide)) | (exfalso; simp only [boolSet] at _h <;> omega) | skip)))
        all_goals (try conv => whnf)
        all_goals first
          | exact ⟨k + 1, by omega, by omega, ⟨⟨[0, 1], by decide, GG_no, rfl, SubOld.refl _ rfl, ⟨rfl, .inr (.inl rfl), trivial⟩, ⟨.inl rfl, .inl rfl, .inl rfl, .inl rfl, .inl rfl, .inl rfl, .inl rfl, .inl rfl, .inl rfl, .inl (num_eq (by rw [IntKind.wrap_i64]; omega)), trivial⟩⟩, rfl⟩⟩
          | trace_state
      · obtain rfl : k = W.length := by omega
        refine vc_sound (C := seat) seat_ok (pl := [(18, (.of [(0, .take), (1, .take), (2, .take), (3, .take), (4, .take), (5, .take), (6, .take), (7, .take), (8, .take), (9, .take), (10, .take), (11, .take), (12, .do_), (13, .take), (14, .take), (15, .take), (16, .take), (17, .take), (18, .take), (19, .take), (20, .take), (21, .take), (22, .do_), (23, .take), (24, .take), (25, .take)])), (31, (.of [(0, .take), (1, .take), (2, .take), (3, .take), (4, .take), (5, .take), (6, .take), (7, .take), (8, .take), (9, .do_), (10, .take)]))]) ?_
        repeat' ((try conv => whnf); first
          | (with_reducible refine OKv.go (C := seat) seat_ok ?_)
          | (with_reducible refine BB_true ?_)
          | (with_reducible refine BB_false ?_)
          | (with_reducible refine Both.mk ?_ ?_)
          | (with_reducible refine VS.mk ?_)
          | (refine PSem.go (C := seat) seat_ok ?_)
          | (refine And.intro (PlanOK.mk (by kernel_rfl) rfl (by kernel_rfl) (by kernel_rfl)) ?_)
          | (refine And.intro rfl (Exists.intro _ (And.intro (by first | assumption | rfl) ?_)))
          | (refine And.intro ⟨rfl, rfl, rfl⟩ ?_)
          | (refine BB.mk (fun _h => ?_) (fun _h => ?_) <;> (first | (exact absurd _h (by decide)) | (exfalso; simp only [boolSet, lenO, hWW] at _h <;> omega) | (exfalso; simp only [boolSet, lenO, hWW, cond_true] at _h; split at _h <;> omega) | (simp only [boolSet, lenO] at _h) | skip))
          | (refine And.intro (by omega) ?_)
          | (refine BB.mk (fun _h => ?_) (fun _h => ?_) <;> (first | (exact absurd _h (by decide)) | (exfalso; simp only [boolSet] at _h <;> omega) | skip)))
        all_goals (try conv => whnf)
        all_goals first
          | exact ⟨⟨i + 1, e, cap, cT, (pt + 1), tk, c1, W, els⟩, ⟨by dsimp only; omega, by dsimp only; omega, hP ▸ hI⟩, by dsimp only; omega, Ref.pass ⟨⟨[0, 1], by decide, GG_no, rfl, SubOld.refl _ rfl, ⟨rfl, .inr (.inl rfl), trivial⟩, ⟨.inl rfl, .inl rfl, .inl rfl, .inl rfl, .inl rfl, .inl rfl, .inl rfl, .inl (num_eq hw1), trivial⟩⟩, rfl⟩⟩
          | trace_state
  · refine vc_sound (C := seat) seat_ok (pl := [(18, (.of [(0, .take), (1, .take), (2, .take), (3, .take), (4, .take), (5, .take), (6, .take), (7, .take), (8, .take), (9, .take), (10, .take), (11, .take), (12, .do_), (13, .take), (14, .take), (15, .take), (16, .take), (17, .take), (18, .take), (19, .take), (20, .take), (21, .take), (22, .do_), (23, .take), (24, .take), (25, .take)])), (31, (.of [(0, .take), (1, .take), (2, .take), (3, .take), (4, .take), (5, .take), (6, .take), (7, .take), (8, .take), (9, .do_), (10, .take)]))]) ?_
    repeat' ((try conv => whnf); first
      | (with_reducible refine OKv.go (C := seat) seat_ok ?_)
      | (with_reducible refine BB_true ?_)
      | (with_reducible refine BB_false ?_)
      | (with_reducible refine Both.mk ?_ ?_)
      | (with_reducible refine VS.mk ?_)
      | (refine PSem.go (C := seat) seat_ok ?_)
      | (refine And.intro (PlanOK.mk (by kernel_rfl) rfl (by kernel_rfl) (by kernel_rfl)) ?_)
      | (refine And.intro rfl (Exists.intro _ (And.intro (by first | assumption | rfl) ?_)))
      | (refine And.intro ⟨rfl, rfl, rfl⟩ ?_)
      | (refine call_ro [] (put_nj RX ((i : Int) - (pt : Int)) ((((i + 1 : Nat) : Int)) - ((pt : Nat) : Int)) W c1 y _ _ _ _ _ _ (by omega) hI.po (by omega) (by rw [IntKind.wrap_i64]; omega)) GG_no rfl rfl rfl trivial ?_; rintro r bs' ext ⟨⟨c7, rfl⟩, rfl⟩)
      | (refine And.intro ⟨by omega, by simp only [List.length_map]; omega⟩ (Exists.intro _ (And.intro (by first | assumption | rfl) ?_)))
      | (refine fun (caps : Nat → Nat) hcaps => ?_; conv at hcaps => whnf)
      | (refine BB.mk (fun _h => ?_) (fun _h => ?_) <;> (first | (exact absurd _h (by decide)) | (exfalso; simp only [boolSet, lenO] at _h <;> omega) | (exfalso; simp at _h; done) | (simp only [boolSet, lenO] at _h) | skip))
      | (refine And.intro (by omega) ?_)
      | (refine BB.mk (fun _h => ?_) (fun _h => ?_) <;> (first | (exact absurd _h (by decide)) | (exfalso; simp only [boolSet] at _h <;> omega) | skip)))
    all_goals (try conv => whnf)
    refine loop_rule (α := OS) (fun q => q.i ≤ (if i < tks.length then 1 else 0 : Nat) ∧ q.pt = pt ∧ OI RX q.e q.cap q.cT q.pt q.tk q.W q.els) (fun q => { slots := [(2, .z 1 (tks.map u1C) ct), (7, .p (.n 0) 0 0 0), (8, .s (.n 1) 17 q.e q.W.length q.cap), (9, .v (.int .i64 ((pt : Nat) : Int))), (10, .v (.int .i64 ((q.tk : Nat) : Int))), (26, .z 17 (l.map msC) c0), (27, .v (.int .i64 (l.map msC).length)), (28, .v (.int .i64 ((i : Nat) : Int))), (11, .v (.int .i64 (i : Int))), (56, .v (.int .i64 ((if i < tks.length then 1 else 0 : Nat) : Int))), (57, .v (.int .i64 ((q.i : Nat) : Int)))], nt := 158, mem := ⟨GG, [], [.box 24 [.v (.int .i64 RX), .z 17 (q.W.map msC) q.c, .v (.int .i64 ((((i + 1 : Nat) : Int)) - ((pt : Nat) : Int)))], .row 39 17 q.cT q.els]⟩ }) (fun q => (if i < tks.length then 1 else 0 : Nat) - q.i) ⟨0, e, cap, cT, pt, tk, c7, W, els⟩ ⟨Nat.zero_le _, rfl, hI⟩ ⟨⟨[0, 1], by decide, GG_no, rfl, SubOld.refl _ rfl, ⟨rfl, .inr (.inl rfl), trivial⟩, ⟨.inl rfl, .inl rfl, .inl rfl, .inl rfl, .inl rfl, .inl rfl, .inl rfl, .inl rfl, .inl rfl, .inl (num_eq (by rw [← min_cnt tks.length i (by omega) (by omega), ← htm])), .inl rfl, trivial⟩⟩, rfl⟩ ?_ (fun _ => rfl)
    clear hI hWl hWc hWt hWn hWr hro
    rintro ⟨j, e, cap, cT, P0, tk, c1, W, els⟩ ⟨hj, hP, hI⟩
    dsimp only at hj hP hI ⊢
    have hWl := hI.pl; have hWc := hI.pc; have hWt := hI.px; have hWn := hI.pn; have hWr := hI.pr
    by_cases hjt : j < (if i < tks.length then 1 else 0 : Nat)
    · have hit : i < tks.length := by
        split at hjt <;> omega
      obtain ⟨z, hz⟩ : ∃ z, tks[i]? = some z := ⟨_, List.getElem?_eq_getElem hit⟩
      have hrz := u1_z hz
      obtain ⟨M, hN, hN2⟩ : ∃ M : Int, z.tmod 4 = M ∧ M < 4 := ⟨_, rfl, Int.tmod_lt_of_pos z (by decide)⟩
      refine vc_sound (C := seat) seat_ok (pl := [(18, (.of [(0, .take), (1, .take), (2, .take), (3, .take), (4, .take), (5, .take), (6, .take), (7, .take), (8, .take), (9, .take), (10, .take), (11, .take), (12, .do_), (13, .take), (14, .take), (15, .take), (16, .take), (17, .take), (18, .take), (19, .take), (20, .take), (21, .take), (22, .do_), (23, .take), (24, .take), (25, .take)])), (31, (.of [(0, .take), (1, .take), (2, .take), (3, .take), (4, .take), (5, .take), (6, .take), (7, .take), (8, .take), (9, .do_), (10, .take)]))]) ?_
      repeat' ((try conv => whnf); first
        | (with_reducible refine OKv.go (C := seat) seat_ok ?_)
        | (with_reducible refine BB_true ?_)
        | (with_reducible refine BB_false ?_)
        | (with_reducible refine Both.mk ?_ ?_)
        | (with_reducible refine VS.mk ?_)
        | (refine PSem.go (C := seat) seat_ok ?_)
        | (refine And.intro (PlanOK.mk (by kernel_rfl) rfl (by kernel_rfl) (by kernel_rfl)) ?_)
        | (refine And.intro rfl (Exists.intro _ (And.intro (by first | assumption | rfl) ?_)))
        | (refine And.intro ⟨rfl, rfl, rfl⟩ ?_)
        | (refine And.intro ⟨by omega, by simp only [List.length_map]; omega⟩ (Exists.intro _ (And.intro (by first | assumption | rfl) ?_)))
        | (refine fun (caps : Nat → Nat) hcaps => ?_; conv at hcaps => whnf)
        | (refine And.intro (show _ ≠ (0 : Int) by decide) ?_)
        | (refine BB.mk (fun _h => ?_) (fun _h => ?_) <;> (first | (exact absurd _h (by decide)) | (exfalso; simp only [boolSet, lenO] at _h <;> omega) | (exfalso; simp at _h; done) | (simp only [boolSet, lenO] at _h) | skip))
        | (refine And.intro (by omega) ?_)
        | (refine BB.mk (fun _h => ?_) (fun _h => ?_) <;> (first | (exact absurd _h (by decide)) | (exfalso; simp only [boolSet] at _h <;> omega) | skip)))
      all_goals (try conv => whnf)
      refine loop_rule (α := OS) (fun q => q.i ≤ M.toNat ∧ q.pt = pt ∧ OI RX q.e q.cap q.cT q.pt q.tk q.W q.els) (fun q => { slots := [(2, .z 1 (tks.map u1C) ct), (7, .p (.n 0) 0 0 0), (8, .s (.n 1) 17 q.e q.W.length q.cap), (9, .v (.int .i64 ((pt : Nat) : Int))), (10, .v (.int .i64 ((q.tk : Nat) : Int))), (26, .z 17 (l.map msC) c0), (27, .v (.int .i64 (l.map msC).length)), (28, .v (.int .i64 ((i : Nat) : Int))), (11, .v (.int .i64 (i : Int))), (56, .v (.int .i64 ((if i < tks.length then 1 else 0 : Nat) : Int))), (57, .v (.int .i64 ((j : Nat) : Int))), (63, .v (.int .u8 M)), (64, .v (.int .u8 ((q.i : Nat) : Int)))], nt := 158, mem := ⟨GG, [], [.box 24 [.v (.int .i64 RX), .z 17 (q.W.map msC) q.c, .v (.int .i64 ((((i + 1 : Nat) : Int)) - ((pt : Nat) : Int)))], .row 39 17 q.cT q.els]⟩ }) (fun q => M.toNat - q.i) ⟨0, e, cap, cT, P0, tk, c1, W, els⟩ ⟨Nat.zero_le _, hP, hI⟩ ⟨⟨[0, 1], by decide, GG_no, rfl, SubOld.refl _ rfl, ⟨rfl, .inr (.inl rfl), trivial⟩, ⟨.inl rfl, .inl rfl, .inl rfl, .inl rfl, .inl rfl, .inl rfl, .inl rfl, .inl rfl, .inl rfl, .inl rfl, .inl rfl, .inl (num_eq hN), .inl rfl, trivial⟩⟩, rfl⟩ ?_ (fun _ => rfl)
      clear hI hWl hWc hWt hWn hWr hP
      rintro ⟨k, e, cap, cT, P0, tk, c1, W, els⟩ ⟨hk, hP, hI⟩
      dsimp only at hk hP hI ⊢
      have hWl := hI.pl; have hWc := hI.pc; have hWt := hI.px; have hWn := hI.pn; have hWr := hI.pr
      have hwt : IntKind.i64.wrap ((tk : Int) + 1) = ((tk + 1 : Nat) : Int) := by rw [IntKind.wrap_i64]; omega
      by_cases hkt : (k : Int) < M
      · have hwk : IntKind.u8.wrap ((k : Int) + 1) = ((k + 1 : Nat) : Int) := by rw [IntKind.wrap_u8]; omega
        cases W with
        | nil =>
          refine vc_sound (C := seat) seat_ok (pl := [(18, (.of [(0, .take), (1, .take), (2, .take), (3, .take), (4, .take), (5, .take), (6, .take), (7, .take), (8, .take), (9, .take), (10, .take), (11, .take), (12, .do_), (13, .take), (14, .take), (15, .take), (16, .take), (17, .take), (18, .take), (19, .take), (20, .take), (21, .take), (22, .do_), (23, .take), (24, .take), (25, .take)])), (31, (.of [(0, .take), (1, .take), (2, .take), (3, .take), (4, .take), (5, .take), (6, .take), (7, .take), (8, .take), (9, .do_), (10, .take)]))]) ?_
          repeat' ((try conv => whnf); first
            | (with_reducible refine OKv.go (C := seat) seat_ok ?_)
            | (with_reducible refine BB_true ?_)
            | (with_reducible refine BB_false ?_)
            | (with_reducible refine Both.mk ?_ ?_)
            | (with_reducible refine VS.mk ?_)
            | (refine PSem.go (C := seat) seat_ok ?_)
            | (refine And.intro (PlanOK.mk (by kernel_rfl) rfl (by kernel_rfl) (by kernel_rfl)) ?_)
            | (refine And.intro rfl (Exists.intro _ (And.intro (by first | assumption | rfl) ?_)))
            | (refine And.intro ⟨rfl, rfl, rfl⟩ ?_)
            | (refine call_ro [] (take_no RX ((((i + 1 : Nat) : Int)) - ((pt : Nat) : Int)) _) GG_no rfl rfl rfl trivial ?_; rintro r bs' ext ⟨rfl, rfl⟩)
            | (refine call_ro [] (boxes_yes RX ((((i + 1 : Nat) : Int)) - ((pt : Nat) : Int)) [] _ _ (by decide) ex_none) GG_no rfl rfl rfl trivial ?_; rintro r bs' ext ⟨rfl, rfl⟩)
            | (refine fun (caps : Nat → Nat) hcaps => ?_; conv at hcaps => whnf)
            | (refine BB.mk (fun _h => ?_) (fun _h => ?_) <;> (first | (exact absurd _h (by decide)) | (exfalso; simp only [boolSet, lenO] at _h <;> omega) | (exfalso; simp at _h; done) | (simp only [boolSet, lenO] at _h) | skip))
            | (refine And.intro (by omega) ?_)
            | (refine BB.mk (fun _h => ?_) (fun _h => ?_) <;> (first | (exact absurd _h (by decide)) | (exfalso; simp only [boolSet] at _h <;> omega) | skip)))
          all_goals (try conv => whnf)
          all_goals first
            | exact ⟨⟨k + 1, e, cap, cT, P0, tk, 0, [], els⟩, ⟨by dsimp only; omega, hP, hI⟩, by dsimp only; omega, ⟨⟨[0, 1], by decide, GG_no, rfl, SubOld.refl _ rfl, ⟨rfl, .inr (.inl rfl), trivial⟩, ⟨.inl rfl, .inl rfl, .inl rfl, .inl rfl, .inl rfl, .inl rfl, .inl rfl, .inl rfl, .inl rfl, .inl rfl, .inl rfl, .inl rfl, .inl (num_eq hwk), trivial⟩⟩, rfl⟩⟩
            | trace_state
        | cons m0 W =>
          have hm0 := hI.po m0 (List.mem_cons_self ..)
          have hget := hI.get (k := 0) rfl
          refine vc_sound (C := seat) seat_ok (pl := [(18, (.of [(0, .take), (1, .take), (2, .take), (3, .take), (4, .take), (5, .take), (6, .take), (7, .take), (8, .take), (9, .take), (10, .take), (11, .take), (12, .do_), (13, .take), (14, .take), (15, .take), (16, .take), (17, .take), (18, .take), (19, .take), (20, .take), (21, .take), (22, .do_), (23, .take), (24, .take), (25, .take)])), (31, (.of [(0, .take), (1, .take), (2, .take), (3, .take), (4, .take), (5, .take), (6, .take), (7, .take), (8, .take), (9, .do_), (10, .take)]))]) ?_
          repeat' ((try conv => whnf); first
            | (with_reducible refine OKv.go (C := seat) seat_ok ?_)
            | (with_reducible refine BB_true ?_)
            | (with_reducible refine BB_false ?_)
            | (with_reducible refine Both.mk ?_ ?_)
            | (with_reducible refine VS.mk ?_)
            | (refine PSem.go (C := seat) seat_ok ?_)
            | (refine And.intro (PlanOK.mk (by kernel_rfl) rfl (by kernel_rfl) (by kernel_rfl)) ?_)
            | (refine And.intro rfl (Exists.intro _ (And.intro (by first | assumption | rfl) ?_)))
            | (refine And.intro ⟨rfl, rfl, rfl⟩ ?_)
            | (refine call_ro [] (take_yes RX ((((i + 1 : Nat) : Int)) - ((pt : Nat) : Int)) m0 W _ (by simp only [List.length_cons] at hWn; omega) (fun y hy => hI.po y (List.mem_cons_of_mem _ hy)) hm0) GG_no rfl rfl rfl trivial ?_; rintro r bs' ext ⟨⟨d1, d2, d3, d4, d5, d6, c7, rfl⟩, rfl⟩)
            | (refine call_ro [] (same_yes m0 _ _ _ _ _ _ _ _ _ _ _ _ hm0) GG_no rfl rfl rfl trivial ?_; rintro r bs' ext ⟨rfl, rfl⟩)
            | (refine And.intro ⟨?_, ?_⟩ (Exists.intro _ (And.intro (by first | exact hget | assumption | rfl) ?_)); omega; (simp only [List.length_cons]; omega))
            | (refine And.intro ⟨?_, ?_, ?_⟩ ?_; omega; (simp only [List.length_cons]; omega); (simp only [List.length_cons] at hWc ⊢; omega))
            | (refine And.intro ⟨?_, ?_⟩ ?_; omega; (simp only [List.length_cons]; omega))
            | (refine fun (caps : Nat → Nat) hcaps => ?_; conv at hcaps => whnf)
            | (refine BB.mk (fun _h => ?_) (fun _h => ?_) <;> (first | (exact absurd _h (by decide)) | (exfalso; simp only [boolSet, lenO] at _h <;> omega) | (exfalso; simp at _h; done) | (simp only [boolSet, lenO] at _h) | skip))
            | (refine And.intro (by omega) ?_)
            | (refine BB.mk (fun _h => ?_) (fun _h => ?_) <;> (first | (exact absurd _h (by decide)) | (exfalso; simp only [boolSet] at _h <;> omega) | skip)))
          all_goals (try conv => whnf)
          all_goals first
            | exact ⟨⟨k + 1, e + 1, cap - 1, cT, P0, tk + 1, c7, W, els⟩, ⟨by dsimp only; omega, hP, hI.next⟩, by dsimp only; omega, ⟨⟨[0, 1], by decide, GG_no, rfl, SubOld.refl _ rfl, ⟨rfl, .inr (.inl rfl), trivial⟩, ⟨.inl rfl, .inl rfl, .inl (s_eq rfl (by simp) rfl), .inl rfl, .inl (num_eq hwt), .inl rfl, .inl rfl, .inl rfl, .inl rfl, .inl rfl, .inl rfl, .inl rfl, .inl (num_eq hwk), trivial⟩⟩, rfl⟩⟩
            | trace_state
      · have hwj : IntKind.i64.wrap ((j : Int) + 1) = ((j + 1 : Nat) : Int) := by rw [IntKind.wrap_i64]; split at hj <;> omega
        refine vc_sound (C := seat) seat_ok (pl := [(18, (.of [(0, .take), (1, .take), (2, .take), (3, .take), (4, .take), (5, .take), (6, .take), (7, .take), (8, .take), (9, .take), (10, .take), (11, .take), (12, .do_), (13, .take), (14, .take), (15, .take), (16, .take), (17, .take), (18, .take), (19, .take), (20, .take), (21, .take), (22, .do_), (23, .take), (24, .take), (25, .take)])), (31, (.of [(0, .take), (1, .take), (2, .take), (3, .take), (4, .take), (5, .take), (6, .take), (7, .take), (8, .take), (9, .do_), (10, .take)]))]) ?_
        repeat' ((try conv => whnf); first
          | (with_reducible refine OKv.go (C := seat) seat_ok ?_)
          | (with_reducible refine BB_true ?_)
          | (with_reducible refine BB_false ?_)
          | (with_reducible refine Both.mk ?_ ?_)
          | (with_reducible refine VS.mk ?_)
          | (refine PSem.go (C := seat) seat_ok ?_)
          | (refine And.intro (PlanOK.mk (by kernel_rfl) rfl (by kernel_rfl) (by kernel_rfl)) ?_)
          | (refine And.intro rfl (Exists.intro _ (And.intro (by first | assumption | rfl) ?_)))
          | (refine And.intro ⟨rfl, rfl, rfl⟩ ?_)
          | (refine BB.mk (fun _h => ?_) (fun _h => ?_) <;> (first | (exact absurd _h (by decide)) | (exfalso; simp only [boolSet, lenO] at _h <;> omega) | (exfalso; simp at _h; done) | (simp only [boolSet, lenO] at _h) | skip))
          | (refine And.intro (by omega) ?_)
          | (refine BB.mk (fun _h => ?_) (fun _h => ?_) <;> (first | (exact absurd _h (by decide)) | (exfalso; simp only [boolSet] at _h <;> omega) | skip)))
        all_goals (try conv => whnf)
        all_goals first
          | exact ⟨⟨j + 1, e, cap, cT, P0, tk, c1, W, els⟩, ⟨by dsimp only; omega, hP, hI⟩, by dsimp only; omega, ⟨⟨[0, 1], by decide, GG_no, rfl, SubOld.refl _ rfl, ⟨rfl, .inr (.inl rfl), trivial⟩, ⟨.inl rfl, .inl rfl, .inl rfl, .inl rfl, .inl rfl, .inl rfl, .inl rfl, .inl rfl, .inl rfl, .inl rfl, .inl (num_eq hwj), trivial⟩⟩, rfl⟩⟩
          | trace_state
    · obtain rfl : j = (if i < tks.length then 1 else 0 : Nat) := by omega
      have hwm : (W.map msC).length = W.length := List.length_map _
      have hw2 : IntKind.i64.wrap (((i + 1 : Nat) : Int) - ((pt : Nat) : Int)) = ((((i + 1 : Nat) : Int)) - ((pt : Nat) : Int)) := by rw [IntKind.wrap_i64]; omega
      have hw3 : IntKind.i64.wrap ((W.length : Int) + (tk : Int)) = ((W.length + tk : Nat) : Int) := by rw [IntKind.wrap_i64]; omega
      have hM : (W.length : Int) ≤ (bif true then if (0 : Int) > RX then 0 else RX else if (0 : Int) < RX then 0 else RX) := by simp only [cond_true]; split <;> omega
      have hWW := And.intro hw1 (And.intro hw2 hw3)
      refine vc_sound (C := seat) seat_ok (pl := [(18, (.of [(0, .take), (1, .take), (2, .take), (3, .take), (4, .take), (5, .take), (6, .take), (7, .take), (8, .take), (9, .take), (10, .take), (11, .take), (12, .do_), (13, .take), (14, .take), (15, .take), (16, .take), (17, .take), (18, .take), (19, .take), (20, .take), (21, .take), (22, .do_), (23, .take), (24, .take), (25, .take)])), (31, (.of [(0, .take), (1, .take), (2, .take), (3, .take), (4, .take), (5, .take), (6, .take), (7, .take), (8, .take), (9, .do_), (10, .take)]))]) ?_
      repeat' ((try conv => whnf); first
        | (with_reducible refine OKv.go (C := seat) seat_ok ?_)
        | (with_reducible refine BB_true ?_)
        | (with_reducible refine BB_false ?_)
        | (with_reducible refine Both.mk ?_ ?_)
        | (with_reducible refine VS.mk ?_)
        | (refine PSem.go (C := seat) seat_ok ?_)
        | (refine And.intro (PlanOK.mk (by kernel_rfl) rfl (by kernel_rfl) (by kernel_rfl)) ?_)
        | (refine And.intro rfl (Exists.intro _ (And.intro (by first | assumption | rfl) ?_)))
        | (refine And.intro ⟨rfl, rfl, rfl⟩ ?_)
        | (refine fun (caps : Nat → Nat) hcaps => ?_; conv at hcaps => whnf)
        | (refine BB.mk (fun _h => ?_) (fun _h => ?_) <;> (first | (exact absurd _h (by decide)) | (exfalso; simp only [boolSet, lenO, hWW] at _h <;> omega) | (exfalso; simp only [boolSet, lenO, hWW, cond_true] at _h; split at _h <;> omega) | (simp only [boolSet, lenO] at _h) | skip))
        | (refine And.intro (by omega) ?_)
        | (refine BB.mk (fun _h => ?_) (fun _h => ?_) <;> (first | (exact absurd _h (by decide)) | (exfalso; simp only [boolSet] at _h <;> omega) | skip)))
      all_goals (try conv => whnf)
      refine loop_rule (α := Nat) (fun k => k ≤ W.length) (fun k => { slots := [(2, .z 1 (tks.map u1C) ct), (7, .p (.n 0) 0 0 0), (8, .s (.n 1) 17 e W.length cap), (9, .v (.int .i64 ((pt : Nat) : Int))), (10, .v (.int .i64 ((tk : Nat) : Int))), (26, .z 17 (l.map msC) c0), (27, .v (.int .i64 (l.map msC).length)), (28, .v (.int .i64 ((i : Nat) : Int))), (140, .v (.int .i64 (W.length : Int))), (141, .v (.int .i64 (k : Int)))], nt := 158, mem := ⟨GG, [], [.box 24 [.v (.int .i64 RX), .z 17 (W.map msC) c1, .v (.int .i64 ((((i + 1 : Nat) : Int)) - ((pt : Nat) : Int)))], .row 39 17 cT els]⟩ }) (fun k => W.length - k) 0 (Nat.zero_le _) ⟨⟨[0, 1], by decide, GG_no, rfl, SubOld.refl _ rfl, ⟨rfl, .inr (.inl rfl), trivial⟩, ⟨.inl rfl, .inl rfl, .inl rfl, .inl rfl, .inl rfl, .inl rfl, .inl rfl, .inl rfl, .inl rfl, .inl rfl, trivial⟩⟩, rfl⟩ ?_ (fun _ => rfl)
      intro k hk
      by_cases hkt : k < W.length
      · obtain ⟨x, hx⟩ : ∃ x, W[k]? = some x := ⟨_, List.getElem?_eq_getElem hkt⟩
        have hrow3 := ms_z hx
        have hget := hI.get hx
        have hmx := hI.po x (List.mem_of_getElem? hx)
        refine vc_sound (C := seat) seat_ok (pl := [(18, (.of [(0, .take), (1, .take), (2, .take), (3, .take), (4, .take), (5, .take), (6, .take), (7, .take), (8, .take), (9, .take), (10, .take), (11, .take), (12, .do_), (13, .take), (14, .take), (15, .take), (16, .take), (17, .take), (18, .take), (19, .take), (20, .take), (21, .take), (22, .do_), (23, .take), (24, .take), (25, .take)])), (31, (.of [(0, .take), (1, .take), (2, .take), (3, .take), (4, .take), (5, .take), (6, .take), (7, .take), (8, .take), (9, .do_), (10, .take)]))]) ?_
        repeat' ((try conv => whnf); first
          | (with_reducible refine OKv.go (C := seat) seat_ok ?_)
          | (with_reducible refine BB_true ?_)
          | (with_reducible refine BB_false ?_)
          | (with_reducible refine Both.mk ?_ ?_)
          | (with_reducible refine VS.mk ?_)
          | (refine PSem.go (C := seat) seat_ok ?_)
          | (refine And.intro (PlanOK.mk (by kernel_rfl) rfl (by kernel_rfl) (by kernel_rfl)) ?_)
          | (refine And.intro rfl (Exists.intro _ (And.intro (by first | assumption | rfl) ?_)))
          | (refine And.intro ⟨rfl, rfl, rfl⟩ ?_)
          | (refine call_ro [] (same_yes x _ _ _ _ _ _ _ _ _ _ _ _ hmx) GG_no rfl rfl rfl trivial ?_; rintro r bs' ext ⟨rfl, rfl⟩)
          | (refine And.intro ⟨?_, ?_⟩ (Exists.intro _ (And.intro (by first | exact hget | assumption | rfl) ?_)); omega; (simp only [List.length_cons]; omega))
          | (refine And.intro ⟨by omega, by simp only [List.length_map]; omega⟩ (Exists.intro _ (And.intro (by first | assumption | rfl) ?_)))
          | (refine fun (caps : Nat → Nat) hcaps => ?_; conv at hcaps => whnf)
          | (refine BB.mk (fun _h => ?_) (fun _h => ?_) <;> (first | (exact absurd _h (by decide)) | (exfalso; simp only [boolSet, lenO, hWW] at _h <;> omega) | (exfalso; simp only [boolSet, lenO, hWW, cond_true] at _h; split at _h <;> omega) | (simp only [boolSet, lenO] at _h) | skip))
          | (refine And.intro (by omega) ?_)
          | (refine BB.mk (fun _h => ?_) (fun _h => ?_) <;> (first | (exact absurd _h (by decide)) | (exfalso; simp only [boolSet] at _h <;> omega) | skip)))
        all_goals (try conv => whnf)
        all_goals first
          | exact ⟨k + 1, by omega, by omega, ⟨⟨[0, 1], by decide, GG_no, rfl, SubOld.refl _ rfl, ⟨rfl, .inr (.inl rfl), trivial⟩, ⟨.inl rfl, .inl rfl, .inl rfl, .inl rfl, .inl rfl, .inl rfl, .inl rfl, .inl rfl, .inl rfl, .inl (num_eq (by rw [IntKind.wrap_i64]; omega)), trivial⟩⟩, rfl⟩⟩
          | trace_state
      · obtain rfl : k = W.length := by omega
        refine vc_sound (C := seat) seat_ok (pl := [(18, (.of [(0, .take), (1, .take), (2, .take), (3, .take), (4, .take), (5, .take), (6, .take), (7, .take), (8, .take), (9, .take), (10, .take), (11, .take), (12, .do_), (13, .take), (14, .take), (15, .take), (16, .take), (17, .take), (18, .take), (19, .take), (20, .take), (21, .take), (22, .do_), (23, .take), (24, .take), (25, .take)])), (31, (.of [(0, .take), (1, .take), (2, .take), (3, .take), (4, .take), (5, .take), (6, .take), (7, .take), (8, .take), (9, .do_), (10, .take)]))]) ?_
        repeat' ((try conv => whnf); first
          | (with_reducible refine OKv.go (C := seat) seat_ok ?_)
          | (with_reducible refine BB_true ?_)
          | (with_reducible refine BB_false ?_)
          | (with_reducible refine Both.mk ?_ ?_)
          | (with_reducible refine VS.mk ?_)
          | (refine PSem.go (C := seat) seat_ok ?_)
          | (refine And.intro (PlanOK.mk (by kernel_rfl) rfl (by kernel_rfl) (by kernel_rfl)) ?_)
          | (refine And.intro rfl (Exists.intro _ (And.intro (by first | assumption | rfl) ?_)))
          | (refine And.intro ⟨rfl, rfl, rfl⟩ ?_)
          | (refine BB.mk (fun _h => ?_) (fun _h => ?_) <;> (first | (exact absurd _h (by decide)) | (exfalso; simp only [boolSet, lenO, hWW] at _h <;> omega) | (exfalso; simp only [boolSet, lenO, hWW, cond_true] at _h; split at _h <;> omega) | (simp only [boolSet, lenO] at _h) | skip))
          | (refine And.intro (by omega) ?_)
          | (refine BB.mk (fun _h => ?_) (fun _h => ?_) <;> (first | (exact absurd _h (by decide)) | (exfalso; simp only [boolSet] at _h <;> omega) | skip)))
        all_goals (try conv => whnf)
        all_goals first
          | exact ⟨⟨i + 1, e, cap, cT, pt, tk, c1, W, els⟩, ⟨by dsimp only; omega, by dsimp only; omega, hP ▸ hI⟩, by dsimp only; omega, Ref.pass ⟨⟨[0, 1], by decide, GG_no, rfl, SubOld.refl _ rfl, ⟨rfl, .inr (.inl rfl), trivial⟩, ⟨.inl rfl, .inl rfl, .inl rfl, .inl rfl, .inl rfl, .inl rfl, .inl rfl, .inl (num_eq hw1), trivial⟩⟩, rfl⟩⟩
          | trace_state
end Go.Proofs.Ytkcdomafdjpbjaa
