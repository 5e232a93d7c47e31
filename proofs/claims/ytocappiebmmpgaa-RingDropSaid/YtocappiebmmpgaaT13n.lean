/- May as a value; what is nearest. -/
import Derived.Test.YtocappiebmmpgaaT13k
namespace Go.Proofs.Ytocappiebmmpgaa
open Go.RowKit

def mayB (s : List Sp) (l : List De) : Bool := l.all (fun d => rightF s d.fl) && schB s
theorem may_short {s : List Sp} {l : List De} (h : mayB s l = true) : s.length ≤ 4 ∧ ∀ d ∈ l, d.fl.length ≤ 4 := by
  unfold mayB at h
  rw [Bool.and_eq_true, List.all_eq_true] at h
  have h2 := h.2
  unfold schB at h2
  simp only [Bool.and_eq_true, decide_eq_true_eq] at h2
  refine ⟨by omega, fun d hd => ?_⟩
  have h3 := h.1 d hd
  unfold rightF at h3
  simp only [Bool.or_eq_true, Bool.and_eq_true, decide_eq_true_eq] at h3
  omega
theorem all_succ {p : De → Bool} {l : List De} {k : Nat} {d : De} (h : l[k]? = some d) : (l.take (k + 1)).all p = ((l.take k).all p && p d) := by
  rw [List.take_add_one, h, List.all_append]
  simp
theorem any_succ {p : De → Bool} {l : List De} {k : Nat} {d : De} (h : l[k]? = some d) : (l.take (k + 1)).any p = ((l.take k).any p || p d) := by
  rw [List.take_add_one, h, List.any_append]
  simp
theorem may_no {s : List Sp} {l : List De} {k : Nat} {d : De} (h : l[k]? = some d) (hr : rightF s d.fl = false) : mayB s l = false := by
  unfold mayB
  rw [show l.all (fun d => rightF s d.fl) = false from List.all_eq_false.2 ⟨d, List.mem_of_getElem? h, by rw [hr]; decide⟩]
  rfl
set_option maxRecDepth 100000 in
set_option maxHeartbeats 4000000 in
theorem may_v (s : List Sp) (l : List De) (cs cl : Nat) (hs : s.length ≤ 9223372036854775807) (hl : l.length ≤ 9223372036854775807) (hf : ∀ d ∈ l, d.fl.length ≤ 9223372036854775807) : FnOK Try.prog GG 9 [] [.z 2 (s.map spC) cs, .z 4 (l.map deC) cl] (fun r _ ext => (r = .v (.bool (mayB s l))) ∧ ext = []) := by
  have hlm : (l.map deC).length = l.length := List.length_map _
  refine FnOK.pure GG_no rfl (fn_intro (C := seat) seat_ok [] GG_no (Try.func9) rfl rfl rfl rfl rfl ?_)
  repeat' ((try conv => whnf); first
    | (with_reducible refine OKv.go (C := seat) seat_ok ?_)
    | (with_reducible refine BB_true ?_)
    | (with_reducible refine BB_false ?_)
    | (with_reducible refine Both.mk ?_ ?_)
    | (with_reducible refine VS.mk ?_)
    | (refine PSem.go (C := seat) seat_ok ?_)
    | (refine And.intro (PlanOK.mk (by kernel_rfl) rfl (by kernel_rfl) (by kernel_rfl)) ?_)
    | (refine And.intro rfl (Exists.intro _ (And.intro (by first | assumption | rfl) ?_)))
    | (refine And.intro ⟨rfl, rfl, rfl⟩ ?_)
    | (refine And.intro (by omega) ?_)
    | (refine BB.mk (fun _h => ?_) (fun _h => ?_) <;> (first | (exact absurd _h (by decide)) | (exfalso; simp only [boolSet] at _h <;> omega) | skip)))
  all_goals (try conv => whnf)
  refine loop_rule (α := Nat) (fun k => k ≤ l.length ∧ (l.take k).all (fun d => rightF s d.fl) = true) (fun k => { slots := [(0, .z 2 (s.map spC) cs), (7, .z 4 (l.map deC) cl), (8, .v (.int .i64 (l.map deC).length)), (9, .v (.int .i64 (k : Int)))], nt := 21, mem := ⟨GG, [], []⟩ }) (fun k => l.length - k) 0 ⟨Nat.zero_le _, rfl⟩ ⟨⟨[], List.nodup_nil, GG_no, rfl, (SubOld.refl _ rfl), trivial, ⟨.inl rfl, .inl rfl, .inl rfl, .inl rfl, trivial⟩⟩, rfl⟩ ?_ (fun _ => rfl)
  rintro k ⟨hk, hal⟩
  refine vc_sound (C := seat) seat_ok (pl := []) ?_
  by_cases hlt : k < l.length
  · obtain ⟨d, hd⟩ : ∃ d, l[k]? = some d := ⟨_, List.getElem?_eq_getElem hlt⟩
    have hrow := zde13 hd
    have hdf := hf d (List.mem_of_getElem? hd)
    cases hrf : rightF s d.fl
    all_goals
      repeat' ((try conv => whnf); first
        | (with_reducible refine OKv.go (C := seat) seat_ok ?_)
        | (with_reducible refine BB_true ?_)
        | (with_reducible refine BB_false ?_)
        | (with_reducible refine Both.mk ?_ ?_)
        | (with_reducible refine VS.mk ?_)
        | (refine PSem.go (C := seat) seat_ok ?_)
        | (refine And.intro (PlanOK.mk (by kernel_rfl) rfl (by kernel_rfl) (by kernel_rfl)) ?_)
        | (refine And.intro rfl (Exists.intro _ (And.intro (by first | assumption | rfl) ?_)))
        | (refine And.intro ⟨rfl, rfl, rfl⟩ ?_)
        | (refine call_ro [] (rright13 s d.fl _ _ hs hdf) GG_no rfl rfl rfl trivial ?_; rintro r bs' ext ⟨rfl, rfl⟩)
        | (refine And.intro ⟨by omega, by simp only [List.length_map]; omega⟩ (Exists.intro _ (And.intro (by first | assumption | rfl) ?_)))
        | (refine fun (caps : Nat → Nat) hcaps => ?_; conv at hcaps => whnf)
        | (refine BB.mk (fun _h => ?_) (fun _h => ?_) <;> (first | (exact absurd _h (by decide)) | (exfalso; simp only [boolSet, hlm, hrf] at _h <;> omega) | (simp only [boolSet, hlm, hrf] at _h) | skip))
        | (refine And.intro (by omega) ?_)
        | (refine BB.mk (fun _h => ?_) (fun _h => ?_) <;> (first | (exact absurd _h (by decide)) | (exfalso; simp only [boolSet] at _h <;> omega) | skip)))
      all_goals (try conv => whnf)
    all_goals first
      | exact ⟨k + 1, ⟨by omega, by rw [all_succ hd, hal, hrf]; rfl⟩, by omega, ⟨⟨[], by decide, GG_no, rfl, SubOld.refl _ rfl, trivial, ⟨.inl rfl, .inl rfl, .inl rfl, .inl (num_eq (by rw [IntKind.wrap_i64]; omega)), trivial⟩⟩, rfl⟩⟩
      | exact ⟨_, _, FrzV.refl _ _, rfl, rfl, fun _ => rfl, bool_eq (may_no hd hrf).symm⟩
  · obtain rfl : k = l.length := by omega
    rw [List.take_length] at hal
    repeat' ((try conv => whnf); first
      | (with_reducible refine OKv.go (C := seat) seat_ok ?_)
      | (with_reducible refine BB_true ?_)
      | (with_reducible refine BB_false ?_)
      | (with_reducible refine Both.mk ?_ ?_)
      | (with_reducible refine VS.mk ?_)
      | (refine PSem.go (C := seat) seat_ok ?_)
      | (refine And.intro (PlanOK.mk (by kernel_rfl) rfl (by kernel_rfl) (by kernel_rfl)) ?_)
      | (refine And.intro rfl (Exists.intro _ (And.intro (by first | assumption | rfl) ?_)))
      | (refine And.intro ⟨rfl, rfl, rfl⟩ ?_)
      | (refine call_ro [] (rsch13 s _ hs) GG_no rfl rfl rfl trivial ?_; rintro r bs' ext ⟨rfl, rfl⟩)
      | (refine BB.mk (fun _h => ?_) (fun _h => ?_) <;> (first | (exact absurd _h (by decide)) | (exfalso; simp only [boolSet, hlm] at _h <;> omega) | (simp only [boolSet, hlm] at _h) | skip))
      | (refine And.intro (by omega) ?_)
      | (refine BB.mk (fun _h => ?_) (fun _h => ?_) <;> (first | (exact absurd _h (by decide)) | (exfalso; simp only [boolSet] at _h <;> omega) | skip)))
    all_goals (try conv => whnf)
    all_goals exact ⟨_, _, FrzV.refl _ _, rfl, rfl, fun _ => rfl, bool_eq (by unfold mayB; rw [hal]; rfl)⟩
theorem may_b (s : List Sp) (l : List De) (cs cl : Nat) (hs : s.length ≤ 9223372036854775807) (hl : l.length ≤ 9223372036854775807) (hf : ∀ d ∈ l, d.fl.length ≤ 9223372036854775807) (v : Bool) (hv : mayB s l = v) : FnOK Try.prog GG 9 [] [.z 2 (s.map spC) cs, .z 4 (l.map deC) cl] (fun r _ ext => (r = .v (.bool v)) ∧ ext = []) := hv ▸ may_v s l cs cl hs hl hf
theorem bst_le {g : De → Int} (l : List De) : ∀ b, g (bst (fun d b => decide (g d < g b)) b l) ≤ g b ∧ ∀ y ∈ l, g (bst (fun d b => decide (g d < g b)) b l) ≤ g y := by
  induction l with
  | nil => intro b; exact ⟨Int.le_refl _, fun y hy => absurd hy List.not_mem_nil⟩
  | cons d l ih =>
    intro b
    show g (bst _ (if decide (g d < g b) = true then d else b) l) ≤ _ ∧ ∀ y ∈ d :: l, g (bst _ (if decide (g d < g b) = true then d else b) l) ≤ _
    split
    · rename_i h
      have h := of_decide_eq_true h
      have := ih d
      refine ⟨by omega, fun y hy => ?_⟩
      rcases List.mem_cons.1 hy with rfl | hy
      · exact this.1
      · exact this.2 y hy
    · rename_i h
      simp only [decide_eq_true_eq] at h
      have := ih b
      refine ⟨this.1, fun y hy => ?_⟩
      rcases List.mem_cons.1 hy with rfl | hy
      · omega
      · exact this.2 y hy
theorem succ_le (s : List Sp) (h : Int) (x : De) (l : List De) : ∀ y ∈ l, farI h (placeI s (succD s h x l)) ≤ farI h (placeI s y) := (bst_le (g := fun d => farI h (placeI s d)) l x).2
theorem pred_le (s : List Sp) (h : Int) (x : De) (l : List De) : ∀ y ∈ l, farI (placeI s (predD s h x l)) h ≤ farI (placeI s y) h := (bst_le (g := fun d => farI (placeI s d) h) l x).2
theorem uni_facts {self : Int} {l : List De} (hf : FlOk l) (hn : ∀ y ∈ l, 0 ≤ y.node ∧ y.node ≤ 255) : VOk self 256 (uniLL self [] [l]) ∧ FlOk (uniLL self [] [l]) ∧ ∀ y ∈ uniLL self [] [l], 0 ≤ y.node ∧ y.node ≤ 255 :=
  ⟨uniLL_ok _ (vok_nil self), uniLL_fl _ (fun y hy => absurd hy List.not_mem_nil) (fun k hk => by rw [List.mem_singleton.1 hk]; exact hf), vok_nodes (fun k hk => by rw [List.mem_singleton.1 hk]; exact hn)⟩
def cntD (x : De) (l : List De) (k : Nat) : Int := ((l.take k).countP (fun d => decide (d = x)) : Nat)
theorem cnt_succ {x d : De} {l : List De} {k : Nat} (h : l[k]? = some d) : cntD x l (k + 1) = cntD x l k + bif decide (d = x) then 1 else 0 := by
  unfold cntD
  rw [List.take_add_one, h, List.countP_append]
  by_cases e : d = x <;> simp [e]
theorem cnt_le (x : De) (l : List De) (k : Nat) : 0 ≤ cntD x l k ∧ cntD x l k ≤ k := by
  unfold cntD
  have := List.countP_le_length (p := fun d => decide (d = x)) (l := l.take k)
  have h2 : (l.take k).length ≤ k := by rw [List.length_take]; omega
  omega
theorem cnt_one {x : De} : ∀ {l : List De}, Rising l → x ∈ l → l.countP (fun d => decide (d = x)) = 1
  | d :: l, hr, hx => by
    obtain ⟨h1, h2⟩ := List.pairwise_cons.1 hr
    rcases List.mem_cons.1 hx with rfl | hx
    · rw [List.countP_cons]
      have : l.countP (fun d => decide (d = x)) = 0 := by
        rw [List.countP_eq_zero]
        intro y hy e
        have := of_decide_eq_true e
        subst this
        have := h1 _ hy
        omega
      rw [this]
      simp
    · rw [List.countP_cons, cnt_one h2 hx]
      have : d ≠ x := fun e => by
        have := h1 _ hx
        rw [e] at this
        omega
      simp [this]
theorem cnt_end {x : De} {l : List De} (hr : Rising l) (hx : x ∈ l) : cntD x l l.length = 1 := by
  unfold cntD
  rw [List.take_length, cnt_one hr hx]
  rfl
theorem put_sub {l : List De} {d : De} {self room : Int} (hr : Rising l) (hn : ∀ y ∈ l, y.node ≠ d.node) {y : De} (hy : y ∈ l) : y ∈ (putP l d self room).1 := by
  unfold putP
  split
  · exact hy
  · rw [if_pos (find_none hn)]
    split
    · exact hy
    · show y ∈ l.take _ ++ d :: l.drop _
      rw [← List.take_append_drop (placeN d.node l) l] at hy
      rcases List.mem_append.1 hy with h | h
      · exact List.mem_append_left _ h
      · exact List.mem_append_right _ (List.mem_cons_of_mem _ h)
theorem choose_k (s : List Sp) (d : De) (ls : List (List De)) (cs cd c : Nat) (hs : s.length ≤ 9223372036854775807) (hd : 0 ≤ d.node ∧ d.node ≤ 255) (hdf : d.fl.length ≤ 9223372036854775807) (hls : ls.length ≤ 1099511627776) (hll : ∀ l ∈ ls, l.length ≤ 1099511627776) (hlf : ∀ l ∈ ls, FlOk l) (hln : ∀ l ∈ ls, ∀ y ∈ l, 0 ≤ y.node ∧ y.node ≤ 255) (K : List De) (hK : uniLL d.node [] ls = K) (hK2 : K.length ≤ 1099511627776) (hKf : FlOk K) (hKn : ∀ y ∈ K, 0 ≤ y.node ∧ y.node ≤ 255) (x : De) (hx : K[0]? = some x) (S P : De) (hS : succD s (placeI s d) x K = S) (hP : predD s (placeI s d) x K = P) : FnOK Try.prog GG 12 [] [.z 2 (s.map spC) cs, deS d cd, .z 1 (ls.map liC) c] (fun r _ ext => (∃ c1 c2, S.fl.length ≤ c1 ∧ P.fl.length ≤ c2 ∧ r = ringS true true S P c1 c2) ∧ ext = []) := by
  subst hS
  subst hP
  exact choose_some s d ls cs cd c hs hd hdf hls hll hlf hln K hK hK2 hKf hKn x hx
theorem desc_v (a b : De) (c1 c2 : Nat) (hf : a.fl.length ≤ 1099511627776) (v : Bool) (hv : decide (a = b) = v) : FnOK Try.prog GG 27 [] [deS a c1, deS b c2] (fun r _ ext => (r = .v (.bool v)) ∧ ext = []) := hv ▸ desc_ok a b c1 c2 hf
end Go.Proofs.Ytocappiebmmpgaa
