/- Package near: Union. -/
import Derived.Test.YtocappiebmmpgaaT13b
namespace Go.Proofs.Ytocappiebmmpgaa
open Go.RowKit

def uniL (self : Int) (o : List De) (l : List De) : List De := l.foldl (fun o d => (putP o d self 256).1) o
def uniLL (self : Int) (o : List De) (ls : List (List De)) : List De := ls.foldl (uniL self) o
def liC (l : List De) : List CV := [.z 4 (l.map deC)]
theorem li_at {ls : List (List De)} {k : Nat} {l : List De} (h : ls[k]? = some l) : (ls.map liC)[(k : Int).toNat]? = some [.z 4 (l.map deC)] := by
  rw [Int.toNat_natCast, List.getElem?_map, h]; rfl
theorem zde13 {l : List De} {k : Nat} {y : De} (h : l[k]? = some y) : (l.map deC)[(k : Int).toNat]? = some [.v (.int .u8 y.node), .v (.int .u16 y.inc), .v (.int .u8 y.age), .z 2 (y.fl.map spC)] := by
  rw [Int.toNat_natCast, List.getElem?_map, h]; rfl
theorem uniL_succ {self : Int} {o l : List De} {k : Nat} {d : De} (h : l[k]? = some d) : uniL self o (l.take (k + 1)) = (putP (uniL self o (l.take k)) d self 256).1 := by
  unfold uniL
  rw [List.take_add_one, h, List.foldl_append]; rfl
theorem uniL_ok {self : Int} (l : List De) : ∀ {o : List De}, VOk self 256 o → VOk self 256 (uniL self o l) := by
  induction l with
  | nil => intro o h; exact h
  | cons d l ih => intro o h; exact ih (h.put d)
theorem put_flt {l : List De} {d : De} {self room : Int} (h : FlOk l) (hd : d.fl.length ≤ 1099511627776) : FlOk (putP l d self room).1 := fun y hy => by
  rcases put_mem hy with rfl | h1
  · exact hd
  · exact h y h1
theorem uniL_fl {self : Int} (l : List De) : ∀ {o : List De}, FlOk o → FlOk l → FlOk (uniL self o l) := by
  induction l with
  | nil => intro o h _; exact h
  | cons d l ih => intro o h k; exact ih (put_flt h (k d List.mem_cons_self)) (fun y hy => k y (List.mem_cons_of_mem _ hy))
theorem vok_nil (self : Int) : VOk self 256 [] := ⟨by decide, fun y hy => absurd hy List.not_mem_nil, by decide⟩
theorem uniLL_succ {self : Int} {o : List De} {ls : List (List De)} {k : Nat} {l : List De} (h : ls[k]? = some l) : uniLL self o (ls.take (k + 1)) = uniL self (uniLL self o (ls.take k)) l := by
  unfold uniLL
  rw [List.take_add_one, h, List.foldl_append]; rfl
theorem uniLL_ok {self : Int} (ls : List (List De)) : ∀ {o : List De}, VOk self 256 o → VOk self 256 (uniLL self o ls) := by
  induction ls with
  | nil => intro o h; exact h
  | cons l ls ih => intro o h; exact ih (uniL_ok l h)
theorem uniLL_fl {self : Int} (ls : List (List De)) : ∀ {o : List De}, FlOk o → (∀ l ∈ ls, FlOk l) → FlOk (uniLL self o ls) := by
  induction ls with
  | nil => intro o h _; exact h
  | cons l ls ih => intro o h k; exact ih (uniL_fl l h (k l List.mem_cons_self)) (fun y hy => k y (List.mem_cons_of_mem _ hy))
set_option maxRecDepth 100000 in
set_option maxHeartbeats 4000000 in
theorem union_z (self : Int) (ls : List (List De)) (c : Nat) (hls : ls.length ≤ 1099511627776) (hll : ∀ l ∈ ls, l.length ≤ 1099511627776) (hlf : ∀ l ∈ ls, FlOk l) : FnOK Try.prog GG 26 [] [.v (.int .u8 self), .z 1 (ls.map liC) c] (fun r _ ext => (∃ c', (uniLL self [] ls).length ≤ c' ∧ r = .z 4 ((uniLL self [] ls).map deC) c') ∧ ext = []) := by
  have hmm : (ls.map liC).length = ls.length := List.length_map _
  refine FnOK.pure GG_no rfl (fn_intro (C := seat) seat_ok [] GG_no (Try.func26) rfl rfl rfl rfl rfl ?_)
  repeat' ((try conv => whnf); first
    | (with_reducible refine OKv.go (C := seat) seat_ok ?_)
    | (with_reducible refine BB_true ?_)
    | (with_reducible refine BB_false ?_)
    | (with_reducible refine Both.mk ?_ ?_)
    | (with_reducible refine VS.mk ?_)
    | (refine PSem.go (C := seat) seat_ok ?_)
    | (refine And.intro (PlanOK.mk (by kernel_rfl) rfl (by kernel_rfl) (by kernel_rfl)) ?_)
    | (refine And.intro rfl (Exists.intro _ (And.intro (by first | assumption | rfl) ?_)))
    | (refine And.intro ⟨rfl, rfl, rfl⟩ ?_)
    | (refine And.intro (by omega) ?_)
    | (refine BB.mk (fun _h => ?_) (fun _h => ?_) <;> (first | (exact absurd _h (by decide)) | (exfalso; simp only [boolSet] at _h <;> omega) | skip)))
  all_goals (try conv => whnf)
  refine loop_ruleP (α := Nat × Nat) (fun p => p.1 ≤ ls.length ∧ (uniLL self [] (ls.take p.1)).length ≤ p.2) (fun p => { slots := [(0, .v (.int .u8 self)), (5, .z 4 ((uniLL self [] (ls.take p.1)).map deC) p.2), (10, .z 1 (ls.map liC) c), (11, .v (.int .i64 (ls.map liC).length)), (12, .v (.int .i64 (p.1 : Int)))], nt := 32, mem := ⟨GG, [], []⟩ }) (fun p => ls.length - p.1) (0, 0) ⟨Nat.zero_le _, Nat.le_refl _⟩
    ((pass_slot 5 (y := .z 4 [] 0) rfl (frz_nil _ 4)).trans (Ref.pass ⟨⟨[], by decide, GG_no, rfl, SubOld.refl _ rfl, trivial, ⟨.inl rfl, .inl rfl, .inl rfl, .inl rfl, .inl rfl, trivial⟩⟩, rfl⟩)) ?_ (fun _ => rfl)
  rintro ⟨k, c1⟩ ⟨hk, hc1⟩
  dsimp only at hk hc1 ⊢
  refine vc_sound (C := seat) seat_ok (pl := []) ?_
  obtain ⟨o, ho⟩ : ∃ o, uniLL self [] (ls.take k) = o := ⟨_, rfl⟩
  have hov : VOk self 256 o := ho ▸ uniLL_ok _ (vok_nil self)
  have hof : FlOk o := ho ▸ uniLL_fl _ (fun y hy => absurd hy List.not_mem_nil) (fun l hl => hlf l (List.mem_of_mem_take hl))
  rw [ho] at hc1 ⊢
  by_cases hlt : k < ls.length
  · obtain ⟨l, hl⟩ : ∃ l, ls[k]? = some l := ⟨_, List.getElem?_eq_getElem hlt⟩
    have hrow := li_at hl
    have hl1 := hll l (List.mem_of_getElem? hl)
    have hl2 := hlf l (List.mem_of_getElem? hl)
    have hlm : (l.map deC).length = l.length := List.length_map _
    have hsu := uniLL_succ (self := self) (o := []) hl
    rw [ho] at hsu
    repeat' ((try conv => whnf); first
      | (with_reducible refine OKv.go (C := seat) seat_ok ?_)
      | (with_reducible refine BB_true ?_)
      | (with_reducible refine BB_false ?_)
      | (with_reducible refine Both.mk ?_ ?_)
      | (with_reducible refine VS.mk ?_)
      | (refine PSem.go (C := seat) seat_ok ?_)
      | (refine And.intro (PlanOK.mk (by kernel_rfl) rfl (by kernel_rfl) (by kernel_rfl)) ?_)
      | (refine And.intro rfl (Exists.intro _ (And.intro (by first | assumption | rfl) ?_)))
      | (refine And.intro ⟨rfl, rfl, rfl⟩ ?_)
      | (refine And.intro ⟨by omega, by simp only [List.length_map]; omega⟩ (Exists.intro _ (And.intro (by first | assumption | rfl) ?_)))
      | (refine fun (cap' : Nat) hcap' => ?_)
      | (refine BB.mk (fun _h => ?_) (fun _h => ?_) <;> (first | (exact absurd _h (by decide)) | (exfalso; simp only [boolSet, hmm] at _h <;> omega) | (simp only [boolSet, hmm] at _h) | skip))
      | (refine And.intro (by omega) ?_)
      | (refine BB.mk (fun _h => ?_) (fun _h => ?_) <;> (first | (exact absurd _h (by decide)) | (exfalso; simp only [boolSet] at _h <;> omega) | skip)))
    all_goals (try conv => whnf)
    refine loop_rule (α := Nat × Nat) (fun p => p.1 ≤ l.length ∧ (uniL self o (l.take p.1)).length ≤ p.2) (fun p => { slots := [(0, .v (.int .u8 self)), (5, .z 4 ((uniL self o (l.take p.1)).map deC) p.2), (10, .z 1 (ls.map liC) c), (11, .v (.int .i64 (ls.map liC).length)), (12, .v (.int .i64 (k : Int))), (16, .z 4 (l.map deC) cap'), (17, .v (.int .i64 (l.map deC).length)), (18, .v (.int .i64 (p.1 : Int)))], nt := 32, mem := ⟨GG, [], []⟩ }) (fun p => l.length - p.1) (0, c1) ⟨Nat.zero_le _, hc1⟩ ⟨⟨[], by decide, GG_no, rfl, SubOld.refl _ rfl, trivial, ⟨.inl rfl, .inl rfl, .inl rfl, .inl rfl, .inl rfl, .inl rfl, .inl rfl, .inl rfl, trivial⟩⟩, rfl⟩ ?_ (fun _ => rfl)
    rintro ⟨j, c2⟩ ⟨hj, hc2⟩
    dsimp only at hj hc2 ⊢
    refine vc_sound (C := seat) seat_ok (pl := []) ?_
    obtain ⟨u, hu⟩ : ∃ u, uniL self o (l.take j) = u := ⟨_, rfl⟩
    have huv : VOk self 256 u := hu ▸ uniL_ok _ hov
    have huf : FlOk u := hu ▸ uniL_fl _ hof (fun y hy => hl2 y (List.mem_of_mem_take hy))
    have hul := huv.len
    rw [hu] at hc2 ⊢
    by_cases hlj : j < l.length
    · obtain ⟨d, hd⟩ : ∃ d, l[j]? = some d := ⟨_, List.getElem?_eq_getElem hlj⟩
      have hrow2 := zde13 hd
      have hdf := hl2 d (List.mem_of_getElem? hd)
      have hsv := uniL_succ (self := self) (o := o) hd
      rw [hu] at hsv
      repeat' ((try conv => whnf); first
        | (with_reducible refine OKv.go (C := seat) seat_ok ?_)
        | (with_reducible refine BB_true ?_)
        | (with_reducible refine BB_false ?_)
        | (with_reducible refine Both.mk ?_ ?_)
        | (with_reducible refine VS.mk ?_)
        | (refine PSem.go (C := seat) seat_ok ?_)
        | (refine And.intro (PlanOK.mk (by kernel_rfl) rfl (by kernel_rfl) (by kernel_rfl)) ?_)
        | (refine And.intro rfl (Exists.intro _ (And.intro (by first | assumption | rfl) ?_)))
        | (refine And.intro ⟨rfl, rfl, rfl⟩ ?_)
        | (refine call_ro [] (put_zz u c2 (by omega) huv.rising huf d _ (by simpa using hcaps.1) hdf self 256 _ _ rfl) GG_no rfl rfl rfl trivial ?_; rintro r bs' ext ⟨⟨c3, hc3, rfl⟩, rfl⟩)
        | (refine And.intro ⟨by omega, by simp only [List.length_map]; omega⟩ (Exists.intro _ (And.intro (by first | assumption | rfl) ?_)))
        | (refine fun (caps : Nat → Nat) hcaps => ?_; conv at hcaps => whnf)
        | (refine BB.mk (fun _h => ?_) (fun _h => ?_) <;> (first | (exact absurd _h (by decide)) | (exfalso; simp only [boolSet, hmm, hlm] at _h <;> omega) | (simp only [boolSet, hmm, hlm] at _h) | skip))
        | (refine And.intro (by omega) ?_)
        | (refine BB.mk (fun _h => ?_) (fun _h => ?_) <;> (first | (exact absurd _h (by decide)) | (exfalso; simp only [boolSet] at _h <;> omega) | skip)))
      all_goals (try conv => whnf)
      all_goals first
        | exact ⟨(j + 1, c3), ⟨by dsimp only; omega, by dsimp only; rw [hsv]; exact hc3⟩, by dsimp only; omega, ⟨⟨[], by decide, GG_no, rfl, SubOld.refl _ rfl, trivial, ⟨.inl rfl, .inl (by dsimp only; rw [hsv]; rfl), .inl rfl, .inl rfl, .inl rfl, .inl rfl, .inl rfl, .inl (num_eq (by rw [IntKind.wrap_i64]; omega)), trivial⟩⟩, rfl⟩⟩
        | trace_state
    · obtain rfl : j = l.length := by omega
      have htk : uniL self o l = u := by rw [← hu, List.take_length]
      repeat' ((try conv => whnf); first
        | (with_reducible refine OKv.go (C := seat) seat_ok ?_)
        | (with_reducible refine BB_true ?_)
        | (with_reducible refine BB_false ?_)
        | (with_reducible refine Both.mk ?_ ?_)
        | (with_reducible refine VS.mk ?_)
        | (refine PSem.go (C := seat) seat_ok ?_)
        | (refine And.intro (PlanOK.mk (by kernel_rfl) rfl (by kernel_rfl) (by kernel_rfl)) ?_)
        | (refine And.intro rfl (Exists.intro _ (And.intro (by first | assumption | rfl) ?_)))
        | (refine And.intro ⟨rfl, rfl, rfl⟩ ?_)
        | (refine BB.mk (fun _h => ?_) (fun _h => ?_) <;> (first | (exact absurd _h (by decide)) | (exfalso; simp only [boolSet, hmm, hlm] at _h <;> omega) | (simp only [boolSet, hmm, hlm] at _h) | skip))
        | (refine And.intro (by omega) ?_)
        | (refine BB.mk (fun _h => ?_) (fun _h => ?_) <;> (first | (exact absurd _h (by decide)) | (exfalso; simp only [boolSet] at _h <;> omega) | skip)))
      all_goals (try conv => whnf)
      all_goals first
        | exact ⟨(k + 1, c2), ⟨by dsimp only; omega, by dsimp only; rw [hsu, htk]; exact hc2⟩, by dsimp only; omega, Ref.pass ⟨⟨[], by decide, GG_no, rfl, SubOld.refl _ rfl, trivial, ⟨.inl rfl, .inl (by dsimp only; rw [hsu, htk]; rfl), .inl rfl, .inl rfl, .inl (num_eq (by rw [IntKind.wrap_i64]; omega)), trivial⟩⟩, rfl⟩⟩
        | trace_state
  · obtain rfl : k = ls.length := by omega
    have htk : uniLL self [] ls = o := by rw [← ho, List.take_length]
    repeat' ((try conv => whnf); first
      | (with_reducible refine OKv.go (C := seat) seat_ok ?_)
      | (with_reducible refine BB_true ?_)
      | (with_reducible refine BB_false ?_)
      | (with_reducible refine Both.mk ?_ ?_)
      | (with_reducible refine VS.mk ?_)
      | (refine PSem.go (C := seat) seat_ok ?_)
      | (refine And.intro (PlanOK.mk (by kernel_rfl) rfl (by kernel_rfl) (by kernel_rfl)) ?_)
      | (refine And.intro rfl (Exists.intro _ (And.intro (by first | assumption | rfl) ?_)))
      | (refine And.intro ⟨rfl, rfl, rfl⟩ ?_)
      | (refine BB.mk (fun _h => ?_) (fun _h => ?_) <;> (first | (exact absurd _h (by decide)) | (exfalso; simp only [boolSet, hmm] at _h <;> omega) | (simp only [boolSet, hmm] at _h) | skip))
      | (refine And.intro (by omega) ?_)
      | (refine BB.mk (fun _h => ?_) (fun _h => ?_) <;> (first | (exact absurd _h (by decide)) | (exfalso; simp only [boolSet] at _h <;> omega) | skip)))
    all_goals (try conv => whnf)
    all_goals exact ⟨_, _, FrzV.refl _ _, rfl, rfl, fun _ => rfl, c1, by rw [htk]; exact hc1, by rw [htk]⟩
set_option maxRecDepth 100000 in
set_option maxHeartbeats 4000000 in
theorem own_z (d : De) (c : Nat) (hf : d.fl.length ≤ 1099511627776) : FnOK Try.prog GG 35 [] [deS d c] (fun r _ ext => (∃ c', d.fl.length ≤ c' ∧ r = deS d c') ∧ ext = []) := by
  refine FnOK.pure GG_no rfl (fn_intro (C := seat) seat_ok [] GG_no (Try.func35) rfl rfl rfl rfl rfl ?_)
  repeat' ((try conv => whnf); first
    | (with_reducible refine OKv.go (C := seat) seat_ok ?_)
    | (with_reducible refine BB_true ?_)
    | (with_reducible refine BB_false ?_)
    | (with_reducible refine Both.mk ?_ ?_)
    | (with_reducible refine VS.mk ?_)
    | (refine PSem.go (C := seat) seat_ok ?_)
    | (refine And.intro (PlanOK.mk (by kernel_rfl) rfl (by kernel_rfl) (by kernel_rfl)) ?_)
    | (refine And.intro rfl (Exists.intro _ (And.intro (by first | assumption | rfl) ?_)))
    | (refine And.intro ⟨rfl, rfl, rfl⟩ ?_)
    | (refine call_frz 0 rfl (frz_row (by rfl) (by rfl)) ?_; refine call_ro [] (copy_zz [d] _ (by simp) (fun y hy => by rw [List.mem_singleton.1 hy]; exact hf)) GG_no rfl rfl rfl trivial ?_; rintro r bs' ext ⟨⟨c', hc', rfl⟩, rfl⟩)
    | (refine And.intro ⟨by simp, by simp⟩ (Exists.intro _ (And.intro (by rfl) ?_)))
    | (refine fun (caps : Nat → Nat) hcaps => ?_; conv at hcaps => whnf)
    | (refine BB.mk (fun _h => ?_) (fun _h => ?_) <;> (first | (exact absurd _h (by decide)) | (exfalso; simp only [boolSet] at _h <;> omega) | (simp only [boolSet] at _h) | skip))
    | (refine And.intro (by omega) ?_)
    | (refine BB.mk (fun _h => ?_) (fun _h => ?_) <;> (first | (exact absurd _h (by decide)) | (exfalso; simp only [boolSet] at _h <;> omega) | skip)))
  all_goals (try conv => whnf)
  all_goals first
    | exact ⟨_, _, FrzV.refl _ _, rfl, rfl, fun _ => rfl, _, by simpa using hcaps.1, rfl⟩
    | trace_state
set_option maxRecDepth 100000 in
set_option maxHeartbeats 4000000 in
theorem nearer1_z (a b h : Int) : FnOK Try.prog GG 33 [.cst 24 [.v (.int .u16 h)]] [.v (.int .u16 a), .v (.int .u16 b), .p (.o 0) 0 0 0] (fun r bs' ext => bs' = [.cst 24 [.v (.int .u16 h)]] ∧ (r = .v (.bool (decide (farI h a < farI h b)))) ∧ ext = []) := by
  refine FnOK.pureB GG_no (fun _ _ => ⟨.inl rfl, trivial⟩) (fn_intro (C := seat) seat_ok [(1, (.of [(0, .take), (1, .take), (3, .take), (4, .take), (2, .do_), (5, .do_), (6, .take), (7, .take)]))] GG_no (Try.func33) rfl rfl rfl rfl rfl ?_)
  repeat' ((try conv => whnf); first
    | (with_reducible refine OKv.go (C := seat) seat_ok ?_)
    | (with_reducible refine BB_true ?_)
    | (with_reducible refine BB_false ?_)
    | (with_reducible refine Both.mk ?_ ?_)
    | (with_reducible refine VS.mk ?_)
    | (refine PSem.go (C := seat) seat_ok ?_)
    | (refine And.intro (PlanOK.mk (by kernel_rfl) rfl (by kernel_rfl) (by kernel_rfl)) ?_)
    | (refine And.intro rfl (Exists.intro _ (And.intro (by first | assumption | rfl) ?_)))
    | (refine And.intro ⟨rfl, rfl, rfl⟩ ?_)
    | (refine call_ro [] (far_z _ _) GG_no rfl rfl rfl trivial ?_; rintro r bs' ext ⟨rfl, rfl⟩)
    | (refine BB.mk (fun _h => ?_) (fun _h => ?_) <;> (first | (exact absurd _h (by decide)) | (exfalso; simp only [boolSet] at _h <;> omega) | (simp only [boolSet] at _h) | skip))
    | (refine And.intro (by omega) ?_)
    | (refine BB.mk (fun _h => ?_) (fun _h => ?_) <;> (first | (exact absurd _h (by decide)) | (exfalso; simp only [boolSet] at _h <;> omega) | skip)))
  all_goals (try conv => whnf)
  all_goals first
    | exact ⟨_, _, FrzV.refl _ _, rfl, rfl, fun _ => rfl, rfl⟩
    | trace_state
set_option maxRecDepth 100000 in
set_option maxHeartbeats 4000000 in
theorem nearer2_z (a b h : Int) : FnOK Try.prog GG 34 [.cst 24 [.v (.int .u16 h)]] [.v (.int .u16 a), .v (.int .u16 b), .p (.o 0) 0 0 0] (fun r bs' ext => bs' = [.cst 24 [.v (.int .u16 h)]] ∧ (r = .v (.bool (decide (farI a h < farI b h)))) ∧ ext = []) := by
  refine FnOK.pureB GG_no (fun _ _ => ⟨.inl rfl, trivial⟩) (fn_intro (C := seat) seat_ok [(1, (.of [(0, .take), (1, .take), (3, .take), (4, .take), (2, .do_), (5, .do_), (6, .take), (7, .take)]))] GG_no (Try.func34) rfl rfl rfl rfl rfl ?_)
  repeat' ((try conv => whnf); first
    | (with_reducible refine OKv.go (C := seat) seat_ok ?_)
    | (with_reducible refine BB_true ?_)
    | (with_reducible refine BB_false ?_)
    | (with_reducible refine Both.mk ?_ ?_)
    | (with_reducible refine VS.mk ?_)
    | (refine PSem.go (C := seat) seat_ok ?_)
    | (refine And.intro (PlanOK.mk (by kernel_rfl) rfl (by kernel_rfl) (by kernel_rfl)) ?_)
    | (refine And.intro rfl (Exists.intro _ (And.intro (by first | assumption | rfl) ?_)))
    | (refine And.intro ⟨rfl, rfl, rfl⟩ ?_)
    | (refine call_ro [] (far_z _ _) GG_no rfl rfl rfl trivial ?_; rintro r bs' ext ⟨rfl, rfl⟩)
    | (refine BB.mk (fun _h => ?_) (fun _h => ?_) <;> (first | (exact absurd _h (by decide)) | (exfalso; simp only [boolSet] at _h <;> omega) | (simp only [boolSet] at _h) | skip))
    | (refine And.intro (by omega) ?_)
    | (refine BB.mk (fun _h => ?_) (fun _h => ?_) <;> (first | (exact absurd _h (by decide)) | (exfalso; simp only [boolSet] at _h <;> omega) | skip)))
  all_goals (try conv => whnf)
  all_goals first
    | exact ⟨_, _, FrzV.refl _ _, rfl, rfl, fun _ => rfl, rfl⟩
    | trace_state
end Go.Proofs.Ytocappiebmmpgaa
