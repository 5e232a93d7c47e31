/- Package ring: nearest. -/
import Derived.Test.YtocappiebmmpgaaT13d
import Derived.Test.YtocappiebmmpgaaZH
namespace Go.Proofs.Ytocappiebmmpgaa
open Go.RowKit

def bst (f : De → De → Bool) (b : De) (l : List De) : De := l.foldl (fun b d => if f d b then d else b) b
theorem bst_succ {f : De → De → Bool} {b : De} {l : List De} {k : Nat} {d : De} (h : l[k]? = some d) : bst f b (l.take (k + 1)) = if f d (bst f b (l.take k)) then d else bst f b (l.take k) := by
  unfold bst
  rw [List.take_add_one, h, List.foldl_append]; rfl
theorem bst_mem {f : De → De → Bool} (l : List De) : ∀ (b : De), bst f b l = b ∨ bst f b l ∈ l := by
  induction l with
  | nil => intro b; exact .inl rfl
  | cons d l ih =>
    intro b
    show bst f (if f d b then d else b) l = b ∨ bst f (if f d b then d else b) l ∈ d :: l
    rcases ih (if f d b then d else b) with h | h
    · rw [h]
      split
      · exact .inr List.mem_cons_self
      · exact .inl rfl
    · exact .inr (List.mem_cons_of_mem _ h)
set_option maxRecDepth 100000 in
set_option maxHeartbeats 4000000 in
theorem nearest_z (g : Nat) (near : Int → Int → Bool) (h : Int) (hg : ∀ a b, FnOK Try.prog GG g [.cst 24 [.v (.int .u16 h)]] [.v (.int .u16 a), .v (.int .u16 b), .p (.o 0) 0 0 0] (fun r bs' ext => bs' = [.cst 24 [.v (.int .u16 h)]] ∧ (r = .v (.bool (near a b))) ∧ ext = [])) (s : List Sp) (l : List De) (cs cl : Nat) (hs : s.length ≤ 9223372036854775807) (hl : l.length ≤ 1099511627776) (hf : FlOk l) (hn : ∀ y ∈ l, 0 ≤ y.node ∧ y.node ≤ 255) (x : De) (hx : l[0]? = some x) : FnOK Try.prog GG 32 [.box 24 [.v (.int .u16 h)]] [.z 2 (s.map spC) cs, .z 4 (l.map deC) cl, .fn g [.p (.o 0) 0 0 0]] (fun r bs' ext => bs' = [.box 24 [.v (.int .u16 h)]] ∧ (∃ c', (bst (fun d b => near (placeI s d) (placeI s b)) x l).fl.length ≤ c' ∧ r = deS (bst (fun d b => near (placeI s d) (placeI s b)) x l) c') ∧ ext = []) := by
  have hlm : (l.map deC).length = l.length := List.length_map _
  have hx0 := zde13 (k := 0) hx
  have hlen : 0 < l.length := (List.getElem?_eq_some_iff.1 hx).1
  refine FnOK.pureB GG_no (fun _ _ => ⟨rfl, trivial⟩) (fn_intro (C := seat) seat_ok [(5, (.of [(0, .take), (1, .take), (2, .take), (4, .take), (5, .take), (3, .do_), (6, .do_), (7, .do_)]))] GG_no (Try.func32) rfl rfl rfl rfl rfl ?_)
  repeat' ((try conv => whnf); first
    | (with_reducible refine OKv.go (C := seat) seat_ok ?_)
    | (with_reducible refine BB_true ?_)
    | (with_reducible refine BB_false ?_)
    | (with_reducible refine Both.mk ?_ ?_)
    | (with_reducible refine VS.mk ?_)
    | (refine PSem.go (C := seat) seat_ok ?_)
    | (refine And.intro (PlanOK.mk (by kernel_rfl) rfl (by kernel_rfl) (by kernel_rfl)) ?_)
    | (refine And.intro rfl (Exists.intro _ (And.intro (by first | assumption | rfl) ?_)))
    | (refine And.intro ⟨rfl, rfl, rfl⟩ ?_)
    | (refine And.intro ⟨by omega, by omega⟩ (Exists.intro _ (And.intro (by assumption) ?_)))
    | (refine fun (caps : Nat → Nat) hcaps => ?_; conv at hcaps => whnf)
    | (refine BB.mk (fun _h => ?_) (fun _h => ?_) <;> (first | (exact absurd _h (by decide)) | (exfalso; simp only [boolSet, hlm] at _h <;> omega) | (simp only [boolSet, hlm] at _h) | skip))
    | (refine And.intro (by omega) ?_)
    | (refine BB.mk (fun _h => ?_) (fun _h => ?_) <;> (first | (exact absurd _h (by decide)) | (exfalso; simp only [boolSet] at _h <;> omega) | skip)))
  all_goals (try conv => whnf)
  refine loop_rule (α := Nat × Nat) (fun p => p.1 ≤ l.length ∧ (bst (fun d b => near (placeI s d) (placeI s b)) x (l.take p.1)).fl.length ≤ p.2) (fun p => { slots := [(0, .z 2 (s.map spC) cs), (2, .fn g [.p (.o 0) 0 0 0]), (7, .p (.n 1) 0 0 0), (6, .p (.n 0) 0 0 0), (13, .z 4 (l.map deC) cl), (14, .v (.int .i64 (l.map deC).length)), (15, .v (.int .i64 (p.1 : Int)))], nt := 30, mem := ⟨GG, [.box 24 [.v (.int .u16 h)]], [.box 27 [.v (.int .u8 0), .v (.int .u16 0), .v (.int .u8 0), .v (.slice none 0 0)], .box 27 [.v (.int .u8 (bst (fun d b => near (placeI s d) (placeI s b)) x (l.take p.1)).node), .v (.int .u16 (bst (fun d b => near (placeI s d) (placeI s b)) x (l.take p.1)).inc), .v (.int .u8 (bst (fun d b => near (placeI s d) (placeI s b)) x (l.take p.1)).age), .z 2 ((bst (fun d b => near (placeI s d) (placeI s b)) x (l.take p.1)).fl.map spC) p.2]]⟩ }) (fun p => l.length - p.1) (0, _) ⟨Nat.zero_le _, by simpa [bst] using hcaps.1⟩ ⟨⟨[0, 1], by decide, GG_no, rfl, ⟨rfl, trivial⟩, ⟨rfl, rfl, trivial⟩, ⟨.inl rfl, .inl rfl, .inl rfl, .inl rfl, .inl rfl, .inl rfl, .inl rfl, trivial⟩⟩, rfl⟩ ?_ (fun _ => rfl)
  rintro ⟨k, c⟩ ⟨hk, hc⟩
  dsimp only at hk hc ⊢
  refine vc_sound (C := seat) seat_ok (pl := [(5, (.of [(0, .take), (1, .take), (2, .take), (4, .take), (5, .take), (3, .do_), (6, .do_), (7, .do_)]))]) ?_
  obtain ⟨b, hb⟩ : ∃ b, (bst (fun d b => near (placeI s d) (placeI s b)) x (l.take k)) = b := ⟨_, rfl⟩
  have hbm : b ∈ l := by
    rcases bst_mem (f := fun d b => near (placeI s d) (placeI s b)) (l.take k) x with h1 | h1
    · rw [hb] at h1
      rw [h1]
      exact List.mem_of_getElem? hx
    · rw [hb] at h1
      exact List.mem_of_mem_take h1
  rw [hb] at hc ⊢
  by_cases hlt : k < l.length
  · obtain ⟨d, hd⟩ : ∃ d, l[k]? = some d := ⟨_, List.getElem?_eq_getElem hlt⟩
    have hrow := zde13 hd
    have hdm := List.mem_of_getElem? hd
    have hsu := bst_succ (f := fun d b => near (placeI s d) (placeI s b)) (b := x) hd
    rw [hb] at hsu
    cases hnr : near (placeI s d) (placeI s b)
    all_goals
      simp only [hnr, if_true, Bool.false_eq_true, if_false] at hsu
      repeat' ((try conv => whnf); first
        | (with_reducible refine OKv.go (C := seat) seat_ok ?_)
        | (with_reducible refine BB_true ?_)
        | (with_reducible refine BB_false ?_)
        | (with_reducible refine Both.mk ?_ ?_)
        | (with_reducible refine VS.mk ?_)
        | (refine PSem.go (C := seat) seat_ok ?_)
        | (refine And.intro (PlanOK.mk (by kernel_rfl) rfl (by kernel_rfl) (by kernel_rfl)) ?_)
        | (refine And.intro rfl (Exists.intro _ (And.intro (by first | assumption | rfl) ?_)))
        | (refine And.intro ⟨rfl, rfl, rfl⟩ ?_)
        | (refine call_ro [] (place_r s d _ _ hs (Nat.le_trans (hf d hdm) (by decide)) (hn d hdm)) GG_no rfl rfl rfl trivial ?_; rintro r bs' ext ⟨rfl, rfl⟩)
        | (refine call_ro [] (place_r s b _ _ hs (Nat.le_trans (hf b hbm) (by decide)) (hn b hbm)) GG_no rfl rfl rfl trivial ?_; rintro r bs' ext ⟨rfl, rfl⟩)
        | (refine call_roZ [.o 0] (hg (placeI s d) (placeI s b)) GG_no rfl rfl rfl ⟨⟨_, rfl, _, _, rfl, cellsZ_v cellsZ_nil, rfl⟩, trivial⟩ ?_; rintro r bs' ext ⟨rfl, rfl, rfl⟩)
        | (refine And.intro ⟨by omega, by omega⟩ (Exists.intro _ (And.intro (by assumption) ?_)))
        | (refine fun (caps : Nat → Nat) hcaps => ?_; conv at hcaps => whnf)
        | (refine BB.mk (fun _h => ?_) (fun _h => ?_) <;> (first | (exact absurd _h (by decide)) | (exfalso; simp only [boolSet, hlm, hnr] at _h <;> omega) | (simp only [boolSet, hlm, hnr] at _h) | skip))
        | (refine And.intro (by omega) ?_)
        | (refine BB.mk (fun _h => ?_) (fun _h => ?_) <;> (first | (exact absurd _h (by decide)) | (exfalso; simp only [boolSet] at _h <;> omega) | skip)))
      all_goals (try conv => whnf)
      all_goals first
        | exact ⟨(k + 1, c), ⟨by dsimp only; omega, by dsimp only; rw [hsu]; first | exact hc | simpa using hcaps.1⟩, by dsimp only; omega, ⟨⟨[0, 1], by decide, GG_no, rfl, ⟨rfl, trivial⟩, ⟨rfl, by dsimp only; rw [hsu]; rfl, trivial⟩, ⟨.inl rfl, .inl rfl, .inl rfl, .inl rfl, .inl rfl, .inl rfl, .inl (num_eq (by rw [IntKind.wrap_i64]; omega)), trivial⟩⟩, rfl⟩⟩
        | exact ⟨(k + 1, _), ⟨by dsimp only; omega, by dsimp only; rw [hsu]; first | exact hc | simpa using hcaps.1⟩, by dsimp only; omega, ⟨⟨[0, 1], by decide, GG_no, rfl, ⟨rfl, trivial⟩, ⟨rfl, by dsimp only; rw [hsu]; rfl, trivial⟩, ⟨.inl rfl, .inl rfl, .inl rfl, .inl rfl, .inl rfl, .inl rfl, .inl (num_eq (by rw [IntKind.wrap_i64]; omega)), trivial⟩⟩, rfl⟩⟩
        | trace_state
  · obtain rfl : k = l.length := by omega
    have htk : bst (fun d b => near (placeI s d) (placeI s b)) x l = b := by rw [← hb, List.take_length]
    repeat' ((try conv => whnf); first
      | (with_reducible refine OKv.go (C := seat) seat_ok ?_)
      | (with_reducible refine BB_true ?_)
      | (with_reducible refine BB_false ?_)
      | (with_reducible refine Both.mk ?_ ?_)
      | (with_reducible refine VS.mk ?_)
      | (refine PSem.go (C := seat) seat_ok ?_)
      | (refine And.intro (PlanOK.mk (by kernel_rfl) rfl (by kernel_rfl) (by kernel_rfl)) ?_)
      | (refine And.intro rfl (Exists.intro _ (And.intro (by first | assumption | rfl) ?_)))
      | (refine And.intro ⟨rfl, rfl, rfl⟩ ?_)
      | (refine fun (caps : Nat → Nat) hcaps => ?_; conv at hcaps => whnf)
      | (refine BB.mk (fun _h => ?_) (fun _h => ?_) <;> (first | (exact absurd _h (by decide)) | (exfalso; simp only [boolSet, hlm] at _h <;> omega) | (simp only [boolSet, hlm] at _h) | skip))
      | (refine And.intro (by omega) ?_)
      | (refine BB.mk (fun _h => ?_) (fun _h => ?_) <;> (first | (exact absurd _h (by decide)) | (exfalso; simp only [boolSet] at _h <;> omega) | skip)))
    all_goals (try conv => whnf)
    all_goals first
      | exact ⟨_, _, FrzV.refl _ _, rfl, rfl, fun _ => rfl, c, by rw [htk]; exact hc, by rw [htk]⟩
      | trace_state
def succD (s : List Sp) (h : Int) (x : De) (l : List De) : De := bst (fun d b => decide (farI h (placeI s d) < farI h (placeI s b))) x l
def predD (s : List Sp) (h : Int) (x : De) (l : List De) : De := bst (fun d b => decide (farI (placeI s d) h < farI (placeI s b) h)) x l
abbrev ringS (a b : Bool) (x y : De) (c d : Nat) : SV := .agg [.v (.bool a), .v (.bool b), .v (.int .u8 x.node), .v (.int .u16 x.inc), .v (.int .u8 x.age), .z 2 (x.fl.map spC) c, .v (.int .u8 y.node), .v (.int .u16 y.inc), .v (.int .u8 y.age), .z 2 (y.fl.map spC) d]
theorem bst_in {f : De → De → Bool} {l : List De} {x : De} (hx : l[0]? = some x) : bst f x l ∈ l := by
  rcases bst_mem (f := f) l x with h | h
  · rw [h]
    exact List.mem_of_getElem? hx
  · exact h
theorem vok_nodes {self : Int} {ls : List (List De)} (h : ∀ l ∈ ls, ∀ y ∈ l, 0 ≤ y.node ∧ y.node ≤ 255) : ∀ y ∈ uniLL self [] ls, 0 ≤ y.node ∧ y.node ≤ 255 := by
  have one : ∀ (l : List De) (o : List De), (∀ y ∈ o, 0 ≤ y.node ∧ y.node ≤ 255) → (∀ y ∈ l, 0 ≤ y.node ∧ y.node ≤ 255) → ∀ y ∈ uniL self o l, 0 ≤ y.node ∧ y.node ≤ 255 := by
    intro l
    induction l with
    | nil => intro o h1 _; exact h1
    | cons d l ih =>
      intro o h1 h2
      exact ih _ (fun y hy => by
        rcases put_mem hy with rfl | h3
        · exact h2 _ List.mem_cons_self
        · exact h1 y h3) (fun y hy => h2 y (List.mem_cons_of_mem _ hy))
  have all : ∀ (ls : List (List De)) (o : List De), (∀ y ∈ o, 0 ≤ y.node ∧ y.node ≤ 255) → (∀ l ∈ ls, ∀ y ∈ l, 0 ≤ y.node ∧ y.node ≤ 255) → ∀ y ∈ uniLL self o ls, 0 ≤ y.node ∧ y.node ≤ 255 := by
    intro ls
    induction ls with
    | nil => intro o h1 _; exact h1
    | cons l ls ih =>
      intro o h1 h2
      exact ih _ (one l o h1 (h2 l List.mem_cons_self)) (fun l' hl' => h2 l' (List.mem_cons_of_mem _ hl'))
  exact all ls [] (fun y hy => absurd hy List.not_mem_nil) h
theorem union_k (self : Int) (ls : List (List De)) (c : Nat) (hls : ls.length ≤ 1099511627776) (hll : ∀ l ∈ ls, l.length ≤ 1099511627776) (hlf : ∀ l ∈ ls, FlOk l) (K : List De) (hK : uniLL self [] ls = K) : FnOK Try.prog GG 26 [] [.v (.int .u8 self), .z 1 (ls.map liC) c] (fun r _ ext => (∃ c', K.length ≤ c' ∧ r = .z 4 (K.map deC) c') ∧ ext = []) := hK ▸ union_z self ls c hls hll hlf
set_option maxRecDepth 100000 in
set_option maxHeartbeats 4000000 in
theorem choose_none (s : List Sp) (d : De) (ls : List (List De)) (cs cd c : Nat) (hs : s.length ≤ 9223372036854775807) (hd : 0 ≤ d.node ∧ d.node ≤ 255) (hdf : d.fl.length ≤ 9223372036854775807) (hls : ls.length ≤ 1099511627776) (hll : ∀ l ∈ ls, l.length ≤ 1099511627776) (hlf : ∀ l ∈ ls, FlOk l) (hln : ∀ l ∈ ls, ∀ y ∈ l, 0 ≤ y.node ∧ y.node ≤ 255) (K : List De) (hK : uniLL d.node [] ls = K) (h0 : K.length = 0) : FnOK Try.prog GG 12 [] [.z 2 (s.map spC) cs, deS d cd, .z 1 (ls.map liC) c] (fun r _ ext => (r = ringS false false ⟨0, 0, 0, []⟩ ⟨0, 0, 0, []⟩ 0 0) ∧ ext = []) := by
  refine FnOK.pure GG_no rfl (fn_intro (C := seat) seat_ok [(7, (.of [(0, .take), (2, .take), (1, .do_), (3, .do_), (4, .take), (5, .last)]))] GG_no (Try.func12) rfl rfl rfl rfl rfl ?_)
  repeat' ((try conv => whnf); first
    | (with_reducible refine OKv.go (C := seat) seat_ok ?_)
    | (with_reducible refine BB_true ?_)
    | (with_reducible refine BB_false ?_)
    | (with_reducible refine Both.mk ?_ ?_)
    | (with_reducible refine VS.mk ?_)
    | (refine PSem.go (C := seat) seat_ok ?_)
    | (refine And.intro (PlanOK.mk (by kernel_rfl) rfl (by kernel_rfl) (by kernel_rfl)) ?_)
    | (refine And.intro rfl (Exists.intro _ (And.intro (by first | assumption | rfl) ?_)))
    | (refine And.intro ⟨rfl, rfl, rfl⟩ ?_)
    | (refine call_ro [] (union_k d.node ls c hls hll hlf K hK) GG_no rfl rfl rfl trivial ?_; rintro r bs' ext ⟨⟨c', hc', rfl⟩, rfl⟩)
    | (refine fun (caps : Nat → Nat) hcaps => ?_; conv at hcaps => whnf)
    | (refine BB.mk (fun _h => ?_) (fun _h => ?_) <;> (first | (exact absurd _h (by decide)) | (exfalso; simp only [boolSet, List.length_map] at _h <;> omega) | (simp only [boolSet, List.length_map] at _h) | skip))
    | (refine And.intro (by omega) ?_)
    | (refine BB.mk (fun _h => ?_) (fun _h => ?_) <;> (first | (exact absurd _h (by decide)) | (exfalso; simp only [boolSet] at _h <;> omega) | skip)))
  all_goals (try conv => whnf)
  all_goals exact ⟨_, _, (FrzV.trans (frz_aggT 5 (by rfl) (frz_nil _ 2) (by rfl)) (frz_aggT 9 (by rfl) (frz_nil _ 2) (by rfl))), rfl, rfl, fun _ => rfl, rfl⟩
set_option maxRecDepth 100000 in
set_option maxHeartbeats 4000000 in
theorem choose_some (s : List Sp) (d : De) (ls : List (List De)) (cs cd c : Nat) (hs : s.length ≤ 9223372036854775807) (hd : 0 ≤ d.node ∧ d.node ≤ 255) (hdf : d.fl.length ≤ 9223372036854775807) (hls : ls.length ≤ 1099511627776) (hll : ∀ l ∈ ls, l.length ≤ 1099511627776) (hlf : ∀ l ∈ ls, FlOk l) (hln : ∀ l ∈ ls, ∀ y ∈ l, 0 ≤ y.node ∧ y.node ≤ 255) (K : List De) (hK : uniLL d.node [] ls = K) (hK2 : K.length ≤ 1099511627776) (hKf : FlOk K) (hKn : ∀ y ∈ K, 0 ≤ y.node ∧ y.node ≤ 255) (x : De) (hx : K[0]? = some x) : FnOK Try.prog GG 12 [] [.z 2 (s.map spC) cs, deS d cd, .z 1 (ls.map liC) c] (fun r _ ext => (∃ c1 c2, (succD s (placeI s d) x K).fl.length ≤ c1 ∧ (predD s (placeI s d) x K).fl.length ≤ c2 ∧ r = ringS true true (succD s (placeI s d) x K) (predD s (placeI s d) x K) c1 c2) ∧ ext = []) := by
  have hlen : 0 < K.length := (List.getElem?_eq_some_iff.1 hx).1
  refine FnOK.pure GG_no rfl (fn_intro (C := seat) seat_ok [(7, (.of [(0, .take), (2, .take), (1, .do_), (3, .do_), (4, .take), (5, .last)]))] GG_no (Try.func12) rfl rfl rfl rfl rfl ?_)
  repeat' ((try conv => whnf); first
    | (with_reducible refine OKv.go (C := seat) seat_ok ?_)
    | (with_reducible refine BB_true ?_)
    | (with_reducible refine BB_false ?_)
    | (with_reducible refine Both.mk ?_ ?_)
    | (with_reducible refine VS.mk ?_)
    | (refine PSem.go (C := seat) seat_ok ?_)
    | (refine And.intro (PlanOK.mk (by kernel_rfl) rfl (by kernel_rfl) (by kernel_rfl)) ?_)
    | (refine And.intro rfl (Exists.intro _ (And.intro (by first | assumption | rfl) ?_)))
    | (refine And.intro ⟨rfl, rfl, rfl⟩ ?_)
    | (refine call_ro [] (union_k d.node ls c hls hll hlf K hK) GG_no rfl rfl rfl trivial ?_; rintro r bs' ext ⟨⟨c', hc', rfl⟩, rfl⟩)
    | (refine call_ro [] (place_r s d _ _ hs hdf hd) GG_no rfl rfl rfl trivial ?_; rintro r bs' ext ⟨rfl, rfl⟩)
    | (refine call_same [.n 2] (nearest_z 33 (fun a b => decide (farI (placeI s d) a < farI (placeI s d) b)) (placeI s d) (fun a b => nearer1_z a b (placeI s d)) s K cs _ hs (by omega) hKf hKn x hx) GG_no rfl rfl rfl ⟨⟨_, rfl, .inr ⟨(fun _ h => by cases h), rfl⟩⟩, trivial⟩ (by decide) ?_; rintro r bs' ext ⟨rfl, ⟨c1, hc1, rfl⟩, rfl⟩; refine And.intro rfl ?_)
    | (refine call_same [.n 2] (nearest_z 34 (fun a b => decide (farI a (placeI s d) < farI b (placeI s d))) (placeI s d) (fun a b => nearer2_z a b (placeI s d)) s K cs _ hs (by omega) hKf hKn x hx) GG_no rfl rfl rfl ⟨⟨_, rfl, .inr ⟨(fun _ h => by cases h), rfl⟩⟩, trivial⟩ (by decide) ?_; rintro r bs' ext ⟨rfl, ⟨c2, hc2, rfl⟩, rfl⟩; refine And.intro rfl ?_)
    | (refine call_ro [] (own_z (succD s (placeI s d) x K) _ (hKf _ (bst_in hx))) GG_no rfl rfl rfl trivial ?_; rintro r bs' ext ⟨⟨c3, hc3, rfl⟩, rfl⟩)
    | (refine call_ro [] (own_z (predD s (placeI s d) x K) _ (hKf _ (bst_in hx))) GG_no rfl rfl rfl trivial ?_; rintro r bs' ext ⟨⟨c4, hc4, rfl⟩, rfl⟩)
    | (refine fun (caps : Nat → Nat) hcaps => ?_; conv at hcaps => whnf)
    | (refine BB.mk (fun _h => ?_) (fun _h => ?_) <;> (first | (exact absurd _h (by decide)) | (exfalso; simp only [boolSet, List.length_map] at _h <;> omega) | (simp only [boolSet, List.length_map] at _h) | skip))
    | (refine And.intro (by omega) ?_)
    | (refine BB.mk (fun _h => ?_) (fun _h => ?_) <;> (first | (exact absurd _h (by decide)) | (exfalso; simp only [boolSet] at _h <;> omega) | skip)))
  all_goals (try conv => whnf)
  all_goals first
    | exact ⟨_, _, FrzV.refl _ _, rfl, rfl, fun _ => rfl, _, _, (by assumption), (by assumption), rfl⟩
    | trace_state
end Go.Proofs.Ytocappiebmmpgaa
