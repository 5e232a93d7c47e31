/- Law CyclonAsk. -/
import Derived.Test.YtccegmbklgmgnaaY10h
namespace Go.Proofs.Ytccegmbklgmgnaa
open Go.RowKit

theorem frz_zz {m : Mem} {sz cap : Nat} {els els' : List (List CV)} (h : els = els') : FrzV m (.z sz els cap) (.z sz els' cap) m := h ▸ FrzV.refl _ _
theorem pick_bound {many : Int} (h : 0 ≤ many) (draws : List Int) (l : List De) : ∀ k, ((pickN many draws l k).2.length : Int) ≤ many
  | 0 => h
  | k + 1 => by
    have ih := pick_bound h draws l k
    rw [pickN]
    split
    · unfold pickS
      split
      · exact ih
      · rename_i hs
        split
        · simp only [List.length_append, List.length_cons, List.length_nil]
          omega
        · exact ih
    · exact ih
theorem place_is {l : List De} {a : Nat} {y : De} (hr : Rising l) (h : l[a]? = some y) : findZ y.node l = (a : Int) := by
  have hz := rising_at hr (List.mem_of_getElem? h) rfl
  have : placeN y.node l = a := by
    refine (List.getElem?_inj (getElem?_lt hz) ?_).1 (hz.trans h.symm)
    exact hr.imp fun {p q} (h : p.node < q.node) (e : p = q) => by subst e; omega
  rw [← this]
  exact find_at hz rfl
set_option maxRecDepth 100000 in
set_option maxHeartbeats 4000000 in
theorem aFew1 (l : List De) (cl : Nat) (self age many : Int) (draws : List Int) (cr : Nat) (hl : l.length ≤ 9223372036854775807) (hdl : draws.length ≤ 9223372036854775807) (hok : ∀ y ∈ l, DeOk y) (hdr : ∀ y ∈ draws, 0 ≤ y ∧ y ≤ 4294967295) (hm : -9223372036854775808 ≤ many ∧ many ≤ 9223372036854775807) (h1 : (l.all (fun d => decide (d.fl.length ≤ 8)) && decide (l.length ≤ 20)) = false) : FnOK Try.prog GG 6 [] [.z 4 (l.map deC) cl, .v (.int .u8 self), .v (.int .u8 age), .v (.int .i64 many), .z 1 (draws.map u4C) cr] (fun r _ ext => (r = .v (.bool true)) ∧ ext = []) := by
  refine FnOK.pure GG_no rfl (fn_intro (C := seat) seat_ok [(13, (.of [(0, .take), (1, .take), (2, .take), (3, .take), (4, .take), (5, .take), (6, .take), (7, .do_), (8, .do_), (9, .take), (10, .do_), (11, .take), (12, .take)]))] GG_no (Try.func6) rfl rfl rfl rfl rfl ?_)
  repeat' ((try conv => whnf); first
    | (with_reducible refine OKv.go (C := seat) seat_ok ?_)
    | (with_reducible refine BB_true ?_)
    | (with_reducible refine BB_false ?_)
    | (with_reducible refine Both.mk ?_ ?_)
    | (with_reducible refine VS.mk ?_)
    | (refine PSem.go (C := seat) seat_ok ?_)
    | (refine And.intro (PlanOK.mk (by kernel_rfl) rfl (by kernel_rfl) (by kernel_rfl)) ?_)
    | (refine And.intro rfl (Exists.intro _ (And.intro (by first | assumption | rfl) ?_)))
    | (refine And.intro ⟨rfl, rfl, rfl⟩ ?_)
    | (refine call_ro [] (few_zz l cl _ hl h1) GG_no rfl rfl rfl trivial ?_; rintro r bs' ext ⟨rfl, rfl⟩)
    | (refine call_ro [] (awake_ok) GG_no rfl rfl rfl trivial ?_; rintro r bs' ext ⟨rfl, rfl⟩)
    | (refine And.intro (by omega) ?_)
    | (refine BB.mk (fun _h => ?_) (fun _h => ?_) <;> (first | (exact absurd _h (by decide)) | (exfalso; simp only [boolSet] at _h <;> omega) | skip)))
  all_goals (try conv => whnf)
  exact ⟨_, _, FrzV.refl _ _, rfl, rfl, fun _ => rfl, rfl⟩
set_option maxRecDepth 100000 in
set_option maxHeartbeats 4000000 in
theorem aFew2 (l : List De) (cl : Nat) (self age many : Int) (draws : List Int) (cr : Nat) (hl : l.length ≤ 9223372036854775807) (hdl : draws.length ≤ 9223372036854775807) (hok : ∀ y ∈ l, DeOk y) (hdr : ∀ y ∈ draws, 0 ≤ y ∧ y ≤ 4294967295) (hm : -9223372036854775808 ≤ many ∧ many ≤ 9223372036854775807) (h1 : (l.all (fun d => decide (d.fl.length ≤ 8)) && decide (l.length ≤ 20)) = true) (h2 : 30 < draws.length) : FnOK Try.prog GG 6 [] [.z 4 (l.map deC) cl, .v (.int .u8 self), .v (.int .u8 age), .v (.int .i64 many), .z 1 (draws.map u4C) cr] (fun r _ ext => (r = .v (.bool true)) ∧ ext = []) := by
  have hdm : (draws.map u4C).length = draws.length := List.length_map _
  refine FnOK.pure GG_no rfl (fn_intro (C := seat) seat_ok [(13, (.of [(0, .take), (1, .take), (2, .take), (3, .take), (4, .take), (5, .take), (6, .take), (7, .do_), (8, .do_), (9, .take), (10, .do_), (11, .take), (12, .take)]))] GG_no (Try.func6) rfl rfl rfl rfl rfl ?_)
  repeat' ((try conv => whnf); first
    | (with_reducible refine OKv.go (C := seat) seat_ok ?_)
    | (with_reducible refine BB_true ?_)
    | (with_reducible refine BB_false ?_)
    | (with_reducible refine Both.mk ?_ ?_)
    | (with_reducible refine VS.mk ?_)
    | (refine PSem.go (C := seat) seat_ok ?_)
    | (refine And.intro (PlanOK.mk (by kernel_rfl) rfl (by kernel_rfl) (by kernel_rfl)) ?_)
    | (refine And.intro rfl (Exists.intro _ (And.intro (by first | assumption | rfl) ?_)))
    | (refine And.intro ⟨rfl, rfl, rfl⟩ ?_)
    | (refine call_ro [] (few_zz l cl _ hl h1) GG_no rfl rfl rfl trivial ?_; rintro r bs' ext ⟨rfl, rfl⟩)
    | (refine call_ro [] (awake_ok) GG_no rfl rfl rfl trivial ?_; rintro r bs' ext ⟨rfl, rfl⟩)
    | (refine BB.mk (fun _h => ?_) (fun _h => ?_) <;> (first | (exact absurd _h (by decide)) | (exfalso; simp only [boolSet] at _h <;> omega) | (simp only [boolSet] at _h) | skip))
    | (refine And.intro (by omega) ?_)
    | (refine BB.mk (fun _h => ?_) (fun _h => ?_) <;> (first | (exact absurd _h (by decide)) | (exfalso; simp only [boolSet] at _h <;> omega) | skip)))
  all_goals (try conv => whnf)
  exact ⟨_, _, FrzV.refl _ _, rfl, rfl, fun _ => rfl, rfl⟩
set_option maxRecDepth 100000 in
set_option maxHeartbeats 4000000 in
theorem aNo (l : List De) (cl : Nat) (self age many : Int) (draws : List Int) (cr : Nat) (hl : l.length ≤ 9223372036854775807) (hdl : draws.length ≤ 9223372036854775807) (hok : ∀ y ∈ l, DeOk y) (hdr : ∀ y ∈ draws, 0 ≤ y ∧ y ≤ 4294967295) (hm : -9223372036854775808 ≤ many ∧ many ≤ 9223372036854775807) (h1 : (l.all (fun d => decide (d.fl.length ≤ 8)) && decide (l.length ≤ 20)) = true) (h2 : draws.length ≤ 30) (hno : (viewN l self 20 256).length = 0 ∨ many < 1) : FnOK Try.prog GG 6 [] [.z 4 (l.map deC) cl, .v (.int .u8 self), .v (.int .u8 age), .v (.int .i64 many), .z 1 (draws.map u4C) cr] (fun r _ ext => (r = .v (.bool true)) ∧ ext = []) := by
  have hdm : (draws.map u4C).length = draws.length := List.length_map _
  obtain ⟨hf, hl20⟩ := few_facts h1
  have hV : VOk self 20 (viewN l self 20 256) := VOk.view (by decide) (fun y hy => (hok y hy).2.1.1)
  have hVf : FlOk (viewN l self 20 256) := view_fl hf
  have hVl := hV.len
  obtain ⟨v, hv⟩ : ∃ v, viewN l self 20 256 = v := ⟨_, rfl⟩
  rw [hv] at hV hVf hVl hno
  have hlv : (v.map deC).length = v.length := List.length_map _
  refine FnOK.pure GG_no rfl (fn_intro (C := seat) seat_ok [(13, (.of [(0, .take), (1, .take), (2, .take), (3, .take), (4, .take), (5, .take), (6, .take), (7, .do_), (8, .do_), (9, .take), (10, .do_), (11, .take), (12, .take)]))] GG_no (Try.func6) rfl rfl rfl rfl rfl ?_)
  repeat' ((try conv => whnf); first
    | (with_reducible refine OKv.go (C := seat) seat_ok ?_)
    | (with_reducible refine BB_true ?_)
    | (with_reducible refine BB_false ?_)
    | (with_reducible refine Both.mk ?_ ?_)
    | (with_reducible refine VS.mk ?_)
    | (refine PSem.go (C := seat) seat_ok ?_)
    | (refine And.intro (PlanOK.mk (by kernel_rfl) rfl (by kernel_rfl) (by kernel_rfl)) ?_)
    | (refine And.intro rfl (Exists.intro _ (And.intro (by first | assumption | rfl) ?_)))
    | (refine And.intro ⟨rfl, rfl, rfl⟩ ?_)
    | (refine call_ro [] (few_zz l cl _ hl h1) GG_no rfl rfl rfl trivial ?_; rintro r bs' ext ⟨rfl, rfl⟩)
    | (refine call_ro [] (view_eq l cl self 20 20 (by omega) (fun y hy => (hok y hy).1) v rfl hv) GG_no rfl rfl rfl trivial ?_; rintro r bs' ext ⟨⟨cv, hcv, rfl⟩, rfl⟩)
    | (refine call_frz 1 rfl (frz_aggT 3 rfl (frz_nil _ 2) rfl) ?_; refine call_ro [] (ask_no v cv ⟨self, 3, age, []⟩ _ many draws cr (by omega) hVf (Nat.zero_le _) (by omega) hdr hno) GG_no rfl rfl rfl trivial ?_; rintro r bs' ext ⟨rfl, rfl⟩)
    | (refine call_ro [] (awake_ok) GG_no rfl rfl rfl trivial ?_; rintro r bs' ext ⟨rfl, rfl⟩)
    | (refine BB.mk (fun _h => ?_) (fun _h => ?_) <;> (first | (exact absurd _h (by decide)) | (exfalso; simp only [boolSet] at _h <;> omega) | (simp only [boolSet] at _h) | skip))
    | (refine And.intro (by omega) ?_)
    | (refine BB.mk (fun _h => ?_) (fun _h => ?_) <;> (first | (exact absurd _h (by decide)) | (exfalso; simp only [boolSet] at _h <;> omega) | skip)))
  all_goals (try conv => whnf)
  all_goals first
    | exact ⟨_, _, FrzV.refl _ _, rfl, rfl, fun _ => rfl, rfl⟩
    | (exfalso; omega)
theorem ask_eq (l : List De) (cl : Nat) (d : De) (cd : Nat) (many : Int) (draws : List Int) (cr : Nat) (hl : l.length ≤ 20) (hf : FlOk l) (hd : d.fl.length ≤ 1099511627776) (hdl : draws.length ≤ 1000) (hdr : ∀ y ∈ draws, 0 ≤ y ∧ y ≤ 4294967295) (hm : 1 ≤ many ∧ many ≤ 9223372036854775807) (a : Nat) (y : De) (ha : oldAt l l.length = some a) (hy : l[a]? = some y) (o : List De) (ho : askL l d y many draws = o) : FnOK Try.prog GG 12 [] [.z 4 (l.map deC) cl, deS d cd, .v (.int .i64 many), .z 1 (draws.map u4C) cr] (fun r _ ext => (∃ c', o.length ≤ c' ∧ r = .tup [.v (.int .u8 y.node), .z 4 (o.map deC) c', .v (.bool true)]) ∧ ext = []) := by
  subst ho
  exact ask_ok l cl d cd many draws cr hl hf hd hdl hdr hm a y ha hy
theorem oth_fl {l : List De} (h : FlOk l) (x : Int) (k : Nat) : FlOk (othN l x k) := fun y hy => h y (List.mem_of_mem_take (List.mem_filter.1 hy).1)
theorem pick_mem {many : Int} {draws : List Int} {l : List De} : ∀ k, (∀ y ∈ (pickN many draws l k).1, y ∈ l) ∧ ∀ y ∈ (pickN many draws l k).2, y ∈ l
  | 0 => ⟨fun _ h => h, fun _ h => nomatch h⟩
  | k + 1 => by
    obtain ⟨h1, h2⟩ := pick_mem (many := many) (draws := draws) (l := l) k
    rw [pickN]
    split
    · unfold pickS
      split
      · exact ⟨h1, h2⟩
      · split
        · rename_i d hd
          refine ⟨fun y hy => h1 y (List.mem_of_mem_eraseIdx hy), fun y hy => ?_⟩
          rcases List.mem_append.1 hy with hy | hy
          · exact h2 y hy
          · obtain rfl := List.mem_singleton.1 hy
            exact h1 _ (List.mem_of_getElem? hd)
        · exact ⟨h1, h2⟩
    · exact ⟨h1, h2⟩
theorem pick_fl {many : Int} {draws : List Int} {l : List De} (h : FlOk l) (k : Nat) : FlOk (pickN many draws l k).2 := fun y hy => h y ((pick_mem k).2 y hy)
set_option maxRecDepth 100000 in
set_option maxHeartbeats 4000000 in
theorem aYes (l : List De) (cl : Nat) (self age many : Int) (draws : List Int) (cr : Nat) (hl : l.length ≤ 9223372036854775807) (hdl : draws.length ≤ 9223372036854775807) (hok : ∀ y ∈ l, DeOk y) (hdr : ∀ y ∈ draws, 0 ≤ y ∧ y ≤ 4294967295) (hm : -9223372036854775808 ≤ many ∧ many ≤ 9223372036854775807) (h1 : (l.all (fun d => decide (d.fl.length ≤ 8)) && decide (l.length ≤ 20)) = true) (h2 : draws.length ≤ 30) (hv0 : (viewN l self 20 256).length ≠ 0) (hm1 : 1 ≤ many) : FnOK Try.prog GG 6 [] [.z 4 (l.map deC) cl, .v (.int .u8 self), .v (.int .u8 age), .v (.int .i64 many), .z 1 (draws.map u4C) cr] (fun r _ ext => (r = .v (.bool true)) ∧ ext = []) := by
  have hdm : (draws.map u4C).length = draws.length := List.length_map _
  obtain ⟨hf, hl20⟩ := few_facts h1
  have hV : VOk self 20 (viewN l self 20 256) := VOk.view (by decide) (fun y hy => (hok y hy).2.1.1)
  have hVf : FlOk (viewN l self 20 256) := view_fl hf
  have hVl := hV.len
  obtain ⟨v, hv⟩ : ∃ v, viewN l self 20 256 = v := ⟨_, rfl⟩
  rw [hv] at hV hVf hVl hv0
  have hlv : (v.map deC).length = v.length := List.length_map _
  obtain ⟨a, y, ha, hy⟩ : ∃ a y, oldAt v v.length = some a ∧ v[a]? = some y := by
    rcases oldAt_spec v v.length (Nat.le_refl _) with ⟨h, _⟩ | ⟨a, y, h1, h2, _⟩
    · exact (hv0 h).elim
    · exact ⟨a, y, h1, h2⟩
  have hal := getElem?_lt hy
  have hw : IntKind.i64.wrap (many - 1) = many - 1 := by rw [IntKind.wrap_i64]; omega
  obtain ⟨P, hP⟩ : ∃ P, (pickN (many - 1) draws (othN v y.node v.length) draws.length).2 = P := ⟨_, rfl⟩
  have hPb := pick_bound (show 0 ≤ many - 1 by omega) draws (othN v y.node v.length) draws.length
  have hPl := (pick_len (many - 1) draws (othN v y.node v.length) draws.length).2
  have hPf : FlOk P := hP ▸ pick_fl (oth_fl hVf _ _) _
  rw [hP] at hPb hPl
  obtain ⟨S, hSc⟩ : ∃ S, meD ⟨self, 3, age, []⟩ :: P = S := ⟨_, rfl⟩
  have hS : askL v ⟨self, 3, age, []⟩ y many draws = S := by rw [← hSc, ← hP]; rfl
  have hSl : (S.map deC).length = P.length + 1 := by rw [← hSc]; simp
  have hrow0 : (S.map deC)[(0 : Int).toNat]? = some [.v (.int .u8 self), .v (.int .u16 3), .v (.int .u8 0), .z 2 []] := by rw [← hSc]; rfl
  have hdrop : ((S.map deC).drop (Int.toNat 1)).take ((((S.map deC).length : Nat) : Int).toNat - Int.toNat 1) = P.map deC := by
    rw [← hSc]
    simp [List.take_of_length_le]
  refine FnOK.pure GG_no rfl (fn_intro (C := seat) seat_ok [(13, (.of [(0, .take), (1, .take), (2, .take), (3, .take), (4, .take), (5, .take), (6, .take), (7, .do_), (8, .do_), (9, .take), (10, .do_), (11, .take), (12, .take)]))] GG_no (Try.func6) rfl rfl rfl rfl rfl ?_)
  repeat' ((try conv => whnf); first
    | (with_reducible refine OKv.go (C := seat) seat_ok ?_)
    | (with_reducible refine BB_true ?_)
    | (with_reducible refine BB_false ?_)
    | (with_reducible refine Both.mk ?_ ?_)
    | (with_reducible refine VS.mk ?_)
    | (refine PSem.go (C := seat) seat_ok ?_)
    | (refine And.intro (PlanOK.mk (by kernel_rfl) rfl (by kernel_rfl) (by kernel_rfl)) ?_)
    | (refine And.intro rfl (Exists.intro _ (And.intro (by first | assumption | rfl) ?_)))
    | (refine And.intro ⟨rfl, rfl, rfl⟩ ?_)
    | (refine call_ro [] (few_zz l cl _ hl h1) GG_no rfl rfl rfl trivial ?_; rintro r bs' ext ⟨rfl, rfl⟩)
    | (refine call_ro [] (view_eq l cl self 20 20 (by omega) (fun y hy => (hok y hy).1) v rfl hv) GG_no rfl rfl rfl trivial ?_; rintro r bs' ext ⟨⟨cv, hcv, rfl⟩, rfl⟩)
    | (refine call_frz 1 rfl (frz_aggT 3 rfl (frz_nil _ 2) rfl) ?_; refine call_ro [] (ask_eq v cv ⟨self, 3, age, []⟩ _ many draws cr (by omega) hVf (Nat.zero_le _) (by omega) hdr ⟨hm1, hm.2⟩ a y ha hy S hS) GG_no rfl rfl rfl trivial ?_; rintro r bs' ext ⟨⟨ca, hca, rfl⟩, rfl⟩)
    | (refine call_ro [] (find_zz v cv y.node (by omega) hV.rising (a : Int) (place_is hV.rising hy)) GG_no rfl rfl rfl trivial ?_; rintro r bs' ext ⟨rfl, rfl⟩)
    | (refine call_ro [] (oldest_zz v cv (a : Int) (by omega) (by rw [ha]; rfl)) GG_no rfl rfl rfl trivial ?_; rintro r bs' ext ⟨rfl, rfl⟩)
    | (refine call_ro [] (pick_eq v cv _ (many - 1) hw y.node draws cr (by omega) hVf (by omega) hdr P hP) GG_no rfl rfl rfl trivial ?_; rintro r bs' ext ⟨⟨cp, hcp, rfl⟩, rfl⟩)
    | (refine call_frz 0 rfl (frz_zz hdrop) ?_; refine call_ro [] (descs_zz P P _ _ (by omega) hPf true (by simp)) GG_no rfl rfl rfl trivial ?_; rintro r bs' ext ⟨rfl, rfl⟩)
    | (refine call_ro [] (awake_ok) GG_no rfl rfl rfl trivial ?_; rintro r bs' ext ⟨rfl, rfl⟩)
    | (refine And.intro (⟨by omega, by omega⟩ : _ ∧ _ < _) (Exists.intro _ (And.intro hrow0 ?_)))
    | (refine And.intro ⟨by omega, by simp only [List.length_map]; omega⟩ (Exists.intro _ (And.intro (by first | assumption | rfl) ?_)))
    | (refine fun (caps : Nat → Nat) hcaps => ?_; conv at hcaps => whnf)
    | (refine And.intro (⟨by omega, by omega, by omega⟩ : _ ∧ _ ≤ _ ∧ _ ≤ _) ?_)
    | (refine BB.mk (fun _h => ?_) (fun _h => ?_) <;> (first | (exact absurd _h (by decide)) | (exfalso; simp only [boolSet] at _h <;> omega) | (simp only [boolSet] at _h) | skip))
    | (refine And.intro (by omega) ?_)
    | (refine BB.mk (fun _h => ?_) (fun _h => ?_) <;> (first | (exact absurd _h (by decide)) | (exfalso; simp only [boolSet] at _h <;> omega) | skip)))
  all_goals (try conv => whnf)
  all_goals first
    | exact ⟨_, _, FrzV.refl _ _, rfl, rfl, fun _ => rfl, rfl⟩
    | (exfalso; omega)
theorem cyclonAsk_ok (l : List De) (cl : Nat) (self age many : Int) (draws : List Int) (cr : Nat) (hl : l.length ≤ 9223372036854775807) (hdl : draws.length ≤ 9223372036854775807) (hok : ∀ y ∈ l, DeOk y) (hdr : ∀ y ∈ draws, 0 ≤ y ∧ y ≤ 4294967295) (hm : -9223372036854775808 ≤ many ∧ many ≤ 9223372036854775807) : FnOK Try.prog GG 6 [] [.z 4 (l.map deC) cl, .v (.int .u8 self), .v (.int .u8 age), .v (.int .i64 many), .z 1 (draws.map u4C) cr] (fun r _ ext => r = .v (.bool true) ∧ ext = []) := by
  cases h1 : (l.all (fun d => decide (d.fl.length ≤ 8)) && decide (l.length ≤ 20)) with
  | false => exact aFew1 l cl self age many draws cr hl hdl hok hdr hm h1
  | true =>
    by_cases h2 : draws.length ≤ 30
    · by_cases hno : (viewN l self 20 256).length = 0 ∨ many < 1
      · exact aNo l cl self age many draws cr hl hdl hok hdr hm h1 h2 hno
      · exact aYes l cl self age many draws cr hl hdl hok hdr hm h1 h2 (fun h => hno (.inl h)) (by omega)
    · exact aFew2 l cl self age many draws cr hl hdl hok hdr hm h1 (by omega)
end Go.Proofs.Ytccegmbklgmgnaa
