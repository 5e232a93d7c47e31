/- Law SampleAdmit. -/
import Derived.Test.YtjghbfbifkhloaaW11h
namespace Go.Proofs.Ytjghbfbifkhloaa
open Go.RowKit

theorem put_len1 (l : List De) (d : De) (me room : Int) : (putP l d me room).1.length ≤ l.length + 1 := by
  rcases put_cases l d me room with ⟨e, _⟩ | ⟨e, _⟩ | ⟨z, e, _⟩
  · rw [e]; exact Nat.le_succ _
  · rw [e, insL_len _ _ _ (place_le _ _)]; exact Nat.le_refl _
  · rw [e, List.length_set]; exact Nat.le_succ _
theorem find_keep {l o : List De} (hr : Rising o) (h : ∀ y ∈ l, ∃ z ∈ o, z.node = y.node) {x : De} (hx : x ∈ l) : 0 ≤ findZ x.node o := by
  obtain ⟨z, hz, e⟩ := h x hx
  obtain ⟨k, hk⟩ := find_has hr hz e
  omega
theorem eraseIdx_mem {l : List De} {k i : Nat} {x : De} (h : l[i]? = some x) (hne : i ≠ k) : x ∈ l.eraseIdx k := by
  refine List.mem_iff_getElem?.2 ?_
  by_cases hik : i < k
  · exact ⟨i, by rw [List.getElem?_eraseIdx_of_lt hik]; exact h⟩
  · exact ⟨i - 1, by rw [List.getElem?_eraseIdx_of_ge (by omega), show i - 1 + 1 = i by omega]; exact h⟩
/-- What letting in comes to. -/
theorem adm_facts {l : List De} {d : De} {me room : Int} (hV : VOk me room l) (h0 : 0 ≤ d.inc) :
    VOk me room (admL l d me room) ∧ (∀ z ∈ admL l d me room, z = d ∨ z ∈ l) ∧ l.length ≤ (admL l d me room).length ∧ (admL l d me room).length ≤ l.length + 1 ∧
    (d.node = me ∨ d.inc ≤ 0 ∨ room ≤ 0 ∨ 0 ≤ findZ d.node (admL l d me room)) ∧ (d.node = me → findZ d.node (admL l d me room) = -1) ∧
    ∀ (i : Nat) x, l[i]? = some x → findZ x.node (admL l d me room) < 0 → (i : Int) = oldZ (oldAt l l.length) ∧ room ≤ l.length := by
  have hself : ∀ o : List De, VOk me room o → d.node = me → findZ d.node o = -1 := fun o ho e => find_none fun y hy => by rw [e]; exact (ho.each y hy).1
  unfold admL
  by_cases hput : (putP l d me room).2 = true
  · rw [if_pos hput]
    have hP := hV.put d
    refine ⟨hP, fun z hz => put_mem hz, put_length _ _ _ _, put_len1 _ _ _ _, ?_, hself _ hP, fun i x hx hn => ?_⟩
    · rcases put_cases l d me room with ⟨e, _⟩ | ⟨e, _⟩ | ⟨z, e, _, _, hz, _⟩
      · rw [e] at hput; cases hput
      · obtain ⟨k, hk⟩ := find_has hP.rising (y := d) (by rw [e]; exact insL_self) rfl
        exact .inr (.inr (.inr (by omega)))
      · obtain ⟨k, hk⟩ := find_has hP.rising (y := d) (by rw [e]; exact set_self hz) rfl
        exact .inr (.inr (.inr (by omega)))
    · have := find_keep hP.rising (fun y hy => put_nodes hy) (List.mem_of_getElem? hx)
      omega
  · rw [if_neg hput]
    have hput : (putP l d me room).2 = false := by simpa using hput
    by_cases hc : d.node = me ∨ d.inc < 1 ∨ 0 ≤ findZ d.node l ∨ l.length = 0
    · rw [if_pos hc]
      refine ⟨hV, fun z hz => .inr hz, Nat.le_refl _, Nat.le_succ _, ?_, hself _ hV, fun i x hx hn => ?_⟩
      · rcases hc with h | h | h | h
        · exact .inl h
        · exact .inr (.inl (by omega))
        · exact .inr (.inr (.inr h))
        · rcases put_cases l d me room with ⟨_, h1 | h1 | ⟨_, h1⟩ | ⟨y, hy, _⟩⟩ | ⟨e, _⟩ | ⟨z, e, _⟩
          · exact .inl h1
          · exact .inr (.inl (by omega))
          · exact .inr (.inr (.inl (by omega)))
          · have := getElem?_lt hy; omega
          · rw [e] at hput; cases hput
          · rw [e] at hput; cases hput
      · have := find_keep hV.rising (fun y hy => ⟨y, hy, rfl⟩) (List.mem_of_getElem? hx)
        omega
    · rw [if_neg hc]
      have hb : d.node ≠ me ∧ ¬ d.inc < 1 ∧ ¬ 0 ≤ findZ d.node l ∧ l.length ≠ 0 := ⟨fun h => hc (.inl h), fun h => hc (.inr (.inl h)), fun h => hc (.inr (.inr (.inl h))), fun h => hc (.inr (.inr (.inr h)))⟩
      have hF : findZ d.node l = -1 := by
        rcases find_cases l d.node with h | ⟨_, _, _, h⟩
        · exact h
        · exact (hb.2.2.1 h).elim
      have hroom : room ≤ l.length := by
        rcases put_cases l d me room with ⟨_, h1 | h1 | ⟨_, h1⟩ | ⟨y, hy, hn, _⟩⟩ | ⟨e, _⟩ | ⟨z, e, _⟩
        · exact (hb.1 h1).elim
        · omega
        · exact h1
        · exact (find_no hV.rising hF y (List.mem_of_getElem? hy) hn).elim
        · rw [e] at hput; cases hput
        · rw [e] at hput; cases hput
      rcases oldAt_spec l l.length (Nat.le_refl _) with ⟨h, _⟩ | ⟨a, y, ha, hy, hal, _⟩
      · exact (hb.2.2.2 h).elim
      · rw [ha]
        simp only [hy]
        have hU := hV.drop y.node
        have hP := hU.put d
        have hD : dropL y.node l = l.eraseIdx a := by
          rcases has_or y.node l with ⟨z, _, _, _, h⟩ | ⟨h, _, _⟩
          · rw [h]
            have hz := rising_at hV.rising (List.mem_of_getElem? hy) rfl
            have : placeN y.node l = a := by
              refine (List.getElem?_inj (getElem?_lt hz) ?_).1 (hz.trans hy.symm)
              exact hV.rising.imp fun {p q} (h : p.node < q.node) (e : p = q) => by subst e; omega
            rw [this]
          · exact (h y (rising_at hV.rising (List.mem_of_getElem? hy) rfl) rfl).elim
        have hDl : (dropL y.node l).length = l.length - 1 := by rw [hD, List.length_eraseIdx_of_lt hal]
        have hFu : findZ d.node (dropL y.node l) = -1 := find_none fun z hz => find_no hV.rising hF z (drop_mem hz)
        have hVl := hV.len
        have e : putP (dropL y.node l) d me room = (insL (dropL y.node l) (placeN d.node (dropL y.node l)) d, true) := by
          rcases put_cases (dropL y.node l) d me room with ⟨_, h1 | h1 | ⟨_, h1⟩ | ⟨z, hz, hn, _⟩⟩ | ⟨e, _⟩ | ⟨z, _, _, _, hz, hn, _⟩
          · exact (hb.1 h1).elim
          · omega
          · omega
          · exact (find_no hU.rising hFu z (List.mem_of_getElem? hz) hn).elim
          · exact e
          · exact (find_no hU.rising hFu z (List.mem_of_getElem? hz) hn).elim
        have hlen : (putP (dropL y.node l) d me room).1.length = l.length := by
          rw [e, insL_len _ _ _ (place_le _ _), hDl]
          omega
        refine ⟨hP, fun z hz => (put_mem hz).imp id drop_mem, by omega, by omega, ?_, hself _ hP, fun i x hx hn => ?_⟩
        · obtain ⟨k, hk⟩ := find_has hP.rising (y := d) (by rw [e]; exact insL_self) rfl
          exact .inr (.inr (.inr (by omega)))
        · refine ⟨?_, hroom⟩
          by_cases hia : i = a
          · rw [hia]; rfl
          · exfalso
            have := find_keep hP.rising (fun y hy => put_nodes hy) (x := x) (by rw [hD]; exact eraseIdx_mem hx hia)
            omega
/-- How many of the first ones are lost. -/
def lostN (o v : List De) : Nat → Int
  | 0 => 0
  | k + 1 => lostN o v k + (match v[k]? with
    | some x => if findZ x.node o < 0 then 1 else 0
    | none => 0)
theorem lost_le {o v : List De} {c : Int} (h : ∀ (i : Nat) x, v[i]? = some x → findZ x.node o < 0 → (i : Int) = c) : ∀ k, 0 ≤ lostN o v k ∧ lostN o v k ≤ 1 ∧ (1 ≤ lostN o v k → c < k)
  | 0 => ⟨Int.le_refl _, (by decide : (0 : Int) ≤ 1), fun h => by unfold lostN at h; omega⟩
  | k + 1 => by
    obtain ⟨h1, h2, h3⟩ := lost_le h k
    unfold lostN
    split
    · rename_i x hx
      split
      · rename_i hn
        have := h k x hx hn
        omega
      · omega
    · omega
theorem admit_eq (l : List De) (cap : Nat) (hl : l.length ≤ 1099511627776) (hr : Rising l) (hf : FlOk l) (d : De) (cd : Nat) (hcd : d.fl.length ≤ cd) (hdl : d.fl.length ≤ 1099511627776) (self room N : Int) (hN : room = N) (h0 : 0 ≤ d.inc) (o : List De) (ho : admL l d self N = o) : FnOK Try.prog GG 20 [] [.z 4 (l.map deC) cap, deS d cd, .v (.int .u8 self), .v (.int .i64 room)] (fun r _ ext => (∃ c', o.length ≤ c' ∧ r = .z 4 (o.map deC) c') ∧ ext = []) := by
  subst hN; subst ho
  cases hb : (putP l d self room).2 with
  | true => exact admit_put l cap hl hr hf d cd hcd hdl self room (putP l d self room).1 (by rw [← hb])
  | false =>
    have he := put_false hb
    by_cases hn : d.node = self ∨ d.inc < 1 ∨ 0 ≤ findZ d.node l ∨ l.length = 0
    · exact admit_no l cap hl hr hf d cd hcd hdl self room he hn h0
    · rcases oldAt_spec l l.length (Nat.le_refl _) with ⟨h, _⟩ | ⟨a, y, ha, hy, _⟩
      · exact (hn (.inr (.inr (.inr h)))).elim
      · exact admit_old l cap hl hr hf d cd hcd hdl self room he hn a y ha hy (putP (dropL y.node l) d self room).1 (putP (dropL y.node l) d self room).2 rfl
set_option maxRecDepth 100000 in
set_option maxHeartbeats 4000000 in
theorem admFew1 (l : List De) (cap : Nat) (d : De) (cd : Nat) (self room : Int) (hl : l.length ≤ 9223372036854775807) (hok : ∀ y ∈ l, DeOk y) (hd : DeOk d) (hcd : d.fl.length ≤ cd) (hcm : cd ≤ 9223372036854775807) (hrm : 0 ≤ room ∧ room ≤ 255) (hfew : (l.all (fun d => decide (d.fl.length ≤ 8)) && decide (l.length ≤ 20)) = false) : FnOK Try.prog GG 5 [] [.z 4 (l.map deC) cap, deS d cd, .v (.int .u8 self), .v (.int .u8 room)] (fun r _ ext => (r = .v (.bool true)) ∧ ext = []) := by
  refine FnOK.pure GG_no rfl (fn_intro (C := seat) seat_ok [] GG_no (Try.func5) rfl rfl rfl rfl rfl ?_)
  repeat' ((try conv => whnf); first
    | (with_reducible refine OKv.go (C := seat) seat_ok ?_)
    | (with_reducible refine BB_true ?_)
    | (with_reducible refine BB_false ?_)
    | (with_reducible refine Both.mk ?_ ?_)
    | (with_reducible refine VS.mk ?_)
    | (refine PSem.go (C := seat) seat_ok ?_)
    | (refine And.intro (PlanOK.mk (by kernel_rfl) rfl (by kernel_rfl) (by kernel_rfl)) ?_)
    | (refine And.intro rfl (Exists.intro _ (And.intro (by first | assumption | rfl) ?_)))
    | (refine And.intro ⟨rfl, rfl, rfl⟩ ?_)
    | (refine call_ro [] (few_zz l cap _ hl hfew) GG_no rfl rfl rfl trivial ?_; rintro r bs' ext ⟨rfl, rfl⟩)
    | (refine call_ro [] (awake_ok) GG_no rfl rfl rfl trivial ?_; rintro r bs' ext ⟨rfl, rfl⟩)
    | (refine BB.mk (fun _h => ?_) (fun _h => ?_) <;> (first | (exact absurd _h (by decide)) | (exfalso; simp only [boolSet, IntKind.wrap_i64] at _h <;> omega) | (simp only [boolSet, IntKind.wrap_i64] at _h) | skip))
    | (refine And.intro (by omega) ?_)
    | (refine BB.mk (fun _h => ?_) (fun _h => ?_) <;> (first | (exact absurd _h (by decide)) | (exfalso; simp only [boolSet] at _h <;> omega) | skip)))
  all_goals (try conv => whnf)
  exact ⟨_, _, FrzV.refl _ _, rfl, rfl, fun _ => rfl, rfl⟩
set_option maxRecDepth 100000 in
set_option maxHeartbeats 4000000 in
theorem admFew2 (l : List De) (cap : Nat) (d : De) (cd : Nat) (self room : Int) (hl : l.length ≤ 9223372036854775807) (hok : ∀ y ∈ l, DeOk y) (hd : DeOk d) (hcd : d.fl.length ≤ cd) (hcm : cd ≤ 9223372036854775807) (hrm : 0 ≤ room ∧ room ≤ 255) (hfew : (l.all (fun d => decide (d.fl.length ≤ 8)) && decide (l.length ≤ 20)) = true) (h8 : 8 < d.fl.length) : FnOK Try.prog GG 5 [] [.z 4 (l.map deC) cap, deS d cd, .v (.int .u8 self), .v (.int .u8 room)] (fun r _ ext => (r = .v (.bool true)) ∧ ext = []) := by
  have hdm : (d.fl.map spC).length = d.fl.length := List.length_map _
  refine FnOK.pure GG_no rfl (fn_intro (C := seat) seat_ok [] GG_no (Try.func5) rfl rfl rfl rfl rfl ?_)
  repeat' ((try conv => whnf); first
    | (with_reducible refine OKv.go (C := seat) seat_ok ?_)
    | (with_reducible refine BB_true ?_)
    | (with_reducible refine BB_false ?_)
    | (with_reducible refine Both.mk ?_ ?_)
    | (with_reducible refine VS.mk ?_)
    | (refine PSem.go (C := seat) seat_ok ?_)
    | (refine And.intro (PlanOK.mk (by kernel_rfl) rfl (by kernel_rfl) (by kernel_rfl)) ?_)
    | (refine And.intro rfl (Exists.intro _ (And.intro (by first | assumption | rfl) ?_)))
    | (refine And.intro ⟨rfl, rfl, rfl⟩ ?_)
    | (refine call_ro [] (few_zz l cap _ hl hfew) GG_no rfl rfl rfl trivial ?_; rintro r bs' ext ⟨rfl, rfl⟩)
    | (refine call_ro [] (awake_ok) GG_no rfl rfl rfl trivial ?_; rintro r bs' ext ⟨rfl, rfl⟩)
    | (refine BB.mk (fun _h => ?_) (fun _h => ?_) <;> (first | (exact absurd _h (by decide)) | (exfalso; simp only [boolSet, IntKind.wrap_i64] at _h <;> omega) | (simp only [boolSet, IntKind.wrap_i64] at _h) | skip))
    | (refine And.intro (by omega) ?_)
    | (refine BB.mk (fun _h => ?_) (fun _h => ?_) <;> (first | (exact absurd _h (by decide)) | (exfalso; simp only [boolSet] at _h <;> omega) | skip)))
  all_goals (try conv => whnf)
  exact ⟨_, _, FrzV.refl _ _, rfl, rfl, fun _ => rfl, rfl⟩
set_option maxRecDepth 100000 in
set_option maxHeartbeats 4000000 in
theorem admGood (l : List De) (cap : Nat) (d : De) (cd : Nat) (self room : Int) (hl : l.length ≤ 9223372036854775807) (hok : ∀ y ∈ l, DeOk y) (hd : DeOk d) (hcd : d.fl.length ≤ cd) (hcm : cd ≤ 9223372036854775807) (hrm : 0 ≤ room ∧ room ≤ 255) (hfew : (l.all (fun d => decide (d.fl.length ≤ 8)) && decide (l.length ≤ 20)) = true) (hd8 : d.fl.length ≤ 8) : FnOK Try.prog GG 5 [] [.z 4 (l.map deC) cap, deS d cd, .v (.int .u8 self), .v (.int .u8 room)] (fun r _ ext => (r = .v (.bool true)) ∧ ext = []) := by
  obtain ⟨hf, hl20⟩ := few_facts hfew
  obtain ⟨N, hN⟩ : ∃ N, IntKind.i64.wrap (room.tmod 21) = N := ⟨_, rfl⟩
  have hN20 : 0 ≤ N ∧ N ≤ 20 := by
    rw [← hN, Int.tmod_eq_emod_of_nonneg hrm.1, IntKind.wrap_i64]
    omega
  have hV : VOk self N (viewN l self N 256) := VOk.view hN20.1 (fun y hy => (hok y hy).2.1.1)
  have hVf : FlOk (viewN l self N 256) := view_fl hf
  have hVl := hV.len
  have hw : IntKind.i64.wrap (room.tmod 21) = N := hN
  have hN2 : room.tmod 21 = N := by
    rw [← hN, Int.tmod_eq_emod_of_nonneg hrm.1, IntKind.wrap_i64]
    omega
  have hdm : (d.fl.map spC).length = d.fl.length := List.length_map _
  obtain ⟨v, hv⟩ : ∃ v, viewN l self N 256 = v := ⟨_, rfl⟩
  rw [hv] at hV hVf hVl
  have hdi := hd.2.1.1
  obtain ⟨hO, hmem, hl1, hl2, hmay, hme, hlost⟩ := adm_facts (d := d) hV hdi
  obtain ⟨o, ho⟩ : ∃ o, admL v d self N = o := ⟨_, rfl⟩
  rw [ho] at hO hmem hl1 hl2 hmay hme hlost
  have hOl := hO.len
  have hlm : (v.map deC).length = v.length := List.length_map _
  have hlo : (o.map deC).length = o.length := List.length_map _
  have hL := lost_le (fun i x hx hn => (hlost i x hx hn).1)
  refine FnOK.pure GG_no rfl (fn_intro (C := seat) seat_ok [] GG_no (Try.func5) rfl rfl rfl rfl rfl ?_)
  repeat' ((try conv => whnf); first
    | (with_reducible refine OKv.go (C := seat) seat_ok ?_)
    | (with_reducible refine BB_true ?_)
    | (with_reducible refine BB_false ?_)
    | (with_reducible refine Both.mk ?_ ?_)
    | (with_reducible refine VS.mk ?_)
    | (refine PSem.go (C := seat) seat_ok ?_)
    | (refine And.intro (PlanOK.mk (by kernel_rfl) rfl (by kernel_rfl) (by kernel_rfl)) ?_)
    | (refine And.intro rfl (Exists.intro _ (And.intro (by first | assumption | rfl) ?_)))
    | (refine And.intro ⟨rfl, rfl, rfl⟩ ?_)
    | (refine call_ro [] (few_zz l cap _ hl hfew) GG_no rfl rfl rfl trivial ?_; rintro r bs' ext ⟨rfl, rfl⟩)
    | (refine call_ro [] (view_eq l cap self _ N (by omega) (fun y hy => (hok y hy).1) v hw hv) GG_no rfl rfl rfl trivial ?_; rintro r bs' ext ⟨⟨cv, hcv, rfl⟩, rfl⟩)
    | (refine call_ro [] (admit_eq v cv (by omega) hV.rising hVf d cd hcd (by omega) self _ N hw hdi o ho) GG_no rfl rfl rfl trivial ?_; rintro r bs' ext ⟨⟨co, hco, rfl⟩, rfl⟩)
    | (refine call_ro [] (right_eq o co self _ N hw (by omega) hO) GG_no rfl rfl rfl trivial ?_; rintro r bs' ext ⟨rfl, rfl⟩)
    | (refine call_ro [] (find_zz o co d.node (by omega) hO.rising _ rfl) GG_no rfl rfl rfl trivial ?_; rintro r bs' ext ⟨rfl, rfl⟩)
    | (refine BB.mk (fun _h => ?_) (fun _h => ?_) <;> (first | (exact absurd _h (by decide)) | (exfalso; simp only [boolSet, IntKind.wrap_i64] at _h <;> omega) | (simp only [boolSet, IntKind.wrap_i64] at _h) | skip))
    | (refine And.intro (by omega) ?_)
    | (refine BB.mk (fun _h => ?_) (fun _h => ?_) <;> (first | (exact absurd _h (by decide)) | (exfalso; simp only [boolSet] at _h <;> omega) | skip)))
  all_goals (try conv => whnf)
  all_goals (try (exfalso; omega))
  all_goals refine loop_rule (α := Nat) (fun k => k ≤ v.length) (fun k => { slots := [(9, .v (.int .i64 N)), (10, .z 4 (v.map deC) cv), (11, .z 4 (o.map deC) co), (14, .v (.int .i64 (lostN o v k))), (91, .z 4 (v.map deC) cv), (92, .v (.int .i64 v.length)), (93, .v (.int .i64 (k : Int)))], nt := 121, mem := ⟨GG, [], []⟩ }) (fun k => v.length - k) 0 (Nat.zero_le _) ⟨⟨[], List.nodup_nil, GG_no, rfl, (SubOld.refl _ rfl), trivial, ⟨.inl (num_eq hw), .inl rfl, .inl rfl, .inl rfl, .inl rfl, .inl (num_eq (by rw [hlm])), .inl rfl, trivial⟩⟩, rfl⟩ ?_ (fun _ => rfl)
  all_goals
    intro k hk
    dsimp only
    refine vc_sound (C := seat) seat_ok (pl := []) ?_
    have hLk := hL k
    have hLk1 := hL (k + 1)
    by_cases hlt : k < v.length
    · obtain ⟨x, hx⟩ : ∃ x, v[k]? = some x := ⟨_, List.getElem?_eq_getElem hlt⟩
      have hrow := zde_at hx
      have hfact := hlost k x hx
      have hs : lostN o v (k + 1) = lostN o v k + (if findZ x.node o < 0 then 1 else 0) := by rw [lostN, hx]
      by_cases hn : findZ x.node o < 0
      · rw [if_pos hn] at hs
        have hfact := hfact hn
        repeat' ((try conv => whnf); first
          | (with_reducible refine OKv.go (C := seat) seat_ok ?_)
          | (with_reducible refine BB_true ?_)
          | (with_reducible refine BB_false ?_)
          | (with_reducible refine Both.mk ?_ ?_)
          | (with_reducible refine VS.mk ?_)
          | (refine PSem.go (C := seat) seat_ok ?_)
          | (refine And.intro (PlanOK.mk (by kernel_rfl) rfl (by kernel_rfl) (by kernel_rfl)) ?_)
          | (refine And.intro rfl (Exists.intro _ (And.intro (by first | assumption | rfl) ?_)))
          | (refine And.intro ⟨rfl, rfl, rfl⟩ ?_)
          | (refine call_ro [] (find_zz o co x.node (by omega) hO.rising _ rfl) GG_no rfl rfl rfl trivial ?_; rintro r bs' ext ⟨rfl, rfl⟩)
          | (refine call_ro [] (oldest_zz v cv _ (by omega) rfl) GG_no rfl rfl rfl trivial ?_; rintro r bs' ext ⟨rfl, rfl⟩)
          | (refine And.intro ⟨by omega, by simp only [List.length_map]; omega⟩ (Exists.intro _ (And.intro (by first | assumption | rfl) ?_)))
          | (refine fun (caps : Nat → Nat) hcaps => ?_; conv at hcaps => whnf)
          | (refine BB.mk (fun _h => ?_) (fun _h => ?_) <;> (first | (exact absurd _h (by decide)) | (exfalso; simp only [boolSet, IntKind.wrap_i64] at _h <;> omega) | (simp only [boolSet, IntKind.wrap_i64] at _h) | skip))
          | (refine And.intro (by omega) ?_)
          | (refine BB.mk (fun _h => ?_) (fun _h => ?_) <;> (first | (exact absurd _h (by decide)) | (exfalso; simp only [boolSet] at _h <;> omega) | skip)))
        all_goals (try conv => whnf)
        all_goals exact ⟨k + 1, by omega, by (try dsimp only); omega, ⟨⟨[], by decide, GG_no, rfl, SubOld.refl _ rfl, trivial, ⟨.inl rfl, .inl rfl, .inl rfl, .inl (num_eq (by rw [IntKind.wrap_i64]; omega)), .inl rfl, .inl rfl, .inl (num_eq (by rw [IntKind.wrap_i64]; omega)), trivial⟩⟩, rfl⟩⟩
      · rw [if_neg hn] at hs
        repeat' ((try conv => whnf); first
          | (with_reducible refine OKv.go (C := seat) seat_ok ?_)
          | (with_reducible refine BB_true ?_)
          | (with_reducible refine BB_false ?_)
          | (with_reducible refine Both.mk ?_ ?_)
          | (with_reducible refine VS.mk ?_)
          | (refine PSem.go (C := seat) seat_ok ?_)
          | (refine And.intro (PlanOK.mk (by kernel_rfl) rfl (by kernel_rfl) (by kernel_rfl)) ?_)
          | (refine And.intro rfl (Exists.intro _ (And.intro (by first | assumption | rfl) ?_)))
          | (refine And.intro ⟨rfl, rfl, rfl⟩ ?_)
          | (refine call_ro [] (find_zz o co x.node (by omega) hO.rising _ rfl) GG_no rfl rfl rfl trivial ?_; rintro r bs' ext ⟨rfl, rfl⟩)
          | (refine And.intro ⟨by omega, by simp only [List.length_map]; omega⟩ (Exists.intro _ (And.intro (by first | assumption | rfl) ?_)))
          | (refine fun (caps : Nat → Nat) hcaps => ?_; conv at hcaps => whnf)
          | (refine BB.mk (fun _h => ?_) (fun _h => ?_) <;> (first | (exact absurd _h (by decide)) | (exfalso; simp only [boolSet, IntKind.wrap_i64] at _h <;> omega) | (simp only [boolSet, IntKind.wrap_i64] at _h) | skip))
          | (refine And.intro (by omega) ?_)
          | (refine BB.mk (fun _h => ?_) (fun _h => ?_) <;> (first | (exact absurd _h (by decide)) | (exfalso; simp only [boolSet] at _h <;> omega) | skip)))
        all_goals (try conv => whnf)
        all_goals exact ⟨k + 1, by omega, by (try dsimp only); omega, ⟨⟨[], by decide, GG_no, rfl, SubOld.refl _ rfl, trivial, ⟨.inl rfl, .inl rfl, .inl rfl, .inl (num_eq (by omega)), .inl rfl, .inl rfl, .inl (num_eq (by rw [IntKind.wrap_i64]; omega)), trivial⟩⟩, rfl⟩⟩
    · obtain rfl : k = v.length := by omega
      repeat' ((try conv => whnf); first
        | (with_reducible refine OKv.go (C := seat) seat_ok ?_)
        | (with_reducible refine BB_true ?_)
        | (with_reducible refine BB_false ?_)
        | (with_reducible refine Both.mk ?_ ?_)
        | (with_reducible refine VS.mk ?_)
        | (refine PSem.go (C := seat) seat_ok ?_)
        | (refine And.intro (PlanOK.mk (by kernel_rfl) rfl (by kernel_rfl) (by kernel_rfl)) ?_)
        | (refine And.intro rfl (Exists.intro _ (And.intro (by first | assumption | rfl) ?_)))
        | (refine And.intro ⟨rfl, rfl, rfl⟩ ?_)
        | (refine call_ro [] (awake_ok) GG_no rfl rfl rfl trivial ?_; rintro r bs' ext ⟨rfl, rfl⟩)
        | (refine BB.mk (fun _h => ?_) (fun _h => ?_) <;> (first | (exact absurd _h (by decide)) | (exfalso; simp only [boolSet, IntKind.wrap_i64] at _h <;> omega) | (simp only [boolSet, IntKind.wrap_i64] at _h) | skip))
        | (refine And.intro (by omega) ?_)
        | (refine BB.mk (fun _h => ?_) (fun _h => ?_) <;> (first | (exact absurd _h (by decide)) | (exfalso; simp only [boolSet] at _h <;> omega) | skip)))
      all_goals (try conv => whnf)
      all_goals exact ⟨_, _, FrzV.refl _ _, rfl, rfl, fun _ => rfl, rfl⟩
theorem sampleAdmit_ok (l : List De) (cap : Nat) (d : De) (cd : Nat) (self room : Int) (hl : l.length ≤ 9223372036854775807) (hok : ∀ y ∈ l, DeOk y) (hd : DeOk d) (hcd : d.fl.length ≤ cd) (hcm : cd ≤ 9223372036854775807) (hrm : 0 ≤ room ∧ room ≤ 255) : FnOK Try.prog GG 5 [] [.z 4 (l.map deC) cap, deS d cd, .v (.int .u8 self), .v (.int .u8 room)] (fun r _ ext => r = .v (.bool true) ∧ ext = []) := by
  cases hfew : (l.all (fun d => decide (d.fl.length ≤ 8)) && decide (l.length ≤ 20)) with
  | false => exact admFew1 l cap d cd self room hl hok hd hcd hcm hrm hfew
  | true =>
    by_cases h8 : d.fl.length ≤ 8
    · exact admGood l cap d cd self room hl hok hd hcd hcm hrm hfew h8
    · exact admFew2 l cap d cd self room hl hok hd hcd hcm hrm hfew (by omega)
end Go.Proofs.Ytjghbfbifkhloaa
