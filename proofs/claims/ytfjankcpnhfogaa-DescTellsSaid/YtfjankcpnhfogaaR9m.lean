/- Several texts in one: R9, R9b, R9c. -/
import Derived.Test.YtfjankcpnhfogaaDZ
import Derived.Test.YtfjankcpnhfogaaD09v
namespace Go.Proofs.Ytfjankcpnhfogaa
open Go.RowKit

theorem lenS : (∀ (sz n : Nat) (l : List CV), (chunks sz n l).length = n) ∧ (∀ (f : De → List CV) (l : List De), (l.map f).length = l.length) ∧ (∀ (f : Sp → List CV) (l : List Sp), (l.map f).length = l.length) ∧ (∀ (n : Nat) (l : List De), (l.take n).length = min n l.length) ∧ (∀ (n : Nat) (l : List De), (l.drop n).length = l.length - n) ∧ (∀ (n : Nat) (l : List (List CV)), (l.take n).length = min n l.length) ∧ (∀ (n : Nat) (l : List (List CV)), (l.drop n).length = l.length - n) ∧ (∀ (l m : List (List CV)), (l ++ m).length = l.length + m.length) ∧ (∀ (l m : List De), (l ++ m).length = l.length + m.length) ∧ (∀ (x : List CV) (l : List (List CV)), (x :: l).length = l.length + 1) ∧ (∀ (x : De) (l : List De), (x :: l).length = l.length + 1) ∧ ([] : List (List CV)).length = 0 ∧ ([] : List De).length = 0 :=
  ⟨fun sz n l => chunks_len sz n l, fun _ _ => List.length_map _, fun _ _ => List.length_map _, fun _ _ => List.length_take, fun _ _ => List.length_drop, fun _ _ => List.length_take, fun _ _ => List.length_drop, fun _ _ => List.length_append, fun _ _ => List.length_append, fun _ _ => rfl, fun _ _ => rfl, rfl, rfl⟩
theorem zde9 {l : List De} {k : Nat} {y : De} (h : l[k]? = some y) : (l.map deC)[(k : Int).toNat]? = some [.v (.int .u8 y.node), .v (.int .u16 y.inc), .v (.int .u8 y.age), .z 2 (y.fl.map spC)] := by
  rw [Int.toNat_natCast, List.getElem?_map, h]; rfl
theorem r9place {l : List De} {a : Nat} {y : De} {x : Int} (hr : Rising l) (h : l[a]? = some y) (hx : y.node = x) : placeN x l = a := by
  subst hx
  have hz := rising_at hr (List.mem_of_getElem? h) rfl
  refine (List.getElem?_inj (getElem?_lt hz) ?_).1 (hz.trans h.symm)
  exact hr.imp fun {p q} (h : p.node < q.node) (e : p = q) => by subst e; omega
theorem r9find {l : List De} {a : Nat} {y : De} {x : Int} (hr : Rising l) (h : l[a]? = some y) (hx : y.node = x) : findZ x l = (a : Int) := by
  have hp := r9place hr h hx
  rw [← hp]
  exact find_at (by rw [hp]; exact h) hx
theorem r9none {l : List De} {x : Int} (h : ∀ (j : Nat) y, j < l.length → l[j]? = some y → y.node ≠ x) : ∀ y ∈ l, y.node ≠ x := fun y hy => by
  obtain ⟨j, hj⟩ := List.mem_iff_getElem?.1 hy
  exact h j y (getElem?_lt hj) hj
def r9F (x : Int) (l : List De) : List De := l.filter fun d => decide (d.node ≠ x)
theorem r9F_id {x : Int} {l : List De} (h : ∀ y ∈ l, y.node ≠ x) : r9F x l = l := List.filter_eq_self.2 fun y hy => decide_eq_true (h y hy)
theorem r9F_drop {x : Int} {l : List De} (hr : Rising l) : r9F x l = dropL x l := by
  rcases has_or x l with ⟨y, hy, hx, _, hD⟩ | ⟨hn, hF, hD⟩
  · rw [hD, List.eraseIdx_eq_take_drop_succ]
    have hlt := getElem?_lt hy
    have hsplit : l = l.take (placeN x l) ++ y :: l.drop (placeN x l + 1) := by
      conv => lhs; rw [← List.take_append_drop (placeN x l) l, List.drop_eq_getElem_cons hlt]
      congr 2
      rw [List.getElem?_eq_getElem hlt] at hy
      exact Option.some.inj hy
    have key : ∀ z ∈ l, z ≠ y → z.node ≠ x := fun z hz hne e => by
      have := rising_at hr hz e
      rw [hy] at this
      exact hne (Option.some.inj this).symm
    have hnd : l.Nodup := hr.imp fun {p q} (h : p.node < q.node) (e : p = q) => by subst e; omega
    rw [hsplit] at hnd
    obtain ⟨_, hnd2, hnd3⟩ := List.nodup_append.1 hnd
    have h1 : r9F x (l.take (placeN x l)) = l.take (placeN x l) := r9F_id fun z hz => key z (List.mem_of_mem_take hz) fun e => by
      subst e
      exact hnd3 z hz z List.mem_cons_self rfl
    have h2 : r9F x (l.drop (placeN x l + 1)) = l.drop (placeN x l + 1) := r9F_id fun z hz => key z (List.mem_of_mem_drop hz) fun e => by
      subst e
      exact (List.nodup_cons.1 hnd2).1 hz
    conv => lhs; rw [hsplit]
    unfold r9F at *
    rw [List.filter_append, h1, List.filter_cons, h2, if_neg (by simp [hx])]
  · rw [hD]
    exact r9F_id fun y hy e => hn y (rising_at hr hy e) e
theorem r9F_succ {x : Int} {l : List De} {k : Nat} {d : De} (h : l[k]? = some d) : r9F x (l.take (k + 1)) = if d.node ≠ x then r9F x (l.take k) ++ [d] else r9F x (l.take k) := by
  unfold r9F
  rw [List.take_add_one, h, List.filter_append]
  simp only [Option.toList_some, List.filter_cons, List.filter_nil]
  split <;> simp_all
theorem r9F_len (x : Int) (l : List De) (k : Nat) : (r9F x (l.take k)).length ≤ k := by
  unfold r9F
  have := List.length_filter_le (fun d : De => decide (d.node ≠ x)) (l.take k)
  rw [List.length_take] at this
  omega
/-- How the reference puts one in: what is listed, and whether it is in. -/
def r9S (d : De) (p : List De × Bool) (y : De) : List De × Bool :=
  let q := if p.2 = false ∧ d.node ≤ y.node then (p.1 ++ [d], true) else p
  if y.node ≠ d.node then (q.1 ++ [y], q.2) else q
def r9P (d : De) (l : List De) : Nat → List De × Bool
  | 0 => ([], false)
  | k + 1 => match l[k]? with
    | some y => r9S d (r9P d l k) y
    | none => r9P d l k
theorem r9P_len (d : De) (l : List De) : ∀ k, (r9P d l k).1.length ≤ 2 * k
  | 0 => Nat.le_refl _
  | k + 1 => by
    have := r9P_len d l k
    rw [r9P]
    split
    · unfold r9S
      dsimp only
      split <;> split <;> (try simp only [List.length_append, List.length_cons, List.length_nil]) <;> omega
    · omega
theorem place_lt_all {x : Int} : ∀ {l : List De} {j : Nat} {y : De}, j < placeN x l → l[j]? = some y → y.node < x
  | [], j, y, h, _ => by simp [placeN] at h
  | e :: l, j, y, h, hy => by
    by_cases he : e.node < x
    · have e1 : placeN x (e :: l) = placeN x l + 1 := by rw [placeN, if_pos he]
      rw [e1] at h
      cases j with
      | zero => simp at hy; subst hy; exact he
      | succ j => exact place_lt_all (l := l) (j := j) (by omega) (by simpa using hy)
    · have e1 : placeN x (e :: l) = 0 := by rw [placeN, if_neg he]
      omega
theorem place_ge {x : Int} : ∀ {l : List De} {y : De}, l[placeN x l]? = some y → x ≤ y.node
  | [], y, h => by simp at h
  | e :: l, y, h => by
    by_cases he : e.node < x
    · have e1 : placeN x (e :: l) = placeN x l + 1 := by rw [placeN, if_pos he]
      rw [e1] at h
      exact place_ge (by simpa using h)
    · have e1 : placeN x (e :: l) = 0 := by rw [placeN, if_neg he]
      rw [e1] at h
      simp at h
      subst h
      omega
theorem r9P_spec (d : De) (l : List De) : ∀ k, k ≤ l.length → r9P d l k = if k ≤ placeN d.node l then (l.take k, false) else (l.take (placeN d.node l) ++ d :: r9F d.node ((l.take k).drop (placeN d.node l)), true)
  | 0, _ => by rw [if_pos (Nat.zero_le _)]; rfl
  | k + 1, hk => by
    have ih := r9P_spec d l k (by omega)
    obtain ⟨y, hy⟩ : ∃ y, l[k]? = some y := ⟨_, List.getElem?_eq_getElem (by omega)⟩
    have htk : l.take (k + 1) = l.take k ++ [y] := by rw [List.take_add_one, hy]; rfl
    have hlk : (l.take k).length = k := by rw [List.length_take]; omega
    have hstep : r9P d l (k + 1) = r9S d (r9P d l k) y := by rw [r9P, hy]
    rw [hstep]
    rcases Nat.lt_trichotomy k (placeN d.node l) with h | h | h
    · have hlt := place_lt_all h hy
      rw [ih, if_pos (show k ≤ placeN d.node l by omega), if_pos (show k + 1 ≤ placeN d.node l by omega)]
      unfold r9S
      dsimp only
      rw [if_neg (show ¬ (false = false ∧ d.node ≤ y.node) from fun h => by omega), if_pos (show y.node ≠ d.node by omega), htk]
    · have hge := place_ge (x := d.node) (l := l) (y := y) (by rw [← h]; exact hy)
      rw [ih, if_pos (show k ≤ placeN d.node l by omega), if_neg (show ¬ k + 1 ≤ placeN d.node l by omega)]
      unfold r9S
      dsimp only
      rw [if_pos (show (false = false ∧ d.node ≤ y.node) from ⟨rfl, hge⟩), htk, ← h, List.drop_append_of_le_length (by omega), List.drop_eq_nil_of_le (by omega)]
      unfold r9F
      simp only [List.nil_append, List.filter_cons, List.filter_nil]
      by_cases hn : y.node = d.node
      · rw [if_neg (fun h => h hn), if_neg (by simp [hn])]
      · rw [if_pos hn, if_pos (by simp [hn])]
        simp
    · rw [ih, if_neg (show ¬ k ≤ placeN d.node l by omega), if_neg (show ¬ k + 1 ≤ placeN d.node l by omega)]
      unfold r9S
      dsimp only
      rw [if_neg (show ¬ (true = false ∧ d.node ≤ y.node) from fun h => by cases h.1), htk, List.drop_append_of_le_length (by omega)]
      unfold r9F
      rw [List.filter_append]
      simp only [List.filter_cons, List.filter_nil]
      by_cases hn : y.node = d.node
      · rw [if_neg (fun h => h hn), if_neg (by simp [hn])]
        simp
      · rw [if_pos hn, if_pos (by simp [hn])]
        simp
/-- What stands there in the end. -/
theorem r9P_end {d : De} {l : List De} (hr : Rising l) : (if (r9P d l l.length).2 = true then (r9P d l l.length).1 else (r9P d l l.length).1 ++ [d]) = if findZ d.node l = -1 then insL l (placeN d.node l) d else l.set (placeN d.node l) d := by
  have hsp := r9P_spec d l l.length (Nat.le_refl _)
  rw [List.take_length] at hsp
  have hple := place_le d.node l
  rcases has_or d.node l with ⟨y, hy, hx, hF, _⟩ | ⟨hn, hF, _⟩
  · have hlt := getElem?_lt hy
    rw [if_neg (show ¬ l.length ≤ placeN d.node l by omega)] at hsp
    rw [hsp, if_neg (show ¬ findZ d.node l = -1 by omega)]
    simp only [if_true]
    rw [List.set_eq_take_append_cons_drop, if_pos hlt]
    congr 2
    have e : l[placeN d.node l] = y := by
      rw [List.getElem?_eq_getElem hlt] at hy
      exact Option.some.inj hy
    have hcons := List.drop_eq_getElem_cons hlt
    rw [e] at hcons
    have hrd := List.Pairwise.sublist (List.drop_sublist (placeN d.node l) l) hr
    rw [hcons] at hrd
    have hgt := (List.pairwise_cons.1 hrd).1
    rw [hcons]
    unfold r9F
    rw [List.filter_cons, if_neg (by simp [hx])]
    exact List.filter_eq_self.2 fun z hz => decide_eq_true (show z.node ≠ d.node by have := hgt z hz; omega)
  · rw [if_pos hF]
    have hall : ∀ z ∈ l, z.node ≠ d.node := fun z hz e => hn z (rising_at hr hz e) e
    by_cases h : l.length ≤ placeN d.node l
    · rw [if_pos h] at hsp
      have hpl : placeN d.node l = l.length := by omega
      rw [hsp, hpl]
      simp only [Bool.false_eq_true, if_false]
      unfold insL
      rw [List.take_length, List.drop_length]
    · rw [if_neg h] at hsp
      rw [hsp]
      simp only [if_true]
      rw [r9F_id fun z hz => hall z (List.mem_of_mem_drop hz)]
      rfl
theorem r9old {l : List De} {k : Nat} {y : De} (hy : l[k]? = some y) (hmax : ∀ z ∈ l, z.age ≤ y.age) (hfirst : ∀ (j : Nat) z, j < k → l[j]? = some z → z.age ≠ y.age) : oldZ (oldAt l l.length) = (k : Int) := by
  have hk := getElem?_lt hy
  rcases oldAt_spec l l.length (Nat.le_refl _) with ⟨h, _⟩ | ⟨a, w, ha, hw, hal, hsp⟩
  · omega
  · rw [ha]
    have h1 := hsp k y hk hy
    have h2 := hmax w (List.mem_of_getElem? hw)
    have h3 := h1.2 (by omega)
    have : a = k := by
      rcases Nat.lt_or_ge a k with h | h
      · exact (hfirst a w h hw (by omega)).elim
      · omega
    rw [this]
    rfl
set_option maxRecDepth 100000 in
set_option maxHeartbeats 4000000 in
theorem rnewer_ok (a b : De) (c1 c2 : Nat) (v : Bool) (hv : newB a b = v) : FnOK Try.prog GG 37 [] [deS a c1, deS b c2] (fun r _ ext => (r = .v (.bool v)) ∧ ext = []) := by
  refine FnOK.pure GG_no rfl (fn_intro (C := seat) seat_ok [] GG_no (Try.func37) rfl rfl rfl rfl rfl ?_)
  repeat' ((try conv => whnf); first
    | (with_reducible refine OKv.go (C := seat) seat_ok ?_)
    | (with_reducible refine BB_true ?_)
    | (with_reducible refine BB_false ?_)
    | (with_reducible refine Both.mk ?_ ?_)
    | (with_reducible refine VS.mk ?_)
    | (refine PSem.go (C := seat) seat_ok ?_)
    | (refine And.intro (PlanOK.mk (by kernel_rfl) rfl (by kernel_rfl) (by kernel_rfl)) ?_)
    | (refine And.intro rfl (Exists.intro _ (And.intro (by first | assumption | rfl) ?_)))
    | (refine And.intro ⟨rfl, rfl, rfl⟩ ?_)
    | (refine BB.mk (fun _h => ?_) (fun _h => ?_) <;> (first | (exact absurd _h (by decide)) | (exfalso; simp only [boolSet] at _h <;> omega) | (simp only [boolSet] at _h) | skip))
    | (refine And.intro (by omega) ?_)
    | (refine BB.mk (fun _h => ?_) (fun _h => ?_) <;> (first | (exact absurd _h (by decide)) | (exfalso; simp only [boolSet] at _h <;> omega) | skip)))
  all_goals (try conv => whnf)
  all_goals (subst hv; unfold newB; refine ⟨_, _, FrzV.refl _ _, rfl, rfl, fun _ => rfl, ?_⟩)
  all_goals (congr 2; grind)
set_option maxRecDepth 100000 in
set_option maxHeartbeats 4000000 in
theorem rfind_ok (l : List De) (cl : Nat) (x : Int) (hl : l.length ≤ 1099511627776) (hr : Rising l) (z : Int) (hz : findZ x l = z) : FnOK Try.prog GG 22 [] [.z 4 (l.map deC) cl, .v (.int .u8 x)] (fun r _ ext => (r = .v (.int .i64 z)) ∧ ext = []) := by
  have hlm : (l.map deC).length = l.length := List.length_map _
  refine FnOK.pure GG_no rfl (fn_intro (C := seat) seat_ok [] GG_no (Try.func22) rfl rfl rfl rfl rfl ?_)
  repeat' ((try conv => whnf); first
    | (with_reducible refine OKv.go (C := seat) seat_ok ?_)
    | (with_reducible refine BB_true ?_)
    | (with_reducible refine BB_false ?_)
    | (with_reducible refine Both.mk ?_ ?_)
    | (with_reducible refine VS.mk ?_)
    | (refine PSem.go (C := seat) seat_ok ?_)
    | (refine And.intro (PlanOK.mk (by kernel_rfl) rfl (by kernel_rfl) (by kernel_rfl)) ?_)
    | (refine And.intro rfl (Exists.intro _ (And.intro (by first | assumption | rfl) ?_)))
    | (refine And.intro ⟨rfl, rfl, rfl⟩ ?_)
    | (refine And.intro (by omega) ?_)
    | (refine BB.mk (fun _h => ?_) (fun _h => ?_) <;> (first | (exact absurd _h (by decide)) | (exfalso; simp only [boolSet] at _h <;> omega) | skip)))
  all_goals (try conv => whnf)
  refine loop_rule (α := Nat) (fun k => k ≤ l.length ∧ ∀ (j : Nat) y, j < k → l[j]? = some y → y.node ≠ x) (fun k => { slots := [(0, .z 4 (l.map deC) cl), (1, .v (.int .u8 x)), (5, .v (.int .i64 (k : Int)))], nt := 20, mem := ⟨GG, [], []⟩ }) (fun k => l.length - k) 0 ⟨Nat.zero_le _, fun j y h => absurd h (Nat.not_lt_zero _)⟩ ⟨⟨[], List.nodup_nil, GG_no, rfl, (SubOld.refl _ rfl), trivial, ⟨.inl rfl, .inl rfl, .inl rfl, trivial⟩⟩, rfl⟩ ?_ (fun _ => rfl)
  rintro k ⟨hk, hno⟩
  refine vc_sound (C := seat) seat_ok (pl := []) ?_
  by_cases hlt : k < l.length
  · obtain ⟨y, hy⟩ : ∃ y, l[k]? = some y := ⟨_, List.getElem?_eq_getElem hlt⟩
    have hrow := zde9 hy
    by_cases hx : y.node = x
    · have hF := (r9find hr hy hx).symm.trans hz
      repeat' ((try conv => whnf); first
        | (with_reducible refine OKv.go (C := seat) seat_ok ?_)
        | (with_reducible refine BB_true ?_)
        | (with_reducible refine BB_false ?_)
        | (with_reducible refine Both.mk ?_ ?_)
        | (with_reducible refine VS.mk ?_)
        | (refine PSem.go (C := seat) seat_ok ?_)
        | (refine And.intro (PlanOK.mk (by kernel_rfl) rfl (by kernel_rfl) (by kernel_rfl)) ?_)
        | (refine And.intro rfl (Exists.intro _ (And.intro (by first | assumption | rfl) ?_)))
        | (refine And.intro ⟨rfl, rfl, rfl⟩ ?_)
        | (refine And.intro ⟨by omega, by simp only [List.length_map]; omega⟩ (Exists.intro _ (And.intro (by first | assumption | rfl) ?_)))
        | (refine BB.mk (fun _h => ?_) (fun _h => ?_) <;> (first | (exact absurd _h (by decide)) | (exfalso; simp only [boolSet] at _h <;> omega) | (simp only [boolSet] at _h) | skip))
        | (refine And.intro (by omega) ?_)
        | (refine BB.mk (fun _h => ?_) (fun _h => ?_) <;> (first | (exact absurd _h (by decide)) | (exfalso; simp only [boolSet] at _h <;> omega) | skip)))
      all_goals (try conv => whnf)
      exact ⟨_, _, FrzV.refl _ _, rfl, rfl, fun _ => rfl, by rw [← hF]⟩
    · skip
      repeat' ((try conv => whnf); first
        | (with_reducible refine OKv.go (C := seat) seat_ok ?_)
        | (with_reducible refine BB_true ?_)
        | (with_reducible refine BB_false ?_)
        | (with_reducible refine Both.mk ?_ ?_)
        | (with_reducible refine VS.mk ?_)
        | (refine PSem.go (C := seat) seat_ok ?_)
        | (refine And.intro (PlanOK.mk (by kernel_rfl) rfl (by kernel_rfl) (by kernel_rfl)) ?_)
        | (refine And.intro rfl (Exists.intro _ (And.intro (by first | assumption | rfl) ?_)))
        | (refine And.intro ⟨rfl, rfl, rfl⟩ ?_)
        | (refine And.intro ⟨by omega, by simp only [List.length_map]; omega⟩ (Exists.intro _ (And.intro (by first | assumption | rfl) ?_)))
        | (refine BB.mk (fun _h => ?_) (fun _h => ?_) <;> (first | (exact absurd _h (by decide)) | (exfalso; simp only [boolSet] at _h <;> omega) | (simp only [boolSet] at _h) | skip))
        | (refine And.intro (by omega) ?_)
        | (refine BB.mk (fun _h => ?_) (fun _h => ?_) <;> (first | (exact absurd _h (by decide)) | (exfalso; simp only [boolSet] at _h <;> omega) | skip)))
      all_goals (try conv => whnf)
      exact ⟨k + 1, ⟨by omega, fun j z hj hz => by
            rcases Nat.lt_succ_iff_lt_or_eq.1 hj with h | rfl
            · exact hno j z h hz
            · rw [hy] at hz; cases hz; omega⟩, by omega, ⟨⟨[], by decide, GG_no, rfl, SubOld.refl _ rfl, trivial, ⟨.inl rfl, .inl rfl, .inl (num_eq (by rw [IntKind.wrap_i64]; omega)), trivial⟩⟩, rfl⟩⟩
  · obtain rfl : k = l.length := by omega
    have hF := (find_none (r9none hno)).symm.trans hz
    repeat' ((try conv => whnf); first
      | (with_reducible refine OKv.go (C := seat) seat_ok ?_)
      | (with_reducible refine BB_true ?_)
      | (with_reducible refine BB_false ?_)
      | (with_reducible refine Both.mk ?_ ?_)
      | (with_reducible refine VS.mk ?_)
      | (refine PSem.go (C := seat) seat_ok ?_)
      | (refine And.intro (PlanOK.mk (by kernel_rfl) rfl (by kernel_rfl) (by kernel_rfl)) ?_)
      | (refine And.intro rfl (Exists.intro _ (And.intro (by first | assumption | rfl) ?_)))
      | (refine And.intro ⟨rfl, rfl, rfl⟩ ?_)
      | (refine BB.mk (fun _h => ?_) (fun _h => ?_) <;> (first | (exact absurd _h (by decide)) | (exfalso; simp only [boolSet] at _h <;> omega) | (simp only [boolSet] at _h) | skip))
      | (refine And.intro (by omega) ?_)
      | (refine BB.mk (fun _h => ?_) (fun _h => ?_) <;> (first | (exact absurd _h (by decide)) | (exfalso; simp only [boolSet] at _h <;> omega) | skip)))
    all_goals (try conv => whnf)
    exact ⟨_, _, FrzV.refl _ _, rfl, rfl, fun _ => rfl, by rw [← hF]⟩
set_option maxRecDepth 100000 in
set_option maxHeartbeats 4000000 in
theorem rdrop_ok (l : List De) (cl : Nat) (x : Int) (hl : l.length ≤ 1099511627776) (hr : Rising l) (o : List De) (ho : dropL x l = o) : FnOK Try.prog GG 24 [] [.z 4 (l.map deC) cl, .v (.int .u8 x)] (fun r _ ext => (∃ c', o.length ≤ c' ∧ r = .z 4 (o.map deC) c') ∧ ext = []) := by
  have hlm : (l.map deC).length = l.length := List.length_map _
  refine FnOK.pure GG_no rfl (fn_intro (C := seat) seat_ok [] GG_no (Try.func24) rfl rfl rfl rfl rfl ?_)
  repeat' ((try conv => whnf); first
    | (with_reducible refine OKv.go (C := seat) seat_ok ?_)
    | (with_reducible refine BB_true ?_)
    | (with_reducible refine BB_false ?_)
    | (with_reducible refine Both.mk ?_ ?_)
    | (with_reducible refine VS.mk ?_)
    | (refine PSem.go (C := seat) seat_ok ?_)
    | (refine And.intro (PlanOK.mk (by kernel_rfl) rfl (by kernel_rfl) (by kernel_rfl)) ?_)
    | (refine And.intro rfl (Exists.intro _ (And.intro (by first | assumption | rfl) ?_)))
    | (refine And.intro ⟨rfl, rfl, rfl⟩ ?_)
    | (refine And.intro (by omega) ?_)
    | (refine BB.mk (fun _h => ?_) (fun _h => ?_) <;> (first | (exact absurd _h (by decide)) | (exfalso; simp only [boolSet] at _h <;> omega) | skip)))
  all_goals (try conv => whnf)
  refine loop_rule (α := Nat × Nat) (fun p => p.1 ≤ l.length ∧ (r9F x (l.take p.1)).length ≤ p.2) (fun p => { slots := [(0, .z 4 (l.map deC) cl), (1, .v (.int .u8 x)), (5, .s (.n 0) 4 0 (r9F x (l.take p.1)).length p.2), (6, .v (.int .i64 (p.1 : Int)))], nt := 28, mem := ⟨GG, [], [.row 27 4 p.2 ((r9F x (l.take p.1)).map deC)]⟩ }) (fun p => l.length - p.1) (0, 0) ⟨Nat.zero_le _, Nat.zero_le _⟩ ⟨⟨[0], (by decide), GG_no, rfl, (SubOld.refl _ rfl), ⟨.inl (.inl ⟨rfl, rfl⟩), trivial⟩, ⟨.inl rfl, .inl rfl, .inr (.inl ⟨_, _, _, rfl, rfl⟩), .inl rfl, trivial⟩⟩, rfl⟩ ?_ (fun _ => rfl)
  rintro ⟨k, c⟩ ⟨hk, hc⟩
  dsimp only at hk hc ⊢
  refine vc_sound (C := seat) seat_ok (pl := []) ?_
  have hlF := r9F_len x l k
  have hFm : ((r9F x (l.take k)).map deC).length = (r9F x (l.take k)).length := List.length_map _
  by_cases hlt : k < l.length
  · obtain ⟨d, hd⟩ : ∃ d, l[k]? = some d := ⟨_, List.getElem?_eq_getElem hlt⟩
    have hrow := zde9 hd
    have hsu := r9F_succ (x := x) hd
    by_cases hx : d.node = x
    · rw [if_neg (by simp [hx])] at hsu
      repeat' ((try conv => whnf); first
        | (with_reducible refine OKv.go (C := seat) seat_ok ?_)
        | (with_reducible refine BB_true ?_)
        | (with_reducible refine BB_false ?_)
        | (with_reducible refine Both.mk ?_ ?_)
        | (with_reducible refine VS.mk ?_)
        | (refine PSem.go (C := seat) seat_ok ?_)
        | (refine And.intro (PlanOK.mk (by kernel_rfl) rfl (by kernel_rfl) (by kernel_rfl)) ?_)
        | (refine And.intro rfl (Exists.intro _ (And.intro (by first | assumption | rfl) ?_)))
        | (refine And.intro ⟨rfl, rfl, rfl⟩ ?_)
        | (refine And.intro ⟨by omega, by simp only [List.length_map]; omega⟩ (Exists.intro _ (And.intro (by first | assumption | rfl) ?_)))
        | (refine fun (caps : Nat → Nat) hcaps => ?_; conv at hcaps => whnf)
        | (refine BB.mk (fun _h => ?_) (fun _h => ?_) <;> (first | (exact absurd _h (by decide)) | (exfalso; simp only [boolSet] at _h <;> omega) | (simp only [boolSet] at _h) | skip))
        | (refine And.intro (by omega) ?_)
        | (refine BB.mk (fun _h => ?_) (fun _h => ?_) <;> (first | (exact absurd _h (by decide)) | (exfalso; simp only [boolSet] at _h <;> omega) | skip)))
      all_goals (try conv => whnf)
      exact ⟨(k + 1, c), ⟨by dsimp only; omega, by rw [hsu]; exact hc⟩, by dsimp only; omega, ⟨⟨[0], by decide, GG_no, rfl, SubOld.refl _ rfl, ⟨.inr (.inl (by dsimp only; rw [hsu]; rfl)), trivial⟩, ⟨.inl rfl, .inl rfl, .inl (by dsimp only; rw [hsu]; rfl), .inl (num_eq (by rw [IntKind.wrap_i64]; omega)), trivial⟩⟩, rfl⟩⟩
    · rw [if_pos hx] at hsu
      repeat' ((try conv => whnf); first
        | (with_reducible refine OKv.go (C := seat) seat_ok ?_)
        | (with_reducible refine BB_true ?_)
        | (with_reducible refine BB_false ?_)
        | (with_reducible refine Both.mk ?_ ?_)
        | (with_reducible refine VS.mk ?_)
        | (refine PSem.go (C := seat) seat_ok ?_)
        | (refine And.intro (PlanOK.mk (by kernel_rfl) rfl (by kernel_rfl) (by kernel_rfl)) ?_)
        | (refine And.intro rfl (Exists.intro _ (And.intro (by first | assumption | rfl) ?_)))
        | (refine And.intro ⟨rfl, rfl, rfl⟩ ?_)
        | (refine And.intro ⟨by omega, by simp only [List.length_map]; omega⟩ (Exists.intro _ (And.intro (by first | assumption | rfl) ?_)))
        | (refine BB.mk (fun _h => ?_) (fun _h => ?_) <;> (first | (exact absurd _h (by decide)) | (exfalso; simp only [boolSet] at _h <;> omega) | (simp only [boolSet] at _h) | skip))
        | (refine And.intro ⟨rfl, rfl, rfl, by first | (simp only [lenS] <;> omega) | omega | rfl⟩ ?_)
        | (refine And.intro ⟨rfl, by first | (simp only [lenS] <;> omega) | omega | rfl⟩ ?_)
        | (refine And.intro (by first | exact ⟨rfl, Nat.le_refl _⟩ | first | (simp only [lenS] <;> omega) | omega | rfl) ?_)
        | (refine fun (caps : Nat → Nat) hcaps => ?_; conv at hcaps => whnf)
        | (refine fun (cap' : Nat) hcap' => ?_)
        | (refine And.intro (by omega) ?_)
        | (refine BB.mk (fun _h => ?_) (fun _h => ?_) <;> (first | (exact absurd _h (by decide)) | (exfalso; simp only [boolSet] at _h <;> omega) | skip)))
      all_goals (try conv => whnf)
      exact ⟨(k + 1, cap'), ⟨by dsimp only; omega, by rw [hsu, List.length_append]; exact hcap'⟩, by dsimp only; omega, ⟨⟨[2], by decide, GG_no, rfl, SubOld.refl _ rfl, ⟨.inr (.inl (by dsimp only; rw [hsu, List.map_append]; rfl)), trivial⟩, ⟨.inl rfl, .inl rfl, .inl (by dsimp only; rw [hsu, List.length_append]; rfl), .inl (num_eq (by rw [IntKind.wrap_i64]; omega)), trivial⟩⟩, rfl⟩⟩
  · obtain rfl : k = l.length := by omega
    have hfin : r9F x (l.take l.length) = o := by rw [List.take_length, r9F_drop hr, ho]
    repeat' ((try conv => whnf); first
      | (with_reducible refine OKv.go (C := seat) seat_ok ?_)
      | (with_reducible refine BB_true ?_)
      | (with_reducible refine BB_false ?_)
      | (with_reducible refine Both.mk ?_ ?_)
      | (with_reducible refine VS.mk ?_)
      | (refine PSem.go (C := seat) seat_ok ?_)
      | (refine And.intro (PlanOK.mk (by kernel_rfl) rfl (by kernel_rfl) (by kernel_rfl)) ?_)
      | (refine And.intro rfl (Exists.intro _ (And.intro (by first | assumption | rfl) ?_)))
      | (refine And.intro ⟨rfl, rfl, rfl⟩ ?_)
      | (refine BB.mk (fun _h => ?_) (fun _h => ?_) <;> (first | (exact absurd _h (by decide)) | (exfalso; simp only [boolSet] at _h <;> omega) | (simp only [boolSet] at _h) | skip))
      | (refine And.intro (by omega) ?_)
      | (refine BB.mk (fun _h => ?_) (fun _h => ?_) <;> (first | (exact absurd _h (by decide)) | (exfalso; simp only [boolSet] at _h <;> omega) | skip)))
    all_goals (try conv => whnf)
    exact ⟨_, _, frz_row rfl (List.length_map _).symm, rfl, rfl, fun _ => rfl, c, (by rw [← hfin]; exact hc), (by rw [← hfin])⟩
set_option maxRecDepth 100000 in
set_option maxHeartbeats 4000000 in
theorem roldest_ok (l : List De) (cl : Nat) (hl : l.length ≤ 1099511627776) (hag : ∀ y ∈ l, 0 ≤ y.age ∧ y.age ≤ 255) (z : Int) (hz : oldZ (oldAt l l.length) = z) : FnOK Try.prog GG 28 [] [.z 4 (l.map deC) cl] (fun r _ ext => (r = .v (.int .i64 z)) ∧ ext = []) := by
  have hlm : (l.map deC).length = l.length := List.length_map _
  refine FnOK.pure GG_no rfl (fn_intro (C := seat) seat_ok [] GG_no (Try.func28) rfl rfl rfl rfl rfl ?_)
  repeat' ((try conv => whnf); first
    | (with_reducible refine OKv.go (C := seat) seat_ok ?_)
    | (with_reducible refine BB_true ?_)
    | (with_reducible refine BB_false ?_)
    | (with_reducible refine Both.mk ?_ ?_)
    | (with_reducible refine VS.mk ?_)
    | (refine PSem.go (C := seat) seat_ok ?_)
    | (refine And.intro (PlanOK.mk (by kernel_rfl) rfl (by kernel_rfl) (by kernel_rfl)) ?_)
    | (refine And.intro rfl (Exists.intro _ (And.intro (by first | assumption | rfl) ?_)))
    | (refine And.intro ⟨rfl, rfl, rfl⟩ ?_)
    | (refine And.intro (by omega) ?_)
    | (refine BB.mk (fun _h => ?_) (fun _h => ?_) <;> (first | (exact absurd _h (by decide)) | (exfalso; simp only [boolSet] at _h <;> omega) | skip)))
  all_goals (try conv => whnf)
  refine loop_rule (α := Nat) (fun k => k ≤ 256 ∧ ∀ y ∈ l, y.age ≤ 255 - (k : Int)) (fun k => { slots := [(0, .z 4 (l.map deC) cl), (3, .v (.int .i64 (255 - (k : Int))))], nt := 24, mem := ⟨GG, [], []⟩ }) (fun k => 256 - k) 0 ⟨Nat.zero_le _, fun y hy => by have := (hag y hy).2; omega⟩ ⟨⟨[], List.nodup_nil, GG_no, rfl, (SubOld.refl _ rfl), trivial, ⟨.inl rfl, .inl rfl, trivial⟩⟩, rfl⟩ ?_ (fun _ => rfl)
  rintro k ⟨hk, hmax⟩
  refine vc_sound (C := seat) seat_ok (pl := []) ?_
  by_cases hk6 : k < 256
  · skip
    repeat' ((try conv => whnf); first
      | (with_reducible refine OKv.go (C := seat) seat_ok ?_)
      | (with_reducible refine BB_true ?_)
      | (with_reducible refine BB_false ?_)
      | (with_reducible refine Both.mk ?_ ?_)
      | (with_reducible refine VS.mk ?_)
      | (refine PSem.go (C := seat) seat_ok ?_)
      | (refine And.intro (PlanOK.mk (by kernel_rfl) rfl (by kernel_rfl) (by kernel_rfl)) ?_)
      | (refine And.intro rfl (Exists.intro _ (And.intro (by first | assumption | rfl) ?_)))
      | (refine And.intro ⟨rfl, rfl, rfl⟩ ?_)
      | (refine BB.mk (fun _h => ?_) (fun _h => ?_) <;> (first | (exact absurd _h (by decide)) | (exfalso; simp only [boolSet] at _h <;> omega) | (simp only [boolSet] at _h) | skip))
      | (refine And.intro (by omega) ?_)
      | (refine BB.mk (fun _h => ?_) (fun _h => ?_) <;> (first | (exact absurd _h (by decide)) | (exfalso; simp only [boolSet] at _h <;> omega) | skip)))
    all_goals (try conv => whnf)
    refine loop_rule (α := Nat) (fun i => i ≤ l.length ∧ ∀ (j : Nat) y, j < i → l[j]? = some y → y.age ≠ 255 - (k : Int)) (fun i => { slots := [(0, .z 4 (l.map deC) cl), (3, .v (.int .i64 (255 - (k : Int)))), (4, .v (.int .i64 (i : Int)))], nt := 24, mem := ⟨GG, [], []⟩ }) (fun i => l.length - i) 0 ⟨Nat.zero_le _, fun j y h => absurd h (Nat.not_lt_zero _)⟩ ⟨⟨[], List.nodup_nil, GG_no, rfl, (SubOld.refl _ rfl), trivial, ⟨.inl rfl, .inl rfl, .inl rfl, trivial⟩⟩, rfl⟩ ?_ (fun _ => rfl)
    rintro i ⟨hi, hno⟩
    refine vc_sound (C := seat) seat_ok (pl := []) ?_
    by_cases hlt : i < l.length
    · obtain ⟨y, hy⟩ : ∃ y, l[i]? = some y := ⟨_, List.getElem?_eq_getElem hlt⟩
      have hrow := zde9 hy
      have hya := hag y (List.mem_of_getElem? hy)
      have hw : IntKind.i64.wrap y.age = y.age := by rw [IntKind.wrap_i64]; omega
      by_cases hx : y.age = 255 - (k : Int)
      · have hO := (r9old hy (fun z hz => by have := hmax z hz; omega) (fun j z hj hjz => by have := hno j z hj hjz; omega)).symm.trans hz
        repeat' ((try conv => whnf); first
          | (with_reducible refine OKv.go (C := seat) seat_ok ?_)
          | (with_reducible refine BB_true ?_)
          | (with_reducible refine BB_false ?_)
          | (with_reducible refine Both.mk ?_ ?_)
          | (with_reducible refine VS.mk ?_)
          | (refine PSem.go (C := seat) seat_ok ?_)
          | (refine And.intro (PlanOK.mk (by kernel_rfl) rfl (by kernel_rfl) (by kernel_rfl)) ?_)
          | (refine And.intro rfl (Exists.intro _ (And.intro (by first | assumption | rfl) ?_)))
          | (refine And.intro ⟨rfl, rfl, rfl⟩ ?_)
          | (refine And.intro ⟨by omega, by simp only [List.length_map]; omega⟩ (Exists.intro _ (And.intro (by first | assumption | rfl) ?_)))
          | (refine BB.mk (fun _h => ?_) (fun _h => ?_) <;> (first | (exact absurd _h (by decide)) | (exfalso; simp only [boolSet] at _h <;> omega) | (simp only [boolSet] at _h) | skip))
          | (refine And.intro (by omega) ?_)
          | (refine BB.mk (fun _h => ?_) (fun _h => ?_) <;> (first | (exact absurd _h (by decide)) | (exfalso; simp only [boolSet] at _h <;> omega) | skip)))
        all_goals (try conv => whnf)
        exact ⟨_, _, FrzV.refl _ _, rfl, rfl, fun _ => rfl, by rw [← hO]⟩
      · skip
        repeat' ((try conv => whnf); first
          | (with_reducible refine OKv.go (C := seat) seat_ok ?_)
          | (with_reducible refine BB_true ?_)
          | (with_reducible refine BB_false ?_)
          | (with_reducible refine Both.mk ?_ ?_)
          | (with_reducible refine VS.mk ?_)
          | (refine PSem.go (C := seat) seat_ok ?_)
          | (refine And.intro (PlanOK.mk (by kernel_rfl) rfl (by kernel_rfl) (by kernel_rfl)) ?_)
          | (refine And.intro rfl (Exists.intro _ (And.intro (by first | assumption | rfl) ?_)))
          | (refine And.intro ⟨rfl, rfl, rfl⟩ ?_)
          | (refine And.intro ⟨by omega, by simp only [List.length_map]; omega⟩ (Exists.intro _ (And.intro (by first | assumption | rfl) ?_)))
          | (refine BB.mk (fun _h => ?_) (fun _h => ?_) <;> (first | (exact absurd _h (by decide)) | (exfalso; simp only [boolSet] at _h <;> omega) | (simp only [boolSet] at _h) | skip))
          | (refine And.intro (by omega) ?_)
          | (refine BB.mk (fun _h => ?_) (fun _h => ?_) <;> (first | (exact absurd _h (by decide)) | (exfalso; simp only [boolSet] at _h <;> omega) | skip)))
        all_goals (try conv => whnf)
        exact ⟨i + 1, ⟨by omega, fun j z hj hz => by
            rcases Nat.lt_succ_iff_lt_or_eq.1 hj with h | rfl
            · exact hno j z h hz
            · rw [hy] at hz; cases hz; exact hx⟩, by omega, ⟨⟨[], by decide, GG_no, rfl, SubOld.refl _ rfl, trivial, ⟨.inl rfl, .inl rfl, .inl (num_eq (by rw [IntKind.wrap_i64]; omega)), trivial⟩⟩, rfl⟩⟩
    · obtain rfl : i = l.length := by omega
      repeat' ((try conv => whnf); first
        | (with_reducible refine OKv.go (C := seat) seat_ok ?_)
        | (with_reducible refine BB_true ?_)
        | (with_reducible refine BB_false ?_)
        | (with_reducible refine Both.mk ?_ ?_)
        | (with_reducible refine VS.mk ?_)
        | (refine PSem.go (C := seat) seat_ok ?_)
        | (refine And.intro (PlanOK.mk (by kernel_rfl) rfl (by kernel_rfl) (by kernel_rfl)) ?_)
        | (refine And.intro rfl (Exists.intro _ (And.intro (by first | assumption | rfl) ?_)))
        | (refine And.intro ⟨rfl, rfl, rfl⟩ ?_)
        | (refine BB.mk (fun _h => ?_) (fun _h => ?_) <;> (first | (exact absurd _h (by decide)) | (exfalso; simp only [boolSet] at _h <;> omega) | (simp only [boolSet] at _h) | skip))
        | (refine And.intro (by omega) ?_)
        | (refine BB.mk (fun _h => ?_) (fun _h => ?_) <;> (first | (exact absurd _h (by decide)) | (exfalso; simp only [boolSet] at _h <;> omega) | skip)))
      all_goals (try conv => whnf)
      exact ⟨k + 1, ⟨by omega, fun y hy => by
          obtain ⟨j, hj⟩ := List.mem_iff_getElem?.1 hy
          have h1 := hno j y (getElem?_lt hj) hj
          have h2 := hmax y hy
          omega⟩, by omega, ⟨⟨[], by decide, GG_no, rfl, SubOld.refl _ rfl, trivial, ⟨.inl rfl, .inl (num_eq (by rw [IntKind.wrap_i64]; omega)), trivial⟩⟩, rfl⟩⟩
  · have hempty : l = [] := by
      cases l with
      | nil => rfl
      | cons y r =>
        have h1 := hmax y List.mem_cons_self
        have h2 := (hag y List.mem_cons_self).1
        omega
    subst hempty
    have hO : (-1 : Int) = z := hz
    repeat' ((try conv => whnf); first
      | (with_reducible refine OKv.go (C := seat) seat_ok ?_)
      | (with_reducible refine BB_true ?_)
      | (with_reducible refine BB_false ?_)
      | (with_reducible refine Both.mk ?_ ?_)
      | (with_reducible refine VS.mk ?_)
      | (refine PSem.go (C := seat) seat_ok ?_)
      | (refine And.intro (PlanOK.mk (by kernel_rfl) rfl (by kernel_rfl) (by kernel_rfl)) ?_)
      | (refine And.intro rfl (Exists.intro _ (And.intro (by first | assumption | rfl) ?_)))
      | (refine And.intro ⟨rfl, rfl, rfl⟩ ?_)
      | (refine BB.mk (fun _h => ?_) (fun _h => ?_) <;> (first | (exact absurd _h (by decide)) | (exfalso; simp only [boolSet] at _h <;> omega) | (simp only [boolSet] at _h) | skip))
      | (refine And.intro (by omega) ?_)
      | (refine BB.mk (fun _h => ?_) (fun _h => ?_) <;> (first | (exact absurd _h (by decide)) | (exfalso; simp only [boolSet] at _h <;> omega) | skip)))
    all_goals (try conv => whnf)
    exact ⟨_, _, FrzV.refl _ _, rfl, rfl, fun _ => rfl, by rw [← hO]⟩
end Go.Proofs.Ytfjankcpnhfogaa

namespace Go.Proofs.Ytfjankcpnhfogaa
open Go.RowKit

theorem r9S_in {d y : De} {p : List De × Bool} (h1 : p.2 = false) (h2 : d.node ≤ y.node) : r9S d p y = if y.node ≠ d.node then (p.1 ++ [d] ++ [y], true) else (p.1 ++ [d], true) := by
  unfold r9S
  dsimp only
  rw [if_pos (show p.2 = false ∧ d.node ≤ y.node from ⟨h1, h2⟩)]
theorem r9S_out {d y : De} {p : List De × Bool} (h : ¬ (p.2 = false ∧ d.node ≤ y.node)) : r9S d p y = if y.node ≠ d.node then (p.1 ++ [y], p.2) else p := by
  unfold r9S
  dsimp only
  rw [if_neg h]
set_option maxRecDepth 100000 in
set_option maxHeartbeats 4000000 in
theorem rput_no (l : List De) (cl : Nat) (hl : l.length ≤ 1000) (hr : Rising l) (d : De) (cd : Nat) (hcd : d.fl.length ≤ cd) (self room : Int) (hb : d.node = self ∨ d.inc = 0 ∨ findZ d.node l = -1 ∧ room ≤ l.length) : FnOK Try.prog GG 20 [] [.z 4 (l.map deC) cl, deS d cd, .v (.int .u8 self), .v (.int .i64 room)] (fun r _ ext => (∃ c', l.length ≤ c' ∧ r = .tup [.z 4 (l.map deC) c', .v (.bool false)]) ∧ ext = []) := by
  have hlm : (l.map deC).length = l.length := List.length_map _
  refine FnOK.pure GG_no rfl (fn_intro (C := seat) seat_ok [(2, (.of [(0, .take), (1, .take), (2, .take), (3, .take), (4, .take), (5, .take), (6, .take), (7, .take), (8, .take), (9, .take), (10, .take), (11, .take), (12, .take), (13, .take), (14, .take), (15, .take), (16, .take), (17, .take), (18, .do_), (19, .take), (20, .take), (21, .take), (22, .take), (23, .take), (24, .take), (25, .take), (26, .take), (27, .take), (28, .take), (29, .take), (30, .take), (31, .take)])), (10, (.of [(0, .take), (1, .take), (2, .take), (3, .take), (4, .take), (5, .take), (6, .take), (7, .take), (8, .take), (9, .take), (10, .take), (11, .take)])), (13, (.of [(0, .take), (1, .take), (2, .take), (3, .take), (4, .take), (5, .take), (6, .take), (7, .take)]))] GG_no (Try.func20) rfl rfl rfl rfl rfl ?_)
  repeat' ((try conv => whnf); first
    | (with_reducible refine OKv.go (C := seat) seat_ok ?_)
    | (with_reducible refine BB_true ?_)
    | (with_reducible refine BB_false ?_)
    | (with_reducible refine Both.mk ?_ ?_)
    | (with_reducible refine VS.mk ?_)
    | (refine PSem.go (C := seat) seat_ok ?_)
    | (refine And.intro (PlanOK.mk (by kernel_rfl) rfl (by kernel_rfl) (by kernel_rfl)) ?_)
    | (refine And.intro rfl (Exists.intro _ (And.intro (by first | assumption | rfl) ?_)))
    | (refine And.intro ⟨rfl, rfl, rfl⟩ ?_)
    | (refine call_ro [] (rfind_ok l cl d.node (by omega) hr _ rfl) GG_no rfl rfl rfl trivial ?_; rintro r bs' ext ⟨rfl, rfl⟩)
    | (refine BB.mk (fun _h => ?_) (fun _h => ?_) <;> (first | (exact absurd _h (by decide)) | (exfalso; simp only [boolSet] at _h <;> omega) | (simp only [boolSet] at _h) | skip))
    | (refine And.intro ⟨rfl, rfl, rfl, by first | (simp only [lenS] <;> omega) | omega | rfl⟩ ?_)
    | (refine And.intro ⟨rfl, by first | (simp only [lenS] <;> omega) | omega | rfl⟩ ?_)
    | (refine And.intro (by first | exact ⟨rfl, Nat.le_refl _⟩ | first | (simp only [lenS] <;> omega) | omega | rfl) ?_)
    | (refine fun (caps : Nat → Nat) hcaps => ?_; conv at hcaps => whnf)
    | (refine fun (cap' : Nat) hcap' => ?_)
    | (refine And.intro (by omega) ?_)
    | (refine BB.mk (fun _h => ?_) (fun _h => ?_) <;> (first | (exact absurd _h (by decide)) | (exfalso; simp only [boolSet] at _h <;> omega) | skip)))
  all_goals (try conv => whnf)
  all_goals first
    | exact ⟨_, _, frz_tup 0 rfl (frz_row rfl (by simp)) rfl, rfl, rfl, fun _ => rfl, cap', (by simpa using hcap'), rfl⟩
    | exact ⟨_, _, frz_tup 0 rfl (frz_row rfl rfl) rfl, rfl, rfl, fun _ => rfl, cap', (by simpa using hcap'), rfl⟩
    | (exfalso; omega)
set_option maxRecDepth 100000 in
set_option maxHeartbeats 4000000 in
theorem rput_old (l : List De) (cl : Nat) (hl : l.length ≤ 1000) (hr : Rising l) (d : De) (cd : Nat) (hcd : d.fl.length ≤ cd) (self room : Int) (y : De) (k : Nat) (hy : l[k]? = some y) (hF : findZ d.node l = (k : Int)) (hn : d.node ≠ self) (hi : d.inc ≠ 0) (hnb : newB d y = false) : FnOK Try.prog GG 20 [] [.z 4 (l.map deC) cl, deS d cd, .v (.int .u8 self), .v (.int .i64 room)] (fun r _ ext => (∃ c', l.length ≤ c' ∧ r = .tup [.z 4 (l.map deC) c', .v (.bool false)]) ∧ ext = []) := by
  have hlm : (l.map deC).length = l.length := List.length_map _
  have hrow := zde9 hy
  have hkl := getElem?_lt hy
  refine FnOK.pure GG_no rfl (fn_intro (C := seat) seat_ok [(2, (.of [(0, .take), (1, .take), (2, .take), (3, .take), (4, .take), (5, .take), (6, .take), (7, .take), (8, .take), (9, .take), (10, .take), (11, .take), (12, .take), (13, .take), (14, .take), (15, .take), (16, .take), (17, .take), (18, .do_), (19, .take), (20, .take), (21, .take), (22, .take), (23, .take), (24, .take), (25, .take), (26, .take), (27, .take), (28, .take), (29, .take), (30, .take), (31, .take)])), (10, (.of [(0, .take), (1, .take), (2, .take), (3, .take), (4, .take), (5, .take), (6, .take), (7, .take), (8, .take), (9, .take), (10, .take), (11, .take)])), (13, (.of [(0, .take), (1, .take), (2, .take), (3, .take), (4, .take), (5, .take), (6, .take), (7, .take)]))] GG_no (Try.func20) rfl rfl rfl rfl rfl ?_)
  repeat' ((try conv => whnf); first
    | (with_reducible refine OKv.go (C := seat) seat_ok ?_)
    | (with_reducible refine BB_true ?_)
    | (with_reducible refine BB_false ?_)
    | (with_reducible refine Both.mk ?_ ?_)
    | (with_reducible refine VS.mk ?_)
    | (refine PSem.go (C := seat) seat_ok ?_)
    | (refine And.intro (PlanOK.mk (by kernel_rfl) rfl (by kernel_rfl) (by kernel_rfl)) ?_)
    | (refine And.intro rfl (Exists.intro _ (And.intro (by first | assumption | rfl) ?_)))
    | (refine And.intro ⟨rfl, rfl, rfl⟩ ?_)
    | (refine call_ro [] (rfind_ok l cl d.node (by omega) hr _ hF) GG_no rfl rfl rfl trivial ?_; rintro r bs' ext ⟨rfl, rfl⟩)
    | (refine call_ro [] (rnewer_ok d y _ _ false hnb) GG_no rfl rfl rfl trivial ?_; rintro r bs' ext ⟨rfl, rfl⟩)
    | (refine And.intro ⟨by omega, by simp only [List.length_map]; omega⟩ (Exists.intro _ (And.intro (by first | assumption | rfl) ?_)))
    | (refine fun (caps : Nat → Nat) hcaps => ?_; conv at hcaps => whnf)
    | (refine BB.mk (fun _h => ?_) (fun _h => ?_) <;> (first | (exact absurd _h (by decide)) | (exfalso; simp only [boolSet] at _h <;> omega) | (simp only [boolSet] at _h) | skip))
    | (refine And.intro ⟨rfl, rfl, rfl, by first | (simp only [lenS] <;> omega) | omega | rfl⟩ ?_)
    | (refine And.intro ⟨rfl, by first | (simp only [lenS] <;> omega) | omega | rfl⟩ ?_)
    | (refine And.intro (by first | exact ⟨rfl, Nat.le_refl _⟩ | first | (simp only [lenS] <;> omega) | omega | rfl) ?_)
    | (refine fun (caps : Nat → Nat) hcaps => ?_; conv at hcaps => whnf)
    | (refine fun (cap' : Nat) hcap' => ?_)
    | (refine And.intro (by omega) ?_)
    | (refine BB.mk (fun _h => ?_) (fun _h => ?_) <;> (first | (exact absurd _h (by decide)) | (exfalso; simp only [boolSet] at _h <;> omega) | skip)))
  all_goals (try conv => whnf)
  all_goals first
    | exact ⟨_, _, frz_tup 0 rfl (frz_row rfl (by simp)) rfl, rfl, rfl, fun _ => rfl, cap', (by simpa using hcap'), rfl⟩
    | (exfalso; omega)
end Go.Proofs.Ytfjankcpnhfogaa

namespace Go.Proofs.Ytfjankcpnhfogaa
open Go.RowKit

set_option maxRecDepth 100000 in
set_option maxHeartbeats 4000000 in
theorem rput_in (l : List De) (cl : Nat) (hl : l.length ≤ 1000) (hr : Rising l) (d : De) (cd : Nat) (hcd : d.fl.length ≤ cd) (self room : Int) (hf : FlOk l) (hdl : d.fl.length ≤ 1099511627776) (hn : d.node ≠ self) (hi : d.inc ≠ 0) (hc0 : findZ d.node l = -1 ∧ (l.length : Int) < room ∨ ∃ (k : Nat) (y : De), l[k]? = some y ∧ findZ d.node l = (k : Int) ∧ newB d y = true) (o : List De) (ho : (if findZ d.node l = -1 then insL l (placeN d.node l) d else l.set (placeN d.node l) d) = o) : FnOK Try.prog GG 20 [] [.z 4 (l.map deC) cl, deS d cd, .v (.int .u8 self), .v (.int .i64 room)] (fun r _ ext => (∃ c', o.length ≤ c' ∧ r = .tup [.z 4 (o.map deC) c', .v (.bool true)]) ∧ ext = []) := by
  have hlm : (l.map deC).length = l.length := List.length_map _
  rcases hc0 with ⟨hF, hrm⟩ | ⟨kk, y0, hy0, hF, hnb⟩
  all_goals
   (try have hrow0 := zde9 hy0)
   (try have hk0 := getElem?_lt hy0)
   refine FnOK.pure GG_no rfl (fn_intro (C := seat) seat_ok [(2, (.of [(0, .take), (1, .take), (2, .take), (3, .take), (4, .take), (5, .take), (6, .take), (7, .take), (8, .take), (9, .take), (10, .take), (11, .take), (12, .take), (13, .take), (14, .take), (15, .take), (16, .take), (17, .take), (18, .do_), (19, .take), (20, .take), (21, .take), (22, .take), (23, .take), (24, .take), (25, .take), (26, .take), (27, .take), (28, .take), (29, .take), (30, .take), (31, .take)])), (10, (.of [(0, .take), (1, .take), (2, .take), (3, .take), (4, .take), (5, .take), (6, .take), (7, .take), (8, .take), (9, .take), (10, .take), (11, .take)])), (13, (.of [(0, .take), (1, .take), (2, .take), (3, .take), (4, .take), (5, .take), (6, .take), (7, .take)]))] GG_no (Try.func20) rfl rfl rfl rfl rfl ?_)
  all_goals skip
  repeat' ((try conv => whnf); first
    | (with_reducible refine OKv.go (C := seat) seat_ok ?_)
    | (with_reducible refine BB_true ?_)
    | (with_reducible refine BB_false ?_)
    | (with_reducible refine Both.mk ?_ ?_)
    | (with_reducible refine VS.mk ?_)
    | (refine PSem.go (C := seat) seat_ok ?_)
    | (refine And.intro (PlanOK.mk (by kernel_rfl) rfl (by kernel_rfl) (by kernel_rfl)) ?_)
    | (refine And.intro rfl (Exists.intro _ (And.intro (by first | assumption | rfl) ?_)))
    | (refine And.intro ⟨rfl, rfl, rfl⟩ ?_)
    | (refine call_ro [] (rfind_ok l cl d.node (by omega) hr _ hF) GG_no rfl rfl rfl trivial ?_; rintro r bs' ext ⟨rfl, rfl⟩)
    | (refine call_ro [] (rnewer_ok d y0 _ _ true hnb) GG_no rfl rfl rfl trivial ?_; rintro r bs' ext ⟨rfl, rfl⟩)
    | (refine And.intro ⟨by omega, by simp only [List.length_map]; omega⟩ (Exists.intro _ (And.intro (by first | assumption | rfl) ?_)))
    | (refine fun (caps : Nat → Nat) hcaps => ?_; conv at hcaps => whnf)
    | (refine BB.mk (fun _h => ?_) (fun _h => ?_) <;> (first | (exact absurd _h (by decide)) | (exfalso; simp only [boolSet] at _h <;> omega) | (simp only [boolSet] at _h) | skip))
    | (refine And.intro (by omega) ?_)
    | (refine BB.mk (fun _h => ?_) (fun _h => ?_) <;> (first | (exact absurd _h (by decide)) | (exfalso; simp only [boolSet] at _h <;> omega) | skip)))
  all_goals (try conv => whnf)
  all_goals refine loop_rule (α := Nat × Nat) (fun p => p.1 ≤ l.length ∧ (r9P d l p.1).1.length ≤ p.2) (fun p => { slots := [(0, .z 4 (l.map deC) cl), (5, .p (.n 0) 0 0 0), (12, .s (.n 1) 4 0 (r9P d l p.1).1.length p.2), (13, .v (.bool (r9P d l p.1).2)), (14, .v (.int .i64 (p.1 : Int)))], nt := 98, mem := ⟨GG, [], [.box 27 [.v (.int .u8 d.node), .v (.int .u16 d.inc), .v (.int .u8 d.age), .z 2 (d.fl.map spC) cd], .row 27 4 p.2 ((r9P d l p.1).1.map deC)]⟩ }) (fun p => l.length - p.1) (0, 0) ⟨Nat.zero_le _, Nat.zero_le _⟩ ⟨⟨[0, 1], (by decide), GG_no, rfl, (SubOld.refl _ rfl), ⟨rfl, .inl (.inl ⟨rfl, rfl⟩), trivial⟩, ⟨.inl rfl, .inl rfl, .inr (.inl ⟨_, _, _, rfl, rfl⟩), .inl rfl, .inl rfl, trivial⟩⟩, rfl⟩ ?_ (fun _ => rfl)
  all_goals
    rintro ⟨k, c⟩ ⟨hk, hc⟩
    dsimp only at hk hc ⊢
    refine vc_sound (C := seat) seat_ok (pl := [(2, (.of [(0, .take), (1, .take), (2, .take), (3, .take), (4, .take), (5, .take), (6, .take), (7, .take), (8, .take), (9, .take), (10, .take), (11, .take), (12, .take), (13, .take), (14, .take), (15, .take), (16, .take), (17, .take), (18, .do_), (19, .take), (20, .take), (21, .take), (22, .take), (23, .take), (24, .take), (25, .take), (26, .take), (27, .take), (28, .take), (29, .take), (30, .take), (31, .take)])), (10, (.of [(0, .take), (1, .take), (2, .take), (3, .take), (4, .take), (5, .take), (6, .take), (7, .take), (8, .take), (9, .take), (10, .take), (11, .take)])), (13, (.of [(0, .take), (1, .take), (2, .take), (3, .take), (4, .take), (5, .take), (6, .take), (7, .take)]))]) ?_
    have hpl := r9P_len d l k
    have hend := (r9P_end (d := d) hr).trans ho
    by_cases hlt : k < l.length
    · obtain ⟨y, hy⟩ : ∃ y, l[k]? = some y := ⟨_, List.getElem?_eq_getElem hlt⟩
      have hrow := zde9 hy
      have hnx : r9P d l (k + 1) = r9S d (r9P d l k) y := by rw [r9P, hy]
      generalize r9P d l k = p at *
      obtain ⟨q, b⟩ := p
      dsimp only at hpl hc ⊢
      have hqm : (q.map deC).length = q.length := List.length_map _
      by_cases hin : b = false ∧ d.node ≤ y.node
      · rw [r9S_in hin.1 hin.2] at hnx
        obtain ⟨rfl, hle⟩ := hin
        by_cases hx : y.node = d.node
        · rw [if_neg (fun h => h hx)] at hnx
          try dsimp only at hnx
          repeat' ((try conv => whnf); first
            | (with_reducible refine OKv.go (C := seat) seat_ok ?_)
            | (with_reducible refine BB_true ?_)
            | (with_reducible refine BB_false ?_)
            | (with_reducible refine Both.mk ?_ ?_)
            | (with_reducible refine VS.mk ?_)
            | (refine PSem.go (C := seat) seat_ok ?_)
            | (refine And.intro (PlanOK.mk (by kernel_rfl) rfl (by kernel_rfl) (by kernel_rfl)) ?_)
            | (refine And.intro rfl (Exists.intro _ (And.intro (by first | assumption | rfl) ?_)))
            | (refine And.intro ⟨rfl, rfl, rfl⟩ ?_)
            | (refine And.intro ⟨by omega, by simp only [List.length_map]; omega⟩ (Exists.intro _ (And.intro (by first | assumption | rfl) ?_)))
            | (refine fun (caps : Nat → Nat) hcaps => ?_; conv at hcaps => whnf)
            | (refine BB.mk (fun _h => ?_) (fun _h => ?_) <;> (first | (exact absurd _h (by decide)) | (exfalso; simp only [boolSet] at _h <;> omega) | (simp only [boolSet] at _h) | skip))
            | (refine And.intro ⟨rfl, rfl, rfl, by first | (simp only [lenS] <;> omega) | omega | rfl⟩ ?_)
            | (refine And.intro ⟨rfl, by first | (simp only [lenS] <;> omega) | omega | rfl⟩ ?_)
            | (refine And.intro (by first | exact ⟨rfl, Nat.le_refl _⟩ | first | (simp only [lenS] <;> omega) | omega | rfl) ?_)
            | (refine fun (caps : Nat → Nat) hcaps => ?_; conv at hcaps => whnf)
            | (refine fun (cap' : Nat) hcap' => ?_)
            | (refine And.intro (by omega) ?_)
            | (refine BB.mk (fun _h => ?_) (fun _h => ?_) <;> (first | (exact absurd _h (by decide)) | (exfalso; simp only [boolSet] at _h <;> omega) | skip)))
          all_goals (try conv => whnf)
          exact ⟨(k + 1, cap'), ⟨by dsimp only; omega, by dsimp only; rw [hnx]; rw [List.length_append]; exact hcap'⟩, by dsimp only; omega, ⟨⟨[0, 3], by decide, GG_no, rfl, SubOld.refl _ rfl, ⟨rfl, .inr (.inl (by dsimp only; rw [hnx]; rw [List.map_append]; rfl)), trivial⟩, ⟨.inl rfl, .inl rfl, .inl (by dsimp only; rw [hnx]; rw [List.length_append]; rfl), .inl (by dsimp only; rw [hnx]; rfl), .inl (num_eq (by rw [IntKind.wrap_i64]; omega)), trivial⟩⟩, rfl⟩⟩
        · rw [if_pos hx] at hnx
          try dsimp only at hnx
          repeat' ((try conv => whnf); first
            | (with_reducible refine OKv.go (C := seat) seat_ok ?_)
            | (with_reducible refine BB_true ?_)
            | (with_reducible refine BB_false ?_)
            | (with_reducible refine Both.mk ?_ ?_)
            | (with_reducible refine VS.mk ?_)
            | (refine PSem.go (C := seat) seat_ok ?_)
            | (refine And.intro (PlanOK.mk (by kernel_rfl) rfl (by kernel_rfl) (by kernel_rfl)) ?_)
            | (refine And.intro rfl (Exists.intro _ (And.intro (by first | assumption | rfl) ?_)))
            | (refine And.intro ⟨rfl, rfl, rfl⟩ ?_)
            | (refine And.intro ⟨by omega, by simp only [List.length_map]; omega⟩ (Exists.intro _ (And.intro (by first | assumption | rfl) ?_)))
            | (refine BB.mk (fun _h => ?_) (fun _h => ?_) <;> (first | (exact absurd _h (by decide)) | (exfalso; simp only [boolSet] at _h <;> omega) | (simp only [boolSet] at _h) | skip))
            | (refine And.intro ⟨rfl, rfl, rfl, by first | (simp only [lenS] <;> omega) | omega | rfl⟩ ?_)
            | (refine And.intro ⟨rfl, by first | (simp only [lenS] <;> omega) | omega | rfl⟩ ?_)
            | (refine And.intro (by first | exact ⟨rfl, Nat.le_refl _⟩ | first | (simp only [lenS] <;> omega) | omega | rfl) ?_)
            | (refine fun (caps : Nat → Nat) hcaps => ?_; conv at hcaps => whnf)
            | (refine fun (cap' : Nat) hcap' => ?_)
            | (refine And.intro (by omega) ?_)
            | (refine BB.mk (fun _h => ?_) (fun _h => ?_) <;> (first | (exact absurd _h (by decide)) | (exfalso; simp only [boolSet] at _h <;> omega) | skip)))
          all_goals (try conv => whnf)
          exact ⟨(k + 1, cap'), ⟨by dsimp only; omega, by dsimp only; rw [hnx]; rw [List.length_append, List.length_append]; exact hcap'⟩, by dsimp only; omega, ⟨⟨[0, 5], by decide, GG_no, rfl, SubOld.refl _ rfl, ⟨rfl, .inr (.inl (by dsimp only; rw [hnx]; rw [List.map_append, List.map_append]; rfl)), trivial⟩, ⟨.inl rfl, .inl rfl, .inl (by dsimp only; rw [hnx]; rw [List.length_append, List.length_append]; rfl), .inl (by dsimp only; rw [hnx]; rfl), .inl (num_eq (by rw [IntKind.wrap_i64]; omega)), trivial⟩⟩, rfl⟩⟩
      · rw [r9S_out hin] at hnx
        by_cases hx : y.node = d.node
        · rw [if_neg (fun h => h hx)] at hnx
          try dsimp only at hnx
          repeat' ((try conv => whnf); first
            | (with_reducible refine OKv.go (C := seat) seat_ok ?_)
            | (with_reducible refine BB_true ?_)
            | (with_reducible refine BB_false ?_)
            | (with_reducible refine Both.mk ?_ ?_)
            | (with_reducible refine VS.mk ?_)
            | (refine PSem.go (C := seat) seat_ok ?_)
            | (refine And.intro (PlanOK.mk (by kernel_rfl) rfl (by kernel_rfl) (by kernel_rfl)) ?_)
            | (refine And.intro rfl (Exists.intro _ (And.intro (by first | assumption | rfl) ?_)))
            | (refine And.intro ⟨rfl, rfl, rfl⟩ ?_)
            | (refine And.intro ⟨by omega, by simp only [List.length_map]; omega⟩ (Exists.intro _ (And.intro (by first | assumption | rfl) ?_)))
            | (refine fun (caps : Nat → Nat) hcaps => ?_; conv at hcaps => whnf)
            | (refine BB.mk (fun _h => ?_) (fun _h => ?_) <;> (first | (exact absurd _h (by decide)) | (exfalso; simp only [boolSet] at _h <;> omega) | (simp only [boolSet] at _h) | skip))
            | (refine And.intro ⟨rfl, rfl, rfl, by first | (simp only [lenS] <;> omega) | omega | rfl⟩ ?_)
            | (refine And.intro ⟨rfl, by first | (simp only [lenS] <;> omega) | omega | rfl⟩ ?_)
            | (refine And.intro (by first | exact ⟨rfl, Nat.le_refl _⟩ | first | (simp only [lenS] <;> omega) | omega | rfl) ?_)
            | (refine fun (caps : Nat → Nat) hcaps => ?_; conv at hcaps => whnf)
            | (refine fun (cap' : Nat) hcap' => ?_)
            | (refine And.intro (by omega) ?_)
            | (refine BB.mk (fun _h => ?_) (fun _h => ?_) <;> (first | (exact absurd _h (by decide)) | (exfalso; simp only [boolSet] at _h <;> omega) | skip)))
          all_goals (try conv => whnf)
          all_goals first
            | exact ⟨(k + 1, c), ⟨by dsimp only; omega, by dsimp only; rw [hnx]; exact hc⟩, by dsimp only; omega, ⟨⟨[0, 1], by decide, GG_no, rfl, SubOld.refl _ rfl, ⟨rfl, .inr (.inl (by dsimp only; rw [hnx]; rfl)), trivial⟩, ⟨.inl rfl, .inl rfl, .inl (by dsimp only; rw [hnx]; rfl), .inl (by dsimp only; rw [hnx]; rfl), .inl (num_eq (by rw [IntKind.wrap_i64]; omega)), trivial⟩⟩, rfl⟩⟩
            | (exfalso; apply hin; simp_all)
        · rw [if_pos hx] at hnx
          try dsimp only at hnx
          repeat' ((try conv => whnf); first
            | (with_reducible refine OKv.go (C := seat) seat_ok ?_)
            | (with_reducible refine BB_true ?_)
            | (with_reducible refine BB_false ?_)
            | (with_reducible refine Both.mk ?_ ?_)
            | (with_reducible refine VS.mk ?_)
            | (refine PSem.go (C := seat) seat_ok ?_)
            | (refine And.intro (PlanOK.mk (by kernel_rfl) rfl (by kernel_rfl) (by kernel_rfl)) ?_)
            | (refine And.intro rfl (Exists.intro _ (And.intro (by first | assumption | rfl) ?_)))
            | (refine And.intro ⟨rfl, rfl, rfl⟩ ?_)
            | (refine And.intro ⟨by omega, by simp only [List.length_map]; omega⟩ (Exists.intro _ (And.intro (by first | assumption | rfl) ?_)))
            | (refine BB.mk (fun _h => ?_) (fun _h => ?_) <;> (first | (exact absurd _h (by decide)) | (exfalso; simp only [boolSet] at _h <;> omega) | (simp only [boolSet] at _h) | skip))
            | (refine And.intro ⟨rfl, rfl, rfl, by first | (simp only [lenS] <;> omega) | omega | rfl⟩ ?_)
            | (refine And.intro ⟨rfl, by first | (simp only [lenS] <;> omega) | omega | rfl⟩ ?_)
            | (refine And.intro (by first | exact ⟨rfl, Nat.le_refl _⟩ | first | (simp only [lenS] <;> omega) | omega | rfl) ?_)
            | (refine fun (caps : Nat → Nat) hcaps => ?_; conv at hcaps => whnf)
            | (refine fun (cap' : Nat) hcap' => ?_)
            | (refine And.intro (by omega) ?_)
            | (refine BB.mk (fun _h => ?_) (fun _h => ?_) <;> (first | (exact absurd _h (by decide)) | (exfalso; simp only [boolSet] at _h <;> omega) | skip)))
          all_goals (try conv => whnf)
          all_goals first
            | exact ⟨(k + 1, cap'), ⟨by dsimp only; omega, by dsimp only; rw [hnx]; rw [List.length_append]; exact hcap'⟩, by dsimp only; omega, ⟨⟨[0, 3], by decide, GG_no, rfl, SubOld.refl _ rfl, ⟨rfl, .inr (.inl (by dsimp only; rw [hnx]; rw [List.map_append]; rfl)), trivial⟩, ⟨.inl rfl, .inl rfl, .inl (by dsimp only; rw [hnx]; rw [List.length_append]; rfl), .inl (by dsimp only; rw [hnx]; rfl), .inl (num_eq (by rw [IntKind.wrap_i64]; omega)), trivial⟩⟩, rfl⟩⟩
            | (exfalso; apply hin; simp_all)
    · obtain rfl : k = l.length := by omega
      generalize r9P d l l.length = p at *
      obtain ⟨q, b⟩ := p
      dsimp only at hpl hc hend ⊢
      have hqm : (q.map deC).length = q.length := List.length_map _
      cases b with
      | true =>
        simp only [if_true] at hend
        subst hend
        repeat' ((try conv => whnf); first
          | (with_reducible refine OKv.go (C := seat) seat_ok ?_)
          | (with_reducible refine BB_true ?_)
          | (with_reducible refine BB_false ?_)
          | (with_reducible refine Both.mk ?_ ?_)
          | (with_reducible refine VS.mk ?_)
          | (refine PSem.go (C := seat) seat_ok ?_)
          | (refine And.intro (PlanOK.mk (by kernel_rfl) rfl (by kernel_rfl) (by kernel_rfl)) ?_)
          | (refine And.intro rfl (Exists.intro _ (And.intro (by first | assumption | rfl) ?_)))
          | (refine And.intro ⟨rfl, rfl, rfl⟩ ?_)
          | (refine BB.mk (fun _h => ?_) (fun _h => ?_) <;> (first | (exact absurd _h (by decide)) | (exfalso; simp only [boolSet] at _h <;> omega) | (simp only [boolSet] at _h) | skip))
          | (refine And.intro ⟨rfl, rfl, rfl, by first | (simp only [lenS] <;> omega) | omega | rfl⟩ ?_)
          | (refine And.intro ⟨rfl, by first | (simp only [lenS] <;> omega) | omega | rfl⟩ ?_)
          | (refine And.intro (by first | exact ⟨rfl, Nat.le_refl _⟩ | first | (simp only [lenS] <;> omega) | omega | rfl) ?_)
          | (refine fun (caps : Nat → Nat) hcaps => ?_; conv at hcaps => whnf)
          | (refine fun (cap' : Nat) hcap' => ?_)
          | (refine And.intro (by omega) ?_)
          | (refine BB.mk (fun _h => ?_) (fun _h => ?_) <;> (first | (exact absurd _h (by decide)) | (exfalso; simp only [boolSet] at _h <;> omega) | skip)))
        all_goals (try conv => whnf)
        exact ⟨_, _, frz_tup 0 rfl (frz_row rfl (List.length_map _).symm) rfl, rfl, rfl, fun _ => rfl, c, hc, rfl⟩
      | false =>
        simp only [Bool.false_eq_true, if_false] at hend
        subst hend
        repeat' ((try conv => whnf); first
          | (with_reducible refine OKv.go (C := seat) seat_ok ?_)
          | (with_reducible refine BB_true ?_)
          | (with_reducible refine BB_false ?_)
          | (with_reducible refine Both.mk ?_ ?_)
          | (with_reducible refine VS.mk ?_)
          | (refine PSem.go (C := seat) seat_ok ?_)
          | (refine And.intro (PlanOK.mk (by kernel_rfl) rfl (by kernel_rfl) (by kernel_rfl)) ?_)
          | (refine And.intro rfl (Exists.intro _ (And.intro (by first | assumption | rfl) ?_)))
          | (refine And.intro ⟨rfl, rfl, rfl⟩ ?_)
          | (refine BB.mk (fun _h => ?_) (fun _h => ?_) <;> (first | (exact absurd _h (by decide)) | (exfalso; simp only [boolSet] at _h <;> omega) | (simp only [boolSet] at _h) | skip))
          | (refine And.intro ⟨rfl, rfl, rfl, by first | (simp only [lenS] <;> omega) | omega | rfl⟩ ?_)
          | (refine And.intro ⟨rfl, by first | (simp only [lenS] <;> omega) | omega | rfl⟩ ?_)
          | (refine And.intro (by first | exact ⟨rfl, Nat.le_refl _⟩ | first | (simp only [lenS] <;> omega) | omega | rfl) ?_)
          | (refine fun (caps : Nat → Nat) hcaps => ?_; conv at hcaps => whnf)
          | (refine fun (cap' : Nat) hcap' => ?_)
          | (refine And.intro (by omega) ?_)
          | (refine BB.mk (fun _h => ?_) (fun _h => ?_) <;> (first | (exact absurd _h (by decide)) | (exfalso; simp only [boolSet] at _h <;> omega) | skip)))
        all_goals (try conv => whnf)
        exact ⟨_, _, frz_tup 0 rfl (frz_row rfl (by rw [List.length_append, List.length_map]; rfl)) rfl, rfl, rfl, fun _ => rfl, cap', (by rw [List.length_append]; exact hcap'), (by rw [List.map_append]; rfl)⟩
theorem rput_zz (l : List De) (cl : Nat) (hl : l.length ≤ 1000) (hr : Rising l) (d : De) (cd : Nat) (hcd : d.fl.length ≤ cd) (self room : Int) (hf : FlOk l) (hdl : d.fl.length ≤ 1099511627776) (o : List De) (b : Bool) (he : putP l d self room = (o, b)) : FnOK Try.prog GG 20 [] [.z 4 (l.map deC) cl, deS d cd, .v (.int .u8 self), .v (.int .i64 room)] (fun r _ ext => (∃ c', o.length ≤ c' ∧ r = .tup [.z 4 (o.map deC) c', .v (.bool b)]) ∧ ext = []) := by
  by_cases hb : d.node = self ∨ d.inc = 0
  · have e : putP l d self room = (l, false) := if_pos hb
    rw [e] at he
    cases he
    exact rput_no l cl hl hr d cd hcd self room (by omega)
  have hb' : d.node ≠ self ∧ d.inc ≠ 0 := ⟨fun h => hb (.inl h), fun h => hb (.inr h)⟩
  rcases has_or d.node l with ⟨y, hy, hx, hF, _⟩ | ⟨_, hF, _⟩
  · have hne : ¬ findZ d.node l = -1 := by omega
    cases hnb : newB d y with
    | true =>
      have e : putP l d self room = (l.set (placeN d.node l) d, true) := by
        unfold putP
        rw [if_neg hb, if_neg hne, hy, if_pos (by simpa using hnb)]
      rw [e] at he
      cases he
      exact rput_in l cl hl hr d cd hcd self room hf hdl hb'.1 hb'.2 (.inr ⟨_, y, hy, hF, hnb⟩) _ (if_neg hne)
    | false =>
      have e : putP l d self room = (l, false) := by
        unfold putP
        rw [if_neg hb, if_neg hne, hy, if_neg (by simp [hnb])]
      rw [e] at he
      cases he
      exact rput_old l cl hl hr d cd hcd self room y _ hy hF hb'.1 hb'.2 hnb
  · by_cases hroom : room ≤ l.length
    · have e : putP l d self room = (l, false) := by
        unfold putP
        rw [if_neg hb, if_pos hF, if_pos hroom]
      rw [e] at he
      cases he
      exact rput_no l cl hl hr d cd hcd self room (.inr (.inr ⟨hF, hroom⟩))
    · have e : putP l d self room = (insL l (placeN d.node l) d, true) := by
        unfold putP
        rw [if_neg hb, if_pos hF, if_neg hroom]
      rw [e] at he
      cases he
      exact rput_in l cl hl hr d cd hcd self room hf hdl hb'.1 hb'.2 (.inl ⟨hF, by omega⟩) _ (if_pos hF)
end Go.Proofs.Ytfjankcpnhfogaa
