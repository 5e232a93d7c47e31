/- Law PulseMerge, by computing. -/
import Derived.Test.YtnkhdnmilncidaaU14f
namespace Go.Proofs.Ytnkhdnmilncidaa
open Go.RowKit

def valM (m : Mb) : Prop := (m.i = 0 ∧ m.s = 0 ∧ m.q = 0) ∨ (0 < m.i ∧ 1 ≤ m.s ∧ m.s ≤ 3)
theorem tab_val {m : Mb} (h : m.ok) : valM (tabM m) := by
  obtain ⟨i0, i1, s0, s1, q0, q1⟩ := h
  unfold tabM valM
  split
  · exact .inl ⟨rfl, rfl, rfl⟩
  · refine .inr ⟨by dsimp only; omega, ?_⟩
    dsimp only
    rw [Int.tmod_eq_emod_of_nonneg s0, IntKind.wrap_u8]
    omega
theorem newer_iff {a b : Mb} : newerB a b = true ↔ (a.i > b.i ∨ (a.i = b.i ∧ 0 < a.i ∧ a.s > b.s)) := by
  unfold newerB
  simp only [Bool.or_eq_true, Bool.and_eq_true, decide_eq_true_eq]
  omega
theorem mrg_or (x y : Mb) : (newerB y x = true ∧ mrg x y = ⟨y.i, y.s, 0⟩) ∨ (newerB y x = false ∧ mrg x y = x) := by
  unfold mrg
  cases h : newerB y x with
  | true => exact .inl ⟨rfl, rfl⟩
  | false => exact .inr ⟨rfl, rfl⟩
/-- What it tells of the greater. -/
theorem mrg_key (x y : Mb) : ((y.i > x.i ∨ (y.i = x.i ∧ 0 < y.i ∧ y.s > x.s)) ∧ (mrg x y).i = y.i ∧ (mrg x y).s = y.s) ∨ (¬ (y.i > x.i ∨ (y.i = x.i ∧ 0 < y.i ∧ y.s > x.s)) ∧ (mrg x y).i = x.i ∧ (mrg x y).s = x.s) := by
  rcases mrg_or x y with ⟨h, e⟩ | ⟨h, e⟩
  · rw [newer_iff] at h
    rw [e]
    exact .inl ⟨h, rfl, rfl⟩
  · rw [← Bool.not_eq_true, newer_iff] at h
    rw [e]
    exact .inr ⟨h, rfl, rfl⟩
theorem newer_no {a b : Mb} (h : ¬ (a.i > b.i ∨ (a.i = b.i ∧ 0 < a.i ∧ a.s > b.s))) : newerB a b = false := by
  rw [← Bool.not_eq_true, newer_iff]
  exact h
theorem mrg_comm {x y : Mb} (hx : valM x) (hy : valM y) : (mrg x y).i = (mrg y x).i ∧ (mrg x y).s = (mrg y x).s := by
  have h1 := mrg_key x y
  have h2 := mrg_key y x
  unfold valM at hx hy
  omega
theorem mrg_assoc {x y z : Mb} (hx : valM x) (hy : valM y) (hz : valM z) : (mrg (mrg x y) z).i = (mrg x (mrg y z)).i ∧ (mrg (mrg x y) z).s = (mrg x (mrg y z)).s := by
  have h1 := mrg_key x y
  have h2 := mrg_key y z
  have h3 := mrg_key (mrg x y) z
  have h4 := mrg_key x (mrg y z)
  unfold valM at hx hy hz
  omega
theorem mrg_twice (x y : Mb) : mrg (mrg x y) y = mrg x y := by
  have h1 := mrg_key x y
  have h : newerB y (mrg x y) = false := newer_no (by omega)
  rcases mrg_or (mrg x y) y with ⟨g, _⟩ | ⟨_, e⟩
  · rw [h] at g; cases g
  · exact e
theorem mrg_self (x : Mb) : mrg x x = x := by
  have h : newerB x x = false := newer_no (by omega)
  rcases mrg_or x x with ⟨g, _⟩ | ⟨_, e⟩
  · rw [h] at g; cases g
  · exact e
theorem mrg_old (x y : Mb) (hx : valM x) (hy : valM y) : newerB x (mrg x y) = false ∧ newerB y (mrg x y) = false := by
  have h1 := mrg_key x y
  unfold valM at hx hy
  exact ⟨newer_no (by omega), newer_no (by omega)⟩
theorem mrg_new (x y : Mb) : newerB (mrg x y) x = true ∨ (newerB (mrg x y) x = false ∧ mrg x y = x) := by
  rcases mrg_or x y with ⟨h, e⟩ | ⟨h, e⟩
  · refine .inl ?_
    rw [newer_iff] at h ⊢
    rw [e]
    exact h
  · refine .inr ⟨?_, e⟩
    rw [e]
    exact newer_no (by omega)
theorem mergeL_len (l o : List Mb) : (mergeL l o).length = l.length := List.length_mapIdx
theorem mergeL_in {l o : List Mb} {k : Nat} {x y : Mb} (hx : l[k]? = some x) (hy : o[k]? = some y) : (mergeL l o)[k]? = some (mrg x y) := by
  rw [mergeL, List.getElem?_mapIdx, hx]
  simp [mrgAt_in hy]
theorem mergeL_of {l o : List Mb} {k : Nat} {z : Mb} (hl : l.length = o.length) (h : (mergeL l o)[k]? = some z) : ∃ x y, l[k]? = some x ∧ o[k]? = some y ∧ z = mrg x y := by
  have hk := getElem?_lt h
  rw [mergeL_len] at hk
  obtain ⟨x, hx⟩ : ∃ x, l[k]? = some x := ⟨_, List.getElem?_eq_getElem hk⟩
  obtain ⟨y, hy⟩ : ∃ y, o[k]? = some y := ⟨_, List.getElem?_eq_getElem (by omega)⟩
  rw [mergeL_in hx hy] at h
  exact ⟨x, y, hx, hy, (Option.some.inj h).symm⟩
theorem val_at {l : List Mb} (h : ∀ m ∈ l, valM m) {k : Nat} {x : Mb} (hx : l[k]? = some x) : valM x := h _ (List.mem_of_getElem? hx)
theorem ext_at {l r : List Mb} (hl : l.length = r.length) (h : ∀ (k : Nat) (x y : Mb), l[k]? = some x → r[k]? = some y → x = y) : l = r := by
  apply List.ext_getElem?
  intro k
  by_cases hk : k < l.length
  · obtain ⟨x, hx⟩ : ∃ x, l[k]? = some x := ⟨_, List.getElem?_eq_getElem hk⟩
    obtain ⟨y, hy⟩ : ∃ y, r[k]? = some y := ⟨_, List.getElem?_eq_getElem (by omega)⟩
    rw [hx, hy, h k x y hx hy]
  · rw [List.getElem?_eq_none (by omega), List.getElem?_eq_none (by omega)]
theorem m_comm {X Y : List Mb} (hXY : X.length = Y.length) (hX : ∀ m ∈ X, valM m) (hY : ∀ m ∈ Y, valM m) : ∀ (k : Nat) (x y : Mb), (mergeL X Y)[k]? = some x → (mergeL Y X)[k]? = some y → x.i = y.i ∧ x.s = y.s := fun k u v hu hv => by
  obtain ⟨x, y, hx, hy, rfl⟩ := mergeL_of hXY hu
  obtain ⟨y', x', hy', hx', rfl⟩ := mergeL_of hXY.symm hv
  rw [hx] at hx'; cases hx'
  rw [hy] at hy'; cases hy'
  exact mrg_comm (val_at hX hx) (val_at hY hy)
theorem m_assoc {X Y Z : List Mb} (hXY : X.length = Y.length) (hYZ : Y.length = Z.length) (hX : ∀ m ∈ X, valM m) (hY : ∀ m ∈ Y, valM m) (hZ : ∀ m ∈ Z, valM m) : ∀ (k : Nat) (x y : Mb), (mergeL (mergeL X Y) Z)[k]? = some x → (mergeL X (mergeL Y Z))[k]? = some y → x.i = y.i ∧ x.s = y.s := fun k u v hu hv => by
  obtain ⟨w, z, hw, hz, rfl⟩ := mergeL_of (by rw [mergeL_len]; omega) hu
  obtain ⟨x, y, hx, hy, rfl⟩ := mergeL_of hXY hw
  obtain ⟨x', w', hx', hw', rfl⟩ := mergeL_of (by rw [mergeL_len]; omega) hv
  obtain ⟨y', z', hy', hz', rfl⟩ := mergeL_of hYZ hw'
  rw [hx] at hx'; cases hx'
  rw [hy] at hy'; cases hy'
  rw [hz] at hz'; cases hz'
  exact mrg_assoc (val_at hX hx) (val_at hY hy) (val_at hZ hz)
theorem m_twice {X Y : List Mb} (hXY : X.length = Y.length) : mergeL (mergeL X Y) Y = mergeL X Y := ext_at (by rw [mergeL_len]) fun k u v hu hv => by
  obtain ⟨w, y, hw, hy, rfl⟩ := mergeL_of (by rw [mergeL_len]; omega) hu
  rw [hw] at hv; cases hv
  obtain ⟨x, y', hx, hy', rfl⟩ := mergeL_of hXY hw
  rw [hy] at hy'; cases hy'
  exact mrg_twice x y
theorem m_self (X : List Mb) : mergeL X X = X := ext_at (by rw [mergeL_len]) fun k u v hu hv => by
  obtain ⟨w, y, hw, hy, rfl⟩ := mergeL_of rfl hu
  rw [hw] at hv; cases hv
  rw [hw] at hy; cases hy
  exact mrg_self _
theorem tabs_val {l : List Mb} (h : ∀ y ∈ l, y.ok) : ∀ m ∈ l.map tabM, valM m := fun m hm => by
  obtain ⟨y, hy, rfl⟩ := List.mem_map.1 hm
  exact tab_val (h y hy)
theorem table_is (l : List Mb) (e m c : Nat) (T : List Mb) (hT : ((l.drop e).take m).map tabM = T) (h : e + m ≤ l.length) (hm : m ≤ 1000000) : FnOK Try.prog GG 8 [.ro 3 (l.map mbC)] [.s (.o 0) 3 e m c] (fun r _ ext => ∃ cap, m ≤ cap ∧ r = .s (.n 0) 3 0 m cap ∧ ext = [.row 26 3 cap (T.map mbC)]) := by
  subst hT
  exact table_ok (l.map mbC) e m c ((l.drop e).take m) (by rw [List.map_take, List.map_drop]) (by rw [List.length_take, List.length_drop]; omega) (by rw [List.length_map]; exact h) hm
theorem mn_le (x y : Int) : (bif false then if y > x then y else x else if y < x then y else x) ≤ x ∧ (bif false then if y > x then y else x else if y < x then y else x) ≤ y ∧ ((bif false then if y > x then y else x else if y < x then y else x) = x ∨ (bif false then if y > x then y else x else if y < x then y else x) = y) := by
  simp only [cond_false]
  split <;> omega
set_option maxRecDepth 100000 in
set_option maxHeartbeats 4000000 in
theorem pulseMerge_ok (a b c : List Mb) (ca cb cc : Nat) (ha : a.length ≤ ca) (hb : b.length ≤ cb) (hc : c.length ≤ cc) (oa : ∀ y ∈ a, y.ok) (ob : ∀ y ∈ b, y.ok) (oc : ∀ y ∈ c, y.ok) : FnOK Try.prog GG 5 [.ro 3 (a.map mbC), .ro 3 (b.map mbC), .ro 3 (c.map mbC)] [.s (.o 0) 3 0 a.length ca, .s (.o 1) 3 0 b.length cb, .s (.o 2) 3 0 c.length cc] (fun r _ ext => r = .v (.bool true) ∧ ext = []) := by
  refine fn_val (C := seat) seat_ok [(2, (.of [(0, .take), (1, .take), (2, .take), (4, .take), (5, .take), (6, .take), (8, .take), (9, .take), (10, .take), (3, .do_), (7, .do_), (11, .do_), (12, .take), (13, .take), (14, .take)])), (10, (.of [(0, .take), (1, .take), (2, .take), (3, .take), (4, .take), (5, .take), (6, .take), (7, .take), (8, .do_), (9, .take), (10, .take), (11, .take), (12, .take), (13, .take), (14, .take), (15, .take), (16, .take), (17, .take), (18, .do_), (19, .take), (20, .take), (21, .take), (22, .take), (23, .take), (24, .take), (25, .take), (26, .take), (27, .take), (28, .take), (29, .do_), (30, .take), (31, .take), (32, .take), (33, .take), (34, .take), (35, .take), (36, .take), (37, .take), (38, .take), (39, .take), (40, .take), (41, .take), (42, .take)]))] GG_no (Try.func5) rfl rfl rfl rfl rfl (fun _ => rfl) rfl ?_
  repeat' ((try conv => whnf); first
    | (with_reducible refine OKv.go (C := seat) seat_ok ?_)
    | (with_reducible refine BB_true ?_)
    | (with_reducible refine BB_false ?_)
    | (with_reducible refine Both.mk ?_ ?_)
    | (with_reducible refine VS.mk ?_)
    | (refine PSem.go (C := seat) seat_ok ?_)
    | (refine And.intro (PlanOK.mk (by kernel_rfl) rfl (by kernel_rfl) (by kernel_rfl)) ?_)
    | (refine And.intro rfl (Exists.intro _ (And.intro (by first | assumption | rfl) ?_)))
    | (refine And.intro ⟨rfl, rfl, rfl⟩ ?_)
    | (refine And.intro (by omega) ?_)
    | (refine BB.mk (fun _h => ?_) (fun _h => ?_) <;> (first | (exact absurd _h (by decide)) | (exfalso; simp only [boolSet] at _h <;> omega) | skip)))
  all_goals (try conv => whnf)
  have h2 := mn_le (a.length : Int) (b.length : Int)
  have h3 := mn_le (bif false then if (b.length : Int) > (a.length : Int) then (b.length : Int) else (a.length : Int) else if (b.length : Int) < (a.length : Int) then (b.length : Int) else (a.length : Int)) (c.length : Int)
  have h4 := mn_le (bif false then if (c.length : Int) > (bif false then if (b.length : Int) > (a.length : Int) then (b.length : Int) else (a.length : Int) else if (b.length : Int) < (a.length : Int) then (b.length : Int) else (a.length : Int)) then (c.length : Int) else (bif false then if (b.length : Int) > (a.length : Int) then (b.length : Int) else (a.length : Int) else if (b.length : Int) < (a.length : Int) then (b.length : Int) else (a.length : Int)) else if (c.length : Int) < (bif false then if (b.length : Int) > (a.length : Int) then (b.length : Int) else (a.length : Int) else if (b.length : Int) < (a.length : Int) then (b.length : Int) else (a.length : Int)) then (c.length : Int) else (bif false then if (b.length : Int) > (a.length : Int) then (b.length : Int) else (a.length : Int) else if (b.length : Int) < (a.length : Int) then (b.length : Int) else (a.length : Int))) (12 : Int)
  generalize (bif false then if (12 : Int) > (bif false then if (c.length : Int) > (bif false then if (b.length : Int) > (a.length : Int) then (b.length : Int) else (a.length : Int) else if (b.length : Int) < (a.length : Int) then (b.length : Int) else (a.length : Int)) then (c.length : Int) else (bif false then if (b.length : Int) > (a.length : Int) then (b.length : Int) else (a.length : Int) else if (b.length : Int) < (a.length : Int) then (b.length : Int) else (a.length : Int)) else if (c.length : Int) < (bif false then if (b.length : Int) > (a.length : Int) then (b.length : Int) else (a.length : Int) else if (b.length : Int) < (a.length : Int) then (b.length : Int) else (a.length : Int)) then (c.length : Int) else (bif false then if (b.length : Int) > (a.length : Int) then (b.length : Int) else (a.length : Int) else if (b.length : Int) < (a.length : Int) then (b.length : Int) else (a.length : Int))) then (12 : Int) else (bif false then if (c.length : Int) > (bif false then if (b.length : Int) > (a.length : Int) then (b.length : Int) else (a.length : Int) else if (b.length : Int) < (a.length : Int) then (b.length : Int) else (a.length : Int)) then (c.length : Int) else (bif false then if (b.length : Int) > (a.length : Int) then (b.length : Int) else (a.length : Int) else if (b.length : Int) < (a.length : Int) then (b.length : Int) else (a.length : Int)) else if (c.length : Int) < (bif false then if (b.length : Int) > (a.length : Int) then (b.length : Int) else (a.length : Int) else if (b.length : Int) < (a.length : Int) then (b.length : Int) else (a.length : Int)) then (c.length : Int) else (bif false then if (b.length : Int) > (a.length : Int) then (b.length : Int) else (a.length : Int) else if (b.length : Int) < (a.length : Int) then (b.length : Int) else (a.length : Int))) else if (12 : Int) < (bif false then if (c.length : Int) > (bif false then if (b.length : Int) > (a.length : Int) then (b.length : Int) else (a.length : Int) else if (b.length : Int) < (a.length : Int) then (b.length : Int) else (a.length : Int)) then (c.length : Int) else (bif false then if (b.length : Int) > (a.length : Int) then (b.length : Int) else (a.length : Int) else if (b.length : Int) < (a.length : Int) then (b.length : Int) else (a.length : Int)) else if (c.length : Int) < (bif false then if (b.length : Int) > (a.length : Int) then (b.length : Int) else (a.length : Int) else if (b.length : Int) < (a.length : Int) then (b.length : Int) else (a.length : Int)) then (c.length : Int) else (bif false then if (b.length : Int) > (a.length : Int) then (b.length : Int) else (a.length : Int) else if (b.length : Int) < (a.length : Int) then (b.length : Int) else (a.length : Int))) then (12 : Int) else (bif false then if (c.length : Int) > (bif false then if (b.length : Int) > (a.length : Int) then (b.length : Int) else (a.length : Int) else if (b.length : Int) < (a.length : Int) then (b.length : Int) else (a.length : Int)) then (c.length : Int) else (bif false then if (b.length : Int) > (a.length : Int) then (b.length : Int) else (a.length : Int) else if (b.length : Int) < (a.length : Int) then (b.length : Int) else (a.length : Int)) else if (c.length : Int) < (bif false then if (b.length : Int) > (a.length : Int) then (b.length : Int) else (a.length : Int) else if (b.length : Int) < (a.length : Int) then (b.length : Int) else (a.length : Int)) then (c.length : Int) else (bif false then if (b.length : Int) > (a.length : Int) then (b.length : Int) else (a.length : Int) else if (b.length : Int) < (a.length : Int) then (b.length : Int) else (a.length : Int)))) = N at *
  have hN0 : 0 ≤ N := by omega
  obtain ⟨n, rfl⟩ := Int.eq_ofNat_of_zero_le hN0
  have hn12 : n ≤ 12 := by omega
  have hna : n ≤ a.length := by omega
  have hnb : n ≤ b.length := by omega
  have hnc : n ≤ c.length := by omega
  clear h2 h3 h4
  have h200 : n ≤ 200 := by omega
  have h1000 : n ≤ 1000 := by omega
  obtain ⟨X, hX⟩ : ∃ X, ((a.drop 0).take n).map tabM = X := ⟨_, rfl⟩
  obtain ⟨Y, hY⟩ : ∃ Y, ((b.drop 0).take n).map tabM = Y := ⟨_, rfl⟩
  obtain ⟨Z, hZ⟩ : ∃ Z, ((c.drop 0).take n).map tabM = Z := ⟨_, rfl⟩
  have lX : X.length = n := by rw [← hX, List.length_map, List.length_take, List.length_drop]; omega
  have lY : Y.length = n := by rw [← hY, List.length_map, List.length_take, List.length_drop]; omega
  have lZ : Z.length = n := by rw [← hZ, List.length_map, List.length_take, List.length_drop]; omega
  have vX : ∀ m ∈ X, valM m := by rw [← hX]; exact tabs_val fun y hy => oa y (List.mem_of_mem_drop (List.mem_of_mem_take hy))
  have vY : ∀ m ∈ Y, valM m := by rw [← hY]; exact tabs_val fun y hy => ob y (List.mem_of_mem_drop (List.mem_of_mem_take hy))
  have vZ : ∀ m ∈ Z, valM m := by rw [← hZ]; exact tabs_val fun y hy => oc y (List.mem_of_mem_drop (List.mem_of_mem_take hy))
  have lXY : (mergeL X Y).length = n := by rw [mergeL_len]; exact lX
  have lYX : (mergeL Y X).length = n := by rw [mergeL_len]; exact lY
  have lYZ : (mergeL Y Z).length = n := by rw [mergeL_len]; exact lY
  have lXYZ : (mergeL (mergeL X Y) Z).length = n := by rw [mergeL_len]; exact lXY
  have lX_YZ : (mergeL X (mergeL Y Z)).length = n := by rw [mergeL_len]; exact lX
  have lXYY : (mergeL (mergeL X Y) Y).length = n := by rw [mergeL_len]; exact lXY
  have lXX : (mergeL X X).length = n := by rw [mergeL_len]; exact lX
  have f1 := m_comm (lX.trans lY.symm) vX vY
  have f2 := m_assoc (lX.trans lY.symm) (lY.trans lZ.symm) vX vY vZ
  have f3 := m_twice (lX.trans lY.symm)
  have f4 := m_self X
  repeat' ((try conv => whnf); first
    | (with_reducible refine OKv.go (C := seat) seat_ok ?_)
    | (with_reducible refine BB_true ?_)
    | (with_reducible refine BB_false ?_)
    | (with_reducible refine Both.mk ?_ ?_)
    | (with_reducible refine VS.mk ?_)
    | (refine PSem.go (C := seat) seat_ok ?_)
    | (refine And.intro (PlanOK.mk (by kernel_rfl) rfl (by kernel_rfl) (by kernel_rfl)) ?_)
    | (refine And.intro rfl (Exists.intro _ (And.intro (by first | assumption | rfl) ?_)))
    | (refine And.intro ⟨rfl, rfl, rfl⟩ ?_)
    | (refine And.intro ⟨Int.le_refl 0, by omega, by omega⟩ ?_)
    | (refine call_ro [.o 0] (table_is a _ _ _ X hX (by omega) (by omega)) GG_no rfl rfl rfl ⟨⟨_, rfl, rfl, rfl⟩, trivial⟩ ?_; rintro r bs' ext ⟨cX, hcX, rfl, rfl⟩)
    | (refine call_ro [.o 1] (table_is b _ _ _ Y hY (by omega) (by omega)) GG_no rfl rfl rfl ⟨⟨_, rfl, rfl, rfl⟩, trivial⟩ ?_; rintro r bs' ext ⟨cY, hcY, rfl, rfl⟩)
    | (refine call_ro [.o 2] (table_is c _ _ _ Z hZ (by omega) (by omega)) GG_no rfl rfl rfl ⟨⟨_, rfl, rfl, rfl⟩, trivial⟩ ?_; rintro r bs' ext ⟨cZ, hcZ, rfl, rfl⟩)
    | (refine call_ro [_, _] (merge_ok (X) (Y) _ _ _ lX lY h200 hcX hcY) GG_no rfl rfl rfl ⟨⟨_, rfl, rfl, rfl⟩, ⟨_, rfl, rfl, rfl⟩, trivial⟩ ?_; rintro r bs' ext ⟨cM, hcM, rfl, rfl⟩)
    | (refine call_ro [_, _] (merge_ok (Y) (X) _ _ _ lY lX h200 hcY hcX) GG_no rfl rfl rfl ⟨⟨_, rfl, rfl, rfl⟩, ⟨_, rfl, rfl, rfl⟩, trivial⟩ ?_; rintro r bs' ext ⟨cA, hcA, rfl, rfl⟩)
    | (refine call_ro [_, _] (merge_ok (mergeL X Y) (Z) _ _ _ lXY lZ h200 hcM hcZ) GG_no rfl rfl rfl ⟨⟨_, rfl, rfl, rfl⟩, ⟨_, rfl, rfl, rfl⟩, trivial⟩ ?_; rintro r bs' ext ⟨cB, hcB, rfl, rfl⟩)
    | (refine call_ro [_, _] (merge_ok (Y) (Z) _ _ _ lY lZ h200 hcY hcZ) GG_no rfl rfl rfl ⟨⟨_, rfl, rfl, rfl⟩, ⟨_, rfl, rfl, rfl⟩, trivial⟩ ?_; rintro r bs' ext ⟨cC, hcC, rfl, rfl⟩)
    | (refine call_ro [_, _] (merge_ok (X) (mergeL Y Z) _ _ _ lX lYZ h200 hcX hcC) GG_no rfl rfl rfl ⟨⟨_, rfl, rfl, rfl⟩, ⟨_, rfl, rfl, rfl⟩, trivial⟩ ?_; rintro r bs' ext ⟨cD, hcD, rfl, rfl⟩)
    | (refine call_ro [_, _] (merge_ok (mergeL X Y) (Y) _ _ _ lXY lY h200 hcM hcY) GG_no rfl rfl rfl ⟨⟨_, rfl, rfl, rfl⟩, ⟨_, rfl, rfl, rfl⟩, trivial⟩ ?_; rintro r bs' ext ⟨cE, hcE, rfl, rfl⟩)
    | (refine call_ro [_, _] (merge_ok (X) (X) _ _ _ lX lX h200 hcX hcX) GG_no rfl rfl rfl ⟨⟨_, rfl, rfl, rfl⟩, ⟨_, rfl, rfl, rfl⟩, trivial⟩ ?_; rintro r bs' ext ⟨cF, hcF, rfl, rfl⟩)
    | (refine call_ro [_, _] (keys_ok (mergeL X Y) (mergeL Y X) _ _ _ lXY lYX h1000 f1) GG_no rfl rfl rfl ⟨⟨_, rfl, rfl, rfl⟩, ⟨_, rfl, rfl, rfl⟩, trivial⟩ ?_; rintro r bs' ext ⟨rfl, rfl⟩)
    | (refine call_ro [_, _] (keys_ok (mergeL (mergeL X Y) Z) (mergeL X (mergeL Y Z)) _ _ _ lXYZ lX_YZ h1000 f2) GG_no rfl rfl rfl ⟨⟨_, rfl, rfl, rfl⟩, ⟨_, rfl, rfl, rfl⟩, trivial⟩ ?_; rintro r bs' ext ⟨rfl, rfl⟩)
    | (refine call_ro [_, _] (memb_yes (mergeL (mergeL X Y) Y) (mergeL X Y) _ _ _ lXYY h1000 f3) GG_no rfl rfl rfl ⟨⟨_, rfl, rfl, rfl⟩, ⟨_, rfl, rfl, rfl⟩, trivial⟩ ?_; rintro r bs' ext ⟨rfl, rfl⟩)
    | (refine call_ro [_, _] (memb_yes (mergeL X X) X _ _ _ lXX h1000 f4) GG_no rfl rfl rfl ⟨⟨_, rfl, rfl, rfl⟩, ⟨_, rfl, rfl, rfl⟩, trivial⟩ ?_; rintro r bs' ext ⟨rfl, rfl⟩)
    | (refine And.intro (by omega) ?_)
    | (refine BB.mk (fun _h => ?_) (fun _h => ?_) <;> (first | (exact absurd _h (by decide)) | (exfalso; simp only [boolSet] at _h <;> omega) | skip)))
  all_goals (try conv => whnf)
  refine loop_rule (α := Nat) (fun k => k ≤ n) (fun k => { slots := [(7, .v (.int .i64 n)), (8, .s (.n 0) 3 0 n cX), (9, .s (.n 1) 3 0 n cY), (12, .s (.n 2) 3 0 n cM), (73, .v (.int .i64 n)), (74, .v (.int .i64 (k : Int)))], nt := 128, mem := ⟨GG, [.ro 3 (a.map mbC), .ro 3 (b.map mbC), .ro 3 (c.map mbC)], [.row 26 3 cX (X.map mbC), .row 26 3 cY (Y.map mbC), .row 26 3 cM ((mergeL X Y).map mbC)]⟩ }) (fun k => n - k) 0 (Nat.zero_le _) ⟨⟨[0, 1, 3], (by decide), GG_no, rfl, (SubOld.refl _ rfl), ⟨.inr rfl, .inr rfl, .inr rfl, trivial⟩, ⟨.inl rfl, .inl rfl, .inl rfl, .inl rfl, .inl rfl, .inl rfl, trivial⟩⟩, rfl⟩ ?_ (fun _ => rfl)
  rintro k hkn
  refine vc_sound (C := seat) seat_ok (pl := [(2, (.of [(0, .take), (1, .take), (2, .take), (4, .take), (5, .take), (6, .take), (8, .take), (9, .take), (10, .take), (3, .do_), (7, .do_), (11, .do_), (12, .take), (13, .take), (14, .take)])), (10, (.of [(0, .take), (1, .take), (2, .take), (3, .take), (4, .take), (5, .take), (6, .take), (7, .take), (8, .do_), (9, .take), (10, .take), (11, .take), (12, .take), (13, .take), (14, .take), (15, .take), (16, .take), (17, .take), (18, .do_), (19, .take), (20, .take), (21, .take), (22, .take), (23, .take), (24, .take), (25, .take), (26, .take), (27, .take), (28, .take), (29, .do_), (30, .take), (31, .take), (32, .take), (33, .take), (34, .take), (35, .take), (36, .take), (37, .take), (38, .take), (39, .take), (40, .take), (41, .take), (42, .take)]))]) ?_
  by_cases hlt : k < n
  · obtain ⟨x, hx⟩ : ∃ x, X[k]? = some x := ⟨_, List.getElem?_eq_getElem (by omega)⟩
    obtain ⟨y, hy⟩ : ∃ y, Y[k]? = some y := ⟨_, List.getElem?_eq_getElem (by omega)⟩
    have hw := mergeL_in hx hy
    obtain ⟨ho1, ho2⟩ := mrg_old x y (val_at vX hx) (val_at vY hy)
    have ho3 := mrg_new x y
    generalize mrg x y = w at hw ho1 ho2 ho3
    have hrow := mb_at hx
    have hrow2 := mb_at hy
    have hrow3 := mb_at hw
    rcases ho3 with h | ⟨h, rfl⟩
    · 
      repeat' ((try conv => whnf); first
        | (with_reducible refine OKv.go (C := seat) seat_ok ?_)
        | (with_reducible refine BB_true ?_)
        | (with_reducible refine BB_false ?_)
        | (with_reducible refine Both.mk ?_ ?_)
        | (with_reducible refine VS.mk ?_)
        | (refine PSem.go (C := seat) seat_ok ?_)
        | (refine And.intro (PlanOK.mk (by kernel_rfl) rfl (by kernel_rfl) (by kernel_rfl)) ?_)
        | (refine And.intro rfl (Exists.intro _ (And.intro (by first | assumption | rfl) ?_)))
        | (refine And.intro ⟨rfl, rfl, rfl⟩ ?_)
        | (refine call_ro [] (newer_is x w false ho1) GG_no rfl rfl rfl trivial ?_; rintro r bs' ext ⟨rfl, rfl⟩)
        | (refine call_ro [] (newer_is y w false ho2) GG_no rfl rfl rfl trivial ?_; rintro r bs' ext ⟨rfl, rfl⟩)
        | (refine call_ro [] (newer_is w x true h) GG_no rfl rfl rfl trivial ?_; rintro r bs' ext ⟨rfl, rfl⟩)
        | (refine And.intro (by omega) ?_)
        | (refine BB.mk (fun _h => ?_) (fun _h => ?_) <;> (first | (exact absurd _h (by decide)) | (exfalso; simp only [boolSet] at _h <;> omega) | skip)))
      all_goals (try conv => whnf)
      exact ⟨k + 1, by omega, by omega, ⟨⟨[0, 1, 2], by decide, GG_no, rfl, SubOld.refl _ rfl, ⟨.inr rfl, .inr rfl, .inr rfl, trivial⟩, ⟨.inl rfl, .inl rfl, .inl rfl, .inl rfl, .inl rfl, .inl (num_eq (by rw [IntKind.wrap_i64]; omega)), trivial⟩⟩, rfl⟩⟩
    · 
      repeat' ((try conv => whnf); first
        | (with_reducible refine OKv.go (C := seat) seat_ok ?_)
        | (with_reducible refine BB_true ?_)
        | (with_reducible refine BB_false ?_)
        | (with_reducible refine Both.mk ?_ ?_)
        | (with_reducible refine VS.mk ?_)
        | (refine PSem.go (C := seat) seat_ok ?_)
        | (refine And.intro (PlanOK.mk (by kernel_rfl) rfl (by kernel_rfl) (by kernel_rfl)) ?_)
        | (refine And.intro rfl (Exists.intro _ (And.intro (by first | assumption | rfl) ?_)))
        | (refine And.intro ⟨rfl, rfl, rfl⟩ ?_)
        | (refine call_ro [] (newer_is w w false ho1) GG_no rfl rfl rfl trivial ?_; rintro r bs' ext ⟨rfl, rfl⟩)
        | (refine call_ro [] (newer_is y w false ho2) GG_no rfl rfl rfl trivial ?_; rintro r bs' ext ⟨rfl, rfl⟩)
        | (refine And.intro (by omega) ?_)
        | (refine BB.mk (fun _h => ?_) (fun _h => ?_) <;> (first | (exact absurd _h (by decide)) | (exfalso; simp only [boolSet] at _h <;> omega) | skip)))
      all_goals (try conv => whnf)
      exact ⟨k + 1, by omega, by omega, ⟨⟨[0, 1, 2], by decide, GG_no, rfl, SubOld.refl _ rfl, ⟨.inr rfl, .inr rfl, .inr rfl, trivial⟩, ⟨.inl rfl, .inl rfl, .inl rfl, .inl rfl, .inl rfl, .inl (num_eq (by rw [IntKind.wrap_i64]; omega)), trivial⟩⟩, rfl⟩⟩
  · 
    repeat' ((try conv => whnf); first
      | (with_reducible refine OKv.go (C := seat) seat_ok ?_)
      | (with_reducible refine BB_true ?_)
      | (with_reducible refine BB_false ?_)
      | (with_reducible refine Both.mk ?_ ?_)
      | (with_reducible refine VS.mk ?_)
      | (refine PSem.go (C := seat) seat_ok ?_)
      | (refine And.intro (PlanOK.mk (by kernel_rfl) rfl (by kernel_rfl) (by kernel_rfl)) ?_)
      | (refine And.intro rfl (Exists.intro _ (And.intro (by first | assumption | rfl) ?_)))
      | (refine And.intro ⟨rfl, rfl, rfl⟩ ?_)
      | (refine call_ro [] (awake_ok ()) GG_no rfl rfl rfl trivial ?_; rintro r bs' ext ⟨rfl, rfl⟩)
      | (refine And.intro (by omega) ?_)
      | (refine BB.mk (fun _h => ?_) (fun _h => ?_) <;> (first | (exact absurd _h (by decide)) | (exfalso; simp only [boolSet] at _h <;> omega) | skip)))
    all_goals (try conv => whnf)
    all_goals first
      | exact Fin.mk ⟨rfl, rfl⟩
      | exact Fin.mk ⟨bool_eq (by simp), rfl⟩
      | (exfalso; simp only [boolSet] at * <;> omega)
end Go.Proofs.Ytnkhdnmilncidaa
