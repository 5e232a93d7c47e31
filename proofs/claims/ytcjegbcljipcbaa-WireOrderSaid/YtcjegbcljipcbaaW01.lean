/- Package wire: numbers as bytes. -/
import Derived.Test.YtcjegbcljipcbaaTy01
import Derived.Test.YtcjegbcljipcbaaSymW
namespace Go.Proofs.Ytcjegbcljipcbaa
open Go.RowKit

abbrev GG : List (Nat × SB) := []
theorem GG_no : noOwn GG := noOwn_nil
def bN (x : Nat) : List Value := [.int .u8 (x : Int)]
/-- The lowest bytes of a number, the highest one first. -/
def putB (x : Nat) : Nat → List Nat
  | 0 => []
  | n + 1 => (x / 256 ^ n % 256) :: putB x n
def takeN (l : List Nat) : Nat := l.foldl (fun x y => x * 256 + y) 0
theorem putB_len (x : Nat) : ∀ n, (putB x n).length = n
  | 0 => rfl
  | n + 1 => by simp [putB, putB_len x n]
theorem putB_byte (x : Nat) : ∀ n, ∀ y ∈ putB x n, y < 256
  | 0, _, h => by simp [putB] at h
  | n + 1, y, h => by
    simp only [putB, List.mem_cons] at h
    rcases h with rfl | h
    · exact Nat.mod_lt _ (by decide)
    · exact putB_byte x n y h
theorem putB_at (x : Nat) : ∀ n i, i < n → (putB x n)[i]? = some (x / 256 ^ (n - 1 - i) % 256)
  | 0, _, h => by omega
  | n + 1, 0, _ => by simp [putB]
  | n + 1, i + 1, h => by
    rw [putB, List.getElem?_cons_succ, putB_at x n i (by omega)]
    congr 4
    omega
theorem putB_mod (x : Nat) : ∀ n m, n ≤ m → putB (x % 256 ^ m) n = putB x n
  | 0, _, _ => rfl
  | n + 1, m, h => by
    rw [putB, putB, putB_mod x n m (by omega)]
    congr 1
    obtain ⟨k, rfl⟩ : ∃ k, m = n + 1 + k := ⟨m - (n + 1), by omega⟩
    rw [Nat.pow_add, Nat.pow_succ, Nat.mul_assoc, Nat.mod_mul_right_div_self]
    exact Nat.mod_mul_right_mod _ _ _
theorem takeGo (l : List Nat) : ∀ a, l.foldl (fun x y => x * 256 + y) a = a * 256 ^ l.length + takeN l := by
  induction l with
  | nil => intro a; simp [takeN]
  | cons y l ih =>
    intro a
    rw [takeN, List.foldl_cons, List.foldl_cons, ih, ih, List.length_cons, Nat.pow_succ]
    simp only [Nat.zero_mul, Nat.zero_add, Nat.add_mul]
    rw [Nat.mul_assoc, Nat.mul_comm 256]
    omega
theorem takeN_cons (y : Nat) (l : List Nat) : takeN (y :: l) = y * 256 ^ l.length + takeN l := by
  rw [takeN, List.foldl_cons, takeGo]; simp
theorem takeN_snoc (l : List Nat) (y : Nat) : takeN (l ++ [y]) = takeN l * 256 + y := by
  rw [takeN, List.foldl_append]; rfl
theorem takeN_lt : ∀ (l : List Nat), (∀ y ∈ l, y < 256) → takeN l < 256 ^ l.length
  | [], _ => by simp [takeN]
  | y :: l, h => by
    have h1 := takeN_lt l (fun z hz => h z (by simp [hz]))
    have h2 := h y (by simp)
    rw [takeN_cons, List.length_cons, Nat.pow_succ]
    have : y * 256 ^ l.length + 256 ^ l.length ≤ 256 ^ l.length * 256 := by
      rw [← Nat.succ_mul, Nat.mul_comm]
      exact Nat.mul_le_mul_left _ (by omega)
    omega
theorem take_put (x : Nat) : ∀ n, takeN (putB x n) = x % 256 ^ n
  | 0 => by simp [putB, takeN, Nat.mod_one]
  | n + 1 => by
    rw [putB, takeN_cons, putB_len, take_put x n, Nat.pow_succ, Nat.mod_mul]
    rw [Nat.mul_comm]; omega
theorem put_take : ∀ (l : List Nat), (∀ y ∈ l, y < 256) → putB (takeN l) l.length = l
  | [], _ => rfl
  | y :: l, h => by
    have hl : ∀ z ∈ l, z < 256 := fun z hz => h z (by simp [hz])
    have h1 := takeN_lt l hl
    have hy := h y (by simp)
    have e1 : takeN (y :: l) / 256 ^ l.length % 256 = y := by
      rw [takeN_cons, Nat.add_comm, Nat.add_mul_div_right _ _ (Nat.pow_pos (by decide)), Nat.div_eq_of_lt h1, Nat.zero_add, Nat.mod_eq_of_lt hy]
    have e2 : putB (takeN (y :: l)) l.length = l := by
      rw [← putB_mod _ _ l.length (Nat.le_refl _), takeN_cons, Nat.add_comm, Nat.add_mul_mod_self_right, Nat.mod_eq_of_lt h1]
      exact put_take l hl
    rw [List.length_cons, putB, e1, e2]
theorem put_inj {x y n : Nat} (hx : x < 256 ^ n) (hy : y < 256 ^ n) (h : putB x n = putB y n) : x = y := by
  have := congrArg takeN h
  rwa [take_put, take_put, Nat.mod_eq_of_lt hx, Nat.mod_eq_of_lt hy] at this
/-- One text ahead of another one. -/
def ltL : List Nat → List Nat → Bool
  | _, [] => false
  | [], _ :: _ => true
  | x :: l, y :: r => decide (x < y) || (decide (x = y) && ltL l r)
theorem put_lt : ∀ {n x y : Nat}, x < 256 ^ n → y < 256 ^ n → ltL (putB x n) (putB y n) = decide (x < y)
  | 0, x, y, hx, hy => by
    simp at hx hy
    subst hx; subst hy
    rfl
  | n + 1, x, y, hx, hy => by
    have ex := Nat.div_add_mod x (256 ^ n)
    have ey := Nat.div_add_mod y (256 ^ n)
    have hp : 0 < 256 ^ n := Nat.pow_pos (by decide)
    rw [Nat.pow_succ] at hx hy
    have dx : x / 256 ^ n < 256 := (Nat.div_lt_iff_lt_mul hp).2 (by rw [Nat.mul_comm]; exact hx)
    have dy : y / 256 ^ n < 256 := (Nat.div_lt_iff_lt_mul hp).2 (by rw [Nat.mul_comm]; exact hy)
    have mx := Nat.mod_lt x hp
    have my := Nat.mod_lt y hp
    have ih := put_lt (n := n) mx my
    rw [putB_mod _ _ _ (Nat.le_refl _), putB_mod _ _ _ (Nat.le_refl _)] at ih
    rw [putB, putB, ltL, ih, Nat.mod_eq_of_lt dx, Nat.mod_eq_of_lt dy, Bool.eq_iff_iff]
    simp only [Bool.or_eq_true, Bool.and_eq_true, decide_eq_true_eq]
    generalize x / 256 ^ n = a at *
    generalize y / 256 ^ n = b at *
    generalize x % 256 ^ n = c at *
    generalize y % 256 ^ n = d at *
    generalize 256 ^ n = p at *
    constructor
    · rintro (h | ⟨h, k⟩)
      · have : p * (a + 1) ≤ p * b := Nat.mul_le_mul_left _ h
        rw [Nat.mul_add] at this
        omega
      · subst h; omega
    · intro h
      rcases Nat.lt_trichotomy a b with h1 | h1 | h1
      · exact .inl h1
      · subst h1; exact .inr ⟨rfl, by omega⟩
      · have : p * (b + 1) ≤ p * a := Nat.mul_le_mul_left _ h1
        rw [Nat.mul_add] at this
        omega
theorem bN_all {l : List Nat} {E : List (List Value)} {e n : Nat} (h : (E.drop e).take n = l.map bN) (hb : e + n ≤ E.length) : l.length = n := by
  have := congrArg List.length h
  rw [List.length_take, List.length_drop, List.length_map] at this
  omega
theorem all_row (o : List Nat) : ((o.map bN).drop 0).take o.length = o.map bN := by rw [List.drop_zero, List.take_of_length_le (by rw [List.length_map]; omega)]
theorem all_len (o : List Nat) : 0 + o.length ≤ (o.map bN).length := by rw [List.length_map]; omega
theorem u8_inj {x y : Nat} (hx : x < 256) (hy : y < 256) (h : UInt8.ofNat x = UInt8.ofNat y) : x = y := by
  have := congrArg UInt8.toNat h
  simp only [UInt8.toNat_ofNat'] at this
  omega
theorem map_inj : ∀ {a b : List Nat}, (∀ x ∈ a, x < 256) → (∀ x ∈ b, x < 256) → a.map UInt8.ofNat = b.map UInt8.ofNat → a = b
  | [], [], _, _, _ => rfl
  | [], _ :: _, _, _, h => by simp at h
  | _ :: _, [], _, _, h => by simp at h
  | x :: a, y :: b, ha, hb, h => by
    simp only [List.map_cons, List.cons.injEq] at h
    rw [u8_inj (ha x (by simp)) (hb y (by simp)) h.1, map_inj (fun z hz => ha z (by simp [hz])) (fun z hz => hb z (by simp [hz])) h.2]
abbrev intsN (l : List Nat) : List Int := l.map fun (x : Nat) => (x : Int)
theorem str_list (l : List Nat) : (strOfNums (intsN l)).toList = l.map UInt8.ofNat := by
  rw [ByteArray.toList_eq, strOfNums_data, List.map_map]
  rfl
theorem str_eq {a b : List Nat} (ha : ∀ x ∈ a, x < 256) (hb : ∀ x ∈ b, x < 256) : ((strOfNums (intsN a)).toList == (strOfNums (intsN b)).toList) = decide (a = b) := by
  rw [Bool.eq_iff_iff, beq_iff_eq, decide_eq_true_eq, str_list, str_list]
  exact ⟨map_inj ha hb, fun h => by rw [h]⟩
theorem str_lt : ∀ {a b : List Nat}, (∀ x ∈ a, x < 256) → (∀ x ∈ b, x < 256) → Op.bytesLess (a.map UInt8.ofNat) (b.map UInt8.ofNat) = ltL a b
  | _, [], _, _ => by simp [Op.bytesLess, ltL]
  | [], _ :: _, _, _ => by simp [Op.bytesLess, ltL]
  | x :: a, y :: b, ha, hb => by
    have hx := ha x (by simp)
    have hy := hb y (by simp)
    simp only [List.map_cons, Op.bytesLess, ltL]
    rw [str_lt (fun z hz => ha z (by simp [hz])) (fun z hz => hb z (by simp [hz]))]
    have e1 : decide (UInt8.ofNat x < UInt8.ofNat y) = decide (x < y) := by
      rw [decide_eq_decide, UInt8.lt_iff_toNat_lt, UInt8.toNat_ofNat', UInt8.toNat_ofNat']
      omega
    have e2 : (UInt8.ofNat x == UInt8.ofNat y) = decide (x = y) := by
      rw [Bool.eq_iff_iff, beq_iff_eq, decide_eq_true_eq]
      exact ⟨u8_inj hx hy, fun h => by rw [h]⟩
    rw [e1, e2]
theorem bN_ints (l : List Nat) : l.map bN = (intsN l).map fun n => [Value.int .u8 n] := by
  rw [List.map_map]; rfl
set_option maxRecDepth 100000 in
set_option maxHeartbeats 4000000 in
theorem same_gen (l r : List Nat) (E1 E2 : List (List Value)) (e1 e2 n1 n2 c1 c2 : Nat) (hl : ∀ x ∈ l, x < 256) (hr : ∀ x ∈ r, x < 256) (h1 : (E1.drop e1).take n1 = l.map bN) (h2 : (E2.drop e2).take n2 = r.map bN) (b1 : e1 + n1 ≤ E1.length) (b2 : e2 + n2 ≤ E2.length) : FnOK Try.prog GG 13 [.ro 1 E1, .ro 1 E2] [.s (.o 0) 1 e1 n1 c1, .s (.o 1) 1 e2 n2 c2] (fun rr _ ext => rr = .v (.bool (decide (l = r))) ∧ ext = []) := by
  have hs := str_eq hl hr
  refine fn_val (C := seat) seat_ok [] GG_no (Try.func13) rfl rfl rfl rfl rfl (fun _ => rfl) rfl ?_
  repeat' ((try conv => whnf); first
    | (with_reducible refine BB_true ?_)
    | (with_reducible refine BB_false ?_)
    | (with_reducible refine Both.mk ?_ ?_)
    | (with_reducible refine VS.mk ?_)
    | (refine PSem.go (C := seat) seat_ok ?_)
    | (refine And.intro (PlanOK.mk (by kernel_rfl) rfl (by kernel_rfl) (by kernel_rfl)) ?_)
    | (refine And.intro rfl (Exists.intro _ (And.intro (by first | assumption | rfl) ?_)))
    | (refine And.intro ⟨rfl, rfl, rfl⟩ ?_)
    | (refine And.intro ⟨rfl, b1⟩ ?_)
    | (refine And.intro ⟨rfl, b2⟩ ?_)
    | (refine Exists.intro (intsN l) (And.intro (h1.trans (bN_ints l)) ?_))
    | (refine Exists.intro (intsN r) (And.intro (h2.trans (bN_ints r)) ?_))
    | (refine And.intro (by omega) ?_)
    | (refine BB.mk (fun _h => ?_) (fun _h => ?_) <;> (first | (exact absurd _h (by decide)) | (exfalso; simp only [boolSet] at _h <;> omega) | skip)))
  all_goals (try conv => whnf)
  all_goals exact fin_bool hs rfl
set_option maxRecDepth 100000 in
set_option maxHeartbeats 4000000 in
theorem own_ok (l : List Nat) (E : List (List Value)) (e n c : Nat) (h : (E.drop e).take n = l.map bN) (hb : e + n ≤ E.length) (hl : n ≤ 1099511627776) : FnOK Try.prog GG 23 [.ro 1 E] [.s (.o 0) 1 e n c] (fun r _ ext => ∃ cap, l.length ≤ cap ∧ r = .s (.n 0) 1 0 l.length cap ∧ ext = [.row 5 1 cap (l.map bN)]) := by
  refine fn_newR (C := seat) seat_ok [] GG_no (Try.func23) rfl rfl rfl rfl rfl rfl ?_
  repeat' ((try conv => whnf); first
    | (with_reducible refine BB_true ?_)
    | (with_reducible refine BB_false ?_)
    | (with_reducible refine Both.mk ?_ ?_)
    | (with_reducible refine VS.mk ?_)
    | (refine PSem.go (C := seat) seat_ok ?_)
    | (refine And.intro (PlanOK.mk (by kernel_rfl) rfl (by kernel_rfl) (by kernel_rfl)) ?_)
    | (refine And.intro rfl (Exists.intro _ (And.intro (by first | assumption | rfl) ?_)))
    | (refine And.intro ⟨rfl, rfl, rfl⟩ ?_)
    | (refine And.intro ⟨rfl, rfl, rfl, by rw [List.length_map]⟩ ?_)
    | (refine And.intro ⟨rfl, hb⟩ ?_)
    | (refine And.intro (by first | omega | (dsimp only; omega) | exact ⟨rfl, Nat.le_refl _⟩) ?_)
    | (intro cap' hcap')
    | (refine And.intro (by omega) ?_)
    | (refine BB.mk (fun _h => ?_) (fun _h => ?_) <;> (first | (exact absurd _h (by decide)) | (exfalso; simp only [boolSet] at _h <;> omega) | skip)))
  all_goals (try conv => whnf)
  all_goals
    have hn := bN_all h hb
    refine ⟨⟨[0], .s (.n 0) 1 0 (0 + n) cap', [.row 5 1 cap' (l.map bN)], by decide, .inl (.inl rfl), ⟨.inr ?_, trivial⟩, cap', by omega, by rw [Nat.zero_add, hn], rfl⟩, rfl⟩
    show some (SB.row 5 1 cap' ([] ++ (E.drop e).take n)) = _
    rw [List.nil_append, h]
end Go.Proofs.Ytcjegbcljipcbaa
