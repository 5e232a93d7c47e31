/- Descriptors by computing: place, Find, Oldest, Older. -/
import Derived.Test.YtocappiebmmpgaaD09d
namespace Go.Proofs.Ytocappiebmmpgaa
open Go.RowKit

abbrev Rising (l : List De) : Prop := l.Pairwise (fun a b => a.node < b.node)
def placeN (x : Int) : List De → Nat
  | [] => 0
  | d :: l => if d.node < x then placeN x l + 1 else 0
theorem place_le (x : Int) : ∀ l, placeN x l ≤ l.length
  | [] => Nat.le_refl _
  | d :: l => by
    unfold placeN
    have := place_le x l
    split
    · simp only [List.length_cons]; omega
    · omega
theorem place_lt {x : Int} : ∀ {l : List De} {i : Nat} {y : De}, i < placeN x l → l[i]? = some y → y.node < x
  | [], _, _, h, _ => by simp [placeN] at h
  | d :: l, i, y, h, hy => by
    unfold placeN at h
    split at h
    · rename_i hd
      cases i with
      | zero => simp at hy; subst hy; exact hd
      | succ i => exact place_lt (l := l) (i := i) (by omega) (by simpa using hy)
    · omega
theorem place_at {x : Int} : ∀ {l : List De} {y : De}, l[placeN x l]? = some y → x ≤ y.node
  | [], _, h => by simp at h
  | d :: l, y, h => by
    unfold placeN at h
    split at h
    · exact place_at (l := l) (by simpa using h)
    · rename_i hd
      simp at h
      subst h
      omega
theorem place_uniq {x : Int} : ∀ {l : List De} {k : Nat}, k ≤ l.length → (∀ i y, i < k → l[i]? = some y → y.node < x) → (∀ y, l[k]? = some y → x ≤ y.node) → k = placeN x l
  | [], k, h, _, _ => by simp at h; simp [placeN, h]
  | d :: l, k, h, h1, h2 => by
    unfold placeN
    cases k with
    | zero =>
      have := h2 d rfl
      rw [if_neg (by omega)]
    | succ k =>
      have := h1 0 d (by omega) rfl
      rw [if_pos this]
      have := place_uniq (x := x) (l := l) (k := k) (by simpa using h) (fun i y hi hy => h1 (i + 1) y (by omega) (by simpa using hy)) (fun y hy => h2 y (by simpa using hy))
      omega
def geQ (x : Int) (l : List De) (i : Nat) : Bool := match l[i]? with
  | some y => decide (x ≤ y.node)
  | none => true
theorem geQ_mono {x : Int} {l : List De} (hr : Rising l) : ∀ i j, i ≤ j → geQ x l i = true → geQ x l j = true := by
  intro i j hij hi
  unfold geQ at *
  cases hj : l[j]? with
  | none => rfl
  | some z =>
    obtain ⟨hjl, ez⟩ := List.getElem?_eq_some_iff.1 hj
    have hil : i < l.length := by omega
    rw [List.getElem?_eq_getElem hil] at hi
    simp only [decide_eq_true_eq] at hi ⊢
    rcases Nat.lt_or_eq_of_le hij with h | h
    · have := List.pairwise_iff_getElem.1 hr i j hil hjl h
      rw [ez] at this
      omega
    · subst h
      rw [ez] at hi
      exact hi
def findZ (x : Int) (l : List De) : Int := match l[placeN x l]? with
  | some y => if y.node = x then (placeN x l : Int) else -1
  | none => -1
set_option maxRecDepth 100000 in
set_option maxHeartbeats 4000000 in
theorem place_ok (l : List De) (cap : Nat) (x : Int) (hl : l.length ≤ 1099511627776) (hr : Rising l) : FnOK Try.prog GG 53 [.ro 4 (l.map deC)] [.s (.o 0) 4 0 l.length cap, .v (.int .u8 x)] (fun r _ ext => r = .v (.int .i64 (placeN x l : Int)) ∧ ext = []) := by
  have hq : ∀ (i : Int) (k : Nat), i = k → k < l.length → FnOK Try.prog GG 58 [.box 28 [.s (.o 2) 4 0 l.length cap], .box 5 [.v (.int .u8 x)], .ro 4 (l.map deC)] [.v (.int .i64 i), .p (.o 0) 0 0 0, .p (.o 1) 0 0 0] (fun r bs' ext => bs' = [.box 28 [.s (.o 2) 4 0 l.length cap], .box 5 [.v (.int .u8 x)], .ro 4 (l.map deC)] ∧ r = .v (.bool (geQ x l k)) ∧ ext = []) := by
    intro i k hi hk
    have hy := List.getElem?_eq_getElem hk
    have := place1_ok l cap x i k hi _ hy hl
    have e : geQ x l k = decide (x ≤ (l[k]).node) := by unfold geQ; rw [hy]
    rw [e]
    exact this
  refine fn_val (C := seat) seat_ok [] GG_no (Try.func53) rfl rfl rfl rfl rfl (fun _ => rfl) rfl ?_
  repeat' ((try conv => whnf); first
    | (with_reducible refine OKv.go (C := seat) seat_ok ?_)
    | (with_reducible refine BB_true ?_)
    | (with_reducible refine BB_false ?_)
    | (with_reducible refine Both.mk ?_ ?_)
    | (with_reducible refine VS.mk ?_)
    | (refine PSem.go (C := seat) seat_ok ?_)
    | (refine And.intro (PlanOK.mk (by kernel_rfl) rfl (by kernel_rfl) (by kernel_rfl)) ?_)
    | (refine And.intro rfl (Exists.intro _ (And.intro (by first | assumption | rfl) ?_)))
    | (refine And.intro ⟨rfl, rfl, rfl⟩ ?_)
    | (refine call_same [.n 0, .n 1, .o 0] (search_ok l cap x l.length _ hl (geQ x l) hq (geQ_mono hr)) GG_no rfl rfl rfl ⟨⟨_, rfl, .inr ⟨(fun _ h => by cases h), rfl⟩⟩, ⟨_, rfl, .inr ⟨(fun _ h => by cases h), rfl⟩⟩, ⟨_, rfl, .inl ⟨rfl, rfl⟩⟩, trivial⟩ (by decide) ?_; rintro r bs' ext ⟨rfl, k, hk1, hk2, hk3, rfl, rfl⟩; refine And.intro rfl ?_)
    | (refine And.intro (by omega) ?_)
    | (refine BB.mk (fun _h => ?_) (fun _h => ?_) <;> (first | (exact absurd _h (by decide)) | (exfalso; simp only [boolSet] at _h <;> omega) | skip)))
  all_goals (try conv => whnf)
  have hk : k = placeN x l := by
    refine place_uniq hk1 (fun i y hi hy => ?_) (fun y hy => ?_)
    · have := hk2 i hi
      unfold geQ at this
      rw [hy] at this
      simpa using this
    · have := hk3 k (Nat.le_refl _) (getElem?_lt hy)
      unfold geQ at this
      rw [hy] at this
      simpa using this
  subst hk
  exact Fin.mk ⟨rfl, rfl⟩
set_option maxRecDepth 100000 in
set_option maxHeartbeats 4000000 in
theorem find_ok (l : List De) (cap : Nat) (x : Int) (hl : l.length ≤ 1099511627776) (hr : Rising l) : FnOK Try.prog GG 50 [.ro 4 (l.map deC)] [.s (.o 0) 4 0 l.length cap, .v (.int .u8 x)] (fun r _ ext => r = .v (.int .i64 (findZ x l)) ∧ ext = []) := by
  have hple := place_le x l
  by_cases hlt : placeN x l < l.length
  · obtain ⟨y, hy⟩ : ∃ y, l[placeN x l]? = some y := ⟨_, List.getElem?_eq_getElem hlt⟩
    have hrow := de_at hy
    have hF : findZ x l = if y.node = x then (placeN x l : Int) else -1 := by unfold findZ; rw [hy]
    rw [hF]
    refine fn_val (C := seat) seat_ok [] GG_no (Try.func50) rfl rfl rfl rfl rfl (fun _ => rfl) rfl ?_
    repeat' ((try conv => whnf); first
      | (with_reducible refine OKv.go (C := seat) seat_ok ?_)
      | (with_reducible refine BB_true ?_)
      | (with_reducible refine BB_false ?_)
      | (with_reducible refine Both.mk ?_ ?_)
      | (with_reducible refine VS.mk ?_)
      | (refine PSem.go (C := seat) seat_ok ?_)
      | (refine And.intro (PlanOK.mk (by kernel_rfl) rfl (by kernel_rfl) (by kernel_rfl)) ?_)
      | (refine And.intro rfl (Exists.intro _ (And.intro (by first | assumption | rfl) ?_)))
      | (refine And.intro ⟨rfl, rfl, rfl⟩ ?_)
      | (refine call_ro [.o 0] (place_ok l cap x hl hr) GG_no rfl rfl rfl ⟨⟨_, rfl, rfl, rfl⟩, trivial⟩ ?_; rintro r bs' ext ⟨rfl, rfl⟩)
      | (refine And.intro (by omega) ?_)
      | (refine BB.mk (fun _h => ?_) (fun _h => ?_) <;> (first | (exact absurd _h (by decide)) | (exfalso; simp only [boolSet] at _h <;> omega) | skip)))
    all_goals (try conv => whnf)
    all_goals (try (refine Fin.mk ?_))
    all_goals first
      | (rw [if_pos (by simp only [boolSet] at _h <;> exact _h)]; exact ⟨rfl, rfl⟩)
      | (rw [if_neg (by simp only [boolSet] at _h <;> exact _h)]; exact ⟨rfl, rfl⟩)
  · have hF : findZ x l = -1 := by unfold findZ; rw [List.getElem?_eq_none (by omega)]
    rw [hF]
    refine fn_val (C := seat) seat_ok [] GG_no (Try.func50) rfl rfl rfl rfl rfl (fun _ => rfl) rfl ?_
    repeat' ((try conv => whnf); first
      | (with_reducible refine OKv.go (C := seat) seat_ok ?_)
      | (with_reducible refine BB_true ?_)
      | (with_reducible refine BB_false ?_)
      | (with_reducible refine Both.mk ?_ ?_)
      | (with_reducible refine VS.mk ?_)
      | (refine PSem.go (C := seat) seat_ok ?_)
      | (refine And.intro (PlanOK.mk (by kernel_rfl) rfl (by kernel_rfl) (by kernel_rfl)) ?_)
      | (refine And.intro rfl (Exists.intro _ (And.intro (by first | assumption | rfl) ?_)))
      | (refine And.intro ⟨rfl, rfl, rfl⟩ ?_)
      | (refine call_ro [.o 0] (place_ok l cap x hl hr) GG_no rfl rfl rfl ⟨⟨_, rfl, rfl, rfl⟩, trivial⟩ ?_; rintro r bs' ext ⟨rfl, rfl⟩)
      | (refine And.intro (by omega) ?_)
      | (refine BB.mk (fun _h => ?_) (fun _h => ?_) <;> (first | (exact absurd _h (by decide)) | (exfalso; simp only [boolSet] at _h <;> omega) | skip)))
    all_goals (try conv => whnf)
    all_goals exact Fin.mk ⟨rfl, rfl⟩
end Go.Proofs.Ytocappiebmmpgaa
