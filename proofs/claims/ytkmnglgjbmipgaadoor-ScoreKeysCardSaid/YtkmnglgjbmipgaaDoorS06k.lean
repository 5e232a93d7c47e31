/- Package schema: Bring; ScoreKeys' closure. -/
import Derived.Test.YtkmnglgjbmipgaaDoorS06i
import Derived.Test.YtkmnglgjbmipgaaDoorSCH
namespace Go.Proofs.YtkmnglgjbmipgaaDoor
open Go.RowKit

theorem frz_rowF {m : Mem} {b t sz c len cap : Nat} {els els' : List (List CV)} (hl : m.look (.n b) = some (.row t sz c els)) (hn : len = els'.length) (he : els = els') : FrzV m (.s (.n b) sz 0 len cap) (.z sz els' cap) (m.set (.n b) (.ro sz els)) := by
  subst he
  exact frz_row hl hn
def gtD (v : List Int) (k : Nat) : Int := v.getD k 0
def brI (s : List Sp) (v : List Int) (i : Nat) : Int := bndI (gtD v i) (atD s i).a (atD s i).b
def mixL (s : List Sp) (v : List Int) (k : Nat) : List Int := (List.range s.length).map fun i => if i < k then brI s v i else gtD v i
def bringL (s : List Sp) (v : List Int) : List Int := (List.range s.length).map fun i => brI s v i
theorem mixL_len (s : List Sp) (v : List Int) (k : Nat) : (mixL s v k).length = s.length := by simp [mixL]
theorem bringL_len (s : List Sp) (v : List Int) : (bringL s v).length = s.length := by simp [bringL]
theorem bringL_at {s : List Sp} {v : List Int} {k : Nat} (h : k < s.length) : atD (bringL s v) k = brI s v k := by
  unfold atD bringL
  rw [List.getD_eq_getElem?_getD, List.getElem?_map, List.getElem?_range h]; rfl
theorem mixL_end (s : List Sp) (v : List Int) : mixL s v s.length = bringL s v := by
  unfold mixL bringL
  apply List.map_congr_left
  intro i hi
  rw [if_pos (List.mem_range.1 hi)]
theorem mixL_at? (s : List Sp) (v : List Int) (k j : Nat) : (mixL s v k)[j]? = if j < s.length then some (if j < k then brI s v j else gtD v j) else none := by
  unfold mixL
  rw [List.getElem?_map]
  by_cases h : j < s.length
  · rw [List.getElem?_range h, if_pos h]; rfl
  · rw [if_neg h, List.getElem?_eq_none (by rw [List.length_range]; omega)]; rfl
theorem mixL_row {s : List Sp} {v : List Int} {k : Nat} (h : k < s.length) : ((mixL s v k).map nuC)[0 + (k : Int).toNat]? = some [.v (.int .i32 (gtD v k))] := by
  rw [Nat.zero_add, Int.toNat_natCast, List.getElem?_map, mixL_at?, if_pos h, if_neg (Nat.lt_irrefl _)]; rfl
theorem mixL_set {s : List Sp} {v : List Int} {k : Nat} (h : k < s.length) : ((mixL s v k).map nuC).set (0 + (k : Int).toNat) [.v (.int .i32 (brI s v k))] = (mixL s v (k + 1)).map nuC := by
  apply List.ext_getElem?
  intro j
  rw [Nat.zero_add, Int.toNat_natCast, List.getElem?_set, List.length_map, mixL_len, List.getElem?_map, List.getElem?_map, mixL_at?, mixL_at?]
  by_cases hj : k = j
  · subst hj
    rw [if_pos rfl, if_pos h, if_pos h, if_pos (Nat.lt_succ_self _)]; rfl
  · rw [if_neg hj]
    by_cases h1 : j < k
    · rw [if_pos h1, if_pos (show j < k + 1 by omega)]
    · rw [if_neg h1, if_neg (show ¬ j < k + 1 by omega)]
theorem mixL_start (s : List Sp) (v : List Int) {n m : Nat} (hn : n = s.length) (hm : m = v.length) : (List.replicate n [CV.v (.int .i32 0)]).take 0 ++ (v.map nuC).take n ++ (List.replicate n [CV.v (.int .i32 0)]).drop (0 + min m n) = (mixL s v 0).map nuC := by
  subst hn; subst hm
  apply List.ext_getElem?
  intro j
  rw [List.take_zero, List.nil_append, Nat.zero_add, List.getElem?_map, mixL_at?, if_neg (Nat.not_lt_zero _)]
  by_cases h1 : j < s.length
  · rw [if_pos h1]
    by_cases h2 : j < v.length
    · rw [List.getElem?_append_left (by rw [List.length_take, List.length_map]; omega), List.getElem?_take, if_pos h1, List.getElem?_map, List.getElem?_eq_getElem h2]
      simp [h2, nuC, gtD]
    · rw [List.getElem?_append_right (by rw [List.length_take, List.length_map]; omega), List.getElem?_drop, List.length_take, List.length_map]
      rw [List.getElem?_replicate, if_pos (by omega)]
      simp [h2, nuC, gtD]
  · rw [if_neg h1]
    exact List.getElem?_eq_none (by rw [List.length_append, List.length_drop, List.length_take, List.length_map, List.length_replicate]; omega)
set_option maxRecDepth 100000 in
set_option maxHeartbeats 4000000 in
theorem bring_z (s : List Sp) (v : List Int) (ca cb : Nat) (hs : s.length ≤ 1099511627776) (hv : v.length ≤ 1099511627776) : FnOK Tryd.prog GG 23 [] [.z 2 (s.map spC) ca, .z 1 (v.map nuC) cb] (fun rr _ ext => (∃ c', (bringL s v).length ≤ c' ∧ rr = .z 1 ((bringL s v).map nuC) c') ∧ ext = []) := by
  have hms : (s.map spC).length = s.length := List.length_map _
  have hmv : (v.map nuC).length = v.length := List.length_map _
  refine FnOK.pure GG_no rfl (fn_intro (C := seat) seat_ok [(6, (.of [(0, .take), (1, .take), (2, .take), (3, .take), (4, .take), (5, .take), (6, .take), (7, .take), (8, .take), (9, .take), (10, .do_), (11, .take), (12, .last)]))] GG_no (Tryd.func23) rfl rfl rfl rfl rfl ?_)
  repeat' ((try conv => whnf); first
    | (with_reducible refine OKv.go (C := seat) seat_ok ?_)
    | (with_reducible refine BB_true ?_)
    | (with_reducible refine BB_false ?_)
    | (with_reducible refine Both.mk ?_ ?_)
    | (with_reducible refine VS.mk ?_)
    | (refine PSem.go (C := seat) seat_ok ?_)
    | (refine And.intro (PlanOK.mk (by kernel_rfl) rfl (by kernel_rfl) (by kernel_rfl)) ?_)
    | (refine And.intro rfl (Exists.intro _ (And.intro (by first | assumption | rfl) ?_)))
    | (refine And.intro ⟨rfl, rfl, rfl⟩ ?_)
    | (refine And.intro ⟨rfl, by first | (rw [List.length_map, List.length_append]; omega) | (rw [List.length_replicate]; show 0 + _ ≤ _; omega)⟩ ?_)
    | (refine And.intro ⟨by omega, by omega, by dsimp only; omega⟩ ?_)
    | (refine And.intro (by first | omega | (dsimp only; omega)) ?_)
    | (refine And.intro (by omega) ?_)
    | (refine BB.mk (fun _h => ?_) (fun _h => ?_) <;> (first | (exact absurd _h (by decide)) | (exfalso; simp only [boolSet] at _h <;> omega) | skip)))
  all_goals (try conv => whnf)
  refine loop_rule (α := Nat) (fun k => k ≤ s.length) (fun k => { slots := [(5, .s (.n 0) 1 0 (s.map spC).length (s.map spC).length), (14, .z 2 (s.map spC) ca), (15, .v (.int .i64 (s.map spC).length)), (16, .v (.int .i64 (k : Int)))], nt := 35, mem := ⟨GG, [], [.row 21 1 (s.map spC).length ((mixL s v k).map nuC)]⟩ }) (fun k => s.length - k) 0 (Nat.zero_le _) ⟨⟨[0], (by decide), GG_no, rfl, (SubOld.refl _ rfl), ⟨.inr (.inl (congrArg (fun z => some (SB.row 21 1 (s.map spC).length z)) (mixL_start s v hms hmv))), trivial⟩, ⟨.inl rfl, .inl rfl, .inl rfl, .inl rfl, trivial⟩⟩, rfl⟩ ?_ (fun _ => rfl)
  intro k hk
  have hml : ((mixL s v k).map nuC).length = s.length := by rw [List.length_map, mixL_len]
  refine vc_sound (C := seat) seat_ok (pl := [(6, (.of [(0, .take), (1, .take), (2, .take), (3, .take), (4, .take), (5, .take), (6, .take), (7, .take), (8, .take), (9, .take), (10, .do_), (11, .take), (12, .last)]))]) ?_
  by_cases hlt : k < s.length
  · have hrow := atC (l := s) (k := k) hlt
    have hrow1 := mixL_row (v := v) hlt
    repeat' ((try conv => whnf); first
      | (with_reducible refine OKv.go (C := seat) seat_ok ?_)
      | (with_reducible refine BB_true ?_)
      | (with_reducible refine BB_false ?_)
      | (with_reducible refine Both.mk ?_ ?_)
      | (with_reducible refine VS.mk ?_)
      | (refine PSem.go (C := seat) seat_ok ?_)
      | (refine And.intro (PlanOK.mk (by kernel_rfl) rfl (by kernel_rfl) (by kernel_rfl)) ?_)
      | (refine And.intro rfl (Exists.intro _ (And.intro (by first | assumption | rfl) ?_)))
      | (refine And.intro ⟨rfl, rfl, rfl⟩ ?_)
      | (refine call_ro [] (bound_z _ _ _) GG_no rfl rfl rfl trivial ?_; rintro r bs' ext ⟨rfl, rfl⟩)
      | (refine And.intro ⟨by omega, by simp only [List.length_map]; omega⟩ (Exists.intro _ (And.intro (by first | assumption | rfl) ?_)))
      | (refine And.intro (by omega) ?_)
      | (refine BB.mk (fun _h => ?_) (fun _h => ?_) <;> (first | (exact absurd _h (by decide)) | (exfalso; simp only [boolSet] at _h <;> omega) | skip)))
    all_goals (try conv => whnf)
    exact ⟨k + 1, by omega, by omega, ⟨⟨[0], by decide, GG_no, rfl, SubOld.refl _ rfl, ⟨.inr (.inl (congrArg (fun z => some (SB.row 21 1 (s.map spC).length z)) (mixL_set (v := v) hlt))), trivial⟩, ⟨.inl rfl, .inl rfl, .inl rfl, .inl (num_eq (by rw [IntKind.wrap_i64]; omega)), trivial⟩⟩, rfl⟩⟩
  · obtain rfl : k = s.length := by omega
    repeat' ((try conv => whnf); first
      | (with_reducible refine OKv.go (C := seat) seat_ok ?_)
      | (with_reducible refine BB_true ?_)
      | (with_reducible refine BB_false ?_)
      | (with_reducible refine Both.mk ?_ ?_)
      | (with_reducible refine VS.mk ?_)
      | (refine PSem.go (C := seat) seat_ok ?_)
      | (refine And.intro (PlanOK.mk (by kernel_rfl) rfl (by kernel_rfl) (by kernel_rfl)) ?_)
      | (refine And.intro rfl (Exists.intro _ (And.intro (by first | assumption | rfl) ?_)))
      | (refine And.intro ⟨rfl, rfl, rfl⟩ ?_)
      | (refine And.intro (by omega) ?_)
      | (refine BB.mk (fun _h => ?_) (fun _h => ?_) <;> (first | (exact absurd _h (by decide)) | (exfalso; simp only [boolSet] at _h <;> omega) | skip)))
    all_goals (try conv => whnf)
    exact ⟨_, _, frz_rowF (els' := (bringL s v).map nuC) (by rfl) (by rw [List.length_map, List.length_map, bringL_len]) (by rw [mixL_end]), rfl, rfl, fun _ => rfl, (s.map spC).length, by rw [List.length_map, bringL_len]; exact Nat.le_refl _, rfl⟩
theorem bring_zo (s : List Sp) (v : List Int) (ca cb : Nat) (hs : s.length ≤ 1099511627776) (hv : v.length ≤ 1099511627776) (o : List Int) (ho : bringL s v = o) : FnOK Tryd.prog GG 23 [] [.z 2 (s.map spC) ca, .z 1 (v.map nuC) cb] (fun rr _ ext => (∃ c', o.length ≤ c' ∧ rr = .z 1 (o.map nuC) c') ∧ ext = []) := ho ▸ bring_z s v ca cb hs hv
def ptS (x : Int) : Sp := ⟨x, x⟩
def ptL (s : List Sp) (v : List Int) : List Sp := (bringL s v).map ptS
theorem ptL_len (s : List Sp) (v : List Int) : (ptL s v).length = s.length := by rw [ptL, List.length_map, bringL_len]
theorem ptL_at {s : List Sp} {v : List Int} {k : Nat} (h : k < s.length) : atD (ptL s v) k = ptS (brI s v k) := by
  have h2 := bringL_at (v := v) h
  unfold atD at *
  unfold ptL
  rw [List.getD_eq_getElem?_getD, List.getElem?_map, List.getElem?_eq_getElem (by rw [bringL_len]; exact h)]
  rw [List.getD_eq_getElem?_getD, List.getElem?_eq_getElem (by rw [bringL_len]; exact h)] at h2
  exact congrArg ptS h2
theorem pt_take {s : List Sp} {v : List Int} {k : Nat} (h : k < s.length) : (ptL s v).take (k + 1) = (ptL s v).take k ++ [ptS (brI s v k)] := by
  rw [List.take_succ_eq_append_getElem (by rw [ptL_len]; exact h)]
  congr 2
  have h2 := ptL_at (v := v) h
  unfold atD at h2
  rw [List.getD_eq_getElem?_getD, List.getElem?_eq_getElem (by rw [ptL_len]; exact h)] at h2
  exact h2
set_option maxRecDepth 100000 in
set_option maxHeartbeats 4000000 in
theorem point_ok (s : List Sp) (v : List Int) (cs cv : Nat) (hs : s.length ≤ 1099511627776) (hv : v.length ≤ 1099511627776) : FnOK Tryd.prog GG 22 [.cst 23 [.z 2 (s.map spC) cs]] [.z 1 (v.map nuC) cv, .p (.o 0) 0 0 0] (fun r bs' ext => bs' = [.cst 23 [.z 2 (s.map spC) cs]] ∧ (∃ c', (ptL s v).length ≤ c' ∧ r = .z 2 ((ptL s v).map spC) c') ∧ ext = []) := by
  have hbl := bringL_len s v
  have hpl := ptL_len s v
  refine FnOK.pureB GG_no (fun _ _ => ⟨.inl rfl, trivial⟩) (fn_intro (C := seat) seat_ok [] GG_no (Tryd.func22) rfl rfl rfl rfl rfl ?_)
  repeat' ((try conv => whnf); first
    | (with_reducible refine OKv.go (C := seat) seat_ok ?_)
    | (with_reducible refine BB_true ?_)
    | (with_reducible refine BB_false ?_)
    | (with_reducible refine Both.mk ?_ ?_)
    | (with_reducible refine VS.mk ?_)
    | (refine PSem.go (C := seat) seat_ok ?_)
    | (refine And.intro (PlanOK.mk (by kernel_rfl) rfl (by kernel_rfl) (by kernel_rfl)) ?_)
    | (refine And.intro rfl (Exists.intro _ (And.intro (by first | assumption | rfl) ?_)))
    | (refine And.intro ⟨rfl, rfl, rfl⟩ ?_)
    | (refine fun (caps : Nat → Nat) hcaps => ?_; conv at hcaps => whnf)
    | (refine call_ro [] (bring_z s v _ _ hs hv) GG_no rfl rfl rfl trivial ?_; rintro r bs' ext ⟨⟨c2, hc2, rfl⟩, rfl⟩)
    | (refine And.intro (by omega) ?_)
    | (refine BB.mk (fun _h => ?_) (fun _h => ?_) <;> (first | (exact absurd _h (by decide)) | (exfalso; simp only [boolSet] at _h <;> omega) | skip)))
  all_goals (try conv => whnf)
  refine loop_rule (α := Nat × Nat) (fun p => p.1 ≤ s.length ∧ p.1 ≤ p.2) (fun p => { slots := [(4, .s (.n 0) 2 0 p.1 p.2), (9, .z 1 ((bringL s v).map nuC) c2), (10, .v (.int .i64 ((bringL s v).map nuC).length)), (11, .v (.int .i64 (p.1 : Int)))], nt := 23, mem := ⟨GG, [.cst 23 [.z 2 (s.map spC) cs]], [.row 36 2 p.2 (((ptL s v).take p.1).map spC)]⟩ }) (fun p => s.length - p.1) (0, 0) ⟨Nat.zero_le _, Nat.zero_le _⟩ ⟨⟨[0], (by decide), GG_no, rfl, ⟨.inl rfl, trivial⟩, ⟨.inl (.inl ⟨rfl, rfl⟩), trivial⟩, ⟨.inr (.inl ⟨_, _, _, rfl, rfl⟩), .inl rfl, .inl rfl, .inl rfl, trivial⟩⟩, rfl⟩ ?_ (fun _ => rfl)
  rintro ⟨k, c⟩ ⟨hk, hc⟩
  dsimp only at hk hc ⊢
  refine vc_sound (C := seat) seat_ok (pl := []) ?_
  have hmm : (((ptL s v).take k).map spC).length = k := by rw [List.length_map, List.length_take]; omega
  have hmb : ((bringL s v).map nuC).length = s.length := by rw [List.length_map, hbl]
  by_cases hlt : k < s.length
  · have hrow : ((bringL s v).map nuC)[(k : Int).toNat]? = some [.v (.int .i32 (brI s v k))] := by
      rw [← bringL_at hlt]
      exact atN (by omega)
    repeat' ((try conv => whnf); first
      | (with_reducible refine OKv.go (C := seat) seat_ok ?_)
      | (with_reducible refine BB_true ?_)
      | (with_reducible refine BB_false ?_)
      | (with_reducible refine Both.mk ?_ ?_)
      | (with_reducible refine VS.mk ?_)
      | (refine PSem.go (C := seat) seat_ok ?_)
      | (refine And.intro (PlanOK.mk (by kernel_rfl) rfl (by kernel_rfl) (by kernel_rfl)) ?_)
      | (refine And.intro rfl (Exists.intro _ (And.intro (by first | assumption | rfl) ?_)))
      | (refine And.intro ⟨rfl, rfl, rfl⟩ ?_)
      | (refine And.intro ⟨by omega, by omega⟩ (Exists.intro _ (And.intro (by assumption) ?_)))
      | (refine And.intro ⟨rfl, rfl, rfl, by first | (simp only [chunks_len, List.length_map, List.length_take, List.length_drop, List.length_append, List.length_cons, List.length_nil] <;> omega) | omega | rfl⟩ ?_)
      | (refine And.intro ⟨rfl, by first | (simp only [chunks_len, List.length_map, List.length_take, List.length_drop, List.length_append, List.length_cons, List.length_nil] <;> omega) | omega | rfl⟩ ?_)
      | (refine And.intro (by first | exact ⟨rfl, Nat.le_refl _⟩ | first | (simp only [chunks_len, List.length_map, List.length_take, List.length_drop, List.length_append, List.length_cons, List.length_nil] <;> omega) | omega | rfl) ?_)
      | (refine fun (caps : Nat → Nat) hcaps => ?_; conv at hcaps => whnf)
      | (refine fun (cap' : Nat) hcap' => ?_)
      | (refine BB.mk (fun _h => ?_) (fun _h => ?_) <;> (first | (exact absurd _h (by decide)) | (exfalso; simp only [boolSet, hmb] at _h <;> omega) | (simp only [boolSet, hmb] at _h) | skip))
      | (refine And.intro (by omega) ?_)
      | (refine BB.mk (fun _h => ?_) (fun _h => ?_) <;> (first | (exact absurd _h (by decide)) | (exfalso; simp only [boolSet] at _h <;> omega) | skip)))
    all_goals (try conv => whnf)
    refine ⟨(k + 1, cap'), ⟨by dsimp only; omega, by dsimp only; omega⟩, by dsimp only; omega, ⟨⟨[2], by decide, GG_no, rfl, ⟨.inl rfl, trivial⟩, ⟨.inr (.inl ?_), trivial⟩, ⟨.inl rfl, .inl rfl, .inl rfl, .inl (num_eq (by rw [IntKind.wrap_i64]; omega)), trivial⟩⟩, rfl⟩⟩
    dsimp only
    rw [pt_take hlt, List.map_append]
    rfl
  · obtain rfl : k = s.length := by omega
    repeat' ((try conv => whnf); first
      | (with_reducible refine OKv.go (C := seat) seat_ok ?_)
      | (with_reducible refine BB_true ?_)
      | (with_reducible refine BB_false ?_)
      | (with_reducible refine Both.mk ?_ ?_)
      | (with_reducible refine VS.mk ?_)
      | (refine PSem.go (C := seat) seat_ok ?_)
      | (refine And.intro (PlanOK.mk (by kernel_rfl) rfl (by kernel_rfl) (by kernel_rfl)) ?_)
      | (refine And.intro rfl (Exists.intro _ (And.intro (by first | assumption | rfl) ?_)))
      | (refine And.intro ⟨rfl, rfl, rfl⟩ ?_)
      | (refine BB.mk (fun _h => ?_) (fun _h => ?_) <;> (first | (exact absurd _h (by decide)) | (exfalso; simp only [boolSet, hmb] at _h <;> omega) | (simp only [boolSet, hmb] at _h) | skip))
      | (refine And.intro (by omega) ?_)
      | (refine BB.mk (fun _h => ?_) (fun _h => ?_) <;> (first | (exact absurd _h (by decide)) | (exfalso; simp only [boolSet] at _h <;> omega) | skip)))
    all_goals (try conv => whnf)
    exact ⟨_, _, frz_rowF (els' := (ptL s v).map spC) (by rfl) (by rw [List.length_map, hpl]) (by rw [List.take_of_length_le (by omega)]), rfl, rfl, fun _ => rfl, c, by omega, rfl⟩
end Go.Proofs.YtkmnglgjbmipgaaDoor
