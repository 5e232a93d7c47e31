/- Few. -/
import Derived.Test.YtkcdomafdjpbjaaT21f
namespace Go.Proofs.Ytkcdomafdjpbjaa
open Go.RowKit

set_option maxRecDepth 100000 in
set_option maxHeartbeats 4000000 in
theorem few15_z (t : Tr) (v b : List Int) (c : Nat) (hv : v.length ≤ 9223372036854775807) (hb : b.length ≤ 9223372036854775807) : FnOK Try.prog GG 17 [] [.z 5 [[.v (.int .u8 t.a), .v (.int .u16 t.b), .v (.int .u32 t.c), .z 1 (v.map i4C), .z 1 (b.map u1C)]] c, .v (.int .i64 1)] (fun r _ ext => (∃ q : Bool, r = .v (.bool q) ∧ (q = true → v.length ≤ 8 ∧ b.length ≤ 70)) ∧ ext = []) := by
  have hvm : (v.map i4C).length = v.length := List.length_map _
  have hbm : (b.map u1C).length = b.length := List.length_map _
  refine FnOK.pure GG_no rfl (fn_intro (C := seat) seat_ok [] GG_no (Try.func17) rfl rfl rfl rfl rfl ?_)
  repeat' ((try conv => whnf); first
    | (with_reducible refine OKv.go (C := seat) seat_ok ?_)
    | (with_reducible refine BB_true ?_)
    | (with_reducible refine BB_false ?_)
    | (with_reducible refine Both.mk ?_ ?_)
    | (with_reducible refine VS.mk ?_)
    | (refine PSem.go (C := seat) seat_ok ?_)
    | (refine And.intro (PlanOK.mk (by kernel_rfl) rfl (by kernel_rfl) (by kernel_rfl)) ?_)
    | (refine And.intro rfl (Exists.intro _ (And.intro (by first | assumption | rfl) ?_)))
    | (refine And.intro ⟨rfl, rfl, rfl⟩ ?_)
    | (refine BB.mk (fun _h => ?_) (fun _h => ?_) <;> (first | (exact absurd _h (by decide)) | (exfalso; simp only [boolSet, hvm, hbm] at _h <;> omega) | (exfalso; simp at _h; done) | (simp only [boolSet, hvm, hbm] at _h) | skip))
    | (refine And.intro (by omega) ?_)
    | (refine BB.mk (fun _h => ?_) (fun _h => ?_) <;> (first | (exact absurd _h (by decide)) | (exfalso; simp only [boolSet] at _h <;> omega) | skip)))
  all_goals (try conv => whnf)
  refine loop_rule (α := Nat) (fun k => k ≤ 1 ∧ (k = 1 → v.length ≤ 8 ∧ b.length ≤ 70)) (fun k => { slots := [(0, .z 5 [[.v (.int .u8 t.a), .v (.int .u16 t.b), .v (.int .u32 t.c), .z 1 (v.map i4C), .z 1 (b.map u1C)]] c), (1, .v (.int .i64 1)), (7, .z 5 [[.v (.int .u8 t.a), .v (.int .u16 t.b), .v (.int .u32 t.c), .z 1 (v.map i4C), .z 1 (b.map u1C)]] c), (8, .v (.int .i64 (([[.v (.int .u8 t.a), .v (.int .u16 t.b), .v (.int .u32 t.c), .z 1 (v.map i4C), .z 1 (b.map u1C)]] : List (List CV)).length : Nat))), (9, .v (.int .i64 (k : Int)))], nt := 28, mem := ⟨GG, [], []⟩ }) (fun k => 1 - k) 0 ⟨Nat.zero_le _, fun h => by cases h⟩ ⟨⟨[], List.nodup_nil, GG_no, rfl, (SubOld.refl _ rfl), trivial, ⟨.inl rfl, .inl rfl, .inl rfl, .inl rfl, .inl rfl, trivial⟩⟩, rfl⟩ ?_ (fun _ => rfl)
  rintro k ⟨hk, hk1⟩
  rcases (show k = 0 ∨ k = 1 by omega) with rfl | rfl
  · refine vc_sound (C := seat) seat_ok (pl := []) ?_
    repeat' ((try conv => whnf); first
      | (with_reducible refine OKv.go (C := seat) seat_ok ?_)
      | (with_reducible refine BB_true ?_)
      | (with_reducible refine BB_false ?_)
      | (with_reducible refine Both.mk ?_ ?_)
      | (with_reducible refine VS.mk ?_)
      | (refine PSem.go (C := seat) seat_ok ?_)
      | (refine And.intro (PlanOK.mk (by kernel_rfl) rfl (by kernel_rfl) (by kernel_rfl)) ?_)
      | (refine And.intro rfl (Exists.intro _ (And.intro (by first | assumption | rfl) ?_)))
      | (refine And.intro ⟨rfl, rfl, rfl⟩ ?_)
      | (refine And.intro ⟨by omega, by simp⟩ (Exists.intro _ (And.intro (by rfl) ?_)))
      | (refine fun (caps : Nat → Nat) hcaps => ?_; conv at hcaps => whnf)
      | (refine fun (cap' : Nat) hcap' => ?_)
      | (refine BB.mk (fun _h => ?_) (fun _h => ?_) <;> (first | (exact absurd _h (by decide)) | (exfalso; simp only [boolSet, hvm, hbm] at _h <;> omega) | (exfalso; simp at _h; done) | (simp only [boolSet, hvm, hbm] at _h) | skip))
      | (refine And.intro (by omega) ?_)
      | (refine BB.mk (fun _h => ?_) (fun _h => ?_) <;> (first | (exact absurd _h (by decide)) | (exfalso; simp only [boolSet] at _h <;> omega) | skip)))
    all_goals (try conv => whnf)
    all_goals first
      | exact ⟨1, ⟨Nat.le_refl _, fun _ => ⟨by omega, by omega⟩⟩, by omega, ⟨⟨[], by decide, GG_no, rfl, SubOld.refl _ rfl, trivial, ⟨.inl rfl, .inl rfl, .inl rfl, .inl rfl, .inl (num_eq (by decide)), trivial⟩⟩, rfl⟩⟩
      | exact ⟨_, _, FrzV.refl _ _, rfl, rfl, fun _ => rfl, false, rfl, fun h => by cases h⟩
      | trace_state
  · have hk1 := hk1 rfl
    refine vc_sound (C := seat) seat_ok (pl := []) ?_
    repeat' ((try conv => whnf); first
      | (with_reducible refine OKv.go (C := seat) seat_ok ?_)
      | (with_reducible refine BB_true ?_)
      | (with_reducible refine BB_false ?_)
      | (with_reducible refine Both.mk ?_ ?_)
      | (with_reducible refine VS.mk ?_)
      | (refine PSem.go (C := seat) seat_ok ?_)
      | (refine And.intro (PlanOK.mk (by kernel_rfl) rfl (by kernel_rfl) (by kernel_rfl)) ?_)
      | (refine And.intro rfl (Exists.intro _ (And.intro (by first | assumption | rfl) ?_)))
      | (refine And.intro ⟨rfl, rfl, rfl⟩ ?_)
      | (refine BB.mk (fun _h => ?_) (fun _h => ?_) <;> (first | (exact absurd _h (by decide)) | (exfalso; simp only [boolSet, hvm, hbm] at _h <;> omega) | (exfalso; simp at _h; done) | (simp only [boolSet, hvm, hbm] at _h) | skip))
      | (refine And.intro (by omega) ?_)
      | (refine BB.mk (fun _h => ?_) (fun _h => ?_) <;> (first | (exact absurd _h (by decide)) | (exfalso; simp only [boolSet] at _h <;> omega) | skip)))
    all_goals (try conv => whnf)
    all_goals first
      | exact ⟨_, _, FrzV.refl _ _, rfl, rfl, fun _ => rfl, _, rfl, fun _ => hk1⟩
      | trace_state
structure MsIn (m : Ms) : Prop where
  list : m.list.length ≤ 9223372036854775807
  fl : ∀ d ∈ m.list, d.fl.length ≤ 9223372036854775807
  table : m.table.length ≤ 9223372036854775807
  vals : m.vals.length ≤ 9223372036854775807
  data : m.data.length ≤ 9223372036854775807
  marks : m.marks.length ≤ 9223372036854775807
  ids : m.ids.length ≤ 9223372036854775807
theorem all_next {α : Type} {p : α → Prop} {l : List α} {k : Nat} {y : α} (h : ∀ z ∈ l.take k, p z) (hy : l[k]? = some y) (hn : p y) : ∀ z ∈ l.take (k + 1), p z := fun z hz => by
  rw [List.take_add_one, hy] at hz
  rcases List.mem_append.1 hz with hz | hz
  · exact h z hz
  · simp at hz
    subst hz
    exact hn
set_option maxRecDepth 100000 in
set_option maxHeartbeats 4000000 in
theorem few_z (l : List Ms) (c : Nat) (most : Int) (hl : l.length ≤ 9223372036854775807) (hin : ∀ y ∈ l, MsIn y) : FnOK Try.prog GG 7 [] [.z 17 (l.map msC) c, .v (.int .i64 most)] (fun r _ ext => (∃ q : Bool, r = .v (.bool q) ∧ (q = true → (∀ y ∈ l, MsOk y) ∧ (l.length : Int) ≤ most)) ∧ ext = []) := by
  have hlm : (l.map msC).length = l.length := List.length_map _
  refine FnOK.pure GG_no rfl (fn_intro (C := seat) seat_ok [] GG_no (Try.func7) rfl rfl rfl rfl rfl ?_)
  repeat' ((try conv => whnf); first
    | (with_reducible refine OKv.go (C := seat) seat_ok ?_)
    | (with_reducible refine BB_true ?_)
    | (with_reducible refine BB_false ?_)
    | (with_reducible refine Both.mk ?_ ?_)
    | (with_reducible refine VS.mk ?_)
    | (refine PSem.go (C := seat) seat_ok ?_)
    | (refine And.intro (PlanOK.mk (by kernel_rfl) rfl (by kernel_rfl) (by kernel_rfl)) ?_)
    | (refine And.intro rfl (Exists.intro _ (And.intro (by first | assumption | rfl) ?_)))
    | (refine And.intro ⟨rfl, rfl, rfl⟩ ?_)
    | (refine BB.mk (fun _h => ?_) (fun _h => ?_) <;> (first | (exact absurd _h (by decide)) | (exfalso; simp only [boolSet, hlm] at _h <;> omega) | (exfalso; simp at _h; done) | (simp only [boolSet, hlm] at _h) | skip))
    | (refine And.intro (by omega) ?_)
    | (refine BB.mk (fun _h => ?_) (fun _h => ?_) <;> (first | (exact absurd _h (by decide)) | (exfalso; simp only [boolSet] at _h <;> omega) | skip)))
  all_goals (try conv => whnf)
  refine loop_rule (α := Nat) (fun k => k ≤ l.length ∧ ∀ y ∈ l.take k, MsOk y) (fun k => { slots := [(0, .z 17 (l.map msC) c), (1, .v (.int .i64 most)), (9, .z 17 (l.map msC) c), (10, .v (.int .i64 (l.map msC).length)), (11, .v (.int .i64 (k : Int)))], nt := 61, mem := ⟨GG, [], []⟩ }) (fun k => l.length - k) 0 ⟨Nat.zero_le _, fun y hy => absurd hy List.not_mem_nil⟩ ⟨⟨[], List.nodup_nil, GG_no, rfl, (SubOld.refl _ rfl), trivial, ⟨.inl rfl, .inl rfl, .inl rfl, .inl rfl, .inl rfl, trivial⟩⟩, rfl⟩ ?_ (fun _ => rfl)
  rintro k ⟨hk, hall⟩
  refine vc_sound (C := seat) seat_ok (pl := []) ?_
  by_cases hlt : k < l.length
  · obtain ⟨y, hy⟩ : ∃ y, l[k]? = some y := ⟨_, List.getElem?_eq_getElem hlt⟩
    have hrow := ms_z hy
    obtain ⟨i1, i2, i3, i4, i5, i6, i7⟩ := hin y (List.mem_of_getElem? hy)
    have g1 : (y.list.map deC).length = y.list.length := List.length_map _
    have g2 : (y.table.map mbC).length = y.table.length := List.length_map _
    have g3 : (y.marks.map mkC).length = y.marks.length := List.length_map _
    have g4 : (y.ids.map mkC).length = y.ids.length := List.length_map _
    repeat' ((try conv => whnf); first
      | (with_reducible refine OKv.go (C := seat) seat_ok ?_)
      | (with_reducible refine BB_true ?_)
      | (with_reducible refine BB_false ?_)
      | (with_reducible refine Both.mk ?_ ?_)
      | (with_reducible refine VS.mk ?_)
      | (refine PSem.go (C := seat) seat_ok ?_)
      | (refine And.intro (PlanOK.mk (by kernel_rfl) rfl (by kernel_rfl) (by kernel_rfl)) ?_)
      | (refine And.intro rfl (Exists.intro _ (And.intro (by first | assumption | rfl) ?_)))
      | (refine And.intro ⟨rfl, rfl, rfl⟩ ?_)
      | (refine call_frz 0 rfl (frz_row (by rfl) (by rfl)) ?_; refine call_ro [] (few15_z y.ev y.vals y.data _ i4 i5) GG_no rfl rfl rfl trivial ?_; rintro r bs' ext ⟨⟨q15, rfl, h15⟩, rfl⟩; cases q15 <;> (try have h15 := h15 rfl))
      | (refine And.intro ⟨by omega, by simp only [List.length_map]; omega⟩ (Exists.intro _ (And.intro (by first | assumption | rfl) ?_)))
      | (refine fun (caps : Nat → Nat) hcaps => ?_; conv at hcaps => whnf)
      | (refine fun (cap' : Nat) hcap' => ?_)
      | (refine BB.mk (fun _h => ?_) (fun _h => ?_) <;> (first | (exact absurd _h (by decide)) | (exfalso; simp only [boolSet, hlm, g1, g2, g3, g4] at _h <;> omega) | (exfalso; simp at _h; done) | (simp only [boolSet, hlm, g1, g2, g3, g4] at _h) | skip))
      | (refine And.intro (by omega) ?_)
      | (refine BB.mk (fun _h => ?_) (fun _h => ?_) <;> (first | (exact absurd _h (by decide)) | (exfalso; simp only [boolSet] at _h <;> omega) | skip)))
    all_goals (try conv => whnf)
    all_goals first
      | exact ⟨_, _, FrzV.refl _ _, rfl, rfl, fun _ => rfl, false, rfl, fun h => by cases h⟩
      | skip
    refine loop_rule (α := Nat) (fun j => j ≤ y.list.length ∧ ∀ d ∈ y.list.take j, d.fl.length ≤ 8) (fun j => { slots := [(0, .z 17 (l.map msC) c), (1, .v (.int .i64 most)), (9, .z 17 (l.map msC) c), (10, .v (.int .i64 (l.map msC).length)), (11, .v (.int .i64 (k : Int))), (45, .z 4 (y.list.map deC) (caps 4)), (46, .v (.int .i64 (y.list.map deC).length)), (47, .v (.int .i64 (j : Int)))], nt := 61, mem := ⟨GG, [], []⟩ }) (fun j => y.list.length - j) 0 ⟨Nat.zero_le _, fun y hy => absurd hy List.not_mem_nil⟩ ⟨⟨[], List.nodup_nil, GG_no, rfl, (SubOld.refl _ rfl), trivial, ⟨.inl rfl, .inl rfl, .inl rfl, .inl rfl, .inl rfl, .inl rfl, .inl rfl, .inl rfl, trivial⟩⟩, rfl⟩ ?_ (fun _ => rfl)
    rintro j ⟨hj, hfl⟩
    refine vc_sound (C := seat) seat_ok (pl := []) ?_
    by_cases hlj : j < y.list.length
    · obtain ⟨z, hz⟩ : ∃ z, y.list[j]? = some z := ⟨_, List.getElem?_eq_getElem hlj⟩
      have hrow2 := zd_z hz
      have hzf := i2 z (List.mem_of_getElem? hz)
      have hzm : (z.fl.map spC).length = z.fl.length := List.length_map _
      repeat' ((try conv => whnf); first
        | (with_reducible refine OKv.go (C := seat) seat_ok ?_)
        | (with_reducible refine BB_true ?_)
        | (with_reducible refine BB_false ?_)
        | (with_reducible refine Both.mk ?_ ?_)
        | (with_reducible refine VS.mk ?_)
        | (refine PSem.go (C := seat) seat_ok ?_)
        | (refine And.intro (PlanOK.mk (by kernel_rfl) rfl (by kernel_rfl) (by kernel_rfl)) ?_)
        | (refine And.intro rfl (Exists.intro _ (And.intro (by first | assumption | rfl) ?_)))
        | (refine And.intro ⟨rfl, rfl, rfl⟩ ?_)
        | (refine And.intro ⟨by omega, by simp only [List.length_map]; omega⟩ (Exists.intro _ (And.intro (by first | assumption | rfl) ?_)))
        | (refine fun (caps : Nat → Nat) hcaps => ?_; conv at hcaps => whnf)
        | (refine fun (cap' : Nat) hcap' => ?_)
        | (refine BB.mk (fun _h => ?_) (fun _h => ?_) <;> (first | (exact absurd _h (by decide)) | (exfalso; simp only [boolSet, hzm] at _h <;> omega) | (exfalso; simp at _h; done) | (simp only [boolSet, hzm] at _h) | skip))
        | (refine And.intro (by omega) ?_)
        | (refine BB.mk (fun _h => ?_) (fun _h => ?_) <;> (first | (exact absurd _h (by decide)) | (exfalso; simp only [boolSet] at _h <;> omega) | skip)))
      all_goals (try conv => whnf)
      all_goals first
        | exact ⟨j + 1, ⟨by omega, all_next hfl hz (by omega)⟩, by omega, ⟨⟨[], by decide, GG_no, rfl, SubOld.refl _ rfl, trivial, ⟨.inl rfl, .inl rfl, .inl rfl, .inl rfl, .inl rfl, .inl rfl, .inl rfl, .inl (num_eq (by rw [IntKind.wrap_i64]; omega)), trivial⟩⟩, rfl⟩⟩
        | exact ⟨_, _, FrzV.refl _ _, rfl, rfl, fun _ => rfl, false, rfl, fun h => by cases h⟩
        | trace_state
    · obtain rfl : j = y.list.length := by omega
      rw [List.take_length] at hfl
      have hok : MsOk y := ⟨by omega, hfl, by omega, h15.1, h15.2, by omega, by omega⟩
      repeat' ((try conv => whnf); first
        | (with_reducible refine OKv.go (C := seat) seat_ok ?_)
        | (with_reducible refine BB_true ?_)
        | (with_reducible refine BB_false ?_)
        | (with_reducible refine Both.mk ?_ ?_)
        | (with_reducible refine VS.mk ?_)
        | (refine PSem.go (C := seat) seat_ok ?_)
        | (refine And.intro (PlanOK.mk (by kernel_rfl) rfl (by kernel_rfl) (by kernel_rfl)) ?_)
        | (refine And.intro rfl (Exists.intro _ (And.intro (by first | assumption | rfl) ?_)))
        | (refine And.intro ⟨rfl, rfl, rfl⟩ ?_)
        | (refine BB.mk (fun _h => ?_) (fun _h => ?_) <;> (first | (exact absurd _h (by decide)) | (exfalso; simp only [boolSet, hlm] at _h <;> omega) | (exfalso; simp at _h; done) | (simp only [boolSet, hlm] at _h) | skip))
        | (refine And.intro (by omega) ?_)
        | (refine BB.mk (fun _h => ?_) (fun _h => ?_) <;> (first | (exact absurd _h (by decide)) | (exfalso; simp only [boolSet] at _h <;> omega) | skip)))
      all_goals (try conv => whnf)
      all_goals first
        | exact ⟨k + 1, ⟨by omega, all_next hall hy hok⟩, by omega, ⟨⟨[], by decide, GG_no, rfl, SubOld.refl _ rfl, trivial, ⟨.inl rfl, .inl rfl, .inl rfl, .inl rfl, .inl (num_eq (by rw [IntKind.wrap_i64]; omega)), trivial⟩⟩, rfl⟩⟩
        | trace_state
  · obtain rfl : k = l.length := by omega
    rw [List.take_length] at hall
    repeat' ((try conv => whnf); first
      | (with_reducible refine OKv.go (C := seat) seat_ok ?_)
      | (with_reducible refine BB_true ?_)
      | (with_reducible refine BB_false ?_)
      | (with_reducible refine Both.mk ?_ ?_)
      | (with_reducible refine VS.mk ?_)
      | (refine PSem.go (C := seat) seat_ok ?_)
      | (refine And.intro (PlanOK.mk (by kernel_rfl) rfl (by kernel_rfl) (by kernel_rfl)) ?_)
      | (refine And.intro rfl (Exists.intro _ (And.intro (by first | assumption | rfl) ?_)))
      | (refine And.intro ⟨rfl, rfl, rfl⟩ ?_)
      | (refine BB.mk (fun _h => ?_) (fun _h => ?_) <;> (first | (exact absurd _h (by decide)) | (exfalso; simp only [boolSet, hlm] at _h <;> omega) | (exfalso; simp at _h; done) | (simp only [boolSet, hlm] at _h) | skip))
      | (refine And.intro (by omega) ?_)
      | (refine BB.mk (fun _h => ?_) (fun _h => ?_) <;> (first | (exact absurd _h (by decide)) | (exfalso; simp only [boolSet] at _h <;> omega) | skip)))
    all_goals (try conv => whnf)
    all_goals first
      | exact ⟨_, _, FrzV.refl _ _, rfl, rfl, fun _ => rfl, _, rfl, fun h => ⟨hall, by simpa using h⟩⟩
      | trace_state
end Go.Proofs.Ytkcdomafdjpbjaa
