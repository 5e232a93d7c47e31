/- The reference's Message. -/
import Derived.Test.YtkcdomafdjpbjaaT21g
namespace Go.Proofs.Ytkcdomafdjpbjaa
open Go.RowKit

set_option maxRecDepth 100000 in
set_option maxHeartbeats 4000000 in
theorem message_r (m : Ms) (c1 c2 c3 c4 c5 c6 : Nat) (hm : MsOk m) : FnOK Try.prog GG 15 [] [msS m c1 c2 c3 c4 c5 c6] (fun r _ ext => (∃ d1 d2 d3 d4 d5 d6, r = msS m d1 d2 d3 d4 d5 d6) ∧ ext = []) := by
  obtain ⟨h1, h2, h3, h4, h5, h6, h7⟩ := id hm
  have hlm : (m.list.map deC).length = m.list.length := List.length_map _
  have g2 : (m.table.map mbC).length = m.table.length := List.length_map _
  have g3 : (m.vals.map i4C).length = m.vals.length := List.length_map _
  have g4 : (m.data.map u1C).length = m.data.length := List.length_map _
  have g5 : (m.marks.map mkC).length = m.marks.length := List.length_map _
  have g6 : (m.ids.map mkC).length = m.ids.length := List.length_map _
  refine FnOK.pure GG_no rfl (fn_intro (C := seat) seat_ok [(9, (.of [(0, .take), (1, .take), (2, .take), (3, .take), (4, .take), (5, .take), (6, .take), (7, .take), (8, .last), (9, .last), (10, .last)]))] GG_no (Try.func15) rfl rfl rfl rfl rfl ?_)
  repeat' ((try conv => whnf); first
    | (with_reducible refine OKv.go (C := seat) seat_ok ?_)
    | (with_reducible refine BB_true ?_)
    | (with_reducible refine BB_false ?_)
    | (with_reducible refine Both.mk ?_ ?_)
    | (with_reducible refine VS.mk ?_)
    | (refine PSem.go (C := seat) seat_ok ?_)
    | (refine And.intro (PlanOK.mk (by kernel_rfl) rfl (by kernel_rfl) (by kernel_rfl)) ?_)
    | (refine And.intro rfl (Exists.intro _ (And.intro (by first | assumption | rfl) ?_)))
    | (refine And.intro ⟨rfl, rfl, rfl⟩ ?_)
    | (refine fun (caps : Nat → Nat) hcaps => ?_; conv at hcaps => whnf)
    | (refine BB.mk (fun _h => ?_) (fun _h => ?_) <;> (first | (exact absurd _h (by decide)) | (exfalso; simp only [boolSet, hlm] at _h <;> omega) | (exfalso; simp at _h; done) | (simp only [boolSet, hlm] at _h) | skip))
    | (refine And.intro (by omega) ?_)
    | (refine BB.mk (fun _h => ?_) (fun _h => ?_) <;> (first | (exact absurd _h (by decide)) | (exfalso; simp only [boolSet] at _h <;> omega) | skip)))
  all_goals (try conv => whnf)
  refine loop_ruleP (α := Nat × Nat) (fun p => p.1 ≤ m.list.length ∧ p.1 ≤ p.2) (fun p => { slots := [(1, .p (.n 0) 0 0 0), (2, .p (.n 1) 0 0 0), (3, .p (.n 2) 0 0 0), (4, .v (.int .i64 (p.1 : Int)))], nt := 82, mem := ⟨GG, [], [.box 39 [.v (.int .u8 m.kind), .v (.int .u8 m.frm), .v (.int .u16 m.inc), .v (.int .u8 m.to), .z 4 (m.list.map deC) c1, .z 3 (m.table.map mbC) c2, .v (.int .u8 m.ev.a), .v (.int .u16 m.ev.b), .v (.int .u32 m.ev.c), .z 1 (m.vals.map i4C) c3, .z 1 (m.data.map u1C) c4, .v (.int .u8 m.hops), .v (.int .u8 m.org.a), .v (.int .u16 m.org.b), .v (.int .u32 m.org.c), .z 3 (m.marks.map mkC) c5, .z 3 (m.ids.map mkC) c6], .box 39 [.v (.int .u8 0), .v (.int .u8 0), .v (.int .u16 0), .v (.int .u8 0), .v (.slice none 0 0), .v (.slice none 0 0), .v (.int .u8 0), .v (.int .u16 0), .v (.int .u32 0), .v (.slice none 0 0), .v (.slice none 0 0), .v (.int .u8 0), .v (.int .u8 0), .v (.int .u16 0), .v (.int .u32 0), .v (.slice none 0 0), .v (.slice none 0 0)], .box 39 [.v (.int .u8 m.kind), .v (.int .u8 m.frm), .v (.int .u16 m.inc), .v (.int .u8 m.to), .s (.n 3) 4 0 p.1 p.2, .v (.slice none 0 0), .v (.int .u8 m.ev.a), .v (.int .u16 m.ev.b), .v (.int .u32 m.ev.c), .v (.slice none 0 0), .v (.slice none 0 0), .v (.int .u8 m.hops), .v (.int .u8 m.org.a), .v (.int .u16 m.org.b), .v (.int .u32 m.org.c), .v (.slice none 0 0), .v (.slice none 0 0)], .row 55 4 p.2 ((m.list.take p.1).map deC)]⟩ }) (fun p => m.list.length - p.1) (0, 0) ⟨Nat.zero_le _, Nat.zero_le _⟩ ?hs ?_ (fun _ => rfl)
  case hs =>
    refine Pass.trans (pass_box 2 4 rfl rfl (FrzV.weak (weak_nilS (.n 3) 4 0)) rfl rfl) ?_
    exact Ref.pass ⟨⟨[0, 1, 2, 3], by decide, GG_no, rfl, SubOld.refl _ rfl, ⟨rfl, rfl, rfl, .inl (.inl ⟨rfl, rfl⟩), trivial⟩, ⟨.inl rfl, .inl rfl, .inl rfl, .inl rfl, trivial⟩⟩, rfl⟩
  rintro ⟨k, cc⟩ ⟨hk, hcc⟩
  dsimp only at hk hcc ⊢
  refine vc_sound (C := seat) seat_ok (pl := [(9, (.of [(0, .take), (1, .take), (2, .take), (3, .take), (4, .take), (5, .take), (6, .take), (7, .take), (8, .last), (9, .last), (10, .last)]))]) ?_
  by_cases hlt : k < m.list.length
  · obtain ⟨y, hy⟩ : ∃ y, m.list[k]? = some y := ⟨_, List.getElem?_eq_getElem hlt⟩
    have hrow := zd_z hy
    have hfy := h2 y (List.mem_of_getElem? hy)
    have htk : ((m.list.take k).map deC).length = k := by rw [List.length_map, List.length_take]; omega
    have hfm : (y.fl.map spC).length = y.fl.length := List.length_map _
    repeat' ((try conv => whnf); first
      | (with_reducible refine OKv.go (C := seat) seat_ok ?_)
      | (with_reducible refine BB_true ?_)
      | (with_reducible refine BB_false ?_)
      | (with_reducible refine Both.mk ?_ ?_)
      | (with_reducible refine VS.mk ?_)
      | (refine PSem.go (C := seat) seat_ok ?_)
      | (refine And.intro (PlanOK.mk (by kernel_rfl) rfl (by kernel_rfl) (by kernel_rfl)) ?_)
      | (refine And.intro rfl (Exists.intro _ (And.intro (by first | assumption | rfl) ?_)))
      | (refine And.intro ⟨rfl, rfl, rfl⟩ ?_)
      | (refine And.intro ⟨by omega, by simp only [List.length_map]; omega⟩ (Exists.intro _ (And.intro (by first | assumption | rfl) ?_)))
      | (refine And.intro ⟨rfl, rfl, rfl, by first | omega | rfl⟩ ?_)
      | (refine And.intro (And.intro rfl ?_) ?_; first | omega | rfl | (simp only [chunks_len] <;> omega) | simp only [List.nil_append, Nat.zero_add, Nat.le_refl])
      | (refine And.intro (by first | exact ⟨rfl, Nat.le_refl _⟩ | omega | rfl | (dsimp only; omega)) ?_)
      | (refine fun (caps : Nat → Nat) hcaps => ?_; conv at hcaps => whnf)
      | (refine fun (cap' : Nat) hcap' => ?_)
      | (refine BB.mk (fun _h => ?_) (fun _h => ?_) <;> (first | (exact absurd _h (by decide)) | (exfalso; simp only [boolSet, hlm] at _h <;> omega) | (exfalso; simp at _h; done) | (simp only [boolSet, hlm] at _h) | skip))
      | (refine And.intro (by omega) ?_)
      | (refine BB.mk (fun _h => ?_) (fun _h => ?_) <;> (first | (exact absurd _h (by decide)) | (exfalso; simp only [boolSet] at _h <;> omega) | skip)))
    all_goals (try conv => whnf)
    all_goals first
      | (refine ⟨(k + 1, cap'), ⟨by dsimp only; omega, by dsimp only; omega⟩, by dsimp only; omega, Ref.pass ⟨⟨[0, 1, 2, 7], by decide, GG_no, rfl, SubOld.refl _ rfl, ⟨rfl, rfl, rfl, .inr (.inl ?_), trivial⟩, ⟨.inl rfl, .inl rfl, .inl rfl, .inl (num_eq (by rw [IntKind.wrap_i64]; dsimp only; omega)), trivial⟩⟩, rfl⟩⟩
         dsimp only
         rw [map_take_in hy]
         simp only [List.nil_append, Nat.zero_add, List.drop_zero, List.take_length]
         rfl)
      | trace_state
  · have hs : m.list.take k = m.list := List.take_of_length_le (by omega)
    obtain rfl : k = m.list.length := by omega
    rw [hs]
    repeat' ((try conv => whnf); first
      | (with_reducible refine OKv.go (C := seat) seat_ok ?_)
      | (with_reducible refine BB_true ?_)
      | (with_reducible refine BB_false ?_)
      | (with_reducible refine Both.mk ?_ ?_)
      | (with_reducible refine VS.mk ?_)
      | (refine PSem.go (C := seat) seat_ok ?_)
      | (refine And.intro (PlanOK.mk (by kernel_rfl) rfl (by kernel_rfl) (by kernel_rfl)) ?_)
      | (refine And.intro rfl (Exists.intro _ (And.intro (by first | assumption | rfl) ?_)))
      | (refine And.intro ⟨rfl, rfl, rfl⟩ ?_)
      | (refine And.intro ⟨rfl, rfl, rfl, by first | omega | rfl⟩ ?_)
      | (refine And.intro (And.intro rfl ?_) ?_; first | omega | rfl | (simp only [chunks_len] <;> omega) | simp only [List.nil_append, Nat.zero_add, Nat.le_refl])
      | (refine And.intro (by first | exact ⟨rfl, Nat.le_refl _⟩ | omega | rfl | (dsimp only; omega)) ?_)
      | (refine fun (caps : Nat → Nat) hcaps => ?_; conv at hcaps => whnf)
      | (refine fun (cap' : Nat) hcap' => ?_)
      | (refine BB.mk (fun _h => ?_) (fun _h => ?_) <;> (first | (exact absurd _h (by decide)) | (exfalso; simp only [boolSet, hlm] at _h <;> omega) | (exfalso; simp at _h; done) | (simp only [boolSet, hlm] at _h) | skip))
      | (refine And.intro (by omega) ?_)
      | (refine BB.mk (fun _h => ?_) (fun _h => ?_) <;> (first | (exact absurd _h (by decide)) | (exfalso; simp only [boolSet] at _h <;> omega) | skip)))
    all_goals (try conv => whnf)
    all_goals first
      | exact ⟨_, _, (FrzV.trans (frz_aggT 4 (by rfl) (frz_rowF (els' := m.list.map deC) (by rfl) (by simp) (by simp)) (by rfl)) (FrzV.trans (frz_aggT 5 (by rfl) (frz_rowF (els' := m.table.map mbC) (by rfl) (by simp) (by simp)) (by rfl)) (FrzV.trans (frz_aggT 9 (by rfl) (frz_rowF (els' := m.vals.map i4C) (by rfl) (by simp) (by simp)) (by rfl)) (FrzV.trans (frz_aggT 10 (by rfl) (frz_rowF (els' := m.data.map u1C) (by rfl) (by simp) (by simp)) (by rfl)) (FrzV.trans (frz_aggT 15 (by rfl) (frz_rowF (els' := m.marks.map mkC) (by rfl) (by simp) (by simp)) (by rfl)) (frz_aggT 16 (by rfl) (frz_rowF (els' := m.ids.map mkC) (by rfl) (by simp) (by simp)) (by rfl))))))), rfl, rfl, fun _ => rfl, _, _, _, _, _, _, rfl⟩
      | trace_state
end Go.Proofs.Ytkcdomafdjpbjaa
