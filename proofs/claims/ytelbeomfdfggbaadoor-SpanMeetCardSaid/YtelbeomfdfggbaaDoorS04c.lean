/- The statements SpanLen and SpanMeet: by computing. -/
import Derived.Test.YtelbeomfdfggbaaDoorS04b
import Derived.Test.YtelbeomfdfggbaaDoorOpen04
namespace Go.Proofs.YtelbeomfdfggbaaDoor
open Go.RowKit

theorem gl_of_mem {ρ : Plc} {w : World} (h : MemOK ρ ⟨GG, [], []⟩ w) : Gl w := by
  have hb := h.blk (.g 0) _ rfl
  rw [h.glob] at hb
  obtain ⟨h1, h2⟩ := hb
  have := (h2 0 _ rfl).2
  exact ⟨by simpa using this 0 _ rfl, by simpa using this 1 _ rfl, h1 (by simp)⟩
theorem mem_of_gl {w : World} (h : Gl w) : MemOK ⟨fun | .g x => (x, 0) | _ => (0, 0), 0⟩ ⟨GG, [], []⟩ w := by
  refine ⟨fun a b hb => ?_, fun a b A B hA hB hO => ?_, fun x => rfl, rfl⟩
  · cases a with
    | o k => simp [Mem.look] at hb
    | n k => simp [Mem.look] at hb
    | g x =>
      have := assoc_mem (show assoc GG x = some b from hb)
      simp [GG] at this
      obtain ⟨rfl, rfl⟩ := this
      refine ⟨fun _ => h.lt, fun e c hc => ?_⟩
      cases e with
      | succ e => simp at hc
      | zero =>
        simp at hc
        subst hc
        refine ⟨⟨rfl, by simp [Value.oneCell']⟩, fun j u hu => ?_⟩
        match j with
        | 0 => simp at hu; subst hu; simpa using h.c0
        | 1 => simp at hu; subst hu; simpa using h.c1
        | j + 2 => simp at hu
  · cases a with
    | o k => simp [Mem.look] at hA
    | n k => simp [Mem.look] at hA
    | g x => exact (GG_no x A hA hO).elim
theorem awake_ok : FnOK Tryd.prog GG 18 [] [] (fun r _ ext => r = .v (.bool true) ∧ ext = []) := by
  refine ⟨⟨_, Tryd.func18, rfl, rfl⟩, fun ρ w us hm hr => ?_⟩
  unfold RelL at hr
  subst hr
  refine (awake_yes w (gl_of_mem hm)).mono ?_
  rintro e w' ⟨rfl, hb⟩
  refine ⟨ρ, _, [], [], _, rfl, ⟨⟨fun a b ha => ?_, fun a b A B hA hB hO => ?_, hm.glob, hm.nx⟩, fun a A hA hO => ?_, fun i B hi => by simp at hi, fun _ => rfl, rfl, rfl, hb.os, hb.tape, hb.output, hb.size, fun n hn _ => hb.block n hn⟩, rel_v _, rfl, rfl⟩
  · exact (hm.blk a b ha).same hb.size (fun hl => hb.block _ ((hm.blk a b ha).lt hl))
  · cases a with
    | o k => simp [Mem.look] at hA
    | n k => simp [Mem.look] at hA
    | g x => exact (GG_no x A hA hO).elim
  · cases a with
    | o k => simp [Mem.look] at hA
    | n k => simp [Mem.look] at hA
    | g x => exact (GG_no x A hA hO).elim
set_option maxRecDepth 100000 in
set_option maxHeartbeats 4000000 in
theorem shared_ok (a b c d v : Int) : FnOK Tryd.prog GG 19 [.ro 2 [[.int .i32 a, .int .i32 b]], .ro 2 [[.int .i32 c, .int .i32 d]]] [.v (.int .i32 v), .p (.o 0) 0 0 0, .p (.o 1) 0 0 0] (fun r _ ext => r = .v (.bool (hasT a b v && hasT c d v)) ∧ ext = []) := by
  refine fn_val (C := seat) seat_ok [] GG_no (Tryd.func19) rfl rfl rfl rfl rfl (fun _ => rfl) rfl ?_
  repeat' ((try conv => whnf); first
    | (with_reducible refine BB_true ?_)
    | (with_reducible refine BB_false ?_)
    | (refine And.intro (PlanOK.mk (by kernel_rfl) rfl (by kernel_rfl) (by kernel_rfl)) ?_)
    | (refine And.intro rfl (Exists.intro _ (And.intro (by first | assumption | rfl) ?_)))
    | (refine call_ro [] (has_ok _ _ _) GG_no rfl rfl rfl trivial ?_; rintro r bs' ext ⟨rfl, rfl⟩)
    | (refine And.intro (by omega) ?_)
    | (refine BB.mk (fun _h => ?_) (fun _h => ?_) <;> (first | (exact absurd _h (by decide)) | (exfalso; simp only [eqInts, Bool.and_true, Bool.and_eq_true, Bool.and_eq_false_iff, Bool.or_eq_true, Bool.or_eq_false_iff, Bool.not_eq_eq_eq_not, Bool.not_true, Bool.not_false, beq_iff_eq, bne_iff_ne, ne_eq, beq_eq_false_iff_ne, bne_eq_false_iff_eq, decide_eq_true_eq, decide_eq_false_iff_not, gt_iff_lt, ge_iff_le, Int.not_lt, Int.not_le] at _h; omega) | skip)))
  all_goals (try conv => whnf)
  all_goals (try (refine Fin.mk ?_))
  all_goals (first
    | exact ⟨rfl, rfl⟩
    | (refine And.intro (congrArg SV.v (congrArg Value.bool ?_)) rfl; first | (simp_all [eqInts]; done) | (simp_all [eqInts]; omega))
    | (refine And.intro (congrArg SV.v (congrArg (Value.int _) ?_)) rfl; first | (simp_all [eqInts, IntKind.wrap_i32, IntKind.wrap_i64, IntKind.wrap_u8, IntKind.wrap_u16, IntKind.wrap_u32, IntKind.wrap_u64]; done) | (simp_all [eqInts, IntKind.wrap_i32, IntKind.wrap_i64, IntKind.wrap_u8, IntKind.wrap_u16, IntKind.wrap_u32, IntKind.wrap_u64]; omega))
    | (exfalso; simp_all [eqInts]; omega))
set_option maxRecDepth 100000 in
set_option maxHeartbeats 4000000 in
theorem spanLen_ok (a b v : Int) (a1 : -2147483648 ≤ a) (a2 : a ≤ 2147483647) (b1 : -2147483648 ≤ b) (b2 : b ≤ 2147483647) (v1 : -2147483648 ≤ v) (v2 : v ≤ 2147483647) : FnOK Tryd.prog GG 7 [] [spS a b, .v (.int .i32 v)] (fun r _ ext => r = .v (.bool true) ∧ ext = []) := by
  refine fn_val (C := seat) seat_ok [(8, [(0, .take), (1, .take), (2, .take), (6, .take), (7, .take), (8, .take), (9, .take), (3, .do_), (4, .do_), (5, .take), (10, .do_), (11, .do_), (12, .take), (13, .take), (14, .take)])] GG_no (Tryd.func7) rfl rfl rfl rfl rfl (fun _ => rfl) rfl ?_
  repeat' ((try conv => whnf); first
    | (with_reducible refine BB_true ?_)
    | (with_reducible refine BB_false ?_)
    | (refine And.intro (PlanOK.mk (by kernel_rfl) rfl (by kernel_rfl) (by kernel_rfl)) ?_)
    | (refine And.intro rfl (Exists.intro _ (And.intro (by first | assumption | rfl) ?_)))
    | (refine call_ro [] (len_ok _ _ (by first | assumption | (simp only [IntKind.wrap_i32, IntKind.wrap_i64, IntKind.wrap_u8, IntKind.wrap_u16, IntKind.wrap_u32, IntKind.wrap_u64]; omega)) (by first | assumption | (simp only [IntKind.wrap_i32, IntKind.wrap_i64, IntKind.wrap_u8, IntKind.wrap_u16, IntKind.wrap_u32, IntKind.wrap_u64]; omega)) (by first | assumption | (simp only [IntKind.wrap_i32, IntKind.wrap_i64, IntKind.wrap_u8, IntKind.wrap_u16, IntKind.wrap_u32, IntKind.wrap_u64]; omega)) (by first | assumption | (simp only [IntKind.wrap_i32, IntKind.wrap_i64, IntKind.wrap_u8, IntKind.wrap_u16, IntKind.wrap_u32, IntKind.wrap_u64]; omega))) GG_no rfl rfl rfl trivial ?_; rintro r bs' ext ⟨rfl, rfl⟩)
    | (refine call_ro [] (sp_ok _ _) GG_no rfl rfl rfl trivial ?_; rintro r bs' ext ⟨rfl, rfl⟩)
    | (refine call_ro [] (has_ok _ _ _) GG_no rfl rfl rfl trivial ?_; rintro r bs' ext ⟨rfl, rfl⟩)
    | (refine call_ro [] (awake_ok) GG_no rfl rfl rfl trivial ?_; rintro r bs' ext ⟨rfl, rfl⟩)
    | (refine And.intro (by omega) ?_)
    | (refine BB.mk (fun _h => ?_) (fun _h => ?_) <;> (first | (exact absurd _h (by decide)) | (exfalso; simp only [eqInts, Bool.and_true, Bool.and_eq_true, Bool.and_eq_false_iff, Bool.or_eq_true, Bool.or_eq_false_iff, Bool.not_eq_eq_eq_not, Bool.not_true, Bool.not_false, beq_iff_eq, bne_iff_ne, ne_eq, beq_eq_false_iff_ne, bne_eq_false_iff_eq, decide_eq_true_eq, decide_eq_false_iff_not, gt_iff_lt, ge_iff_le, Int.not_lt, Int.not_le] at _h; omega) | skip)))
  all_goals (try conv => whnf)
  all_goals (try (refine Fin.mk ?_))
  all_goals (first
  | exact ⟨rfl, rfl⟩
  | (exfalso
     simp only [lenT, hasT, IntKind.wrap_i32, IntKind.wrap_i64, IntKind.wrap_u8, IntKind.wrap_u16, IntKind.wrap_u32, IntKind.wrap_u64, eqInts, Bool.and_true, Bool.and_eq_true, Bool.and_eq_false_iff, Bool.or_eq_true, Bool.or_eq_false_iff, Bool.not_eq_eq_eq_not, Bool.not_true, Bool.not_false, beq_iff_eq, bne_iff_ne, ne_eq, beq_eq_false_iff_ne, bne_eq_false_iff_eq, decide_eq_true_eq, decide_eq_false_iff_not, gt_iff_lt, ge_iff_le, Int.not_lt, Int.not_le, Decidable.not_not, cond_true, cond_false] at *
     omega))
end Go.Proofs.YtelbeomfdfggbaaDoor
