/- Law OutboxNone. -/
import Derived.Test.YtkcdomafdjpbjaaT21h
namespace Go.Proofs.Ytkcdomafdjpbjaa
open Go.RowKit

def nowC (R L : Int) (c : Nat) : Nat → List SV
  | 0 => [.v (.int .i64 R), .v (.slice none 0 0), .v (.int .i64 L)]
  | k + 1 => [.v (.int .i64 R), .z 17 (([] : List Ms).map msC) c, .v (.int .i64 (L + ((k + 1 : Nat) : Int)))]
theorem put_nk (room lost lost' : Int) (l : List Ms) (c : Nat) (m : Ms) (c1 c2 c3 c4 c5 c6 : Nat) (hl : l.length ≤ 1000) (hm : ∀ y ∈ l, MsOk y) (h : room ≤ l.length) (hw : IntKind.i64.wrap (lost + 1) = lost') : FnOK Try.prog GG 12 [] [.agg [.v (.int .i64 room), .z 17 (l.map msC) c, .v (.int .i64 lost)], msS m c1 c2 c3 c4 c5 c6] (fun r _ ext => (∃ c', r = .agg [.v (.int .i64 room), .z 17 (l.map msC) c', .v (.int .i64 lost')]) ∧ ext = []) := hw ▸ put_no room lost l c m c1 c2 c3 c4 c5 c6 hl hm h
set_option maxRecDepth 100000 in
set_option maxHeartbeats 4000000 in
theorem none_ok (room lost many : Int) (m : Ms) (c1 c2 c3 c4 c5 c6 : Nat) (hlo : 0 ≤ lost ∧ lost ≤ 65535) (hma : 0 ≤ many ∧ many ≤ 255) (hin : MsIn m) : FnOK Try.prog GG 5 [] [.v (.int .i64 room), .v (.int .u16 lost), msS m c1 c2 c3 c4 c5 c6, .v (.int .u8 many)] (fun r _ ext => (r = .v (.bool true)) ∧ ext = []) := by
  have hR : (bif false then if 0 > room then 0 else room else if 0 < room then 0 else room) ≤ (0 : Int) := by
    simp only [cond_false]
    split <;> omega
  obtain ⟨n, hn, hn1⟩ : ∃ n : Nat, IntKind.i64.wrap (1 + IntKind.i64.wrap (many.tmod 40)) = n ∧ 1 ≤ n ∧ n ≤ 40 := by
    have h0 := Int.tmod_nonneg 40 hma.1
    have h1 := Int.tmod_lt_of_pos many (show (0 : Int) < 40 by decide)
    have h2 : IntKind.i64.wrap (many.tmod 40) = many.tmod 40 := by rw [IntKind.wrap_i64]; omega
    refine ⟨(many.tmod 40 + 1).toNat, ?_, by omega, by omega⟩
    rw [h2, IntKind.wrap_i64]
    omega
  have hLw : IntKind.i64.wrap lost = lost := by rw [IntKind.wrap_i64]; omega
  have hw2 : IntKind.i64.wrap (IntKind.i64.wrap lost + (n : Int)) = IntKind.i64.wrap lost + n := by rw [hLw, IntKind.wrap_i64]; omega
  refine FnOK.pure GG_no rfl (fn_intro (C := seat) seat_ok [] GG_no (Try.func5) rfl rfl rfl rfl rfl ?_)
  repeat' ((try conv => whnf); first
    | (with_reducible refine OKv.go (C := seat) seat_ok ?_)
    | (with_reducible refine BB_true ?_)
    | (with_reducible refine BB_false ?_)
    | (with_reducible refine Both.mk ?_ ?_)
    | (with_reducible refine VS.mk ?_)
    | (refine PSem.go (C := seat) seat_ok ?_)
    | (refine And.intro (PlanOK.mk (by kernel_rfl) rfl (by kernel_rfl) (by kernel_rfl)) ?_)
    | (refine And.intro rfl (Exists.intro _ (And.intro (by first | assumption | rfl) ?_)))
    | (refine And.intro ⟨rfl, rfl, rfl⟩ ?_)
    | (refine call_frz 0 rfl (frz_row (by rfl) (by rfl)) ?_; refine call_ro [] (few_z [m] _ 1 (by simp) (fun y hy => by rw [List.mem_singleton.1 hy]; exact hin)) GG_no rfl rfl rfl trivial ?_; rintro r bs' ext ⟨⟨q, rfl, hq⟩, rfl⟩; cases q <;> (try have hq := (hq rfl).1 m (by simp)))
    | (refine call_ro [] (awake_ok) GG_no rfl rfl rfl trivial ?_; rintro r bs' ext ⟨rfl, rfl⟩)
    | (refine And.intro (show _ ≠ (0 : Int) by decide) ?_)
    | (refine fun (caps : Nat → Nat) hcaps => ?_; conv at hcaps => whnf)
    | (refine BB.mk (fun _h => ?_) (fun _h => ?_) <;> (first | (exact absurd _h (by decide)) | (exfalso; simp only [boolSet] at _h <;> omega) | (simp only [boolSet] at _h) | skip))
    | (refine And.intro (by omega) ?_)
    | (refine BB.mk (fun _h => ?_) (fun _h => ?_) <;> (first | (exact absurd _h (by decide)) | (exfalso; simp only [boolSet] at _h <;> omega) | skip)))
  all_goals (try conv => whnf)
  all_goals first
    | exact ⟨_, _, FrzV.refl _ _, rfl, rfl, fun _ => rfl, rfl⟩
    | skip
  refine loop_rule (α := Nat × Nat) (fun p => p.1 ≤ n) (fun p => { slots := [(1, .v (.int .u16 lost)), (6, .p (.n 0) 0 0 0), (9, .p (.n 1) 0 0 0), (10, .v (.int .i64 (n : Int))), (11, .p (.n 2) 0 0 0), (30, .v (.int .i64 (n : Int))), (31, .v (.int .i64 (p.1 : Int)))], nt := 80, mem := ⟨GG, [], [.box 39 [.v (.int .u8 m.kind), .v (.int .u8 m.frm), .v (.int .u16 m.inc), .v (.int .u8 m.to), .z 4 (m.list.map deC) c1, .z 3 (m.table.map mbC) c2, .v (.int .u8 m.ev.a), .v (.int .u16 m.ev.b), .v (.int .u32 m.ev.c), .z 1 (m.vals.map i4C) c3, .z 1 (m.data.map u1C) c4, .v (.int .u8 m.hops), .v (.int .u8 m.org.a), .v (.int .u16 m.org.b), .v (.int .u32 m.org.c), .z 3 (m.marks.map mkC) c5, .z 3 (m.ids.map mkC) c6], .box 24 [.v (.int .i64 (bif false then if 0 > room then 0 else room else if 0 < room then 0 else room)), .v (.slice none 0 0), .v (.int .i64 (IntKind.i64.wrap lost))], .box 24 (nowC (bif false then if 0 > room then 0 else room else if 0 < room then 0 else room) (IntKind.i64.wrap lost) p.2 p.1)]⟩ }) (fun p => n - p.1) (0, 0) (Nat.zero_le _) ⟨⟨[0, 2, 3], by decide, GG_no, rfl, SubOld.refl _ rfl, ⟨rfl, rfl, rfl, trivial⟩, ⟨.inl rfl, .inl rfl, .inl rfl, .inl (num_eq hn), .inl rfl, .inl (num_eq hn), .inl rfl, trivial⟩⟩, rfl⟩ ?_ (fun _ => rfl)
  rintro ⟨k, c⟩ hk
  dsimp only at hk ⊢
  by_cases hlt : k < n
  · cases k with
    | zero =>
      refine vc_sound (C := seat) seat_ok (pl := []) ?_
      repeat' ((try conv => whnf); first
        | (with_reducible refine OKv.go (C := seat) seat_ok ?_)
        | (with_reducible refine BB_true ?_)
        | (with_reducible refine BB_false ?_)
        | (with_reducible refine Both.mk ?_ ?_)
        | (with_reducible refine VS.mk ?_)
        | (refine PSem.go (C := seat) seat_ok ?_)
        | (refine And.intro (PlanOK.mk (by kernel_rfl) rfl (by kernel_rfl) (by kernel_rfl)) ?_)
        | (refine And.intro rfl (Exists.intro _ (And.intro (by first | assumption | rfl) ?_)))
        | (refine And.intro ⟨rfl, rfl, rfl⟩ ?_)
        | (refine call_frz 0 rfl (frz_aggT 1 (by rfl) (frz_nil _ 17) (by rfl)) ?_; refine call_ro [] (put_nk (bif false then if 0 > room then 0 else room else if 0 < room then 0 else room) (IntKind.i64.wrap lost) ((IntKind.i64.wrap lost) + ((0 + 1 : Nat) : Int)) [] 0 m _ _ _ _ _ _ (by decide) ex_none (by simpa using hR) (by rw [hLw, IntKind.wrap_i64]; omega)) GG_no rfl rfl rfl trivial ?_; rintro r bs' ext ⟨⟨c7, rfl⟩, rfl⟩)
        | (refine fun (caps : Nat → Nat) hcaps => ?_; conv at hcaps => whnf)
        | (refine BB.mk (fun _h => ?_) (fun _h => ?_) <;> (first | (exact absurd _h (by decide)) | (exfalso; simp only [boolSet] at _h <;> omega) | (simp only [boolSet] at _h) | skip))
        | (refine And.intro (by omega) ?_)
        | (refine BB.mk (fun _h => ?_) (fun _h => ?_) <;> (first | (exact absurd _h (by decide)) | (exfalso; simp only [boolSet] at _h <;> omega) | skip)))
      all_goals (try conv => whnf)
      all_goals first
        | exact ⟨(0 + 1, c7), (by dsimp only; omega), (by dsimp only; omega), ⟨⟨[0, 1, 2], by decide, GG_no, rfl, SubOld.refl _ rfl, ⟨rfl, rfl, rfl, trivial⟩, ⟨.inl rfl, .inl rfl, .inl rfl, .inl rfl, .inl rfl, .inl rfl, .inl (num_eq (by rw [IntKind.wrap_i64]; dsimp only; omega)), trivial⟩⟩, rfl⟩⟩
        | trace_state
    | succ k =>
      refine vc_sound (C := seat) seat_ok (pl := []) ?_
      repeat' ((try conv => whnf); first
        | (with_reducible refine OKv.go (C := seat) seat_ok ?_)
        | (with_reducible refine BB_true ?_)
        | (with_reducible refine BB_false ?_)
        | (with_reducible refine Both.mk ?_ ?_)
        | (with_reducible refine VS.mk ?_)
        | (refine PSem.go (C := seat) seat_ok ?_)
        | (refine And.intro (PlanOK.mk (by kernel_rfl) rfl (by kernel_rfl) (by kernel_rfl)) ?_)
        | (refine And.intro rfl (Exists.intro _ (And.intro (by first | assumption | rfl) ?_)))
        | (refine And.intro ⟨rfl, rfl, rfl⟩ ?_)
        | (refine call_ro [] (put_nk (bif false then if 0 > room then 0 else room else if 0 < room then 0 else room) ((IntKind.i64.wrap lost) + ((k + 1 : Nat) : Int)) ((IntKind.i64.wrap lost) + ((k + 1 + 1 : Nat) : Int)) [] _ m _ _ _ _ _ _ (by decide) ex_none (by simpa using hR) (by rw [hLw, IntKind.wrap_i64]; omega)) GG_no rfl rfl rfl trivial ?_; rintro r bs' ext ⟨⟨c7, rfl⟩, rfl⟩)
        | (refine fun (caps : Nat → Nat) hcaps => ?_; conv at hcaps => whnf)
        | (refine BB.mk (fun _h => ?_) (fun _h => ?_) <;> (first | (exact absurd _h (by decide)) | (exfalso; simp only [boolSet] at _h <;> omega) | (simp only [boolSet] at _h) | skip))
        | (refine And.intro (by omega) ?_)
        | (refine BB.mk (fun _h => ?_) (fun _h => ?_) <;> (first | (exact absurd _h (by decide)) | (exfalso; simp only [boolSet] at _h <;> omega) | skip)))
      all_goals (try conv => whnf)
      all_goals first
        | exact ⟨(k + 1 + 1, c7), (by dsimp only; omega), (by dsimp only; omega), ⟨⟨[0, 1, 2], by decide, GG_no, rfl, SubOld.refl _ rfl, ⟨rfl, rfl, rfl, trivial⟩, ⟨.inl rfl, .inl rfl, .inl rfl, .inl rfl, .inl rfl, .inl rfl, .inl (num_eq (by rw [IntKind.wrap_i64]; dsimp only; omega)), trivial⟩⟩, rfl⟩⟩
        | trace_state
  · obtain rfl : k = n := by omega
    obtain ⟨j, rfl⟩ : ∃ j, k = j + 1 := ⟨k - 1, by omega⟩
    refine vc_sound (C := seat) seat_ok (pl := []) ?_
    repeat' ((try conv => whnf); first
      | (with_reducible refine OKv.go (C := seat) seat_ok ?_)
      | (with_reducible refine BB_true ?_)
      | (with_reducible refine BB_false ?_)
      | (with_reducible refine Both.mk ?_ ?_)
      | (with_reducible refine VS.mk ?_)
      | (refine PSem.go (C := seat) seat_ok ?_)
      | (refine And.intro (PlanOK.mk (by kernel_rfl) rfl (by kernel_rfl) (by kernel_rfl)) ?_)
      | (refine And.intro rfl (Exists.intro _ (And.intro (by first | assumption | rfl) ?_)))
      | (refine And.intro ⟨rfl, rfl, rfl⟩ ?_)
      | (refine call_ro [] (take_no (bif false then if 0 > room then 0 else room else if 0 < room then 0 else room) ((IntKind.i64.wrap lost) + ((j + 1 : Nat) : Int)) _) GG_no rfl rfl rfl trivial ?_; rintro r bs' ext ⟨rfl, rfl⟩)
      | (refine call_frz 1 rfl (FrzV.trans (frz_aggT 4 (by rfl) (frz_nil _ 4) (by rfl)) (FrzV.trans (frz_aggT 5 (by rfl) (frz_nil _ 3) (by rfl)) (FrzV.trans (frz_aggT 9 (by rfl) (frz_nil _ 1) (by rfl)) (FrzV.trans (frz_aggT 10 (by rfl) (frz_nil _ 1) (by rfl)) (FrzV.trans (frz_aggT 15 (by rfl) (frz_nil _ 3) (by rfl)) (frz_aggT 16 (by rfl) (frz_nil _ 3) (by rfl))))))) ?_; refine call_ro [] (same_yes ms0 0 0 0 0 0 0 0 0 0 0 0 0 ms0_ok) GG_no rfl rfl rfl trivial ?_; rintro r bs' ext ⟨rfl, rfl⟩)
      | (refine call_ro [] (boxes_yes (bif false then if 0 > room then 0 else room else if 0 < room then 0 else room) ((IntKind.i64.wrap lost) + ((j + 1 : Nat) : Int)) [] _ _ (by decide) ex_none) GG_no rfl rfl rfl trivial ?_; rintro r bs' ext ⟨rfl, rfl⟩)
      | (refine call_ro [] (awake_ok) GG_no rfl rfl rfl trivial ?_; rintro r bs' ext ⟨rfl, rfl⟩)
      | (refine fun (caps : Nat → Nat) hcaps => ?_; conv at hcaps => whnf)
      | (refine BB.mk (fun _h => ?_) (fun _h => ?_) <;> (first | (exact absurd _h (by decide)) | (exfalso; simp only [boolSet] at _h <;> omega) | (simp only [boolSet] at _h) | skip))
      | (refine And.intro (by omega) ?_)
      | (refine BB.mk (fun _h => ?_) (fun _h => ?_) <;> (first | (exact absurd _h (by decide)) | (exfalso; simp only [boolSet] at _h <;> omega) | skip)))
    all_goals (try conv => whnf)
    all_goals first
      | exact ⟨_, _, FrzV.refl _ _, rfl, rfl, fun _ => rfl, rfl⟩
      | trace_state
end Go.Proofs.Ytkcdomafdjpbjaa
