/- Messages, copied; Put, Take. -/
import Derived.Test.YtkcdomafdjpbjaaT21
namespace Go.Proofs.Ytkcdomafdjpbjaa
open Go.RowKit

set_option maxRecDepth 100000 in
set_option maxHeartbeats 4000000 in
theorem desc_z (d : De) (c : Nat) (hf : d.fl.length ≤ 1000) : FnOK Try.prog GG 26 [] [deS d c] (fun r _ ext => (∃ c', d.fl.length ≤ c' ∧ r = deS d c') ∧ ext = []) := by
  refine FnOK.pure GG_no rfl (fn_intro (C := seat) seat_ok [] GG_no (Try.func26) rfl rfl rfl rfl rfl ?_)
  repeat' ((try conv => whnf); first
    | (with_reducible refine OKv.go (C := seat) seat_ok ?_)
    | (with_reducible refine BB_true ?_)
    | (with_reducible refine BB_false ?_)
    | (with_reducible refine Both.mk ?_ ?_)
    | (with_reducible refine VS.mk ?_)
    | (refine PSem.go (C := seat) seat_ok ?_)
    | (refine And.intro (PlanOK.mk (by kernel_rfl) rfl (by kernel_rfl) (by kernel_rfl)) ?_)
    | (refine And.intro rfl (Exists.intro _ (And.intro (by first | assumption | rfl) ?_)))
    | (refine And.intro ⟨rfl, rfl, rfl⟩ ?_)
    | (refine call_ro [] (cop_sp d.fl _ (by omega)) GG_no rfl rfl rfl trivial ?_; rintro r bs' ext ⟨⟨c', hc', rfl⟩, rfl⟩)
    | (refine fun (caps : Nat → Nat) hcaps => ?_; conv at hcaps => whnf)
    | (refine BB.mk (fun _h => ?_) (fun _h => ?_) <;> (first | (exact absurd _h (by decide)) | (exfalso; simp only [boolSet] at _h <;> omega) | (simp only [boolSet] at _h) | skip))
    | (refine And.intro (by omega) ?_)
    | (refine BB.mk (fun _h => ?_) (fun _h => ?_) <;> (first | (exact absurd _h (by decide)) | (exfalso; simp only [boolSet] at _h <;> omega) | skip)))
  all_goals (try conv => whnf)
  all_goals first
    | exact ⟨_, _, FrzV.refl _ _, rfl, rfl, fun _ => rfl, c', hc', rfl⟩
    | trace_state
set_option maxRecDepth 100000 in
set_option maxHeartbeats 4000000 in
theorem cop_de (l : List De) (c : Nat) (hl : l.length ≤ 1000000) (hf : ∀ y ∈ l, y.fl.length ≤ 1000) : FnOK Try.prog GG 25 [] [.z 4 (l.map deC) c, .fn 26 []] (fun r _ ext => (∃ c', l.length ≤ c' ∧ r = .z 4 (l.map deC) c') ∧ ext = []) := by
  have hlm : (l.map deC).length = l.length := List.length_map _
  refine FnOK.pure GG_no rfl (fn_intro (C := seat) seat_ok [] GG_no (Try.func25) rfl rfl rfl rfl rfl ?_)
  repeat' ((try conv => whnf); first
    | (with_reducible refine OKv.go (C := seat) seat_ok ?_)
    | (with_reducible refine BB_true ?_)
    | (with_reducible refine BB_false ?_)
    | (with_reducible refine Both.mk ?_ ?_)
    | (with_reducible refine VS.mk ?_)
    | (refine PSem.go (C := seat) seat_ok ?_)
    | (refine And.intro (PlanOK.mk (by kernel_rfl) rfl (by kernel_rfl) (by kernel_rfl)) ?_)
    | (refine And.intro rfl (Exists.intro _ (And.intro (by first | assumption | rfl) ?_)))
    | (refine And.intro ⟨rfl, rfl, rfl⟩ ?_)
    | (refine And.intro (by omega) ?_)
    | (refine BB.mk (fun _h => ?_) (fun _h => ?_) <;> (first | (exact absurd _h (by decide)) | (exfalso; simp only [boolSet] at _h <;> omega) | skip)))
  all_goals (try conv => whnf)
  refine loop_rule (α := Nat × Nat) (fun p => p.1 ≤ l.length ∧ p.1 ≤ p.2) (fun p => { slots := [(1, .fn 26 []), (5, .s (.n 0) 4 0 p.1 p.2), (8, .z 4 (l.map deC) c), (9, .v (.int .i64 (l.map deC).length)), (10, .v (.int .i64 (p.1 : Int)))], nt := 22, mem := ⟨GG, [], [.row 55 4 p.2 ((l.take p.1).map deC)]⟩ }) (fun p => l.length - p.1) (0, 0) ⟨Nat.zero_le _, Nat.zero_le _⟩ ⟨⟨[0], (by decide), GG_no, rfl, (SubOld.refl _ rfl), ⟨.inl (.inl ⟨rfl, rfl⟩), trivial⟩, ⟨.inl rfl, .inr (.inl ⟨_, _, _, rfl, rfl⟩), .inl rfl, .inl rfl, .inl rfl, trivial⟩⟩, rfl⟩ ?_ (fun _ => rfl)
  rintro ⟨k, c'⟩ ⟨hk, hc⟩
  dsimp only at hk hc ⊢
  refine vc_sound (C := seat) seat_ok (pl := []) ?_
  by_cases hlt : k < l.length
  · obtain ⟨y, hy⟩ : ∃ y, l[k]? = some y := ⟨_, List.getElem?_eq_getElem hlt⟩
    have hrow := zd_z hy
    have htk : ((l.take k).map deC).length = k := by rw [List.length_map, List.length_take]; omega
    have hfy := hf y (List.mem_of_getElem? hy)
    repeat' ((try conv => whnf); first
      | (with_reducible refine OKv.go (C := seat) seat_ok ?_)
      | (with_reducible refine BB_true ?_)
      | (with_reducible refine BB_false ?_)
      | (with_reducible refine Both.mk ?_ ?_)
      | (with_reducible refine VS.mk ?_)
      | (refine PSem.go (C := seat) seat_ok ?_)
      | (refine And.intro (PlanOK.mk (by kernel_rfl) rfl (by kernel_rfl) (by kernel_rfl)) ?_)
      | (refine And.intro rfl (Exists.intro _ (And.intro (by first | assumption | rfl) ?_)))
      | (refine And.intro ⟨rfl, rfl, rfl⟩ ?_)
      | (refine call_ro [] (desc_z y _ hfy) GG_no rfl rfl rfl trivial ?_; rintro r bs' ext ⟨⟨c9, hc9, rfl⟩, rfl⟩)
      | (refine And.intro ⟨by omega, by simp only [List.length_map]; omega⟩ (Exists.intro _ (And.intro (by first | assumption | rfl) ?_)))
      | (refine And.intro ⟨rfl, rfl, rfl, by first | omega | rfl⟩ ?_)
      | (refine And.intro ⟨rfl, by first | omega | rfl | (simp only [chunks_len] <;> omega)⟩ ?_)
      | (refine And.intro (by first | exact ⟨rfl, Nat.le_refl _⟩ | omega | rfl | (dsimp only; omega)) ?_)
      | (refine fun (caps : Nat → Nat) hcaps => ?_; conv at hcaps => whnf)
      | (refine fun (cap' : Nat) hcap' => ?_)
      | (refine BB.mk (fun _h => ?_) (fun _h => ?_) <;> (first | (exact absurd _h (by decide)) | (exfalso; simp only [boolSet] at _h <;> omega) | (simp only [boolSet] at _h) | skip))
      | (refine And.intro (by omega) ?_)
      | (refine BB.mk (fun _h => ?_) (fun _h => ?_) <;> (first | (exact absurd _h (by decide)) | (exfalso; simp only [boolSet] at _h <;> omega) | skip)))
    all_goals (try conv => whnf)
    refine ⟨(k + 1, cap'), ⟨by dsimp only; omega, by dsimp only; omega⟩, by dsimp only; omega, ⟨⟨[3], by decide, GG_no, rfl, SubOld.refl _ rfl, ⟨.inr (.inl ?_), trivial⟩, ⟨.inl rfl, .inl ?_, .inl rfl, .inl rfl, .inl (num_eq (by rw [IntKind.wrap_i64]; dsimp only; omega)), trivial⟩⟩, rfl⟩⟩
    · dsimp only
      rw [map_take_in hy]
      rfl
    · rfl
  · have hs : l.take k = l := List.take_of_length_le (by omega)
    obtain rfl : k = l.length := by omega
    repeat' ((try conv => whnf); first
      | (with_reducible refine OKv.go (C := seat) seat_ok ?_)
      | (with_reducible refine BB_true ?_)
      | (with_reducible refine BB_false ?_)
      | (with_reducible refine Both.mk ?_ ?_)
      | (with_reducible refine VS.mk ?_)
      | (refine PSem.go (C := seat) seat_ok ?_)
      | (refine And.intro (PlanOK.mk (by kernel_rfl) rfl (by kernel_rfl) (by kernel_rfl)) ?_)
      | (refine And.intro rfl (Exists.intro _ (And.intro (by first | assumption | rfl) ?_)))
      | (refine And.intro ⟨rfl, rfl, rfl⟩ ?_)
      | (refine BB.mk (fun _h => ?_) (fun _h => ?_) <;> (first | (exact absurd _h (by decide)) | (exfalso; simp only [boolSet] at _h <;> omega) | (simp only [boolSet] at _h) | skip))
      | (refine And.intro (by omega) ?_)
      | (refine BB.mk (fun _h => ?_) (fun _h => ?_) <;> (first | (exact absurd _h (by decide)) | (exfalso; simp only [boolSet] at _h <;> omega) | skip)))
    all_goals (try conv => whnf)
    exact ⟨_, _, (frz_rowF (els' := l.map deC) (by rfl) (by rw [List.length_map]) (by rw [hs])), rfl, rfl, fun _ => rfl, c', hc, rfl⟩
structure Ms where
  kind : Int
  frm : Int
  inc : Int
  to : Int
  list : List De
  table : List Tr
  ev : Tr
  vals : List Int
  data : List Int
  hops : Int
  org : Tr
  marks : List Tr
  ids : List Tr
def msC (m : Ms) : List CV := [.v (.int .u8 m.kind), .v (.int .u8 m.frm), .v (.int .u16 m.inc), .v (.int .u8 m.to), .z 4 (m.list.map deC), .z 3 (m.table.map mbC), .v (.int .u8 m.ev.a), .v (.int .u16 m.ev.b), .v (.int .u32 m.ev.c), .z 1 (m.vals.map i4C), .z 1 (m.data.map u1C), .v (.int .u8 m.hops), .v (.int .u8 m.org.a), .v (.int .u16 m.org.b), .v (.int .u32 m.org.c), .z 3 (m.marks.map mkC), .z 3 (m.ids.map mkC)]
abbrev msS (m : Ms) (c1 c2 c3 c4 c5 c6 : Nat) : SV := .agg [.v (.int .u8 m.kind), .v (.int .u8 m.frm), .v (.int .u16 m.inc), .v (.int .u8 m.to), .z 4 (m.list.map deC) c1, .z 3 (m.table.map mbC) c2, .v (.int .u8 m.ev.a), .v (.int .u16 m.ev.b), .v (.int .u32 m.ev.c), .z 1 (m.vals.map i4C) c3, .z 1 (m.data.map u1C) c4, .v (.int .u8 m.hops), .v (.int .u8 m.org.a), .v (.int .u16 m.org.b), .v (.int .u32 m.org.c), .z 3 (m.marks.map mkC) c5, .z 3 (m.ids.map mkC) c6]
theorem ms_z {l : List Ms} {k : Nat} {y : Ms} (h : l[k]? = some y) : (l.map msC)[(k : Int).toNat]? = some [.v (.int .u8 y.kind), .v (.int .u8 y.frm), .v (.int .u16 y.inc), .v (.int .u8 y.to), .z 4 (y.list.map deC), .z 3 (y.table.map mbC), .v (.int .u8 y.ev.a), .v (.int .u16 y.ev.b), .v (.int .u32 y.ev.c), .z 1 (y.vals.map i4C), .z 1 (y.data.map u1C), .v (.int .u8 y.hops), .v (.int .u8 y.org.a), .v (.int .u16 y.org.b), .v (.int .u32 y.org.c), .z 3 (y.marks.map mkC), .z 3 (y.ids.map mkC)] := by
  rw [Int.toNat_natCast, List.getElem?_map, h]; rfl
structure MsOk (m : Ms) : Prop where
  list : m.list.length ≤ 30
  fl : ∀ d ∈ m.list, d.fl.length ≤ 8
  table : m.table.length ≤ 30
  vals : m.vals.length ≤ 8
  data : m.data.length ≤ 70
  marks : m.marks.length ≤ 30
  ids : m.ids.length ≤ 60
set_option maxRecDepth 100000 in
set_option maxHeartbeats 4000000 in
theorem message_z (m : Ms) (c1 c2 c3 c4 c5 c6 : Nat) (hm : MsOk m) : FnOK Try.prog GG 18 [] [msS m c1 c2 c3 c4 c5 c6] (fun r _ ext => (∃ d1 d2 d3 d4 d5 d6, r = msS m d1 d2 d3 d4 d5 d6) ∧ ext = []) := by
  obtain ⟨h1, h2, h3, h4, h5, h6, h7⟩ := id hm
  refine FnOK.pure GG_no rfl (fn_intro (C := seat) seat_ok [] GG_no (Try.func18) rfl rfl rfl rfl rfl ?_)
  repeat' ((try conv => whnf); first
    | (with_reducible refine OKv.go (C := seat) seat_ok ?_)
    | (with_reducible refine BB_true ?_)
    | (with_reducible refine BB_false ?_)
    | (with_reducible refine Both.mk ?_ ?_)
    | (with_reducible refine VS.mk ?_)
    | (refine PSem.go (C := seat) seat_ok ?_)
    | (refine And.intro (PlanOK.mk (by kernel_rfl) rfl (by kernel_rfl) (by kernel_rfl)) ?_)
    | (refine And.intro rfl (Exists.intro _ (And.intro (by first | assumption | rfl) ?_)))
    | (refine And.intro ⟨rfl, rfl, rfl⟩ ?_)
    | (refine call_ro [] (cop_de m.list _ (by omega) (fun d hd => by have := hm.fl d hd; omega)) GG_no rfl rfl rfl trivial ?_; rintro r bs' ext ⟨⟨d1, hd1, rfl⟩, rfl⟩)
    | (refine call_ro [] (cop_mb m.table _ (by omega)) GG_no rfl rfl rfl trivial ?_; rintro r bs' ext ⟨⟨d2, hd2, rfl⟩, rfl⟩)
    | (refine call_ro [] (cop_i4 m.vals _ (by omega)) GG_no rfl rfl rfl trivial ?_; rintro r bs' ext ⟨⟨d3, hd3, rfl⟩, rfl⟩)
    | (refine call_ro [] (cop_u1 m.data _ (by omega)) GG_no rfl rfl rfl trivial ?_; rintro r bs' ext ⟨⟨d4, hd4, rfl⟩, rfl⟩)
    | (refine call_ro [] (cop_mk m.marks _ (by omega)) GG_no rfl rfl rfl trivial ?_; rintro r bs' ext ⟨⟨d5, hd5, rfl⟩, rfl⟩)
    | (refine call_ro [] (cop_id m.ids _ (by omega)) GG_no rfl rfl rfl trivial ?_; rintro r bs' ext ⟨⟨d6, hd6, rfl⟩, rfl⟩)
    | (refine fun (caps : Nat → Nat) hcaps => ?_; conv at hcaps => whnf)
    | (refine BB.mk (fun _h => ?_) (fun _h => ?_) <;> (first | (exact absurd _h (by decide)) | (exfalso; simp only [boolSet] at _h <;> omega) | (simp only [boolSet] at _h) | skip))
    | (refine And.intro (by omega) ?_)
    | (refine BB.mk (fun _h => ?_) (fun _h => ?_) <;> (first | (exact absurd _h (by decide)) | (exfalso; simp only [boolSet] at _h <;> omega) | skip)))
  all_goals (try conv => whnf)
  all_goals first
    | exact ⟨_, _, FrzV.refl _ _, rfl, rfl, fun _ => rfl, _, _, _, _, _, _, rfl⟩
    | trace_state
end Go.Proofs.Ytkcdomafdjpbjaa
