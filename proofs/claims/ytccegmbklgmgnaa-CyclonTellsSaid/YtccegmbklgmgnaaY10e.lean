/- Stage 10: Ask. -/
import Derived.Test.YtccegmbklgmgnaaY10d
namespace Go.Proofs.Ytccegmbklgmgnaa
open Go.RowKit

theorem copy1_ok (d : De) (cap : Nat) (hd : d.fl.length ≤ 1099511627776) : FnOK Try.prog GG 27 [.ro 4 [deC d]] [.s (.o 0) 4 0 1 cap] (fun r _ ext => ∃ cap', 1 ≤ cap' ∧ r = .s (.n 0) 4 0 1 cap' ∧ ext = [.row 34 4 cap' [deC d]]) :=
  copy_ok [d] cap (by simp) (fun y hy => by obtain rfl := List.mem_singleton.1 hy; exact hd)
/-- Who is sent ahead of all. -/
abbrev meD (d : De) : De := ⟨d.node, d.inc, 0, d.fl⟩
def askL (l : List De) (d y : De) (many : Int) (draws : List Int) : List De := meD d :: (pickN (many - 1) draws (othN l y.node l.length) draws.length).2
set_option maxRecDepth 100000 in
set_option maxHeartbeats 4000000 in
theorem ask_no (l : List De) (cl : Nat) (d : De) (cd : Nat) (many : Int) (draws : List Int) (cr : Nat) (hl : l.length ≤ 20) (hf : FlOk l) (hd : d.fl.length ≤ 1099511627776) (hdl : draws.length ≤ 1000) (hdr : ∀ y ∈ draws, 0 ≤ y ∧ y ≤ 4294967295) (h : l.length = 0 ∨ many < 1) : FnOK Try.prog GG 12 [] [.z 4 (l.map deC) cl, deS d cd, .v (.int .i64 many), .z 1 (draws.map u4C) cr] (fun r _ ext => (r = .tup [.v (.int .u8 0), .z 4 [] 0, .v (.bool false)]) ∧ ext = []) := by
  have hlm : (l.map deC).length = l.length := List.length_map _
  refine FnOK.pure GG_no rfl (fn_intro (C := seat) seat_ok [] GG_no (Try.func12) rfl rfl rfl rfl rfl ?_)
  repeat' ((try conv => whnf); first
    | (with_reducible refine OKv.go (C := seat) seat_ok ?_)
    | (with_reducible refine BB_true ?_)
    | (with_reducible refine BB_false ?_)
    | (with_reducible refine Both.mk ?_ ?_)
    | (with_reducible refine VS.mk ?_)
    | (refine PSem.go (C := seat) seat_ok ?_)
    | (refine And.intro (PlanOK.mk (by kernel_rfl) rfl (by kernel_rfl) (by kernel_rfl)) ?_)
    | (refine And.intro rfl (Exists.intro _ (And.intro (by first | assumption | rfl) ?_)))
    | (refine And.intro ⟨rfl, rfl, rfl⟩ ?_)
    | (refine BB.mk (fun _h => ?_) (fun _h => ?_) <;> (first | (exact absurd _h (by decide)) | (exfalso; simp only [boolSet] at _h <;> omega) | (simp only [boolSet] at _h) | skip))
    | (refine And.intro (by omega) ?_)
    | (refine BB.mk (fun _h => ?_) (fun _h => ?_) <;> (first | (exact absurd _h (by decide)) | (exfalso; simp only [boolSet] at _h <;> omega) | skip)))
  all_goals (try conv => whnf)
  all_goals first
    | exact ⟨_, _, frz_tup 1 rfl (frz_nil _ 4) rfl, rfl, rfl, fun _ => rfl, rfl⟩
    | (exfalso; omega)
theorem pick_eq (l : List De) (cl : Nat) (m many : Int) (hm : m = many) (x : Int) (draws : List Int) (cd : Nat) (hl : l.length ≤ 20) (hf : FlOk l) (hdl : draws.length ≤ 1000) (hdr : ∀ y ∈ draws, 0 ≤ y ∧ y ≤ 4294967295) (o : List De) (ho : (pickN many draws (othN l x l.length) draws.length).2 = o) : FnOK Try.prog GG 15 [] [.z 4 (l.map deC) cl, .v (.int .i64 m), .v (.int .u8 x), .z 1 (draws.map u4C) cd] (fun r _ ext => (∃ c', o.length ≤ c' ∧ r = .z 4 (o.map deC) c') ∧ ext = []) := by
  subst hm; subst ho
  exact pick_ok l cl m x draws cd hl hf hdl hdr
set_option maxRecDepth 100000 in
set_option maxHeartbeats 4000000 in
theorem ask_ok (l : List De) (cl : Nat) (d : De) (cd : Nat) (many : Int) (draws : List Int) (cr : Nat) (hl : l.length ≤ 20) (hf : FlOk l) (hd : d.fl.length ≤ 1099511627776) (hdl : draws.length ≤ 1000) (hdr : ∀ y ∈ draws, 0 ≤ y ∧ y ≤ 4294967295) (hm : 1 ≤ many ∧ many ≤ 9223372036854775807) (a : Nat) (y : De) (ha : oldAt l l.length = some a) (hy : l[a]? = some y) : FnOK Try.prog GG 12 [] [.z 4 (l.map deC) cl, deS d cd, .v (.int .i64 many), .z 1 (draws.map u4C) cr] (fun r _ ext => (∃ c', (askL l d y many draws).length ≤ c' ∧ r = .tup [.v (.int .u8 y.node), .z 4 ((askL l d y many draws).map deC) c', .v (.bool true)]) ∧ ext = []) := by
  have hlm : (l.map deC).length = l.length := List.length_map _
  have hrow := zde_at hy
  have hal := getElem?_lt hy
  have hw : IntKind.i64.wrap (many - 1) = many - 1 := by rw [IntKind.wrap_i64]; omega
  have hpl := (pick_len (many - 1) draws (othN l y.node l.length) draws.length).2
  have hpm : ((pickN (many - 1) draws (othN l y.node l.length) draws.length).2.map deC).length = (pickN (many - 1) draws (othN l y.node l.length) draws.length).2.length := List.length_map _
  refine FnOK.pure GG_no rfl (fn_intro (C := seat) seat_ok [] GG_no (Try.func12) rfl rfl rfl rfl rfl ?_)
  repeat' ((try conv => whnf); first
    | (with_reducible refine OKv.go (C := seat) seat_ok ?_)
    | (with_reducible refine BB_true ?_)
    | (with_reducible refine BB_false ?_)
    | (with_reducible refine Both.mk ?_ ?_)
    | (with_reducible refine VS.mk ?_)
    | (refine PSem.go (C := seat) seat_ok ?_)
    | (refine And.intro (PlanOK.mk (by kernel_rfl) rfl (by kernel_rfl) (by kernel_rfl)) ?_)
    | (refine And.intro rfl (Exists.intro _ (And.intro (by first | assumption | rfl) ?_)))
    | (refine And.intro ⟨rfl, rfl, rfl⟩ ?_)
    | (refine call_ro [] (oldest_zz l cl (a : Int) (by omega) (by rw [ha]; rfl)) GG_no rfl rfl rfl trivial ?_; rintro r bs' ext ⟨rfl, rfl⟩)
    | (refine call_ro [.n 1] (copy1_ok d _ hd) GG_no rfl rfl rfl ⟨⟨_, rfl, rfl, rfl⟩, trivial⟩ ?_; rintro r bs' ext ⟨cc, hcc, rfl, rfl⟩)
    | (refine call_ro [] (pick_eq l cl _ (many - 1) hw y.node draws cr hl hf hdl hdr _ rfl) GG_no rfl rfl rfl trivial ?_; rintro r bs' ext ⟨⟨cp, hcp, rfl⟩, rfl⟩)
    | (refine And.intro ⟨by omega, by simp only [List.length_map]; omega⟩ (Exists.intro _ (And.intro (by first | assumption | rfl) ?_)))
    | (refine BB.mk (fun _h => ?_) (fun _h => ?_) <;> (first | (exact absurd _h (by decide)) | (exfalso; simp only [boolSet] at _h <;> omega) | (simp only [boolSet] at _h) | skip))
    | (refine And.intro ⟨rfl, rfl, rfl, by first | (simp only [chunks_len, List.length_map, List.length_take, List.length_drop, List.length_append, List.length_cons, List.length_nil] <;> omega) | omega | rfl⟩ ?_)
    | (refine And.intro ⟨rfl, by first | (simp only [chunks_len, List.length_map, List.length_take, List.length_drop, List.length_append, List.length_cons, List.length_nil] <;> omega) | omega | rfl⟩ ?_)
    | (refine And.intro (by first | exact ⟨rfl, Nat.le_refl _⟩ | first | (simp only [chunks_len, List.length_map, List.length_take, List.length_drop, List.length_append, List.length_cons, List.length_nil] <;> omega) | omega | rfl) ?_)
    | (refine fun (caps : Nat → Nat) hcaps => ?_; conv at hcaps => whnf)
    | (refine fun (cap' : Nat) hcap' => ?_)
    | (refine And.intro (by omega) ?_)
    | (refine BB.mk (fun _h => ?_) (fun _h => ?_) <;> (first | (exact absurd _h (by decide)) | (exfalso; simp only [boolSet] at _h <;> omega) | skip)))
  all_goals (try conv => whnf)
  all_goals first
    | exact ⟨_, _, frz_tup 1 rfl (frz_row rfl (by unfold askL; simp [Nat.add_comm])) rfl, rfl, rfl, fun _ => rfl, cap', (by unfold askL; simp only [List.length_cons]; omega), rfl⟩
    | (exfalso; omega)
end Go.Proofs.Ytccegmbklgmgnaa
