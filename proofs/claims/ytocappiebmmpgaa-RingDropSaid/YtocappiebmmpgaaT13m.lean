/- Law RingFar. -/
import Derived.Test.YtocappiebmmpgaaT13k
namespace Go.Proofs.Ytocappiebmmpgaa
open Go.RowKit

set_option maxRecDepth 100000 in
set_option maxHeartbeats 4000000 in
theorem may_z (s : List Sp) (l : List De) (cs cl : Nat) (hs : s.length ≤ 9223372036854775807) (hl : l.length ≤ 1099511627776) (hf : FlOk l) : FnOK Try.prog GG 9 [] [.z 2 (s.map spC) cs, .z 4 (l.map deC) cl] (fun r _ ext => (∃ v : Bool, r = .v (.bool v)) ∧ ext = []) := by
  have hlm : (l.map deC).length = l.length := List.length_map _
  refine FnOK.pure GG_no rfl (fn_intro (C := seat) seat_ok [] GG_no (Try.func9) rfl rfl rfl rfl rfl ?_)
  repeat' ((try conv => whnf); first
    | (with_reducible refine OKv.go (C := seat) seat_ok ?_)
    | (with_reducible refine BB_true ?_)
    | (with_reducible refine BB_false ?_)
    | (with_reducible refine Both.mk ?_ ?_)
    | (with_reducible refine VS.mk ?_)
    | (refine PSem.go (C := seat) seat_ok ?_)
    | (refine And.intro (PlanOK.mk (by kernel_rfl) rfl (by kernel_rfl) (by kernel_rfl)) ?_)
    | (refine And.intro rfl (Exists.intro _ (And.intro (by first | assumption | rfl) ?_)))
    | (refine And.intro ⟨rfl, rfl, rfl⟩ ?_)
    | (refine And.intro (by omega) ?_)
    | (refine BB.mk (fun _h => ?_) (fun _h => ?_) <;> (first | (exact absurd _h (by decide)) | (exfalso; simp only [boolSet] at _h <;> omega) | skip)))
  all_goals (try conv => whnf)
  refine loop_rule (α := Nat) (fun k => k ≤ l.length) (fun k => { slots := [(0, .z 2 (s.map spC) cs), (7, .z 4 (l.map deC) cl), (8, .v (.int .i64 (l.map deC).length)), (9, .v (.int .i64 (k : Int)))], nt := 21, mem := ⟨GG, [], []⟩ }) (fun k => l.length - k) 0 (Nat.zero_le _) ⟨⟨[], List.nodup_nil, GG_no, rfl, (SubOld.refl _ rfl), trivial, ⟨.inl rfl, .inl rfl, .inl rfl, .inl rfl, trivial⟩⟩, rfl⟩ ?_ (fun _ => rfl)
  intro k hk
  refine vc_sound (C := seat) seat_ok (pl := []) ?_
  by_cases hlt : k < l.length
  · obtain ⟨d, hd⟩ : ∃ d, l[k]? = some d := ⟨_, List.getElem?_eq_getElem hlt⟩
    have hrow := zde13 hd
    have hdf := hf d (List.mem_of_getElem? hd)
    repeat' ((try conv => whnf); first
      | (with_reducible refine OKv.go (C := seat) seat_ok ?_)
      | (with_reducible refine BB_true ?_)
      | (with_reducible refine BB_false ?_)
      | (with_reducible refine Both.mk ?_ ?_)
      | (with_reducible refine VS.mk ?_)
      | (refine PSem.go (C := seat) seat_ok ?_)
      | (refine And.intro (PlanOK.mk (by kernel_rfl) rfl (by kernel_rfl) (by kernel_rfl)) ?_)
      | (refine And.intro rfl (Exists.intro _ (And.intro (by first | assumption | rfl) ?_)))
      | (refine And.intro ⟨rfl, rfl, rfl⟩ ?_)
      | (refine call_ro [] (rright13 s d.fl _ _ hs (Nat.le_trans hdf (by decide))) GG_no rfl rfl rfl trivial ?_; rintro r bs' ext ⟨rfl, rfl⟩)
      | (refine And.intro ⟨by omega, by simp only [List.length_map]; omega⟩ (Exists.intro _ (And.intro (by first | assumption | rfl) ?_)))
      | (refine fun (caps : Nat → Nat) hcaps => ?_; conv at hcaps => whnf)
      | (refine BB.mk (fun _h => ?_) (fun _h => ?_) <;> (first | (exact absurd _h (by decide)) | (exfalso; simp only [boolSet, hlm] at _h <;> omega) | (simp only [boolSet, hlm] at _h) | skip))
      | (refine And.intro (by omega) ?_)
      | (refine BB.mk (fun _h => ?_) (fun _h => ?_) <;> (first | (exact absurd _h (by decide)) | (exfalso; simp only [boolSet] at _h <;> omega) | skip)))
    all_goals (try conv => whnf)
    all_goals first
      | exact ⟨k + 1, by omega, by omega, ⟨⟨[], by decide, GG_no, rfl, SubOld.refl _ rfl, trivial, ⟨.inl rfl, .inl rfl, .inl rfl, .inl (num_eq (by rw [IntKind.wrap_i64]; omega)), trivial⟩⟩, rfl⟩⟩
      | exact ⟨_, _, FrzV.refl _ _, rfl, rfl, fun _ => rfl, _, rfl⟩
  · obtain rfl : k = l.length := by omega
    repeat' ((try conv => whnf); first
      | (with_reducible refine OKv.go (C := seat) seat_ok ?_)
      | (with_reducible refine BB_true ?_)
      | (with_reducible refine BB_false ?_)
      | (with_reducible refine Both.mk ?_ ?_)
      | (with_reducible refine VS.mk ?_)
      | (refine PSem.go (C := seat) seat_ok ?_)
      | (refine And.intro (PlanOK.mk (by kernel_rfl) rfl (by kernel_rfl) (by kernel_rfl)) ?_)
      | (refine And.intro rfl (Exists.intro _ (And.intro (by first | assumption | rfl) ?_)))
      | (refine And.intro ⟨rfl, rfl, rfl⟩ ?_)
      | (refine call_ro [] (rsch13 s _ hs) GG_no rfl rfl rfl trivial ?_; rintro r bs' ext ⟨rfl, rfl⟩)
      | (refine BB.mk (fun _h => ?_) (fun _h => ?_) <;> (first | (exact absurd _h (by decide)) | (exfalso; simp only [boolSet, hlm] at _h <;> omega) | (simp only [boolSet, hlm] at _h) | skip))
      | (refine And.intro (by omega) ?_)
      | (refine BB.mk (fun _h => ?_) (fun _h => ?_) <;> (first | (exact absurd _h (by decide)) | (exfalso; simp only [boolSet] at _h <;> omega) | skip)))
    all_goals (try conv => whnf)
    all_goals exact ⟨_, _, FrzV.refl _ _, rfl, rfl, fun _ => rfl, _, rfl⟩
set_option maxRecDepth 100000 in
set_option maxHeartbeats 4000000 in
theorem ringFar_ok (a b c : Int) (s : List Sp) (d : De) (cs cd : Nat) (ha : 0 ≤ a ∧ a ≤ 65535) (hb : 0 ≤ b ∧ b ≤ 65535) (hc : 0 ≤ c ∧ c ≤ 65535) (hs : s.length ≤ 9223372036854775807) (hs2 : s.length ≤ 9223372036854775807) (hdf : d.fl.length ≤ 9223372036854775807) (hd : DeOk d) : FnOK Try.prog GG 6 [] [.v (.int .u16 a), .v (.int .u16 b), .v (.int .u16 c), .z 2 (s.map spC) cs, deS d cd] (fun r _ ext => (r = .v (.bool true)) ∧ ext = []) := by
  have hfm : (d.fl.map spC).length = d.fl.length := List.length_map _
  have hw : ∀ x y, farI x y = (y - x) % 65536 := fun x y => IntKind.wrap_u16 _
  have h1 := hw a b
  have h2 := hw b a
  have h3 := hw a a
  have h4 := hw b c
  have h5 := hw a c
  have hk := keyW_le s d.fl (min s.length d.fl.length)
  obtain ⟨hd1, hd2, hd3⟩ := hd
  have hpd : placeI s d = keyW s d.fl (min s.length d.fl.length) * 256 + d.node := rfl
  have hpe0 : placeI s (⟨IntKind.u8.wrap (d.node + 1), d.inc, d.age, d.fl⟩ : De) = keyW s d.fl (min s.length d.fl.length) * 256 + IntKind.u8.wrap (d.node + 1) := rfl
  have hu8 : IntKind.u8.wrap (d.node + 1) = (d.node + 1) % 256 := IntKind.wrap_u8 _
  have hpe : d.node ≠ 255 → farI (placeI s d) (placeI s (⟨IntKind.u8.wrap (d.node + 1), d.inc, d.age, d.fl⟩ : De)) = 1 := fun h => by
    rw [hw, hpd, hpe0, hu8]
    omega
  have hpm : (placeI s d).tmod 256 = d.node := by
    rw [Int.tmod_eq_emod_of_nonneg (by omega), hpd]
    omega
  have hnw : IntKind.u16.wrap d.node = d.node := by rw [IntKind.wrap_u16]; omega
  refine FnOK.pure GG_no rfl (fn_intro (C := seat) seat_ok [(12, (.of [(0, .take), (1, .take), (3, .take), (4, .take), (2, .do_), (5, .do_), (6, .do_), (7, .take), (8, .take), (9, .take), (10, .take), (13, .take), (14, .take), (15, .take), (11, .do_), (12, .take), (16, .take), (17, .take), (18, .take), (19, .do_), (20, .take), (21, .take)]))] GG_no (Try.func6) rfl rfl rfl rfl rfl ?_)
  repeat' ((try conv => whnf); first
    | (with_reducible refine OKv.go (C := seat) seat_ok ?_)
    | (with_reducible refine BB_true ?_)
    | (with_reducible refine BB_false ?_)
    | (with_reducible refine Both.mk ?_ ?_)
    | (with_reducible refine VS.mk ?_)
    | (refine PSem.go (C := seat) seat_ok ?_)
    | (refine And.intro (PlanOK.mk (by kernel_rfl) rfl (by kernel_rfl) (by kernel_rfl)) ?_)
    | (refine And.intro rfl (Exists.intro _ (And.intro (by first | assumption | rfl) ?_)))
    | (refine And.intro ⟨rfl, rfl, rfl⟩ ?_)
    | (refine call_ro [] (far_z a b) GG_no rfl rfl rfl trivial ?_; rintro r bs' ext ⟨rfl, rfl⟩)
    | (refine call_ro [] (far_z b a) GG_no rfl rfl rfl trivial ?_; rintro r bs' ext ⟨rfl, rfl⟩)
    | (refine call_ro [] (far_z a a) GG_no rfl rfl rfl trivial ?_; rintro r bs' ext ⟨rfl, rfl⟩)
    | (refine call_ro [] (far_z b c) GG_no rfl rfl rfl trivial ?_; rintro r bs' ext ⟨rfl, rfl⟩)
    | (refine call_ro [] (far_z a c) GG_no rfl rfl rfl trivial ?_; rintro r bs' ext ⟨rfl, rfl⟩)
    | (refine call_ro [] (awake_ok) GG_no rfl rfl rfl trivial ?_; rintro r bs' ext ⟨rfl, rfl⟩)
    | (refine call_frz 1 rfl (frz_row (by rfl) (by rfl)) ?_; refine call_ro [] (may_z s [d] _ _ hs2 (by simp) (fun y hy => by rw [List.mem_singleton.1 hy]; show d.fl.length ≤ _; omega)) GG_no rfl rfl rfl trivial ?_; rintro r bs' ext ⟨⟨v, rfl⟩, rfl⟩)
    | (refine call_ro [] (place_r s d _ _ hs2 (by omega) hd1) GG_no rfl rfl rfl trivial ?_; rintro r bs' ext ⟨rfl, rfl⟩)
    | (refine call_ro [] (place_r s ⟨IntKind.u8.wrap (d.node + 1), d.inc, d.age, d.fl⟩ _ _ hs2 (by show d.fl.length ≤ _; omega) (by show 0 ≤ IntKind.u8.wrap (d.node + 1) ∧ IntKind.u8.wrap (d.node + 1) ≤ 255; omega)) GG_no rfl rfl rfl trivial ?_; rintro r bs' ext ⟨rfl, rfl⟩)
    | (refine call_ro [] (far_z (placeI s d) (placeI s ⟨IntKind.u8.wrap (d.node + 1), d.inc, d.age, d.fl⟩)) GG_no rfl rfl rfl trivial ?_; rintro r bs' ext ⟨rfl, rfl⟩)
    | (refine fun (caps : Nat → Nat) hcaps => ?_; conv at hcaps => whnf)
    | (refine And.intro (by decide) ?_)
    | (refine BB.mk (fun _h => ?_) (fun _h => ?_) <;> (first | (exact absurd _h (by decide)) | (exfalso; simp only [boolSet, hpm, hnw, hfm, IntKind.wrap_i64] at _h <;> omega) | (simp only [boolSet, hfm, IntKind.wrap_i64] at _h) | skip))
    | (refine And.intro (by omega) ?_)
    | (refine BB.mk (fun _h => ?_) (fun _h => ?_) <;> (first | (exact absurd _h (by decide)) | (exfalso; simp only [boolSet] at _h <;> omega) | skip)))
  all_goals (try conv => whnf)
  all_goals first
    | exact ⟨_, _, FrzV.refl _ _, rfl, rfl, fun _ => rfl, rfl⟩
    | (exfalso; omega)
    | trace_state
end Go.Proofs.Ytocappiebmmpgaa
