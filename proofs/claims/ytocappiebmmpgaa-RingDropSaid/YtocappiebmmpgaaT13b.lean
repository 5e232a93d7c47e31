/- Of stages 5 and 6: Key. -/
import Derived.Test.YtocappiebmmpgaaDZ
namespace Go.Proofs.Ytocappiebmmpgaa
open Go.RowKit

deriving instance Inhabited for Sp
abbrev spI (a b : Int) : SV := .agg [.v (.int .i32 a), .v (.int .i32 b)]
def atD {α : Type} [Inhabited α] (l : List α) (k : Nat) : α := l.getD k default
theorem atD_some {α : Type} [Inhabited α] {l : List α} {k : Nat} (h : k < l.length) : l[k]? = some (atD l k) := by
  unfold atD
  rw [List.getD_eq_getElem?_getD, List.getElem?_eq_getElem h]; rfl
theorem atC {l : List Sp} {k : Nat} (h : k < l.length) : (l.map spC)[(k : Int).toNat]? = some [.v (.int .i32 (atD l k).f), .v (.int .i32 (atD l k).t)] := by
  rw [Int.toNat_natCast, List.getElem?_map, atD_some h]; rfl
def quarW (ra rb xa xb : Int) : Int :=
  if IntKind.i64.wrap (IntKind.i64.wrap (IntKind.i64.wrap rb - IntKind.i64.wrap ra) + 1) < 1 then 0
  else IntKind.u8.wrap (IntKind.i64.wrap ((IntKind.i64.wrap (4 * IntKind.i64.wrap ((IntKind.i64.wrap (IntKind.i64.wrap xa + IntKind.i64.wrap xb)).fdiv (2 ^ min (1 : Int).toNat IntKind.i64.bits) - IntKind.i64.wrap ra))).tdiv (IntKind.i64.wrap (IntKind.i64.wrap (IntKind.i64.wrap rb - IntKind.i64.wrap ra) + 1))))
def keyW (s g : List Sp) : Nat → Int
  | 0 => 0
  | k + 1 => IntKind.u8.wrap (IntKind.u8.wrap (4 * keyW s g k) + quarW (atD s k).f (atD s k).t (atD g k).f (atD g k).t)
set_option maxRecDepth 100000 in
set_option maxHeartbeats 4000000 in
theorem quar_z (a b c d : Int) : FnOK Try.prog GG 48 [] [spI a b, spI c d] (fun r _ ext => (r = .v (.int .u8 (quarW a b c d))) ∧ ext = []) := by
  refine FnOK.pure GG_no rfl (fn_intro (C := seat) seat_ok [] GG_no (Try.func48) rfl rfl rfl rfl rfl ?_)
  repeat' ((try conv => whnf); first
    | (with_reducible refine OKv.go (C := seat) seat_ok ?_)
    | (with_reducible refine BB_true ?_)
    | (with_reducible refine BB_false ?_)
    | (with_reducible refine Both.mk ?_ ?_)
    | (with_reducible refine VS.mk ?_)
    | (refine PSem.go (C := seat) seat_ok ?_)
    | (refine And.intro (PlanOK.mk (by kernel_rfl) rfl (by kernel_rfl) (by kernel_rfl)) ?_)
    | (refine And.intro rfl (Exists.intro _ (And.intro (by first | assumption | rfl) ?_)))
    | (refine And.intro ⟨rfl, rfl, rfl⟩ ?_)
    | (refine BB.mk (fun _h => ?_) (fun _h => ?_) <;> (first | (exact absurd _h (by decide)) | (exfalso; simp only [boolSet] at _h <;> omega) | (simp only [boolSet] at _h) | skip))
    | (refine And.intro (by omega) ?_)
    | (refine BB.mk (fun _h => ?_) (fun _h => ?_) <;> (first | (exact absurd _h (by decide)) | (exfalso; simp only [boolSet] at _h <;> omega) | skip)))
  all_goals (try conv => whnf)
  all_goals first
    | exact ⟨_, _, FrzV.refl _ _, rfl, rfl, fun _ => rfl, num_eq (by unfold quarW; rw [if_pos (by assumption)])⟩
    | exact ⟨_, _, FrzV.refl _ _, rfl, rfl, fun _ => rfl, num_eq (by unfold quarW; rw [if_neg (by assumption)])⟩
theorem min_e {a b c d : Nat} (h1 : a = c) (h2 : b = d) : (bif false then (if (b : Int) > (a : Int) then (b : Int) else (a : Int)) else (if (b : Int) < (a : Int) then (b : Int) else (a : Int))) = ((min c d : Nat) : Int) := by
  rw [h1, h2, cond_false]
  split <;> omega
set_option maxRecDepth 100000 in
set_option maxHeartbeats 4000000 in
theorem key_z (l r : List Sp) (ca cb : Nat) (hl : l.length ≤ 9223372036854775807) (hr : r.length ≤ 9223372036854775807) : FnOK Try.prog GG 37 [] [.z 2 (l.map spC) ca, .z 2 (r.map spC) cb] (fun rr _ ext => (rr = .v (.int .u8 (keyW l r (min l.length r.length)))) ∧ ext = []) := by
  have hml : (l.map spC).length = l.length := List.length_map _
  have hmr : (r.map spC).length = r.length := List.length_map _
  refine FnOK.pure GG_no rfl (fn_intro (C := seat) seat_ok [(5, (.of [(0, .take), (1, .take), (2, .take), (3, .take), (4, .take), (5, .take), (6, .take), (7, .take), (8, .take), (9, .take), (10, .do_), (11, .take), (12, .take)]))] GG_no (Try.func37) rfl rfl rfl rfl rfl ?_)
  repeat' ((try conv => whnf); first
    | (with_reducible refine OKv.go (C := seat) seat_ok ?_)
    | (with_reducible refine BB_true ?_)
    | (with_reducible refine BB_false ?_)
    | (with_reducible refine Both.mk ?_ ?_)
    | (with_reducible refine VS.mk ?_)
    | (refine PSem.go (C := seat) seat_ok ?_)
    | (refine And.intro (PlanOK.mk (by kernel_rfl) rfl (by kernel_rfl) (by kernel_rfl)) ?_)
    | (refine And.intro rfl (Exists.intro _ (And.intro (by first | assumption | rfl) ?_)))
    | (refine And.intro ⟨rfl, rfl, rfl⟩ ?_)
    | (refine And.intro (by omega) ?_)
    | (refine BB.mk (fun _h => ?_) (fun _h => ?_) <;> (first | (exact absurd _h (by decide)) | (exfalso; simp only [boolSet] at _h <;> omega) | skip)))
  all_goals (try conv => whnf)
  refine loop_rule (α := Nat) (fun k => k ≤ min l.length r.length) (fun k => { slots := [(0, .z 2 (l.map spC) ca), (1, .z 2 (r.map spC) cb), (5, .v (.int .u8 (keyW l r k))), (11, .v (.int .i64 ((min l.length r.length : Nat) : Int))), (12, .v (.int .i64 (k : Int)))], nt := 29, mem := ⟨GG, [], []⟩ }) (fun k => min l.length r.length - k) 0 (Nat.zero_le _) ⟨⟨[], List.nodup_nil, GG_no, rfl, (SubOld.refl _ rfl), trivial, ⟨.inl rfl, .inl rfl, .inl rfl, .inl (num_eq (min_e hml hmr)), .inl rfl, trivial⟩⟩, rfl⟩ ?_ (fun _ => rfl)
  intro k hk
  refine vc_sound (C := seat) seat_ok (pl := [(5, (.of [(0, .take), (1, .take), (2, .take), (3, .take), (4, .take), (5, .take), (6, .take), (7, .take), (8, .take), (9, .take), (10, .do_), (11, .take), (12, .take)]))]) ?_
  by_cases hlt : k < min l.length r.length
  · have hrow := atC (l := l) (k := k) (by omega)
    have hrow2 := atC (l := r) (k := k) (by omega)
    repeat' ((try conv => whnf); first
      | (with_reducible refine OKv.go (C := seat) seat_ok ?_)
      | (with_reducible refine BB_true ?_)
      | (with_reducible refine BB_false ?_)
      | (with_reducible refine Both.mk ?_ ?_)
      | (with_reducible refine VS.mk ?_)
      | (refine PSem.go (C := seat) seat_ok ?_)
      | (refine And.intro (PlanOK.mk (by kernel_rfl) rfl (by kernel_rfl) (by kernel_rfl)) ?_)
      | (refine And.intro rfl (Exists.intro _ (And.intro (by first | assumption | rfl) ?_)))
      | (refine And.intro ⟨rfl, rfl, rfl⟩ ?_)
      | (refine call_ro [] (quar_z _ _ _ _) GG_no rfl rfl rfl trivial ?_; rintro r bs' ext ⟨rfl, rfl⟩)
      | (refine And.intro ⟨by omega, by simp only [List.length_map]; omega⟩ (Exists.intro _ (And.intro (by first | assumption | rfl) ?_)))
      | (refine BB.mk (fun _h => ?_) (fun _h => ?_) <;> (first | (exact absurd _h (by decide)) | (exfalso; simp only [boolSet, hml, hmr] at _h <;> omega) | (simp only [boolSet, hml, hmr] at _h) | skip))
      | (refine And.intro (by omega) ?_)
      | (refine BB.mk (fun _h => ?_) (fun _h => ?_) <;> (first | (exact absurd _h (by decide)) | (exfalso; simp only [boolSet] at _h <;> omega) | skip)))
    all_goals (try conv => whnf)
    exact ⟨k + 1, by omega, by omega, ⟨⟨[], by decide, GG_no, rfl, SubOld.refl _ rfl, trivial, ⟨.inl rfl, .inl rfl, .inl rfl, .inl rfl, .inl (num_eq (by rw [IntKind.wrap_i64]; omega)), trivial⟩⟩, rfl⟩⟩
  · obtain rfl : k = min l.length r.length := by omega
    repeat' ((try conv => whnf); first
      | (with_reducible refine OKv.go (C := seat) seat_ok ?_)
      | (with_reducible refine BB_true ?_)
      | (with_reducible refine BB_false ?_)
      | (with_reducible refine Both.mk ?_ ?_)
      | (with_reducible refine VS.mk ?_)
      | (refine PSem.go (C := seat) seat_ok ?_)
      | (refine And.intro (PlanOK.mk (by kernel_rfl) rfl (by kernel_rfl) (by kernel_rfl)) ?_)
      | (refine And.intro rfl (Exists.intro _ (And.intro (by first | assumption | rfl) ?_)))
      | (refine And.intro ⟨rfl, rfl, rfl⟩ ?_)
      | (refine BB.mk (fun _h => ?_) (fun _h => ?_) <;> (first | (exact absurd _h (by decide)) | (exfalso; simp only [boolSet, hml, hmr] at _h <;> omega) | (simp only [boolSet, hml, hmr] at _h) | skip))
      | (refine And.intro (by omega) ?_)
      | (refine BB.mk (fun _h => ?_) (fun _h => ?_) <;> (first | (exact absurd _h (by decide)) | (exfalso; simp only [boolSet] at _h <;> omega) | skip)))
    all_goals (try conv => whnf)
    exact ⟨_, _, FrzV.refl _ _, rfl, rfl, fun _ => rfl, rfl⟩
def farI (a b : Int) : Int := IntKind.u16.wrap (b - a)
def placeI (s : List Sp) (d : De) : Int := keyW s d.fl (min s.length d.fl.length) * 256 + d.node
theorem keyW_le (s g : List Sp) : ∀ k, 0 ≤ keyW s g k ∧ keyW s g k ≤ 255
  | 0 => by simp [keyW]
  | k + 1 => by
    unfold keyW
    rw [IntKind.wrap_u8]
    omega
theorem u16_eq {a b : Int} (h : a = b) : SV.v (.int .u16 a) = .v (.int .u16 b) := by rw [h]
theorem or_eq {k n : Int} (hk : 0 ≤ k ∧ k ≤ 255) (hn : 0 ≤ n ∧ n ≤ 255) : IntKind.u16.wrap ((BitVec.ofInt IntKind.u16.bits (IntKind.u16.wrap (IntKind.u16.wrap k * 2 ^ min (8 : Int).toNat IntKind.u16.bits)) ||| BitVec.ofInt IntKind.u16.bits (IntKind.u16.wrap n)).toNat : Int) = k * 256 + n := by
  obtain ⟨a, rfl⟩ := Int.eq_ofNat_of_zero_le hk.1
  obtain ⟨b, rfl⟩ := Int.eq_ofNat_of_zero_le hn.1
  have e0 : (2 : Int) ^ min (8 : Int).toNat IntKind.u16.bits = 256 := rfl
  have e1 : IntKind.u16.wrap (a : Int) = a := by rw [IntKind.wrap_u16]; omega
  have e2 : IntKind.u16.wrap (b : Int) = b := by rw [IntKind.wrap_u16]; omega
  have e3 : IntKind.u16.wrap ((a : Int) * 256) = ((a * 256 : Nat) : Int) := by rw [IntKind.wrap_u16]; omega
  rw [e0, e1, e2, e3]
  have h : (BitVec.ofInt 16 ((a * 256 : Nat) : Int) ||| BitVec.ofInt 16 (b : Int)).toNat = a * 256 + b := by
    rw [BitVec.toNat_or, BitVec.toNat_ofInt, BitVec.toNat_ofInt]
    have h1 : (((a * 256 : Nat) : Int) % ((2 ^ 16 : Nat) : Int)).toNat = a <<< 8 := by rw [Nat.shiftLeft_eq]; omega
    have h2 : ((b : Int) % ((2 ^ 16 : Nat) : Int)).toNat = b := by omega
    rw [h1, h2, ← Nat.shiftLeft_add_eq_or_of_lt (show b < 2 ^ 8 by omega) a, Nat.shiftLeft_eq]
  have hb : IntKind.u16.bits = 16 := rfl
  rw [hb, h, IntKind.wrap_u16]
  omega
set_option maxRecDepth 100000 in
set_option maxHeartbeats 4000000 in
theorem far_z (a b : Int) : FnOK Try.prog GG 17 [] [.v (.int .u16 a), .v (.int .u16 b)] (fun r _ ext => (r = .v (.int .u16 (farI a b))) ∧ ext = []) := by
  refine FnOK.pure GG_no rfl (fn_intro (C := seat) seat_ok [] GG_no (Try.func17) rfl rfl rfl rfl rfl ?_)
  repeat' ((try conv => whnf); first
    | (with_reducible refine OKv.go (C := seat) seat_ok ?_)
    | (with_reducible refine BB_true ?_)
    | (with_reducible refine BB_false ?_)
    | (with_reducible refine Both.mk ?_ ?_)
    | (with_reducible refine VS.mk ?_)
    | (refine PSem.go (C := seat) seat_ok ?_)
    | (refine And.intro (PlanOK.mk (by kernel_rfl) rfl (by kernel_rfl) (by kernel_rfl)) ?_)
    | (refine And.intro rfl (Exists.intro _ (And.intro (by first | assumption | rfl) ?_)))
    | (refine And.intro ⟨rfl, rfl, rfl⟩ ?_)
    | (refine And.intro (by omega) ?_)
    | (refine BB.mk (fun _h => ?_) (fun _h => ?_) <;> (first | (exact absurd _h (by decide)) | (exfalso; simp only [boolSet] at _h <;> omega) | skip)))
  all_goals (try conv => whnf)
  exact ⟨_, _, FrzV.refl _ _, rfl, rfl, fun _ => rfl, rfl⟩
set_option maxRecDepth 100000 in
set_option maxHeartbeats 4000000 in
theorem place_r (s : List Sp) (d : De) (cs c : Nat) (hs : s.length ≤ 9223372036854775807) (hf : d.fl.length ≤ 9223372036854775807) (hn : 0 ≤ d.node ∧ d.node ≤ 255) : FnOK Try.prog GG 15 [] [.z 2 (s.map spC) cs, deS d c] (fun r _ ext => (r = .v (.int .u16 (placeI s d))) ∧ ext = []) := by
  refine FnOK.pure GG_no rfl (fn_intro (C := seat) seat_ok [(1, (.of [(0, .take), (1, .take), (2, .take), (6, .take), (7, .take), (8, .take), (3, .do_), (4, .take), (5, .take), (9, .take), (10, .take)]))] GG_no (Try.func15) rfl rfl rfl rfl rfl ?_)
  repeat' ((try conv => whnf); first
    | (with_reducible refine OKv.go (C := seat) seat_ok ?_)
    | (with_reducible refine BB_true ?_)
    | (with_reducible refine BB_false ?_)
    | (with_reducible refine Both.mk ?_ ?_)
    | (with_reducible refine VS.mk ?_)
    | (refine PSem.go (C := seat) seat_ok ?_)
    | (refine And.intro (PlanOK.mk (by kernel_rfl) rfl (by kernel_rfl) (by kernel_rfl)) ?_)
    | (refine And.intro rfl (Exists.intro _ (And.intro (by first | assumption | rfl) ?_)))
    | (refine And.intro ⟨rfl, rfl, rfl⟩ ?_)
    | (refine call_ro [] (key_z s d.fl _ _ hs (by omega)) GG_no rfl rfl rfl trivial ?_; rintro r bs' ext ⟨rfl, rfl⟩)
    | (refine fun (caps : Nat → Nat) hcaps => ?_; conv at hcaps => whnf)
    | (refine BB.mk (fun _h => ?_) (fun _h => ?_) <;> (first | (exact absurd _h (by decide)) | (exfalso; simp only [boolSet] at _h <;> omega) | (simp only [boolSet] at _h) | skip))
    | (refine And.intro (by omega) ?_)
    | (refine BB.mk (fun _h => ?_) (fun _h => ?_) <;> (first | (exact absurd _h (by decide)) | (exfalso; simp only [boolSet] at _h <;> omega) | skip)))
  all_goals (try conv => whnf)
  all_goals exact ⟨_, _, FrzV.refl _ _, rfl, rfl, fun _ => rfl, u16_eq (or_eq (keyW_le s d.fl _) hn)⟩
end Go.Proofs.Ytocappiebmmpgaa
