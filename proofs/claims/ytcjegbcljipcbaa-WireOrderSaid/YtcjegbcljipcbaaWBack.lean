/- Law WireBack, by computing. -/
import Derived.Test.YtcjegbcljipcbaaWShort
namespace Go.Proofs.Ytcjegbcljipcbaa
open Go.RowKit

theorem ek_of (n : Nat) : (IntKind.i64.wrap (1 + IntKind.i64.wrap ((n : Int).tmod 8))) = ((1 + n % 8 : Nat) : Int) := by
  rw [Int.tmod_eq_emod_of_nonneg (Int.natCast_nonneg _), IntKind.wrap_i64, IntKind.wrap_i64]
  omega
theorem app_h (A B : List Nat) {m : Nat} (hm : m = B.length) : ((A.map bN ++ ((B.map bN).drop 0).take m).drop 0).take (A.length + m) = (A ++ B).map bN := by
  subst hm
  rw [all_row, List.drop_zero, ← List.map_append, List.take_of_length_le (by rw [List.length_map, List.length_append]; omega)]
theorem app_len (A B : List Nat) {m : Nat} (hm : m = B.length) : 0 + (A.length + m) ≤ (A.map bN ++ ((B.map bN).drop 0).take m).length := by
  subst hm
  rw [all_row, List.length_append, List.length_map, List.length_map]; omega
theorem pow256 {K : Nat} : 2 ^ (8 * K) = 256 ^ K := by rw [Nat.pow_mul]
theorem putB_full {l : List Nat} {K : Nat} (hl : ∀ y ∈ l, y < 256) (hK : K ≤ l.length) : putB (takeN (l.take K)) K = l.take K := by
  have := put_take (l.take K) (fun y hy => hl y (List.mem_of_mem_take hy))
  rwa [List.length_take, Nat.min_eq_left hK] at this
theorem take_app {x K : Nat} (r : List Nat) : takeN ((putB x K ++ r).take K) = x % 256 ^ K := by
  rw [List.take_append_of_le_length (by rw [putB_len]; omega), List.take_of_length_le (by rw [putB_len]; omega), take_put]
theorem drop_app {x K : Nat} (r : List Nat) : (putB x K ++ r).drop K = r := by
  have := List.drop_left (l₁ := putB x K) (l₂ := r)
  rwa [putB_len] at this
theorem text_app {s r : List Nat} (hs : s.length ≤ 300) {m : Int} (hm : 300 ≤ m) : textT (putText [] s ++ r) m = (s, r, true) := by
  have e : putText [] s = putB s.length 2 ++ s := by rw [putText, if_pos (by omega)]; rfl
  have e1 : takeN ((putText [] s ++ r).take 2) = s.length := by
    rw [e, List.append_assoc, take_app, Nat.mod_eq_of_lt (by omega)]
  have e2 : (putText [] s ++ r).drop 2 = s ++ r := by rw [e, List.append_assoc, drop_app]
  have e3 : (putText [] s ++ r).length = 2 + s.length + r.length := by rw [e, List.length_append, List.length_append, putB_len]
  rw [textT, e1, if_pos ⟨by omega, by omega, by omega⟩, ← List.drop_drop, e2, List.take_left, List.drop_left]
theorem text_put {l : List Nat} (hl : ∀ y ∈ l, y < 256) {z : Nat} (hz : takeN (l.take 2) = z) (h : z + 2 ≤ l.length) : putText [] ((l.drop 2).take z) = l.take (2 + z) := by
  have h1 : z < 65536 := by
    have := takeN_lt (l.take 2) (fun y hy => hl y (List.mem_of_mem_take hy))
    rw [hz, List.length_take, Nat.min_eq_left (by omega)] at this
    exact this
  have h2 : ((l.drop 2).take z).length = z := by rw [List.length_take, List.length_drop]; omega
  rw [putText, if_pos (by omega), h2, ← hz, putB_full hl (by omega), hz, List.nil_append]
  have := List.take_add (l := l) (i := 2) (j := z)
  rw [this]
theorem nil_h (g : List Nat) : (([] ++ ((g.map bN).drop 0).take g.length).drop 0).take (0 + g.length) = g.map bN := by rw [List.nil_append, all_row, Nat.zero_add, all_row]
theorem nil_len (g : List Nat) : 0 + (0 + g.length) ≤ ([] ++ ((g.map bN).drop 0).take g.length).length := by rw [List.nil_append, all_row, List.length_map]; omega
theorem e8_of {n K : Nat} (ek : (IntKind.i64.wrap (1 + IntKind.i64.wrap ((n : Int).tmod 8))) = (K : Int)) (hK : K < 8) : IntKind.u64.wrap (1 * 2 ^ min (IntKind.i64.wrap (8 * (IntKind.i64.wrap (1 + IntKind.i64.wrap ((n : Int).tmod 8))))).toNat IntKind.u64.bits) = ((256 ^ K : Nat) : Int) := by
  rw [ek, show (IntKind.i64.wrap (8 * (K : Int))).toNat = 8 * K by rw [IntKind.wrap_i64]; omega, show min (8 * K) IntKind.u64.bits = 8 * K from Nat.min_eq_left (by show _ ≤ 64; omega), ← pow256]
  have h : 2 ^ (8 * K) < 2 ^ 64 := Nat.pow_lt_pow_right (by decide) (by omega)
  rw [IntKind.wrap_u64, Int.one_mul]
  have e : (2 : Int) ^ (8 * K) = ((2 ^ (8 * K) : Nat) : Int) := by push_cast; rfl
  rw [e]
  generalize 2 ^ (8 * K) = m at h
  omega
theorem tmod_nat (x m : Nat) : (x : Int).tmod (m : Int) = ((x % m : Nat) : Int) := by
  rw [Int.tmod_eq_emod_of_nonneg (Int.natCast_nonneg _)]; rfl
set_option maxRecDepth 100000 in
set_option maxHeartbeats 4000000 in
theorem wireBack_111 (x n : Nat) (s g b : List Nat) (c1 c2 c3 : Nat) (hx : x < 2 ^ 64) (hn : n ≤ 255) (hs8 : ∀ y ∈ s, y < 256) (hg8 : ∀ y ∈ g, y < 256) (hb8 : ∀ y ∈ b, y < 256) (hc3 : b.length ≤ c3) (hl1 : s.length ≤ 300) (hl2 : g.length ≤ 100) (hl3 : b.length ≤ 200) (K : Nat) (hK1 : 1 ≤ K) (hK2 : K ≤ 8) (ek : (IntKind.i64.wrap (1 + IntKind.i64.wrap ((n : Int).tmod 8))) = (K : Int)) (hk8 : K < 8) (hav : K ≤ b.length) (z : Nat) (hz : takeN (b.take 2) = z) (hbv : 2 ≤ b.length ∧ z + 2 ≤ b.length) : FnOK Try.prog GG 4 [.ro 1 (s.map bN), .ro 1 (g.map bN), .ro 1 (b.map bN)] [.v (.int .u64 x), .v (.int .u8 n), .s (.o 0) 1 0 s.length c1, .s (.o 1) 1 0 g.length c2, .s (.o 2) 1 0 b.length c3] (fun r _ ext => r = .v (.bool true) ∧ ext = []) := by
  have hPK : (putB x K).length = K := putB_len x K
  have hput : ∀ y, putT [] y (IntKind.i64.wrap (1 + IntKind.i64.wrap ((n : Int).tmod 8))) = putB y K := fun y => by rw [ek, putT, if_pos ⟨by omega, by omega⟩]; rfl
  have hT1 : takeT (putB x K ++ g) (IntKind.i64.wrap (1 + IntKind.i64.wrap ((n : Int).tmod 8))) = (x % 256 ^ K, g, true) := by
    rw [ek, takeT, if_pos ⟨by omega, by omega, by rw [List.length_append, hPK]; omega⟩, Int.toNat_natCast, take_app, drop_app]
  have hL1 : (putB x K).length + g.length ≤ 108 := by omega
  have hsp : (putText [] s).length ≤ 302 := by
    rw [putText, if_pos (by omega), List.length_append, List.length_append, putB_len]; show 0 + 2 + s.length ≤ 302; omega
  have hT2 := text_app (r := g) hl1 (show (300 : Int) ≤ 300 by decide)
  have hbP : ∀ y ∈ putB x K ++ g, y < 256 := fun y hy => by
    rcases List.mem_append.1 hy with h | h
    · exact putB_byte _ _ y h
    · exact hg8 y h
  have hbT : ∀ y ∈ putText [] s ++ g, y < 256 := fun y hy => by
    rcases List.mem_append.1 hy with h | h
    · exact putText_byte (by simp) hs8 y h
    · exact hg8 y h
  have e8 := e8_of ek hk8
  have e8z : 0 ≤ IntKind.i64.wrap (8 * (IntKind.i64.wrap (1 + IntKind.i64.wrap ((n : Int).tmod 8)))) := by rw [ek, IntKind.wrap_i64]; omega
  have e8n : IntKind.u64.wrap (1 * 2 ^ min (IntKind.i64.wrap (8 * (IntKind.i64.wrap (1 + IntKind.i64.wrap ((n : Int).tmod 8))))).toNat IntKind.u64.bits) ≠ 0 := by rw [e8]; have := Nat.pow_pos (n := K) (show 0 < 256 by decide); omega
  have hw : (((x % 256 ^ K : Nat) : Int) != (x : Int).tmod (IntKind.u64.wrap (1 * 2 ^ min (IntKind.i64.wrap (8 * (IntKind.i64.wrap (1 + IntKind.i64.wrap ((n : Int).tmod 8))))).toNat IntKind.u64.bits))) = false := by rw [e8, tmod_nat]; simp
  have hA : takeT b (IntKind.i64.wrap (1 + IntKind.i64.wrap ((n : Int).tmod 8))) = (takeN (b.take K), b.drop K, true) := by rw [ek, takeT, if_pos ⟨by omega, by omega, by omega⟩, Int.toNat_natCast]
  have hPA : putT [] (takeN (b.take K)) (IntKind.i64.wrap (1 + IntKind.i64.wrap ((n : Int).tmod 8))) = b.take K := by rw [hput, putB_full hb8 hav]
  have hzA : takeN (b.take K) < 2 ^ 64 := by
    have h1 := takeN_lt (b.take K) (fun x hx => hb8 x (List.mem_of_mem_take hx))
    have h2 : 256 ^ (b.take K).length ≤ 256 ^ 8 := Nat.pow_le_pow_right (by decide) (by rw [List.length_take]; omega)
    exact Nat.lt_of_lt_of_le h1 h2
  have hcA : b.take K ++ b.drop K = b := List.take_append_drop K b
  have hlA : (b.take K).length = K := by rw [List.length_take]; omega
  have hlA2 : (b.drop K).length ≤ 200 := by rw [List.length_drop]; omega
  have hz6 : z < 256 ^ 2 := by
    have := takeN_lt (b.take 2) (fun y hy => hb8 y (List.mem_of_mem_take hy))
    rwa [hz, List.length_take, Nat.min_eq_left (by omega)] at this
  have hB : textT b 65535 = ((b.drop 2).take z, b.drop (2 + z), true) := by
    rw [textT, hz, if_pos ⟨by omega, by omega, by omega⟩]
  have hPB : putText [] ((b.drop 2).take z) = b.take (2 + z) := text_put hb8 hz (by omega)
  have hcB : b.take (2 + z) ++ b.drop (2 + z) = b := List.take_append_drop (2 + z) b
  have hlB : (b.take (2 + z)).length ≤ 200 := by rw [List.length_take]; omega
  have hlB2 : (b.drop (2 + z)).length ≤ 200 := by rw [List.length_drop]; omega
  have hlB3 : ((b.drop 2).take z).length ≤ 200 := by rw [List.length_take, List.length_drop]; omega
  refine fn_val (C := seat) seat_ok [] GG_no (Try.func4) rfl rfl rfl rfl rfl (fun _ => rfl) rfl ?_
  repeat' ((try conv => whnf); first
    | (with_reducible refine BB_true ?_)
    | (with_reducible refine BB_false ?_)
    | (with_reducible refine Both.mk ?_ ?_)
    | (with_reducible refine VS.mk ?_)
    | (refine PSem.go (C := seat) seat_ok ?_)
    | (refine And.intro (PlanOK.mk (by kernel_rfl) rfl (by kernel_rfl) (by kernel_rfl)) ?_)
    | (refine And.intro rfl (Exists.intro _ (And.intro (by first | assumption | rfl) ?_)))
    | (refine And.intro ⟨rfl, rfl, rfl⟩ ?_)
    | (refine call_roN [.g 0] (put_is [] [] 0 0 0 x x _ rfl rfl (by decide) (by decide) hx (putB x K) (hput x)) GG_no rfl rfl ⟨.inr ⟨_, _, _, rfl, rfl⟩, .inl rfl, .inl rfl, trivial⟩ ⟨.inr ⟨rfl, _, rfl⟩, trivial⟩ ?_; rintro r bs' ext ⟨cp, hcp, rfl, rfl⟩)
    | (refine call_ro [_] (take_is (putB x K ++ g) _ 0 _ _ _ (app_h _ g rfl) (app_len _ g rfl) hcap' (by omega) hbP (x % 256 ^ K, g, true) hT1) GG_no rfl rfl rfl ⟨⟨_, rfl, rfl, rfl⟩, trivial⟩ ?_; rintro r bs' ext ⟨ct, hct, rfl, rfl⟩)
    | (refine call_roN [.g 0, .o 0] (putText_is [] s [] _ 0 0 0 0 _ _ rfl (by decide) (all_row _) (all_len _) (by decide) (by omega) (putText [] s) rfl) GG_no rfl rfl ⟨.inr ⟨_, _, _, rfl, rfl⟩, .inl rfl, trivial⟩ ⟨.inr ⟨rfl, _, rfl⟩, .inl ⟨_, rfl, rfl, rfl⟩, trivial⟩ ?_; rintro r bs' ext ⟨cq, hcq, rfl, rfl⟩)
    | (refine call_ro [_] (takeText_is (putText [] s ++ g) _ 0 _ _ _ (app_h _ g rfl) (app_len _ g rfl) hcap' (by omega) hbT (s, g, true) hT2) GG_no rfl rfl rfl ⟨⟨_, rfl, rfl, rfl⟩, trivial⟩ ?_; rintro r bs' ext ⟨cu, cv, hcu, hcv, rfl, rfl⟩)
    | (refine call_ro [.o 2] (take_is b _ 0 _ _ _ (all_row b) (all_len b) hc3 (by omega) hb8 (takeN (b.take K), b.drop K, true) hA) GG_no rfl rfl rfl ⟨⟨_, rfl, rfl, rfl⟩, trivial⟩ ?_; rintro r bs' ext ⟨cw, hcw, rfl, rfl⟩)
    | (refine call_ro [.o 2] (takeText_is b _ 0 _ _ _ (all_row b) (all_len b) hc3 (by omega) hb8 ((b.drop 2).take z, b.drop (2 + z), true) hB) GG_no rfl rfl rfl ⟨⟨_, rfl, rfl, rfl⟩, trivial⟩ ?_; rintro r bs' ext ⟨cx, cy, hcx, hcy, rfl, rfl⟩)
    | (refine call_roN [.g 0] (put_is [] [] 0 0 0 (takeN (b.take K)) (takeN (b.take K)) _ rfl rfl (by decide) (by decide) hzA (b.take K) hPA) GG_no rfl rfl ⟨.inr ⟨_, _, _, rfl, rfl⟩, .inl rfl, .inl rfl, trivial⟩ ⟨.inr ⟨rfl, _, rfl⟩, trivial⟩ ?_; rintro r bs' ext ⟨cz, hcz, rfl, rfl⟩)
    | (refine call_ro [_, _] (same_is b b _ _ 0 0 _ _ _ _ true hb8 hb8 ((app_h (b.take K) (b.drop K) rfl).trans (by rw [hcA])) (all_row b) (app_len (b.take K) (b.drop K) rfl) (all_len b) (decide_eq_true rfl)) GG_no rfl rfl rfl ⟨⟨_, rfl, rfl, rfl⟩, ⟨_, rfl, rfl, rfl⟩, trivial⟩ ?_; rintro r bs' ext ⟨rfl, rfl⟩)
    | (refine call_roN [.g 0, _] (putText_is [] ((b.drop 2).take z) [] _ 0 0 0 0 _ _ rfl (by decide) (all_row _) (all_len _) (by decide) (by omega) (b.take (2 + z)) hPB) GG_no rfl rfl ⟨.inr ⟨_, _, _, rfl, rfl⟩, .inl rfl, trivial⟩ ⟨.inr ⟨rfl, _, rfl⟩, .inl ⟨_, rfl, rfl, rfl⟩, trivial⟩ ?_; rintro r bs' ext ⟨da, hda, rfl, rfl⟩)
    | (refine call_ro [_, _] (same_is b b _ _ 0 0 _ _ _ _ true hb8 hb8 ((app_h (b.take (2 + z)) (b.drop (2 + z)) rfl).trans (by rw [hcB])) (all_row b) (app_len (b.take (2 + z)) (b.drop (2 + z)) rfl) (all_len b) (decide_eq_true rfl)) GG_no rfl rfl rfl ⟨⟨_, rfl, rfl, rfl⟩, ⟨_, rfl, rfl, rfl⟩, trivial⟩ ?_; rintro r bs' ext ⟨rfl, rfl⟩)
    | (refine call_ro [_, _] (same_all g _ _ hg8) GG_no rfl rfl rfl ⟨⟨_, rfl, rfl, rfl⟩, ⟨_, rfl, rfl, rfl⟩, trivial⟩ ?_; rintro r bs' ext ⟨rfl, rfl⟩)
    | (refine call_ro [_, _] (same_all s _ _ hs8) GG_no rfl rfl rfl ⟨⟨_, rfl, rfl, rfl⟩, ⟨_, rfl, rfl, rfl⟩, trivial⟩ ?_; rintro r bs' ext ⟨rfl, rfl⟩)
    | (refine call_ro [_, _] (same_is g g _ _ 0 0 _ _ _ _ true hg8 hg8 (all_row g) (nil_h g) (all_len g) (nil_len g) (decide_eq_true rfl)) GG_no rfl rfl rfl ⟨⟨_, rfl, rfl, rfl⟩, ⟨_, rfl, rfl, rfl⟩, trivial⟩ ?_; rintro r bs' ext ⟨rfl, rfl⟩)
    | (refine call_ro [] (awake_ok) GG_no rfl rfl rfl trivial ?_; rintro r bs' ext ⟨rfl, rfl⟩)
    | (refine And.intro ⟨rfl, rfl, rfl, rfl⟩ ?_)
    | (refine And.intro ⟨rfl, rfl, rfl, by rw [List.length_map]⟩ ?_)
    | (refine And.intro ⟨rfl, by rw [List.length_map]; omega⟩ ?_)
    | (refine And.intro e8z ?_)
    | (refine And.intro e8n ?_)
    | (refine And.intro (by first | omega | (dsimp only; omega)) ?_)
    | (intro cap' hcap')
    | (refine And.intro (by omega) ?_)
    | (refine BB.mk (fun _h => ?_) (fun _h => ?_) <;> (first | (exact absurd _h (by decide)) | (exfalso; simp only [ek, hw, boolSet] at _h <;> omega) | skip)))
  all_goals (try conv => whnf)
  all_goals first
    | exact Fin.mk ⟨rfl, rfl⟩
    | (exfalso; exact absurd (hw.symm.trans _h) (by decide))
set_option maxRecDepth 100000 in
set_option maxHeartbeats 4000000 in
theorem wireBack_110 (x n : Nat) (s g b : List Nat) (c1 c2 c3 : Nat) (hx : x < 2 ^ 64) (hn : n ≤ 255) (hs8 : ∀ y ∈ s, y < 256) (hg8 : ∀ y ∈ g, y < 256) (hb8 : ∀ y ∈ b, y < 256) (hc3 : b.length ≤ c3) (hl1 : s.length ≤ 300) (hl2 : g.length ≤ 100) (hl3 : b.length ≤ 200) (K : Nat) (hK1 : 1 ≤ K) (hK2 : K ≤ 8) (ek : (IntKind.i64.wrap (1 + IntKind.i64.wrap ((n : Int).tmod 8))) = (K : Int)) (hk8 : K < 8) (hav : K ≤ b.length) (hbv : ¬ (2 ≤ b.length ∧ takeN (b.take 2) + 2 ≤ b.length)) : FnOK Try.prog GG 4 [.ro 1 (s.map bN), .ro 1 (g.map bN), .ro 1 (b.map bN)] [.v (.int .u64 x), .v (.int .u8 n), .s (.o 0) 1 0 s.length c1, .s (.o 1) 1 0 g.length c2, .s (.o 2) 1 0 b.length c3] (fun r _ ext => r = .v (.bool true) ∧ ext = []) := by
  have hPK : (putB x K).length = K := putB_len x K
  have hput : ∀ y, putT [] y (IntKind.i64.wrap (1 + IntKind.i64.wrap ((n : Int).tmod 8))) = putB y K := fun y => by rw [ek, putT, if_pos ⟨by omega, by omega⟩]; rfl
  have hT1 : takeT (putB x K ++ g) (IntKind.i64.wrap (1 + IntKind.i64.wrap ((n : Int).tmod 8))) = (x % 256 ^ K, g, true) := by
    rw [ek, takeT, if_pos ⟨by omega, by omega, by rw [List.length_append, hPK]; omega⟩, Int.toNat_natCast, take_app, drop_app]
  have hL1 : (putB x K).length + g.length ≤ 108 := by omega
  have hsp : (putText [] s).length ≤ 302 := by
    rw [putText, if_pos (by omega), List.length_append, List.length_append, putB_len]; show 0 + 2 + s.length ≤ 302; omega
  have hT2 := text_app (r := g) hl1 (show (300 : Int) ≤ 300 by decide)
  have hbP : ∀ y ∈ putB x K ++ g, y < 256 := fun y hy => by
    rcases List.mem_append.1 hy with h | h
    · exact putB_byte _ _ y h
    · exact hg8 y h
  have hbT : ∀ y ∈ putText [] s ++ g, y < 256 := fun y hy => by
    rcases List.mem_append.1 hy with h | h
    · exact putText_byte (by simp) hs8 y h
    · exact hg8 y h
  have e8 := e8_of ek hk8
  have e8z : 0 ≤ IntKind.i64.wrap (8 * (IntKind.i64.wrap (1 + IntKind.i64.wrap ((n : Int).tmod 8)))) := by rw [ek, IntKind.wrap_i64]; omega
  have e8n : IntKind.u64.wrap (1 * 2 ^ min (IntKind.i64.wrap (8 * (IntKind.i64.wrap (1 + IntKind.i64.wrap ((n : Int).tmod 8))))).toNat IntKind.u64.bits) ≠ 0 := by rw [e8]; have := Nat.pow_pos (n := K) (show 0 < 256 by decide); omega
  have hw : (((x % 256 ^ K : Nat) : Int) != (x : Int).tmod (IntKind.u64.wrap (1 * 2 ^ min (IntKind.i64.wrap (8 * (IntKind.i64.wrap (1 + IntKind.i64.wrap ((n : Int).tmod 8))))).toNat IntKind.u64.bits))) = false := by rw [e8, tmod_nat]; simp
  have hA : takeT b (IntKind.i64.wrap (1 + IntKind.i64.wrap ((n : Int).tmod 8))) = (takeN (b.take K), b.drop K, true) := by rw [ek, takeT, if_pos ⟨by omega, by omega, by omega⟩, Int.toNat_natCast]
  have hPA : putT [] (takeN (b.take K)) (IntKind.i64.wrap (1 + IntKind.i64.wrap ((n : Int).tmod 8))) = b.take K := by rw [hput, putB_full hb8 hav]
  have hzA : takeN (b.take K) < 2 ^ 64 := by
    have h1 := takeN_lt (b.take K) (fun x hx => hb8 x (List.mem_of_mem_take hx))
    have h2 : 256 ^ (b.take K).length ≤ 256 ^ 8 := Nat.pow_le_pow_right (by decide) (by rw [List.length_take]; omega)
    exact Nat.lt_of_lt_of_le h1 h2
  have hcA : b.take K ++ b.drop K = b := List.take_append_drop K b
  have hlA : (b.take K).length = K := by rw [List.length_take]; omega
  have hlA2 : (b.drop K).length ≤ 200 := by rw [List.length_drop]; omega
  have hB : textT b 65535 = ([], [], false) := by rw [textT, if_neg (by omega)]
  refine fn_val (C := seat) seat_ok [] GG_no (Try.func4) rfl rfl rfl rfl rfl (fun _ => rfl) rfl ?_
  repeat' ((try conv => whnf); first
    | (with_reducible refine BB_true ?_)
    | (with_reducible refine BB_false ?_)
    | (with_reducible refine Both.mk ?_ ?_)
    | (with_reducible refine VS.mk ?_)
    | (refine PSem.go (C := seat) seat_ok ?_)
    | (refine And.intro (PlanOK.mk (by kernel_rfl) rfl (by kernel_rfl) (by kernel_rfl)) ?_)
    | (refine And.intro rfl (Exists.intro _ (And.intro (by first | assumption | rfl) ?_)))
    | (refine And.intro ⟨rfl, rfl, rfl⟩ ?_)
    | (refine call_roN [.g 0] (put_is [] [] 0 0 0 x x _ rfl rfl (by decide) (by decide) hx (putB x K) (hput x)) GG_no rfl rfl ⟨.inr ⟨_, _, _, rfl, rfl⟩, .inl rfl, .inl rfl, trivial⟩ ⟨.inr ⟨rfl, _, rfl⟩, trivial⟩ ?_; rintro r bs' ext ⟨cp, hcp, rfl, rfl⟩)
    | (refine call_ro [_] (take_is (putB x K ++ g) _ 0 _ _ _ (app_h _ g rfl) (app_len _ g rfl) hcap' (by omega) hbP (x % 256 ^ K, g, true) hT1) GG_no rfl rfl rfl ⟨⟨_, rfl, rfl, rfl⟩, trivial⟩ ?_; rintro r bs' ext ⟨ct, hct, rfl, rfl⟩)
    | (refine call_roN [.g 0, .o 0] (putText_is [] s [] _ 0 0 0 0 _ _ rfl (by decide) (all_row _) (all_len _) (by decide) (by omega) (putText [] s) rfl) GG_no rfl rfl ⟨.inr ⟨_, _, _, rfl, rfl⟩, .inl rfl, trivial⟩ ⟨.inr ⟨rfl, _, rfl⟩, .inl ⟨_, rfl, rfl, rfl⟩, trivial⟩ ?_; rintro r bs' ext ⟨cq, hcq, rfl, rfl⟩)
    | (refine call_ro [_] (takeText_is (putText [] s ++ g) _ 0 _ _ _ (app_h _ g rfl) (app_len _ g rfl) hcap' (by omega) hbT (s, g, true) hT2) GG_no rfl rfl rfl ⟨⟨_, rfl, rfl, rfl⟩, trivial⟩ ?_; rintro r bs' ext ⟨cu, cv, hcu, hcv, rfl, rfl⟩)
    | (refine call_ro [.o 2] (take_is b _ 0 _ _ _ (all_row b) (all_len b) hc3 (by omega) hb8 (takeN (b.take K), b.drop K, true) hA) GG_no rfl rfl rfl ⟨⟨_, rfl, rfl, rfl⟩, trivial⟩ ?_; rintro r bs' ext ⟨cw, hcw, rfl, rfl⟩)
    | (refine call_ro [.o 2] (takeText_is b _ 0 _ _ _ (all_row b) (all_len b) hc3 (by omega) hb8 ([], [], false) hB) GG_no rfl rfl rfl ⟨⟨_, rfl, rfl, rfl⟩, trivial⟩ ?_; rintro r bs' ext ⟨cx, cy, hcx, hcy, rfl, rfl⟩)
    | (refine call_roN [.g 0] (put_is [] [] 0 0 0 (takeN (b.take K)) (takeN (b.take K)) _ rfl rfl (by decide) (by decide) hzA (b.take K) hPA) GG_no rfl rfl ⟨.inr ⟨_, _, _, rfl, rfl⟩, .inl rfl, .inl rfl, trivial⟩ ⟨.inr ⟨rfl, _, rfl⟩, trivial⟩ ?_; rintro r bs' ext ⟨cz, hcz, rfl, rfl⟩)
    | (refine call_ro [_, _] (same_is b b _ _ 0 0 _ _ _ _ true hb8 hb8 ((app_h (b.take K) (b.drop K) rfl).trans (by rw [hcA])) (all_row b) (app_len (b.take K) (b.drop K) rfl) (all_len b) (decide_eq_true rfl)) GG_no rfl rfl rfl ⟨⟨_, rfl, rfl, rfl⟩, ⟨_, rfl, rfl, rfl⟩, trivial⟩ ?_; rintro r bs' ext ⟨rfl, rfl⟩)
    | (refine call_ro [_, _] (same_all g _ _ hg8) GG_no rfl rfl rfl ⟨⟨_, rfl, rfl, rfl⟩, ⟨_, rfl, rfl, rfl⟩, trivial⟩ ?_; rintro r bs' ext ⟨rfl, rfl⟩)
    | (refine call_ro [_, _] (same_all s _ _ hs8) GG_no rfl rfl rfl ⟨⟨_, rfl, rfl, rfl⟩, ⟨_, rfl, rfl, rfl⟩, trivial⟩ ?_; rintro r bs' ext ⟨rfl, rfl⟩)
    | (refine call_ro [_, _] (same_is g g _ _ 0 0 _ _ _ _ true hg8 hg8 (all_row g) (nil_h g) (all_len g) (nil_len g) (decide_eq_true rfl)) GG_no rfl rfl rfl ⟨⟨_, rfl, rfl, rfl⟩, ⟨_, rfl, rfl, rfl⟩, trivial⟩ ?_; rintro r bs' ext ⟨rfl, rfl⟩)
    | (refine call_ro [] (awake_ok) GG_no rfl rfl rfl trivial ?_; rintro r bs' ext ⟨rfl, rfl⟩)
    | (refine And.intro ⟨rfl, rfl, rfl, rfl⟩ ?_)
    | (refine And.intro ⟨rfl, rfl, rfl, by rw [List.length_map]⟩ ?_)
    | (refine And.intro ⟨rfl, by rw [List.length_map]; omega⟩ ?_)
    | (refine And.intro e8z ?_)
    | (refine And.intro e8n ?_)
    | (refine And.intro (by first | omega | (dsimp only; omega)) ?_)
    | (intro cap' hcap')
    | (refine And.intro (by omega) ?_)
    | (refine BB.mk (fun _h => ?_) (fun _h => ?_) <;> (first | (exact absurd _h (by decide)) | (exfalso; simp only [ek, hw, boolSet] at _h <;> omega) | skip)))
  all_goals (try conv => whnf)
  all_goals first
    | exact Fin.mk ⟨rfl, rfl⟩
    | (exfalso; exact absurd (hw.symm.trans _h) (by decide))
set_option maxRecDepth 100000 in
set_option maxHeartbeats 4000000 in
theorem wireBack_101 (x n : Nat) (s g b : List Nat) (c1 c2 c3 : Nat) (hx : x < 2 ^ 64) (hn : n ≤ 255) (hs8 : ∀ y ∈ s, y < 256) (hg8 : ∀ y ∈ g, y < 256) (hb8 : ∀ y ∈ b, y < 256) (hc3 : b.length ≤ c3) (hl1 : s.length ≤ 300) (hl2 : g.length ≤ 100) (hl3 : b.length ≤ 200) (K : Nat) (hK1 : 1 ≤ K) (hK2 : K ≤ 8) (ek : (IntKind.i64.wrap (1 + IntKind.i64.wrap ((n : Int).tmod 8))) = (K : Int)) (hk8 : K < 8) (hav : ¬ K ≤ b.length) (z : Nat) (hz : takeN (b.take 2) = z) (hbv : 2 ≤ b.length ∧ z + 2 ≤ b.length) : FnOK Try.prog GG 4 [.ro 1 (s.map bN), .ro 1 (g.map bN), .ro 1 (b.map bN)] [.v (.int .u64 x), .v (.int .u8 n), .s (.o 0) 1 0 s.length c1, .s (.o 1) 1 0 g.length c2, .s (.o 2) 1 0 b.length c3] (fun r _ ext => r = .v (.bool true) ∧ ext = []) := by
  have hPK : (putB x K).length = K := putB_len x K
  have hput : ∀ y, putT [] y (IntKind.i64.wrap (1 + IntKind.i64.wrap ((n : Int).tmod 8))) = putB y K := fun y => by rw [ek, putT, if_pos ⟨by omega, by omega⟩]; rfl
  have hT1 : takeT (putB x K ++ g) (IntKind.i64.wrap (1 + IntKind.i64.wrap ((n : Int).tmod 8))) = (x % 256 ^ K, g, true) := by
    rw [ek, takeT, if_pos ⟨by omega, by omega, by rw [List.length_append, hPK]; omega⟩, Int.toNat_natCast, take_app, drop_app]
  have hL1 : (putB x K).length + g.length ≤ 108 := by omega
  have hsp : (putText [] s).length ≤ 302 := by
    rw [putText, if_pos (by omega), List.length_append, List.length_append, putB_len]; show 0 + 2 + s.length ≤ 302; omega
  have hT2 := text_app (r := g) hl1 (show (300 : Int) ≤ 300 by decide)
  have hbP : ∀ y ∈ putB x K ++ g, y < 256 := fun y hy => by
    rcases List.mem_append.1 hy with h | h
    · exact putB_byte _ _ y h
    · exact hg8 y h
  have hbT : ∀ y ∈ putText [] s ++ g, y < 256 := fun y hy => by
    rcases List.mem_append.1 hy with h | h
    · exact putText_byte (by simp) hs8 y h
    · exact hg8 y h
  have e8 := e8_of ek hk8
  have e8z : 0 ≤ IntKind.i64.wrap (8 * (IntKind.i64.wrap (1 + IntKind.i64.wrap ((n : Int).tmod 8)))) := by rw [ek, IntKind.wrap_i64]; omega
  have e8n : IntKind.u64.wrap (1 * 2 ^ min (IntKind.i64.wrap (8 * (IntKind.i64.wrap (1 + IntKind.i64.wrap ((n : Int).tmod 8))))).toNat IntKind.u64.bits) ≠ 0 := by rw [e8]; have := Nat.pow_pos (n := K) (show 0 < 256 by decide); omega
  have hw : (((x % 256 ^ K : Nat) : Int) != (x : Int).tmod (IntKind.u64.wrap (1 * 2 ^ min (IntKind.i64.wrap (8 * (IntKind.i64.wrap (1 + IntKind.i64.wrap ((n : Int).tmod 8))))).toNat IntKind.u64.bits))) = false := by rw [e8, tmod_nat]; simp
  have hA : takeT b (IntKind.i64.wrap (1 + IntKind.i64.wrap ((n : Int).tmod 8))) = (0, [], false) := by rw [ek, takeT, if_neg (by omega)]
  have hz6 : z < 256 ^ 2 := by
    have := takeN_lt (b.take 2) (fun y hy => hb8 y (List.mem_of_mem_take hy))
    rwa [hz, List.length_take, Nat.min_eq_left (by omega)] at this
  have hB : textT b 65535 = ((b.drop 2).take z, b.drop (2 + z), true) := by
    rw [textT, hz, if_pos ⟨by omega, by omega, by omega⟩]
  have hPB : putText [] ((b.drop 2).take z) = b.take (2 + z) := text_put hb8 hz (by omega)
  have hcB : b.take (2 + z) ++ b.drop (2 + z) = b := List.take_append_drop (2 + z) b
  have hlB : (b.take (2 + z)).length ≤ 200 := by rw [List.length_take]; omega
  have hlB2 : (b.drop (2 + z)).length ≤ 200 := by rw [List.length_drop]; omega
  have hlB3 : ((b.drop 2).take z).length ≤ 200 := by rw [List.length_take, List.length_drop]; omega
  refine fn_val (C := seat) seat_ok [] GG_no (Try.func4) rfl rfl rfl rfl rfl (fun _ => rfl) rfl ?_
  repeat' ((try conv => whnf); first
    | (with_reducible refine BB_true ?_)
    | (with_reducible refine BB_false ?_)
    | (with_reducible refine Both.mk ?_ ?_)
    | (with_reducible refine VS.mk ?_)
    | (refine PSem.go (C := seat) seat_ok ?_)
    | (refine And.intro (PlanOK.mk (by kernel_rfl) rfl (by kernel_rfl) (by kernel_rfl)) ?_)
    | (refine And.intro rfl (Exists.intro _ (And.intro (by first | assumption | rfl) ?_)))
    | (refine And.intro ⟨rfl, rfl, rfl⟩ ?_)
    | (refine call_roN [.g 0] (put_is [] [] 0 0 0 x x _ rfl rfl (by decide) (by decide) hx (putB x K) (hput x)) GG_no rfl rfl ⟨.inr ⟨_, _, _, rfl, rfl⟩, .inl rfl, .inl rfl, trivial⟩ ⟨.inr ⟨rfl, _, rfl⟩, trivial⟩ ?_; rintro r bs' ext ⟨cp, hcp, rfl, rfl⟩)
    | (refine call_ro [_] (take_is (putB x K ++ g) _ 0 _ _ _ (app_h _ g rfl) (app_len _ g rfl) hcap' (by omega) hbP (x % 256 ^ K, g, true) hT1) GG_no rfl rfl rfl ⟨⟨_, rfl, rfl, rfl⟩, trivial⟩ ?_; rintro r bs' ext ⟨ct, hct, rfl, rfl⟩)
    | (refine call_roN [.g 0, .o 0] (putText_is [] s [] _ 0 0 0 0 _ _ rfl (by decide) (all_row _) (all_len _) (by decide) (by omega) (putText [] s) rfl) GG_no rfl rfl ⟨.inr ⟨_, _, _, rfl, rfl⟩, .inl rfl, trivial⟩ ⟨.inr ⟨rfl, _, rfl⟩, .inl ⟨_, rfl, rfl, rfl⟩, trivial⟩ ?_; rintro r bs' ext ⟨cq, hcq, rfl, rfl⟩)
    | (refine call_ro [_] (takeText_is (putText [] s ++ g) _ 0 _ _ _ (app_h _ g rfl) (app_len _ g rfl) hcap' (by omega) hbT (s, g, true) hT2) GG_no rfl rfl rfl ⟨⟨_, rfl, rfl, rfl⟩, trivial⟩ ?_; rintro r bs' ext ⟨cu, cv, hcu, hcv, rfl, rfl⟩)
    | (refine call_ro [.o 2] (take_is b _ 0 _ _ _ (all_row b) (all_len b) hc3 (by omega) hb8 (0, [], false) hA) GG_no rfl rfl rfl ⟨⟨_, rfl, rfl, rfl⟩, trivial⟩ ?_; rintro r bs' ext ⟨cw, hcw, rfl, rfl⟩)
    | (refine call_ro [.o 2] (takeText_is b _ 0 _ _ _ (all_row b) (all_len b) hc3 (by omega) hb8 ((b.drop 2).take z, b.drop (2 + z), true) hB) GG_no rfl rfl rfl ⟨⟨_, rfl, rfl, rfl⟩, trivial⟩ ?_; rintro r bs' ext ⟨cx, cy, hcx, hcy, rfl, rfl⟩)
    | (refine call_roN [.g 0, _] (putText_is [] ((b.drop 2).take z) [] _ 0 0 0 0 _ _ rfl (by decide) (all_row _) (all_len _) (by decide) (by omega) (b.take (2 + z)) hPB) GG_no rfl rfl ⟨.inr ⟨_, _, _, rfl, rfl⟩, .inl rfl, trivial⟩ ⟨.inr ⟨rfl, _, rfl⟩, .inl ⟨_, rfl, rfl, rfl⟩, trivial⟩ ?_; rintro r bs' ext ⟨da, hda, rfl, rfl⟩)
    | (refine call_ro [_, _] (same_is b b _ _ 0 0 _ _ _ _ true hb8 hb8 ((app_h (b.take (2 + z)) (b.drop (2 + z)) rfl).trans (by rw [hcB])) (all_row b) (app_len (b.take (2 + z)) (b.drop (2 + z)) rfl) (all_len b) (decide_eq_true rfl)) GG_no rfl rfl rfl ⟨⟨_, rfl, rfl, rfl⟩, ⟨_, rfl, rfl, rfl⟩, trivial⟩ ?_; rintro r bs' ext ⟨rfl, rfl⟩)
    | (refine call_ro [_, _] (same_all g _ _ hg8) GG_no rfl rfl rfl ⟨⟨_, rfl, rfl, rfl⟩, ⟨_, rfl, rfl, rfl⟩, trivial⟩ ?_; rintro r bs' ext ⟨rfl, rfl⟩)
    | (refine call_ro [_, _] (same_all s _ _ hs8) GG_no rfl rfl rfl ⟨⟨_, rfl, rfl, rfl⟩, ⟨_, rfl, rfl, rfl⟩, trivial⟩ ?_; rintro r bs' ext ⟨rfl, rfl⟩)
    | (refine call_ro [_, _] (same_is g g _ _ 0 0 _ _ _ _ true hg8 hg8 (all_row g) (nil_h g) (all_len g) (nil_len g) (decide_eq_true rfl)) GG_no rfl rfl rfl ⟨⟨_, rfl, rfl, rfl⟩, ⟨_, rfl, rfl, rfl⟩, trivial⟩ ?_; rintro r bs' ext ⟨rfl, rfl⟩)
    | (refine call_ro [] (awake_ok) GG_no rfl rfl rfl trivial ?_; rintro r bs' ext ⟨rfl, rfl⟩)
    | (refine And.intro ⟨rfl, rfl, rfl, rfl⟩ ?_)
    | (refine And.intro ⟨rfl, rfl, rfl, by rw [List.length_map]⟩ ?_)
    | (refine And.intro ⟨rfl, by rw [List.length_map]; omega⟩ ?_)
    | (refine And.intro e8z ?_)
    | (refine And.intro e8n ?_)
    | (refine And.intro (by first | omega | (dsimp only; omega)) ?_)
    | (intro cap' hcap')
    | (refine And.intro (by omega) ?_)
    | (refine BB.mk (fun _h => ?_) (fun _h => ?_) <;> (first | (exact absurd _h (by decide)) | (exfalso; simp only [ek, hw, boolSet] at _h <;> omega) | skip)))
  all_goals (try conv => whnf)
  all_goals first
    | exact Fin.mk ⟨rfl, rfl⟩
    | (exfalso; exact absurd (hw.symm.trans _h) (by decide))
set_option maxRecDepth 100000 in
set_option maxHeartbeats 4000000 in
theorem wireBack_100 (x n : Nat) (s g b : List Nat) (c1 c2 c3 : Nat) (hx : x < 2 ^ 64) (hn : n ≤ 255) (hs8 : ∀ y ∈ s, y < 256) (hg8 : ∀ y ∈ g, y < 256) (hb8 : ∀ y ∈ b, y < 256) (hc3 : b.length ≤ c3) (hl1 : s.length ≤ 300) (hl2 : g.length ≤ 100) (hl3 : b.length ≤ 200) (K : Nat) (hK1 : 1 ≤ K) (hK2 : K ≤ 8) (ek : (IntKind.i64.wrap (1 + IntKind.i64.wrap ((n : Int).tmod 8))) = (K : Int)) (hk8 : K < 8) (hav : ¬ K ≤ b.length) (hbv : ¬ (2 ≤ b.length ∧ takeN (b.take 2) + 2 ≤ b.length)) : FnOK Try.prog GG 4 [.ro 1 (s.map bN), .ro 1 (g.map bN), .ro 1 (b.map bN)] [.v (.int .u64 x), .v (.int .u8 n), .s (.o 0) 1 0 s.length c1, .s (.o 1) 1 0 g.length c2, .s (.o 2) 1 0 b.length c3] (fun r _ ext => r = .v (.bool true) ∧ ext = []) := by
  have hPK : (putB x K).length = K := putB_len x K
  have hput : ∀ y, putT [] y (IntKind.i64.wrap (1 + IntKind.i64.wrap ((n : Int).tmod 8))) = putB y K := fun y => by rw [ek, putT, if_pos ⟨by omega, by omega⟩]; rfl
  have hT1 : takeT (putB x K ++ g) (IntKind.i64.wrap (1 + IntKind.i64.wrap ((n : Int).tmod 8))) = (x % 256 ^ K, g, true) := by
    rw [ek, takeT, if_pos ⟨by omega, by omega, by rw [List.length_append, hPK]; omega⟩, Int.toNat_natCast, take_app, drop_app]
  have hL1 : (putB x K).length + g.length ≤ 108 := by omega
  have hsp : (putText [] s).length ≤ 302 := by
    rw [putText, if_pos (by omega), List.length_append, List.length_append, putB_len]; show 0 + 2 + s.length ≤ 302; omega
  have hT2 := text_app (r := g) hl1 (show (300 : Int) ≤ 300 by decide)
  have hbP : ∀ y ∈ putB x K ++ g, y < 256 := fun y hy => by
    rcases List.mem_append.1 hy with h | h
    · exact putB_byte _ _ y h
    · exact hg8 y h
  have hbT : ∀ y ∈ putText [] s ++ g, y < 256 := fun y hy => by
    rcases List.mem_append.1 hy with h | h
    · exact putText_byte (by simp) hs8 y h
    · exact hg8 y h
  have e8 := e8_of ek hk8
  have e8z : 0 ≤ IntKind.i64.wrap (8 * (IntKind.i64.wrap (1 + IntKind.i64.wrap ((n : Int).tmod 8)))) := by rw [ek, IntKind.wrap_i64]; omega
  have e8n : IntKind.u64.wrap (1 * 2 ^ min (IntKind.i64.wrap (8 * (IntKind.i64.wrap (1 + IntKind.i64.wrap ((n : Int).tmod 8))))).toNat IntKind.u64.bits) ≠ 0 := by rw [e8]; have := Nat.pow_pos (n := K) (show 0 < 256 by decide); omega
  have hw : (((x % 256 ^ K : Nat) : Int) != (x : Int).tmod (IntKind.u64.wrap (1 * 2 ^ min (IntKind.i64.wrap (8 * (IntKind.i64.wrap (1 + IntKind.i64.wrap ((n : Int).tmod 8))))).toNat IntKind.u64.bits))) = false := by rw [e8, tmod_nat]; simp
  have hA : takeT b (IntKind.i64.wrap (1 + IntKind.i64.wrap ((n : Int).tmod 8))) = (0, [], false) := by rw [ek, takeT, if_neg (by omega)]
  have hB : textT b 65535 = ([], [], false) := by rw [textT, if_neg (by omega)]
  refine fn_val (C := seat) seat_ok [] GG_no (Try.func4) rfl rfl rfl rfl rfl (fun _ => rfl) rfl ?_
  repeat' ((try conv => whnf); first
    | (with_reducible refine BB_true ?_)
    | (with_reducible refine BB_false ?_)
    | (with_reducible refine Both.mk ?_ ?_)
    | (with_reducible refine VS.mk ?_)
    | (refine PSem.go (C := seat) seat_ok ?_)
    | (refine And.intro (PlanOK.mk (by kernel_rfl) rfl (by kernel_rfl) (by kernel_rfl)) ?_)
    | (refine And.intro rfl (Exists.intro _ (And.intro (by first | assumption | rfl) ?_)))
    | (refine And.intro ⟨rfl, rfl, rfl⟩ ?_)
    | (refine call_roN [.g 0] (put_is [] [] 0 0 0 x x _ rfl rfl (by decide) (by decide) hx (putB x K) (hput x)) GG_no rfl rfl ⟨.inr ⟨_, _, _, rfl, rfl⟩, .inl rfl, .inl rfl, trivial⟩ ⟨.inr ⟨rfl, _, rfl⟩, trivial⟩ ?_; rintro r bs' ext ⟨cp, hcp, rfl, rfl⟩)
    | (refine call_ro [_] (take_is (putB x K ++ g) _ 0 _ _ _ (app_h _ g rfl) (app_len _ g rfl) hcap' (by omega) hbP (x % 256 ^ K, g, true) hT1) GG_no rfl rfl rfl ⟨⟨_, rfl, rfl, rfl⟩, trivial⟩ ?_; rintro r bs' ext ⟨ct, hct, rfl, rfl⟩)
    | (refine call_roN [.g 0, .o 0] (putText_is [] s [] _ 0 0 0 0 _ _ rfl (by decide) (all_row _) (all_len _) (by decide) (by omega) (putText [] s) rfl) GG_no rfl rfl ⟨.inr ⟨_, _, _, rfl, rfl⟩, .inl rfl, trivial⟩ ⟨.inr ⟨rfl, _, rfl⟩, .inl ⟨_, rfl, rfl, rfl⟩, trivial⟩ ?_; rintro r bs' ext ⟨cq, hcq, rfl, rfl⟩)
    | (refine call_ro [_] (takeText_is (putText [] s ++ g) _ 0 _ _ _ (app_h _ g rfl) (app_len _ g rfl) hcap' (by omega) hbT (s, g, true) hT2) GG_no rfl rfl rfl ⟨⟨_, rfl, rfl, rfl⟩, trivial⟩ ?_; rintro r bs' ext ⟨cu, cv, hcu, hcv, rfl, rfl⟩)
    | (refine call_ro [.o 2] (take_is b _ 0 _ _ _ (all_row b) (all_len b) hc3 (by omega) hb8 (0, [], false) hA) GG_no rfl rfl rfl ⟨⟨_, rfl, rfl, rfl⟩, trivial⟩ ?_; rintro r bs' ext ⟨cw, hcw, rfl, rfl⟩)
    | (refine call_ro [.o 2] (takeText_is b _ 0 _ _ _ (all_row b) (all_len b) hc3 (by omega) hb8 ([], [], false) hB) GG_no rfl rfl rfl ⟨⟨_, rfl, rfl, rfl⟩, trivial⟩ ?_; rintro r bs' ext ⟨cx, cy, hcx, hcy, rfl, rfl⟩)
    | (refine call_ro [_, _] (same_all g _ _ hg8) GG_no rfl rfl rfl ⟨⟨_, rfl, rfl, rfl⟩, ⟨_, rfl, rfl, rfl⟩, trivial⟩ ?_; rintro r bs' ext ⟨rfl, rfl⟩)
    | (refine call_ro [_, _] (same_all s _ _ hs8) GG_no rfl rfl rfl ⟨⟨_, rfl, rfl, rfl⟩, ⟨_, rfl, rfl, rfl⟩, trivial⟩ ?_; rintro r bs' ext ⟨rfl, rfl⟩)
    | (refine call_ro [_, _] (same_is g g _ _ 0 0 _ _ _ _ true hg8 hg8 (all_row g) (nil_h g) (all_len g) (nil_len g) (decide_eq_true rfl)) GG_no rfl rfl rfl ⟨⟨_, rfl, rfl, rfl⟩, ⟨_, rfl, rfl, rfl⟩, trivial⟩ ?_; rintro r bs' ext ⟨rfl, rfl⟩)
    | (refine call_ro [] (awake_ok) GG_no rfl rfl rfl trivial ?_; rintro r bs' ext ⟨rfl, rfl⟩)
    | (refine And.intro ⟨rfl, rfl, rfl, rfl⟩ ?_)
    | (refine And.intro ⟨rfl, rfl, rfl, by rw [List.length_map]⟩ ?_)
    | (refine And.intro ⟨rfl, by rw [List.length_map]; omega⟩ ?_)
    | (refine And.intro e8z ?_)
    | (refine And.intro e8n ?_)
    | (refine And.intro (by first | omega | (dsimp only; omega)) ?_)
    | (intro cap' hcap')
    | (refine And.intro (by omega) ?_)
    | (refine BB.mk (fun _h => ?_) (fun _h => ?_) <;> (first | (exact absurd _h (by decide)) | (exfalso; simp only [ek, hw, boolSet] at _h <;> omega) | skip)))
  all_goals (try conv => whnf)
  all_goals first
    | exact Fin.mk ⟨rfl, rfl⟩
    | (exfalso; exact absurd (hw.symm.trans _h) (by decide))
set_option maxRecDepth 100000 in
set_option maxHeartbeats 4000000 in
theorem wireBack_011 (x n : Nat) (s g b : List Nat) (c1 c2 c3 : Nat) (hx : x < 2 ^ 64) (hn : n ≤ 255) (hs8 : ∀ y ∈ s, y < 256) (hg8 : ∀ y ∈ g, y < 256) (hb8 : ∀ y ∈ b, y < 256) (hc3 : b.length ≤ c3) (hl1 : s.length ≤ 300) (hl2 : g.length ≤ 100) (hl3 : b.length ≤ 200) (K : Nat) (hK1 : 1 ≤ K) (hK2 : K ≤ 8) (ek : (IntKind.i64.wrap (1 + IntKind.i64.wrap ((n : Int).tmod 8))) = (K : Int)) (hk8 : ¬ K < 8) (hav : K ≤ b.length) (z : Nat) (hz : takeN (b.take 2) = z) (hbv : 2 ≤ b.length ∧ z + 2 ≤ b.length) : FnOK Try.prog GG 4 [.ro 1 (s.map bN), .ro 1 (g.map bN), .ro 1 (b.map bN)] [.v (.int .u64 x), .v (.int .u8 n), .s (.o 0) 1 0 s.length c1, .s (.o 1) 1 0 g.length c2, .s (.o 2) 1 0 b.length c3] (fun r _ ext => r = .v (.bool true) ∧ ext = []) := by
  have hPK : (putB x K).length = K := putB_len x K
  have hput : ∀ y, putT [] y (IntKind.i64.wrap (1 + IntKind.i64.wrap ((n : Int).tmod 8))) = putB y K := fun y => by rw [ek, putT, if_pos ⟨by omega, by omega⟩]; rfl
  have hT1 : takeT (putB x K ++ g) (IntKind.i64.wrap (1 + IntKind.i64.wrap ((n : Int).tmod 8))) = (x % 256 ^ K, g, true) := by
    rw [ek, takeT, if_pos ⟨by omega, by omega, by rw [List.length_append, hPK]; omega⟩, Int.toNat_natCast, take_app, drop_app]
  have hL1 : (putB x K).length + g.length ≤ 108 := by omega
  have hsp : (putText [] s).length ≤ 302 := by
    rw [putText, if_pos (by omega), List.length_append, List.length_append, putB_len]; show 0 + 2 + s.length ≤ 302; omega
  have hT2 := text_app (r := g) hl1 (show (300 : Int) ≤ 300 by decide)
  have hbP : ∀ y ∈ putB x K ++ g, y < 256 := fun y hy => by
    rcases List.mem_append.1 hy with h | h
    · exact putB_byte _ _ y h
    · exact hg8 y h
  have hbT : ∀ y ∈ putText [] s ++ g, y < 256 := fun y hy => by
    rcases List.mem_append.1 hy with h | h
    · exact putText_byte (by simp) hs8 y h
    · exact hg8 y h
  have e8z : True := trivial
  have e8n : True := trivial
  have hw : (((x % 256 ^ K : Nat) : Int) != (x : Int)) = false := by
    have : K = 8 := by omega
    subst this
    rw [Nat.mod_eq_of_lt (by omega)]; simp
  have hA : takeT b (IntKind.i64.wrap (1 + IntKind.i64.wrap ((n : Int).tmod 8))) = (takeN (b.take K), b.drop K, true) := by rw [ek, takeT, if_pos ⟨by omega, by omega, by omega⟩, Int.toNat_natCast]
  have hPA : putT [] (takeN (b.take K)) (IntKind.i64.wrap (1 + IntKind.i64.wrap ((n : Int).tmod 8))) = b.take K := by rw [hput, putB_full hb8 hav]
  have hzA : takeN (b.take K) < 2 ^ 64 := by
    have h1 := takeN_lt (b.take K) (fun x hx => hb8 x (List.mem_of_mem_take hx))
    have h2 : 256 ^ (b.take K).length ≤ 256 ^ 8 := Nat.pow_le_pow_right (by decide) (by rw [List.length_take]; omega)
    exact Nat.lt_of_lt_of_le h1 h2
  have hcA : b.take K ++ b.drop K = b := List.take_append_drop K b
  have hlA : (b.take K).length = K := by rw [List.length_take]; omega
  have hlA2 : (b.drop K).length ≤ 200 := by rw [List.length_drop]; omega
  have hz6 : z < 256 ^ 2 := by
    have := takeN_lt (b.take 2) (fun y hy => hb8 y (List.mem_of_mem_take hy))
    rwa [hz, List.length_take, Nat.min_eq_left (by omega)] at this
  have hB : textT b 65535 = ((b.drop 2).take z, b.drop (2 + z), true) := by
    rw [textT, hz, if_pos ⟨by omega, by omega, by omega⟩]
  have hPB : putText [] ((b.drop 2).take z) = b.take (2 + z) := text_put hb8 hz (by omega)
  have hcB : b.take (2 + z) ++ b.drop (2 + z) = b := List.take_append_drop (2 + z) b
  have hlB : (b.take (2 + z)).length ≤ 200 := by rw [List.length_take]; omega
  have hlB2 : (b.drop (2 + z)).length ≤ 200 := by rw [List.length_drop]; omega
  have hlB3 : ((b.drop 2).take z).length ≤ 200 := by rw [List.length_take, List.length_drop]; omega
  refine fn_val (C := seat) seat_ok [] GG_no (Try.func4) rfl rfl rfl rfl rfl (fun _ => rfl) rfl ?_
  repeat' ((try conv => whnf); first
    | (with_reducible refine BB_true ?_)
    | (with_reducible refine BB_false ?_)
    | (with_reducible refine Both.mk ?_ ?_)
    | (with_reducible refine VS.mk ?_)
    | (refine PSem.go (C := seat) seat_ok ?_)
    | (refine And.intro (PlanOK.mk (by kernel_rfl) rfl (by kernel_rfl) (by kernel_rfl)) ?_)
    | (refine And.intro rfl (Exists.intro _ (And.intro (by first | assumption | rfl) ?_)))
    | (refine And.intro ⟨rfl, rfl, rfl⟩ ?_)
    | (refine call_roN [.g 0] (put_is [] [] 0 0 0 x x _ rfl rfl (by decide) (by decide) hx (putB x K) (hput x)) GG_no rfl rfl ⟨.inr ⟨_, _, _, rfl, rfl⟩, .inl rfl, .inl rfl, trivial⟩ ⟨.inr ⟨rfl, _, rfl⟩, trivial⟩ ?_; rintro r bs' ext ⟨cp, hcp, rfl, rfl⟩)
    | (refine call_ro [_] (take_is (putB x K ++ g) _ 0 _ _ _ (app_h _ g rfl) (app_len _ g rfl) hcap' (by omega) hbP (x % 256 ^ K, g, true) hT1) GG_no rfl rfl rfl ⟨⟨_, rfl, rfl, rfl⟩, trivial⟩ ?_; rintro r bs' ext ⟨ct, hct, rfl, rfl⟩)
    | (refine call_roN [.g 0, .o 0] (putText_is [] s [] _ 0 0 0 0 _ _ rfl (by decide) (all_row _) (all_len _) (by decide) (by omega) (putText [] s) rfl) GG_no rfl rfl ⟨.inr ⟨_, _, _, rfl, rfl⟩, .inl rfl, trivial⟩ ⟨.inr ⟨rfl, _, rfl⟩, .inl ⟨_, rfl, rfl, rfl⟩, trivial⟩ ?_; rintro r bs' ext ⟨cq, hcq, rfl, rfl⟩)
    | (refine call_ro [_] (takeText_is (putText [] s ++ g) _ 0 _ _ _ (app_h _ g rfl) (app_len _ g rfl) hcap' (by omega) hbT (s, g, true) hT2) GG_no rfl rfl rfl ⟨⟨_, rfl, rfl, rfl⟩, trivial⟩ ?_; rintro r bs' ext ⟨cu, cv, hcu, hcv, rfl, rfl⟩)
    | (refine call_ro [.o 2] (take_is b _ 0 _ _ _ (all_row b) (all_len b) hc3 (by omega) hb8 (takeN (b.take K), b.drop K, true) hA) GG_no rfl rfl rfl ⟨⟨_, rfl, rfl, rfl⟩, trivial⟩ ?_; rintro r bs' ext ⟨cw, hcw, rfl, rfl⟩)
    | (refine call_ro [.o 2] (takeText_is b _ 0 _ _ _ (all_row b) (all_len b) hc3 (by omega) hb8 ((b.drop 2).take z, b.drop (2 + z), true) hB) GG_no rfl rfl rfl ⟨⟨_, rfl, rfl, rfl⟩, trivial⟩ ?_; rintro r bs' ext ⟨cx, cy, hcx, hcy, rfl, rfl⟩)
    | (refine call_roN [.g 0] (put_is [] [] 0 0 0 (takeN (b.take K)) (takeN (b.take K)) _ rfl rfl (by decide) (by decide) hzA (b.take K) hPA) GG_no rfl rfl ⟨.inr ⟨_, _, _, rfl, rfl⟩, .inl rfl, .inl rfl, trivial⟩ ⟨.inr ⟨rfl, _, rfl⟩, trivial⟩ ?_; rintro r bs' ext ⟨cz, hcz, rfl, rfl⟩)
    | (refine call_ro [_, _] (same_is b b _ _ 0 0 _ _ _ _ true hb8 hb8 ((app_h (b.take K) (b.drop K) rfl).trans (by rw [hcA])) (all_row b) (app_len (b.take K) (b.drop K) rfl) (all_len b) (decide_eq_true rfl)) GG_no rfl rfl rfl ⟨⟨_, rfl, rfl, rfl⟩, ⟨_, rfl, rfl, rfl⟩, trivial⟩ ?_; rintro r bs' ext ⟨rfl, rfl⟩)
    | (refine call_roN [.g 0, _] (putText_is [] ((b.drop 2).take z) [] _ 0 0 0 0 _ _ rfl (by decide) (all_row _) (all_len _) (by decide) (by omega) (b.take (2 + z)) hPB) GG_no rfl rfl ⟨.inr ⟨_, _, _, rfl, rfl⟩, .inl rfl, trivial⟩ ⟨.inr ⟨rfl, _, rfl⟩, .inl ⟨_, rfl, rfl, rfl⟩, trivial⟩ ?_; rintro r bs' ext ⟨da, hda, rfl, rfl⟩)
    | (refine call_ro [_, _] (same_is b b _ _ 0 0 _ _ _ _ true hb8 hb8 ((app_h (b.take (2 + z)) (b.drop (2 + z)) rfl).trans (by rw [hcB])) (all_row b) (app_len (b.take (2 + z)) (b.drop (2 + z)) rfl) (all_len b) (decide_eq_true rfl)) GG_no rfl rfl rfl ⟨⟨_, rfl, rfl, rfl⟩, ⟨_, rfl, rfl, rfl⟩, trivial⟩ ?_; rintro r bs' ext ⟨rfl, rfl⟩)
    | (refine call_ro [_, _] (same_all g _ _ hg8) GG_no rfl rfl rfl ⟨⟨_, rfl, rfl, rfl⟩, ⟨_, rfl, rfl, rfl⟩, trivial⟩ ?_; rintro r bs' ext ⟨rfl, rfl⟩)
    | (refine call_ro [_, _] (same_all s _ _ hs8) GG_no rfl rfl rfl ⟨⟨_, rfl, rfl, rfl⟩, ⟨_, rfl, rfl, rfl⟩, trivial⟩ ?_; rintro r bs' ext ⟨rfl, rfl⟩)
    | (refine call_ro [_, _] (same_is g g _ _ 0 0 _ _ _ _ true hg8 hg8 (all_row g) (nil_h g) (all_len g) (nil_len g) (decide_eq_true rfl)) GG_no rfl rfl rfl ⟨⟨_, rfl, rfl, rfl⟩, ⟨_, rfl, rfl, rfl⟩, trivial⟩ ?_; rintro r bs' ext ⟨rfl, rfl⟩)
    | (refine call_ro [] (awake_ok) GG_no rfl rfl rfl trivial ?_; rintro r bs' ext ⟨rfl, rfl⟩)
    | (refine And.intro ⟨rfl, rfl, rfl, rfl⟩ ?_)
    | (refine And.intro ⟨rfl, rfl, rfl, by rw [List.length_map]⟩ ?_)
    | (refine And.intro ⟨rfl, by rw [List.length_map]; omega⟩ ?_)
    | (refine And.intro e8z ?_)
    | (refine And.intro e8n ?_)
    | (refine And.intro (by first | omega | (dsimp only; omega)) ?_)
    | (intro cap' hcap')
    | (refine And.intro (by omega) ?_)
    | (refine BB.mk (fun _h => ?_) (fun _h => ?_) <;> (first | (exact absurd _h (by decide)) | (exfalso; simp only [ek, hw, boolSet] at _h <;> omega) | skip)))
  all_goals (try conv => whnf)
  all_goals first
    | exact Fin.mk ⟨rfl, rfl⟩
    | (exfalso; exact absurd (hw.symm.trans _h) (by decide))
set_option maxRecDepth 100000 in
set_option maxHeartbeats 4000000 in
theorem wireBack_010 (x n : Nat) (s g b : List Nat) (c1 c2 c3 : Nat) (hx : x < 2 ^ 64) (hn : n ≤ 255) (hs8 : ∀ y ∈ s, y < 256) (hg8 : ∀ y ∈ g, y < 256) (hb8 : ∀ y ∈ b, y < 256) (hc3 : b.length ≤ c3) (hl1 : s.length ≤ 300) (hl2 : g.length ≤ 100) (hl3 : b.length ≤ 200) (K : Nat) (hK1 : 1 ≤ K) (hK2 : K ≤ 8) (ek : (IntKind.i64.wrap (1 + IntKind.i64.wrap ((n : Int).tmod 8))) = (K : Int)) (hk8 : ¬ K < 8) (hav : K ≤ b.length) (hbv : ¬ (2 ≤ b.length ∧ takeN (b.take 2) + 2 ≤ b.length)) : FnOK Try.prog GG 4 [.ro 1 (s.map bN), .ro 1 (g.map bN), .ro 1 (b.map bN)] [.v (.int .u64 x), .v (.int .u8 n), .s (.o 0) 1 0 s.length c1, .s (.o 1) 1 0 g.length c2, .s (.o 2) 1 0 b.length c3] (fun r _ ext => r = .v (.bool true) ∧ ext = []) := by
  have hPK : (putB x K).length = K := putB_len x K
  have hput : ∀ y, putT [] y (IntKind.i64.wrap (1 + IntKind.i64.wrap ((n : Int).tmod 8))) = putB y K := fun y => by rw [ek, putT, if_pos ⟨by omega, by omega⟩]; rfl
  have hT1 : takeT (putB x K ++ g) (IntKind.i64.wrap (1 + IntKind.i64.wrap ((n : Int).tmod 8))) = (x % 256 ^ K, g, true) := by
    rw [ek, takeT, if_pos ⟨by omega, by omega, by rw [List.length_append, hPK]; omega⟩, Int.toNat_natCast, take_app, drop_app]
  have hL1 : (putB x K).length + g.length ≤ 108 := by omega
  have hsp : (putText [] s).length ≤ 302 := by
    rw [putText, if_pos (by omega), List.length_append, List.length_append, putB_len]; show 0 + 2 + s.length ≤ 302; omega
  have hT2 := text_app (r := g) hl1 (show (300 : Int) ≤ 300 by decide)
  have hbP : ∀ y ∈ putB x K ++ g, y < 256 := fun y hy => by
    rcases List.mem_append.1 hy with h | h
    · exact putB_byte _ _ y h
    · exact hg8 y h
  have hbT : ∀ y ∈ putText [] s ++ g, y < 256 := fun y hy => by
    rcases List.mem_append.1 hy with h | h
    · exact putText_byte (by simp) hs8 y h
    · exact hg8 y h
  have e8z : True := trivial
  have e8n : True := trivial
  have hw : (((x % 256 ^ K : Nat) : Int) != (x : Int)) = false := by
    have : K = 8 := by omega
    subst this
    rw [Nat.mod_eq_of_lt (by omega)]; simp
  have hA : takeT b (IntKind.i64.wrap (1 + IntKind.i64.wrap ((n : Int).tmod 8))) = (takeN (b.take K), b.drop K, true) := by rw [ek, takeT, if_pos ⟨by omega, by omega, by omega⟩, Int.toNat_natCast]
  have hPA : putT [] (takeN (b.take K)) (IntKind.i64.wrap (1 + IntKind.i64.wrap ((n : Int).tmod 8))) = b.take K := by rw [hput, putB_full hb8 hav]
  have hzA : takeN (b.take K) < 2 ^ 64 := by
    have h1 := takeN_lt (b.take K) (fun x hx => hb8 x (List.mem_of_mem_take hx))
    have h2 : 256 ^ (b.take K).length ≤ 256 ^ 8 := Nat.pow_le_pow_right (by decide) (by rw [List.length_take]; omega)
    exact Nat.lt_of_lt_of_le h1 h2
  have hcA : b.take K ++ b.drop K = b := List.take_append_drop K b
  have hlA : (b.take K).length = K := by rw [List.length_take]; omega
  have hlA2 : (b.drop K).length ≤ 200 := by rw [List.length_drop]; omega
  have hB : textT b 65535 = ([], [], false) := by rw [textT, if_neg (by omega)]
  refine fn_val (C := seat) seat_ok [] GG_no (Try.func4) rfl rfl rfl rfl rfl (fun _ => rfl) rfl ?_
  repeat' ((try conv => whnf); first
    | (with_reducible refine BB_true ?_)
    | (with_reducible refine BB_false ?_)
    | (with_reducible refine Both.mk ?_ ?_)
    | (with_reducible refine VS.mk ?_)
    | (refine PSem.go (C := seat) seat_ok ?_)
    | (refine And.intro (PlanOK.mk (by kernel_rfl) rfl (by kernel_rfl) (by kernel_rfl)) ?_)
    | (refine And.intro rfl (Exists.intro _ (And.intro (by first | assumption | rfl) ?_)))
    | (refine And.intro ⟨rfl, rfl, rfl⟩ ?_)
    | (refine call_roN [.g 0] (put_is [] [] 0 0 0 x x _ rfl rfl (by decide) (by decide) hx (putB x K) (hput x)) GG_no rfl rfl ⟨.inr ⟨_, _, _, rfl, rfl⟩, .inl rfl, .inl rfl, trivial⟩ ⟨.inr ⟨rfl, _, rfl⟩, trivial⟩ ?_; rintro r bs' ext ⟨cp, hcp, rfl, rfl⟩)
    | (refine call_ro [_] (take_is (putB x K ++ g) _ 0 _ _ _ (app_h _ g rfl) (app_len _ g rfl) hcap' (by omega) hbP (x % 256 ^ K, g, true) hT1) GG_no rfl rfl rfl ⟨⟨_, rfl, rfl, rfl⟩, trivial⟩ ?_; rintro r bs' ext ⟨ct, hct, rfl, rfl⟩)
    | (refine call_roN [.g 0, .o 0] (putText_is [] s [] _ 0 0 0 0 _ _ rfl (by decide) (all_row _) (all_len _) (by decide) (by omega) (putText [] s) rfl) GG_no rfl rfl ⟨.inr ⟨_, _, _, rfl, rfl⟩, .inl rfl, trivial⟩ ⟨.inr ⟨rfl, _, rfl⟩, .inl ⟨_, rfl, rfl, rfl⟩, trivial⟩ ?_; rintro r bs' ext ⟨cq, hcq, rfl, rfl⟩)
    | (refine call_ro [_] (takeText_is (putText [] s ++ g) _ 0 _ _ _ (app_h _ g rfl) (app_len _ g rfl) hcap' (by omega) hbT (s, g, true) hT2) GG_no rfl rfl rfl ⟨⟨_, rfl, rfl, rfl⟩, trivial⟩ ?_; rintro r bs' ext ⟨cu, cv, hcu, hcv, rfl, rfl⟩)
    | (refine call_ro [.o 2] (take_is b _ 0 _ _ _ (all_row b) (all_len b) hc3 (by omega) hb8 (takeN (b.take K), b.drop K, true) hA) GG_no rfl rfl rfl ⟨⟨_, rfl, rfl, rfl⟩, trivial⟩ ?_; rintro r bs' ext ⟨cw, hcw, rfl, rfl⟩)
    | (refine call_ro [.o 2] (takeText_is b _ 0 _ _ _ (all_row b) (all_len b) hc3 (by omega) hb8 ([], [], false) hB) GG_no rfl rfl rfl ⟨⟨_, rfl, rfl, rfl⟩, trivial⟩ ?_; rintro r bs' ext ⟨cx, cy, hcx, hcy, rfl, rfl⟩)
    | (refine call_roN [.g 0] (put_is [] [] 0 0 0 (takeN (b.take K)) (takeN (b.take K)) _ rfl rfl (by decide) (by decide) hzA (b.take K) hPA) GG_no rfl rfl ⟨.inr ⟨_, _, _, rfl, rfl⟩, .inl rfl, .inl rfl, trivial⟩ ⟨.inr ⟨rfl, _, rfl⟩, trivial⟩ ?_; rintro r bs' ext ⟨cz, hcz, rfl, rfl⟩)
    | (refine call_ro [_, _] (same_is b b _ _ 0 0 _ _ _ _ true hb8 hb8 ((app_h (b.take K) (b.drop K) rfl).trans (by rw [hcA])) (all_row b) (app_len (b.take K) (b.drop K) rfl) (all_len b) (decide_eq_true rfl)) GG_no rfl rfl rfl ⟨⟨_, rfl, rfl, rfl⟩, ⟨_, rfl, rfl, rfl⟩, trivial⟩ ?_; rintro r bs' ext ⟨rfl, rfl⟩)
    | (refine call_ro [_, _] (same_all g _ _ hg8) GG_no rfl rfl rfl ⟨⟨_, rfl, rfl, rfl⟩, ⟨_, rfl, rfl, rfl⟩, trivial⟩ ?_; rintro r bs' ext ⟨rfl, rfl⟩)
    | (refine call_ro [_, _] (same_all s _ _ hs8) GG_no rfl rfl rfl ⟨⟨_, rfl, rfl, rfl⟩, ⟨_, rfl, rfl, rfl⟩, trivial⟩ ?_; rintro r bs' ext ⟨rfl, rfl⟩)
    | (refine call_ro [_, _] (same_is g g _ _ 0 0 _ _ _ _ true hg8 hg8 (all_row g) (nil_h g) (all_len g) (nil_len g) (decide_eq_true rfl)) GG_no rfl rfl rfl ⟨⟨_, rfl, rfl, rfl⟩, ⟨_, rfl, rfl, rfl⟩, trivial⟩ ?_; rintro r bs' ext ⟨rfl, rfl⟩)
    | (refine call_ro [] (awake_ok) GG_no rfl rfl rfl trivial ?_; rintro r bs' ext ⟨rfl, rfl⟩)
    | (refine And.intro ⟨rfl, rfl, rfl, rfl⟩ ?_)
    | (refine And.intro ⟨rfl, rfl, rfl, by rw [List.length_map]⟩ ?_)
    | (refine And.intro ⟨rfl, by rw [List.length_map]; omega⟩ ?_)
    | (refine And.intro e8z ?_)
    | (refine And.intro e8n ?_)
    | (refine And.intro (by first | omega | (dsimp only; omega)) ?_)
    | (intro cap' hcap')
    | (refine And.intro (by omega) ?_)
    | (refine BB.mk (fun _h => ?_) (fun _h => ?_) <;> (first | (exact absurd _h (by decide)) | (exfalso; simp only [ek, hw, boolSet] at _h <;> omega) | skip)))
  all_goals (try conv => whnf)
  all_goals first
    | exact Fin.mk ⟨rfl, rfl⟩
    | (exfalso; exact absurd (hw.symm.trans _h) (by decide))
set_option maxRecDepth 100000 in
set_option maxHeartbeats 4000000 in
theorem wireBack_001 (x n : Nat) (s g b : List Nat) (c1 c2 c3 : Nat) (hx : x < 2 ^ 64) (hn : n ≤ 255) (hs8 : ∀ y ∈ s, y < 256) (hg8 : ∀ y ∈ g, y < 256) (hb8 : ∀ y ∈ b, y < 256) (hc3 : b.length ≤ c3) (hl1 : s.length ≤ 300) (hl2 : g.length ≤ 100) (hl3 : b.length ≤ 200) (K : Nat) (hK1 : 1 ≤ K) (hK2 : K ≤ 8) (ek : (IntKind.i64.wrap (1 + IntKind.i64.wrap ((n : Int).tmod 8))) = (K : Int)) (hk8 : ¬ K < 8) (hav : ¬ K ≤ b.length) (z : Nat) (hz : takeN (b.take 2) = z) (hbv : 2 ≤ b.length ∧ z + 2 ≤ b.length) : FnOK Try.prog GG 4 [.ro 1 (s.map bN), .ro 1 (g.map bN), .ro 1 (b.map bN)] [.v (.int .u64 x), .v (.int .u8 n), .s (.o 0) 1 0 s.length c1, .s (.o 1) 1 0 g.length c2, .s (.o 2) 1 0 b.length c3] (fun r _ ext => r = .v (.bool true) ∧ ext = []) := by
  have hPK : (putB x K).length = K := putB_len x K
  have hput : ∀ y, putT [] y (IntKind.i64.wrap (1 + IntKind.i64.wrap ((n : Int).tmod 8))) = putB y K := fun y => by rw [ek, putT, if_pos ⟨by omega, by omega⟩]; rfl
  have hT1 : takeT (putB x K ++ g) (IntKind.i64.wrap (1 + IntKind.i64.wrap ((n : Int).tmod 8))) = (x % 256 ^ K, g, true) := by
    rw [ek, takeT, if_pos ⟨by omega, by omega, by rw [List.length_append, hPK]; omega⟩, Int.toNat_natCast, take_app, drop_app]
  have hL1 : (putB x K).length + g.length ≤ 108 := by omega
  have hsp : (putText [] s).length ≤ 302 := by
    rw [putText, if_pos (by omega), List.length_append, List.length_append, putB_len]; show 0 + 2 + s.length ≤ 302; omega
  have hT2 := text_app (r := g) hl1 (show (300 : Int) ≤ 300 by decide)
  have hbP : ∀ y ∈ putB x K ++ g, y < 256 := fun y hy => by
    rcases List.mem_append.1 hy with h | h
    · exact putB_byte _ _ y h
    · exact hg8 y h
  have hbT : ∀ y ∈ putText [] s ++ g, y < 256 := fun y hy => by
    rcases List.mem_append.1 hy with h | h
    · exact putText_byte (by simp) hs8 y h
    · exact hg8 y h
  have e8z : True := trivial
  have e8n : True := trivial
  have hw : (((x % 256 ^ K : Nat) : Int) != (x : Int)) = false := by
    have : K = 8 := by omega
    subst this
    rw [Nat.mod_eq_of_lt (by omega)]; simp
  have hA : takeT b (IntKind.i64.wrap (1 + IntKind.i64.wrap ((n : Int).tmod 8))) = (0, [], false) := by rw [ek, takeT, if_neg (by omega)]
  have hz6 : z < 256 ^ 2 := by
    have := takeN_lt (b.take 2) (fun y hy => hb8 y (List.mem_of_mem_take hy))
    rwa [hz, List.length_take, Nat.min_eq_left (by omega)] at this
  have hB : textT b 65535 = ((b.drop 2).take z, b.drop (2 + z), true) := by
    rw [textT, hz, if_pos ⟨by omega, by omega, by omega⟩]
  have hPB : putText [] ((b.drop 2).take z) = b.take (2 + z) := text_put hb8 hz (by omega)
  have hcB : b.take (2 + z) ++ b.drop (2 + z) = b := List.take_append_drop (2 + z) b
  have hlB : (b.take (2 + z)).length ≤ 200 := by rw [List.length_take]; omega
  have hlB2 : (b.drop (2 + z)).length ≤ 200 := by rw [List.length_drop]; omega
  have hlB3 : ((b.drop 2).take z).length ≤ 200 := by rw [List.length_take, List.length_drop]; omega
  refine fn_val (C := seat) seat_ok [] GG_no (Try.func4) rfl rfl rfl rfl rfl (fun _ => rfl) rfl ?_
  repeat' ((try conv => whnf); first
    | (with_reducible refine BB_true ?_)
    | (with_reducible refine BB_false ?_)
    | (with_reducible refine Both.mk ?_ ?_)
    | (with_reducible refine VS.mk ?_)
    | (refine PSem.go (C := seat) seat_ok ?_)
    | (refine And.intro (PlanOK.mk (by kernel_rfl) rfl (by kernel_rfl) (by kernel_rfl)) ?_)
    | (refine And.intro rfl (Exists.intro _ (And.intro (by first | assumption | rfl) ?_)))
    | (refine And.intro ⟨rfl, rfl, rfl⟩ ?_)
    | (refine call_roN [.g 0] (put_is [] [] 0 0 0 x x _ rfl rfl (by decide) (by decide) hx (putB x K) (hput x)) GG_no rfl rfl ⟨.inr ⟨_, _, _, rfl, rfl⟩, .inl rfl, .inl rfl, trivial⟩ ⟨.inr ⟨rfl, _, rfl⟩, trivial⟩ ?_; rintro r bs' ext ⟨cp, hcp, rfl, rfl⟩)
    | (refine call_ro [_] (take_is (putB x K ++ g) _ 0 _ _ _ (app_h _ g rfl) (app_len _ g rfl) hcap' (by omega) hbP (x % 256 ^ K, g, true) hT1) GG_no rfl rfl rfl ⟨⟨_, rfl, rfl, rfl⟩, trivial⟩ ?_; rintro r bs' ext ⟨ct, hct, rfl, rfl⟩)
    | (refine call_roN [.g 0, .o 0] (putText_is [] s [] _ 0 0 0 0 _ _ rfl (by decide) (all_row _) (all_len _) (by decide) (by omega) (putText [] s) rfl) GG_no rfl rfl ⟨.inr ⟨_, _, _, rfl, rfl⟩, .inl rfl, trivial⟩ ⟨.inr ⟨rfl, _, rfl⟩, .inl ⟨_, rfl, rfl, rfl⟩, trivial⟩ ?_; rintro r bs' ext ⟨cq, hcq, rfl, rfl⟩)
    | (refine call_ro [_] (takeText_is (putText [] s ++ g) _ 0 _ _ _ (app_h _ g rfl) (app_len _ g rfl) hcap' (by omega) hbT (s, g, true) hT2) GG_no rfl rfl rfl ⟨⟨_, rfl, rfl, rfl⟩, trivial⟩ ?_; rintro r bs' ext ⟨cu, cv, hcu, hcv, rfl, rfl⟩)
    | (refine call_ro [.o 2] (take_is b _ 0 _ _ _ (all_row b) (all_len b) hc3 (by omega) hb8 (0, [], false) hA) GG_no rfl rfl rfl ⟨⟨_, rfl, rfl, rfl⟩, trivial⟩ ?_; rintro r bs' ext ⟨cw, hcw, rfl, rfl⟩)
    | (refine call_ro [.o 2] (takeText_is b _ 0 _ _ _ (all_row b) (all_len b) hc3 (by omega) hb8 ((b.drop 2).take z, b.drop (2 + z), true) hB) GG_no rfl rfl rfl ⟨⟨_, rfl, rfl, rfl⟩, trivial⟩ ?_; rintro r bs' ext ⟨cx, cy, hcx, hcy, rfl, rfl⟩)
    | (refine call_roN [.g 0, _] (putText_is [] ((b.drop 2).take z) [] _ 0 0 0 0 _ _ rfl (by decide) (all_row _) (all_len _) (by decide) (by omega) (b.take (2 + z)) hPB) GG_no rfl rfl ⟨.inr ⟨_, _, _, rfl, rfl⟩, .inl rfl, trivial⟩ ⟨.inr ⟨rfl, _, rfl⟩, .inl ⟨_, rfl, rfl, rfl⟩, trivial⟩ ?_; rintro r bs' ext ⟨da, hda, rfl, rfl⟩)
    | (refine call_ro [_, _] (same_is b b _ _ 0 0 _ _ _ _ true hb8 hb8 ((app_h (b.take (2 + z)) (b.drop (2 + z)) rfl).trans (by rw [hcB])) (all_row b) (app_len (b.take (2 + z)) (b.drop (2 + z)) rfl) (all_len b) (decide_eq_true rfl)) GG_no rfl rfl rfl ⟨⟨_, rfl, rfl, rfl⟩, ⟨_, rfl, rfl, rfl⟩, trivial⟩ ?_; rintro r bs' ext ⟨rfl, rfl⟩)
    | (refine call_ro [_, _] (same_all g _ _ hg8) GG_no rfl rfl rfl ⟨⟨_, rfl, rfl, rfl⟩, ⟨_, rfl, rfl, rfl⟩, trivial⟩ ?_; rintro r bs' ext ⟨rfl, rfl⟩)
    | (refine call_ro [_, _] (same_all s _ _ hs8) GG_no rfl rfl rfl ⟨⟨_, rfl, rfl, rfl⟩, ⟨_, rfl, rfl, rfl⟩, trivial⟩ ?_; rintro r bs' ext ⟨rfl, rfl⟩)
    | (refine call_ro [_, _] (same_is g g _ _ 0 0 _ _ _ _ true hg8 hg8 (all_row g) (nil_h g) (all_len g) (nil_len g) (decide_eq_true rfl)) GG_no rfl rfl rfl ⟨⟨_, rfl, rfl, rfl⟩, ⟨_, rfl, rfl, rfl⟩, trivial⟩ ?_; rintro r bs' ext ⟨rfl, rfl⟩)
    | (refine call_ro [] (awake_ok) GG_no rfl rfl rfl trivial ?_; rintro r bs' ext ⟨rfl, rfl⟩)
    | (refine And.intro ⟨rfl, rfl, rfl, rfl⟩ ?_)
    | (refine And.intro ⟨rfl, rfl, rfl, by rw [List.length_map]⟩ ?_)
    | (refine And.intro ⟨rfl, by rw [List.length_map]; omega⟩ ?_)
    | (refine And.intro e8z ?_)
    | (refine And.intro e8n ?_)
    | (refine And.intro (by first | omega | (dsimp only; omega)) ?_)
    | (intro cap' hcap')
    | (refine And.intro (by omega) ?_)
    | (refine BB.mk (fun _h => ?_) (fun _h => ?_) <;> (first | (exact absurd _h (by decide)) | (exfalso; simp only [ek, hw, boolSet] at _h <;> omega) | skip)))
  all_goals (try conv => whnf)
  all_goals first
    | exact Fin.mk ⟨rfl, rfl⟩
    | (exfalso; exact absurd (hw.symm.trans _h) (by decide))
set_option maxRecDepth 100000 in
set_option maxHeartbeats 4000000 in
theorem wireBack_000 (x n : Nat) (s g b : List Nat) (c1 c2 c3 : Nat) (hx : x < 2 ^ 64) (hn : n ≤ 255) (hs8 : ∀ y ∈ s, y < 256) (hg8 : ∀ y ∈ g, y < 256) (hb8 : ∀ y ∈ b, y < 256) (hc3 : b.length ≤ c3) (hl1 : s.length ≤ 300) (hl2 : g.length ≤ 100) (hl3 : b.length ≤ 200) (K : Nat) (hK1 : 1 ≤ K) (hK2 : K ≤ 8) (ek : (IntKind.i64.wrap (1 + IntKind.i64.wrap ((n : Int).tmod 8))) = (K : Int)) (hk8 : ¬ K < 8) (hav : ¬ K ≤ b.length) (hbv : ¬ (2 ≤ b.length ∧ takeN (b.take 2) + 2 ≤ b.length)) : FnOK Try.prog GG 4 [.ro 1 (s.map bN), .ro 1 (g.map bN), .ro 1 (b.map bN)] [.v (.int .u64 x), .v (.int .u8 n), .s (.o 0) 1 0 s.length c1, .s (.o 1) 1 0 g.length c2, .s (.o 2) 1 0 b.length c3] (fun r _ ext => r = .v (.bool true) ∧ ext = []) := by
  have hPK : (putB x K).length = K := putB_len x K
  have hput : ∀ y, putT [] y (IntKind.i64.wrap (1 + IntKind.i64.wrap ((n : Int).tmod 8))) = putB y K := fun y => by rw [ek, putT, if_pos ⟨by omega, by omega⟩]; rfl
  have hT1 : takeT (putB x K ++ g) (IntKind.i64.wrap (1 + IntKind.i64.wrap ((n : Int).tmod 8))) = (x % 256 ^ K, g, true) := by
    rw [ek, takeT, if_pos ⟨by omega, by omega, by rw [List.length_append, hPK]; omega⟩, Int.toNat_natCast, take_app, drop_app]
  have hL1 : (putB x K).length + g.length ≤ 108 := by omega
  have hsp : (putText [] s).length ≤ 302 := by
    rw [putText, if_pos (by omega), List.length_append, List.length_append, putB_len]; show 0 + 2 + s.length ≤ 302; omega
  have hT2 := text_app (r := g) hl1 (show (300 : Int) ≤ 300 by decide)
  have hbP : ∀ y ∈ putB x K ++ g, y < 256 := fun y hy => by
    rcases List.mem_append.1 hy with h | h
    · exact putB_byte _ _ y h
    · exact hg8 y h
  have hbT : ∀ y ∈ putText [] s ++ g, y < 256 := fun y hy => by
    rcases List.mem_append.1 hy with h | h
    · exact putText_byte (by simp) hs8 y h
    · exact hg8 y h
  have e8z : True := trivial
  have e8n : True := trivial
  have hw : (((x % 256 ^ K : Nat) : Int) != (x : Int)) = false := by
    have : K = 8 := by omega
    subst this
    rw [Nat.mod_eq_of_lt (by omega)]; simp
  have hA : takeT b (IntKind.i64.wrap (1 + IntKind.i64.wrap ((n : Int).tmod 8))) = (0, [], false) := by rw [ek, takeT, if_neg (by omega)]
  have hB : textT b 65535 = ([], [], false) := by rw [textT, if_neg (by omega)]
  refine fn_val (C := seat) seat_ok [] GG_no (Try.func4) rfl rfl rfl rfl rfl (fun _ => rfl) rfl ?_
  repeat' ((try conv => whnf); first
    | (with_reducible refine BB_true ?_)
    | (with_reducible refine BB_false ?_)
    | (with_reducible refine Both.mk ?_ ?_)
    | (with_reducible refine VS.mk ?_)
    | (refine PSem.go (C := seat) seat_ok ?_)
    | (refine And.intro (PlanOK.mk (by kernel_rfl) rfl (by kernel_rfl) (by kernel_rfl)) ?_)
    | (refine And.intro rfl (Exists.intro _ (And.intro (by first | assumption | rfl) ?_)))
    | (refine And.intro ⟨rfl, rfl, rfl⟩ ?_)
    | (refine call_roN [.g 0] (put_is [] [] 0 0 0 x x _ rfl rfl (by decide) (by decide) hx (putB x K) (hput x)) GG_no rfl rfl ⟨.inr ⟨_, _, _, rfl, rfl⟩, .inl rfl, .inl rfl, trivial⟩ ⟨.inr ⟨rfl, _, rfl⟩, trivial⟩ ?_; rintro r bs' ext ⟨cp, hcp, rfl, rfl⟩)
    | (refine call_ro [_] (take_is (putB x K ++ g) _ 0 _ _ _ (app_h _ g rfl) (app_len _ g rfl) hcap' (by omega) hbP (x % 256 ^ K, g, true) hT1) GG_no rfl rfl rfl ⟨⟨_, rfl, rfl, rfl⟩, trivial⟩ ?_; rintro r bs' ext ⟨ct, hct, rfl, rfl⟩)
    | (refine call_roN [.g 0, .o 0] (putText_is [] s [] _ 0 0 0 0 _ _ rfl (by decide) (all_row _) (all_len _) (by decide) (by omega) (putText [] s) rfl) GG_no rfl rfl ⟨.inr ⟨_, _, _, rfl, rfl⟩, .inl rfl, trivial⟩ ⟨.inr ⟨rfl, _, rfl⟩, .inl ⟨_, rfl, rfl, rfl⟩, trivial⟩ ?_; rintro r bs' ext ⟨cq, hcq, rfl, rfl⟩)
    | (refine call_ro [_] (takeText_is (putText [] s ++ g) _ 0 _ _ _ (app_h _ g rfl) (app_len _ g rfl) hcap' (by omega) hbT (s, g, true) hT2) GG_no rfl rfl rfl ⟨⟨_, rfl, rfl, rfl⟩, trivial⟩ ?_; rintro r bs' ext ⟨cu, cv, hcu, hcv, rfl, rfl⟩)
    | (refine call_ro [.o 2] (take_is b _ 0 _ _ _ (all_row b) (all_len b) hc3 (by omega) hb8 (0, [], false) hA) GG_no rfl rfl rfl ⟨⟨_, rfl, rfl, rfl⟩, trivial⟩ ?_; rintro r bs' ext ⟨cw, hcw, rfl, rfl⟩)
    | (refine call_ro [.o 2] (takeText_is b _ 0 _ _ _ (all_row b) (all_len b) hc3 (by omega) hb8 ([], [], false) hB) GG_no rfl rfl rfl ⟨⟨_, rfl, rfl, rfl⟩, trivial⟩ ?_; rintro r bs' ext ⟨cx, cy, hcx, hcy, rfl, rfl⟩)
    | (refine call_ro [_, _] (same_all g _ _ hg8) GG_no rfl rfl rfl ⟨⟨_, rfl, rfl, rfl⟩, ⟨_, rfl, rfl, rfl⟩, trivial⟩ ?_; rintro r bs' ext ⟨rfl, rfl⟩)
    | (refine call_ro [_, _] (same_all s _ _ hs8) GG_no rfl rfl rfl ⟨⟨_, rfl, rfl, rfl⟩, ⟨_, rfl, rfl, rfl⟩, trivial⟩ ?_; rintro r bs' ext ⟨rfl, rfl⟩)
    | (refine call_ro [_, _] (same_is g g _ _ 0 0 _ _ _ _ true hg8 hg8 (all_row g) (nil_h g) (all_len g) (nil_len g) (decide_eq_true rfl)) GG_no rfl rfl rfl ⟨⟨_, rfl, rfl, rfl⟩, ⟨_, rfl, rfl, rfl⟩, trivial⟩ ?_; rintro r bs' ext ⟨rfl, rfl⟩)
    | (refine call_ro [] (awake_ok) GG_no rfl rfl rfl trivial ?_; rintro r bs' ext ⟨rfl, rfl⟩)
    | (refine And.intro ⟨rfl, rfl, rfl, rfl⟩ ?_)
    | (refine And.intro ⟨rfl, rfl, rfl, by rw [List.length_map]⟩ ?_)
    | (refine And.intro ⟨rfl, by rw [List.length_map]; omega⟩ ?_)
    | (refine And.intro e8z ?_)
    | (refine And.intro e8n ?_)
    | (refine And.intro (by first | omega | (dsimp only; omega)) ?_)
    | (intro cap' hcap')
    | (refine And.intro (by omega) ?_)
    | (refine BB.mk (fun _h => ?_) (fun _h => ?_) <;> (first | (exact absurd _h (by decide)) | (exfalso; simp only [ek, hw, boolSet] at _h <;> omega) | skip)))
  all_goals (try conv => whnf)
  all_goals first
    | exact Fin.mk ⟨rfl, rfl⟩
    | (exfalso; exact absurd (hw.symm.trans _h) (by decide))
set_option maxRecDepth 100000 in
set_option maxHeartbeats 4000000 in
theorem wireBack_ok (x n : Nat) (s g b : List Nat) (c1 c2 c3 : Nat) (hx : x < 2 ^ 64) (hn : n ≤ 255) (hs8 : ∀ y ∈ s, y < 256) (hg8 : ∀ y ∈ g, y < 256) (hb8 : ∀ y ∈ b, y < 256) (hc3 : b.length ≤ c3) : FnOK Try.prog GG 4 [.ro 1 (s.map bN), .ro 1 (g.map bN), .ro 1 (b.map bN)] [.v (.int .u64 x), .v (.int .u8 n), .s (.o 0) 1 0 s.length c1, .s (.o 1) 1 0 g.length c2, .s (.o 2) 1 0 b.length c3] (fun r _ ext => r = .v (.bool true) ∧ ext = []) := by
  by_cases hlen : s.length ≤ 300 ∧ g.length ≤ 100 ∧ b.length ≤ 200
  · obtain ⟨hl1, hl2, hl3⟩ := hlen
    have ek := ek_of n
    obtain ⟨K, hK⟩ : ∃ K, K = 1 + n % 8 := ⟨_, rfl⟩
    rw [← hK] at ek
    have hK1 : 1 ≤ K := by omega
    have hK2 : K ≤ 8 := by omega
    by_cases hk8 : K < 8
    · by_cases hav : K ≤ b.length
      · by_cases hbv : 2 ≤ b.length ∧ takeN (b.take 2) + 2 ≤ b.length
        · exact wireBack_111 x n s g b c1 c2 c3 hx hn hs8 hg8 hb8 hc3 hl1 hl2 hl3 K hK1 hK2 ek hk8 hav _ rfl hbv
        · exact wireBack_110 x n s g b c1 c2 c3 hx hn hs8 hg8 hb8 hc3 hl1 hl2 hl3 K hK1 hK2 ek hk8 hav hbv
      · by_cases hbv : 2 ≤ b.length ∧ takeN (b.take 2) + 2 ≤ b.length
        · exact wireBack_101 x n s g b c1 c2 c3 hx hn hs8 hg8 hb8 hc3 hl1 hl2 hl3 K hK1 hK2 ek hk8 hav _ rfl hbv
        · exact wireBack_100 x n s g b c1 c2 c3 hx hn hs8 hg8 hb8 hc3 hl1 hl2 hl3 K hK1 hK2 ek hk8 hav hbv
    · by_cases hav : K ≤ b.length
      · by_cases hbv : 2 ≤ b.length ∧ takeN (b.take 2) + 2 ≤ b.length
        · exact wireBack_011 x n s g b c1 c2 c3 hx hn hs8 hg8 hb8 hc3 hl1 hl2 hl3 K hK1 hK2 ek hk8 hav _ rfl hbv
        · exact wireBack_010 x n s g b c1 c2 c3 hx hn hs8 hg8 hb8 hc3 hl1 hl2 hl3 K hK1 hK2 ek hk8 hav hbv
      · by_cases hbv : 2 ≤ b.length ∧ takeN (b.take 2) + 2 ≤ b.length
        · exact wireBack_001 x n s g b c1 c2 c3 hx hn hs8 hg8 hb8 hc3 hl1 hl2 hl3 K hK1 hK2 ek hk8 hav _ rfl hbv
        · exact wireBack_000 x n s g b c1 c2 c3 hx hn hs8 hg8 hb8 hc3 hl1 hl2 hl3 K hK1 hK2 ek hk8 hav hbv
  · rcases (show 300 < s.length ∨ (s.length ≤ 300 ∧ 100 < g.length) ∨ (s.length ≤ 300 ∧ g.length ≤ 100 ∧ 200 < b.length) by omega) with h | h | h
    all_goals
      refine fn_val (C := seat) seat_ok [] GG_no (Try.func4) rfl rfl rfl rfl rfl (fun _ => rfl) rfl ?_
      repeat' ((try conv => whnf); first
        | (with_reducible refine BB_true ?_)
        | (with_reducible refine BB_false ?_)
        | (with_reducible refine Both.mk ?_ ?_)
        | (with_reducible refine VS.mk ?_)
        | (refine PSem.go (C := seat) seat_ok ?_)
        | (refine And.intro (PlanOK.mk (by kernel_rfl) rfl (by kernel_rfl) (by kernel_rfl)) ?_)
        | (refine And.intro rfl (Exists.intro _ (And.intro (by first | assumption | rfl) ?_)))
        | (refine And.intro ⟨rfl, rfl, rfl⟩ ?_)
        | (refine call_ro [] (awake_ok) GG_no rfl rfl rfl trivial ?_; rintro r bs' ext ⟨rfl, rfl⟩)
        | (refine And.intro (by omega) ?_)
        | (refine BB.mk (fun _h => ?_) (fun _h => ?_) <;> (first | (exact absurd _h (by decide)) | (exfalso; simp only [boolSet] at _h <;> omega) | skip)))
      all_goals (try conv => whnf)
      all_goals exact Fin.mk ⟨rfl, rfl⟩
end Go.Proofs.Ytcjegbcljipcbaa
