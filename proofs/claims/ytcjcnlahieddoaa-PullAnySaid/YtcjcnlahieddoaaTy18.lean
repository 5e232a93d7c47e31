/- The seat's types, as the walks by computing want them. -/
import Derived.Test.YtcjcnlahieddoaaSymL
namespace Go.Proofs.Ytcjcnlahieddoaa
open Go.RowKit

def seatT : List (Nat × TI) := [
  (1, ⟨1, 8, [.nilFunc], .fn⟩),
  (2, ⟨1, 8, [.int .i64 0], .int .i64⟩),
  (3, ⟨1, 8, [.int .i64 0], .int .i64⟩),
  (4, ⟨1, 1, [.bool false], .bool⟩),
  (5, ⟨1, 1, [.int .u8 0], .int .u8⟩),
  (7, ⟨4, 24, [.int .i64 0, .int .i64 0, .bool false, .int .u8 0], .struct [(0, 2), (1, 3), (2, 4), (3, 6)]⟩),
  (9, ⟨1, 16, [.string (ByteArray.mk #[])], .str⟩),
  (12, ⟨1, 8, [.int .u64 0], .int .u64⟩),
  (13, ⟨2, 24, [.string (ByteArray.mk #[]), .int .u64 0], .struct [(0, 9), (1, 12)]⟩),
  (15, ⟨1, 8, [.pointer none], .ptr⟩),
  (16, ⟨1, 8, [.pointer none], .ptr⟩),
  (17, ⟨1, 8, [.pointer none], .ptr⟩),
  (18, ⟨1, 8, [.pointer none], .struct [(0, 17)]⟩),
  (21, ⟨1, 4, [.int .i32 0], .int .i32⟩),
  (22, ⟨1, 24, [.slice none 0 0], .slice 28⟩),
  (23, ⟨1, 2, [.int .u16 0], .int .u16⟩),
  (24, ⟨1, 4, [.int .u32 0], .int .u32⟩),
  (25, ⟨3, 8, [.int .u8 0, .int .u16 0, .int .u32 0], .struct [(0, 5), (1, 23), (2, 24)]⟩),
  (26, ⟨3, 8, [.int .u8 0, .int .u16 0, .int .u32 0], .struct [(0, 5), (1, 23), (2, 24)]⟩),
  (27, ⟨5, 12, [.int .u8 0, .int .u16 0, .int .u32 0, .int .u8 0, .int .u8 0], .struct [(0, 26), (3, 5), (4, 5)]⟩),
  (28, ⟨5, 12, [.int .u8 0, .int .u16 0, .int .u32 0, .int .u8 0, .int .u8 0], .struct [(0, 26), (3, 5), (4, 5)]⟩),
  (29, ⟨1, 8, [.nilFunc], .fn⟩),
  (30, ⟨1, 8, [.nilFunc], .fn⟩),
  (31, ⟨1, 8, [.nilFunc], .fn⟩),
  (32, ⟨1, 8, [.int .i64 0], .int .i64⟩),
  (34, ⟨1, 8, [.nilFunc], .fn⟩),
  (35, ⟨1, 24, [.slice none 0 0], .slice 26⟩),
  (37, ⟨1, 8, [.nilFunc], .fn⟩),
  (38, ⟨1, 8, [.nilFunc], .fn⟩),
  (39, ⟨1, 8, [.nilFunc], .fn⟩),
  (40, ⟨1, 8, [.nilFunc], .fn⟩),
  (41, ⟨1, 8, [.nilFunc], .fn⟩),
  (42, ⟨1, 24, [.slice none 0 0], .slice 45⟩),
  (44, ⟨6, 16, [.int .u8 0, .int .u8 0, .int .u16 0, .int .u32 0, .int .u8 0, .int .u8 0], .struct [(0, 5), (1, 28)]⟩),
  (45, ⟨6, 16, [.int .u8 0, .int .u8 0, .int .u16 0, .int .u32 0, .int .u8 0, .int .u8 0], .struct [(0, 5), (1, 28)]⟩),
  (47, ⟨1, 8, [.nilFunc], .fn⟩),
  (48, ⟨1, 8, [.nilFunc], .fn⟩),
  (49, ⟨1, 8, [.nilFunc], .fn⟩),
  (50, ⟨1, 8, [.nilFunc], .fn⟩),
  (52, ⟨1, 8, [.nilFunc], .fn⟩),
  (53, ⟨1, 8, [.nilFunc], .fn⟩),
  (54, ⟨1, 8, [.nilFunc], .fn⟩),
  (55, ⟨1, 8, [.nilFunc], .fn⟩),
  (56, ⟨1, 8, [.nilFunc], .fn⟩),
  (57, ⟨1, 8, [.nilFunc], .fn⟩),
  (58, ⟨1, 8, [.nilFunc], .fn⟩),
  (59, ⟨1, 8, [.nilFunc], .fn⟩),
  (60, ⟨1, 8, [.nilFunc], .fn⟩),
  (61, ⟨1, 8, [.nilFunc], .fn⟩),
  (62, ⟨1, 8, [.nilFunc], .fn⟩),
  (63, ⟨1, 8, [.nilFunc], .fn⟩),
  (64, ⟨1, 8, [.nilFunc], .fn⟩),
  (65, ⟨1, 8, [.nilFunc], .fn⟩),
  (66, ⟨1, 24, [.slice none 0 0], .slice 22⟩),
  (67, ⟨1, 8, [.nilFunc], .fn⟩),
  (68, ⟨1, 8, [.nilFunc], .fn⟩),
  (69, ⟨1, 24, [.slice none 0 0], .slice 35⟩),
  (70, ⟨1, 8, [.nilFunc], .fn⟩),
  (71, ⟨1, 8, [.nilFunc], .fn⟩),
  (72, ⟨4, 40, [.pointer none, .pointer none, .pointer none, .string (ByteArray.mk #[])], .struct [(0, 17), (1, 17), (2, 17), (3, 9)]⟩),
  (74, ⟨0, 0, [], .array 0 16⟩),
  (77, ⟨1, 8, [.nilFunc], .fn⟩),
  (80, ⟨1, 8, [.nilFunc], .fn⟩),
  (81, ⟨1, 8, [.pointer none], .ptr⟩),
  (84, ⟨11, 48, [.int .u64 0, .int .u64 0, .int .u32 0, .int .u8 0, .int .u8 0, .int .u8 0, .int .u8 0, .nilFunc, .pointer none, .int .i32 0, .int .i32 0], .struct [(0, 12), (1, 12), (2, 24), (3, 78), (4, 5), (5, 5), (6, 79), (7, 80), (8, 81), (9, 82), (10, 83)]⟩),
  (86, ⟨1, 8, [.pointer none], .other⟩)]
def seatE : List (Nat × List IntKind) := [(25, [.u8, .u16, .u32]), (26, [.u8, .u16, .u32]), (27, [.u8, .u16, .u32, .u8, .u8]), (28, [.u8, .u16, .u32, .u8, .u8])]
noncomputable def seat : Seat := { P := Try.prog, T := seatT, E := seatE }
theorem seatT_ok : ∀ p ∈ seatT, TIok Try.prog p.1 p.2 :=
  List.forall_mem_cons.2 ⟨⟨by kernel_rfl, by kernel_rfl⟩,
  List.forall_mem_cons.2 ⟨⟨by kernel_rfl, by kernel_rfl⟩,
  List.forall_mem_cons.2 ⟨⟨by kernel_rfl, by kernel_rfl⟩,
  List.forall_mem_cons.2 ⟨⟨by kernel_rfl, by kernel_rfl⟩,
  List.forall_mem_cons.2 ⟨⟨by kernel_rfl, by kernel_rfl⟩,
  List.forall_mem_cons.2 ⟨⟨by kernel_rfl, by kernel_rfl⟩,
  List.forall_mem_cons.2 ⟨⟨by kernel_rfl, by kernel_rfl⟩,
  List.forall_mem_cons.2 ⟨⟨by kernel_rfl, by kernel_rfl⟩,
  List.forall_mem_cons.2 ⟨⟨by kernel_rfl, by kernel_rfl⟩,
  List.forall_mem_cons.2 ⟨⟨by kernel_rfl, by kernel_rfl⟩,
  List.forall_mem_cons.2 ⟨⟨by kernel_rfl, by kernel_rfl⟩,
  List.forall_mem_cons.2 ⟨⟨by kernel_rfl, by kernel_rfl⟩,
  List.forall_mem_cons.2 ⟨⟨by kernel_rfl, by kernel_rfl⟩,
  List.forall_mem_cons.2 ⟨⟨by kernel_rfl, by kernel_rfl⟩,
  List.forall_mem_cons.2 ⟨⟨by kernel_rfl, by kernel_rfl⟩,
  List.forall_mem_cons.2 ⟨⟨by kernel_rfl, by kernel_rfl⟩,
  List.forall_mem_cons.2 ⟨⟨by kernel_rfl, by kernel_rfl⟩,
  List.forall_mem_cons.2 ⟨⟨by kernel_rfl, by kernel_rfl⟩,
  List.forall_mem_cons.2 ⟨⟨by kernel_rfl, by kernel_rfl⟩,
  List.forall_mem_cons.2 ⟨⟨by kernel_rfl, by kernel_rfl⟩,
  List.forall_mem_cons.2 ⟨⟨by kernel_rfl, by kernel_rfl⟩,
  List.forall_mem_cons.2 ⟨⟨by kernel_rfl, by kernel_rfl⟩,
  List.forall_mem_cons.2 ⟨⟨by kernel_rfl, by kernel_rfl⟩,
  List.forall_mem_cons.2 ⟨⟨by kernel_rfl, by kernel_rfl⟩,
  List.forall_mem_cons.2 ⟨⟨by kernel_rfl, by kernel_rfl⟩,
  List.forall_mem_cons.2 ⟨⟨by kernel_rfl, by kernel_rfl⟩,
  List.forall_mem_cons.2 ⟨⟨by kernel_rfl, by kernel_rfl⟩,
  List.forall_mem_cons.2 ⟨⟨by kernel_rfl, by kernel_rfl⟩,
  List.forall_mem_cons.2 ⟨⟨by kernel_rfl, by kernel_rfl⟩,
  List.forall_mem_cons.2 ⟨⟨by kernel_rfl, by kernel_rfl⟩,
  List.forall_mem_cons.2 ⟨⟨by kernel_rfl, by kernel_rfl⟩,
  List.forall_mem_cons.2 ⟨⟨by kernel_rfl, by kernel_rfl⟩,
  List.forall_mem_cons.2 ⟨⟨by kernel_rfl, by kernel_rfl⟩,
  List.forall_mem_cons.2 ⟨⟨by kernel_rfl, by kernel_rfl⟩,
  List.forall_mem_cons.2 ⟨⟨by kernel_rfl, by kernel_rfl⟩,
  List.forall_mem_cons.2 ⟨⟨by kernel_rfl, by kernel_rfl⟩,
  List.forall_mem_cons.2 ⟨⟨by kernel_rfl, by kernel_rfl⟩,
  List.forall_mem_cons.2 ⟨⟨by kernel_rfl, by kernel_rfl⟩,
  List.forall_mem_cons.2 ⟨⟨by kernel_rfl, by kernel_rfl⟩,
  List.forall_mem_cons.2 ⟨⟨by kernel_rfl, by kernel_rfl⟩,
  List.forall_mem_cons.2 ⟨⟨by kernel_rfl, by kernel_rfl⟩,
  List.forall_mem_cons.2 ⟨⟨by kernel_rfl, by kernel_rfl⟩,
  List.forall_mem_cons.2 ⟨⟨by kernel_rfl, by kernel_rfl⟩,
  List.forall_mem_cons.2 ⟨⟨by kernel_rfl, by kernel_rfl⟩,
  List.forall_mem_cons.2 ⟨⟨by kernel_rfl, by kernel_rfl⟩,
  List.forall_mem_cons.2 ⟨⟨by kernel_rfl, by kernel_rfl⟩,
  List.forall_mem_cons.2 ⟨⟨by kernel_rfl, by kernel_rfl⟩,
  List.forall_mem_cons.2 ⟨⟨by kernel_rfl, by kernel_rfl⟩,
  List.forall_mem_cons.2 ⟨⟨by kernel_rfl, by kernel_rfl⟩,
  List.forall_mem_cons.2 ⟨⟨by kernel_rfl, by kernel_rfl⟩,
  List.forall_mem_cons.2 ⟨⟨by kernel_rfl, by kernel_rfl⟩,
  List.forall_mem_cons.2 ⟨⟨by kernel_rfl, by kernel_rfl⟩,
  List.forall_mem_cons.2 ⟨⟨by kernel_rfl, by kernel_rfl⟩,
  List.forall_mem_cons.2 ⟨⟨by kernel_rfl, by kernel_rfl⟩,
  List.forall_mem_cons.2 ⟨⟨by kernel_rfl, by kernel_rfl⟩,
  List.forall_mem_cons.2 ⟨⟨by kernel_rfl, by kernel_rfl⟩,
  List.forall_mem_cons.2 ⟨⟨by kernel_rfl, by kernel_rfl⟩,
  List.forall_mem_cons.2 ⟨⟨by kernel_rfl, by kernel_rfl⟩,
  List.forall_mem_cons.2 ⟨⟨by kernel_rfl, by kernel_rfl⟩,
  List.forall_mem_cons.2 ⟨⟨by kernel_rfl, by kernel_rfl⟩,
  List.forall_mem_cons.2 ⟨⟨by kernel_rfl, by kernel_rfl⟩,
  List.forall_mem_cons.2 ⟨⟨by kernel_rfl, by kernel_rfl⟩,
  List.forall_mem_cons.2 ⟨⟨by kernel_rfl, by kernel_rfl⟩,
  List.forall_mem_cons.2 ⟨⟨by kernel_rfl, by kernel_rfl⟩,
  List.forall_mem_cons.2 ⟨⟨by kernel_rfl, by kernel_rfl⟩,
  List.forall_mem_cons.2 ⟨⟨by kernel_rfl, by kernel_rfl⟩,
  fun _ h => (nomatch h)⟩⟩⟩⟩⟩⟩⟩⟩⟩⟩⟩⟩⟩⟩⟩⟩⟩⟩⟩⟩⟩⟩⟩⟩⟩⟩⟩⟩⟩⟩⟩⟩⟩⟩⟩⟩⟩⟩⟩⟩⟩⟩⟩⟩⟩⟩⟩⟩⟩⟩⟩⟩⟩⟩⟩⟩⟩⟩⟩⟩⟩⟩⟩⟩⟩⟩
theorem seatE_25 : EqOK Try.prog 25 [.u8, .u16, .u32] := by
  intro xs ys x y w hx hy
  match xs, ys, hx, hy with
  | [a0, a1, a2], [b0, b1, b2], _, _ =>
    refine ⟨?_, ?_⟩
    all_goals
      by_cases h0 : a0 = b0 <;> by_cases h1 : a1 = b1 <;> by_cases h2 : a2 = b2 <;> simp [aggI, eqInts, eqGuard, go_sem, h0, h1, h2]
theorem seatE_26 : EqOK Try.prog 26 [.u8, .u16, .u32] := by
  intro xs ys x y w hx hy
  match xs, ys, hx, hy with
  | [a0, a1, a2], [b0, b1, b2], _, _ =>
    refine ⟨?_, ?_⟩
    all_goals
      by_cases h0 : a0 = b0 <;> by_cases h1 : a1 = b1 <;> by_cases h2 : a2 = b2 <;> simp [aggI, eqInts, eqGuard, go_sem, h0, h1, h2]
set_option maxHeartbeats 8000000 in
theorem seatE_27 : EqOK Try.prog 27 [.u8, .u16, .u32, .u8, .u8] := by
  intro xs ys x y w hx hy
  match xs, ys, hx, hy with
  | [a0, a1, a2, a3, a4], [b0, b1, b2, b3, b4], _, _ =>
    refine ⟨?_, ?_⟩
    all_goals
      by_cases h0 : a0 = b0 <;> by_cases h1 : a1 = b1 <;> by_cases h2 : a2 = b2 <;> by_cases h3 : a3 = b3 <;> by_cases h4 : a4 = b4 <;> simp [aggI, eqInts, eqGuard, go_sem, h0, h1, h2, h3, h4]
set_option maxHeartbeats 8000000 in
theorem seatE_28 : EqOK Try.prog 28 [.u8, .u16, .u32, .u8, .u8] := by
  intro xs ys x y w hx hy
  match xs, ys, hx, hy with
  | [a0, a1, a2, a3, a4], [b0, b1, b2, b3, b4], _, _ =>
    refine ⟨?_, ?_⟩
    all_goals
      by_cases h0 : a0 = b0 <;> by_cases h1 : a1 = b1 <;> by_cases h2 : a2 = b2 <;> by_cases h3 : a3 = b3 <;> by_cases h4 : a4 = b4 <;> simp [aggI, eqInts, eqGuard, go_sem, h0, h1, h2, h3, h4]
theorem seatE_ok : ∀ p ∈ seatE, EqOK Try.prog p.1 p.2 :=
  List.forall_mem_cons.2 ⟨seatE_25,
  List.forall_mem_cons.2 ⟨seatE_26,
  List.forall_mem_cons.2 ⟨seatE_27,
  List.forall_mem_cons.2 ⟨seatE_28,
  fun _ h => (nomatch h)⟩⟩⟩⟩
theorem seat_ok : seat.ok := ⟨fun t i h => seatT_ok _ (assoc_mem h), fun t ks h => seatE_ok _ (assoc_mem h)⟩
end Go.Proofs.Ytcjcnlahieddoaa
