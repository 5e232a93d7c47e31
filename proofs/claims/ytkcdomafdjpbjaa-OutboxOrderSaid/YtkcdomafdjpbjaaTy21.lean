/- The seat's types, as the walks by computing want them. -/
import Derived.Test.YtkcdomafdjpbjaaZX
namespace Go.Proofs.Ytkcdomafdjpbjaa
open Go.RowKit

def seatT : List (Nat × TI) := [
  (1, ⟨1, 8, [.nilFunc], .fn⟩),
  (2, ⟨1, 8, [.int .i64 0], .int .i64⟩),
  (3, ⟨1, 8, [.int .i64 0], .int .i64⟩),
  (4, ⟨1, 1, [.bool false], .bool⟩),
  (5, ⟨1, 1, [.int .u8 0], .int .u8⟩),
  (7, ⟨4, 24, [.int .i64 0, .int .i64 0, .bool false, .int .u8 0], .struct [(0, 2), (1, 3), (2, 4), (3, 6)]⟩),
  (9, ⟨1, 16, [.string (ByteArray.mk #[])], .str⟩),
  (12, ⟨1, 8, [.int .u64 0], .int .u64⟩),
  (13, ⟨2, 24, [.string (ByteArray.mk #[]), .int .u64 0], .struct [(0, 9), (1, 12)]⟩),
  (15, ⟨1, 8, [.pointer none], .ptr⟩),
  (16, ⟨1, 8, [.pointer none], .ptr⟩),
  (17, ⟨1, 8, [.pointer none], .ptr⟩),
  (18, ⟨1, 8, [.pointer none], .struct [(0, 17)]⟩),
  (21, ⟨1, 4, [.int .i32 0], .int .i32⟩),
  (22, ⟨1, 24, [.slice none 0 0], .slice 39⟩),
  (23, ⟨3, 40, [.int .i64 0, .slice none 0 0, .int .i64 0], .struct [(0, 3), (1, 22), (2, 3)]⟩),
  (24, ⟨3, 40, [.int .i64 0, .slice none 0 0, .int .i64 0], .struct [(0, 3), (1, 22), (2, 3)]⟩),
  (25, ⟨1, 2, [.int .u16 0], .int .u16⟩),
  (26, ⟨1, 24, [.slice none 0 0], .slice 55⟩),
  (27, ⟨1, 24, [.slice none 0 0], .slice 57⟩),
  (28, ⟨1, 4, [.int .u32 0], .int .u32⟩),
  (29, ⟨3, 8, [.int .u8 0, .int .u16 0, .int .u32 0], .struct [(0, 5), (1, 25), (2, 28)]⟩),
  (30, ⟨3, 8, [.int .u8 0, .int .u16 0, .int .u32 0], .struct [(0, 5), (1, 25), (2, 28)]⟩),
  (31, ⟨1, 24, [.slice none 0 0], .slice 21⟩),
  (32, ⟨1, 24, [.slice none 0 0], .slice 5⟩),
  (33, ⟨5, 56, [.int .u8 0, .int .u16 0, .int .u32 0, .slice none 0 0, .slice none 0 0], .struct [(0, 30), (3, 31), (4, 32)]⟩),
  (34, ⟨5, 56, [.int .u8 0, .int .u16 0, .int .u32 0, .slice none 0 0, .slice none 0 0], .struct [(0, 30), (3, 31), (4, 32)]⟩),
  (35, ⟨3, 8, [.int .u8 0, .int .u16 0, .int .u32 0], .struct [(0, 5), (1, 25), (2, 28)]⟩),
  (36, ⟨1, 24, [.slice none 0 0], .slice 35⟩),
  (37, ⟨1, 24, [.slice none 0 0], .slice 30⟩),
  (38, ⟨17, 176, [.int .u8 0, .int .u8 0, .int .u16 0, .int .u8 0, .slice none 0 0, .slice none 0 0, .int .u8 0, .int .u16 0, .int .u32 0, .slice none 0 0, .slice none 0 0, .int .u8 0, .int .u8 0, .int .u16 0, .int .u32 0, .slice none 0 0, .slice none 0 0], .struct [(0, 5), (1, 5), (2, 25), (3, 5), (4, 26), (5, 27), (6, 34), (11, 5), (12, 35), (15, 36), (16, 37)]⟩),
  (39, ⟨17, 176, [.int .u8 0, .int .u8 0, .int .u16 0, .int .u8 0, .slice none 0 0, .slice none 0 0, .int .u8 0, .int .u16 0, .int .u32 0, .slice none 0 0, .slice none 0 0, .int .u8 0, .int .u8 0, .int .u16 0, .int .u32 0, .slice none 0 0, .slice none 0 0], .struct [(0, 5), (1, 5), (2, 25), (3, 5), (4, 26), (5, 27), (6, 34), (11, 5), (12, 35), (15, 36), (16, 37)]⟩),
  (40, ⟨1, 8, [.nilFunc], .fn⟩),
  (41, ⟨1, 8, [.nilFunc], .fn⟩),
  (43, ⟨1, 8, [.nilFunc], .fn⟩),
  (44, ⟨1, 8, [.nilFunc], .fn⟩),
  (45, ⟨1, 8, [.nilFunc], .fn⟩),
  (46, ⟨1, 8, [.nilFunc], .fn⟩),
  (47, ⟨1, 8, [.nilFunc], .fn⟩),
  (48, ⟨1, 8, [.nilFunc], .fn⟩),
  (49, ⟨1, 8, [.nilFunc], .fn⟩),
  (50, ⟨2, 8, [.int .i32 0, .int .i32 0], .struct [(0, 21), (1, 21)]⟩),
  (51, ⟨2, 8, [.int .i32 0, .int .i32 0], .struct [(0, 21), (1, 21)]⟩),
  (52, ⟨1, 24, [.slice none 0 0], .slice 51⟩),
  (53, ⟨1, 24, [.slice none 0 0], .slice 51⟩),
  (54, ⟨4, 32, [.int .u8 0, .int .u16 0, .int .u8 0, .slice none 0 0], .struct [(0, 5), (1, 25), (2, 5), (3, 53)]⟩),
  (55, ⟨4, 32, [.int .u8 0, .int .u16 0, .int .u8 0, .slice none 0 0], .struct [(0, 5), (1, 25), (2, 5), (3, 53)]⟩),
  (56, ⟨3, 4, [.int .u16 0, .int .u8 0, .int .u8 0], .struct [(0, 25), (1, 5), (2, 5)]⟩),
  (57, ⟨3, 4, [.int .u16 0, .int .u8 0, .int .u8 0], .struct [(0, 25), (1, 5), (2, 5)]⟩),
  (58, ⟨1, 8, [.nilFunc], .fn⟩),
  (59, ⟨1, 8, [.nilFunc], .fn⟩),
  (60, ⟨1, 8, [.nilFunc], .fn⟩),
  (61, ⟨1, 24, [.slice none 0 0], .slice 34⟩),
  (62, ⟨1, 8, [.nilFunc], .fn⟩),
  (63, ⟨1, 8, [.nilFunc], .fn⟩),
  (64, ⟨1, 8, [.nilFunc], .fn⟩),
  (65, ⟨1, 8, [.nilFunc], .fn⟩),
  (66, ⟨1, 8, [.nilFunc], .fn⟩),
  (67, ⟨1, 8, [.nilFunc], .fn⟩),
  (68, ⟨1, 8, [.nilFunc], .fn⟩),
  (69, ⟨1, 8, [.nilFunc], .fn⟩),
  (70, ⟨1, 8, [.nilFunc], .fn⟩),
  (71, ⟨1, 8, [.nilFunc], .fn⟩),
  (72, ⟨1, 8, [.nilFunc], .fn⟩),
  (73, ⟨1, 8, [.nilFunc], .fn⟩),
  (74, ⟨1, 8, [.nilFunc], .fn⟩),
  (75, ⟨1, 8, [.nilFunc], .fn⟩),
  (76, ⟨1, 8, [.nilFunc], .fn⟩),
  (77, ⟨1, 8, [.nilFunc], .fn⟩),
  (78, ⟨1, 8, [.nilFunc], .fn⟩),
  (79, ⟨1, 8, [.nilFunc], .fn⟩),
  (80, ⟨1, 8, [.nilFunc], .fn⟩),
  (81, ⟨1, 8, [.nilFunc], .fn⟩),
  (82, ⟨1, 8, [.nilFunc], .fn⟩),
  (83, ⟨4, 40, [.pointer none, .pointer none, .pointer none, .string (ByteArray.mk #[])], .struct [(0, 17), (1, 17), (2, 17), (3, 9)]⟩),
  (85, ⟨0, 0, [], .array 0 16⟩),
  (88, ⟨1, 8, [.nilFunc], .fn⟩),
  (91, ⟨1, 8, [.nilFunc], .fn⟩),
  (92, ⟨1, 8, [.pointer none], .ptr⟩),
  (95, ⟨11, 48, [.int .u64 0, .int .u64 0, .int .u32 0, .int .u8 0, .int .u8 0, .int .u8 0, .int .u8 0, .nilFunc, .pointer none, .int .i32 0, .int .i32 0], .struct [(0, 12), (1, 12), (2, 28), (3, 89), (4, 5), (5, 5), (6, 90), (7, 91), (8, 92), (9, 93), (10, 94)]⟩),
  (97, ⟨1, 8, [.pointer none], .other⟩)]
def seatE : List (Nat × List IntKind) := [(29, [.u8, .u16, .u32]), (30, [.u8, .u16, .u32]), (35, [.u8, .u16, .u32]), (50, [.i32, .i32]), (51, [.i32, .i32]), (56, [.u16, .u8, .u8]), (57, [.u16, .u8, .u8])]
noncomputable def seat : Seat := { P := Try.prog, T := seatT, E := seatE }
theorem seatT_ok : ∀ p ∈ seatT, TIok Try.prog p.1 p.2 :=
  List.forall_mem_cons.2 ⟨⟨by kernel_rfl, by kernel_rfl⟩,
  List.forall_mem_cons.2 ⟨⟨by kernel_rfl, by kernel_rfl⟩,
  List.forall_mem_cons.2 ⟨⟨by kernel_rfl, by kernel_rfl⟩,
  List.forall_mem_cons.2 ⟨⟨by kernel_rfl, by kernel_rfl⟩,
  List.forall_mem_cons.2 ⟨⟨by kernel_rfl, by kernel_rfl⟩,
  List.forall_mem_cons.2 ⟨⟨by kernel_rfl, by kernel_rfl⟩,
  List.forall_mem_cons.2 ⟨⟨by kernel_rfl, by kernel_rfl⟩,
  List.forall_mem_cons.2 ⟨⟨by kernel_rfl, by kernel_rfl⟩,
  List.forall_mem_cons.2 ⟨⟨by kernel_rfl, by kernel_rfl⟩,
  List.forall_mem_cons.2 ⟨⟨by kernel_rfl, by kernel_rfl⟩,
  List.forall_mem_cons.2 ⟨⟨by kernel_rfl, by kernel_rfl⟩,
  List.forall_mem_cons.2 ⟨⟨by kernel_rfl, by kernel_rfl⟩,
  List.forall_mem_cons.2 ⟨⟨by kernel_rfl, by kernel_rfl⟩,
  List.forall_mem_cons.2 ⟨⟨by kernel_rfl, by kernel_rfl⟩,
  List.forall_mem_cons.2 ⟨⟨by kernel_rfl, by kernel_rfl⟩,
  List.forall_mem_cons.2 ⟨⟨by kernel_rfl, by kernel_rfl⟩,
  List.forall_mem_cons.2 ⟨⟨by kernel_rfl, by kernel_rfl⟩,
  List.forall_mem_cons.2 ⟨⟨by kernel_rfl, by kernel_rfl⟩,
  List.forall_mem_cons.2 ⟨⟨by kernel_rfl, by kernel_rfl⟩,
  List.forall_mem_cons.2 ⟨⟨by kernel_rfl, by kernel_rfl⟩,
  List.forall_mem_cons.2 ⟨⟨by kernel_rfl, by kernel_rfl⟩,
  List.forall_mem_cons.2 ⟨⟨by kernel_rfl, by kernel_rfl⟩,
  List.forall_mem_cons.2 ⟨⟨by kernel_rfl, by kernel_rfl⟩,
  List.forall_mem_cons.2 ⟨⟨by kernel_rfl, by kernel_rfl⟩,
  List.forall_mem_cons.2 ⟨⟨by kernel_rfl, by kernel_rfl⟩,
  List.forall_mem_cons.2 ⟨⟨by kernel_rfl, by kernel_rfl⟩,
  List.forall_mem_cons.2 ⟨⟨by kernel_rfl, by kernel_rfl⟩,
  List.forall_mem_cons.2 ⟨⟨by kernel_rfl, by kernel_rfl⟩,
  List.forall_mem_cons.2 ⟨⟨by kernel_rfl, by kernel_rfl⟩,
  List.forall_mem_cons.2 ⟨⟨by kernel_rfl, by kernel_rfl⟩,
  List.forall_mem_cons.2 ⟨⟨by kernel_rfl, by kernel_rfl⟩,
  List.forall_mem_cons.2 ⟨⟨by kernel_rfl, by kernel_rfl⟩,
  List.forall_mem_cons.2 ⟨⟨by kernel_rfl, by kernel_rfl⟩,
  List.forall_mem_cons.2 ⟨⟨by kernel_rfl, by kernel_rfl⟩,
  List.forall_mem_cons.2 ⟨⟨by kernel_rfl, by kernel_rfl⟩,
  List.forall_mem_cons.2 ⟨⟨by kernel_rfl, by kernel_rfl⟩,
  List.forall_mem_cons.2 ⟨⟨by kernel_rfl, by kernel_rfl⟩,
  List.forall_mem_cons.2 ⟨⟨by kernel_rfl, by kernel_rfl⟩,
  List.forall_mem_cons.2 ⟨⟨by kernel_rfl, by kernel_rfl⟩,
  List.forall_mem_cons.2 ⟨⟨by kernel_rfl, by kernel_rfl⟩,
  List.forall_mem_cons.2 ⟨⟨by kernel_rfl, by kernel_rfl⟩,
  List.forall_mem_cons.2 ⟨⟨by kernel_rfl, by kernel_rfl⟩,
  List.forall_mem_cons.2 ⟨⟨by kernel_rfl, by kernel_rfl⟩,
  List.forall_mem_cons.2 ⟨⟨by kernel_rfl, by kernel_rfl⟩,
  List.forall_mem_cons.2 ⟨⟨by kernel_rfl, by kernel_rfl⟩,
  List.forall_mem_cons.2 ⟨⟨by kernel_rfl, by kernel_rfl⟩,
  List.forall_mem_cons.2 ⟨⟨by kernel_rfl, by kernel_rfl⟩,
  List.forall_mem_cons.2 ⟨⟨by kernel_rfl, by kernel_rfl⟩,
  List.forall_mem_cons.2 ⟨⟨by kernel_rfl, by kernel_rfl⟩,
  List.forall_mem_cons.2 ⟨⟨by kernel_rfl, by kernel_rfl⟩,
  List.forall_mem_cons.2 ⟨⟨by kernel_rfl, by kernel_rfl⟩,
  List.forall_mem_cons.2 ⟨⟨by kernel_rfl, by kernel_rfl⟩,
  List.forall_mem_cons.2 ⟨⟨by kernel_rfl, by kernel_rfl⟩,
  List.forall_mem_cons.2 ⟨⟨by kernel_rfl, by kernel_rfl⟩,
  List.forall_mem_cons.2 ⟨⟨by kernel_rfl, by kernel_rfl⟩,
  List.forall_mem_cons.2 ⟨⟨by kernel_rfl, by kernel_rfl⟩,
  List.forall_mem_cons.2 ⟨⟨by kernel_rfl, by kernel_rfl⟩,
  List.forall_mem_cons.2 ⟨⟨by kernel_rfl, by kernel_rfl⟩,
  List.forall_mem_cons.2 ⟨⟨by kernel_rfl, by kernel_rfl⟩,
  List.forall_mem_cons.2 ⟨⟨by kernel_rfl, by kernel_rfl⟩,
  List.forall_mem_cons.2 ⟨⟨by kernel_rfl, by kernel_rfl⟩,
  List.forall_mem_cons.2 ⟨⟨by kernel_rfl, by kernel_rfl⟩,
  List.forall_mem_cons.2 ⟨⟨by kernel_rfl, by kernel_rfl⟩,
  List.forall_mem_cons.2 ⟨⟨by kernel_rfl, by kernel_rfl⟩,
  List.forall_mem_cons.2 ⟨⟨by kernel_rfl, by kernel_rfl⟩,
  List.forall_mem_cons.2 ⟨⟨by kernel_rfl, by kernel_rfl⟩,
  List.forall_mem_cons.2 ⟨⟨by kernel_rfl, by kernel_rfl⟩,
  List.forall_mem_cons.2 ⟨⟨by kernel_rfl, by kernel_rfl⟩,
  List.forall_mem_cons.2 ⟨⟨by kernel_rfl, by kernel_rfl⟩,
  List.forall_mem_cons.2 ⟨⟨by kernel_rfl, by kernel_rfl⟩,
  List.forall_mem_cons.2 ⟨⟨by kernel_rfl, by kernel_rfl⟩,
  List.forall_mem_cons.2 ⟨⟨by kernel_rfl, by kernel_rfl⟩,
  List.forall_mem_cons.2 ⟨⟨by kernel_rfl, by kernel_rfl⟩,
  List.forall_mem_cons.2 ⟨⟨by kernel_rfl, by kernel_rfl⟩,
  List.forall_mem_cons.2 ⟨⟨by kernel_rfl, by kernel_rfl⟩,
  List.forall_mem_cons.2 ⟨⟨by kernel_rfl, by kernel_rfl⟩,
  List.forall_mem_cons.2 ⟨⟨by kernel_rfl, by kernel_rfl⟩,
  List.forall_mem_cons.2 ⟨⟨by kernel_rfl, by kernel_rfl⟩,
  List.forall_mem_cons.2 ⟨⟨by kernel_rfl, by kernel_rfl⟩,
  List.forall_mem_cons.2 ⟨⟨by kernel_rfl, by kernel_rfl⟩,
  List.forall_mem_cons.2 ⟨⟨by kernel_rfl, by kernel_rfl⟩,
  fun _ h => (nomatch h)⟩⟩⟩⟩⟩⟩⟩⟩⟩⟩⟩⟩⟩⟩⟩⟩⟩⟩⟩⟩⟩⟩⟩⟩⟩⟩⟩⟩⟩⟩⟩⟩⟩⟩⟩⟩⟩⟩⟩⟩⟩⟩⟩⟩⟩⟩⟩⟩⟩⟩⟩⟩⟩⟩⟩⟩⟩⟩⟩⟩⟩⟩⟩⟩⟩⟩⟩⟩⟩⟩⟩⟩⟩⟩⟩⟩⟩⟩⟩⟩⟩
theorem seatE_29 : EqOK Try.prog 29 [.u8, .u16, .u32] := by
  intro xs ys x y w hx hy
  match xs, ys, hx, hy with
  | [a0, a1, a2], [b0, b1, b2], _, _ =>
    refine ⟨?_, ?_⟩
    all_goals
      by_cases h0 : a0 = b0 <;> by_cases h1 : a1 = b1 <;> by_cases h2 : a2 = b2 <;> simp [aggI, eqInts, eqGuard, go_sem, h0, h1, h2]
theorem seatE_30 : EqOK Try.prog 30 [.u8, .u16, .u32] := by
  intro xs ys x y w hx hy
  match xs, ys, hx, hy with
  | [a0, a1, a2], [b0, b1, b2], _, _ =>
    refine ⟨?_, ?_⟩
    all_goals
      by_cases h0 : a0 = b0 <;> by_cases h1 : a1 = b1 <;> by_cases h2 : a2 = b2 <;> simp [aggI, eqInts, eqGuard, go_sem, h0, h1, h2]
theorem seatE_35 : EqOK Try.prog 35 [.u8, .u16, .u32] := by
  intro xs ys x y w hx hy
  match xs, ys, hx, hy with
  | [a0, a1, a2], [b0, b1, b2], _, _ =>
    refine ⟨?_, ?_⟩
    all_goals
      by_cases h0 : a0 = b0 <;> by_cases h1 : a1 = b1 <;> by_cases h2 : a2 = b2 <;> simp [aggI, eqInts, eqGuard, go_sem, h0, h1, h2]
theorem seatE_50 : EqOK Try.prog 50 [.i32, .i32] := by
  intro xs ys x y w hx hy
  match xs, ys, hx, hy with
  | [a0, a1], [b0, b1], _, _ =>
    refine ⟨?_, ?_⟩
    all_goals
      by_cases h0 : a0 = b0 <;> by_cases h1 : a1 = b1 <;> simp [aggI, eqInts, eqGuard, go_sem, h0, h1]
theorem seatE_51 : EqOK Try.prog 51 [.i32, .i32] := by
  intro xs ys x y w hx hy
  match xs, ys, hx, hy with
  | [a0, a1], [b0, b1], _, _ =>
    refine ⟨?_, ?_⟩
    all_goals
      by_cases h0 : a0 = b0 <;> by_cases h1 : a1 = b1 <;> simp [aggI, eqInts, eqGuard, go_sem, h0, h1]
theorem seatE_56 : EqOK Try.prog 56 [.u16, .u8, .u8] := by
  intro xs ys x y w hx hy
  match xs, ys, hx, hy with
  | [a0, a1, a2], [b0, b1, b2], _, _ =>
    refine ⟨?_, ?_⟩
    all_goals
      by_cases h0 : a0 = b0 <;> by_cases h1 : a1 = b1 <;> by_cases h2 : a2 = b2 <;> simp [aggI, eqInts, eqGuard, go_sem, h0, h1, h2]
theorem seatE_57 : EqOK Try.prog 57 [.u16, .u8, .u8] := by
  intro xs ys x y w hx hy
  match xs, ys, hx, hy with
  | [a0, a1, a2], [b0, b1, b2], _, _ =>
    refine ⟨?_, ?_⟩
    all_goals
      by_cases h0 : a0 = b0 <;> by_cases h1 : a1 = b1 <;> by_cases h2 : a2 = b2 <;> simp [aggI, eqInts, eqGuard, go_sem, h0, h1, h2]
theorem seatE_ok : ∀ p ∈ seatE, EqOK Try.prog p.1 p.2 :=
  List.forall_mem_cons.2 ⟨seatE_29,
  List.forall_mem_cons.2 ⟨seatE_30,
  List.forall_mem_cons.2 ⟨seatE_35,
  List.forall_mem_cons.2 ⟨seatE_50,
  List.forall_mem_cons.2 ⟨seatE_51,
  List.forall_mem_cons.2 ⟨seatE_56,
  List.forall_mem_cons.2 ⟨seatE_57,
  fun _ h => (nomatch h)⟩⟩⟩⟩⟩⟩⟩
theorem seat_ok : seat.ok := ⟨fun t i h => seatT_ok _ (assoc_mem h), fun t ks h => seatE_ok _ (assoc_mem h)⟩
end Go.Proofs.Ytkcdomafdjpbjaa
