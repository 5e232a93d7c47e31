/- The seat's types, as the walks by computing want them. -/
import Derived.Test.YtlclimhimiladaaDoorZX
namespace Go.Proofs.YtlclimhimiladaaDoor
open Go.RowKit

def seatT : List (Nat × TI) := [
  (1, ⟨1, 8, [.nilFunc], .fn⟩),
  (2, ⟨1, 8, [.int .i64 0], .int .i64⟩),
  (3, ⟨1, 8, [.int .i64 0], .int .i64⟩),
  (4, ⟨1, 1, [.bool false], .bool⟩),
  (5, ⟨1, 1, [.int .u8 0], .int .u8⟩),
  (7, ⟨4, 24, [.int .i64 0, .int .i64 0, .bool false, .int .u8 0], .struct [(0, 2), (1, 3), (2, 4), (3, 6)]⟩),
  (9, ⟨1, 16, [.string (ByteArray.mk #[])], .str⟩),
  (12, ⟨1, 8, [.int .u64 0], .int .u64⟩),
  (13, ⟨2, 24, [.string (ByteArray.mk #[]), .int .u64 0], .struct [(0, 9), (1, 12)]⟩),
  (15, ⟨1, 8, [.pointer none], .ptr⟩),
  (16, ⟨1, 8, [.pointer none], .ptr⟩),
  (17, ⟨1, 8, [.pointer none], .ptr⟩),
  (18, ⟨1, 8, [.pointer none], .struct [(0, 17)]⟩),
  (21, ⟨1, 4, [.int .i32 0], .int .i32⟩),
  (22, ⟨1, 24, [.slice none 0 0], .slice 42⟩),
  (23, ⟨1, 24, [.slice none 0 0], .slice 42⟩),
  (24, ⟨1, 24, [.slice none 0 0], .slice 42⟩),
  (25, ⟨1, 24, [.slice none 0 0], .slice 21⟩),
  (26, ⟨1, 8, [.nilFunc], .fn⟩),
  (27, ⟨1, 8, [.nilFunc], .fn⟩),
  (28, ⟨1, 8, [.nilFunc], .fn⟩),
  (29, ⟨1, 8, [.nilFunc], .fn⟩),
  (30, ⟨1, 8, [.nilFunc], .fn⟩),
  (31, ⟨1, 8, [.nilFunc], .fn⟩),
  (32, ⟨1, 8, [.nilFunc], .fn⟩),
  (33, ⟨1, 8, [.int .i64 0], .int .i64⟩),
  (35, ⟨1, 8, [.nilFunc], .fn⟩),
  (36, ⟨1, 8, [.nilFunc], .fn⟩),
  (37, ⟨1, 8, [.nilFunc], .fn⟩),
  (38, ⟨1, 8, [.nilFunc], .fn⟩),
  (39, ⟨1, 8, [.nilFunc], .fn⟩),
  (40, ⟨1, 8, [.nilFunc], .fn⟩),
  (41, ⟨2, 8, [.int .i32 0, .int .i32 0], .struct [(0, 21), (1, 21)]⟩),
  (42, ⟨2, 8, [.int .i32 0, .int .i32 0], .struct [(0, 21), (1, 21)]⟩),
  (43, ⟨1, 8, [.nilFunc], .fn⟩),
  (44, ⟨1, 8, [.nilFunc], .fn⟩),
  (45, ⟨1, 8, [.nilFunc], .fn⟩),
  (46, ⟨1, 8, [.nilFunc], .fn⟩),
  (47, ⟨1, 8, [.nilFunc], .fn⟩),
  (49, ⟨1, 8, [.nilFunc], .fn⟩),
  (51, ⟨1, 8, [.nilFunc], .fn⟩),
  (52, ⟨1, 8, [.nilFunc], .fn⟩),
  (54, ⟨1, 8, [.nilFunc], .fn⟩),
  (55, ⟨1, 8, [.nilFunc], .fn⟩),
  (56, ⟨1, 8, [.nilFunc], .fn⟩),
  (57, ⟨1, 4, [.int .u32 0], .int .u32⟩),
  (58, ⟨1, 8, [.nilFunc], .fn⟩),
  (59, ⟨1, 8, [.nilFunc], .fn⟩),
  (60, ⟨1, 8, [.nilFunc], .fn⟩),
  (61, ⟨1, 8, [.nilFunc], .fn⟩),
  (62, ⟨4, 40, [.pointer none, .pointer none, .pointer none, .string (ByteArray.mk #[])], .struct [(0, 17), (1, 17), (2, 17), (3, 9)]⟩),
  (64, ⟨0, 0, [], .array 0 16⟩),
  (67, ⟨1, 8, [.nilFunc], .fn⟩),
  (70, ⟨1, 8, [.nilFunc], .fn⟩),
  (71, ⟨1, 8, [.pointer none], .ptr⟩),
  (74, ⟨11, 48, [.int .u64 0, .int .u64 0, .int .u32 0, .int .u8 0, .int .u8 0, .int .u8 0, .int .u8 0, .nilFunc, .pointer none, .int .i32 0, .int .i32 0], .struct [(0, 12), (1, 12), (2, 57), (3, 68), (4, 5), (5, 5), (6, 69), (7, 70), (8, 71), (9, 72), (10, 73)]⟩),
  (76, ⟨1, 8, [.pointer none], .other⟩)]
def seatE : List (Nat × List IntKind) := [(41, [.i32, .i32]), (42, [.i32, .i32])]
noncomputable def seat : Seat := { P := Tryd.prog, T := seatT, E := seatE }
theorem seatT_ok : ∀ p ∈ seatT, TIok Tryd.prog p.1 p.2 :=
  List.forall_mem_cons.2 ⟨⟨by kernel_rfl, by kernel_rfl⟩,
  List.forall_mem_cons.2 ⟨⟨by kernel_rfl, by kernel_rfl⟩,
  List.forall_mem_cons.2 ⟨⟨by kernel_rfl, by kernel_rfl⟩,
  List.forall_mem_cons.2 ⟨⟨by kernel_rfl, by kernel_rfl⟩,
  List.forall_mem_cons.2 ⟨⟨by kernel_rfl, by kernel_rfl⟩,
  List.forall_mem_cons.2 ⟨⟨by kernel_rfl, by kernel_rfl⟩,
  List.forall_mem_cons.2 ⟨⟨by kernel_rfl, by kernel_rfl⟩,
  List.forall_mem_cons.2 ⟨⟨by kernel_rfl, by kernel_rfl⟩,
  List.forall_mem_cons.2 ⟨⟨by kernel_rfl, by kernel_rfl⟩,
  List.forall_mem_cons.2 ⟨⟨by kernel_rfl, by kernel_rfl⟩,
  List.forall_mem_cons.2 ⟨⟨by kernel_rfl, by kernel_rfl⟩,
  List.forall_mem_cons.2 ⟨⟨by kernel_rfl, by kernel_rfl⟩,
  List.forall_mem_cons.2 ⟨⟨by kernel_rfl, by kernel_rfl⟩,
  List.forall_mem_cons.2 ⟨⟨by kernel_rfl, by kernel_rfl⟩,
  List.forall_mem_cons.2 ⟨⟨by kernel_rfl, by kernel_rfl⟩,
  List.forall_mem_cons.2 ⟨⟨by kernel_rfl, by kernel_rfl⟩,
  List.forall_mem_cons.2 ⟨⟨by kernel_rfl, by kernel_rfl⟩,
  List.forall_mem_cons.2 ⟨⟨by kernel_rfl, by kernel_rfl⟩,
  List.forall_mem_cons.2 ⟨⟨by kernel_rfl, by kernel_rfl⟩,
  List.forall_mem_cons.2 ⟨⟨by kernel_rfl, by kernel_rfl⟩,
  List.forall_mem_cons.2 ⟨⟨by kernel_rfl, by kernel_rfl⟩,
  List.forall_mem_cons.2 ⟨⟨by kernel_rfl, by kernel_rfl⟩,
  List.forall_mem_cons.2 ⟨⟨by kernel_rfl, by kernel_rfl⟩,
  List.forall_mem_cons.2 ⟨⟨by kernel_rfl, by kernel_rfl⟩,
  List.forall_mem_cons.2 ⟨⟨by kernel_rfl, by kernel_rfl⟩,
  List.forall_mem_cons.2 ⟨⟨by kernel_rfl, by kernel_rfl⟩,
  List.forall_mem_cons.2 ⟨⟨by kernel_rfl, by kernel_rfl⟩,
  List.forall_mem_cons.2 ⟨⟨by kernel_rfl, by kernel_rfl⟩,
  List.forall_mem_cons.2 ⟨⟨by kernel_rfl, by kernel_rfl⟩,
  List.forall_mem_cons.2 ⟨⟨by kernel_rfl, by kernel_rfl⟩,
  List.forall_mem_cons.2 ⟨⟨by kernel_rfl, by kernel_rfl⟩,
  List.forall_mem_cons.2 ⟨⟨by kernel_rfl, by kernel_rfl⟩,
  List.forall_mem_cons.2 ⟨⟨by kernel_rfl, by kernel_rfl⟩,
  List.forall_mem_cons.2 ⟨⟨by kernel_rfl, by kernel_rfl⟩,
  List.forall_mem_cons.2 ⟨⟨by kernel_rfl, by kernel_rfl⟩,
  List.forall_mem_cons.2 ⟨⟨by kernel_rfl, by kernel_rfl⟩,
  List.forall_mem_cons.2 ⟨⟨by kernel_rfl, by kernel_rfl⟩,
  List.forall_mem_cons.2 ⟨⟨by kernel_rfl, by kernel_rfl⟩,
  List.forall_mem_cons.2 ⟨⟨by kernel_rfl, by kernel_rfl⟩,
  List.forall_mem_cons.2 ⟨⟨by kernel_rfl, by kernel_rfl⟩,
  List.forall_mem_cons.2 ⟨⟨by kernel_rfl, by kernel_rfl⟩,
  List.forall_mem_cons.2 ⟨⟨by kernel_rfl, by kernel_rfl⟩,
  List.forall_mem_cons.2 ⟨⟨by kernel_rfl, by kernel_rfl⟩,
  List.forall_mem_cons.2 ⟨⟨by kernel_rfl, by kernel_rfl⟩,
  List.forall_mem_cons.2 ⟨⟨by kernel_rfl, by kernel_rfl⟩,
  List.forall_mem_cons.2 ⟨⟨by kernel_rfl, by kernel_rfl⟩,
  List.forall_mem_cons.2 ⟨⟨by kernel_rfl, by kernel_rfl⟩,
  List.forall_mem_cons.2 ⟨⟨by kernel_rfl, by kernel_rfl⟩,
  List.forall_mem_cons.2 ⟨⟨by kernel_rfl, by kernel_rfl⟩,
  List.forall_mem_cons.2 ⟨⟨by kernel_rfl, by kernel_rfl⟩,
  List.forall_mem_cons.2 ⟨⟨by kernel_rfl, by kernel_rfl⟩,
  List.forall_mem_cons.2 ⟨⟨by kernel_rfl, by kernel_rfl⟩,
  List.forall_mem_cons.2 ⟨⟨by kernel_rfl, by kernel_rfl⟩,
  List.forall_mem_cons.2 ⟨⟨by kernel_rfl, by kernel_rfl⟩,
  List.forall_mem_cons.2 ⟨⟨by kernel_rfl, by kernel_rfl⟩,
  List.forall_mem_cons.2 ⟨⟨by kernel_rfl, by kernel_rfl⟩,
  List.forall_mem_cons.2 ⟨⟨by kernel_rfl, by kernel_rfl⟩,
  fun _ h => (nomatch h)⟩⟩⟩⟩⟩⟩⟩⟩⟩⟩⟩⟩⟩⟩⟩⟩⟩⟩⟩⟩⟩⟩⟩⟩⟩⟩⟩⟩⟩⟩⟩⟩⟩⟩⟩⟩⟩⟩⟩⟩⟩⟩⟩⟩⟩⟩⟩⟩⟩⟩⟩⟩⟩⟩⟩⟩⟩
theorem seatE_41 : EqOK Tryd.prog 41 [.i32, .i32] := by
  intro xs ys x y w hx hy
  match xs, ys, hx, hy with
  | [a0, a1], [b0, b1], _, _ =>
    refine ⟨?_, ?_⟩
    all_goals
      by_cases h0 : a0 = b0 <;> by_cases h1 : a1 = b1 <;> simp [aggI, eqInts, eqGuard, go_sem, h0, h1]
theorem seatE_42 : EqOK Tryd.prog 42 [.i32, .i32] := by
  intro xs ys x y w hx hy
  match xs, ys, hx, hy with
  | [a0, a1], [b0, b1], _, _ =>
    refine ⟨?_, ?_⟩
    all_goals
      by_cases h0 : a0 = b0 <;> by_cases h1 : a1 = b1 <;> simp [aggI, eqInts, eqGuard, go_sem, h0, h1]
theorem seatE_ok : ∀ p ∈ seatE, EqOK Tryd.prog p.1 p.2 :=
  List.forall_mem_cons.2 ⟨seatE_41,
  List.forall_mem_cons.2 ⟨seatE_42,
  fun _ h => (nomatch h)⟩⟩
theorem seat_ok : seat.ok := ⟨fun t i h => seatT_ok _ (assoc_mem h), fun t ks h => seatE_ok _ (assoc_mem h)⟩
end Go.Proofs.YtlclimhimiladaaDoor
