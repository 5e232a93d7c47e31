/- The seat's types, as the walks by computing want them. -/
import Derived.Test.YthcofkeiffpiiaaSymL
namespace Go.Proofs.Ythcofkeiffpiiaa
open Go.RowKit

def seatT : List (Nat × TI) := [
  (1, ⟨1, 8, [.nilFunc], .fn⟩),
  (2, ⟨1, 8, [.int .i64 0], .int .i64⟩),
  (3, ⟨1, 8, [.int .i64 0], .int .i64⟩),
  (4, ⟨1, 1, [.bool false], .bool⟩),
  (5, ⟨1, 1, [.int .u8 0], .int .u8⟩),
  (7, ⟨4, 24, [.int .i64 0, .int .i64 0, .bool false, .int .u8 0], .struct [(0, 2), (1, 3), (2, 4), (3, 6)]⟩),
  (9, ⟨1, 16, [.string (ByteArray.mk #[])], .str⟩),
  (12, ⟨1, 8, [.int .u64 0], .int .u64⟩),
  (13, ⟨2, 24, [.string (ByteArray.mk #[]), .int .u64 0], .struct [(0, 9), (1, 12)]⟩),
  (15, ⟨1, 8, [.pointer none], .ptr⟩),
  (16, ⟨1, 8, [.pointer none], .ptr⟩),
  (17, ⟨1, 8, [.pointer none], .ptr⟩),
  (18, ⟨1, 8, [.pointer none], .struct [(0, 17)]⟩),
  (21, ⟨1, 4, [.int .i32 0], .int .i32⟩),
  (22, ⟨1, 24, [.slice none 0 0], .slice 44⟩),
  (23, ⟨1, 24, [.slice none 0 0], .slice 44⟩),
  (24, ⟨1, 2, [.int .u16 0], .int .u16⟩),
  (25, ⟨1, 4, [.int .u32 0], .int .u32⟩),
  (26, ⟨3, 8, [.int .u8 0, .int .u16 0, .int .u32 0], .struct [(0, 5), (1, 24), (2, 25)]⟩),
  (27, ⟨3, 8, [.int .u8 0, .int .u16 0, .int .u32 0], .struct [(0, 5), (1, 24), (2, 25)]⟩),
  (28, ⟨1, 24, [.slice none 0 0], .slice 21⟩),
  (29, ⟨1, 24, [.slice none 0 0], .slice 5⟩),
  (30, ⟨5, 56, [.int .u8 0, .int .u16 0, .int .u32 0, .slice none 0 0, .slice none 0 0], .struct [(0, 27), (3, 28), (4, 29)]⟩),
  (31, ⟨5, 56, [.int .u8 0, .int .u16 0, .int .u32 0, .slice none 0 0, .slice none 0 0], .struct [(0, 27), (3, 28), (4, 29)]⟩),
  (32, ⟨1, 8, [.nilFunc], .fn⟩),
  (33, ⟨1, 8, [.nilFunc], .fn⟩),
  (34, ⟨1, 8, [.nilFunc], .fn⟩),
  (35, ⟨1, 8, [.nilFunc], .fn⟩),
  (36, ⟨1, 8, [.nilFunc], .fn⟩),
  (37, ⟨1, 8, [.nilFunc], .fn⟩),
  (38, ⟨1, 8, [.nilFunc], .fn⟩),
  (39, ⟨1, 8, [.nilFunc], .fn⟩),
  (40, ⟨1, 8, [.nilFunc], .fn⟩),
  (41, ⟨1, 8, [.nilFunc], .fn⟩),
  (42, ⟨1, 8, [.nilFunc], .fn⟩),
  (43, ⟨2, 8, [.int .i32 0, .int .i32 0], .struct [(0, 21), (1, 21)]⟩),
  (44, ⟨2, 8, [.int .i32 0, .int .i32 0], .struct [(0, 21), (1, 21)]⟩),
  (45, ⟨1, 8, [.nilFunc], .fn⟩),
  (46, ⟨1, 8, [.nilFunc], .fn⟩),
  (47, ⟨1, 8, [.nilFunc], .fn⟩),
  (48, ⟨1, 8, [.nilFunc], .fn⟩),
  (49, ⟨1, 8, [.nilFunc], .fn⟩),
  (50, ⟨1, 8, [.nilFunc], .fn⟩),
  (51, ⟨1, 8, [.nilFunc], .fn⟩),
  (52, ⟨1, 8, [.nilFunc], .fn⟩),
  (53, ⟨1, 8, [.nilFunc], .fn⟩),
  (54, ⟨1, 8, [.nilFunc], .fn⟩),
  (55, ⟨4, 40, [.pointer none, .pointer none, .pointer none, .string (ByteArray.mk #[])], .struct [(0, 17), (1, 17), (2, 17), (3, 9)]⟩),
  (57, ⟨0, 0, [], .array 0 16⟩),
  (60, ⟨1, 8, [.nilFunc], .fn⟩),
  (63, ⟨1, 8, [.nilFunc], .fn⟩),
  (64, ⟨1, 8, [.pointer none], .ptr⟩),
  (67, ⟨11, 48, [.int .u64 0, .int .u64 0, .int .u32 0, .int .u8 0, .int .u8 0, .int .u8 0, .int .u8 0, .nilFunc, .pointer none, .int .i32 0, .int .i32 0], .struct [(0, 12), (1, 12), (2, 25), (3, 61), (4, 5), (5, 5), (6, 62), (7, 63), (8, 64), (9, 65), (10, 66)]⟩),
  (69, ⟨1, 8, [.pointer none], .other⟩)]
def seatE : List (Nat × List IntKind) := [(26, [.u8, .u16, .u32]), (27, [.u8, .u16, .u32]), (43, [.i32, .i32]), (44, [.i32, .i32])]
noncomputable def seat : Seat := { P := Try.prog, T := seatT, E := seatE }
theorem seatT_ok : ∀ p ∈ seatT, TIok Try.prog p.1 p.2 :=
  List.forall_mem_cons.2 ⟨⟨by kernel_rfl, by kernel_rfl⟩,
  List.forall_mem_cons.2 ⟨⟨by kernel_rfl, by kernel_rfl⟩,
  List.forall_mem_cons.2 ⟨⟨by kernel_rfl, by kernel_rfl⟩,
  List.forall_mem_cons.2 ⟨⟨by kernel_rfl, by kernel_rfl⟩,
  List.forall_mem_cons.2 ⟨⟨by kernel_rfl, by kernel_rfl⟩,
  List.forall_mem_cons.2 ⟨⟨by kernel_rfl, by kernel_rfl⟩,
  List.forall_mem_cons.2 ⟨⟨by kernel_rfl, by kernel_rfl⟩,
  List.forall_mem_cons.2 ⟨⟨by kernel_rfl, by kernel_rfl⟩,
  List.forall_mem_cons.2 ⟨⟨by kernel_rfl, by kernel_rfl⟩,
  List.forall_mem_cons.2 ⟨⟨by kernel_rfl, by kernel_rfl⟩,
  List.forall_mem_cons.2 ⟨⟨by kernel_rfl, by kernel_rfl⟩,
  List.forall_mem_cons.2 ⟨⟨by kernel_rfl, by kernel_rfl⟩,
  List.forall_mem_cons.2 ⟨⟨by kernel_rfl, by kernel_rfl⟩,
  List.forall_mem_cons.2 ⟨⟨by kernel_rfl, by kernel_rfl⟩,
  List.forall_mem_cons.2 ⟨⟨by kernel_rfl, by kernel_rfl⟩,
  List.forall_mem_cons.2 ⟨⟨by kernel_rfl, by kernel_rfl⟩,
  List.forall_mem_cons.2 ⟨⟨by kernel_rfl, by kernel_rfl⟩,
  List.forall_mem_cons.2 ⟨⟨by kernel_rfl, by kernel_rfl⟩,
  List.forall_mem_cons.2 ⟨⟨by kernel_rfl, by kernel_rfl⟩,
  List.forall_mem_cons.2 ⟨⟨by kernel_rfl, by kernel_rfl⟩,
  List.forall_mem_cons.2 ⟨⟨by kernel_rfl, by kernel_rfl⟩,
  List.forall_mem_cons.2 ⟨⟨by kernel_rfl, by kernel_rfl⟩,
  List.forall_mem_cons.2 ⟨⟨by kernel_rfl, by kernel_rfl⟩,
  List.forall_mem_cons.2 ⟨⟨by kernel_rfl, by kernel_rfl⟩,
  List.forall_mem_cons.2 ⟨⟨by kernel_rfl, by kernel_rfl⟩,
  List.forall_mem_cons.2 ⟨⟨by kernel_rfl, by kernel_rfl⟩,
  List.forall_mem_cons.2 ⟨⟨by kernel_rfl, by kernel_rfl⟩,
  List.forall_mem_cons.2 ⟨⟨by kernel_rfl, by kernel_rfl⟩,
  List.forall_mem_cons.2 ⟨⟨by kernel_rfl, by kernel_rfl⟩,
  List.forall_mem_cons.2 ⟨⟨by kernel_rfl, by kernel_rfl⟩,
  List.forall_mem_cons.2 ⟨⟨by kernel_rfl, by kernel_rfl⟩,
  List.forall_mem_cons.2 ⟨⟨by kernel_rfl, by kernel_rfl⟩,
  List.forall_mem_cons.2 ⟨⟨by kernel_rfl, by kernel_rfl⟩,
  List.forall_mem_cons.2 ⟨⟨by kernel_rfl, by kernel_rfl⟩,
  List.forall_mem_cons.2 ⟨⟨by kernel_rfl, by kernel_rfl⟩,
  List.forall_mem_cons.2 ⟨⟨by kernel_rfl, by kernel_rfl⟩,
  List.forall_mem_cons.2 ⟨⟨by kernel_rfl, by kernel_rfl⟩,
  List.forall_mem_cons.2 ⟨⟨by kernel_rfl, by kernel_rfl⟩,
  List.forall_mem_cons.2 ⟨⟨by kernel_rfl, by kernel_rfl⟩,
  List.forall_mem_cons.2 ⟨⟨by kernel_rfl, by kernel_rfl⟩,
  List.forall_mem_cons.2 ⟨⟨by kernel_rfl, by kernel_rfl⟩,
  List.forall_mem_cons.2 ⟨⟨by kernel_rfl, by kernel_rfl⟩,
  List.forall_mem_cons.2 ⟨⟨by kernel_rfl, by kernel_rfl⟩,
  List.forall_mem_cons.2 ⟨⟨by kernel_rfl, by kernel_rfl⟩,
  List.forall_mem_cons.2 ⟨⟨by kernel_rfl, by kernel_rfl⟩,
  List.forall_mem_cons.2 ⟨⟨by kernel_rfl, by kernel_rfl⟩,
  List.forall_mem_cons.2 ⟨⟨by kernel_rfl, by kernel_rfl⟩,
  List.forall_mem_cons.2 ⟨⟨by kernel_rfl, by kernel_rfl⟩,
  List.forall_mem_cons.2 ⟨⟨by kernel_rfl, by kernel_rfl⟩,
  List.forall_mem_cons.2 ⟨⟨by kernel_rfl, by kernel_rfl⟩,
  List.forall_mem_cons.2 ⟨⟨by kernel_rfl, by kernel_rfl⟩,
  List.forall_mem_cons.2 ⟨⟨by kernel_rfl, by kernel_rfl⟩,
  List.forall_mem_cons.2 ⟨⟨by kernel_rfl, by kernel_rfl⟩,
  List.forall_mem_cons.2 ⟨⟨by kernel_rfl, by kernel_rfl⟩,
  fun _ h => (nomatch h)⟩⟩⟩⟩⟩⟩⟩⟩⟩⟩⟩⟩⟩⟩⟩⟩⟩⟩⟩⟩⟩⟩⟩⟩⟩⟩⟩⟩⟩⟩⟩⟩⟩⟩⟩⟩⟩⟩⟩⟩⟩⟩⟩⟩⟩⟩⟩⟩⟩⟩⟩⟩⟩⟩
theorem seatE_26 : EqOK Try.prog 26 [.u8, .u16, .u32] := by
  intro xs ys x y w hx hy
  match xs, ys, hx, hy with
  | [a0, a1, a2], [b0, b1, b2], _, _ =>
    refine ⟨?_, ?_⟩
    all_goals
      by_cases h0 : a0 = b0 <;> by_cases h1 : a1 = b1 <;> by_cases h2 : a2 = b2 <;> simp [aggI, eqInts, eqGuard, go_sem, h0, h1, h2]
theorem seatE_27 : EqOK Try.prog 27 [.u8, .u16, .u32] := by
  intro xs ys x y w hx hy
  match xs, ys, hx, hy with
  | [a0, a1, a2], [b0, b1, b2], _, _ =>
    refine ⟨?_, ?_⟩
    all_goals
      by_cases h0 : a0 = b0 <;> by_cases h1 : a1 = b1 <;> by_cases h2 : a2 = b2 <;> simp [aggI, eqInts, eqGuard, go_sem, h0, h1, h2]
theorem seatE_43 : EqOK Try.prog 43 [.i32, .i32] := by
  intro xs ys x y w hx hy
  match xs, ys, hx, hy with
  | [a0, a1], [b0, b1], _, _ =>
    refine ⟨?_, ?_⟩
    all_goals
      by_cases h0 : a0 = b0 <;> by_cases h1 : a1 = b1 <;> simp [aggI, eqInts, eqGuard, go_sem, h0, h1]
theorem seatE_44 : EqOK Try.prog 44 [.i32, .i32] := by
  intro xs ys x y w hx hy
  match xs, ys, hx, hy with
  | [a0, a1], [b0, b1], _, _ =>
    refine ⟨?_, ?_⟩
    all_goals
      by_cases h0 : a0 = b0 <;> by_cases h1 : a1 = b1 <;> simp [aggI, eqInts, eqGuard, go_sem, h0, h1]
theorem seatE_ok : ∀ p ∈ seatE, EqOK Try.prog p.1 p.2 :=
  List.forall_mem_cons.2 ⟨seatE_26,
  List.forall_mem_cons.2 ⟨seatE_27,
  List.forall_mem_cons.2 ⟨seatE_43,
  List.forall_mem_cons.2 ⟨seatE_44,
  fun _ h => (nomatch h)⟩⟩⟩⟩
theorem seat_ok : seat.ok := ⟨fun t i h => seatT_ok _ (assoc_mem h), fun t ks h => seatE_ok _ (assoc_mem h)⟩
end Go.Proofs.Ythcofkeiffpiiaa
