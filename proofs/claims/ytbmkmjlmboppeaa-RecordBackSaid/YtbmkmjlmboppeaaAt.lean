/- The types of the program, as the walk asks them. -/
import Derived.Test.YtbmkmjlmboppeaaAz
import Derived.Test.YtbmkmjlmboppeaaRows
import Derived.Laws.Bits64
import Derived.Laws.BitsAllLaws
namespace Go.Proofs.Ytbmkmjlmboppeaa
open Ax
set_option linter.unusedSimpArgs false
set_option linter.unusedVariables false

def tys : List (TypeId × TyI) := [
  (2, ⟨.int .i64, 1, 8, [.w (.int .i64 0)], 0⟩),
  (3, ⟨.int .i64, 1, 8, [.w (.int .i64 0)], 0⟩),
  (4, ⟨.bool, 1, 1, [.w (.bool false)], 0⟩),
  (5, ⟨.int .u8, 1, 1, [.w (.int .u8 0)], 0⟩),
  (9, ⟨.str, 1, 16, [.str []], 0⟩),
  (20, ⟨.other, 1, 16, [.w .nilIface], 0⟩),
  (21, ⟨.int .i32, 1, 4, [.w (.int .i32 0)], 0⟩),
  (22, ⟨.struct [(0, 3), (1, 3), (2, 4), (3, 9), (4, 4), (5, 9)], 6, 64, [.w (.int .i64 0), .w (.int .i64 0), .w (.bool false), .str [], .w (.bool false), .str []], 0⟩),
  (23, ⟨.struct [(0, 3), (1, 3), (2, 4), (3, 9), (4, 4), (5, 9)], 6, 64, [.w (.int .i64 0), .w (.int .i64 0), .w (.bool false), .str [], .w (.bool false), .str []], 0⟩),
  (26, ⟨.slice 5, 1, 24, [.sb [] true], 0⟩),
  (27, ⟨.int .i64, 1, 8, [.w (.int .i64 0)], 0⟩),
  (35, ⟨.ptr, 1, 8, [.w (.pointer none)], 0⟩),
  (39, ⟨.struct [(0, 26), (1, 3)], 2, 32, [.sb [] true, .w (.int .i64 0)], 0⟩),
  (40, ⟨.struct [(0, 26), (1, 3)], 2, 32, [.sb [] true, .w (.int .i64 0)], 0⟩),
  (46, ⟨.struct [(0, 3), (1, 3), (2, 3), (3, 3)], 4, 32, [.w (.int .i64 0), .w (.int .i64 0), .w (.int .i64 0), .w (.int .i64 0)], 0⟩),
  (47, ⟨.struct [(0, 3), (1, 3), (2, 3), (3, 3)], 4, 32, [.w (.int .i64 0), .w (.int .i64 0), .w (.int .i64 0), .w (.int .i64 0)], 0⟩),
  (48, ⟨.struct [(0, 3), (1, 3), (2, 3), (3, 3)], 4, 32, [.w (.int .i64 0), .w (.int .i64 0), .w (.int .i64 0), .w (.int .i64 0)], 0⟩),
  (60, ⟨.int .u16, 1, 2, [.w (.int .u16 0)], 0⟩),
  (61, ⟨.slice 62, 1, 24, [.sg 2 [] true], 0⟩),
  (62, ⟨.arr 2 5, 2, 2, [.w (.int .u8 0), .w (.int .u8 0)], 0⟩),
  (67, ⟨.struct [(0, 26), (1, 27)], 2, 32, [.sb [] true, .w (.int .i64 0)], 0⟩),
  (68, ⟨.struct [(0, 26), (1, 27)], 2, 32, [.sb [] true, .w (.int .i64 0)], 0⟩),
  (69, ⟨.int .u64, 1, 8, [.w (.int .u64 0)], 0⟩),
  (84, ⟨.int .u64, 1, 8, [.w (.int .u64 0)], 0⟩),
  (99, ⟨.int .u32, 1, 4, [.w (.int .u32 0)], 0⟩),
  (103, ⟨.ptr, 1, 8, [.w (.pointer none)], 0⟩)]

theorem tys_ok : TOk Try.prog (tab tys) := tab_ok (by kernel_rfl)

def ty (t : TypeId) : Option TyI :=
  match t with
  | 2 => some ⟨.int .i64, 1, 8, [.w (.int .i64 0)], 0⟩
  | 3 => some ⟨.int .i64, 1, 8, [.w (.int .i64 0)], 0⟩
  | 4 => some ⟨.bool, 1, 1, [.w (.bool false)], 0⟩
  | 5 => some ⟨.int .u8, 1, 1, [.w (.int .u8 0)], 0⟩
  | 9 => some ⟨.str, 1, 16, [.str []], 0⟩
  | 20 => some ⟨.other, 1, 16, [.w .nilIface], 0⟩
  | 21 => some ⟨.int .i32, 1, 4, [.w (.int .i32 0)], 0⟩
  | 22 => some ⟨.struct [(0, 3), (1, 3), (2, 4), (3, 9), (4, 4), (5, 9)], 6, 64, [.w (.int .i64 0), .w (.int .i64 0), .w (.bool false), .str [], .w (.bool false), .str []], 0⟩
  | 23 => some ⟨.struct [(0, 3), (1, 3), (2, 4), (3, 9), (4, 4), (5, 9)], 6, 64, [.w (.int .i64 0), .w (.int .i64 0), .w (.bool false), .str [], .w (.bool false), .str []], 0⟩
  | 26 => some ⟨.slice 5, 1, 24, [.sb [] true], 0⟩
  | 27 => some ⟨.int .i64, 1, 8, [.w (.int .i64 0)], 0⟩
  | 35 => some ⟨.ptr, 1, 8, [.w (.pointer none)], 0⟩
  | 39 => some ⟨.struct [(0, 26), (1, 3)], 2, 32, [.sb [] true, .w (.int .i64 0)], 0⟩
  | 40 => some ⟨.struct [(0, 26), (1, 3)], 2, 32, [.sb [] true, .w (.int .i64 0)], 0⟩
  | 46 => some ⟨.struct [(0, 3), (1, 3), (2, 3), (3, 3)], 4, 32, [.w (.int .i64 0), .w (.int .i64 0), .w (.int .i64 0), .w (.int .i64 0)], 0⟩
  | 47 => some ⟨.struct [(0, 3), (1, 3), (2, 3), (3, 3)], 4, 32, [.w (.int .i64 0), .w (.int .i64 0), .w (.int .i64 0), .w (.int .i64 0)], 0⟩
  | 48 => some ⟨.struct [(0, 3), (1, 3), (2, 3), (3, 3)], 4, 32, [.w (.int .i64 0), .w (.int .i64 0), .w (.int .i64 0), .w (.int .i64 0)], 0⟩
  | 60 => some ⟨.int .u16, 1, 2, [.w (.int .u16 0)], 0⟩
  | 61 => some ⟨.slice 62, 1, 24, [.sg 2 [] true], 0⟩
  | 62 => some ⟨.arr 2 5, 2, 2, [.w (.int .u8 0), .w (.int .u8 0)], 0⟩
  | 67 => some ⟨.struct [(0, 26), (1, 27)], 2, 32, [.sb [] true, .w (.int .i64 0)], 0⟩
  | 68 => some ⟨.struct [(0, 26), (1, 27)], 2, 32, [.sb [] true, .w (.int .i64 0)], 0⟩
  | 69 => some ⟨.int .u64, 1, 8, [.w (.int .u64 0)], 0⟩
  | 84 => some ⟨.int .u64, 1, 8, [.w (.int .u64 0)], 0⟩
  | 99 => some ⟨.int .u32, 1, 4, [.w (.int .u32 0)], 0⟩
  | 103 => some ⟨.ptr, 1, 8, [.w (.pointer none)], 0⟩
  | _ => none

theorem ty_ok : TOk Try.prog ty := by
  intro t i h
  refine tys_ok t i ?_
  unfold ty at h
  split at h <;> first | (injection h with h; subst h; rfl) | cases h
def tyF : Types := setFlat ty
theorem tyF_ok : TOk Try.prog tyF := setFlat_ok ty_ok
def tyC : Types := setCold ty
theorem tyC_ok : TOk Try.prog tyC := setCold_ok ty_ok
theorem mixed : Try.prog.follows .mixedOrders = true := by kernel_rfl

def noS (f : FuncId) : Option FSpec :=
  match f with
  | _ => none
theorem noS_ok : Fns Try.prog noS := fun f s h => by cases h
def yesS : FSpec
  | [], [] => ⟨True, .w (.bool true), []⟩
  | _, _ => noRes
end Go.Proofs.Ytbmkmjlmboppeaa
