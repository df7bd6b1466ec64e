/- The types of the program, as the walk asks them. -/
import Derived.Test.YtgkkgbomhfdbkaaAz
import Derived.Test.YtgkkgbomhfdbkaaRows
import Derived.Laws.Bits64
import Derived.Laws.BitsAllLaws
namespace Go.Proofs.Ytgkkgbomhfdbkaa
open Ax
set_option linter.unusedSimpArgs false
set_option linter.unusedVariables false

def tys : List (TypeId × TyI) := [
  (2, ⟨.int .i64, 1, 8, [.w (.int .i64 0)], 0⟩),
  (3, ⟨.int .i64, 1, 8, [.w (.int .i64 0)], 0⟩),
  (4, ⟨.bool, 1, 1, [.w (.bool false)], 0⟩),
  (5, ⟨.int .u8, 1, 1, [.w (.int .u8 0)], 0⟩),
  (9, ⟨.str, 1, 16, [.str []], 0⟩),
  (20, ⟨.other, 1, 16, [.w .nilIface], 0⟩),
  (21, ⟨.int .i32, 1, 4, [.w (.int .i32 0)], 0⟩),
  (22, ⟨.slice 5, 1, 24, [.sb [] true], 0⟩),
  (24, ⟨.int .i64, 1, 8, [.w (.int .i64 0)], 0⟩),
  (34, ⟨.slice 22, 1, 24, [.sg 1 [] true], 0⟩),
  (47, ⟨.slice 51, 1, 24, [.sg 3 [] true], 0⟩),
  (48, ⟨.struct [(0, 3), (1, 3), (2, 47)], 3, 40, [.w (.int .i64 0), .w (.int .i64 0), .sg 3 [] true], 0⟩),
  (49, ⟨.struct [(0, 3), (1, 3), (2, 47)], 3, 40, [.w (.int .i64 0), .w (.int .i64 0), .sg 3 [] true], 0⟩),
  (50, ⟨.struct [(0, 3), (1, 3), (2, 3)], 3, 24, [.w (.int .i64 0), .w (.int .i64 0), .w (.int .i64 0)], 0⟩),
  (51, ⟨.struct [(0, 3), (1, 3), (2, 3)], 3, 24, [.w (.int .i64 0), .w (.int .i64 0), .w (.int .i64 0)], 0⟩),
  (52, ⟨.slice 57, 1, 24, [.sg 3 [] true], 0⟩),
  (53, ⟨.struct [(0, 3), (1, 3), (2, 52)], 3, 40, [.w (.int .i64 0), .w (.int .i64 0), .sg 3 [] true], 0⟩),
  (54, ⟨.struct [(0, 3), (1, 3), (2, 52)], 3, 40, [.w (.int .i64 0), .w (.int .i64 0), .sg 3 [] true], 0⟩),
  (57, ⟨.struct [(0, 3), (1, 3), (2, 3)], 3, 24, [.w (.int .i64 0), .w (.int .i64 0), .w (.int .i64 0)], 0⟩),
  (74, ⟨.slice 88, 1, 24, [.sg 4 [] true], 0⟩),
  (75, ⟨.struct [(0, 3), (1, 3)], 2, 16, [.w (.int .i64 0), .w (.int .i64 0)], 0⟩),
  (76, ⟨.struct [(0, 3), (1, 3)], 2, 16, [.w (.int .i64 0), .w (.int .i64 0)], 0⟩),
  (77, ⟨.slice 86, 1, 24, [.sg 4 [] true], 0⟩),
  (80, ⟨.struct [(0, 3), (1, 3)], 2, 16, [.w (.int .i64 0), .w (.int .i64 0)], 0⟩),
  (85, ⟨.struct [(0, 3), (1, 3), (2, 3), (3, 3)], 4, 32, [.w (.int .i64 0), .w (.int .i64 0), .w (.int .i64 0), .w (.int .i64 0)], 0⟩),
  (86, ⟨.struct [(0, 3), (1, 3), (2, 3), (3, 3)], 4, 32, [.w (.int .i64 0), .w (.int .i64 0), .w (.int .i64 0), .w (.int .i64 0)], 0⟩),
  (88, ⟨.struct [(0, 3), (1, 3), (2, 3), (3, 3)], 4, 32, [.w (.int .i64 0), .w (.int .i64 0), .w (.int .i64 0), .w (.int .i64 0)], 0⟩),
  (93, ⟨.arr 2 3, 2, 16, [.w (.int .i64 0), .w (.int .i64 0)], 0⟩),
  (97, ⟨.ptr, 1, 8, [.w (.pointer none)], 0⟩),
  (101, ⟨.slice 3, 1, 24, [.si [] true], 0⟩),
  (103, ⟨.func, 1, 8, [.w .nilFunc], 0⟩),
  (114, ⟨.int .u32, 1, 4, [.w (.int .u32 0)], 0⟩),
  (118, ⟨.ptr, 1, 8, [.w (.pointer none)], 0⟩)]

theorem tys_ok : TOk Try.prog (tab tys) := tab_ok (by kernel_rfl)

def ty (t : TypeId) : Option TyI :=
  match t with
  | 2 => some ⟨.int .i64, 1, 8, [.w (.int .i64 0)], 0⟩
  | 3 => some ⟨.int .i64, 1, 8, [.w (.int .i64 0)], 0⟩
  | 4 => some ⟨.bool, 1, 1, [.w (.bool false)], 0⟩
  | 5 => some ⟨.int .u8, 1, 1, [.w (.int .u8 0)], 0⟩
  | 9 => some ⟨.str, 1, 16, [.str []], 0⟩
  | 20 => some ⟨.other, 1, 16, [.w .nilIface], 0⟩
  | 21 => some ⟨.int .i32, 1, 4, [.w (.int .i32 0)], 0⟩
  | 22 => some ⟨.slice 5, 1, 24, [.sb [] true], 0⟩
  | 24 => some ⟨.int .i64, 1, 8, [.w (.int .i64 0)], 0⟩
  | 34 => some ⟨.slice 22, 1, 24, [.sg 1 [] true], 0⟩
  | 47 => some ⟨.slice 51, 1, 24, [.sg 3 [] true], 0⟩
  | 48 => some ⟨.struct [(0, 3), (1, 3), (2, 47)], 3, 40, [.w (.int .i64 0), .w (.int .i64 0), .sg 3 [] true], 0⟩
  | 49 => some ⟨.struct [(0, 3), (1, 3), (2, 47)], 3, 40, [.w (.int .i64 0), .w (.int .i64 0), .sg 3 [] true], 0⟩
  | 50 => some ⟨.struct [(0, 3), (1, 3), (2, 3)], 3, 24, [.w (.int .i64 0), .w (.int .i64 0), .w (.int .i64 0)], 0⟩
  | 51 => some ⟨.struct [(0, 3), (1, 3), (2, 3)], 3, 24, [.w (.int .i64 0), .w (.int .i64 0), .w (.int .i64 0)], 0⟩
  | 52 => some ⟨.slice 57, 1, 24, [.sg 3 [] true], 0⟩
  | 53 => some ⟨.struct [(0, 3), (1, 3), (2, 52)], 3, 40, [.w (.int .i64 0), .w (.int .i64 0), .sg 3 [] true], 0⟩
  | 54 => some ⟨.struct [(0, 3), (1, 3), (2, 52)], 3, 40, [.w (.int .i64 0), .w (.int .i64 0), .sg 3 [] true], 0⟩
  | 57 => some ⟨.struct [(0, 3), (1, 3), (2, 3)], 3, 24, [.w (.int .i64 0), .w (.int .i64 0), .w (.int .i64 0)], 0⟩
  | 74 => some ⟨.slice 88, 1, 24, [.sg 4 [] true], 0⟩
  | 75 => some ⟨.struct [(0, 3), (1, 3)], 2, 16, [.w (.int .i64 0), .w (.int .i64 0)], 0⟩
  | 76 => some ⟨.struct [(0, 3), (1, 3)], 2, 16, [.w (.int .i64 0), .w (.int .i64 0)], 0⟩
  | 77 => some ⟨.slice 86, 1, 24, [.sg 4 [] true], 0⟩
  | 80 => some ⟨.struct [(0, 3), (1, 3)], 2, 16, [.w (.int .i64 0), .w (.int .i64 0)], 0⟩
  | 85 => some ⟨.struct [(0, 3), (1, 3), (2, 3), (3, 3)], 4, 32, [.w (.int .i64 0), .w (.int .i64 0), .w (.int .i64 0), .w (.int .i64 0)], 0⟩
  | 86 => some ⟨.struct [(0, 3), (1, 3), (2, 3), (3, 3)], 4, 32, [.w (.int .i64 0), .w (.int .i64 0), .w (.int .i64 0), .w (.int .i64 0)], 0⟩
  | 88 => some ⟨.struct [(0, 3), (1, 3), (2, 3), (3, 3)], 4, 32, [.w (.int .i64 0), .w (.int .i64 0), .w (.int .i64 0), .w (.int .i64 0)], 0⟩
  | 93 => some ⟨.arr 2 3, 2, 16, [.w (.int .i64 0), .w (.int .i64 0)], 0⟩
  | 97 => some ⟨.ptr, 1, 8, [.w (.pointer none)], 0⟩
  | 101 => some ⟨.slice 3, 1, 24, [.si [] true], 0⟩
  | 103 => some ⟨.func, 1, 8, [.w .nilFunc], 0⟩
  | 114 => some ⟨.int .u32, 1, 4, [.w (.int .u32 0)], 0⟩
  | 118 => some ⟨.ptr, 1, 8, [.w (.pointer none)], 0⟩
  | _ => none

theorem ty_ok : TOk Try.prog ty := by
  intro t i h
  refine tys_ok t i ?_
  unfold ty at h
  split at h <;> first | (injection h with h; subst h; rfl) | cases h
def tyF : Types := setFlat ty
theorem tyF_ok : TOk Try.prog tyF := setFlat_ok ty_ok
def tyC : Types := setCold ty
theorem tyC_ok : TOk Try.prog tyC := setCold_ok ty_ok
theorem mixed : Try.prog.follows .mixedOrders = true := by kernel_rfl

def noS (f : FuncId) : Option FSpec :=
  match f with
  | _ => none
theorem noS_ok : Fns Try.prog noS := fun f s h => by cases h
def yesS : FSpec
  | [], [] => ⟨True, .w (.bool true), []⟩
  | _, _ => noRes
end Go.Proofs.Ytgkkgbomhfdbkaa
