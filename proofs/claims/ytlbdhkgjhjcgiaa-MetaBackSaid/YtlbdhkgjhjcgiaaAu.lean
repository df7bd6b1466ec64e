/- The types of the program, as the walk asks them. -/
import Derived.Test.YtlbdhkgjhjcgiaaAz
import Derived.Test.YtlbdhkgjhjcgiaaRows
import Derived.Laws.Bits64
import Derived.Laws.BitsAllLaws
namespace Go.Proofs.Ytlbdhkgjhjcgiaa
open Ax
set_option linter.unusedSimpArgs false
set_option linter.unusedVariables false

def tys : List (TypeId × TyI) := [
  (2, ⟨.int .i64, 1, 8, [.w (.int .i64 0)], 0⟩),
  (3, ⟨.int .i64, 1, 8, [.w (.int .i64 0)], 0⟩),
  (4, ⟨.bool, 1, 1, [.w (.bool false)], 0⟩),
  (5, ⟨.int .u8, 1, 1, [.w (.int .u8 0)], 0⟩),
  (9, ⟨.str, 1, 16, [.str []], 0⟩),
  (20, ⟨.other, 1, 16, [.w .nilIface], 0⟩),
  (21, ⟨.int .i32, 1, 4, [.w (.int .i32 0)], 0⟩),
  (22, ⟨.struct [(0, 5), (1, 3), (2, 3), (3, 9), (4, 3), (5, 4), (6, 3), (7, 3), (8, 3)], 9, 80, [.w (.int .u8 0), .w (.int .i64 0), .w (.int .i64 0), .str [], .w (.int .i64 0), .w (.bool false), .w (.int .i64 0), .w (.int .i64 0), .w (.int .i64 0)], 0⟩),
  (23, ⟨.struct [(0, 5), (1, 3), (2, 3), (3, 9), (4, 3), (5, 4), (6, 3), (7, 3), (8, 3)], 9, 80, [.w (.int .u8 0), .w (.int .i64 0), .w (.int .i64 0), .str [], .w (.int .i64 0), .w (.bool false), .w (.int .i64 0), .w (.int .i64 0), .w (.int .i64 0)], 0⟩),
  (25, ⟨.slice 23, 1, 24, [.sg 9 [] true], 0⟩),
  (27, ⟨.slice 5, 1, 24, [.sb [] true], 0⟩),
  (28, ⟨.int .i64, 1, 8, [.w (.int .i64 0)], 0⟩),
  (50, ⟨.slice 53, 1, 24, [.sg 1 [] true], 0⟩),
  (52, ⟨.ptr, 1, 8, [.w (.pointer none)], 0⟩),
  (53, ⟨.ptr, 1, 8, [.w (.pointer none)], 0⟩),
  (57, ⟨.slice 3, 1, 24, [.si [] true], 0⟩),
  (61, ⟨.ptr, 1, 8, [.w (.pointer none)], 0⟩),
  (63, ⟨.int .u64, 1, 8, [.w (.int .u64 0)], 0⟩),
  (69, ⟨.struct [(0, 27), (1, 3)], 2, 32, [.sb [] true, .w (.int .i64 0)], 0⟩),
  (70, ⟨.struct [(0, 27), (1, 3)], 2, 32, [.sb [] true, .w (.int .i64 0)], 0⟩),
  (76, ⟨.int .u64, 1, 8, [.w (.int .u64 0)], 0⟩),
  (78, ⟨.struct [(0, 27), (1, 28)], 2, 32, [.sb [] true, .w (.int .i64 0)], 0⟩),
  (79, ⟨.struct [(0, 27), (1, 28)], 2, 32, [.sb [] true, .w (.int .i64 0)], 0⟩),
  (95, ⟨.int .u32, 1, 4, [.w (.int .u32 0)], 0⟩),
  (99, ⟨.ptr, 1, 8, [.w (.pointer none)], 0⟩)]

theorem tys_ok : TOk Try.prog (tab tys) := tab_ok (by kernel_rfl)

def ty (t : TypeId) : Option TyI :=
  match t with
  | 2 => some ⟨.int .i64, 1, 8, [.w (.int .i64 0)], 0⟩
  | 3 => some ⟨.int .i64, 1, 8, [.w (.int .i64 0)], 0⟩
  | 4 => some ⟨.bool, 1, 1, [.w (.bool false)], 0⟩
  | 5 => some ⟨.int .u8, 1, 1, [.w (.int .u8 0)], 0⟩
  | 9 => some ⟨.str, 1, 16, [.str []], 0⟩
  | 20 => some ⟨.other, 1, 16, [.w .nilIface], 0⟩
  | 21 => some ⟨.int .i32, 1, 4, [.w (.int .i32 0)], 0⟩
  | 22 => some ⟨.struct [(0, 5), (1, 3), (2, 3), (3, 9), (4, 3), (5, 4), (6, 3), (7, 3), (8, 3)], 9, 80, [.w (.int .u8 0), .w (.int .i64 0), .w (.int .i64 0), .str [], .w (.int .i64 0), .w (.bool false), .w (.int .i64 0), .w (.int .i64 0), .w (.int .i64 0)], 0⟩
  | 23 => some ⟨.struct [(0, 5), (1, 3), (2, 3), (3, 9), (4, 3), (5, 4), (6, 3), (7, 3), (8, 3)], 9, 80, [.w (.int .u8 0), .w (.int .i64 0), .w (.int .i64 0), .str [], .w (.int .i64 0), .w (.bool false), .w (.int .i64 0), .w (.int .i64 0), .w (.int .i64 0)], 0⟩
  | 25 => some ⟨.slice 23, 1, 24, [.sg 9 [] true], 0⟩
  | 27 => some ⟨.slice 5, 1, 24, [.sb [] true], 0⟩
  | 28 => some ⟨.int .i64, 1, 8, [.w (.int .i64 0)], 0⟩
  | 50 => some ⟨.slice 53, 1, 24, [.sg 1 [] true], 0⟩
  | 52 => some ⟨.ptr, 1, 8, [.w (.pointer none)], 0⟩
  | 53 => some ⟨.ptr, 1, 8, [.w (.pointer none)], 0⟩
  | 57 => some ⟨.slice 3, 1, 24, [.si [] true], 0⟩
  | 61 => some ⟨.ptr, 1, 8, [.w (.pointer none)], 0⟩
  | 63 => some ⟨.int .u64, 1, 8, [.w (.int .u64 0)], 0⟩
  | 69 => some ⟨.struct [(0, 27), (1, 3)], 2, 32, [.sb [] true, .w (.int .i64 0)], 0⟩
  | 70 => some ⟨.struct [(0, 27), (1, 3)], 2, 32, [.sb [] true, .w (.int .i64 0)], 0⟩
  | 76 => some ⟨.int .u64, 1, 8, [.w (.int .u64 0)], 0⟩
  | 78 => some ⟨.struct [(0, 27), (1, 28)], 2, 32, [.sb [] true, .w (.int .i64 0)], 0⟩
  | 79 => some ⟨.struct [(0, 27), (1, 28)], 2, 32, [.sb [] true, .w (.int .i64 0)], 0⟩
  | 95 => some ⟨.int .u32, 1, 4, [.w (.int .u32 0)], 0⟩
  | 99 => some ⟨.ptr, 1, 8, [.w (.pointer none)], 0⟩
  | _ => none

theorem ty_ok : TOk Try.prog ty := by
  intro t i h
  refine tys_ok t i ?_
  unfold ty at h
  split at h <;> first | (injection h with h; subst h; rfl) | cases h
def tyF : Types := setFlat ty
theorem tyF_ok : TOk Try.prog tyF := setFlat_ok ty_ok
def tyC : Types := setCold ty
theorem tyC_ok : TOk Try.prog tyC := setCold_ok ty_ok
theorem mixed : Try.prog.follows .mixedOrders = true := by kernel_rfl

def noS (f : FuncId) : Option FSpec :=
  match f with
  | _ => none
theorem noS_ok : Fns Try.prog noS := fun f s h => by cases h
def yesS : FSpec
  | [], [] => ⟨True, .w (.bool true), []⟩
  | _, _ => noRes
end Go.Proofs.Ytlbdhkgjhjcgiaa

/- What a parameter's type makes of an argument, by cases. -/
namespace Go.Proofs.Ytlbdhkgjhjcgiaa
namespace Ax
variable (T : Types) (t : TypeId)
theorem coe_w (v : Value) : coe T t (.w v) = .w v := rfl
theorem coe_str (bs : List UInt8) : coe T t (.str bs) = .str bs := rfl
theorem coe_agg (xs : List AV) : coe T t (.agg xs) = .agg xs := rfl
theorem coe_tup (xs : List AV) : coe T t (.tup xs) = .tup xs := rfl
theorem coe_sb (bs : List UInt8) (f : Bool) : coe T t (.sb bs f) = .sb bs f := rfl
theorem coe_si (ns : List Int) (f : Bool) : coe T t (.si ns f) = .si ns f := rfl
theorem coe_cp (xs : List AV) : coe T t (.cp xs) = .cp xs := rfl
theorem coe_ms (id s off len : Nat) : coe T t (.ms id s off len) = .ms id s off len := rfl
theorem coe_rf (id s i f : Nat) : coe T t (.rf id s i f) = .rf id s i f := rfl
theorem coe_fn (f : FuncId) (xs : List AV) : coe T t (.fn f xs) = .fn f xs := rfl
theorem coe_cons (s : Nat) (x : AV) (xs : List AV) (f : Bool) : coe T t (.sg s (x :: xs) f) = .sg s (x :: xs) f := rfl
end Ax
end Go.Proofs.Ytlbdhkgjhjcgiaa
