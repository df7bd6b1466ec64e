/- The types of the program, as the walk asks them. -/
import Derived.Test.YtliabgocaijafaaAz
import Derived.Test.YtliabgocaijafaaRows
import Derived.Laws.Bits64
import Derived.Laws.BitsAllLaws
namespace Go.Proofs.Ytliabgocaijafaa
open Ax
set_option linter.unusedSimpArgs false
set_option linter.unusedVariables false

def tys : List (TypeId × TyI) := [
  (2, ⟨.int .i64, 1, 8, [.w (.int .i64 0)], 0⟩),
  (3, ⟨.int .i64, 1, 8, [.w (.int .i64 0)], 0⟩),
  (4, ⟨.bool, 1, 1, [.w (.bool false)], 0⟩),
  (5, ⟨.int .u8, 1, 1, [.w (.int .u8 0)], 0⟩),
  (9, ⟨.str, 1, 16, [.str []], 0⟩),
  (20, ⟨.other, 1, 16, [.w .nilIface], 0⟩),
  (21, ⟨.int .i32, 1, 4, [.w (.int .i32 0)], 0⟩),
  (22, ⟨.slice 5, 1, 24, [.sb [] true], 0⟩),
  (28, ⟨.int .i64, 1, 8, [.w (.int .i64 0)], 0⟩),
  (36, ⟨.int .u16, 1, 2, [.w (.int .u16 0)], 0⟩),
  (40, ⟨.int .u64, 1, 8, [.w (.int .u64 0)], 0⟩),
  (45, ⟨.int .u64, 1, 8, [.w (.int .u64 0)], 0⟩),
  (53, ⟨.int .u32, 1, 4, [.w (.int .u32 0)], 0⟩),
  (57, ⟨.ptr, 1, 8, [.w (.pointer none)], 0⟩)]

theorem tys_ok : TOk Try.prog (tab tys) := tab_ok (by kernel_rfl)

def ty (t : TypeId) : Option TyI :=
  match t with
  | 2 => some ⟨.int .i64, 1, 8, [.w (.int .i64 0)], 0⟩
  | 3 => some ⟨.int .i64, 1, 8, [.w (.int .i64 0)], 0⟩
  | 4 => some ⟨.bool, 1, 1, [.w (.bool false)], 0⟩
  | 5 => some ⟨.int .u8, 1, 1, [.w (.int .u8 0)], 0⟩
  | 9 => some ⟨.str, 1, 16, [.str []], 0⟩
  | 20 => some ⟨.other, 1, 16, [.w .nilIface], 0⟩
  | 21 => some ⟨.int .i32, 1, 4, [.w (.int .i32 0)], 0⟩
  | 22 => some ⟨.slice 5, 1, 24, [.sb [] true], 0⟩
  | 28 => some ⟨.int .i64, 1, 8, [.w (.int .i64 0)], 0⟩
  | 36 => some ⟨.int .u16, 1, 2, [.w (.int .u16 0)], 0⟩
  | 40 => some ⟨.int .u64, 1, 8, [.w (.int .u64 0)], 0⟩
  | 45 => some ⟨.int .u64, 1, 8, [.w (.int .u64 0)], 0⟩
  | 53 => some ⟨.int .u32, 1, 4, [.w (.int .u32 0)], 0⟩
  | 57 => some ⟨.ptr, 1, 8, [.w (.pointer none)], 0⟩
  | _ => none

theorem ty_ok : TOk Try.prog ty := by
  intro t i h
  refine tys_ok t i ?_
  unfold ty at h
  split at h <;> first | (injection h with h; subst h; rfl) | cases h
def tyF : Types := setFlat ty
theorem tyF_ok : TOk Try.prog tyF := setFlat_ok ty_ok
def tyC : Types := setCold ty
theorem tyC_ok : TOk Try.prog tyC := setCold_ok ty_ok
theorem mixed : Try.prog.follows .mixedOrders = true := by kernel_rfl

def noS (f : FuncId) : Option FSpec :=
  match f with
  | _ => none
theorem noS_ok : Fns Try.prog noS := fun f s h => by cases h
def yesS : FSpec
  | [], [] => ⟨True, .w (.bool true), []⟩
  | _, _ => noRes
end Go.Proofs.Ytliabgocaijafaa

/- What a parameter's type makes of an argument, by cases. -/
namespace Go.Proofs.Ytliabgocaijafaa
namespace Ax
variable (T : Types) (t : TypeId)
theorem coe_w (v : Value) : coe T t (.w v) = .w v := rfl
theorem coe_str (bs : List UInt8) : coe T t (.str bs) = .str bs := rfl
theorem coe_agg (xs : List AV) : coe T t (.agg xs) = .agg xs := rfl
theorem coe_tup (xs : List AV) : coe T t (.tup xs) = .tup xs := rfl
theorem coe_sb (bs : List UInt8) (f : Bool) : coe T t (.sb bs f) = .sb bs f := rfl
theorem coe_si (ns : List Int) (f : Bool) : coe T t (.si ns f) = .si ns f := rfl
theorem coe_cp (xs : List AV) : coe T t (.cp xs) = .cp xs := rfl
theorem coe_ms (id s off len : Nat) : coe T t (.ms id s off len) = .ms id s off len := rfl
theorem coe_rf (id s i f : Nat) : coe T t (.rf id s i f) = .rf id s i f := rfl
theorem coe_fn (f : FuncId) (xs : List AV) : coe T t (.fn f xs) = .fn f xs := rfl
theorem coe_cons (s : Nat) (x : AV) (xs : List AV) (f : Bool) : coe T t (.sg s (x :: xs) f) = .sg s (x :: xs) f := rfl
end Ax
end Go.Proofs.Ytliabgocaijafaa
