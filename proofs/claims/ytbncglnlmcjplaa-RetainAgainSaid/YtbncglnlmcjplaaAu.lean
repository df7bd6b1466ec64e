/- The types of the program, as the walk asks them. -/
import Derived.Test.YtbncglnlmcjplaaAz
import Derived.Test.YtbncglnlmcjplaaRows
import Derived.Laws.Bits64
import Derived.Laws.BitsAllLaws
namespace Go.Proofs.Ytbncglnlmcjplaa
open Ax
set_option linter.unusedSimpArgs false
set_option linter.unusedVariables false

def tys : List (TypeId × TyI) := [
  (2, ⟨.int .i64, 1, 8, [.w (.int .i64 0)], 0⟩),
  (3, ⟨.int .i64, 1, 8, [.w (.int .i64 0)], 0⟩),
  (4, ⟨.bool, 1, 1, [.w (.bool false)], 0⟩),
  (5, ⟨.int .u8, 1, 1, [.w (.int .u8 0)], 0⟩),
  (9, ⟨.str, 1, 16, [.str []], 0⟩),
  (20, ⟨.other, 1, 16, [.w .nilIface], 0⟩),
  (21, ⟨.int .i32, 1, 4, [.w (.int .i32 0)], 0⟩),
  (22, ⟨.slice 37, 1, 24, [.sg 4 [] true], 0⟩),
  (23, ⟨.struct [(0, 3), (1, 3)], 2, 16, [.w (.int .i64 0), .w (.int .i64 0)], 0⟩),
  (24, ⟨.struct [(0, 3), (1, 3)], 2, 16, [.w (.int .i64 0), .w (.int .i64 0)], 0⟩),
  (26, ⟨.slice 35, 1, 24, [.sg 4 [] true], 0⟩),
  (29, ⟨.struct [(0, 3), (1, 3)], 2, 16, [.w (.int .i64 0), .w (.int .i64 0)], 0⟩),
  (34, ⟨.struct [(0, 3), (1, 3), (2, 3), (3, 3)], 4, 32, [.w (.int .i64 0), .w (.int .i64 0), .w (.int .i64 0), .w (.int .i64 0)], 0⟩),
  (35, ⟨.struct [(0, 3), (1, 3), (2, 3), (3, 3)], 4, 32, [.w (.int .i64 0), .w (.int .i64 0), .w (.int .i64 0), .w (.int .i64 0)], 0⟩),
  (37, ⟨.struct [(0, 3), (1, 3), (2, 3), (3, 3)], 4, 32, [.w (.int .i64 0), .w (.int .i64 0), .w (.int .i64 0), .w (.int .i64 0)], 0⟩),
  (42, ⟨.arr 2 3, 2, 16, [.w (.int .i64 0), .w (.int .i64 0)], 0⟩),
  (44, ⟨.slice 3, 1, 24, [.si [] true], 0⟩),
  (46, ⟨.func, 1, 8, [.w .nilFunc], 0⟩),
  (57, ⟨.int .u32, 1, 4, [.w (.int .u32 0)], 0⟩),
  (61, ⟨.ptr, 1, 8, [.w (.pointer none)], 0⟩)]

theorem tys_ok : TOk Try.prog (tab tys) := tab_ok (by kernel_rfl)

def ty (t : TypeId) : Option TyI :=
  match t with
  | 2 => some ⟨.int .i64, 1, 8, [.w (.int .i64 0)], 0⟩
  | 3 => some ⟨.int .i64, 1, 8, [.w (.int .i64 0)], 0⟩
  | 4 => some ⟨.bool, 1, 1, [.w (.bool false)], 0⟩
  | 5 => some ⟨.int .u8, 1, 1, [.w (.int .u8 0)], 0⟩
  | 9 => some ⟨.str, 1, 16, [.str []], 0⟩
  | 20 => some ⟨.other, 1, 16, [.w .nilIface], 0⟩
  | 21 => some ⟨.int .i32, 1, 4, [.w (.int .i32 0)], 0⟩
  | 22 => some ⟨.slice 37, 1, 24, [.sg 4 [] true], 0⟩
  | 23 => some ⟨.struct [(0, 3), (1, 3)], 2, 16, [.w (.int .i64 0), .w (.int .i64 0)], 0⟩
  | 24 => some ⟨.struct [(0, 3), (1, 3)], 2, 16, [.w (.int .i64 0), .w (.int .i64 0)], 0⟩
  | 26 => some ⟨.slice 35, 1, 24, [.sg 4 [] true], 0⟩
  | 29 => some ⟨.struct [(0, 3), (1, 3)], 2, 16, [.w (.int .i64 0), .w (.int .i64 0)], 0⟩
  | 34 => some ⟨.struct [(0, 3), (1, 3), (2, 3), (3, 3)], 4, 32, [.w (.int .i64 0), .w (.int .i64 0), .w (.int .i64 0), .w (.int .i64 0)], 0⟩
  | 35 => some ⟨.struct [(0, 3), (1, 3), (2, 3), (3, 3)], 4, 32, [.w (.int .i64 0), .w (.int .i64 0), .w (.int .i64 0), .w (.int .i64 0)], 0⟩
  | 37 => some ⟨.struct [(0, 3), (1, 3), (2, 3), (3, 3)], 4, 32, [.w (.int .i64 0), .w (.int .i64 0), .w (.int .i64 0), .w (.int .i64 0)], 0⟩
  | 42 => some ⟨.arr 2 3, 2, 16, [.w (.int .i64 0), .w (.int .i64 0)], 0⟩
  | 44 => some ⟨.slice 3, 1, 24, [.si [] true], 0⟩
  | 46 => some ⟨.func, 1, 8, [.w .nilFunc], 0⟩
  | 57 => some ⟨.int .u32, 1, 4, [.w (.int .u32 0)], 0⟩
  | 61 => some ⟨.ptr, 1, 8, [.w (.pointer none)], 0⟩
  | _ => none

theorem ty_ok : TOk Try.prog ty := by
  intro t i h
  refine tys_ok t i ?_
  unfold ty at h
  split at h <;> first | (injection h with h; subst h; rfl) | cases h
def tyF : Types := setFlat ty
theorem tyF_ok : TOk Try.prog tyF := setFlat_ok ty_ok
def tyC : Types := setCold ty
theorem tyC_ok : TOk Try.prog tyC := setCold_ok ty_ok
theorem mixed : Try.prog.follows .mixedOrders = true := by kernel_rfl

def noS (f : FuncId) : Option FSpec :=
  match f with
  | _ => none
theorem noS_ok : Fns Try.prog noS := fun f s h => by cases h
def yesS : FSpec
  | [], [] => ⟨True, .w (.bool true), []⟩
  | _, _ => noRes
end Go.Proofs.Ytbncglnlmcjplaa

/- What a parameter's type makes of an argument, by cases. -/
namespace Go.Proofs.Ytbncglnlmcjplaa
namespace Ax
variable (T : Types) (t : TypeId)
theorem coe_w (v : Value) : coe T t (.w v) = .w v := rfl
theorem coe_str (bs : List UInt8) : coe T t (.str bs) = .str bs := rfl
theorem coe_agg (xs : List AV) : coe T t (.agg xs) = .agg xs := rfl
theorem coe_tup (xs : List AV) : coe T t (.tup xs) = .tup xs := rfl
theorem coe_sb (bs : List UInt8) (f : Bool) : coe T t (.sb bs f) = .sb bs f := rfl
theorem coe_si (ns : List Int) (f : Bool) : coe T t (.si ns f) = .si ns f := rfl
theorem coe_cp (xs : List AV) : coe T t (.cp xs) = .cp xs := rfl
theorem coe_ms (id s off len : Nat) : coe T t (.ms id s off len) = .ms id s off len := rfl
theorem coe_rf (id s i f : Nat) : coe T t (.rf id s i f) = .rf id s i f := rfl
theorem coe_fn (f : FuncId) (xs : List AV) : coe T t (.fn f xs) = .fn f xs := rfl
theorem coe_cons (s : Nat) (x : AV) (xs : List AV) (f : Bool) : coe T t (.sg s (x :: xs) f) = .sg s (x :: xs) f := rfl
end Ax
open Ax
attribute [go_sem] evT evD0 evD1 evD2 implies_true forall_const Option.getD aop aLen ev putSlot cv cvl aConv aBin aInt aUn aFn aEq List.length IntKind.bits evo List.append List.replicate aIndexAddr aIndex TD.aggr aPick aMin aMax Ax.Ends rone List.isEmpty aAppend appendB viewB List.drop List.take aRange aNext aCopy srcB viewG appendG appendI aSlice bnd full3 aStore setB AV.leaves AV.okv AV.leaf one elemLeaves Blk.size Blk.len Option.isSome Option.isNone aStr aNil aExtract viewI List.contains List.elem Blk.closed Blk.noimm givenUp Blk.clean notMs coe_w coe_str coe_agg coe_tup coe_sb coe_si coe_cp coe_ms coe_rf coe_fn coe_cons mapTy aMakeMap aLookup aUpdate aEntry aDelete aClear findM foundM putM cutM AV.pureK AV.pure bareK bare Thing.lone isStrTy
attribute [go_sem ↓] gsplit_tt gsplit_ff gsplit_tf gsplit_ft csplit_t csplit_f
theorem ssT : (type_of% @true_or) ∧
    (type_of% @false_or) ∧
    (type_of% @or_true) ∧
    (type_of% @or_false) ∧
    (type_of% @and_true) ∧
    (type_of% @true_and) ∧
    (type_of% @AV.w.injEq) ∧
    (type_of% @Value.int.injEq) ∧
    (type_of% @Value.bool.injEq) ∧
    (type_of% @AV.ms.injEq) ∧
    (type_of% @AV.sb.injEq) ∧
    (type_of% @AV.str.injEq) ∧
    (type_of% @Nat.zero_add) ∧
    (type_of% @Nat.add_zero) ∧
    (type_of% @Blk.b.injEq) ∧
    (type_of% @Blk.i.injEq) ∧
    (type_of% @Nat.succ_ne_zero) ∧
    (type_of% @and_self) :=
  ⟨@true_or, @false_or, @or_true, @or_false, @and_true, @true_and, @AV.w.injEq, @Value.int.injEq, @Value.bool.injEq, @AV.ms.injEq, @AV.sb.injEq, @AV.str.injEq, @Nat.zero_add, @Nat.add_zero, @Blk.b.injEq, @Blk.i.injEq, @Nat.succ_ne_zero, @and_self⟩
end Go.Proofs.Ytbncglnlmcjplaa
