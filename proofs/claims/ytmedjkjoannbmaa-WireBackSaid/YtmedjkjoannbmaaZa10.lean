/- What the proofs of this seat stand on; it asks nothing. -/
import Derived.Test.YtmedjkjoannbmaaZa09
set_option linter.unusedSimpArgs false
set_option linter.unusedVariables false
namespace Go.Proofs.Ytmedjkjoannbmaa
open Ax
def tys : List (TypeId × TyI) := [
 (2,⟨.int .i64,1,8,[.w (.int .i64 0)],0⟩),
 (3,⟨.int .i64,1,8,[.w (.int .i64 0)],0⟩),
 (4,⟨.bool,1,1,[.w (.bool false)],0⟩),
 (5,⟨.int .u8,1,1,[.w (.int .u8 0)],0⟩),
 (9,⟨.str,1,16,[.str []],0⟩),
 (20,⟨.other,1,16,[.w .nilIface],0⟩),
 (21,⟨.int .i32,1,4,[.w (.int .i32 0)],0⟩),
 (22,⟨.slice 102,1,24,[.sg 6 [] true],0⟩),
 (23,⟨.struct [(0,3),(1,3),(2,3),(3,3),(4,3),(5,22)],6,64,[.w (.int .i64 0),.w (.int .i64 0),.w (.int .i64 0),.w (.int .i64 0),.w (.int .i64 0),.sg 6 [] true],0⟩),
 (24,⟨.struct [(0,3),(1,3),(2,3),(3,3),(4,3),(5,22)],6,64,[.w (.int .i64 0),.w (.int .i64 0),.w (.int .i64 0),.w (.int .i64 0),.w (.int .i64 0),.sg 6 [] true],0⟩),
 (25,⟨.struct [(0,5),(1,9),(2,3),(3,3),(4,4),(5,4),(6,3),(7,3),(8,3),(9,9),(10,9),(11,3),(12,24)],18,176,[.w (.int .u8 0),.str [],.w (.int .i64 0),.w (.int .i64 0),.w (.bool false),.w (.bool false),.w (.int .i64 0),.w (.int .i64 0),.w (.int .i64 0),.str [],.str [],.w (.int .i64 0),.w (.int .i64 0),.w (.int .i64 0),.w (.int .i64 0),.w (.int .i64 0),.w (.int .i64 0),.sg 6 [] true],0⟩),
 (26,⟨.struct [(0,5),(1,9),(2,3),(3,3),(4,4),(5,4),(6,3),(7,3),(8,3),(9,9),(10,9),(11,3),(12,24)],18,176,[.w (.int .u8 0),.str [],.w (.int .i64 0),.w (.int .i64 0),.w (.bool false),.w (.bool false),.w (.int .i64 0),.w (.int .i64 0),.w (.int .i64 0),.str [],.str [],.w (.int .i64 0),.w (.int .i64 0),.w (.int .i64 0),.w (.int .i64 0),.w (.int .i64 0),.w (.int .i64 0),.sg 6 [] true],0⟩),
 (29,⟨.slice 5,1,24,[.sb [] true],0⟩),
 (30,⟨.int .i64,1,8,[.w (.int .i64 0)],0⟩),
 (38,⟨.slice 24,1,24,[.sg 6 [] true],0⟩),
 (39,⟨.slice 3,1,24,[.si [] true],0⟩),
 (40,⟨.slice 9,1,24,[.sg 1 [] true],0⟩),
 (41,⟨.struct [(0,5),(1,30),(2,3),(3,3),(4,4),(5,3),(6,38),(7,39),(8,40)],9,120,[.w (.int .u8 0),.w (.int .i64 0),.w (.int .i64 0),.w (.int .i64 0),.w (.bool false),.w (.int .i64 0),.sg 6 [] true,.si [] true,.sg 1 [] true],0⟩),
 (42,⟨.struct [(0,5),(1,30),(2,3),(3,3),(4,4),(5,3),(6,38),(7,39),(8,40)],9,120,[.w (.int .u8 0),.w (.int .i64 0),.w (.int .i64 0),.w (.int .i64 0),.w (.bool false),.w (.int .i64 0),.sg 6 [] true,.si [] true,.sg 1 [] true],0⟩),
 (57,⟨.arr 2 42,18,240,[.w (.int .u8 0),.w (.int .i64 0),.w (.int .i64 0),.w (.int .i64 0),.w (.bool false),.w (.int .i64 0),.sg 6 [] true,.si [] true,.sg 1 [] true,.w (.int .u8 0),.w (.int .i64 0),.w (.int .i64 0),.w (.int .i64 0),.w (.bool false),.w (.int .i64 0),.sg 6 [] true,.si [] true,.sg 1 [] true],0⟩),
 (76,⟨.ptr,1,8,[.w (.pointer none)],0⟩),
 (78,⟨.int .u64,1,8,[.w (.int .u64 0)],0⟩),
 (81,⟨.ptr,1,8,[.w (.pointer none)],0⟩),
 (83,⟨.struct [(0,29),(1,3)],2,32,[.sb [] true,.w (.int .i64 0)],0⟩),
 (84,⟨.struct [(0,29),(1,3)],2,32,[.sb [] true,.w (.int .i64 0)],0⟩),
 (101,⟨.struct [(0,3),(1,3),(2,4),(3,9),(4,4),(5,9)],6,64,[.w (.int .i64 0),.w (.int .i64 0),.w (.bool false),.str [],.w (.bool false),.str []],0⟩),
 (102,⟨.struct [(0,3),(1,3),(2,4),(3,9),(4,4),(5,9)],6,64,[.w (.int .i64 0),.w (.int .i64 0),.w (.bool false),.str [],.w (.bool false),.str []],0⟩),
 (104,⟨.ptr,1,8,[.w (.pointer none)],0⟩),
 (106,⟨.ptr,1,8,[.w (.pointer none)],0⟩),
 (108,⟨.ptr,1,8,[.w (.pointer none)],0⟩),
 (120,⟨.int .u64,1,8,[.w (.int .u64 0)],0⟩),
 (121,⟨.struct [(0,29),(1,30)],2,32,[.sb [] true,.w (.int .i64 0)],0⟩),
 (122,⟨.struct [(0,29),(1,30)],2,32,[.sb [] true,.w (.int .i64 0)],0⟩),
 (146,⟨.int .u32,1,4,[.w (.int .u32 0)],0⟩),
 (150,⟨.ptr,1,8,[.w (.pointer none)],0⟩)]
theorem tys_ok : TOk Try.prog (tab tys) := tab_ok (by kernel_rfl)
def ty (t : TypeId) : Option TyI :=
 match t with
 | 2 => some ⟨.int .i64,1,8,[.w (.int .i64 0)],0⟩
 | 3 => some ⟨.int .i64,1,8,[.w (.int .i64 0)],0⟩
 | 4 => some ⟨.bool,1,1,[.w (.bool false)],0⟩
 | 5 => some ⟨.int .u8,1,1,[.w (.int .u8 0)],0⟩
 | 9 => some ⟨.str,1,16,[.str []],0⟩
 | 20 => some ⟨.other,1,16,[.w .nilIface],0⟩
 | 21 => some ⟨.int .i32,1,4,[.w (.int .i32 0)],0⟩
 | 22 => some ⟨.slice 102,1,24,[.sg 6 [] true],0⟩
 | 23 => some ⟨.struct [(0,3),(1,3),(2,3),(3,3),(4,3),(5,22)],6,64,[.w (.int .i64 0),.w (.int .i64 0),.w (.int .i64 0),.w (.int .i64 0),.w (.int .i64 0),.sg 6 [] true],0⟩
 | 24 => some ⟨.struct [(0,3),(1,3),(2,3),(3,3),(4,3),(5,22)],6,64,[.w (.int .i64 0),.w (.int .i64 0),.w (.int .i64 0),.w (.int .i64 0),.w (.int .i64 0),.sg 6 [] true],0⟩
 | 25 => some ⟨.struct [(0,5),(1,9),(2,3),(3,3),(4,4),(5,4),(6,3),(7,3),(8,3),(9,9),(10,9),(11,3),(12,24)],18,176,[.w (.int .u8 0),.str [],.w (.int .i64 0),.w (.int .i64 0),.w (.bool false),.w (.bool false),.w (.int .i64 0),.w (.int .i64 0),.w (.int .i64 0),.str [],.str [],.w (.int .i64 0),.w (.int .i64 0),.w (.int .i64 0),.w (.int .i64 0),.w (.int .i64 0),.w (.int .i64 0),.sg 6 [] true],0⟩
 | 26 => some ⟨.struct [(0,5),(1,9),(2,3),(3,3),(4,4),(5,4),(6,3),(7,3),(8,3),(9,9),(10,9),(11,3),(12,24)],18,176,[.w (.int .u8 0),.str [],.w (.int .i64 0),.w (.int .i64 0),.w (.bool false),.w (.bool false),.w (.int .i64 0),.w (.int .i64 0),.w (.int .i64 0),.str [],.str [],.w (.int .i64 0),.w (.int .i64 0),.w (.int .i64 0),.w (.int .i64 0),.w (.int .i64 0),.w (.int .i64 0),.sg 6 [] true],0⟩
 | 29 => some ⟨.slice 5,1,24,[.sb [] true],0⟩
 | 30 => some ⟨.int .i64,1,8,[.w (.int .i64 0)],0⟩
 | 38 => some ⟨.slice 24,1,24,[.sg 6 [] true],0⟩
 | 39 => some ⟨.slice 3,1,24,[.si [] true],0⟩
 | 40 => some ⟨.slice 9,1,24,[.sg 1 [] true],0⟩
 | 41 => some ⟨.struct [(0,5),(1,30),(2,3),(3,3),(4,4),(5,3),(6,38),(7,39),(8,40)],9,120,[.w (.int .u8 0),.w (.int .i64 0),.w (.int .i64 0),.w (.int .i64 0),.w (.bool false),.w (.int .i64 0),.sg 6 [] true,.si [] true,.sg 1 [] true],0⟩
 | 42 => some ⟨.struct [(0,5),(1,30),(2,3),(3,3),(4,4),(5,3),(6,38),(7,39),(8,40)],9,120,[.w (.int .u8 0),.w (.int .i64 0),.w (.int .i64 0),.w (.int .i64 0),.w (.bool false),.w (.int .i64 0),.sg 6 [] true,.si [] true,.sg 1 [] true],0⟩
 | 57 => some ⟨.arr 2 42,18,240,[.w (.int .u8 0),.w (.int .i64 0),.w (.int .i64 0),.w (.int .i64 0),.w (.bool false),.w (.int .i64 0),.sg 6 [] true,.si [] true,.sg 1 [] true,.w (.int .u8 0),.w (.int .i64 0),.w (.int .i64 0),.w (.int .i64 0),.w (.bool false),.w (.int .i64 0),.sg 6 [] true,.si [] true,.sg 1 [] true],0⟩
 | 76 => some ⟨.ptr,1,8,[.w (.pointer none)],0⟩
 | 78 => some ⟨.int .u64,1,8,[.w (.int .u64 0)],0⟩
 | 81 => some ⟨.ptr,1,8,[.w (.pointer none)],0⟩
 | 83 => some ⟨.struct [(0,29),(1,3)],2,32,[.sb [] true,.w (.int .i64 0)],0⟩
 | 84 => some ⟨.struct [(0,29),(1,3)],2,32,[.sb [] true,.w (.int .i64 0)],0⟩
 | 101 => some ⟨.struct [(0,3),(1,3),(2,4),(3,9),(4,4),(5,9)],6,64,[.w (.int .i64 0),.w (.int .i64 0),.w (.bool false),.str [],.w (.bool false),.str []],0⟩
 | 102 => some ⟨.struct [(0,3),(1,3),(2,4),(3,9),(4,4),(5,9)],6,64,[.w (.int .i64 0),.w (.int .i64 0),.w (.bool false),.str [],.w (.bool false),.str []],0⟩
 | 104 => some ⟨.ptr,1,8,[.w (.pointer none)],0⟩
 | 106 => some ⟨.ptr,1,8,[.w (.pointer none)],0⟩
 | 108 => some ⟨.ptr,1,8,[.w (.pointer none)],0⟩
 | 120 => some ⟨.int .u64,1,8,[.w (.int .u64 0)],0⟩
 | 121 => some ⟨.struct [(0,29),(1,30)],2,32,[.sb [] true,.w (.int .i64 0)],0⟩
 | 122 => some ⟨.struct [(0,29),(1,30)],2,32,[.sb [] true,.w (.int .i64 0)],0⟩
 | 146 => some ⟨.int .u32,1,4,[.w (.int .u32 0)],0⟩
 | 150 => some ⟨.ptr,1,8,[.w (.pointer none)],0⟩
 | _ => none
theorem ty_ok : TOk Try.prog ty := by
 intro t i h
 refine tys_ok t i ?_
 unfold ty at h
 split at h <;> first | (injection h with h; subst h; rfl) | cases h
theorem zbj : Try.prog.follows .mixedOrders = true := by kernel_rfl
def noS (f : FuncId) : Option zaq :=
 match f with
 | _ => none
theorem zcy : Fns Try.prog noS := fun f s h => by cases h
def yesS : zaq
 | [],[] => ⟨True,.w (.bool true),[]⟩
 | _,_ => zbv
end Go.Proofs.Ytmedjkjoannbmaa
namespace Go.Proofs.Ytmedjkjoannbmaa
namespace Ax
variable (T : zah) (t : TypeId)
theorem coe_w (v : Value) : coe T t (.w v) = .w v := rfl
theorem coe_str (bs : List UInt8) : coe T t (.str bs) = .str bs := rfl
theorem coe_agg (xs : List AV) : coe T t (.agg xs) = .agg xs := rfl
theorem coe_tup (xs : List AV) : coe T t (.tup xs) = .tup xs := rfl
theorem coe_sb (bs : List UInt8) (f : Bool) : coe T t (.sb bs f) = .sb bs f := rfl
theorem coe_si (ns : List Int) (f : Bool) : coe T t (.si ns f) = .si ns f := rfl
theorem coe_cp (xs : List AV) : coe T t (.cp xs) = .cp xs := rfl
theorem coe_ms (id s off len : Nat) : coe T t (.ms id s off len) = .ms id s off len := rfl
theorem coe_rf (id s i f : Nat) : coe T t (.rf id s i f) = .rf id s i f := rfl
theorem coe_fn (f : FuncId) (xs : List AV) : coe T t (.fn f xs) = .fn f xs := rfl
theorem coe_cons (s : Nat) (x : AV) (xs : List AV) (f : Bool) : coe T t (.sg s (x :: xs) f) = .sg s (x :: xs) f := rfl
end Ax
open Ax
attribute [go_sem] evT evD0 evD1 evD2 implies_true forall_const Option.getD aop aLen ev zbd cv cvl aConv aBin aInt aUn aFn aEq List.length IntKind.bits evo List.append List.replicate zez aIndex TD.aggr aPick aMin aMax Ax.Ends rone List.isEmpty aAppend zfm viewB List.drop List.take aRange aNext aCopy srcB viewG zfl appendI aSlice bnd full3 aStore setB AV.leaves AV.okv AV.leaf one zaz Blk.size Blk.len Option.isSome Option.isNone aStr aNil aExtract viewI List.contains List.elem Blk.closed Blk.noimm givenUp Blk.clean notMs coe_w coe_str coe_agg coe_tup coe_sb coe_si coe_cp coe_ms coe_rf coe_fn coe_cons
attribute [go_sem ↓] gsplit_tt gsplit_ff gsplit_tf gsplit_ft csplit_t csplit_f
theorem ssT : (type_of% @true_or) ∧
   (type_of% @false_or) ∧
   (type_of% @or_true) ∧
   (type_of% @or_false) ∧
   (type_of% @and_true) ∧
   (type_of% @true_and) ∧
   (type_of% @AV.w.injEq) ∧
   (type_of% @Value.int.injEq) ∧
   (type_of% @Value.bool.injEq) ∧
   (type_of% @AV.ms.injEq) ∧
   (type_of% @AV.sb.injEq) ∧
   (type_of% @AV.str.injEq) ∧
   (type_of% @Nat.zero_add) ∧
   (type_of% @Nat.add_zero) ∧
   (type_of% @Blk.b.injEq) ∧
   (type_of% @Blk.i.injEq) ∧
   (type_of% @Nat.succ_ne_zero) ∧
   (type_of% @and_self) :=
 ⟨@true_or,@false_or,@or_true,@or_false,@and_true,@true_and,@AV.w.injEq,@Value.int.injEq,@Value.bool.injEq,@AV.ms.injEq,@AV.sb.injEq,@AV.str.injEq,@Nat.zero_add,@Nat.add_zero,@Blk.b.injEq,@Blk.i.injEq,@Nat.succ_ne_zero,@and_self⟩
end Go.Proofs.Ytmedjkjoannbmaa
namespace Go.Proofs.Ytmedjkjoannbmaa
open Ax
def zz (n : Int) : Int := if 0 ≤ n then 2 * n else -2 * n - 1
def zzS : zaq
 | [.w (.int k n)],[] => ⟨k = .i64 ∧ -9223372036854775808 ≤ n ∧ n ≤ 9223372036854775807,.w (.int .u64 (zz n)),[]⟩
 | _,_ => zbv
def zg (n : Int) : Int := if n % 2 = 0 then n / 2 else -(n / 2) - 1
def zgS : zaq
 | [.w (.int k n)],[] => ⟨k = .u64 ∧ 0 ≤ n ∧ n < 18446744073709551616,.w (.int .i64 (zg n)),[]⟩
 | _,_ => zbv
theorem xor_u64_zero (x : Int) (h : 0 ≤ x) (h' : x < 18446744073709551616) : bits .xor .u64 x 0 = x := by
 show IntKind.u64.wrap ((BitVec.ofInt 64 x ^^^ BitVec.ofInt 64 0).toNat : Int) = _
 rw [show BitVec.ofInt 64 0 = 0#64 from rfl,BitVec.xor_zero,BitVec.toNat_ofInt,IntKind.wrap_u64]
 omega
theorem xor_u64_ones (x : Int) (h : 0 ≤ x) (h' : x < 18446744073709551616) : bits .xor .u64 x 18446744073709551615 = 18446744073709551615 - x := by
 show IntKind.u64.wrap ((BitVec.ofInt 64 x ^^^ BitVec.ofInt 64 18446744073709551615).toNat : Int) = _
 rw [show BitVec.ofInt 64 18446744073709551615 = BitVec.allOnes 64 from by decide,BitVec.xor_allOnes,BitVec.toNat_not,BitVec.toNat_ofInt,IntKind.wrap_u64]
 omega
theorem xor_i64_zero (x : Int) (h : -9223372036854775808 ≤ x) (h' : x ≤ 9223372036854775807) : bits .xor .i64 x 0 = x := by
 show IntKind.i64.wrap ((BitVec.ofInt 64 x ^^^ BitVec.ofInt 64 0).toNat : Int) = _
 rw [show BitVec.ofInt 64 0 = 0#64 from rfl,BitVec.xor_zero,BitVec.toNat_ofInt,IntKind.wrap_i64]
 omega
theorem xor_i64_ones (x : Int) (h : -9223372036854775808 ≤ x) (h' : x ≤ 9223372036854775807) : bits .xor .i64 x (-1) = -x - 1 := by
 show IntKind.i64.wrap ((BitVec.ofInt 64 x ^^^ BitVec.ofInt 64 (-1)).toNat : Int) = _
 rw [show BitVec.ofInt 64 (-1) = BitVec.allOnes 64 from by decide,BitVec.xor_allOnes,BitVec.toNat_not,BitVec.toNat_ofInt,IntKind.wrap_i64]
 omega
theorem and_u64_one (x : Int) (h : 0 ≤ x) (h' : x < 18446744073709551616) : bits .and .u64 x 1 = x % 2 := by
 rw [u64_and x 1 h h' (by omega) (by omega),show (1 : Int).toNat = 2 ^ 1 - 1 from rfl,Nat.and_two_pow_sub_one_eq_mod]
 omega
section
set_option maxRecDepth 100000
theorem zig_sound : zbf Try.prog 75 zzS := by
 refine zau (S := noS) (T := ty) zbj ty_ok zcy Try.func75 (c := Try.f75.body.getD .skip) (by kernel_rfl) (by kernel_rfl) (fun xs pins hp _ => ?_)
 unfold zzS at hp ⊢
 split at hp
 · rename_i n _
   obtain ⟨rfl,h1,h2⟩ := hp
   refine ⟨by decide,?_⟩
   unfold Try.f75
   simp only [go_sem,coe,zaa,Nat.reduceAdd,Nat.reduceSub,Nat.reduceMul,Int.reduceToNat,reduceCtorEq,↓reduceIte,Int.reducePow,Nat.reducePow,Int.reduceMod,Nat.reduceLeDiff,Int.reduceLE,Int.reduceNe,Int.reduceEq,Nat.reduceEqDiff,Nat.reduceLT,Nat.reduceBEq,ty,noS]
   unfold zz
   rcases Int.lt_or_le n 0 with h | h
   · rw [if_neg (by omega),show n / 9223372036854775808 % 18446744073709551616 = 18446744073709551615 by omega,xor_u64_ones _ (by omega) (by omega)]
     omega
   · rw [if_pos h,show n / 9223372036854775808 % 18446744073709551616 = 0 by omega,xor_u64_zero _ (by omega) (by omega)]
     omega
 · exact hp.elim
theorem rzig_sound : zbf Try.prog 69 zzS := by
 refine zau (S := noS) (T := ty) zbj ty_ok zcy Try.func69 (c := Try.f69.body.getD .skip) (by kernel_rfl) (by kernel_rfl) (fun xs pins hp _ => ?_)
 unfold zzS at hp ⊢
 split at hp
 · rename_i n _
   obtain ⟨rfl,h1,h2⟩ := hp
   refine ⟨by decide,?_⟩
   unfold Try.f69
   simp only [go_sem,coe,zaa,Nat.reduceAdd,Nat.reduceSub,Nat.reduceMul,Int.reduceToNat,reduceCtorEq,↓reduceIte,Int.reducePow,Nat.reducePow,Int.reduceMod,Nat.reduceLeDiff,Int.reduceLE,Int.reduceNe,Int.reduceEq,Nat.reduceEqDiff,Nat.reduceLT,Nat.reduceBEq,ty,noS,decide_eq_true_eq,decide_eq_false_iff_not]
   unfold zz
   constructor
   · intro h; rw [if_pos h]; omega
   · intro h; rw [if_neg h]; omega
 · exact hp.elim
theorem zag_sound : zbf Try.prog 93 zgS := by
 refine zau (S := noS) (T := ty) zbj ty_ok zcy Try.func93 (c := Try.f93.body.getD .skip) (by kernel_rfl) (by kernel_rfl) (fun xs pins hp _ => ?_)
 unfold zgS at hp ⊢
 split at hp
 · rename_i n _
   obtain ⟨rfl,h1,h2⟩ := hp
   refine ⟨by decide,?_⟩
   unfold Try.f93
   simp only [go_sem,coe,zaa,Nat.reduceAdd,Nat.reduceSub,Nat.reduceMul,Int.reduceToNat,reduceCtorEq,↓reduceIte,Int.reducePow,Nat.reducePow,Int.reduceMod,Nat.reduceLeDiff,Int.reduceLE,Int.reduceNe,Int.reduceEq,Nat.reduceEqDiff,Nat.reduceLT,Nat.reduceBEq,ty,noS]
   rw [and_u64_one n h1 h2]
   unfold zg
   split
   · rename_i h
     rw [show (0 - ((n % 2 + 9223372036854775808) % 18446744073709551616 - 9223372036854775808) + 9223372036854775808) % 18446744073709551616 - 9223372036854775808 = 0 by omega,xor_i64_zero _ (by omega) (by omega)]
     omega
   · rename_i h
     rw [show (0 - ((n % 2 + 9223372036854775808) % 18446744073709551616 - 9223372036854775808) + 9223372036854775808) % 18446744073709551616 - 9223372036854775808 = -1 by omega,xor_i64_ones _ (by omega) (by omega)]
     omega
 · exact hp.elim
end
end Go.Proofs.Ytmedjkjoannbmaa
namespace Go.Proofs.Ytmedjkjoannbmaa
open Ax
def putU (u : Nat) : List UInt8 := if u < 128 then [UInt8.ofNat u] else UInt8.ofNat (u % 128 + 128) :: putU (u / 128)
termination_by u
decreasing_by omega
def putS : zaq
 | [.w (.int k n)],[] => ⟨k = .i64 ∧ -9223372036854775808 ≤ n ∧ n ≤ 9223372036854775807,.ms 0 1 0 (putU (zz n).toNat).length,[.b (putU (zz n).toNat)]⟩
 | _,_ => zbv
def S2 (f : FuncId) : Option zaq :=
 match f with
 | 75 => some zzS
 | _ => none
theorem S2_ok : Fns Try.prog S2 := by
 intro f s h
 unfold S2 at h
 split at h
 · injection h with h; subst h; exact ⟨⟨_,Try.func75,by kernel_rfl,by kernel_rfl⟩,zig_sound⟩
 · cases h
theorem putU_big {u : Nat} (h : ¬ u < 128) : putU u = UInt8.ofNat (u % 128 + 128) :: putU (u / 128) := by
 rw [putU,if_neg h]
theorem putU_small {u : Nat} (h : u < 128) : putU u = [UInt8.ofNat u] := by
 rw [putU,if_pos h]
theorem putU_pos (u : Nat) : 0 < (putU u).length := by
 rw [putU]; split <;> simp
theorem putU_len : ∀ (k u : Nat),u < 128 ^ (k + 1) → (putU u).length ≤ k + 1
 | 0,u,h => by rw [putU_small (by simpa using h)]; simp
 | k + 1,u,h => by
   by_cases hu : u < 128
   · rw [putU_small hu]; simp
   · rw [putU_big hu]
     have := putU_len k (u / 128) (by rw [Nat.div_lt_iff_lt_mul (by decide)]; rw [Nat.pow_succ] at h; exact h)
     simp; omega
theorem p128 : (128 : Nat) ^ (9 + 1) = 1180591620717411303424 := by simp
theorem zbo (u : Nat) (h : u < 18446744073709551616) : (putU u).length ≤ 10 := putU_len 9 u (by rw [p128]; omega)
theorem or128_nat : ∀ x : Fin 256,x.val ||| 128 = x.val % 128 + 128 := by decide +kernel
theorem or128 (m : Nat) : bits .or .u8 ((m : Int) % 256) 128 = ((m % 128 + 128 : Nat) : Int) := by
 rw [u8_or _ _ (by omega) (by omega) (by omega) (by omega)]
 have e : ((m : Int) % 256).toNat = m % 256 := by omega
 have := or128_nat ⟨m % 256,by omega⟩
 simp only at this
 rw [e,show (128 : Int).toNat = 128 from rfl,this]
 omega
theorem zea (n : Int) (h1 : -9223372036854775808 ≤ n) (h2 : n ≤ 9223372036854775807) : 0 ≤ zz n ∧ zz n < 18446744073709551616 := by
 unfold zz; split <;> omega
section
set_option maxRecDepth 100000
theorem put_sound : zbf Try.prog 37 putS := by
 refine zau (S := S2) (T := ty) zbj ty_ok S2_ok Try.func37 (c := Try.f37.body.getD .skip) (by kernel_rfl) (by kernel_rfl) (fun xs pins hp _ => ?_)
 unfold putS at hp ⊢
 split at hp
 · rename_i n _
   obtain ⟨rfl,h1,h2⟩ := hp
   refine ⟨by decide,?_⟩
   unfold Try.f37
   simp only [go_sem,coe,zaa,Nat.reduceAdd,Nat.reduceSub,Nat.reduceMul,Int.reduceToNat,reduceCtorEq,↓reduceIte,Int.reducePow,Nat.reducePow,Int.reduceMod,Nat.reduceLeDiff,Int.reduceLE,Int.reduceNe,Int.reduceEq,Nat.reduceEqDiff,Nat.reduceLT,Nat.reduceBEq,ty,S2,zzS]
   have hz := zea n h1 h2
   refine ⟨⟨h1,h2⟩,zde ⟨fun m σ => ∃ (u : Nat) (bs : List UInt8),m = u ∧ u < 18446744073709551616 ∧ bs ++ putU u = putU (zz n).toNat ∧
     σ = ⟨[.w (.int .i64 n),.junk,.junk,.w (.int .u64 u),.ms 4 1 0 bs.length,.junk,.junk,.junk,.junk,.junk,.junk,.junk,.junk,.junk,.junk,.junk,.junk,.junk,.junk,.junk,.junk,.junk],[(4,.b bs)],5⟩,?_,?_⟩⟩
   · refine ⟨_,_,(weak_nil 4 1 (.b []) rfl (by exact trivial)).trans (zai [0,1,2,3,44] rfl rfl rfl ?_ ?_),(zz n).toNat,[],rfl,by omega,rfl,rfl⟩
     · simp only [ssT,zao,zap,setSlot,gOf,AV.ren,renL,Blk.ren,Ax.look,Ax.put,reduceCtorEq,↓reduceIte,Nat.reduceEqDiff,Nat.reduceLT,Nat.reduceAdd,List.length_append,List.length_cons,List.length_nil,Option.some.injEq]; omega
     · simp only [ssT,zao,zap,setSlot,gOf,AV.ren,renL,Blk.ren,Ax.look,Ax.put,reduceCtorEq,↓reduceIte,Nat.reduceEqDiff,Nat.reduceLT,Nat.reduceAdd,List.length_append,List.length_cons,List.length_nil,Option.some.injEq]
   · rintro m σ ⟨u,bs,rfl,hu,hbs,rfl⟩
     have hlen := congrArg List.length hbs
     have h10 := zbo (zz n).toNat (by omega)
     have h1' := putU_pos m
     rw [List.length_append] at hlen
     simp only [go_sem,coe,zaa,Nat.reduceAdd,Nat.reduceSub,Nat.reduceMul,Int.reduceToNat,reduceCtorEq,↓reduceIte,Int.reducePow,Nat.reducePow,Int.reduceMod,Nat.reduceLeDiff,Int.reduceLE,Int.reduceNe,Int.reduceEq,Nat.reduceEqDiff,Nat.reduceLT,Nat.reduceBEq,ty,S2,zzS,decide_eq_true_eq,decide_eq_false_iff_not]
     refine ⟨fun hc => ?_,fun hc => ?_⟩
     · have hm : ¬ m < 128 := by omega
       rw [putU_big hm] at hbs
       rw [or128 m]
       refine ⟨by omega,by unfold top; omega,m / 128,_,by omega,zai [0,1,2,3,61] rfl rfl rfl ?_ ?_,m / 128,bs ++ [UInt8.ofNat (m % 128 + 128)],rfl,by omega,?_,rfl⟩
       · simp only [ssT,zao,zap,setSlot,gOf,AV.ren,renL,Blk.ren,Ax.look,Ax.put,reduceCtorEq,↓reduceIte,Nat.reduceEqDiff,Nat.reduceLT,Nat.reduceAdd,List.length_append,List.length_cons,List.length_nil,Option.some.injEq]; omega
       · simp only [ssT,zao,zap,setSlot,gOf,AV.ren,renL,Blk.ren,Ax.look,Ax.put,reduceCtorEq,↓reduceIte,Nat.reduceEqDiff,Nat.reduceLT,Nat.reduceAdd,List.length_append,List.length_cons,List.length_nil,Option.some.injEq,Int.toNat_natCast]
       · simpa using hbs
     · have hm : m < 128 := by omega
       rw [putU_small hm] at hbs
       have e : ((m : Int) % 256).toNat = m := by omega
       rw [e,← hbs]
       refine ⟨by omega,by unfold top; omega,rfl,by simp⟩
 · exact hp.elim
def bytesS : zaq
 | [.w (.int k u)],[] => ⟨k = .u64 ∧ 0 ≤ u ∧ u < 18446744073709551616,.ms 0 1 0 (putU u.toNat).length,[.b (putU u.toNat)]⟩
 | _,_ => zbv
theorem bytes_sound : zbf Try.prog 68 bytesS := by
 refine zau (S := noS) (T := ty) zbj ty_ok zcy Try.func68 (c := Try.f68.body.getD .skip) (by kernel_rfl) (by kernel_rfl) (fun xs pins hp _ => ?_)
 unfold bytesS at hp ⊢
 split at hp
 · rename_i n _
   obtain ⟨rfl,h1,h2⟩ := hp
   refine ⟨by decide,?_⟩
   unfold Try.f68
   simp only [go_sem,coe,zaa,Nat.reduceAdd,Nat.reduceSub,Nat.reduceMul,Int.reduceToNat,reduceCtorEq,↓reduceIte,Int.reducePow,Nat.reducePow,Int.reduceMod,Nat.reduceLeDiff,Int.reduceLE,Int.reduceNe,Int.reduceEq,Nat.reduceEqDiff,Nat.reduceLT,Nat.reduceBEq,ty,noS]
   refine zde ⟨fun m σ => ∃ (u : Nat) (bs : List UInt8),m = u ∧ u < 18446744073709551616 ∧ bs ++ putU u = putU n.toNat ∧
     σ = ⟨[.w (.int .u64 u),.junk,.junk,.ms 4 1 0 bs.length,.junk,.junk,.junk,.junk,.junk,.junk,.junk,.junk,.junk,.junk,.junk,.junk,.junk,.junk,.junk,.junk],[(4,.b bs)],5⟩,?_,?_⟩
   · refine ⟨_,_,(weak_nil 3 1 (.b []) rfl (by exact trivial)).trans (zai [0,1,2,3,20] rfl rfl rfl ?_ ?_),n.toNat,[],rfl,by omega,rfl,rfl⟩
     · simp only [ssT,zao,zap,setSlot,gOf,AV.ren,renL,Blk.ren,Ax.look,Ax.put,reduceCtorEq,↓reduceIte,Nat.reduceEqDiff,Nat.reduceLT,Nat.reduceAdd,List.length_append,List.length_cons,List.length_nil,Option.some.injEq]; omega
     · simp only [ssT,zao,zap,setSlot,gOf,AV.ren,renL,Blk.ren,Ax.look,Ax.put,reduceCtorEq,↓reduceIte,Nat.reduceEqDiff,Nat.reduceLT,Nat.reduceAdd,List.length_append,List.length_cons,List.length_nil,Option.some.injEq]
   · rintro m σ ⟨u,bs,rfl,hu,hbs,rfl⟩
     have hlen := congrArg List.length hbs
     have h10 := zbo n.toNat (by omega)
     have h1' := putU_pos m
     rw [List.length_append] at hlen
     simp only [go_sem,coe,zaa,Nat.reduceAdd,Nat.reduceSub,Nat.reduceMul,Int.reduceToNat,reduceCtorEq,↓reduceIte,Int.reducePow,Nat.reducePow,Int.reduceMod,Nat.reduceLeDiff,Int.reduceLE,Int.reduceNe,Int.reduceEq,Nat.reduceEqDiff,Nat.reduceLT,Nat.reduceBEq,ty,noS,decide_eq_true_eq,decide_eq_false_iff_not]
     have et : (m : Int).tmod 128 = m % 128 := Int.tmod_eq_emod_of_nonneg (by omega)
     have ed : (m : Int).tdiv 128 = m / 128 := Int.tdiv_eq_ediv_of_nonneg (by omega)
     rw [et,ed]
     refine ⟨fun hc => ?_,fun hc => ?_⟩
     · have hm : ¬ m < 128 := by omega
       rw [putU_big hm] at hbs
       have e : (((m : Int) % 128 % 256 + 128) % 256) = ((m % 128 + 128 : Nat) : Int) := by omega
       rw [e]
       refine ⟨by omega,by unfold top; omega,m / 128,_,by omega,zai [0,1,2,3,69] rfl rfl rfl ?_ ?_,m / 128,bs ++ [UInt8.ofNat (m % 128 + 128)],rfl,by omega,?_,rfl⟩
       · simp only [ssT,zao,zap,setSlot,gOf,AV.ren,renL,Blk.ren,Ax.look,Ax.put,reduceCtorEq,↓reduceIte,Nat.reduceEqDiff,Nat.reduceLT,Nat.reduceAdd,List.length_append,List.length_cons,List.length_nil,Option.some.injEq]; omega
       · simp only [ssT,zao,zap,setSlot,gOf,AV.ren,renL,Blk.ren,Ax.look,Ax.put,reduceCtorEq,↓reduceIte,Nat.reduceEqDiff,Nat.reduceLT,Nat.reduceAdd,List.length_append,List.length_cons,List.length_nil,Option.some.injEq,Int.toNat_natCast]
       · simpa using hbs
     · have hm : m < 128 := by omega
       rw [putU_small hm] at hbs
       have e : ((m : Int) % 256).toNat = m := by omega
       rw [e,← hbs]
       refine ⟨by omega,by unfold top; omega,rfl,by simp⟩
 · exact hp.elim
def S19 (f : FuncId) : Option zaq :=
 match f with
 | 69 => some zzS
 | 68 => some bytesS
 | _ => none
theorem S19_ok : Fns Try.prog S19 := by
 intro f s h
 unfold S19 at h
 split at h
 · injection h with h; subst h; exact ⟨⟨_,Try.func69,by kernel_rfl,by kernel_rfl⟩,rzig_sound⟩
 · injection h with h; subst h; exact ⟨⟨_,Try.func68,by kernel_rfl,by kernel_rfl⟩,bytes_sound⟩
 · cases h
theorem rput_sound : zbf Try.prog 31 putS := by
 refine zau (S := S19) (T := ty) zbj ty_ok S19_ok Try.func31 (c := Try.f31.body.getD .skip) (by kernel_rfl) (by kernel_rfl) (fun xs pins hp _ => ?_)
 unfold putS at hp ⊢
 split at hp
 · rename_i n _
   obtain ⟨rfl,h1,h2⟩ := hp
   have hz := zea n h1 h2
   refine ⟨by decide,?_⟩
   unfold Try.f31
   simp only [go_sem,coe,zaa,Nat.reduceAdd,Nat.reduceSub,Nat.reduceMul,Int.reduceToNat,reduceCtorEq,↓reduceIte,Int.reducePow,Nat.reducePow,Int.reduceMod,Nat.reduceLeDiff,Int.reduceLE,Int.reduceNe,Int.reduceEq,Nat.reduceEqDiff,Nat.reduceLT,Nat.reduceBEq,ty,S19,zzS,bytesS,h1,h2,hz.1,hz.2]
 · exact hp.elim
def clampI (n : Int) : Int := if n < 0 then 0 else if 8 < n then 8 else n
def clampS : zaq
 | [.w (.int k n)],[] => ⟨k = .i64,.w (.int .i64 (clampI n)),[]⟩
 | _,_ => zbv
theorem clamp_sound : zbf Try.prog 79 clampS := by
 refine zau (S := noS) (T := ty) zbj ty_ok zcy Try.func79 (c := Try.f79.body.getD .skip) (by kernel_rfl) (by kernel_rfl) (fun xs pins hp _ => ?_)
 unfold clampS at hp ⊢
 split at hp
 · rename_i n _
   obtain rfl := hp
   refine ⟨by decide,?_⟩
   unfold Try.f79
   simp only [go_sem,coe,zaa,Nat.reduceAdd,Nat.reduceSub,Nat.reduceMul,Int.reduceToNat,reduceCtorEq,↓reduceIte,Int.reducePow,Nat.reducePow,Int.reduceMod,Nat.reduceLeDiff,Int.reduceLE,Int.reduceNe,Int.reduceEq,Nat.reduceEqDiff,Nat.reduceLT,Nat.reduceBEq,ty,noS]
   unfold clampI
   repeat' split
   all_goals omega
 · exact hp.elim
def zaj (s : List UInt8) : List UInt8 := putU (2 * s.length) ++ s
def zcp : zaq
 | [.str s],[] => ⟨s.length ≤ 1000000,.ms 0 1 0 (zaj s).length,[.b (zaj s)]⟩
 | _,_ => zbv
def S37 (f : FuncId) : Option zaq :=
 match f with
 | 37 => some putS
 | 31 => some putS
 | _ => none
theorem S37_ok : Fns Try.prog S37 := by
 intro f s h
 unfold S37 at h
 split at h
 · injection h with h; subst h; exact ⟨⟨_,Try.func37,by kernel_rfl,by kernel_rfl⟩,put_sound⟩
 · injection h with h; subst h; exact ⟨⟨_,Try.func31,by kernel_rfl,by kernel_rfl⟩,rput_sound⟩
 · cases h
theorem text_sound : zbf Try.prog 40 zcp := by
 refine zau (S := S37) (T := ty) zbj ty_ok S37_ok Try.func40 (c := Try.f40.body.getD .skip) (by kernel_rfl) (by kernel_rfl) (fun xs pins hp _ => ?_)
 unfold zcp at hp ⊢
 split at hp
 · rename_i s _
   refine ⟨by decide,?_⟩
   have hp : s.length ≤ 1000000 := hp
   have hz : (zz (s.length : Int)).toNat = 2 * s.length := by unfold zz; rw [if_pos (by omega)]; omega
   have h10 := zbo (2 * s.length) (by omega)
   unfold Try.f40
   simp only [go_sem,coe,zaa,Nat.reduceAdd,Nat.reduceSub,Nat.reduceMul,Int.reduceToNat,reduceCtorEq,↓reduceIte,Int.reducePow,Nat.reducePow,Int.reduceMod,Nat.reduceLeDiff,Int.reduceLE,Int.reduceNe,Int.reduceEq,Nat.reduceEqDiff,Nat.reduceLT,Nat.reduceBEq,ty,S37,putS,hz]
   unfold zaj top
   simp only [List.length_append]
   exact ⟨by omega,by omega,trivial,trivial⟩
 · exact hp.elim
end
end Go.Proofs.Ytmedjkjoannbmaa
namespace Go.Proofs.Ytmedjkjoannbmaa
open Ax
theorem clampI_range (n : Int) : 0 ≤ clampI n ∧ clampI n ≤ 8 := by
   unfold clampI; repeat' split
   all_goals omega
section
set_option maxRecDepth 100000
def unfL (bs : List UInt8) (n : Nat) : Nat := bs.foldl (fun n b => n * 256 + b.toNat) n
def last8 (bs : List UInt8) : List UInt8 := bs.drop (bs.length - 8)
theorem last8_length (bs : List UInt8) : (last8 bs).length ≤ 8 := by unfold last8; simp; omega
def unfS : zaq
 | [.sb bs _],[] => ⟨bs.length ≤ 1000000,.w (.int .u64 (unfL (last8 bs) 0 : Nat)),[]⟩
 | _,_ => zbv
theorem unfixed_sound : zbf Try.prog 77 unfS := by
 refine zau (S := noS) (T := ty) zbj ty_ok zcy Try.func77 (c := Try.f77.body.getD .skip) (by kernel_rfl) (by kernel_rfl) (fun xs pins hp _ => ?_)
 unfold unfS at hp ⊢
 split at hp
 · rename_i bs f _
   have hp : bs.length ≤ 1000000 := hp
   refine ⟨by decide,?_⟩
   have hl8 := last8_length bs
   have em : (if (0 : Int) > (bs.length - 8 + 9223372036854775808) % 18446744073709551616 - 9223372036854775808 then (0 : Int) else (bs.length - 8 + 9223372036854775808) % 18446744073709551616 - 9223372036854775808) = ((bs.length - 8 : Nat) : Int) := by
     split <;> omega
   have e8 : List.take (bs.length - (bs.length - 8)) (List.drop (bs.length - 8) bs) = last8 bs := by
     unfold last8
     exact List.take_of_length_le (by simp)
   unfold Try.f77
   simp only [go_sem,coe,zaa,Nat.reduceAdd,Nat.reduceSub,Nat.reduceMul,Int.reduceToNat,reduceCtorEq,↓reduceIte,Int.reducePow,Nat.reducePow,Int.reduceMod,Nat.reduceLeDiff,Int.reduceLE,Int.reduceNe,Int.reduceEq,Nat.reduceEqDiff,Nat.reduceLT,Nat.reduceBEq,ty,noS,em,e8]
   refine ⟨⟨by omega,by omega⟩,zde ⟨fun m σ => ∃ (i X : Nat),m = (last8 bs).length - i ∧ i ≤ (last8 bs).length ∧ X < 256 ^ i ∧ unfL ((last8 bs).drop i) X = unfL (last8 bs) 0 ∧
     σ = ⟨[.sb bs f,.junk,.junk,.w (.int .u64 X),.junk,.junk,.junk,.junk,.junk,.junk,.junk,.sb (last8 bs) f,.w (.int .i64 (last8 bs).length),.w (.int .i64 i),.junk,.junk,.junk,.junk,.junk,.junk,.junk,.junk,.junk,.junk],[],4⟩,?_,?_⟩⟩
   · refine ⟨_,_,zai [0,1,2,3] rfl rfl rfl ?_ ?_,0,0,rfl,by omega,by simp,rfl,rfl⟩
     · simp only [ssT,zao,zap,setSlot,gOf,AV.ren,renL,Blk.ren,Ax.look,Ax.put,reduceCtorEq,↓reduceIte,Nat.reduceEqDiff,Nat.reduceLT,Nat.reduceAdd,List.length_append,List.length_cons,List.length_nil,Option.some.injEq]; simp
     · simp only [ssT,zao,zap,setSlot,gOf,AV.ren,renL,Blk.ren,Ax.look,Ax.put,reduceCtorEq,↓reduceIte,Nat.reduceEqDiff,Nat.reduceLT,Nat.reduceAdd,List.length_append,List.length_cons,List.length_nil,Option.some.injEq]
   · rintro m σ ⟨i,X,rfl,hi,hX,hu,rfl⟩
     simp only [go_sem,coe,zaa,Nat.reduceAdd,Nat.reduceSub,Nat.reduceMul,Int.reduceToNat,reduceCtorEq,↓reduceIte,Int.reducePow,Nat.reducePow,Int.reduceMod,Nat.reduceLeDiff,Int.reduceLE,Int.reduceNe,Int.reduceEq,Nat.reduceEqDiff,Nat.reduceLT,Nat.reduceBEq,ty,noS,decide_eq_true_eq,decide_eq_false_iff_not]
     refine ⟨fun hc => ?_,fun hc => ?_⟩
     · have hil : i < (last8 bs).length := by omega
       have h7 : (256 : Nat) ^ i ≤ 256 ^ 7 := Nat.pow_le_pow_right (by decide) (by omega)
       have h7' : (256 : Nat) ^ 7 = 72057594037927936 := by simp
       have hb := (last8 bs)[i].toNat_lt
       rw [List.drop_eq_getElem_cons hil] at hu
       have eg : (last8 bs).getD i 0 = (last8 bs)[i] := by simp [hil]
       have eor : bits .or .u64 ((X : Int) * 256 % 18446744073709551616) (((last8 bs)[i].toNat : Int) % 18446744073709551616) = ((X * 256 + (last8 bs)[i].toNat : Nat) : Int) := by
         rw [u64_or _ _ (by omega) (by omega) (by omega) (by omega)]
         rw [show ((X : Int) * 256 % 18446744073709551616).toNat = X * 256 by omega,show (((last8 bs)[i].toNat : Int) % 18446744073709551616).toNat = (last8 bs)[i].toNat by omega,nat_join 8 _ _ (by omega) (by simpa using hb)]
       simp only [eg,eor]
       refine ⟨⟨by omega,hil⟩,(last8 bs).length - (i + 1),_,by omega,zai [0,1,2,3] rfl rfl rfl ?_ ?_,i + 1,X * 256 + (last8 bs)[i].toNat,rfl,by omega,?_,hu,rfl⟩
       · simp only [ssT,zao,zap,setSlot,gOf,AV.ren,renL,Blk.ren,Ax.look,Ax.put,reduceCtorEq,↓reduceIte,Nat.reduceEqDiff,Nat.reduceLT,Nat.reduceAdd,List.length_append,List.length_cons,List.length_nil,Option.some.injEq]; omega
       · simp only [ssT,zao,zap,setSlot,gOf,AV.ren,renL,Blk.ren,Ax.look,Ax.put,reduceCtorEq,↓reduceIte,Nat.reduceEqDiff,Nat.reduceLT,Nat.reduceAdd,List.length_append,List.length_cons,List.length_nil,Option.some.injEq]
       · rw [Nat.pow_succ]; omega
     · have hil : i = (last8 bs).length := by omega
       subst hil
       rw [List.drop_length] at hu
       simp only [unfL,List.foldl_nil] at hu ⊢
       rw [← hu]
 · exact hp.elim
end
end Go.Proofs.Ytmedjkjoannbmaa
namespace Go.Proofs.Ytmedjkjoannbmaa
open Ax
def getF (bs : List UInt8) : Nat → Nat → Int → Int × Nat × Int
 | 0,_,_ => if bs.length < 10 then (0,0,3) else (0,0,4)
 | r + 1,i,u =>
   if 128 ≤ (bs.getD i 0).toNat then getF bs r (i + 1) (bits .or .u64 u (bits .andNot .u8 (bs.getD i 0).toNat 128 % 18446744073709551616 * 2 ^ (7 * i) % 18446744073709551616))
   else if (0 < i ∧ (bs.getD i 0).toNat = 0) ∨ (i = 9 ∧ 1 < (bs.getD i 0).toNat) then (0,0,4)
   else (zg (bits .or .u64 u (bits .andNot .u8 (bs.getD i 0).toNat 128 % 18446744073709551616 * 2 ^ (7 * i) % 18446744073709551616)),i + 1,0)
def getL (bs : List UInt8) : Int × Nat × Int := getF bs (min bs.length 10) 0 0
def getS : zaq
 | [.sb bs _],[] => ⟨bs.length ≤ 1000000,.tup [.w (.int .i64 (getL bs).1),.w (.int .i64 (getL bs).2.1),.w (.int .i64 (getL bs).2.2)],[]⟩
 | _,_ => zbv
theorem or_u64_range (a b : Int) : 0 ≤ bits .or .u64 a b ∧ bits .or .u64 a b < 18446744073709551616 := by
 show 0 ≤ IntKind.u64.wrap _ ∧ IntKind.u64.wrap _ < _
 rw [IntKind.wrap_u64]; omega
def S22 (f : FuncId) : Option zaq :=
 match f with
 | 93 => some zgS
 | _ => none
theorem S22_ok : Fns Try.prog S22 := by
 intro f s h
 unfold S22 at h
 split at h
 · injection h with h; subst h; exact ⟨⟨_,Try.func93,by kernel_rfl,by kernel_rfl⟩,zag_sound⟩
 · cases h
section
set_option maxRecDepth 100000
theorem get_sound : zbf Try.prog 83 getS := by
 refine zau (S := S22) (T := ty) zbj ty_ok S22_ok Try.func83 (c := Try.f83.body.getD .skip) (by kernel_rfl) (by kernel_rfl) (fun xs pins hp _ => ?_)
 unfold getS at hp ⊢
 split at hp
 · rename_i bs f _
   have hp : bs.length ≤ 1000000 := hp
   refine ⟨by decide,?_⟩
   obtain ⟨L,hL⟩ : ∃ L,min bs.length 10 = L := ⟨_,rfl⟩
   have hLb : L ≤ bs.length ∧ L ≤ 10 := by omega
   have em : (if (10 : Int) < bs.length then (10 : Int) else bs.length) = (L : Int) := by split <;> omega
   have hg : getL bs = getF bs L 0 0 := by unfold getL; rw [hL]
   rw [hg]
   unfold Try.f83
   simp -implicitDefEqProofs only [go_sem,coe,zaa,Nat.reduceAdd,Nat.reduceSub,Nat.reduceMul,Int.reduceToNat,reduceCtorEq,↓reduceIte,Int.reducePow,Nat.reducePow,Int.reduceMod,Nat.reduceLeDiff,Int.reduceLE,Int.reduceNe,Int.reduceEq,Nat.reduceEqDiff,Nat.reduceLT,Nat.reduceBEq,ty,S22,em]
   refine zde ⟨fun m σ => ∃ (i : Nat) (u : Int),m = L - i ∧ i ≤ L ∧ getF bs (L - i) i u = getF bs L 0 0 ∧
     σ = ⟨[.sb bs f,.junk,.junk,.junk,.junk,.w (.int .u64 u),.junk,.junk,.junk,.w (.int .i64 L),.w (.int .i64 i),.junk,.junk,.junk,.junk,.junk,.junk,.junk,.junk,.junk,.junk,.junk,.junk,.junk,.junk,.junk,.junk,.junk,.junk,.junk,.junk,.junk,.junk,.junk,.junk,.junk,.junk,.junk,.junk,.junk,.junk,.junk,.junk,.junk,.junk,.junk,.junk,.junk,.junk,.junk,.junk,.junk,.junk,.junk,.junk,.junk,.junk],[],4⟩,?_,?_⟩
   · refine ⟨_,_,zai [0,1,2,3] rfl rfl rfl ?_ ?_,0,0,rfl,by omega,rfl,rfl⟩
     · simp only [ssT,zao,zap,setSlot,gOf,AV.ren,renL,Blk.ren,Ax.look,Ax.put,reduceCtorEq,↓reduceIte,Nat.reduceEqDiff,Nat.reduceLT,Nat.reduceAdd,List.length_append,List.length_cons,List.length_nil,Option.some.injEq]; rfl
     · simp only [ssT,zao,zap,setSlot,gOf,AV.ren,renL,Blk.ren,Ax.look,Ax.put,reduceCtorEq,↓reduceIte,Nat.reduceEqDiff,Nat.reduceLT,Nat.reduceAdd,List.length_append,List.length_cons,List.length_nil,Option.some.injEq]
   · rintro m σ ⟨i,u,rfl,hi,hu,rfl⟩
     have e7 : (7 * (i : Int) + 9223372036854775808) % 18446744073709551616 - 9223372036854775808 = ((7 * i : Nat) : Int) := by omega
     have e1 : ((i : Int) + 1 + 9223372036854775808) % 18446744073709551616 - 9223372036854775808 = ((i + 1 : Nat) : Int) := by omega
     obtain ⟨c,hc⟩ : ∃ c,bs.getD i 0 = c := ⟨_,rfl⟩
     by_cases hiL : i < L
     · have hd : decide ((i : Int) < (L : Int)) = true := by simpa using hiL
       have h64 : 7 * i ≤ 64 := by omega
       simp -implicitDefEqProofs only [go_sem,coe,zaa,Nat.reduceAdd,Nat.reduceSub,Nat.reduceMul,Int.reduceToNat,reduceCtorEq,↓reduceIte,Int.reducePow,Nat.reducePow,Int.reduceMod,Nat.reduceLeDiff,Int.reduceLE,Int.reduceNe,Int.reduceEq,Nat.reduceEqDiff,Nat.reduceLT,Nat.reduceBEq,ty,S22,zgS,decide_eq_true_eq,decide_eq_false_iff_not,e7,e1,h64,if_true,hc,hd]
       obtain ⟨v,hv⟩ : ∃ v,bits .or .u64 u (bits .andNot .u8 c.toNat 128 % 18446744073709551616 * 2 ^ (7 * i) % 18446744073709551616) = v := ⟨_,rfl⟩
       have hvr : 0 ≤ v ∧ v < 18446744073709551616 := hv ▸ or_u64_range _ _
       rw [show L - i = (L - (i + 1)) + 1 by omega,getF,hc,hv] at hu
       simp only [hv]
       refine ⟨⟨by omega,by omega⟩,by omega,⟨by omega,by omega⟩,fun h => ?_,fun h => ?_⟩
       · rw [if_pos (by omega)] at hu
         refine ⟨L - (i + 1),_,by omega,zai [0,1,2,3] rfl rfl rfl ?_ ?_,i + 1,v,rfl,by omega,hu,rfl⟩
         · simp only [ssT,zao,zap,setSlot,gOf,AV.ren,renL,Blk.ren,Ax.look,Ax.put,reduceCtorEq,↓reduceIte,Nat.reduceEqDiff,Nat.reduceLT,Nat.reduceAdd,List.length_append,List.length_cons,List.length_nil,Option.some.injEq]
         · simp only [ssT,zao,zap,setSlot,gOf,AV.ren,renL,Blk.ren,Ax.look,Ax.put,reduceCtorEq,↓reduceIte,Nat.reduceEqDiff,Nat.reduceLT,Nat.reduceAdd,List.length_append,List.length_cons,List.length_nil,Option.some.injEq]
       · rw [if_neg (by omega)] at hu
         by_cases hA : (0 < i ∧ c.toNat = 0) ∨ (i = 9 ∧ 1 < c.toNat)
         · rw [if_pos hA] at hu
           rw [← hu]
           repeat' (first | (intro _) | (apply And.intro))
           all_goals first | omega | rfl | (exfalso; omega) | trace_state
         · rw [if_neg hA] at hu
           rw [← hu]
           repeat' (first | (intro _) | (apply And.intro))
           all_goals first | omega | rfl | (exfalso; omega) | trace_state
     · have hd : decide ((i : Int) < (L : Int)) = false := by simpa using hiL
       simp -implicitDefEqProofs only [go_sem,coe,zaa,Nat.reduceAdd,Nat.reduceSub,Nat.reduceMul,Int.reduceToNat,reduceCtorEq,↓reduceIte,Int.reducePow,Nat.reducePow,Int.reduceMod,Nat.reduceLeDiff,Int.reduceLE,Int.reduceNe,Int.reduceEq,Nat.reduceEqDiff,Nat.reduceLT,Nat.reduceBEq,ty,S22,zgS,decide_eq_true_eq,decide_eq_false_iff_not,hd]
       rw [show L - i = 0 by omega,getF] at hu
       refine ⟨fun h => ?_,fun h => ?_⟩
       · rw [if_pos (by omega)] at hu
         rw [← hu]
         repeat' (apply And.intro)
         all_goals rfl
       · rw [if_neg (by omega)] at hu
         rw [← hu]
         repeat' (apply And.intro)
         all_goals rfl
 · exact hp.elim
end
end Go.Proofs.Ytmedjkjoannbmaa
namespace Go.Proofs.Ytmedjkjoannbmaa
open Ax
def rd (bs : List UInt8) (f : Bool) (e : Int) : Blk := .g 2 [.agg [.sb bs f,.w (.int .i64 e)]]
def tkB (n : Int) (bs : List UInt8) : List UInt8 := if (bs.length : Int) < n then [] else bs.take n.toNat
def tkL (n : Int) (bs : List UInt8) : List UInt8 := if (bs.length : Int) < n then bs else bs.drop n.toNat
def tkE (n : Int) (bs : List UInt8) (e : Int) : Int := if (bs.length : Int) < n then 3 else e
def takeS : zaq
 | [.rf 0 2 0 0,.w (.int k n)],[.g 2 [.agg [.sb bs f,.w (.int k' e)]]] => ⟨k = .i64 ∧ k' = .i64 ∧ 0 ≤ n,.sb (tkB n bs) true,[rd (tkL n bs) f (tkE n bs e)]⟩
 | _,_ => zbv
section
set_option maxRecDepth 100000
theorem take_sound : zbf Try.prog 78 takeS := by
 refine zcm (S := noS) (T := ty) zbj ty_ok zcy Try.func78 (c := Try.f78.body.getD .skip) (by kernel_rfl) (by kernel_rfl) (fun xs pins hp _ => ?_)
 unfold takeS at hp ⊢
 split at hp
 · rename_i k n bs f k' e _
   obtain ⟨rfl,rfl,h1⟩ := hp
   refine ⟨by simp,?_⟩
   unfold Try.f78
   simp -implicitDefEqProofs only [go_sem,coe,zaa,Nat.reduceAdd,Nat.reduceSub,Nat.reduceMul,Int.reduceToNat,reduceCtorEq,↓reduceIte,Int.reducePow,Nat.reducePow,Int.reduceMod,Nat.reduceLeDiff,Int.reduceLE,Int.reduceNe,Int.reduceEq,Nat.reduceEqDiff,Nat.reduceLT,Nat.reduceBEq,ty,noS,decide_eq_true_eq,decide_eq_false_iff_not]
   refine ⟨fun h => ?_,fun h => ?_⟩
   · refine ⟨_,weak_coe 4 1 true rfl,?_⟩
     simp only [go_sem,coe,zaa,Nat.reduceAdd,Nat.reduceSub,Nat.reduceMul,Int.reduceToNat,reduceCtorEq,↓reduceIte,Int.reducePow,Nat.reducePow,Int.reduceMod,Nat.reduceLeDiff,Int.reduceLE,Int.reduceNe,Int.reduceEq,Nat.reduceEqDiff,Nat.reduceLT,Nat.reduceBEq,ty,tkB,tkL,tkE,rd,h,if_true]
   · have e1 : List.take (bs.length - n.toNat) (List.drop n.toNat bs) = bs.drop n.toNat := List.take_of_length_le (by simp)
     refine ⟨⟨by omega,by omega,by omega⟩,⟨by omega,by omega⟩,_,Weak.refl _,?_⟩
     simp only [go_sem,coe,zaa,Nat.reduceAdd,Nat.reduceSub,Nat.reduceMul,Int.reduceToNat,reduceCtorEq,↓reduceIte,Int.reducePow,Nat.reducePow,Int.reduceMod,Nat.reduceLeDiff,Int.reduceLE,Int.reduceNe,Int.reduceEq,Nat.reduceEqDiff,Nat.reduceLT,Nat.reduceBEq,ty,tkB,tkL,tkE,rd,h,if_false,e1,Nat.sub_zero,decide_true]
 · exact hp.elim
def leftS : zaq
 | [.rf 0 2 0 0],[.g 2 [.agg [.sb bs f,.w (.int k e)]]] => ⟨k = .i64,.w (.int .i64 bs.length),[rd bs f e]⟩
 | [.w (.pointer none)],[] => ⟨True,.w (.int .i64 0),[]⟩
 | _,_ => zbv
theorem left_sound : zbf Try.prog 81 leftS := by
 refine zau (S := noS) (T := ty) zbj ty_ok zcy Try.func81 (c := Try.f81.body.getD .skip) (by kernel_rfl) (by kernel_rfl) (fun xs pins hp _ => ?_)
 unfold leftS at hp ⊢
 split at hp
 · obtain rfl := hp
   refine ⟨by simp,?_⟩
   unfold Try.f81
   simp -implicitDefEqProofs only [go_sem,coe,zaa,Nat.reduceAdd,Nat.reduceSub,Nat.reduceMul,Int.reduceToNat,reduceCtorEq,↓reduceIte,Int.reducePow,Nat.reducePow,Int.reduceMod,Nat.reduceLeDiff,Int.reduceLE,Int.reduceNe,Int.reduceEq,Nat.reduceEqDiff,Nat.reduceLT,Nat.reduceBEq,ty,noS,rd]
 · refine ⟨by simp,?_⟩
   unfold Try.f81
   simp -implicitDefEqProofs only [go_sem,coe,zaa,Nat.reduceAdd,Nat.reduceSub,Nat.reduceMul,Int.reduceToNat,reduceCtorEq,↓reduceIte,Int.reducePow,Nat.reducePow,Int.reduceMod,Nat.reduceLeDiff,Int.reduceLE,Int.reduceNe,Int.reduceEq,Nat.reduceEqDiff,Nat.reduceLT,Nat.reduceBEq,ty,noS,rd]
 · exact hp.elim
def errS : zaq
 | [.rf 0 2 0 0],[.g 2 [.agg [.sb bs f,.w (.int k e)]]] => ⟨k = .i64,.w (.int .i64 e),[rd bs f e]⟩
 | [.w (.pointer none)],[] => ⟨True,.w (.int .i64 1),[]⟩
 | _,_ => zbv
theorem err_sound : zbf Try.prog 80 errS := by
 refine zau (S := noS) (T := ty) zbj ty_ok zcy Try.func80 (c := Try.f80.body.getD .skip) (by kernel_rfl) (by kernel_rfl) (fun xs pins hp _ => ?_)
 unfold errS at hp ⊢
 split at hp
 · obtain rfl := hp
   refine ⟨by simp,?_⟩
   unfold Try.f80
   simp -implicitDefEqProofs only [go_sem,coe,zaa,Nat.reduceAdd,Nat.reduceSub,Nat.reduceMul,Int.reduceToNat,reduceCtorEq,↓reduceIte,Int.reducePow,Nat.reducePow,Int.reduceMod,Nat.reduceLeDiff,Int.reduceLE,Int.reduceNe,Int.reduceEq,Nat.reduceEqDiff,Nat.reduceLT,Nat.reduceBEq,ty,noS,rd]
 · refine ⟨by simp,?_⟩
   unfold Try.f80
   simp -implicitDefEqProofs only [go_sem,coe,zaa,Nat.reduceAdd,Nat.reduceSub,Nat.reduceMul,Int.reduceToNat,reduceCtorEq,↓reduceIte,Int.reducePow,Nat.reducePow,Int.reduceMod,Nat.reduceLeDiff,Int.reduceLE,Int.reduceNe,Int.reduceEq,Nat.reduceEqDiff,Nat.reduceLT,Nat.reduceBEq,ty,noS,rd]
 · exact hp.elim
def newS : zaq
 | [.sb bs f],[] => ⟨bs.length ≤ 1000000,.rf 0 2 0 0,[rd bs false 0]⟩
 | _,_ => zbv
theorem new_sound : zbf Try.prog 45 newS := by
 refine zcm (S := noS) (T := ty) zbj ty_ok zcy Try.func45 (c := Try.f45.body.getD .skip) (by kernel_rfl) (by kernel_rfl) (fun xs pins hp _ => ?_)
 unfold newS at hp ⊢
 split at hp
 · rename_i bs f _
   have hp : bs.length ≤ 1000000 := hp
   refine ⟨by simp,?_⟩
   unfold Try.f45
   simp -implicitDefEqProofs only [go_sem,coe,zaa,Nat.reduceAdd,Nat.reduceSub,Nat.reduceMul,Int.reduceToNat,reduceCtorEq,↓reduceIte,Int.reducePow,Nat.reducePow,Int.reduceMod,Nat.reduceLeDiff,Int.reduceLE,Int.reduceNe,Int.reduceEq,Nat.reduceEqDiff,Nat.reduceLT,Nat.reduceBEq,ty,noS,rd]
   refine ⟨by unfold top; omega,_,weak_fz 20 4 bs rfl (by simp [slot,AV.ids]),?_⟩
   simp only [fzL,fzH,AV.fz,Blk.fz,go_sem,coe,zaa,Nat.reduceAdd,Nat.reduceSub,Nat.reduceMul,Int.reduceToNat,reduceCtorEq,↓reduceIte,Int.reducePow,Nat.reducePow,Int.reduceMod,Nat.reduceLeDiff,Int.reduceLE,Int.reduceNe,Int.reduceEq,Nat.reduceEqDiff,Nat.reduceLT,Nat.reduceBEq,ty,rd,decide_true,List.take_length]
 · exact hp.elim
def numN (bs : List UInt8) (e : Int) : Int := if e = 0 then (getL bs).1 else 0
def numL (bs : List UInt8) (e : Int) : List UInt8 := if e = 0 then bs.drop (getL bs).2.1 else bs
def numE (bs : List UInt8) (e : Int) : Int := if e = 0 then (getL bs).2.2 else e
theorem getF_ok (bs : List UInt8) : ∀ (r i : Nat) (u : Int),i + r ≤ bs.length → (getF bs r i u).2.1 ≤ bs.length ∧ ((getF bs r i u).2.2 ≠ 0 → (getF bs r i u).1 = 0 ∧ (getF bs r i u).2.1 = 0)
 | 0,i,u,h => by unfold getF; split <;> simp
 | r + 1,i,u,h => by
   unfold getF
   split
   · exact getF_ok bs r (i + 1) _ (by omega)
   · split
     · simp
     · simp; omega
theorem getL_ok (bs : List UInt8) : (getL bs).2.1 ≤ bs.length ∧ ((getL bs).2.2 ≠ 0 → (getL bs).1 = 0 ∧ (getL bs).2.1 = 0) := getF_ok bs _ 0 0 (by omega)
def numS : zaq
 | [.rf 0 2 0 0],[.g 2 [.agg [.sb bs f,.w (.int k e)]]] => ⟨k = .i64 ∧ bs.length ≤ 1000000,.w (.int .i64 (numN bs e)),[rd (numL bs e) f (numE bs e)]⟩
 | [.w (.pointer none)],[] => ⟨True,.w (.int .i64 0),[]⟩
 | _,_ => zbv
def S28 (f : FuncId) : Option zaq :=
 match f with
 | 83 => some getS
 | _ => none
theorem S28_ok : Fns Try.prog S28 := by
 intro f s h
 unfold S28 at h
 split at h
 · injection h with h; subst h; exact ⟨⟨_,Try.func83,by kernel_rfl,by kernel_rfl⟩,get_sound⟩
 · cases h
theorem num_sound : zbf Try.prog 52 numS := by
 refine zau (S := S28) (T := ty) zbj ty_ok S28_ok Try.func52 (c := Try.f52.body.getD .skip) (by kernel_rfl) (by kernel_rfl) (fun xs pins hp _ => ?_)
 unfold numS at hp ⊢
 split at hp
 · rename_i bs f k e _
   obtain ⟨rfl,hlen⟩ := hp
   refine ⟨by simp,?_⟩
   obtain ⟨hg1,hg2⟩ := getL_ok bs
   have e1 : List.take (bs.length - (getL bs).2.1) (List.drop (getL bs).2.1 bs) = bs.drop (getL bs).2.1 := List.take_of_length_le (by simp)
   unfold Try.f52
   simp -implicitDefEqProofs only [go_sem,coe,zaa,Nat.reduceAdd,Nat.reduceSub,Nat.reduceMul,Int.reduceToNat,reduceCtorEq,↓reduceIte,Int.reducePow,Nat.reducePow,Int.reduceMod,Nat.reduceLeDiff,Int.reduceLE,Int.reduceNe,Int.reduceEq,Nat.reduceEqDiff,Nat.reduceLT,Nat.reduceBEq,ty,S28,getS,decide_eq_true_eq,decide_eq_false_iff_not,rd,e1,hlen]
   by_cases he : e = 0
   · by_cases hr : (getL bs).2.2 = 0
     · simp [numL,numE,numN,he,hr,noimmL,AV.noimm,hg1]
     · obtain ⟨h3,h4⟩ := hg2 hr
       simp [numL,numE,numN,he,hr,h3,h4,noimmL,AV.noimm]
   · simp [numL,numE,numN,he]
 · refine ⟨by simp,?_⟩
   unfold Try.f52
   simp -implicitDefEqProofs only [go_sem,coe,zaa,Nat.reduceAdd,Nat.reduceSub,Nat.reduceMul,Int.reduceToNat,reduceCtorEq,↓reduceIte,Int.reducePow,Nat.reducePow,Int.reduceMod,Nat.reduceLeDiff,Int.reduceLE,Int.reduceNe,Int.reduceEq,Nat.reduceEqDiff,Nat.reduceLT,Nat.reduceBEq,ty,S28,getS,rd]
 · exact hp.elim
def zei (n : Int) (bs : List UInt8) (e : Int) : Int := if e = 0 then (unfL (last8 (tkB (clampI n) bs)) 0 : Nat) else 0
def zfg (n : Int) (bs : List UInt8) (e : Int) : List UInt8 := if e = 0 then tkL (clampI n) bs else bs
def rfixE (n : Int) (bs : List UInt8) (e : Int) : Int := if e = 0 then tkE (clampI n) bs 0 else e
def zcs : zaq
 | [.rf 0 2 0 0,.w (.int k' n)],[.g 2 [.agg [.sb bs f,.w (.int k e)]]] => ⟨k = .i64 ∧ k' = .i64 ∧ bs.length ≤ 1000000,.w (.int .u64 (zei n bs e)),[rd (zfg n bs e) f (rfixE n bs e)]⟩
 | [.w (.pointer none),.w (.int k' n)],[] => ⟨k' = .i64,.w (.int .u64 0),[]⟩
 | _,_ => zbv
def S30 (f : FuncId) : Option zaq :=
 match f with
 | 79 => some clampS
 | 78 => some takeS
 | 77 => some unfS
 | _ => none
theorem S30_ok : Fns Try.prog S30 := by
 intro f s h
 unfold S30 at h
 split at h
 · injection h with h; subst h; exact ⟨⟨_,Try.func79,by kernel_rfl,by kernel_rfl⟩,clamp_sound⟩
 · injection h with h; subst h; exact ⟨⟨_,Try.func78,by kernel_rfl,by kernel_rfl⟩,take_sound⟩
 · injection h with h; subst h; exact ⟨⟨_,Try.func77,by kernel_rfl,by kernel_rfl⟩,unfixed_sound⟩
 · cases h
theorem tkB_length (n : Int) (bs : List UInt8) : (tkB n bs).length ≤ bs.length := by unfold tkB; split <;> simp; omega
theorem mfixed_sound : zbf Try.prog 46 zcs := by
 refine zau (S := S30) (T := ty) zbj ty_ok S30_ok Try.func46 (c := Try.f46.body.getD .skip) (by kernel_rfl) (by kernel_rfl) (fun xs pins hp _ => ?_)
 unfold zcs at hp ⊢
 split at hp
 · rename_i k' n bs f k e _
   obtain ⟨rfl,rfl,hlen⟩ := hp
   refine ⟨by simp,?_⟩
   have hc := clampI_range n
   have ht := tkB_length (clampI n) bs
   unfold Try.f46
   simp -implicitDefEqProofs only [go_sem,coe,zaa,Nat.reduceAdd,Nat.reduceSub,Nat.reduceMul,Int.reduceToNat,reduceCtorEq,↓reduceIte,Int.reducePow,Nat.reducePow,Int.reduceMod,Nat.reduceLeDiff,Int.reduceLE,Int.reduceNe,Int.reduceEq,Nat.reduceEqDiff,Nat.reduceLT,Nat.reduceBEq,ty,S30,takeS,clampS,unfS,decide_eq_true_eq,decide_eq_false_iff_not,rd,hlen]
   by_cases he : e = 0
   · subst he
     simp [zfg,rfixE,zei,hc.1]
     omega
   · simp [zfg,rfixE,zei,he]
 · obtain rfl := hp
   refine ⟨by simp,?_⟩
   unfold Try.f46
   simp -implicitDefEqProofs only [go_sem,coe,zaa,Nat.reduceAdd,Nat.reduceSub,Nat.reduceMul,Int.reduceToNat,reduceCtorEq,↓reduceIte,Int.reducePow,Nat.reducePow,Int.reduceMod,Nat.reduceLeDiff,Int.reduceLE,Int.reduceNe,Int.reduceEq,Nat.reduceEqDiff,Nat.reduceLT,Nat.reduceBEq,ty,S30,takeS,clampS,unfS,rd]
 · exact hp.elim
def zbq : zaq
 | [.rf 0 2 0 0],[.g 2 [.agg [.sb bs f,.w (.int k e)]]] => ⟨k = .i64,.w (.int .i64 (if e = 0 ∧ 0 < bs.length then 4 else e)),[rd bs f e]⟩
 | [.w (.pointer none)],[] => ⟨True,.w (.int .i64 1),[]⟩
 | _,_ => zbv
def S35 (f : FuncId) : Option zaq :=
 match f with
 | 81 => some leftS
 | 80 => some errS
 | _ => none
theorem S35_ok : Fns Try.prog S35 := by
 intro f s h
 unfold S35 at h
 split at h
 · injection h with h; subst h; exact ⟨⟨_,Try.func81,by kernel_rfl,by kernel_rfl⟩,left_sound⟩
 · injection h with h; subst h; exact ⟨⟨_,Try.func80,by kernel_rfl,by kernel_rfl⟩,err_sound⟩
 · cases h
theorem done_sound : zbf Try.prog 48 zbq := by
 refine zau (S := S35) (T := ty) zbj ty_ok S35_ok Try.func48 (c := Try.f48.body.getD .skip) (by kernel_rfl) (by kernel_rfl) (fun xs pins hp _ => ?_)
 unfold zbq at hp ⊢
 split at hp
 · rename_i bs f k e _
   obtain rfl := hp
   refine ⟨by simp,?_⟩
   unfold Try.f48
   simp -implicitDefEqProofs only [go_sem,coe,zaa,Nat.reduceAdd,Nat.reduceSub,Nat.reduceMul,Int.reduceToNat,reduceCtorEq,↓reduceIte,Int.reducePow,Nat.reducePow,Int.reduceMod,Nat.reduceLeDiff,Int.reduceLE,Int.reduceNe,Int.reduceEq,Nat.reduceEqDiff,Nat.reduceLT,Nat.reduceBEq,ty,S35,leftS,errS,decide_eq_true_eq,decide_eq_false_iff_not,rd]
   by_cases he : e = 0
   · subst he
     by_cases hb : 0 < bs.length
     · simp [hb]
       all_goals (first | omega | (intro h; rw [h] at hb; simp at hb))
     · have : bs = [] := List.eq_nil_of_length_eq_zero (by omega)
       simp [this]
   · simp [he]
 · refine ⟨by simp,?_⟩
   unfold Try.f48
   simp -implicitDefEqProofs only [go_sem,coe,zaa,Nat.reduceAdd,Nat.reduceSub,Nat.reduceMul,Int.reduceToNat,reduceCtorEq,↓reduceIte,Int.reducePow,Nat.reducePow,Int.reduceMod,Nat.reduceLeDiff,Int.reduceLE,Int.reduceNe,Int.reduceEq,Nat.reduceEqDiff,Nat.reduceLT,Nat.reduceBEq,ty,S35,leftS,errS,rd,Int.reduceEq,decide_false]
 · exact hp.elim
def rtOk (m : Int) (bs : List UInt8) (e : Int) : Prop := numE bs e = 0 ∧ 0 ≤ numN bs e ∧ numN bs e ≤ max m 0
instance (m : Int) (bs : List UInt8) (e : Int) : Decidable (rtOk m bs e) := by unfold rtOk; infer_instance
def rtS' (m : Int) (bs : List UInt8) (e : Int) : List UInt8 := if rtOk m bs e then tkB (numN bs e) (numL bs e) else []
def rtL (m : Int) (bs : List UInt8) (e : Int) : List UInt8 := if rtOk m bs e then tkL (numN bs e) (numL bs e) else numL bs e
def rtE (m : Int) (bs : List UInt8) (e : Int) : Int := if numE bs e ≠ 0 then numE bs e else if rtOk m bs e then tkE (numN bs e) (numL bs e) 0 else 5
def zcr : zaq
 | [.rf 0 2 0 0,.w (.int k' m)],[.g 2 [.agg [.sb bs f,.w (.int k e)]]] => ⟨k = .i64 ∧ k' = .i64 ∧ bs.length ≤ 1000000,.str (rtS' m bs e),[rd (rtL m bs e) f (rtE m bs e)]⟩
 | [.w (.pointer none),.w (.int k' m)],[] => ⟨k' = .i64,.str [],[]⟩
 | _,_ => zbv
def S32 (f : FuncId) : Option zaq :=
 match f with
 | 52 => some numS
 | 78 => some takeS
 | _ => none
theorem S32_ok : Fns Try.prog S32 := by
 intro f s h
 unfold S32 at h
 split at h
 · injection h with h; subst h; exact ⟨⟨_,Try.func52,by kernel_rfl,by kernel_rfl⟩,num_sound⟩
 · injection h with h; subst h; exact ⟨⟨_,Try.func78,by kernel_rfl,by kernel_rfl⟩,take_sound⟩
 · cases h
theorem mtext_sound : zbf Try.prog 55 zcr := by
 refine zau (S := S32) (T := ty) zbj ty_ok S32_ok Try.func55 (c := Try.f55.body.getD .skip) (by kernel_rfl) (by kernel_rfl) (fun xs pins hp _ => ?_)
 unfold zcr at hp ⊢
 split at hp
 · rename_i k' m bs f k e _
   obtain ⟨rfl,rfl,hlen⟩ := hp
   refine ⟨by simp,?_⟩
   unfold Try.f55
   simp -implicitDefEqProofs only [go_sem,coe,zaa,Nat.reduceAdd,Nat.reduceSub,Nat.reduceMul,Int.reduceToNat,reduceCtorEq,↓reduceIte,Int.reducePow,Nat.reducePow,Int.reduceMod,Nat.reduceLeDiff,Int.reduceLE,Int.reduceNe,Int.reduceEq,Nat.reduceEqDiff,Nat.reduceLT,Nat.reduceBEq,ty,S32,numS,takeS,decide_eq_true_eq,decide_eq_false_iff_not,rd,hlen]
   have hmax : (if (0 : Int) > m then (0 : Int) else m) = max m 0 := by split <;> omega
   rw [hmax]
   by_cases hn : numE bs e = 0
   · by_cases hok : 0 ≤ numN bs e ∧ numN bs e ≤ max m 0
     · have hr : rtOk m bs e := ⟨hn,hok⟩
       have h1 : ¬ numN bs e < 0 := by omega
       have h2 : ¬ max m 0 < numN bs e := by omega
       simp only [rtL,rtE,rtS',hr,hn,h1,h2,if_true,decide_true,Bool.not_true,Bool.false_eq_true,Bool.or_false,false_implies,true_implies,not_false_eq_true,not_true_eq_false,true_and,and_true,ne_eq,if_false,hok.1]
     · have hr : ¬ rtOk m bs e := fun h => hok h.2
       simp only [rtL,rtE,rtS',hr,hn,if_false,decide_true,Bool.not_true,Bool.false_eq_true,Bool.or_false,false_implies,true_implies,ne_eq,not_true_eq_false,true_and,and_true,implies_true]
       intro h1 h2
       exact (hok ⟨by omega,by omega⟩).elim
   · have hr : ¬ rtOk m bs e := fun h => hn h.1
     simp [rtL,rtE,rtS',hr,hn]
 · obtain rfl := hp
   refine ⟨by simp,?_⟩
   unfold Try.f55
   simp -implicitDefEqProofs only [go_sem,coe,zaa,Nat.reduceAdd,Nat.reduceSub,Nat.reduceMul,Int.reduceToNat,reduceCtorEq,↓reduceIte,Int.reducePow,Nat.reducePow,Int.reduceMod,Nat.reduceLeDiff,Int.reduceLE,Int.reduceNe,Int.reduceEq,Nat.reduceEqDiff,Nat.reduceLT,Nat.reduceBEq,ty,S32,numS,takeS,rd]
 · exact hp.elim
end
end Go.Proofs.Ytmedjkjoannbmaa
namespace Go.Proofs.Ytmedjkjoannbmaa
open Ax
def valU : List UInt8 → Nat
 | [] => 0
 | c :: r => c.toNat % 128 + 128 * valU r
theorem val_put (u : Nat) : valU (putU u) = u := by
 induction u using Nat.strongRecOn with
 | ind u ih =>
   by_cases h : u < 128
   · rw [putU_small h]
     simp only [valU,UInt8.toNat_ofNat']
     omega
   · rw [putU_big h]
     simp only [valU,UInt8.toNat_ofNat',ih (u / 128) (by omega)]
     omega
theorem val_pos : ∀ (p : List UInt8) (c : UInt8),0 < c.toNat → c.toNat < 128 → 0 < valU (p ++ [c])
 | [],c,h,h' => by simp only [List.nil_append,valU]; omega
 | d :: p,c,h,h' => by
   have := val_pos p c h h'
   simp only [List.cons_append,valU]; omega
theorem put_val : ∀ (p : List UInt8) (c : UInt8),(∀ d ∈ p,128 ≤ d.toNat) → c.toNat < 128 → (p = [] ∨ 0 < c.toNat) → putU (valU (p ++ [c])) = p ++ [c]
 | [],c,_,hc,_ => by
   have e : valU ([] ++ [c]) = c.toNat := by simp only [List.nil_append,valU]; omega
   rw [e,putU_small hc]
   simp
 | d :: p,c,hp,hc,h => by
   have h0 : 0 < c.toNat := by
       rcases h with h | h; · cases h
       · exact h
   have hv := val_pos p c h0 hc
   have ih := put_val p c (fun x hx => hp x (by simp [hx])) hc (.inr h0)
   have hd := hp d (by simp)
   have hd2 := d.toNat_lt
   have e : valU (d :: p ++ [c]) = d.toNat % 128 + 128 * valU (p ++ [c]) := rfl
   rw [e,putU_big (by omega),show (d.toNat % 128 + 128 * valU (p ++ [c])) / 128 = valU (p ++ [c]) by omega,ih,
     show (d.toNat % 128 + 128 * valU (p ++ [c])) % 128 + 128 = d.toNat by omega]
   simp
theorem put_shape (u : Nat) : ∃ p c,putU u = p ++ [c] ∧ (∀ d ∈ p,128 ≤ d.toNat) ∧ c.toNat < 128 ∧ (p = [] ∨ 0 < c.toNat) := by
 induction u using Nat.strongRecOn with
 | ind u ih =>
   by_cases h : u < 128
   · exact ⟨[],UInt8.ofNat u,by rw [putU_small h]; rfl,by simp,by rw [UInt8.toNat_ofNat']; omega,.inl rfl⟩
   · obtain ⟨p,c,h1,h2,h3,h4⟩ := ih (u / 128) (by omega)
     refine ⟨UInt8.ofNat (u % 128 + 128) :: p,c,by rw [putU_big h,h1]; rfl,?_,h3,?_⟩
     · intro d hd
       rcases List.mem_cons.1 hd with rfl | hd
       · rw [UInt8.toNat_ofNat']; omega
       · exact h2 d hd
     · right
       rcases h4 with rfl | h4
       · have e := val_put (u / 128)
         rw [h1] at e
         simp only [List.nil_append,valU] at e
         omega
       · exact h4
theorem val_lt : ∀ (p : List UInt8) (c : UInt8),c.toNat < 128 → valU (p ++ [c]) < (c.toNat + 1) * 128 ^ p.length
 | [],c,h => by simp only [List.nil_append,valU,List.length_nil,Nat.pow_zero]; omega
 | d :: p,c,h => by
   have := val_lt p c h
   simp only [List.cons_append,valU,List.length_cons,Nat.pow_succ]
   rw [← Nat.mul_assoc]
   omega
theorem val_ge : ∀ (p : List UInt8) (c : UInt8),c.toNat < 128 → c.toNat * 128 ^ p.length ≤ valU (p ++ [c])
 | [],c,h => by simp only [List.nil_append,valU,List.length_nil,Nat.pow_zero]; omega
 | d :: p,c,h => by
   have := val_ge p c h
   simp only [List.cons_append,valU,List.length_cons,Nat.pow_succ]
   rw [← Nat.mul_assoc]
   omega
theorem canon (p : List UInt8) (c : UInt8) (hp : ∀ d ∈ p,128 ≤ d.toNat) (hc : c.toNat < 128) (h9 : p.length ≤ 9) :
   putU (valU (p ++ [c]) % 18446744073709551616) = p ++ [c] ↔ ¬ ((0 < p.length ∧ c.toNat = 0) ∨ (p.length = 9 ∧ 1 < c.toNat)) := by
 have hlt := val_lt p c hc
 have hge := val_ge p c hc
 have h7 : (128 : Nat) ^ p.length ≤ 128 ^ 9 := Nat.pow_le_pow_right (by decide) h9
 have h7' : (128 : Nat) ^ 9 = 9223372036854775808 := by simp
 constructor
 · intro h
   have hv := val_put (valU (p ++ [c]) % 18446744073709551616)
   rw [h] at hv
   rintro (⟨h1,h2⟩ | ⟨h1,h2⟩)
   · obtain ⟨q,d,e1,e2,e3,e4⟩ := put_shape (valU (p ++ [c]) % 18446744073709551616)
     rw [h] at e1
     have hq := List.append_inj' e1 rfl
     have hd : c = d := by simpa using hq.2
     rw [← hq.1,← hd] at e4
     rcases e4 with e4 | e4
     · rw [e4] at h1; simp at h1
     · omega
   · rw [h1,h7'] at hge
     omega
 · intro h
   have hsmall : valU (p ++ [c]) < 18446744073709551616 := by
     by_cases hl : p.length = 9
     · rw [hl,h7'] at hlt
       have : c.toNat ≤ 1 := by omega
       have : (c.toNat + 1) * 9223372036854775808 ≤ 2 * 9223372036854775808 := Nat.mul_le_mul_right _ (by omega)
       omega
     · have h8 : (128 : Nat) ^ p.length ≤ 128 ^ 8 := Nat.pow_le_pow_right (by decide) (by omega)
       have h8' : (128 : Nat) ^ 8 = 72057594037927936 := by simp
       have : (c.toNat + 1) * 128 ^ p.length ≤ 128 * 72057594037927936 := Nat.mul_le_mul (by omega) (by omega)
       omega
   rw [Nat.mod_eq_of_lt hsmall]
   refine put_val p c hp hc ?_
   rcases p with _ | ⟨d,p⟩
   · exact .inl rfl
   · right
     simp only [List.length_cons] at h
     omega
def getM : Nat → Nat → List UInt8 → Int × Nat × Int
 | i,_,[] => if i < 10 then (0,0,3) else (0,0,4)
 | i,u,c :: r =>
   if i = 10 then (0,0,4)
   else if 128 ≤ c.toNat then getM (i + 1) (u + c.toNat % 128 * 128 ^ i) r
   else if (0 < i ∧ c.toNat = 0) ∨ (i = 9 ∧ 1 < c.toNat) then (0,0,4)
   else (zg ((u + c.toNat * 128 ^ i : Nat) : Int),i + 1,0)
theorem andNot128 : ∀ x : Fin 256,(bits .andNot .u8 ((x.val : Nat) : Int) 128) = ((x.val % 128 : Nat) : Int) := by decide +kernel
theorem getF_M (bs : List UInt8) : ∀ (r i : Nat) (u : Nat),i + r = min bs.length 10 → u < 128 ^ i → getF bs r i u = getM i u (bs.drop i)
 | 0,i,u,h,hu => by
   by_cases hl : bs.length < 10
   · rw [List.drop_of_length_le (by omega)]
     simp only [getF,getM,hl,if_true,show i < 10 by omega]
   · have hi : i = 10 := by omega
     subst hi
     simp only [getF,hl,if_false]
     cases bs.drop 10 with
     | nil => simp [getM]
     | cons c q => simp [getM]
 | r + 1,i,u,h,hu => by
   have hil : i < bs.length := by omega
   have hi9 : i ≤ 9 := by omega
   rw [List.drop_eq_getElem_cons hil]
   have eg : bs.getD i 0 = bs[i] := by simp [hil]
   have hc := bs[i].toNat_lt
   have ea := andNot128 ⟨bs[i].toNat,by simpa using hc⟩
   simp only at ea
   have hP : (2 : Nat) ^ (7 * i) = 128 ^ i := by rw [Nat.pow_mul]
   have hle : (128 : Nat) ^ i ≤ 128 ^ 9 := Nat.pow_le_pow_right (by decide) hi9
   have h9' : (128 : Nat) ^ 9 = 9223372036854775808 := by simp
   have hm128 : bs[i].toNat % 128 < 128 := Nat.mod_lt _ (by decide)
   simp only [getF,getM,eg,ea,if_neg (show ¬ i = 10 by omega)]
   have hcast : ((bs[i].toNat % 128 : Nat) : Int) % 18446744073709551616 * 2 ^ (7 * i) % 18446744073709551616 = ((bs[i].toNat % 128 * 128 ^ i % 18446744073709551616 : Nat) : Int) := by
     have e0 : ((bs[i].toNat % 128 : Nat) : Int) % 18446744073709551616 = ((bs[i].toNat % 128 : Nat) : Int) := by omega
     have : (2 : Int) ^ (7 * i) = ((128 ^ i : Nat) : Int) := by rw [← hP]; simp
     rw [e0,this,← Int.natCast_mul]
     generalize bs[i].toNat % 128 * 128 ^ i = x
     omega
   rw [hcast]
   by_cases hin : i ≤ 8 ∨ bs[i].toNat % 128 ≤ 1
   · have hmod : bs[i].toNat % 128 * 128 ^ i < 18446744073709551616 := by
       rcases hin with hin | hin
       · have h8 : (128 : Nat) ^ i ≤ 128 ^ 8 := Nat.pow_le_pow_right (by decide) hin
         have h8' : (128 : Nat) ^ 8 = 72057594037927936 := by simp
         have : bs[i].toNat % 128 * 128 ^ i ≤ 127 * 72057594037927936 := Nat.mul_le_mul (by omega) (by omega)
         omega
       · have : bs[i].toNat % 128 * 128 ^ i ≤ 1 * 9223372036854775808 := Nat.mul_le_mul hin (by omega)
         omega
     rw [Nat.mod_eq_of_lt hmod]
     have eor : bits .or .u64 (u : Int) ((bs[i].toNat % 128 * 128 ^ i : Nat) : Int) = ((u + bs[i].toNat % 128 * 128 ^ i : Nat) : Int) := by
       rw [u64_or _ _ (by omega) (by omega) (by omega) (by omega),Int.toNat_natCast,Int.toNat_natCast]
       have := nat_join (7 * i) (bs[i].toNat % 128 * 128 ^ i) u (by rw [hP]; exact Nat.mul_mod_left _ _) (by rw [hP]; exact hu)
       rw [Nat.or_comm,this]
       omega
     rw [eor]
     by_cases hge : 128 ≤ bs[i].toNat
     · rw [if_pos hge,if_pos hge]
       refine getF_M bs r (i + 1) _ (by omega) ?_
       rw [Nat.pow_succ]
       have : bs[i].toNat % 128 * 128 ^ i ≤ 127 * 128 ^ i := Nat.mul_le_mul_right _ (by omega)
       omega
     · rw [if_neg hge,if_neg hge,Nat.mod_eq_of_lt (show bs[i].toNat < 128 by omega)]
   · have hi : i = 9 := by omega
     have hr : r = 0 := by omega
     have hll : ¬ bs.length < 10 := by omega
     subst hr
     by_cases hge : 128 ≤ bs[i].toNat
     · rw [if_pos hge,if_pos hge]
       simp only [getF,hll,if_false,hi]
       cases bs.drop (9 + 1) with
       | nil => simp [getM]
       | cons c q => simp [getM]
     · rw [if_neg hge,if_neg hge]
       have : (0 < i ∧ bs[i].toNat = 0) ∨ (i = 9 ∧ 1 < bs[i].toNat) := .inr ⟨hi,by omega⟩
       rw [if_pos this,if_pos this]
theorem getL_M (bs : List UInt8) : getL bs = getM 0 0 bs := by
 unfold getL
 have := getF_M bs (min bs.length 10) 0 0 (by omega) (by simp)
 simpa using this
theorem getM_end : ∀ (p : List UInt8) (i u : Nat) (c : UInt8) (q : List UInt8),(∀ d ∈ p,128 ≤ d.toNat) → c.toNat < 128 → i + p.length ≤ 9 →
   getM i u (p ++ c :: q) = if (0 < i + p.length ∧ c.toNat = 0) ∨ (i + p.length = 9 ∧ 1 < c.toNat) then (0,0,4) else (zg ((u + valU (p ++ [c]) * 128 ^ i : Nat) : Int),i + p.length + 1,0)
 | [],i,u,c,q,hp,hc,h => by
   have h' : ¬ i = 10 := by simp at h; omega
   have e : valU ([] ++ [c]) = c.toNat := by simp only [List.nil_append,valU]; omega
   simp only [List.nil_append,getM,if_neg h',if_neg (show ¬ 128 ≤ c.toNat by omega),List.length_nil,Nat.add_zero]
   rw [List.nil_append] at e
   rw [e]
 | d :: p,i,u,c,q,hp,hc,h => by
   have hd := hp d (by simp)
   simp only [List.length_cons] at h
   simp only [List.cons_append,getM,if_neg (show ¬ i = 10 by omega),if_pos hd]
   rw [getM_end p (i + 1) _ c q (fun x hx => hp x (by simp [hx])) hc (by omega)]
   have e : i + 1 + p.length = i + (d :: p).length := by simp; omega
   rw [e]
   have e2 : u + d.toNat % 128 * 128 ^ i + valU (p ++ [c]) * 128 ^ (i + 1) = u + valU (d :: (p ++ [c])) * 128 ^ i := by
     simp only [valU,Nat.pow_succ,Nat.add_mul]
     rw [Nat.mul_comm (128 ^ i) 128,← Nat.mul_assoc,Nat.mul_comm (valU (p ++ [c])) 128]
     omega
   rw [e2]
theorem getL_put (u : Nat) (hu : u < 18446744073709551616) (q : List UInt8) : getL (putU u ++ q) = (zg (u : Int),(putU u).length,0) := by
 obtain ⟨p,c,e1,e2,e3,e4⟩ := put_shape u
 have hl := zbo u hu
 have hv := val_put u
 have hs := e1
 rw [e1] at hl hv ⊢
 simp only [List.length_append,List.length_cons,List.length_nil] at hl
 rw [getL_M,List.append_assoc,List.singleton_append,getM_end p 0 0 c q e2 e3 (by omega)]
 have hc := (canon p c e2 e3 (by omega)).1 (by rw [hv,Nat.mod_eq_of_lt hu]; exact hs)
 simp only [Nat.zero_add] at hc ⊢
 rw [if_neg hc,hv]
 simp
theorem zg_zz (n : Int) : zg (zz n) = n := by
 unfold zg zz
 repeat' split
 all_goals omega
end Go.Proofs.Ytmedjkjoannbmaa
namespace Go.Proofs.Ytmedjkjoannbmaa
open Ax
section
set_option maxRecDepth 100000
theorem zby (bs : List UInt8) (e : Int) : (numL bs e).length ≤ bs.length := by
 unfold numL; split <;> simp
end
end Go.Proofs.Ytmedjkjoannbmaa
namespace Go.Proofs.Ytmedjkjoannbmaa
open Ax
theorem weak_fzs {sl : List AV} {H : Heap} {nx id s o n : Nat} {bs : List UInt8} (i : Nat) (hs : slot sl i = .ms id s o n) (hl : Ax.look H id = some (.b bs)) : Weak ⟨sl,H,nx⟩ ⟨fzL id bs sl,fzH id bs H,nx⟩ :=
 weak_fz id i bs hl (by rw [hs]; simp [AV.ids])
theorem slot_fzL (id : Nat) (bs : List UInt8) : ∀ (sl : List AV) (i : Nat),slot (fzL id bs sl) i = (slot sl i).fz id bs
 | [],i => rfl
 | x :: sl,0 => rfl
 | x :: sl,i + 1 => slot_fzL id bs sl i
theorem slot_set_ne (x : AV) : ∀ (sl : List AV) (i j : Nat),i ≠ j → slot (setSlot sl i x) j = slot sl j
 | [],i,j,h => rfl
 | y :: sl,0,0,h => (h rfl).elim
 | y :: sl,0,j + 1,h => rfl
 | y :: sl,i + 1,0,h => rfl
 | y :: sl,i + 1,j + 1,h => slot_set_ne x sl i j (by omega)
theorem slot_set_eq (x : AV) : ∀ (sl : List AV) (i : Nat),slot sl i ≠ .junk → slot (setSlot sl i x) i = x
 | [],i,h => (h rfl).elim
 | y :: sl,0,h => rfl
 | y :: sl,i + 1,h => slot_set_eq x sl i h
theorem put_ends {T : zah} {sl : List AV} {H : Heap} {nx id n : Nat} {bs rs : List UInt8} {e e' : Value} {q : Prop} (h2 : slot sl 2 = .ms id 1 0 n) (h3 : slot sl 3 = .w e) (hl : Ax.look H id = some (.b bs)) (hn : n = bs.length) (hr : rs = bs) (he : e' = e) :
   zbs T [.tmp 2,.tmp 3] [] ⟨q,.tup [.sb rs false,.w e'],[]⟩ .ret ⟨sl,H,nx⟩ := by
 subst hn hr he
 have hs : slot (fzL id rs sl) 2 = .sb rs false := by
   rw [slot_fzL,h2]
   simp [AV.fz]
 refine ⟨_,(weak_fzs 2 h2 hl).trans (zel 2 (.sb rs false) (fun w loc v h => by rwa [hs] at h)),?_⟩
 have e2 : slot (setSlot (fzL id rs sl) 2 (.sb rs false)) 2 = .sb rs false := slot_set_eq _ _ _ (by rw [hs]; simp)
 have e3 : slot (setSlot (fzL id rs sl) 2 (.sb rs false)) 3 = .w e' := by rw [slot_set_ne _ _ _ _ (by omega),slot_fzL,h3]; rfl
 simp only [Ax.Ends,Ax.rvals,EndsX,rone,e2,e3,AV.ids,idsL,newIds,upTo,nodup,pinsOf,List.nil_append,AV.ren,renL,and_self]
def recV (d t : Int) (k : Bool) (key : List UInt8) (dd : Bool) (val : List UInt8) : AV := .agg [.w (.int .i64 d),.w (.int .i64 t),.w (.bool k),.str key,.w (.bool dd),.str val]
def rA (d t : Int) : Prop := d < 0 ∨ 31 < d ∨ t < 0 ∨ 1099511627776 < t
def rB (key val : List UInt8) : Prop := 64 < key.length ∨ 512 < val.length
def rC (k : Bool) (key : List UInt8) (dd : Bool) (val : List UInt8) : Prop := (k = false ∧ (key ≠ [] ∨ dd = true)) ∨ (dd = true ∧ val ≠ [])
instance (d t : Int) : Decidable (rA d t) := by unfold rA; infer_instance
instance (key val : List UInt8) : Decidable (rB key val) := by unfold rB; infer_instance
instance (k : Bool) (key : List UInt8) (dd : Bool) (val : List UInt8) : Decidable (rC k key dd val) := by unfold rC; infer_instance
def rchk (d t : Int) (k : Bool) (key : List UInt8) (dd : Bool) (val : List UInt8) : Int := if rA d t then 11 else if rB key val then 5 else if rC k key dd val then 4 else 0
theorem rchk_cases (d t : Int) (k : Bool) (key : List UInt8) (dd : Bool) (val : List UInt8) :
   (rchk d t k key dd val = 11 ∧ rA d t) ∨ (rchk d t k key dd val = 5 ∧ ¬ rA d t ∧ rB key val) ∨ (rchk d t k key dd val = 4 ∧ ¬ rA d t ∧ ¬ rB key val ∧ rC k key dd val) ∨ (rchk d t k key dd val = 0 ∧ ¬ rA d t ∧ ¬ rB key val ∧ ¬ rC k key dd val) := by
 unfold rchk
 by_cases h1 : rA d t
 · exact .inl ⟨if_pos h1,h1⟩
 · by_cases h2 : rB key val
   · exact .inr (.inl ⟨by rw [if_neg h1,if_pos h2],h1,h2⟩)
   · by_cases h3 : rC k key dd val
     · exact .inr (.inr (.inl ⟨by rw [if_neg h1,if_neg h2,if_pos h3],h1,h2,h3⟩))
     · exact .inr (.inr (.inr ⟨by rw [if_neg h1,if_neg h2,if_neg h3],h1,h2,h3⟩))
def zfa : zaq
 | [.agg [.w (.int .i64 d),.w (.int .i64 t),.w (.bool k),.str key,.w (.bool dd),.str val]],[] => ⟨True,.w (.int .i64 (rchk d t k key dd val)),[]⟩
 | _,_ => zbv
section
set_option maxRecDepth 100000
set_option maxHeartbeats 1000000 in
theorem rcheck_sound : zbf Try.prog 94 zfa := by
 refine zau (S := noS) (T := ty) zbj ty_ok zcy Try.func94 (c := Try.f94.body.getD .skip) (by kernel_rfl) (by kernel_rfl) (fun xs pins hp _ => ?_)
 unfold zfa at hp ⊢
 split at hp
 · rename_i d t k key dd val _
   refine ⟨by simp,?_⟩
   unfold Try.f94
   have hc := rchk_cases d t k key dd val
   generalize rchk d t k key dd val = X at *
   unfold rA rB rC at hc
   rcases key with _ | ⟨c,ks⟩ <;> rcases val with _ | ⟨v,vs⟩ <;> cases k <;> cases dd
   all_goals
     simp only [go_sem,coe,zaa,Nat.reduceAdd,Nat.reduceSub,Nat.reduceMul,Int.reduceToNat,reduceCtorEq,↓reduceIte,Int.reducePow,Nat.reducePow,Int.reduceMod,Nat.reduceLeDiff,Int.reduceLE,Int.reduceNe,Int.reduceEq,Nat.reduceEqDiff,Nat.reduceLT,Nat.reduceBEq,ty,noS,decide_eq_true_eq,decide_eq_false_iff_not]
     simp only [List.length_cons,List.length_nil,ne_eq,reduceCtorEq,not_true_eq_false,not_false_eq_true,or_true,true_or,or_false,false_or,and_true,and_false,true_and,false_and,Bool.false_eq_true,Bool.true_eq_false] at hc
     repeat' (first | (intro _) | (apply And.intro))
     all_goals omega
 · exact hp.elim
def flagI (k dd : Bool) : Int := (if k then 1 else 0) + (if dd then 2 else 0)
def flagS : zaq
 | [.agg [.w (.int .i64 d),.w (.int .i64 t),.w (.bool k),.str key,.w (.bool dd),.str val]],[] => ⟨True,.w (.int .u8 (flagI k dd)),[]⟩
 | _,_ => zbv
theorem flag_sound : zbf Try.prog 96 flagS := by
 refine zau (S := noS) (T := ty) zbj ty_ok zcy Try.func96 (c := Try.f96.body.getD .skip) (by kernel_rfl) (by kernel_rfl) (fun xs pins hp _ => ?_)
 unfold flagS at hp ⊢
 split at hp
 · rename_i d t k key dd val _
   refine ⟨by simp,?_⟩
   have b1 : bits .or .u8 0 1 = 1 := by decide
   have b2 : bits .or .u8 0 2 = 2 := by decide
   have b3 : bits .or .u8 1 2 = 3 := by decide
   unfold Try.f96
   cases k <;> cases dd <;> simp only [go_sem,coe,zaa,Nat.reduceAdd,Nat.reduceSub,Nat.reduceMul,Int.reduceToNat,reduceCtorEq,↓reduceIte,Int.reducePow,Nat.reducePow,Int.reduceMod,Nat.reduceLeDiff,Int.reduceLE,Int.reduceNe,Int.reduceEq,Nat.reduceEqDiff,Nat.reduceLT,Nat.reduceBEq,ty,noS,b1,b2,b3,flagI] <;> rfl
 · exact hp.elim
def recL (d t : Int) (k : Bool) (key : List UInt8) (dd : Bool) (val : List UInt8) : List UInt8 :=
 UInt8.ofNat (flagI k dd).toNat :: (putU (zz d).toNat ++ (putU (zz t).toNat ++ ((if k then zaj key else []) ++ (if dd then [] else zaj val))))
def recB (d t : Int) (k : Bool) (key : List UInt8) (dd : Bool) (val : List UInt8) : List UInt8 := if rchk d t k key dd val = 0 then recL d t k key dd val else []
def rputS : zaq
 | [.agg [.w (.int .i64 d),.w (.int .i64 t),.w (.bool k),.str key,.w (.bool dd),.str val]],[] => ⟨True,.tup [.sb (recB d t k key dd val) false,.w (.int .i64 (rchk d t k key dd val))],[]⟩
 | _,_ => zbv
def Srput (f : FuncId) : Option zaq :=
 match f with
 | 94 => some zfa
 | 96 => some flagS
 | 37 => some putS
 | 40 => some zcp
 | _ => none
theorem Srput_ok : Fns Try.prog Srput := by
 intro f s h
 unfold Srput at h
 split at h
 · injection h with h; subst h; exact ⟨⟨_,Try.func94,by kernel_rfl,by kernel_rfl⟩,rcheck_sound⟩
 · injection h with h; subst h; exact ⟨⟨_,Try.func96,by kernel_rfl,by kernel_rfl⟩,flag_sound⟩
 · injection h with h; subst h; exact ⟨⟨_,Try.func37,by kernel_rfl,by kernel_rfl⟩,put_sound⟩
 · injection h with h; subst h; exact ⟨⟨_,Try.func40,by kernel_rfl,by kernel_rfl⟩,text_sound⟩
 · cases h
theorem zev (s : List UInt8) (h : s.length ≤ 1000000) : (zaj s).length ≤ s.length + 10 := by
 unfold zaj
 have := zbo (2 * s.length) (by omega)
 rw [List.length_append]; omega
set_option maxHeartbeats 1000000 in
theorem recput_sound : zbf Try.prog 92 rputS := by
 refine zcm (S := Srput) (T := ty) zbj ty_ok Srput_ok Try.func92 (c := Try.f92.body.getD .skip) (by kernel_rfl) (by kernel_rfl) (fun xs pins hp _ => ?_)
 unfold rputS at hp ⊢
 split at hp
 · rename_i d t k key dd val _
   refine ⟨by simp,?_⟩
   unfold Try.f92
   by_cases h0 : rchk d t k key dd val = 0
   · have hc := rchk_cases d t k key dd val
     unfold rA rB at hc
     have hd : (-9223372036854775808 ≤ d ∧ d ≤ 9223372036854775807) ∧ (-9223372036854775808 ≤ t ∧ t ≤ 9223372036854775807) ∧ key.length ≤ 64 ∧ val.length ≤ 512 := by omega
     obtain ⟨hd1,hd2,hd3,hd4⟩ := hd
     clear hc
     have z1 := zea d hd1.1 hd1.2
     have z2 := zea t hd2.1 hd2.2
     have l1 := zbo (zz d).toNat (by omega)
     have l2 := zbo (zz t).toNat (by omega)
     have l3 := zev key (by omega)
     have l4 := zev val (by omega)
     have k3 : key.length ≤ 1000000 := by omega
     have k4 : val.length ≤ 1000000 := by omega
     generalize hP1 : putU (zz d).toNat = P1 at *
     generalize hP2 : putU (zz t).toNat = P2 at *
     generalize hP3 : zaj key = P3 at *
     generalize hP4 : zaj val = P4 at *
     cases k <;> cases dd
     all_goals
       have f0 : flagI false false = 0 := rfl
       have f1 : flagI true false = 1 := rfl
       have f2 : flagI false true = 2 := rfl
       have f3 : flagI true true = 3 := rfl
       simp only [go_sem,coe,zaa,Nat.reduceAdd,Nat.reduceSub,Nat.reduceMul,Int.reduceToNat,reduceCtorEq,↓reduceIte,Int.reducePow,Nat.reducePow,Int.reduceMod,Nat.reduceLeDiff,Int.reduceLE,Int.reduceNe,Int.reduceEq,Nat.reduceEqDiff,Nat.reduceLT,Nat.reduceBEq,ty,Srput,zfa,flagS,putS,zcp,h0,hd1,hd2,k3,k4,hP1,hP2,hP3,hP4,List.take_length,f0,f1,f2,f3]
       have ht : top = 4294967296 := rfl
       repeat (refine And.intro (by omega) ?_)
       exact put_ends rfl rfl rfl (by simp only [List.length_append,List.length_cons]; omega) (by simp [recB,h0,recL,hP1,hP2,hP3,hP4,f0,f1,f2,f3]) rfl
   · have d0 : decide (rchk d t k key dd val = 0) = false := decide_eq_false h0
     simp only [go_sem,coe,zaa,Nat.reduceAdd,Nat.reduceSub,Nat.reduceMul,Int.reduceToNat,reduceCtorEq,↓reduceIte,Int.reducePow,Nat.reducePow,Int.reduceMod,Nat.reduceLeDiff,Int.reduceLE,Int.reduceNe,Int.reduceEq,Nat.reduceEqDiff,Nat.reduceLT,Nat.reduceBEq,ty,Srput,zfa,d0]
     refine ⟨_,zel 2 (.sb [] false) (fun _ _ _ h => h.nilb),?_⟩
     simp only [go_sem,coe,zaa,Nat.reduceAdd,Nat.reduceSub,Nat.reduceMul,Int.reduceToNat,reduceCtorEq,↓reduceIte,Int.reducePow,Nat.reducePow,Int.reduceMod,Nat.reduceLeDiff,Int.reduceLE,Int.reduceNe,Int.reduceEq,Nat.reduceEqDiff,Nat.reduceLT,Nat.reduceBEq,ty,recB,if_neg h0]
 · exact hp.elim
end
end Go.Proofs.Ytmedjkjoannbmaa
