/- What a parameter's type makes of an argument, by cases. -/
import Derived.Test.YtgkkgbomhfdbkaaAt
namespace Go.Proofs.Ytgkkgbomhfdbkaa
namespace Ax
variable (T : Types) (t : TypeId)
theorem coe_w (v : Value) : coe T t (.w v) = .w v := rfl
theorem coe_str (bs : List UInt8) : coe T t (.str bs) = .str bs := rfl
theorem coe_agg (xs : List AV) : coe T t (.agg xs) = .agg xs := rfl
theorem coe_tup (xs : List AV) : coe T t (.tup xs) = .tup xs := rfl
theorem coe_sb (bs : List UInt8) (f : Bool) : coe T t (.sb bs f) = .sb bs f := rfl
theorem coe_si (ns : List Int) (f : Bool) : coe T t (.si ns f) = .si ns f := rfl
theorem coe_cp (xs : List AV) : coe T t (.cp xs) = .cp xs := rfl
theorem coe_ms (id s off len : Nat) : coe T t (.ms id s off len) = .ms id s off len := rfl
theorem coe_rf (id s i f : Nat) : coe T t (.rf id s i f) = .rf id s i f := rfl
theorem coe_fn (f : FuncId) (xs : List AV) : coe T t (.fn f xs) = .fn f xs := rfl
theorem coe_cons (s : Nat) (x : AV) (xs : List AV) (f : Bool) : coe T t (.sg s (x :: xs) f) = .sg s (x :: xs) f := rfl
end Ax
end Go.Proofs.Ytgkkgbomhfdbkaa
