/- What the proofs of this seat stand on; it asks nothing. -/
import Derived.Test.YthjceeimbohajaaYaa07
set_option linter.unusedSimpArgs false
set_option linter.unusedVariables false
namespace Go.Proofs.Ythjceeimbohajaa
open Ax
def zz (n : Int) : Int := if 0 ≤ n then 2 * n else -2 * n - 1
def zzS : zat
 | [.w (.int k n)],[] => ⟨k = .i64 ∧ -9223372036854775808 ≤ n ∧ n ≤ 9223372036854775807,.w (.int .u64 (zz n)),[]⟩
 | _,_ => zcs
def zg (n : Int) : Int := if n % 2 = 0 then n / 2 else -(n / 2) - 1
def zgS : zat
 | [.w (.int k n)],[] => ⟨k = .u64 ∧ 0 ≤ n ∧ n < 18446744073709551616,.w (.int .i64 (zg n)),[]⟩
 | _,_ => zcs
theorem xor_u64_zero (x : Int) (h : 0 ≤ x) (h' : x < 18446744073709551616) : bits .xor .u64 x 0 = x := by
 show IntKind.u64.wrap ((BitVec.ofInt 64 x ^^^ BitVec.ofInt 64 0).toNat : Int) = _
 rw [show BitVec.ofInt 64 0 = 0#64 from rfl,BitVec.xor_zero,BitVec.toNat_ofInt,IntKind.wrap_u64]
 omega
theorem xor_u64_ones (x : Int) (h : 0 ≤ x) (h' : x < 18446744073709551616) : bits .xor .u64 x 18446744073709551615 = 18446744073709551615 - x := by
 show IntKind.u64.wrap ((BitVec.ofInt 64 x ^^^ BitVec.ofInt 64 18446744073709551615).toNat : Int) = _
 rw [show BitVec.ofInt 64 18446744073709551615 = BitVec.allOnes 64 from by decide,BitVec.xor_allOnes,BitVec.toNat_not,BitVec.toNat_ofInt,IntKind.wrap_u64]
 omega
theorem xor_i64_zero (x : Int) (h : -9223372036854775808 ≤ x) (h' : x ≤ 9223372036854775807) : bits .xor .i64 x 0 = x := by
 show IntKind.i64.wrap ((BitVec.ofInt 64 x ^^^ BitVec.ofInt 64 0).toNat : Int) = _
 rw [show BitVec.ofInt 64 0 = 0#64 from rfl,BitVec.xor_zero,BitVec.toNat_ofInt,IntKind.wrap_i64]
 omega
theorem xor_i64_ones (x : Int) (h : -9223372036854775808 ≤ x) (h' : x ≤ 9223372036854775807) : bits .xor .i64 x (-1) = -x - 1 := by
 show IntKind.i64.wrap ((BitVec.ofInt 64 x ^^^ BitVec.ofInt 64 (-1)).toNat : Int) = _
 rw [show BitVec.ofInt 64 (-1) = BitVec.allOnes 64 from by decide,BitVec.xor_allOnes,BitVec.toNat_not,BitVec.toNat_ofInt,IntKind.wrap_i64]
 omega
theorem and_u64_one (x : Int) (h : 0 ≤ x) (h' : x < 18446744073709551616) : bits .and .u64 x 1 = x % 2 := by
 rw [u64_and x 1 h h' (by omega) (by omega),show (1 : Int).toNat = 2 ^ 1 - 1 from rfl,Nat.and_two_pow_sub_one_eq_mod]
 omega
section
set_option maxRecDepth 100000
theorem zig_sound : zbb Try.prog 65 zzS := by
 refine zaw (S := noS) (T := ty) zbs ty_ok zdn Try.func65 (c := Try.f65.body.getD .skip) (by kernel_rfl) (by kernel_rfl) (fun xs pins hp _ => ?_)
 unfold zzS at hp ⊢
 split at hp
 · rename_i n _
   obtain ⟨rfl,h1,h2⟩ := hp
   refine ⟨by decide,?_⟩
   unfold Try.f65
   simp only [go_sem,coe,zab,Nat.reduceAdd,Nat.reduceSub,Nat.reduceMul,Int.reduceToNat,reduceCtorEq,↓reduceIte,Int.reducePow,Nat.reducePow,Int.reduceMod,Nat.reduceLeDiff,Int.reduceLE,Int.reduceNe,Int.reduceEq,Nat.reduceEqDiff,Nat.reduceLT,Nat.reduceBEq,ty,noS]
   unfold zz
   rcases Int.lt_or_le n 0 with h | h
   · rw [if_neg (by omega),show n / 9223372036854775808 % 18446744073709551616 = 18446744073709551615 by omega,xor_u64_ones _ (by omega) (by omega)]
     omega
   · rw [if_pos h,show n / 9223372036854775808 % 18446744073709551616 = 0 by omega,xor_u64_zero _ (by omega) (by omega)]
     omega
 · exact hp.elim
theorem rzig_sound : zbb Try.prog 70 zzS := by
 refine zaw (S := noS) (T := ty) zbs ty_ok zdn Try.func70 (c := Try.f70.body.getD .skip) (by kernel_rfl) (by kernel_rfl) (fun xs pins hp _ => ?_)
 unfold zzS at hp ⊢
 split at hp
 · rename_i n _
   obtain ⟨rfl,h1,h2⟩ := hp
   refine ⟨by decide,?_⟩
   unfold Try.f70
   simp only [go_sem,coe,zab,Nat.reduceAdd,Nat.reduceSub,Nat.reduceMul,Int.reduceToNat,reduceCtorEq,↓reduceIte,Int.reducePow,Nat.reducePow,Int.reduceMod,Nat.reduceLeDiff,Int.reduceLE,Int.reduceNe,Int.reduceEq,Nat.reduceEqDiff,Nat.reduceLT,Nat.reduceBEq,ty,noS,decide_eq_true_eq,decide_eq_false_iff_not]
   unfold zz
   constructor
   · intro h; rw [if_pos h]; omega
   · intro h; rw [if_neg h]; omega
 · exact hp.elim
theorem zag_sound : zbb Try.prog 95 zgS := by
 refine zaw (S := noS) (T := ty) zbs ty_ok zdn Try.func95 (c := Try.f95.body.getD .skip) (by kernel_rfl) (by kernel_rfl) (fun xs pins hp _ => ?_)
 unfold zgS at hp ⊢
 split at hp
 · rename_i n _
   obtain ⟨rfl,h1,h2⟩ := hp
   refine ⟨by decide,?_⟩
   unfold Try.f95
   simp only [go_sem,coe,zab,Nat.reduceAdd,Nat.reduceSub,Nat.reduceMul,Int.reduceToNat,reduceCtorEq,↓reduceIte,Int.reducePow,Nat.reducePow,Int.reduceMod,Nat.reduceLeDiff,Int.reduceLE,Int.reduceNe,Int.reduceEq,Nat.reduceEqDiff,Nat.reduceLT,Nat.reduceBEq,ty,noS]
   rw [and_u64_one n h1 h2]
   unfold zg
   split
   · rename_i h
     rw [show (0 - ((n % 2 + 9223372036854775808) % 18446744073709551616 - 9223372036854775808) + 9223372036854775808) % 18446744073709551616 - 9223372036854775808 = 0 by omega,xor_i64_zero _ (by omega) (by omega)]
     omega
   · rename_i h
     rw [show (0 - ((n % 2 + 9223372036854775808) % 18446744073709551616 - 9223372036854775808) + 9223372036854775808) % 18446744073709551616 - 9223372036854775808 = -1 by omega,xor_i64_ones _ (by omega) (by omega)]
     omega
 · exact hp.elim
theorem rzag_sound : zbb Try.prog 96 zgS := by
 refine zaw (S := noS) (T := ty) zbs ty_ok zdn Try.func96 (c := Try.f96.body.getD .skip) (by kernel_rfl) (by kernel_rfl) (fun xs pins hp _ => ?_)
 unfold zgS at hp ⊢
 split at hp
 · rename_i n _
   obtain ⟨rfl,h1,h2⟩ := hp
   refine ⟨by decide,?_⟩
   unfold Try.f96
   simp only [go_sem,coe,zab,Nat.reduceAdd,Nat.reduceSub,Nat.reduceMul,Int.reduceToNat,reduceCtorEq,↓reduceIte,Int.reducePow,Nat.reducePow,Int.reduceMod,Nat.reduceLeDiff,Int.reduceLE,Int.reduceNe,Int.reduceEq,Nat.reduceEqDiff,Nat.reduceLT,Nat.reduceBEq,ty,noS,decide_eq_true_eq,decide_eq_false_iff_not]
   have e1 : n.tmod 2 = n % 2 := Int.tmod_eq_emod_of_nonneg h1
   have e2 : n.tdiv 2 = n / 2 := Int.tdiv_eq_ediv_of_nonneg h1
   rw [e1,e2]
   unfold zg
   constructor
   · intro h; rw [if_pos h]; omega
   · intro h; rw [if_neg h]; omega
 · exact hp.elim
end
end Go.Proofs.Ythjceeimbohajaa
namespace Go.Proofs.Ythjceeimbohajaa
open Ax
def putU (u : Nat) : List UInt8 := if u < 128 then [UInt8.ofNat u] else UInt8.ofNat (u % 128 + 128) :: putU (u / 128)
termination_by u
decreasing_by omega
def putS : zat
 | [.w (.int k n)],[] => ⟨k = .i64 ∧ -9223372036854775808 ≤ n ∧ n ≤ 9223372036854775807,.ms 0 1 0 (putU (zz n).toNat).length,[.b (putU (zz n).toNat)]⟩
 | _,_ => zcs
def S2 (f : FuncId) : Option zat :=
 match f with
 | 65 => some zzS
 | _ => none
theorem S2_ok : Fns Try.prog S2 := by
 intro f s h
 unfold S2 at h
 split at h
 · injection h with h; subst h; exact ⟨⟨_,Try.func65,by kernel_rfl,by kernel_rfl⟩,zig_sound⟩
 · cases h
theorem putU_big {u : Nat} (h : ¬ u < 128) : putU u = UInt8.ofNat (u % 128 + 128) :: putU (u / 128) := by
 rw [putU,if_neg h]
theorem zcx {u : Nat} (h : u < 128) : putU u = [UInt8.ofNat u] := by
 rw [putU,if_pos h]
theorem putU_pos (u : Nat) : 0 < (putU u).length := by
 rw [putU]; split <;> simp
theorem putU_len : ∀ (k u : Nat),u < 128 ^ (k + 1) → (putU u).length ≤ k + 1
 | 0,u,h => by rw [zcx (by simpa using h)]; simp
 | k + 1,u,h => by
   by_cases hu : u < 128
   · rw [zcx hu]; simp
   · rw [putU_big hu]
     have := putU_len k (u / 128) (by rw [Nat.div_lt_iff_lt_mul (by decide)]; rw [Nat.pow_succ] at h; exact h)
     simp; omega
theorem p128 : (128 : Nat) ^ (9 + 1) = 1180591620717411303424 := by simp
theorem zcc (u : Nat) (h : u < 18446744073709551616) : (putU u).length ≤ 10 := putU_len 9 u (by rw [p128]; omega)
theorem or128_nat : ∀ x : Fin 256,x.val ||| 128 = x.val % 128 + 128 := by decide +kernel
theorem or128 (m : Nat) : bits .or .u8 ((m : Int) % 256) 128 = ((m % 128 + 128 : Nat) : Int) := by
 rw [u8_or _ _ (by omega) (by omega) (by omega) (by omega)]
 have e : ((m : Int) % 256).toNat = m % 256 := by omega
 have := or128_nat ⟨m % 256,by omega⟩
 simp only at this
 rw [e,show (128 : Int).toNat = 128 from rfl,this]
 omega
theorem zz_range (n : Int) (h1 : -9223372036854775808 ≤ n) (h2 : n ≤ 9223372036854775807) : 0 ≤ zz n ∧ zz n < 18446744073709551616 := by
 unfold zz; split <;> omega
section
set_option maxRecDepth 100000
theorem put_sound : zbb Try.prog 29 putS := by
 refine zaw (S := S2) (T := ty) zbs ty_ok S2_ok Try.func29 (c := Try.f29.body.getD .skip) (by kernel_rfl) (by kernel_rfl) (fun xs pins hp _ => ?_)
 unfold putS at hp ⊢
 split at hp
 · rename_i n _
   obtain ⟨rfl,h1,h2⟩ := hp
   refine ⟨by decide,?_⟩
   unfold Try.f29
   simp only [go_sem,coe,zab,Nat.reduceAdd,Nat.reduceSub,Nat.reduceMul,Int.reduceToNat,reduceCtorEq,↓reduceIte,Int.reducePow,Nat.reducePow,Int.reduceMod,Nat.reduceLeDiff,Int.reduceLE,Int.reduceNe,Int.reduceEq,Nat.reduceEqDiff,Nat.reduceLT,Nat.reduceBEq,ty,S2,zzS]
   have hz := zz_range n h1 h2
   refine ⟨⟨h1,h2⟩,awp_loop ⟨fun m σ => ∃ (u : Nat) (bs : List UInt8),m = u ∧ u < 18446744073709551616 ∧ bs ++ putU u = putU (zz n).toNat ∧
     σ = ⟨[.w (.int .i64 n),.junk,.junk,.w (.int .u64 u),.ms 4 1 0 bs.length,.junk,.junk,.junk,.junk,.junk,.junk,.junk,.junk,.junk,.junk,.junk,.junk,.junk,.junk,.junk,.junk,.junk],[(4,.b bs)],5⟩,?_,?_⟩⟩
   · refine ⟨_,_,(weak_nil 4 1 (.b []) rfl (by exact trivial)).trans (zai [0,1,2,3,44] rfl rfl rfl ?_ ?_),(zz n).toNat,[],rfl,by omega,rfl,rfl⟩
     · simp only [ssT,zao,zap,setSlot,gOf,AV.ren,renL,Blk.ren,Ax.look,Ax.put,reduceCtorEq,↓reduceIte,Nat.reduceEqDiff,Nat.reduceLT,Nat.reduceAdd,List.length_append,List.length_cons,List.length_nil,Option.some.injEq]; omega
     · simp only [ssT,zao,zap,setSlot,gOf,AV.ren,renL,Blk.ren,Ax.look,Ax.put,reduceCtorEq,↓reduceIte,Nat.reduceEqDiff,Nat.reduceLT,Nat.reduceAdd,List.length_append,List.length_cons,List.length_nil,Option.some.injEq]
   · rintro m σ ⟨u,bs,rfl,hu,hbs,rfl⟩
     have hlen := congrArg List.length hbs
     have h10 := zcc (zz n).toNat (by omega)
     have h1' := putU_pos m
     rw [List.length_append] at hlen
     simp only [go_sem,coe,zab,Nat.reduceAdd,Nat.reduceSub,Nat.reduceMul,Int.reduceToNat,reduceCtorEq,↓reduceIte,Int.reducePow,Nat.reducePow,Int.reduceMod,Nat.reduceLeDiff,Int.reduceLE,Int.reduceNe,Int.reduceEq,Nat.reduceEqDiff,Nat.reduceLT,Nat.reduceBEq,ty,S2,zzS,decide_eq_true_eq,decide_eq_false_iff_not]
     refine ⟨fun hc => ?_,fun hc => ?_⟩
     · have hm : ¬ m < 128 := by omega
       rw [putU_big hm] at hbs
       rw [or128 m]
       refine ⟨by omega,by unfold top; omega,m / 128,_,by omega,zai [0,1,2,3,61] rfl rfl rfl ?_ ?_,m / 128,bs ++ [UInt8.ofNat (m % 128 + 128)],rfl,by omega,?_,rfl⟩
       · simp only [ssT,zao,zap,setSlot,gOf,AV.ren,renL,Blk.ren,Ax.look,Ax.put,reduceCtorEq,↓reduceIte,Nat.reduceEqDiff,Nat.reduceLT,Nat.reduceAdd,List.length_append,List.length_cons,List.length_nil,Option.some.injEq]; omega
       · simp only [ssT,zao,zap,setSlot,gOf,AV.ren,renL,Blk.ren,Ax.look,Ax.put,reduceCtorEq,↓reduceIte,Nat.reduceEqDiff,Nat.reduceLT,Nat.reduceAdd,List.length_append,List.length_cons,List.length_nil,Option.some.injEq,Int.toNat_natCast]
       · simpa using hbs
     · have hm : m < 128 := by omega
       rw [zcx hm] at hbs
       have e : ((m : Int) % 256).toNat = m := by omega
       rw [e,← hbs]
       refine ⟨by omega,by unfold top; omega,rfl,by simp⟩
 · exact hp.elim
def bytesS : zat
 | [.w (.int k u)],[] => ⟨k = .u64 ∧ 0 ≤ u ∧ u < 18446744073709551616,.ms 0 1 0 (putU u.toNat).length,[.b (putU u.toNat)]⟩
 | _,_ => zcs
theorem bytes_sound : zbb Try.prog 69 bytesS := by
 refine zaw (S := noS) (T := ty) zbs ty_ok zdn Try.func69 (c := Try.f69.body.getD .skip) (by kernel_rfl) (by kernel_rfl) (fun xs pins hp _ => ?_)
 unfold bytesS at hp ⊢
 split at hp
 · rename_i n _
   obtain ⟨rfl,h1,h2⟩ := hp
   refine ⟨by decide,?_⟩
   unfold Try.f69
   simp only [go_sem,coe,zab,Nat.reduceAdd,Nat.reduceSub,Nat.reduceMul,Int.reduceToNat,reduceCtorEq,↓reduceIte,Int.reducePow,Nat.reducePow,Int.reduceMod,Nat.reduceLeDiff,Int.reduceLE,Int.reduceNe,Int.reduceEq,Nat.reduceEqDiff,Nat.reduceLT,Nat.reduceBEq,ty,noS]
   refine awp_loop ⟨fun m σ => ∃ (u : Nat) (bs : List UInt8),m = u ∧ u < 18446744073709551616 ∧ bs ++ putU u = putU n.toNat ∧
     σ = ⟨[.w (.int .u64 u),.junk,.junk,.ms 4 1 0 bs.length,.junk,.junk,.junk,.junk,.junk,.junk,.junk,.junk,.junk,.junk,.junk,.junk,.junk,.junk,.junk,.junk],[(4,.b bs)],5⟩,?_,?_⟩
   · refine ⟨_,_,(weak_nil 3 1 (.b []) rfl (by exact trivial)).trans (zai [0,1,2,3,20] rfl rfl rfl ?_ ?_),n.toNat,[],rfl,by omega,rfl,rfl⟩
     · simp only [ssT,zao,zap,setSlot,gOf,AV.ren,renL,Blk.ren,Ax.look,Ax.put,reduceCtorEq,↓reduceIte,Nat.reduceEqDiff,Nat.reduceLT,Nat.reduceAdd,List.length_append,List.length_cons,List.length_nil,Option.some.injEq]; omega
     · simp only [ssT,zao,zap,setSlot,gOf,AV.ren,renL,Blk.ren,Ax.look,Ax.put,reduceCtorEq,↓reduceIte,Nat.reduceEqDiff,Nat.reduceLT,Nat.reduceAdd,List.length_append,List.length_cons,List.length_nil,Option.some.injEq]
   · rintro m σ ⟨u,bs,rfl,hu,hbs,rfl⟩
     have hlen := congrArg List.length hbs
     have h10 := zcc n.toNat (by omega)
     have h1' := putU_pos m
     rw [List.length_append] at hlen
     simp only [go_sem,coe,zab,Nat.reduceAdd,Nat.reduceSub,Nat.reduceMul,Int.reduceToNat,reduceCtorEq,↓reduceIte,Int.reducePow,Nat.reducePow,Int.reduceMod,Nat.reduceLeDiff,Int.reduceLE,Int.reduceNe,Int.reduceEq,Nat.reduceEqDiff,Nat.reduceLT,Nat.reduceBEq,ty,noS,decide_eq_true_eq,decide_eq_false_iff_not]
     have et : (m : Int).tmod 128 = m % 128 := Int.tmod_eq_emod_of_nonneg (by omega)
     have ed : (m : Int).tdiv 128 = m / 128 := Int.tdiv_eq_ediv_of_nonneg (by omega)
     rw [et,ed]
     refine ⟨fun hc => ?_,fun hc => ?_⟩
     · have hm : ¬ m < 128 := by omega
       rw [putU_big hm] at hbs
       have e : (((m : Int) % 128 % 256 + 128) % 256) = ((m % 128 + 128 : Nat) : Int) := by omega
       rw [e]
       refine ⟨by omega,by unfold top; omega,m / 128,_,by omega,zai [0,1,2,3,69] rfl rfl rfl ?_ ?_,m / 128,bs ++ [UInt8.ofNat (m % 128 + 128)],rfl,by omega,?_,rfl⟩
       · simp only [ssT,zao,zap,setSlot,gOf,AV.ren,renL,Blk.ren,Ax.look,Ax.put,reduceCtorEq,↓reduceIte,Nat.reduceEqDiff,Nat.reduceLT,Nat.reduceAdd,List.length_append,List.length_cons,List.length_nil,Option.some.injEq]; omega
       · simp only [ssT,zao,zap,setSlot,gOf,AV.ren,renL,Blk.ren,Ax.look,Ax.put,reduceCtorEq,↓reduceIte,Nat.reduceEqDiff,Nat.reduceLT,Nat.reduceAdd,List.length_append,List.length_cons,List.length_nil,Option.some.injEq,Int.toNat_natCast]
       · simpa using hbs
     · have hm : m < 128 := by omega
       rw [zcx hm] at hbs
       have e : ((m : Int) % 256).toNat = m := by omega
       rw [e,← hbs]
       refine ⟨by omega,by unfold top; omega,rfl,by simp⟩
 · exact hp.elim
def S19 (f : FuncId) : Option zat :=
 match f with
 | 70 => some zzS
 | 69 => some bytesS
 | _ => none
theorem S19_ok : Fns Try.prog S19 := by
 intro f s h
 unfold S19 at h
 split at h
 · injection h with h; subst h; exact ⟨⟨_,Try.func70,by kernel_rfl,by kernel_rfl⟩,rzig_sound⟩
 · injection h with h; subst h; exact ⟨⟨_,Try.func69,by kernel_rfl,by kernel_rfl⟩,bytes_sound⟩
 · cases h
theorem rput_sound : zbb Try.prog 32 putS := by
 refine zaw (S := S19) (T := ty) zbs ty_ok S19_ok Try.func32 (c := Try.f32.body.getD .skip) (by kernel_rfl) (by kernel_rfl) (fun xs pins hp _ => ?_)
 unfold putS at hp ⊢
 split at hp
 · rename_i n _
   obtain ⟨rfl,h1,h2⟩ := hp
   have hz := zz_range n h1 h2
   refine ⟨by decide,?_⟩
   unfold Try.f32
   simp only [go_sem,coe,zab,Nat.reduceAdd,Nat.reduceSub,Nat.reduceMul,Int.reduceToNat,reduceCtorEq,↓reduceIte,Int.reducePow,Nat.reducePow,Int.reduceMod,Nat.reduceLeDiff,Int.reduceLE,Int.reduceNe,Int.reduceEq,Nat.reduceEqDiff,Nat.reduceLT,Nat.reduceBEq,ty,S19,zzS,bytesS,h1,h2,hz.1,hz.2]
 · exact hp.elim
def zck (s : List UInt8) : List UInt8 := putU (2 * s.length) ++ s
def textS : zat
 | [.str s],[] => ⟨s.length ≤ 1000000,.ms 0 1 0 (zck s).length,[.b (zck s)]⟩
 | _,_ => zcs
def S37 (f : FuncId) : Option zat :=
 match f with
 | 29 => some putS
 | 32 => some putS
 | _ => none
theorem S37_ok : Fns Try.prog S37 := by
 intro f s h
 unfold S37 at h
 split at h
 · injection h with h; subst h; exact ⟨⟨_,Try.func29,by kernel_rfl,by kernel_rfl⟩,put_sound⟩
 · injection h with h; subst h; exact ⟨⟨_,Try.func32,by kernel_rfl,by kernel_rfl⟩,rput_sound⟩
 · cases h
theorem text_sound : zbb Try.prog 30 textS := by
 refine zaw (S := S37) (T := ty) zbs ty_ok S37_ok Try.func30 (c := Try.f30.body.getD .skip) (by kernel_rfl) (by kernel_rfl) (fun xs pins hp _ => ?_)
 unfold textS at hp ⊢
 split at hp
 · rename_i s _
   refine ⟨by decide,?_⟩
   have hp : s.length ≤ 1000000 := hp
   have hz : (zz (s.length : Int)).toNat = 2 * s.length := by unfold zz; rw [if_pos (by omega)]; omega
   have h10 := zcc (2 * s.length) (by omega)
   unfold Try.f30
   simp only [go_sem,coe,zab,Nat.reduceAdd,Nat.reduceSub,Nat.reduceMul,Int.reduceToNat,reduceCtorEq,↓reduceIte,Int.reducePow,Nat.reducePow,Int.reduceMod,Nat.reduceLeDiff,Int.reduceLE,Int.reduceNe,Int.reduceEq,Nat.reduceEqDiff,Nat.reduceLT,Nat.reduceBEq,ty,S37,putS,hz]
   unfold zck top
   simp only [List.length_append]
   exact ⟨by omega,by omega,trivial,trivial⟩
 · exact hp.elim
theorem rtext_sound : zbb Try.prog 33 textS := by
 refine zaw (S := S37) (T := ty) zbs ty_ok S37_ok Try.func33 (c := Try.f33.body.getD .skip) (by kernel_rfl) (by kernel_rfl) (fun xs pins hp _ => ?_)
 unfold textS at hp ⊢
 split at hp
 · rename_i s _
   refine ⟨by decide,?_⟩
   have hp : s.length ≤ 1000000 := hp
   have hz : (zz (s.length : Int)).toNat = 2 * s.length := by unfold zz; rw [if_pos (by omega)]; omega
   have h10 := zcc (2 * s.length) (by omega)
   unfold Try.f33
   simp only [go_sem,coe,zab,Nat.reduceAdd,Nat.reduceSub,Nat.reduceMul,Int.reduceToNat,reduceCtorEq,↓reduceIte,Int.reducePow,Nat.reducePow,Int.reduceMod,Nat.reduceLeDiff,Int.reduceLE,Int.reduceNe,Int.reduceEq,Nat.reduceEqDiff,Nat.reduceLT,Nat.reduceBEq,ty,S37,putS,hz]
   unfold zck top
   simp only [List.length_append]
   exact ⟨by omega,by omega,trivial,trivial⟩
 · exact hp.elim
end
end Go.Proofs.Ythjceeimbohajaa
namespace Go.Proofs.Ythjceeimbohajaa
open Ax
theorem set_at (k : Nat) (b : UInt8) (l : List UInt8) : (List.replicate (k + 1) 0 ++ l).set k b = List.replicate k 0 ++ b :: l := by
 induction k with
 | zero => rfl
 | succ k ih =>
   rw [List.replicate_succ,List.cons_append,List.set_cons_succ,ih]
   rw [List.replicate_succ (n := k),List.cons_append]
end Go.Proofs.Ythjceeimbohajaa
namespace Go.Proofs.Ythjceeimbohajaa
open Ax
def getF (bs : List UInt8) : Nat → Nat → Int → Int × Nat × Int
 | 0,_,_ => if bs.length < 10 then (0,0,3) else (0,0,4)
 | r + 1,i,u =>
   if 128 ≤ (bs.getD i 0).toNat then getF bs r (i + 1) (bits .or .u64 u (bits .andNot .u8 (bs.getD i 0).toNat 128 % 18446744073709551616 * 2 ^ (7 * i) % 18446744073709551616))
   else if (0 < i ∧ (bs.getD i 0).toNat = 0) ∨ (i = 9 ∧ 1 < (bs.getD i 0).toNat) then (0,0,4)
   else (zg (bits .or .u64 u (bits .andNot .u8 (bs.getD i 0).toNat 128 % 18446744073709551616 * 2 ^ (7 * i) % 18446744073709551616)),i + 1,0)
def getL (bs : List UInt8) : Int × Nat × Int := getF bs (min bs.length 10) 0 0
def getS : zat
 | [.sb bs _],[] => ⟨bs.length ≤ 1000000,.tup [.w (.int .i64 (getL bs).1),.w (.int .i64 (getL bs).2.1),.w (.int .i64 (getL bs).2.2)],[]⟩
 | _,_ => zcs
theorem or_u64_range (a b : Int) : 0 ≤ bits .or .u64 a b ∧ bits .or .u64 a b < 18446744073709551616 := by
 show 0 ≤ IntKind.u64.wrap _ ∧ IntKind.u64.wrap _ < _
 rw [IntKind.wrap_u64]; omega
def S22 (f : FuncId) : Option zat :=
 match f with
 | 95 => some zgS
 | _ => none
theorem S22_ok : Fns Try.prog S22 := by
 intro f s h
 unfold S22 at h
 split at h
 · injection h with h; subst h; exact ⟨⟨_,Try.func95,by kernel_rfl,by kernel_rfl⟩,zag_sound⟩
 · cases h
section
set_option maxRecDepth 100000
theorem get_sound : zbb Try.prog 71 getS := by
 refine zaw (S := S22) (T := ty) zbs ty_ok S22_ok Try.func71 (c := Try.f71.body.getD .skip) (by kernel_rfl) (by kernel_rfl) (fun xs pins hp _ => ?_)
 unfold getS at hp ⊢
 split at hp
 · rename_i bs f _
   have hp : bs.length ≤ 1000000 := hp
   refine ⟨by decide,?_⟩
   obtain ⟨L,hL⟩ : ∃ L,min bs.length 10 = L := ⟨_,rfl⟩
   have hLb : L ≤ bs.length ∧ L ≤ 10 := by omega
   have em : (if (10 : Int) < bs.length then (10 : Int) else bs.length) = (L : Int) := by split <;> omega
   have hg : getL bs = getF bs L 0 0 := by unfold getL; rw [hL]
   rw [hg]
   unfold Try.f71
   simp only [go_sem,coe,zab,Nat.reduceAdd,Nat.reduceSub,Nat.reduceMul,Int.reduceToNat,reduceCtorEq,↓reduceIte,Int.reducePow,Nat.reducePow,Int.reduceMod,Nat.reduceLeDiff,Int.reduceLE,Int.reduceNe,Int.reduceEq,Nat.reduceEqDiff,Nat.reduceLT,Nat.reduceBEq,ty,S22,em]
   refine awp_loop ⟨fun m σ => ∃ (i : Nat) (u : Int),m = L - i ∧ i ≤ L ∧ getF bs (L - i) i u = getF bs L 0 0 ∧
     σ = ⟨[.sb bs f,.junk,.junk,.junk,.junk,.w (.int .u64 u),.junk,.junk,.junk,.w (.int .i64 L),.w (.int .i64 i),.junk,.junk,.junk,.junk,.junk,.junk,.junk,.junk,.junk,.junk,.junk,.junk,.junk,.junk,.junk,.junk,.junk,.junk,.junk,.junk,.junk,.junk,.junk,.junk,.junk,.junk,.junk,.junk,.junk,.junk,.junk,.junk,.junk,.junk,.junk,.junk,.junk,.junk,.junk,.junk,.junk,.junk,.junk,.junk,.junk,.junk],[],4⟩,?_,?_⟩
   · refine ⟨_,_,zai [0,1,2,3] rfl rfl rfl ?_ ?_,0,0,rfl,by omega,rfl,rfl⟩
     · simp only [ssT,zao,zap,setSlot,gOf,AV.ren,renL,Blk.ren,Ax.look,Ax.put,reduceCtorEq,↓reduceIte,Nat.reduceEqDiff,Nat.reduceLT,Nat.reduceAdd,List.length_append,List.length_cons,List.length_nil,Option.some.injEq]; rfl
     · simp only [ssT,zao,zap,setSlot,gOf,AV.ren,renL,Blk.ren,Ax.look,Ax.put,reduceCtorEq,↓reduceIte,Nat.reduceEqDiff,Nat.reduceLT,Nat.reduceAdd,List.length_append,List.length_cons,List.length_nil,Option.some.injEq]
   · rintro m σ ⟨i,u,rfl,hi,hu,rfl⟩
     have e7 : (7 * (i : Int) + 9223372036854775808) % 18446744073709551616 - 9223372036854775808 = ((7 * i : Nat) : Int) := by omega
     have e1 : ((i : Int) + 1 + 9223372036854775808) % 18446744073709551616 - 9223372036854775808 = ((i + 1 : Nat) : Int) := by omega
     obtain ⟨c,hc⟩ : ∃ c,bs.getD i 0 = c := ⟨_,rfl⟩
     by_cases hiL : i < L
     · have hd : decide ((i : Int) < (L : Int)) = true := by simpa using hiL
       have h64 : 7 * i ≤ 64 := by omega
       simp only [go_sem,coe,zab,Nat.reduceAdd,Nat.reduceSub,Nat.reduceMul,Int.reduceToNat,reduceCtorEq,↓reduceIte,Int.reducePow,Nat.reducePow,Int.reduceMod,Nat.reduceLeDiff,Int.reduceLE,Int.reduceNe,Int.reduceEq,Nat.reduceEqDiff,Nat.reduceLT,Nat.reduceBEq,ty,S22,zgS,decide_eq_true_eq,decide_eq_false_iff_not,e7,e1,h64,if_true,hc,hd]
       obtain ⟨v,hv⟩ : ∃ v,bits .or .u64 u (bits .andNot .u8 c.toNat 128 % 18446744073709551616 * 2 ^ (7 * i) % 18446744073709551616) = v := ⟨_,rfl⟩
       have hvr : 0 ≤ v ∧ v < 18446744073709551616 := hv ▸ or_u64_range _ _
       rw [show L - i = (L - (i + 1)) + 1 by omega,getF,hc,hv] at hu
       simp only [hv]
       refine ⟨⟨by omega,by omega⟩,by omega,⟨by omega,by omega⟩,fun h => ?_,fun h => ?_⟩
       · rw [if_pos (by omega)] at hu
         refine ⟨L - (i + 1),_,by omega,zai [0,1,2,3] rfl rfl rfl ?_ ?_,i + 1,v,rfl,by omega,hu,rfl⟩
         · simp only [ssT,zao,zap,setSlot,gOf,AV.ren,renL,Blk.ren,Ax.look,Ax.put,reduceCtorEq,↓reduceIte,Nat.reduceEqDiff,Nat.reduceLT,Nat.reduceAdd,List.length_append,List.length_cons,List.length_nil,Option.some.injEq]
         · simp only [ssT,zao,zap,setSlot,gOf,AV.ren,renL,Blk.ren,Ax.look,Ax.put,reduceCtorEq,↓reduceIte,Nat.reduceEqDiff,Nat.reduceLT,Nat.reduceAdd,List.length_append,List.length_cons,List.length_nil,Option.some.injEq]
       · rw [if_neg (by omega)] at hu
         by_cases hA : (0 < i ∧ c.toNat = 0) ∨ (i = 9 ∧ 1 < c.toNat)
         · rw [if_pos hA] at hu
           rw [← hu]
           repeat' (first | (intro _) | (apply And.intro))
           all_goals first | omega | rfl | (exfalso; omega) | trace_state
         · rw [if_neg hA] at hu
           rw [← hu]
           repeat' (first | (intro _) | (apply And.intro))
           all_goals first | omega | rfl | (exfalso; omega) | trace_state
     · have hd : decide ((i : Int) < (L : Int)) = false := by simpa using hiL
       simp only [go_sem,coe,zab,Nat.reduceAdd,Nat.reduceSub,Nat.reduceMul,Int.reduceToNat,reduceCtorEq,↓reduceIte,Int.reducePow,Nat.reducePow,Int.reduceMod,Nat.reduceLeDiff,Int.reduceLE,Int.reduceNe,Int.reduceEq,Nat.reduceEqDiff,Nat.reduceLT,Nat.reduceBEq,ty,S22,zgS,decide_eq_true_eq,decide_eq_false_iff_not,hd]
       rw [show L - i = 0 by omega,getF] at hu
       refine ⟨fun h => ?_,fun h => ?_⟩
       · rw [if_pos (by omega)] at hu
         rw [← hu]
         repeat' (apply And.intro)
         all_goals rfl
       · rw [if_neg (by omega)] at hu
         rw [← hu]
         repeat' (apply And.intro)
         all_goals rfl
 · exact hp.elim
end
end Go.Proofs.Ythjceeimbohajaa
namespace Go.Proofs.Ythjceeimbohajaa
open Ax
def rd (bs : List UInt8) (f : Bool) (e : Int) : Blk := .g 2 [.agg [.sb bs f,.w (.int .i64 e)]]
def tkB (n : Int) (bs : List UInt8) : List UInt8 := if (bs.length : Int) < n then [] else bs.take n.toNat
def tkL (n : Int) (bs : List UInt8) : List UInt8 := if (bs.length : Int) < n then bs else bs.drop n.toNat
def tkE (n : Int) (bs : List UInt8) (e : Int) : Int := if (bs.length : Int) < n then 3 else e
def takeS : zat
 | [.rf 0 2 0 0,.w (.int k n)],[.g 2 [.agg [.sb bs f,.w (.int k' e)]]] => ⟨k = .i64 ∧ k' = .i64 ∧ 0 ≤ n,.sb (tkB n bs) true,[rd (tkL n bs) f (tkE n bs e)]⟩
 | _,_ => zcs
section
set_option maxRecDepth 100000
theorem take_sound : zbb Try.prog 72 takeS := by
 refine zeo (S := noS) (T := ty) zbs ty_ok zdn Try.func72 (c := Try.f72.body.getD .skip) (by kernel_rfl) (by kernel_rfl) (fun xs pins hp _ => ?_)
 unfold takeS at hp ⊢
 split at hp
 · rename_i k n bs f k' e _
   obtain ⟨rfl,rfl,h1⟩ := hp
   refine ⟨by simp,?_⟩
   unfold Try.f72
   simp only [go_sem,coe,zab,Nat.reduceAdd,Nat.reduceSub,Nat.reduceMul,Int.reduceToNat,reduceCtorEq,↓reduceIte,Int.reducePow,Nat.reducePow,Int.reduceMod,Nat.reduceLeDiff,Int.reduceLE,Int.reduceNe,Int.reduceEq,Nat.reduceEqDiff,Nat.reduceLT,Nat.reduceBEq,ty,noS,decide_eq_true_eq,decide_eq_false_iff_not]
   refine ⟨fun h => ?_,fun h => ?_⟩
   · refine ⟨_,weak_coe 4 1 true rfl,?_⟩
     simp only [go_sem,coe,zab,Nat.reduceAdd,Nat.reduceSub,Nat.reduceMul,Int.reduceToNat,reduceCtorEq,↓reduceIte,Int.reducePow,Nat.reducePow,Int.reduceMod,Nat.reduceLeDiff,Int.reduceLE,Int.reduceNe,Int.reduceEq,Nat.reduceEqDiff,Nat.reduceLT,Nat.reduceBEq,ty,tkB,tkL,tkE,rd,h,if_true]
   · have e1 : List.take (bs.length - n.toNat) (List.drop n.toNat bs) = bs.drop n.toNat := List.take_of_length_le (by simp)
     refine ⟨⟨by omega,by omega,by omega⟩,⟨by omega,by omega⟩,_,Weak.refl _,?_⟩
     simp only [go_sem,coe,zab,Nat.reduceAdd,Nat.reduceSub,Nat.reduceMul,Int.reduceToNat,reduceCtorEq,↓reduceIte,Int.reducePow,Nat.reducePow,Int.reduceMod,Nat.reduceLeDiff,Int.reduceLE,Int.reduceNe,Int.reduceEq,Nat.reduceEqDiff,Nat.reduceLT,Nat.reduceBEq,ty,tkB,tkL,tkE,rd,h,if_false,e1,Nat.sub_zero,decide_true]
 · exact hp.elim
def leftS : zat
 | [.rf 0 2 0 0],[.g 2 [.agg [.sb bs f,.w (.int k e)]]] => ⟨k = .i64,.w (.int .i64 bs.length),[rd bs f e]⟩
 | [.w (.pointer none)],[] => ⟨True,.w (.int .i64 0),[]⟩
 | _,_ => zcs
theorem left_sound : zbb Try.prog 74 leftS := by
 refine zaw (S := noS) (T := ty) zbs ty_ok zdn Try.func74 (c := Try.f74.body.getD .skip) (by kernel_rfl) (by kernel_rfl) (fun xs pins hp _ => ?_)
 unfold leftS at hp ⊢
 split at hp
 · obtain rfl := hp
   refine ⟨by simp,?_⟩
   unfold Try.f74
   simp only [go_sem,coe,zab,Nat.reduceAdd,Nat.reduceSub,Nat.reduceMul,Int.reduceToNat,reduceCtorEq,↓reduceIte,Int.reducePow,Nat.reducePow,Int.reduceMod,Nat.reduceLeDiff,Int.reduceLE,Int.reduceNe,Int.reduceEq,Nat.reduceEqDiff,Nat.reduceLT,Nat.reduceBEq,ty,noS,rd]
 · refine ⟨by simp,?_⟩
   unfold Try.f74
   simp only [go_sem,coe,zab,Nat.reduceAdd,Nat.reduceSub,Nat.reduceMul,Int.reduceToNat,reduceCtorEq,↓reduceIte,Int.reducePow,Nat.reducePow,Int.reduceMod,Nat.reduceLeDiff,Int.reduceLE,Int.reduceNe,Int.reduceEq,Nat.reduceEqDiff,Nat.reduceLT,Nat.reduceBEq,ty,noS,rd]
 · exact hp.elim
def errS : zat
 | [.rf 0 2 0 0],[.g 2 [.agg [.sb bs f,.w (.int k e)]]] => ⟨k = .i64,.w (.int .i64 e),[rd bs f e]⟩
 | [.w (.pointer none)],[] => ⟨True,.w (.int .i64 1),[]⟩
 | _,_ => zcs
theorem err_sound : zbb Try.prog 73 errS := by
 refine zaw (S := noS) (T := ty) zbs ty_ok zdn Try.func73 (c := Try.f73.body.getD .skip) (by kernel_rfl) (by kernel_rfl) (fun xs pins hp _ => ?_)
 unfold errS at hp ⊢
 split at hp
 · obtain rfl := hp
   refine ⟨by simp,?_⟩
   unfold Try.f73
   simp only [go_sem,coe,zab,Nat.reduceAdd,Nat.reduceSub,Nat.reduceMul,Int.reduceToNat,reduceCtorEq,↓reduceIte,Int.reducePow,Nat.reducePow,Int.reduceMod,Nat.reduceLeDiff,Int.reduceLE,Int.reduceNe,Int.reduceEq,Nat.reduceEqDiff,Nat.reduceLT,Nat.reduceBEq,ty,noS,rd]
 · refine ⟨by simp,?_⟩
   unfold Try.f73
   simp only [go_sem,coe,zab,Nat.reduceAdd,Nat.reduceSub,Nat.reduceMul,Int.reduceToNat,reduceCtorEq,↓reduceIte,Int.reducePow,Nat.reducePow,Int.reduceMod,Nat.reduceLeDiff,Int.reduceLE,Int.reduceNe,Int.reduceEq,Nat.reduceEqDiff,Nat.reduceLT,Nat.reduceBEq,ty,noS,rd]
 · exact hp.elim
def newS : zat
 | [.sb bs f],[] => ⟨bs.length ≤ 1000000,.rf 0 2 0 0,[rd bs false 0]⟩
 | _,_ => zcs
theorem new_sound : zbb Try.prog 34 newS := by
 refine zeo (S := noS) (T := ty) zbs ty_ok zdn Try.func34 (c := Try.f34.body.getD .skip) (by kernel_rfl) (by kernel_rfl) (fun xs pins hp _ => ?_)
 unfold newS at hp ⊢
 split at hp
 · rename_i bs f _
   have hp : bs.length ≤ 1000000 := hp
   refine ⟨by simp,?_⟩
   unfold Try.f34
   simp only [go_sem,coe,zab,Nat.reduceAdd,Nat.reduceSub,Nat.reduceMul,Int.reduceToNat,reduceCtorEq,↓reduceIte,Int.reducePow,Nat.reducePow,Int.reduceMod,Nat.reduceLeDiff,Int.reduceLE,Int.reduceNe,Int.reduceEq,Nat.reduceEqDiff,Nat.reduceLT,Nat.reduceBEq,ty,noS,rd]
   refine ⟨by unfold top; omega,_,weak_fz 20 4 bs rfl (by simp [slot,AV.ids]),?_⟩
   simp only [fzL,fzH,AV.fz,Blk.fz,go_sem,coe,zab,Nat.reduceAdd,Nat.reduceSub,Nat.reduceMul,Int.reduceToNat,reduceCtorEq,↓reduceIte,Int.reducePow,Nat.reducePow,Int.reduceMod,Nat.reduceLeDiff,Int.reduceLE,Int.reduceNe,Int.reduceEq,Nat.reduceEqDiff,Nat.reduceLT,Nat.reduceBEq,ty,rd,decide_true,List.take_length]
 · exact hp.elim
def numN (bs : List UInt8) (e : Int) : Int := if e = 0 then (getL bs).1 else 0
def numL (bs : List UInt8) (e : Int) : List UInt8 := if e = 0 then bs.drop (getL bs).2.1 else bs
def numE (bs : List UInt8) (e : Int) : Int := if e = 0 then (getL bs).2.2 else e
theorem getF_ok (bs : List UInt8) : ∀ (r i : Nat) (u : Int),i + r ≤ bs.length → (getF bs r i u).2.1 ≤ bs.length ∧ ((getF bs r i u).2.2 ≠ 0 → (getF bs r i u).1 = 0 ∧ (getF bs r i u).2.1 = 0)
 | 0,i,u,h => by unfold getF; split <;> simp
 | r + 1,i,u,h => by
   unfold getF
   split
   · exact getF_ok bs r (i + 1) _ (by omega)
   · split
     · simp
     · simp; omega
theorem getL_ok (bs : List UInt8) : (getL bs).2.1 ≤ bs.length ∧ ((getL bs).2.2 ≠ 0 → (getL bs).1 = 0 ∧ (getL bs).2.1 = 0) := getF_ok bs _ 0 0 (by omega)
def numS : zat
 | [.rf 0 2 0 0],[.g 2 [.agg [.sb bs f,.w (.int k e)]]] => ⟨k = .i64 ∧ bs.length ≤ 1000000,.w (.int .i64 (numN bs e)),[rd (numL bs e) f (numE bs e)]⟩
 | [.w (.pointer none)],[] => ⟨True,.w (.int .i64 0),[]⟩
 | _,_ => zcs
def S28 (f : FuncId) : Option zat :=
 match f with
 | 71 => some getS
 | _ => none
theorem S28_ok : Fns Try.prog S28 := by
 intro f s h
 unfold S28 at h
 split at h
 · injection h with h; subst h; exact ⟨⟨_,Try.func71,by kernel_rfl,by kernel_rfl⟩,get_sound⟩
 · cases h
theorem num_sound : zbb Try.prog 35 numS := by
 refine zaw (S := S28) (T := ty) zbs ty_ok S28_ok Try.func35 (c := Try.f35.body.getD .skip) (by kernel_rfl) (by kernel_rfl) (fun xs pins hp _ => ?_)
 unfold numS at hp ⊢
 split at hp
 · rename_i bs f k e _
   obtain ⟨rfl,hlen⟩ := hp
   refine ⟨by simp,?_⟩
   obtain ⟨hg1,hg2⟩ := getL_ok bs
   have e1 : List.take (bs.length - (getL bs).2.1) (List.drop (getL bs).2.1 bs) = bs.drop (getL bs).2.1 := List.take_of_length_le (by simp)
   unfold Try.f35
   simp only [go_sem,coe,zab,Nat.reduceAdd,Nat.reduceSub,Nat.reduceMul,Int.reduceToNat,reduceCtorEq,↓reduceIte,Int.reducePow,Nat.reducePow,Int.reduceMod,Nat.reduceLeDiff,Int.reduceLE,Int.reduceNe,Int.reduceEq,Nat.reduceEqDiff,Nat.reduceLT,Nat.reduceBEq,ty,S28,getS,decide_eq_true_eq,decide_eq_false_iff_not,rd,e1,hlen]
   by_cases he : e = 0
   · by_cases hr : (getL bs).2.2 = 0
     · simp [numL,numE,numN,he,hr,zfm,AV.noimm,hg1]
     · obtain ⟨h3,h4⟩ := hg2 hr
       simp [numL,numE,numN,he,hr,h3,h4,zfm,AV.noimm]
   · simp [numL,numE,numN,he]
 · refine ⟨by simp,?_⟩
   unfold Try.f35
   simp only [go_sem,coe,zab,Nat.reduceAdd,Nat.reduceSub,Nat.reduceMul,Int.reduceToNat,reduceCtorEq,↓reduceIte,Int.reducePow,Nat.reducePow,Int.reduceMod,Nat.reduceLeDiff,Int.reduceLE,Int.reduceNe,Int.reduceEq,Nat.reduceEqDiff,Nat.reduceLT,Nat.reduceBEq,ty,S28,getS,rd]
 · exact hp.elim
def doneS : zat
 | [.rf 0 2 0 0],[.g 2 [.agg [.sb bs f,.w (.int k e)]]] => ⟨k = .i64,.w (.int .i64 (if e = 0 ∧ 0 < bs.length then 4 else e)),[rd bs f e]⟩
 | [.w (.pointer none)],[] => ⟨True,.w (.int .i64 1),[]⟩
 | _,_ => zcs
def S35 (f : FuncId) : Option zat :=
 match f with
 | 74 => some leftS
 | 73 => some errS
 | _ => none
theorem S35_ok : Fns Try.prog S35 := by
 intro f s h
 unfold S35 at h
 split at h
 · injection h with h; subst h; exact ⟨⟨_,Try.func74,by kernel_rfl,by kernel_rfl⟩,left_sound⟩
 · injection h with h; subst h; exact ⟨⟨_,Try.func73,by kernel_rfl,by kernel_rfl⟩,err_sound⟩
 · cases h
theorem done_sound : zbb Try.prog 38 doneS := by
 refine zaw (S := S35) (T := ty) zbs ty_ok S35_ok Try.func38 (c := Try.f38.body.getD .skip) (by kernel_rfl) (by kernel_rfl) (fun xs pins hp _ => ?_)
 unfold doneS at hp ⊢
 split at hp
 · rename_i bs f k e _
   obtain rfl := hp
   refine ⟨by simp,?_⟩
   unfold Try.f38
   simp only [go_sem,coe,zab,Nat.reduceAdd,Nat.reduceSub,Nat.reduceMul,Int.reduceToNat,reduceCtorEq,↓reduceIte,Int.reducePow,Nat.reducePow,Int.reduceMod,Nat.reduceLeDiff,Int.reduceLE,Int.reduceNe,Int.reduceEq,Nat.reduceEqDiff,Nat.reduceLT,Nat.reduceBEq,ty,S35,leftS,errS,decide_eq_true_eq,decide_eq_false_iff_not,rd]
   by_cases he : e = 0
   · subst he
     by_cases hb : 0 < bs.length
     · simp [hb]
       all_goals (first | omega | (intro h; rw [h] at hb; simp at hb))
     · have : bs = [] := List.eq_nil_of_length_eq_zero (by omega)
       simp [this]
   · simp [he]
 · refine ⟨by simp,?_⟩
   unfold Try.f38
   simp only [go_sem,coe,zab,Nat.reduceAdd,Nat.reduceSub,Nat.reduceMul,Int.reduceToNat,reduceCtorEq,↓reduceIte,Int.reducePow,Nat.reducePow,Int.reduceMod,Nat.reduceLeDiff,Int.reduceLE,Int.reduceNe,Int.reduceEq,Nat.reduceEqDiff,Nat.reduceLT,Nat.reduceBEq,ty,S35,leftS,errS,rd,Int.reduceEq,decide_false]
 · exact hp.elim
def rtOk (m : Int) (bs : List UInt8) (e : Int) : Prop := numE bs e = 0 ∧ 0 ≤ numN bs e ∧ numN bs e ≤ max m 0
instance (m : Int) (bs : List UInt8) (e : Int) : Decidable (rtOk m bs e) := by unfold rtOk; infer_instance
def rtS' (m : Int) (bs : List UInt8) (e : Int) : List UInt8 := if rtOk m bs e then tkB (numN bs e) (numL bs e) else []
def rtL (m : Int) (bs : List UInt8) (e : Int) : List UInt8 := if rtOk m bs e then tkL (numN bs e) (numL bs e) else numL bs e
def rtE (m : Int) (bs : List UInt8) (e : Int) : Int := if numE bs e ≠ 0 then numE bs e else if rtOk m bs e then tkE (numN bs e) (numL bs e) 0 else 5
def rtextS' : zat
 | [.rf 0 2 0 0,.w (.int k' m)],[.g 2 [.agg [.sb bs f,.w (.int k e)]]] => ⟨k = .i64 ∧ k' = .i64 ∧ bs.length ≤ 1000000,.str (rtS' m bs e),[rd (rtL m bs e) f (rtE m bs e)]⟩
 | [.w (.pointer none),.w (.int k' m)],[] => ⟨k' = .i64,.str [],[]⟩
 | _,_ => zcs
def S32 (f : FuncId) : Option zat :=
 match f with
 | 35 => some numS
 | 72 => some takeS
 | _ => none
theorem S32_ok : Fns Try.prog S32 := by
 intro f s h
 unfold S32 at h
 split at h
 · injection h with h; subst h; exact ⟨⟨_,Try.func35,by kernel_rfl,by kernel_rfl⟩,num_sound⟩
 · injection h with h; subst h; exact ⟨⟨_,Try.func72,by kernel_rfl,by kernel_rfl⟩,take_sound⟩
 · cases h
theorem mtext_sound : zbb Try.prog 37 rtextS' := by
 refine zaw (S := S32) (T := ty) zbs ty_ok S32_ok Try.func37 (c := Try.f37.body.getD .skip) (by kernel_rfl) (by kernel_rfl) (fun xs pins hp _ => ?_)
 unfold rtextS' at hp ⊢
 split at hp
 · rename_i k' m bs f k e _
   obtain ⟨rfl,rfl,hlen⟩ := hp
   refine ⟨by simp,?_⟩
   unfold Try.f37
   simp only [go_sem,coe,zab,Nat.reduceAdd,Nat.reduceSub,Nat.reduceMul,Int.reduceToNat,reduceCtorEq,↓reduceIte,Int.reducePow,Nat.reducePow,Int.reduceMod,Nat.reduceLeDiff,Int.reduceLE,Int.reduceNe,Int.reduceEq,Nat.reduceEqDiff,Nat.reduceLT,Nat.reduceBEq,ty,S32,numS,takeS,decide_eq_true_eq,decide_eq_false_iff_not,rd,hlen]
   have hmax : (if (0 : Int) > m then (0 : Int) else m) = max m 0 := by split <;> omega
   rw [hmax]
   by_cases hn : numE bs e = 0
   · by_cases hok : 0 ≤ numN bs e ∧ numN bs e ≤ max m 0
     · have hr : rtOk m bs e := ⟨hn,hok⟩
       have h1 : ¬ numN bs e < 0 := by omega
       have h2 : ¬ max m 0 < numN bs e := by omega
       simp only [rtL,rtE,rtS',hr,hn,h1,h2,if_true,decide_true,Bool.not_true,Bool.false_eq_true,Bool.or_false,false_implies,true_implies,not_false_eq_true,not_true_eq_false,true_and,and_true,ne_eq,if_false,hok.1]
     · have hr : ¬ rtOk m bs e := fun h => hok h.2
       simp only [rtL,rtE,rtS',hr,hn,if_false,decide_true,Bool.not_true,Bool.false_eq_true,Bool.or_false,false_implies,true_implies,ne_eq,not_true_eq_false,true_and,and_true,implies_true]
       intro h1 h2
       exact (hok ⟨by omega,by omega⟩).elim
   · have hr : ¬ rtOk m bs e := fun h => hn h.1
     simp [rtL,rtE,rtS',hr,hn]
 · obtain rfl := hp
   refine ⟨by simp,?_⟩
   unfold Try.f37
   simp only [go_sem,coe,zab,Nat.reduceAdd,Nat.reduceSub,Nat.reduceMul,Int.reduceToNat,reduceCtorEq,↓reduceIte,Int.reducePow,Nat.reducePow,Int.reduceMod,Nat.reduceLeDiff,Int.reduceLE,Int.reduceNe,Int.reduceEq,Nat.reduceEqDiff,Nat.reduceLT,Nat.reduceBEq,ty,S32,numS,takeS,rd]
 · exact hp.elim
end
end Go.Proofs.Ythjceeimbohajaa
namespace Go.Proofs.Ythjceeimbohajaa
open Ax
def valU : List UInt8 → Nat
 | [] => 0
 | c :: r => c.toNat % 128 + 128 * valU r
theorem val_put (u : Nat) : valU (putU u) = u := by
 induction u using Nat.strongRecOn with
 | ind u ih =>
   by_cases h : u < 128
   · rw [zcx h]
     simp only [valU,UInt8.toNat_ofNat']
     omega
   · rw [putU_big h]
     simp only [valU,UInt8.toNat_ofNat',ih (u / 128) (by omega)]
     omega
theorem val_pos : ∀ (p : List UInt8) (c : UInt8),0 < c.toNat → c.toNat < 128 → 0 < valU (p ++ [c])
 | [],c,h,h' => by simp only [List.nil_append,valU]; omega
 | d :: p,c,h,h' => by
   have := val_pos p c h h'
   simp only [List.cons_append,valU]; omega
theorem put_val : ∀ (p : List UInt8) (c : UInt8),(∀ d ∈ p,128 ≤ d.toNat) → c.toNat < 128 → (p = [] ∨ 0 < c.toNat) → putU (valU (p ++ [c])) = p ++ [c]
 | [],c,_,hc,_ => by
   have e : valU ([] ++ [c]) = c.toNat := by simp only [List.nil_append,valU]; omega
   rw [e,zcx hc]
   simp
 | d :: p,c,hp,hc,h => by
   have h0 : 0 < c.toNat := by
       rcases h with h | h; · cases h
       · exact h
   have hv := val_pos p c h0 hc
   have ih := put_val p c (fun x hx => hp x (by simp [hx])) hc (.inr h0)
   have hd := hp d (by simp)
   have hd2 := d.toNat_lt
   have e : valU (d :: p ++ [c]) = d.toNat % 128 + 128 * valU (p ++ [c]) := rfl
   rw [e,putU_big (by omega),show (d.toNat % 128 + 128 * valU (p ++ [c])) / 128 = valU (p ++ [c]) by omega,ih,
     show (d.toNat % 128 + 128 * valU (p ++ [c])) % 128 + 128 = d.toNat by omega]
   simp
theorem put_shape (u : Nat) : ∃ p c,putU u = p ++ [c] ∧ (∀ d ∈ p,128 ≤ d.toNat) ∧ c.toNat < 128 ∧ (p = [] ∨ 0 < c.toNat) := by
 induction u using Nat.strongRecOn with
 | ind u ih =>
   by_cases h : u < 128
   · exact ⟨[],UInt8.ofNat u,by rw [zcx h]; rfl,by simp,by rw [UInt8.toNat_ofNat']; omega,.inl rfl⟩
   · obtain ⟨p,c,h1,h2,h3,h4⟩ := ih (u / 128) (by omega)
     refine ⟨UInt8.ofNat (u % 128 + 128) :: p,c,by rw [putU_big h,h1]; rfl,?_,h3,?_⟩
     · intro d hd
       rcases List.mem_cons.1 hd with rfl | hd
       · rw [UInt8.toNat_ofNat']; omega
       · exact h2 d hd
     · right
       rcases h4 with rfl | h4
       · have e := val_put (u / 128)
         rw [h1] at e
         simp only [List.nil_append,valU] at e
         omega
       · exact h4
theorem val_lt : ∀ (p : List UInt8) (c : UInt8),c.toNat < 128 → valU (p ++ [c]) < (c.toNat + 1) * 128 ^ p.length
 | [],c,h => by simp only [List.nil_append,valU,List.length_nil,Nat.pow_zero]; omega
 | d :: p,c,h => by
   have := val_lt p c h
   simp only [List.cons_append,valU,List.length_cons,Nat.pow_succ]
   rw [← Nat.mul_assoc]
   omega
theorem val_ge : ∀ (p : List UInt8) (c : UInt8),c.toNat < 128 → c.toNat * 128 ^ p.length ≤ valU (p ++ [c])
 | [],c,h => by simp only [List.nil_append,valU,List.length_nil,Nat.pow_zero]; omega
 | d :: p,c,h => by
   have := val_ge p c h
   simp only [List.cons_append,valU,List.length_cons,Nat.pow_succ]
   rw [← Nat.mul_assoc]
   omega
theorem canon (p : List UInt8) (c : UInt8) (hp : ∀ d ∈ p,128 ≤ d.toNat) (hc : c.toNat < 128) (h9 : p.length ≤ 9) :
   putU (valU (p ++ [c]) % 18446744073709551616) = p ++ [c] ↔ ¬ ((0 < p.length ∧ c.toNat = 0) ∨ (p.length = 9 ∧ 1 < c.toNat)) := by
 have hlt := val_lt p c hc
 have hge := val_ge p c hc
 have h7 : (128 : Nat) ^ p.length ≤ 128 ^ 9 := Nat.pow_le_pow_right (by decide) h9
 have h7' : (128 : Nat) ^ 9 = 9223372036854775808 := by simp
 constructor
 · intro h
   have hv := val_put (valU (p ++ [c]) % 18446744073709551616)
   rw [h] at hv
   rintro (⟨h1,h2⟩ | ⟨h1,h2⟩)
   · obtain ⟨q,d,e1,e2,e3,e4⟩ := put_shape (valU (p ++ [c]) % 18446744073709551616)
     rw [h] at e1
     have hq := List.append_inj' e1 rfl
     have hd : c = d := by simpa using hq.2
     rw [← hq.1,← hd] at e4
     rcases e4 with e4 | e4
     · rw [e4] at h1; simp at h1
     · omega
   · rw [h1,h7'] at hge
     omega
 · intro h
   have hsmall : valU (p ++ [c]) < 18446744073709551616 := by
     by_cases hl : p.length = 9
     · rw [hl,h7'] at hlt
       have : c.toNat ≤ 1 := by omega
       have : (c.toNat + 1) * 9223372036854775808 ≤ 2 * 9223372036854775808 := Nat.mul_le_mul_right _ (by omega)
       omega
     · have h8 : (128 : Nat) ^ p.length ≤ 128 ^ 8 := Nat.pow_le_pow_right (by decide) (by omega)
       have h8' : (128 : Nat) ^ 8 = 72057594037927936 := by simp
       have : (c.toNat + 1) * 128 ^ p.length ≤ 128 * 72057594037927936 := Nat.mul_le_mul (by omega) (by omega)
       omega
   rw [Nat.mod_eq_of_lt hsmall]
   refine put_val p c hp hc ?_
   rcases p with _ | ⟨d,p⟩
   · exact .inl rfl
   · right
     simp only [List.length_cons] at h
     omega
def getM : Nat → Nat → List UInt8 → Int × Nat × Int
 | i,_,[] => if i < 10 then (0,0,3) else (0,0,4)
 | i,u,c :: r =>
   if i = 10 then (0,0,4)
   else if 128 ≤ c.toNat then getM (i + 1) (u + c.toNat % 128 * 128 ^ i) r
   else if (0 < i ∧ c.toNat = 0) ∨ (i = 9 ∧ 1 < c.toNat) then (0,0,4)
   else (zg ((u + c.toNat * 128 ^ i : Nat) : Int),i + 1,0)
theorem andNot128 : ∀ x : Fin 256,(bits .andNot .u8 ((x.val : Nat) : Int) 128) = ((x.val % 128 : Nat) : Int) := by decide +kernel
theorem getF_M (bs : List UInt8) : ∀ (r i : Nat) (u : Nat),i + r = min bs.length 10 → u < 128 ^ i → getF bs r i u = getM i u (bs.drop i)
 | 0,i,u,h,hu => by
   by_cases hl : bs.length < 10
   · rw [List.drop_of_length_le (by omega)]
     simp only [getF,getM,hl,if_true,show i < 10 by omega]
   · have hi : i = 10 := by omega
     subst hi
     simp only [getF,hl,if_false]
     cases bs.drop 10 with
     | nil => simp [getM]
     | cons c q => simp [getM]
 | r + 1,i,u,h,hu => by
   have hil : i < bs.length := by omega
   have hi9 : i ≤ 9 := by omega
   rw [List.drop_eq_getElem_cons hil]
   have eg : bs.getD i 0 = bs[i] := by simp [hil]
   have hc := bs[i].toNat_lt
   have ea := andNot128 ⟨bs[i].toNat,by simpa using hc⟩
   simp only at ea
   have hP : (2 : Nat) ^ (7 * i) = 128 ^ i := by rw [Nat.pow_mul]
   have hle : (128 : Nat) ^ i ≤ 128 ^ 9 := Nat.pow_le_pow_right (by decide) hi9
   have h9' : (128 : Nat) ^ 9 = 9223372036854775808 := by simp
   have hm128 : bs[i].toNat % 128 < 128 := Nat.mod_lt _ (by decide)
   simp only [getF,getM,eg,ea,if_neg (show ¬ i = 10 by omega)]
   have hcast : ((bs[i].toNat % 128 : Nat) : Int) % 18446744073709551616 * 2 ^ (7 * i) % 18446744073709551616 = ((bs[i].toNat % 128 * 128 ^ i % 18446744073709551616 : Nat) : Int) := by
     have e0 : ((bs[i].toNat % 128 : Nat) : Int) % 18446744073709551616 = ((bs[i].toNat % 128 : Nat) : Int) := by omega
     have : (2 : Int) ^ (7 * i) = ((128 ^ i : Nat) : Int) := by rw [← hP]; simp
     rw [e0,this,← Int.natCast_mul]
     generalize bs[i].toNat % 128 * 128 ^ i = x
     omega
   rw [hcast]
   by_cases hin : i ≤ 8 ∨ bs[i].toNat % 128 ≤ 1
   · have hmod : bs[i].toNat % 128 * 128 ^ i < 18446744073709551616 := by
       rcases hin with hin | hin
       · have h8 : (128 : Nat) ^ i ≤ 128 ^ 8 := Nat.pow_le_pow_right (by decide) hin
         have h8' : (128 : Nat) ^ 8 = 72057594037927936 := by simp
         have : bs[i].toNat % 128 * 128 ^ i ≤ 127 * 72057594037927936 := Nat.mul_le_mul (by omega) (by omega)
         omega
       · have : bs[i].toNat % 128 * 128 ^ i ≤ 1 * 9223372036854775808 := Nat.mul_le_mul hin (by omega)
         omega
     rw [Nat.mod_eq_of_lt hmod]
     have eor : bits .or .u64 (u : Int) ((bs[i].toNat % 128 * 128 ^ i : Nat) : Int) = ((u + bs[i].toNat % 128 * 128 ^ i : Nat) : Int) := by
       rw [u64_or _ _ (by omega) (by omega) (by omega) (by omega),Int.toNat_natCast,Int.toNat_natCast]
       have := nat_join (7 * i) (bs[i].toNat % 128 * 128 ^ i) u (by rw [hP]; exact Nat.mul_mod_left _ _) (by rw [hP]; exact hu)
       rw [Nat.or_comm,this]
       omega
     rw [eor]
     by_cases hge : 128 ≤ bs[i].toNat
     · rw [if_pos hge,if_pos hge]
       refine getF_M bs r (i + 1) _ (by omega) ?_
       rw [Nat.pow_succ]
       have : bs[i].toNat % 128 * 128 ^ i ≤ 127 * 128 ^ i := Nat.mul_le_mul_right _ (by omega)
       omega
     · rw [if_neg hge,if_neg hge,Nat.mod_eq_of_lt (show bs[i].toNat < 128 by omega)]
   · have hi : i = 9 := by omega
     have hr : r = 0 := by omega
     have hll : ¬ bs.length < 10 := by omega
     subst hr
     by_cases hge : 128 ≤ bs[i].toNat
     · rw [if_pos hge,if_pos hge]
       simp only [getF,hll,if_false,hi]
       cases bs.drop (9 + 1) with
       | nil => simp [getM]
       | cons c q => simp [getM]
     · rw [if_neg hge,if_neg hge]
       have : (0 < i ∧ bs[i].toNat = 0) ∨ (i = 9 ∧ 1 < bs[i].toNat) := .inr ⟨hi,by omega⟩
       rw [if_pos this,if_pos this]
theorem getL_M (bs : List UInt8) : getL bs = getM 0 0 bs := by
 unfold getL
 have := getF_M bs (min bs.length 10) 0 0 (by omega) (by simp)
 simpa using this
theorem getM_end : ∀ (p : List UInt8) (i u : Nat) (c : UInt8) (q : List UInt8),(∀ d ∈ p,128 ≤ d.toNat) → c.toNat < 128 → i + p.length ≤ 9 →
   getM i u (p ++ c :: q) = if (0 < i + p.length ∧ c.toNat = 0) ∨ (i + p.length = 9 ∧ 1 < c.toNat) then (0,0,4) else (zg ((u + valU (p ++ [c]) * 128 ^ i : Nat) : Int),i + p.length + 1,0)
 | [],i,u,c,q,hp,hc,h => by
   have h' : ¬ i = 10 := by simp at h; omega
   have e : valU ([] ++ [c]) = c.toNat := by simp only [List.nil_append,valU]; omega
   simp only [List.nil_append,getM,if_neg h',if_neg (show ¬ 128 ≤ c.toNat by omega),List.length_nil,Nat.add_zero]
   rw [List.nil_append] at e
   rw [e]
 | d :: p,i,u,c,q,hp,hc,h => by
   have hd := hp d (by simp)
   simp only [List.length_cons] at h
   simp only [List.cons_append,getM,if_neg (show ¬ i = 10 by omega),if_pos hd]
   rw [getM_end p (i + 1) _ c q (fun x hx => hp x (by simp [hx])) hc (by omega)]
   have e : i + 1 + p.length = i + (d :: p).length := by simp; omega
   rw [e]
   have e2 : u + d.toNat % 128 * 128 ^ i + valU (p ++ [c]) * 128 ^ (i + 1) = u + valU (d :: (p ++ [c])) * 128 ^ i := by
     simp only [valU,Nat.pow_succ,Nat.add_mul]
     rw [Nat.mul_comm (128 ^ i) 128,← Nat.mul_assoc,Nat.mul_comm (valU (p ++ [c])) 128]
     omega
   rw [e2]
theorem getM_open : ∀ (p : List UInt8) (i u : Nat),(∀ d ∈ p,128 ≤ d.toNat) → i ≤ 10 → getM i u p = if i + p.length < 10 then (0,0,3) else (0,0,4)
 | [],i,u,hp,h => by simp [getM]
 | d :: p,i,u,hp,h => by
   have hd := hp d (by simp)
   simp only [getM]
   by_cases h10 : i = 10
   · rw [if_pos h10,if_neg (by simp; omega)]
   · rw [if_neg h10,if_pos hd,getM_open p (i + 1) _ (fun x hx => hp x (by simp [hx])) (by omega)]
     have e : i + 1 + p.length = i + (d :: p).length := by simp; omega
     rw [e]
theorem getM_ten : ∀ (p : List UInt8) (i u : Nat) (q : List UInt8),(∀ d ∈ p,128 ≤ d.toNat) → i + p.length = 10 → getM i u (p ++ q) = (0,0,4)
 | [],i,u,q,hp,h => by
   have : i = 10 := by simpa using h
   subst this
   cases q <;> simp [getM]
 | d :: p,i,u,q,hp,h => by
   have hd := hp d (by simp)
   simp only [List.length_cons] at h
   simp only [List.cons_append,getM,if_neg (show ¬ i = 10 by omega),if_pos hd]
   exact getM_ten p (i + 1) _ q (fun x hx => hp x (by simp [hx])) (by omega)
theorem getL_put (u : Nat) (hu : u < 18446744073709551616) (q : List UInt8) : getL (putU u ++ q) = (zg (u : Int),(putU u).length,0) := by
 obtain ⟨p,c,e1,e2,e3,e4⟩ := put_shape u
 have hl := zcc u hu
 have hv := val_put u
 have hs := e1
 rw [e1] at hl hv ⊢
 simp only [List.length_append,List.length_cons,List.length_nil] at hl
 rw [getL_M,List.append_assoc,List.singleton_append,getM_end p 0 0 c q e2 e3 (by omega)]
 have hc := (canon p c e2 e3 (by omega)).1 (by rw [hv,Nat.mod_eq_of_lt hu]; exact hs)
 simp only [Nat.zero_add] at hc ⊢
 rw [if_neg hc,hv]
 simp
theorem zg_zz (n : Int) : zg (zz n) = n := by
 unfold zg zz
 repeat' split
 all_goals omega
end Go.Proofs.Ythjceeimbohajaa
namespace Go.Proofs.Ythjceeimbohajaa
open Ax
def S23 (f : FuncId) : Option zat :=
 match f with
 | 96 => some zgS
 | 69 => some bytesS
 | _ => none
theorem S23_ok : Fns Try.prog S23 := by
 intro f s h
 unfold S23 at h
 split at h
 · injection h with h; subst h; exact ⟨⟨_,Try.func96,by kernel_rfl,by kernel_rfl⟩,rzag_sound⟩
 · injection h with h; subst h; exact ⟨⟨_,Try.func69,by kernel_rfl,by kernel_rfl⟩,bytes_sound⟩
 · cases h
theorem getL_ten (bs : List UInt8) (hall : ∀ d ∈ bs.take 10,128 ≤ d.toNat) (hl : 10 ≤ bs.length) : getL bs = (0,0,4) := by
 have e : bs = bs.take 10 ++ bs.drop 10 := (List.take_append_drop 10 bs).symm
 rw [getL_M,e]
 exact getM_ten _ 0 0 _ hall (by simp; omega)
theorem getL_open (bs : List UInt8) (hall : ∀ d ∈ bs,128 ≤ d.toNat) (hl : bs.length < 10) : getL bs = (0,0,3) := by
 rw [getL_M,getM_open bs 0 0 hall (by omega),if_pos (by omega)]
theorem getL_end (bs : List UInt8) (i : Nat) (hi : i < bs.length) (h9 : i ≤ 9) (hall : ∀ d ∈ bs.take i,128 ≤ d.toNat) (hc : bs[i].toNat < 128) :
   getL bs = if putU (valU (bs.take (i + 1)) % 18446744073709551616) = bs.take (i + 1) then (zg ((valU (bs.take (i + 1)) % 18446744073709551616 : Nat) : Int),i + 1,0) else (0,0,4) := by
 have e : bs = bs.take i ++ bs[i] :: bs.drop (i + 1) := by
   rw [← List.drop_eq_getElem_cons hi,List.take_append_drop]
 have e2 : bs.take (i + 1) = bs.take i ++ [bs[i]] := by rw [List.take_succ_eq_append_getElem hi]
 have hlen : (bs.take i).length = i := by simp; omega
 have h1 := getM_end (bs.take i) 0 0 bs[i] (bs.drop (i + 1)) hall hc (by omega)
 have hcan := canon (bs.take i) bs[i] hall hc (by omega)
 rw [← e] at h1
 rw [getL_M,h1,e2]
 simp only [Nat.zero_add,hlen,Nat.pow_zero,Nat.mul_one] at hcan ⊢
 by_cases hbad : (0 < i ∧ bs[i].toNat = 0) ∨ (i = 9 ∧ 1 < bs[i].toNat)
 · rw [if_pos hbad,if_neg (fun h => (hcan.1 h) hbad)]
 · have hput := hcan.2 hbad
   rw [if_neg hbad,if_pos hput]
   have hv := val_put (valU (bs.take i ++ [bs[i]]) % 18446744073709551616)
   rw [hput] at hv
   rw [← hv]
theorem valU_step (bs : List UInt8) (n k : Nat) (hk : k < n) (hn : n ≤ bs.length) : valU ((bs.take n).drop k) = (bs.getD k 0).toNat % 128 + 128 * valU ((bs.take n).drop (k + 1)) := by
 have hkl : k < (bs.take n).length := by simp; omega
 rw [List.drop_eq_getElem_cons hkl]
 have : (bs.take n)[k] = bs.getD k 0 := by
   simp [show k < bs.length by omega]
 rw [this]; rfl
theorem tmod_cast (a b : Nat) : (a : Int).tmod b = ((a % b : Nat) : Int) := by
 rw [Int.tmod_eq_emod_of_nonneg (by omega)]; simp
section
set_option maxRecDepth 100000
theorem rget_sound : zbb Try.prog 75 getS := by
 refine zaw (S := S23) (T := ty) zbs ty_ok S23_ok Try.func75 (c := Try.f75.body.getD .skip) (by kernel_rfl) (by kernel_rfl) (fun xs pins hp _ => ?_)
 unfold getS at hp ⊢
 split at hp
 · rename_i bs f _
   have hp : bs.length ≤ 1000000 := hp
   refine ⟨by simp,?_⟩
   obtain ⟨G,hG⟩ : ∃ G,getL bs = G := ⟨_,rfl⟩
   rw [hG]
   unfold Try.f75
   simp only [go_sem,coe,zab,Nat.reduceAdd,Nat.reduceSub,Nat.reduceMul,Int.reduceToNat,reduceCtorEq,↓reduceIte,Int.reducePow,Nat.reducePow,Int.reduceMod,Nat.reduceLeDiff,Int.reduceLE,Int.reduceNe,Int.reduceEq,Nat.reduceEqDiff,Nat.reduceLT,Nat.reduceBEq,ty,S23]
   refine awp_loop ⟨fun m σ => ∃ (i : Nat),m = bs.length - i ∧ i ≤ bs.length ∧ i ≤ 10 ∧ (∀ d ∈ bs.take i,128 ≤ d.toNat) ∧
     σ = ⟨[.sb bs f,.junk,.w (.int .i64 0),.w (.int .i64 0),.w (.int .i64 0),.w (.int .i64 i),.junk,.junk,.junk,.junk,.junk,.junk,.junk,.junk,.junk,.junk,.junk,.junk,.junk,.junk,.junk,.junk,.junk,.junk,.junk,.junk,.junk,.junk,.junk,.junk,.junk,.junk,.junk,.junk,.junk,.junk,.junk,.junk,.junk,.junk,.junk,.junk,.junk,.junk,.junk,.junk,.junk,.junk,.junk,.junk,.junk,.junk,.junk,.junk,.junk,.junk,.junk,.junk,.junk,.junk],[],4⟩,?_,?_⟩
   · refine ⟨_,_,zai [0,1,2,3] rfl rfl rfl ?_ ?_,0,rfl,by omega,by omega,by simp,rfl⟩
     · simp only [ssT,zao,zap,setSlot,gOf,AV.ren,renL,Blk.ren,Ax.look,Ax.put,reduceCtorEq,↓reduceIte,Nat.reduceEqDiff,Nat.reduceLT,Nat.reduceAdd,List.length_append,List.length_cons,List.length_nil,Option.some.injEq]; rfl
     · simp only [ssT,zao,zap,setSlot,gOf,AV.ren,renL,Blk.ren,Ax.look,Ax.put,reduceCtorEq,↓reduceIte,Nat.reduceEqDiff,Nat.reduceLT,Nat.reduceAdd,List.length_append,List.length_cons,List.length_nil,Option.some.injEq]
   · rintro m σ ⟨i,rfl,hi,hi10,hall,rfl⟩
     have e1 : ((i : Int) + 1 + 9223372036854775808) % 18446744073709551616 - 9223372036854775808 = ((i + 1 : Nat) : Int) := by omega
     by_cases h1 : i < bs.length ∧ i < 10 ∧ 128 ≤ (bs.getD i 0).toNat
     · obtain ⟨ha,hb,hc⟩ := h1
       have d1 : decide ((i : Int) < bs.length) = true := decide_eq_true (by omega)
       have d2 : decide ((i : Int) < 10) = true := decide_eq_true (by omega)
       have d3 : decide ((128 : Int) ≤ ((bs.getD i 0).toNat : Int)) = true := decide_eq_true (by omega)
       simp only [go_sem,coe,zab,Nat.reduceAdd,Nat.reduceSub,Nat.reduceMul,Int.reduceToNat,reduceCtorEq,↓reduceIte,Int.reducePow,Nat.reducePow,Int.reduceMod,Nat.reduceLeDiff,Int.reduceLE,Int.reduceNe,Int.reduceEq,Nat.reduceEqDiff,Nat.reduceLT,Nat.reduceBEq,ty,S23,d1,d2,d3,e1]
       refine ⟨⟨by omega,by omega⟩,bs.length - (i + 1),_,by omega,zai [0,1,2,3] rfl rfl rfl ?_ ?_,i + 1,rfl,by omega,by omega,?_,rfl⟩
       · simp only [ssT,zao,zap,setSlot,gOf,AV.ren,renL,Blk.ren,Ax.look,Ax.put,reduceCtorEq,↓reduceIte,Nat.reduceEqDiff,Nat.reduceLT,Nat.reduceAdd,List.length_append,List.length_cons,List.length_nil,Option.some.injEq]
       · simp only [ssT,zao,zap,setSlot,gOf,AV.ren,renL,Blk.ren,Ax.look,Ax.put,reduceCtorEq,↓reduceIte,Nat.reduceEqDiff,Nat.reduceLT,Nat.reduceAdd,List.length_append,List.length_cons,List.length_nil,Option.some.injEq]
       · intro d hd
         rw [List.take_succ_eq_append_getElem ha,List.mem_append] at hd
         rcases hd with hd | hd
         · exact hall d hd
         · have : d = bs[i] := by simpa using hd
           have eg : bs.getD i 0 = bs[i] := by simp [ha]
           rw [this,← eg]; exact hc
     · -- the loop is left
       by_cases h10 : i = 10
       · subst h10
         have hG2 := getL_ten bs hall hi
         rw [hG] at hG2
         subst hG2
         have d2 : decide (((10 : Nat) : Int) < 10) = false := by simp
         have d3 : decide (((10 : Nat) : Int) = 10) = true := by simp
         by_cases hl : 10 < bs.length
         · have d1 : decide (((10 : Nat) : Int) < bs.length) = true := decide_eq_true (by omega)
           simp only [go_sem,coe,zab,Nat.reduceAdd,Nat.reduceSub,Nat.reduceMul,Int.reduceToNat,reduceCtorEq,↓reduceIte,Int.reducePow,Nat.reducePow,Int.reduceMod,Nat.reduceLeDiff,Int.reduceLE,Int.reduceNe,Int.reduceEq,Nat.reduceEqDiff,Nat.reduceLT,Nat.reduceBEq,ty,S23,d1,d2,d3]
           rfl
         · have d1 : decide (((10 : Nat) : Int) < bs.length) = false := decide_eq_false (by omega)
           simp only [go_sem,coe,zab,Nat.reduceAdd,Nat.reduceSub,Nat.reduceMul,Int.reduceToNat,reduceCtorEq,↓reduceIte,Int.reducePow,Nat.reducePow,Int.reduceMod,Nat.reduceLeDiff,Int.reduceLE,Int.reduceNe,Int.reduceEq,Nat.reduceEqDiff,Nat.reduceLT,Nat.reduceBEq,ty,S23,d1,d2,d3]
           rfl
       · have d3 : decide ((i : Int) = 10) = false := decide_eq_false (by omega)
         have d2 : decide ((i : Int) < 10) = true := decide_eq_true (by omega)
         by_cases hl : i = bs.length
         · have d1 : decide ((i : Int) < bs.length) = false := decide_eq_false (by omega)
           have d4 : decide ((i : Int) = bs.length) = true := decide_eq_true (by omega)
           rw [hl,List.take_length] at hall
           have hG2 := getL_open bs hall (by omega)
           rw [hG] at hG2
           subst hG2
           simp only [go_sem,coe,zab,Nat.reduceAdd,Nat.reduceSub,Nat.reduceMul,Int.reduceToNat,reduceCtorEq,↓reduceIte,Int.reducePow,Nat.reducePow,Int.reduceMod,Nat.reduceLeDiff,Int.reduceLE,Int.reduceNe,Int.reduceEq,Nat.reduceEqDiff,Nat.reduceLT,Nat.reduceBEq,ty,S23,d1,d2,d3,d4]
           rfl
         · have hil : i < bs.length := by omega
           have hc : ¬ 128 ≤ (bs.getD i 0).toNat := fun h => h1 ⟨hil,by omega,h⟩
           have eg : bs.getD i 0 = bs[i] := by simp [hil]
           have hG2 := getL_end bs i hil (by omega) hall (by rw [← eg]; omega)
           rw [hG] at hG2
           have d1 : decide ((i : Int) < bs.length) = true := decide_eq_true (by omega)
           have d4 : decide ((i : Int) = bs.length) = false := decide_eq_false (by omega)
           have d5 : decide ((128 : Int) ≤ ((bs.getD i 0).toNat : Int)) = false := decide_eq_false (by omega)
           simp only [go_sem,coe,zab,Nat.reduceAdd,Nat.reduceSub,Nat.reduceMul,Int.reduceToNat,reduceCtorEq,↓reduceIte,Int.reducePow,Nat.reducePow,Int.reduceMod,Nat.reduceLeDiff,Int.reduceLE,Int.reduceNe,Int.reduceEq,Nat.reduceEqDiff,Nat.reduceLT,Nat.reduceBEq,ty,S23,d1,d2,d3,d4,d5]
           refine ⟨⟨by omega,by omega⟩,awp_loop ⟨fun m σ => ∃ (k : Nat),m = k ∧ k ≤ i + 1 ∧
             σ = ⟨[.sb bs f,.junk,.w (.int .i64 0),.w (.int .i64 0),.w (.int .i64 0),.w (.int .i64 i),.w (.int .u64 ((valU ((bs.take (i + 1)).drop k) % 18446744073709551616 : Nat) : Int)),.w (.int .i64 ((k : Int) - 1)),.junk,.junk,.junk,.junk,.junk,.junk,.junk,.junk,.junk,.junk,.junk,.junk,.junk,.junk,.junk,.junk,.junk,.junk,.junk,.junk,.junk,.junk,.junk,.junk,.junk,.junk,.junk,.junk,.junk,.junk,.junk,.junk,.junk,.junk,.junk,.junk,.junk,.junk,.junk,.junk,.junk,.junk,.junk,.junk,.junk,.junk,.junk,.junk,.junk,.junk,.junk,.junk],[],4⟩,?_,?_⟩⟩
           · refine ⟨_,_,zai [0,1,2,3] rfl rfl rfl ?_ ?_,i + 1,rfl,by omega,rfl⟩
             · have : (bs.take (i + 1)).drop (i + 1) = [] := List.drop_of_length_le (by simp; omega)
               simp only [ssT,zao,zap,setSlot,gOf,AV.ren,renL,Blk.ren,Ax.look,Ax.put,reduceCtorEq,↓reduceIte,Nat.reduceEqDiff,Nat.reduceLT,Nat.reduceAdd,List.length_append,List.length_cons,List.length_nil,Option.some.injEq,this,valU]
               simp
             · simp only [ssT,zao,zap,setSlot,gOf,AV.ren,renL,Blk.ren,Ax.look,Ax.put,reduceCtorEq,↓reduceIte,Nat.reduceEqDiff,Nat.reduceLT,Nat.reduceAdd,List.length_append,List.length_cons,List.length_nil,Option.some.injEq]
           · rintro m σ ⟨k,rfl,hk,rfl⟩
             by_cases hk0 : 0 < m
             · have d6 : decide ((0 : Int) ≤ (m : Int) - 1) = true := decide_eq_true (by omega)
               have em : ((m : Int) - 1).toNat = m - 1 := by omega
               have hst := valU_step bs (i + 1) (m - 1) (by omega) (by omega)
               rw [show m - 1 + 1 = m by omega] at hst
               have et : ((bs.getD (m - 1) 0).toNat : Int).tmod 128 = (((bs.getD (m - 1) 0).toNat % 128 : Nat) : Int) := tmod_cast _ 128
               obtain ⟨c,hcd⟩ : ∃ c,(bs.getD (m - 1) 0).toNat = c := ⟨_,rfl⟩
               rw [hcd] at hst et
               generalize valU ((bs.take (i + 1)).drop m) = X at *
               have ew : (128 * ((X % 18446744073709551616 : Nat) : Int) % 18446744073709551616 + ((c % 128 : Nat) : Int) % 18446744073709551616) % 18446744073709551616 = (((c % 128 + 128 * X) % 18446744073709551616 : Nat) : Int) := by omega
               have es : ((m : Int) - 1 - 1 + 9223372036854775808) % 18446744073709551616 - 9223372036854775808 = ((m - 1 : Nat) : Int) - 1 := by omega
               simp only [go_sem,coe,zab,Nat.reduceAdd,Nat.reduceSub,Nat.reduceMul,Int.reduceToNat,reduceCtorEq,↓reduceIte,Int.reducePow,Nat.reducePow,Int.reduceMod,Nat.reduceLeDiff,Int.reduceLE,Int.reduceNe,Int.reduceEq,Nat.reduceEqDiff,Nat.reduceLT,Nat.reduceBEq,ty,S23,d6,em,hcd,et,ew,es]
               refine ⟨by omega,m - 1,_,by omega,zai [0,1,2,3] rfl rfl rfl ?_ ?_,m - 1,rfl,by omega,rfl⟩
               · simp only [ssT,zao,zap,setSlot,gOf,AV.ren,renL,Blk.ren,Ax.look,Ax.put,reduceCtorEq,↓reduceIte,Nat.reduceEqDiff,Nat.reduceLT,Nat.reduceAdd,List.length_append,List.length_cons,List.length_nil,Option.some.injEq,hst]
               · simp only [ssT,zao,zap,setSlot,gOf,AV.ren,renL,Blk.ren,Ax.look,Ax.put,reduceCtorEq,↓reduceIte,Nat.reduceEqDiff,Nat.reduceLT,Nat.reduceAdd,List.length_append,List.length_cons,List.length_nil,Option.some.injEq]
             · have d6 : decide ((0 : Int) ≤ (m : Int) - 1) = false := decide_eq_false (by omega)
               obtain rfl : m = 0 := by omega
               generalize hV : valU ((bs.take (i + 1)).drop 0) % 18446744073709551616 = V
               rw [List.drop_zero] at hV
               rw [hV] at hG2
               have hVlt : (V : Int) < 18446744073709551616 := by omega
               have hV0 : (0 : Int) ≤ V := by omega
               have etk : List.take (i + 1) bs = bs.take (i + 1) := rfl
               simp only [go_sem,coe,zab,Nat.reduceAdd,Nat.reduceSub,Nat.reduceMul,Int.reduceToNat,reduceCtorEq,↓reduceIte,Int.reducePow,Nat.reducePow,Int.reduceMod,Nat.reduceLeDiff,Int.reduceLE,Int.reduceNe,Int.reduceEq,Nat.reduceEqDiff,Nat.reduceLT,Nat.reduceBEq,ty,S23,bytesS,zgS,d6,e1,Int.toNat_natCast,List.take_length,hVlt,hV0]
               simp only [Nat.sub_zero,Bool.not_eq_true',decide_eq_false_iff_not,Bool.not_eq_false',decide_eq_true_eq]
               refine ⟨by omega,fun h => ?_,fun h => ?_⟩
               · rw [hG2,if_neg h]; rfl
               · rw [hG2,if_pos h]
 · exact hp.elim
end
end Go.Proofs.Ythjceeimbohajaa
namespace Go.Proofs.Ythjceeimbohajaa
open Ax
def rrd (bs : List UInt8) (f : Bool) (e : Int) : AV := .agg [.sb bs f,.w (.int .i64 e)]
def rrnumS : zat
 | [.agg [.sb bs f,.w (.int k e)]],[] => ⟨k = .i64 ∧ bs.length ≤ 1000000,.tup [rrd (numL bs e) f (numE bs e),.w (.int .i64 (numN bs e))],[]⟩
 | _,_ => zcs
def S27 (f : FuncId) : Option zat :=
 match f with
 | 75 => some getS
 | _ => none
theorem S27_ok : Fns Try.prog S27 := by
 intro f s h
 unfold S27 at h
 split at h
 · injection h with h; subst h; exact ⟨⟨_,Try.func75,by kernel_rfl,by kernel_rfl⟩,rget_sound⟩
 · cases h
section
set_option maxRecDepth 100000
theorem rrnum_sound : zbb Try.prog 40 rrnumS := by
 refine zaw (S := S27) (T := ty) zbs ty_ok S27_ok Try.func40 (c := Try.f40.body.getD .skip) (by kernel_rfl) (by kernel_rfl) (fun xs pins hp _ => ?_)
 unfold rrnumS at hp ⊢
 split at hp
 · rename_i bs f k e _
   obtain ⟨rfl,hlen⟩ := hp
   refine ⟨by simp,?_⟩
   obtain ⟨hg1,hg2⟩ := getL_ok bs
   have e1 : List.take (bs.length - (getL bs).2.1) (List.drop (getL bs).2.1 bs) = bs.drop (getL bs).2.1 := List.take_of_length_le (by simp)
   unfold Try.f40
   by_cases he : e = 0
   · subst he
     have d0 : decide ((0 : Int) = 0) = true := rfl
     by_cases hr : (getL bs).2.2 = 0
     · simp only [go_sem,coe,zab,Nat.reduceAdd,Nat.reduceSub,Nat.reduceMul,Int.reduceToNat,reduceCtorEq,↓reduceIte,Int.reducePow,Nat.reducePow,Int.reduceMod,Nat.reduceLeDiff,Int.reduceLE,Int.reduceNe,Int.reduceEq,Nat.reduceEqDiff,Nat.reduceLT,Nat.reduceBEq,ty,S27,getS,hlen,e1,hr,Int.toNat_natCast,rrd,numL,numE,numN,if_true,fillS]
       omega
     · obtain ⟨h3,h4⟩ := hg2 hr
       have d1 : decide ((getL bs).2.2 = 0) = false := decide_eq_false hr
       simp only [go_sem,coe,zab,Nat.reduceAdd,Nat.reduceSub,Nat.reduceMul,Int.reduceToNat,reduceCtorEq,↓reduceIte,Int.reducePow,Nat.reducePow,Int.reduceMod,Nat.reduceLeDiff,Int.reduceLE,Int.reduceNe,Int.reduceEq,Nat.reduceEqDiff,Nat.reduceLT,Nat.reduceBEq,ty,S27,getS,hlen,e1,d1,Int.toNat_natCast,rrd,numL,numE,numN,if_true,h3,h4,List.drop_zero]
   · have d0 : decide (e = 0) = false := decide_eq_false he
     simp only [go_sem,coe,zab,Nat.reduceAdd,Nat.reduceSub,Nat.reduceMul,Int.reduceToNat,reduceCtorEq,↓reduceIte,Int.reducePow,Nat.reducePow,Int.reduceMod,Nat.reduceLeDiff,Int.reduceLE,Int.reduceNe,Int.reduceEq,Nat.reduceEqDiff,Nat.reduceLT,Nat.reduceBEq,ty,S27,getS,d0,rrd,numL,numE,numN,if_neg he]
 · exact hp.elim
def rrtextS : zat
 | [.agg [.sb bs f,.w (.int k e)],.w (.int k' m)],[] => ⟨k = .i64 ∧ k' = .i64 ∧ bs.length ≤ 1000000,.tup [rrd (rtL m bs e) f (rtE m bs e),.str (rtS' m bs e)],[]⟩
 | _,_ => zcs
def S31 (f : FuncId) : Option zat :=
 match f with
 | 40 => some rrnumS
 | _ => none
theorem S31_ok : Fns Try.prog S31 := by
 intro f s h
 unfold S31 at h
 split at h
 · injection h with h; subst h; exact ⟨⟨_,Try.func40,by kernel_rfl,by kernel_rfl⟩,rrnum_sound⟩
 · cases h
theorem zbh (bs : List UInt8) (e : Int) : (numL bs e).length ≤ bs.length := by
 unfold numL; split <;> simp
end
end Go.Proofs.Ythjceeimbohajaa
namespace Go.Proofs.Ythjceeimbohajaa
open Ax
theorem slot_fzL (id : Nat) (bs : List UInt8) : ∀ (sl : List AV) (i : Nat),slot (fzL id bs sl) i = (slot sl i).fz id bs
 | [],i => rfl
 | x :: sl,0 => rfl
 | x :: sl,i + 1 => slot_fzL id bs sl i
def rA (d t : Int) : Prop := d < 0 ∨ 31 < d ∨ t < 0 ∨ 1099511627776 < t
def rB (key val : List UInt8) : Prop := 64 < key.length ∨ 512 < val.length
def rC (k : Bool) (key : List UInt8) (dd : Bool) (val : List UInt8) : Prop := (k = false ∧ (key ≠ [] ∨ dd = true)) ∨ (dd = true ∧ val ≠ [])
instance (d t : Int) : Decidable (rA d t) := by unfold rA; infer_instance
instance (key val : List UInt8) : Decidable (rB key val) := by unfold rB; infer_instance
instance (k : Bool) (key : List UInt8) (dd : Bool) (val : List UInt8) : Decidable (rC k key dd val) := by unfold rC; infer_instance
def rchk (d t : Int) (k : Bool) (key : List UInt8) (dd : Bool) (val : List UInt8) : Int := if rA d t then 11 else if rB key val then 5 else if rC k key dd val then 4 else 0
section
set_option maxRecDepth 100000
set_option maxHeartbeats 1000000 in
def flagI (k dd : Bool) : Int := (if k then 1 else 0) + (if dd then 2 else 0)
def recL (d t : Int) (k : Bool) (key : List UInt8) (dd : Bool) (val : List UInt8) : List UInt8 :=
 UInt8.ofNat (flagI k dd).toNat :: (putU (zz d).toNat ++ (putU (zz t).toNat ++ ((if k then zck key else []) ++ (if dd then [] else zck val))))
def recB (d t : Int) (k : Bool) (key : List UInt8) (dd : Bool) (val : List UInt8) : List UInt8 := if rchk d t k key dd val = 0 then recL d t k key dd val else []
theorem zce (s : List UInt8) (h : s.length ≤ 1000000) : (zck s).length ≤ s.length + 10 := by
 unfold zck
 have := zcc (2 * s.length) (by omega)
 rw [List.length_append]; omega
end
end Go.Proofs.Ythjceeimbohajaa
namespace Go.Proofs.Ythjceeimbohajaa
open Ax
def pqV (n : Int) : List UInt8 := putU (zz n).toNat
def layR (r : VR) : List UInt8 := ((zck r.k ++ zck r.v) ++ pqV r.o) ++ pqV r.t
def layV (n : Int) (l : List VR) : List UInt8 := (pqV n ++ pqV (l.length : Int)) ++ l.flatMap layR
def putV (n : Int) (l : List VR) : List UInt8 := if chV n l = 0 then layV n l else []
theorem zbn (n : Int) (h1 : -9223372036854775808 ≤ n) (h2 : n ≤ 9223372036854775807) : (pqV n).length ≤ 10 := by
 have := zz_range n h1 h2
 exact zcc _ (by omega)
def okR (n : Int) (r : VR) : Prop := r.k.length ≤ 64 ∧ r.v.length ≤ 512 ∧ 0 ≤ r.o ∧ r.o < n ∧ 0 ≤ r.t ∧ r.t ≤ 1099511627776
theorem badV_ok (n : Int) : ∀ l : List VR,badV n l = 0 → ∀ r ∈ l,okR n r
 | [],_ => by simp
 | a :: l,h => by
   have h : (if rE n a = 0 then badV n l else rE n a) = 0 := h
   by_cases h0 : rE n a = 0
   · rw [if_pos h0] at h
     intro r hr
     rcases List.mem_cons.1 hr with rfl | hr
     · unfold rE at h0
       by_cases h1 : 64 < r.k.length ∨ 512 < r.v.length
       · rw [if_pos h1] at h0; cases h0
       · rw [if_neg h1] at h0
         by_cases h2 : r.o < 0 ∨ n ≤ r.o ∨ r.t < 0 ∨ 1099511627776 < r.t
         · rw [if_pos h2] at h0; cases h0
         · exact ⟨by omega,by omega,by omega,by omega,by omega,by omega⟩
     · exact badV_ok n l h r hr
   · rw [if_neg h0] at h; exact absurd h h0
theorem chV_ok {n : Int} {l : List VR} (h : chV n l = 0) : 0 ≤ n ∧ n ≤ 4611686018427387903 ∧ l.length ≤ 4096 ∧ ∀ r ∈ l,okR n r := by
 unfold chV at h
 by_cases h0 : n < 0 ∨ 4611686018427387903 < n ∨ 4096 < l.length
 · rw [if_pos h0] at h; cases h
 · rw [if_neg h0] at h
   by_cases h1 : badV n l = 0
   · exact ⟨by omega,by omega,by omega,badV_ok n l h1⟩
   · rw [if_neg h1] at h; exact absurd h h1
theorem lay_snoc (l : List VR) (i : Nat) (h : i < l.length) : (l.take (i + 1)).flatMap layR = (l.take i).flatMap layR ++ layR l[i] := by
 rw [List.take_succ_eq_append_getElem h,List.flatMap_append]; simp
theorem layR_length {n : Int} {r : VR} (h : okR n r) (hn : n ≤ 4611686018427387903) : (layR r).length ≤ 700 := by
 obtain ⟨h1,h2,h3,h4,h5,h6⟩ := h
 have a1 := zce r.k (by omega)
 have a2 := zce r.v (by omega)
 have a3 := zbn r.o (by omega) (by omega)
 have a4 := zbn r.t (by omega) (by omega)
 unfold layR; simp only [List.length_append]; omega
theorem lay_length {n : Int} (hn : n ≤ 4611686018427387903) : ∀ l : List VR,(∀ r ∈ l,okR n r) → (l.flatMap layR).length ≤ 700 * l.length
 | [],_ => by simp
 | a :: l,h => by
   have h1 := layR_length (h a (List.mem_cons_self ..)) hn
   have h2 := lay_length hn l (fun r hr => h r (List.mem_cons_of_mem _ hr))
   rw [List.flatMap_cons,List.length_append,List.length_cons]; omega
def putVS : zat
 | [.agg [.w (.int .i64 n),.sg 4 xs f]],[] => ⟨xs.length ≤ 9223372036854775807 ∧ ∃ l : List VR,xs = l.map vrA,.tup [.sb (putV n (xs.map uvr)) false,.w (.int .i64 (chV n (xs.map uvr)))],[]⟩
 | _,_ => zcs
def SputV (f : FuncId) : Option zat :=
 match f with
 | 52 => some chkVS
 | 53 => some chkVS
 | 29 => some putS
 | 30 => some textS
 | 32 => some putS
 | 33 => some textS
 | _ => none
theorem SputV_ok : Fns Try.prog SputV := by
 intro f s h
 unfold SputV at h
 split at h
 · injection h with h; subst h; exact ⟨⟨_,Try.func52,by kernel_rfl,by kernel_rfl⟩,chkV_sound⟩
 · injection h with h; subst h; exact ⟨⟨_,Try.func53,by kernel_rfl,by kernel_rfl⟩,rchkV_sound⟩
 · injection h with h; subst h; exact ⟨⟨_,Try.func29,by kernel_rfl,by kernel_rfl⟩,put_sound⟩
 · injection h with h; subst h; exact ⟨⟨_,Try.func30,by kernel_rfl,by kernel_rfl⟩,text_sound⟩
 · injection h with h; subst h; exact ⟨⟨_,Try.func32,by kernel_rfl,by kernel_rfl⟩,rput_sound⟩
 · injection h with h; subst h; exact ⟨⟨_,Try.func33,by kernel_rfl,by kernel_rfl⟩,rtext_sound⟩
 · cases h
section
set_option maxRecDepth 100000
def putVPl : Plan := fun id => match id with
 | 4 => some []
 | _ => none
set_option maxHeartbeats 16000000 in
theorem putV_sound : zbb Try.prog 17 putVS := by
 refine zdj (S := SputV) (T := ty) (pl := putVPl) zbs ty_ok SputV_ok Try.func17 (c := Try.f17.body.getD .skip) (by kernel_rfl) (by kernel_rfl) (fun xs pins hp _ => ?_)
 unfold putVS at hp ⊢
 split at hp
 · rename_i n xs f _
   obtain ⟨hL,l,rfl⟩ := hp
   have hx : ∃ q : List VR,l.map vrA = q.map vrA := ⟨l,rfl⟩
   have hle : (l.map vrA).length = l.length := by simp
   rw [hle] at hL
   have hc : coe ty 50 (.sg 4 (l.map vrA) f) = .sg 4 (l.map vrA) f := by cases l <;> rfl
   have htop : top = 4294967296 := rfl
   rw [zbj]
   refine ⟨by simp,?_⟩
   unfold Try.f17
   by_cases h0 : chV n l = 0
   · obtain ⟨b1,b2,b3,b4⟩ := chV_ok h0
     have hpv : putV n l = layV n l := if_pos h0
     rw [hpv,h0]
     have r1 : -9223372036854775808 ≤ n ∧ n ≤ 9223372036854775807 := by omega
     have r2 : -9223372036854775808 ≤ (l.length : Int) ∧ (l.length : Int) ≤ 9223372036854775807 := by omega
     have p1 := zbn n r1.1 r1.2
     have p2 := zbn (l.length : Int) r2.1 r2.2
     have hlay : layV n l = (pqV n ++ pqV (l.length : Int)) ++ l.flatMap layR := rfl
     generalize hP : pqV n = P at *
     generalize hQ : pqV (l.length : Int) = Q at *
     have hP' : putU (zz n).toNat = P := hP
     have hQ' : putU (zz (l.length : Int)).toNat = Q := hQ
     have e0 : (P ++ Q).length = P.length + Q.length := List.length_append
     simp only [go_sem,coe,zaa,Nat.reduceAdd,Nat.reduceSub,Nat.reduceMul,Int.reduceToNat,reduceCtorEq,↓reduceIte,Int.reducePow,Nat.reducePow,Int.reduceMod,Nat.reduceLeDiff,Int.reduceLE,Int.reduceNe,Int.reduceEq,Nat.reduceEqDiff,Nat.reduceLT,Nat.reduceBEq,List.map_cons,List.map_nil,List.toList_toArray,Array.toList_append,Option.toArray_some,Option.toArray_none,Bool.and_self,ty,SputV,putS,textS,chkVS,putVPl,hle,hL,hx,hc,zbj,h0,r1,r2,hP',hQ',e0,fillS,List.take_length]
     repeat (refine And.intro (by omega) ?_)
     refine zci ⟨fun m σ => ∃ (i : Nat) (acc : List UInt8),m = l.length - i ∧ i ≤ l.length ∧ acc = (P ++ Q) ++ (l.take i).flatMap layR ∧
       σ = ⟨[.agg [.w (.int .i64 n),.sg 4 (l.map vrA) f],.rf 4 2 0 0,.sg 1 [] true,.w (.int .i64 0),.w (.int .i64 0),.ms 5 1 0 acc.length,.junk,.junk,.junk,.junk,.junk,.junk,.junk,.junk,.junk,.junk,.junk,.junk,.junk,.junk,.junk,.junk,.sg 4 (l.map vrA) f,.w (.int .i64 l.length),.w (.int .i64 i),.junk,.junk,.junk,.junk,.junk,.junk,.junk,.junk,.junk,.junk,.junk,.junk,.junk,.junk,.junk,.junk,.junk,.junk,.junk,.junk,.junk,.junk,.junk,.junk,.junk],[(4,.g 2 [.agg [.w (.int .i64 n),.sg 4 (l.map vrA) f]]),(5,.b acc)],6⟩,?_,?_⟩
     · refine ⟨_,_,zai [0,1,2,3,4,124] rfl rfl rfl ?_ ?_,0,_,rfl,by omega,rfl,rfl⟩
       · simp only [ssT,zao,zap,setSlot,gOf,AV.ren,renL,Blk.ren,Ax.look,Ax.put,reduceCtorEq,↓reduceIte,Nat.reduceEqDiff,Nat.reduceLT,Nat.reduceAdd,List.length_append,List.length_cons,List.length_nil,Option.some.injEq]; try simp
       · simp only [ssT,zao,zap,setSlot,gOf,AV.ren,renL,Blk.ren,Ax.look,Ax.put,reduceCtorEq,↓reduceIte,Nat.reduceEqDiff,Nat.reduceLT,Nat.reduceAdd,List.length_append,List.length_cons,List.length_nil,Option.some.injEq]; try simp
     · rintro m σ ⟨i,acc,rfl,hi,hacc,rfl⟩
       have hal : acc.length ≤ 20 + 700 * 4096 := by
         have := lay_length (n := n) (by omega) (l.take i) (fun r hr => b4 r (List.mem_of_mem_take hr))
         rw [hacc,List.length_append,List.length_append]
         rw [List.length_take] at this
         omega
       by_cases hil : i < l.length
       · have d2 : decide ((i : Int) < l.length) = true := decide_eq_true (by omega)
         have e1 : ((i : Int) + 1 + 9223372036854775808) % 18446744073709551616 - 9223372036854775808 = ((i + 1 : Nat) : Int) := by omega
         have hs1 := zcm l i hil
         have hsn := lay_snoc l i hil
         have hok := b4 _ (List.getElem_mem hil)
         obtain ⟨r,hr⟩ : ∃ r,l[i] = r := ⟨_,rfl⟩
         rw [hr] at hs1 hsn hok
         obtain ⟨k,v,o,t⟩ := r
         have hs1 : slot (l.map vrA) i = .agg [.str k,.str v,.w (.int .i64 o),.w (.int .i64 t)] := hs1
         obtain ⟨g1,g2,g3,g4,g5,g6⟩ := hok
         simp only at g1 g2 g3 g4 g5 g6
         have q1 : k.length ≤ 1000000 := by omega
         have q2 : v.length ≤ 1000000 := by omega
         have q3 : -9223372036854775808 ≤ o ∧ o ≤ 9223372036854775807 := by omega
         have q4 : -9223372036854775808 ≤ t ∧ t ≤ 9223372036854775807 := by omega
         have y1 := zce k (by omega)
         have y2 := zce v (by omega)
         have y3 := zbn o q3.1 q3.2
         have y4 := zbn t q4.1 q4.2
         have hlr : layR ⟨k,v,o,t⟩ = ((zck k ++ zck v) ++ pqV o) ++ pqV t := rfl
         generalize hA : zck k = A at *
         generalize hB : zck v = B at *
         generalize hC : pqV o = C at *
         generalize hD : pqV t = D at *
         have hC' : putU (zz o).toNat = C := hC
         have hD' : putU (zz t).toNat = D := hD
         have w1 : (acc ++ A).length = acc.length + A.length := List.length_append
         have w2 : ((acc ++ A) ++ B).length = acc.length + A.length + B.length := by simp only [List.length_append]
         have w3 : (((acc ++ A) ++ B) ++ C).length = acc.length + A.length + B.length + C.length := by simp only [List.length_append]
         have w4 : ((((acc ++ A) ++ B) ++ C) ++ D).length = acc.length + A.length + B.length + C.length + D.length := by simp only [List.length_append]
         have hnew : ((((acc ++ A) ++ B) ++ C) ++ D) = (P ++ Q) ++ (l.take (i + 1)).flatMap layR := by
           rw [hsn,hlr,hacc]; simp only [List.append_assoc]
         simp only [go_sem,zaa,Nat.reduceAdd,Nat.reduceSub,Nat.reduceMul,Int.reduceToNat,reduceCtorEq,↓reduceIte,Int.reducePow,Nat.reducePow,Int.reduceMod,Nat.reduceLeDiff,Int.reduceLE,Int.reduceNe,Int.reduceEq,Nat.reduceEqDiff,Nat.reduceLT,Nat.reduceBEq,List.map_cons,List.map_nil,List.toList_toArray,Array.toList_append,Option.toArray_some,Option.toArray_none,Bool.and_self,ty,SputV,putS,textS,putVPl,hle,d2,hs1,e1,q1,q2,q3,q4,hA,hB,hC',hD',w1,w2,w3,w4,Int.toNat_natCast,List.take_length]
         repeat (refine And.intro (by omega) ?_)
         refine ⟨l.length - (i + 1),_,by omega,zai [0,1,2,3,4,222] rfl rfl rfl ?_ ?_,i + 1,_,rfl,by omega,hnew,rfl⟩
         · simp only [ssT,zao,zap,setSlot,gOf,AV.ren,renL,Blk.ren,Ax.look,Ax.put,reduceCtorEq,↓reduceIte,Nat.reduceEqDiff,Nat.reduceLT,Nat.reduceAdd,List.length_append,List.length_cons,List.length_nil,Option.some.injEq,w4]; try simp
         · simp only [ssT,zao,zap,setSlot,gOf,AV.ren,renL,Blk.ren,Ax.look,Ax.put,reduceCtorEq,↓reduceIte,Nat.reduceEqDiff,Nat.reduceLT,Nat.reduceAdd,List.length_append,List.length_cons,List.length_nil,Option.some.injEq]; try simp
       · have d2 : decide ((i : Int) < l.length) = false := decide_eq_false (by omega)
         have hii : l.take i = l := List.take_of_length_le (by omega)
         rw [hii,← hlay] at hacc
         simp only [go_sem,zaa,Nat.reduceAdd,Nat.reduceSub,Nat.reduceMul,Int.reduceToNat,reduceCtorEq,↓reduceIte,Int.reducePow,Nat.reducePow,Int.reduceMod,Nat.reduceLeDiff,Int.reduceLE,Int.reduceNe,Int.reduceEq,Nat.reduceEqDiff,Nat.reduceLT,Nat.reduceBEq,List.map_cons,List.map_nil,List.toList_toArray,Array.toList_append,Option.toArray_some,Option.toArray_none,Bool.and_self,ty,SputV,putVPl,hle,d2]
         refine ⟨_,Weak.refl _,?_⟩
         simp only [go_sem,zaa,Nat.reduceAdd,Nat.reduceSub,Nat.reduceMul,Int.reduceToNat,reduceCtorEq,↓reduceIte,Int.reducePow,Nat.reducePow,Int.reduceMod,Nat.reduceLeDiff,Int.reduceLE,Int.reduceNe,Int.reduceEq,Nat.reduceEqDiff,Nat.reduceLT,Nat.reduceBEq,List.map_cons,List.map_nil,List.toList_toArray,Array.toList_append,Option.toArray_some,Option.toArray_none,Bool.and_self,ty,SputV,putVPl]
         exact fz_ends 2 3 (by decide) rfl rfl rfl rfl hacc.symm rfl
   · have hpv : putV n l = [] := if_neg h0
     have d0 : decide (chV n l = 0) = false := decide_eq_false h0
     rw [hpv]
     simp only [go_sem,coe,zaa,Nat.reduceAdd,Nat.reduceSub,Nat.reduceMul,Int.reduceToNat,reduceCtorEq,↓reduceIte,Int.reducePow,Nat.reducePow,Int.reduceMod,Nat.reduceLeDiff,Int.reduceLE,Int.reduceNe,Int.reduceEq,Nat.reduceEqDiff,Nat.reduceLT,Nat.reduceBEq,List.map_cons,List.map_nil,List.toList_toArray,Array.toList_append,Option.toArray_some,Option.toArray_none,Bool.and_self,ty,SputV,chkVS,putVPl,hle,hL,hx,hc,zbj,d0]
     exact nil_ends 2 3 (by decide) rfl rfl rfl rfl
 · exact hp.elim
def rputVPl : Plan := fun id => match id with
 | 4 => some []
 | 9 => some [(4,5),(4,6)]
 | 10 => some [(4,5),(4,6)]
 | _ => none
set_option maxHeartbeats 16000000 in
theorem rputV_sound : zbb Try.prog 19 putVS := by
 refine zdj (S := SputV) (T := ty) (pl := rputVPl) zbs ty_ok SputV_ok Try.func19 (c := Try.f19.body.getD .skip) (by kernel_rfl) (by kernel_rfl) (fun xs pins hp _ => ?_)
 unfold putVS at hp ⊢
 split at hp
 · rename_i n xs f _
   obtain ⟨hL,l,rfl⟩ := hp
   have hx : ∃ q : List VR,l.map vrA = q.map vrA := ⟨l,rfl⟩
   have hle : (l.map vrA).length = l.length := by simp
   rw [hle] at hL
   have hc : coe ty 45 (.sg 4 (l.map vrA) f) = .sg 4 (l.map vrA) f := by cases l <;> rfl
   have htop : top = 4294967296 := rfl
   rw [zbj]
   refine ⟨by simp,?_⟩
   unfold Try.f19
   by_cases h0 : chV n l = 0
   · obtain ⟨b1,b2,b3,b4⟩ := chV_ok h0
     have hpv : putV n l = layV n l := if_pos h0
     rw [hpv,h0]
     have r1 : -9223372036854775808 ≤ n ∧ n ≤ 9223372036854775807 := by omega
     have r2 : -9223372036854775808 ≤ (l.length : Int) ∧ (l.length : Int) ≤ 9223372036854775807 := by omega
     have p1 := zbn n r1.1 r1.2
     have p2 := zbn (l.length : Int) r2.1 r2.2
     have hlay : layV n l = (pqV n ++ pqV (l.length : Int)) ++ l.flatMap layR := rfl
     generalize hP : pqV n = P at *
     generalize hQ : pqV (l.length : Int) = Q at *
     have hP' : putU (zz n).toNat = P := hP
     have hQ' : putU (zz (l.length : Int)).toNat = Q := hQ
     have e0 : (P ++ Q).length = P.length + Q.length := List.length_append
     simp only [go_sem,coe,zaa,Nat.reduceAdd,Nat.reduceSub,Nat.reduceMul,Int.reduceToNat,reduceCtorEq,↓reduceIte,Int.reducePow,Nat.reducePow,Int.reduceMod,Nat.reduceLeDiff,Int.reduceLE,Int.reduceNe,Int.reduceEq,Nat.reduceEqDiff,Nat.reduceLT,Nat.reduceBEq,List.map_cons,List.map_nil,List.toList_toArray,Array.toList_append,Option.toArray_some,Option.toArray_none,Bool.and_self,ty,SputV,putS,textS,chkVS,rputVPl,hle,hL,hx,hc,zbj,h0,r1,r2,hP',hQ',e0,fillS,List.take_length]
     repeat (refine And.intro (by omega) ?_)
     refine zci ⟨fun m σ => ∃ (i : Nat) (acc : List UInt8),m = l.length - i ∧ i ≤ l.length ∧ acc = (P ++ Q) ++ (l.take i).flatMap layR ∧
       σ = ⟨[.agg [.w (.int .i64 n),.sg 4 (l.map vrA) f],.rf 4 2 0 0,.sg 1 [] true,.w (.int .i64 0),.w (.int .i64 0),.ms 5 1 0 acc.length,.w (.int .i64 i),.junk,.junk,.junk,.junk,.junk,.junk,.junk,.junk,.junk,.junk,.junk,.junk,.junk,.junk,.junk,.junk,.junk,.junk,.junk,.junk,.junk,.junk,.junk,.junk,.junk,.junk,.junk,.junk,.junk,.junk,.junk,.junk,.junk,.junk,.junk,.junk,.junk,.junk,.junk,.junk,.junk,.junk,.junk,.junk,.junk],[(4,.g 2 [.agg [.w (.int .i64 n),.sg 4 (l.map vrA) f]]),(5,.b acc)],6⟩,?_,?_⟩
     · refine ⟨_,_,zai [0,1,2,3,4,124] rfl rfl rfl ?_ ?_,0,_,rfl,by omega,rfl,rfl⟩
       · simp only [ssT,zao,zap,setSlot,gOf,AV.ren,renL,Blk.ren,Ax.look,Ax.put,reduceCtorEq,↓reduceIte,Nat.reduceEqDiff,Nat.reduceLT,Nat.reduceAdd,List.length_append,List.length_cons,List.length_nil,Option.some.injEq]; try simp
       · simp only [ssT,zao,zap,setSlot,gOf,AV.ren,renL,Blk.ren,Ax.look,Ax.put,reduceCtorEq,↓reduceIte,Nat.reduceEqDiff,Nat.reduceLT,Nat.reduceAdd,List.length_append,List.length_cons,List.length_nil,Option.some.injEq]; try simp
     · rintro m σ ⟨i,acc,rfl,hi,hacc,rfl⟩
       have hal : acc.length ≤ 20 + 700 * 4096 := by
         have := lay_length (n := n) (by omega) (l.take i) (fun r hr => b4 r (List.mem_of_mem_take hr))
         rw [hacc,List.length_append,List.length_append]
         rw [List.length_take] at this
         omega
       by_cases hil : i < l.length
       · have d2 : decide ((i : Int) < l.length) = true := decide_eq_true (by omega)
         have e1 : ((i : Int) + 1 + 9223372036854775808) % 18446744073709551616 - 9223372036854775808 = ((i + 1 : Nat) : Int) := by omega
         have hs1 := zcm l i hil
         have hsn := lay_snoc l i hil
         have hok := b4 _ (List.getElem_mem hil)
         obtain ⟨r,hr⟩ : ∃ r,l[i] = r := ⟨_,rfl⟩
         rw [hr] at hs1 hsn hok
         obtain ⟨k,v,o,t⟩ := r
         have hs1 : slot (l.map vrA) i = .agg [.str k,.str v,.w (.int .i64 o),.w (.int .i64 t)] := hs1
         obtain ⟨g1,g2,g3,g4,g5,g6⟩ := hok
         simp only at g1 g2 g3 g4 g5 g6
         have q1 : k.length ≤ 1000000 := by omega
         have q2 : v.length ≤ 1000000 := by omega
         have q3 : -9223372036854775808 ≤ o ∧ o ≤ 9223372036854775807 := by omega
         have q4 : -9223372036854775808 ≤ t ∧ t ≤ 9223372036854775807 := by omega
         have y1 := zce k (by omega)
         have y2 := zce v (by omega)
         have y3 := zbn o q3.1 q3.2
         have y4 := zbn t q4.1 q4.2
         have hlr : layR ⟨k,v,o,t⟩ = ((zck k ++ zck v) ++ pqV o) ++ pqV t := rfl
         generalize hA : zck k = A at *
         generalize hB : zck v = B at *
         generalize hC : pqV o = C at *
         generalize hD : pqV t = D at *
         have hC' : putU (zz o).toNat = C := hC
         have hD' : putU (zz t).toNat = D := hD
         have w1 : (acc ++ A).length = acc.length + A.length := List.length_append
         have w2 : ((acc ++ A) ++ B).length = acc.length + A.length + B.length := by simp only [List.length_append]
         have w3 : (((acc ++ A) ++ B) ++ C).length = acc.length + A.length + B.length + C.length := by simp only [List.length_append]
         have w4 : ((((acc ++ A) ++ B) ++ C) ++ D).length = acc.length + A.length + B.length + C.length + D.length := by simp only [List.length_append]
         have hnew : ((((acc ++ A) ++ B) ++ C) ++ D) = (P ++ Q) ++ (l.take (i + 1)).flatMap layR := by
           rw [hsn,hlr,hacc]; simp only [List.append_assoc]
         simp only [go_sem,zaa,Nat.reduceAdd,Nat.reduceSub,Nat.reduceMul,Int.reduceToNat,reduceCtorEq,↓reduceIte,Int.reducePow,Nat.reducePow,Int.reduceMod,Nat.reduceLeDiff,Int.reduceLE,Int.reduceNe,Int.reduceEq,Nat.reduceEqDiff,Nat.reduceLT,Nat.reduceBEq,List.map_cons,List.map_nil,List.toList_toArray,Array.toList_append,Option.toArray_some,Option.toArray_none,Bool.and_self,ty,SputV,putS,textS,rputVPl,hle,d2,hs1,e1,q1,q2,q3,q4,hA,hB,hC',hD',w1,w2,w3,w4,Int.toNat_natCast,List.take_length]
         repeat (refine And.intro (by omega) ?_)
         refine ⟨l.length - (i + 1),_,by omega,zai [0,1,2,3,4,246] rfl rfl rfl ?_ ?_,i + 1,_,rfl,by omega,hnew,rfl⟩
         · simp only [ssT,zao,zap,setSlot,gOf,AV.ren,renL,Blk.ren,Ax.look,Ax.put,reduceCtorEq,↓reduceIte,Nat.reduceEqDiff,Nat.reduceLT,Nat.reduceAdd,List.length_append,List.length_cons,List.length_nil,Option.some.injEq,w4]; try simp
         · simp only [ssT,zao,zap,setSlot,gOf,AV.ren,renL,Blk.ren,Ax.look,Ax.put,reduceCtorEq,↓reduceIte,Nat.reduceEqDiff,Nat.reduceLT,Nat.reduceAdd,List.length_append,List.length_cons,List.length_nil,Option.some.injEq]; try simp
       · have d2 : decide ((i : Int) < l.length) = false := decide_eq_false (by omega)
         have hii : l.take i = l := List.take_of_length_le (by omega)
         rw [hii,← hlay] at hacc
         simp only [go_sem,zaa,Nat.reduceAdd,Nat.reduceSub,Nat.reduceMul,Int.reduceToNat,reduceCtorEq,↓reduceIte,Int.reducePow,Nat.reducePow,Int.reduceMod,Nat.reduceLeDiff,Int.reduceLE,Int.reduceNe,Int.reduceEq,Nat.reduceEqDiff,Nat.reduceLT,Nat.reduceBEq,List.map_cons,List.map_nil,List.toList_toArray,Array.toList_append,Option.toArray_some,Option.toArray_none,Bool.and_self,ty,SputV,rputVPl,hle,d2]
         refine ⟨_,Weak.refl _,?_⟩
         simp only [go_sem,zaa,Nat.reduceAdd,Nat.reduceSub,Nat.reduceMul,Int.reduceToNat,reduceCtorEq,↓reduceIte,Int.reducePow,Nat.reducePow,Int.reduceMod,Nat.reduceLeDiff,Int.reduceLE,Int.reduceNe,Int.reduceEq,Nat.reduceEqDiff,Nat.reduceLT,Nat.reduceBEq,List.map_cons,List.map_nil,List.toList_toArray,Array.toList_append,Option.toArray_some,Option.toArray_none,Bool.and_self,ty,SputV,rputVPl]
         exact fz_ends 2 3 (by decide) rfl rfl rfl rfl hacc.symm rfl
   · have hpv : putV n l = [] := if_neg h0
     have d0 : decide (chV n l = 0) = false := decide_eq_false h0
     rw [hpv]
     simp only [go_sem,coe,zaa,Nat.reduceAdd,Nat.reduceSub,Nat.reduceMul,Int.reduceToNat,reduceCtorEq,↓reduceIte,Int.reducePow,Nat.reducePow,Int.reduceMod,Nat.reduceLeDiff,Int.reduceLE,Int.reduceNe,Int.reduceEq,Nat.reduceEqDiff,Nat.reduceLT,Nat.reduceBEq,List.map_cons,List.map_nil,List.toList_toArray,Array.toList_append,Option.toArray_some,Option.toArray_none,Bool.and_self,ty,SputV,chkVS,rputVPl,hle,hL,hx,hc,zbj,d0]
     exact nil_ends 2 3 (by decide) rfl rfl rfl rfl
 · exact hp.elim
end
end Go.Proofs.Ythjceeimbohajaa
namespace Go.Proofs.Ythjceeimbohajaa
namespace Ax
theorem getElem_slot (ys : List AV) (j : Nat) (h : j < ys.length) : ys[j] = slot ys j := by
 rw [zcn]; simp [h]
theorem weak_nilB {sl : List AV} {H : Heap} {nx : Nat} (id0 k j s : Nat) (ys : List AV) (hl0 : look H id0 = some (.g k [.agg ys])) (hj : j < ys.length) (hn : nilV (slot ys j)) (hs : 0 < s) : Weak ⟨sl,H,nx⟩ ⟨sl,put (put H id0 (.g k [.agg (setSlot ys j (.ms nx s 0 0))])) nx (.g s []),nx + 1⟩ := by
 rintro w0 E B a w ⟨loc,hB,hr⟩
 have hf : loc.m nx = .free := hr.fresh nx (Nat.le_refl _)
 have hlow : id0 < nx := hr.low id0 _ hl0
 have hM : ∀ c,Mut (loc.set nx .nil) c → Mut loc c := by
   rintro c (h | ⟨k,h⟩)
   · exact .inl h
   · by_cases hk : k = nx
     · subst hk; rw [Loc.set_same] at h; cases h
     · rw [Loc.set_other _ _ hk] at h; exact .inr ⟨k,h⟩
 have hE : Ext (fun _ => False) w loc w (loc.set nx .nil) :=
   ⟨Nat.le_refl _,fun id h _ => Loc.set_other _ _ (fun e => h (e ▸ hf)),fun _ _ h => h.elim,fun c _ hm => ⟨rfl,fun h => hm (hM c h)⟩,fun _ _ _ _ => rfl,fun _ cur _ fz h => ⟨cur,fz,h,rfl⟩⟩
 have hset : ∀ {k c},(loc.set nx .nil).m k = .here c → loc.m k = .here c := by
   intro k c h
   by_cases hk : k = nx
   · subst hk; rw [Loc.set_same] at h; cases h
   · rwa [Loc.set_other _ _ hk] at h
 refine ⟨loc.set nx .nil,⟨hB.1,hB.2.1,fun k hk => ?_⟩,⟨hr.size,fun t => (hr.slots t).ext hE,?_,⟨hr.env.os,hr.env.tape,hr.env.output,hr.env.size,hr.env.same,fun i j b h1 h2 => hr.env.inj i j b (hset h1) (hset h2),fun i b h1 => hr.env.lies i b (hset h1),hr.env.bad⟩,?_,hr.defers,?_⟩⟩
 · have hne : k ≠ nx := by
     rintro rfl
     rcases hB.2.2 k hk with h | ⟨h,_⟩ <;> rw [hf] at h <;> cases h
   rw [Loc.set_other _ _ hne]; exact hB.2.2 k hk
 · intro id c hl
   simp only at hl
   rw [zan] at hl
   split at hl
   · rename_i e; subst e
     injection hl with hl; subst hl
     unfold BlkR
     rw [Loc.set_same]; exact ⟨⟨hs,by simp⟩,rfl⟩
   · rename_i e
     rw [zan] at hl
     split at hl
     · rename_i e0; subst e0
       injection hl with hl; subst hl
       have h0 := hr.heap _ _ hl0
       unfold BlkR at h0 ⊢
       rw [Loc.set_other _ _ (Ne.symm e)]
       split at h0
       · trivial
       · exact h0.elim
       · exact absurd h0.2 (by simp [Blk.len])
       · obtain ⟨⟨hk0,hok⟩,hL⟩ := h0
         obtain ⟨cur,e1,fz,hc,hfz,hone,hfl,hcells⟩ := hL.lies rfl
         have e3 : (Blk.g k [AV.agg ys]).flat = ys := by simp [Blk.flat,AV.leaves]
         have e4 : (Blk.g k [AV.agg (setSlot ys j (.ms nx s 0 0))]).flat = setSlot ys j (.ms nx s 0 0) := by simp [Blk.flat,AV.leaves]
         rw [e3] at hfl
         have hcell : ∀ (t : Nat) (h : t < ys.length) (h' : t < cur.size),(slot ys t).leaf = true ∧ R w loc (slot ys t) cur[t] := by
           intro t h h'
           have := hcells t (by rw [e3]; exact h) h'
           have e5 : (Blk.g k [AV.agg ys]).flat[t]'(by rw [e3]; exact h) = slot ys t := by
             rw [← getElem_slot ys t h]; simp [e3]
           rw [e5] at this; exact this
         refine ⟨⟨hk0,?_⟩,Lies.mkC ⟨cur,e1,fz,hc,hfz,hone,by rw [e4,zak]; exact hfl,?_⟩⟩
         · intro x hx
           obtain rfl := List.mem_singleton.1 hx
           have := hok (.agg ys) (List.mem_singleton.2 rfl)
           simpa [AV.leaves,zak] using this
         · intro t h h'
           have ht : t < ys.length := by rw [e4,zak] at h; exact h
           have e5 : (Blk.g k [AV.agg (setSlot ys j (.ms nx s 0 0))]).flat[t] = slot (setSlot ys j (.ms nx s 0 0)) t := by
             rw [← getElem_slot _ t (by rw [zak]; exact ht)]; simp [e4]
           rw [e5]
           by_cases htj : j = t
           · subst htj
             rw [zbe hj]
             obtain ⟨a',he⟩ := nilV_R hn (hcell j hj h').2
             refine ⟨rfl,?_⟩
             rw [he]
             refine .ms _ _ _ _ _ ?_
             unfold Owns
             rw [Loc.set_same]
             exact ⟨rfl,a',rfl⟩
           · rw [zax htj]
             exact ⟨(hcell t ht h').1,(hcell t ht h').2.ext hE⟩
     · rename_i e2
       by_cases hfr : loc.m id = .free
       · exact BlkR.free (by rw [Loc.set_other _ _ (Ne.symm e)]; exact hfr)
       · exact (hr.heap id c hl).ext hE (fun h => h) hfr
 · intro id hid
   simp only at hid
   rw [Loc.set_other _ _ (by omega)]; exact hr.fresh id (by simp only; omega)
 · intro id c hl
   simp only at hl
   rw [zan] at hl
   split at hl
   · simp only; omega
   · rw [zan] at hl
     split at hl
     · simp only; omega
     · have := hr.low id c hl
       simp only at this ⊢; omega
theorem weak_fgC {sl : List AV} {H : Heap} {nx : Nat} (id s i id0 : Nat) (zs : List AV) (b0 : Blk) (hl : look H id = some (.g s zs)) (hcl : closedL zs = true) (h0 : look H id0 = some b0) (hi0 : id0 ∈ (slot sl i).ids) (hin : id ∈ b0.idsB) : Weak ⟨sl,H,nx⟩ ⟨fgL id s zs sl,fgH id s zs H,nx⟩ := by
 rintro w0 E B a w ⟨loc,hB,hr⟩
 have h1 := ids_live _ _ (hr.slots i) hi0
 have h2 : loc.m id ≠ .free := by
   obtain ⟨hok,⟨_,e⟩ | ⟨c,hc,hlies⟩⟩ := hr.heap.get h0 h1
   · rw [idsB_nil e] at hin; simp at hin
   · exact lies_live hlies id hin
 obtain ⟨h3,h4⟩ := rel_fg hB hr h2 (hr.heap id _ hl) hcl
 exact ⟨_,h3,h4⟩
end Ax
end Go.Proofs.Ythjceeimbohajaa
namespace Go.Proofs.Ythjceeimbohajaa
open Ax
def own36S : zat
 | [.agg [.w (.int .i64 n),.sg 4 xs f]],[] => ⟨xs.length ≤ 1000000 ∧ ∃ l : List VR,xs = l.map vrA,.agg [.w (.int .i64 n),.sg 4 xs false],[]⟩
 | _,_ => zcs
def own36Pl : Plan := fun id => match id with
 | 5 => some []
 | _ => none
section
set_option maxRecDepth 100000
set_option maxHeartbeats 4000000 in
theorem own36_sound : zbb Try.prog 18 own36S := by
 refine zdj (S := noS) (T := ty) (pl := own36Pl) zbs ty_ok zdn Try.func18 (c := Try.f18.body.getD .skip) (by kernel_rfl) (by kernel_rfl) (fun xs pins hp _ => ?_)
 unfold own36S at hp ⊢
 split at hp
 · rename_i n xs f _
   obtain ⟨hL,l,rfl⟩ := hp
   rw [List.length_map] at hL
   have hle : (l.map vrA).length = l.length := by simp
   have ht : top = 4294967296 := rfl
   refine ⟨by simp,?_⟩
   unfold Try.f18
   simp only [go_sem,zaa,Nat.reduceAdd,Nat.reduceSub,Nat.reduceMul,Int.reduceToNat,reduceCtorEq,↓reduceIte,Int.reducePow,Nat.reducePow,Int.reduceMod,Nat.reduceLeDiff,Int.reduceLE,Int.reduceNe,Int.reduceEq,Nat.reduceEqDiff,Nat.reduceLT,Nat.reduceBEq,List.map_cons,List.map_nil,List.toList_toArray,Array.toList_append,Option.toArray_some,Option.toArray_none,Bool.and_self,ty,noS,own36Pl,hle,fillS]
   refine zci ⟨fun m σ => ∃ i : Nat,m = l.length - i ∧ i ≤ l.length ∧
     σ = ⟨[.agg [.w (.int .i64 n),.sg 4 (l.map vrA) f],.rf 4 2 0 0,.rf 5 2 0 0,.rf 6 2 0 0,.w (.int .i64 i),.junk,.junk,.junk,.junk,.junk,.junk,.junk,.junk,.junk,.junk,.junk,.junk,.junk,.junk,.junk,.junk,.junk,.junk,.junk,.junk,.junk],[(4,.g 2 [.agg [.w (.int .i64 n),.sg 4 (l.map vrA) f]]),(5,.g 2 [.agg [.w (.int .i64 0),.sg 4 [] true]]),(6,.g 2 [.agg [.w (.int .i64 n),.ms 7 4 0 i]]),(7,.g 4 ((l.take i).map vrA))],8⟩,?_,?_⟩
   · refine ⟨_,_,(weak_nilB 44 2 1 4 [.w (.int .i64 n),.sg 4 [] true] rfl (by simp) (by exact trivial) (by decide)).trans (zai [0,1,2,3,4,12,44,68] rfl rfl rfl ?_ ?_),0,rfl,by omega,rfl⟩
     · simp only [ssT,zao,zap,setSlot,gOf,AV.ren,renL,Blk.ren,Ax.look,Ax.put,reduceCtorEq,↓reduceIte,Nat.reduceEqDiff,Nat.reduceLT,Nat.reduceAdd,List.length_append,List.length_cons,List.length_nil,Option.some.injEq]; try simp
     · simp only [ssT,zao,zap,setSlot,gOf,AV.ren,renL,Blk.ren,Ax.look,Ax.put,reduceCtorEq,↓reduceIte,Nat.reduceEqDiff,Nat.reduceLT,Nat.reduceAdd,List.length_append,List.length_cons,List.length_nil,Option.some.injEq]; try simp [renL]
   · rintro m σ ⟨i,rfl,hi,rfl⟩
     have hml : ((l.take i).map vrA).length = i := by simp; omega
     by_cases hil : i < l.length
     · have d2 : decide ((i : Int) < l.length) = true := decide_eq_true (by omega)
       have e1 : ((i : Int) + 1 + 9223372036854775808) % 18446744073709551616 - 9223372036854775808 = ((i + 1 : Nat) : Int) := by omega
       have hs1 := zcm l i hil
       have htk : l.take (i + 1) = l.take i ++ [l[i]] := List.take_succ_eq_append_getElem hil
       obtain ⟨r,hr⟩ : ∃ r,l[i] = r := ⟨_,rfl⟩
       rw [hr] at hs1 htk
       obtain ⟨k,v,o,t⟩ := r
       have hs1 : slot (l.map vrA) i = .agg [.str k,.str v,.w (.int .i64 o),.w (.int .i64 t)] := hs1
       have hat : (l.take i).map vrA ++ [.agg [.str k,.str v,.w (.int .i64 o),.w (.int .i64 t)]] = (l.take (i + 1)).map vrA := by rw [htk,List.map_append]; rfl
       simp only [go_sem,zaa,Nat.reduceAdd,Nat.reduceSub,Nat.reduceMul,Int.reduceToNat,reduceCtorEq,↓reduceIte,Int.reducePow,Nat.reducePow,Int.reduceMod,Nat.reduceLeDiff,Int.reduceLE,Int.reduceNe,Int.reduceEq,Nat.reduceEqDiff,Nat.reduceLT,Nat.reduceBEq,List.map_cons,List.map_nil,List.toList_toArray,Array.toList_append,Option.toArray_some,Option.toArray_none,Bool.and_self,ty,noS,own36Pl,hle,hml,d2,hs1,e1,Int.toNat_natCast,ids_vr,hat]
       repeat (refine And.intro (by first | omega | decide) ?_)
       refine ⟨l.length - (i + 1),_,by omega,zai [0,1,2,3,4,5,6,112] rfl rfl rfl ?_ ?_,i + 1,rfl,by omega,rfl⟩
       · simp only [ssT,zao,zap,setSlot,gOf,AV.ren,renL,Blk.ren,Ax.look,Ax.put,reduceCtorEq,↓reduceIte,Nat.reduceEqDiff,Nat.reduceLT,Nat.reduceAdd,List.length_append,List.length_cons,List.length_nil,Option.some.injEq]; try simp
       · simp only [ssT,zao,zap,setSlot,gOf,AV.ren,renL,Blk.ren,Ax.look,Ax.put,reduceCtorEq,↓reduceIte,Nat.reduceEqDiff,Nat.reduceLT,Nat.reduceAdd,List.length_append,List.length_cons,List.length_nil,Option.some.injEq,ren_vr]; try simp
     · have d2 : decide ((i : Int) < l.length) = false := decide_eq_false (by omega)
       have hii : l.take i = l := List.take_of_length_le (by omega)
       rw [hii] at hml ⊢
       have hdle : decide (0 + i ≤ (l.map vrA).length) = true := decide_eq_true (by omega)
       have htk : (l.map vrA).take i = l.map vrA := List.take_of_length_le (by omega)
       simp only [go_sem,zaa,Nat.reduceAdd,Nat.reduceSub,Nat.reduceMul,Int.reduceToNat,reduceCtorEq,↓reduceIte,Int.reducePow,Nat.reducePow,Int.reduceMod,Nat.reduceLeDiff,Int.reduceLE,Int.reduceNe,Int.reduceEq,Nat.reduceEqDiff,Nat.reduceLT,Nat.reduceBEq,List.map_cons,List.map_nil,List.toList_toArray,Array.toList_append,Option.toArray_some,Option.toArray_none,Bool.and_self,ty,noS,own36Pl,hle,d2]
       refine ⟨_,weak_fgC 7 4 3 6 (l.map vrA) _ rfl (zcp l) rfl (by simp [slot,AV.ids]) (by simp [Blk.idsB,Blk.closed,closedL,AV.closed,idsL,AV.ids]),?_⟩
       simp only [fgL,fgH,AV.fg,Blk.fg,Nat.reduceBEq,cond_true,cond_false,hdle,Bool.and_true,beq_self_eq_true,Bool.true_and,List.drop_zero,htk]
       simp only [go_sem,zaa,Nat.reduceAdd,Nat.reduceSub,Nat.reduceMul,Int.reduceToNat,reduceCtorEq,↓reduceIte,Int.reducePow,Nat.reducePow,Int.reduceMod,Nat.reduceLeDiff,Int.reduceLE,Int.reduceNe,Int.reduceEq,Nat.reduceEqDiff,Nat.reduceLT,Nat.reduceBEq,List.map_cons,List.map_nil,List.toList_toArray,Array.toList_append,Option.toArray_some,Option.toArray_none,Bool.and_self,ty,noS,own36Pl]
       refine ⟨_,Weak.refl _,?_⟩
       simp only [go_sem,zaa,Nat.reduceAdd,Nat.reduceSub,Nat.reduceMul,Int.reduceToNat,reduceCtorEq,↓reduceIte,Int.reducePow,Nat.reducePow,Int.reduceMod,Nat.reduceLeDiff,Int.reduceLE,Int.reduceNe,Int.reduceEq,Nat.reduceEqDiff,Nat.reduceLT,Nat.reduceBEq,List.map_cons,List.map_nil,List.toList_toArray,Array.toList_append,Option.toArray_some,Option.toArray_none,Bool.and_self,ty,noS]
 · exact hp.elim
end
end Go.Proofs.Ythjceeimbohajaa
namespace Go.Proofs.Ythjceeimbohajaa
open Ax
theorem tkL_length (n : Int) (bs : List UInt8) : (tkL n bs).length ≤ bs.length := by unfold tkL; split <;> simp
theorem rtL_length (m : Int) (bs : List UInt8) (e : Int) : (rtL m bs e).length ≤ bs.length := by
 unfold rtL
 have h1 := zbh bs e
 split
 · have := tkL_length (numN bs e) (numL bs e); omega
 · exact h1
section
set_option maxRecDepth 100000
set_option maxHeartbeats 2000000 in
end
end Go.Proofs.Ythjceeimbohajaa
