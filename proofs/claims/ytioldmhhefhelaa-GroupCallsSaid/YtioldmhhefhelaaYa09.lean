/- What the proofs of this seat stand on; it asks nothing. -/
import Derived.Test.YtioldmhhefhelaaYa08
set_option linter.unusedSimpArgs false
set_option linter.unusedVariables false
namespace Go.Proofs.Ytioldmhhefhelaa
open Ax
def yrj : zan
 | [.sg 1 xs f],[] => ⟨xs.length ≤ 1000000 ∧ ∃ l : List (List UInt8),xs = l.map AV.str ∧ srtT l,.sg 1 xs f,[]⟩
 | _,_ => zbg
def zsl : zan
 | [.str x],[] => ⟨True,.w (.bool false),[]⟩
 | _,_ => zbg
def yky : zan
 | [.str x,.str y],[] => ⟨True,.w (.bool (Op.bytesLess x y)),[]⟩
 | _,_ => zbg
def bsTS : zan
 | [.sg 1 xs f,.str t],[] => ⟨xs.length ≤ 1000000 ∧ ∃ l : List (List UInt8),xs = l.map AV.str ∧ srtT l,.tup [.w (.int .i64 ((plT t (xs.map strB) : Nat) : Int)),.w (.bool (thT t (xs.map strB)))],[]⟩
 | _,_ => zbg
section
set_option maxRecDepth 100000
set_option maxHeartbeats 4000000
theorem yhc : zaz Try.prog 74 zsl := by
 refine zbc (S := noS) (T := ty) mixed ty_ok zbh Try.func74 (c := Try.f74.body.getD .skip) (by kernel_rfl) (by kernel_rfl) (fun xs pins hp _ => ?_)
 unfold zsl at hp ⊢
 split at hp
 ·rename_i x _
  refine ⟨by simp,?_⟩
  have d1 : decide (x = x) = true := decide_eq_true rfl
  unfold Try.f74
  simp only [go_sem,zab,↓reduceIte,ty,noS,d1,Bool.not_true]
 ·exact hp.elim
theorem ybd : zaz Try.prog 67 zsl := by
 refine zbc (S := noS) (T := ty) mixed ty_ok zbh Try.func67 (c := Try.f67.body.getD .skip) (by kernel_rfl) (by kernel_rfl) (fun xs pins hp _ => ?_)
 unfold zsl at hp ⊢
 split at hp
 ·rename_i x _
  refine ⟨by simp,?_⟩
  have d1 : decide (x = x) = true := decide_eq_true rfl
  unfold Try.f67
  simp only [go_sem,zab,↓reduceIte,ty,noS,d1,Bool.not_true]
 ·exact hp.elim
end
def yfz (f : FuncId) : Option zan :=
 match f with
 | 74 => some zsl
 | _ => none
theorem yov : Fns Try.prog yfz := by
 intro f s h
 unfold yfz at h
 split at h
 ·injection h with h; subst h; exact ⟨⟨_,Try.func74,by kernel_rfl,by kernel_rfl⟩,yhc⟩
 ·cases h
section
set_option maxRecDepth 100000
set_option maxHeartbeats 4000000
theorem yhe : zaz Try.prog 66 yky := by
 refine zbc (S := yfz) (T := ty) mixed ty_ok yov Try.func66 (c := Try.f66.body.getD .skip) (by kernel_rfl) (by kernel_rfl) (fun xs pins hp _ => ?_)
 unfold yky at hp ⊢
 split at hp
 ·rename_i x y _
  refine ⟨by simp,?_⟩
  unfold Try.f66
  cases hb : Op.bytesLess x y <;> simp only [go_sem,zab,↓reduceIte,ty,yfz,zsl,hb,Bool.not_true,Bool.not_false]
 ·exact hp.elim
theorem yht : zaz Try.prog 70 yrj := by
 refine zbc (S := noS) (T := ty) mixed ty_ok zbh Try.func70 (c := Try.f70.body.getD .skip) (by kernel_rfl) (by kernel_rfl) (fun xs pins hp _ => ?_)
 unfold yrj at hp ⊢
 split at hp
 ·rename_i xs f _
  obtain ⟨hL,l,rfl,hs⟩ := hp
  rw [List.length_map] at hL
  have hlp : (l.map AV.str).length = l.length := by simp
  refine ⟨by simp,?_⟩
  unfold Try.f70
  by_cases h2 : l.length < 2
  ·have d0 : decide ((l.length : Int) < 2) = true := decide_eq_true (by omega)
   simp only [go_sem,zab,↓reduceIte,ty,noS,hlp,d0]
  ·have d0 : decide ((l.length : Int) < 2) = false := decide_eq_false (by omega)
   simp only [go_sem,zab,↓reduceIte,ty,noS,hlp,d0]
   refine zbf ⟨fun m σ => ∃ (k : Nat),m = l.length - k ∧ 1 ≤ k ∧ k ≤ l.length ∧ σ = ⟨[.sg 1 (l.map .str) f,.junk,.sg 1 [] true,.w (.int .i64 k),.junk,.junk,.junk,.junk,.junk,.junk,.junk,.junk,.junk,.junk,.junk,.junk,.junk,.junk,.junk,.junk,.junk,.junk,.junk,.junk,.junk,.junk,.junk,.junk,.junk,.junk,.junk,.junk,.junk,.junk,.junk,.junk,.junk,.junk,.junk,.junk,.junk,.junk,.junk,.junk,.junk,.junk,.junk,.junk,.junk,.junk,.junk,.junk,.junk,.junk,.junk,.junk,.junk,.junk,.junk,.junk,.junk],[],4⟩,?_,?_⟩
   ·refine ⟨_,_,zag [0,1,2,3] rfl rfl rfl ?_ ?_,1,rfl,by omega,by omega,rfl⟩
    ·simp only [ssT,zal,zam,setSlot,gOf,AV.ren,renL,Blk.ren,Ax.look,Ax.put,reduceCtorEq,↓reduceIte,Nat.reduceEqDiff,Nat.reduceLT,Nat.reduceAdd,List.length_append,List.length_cons,List.length_nil,Option.some.injEq]; try simp
    ·simp only [ssT,zal,zam,setSlot,gOf,AV.ren,renL,Blk.ren,Ax.look,Ax.put,reduceCtorEq,↓reduceIte,Nat.reduceEqDiff,Nat.reduceLT,Nat.reduceAdd,List.length_append,List.length_cons,List.length_nil,Option.some.injEq]
   ·rintro m σ ⟨k,rfl,hk1,hk,rfl⟩
    by_cases hkl : k < l.length
    ·obtain ⟨j,rfl⟩ : ∃ j,k = j + 1 := ⟨k - 1,by omega⟩
     have d3 : decide (((j + 1 : Nat) : Int) < l.length) = true := decide_eq_true (by omega)
     have e1 : (((j + 1 : Nat) : Int) + 1 + 9223372036854775808) % 18446744073709551616 - 9223372036854775808 = ((j + 1 + 1 : Nat) : Int) := by omega
     have e2 : (((j + 1 : Nat) : Int) - 1 + 9223372036854775808) % 18446744073709551616 - 9223372036854775808 = ((j : Nat) : Int) := by omega
     have hs1 := zex l (j + 1) hkl
     have hs2 := zex l j (by omega)
     have hne : decide (l[j + 1] = l[j]'(by omega)) = false := decide_eq_false (fun e => by
      have := zvd hs (i := j) (j := j + 1) (by omega) hkl
      rw [e] at this
      exact List.lt_irrefl _ this)
     obtain ⟨X,hX⟩ : ∃ X,l[j + 1] = X := ⟨_,rfl⟩
     obtain ⟨Y,hY⟩ : ∃ Y,l[j]'(by omega) = Y := ⟨_,rfl⟩
     rw [hX] at hs1 hne
     rw [hY] at hs2 hne
     simp only [go_sem,zab,↓reduceIte,ty,noS,hlp,d3,hs1,hs2,hne,e1,e2,Int.toNat_natCast]
     repeat (refine And.intro (by omega) ?_)
     refine ⟨l.length - (j + 1 + 1),_,by omega,zag [0,1,2,3] rfl rfl rfl ?_ ?_,j + 1 + 1,rfl,by omega,by omega,rfl⟩
     ·simp only [ssT,zal,zam,setSlot,gOf,AV.ren,renL,Blk.ren,Ax.look,Ax.put,reduceCtorEq,↓reduceIte,Nat.reduceEqDiff,Nat.reduceLT,Nat.reduceAdd,List.length_append,List.length_cons,List.length_nil,Option.some.injEq]
     ·simp only [ssT,zal,zam,setSlot,gOf,AV.ren,renL,Blk.ren,Ax.look,Ax.put,reduceCtorEq,↓reduceIte,Nat.reduceEqDiff,Nat.reduceLT,Nat.reduceAdd,List.length_append,List.length_cons,List.length_nil,Option.some.injEq]
    ·have d3 : decide ((k : Int) < l.length) = false := decide_eq_false (by omega)
     simp only [go_sem,zab,↓reduceIte,ty,noS,hlp,d3]
     refine ⟨_,Weak.refl _,?_⟩
     simp only [go_sem,zab,↓reduceIte,ty,noS]
 ·exact hp.elim
end
def zsy (f : FuncId) : Option zan :=
 match f with
 | 66 => some yky
 | 67 => some zsl
 | _ => none
theorem ysp : Fns Try.prog zsy := by
 intro f s h
 unfold zsy at h
 split at h
 ·injection h with h; subst h; exact ⟨⟨_,Try.func66,by kernel_rfl,by kernel_rfl⟩,yhe⟩
 ·injection h with h; subst h; exact ⟨⟨_,Try.func67,by kernel_rfl,by kernel_rfl⟩,ybd⟩
 ·cases h
section
set_option maxRecDepth 100000
set_option maxHeartbeats 4000000
theorem yny : zaz Try.prog 60 bsTS := by
 refine zbc (S := zsy) (T := ty) mixed ty_ok ysp Try.func60 (c := Try.f60.body.getD .skip) (by kernel_rfl) (by kernel_rfl) (fun xs pins hp _ => ?_)
 unfold bsTS at hp ⊢
 split at hp
 ·rename_i xs f t _
  obtain ⟨hL,l,rfl,hs⟩ := hp
  rw [List.length_map] at hL
  have hlp : (l.map AV.str).length = l.length := by simp
  rw [zid]
  obtain ⟨Q,hQ⟩ : ∃ Q,thT t l = Q := ⟨_,rfl⟩
  obtain ⟨P,hP⟩ : ∃ P,plT t l = P := ⟨_,rfl⟩
  rw [hQ,hP]
  refine ⟨by simp,?_⟩
  unfold Try.f60
  simp only [go_sem,zab,↓reduceIte,ty,zsy,hlp]
  refine zbf ⟨fun m σ => ∃ (i j : Nat),m = j - i ∧ i ≤ j ∧ j ≤ l.length ∧ (∀ x ∈ l.take i,Op.bytesLess x t = true) ∧ (∀ x ∈ l.drop j,Op.bytesLess x t = false) ∧
    σ = ⟨[.sg 1 (l.map .str) f,.str t,.junk,.junk,.w (.int .i64 0),.w (.bool false),.w (.int .i64 l.length),.w (.int .i64 i),.w (.int .i64 j),.junk,.junk,.junk,.junk,.junk,.junk,.junk,.junk,.junk,.junk,.junk,.junk,.junk,.junk,.junk,.junk,.junk,.junk,.junk,.junk,.junk,.junk,.junk,.junk,.junk,.junk,.junk,.junk,.junk,.junk,.junk,.junk,.junk,.junk,.junk,.junk,.junk,.junk,.junk,.junk,.junk,.junk,.junk,.junk,.junk],[],4⟩,?_,?_⟩
  ·refine ⟨_,_,zag [0,1,2,3] rfl rfl rfl ?_ ?_,0,l.length,rfl,by omega,by omega,by simp,by simp,rfl⟩
   ·simp only [ssT,zal,zam,setSlot,gOf,AV.ren,renL,Blk.ren,Ax.look,Ax.put,reduceCtorEq,↓reduceIte,Nat.reduceEqDiff,Nat.reduceLT,Nat.reduceAdd,List.length_append,List.length_cons,List.length_nil,Option.some.injEq]; try simp
   ·simp only [ssT,zal,zam,setSlot,gOf,AV.ren,renL,Blk.ren,Ax.look,Ax.put,reduceCtorEq,↓reduceIte,Nat.reduceEqDiff,Nat.reduceLT,Nat.reduceAdd,List.length_append,List.length_cons,List.length_nil,Option.some.injEq]
  ·rintro m σ ⟨i,j,rfl,hij,hj,hlo,hhi,rfl⟩
   by_cases hlt : i < j
   ·have d3 : decide ((i : Int) < (j : Int)) = true := decide_eq_true (by omega)
    have e0 : ((i : Int) + (j : Int) + 9223372036854775808) % 18446744073709551616 - 9223372036854775808 = ((i + j : Nat) : Int) := by omega
    have e1 : (((i + j : Nat) : Int)) % 18446744073709551616 = ((i + j : Nat) : Int) := by omega
    obtain ⟨h,hh⟩ : ∃ h,(i + j) / 2 = h := ⟨_,rfl⟩
    have hb : i ≤ h ∧ h < j := by omega
    have hs1 := zex l h (by omega)
    obtain ⟨X,hX⟩ : ∃ X,l[h]'(by omega) = X := ⟨_,rfl⟩
    rw [hX] at hs1
    have e2 : (((i + j : Nat) : Int) / 2 + 9223372036854775808) % 18446744073709551616 - 9223372036854775808 = (h : Int) := by omega
    have e3 : ((h : Int) + 1 + 9223372036854775808) % 18446744073709551616 - 9223372036854775808 = ((h + 1 : Nat) : Int) := by omega
    cases hv : Op.bytesLess X t with
    | true =>
     have hlo2 : ∀ x ∈ l.take (h + 1),Op.bytesLess x t = true := yjc hs (by omega) (by rw [hX]; exact hv)
     simp only [go_sem,zab,↓reduceIte,ty,zsy,yky,hlp,d3,hs1,hv,e0,e1,e2,e3,Int.toNat_natCast]
     repeat (first | refine And.intro (by omega) ?_ | refine And.intro ⟨by omega,by omega⟩ ?_)
     refine ⟨j - (h + 1),_,by omega,zag [0,1,2,3] rfl rfl rfl ?_ ?_,h + 1,j,rfl,by omega,by omega,hlo2,hhi,rfl⟩
     ·simp only [ssT,zal,zam,setSlot,gOf,AV.ren,renL,Blk.ren,Ax.look,Ax.put,reduceCtorEq,↓reduceIte,Nat.reduceEqDiff,Nat.reduceLT,Nat.reduceAdd,List.length_append,List.length_cons,List.length_nil,Option.some.injEq]
     ·simp only [ssT,zal,zam,setSlot,gOf,AV.ren,renL,Blk.ren,Ax.look,Ax.put,reduceCtorEq,↓reduceIte,Nat.reduceEqDiff,Nat.reduceLT,Nat.reduceAdd,List.length_append,List.length_cons,List.length_nil,Option.some.injEq]
    | false =>
     have hhi2 : ∀ x ∈ l.drop h,Op.bytesLess x t = false := yjd hs (by omega) (by rw [hX]; exact hv)
     simp only [go_sem,zab,↓reduceIte,ty,zsy,yky,hlp,d3,hs1,hv,e0,e1,e2,e3,Int.toNat_natCast]
     repeat (first | refine And.intro (by omega) ?_ | refine And.intro ⟨by omega,by omega⟩ ?_)
     refine ⟨h - i,_,by omega,zag [0,1,2,3] rfl rfl rfl ?_ ?_,i,h,rfl,by omega,by omega,hlo,hhi2,rfl⟩
     ·simp only [ssT,zal,zam,setSlot,gOf,AV.ren,renL,Blk.ren,Ax.look,Ax.put,reduceCtorEq,↓reduceIte,Nat.reduceEqDiff,Nat.reduceLT,Nat.reduceAdd,List.length_append,List.length_cons,List.length_nil,Option.some.injEq]
     ·simp only [ssT,zal,zam,setSlot,gOf,AV.ren,renL,Blk.ren,Ax.look,Ax.put,reduceCtorEq,↓reduceIte,Nat.reduceEqDiff,Nat.reduceLT,Nat.reduceAdd,List.length_append,List.length_cons,List.length_nil,Option.some.injEq]
   ·have d3 : decide ((i : Int) < (j : Int)) = false := decide_eq_false (by omega)
    obtain rfl : i = j := by omega
    have hpl := plT_at (k := t) (l := l) (i := i) (by omega) hlo hhi
    simp only [go_sem,zab,↓reduceIte,ty,zsy,hlp,d3]
    refine ⟨_,Weak.refl _,?_⟩
    by_cases hil : i < l.length
    ·have d4 : decide ((i : Int) < l.length) = true := decide_eq_true (by omega)
     have hs1 := zex l i hil
     obtain ⟨X,hX⟩ : ∃ X,l[i] = X := ⟨_,rfl⟩
     rw [hX] at hs1
     have hth : Q = decide (X = t) := by
            rw [← hQ,ytf (by rw [hpl]; exact hil)]; simp only [hpl,hX]
     cases hd : decide (X = t) with
     | true =>
      rw [hd] at hth
      simp only [go_sem,zab,↓reduceIte,ty,zsy,zsl,hlp,d4,hs1,hd,Int.toNat_natCast]
      repeat (first | refine And.intro (by omega) ?_ | refine And.intro ⟨by omega,by omega⟩ ?_)
      rw [hth,← hP,hpl]
     | false =>
      rw [hd] at hth
      simp only [go_sem,zab,↓reduceIte,ty,zsy,zsl,hlp,d4,hs1,hd,Int.toNat_natCast]
      repeat (first | refine And.intro (by omega) ?_ | refine And.intro ⟨by omega,by omega⟩ ?_)
      rw [hth,← hP,hpl]
    ·have d4 : decide ((i : Int) < l.length) = false := decide_eq_false (by omega)
     have hth : Q = false := by
            rw [← hQ,yak (by rw [hpl]; exact hil)]
     simp only [go_sem,zab,↓reduceIte,ty,zsy,zsl,hlp,d4,Int.toNat_natCast]
     subst hpl hth
     rw [← hP]
 ·exact hp.elim
end
end Go.Proofs.Ytioldmhhefhelaa
namespace Go.Proofs.Ytioldmhhefhelaa
open Ax
def clpN (p : Int) : Nat := (min (max p 0) 1000).toNat
theorem ybz (p : Int) : clpN p ≤ 1000 := by unfold clpN; omega
def clpS : zan
 | [.w (.int .i64 p)],[] => ⟨True,.w (.int .i64 ((clpN p : Nat) : Int)),[]⟩
 | _,_ => zbg
def sdTS : zan
 | [.sg 1 xs f],[] => ⟨(0 < xs.length ∧ xs.length ≤ 1000000) ∧ ∃ l : List (List UInt8),xs = l.map AV.str ∧ srtT l,.sg 1 xs false,[]⟩
 | _,_ => zbg
def yse (f : FuncId) : Option zan :=
 match f with
 | 68 => some yrk
 | 70 => some yrj
 | _ => none
theorem ysd : Fns Try.prog yse := by
 intro f s h
 unfold yse at h
 split at h
 ·injection h with h; subst h; exact ⟨⟨_,Try.func68,by kernel_rfl,by kernel_rfl⟩,yhu⟩
 ·injection h with h; subst h; exact ⟨⟨_,Try.func70,by kernel_rfl,by kernel_rfl⟩,yht⟩
 ·cases h
def ysv (f : FuncId) : Option zan :=
 match f with
 | 69 => some zpq
 | _ => none
theorem ysu : FnsO Try.prog ysv := by
 intro f s h
 unfold ysv at h
 split at h
 ·injection h with h; subst h; exact ⟨⟨_,Try.func69,by kernel_rfl,by kernel_rfl⟩,yap⟩
 ·cases h
def sdPl : zfi := fun id => match id with
 | 2 => .opn [] 1
 | _ => .std
theorem zet (l : List (List UInt8)) (h : Bool) : coe ty 52 (.sg 1 (l.map AV.str) h) = .sg 1 (l.map AV.str) h := by cases l <;> rfl
section
set_option maxRecDepth 100000
set_option maxHeartbeats 4000000
theorem ync : zaz Try.prog 71 clpS := by
 refine zbc (S := noS) (T := ty) mixed ty_ok zbh Try.func71 (c := Try.f71.body.getD .skip) (by kernel_rfl) (by kernel_rfl) (fun xs pins hp _ => ?_)
 unfold clpS at hp ⊢
 split at hp
 ·rename_i p _
  refine ⟨by simp,?_⟩
  obtain ⟨C,hC⟩ : ∃ C,clpN p = C := ⟨_,rfl⟩
  have hc : (C : Int) = (if 1000 < (if p < 0 then 0 else p) then 1000 else (if p < 0 then 0 else p)) := by
   rw [← hC]; unfold clpN
   split <;> split <;> omega
  rw [hC]
  unfold Try.f71
  simp only [go_sem,zab,↓reduceIte,ty,noS,hc]
 ·exact hp.elim
theorem zwr : zaz Try.prog 61 sdTS := by
 refine zbo (S := yse) (SO := ysv) (T := ty) mixed ty_ok ysd ysu Try.func61 (c := Try.f61.body.getD .skip) (by kernel_rfl) (fun xs pins hp _ => ?_)
 unfold sdTS at hp ⊢
 split at hp
 ·rename_i xs f _
  obtain ⟨⟨h0,hL⟩,l,rfl,hs⟩ := hp
  rw [List.length_map] at h0 hL
  refine ⟨by simp,sdPl,by kernel_rfl,?_⟩
  have hlp : (l.map AV.str).length = l.length := by simp
  have hem : empT (l.map AV.str) = false := by cases l with | nil => simp at h0 | cons _ _ => rfl
  have hex : ∃ es : List (List UInt8),l.map AV.str = es.map AV.str := ⟨l,rfl⟩
  have hex2 : ∃ es : List (List UInt8),l.map AV.str = es.map AV.str ∧ srtT es := ⟨l,rfl,hs⟩
  have hso : ziv l = l := ygr hs
  have hst := zid l
  have d1 : decide (0 < l.length) = true := decide_eq_true h0
  have hl4 : l.length < 4611686018427387904 := by omega
  have htk : List.take l.length (l.map AV.str) = l.map AV.str := List.take_of_length_le (by simp)
  unfold Try.f61
  simp only [go_sem,zaa,↓reduceIte,lcT,ty,yse,ysv,sdPl,yrk,yrj,zpq,hlp,hL,hem,hex,hex2,hso,hst,d1,h0,hl4,htk,yea,zdp,zet,cond_false]
  refine ⟨fun y hy => by obtain ⟨e,_,rfl⟩ := List.mem_map.1 hy; rfl,_,Weak.refl _,?_⟩
  simp only [go_sem,zaa,↓reduceIte,lcT,ty]
 ·exact hp.elim
end
end Go.Proofs.Ytioldmhhefhelaa
namespace Go.Proofs.Ytioldmhhefhelaa
open Ax
def iotI (s m : Nat) : List Int := (List.range m).map fun j => ((s + j : Nat) : Int)
def zmm (P n k : Nat) : Nat := P / n + (if k < P % n then 1 else 0)
def rgK (P n : Nat) : Nat → List (List Int) × Nat
 | 0 => ([],0)
 | k + 1 => ((rgK P n k).1 ++ [iotI (rgK P n k).2 (zmm P n k)],(rgK P n k).2 + zmm P n k)
def siA (l : List Int) : AV := .si l false
theorem zph (s m : Nat) : (iotI s m).length = m := by unfold iotI; simp
theorem zqq (s m : Nat) : iotI s m ++ [((s + m : Nat) : Int)] = iotI s (m + 1) := by
 unfold iotI; rw [List.range_succ,List.map_append]; rfl
theorem zpf (P n k : Nat) : zmm P n k ≤ P + 1 := by
 have := Nat.div_le_self P n
 unfold zmm; split <;> omega
theorem zqb (P n : Nat) : ∀ k,(rgK P n k).1.length = k
 | 0 => rfl
 | k + 1 => by simp only [rgK,List.length_append,List.length_cons,List.length_nil,zqb P n k]
theorem ytk (P n : Nat) : ∀ k,(rgK P n k).2 ≤ k * (P + 1)
 | 0 => by simp [rgK]
 | k + 1 => by
  have h1 := ytk P n k
  have h2 := zpf P n k
  have h3 : (k + 1) * (P + 1) = k * (P + 1) + (P + 1) := by rw [Nat.add_mul,Nat.one_mul]
  simp only [rgK]; omega
theorem zrj : ∀ (l : List (List Int)),closedL (l.map siA) = true
 | [] => rfl
 | x :: r => by simp only [List.map_cons,closedL,siA,AV.closed,Bool.true_and]; exact zrj r
theorem zfc : ∀ (l : List (List Int)),idsL (l.map siA) = []
 | [] => rfl
 | x :: r => by simp only [List.map_cons,idsL,siA,AV.ids,List.nil_append]; exact zfc r
theorem fi_si (id : Nat) (bs : List Int) : ∀ (l : List (List Int)),fiL id bs (l.map siA) = l.map siA
 | [] => rfl
 | x :: r => by
  simp only [List.map_cons,fiL,fi_si id bs r]; rfl
theorem zez (g : Nat → Nat) : ∀ (l : List (List Int)),renL g (l.map siA) = l.map siA
 | [] => rfl
 | x :: r => by simp only [List.map_cons,renL,zez g r]; rfl
def rgF (n : Nat) (p : Int) : List (List Int) := (rgK (clpN p) n n).1
def rgS : zan
 | [.sg 1 xs f,.w (.int .i64 p)],[] => ⟨(0 < xs.length ∧ xs.length ≤ 1000000) ∧ ∃ l : List (List UInt8),xs = l.map AV.str ∧ srtT l,.sg 1 ((rgF xs.length p).map siA) false,[]⟩
 | _,_ => zbg
def znh (f : FuncId) : Option zan :=
 match f with
 | 61 => some sdTS
 | 71 => some clpS
 | _ => none
theorem ysf : Fns Try.prog znh := by
 intro f s h
 unfold znh at h
 split at h
 ·injection h with h; subst h; exact ⟨⟨_,Try.func61,by kernel_rfl,by kernel_rfl⟩,zwr⟩
 ·injection h with h; subst h; exact ⟨⟨_,Try.func71,by kernel_rfl,by kernel_rfl⟩,ync⟩
 ·cases h
section
set_option maxRecDepth 100000
set_option maxHeartbeats 4000000
theorem yps : zaz Try.prog 62 rgS := by
 refine zbc (S := znh) (T := ty) mixed ty_ok ysf Try.func62 (c := Try.f62.body.getD .skip) (by kernel_rfl) (by kernel_rfl) (fun xs pins hp _ => ?_)
 unfold rgS at hp ⊢
 split at hp
 ·rename_i xs f p _
  obtain ⟨⟨h0,hL⟩,l,rfl,hs⟩ := hp
  rw [List.length_map] at h0 hL
  refine ⟨by simp,?_⟩
  have hlp : (l.map AV.str).length = l.length := by simp
  have hex2 : ∃ es : List (List UInt8),l.map AV.str = es.map AV.str ∧ srtT es := ⟨l,rfl,hs⟩
  unfold rgF
  rw [hlp]
  have hPl := ybz p
  obtain ⟨P,hP⟩ : ∃ P,clpN p = P := ⟨_,rfl⟩
  rw [hP] at hPl ⊢
  obtain ⟨n,hn⟩ : ∃ n,l.length = n := ⟨_,rfl⟩
  rw [hn] at h0 hL hlp ⊢
  have hn0 : ((n : Int) = 0) = False := eq_false (by omega)
  have hnn : ((n : Int) ≠ 0) = True := eq_true (by omega)
  have hql := Nat.div_le_self P n
  have hMv : ∀ k,zmm P n k = P / n + (if k < P % n then 1 else 0) := fun k => rfl
  have hq : Int.tdiv (P : Int) (n : Int) = ((P / n : Nat) : Int) := rfl
  have hr : Int.tmod (P : Int) (n : Int) = ((P % n : Nat) : Int) := rfl
  obtain ⟨Q,hQ⟩ : ∃ Q,P / n = Q := ⟨_,rfl⟩
  obtain ⟨R,hR⟩ : ∃ R,P % n = R := ⟨_,rfl⟩
  rw [hQ] at hql hq
  rw [hR] at hr
  simp only [hQ,hR] at hMv
  have e4 : ((Q : Int) + 9223372036854775808) % 18446744073709551616 - 9223372036854775808 = (Q : Int) := by omega
  unfold Try.f62
  simp only [go_sem,zab,↓reduceIte,ty,znh,sdTS,clpS,hlp,h0,hL,hex2,hP,zet]
  refine zbf ⟨fun m σ => ∃ (k : Nat),m = n - k ∧ k ≤ n ∧
    σ = ⟨[.sg 1 (l.map .str) f,.w (.int .i64 p),.junk,.junk,.sg 1 [] true,.w (.int .i64 n),.w (.int .i64 P),.ms 4 1 0 k,.w (.int .i64 (rgK P n k).2),.junk,.junk,.junk,.junk,.junk,.junk,.junk,.junk,.w (.int .i64 n),.w (.int .i64 k),.junk,.junk,.junk,.junk,.junk,.junk,.junk,.junk,.junk,.junk,.junk,.junk,.junk,.junk,.junk,.junk,.junk,.junk,.junk,.junk,.junk,.junk,.junk,.junk,.junk,.junk,.junk,.junk],[(4,.g 1 ((rgK P n k).1.map siA))],5⟩,?_,?_⟩
  ·refine ⟨_,_,(zen 7 1 (.g 1 []) ⟨by decide,rfl⟩ (by exact trivial)).trans (zag [0,1,2,3,100] rfl rfl rfl ?_ ?_),0,rfl,by omega,rfl⟩
   ·simp only [ssT,zal,zam,setSlot,gOf,AV.ren,renL,Blk.ren,Ax.look,Ax.put,reduceCtorEq,↓reduceIte,Nat.reduceEqDiff,Nat.reduceLT,Nat.reduceAdd,List.length_append,List.length_cons,List.length_nil,Option.some.injEq]; try simp [rgK]
   ·simp only [ssT,zal,zam,setSlot,gOf,AV.ren,renL,Blk.ren,Ax.look,Ax.put,reduceCtorEq,↓reduceIte,Nat.reduceEqDiff,Nat.reduceLT,Nat.reduceAdd,List.length_append,List.length_cons,List.length_nil,Option.some.injEq]; try simp [rgK,renL]
  ·rintro m σ ⟨k,rfl,hk,rfl⟩
   have e1 : ((k : Int) + 1 + 9223372036854775808) % 18446744073709551616 - 9223372036854775808 = ((k + 1 : Nat) : Int) := by omega
   have hrl := ytk P n k
   have hrn := zqb P n k
   have hml := zpf P n k
   have hkp : k * (P + 1) ≤ 1000000 * 1001 := Nat.mul_le_mul (by omega) (by omega)
   by_cases hkl : k < n
   ·have d3 : decide ((k : Int) < (n : Int)) = true := decide_eq_true (by omega)
    have hnx : (rgK P n (k + 1)) = ((rgK P n k).1 ++ [iotI (rgK P n k).2 (zmm P n k)],(rgK P n k).2 + zmm P n k) := rfl
    obtain ⟨L,s,hLs⟩ : ∃ L s,rgK P n k = (L,s) := ⟨_,_,rfl⟩
    rw [hLs] at hrl hrn hnx ⊢
    simp only at hrl hrn hnx ⊢
    obtain ⟨M,hM⟩ : ∃ M,zmm P n k = M := ⟨_,rfl⟩
    rw [hM] at hml hnx
    have hMk := hMv k
    rw [hM] at hMk
    by_cases hkR : k < R
    ·rw [if_pos hkR] at hMk
     have d4 : decide ((k : Int) < (R : Int)) = true := decide_eq_true (by omega)
     have e5 : ((Q : Int) + 1 + 9223372036854775808) % 18446744073709551616 - 9223372036854775808 = (M : Int) := by omega
     simp only [go_sem,zab,↓reduceIte,ty,znh,hn0,hnn,hq,hr,e4,e5,d3,d4]
     have hrl2 : (L.map siA).length = k := by simp [hrn]
     refine zbf ⟨fun m σ => ∃ (j : Nat),m = M - j ∧ j ≤ M ∧
       σ = ⟨[.sg 1 (l.map .str) f,.w (.int .i64 p),.junk,.junk,.sg 1 [] true,.w (.int .i64 n),.w (.int .i64 P),.ms 4 1 0 k,.w (.int .i64 ((s + j : Nat) : Int)),.w (.int .i64 k),.junk,.ms 5 1 0 j,.junk,.junk,.junk,.junk,.junk,.w (.int .i64 n),.w (.int .i64 k),.junk,.junk,.junk,.junk,.junk,.junk,.junk,.junk,.junk,.junk,.junk,.junk,.w (.int .i64 M),.w (.int .i64 j),.junk,.junk,.junk,.junk,.junk,.junk,.junk,.junk,.junk,.junk,.junk,.junk,.junk,.junk],[(4,.g 1 (L.map siA)),(5,.i (iotI s j))],6⟩,?_,?_⟩
     ·refine ⟨_,_,(zen 11 1 (.i []) rfl (by exact trivial)).trans (zag [0,1,2,3,4,149] rfl rfl rfl ?_ ?_),0,rfl,by omega,rfl⟩
      ·simp only [ssT,zal,zam,setSlot,gOf,AV.ren,renL,Blk.ren,Ax.look,Ax.put,reduceCtorEq,↓reduceIte,Nat.reduceEqDiff,Nat.reduceLT,Nat.reduceAdd,List.length_append,List.length_cons,List.length_nil,Option.some.injEq,zfc,zez]; try simp
      ·simp only [ssT,zal,zam,setSlot,gOf,AV.ren,renL,Blk.ren,Ax.look,Ax.put,reduceCtorEq,↓reduceIte,Nat.reduceEqDiff,Nat.reduceLT,Nat.reduceAdd,List.length_append,List.length_cons,List.length_nil,Option.some.injEq,zfc,zez]; try simp [iotI]
     ·rintro m σ ⟨j,rfl,hj,rfl⟩
      have e6 : ((j : Int) + 1 + 9223372036854775808) % 18446744073709551616 - 9223372036854775808 = ((j + 1 : Nat) : Int) := by omega
      have e7 : (((s + j : Nat) : Int) + 1 + 9223372036854775808) % 18446744073709551616 - 9223372036854775808 = ((s + (j + 1) : Nat) : Int) := by omega
      have hil := zph s j
      have hsn := zqq s j
      by_cases hjm : j < M
      ·have d6 : decide ((j : Int) < (M : Int)) = true := decide_eq_true (by omega)
       simp only [go_sem,zab,↓reduceIte,ty,znh,d6,e6,e7,hil,hsn,zfc]
       repeat (first | refine And.intro (by omega) ?_ | refine And.intro (by unfold top; omega) ?_)
       refine ⟨M - (j + 1),_,by omega,zag [0,1,2,3,4,38] rfl rfl rfl ?_ ?_,j + 1,rfl,by omega,rfl⟩
       ·simp only [ssT,zal,zam,setSlot,gOf,AV.ren,renL,Blk.ren,Ax.look,Ax.put,reduceCtorEq,↓reduceIte,Nat.reduceEqDiff,Nat.reduceLT,Nat.reduceAdd,List.length_append,List.length_cons,List.length_nil,Option.some.injEq,zfc,zez]; try simp
       ·simp only [ssT,zal,zam,setSlot,gOf,AV.ren,renL,Blk.ren,Ax.look,Ax.put,reduceCtorEq,↓reduceIte,Nat.reduceEqDiff,Nat.reduceLT,Nat.reduceAdd,List.length_append,List.length_cons,List.length_nil,Option.some.injEq,zfc,zez]; try simp
      ·have d6 : decide ((j : Int) < (M : Int)) = false := decide_eq_false (by omega)
       obtain rfl : j = M := by omega
       simp only [go_sem,zab,↓reduceIte,ty,znh,d6,hil,zfc]
       have hdle : decide (0 + j ≤ (iotI s j).length) = true := decide_eq_true (by rw [hil]; omega)
       have htk : List.take j (iotI s j) = iotI s j := List.take_of_length_le (by rw [hil]; omega)
       refine ⟨_,zuz 5 11 (iotI s j) rfl (by simp [slot,AV.ids]),?_⟩
       simp only [fiL,fiH,AV.fi,Blk.fi,fi_si,Nat.reduceBEq,cond_true,cond_false,hdle,Bool.and_true,beq_self_eq_true,Bool.true_and,List.drop_zero,htk]
       simp only [go_sem,zab,↓reduceIte,ty,znh,hrl2,e1,zfc]
       have hap : L.map siA ++ [AV.si (iotI s j) false] = (L ++ [iotI s j]).map siA := by simp [siA]
       repeat (refine And.intro (by first | omega | (unfold top; omega)) ?_)
       refine ⟨n - (k + 1),_,by omega,zag [0,1,2,3,38] rfl rfl rfl ?_ ?_,k + 1,rfl,by omega,rfl⟩
       ·simp only [ssT,zal,zam,setSlot,gOf,AV.ren,renL,Blk.ren,Ax.look,Ax.put,reduceCtorEq,↓reduceIte,Nat.reduceEqDiff,Nat.reduceLT,Nat.reduceAdd,List.length_append,List.length_cons,List.length_nil,Option.some.injEq,hnx]; try simp
       ·simp only [ssT,zal,zam,setSlot,gOf,AV.ren,renL,Blk.ren,Ax.look,Ax.put,reduceCtorEq,↓reduceIte,Nat.reduceEqDiff,Nat.reduceLT,Nat.reduceAdd,List.length_append,List.length_cons,List.length_nil,Option.some.injEq,hnx,hap,zez]; try simp [zez]
    ·rw [if_neg hkR,Nat.add_zero] at hMk
     subst hMk
     have d4 : decide ((k : Int) < (R : Int)) = false := decide_eq_false (by omega)
     simp only [go_sem,zab,↓reduceIte,ty,znh,hn0,hnn,hq,hr,e4,d3,d4]
     have hrl2 : (L.map siA).length = k := by simp [hrn]
     refine zbf ⟨fun m σ => ∃ (j : Nat),m = M - j ∧ j ≤ M ∧
       σ = ⟨[.sg 1 (l.map .str) f,.w (.int .i64 p),.junk,.junk,.sg 1 [] true,.w (.int .i64 n),.w (.int .i64 P),.ms 4 1 0 k,.w (.int .i64 ((s + j : Nat) : Int)),.w (.int .i64 k),.junk,.ms 5 1 0 j,.junk,.junk,.junk,.junk,.junk,.w (.int .i64 n),.w (.int .i64 k),.junk,.junk,.junk,.junk,.junk,.junk,.junk,.junk,.junk,.junk,.junk,.junk,.w (.int .i64 M),.w (.int .i64 j),.junk,.junk,.junk,.junk,.junk,.junk,.junk,.junk,.junk,.junk,.junk,.junk,.junk,.junk],[(4,.g 1 (L.map siA)),(5,.i (iotI s j))],6⟩,?_,?_⟩
     ·refine ⟨_,_,(zen 11 1 (.i []) rfl (by exact trivial)).trans (zag [0,1,2,3,4,125] rfl rfl rfl ?_ ?_),0,rfl,by omega,rfl⟩
      ·simp only [ssT,zal,zam,setSlot,gOf,AV.ren,renL,Blk.ren,Ax.look,Ax.put,reduceCtorEq,↓reduceIte,Nat.reduceEqDiff,Nat.reduceLT,Nat.reduceAdd,List.length_append,List.length_cons,List.length_nil,Option.some.injEq,zfc,zez]; try simp
      ·simp only [ssT,zal,zam,setSlot,gOf,AV.ren,renL,Blk.ren,Ax.look,Ax.put,reduceCtorEq,↓reduceIte,Nat.reduceEqDiff,Nat.reduceLT,Nat.reduceAdd,List.length_append,List.length_cons,List.length_nil,Option.some.injEq,zfc,zez]; try simp [iotI]
     ·rintro m σ ⟨j,rfl,hj,rfl⟩
      have e6 : ((j : Int) + 1 + 9223372036854775808) % 18446744073709551616 - 9223372036854775808 = ((j + 1 : Nat) : Int) := by omega
      have e7 : (((s + j : Nat) : Int) + 1 + 9223372036854775808) % 18446744073709551616 - 9223372036854775808 = ((s + (j + 1) : Nat) : Int) := by omega
      have hil := zph s j
      have hsn := zqq s j
      by_cases hjm : j < M
      ·have d6 : decide ((j : Int) < (M : Int)) = true := decide_eq_true (by omega)
       simp only [go_sem,zab,↓reduceIte,ty,znh,d6,e6,e7,hil,hsn,zfc]
       repeat (first | refine And.intro (by omega) ?_ | refine And.intro (by unfold top; omega) ?_)
       refine ⟨M - (j + 1),_,by omega,zag [0,1,2,3,4,38] rfl rfl rfl ?_ ?_,j + 1,rfl,by omega,rfl⟩
       ·simp only [ssT,zal,zam,setSlot,gOf,AV.ren,renL,Blk.ren,Ax.look,Ax.put,reduceCtorEq,↓reduceIte,Nat.reduceEqDiff,Nat.reduceLT,Nat.reduceAdd,List.length_append,List.length_cons,List.length_nil,Option.some.injEq,zfc,zez]; try simp
       ·simp only [ssT,zal,zam,setSlot,gOf,AV.ren,renL,Blk.ren,Ax.look,Ax.put,reduceCtorEq,↓reduceIte,Nat.reduceEqDiff,Nat.reduceLT,Nat.reduceAdd,List.length_append,List.length_cons,List.length_nil,Option.some.injEq,zfc,zez]; try simp
      ·have d6 : decide ((j : Int) < (M : Int)) = false := decide_eq_false (by omega)
       obtain rfl : j = M := by omega
       simp only [go_sem,zab,↓reduceIte,ty,znh,d6,hil,zfc]
       have hdle : decide (0 + j ≤ (iotI s j).length) = true := decide_eq_true (by rw [hil]; omega)
       have htk : List.take j (iotI s j) = iotI s j := List.take_of_length_le (by rw [hil]; omega)
       refine ⟨_,zuz 5 11 (iotI s j) rfl (by simp [slot,AV.ids]),?_⟩
       simp only [fiL,fiH,AV.fi,Blk.fi,fi_si,Nat.reduceBEq,cond_true,cond_false,hdle,Bool.and_true,beq_self_eq_true,Bool.true_and,List.drop_zero,htk]
       simp only [go_sem,zab,↓reduceIte,ty,znh,hrl2,e1,zfc]
       have hap : L.map siA ++ [AV.si (iotI s j) false] = (L ++ [iotI s j]).map siA := by simp [siA]
       repeat (refine And.intro (by first | omega | (unfold top; omega)) ?_)
       refine ⟨n - (k + 1),_,by omega,zag [0,1,2,3,38] rfl rfl rfl ?_ ?_,k + 1,rfl,by omega,rfl⟩
       ·simp only [ssT,zal,zam,setSlot,gOf,AV.ren,renL,Blk.ren,Ax.look,Ax.put,reduceCtorEq,↓reduceIte,Nat.reduceEqDiff,Nat.reduceLT,Nat.reduceAdd,List.length_append,List.length_cons,List.length_nil,Option.some.injEq,hnx]; try simp
       ·simp only [ssT,zal,zam,setSlot,gOf,AV.ren,renL,Blk.ren,Ax.look,Ax.put,reduceCtorEq,↓reduceIte,Nat.reduceEqDiff,Nat.reduceLT,Nat.reduceAdd,List.length_append,List.length_cons,List.length_nil,Option.some.injEq,hnx,hap,zez]; try simp [zez]
   ·have d3 : decide ((k : Int) < (n : Int)) = false := decide_eq_false (by omega)
    obtain rfl : k = n := by omega
    have hrl2 : ((rgK P k k).1.map siA).length = k := by simp [hrn]
    simp only [go_sem,zab,↓reduceIte,ty,znh,d3]
    have hdle : decide (0 + k ≤ ((rgK P k k).1.map siA).length) = true := decide_eq_true (by rw [hrl2]; omega)
    have htk : List.take k ((rgK P k k).1.map siA) = (rgK P k k).1.map siA := List.take_of_length_le (by rw [hrl2]; omega)
    refine ⟨_,zby 4 1 7 ((rgK P k k).1.map siA) rfl (zrj _) (by simp [slot,AV.ids]),?_⟩
    simp only [fgL,fgH,AV.fg,Blk.fg,Nat.reduceBEq,cond_true,cond_false,hdle,Bool.and_true,beq_self_eq_true,Bool.true_and,List.drop_zero,htk]
    simp only [go_sem,zab,↓reduceIte,ty,znh]
 ·exact hp.elim
end
end Go.Proofs.Ytioldmhhefhelaa
namespace Go.Proofs.Ytioldmhhefhelaa
namespace Ax
open Go.RowKit
structure ygc (P : Program) (f : FuncId) (s : Nat) (E : TypeId) (z : List Value) (by' : Nat) : Prop where
 shift : ∀ (b n c i vb vc : Nat) (cs vs : List Value) (w : World),i < n → n + 1 ≤ c → c ≤ 9223372036854775807 → vb ≠ b → cs.length = n * s → vs.length = s →
  (∀ j v,cs[j]? = some v → w.cell? ⟨b,j,none⟩ = some v) → (∀ j,j < (n + 1) * s → (w.cell? ⟨b,j,none⟩).isSome = true) → (∀ j,w.frozen? ⟨b,j,none⟩ = false) →
  (∀ j v,vs[j]? = some v → w.cell? ⟨vb,j,none⟩ = some v) → (∀ v ∈ cs,v.oneCell' = true) → (∀ v ∈ vs,v.oneCell' = true) →
  ∀ (tA tB : TypeId) (kA kB : Nat),w.shape? vb = some (tA,kA) → w.shape? b = some (tB,kB) → kB ≠ 0 → w.frozen? ⟨vb,0,none⟩ = false → w.frozen? ⟨vb,kA,none⟩ = false →
  Calls P f #[.slice (some ⟨b,0,none⟩) n c,.int .i64 i,.slice (some ⟨vb,0,none⟩) 1 vc] w fun e w' =>
   e = .returned (.slice (some ⟨b,0,none⟩) (n + 1) c) ∧ w' = (w.drew.setCells b ((i + 1) * s) (cs.drop (i * s))).setCells b (i * s) vs
 endroom : ∀ (b n c vb vc : Nat) (vs : List Value) (w : World),n + 1 ≤ c → c ≤ 9223372036854775807 → vs.length = s →
  (∀ j,j < (n + 1) * s → (w.cell? ⟨b,j,none⟩).isSome = true) → (∀ j,w.frozen? ⟨b,j,none⟩ = false) → (∀ j v,vs[j]? = some v → w.cell? ⟨vb,j,none⟩ = some v) → (∀ v ∈ vs,v.oneCell' = true) →
  Calls P f #[.slice (some ⟨b,0,none⟩) n c,.int .i64 n,.slice (some ⟨vb,0,none⟩) 1 vc] w fun e w' =>
   e = .returned (.slice (some ⟨b,0,none⟩) (n + 1) c) ∧ w' = w.setCells b (n * s) vs
 endgrow : ∀ (b o n c vb vc : Nat) (cs vs : List Value) (w : World),n ≤ c → c < n + 1 → (n + 1) * by' ≤ 140737488355328 → cs.length = n * s → vs.length = s →
  (∀ j v,cs[j]? = some v → w.cell? ⟨b,o + j,none⟩ = some v) → (∀ j v,vs[j]? = some v → w.cell? ⟨vb,j,none⟩ = some v) → (∀ v ∈ vs,v.oneCell' = true) →
  Calls P f #[.slice (some ⟨b,o,none⟩) n c,.int .i64 n,.slice (some ⟨vb,0,none⟩) 1 vc] w fun e w' =>
   e = .returned (.slice (some ⟨w.heap.size,0,none⟩) (n + 1) (grownCap w (n + 1) c E)) ∧
   w' = w.drew.alloc (.cells ((cs ++ vs).toArray ++ Builtin.zeroCells (Value.agg z.toArray).cells (grownCap w (n + 1) c E - (n + 1))) E)
 grow : ∀ (b n c i vb vc : Nat) (cs vs : List Value) (w : World),i < n → n ≤ c → c < n + 1 → (n + 1) * by' ≤ 140737488355328 → cs.length = n * s → vs.length = s →
  (∀ j v,cs[j]? = some v → w.cell? ⟨b,j,none⟩ = some v) → (∀ j v,vs[j]? = some v → w.cell? ⟨vb,j,none⟩ = some v) → (∀ v ∈ cs,v.oneCell' = true) → (∀ v ∈ vs,v.oneCell' = true) →
  Calls P f #[.slice (some ⟨b,0,none⟩) n c,.int .i64 i,.slice (some ⟨vb,0,none⟩) 1 vc] w fun e w' =>
   e = .returned (.slice (some ⟨w.heap.size,0,none⟩) (n + 1) (grownCap w (n + 1) c E)) ∧
   w' = (((w.alloc (.cells ((cs.take (i * s)).toArray ++ Builtin.zeroCells (Value.agg z.toArray).cells (n + 1 - i) ++ Builtin.zeroCells (Value.agg z.toArray).cells (grownCap w (n + 1) c E - (n + 1))) E)).drew.setCells w.heap.size (i * s) vs).drew).setCells w.heap.size ((i + 1) * s) (cs.drop (i * s))
def ypc (P : Program) (f : FuncId) (s : Nat) (z : List Value) : Prop :=
 ∀ (w : World) (b n c i q : Nat) (cs : List Value),i < q → q ≤ n → n ≤ c → c ≤ 9223372036854775807 → cs.length = n * s →
  (∀ j v,cs[j]? = some v → w.cell? ⟨b,j,none⟩ = some v) → (∀ j,j < n * s → (w.cell? ⟨b,j,none⟩).isSome = true) → (∀ j,w.frozen? ⟨b,j,none⟩ = false) → (∀ v ∈ cs,v.oneCell' = true) →
  Calls P f #[.slice (some ⟨b,0,none⟩) n c,.int .i64 i,.int .i64 q] w fun r w' => r = .returned (.slice (some ⟨b,0,none⟩) (i + (n - q)) c) ∧
   w' = (w.drew.setCells b (i * s) (cs.drop (q * s))).setCells b ((i + (n - q)) * s) (Builtin.zeroCells (Value.agg z.toArray).cells (n - (i + (n - q)))).toList
theorem setC (P : Program) {w : World} {b : Nat} {cur : Array Value} {e : TypeId} {fz : Nat × Nat} (o : Nat) (vs : List Value) (hw : w.heap[b]? = some (.cells cur e fz)) (hf : fz.1 = fz.2) (hl : o + vs.length ≤ cur.size) (h1 : ∀ v ∈ vs,one v = true) :
  ∃ cu,(w.setCells b o vs).heap[b]? = some (.cells cu e fz) ∧ cu.size = cur.size ∧ (∀ j,j < cur.size → cu[j]? = if o ≤ j ∧ j < o + vs.length then vs[j - o]? else cur[j]?) ∧ (∀ c,c ≠ b → (w.setCells b o vs).heap[c]? = w.heap[c]?) ∧
   (w.setCells b o vs).heap.size = w.heap.size ∧ (w.setCells b o vs).os = w.os ∧ (w.setCells b o vs).tape = w.tape ∧ (w.setCells b o vs).output = w.output := by
 obtain ⟨w2,cu,r1,r2,r3,r4,r5,r6,r7,r8,r9⟩ := zbv (P := P) b o e fz vs 0 cur w hw (zln (p := True) (.inl hf)) (by omega) h1
 have hst := run_storeCells_cells (P := P) b o vs 0 w (fun j hj => by rw [show o + 0 + j = o + j by omega]; simp [World.cell?,hw,Array.getElem?_eq_getElem (show o + j < cur.size by omega)])
  (fun j hj => by simp only [World.frozen?,hw]; simp; omega) h1
 rw [r1] at hst
 injection hst with _ hst
 subst hst
 exact ⟨cu,r2,r3,by simpa using r9,r4,r5,r6,r7,r8⟩
theorem zlh {cur cu : Array Value} {o : Nat} {vs : List Value} (hs : cu.size = cur.size) (h : ∀ j,j < cur.size → cu[j]? = if o ≤ j ∧ j < o + vs.length then vs[j - o]? else cur[j]?) (h1 : ∀ v ∈ vs,one v = true)
  (h0 : ∀ (j : Nat) (h : j < cur.size),one cur[j] = true) : ∀ (j : Nat) (h : j < cu.size),one cu[j] = true := by
 intro j hj
 have hj' : j < cur.size := by omega
 have h9 := h j hj'
 rw [Array.getElem?_eq_getElem hj] at h9
 split at h9
 ·obtain ⟨hlt,h10⟩ := List.getElem?_eq_some_iff.1 h9.symm
  rw [← h10]; exact h1 _ (List.getElem_mem hlt)
 ·rw [Array.getElem?_eq_getElem hj'] at h9
  injection h9 with h9
  rw [h9]; exact h0 j hj'
structure InsOut (w : World) (b : Nat) (cur vur : Array Value) (n i s : Nat) (b2 c2 : Nat) (w' : World) : Prop where
 cells : ∃ cu e2 fz2,w'.heap[b2]? = some (.cells cu e2 fz2) ∧ fz2.1 = fz2.2 ∧ c2 * s ≤ cu.size ∧ (∀ (j : Nat) (h : j < cu.size),one cu[j] = true) ∧
  ∀ j,j < (n + 1) * s → cu[j]? = if j < i * s then cur[j]? else if j < (i + 1) * s then vur[j - i * s]? else cur[j - s]?
 at_ : (b2 = b ∨ w.heap.size ≤ b2) ∧ b2 < w'.heap.size
 le : n + 1 ≤ c2
 top : c2 ≤ maxLen
 os : w'.os = w.os
 tape : w'.tape = w.tape
 output : w'.output = w.output
 size : w.heap.size ≤ w'.heap.size
 same : ∀ k,k < w.heap.size → k ≠ b → w'.heap[k]? = w.heap[k]?
 shape : ∀ c e f,w.heap[b]? = some (.cells c e f) → ∃ c' f',w'.heap[b]? = some (.cells c' e f') ∧ c'.size = c.size
def InsLaw (P : Program) (f : FuncId) (s : Nat) : Prop :=
 ∀ (w : World) (b o n c i vb vc : Nat) (cur vur : Array Value) (e ve : TypeId) (fz vfz : Nat × Nat),w.heap[b]? = some (.cells cur e fz) → fz.1 = fz.2 → w.heap[vb]? = some (.cells vur ve vfz) → vfz.1 = vfz.2 → vb ≠ b →
  (∀ (j : Nat) (h : j < cur.size),one cur[j] = true) → (∀ (j : Nat) (h : j < vur.size),one vur[j] = true) → (0 < c → o = 0) → c * s ≤ cur.size → s ≤ vur.size → n ≤ c → i ≤ n → n ≤ 1000000 → c ≤ maxLen →
  Calls P f #[.slice (some ⟨b,o,none⟩) n c,.int .i64 i,.slice (some ⟨vb,0,none⟩) 1 vc] w fun r w' => ∃ b2 c2,r = .returned (.slice (some ⟨b2,0,none⟩) (n + 1) c2) ∧ InsOut w b cur vur n i s b2 c2 w'
theorem zob {w : World} {b : Nat} {x : Obj} (h : w.heap[b]? = some x) : b < w.heap.size := by
 rcases Nat.lt_or_ge b w.heap.size with h' | h'
 ·exact h'
 ·rw [Array.getElem?_eq_none h'] at h; cases h
theorem ins_law {P : Program} {f : FuncId} {s : Nat} {E : TypeId} {z : List Value} {by' : Nat} (hW : ygc P f s E z by') (hs : 0 < s) (hz : z.length = s) (hz1 : ∀ v ∈ z,one v = true) (hby : by' ≤ 100000) : InsLaw P f s := by
 intro w b o n c i vb vc cur vur e ve fz vfz hw hf hvw hvf hvb h1 h1v ho hcap hvs hnc hin hn htop
 have hz0 : z ≠ [] := by intro h; subst h; simp at hz; omega
 have hns : n * s ≤ c * s := Nat.mul_le_mul_right _ hnc
 have hins : i * s ≤ n * s := Nat.mul_le_mul_right _ hin
 have hm1 : ∀ x,(x + 1) * s = x * s + s := fun x => Nat.succ_mul x s
 have hfr : ∀ j,w.frozen? ⟨b,j,none⟩ = false := fun j => by simp only [World.frozen?,hw]; simp; omega
 have hvfr : ∀ j,w.frozen? ⟨vb,j,none⟩ = false := fun j => by simp only [World.frozen?,hvw]; simp; omega
 have hcell : ∀ j (h : j < cur.size),w.cell? ⟨b,j,none⟩ = some cur[j] := fun j h => by simp [World.cell?,hw,Array.getElem?_eq_getElem h]
 have hvcell : ∀ j (h : j < vur.size),w.cell? ⟨vb,j,none⟩ = some vur[j] := fun j h => by simp [World.cell?,hvw,Array.getElem?_eq_getElem h]
 have hsome : ∀ j,j < cur.size → (w.cell? ⟨b,j,none⟩).isSome = true := fun j h => by rw [hcell j h]; rfl
 obtain ⟨cs,hcs⟩ : ∃ cs,cs = cur.toList.take (n * s) := ⟨_,rfl⟩
 obtain ⟨vs,hvs'⟩ : ∃ vs,vs = vur.toList.take s := ⟨_,rfl⟩
 have hcl : cs.length = n * s := by rw [hcs,List.length_take,Array.length_toList]; omega
 have hvl : vs.length = s := by rw [hvs',List.length_take,Array.length_toList]; omega
 have hcg : ∀ j,j < n * s → cs[j]? = cur[j]? := fun j hj => by rw [hcs,List.getElem?_take,if_pos hj,Array.getElem?_toList]
 have hvg : ∀ j,j < s → vs[j]? = vur[j]? := fun j hj => by rw [hvs',List.getElem?_take,if_pos hj,Array.getElem?_toList]
 have hcc : ∀ j v,cs[j]? = some v → w.cell? ⟨b,j,none⟩ = some v := fun j v hj => by
  have hlt : j < n * s := by rw [← hcl]; exact (List.getElem?_eq_some_iff.1 hj).1
  rw [hcell j (by omega),← hj,hcg j hlt,Array.getElem?_eq_getElem (by omega)]
 have hvc : ∀ j v,vs[j]? = some v → w.cell? ⟨vb,j,none⟩ = some v := fun j v hj => by
  have hlt : j < s := by rw [← hvl]; exact (List.getElem?_eq_some_iff.1 hj).1
  rw [hvcell j (by omega),← hj,hvg j hlt,Array.getElem?_eq_getElem (by omega)]
 have hc1 : ∀ v ∈ cs,one v = true := fun v hv => by
  rw [hcs] at hv
  obtain ⟨j,hj,rfl⟩ := List.getElem_of_mem (List.mem_of_mem_take hv)
  exact h1 j (by simpa using hj)
 have hv1 : ∀ v ∈ vs,one v = true := fun v hv => by
  rw [hvs'] at hv
  obtain ⟨j,hj,rfl⟩ := List.getElem_of_mem (List.mem_of_mem_take hv)
  exact h1v j (by simpa using hj)
 have hd1 : ∀ v ∈ cs.drop (i * s),one v = true := fun v hv => hc1 v (List.mem_of_mem_drop hv)
 have hdl : (cs.drop (i * s)).length = n * s - i * s := by rw [List.length_drop,hcl]
 have hbw := zob hw
 have hbig : (n + 1) * by' ≤ 140737488355328 := Nat.le_trans (Nat.mul_le_mul (show n + 1 ≤ 1000001 by omega) hby) (by decide)
 have htop' : c ≤ 9223372036854775807 := by unfold maxLen at htop; omega
 have hzc : ∀ d,∀ v ∈ (Builtin.zeroCells (Value.agg z.toArray).cells d).toList,one v = true := fun d v hv => hz1 v (zib z hz0 hz1 hv)
 have hzs : ∀ d,(Builtin.zeroCells (Value.agg z.toArray).cells d).size = d * s := fun d => by
  rw [size_zeroCells]
  have : (Value.agg z.toArray).cells.size = z.length := by simp [Value.cells]
  rw [this,hz]
 by_cases hroom : n + 1 ≤ c
 ·obtain rfl := ho (by omega)
  have h2 : (n + 1) * s ≤ c * s := Nat.mul_le_mul_right _ hroom
  rw [hm1] at h2
  by_cases hie : i = n
  ·subst hie
   refine (hW.endroom b i c vb vc vs w hroom htop' hvl (fun j hj => hsome j (by rw [hm1] at hj; omega)) hfr hvc hv1).mono ?_
   rintro r w' ⟨rfl,rfl⟩
   obtain ⟨cu,q1,q2,q3,q4,q5,q6,q7,q8⟩ := setC P (i * s) vs hw hf (by omega) hv1
   refine ⟨b,c,rfl,⟨cu,e,fz,q1,hf,by omega,zlh q2 q3 hv1 h1,fun j hj => ?_⟩,⟨.inl rfl,by omega⟩,hroom,htop,q6,q7,q8,by omega,fun k _ hk => q4 k hk,fun c' e' f' h => ?_⟩
   ·rw [hm1] at hj
    rw [q3 j (by omega),hvl,hm1]
    by_cases h3 : j < i * s
    ·rw [if_neg (by omega),if_pos h3]
    ·rw [if_pos (by omega),if_neg h3,if_pos hj,hvg _ (by omega)]
   ·rw [hw] at h; injection h with h; injection h with g1 g2 g3; subst g1 g2 g3
    exact ⟨cu,fz,q1,q2⟩
  ·have hlt : i < n := by omega
   have h3 : (i + 1) * s ≤ n * s := Nat.mul_le_mul_right _ hlt
   rw [hm1] at h3
   have hsh : ∀ {x : Nat} {c e f},w.heap[x]? = some (.cells c e f) → w.shape? x = some (e,c.size) := fun h => by simp [World.shape?,h]
   refine (hW.shift b n c i vb vc cs vs w hlt hroom htop' hvb hcl hvl hcc (fun j hj => hsome j (by rw [hm1] at hj; omega)) hfr hvc hc1 hv1 _ _ _ _ (hsh hvw) (hsh hw) (by omega) (hvfr _) (hvfr _)).mono ?_
   rintro r w' ⟨rfl,rfl⟩
   obtain ⟨cu,q1,q2,q3,q4,q5,q6,q7,q8⟩ := setC P (w := w.drew) ((i + 1) * s) (cs.drop (i * s)) hw hf (by rw [hm1,hdl]; omega) hd1
   obtain ⟨cv,p1,p2,p3,p4,p5,p6,p7,p8⟩ := setC P (i * s) vs q1 hf (by omega) hv1
   refine ⟨b,c,rfl,⟨cv,e,fz,p1,hf,by omega,zlh p2 p3 hv1 (zlh q2 q3 hd1 h1),fun j hj => ?_⟩,⟨.inl rfl,by rw [p5,q5]; exact hbw⟩,hroom,htop,p6.trans q6,p7.trans q7,p8.trans q8,by rw [p5,q5]; exact Nat.le_refl _,fun k _ hk => (p4 k hk).trans (q4 k hk),fun c' e' f' h => ?_⟩
   ·rw [hm1] at hj
    rw [p3 j (by omega),hvl,hm1]
    by_cases h3 : j < i * s
    ·rw [if_neg (by omega),if_pos h3,q3 j (by omega),hm1,if_neg (by omega)]
    ·by_cases h4 : j < i * s + s
     ·rw [if_pos (by omega),if_neg h3,if_pos h4,hvg _ (by omega)]
     ·rw [if_neg (by omega),if_neg h3,if_neg h4,q3 j (by omega),hm1,hdl,if_pos (by omega),List.getElem?_drop,hcg _ (by omega)]
      congr 1
      omega
   ·rw [hw] at h; injection h with h; injection h with g1 g2 g3; subst g1 g2 g3
    exact ⟨cv,fz,p1,by omega⟩
 ·have hcn : c = n := by omega
  have hge := grownCap_ge w (n + 1) c E
  have htp := grownCap_le_maxLen w (n + 1) c E (by unfold maxLen; omega)
  generalize hG : grownCap w (n + 1) c E = G at hge htp
  have h2 : (n + 1) * s ≤ G * s := Nat.mul_le_mul_right _ hge
  rw [hm1] at h2
  have hGs : (G - (n + 1)) * s = G * s - (n * s + s) := by rw [Nat.sub_mul,hm1]
  by_cases hie : i = n
  ·subst hie
   refine (hW.endgrow b o i c vb vc cs vs w hnc (by omega) hbig hcl hvl (fun j v hj => ?_) hvc hv1).mono ?_
   ·have hlt : j < i * s := by rw [← hcl]; exact (List.getElem?_eq_some_iff.1 hj).1
    have : 0 < i := by
     rcases Nat.eq_zero_or_pos i with h | h
     ·subst h; simp at hlt
     ·exact h
    obtain rfl := ho (by omega)
    rw [Nat.zero_add]; exact hcc j v hj
   rintro r w' ⟨rfl,rfl⟩
   rw [hG]
   refine ⟨w.heap.size,G,rfl,⟨_,E,(0,0),heap_alloc_new w.drew _,rfl,?_,fun j hj => ?_,fun j hj => ?_⟩,⟨.inr (Nat.le_refl _),?_⟩,hge,htp,rfl,rfl,rfl,?_,fun k hk _ => heap_alloc_old w.drew _ hk,fun c' e' f' h => ⟨c',f',(heap_alloc_old w.drew _ hbw).trans h,rfl⟩⟩
   ·rw [Array.size_append,hzs,List.size_toArray,List.length_append,hcl,hvl,hGs]; omega
   ·have : ∀ v ∈ (cs ++ vs).toArray ++ Builtin.zeroCells (Value.agg z.toArray).cells (G - (i + 1)),one v = true := fun v hv => by
     rcases Array.mem_append.1 hv with h | h
     ·rcases List.mem_append.1 (List.mem_toArray.1 h) with h | h
      ·exact hc1 v h
      ·exact hv1 v h
     ·exact hzc _ v (Array.mem_toList_iff.2 h)
    exact this _ (Array.getElem_mem hj)
   ·rw [hm1] at hj
    rw [Array.getElem?_append_left (by rw [List.size_toArray,List.length_append,hcl,hvl]; exact hj),List.getElem?_toArray,hm1]
    by_cases h3 : j < i * s
    ·rw [if_pos h3,List.getElem?_append_left (by omega),hcg j h3]
    ·rw [if_neg h3,if_pos hj,List.getElem?_append_right (by omega),hcl,hvg _ (by omega)]
   ·show w.heap.size < (w.heap.push _).size
    simp
   ·show w.heap.size ≤ (w.heap.push _).size
    simp
  ·have hlt : i < n := by omega
   have h3 : (i + 1) * s ≤ n * s := Nat.mul_le_mul_right _ hlt
   rw [hm1] at h3
   obtain rfl := ho (by omega)
   refine (hW.grow b n c i vb vc cs vs w hlt hnc (by omega) hbig hcl hvl hcc hvc hc1 hv1).mono ?_
   rintro r w' ⟨rfl,rfl⟩
   rw [hG]
   have hni : (n + 1 - i) * s = n * s + s - i * s := by rw [Nat.sub_mul,hm1]
   generalize hrow : (cs.take (i * s)).toArray ++ Builtin.zeroCells (Value.agg z.toArray).cells (n + 1 - i) ++ Builtin.zeroCells (Value.agg z.toArray).cells (G - (n + 1)) = row
   have hrs : row.size = G * s := by
    rw [← hrow,Array.size_append,Array.size_append,hzs,hzs,List.size_toArray,List.length_take,hcl,hGs,hni]
    omega
   have hr1 : ∀ (j : Nat) (h : j < row.size),one row[j] = true := fun j hj => by
    have : ∀ v ∈ row,one v = true := fun v hv => by
     rw [← hrow] at hv
     rcases Array.mem_append.1 hv with h | h
     ·rcases Array.mem_append.1 h with h | h
      ·exact hc1 v (List.mem_of_mem_take (List.mem_toArray.1 h))
      ·exact hzc _ v (Array.mem_toList_iff.2 h)
     ·exact hzc _ v (Array.mem_toList_iff.2 h)
    exact this _ (Array.getElem_mem hj)
   have hrl : ∀ j,j < i * s → row[j]? = cur[j]? := fun j hj => by
    rw [← hrow,Array.getElem?_append_left (by rw [Array.size_append,List.size_toArray,List.length_take,hcl]; omega),Array.getElem?_append_left (by rw [List.size_toArray,List.length_take,hcl]; omega),List.getElem?_toArray,List.getElem?_take,if_pos hj,hcg j (by omega)]
   have hA := heap_alloc_new w (.cells row E)
   obtain ⟨cu,q1,q2,q3,q4,q5,q6,q7,q8⟩ := setC P (w := (w.alloc (.cells row E)).drew) (b := w.heap.size) (i * s) vs hA rfl (by omega) hv1
   obtain ⟨cv,p1,p2,p3,p4,p5,p6,p7,p8⟩ := setC P (w := (((w.alloc (.cells row E)).drew).setCells w.heap.size (i * s) vs).drew) (b := w.heap.size) ((i + 1) * s) (cs.drop (i * s)) q1 rfl (by rw [hdl,hm1]; omega) hd1
   have hsz : ((w.alloc (.cells row E)).drew).heap.size = w.heap.size + 1 := by
    show (w.heap.push _).size = _
    simp
   have hp5 : ((((w.alloc (.cells row E)).drew.setCells w.heap.size (i * s) vs).drew).setCells w.heap.size ((i + 1) * s) (cs.drop (i * s))).heap.size = w.heap.size + 1 := p5.trans (q5.trans hsz)
   have hold : ∀ k,k < w.heap.size → ((((w.alloc (.cells row E)).drew.setCells w.heap.size (i * s) vs).drew).setCells w.heap.size ((i + 1) * s) (cs.drop (i * s))).heap[k]? = w.heap[k]? := fun k hk => by
    rw [p4 k (by omega)]
    refine (q4 k (by omega)).trans ?_
    exact heap_alloc_old w _ hk
   refine ⟨w.heap.size,G,rfl,⟨cv,E,(0,0),p1,rfl,by omega,zlh p2 p3 hd1 (zlh q2 q3 hv1 hr1),fun j hj => ?_⟩,⟨.inr (Nat.le_refl _),by rw [hp5]; omega⟩,hge,htp,p6.trans q6,p7.trans q7,p8.trans q8,by rw [hp5]; omega,fun k hk _ => hold k hk,fun c' e' f' h => ⟨c',f',(hold b hbw).trans h,rfl⟩⟩
   rw [hm1] at hj
   rw [p3 j (by omega),hdl,hm1]
   by_cases h4 : j < i * s
   ·rw [if_neg (by omega),if_pos h4,q3 j (by omega),if_neg (by omega),hrl j h4]
   ·by_cases h5 : j < i * s + s
    ·rw [if_neg (by omega),if_neg h4,if_pos h5,q3 j (by omega),if_pos (by omega),hvg _ (by omega)]
    ·rw [if_pos (by omega),if_neg h4,if_neg h5,List.getElem?_drop,hcg _ (by omega)]
     congr 1
     omega
theorem del_law {P : Program} {f : FuncId} {s : Nat} {z : List Value} (hW : ypc P f s z) (hs : 0 < s) (hz : z.length = s) (hz1 : ∀ v ∈ z,one v = true)
  (w : World) (b n c i : Nat) (cur : Array Value) (e : TypeId) (fz : Nat × Nat) (hw : w.heap[b]? = some (.cells cur e fz)) (hf : fz.1 = fz.2) (h1 : ∀ (j : Nat) (h : j < cur.size),one cur[j] = true)
  (hcap : c * s ≤ cur.size) (hnc : n ≤ c) (hin : i < n) (htop : c ≤ maxLen) :
  Calls P f #[.slice (some ⟨b,0,none⟩) n c,.int .i64 i,.int .i64 ((i : Int) + 1)] w fun r w' => r = .returned (.slice (some ⟨b,0,none⟩) (n - 1) c) ∧
   ∃ cu,w'.heap[b]? = some (.cells cu e fz) ∧ cu.size = cur.size ∧ (∀ (j : Nat) (h : j < cu.size),one cu[j] = true) ∧ (∀ j,j < n * s → cu[j]? = if j < i * s then cur[j]? else if j < (n - 1) * s then cur[j + s]? else z[j - (n - 1) * s]?) ∧
    (∀ k,k ≠ b → w'.heap[k]? = w.heap[k]?) ∧ w'.heap.size = w.heap.size ∧ w'.os = w.os ∧ w'.tape = w.tape ∧ w'.output = w.output := by
 have hz0 : z ≠ [] := by intro h; subst h; simp at hz; omega
 have hns : n * s ≤ c * s := Nat.mul_le_mul_right _ hnc
 have hm1 : ∀ x,(x + 1) * s = x * s + s := fun x => Nat.succ_mul x s
 have his : (i + 1) * s ≤ n * s := Nat.mul_le_mul_right _ hin
 rw [hm1] at his
 have hnn : (n - 1) * s = n * s - s := by rw [Nat.sub_mul,Nat.one_mul]
 have hfr : ∀ j,w.frozen? ⟨b,j,none⟩ = false := fun j => by simp only [World.frozen?,hw]; simp; omega
 have hcell : ∀ j (h : j < cur.size),w.cell? ⟨b,j,none⟩ = some cur[j] := fun j h => by simp [World.cell?,hw,Array.getElem?_eq_getElem h]
 obtain ⟨cs,hcs⟩ : ∃ cs,cs = cur.toList.take (n * s) := ⟨_,rfl⟩
 have hcl : cs.length = n * s := by rw [hcs,List.length_take,Array.length_toList]; omega
 have hcg : ∀ j,j < n * s → cs[j]? = cur[j]? := fun j hj => by rw [hcs,List.getElem?_take,if_pos hj,Array.getElem?_toList]
 have hcc : ∀ j v,cs[j]? = some v → w.cell? ⟨b,j,none⟩ = some v := fun j v hj => by
  have hlt : j < n * s := by rw [← hcl]; exact (List.getElem?_eq_some_iff.1 hj).1
  rw [hcell j (by omega),← hj,hcg j hlt,Array.getElem?_eq_getElem (by omega)]
 have hc1 : ∀ v ∈ cs,one v = true := fun v hv => by
  rw [hcs] at hv
  obtain ⟨j,hj,rfl⟩ := List.getElem_of_mem (List.mem_of_mem_take hv)
  exact h1 j (by simpa using hj)
 have hd1 : ∀ v ∈ cs.drop ((i + 1) * s),one v = true := fun v hv => hc1 v (List.mem_of_mem_drop hv)
 have hdl : (cs.drop ((i + 1) * s)).length = n * s - (i * s + s) := by rw [List.length_drop,hcl,hm1]
 have hzc : ∀ v ∈ (Builtin.zeroCells (Value.agg z.toArray).cells 1).toList,one v = true := fun v hv => hz1 v (zib z hz0 hz1 hv)
 have hze : (Builtin.zeroCells (Value.agg z.toArray).cells 1).toList = z := by
  have : (Value.agg z.toArray).cells = z.toArray := rfl
  rw [this]
  refine List.ext_getElem (by simp [Builtin.zeroCells]) fun j a b' => ?_
  simp only [Builtin.zeroCells,Array.toList_map,List.getElem_map,Array.getElem_toList,Array.getElem_range]
  have hj : j < z.toArray.size := by simpa using b'
  rw [Nat.mod_eq_of_lt hj,getElem!_pos z.toArray j hj]
  simp
 have hcall := hW w b n c i (i + 1) cs (by omega) hin hnc (by unfold maxLen at htop; omega) hcl hcc (fun j hj => by rw [hcell j (by omega)]; rfl) hfr hc1
 rw [show ((i + 1 : Nat) : Int) = (i : Int) + 1 by omega] at hcall
 refine hcall.mono ?_
 rintro r w' ⟨rfl,rfl⟩
 have e1 : i + (n - (i + 1)) = n - 1 := by omega
 have e2 : n - (n - 1) = 1 := by omega
 rw [e1,e2,hze]
 obtain ⟨cu,q1,q2,q3,q4,q5,q6,q7,q8⟩ := setC P (w := w.drew) (i * s) (cs.drop ((i + 1) * s)) hw hf (by rw [hdl]; omega) hd1
 obtain ⟨cv,p1,p2,p3,p4,p5,p6,p7,p8⟩ := setC P ((n - 1) * s) z q1 hf (by rw [hnn,hz]; omega) hz1
 refine ⟨rfl,cv,p1,by omega,zlh p2 p3 hz1 (zlh q2 q3 hd1 h1),fun j hj => ?_,fun k hk => (p4 k hk).trans (q4 k hk),p5.trans q5,p6.trans q6,p7.trans q7,p8.trans q8⟩
 rw [p3 j (by omega),hz,hnn]
 by_cases h3 : j < n * s - s
 ·rw [if_neg (by omega),q3 j (by omega),hdl]
  by_cases h4 : j < i * s
  ·rw [if_neg (by omega),if_pos h4]
  ·rw [if_pos (by omega),if_neg h4,if_pos h3,List.getElem?_drop,hcg _ (by rw [hm1]; omega),hm1]
   congr 1
   omega
 ·rw [if_pos (by omega),if_neg (by omega),if_neg h3]
end Ax
end Go.Proofs.Ytioldmhhefhelaa
namespace Go.Proofs.Ytioldmhhefhelaa
namespace Ax
open Go.RowKit
def insL (xs : List AV) (n i : Nat) (x : AV) : List AV := xs.take i ++ x :: (xs.take n).drop i
def insS (s : Nat) : zan
 | [.ms 0 a 0 n,.w (.int .i64 i),.ms 1 b 0 1],[.g c xs,.g d [x]] => ⟨(a = s ∧ b = s ∧ c = s ∧ d = s) ∧ n ≤ xs.length ∧ n ≤ 1000000 ∧ 0 ≤ i ∧ i ≤ n,.ms 2 s 0 (n + 1),[gone,gone,.g s (insL xs n i.toNat x)]⟩
 | _,_ => zbg
def delL (xs : List AV) (n i : Nat) (z : AV) : List AV := xs.take i ++ ((xs.take n).drop (i + 1) ++ [z])
def delS (s : Nat) (z : AV) : zan
 | [.ms 0 a 0 n,.w (.int .i64 i),.w (.int .i64 q)],[.g c xs] => ⟨(a = s ∧ c = s) ∧ n ≤ xs.length ∧ 0 ≤ i ∧ i < n ∧ q = i + 1,.ms 0 s 0 (n - 1),[.g s (delL xs n i.toNat z)]⟩
 | _,_ => zbg
theorem yej {s : Nat} {xs : List AV} (h : ∀ x ∈ xs,x.leaves.length = s) : (xs.flatMap AV.leaves).length = xs.length * s := by
 induction xs with
 | nil => simp
 | cons x r ih => rw [List.flatMap_cons,List.length_append,h x (by simp),ih (fun y hy => h y (by simp [hy])),List.length_cons,Nat.succ_mul]; omega
theorem fl_ins {s : Nat} {xs : List AV} {x : AV} (h : ∀ x ∈ xs,x.leaves.length = s) (hx : x.leaves.length = s) {n i : Nat} (hn : n ≤ xs.length) (hi : i ≤ n) (j : Nat) (hj : j < (n + 1) * s) :
  ((insL xs n i x).flatMap AV.leaves)[j]? = if j < i * s then (xs.flatMap AV.leaves)[j]? else if j < (i + 1) * s then x.leaves[j - i * s]? else (xs.flatMap AV.leaves)[j - s]? := by
 have h1 := yej h
 have h2 : i * s ≤ n * s := Nat.mul_le_mul_right _ hi
 have h3 : n * s ≤ xs.length * s := Nat.mul_le_mul_right _ hn
 rw [Nat.succ_mul] at hj ⊢
 unfold insL
 rw [List.flatMap_append,List.flatMap_cons,zbb xs i h,zbt (xs.take n) i (fun y hy => h y (List.mem_of_mem_take hy)),zbb xs n h]
 have h4 : ((xs.flatMap AV.leaves).take (i * s)).length = i * s := by rw [List.length_take,h1]; omega
 by_cases h5 : j < i * s
 ·rw [if_pos h5,List.getElem?_append_left (by omega),List.getElem?_take,if_pos h5]
 ·rw [if_neg h5,List.getElem?_append_right (by omega),h4]
  by_cases h6 : j < i * s + s
  ·rw [if_pos h6,List.getElem?_append_left (by omega)]
  ·rw [if_neg h6,List.getElem?_append_right (by omega),hx,List.getElem?_drop,List.getElem?_take,if_pos (by omega)]
   congr 1
   omega
theorem fl_del {s : Nat} {xs : List AV} {z : AV} (h : ∀ x ∈ xs,x.leaves.length = s) (hz : z.leaves.length = s) {n i : Nat} (hn : n ≤ xs.length) (hi : i < n) (j : Nat) (hj : j < n * s) :
  ((delL xs n i z).flatMap AV.leaves)[j]? = if j < i * s then (xs.flatMap AV.leaves)[j]? else if j < (n - 1) * s then (xs.flatMap AV.leaves)[j + s]? else z.leaves[j - (n - 1) * s]? := by
 have h1 := yej h
 have h2 : (i + 1) * s ≤ n * s := Nat.mul_le_mul_right _ hi
 have h3 : n * s ≤ xs.length * s := Nat.mul_le_mul_right _ hn
 have hnn : (n - 1) * s = n * s - s := by rw [Nat.sub_mul,Nat.one_mul]
 rw [Nat.succ_mul] at h2
 unfold delL
 rw [List.flatMap_append,List.flatMap_append,zbb xs i h,zbt (xs.take n) (i + 1) (fun y hy => h y (List.mem_of_mem_take hy)),zbb xs n h,hnn]
 have h4 : ((xs.flatMap AV.leaves).take (i * s)).length = i * s := by rw [List.length_take,h1]; omega
 have h7 : (((xs.flatMap AV.leaves).take (n * s)).drop ((i + 1) * s)).length = n * s - (i * s + s) := by rw [List.length_drop,List.length_take,h1,Nat.succ_mul]; omega
 by_cases h5 : j < i * s
 ·rw [if_pos h5,List.getElem?_append_left (by omega),List.getElem?_take,if_pos h5]
 ·rw [if_neg h5,List.getElem?_append_right (by omega),h4]
  by_cases h6 : j < n * s - s
  ·rw [if_pos h6,List.getElem?_append_left (by omega),List.getElem?_drop,List.getElem?_take,if_pos (by rw [Nat.succ_mul]; omega),Nat.succ_mul]
   congr 1
   omega
  ·rw [if_neg h6,List.getElem?_append_right (by omega),h7]
   simp only [List.flatMap_cons,List.flatMap_nil,List.append_nil]
   congr 1
   omega
theorem yqo {xs : List AV} {n i : Nat} {x : AV} (hn : n ≤ xs.length) (hi : i ≤ n) : (insL xs n i x).length = n + 1 := by
 unfold insL
 simp only [List.length_append,List.length_take,List.length_cons,List.length_drop]
 omega
theorem yrc {xs : List AV} {n i : Nat} {x : AV} (hn : n ≤ xs.length) (hi : i < n) : (delL xs n i x).length = n := by
 unfold delL
 simp only [List.length_append,List.length_take,List.length_cons,List.length_drop,List.length_nil]
 omega
theorem ydr {xs : List AV} {n i : Nat} {x y : AV} (h : y ∈ insL xs n i x) : y ∈ xs ∨ y = x := by
 unfold insL at h
 rcases List.mem_append.1 h with h | h
 ·exact .inl (List.mem_of_mem_take h)
 ·rcases List.mem_cons.1 h with h | h
  ·exact .inr h
  ·exact .inl (List.mem_of_mem_take (List.mem_of_mem_drop h))
theorem yds {xs : List AV} {n i : Nat} {x y : AV} (h : y ∈ delL xs n i x) : y ∈ xs ∨ y = x := by
 unfold delL at h
 rcases List.mem_append.1 h with h | h
 ·exact .inl (List.mem_of_mem_take h)
 ·rcases List.mem_append.1 h with h | h
  ·exact .inl (List.mem_of_mem_take (List.mem_of_mem_drop h))
  ·exact .inr (List.mem_singleton.1 h)
def Side (w : World) (loc : Loc) (fx : List AV) (cur : Array Value) : Prop := ∀ (j : Nat) (a : AV) (c : Value),fx[j]? = some a → cur[j]? = some c → a.leaf = true ∧ R w loc a c
theorem yat {w : World} {loc : Loc} {fx : List AV} {cur : Array Value} (h : ∀ (j : Nat) (h : j < fx.length) (h' : j < cur.size),fx[j].leaf = true ∧ R w loc fx[j] cur[j]) : Side w loc fx cur := by
 intro j a c ha hc
 obtain ⟨h1,rfl⟩ := List.getElem?_eq_some_iff.1 ha
 obtain ⟨h2,rfl⟩ := Array.getElem?_eq_some_iff.1 hc
 exact h j h1 h2
theorem ylf {P : Program} {f : FuncId} {s : Nat} (hI : InsLaw P f s) (hs : 1 < s) : zcx P f (insS s) := by
 intro xs pins hp w bad pb vs hpb hnd hbad hpins hlen hxs
 unfold insS at hp ⊢
 split at hp
 ·rename_i a n i b1 c ys s9 x
  obtain ⟨⟨rfl,rfl,rfl,rfl⟩,hn,hn6,hi0,hin⟩ := hp
  obtain ⟨i,rfl⟩ : ∃ k : Nat,i = k := ⟨i.toNat,by omega⟩
  obtain ⟨b,vb,rfl⟩ : ∃ b vb,pb = [b,vb] := by
   match pb,hpb with
   | [b,vb],_ => exact ⟨b,vb,rfl⟩
  obtain ⟨v,v1,v2,rfl⟩ : ∃ v v1 v2,vs = [v,v1,v2] := by
   match vs,hlen with
   | [v,v1,v2],_ => exact ⟨v,v1,v2,rfl⟩
  have hv : R w (zaw [b,vb] bad) (.ms 0 s9 0 n) v := hxs 0 (by simp) (by simp)
  have hv1 : R w (zaw [b,vb] bad) (.w (.int .i64 i)) v1 := hxs 1 (by simp) (by simp)
  have hv2 : R w (zaw [b,vb] bad) (.ms 1 s9 0 1) v2 := hxs 2 (by simp) (by simp)
  obtain rfl := hv1.wv
  have hm0 : (zaw [b,vb] bad).m 0 = .here b := rfl
  have hm1 : (zaw [b,vb] bad).m 1 = .here vb := rfl
  have hbv : vb ≠ b := by
   intro h; subst h
   simp at hnd
  cases hv with
  | ms _ _ _ _ _ h =>
  cases hv2 with
  | ms _ _ _ _ _ h' =>
   unfold Owns at h h'
   rw [hm0] at h
   rw [hm1] at h'
   simp only at h h'
   obtain ⟨o,cap,cur,e,fz,rfl,ho,hcur,hsz,hle,hcap⟩ := h
   obtain ⟨o',cap',vur,e',fz',rfl,ho',hvur,hsz',hle',hcap'⟩ := h'
   have ho : 0 < cap → o = 0 := fun h => by have := ho h; omega
   obtain rfl : o' = 0 := by have := ho' (by omega); omega
   obtain ⟨hok,hL⟩ := hpins 0 (by simp) (by simp)
   obtain ⟨hok',hL'⟩ := hpins 1 (by simp) (by simp)
   have hL : Lies w (zaw [b,vb] bad) (.g s9 ys) b := hL
   have hL' : Lies w (zaw [b,vb] bad) (.g s9 [x]) vb := hL'
   obtain ⟨c1,e1,f1,g1,hfz,hone,hfl,hcells⟩ := hL.lies rfl
   rw [hcur] at g1; injection g1 with g1; injection g1 with q1 q2 q3; subst q1 q2 q3
   obtain ⟨c2,e2,f2,g2,hfz',hone',hfl',hcells'⟩ := hL'.lies rfl
   rw [hvur] at g2; injection g2 with g2; injection g2 with q1 q2 q3; subst q1 q2 q3
   have hfz : fz.1 = fz.2 := hfz.elim id (fun h => absurd h.2 (by show ¬ s9 = 1; omega))
   have hfz' : fz'.1 = fz'.2 := hfz'.elim id (fun h => absurd h.2 (by show ¬ s9 = 1; omega))
   have hys : ∀ y ∈ ys,y.leaves.length = s9 := hok.2
   have hx : x.leaves.length = s9 := hok'.2 x (by simp)
   rw [Nat.zero_add] at hsz hsz'
   have hcap1 : 1 * s9 ≤ cap' * s9 := Nat.mul_le_mul_right _ hle'
   have hcall := hI w b o n cap i vb cap' cur vur e e' fz fz' hcur hfz hvur hfz' hbv hone hone' ho hsz (by omega) hle (by omega) hn6 hcap
   refine hcall.mono ?_
   rintro r w' ⟨b2,c2,rfl,hO⟩
   obtain ⟨cu,e2,fz2,r1,r2,r3,r4,r5⟩ := hO.cells
   obtain ⟨hat,hlt⟩ := hO.at_
   have hbs := zob hcur
   have hvs := zob hvur
   let loc' : Loc := { m := fun id => match id with | 0 => .dead | 1 => .dead | 2 => .here b2 | _ => .free,bad }
   have hmut : ∀ k,k < w.heap.size → ¬ Mut (zaw [b,vb] bad) k → k ≠ b ∧ k ≠ vb ∧ ¬ Mut loc' k := by
    intro k hk hm
    have h1 : k ≠ b := by rintro rfl; exact hm (.inr ⟨0,rfl⟩)
    have h2 : k ≠ vb := by rintro rfl; exact hm (.inr ⟨1,rfl⟩)
    refine ⟨h1,h2,?_⟩
    rintro (h | ⟨id,h⟩)
    ·exact hm (.inl h)
    ·match id,h with
     | 2,h =>
      have h : L.here b2 = .here k := h
      injection h with h; subst h
      rcases hat with h | h
      ·exact h1 h
      ·omega
   have hext : Ext (fun _ => True) w (zaw [b,vb] bad) w' loc' := by
    refine ⟨hO.size,fun id _ h => (h trivial).elim,fun id hid _ => ?_,fun k hk hm => ?_,fun id k _ h => (h trivial).elim,fun k c e f hc => ?_⟩
    ·match id,hid with
     | 0,_ => exact .inr rfl
     | 1,_ => exact .inr rfl
     | k + 2,h => exact (h rfl).elim
    ·obtain ⟨h1,h2,h3⟩ := hmut k hk hm
     exact ⟨hO.same k hk h1,h3⟩
    ·by_cases hk : k = b
     ·subst hk; exact hO.shape c e f hc
     ·exact ⟨c,f,(hO.same k (zob hc) hk).trans hc,rfl⟩
   have hS := yat hcells
   have hS' := yat hcells'
   have hfx : (Blk.g s9 [x]).flat = x.leaves := by simp [Blk.flat]
   rw [hfx] at hS'
   have hfn : (Blk.g s9 (insL ys n i x)).flat.length = (n + 1) * s9 := by
    show ((insL ys n i x).flatMap AV.leaves).length = _
    rw [yej (s := s9),yqo hn (by omega)]
    intro y hy
    rcases ydr hy with h | rfl
    ·exact hys y h
    ·exact hx
   have hle2 : (n + 1) * s9 ≤ c2 * s9 := Nat.mul_le_mul_right _ hO.le
   refine ⟨_,loc',rfl,?_⟩
   refine ⟨?_,rfl,?_,?_,?_,?_,?_,?_⟩
   ·refine .ms _ _ _ _ _ ?_
    unfold Owns
    show ∃ o cap cur e fz,_
    exact ⟨0,c2,cu,e2,fz2,rfl,fun _ => by omega,r1,by rw [Nat.zero_add]; exact r3,hO.le,hO.top⟩
   ·intro k hk
    match k,hk with
    | 0,_ => exact .inl ⟨rfl,rfl⟩
    | 1,_ => exact .inl ⟨rfl,rfl⟩
    | 2,_ =>
     refine .inr ⟨?_,by show L.here b2 ≠ _; simp,by show L.here b2 ≠ _; simp⟩
     show BlkR w' loc' 2 (.g s9 (insL ys n i x))
     unfold BlkR
     show _ ∧ _
     refine ⟨⟨by omega,fun y hy => ?_⟩,Lies.mkC ⟨cu,e2,fz2,r1,.inl r2,r4,by rw [hfn]; omega,fun j hj hj' => ?_⟩⟩
     ·rcases ydr hy with h | rfl
      ·exact hys y h
      ·exact hx
     ·rw [hfn] at hj
      have h1 := fl_ins hys hx hn (show i ≤ n by omega) j hj
      have h2 := r5 j hj
      have h3 : ((insL ys n i x).flatMap AV.leaves)[j]? = some ((Blk.g s9 (insL ys n i x)).flat[j]'(by rw [hfn]; exact hj)) := List.getElem?_eq_getElem _
      have h4 : cu[j]? = some cu[j] := Array.getElem?_eq_getElem hj'
      rw [h3] at h1
      rw [h4] at h2
      have : ∀ A C,some A = (if j < i * s9 then (ys.flatMap AV.leaves)[j]? else if j < (i + 1) * s9 then x.leaves[j - i * s9]? else (ys.flatMap AV.leaves)[j - s9]?) →
        some C = (if j < i * s9 then cur[j]? else if j < (i + 1) * s9 then vur[j - i * s9]? else cur[j - s9]?) → A.leaf = true ∧ R w (zaw [b,vb] bad) A C := by
       intro A C hA hC
       split at hA
       ·rename_i h; rw [if_pos h] at hC; exact hS j A C hA.symm hC.symm
       ·rename_i h; rw [if_neg h] at hC
        split at hA
        ·rename_i h; rw [if_pos h] at hC; exact hS' _ A C hA.symm hC.symm
        ·rename_i h; rw [if_neg h] at hC; exact hS _ A C hA.symm hC.symm
      obtain ⟨g1,g2⟩ := this _ _ h1 h2
      exact ⟨g1,g2.ext hext⟩
   ·intro k hk
    match k,hk with
    | 0,_ => exact .inr rfl
    | 1,_ => exact .inr rfl
   ·intro k b' hk h
    match k,hk,h with
    | 2,_,h =>
     have h : L.here b2 = .here b' := h
     injection h with h; subst h
     refine ⟨?_,hlt⟩
     rcases hat with h | h
     ·exact .inr (by simp [h])
     ·exact .inl h
    | k + 3,_,h => cases h
   ·intro k hk
    match k,hk with
    | k + 3,_ => rfl
   ·intro i' j' b' h1 h2
    have h3 : ∀ t,loc'.m t = .here b' → t = 2 := by
     intro t ht
     match t,ht with
     | 2,_ => rfl
    rw [h3 _ h1,h3 _ h2]
   ·refine ⟨hO.os,hO.tape,hO.output,hO.size,fun k hk hne => ?_,fun k c' e' f' hE hc' => ?_⟩
    ·exact hO.same k hk (fun h => hne (by simp [h]))
    ·by_cases hk : k = b
     ·subst hk; exact hO.shape c' e' f' hc'
     ·exact ⟨c',f',(hO.same k (zob hc') hk).trans hc',rfl⟩
 ·exact hp.elim
theorem ymr {P : Program} {f : FuncId} {s : Nat} {z : List Value} {za : AV} (hW : ypc P f s z) (hs : 1 < s) (hz : z.length = s) (hz1 : ∀ v ∈ z,one v = true) (hzl : za.leaves.length = s)
  (hza : ∀ (j : Nat) (h : j < za.leaves.length) (h' : j < z.length),za.leaves[j].leaf = true ∧ ∀ w loc,R w loc za.leaves[j] z[j]) : zcx P f (delS s za) := by
 intro xs pins hp w bad pb vs hpb hnd hbad hpins hlen hxs
 unfold delS at hp ⊢
 split at hp
 ·rename_i a n i q s9 ys
  obtain ⟨⟨rfl,rfl⟩,hn,hi0,hin,rfl⟩ := hp
  obtain ⟨i,rfl⟩ : ∃ k : Nat,i = k := ⟨i.toNat,by omega⟩
  obtain ⟨b,rfl⟩ : ∃ b,pb = [b] := by
   match pb,hpb with
   | [b],_ => exact ⟨b,rfl⟩
  obtain ⟨v,v1,v2,rfl⟩ : ∃ v v1 v2,vs = [v,v1,v2] := by
   match vs,hlen with
   | [v,v1,v2],_ => exact ⟨v,v1,v2,rfl⟩
  have hv : R w (zaw [b] bad) (.ms 0 s9 0 n) v := hxs 0 (by simp) (by simp)
  have hv1 : R w (zaw [b] bad) (.w (.int .i64 i)) v1 := hxs 1 (by simp) (by simp)
  have hv2 : R w (zaw [b] bad) (.w (.int .i64 (i + 1))) v2 := hxs 2 (by simp) (by simp)
  obtain rfl := hv1.wv
  obtain rfl := hv2.wv
  have hm0 : (zaw [b] bad).m 0 = .here b := rfl
  cases hv with
  | ms _ _ _ _ _ h =>
   unfold Owns at h
   rw [hm0] at h
   simp only at h
   obtain ⟨o,cap,cur,e,fz,rfl,ho,hcur,hsz,hle,hcap⟩ := h
   obtain rfl : o = 0 := by have := ho (by omega); omega
   obtain ⟨hok,hL⟩ := hpins 0 (by simp) (by simp)
   have hL : Lies w (zaw [b] bad) (.g s9 ys) b := hL
   obtain ⟨c1,e1,f1,g1,hfz,hone,hfl,hcells⟩ := hL.lies rfl
   rw [hcur] at g1; injection g1 with g1; injection g1 with q1 q2 q3; subst q1 q2 q3
   have hfz : fz.1 = fz.2 := hfz.elim id (fun h => absurd h.2 (by show ¬ s9 = 1; omega))
   have hys : ∀ y ∈ ys,y.leaves.length = s9 := hok.2
   rw [Nat.zero_add] at hsz
   have hcall := del_law hW (by omega) hz hz1 w b n cap i cur e fz hcur hfz hone hsz hle (by omega) hcap
   refine hcall.mono ?_
   rintro r w' ⟨rfl,cu,r1,r2,r4,r5,r6,r7,r8,r9,r10⟩
   have hbs := zob hcur
   have hext : Ext (fun _ => True) w (zaw [b] bad) w' (zaw [b] bad) := by
    refine ⟨by omega,fun id _ h => (h trivial).elim,fun id hid _ => .inl rfl,fun k hk hm => ⟨r6 k ?_,hm⟩,fun id k _ h => (h trivial).elim,fun k c e f hc => ?_⟩
    ·rintro rfl; exact hm (.inr ⟨0,rfl⟩)
    ·by_cases hk : k = b
     ·subst hk
      rw [hcur] at hc; injection hc with hc; injection hc with g1 g2 g3; subst g1 g2 g3
      exact ⟨cu,fz,r1,r2⟩
     ·exact ⟨c,f,(r6 k hk).trans hc,rfl⟩
   have hS := yat hcells
   have hfn : (Blk.g s9 (delL ys n i za)).flat.length = n * s9 := by
    show ((delL ys n i za).flatMap AV.leaves).length = _
    rw [yej (s := s9),yrc hn (by omega)]
    intro y hy
    rcases yds hy with h | rfl
    ·exact hys y h
    ·exact hzl
   have hna : n * s9 ≤ cap * s9 := Nat.mul_le_mul_right _ hle
   refine ⟨_,zaw [b] bad,rfl,?_⟩
   refine ⟨?_,rfl,?_,?_,?_,?_,?_,?_⟩
   ·refine .ms _ _ _ _ _ ?_
    unfold Owns
    rw [hm0]
    exact ⟨0,cap,cu,e,fz,rfl,fun _ => by omega,r1,by rw [Nat.zero_add,r2]; exact hsz,by omega,hcap⟩
   ·intro k hk
    match k,hk with
    | 0,_ =>
     refine .inr ⟨?_,by rw [hm0]; simp,by rw [hm0]; simp⟩
     show BlkR w' (zaw [b] bad) 0 (.g s9 (delL ys n i za))
     unfold BlkR
     rw [hm0]
     refine ⟨⟨by omega,fun y hy => ?_⟩,Lies.mkC ⟨cu,e,fz,r1,.inl hfz,r4,by rw [hfn,r2]; omega,fun j hj hj' => ?_⟩⟩
     ·rcases yds hy with h | rfl
      ·exact hys y h
      ·exact hzl
     ·rw [hfn] at hj
      have h1 := fl_del hys hzl hn (show i < n by omega) j hj
      have h2 := r5 j hj
      have h3 : ((delL ys n i za).flatMap AV.leaves)[j]? = some ((Blk.g s9 (delL ys n i za)).flat[j]'(by rw [hfn]; exact hj)) := List.getElem?_eq_getElem _
      have h4 : cu[j]? = some cu[j] := Array.getElem?_eq_getElem hj'
      rw [h3] at h1
      rw [h4] at h2
      have : ∀ A C,some A = (if j < i * s9 then (ys.flatMap AV.leaves)[j]? else if j < (n - 1) * s9 then (ys.flatMap AV.leaves)[j + s9]? else za.leaves[j - (n - 1) * s9]?) →
        some C = (if j < i * s9 then cur[j]? else if j < (n - 1) * s9 then cur[j + s9]? else z[j - (n - 1) * s9]?) → A.leaf = true ∧ R w' (zaw [b] bad) A C := by
       intro A C hA hC
       split at hA
       ·rename_i h; rw [if_pos h] at hC
        have := hS j A C hA.symm hC.symm
        exact ⟨this.1,this.2.ext hext⟩
       ·rename_i h; rw [if_neg h] at hC
        split at hA
        ·rename_i h; rw [if_pos h] at hC
         have := hS _ A C hA.symm hC.symm
         exact ⟨this.1,this.2.ext hext⟩
        ·rename_i h; rw [if_neg h] at hC
         obtain ⟨u1,u2⟩ := List.getElem?_eq_some_iff.1 hA.symm
         obtain ⟨u3,u4⟩ := List.getElem?_eq_some_iff.1 hC.symm
         have := hza _ u1 u3
         rw [u2,u4] at this
         exact ⟨this.1,this.2 _ _⟩
      exact this _ _ h1 h2
   ·intro k hk
    match k,hk with
    | 0,_ => exact .inl rfl
   ·intro k b' hk h
    match k,hk,h with
    | k + 1,_,h => cases h
   ·intro k hk
    match k,hk with
    | k + 1,_ => rfl
   ·intro i' j' b' h1 h2
    have h3 : ∀ t,(zaw [b] bad).m t = .here b' → t = 0 := by
     intro t ht
     match t,ht with
     | 0,_ => rfl
    rw [h3 _ h1,h3 _ h2]
   ·refine ⟨r8,r9,r10,by omega,fun k hk hne => r6 k (fun h => hne (by simp [h])),fun k c' e' f' hE hc' => ?_⟩
    by_cases hk : k = b
    ·subst hk
     rw [hcur] at hc'; injection hc' with hc'; injection hc' with g1 g2 g3; subst g1 g2 g3
     exact ⟨cu,fz,r1,r2⟩
    ·exact ⟨c',f',(r6 k hk).trans hc',rfl⟩
 ·exact hp.elim
end Ax
end Go.Proofs.Ytioldmhhefhelaa
namespace Go.Proofs.Ytioldmhhefhelaa
open Ax Go.RowKit
theorem inswI20 : ygc Try.prog 33 3 49 zI20 32 :=
 ⟨fun b n c i vb vc cs vs w h1 h2 h3 h4 h5 h6 h7 h8 h9 h10 h11 h12 tA tB kA kB h13 h14 h15 h16 h17 => zxz b n c i vb 1 vc cs vs w h1 Nat.one_pos h2 h3 h4 h5 (by omega) h7 h8 h9 h10 h11 h12 tA tB kA kB h13 h14 h15 h16 h17,
  fun b n c vb vc vs w h1 h2 h3 h4 h5 h6 h7 => zsn b n c vb 1 vc vs w Nat.one_pos h1 h2 (by omega) h4 h5 h6 h7,
  fun b o n c vb vc cs vs w h1 h2 h3 h4 h5 h6 h7 h8 => zso b o n c vb 1 vc cs vs w Nat.one_pos h1 h2 h3 h4 (by omega) h6 h7 h8,
  fun b n c i vb vc cs vs w h1 h2 h3 h4 h5 h6 h7 h8 h9 h10 => ybi b n c i vb 1 vc cs vs w h1 Nat.one_pos h2 h3 h4 h5 (by omega) h7 h8 h9 h10⟩
theorem zvo : zcx Try.prog 33 (insS 3) := ylf (ins_law inswI20 (by decide) rfl zvk (by decide)) (by decide)
def zaI20 : AV := .agg [.str [],.w (.int .i64 0),.w (.bool false)]
theorem zmz : zcx Try.prog 39 (delS 3 zaI20) := by
 refine ymr (z := zI20) (fun w b n c i q cs h1 h2 h3 h4 h5 h6 h7 h8 h9 => yms w b n c i q cs h1 h2 h3 h4 h5 h6 h7 h8 h9) (by decide) rfl zvk rfl ?_
 intro j h h'
 have hj : j < 3 := h
 match j,hj with
 | 0,_ => exact ⟨rfl,fun w loc => .str []⟩
 | 1,_ => exact ⟨rfl,fun w loc => .w _ rfl⟩
 | 2,_ => exact ⟨rfl,fun w loc => .w _ rfl⟩
end Go.Proofs.Ytioldmhhefhelaa
namespace Go.Proofs.Ytioldmhhefhelaa
namespace Ax
theorem zom (ys : List AV) (j : Nat) (h : j < ys.length) : ys[j] = slot ys j := by
 rw [zct]; simp [h]
theorem yis {sl : List AV} {H : Heap} {nx : Nat} (id0 k j s : Nat) (ys : List AV) (hl0 : look H id0 = some (.g k [.agg ys])) (hj : j < ys.length) (hn : nilV (slot ys j)) (hs : 0 < s) : Weak ⟨sl,H,nx⟩ ⟨sl,put (put H id0 (.g k [.agg (setSlot ys j (.ms nx s 0 0))])) nx (.g s []),nx + 1⟩ := by
 rintro w0 E B a w ⟨loc,hB,hr⟩
 have hf : loc.m nx = .free := hr.fresh nx (Nat.le_refl _)
 have hlow : id0 < nx := hr.low id0 _ hl0
 have hM : ∀ c,Mut (loc.set nx .nil) c → Mut loc c := by
  rintro c (h | ⟨k,h⟩)
  ·exact .inl h
  ·by_cases hk : k = nx
   ·subst hk; rw [Loc.set_same] at h; cases h
   ·rw [Loc.set_other _ _ hk] at h; exact .inr ⟨k,h⟩
 have hE : Ext (fun _ => False) w loc w (loc.set nx .nil) :=
  ⟨Nat.le_refl _,fun id h _ => Loc.set_other _ _ (fun e => h (e ▸ hf)),fun _ _ h => h.elim,fun c _ hm => ⟨rfl,fun h => hm (hM c h)⟩,fun _ _ _ _ => rfl,fun _ cur _ fz h => ⟨cur,fz,h,rfl⟩⟩
 have hset : ∀ {k c},(loc.set nx .nil).m k = .here c → loc.m k = .here c := by
  intro k c h
  by_cases hk : k = nx
  ·subst hk; rw [Loc.set_same] at h; cases h
  ·rwa [Loc.set_other _ _ hk] at h
 refine ⟨loc.set nx .nil,⟨hB.1,hB.2.1,fun k hk => ?_⟩,⟨hr.size,fun t => (hr.slots t).ext hE,?_,⟨hr.env.os,hr.env.tape,hr.env.output,hr.env.size,hr.env.same,fun i j b h1 h2 => hr.env.inj i j b (hset h1) (hset h2),fun i b h1 => hr.env.lies i b (hset h1),hr.env.bad⟩,?_,hr.defers,?_⟩⟩
 ·have hne : k ≠ nx := by
   rintro rfl
   rcases hB.2.2 k hk with h | ⟨h,_⟩ <;> rw [hf] at h <;> cases h
  rw [Loc.set_other _ _ hne]; exact hB.2.2 k hk
 ·intro id c hl
  simp only at hl
  rw [zau] at hl
  split at hl
  ·rename_i e; subst e
   injection hl with hl; subst hl
   unfold BlkR
   rw [Loc.set_same]; exact ⟨⟨hs,by simp⟩,rfl⟩
  ·rename_i e
   rw [zau] at hl
   split at hl
   ·rename_i e0; subst e0
    injection hl with hl; subst hl
    have h0 := hr.heap _ _ hl0
    unfold BlkR at h0 ⊢
    rw [Loc.set_other _ _ (Ne.symm e)]
    split at h0
    ·trivial
    ·exact h0.elim
    ·exact absurd h0.2 (by simp [Blk.len])
    ·obtain ⟨⟨hk0,hok⟩,hL⟩ := h0
     obtain ⟨cur,e1,fz,hc,hfz,hone,hfl,hcells⟩ := hL.lies rfl
     have e3 : (Blk.g k [AV.agg ys]).flat = ys := by simp [Blk.flat,AV.leaves]
     have e4 : (Blk.g k [AV.agg (setSlot ys j (.ms nx s 0 0))]).flat = setSlot ys j (.ms nx s 0 0) := by simp [Blk.flat,AV.leaves]
     rw [e3] at hfl
     have hcell : ∀ (t : Nat) (h : t < ys.length) (h' : t < cur.size),(slot ys t).leaf = true ∧ R w loc (slot ys t) cur[t] := by
      intro t h h'
      have := hcells t (by rw [e3]; exact h) h'
      have e5 : (Blk.g k [AV.agg ys]).flat[t]'(by rw [e3]; exact h) = slot ys t := by
       rw [← zom ys t h]; simp [e3]
      rw [e5] at this; exact this
     refine ⟨⟨hk0,?_⟩,Lies.mkC ⟨cur,e1,fz,hc,hfz,hone,by rw [e4,zay]; exact hfl,?_⟩⟩
     ·intro x hx
      obtain rfl := List.mem_singleton.1 hx
      have := hok (.agg ys) (List.mem_singleton.2 rfl)
      simpa [AV.leaves,zay] using this
     ·intro t h h'
      have ht : t < ys.length := by rw [e4,zay] at h; exact h
      have e5 : (Blk.g k [AV.agg (setSlot ys j (.ms nx s 0 0))]).flat[t] = slot (setSlot ys j (.ms nx s 0 0)) t := by
       rw [← zom _ t (by rw [zay]; exact ht)]; simp [e4]
      rw [e5]
      by_cases htj : j = t
      ·subst htj
       rw [zcg hj]
       obtain ⟨a',he⟩ := yto hn (hcell j hj h').2
       refine ⟨rfl,?_⟩
       rw [he]
       refine .ms _ _ _ _ _ ?_
       unfold Owns
       rw [Loc.set_same]
       exact ⟨rfl,a',rfl⟩
      ·rw [zcb htj]
       exact ⟨(hcell t ht h').1,(hcell t ht h').2.ext hE⟩
   ·rename_i e2
    by_cases hfr : loc.m id = .free
    ·exact BlkR.free (by rw [Loc.set_other _ _ (Ne.symm e)]; exact hfr)
    ·exact (hr.heap id c hl).ext hE (fun h => h) hfr
 ·intro id hid
  simp only at hid
  rw [Loc.set_other _ _ (by omega)]; exact hr.fresh id (by simp only; omega)
 ·intro id c hl
  simp only at hl
  rw [zau] at hl
  split at hl
  ·simp only; omega
  ·rw [zau] at hl
   split at hl
   ·simp only; omega
   ·have := hr.low id c hl
    simp only at this ⊢; omega
theorem ype {sl : List AV} {H : Heap} {nx : Nat} (id s i id0 : Nat) (zs : List AV) (b0 : Blk) (hl : look H id = some (.g s zs)) (hcl : closedL zs = true) (h0 : look H id0 = some b0) (hi0 : id0 ∈ (slot sl i).ids) (hin : id ∈ b0.idsB) : Weak ⟨sl,H,nx⟩ ⟨fgL id s zs sl,fgH id s zs H,nx⟩ := by
 rintro w0 E B a w ⟨loc,hB,hr⟩
 have h1 := zep _ _ (hr.slots i) hi0
 have h2 : loc.m id ≠ .free := by
  obtain ⟨hok,⟨_,e⟩ | ⟨c,hc,hlies⟩⟩ := hr.heap.get h0 h1
  ·rw [yeb e] at hin; simp at hin
  ·exact zqi hlies id hin
 obtain ⟨h3,h4⟩ := ytm hB hr h2 (hr.heap id _ hl) hcl
 exact ⟨_,h3,h4⟩
end Ax
end Go.Proofs.Ytioldmhhefhelaa
namespace Go.Proofs.Ytioldmhhefhelaa
open Ax
structure Mb where
 d : List UInt8
 t : Int
 y : Bool
deriving DecidableEq
def mbA (r : Mb) : AV := .agg [.str r.d,.w (.int .i64 r.t),.w (.bool r.y)]
def umb : AV → Mb
 | .agg [.str d,.w (.int _ t),.w (.bool y)] => ⟨d,t,y⟩
 | _ => ⟨[],0,false⟩
theorem zaj (l : List Mb) : (l.map mbA).map umb = l := by
 rw [List.map_map]; exact List.map_id _
theorem zad : ∀ (l : List Mb),closedL (l.map mbA) = true
 | [] => rfl
 | x :: r => by simp only [List.map_cons,closedL,mbA,AV.closed,Bool.true_and]; exact zad r
theorem zaf (g : Nat → Nat) : ∀ (l : List Mb),renL g (l.map mbA) = l.map mbA
 | [] => rfl
 | x :: r => by simp only [List.map_cons,renL,zaf g r]; rfl
theorem zaq : ∀ (l : List Mb),idsL (l.map mbA) = []
 | [] => rfl
 | x :: r => by simp only [List.map_cons,idsL,zaq r]; rfl
theorem zbe : ∀ (l : List Mb) (i : Nat) (h : i < l.length),slot (l.map mbA) i = mbA l[i]
 | p :: ps,0,h => rfl
 | p :: ps,i + 1,h => by
  simp only [List.map_cons,slot,List.getElem_cons_succ]
  exact zbe ps i (by simpa using h)
theorem zfs (r : Mb) : ∀ (cs : List Mb) (w : Nat),w < cs.length → setSlot (cs.map mbA) w (mbA r) = (cs.set w r).map mbA
 | x :: cs,0,_ => rfl
 | x :: cs,w + 1,h => by
  show mbA x :: setSlot (cs.map mbA) w (mbA r) = mbA x :: (cs.set w r).map mbA
  rw [zfs r cs w (by simpa using h)]
theorem zbi {l : List Mb} : ∀ y,y ∈ l.map mbA → y.closed = true := by
 intro y hy
 obtain ⟨c,_,rfl⟩ := List.mem_map.1 hy
 rfl
theorem zav (l : List Mb) (f : Bool) : coe ty 29 (.sg 3 (l.map mbA) f) = .sg 3 (l.map mbA) f := by cases l <;> rfl
theorem zcc (id s : Nat) (zs : List AV) : ∀ (l : List Mb),fgL id s zs (l.map mbA) = l.map mbA
 | [] => rfl
 | x :: r => by simp only [List.map_cons,fgL,zcc id s zs r]; rfl
theorem zha {α : Type} (p : α → Bool) (l : List α) (i : Nat) (h : i < l.length) (hp : p l[i] = true) (hno : (l.drop i).findIdx p + i = l.findIdx p) : l.findIdx p = i := by
 rw [List.drop_eq_getElem_cons h,List.findIdx_cons,hp] at hno
 simpa using hno.symm
theorem zdi {α : Type} (p : α → Bool) (l : List α) (i : Nat) (h : i < l.length) (hp : p l[i] = false) (hno : (l.drop i).findIdx p + i = l.findIdx p) : (l.drop (i + 1)).findIdx p + (i + 1) = l.findIdx p := by
 rw [List.drop_eq_getElem_cons h,List.findIdx_cons,hp] at hno
 simp at hno
 omega
theorem zes {α : Type} (p : α → Bool) (l : List α) (i : Nat) (h : l.length ≤ i) (hi : i ≤ l.length) (hno : (l.drop i).findIdx p + i = l.findIdx p) : l.findIdx p = l.length := by
 rw [List.drop_eq_nil_of_le h] at hno
 simp at hno
 omega
def zbn : zfi := fun _ => .std
def isD (v : List UInt8) : Mb → Bool := fun m => decide (m.d = v)
def leD (a b : List UInt8) : Bool := Op.bytesLess a b || decide (a = b)
def zea (v : List UInt8) : Mb → Bool := fun m => !(leD m.d v)
def offY : Mb → Bool := fun m => !m.y
def ixG (p : Mb → Bool) (l : List Mb) : Int := if l.findIdx p < l.length then (l.findIdx p : Nat) else -1
def plgS : zan
 | [.agg [.str d,.w (.int .i64 t),.w (.bool y)],.rf 0 1 0 0],[.g 1 [.str v]] => ⟨True,.w (.bool (decide (d = v))),[.g 1 [.str v]]⟩
 | _,_ => zbg
def jngS : zan
 | [.agg [.str d,.w (.int .i64 t),.w (.bool y)],.rf 0 1 0 0],[.g 1 [.str v]] => ⟨True,.w (.bool (!(leD d v))),[.g 1 [.str v]]⟩
 | _,_ => zbg
def asgS : zan
 | [.agg [.str d,.w (.int .i64 t),.w (.bool y)]],[] => ⟨True,.w (.bool (!y)),[]⟩
 | _,_ => zbg
section
set_option maxRecDepth 100000
theorem ykh : zcx Try.prog 53 plgS := by
 refine zci (S := noS) (SO := noO) (T := ty) mixed ty_ok zbh zhl Try.func53 (c := Try.f53.body.getD .skip) (by kernel_rfl) (fun xs pins hp => ?_)
 unfold plgS at hp ⊢
 split at hp
 ·rename_i d t y v
  refine ⟨by simp,zbn,by kernel_rfl,?_⟩
  unfold Try.f53
  simp only [go_sem,coe,zaa,↓reduceIte,lcT,ty,noS,zbn,leD]
  try (refine ⟨_,Weak.refl _,?_⟩)
  try simp only [go_sem,coe,zaa,↓reduceIte,lcT,ty,noS]
 ·exact hp.elim
theorem ylb : zcx Try.prog 32 jngS := by
 refine zci (S := noS) (SO := noO) (T := ty) mixed ty_ok zbh zhl Try.func32 (c := Try.f32.body.getD .skip) (by kernel_rfl) (fun xs pins hp => ?_)
 unfold jngS at hp ⊢
 split at hp
 ·rename_i d t y v
  refine ⟨by simp,zbn,by kernel_rfl,?_⟩
  unfold Try.f32
  simp only [go_sem,coe,zaa,↓reduceIte,lcT,ty,noS,zbn,leD]
  try (refine ⟨_,Weak.refl _,?_⟩)
  try simp only [go_sem,coe,zaa,↓reduceIte,lcT,ty,noS]
 ·exact hp.elim
theorem yof : zcx Try.prog 59 asgS := by
 refine zci (S := noS) (SO := noO) (T := ty) mixed ty_ok zbh zhl Try.func59 (c := Try.f59.body.getD .skip) (by kernel_rfl) (fun xs pins hp => ?_)
 unfold asgS at hp ⊢
 split at hp
 ·rename_i d t y
  refine ⟨by simp,zbn,by kernel_rfl,?_⟩
  unfold Try.f59
  simp only [go_sem,coe,zaa,↓reduceIte,lcT,ty,noS,zbn,leD]
  try (refine ⟨_,Weak.refl _,?_⟩)
  try simp only [go_sem,coe,zaa,↓reduceIte,lcT,ty,noS]
 ·exact hp.elim
end
def empP : List AV → Bool
 | [] => true
 | _ => false
def yer : zfi := fun id => match id with
 | 1 => .tst [false,true]
 | 3 => .tst [true,false,true]
 | _ => .std
def yhv : zfi := fun id => match id with
 | 1 => .tst [false,true]
 | 3 => .tst [true]
 | _ => .std
theorem zpd {w : World} {loc : Ax.Loc} {v : Value} {s : Nat} (s' : Nat) (h : R w loc (.sg s [] true) v) : R w loc (.sg s' [] true) v := by
 cases h with
 | sg _ _ _ a cap cs hd hs hc hl hx hh => exact .sg s' [] true a cap cs hd (by simp) hc hl hx hh
section
set_option maxRecDepth 100000
set_option maxHeartbeats 4000000
def zyx : zan
 | [.sg 3 xs f],[] => ⟨xs.length ≤ 1000000 ∧ ∃ l : List Mb,xs = l.map mbA,bif empP xs then .sg 3 [] true else .ms 0 3 0 xs.length,bif empP xs then [] else [.g 3 xs]⟩
 | _,_ => zbg
theorem yca : zaz Try.prog 55 zyx := by
 refine zbo (S := noS) (SO := noO) (T := ty) mixed ty_ok zbh zhl Try.func55 (c := Try.f55.body.getD .skip) (by kernel_rfl) (fun xs pins hp _ => ?_)
 unfold zyx at hp ⊢
 split at hp
 ·rename_i xs f _
  obtain ⟨hL,l,rfl⟩ := hp
  rw [List.length_map] at hL
  have hl6 : (l.map mbA).length = l.length := by simp
  cases l with
  | nil =>
   refine ⟨by simp,yer,by kernel_rfl,?_⟩
   unfold Try.f55
   simp only [go_sem,zaa,↓reduceIte,lcT,ty,noS,yer,zfm,List.map_nil,List.length_nil,empP,cond_true]
   repeat (refine And.intro (by omega) ?_)
   intro b
   refine ⟨fun hb => ?_,fun hb => ?_⟩
   ·refine ⟨_,zhi 2 (.sg 3 [] true) (fun w loc v h => zpd 3 h),?_⟩
    simp only [go_sem,zaa,↓reduceIte,lcT,ty,noS,List.map_nil]
   ·refine ⟨_,zhi 2 (.sg 3 [] true) (fun w loc v h => zpd 3 h),?_⟩
    simp only [go_sem,zaa,↓reduceIte,lcT,ty,noS,List.map_nil]
  | cons c l =>
   refine ⟨by simp,yhv,by kernel_rfl,?_⟩
   have hem : empP ((c :: l).map mbA) = false := rfl
   have hz : (c :: l).length ≠ 0 := by simp
   generalize hls : c :: l = ls at *
   have htop : ls.length ≤ top := by unfold top; omega
   have hcl := zad ls
   have hdle : decide (0 + ls.length ≤ (ls.map mbA).length) = true := decide_eq_true (by simp)
   have htk : (ls.map mbA).take ls.length = ls.map mbA := List.take_of_length_le (by simp)
   unfold Try.f55
   simp only [go_sem,zaa,↓reduceIte,lcT,ty,noS,yhv,zfm,hl6]
   repeat (refine And.intro (by omega) ?_)
   intro b hb
   obtain rfl : b = false := by cases b with | false => rfl | true => exact absurd (hb rfl) hz
   simp only [go_sem,zaa,↓reduceIte,lcT,ty,noS,yhv,zfm,hl6,hem,cond_false]
   refine ⟨htop,_,Weak.refl _,?_⟩
   simp only [go_sem,zaa,↓reduceIte,lcT,ty,noS,hl6,hem,cond_false,hcl]
 ·exact hp.elim
end
def ixP (id : FuncId) (v : List UInt8) : Mb → Bool := if id = 53 then isD v else zea v
def ixGS : zan
 | [.sg 3 xs g,.fn id [.rf 0 1 0 0]],[.g 1 [.str v]] => ⟨(id = 53 ∨ id = 32) ∧ xs.length ≤ 9223372036854775807 ∧ (∃ l : List Mb,xs = l.map mbA),.w (.int .i64 (ixG (ixP id v) (xs.map umb))),[.g 1 [.str v]]⟩
 | [.ms 0 3 0 n,.fn id [.rf 1 1 0 0]],[.g 3 xs,.g 1 [.str v]] => ⟨(id = 53 ∨ id = 32) ∧ (n = xs.length ∧ 0 < n ∧ n ≤ 9223372036854775807) ∧ (∃ l : List Mb,xs = l.map mbA),.w (.int .i64 (ixG (ixP id v) (xs.map umb))),[.g 3 xs,.g 1 [.str v]]⟩
 | [.sg 3 xs g,.fn id []],[] => ⟨id = 59 ∧ xs.length ≤ 9223372036854775807 ∧ (∃ l : List Mb,xs = l.map mbA),.w (.int .i64 (ixG offY (xs.map umb))),[]⟩
 | _,_ => zbg
def zbj : zfi := fun id => match id with
 | 4 => .opn [] 5
 | _ => .std
def ziw (f : FuncId) : Option zan :=
 match f with
 | 53 => some plgS
 | 32 => some jngS
 | 59 => some asgS
 | _ => none
theorem ysy : FnsO Try.prog ziw := by
 intro f s h
 unfold ziw at h
 split at h
 ·injection h with h; subst h; exact ⟨⟨_,Try.func53,by kernel_rfl,by kernel_rfl⟩,ykh⟩
 ·injection h with h; subst h; exact ⟨⟨_,Try.func32,by kernel_rfl,by kernel_rfl⟩,ylb⟩
 ·injection h with h; subst h; exact ⟨⟨_,Try.func59,by kernel_rfl,by kernel_rfl⟩,yof⟩
 ·cases h
section
set_option maxRecDepth 100000
set_option maxHeartbeats 8000000
theorem zqo : zcx Try.prog 31 ixGS := by
 refine zci (S := noS) (SO := ziw) (T := ty) mixed ty_ok zbh ysy Try.func31 (c := Try.f31.body.getD .skip) (by kernel_rfl) (fun xs pins hp => ?_)
 unfold ixGS at hp ⊢
 split at hp
 ·rename_i xs g id v
  obtain ⟨hid,hL,l,rfl⟩ := hp
  rw [List.length_map] at hL
  have hle : (l.map mbA).length = l.length := by simp
  have hcl := zad l
  rw [zaj]
  unfold ixG
  rcases hid with rfl | rfl
  ·have hP : ixP 53 v = isD v := if_pos rfl
   rw [hP]
   refine ⟨by simp,zbj,by kernel_rfl,?_⟩
   unfold Try.f31
   simp only [go_sem,zaa,↓reduceIte,lcT,ty,noS,ziw,zbj,hle,hcl,Int.toNat_natCast]
   refine zco ⟨fun m σ => ∃ i : Nat,m = l.length - i ∧ i ≤ l.length ∧ (l.drop i).findIdx (isD v) + i = l.findIdx (isD v) ∧
     σ = ⟨[.sg 3 (l.map mbA) g,.fn 53 [.rf 0 1 0 0],.junk,.junk,.junk,.junk,.sg 3 (l.map mbA) g,.w (.int .i64 l.length),.w (.int .i64 i),.junk,.junk,.junk,.junk,.junk,.junk,.junk,.junk,.junk,.junk],[(0,.g 1 [.str v])],4⟩,?_,?_⟩
   ·refine ⟨_,_,zag [0,1,2,3] rfl rfl rfl ?_ ?_,0,rfl,by omega,by rw [List.drop_zero]; rfl,rfl⟩
    ·simp only [ssT,zal,zam,setSlot,gOf,AV.ren,renL,Blk.ren,Ax.look,Ax.put,reduceCtorEq,↓reduceIte,Nat.reduceEqDiff,Nat.reduceLT,Nat.reduceAdd,List.length_append,List.length_cons,List.length_nil,Option.some.injEq,zaf]; try simp
    ·simp only [ssT,zal,zam,setSlot,gOf,AV.ren,renL,Blk.ren,Ax.look,Ax.put,reduceCtorEq,↓reduceIte,Nat.reduceEqDiff,Nat.reduceLT,Nat.reduceAdd,List.length_append,List.length_cons,List.length_nil,Option.some.injEq,zaf]; try simp
   ·rintro m σ ⟨i,rfl,hi,hinv,rfl⟩
    by_cases hil : i < l.length
    ·have e1 : ((i : Int) + 1 + 9223372036854775808) % 18446744073709551616 - 9223372036854775808 = ((i + 1 : Nat) : Int) := by omega
     have d1x : decide ((i : Int) < l.length) = true := decide_eq_true (by omega)
     have hs1 := zbe l i hil
     cases hv : (isD v) l[i] with
     | true =>
      have hfi := zha _ l i hil hv hinv
      rw [hfi,if_pos hil]
      obtain ⟨r,hr1⟩ : ∃ r,l[i] = r := ⟨_,rfl⟩
      rw [hr1] at hs1 hv
      obtain ⟨d1,t1,y1⟩ := r
      have hs1 : slot (l.map mbA) i = .agg [.str d1,.w (.int .i64 t1),.w (.bool y1)] := hs1
      have hv : decide (d1 = v) = _ := hv
      simp only [go_sem,zaa,↓reduceIte,lcT,ty,noS,ziw,zbj,plgS,hle,hcl,d1x,hs1,hv,Int.toNat_natCast,Bool.not_true,Bool.not_false]
      repeat (refine And.intro (by omega) ?_)
      refine ⟨_,Weak.refl _,?_⟩
      simp only [go_sem,zaa,↓reduceIte,lcT,ty,noS,zbj,hcl,hle,cond_true]
      try (refine ⟨_,Weak.refl _,?_⟩)
      try simp only [go_sem,zaa,↓reduceIte,lcT,ty,noS,zbj,hcl,hle,cond_true]
     | false =>
      have hfi := zdi _ l i hil hv hinv
      obtain ⟨r,hr1⟩ : ∃ r,l[i] = r := ⟨_,rfl⟩
      rw [hr1] at hs1 hv
      obtain ⟨d1,t1,y1⟩ := r
      have hs1 : slot (l.map mbA) i = .agg [.str d1,.w (.int .i64 t1),.w (.bool y1)] := hs1
      have hv : decide (d1 = v) = _ := hv
      simp only [go_sem,zaa,↓reduceIte,lcT,ty,noS,ziw,zbj,plgS,hle,hcl,d1x,hs1,hv,e1,Int.toNat_natCast,Bool.not_true,Bool.not_false]
      repeat (refine And.intro (by omega) ?_)
      refine ⟨l.length - (i + 1),_,by omega,zag [0,1,2,3] rfl rfl rfl ?_ ?_,i + 1,rfl,by omega,hfi,rfl⟩
      ·simp only [ssT,zal,zam,setSlot,gOf,AV.ren,renL,Blk.ren,Ax.look,Ax.put,reduceCtorEq,↓reduceIte,Nat.reduceEqDiff,Nat.reduceLT,Nat.reduceAdd,List.length_append,List.length_cons,List.length_nil,Option.some.injEq,zaf]; try simp
      ·simp only [ssT,zal,zam,setSlot,gOf,AV.ren,renL,Blk.ren,Ax.look,Ax.put,reduceCtorEq,↓reduceIte,Nat.reduceEqDiff,Nat.reduceLT,Nat.reduceAdd,List.length_append,List.length_cons,List.length_nil,Option.some.injEq,zaf]; try simp
    ·have d1x : decide ((i : Int) < l.length) = false := decide_eq_false (by omega)
     have hfi := zes _ l i (by omega) hi hinv
     rw [hfi,if_neg (Nat.lt_irrefl _)]
     simp only [go_sem,zaa,↓reduceIte,lcT,ty,noS,zbj,hle,hcl,d1x]
     refine ⟨_,Weak.refl _,?_⟩
     simp only [go_sem,zaa,↓reduceIte,lcT,ty,noS,zbj,hcl,hle,cond_true]
     try (refine ⟨_,Weak.refl _,?_⟩)
     try simp only [go_sem,zaa,↓reduceIte,lcT,ty,noS,zbj,hcl,hle,cond_true]
  ·have hP : ixP 32 v = zea v := if_neg (by decide)
   rw [hP]
   refine ⟨by simp,zbj,by kernel_rfl,?_⟩
   unfold Try.f31
   simp only [go_sem,zaa,↓reduceIte,lcT,ty,noS,ziw,zbj,hle,hcl,Int.toNat_natCast]
   refine zco ⟨fun m σ => ∃ i : Nat,m = l.length - i ∧ i ≤ l.length ∧ (l.drop i).findIdx (zea v) + i = l.findIdx (zea v) ∧
     σ = ⟨[.sg 3 (l.map mbA) g,.fn 32 [.rf 0 1 0 0],.junk,.junk,.junk,.junk,.sg 3 (l.map mbA) g,.w (.int .i64 l.length),.w (.int .i64 i),.junk,.junk,.junk,.junk,.junk,.junk,.junk,.junk,.junk,.junk],[(0,.g 1 [.str v])],4⟩,?_,?_⟩
   ·refine ⟨_,_,zag [0,1,2,3] rfl rfl rfl ?_ ?_,0,rfl,by omega,by rw [List.drop_zero]; rfl,rfl⟩
    ·simp only [ssT,zal,zam,setSlot,gOf,AV.ren,renL,Blk.ren,Ax.look,Ax.put,reduceCtorEq,↓reduceIte,Nat.reduceEqDiff,Nat.reduceLT,Nat.reduceAdd,List.length_append,List.length_cons,List.length_nil,Option.some.injEq,zaf]; try simp
    ·simp only [ssT,zal,zam,setSlot,gOf,AV.ren,renL,Blk.ren,Ax.look,Ax.put,reduceCtorEq,↓reduceIte,Nat.reduceEqDiff,Nat.reduceLT,Nat.reduceAdd,List.length_append,List.length_cons,List.length_nil,Option.some.injEq,zaf]; try simp
   ·rintro m σ ⟨i,rfl,hi,hinv,rfl⟩
    by_cases hil : i < l.length
    ·have e1 : ((i : Int) + 1 + 9223372036854775808) % 18446744073709551616 - 9223372036854775808 = ((i + 1 : Nat) : Int) := by omega
     have d1x : decide ((i : Int) < l.length) = true := decide_eq_true (by omega)
     have hs1 := zbe l i hil
     cases hv : (zea v) l[i] with
     | true =>
      have hfi := zha _ l i hil hv hinv
      rw [hfi,if_pos hil]
      obtain ⟨r,hr1⟩ : ∃ r,l[i] = r := ⟨_,rfl⟩
      rw [hr1] at hs1 hv
      obtain ⟨d1,t1,y1⟩ := r
      have hs1 : slot (l.map mbA) i = .agg [.str d1,.w (.int .i64 t1),.w (.bool y1)] := hs1
      have hv : (!(leD d1 v)) = _ := hv
      simp only [go_sem,zaa,↓reduceIte,lcT,ty,noS,ziw,zbj,jngS,hle,hcl,d1x,hs1,hv,Int.toNat_natCast,Bool.not_true,Bool.not_false]
      repeat (refine And.intro (by omega) ?_)
      refine ⟨_,Weak.refl _,?_⟩
      simp only [go_sem,zaa,↓reduceIte,lcT,ty,noS,zbj,hcl,hle,cond_true]
      try (refine ⟨_,Weak.refl _,?_⟩)
      try simp only [go_sem,zaa,↓reduceIte,lcT,ty,noS,zbj,hcl,hle,cond_true]
     | false =>
      have hfi := zdi _ l i hil hv hinv
      obtain ⟨r,hr1⟩ : ∃ r,l[i] = r := ⟨_,rfl⟩
      rw [hr1] at hs1 hv
      obtain ⟨d1,t1,y1⟩ := r
      have hs1 : slot (l.map mbA) i = .agg [.str d1,.w (.int .i64 t1),.w (.bool y1)] := hs1
      have hv : (!(leD d1 v)) = _ := hv
      simp only [go_sem,zaa,↓reduceIte,lcT,ty,noS,ziw,zbj,jngS,hle,hcl,d1x,hs1,hv,e1,Int.toNat_natCast,Bool.not_true,Bool.not_false]
      repeat (refine And.intro (by omega) ?_)
      refine ⟨l.length - (i + 1),_,by omega,zag [0,1,2,3] rfl rfl rfl ?_ ?_,i + 1,rfl,by omega,hfi,rfl⟩
      ·simp only [ssT,zal,zam,setSlot,gOf,AV.ren,renL,Blk.ren,Ax.look,Ax.put,reduceCtorEq,↓reduceIte,Nat.reduceEqDiff,Nat.reduceLT,Nat.reduceAdd,List.length_append,List.length_cons,List.length_nil,Option.some.injEq,zaf]; try simp
      ·simp only [ssT,zal,zam,setSlot,gOf,AV.ren,renL,Blk.ren,Ax.look,Ax.put,reduceCtorEq,↓reduceIte,Nat.reduceEqDiff,Nat.reduceLT,Nat.reduceAdd,List.length_append,List.length_cons,List.length_nil,Option.some.injEq,zaf]; try simp
    ·have d1x : decide ((i : Int) < l.length) = false := decide_eq_false (by omega)
     have hfi := zes _ l i (by omega) hi hinv
     rw [hfi,if_neg (Nat.lt_irrefl _)]
     simp only [go_sem,zaa,↓reduceIte,lcT,ty,noS,zbj,hle,hcl,d1x]
     refine ⟨_,Weak.refl _,?_⟩
     simp only [go_sem,zaa,↓reduceIte,lcT,ty,noS,zbj,hcl,hle,cond_true]
     try (refine ⟨_,Weak.refl _,?_⟩)
     try simp only [go_sem,zaa,↓reduceIte,lcT,ty,noS,zbj,hcl,hle,cond_true]
 ·rename_i n id xs v
  obtain ⟨hid,⟨rfl,h0,hL⟩,l,rfl⟩ := hp
  rw [List.length_map] at h0 hL
  have hle : (l.map mbA).length = l.length := by simp
  have hcl := zad l
  rw [zaj]
  unfold ixG
  rcases hid with rfl | rfl
  ·have hP : ixP 53 v = isD v := if_pos rfl
   rw [hP]
   refine ⟨by simp,zbj,by kernel_rfl,?_⟩
   unfold Try.f31
   simp only [go_sem,zaa,↓reduceIte,lcT,ty,noS,ziw,zbj,hle,hcl,Int.toNat_natCast]
   refine zco ⟨fun m σ => ∃ i : Nat,m = l.length - i ∧ i ≤ l.length ∧ (l.drop i).findIdx (isD v) + i = l.findIdx (isD v) ∧
     σ = ⟨[.ms 0 3 0 l.length,.fn 53 [.rf 1 1 0 0],.junk,.junk,.junk,.junk,.ms 0 3 0 l.length,.w (.int .i64 l.length),.w (.int .i64 i),.junk,.junk,.junk,.junk,.junk,.junk,.junk,.junk,.junk,.junk],[(0,.g 3 (l.map mbA)),(1,.g 1 [.str v])],4⟩,?_,?_⟩
   ·refine ⟨_,_,zag [0,1,2,3] rfl rfl rfl ?_ ?_,0,rfl,by omega,by rw [List.drop_zero]; rfl,rfl⟩
    ·simp only [ssT,zal,zam,setSlot,gOf,AV.ren,renL,Blk.ren,Ax.look,Ax.put,reduceCtorEq,↓reduceIte,Nat.reduceEqDiff,Nat.reduceLT,Nat.reduceAdd,List.length_append,List.length_cons,List.length_nil,Option.some.injEq,zaf]; try simp
    ·simp only [ssT,zal,zam,setSlot,gOf,AV.ren,renL,Blk.ren,Ax.look,Ax.put,reduceCtorEq,↓reduceIte,Nat.reduceEqDiff,Nat.reduceLT,Nat.reduceAdd,List.length_append,List.length_cons,List.length_nil,Option.some.injEq,zaf]; try simp
   ·rintro m σ ⟨i,rfl,hi,hinv,rfl⟩
    by_cases hil : i < l.length
    ·have e1 : ((i : Int) + 1 + 9223372036854775808) % 18446744073709551616 - 9223372036854775808 = ((i + 1 : Nat) : Int) := by omega
     have d1x : decide ((i : Int) < l.length) = true := decide_eq_true (by omega)
     have hs1 := zbe l i hil
     cases hv : (isD v) l[i] with
     | true =>
      have hfi := zha _ l i hil hv hinv
      rw [hfi,if_pos hil]
      obtain ⟨r,hr1⟩ : ∃ r,l[i] = r := ⟨_,rfl⟩
      rw [hr1] at hs1 hv
      obtain ⟨d1,t1,y1⟩ := r
      have hs1 : slot (l.map mbA) i = .agg [.str d1,.w (.int .i64 t1),.w (.bool y1)] := hs1
      have hv : decide (d1 = v) = _ := hv
      simp only [go_sem,zaa,↓reduceIte,lcT,ty,noS,ziw,zbj,plgS,hle,hcl,d1x,hs1,hv,Int.toNat_natCast,Bool.not_true,Bool.not_false]
      repeat (refine And.intro (by omega) ?_)
      refine ⟨_,Weak.refl _,?_⟩
      simp only [go_sem,zaa,↓reduceIte,lcT,ty,noS,zbj,hcl,hle,cond_true]
      try (refine ⟨_,Weak.refl _,?_⟩)
      try simp only [go_sem,zaa,↓reduceIte,lcT,ty,noS,zbj,hcl,hle,cond_true]
     | false =>
      have hfi := zdi _ l i hil hv hinv
      obtain ⟨r,hr1⟩ : ∃ r,l[i] = r := ⟨_,rfl⟩
      rw [hr1] at hs1 hv
      obtain ⟨d1,t1,y1⟩ := r
      have hs1 : slot (l.map mbA) i = .agg [.str d1,.w (.int .i64 t1),.w (.bool y1)] := hs1
      have hv : decide (d1 = v) = _ := hv
      simp only [go_sem,zaa,↓reduceIte,lcT,ty,noS,ziw,zbj,plgS,hle,hcl,d1x,hs1,hv,e1,Int.toNat_natCast,Bool.not_true,Bool.not_false]
      repeat (refine And.intro (by omega) ?_)
      refine ⟨l.length - (i + 1),_,by omega,zag [0,1,2,3] rfl rfl rfl ?_ ?_,i + 1,rfl,by omega,hfi,rfl⟩
      ·simp only [ssT,zal,zam,setSlot,gOf,AV.ren,renL,Blk.ren,Ax.look,Ax.put,reduceCtorEq,↓reduceIte,Nat.reduceEqDiff,Nat.reduceLT,Nat.reduceAdd,List.length_append,List.length_cons,List.length_nil,Option.some.injEq,zaf]; try simp
      ·simp only [ssT,zal,zam,setSlot,gOf,AV.ren,renL,Blk.ren,Ax.look,Ax.put,reduceCtorEq,↓reduceIte,Nat.reduceEqDiff,Nat.reduceLT,Nat.reduceAdd,List.length_append,List.length_cons,List.length_nil,Option.some.injEq,zaf]; try simp
    ·have d1x : decide ((i : Int) < l.length) = false := decide_eq_false (by omega)
     have hfi := zes _ l i (by omega) hi hinv
     rw [hfi,if_neg (Nat.lt_irrefl _)]
     simp only [go_sem,zaa,↓reduceIte,lcT,ty,noS,zbj,hle,hcl,d1x]
     refine ⟨_,Weak.refl _,?_⟩
     simp only [go_sem,zaa,↓reduceIte,lcT,ty,noS,zbj,hcl,hle,cond_true]
     try (refine ⟨_,Weak.refl _,?_⟩)
     try simp only [go_sem,zaa,↓reduceIte,lcT,ty,noS,zbj,hcl,hle,cond_true]
  ·have hP : ixP 32 v = zea v := if_neg (by decide)
   rw [hP]
   refine ⟨by simp,zbj,by kernel_rfl,?_⟩
   unfold Try.f31
   simp only [go_sem,zaa,↓reduceIte,lcT,ty,noS,ziw,zbj,hle,hcl,Int.toNat_natCast]
   refine zco ⟨fun m σ => ∃ i : Nat,m = l.length - i ∧ i ≤ l.length ∧ (l.drop i).findIdx (zea v) + i = l.findIdx (zea v) ∧
     σ = ⟨[.ms 0 3 0 l.length,.fn 32 [.rf 1 1 0 0],.junk,.junk,.junk,.junk,.ms 0 3 0 l.length,.w (.int .i64 l.length),.w (.int .i64 i),.junk,.junk,.junk,.junk,.junk,.junk,.junk,.junk,.junk,.junk],[(0,.g 3 (l.map mbA)),(1,.g 1 [.str v])],4⟩,?_,?_⟩
   ·refine ⟨_,_,zag [0,1,2,3] rfl rfl rfl ?_ ?_,0,rfl,by omega,by rw [List.drop_zero]; rfl,rfl⟩
    ·simp only [ssT,zal,zam,setSlot,gOf,AV.ren,renL,Blk.ren,Ax.look,Ax.put,reduceCtorEq,↓reduceIte,Nat.reduceEqDiff,Nat.reduceLT,Nat.reduceAdd,List.length_append,List.length_cons,List.length_nil,Option.some.injEq,zaf]; try simp
    ·simp only [ssT,zal,zam,setSlot,gOf,AV.ren,renL,Blk.ren,Ax.look,Ax.put,reduceCtorEq,↓reduceIte,Nat.reduceEqDiff,Nat.reduceLT,Nat.reduceAdd,List.length_append,List.length_cons,List.length_nil,Option.some.injEq,zaf]; try simp
   ·rintro m σ ⟨i,rfl,hi,hinv,rfl⟩
    by_cases hil : i < l.length
    ·have e1 : ((i : Int) + 1 + 9223372036854775808) % 18446744073709551616 - 9223372036854775808 = ((i + 1 : Nat) : Int) := by omega
     have d1x : decide ((i : Int) < l.length) = true := decide_eq_true (by omega)
     have hs1 := zbe l i hil
     cases hv : (zea v) l[i] with
     | true =>
      have hfi := zha _ l i hil hv hinv
      rw [hfi,if_pos hil]
      obtain ⟨r,hr1⟩ : ∃ r,l[i] = r := ⟨_,rfl⟩
      rw [hr1] at hs1 hv
      obtain ⟨d1,t1,y1⟩ := r
      have hs1 : slot (l.map mbA) i = .agg [.str d1,.w (.int .i64 t1),.w (.bool y1)] := hs1
      have hv : (!(leD d1 v)) = _ := hv
      simp only [go_sem,zaa,↓reduceIte,lcT,ty,noS,ziw,zbj,jngS,hle,hcl,d1x,hs1,hv,Int.toNat_natCast,Bool.not_true,Bool.not_false]
      repeat (refine And.intro (by omega) ?_)
      refine ⟨_,Weak.refl _,?_⟩
      simp only [go_sem,zaa,↓reduceIte,lcT,ty,noS,zbj,hcl,hle,cond_true]
      try (refine ⟨_,Weak.refl _,?_⟩)
      try simp only [go_sem,zaa,↓reduceIte,lcT,ty,noS,zbj,hcl,hle,cond_true]
     | false =>
      have hfi := zdi _ l i hil hv hinv
      obtain ⟨r,hr1⟩ : ∃ r,l[i] = r := ⟨_,rfl⟩
      rw [hr1] at hs1 hv
      obtain ⟨d1,t1,y1⟩ := r
      have hs1 : slot (l.map mbA) i = .agg [.str d1,.w (.int .i64 t1),.w (.bool y1)] := hs1
      have hv : (!(leD d1 v)) = _ := hv
      simp only [go_sem,zaa,↓reduceIte,lcT,ty,noS,ziw,zbj,jngS,hle,hcl,d1x,hs1,hv,e1,Int.toNat_natCast,Bool.not_true,Bool.not_false]
      repeat (refine And.intro (by omega) ?_)
      refine ⟨l.length - (i + 1),_,by omega,zag [0,1,2,3] rfl rfl rfl ?_ ?_,i + 1,rfl,by omega,hfi,rfl⟩
      ·simp only [ssT,zal,zam,setSlot,gOf,AV.ren,renL,Blk.ren,Ax.look,Ax.put,reduceCtorEq,↓reduceIte,Nat.reduceEqDiff,Nat.reduceLT,Nat.reduceAdd,List.length_append,List.length_cons,List.length_nil,Option.some.injEq,zaf]; try simp
      ·simp only [ssT,zal,zam,setSlot,gOf,AV.ren,renL,Blk.ren,Ax.look,Ax.put,reduceCtorEq,↓reduceIte,Nat.reduceEqDiff,Nat.reduceLT,Nat.reduceAdd,List.length_append,List.length_cons,List.length_nil,Option.some.injEq,zaf]; try simp
    ·have d1x : decide ((i : Int) < l.length) = false := decide_eq_false (by omega)
     have hfi := zes _ l i (by omega) hi hinv
     rw [hfi,if_neg (Nat.lt_irrefl _)]
     simp only [go_sem,zaa,↓reduceIte,lcT,ty,noS,zbj,hle,hcl,d1x]
     refine ⟨_,Weak.refl _,?_⟩
     simp only [go_sem,zaa,↓reduceIte,lcT,ty,noS,zbj,hcl,hle,cond_true]
     try (refine ⟨_,Weak.refl _,?_⟩)
     try simp only [go_sem,zaa,↓reduceIte,lcT,ty,noS,zbj,hcl,hle,cond_true]
 ·rename_i xs g id
  obtain ⟨rfl,hL,l,rfl⟩ := hp
  rw [List.length_map] at hL
  have hle : (l.map mbA).length = l.length := by simp
  have hcl := zad l
  rw [zaj]
  unfold ixG
  refine ⟨by simp,zbj,by kernel_rfl,?_⟩
  unfold Try.f31
  simp only [go_sem,zaa,↓reduceIte,lcT,ty,noS,ziw,zbj,hle,hcl,Int.toNat_natCast]
  refine zco ⟨fun m σ => ∃ i : Nat,m = l.length - i ∧ i ≤ l.length ∧ (l.drop i).findIdx (offY) + i = l.findIdx (offY) ∧
    σ = ⟨[.sg 3 (l.map mbA) g,.fn 59 [],.junk,.junk,.junk,.junk,.sg 3 (l.map mbA) g,.w (.int .i64 l.length),.w (.int .i64 i),.junk,.junk,.junk,.junk,.junk,.junk,.junk,.junk,.junk,.junk],[],4⟩,?_,?_⟩
  ·refine ⟨_,_,zag [0,1,2,3] rfl rfl rfl ?_ ?_,0,rfl,by omega,by rw [List.drop_zero]; rfl,rfl⟩
   ·simp only [ssT,zal,zam,setSlot,gOf,AV.ren,renL,Blk.ren,Ax.look,Ax.put,reduceCtorEq,↓reduceIte,Nat.reduceEqDiff,Nat.reduceLT,Nat.reduceAdd,List.length_append,List.length_cons,List.length_nil,Option.some.injEq,zaf]; try simp
   ·simp only [ssT,zal,zam,setSlot,gOf,AV.ren,renL,Blk.ren,Ax.look,Ax.put,reduceCtorEq,↓reduceIte,Nat.reduceEqDiff,Nat.reduceLT,Nat.reduceAdd,List.length_append,List.length_cons,List.length_nil,Option.some.injEq,zaf]; try simp
  ·rintro m σ ⟨i,rfl,hi,hinv,rfl⟩
   by_cases hil : i < l.length
   ·have e1 : ((i : Int) + 1 + 9223372036854775808) % 18446744073709551616 - 9223372036854775808 = ((i + 1 : Nat) : Int) := by omega
    have d1x : decide ((i : Int) < l.length) = true := decide_eq_true (by omega)
    have hs1 := zbe l i hil
    cases hv : (offY) l[i] with
    | true =>
     have hfi := zha _ l i hil hv hinv
     rw [hfi,if_pos hil]
     obtain ⟨r,hr1⟩ : ∃ r,l[i] = r := ⟨_,rfl⟩
     rw [hr1] at hs1 hv
     obtain ⟨d1,t1,y1⟩ := r
     have hs1 : slot (l.map mbA) i = .agg [.str d1,.w (.int .i64 t1),.w (.bool y1)] := hs1
     have hv : (!y1) = _ := hv
     simp only [go_sem,zaa,↓reduceIte,lcT,ty,noS,ziw,zbj,asgS,hle,hcl,d1x,hs1,hv,Int.toNat_natCast,Bool.not_true,Bool.not_false]
     repeat (refine And.intro (by omega) ?_)
     refine ⟨_,Weak.refl _,?_⟩
     simp only [go_sem,zaa,↓reduceIte,lcT,ty,noS,zbj,hcl,hle,cond_true]
     try (refine ⟨_,Weak.refl _,?_⟩)
     try simp only [go_sem,zaa,↓reduceIte,lcT,ty,noS,zbj,hcl,hle,cond_true]
    | false =>
     have hfi := zdi _ l i hil hv hinv
     obtain ⟨r,hr1⟩ : ∃ r,l[i] = r := ⟨_,rfl⟩
     rw [hr1] at hs1 hv
     obtain ⟨d1,t1,y1⟩ := r
     have hs1 : slot (l.map mbA) i = .agg [.str d1,.w (.int .i64 t1),.w (.bool y1)] := hs1
     have hv : (!y1) = _ := hv
     simp only [go_sem,zaa,↓reduceIte,lcT,ty,noS,ziw,zbj,asgS,hle,hcl,d1x,hs1,hv,e1,Int.toNat_natCast,Bool.not_true,Bool.not_false]
     repeat (refine And.intro (by omega) ?_)
     refine ⟨l.length - (i + 1),_,by omega,zag [0,1,2,3] rfl rfl rfl ?_ ?_,i + 1,rfl,by omega,hfi,rfl⟩
     ·simp only [ssT,zal,zam,setSlot,gOf,AV.ren,renL,Blk.ren,Ax.look,Ax.put,reduceCtorEq,↓reduceIte,Nat.reduceEqDiff,Nat.reduceLT,Nat.reduceAdd,List.length_append,List.length_cons,List.length_nil,Option.some.injEq,zaf]; try simp
     ·simp only [ssT,zal,zam,setSlot,gOf,AV.ren,renL,Blk.ren,Ax.look,Ax.put,reduceCtorEq,↓reduceIte,Nat.reduceEqDiff,Nat.reduceLT,Nat.reduceAdd,List.length_append,List.length_cons,List.length_nil,Option.some.injEq,zaf]; try simp
   ·have d1x : decide ((i : Int) < l.length) = false := decide_eq_false (by omega)
    have hfi := zes _ l i (by omega) hi hinv
    rw [hfi,if_neg (Nat.lt_irrefl _)]
    simp only [go_sem,zaa,↓reduceIte,lcT,ty,noS,zbj,hle,hcl,d1x]
    refine ⟨_,Weak.refl _,?_⟩
    simp only [go_sem,zaa,↓reduceIte,lcT,ty,noS,zbj,hcl,hle,cond_true]
    try (refine ⟨_,Weak.refl _,?_⟩)
    try simp only [go_sem,zaa,↓reduceIte,lcT,ty,noS,zbj,hcl,hle,cond_true]
 ·exact hp.elim
end
end Go.Proofs.Ytioldmhhefhelaa
