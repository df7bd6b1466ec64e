/- What the proofs of this seat stand on; it asks nothing. -/
import Derived.Test.YtioldmhhefhelaaYa11
set_option linter.unusedSimpArgs false
set_option linter.unusedVariables false
namespace Go.Proofs.Ytioldmhhefhelaa
open Ax
def rjoF (gn ph : Int) (l : List Mb) (f : Bool) (v : List UInt8) (now : Int) : JR :=
 if (joF gn ph l v now).e = 0 then joF gn ph l v now else ⟨gn,ph,l,f,(joF gn ph l v now).e⟩
def rjoS : zan
 | [.agg [.w (.int .i64 gn),.w (.int .u8 ph),.sg 3 xs f],.str v,.w (.int .i64 now)],[] => ⟨(0 ≤ ph ∧ v.length ≤ 9223372036854775807) ∧ xs.length ≤ 900000 ∧ ∃ l : List Mb,xs = l.map mbA ∧ ∀ r ∈ l,r.d.length ≤ 9223372036854775807,jrA (rjoF gn ph (xs.map umb) f v now),[]⟩
 | _,_ => zbg
def zcj (f : FuncId) : Option zan :=
 match f with
 | 44 => some zbq
 | 45 => some zcf
 | 46 => some zce
 | 47 => some timS
 | 48 => some rwiS
 | 49 => some rtuS
 | _ => none
theorem yor : Fns Try.prog zcj := by
 intro f s h
 unfold zcj at h
 split at h
 ·injection h with h; subst h; exact ⟨⟨_,Try.func44,by kernel_rfl,by kernel_rfl⟩,zkd⟩
 ·injection h with h; subst h; exact ⟨⟨_,Try.func45,by kernel_rfl,by kernel_rfl⟩,zmk⟩
 ·injection h with h; subst h; exact ⟨⟨_,Try.func46,by kernel_rfl,by kernel_rfl⟩,zti⟩
 ·injection h with h; subst h; exact ⟨⟨_,Try.func47,by kernel_rfl,by kernel_rfl⟩,zno⟩
 ·injection h with h; subst h; exact ⟨⟨_,Try.func48,by kernel_rfl,by kernel_rfl⟩,zpv⟩
 ·injection h with h; subst h; exact ⟨⟨_,Try.func49,by kernel_rfl,by kernel_rfl⟩,zpy⟩
 ·cases h
def zmi : Plan := fun id => match id with
 | 20 => some [(5,9),(5,11),(10,11),(5,12),(10,12),(5,14),(10,14)]
 | _ => none
theorem ykj {v : List UInt8} {m : Mb} (h : m.d ≠ v) : Op.bytesLess m.d v = !(zea v m) := by
 unfold zea leD
 rw [decide_eq_false h,Bool.or_false,Bool.not_not]
section
set_option maxRecDepth 100000
set_option maxHeartbeats 16000000
theorem yka : zaz Try.prog 19 rjoS := by
 refine zfg (S := zcj) (T := ty) (pl := zmi) mixed ty_ok yor Try.func19 (c := Try.f19.body.getD .skip) (by kernel_rfl) (by kernel_rfl) (fun xs pins hp _ => ?_)
 unfold rjoS at hp ⊢
 split at hp
 ·rename_i gn ph xs f v now _
  obtain ⟨⟨hph,hv9⟩,hL,l,rfl,hd⟩ := hp
  rw [List.length_map] at hL
  have hle : (l.map mbA).length = l.length := by simp
  have hL9 : l.length ≤ 9223372036854775807 := by omega
  have hex : ∃ k : List Mb,l.map mbA = k.map mbA := ⟨l,rfl⟩
  have hxd : ∃ k : List Mb,l.map mbA = k.map mbA ∧ ∀ r ∈ k,r.d.length ≤ 9223372036854775807 := ⟨l,rfl,hd⟩
  have hF := And.intro hle <| And.intro hph <| And.intro hL <| And.intro hL9 <| And.intro hv9 <| And.intro hex <| And.intro hxd <| And.intro zch <| And.intro zaj <| And.intro zad zaq
  rw [zaj]
  generalize hX : rjoF gn ph l f v now = X
  unfold rjoF joF at hX
  refine ⟨by simp,?_⟩
  unfold Try.f19
  have d00 : decide ((0 : Int) = 0) = true := rfl
  have d40 : decide ((4 : Int) = 0) = false := rfl
  rcases yrn gn ph l with hc | hc
  ·obtain ⟨hl16,htg,_,hro⟩ := ch_iff.1 hc
   have hg2 : 0 ≤ gn ∧ gn ≤ 1099511627776 := by unfold timB at htg; simp only [Bool.and_eq_true,decide_eq_true_eq] at htg; exact htg
   rw [if_pos hc] at hX
   cases hID : idB v with
   | false =>
    rw [hID,if_neg (show ¬ false = true by decide),if_neg (show ¬ (errJ 6).e = 0 by decide)] at hX
    subst hX
    by_cases hf : l.findIdx (isD v) < l.length
    ·obtain ⟨I,hI⟩ : ∃ I,ixG (isD v) l = I := ⟨_,rfl⟩
     simp only [go_sem,zac,↓reduceIte,lcT,ty,zcj,zmi,zbq,zcf,zce,jrA,errJ,hF,hc,hI,hID,d00,Bool.not_true,Bool.not_false]
     try (refine ⟨_,Weak.refl _,?_⟩)
     try simp only [go_sem,zac,↓reduceIte,lcT,ty,zcj,zad,zaf]
    ·obtain ⟨I,hI⟩ : ∃ I,ixG (isD v) l = I := ⟨_,rfl⟩
     simp only [go_sem,zac,↓reduceIte,lcT,ty,zcj,zmi,zbq,zcf,zce,jrA,errJ,hF,hc,hI,hID,d00,Bool.not_true,Bool.not_false]
     try (refine ⟨_,Weak.refl _,?_⟩)
     try simp only [go_sem,zac,↓reduceIte,lcT,ty,zcj,zad,zaf]
   | true =>
    rw [hID,if_pos rfl] at hX
    cases hT : timB now with
    | false =>
     rw [hT,if_neg (show ¬ false = true by decide),if_neg (show ¬ (errJ 11).e = 0 by decide)] at hX
     subst hX
     obtain ⟨I,hI⟩ : ∃ I,ixG (isD v) l = I := ⟨_,rfl⟩
     simp only [go_sem,zac,↓reduceIte,lcT,ty,zcj,zmi,zbq,zcf,zce,timS,jrA,errJ,hF,hc,hI,hID,hT,d00,Bool.not_true,Bool.not_false]
     try (refine ⟨_,Weak.refl _,?_⟩)
     try simp only [go_sem,zac,↓reduceIte,lcT,ty,zcj,zad,zaf]
    | true =>
     rw [hT,if_pos rfl] at hX
     by_cases hf : l.findIdx (isD v) < l.length
     ·rw [if_pos hf] at hX
      obtain ⟨I,hI⟩ : ∃ I,l.findIdx (isD v) = I := ⟨_,rfl⟩
      have hix : ixG (isD v) l = ((I : Nat) : Int) := by unfold ixG; rw [if_pos hf,hI]
      rw [hI] at hf hX
      have dI : decide ((0 : Int) ≤ (I : Int)) = true := decide_eq_true (by omega)
      have hs1 := zbe l I hf
      have hmi := zli hf
      rw [hmi,if_pos (show (0 : Int) = 0 from rfl)] at hX
      obtain ⟨r,hr⟩ : ∃ r,l[I] = r := ⟨_,rfl⟩
      rw [hr] at hs1 hX
      obtain ⟨d,t,y⟩ := r
      have hs1 : slot (l.map mbA) I = .agg [.str d,.w (.int .i64 t),.w (.bool y)] := hs1
      have hI0 : ((0 : Int) ≤ (I : Int)) = True := eq_true (by omega)
      have hIn : ((I : Int) < (l.length : Int)) = True := eq_true (by omega)
      unfold zdt mxT at hX
      subst hX
      simp only [go_sem,zac,↓reduceIte,lcT,ty,zcj,zmi,zbq,zcf,zce,timS,rwiS,jrA,hF,hc,hID,hT,hix,dI,hs1,hf,hI0,hIn,d00,Int.toNat_natCast,Bool.not_true,Bool.not_false]
      try (refine ⟨_,Weak.refl _,?_⟩)
      try simp only [go_sem,zac,↓reduceIte,lcT,ty,zcj,zad,zaf]
     ·rw [if_neg hf] at hX
      have hix : ixG (isD v) l = -1 := by unfold ixG; rw [if_neg hf]
      have dI : decide ((0 : Int) ≤ -1) = false := rfl
      by_cases h16 : 16 ≤ l.length
      ·have d16 : decide ((16 : Int) ≤ (l.length : Int)) = true := decide_eq_true (by omega)
       rw [if_pos h16,if_neg (show ¬ (errJ 9).e = 0 by decide)] at hX
       subst hX
       simp only [go_sem,zac,↓reduceIte,lcT,ty,zcj,zmi,zbq,zcf,zce,timS,jrA,errJ,hF,hc,hID,hT,hix,dI,d16,d00,Bool.not_true,Bool.not_false]
       try (refine ⟨_,Weak.refl _,?_⟩)
       try simp only [go_sem,zac,↓reduceIte,lcT,ty,zcj,zad,zaf]
      ·have d16 : decide ((16 : Int) ≤ (l.length : Int)) = false := decide_eq_false (by omega)
       rw [if_neg h16] at hX
       by_cases hg : gn = 1099511627776
       ·have dg : decide ((1099511627776 : Int) ≤ gn) = true := decide_eq_true (by omega)
        rw [if_pos hg,if_neg (show ¬ (errJ 11).e = 0 by decide)] at hX
        subst hX
        simp only [go_sem,zac,↓reduceIte,lcT,ty,zcj,zmi,zbq,zcf,zce,timS,jrA,errJ,hF,hc,hID,hT,hix,dI,d16,dg,d00,Bool.not_true,Bool.not_false]
        try (refine ⟨_,Weak.refl _,?_⟩)
        try simp only [go_sem,zac,↓reduceIte,lcT,ty,zcj,zad,zaf]
       ·have dg : decide ((1099511627776 : Int) ≤ gn) = false := decide_eq_false (by omega)
        rw [if_neg hg,if_pos (show (0 : Int) = 0 from rfl)] at hX
        have hnt := zxk hf
        simp only [go_sem,zac,↓reduceIte,lcT,ty,zcj,zmi,zbq,zcf,zce,timS,hF,hc,hID,hT,hix,dI,d16,dg,d00,Bool.not_true,Bool.not_false]
        refine zhu ⟨fun m σ => ∃ (k : Nat),m = l.length - k ∧ k ≤ l.length ∧ (l.drop k).findIdx (zea v) + k = l.findIdx (zea v) ∧
          σ = ⟨[.agg [.w (.int .i64 gn),.w (.int .u8 ph),.sg 3 (l.map mbA) f],.str v,.w (.int .i64 now),.rf 4 3 0 0,.junk,.junk,.rf 5 3 0 0,.junk,.junk,.junk,.w (.int .i64 k),.junk,.junk,.junk,.junk,.junk,.junk,.junk,.junk,.junk,.junk,.junk,.junk,.junk,.junk,.junk,.junk,.junk,.junk,.junk,.junk,.junk,.junk,.junk,.junk,.junk,.junk,.junk,.junk,.junk,.junk,.junk,.junk,.junk,.junk,.junk,.junk,.junk,.junk,.junk,.junk,.junk,.junk,.junk,.junk,.junk,.junk,.junk,.junk,.junk,.junk,.junk,.junk,.junk,.junk,.junk,.junk,.junk,.junk,.junk,.junk,.junk,.junk,.junk,.junk,.junk,.junk,.junk,.junk,.junk,.junk,.junk,.junk,.junk,.junk,.junk,.junk,.junk,.junk,.junk,.junk,.junk,.junk,.junk],[(4,.g 3 [.agg [.w (.int .i64 gn),.w (.int .u8 ph),.sg 3 (l.map mbA) f]]),(5,.g 3 [.agg [.w (.int .i64 0),.w (.int .u8 0),.sg 3 [] true]])],6⟩,?_,?_⟩
        ·refine ⟨_,_,zag [0,1,2,3,4,12] rfl rfl rfl ?_ ?_,0,rfl,by omega,by rw [List.drop_zero]; rfl,rfl⟩
         all_goals (simp only [ssT,zal,zam,setSlot,gOf,AV.ren,renL,Blk.ren,Ax.look,Ax.put,reduceCtorEq,↓reduceIte,Nat.reduceEqDiff,Nat.reduceLT,Nat.reduceAdd,List.length_append,List.length_cons,List.length_nil,Option.some.injEq,zaf]; try simp)
        ·rintro m σ ⟨k,rfl,hk,hinv,rfl⟩
         have e1 : ((k : Int) + 1 + 9223372036854775808) % 18446744073709551616 - 9223372036854775808 = ((k + 1 : Nat) : Int) := by omega
         by_cases hkl : k < l.length
         ·have d2 : decide ((k : Int) < (l.length : Int)) = true := decide_eq_true (by omega)
          have hs1 := zbe l k hkl
          have hpl := ykj (hnt l[k] (List.getElem_mem hkl))
          cases hv : zea v l[k] with
          | true =>
           have hfi := zha _ l k hkl hv hinv
           rw [hv] at hpl
           obtain ⟨r,hr⟩ : ∃ r,l[k] = r := ⟨_,rfl⟩
           rw [hr] at hs1 hpl
           obtain ⟨d,t,y⟩ := r
           have hs1 : slot (l.map mbA) k = .agg [.str d,.w (.int .i64 t),.w (.bool y)] := hs1
           have hpl : Op.bytesLess d v = false := hpl
           simp only [go_sem,zac,↓reduceIte,lcT,ty,zcj,zmi,hF,d2,hs1,hpl,Int.toNat_natCast,Bool.not_true,Bool.not_false]
           refine ⟨⟨by omega,hkl⟩,_,Weak.refl _,?_⟩
           have hins : insM v now l = l.take k ++ ⟨v,now,false⟩ :: l.drop k := by unfold insM; rw [hfi]
           have hil := zlp v now l
           rw [List.length_map] at hil
           have hlt : (l.take k).length = k := by rw [List.length_take]; omega
           have hld : (l.drop k).length = l.length - k := List.length_drop
           have htk1 : ∀ n,List.take n (l.map mbA) = (l.take n).map mbA := fun n => (List.map_take (f := mbA) (l := l) (i := n)).symm
           have hdr1 : ∀ n,List.drop n (l.map mbA) = (l.drop n).map mbA := fun n => (List.map_drop (f := mbA) (l := l) (i := n)).symm
           have htkd : List.take (l.length - k) ((l.drop k).map mbA) = (l.drop k).map mbA := List.take_of_length_le (by rw [List.length_map,hld]; omega)
           have hap1 : (l.take k).map mbA ++ [.agg [.str v,.w (.int .i64 now),.w (.bool false)]] = (l.take k ++ [(⟨v,now,false⟩ : Mb)]).map mbA := by rw [List.map_append]; rfl
           have hap2 : (l.take k ++ [(⟨v,now,false⟩ : Mb)]).map mbA ++ (l.drop k).map mbA = (insM v now l).map mbA := by rw [hins,← List.map_append]; simp
           have hl4 : (l.take k ++ [(⟨v,now,false⟩ : Mb)]).length = k + 1 := by simp; omega
           obtain ⟨Q,hQ⟩ : ∃ Q,insM v now l = Q := ⟨_,rfl⟩
           rw [hQ] at hil hap2 hX
           have hqm : (Q.map mbA).length = Q.length := by simp
           have htkQ : List.take (k + 1 + (l.length - k)) (Q.map mbA) = Q.map mbA := List.take_of_length_le (by rw [hqm]; omega)
           have hgg : ((0 : Int) ≤ gn ∧ gn ≤ 1099511627776) = True := eq_true hg2
           have hQ9 : (Q.length ≤ 900000) = True := eq_true (by omega)
           have hexQ : ∃ k : List Mb,Q.map mbA = k.map mbA := ⟨Q,rfl⟩
           have hQ0 : (if Q.length = 0 then (0 : Int) else 1) = 1 := if_neg (by omega)
           subst hX
           simp only [go_sem,zac,↓reduceIte,lcT,ty,zcj,zmi,rtuS,jrA,hF,hlt,hld,hl4,htk1,hdr1,htkd,hap1,hap2,htkQ,hgg,hg2,hqm,hQ9,hexQ,hQ0,List.length_map,Nat.sub_zero,Int.toNat_natCast]
           refine ⟨⟨by omega,by omega⟩,by unfold top; omega,by unfold top; omega,⟨by omega,by omega⟩,by unfold top; omega,⟨by omega,fun y hy => zbi y hy⟩,_,Weak.refl _,?_⟩
           simp only [go_sem,zac,↓reduceIte,lcT,ty,zcj,zad,zaf]
          | false =>
           have hnx := zdi _ l k hkl hv hinv
           rw [hv] at hpl
           obtain ⟨r,hr⟩ : ∃ r,l[k] = r := ⟨_,rfl⟩
           rw [hr] at hs1 hpl
           obtain ⟨d,t,y⟩ := r
           have hs1 : slot (l.map mbA) k = .agg [.str d,.w (.int .i64 t),.w (.bool y)] := hs1
           have hpl : Op.bytesLess d v = true := hpl
           simp only [go_sem,zac,↓reduceIte,lcT,ty,zcj,zmi,hF,d2,hs1,hpl,e1,Int.toNat_natCast,Bool.not_true,Bool.not_false]
           repeat (first | refine And.intro (by omega) ?_ | refine And.intro ⟨by omega,by omega⟩ ?_)
           refine ⟨l.length - (k + 1),_,by omega,zag [0,1,2,3,4,5] rfl rfl rfl ?_ ?_,k + 1,rfl,by omega,hnx,rfl⟩
           all_goals (simp only [ssT,zal,zam,setSlot,gOf,AV.ren,renL,Blk.ren,Ax.look,Ax.put,reduceCtorEq,↓reduceIte,Nat.reduceEqDiff,Nat.reduceLT,Nat.reduceAdd,List.length_append,List.length_cons,List.length_nil,Option.some.injEq,zaf]; try simp)
         ·have d2 : decide ((k : Int) < (l.length : Int)) = false := decide_eq_false (by omega)
          have hfi := zes _ l k (by omega) hk hinv
          have hfi : l.findIdx (zea v) = k := by omega
          simp only [go_sem,zac,↓reduceIte,lcT,ty,zcj,zmi,hF,d2]
          refine ⟨_,Weak.refl _,?_⟩
          have hins : insM v now l = l.take k ++ ⟨v,now,false⟩ :: l.drop k := by unfold insM; rw [hfi]
          have hil := zlp v now l
          rw [List.length_map] at hil
          have hlt : (l.take k).length = k := by rw [List.length_take]; omega
          have hld : (l.drop k).length = l.length - k := List.length_drop
          have htk1 : ∀ n,List.take n (l.map mbA) = (l.take n).map mbA := fun n => (List.map_take (f := mbA) (l := l) (i := n)).symm
          have hdr1 : ∀ n,List.drop n (l.map mbA) = (l.drop n).map mbA := fun n => (List.map_drop (f := mbA) (l := l) (i := n)).symm
          have htkd : List.take (l.length - k) ((l.drop k).map mbA) = (l.drop k).map mbA := List.take_of_length_le (by rw [List.length_map,hld]; omega)
          have hap1 : (l.take k).map mbA ++ [.agg [.str v,.w (.int .i64 now),.w (.bool false)]] = (l.take k ++ [(⟨v,now,false⟩ : Mb)]).map mbA := by rw [List.map_append]; rfl
          have hap2 : (l.take k ++ [(⟨v,now,false⟩ : Mb)]).map mbA ++ (l.drop k).map mbA = (insM v now l).map mbA := by rw [hins,← List.map_append]; simp
          have hl4 : (l.take k ++ [(⟨v,now,false⟩ : Mb)]).length = k + 1 := by simp; omega
          obtain ⟨Q,hQ⟩ : ∃ Q,insM v now l = Q := ⟨_,rfl⟩
          rw [hQ] at hil hap2 hX
          have hqm : (Q.map mbA).length = Q.length := by simp
          have htkQ : List.take (k + 1 + (l.length - k)) (Q.map mbA) = Q.map mbA := List.take_of_length_le (by rw [hqm]; omega)
          have hgg : ((0 : Int) ≤ gn ∧ gn ≤ 1099511627776) = True := eq_true hg2
          have hQ9 : (Q.length ≤ 900000) = True := eq_true (by omega)
          have hexQ : ∃ k : List Mb,Q.map mbA = k.map mbA := ⟨Q,rfl⟩
          have hQ0 : (if Q.length = 0 then (0 : Int) else 1) = 1 := if_neg (by omega)
          subst hX
          simp only [go_sem,zac,↓reduceIte,lcT,ty,zcj,zmi,rtuS,jrA,hF,hlt,hld,hl4,htk1,hdr1,htkd,hap1,hap2,htkQ,hgg,hg2,hqm,hQ9,hexQ,hQ0,List.length_map,Nat.sub_zero,Int.toNat_natCast]
          refine ⟨⟨by omega,by omega⟩,by unfold top; omega,by unfold top; omega,⟨by omega,by omega⟩,by unfold top; omega,⟨by omega,fun y hy => zbi y hy⟩,_,Weak.refl _,?_⟩
          simp only [go_sem,zac,↓reduceIte,lcT,ty,zcj,zad,zaf]
  ·rw [hc,if_neg (show ¬ (4 : Int) = 0 by decide),if_neg (show ¬ (errJ 4).e = 0 by decide)] at hX
   subst hX
   obtain ⟨I,hI⟩ : ∃ I,ixG (isD v) l = I := ⟨_,rfl⟩
   simp only [go_sem,zac,↓reduceIte,lcT,ty,zcj,zmi,zbq,zcf,jrA,errJ,hF,hc,hI,d40,Bool.not_true,Bool.not_false]
   try (refine ⟨_,Weak.refl _,?_⟩)
   try simp only [go_sem,zac,↓reduceIte,lcT,ty,zcj,zad,zaf]
 ·exact hp.elim
end
end Go.Proofs.Ytioldmhhefhelaa
namespace Go.Proofs.Ytioldmhhefhelaa
open Ax
def frS : zan
 | [.w (.int .i64 a),.w (.int .i64 s),.w (.int .i64 p),.w (.int .i64 m)],[] => ⟨s = 1 ∧ 0 ≤ a ∧ 0 ≤ m ∧ a + m ≤ p ∧ p ≤ 1000000,.si (iotI a.toNat m.toNat) false,[]⟩
 | _,_ => zbg
section
set_option maxRecDepth 100000
set_option maxHeartbeats 4000000
theorem yqt : zaz Try.prog 72 frS := by
 refine zbc (S := noS) (T := ty) mixed ty_ok zbh Try.func72 (c := Try.f72.body.getD .skip) (by kernel_rfl) (by kernel_rfl) (fun xs pins hp _ => ?_)
 unfold frS at hp ⊢
 split at hp
 ·rename_i a s p m _
  obtain ⟨rfl,a0,m0,hap,hp6⟩ := hp
  obtain ⟨A,rfl⟩ : ∃ A : Nat,a = A := ⟨a.toNat,by omega⟩
  obtain ⟨M,rfl⟩ : ∃ M : Nat,m = M := ⟨m.toNat,by omega⟩
  rw [Int.toNat_natCast,Int.toNat_natCast]
  refine ⟨by simp,?_⟩
  unfold Try.f72
  simp only [go_sem,zab,↓reduceIte,ty,noS]
  refine zbf ⟨fun q σ => ∃ (j : Nat),q = M - j ∧ j ≤ M ∧
   σ = ⟨[.w (.int .i64 ((A + j : Nat) : Int)),.w (.int .i64 1),.w (.int .i64 p),.w (.int .i64 M),.junk,.junk,.junk,.junk,.sg 1 [] true,.ms 4 1 0 j,.junk,.junk,.junk,.junk,.junk,.junk,.junk,.junk,.junk,.junk,.junk,.junk,.junk,.junk,.junk,.junk,.junk],[(4,.i (iotI A j))],5⟩,?_,?_⟩
  ·refine ⟨_,_,(zen 9 1 (.i []) rfl (by exact trivial)).trans (zag [0,1,2,3,20] rfl rfl rfl ?_ ?_),0,rfl,by omega,rfl⟩
   ·simp only [ssT,zal,zam,setSlot,gOf,AV.ren,renL,Blk.ren,Ax.look,Ax.put,reduceCtorEq,↓reduceIte,Nat.reduceEqDiff,Nat.reduceLT,Nat.reduceAdd,List.length_append,List.length_cons,List.length_nil,Option.some.injEq]; try simp
   ·simp only [ssT,zal,zam,setSlot,gOf,AV.ren,renL,Blk.ren,Ax.look,Ax.put,reduceCtorEq,↓reduceIte,Nat.reduceEqDiff,Nat.reduceLT,Nat.reduceAdd,List.length_append,List.length_cons,List.length_nil,Option.some.injEq]; try simp [iotI]
  ·rintro q σ ⟨j,rfl,hj,rfl⟩
   have hil := zph A j
   have hsn := zqq A j
   have e7 : (((A + j : Nat) : Int) + 1 + 9223372036854775808) % 18446744073709551616 - 9223372036854775808 = ((A + (j + 1) : Nat) : Int) := by omega
   by_cases hjm : j < M
   ·have d6 : decide ((j : Int) < (M : Int)) = true := decide_eq_true (by omega)
    have d7 : decide (((A + j : Nat) : Int) < p) = true := decide_eq_true (by omega)
    simp only [go_sem,zab,↓reduceIte,ty,noS,d6,d7,e7,hil,hsn]
    repeat (first | refine And.intro (by omega) ?_ | refine And.intro (by unfold top; omega) ?_)
    refine ⟨M - (j + 1),_,by omega,zag [0,1,2,3,101] rfl rfl rfl ?_ ?_,j + 1,rfl,by omega,rfl⟩
    ·simp only [ssT,zal,zam,setSlot,gOf,AV.ren,renL,Blk.ren,Ax.look,Ax.put,reduceCtorEq,↓reduceIte,Nat.reduceEqDiff,Nat.reduceLT,Nat.reduceAdd,List.length_append,List.length_cons,List.length_nil,Option.some.injEq]; try simp
    ·simp only [ssT,zal,zam,setSlot,gOf,AV.ren,renL,Blk.ren,Ax.look,Ax.put,reduceCtorEq,↓reduceIte,Nat.reduceEqDiff,Nat.reduceLT,Nat.reduceAdd,List.length_append,List.length_cons,List.length_nil,Option.some.injEq]; try simp
   ·have d6 : decide ((j : Int) < (M : Int)) = false := decide_eq_false (by omega)
    obtain rfl : j = M := by omega
    simp only [go_sem,zab,↓reduceIte,ty,noS,d6,hil]
    have hdle : decide (0 + j ≤ (iotI A j).length) = true := decide_eq_true (by rw [hil]; omega)
    have htk : List.take j (iotI A j) = iotI A j := List.take_of_length_le (by rw [hil]; omega)
    refine ⟨_,zuz 4 9 (iotI A j) rfl (by simp [slot,AV.ids]),?_⟩
    simp only [fiL,fiH,AV.fi,Blk.fi,Nat.reduceBEq,cond_true,cond_false,hdle,Bool.and_true,beq_self_eq_true,Bool.true_and,List.drop_zero,htk]
    simp only [go_sem,zab,↓reduceIte,ty,noS]
 ·exact hp.elim
end
end Go.Proofs.Ytioldmhhefhelaa
namespace Go.Proofs.Ytioldmhhefhelaa
open Ax
theorem znp (g : Nat → Nat) : ∀ (l : List (List UInt8)),renL g (l.map AV.str) = l.map AV.str
 | [] => rfl
 | x :: r => by simp only [List.map_cons,renL,znp g r]; rfl
theorem yjg {w : World} {loc : Ax.Loc} {v : Value} {s : Nat} (h : R w loc (.sg s [] true) v) : R w loc (.sg s [] false) v := by
 cases h with
 | sg _ _ _ a cap cs hd hs hc hl hx hh => exact .sg s [] false a cap cs ⟨hd.le,hd.top,fun h => by cases h⟩ (by simp) hc hl hx hh
def zwx : Plan := fun id => match id with
 | 10 => some [(4,7),(4,8),(4,9),(4,13),(10,13)]
 | _ => none
section
set_option maxRecDepth 100000
set_option maxHeartbeats 8000000
theorem zww : zaz Try.prog 63 sdTS := by
 refine zfg (S := noS) (T := ty) (pl := zwx) mixed ty_ok zbh Try.func63 (c := Try.f63.body.getD .skip) (by kernel_rfl) (by kernel_rfl) (fun xs pins hp _ => ?_)
 unfold sdTS at hp ⊢
 split at hp
 ·rename_i xs f _
  obtain ⟨⟨h0,hL⟩,l,rfl,hs⟩ := hp
  rw [List.length_map] at h0 hL
  refine ⟨by simp,?_⟩
  have hlp : (l.map AV.str).length = l.length := by simp
  unfold Try.f63
  simp only [go_sem,zac,↓reduceIte,lcT,ty,noS,zwx,hlp]
  refine zhu ⟨fun m σ => ∃ (i : Nat),m = l.length - i ∧ i ≤ l.length ∧
    σ = ⟨[.sg 1 (l.map .str) f,.junk,.sg 1 [] true,.sg 1 ((l.take i).map .str) false,.w (.int .i64 i),.junk,.junk,.junk,.junk,.junk,.junk,.junk,.junk,.junk,.junk,.junk,.junk,.junk,.junk,.junk,.junk,.junk,.junk,.junk,.junk,.junk,.junk,.junk,.junk,.junk,.junk,.junk,.junk,.junk,.junk,.junk,.junk,.junk,.junk,.junk,.junk,.junk,.junk,.junk,.junk,.junk,.junk,.junk,.junk,.junk,.junk,.junk,.junk,.junk,.junk,.junk,.junk,.junk,.junk,.junk,.junk],[],4⟩,?_,?_⟩
  ·refine ⟨_,_,(zhi 3 (.sg 1 [] false) (fun w loc v h => by exact yjg h)).trans (zag [0,1,2,3] rfl rfl rfl ?_ ?_),0,rfl,by omega,rfl⟩
   ·simp only [ssT,zal,zam,setSlot,gOf,AV.ren,renL,Blk.ren,Ax.look,Ax.put,reduceCtorEq,↓reduceIte,Nat.reduceEqDiff,Nat.reduceLT,Nat.reduceAdd,List.length_append,List.length_cons,List.length_nil,Option.some.injEq]; try simp
   ·simp only [ssT,zal,zam,setSlot,gOf,AV.ren,renL,Blk.ren,Ax.look,Ax.put,reduceCtorEq,↓reduceIte,Nat.reduceEqDiff,Nat.reduceLT,Nat.reduceAdd,List.length_append,List.length_cons,List.length_nil,Option.some.injEq]; try simp [renL]
  ·rintro m σ ⟨i,rfl,hi,rfl⟩
   have e1 : ((i : Int) + 1 + 9223372036854775808) % 18446744073709551616 - 9223372036854775808 = ((i + 1 : Nat) : Int) := by omega
   have hlt : (l.take i).length = i := by rw [List.length_take]; omega
   have hqm : ((l.take i).map AV.str).length = i := by rw [List.length_map,hlt]
   by_cases hil : i < l.length
   ·have d1 : decide ((i : Int) < (l.length : Int)) = true := decide_eq_true (by omega)
    have hs1 := zex l i hil
    simp only [go_sem,zac,↓reduceIte,lcT,ty,noS,zwx,hlp,d1]
    refine zhu ⟨fun m σ => ∃ (n : Nat),m = i - n ∧ n ≤ i ∧
      σ = ⟨[.sg 1 (l.map .str) f,.junk,.sg 1 [] true,.sg 1 ((l.take i).map .str) false,.w (.int .i64 i),.w (.int .i64 n),.junk,.junk,.junk,.junk,.junk,.junk,.junk,.junk,.junk,.junk,.junk,.junk,.junk,.junk,.junk,.junk,.junk,.junk,.junk,.junk,.junk,.junk,.junk,.junk,.junk,.junk,.junk,.junk,.junk,.junk,.junk,.junk,.junk,.junk,.junk,.junk,.junk,.junk,.junk,.junk,.junk,.junk,.junk,.junk,.junk,.junk,.junk,.junk,.junk,.junk,.junk,.junk,.junk,.junk,.junk],[],4⟩,?_,?_⟩
    ·refine ⟨_,_,zag [0,1,2,3] rfl rfl rfl ?_ ?_,0,rfl,by omega,rfl⟩
     ·simp only [ssT,zal,zam,setSlot,gOf,AV.ren,renL,Blk.ren,Ax.look,Ax.put,reduceCtorEq,↓reduceIte,Nat.reduceEqDiff,Nat.reduceLT,Nat.reduceAdd,List.length_append,List.length_cons,List.length_nil,Option.some.injEq,znp]; try simp
     ·simp only [ssT,zal,zam,setSlot,gOf,AV.ren,renL,Blk.ren,Ax.look,Ax.put,reduceCtorEq,↓reduceIte,Nat.reduceEqDiff,Nat.reduceLT,Nat.reduceAdd,List.length_append,List.length_cons,List.length_nil,Option.some.injEq]; try rw [znp]
    ·rintro m σ ⟨n,rfl,hn,rfl⟩
     have e3 : ((n : Int) + 1 + 9223372036854775808) % 18446744073709551616 - 9223372036854775808 = ((n + 1 : Nat) : Int) := by omega
     by_cases hnl : n < i
     ·have d5 : decide ((n : Int) < (i : Int)) = true := decide_eq_true (by omega)
      have hs2 := zex (l.take i) n (by omega)
      have hv := zvd hs hnl hil
      rw [List.getElem_take] at hs2
      obtain ⟨X,hX⟩ : ∃ X,l[n]'(by omega) = X := ⟨_,rfl⟩
      obtain ⟨Y,hY⟩ : ∃ Y,l[i] = Y := ⟨_,rfl⟩
      rw [hX] at hs2 hv
      rw [hY] at hs1 hv
      have hb : Op.bytesLess X Y = true := by rw [zov]; exact decide_eq_true hv
      simp only [go_sem,zac,↓reduceIte,lcT,ty,noS,zwx,hlp,hqm,d5,hs1,hs2,hb,e3,Int.toNat_natCast]
      repeat (first | refine And.intro (by omega) ?_ | refine And.intro ⟨by omega,by omega⟩ ?_)
      refine ⟨i - (n + 1),_,by omega,zag [0,1,2,3] rfl rfl rfl ?_ ?_,n + 1,rfl,by omega,rfl⟩
      ·simp only [ssT,zal,zam,setSlot,gOf,AV.ren,renL,Blk.ren,Ax.look,Ax.put,reduceCtorEq,↓reduceIte,Nat.reduceEqDiff,Nat.reduceLT,Nat.reduceAdd,List.length_append,List.length_cons,List.length_nil,Option.some.injEq,znp]
      ·simp only [ssT,zal,zam,setSlot,gOf,AV.ren,renL,Blk.ren,Ax.look,Ax.put,reduceCtorEq,↓reduceIte,Nat.reduceEqDiff,Nat.reduceLT,Nat.reduceAdd,List.length_append,List.length_cons,List.length_nil,Option.some.injEq]; try rw [znp]
     ·have d5 : decide ((n : Int) < (i : Int)) = false := decide_eq_false (by omega)
      have hni : n = i := by omega
      obtain ⟨Y,hY⟩ : ∃ Y,l[i] = Y := ⟨_,rfl⟩
      have hap3 : (l.take i).take n ++ Y :: (l.take i).drop n = l.take (i + 1) := by
       rw [List.take_of_length_le (by omega),List.drop_eq_nil_of_le (by omega),List.take_succ_eq_append_getElem hil,hY]
      obtain ⟨K,hK⟩ : ∃ K,l.take i = K := ⟨_,rfl⟩
      rw [hK] at hlt hqm hap3
      have hl1 : (K.take n).length = n := by rw [List.length_take]; omega
      have hl2 : (K.drop n).length = i - n := by rw [List.length_drop,hlt]
      have htd : List.take (i - n) ((K.drop n).map AV.str) = (K.drop n).map AV.str := List.take_of_length_le (by rw [List.length_map,hl2]; omega)
      have htk1 : ∀ n,List.take n (K.map AV.str) = (K.take n).map AV.str := fun n => (List.map_take (f := AV.str) (l := K) (i := n)).symm
      have hdr1 : ∀ n,List.drop n (K.map AV.str) = (K.drop n).map AV.str := fun n => (List.map_drop (f := AV.str) (l := K) (i := n)).symm
      have hap1 : (K.take n).map AV.str ++ [AV.str Y] = (K.take n ++ [Y]).map AV.str := by simp
      have hap2 : (K.take n ++ [Y]).map AV.str ++ (K.drop n).map AV.str = (l.take (i + 1)).map AV.str := by rw [← hap3]; simp
      have hl4 : (K.take n ++ [Y]).length = n + 1 := by simp; omega
      have hl5 : ((l.take (i + 1)).map AV.str).length = i + 1 := by rw [List.length_map,List.length_take]; omega
      have ht : top = 4294967296 := rfl
      rw [hY] at hs1
      rw [hK]
      simp only [go_sem,zac,↓reduceIte,lcT,ty,noS,zwx,hlp,hqm,d5]
      refine ⟨_,Weak.refl _,?_⟩
      simp only [go_sem,zac,↓reduceIte,lcT,ty,noS,zwx,hlp,hqm,hlt,d5,hs1,htk1,hdr1,htd,ht,hap1,hap2,hl1,hl2,hl4,hl5,e1,yea,zdp,List.length_map,Nat.sub_zero,Int.toNat_natCast]
      repeat (first | refine And.intro (by omega) ?_ | refine And.intro ⟨by omega,by omega⟩ ?_)
      have hdle : decide (0 + (n + 1 + (i - n)) ≤ ((l.take (i + 1)).map AV.str).length) = true := decide_eq_true (by rw [hl5]; omega)
      have htkE : List.take (n + 1 + (i - n)) ((l.take (i + 1)).map AV.str) = (l.take (i + 1)).map AV.str := List.take_of_length_le (by rw [hl5]; omega)
      refine ⟨l.length - (i + 1),_,by omega,(zby 364 1 3 _ rfl (zdp _) (by simp [slot,AV.ids])).trans ?_,i + 1,rfl,by omega,rfl⟩
      simp only [fgL,fgH,AV.fg,Blk.fg,Nat.reduceBEq,cond_true,cond_false,hdle,Bool.and_true,beq_self_eq_true,Bool.true_and,List.drop_zero,htkE]
      refine zag [0,1,2,3] rfl rfl rfl ?_ ?_
      ·simp only [ssT,zal,zam,setSlot,gOf,AV.ren,renL,Blk.ren,Ax.look,Ax.put,reduceCtorEq,↓reduceIte,Nat.reduceEqDiff,Nat.reduceLT,Nat.reduceAdd,List.length_append,List.length_cons,List.length_nil,Option.some.injEq,znp]
      ·simp only [ssT,zal,zam,setSlot,gOf,AV.ren,renL,Blk.ren,Ax.look,Ax.put,reduceCtorEq,↓reduceIte,Nat.reduceEqDiff,Nat.reduceLT,Nat.reduceAdd,List.length_append,List.length_cons,List.length_nil,Option.some.injEq]
   ·have d1 : decide ((i : Int) < (l.length : Int)) = false := decide_eq_false (by omega)
    obtain rfl : i = l.length := by omega
    have htt : l.take l.length = l := List.take_length
    rw [htt] at hqm ⊢
    simp only [go_sem,zac,↓reduceIte,lcT,ty,noS,zwx,hlp,d1]
    refine ⟨_,Weak.refl _,?_⟩
    simp only [go_sem,zac,↓reduceIte,lcT,ty,noS,zwx]
    refine ⟨_,Weak.refl _,?_⟩
    simp only [go_sem,zac,↓reduceIte,lcT,ty,noS]
 ·exact hp.elim
end
end Go.Proofs.Ytioldmhhefhelaa
namespace Go.Proofs.Ytioldmhhefhelaa
open Ax
theorem ydi (P n : Nat) : ∀ k,(rgK P n k).2 = k * (P / n) + min k (P % n)
 | 0 => by simp [rgK]
 | k + 1 => by
  have := ydi P n k
  simp only [rgK,zmm]
  rw [this,Nat.add_mul,Nat.one_mul]
  generalize k * (P / n) = A
  generalize P / n = Q
  generalize P % n = R
  split <;> omega
theorem ypu (P n : Nat) (h : 0 < n) : (rgK P n n).2 = P := by
 rw [ydi]
 have h1 := Nat.div_add_mod P n
 have h2 := Nat.mod_lt P h
 rw [Nat.min_eq_right (Nat.le_of_lt h2)]
 exact h1
theorem zwz (P n : Nat) : ∀ (d k : Nat),(rgK P n k).2 ≤ (rgK P n (k + d)).2
 | 0,k => Nat.le_refl _
 | d + 1,k => Nat.le_trans (zwz P n d k) (Nat.le_add_right (rgK P n (k + d)).2 (zmm P n (k + d)))
theorem ypt (P n : Nat) (h : 0 < n) : ∀ k ≤ n,(rgK P n k).2 ≤ P := by
 intro k hk
 have h1 := zwz P n (n - k) k
 rw [show k + (n - k) = n by omega,ypu P n h] at h1
 exact h1
def zor (f : FuncId) : Option zan :=
 match f with
 | 63 => some sdTS
 | 72 => some frS
 | _ => none
theorem yoo : Fns Try.prog zor := by
 intro f s h
 unfold zor at h
 split at h
 ·injection h with h; subst h; exact ⟨⟨_,Try.func63,by kernel_rfl,by kernel_rfl⟩,zww⟩
 ·injection h with h; subst h; exact ⟨⟨_,Try.func72,by kernel_rfl,by kernel_rfl⟩,yqt⟩
 ·cases h
section
set_option maxRecDepth 100000
set_option maxHeartbeats 8000000
theorem yjq : zaz Try.prog 64 rgS := by
 refine zbc (S := zor) (T := ty) mixed ty_ok yoo Try.func64 (c := Try.f64.body.getD .skip) (by kernel_rfl) (by kernel_rfl) (fun xs pins hp _ => ?_)
 unfold rgS at hp ⊢
 split at hp
 ·rename_i xs f p _
  obtain ⟨⟨h0,hL⟩,l,rfl,hs⟩ := hp
  rw [List.length_map] at h0 hL
  refine ⟨by simp,?_⟩
  have hlp : (l.map AV.str).length = l.length := by simp
  have hex2 : ∃ es : List (List UInt8),l.map AV.str = es.map AV.str ∧ srtT es := ⟨l,rfl,hs⟩
  unfold rgF
  rw [hlp]
  have hPl := ybz p
  obtain ⟨P,hP⟩ : ∃ P,clpN p = P := ⟨_,rfl⟩
  have hcl : (if (if 1000 < p then 1000 else p) > 0 then (if 1000 < p then 1000 else p) else 0) = (P : Int) := by
   rw [← hP]; unfold clpN
   split <;> split <;> omega
  rw [hP] at hPl ⊢
  obtain ⟨n,hn⟩ : ∃ n,l.length = n := ⟨_,rfl⟩
  rw [hn] at h0 hL hlp ⊢
  have hn0 : ((n : Int) = 0) = False := eq_false (by omega)
  have hnn : ((n : Int) ≠ 0) = True := eq_true (by omega)
  have hql := Nat.div_le_self P n
  have hall := ypt P n h0
  have hMv : ∀ k,zmm P n k = P / n + (if k < P % n then 1 else 0) := fun k => rfl
  have hq : Int.tdiv (P : Int) (n : Int) = ((P / n : Nat) : Int) := rfl
  have hr : Int.tmod (P : Int) (n : Int) = ((P % n : Nat) : Int) := rfl
  obtain ⟨Q,hQ⟩ : ∃ Q,P / n = Q := ⟨_,rfl⟩
  obtain ⟨R,hR⟩ : ∃ R,P % n = R := ⟨_,rfl⟩
  rw [hQ] at hql hq
  rw [hR] at hr
  simp only [hQ,hR] at hMv
  have e4 : ((Q : Int) + 9223372036854775808) % 18446744073709551616 - 9223372036854775808 = (Q : Int) := by omega
  unfold Try.f64
  simp only [go_sem,zab,↓reduceIte,ty,zor,sdTS,hlp,h0,hL,hex2,hcl,zet]
  refine zbf ⟨fun m σ => ∃ (k : Nat),m = n - k ∧ k ≤ n ∧
    σ = ⟨[.sg 1 (l.map .str) f,.w (.int .i64 p),.junk,.junk,.sg 1 [] true,.w (.int .i64 n),.w (.int .i64 P),.ms 4 1 0 k,.w (.int .i64 (rgK P n k).2),.w (.int .i64 k),.junk,.junk,.junk,.junk,.junk,.junk,.junk,.junk,.junk,.junk,.junk,.junk,.junk,.junk,.junk,.junk,.junk,.junk,.junk,.junk,.junk,.junk,.junk,.junk,.junk,.junk,.junk,.junk,.junk,.junk,.junk,.junk,.junk],[(4,.g 1 ((rgK P n k).1.map siA))],5⟩,?_,?_⟩
  ·refine ⟨_,_,(zen 7 1 (.g 1 []) ⟨by decide,rfl⟩ (by exact trivial)).trans (zag [0,1,2,3,100] rfl rfl rfl ?_ ?_),0,rfl,by omega,rfl⟩
   ·simp only [ssT,zal,zam,setSlot,gOf,AV.ren,renL,Blk.ren,Ax.look,Ax.put,reduceCtorEq,↓reduceIte,Nat.reduceEqDiff,Nat.reduceLT,Nat.reduceAdd,List.length_append,List.length_cons,List.length_nil,Option.some.injEq]; try simp [rgK]
   ·simp only [ssT,zal,zam,setSlot,gOf,AV.ren,renL,Blk.ren,Ax.look,Ax.put,reduceCtorEq,↓reduceIte,Nat.reduceEqDiff,Nat.reduceLT,Nat.reduceAdd,List.length_append,List.length_cons,List.length_nil,Option.some.injEq]; try simp [rgK,renL]
  ·rintro m σ ⟨k,rfl,hk,rfl⟩
   have e1 : ((k : Int) + 1 + 9223372036854775808) % 18446744073709551616 - 9223372036854775808 = ((k + 1 : Nat) : Int) := by omega
   have hrn := zqb P n k
   have hml := zpf P n k
   by_cases hkl : k < n
   ·have d3 : decide ((k : Int) < (n : Int)) = true := decide_eq_true (by omega)
    have hnx : (rgK P n (k + 1)) = ((rgK P n k).1 ++ [iotI (rgK P n k).2 (zmm P n k)],(rgK P n k).2 + zmm P n k) := rfl
    have hsl := hall (k + 1) (by omega)
    rw [hnx] at hsl
    obtain ⟨L,s,hLs⟩ : ∃ L s,rgK P n k = (L,s) := ⟨_,_,rfl⟩
    rw [hLs] at hrn hnx hsl ⊢
    simp only at hrn hnx hsl ⊢
    obtain ⟨M,hM⟩ : ∃ M,zmm P n k = M := ⟨_,rfl⟩
    rw [hM] at hml hnx hsl
    have hMk := hMv k
    rw [hM] at hMk
    have hrl2 : (L.map siA).length = k := by simp [hrn]
    have c1 : ((0 : Int) ≤ ((s : Nat) : Int)) = True := eq_true (by omega)
    have c2 : ((0 : Int) ≤ ((M : Nat) : Int)) = True := eq_true (by omega)
    have c3 : (((s : Nat) : Int) + ((M : Nat) : Int) ≤ (P : Int)) = True := eq_true (by omega)
    have c4 : ((P : Int) ≤ 1000000) = True := eq_true (by omega)
    have e8 : ((s : Int) + (M : Int) + 9223372036854775808) % 18446744073709551616 - 9223372036854775808 = ((s + M : Nat) : Int) := by omega
    have hap : L.map siA ++ [AV.si (iotI s M) false] = (L ++ [iotI s M]).map siA := by simp [siA]
    by_cases hkR : k < R
    ·rw [if_pos hkR] at hMk
     have d4 : decide ((k : Int) < (R : Int)) = true := decide_eq_true (by omega)
     have e5 : ((Q : Int) + 1 + 9223372036854775808) % 18446744073709551616 - 9223372036854775808 = (M : Int) := by omega
     simp only [go_sem,zab,↓reduceIte,ty,zor,frS,hn0,hnn,hq,hr,e1,e4,e5,e8,d3,d4,c1,c2,c3,c4,hrl2,hap,zfc,Int.toNat_natCast]
     refine ⟨by unfold top; omega,n - (k + 1),_,by omega,zag [0,1,2,3,173] rfl rfl rfl ?_ ?_,k + 1,rfl,by omega,rfl⟩
     ·simp only [ssT,zal,zam,setSlot,gOf,AV.ren,renL,Blk.ren,Ax.look,Ax.put,reduceCtorEq,↓reduceIte,Nat.reduceEqDiff,Nat.reduceLT,Nat.reduceAdd,List.length_append,List.length_cons,List.length_nil,Option.some.injEq,hnx]; try simp
     ·simp only [ssT,zal,zam,setSlot,gOf,AV.ren,renL,Blk.ren,Ax.look,Ax.put,reduceCtorEq,↓reduceIte,Nat.reduceEqDiff,Nat.reduceLT,Nat.reduceAdd,List.length_append,List.length_cons,List.length_nil,Option.some.injEq,hnx,zez]; try simp [zez]
    ·rw [if_neg hkR,Nat.add_zero] at hMk
     subst hMk
     have d4 : decide ((k : Int) < (R : Int)) = false := decide_eq_false (by omega)
     simp only [go_sem,zab,↓reduceIte,ty,zor,frS,hn0,hnn,hq,hr,e1,e4,e8,d3,d4,c1,c2,c3,c4,hrl2,hap,zfc,Int.toNat_natCast]
     refine ⟨by unfold top; omega,n - (k + 1),_,by omega,zag [0,1,2,3,149] rfl rfl rfl ?_ ?_,k + 1,rfl,by omega,rfl⟩
     ·simp only [ssT,zal,zam,setSlot,gOf,AV.ren,renL,Blk.ren,Ax.look,Ax.put,reduceCtorEq,↓reduceIte,Nat.reduceEqDiff,Nat.reduceLT,Nat.reduceAdd,List.length_append,List.length_cons,List.length_nil,Option.some.injEq,hnx]; try simp
     ·simp only [ssT,zal,zam,setSlot,gOf,AV.ren,renL,Blk.ren,Ax.look,Ax.put,reduceCtorEq,↓reduceIte,Nat.reduceEqDiff,Nat.reduceLT,Nat.reduceAdd,List.length_append,List.length_cons,List.length_nil,Option.some.injEq,hnx,zez]; try simp [zez]
   ·have d3 : decide ((k : Int) < (n : Int)) = false := decide_eq_false (by omega)
    obtain rfl : k = n := by omega
    have hrl2 : ((rgK P k k).1.map siA).length = k := by simp [hrn]
    simp only [go_sem,zab,↓reduceIte,ty,zor,d3]
    have hdle : decide (0 + k ≤ ((rgK P k k).1.map siA).length) = true := decide_eq_true (by rw [hrl2]; omega)
    have htk : List.take k ((rgK P k k).1.map siA) = (rgK P k k).1.map siA := List.take_of_length_le (by rw [hrl2]; omega)
    refine ⟨_,zby 4 1 7 ((rgK P k k).1.map siA) rfl (zrj _) (by simp [slot,AV.ids]),?_⟩
    simp only [fgL,fgH,AV.fg,Blk.fg,Nat.reduceBEq,cond_true,cond_false,hdle,Bool.and_true,beq_self_eq_true,Bool.true_and,List.drop_zero,htk]
    simp only [go_sem,zab,↓reduceIte,ty,zor]
 ·exact hp.elim
end
end Go.Proofs.Ytioldmhhefhelaa
namespace Go.Proofs.Ytioldmhhefhelaa
open Ax
def zrz (f : FuncId) : Option zan :=
 match f with
 | 63 => some sdTS
 | 64 => some rgS
 | _ => none
theorem yop : Fns Try.prog zrz := by
 intro f s h
 unfold zrz at h
 split at h
 ·injection h with h; subst h; exact ⟨⟨_,Try.func63,by kernel_rfl,by kernel_rfl⟩,zww⟩
 ·injection h with h; subst h; exact ⟨⟨_,Try.func64,by kernel_rfl,by kernel_rfl⟩,yjq⟩
 ·cases h
section
set_option maxRecDepth 100000
set_option maxHeartbeats 8000000
theorem yjv : zaz Try.prog 51 ofS := by
 refine zbc (S := zrz) (T := ty) mixed ty_ok yop Try.func51 (c := Try.f51.body.getD .skip) (by kernel_rfl) (by kernel_rfl) (fun xs pins hp _ => ?_)
 unfold ofS at hp ⊢
 split at hp
 ·rename_i xs f p v _
  obtain ⟨hL,l,rfl,hs,ht⟩ := hp
  rw [List.length_map] at hL
  refine ⟨by simp,?_⟩
  have hlp : (l.map AV.str).length = l.length := by simp
  have hex2 : ∃ es : List (List UInt8),l.map AV.str = es.map AV.str ∧ srtT es := ⟨l,rfl,hs⟩
  have hst := zid l
  have hpl : plT v l < l.length := by
   rcases Nat.lt_or_ge (plT v l) l.length with h | h
   ·exact h
   ·rw [yak (by omega)] at ht; cases ht
  have h0 : 0 < l.length := by omega
  rw [ytf hpl] at ht
  have hvp := of_decide_eq_true ht
  have hrl : (rgF l.length p).length = l.length := zqb _ _ _
  have hof : ofF l p v = (rgF l.length p)[plT v l]'(by omega) := by unfold ofF; rw [List.getD_eq_getElem?_getD,List.getElem?_eq_getElem (by omega)]; rfl
  rw [hst]
  obtain ⟨Z,hZ⟩ : ∃ Z,ofF l p v = Z := ⟨_,rfl⟩
  rw [hZ] at hof ⊢
  obtain ⟨K,hK⟩ : ∃ K,plT v l = K := ⟨_,rfl⟩
  have hbe : ∀ j,(hj : j < K) → l[j]'(by omega) ≠ v := fun j hj e => by
   have h1 := yal (k := v) (l := l) (l[j]'(by omega)) (List.mem_take_iff_getElem.2 ⟨j,by omega,rfl⟩)
   rw [e] at h1
   exact List.lt_irrefl _ h1
  have hsl := yaq (rgF l.length p) (plT v l) (by omega)
  rw [← hof] at hsl
  have hKl : K < l.length := by omega
  have hlK : l[K] = v := by subst hK; exact hvp
  rw [hK] at hsl
  have hrm : ((rgF l.length p).map siA).length = l.length := by simp [hrl]
  have hcg : ∀ h,coe ty 93 (.sg 1 ((rgF l.length p).map siA) h) = .sg 1 ((rgF l.length p).map siA) h := fun h => by cases (rgF l.length p) <;> rfl
  unfold Try.f51
  simp only [go_sem,zab,↓reduceIte,ty,zrz,sdTS,hlp,h0,hL,hex2,zet]
  refine zbf ⟨fun m σ => ∃ (k : Nat),m = l.length - k ∧ k ≤ K ∧
    σ = ⟨[.sg 1 (l.map .str) f,.w (.int .i64 p),.str v,.junk,.junk,.junk,.sg 1 [] true,.sg 1 (l.map .str) false,.w (.int .i64 k),.junk,.junk,.junk,.junk,.junk,.junk,.junk,.junk,.junk,.junk,.junk,.junk,.junk,.junk,.junk,.junk,.junk,.junk,.junk,.junk],[],4⟩,?_,?_⟩
  ·refine ⟨_,_,zag [0,1,2,3] rfl rfl rfl ?_ ?_,0,rfl,by omega,rfl⟩
   ·simp only [ssT,zal,zam,setSlot,gOf,AV.ren,renL,Blk.ren,Ax.look,Ax.put,reduceCtorEq,↓reduceIte,Nat.reduceEqDiff,Nat.reduceLT,Nat.reduceAdd,List.length_append,List.length_cons,List.length_nil,Option.some.injEq]; try simp
   ·simp only [ssT,zal,zam,setSlot,gOf,AV.ren,renL,Blk.ren,Ax.look,Ax.put,reduceCtorEq,↓reduceIte,Nat.reduceEqDiff,Nat.reduceLT,Nat.reduceAdd,List.length_append,List.length_cons,List.length_nil,Option.some.injEq]
  ·rintro m σ ⟨k,rfl,hk,rfl⟩
   have e1 : ((k : Int) + 1 + 9223372036854775808) % 18446744073709551616 - 9223372036854775808 = ((k + 1 : Nat) : Int) := by omega
   have d1 : decide ((k : Int) < (l.length : Int)) = true := decide_eq_true (by omega)
   have hs1 := zex l k (by omega)
   by_cases hkK : k < K
   ·have hne := hbe k hkK
    obtain ⟨Y,hY⟩ : ∃ Y,l[k]'(by omega) = Y := ⟨_,rfl⟩
    rw [hY] at hs1 hne
    have d2 : decide (Y = v) = false := decide_eq_false hne
    simp only [go_sem,zab,↓reduceIte,ty,zrz,hlp,d1,d2,hs1,e1,Int.toNat_natCast]
    repeat (first | refine And.intro (by omega) ?_ | refine And.intro ⟨by omega,by omega⟩ ?_)
    refine ⟨l.length - (k + 1),_,by omega,zag [0,1,2,3] rfl rfl rfl ?_ ?_,k + 1,rfl,by omega,rfl⟩
    ·simp only [ssT,zal,zam,setSlot,gOf,AV.ren,renL,Blk.ren,Ax.look,Ax.put,reduceCtorEq,↓reduceIte,Nat.reduceEqDiff,Nat.reduceLT,Nat.reduceAdd,List.length_append,List.length_cons,List.length_nil,Option.some.injEq]; try simp
    ·simp only [ssT,zal,zam,setSlot,gOf,AV.ren,renL,Blk.ren,Ax.look,Ax.put,reduceCtorEq,↓reduceIte,Nat.reduceEqDiff,Nat.reduceLT,Nat.reduceAdd,List.length_append,List.length_cons,List.length_nil,Option.some.injEq]
   ·obtain rfl : k = K := by omega
    rw [hlK] at hs1
    have d2 : decide (v = v) = true := decide_eq_true rfl
    simp only [go_sem,zab,↓reduceIte,ty,zrz,rgS,hlp,h0,hL,hex2,hcg,hrm,hsl,hKl,d1,d2,hs1,zet,Int.toNat_natCast]
    repeat (first | refine And.intro (by omega) ?_ | refine And.intro ⟨by omega,by omega⟩ ?_)
    try (refine ⟨_,Weak.refl _,?_⟩)
    try simp only [go_sem,zab,↓reduceIte,ty,zrz]
    try omega
 ·exact hp.elim
end
end Go.Proofs.Ytioldmhhefhelaa
namespace Go.Proofs.Ytioldmhhefhelaa
open Ax
def rsyF (gn ph : Int) (l : List Mb) (f : Bool) (v : List UInt8) (gen parts now : Int) : SR :=
 if (fiF gn ph l v gen now).2 = 0 then syF gn ph l v gen parts now else ⟨⟨gn,ph,l,f,(fiF gn ph l v gen now).2⟩,.sg 1 [] true⟩
def rsyS : zan
 | [.agg [.w (.int .i64 gn),.w (.int .u8 ph),.sg 3 xs f],.str v,.w (.int .i64 gen),.w (.int .i64 parts),.w (.int .i64 now)],[] => ⟨0 ≤ ph ∧ xs.length ≤ 900000 ∧ ∃ l : List Mb,xs = l.map mbA ∧ ∀ r ∈ l,r.d.length ≤ 9223372036854775807,syA (rsyF gn ph (xs.map umb) f v gen parts now),[]⟩
 | _,_ => zbg
def zng (f : FuncId) : Option zan :=
 match f with
 | 22 => some rbeS
 | 44 => some zbq
 | 48 => some rwiS
 | 50 => some alyS
 | 52 => some namS
 | 51 => some ofS
 | _ => none
theorem yon : Fns Try.prog zng := by
 intro f s h
 unfold zng at h
 split at h
 ·injection h with h; subst h; exact ⟨⟨_,Try.func22,by kernel_rfl,by kernel_rfl⟩,zxb⟩
 ·injection h with h; subst h; exact ⟨⟨_,Try.func44,by kernel_rfl,by kernel_rfl⟩,zkd⟩
 ·injection h with h; subst h; exact ⟨⟨_,Try.func48,by kernel_rfl,by kernel_rfl⟩,zpv⟩
 ·injection h with h; subst h; exact ⟨⟨_,Try.func50,by kernel_rfl,by kernel_rfl⟩,zth⟩
 ·injection h with h; subst h; exact ⟨⟨_,Try.func52,by kernel_rfl,by kernel_rfl⟩,yaz⟩
 ·injection h with h; subst h; exact ⟨⟨_,Try.func51,by kernel_rfl,by kernel_rfl⟩,yjv⟩
 ·cases h
def ypq : Plan := fun id => match id with
 | 10 => some [(0,2),(0,5)]
 | _ => none
theorem fd_nm (v : List UInt8) : ∀ l : List Mb,l.findIdx (isD v) = (nmL l).findIdx (fun d => decide (d = v))
 | [] => rfl
 | a :: r => by
  show (a :: r).findIdx (isD v) = (a.d :: nmL r).findIdx _
  rw [List.findIdx_cons,List.findIdx_cons,fd_nm v r]; rfl
section
set_option maxRecDepth 100000
set_option maxHeartbeats 16000000
theorem yjo : zaz Try.prog 20 rsyS := by
 refine zfg (S := zng) (T := ty) (pl := ypq) mixed ty_ok yon Try.func20 (c := Try.f20.body.getD .skip) (by kernel_rfl) (by kernel_rfl) (fun xs pins hp _ => ?_)
 unfold rsyS at hp ⊢
 split at hp
 ·rename_i gn ph xs f v gen parts now _
  obtain ⟨hph,hL0,l,rfl,hd⟩ := hp
  rw [List.length_map] at hL0
  have hle : (l.map mbA).length = l.length := by simp
  have hL9 : l.length ≤ 9223372036854775807 := by omega
  have hL6 : l.length ≤ 1000000 := by omega
  have hex : ∃ k : List Mb,l.map mbA = k.map mbA := ⟨l,rfl⟩
  have hxd : ∃ k : List Mb,l.map mbA = k.map mbA ∧ ∀ r ∈ k,r.d.length ≤ 9223372036854775807 := ⟨l,rfl,hd⟩
  have hF := And.intro hle <| And.intro hph <| And.intro hL0 <| And.intro hL9 <| And.intro hL6 <| And.intro hex <| And.intro hxd <| And.intro zch <| And.intro zaj <| And.intro zad zaq
  rw [zaj]
  generalize hX : rsyF gn ph l f v gen parts now = X
  unfold rsyF at hX
  obtain ⟨B,hB⟩ : ∃ B,rbeF gn ph l f v gen now = B := ⟨_,rfl⟩
  by_cases he : (fiF gn ph l v gen now).2 = 0
  ·rw [if_pos he] at hX
   unfold syF at hX
   rw [if_pos he] at hX
   have hB2 := hB
   unfold rbeF at hB2
   rw [if_pos he] at hB2
   obtain ⟨hc,hT,hf,rfl,hfi⟩ := zrc he
   have hsr := ynh hc
   have hth := ydq hsr hf
   obtain ⟨I,hI2⟩ : ∃ I,l.findIdx (isD v) = I := ⟨_,rfl⟩
   rw [hI2] at hf hfi hX hB2
   have d00 : decide ((0 : Int) = 0) = true := rfl
   unfold yix at hX
   have hn1 : nmL (l.set I (zdt now (mbI l I))) = nmL l := zxm _ _ _ hf rfl
   generalize hQ : l.set I (zdt now (mbI l I)) = Q at *
   have hQl : Q.length = l.length := by rw [← hQ,List.length_set]
   have hn2 : nmL (Q.set I (yesM (mbI Q I))) = nmL l := (zxm Q I (yesM (mbI Q I)) (by omega) rfl).trans hn1
   have hfQ : Q.findIdx (isD v) = I := by rw [fd_nm,hn1,← fd_nm,hI2]
   have hix : ixG (isD v) Q = ((I : Nat) : Int) := by unfold ixG; rw [hfQ,if_pos (by omega)]
   have hs1 := zbe Q I (by omega)
   have hmi := zli (l := Q) (i := I) (by omega)
   rw [hmi] at hX hn2
   obtain ⟨r,hr⟩ : ∃ r,Q[I]'(by omega) = r := ⟨_,rfl⟩
   rw [hr] at hs1 hX hn2
   obtain ⟨d,t,y⟩ := r
   have hs1 : slot (Q.map mbA) I = .agg [.str d,.w (.int .i64 t),.w (.bool y)] := hs1
   unfold yesM at hX hn2
   simp only at hX hn2
   generalize hW : Q.set I ⟨d,t,true⟩ = W at *
   have hWl : W.length = l.length := by rw [← hW,List.length_set]; exact hQl
   have hwm : (W.map mbA).length = l.length := by simp [hWl]
   have hqm : (Q.map mbA).length = l.length := by simp [hQl]
   have hIn : ((I : Int) < (l.length : Int)) = True := eq_true (by omega)
   have hI0 : ((0 : Int) ≤ (I : Int)) = True := eq_true (by omega)
   have hexQ : ∃ k : List Mb,Q.map mbA = k.map mbA := ⟨Q,rfl⟩
   have hexW : ∃ k : List Mb,W.map mbA = k.map mbA := ⟨W,rfl⟩
   have hnm : (W.map fun m => AV.str m.d) = (nmL l).map AV.str := by rw [ytn,hn2]
   have hnl : ((nmL l).map AV.str).length = l.length := by simp [nmL]
   have hexN : ∃ k : List (List UInt8),(nmL l).map AV.str = k.map AV.str ∧ srtT k ∧ thT v k = true := ⟨_,rfl,hsr,hth⟩
   have hmN := zid (nmL l)
   subst hB2
   refine ⟨by simp,?_⟩
   unfold Try.f20
   cases hA : allY W with
   | true =>
    rw [hA,if_pos rfl] at hX
    subst hX
    simp only [go_sem,zac,↓reduceIte,lcT,ty,zng,ypq,rbeS,zbq,rwiS,alyS,namS,ofS,jrA,syA,hF,hB,hix,hs1,hqm,hwm,hIn,hI0,hf,hexQ,hexW,hW,hA,hnm,hnl,hexN,hmN,zet,d00,Int.toNat_natCast,Bool.not_true,Bool.not_false]
    repeat (first | refine And.intro (by omega) ?_ | refine And.intro ⟨by omega,by omega⟩ ?_)
    refine ⟨_,Weak.refl _,?_⟩
    simp only [go_sem,zac,↓reduceIte,lcT,ty,zng,zad,zaf]
   | false =>
    rw [hA,if_neg (by decide)] at hX
    subst hX
    simp only [go_sem,zac,↓reduceIte,lcT,ty,zng,ypq,rbeS,zbq,rwiS,alyS,namS,ofS,jrA,syA,hF,hB,hix,hs1,hqm,hwm,hIn,hI0,hf,hexQ,hexW,hW,hA,hnm,hnl,hexN,hmN,zet,d00,Int.toNat_natCast,Bool.not_true,Bool.not_false]
    repeat (first | refine And.intro (by omega) ?_ | refine And.intro ⟨by omega,by omega⟩ ?_)
    refine ⟨_,Weak.refl _,?_⟩
    simp only [go_sem,zac,↓reduceIte,lcT,ty,zng,zad,zaf]
  ·rw [if_neg he] at hX
   have hB2 := hB
   unfold rbeF at hB2
   rw [if_neg he] at hB2
   obtain ⟨e,hE⟩ : ∃ e,(fiF gn ph l v gen now).2 = e := ⟨_,rfl⟩
   rw [hE] at he hX hB2
   have d0 : decide (e = 0) = false := decide_eq_false he
   subst hX hB2
   refine ⟨by simp,?_⟩
   unfold Try.f20
   simp only [go_sem,zac,↓reduceIte,lcT,ty,zng,ypq,rbeS,jrA,syA,hF,hB,d0,Bool.not_true,Bool.not_false]
   try (refine ⟨_,Weak.refl _,?_⟩)
   try simp only [go_sem,zac,↓reduceIte,lcT,ty,zng,zad,zaf]
 ·exact hp.elim
end
end Go.Proofs.Ytioldmhhefhelaa
namespace Go.Proofs.Ytioldmhhefhelaa
open Ax
def ooS : zan
 | [.agg [.w (.int .i64 gn),.w (.int .u8 ph),.sg 3 xs f]],[] => ⟨xs.length ≤ 900000 ∧ ∃ l : List Mb,xs = l.map mbA,.agg [.w (.int .i64 gn),.w (.int .u8 ph),.sg 3 xs false],[]⟩
 | _,_ => zbg
section
set_option maxRecDepth 100000
set_option maxHeartbeats 4000000
theorem ypz : zaz Try.prog 6 ooS := by
 refine zbc (S := noS) (T := ty) mixed ty_ok zbh Try.func6 (c := Try.f6.body.getD .skip) (by kernel_rfl) (by kernel_rfl) (fun xs pins hp _ => ?_)
 unfold ooS at hp ⊢
 split at hp
 ·rename_i gn ph xs f _
  obtain ⟨hL,l,rfl⟩ := hp
  rw [List.length_map] at hL
  have hle : (l.map mbA).length = l.length := by simp
  refine ⟨by simp,?_⟩
  unfold Try.f6
  simp only [go_sem,zab,↓reduceIte,ty,noS,hle,zch]
  refine zbf ⟨fun m σ => ∃ i : Nat,m = l.length - i ∧ i ≤ l.length ∧
   σ = ⟨[.agg [.w (.int .i64 gn),.w (.int .u8 ph),.sg 3 (l.map mbA) f],.rf 4 3 0 0,.rf 5 3 0 0,.ms 6 3 0 i,.w (.int .i64 i),.junk,.junk,.junk,.junk,.junk,.junk,.junk,.junk,.junk,.junk,.junk,.junk,.junk,.junk,.junk,.junk,.junk,.junk,.junk,.junk,.junk],[(4,.g 3 [.agg [.w (.int .i64 gn),.w (.int .u8 ph),.sg 3 (l.map mbA) f]]),(5,.g 3 [.agg [.w (.int .i64 0),.w (.int .u8 0),.sg 3 [] true]]),(6,.g 3 ((l.take i).map mbA))],7⟩,?_,?_⟩
  ·refine ⟨_,_,(zen 3 3 (.g 3 []) ⟨by decide,rfl⟩ (by exact trivial)).trans (zag [0,1,2,3,4,12,36] rfl rfl rfl ?_ ?_),0,rfl,by omega,rfl⟩
   ·simp only [ssT,zal,zam,setSlot,gOf,AV.ren,renL,Blk.ren,Ax.look,Ax.put,reduceCtorEq,↓reduceIte,Nat.reduceEqDiff,Nat.reduceLT,Nat.reduceAdd,List.length_append,List.length_cons,List.length_nil,Option.some.injEq,zaf]; try simp
   ·simp only [ssT,zal,zam,setSlot,gOf,AV.ren,renL,Blk.ren,Ax.look,Ax.put,reduceCtorEq,↓reduceIte,Nat.reduceEqDiff,Nat.reduceLT,Nat.reduceAdd,List.length_append,List.length_cons,List.length_nil,Option.some.injEq,zaf]; try simp [renL]
  ·rintro m σ ⟨i,rfl,hi,rfl⟩
   have hml : ((l.take i).map mbA).length = i := by simp; omega
   by_cases hil : i < l.length
   ·have d2 : decide ((i : Int) < l.length) = true := decide_eq_true (by omega)
    have e1 : ((i : Int) + 1 + 9223372036854775808) % 18446744073709551616 - 9223372036854775808 = ((i + 1 : Nat) : Int) := by omega
    have hs1 := zbe l i hil
    have htk : l.take (i + 1) = l.take i ++ [l[i]] := List.take_succ_eq_append_getElem hil
    obtain ⟨r,hr⟩ : ∃ r,l[i] = r := ⟨_,rfl⟩
    rw [hr] at hs1 htk
    obtain ⟨d,t,y⟩ := r
    have hs1 : slot (l.map mbA) i = .agg [.str d,.w (.int .i64 t),.w (.bool y)] := hs1
    have hat : (l.take i).map mbA ++ [.agg [.str d,.w (.int .i64 t),.w (.bool y)]] = (l.take (i + 1)).map mbA := by rw [htk,List.map_append]; rfl
    simp only [go_sem,zab,↓reduceIte,ty,noS,hle,hml,d2,hs1,e1,Int.toNat_natCast,zaq,hat]
    repeat (first | refine And.intro (by omega) ?_ | refine And.intro ⟨by omega,by omega⟩ ?_ | refine And.intro (by unfold top; omega) ?_)
    refine ⟨l.length - (i + 1),_,by omega,zag [0,1,2,3,4,5,103] rfl rfl rfl ?_ ?_,i + 1,rfl,by omega,rfl⟩
    ·simp only [ssT,zal,zam,setSlot,gOf,AV.ren,renL,Blk.ren,Ax.look,Ax.put,reduceCtorEq,↓reduceIte,Nat.reduceEqDiff,Nat.reduceLT,Nat.reduceAdd,List.length_append,List.length_cons,List.length_nil,Option.some.injEq,zaf]; try simp
    ·simp only [ssT,zal,zam,setSlot,gOf,AV.ren,renL,Blk.ren,Ax.look,Ax.put,reduceCtorEq,↓reduceIte,Nat.reduceEqDiff,Nat.reduceLT,Nat.reduceAdd,List.length_append,List.length_cons,List.length_nil,Option.some.injEq,zaf]; try simp [zaf]
     try rw [zaf]
   ·have d2 : decide ((i : Int) < l.length) = false := decide_eq_false (by omega)
    obtain rfl : i = l.length := by omega
    rw [List.take_length] at hml ⊢
    have hdle : decide (0 + l.length ≤ (l.map mbA).length) = true := decide_eq_true (by omega)
    have htk : List.take l.length (l.map mbA) = l.map mbA := List.take_of_length_le (by omega)
    simp only [go_sem,zab,↓reduceIte,ty,noS,hle,d2]
    refine ⟨_,zby 6 3 3 (l.map mbA) rfl (zad _) (by simp [slot,AV.ids]),?_⟩
    simp only [fgL,fgH,AV.fg,Blk.fg,zcc,Nat.reduceBEq,cond_true,cond_false,hdle,Bool.and_true,beq_self_eq_true,Bool.true_and,List.drop_zero,htk]
    simp only [go_sem,zab,↓reduceIte,ty,noS,zav,zch,fillS]
 ·exact hp.elim
theorem ydo : zaz Try.prog 9 ooS := by
 refine zbc (S := noS) (T := ty) mixed ty_ok zbh Try.func9 (c := Try.f9.body.getD .skip) (by kernel_rfl) (by kernel_rfl) (fun xs pins hp _ => ?_)
 unfold ooS at hp ⊢
 split at hp
 ·rename_i gn ph xs f _
  obtain ⟨hL,l,rfl⟩ := hp
  rw [List.length_map] at hL
  have hle : (l.map mbA).length = l.length := by simp
  refine ⟨by simp,?_⟩
  unfold Try.f9
  simp only [go_sem,zab,↓reduceIte,ty,noS,hle,zav]
  refine zbf ⟨fun m σ => ∃ i : Nat,m = l.length - i ∧ i ≤ l.length ∧
   σ = ⟨[.agg [.w (.int .i64 gn),.w (.int .u8 ph),.sg 3 (l.map mbA) f],.rf 4 3 0 0,.rf 5 3 0 0,.ms 6 3 0 i,.w (.int .i64 i),.junk,.junk,.junk,.junk,.junk,.junk,.junk,.junk,.junk,.junk,.junk,.junk,.junk,.junk,.junk,.junk,.junk,.junk,.junk,.junk,.junk],[(4,.g 3 [.agg [.w (.int .i64 gn),.w (.int .u8 ph),.sg 3 (l.map mbA) f]]),(5,.g 3 [.agg [.w (.int .i64 0),.w (.int .u8 0),.sg 3 [] true]]),(6,.g 3 ((l.take i).map mbA))],7⟩,?_,?_⟩
  ·refine ⟨_,_,(zen 3 3 (.g 3 []) ⟨by decide,rfl⟩ (by exact trivial)).trans (zag [0,1,2,3,4,12,36] rfl rfl rfl ?_ ?_),0,rfl,by omega,rfl⟩
   ·simp only [ssT,zal,zam,setSlot,gOf,AV.ren,renL,Blk.ren,Ax.look,Ax.put,reduceCtorEq,↓reduceIte,Nat.reduceEqDiff,Nat.reduceLT,Nat.reduceAdd,List.length_append,List.length_cons,List.length_nil,Option.some.injEq,zaf]; try simp
   ·simp only [ssT,zal,zam,setSlot,gOf,AV.ren,renL,Blk.ren,Ax.look,Ax.put,reduceCtorEq,↓reduceIte,Nat.reduceEqDiff,Nat.reduceLT,Nat.reduceAdd,List.length_append,List.length_cons,List.length_nil,Option.some.injEq,zaf]; try simp [renL]
  ·rintro m σ ⟨i,rfl,hi,rfl⟩
   have hml : ((l.take i).map mbA).length = i := by simp; omega
   by_cases hil : i < l.length
   ·have d2 : decide ((i : Int) < l.length) = true := decide_eq_true (by omega)
    have e1 : ((i : Int) + 1 + 9223372036854775808) % 18446744073709551616 - 9223372036854775808 = ((i + 1 : Nat) : Int) := by omega
    have hs1 := zbe l i hil
    have htk : l.take (i + 1) = l.take i ++ [l[i]] := List.take_succ_eq_append_getElem hil
    obtain ⟨r,hr⟩ : ∃ r,l[i] = r := ⟨_,rfl⟩
    rw [hr] at hs1 htk
    obtain ⟨d,t,y⟩ := r
    have hs1 : slot (l.map mbA) i = .agg [.str d,.w (.int .i64 t),.w (.bool y)] := hs1
    have hat : (l.take i).map mbA ++ [.agg [.str d,.w (.int .i64 t),.w (.bool y)]] = (l.take (i + 1)).map mbA := by rw [htk,List.map_append]; rfl
    simp only [go_sem,zab,↓reduceIte,ty,noS,hle,hml,d2,hs1,e1,Int.toNat_natCast,zaq,hat]
    repeat (first | refine And.intro (by omega) ?_ | refine And.intro ⟨by omega,by omega⟩ ?_ | refine And.intro (by unfold top; omega) ?_)
    refine ⟨l.length - (i + 1),_,by omega,zag [0,1,2,3,4,5,103] rfl rfl rfl ?_ ?_,i + 1,rfl,by omega,rfl⟩
    ·simp only [ssT,zal,zam,setSlot,gOf,AV.ren,renL,Blk.ren,Ax.look,Ax.put,reduceCtorEq,↓reduceIte,Nat.reduceEqDiff,Nat.reduceLT,Nat.reduceAdd,List.length_append,List.length_cons,List.length_nil,Option.some.injEq,zaf]; try simp
    ·simp only [ssT,zal,zam,setSlot,gOf,AV.ren,renL,Blk.ren,Ax.look,Ax.put,reduceCtorEq,↓reduceIte,Nat.reduceEqDiff,Nat.reduceLT,Nat.reduceAdd,List.length_append,List.length_cons,List.length_nil,Option.some.injEq,zaf]; try simp [zaf]
     try rw [zaf]
   ·have d2 : decide ((i : Int) < l.length) = false := decide_eq_false (by omega)
    obtain rfl : i = l.length := by omega
    rw [List.take_length] at hml ⊢
    have hdle : decide (0 + l.length ≤ (l.map mbA).length) = true := decide_eq_true (by omega)
    have htk : List.take l.length (l.map mbA) = l.map mbA := List.take_of_length_le (by omega)
    simp only [go_sem,zab,↓reduceIte,ty,noS,hle,d2]
    refine ⟨_,zby 6 3 3 (l.map mbA) rfl (zad _) (by simp [slot,AV.ids]),?_⟩
    simp only [fgL,fgH,AV.fg,Blk.fg,zcc,Nat.reduceBEq,cond_true,cond_false,hdle,Bool.and_true,beq_self_eq_true,Bool.true_and,List.drop_zero,htk]
    simp only [go_sem,zab,↓reduceIte,ty,noS,zav,zch,fillS]
 ·exact hp.elim
end
end Go.Proofs.Ytioldmhhefhelaa
namespace Go.Proofs.Ytioldmhhefhelaa
open Ax
def rsaS : zan
 | [.agg [.w (.int .i64 gn),.w (.int .u8 ph),.sg 3 xs f],.agg [.w (.int .i64 gm),.w (.int .u8 pm),.sg 3 ys g]],[] => ⟨(gn = gm ∧ ph = pm ∧ xs = ys) ∧ xs.length ≤ 900000 ∧ ∃ l : List Mb,xs = l.map mbA,.w (.bool true),[]⟩
 | _,_ => zbg
def zvj (l : List Mb) : Bool := decide (l.length ≤ 30) && !decide (l.findIdx (fun m => decide (60 < m.d.length)) < l.length)
def rliS : zan
 | [.agg [.w (.int .i64 gn),.w (.int .u8 ph),.sg 3 xs f]],[] => ⟨xs.length ≤ 9223372036854775807 ∧ ∃ l : List Mb,xs = l.map mbA ∧ ∀ r ∈ l,r.d.length ≤ 9223372036854775807,.w (.bool (zvj (xs.map umb))),[]⟩
 | _,_ => zbg
def rsoS : zan
 | [.si a f,.si b g],[] => ⟨a = b ∧ a.length ≤ 1000000,.w (.bool true),[]⟩
 | [.sg 1 [] f,.sg 1 [] g],[] => ⟨True,.w (.bool true),[]⟩
 | _,_ => zbg
section
set_option maxRecDepth 100000
set_option maxHeartbeats 4000000
theorem zwy : zaz Try.prog 8 rsaS := by
 refine zbc (S := noS) (T := ty) mixed ty_ok zbh Try.func8 (c := Try.f8.body.getD .skip) (by kernel_rfl) (by kernel_rfl) (fun xs pins hp _ => ?_)
 unfold rsaS at hp ⊢
 split at hp
 ·rename_i gn ph xs f gm pm ys g _
  obtain ⟨⟨rfl,rfl,rfl⟩,hL,l,rfl⟩ := hp
  rw [List.length_map] at hL
  have hle : (l.map mbA).length = l.length := by simp
  have di : ∀ k : Int,decide (k = k) = true := fun k => decide_eq_true rfl
  refine ⟨by simp,?_⟩
  unfold Try.f8
  simp only [go_sem,zab,↓reduceIte,ty,noS,hle,zch,di,Bool.not_true]
  refine zbf ⟨fun m σ => ∃ i : Nat,m = l.length - i ∧ i ≤ l.length ∧
   σ = ⟨[.agg [.w (.int .i64 gn),.w (.int .u8 ph),.sg 3 (l.map mbA) f],.agg [.w (.int .i64 gn),.w (.int .u8 ph),.sg 3 (l.map mbA) g],.rf 4 3 0 0,.rf 5 3 0 0,.w (.bool false),.w (.int .i64 i),.junk,.junk,.junk,.junk,.junk,.junk,.junk,.junk,.junk,.junk,.junk,.junk,.junk,.junk,.junk,.junk,.junk,.junk,.junk,.junk,.junk,.junk,.junk,.junk,.junk,.junk,.junk,.junk,.junk,.junk,.junk,.junk,.junk,.junk,.junk,.junk,.junk,.junk,.junk],[(4,.g 3 [.agg [.w (.int .i64 gn),.w (.int .u8 ph),.sg 3 (l.map mbA) f]]),(5,.g 3 [.agg [.w (.int .i64 gn),.w (.int .u8 ph),.sg 3 (l.map mbA) g]])],6⟩,?_,?_⟩
  ·refine ⟨_,_,zag [0,1,2,3,4,12] rfl rfl rfl ?_ ?_,0,rfl,by omega,rfl⟩
   ·simp only [ssT,zal,zam,setSlot,gOf,AV.ren,renL,Blk.ren,Ax.look,Ax.put,reduceCtorEq,↓reduceIte,Nat.reduceEqDiff,Nat.reduceLT,Nat.reduceAdd,List.length_append,List.length_cons,List.length_nil,Option.some.injEq,zaf]; try simp
   ·simp only [ssT,zal,zam,setSlot,gOf,AV.ren,renL,Blk.ren,Ax.look,Ax.put,reduceCtorEq,↓reduceIte,Nat.reduceEqDiff,Nat.reduceLT,Nat.reduceAdd,List.length_append,List.length_cons,List.length_nil,Option.some.injEq,zaf]; try simp
  ·rintro m σ ⟨i,rfl,hi,rfl⟩
   by_cases hil : i < l.length
   ·have d2 : decide ((i : Int) < l.length) = true := decide_eq_true (by omega)
    have e1 : ((i : Int) + 1 + 9223372036854775808) % 18446744073709551616 - 9223372036854775808 = ((i + 1 : Nat) : Int) := by omega
    have hs1 := zbe l i hil
    obtain ⟨r,hr⟩ : ∃ r,l[i] = r := ⟨_,rfl⟩
    rw [hr] at hs1
    obtain ⟨d,t,y⟩ := r
    have hs1 : slot (l.map mbA) i = .agg [.str d,.w (.int .i64 t),.w (.bool y)] := hs1
    have dd : decide (d = d) = true := decide_eq_true rfl
    have dy : decide (y = y) = true := decide_eq_true rfl
    simp only [go_sem,zab,↓reduceIte,ty,noS,hle,d2,hs1,e1,di,dd,dy,Int.toNat_natCast,Bool.not_true]
    repeat (first | refine And.intro (by omega) ?_ | refine And.intro ⟨by omega,by omega⟩ ?_)
    refine ⟨l.length - (i + 1),_,by omega,zag [0,1,2,3,4,5] rfl rfl rfl ?_ ?_,i + 1,rfl,by omega,rfl⟩
    ·simp only [ssT,zal,zam,setSlot,gOf,AV.ren,renL,Blk.ren,Ax.look,Ax.put,reduceCtorEq,↓reduceIte,Nat.reduceEqDiff,Nat.reduceLT,Nat.reduceAdd,List.length_append,List.length_cons,List.length_nil,Option.some.injEq,zaf]; try simp
    ·simp only [ssT,zal,zam,setSlot,gOf,AV.ren,renL,Blk.ren,Ax.look,Ax.put,reduceCtorEq,↓reduceIte,Nat.reduceEqDiff,Nat.reduceLT,Nat.reduceAdd,List.length_append,List.length_cons,List.length_nil,Option.some.injEq,zaf]; try simp
   ·have d2 : decide ((i : Int) < l.length) = false := decide_eq_false (by omega)
    simp only [go_sem,zab,↓reduceIte,ty,noS,hle,d2]
    refine ⟨_,Weak.refl _,?_⟩
    simp only [go_sem,zab,↓reduceIte,ty,noS]
 ·exact hp.elim
theorem yjx : zaz Try.prog 4 rliS := by
 refine zbc (S := noS) (T := ty) mixed ty_ok zbh Try.func4 (c := Try.f4.body.getD .skip) (by kernel_rfl) (by kernel_rfl) (fun xs pins hp _ => ?_)
 unfold rliS at hp ⊢
 split at hp
 ·rename_i gn ph xs f _
  obtain ⟨hL,l,rfl,hd⟩ := hp
  rw [List.length_map] at hL
  have hle : (l.map mbA).length = l.length := by simp
  rw [zaj]
  unfold zvj
  obtain ⟨p,hp2⟩ : ∃ p : Mb → Bool,(fun m => decide (60 < m.d.length)) = p := ⟨_,rfl⟩
  rw [hp2]
  refine ⟨by simp,?_⟩
  unfold Try.f4
  by_cases h30 : l.length ≤ 30
  ·have q1 : decide ((30 : Int) < (l.length : Int)) = false := decide_eq_false (by omega)
   rw [decide_eq_true h30,Bool.true_and]
   simp only [go_sem,zab,↓reduceIte,ty,noS,hle,zch,q1]
   refine zbf ⟨fun m σ => ∃ (i : Nat),m = l.length - i ∧ i ≤ l.length ∧ (l.drop i).findIdx p + i = l.findIdx p ∧
     σ = ⟨[.agg [.w (.int .i64 gn),.w (.int .u8 ph),.sg 3 (l.map mbA) f],.rf 4 3 0 0,.w (.bool false),.w (.int .i64 i),.junk,.junk,.junk,.junk,.junk,.junk,.junk,.junk,.junk,.junk,.junk,.junk,.junk,.junk,.junk,.junk,.junk,.junk,.junk],[(4,.g 3 [.agg [.w (.int .i64 gn),.w (.int .u8 ph),.sg 3 (l.map mbA) f]])],5⟩,?_,?_⟩
   ·refine ⟨_,_,zag [0,1,2,3,4] rfl rfl rfl ?_ ?_,0,rfl,by omega,by rw [List.drop_zero]; rfl,rfl⟩
    all_goals (simp only [ssT,zal,zam,setSlot,gOf,AV.ren,renL,Blk.ren,Ax.look,Ax.put,reduceCtorEq,↓reduceIte,Nat.reduceEqDiff,Nat.reduceLT,Nat.reduceAdd,List.length_append,List.length_cons,List.length_nil,Option.some.injEq,zaf]; try simp)
   ·rintro m σ ⟨i,rfl,hi,hinv,rfl⟩
    have e1 : ((i : Int) + 1 + 9223372036854775808) % 18446744073709551616 - 9223372036854775808 = ((i + 1 : Nat) : Int) := by omega
    by_cases hil : i < l.length
    ·have d1x : decide ((i : Int) < l.length) = true := decide_eq_true (by omega)
     have hs1 := zbe l i hil
     have hpl : p l[i] = decide (60 < l[i].d.length) := by rw [← hp2]
     cases hv : p l[i] with
     | true =>
      have hfi := zha _ l i hil hv hinv
      rw [hfi,decide_eq_true hil,Bool.not_true]
      rw [hv] at hpl
      obtain ⟨r,hr1⟩ : ∃ r,l[i] = r := ⟨_,rfl⟩
      rw [hr1] at hs1 hpl
      obtain ⟨d1,t1,y1⟩ := r
      have hs1 : slot (l.map mbA) i = .agg [.str d1,.w (.int .i64 t1),.w (.bool y1)] := hs1
      have hpl : 60 < d1.length := of_decide_eq_true hpl.symm
      have d6 : decide ((60 : Int) < (d1.length : Int)) = true := decide_eq_true (by omega)
      simp only [go_sem,zab,↓reduceIte,ty,noS,hle,d1x,hs1,d6,Int.toNat_natCast,Bool.not_true,Bool.not_false]
      repeat (first | refine And.intro (by omega) ?_ | refine And.intro ⟨by omega,by omega⟩ ?_)
      try (refine ⟨_,Weak.refl _,?_⟩)
      try simp only [go_sem,zab,↓reduceIte,ty,noS]
     | false =>
      have hfi := zdi _ l i hil hv hinv
      rw [hv] at hpl
      obtain ⟨r,hr1⟩ : ∃ r,l[i] = r := ⟨_,rfl⟩
      rw [hr1] at hs1 hpl
      obtain ⟨d1,t1,y1⟩ := r
      have hs1 : slot (l.map mbA) i = .agg [.str d1,.w (.int .i64 t1),.w (.bool y1)] := hs1
      have hpl : ¬ 60 < d1.length := of_decide_eq_false hpl.symm
      have d6 : decide ((60 : Int) < (d1.length : Int)) = false := decide_eq_false (by omega)
      simp only [go_sem,zab,↓reduceIte,ty,noS,hle,d1x,hs1,d6,e1,Int.toNat_natCast,Bool.not_true,Bool.not_false]
      repeat (first | refine And.intro (by omega) ?_ | refine And.intro ⟨by omega,by omega⟩ ?_)
      refine ⟨l.length - (i + 1),_,by omega,zag [0,1,2,3,4] rfl rfl rfl ?_ ?_,i + 1,rfl,by omega,hfi,rfl⟩
      all_goals (simp only [ssT,zal,zam,setSlot,gOf,AV.ren,renL,Blk.ren,Ax.look,Ax.put,reduceCtorEq,↓reduceIte,Nat.reduceEqDiff,Nat.reduceLT,Nat.reduceAdd,List.length_append,List.length_cons,List.length_nil,Option.some.injEq,zaf]; try simp)
    ·have d1x : decide ((i : Int) < l.length) = false := decide_eq_false (by omega)
     have hfi := zes _ l i (by omega) hi hinv
     have hnn : decide (l.length < l.length) = false := decide_eq_false (Nat.lt_irrefl _)
     rw [hfi,hnn,Bool.not_false]
     simp only [go_sem,zab,↓reduceIte,ty,noS,hle,d1x]
     refine ⟨_,Weak.refl _,?_⟩
     simp only [go_sem,zab,↓reduceIte,ty,noS]
  ·have q1 : decide ((30 : Int) < (l.length : Int)) = true := decide_eq_true (by omega)
   rw [decide_eq_false h30,Bool.false_and]
   simp only [go_sem,zab,↓reduceIte,ty,noS,hle,zch,q1]
 ·exact hp.elim
end
end Go.Proofs.Ytioldmhhefhelaa
namespace Go.Proofs.Ytioldmhhefhelaa
open Ax
section
set_option maxRecDepth 100000
set_option maxHeartbeats 4000000
theorem yjp : zaz Try.prog 21 rsoS := by
 refine zbc (S := noS) (T := ty) mixed ty_ok zbh Try.func21 (c := Try.f21.body.getD .skip) (by kernel_rfl) (by kernel_rfl) (fun xs pins hp _ => ?_)
 unfold rsoS at hp ⊢
 split at hp
 ·rename_i a f b g _
  obtain ⟨rfl,hL⟩ := hp
  have di : ∀ k : Int,decide (k = k) = true := fun k => decide_eq_true rfl
  refine ⟨by simp,?_⟩
  unfold Try.f21
  simp only [go_sem,zab,↓reduceIte,ty,noS,di,Bool.not_true]
  refine zbf ⟨fun m σ => ∃ i : Nat,m = a.length - i ∧ i ≤ a.length ∧
   σ = ⟨[.si a f,.si a g,.junk,.junk,.w (.bool false),.w (.int .i64 i),.junk,.junk,.junk,.junk,.junk,.junk,.junk,.junk,.junk,.junk,.junk,.junk,.junk,.junk,.junk,.junk,.junk,.junk,.junk,.junk],[],4⟩,?_,?_⟩
  ·refine ⟨_,_,zag [0,1,2,3] rfl rfl rfl ?_ ?_,0,rfl,by omega,rfl⟩
   ·simp only [ssT,zal,zam,setSlot,gOf,AV.ren,renL,Blk.ren,Ax.look,Ax.put,reduceCtorEq,↓reduceIte,Nat.reduceEqDiff,Nat.reduceLT,Nat.reduceAdd,List.length_append,List.length_cons,List.length_nil,Option.some.injEq]; try simp
   ·simp only [ssT,zal,zam,setSlot,gOf,AV.ren,renL,Blk.ren,Ax.look,Ax.put,reduceCtorEq,↓reduceIte,Nat.reduceEqDiff,Nat.reduceLT,Nat.reduceAdd,List.length_append,List.length_cons,List.length_nil,Option.some.injEq]
  ·rintro m σ ⟨i,rfl,hi,rfl⟩
   by_cases hil : i < a.length
   ·have d2 : decide ((i : Int) < a.length) = true := decide_eq_true (by omega)
    have e1 : ((i : Int) + 1 + 9223372036854775808) % 18446744073709551616 - 9223372036854775808 = ((i + 1 : Nat) : Int) := by omega
    simp only [go_sem,zab,↓reduceIte,ty,noS,d2,e1,di,Int.toNat_natCast,Bool.not_true]
    repeat (first | refine And.intro (by omega) ?_ | refine And.intro ⟨by omega,by omega⟩ ?_)
    refine ⟨a.length - (i + 1),_,by omega,zag [0,1,2,3] rfl rfl rfl ?_ ?_,i + 1,rfl,by omega,rfl⟩
    ·simp only [ssT,zal,zam,setSlot,gOf,AV.ren,renL,Blk.ren,Ax.look,Ax.put,reduceCtorEq,↓reduceIte,Nat.reduceEqDiff,Nat.reduceLT,Nat.reduceAdd,List.length_append,List.length_cons,List.length_nil,Option.some.injEq]; try simp
    ·simp only [ssT,zal,zam,setSlot,gOf,AV.ren,renL,Blk.ren,Ax.look,Ax.put,reduceCtorEq,↓reduceIte,Nat.reduceEqDiff,Nat.reduceLT,Nat.reduceAdd,List.length_append,List.length_cons,List.length_nil,Option.some.injEq]
   ·have d2 : decide ((i : Int) < a.length) = false := decide_eq_false (by omega)
    simp only [go_sem,zab,↓reduceIte,ty,noS,d2]
    refine ⟨_,Weak.refl _,?_⟩
    simp only [go_sem,zab,↓reduceIte,ty,noS]
 ·rename_i f g _
  have d0 : decide (((0 : Nat) : Int) = ((0 : Nat) : Int)) = true := rfl
  have d1 : decide ((0 : Int) < ((0 : Nat) : Int)) = false := rfl
  have d2 : decide (((0 : Nat) : Int) < ((0 : Nat) : Int)) = false := rfl
  refine ⟨by simp,?_⟩
  unfold Try.f21
  simp only [go_sem,zab,↓reduceIte,ty,noS,d0,d1,d2,List.length_nil,Bool.not_true]
  refine zbf ⟨fun m σ => m = 0 ∧ σ = ⟨[.sg 1 [] f,.sg 1 [] g,.junk,.junk,.w (.bool false),.w (.int .i64 0),.junk,.junk,.junk,.junk,.junk,.junk,.junk,.junk,.junk,.junk,.junk,.junk,.junk,.junk,.junk,.junk,.junk,.junk,.junk,.junk],[],4⟩,?_,?_⟩
  ·refine ⟨_,_,zag [0,1,2,3] rfl rfl rfl ?_ ?_,rfl,rfl⟩
   ·simp only [ssT,zal,zam,setSlot,gOf,AV.ren,renL,Blk.ren,Ax.look,Ax.put,reduceCtorEq,↓reduceIte,Nat.reduceEqDiff,Nat.reduceLT,Nat.reduceAdd,List.length_append,List.length_cons,List.length_nil,Option.some.injEq]; try simp
   ·simp only [ssT,zal,zam,setSlot,gOf,AV.ren,renL,Blk.ren,Ax.look,Ax.put,reduceCtorEq,↓reduceIte,Nat.reduceEqDiff,Nat.reduceLT,Nat.reduceAdd,List.length_append,List.length_cons,List.length_nil,Option.some.injEq]
  ·rintro m σ ⟨rfl,rfl⟩
   simp only [go_sem,zab,↓reduceIte,ty,noS,d0,d1,d2,List.length_nil,Bool.not_true]
   refine ⟨_,Weak.refl _,?_⟩
   simp only [go_sem,zab,↓reduceIte,ty,noS]
 ·exact hp.elim
end
end Go.Proofs.Ytioldmhhefhelaa
namespace Go.Proofs.Ytioldmhhefhelaa
open Ax
structure Ac where
 k : Int
 d : List UInt8
 g : Int
 p : Int
 n : Int
deriving DecidableEq
def acA (r : Ac) : AV := .agg [.w (.int .u8 r.k),.str r.d,.w (.int .i64 r.g),.w (.int .i64 r.p),.w (.int .i64 r.n)]
end Go.Proofs.Ytioldmhhefhelaa
namespace Go.Proofs.Ytioldmhhefhelaa
open Ax
def grA (g p : Int) (l : List Mb) (f : Bool) : AV := .agg [.w (.int .i64 g),.w (.int .u8 p),.sg 3 (l.map mbA) f]
def zst (gn ph : Int) (l : List Mb) (f1 f2 : Bool) (x : JR) : AV :=
 if x.e = 0 then .tup [grA x.g x.p x.l x.f,grA x.g x.p x.l x.f,.w (.bool true)] else .tup [grA gn ph l f1,grA gn ph l f2,.w (.bool true)]
def doA (gn ph : Int) (l : List Mb) (f1 f2 : Bool) (k : Int) (d : List UInt8) (g p n : Int) : AV :=
 if k.tmod 5 = 0 then zst gn ph l f1 f2 (joF gn ph l d n)
 else if k.tmod 5 = 1 then zst gn ph l f1 f2 (syF gn ph l d g p n).r
 else if k.tmod 5 = 2 then zst gn ph l f1 f2 (beF gn ph l d g n)
 else if k.tmod 5 = 3 then zst gn ph l f1 f2 (leF gn ph l d)
 else .tup [grA (tiF gn ph l n g).g (tiF gn ph l n g).p (tiF gn ph l n g).l (empP (l.map mbA)),grA (rtiF gn ph l f2 n g).g (rtiF gn ph l f2 n g).p (rtiF gn ph l f2 n g).l (rtiF gn ph l f2 n g).f,.w (.bool true)]
def doS : zan
 | [.agg [.w (.int .i64 gn),.w (.int .u8 ph),.sg 3 xs f1],.agg [.w (.int .i64 gm),.w (.int .u8 pm),.sg 3 ys f2],.agg [.w (.int .u8 k),.str d,.w (.int .i64 g),.w (.int .i64 p),.w (.int .i64 n)]],[] =>
  ⟨(gm = gn ∧ pm = ph ∧ ys = xs) ∧ (0 ≤ ph ∧ n ≤ 9223372036854775807 ∧ d.length ≤ 9223372036854775807) ∧ xs.length ≤ 900000 ∧ ∃ l : List Mb,xs = l.map mbA ∧ ∀ r ∈ l,r.d.length ≤ 9223372036854775807,doA gn ph (xs.map umb) f1 f2 k d g p n,[]⟩
 | _,_ => zbg
def zoy (f : FuncId) : Option zan :=
 match f with
 | 10 => some joS
 | 11 => some syS
 | 12 => some beS
 | 13 => some leS
 | 14 => some tiS
 | 19 => some rjoS
 | 20 => some rsyS
 | 22 => some rbeS
 | 23 => some rleS
 | 24 => some rtiS
 | 21 => some rsoS
 | 8 => some rsaS
 | 9 => some ooS
 | _ => none
theorem ysm : Fns Try.prog zoy := by
 intro f s h
 unfold zoy at h
 split at h
 ·injection h with h; subst h; exact ⟨⟨_,Try.func10,by kernel_rfl,by kernel_rfl⟩,yqk⟩
 ·injection h with h; subst h; exact ⟨⟨_,Try.func11,by kernel_rfl,by kernel_rfl⟩,ypk⟩
 ·injection h with h; subst h; exact ⟨⟨_,Try.func12,by kernel_rfl,by kernel_rfl⟩,yry⟩
 ·injection h with h; subst h; exact ⟨⟨_,Try.func13,by kernel_rfl,by kernel_rfl⟩,yqf⟩
 ·injection h with h; subst h; exact ⟨⟨_,Try.func14,by kernel_rfl,by kernel_rfl⟩,ypj⟩
 ·injection h with h; subst h; exact ⟨⟨_,Try.func19,by kernel_rfl,by kernel_rfl⟩,yka⟩
 ·injection h with h; subst h; exact ⟨⟨_,Try.func20,by kernel_rfl,by kernel_rfl⟩,yjo⟩
 ·injection h with h; subst h; exact ⟨⟨_,Try.func22,by kernel_rfl,by kernel_rfl⟩,zxb⟩
 ·injection h with h; subst h; exact ⟨⟨_,Try.func23,by kernel_rfl,by kernel_rfl⟩,yjy⟩
 ·injection h with h; subst h; exact ⟨⟨_,Try.func24,by kernel_rfl,by kernel_rfl⟩,yjn⟩
 ·injection h with h; subst h; exact ⟨⟨_,Try.func21,by kernel_rfl,by kernel_rfl⟩,yjp⟩
 ·injection h with h; subst h; exact ⟨⟨_,Try.func8,by kernel_rfl,by kernel_rfl⟩,zwy⟩
 ·injection h with h; subst h; exact ⟨⟨_,Try.func9,by kernel_rfl,by kernel_rfl⟩,ydo⟩
 ·cases h
def doPl : Plan := fun id => match id with
 | 2 => some [(1,4)]
 | 14 => some [(1,2)]
 | 22 => some [(1,5),(4,5),(4,6)]
 | 23 => some [(0,7),(1,7),(7,8),(0,9),(1,9),(1,11)]
 | _ => none
theorem ypn (now pat : Int) (l : List Mb) : (zdz now pat l).length ≤ l.length := by unfold zdz; exact List.length_filter_le _ _
theorem ti_len (gn ph : Int) (l : List Mb) (now pat : Int) : (tiF gn ph l now pat).l.length ≤ l.length := by
 unfold tiF
 split
 ·simp only [List.length_map]; exact ypn now pat l
 ·exact Nat.le_refl _
theorem rti_eq (gn ph : Int) (l : List Mb) (f : Bool) (now pat : Int) : (rtiF gn ph l f now pat).g = (tiF gn ph l now pat).g ∧ (rtiF gn ph l f now pat).p = (tiF gn ph l now pat).p ∧ (rtiF gn ph l f now pat).l = (tiF gn ph l now pat).l := by
 unfold rtiF tiF
 split <;> exact ⟨rfl,rfl,rfl⟩
theorem ykb (P n : Nat) : ∀ k,∀ x ∈ (rgK P n k).1,x.length ≤ P + 1
 | 0 => by intro x hx; cases hx
 | k + 1 => by
  intro x hx
  simp only [rgK] at hx
  rcases List.mem_append.1 hx with h | h
  ·exact ykb P n k x h
  ·obtain rfl := List.mem_singleton.1 h
   rw [zph]; exact zpf P n k
theorem of_len (ns : List (List UInt8)) (p : Int) (v : List UInt8) : (ofF ns p v).length ≤ 1000000 := by
 have hP := ybz p
 unfold ofF rgF
 rw [List.getD_eq_getElem?_getD]
 by_cases h : plT v ns < (rgK (clpN p) ns.length ns.length).1.length
 ·rw [List.getElem?_eq_getElem h]
  have := ykb (clpN p) ns.length ns.length _ (List.getElem_mem h)
  simp only [Option.getD_some]; omega
 ·rw [List.getElem?_eq_none (by omega)]; simp
section
set_option maxRecDepth 100000
set_option maxHeartbeats 64000000
theorem yrb : zaz Try.prog 7 doS := by
 refine zfg (S := zoy) (T := ty) (pl := doPl) mixed ty_ok ysm Try.func7 (c := Try.f7.body.getD .skip) (by kernel_rfl) (by kernel_rfl) (fun xs pins hp _ => ?_)
 unfold doS at hp ⊢
 split at hp
 ·rename_i gn ph xs f1 gm pm ys f2 k d g p n _
  obtain ⟨⟨rfl,rfl,rfl⟩,⟨hph,hn9,hd9⟩,hL,l,rfl,hd⟩ := hp
  rw [List.length_map] at hL
  rw [zaj]
  have hle : (l.map mbA).length = l.length := by simp
  have hL9 : l.length ≤ 9223372036854775807 := by omega
  have hex : ∃ k : List Mb,l.map mbA = k.map mbA := ⟨l,rfl⟩
  have hxd : ∃ k : List Mb,l.map mbA = k.map mbA ∧ ∀ r ∈ k,r.d.length ≤ 9223372036854775807 := ⟨l,rfl,hd⟩
  have cM0 : ∀ f,coe ty 29 (.sg 3 [] f) = .sg 3 [] f := fun f => rfl
  have cR0 : ∀ f,coe ty 22 (.sg 3 [] f) = .sg 3 [] f := fun f => rfl
  have di : ∀ k : Int,decide (k = k) = true := fun k => decide_eq_true rfl
  have dne : ∀ k : Int,decide (k ≠ k) = false := fun k => decide_eq_false (fun h => h rfl)
  have tr : ∀ k : Int,(k = k) = True := fun k => eq_true rfl
  have trl : ∀ k : List AV,(k = k) = True := fun k => eq_true rfl
  have cI0 : ∀ f,coe ty 43 (.sg 1 [] f) = .si [] f := fun f => rfl
  have hF := And.intro cI0 <| And.intro hle <| And.intro hph <| And.intro hn9 <| And.intro hd9 <| And.intro hL <| And.intro hL9 <| And.intro hxd <| And.intro hex <| And.intro zav <| And.intro zch <| And.intro cM0 <| And.intro cR0 <| And.intro di <| And.intro zaj <| And.intro zad <| And.intro zaq <| And.intro tr trl
  obtain ⟨X,hX⟩ : ∃ X,doA gm pm l f1 f2 k d g p n = X := ⟨_,rfl⟩
  rw [hX]
  unfold doA at hX
  obtain ⟨K,hK⟩ : ∃ K,k.tmod 5 = K := ⟨_,rfl⟩
  rw [hK] at hX
  refine ⟨by simp,?_⟩
  unfold Try.f7
  by_cases hk0 : K = 0
  ·have k0 : decide (K = 0) = true := decide_eq_true hk0
   rw [if_pos hk0] at hX
   unfold zst at hX
   have hst := step_jo (gn := gm) (ph := pm) (l := l) (v := d) (now := n)
   obtain ⟨R,hR⟩ : ∃ R,joF gm pm l d n = R := ⟨_,rfl⟩
   rw [hR] at hst hX
   obtain ⟨xg,xp,xl,xf,xe⟩ := R
   by_cases hxe : xe = 0
   ·obtain rfl : xe = 0 := hxe
    have hst : zsx gm l xg xp xl := hst rfl
    obtain ⟨s1,s2,s3,s4⟩ := id hst
    have hlx := (ch_iff.1 s1).1
    have hexX : ∃ k : List Mb,xl.map mbA = k.map mbA := ⟨xl,rfl⟩
    have hlxm : (xl.map mbA).length = xl.length := by simp
    have hlx9 : xl.length ≤ 900000 := by omega
    have hY : rjoF gm pm l f2 d n = ⟨xg,xp,xl,xf,0⟩ := by unfold rjoF; rw [hR]; rfl
    rw [if_pos rfl] at hX
    subst hX
    simp (config := { maxSteps := 3000000 }) only [go_sem,zac,↓reduceIte,lcT,ty,zoy,doPl,grA,jrA,syA,errJ,ooS,rsaS,rsoS,hF,Int.toNat_natCast,Bool.not_true,Bool.not_false,hK,joS,rjoS,k0,hR,hY,hexX,hlxm,hlx9]
    refine ⟨_,Weak.refl _,?_⟩
    simp only [go_sem,zac,↓reduceIte,lcT,ty,grA,hF]
   ·have hY : rjoF gm pm l f2 d n = ⟨gm,pm,l,f2,xe⟩ := by unfold rjoF; rw [hR]; exact if_neg hxe
    have d4 : decide (xe = 0) = false := decide_eq_false hxe
    rw [if_neg hxe] at hX
    subst hX
    simp (config := { maxSteps := 3000000 }) only [go_sem,zac,↓reduceIte,lcT,ty,zoy,doPl,grA,jrA,syA,errJ,ooS,rsaS,rsoS,hF,Int.toNat_natCast,Bool.not_true,Bool.not_false,hK,joS,rjoS,k0,hR,hY,d4]
    refine ⟨_,Weak.refl _,?_⟩
    simp only [go_sem,zac,↓reduceIte,lcT,ty,grA,hF]
  ·have k0 : decide (K = 0) = false := decide_eq_false hk0
   by_cases hk1 : K = 1
   ·have k1 : decide (K = 1) = true := decide_eq_true hk1
    rw [if_neg hk0,if_pos hk1] at hX
    unfold zst at hX
    have hst := step_sy (gn := gm) (ph := pm) (l := l) (v := d) (gen := g) (parts := p) (now := n)
    by_cases hxe : (fiF gm pm l d g n).2 = 0
    ·obtain ⟨xg,xp,xl,xf,xo,hR,hxo⟩ : ∃ xg xp xl xf xo,syF gm pm l d g p n = ⟨⟨xg,xp,xl,xf,0⟩,.si xo false⟩ ∧ xo.length ≤ 1000000 := by unfold syF; rw [if_pos hxe]; exact ⟨_,_,_,_,_,rfl,of_len _ _ _⟩
     rw [hR] at hst hX
     have hst : zsx gm l xg xp xl := hst rfl
     obtain ⟨s1,s2,s3,s4⟩ := id hst
     have hlx := (ch_iff.1 s1).1
     have hexX : ∃ k : List Mb,xl.map mbA = k.map mbA := ⟨xl,rfl⟩
     have hlxm : (xl.map mbA).length = xl.length := by simp
     have hlx9 : xl.length ≤ 900000 := by omega
     have hY : rsyF gm pm l f2 d g p n = ⟨⟨xg,xp,xl,xf,0⟩,.si xo false⟩ := by unfold rsyF; rw [if_pos hxe]; exact hR
     rw [if_pos rfl] at hX
     subst hX
     simp (config := { maxSteps := 3000000 }) only [go_sem,zac,↓reduceIte,lcT,ty,zoy,doPl,grA,jrA,syA,errJ,ooS,rsaS,rsoS,hF,Int.toNat_natCast,Bool.not_true,Bool.not_false,hK,syS,rsyS,k0,k1,hR,hY,hexX,hlxm,hlx9,hxo]
     refine ⟨_,Weak.refl _,?_⟩
     simp only [go_sem,zac,↓reduceIte,lcT,ty,grA,hF]
    ·obtain ⟨xe,hx0,hR,hY⟩ : ∃ xe,xe ≠ 0 ∧ syF gm pm l d g p n = ⟨errJ xe,.sg 1 [] true⟩ ∧ rsyF gm pm l f2 d g p n = ⟨⟨gm,pm,l,f2,xe⟩,.sg 1 [] true⟩ := by unfold syF rsyF; rw [if_neg hxe,if_neg hxe]; exact ⟨_,hxe,rfl,rfl⟩
     have d4 : decide (xe = 0) = false := decide_eq_false hx0
     rw [hR] at hX
     unfold errJ at hX
     rw [if_neg hx0] at hX
     subst hX
     simp (config := { maxSteps := 3000000 }) only [go_sem,zac,↓reduceIte,lcT,ty,zoy,doPl,grA,jrA,syA,errJ,ooS,rsaS,rsoS,hF,Int.toNat_natCast,Bool.not_true,Bool.not_false,hK,syS,rsyS,k0,k1,hR,hY,d4,List.map_nil]
     refine ⟨_,Weak.refl _,?_⟩
     simp only [go_sem,zac,↓reduceIte,lcT,ty,grA,hF]
   ·have k1 : decide (K = 1) = false := decide_eq_false hk1
    by_cases hk2 : K = 2
    ·have k2 : decide (K = 2) = true := decide_eq_true hk2
     rw [if_neg hk0,if_neg hk1,if_pos hk2] at hX
     unfold zst at hX
     have hst := step_be (gn := gm) (ph := pm) (l := l) (v := d) (gen := g) (now := n)
     obtain ⟨R,hR⟩ : ∃ R,beF gm pm l d g n = R := ⟨_,rfl⟩
     rw [hR] at hst hX
     obtain ⟨xg,xp,xl,xf,xe⟩ := R
     by_cases hxe : xe = 0
     ·obtain rfl : xe = 0 := hxe
      have hst : zsx gm l xg xp xl := hst rfl
      obtain ⟨s1,s2,s3,s4⟩ := id hst
      have hlx := (ch_iff.1 s1).1
      have hexX : ∃ k : List Mb,xl.map mbA = k.map mbA := ⟨xl,rfl⟩
      have hlxm : (xl.map mbA).length = xl.length := by simp
      have hlx9 : xl.length ≤ 900000 := by omega
      have hY : rbeF gm pm l f2 d g n = ⟨xg,xp,xl,xf,0⟩ := by unfold rbeF; unfold beF at hR; split at hR <;> rename_i h <;> first | (rw [if_pos h]; exact hR) | (rw [if_neg h]; unfold errJ at hR; injection hR with _ _ _ _ h5; exact absurd h5 h)
      rw [if_pos rfl] at hX
      subst hX
      simp (config := { maxSteps := 3000000 }) only [go_sem,zac,↓reduceIte,lcT,ty,zoy,doPl,grA,jrA,syA,errJ,ooS,rsaS,rsoS,hF,Int.toNat_natCast,Bool.not_true,Bool.not_false,hK,beS,rbeS,k0,k1,k2,hR,hY,hexX,hlxm,hlx9]
      refine ⟨_,Weak.refl _,?_⟩
      simp only [go_sem,zac,↓reduceIte,lcT,ty,grA,hF]
     ·have hY : rbeF gm pm l f2 d g n = ⟨gm,pm,l,f2,xe⟩ := by unfold rbeF; unfold beF at hR; split at hR <;> rename_i h <;> first | (rw [if_neg h]; unfold errJ at hR; injection hR with _ _ _ _ h5; rw [h5]) | (injection hR with _ _ _ _ h5; exact absurd h5.symm hxe)
      have d4 : decide (xe = 0) = false := decide_eq_false hxe
      rw [if_neg hxe] at hX
      subst hX
      simp (config := { maxSteps := 3000000 }) only [go_sem,zac,↓reduceIte,lcT,ty,zoy,doPl,grA,jrA,syA,errJ,ooS,rsaS,rsoS,hF,Int.toNat_natCast,Bool.not_true,Bool.not_false,hK,beS,rbeS,k0,k1,k2,hR,hY,d4]
      refine ⟨_,Weak.refl _,?_⟩
      simp only [go_sem,zac,↓reduceIte,lcT,ty,grA,hF]
    ·have k2 : decide (K = 2) = false := decide_eq_false hk2
     by_cases hk3 : K = 3
     ·have k3 : decide (K = 3) = true := decide_eq_true hk3
      rw [if_neg hk0,if_neg hk1,if_neg hk2,if_pos hk3] at hX
      unfold zst at hX
      have hst := step_le (gn := gm) (ph := pm) (l := l) (v := d)
      obtain ⟨R,hR⟩ : ∃ R,leF gm pm l d = R := ⟨_,rfl⟩
      rw [hR] at hst hX
      obtain ⟨xg,xp,xl,xf,xe⟩ := R
      by_cases hxe : xe = 0
      ·obtain rfl : xe = 0 := hxe
       have hst : zsx gm l xg xp xl := hst rfl
       obtain ⟨s1,s2,s3,s4⟩ := id hst
       have hlx := (ch_iff.1 s1).1
       have hexX : ∃ k : List Mb,xl.map mbA = k.map mbA := ⟨xl,rfl⟩
       have hlxm : (xl.map mbA).length = xl.length := by simp
       have hlx9 : xl.length ≤ 900000 := by omega
       have hY : rleF gm pm l f2 d = ⟨xg,xp,xl,xf,0⟩ := by unfold rleF; rw [hR]; rfl
       rw [if_pos rfl] at hX
       subst hX
       simp (config := { maxSteps := 3000000 }) only [go_sem,zac,↓reduceIte,lcT,ty,zoy,doPl,grA,jrA,syA,errJ,ooS,rsaS,rsoS,hF,Int.toNat_natCast,Bool.not_true,Bool.not_false,hK,leS,rleS,k0,k1,k2,k3,hR,hY,hexX,hlxm,hlx9]
       refine ⟨_,Weak.refl _,?_⟩
       simp only [go_sem,zac,↓reduceIte,lcT,ty,grA,hF]
      ·have hY : rleF gm pm l f2 d = ⟨gm,pm,l,f2,xe⟩ := by unfold rleF; rw [hR]; exact if_neg hxe
       have d4 : decide (xe = 0) = false := decide_eq_false hxe
       rw [if_neg hxe] at hX
       subst hX
       simp (config := { maxSteps := 3000000 }) only [go_sem,zac,↓reduceIte,lcT,ty,zoy,doPl,grA,jrA,syA,errJ,ooS,rsaS,rsoS,hF,Int.toNat_natCast,Bool.not_true,Bool.not_false,hK,leS,rleS,k0,k1,k2,k3,hR,hY,d4]
       refine ⟨_,Weak.refl _,?_⟩
       simp only [go_sem,zac,↓reduceIte,lcT,ty,grA,hF]
     ·have k3 : decide (K = 3) = false := decide_eq_false hk3
      rw [if_neg hk0,if_neg hk1,if_neg hk2,if_neg hk3] at hX
      obtain ⟨e1,e2,e3⟩ := rti_eq gm pm l f2 n g
      have htl := ti_len gm pm l n g
      have hR2 : rtiF gm pm l f2 n g = ⟨(tiF gm pm l n g).g,(tiF gm pm l n g).p,(tiF gm pm l n g).l,(rtiF gm pm l f2 n g).f,(rtiF gm pm l f2 n g).e⟩ := by rw [← e1,← e2,← e3]
      obtain ⟨T,hT⟩ : ∃ T,tiF gm pm l n g = T := ⟨_,rfl⟩
      obtain ⟨f3,hf3⟩ : ∃ f,(rtiF gm pm l f2 n g).f = f := ⟨_,rfl⟩
      obtain ⟨e4,he4⟩ : ∃ f,(rtiF gm pm l f2 n g).e = f := ⟨_,rfl⟩
      rw [hf3,he4,hT] at hR2
      rw [hT] at htl hX
      rw [hR2] at hX
      obtain ⟨xg,xp,xl⟩ := T
      have htl : xl.length ≤ l.length := htl
      obtain ⟨f4,hf4⟩ : ∃ f,empP (l.map mbA) = f := ⟨_,rfl⟩
      rw [hf4] at hX
      have hexX : ∃ k : List Mb,xl.map mbA = k.map mbA := ⟨xl,rfl⟩
      have hlxm : (xl.map mbA).length = xl.length := by simp
      have hlx9 : xl.length ≤ 900000 := by omega
      subst hX
      simp (config := { maxSteps := 3000000 }) only [go_sem,zac,↓reduceIte,lcT,ty,zoy,doPl,grA,jrA,syA,errJ,ooS,rsaS,rsoS,hF,Int.toNat_natCast,Bool.not_true,Bool.not_false,hK,tiS,rtiS,tiA,k0,k1,k2,k3,hT,hR2,hf4,hexX,hlxm,hlx9]
      refine ⟨_,Weak.refl _,?_⟩
      simp only [go_sem,zac,↓reduceIte,lcT,ty,grA,hF]
 ·exact hp.elim
end
end Go.Proofs.Ytioldmhhefhelaa
