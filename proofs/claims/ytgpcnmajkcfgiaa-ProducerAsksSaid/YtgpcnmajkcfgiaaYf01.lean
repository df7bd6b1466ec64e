/- What the proofs of this seat stand on; it asks nothing. -/
import Derived.Test.YtgpcnmajkcfgiaaYa13
import Derived.Test.YtgpcnmajkcfgiaaYb00
import Derived.Test.YtgpcnmajkcfgiaaYd00
import Derived.Test.YtgpcnmajkcfgiaaYf00
set_option linter.unusedSimpArgs false
set_option linter.unusedVariables false
namespace Go.Proofs.Ytgpcnmajkcfgiaa
open Ax
def smPl : Plan := fun id => match id with
 | 6 => some [(5,12),(6,12),(8,12),(9,12)]
 | 12 => some []
 | _ => none
def smTS : zay
 | [.agg [.sg 3 xs f],.agg [.sg 3 ys g]],[] => ⟨(∃ l : List En,xs = l.map enA ∧ okL l) ∧ ∃ k : List En,ys = k.map enA ∧ okL k,.w (.bool (decide (xs.map uen = ys.map uen))),[]⟩
 | _,_ => zcr
theorem en_drop {l k : List En} {i : Nat} (h1 : i < l.length) (h2 : i < k.length) : (l.drop i = k.drop i) = (l[i] = k[i] ∧ l.drop (i + 1) = k.drop (i + 1)) := by
 rw [List.drop_eq_getElem_cons h1,List.drop_eq_getElem_cons h2,List.cons.injEq]
theorem eq_se_dec (q1 q2 : Int) (c1 c2 : Int) (b1 b2 : Int) :
   (decide (q1 = q2) && (decide (c1 = c2) && (decide (b1 = b2)))) = decide ((⟨q1,c1,b1⟩ : Se) = ⟨q2,c2,b2⟩) := by
 simp only [Se.mk.injEq,Bool.decide_and]
theorem same_drop_se {l k : List Se} {i : Nat} (h1 : i < l.length) (h2 : i < k.length) : (l.drop i = k.drop i) = (l[i] = k[i] ∧ l.drop (i + 1) = k.drop (i + 1)) := by
 rw [List.drop_eq_getElem_cons h1,List.drop_eq_getElem_cons h2,List.cons.injEq]
section
set_option maxRecDepth 100000
set_option maxHeartbeats 16000000
theorem smT_sound : zbx Try.prog 16 smTS := by
 refine fn_soundF (S := noS) (T := ty) (pl := smPl) zcu ty_ok zdj Try.func16 (c := Try.f16.body.getD .skip) (by kernel_rfl) (by kernel_rfl) (fun xs pins hp _ => ?_)
 unfold smTS at hp ⊢
 split at hp
 · rename_i xs f ys g _
   obtain ⟨⟨l,rfl,hL,hi⟩,k,rfl,hK,hj⟩ := hp
   have hle : (l.map enA).length = l.length := by simp
   have hke : (k.map enA).length = k.length := by simp
   rw [zak,zak]
   refine ⟨by simp,?_⟩
   unfold Try.f16
   by_cases hn : l.length = k.length
   · have d1 : decide ((l.length : Int) = k.length) = true := decide_eq_true (by omega)
     simp (config := { maxSteps := 3000000 }) only [go_sem,zad,Nat.reduceAdd,Nat.reduceSub,Nat.reduceMul,Int.reduceToNat,reduceCtorEq,↓reduceIte,Int.reducePow,Nat.reducePow,Int.reduceMod,Nat.reduceLeDiff,Int.reduceLE,Int.reduceNe,Int.reduceEq,Nat.reduceEqDiff,Nat.reduceLT,Nat.reduceBEq,List.map_cons,List.map_nil,List.toList_toArray,Array.toList_append,Option.toArray_some,Option.toArray_none,Bool.and_self,ty,noS,smPl,hle,hke,zab,zac,zam,zap,Int.toNat_natCast,Bool.not_true,Bool.not_false,d1]
     refine zed ⟨fun m σ => ∃ i : Nat,m = l.length - i ∧ i ≤ l.length ∧ (l.drop i = k.drop i) = (l = k) ∧
       σ = ⟨[.junk,.junk,.rf 4 1 0 0,.rf 5 1 0 0,.w (.bool false),.w (.int .i64 i),.junk,.junk,.junk,.junk,.junk,.junk,.junk,.junk,.junk,.junk,.junk,.junk,.junk,.junk,.junk,.junk,.junk,.junk,.junk,.junk,.junk,.junk,.junk,.junk,.junk,.junk,.junk,.junk,.junk,.junk,.junk,.junk,.junk,.junk,.junk,.junk,.junk,.junk,.junk,.junk,.junk,.junk,.junk,.junk,.junk,.junk,.junk,.junk,.junk,.junk,.junk,.junk,.junk,.junk,.junk,.junk,.junk,.junk,.junk,.junk,.junk,.junk,.junk,.junk,.junk,.junk],[(4,.g 1 [.agg [.sg 3 (l.map enA) f]]),(5,.g 1 [.agg [.sg 3 (k.map enA) g]])],6⟩,?_,?_⟩
     · refine ⟨_,_,zal [0,1,2,3,4,12] rfl rfl rfl ?_ ?_,0,rfl,by omega,rfl,rfl⟩
       · simp only [ssT,zaq,zar,setSlot,gOf,AV.ren,renL,Blk.ren,Ax.look,Ax.put,reduceCtorEq,↓reduceIte,Nat.reduceEqDiff,Nat.reduceLT,Nat.reduceAdd,List.length_append,List.length_cons,List.length_nil,Option.some.injEq,zai]; try simp
       · simp only [ssT,zaq,zar,setSlot,gOf,AV.ren,renL,Blk.ren,Ax.look,Ax.put,reduceCtorEq,↓reduceIte,Nat.reduceEqDiff,Nat.reduceLT,Nat.reduceAdd,List.length_append,List.length_cons,List.length_nil,Option.some.injEq,zai]; try simp
     · rintro m σ ⟨i,rfl,hi2,hs,rfl⟩
       by_cases hil : i < l.length
       · have d2 : decide ((i : Int) < l.length) = true := decide_eq_true (by omega)
         have e1 : ((i : Int) + 1 + 9223372036854775808) % 18446744073709551616 - 9223372036854775808 = ((i + 1 : Nat) : Int) := by omega
         have hs1 := zbw l i hil
         have hs2 := zbw k i (by omega)
         have hd := en_drop hil (show i < k.length by omega)
         rw [hs] at hd
         have hil1 := hi _ (List.getElem_mem hil)
         have hil2 := hj _ (List.getElem_mem (show i < k.length by omega))
         obtain ⟨x,hx⟩ : ∃ x,l[i] = x := ⟨_,rfl⟩
         obtain ⟨y,hy⟩ : ∃ y,k[i]'(by omega) = y := ⟨_,rfl⟩
         rw [hx] at hs1 hd hil1
         rw [hy] at hs2 hd hil2
         obtain ⟨xi,xk,xl⟩ := x
         obtain ⟨yi,yk,yl⟩ := y
         simp only at hil1 hil2
         have hs1 : slot (l.map enA) i = .agg [.w (.int .i64 xi),.w (.int .i64 xk),.sg 3 (xl.map seA) false] := hs1
         have hs2 : slot (k.map enA) i = .agg [.w (.int .i64 yi),.w (.int .i64 yk),.sg 3 (yl.map seA) false] := hs2
         have hxl : (xl.map seA).length = xl.length := by simp
         have hyl : (yl.map seA).length = yl.length := by simp
         rw [En.mk.injEq] at hd
         by_cases h1 : xi = yi
         · have q1 : decide (xi = yi) = true := decide_eq_true h1
           by_cases h2 : xk = yk
           · have q2 : decide (xk = yk) = true := decide_eq_true h2
             by_cases h3 : xl.length = yl.length
             · have q3 : decide ((xl.length : Int) = yl.length) = true := decide_eq_true (by omega)
               simp (config := { maxSteps := 3000000 }) only [go_sem,zad,Nat.reduceAdd,Nat.reduceSub,Nat.reduceMul,Int.reduceToNat,reduceCtorEq,↓reduceIte,Int.reducePow,Nat.reducePow,Int.reduceMod,Nat.reduceLeDiff,Int.reduceLE,Int.reduceNe,Int.reduceEq,Nat.reduceEqDiff,Nat.reduceLT,Nat.reduceBEq,List.map_cons,List.map_nil,List.toList_toArray,Array.toList_append,Option.toArray_some,Option.toArray_none,Bool.and_self,ty,noS,smPl,hle,hke,zab,zac,zam,zap,Int.toNat_natCast,Bool.not_true,Bool.not_false,d2,e1,hs1,hs2,hxl,hyl,q1,q2,q3]
               repeat (first | refine And.intro (by omega) ?_ | refine And.intro ⟨by omega,by omega⟩ ?_)
               refine zed ⟨fun m σ => ∃ j : Nat,m = xl.length - j ∧ j ≤ xl.length ∧ (xl.drop j = yl.drop j) = (xl = yl) ∧
                 σ = ⟨[.junk,.junk,.rf 4 1 0 0,.rf 5 1 0 0,.w (.bool false),.w (.int .i64 i),.rf 6 3 0 0,.rf 7 3 0 0,.w (.int .i64 j),.junk,.junk,.junk,.junk,.junk,.junk,.junk,.junk,.junk,.junk,.junk,.junk,.junk,.junk,.junk,.junk,.junk,.junk,.junk,.junk,.junk,.junk,.junk,.junk,.junk,.junk,.junk,.junk,.junk,.junk,.junk,.junk,.junk,.junk,.junk,.junk,.junk,.junk,.junk,.junk,.junk,.junk,.junk,.junk,.junk,.junk,.junk,.junk,.junk,.junk,.junk,.junk,.junk,.junk,.junk,.junk,.junk,.junk,.junk,.junk,.junk,.junk,.junk],[(4,.g 1 [.agg [.sg 3 (l.map enA) f]]),(5,.g 1 [.agg [.sg 3 (k.map enA) g]]),
                   (6,.g 3 [.agg [.w (.int .i64 xi),.w (.int .i64 xk),.sg 3 (xl.map seA) false]]),(7,.g 3 [.agg [.w (.int .i64 yi),.w (.int .i64 yk),.sg 3 (yl.map seA) false]])],8⟩,?_,?_⟩
               · refine ⟨_,_,zal [0,1,2,3,4,5,126,134] rfl rfl rfl ?_ ?_,0,rfl,by omega,rfl,rfl⟩
                 · simp only [ssT,zaq,zar,setSlot,gOf,AV.ren,renL,Blk.ren,Ax.look,Ax.put,reduceCtorEq,↓reduceIte,Nat.reduceEqDiff,Nat.reduceLT,Nat.reduceAdd,List.length_append,List.length_cons,List.length_nil,Option.some.injEq,zai,zax]; try simp
                 · simp only [ssT,zaq,zar,setSlot,gOf,AV.ren,renL,Blk.ren,Ax.look,Ax.put,reduceCtorEq,↓reduceIte,Nat.reduceEqDiff,Nat.reduceLT,Nat.reduceAdd,List.length_append,List.length_cons,List.length_nil,Option.some.injEq,zai,zax]; try simp
               · rintro m σ ⟨j,rfl,hj2,ht,rfl⟩
                 by_cases hjl : j < xl.length
                 · have d4 : decide ((j : Int) < xl.length) = true := decide_eq_true (by omega)
                   have e2 : ((j : Int) + 1 + 9223372036854775808) % 18446744073709551616 - 9223372036854775808 = ((j + 1 : Nat) : Int) := by omega
                   have hs3 := zfm xl j hjl
                   have hs4 := zfm yl j (by omega)
                   have hd2 := same_drop_se hjl (show j < yl.length by omega)
                   rw [ht] at hd2
                   obtain ⟨u,hu⟩ : ∃ u,xl[j] = u := ⟨_,rfl⟩
                   obtain ⟨v,hv⟩ : ∃ v,yl[j]'(by omega) = v := ⟨_,rfl⟩
                   rw [hu] at hs3 hd2
                   rw [hv] at hs4 hd2
                   obtain ⟨q1x,c1,b1⟩ := u
                   obtain ⟨q2x,c2,b2⟩ := v
                   have hs3 : slot (xl.map seA) j = .agg [.w (.int .i64 q1x),.w (.int .i64 c1),.w (.int .i64 b1)] := hs3
                   have hs4 : slot (yl.map seA) j = .agg [.w (.int .i64 q2x),.w (.int .i64 c2),.w (.int .i64 b2)] := hs4
                   by_cases he : (⟨q1x,c1,b1⟩ : Se) = ⟨q2x,c2,b2⟩
                   · have d5 := decide_eq_true he
                     simp only [he,true_and] at hd2
                     simp (config := { maxSteps := 3000000 }) only [go_sem,zad,Nat.reduceAdd,Nat.reduceSub,Nat.reduceMul,Int.reduceToNat,reduceCtorEq,↓reduceIte,Int.reducePow,Nat.reducePow,Int.reduceMod,Nat.reduceLeDiff,Int.reduceLE,Int.reduceNe,Int.reduceEq,Nat.reduceEqDiff,Nat.reduceLT,Nat.reduceBEq,List.map_cons,List.map_nil,List.toList_toArray,Array.toList_append,Option.toArray_some,Option.toArray_none,Bool.and_self,ty,noS,smPl,hle,hke,zab,zac,zam,zap,Int.toNat_natCast,Bool.not_true,Bool.not_false,d4,e2,hs3,hs4,hxl,hyl,eq_se_dec,d5]
                     repeat (first | refine And.intro (by omega) ?_ | refine And.intro ⟨by omega,by omega⟩ ?_)
                     refine ⟨xl.length - (j + 1),_,by omega,zal [0,1,2,3,4,5,6,7] rfl rfl rfl ?_ ?_,j + 1,rfl,by omega,hd2.symm,rfl⟩
                     · simp only [ssT,zaq,zar,setSlot,gOf,AV.ren,renL,Blk.ren,Ax.look,Ax.put,reduceCtorEq,↓reduceIte,Nat.reduceEqDiff,Nat.reduceLT,Nat.reduceAdd,List.length_append,List.length_cons,List.length_nil,Option.some.injEq,zai,zax]; try simp
                     · simp only [ssT,zaq,zar,setSlot,gOf,AV.ren,renL,Blk.ren,Ax.look,Ax.put,reduceCtorEq,↓reduceIte,Nat.reduceEqDiff,Nat.reduceLT,Nat.reduceAdd,List.length_append,List.length_cons,List.length_nil,Option.some.injEq,zai,zax]; try simp
                   · have d5 := decide_eq_false he
                     have hno : decide (l = k) = false := decide_eq_false (by rw [hd,hd2]; exact fun h => he h.1.2.2.1)
                     rw [hno]
                     simp (config := { maxSteps := 3000000 }) only [go_sem,zad,Nat.reduceAdd,Nat.reduceSub,Nat.reduceMul,Int.reduceToNat,reduceCtorEq,↓reduceIte,Int.reducePow,Nat.reducePow,Int.reduceMod,Nat.reduceLeDiff,Int.reduceLE,Int.reduceNe,Int.reduceEq,Nat.reduceEqDiff,Nat.reduceLT,Nat.reduceBEq,List.map_cons,List.map_nil,List.toList_toArray,Array.toList_append,Option.toArray_some,Option.toArray_none,Bool.and_self,ty,noS,smPl,hle,hke,zab,zac,zam,zap,Int.toNat_natCast,Bool.not_true,Bool.not_false,d4,hs3,hs4,hxl,hyl,eq_se_dec,d5]
                     repeat (first | refine And.intro (by omega) ?_ | refine And.intro ⟨by omega,by omega⟩ ?_)
                     refine ⟨_,Weak.refl _,?_⟩
                     simp (config := { maxSteps := 3000000 }) only [go_sem,zad,Nat.reduceAdd,Nat.reduceSub,Nat.reduceMul,Int.reduceToNat,reduceCtorEq,↓reduceIte,Int.reducePow,Nat.reducePow,Int.reduceMod,Nat.reduceLeDiff,Int.reduceLE,Int.reduceNe,Int.reduceEq,Nat.reduceEqDiff,Nat.reduceLT,Nat.reduceBEq,List.map_cons,List.map_nil,List.toList_toArray,Array.toList_append,Option.toArray_some,Option.toArray_none,Bool.and_self,ty,noS,smPl]
                     refine ⟨_,Weak.refl _,?_⟩
                     simp (config := { maxSteps := 3000000 }) only [go_sem,zad,Nat.reduceAdd,Nat.reduceSub,Nat.reduceMul,Int.reduceToNat,reduceCtorEq,↓reduceIte,Int.reducePow,Nat.reducePow,Int.reduceMod,Nat.reduceLeDiff,Int.reduceLE,Int.reduceNe,Int.reduceEq,Nat.reduceEqDiff,Nat.reduceLT,Nat.reduceBEq,List.map_cons,List.map_nil,List.toList_toArray,Array.toList_append,Option.toArray_some,Option.toArray_none,Bool.and_self,ty,noS,smPl]
                     exact zbu 4 rfl
                 · have d4 : decide ((j : Int) < xl.length) = false := decide_eq_false (by omega)
                   have hxy : xl = yl := by rw [← ht,List.drop_of_length_le (by omega),List.drop_of_length_le (by omega)]
                   have hd3 : (l.drop (i + 1) = k.drop (i + 1)) = (l = k) := by rw [hd]; simp [h1,h2,hxy]
                   simp (config := { maxSteps := 3000000 }) only [go_sem,zad,Nat.reduceAdd,Nat.reduceSub,Nat.reduceMul,Int.reduceToNat,reduceCtorEq,↓reduceIte,Int.reducePow,Nat.reducePow,Int.reduceMod,Nat.reduceLeDiff,Int.reduceLE,Int.reduceNe,Int.reduceEq,Nat.reduceEqDiff,Nat.reduceLT,Nat.reduceBEq,List.map_cons,List.map_nil,List.toList_toArray,Array.toList_append,Option.toArray_some,Option.toArray_none,Bool.and_self,ty,noS,smPl,hle,hke,zab,zac,zam,zap,Int.toNat_natCast,Bool.not_true,Bool.not_false,d4,e1,hxl,hyl]
                   refine ⟨_,Weak.refl _,?_⟩
                   simp (config := { maxSteps := 3000000 }) only [go_sem,zad,Nat.reduceAdd,Nat.reduceSub,Nat.reduceMul,Int.reduceToNat,reduceCtorEq,↓reduceIte,Int.reducePow,Nat.reducePow,Int.reduceMod,Nat.reduceLeDiff,Int.reduceLE,Int.reduceNe,Int.reduceEq,Nat.reduceEqDiff,Nat.reduceLT,Nat.reduceBEq,List.map_cons,List.map_nil,List.toList_toArray,Array.toList_append,Option.toArray_some,Option.toArray_none,Bool.and_self,ty,noS,smPl,hle,hke,zab,zac,zam,zap,Int.toNat_natCast,Bool.not_true,Bool.not_false,d4,e1,hxl,hyl]
                   refine ⟨l.length - (i + 1),_,by omega,zal [0,1,2,3,4,5] rfl rfl rfl ?_ ?_,i + 1,rfl,by omega,hd3,rfl⟩
                   · simp only [ssT,zaq,zar,setSlot,gOf,AV.ren,renL,Blk.ren,Ax.look,Ax.put,reduceCtorEq,↓reduceIte,Nat.reduceEqDiff,Nat.reduceLT,Nat.reduceAdd,List.length_append,List.length_cons,List.length_nil,Option.some.injEq,zai,zax]; try simp
                   · simp only [ssT,zaq,zar,setSlot,gOf,AV.ren,renL,Blk.ren,Ax.look,Ax.put,reduceCtorEq,↓reduceIte,Nat.reduceEqDiff,Nat.reduceLT,Nat.reduceAdd,List.length_append,List.length_cons,List.length_nil,Option.some.injEq,zai,zax]; try simp
             · have q3 : decide ((xl.length : Int) = yl.length) = false := decide_eq_false (by omega)
               have hno : decide (l = k) = false := decide_eq_false (by rw [hd]; exact fun h => h3 (by rw [h.1.2.2]))
               rw [hno]
               simp (config := { maxSteps := 3000000 }) only [go_sem,zad,Nat.reduceAdd,Nat.reduceSub,Nat.reduceMul,Int.reduceToNat,reduceCtorEq,↓reduceIte,Int.reducePow,Nat.reducePow,Int.reduceMod,Nat.reduceLeDiff,Int.reduceLE,Int.reduceNe,Int.reduceEq,Nat.reduceEqDiff,Nat.reduceLT,Nat.reduceBEq,List.map_cons,List.map_nil,List.toList_toArray,Array.toList_append,Option.toArray_some,Option.toArray_none,Bool.and_self,ty,noS,smPl,hle,hke,zab,zac,zam,zap,Int.toNat_natCast,Bool.not_true,Bool.not_false,d2,hs1,hs2,hxl,hyl,q1,q2,q3]
               repeat (first | refine And.intro (by omega) ?_ | refine And.intro ⟨by omega,by omega⟩ ?_)
               refine ⟨_,Weak.refl _,?_⟩
               simp (config := { maxSteps := 3000000 }) only [go_sem,zad,Nat.reduceAdd,Nat.reduceSub,Nat.reduceMul,Int.reduceToNat,reduceCtorEq,↓reduceIte,Int.reducePow,Nat.reducePow,Int.reduceMod,Nat.reduceLeDiff,Int.reduceLE,Int.reduceNe,Int.reduceEq,Nat.reduceEqDiff,Nat.reduceLT,Nat.reduceBEq,List.map_cons,List.map_nil,List.toList_toArray,Array.toList_append,Option.toArray_some,Option.toArray_none,Bool.and_self,ty,noS,smPl]
               exact zbu 4 rfl
           · have q2 : decide (xk = yk) = false := decide_eq_false h2
             have hno : decide (l = k) = false := decide_eq_false (by rw [hd]; exact fun h => h2 h.1.2.1)
             rw [hno]
             simp (config := { maxSteps := 3000000 }) only [go_sem,zad,Nat.reduceAdd,Nat.reduceSub,Nat.reduceMul,Int.reduceToNat,reduceCtorEq,↓reduceIte,Int.reducePow,Nat.reducePow,Int.reduceMod,Nat.reduceLeDiff,Int.reduceLE,Int.reduceNe,Int.reduceEq,Nat.reduceEqDiff,Nat.reduceLT,Nat.reduceBEq,List.map_cons,List.map_nil,List.toList_toArray,Array.toList_append,Option.toArray_some,Option.toArray_none,Bool.and_self,ty,noS,smPl,hle,hke,zab,zac,zam,zap,Int.toNat_natCast,Bool.not_true,Bool.not_false,d2,hs1,hs2,hxl,hyl,q1,q2]
             repeat (first | refine And.intro (by omega) ?_ | refine And.intro ⟨by omega,by omega⟩ ?_)
             refine ⟨_,Weak.refl _,?_⟩
             simp (config := { maxSteps := 3000000 }) only [go_sem,zad,Nat.reduceAdd,Nat.reduceSub,Nat.reduceMul,Int.reduceToNat,reduceCtorEq,↓reduceIte,Int.reducePow,Nat.reducePow,Int.reduceMod,Nat.reduceLeDiff,Int.reduceLE,Int.reduceNe,Int.reduceEq,Nat.reduceEqDiff,Nat.reduceLT,Nat.reduceBEq,List.map_cons,List.map_nil,List.toList_toArray,Array.toList_append,Option.toArray_some,Option.toArray_none,Bool.and_self,ty,noS,smPl]
             exact zbu 4 rfl
         · have q1 : decide (xi = yi) = false := decide_eq_false h1
           have hno : decide (l = k) = false := decide_eq_false (by rw [hd]; exact fun h => h1 h.1.1)
           rw [hno]
           simp (config := { maxSteps := 3000000 }) only [go_sem,zad,Nat.reduceAdd,Nat.reduceSub,Nat.reduceMul,Int.reduceToNat,reduceCtorEq,↓reduceIte,Int.reducePow,Nat.reducePow,Int.reduceMod,Nat.reduceLeDiff,Int.reduceLE,Int.reduceNe,Int.reduceEq,Nat.reduceEqDiff,Nat.reduceLT,Nat.reduceBEq,List.map_cons,List.map_nil,List.toList_toArray,Array.toList_append,Option.toArray_some,Option.toArray_none,Bool.and_self,ty,noS,smPl,hle,hke,zab,zac,zam,zap,Int.toNat_natCast,Bool.not_true,Bool.not_false,d2,hs1,hs2,hxl,hyl,q1]
           repeat (first | refine And.intro (by omega) ?_ | refine And.intro ⟨by omega,by omega⟩ ?_)
           refine ⟨_,Weak.refl _,?_⟩
           simp (config := { maxSteps := 3000000 }) only [go_sem,zad,Nat.reduceAdd,Nat.reduceSub,Nat.reduceMul,Int.reduceToNat,reduceCtorEq,↓reduceIte,Int.reducePow,Nat.reducePow,Int.reduceMod,Nat.reduceLeDiff,Int.reduceLE,Int.reduceNe,Int.reduceEq,Nat.reduceEqDiff,Nat.reduceLT,Nat.reduceBEq,List.map_cons,List.map_nil,List.toList_toArray,Array.toList_append,Option.toArray_some,Option.toArray_none,Bool.and_self,ty,noS,smPl]
           exact zbu 4 rfl
       · have d2 : decide ((i : Int) < l.length) = false := decide_eq_false (by omega)
         have hyes : decide (l = k) = true := by
           refine decide_eq_true ?_
           rw [← hs,List.drop_of_length_le (by omega),List.drop_of_length_le (by omega)]
         rw [hyes]
         simp (config := { maxSteps := 3000000 }) only [go_sem,zad,Nat.reduceAdd,Nat.reduceSub,Nat.reduceMul,Int.reduceToNat,reduceCtorEq,↓reduceIte,Int.reducePow,Nat.reducePow,Int.reduceMod,Nat.reduceLeDiff,Int.reduceLE,Int.reduceNe,Int.reduceEq,Nat.reduceEqDiff,Nat.reduceLT,Nat.reduceBEq,List.map_cons,List.map_nil,List.toList_toArray,Array.toList_append,Option.toArray_some,Option.toArray_none,Bool.and_self,ty,noS,smPl,hle,hke,zab,zac,zam,zap,Int.toNat_natCast,Bool.not_true,Bool.not_false,d2]
         refine ⟨_,Weak.refl _,?_⟩
         simp (config := { maxSteps := 3000000 }) only [go_sem,zad,Nat.reduceAdd,Nat.reduceSub,Nat.reduceMul,Int.reduceToNat,reduceCtorEq,↓reduceIte,Int.reducePow,Nat.reducePow,Int.reduceMod,Nat.reduceLeDiff,Int.reduceLE,Int.reduceNe,Int.reduceEq,Nat.reduceEqDiff,Nat.reduceLT,Nat.reduceBEq,List.map_cons,List.map_nil,List.toList_toArray,Array.toList_append,Option.toArray_some,Option.toArray_none,Bool.and_self,ty,noS,smPl]
         exact zbu 4 rfl
   · have d1 : decide ((l.length : Int) = k.length) = false := decide_eq_false (by omega)
     rw [decide_eq_false (fun e : l = k => hn (by rw [e]))]
     simp (config := { maxSteps := 3000000 }) only [go_sem,zad,Nat.reduceAdd,Nat.reduceSub,Nat.reduceMul,Int.reduceToNat,reduceCtorEq,↓reduceIte,Int.reducePow,Nat.reducePow,Int.reduceMod,Nat.reduceLeDiff,Int.reduceLE,Int.reduceNe,Int.reduceEq,Nat.reduceEqDiff,Nat.reduceLT,Nat.reduceBEq,List.map_cons,List.map_nil,List.toList_toArray,Array.toList_append,Option.toArray_some,Option.toArray_none,Bool.and_self,ty,noS,smPl,hle,hke,zab,zac,zam,zap,Int.toNat_natCast,Bool.not_true,Bool.not_false,d1]
     exact zbu 4 rfl
 · exact hp.elim
end
end Go.Proofs.Ytgpcnmajkcfgiaa
namespace Go.Proofs.Ytgpcnmajkcfgiaa
open Ax
def ltTS : zay
 | [.agg [.sg 3 xs f]],[] => ⟨xs.length ≤ 9223372036854775807 ∧ ∃ l : List En,xs = l.map enA ∧ ∀ r ∈ l,r.l.length ≤ 9223372036854775807,.w (.bool (decide (zda (xs.map uen)))),[]⟩
 | _,_ => zcr
theorem lt_cases (q c b : Int) :
   (decide (q < 0) = true ∧ ¬ zea ⟨q,c,b⟩) ∨
   (decide (q < 0) = false ∧ decide (1099511627776 < q) = true ∧ ¬ zea ⟨q,c,b⟩) ∨
   (decide (q < 0) = false ∧ decide (1099511627776 < q) = false ∧ decide (c < 0) = true ∧ ¬ zea ⟨q,c,b⟩) ∨
   (decide (q < 0) = false ∧ decide (1099511627776 < q) = false ∧ decide (c < 0) = false ∧ decide (1099511627776 < c) = true ∧ ¬ zea ⟨q,c,b⟩) ∨
   (decide (q < 0) = false ∧ decide (1099511627776 < q) = false ∧ decide (c < 0) = false ∧ decide (1099511627776 < c) = false ∧ decide (b < 0) = true ∧ ¬ zea ⟨q,c,b⟩) ∨
   (decide (q < 0) = false ∧ decide (1099511627776 < q) = false ∧ decide (c < 0) = false ∧ decide (1099511627776 < c) = false ∧ decide (b < 0) = false ∧ decide (2305843009213693952 < b) = true ∧ ¬ zea ⟨q,c,b⟩) ∨
   (decide (q < 0) = false ∧ decide (1099511627776 < q) = false ∧ decide (c < 0) = false ∧ decide (1099511627776 < c) = false ∧ decide (b < 0) = false ∧ decide (2305843009213693952 < b) = false ∧ zea ⟨q,c,b⟩) := by
 unfold zea
 simp only [decide_eq_true_eq,decide_eq_false_iff_not]
 omega
section
set_option maxRecDepth 100000
set_option maxHeartbeats 16000000
theorem ltT_sound : zbx Try.prog 7 ltTS := by
 refine fn_soundW (S := noS) (T := ty) zcu ty_ok zdj Try.func7 (c := Try.f7.body.getD .skip) (by kernel_rfl) (by kernel_rfl) (fun xs pins hp _ => ?_)
 unfold ltTS at hp ⊢
 split at hp
 · rename_i xs f _
   obtain ⟨hL,l,rfl,hi⟩ := hp
   rw [List.length_map] at hL
   have hle : (l.map enA).length = l.length := by simp
   rw [zak]
   refine ⟨by simp,?_⟩
   unfold Try.f7
   by_cases h20 : 20 < l.length
   · have d0 : decide ((20 : Int) < (l.length : Int)) = true := decide_eq_true (by omega)
     have hno : decide (zda l) = false := decide_eq_false (fun h => by have := h.1; omega)
     rw [hno]
     simp (config := { maxSteps := 3000000 }) only [go_sem,zaf,Nat.reduceAdd,Nat.reduceSub,Nat.reduceMul,Int.reduceToNat,reduceCtorEq,↓reduceIte,Int.reducePow,Nat.reducePow,Int.reduceMod,Nat.reduceLeDiff,Int.reduceLE,Int.reduceNe,Int.reduceEq,Nat.reduceEqDiff,Nat.reduceLT,Nat.reduceBEq,ty,noS,hle,zab,zac,zam,zap,Int.toNat_natCast,Bool.not_true,Bool.not_false,d0]
     exact zbu 2 rfl
   · have d0 : decide ((20 : Int) < (l.length : Int)) = false := decide_eq_false (by omega)
     simp (config := { maxSteps := 3000000 }) only [go_sem,zaf,Nat.reduceAdd,Nat.reduceSub,Nat.reduceMul,Int.reduceToNat,reduceCtorEq,↓reduceIte,Int.reducePow,Nat.reducePow,Int.reduceMod,Nat.reduceLeDiff,Int.reduceLE,Int.reduceNe,Int.reduceEq,Nat.reduceEqDiff,Nat.reduceLT,Nat.reduceBEq,ty,noS,hle,zab,zac,zam,zap,Int.toNat_natCast,Bool.not_true,Bool.not_false,d0]
     refine awp_loopW ⟨fun m σ => ∃ i : Nat,m = l.length - i ∧ i ≤ l.length ∧ (∀ r ∈ l.take i,lightE r) ∧
       σ = ⟨[.junk,.rf 4 1 0 0,.w (.bool false),.w (.int .i64 i),.junk,.junk,.junk,.junk,.junk,.junk,.junk,.junk,.junk,.junk,.junk,.junk,.junk,.junk,.junk,.junk,.junk,.junk,.junk,.junk,.junk,.junk,.junk,.junk,.junk,.junk,.junk,.junk,.junk,.junk,.junk,.junk,.junk,.junk,.junk,.junk,.junk,.junk,.junk,.junk,.junk,.junk,.junk,.junk,.junk,.junk,.junk,.junk,.junk,.junk,.junk,.junk,.junk,.junk,.junk,.junk,.junk,.junk,.junk,.junk,.junk,.junk,.junk],[(4,.g 1 [.agg [.sg 3 (l.map enA) f]])],5⟩,?_,?_⟩
     · refine ⟨_,_,zal [0,1,2,3,4] rfl rfl rfl ?_ ?_,0,rfl,by omega,by simp,rfl⟩
       · simp only [ssT,zaq,zar,setSlot,gOf,AV.ren,renL,Blk.ren,Ax.look,Ax.put,reduceCtorEq,↓reduceIte,Nat.reduceEqDiff,Nat.reduceLT,Nat.reduceAdd,List.length_append,List.length_cons,List.length_nil,Option.some.injEq,zai]; try simp
       · simp only [ssT,zaq,zar,setSlot,gOf,AV.ren,renL,Blk.ren,Ax.look,Ax.put,reduceCtorEq,↓reduceIte,Nat.reduceEqDiff,Nat.reduceLT,Nat.reduceAdd,List.length_append,List.length_cons,List.length_nil,Option.some.injEq,zai]; try simp
     · rintro m σ ⟨i,rfl,hi2,hall,rfl⟩
       have e1 : ((i : Int) + 1 + 9223372036854775808) % 18446744073709551616 - 9223372036854775808 = ((i + 1 : Nat) : Int) := by omega
       by_cases hil : i < l.length
       · have d1 : decide ((i : Int) < l.length) = true := decide_eq_true (by omega)
         have hs1 := zbw l i hil
         have hmem : l[i] ∈ l := List.getElem_mem hil
         have htk : l.take (i + 1) = l.take i ++ [l[i]] := List.take_succ_eq_append_getElem hil
         have hir := hi _ hmem
         obtain ⟨x,hx⟩ : ∃ x,l[i] = x := ⟨_,rfl⟩
         rw [hx] at hs1 hmem htk hir
         obtain ⟨xi,xk,xl⟩ := x
         simp only at hir
         have hs1 : slot (l.map enA) i = .agg [.w (.int .i64 xi),.w (.int .i64 xk),.sg 3 (xl.map seA) false] := hs1
         have hxl : (xl.map seA).length = xl.length := by simp
         by_cases h21 : 20 < xl.length
         · have d2 : decide ((20 : Int) < (xl.length : Int)) = true := decide_eq_true (by omega)
           have hno : decide (zda l) = false := decide_eq_false (fun h => by have := (h.2 _ hmem).1; simp only at this; omega)
           rw [hno]
           simp (config := { maxSteps := 3000000 }) only [go_sem,zaf,Nat.reduceAdd,Nat.reduceSub,Nat.reduceMul,Int.reduceToNat,reduceCtorEq,↓reduceIte,Int.reducePow,Nat.reducePow,Int.reduceMod,Nat.reduceLeDiff,Int.reduceLE,Int.reduceNe,Int.reduceEq,Nat.reduceEqDiff,Nat.reduceLT,Nat.reduceBEq,ty,noS,hle,zab,zac,zam,zap,Int.toNat_natCast,Bool.not_true,Bool.not_false,d1,d2,hs1,hxl]
           repeat (first | refine And.intro (by omega) ?_ | refine And.intro ⟨by omega,by omega⟩ ?_)
           refine ⟨_,Weak.refl _,?_⟩
           simp (config := { maxSteps := 3000000 }) only [go_sem,zaf,Nat.reduceAdd,Nat.reduceSub,Nat.reduceMul,Int.reduceToNat,reduceCtorEq,↓reduceIte,Int.reducePow,Nat.reducePow,Int.reduceMod,Nat.reduceLeDiff,Int.reduceLE,Int.reduceNe,Int.reduceEq,Nat.reduceEqDiff,Nat.reduceLT,Nat.reduceBEq,ty,noS]
           exact zbu 2 rfl
         · have d2 : decide ((20 : Int) < (xl.length : Int)) = false := decide_eq_false (by omega)
           simp (config := { maxSteps := 3000000 }) only [go_sem,zaf,Nat.reduceAdd,Nat.reduceSub,Nat.reduceMul,Int.reduceToNat,reduceCtorEq,↓reduceIte,Int.reducePow,Nat.reducePow,Int.reduceMod,Nat.reduceLeDiff,Int.reduceLE,Int.reduceNe,Int.reduceEq,Nat.reduceEqDiff,Nat.reduceLT,Nat.reduceBEq,ty,noS,hle,zab,zac,zam,zap,Int.toNat_natCast,Bool.not_true,Bool.not_false,d1,d2,hs1,hxl]
           repeat (first | refine And.intro (by omega) ?_ | refine And.intro ⟨by omega,by omega⟩ ?_)
           refine awp_loopW ⟨fun m σ => ∃ j : Nat,m = xl.length - j ∧ j ≤ xl.length ∧ (∀ y ∈ xl.take j,zea y) ∧
             σ = ⟨[.junk,.rf 4 1 0 0,.w (.bool false),.w (.int .i64 i),.rf 5 3 0 0,.w (.int .i64 j),.junk,.junk,.junk,.junk,.junk,.junk,.junk,.junk,.junk,.junk,.junk,.junk,.junk,.junk,.junk,.junk,.junk,.junk,.junk,.junk,.junk,.junk,.junk,.junk,.junk,.junk,.junk,.junk,.junk,.junk,.junk,.junk,.junk,.junk,.junk,.junk,.junk,.junk,.junk,.junk,.junk,.junk,.junk,.junk,.junk,.junk,.junk,.junk,.junk,.junk,.junk,.junk,.junk,.junk,.junk,.junk,.junk,.junk,.junk,.junk,.junk],[(4,.g 1 [.agg [.sg 3 (l.map enA) f]]),(5,.g 3 [.agg [.w (.int .i64 xi),.w (.int .i64 xk),.sg 3 (xl.map seA) false]])],6⟩,?_,?_⟩
           · refine ⟨_,_,zal [0,1,2,3,4,85] rfl rfl rfl ?_ ?_,0,rfl,by omega,by simp,rfl⟩
             · simp only [ssT,zaq,zar,setSlot,gOf,AV.ren,renL,Blk.ren,Ax.look,Ax.put,reduceCtorEq,↓reduceIte,Nat.reduceEqDiff,Nat.reduceLT,Nat.reduceAdd,List.length_append,List.length_cons,List.length_nil,Option.some.injEq,zai,zax]; try simp
             · simp only [ssT,zaq,zar,setSlot,gOf,AV.ren,renL,Blk.ren,Ax.look,Ax.put,reduceCtorEq,↓reduceIte,Nat.reduceEqDiff,Nat.reduceLT,Nat.reduceAdd,List.length_append,List.length_cons,List.length_nil,Option.some.injEq,zai,zax]; try simp
           · rintro m σ ⟨j,rfl,hj2,hall2,rfl⟩
             have e2 : ((j : Int) + 1 + 9223372036854775808) % 18446744073709551616 - 9223372036854775808 = ((j + 1 : Nat) : Int) := by omega
             by_cases hjl : j < xl.length
             · have d3 : decide ((j : Int) < xl.length) = true := decide_eq_true (by omega)
               have hs2 := zfm xl j hjl
               have hmem2 : xl[j] ∈ xl := List.getElem_mem hjl
               have htk2 : xl.take (j + 1) = xl.take j ++ [xl[j]] := List.take_succ_eq_append_getElem hjl
               obtain ⟨y,hy⟩ : ∃ y,xl[j] = y := ⟨_,rfl⟩
               rw [hy] at hs2 hmem2 htk2
               obtain ⟨yq,yc,yb⟩ := y
               have hs2 : slot (xl.map seA) j = .agg [.w (.int .i64 yq),.w (.int .i64 yc),.w (.int .i64 yb)] := hs2
               have hnn : ¬ zea ⟨yq,yc,yb⟩ → decide (zda l) = false := fun h => decide_eq_false (fun h2 => h ((h2.2 _ hmem).2 _ hmem2))
               rcases lt_cases yq yc yb with D | D | D | D | D | D | D
               · rw [hnn D.2]
                 simp (config := { maxSteps := 3000000 }) only [go_sem,zaf,Nat.reduceAdd,Nat.reduceSub,Nat.reduceMul,Int.reduceToNat,reduceCtorEq,↓reduceIte,Int.reducePow,Nat.reducePow,Int.reduceMod,Nat.reduceLeDiff,Int.reduceLE,Int.reduceNe,Int.reduceEq,Nat.reduceEqDiff,Nat.reduceLT,Nat.reduceBEq,ty,noS,hle,zab,zac,zam,zap,Int.toNat_natCast,Bool.not_true,Bool.not_false,d3,hs2,hxl,D]
                 repeat (first | refine And.intro (by omega) ?_ | refine And.intro ⟨by omega,by omega⟩ ?_)
                 refine ⟨_,Weak.refl _,?_⟩
                 simp (config := { maxSteps := 3000000 }) only [go_sem,zaf,Nat.reduceAdd,Nat.reduceSub,Nat.reduceMul,Int.reduceToNat,reduceCtorEq,↓reduceIte,Int.reducePow,Nat.reducePow,Int.reduceMod,Nat.reduceLeDiff,Int.reduceLE,Int.reduceNe,Int.reduceEq,Nat.reduceEqDiff,Nat.reduceLT,Nat.reduceBEq,ty,noS]
                 refine ⟨_,Weak.refl _,?_⟩
                 simp (config := { maxSteps := 3000000 }) only [go_sem,zaf,Nat.reduceAdd,Nat.reduceSub,Nat.reduceMul,Int.reduceToNat,reduceCtorEq,↓reduceIte,Int.reducePow,Nat.reducePow,Int.reduceMod,Nat.reduceLeDiff,Int.reduceLE,Int.reduceNe,Int.reduceEq,Nat.reduceEqDiff,Nat.reduceLT,Nat.reduceBEq,ty,noS]
                 exact zbu 2 rfl
               · rw [hnn D.2.2]
                 simp (config := { maxSteps := 3000000 }) only [go_sem,zaf,Nat.reduceAdd,Nat.reduceSub,Nat.reduceMul,Int.reduceToNat,reduceCtorEq,↓reduceIte,Int.reducePow,Nat.reducePow,Int.reduceMod,Nat.reduceLeDiff,Int.reduceLE,Int.reduceNe,Int.reduceEq,Nat.reduceEqDiff,Nat.reduceLT,Nat.reduceBEq,ty,noS,hle,zab,zac,zam,zap,Int.toNat_natCast,Bool.not_true,Bool.not_false,d3,hs2,hxl,D]
                 repeat (first | refine And.intro (by omega) ?_ | refine And.intro ⟨by omega,by omega⟩ ?_)
                 refine ⟨_,Weak.refl _,?_⟩
                 simp (config := { maxSteps := 3000000 }) only [go_sem,zaf,Nat.reduceAdd,Nat.reduceSub,Nat.reduceMul,Int.reduceToNat,reduceCtorEq,↓reduceIte,Int.reducePow,Nat.reducePow,Int.reduceMod,Nat.reduceLeDiff,Int.reduceLE,Int.reduceNe,Int.reduceEq,Nat.reduceEqDiff,Nat.reduceLT,Nat.reduceBEq,ty,noS]
                 refine ⟨_,Weak.refl _,?_⟩
                 simp (config := { maxSteps := 3000000 }) only [go_sem,zaf,Nat.reduceAdd,Nat.reduceSub,Nat.reduceMul,Int.reduceToNat,reduceCtorEq,↓reduceIte,Int.reducePow,Nat.reducePow,Int.reduceMod,Nat.reduceLeDiff,Int.reduceLE,Int.reduceNe,Int.reduceEq,Nat.reduceEqDiff,Nat.reduceLT,Nat.reduceBEq,ty,noS]
                 exact zbu 2 rfl
               · rw [hnn D.2.2.2]
                 simp (config := { maxSteps := 3000000 }) only [go_sem,zaf,Nat.reduceAdd,Nat.reduceSub,Nat.reduceMul,Int.reduceToNat,reduceCtorEq,↓reduceIte,Int.reducePow,Nat.reducePow,Int.reduceMod,Nat.reduceLeDiff,Int.reduceLE,Int.reduceNe,Int.reduceEq,Nat.reduceEqDiff,Nat.reduceLT,Nat.reduceBEq,ty,noS,hle,zab,zac,zam,zap,Int.toNat_natCast,Bool.not_true,Bool.not_false,d3,hs2,hxl,D]
                 repeat (first | refine And.intro (by omega) ?_ | refine And.intro ⟨by omega,by omega⟩ ?_)
                 refine ⟨_,Weak.refl _,?_⟩
                 simp (config := { maxSteps := 3000000 }) only [go_sem,zaf,Nat.reduceAdd,Nat.reduceSub,Nat.reduceMul,Int.reduceToNat,reduceCtorEq,↓reduceIte,Int.reducePow,Nat.reducePow,Int.reduceMod,Nat.reduceLeDiff,Int.reduceLE,Int.reduceNe,Int.reduceEq,Nat.reduceEqDiff,Nat.reduceLT,Nat.reduceBEq,ty,noS]
                 refine ⟨_,Weak.refl _,?_⟩
                 simp (config := { maxSteps := 3000000 }) only [go_sem,zaf,Nat.reduceAdd,Nat.reduceSub,Nat.reduceMul,Int.reduceToNat,reduceCtorEq,↓reduceIte,Int.reducePow,Nat.reducePow,Int.reduceMod,Nat.reduceLeDiff,Int.reduceLE,Int.reduceNe,Int.reduceEq,Nat.reduceEqDiff,Nat.reduceLT,Nat.reduceBEq,ty,noS]
                 exact zbu 2 rfl
               · rw [hnn D.2.2.2.2]
                 simp (config := { maxSteps := 3000000 }) only [go_sem,zaf,Nat.reduceAdd,Nat.reduceSub,Nat.reduceMul,Int.reduceToNat,reduceCtorEq,↓reduceIte,Int.reducePow,Nat.reducePow,Int.reduceMod,Nat.reduceLeDiff,Int.reduceLE,Int.reduceNe,Int.reduceEq,Nat.reduceEqDiff,Nat.reduceLT,Nat.reduceBEq,ty,noS,hle,zab,zac,zam,zap,Int.toNat_natCast,Bool.not_true,Bool.not_false,d3,hs2,hxl,D]
                 repeat (first | refine And.intro (by omega) ?_ | refine And.intro ⟨by omega,by omega⟩ ?_)
                 refine ⟨_,Weak.refl _,?_⟩
                 simp (config := { maxSteps := 3000000 }) only [go_sem,zaf,Nat.reduceAdd,Nat.reduceSub,Nat.reduceMul,Int.reduceToNat,reduceCtorEq,↓reduceIte,Int.reducePow,Nat.reducePow,Int.reduceMod,Nat.reduceLeDiff,Int.reduceLE,Int.reduceNe,Int.reduceEq,Nat.reduceEqDiff,Nat.reduceLT,Nat.reduceBEq,ty,noS]
                 refine ⟨_,Weak.refl _,?_⟩
                 simp (config := { maxSteps := 3000000 }) only [go_sem,zaf,Nat.reduceAdd,Nat.reduceSub,Nat.reduceMul,Int.reduceToNat,reduceCtorEq,↓reduceIte,Int.reducePow,Nat.reducePow,Int.reduceMod,Nat.reduceLeDiff,Int.reduceLE,Int.reduceNe,Int.reduceEq,Nat.reduceEqDiff,Nat.reduceLT,Nat.reduceBEq,ty,noS]
                 exact zbu 2 rfl
               · rw [hnn D.2.2.2.2.2]
                 simp (config := { maxSteps := 3000000 }) only [go_sem,zaf,Nat.reduceAdd,Nat.reduceSub,Nat.reduceMul,Int.reduceToNat,reduceCtorEq,↓reduceIte,Int.reducePow,Nat.reducePow,Int.reduceMod,Nat.reduceLeDiff,Int.reduceLE,Int.reduceNe,Int.reduceEq,Nat.reduceEqDiff,Nat.reduceLT,Nat.reduceBEq,ty,noS,hle,zab,zac,zam,zap,Int.toNat_natCast,Bool.not_true,Bool.not_false,d3,hs2,hxl,D]
                 repeat (first | refine And.intro (by omega) ?_ | refine And.intro ⟨by omega,by omega⟩ ?_)
                 refine ⟨_,Weak.refl _,?_⟩
                 simp (config := { maxSteps := 3000000 }) only [go_sem,zaf,Nat.reduceAdd,Nat.reduceSub,Nat.reduceMul,Int.reduceToNat,reduceCtorEq,↓reduceIte,Int.reducePow,Nat.reducePow,Int.reduceMod,Nat.reduceLeDiff,Int.reduceLE,Int.reduceNe,Int.reduceEq,Nat.reduceEqDiff,Nat.reduceLT,Nat.reduceBEq,ty,noS]
                 refine ⟨_,Weak.refl _,?_⟩
                 simp (config := { maxSteps := 3000000 }) only [go_sem,zaf,Nat.reduceAdd,Nat.reduceSub,Nat.reduceMul,Int.reduceToNat,reduceCtorEq,↓reduceIte,Int.reducePow,Nat.reducePow,Int.reduceMod,Nat.reduceLeDiff,Int.reduceLE,Int.reduceNe,Int.reduceEq,Nat.reduceEqDiff,Nat.reduceLT,Nat.reduceBEq,ty,noS]
                 exact zbu 2 rfl
               · rw [hnn D.2.2.2.2.2.2]
                 simp (config := { maxSteps := 3000000 }) only [go_sem,zaf,Nat.reduceAdd,Nat.reduceSub,Nat.reduceMul,Int.reduceToNat,reduceCtorEq,↓reduceIte,Int.reducePow,Nat.reducePow,Int.reduceMod,Nat.reduceLeDiff,Int.reduceLE,Int.reduceNe,Int.reduceEq,Nat.reduceEqDiff,Nat.reduceLT,Nat.reduceBEq,ty,noS,hle,zab,zac,zam,zap,Int.toNat_natCast,Bool.not_true,Bool.not_false,d3,hs2,hxl,D]
                 repeat (first | refine And.intro (by omega) ?_ | refine And.intro ⟨by omega,by omega⟩ ?_)
                 refine ⟨_,Weak.refl _,?_⟩
                 simp (config := { maxSteps := 3000000 }) only [go_sem,zaf,Nat.reduceAdd,Nat.reduceSub,Nat.reduceMul,Int.reduceToNat,reduceCtorEq,↓reduceIte,Int.reducePow,Nat.reducePow,Int.reduceMod,Nat.reduceLeDiff,Int.reduceLE,Int.reduceNe,Int.reduceEq,Nat.reduceEqDiff,Nat.reduceLT,Nat.reduceBEq,ty,noS]
                 refine ⟨_,Weak.refl _,?_⟩
                 simp (config := { maxSteps := 3000000 }) only [go_sem,zaf,Nat.reduceAdd,Nat.reduceSub,Nat.reduceMul,Int.reduceToNat,reduceCtorEq,↓reduceIte,Int.reducePow,Nat.reducePow,Int.reduceMod,Nat.reduceLeDiff,Int.reduceLE,Int.reduceNe,Int.reduceEq,Nat.reduceEqDiff,Nat.reduceLT,Nat.reduceBEq,ty,noS]
                 exact zbu 2 rfl
               · have hlt := D.2.2.2.2.2.2
                 simp (config := { maxSteps := 3000000 }) only [go_sem,zaf,Nat.reduceAdd,Nat.reduceSub,Nat.reduceMul,Int.reduceToNat,reduceCtorEq,↓reduceIte,Int.reducePow,Nat.reducePow,Int.reduceMod,Nat.reduceLeDiff,Int.reduceLE,Int.reduceNe,Int.reduceEq,Nat.reduceEqDiff,Nat.reduceLT,Nat.reduceBEq,ty,noS,hle,zab,zac,zam,zap,Int.toNat_natCast,Bool.not_true,Bool.not_false,d3,hs2,hxl,D,e2]
                 repeat (first | refine And.intro (by omega) ?_ | refine And.intro ⟨by omega,by omega⟩ ?_)
                 refine ⟨xl.length - (j + 1),_,by omega,zal [0,1,2,3,4,5] rfl rfl rfl ?_ ?_,j + 1,rfl,by omega,?_,rfl⟩
                 · simp only [ssT,zaq,zar,setSlot,gOf,AV.ren,renL,Blk.ren,Ax.look,Ax.put,reduceCtorEq,↓reduceIte,Nat.reduceEqDiff,Nat.reduceLT,Nat.reduceAdd,List.length_append,List.length_cons,List.length_nil,Option.some.injEq,zai,zax]; try simp
                 · simp only [ssT,zaq,zar,setSlot,gOf,AV.ren,renL,Blk.ren,Ax.look,Ax.put,reduceCtorEq,↓reduceIte,Nat.reduceEqDiff,Nat.reduceLT,Nat.reduceAdd,List.length_append,List.length_cons,List.length_nil,Option.some.injEq,zai,zax]; try simp
                 · rw [htk2]
                   intro y hy
                   rcases List.mem_append.1 hy with h | h
                   · exact hall2 y h
                   · obtain rfl := List.mem_singleton.1 h; exact hlt
             · have d3 : decide ((j : Int) < xl.length) = false := decide_eq_false (by omega)
               have hii : xl.take j = xl := List.take_of_length_le (by omega)
               rw [hii] at hall2
               simp (config := { maxSteps := 3000000 }) only [go_sem,zaf,Nat.reduceAdd,Nat.reduceSub,Nat.reduceMul,Int.reduceToNat,reduceCtorEq,↓reduceIte,Int.reducePow,Nat.reducePow,Int.reduceMod,Nat.reduceLeDiff,Int.reduceLE,Int.reduceNe,Int.reduceEq,Nat.reduceEqDiff,Nat.reduceLT,Nat.reduceBEq,ty,noS,hle,zab,zac,zam,zap,Int.toNat_natCast,Bool.not_true,Bool.not_false,d3,hxl,e1]
               refine ⟨_,Weak.refl _,?_⟩
               simp (config := { maxSteps := 3000000 }) only [go_sem,zaf,Nat.reduceAdd,Nat.reduceSub,Nat.reduceMul,Int.reduceToNat,reduceCtorEq,↓reduceIte,Int.reducePow,Nat.reducePow,Int.reduceMod,Nat.reduceLeDiff,Int.reduceLE,Int.reduceNe,Int.reduceEq,Nat.reduceEqDiff,Nat.reduceLT,Nat.reduceBEq,ty,noS,hle,zab,zac,zam,zap,Int.toNat_natCast,Bool.not_true,Bool.not_false,d3,hxl,e1]
               refine ⟨l.length - (i + 1),_,by omega,zal [0,1,2,3,4] rfl rfl rfl ?_ ?_,i + 1,rfl,by omega,?_,rfl⟩
               · simp only [ssT,zaq,zar,setSlot,gOf,AV.ren,renL,Blk.ren,Ax.look,Ax.put,reduceCtorEq,↓reduceIte,Nat.reduceEqDiff,Nat.reduceLT,Nat.reduceAdd,List.length_append,List.length_cons,List.length_nil,Option.some.injEq,zai,zax]; try simp
               · simp only [ssT,zaq,zar,setSlot,gOf,AV.ren,renL,Blk.ren,Ax.look,Ax.put,reduceCtorEq,↓reduceIte,Nat.reduceEqDiff,Nat.reduceLT,Nat.reduceAdd,List.length_append,List.length_cons,List.length_nil,Option.some.injEq,zai,zax]; try simp
               · rw [htk]
                 intro r hr
                 rcases List.mem_append.1 hr with h | h
                 · exact hall r h
                 · obtain rfl := List.mem_singleton.1 h
                   exact ⟨by simp only; omega,hall2⟩
       · have d1 : decide ((i : Int) < l.length) = false := decide_eq_false (by omega)
         have hii : l.take i = l := List.take_of_length_le (by omega)
         rw [hii] at hall
         have hyes : decide (zda l) = true := decide_eq_true ⟨by omega,hall⟩
         rw [hyes]
         simp (config := { maxSteps := 3000000 }) only [go_sem,zaf,Nat.reduceAdd,Nat.reduceSub,Nat.reduceMul,Int.reduceToNat,reduceCtorEq,↓reduceIte,Int.reducePow,Nat.reducePow,Int.reduceMod,Nat.reduceLeDiff,Int.reduceLE,Int.reduceNe,Int.reduceEq,Nat.reduceEqDiff,Nat.reduceLT,Nat.reduceBEq,ty,noS,hle,zab,zac,zam,zap,Int.toNat_natCast,Bool.not_true,Bool.not_false,d1]
         refine ⟨_,Weak.refl _,?_⟩
         simp (config := { maxSteps := 3000000 }) only [go_sem,zaf,Nat.reduceAdd,Nat.reduceSub,Nat.reduceMul,Int.reduceToNat,reduceCtorEq,↓reduceIte,Int.reducePow,Nat.reducePow,Int.reduceMod,Nat.reduceLeDiff,Int.reduceLE,Int.reduceNe,Int.reduceEq,Nat.reduceEqDiff,Nat.reduceLT,Nat.reduceBEq,ty,noS]
         exact zbu 2 rfl
 · exact hp.elim
end
end Go.Proofs.Ytgpcnmajkcfgiaa
namespace Go.Proofs.Ytgpcnmajkcfgiaa
open Ax
def asks13S : zay
 | [.agg [.sg 3 xs f],.agg [.w (.int .i64 b),.w (.int .i64 c),.w (.int .i64 p),.w (.int .i64 e),.w (.int .i64 s),.sg 6 qs h]],[] => ⟨(xs.length ≤ 9223372036854775807 ∧ ∃ l : List En,xs = l.map enA ∧ ∀ r ∈ l,r.l.length ≤ 9223372036854775807) ∧ qs.length ≤ 9223372036854775807 ∧ ∃ rs : List Rec,qs = rs.map rv,.w (.bool true),[]⟩
 | _,_ => zcr
def Sas13 (f : FuncId) : Option zay :=
 match f with
 | 9 => some yesS
 | 7 => some ltTS
 | 8 => some blightS4
 | 10 => some cpT13S
 | 17 => some cpT13S
 | 11 => some askS
 | 12 => some raskS
 | 13 => some pubS
 | 18 => some rput13S
 | 14 => some fndS13
 | 15 => some zdv
 | 16 => some smTS
 | _ => none
theorem Sas13_ok : Fns Try.prog Sas13 := by
 intro f s h
 unfold Sas13 at h
 split at h
 · injection h with h; subst h; exact ⟨⟨_,Try.func9,by kernel_rfl,by kernel_rfl⟩,aw13_sound⟩
 · injection h with h; subst h; exact ⟨⟨_,Try.func7,by kernel_rfl,by kernel_rfl⟩,ltT_sound⟩
 · injection h with h; subst h; exact ⟨⟨_,Try.func8,by kernel_rfl,by kernel_rfl⟩,blight4_sound⟩
 · injection h with h; subst h; exact ⟨⟨_,Try.func10,by kernel_rfl,by kernel_rfl⟩,own13_sound⟩
 · injection h with h; subst h; exact ⟨⟨_,Try.func17,by kernel_rfl,by kernel_rfl⟩,as13_sound⟩
 · injection h with h; subst h; exact ⟨⟨_,Try.func11,by kernel_rfl,by kernel_rfl⟩,ask_sound⟩
 · injection h with h; subst h; exact ⟨⟨_,Try.func12,by kernel_rfl,by kernel_rfl⟩,rask_sound⟩
 · injection h with h; subst h; exact ⟨⟨_,Try.func13,by kernel_rfl,by kernel_rfl⟩,pub_sound⟩
 · injection h with h; subst h; exact ⟨⟨_,Try.func18,by kernel_rfl,by kernel_rfl⟩,rput13_sound⟩
 · injection h with h; subst h; exact ⟨⟨_,Try.func14,by kernel_rfl,by kernel_rfl⟩,fnd_sound⟩
 · injection h with h; subst h; exact ⟨⟨_,Try.func15,by kernel_rfl,by kernel_rfl⟩,rfnd_sound⟩
 · injection h with h; subst h; exact ⟨⟨_,Try.func16,by kernel_rfl,by kernel_rfl⟩,smT_sound⟩
 · cases h
def asPl13 : Plan := fun id => match id with
 | 9 => some [(15,16),(15,17),(23,24)]
 | _ => none
section
set_option maxRecDepth 100000
set_option maxHeartbeats 16000000
theorem asks13_law : zbx Try.prog 3 asks13S := by
 refine fn_soundF (S := Sas13) (T := ty) (pl := asPl13) zcu ty_ok Sas13_ok Try.func3 (c := Try.f3.body.getD .skip) (by kernel_rfl) (by kernel_rfl) (fun xs pins hp _ => ?_)
 unfold asks13S at hp ⊢
 split at hp
 · rename_i xs f b c p e s qs h _
   obtain ⟨⟨hL,l,rfl,hi⟩,hR,rs,rfl⟩ := hp
   rw [List.length_map] at hL hR
   have hlen : (l.map enA).length = l.length := by simp
   have hrl : (rs.map rv).length = rs.length := by simp
   have hxr : ∃ k : List Rec,rs.map rv = k.map rv := ⟨rs,rfl⟩
   have hxl : ∃ k : List En,l.map enA = k.map enA ∧ ∀ r ∈ k,r.l.length ≤ 9223372036854775807 := ⟨l,rfl,hi⟩
   have cR : ∀ (l : List En) f,coe ty 22 (.sg 3 (l.map enA) f) = .sg 3 (l.map enA) f := fun l f => by cases l <;> rfl
   have c6 : ∀ (l : List Rec) f,coe ty 25 (.sg 6 (l.map rv) f) = .sg 6 (l.map rv) f := fun l f => by cases l <;> rfl
   refine ⟨by simp,?_⟩
   unfold Try.f3
   by_cases hl : zda l
   · have dl : decide (zda l) = true := decide_eq_true hl
     by_cases hb : rs.length ≤ 40 ∧ ∀ r ∈ rs,lightR r
     · have db : decide (rs.length ≤ 40 ∧ ∀ r ∈ rs,lightR r) = true := decide_eq_true hb
       have hok : okL l := ⟨by have := hl.1; omega,fun r hr => by have := (hl.2 r hr).1; omega⟩
       have hokN : okN 20 l := ⟨hl.1,hok.2⟩
       have x1 : ∃ k : List En,l.map enA = k.map enA ∧ okL k := ⟨l,rfl,hok⟩
       have x2 : ∃ k : List En,l.map enA = k.map enA ∧ zda k := ⟨l,rfl,hl⟩
       have x3 : ∃ k : List En,l.map enA = k.map enA := ⟨l,rfl⟩
       obtain ⟨X,hX⟩ : ∃ X,askF l c p e s = X := ⟨_,rfl⟩
       obtain ⟨Xa,Xd,Xe⟩ := X
       have hQ := okN_ok (okN_put hokN b c p e s) (by decide)
       obtain ⟨Q,hQe⟩ : ∃ Q,putF l b c p e s = Q := ⟨_,rfl⟩
       rw [hQe] at hQ
       have x4 : ∃ k : List En,Q.map enA = k.map enA ∧ okL k := ⟨Q,rfl,hQ⟩
       have y1 : decide (Q = Q) = true := decide_eq_true rfl
       have y2 : decide (l = l) = true := decide_eq_true rfl
       have y3 : ∀ m : Int,decide (m = m) = true := fun m => decide_eq_true rfl
       have y4 : ∀ m : Bool,decide (m = m) = true := fun m => decide_eq_true rfl
       obtain ⟨G,hG⟩ : ∃ G,(bif decide (p = 0) then f else false) = G := ⟨_,rfl⟩
       by_cases hf : l.findIdx (isI p) < l.length
       · obtain ⟨r,hr⟩ : ∃ r,entI l (l.findIdx (isI p)) = r := ⟨_,rfl⟩
         obtain ⟨i1,e1,l1⟩ := r
         have hfn : fndA l p = .tup [.agg [.w (.int .i64 i1),.w (.int .i64 e1),.sg 3 (l1.map seA) false],.w (.bool true)] := by unfold fndA; rw [if_pos hf,hr]; rfl
         have hl1 : (l1.map seA).length = l1.length := by simp
         simp (config := { maxSteps := 3000000 }) only [go_sem,zad,Nat.reduceAdd,Nat.reduceSub,Nat.reduceMul,Int.reduceToNat,reduceCtorEq,↓reduceIte,Int.reducePow,Nat.reducePow,Int.reduceMod,Nat.reduceLeDiff,Int.reduceLE,Int.reduceNe,Int.reduceEq,Nat.reduceEqDiff,Nat.reduceLT,Nat.reduceBEq,List.map_cons,List.map_nil,List.toList_toArray,Array.toList_append,Option.toArray_some,Option.toArray_none,Bool.and_self,ty,Sas13,asPl13,yesS,ltTS,blightS4,cpT13S,askS,raskS,pubS,rput13S,fndS13,zdv,smTS,anA,cR,zcb,c6,hrl,hxr,hlen,hxl,zak,map_rrec,zab,zac,closed_rv,dl,db,hL,hR,x1,x2,x3,x4,hX,hQe,y1,y2,y3,y4,hG,hfn,hl1,Bool.not_true,Bool.not_false]
         trace_state
         exact zbu 4 rfl
       · have hfn : fndA l p = .tup [.agg [.w (.int .i64 0),.w (.int .i64 0),.sg 3 [] true],.w (.bool false)] := by unfold fndA; rw [if_neg hf]
         simp (config := { maxSteps := 3000000 }) only [go_sem,zad,Nat.reduceAdd,Nat.reduceSub,Nat.reduceMul,Int.reduceToNat,reduceCtorEq,↓reduceIte,Int.reducePow,Nat.reducePow,Int.reduceMod,Nat.reduceLeDiff,Int.reduceLE,Int.reduceNe,Int.reduceEq,Nat.reduceEqDiff,Nat.reduceLT,Nat.reduceBEq,List.map_cons,List.map_nil,List.toList_toArray,Array.toList_append,Option.toArray_some,Option.toArray_none,Bool.and_self,ty,Sas13,asPl13,yesS,ltTS,blightS4,cpT13S,askS,raskS,pubS,rput13S,fndS13,zdv,smTS,anA,cR,zcb,c6,hrl,hxr,hlen,hxl,zak,map_rrec,zab,zac,closed_rv,dl,db,hL,hR,x1,x2,x3,x4,hX,hQe,y1,y2,y3,y4,hG,hfn,Bool.not_true,Bool.not_false]
         exact zbu 4 rfl
     · have db : decide (rs.length ≤ 40 ∧ ∀ r ∈ rs,lightR r) = false := decide_eq_false hb
       simp (config := { maxSteps := 3000000 }) only [go_sem,zad,Nat.reduceAdd,Nat.reduceSub,Nat.reduceMul,Int.reduceToNat,reduceCtorEq,↓reduceIte,Int.reducePow,Nat.reducePow,Int.reduceMod,Nat.reduceLeDiff,Int.reduceLE,Int.reduceNe,Int.reduceEq,Nat.reduceEqDiff,Nat.reduceLT,Nat.reduceBEq,List.map_cons,List.map_nil,List.toList_toArray,Array.toList_append,Option.toArray_some,Option.toArray_none,Bool.and_self,ty,Sas13,asPl13,yesS,ltTS,blightS4,cpT13S,askS,raskS,pubS,rput13S,fndS13,zdv,smTS,anA,cR,zcb,c6,hrl,hxr,hlen,hxl,zak,map_rrec,zab,zac,closed_rv,dl,db,hL,hR,Bool.not_true,Bool.not_false]
       exact zbu 4 rfl
   · have dl : decide (zda l) = false := decide_eq_false hl
     have db : True := trivial
     simp (config := { maxSteps := 3000000 }) only [go_sem,zad,Nat.reduceAdd,Nat.reduceSub,Nat.reduceMul,Int.reduceToNat,reduceCtorEq,↓reduceIte,Int.reducePow,Nat.reducePow,Int.reduceMod,Nat.reduceLeDiff,Int.reduceLE,Int.reduceNe,Int.reduceEq,Nat.reduceEqDiff,Nat.reduceLT,Nat.reduceBEq,List.map_cons,List.map_nil,List.toList_toArray,Array.toList_append,Option.toArray_some,Option.toArray_none,Bool.and_self,ty,Sas13,asPl13,yesS,ltTS,blightS4,cpT13S,askS,raskS,pubS,rput13S,fndS13,zdv,smTS,anA,cR,zcb,c6,hrl,hxr,hlen,hxl,zak,map_rrec,zab,zac,closed_rv,dl,db,hL,hR,Bool.not_true,Bool.not_false]
     exact zbu 4 rfl
 · exact hp.elim
end
end Go.Proofs.Ytgpcnmajkcfgiaa
namespace Go.Proofs.Ytgpcnmajkcfgiaa
open Ax
theorem told13 {P : Program} {f : FuncId} {spec spec' : zay} (h : zbx P f spec)
   (hw : ∀ xs pins,(spec' xs pins).p → ∃ xs',(spec xs' pins).p ∧ (spec' xs pins).x = (spec xs' pins).x ∧ (spec' xs pins).bl = (spec xs' pins).bl ∧ xs'.length = xs.length ∧
     ∀ (w : World) (loc : Ax.Loc) (vs : List Value),(∀ (j : Nat) (h : j < xs.length) (h' : j < vs.length),R w loc xs[j] vs[j]) → ∀ (j : Nat) (h : j < xs'.length) (h' : j < vs.length),R w loc xs'[j] vs[j]) : zbx P f spec' := by
 intro xs pins hp hcl w bad pb vs h1 h2 h3 h4 h5 h6
 obtain ⟨xs',hp',hx,hb,hlen,hR⟩ := hw xs pins hp
 refine (h xs' pins hp' hcl w bad pb vs h1 h2 h3 h4 (hlen.trans h5) (hR w _ vs h6)).mono ?_
 rintro e w' ⟨v,loc',rfl,g⟩
 refine ⟨v,loc',rfl,?_⟩
 generalize spec' xs pins = q' at hx hb
 generalize spec xs' pins = q at hx hb g
 obtain ⟨p',x',bl'⟩ := q'
 obtain ⟨p,x,bl⟩ := q
 simp only at hx hb
 subst hx hb
 exact ⟨g.r,g.bad,g.bl,g.old,g.new,g.none,g.inj,g.fram⟩
def enp (x : En × Bool) : AV := .agg [.w (.int .i64 x.1.i),.w (.int .i64 x.1.e),.sg 3 (x.1.l.map seA) x.2]
def Lets (a b : AV) : Prop := (a.leaf = true → b.leaf = true) ∧ (a.closed = true → b.closed = true) ∧ ∀ (w : World) (loc : Ax.Loc) (v : Value),R w loc a v → R w loc b v
theorem Lets.refl (a : AV) : Lets a a := ⟨id,id,fun _ _ _ => id⟩
theorem lets_sg (s : Nat) (xs : List AV) (f : Bool) : Lets (.sg s xs f) (.sg s xs false) := by
 refine ⟨fun h => h,fun h => h,fun w loc v h => ?_⟩
 cases f with
 | false => exact h
 | true =>
   cases h with
   | sg _ _ _ a cap cs hd hs hc hl hx hh => exact .sg s xs false a cap cs ⟨hd.le,hd.top,fun h => by cases h⟩ hs hc hl hx hh
theorem lv_len : ∀ es : List (En × Bool),((es.map enp).flatMap AV.leaves).length = (((es.map Prod.fst).map enA).flatMap AV.leaves).length
 | [] => rfl
 | x :: es => by
   have := lv_len es
   simp only [List.map_cons,List.flatMap_cons,List.length_append,this]
   rfl
theorem lv_lets : ∀ (es : List (En × Bool)) (j : Nat) (h : j < ((es.map enp).flatMap AV.leaves).length) (h' : j < (((es.map Prod.fst).map enA).flatMap AV.leaves).length),Lets ((es.map enp).flatMap AV.leaves)[j] (((es.map Prod.fst).map enA).flatMap AV.leaves)[j]
 | x :: es,0,_,_ => Lets.refl _
 | x :: es,1,_,_ => Lets.refl _
 | x :: es,2,_,_ => lets_sg 3 _ _
 | x :: es,j + 3,h,h' => lv_lets es j (by
     have : ((x :: es).map enp).flatMap AV.leaves = [.w (.int .i64 x.1.i),.w (.int .i64 x.1.e),.sg 3 (x.1.l.map seA) x.2] ++ (es.map enp).flatMap AV.leaves := rfl
     rw [this,List.length_append] at h
     simp only [List.length_cons,List.length_nil] at h; omega) (by
     have : (((x :: es).map Prod.fst).map enA).flatMap AV.leaves = [.w (.int .i64 x.1.i),.w (.int .i64 x.1.e),.sg 3 (x.1.l.map seA) false] ++ ((es.map Prod.fst).map enA).flatMap AV.leaves := rfl
     rw [this,List.length_append] at h'
     simp only [List.length_cons,List.length_nil] at h'; omega)
theorem enp_R {w : World} {loc : Ax.Loc} {v : Value} {es : List (En × Bool)} {f : Bool} (h : R w loc (.sg 3 (es.map enp) f) v) : R w loc (.sg 3 ((es.map Prod.fst).map enA) f) v := by
 have hlen : (es.map enp).length = ((es.map Prod.fst).map enA).length := by simp
 cases h with
 | sg _ _ _ a cap cs hd hs hc hl hx hh =>
   rw [hlen]
   refine .sg 3 _ f a cap cs (by rw [← hlen]; exact hd) (fun x hxm => ?_) hc (by rw [← lv_len]; exact hl) (fun j h => ?_) (fun j h h' => ?_)
   · obtain ⟨r,_,rfl⟩ := List.mem_map.1 hxm
     rfl
   · have hj : j < ((es.map enp).flatMap AV.leaves).length := by rw [lv_len]; exact h
     have := lv_lets es j hj h
     exact ⟨this.1 (hx j hj).1,this.2.1 (hx j hj).2⟩
   · have hj : j < ((es.map enp).flatMap AV.leaves).length := by rw [lv_len]; exact h
     exact (lv_lets es j hj h).2.2 _ _ _ (hh j hj h')
theorem tbl_R {w : World} {loc : Ax.Loc} {v : Value} {es : List (En × Bool)} {f : Bool} (h : R w loc (.agg [.sg 3 (es.map enp) f]) v) : R w loc (.agg [.sg 3 ((es.map Prod.fst).map enA) f]) v := by
 cases h with
 | agg _ cs hl hx hh =>
   refine .agg _ cs hl (fun j h => ?_) (fun j h h' => ?_)
   · obtain rfl : j = 0 := by simp at h; omega
     rfl
   · obtain rfl : j = 0 := by simp at h; omega
     exact enp_R (hh 0 (by simp) h')
def asksTS : zay
 | [.agg [.sg 3 xs f],.agg [.w (.int .i64 b),.w (.int .i64 c),.w (.int .i64 p),.w (.int .i64 e),.w (.int .i64 s),.sg 6 qs h]],[] => ⟨(xs.length ≤ 9223372036854775807 ∧ ∃ es : List (En × Bool),xs = es.map enp ∧ ∀ r ∈ es,r.1.l.length ≤ 9223372036854775807) ∧ qs.length ≤ 9223372036854775807 ∧ ∃ rs : List Rec,qs = rs.map rv,.w (.bool true),[]⟩
 | _,_ => zcr
theorem asksT_law : zbx Try.prog 3 asksTS := by
 refine told13 asks13_law ?_
 intro xs pins hp
 unfold asksTS at hp ⊢
 split at hp
 · rename_i ys f b c p e s qs h
   obtain ⟨⟨hL,es,rfl,hes⟩,hR,hrs⟩ := hp
   refine ⟨[.agg [.sg 3 ((es.map Prod.fst).map enA) f],.agg [.w (.int .i64 b),.w (.int .i64 c),.w (.int .i64 p),.w (.int .i64 e),.w (.int .i64 s),.sg 6 qs h]],?_,rfl,rfl,rfl,?_⟩
   · refine ⟨⟨by simpa using hL,es.map Prod.fst,rfl,fun r hr => ?_⟩,hR,hrs⟩
     obtain ⟨x,hx,rfl⟩ := List.mem_map.1 hr
     exact hes x hx
   · intro w loc vs hv j hj hj'
     match j,hj with
     | 0,_ => exact tbl_R (hv 0 (by simp) hj')
     | 1,_ => exact hv 1 (by simp) hj'
 · exact hp.elim
theorem all_se13 : ∀ (xs : List AV),(∀ x ∈ xs,∃ r : Se,x = seA r) → ∃ rs : List Se,xs = rs.map seA
 | [],_ => ⟨[],rfl⟩
 | x :: xs,h => by
   obtain ⟨r,rfl⟩ := h x (by simp)
   obtain ⟨rs,rfl⟩ := all_se13 xs (fun y hy => h y (by simp [hy]))
   exact ⟨r :: rs,rfl⟩
theorem all_enp13 : ∀ (xs : List AV),(∀ x ∈ xs,∃ p : En × Bool,x = enp p ∧ p.1.l.length ≤ 9223372036854775807) → ∃ es : List (En × Bool),xs = es.map enp ∧ ∀ p ∈ es,p.1.l.length ≤ 9223372036854775807
 | [],_ => ⟨[],rfl,by simp⟩
 | x :: xs,h => by
   obtain ⟨p,rfl,hp⟩ := h x (by simp)
   obtain ⟨es,rfl,he⟩ := all_enp13 xs (fun y hy => h y (by simp [hy]))
   refine ⟨p :: es,rfl,?_⟩
   intro q hq
   rcases List.mem_cons.1 hq with rfl | hq
   · exact hp
   · exact he q hq
theorem arg_tbl13 {j : Nat} {x : AV} (h : Arg ty (j + 7) 24 x) : ∃ (es : List (En × Bool)) (f : Bool),x = .agg [.sg 3 (es.map enp) f] ∧ es.length ≤ 9223372036854775807 ∧ ∀ p ∈ es,p.1.l.length ≤ 9223372036854775807 := by
 obtain ⟨i,ls,hi,hs,rfl⟩ := h
 simp only [ty] at hi
 injection hi with hi
 subst hi
 simp only [Shape,ty,ShapeF,isFlatI] at hs
 obtain ⟨l2,r2,rfl,⟨xs,f1,rfl,hx,hxs⟩,rfl⟩ := hs
 have hm : maxLen = 9223372036854775807 := by decide
 obtain ⟨es,rfl,hes⟩ := all_enp13 xs (fun x hxm => by
   obtain ⟨l,⟨k1,s1,rfl,⟨n1,rfl,v1⟩,k2,s2,rfl,⟨n2,rfl,v2⟩,k6,s6,rfl,⟨ys,f,rfl,hl,hy⟩,rfl⟩,_,rfl⟩ := hxs x hxm
   obtain ⟨rs,rfl⟩ := all_se13 ys (fun y hym => by
     obtain ⟨l,⟨l1,r1,rfl,⟨m1,rfl,w1⟩,l2,r2,rfl,⟨m2,rfl,w2⟩,l3,r3,rfl,⟨m3,rfl,w3⟩,rfl⟩,_,rfl⟩ := hy y hym
     exact ⟨⟨m1,m2,m3⟩,rfl⟩)
   rw [List.length_map] at hl
   exact ⟨⟨⟨n1,n2,rs⟩,f⟩,rfl,by simp only; omega⟩)
 rw [List.length_map] at hx
 exact ⟨es,f1,rfl,by omega,hes⟩
theorem asksT_dom {x y : AV} (hx : Arg ty 9 24 x) (hy : Arg ty 9 27 y) : (asksTS [x,y] []).p ∧ (asksTS [x,y] []).x = .w (.bool true) := by
 obtain ⟨es,f,rfl,hL,hes⟩ := arg_tbl13 (j := 2) hx
 obtain ⟨⟨b,c,p,e,s,rs⟩,g,rfl,h3⟩ := arg_bat13 (j := 3) hy
 exact ⟨⟨⟨by rw [List.length_map]; exact hL,es,rfl,hes⟩,by rw [List.length_map]; exact h3,rs,rfl⟩,rfl⟩
end Go.Proofs.Ytgpcnmajkcfgiaa
