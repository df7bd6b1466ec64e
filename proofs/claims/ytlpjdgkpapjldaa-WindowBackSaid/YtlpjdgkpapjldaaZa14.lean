/- What the proofs of this seat stand on; it asks nothing. -/
import Derived.Test.YtlpjdgkpapjldaaZa13
set_option linter.unusedSimpArgs false
set_option linter.unusedVariables false
namespace Go.Proofs.Ytlpjdgkpapjldaa
open Ax
def fedA (x : List UInt8 × Int × Int) : AV := .agg [.str x.1,.w (.int .i64 x.2.1),.w (.int .i64 x.2.2)]
theorem slot_fed : ∀ (ps : List (List UInt8 × Int × Int)) (i : Nat) (h : i < ps.length),slot (ps.map fedA) i = fedA ps[i]
 | p :: ps,0,h => rfl
 | p :: ps,i + 1,h => by
   simp only [List.map_cons,slot,List.getElem_cons_succ]
   exact slot_fed ps i (by simpa using h)
theorem put_small {Z L M D : Int} {l : List WS} (h : chW Z L M D l = 0) : (layW Z L M D l).length ≤ 1000000 := by
 obtain ⟨b1,b2,b3,b4,b5,b6⟩ := chW_ok h
 have h1 := layW_length l b6
 have p1 := zat Z (by omega)
 have p2 := zat L (by omega)
 have p3 := zat M (by omega)
 have p4 := zat D (by omega)
 have p5 := zat (l.length : Int) (by omega)
 have : 130 * l.length ≤ 130 * 256 := Nat.mul_le_mul_left _ b5
 unfold layW layWH
 simp only [List.length_append]
 omega
theorem new_ok {z : Int} (h0 : 0 ≤ z) (h1 : z < 256) : chW (1 + z) 7 (-1) 0 [] = 0 :=
 ch_iff.2 ⟨⟨by omega,by omega,by omega,by omega,by simp⟩,by simp,rfl⟩
def wbackS : zan
 | [.w (.int .u8 z),.sg 3 xs f,.w (.int .u8 cut)],[] => ⟨(xs.length ≤ 9223372036854775807 ∧ ∃ l : List (List UInt8 × Int × Int),xs = l.map fedA) ∧ (0 ≤ z ∧ z < 256) ∧ 0 ≤ cut ∧ cut < 256,.w (.bool true),[]⟩
 | _,_ => zbv
def Swb35 (f : FuncId) : Option zan :=
 match f with
 | 7 => some yesS
 | 13 => some newS35
 | 22 => some putWS
 | 23 => some getWS
 | 24 => some same35S
 | 9 => some feedS35
 | _ => none
theorem Swb35_ok : Fns Try.prog Swb35 := by
 intro f s h
 unfold Swb35 at h
 split at h
 · injection h with h; subst h; exact ⟨⟨_,Try.func7,by kernel_rfl,by kernel_rfl⟩,aw35_sound⟩
 · injection h with h; subst h; exact ⟨⟨_,Try.func13,by kernel_rfl,by kernel_rfl⟩,new35_sound⟩
 · injection h with h; subst h; exact ⟨⟨_,Try.func22,by kernel_rfl,by kernel_rfl⟩,putW_sound⟩
 · injection h with h; subst h; exact ⟨⟨_,Try.func23,by kernel_rfl,by kernel_rfl⟩,getW_sound⟩
 · injection h with h; subst h; exact ⟨⟨_,Try.func24,by kernel_rfl,by kernel_rfl⟩,wsame35_sound⟩
 · injection h with h; subst h; exact ⟨⟨_,Try.func9,by kernel_rfl,by kernel_rfl⟩,feed35_sound⟩
 · cases h
def zez : Plan := fun id => match id with
 | 18 => some [(16,21)]
 | 19 => some [(16,21)]
 | 23 => some [(1,2)]
 | _ => none
section
set_option maxRecDepth 100000
set_option maxHeartbeats 32000000 in
theorem wback_law : zbf Try.prog 5 wbackS := by
 refine fn_soundF (S := Swb35) (T := ty) (pl := zez) zbo ty_ok Swb35_ok Try.func5 (c := Try.f5.body.getD .skip) (by kernel_rfl) (by kernel_rfl) (fun xs pins hp _ => ?_)
 unfold wbackS at hp ⊢
 split at hp
 · rename_i z xs f cut _
   obtain ⟨⟨hL,l,rfl⟩,⟨z0,z1⟩,c0,c1⟩ := hp
   rw [List.length_map] at hL
   have hle : (l.map fedA).length = l.length := by simp
   have wz : (z + 9223372036854775808) % 18446744073709551616 - 9223372036854775808 = z := by omega
   have wz1 : (1 + z + 9223372036854775808) % 18446744073709551616 - 9223372036854775808 = 1 + z := by omega
   have wc : (cut + 9223372036854775808) % 18446744073709551616 - 9223372036854775808 = cut := by omega
   refine ⟨by simp,?_⟩
   unfold Try.f5
   by_cases h40 : 40 < l.length
   · have d40 : decide ((40 : Int) < (l.length : Int)) = true := decide_eq_true (by omega)
     simp only [go_sem,zad,Nat.reduceAdd,Nat.reduceSub,Nat.reduceMul,Int.reduceToNat,reduceCtorEq,↓reduceIte,Int.reducePow,Nat.reducePow,Int.reduceMod,Nat.reduceLeDiff,Int.reduceLE,Int.reduceNe,Int.reduceEq,Nat.reduceEqDiff,Nat.reduceLT,Nat.reduceBEq,List.map_cons,List.map_nil,List.toList_toArray,Array.toList_append,Option.toArray_some,Option.toArray_none,Bool.and_self,ty,Swb35,zez,yesS,hle,d40,Bool.not_true,Bool.not_false]
     exact zbe 6 rfl
   · have d40 : decide ((40 : Int) < (l.length : Int)) = false := decide_eq_false (by omega)
     have hnw : newV (1 + z) 7 = .tup [.agg [.w (.int .i64 (1 + z)),.w (.int .i64 7),.w (.int .i64 (-1)),.w (.int .i64 0),.sg 6 [] true],.w (.int .i64 0)] := by
       unfold newV; rw [if_pos (new_ok z0 z1)]
     simp only [go_sem,zad,Nat.reduceAdd,Nat.reduceSub,Nat.reduceMul,Int.reduceToNat,reduceCtorEq,↓reduceIte,Int.reducePow,Nat.reducePow,Int.reduceMod,Nat.reduceLeDiff,Int.reduceLE,Int.reduceNe,Int.reduceEq,Nat.reduceEqDiff,Nat.reduceLT,Nat.reduceBEq,List.map_cons,List.map_nil,List.toList_toArray,Array.toList_append,Option.toArray_some,Option.toArray_none,Bool.and_self,ty,Swb35,zez,yesS,newS35,hnw,hle,d40,wz,wz1,decide_true,Bool.not_true,Bool.not_false]
     refine awpF_loopW ⟨fun m σ => ∃ (i : Nat) (Z L M D : Int) (o : List WS) (g h : Bool),m = l.length - i ∧ i ≤ l.length ∧ chW Z L M D o = 0 ∧
       σ = ⟨[.w (.int .u8 z),.sg 3 (l.map fedA) f,.w (.int .u8 cut),.junk,.junk,.junk,.w (.bool false),.rf 4 5 0 0,.junk,.rf 5 5 0 0,.w (.int .i64 i),.junk,.junk,.junk,.junk,.junk,.junk,.junk,.junk,.junk,.junk,.junk,.junk,.junk,.junk,.junk,.junk,.junk,.junk,.junk,.junk,.junk,.junk,.junk,.junk,.junk,.junk,.junk,.junk,.junk,.junk,.junk,.junk,.junk,.junk,.junk,.junk,.junk,.junk,.junk,.junk,.junk,.junk,.junk,.junk,.junk,.junk,.junk,.junk,.junk,.junk,.junk,.junk,.junk,.junk,.junk,.junk,.junk,.junk,.junk,.junk,.junk,.junk,.junk,.junk,.junk,.junk,.junk,.junk,.junk,.junk,.junk,.junk,.junk,.junk,.junk,.junk,.junk,.junk,.junk,.junk,.junk,.junk,.junk,.junk,.junk,.junk,.junk,.junk,.junk,.junk,.junk,.junk,.junk,.junk,.junk,.junk,.junk,.junk,.junk,.junk,.junk,.junk,.junk,.junk,.junk,.junk,.junk,.junk,.junk,.junk,.junk,.junk,.junk,.junk,.junk,.junk,.junk,.junk,.junk,.junk,.junk,.junk,.junk,.junk,.junk,.junk,.junk],
         [(4,.g 5 [.agg [.w (.int .i64 Z),.w (.int .i64 L),.w (.int .i64 M),.w (.int .i64 D),.sg 6 (o.map wsA) g]]),(5,.g 5 [.agg [.w (.int .i64 Z),.w (.int .i64 L),.w (.int .i64 M),.w (.int .i64 D),.sg 6 (o.map wsA) h]])],6⟩,?_,?_⟩
     · refine ⟨_,_,zao [0,1,2,3,92,140] rfl rfl rfl ?_ ?_,0,1 + z,7,-1,0,[],true,true,rfl,by omega,new_ok z0 z1,rfl⟩
       · simp only [ssT,zav,zaw,setSlot,gOf,AV.ren,renL,Blk.ren,Ax.look,Ax.put,reduceCtorEq,↓reduceIte,Nat.reduceEqDiff,Nat.reduceLT,Nat.reduceAdd,List.length_append,List.length_cons,List.length_nil,Option.some.injEq]; try simp
       · simp only [ssT,zav,zaw,setSlot,gOf,AV.ren,renL,Blk.ren,Ax.look,Ax.put,reduceCtorEq,↓reduceIte,Nat.reduceEqDiff,Nat.reduceLT,Nat.reduceAdd,List.length_append,List.length_cons,List.length_nil,Option.some.injEq]; try simp
     · rintro m σ ⟨i,Z,L,M,D,o,g,h,rfl,hi,hch,rfl⟩
       have e1 : ((i : Int) + 1 + 9223372036854775808) % 18446744073709551616 - 9223372036854775808 = ((i + 1 : Nat) : Int) := by omega
       obtain ⟨oZ,oL,oM,oD,ol,hris,hrow⟩ := ch_ok hch
       have hoe : (o.map wsA).length = o.length := by simp
       have ho6 : o.length ≤ 1000000 := by omega
       have ho9 : o.length ≤ 9223372036854775807 := by omega
       have xo : ∃ q : List WS,o.map wsA = q.map wsA := ⟨o,rfl⟩
       have cs : ∀ (l : List WS) f,coe ty 29 (.sg 6 (l.map wsA) f) = .sg 6 (l.map wsA) f := fun l f => by cases l <;> rfl
       have hmm : ∀ m : Int,decide (m = m) = true := fun m => decide_eq_true rfl
       have hkk : ∀ j : List WS,decide (j = j) = true := fun j => decide_eq_true rfl
       by_cases hil : i < l.length
       · have d1 : decide ((i : Int) < l.length) = true := decide_eq_true (by omega)
         have hs1 := slot_fed l i hil
         obtain ⟨r,hr⟩ : ∃ r,l[i] = r := ⟨_,rfl⟩
         rw [hr] at hs1
         obtain ⟨k,t,n⟩ := r
         have hs1 : slot (l.map fedA) i = .agg [.str k,.w (.int .i64 t),.w (.int .i64 n)] := hs1
         by_cases hk : 100 < k.length
         · have dk : decide ((100 : Int) < (k.length : Int)) = true := decide_eq_true (by omega)
           simp only [go_sem,zad,Nat.reduceAdd,Nat.reduceSub,Nat.reduceMul,Int.reduceToNat,reduceCtorEq,↓reduceIte,Int.reducePow,Nat.reducePow,Int.reduceMod,Nat.reduceLeDiff,Int.reduceLE,Int.reduceNe,Int.reduceEq,Nat.reduceEqDiff,Nat.reduceLT,Nat.reduceBEq,List.map_cons,List.map_nil,List.toList_toArray,Array.toList_append,Option.toArray_some,Option.toArray_none,Bool.and_self,ty,Swb35,zez,yesS,hle,d1,hs1,dk,Int.toNat_natCast,Bool.not_true,Bool.not_false]
           repeat (refine And.intro (by omega) ?_)
           refine ⟨_,Weak.refl _,?_⟩
           simp only [go_sem,zad,Nat.reduceAdd,Nat.reduceSub,Nat.reduceMul,Int.reduceToNat,reduceCtorEq,↓reduceIte,Int.reducePow,Nat.reducePow,Int.reduceMod,Nat.reduceLeDiff,Int.reduceLE,Int.reduceNe,Int.reduceEq,Nat.reduceEqDiff,Nat.reduceLT,Nat.reduceBEq,List.map_cons,List.map_nil,List.toList_toArray,Array.toList_append,Option.toArray_some,Option.toArray_none,Bool.and_self,ty,Swb35,zez,yesS]
           exact zbe 6 rfl
         · have dk : decide ((100 : Int) < (k.length : Int)) = false := decide_eq_false (by omega)
           obtain ⟨A,hA⟩ : ∃ A,fdW Z L M D o k t n = A := ⟨_,rfl⟩
           have hok := fed_ok (k := k) (t := t) (n := n) hch
           rw [hA] at hok
           obtain ⟨aZ,aL,aM,aD,ao,af,ac,ae⟩ := A
           simp only at hok
           have lac : (ac.map wsA).length = ac.length := by simp
           have hre : chW Z L M D o = 0 → prW (putW Z L M D o) = some ⟨Z,L,M,D,o⟩ := fun h => by
             have := (layw_read (x := ⟨Z,L,M,D,o⟩) h).1
             have e : putW Z L M D o = layW Z L M D o := if_pos h
             rw [e]; exact this
           have hsm : (putW Z L M D o).length ≤ 1000000 := by
             have e : putW Z L M D o = layW Z L M D o := if_pos hch
             rw [e]; exact put_small hch
           obtain ⟨W,hW⟩ : ∃ W,putW Z L M D o = W := ⟨_,rfl⟩
           have hre := hre hch
           rw [hW] at hre hsm
           have hdd : decide ((ac.length : Int) = (ac.length : Int)) = true := decide_eq_true rfl
           by_cases hcut : (i : Int) = cut
           · have dc : decide ((i : Int) = cut) = true := decide_eq_true hcut
             by_cases he : ae = 0
             · have de : decide (ae = 0) = true := decide_eq_true he
               simp (config := { maxSteps := 3000000 }) only [go_sem,zad,Nat.reduceAdd,Nat.reduceSub,Nat.reduceMul,Int.reduceToNat,reduceCtorEq,↓reduceIte,Int.reducePow,Nat.reducePow,Int.reduceMod,Nat.reduceLeDiff,Int.reduceLE,Int.reduceNe,Int.reduceEq,Nat.reduceEqDiff,Nat.reduceLT,Nat.reduceBEq,List.map_cons,List.map_nil,List.toList_toArray,Array.toList_append,Option.toArray_some,Option.toArray_none,Bool.and_self,ty,Swb35,zez,yesS,putWS,getWS,same35S,feedS35,frA,wtX,hW,hre,hsm,hch,hA,cs,hoe,ho6,ho9,xo,hmm,hkk,lac,hdd,hle,d1,hs1,dk,dc,de,wc,e1,zak,zar,decide_true,Bool.and_self,Int.toNat_natCast,Bool.not_true,Bool.not_false]
               repeat (refine And.intro (by omega) ?_)
               refine ⟨l.length - (i + 1),_,by omega,zao [0,1,2,3,4,5] rfl rfl rfl ?_ ?_,i + 1,aZ,aL,aM,aD,ao,af,af,rfl,by omega,hok he,rfl⟩
               · simp only [ssT,zav,zaw,setSlot,gOf,AV.ren,renL,Blk.ren,Ax.look,Ax.put,reduceCtorEq,↓reduceIte,Nat.reduceEqDiff,Nat.reduceLT,Nat.reduceAdd,List.length_append,List.length_cons,List.length_nil,Option.some.injEq,zcp]; try simp
               · simp only [ssT,zav,zaw,setSlot,gOf,AV.ren,renL,Blk.ren,Ax.look,Ax.put,reduceCtorEq,↓reduceIte,Nat.reduceEqDiff,Nat.reduceLT,Nat.reduceAdd,List.length_append,List.length_cons,List.length_nil,Option.some.injEq,zcp]; try simp
             · have de : decide (ae = 0) = false := decide_eq_false he
               simp (config := { maxSteps := 3000000 }) only [go_sem,zad,Nat.reduceAdd,Nat.reduceSub,Nat.reduceMul,Int.reduceToNat,reduceCtorEq,↓reduceIte,Int.reducePow,Nat.reducePow,Int.reduceMod,Nat.reduceLeDiff,Int.reduceLE,Int.reduceNe,Int.reduceEq,Nat.reduceEqDiff,Nat.reduceLT,Nat.reduceBEq,List.map_cons,List.map_nil,List.toList_toArray,Array.toList_append,Option.toArray_some,Option.toArray_none,Bool.and_self,ty,Swb35,zez,yesS,putWS,getWS,same35S,feedS35,frA,wtX,hW,hre,hsm,hch,hA,cs,hoe,ho6,ho9,xo,hmm,hkk,lac,hdd,hle,d1,hs1,dk,dc,de,wc,e1,zak,zar,decide_true,Bool.and_self,Int.toNat_natCast,Bool.not_true,Bool.not_false]
               repeat (refine And.intro (by omega) ?_)
               refine ⟨l.length - (i + 1),_,by omega,zao [0,1,2,3,4,5] rfl rfl rfl ?_ ?_,i + 1,Z,L,M,D,o,g,false,rfl,by omega,hch,rfl⟩
               · simp only [ssT,zav,zaw,setSlot,gOf,AV.ren,renL,Blk.ren,Ax.look,Ax.put,reduceCtorEq,↓reduceIte,Nat.reduceEqDiff,Nat.reduceLT,Nat.reduceAdd,List.length_append,List.length_cons,List.length_nil,Option.some.injEq,zcp]; try simp
               · simp only [ssT,zav,zaw,setSlot,gOf,AV.ren,renL,Blk.ren,Ax.look,Ax.put,reduceCtorEq,↓reduceIte,Nat.reduceEqDiff,Nat.reduceLT,Nat.reduceAdd,List.length_append,List.length_cons,List.length_nil,Option.some.injEq,zcp]; try simp
           · have dc : decide ((i : Int) = cut) = false := decide_eq_false hcut
             by_cases he : ae = 0
             · have de : decide (ae = 0) = true := decide_eq_true he
               simp (config := { maxSteps := 3000000 }) only [go_sem,zad,Nat.reduceAdd,Nat.reduceSub,Nat.reduceMul,Int.reduceToNat,reduceCtorEq,↓reduceIte,Int.reducePow,Nat.reducePow,Int.reduceMod,Nat.reduceLeDiff,Int.reduceLE,Int.reduceNe,Int.reduceEq,Nat.reduceEqDiff,Nat.reduceLT,Nat.reduceBEq,List.map_cons,List.map_nil,List.toList_toArray,Array.toList_append,Option.toArray_some,Option.toArray_none,Bool.and_self,ty,Swb35,zez,yesS,feedS35,frA,hA,cs,hoe,ho6,ho9,xo,hmm,hkk,lac,hdd,hle,d1,hs1,dk,dc,de,wc,e1,zak,zar,decide_true,Bool.and_self,Int.toNat_natCast,Bool.not_true,Bool.not_false]
               repeat (refine And.intro (by omega) ?_)
               refine ⟨l.length - (i + 1),_,by omega,zao [0,1,2,3,4,5] rfl rfl rfl ?_ ?_,i + 1,aZ,aL,aM,aD,ao,af,af,rfl,by omega,hok he,rfl⟩
               · simp only [ssT,zav,zaw,setSlot,gOf,AV.ren,renL,Blk.ren,Ax.look,Ax.put,reduceCtorEq,↓reduceIte,Nat.reduceEqDiff,Nat.reduceLT,Nat.reduceAdd,List.length_append,List.length_cons,List.length_nil,Option.some.injEq,zcp]; try simp
               · simp only [ssT,zav,zaw,setSlot,gOf,AV.ren,renL,Blk.ren,Ax.look,Ax.put,reduceCtorEq,↓reduceIte,Nat.reduceEqDiff,Nat.reduceLT,Nat.reduceAdd,List.length_append,List.length_cons,List.length_nil,Option.some.injEq,zcp]; try simp
             · have de : decide (ae = 0) = false := decide_eq_false he
               simp (config := { maxSteps := 3000000 }) only [go_sem,zad,Nat.reduceAdd,Nat.reduceSub,Nat.reduceMul,Int.reduceToNat,reduceCtorEq,↓reduceIte,Int.reducePow,Nat.reducePow,Int.reduceMod,Nat.reduceLeDiff,Int.reduceLE,Int.reduceNe,Int.reduceEq,Nat.reduceEqDiff,Nat.reduceLT,Nat.reduceBEq,List.map_cons,List.map_nil,List.toList_toArray,Array.toList_append,Option.toArray_some,Option.toArray_none,Bool.and_self,ty,Swb35,zez,yesS,feedS35,frA,hA,cs,hoe,ho6,ho9,xo,hmm,hkk,lac,hdd,hle,d1,hs1,dk,dc,de,wc,e1,zak,zar,decide_true,Bool.and_self,Int.toNat_natCast,Bool.not_true,Bool.not_false]
               repeat (refine And.intro (by omega) ?_)
               refine ⟨l.length - (i + 1),_,by omega,zao [0,1,2,3,4,5] rfl rfl rfl ?_ ?_,i + 1,Z,L,M,D,o,g,h,rfl,by omega,hch,rfl⟩
               · simp only [ssT,zav,zaw,setSlot,gOf,AV.ren,renL,Blk.ren,Ax.look,Ax.put,reduceCtorEq,↓reduceIte,Nat.reduceEqDiff,Nat.reduceLT,Nat.reduceAdd,List.length_append,List.length_cons,List.length_nil,Option.some.injEq,zcp]; try simp
               · simp only [ssT,zav,zaw,setSlot,gOf,AV.ren,renL,Blk.ren,Ax.look,Ax.put,reduceCtorEq,↓reduceIte,Nat.reduceEqDiff,Nat.reduceLT,Nat.reduceAdd,List.length_append,List.length_cons,List.length_nil,Option.some.injEq,zcp]; try simp
       · have d1 : decide ((i : Int) < l.length) = false := decide_eq_false (by omega)
         simp only [go_sem,zad,Nat.reduceAdd,Nat.reduceSub,Nat.reduceMul,Int.reduceToNat,reduceCtorEq,↓reduceIte,Int.reducePow,Nat.reducePow,Int.reduceMod,Nat.reduceLeDiff,Int.reduceLE,Int.reduceNe,Int.reduceEq,Nat.reduceEqDiff,Nat.reduceLT,Nat.reduceBEq,List.map_cons,List.map_nil,List.toList_toArray,Array.toList_append,Option.toArray_some,Option.toArray_none,Bool.and_self,ty,Swb35,zez,yesS,hle,d1,Bool.not_true,Bool.not_false]
         refine ⟨_,Weak.refl _,?_⟩
         simp only [go_sem,zad,Nat.reduceAdd,Nat.reduceSub,Nat.reduceMul,Int.reduceToNat,reduceCtorEq,↓reduceIte,Int.reducePow,Nat.reducePow,Int.reduceMod,Nat.reduceLeDiff,Int.reduceLE,Int.reduceNe,Int.reduceEq,Nat.reduceEqDiff,Nat.reduceLT,Nat.reduceBEq,List.map_cons,List.map_nil,List.toList_toArray,Array.toList_append,Option.toArray_some,Option.toArray_none,Bool.and_self,ty,Swb35,zez,yesS,same35S,cs,hoe,ho9,xo,hmm,hkk,zak,Bool.and_self,Bool.not_true,Bool.not_false]
         exact zbe 6 rfl
 · exact hp.elim
end
theorem all_fed : ∀ xs : List AV,(∀ x ∈ xs,∃ r : List UInt8 × Int × Int,x = fedA r) → ∃ l : List (List UInt8 × Int × Int),xs = l.map fedA
 | [],_ => ⟨[],rfl⟩
 | x :: xs,h => by
   obtain ⟨r,rfl⟩ := h x (List.mem_cons_self ..)
   obtain ⟨l,rfl⟩ := all_fed xs (fun y hy => h y (List.mem_cons_of_mem _ hy))
   exact ⟨r :: l,rfl⟩
theorem arg_feds {x : AV} (h : Arg ty 6 53 x) : ∃ (l : List (List UInt8 × Int × Int)) (f : Bool),x = .sg 3 (l.map fedA) f ∧ l.length ≤ 9223372036854775807 := by
 obtain ⟨i,ls,hi,hs,rfl⟩ := h
 simp only [ty] at hi
 injection hi with hi
 subst hi
 simp only [Shape,ty,ShapeF,isFlatI] at hs
 obtain ⟨xs,f1,rfl,hx,hxs⟩ := hs
 have hm : maxLen = 9223372036854775807 := by decide
 obtain ⟨es,rfl⟩ := all_fed xs (fun x hxm => by
   obtain ⟨l,⟨l0,r0,rfl,⟨m0,rfl,w0⟩,l1,r1,rfl,⟨m1,rfl,w1⟩,l2,r2,rfl,⟨m2,rfl,w2⟩,rfl⟩,_,rfl⟩ := hxs x hxm
   exact ⟨⟨m0,m1,m2⟩,rfl⟩)
 rw [List.length_map] at hx
 exact ⟨es,f1,rfl,by omega⟩
theorem arg_u8W {x : AV} (h : Arg ty 6 5 x) : ∃ n : Int,x = .w (.int .u8 n) ∧ 0 ≤ n ∧ n < 256 := by
 obtain ⟨i,ls,hi,hs,rfl⟩ := h
 simp only [ty] at hi
 injection hi with hi
 subst hi
 simp only [Shape,ty] at hs
 obtain ⟨m,rfl,hw⟩ := hs
 exact ⟨m,rfl,wf_u8 hw⟩
theorem wback_dom {x y z : AV} (hx : Arg ty 6 5 x) (hy : Arg ty 6 53 y) (hz : Arg ty 6 5 z) : (wbackS [x,y,z] []).p ∧ (wbackS [x,y,z] []).x = .w (.bool true) := by
 obtain ⟨a,rfl,a0,a1⟩ := arg_u8W hx
 obtain ⟨l,f,rfl,hl⟩ := arg_feds hy
 obtain ⟨c,rfl,c0,c1⟩ := arg_u8W hz
 exact ⟨⟨⟨by rw [List.length_map]; exact hl,l,rfl⟩,⟨a0,a1⟩,c0,c1⟩,rfl⟩
end Go.Proofs.Ytlpjdgkpapjldaa
