/- What the proofs of this seat stand on; it asks nothing. -/
import Derived.Test.YtfmiggmbebbloaaYa12
set_option linter.unusedSimpArgs false
set_option linter.unusedVariables false
namespace Go.Proofs.Ytfmiggmbebbloaa
open Ax
structure JR where
 g : Int
 p : Int
 l : List Mb
 f : Bool
 e : Int
def jrA (r : JR) : AV := .tup [.agg [.w (.int .i64 r.g),.w (.int .u8 r.p),.sg 3 (r.l.map mbA) r.f],.w (.int .i64 r.e)]
def errJ (e : Int) : JR := ⟨0,0,[],true,e⟩
def insM (v : List UInt8) (now : Int) (l : List Mb) : List Mb := l.take (l.findIdx (zfa v)) ++ ⟨v,now,false⟩ :: l.drop (l.findIdx (zfa v))
def joF (gn ph : Int) (l : List Mb) (v : List UInt8) (now : Int) : JR :=
 if chG gn ph l = 0 then
   if idB v = true then
     if timB now = true then
       if l.findIdx (isD v) < l.length then ⟨gn,ph,l.set (l.findIdx (isD v)) (seenM now (mbI l (l.findIdx (isD v)))),false,0⟩
       else if 16 ≤ l.length then errJ 9
       else if gn = 1099511627776 then errJ 11
       else ⟨gn + 1,1,(insM v now l).map clrM,false,0⟩
     else errJ 11
   else errJ 6
 else errJ (chG gn ph l)
def joS : zax
 | [.agg [.w (.int .i64 gn),.w (.int .u8 ph),.sg 3 xs f],.str v,.w (.int .i64 now)],[] => ⟨xs.length ≤ 900000 ∧ v.length ≤ 9223372036854775807 ∧ ∃ l : List Mb,xs = l.map mbA ∧ ∀ r ∈ l,r.d.length ≤ 9223372036854775807,jrA (joF gn ph (xs.map umb) v now),[]⟩
 | _,_ => zdh
def insNMS : zax
 | [.sg 3 [] true,.w (.int .i64 0),.sg 3 [.agg [.str d,.w (.int .i64 t),.w (.bool y)]] f],[] => ⟨True,.ms 0 3 0 1,[.g 3 [.agg [.str d,.w (.int .i64 t),.w (.bool y)]]]⟩
 | _,_ => zdh
theorem eq00G : decide ((0:Int) = ((0:Nat):Int)) = true := rfl
theorem eq10G : decide (((1:Nat):Int) = (0:Int)) = false := rfl
theorem eq01G : decide ((0:Int) = ((1:Nat):Int)) = false := rfl
section
set_option maxRecDepth 100000
set_option maxHeartbeats 4000000
theorem insNM_sound : zct Try.prog 35 insNMS := by
 refine fn_sound (S := noS) (T := ty) zdz ty_ok zfc Try.func35 (c := Try.f35.body.getD .skip) (by kernel_rfl) (by kernel_rfl) (fun xs pins hp _ => ?_)
 unfold insNMS at hp ⊢
 split at hp
 · rename_i d t y f _
   refine ⟨by simp,?_⟩
   unfold Try.f35
   simp only [go_sem,coe,zas,Nat.reduceAdd,Nat.reduceSub,Nat.reduceMul,Int.reduceToNat,reduceCtorEq,↓reduceIte,Int.reducePow,Nat.reducePow,Int.reduceMod,Nat.reduceLeDiff,Int.reduceLE,Int.reduceNe,Int.reduceEq,Nat.reduceEqDiff,Nat.reduceLT,Nat.reduceBEq,ty,noS,eq00G,eq01G,eq10G]
   decide
 · exact hp.elim
end
def zfq (f : FuncId) : Option zax :=
 match f with
 | 17 => some chGS
 | 27 => some zeh
 | 28 => some timS
 | 29 => some plaGS
 | 31 => some seeGS
 | 32 => some ownGS
 | 35 => some insNMS
 | _ => none
theorem Sjo20_ok : Fns Try.prog zfq := by
 intro f s h
 unfold zfq at h
 split at h
 · injection h with h; subst h; exact ⟨⟨_,Try.func17,by kernel_rfl,by kernel_rfl⟩,chG_sound⟩
 · injection h with h; subst h; exact ⟨⟨_,Try.func27,by kernel_rfl,by kernel_rfl⟩,id20_sound⟩
 · injection h with h; subst h; exact ⟨⟨_,Try.func28,by kernel_rfl,by kernel_rfl⟩,tim_sound⟩
 · injection h with h; subst h; exact ⟨⟨_,Try.func29,by kernel_rfl,by kernel_rfl⟩,plaG_sound⟩
 · injection h with h; subst h; exact ⟨⟨_,Try.func31,by kernel_rfl,by kernel_rfl⟩,seeG_sound⟩
 · injection h with h; subst h; exact ⟨⟨_,Try.func32,by kernel_rfl,by kernel_rfl⟩,ownG_sound⟩
 · injection h with h; subst h; exact ⟨⟨_,Try.func35,by kernel_rfl,by kernel_rfl⟩,insNM_sound⟩
 · cases h
def Ojo20 (f : FuncId) : Option zax :=
 match f with
 | 30 => some chaS
 | 33 => some ixGS
 | 35 => some (insS 3)
 | 36 => some turS
 | _ => none
theorem Ojo20_ok : FnsO Try.prog Ojo20 := by
 intro f s h
 unfold Ojo20 at h
 split at h
 · injection h with h; subst h; exact ⟨⟨_,Try.func30,by kernel_rfl,by kernel_rfl⟩,cha_sound⟩
 · injection h with h; subst h; exact ⟨⟨_,Try.func33,by kernel_rfl,by kernel_rfl⟩,ixG_sound⟩
 · injection h with h; subst h; exact ⟨⟨_,Try.func35,by kernel_rfl,by kernel_rfl⟩,insGI20_sound⟩
 · injection h with h; subst h; exact ⟨⟨_,Try.func36,by kernel_rfl,by kernel_rfl⟩,tur_sound⟩
 · cases h
def joPl : XPlan := fun id => match id with
 | 10 => .drs [] 4
 | 17 => .opn [] 3
 | 20 => .opn [] 7
 | 21 => .opn [] 1
 | _ => .std
def joPl0 : XPlan := fun id => match id with
 | 10 => .drs [] 4
 | 17 => .opn [] 3
 | 21 => .opn [] 1
 | _ => .std
theorem ch_ok20 {gn ph : Int} {l : List Mb} (h : chG gn ph l = 0) : l.length ≤ 16 ∧ (0 ≤ gn ∧ gn ≤ 1099511627776) ∧ phB ph l = true ∧ zdf none l = true := by
 unfold chG at h
 split at h
 · rename_i hb
   unfold chB timB at hb
   simp only [Bool.and_eq_true,decide_eq_true_eq] at hb
   exact ⟨hb.1,hb.2.1,hb.2.2.1,hb.2.2.2⟩
 · cases h
section
set_option maxRecDepth 100000
set_option maxHeartbeats 16000000
theorem jo_sound : zct Try.prog 12 joS := by
 refine zce (S := zfq) (SO := Ojo20) (T := ty) zdz ty_ok Sjo20_ok Ojo20_ok Try.func12 (c := Try.f12.body.getD .skip) (by kernel_rfl) (fun xs pins hp _ => ?_)
 unfold joS at hp ⊢
 split at hp
 · rename_i gn ph xs f v now _
   obtain ⟨hL0,hv9,l,rfl,hd⟩ := hp
   rw [List.length_map] at hL0
   have hle : (l.map mbA).length = l.length := by simp
   have hL : l.length ≤ 1000000 := by omega
   have hL9 : l.length ≤ 9223372036854775807 := by omega
   have hex : ∃ k : List Mb,l.map mbA = k.map mbA := ⟨l,rfl⟩
   have hxd : ∃ k : List Mb,l.map mbA = k.map mbA ∧ ∀ r ∈ k,r.d.length ≤ 9223372036854775807 := ⟨l,rfl,hd⟩
   have coeN : ∀ f,coe ty 29 (.sg 3 [] f) = .sg 3 [] f := fun f => rfl
   have hP1 : ixP 55 v = isD v := if_pos rfl
   have hP2 : ixP 34 v = zfa v := if_neg (by decide)
   rw [zak]
   unfold joF
   by_cases hch : chG gn ph l = 0
   · have q0 : decide (chG gn ph l = 0) = true := decide_eq_true hch
     obtain ⟨h16,⟨g0,g1⟩,_,_⟩ := ch_ok20 hch
     rw [if_pos hch]
     cases hI : idB v with
     | false =>
       rw [if_neg (by simp)]
       refine ⟨by simp,joPl,by kernel_rfl,?_⟩
       unfold Try.f12
       iterate 8
         try rw [zaa]
         try simp (config := { maxSteps := 3000000 }) only [go_sem,zaa,Nat.reduceAdd,Nat.reduceSub,Nat.reduceMul,Int.reduceToNat,reduceCtorEq,↓reduceIte,Int.reducePow,Nat.reducePow,Int.reduceMod,Nat.reduceLeDiff,Int.reduceLE,Int.reduceNe,Int.reduceEq,Nat.reduceEqDiff,Nat.reduceLT,Nat.reduceBEq,List.map_cons,List.map_nil,List.toList_toArray,Array.toList_append,Option.toArray_some,Option.toArray_none,Bool.and_self,-zaa,ty,zfq,Ojo20,joPl,joPl0,chGS,zeh,timS,plaGS,seeGS,chaS,ownGS,ixGS,insS,insNMS,turS,zap,coeN,hle,hL,hL9,hex,hxd,hv9,zak,zac,zav,zah,fg_mb,hch,Int.toNat_natCast,Bool.not_true,Bool.not_false,decide_true,hP1,hP2,true_or,or_true,hI]
         repeat (refine And.intro (by first | omega | exact mem_mb | exact ⟨by omega,by omega⟩ | (unfold top; omega)) ?_)
       try (refine ⟨_,Weak.refl _,?_⟩)
       try simp only [go_sem,zaa,Nat.reduceAdd,Nat.reduceSub,Nat.reduceMul,Int.reduceToNat,reduceCtorEq,↓reduceIte,Int.reducePow,Nat.reducePow,Int.reduceMod,Nat.reduceLeDiff,Int.reduceLE,Int.reduceNe,Int.reduceEq,Nat.reduceEqDiff,Nat.reduceLT,Nat.reduceBEq,List.map_cons,List.map_nil,List.toList_toArray,Array.toList_append,Option.toArray_some,Option.toArray_none,Bool.and_self,ty,zfq,jrA,errJ,List.map_nil]
     | true =>
       rw [if_pos rfl]
       cases hT : timB now with
       | false =>
         rw [if_neg (by simp)]
         refine ⟨by simp,joPl,by kernel_rfl,?_⟩
         unfold Try.f12
         iterate 8
           try rw [zaa]
           try simp (config := { maxSteps := 3000000 }) only [go_sem,zaa,Nat.reduceAdd,Nat.reduceSub,Nat.reduceMul,Int.reduceToNat,reduceCtorEq,↓reduceIte,Int.reducePow,Nat.reducePow,Int.reduceMod,Nat.reduceLeDiff,Int.reduceLE,Int.reduceNe,Int.reduceEq,Nat.reduceEqDiff,Nat.reduceLT,Nat.reduceBEq,List.map_cons,List.map_nil,List.toList_toArray,Array.toList_append,Option.toArray_some,Option.toArray_none,Bool.and_self,-zaa,ty,zfq,Ojo20,joPl,joPl0,chGS,zeh,timS,plaGS,seeGS,chaS,ownGS,ixGS,insS,insNMS,turS,zap,coeN,hle,hL,hL9,hex,hxd,hv9,zak,zac,zav,zah,fg_mb,hch,Int.toNat_natCast,Bool.not_true,Bool.not_false,decide_true,hP1,hP2,true_or,or_true,hI,hT]
           repeat (refine And.intro (by first | omega | exact mem_mb | exact ⟨by omega,by omega⟩ | (unfold top; omega)) ?_)
         try (refine ⟨_,Weak.refl _,?_⟩)
         try simp only [go_sem,zaa,Nat.reduceAdd,Nat.reduceSub,Nat.reduceMul,Int.reduceToNat,reduceCtorEq,↓reduceIte,Int.reducePow,Nat.reducePow,Int.reduceMod,Nat.reduceLeDiff,Int.reduceLE,Int.reduceNe,Int.reduceEq,Nat.reduceEqDiff,Nat.reduceLT,Nat.reduceBEq,List.map_cons,List.map_nil,List.toList_toArray,Array.toList_append,Option.toArray_some,Option.toArray_none,Bool.and_self,ty,zfq,jrA,errJ,List.map_nil]
       | true =>
         rw [if_pos rfl]
         obtain ⟨I,hI2⟩ : ∃ I,l.findIdx (isD v) = I := ⟨_,rfl⟩
         rw [hI2]
         by_cases hf : I < l.length
         · rw [if_pos hf]
           have hpl : ixG (isD v) l = (I : Nat) := by unfold ixG; rw [hI2,if_pos hf]
           have q1 : decide ((0 : Int) ≤ (I : Int)) = true := decide_eq_true (by omega)
           generalize hQ : l.set I (seenM now (mbI l I)) = Q
           have hQl : Q.length = l.length := by rw [← hQ,List.length_set]
           have hk1 : decide (0 + l.length ≤ (Q.map mbA).length) = true := decide_eq_true (by simp; omega)
           have hk2 : List.take l.length (Q.map mbA) = Q.map mbA := List.take_of_length_le (by simp; omega)
           have hIn : ((I : Int) < (l.length : Int)) = True := eq_true (by omega)
           have hI0 : ((0 : Int) ≤ (I : Int)) = True := eq_true (by omega)
           refine ⟨by simp,joPl,by kernel_rfl,?_⟩
           unfold Try.f12
           iterate 12
             try rw [zaa]
             try simp (config := { maxSteps := 3000000 }) only [go_sem,zaa,Nat.reduceAdd,Nat.reduceSub,Nat.reduceMul,Int.reduceToNat,reduceCtorEq,↓reduceIte,Int.reducePow,Nat.reducePow,Int.reduceMod,Nat.reduceLeDiff,Int.reduceLE,Int.reduceNe,Int.reduceEq,Nat.reduceEqDiff,Nat.reduceLT,Nat.reduceBEq,List.map_cons,List.map_nil,List.toList_toArray,Array.toList_append,Option.toArray_some,Option.toArray_none,Bool.and_self,-zaa,ty,zfq,Ojo20,joPl,joPl0,chGS,zeh,timS,plaGS,seeGS,chaS,ownGS,ixGS,insS,insNMS,turS,zap,coeN,hle,hL,hL9,hex,hxd,hv9,zak,zac,zav,zah,fg_mb,hch,Int.toNat_natCast,Bool.not_true,Bool.not_false,decide_true,hP1,hP2,true_or,or_true,hI,hT,hpl,q1]
             repeat (refine And.intro (by first | omega | exact mem_mb | exact ⟨by omega,by omega⟩ | (unfold top; omega)) ?_)
           refine ⟨_,_,Weak.refl _,?_⟩
           iterate 4
             try rw [zaa]
             try simp (config := { maxSteps := 3000000 }) only [go_sem,zaa,Nat.reduceAdd,Nat.reduceSub,Nat.reduceMul,Int.reduceToNat,reduceCtorEq,↓reduceIte,Int.reducePow,Nat.reducePow,Int.reduceMod,Nat.reduceLeDiff,Int.reduceLE,Int.reduceNe,Int.reduceEq,Nat.reduceEqDiff,Nat.reduceLT,Nat.reduceBEq,List.map_cons,List.map_nil,List.toList_toArray,Array.toList_append,Option.toArray_some,Option.toArray_none,Bool.and_self,-zaa,ty,zfq,Ojo20,joPl,joPl0,chGS,zeh,timS,plaGS,seeGS,chaS,ownGS,ixGS,insS,insNMS,turS,zap,coeN,hle,hL,hL9,hex,hxd,hv9,zak,zac,zav,zah,fg_mb,hch,Int.toNat_natCast,Bool.not_true,Bool.not_false,decide_true,hP1,hP2,true_or,or_true,hI,hT,hpl,q1,hQ,hIn,hI0]
             repeat (refine And.intro (by first | omega | exact mem_mb | exact ⟨by omega,by omega⟩ | (unfold top; omega)) ?_)
           refine ⟨_,weak_fg 204 3 35 (Q.map mbA) rfl (zac _) (by simp [slot,AV.ids,idsL]),?_⟩
           simp only [fgL,fgH,AV.fg,Blk.fg,Nat.reduceBEq,cond_true,cond_false,Bool.and_true,beq_self_eq_true,Bool.true_and,List.drop_zero,fg_mb,hk1,hk2]
           simp only [go_sem,zaa,Nat.reduceAdd,Nat.reduceSub,Nat.reduceMul,Int.reduceToNat,reduceCtorEq,↓reduceIte,Int.reducePow,Nat.reducePow,Int.reduceMod,Nat.reduceLeDiff,Int.reduceLE,Int.reduceNe,Int.reduceEq,Nat.reduceEqDiff,Nat.reduceLT,Nat.reduceBEq,List.map_cons,List.map_nil,List.toList_toArray,Array.toList_append,Option.toArray_some,Option.toArray_none,Bool.and_self,ty,zfq,jrA,zac,zah]
         · rw [if_neg hf]
           have hpl : ixG (isD v) l = -1 := by unfold ixG; rw [hI2,if_neg hf]
           have q1 : decide ((0 : Int) ≤ -1) = false := rfl
           by_cases h9 : 16 ≤ l.length
           · rw [if_pos h9]
             have q2 : decide ((16 : Int) ≤ (l.length : Int)) = true := decide_eq_true (by omega)
             refine ⟨by simp,joPl,by kernel_rfl,?_⟩
             unfold Try.f12
             iterate 18
               try rw [zaa]
               try simp (config := { maxSteps := 3000000 }) only [go_sem,zaa,Nat.reduceAdd,Nat.reduceSub,Nat.reduceMul,Int.reduceToNat,reduceCtorEq,↓reduceIte,Int.reducePow,Nat.reducePow,Int.reduceMod,Nat.reduceLeDiff,Int.reduceLE,Int.reduceNe,Int.reduceEq,Nat.reduceEqDiff,Nat.reduceLT,Nat.reduceBEq,List.map_cons,List.map_nil,List.toList_toArray,Array.toList_append,Option.toArray_some,Option.toArray_none,Bool.and_self,-zaa,ty,zfq,Ojo20,joPl,joPl0,chGS,zeh,timS,plaGS,seeGS,chaS,ownGS,ixGS,insS,insNMS,turS,zap,coeN,hle,hL,hL9,hex,hxd,hv9,zak,zac,zav,zah,fg_mb,hch,Int.toNat_natCast,Bool.not_true,Bool.not_false,decide_true,hP1,hP2,true_or,or_true,hI,hT,hpl,q1,q2]
               repeat (refine And.intro (by first | omega | exact mem_mb | exact ⟨by omega,by omega⟩ | (unfold top; omega)) ?_)
             try (refine ⟨_,Weak.refl _,?_⟩)
             try simp only [go_sem,zaa,Nat.reduceAdd,Nat.reduceSub,Nat.reduceMul,Int.reduceToNat,reduceCtorEq,↓reduceIte,Int.reducePow,Nat.reducePow,Int.reduceMod,Nat.reduceLeDiff,Int.reduceLE,Int.reduceNe,Int.reduceEq,Nat.reduceEqDiff,Nat.reduceLT,Nat.reduceBEq,List.map_cons,List.map_nil,List.toList_toArray,Array.toList_append,Option.toArray_some,Option.toArray_none,Bool.and_self,ty,zfq,jrA,errJ,List.map_nil]
           · rw [if_neg h9]
             have q2 : decide ((16 : Int) ≤ (l.length : Int)) = false := decide_eq_false (by omega)
             by_cases hg : gn = 1099511627776
             · rw [if_pos hg]
               have q3 : decide (gn = 1099511627776) = true := decide_eq_true hg
               refine ⟨by simp,joPl,by kernel_rfl,?_⟩
               unfold Try.f12
               iterate 20
                 try rw [zaa]
                 try simp (config := { maxSteps := 3000000 }) only [go_sem,zaa,Nat.reduceAdd,Nat.reduceSub,Nat.reduceMul,Int.reduceToNat,reduceCtorEq,↓reduceIte,Int.reducePow,Nat.reducePow,Int.reduceMod,Nat.reduceLeDiff,Int.reduceLE,Int.reduceNe,Int.reduceEq,Nat.reduceEqDiff,Nat.reduceLT,Nat.reduceBEq,List.map_cons,List.map_nil,List.toList_toArray,Array.toList_append,Option.toArray_some,Option.toArray_none,Bool.and_self,-zaa,ty,zfq,Ojo20,joPl,joPl0,chGS,zeh,timS,plaGS,seeGS,chaS,ownGS,ixGS,insS,insNMS,turS,zap,coeN,hle,hL,hL9,hex,hxd,hv9,zak,zac,zav,zah,fg_mb,hch,Int.toNat_natCast,Bool.not_true,Bool.not_false,decide_true,hP1,hP2,true_or,or_true,hI,hT,hpl,q1,q2,q3]
                 repeat (refine And.intro (by first | omega | exact mem_mb | exact ⟨by omega,by omega⟩ | (unfold top; omega)) ?_)
               try (refine ⟨_,Weak.refl _,?_⟩)
               try simp only [go_sem,zaa,Nat.reduceAdd,Nat.reduceSub,Nat.reduceMul,Int.reduceToNat,reduceCtorEq,↓reduceIte,Int.reducePow,Nat.reducePow,Int.reduceMod,Nat.reduceLeDiff,Int.reduceLE,Int.reduceNe,Int.reduceEq,Nat.reduceEqDiff,Nat.reduceLT,Nat.reduceBEq,List.map_cons,List.map_nil,List.toList_toArray,Array.toList_append,Option.toArray_some,Option.toArray_none,Bool.and_self,ty,zfq,jrA,errJ,List.map_nil]
             · rw [if_neg hg]
               have q3 : decide (gn = 1099511627776) = false := decide_eq_false hg
               have hgb : (-4611686018427387904 ≤ gn ∧ gn ≤ 4611686018427387904) := by omega
               cases hz : empP (l.map mbA) with
               | true =>
                 obtain rfl : l = [] := by cases l with | nil => rfl | cons _ _ => cases hz
                 have hx0 : ∃ k : List Mb,([] : List AV) = k.map mbA := ⟨[],rfl⟩
                 have hxd0 : ∃ k : List Mb,([] : List AV) = k.map mbA ∧ ∀ r ∈ k,r.d.length ≤ 9223372036854775807 := ⟨[],rfl,hd⟩
                 have hpp : ixG (zfa v) [] = -1 := rfl
                 have q4 : decide ((0 : Int) ≤ -1) = false := rfl
                 have q5 : decide ((16 : Int) ≤ 0) = false := rfl
                 have q6 : decide ((16 : Int) ≤ ((0 : Nat) : Int)) = false := rfl
                 have hM1 : (insM v now []).map clrM = [⟨v,now,false⟩] := rfl
                 have hmc : ([AV.agg [.str v,.w (.int .i64 now),.w (.bool false)]].map umb) = [⟨v,now,false⟩] := rfl
                 have hxM : ∃ k : List Mb,[AV.agg [.str v,.w (.int .i64 now),.w (.bool false)]] = k.map mbA := ⟨[⟨v,now,false⟩],rfl⟩
                 have hMc : (List.take 1 [(⟨v,now,false⟩ : Mb)]).map clrM ++ List.drop 1 [(⟨v,now,false⟩ : Mb)] = [⟨v,now,false⟩] := rfl
                 have hmz : (if (1 : Nat) = 0 then (0 : Int) else 1) = 1 := rfl
                 have hk1 : decide (0 + 1 ≤ (([⟨v,now,false⟩] : List Mb).map mbA).length) = true := rfl
                 have hk2 : List.take 1 (([⟨v,now,false⟩] : List Mb).map mbA) = ([⟨v,now,false⟩] : List Mb).map mbA := rfl
                 have h00 : ((0 : Nat) : Int) = 0 := rfl
                 have hcm : mbA (clrM ⟨v,now,false⟩) = .agg [.str v,.w (.int .i64 now),.w (.bool false)] := rfl
                 have hk3 : decide (0 + 1 ≤ [AV.agg [.str v,.w (.int .i64 now),.w (.bool false)]].length) = true := rfl
                 have hk4 : List.take 1 [AV.agg [.str v,.w (.int .i64 now),.w (.bool false)]] = [AV.agg [.str v,.w (.int .i64 now),.w (.bool false)]] := rfl
                 rw [hM1]
                 refine ⟨by simp,joPl0,by kernel_rfl,?_⟩
                 unfold Try.f12
                 iterate 26
                   try rw [zaa]
                   try simp (config := { maxSteps := 3000000 }) only [go_sem,zaa,Nat.reduceAdd,Nat.reduceSub,Nat.reduceMul,Int.reduceToNat,reduceCtorEq,↓reduceIte,Int.reducePow,Nat.reducePow,Int.reduceMod,Nat.reduceLeDiff,Int.reduceLE,Int.reduceNe,Int.reduceEq,Nat.reduceEqDiff,Nat.reduceLT,Nat.reduceBEq,List.map_cons,List.map_nil,List.toList_toArray,Array.toList_append,Option.toArray_some,Option.toArray_none,Bool.and_self,-zaa,ty,zfq,Ojo20,joPl,joPl0,chGS,zeh,timS,plaGS,seeGS,chaS,ownGS,ixGS,insS,insNMS,turS,zap,coeN,hle,hL,hL9,hex,hxd,hv9,zak,zac,zav,zah,fg_mb,hch,Int.toNat_natCast,Bool.not_true,Bool.not_false,decide_true,hP1,hP2,true_or,or_true,hI,hT,hpl,q1,q3,hpp,q4,q5,q6,hx0,hxd0,hmc,hxM,hMc,hmz,empP,h00,hcm,List.map_nil,List.length_nil,Nat.zero_le,cond_true]
                   repeat (refine And.intro (by first | omega | exact mem_mb | exact ⟨by omega,by omega⟩ | (unfold top; omega)) ?_)
                 refine ⟨fun y e => by rw [e]; rfl,hgb,?_⟩
                 refine ⟨_,weak_fg 396 3 67 [AV.agg [.str v,.w (.int .i64 now),.w (.bool false)]] rfl rfl (by simp [slot,AV.ids,idsL]),?_⟩
                 simp only [fgL,fgH,AV.fg,Blk.fg,Nat.reduceBEq,cond_true,cond_false,Bool.and_true,beq_self_eq_true,Bool.true_and,List.drop_zero,hk3,hk4]
                 simp only [go_sem,zaa,Nat.reduceAdd,Nat.reduceSub,Nat.reduceMul,Int.reduceToNat,reduceCtorEq,↓reduceIte,Int.reducePow,Nat.reducePow,Int.reduceMod,Nat.reduceLeDiff,Int.reduceLE,Int.reduceNe,Int.reduceEq,Nat.reduceEqDiff,Nat.reduceLT,Nat.reduceBEq,List.map_cons,List.map_nil,List.toList_toArray,Array.toList_append,Option.toArray_some,Option.toArray_none,Bool.and_self,ty,zfq,jrA,mbA,List.map_cons,List.map_nil]
               | false =>
                 have hpos : 0 < l.length := by cases l with | nil => cases hz | cons _ _ => simp
                 have dpos : decide (0 < l.length) = true := decide_eq_true hpos
                 refine ⟨by simp,joPl,by kernel_rfl,?_⟩
                 unfold Try.f12
                 obtain ⟨K,hK⟩ : ∃ K,l.findIdx (zfa v) = K := ⟨_,rfl⟩
                 have hKl : K ≤ l.length := by rw [← hK]; exact List.findIdx_le_length
                 have hins : insL (l.map mbA) l.length K (.agg [.str v,.w (.int .i64 now),.w (.bool false)]) = (insM v now l).map mbA := by
                   have htk : (l.map mbA).take l.length = l.map mbA := List.take_of_length_le (by simp)
                   unfold insL insM
                   rw [hK,htk,List.map_append,List.map_take,List.map_cons,List.map_drop]
                   rfl
                 have hMl : (insM v now l).length = l.length + 1 := by
                   unfold insM
                   simp only [List.length_append,List.length_take,List.length_cons,List.length_drop]
                   omega
                 generalize insM v now l = M at *
                 have hMe : (M.map mbA).length = l.length + 1 := by rw [List.length_map,hMl]
                 have hMc : (M.take (l.length + 1)).map clrM ++ M.drop (l.length + 1) = M.map clrM := by
                   rw [List.take_of_length_le (by omega),List.drop_eq_nil_of_le (by omega),List.append_nil]
                 have hMx : ∃ k : List Mb,M.map mbA = k.map mbA := ⟨M,rfl⟩
                 have hMz : (if l.length + 1 = 0 then (0 : Int) else 1) = 1 := if_neg (by omega)
                 have hM6 : (l.length + 1 ≤ 1000000) = True := eq_true (by omega)
                 have hk1 : decide (0 + (l.length + 1) ≤ ((M.map clrM).map mbA).length) = true := decide_eq_true (by simp; omega)
                 have hk2 : List.take (l.length + 1) ((M.map clrM).map mbA) = (M.map clrM).map mbA := List.take_of_length_le (by simp; omega)
                 have htk : (l.map mbA).take l.length = l.map mbA := List.take_of_length_le (by simp)
                 by_cases hk : K < l.length
                 · have hpp : ixG (zfa v) l = (K : Nat) := by unfold ixG; rw [hK,if_pos hk]
                   have q4 : decide ((0 : Int) ≤ (K : Int)) = true := decide_eq_true (by omega)
                   iterate 26
                     try rw [zaa]
                     try simp (config := { maxSteps := 3000000 }) only [go_sem,zaa,Nat.reduceAdd,Nat.reduceSub,Nat.reduceMul,Int.reduceToNat,reduceCtorEq,↓reduceIte,Int.reducePow,Nat.reducePow,Int.reduceMod,Nat.reduceLeDiff,Int.reduceLE,Int.reduceNe,Int.reduceEq,Nat.reduceEqDiff,Nat.reduceLT,Nat.reduceBEq,List.map_cons,List.map_nil,List.toList_toArray,Array.toList_append,Option.toArray_some,Option.toArray_none,Bool.and_self,-zaa,ty,zfq,Ojo20,joPl,joPl0,chGS,zeh,timS,plaGS,seeGS,chaS,ownGS,ixGS,insS,insNMS,turS,zap,coeN,hle,hL,hL9,hex,hxd,hv9,zak,zac,zav,zah,fg_mb,hch,Int.toNat_natCast,Bool.not_true,Bool.not_false,decide_true,hP1,hP2,true_or,or_true,hI,hT,hpl,q1,q2,q3,hz,hpos,dpos,hpp,q4,hins,hMe,hMc,hMx,hMz,hM6,htk,cond_false]
                     repeat (refine And.intro (by first | omega | exact mem_mb | exact ⟨by omega,by omega⟩ | (unfold top; omega)) ?_)
                   refine ⟨_,weak_fg 412 3 67 ((M.map clrM).map mbA) rfl (zac _) (by simp [slot,AV.ids,idsL]),?_⟩
                   simp only [fgL,fgH,AV.fg,Blk.fg,Nat.reduceBEq,cond_true,cond_false,Bool.and_true,beq_self_eq_true,Bool.true_and,List.drop_zero,fg_mb,hk1,hk2]
                   simp only [go_sem,zaa,Nat.reduceAdd,Nat.reduceSub,Nat.reduceMul,Int.reduceToNat,reduceCtorEq,↓reduceIte,Int.reducePow,Nat.reducePow,Int.reduceMod,Nat.reduceLeDiff,Int.reduceLE,Int.reduceNe,Int.reduceEq,Nat.reduceEqDiff,Nat.reduceLT,Nat.reduceBEq,List.map_cons,List.map_nil,List.toList_toArray,Array.toList_append,Option.toArray_some,Option.toArray_none,Bool.and_self,ty,zfq,jrA,zac,zah]
                 · have hpp : ixG (zfa v) l = -1 := by unfold ixG; rw [hK,if_neg hk]
                   have q4 : decide ((0 : Int) ≤ -1) = false := rfl
                   obtain rfl : K = l.length := by omega
                   iterate 26
                     try rw [zaa]
                     try simp (config := { maxSteps := 3000000 }) only [go_sem,zaa,Nat.reduceAdd,Nat.reduceSub,Nat.reduceMul,Int.reduceToNat,reduceCtorEq,↓reduceIte,Int.reducePow,Nat.reducePow,Int.reduceMod,Nat.reduceLeDiff,Int.reduceLE,Int.reduceNe,Int.reduceEq,Nat.reduceEqDiff,Nat.reduceLT,Nat.reduceBEq,List.map_cons,List.map_nil,List.toList_toArray,Array.toList_append,Option.toArray_some,Option.toArray_none,Bool.and_self,-zaa,ty,zfq,Ojo20,joPl,joPl0,chGS,zeh,timS,plaGS,seeGS,chaS,ownGS,ixGS,insS,insNMS,turS,zap,coeN,hle,hL,hL9,hex,hxd,hv9,zak,zac,zav,zah,fg_mb,hch,Int.toNat_natCast,Bool.not_true,Bool.not_false,decide_true,hP1,hP2,true_or,or_true,hI,hT,hpl,q1,q2,q3,hz,hpos,dpos,hpp,q4,hins,hMe,hMc,hMx,hMz,hM6,htk,cond_false]
                     repeat (refine And.intro (by first | omega | exact mem_mb | exact ⟨by omega,by omega⟩ | (unfold top; omega)) ?_)
                   refine ⟨_,weak_fg 396 3 67 ((M.map clrM).map mbA) rfl (zac _) (by simp [slot,AV.ids,idsL]),?_⟩
                   simp only [fgL,fgH,AV.fg,Blk.fg,Nat.reduceBEq,cond_true,cond_false,Bool.and_true,beq_self_eq_true,Bool.true_and,List.drop_zero,fg_mb,hk1,hk2]
                   simp only [go_sem,zaa,Nat.reduceAdd,Nat.reduceSub,Nat.reduceMul,Int.reduceToNat,reduceCtorEq,↓reduceIte,Int.reducePow,Nat.reducePow,Int.reduceMod,Nat.reduceLeDiff,Int.reduceLE,Int.reduceNe,Int.reduceEq,Nat.reduceEqDiff,Nat.reduceLT,Nat.reduceBEq,List.map_cons,List.map_nil,List.toList_toArray,Array.toList_append,Option.toArray_some,Option.toArray_none,Bool.and_self,ty,zfq,jrA,zac,zah]
   · have q0 : decide (chG gn ph l = 0) = false := decide_eq_false hch
     rw [if_neg hch]
     have hch : True := trivial
     refine ⟨by simp,joPl,by kernel_rfl,?_⟩
     unfold Try.f12
     iterate 6
       try rw [zaa]
       try simp (config := { maxSteps := 3000000 }) only [go_sem,zaa,Nat.reduceAdd,Nat.reduceSub,Nat.reduceMul,Int.reduceToNat,reduceCtorEq,↓reduceIte,Int.reducePow,Nat.reducePow,Int.reduceMod,Nat.reduceLeDiff,Int.reduceLE,Int.reduceNe,Int.reduceEq,Nat.reduceEqDiff,Nat.reduceLT,Nat.reduceBEq,List.map_cons,List.map_nil,List.toList_toArray,Array.toList_append,Option.toArray_some,Option.toArray_none,Bool.and_self,-zaa,ty,zfq,Ojo20,joPl,joPl0,chGS,zeh,timS,plaGS,seeGS,chaS,ownGS,ixGS,insS,insNMS,turS,zap,coeN,hle,hL,hL9,hex,hxd,hv9,zak,zac,zav,zah,fg_mb,hch,Int.toNat_natCast,Bool.not_true,Bool.not_false,decide_true,hP1,hP2,true_or,or_true,q0]
       repeat (refine And.intro (by first | omega | exact mem_mb | exact ⟨by omega,by omega⟩ | (unfold top; omega)) ?_)
     try (refine ⟨_,Weak.refl _,?_⟩)
     try simp only [go_sem,zaa,Nat.reduceAdd,Nat.reduceSub,Nat.reduceMul,Int.reduceToNat,reduceCtorEq,↓reduceIte,Int.reducePow,Nat.reducePow,Int.reduceMod,Nat.reduceLeDiff,Int.reduceLE,Int.reduceNe,Int.reduceEq,Nat.reduceEqDiff,Nat.reduceLT,Nat.reduceBEq,List.map_cons,List.map_nil,List.toList_toArray,Array.toList_append,Option.toArray_some,Option.toArray_none,Bool.and_self,ty,zfq,jrA,errJ,List.map_nil]
 · exact hp.elim
end
end Go.Proofs.Ytfmiggmbebbloaa
namespace Go.Proofs.Ytfmiggmbebbloaa
open Ax
def leF (gn ph : Int) (l : List Mb) (v : List UInt8) : JR :=
 if chG gn ph l = 0 then
   if l.findIdx (isD v) < l.length then
     if gn = 1099511627776 then errJ 11
     else ⟨gn + 1,if (l.eraseIdx (l.findIdx (isD v))).length = 0 then 0 else 1,(l.eraseIdx (l.findIdx (isD v))).map clrM,false,0⟩
   else errJ 20
 else errJ (chG gn ph l)
def leS : zax
 | [.agg [.w (.int .i64 gn),.w (.int .u8 ph),.sg 3 xs f],.str v],[] => ⟨xs.length ≤ 900000 ∧ ∃ l : List Mb,xs = l.map mbA ∧ ∀ r ∈ l,r.d.length ≤ 9223372036854775807,jrA (leF gn ph (xs.map umb) v),[]⟩
 | _,_ => zdh
def Sle20 (f : FuncId) : Option zax :=
 match f with
 | 17 => some chGS
 | 29 => some plaGS
 | 32 => some ownGS
 | _ => none
theorem Sle20_ok : Fns Try.prog Sle20 := by
 intro f s h
 unfold Sle20 at h
 split at h
 · injection h with h; subst h; exact ⟨⟨_,Try.func17,by kernel_rfl,by kernel_rfl⟩,chG_sound⟩
 · injection h with h; subst h; exact ⟨⟨_,Try.func29,by kernel_rfl,by kernel_rfl⟩,plaG_sound⟩
 · injection h with h; subst h; exact ⟨⟨_,Try.func32,by kernel_rfl,by kernel_rfl⟩,ownG_sound⟩
 · cases h
def Ole20 (f : FuncId) : Option zax :=
 match f with
 | 41 => some (delS 3 zaI20)
 | 36 => some turS
 | _ => none
theorem Ole20_ok : FnsO Try.prog Ole20 := by
 intro f s h
 unfold Ole20 at h
 split at h
 · injection h with h; subst h; exact ⟨⟨_,Try.func41,by kernel_rfl,by kernel_rfl⟩,delGI20_sound⟩
 · injection h with h; subst h; exact ⟨⟨_,Try.func36,by kernel_rfl,by kernel_rfl⟩,tur_sound⟩
 · cases h
def lePl : XPlan := fun id => match id with
 | 10 => .opn [] 5
 | 11 => .opn [] 1
 | _ => .std
section
set_option maxRecDepth 100000
set_option maxHeartbeats 16000000
theorem le_sound : zct Try.prog 15 leS := by
 refine zce (S := Sle20) (SO := Ole20) (T := ty) zdz ty_ok Sle20_ok Ole20_ok Try.func15 (c := Try.f15.body.getD .skip) (by kernel_rfl) (fun xs pins hp _ => ?_)
 unfold leS at hp ⊢
 split at hp
 · rename_i gn ph xs f v _
   obtain ⟨hL0,l,rfl,hd⟩ := hp
   rw [List.length_map] at hL0
   have hle : (l.map mbA).length = l.length := by simp
   have hL : l.length ≤ 1000000 := by omega
   have hL9 : l.length ≤ 9223372036854775807 := by omega
   have hex : ∃ k : List Mb,l.map mbA = k.map mbA := ⟨l,rfl⟩
   have hxd : ∃ k : List Mb,l.map mbA = k.map mbA ∧ ∀ r ∈ k,r.d.length ≤ 9223372036854775807 := ⟨l,rfl,hd⟩
   have coeN : ∀ f,coe ty 29 (.sg 3 [] f) = .sg 3 [] f := fun f => rfl
   have hP1 : ixP 55 v = isD v := if_pos rfl
   rw [zak]
   unfold leF
   by_cases hch : chG gn ph l = 0
   · have q0 : decide (chG gn ph l = 0) = true := decide_eq_true hch
     obtain ⟨h16,⟨g0,g1⟩,_,_⟩ := ch_ok20 hch
     rw [if_pos hch]
     obtain ⟨I,hI2⟩ : ∃ I,l.findIdx (isD v) = I := ⟨_,rfl⟩
     rw [hI2]
     by_cases hf : I < l.length
     · rw [if_pos hf]
       have hpl : ixG (isD v) l = (I : Nat) := by unfold ixG; rw [hI2,if_pos hf]
       have q1 : decide ((I : Int) < 0) = false := decide_eq_false (by omega)
       by_cases hg : gn = 1099511627776
       · rw [if_pos hg]
         have q3 : decide (gn = 1099511627776) = true := decide_eq_true hg
         refine ⟨by simp,lePl,by kernel_rfl,?_⟩
         unfold Try.f15
         iterate 14
           try rw [zaa]
           try simp (config := { maxSteps := 3000000 }) only [go_sem,zaa,Nat.reduceAdd,Nat.reduceSub,Nat.reduceMul,Int.reduceToNat,reduceCtorEq,↓reduceIte,Int.reducePow,Nat.reducePow,Int.reduceMod,Nat.reduceLeDiff,Int.reduceLE,Int.reduceNe,Int.reduceEq,Nat.reduceEqDiff,Nat.reduceLT,Nat.reduceBEq,List.map_cons,List.map_nil,List.toList_toArray,Array.toList_append,Option.toArray_some,Option.toArray_none,Bool.and_self,-zaa,ty,Sle20,Ole20,lePl,chGS,plaGS,ownGS,delS,turS,zap,coeN,hle,hL,hL9,hex,hxd,zak,zac,zav,zah,fg_mb,hch,Int.toNat_natCast,Bool.not_true,Bool.not_false,decide_true,hP1,true_or,or_true,hpl,q1,q3]
           repeat (refine And.intro (by first | omega | exact mem_mb | exact ⟨by omega,by omega⟩ | exact ⟨rfl,rfl⟩ | (unfold top; omega)) ?_)
         try (refine ⟨_,Weak.refl _,?_⟩)
         try simp only [go_sem,zaa,Nat.reduceAdd,Nat.reduceSub,Nat.reduceMul,Int.reduceToNat,reduceCtorEq,↓reduceIte,Int.reducePow,Nat.reducePow,Int.reduceMod,Nat.reduceLeDiff,Int.reduceLE,Int.reduceNe,Int.reduceEq,Nat.reduceEqDiff,Nat.reduceLT,Nat.reduceBEq,List.map_cons,List.map_nil,List.toList_toArray,Array.toList_append,Option.toArray_some,Option.toArray_none,Bool.and_self,ty,Sle20,jrA,errJ,List.map_nil]
       · rw [if_neg hg]
         have q3 : decide (gn = 1099511627776) = false := decide_eq_false hg
         have hgb : (-4611686018427387904 ≤ gn ∧ gn ≤ 4611686018427387904) := by omega
         obtain ⟨M,hM⟩ : ∃ M,l.eraseIdx I = M := ⟨_,rfl⟩
         rw [hM]
         have hMl : l.length - 1 = M.length := by rw [← hM,List.length_eraseIdx_of_lt hf]
         have hMp : M.length < l.length := by omega
         have hem : empP (l.map mbA) = false := by cases l with | nil => simp at hf | cons _ _ => rfl
         have hpos : 0 < l.length := by omega
         have dpos : decide (0 < l.length) = true := decide_eq_true hpos
         have hn0 : 0 < M.length + 1 := by omega
         have dn0 : decide (0 < M.length + 1) = true := decide_eq_true hn0
         have e1 : ((I : Int) + 1 + 9223372036854775808) % 18446744073709551616 - 9223372036854775808 = (I : Int) + 1 := by omega
         have hdel : delL (l.map mbA) l.length I zaI20 = (M ++ [zMb]).map mbA := by
           have htk : (l.map mbA).take l.length = l.map mbA := List.take_of_length_le (by simp)
           unfold delL
           rw [htk,← hM,List.eraseIdx_eq_take_drop_succ,List.append_assoc,List.map_append,List.map_append,List.map_take,List.map_drop]
           rfl
         have hNe : ((M ++ [zMb]).map mbA).length = M.length + 1 := by simp
         have hMx : ∃ k : List Mb,(M ++ [zMb]).map mbA = k.map mbA := ⟨_,rfl⟩
         have hMt : (List.take M.length (M ++ [zMb])).map clrM ++ List.drop M.length (M ++ [zMb]) = M.map clrM ++ [zMb] := by
           rw [List.take_left' rfl,List.drop_left' rfl]
         have hIl : ((I : Int) < (l.length : Int)) := by omega
         generalize hN : (M ++ [zMb]) = N at *
         have hk1 : decide (0 + M.length ≤ ((M.map clrM ++ [zMb]).map mbA).length) = true := decide_eq_true (by simp)
         have hk2 : List.take M.length ((M.map clrM ++ [zMb]).map mbA) = (M.map clrM).map mbA := by
           rw [List.map_append,List.take_left' (by simp)]
         refine ⟨by simp,lePl,by kernel_rfl,?_⟩
         unfold Try.f15
         iterate 20
           try rw [zaa]
           try simp (config := { maxSteps := 3000000 }) only [go_sem,zaa,Nat.reduceAdd,Nat.reduceSub,Nat.reduceMul,Int.reduceToNat,reduceCtorEq,↓reduceIte,Int.reducePow,Nat.reducePow,Int.reduceMod,Nat.reduceLeDiff,Int.reduceLE,Int.reduceNe,Int.reduceEq,Nat.reduceEqDiff,Nat.reduceLT,Nat.reduceBEq,List.map_cons,List.map_nil,List.toList_toArray,Array.toList_append,Option.toArray_some,Option.toArray_none,Bool.and_self,-zaa,ty,Sle20,Ole20,lePl,chGS,plaGS,ownGS,delS,turS,zap,coeN,hle,hL,hL9,hex,hxd,zak,zac,zav,zah,fg_mb,hch,Int.toNat_natCast,Bool.not_true,Bool.not_false,decide_true,hP1,true_or,or_true,hpl,q1,q3,hem,hpos,dpos,hn0,dn0,e1,hdel,hNe,hMx,hMt,hMl,cond_false]
           repeat (refine And.intro (by first | omega | exact mem_mb | exact ⟨by omega,by omega⟩ | exact ⟨rfl,rfl⟩ | (unfold top; omega)) ?_)
         refine ⟨⟨by cases decide (0 < M.length) <;> rfl,⟨by omega,by omega⟩,hgb⟩,?_⟩
         refine ⟨_,weak_fg 148 3 34 ((M.map clrM ++ [zMb]).map mbA) rfl (zac _) (by simp [slot,AV.ids,idsL]),?_⟩
         simp only [fgL,fgH,AV.fg,Blk.fg,Nat.reduceBEq,cond_true,cond_false,Bool.and_true,beq_self_eq_true,Bool.true_and,List.drop_zero,fg_mb,hk1,hk2]
         simp only [go_sem,zaa,Nat.reduceAdd,Nat.reduceSub,Nat.reduceMul,Int.reduceToNat,reduceCtorEq,↓reduceIte,Int.reducePow,Nat.reducePow,Int.reduceMod,Nat.reduceLeDiff,Int.reduceLE,Int.reduceNe,Int.reduceEq,Nat.reduceEqDiff,Nat.reduceLT,Nat.reduceBEq,List.map_cons,List.map_nil,List.toList_toArray,Array.toList_append,Option.toArray_some,Option.toArray_none,Bool.and_self,ty,Sle20,jrA,zac,zah]
     · rw [if_neg hf]
       have hpl : ixG (isD v) l = -1 := by unfold ixG; rw [hI2,if_neg hf]
       have q1 : decide ((-1 : Int) < 0) = true := rfl
       refine ⟨by simp,lePl,by kernel_rfl,?_⟩
       unfold Try.f15
       iterate 12
         try rw [zaa]
         try simp (config := { maxSteps := 3000000 }) only [go_sem,zaa,Nat.reduceAdd,Nat.reduceSub,Nat.reduceMul,Int.reduceToNat,reduceCtorEq,↓reduceIte,Int.reducePow,Nat.reducePow,Int.reduceMod,Nat.reduceLeDiff,Int.reduceLE,Int.reduceNe,Int.reduceEq,Nat.reduceEqDiff,Nat.reduceLT,Nat.reduceBEq,List.map_cons,List.map_nil,List.toList_toArray,Array.toList_append,Option.toArray_some,Option.toArray_none,Bool.and_self,-zaa,ty,Sle20,Ole20,lePl,chGS,plaGS,ownGS,delS,turS,zap,coeN,hle,hL,hL9,hex,hxd,zak,zac,zav,zah,fg_mb,hch,Int.toNat_natCast,Bool.not_true,Bool.not_false,decide_true,hP1,true_or,or_true,hpl,q1]
         repeat (refine And.intro (by first | omega | exact mem_mb | exact ⟨by omega,by omega⟩ | exact ⟨rfl,rfl⟩ | (unfold top; omega)) ?_)
       try (refine ⟨_,Weak.refl _,?_⟩)
       try simp only [go_sem,zaa,Nat.reduceAdd,Nat.reduceSub,Nat.reduceMul,Int.reduceToNat,reduceCtorEq,↓reduceIte,Int.reducePow,Nat.reducePow,Int.reduceMod,Nat.reduceLeDiff,Int.reduceLE,Int.reduceNe,Int.reduceEq,Nat.reduceEqDiff,Nat.reduceLT,Nat.reduceBEq,List.map_cons,List.map_nil,List.toList_toArray,Array.toList_append,Option.toArray_some,Option.toArray_none,Bool.and_self,ty,Sle20,jrA,errJ,List.map_nil]
   · have q0 : decide (chG gn ph l = 0) = false := decide_eq_false hch
     rw [if_neg hch]
     have hch : True := trivial
     refine ⟨by simp,lePl,by kernel_rfl,?_⟩
     unfold Try.f15
     iterate 6
       try rw [zaa]
       try simp (config := { maxSteps := 3000000 }) only [go_sem,zaa,Nat.reduceAdd,Nat.reduceSub,Nat.reduceMul,Int.reduceToNat,reduceCtorEq,↓reduceIte,Int.reducePow,Nat.reducePow,Int.reduceMod,Nat.reduceLeDiff,Int.reduceLE,Int.reduceNe,Int.reduceEq,Nat.reduceEqDiff,Nat.reduceLT,Nat.reduceBEq,List.map_cons,List.map_nil,List.toList_toArray,Array.toList_append,Option.toArray_some,Option.toArray_none,Bool.and_self,-zaa,ty,Sle20,Ole20,lePl,chGS,plaGS,ownGS,delS,turS,zap,coeN,hle,hL,hL9,hex,hxd,zak,zac,zav,zah,fg_mb,hch,Int.toNat_natCast,Bool.not_true,Bool.not_false,decide_true,hP1,true_or,or_true,q0]
       repeat (refine And.intro (by first | omega | exact mem_mb | exact ⟨by omega,by omega⟩ | exact ⟨rfl,rfl⟩ | (unfold top; omega)) ?_)
     try (refine ⟨_,Weak.refl _,?_⟩)
     try simp only [go_sem,zaa,Nat.reduceAdd,Nat.reduceSub,Nat.reduceMul,Int.reduceToNat,reduceCtorEq,↓reduceIte,Int.reducePow,Nat.reducePow,Int.reduceMod,Nat.reduceLeDiff,Int.reduceLE,Int.reduceNe,Int.reduceEq,Nat.reduceEqDiff,Nat.reduceLT,Nat.reduceBEq,List.map_cons,List.map_nil,List.toList_toArray,Array.toList_append,Option.toArray_some,Option.toArray_none,Bool.and_self,ty,Sle20,jrA,errJ,List.map_nil]
 · exact hp.elim
end
end Go.Proofs.Ytfmiggmbebbloaa
namespace Go.Proofs.Ytfmiggmbebbloaa
open Ax
section
set_option maxRecDepth 100000
set_option maxHeartbeats 2000000
def clo0GS : zax
 | [.sg 3 [] true],[] => ⟨True,.sg 3 [] true,[]⟩
 | _,_ => zdh
theorem clo0G_sound : zct Try.prog 57 clo0GS := by
 refine zce (S := noS) (SO := noO) (T := ty) zdz ty_ok zfc noO_ok Try.func57 (c := Try.f57.body.getD .skip) (by kernel_rfl) (fun xs pins hp _ => ?_)
 unfold clo0GS at hp ⊢
 split at hp
 · refine ⟨by simp,cloPl0,by kernel_rfl,?_⟩
   unfold Try.f57
   simp only [go_sem,zaa,Nat.reduceAdd,Nat.reduceSub,Nat.reduceMul,Int.reduceToNat,reduceCtorEq,↓reduceIte,Int.reducePow,Nat.reducePow,Int.reduceMod,Nat.reduceLeDiff,Int.reduceLE,Int.reduceNe,Int.reduceEq,Nat.reduceEqDiff,Nat.reduceLT,Nat.reduceBEq,List.map_cons,List.map_nil,List.toList_toArray,Array.toList_append,Option.toArray_some,Option.toArray_none,Bool.and_self,ty,noS,cloPl0,specOp,List.length_nil]
   repeat (refine And.intro (by omega) ?_)
   intro b
   refine ⟨fun hb => ?_,fun hb => ?_⟩
   · refine ⟨_,weak_slot 2 (.sg 3 [] true) (fun w loc v h => sg_trueP 3 h),?_⟩
     simp only [go_sem,zaa,Nat.reduceAdd,Nat.reduceSub,Nat.reduceMul,Int.reduceToNat,reduceCtorEq,↓reduceIte,Int.reducePow,Nat.reducePow,Int.reduceMod,Nat.reduceLeDiff,Int.reduceLE,Int.reduceNe,Int.reduceEq,Nat.reduceEqDiff,Nat.reduceLT,Nat.reduceBEq,List.map_cons,List.map_nil,List.toList_toArray,Array.toList_append,Option.toArray_some,Option.toArray_none,Bool.and_self,ty,noS]
   · refine ⟨_,weak_slot 2 (.sg 3 [] true) (fun w loc v h => sg_trueP 3 h),?_⟩
     simp only [go_sem,zaa,Nat.reduceAdd,Nat.reduceSub,Nat.reduceMul,Int.reduceToNat,reduceCtorEq,↓reduceIte,Int.reducePow,Nat.reducePow,Int.reduceMod,Nat.reduceLeDiff,Int.reduceLE,Int.reduceNe,Int.reduceEq,Nat.reduceEqDiff,Nat.reduceLT,Nat.reduceBEq,List.map_cons,List.map_nil,List.toList_toArray,Array.toList_append,Option.toArray_some,Option.toArray_none,Bool.and_self,ty,noS]
 · exact hp.elim
def clo2sS : zax
 | [.sg 1 [.str a,.str b] f],[] => ⟨True,.ms 0 1 0 2,[.g 1 [.str a,.str b]]⟩
 | _,_ => zdh
theorem clo2s_sound : zct Try.prog 70 clo2sS := by
 refine zce (S := noS) (SO := noO) (T := ty) zdz ty_ok zfc noO_ok Try.func70 (c := Try.f70.body.getD .skip) (by kernel_rfl) (fun xs pins hp _ => ?_)
 unfold clo2sS at hp ⊢
 split at hp
 · rename_i a b f _
   refine ⟨by simp,cloPl,by kernel_rfl,?_⟩
   unfold Try.f70
   have h2 : ([AV.str a,AV.str b] : List AV).length = 2 := rfl
   have htop : 2 ≤ top := by unfold top; omega
   simp only [go_sem,zaa,Nat.reduceAdd,Nat.reduceSub,Nat.reduceMul,Int.reduceToNat,reduceCtorEq,↓reduceIte,Int.reducePow,Nat.reducePow,Int.reduceMod,Nat.reduceLeDiff,Int.reduceLE,Int.reduceNe,Int.reduceEq,Nat.reduceEqDiff,Nat.reduceLT,Nat.reduceBEq,List.map_cons,List.map_nil,List.toList_toArray,Array.toList_append,Option.toArray_some,Option.toArray_none,Bool.and_self,ty,noS,cloPl,specOp,h2]
   repeat (refine And.intro (by omega) ?_)
   intro b hb
   obtain rfl : b = false := by cases b with | false => rfl | true => exact absurd (hb rfl) (by decide)
   simp only [go_sem,zaa,Nat.reduceAdd,Nat.reduceSub,Nat.reduceMul,Int.reduceToNat,reduceCtorEq,↓reduceIte,Int.reducePow,Nat.reducePow,Int.reduceMod,Nat.reduceLeDiff,Int.reduceLE,Int.reduceNe,Int.reduceEq,Nat.reduceEqDiff,Nat.reduceLT,Nat.reduceBEq,List.map_cons,List.map_nil,List.toList_toArray,Array.toList_append,Option.toArray_some,Option.toArray_none,Bool.and_self,ty,noS,cloPl,specOp,h2,cond_false]
   repeat (refine And.intro (by first | exact htop | omega) ?_)
   refine ⟨_,Weak.refl _,?_⟩
   simp only [go_sem,zaa,Nat.reduceAdd,Nat.reduceSub,Nat.reduceMul,Int.reduceToNat,reduceCtorEq,↓reduceIte,Int.reducePow,Nat.reducePow,Int.reduceMod,Nat.reduceLeDiff,Int.reduceLE,Int.reduceNe,Int.reduceEq,Nat.reduceEqDiff,Nat.reduceLT,Nat.reduceBEq,List.map_cons,List.map_nil,List.toList_toArray,Array.toList_append,Option.toArray_some,Option.toArray_none,Bool.and_self,ty,noS,h2,cond_false]
 · exact hp.elim
end
def Sb20 (f : FuncId) : Option zax :=
 match f with
 | 70 => some clo2sS
 | 57 => some clo0GS
 | _ => none
theorem Sb20_ok : Fns Try.prog Sb20 := by
 intro f s h
 unfold Sb20 at h
 split at h
 · injection h with h; subst h; exact ⟨⟨_,Try.func70,by kernel_rfl,by kernel_rfl⟩,clo2s_sound⟩
 · injection h with h; subst h; exact ⟨⟨_,Try.func57,by kernel_rfl,by kernel_rfl⟩,clo0G_sound⟩
 · cases h
noncomputable def hCl200 (A : List AV) (lk : Nat → Option Blk) (nm : Nat) : Option (AV × Us) :=
 match A with
 | [.sg s [] f] => bif Nat.beq s 3 && f then some (.sg 3 [] true,[]) else none
 | _ => none
noncomputable def hSt20 (A : List AV) (lk : Nat → Option Blk) (nm : Nat) : Option (AV × Us) :=
 match A with
 | [.sg s [.str a,.str b] f] => bif Nat.beq s 1 then some (.ms nm 1 0 2,[(nm,some (.g 1 [.str a,.str b]))]) else none
 | _ => none
def So20 (f : FuncId) : Option zax :=
 match f with
 | 41 => some (delS 3 zaI20)
 | _ => none
theorem So20_ok : FnsO Try.prog So20 := by
 intro f s h
 unfold So20 at h
 split at h
 · injection h with h; subst h; exact ⟨⟨_,Try.func41,by kernel_rfl,by kernel_rfl⟩,delGI20_sound⟩
 · cases h
noncomputable def hDe20 (A : List AV) (lk : Nat → Option Blk) (nm : Nat) : Option (AV × Us) :=
 match A with
 | [.ms id s off len,.w (.int .i64 (.ofNat i)),.w (.int .i64 (.ofNat j))] => bif Nat.beq s 3 && (Nat.beq off 0 && (Nat.beq len 2 && (Nat.beq i 0 && Nat.beq j 1))) then (match lk id with
     | some (.g t [x,y]) => bif Nat.beq t 3 && (x.closed && y.closed) then some (.ms id 3 0 1,[(id,some (.g 3 [y,zaI20]))]) else none
     | _ => none) else none
 | _ => none
noncomputable def B20 : SpecB := fun g => bif Nat.beq g 41 then some hDe20 else bif Nat.beq g 70 then some hSt20 else bif Nat.beq g 57 then some hCl200 else none
theorem B20_ok : SpecBOk Try.prog Sb20 B20 := by
 intro g h e
 unfold B20 at e
 cases hd0 : Nat.beq g 41 with
 | true =>
   rw [hd0,cond_true] at e
   injection e with e
   subst e
   have hg := Nat.eq_of_beq_eq_true hd0
   subst hg
   refine .inr ⟨So20,So20_ok,fun A H lk nm hl x us hx => ?_⟩
   unfold hDe20 at hx
   split at hx
   · rename_i id s off len i j
     cases hc : (Nat.beq s 3 && (Nat.beq off 0 && (Nat.beq len 2 && (Nat.beq i 0 && Nat.beq j 1)))) with
     | false => rw [hc] at hx; cases hx
     | true =>
       rw [hc,cond_true] at hx
       simp only [Bool.and_eq_true] at hc
       obtain ⟨a1,a2,a3,a4,a5⟩ := hc
       have a1 := Nat.eq_of_beq_eq_true a1
       have a2 := Nat.eq_of_beq_eq_true a2
       have a3 := Nat.eq_of_beq_eq_true a3
       have a4 := Nat.eq_of_beq_eq_true a4
       have a5 := Nat.eq_of_beq_eq_true a5
       subst a1 a2 a3 a4 a5
       split at hx
       · rename_i t x0 y0 hk
         cases hc : (Nat.beq t 3 && (x0.closed && y0.closed)) with
         | false => rw [hc] at hx; cases hx
         | true =>
           rw [hc,cond_true] at hx
           simp only [Bool.and_eq_true] at hc
           obtain ⟨b1,b2,b3⟩ := hc
           have b1 := Nat.eq_of_beq_eq_true b1
           subst b1
           injection hx with hx
           injection hx with hx1 hx2
           subst hx1 hx2
           have hH : Ax.look H id = some (.g 3 [x0,y0]) := by rw [hl]; exact hk
           have hi := closed_ids x0 b2
           have hi2 := closed_ids y0 b3
           have hS : So20 41 = some (delS 3 zaI20) := rfl
           have hk : (Blk.g 3 [x0,y0]).closed = true := by simp [Blk.closed,closedL,b2,b3]
           have hr : reach H 12 [] [id] = [id] := by simp [reach,hH,Blk.idsB,hk]
           have hA : idsL [AV.ms id 3 0 2,AV.w (Value.int IntKind.i64 (Int.ofNat 0)),AV.w (Value.int IntKind.i64 (Int.ofNat 1))] = [id] := rfl
           unfold aOpen
           rw [hS,hA,hr]
           have hp : pinsR H (idxOf [id]) [id] = [.g 3 [x0,y0]] := by simp [pinsR,hH,Blk.renB,hk]
           have hn : renL (idxOf [id]) [AV.ms id 3 0 2,AV.w (Value.int IntKind.i64 (Int.ofNat 0)),AV.w (Value.int IntKind.i64 (Int.ofNat 1))] = [AV.ms 0 3 0 2,AV.w (Value.int IntKind.i64 0),AV.w (Value.int IntKind.i64 1)] := by simp [renL,AV.ren,idxOf,idx]
           have hd : delL [x0,y0] 2 (Int.toNat 0) zaI20 = [y0,zaI20] := rfl
           have hz : zaI20.closed = true := rfl
           have hzi : zaI20.ids = [] := rfl
           have hzr : ∀ g,zaI20.ren g = zaI20 := fun g => rfl
           simp only [hp,hn,delS,openOut,hd]
           refine ⟨⟨⟨by simp [nodup],?_,by simp [allIn,idsL,AV.ids],?_⟩,by simp,by simp,by simp⟩,rfl,fun k => ?_⟩
           · simp [walk,sidsLH,AV.sidsH,hH]
           · simp [pinsIn,hH,allIn,Blk.idsB,hk]
           · simp [backO,Blk.isGone,gOf,Blk.renB,Blk.closed,closedL,upd,zaq,hl,b3,hz,eq_comm]
       · cases hx
   · cases hx
 | false =>
   rw [hd0,cond_false] at e
   cases hs0 : Nat.beq g 70 with
   | true =>
     rw [hs0,cond_true] at e
     injection e with e
     subst e
     have hg := Nat.eq_of_beq_eq_true hs0
     subst hg
     refine .inl fun A H lk nm hl x us hx => ?_
     unfold hSt20 at hx
     split at hx
     · rename_i s a b f
       cases hc : Nat.beq s 1 with
       | false => rw [hc] at hx; cases hx
       | true =>
         rw [hc,cond_true] at hx
         have b1 := Nat.eq_of_beq_eq_true hc
         subst b1
         injection hx with hx
         injection hx with hx1 hx2
         subst hx1 hx2
         have hS : Sb20 70 = some clo2sS := rfl
         unfold aUser
         rw [hS]
         refine ⟨?_,?_,fun k => ?_⟩
         · simp [callOut,rootsL,AV.roots,lentIdsL,AV.lentIds,pinsOf,nodup,lendL,lend,clo2sS,closedB,Blk.closed,closedL,AV.closed]
         · simp [callOut,rootsL,AV.roots,lentIdsL,AV.lentIds,pinsOf,nodup,lendL,lend,clo2sS,AV.ren,gOf]
         · simp [callOut,rootsL,AV.roots,lentIdsL,AV.lentIds,pinsOf,nodup,lendL,lend,clo2sS,back,givenUp,dropAll,closedB,upd,hl,gOf,zaq,eq_comm (a := nm) (b := k)]
     · cases hx
   | false =>
     rw [hs0,cond_false] at e
     cases h0 : Nat.beq g 57 with
     | true =>
       rw [h0,cond_true] at e
       injection e with e
       subst e
       have hg := Nat.eq_of_beq_eq_true h0
       subst hg
       refine .inl fun A H lk nm hl x us hx => ?_
       unfold hCl200 at hx
       split at hx
       · rename_i s f
         cases hc : (Nat.beq s 3 && f) with
         | false => rw [hc] at hx; cases hx
         | true =>
           rw [hc,cond_true] at hx
           simp only [Bool.and_eq_true] at hc
           obtain ⟨b1,rfl⟩ := hc
           have b1 := Nat.eq_of_beq_eq_true b1
           subst b1
           injection hx with hx
           injection hx with hx1 hx2
           subst hx1 hx2
           have hS : Sb20 57 = some clo0GS := rfl
           unfold aUser
           rw [hS]
           simp [callOut,rootsL,AV.roots,lentIdsL,AV.lentIds,pinsOf,nodup,lendL,lend,clo0GS,AV.ren,back,givenUp,dropAll,closedB,upd,hl]
       · cases hx
     | false =>
       rw [h0,cond_false] at e
       cases e
end Go.Proofs.Ytfmiggmbebbloaa
namespace Go.Proofs.Ytfmiggmbebbloaa
open Ax
section
set_option maxRecDepth 100000
theorem aw20_sound : zct Try.prog 7 yesS := yes_with Sb20_ok B20_ok (by kernel_rfl)
end
end Go.Proofs.Ytfmiggmbebbloaa
namespace Go.Proofs.Ytfmiggmbebbloaa
open Ax
theorem bl_irr : ∀ g : List UInt8,Op.bytesLess g g = false
 | [] => rfl
 | a :: r => by
   have h1 : ¬ a < a := by simp
   simp [Op.bytesLess,bl_irr r,h1]
theorem bl_trans : ∀ {x y z : List UInt8},Op.bytesLess x y = true → Op.bytesLess y z = true → Op.bytesLess x z = true
 | [],[],_,h1,_ => by simp [Op.bytesLess] at h1
 | _ :: _,[],_,h1,_ => by simp [Op.bytesLess] at h1
 | _,_ :: _,[],_,h2 => by simp [Op.bytesLess] at h2
 | [],_ :: _,_ :: _,_,_ => rfl
 | a :: x,b :: y,c :: z,h1,h2 => by
   simp only [Op.bytesLess,Bool.or_eq_true,decide_eq_true_eq,Bool.and_eq_true,beq_iff_eq] at *
   rcases h1 with h1 | ⟨rfl,h1⟩
   · rcases h2 with h2 | ⟨rfl,h2⟩
     · rw [UInt8.lt_iff_toNat_lt] at *
       exact .inl (by omega)
     · exact .inl h1
   · rcases h2 with h2 | ⟨rfl,h2⟩
     · exact .inl h2
     · exact .inr ⟨rfl,bl_trans h1 h2⟩
theorem leD_asym {a v : List UInt8} (h : leD a v = true) (hn : a ≠ v) : leD v a = false := by
 unfold leD at h ⊢
 simp only [Bool.or_eq_true,decide_eq_true_eq,Bool.or_eq_false_iff,decide_eq_false_iff_not] at h ⊢
 have h1 : Op.bytesLess a v = true := by
   rcases h with h | h
   · exact h
   · exact absurd h hn
 refine ⟨?_,fun e => hn e.symm⟩
 cases hb : Op.bytesLess v a with
 | false => rfl
 | true =>
   have := bl_trans h1 hb
   rw [bl_irr] at this
   cases this
theorem ins_cons (v : List UInt8) (now : Int) (a : Mb) (r : List Mb) : insM v now (a :: r) = if zfa v a = true then ⟨v,now,false⟩ :: a :: r else a :: insM v now r := by
 unfold insM
 rw [List.findIdx_cons]
 cases h : zfa v a with
 | true => simp
 | false => simp
theorem ins_nil (v : List UInt8) (now : Int) : insM v now [] = [⟨v,now,false⟩] := rfl
def aft (p : Option (List UInt8)) (v : List UInt8) : Prop := ∀ q,p = some q → leD v q = false
theorem rows_cons (p : Option (List UInt8)) (a : Mb) (r : List Mb) : zdf p (a :: r) = true ↔ rowB a = true ∧ aft p a.d ∧ zdf (some a.d) r = true := by
 cases p with
 | none => simp [zdf,aft]
 | some q => simp [zdf,aft]
theorem rows_ins {v : List UInt8} {now : Int} (hI : idB v = true) (hT : timB now = true) : ∀ (l : List Mb) (p : Option (List UInt8)),zdf p l = true → aft p v → (∀ m ∈ l,m.d ≠ v) → zdf p (insM v now l) = true
 | [],p,_,ha,_ => by
   rw [ins_nil,rows_cons]
   refine ⟨?_,ha,?_⟩
   · unfold rowB; rw [hI,hT]; rfl
   · rfl
 | a :: r,p,h,ha,hn => by
   rw [rows_cons] at h
   obtain ⟨h1,h2,h3⟩ := h
   rw [ins_cons]
   cases hp : zfa v a with
   | true =>
     rw [if_pos rfl,rows_cons,rows_cons]
     refine ⟨?_,ha,h1,?_,h3⟩
     · unfold rowB; rw [hI,hT]; rfl
     · intro q e
       injection e with e
       subst e
       unfold zfa at hp
       simpa using hp
   | false =>
     rw [if_neg (by simp),rows_cons]
     refine ⟨h1,h2,rows_ins hI hT r _ h3 ?_ (fun m hm => hn m (List.mem_cons_of_mem _ hm))⟩
     intro q e
     injection e with e
     subst e
     unfold zfa at hp
     exact leD_asym (by simpa using hp) (hn a (by simp))
theorem rows_clr : ∀ (l : List Mb) (p : Option (List UInt8)),zdf p (l.map clrM) = zdf p l
 | [],none => rfl
 | [],some _ => rfl
 | a :: r,none => by
   show (rowB (clrM a) && zdf (some (clrM a).d) (r.map clrM)) = _
   rw [rows_clr r]; rfl
 | a :: r,some q => by
   show (rowB (clrM a) && (!(leD (clrM a).d q) && zdf (some (clrM a).d) (r.map clrM))) = _
   rw [rows_clr r]; rfl
theorem ins_find {v : List UInt8} {now : Int} : ∀ (l : List Mb),(∀ m ∈ l,m.d ≠ v) → ((insM v now l).map clrM).findIdx (isD v) < ((insM v now l).map clrM).length ∧ ((insM v now l).map clrM).eraseIdx (((insM v now l).map clrM).findIdx (isD v)) = l.map clrM
 | [],_ => by
   have h1 : isD v (clrM ⟨v,now,false⟩) = true := by simp [isD,clrM]
   rw [ins_nil,List.map_cons,List.findIdx_cons,h1]
   simp
 | a :: r,hn => by
   rw [ins_cons]
   cases hp : zfa v a with
   | true =>
     have h1 : isD v (clrM ⟨v,now,false⟩) = true := by simp [isD,clrM]
     rw [if_pos rfl,List.map_cons,List.findIdx_cons,h1]
     simp
   | false =>
     have h1 : isD v (clrM a) = false := decide_eq_false (hn a (by simp))
     have ih := ins_find r (fun m hm => hn m (List.mem_cons_of_mem _ hm)) (now := now)
     rw [if_neg (by simp),List.map_cons,List.findIdx_cons,h1]
     simp only [cond_false]
     refine ⟨by simpa using ih.1,?_⟩
     rw [List.eraseIdx_cons_succ,ih.2]
     rfl
theorem not_there {v : List UInt8} {l : List Mb} (h : ¬ l.findIdx (isD v) < l.length) : ∀ m ∈ l,m.d ≠ v := by
 intro m hm e
 refine h (List.findIdx_lt_length_of_exists ⟨m,hm,?_⟩)
 unfold isD
 rw [e]
 exact decide_eq_true rfl
theorem clr_clr (l : List Mb) : (l.map clrM).map clrM = l.map clrM := by
 rw [List.map_map]
 rfl
theorem clr_ins_len (v : List UInt8) (now : Int) (l : List Mb) : ((insM v now l).map clrM).length = l.length + 1 := by
 have := List.findIdx_le_length (p := zfa v) (xs := l)
 unfold insM
 simp only [List.length_map,List.length_append,List.length_take,List.length_cons,List.length_drop]
 omega
theorem ph_ins (v : List UInt8) (now : Int) (l : List Mb) : phB 1 ((insM v now l).map clrM) = true := by
 have hlen := clr_ins_len v now l
 unfold phB
 rw [if_neg (by omega)]
 have : allY ((insM v now l).map clrM) = false := by
   generalize hX : (insM v now l) = X at *
   cases X with
   | nil => simp at hlen
   | cons a r =>
     have h1 : offY (clrM a) = true := rfl
     unfold allY
     rw [List.map_cons,List.findIdx_cons,h1]
     simp
 rw [this]
 simp
theorem le_ins {gn ph : Int} {l : List Mb} {v : List UInt8} {now : Int} (hc : chG gn ph l = 0) (hI : idB v = true) (hT : timB now = true) (h16 : l.length < 16) (hn : ¬ l.findIdx (isD v) < l.length) (hg : gn ≤ 1000) :
   leF (gn + 1) 1 ((insM v now l).map clrM) v = ⟨gn + 1 + 1,if l.length = 0 then 0 else 1,l.map clrM,false,0⟩ := by
 obtain ⟨_,⟨g0,_⟩,_,hr⟩ := ch_ok20 hc
 have hnt := not_there hn
 have h1 : chG (gn + 1) 1 ((insM v now l).map clrM) = 0 := by
   unfold chG chB
   have ht : timB (gn + 1) = true := by unfold timB; rw [decide_eq_true (by omega),decide_eq_true (by omega)]; rfl
   rw [clr_ins_len,ph_ins,rows_clr,rows_ins hI hT l none hr (fun q e => by cases e) hnt,ht,decide_eq_true (by omega)]
   rfl
 have h2 := ins_find (now := now) l hnt
 unfold leF
 rw [if_pos h1,if_pos h2.1,if_neg (by omega),h2.2,clr_clr]
 simp
theorem jo_ok20 {gn ph : Int} {l : List Mb} {v : List UInt8} {now : Int} (h : (joF gn ph l v now).e = 0) :
   chG gn ph l = 0 ∧ idB v = true ∧ timB now = true ∧
   ((l.findIdx (isD v) < l.length ∧ joF gn ph l v now = ⟨gn,ph,l.set (l.findIdx (isD v)) (seenM now (mbI l (l.findIdx (isD v)))),false,0⟩) ∨
    (¬ l.findIdx (isD v) < l.length ∧ l.length < 16 ∧ joF gn ph l v now = ⟨gn + 1,1,(insM v now l).map clrM,false,0⟩)) := by
 unfold joF at h ⊢
 by_cases hc : chG gn ph l = 0
 · rw [if_pos hc] at h ⊢
   by_cases hI : idB v = true
   · rw [if_pos hI] at h ⊢
     by_cases hT : timB now = true
     · rw [if_pos hT] at h ⊢
       refine ⟨hc,hI,hT,?_⟩
       by_cases hf : l.findIdx (isD v) < l.length
       · rw [if_pos hf]
         exact .inl ⟨hf,rfl⟩
       · rw [if_neg hf] at h ⊢
         by_cases h9 : 16 ≤ l.length
         · rw [if_pos h9] at h
           exact absurd h (by decide)
         · rw [if_neg h9] at h ⊢
           by_cases hg : gn = 1099511627776
           · rw [if_pos hg] at h
             exact absurd h (by decide)
           · rw [if_neg hg]
             exact .inr ⟨hf,by omega,rfl⟩
     · rw [if_neg hT] at h
       exact absurd h (by decide)
   · rw [if_neg hI] at h
     exact absurd h (by decide)
 · rw [if_neg hc] at h
   exact absurd h hc
theorem ins_mem {v : List UInt8} {now : Int} {l : List Mb} {b : Nat} (hv : v.length ≤ b) (hd : ∀ r ∈ l,r.d.length ≤ b) : ∀ r ∈ (insM v now l).map clrM,r.d.length ≤ b := by
 intro r hr
 obtain ⟨m,hm,rfl⟩ := List.mem_map.1 hr
 show m.d.length ≤ b
 unfold insM at hm
 rcases List.mem_append.1 hm with hm | hm
 · exact hd m (List.mem_of_mem_take hm)
 · rcases List.mem_cons.1 hm with rfl | hm
   · exact hv
   · exact hd m (List.mem_of_mem_drop hm)
theorem set_mem20 {v : List UInt8} {now : Int} {l : List Mb} {b : Nat} (hd : ∀ r ∈ l,r.d.length ≤ b) (i : Nat) (hi : i < l.length) : ∀ r ∈ l.set i (seenM now (mbI l i)),r.d.length ≤ b := by
 intro r hr
 rcases List.mem_or_eq_of_mem_set hr with hr | rfl
 · exact hd r hr
 · show (mbI l i).d.length ≤ b
   unfold mbI
   rw [List.getElem?_eq_getElem hi]
   exact hd _ (List.getElem_mem hi)
theorem jo_step {gn ph : Int} {l : List Mb} {v : List UInt8} {now : Int} {n b : Nat} (h : (joF gn ph l v now).e = 0) (hv : v.length ≤ b) (hd : ∀ r ∈ l,r.d.length ≤ b) (hg : 0 ≤ gn ∧ gn ≤ n) (hl : l.length ≤ n) :
   (0 ≤ (joF gn ph l v now).g ∧ (joF gn ph l v now).g ≤ (n + 1 : Nat)) ∧ (joF gn ph l v now).l.length ≤ n + 1 ∧ (∀ r ∈ (joF gn ph l v now).l,r.d.length ≤ b) ∧ (joF gn ph l v now).f = false := by
 obtain ⟨_,_,_,h2 | h2⟩ := jo_ok20 h
 · rw [h2.2]
   refine ⟨⟨hg.1,?_⟩,?_,set_mem20 (v := v) hd _ h2.1,rfl⟩
   · show gn ≤ _; omega
   · show (l.set _ _).length ≤ _; rw [List.length_set]; omega
 · rw [h2.2.2]
   refine ⟨⟨?_,?_⟩,?_,ins_mem hv hd,rfl⟩
   · show 0 ≤ gn + 1; omega
   · show gn + 1 ≤ _; omega
   · show ((insM v now l).map clrM).length ≤ _; rw [clr_ins_len]; omega
end Go.Proofs.Ytfmiggmbebbloaa
namespace Go.Proofs.Ytfmiggmbebbloaa
open Ax
structure Ac where
 k : Int
 d : List UInt8
 g : Int
 p : Int
 n : Int
deriving DecidableEq
def acA (r : Ac) : AV := .agg [.w (.int .u8 r.k),.str r.d,.w (.int .i64 r.g),.w (.int .i64 r.p),.w (.int .i64 r.n)]
theorem zbb : ∀ (l : List Ac),closedL (l.map acA) = true
 | [] => rfl
 | x :: r => by simp only [List.map_cons,closedL,acA,AV.closed,Bool.true_and]; exact zbb r
theorem zbr (g : Nat → Nat) : ∀ (l : List Ac),renL g (l.map acA) = l.map acA
 | [] => rfl
 | x :: r => by simp only [List.map_cons,renL,zbr g r]; rfl
theorem zec : ∀ (l : List Ac),idsL (l.map acA) = []
 | [] => rfl
 | x :: r => by simp only [List.map_cons,idsL,zec r]; rfl
theorem slot_ac : ∀ (l : List Ac) (i : Nat) (h : i < l.length),slot (l.map acA) i = acA l[i]
 | p :: ps,0,h => rfl
 | p :: ps,i + 1,h => by
   simp only [List.map_cons,slot,List.getElem_cons_succ]
   exact slot_ac ps i (by simpa using h)
def retS : zax
 | [.sg 5 xs f0,.str v,.w (.int .i64 now)],[] => ⟨(xs.length ≤ 9223372036854775807 ∧ ∃ l : List Ac,xs = l.map acA ∧ ∀ r ∈ l,r.d.length ≤ 9223372036854775807) ∧ v.length ≤ 9223372036854775807,.w (.bool true),[]⟩
 | _,_ => zdh
def Sre20 (f : FuncId) : Option zax :=
 match f with
 | 7 => some yesS
 | 12 => some joS
 | 18 => some fndGS
 | 15 => some leS
 | _ => none
theorem Sre20_ok : Fns Try.prog Sre20 := by
 intro f s h
 unfold Sre20 at h
 split at h
 · injection h with h; subst h; exact ⟨⟨_,Try.func7,by kernel_rfl,by kernel_rfl⟩,aw20_sound⟩
 · injection h with h; subst h; exact ⟨⟨_,Try.func12,by kernel_rfl,by kernel_rfl⟩,jo_sound⟩
 · injection h with h; subst h; exact ⟨⟨_,Try.func18,by kernel_rfl,by kernel_rfl⟩,fndG_sound⟩
 · injection h with h; subst h; exact ⟨⟨_,Try.func15,by kernel_rfl,by kernel_rfl⟩,le_sound⟩
 · cases h
def zds : Plan := fun id => match id with
 | 9 => some [(11,15)]
 | 24 => some []
 | _ => none
section
set_option maxRecDepth 100000
set_option maxHeartbeats 16000000
theorem ret_law : zct Try.prog 5 retS := by
 refine fn_soundF (S := Sre20) (T := ty) (pl := zds) zdz ty_ok Sre20_ok Try.func5 (c := Try.f5.body.getD .skip) (by kernel_rfl) (by kernel_rfl) (fun xs pins hp _ => ?_)
 unfold retS at hp ⊢
 split at hp
 · rename_i xs f0 v now _
   obtain ⟨⟨hA,cs,rfl,has⟩,hv⟩ := hp
   rw [List.length_map] at hA
   have hal : (cs.map acA).length = cs.length := by simp
   have cM0 : ∀ f,coe ty 29 (.sg 3 [] f) = .sg 3 [] f := fun f => rfl
   have c5 : ∀ (l : List Ac) f,coe ty 38 (.sg 5 (l.map acA) f) = .sg 5 (l.map acA) f := fun l f => by cases l <;> rfl
   have hle := hal
   have hL := hA
   have hL9 := hA
   have hLj := hA
   have hxd := hA
   have hex := hA
   refine ⟨by simp,?_⟩
   unfold Try.f5
   by_cases h30 : 30 < cs.length
   · have d0 : decide ((30 : Int) < (cs.length : Int)) = true := decide_eq_true (by omega)
     simp (config := { maxSteps := 3000000 }) only [go_sem,zaf,Nat.reduceAdd,Nat.reduceSub,Nat.reduceMul,Int.reduceToNat,reduceCtorEq,↓reduceIte,Int.reducePow,Nat.reducePow,Int.reduceMod,Nat.reduceLeDiff,Int.reduceLE,Int.reduceNe,Int.reduceEq,Nat.reduceEqDiff,Nat.reduceLT,Nat.reduceBEq,List.map_cons,List.map_nil,List.toList_toArray,Array.toList_append,Option.toArray_some,Option.toArray_none,Bool.and_self,ty,Sre20,zds,joS,fndGS,leS,yesS,jrA,zap,cM0,c5,hle,hL,hL9,hLj,hxd,hex,zak,zac,zav,zah,zbb,zec,zbr,Int.toNat_natCast,Bool.not_true,Bool.not_false,decide_true,true_or,or_true,hal,d0]
     exact zbg 6 rfl
   · have d0 : decide ((30 : Int) < (cs.length : Int)) = false := decide_eq_false (by omega)
     by_cases h60 : 60 < v.length
     · have d1 : decide ((60 : Int) < (v.length : Int)) = true := decide_eq_true (by omega)
       simp (config := { maxSteps := 3000000 }) only [go_sem,zaf,Nat.reduceAdd,Nat.reduceSub,Nat.reduceMul,Int.reduceToNat,reduceCtorEq,↓reduceIte,Int.reducePow,Nat.reducePow,Int.reduceMod,Nat.reduceLeDiff,Int.reduceLE,Int.reduceNe,Int.reduceEq,Nat.reduceEqDiff,Nat.reduceLT,Nat.reduceBEq,List.map_cons,List.map_nil,List.toList_toArray,Array.toList_append,Option.toArray_some,Option.toArray_none,Bool.and_self,ty,Sre20,zds,joS,fndGS,leS,yesS,jrA,zap,cM0,c5,hle,hL,hL9,hLj,hxd,hex,zak,zac,zav,zah,zbb,zec,zbr,Int.toNat_natCast,Bool.not_true,Bool.not_false,decide_true,true_or,or_true,hal,d0,d1,hv]
       exact zbg 6 rfl
     · have d1 : decide ((60 : Int) < (v.length : Int)) = false := decide_eq_false (by omega)
       simp (config := { maxSteps := 3000000 }) only [go_sem,zaf,Nat.reduceAdd,Nat.reduceSub,Nat.reduceMul,Int.reduceToNat,reduceCtorEq,↓reduceIte,Int.reducePow,Nat.reducePow,Int.reduceMod,Nat.reduceLeDiff,Int.reduceLE,Int.reduceNe,Int.reduceEq,Nat.reduceEqDiff,Nat.reduceLT,Nat.reduceBEq,List.map_cons,List.map_nil,List.toList_toArray,Array.toList_append,Option.toArray_some,Option.toArray_none,Bool.and_self,ty,Sre20,zds,joS,fndGS,leS,yesS,jrA,zap,cM0,c5,hle,hL,hL9,hLj,hxd,hex,zak,zac,zav,zah,zbb,zec,zbr,Int.toNat_natCast,Bool.not_true,Bool.not_false,decide_true,true_or,or_true,hal,d0,d1,hv]
       refine awpF_loopW ⟨fun m σ => ∃ (i : Nat) (gn ph : Int) (l : List Mb) (f : Bool),m = cs.length - i ∧ i ≤ cs.length ∧ (0 ≤ gn ∧ gn ≤ i) ∧ l.length ≤ i ∧ (∀ r ∈ l,r.d.length ≤ 60) ∧
         σ = ⟨[.sg 5 (cs.map acA) f0,.str v,.w (.int .i64 now),.junk,.junk,.junk,.w (.bool false),.rf 4 3 0 0,.w (.int .i64 i),.junk,.junk,.junk,.junk,.junk,.junk,.junk,.junk,.junk,.junk,.junk,.junk,.junk,.junk,.junk,.junk,.junk,.junk,.junk,.junk,.junk,.junk,.junk,.junk,.junk,.junk,.junk,.junk,.junk,.junk,.junk,.junk,.junk,.junk,.junk,.junk,.junk,.junk,.junk,.junk,.junk,.junk,.junk,.junk,.junk,.junk,.junk,.junk,.junk,.junk,.junk,.junk,.junk,.junk,.junk,.junk,.junk,.junk,.junk,.junk,.junk,.junk,.junk,.junk,.junk,.junk,.junk,.junk,.junk,.junk,.junk,.junk,.junk,.junk,.junk,.junk,.junk,.junk,.junk,.junk,.junk,.junk,.junk,.junk,.junk,.junk,.junk,.junk,.junk,.junk,.junk,.junk,.junk,.junk,.junk,.junk,.junk,.junk,.junk,.junk,.junk,.junk,.junk,.junk,.junk,.junk,.junk,.junk,.junk,.junk,.junk,.junk,.junk,.junk,.junk,.junk,.junk,.junk,.junk,.junk,.junk,.junk,.junk,.junk,.junk,.junk,.junk,.junk,.junk,.junk,.junk,.junk,.junk,.junk,.junk,.junk,.junk,.junk,.junk,.junk,.junk,.junk,.junk,.junk,.junk,.junk,.junk,.junk,.junk,.junk,.junk,.junk,.junk],[(4,.g 3 [.agg [.w (.int .i64 gn),.w (.int .u8 ph),.sg 3 (l.map mbA) f]])],5⟩,?_,?_⟩
       · refine ⟨_,_,zaz [0,1,2,3,76] rfl rfl rfl ?_ ?_,0,0,0,[],true,rfl,by omega,⟨by omega,by omega⟩,by simp,by simp,rfl⟩
         · simp only [ssT,zbi,zbj,setSlot,gOf,AV.ren,renL,Blk.ren,Ax.look,Ax.put,reduceCtorEq,↓reduceIte,Nat.reduceEqDiff,Nat.reduceLT,Nat.reduceAdd,List.length_append,List.length_cons,List.length_nil,Option.some.injEq,zbr]; try simp
         · simp only [ssT,zbi,zbj,setSlot,gOf,AV.ren,renL,Blk.ren,Ax.look,Ax.put,reduceCtorEq,↓reduceIte,Nat.reduceEqDiff,Nat.reduceLT,Nat.reduceAdd,List.length_append,List.length_cons,List.length_nil,Option.some.injEq,zbr]; try simp
       · rintro m σ ⟨i,gn,ph,l,f,rfl,hi,⟨g0,g1⟩,hl0,hd,rfl⟩
         have hle : (l.map mbA).length = l.length := by simp
         have hL : l.length ≤ 1000000 := by omega
         have hL9 : l.length ≤ 9223372036854775807 := by omega
         have hLj : l.length ≤ 900000 := by omega
         have hd9 : ∀ r ∈ l,r.d.length ≤ 9223372036854775807 := fun r hr => by have := hd r hr; omega
         have hex : ∃ k : List Mb,l.map mbA = k.map mbA := ⟨l,rfl⟩
         have hxd : ∃ k : List Mb,l.map mbA = k.map mbA ∧ ∀ r ∈ k,r.d.length ≤ 9223372036854775807 := ⟨l,rfl,hd9⟩
         by_cases hia : i < cs.length
         · have d2 : decide ((i : Int) < (cs.length : Int)) = true := decide_eq_true (by omega)
           have e1 : ((i : Int) + 1 + 9223372036854775808) % 18446744073709551616 - 9223372036854775808 = ((i + 1 : Nat) : Int) := by omega
           have hs1 := slot_ac cs i hia
           have hda := has _ (List.getElem_mem hia)
           obtain ⟨r,hr⟩ : ∃ r,cs[i] = r := ⟨_,rfl⟩
           rw [hr] at hs1 hda
           obtain ⟨rk,rd,rg,rp,rn⟩ := r
           have hs1 : slot (cs.map acA) i = .agg [.w (.int .u8 rk),.str rd,.w (.int .i64 rg),.w (.int .i64 rp),.w (.int .i64 rn)] := hs1
           have hda : rd.length ≤ 9223372036854775807 := hda
           by_cases h6 : 60 < rd.length
           · have d3 : decide ((60 : Int) < (rd.length : Int)) = true := decide_eq_true (by omega)
             simp (config := { maxSteps := 3000000 }) only [go_sem,zaf,Nat.reduceAdd,Nat.reduceSub,Nat.reduceMul,Int.reduceToNat,reduceCtorEq,↓reduceIte,Int.reducePow,Nat.reducePow,Int.reduceMod,Nat.reduceLeDiff,Int.reduceLE,Int.reduceNe,Int.reduceEq,Nat.reduceEqDiff,Nat.reduceLT,Nat.reduceBEq,List.map_cons,List.map_nil,List.toList_toArray,Array.toList_append,Option.toArray_some,Option.toArray_none,Bool.and_self,ty,Sre20,zds,joS,fndGS,leS,yesS,jrA,zap,cM0,c5,hle,hL,hL9,hLj,hxd,hex,zak,zac,zav,zah,zbb,zec,zbr,Int.toNat_natCast,Bool.not_true,Bool.not_false,decide_true,true_or,or_true,hal,d2,d3,hs1,hda,e1]
             repeat (first | refine And.intro (by omega) ?_ | refine And.intro ⟨by omega,by omega⟩ ?_)
             refine ⟨_,Weak.refl _,?_⟩
             simp (config := { maxSteps := 3000000 }) only [go_sem,zaf,Nat.reduceAdd,Nat.reduceSub,Nat.reduceMul,Int.reduceToNat,reduceCtorEq,↓reduceIte,Int.reducePow,Nat.reducePow,Int.reduceMod,Nat.reduceLeDiff,Int.reduceLE,Int.reduceNe,Int.reduceEq,Nat.reduceEqDiff,Nat.reduceLT,Nat.reduceBEq,List.map_cons,List.map_nil,List.toList_toArray,Array.toList_append,Option.toArray_some,Option.toArray_none,Bool.and_self,ty,Sre20,zds]
             exact zbg 6 rfl
           · have d3 : decide ((60 : Int) < (rd.length : Int)) = false := decide_eq_false (by omega)
             have hst := jo_step (gn := gn) (ph := ph) (l := l) (v := rd) (now := rn) (n := i) (b := 60)
             obtain ⟨X,hX⟩ : ∃ X,joF gn ph l rd rn = X := ⟨_,rfl⟩
             rw [hX] at hst
             obtain ⟨xg,xp,xl,xf,xe⟩ := X
             have hxc := zac xl
             by_cases hxe : xe = 0
             · obtain ⟨k1,k2,k3,k4⟩ := hst hxe (by omega) hd ⟨g0,g1⟩ hl0
               have k4 : xf = false := k4
               subst k4
               have d4 : decide (xe = 0) = true := decide_eq_true hxe
               simp (config := { maxSteps := 3000000 }) only [go_sem,zaf,Nat.reduceAdd,Nat.reduceSub,Nat.reduceMul,Int.reduceToNat,reduceCtorEq,↓reduceIte,Int.reducePow,Nat.reducePow,Int.reduceMod,Nat.reduceLeDiff,Int.reduceLE,Int.reduceNe,Int.reduceEq,Nat.reduceEqDiff,Nat.reduceLT,Nat.reduceBEq,List.map_cons,List.map_nil,List.toList_toArray,Array.toList_append,Option.toArray_some,Option.toArray_none,Bool.and_self,ty,Sre20,zds,joS,fndGS,leS,yesS,jrA,zap,cM0,c5,hle,hL,hL9,hLj,hxd,hex,zak,zac,zav,zah,zbb,zec,zbr,Int.toNat_natCast,Bool.not_true,Bool.not_false,decide_true,true_or,or_true,hal,d2,d3,d4,hs1,hda,e1,hX]
               repeat (first | refine And.intro (by omega) ?_ | refine And.intro ⟨by omega,by omega⟩ ?_)
               refine ⟨cs.length - (i + 1),_,by omega,zaz [0,1,2,3,4] rfl rfl rfl ?_ ?_,i + 1,xg,xp,xl,false,rfl,by omega,k1,k2,k3,rfl⟩
               · simp only [ssT,zbi,zbj,setSlot,gOf,AV.ren,renL,Blk.ren,Ax.look,Ax.put,reduceCtorEq,↓reduceIte,Nat.reduceEqDiff,Nat.reduceLT,Nat.reduceAdd,List.length_append,List.length_cons,List.length_nil,Option.some.injEq,zbr,zah]; try simp
               · simp only [ssT,zbi,zbj,setSlot,gOf,AV.ren,renL,Blk.ren,Ax.look,Ax.put,reduceCtorEq,↓reduceIte,Nat.reduceEqDiff,Nat.reduceLT,Nat.reduceAdd,List.length_append,List.length_cons,List.length_nil,Option.some.injEq,zbr,zah]; try simp
             · have d4 : decide (xe = 0) = false := decide_eq_false hxe
               simp (config := { maxSteps := 3000000 }) only [go_sem,zaf,Nat.reduceAdd,Nat.reduceSub,Nat.reduceMul,Int.reduceToNat,reduceCtorEq,↓reduceIte,Int.reducePow,Nat.reducePow,Int.reduceMod,Nat.reduceLeDiff,Int.reduceLE,Int.reduceNe,Int.reduceEq,Nat.reduceEqDiff,Nat.reduceLT,Nat.reduceBEq,List.map_cons,List.map_nil,List.toList_toArray,Array.toList_append,Option.toArray_some,Option.toArray_none,Bool.and_self,ty,Sre20,zds,joS,fndGS,leS,yesS,jrA,zap,cM0,c5,hle,hL,hL9,hLj,hxd,hex,zak,zac,zav,zah,zbb,zec,zbr,Int.toNat_natCast,Bool.not_true,Bool.not_false,decide_true,true_or,or_true,hal,d2,d3,d4,hs1,hda,e1,hX]
               repeat (first | refine And.intro (by omega) ?_ | refine And.intro ⟨by omega,by omega⟩ ?_)
               refine ⟨cs.length - (i + 1),_,by omega,zaz [0,1,2,3,4] rfl rfl rfl ?_ ?_,i + 1,gn,ph,l,f,rfl,by omega,⟨by omega,by omega⟩,by omega,hd,rfl⟩
               · simp only [ssT,zbi,zbj,setSlot,gOf,AV.ren,renL,Blk.ren,Ax.look,Ax.put,reduceCtorEq,↓reduceIte,Nat.reduceEqDiff,Nat.reduceLT,Nat.reduceAdd,List.length_append,List.length_cons,List.length_nil,Option.some.injEq,zbr,zah]; try simp
               · simp only [ssT,zbi,zbj,setSlot,gOf,AV.ren,renL,Blk.ren,Ax.look,Ax.put,reduceCtorEq,↓reduceIte,Nat.reduceEqDiff,Nat.reduceLT,Nat.reduceAdd,List.length_append,List.length_cons,List.length_nil,Option.some.injEq,zbr,zah]; try simp
         · have d2 : decide ((i : Int) < (cs.length : Int)) = false := decide_eq_false (by omega)
           obtain ⟨X,hX⟩ : ∃ X,joF gn ph l v now = X := ⟨_,rfl⟩
           have hok := jo_ok20 (gn := gn) (ph := ph) (l := l) (v := v) (now := now)
           have hst := jo_step (gn := gn) (ph := ph) (l := l) (v := v) (now := now) (n := i) (b := 60)
           rw [hX] at hok hst
           obtain ⟨xg,xp,xl,xf,xe⟩ := X
           have hxc := zac xl
           obtain ⟨fa,fd,ft,fy,fb,hF,hFb⟩ : ∃ fa fd ft fy fb,fndGV v l = .tup [.agg [.str fd,.w (.int .i64 ft),.w (.bool fy)],.w (.bool fb)] ∧ (fb = true ↔ l.findIdx (isD v) < l.length) ∧ fa = () := by
             unfold fndGV
             by_cases hf : l.findIdx (isD v) < l.length
             · rw [if_pos hf]; exact ⟨(),_,_,_,_,rfl,⟨fun _ => hf,fun _ => rfl⟩,rfl⟩
             · rw [if_neg hf]; exact ⟨(),_,_,_,_,rfl,⟨fun h => by simp at h,fun h => absurd h hf⟩,rfl⟩
           by_cases hxe : xe = 0
           · have d4 : decide (xe = 0) = true := decide_eq_true hxe
             obtain ⟨hc,hI,hT,h2⟩ := hok hxe
             rcases h2 with ⟨hf,he⟩ | ⟨hf,h16,he⟩
             · obtain rfl : fb = true := hFb.1.2 hf
               injection he with e1 e2 e3 e4 e5
               subst e1
               have e3l : xl.length = l.length := by rw [e3,List.length_set]
               have hxll : (xl.map mbA).length = l.length := by simp [e3l]
               have d5 : decide (xg = xg) = true := decide_eq_true rfl
               have d6 : decide ((l.length : Int) = (l.length : Int)) = true := decide_eq_true rfl
               simp (config := { maxSteps := 3000000 }) only [go_sem,zaf,Nat.reduceAdd,Nat.reduceSub,Nat.reduceMul,Int.reduceToNat,reduceCtorEq,↓reduceIte,Int.reducePow,Nat.reducePow,Int.reduceMod,Nat.reduceLeDiff,Int.reduceLE,Int.reduceNe,Int.reduceEq,Nat.reduceEqDiff,Nat.reduceLT,Nat.reduceBEq,List.map_cons,List.map_nil,List.toList_toArray,Array.toList_append,Option.toArray_some,Option.toArray_none,Bool.and_self,ty,Sre20,zds,joS,fndGS,leS,yesS,jrA,zap,cM0,c5,hle,hL,hL9,hLj,hxd,hex,zak,zac,zav,zah,zbb,zec,zbr,Int.toNat_natCast,Bool.not_true,Bool.not_false,decide_true,true_or,or_true,hal,d2,d4,d5,d6,hX,hv,hF,hxll]
               repeat (first | refine And.intro (by omega) ?_ | refine And.intro ⟨by omega,by omega⟩ ?_)
               refine ⟨_,Weak.refl _,?_⟩
               simp (config := { maxSteps := 3000000 }) only [go_sem,zaf,Nat.reduceAdd,Nat.reduceSub,Nat.reduceMul,Int.reduceToNat,reduceCtorEq,↓reduceIte,Int.reducePow,Nat.reducePow,Int.reduceMod,Nat.reduceLeDiff,Int.reduceLE,Int.reduceNe,Int.reduceEq,Nat.reduceEqDiff,Nat.reduceLT,Nat.reduceBEq,List.map_cons,List.map_nil,List.toList_toArray,Array.toList_append,Option.toArray_some,Option.toArray_none,Bool.and_self,ty,Sre20,zds,joS,fndGS,leS,yesS,jrA,zap,cM0,c5,hle,hL,hL9,hLj,hxd,hex,zak,zac,zav,zah,zbb,zec,zbr,Int.toNat_natCast,Bool.not_true,Bool.not_false,decide_true,true_or,or_true,hal,d2,d4,d5,d6,hX,hv,hF,hxll]
               repeat (first | refine And.intro (by omega) ?_ | refine And.intro ⟨by omega,by omega⟩ ?_)
               exact zbg 6 rfl
             · obtain rfl : fb = false := by cases fb with | false => rfl | true => exact absurd (hFb.1.1 rfl) hf
               obtain ⟨_,k2,k3,_⟩ := hst hxe (by omega) hd ⟨g0,g1⟩ hl0
               have hLe := le_ins hc hI hT h16 hf (by omega)
               injection he with e1 e2 e3 e4 e5
               subst e1 e2 e3 e4
               generalize (insM v now l).map clrM = M at *
               generalize (if l.length = 0 then (0 : Int) else 1) = P at *
               have k2 : M.length ≤ i + 1 := k2
               have k3 : ∀ r ∈ M,r.d.length ≤ 60 := k3
               have hMl : (M.map mbA).length = M.length := by simp
               have hM1 : M.length ≤ 900000 := by omega
               have hMx : ∃ k : List Mb,M.map mbA = k.map mbA ∧ ∀ r ∈ k,r.d.length ≤ 9223372036854775807 := ⟨M,rfl,fun r hr => by have := k3 r hr; omega⟩
               have hcl : ((l.map clrM).map mbA).length = l.length := by simp
               have e1 : (gn + 2 + 9223372036854775808) % 18446744073709551616 - 9223372036854775808 = gn + 1 + 1 := by omega
               have d5 : decide (gn + 1 + 1 = gn + 1 + 1) = true := decide_eq_true rfl
               have d6 : decide ((l.length : Int) = (l.length : Int)) = true := decide_eq_true rfl
               have d7 : decide ((0 : Int) = 0) = true := rfl
               simp (config := { maxSteps := 3000000 }) only [go_sem,zaf,Nat.reduceAdd,Nat.reduceSub,Nat.reduceMul,Int.reduceToNat,reduceCtorEq,↓reduceIte,Int.reducePow,Nat.reducePow,Int.reduceMod,Nat.reduceLeDiff,Int.reduceLE,Int.reduceNe,Int.reduceEq,Nat.reduceEqDiff,Nat.reduceLT,Nat.reduceBEq,List.map_cons,List.map_nil,List.toList_toArray,Array.toList_append,Option.toArray_some,Option.toArray_none,Bool.and_self,ty,Sre20,zds,joS,fndGS,leS,yesS,jrA,zap,cM0,c5,hle,hL,hL9,hLj,hxd,hex,zak,zac,zav,zah,zbb,zec,zbr,Int.toNat_natCast,Bool.not_true,Bool.not_false,decide_true,true_or,or_true,hal,d2,d4,d5,d6,d7,hX,hv,hF,hMl,hM1,hMx,hLe,hcl,e1]
               repeat (first | refine And.intro (by omega) ?_ | refine And.intro ⟨by omega,by omega⟩ ?_)
               refine ⟨_,Weak.refl _,?_⟩
               simp (config := { maxSteps := 3000000 }) only [go_sem,zaf,Nat.reduceAdd,Nat.reduceSub,Nat.reduceMul,Int.reduceToNat,reduceCtorEq,↓reduceIte,Int.reducePow,Nat.reducePow,Int.reduceMod,Nat.reduceLeDiff,Int.reduceLE,Int.reduceNe,Int.reduceEq,Nat.reduceEqDiff,Nat.reduceLT,Nat.reduceBEq,List.map_cons,List.map_nil,List.toList_toArray,Array.toList_append,Option.toArray_some,Option.toArray_none,Bool.and_self,ty,Sre20,zds,joS,fndGS,leS,yesS,jrA,zap,cM0,c5,hle,hL,hL9,hLj,hxd,hex,zak,zac,zav,zah,zbb,zec,zbr,Int.toNat_natCast,Bool.not_true,Bool.not_false,decide_true,true_or,or_true,hal,d2,d4,d5,d6,d7,hX,hv,hF,hMl,hM1,hMx,hLe,hcl,e1]
               repeat (first | refine And.intro (by omega) ?_ | refine And.intro ⟨by omega,by omega⟩ ?_)
               refine awpF_loopW ⟨fun m σ => ∃ j : Nat,m = l.length - j ∧ j ≤ l.length ∧ σ = ⟨[.junk,.junk,.junk,.junk,.junk,.junk,.w (.bool false),.rf 4 3 0 0,.junk,.junk,.junk,.junk,.junk,.junk,.junk,.rf 5 3 0 0,.junk,.w (.int .i64 j),.junk,.junk,.junk,.junk,.junk,.junk,.junk,.junk,.junk,.junk,.junk,.junk,.junk,.junk,.junk,.junk,.junk,.junk,.junk,.junk,.junk,.junk,.junk,.junk,.junk,.junk,.junk,.junk,.junk,.junk,.junk,.junk,.junk,.junk,.junk,.junk,.junk,.junk,.junk,.junk,.junk,.junk,.junk,.junk,.junk,.junk,.junk,.junk,.junk,.junk,.junk,.junk,.junk,.junk,.junk,.junk,.junk,.junk,.junk,.junk,.junk,.junk,.junk,.junk,.junk,.junk,.junk,.junk,.junk,.junk,.junk,.junk,.junk,.junk,.junk,.junk,.junk,.junk,.junk,.junk,.junk,.junk,.junk,.junk,.junk,.junk,.junk,.junk,.junk,.junk,.junk,.junk,.junk,.junk,.junk,.junk,.junk,.junk,.junk,.junk,.junk,.junk,.junk,.junk,.junk,.junk,.junk,.junk,.junk,.junk,.junk,.junk,.junk,.junk,.junk,.junk,.junk,.junk,.junk,.junk,.junk,.junk,.junk,.junk,.junk,.junk,.junk,.junk,.junk,.junk,.junk,.junk,.junk,.junk,.junk,.junk,.junk,.junk,.junk,.junk,.junk,.junk,.junk,.junk],[(4,.g 3 [.agg [.w (.int .i64 gn),.w (.int .u8 ph),.sg 3 (l.map mbA) f]]),(5,.g 3 [.agg [.w (.int .i64 (gn + 1 + 1)),.w (.int .u8 P),.sg 3 ((l.map clrM).map mbA) false]])],6⟩,?_,?_⟩
               · refine ⟨_,_,zaz [0,1,2,3,4,261] rfl rfl rfl ?_ ?_,0,rfl,by omega,rfl⟩
                 · simp only [ssT,zbi,zbj,setSlot,gOf,AV.ren,renL,Blk.ren,Ax.look,Ax.put,reduceCtorEq,↓reduceIte,Nat.reduceEqDiff,Nat.reduceLT,Nat.reduceAdd,List.length_append,List.length_cons,List.length_nil,Option.some.injEq,zbr,zah]; try simp
                 · simp only [ssT,zbi,zbj,setSlot,gOf,AV.ren,renL,Blk.ren,Ax.look,Ax.put,reduceCtorEq,↓reduceIte,Nat.reduceEqDiff,Nat.reduceLT,Nat.reduceAdd,List.length_append,List.length_cons,List.length_nil,Option.some.injEq,zbr,zah]; try simp
               · rintro m σ ⟨j,rfl,hj,rfl⟩
                 by_cases hjl : j < l.length
                 · have d8 : decide ((j : Int) < (l.length : Int)) = true := decide_eq_true (by omega)
                   have e8 : ((j : Int) + 1 + 9223372036854775808) % 18446744073709551616 - 9223372036854775808 = ((j + 1 : Nat) : Int) := by omega
                   have hs1 := zdd l j hjl
                   have hs2 := zdd (l.map clrM) j (by rw [List.length_map]; exact hjl)
                   rw [List.getElem_map] at hs2
                   obtain ⟨r,hr⟩ : ∃ r,l[j] = r := ⟨_,rfl⟩
                   rw [hr] at hs1 hs2
                   obtain ⟨rd,rt,ry⟩ := r
                   have hs1 : slot (l.map mbA) j = .agg [.str rd,.w (.int .i64 rt),.w (.bool ry)] := hs1
                   have hs2 : slot ((l.map clrM).map mbA) j = .agg [.str rd,.w (.int .i64 rt),.w (.bool false)] := hs2
                   have rr : decide (rd = rd) = true := decide_eq_true rfl
                   have tt : decide (rt = rt) = true := decide_eq_true rfl
                   have hrr : (rd == rd) = true := by simp
                   simp (config := { maxSteps := 3000000 }) only [go_sem,zaf,Nat.reduceAdd,Nat.reduceSub,Nat.reduceMul,Int.reduceToNat,reduceCtorEq,↓reduceIte,Int.reducePow,Nat.reducePow,Int.reduceMod,Nat.reduceLeDiff,Int.reduceLE,Int.reduceNe,Int.reduceEq,Nat.reduceEqDiff,Nat.reduceLT,Nat.reduceBEq,List.map_cons,List.map_nil,List.toList_toArray,Array.toList_append,Option.toArray_some,Option.toArray_none,Bool.and_self,ty,Sre20,zds,joS,fndGS,leS,yesS,jrA,zap,cM0,c5,hle,hL,hL9,hLj,hxd,hex,zak,zac,zav,zah,zbb,zec,zbr,Int.toNat_natCast,Bool.not_true,Bool.not_false,decide_true,true_or,or_true,hal,hcl,hs1,hs2,d8,e8,rr,tt,hrr]
                   repeat (first | refine And.intro (by omega) ?_ | refine And.intro ⟨by omega,by omega⟩ ?_)
                   refine ⟨l.length - (j + 1),_,by omega,zaz [0,1,2,3,4,5] rfl rfl rfl ?_ ?_,j + 1,rfl,by omega,rfl⟩
                   · simp only [ssT,zbi,zbj,setSlot,gOf,AV.ren,renL,Blk.ren,Ax.look,Ax.put,reduceCtorEq,↓reduceIte,Nat.reduceEqDiff,Nat.reduceLT,Nat.reduceAdd,List.length_append,List.length_cons,List.length_nil,Option.some.injEq,zbr,zah]; try simp
                   · simp only [ssT,zbi,zbj,setSlot,gOf,AV.ren,renL,Blk.ren,Ax.look,Ax.put,reduceCtorEq,↓reduceIte,Nat.reduceEqDiff,Nat.reduceLT,Nat.reduceAdd,List.length_append,List.length_cons,List.length_nil,Option.some.injEq,zbr,zah]; try simp
                 · have d8 : decide ((j : Int) < (l.length : Int)) = false := decide_eq_false (by omega)
                   simp (config := { maxSteps := 3000000 }) only [go_sem,zaf,Nat.reduceAdd,Nat.reduceSub,Nat.reduceMul,Int.reduceToNat,reduceCtorEq,↓reduceIte,Int.reducePow,Nat.reducePow,Int.reduceMod,Nat.reduceLeDiff,Int.reduceLE,Int.reduceNe,Int.reduceEq,Nat.reduceEqDiff,Nat.reduceLT,Nat.reduceBEq,List.map_cons,List.map_nil,List.toList_toArray,Array.toList_append,Option.toArray_some,Option.toArray_none,Bool.and_self,ty,Sre20,zds,joS,fndGS,leS,yesS,jrA,zap,cM0,c5,hle,hL,hL9,hLj,hxd,hex,zak,zac,zav,zah,zbb,zec,zbr,Int.toNat_natCast,Bool.not_true,Bool.not_false,decide_true,true_or,or_true,hal,hcl,d8]
                   refine ⟨_,Weak.refl _,?_⟩
                   simp (config := { maxSteps := 3000000 }) only [go_sem,zaf,Nat.reduceAdd,Nat.reduceSub,Nat.reduceMul,Int.reduceToNat,reduceCtorEq,↓reduceIte,Int.reducePow,Nat.reducePow,Int.reduceMod,Nat.reduceLeDiff,Int.reduceLE,Int.reduceNe,Int.reduceEq,Nat.reduceEqDiff,Nat.reduceLT,Nat.reduceBEq,List.map_cons,List.map_nil,List.toList_toArray,Array.toList_append,Option.toArray_some,Option.toArray_none,Bool.and_self,ty,Sre20,zds,joS,fndGS,leS,yesS,jrA,zap,cM0,c5,hle,hL,hL9,hLj,hxd,hex,zak,zac,zav,zah,zbb,zec,zbr,Int.toNat_natCast,Bool.not_true,Bool.not_false,decide_true,true_or,or_true,hal,hcl,d8]
                   exact zbg 6 rfl
           · have d4 : decide (xe = 0) = false := decide_eq_false hxe
             simp (config := { maxSteps := 3000000 }) only [go_sem,zaf,Nat.reduceAdd,Nat.reduceSub,Nat.reduceMul,Int.reduceToNat,reduceCtorEq,↓reduceIte,Int.reducePow,Nat.reducePow,Int.reduceMod,Nat.reduceLeDiff,Int.reduceLE,Int.reduceNe,Int.reduceEq,Nat.reduceEqDiff,Nat.reduceLT,Nat.reduceBEq,List.map_cons,List.map_nil,List.toList_toArray,Array.toList_append,Option.toArray_some,Option.toArray_none,Bool.and_self,ty,Sre20,zds,joS,fndGS,leS,yesS,jrA,zap,cM0,c5,hle,hL,hL9,hLj,hxd,hex,zak,zac,zav,zah,zbb,zec,zbr,Int.toNat_natCast,Bool.not_true,Bool.not_false,decide_true,true_or,or_true,hal,d2,d4,hX,hv,hF]
             repeat (first | refine And.intro (by omega) ?_ | refine And.intro ⟨by omega,by omega⟩ ?_)
             refine ⟨_,Weak.refl _,?_⟩
             simp (config := { maxSteps := 3000000 }) only [go_sem,zaf,Nat.reduceAdd,Nat.reduceSub,Nat.reduceMul,Int.reduceToNat,reduceCtorEq,↓reduceIte,Int.reducePow,Nat.reducePow,Int.reduceMod,Nat.reduceLeDiff,Int.reduceLE,Int.reduceNe,Int.reduceEq,Nat.reduceEqDiff,Nat.reduceLT,Nat.reduceBEq,List.map_cons,List.map_nil,List.toList_toArray,Array.toList_append,Option.toArray_some,Option.toArray_none,Bool.and_self,ty,Sre20,zds,joS,fndGS,leS,yesS,jrA,zap,cM0,c5,hle,hL,hL9,hLj,hxd,hex,zak,zac,zav,zah,zbb,zec,zbr,Int.toNat_natCast,Bool.not_true,Bool.not_false,decide_true,true_or,or_true,hal,d2,d4,hX,hv,hF]
             repeat (first | refine And.intro (by omega) ?_ | refine And.intro ⟨by omega,by omega⟩ ?_)
             exact zbg 6 rfl
 · exact hp.elim
end
end Go.Proofs.Ytfmiggmbebbloaa
namespace Go.Proofs.Ytfmiggmbebbloaa
open Ax
theorem arg_str20 {x : AV} (h : Arg ty 6 9 x) : ∃ bs : List UInt8,x = .str bs ∧ bs.length ≤ 9223372036854775807 := by
 obtain ⟨i,ls,hi,hs,rfl⟩ := h
 simp only [ty] at hi
 injection hi with hi
 subst hi
 simp only [Shape,ty,ShapeF] at hs
 obtain ⟨m,rfl,w⟩ := hs
 have : maxLen = 9223372036854775807 := by decide
 exact ⟨m,rfl,by omega⟩
theorem arg_int20 {x : AV} (h : Arg ty 6 3 x) : ∃ n : Int,x = .w (.int .i64 n) ∧ -9223372036854775808 ≤ n ∧ n ≤ 9223372036854775807 := by
 obtain ⟨i,ls,hi,hs,rfl⟩ := h
 simp only [ty] at hi
 injection hi with hi
 subst hi
 simp only [Shape,ty,ShapeF] at hs
 obtain ⟨m,rfl,w⟩ := hs
 exact ⟨m,rfl,wf_i64 w⟩
theorem all_ac20 : ∀ (xs : List AV),(∀ x ∈ xs,∃ r : Ac,x = acA r ∧ r.d.length ≤ 9223372036854775807) → ∃ rs : List Ac,xs = rs.map acA ∧ ∀ r ∈ rs,r.d.length ≤ 9223372036854775807
 | [],_ => ⟨[],rfl,by simp⟩
 | x :: xs,h => by
   obtain ⟨r,rfl,hr⟩ := h x (by simp)
   obtain ⟨rs,rfl,hrs⟩ := all_ac20 xs (fun y hy => h y (by simp [hy]))
   refine ⟨r :: rs,rfl,fun q hq => ?_⟩
   rcases List.mem_cons.1 hq with rfl | hq
   · exact hr
   · exact hrs q hq
theorem arg_ac20 {x : AV} (h : Arg ty 6 38 x) : ∃ (l : List Ac) (f : Bool),x = .sg 5 (l.map acA) f ∧ l.length ≤ 9223372036854775807 ∧ ∀ r ∈ l,r.d.length ≤ 9223372036854775807 := by
 obtain ⟨i,ls,hi,hs,rfl⟩ := h
 simp only [ty] at hi
 injection hi with hi
 subst hi
 simp only [Shape,ty,ShapeF,isFlatI] at hs
 obtain ⟨xs,f1,rfl,hx,hxs⟩ := hs
 have hm : maxLen = 9223372036854775807 := by decide
 obtain ⟨es,rfl,he⟩ := all_ac20 xs (fun x hxm => by
   obtain ⟨l,⟨l0,r0,rfl,⟨m0,rfl,w0⟩,l1,r1,rfl,⟨m1,rfl,w1⟩,l2,r2,rfl,⟨m2,rfl,w2⟩,l3,r3,rfl,⟨m3,rfl,w3⟩,l4,r4,rfl,⟨m4,rfl,w4⟩,rfl⟩,_,rfl⟩ := hxs x hxm
   exact ⟨⟨m0,m1,m2,m3,m4⟩,rfl,by simp only; omega⟩)
 rw [List.length_map] at hx
 exact ⟨es,f1,rfl,by omega,he⟩
theorem ret_dom {x y z : AV} (hx : Arg ty 6 38 x) (hy : Arg ty 6 9 y) (hz : Arg ty 6 3 z) : (retS [x,y,z] []).p ∧ (retS [x,y,z] []).x = .w (.bool true) := by
 obtain ⟨l,f,rfl,hL,hl⟩ := arg_ac20 hx
 obtain ⟨d,rfl,hd⟩ := arg_str20 hy
 obtain ⟨n,rfl,_⟩ := arg_int20 hz
 exact ⟨⟨⟨by rw [List.length_map]; exact hL,l,rfl,hl⟩,hd⟩,rfl⟩
end Go.Proofs.Ytfmiggmbebbloaa
