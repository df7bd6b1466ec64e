/- What the proofs of this seat stand on; it asks nothing. -/
import Derived.Test.YtdnlliedmfgfiaaYa12
set_option linter.unusedSimpArgs false
set_option linter.unusedVariables false
namespace Go.Proofs.Ytdnlliedmfgfiaa
open Ax
structure JR where
 g : Int
 p : Int
 l : List Mb
 f : Bool
 e : Int
def jrA (r : JR) : AV := .tup [.agg [.w (.int .i64 r.g),.w (.int .u8 r.p),.sg 3 (r.l.map mbA) r.f],.w (.int .i64 r.e)]
def errJ (e : Int) : JR := ⟨0,0,[],true,e⟩
def insM (v : List UInt8) (now : Int) (l : List Mb) : List Mb := l.take (l.findIdx (zgb v)) ++ ⟨v,now,false⟩ :: l.drop (l.findIdx (zgb v))
def joF (gn ph : Int) (l : List Mb) (v : List UInt8) (now : Int) : JR :=
 if chG gn ph l = 0 then
   if idB v = true then
     if timB now = true then
       if l.findIdx (isD v) < l.length then ⟨gn,ph,l.set (l.findIdx (isD v)) (zeu now (mbI l (l.findIdx (isD v)))),false,0⟩
       else if 16 ≤ l.length then errJ 9
       else if gn = 1099511627776 then errJ 11
       else ⟨gn + 1,1,(insM v now l).map clrM,false,0⟩
     else errJ 11
   else errJ 6
 else errJ (chG gn ph l)
def joS : zan
 | [.agg [.w (.int .i64 gn),.w (.int .u8 ph),.sg 3 xs f],.str v,.w (.int .i64 now)],[] => ⟨xs.length ≤ 900000 ∧ v.length ≤ 9223372036854775807 ∧ ∃ l : List Mb,xs = l.map mbA ∧ ∀ r ∈ l,r.d.length ≤ 9223372036854775807,jrA (joF gn ph (xs.map umb) v now),[]⟩
 | _,_ => zbo
def zha : zan
 | [.sg 3 [] true,.w (.int .i64 0),.sg 3 [.agg [.str d,.w (.int .i64 t),.w (.bool y)]] f],[] => ⟨True,.ms 0 3 0 1,[.g 3 [.agg [.str d,.w (.int .i64 t),.w (.bool y)]]]⟩
 | _,_ => zbo
theorem eq00G : decide ((0:Int) = ((0:Nat):Int)) = true := rfl
theorem eq10G : decide (((1:Nat):Int) = (0:Int)) = false := rfl
theorem eq01G : decide ((0:Int) = ((1:Nat):Int)) = false := rfl
section
set_option maxRecDepth 100000
set_option maxHeartbeats 4000000
theorem insNM_sound : zbm Try.prog 34 zha := by
 refine zdo (S := noS) (T := ty) mixed ty_ok zbv Try.func34 (c := Try.f34.body.getD .skip) (by kernel_rfl) (by kernel_rfl) (fun xs pins hp _ => ?_)
 unfold zha at hp ⊢
 split at hp
 · rename_i d t y f _
   refine ⟨by simp,?_⟩
   unfold Try.f34
   simp only [go_sem,coe,zab,Nat.reduceAdd,Nat.reduceSub,Nat.reduceMul,Int.reduceToNat,reduceCtorEq,↓reduceIte,Int.reducePow,Nat.reducePow,Int.reduceMod,Nat.reduceLeDiff,Int.reduceLE,Int.reduceNe,Int.reduceEq,Nat.reduceEqDiff,Nat.reduceLT,Nat.reduceBEq,ty,noS,eq00G,eq01G,eq10G]
   decide
 · exact hp.elim
end
def zgc (f : FuncId) : Option zan :=
 match f with
 | 16 => some chGS
 | 26 => some zey
 | 27 => some timS
 | 28 => some zew
 | 30 => some zga
 | 31 => some zdm
 | 34 => some zha
 | _ => none
theorem Sjo20_ok : Fns Try.prog zgc := by
 intro f s h
 unfold zgc at h
 split at h
 · injection h with h; subst h; exact ⟨⟨_,Try.func16,by kernel_rfl,by kernel_rfl⟩,zjf⟩
 · injection h with h; subst h; exact ⟨⟨_,Try.func26,by kernel_rfl,by kernel_rfl⟩,zsn⟩
 · injection h with h; subst h; exact ⟨⟨_,Try.func27,by kernel_rfl,by kernel_rfl⟩,zot⟩
 · injection h with h; subst h; exact ⟨⟨_,Try.func28,by kernel_rfl,by kernel_rfl⟩,znb⟩
 · injection h with h; subst h; exact ⟨⟨_,Try.func30,by kernel_rfl,by kernel_rfl⟩,zmy⟩
 · injection h with h; subst h; exact ⟨⟨_,Try.func31,by kernel_rfl,by kernel_rfl⟩,zju⟩
 · injection h with h; subst h; exact ⟨⟨_,Try.func34,by kernel_rfl,by kernel_rfl⟩,insNM_sound⟩
 · cases h
def zns (f : FuncId) : Option zan :=
 match f with
 | 29 => some chaS
 | 32 => some ixGS
 | 34 => some (insS 3)
 | 35 => some turS
 | _ => none
theorem Ojo20_ok : FnsO Try.prog zns := by
 intro f s h
 unfold zns at h
 split at h
 · injection h with h; subst h; exact ⟨⟨_,Try.func29,by kernel_rfl,by kernel_rfl⟩,zqk⟩
 · injection h with h; subst h; exact ⟨⟨_,Try.func32,by kernel_rfl,by kernel_rfl⟩,zpo⟩
 · injection h with h; subst h; exact ⟨⟨_,Try.func34,by kernel_rfl,by kernel_rfl⟩,zuf⟩
 · injection h with h; subst h; exact ⟨⟨_,Try.func35,by kernel_rfl,by kernel_rfl⟩,zor⟩
 · cases h
def joPl : zeq := fun id => match id with
 | 10 => .drs [] 4
 | 17 => .opn [] 3
 | 20 => .opn [] 7
 | 21 => .opn [] 1
 | _ => .std
def zpn : zeq := fun id => match id with
 | 10 => .drs [] 4
 | 17 => .opn [] 3
 | 21 => .opn [] 1
 | _ => .std
theorem ch_ok20 {gn ph : Int} {l : List Mb} (h : chG gn ph l = 0) : l.length ≤ 16 ∧ (0 ≤ gn ∧ gn ≤ 1099511627776) ∧ phB ph l = true ∧ zbu none l = true := by
 unfold chG at h
 split at h
 · rename_i hb
   unfold chB timB at hb
   simp only [Bool.and_eq_true,decide_eq_true_eq] at hb
   exact ⟨hb.1,hb.2.1,hb.2.2.1,hb.2.2.2⟩
 · cases h
section
set_option maxRecDepth 100000
set_option maxHeartbeats 16000000
theorem jo_sound : zbm Try.prog 11 joS := by
 refine zbh (S := zgc) (SO := zns) (T := ty) mixed ty_ok Sjo20_ok Ojo20_ok Try.func11 (c := Try.f11.body.getD .skip) (by kernel_rfl) (fun xs pins hp _ => ?_)
 unfold joS at hp ⊢
 split at hp
 · rename_i gn ph xs f v now _
   obtain ⟨hL0,hv9,l,rfl,hd⟩ := hp
   rw [List.length_map] at hL0
   have hle : (l.map mbA).length = l.length := by simp
   have hL : l.length ≤ 1000000 := by omega
   have hL9 : l.length ≤ 9223372036854775807 := by omega
   have hex : ∃ k : List Mb,l.map mbA = k.map mbA := ⟨l,rfl⟩
   have hxd : ∃ k : List Mb,l.map mbA = k.map mbA ∧ ∀ r ∈ k,r.d.length ≤ 9223372036854775807 := ⟨l,rfl,hd⟩
   have coeN : ∀ f,coe ty 29 (.sg 3 [] f) = .sg 3 [] f := fun f => rfl
   have hP1 : ixP 54 v = isD v := if_pos rfl
   have hP2 : ixP 33 v = zgb v := if_neg (by decide)
   rw [zai]
   unfold joF
   by_cases hch : chG gn ph l = 0
   · have q0 : decide (chG gn ph l = 0) = true := decide_eq_true hch
     obtain ⟨h16,⟨g0,g1⟩,_,_⟩ := ch_ok20 hch
     rw [if_pos hch]
     cases hI : idB v with
     | false =>
       rw [if_neg (by simp)]
       refine ⟨by simp,joPl,by kernel_rfl,?_⟩
       unfold Try.f11
       iterate 8
         try rw [zaa]
         try simp (config := { maxSteps := 3000000 }) only [go_sem,zaa,Nat.reduceAdd,Nat.reduceSub,Nat.reduceMul,Int.reduceToNat,reduceCtorEq,↓reduceIte,Int.reducePow,Nat.reducePow,Int.reduceMod,Nat.reduceLeDiff,Int.reduceLE,Int.reduceNe,Int.reduceEq,Nat.reduceEqDiff,Nat.reduceLT,Nat.reduceBEq,List.map_cons,List.map_nil,List.toList_toArray,Array.toList_append,Option.toArray_some,Option.toArray_none,Bool.and_self,-zaa,ty,zgc,zns,joPl,zpn,chGS,zey,timS,zew,zga,chaS,zdm,ixGS,insS,zha,turS,zaw,coeN,hle,hL,hL9,hex,hxd,hv9,zai,zad,zap,zae,zcg,hch,Int.toNat_natCast,Bool.not_true,Bool.not_false,decide_true,hP1,hP2,true_or,or_true,hI]
         repeat (refine And.intro (by first | omega | exact zbg | exact ⟨by omega,by omega⟩ | (unfold top; omega)) ?_)
       try (refine ⟨_,Weak.refl _,?_⟩)
       try simp only [go_sem,zaa,Nat.reduceAdd,Nat.reduceSub,Nat.reduceMul,Int.reduceToNat,reduceCtorEq,↓reduceIte,Int.reducePow,Nat.reducePow,Int.reduceMod,Nat.reduceLeDiff,Int.reduceLE,Int.reduceNe,Int.reduceEq,Nat.reduceEqDiff,Nat.reduceLT,Nat.reduceBEq,List.map_cons,List.map_nil,List.toList_toArray,Array.toList_append,Option.toArray_some,Option.toArray_none,Bool.and_self,ty,zgc,jrA,errJ,List.map_nil]
     | true =>
       rw [if_pos rfl]
       cases hT : timB now with
       | false =>
         rw [if_neg (by simp)]
         refine ⟨by simp,joPl,by kernel_rfl,?_⟩
         unfold Try.f11
         iterate 8
           try rw [zaa]
           try simp (config := { maxSteps := 3000000 }) only [go_sem,zaa,Nat.reduceAdd,Nat.reduceSub,Nat.reduceMul,Int.reduceToNat,reduceCtorEq,↓reduceIte,Int.reducePow,Nat.reducePow,Int.reduceMod,Nat.reduceLeDiff,Int.reduceLE,Int.reduceNe,Int.reduceEq,Nat.reduceEqDiff,Nat.reduceLT,Nat.reduceBEq,List.map_cons,List.map_nil,List.toList_toArray,Array.toList_append,Option.toArray_some,Option.toArray_none,Bool.and_self,-zaa,ty,zgc,zns,joPl,zpn,chGS,zey,timS,zew,zga,chaS,zdm,ixGS,insS,zha,turS,zaw,coeN,hle,hL,hL9,hex,hxd,hv9,zai,zad,zap,zae,zcg,hch,Int.toNat_natCast,Bool.not_true,Bool.not_false,decide_true,hP1,hP2,true_or,or_true,hI,hT]
           repeat (refine And.intro (by first | omega | exact zbg | exact ⟨by omega,by omega⟩ | (unfold top; omega)) ?_)
         try (refine ⟨_,Weak.refl _,?_⟩)
         try simp only [go_sem,zaa,Nat.reduceAdd,Nat.reduceSub,Nat.reduceMul,Int.reduceToNat,reduceCtorEq,↓reduceIte,Int.reducePow,Nat.reducePow,Int.reduceMod,Nat.reduceLeDiff,Int.reduceLE,Int.reduceNe,Int.reduceEq,Nat.reduceEqDiff,Nat.reduceLT,Nat.reduceBEq,List.map_cons,List.map_nil,List.toList_toArray,Array.toList_append,Option.toArray_some,Option.toArray_none,Bool.and_self,ty,zgc,jrA,errJ,List.map_nil]
       | true =>
         rw [if_pos rfl]
         obtain ⟨I,hI2⟩ : ∃ I,l.findIdx (isD v) = I := ⟨_,rfl⟩
         rw [hI2]
         by_cases hf : I < l.length
         · rw [if_pos hf]
           have hpl : ixG (isD v) l = (I : Nat) := by unfold ixG; rw [hI2,if_pos hf]
           have q1 : decide ((0 : Int) ≤ (I : Int)) = true := decide_eq_true (by omega)
           generalize hQ : l.set I (zeu now (mbI l I)) = Q
           have hQl : Q.length = l.length := by rw [← hQ,List.length_set]
           have hk1 : decide (0 + l.length ≤ (Q.map mbA).length) = true := decide_eq_true (by simp; omega)
           have hk2 : List.take l.length (Q.map mbA) = Q.map mbA := List.take_of_length_le (by simp; omega)
           have hIn : ((I : Int) < (l.length : Int)) = True := eq_true (by omega)
           have hI0 : ((0 : Int) ≤ (I : Int)) = True := eq_true (by omega)
           refine ⟨by simp,joPl,by kernel_rfl,?_⟩
           unfold Try.f11
           iterate 12
             try rw [zaa]
             try simp (config := { maxSteps := 3000000 }) only [go_sem,zaa,Nat.reduceAdd,Nat.reduceSub,Nat.reduceMul,Int.reduceToNat,reduceCtorEq,↓reduceIte,Int.reducePow,Nat.reducePow,Int.reduceMod,Nat.reduceLeDiff,Int.reduceLE,Int.reduceNe,Int.reduceEq,Nat.reduceEqDiff,Nat.reduceLT,Nat.reduceBEq,List.map_cons,List.map_nil,List.toList_toArray,Array.toList_append,Option.toArray_some,Option.toArray_none,Bool.and_self,-zaa,ty,zgc,zns,joPl,zpn,chGS,zey,timS,zew,zga,chaS,zdm,ixGS,insS,zha,turS,zaw,coeN,hle,hL,hL9,hex,hxd,hv9,zai,zad,zap,zae,zcg,hch,Int.toNat_natCast,Bool.not_true,Bool.not_false,decide_true,hP1,hP2,true_or,or_true,hI,hT,hpl,q1]
             repeat (refine And.intro (by first | omega | exact zbg | exact ⟨by omega,by omega⟩ | (unfold top; omega)) ?_)
           refine ⟨_,_,Weak.refl _,?_⟩
           iterate 4
             try rw [zaa]
             try simp (config := { maxSteps := 3000000 }) only [go_sem,zaa,Nat.reduceAdd,Nat.reduceSub,Nat.reduceMul,Int.reduceToNat,reduceCtorEq,↓reduceIte,Int.reducePow,Nat.reducePow,Int.reduceMod,Nat.reduceLeDiff,Int.reduceLE,Int.reduceNe,Int.reduceEq,Nat.reduceEqDiff,Nat.reduceLT,Nat.reduceBEq,List.map_cons,List.map_nil,List.toList_toArray,Array.toList_append,Option.toArray_some,Option.toArray_none,Bool.and_self,-zaa,ty,zgc,zns,joPl,zpn,chGS,zey,timS,zew,zga,chaS,zdm,ixGS,insS,zha,turS,zaw,coeN,hle,hL,hL9,hex,hxd,hv9,zai,zad,zap,zae,zcg,hch,Int.toNat_natCast,Bool.not_true,Bool.not_false,decide_true,hP1,hP2,true_or,or_true,hI,hT,hpl,q1,hQ,hIn,hI0]
             repeat (refine And.intro (by first | omega | exact zbg | exact ⟨by omega,by omega⟩ | (unfold top; omega)) ?_)
           refine ⟨_,zdg 204 3 35 (Q.map mbA) rfl (zad _) (by simp [slot,AV.ids,idsL]),?_⟩
           simp only [fgL,fgH,AV.fg,Blk.fg,Nat.reduceBEq,cond_true,cond_false,Bool.and_true,beq_self_eq_true,Bool.true_and,List.drop_zero,zcg,hk1,hk2]
           simp only [go_sem,zaa,Nat.reduceAdd,Nat.reduceSub,Nat.reduceMul,Int.reduceToNat,reduceCtorEq,↓reduceIte,Int.reducePow,Nat.reducePow,Int.reduceMod,Nat.reduceLeDiff,Int.reduceLE,Int.reduceNe,Int.reduceEq,Nat.reduceEqDiff,Nat.reduceLT,Nat.reduceBEq,List.map_cons,List.map_nil,List.toList_toArray,Array.toList_append,Option.toArray_some,Option.toArray_none,Bool.and_self,ty,zgc,jrA,zad,zae]
         · rw [if_neg hf]
           have hpl : ixG (isD v) l = -1 := by unfold ixG; rw [hI2,if_neg hf]
           have q1 : decide ((0 : Int) ≤ -1) = false := rfl
           by_cases h9 : 16 ≤ l.length
           · rw [if_pos h9]
             have q2 : decide ((16 : Int) ≤ (l.length : Int)) = true := decide_eq_true (by omega)
             refine ⟨by simp,joPl,by kernel_rfl,?_⟩
             unfold Try.f11
             iterate 18
               try rw [zaa]
               try simp (config := { maxSteps := 3000000 }) only [go_sem,zaa,Nat.reduceAdd,Nat.reduceSub,Nat.reduceMul,Int.reduceToNat,reduceCtorEq,↓reduceIte,Int.reducePow,Nat.reducePow,Int.reduceMod,Nat.reduceLeDiff,Int.reduceLE,Int.reduceNe,Int.reduceEq,Nat.reduceEqDiff,Nat.reduceLT,Nat.reduceBEq,List.map_cons,List.map_nil,List.toList_toArray,Array.toList_append,Option.toArray_some,Option.toArray_none,Bool.and_self,-zaa,ty,zgc,zns,joPl,zpn,chGS,zey,timS,zew,zga,chaS,zdm,ixGS,insS,zha,turS,zaw,coeN,hle,hL,hL9,hex,hxd,hv9,zai,zad,zap,zae,zcg,hch,Int.toNat_natCast,Bool.not_true,Bool.not_false,decide_true,hP1,hP2,true_or,or_true,hI,hT,hpl,q1,q2]
               repeat (refine And.intro (by first | omega | exact zbg | exact ⟨by omega,by omega⟩ | (unfold top; omega)) ?_)
             try (refine ⟨_,Weak.refl _,?_⟩)
             try simp only [go_sem,zaa,Nat.reduceAdd,Nat.reduceSub,Nat.reduceMul,Int.reduceToNat,reduceCtorEq,↓reduceIte,Int.reducePow,Nat.reducePow,Int.reduceMod,Nat.reduceLeDiff,Int.reduceLE,Int.reduceNe,Int.reduceEq,Nat.reduceEqDiff,Nat.reduceLT,Nat.reduceBEq,List.map_cons,List.map_nil,List.toList_toArray,Array.toList_append,Option.toArray_some,Option.toArray_none,Bool.and_self,ty,zgc,jrA,errJ,List.map_nil]
           · rw [if_neg h9]
             have q2 : decide ((16 : Int) ≤ (l.length : Int)) = false := decide_eq_false (by omega)
             by_cases hg : gn = 1099511627776
             · rw [if_pos hg]
               have q3 : decide (gn = 1099511627776) = true := decide_eq_true hg
               refine ⟨by simp,joPl,by kernel_rfl,?_⟩
               unfold Try.f11
               iterate 20
                 try rw [zaa]
                 try simp (config := { maxSteps := 3000000 }) only [go_sem,zaa,Nat.reduceAdd,Nat.reduceSub,Nat.reduceMul,Int.reduceToNat,reduceCtorEq,↓reduceIte,Int.reducePow,Nat.reducePow,Int.reduceMod,Nat.reduceLeDiff,Int.reduceLE,Int.reduceNe,Int.reduceEq,Nat.reduceEqDiff,Nat.reduceLT,Nat.reduceBEq,List.map_cons,List.map_nil,List.toList_toArray,Array.toList_append,Option.toArray_some,Option.toArray_none,Bool.and_self,-zaa,ty,zgc,zns,joPl,zpn,chGS,zey,timS,zew,zga,chaS,zdm,ixGS,insS,zha,turS,zaw,coeN,hle,hL,hL9,hex,hxd,hv9,zai,zad,zap,zae,zcg,hch,Int.toNat_natCast,Bool.not_true,Bool.not_false,decide_true,hP1,hP2,true_or,or_true,hI,hT,hpl,q1,q2,q3]
                 repeat (refine And.intro (by first | omega | exact zbg | exact ⟨by omega,by omega⟩ | (unfold top; omega)) ?_)
               try (refine ⟨_,Weak.refl _,?_⟩)
               try simp only [go_sem,zaa,Nat.reduceAdd,Nat.reduceSub,Nat.reduceMul,Int.reduceToNat,reduceCtorEq,↓reduceIte,Int.reducePow,Nat.reducePow,Int.reduceMod,Nat.reduceLeDiff,Int.reduceLE,Int.reduceNe,Int.reduceEq,Nat.reduceEqDiff,Nat.reduceLT,Nat.reduceBEq,List.map_cons,List.map_nil,List.toList_toArray,Array.toList_append,Option.toArray_some,Option.toArray_none,Bool.and_self,ty,zgc,jrA,errJ,List.map_nil]
             · rw [if_neg hg]
               have q3 : decide (gn = 1099511627776) = false := decide_eq_false hg
               have hgb : (-4611686018427387904 ≤ gn ∧ gn ≤ 4611686018427387904) := by omega
               cases hz : empP (l.map mbA) with
               | true =>
                 obtain rfl : l = [] := by cases l with | nil => rfl | cons _ _ => cases hz
                 have hx0 : ∃ k : List Mb,([] : List AV) = k.map mbA := ⟨[],rfl⟩
                 have hxd0 : ∃ k : List Mb,([] : List AV) = k.map mbA ∧ ∀ r ∈ k,r.d.length ≤ 9223372036854775807 := ⟨[],rfl,hd⟩
                 have hpp : ixG (zgb v) [] = -1 := rfl
                 have q4 : decide ((0 : Int) ≤ -1) = false := rfl
                 have q5 : decide ((16 : Int) ≤ 0) = false := rfl
                 have q6 : decide ((16 : Int) ≤ ((0 : Nat) : Int)) = false := rfl
                 have hM1 : (insM v now []).map clrM = [⟨v,now,false⟩] := rfl
                 have hmc : ([AV.agg [.str v,.w (.int .i64 now),.w (.bool false)]].map umb) = [⟨v,now,false⟩] := rfl
                 have hxM : ∃ k : List Mb,[AV.agg [.str v,.w (.int .i64 now),.w (.bool false)]] = k.map mbA := ⟨[⟨v,now,false⟩],rfl⟩
                 have hMc : (List.take 1 [(⟨v,now,false⟩ : Mb)]).map clrM ++ List.drop 1 [(⟨v,now,false⟩ : Mb)] = [⟨v,now,false⟩] := rfl
                 have hmz : (if (1 : Nat) = 0 then (0 : Int) else 1) = 1 := rfl
                 have hk1 : decide (0 + 1 ≤ (([⟨v,now,false⟩] : List Mb).map mbA).length) = true := rfl
                 have hk2 : List.take 1 (([⟨v,now,false⟩] : List Mb).map mbA) = ([⟨v,now,false⟩] : List Mb).map mbA := rfl
                 have h00 : ((0 : Nat) : Int) = 0 := rfl
                 have hcm : mbA (clrM ⟨v,now,false⟩) = .agg [.str v,.w (.int .i64 now),.w (.bool false)] := rfl
                 have hk3 : decide (0 + 1 ≤ [AV.agg [.str v,.w (.int .i64 now),.w (.bool false)]].length) = true := rfl
                 have hk4 : List.take 1 [AV.agg [.str v,.w (.int .i64 now),.w (.bool false)]] = [AV.agg [.str v,.w (.int .i64 now),.w (.bool false)]] := rfl
                 rw [hM1]
                 refine ⟨by simp,zpn,by kernel_rfl,?_⟩
                 unfold Try.f11
                 iterate 26
                   try rw [zaa]
                   try simp (config := { maxSteps := 3000000 }) only [go_sem,zaa,Nat.reduceAdd,Nat.reduceSub,Nat.reduceMul,Int.reduceToNat,reduceCtorEq,↓reduceIte,Int.reducePow,Nat.reducePow,Int.reduceMod,Nat.reduceLeDiff,Int.reduceLE,Int.reduceNe,Int.reduceEq,Nat.reduceEqDiff,Nat.reduceLT,Nat.reduceBEq,List.map_cons,List.map_nil,List.toList_toArray,Array.toList_append,Option.toArray_some,Option.toArray_none,Bool.and_self,-zaa,ty,zgc,zns,joPl,zpn,chGS,zey,timS,zew,zga,chaS,zdm,ixGS,insS,zha,turS,zaw,coeN,hle,hL,hL9,hex,hxd,hv9,zai,zad,zap,zae,zcg,hch,Int.toNat_natCast,Bool.not_true,Bool.not_false,decide_true,hP1,hP2,true_or,or_true,hI,hT,hpl,q1,q3,hpp,q4,q5,q6,hx0,hxd0,hmc,hxM,hMc,hmz,empP,h00,hcm,List.map_nil,List.length_nil,Nat.zero_le,cond_true]
                   repeat (refine And.intro (by first | omega | exact zbg | exact ⟨by omega,by omega⟩ | (unfold top; omega)) ?_)
                 refine ⟨fun y e => by rw [e]; rfl,hgb,?_⟩
                 refine ⟨_,zdg 396 3 67 [AV.agg [.str v,.w (.int .i64 now),.w (.bool false)]] rfl rfl (by simp [slot,AV.ids,idsL]),?_⟩
                 simp only [fgL,fgH,AV.fg,Blk.fg,Nat.reduceBEq,cond_true,cond_false,Bool.and_true,beq_self_eq_true,Bool.true_and,List.drop_zero,hk3,hk4]
                 simp only [go_sem,zaa,Nat.reduceAdd,Nat.reduceSub,Nat.reduceMul,Int.reduceToNat,reduceCtorEq,↓reduceIte,Int.reducePow,Nat.reducePow,Int.reduceMod,Nat.reduceLeDiff,Int.reduceLE,Int.reduceNe,Int.reduceEq,Nat.reduceEqDiff,Nat.reduceLT,Nat.reduceBEq,List.map_cons,List.map_nil,List.toList_toArray,Array.toList_append,Option.toArray_some,Option.toArray_none,Bool.and_self,ty,zgc,jrA,mbA,List.map_cons,List.map_nil]
               | false =>
                 have hpos : 0 < l.length := by cases l with | nil => cases hz | cons _ _ => simp
                 have dpos : decide (0 < l.length) = true := decide_eq_true hpos
                 refine ⟨by simp,joPl,by kernel_rfl,?_⟩
                 unfold Try.f11
                 obtain ⟨K,hK⟩ : ∃ K,l.findIdx (zgb v) = K := ⟨_,rfl⟩
                 have hKl : K ≤ l.length := by rw [← hK]; exact List.findIdx_le_length
                 have hins : insL (l.map mbA) l.length K (.agg [.str v,.w (.int .i64 now),.w (.bool false)]) = (insM v now l).map mbA := by
                   have htk : (l.map mbA).take l.length = l.map mbA := List.take_of_length_le (by simp)
                   unfold insL insM
                   rw [hK,htk,List.map_append,List.map_take,List.map_cons,List.map_drop]
                   rfl
                 have hMl : (insM v now l).length = l.length + 1 := by
                   unfold insM
                   simp only [List.length_append,List.length_take,List.length_cons,List.length_drop]
                   omega
                 generalize insM v now l = M at *
                 have hMe : (M.map mbA).length = l.length + 1 := by rw [List.length_map,hMl]
                 have hMc : (M.take (l.length + 1)).map clrM ++ M.drop (l.length + 1) = M.map clrM := by
                   rw [List.take_of_length_le (by omega),List.drop_eq_nil_of_le (by omega),List.append_nil]
                 have hMx : ∃ k : List Mb,M.map mbA = k.map mbA := ⟨M,rfl⟩
                 have hMz : (if l.length + 1 = 0 then (0 : Int) else 1) = 1 := if_neg (by omega)
                 have hM6 : (l.length + 1 ≤ 1000000) = True := eq_true (by omega)
                 have hk1 : decide (0 + (l.length + 1) ≤ ((M.map clrM).map mbA).length) = true := decide_eq_true (by simp; omega)
                 have hk2 : List.take (l.length + 1) ((M.map clrM).map mbA) = (M.map clrM).map mbA := List.take_of_length_le (by simp; omega)
                 have htk : (l.map mbA).take l.length = l.map mbA := List.take_of_length_le (by simp)
                 by_cases hk : K < l.length
                 · have hpp : ixG (zgb v) l = (K : Nat) := by unfold ixG; rw [hK,if_pos hk]
                   have q4 : decide ((0 : Int) ≤ (K : Int)) = true := decide_eq_true (by omega)
                   iterate 26
                     try rw [zaa]
                     try simp (config := { maxSteps := 3000000 }) only [go_sem,zaa,Nat.reduceAdd,Nat.reduceSub,Nat.reduceMul,Int.reduceToNat,reduceCtorEq,↓reduceIte,Int.reducePow,Nat.reducePow,Int.reduceMod,Nat.reduceLeDiff,Int.reduceLE,Int.reduceNe,Int.reduceEq,Nat.reduceEqDiff,Nat.reduceLT,Nat.reduceBEq,List.map_cons,List.map_nil,List.toList_toArray,Array.toList_append,Option.toArray_some,Option.toArray_none,Bool.and_self,-zaa,ty,zgc,zns,joPl,zpn,chGS,zey,timS,zew,zga,chaS,zdm,ixGS,insS,zha,turS,zaw,coeN,hle,hL,hL9,hex,hxd,hv9,zai,zad,zap,zae,zcg,hch,Int.toNat_natCast,Bool.not_true,Bool.not_false,decide_true,hP1,hP2,true_or,or_true,hI,hT,hpl,q1,q2,q3,hz,hpos,dpos,hpp,q4,hins,hMe,hMc,hMx,hMz,hM6,htk,cond_false]
                     repeat (refine And.intro (by first | omega | exact zbg | exact ⟨by omega,by omega⟩ | (unfold top; omega)) ?_)
                   refine ⟨_,zdg 412 3 67 ((M.map clrM).map mbA) rfl (zad _) (by simp [slot,AV.ids,idsL]),?_⟩
                   simp only [fgL,fgH,AV.fg,Blk.fg,Nat.reduceBEq,cond_true,cond_false,Bool.and_true,beq_self_eq_true,Bool.true_and,List.drop_zero,zcg,hk1,hk2]
                   simp only [go_sem,zaa,Nat.reduceAdd,Nat.reduceSub,Nat.reduceMul,Int.reduceToNat,reduceCtorEq,↓reduceIte,Int.reducePow,Nat.reducePow,Int.reduceMod,Nat.reduceLeDiff,Int.reduceLE,Int.reduceNe,Int.reduceEq,Nat.reduceEqDiff,Nat.reduceLT,Nat.reduceBEq,List.map_cons,List.map_nil,List.toList_toArray,Array.toList_append,Option.toArray_some,Option.toArray_none,Bool.and_self,ty,zgc,jrA,zad,zae]
                 · have hpp : ixG (zgb v) l = -1 := by unfold ixG; rw [hK,if_neg hk]
                   have q4 : decide ((0 : Int) ≤ -1) = false := rfl
                   obtain rfl : K = l.length := by omega
                   iterate 26
                     try rw [zaa]
                     try simp (config := { maxSteps := 3000000 }) only [go_sem,zaa,Nat.reduceAdd,Nat.reduceSub,Nat.reduceMul,Int.reduceToNat,reduceCtorEq,↓reduceIte,Int.reducePow,Nat.reducePow,Int.reduceMod,Nat.reduceLeDiff,Int.reduceLE,Int.reduceNe,Int.reduceEq,Nat.reduceEqDiff,Nat.reduceLT,Nat.reduceBEq,List.map_cons,List.map_nil,List.toList_toArray,Array.toList_append,Option.toArray_some,Option.toArray_none,Bool.and_self,-zaa,ty,zgc,zns,joPl,zpn,chGS,zey,timS,zew,zga,chaS,zdm,ixGS,insS,zha,turS,zaw,coeN,hle,hL,hL9,hex,hxd,hv9,zai,zad,zap,zae,zcg,hch,Int.toNat_natCast,Bool.not_true,Bool.not_false,decide_true,hP1,hP2,true_or,or_true,hI,hT,hpl,q1,q2,q3,hz,hpos,dpos,hpp,q4,hins,hMe,hMc,hMx,hMz,hM6,htk,cond_false]
                     repeat (refine And.intro (by first | omega | exact zbg | exact ⟨by omega,by omega⟩ | (unfold top; omega)) ?_)
                   refine ⟨_,zdg 396 3 67 ((M.map clrM).map mbA) rfl (zad _) (by simp [slot,AV.ids,idsL]),?_⟩
                   simp only [fgL,fgH,AV.fg,Blk.fg,Nat.reduceBEq,cond_true,cond_false,Bool.and_true,beq_self_eq_true,Bool.true_and,List.drop_zero,zcg,hk1,hk2]
                   simp only [go_sem,zaa,Nat.reduceAdd,Nat.reduceSub,Nat.reduceMul,Int.reduceToNat,reduceCtorEq,↓reduceIte,Int.reducePow,Nat.reducePow,Int.reduceMod,Nat.reduceLeDiff,Int.reduceLE,Int.reduceNe,Int.reduceEq,Nat.reduceEqDiff,Nat.reduceLT,Nat.reduceBEq,List.map_cons,List.map_nil,List.toList_toArray,Array.toList_append,Option.toArray_some,Option.toArray_none,Bool.and_self,ty,zgc,jrA,zad,zae]
   · have q0 : decide (chG gn ph l = 0) = false := decide_eq_false hch
     rw [if_neg hch]
     have hch : True := trivial
     refine ⟨by simp,joPl,by kernel_rfl,?_⟩
     unfold Try.f11
     iterate 6
       try rw [zaa]
       try simp (config := { maxSteps := 3000000 }) only [go_sem,zaa,Nat.reduceAdd,Nat.reduceSub,Nat.reduceMul,Int.reduceToNat,reduceCtorEq,↓reduceIte,Int.reducePow,Nat.reducePow,Int.reduceMod,Nat.reduceLeDiff,Int.reduceLE,Int.reduceNe,Int.reduceEq,Nat.reduceEqDiff,Nat.reduceLT,Nat.reduceBEq,List.map_cons,List.map_nil,List.toList_toArray,Array.toList_append,Option.toArray_some,Option.toArray_none,Bool.and_self,-zaa,ty,zgc,zns,joPl,zpn,chGS,zey,timS,zew,zga,chaS,zdm,ixGS,insS,zha,turS,zaw,coeN,hle,hL,hL9,hex,hxd,hv9,zai,zad,zap,zae,zcg,hch,Int.toNat_natCast,Bool.not_true,Bool.not_false,decide_true,hP1,hP2,true_or,or_true,q0]
       repeat (refine And.intro (by first | omega | exact zbg | exact ⟨by omega,by omega⟩ | (unfold top; omega)) ?_)
     try (refine ⟨_,Weak.refl _,?_⟩)
     try simp only [go_sem,zaa,Nat.reduceAdd,Nat.reduceSub,Nat.reduceMul,Int.reduceToNat,reduceCtorEq,↓reduceIte,Int.reducePow,Nat.reducePow,Int.reduceMod,Nat.reduceLeDiff,Int.reduceLE,Int.reduceNe,Int.reduceEq,Nat.reduceEqDiff,Nat.reduceLT,Nat.reduceBEq,List.map_cons,List.map_nil,List.toList_toArray,Array.toList_append,Option.toArray_some,Option.toArray_none,Bool.and_self,ty,zgc,jrA,errJ,List.map_nil]
 · exact hp.elim
end
end Go.Proofs.Ytdnlliedmfgfiaa
namespace Go.Proofs.Ytdnlliedmfgfiaa
open Ax
def leF (gn ph : Int) (l : List Mb) (v : List UInt8) : JR :=
 if chG gn ph l = 0 then
   if l.findIdx (isD v) < l.length then
     if gn = 1099511627776 then errJ 11
     else ⟨gn + 1,if (l.eraseIdx (l.findIdx (isD v))).length = 0 then 0 else 1,(l.eraseIdx (l.findIdx (isD v))).map clrM,false,0⟩
   else errJ 20
 else errJ (chG gn ph l)
def leS : zan
 | [.agg [.w (.int .i64 gn),.w (.int .u8 ph),.sg 3 xs f],.str v],[] => ⟨xs.length ≤ 900000 ∧ ∃ l : List Mb,xs = l.map mbA ∧ ∀ r ∈ l,r.d.length ≤ 9223372036854775807,jrA (leF gn ph (xs.map umb) v),[]⟩
 | _,_ => zbo
def zqx (f : FuncId) : Option zan :=
 match f with
 | 16 => some chGS
 | 28 => some zew
 | 31 => some zdm
 | _ => none
theorem Sle20_ok : Fns Try.prog zqx := by
 intro f s h
 unfold zqx at h
 split at h
 · injection h with h; subst h; exact ⟨⟨_,Try.func16,by kernel_rfl,by kernel_rfl⟩,zjf⟩
 · injection h with h; subst h; exact ⟨⟨_,Try.func28,by kernel_rfl,by kernel_rfl⟩,znb⟩
 · injection h with h; subst h; exact ⟨⟨_,Try.func31,by kernel_rfl,by kernel_rfl⟩,zju⟩
 · cases h
def Ole20 (f : FuncId) : Option zan :=
 match f with
 | 40 => some (delS 3 zaI20)
 | 35 => some turS
 | _ => none
theorem Ole20_ok : FnsO Try.prog Ole20 := by
 intro f s h
 unfold Ole20 at h
 split at h
 · injection h with h; subst h; exact ⟨⟨_,Try.func40,by kernel_rfl,by kernel_rfl⟩,zmk⟩
 · injection h with h; subst h; exact ⟨⟨_,Try.func35,by kernel_rfl,by kernel_rfl⟩,zor⟩
 · cases h
def lePl : zeq := fun id => match id with
 | 10 => .opn [] 5
 | 11 => .opn [] 1
 | _ => .std
section
set_option maxRecDepth 100000
set_option maxHeartbeats 16000000
theorem le_sound : zbm Try.prog 14 leS := by
 refine zbh (S := zqx) (SO := Ole20) (T := ty) mixed ty_ok Sle20_ok Ole20_ok Try.func14 (c := Try.f14.body.getD .skip) (by kernel_rfl) (fun xs pins hp _ => ?_)
 unfold leS at hp ⊢
 split at hp
 · rename_i gn ph xs f v _
   obtain ⟨hL0,l,rfl,hd⟩ := hp
   rw [List.length_map] at hL0
   have hle : (l.map mbA).length = l.length := by simp
   have hL : l.length ≤ 1000000 := by omega
   have hL9 : l.length ≤ 9223372036854775807 := by omega
   have hex : ∃ k : List Mb,l.map mbA = k.map mbA := ⟨l,rfl⟩
   have hxd : ∃ k : List Mb,l.map mbA = k.map mbA ∧ ∀ r ∈ k,r.d.length ≤ 9223372036854775807 := ⟨l,rfl,hd⟩
   have coeN : ∀ f,coe ty 29 (.sg 3 [] f) = .sg 3 [] f := fun f => rfl
   have hP1 : ixP 54 v = isD v := if_pos rfl
   rw [zai]
   unfold leF
   by_cases hch : chG gn ph l = 0
   · have q0 : decide (chG gn ph l = 0) = true := decide_eq_true hch
     obtain ⟨h16,⟨g0,g1⟩,_,_⟩ := ch_ok20 hch
     rw [if_pos hch]
     obtain ⟨I,hI2⟩ : ∃ I,l.findIdx (isD v) = I := ⟨_,rfl⟩
     rw [hI2]
     by_cases hf : I < l.length
     · rw [if_pos hf]
       have hpl : ixG (isD v) l = (I : Nat) := by unfold ixG; rw [hI2,if_pos hf]
       have q1 : decide ((I : Int) < 0) = false := decide_eq_false (by omega)
       by_cases hg : gn = 1099511627776
       · rw [if_pos hg]
         have q3 : decide (gn = 1099511627776) = true := decide_eq_true hg
         refine ⟨by simp,lePl,by kernel_rfl,?_⟩
         unfold Try.f14
         iterate 14
           try rw [zaa]
           try simp (config := { maxSteps := 3000000 }) only [go_sem,zaa,Nat.reduceAdd,Nat.reduceSub,Nat.reduceMul,Int.reduceToNat,reduceCtorEq,↓reduceIte,Int.reducePow,Nat.reducePow,Int.reduceMod,Nat.reduceLeDiff,Int.reduceLE,Int.reduceNe,Int.reduceEq,Nat.reduceEqDiff,Nat.reduceLT,Nat.reduceBEq,List.map_cons,List.map_nil,List.toList_toArray,Array.toList_append,Option.toArray_some,Option.toArray_none,Bool.and_self,-zaa,ty,zqx,Ole20,lePl,chGS,zew,zdm,delS,turS,zaw,coeN,hle,hL,hL9,hex,hxd,zai,zad,zap,zae,zcg,hch,Int.toNat_natCast,Bool.not_true,Bool.not_false,decide_true,hP1,true_or,or_true,hpl,q1,q3]
           repeat (refine And.intro (by first | omega | exact zbg | exact ⟨by omega,by omega⟩ | exact ⟨rfl,rfl⟩ | (unfold top; omega)) ?_)
         try (refine ⟨_,Weak.refl _,?_⟩)
         try simp only [go_sem,zaa,Nat.reduceAdd,Nat.reduceSub,Nat.reduceMul,Int.reduceToNat,reduceCtorEq,↓reduceIte,Int.reducePow,Nat.reducePow,Int.reduceMod,Nat.reduceLeDiff,Int.reduceLE,Int.reduceNe,Int.reduceEq,Nat.reduceEqDiff,Nat.reduceLT,Nat.reduceBEq,List.map_cons,List.map_nil,List.toList_toArray,Array.toList_append,Option.toArray_some,Option.toArray_none,Bool.and_self,ty,zqx,jrA,errJ,List.map_nil]
       · rw [if_neg hg]
         have q3 : decide (gn = 1099511627776) = false := decide_eq_false hg
         have hgb : (-4611686018427387904 ≤ gn ∧ gn ≤ 4611686018427387904) := by omega
         obtain ⟨M,hM⟩ : ∃ M,l.eraseIdx I = M := ⟨_,rfl⟩
         rw [hM]
         have hMl : l.length - 1 = M.length := by rw [← hM,List.length_eraseIdx_of_lt hf]
         have hMp : M.length < l.length := by omega
         have hem : empP (l.map mbA) = false := by cases l with | nil => simp at hf | cons _ _ => rfl
         have hpos : 0 < l.length := by omega
         have dpos : decide (0 < l.length) = true := decide_eq_true hpos
         have hn0 : 0 < M.length + 1 := by omega
         have dn0 : decide (0 < M.length + 1) = true := decide_eq_true hn0
         have e1 : ((I : Int) + 1 + 9223372036854775808) % 18446744073709551616 - 9223372036854775808 = (I : Int) + 1 := by omega
         have hdel : delL (l.map mbA) l.length I zaI20 = (M ++ [zMb]).map mbA := by
           have htk : (l.map mbA).take l.length = l.map mbA := List.take_of_length_le (by simp)
           unfold delL
           rw [htk,← hM,List.eraseIdx_eq_take_drop_succ,List.append_assoc,List.map_append,List.map_append,List.map_take,List.map_drop]
           rfl
         have hNe : ((M ++ [zMb]).map mbA).length = M.length + 1 := by simp
         have hMx : ∃ k : List Mb,(M ++ [zMb]).map mbA = k.map mbA := ⟨_,rfl⟩
         have hMt : (List.take M.length (M ++ [zMb])).map clrM ++ List.drop M.length (M ++ [zMb]) = M.map clrM ++ [zMb] := by
           rw [List.take_left' rfl,List.drop_left' rfl]
         have hIl : ((I : Int) < (l.length : Int)) := by omega
         generalize hN : (M ++ [zMb]) = N at *
         have hk1 : decide (0 + M.length ≤ ((M.map clrM ++ [zMb]).map mbA).length) = true := decide_eq_true (by simp)
         have hk2 : List.take M.length ((M.map clrM ++ [zMb]).map mbA) = (M.map clrM).map mbA := by
           rw [List.map_append,List.take_left' (by simp)]
         refine ⟨by simp,lePl,by kernel_rfl,?_⟩
         unfold Try.f14
         iterate 20
           try rw [zaa]
           try simp (config := { maxSteps := 3000000 }) only [go_sem,zaa,Nat.reduceAdd,Nat.reduceSub,Nat.reduceMul,Int.reduceToNat,reduceCtorEq,↓reduceIte,Int.reducePow,Nat.reducePow,Int.reduceMod,Nat.reduceLeDiff,Int.reduceLE,Int.reduceNe,Int.reduceEq,Nat.reduceEqDiff,Nat.reduceLT,Nat.reduceBEq,List.map_cons,List.map_nil,List.toList_toArray,Array.toList_append,Option.toArray_some,Option.toArray_none,Bool.and_self,-zaa,ty,zqx,Ole20,lePl,chGS,zew,zdm,delS,turS,zaw,coeN,hle,hL,hL9,hex,hxd,zai,zad,zap,zae,zcg,hch,Int.toNat_natCast,Bool.not_true,Bool.not_false,decide_true,hP1,true_or,or_true,hpl,q1,q3,hem,hpos,dpos,hn0,dn0,e1,hdel,hNe,hMx,hMt,hMl,cond_false]
           repeat (refine And.intro (by first | omega | exact zbg | exact ⟨by omega,by omega⟩ | exact ⟨rfl,rfl⟩ | (unfold top; omega)) ?_)
         refine ⟨⟨by cases decide (0 < M.length) <;> rfl,⟨by omega,by omega⟩,hgb⟩,?_⟩
         refine ⟨_,zdg 148 3 34 ((M.map clrM ++ [zMb]).map mbA) rfl (zad _) (by simp [slot,AV.ids,idsL]),?_⟩
         simp only [fgL,fgH,AV.fg,Blk.fg,Nat.reduceBEq,cond_true,cond_false,Bool.and_true,beq_self_eq_true,Bool.true_and,List.drop_zero,zcg,hk1,hk2]
         simp only [go_sem,zaa,Nat.reduceAdd,Nat.reduceSub,Nat.reduceMul,Int.reduceToNat,reduceCtorEq,↓reduceIte,Int.reducePow,Nat.reducePow,Int.reduceMod,Nat.reduceLeDiff,Int.reduceLE,Int.reduceNe,Int.reduceEq,Nat.reduceEqDiff,Nat.reduceLT,Nat.reduceBEq,List.map_cons,List.map_nil,List.toList_toArray,Array.toList_append,Option.toArray_some,Option.toArray_none,Bool.and_self,ty,zqx,jrA,zad,zae]
     · rw [if_neg hf]
       have hpl : ixG (isD v) l = -1 := by unfold ixG; rw [hI2,if_neg hf]
       have q1 : decide ((-1 : Int) < 0) = true := rfl
       refine ⟨by simp,lePl,by kernel_rfl,?_⟩
       unfold Try.f14
       iterate 12
         try rw [zaa]
         try simp (config := { maxSteps := 3000000 }) only [go_sem,zaa,Nat.reduceAdd,Nat.reduceSub,Nat.reduceMul,Int.reduceToNat,reduceCtorEq,↓reduceIte,Int.reducePow,Nat.reducePow,Int.reduceMod,Nat.reduceLeDiff,Int.reduceLE,Int.reduceNe,Int.reduceEq,Nat.reduceEqDiff,Nat.reduceLT,Nat.reduceBEq,List.map_cons,List.map_nil,List.toList_toArray,Array.toList_append,Option.toArray_some,Option.toArray_none,Bool.and_self,-zaa,ty,zqx,Ole20,lePl,chGS,zew,zdm,delS,turS,zaw,coeN,hle,hL,hL9,hex,hxd,zai,zad,zap,zae,zcg,hch,Int.toNat_natCast,Bool.not_true,Bool.not_false,decide_true,hP1,true_or,or_true,hpl,q1]
         repeat (refine And.intro (by first | omega | exact zbg | exact ⟨by omega,by omega⟩ | exact ⟨rfl,rfl⟩ | (unfold top; omega)) ?_)
       try (refine ⟨_,Weak.refl _,?_⟩)
       try simp only [go_sem,zaa,Nat.reduceAdd,Nat.reduceSub,Nat.reduceMul,Int.reduceToNat,reduceCtorEq,↓reduceIte,Int.reducePow,Nat.reducePow,Int.reduceMod,Nat.reduceLeDiff,Int.reduceLE,Int.reduceNe,Int.reduceEq,Nat.reduceEqDiff,Nat.reduceLT,Nat.reduceBEq,List.map_cons,List.map_nil,List.toList_toArray,Array.toList_append,Option.toArray_some,Option.toArray_none,Bool.and_self,ty,zqx,jrA,errJ,List.map_nil]
   · have q0 : decide (chG gn ph l = 0) = false := decide_eq_false hch
     rw [if_neg hch]
     have hch : True := trivial
     refine ⟨by simp,lePl,by kernel_rfl,?_⟩
     unfold Try.f14
     iterate 6
       try rw [zaa]
       try simp (config := { maxSteps := 3000000 }) only [go_sem,zaa,Nat.reduceAdd,Nat.reduceSub,Nat.reduceMul,Int.reduceToNat,reduceCtorEq,↓reduceIte,Int.reducePow,Nat.reducePow,Int.reduceMod,Nat.reduceLeDiff,Int.reduceLE,Int.reduceNe,Int.reduceEq,Nat.reduceEqDiff,Nat.reduceLT,Nat.reduceBEq,List.map_cons,List.map_nil,List.toList_toArray,Array.toList_append,Option.toArray_some,Option.toArray_none,Bool.and_self,-zaa,ty,zqx,Ole20,lePl,chGS,zew,zdm,delS,turS,zaw,coeN,hle,hL,hL9,hex,hxd,zai,zad,zap,zae,zcg,hch,Int.toNat_natCast,Bool.not_true,Bool.not_false,decide_true,hP1,true_or,or_true,q0]
       repeat (refine And.intro (by first | omega | exact zbg | exact ⟨by omega,by omega⟩ | exact ⟨rfl,rfl⟩ | (unfold top; omega)) ?_)
     try (refine ⟨_,Weak.refl _,?_⟩)
     try simp only [go_sem,zaa,Nat.reduceAdd,Nat.reduceSub,Nat.reduceMul,Int.reduceToNat,reduceCtorEq,↓reduceIte,Int.reducePow,Nat.reducePow,Int.reduceMod,Nat.reduceLeDiff,Int.reduceLE,Int.reduceNe,Int.reduceEq,Nat.reduceEqDiff,Nat.reduceLT,Nat.reduceBEq,List.map_cons,List.map_nil,List.toList_toArray,Array.toList_append,Option.toArray_some,Option.toArray_none,Bool.and_self,ty,zqx,jrA,errJ,List.map_nil]
 · exact hp.elim
end
end Go.Proofs.Ytdnlliedmfgfiaa
namespace Go.Proofs.Ytdnlliedmfgfiaa
open Ax
section
set_option maxRecDepth 100000
set_option maxHeartbeats 2000000
def zxo : zan
 | [.sg 3 [] true],[] => ⟨True,.sg 3 [] true,[]⟩
 | _,_ => zbo
theorem clo0G_sound : zbm Try.prog 56 zxo := by
 refine zbh (S := noS) (SO := noO) (T := ty) mixed ty_ok zbv zgy Try.func56 (c := Try.f56.body.getD .skip) (by kernel_rfl) (fun xs pins hp _ => ?_)
 unfold zxo at hp ⊢
 split at hp
 · refine ⟨by simp,cloPl0,by kernel_rfl,?_⟩
   unfold Try.f56
   simp only [go_sem,zaa,Nat.reduceAdd,Nat.reduceSub,Nat.reduceMul,Int.reduceToNat,reduceCtorEq,↓reduceIte,Int.reducePow,Nat.reducePow,Int.reduceMod,Nat.reduceLeDiff,Int.reduceLE,Int.reduceNe,Int.reduceEq,Nat.reduceEqDiff,Nat.reduceLT,Nat.reduceBEq,List.map_cons,List.map_nil,List.toList_toArray,Array.toList_append,Option.toArray_some,Option.toArray_none,Bool.and_self,ty,noS,cloPl0,zet,List.length_nil]
   repeat (refine And.intro (by omega) ?_)
   intro b
   refine ⟨fun hb => ?_,fun hb => ?_⟩
   · refine ⟨_,zij 2 (.sg 3 [] true) (fun w loc v h => zoj 3 h),?_⟩
     simp only [go_sem,zaa,Nat.reduceAdd,Nat.reduceSub,Nat.reduceMul,Int.reduceToNat,reduceCtorEq,↓reduceIte,Int.reducePow,Nat.reducePow,Int.reduceMod,Nat.reduceLeDiff,Int.reduceLE,Int.reduceNe,Int.reduceEq,Nat.reduceEqDiff,Nat.reduceLT,Nat.reduceBEq,List.map_cons,List.map_nil,List.toList_toArray,Array.toList_append,Option.toArray_some,Option.toArray_none,Bool.and_self,ty,noS]
   · refine ⟨_,zij 2 (.sg 3 [] true) (fun w loc v h => zoj 3 h),?_⟩
     simp only [go_sem,zaa,Nat.reduceAdd,Nat.reduceSub,Nat.reduceMul,Int.reduceToNat,reduceCtorEq,↓reduceIte,Int.reducePow,Nat.reducePow,Int.reduceMod,Nat.reduceLeDiff,Int.reduceLE,Int.reduceNe,Int.reduceEq,Nat.reduceEqDiff,Nat.reduceLT,Nat.reduceBEq,List.map_cons,List.map_nil,List.toList_toArray,Array.toList_append,Option.toArray_some,Option.toArray_none,Bool.and_self,ty,noS]
 · exact hp.elim
def zqh : zan
 | [.sg 1 [.str a,.str b] f],[] => ⟨True,.ms 0 1 0 2,[.g 1 [.str a,.str b]]⟩
 | _,_ => zbo
theorem clo2s_sound : zbm Try.prog 69 zqh := by
 refine zbh (S := noS) (SO := noO) (T := ty) mixed ty_ok zbv zgy Try.func69 (c := Try.f69.body.getD .skip) (by kernel_rfl) (fun xs pins hp _ => ?_)
 unfold zqh at hp ⊢
 split at hp
 · rename_i a b f _
   refine ⟨by simp,cloPl,by kernel_rfl,?_⟩
   unfold Try.f69
   have h2 : ([AV.str a,AV.str b] : List AV).length = 2 := rfl
   have htop : 2 ≤ top := by unfold top; omega
   simp only [go_sem,zaa,Nat.reduceAdd,Nat.reduceSub,Nat.reduceMul,Int.reduceToNat,reduceCtorEq,↓reduceIte,Int.reducePow,Nat.reducePow,Int.reduceMod,Nat.reduceLeDiff,Int.reduceLE,Int.reduceNe,Int.reduceEq,Nat.reduceEqDiff,Nat.reduceLT,Nat.reduceBEq,List.map_cons,List.map_nil,List.toList_toArray,Array.toList_append,Option.toArray_some,Option.toArray_none,Bool.and_self,ty,noS,cloPl,zet,h2]
   repeat (refine And.intro (by omega) ?_)
   intro b hb
   obtain rfl : b = false := by cases b with | false => rfl | true => exact absurd (hb rfl) (by decide)
   simp only [go_sem,zaa,Nat.reduceAdd,Nat.reduceSub,Nat.reduceMul,Int.reduceToNat,reduceCtorEq,↓reduceIte,Int.reducePow,Nat.reducePow,Int.reduceMod,Nat.reduceLeDiff,Int.reduceLE,Int.reduceNe,Int.reduceEq,Nat.reduceEqDiff,Nat.reduceLT,Nat.reduceBEq,List.map_cons,List.map_nil,List.toList_toArray,Array.toList_append,Option.toArray_some,Option.toArray_none,Bool.and_self,ty,noS,cloPl,zet,h2,cond_false]
   repeat (refine And.intro (by first | exact htop | omega) ?_)
   refine ⟨_,Weak.refl _,?_⟩
   simp only [go_sem,zaa,Nat.reduceAdd,Nat.reduceSub,Nat.reduceMul,Int.reduceToNat,reduceCtorEq,↓reduceIte,Int.reducePow,Nat.reducePow,Int.reduceMod,Nat.reduceLeDiff,Int.reduceLE,Int.reduceNe,Int.reduceEq,Nat.reduceEqDiff,Nat.reduceLT,Nat.reduceBEq,List.map_cons,List.map_nil,List.toList_toArray,Array.toList_append,Option.toArray_some,Option.toArray_none,Bool.and_self,ty,noS,h2,cond_false]
 · exact hp.elim
end
def Sb20 (f : FuncId) : Option zan :=
 match f with
 | 69 => some zqh
 | 56 => some zxo
 | _ => none
theorem Sb20_ok : Fns Try.prog Sb20 := by
 intro f s h
 unfold Sb20 at h
 split at h
 · injection h with h; subst h; exact ⟨⟨_,Try.func69,by kernel_rfl,by kernel_rfl⟩,clo2s_sound⟩
 · injection h with h; subst h; exact ⟨⟨_,Try.func56,by kernel_rfl,by kernel_rfl⟩,clo0G_sound⟩
 · cases h
noncomputable def hCl200 (A : List AV) (lk : Nat → Option Blk) (nm : Nat) : Option (AV × Us) :=
 match A with
 | [.sg s [] f] => bif Nat.beq s 3 && f then some (.sg 3 [] true,[]) else none
 | _ => none
noncomputable def hSt20 (A : List AV) (lk : Nat → Option Blk) (nm : Nat) : Option (AV × Us) :=
 match A with
 | [.sg s [.str a,.str b] f] => bif Nat.beq s 1 then some (.ms nm 1 0 2,[(nm,some (.g 1 [.str a,.str b]))]) else none
 | _ => none
def So20 (f : FuncId) : Option zan :=
 match f with
 | 40 => some (delS 3 zaI20)
 | _ => none
theorem So20_ok : FnsO Try.prog So20 := by
 intro f s h
 unfold So20 at h
 split at h
 · injection h with h; subst h; exact ⟨⟨_,Try.func40,by kernel_rfl,by kernel_rfl⟩,zmk⟩
 · cases h
noncomputable def hDe20 (A : List AV) (lk : Nat → Option Blk) (nm : Nat) : Option (AV × Us) :=
 match A with
 | [.ms id s off len,.w (.int .i64 (.ofNat i)),.w (.int .i64 (.ofNat j))] => bif Nat.beq s 3 && (Nat.beq off 0 && (Nat.beq len 2 && (Nat.beq i 0 && Nat.beq j 1))) then (match lk id with
     | some (.g t [x,y]) => bif Nat.beq t 3 && (x.closed && y.closed) then some (.ms id 3 0 1,[(id,some (.g 3 [y,zaI20]))]) else none
     | _ => none) else none
 | _ => none
noncomputable def B20 : zhj := fun g => bif Nat.beq g 40 then some hDe20 else bif Nat.beq g 69 then some hSt20 else bif Nat.beq g 56 then some hCl200 else none
theorem B20_ok : zgs Try.prog Sb20 B20 := by
 intro g h e
 unfold B20 at e
 cases hd0 : Nat.beq g 40 with
 | true =>
   rw [hd0,cond_true] at e
   injection e with e
   subst e
   have hg := Nat.eq_of_beq_eq_true hd0
   subst hg
   refine .inr ⟨So20,So20_ok,fun A H lk nm hl x us hx => ?_⟩
   unfold hDe20 at hx
   split at hx
   · rename_i id s off len i j
     cases hc : (Nat.beq s 3 && (Nat.beq off 0 && (Nat.beq len 2 && (Nat.beq i 0 && Nat.beq j 1)))) with
     | false => rw [hc] at hx; cases hx
     | true =>
       rw [hc,cond_true] at hx
       simp only [Bool.and_eq_true] at hc
       obtain ⟨a1,a2,a3,a4,a5⟩ := hc
       have a1 := Nat.eq_of_beq_eq_true a1
       have a2 := Nat.eq_of_beq_eq_true a2
       have a3 := Nat.eq_of_beq_eq_true a3
       have a4 := Nat.eq_of_beq_eq_true a4
       have a5 := Nat.eq_of_beq_eq_true a5
       subst a1 a2 a3 a4 a5
       split at hx
       · rename_i t x0 y0 hk
         cases hc : (Nat.beq t 3 && (x0.closed && y0.closed)) with
         | false => rw [hc] at hx; cases hx
         | true =>
           rw [hc,cond_true] at hx
           simp only [Bool.and_eq_true] at hc
           obtain ⟨b1,b2,b3⟩ := hc
           have b1 := Nat.eq_of_beq_eq_true b1
           subst b1
           injection hx with hx
           injection hx with hx1 hx2
           subst hx1 hx2
           have hH : Ax.look H id = some (.g 3 [x0,y0]) := by rw [hl]; exact hk
           have hi := zno x0 b2
           have hi2 := zno y0 b3
           have hS : So20 40 = some (delS 3 zaI20) := rfl
           have hk : (Blk.g 3 [x0,y0]).closed = true := by simp [Blk.closed,closedL,b2,b3]
           have hr : reach H 12 [] [id] = [id] := by simp [reach,hH,Blk.idsB,hk]
           have hA : idsL [AV.ms id 3 0 2,AV.w (Value.int IntKind.i64 (Int.ofNat 0)),AV.w (Value.int IntKind.i64 (Int.ofNat 1))] = [id] := rfl
           unfold aOpen
           rw [hS,hA,hr]
           have hp : pinsR H (idxOf [id]) [id] = [.g 3 [x0,y0]] := by simp [pinsR,hH,Blk.renB,hk]
           have hn : renL (idxOf [id]) [AV.ms id 3 0 2,AV.w (Value.int IntKind.i64 (Int.ofNat 0)),AV.w (Value.int IntKind.i64 (Int.ofNat 1))] = [AV.ms 0 3 0 2,AV.w (Value.int IntKind.i64 0),AV.w (Value.int IntKind.i64 1)] := by simp [renL,AV.ren,idxOf,idx]
           have hd : delL [x0,y0] 2 (Int.toNat 0) zaI20 = [y0,zaI20] := rfl
           have hz : zaI20.closed = true := rfl
           have hzi : zaI20.ids = [] := rfl
           have hzr : ∀ g,zaI20.ren g = zaI20 := fun g => rfl
           simp only [hp,hn,delS,openOut,hd]
           refine ⟨⟨⟨by simp [nodup],?_,by simp [allIn,idsL,AV.ids],?_⟩,by simp,by simp,by simp⟩,rfl,fun k => ?_⟩
           · simp [walk,sidsLH,AV.sidsH,hH]
           · simp [pinsIn,hH,allIn,Blk.idsB,hk]
           · simp [backO,Blk.isGone,gOf,Blk.renB,Blk.closed,closedL,upd,zav,hl,b3,hz,eq_comm]
       · cases hx
   · cases hx
 | false =>
   rw [hd0,cond_false] at e
   cases hs0 : Nat.beq g 69 with
   | true =>
     rw [hs0,cond_true] at e
     injection e with e
     subst e
     have hg := Nat.eq_of_beq_eq_true hs0
     subst hg
     refine .inl fun A H lk nm hl x us hx => ?_
     unfold hSt20 at hx
     split at hx
     · rename_i s a b f
       cases hc : Nat.beq s 1 with
       | false => rw [hc] at hx; cases hx
       | true =>
         rw [hc,cond_true] at hx
         have b1 := Nat.eq_of_beq_eq_true hc
         subst b1
         injection hx with hx
         injection hx with hx1 hx2
         subst hx1 hx2
         have hS : Sb20 69 = some zqh := rfl
         unfold aUser
         rw [hS]
         refine ⟨?_,?_,fun k => ?_⟩
         · simp [callOut,rootsL,AV.roots,lentIdsL,AV.lentIds,pinsOf,nodup,lendL,lend,zqh,closedB,Blk.closed,closedL,AV.closed]
         · simp [callOut,rootsL,AV.roots,lentIdsL,AV.lentIds,pinsOf,nodup,lendL,lend,zqh,AV.ren,gOf]
         · simp [callOut,rootsL,AV.roots,lentIdsL,AV.lentIds,pinsOf,nodup,lendL,lend,zqh,back,zhr,dropAll,closedB,upd,hl,gOf,zav,eq_comm (a := nm) (b := k)]
     · cases hx
   | false =>
     rw [hs0,cond_false] at e
     cases h0 : Nat.beq g 56 with
     | true =>
       rw [h0,cond_true] at e
       injection e with e
       subst e
       have hg := Nat.eq_of_beq_eq_true h0
       subst hg
       refine .inl fun A H lk nm hl x us hx => ?_
       unfold hCl200 at hx
       split at hx
       · rename_i s f
         cases hc : (Nat.beq s 3 && f) with
         | false => rw [hc] at hx; cases hx
         | true =>
           rw [hc,cond_true] at hx
           simp only [Bool.and_eq_true] at hc
           obtain ⟨b1,rfl⟩ := hc
           have b1 := Nat.eq_of_beq_eq_true b1
           subst b1
           injection hx with hx
           injection hx with hx1 hx2
           subst hx1 hx2
           have hS : Sb20 56 = some zxo := rfl
           unfold aUser
           rw [hS]
           simp [callOut,rootsL,AV.roots,lentIdsL,AV.lentIds,pinsOf,nodup,lendL,lend,zxo,AV.ren,back,zhr,dropAll,closedB,upd,hl]
       · cases hx
     | false =>
       rw [h0,cond_false] at e
       cases e
end Go.Proofs.Ytdnlliedmfgfiaa
namespace Go.Proofs.Ytdnlliedmfgfiaa
open Ax
section
set_option maxRecDepth 100000
theorem aw20_sound : zbm Try.prog 6 yesS := yes_with Sb20_ok B20_ok (by kernel_rfl)
end
end Go.Proofs.Ytdnlliedmfgfiaa
namespace Go.Proofs.Ytdnlliedmfgfiaa
open Ax
def strB : AV → List UInt8
 | .str bs => bs
 | _ => []
theorem zlx (ss : List (List UInt8)) : (ss.map AV.str).map strB = ss := by
 rw [List.map_map]; exact (List.map_congr_left fun x _ => rfl).trans (List.map_id ss)
def zig (ss : List (List UInt8)) : List (List UInt8) := ss.mergeSort fun x y => decide (x ≤ y)
theorem zio (ss : List (List UInt8)) : (zig ss).length = ss.length := List.length_mergeSort ..
def zou : zan
 | [.ms 0 1 0 n],[.g 1 xs] => ⟨n = xs.length ∧ n < 4611686018427387904 ∧ ∃ ss : List (List UInt8),xs = ss.map AV.str,.tup [],[.g 1 ((zig (xs.map strB)).map AV.str)]⟩
 | [.sg s [] fl],[] => ⟨True,.tup [],[]⟩
 | _,_ => zbo
theorem flat_str (ss : List (List UInt8)) : (ss.map AV.str).flatMap AV.leaves = ss.map AV.str := by
 induction ss with
 | nil => rfl
 | cons s r ih => rw [List.map_cons,List.flatMap_cons,ih]; rfl
theorem told_sort {P : Program} {f : FuncId}
   (hC : ∀ (blk off cap : Nat) (ss : List (List UInt8)) (w : World),Go.Sort.Holds Go.Proofs.encStr w blk off ss.toArray → blk < w.heap.size → ss.length < 4611686018427387904 →
     Calls P f #[.slice (some ⟨blk,off,none⟩) ss.length cap] w fun e w' =>
       e = .returned (.tuple #[]) ∧ ∃ n os,w' = Go.Sort.grow (Go.Sort.putRow Go.Proofs.encStr (Go.Sort.ahead w n) blk off (zig ss).toArray) os)
   (hN : ∀ (p : Option Addr) (cap : Nat) (w : World),Calls P f #[.slice p 0 cap] w fun e w' => e = .returned (.tuple #[]) ∧ w' = w) : zbm P f zou := by
 intro xs pins hp hcl w bad pb vs hpb hnd hbad hpins hlen hxs
 unfold zou at hp ⊢
 split at hp
 · rename_i n ys
   obtain ⟨rfl,hn,ss,rfl⟩ := hp
   rw [zlx]
   obtain ⟨b,rfl⟩ : ∃ b,pb = [b] := by
     cases pb with
     | nil => simp at hpb
     | cons b r => cases r with
       | nil => exact ⟨b,rfl⟩
       | cons c r => simp at hpb
   obtain ⟨v,rfl⟩ : ∃ v,vs = [v] := by
     cases vs with
     | nil => simp at hlen
     | cons v r => cases r with
       | nil => exact ⟨v,rfl⟩
       | cons c r => simp at hlen
   have hv : R w (zat [b] bad) (.ms 0 1 0 (ss.map AV.str).length) v := hxs 0 (by simp) (by simp)
   have hm : (zat [b] bad).m 0 = .here b := rfl
   cases hv with
   | ms _ _ _ _ _ h =>
     unfold Owns at h
     rw [hm] at h
     simp only at h
     obtain ⟨o,cap,cur,e,fz,rfl,ho,hcur,hsz,hle,hcap⟩ := h
     have hL := (hpins 0 (by simp) (by simp)).2
     obtain ⟨cur',e',fz',hcur',hfz,hone,hfl,hcells⟩ := hL.lies rfl
     have hb0 : ([b] : List Nat)[0] = b := rfl
     rw [hb0,hcur] at hcur'
     injection hcur' with hcur'
     injection hcur' with h1 h2 h3
     subst h1 h2 h3
     have hflat : (Blk.g 1 (ss.map AV.str)).flat = ss.map AV.str := flat_str ss
     have hbs : b < w.heap.size := by
       rcases Nat.lt_or_ge b w.heap.size with h | h
       · exact h
       · rw [Array.getElem?_eq_none h] at hcur; cases hcur
     rw [List.length_map] at hle hn
     have hlenc : ss.length ≤ cur.size := by
       have := hfl
       rw [show ([Blk.g 1 (ss.map AV.str)] : List Blk)[0] = Blk.g 1 (ss.map AV.str) from rfl,hflat,List.length_map] at this
       exact this
     have ho0 : 0 < ss.length → o = 0 := fun h => by have := ho (by omega); omega
     have hcj : ∀ j (hj : j < ss.length),cur[j]'(by omega) = Value.string ⟨ss[j].toArray⟩ := by
       intro j hj
       have hx := (hcells j (by show j < (Blk.g 1 (ss.map AV.str)).flat.length; rw [hflat]; simpa using hj) (by omega)).2
       have hx' : (Blk.g 1 (ss.map AV.str)).flat[j]'(by rw [hflat]; simpa using hj) = AV.str ss[j] := by
         simp only [hflat,List.getElem_map]
       rw [show (([Blk.g 1 (ss.map AV.str)] : List Blk)[0]).flat[j]'(by show j < (Blk.g 1 (ss.map AV.str)).flat.length; rw [hflat]; simpa using hj) = AV.str ss[j] from hx'] at hx
       generalize cur[j]'(by omega) = u at hx
       cases hx with
       | str _ => rfl
     have hH : Go.Sort.Holds Go.Proofs.encStr w b o ss.toArray := by
       intro j hj
       have hj : j < ss.length := by simpa using hj
       have h0 := ho0 (by omega)
       subst h0
       have hjc : j < cur.size := by omega
       refine ⟨?_,?_⟩
       · simp only [World.cell?,hcur,Nat.zero_add,Array.getElem?_eq_getElem hjc]
         rw [hcj j hj]
         simp [hj]
       · have := zlb hfz j hjc
         simp only [World.frozen?,hcur,Nat.zero_add]
         simpa using this
     have hc := hC b o cap ss w hH hbs hn
     rw [List.length_map]
     refine Calls.mono hc ?_
     rintro e1 w' ⟨rfl,k,os,rfl⟩
     refine ⟨_,zat [b] bad,rfl,?_⟩
     have hhp : (Go.Sort.grow (Go.Sort.putRow Go.Proofs.encStr (Go.Sort.ahead w k) b o (zig ss).toArray) os).heap[b]? = some (.cells (Go.Sort.putCells Go.Proofs.encStr o (zig ss).toArray cur) e fz) := by
       rw [Go.Sort.heap_grow_old _ _ (by simp [Go.Sort.putRow,Go.Sort.mapBlock,Go.Sort.ahead]; exact hbs)]
       simp [Go.Sort.putRow,Go.Sort.mapBlock,Go.Sort.ahead,Array.getElem?_modify,hcur,Go.Sort.onCells]
     obtain ⟨D,hD⟩ : ∃ D,(zig ss).toArray = D := ⟨_,rfl⟩
     have hDs : D.size = ss.length := by rw [← hD]; simp [zio]
     rw [hD] at hhp ⊢
     obtain ⟨cu,hcu⟩ : ∃ cu,Go.Sort.putCells Go.Proofs.encStr o D cur = cu := ⟨_,rfl⟩
     have hcs : cu.size = cur.size := by rw [← hcu]; simp [Go.Sort.putCells]
     have hget : ∀ (j : Nat) (hj : j < cu.size),cu[j] = if o ≤ j ∧ j < o + D.size then Go.Proofs.encStr D[j - o]! else cur[j]'(by omega) := by
       intro j hj
       subst hcu
       simp [Go.Sort.putCells]
     rw [hcu] at hhp
     have hflat2 : (Blk.g 1 ((zig ss).map AV.str)).flat = (zig ss).map AV.str := flat_str _
     refine ⟨R.tup [] [] rfl (by simp),rfl,?_,?_,?_,?_,?_,?_⟩
     · intro k' hk'
       have hk0 : k' = 0 := by simp at hk'; omega
       subst hk0
       refine ⟨?_,by rw [hm]; simp,by rw [hm]; simp⟩
       unfold BlkR
       rw [hm]
       refine ⟨⟨by decide,?_⟩,Lies.mkC ⟨cu,e,fz,hhp,by rw [hcs]; exact hfz,?_,?_,?_⟩⟩
       · intro x hx
         obtain ⟨y,_,rfl⟩ := List.mem_map.1 hx
         rfl
       · intro j hj
         rw [hget j hj]
         split
         · rfl
         · exact hone j (by omega)
       · show (Blk.g 1 ((zig ss).map AV.str)).flat.length ≤ cu.size
         rw [hflat2,List.length_map,zio,hcs]; exact hlenc
       · intro j hj hj'
         have hjl : j < (zig ss).length := by
           have : j < (Blk.g 1 ((zig ss).map AV.str)).flat.length := hj
           rw [hflat2,List.length_map] at this; exact this
         have hjs : j < ss.length := by rw [← zio ss]; exact hjl
         have h0 := ho0 (by omega)
         subst h0
         have hx' : (Blk.g 1 ((zig ss).map AV.str)).flat[j]'hj = AV.str (zig ss)[j] := by
           simp only [hflat2,List.getElem_map]
         show (Blk.g 1 ((zig ss).map AV.str)).flat[j].leaf = true ∧ R _ _ ((Blk.g 1 ((zig ss).map AV.str)).flat[j]) cu[j]
         rw [hx',hget j hj',if_pos ⟨Nat.zero_le _,by omega⟩]
         refine ⟨rfl,?_⟩
         have hDj : D[j - 0]! = (zig ss)[j] := by
           subst hD
           simp [hjl]
         rw [hDj]
         exact R.str _
     · intro k' hk'
       have hk0 : k' = 0 := by simp at hk'; omega
       subst hk0; rfl
     · intro k' b' h1 h2
       have h1 : 1 ≤ k' := h1
       have h3 : (zat [b] bad).m k' = .free := by
         show (match ([b] : List Nat)[k']? with | some b => L.here b | none => L.free) = _
         rw [List.getElem?_eq_none (by simpa using h1)]
       rw [h3] at h2; cases h2
     · intro k' h1
       have h1 : 1 ≤ k' := h1
       show (match ([b] : List Nat)[k']? with | some b => L.here b | none => L.free) = _
       rw [List.getElem?_eq_none (by simpa using h1)]
     · intro i j b' h1 h2
       obtain ⟨g1,_⟩ := zch h1
       obtain ⟨g2,_⟩ := zch h2
       simp at g1 g2
       omega
     · refine ⟨rfl,rfl,rfl,?_,?_,?_⟩
       · simp [Go.Sort.grow,Go.Sort.putRow,Go.Sort.mapBlock,Go.Sort.ahead]
       · intro b' hb' hne
         have hne : b' ≠ b := by simpa using hne
         rw [Go.Sort.heap_grow_old _ _ (by simp [Go.Sort.putRow,Go.Sort.mapBlock,Go.Sort.ahead]; exact hb')]
         simp [Go.Sort.putRow,Go.Sort.mapBlock,Go.Sort.ahead,Array.getElem?_modify]
         intro h; exact (hne h.symm).elim
       · intro b' c' e' f' hE hc'
         have hE : b' = b := by simpa using hE
         subst hE
         rw [hcur] at hc'
         injection hc' with hc'
         injection hc' with h1 h2 h3
         subst h1 h2 h3
         exact ⟨cu,fz,hhp,hcs⟩
 · rename_i s fl
   obtain rfl : pb = [] := by cases pb with
     | nil => rfl
     | cons b r => simp at hpb
   obtain ⟨v,rfl⟩ : ∃ v,vs = [v] := by
     cases vs with
     | nil => simp at hlen
     | cons v r => cases r with
       | nil => exact ⟨v,rfl⟩
       | cons c r => simp at hlen
   have hv : R w (zat [] bad) (.sg s [] fl) v := hxs 0 (by simp) (by simp)
   cases hv with
   | sg _ _ _ a cap cs hd hs hc hl hx h =>
     refine Calls.mono (hN a cap w) ?_
     rintro e1 w' ⟨rfl,rfl⟩
     refine ⟨_,zat [] bad,rfl,?_⟩
     have hf : ∀ k,(zat [] bad).m k = .free := fun k => by
       show (match ([] : List Nat)[k]? with | some b => L.here b | none => L.free) = _
       rw [List.getElem?_eq_none (by simp)]
     refine ⟨R.tup [] [] rfl (by simp),rfl,?_,?_,?_,fun k _ => hf k,?_,?_⟩
     · intro k hk; simp at hk
     · intro k hk; simp at hk
     · intro k b' _ h2; rw [hf k] at h2; cases h2
     · intro i j b' h1 _; rw [hf i] at h1; cases h1
     · exact ⟨rfl,rfl,rfl,Nat.le_refl _,fun _ _ _ => rfl,fun b' c' e' f' hE _ => by simp at hE⟩
 · exact hp.elim
end Go.Proofs.Ytdnlliedmfgfiaa
namespace Go.Proofs.Ytdnlliedmfgfiaa
open Go.Shelf
open Ax
def sortSR : Go.Shelf.Ren := ⟨fun | 54 => 70 | 64 => 77 | 65 => 76 | 78 => 86 | 79 => 87 | 80 => 78 | 81 => 79 | 82 => 80 | 83 => 81 | 84 => 82 | 85 => 83 | 61 => 67 | 86 => 84 | 87 => 85 | 93 => 88 | 89 => 89 | 90 => 90 | 94 => 91 | 95 => 92 | 69 => 75 | 97 => 93 | n => n,fun | 25 => 55 | 26 => 9 | 3 => 3 | 51 => 97 | 0 => 0 | 67 => 113 | 69 => 115 | 4 => 4 | 61 => 107 | 60 => 106 | 44 => 92 | 5 => 5 | 9 => 9 | 75 => 116 | 79 => 120 | 83 => 122 | 84 => 123 | n => n,fun | n => n⟩
theorem sortSL : Go.Proofs.SlLaysN.n54 Try.prog sortSR := {
 mixed := by kernel_rfl
 f54 := ⟨Try.f70.name,by decide,Try.func70.trans (congrArg some (by kernel_rfl))⟩
 f61 := ⟨Try.f67.name,by decide,Try.func67.trans (congrArg some (by kernel_rfl))⟩
 f64 := Try.func77.trans (congrArg some (by kernel_rfl))
 f65 := ⟨Try.f76.name,by decide,Try.func76.trans (congrArg some (by kernel_rfl))⟩
 f69 := ⟨Try.f75.name,by decide,Try.func75.trans (congrArg some (by kernel_rfl))⟩
 f78 := Try.func86.trans (congrArg some (by kernel_rfl))
 f79 := Try.func87.trans (congrArg some (by kernel_rfl))
 f80 := ⟨Try.f78.name,by decide,Try.func78.trans (congrArg some (by kernel_rfl))⟩
 f81 := ⟨Try.f79.name,by decide,Try.func79.trans (congrArg some (by kernel_rfl))⟩
 f82 := ⟨Try.f80.name,by decide,Try.func80.trans (congrArg some (by kernel_rfl))⟩
 f83 := ⟨Try.f81.name,by decide,Try.func81.trans (congrArg some (by kernel_rfl))⟩
 f84 := ⟨Try.f82.name,by decide,Try.func82.trans (congrArg some (by kernel_rfl))⟩
 f85 := ⟨Try.f83.name,by decide,Try.func83.trans (congrArg some (by kernel_rfl))⟩
 f86 := ⟨Try.f84.name,by decide,Try.func84.trans (congrArg some (by kernel_rfl))⟩
 f87 := ⟨Try.f85.name,by decide,Try.func85.trans (congrArg some (by kernel_rfl))⟩
 f89 := Try.func89.trans (congrArg some (by kernel_rfl))
 f90 := Try.func90.trans (congrArg some (by kernel_rfl))
 f93 := ⟨Try.f88.name,by decide,Try.func88.trans (congrArg some (by kernel_rfl))⟩
 f94 := ⟨Try.f91.name,by decide,Try.func91.trans (congrArg some (by kernel_rfl))⟩
 f95 := ⟨Try.f92.name,by decide,Try.func92.trans (congrArg some (by kernel_rfl))⟩
 f97 := ⟨Try.f93.name,by decide,Try.func93.trans (congrArg some (by kernel_rfl))⟩
 t0 := Try.underlying0
 a0 := Try.isAgg0
 z0 := Try.sizeOf0
 v0 := Try.zeroValue0
 t3 := Try.underlying3
 a3 := Try.isAgg3
 z3 := Try.sizeOf3
 v3 := Try.zeroValue3
 t4 := Try.underlying4
 a4 := Try.isAgg4
 z4 := Try.sizeOf4
 v4 := Try.zeroValue4
 t5 := Try.underlying5
 a5 := Try.isAgg5
 z5 := Try.sizeOf5
 v5 := Try.zeroValue5
 t9 := Try.underlying9
 a9 := Try.isAgg9
 z9 := Try.sizeOf9
 v9 := Try.zeroValue9
 t25 := Try.underlying55
 a25 := Try.isAgg55
 z25 := Try.sizeOf55
 v25 := Try.zeroValue55
 t26 := Try.underlying9
 a26 := Try.isAgg9
 z26 := Try.sizeOf9
 v26 := Try.zeroValue9
 t44 := Try.underlying92
 a44 := Try.isAgg92
 z44 := Try.sizeOf92
 v44 := Try.zeroValue92
 t51 := Try.underlying97
 a51 := Try.isAgg97
 z51 := Try.sizeOf97
 v51 := Try.zeroValue97
 t60 := Try.underlying106
 a60 := Try.isAgg106
 z60 := Try.sizeOf106
 v60 := Try.zeroValue106
 t61 := Try.underlying107
 a61 := Try.isAgg107
 z61 := Try.sizeOf107
 v61 := Try.zeroValue107
 t67 := Try.underlying113
 a67 := Try.isAgg113
 z67 := Try.sizeOf113
 v67 := Try.zeroValue113
 t69 := Try.underlying115
 a69 := Try.isAgg115
 z69 := Try.sizeOf115
 v69 := Try.zeroValue115
 t75 := Try.underlying116
 a75 := Try.isAgg116
 z75 := Try.sizeOf116
 v75 := Try.zeroValue116
 t79 := Try.underlying120
 a79 := Try.isAgg120
 z79 := Try.sizeOf120
 v79 := Try.zeroValue120
 t83 := Try.underlying122
 a83 := Try.isAgg122
 z83 := Try.sizeOf122
 v83 := Try.zeroValue122
 t84 := Try.underlying123
 a84 := Try.isAgg123
 z84 := Try.sizeOf123
 v84 := Try.zeroValue123 }
theorem sortS_sound : zbm Try.prog 70 zou :=
 told_sort (fun blk off cap ss w hH hb hs => AnyG.slices_Sort_string sortSL blk off cap ss w hH hb hs) (fun p cap w => AnyG.slices_Sort_string_none sortSL p cap w)
theorem sound_toO {P : Program} {f : FuncId} {spec : zan} (h : zbm P f spec) (hc : ∀ xs pins,(spec xs pins).p → closedB pins = true) : zcm P f spec := by
 intro xs pins hp w bad pb vs h1 h2 h3 h4 h5 h6
 refine (h xs pins hp (hc xs pins hp) w bad pb vs h1 h2 h3 h4 h5 h6).mono ?_
 rintro e w' ⟨v,loc',he,hg⟩
 exact ⟨v,loc',he,hg.r,hg.bad,fun k hk => .inr (hg.bl k hk),fun k hk => .inl (hg.old k hk),fun k b hk hb => ⟨.inl (hg.new k b hk hb).1,(hg.new k b hk hb).2⟩,hg.none,hg.inj,hg.fram⟩
theorem zht (l : List (List UInt8)) : closedL (l.map AV.str) = true := by
 induction l with
 | nil => rfl
 | cons x r ih => simp only [List.map_cons,closedL,AV.closed,ih,Bool.and_self]
theorem sortO_sound : zcm Try.prog 70 zou := by
 refine sound_toO sortS_sound fun xs pins hp => ?_
 unfold zou at hp
 split at hp
 · obtain ⟨_,_,ss,rfl⟩ := hp
   simp only [closedB,Blk.closed,zht,Bool.and_self]
 · rfl
 · exact hp.elim
end Go.Proofs.Ytdnlliedmfgfiaa
namespace Go.Proofs.Ytdnlliedmfgfiaa
open Ax
theorem zro : ∀ (x y : List UInt8),Op.bytesLess x y = decide (x < y)
 | [],[] => by simp [Op.bytesLess]
 | _ :: _,[] => by simp [Op.bytesLess]
 | [],_ :: _ => by simp [Op.bytesLess]
 | a :: x,b :: y => by
   rw [Op.bytesLess,zro x y]
   by_cases h : a < b
   · simp [h,List.cons_lt_cons_iff]
   · by_cases e : a = b <;> simp [h,e,List.cons_lt_cons_iff]
def naT (k x : List UInt8) : Bool := !Op.bytesLess x k
def plT (k : List UInt8) (l : List (List UInt8)) : Nat := l.findIdx (naT k)
def rowT (k : List UInt8) (l : List (List UInt8)) : List UInt8 := l.getD (plT k l) []
def thT (k : List UInt8) (l : List (List UInt8)) : Bool := decide (plT k l < l.length) && decide (rowT k l = k)
def srtT (l : List (List UInt8)) : Prop := l.Pairwise (· < ·)
theorem take_lt {k : List UInt8} {l : List (List UInt8)} : ∀ x ∈ l.take (plT k l),x < k := by
 intro x hx
 obtain ⟨i,hi,rfl⟩ := List.mem_take_iff_getElem.1 hx
 have := List.not_of_lt_findIdx (p := naT k) (xs := l) (i := i) (by unfold plT at hi; omega)
 unfold naT at this
 rw [zro] at this
 simpa using this
theorem row_ge {k : List UInt8} {l : List (List UInt8)} (h : plT k l < l.length) : ¬ l[plT k l] < k := by
 have h2 : naT k l[plT k l] = true := List.findIdx_getElem (w := h)
 unfold naT at h2
 rw [zro] at h2
 simpa using h2
theorem rowT_at {k : List UInt8} {l : List (List UInt8)} (h : plT k l < l.length) : rowT k l = l[plT k l] := by
 unfold rowT; rw [List.getD_eq_getElem?_getD,List.getElem?_eq_getElem h]; rfl
theorem thT_mem {k : List UInt8} {l : List (List UInt8)} (hs : srtT l) : thT k l = true ↔ k ∈ l := by
 unfold thT
 constructor
 · intro h
   simp only [Bool.and_eq_true,decide_eq_true_eq] at h
   obtain ⟨h1,h2⟩ := h
   rw [rowT_at h1] at h2
   exact h2 ▸ List.getElem_mem h1
 · intro h
   have h3 : k ∈ l.drop (plT k l) := by
     rw [← List.take_append_drop (plT k l) l] at h
     rcases List.mem_append.1 h with h | h
     · exact (List.lt_irrefl k (take_lt k h)).elim
     · exact h
   have hl : plT k l < l.length := by
     have := List.length_pos_of_mem h3
     rw [List.length_drop] at this; omega
   have hd : srtT (l.drop (plT k l)) := hs.sublist (List.drop_sublist _ _)
   rw [List.drop_eq_getElem_cons hl] at hd h3
   have : l[plT k l] = k := by
     rcases List.mem_cons.1 h3 with h | h
     · exact h.symm
     · exact (row_ge hl ((List.pairwise_cons.1 hd).1 k h)).elim
   simp only [Bool.and_eq_true,decide_eq_true_eq]
   exact ⟨hl,by rw [rowT_at hl,this]⟩
theorem plT_le (k : List UInt8) (l : List (List UInt8)) : plT k l ≤ l.length := List.findIdx_le_length
theorem plT_at {k : List UInt8} {l : List (List UInt8)} {i : Nat} (hi : i ≤ l.length) (h1 : ∀ x ∈ l.take i,Op.bytesLess x k = true) (h2 : ∀ x ∈ l.drop i,Op.bytesLess x k = false) : plT k l = i := by
 have a1 : ¬ plT k l < i := fun h => by
   have hl : plT k l < l.length := by omega
   have h3 := row_ge hl
   have h4 := h1 l[plT k l] (List.mem_take_iff_getElem.2 ⟨_,by omega,rfl⟩)
   rw [zro] at h4
   exact h3 (of_decide_eq_true h4)
 have a2 : ¬ i < plT k l := fun h => by
   have hl : i < l.length := Nat.lt_of_lt_of_le h (plT_le k l)
   have h3 := take_lt (k := k) (l := l) l[i] (List.mem_take_iff_getElem.2 ⟨_,by omega,rfl⟩)
   have h4 := h2 l[i] (List.mem_iff_getElem.2 ⟨0,by rw [List.length_drop]; omega,by rw [List.getElem_drop]; rfl⟩)
   rw [zro,decide_eq_true h3] at h4
   cases h4
 omega
theorem srt_get {l : List (List UInt8)} (h : srtT l) {i j : Nat} (hij : i < j) (hj : j < l.length) : l[i]'(by omega) < l[j] := List.pairwise_iff_getElem.1 h i j (by omega) hj hij
theorem srt_below {k : List UInt8} {l : List (List UInt8)} (h : srtT l) {n : Nat} (hn : n < l.length) (hv : Op.bytesLess l[n] k = true) : ∀ x ∈ l.take (n + 1),Op.bytesLess x k = true := by
 intro x hx
 obtain ⟨i,hi,rfl⟩ := List.mem_take_iff_getElem.1 hx
 rw [zro] at hv ⊢
 have hv := of_decide_eq_true hv
 refine decide_eq_true ?_
 by_cases e : i = n
 · subst e; exact hv
 · exact List.lt_trans (srt_get h (by omega) hn) hv
theorem srt_above {k : List UInt8} {l : List (List UInt8)} (h : srtT l) {n : Nat} (hn : n < l.length) (hv : Op.bytesLess l[n] k = false) : ∀ x ∈ l.drop n,Op.bytesLess x k = false := by
 intro x hx
 obtain ⟨i,hi,rfl⟩ := List.mem_iff_getElem.1 hx
 rw [List.length_drop] at hi
 rw [List.getElem_drop,zro]
 rw [zro] at hv
 have hv := of_decide_eq_false hv
 refine decide_eq_false fun h3 => hv ?_
 by_cases e : i = 0
 · subst e; simpa using h3
 · exact List.lt_trans (srt_get h (by omega) (by omega)) h3
theorem thT_at {k : List UInt8} {l : List (List UInt8)} (h : plT k l < l.length) : thT k l = decide (l[plT k l] = k) := by
 unfold thT
 rw [decide_eq_true h,rowT_at h,Bool.true_and]
theorem thT_end {k : List UInt8} {l : List (List UInt8)} (h : ¬ plT k l < l.length) : thT k l = false := by
 unfold thT
 rw [decide_eq_false h,Bool.false_and]
theorem sortL_self {l : List (List UInt8)} (h : srtT l) : zig l = l := by
 have ht : ∀ (x y z : List UInt8),decide (x ≤ y) = true → decide (y ≤ z) = true → decide (x ≤ z) = true := fun x y z p q => by
   simp only [decide_eq_true_eq] at *
   exact List.le_trans p q
 have hc : ∀ (x y : List UInt8),(decide (x ≤ y) || decide (y ≤ x)) = true := fun x y => by
   simp only [Bool.or_eq_true,decide_eq_true_eq]
   exact List.le_total x y
 refine List.Perm.eq_of_pairwise (le := fun x y => decide (x ≤ y) = true) (fun x y _ _ h1 h2 => List.le_antisymm (of_decide_eq_true h1) (of_decide_eq_true h2)) (List.pairwise_mergeSort ht hc _) ?_ (List.mergeSort_perm _ _)
 exact h.imp fun {x y} h => decide_eq_true (List.le_of_lt h)
end Go.Proofs.Ytdnlliedmfgfiaa
namespace Go.Proofs.Ytdnlliedmfgfiaa
open Ax
def empT (xs : List AV) : Bool := xs.isEmpty
theorem empT_nil : empT [] = true := rfl
theorem sg_sizeT {w : World} {loc : Ax.Loc} {v : Value} {s : Nat} (s' : Nat) {f : Bool} (h : R w loc (.sg s [] f) v) : R w loc (.sg s' [] f) v := by
 cases h with
 | sg _ _ _ a cap cs hd hs hc hl hx hh => exact .sg s' [] f a cap cs hd (by simp) hc hl hx hh
theorem ids_strs (l : List (List UInt8)) : idsL (l.map AV.str) = [] := by
 induction l with
 | nil => rfl
 | cons x r ih => simp only [List.map_cons,idsL,AV.ids,ih,List.nil_append]
theorem ziq : ∀ (l : List (List UInt8)) (i : Nat) (h : i < l.length),slot (l.map AV.str) i = .str l[i]
 | _ :: _,0,_ => rfl
 | _ :: r,i + 1,h => by
   simp only [List.map_cons,slot,List.getElem_cons_succ]
   exact ziq r i (by simpa using h)
def cloTS : zan
 | [.sg 1 xs f],[] => ⟨xs.length ≤ 1000000 ∧ ∃ es : List (List UInt8),xs = es.map AV.str,bif empT xs then .sg 1 [] true else .ms 0 1 0 xs.length,bif empT xs then [] else [.g 1 xs]⟩
 | _,_ => zbo
def cloTPl : zeq := fun id => match id with
 | 1 => .tst [false,true]
 | _ => .std
def cloTPl0 : zeq := fun id => match id with
 | 1 => .tst [false,true]
 | 3 => .tst [true,false,true]
 | _ => .std
section
set_option maxRecDepth 100000
set_option maxHeartbeats 1000000 in
theorem cloT_sound : zbm Try.prog 69 cloTS := by
 refine zbh (S := noS) (SO := noO) (T := ty) mixed ty_ok zbv zgy Try.func69 (c := Try.f69.body.getD .skip) (by kernel_rfl) (fun xs pins hp _ => ?_)
 unfold cloTS at hp ⊢
 split at hp
 · rename_i xs f _
   obtain ⟨hL,es,rfl⟩ := hp
   rw [List.length_map] at hL
   have hl4 : (es.map AV.str).length = es.length := by simp
   by_cases hz : es.length = 0
   · obtain rfl : es = [] := List.eq_nil_of_length_eq_zero hz
     refine ⟨by simp,cloTPl0,by kernel_rfl,?_⟩
     unfold Try.f69
     simp only [go_sem,zaa,Nat.reduceAdd,Nat.reduceSub,Nat.reduceMul,Int.reduceToNat,reduceCtorEq,↓reduceIte,Int.reducePow,Nat.reducePow,Int.reduceMod,Nat.reduceLeDiff,Int.reduceLE,Int.reduceNe,Int.reduceEq,Nat.reduceEqDiff,Nat.reduceLT,Nat.reduceBEq,List.map_cons,List.map_nil,List.toList_toArray,Array.toList_append,Option.toArray_some,Option.toArray_none,Bool.and_self,ty,noS,cloTPl0,zet,hl4]
     repeat (refine And.intro (by omega) ?_)
     intro b
     refine ⟨fun hb => ?_,fun hb => ?_⟩
     · refine ⟨_,zij 2 (.sg 1 [] true) (fun w loc v h => sg_sizeT 1 h),?_⟩
       simp only [go_sem,zaa,Nat.reduceAdd,Nat.reduceSub,Nat.reduceMul,Int.reduceToNat,reduceCtorEq,↓reduceIte,Int.reducePow,Nat.reducePow,Int.reduceMod,Nat.reduceLeDiff,Int.reduceLE,Int.reduceNe,Int.reduceEq,Nat.reduceEqDiff,Nat.reduceLT,Nat.reduceBEq,List.map_cons,List.map_nil,List.toList_toArray,Array.toList_append,Option.toArray_some,Option.toArray_none,Bool.and_self,ty,noS,empT_nil,cond_true,cond_false]
     · refine ⟨_,Weak.refl _,?_⟩
       simp only [go_sem,zaa,Nat.reduceAdd,Nat.reduceSub,Nat.reduceMul,Int.reduceToNat,reduceCtorEq,↓reduceIte,Int.reducePow,Nat.reducePow,Int.reduceMod,Nat.reduceLeDiff,Int.reduceLE,Int.reduceNe,Int.reduceEq,Nat.reduceEqDiff,Nat.reduceLT,Nat.reduceBEq,List.map_cons,List.map_nil,List.toList_toArray,Array.toList_append,Option.toArray_some,Option.toArray_none,Bool.and_self,ty,noS,empT_nil,cond_true,cond_false]
   · refine ⟨by simp,cloTPl,by kernel_rfl,?_⟩
     have hem : empT (es.map AV.str) = false := by cases es with | nil => simp at hz | cons _ _ => rfl
     have htop : es.length ≤ top := by unfold top; omega
     unfold Try.f69
     simp only [go_sem,zaa,Nat.reduceAdd,Nat.reduceSub,Nat.reduceMul,Int.reduceToNat,reduceCtorEq,↓reduceIte,Int.reducePow,Nat.reducePow,Int.reduceMod,Nat.reduceLeDiff,Int.reduceLE,Int.reduceNe,Int.reduceEq,Nat.reduceEqDiff,Nat.reduceLT,Nat.reduceBEq,List.map_cons,List.map_nil,List.toList_toArray,Array.toList_append,Option.toArray_some,Option.toArray_none,Bool.and_self,ty,noS,cloTPl,zet,hl4]
     repeat (refine And.intro (by omega) ?_)
     intro b hb
     obtain rfl : b = false := by cases b with | false => rfl | true => exact absurd (hb rfl) hz
     simp only [go_sem,zaa,Nat.reduceAdd,Nat.reduceSub,Nat.reduceMul,Int.reduceToNat,reduceCtorEq,↓reduceIte,Int.reducePow,Nat.reducePow,Int.reduceMod,Nat.reduceLeDiff,Int.reduceLE,Int.reduceNe,Int.reduceEq,Nat.reduceEqDiff,Nat.reduceLT,Nat.reduceBEq,List.map_cons,List.map_nil,List.toList_toArray,Array.toList_append,Option.toArray_some,Option.toArray_none,Bool.and_self,ty,noS,cloTPl,zet,hl4,hem,cond_false]
     refine ⟨htop,_,Weak.refl _,?_⟩
     simp only [go_sem,zaa,Nat.reduceAdd,Nat.reduceSub,Nat.reduceMul,Int.reduceToNat,reduceCtorEq,↓reduceIte,Int.reducePow,Nat.reducePow,Int.reduceMod,Nat.reduceLeDiff,Int.reduceLE,Int.reduceNe,Int.reduceEq,Nat.reduceEqDiff,Nat.reduceLT,Nat.reduceBEq,List.map_cons,List.map_nil,List.toList_toArray,Array.toList_append,Option.toArray_some,Option.toArray_none,Bool.and_self,ty,noS,hl4,hem,cond_false,zht]
 · exact hp.elim
end
end Go.Proofs.Ytdnlliedmfgfiaa
namespace Go.Proofs.Ytdnlliedmfgfiaa
open Ax
def cmpTS : zan
 | [.sg 1 xs f],[] => ⟨xs.length ≤ 1000000 ∧ ∃ l : List (List UInt8),xs = l.map AV.str ∧ srtT l,.sg 1 xs f,[]⟩
 | _,_ => zbo
def zrg : zan
 | [.str x],[] => ⟨True,.w (.bool false),[]⟩
 | _,_ => zbo
def lesTS : zan
 | [.str x,.str y],[] => ⟨True,.w (.bool (Op.bytesLess x y)),[]⟩
 | _,_ => zbo
def bsTS : zan
 | [.sg 1 xs f,.str t],[] => ⟨xs.length ≤ 1000000 ∧ ∃ l : List (List UInt8),xs = l.map AV.str ∧ srtT l,.tup [.w (.int .i64 ((plT t (xs.map strB) : Nat) : Int)),.w (.bool (thT t (xs.map strB)))],[]⟩
 | _,_ => zbo
section
set_option maxRecDepth 100000
set_option maxHeartbeats 4000000
theorem nanT_sound : zbm Try.prog 75 zrg := by
 refine zdo (S := noS) (T := ty) mixed ty_ok zbv Try.func75 (c := Try.f75.body.getD .skip) (by kernel_rfl) (by kernel_rfl) (fun xs pins hp _ => ?_)
 unfold zrg at hp ⊢
 split at hp
 · rename_i x _
   refine ⟨by simp,?_⟩
   have d1 : decide (x = x) = true := decide_eq_true rfl
   unfold Try.f75
   simp only [go_sem,zab,Nat.reduceAdd,Nat.reduceSub,Nat.reduceMul,Int.reduceToNat,reduceCtorEq,↓reduceIte,Int.reducePow,Nat.reducePow,Int.reduceMod,Nat.reduceLeDiff,Int.reduceLE,Int.reduceNe,Int.reduceEq,Nat.reduceEqDiff,Nat.reduceLT,Nat.reduceBEq,ty,noS,d1,Bool.not_true]
 · exact hp.elim
theorem nanTs_sound : zbm Try.prog 68 zrg := by
 refine zdo (S := noS) (T := ty) mixed ty_ok zbv Try.func68 (c := Try.f68.body.getD .skip) (by kernel_rfl) (by kernel_rfl) (fun xs pins hp _ => ?_)
 unfold zrg at hp ⊢
 split at hp
 · rename_i x _
   refine ⟨by simp,?_⟩
   have d1 : decide (x = x) = true := decide_eq_true rfl
   unfold Try.f68
   simp only [go_sem,zab,Nat.reduceAdd,Nat.reduceSub,Nat.reduceMul,Int.reduceToNat,reduceCtorEq,↓reduceIte,Int.reducePow,Nat.reducePow,Int.reduceMod,Nat.reduceLeDiff,Int.reduceLE,Int.reduceNe,Int.reduceEq,Nat.reduceEqDiff,Nat.reduceLT,Nat.reduceBEq,ty,noS,d1,Bool.not_true]
 · exact hp.elim
end
def Sles20 (f : FuncId) : Option zan :=
 match f with
 | 75 => some zrg
 | _ => none
theorem Sles20_ok : Fns Try.prog Sles20 := by
 intro f s h
 unfold Sles20 at h
 split at h
 · injection h with h; subst h; exact ⟨⟨_,Try.func75,by kernel_rfl,by kernel_rfl⟩,nanT_sound⟩
 · cases h
section
set_option maxRecDepth 100000
set_option maxHeartbeats 4000000
theorem lesT_sound : zbm Try.prog 67 lesTS := by
 refine zdo (S := Sles20) (T := ty) mixed ty_ok Sles20_ok Try.func67 (c := Try.f67.body.getD .skip) (by kernel_rfl) (by kernel_rfl) (fun xs pins hp _ => ?_)
 unfold lesTS at hp ⊢
 split at hp
 · rename_i x y _
   refine ⟨by simp,?_⟩
   unfold Try.f67
   cases hb : Op.bytesLess x y <;> simp only [go_sem,zab,Nat.reduceAdd,Nat.reduceSub,Nat.reduceMul,Int.reduceToNat,reduceCtorEq,↓reduceIte,Int.reducePow,Nat.reducePow,Int.reduceMod,Nat.reduceLeDiff,Int.reduceLE,Int.reduceNe,Int.reduceEq,Nat.reduceEqDiff,Nat.reduceLT,Nat.reduceBEq,ty,Sles20,zrg,hb,Bool.not_true,Bool.not_false]
 · exact hp.elim
theorem cmpT_sound : zbm Try.prog 71 cmpTS := by
 refine zdo (S := noS) (T := ty) mixed ty_ok zbv Try.func71 (c := Try.f71.body.getD .skip) (by kernel_rfl) (by kernel_rfl) (fun xs pins hp _ => ?_)
 unfold cmpTS at hp ⊢
 split at hp
 · rename_i xs f _
   obtain ⟨hL,l,rfl,hs⟩ := hp
   rw [List.length_map] at hL
   have hlp : (l.map AV.str).length = l.length := by simp
   refine ⟨by simp,?_⟩
   unfold Try.f71
   by_cases h2 : l.length < 2
   · have d0 : decide ((l.length : Int) < 2) = true := decide_eq_true (by omega)
     simp only [go_sem,zab,Nat.reduceAdd,Nat.reduceSub,Nat.reduceMul,Int.reduceToNat,reduceCtorEq,↓reduceIte,Int.reducePow,Nat.reducePow,Int.reduceMod,Nat.reduceLeDiff,Int.reduceLE,Int.reduceNe,Int.reduceEq,Nat.reduceEqDiff,Nat.reduceLT,Nat.reduceBEq,ty,noS,hlp,d0]
   · have d0 : decide ((l.length : Int) < 2) = false := decide_eq_false (by omega)
     simp only [go_sem,zab,Nat.reduceAdd,Nat.reduceSub,Nat.reduceMul,Int.reduceToNat,reduceCtorEq,↓reduceIte,Int.reducePow,Nat.reducePow,Int.reduceMod,Nat.reduceLeDiff,Int.reduceLE,Int.reduceNe,Int.reduceEq,Nat.reduceEqDiff,Nat.reduceLT,Nat.reduceBEq,ty,noS,hlp,d0]
     refine zbx ⟨fun m σ => ∃ (k : Nat),m = l.length - k ∧ 1 ≤ k ∧ k ≤ l.length ∧ σ = ⟨[.sg 1 (l.map .str) f,.junk,.sg 1 [] true,.w (.int .i64 k),.junk,.junk,.junk,.junk,.junk,.junk,.junk,.junk,.junk,.junk,.junk,.junk,.junk,.junk,.junk,.junk,.junk,.junk,.junk,.junk,.junk,.junk,.junk,.junk,.junk,.junk,.junk,.junk,.junk,.junk,.junk,.junk,.junk,.junk,.junk,.junk,.junk,.junk,.junk,.junk,.junk,.junk,.junk,.junk,.junk,.junk,.junk,.junk,.junk,.junk,.junk,.junk,.junk,.junk,.junk,.junk,.junk],[],4⟩,?_,?_⟩
     · refine ⟨_,_,zaj [0,1,2,3] rfl rfl rfl ?_ ?_,1,rfl,by omega,by omega,rfl⟩
       · simp only [ssT,zar,zas,setSlot,gOf,AV.ren,renL,Blk.ren,Ax.look,Ax.put,reduceCtorEq,↓reduceIte,Nat.reduceEqDiff,Nat.reduceLT,Nat.reduceAdd,List.length_append,List.length_cons,List.length_nil,Option.some.injEq]; try simp
       · simp only [ssT,zar,zas,setSlot,gOf,AV.ren,renL,Blk.ren,Ax.look,Ax.put,reduceCtorEq,↓reduceIte,Nat.reduceEqDiff,Nat.reduceLT,Nat.reduceAdd,List.length_append,List.length_cons,List.length_nil,Option.some.injEq]
     · rintro m σ ⟨k,rfl,hk1,hk,rfl⟩
       by_cases hkl : k < l.length
       · obtain ⟨j,rfl⟩ : ∃ j,k = j + 1 := ⟨k - 1,by omega⟩
         have d3 : decide (((j + 1 : Nat) : Int) < l.length) = true := decide_eq_true (by omega)
         have e1 : (((j + 1 : Nat) : Int) + 1 + 9223372036854775808) % 18446744073709551616 - 9223372036854775808 = ((j + 1 + 1 : Nat) : Int) := by omega
         have e2 : (((j + 1 : Nat) : Int) - 1 + 9223372036854775808) % 18446744073709551616 - 9223372036854775808 = ((j : Nat) : Int) := by omega
         have hs1 := ziq l (j + 1) hkl
         have hs2 := ziq l j (by omega)
         have hne : decide (l[j + 1] = l[j]'(by omega)) = false := decide_eq_false (fun e => by
           have := srt_get hs (i := j) (j := j + 1) (by omega) hkl
           rw [e] at this
           exact List.lt_irrefl _ this)
         obtain ⟨X,hX⟩ : ∃ X,l[j + 1] = X := ⟨_,rfl⟩
         obtain ⟨Y,hY⟩ : ∃ Y,l[j]'(by omega) = Y := ⟨_,rfl⟩
         rw [hX] at hs1 hne
         rw [hY] at hs2 hne
         simp only [go_sem,zab,Nat.reduceAdd,Nat.reduceSub,Nat.reduceMul,Int.reduceToNat,reduceCtorEq,↓reduceIte,Int.reducePow,Nat.reducePow,Int.reduceMod,Nat.reduceLeDiff,Int.reduceLE,Int.reduceNe,Int.reduceEq,Nat.reduceEqDiff,Nat.reduceLT,Nat.reduceBEq,ty,noS,hlp,d3,hs1,hs2,hne,e1,e2,Int.toNat_natCast]
         repeat (refine And.intro (by omega) ?_)
         refine ⟨l.length - (j + 1 + 1),_,by omega,zaj [0,1,2,3] rfl rfl rfl ?_ ?_,j + 1 + 1,rfl,by omega,by omega,rfl⟩
         · simp only [ssT,zar,zas,setSlot,gOf,AV.ren,renL,Blk.ren,Ax.look,Ax.put,reduceCtorEq,↓reduceIte,Nat.reduceEqDiff,Nat.reduceLT,Nat.reduceAdd,List.length_append,List.length_cons,List.length_nil,Option.some.injEq]
         · simp only [ssT,zar,zas,setSlot,gOf,AV.ren,renL,Blk.ren,Ax.look,Ax.put,reduceCtorEq,↓reduceIte,Nat.reduceEqDiff,Nat.reduceLT,Nat.reduceAdd,List.length_append,List.length_cons,List.length_nil,Option.some.injEq]
       · have d3 : decide ((k : Int) < l.length) = false := decide_eq_false (by omega)
         simp only [go_sem,zab,Nat.reduceAdd,Nat.reduceSub,Nat.reduceMul,Int.reduceToNat,reduceCtorEq,↓reduceIte,Int.reducePow,Nat.reducePow,Int.reduceMod,Nat.reduceLeDiff,Int.reduceLE,Int.reduceNe,Int.reduceEq,Nat.reduceEqDiff,Nat.reduceLT,Nat.reduceBEq,ty,noS,hlp,d3]
         refine ⟨_,Weak.refl _,?_⟩
         simp only [go_sem,zab,Nat.reduceAdd,Nat.reduceSub,Nat.reduceMul,Int.reduceToNat,reduceCtorEq,↓reduceIte,Int.reducePow,Nat.reducePow,Int.reduceMod,Nat.reduceLeDiff,Int.reduceLE,Int.reduceNe,Int.reduceEq,Nat.reduceEqDiff,Nat.reduceLT,Nat.reduceBEq,ty,noS]
 · exact hp.elim
end
def zrs (f : FuncId) : Option zan :=
 match f with
 | 67 => some lesTS
 | 68 => some zrg
 | _ => none
theorem Sbs20_ok : Fns Try.prog zrs := by
 intro f s h
 unfold zrs at h
 split at h
 · injection h with h; subst h; exact ⟨⟨_,Try.func67,by kernel_rfl,by kernel_rfl⟩,lesT_sound⟩
 · injection h with h; subst h; exact ⟨⟨_,Try.func68,by kernel_rfl,by kernel_rfl⟩,nanTs_sound⟩
 · cases h
section
set_option maxRecDepth 100000
set_option maxHeartbeats 4000000
theorem bsT_sound : zbm Try.prog 61 bsTS := by
 refine zdo (S := zrs) (T := ty) mixed ty_ok Sbs20_ok Try.func61 (c := Try.f61.body.getD .skip) (by kernel_rfl) (by kernel_rfl) (fun xs pins hp _ => ?_)
 unfold bsTS at hp ⊢
 split at hp
 · rename_i xs f t _
   obtain ⟨hL,l,rfl,hs⟩ := hp
   rw [List.length_map] at hL
   have hlp : (l.map AV.str).length = l.length := by simp
   rw [zlx]
   obtain ⟨Q,hQ⟩ : ∃ Q,thT t l = Q := ⟨_,rfl⟩
   obtain ⟨P,hP⟩ : ∃ P,plT t l = P := ⟨_,rfl⟩
   rw [hQ,hP]
   refine ⟨by simp,?_⟩
   unfold Try.f61
   simp only [go_sem,zab,Nat.reduceAdd,Nat.reduceSub,Nat.reduceMul,Int.reduceToNat,reduceCtorEq,↓reduceIte,Int.reducePow,Nat.reducePow,Int.reduceMod,Nat.reduceLeDiff,Int.reduceLE,Int.reduceNe,Int.reduceEq,Nat.reduceEqDiff,Nat.reduceLT,Nat.reduceBEq,ty,zrs,hlp]
   refine zbx ⟨fun m σ => ∃ (i j : Nat),m = j - i ∧ i ≤ j ∧ j ≤ l.length ∧ (∀ x ∈ l.take i,Op.bytesLess x t = true) ∧ (∀ x ∈ l.drop j,Op.bytesLess x t = false) ∧
       σ = ⟨[.sg 1 (l.map .str) f,.str t,.junk,.junk,.w (.int .i64 0),.w (.bool false),.w (.int .i64 l.length),.w (.int .i64 i),.w (.int .i64 j),.junk,.junk,.junk,.junk,.junk,.junk,.junk,.junk,.junk,.junk,.junk,.junk,.junk,.junk,.junk,.junk,.junk,.junk,.junk,.junk,.junk,.junk,.junk,.junk,.junk,.junk,.junk,.junk,.junk,.junk,.junk,.junk,.junk,.junk,.junk,.junk,.junk,.junk,.junk,.junk,.junk,.junk,.junk,.junk,.junk],[],4⟩,?_,?_⟩
   · refine ⟨_,_,zaj [0,1,2,3] rfl rfl rfl ?_ ?_,0,l.length,rfl,by omega,by omega,by simp,by simp,rfl⟩
     · simp only [ssT,zar,zas,setSlot,gOf,AV.ren,renL,Blk.ren,Ax.look,Ax.put,reduceCtorEq,↓reduceIte,Nat.reduceEqDiff,Nat.reduceLT,Nat.reduceAdd,List.length_append,List.length_cons,List.length_nil,Option.some.injEq]; try simp
     · simp only [ssT,zar,zas,setSlot,gOf,AV.ren,renL,Blk.ren,Ax.look,Ax.put,reduceCtorEq,↓reduceIte,Nat.reduceEqDiff,Nat.reduceLT,Nat.reduceAdd,List.length_append,List.length_cons,List.length_nil,Option.some.injEq]
   · rintro m σ ⟨i,j,rfl,hij,hj,hlo,hhi,rfl⟩
     by_cases hlt : i < j
     · have d3 : decide ((i : Int) < (j : Int)) = true := decide_eq_true (by omega)
       have e0 : ((i : Int) + (j : Int) + 9223372036854775808) % 18446744073709551616 - 9223372036854775808 = ((i + j : Nat) : Int) := by omega
       have e1 : (((i + j : Nat) : Int)) % 18446744073709551616 = ((i + j : Nat) : Int) := by omega
       obtain ⟨h,hh⟩ : ∃ h,(i + j) / 2 = h := ⟨_,rfl⟩
       have hb : i ≤ h ∧ h < j := by omega
       have hs1 := ziq l h (by omega)
       obtain ⟨X,hX⟩ : ∃ X,l[h]'(by omega) = X := ⟨_,rfl⟩
       rw [hX] at hs1
       have e2 : (((i + j : Nat) : Int) / 2 + 9223372036854775808) % 18446744073709551616 - 9223372036854775808 = (h : Int) := by omega
       have e3 : ((h : Int) + 1 + 9223372036854775808) % 18446744073709551616 - 9223372036854775808 = ((h + 1 : Nat) : Int) := by omega
       cases hv : Op.bytesLess X t with
       | true =>
         have hlo2 : ∀ x ∈ l.take (h + 1),Op.bytesLess x t = true := srt_below hs (by omega) (by rw [hX]; exact hv)
         simp only [go_sem,zab,Nat.reduceAdd,Nat.reduceSub,Nat.reduceMul,Int.reduceToNat,reduceCtorEq,↓reduceIte,Int.reducePow,Nat.reducePow,Int.reduceMod,Nat.reduceLeDiff,Int.reduceLE,Int.reduceNe,Int.reduceEq,Nat.reduceEqDiff,Nat.reduceLT,Nat.reduceBEq,ty,zrs,lesTS,hlp,d3,hs1,hv,e0,e1,e2,e3,Int.toNat_natCast]
         repeat (first | refine And.intro (by omega) ?_ | refine And.intro ⟨by omega,by omega⟩ ?_)
         refine ⟨j - (h + 1),_,by omega,zaj [0,1,2,3] rfl rfl rfl ?_ ?_,h + 1,j,rfl,by omega,by omega,hlo2,hhi,rfl⟩
         · simp only [ssT,zar,zas,setSlot,gOf,AV.ren,renL,Blk.ren,Ax.look,Ax.put,reduceCtorEq,↓reduceIte,Nat.reduceEqDiff,Nat.reduceLT,Nat.reduceAdd,List.length_append,List.length_cons,List.length_nil,Option.some.injEq]
         · simp only [ssT,zar,zas,setSlot,gOf,AV.ren,renL,Blk.ren,Ax.look,Ax.put,reduceCtorEq,↓reduceIte,Nat.reduceEqDiff,Nat.reduceLT,Nat.reduceAdd,List.length_append,List.length_cons,List.length_nil,Option.some.injEq]
       | false =>
         have hhi2 : ∀ x ∈ l.drop h,Op.bytesLess x t = false := srt_above hs (by omega) (by rw [hX]; exact hv)
         simp only [go_sem,zab,Nat.reduceAdd,Nat.reduceSub,Nat.reduceMul,Int.reduceToNat,reduceCtorEq,↓reduceIte,Int.reducePow,Nat.reducePow,Int.reduceMod,Nat.reduceLeDiff,Int.reduceLE,Int.reduceNe,Int.reduceEq,Nat.reduceEqDiff,Nat.reduceLT,Nat.reduceBEq,ty,zrs,lesTS,hlp,d3,hs1,hv,e0,e1,e2,e3,Int.toNat_natCast]
         repeat (first | refine And.intro (by omega) ?_ | refine And.intro ⟨by omega,by omega⟩ ?_)
         refine ⟨h - i,_,by omega,zaj [0,1,2,3] rfl rfl rfl ?_ ?_,i,h,rfl,by omega,by omega,hlo,hhi2,rfl⟩
         · simp only [ssT,zar,zas,setSlot,gOf,AV.ren,renL,Blk.ren,Ax.look,Ax.put,reduceCtorEq,↓reduceIte,Nat.reduceEqDiff,Nat.reduceLT,Nat.reduceAdd,List.length_append,List.length_cons,List.length_nil,Option.some.injEq]
         · simp only [ssT,zar,zas,setSlot,gOf,AV.ren,renL,Blk.ren,Ax.look,Ax.put,reduceCtorEq,↓reduceIte,Nat.reduceEqDiff,Nat.reduceLT,Nat.reduceAdd,List.length_append,List.length_cons,List.length_nil,Option.some.injEq]
     · have d3 : decide ((i : Int) < (j : Int)) = false := decide_eq_false (by omega)
       obtain rfl : i = j := by omega
       have hpl := plT_at (k := t) (l := l) (i := i) (by omega) hlo hhi
       simp only [go_sem,zab,Nat.reduceAdd,Nat.reduceSub,Nat.reduceMul,Int.reduceToNat,reduceCtorEq,↓reduceIte,Int.reducePow,Nat.reducePow,Int.reduceMod,Nat.reduceLeDiff,Int.reduceLE,Int.reduceNe,Int.reduceEq,Nat.reduceEqDiff,Nat.reduceLT,Nat.reduceBEq,ty,zrs,hlp,d3]
       refine ⟨_,Weak.refl _,?_⟩
       by_cases hil : i < l.length
       · have d4 : decide ((i : Int) < l.length) = true := decide_eq_true (by omega)
         have hs1 := ziq l i hil
         obtain ⟨X,hX⟩ : ∃ X,l[i] = X := ⟨_,rfl⟩
         rw [hX] at hs1
         have hth : Q = decide (X = t) := by
                       rw [← hQ,thT_at (by rw [hpl]; exact hil)]; simp only [hpl,hX]
         cases hd : decide (X = t) with
         | true =>
           rw [hd] at hth
           simp only [go_sem,zab,Nat.reduceAdd,Nat.reduceSub,Nat.reduceMul,Int.reduceToNat,reduceCtorEq,↓reduceIte,Int.reducePow,Nat.reducePow,Int.reduceMod,Nat.reduceLeDiff,Int.reduceLE,Int.reduceNe,Int.reduceEq,Nat.reduceEqDiff,Nat.reduceLT,Nat.reduceBEq,ty,zrs,zrg,hlp,d4,hs1,hd,Int.toNat_natCast]
           repeat (first | refine And.intro (by omega) ?_ | refine And.intro ⟨by omega,by omega⟩ ?_)
           rw [hth,← hP,hpl]
         | false =>
           rw [hd] at hth
           simp only [go_sem,zab,Nat.reduceAdd,Nat.reduceSub,Nat.reduceMul,Int.reduceToNat,reduceCtorEq,↓reduceIte,Int.reducePow,Nat.reducePow,Int.reduceMod,Nat.reduceLeDiff,Int.reduceLE,Int.reduceNe,Int.reduceEq,Nat.reduceEqDiff,Nat.reduceLT,Nat.reduceBEq,ty,zrs,zrg,hlp,d4,hs1,hd,Int.toNat_natCast]
           repeat (first | refine And.intro (by omega) ?_ | refine And.intro ⟨by omega,by omega⟩ ?_)
           rw [hth,← hP,hpl]
       · have d4 : decide ((i : Int) < l.length) = false := decide_eq_false (by omega)
         have hth : Q = false := by
                       rw [← hQ,thT_end (by rw [hpl]; exact hil)]
         simp only [go_sem,zab,Nat.reduceAdd,Nat.reduceSub,Nat.reduceMul,Int.reduceToNat,reduceCtorEq,↓reduceIte,Int.reducePow,Nat.reducePow,Int.reduceMod,Nat.reduceLeDiff,Int.reduceLE,Int.reduceNe,Int.reduceEq,Nat.reduceEqDiff,Nat.reduceLT,Nat.reduceBEq,ty,zrs,zrg,hlp,d4,Int.toNat_natCast]
         subst hpl hth
         rw [← hP]
 · exact hp.elim
end
end Go.Proofs.Ytdnlliedmfgfiaa
namespace Go.Proofs.Ytdnlliedmfgfiaa
open Ax
def clpN (p : Int) : Nat := (min (max p 0) 1000).toNat
theorem clpN_le (p : Int) : clpN p ≤ 1000 := by unfold clpN; omega
def clpS : zan
 | [.w (.int .i64 p)],[] => ⟨True,.w (.int .i64 ((clpN p : Nat) : Int)),[]⟩
 | _,_ => zbo
def sdTS : zan
 | [.sg 1 xs f],[] => ⟨(0 < xs.length ∧ xs.length ≤ 1000000) ∧ ∃ l : List (List UInt8),xs = l.map AV.str ∧ srtT l,.sg 1 xs false,[]⟩
 | _,_ => zbo
def Ssd19 (f : FuncId) : Option zan :=
 match f with
 | 69 => some cloTS
 | 71 => some cmpTS
 | _ => none
theorem Ssd19_ok : Fns Try.prog Ssd19 := by
 intro f s h
 unfold Ssd19 at h
 split at h
 · injection h with h; subst h; exact ⟨⟨_,Try.func69,by kernel_rfl,by kernel_rfl⟩,cloT_sound⟩
 · injection h with h; subst h; exact ⟨⟨_,Try.func71,by kernel_rfl,by kernel_rfl⟩,cmpT_sound⟩
 · cases h
def Osd19 (f : FuncId) : Option zan :=
 match f with
 | 70 => some zou
 | _ => none
theorem Osd19_ok : FnsO Try.prog Osd19 := by
 intro f s h
 unfold Osd19 at h
 split at h
 · injection h with h; subst h; exact ⟨⟨_,Try.func70,by kernel_rfl,by kernel_rfl⟩,sortO_sound⟩
 · cases h
def sdPl : zeq := fun id => match id with
 | 2 => .opn [] 1
 | _ => .std
theorem zmm (l : List (List UInt8)) (h : Bool) : coe ty 55 (.sg 1 (l.map AV.str) h) = .sg 1 (l.map AV.str) h := by cases l <;> rfl
section
set_option maxRecDepth 100000
set_option maxHeartbeats 4000000
theorem clp_sound : zbm Try.prog 72 clpS := by
 refine zdo (S := noS) (T := ty) mixed ty_ok zbv Try.func72 (c := Try.f72.body.getD .skip) (by kernel_rfl) (by kernel_rfl) (fun xs pins hp _ => ?_)
 unfold clpS at hp ⊢
 split at hp
 · rename_i p _
   refine ⟨by simp,?_⟩
   obtain ⟨C,hC⟩ : ∃ C,clpN p = C := ⟨_,rfl⟩
   have hc : (C : Int) = (if 1000 < (if p < 0 then 0 else p) then 1000 else (if p < 0 then 0 else p)) := by
     rw [← hC]; unfold clpN
     split <;> split <;> omega
   rw [hC]
   unfold Try.f72
   simp only [go_sem,zab,Nat.reduceAdd,Nat.reduceSub,Nat.reduceMul,Int.reduceToNat,reduceCtorEq,↓reduceIte,Int.reducePow,Nat.reducePow,Int.reduceMod,Nat.reduceLeDiff,Int.reduceLE,Int.reduceNe,Int.reduceEq,Nat.reduceEqDiff,Nat.reduceLT,Nat.reduceBEq,ty,noS,hc]
 · exact hp.elim
theorem zvj : zbm Try.prog 62 sdTS := by
 refine zbh (S := Ssd19) (SO := Osd19) (T := ty) mixed ty_ok Ssd19_ok Osd19_ok Try.func62 (c := Try.f62.body.getD .skip) (by kernel_rfl) (fun xs pins hp _ => ?_)
 unfold sdTS at hp ⊢
 split at hp
 · rename_i xs f _
   obtain ⟨⟨h0,hL⟩,l,rfl,hs⟩ := hp
   rw [List.length_map] at h0 hL
   refine ⟨by simp,sdPl,by kernel_rfl,?_⟩
   have hlp : (l.map AV.str).length = l.length := by simp
   have hem : empT (l.map AV.str) = false := by cases l with | nil => simp at h0 | cons _ _ => rfl
   have hex : ∃ es : List (List UInt8),l.map AV.str = es.map AV.str := ⟨l,rfl⟩
   have hex2 : ∃ es : List (List UInt8),l.map AV.str = es.map AV.str ∧ srtT es := ⟨l,rfl,hs⟩
   have hso : zig l = l := sortL_self hs
   have hst := zlx l
   have d1 : decide (0 < l.length) = true := decide_eq_true h0
   have hl4 : l.length < 4611686018427387904 := by omega
   have htk : List.take l.length (l.map AV.str) = l.map AV.str := List.take_of_length_le (by simp)
   unfold Try.f62
   simp only [go_sem,zaa,Nat.reduceAdd,Nat.reduceSub,Nat.reduceMul,Int.reduceToNat,reduceCtorEq,↓reduceIte,Int.reducePow,Nat.reducePow,Int.reduceMod,Nat.reduceLeDiff,Int.reduceLE,Int.reduceNe,Int.reduceEq,Nat.reduceEqDiff,Nat.reduceLT,Nat.reduceBEq,List.map_cons,List.map_nil,List.toList_toArray,Array.toList_append,Option.toArray_some,Option.toArray_none,Bool.and_self,ty,Ssd19,Osd19,sdPl,cloTS,cmpTS,zou,hlp,hL,hem,hex,hex2,hso,hst,d1,h0,hl4,htk,ids_strs,zht,zmm,cond_false]
   refine ⟨fun y hy => by obtain ⟨e,_,rfl⟩ := List.mem_map.1 hy; rfl,_,Weak.refl _,?_⟩
   simp only [go_sem,zaa,Nat.reduceAdd,Nat.reduceSub,Nat.reduceMul,Int.reduceToNat,reduceCtorEq,↓reduceIte,Int.reducePow,Nat.reducePow,Int.reduceMod,Nat.reduceLeDiff,Int.reduceLE,Int.reduceNe,Int.reduceEq,Nat.reduceEqDiff,Nat.reduceLT,Nat.reduceBEq,List.map_cons,List.map_nil,List.toList_toArray,Array.toList_append,Option.toArray_some,Option.toArray_none,Bool.and_self,ty]
 · exact hp.elim
end
end Go.Proofs.Ytdnlliedmfgfiaa
namespace Go.Proofs.Ytdnlliedmfgfiaa
open Ax
def iotI (s m : Nat) : List Int := (List.range m).map fun j => ((s + j : Nat) : Int)
def zvy (P n k : Nat) : Nat := P / n + (if k < P % n then 1 else 0)
def rgK (P n : Nat) : Nat → List (List Int) × Nat
 | 0 => ([],0)
 | k + 1 => ((rgK P n k).1 ++ [iotI (rgK P n k).2 (zvy P n k)],(rgK P n k).2 + zvy P n k)
def siA (l : List Int) : AV := .si l false
theorem iotI_len (s m : Nat) : (iotI s m).length = m := by unfold iotI; simp
theorem zwm (s m : Nat) : iotI s m ++ [((s + m : Nat) : Int)] = iotI s (m + 1) := by
 unfold iotI; rw [List.range_succ,List.map_append]; rfl
theorem manyN_le (P n k : Nat) : zvy P n k ≤ P + 1 := by
 have := Nat.div_le_self P n
 unfold zvy; split <;> omega
theorem rgK_len (P n : Nat) : ∀ k,(rgK P n k).1.length = k
 | 0 => rfl
 | k + 1 => by simp only [rgK,List.length_append,List.length_cons,List.length_nil,rgK_len P n k]
theorem rgK_le (P n : Nat) : ∀ k,(rgK P n k).2 ≤ k * (P + 1)
 | 0 => by simp [rgK]
 | k + 1 => by
   have h1 := rgK_le P n k
   have h2 := manyN_le P n k
   have h3 : (k + 1) * (P + 1) = k * (P + 1) + (P + 1) := by rw [Nat.add_mul,Nat.one_mul]
   simp only [rgK]; omega
theorem zxl : ∀ (l : List (List Int)),closedL (l.map siA) = true
 | [] => rfl
 | x :: r => by simp only [List.map_cons,closedL,siA,AV.closed,Bool.true_and]; exact zxl r
theorem zfr : ∀ (l : List (List Int)),idsL (l.map siA) = []
 | [] => rfl
 | x :: r => by simp only [List.map_cons,idsL,siA,AV.ids,List.nil_append]; exact zfr r
theorem fi_si (id : Nat) (bs : List Int) : ∀ (l : List (List Int)),fiL id bs (l.map siA) = l.map siA
 | [] => rfl
 | x :: r => by
   simp only [List.map_cons,fiL,fi_si id bs r]; rfl
theorem zgw (g : Nat → Nat) : ∀ (l : List (List Int)),renL g (l.map siA) = l.map siA
 | [] => rfl
 | x :: r => by simp only [List.map_cons,renL,zgw g r]; rfl
def rgF (n : Nat) (p : Int) : List (List Int) := (rgK (clpN p) n n).1
def rgS : zan
 | [.sg 1 xs f,.w (.int .i64 p)],[] => ⟨(0 < xs.length ∧ xs.length ≤ 1000000) ∧ ∃ l : List (List UInt8),xs = l.map AV.str ∧ srtT l,.sg 1 ((rgF xs.length p).map siA) false,[]⟩
 | _,_ => zbo
def zmr (f : FuncId) : Option zan :=
 match f with
 | 62 => some sdTS
 | 72 => some clpS
 | _ => none
theorem Srg19_ok : Fns Try.prog zmr := by
 intro f s h
 unfold zmr at h
 split at h
 · injection h with h; subst h; exact ⟨⟨_,Try.func62,by kernel_rfl,by kernel_rfl⟩,zvj⟩
 · injection h with h; subst h; exact ⟨⟨_,Try.func72,by kernel_rfl,by kernel_rfl⟩,clp_sound⟩
 · cases h
section
set_option maxRecDepth 100000
set_option maxHeartbeats 4000000
theorem rg_sound : zbm Try.prog 63 rgS := by
 refine zdo (S := zmr) (T := ty) mixed ty_ok Srg19_ok Try.func63 (c := Try.f63.body.getD .skip) (by kernel_rfl) (by kernel_rfl) (fun xs pins hp _ => ?_)
 unfold rgS at hp ⊢
 split at hp
 · rename_i xs f p _
   obtain ⟨⟨h0,hL⟩,l,rfl,hs⟩ := hp
   rw [List.length_map] at h0 hL
   refine ⟨by simp,?_⟩
   have hlp : (l.map AV.str).length = l.length := by simp
   have hex2 : ∃ es : List (List UInt8),l.map AV.str = es.map AV.str ∧ srtT es := ⟨l,rfl,hs⟩
   unfold rgF
   rw [hlp]
   have hPl := clpN_le p
   obtain ⟨P,hP⟩ : ∃ P,clpN p = P := ⟨_,rfl⟩
   rw [hP] at hPl ⊢
   obtain ⟨n,hn⟩ : ∃ n,l.length = n := ⟨_,rfl⟩
   rw [hn] at h0 hL hlp ⊢
   have hn0 : ((n : Int) = 0) = False := eq_false (by omega)
   have hnn : ((n : Int) ≠ 0) = True := eq_true (by omega)
   have hql := Nat.div_le_self P n
   have hMv : ∀ k,zvy P n k = P / n + (if k < P % n then 1 else 0) := fun k => rfl
   have hq : Int.tdiv (P : Int) (n : Int) = ((P / n : Nat) : Int) := rfl
   have hr : Int.tmod (P : Int) (n : Int) = ((P % n : Nat) : Int) := rfl
   obtain ⟨Q,hQ⟩ : ∃ Q,P / n = Q := ⟨_,rfl⟩
   obtain ⟨R,hR⟩ : ∃ R,P % n = R := ⟨_,rfl⟩
   rw [hQ] at hql hq
   rw [hR] at hr
   simp only [hQ,hR] at hMv
   have e4 : ((Q : Int) + 9223372036854775808) % 18446744073709551616 - 9223372036854775808 = (Q : Int) := by omega
   unfold Try.f63
   simp only [go_sem,zab,Nat.reduceAdd,Nat.reduceSub,Nat.reduceMul,Int.reduceToNat,reduceCtorEq,↓reduceIte,Int.reducePow,Nat.reducePow,Int.reduceMod,Nat.reduceLeDiff,Int.reduceLE,Int.reduceNe,Int.reduceEq,Nat.reduceEqDiff,Nat.reduceLT,Nat.reduceBEq,ty,zmr,sdTS,clpS,hlp,h0,hL,hex2,hP,zmm]
   refine zbx ⟨fun m σ => ∃ (k : Nat),m = n - k ∧ k ≤ n ∧
       σ = ⟨[.sg 1 (l.map .str) f,.w (.int .i64 p),.junk,.junk,.sg 1 [] true,.w (.int .i64 n),.w (.int .i64 P),.ms 4 1 0 k,.w (.int .i64 (rgK P n k).2),.junk,.junk,.junk,.junk,.junk,.junk,.junk,.junk,.w (.int .i64 n),.w (.int .i64 k),.junk,.junk,.junk,.junk,.junk,.junk,.junk,.junk,.junk,.junk,.junk,.junk,.junk,.junk,.junk,.junk,.junk,.junk,.junk,.junk,.junk,.junk,.junk,.junk,.junk,.junk,.junk,.junk],[(4,.g 1 ((rgK P n k).1.map siA))],5⟩,?_,?_⟩
   · refine ⟨_,_,(zoe 7 1 (.g 1 []) ⟨by decide,rfl⟩ (by exact trivial)).trans (zaj [0,1,2,3,100] rfl rfl rfl ?_ ?_),0,rfl,by omega,rfl⟩
     · simp only [ssT,zar,zas,setSlot,gOf,AV.ren,renL,Blk.ren,Ax.look,Ax.put,reduceCtorEq,↓reduceIte,Nat.reduceEqDiff,Nat.reduceLT,Nat.reduceAdd,List.length_append,List.length_cons,List.length_nil,Option.some.injEq]; try simp [rgK]
     · simp only [ssT,zar,zas,setSlot,gOf,AV.ren,renL,Blk.ren,Ax.look,Ax.put,reduceCtorEq,↓reduceIte,Nat.reduceEqDiff,Nat.reduceLT,Nat.reduceAdd,List.length_append,List.length_cons,List.length_nil,Option.some.injEq]; try simp [rgK,renL]
   · rintro m σ ⟨k,rfl,hk,rfl⟩
     have e1 : ((k : Int) + 1 + 9223372036854775808) % 18446744073709551616 - 9223372036854775808 = ((k + 1 : Nat) : Int) := by omega
     have hrl := rgK_le P n k
     have hrn := rgK_len P n k
     have hml := manyN_le P n k
     have hkp : k * (P + 1) ≤ 1000000 * 1001 := Nat.mul_le_mul (by omega) (by omega)
     by_cases hkl : k < n
     · have d3 : decide ((k : Int) < (n : Int)) = true := decide_eq_true (by omega)
       have hnx : (rgK P n (k + 1)) = ((rgK P n k).1 ++ [iotI (rgK P n k).2 (zvy P n k)],(rgK P n k).2 + zvy P n k) := rfl
       obtain ⟨L,s,hLs⟩ : ∃ L s,rgK P n k = (L,s) := ⟨_,_,rfl⟩
       rw [hLs] at hrl hrn hnx ⊢
       simp only at hrl hrn hnx ⊢
       obtain ⟨M,hM⟩ : ∃ M,zvy P n k = M := ⟨_,rfl⟩
       rw [hM] at hml hnx
       have hMk := hMv k
       rw [hM] at hMk
       by_cases hkR : k < R
       · rw [if_pos hkR] at hMk
         have d4 : decide ((k : Int) < (R : Int)) = true := decide_eq_true (by omega)
         have e5 : ((Q : Int) + 1 + 9223372036854775808) % 18446744073709551616 - 9223372036854775808 = (M : Int) := by omega
         simp only [go_sem,zab,Nat.reduceAdd,Nat.reduceSub,Nat.reduceMul,Int.reduceToNat,reduceCtorEq,↓reduceIte,Int.reducePow,Nat.reducePow,Int.reduceMod,Nat.reduceLeDiff,Int.reduceLE,Int.reduceNe,Int.reduceEq,Nat.reduceEqDiff,Nat.reduceLT,Nat.reduceBEq,ty,zmr,hn0,hnn,hq,hr,e4,e5,d3,d4]
         have hrl2 : (L.map siA).length = k := by simp [hrn]
         refine zbx ⟨fun m σ => ∃ (j : Nat),m = M - j ∧ j ≤ M ∧
             σ = ⟨[.sg 1 (l.map .str) f,.w (.int .i64 p),.junk,.junk,.sg 1 [] true,.w (.int .i64 n),.w (.int .i64 P),.ms 4 1 0 k,.w (.int .i64 ((s + j : Nat) : Int)),.w (.int .i64 k),.junk,.ms 5 1 0 j,.junk,.junk,.junk,.junk,.junk,.w (.int .i64 n),.w (.int .i64 k),.junk,.junk,.junk,.junk,.junk,.junk,.junk,.junk,.junk,.junk,.junk,.junk,.w (.int .i64 M),.w (.int .i64 j),.junk,.junk,.junk,.junk,.junk,.junk,.junk,.junk,.junk,.junk,.junk,.junk,.junk,.junk],[(4,.g 1 (L.map siA)),(5,.i (iotI s j))],6⟩,?_,?_⟩
         · refine ⟨_,_,(zoe 11 1 (.i []) rfl (by exact trivial)).trans (zaj [0,1,2,3,4,149] rfl rfl rfl ?_ ?_),0,rfl,by omega,rfl⟩
           · simp only [ssT,zar,zas,setSlot,gOf,AV.ren,renL,Blk.ren,Ax.look,Ax.put,reduceCtorEq,↓reduceIte,Nat.reduceEqDiff,Nat.reduceLT,Nat.reduceAdd,List.length_append,List.length_cons,List.length_nil,Option.some.injEq,zfr,zgw]; try simp
           · simp only [ssT,zar,zas,setSlot,gOf,AV.ren,renL,Blk.ren,Ax.look,Ax.put,reduceCtorEq,↓reduceIte,Nat.reduceEqDiff,Nat.reduceLT,Nat.reduceAdd,List.length_append,List.length_cons,List.length_nil,Option.some.injEq,zfr,zgw]; try simp [iotI]
         · rintro m σ ⟨j,rfl,hj,rfl⟩
           have e6 : ((j : Int) + 1 + 9223372036854775808) % 18446744073709551616 - 9223372036854775808 = ((j + 1 : Nat) : Int) := by omega
           have e7 : (((s + j : Nat) : Int) + 1 + 9223372036854775808) % 18446744073709551616 - 9223372036854775808 = ((s + (j + 1) : Nat) : Int) := by omega
           have hil := iotI_len s j
           have hsn := zwm s j
           by_cases hjm : j < M
           · have d6 : decide ((j : Int) < (M : Int)) = true := decide_eq_true (by omega)
             simp only [go_sem,zab,Nat.reduceAdd,Nat.reduceSub,Nat.reduceMul,Int.reduceToNat,reduceCtorEq,↓reduceIte,Int.reducePow,Nat.reducePow,Int.reduceMod,Nat.reduceLeDiff,Int.reduceLE,Int.reduceNe,Int.reduceEq,Nat.reduceEqDiff,Nat.reduceLT,Nat.reduceBEq,ty,zmr,d6,e6,e7,hil,hsn,zfr]
             repeat (first | refine And.intro (by omega) ?_ | refine And.intro (by unfold top; omega) ?_)
             refine ⟨M - (j + 1),_,by omega,zaj [0,1,2,3,4,38] rfl rfl rfl ?_ ?_,j + 1,rfl,by omega,rfl⟩
             · simp only [ssT,zar,zas,setSlot,gOf,AV.ren,renL,Blk.ren,Ax.look,Ax.put,reduceCtorEq,↓reduceIte,Nat.reduceEqDiff,Nat.reduceLT,Nat.reduceAdd,List.length_append,List.length_cons,List.length_nil,Option.some.injEq,zfr,zgw]; try simp
             · simp only [ssT,zar,zas,setSlot,gOf,AV.ren,renL,Blk.ren,Ax.look,Ax.put,reduceCtorEq,↓reduceIte,Nat.reduceEqDiff,Nat.reduceLT,Nat.reduceAdd,List.length_append,List.length_cons,List.length_nil,Option.some.injEq,zfr,zgw]; try simp
           · have d6 : decide ((j : Int) < (M : Int)) = false := decide_eq_false (by omega)
             obtain rfl : j = M := by omega
             simp only [go_sem,zab,Nat.reduceAdd,Nat.reduceSub,Nat.reduceMul,Int.reduceToNat,reduceCtorEq,↓reduceIte,Int.reducePow,Nat.reducePow,Int.reduceMod,Nat.reduceLeDiff,Int.reduceLE,Int.reduceNe,Int.reduceEq,Nat.reduceEqDiff,Nat.reduceLT,Nat.reduceBEq,ty,zmr,d6,hil,zfr]
             have hdle : decide (0 + j ≤ (iotI s j).length) = true := decide_eq_true (by rw [hil]; omega)
             have htk : List.take j (iotI s j) = iotI s j := List.take_of_length_le (by rw [hil]; omega)
             refine ⟨_,weak_fi 5 11 (iotI s j) rfl (by simp [slot,AV.ids]),?_⟩
             simp only [fiL,fiH,AV.fi,Blk.fi,fi_si,Nat.reduceBEq,cond_true,cond_false,hdle,Bool.and_true,beq_self_eq_true,Bool.true_and,List.drop_zero,htk]
             simp only [go_sem,zab,Nat.reduceAdd,Nat.reduceSub,Nat.reduceMul,Int.reduceToNat,reduceCtorEq,↓reduceIte,Int.reducePow,Nat.reducePow,Int.reduceMod,Nat.reduceLeDiff,Int.reduceLE,Int.reduceNe,Int.reduceEq,Nat.reduceEqDiff,Nat.reduceLT,Nat.reduceBEq,ty,zmr,hrl2,e1,zfr]
             have hap : L.map siA ++ [AV.si (iotI s j) false] = (L ++ [iotI s j]).map siA := by simp [siA]
             repeat (refine And.intro (by first | omega | (unfold top; omega)) ?_)
             refine ⟨n - (k + 1),_,by omega,zaj [0,1,2,3,38] rfl rfl rfl ?_ ?_,k + 1,rfl,by omega,rfl⟩
             · simp only [ssT,zar,zas,setSlot,gOf,AV.ren,renL,Blk.ren,Ax.look,Ax.put,reduceCtorEq,↓reduceIte,Nat.reduceEqDiff,Nat.reduceLT,Nat.reduceAdd,List.length_append,List.length_cons,List.length_nil,Option.some.injEq,hnx]; try simp
             · simp only [ssT,zar,zas,setSlot,gOf,AV.ren,renL,Blk.ren,Ax.look,Ax.put,reduceCtorEq,↓reduceIte,Nat.reduceEqDiff,Nat.reduceLT,Nat.reduceAdd,List.length_append,List.length_cons,List.length_nil,Option.some.injEq,hnx,hap,zgw]; try simp [zgw]
       · rw [if_neg hkR,Nat.add_zero] at hMk
         subst hMk
         have d4 : decide ((k : Int) < (R : Int)) = false := decide_eq_false (by omega)
         simp only [go_sem,zab,Nat.reduceAdd,Nat.reduceSub,Nat.reduceMul,Int.reduceToNat,reduceCtorEq,↓reduceIte,Int.reducePow,Nat.reducePow,Int.reduceMod,Nat.reduceLeDiff,Int.reduceLE,Int.reduceNe,Int.reduceEq,Nat.reduceEqDiff,Nat.reduceLT,Nat.reduceBEq,ty,zmr,hn0,hnn,hq,hr,e4,d3,d4]
         have hrl2 : (L.map siA).length = k := by simp [hrn]
         refine zbx ⟨fun m σ => ∃ (j : Nat),m = M - j ∧ j ≤ M ∧
             σ = ⟨[.sg 1 (l.map .str) f,.w (.int .i64 p),.junk,.junk,.sg 1 [] true,.w (.int .i64 n),.w (.int .i64 P),.ms 4 1 0 k,.w (.int .i64 ((s + j : Nat) : Int)),.w (.int .i64 k),.junk,.ms 5 1 0 j,.junk,.junk,.junk,.junk,.junk,.w (.int .i64 n),.w (.int .i64 k),.junk,.junk,.junk,.junk,.junk,.junk,.junk,.junk,.junk,.junk,.junk,.junk,.w (.int .i64 M),.w (.int .i64 j),.junk,.junk,.junk,.junk,.junk,.junk,.junk,.junk,.junk,.junk,.junk,.junk,.junk,.junk],[(4,.g 1 (L.map siA)),(5,.i (iotI s j))],6⟩,?_,?_⟩
         · refine ⟨_,_,(zoe 11 1 (.i []) rfl (by exact trivial)).trans (zaj [0,1,2,3,4,125] rfl rfl rfl ?_ ?_),0,rfl,by omega,rfl⟩
           · simp only [ssT,zar,zas,setSlot,gOf,AV.ren,renL,Blk.ren,Ax.look,Ax.put,reduceCtorEq,↓reduceIte,Nat.reduceEqDiff,Nat.reduceLT,Nat.reduceAdd,List.length_append,List.length_cons,List.length_nil,Option.some.injEq,zfr,zgw]; try simp
           · simp only [ssT,zar,zas,setSlot,gOf,AV.ren,renL,Blk.ren,Ax.look,Ax.put,reduceCtorEq,↓reduceIte,Nat.reduceEqDiff,Nat.reduceLT,Nat.reduceAdd,List.length_append,List.length_cons,List.length_nil,Option.some.injEq,zfr,zgw]; try simp [iotI]
         · rintro m σ ⟨j,rfl,hj,rfl⟩
           have e6 : ((j : Int) + 1 + 9223372036854775808) % 18446744073709551616 - 9223372036854775808 = ((j + 1 : Nat) : Int) := by omega
           have e7 : (((s + j : Nat) : Int) + 1 + 9223372036854775808) % 18446744073709551616 - 9223372036854775808 = ((s + (j + 1) : Nat) : Int) := by omega
           have hil := iotI_len s j
           have hsn := zwm s j
           by_cases hjm : j < M
           · have d6 : decide ((j : Int) < (M : Int)) = true := decide_eq_true (by omega)
             simp only [go_sem,zab,Nat.reduceAdd,Nat.reduceSub,Nat.reduceMul,Int.reduceToNat,reduceCtorEq,↓reduceIte,Int.reducePow,Nat.reducePow,Int.reduceMod,Nat.reduceLeDiff,Int.reduceLE,Int.reduceNe,Int.reduceEq,Nat.reduceEqDiff,Nat.reduceLT,Nat.reduceBEq,ty,zmr,d6,e6,e7,hil,hsn,zfr]
             repeat (first | refine And.intro (by omega) ?_ | refine And.intro (by unfold top; omega) ?_)
             refine ⟨M - (j + 1),_,by omega,zaj [0,1,2,3,4,38] rfl rfl rfl ?_ ?_,j + 1,rfl,by omega,rfl⟩
             · simp only [ssT,zar,zas,setSlot,gOf,AV.ren,renL,Blk.ren,Ax.look,Ax.put,reduceCtorEq,↓reduceIte,Nat.reduceEqDiff,Nat.reduceLT,Nat.reduceAdd,List.length_append,List.length_cons,List.length_nil,Option.some.injEq,zfr,zgw]; try simp
             · simp only [ssT,zar,zas,setSlot,gOf,AV.ren,renL,Blk.ren,Ax.look,Ax.put,reduceCtorEq,↓reduceIte,Nat.reduceEqDiff,Nat.reduceLT,Nat.reduceAdd,List.length_append,List.length_cons,List.length_nil,Option.some.injEq,zfr,zgw]; try simp
           · have d6 : decide ((j : Int) < (M : Int)) = false := decide_eq_false (by omega)
             obtain rfl : j = M := by omega
             simp only [go_sem,zab,Nat.reduceAdd,Nat.reduceSub,Nat.reduceMul,Int.reduceToNat,reduceCtorEq,↓reduceIte,Int.reducePow,Nat.reducePow,Int.reduceMod,Nat.reduceLeDiff,Int.reduceLE,Int.reduceNe,Int.reduceEq,Nat.reduceEqDiff,Nat.reduceLT,Nat.reduceBEq,ty,zmr,d6,hil,zfr]
             have hdle : decide (0 + j ≤ (iotI s j).length) = true := decide_eq_true (by rw [hil]; omega)
             have htk : List.take j (iotI s j) = iotI s j := List.take_of_length_le (by rw [hil]; omega)
             refine ⟨_,weak_fi 5 11 (iotI s j) rfl (by simp [slot,AV.ids]),?_⟩
             simp only [fiL,fiH,AV.fi,Blk.fi,fi_si,Nat.reduceBEq,cond_true,cond_false,hdle,Bool.and_true,beq_self_eq_true,Bool.true_and,List.drop_zero,htk]
             simp only [go_sem,zab,Nat.reduceAdd,Nat.reduceSub,Nat.reduceMul,Int.reduceToNat,reduceCtorEq,↓reduceIte,Int.reducePow,Nat.reducePow,Int.reduceMod,Nat.reduceLeDiff,Int.reduceLE,Int.reduceNe,Int.reduceEq,Nat.reduceEqDiff,Nat.reduceLT,Nat.reduceBEq,ty,zmr,hrl2,e1,zfr]
             have hap : L.map siA ++ [AV.si (iotI s j) false] = (L ++ [iotI s j]).map siA := by simp [siA]
             repeat (refine And.intro (by first | omega | (unfold top; omega)) ?_)
             refine ⟨n - (k + 1),_,by omega,zaj [0,1,2,3,38] rfl rfl rfl ?_ ?_,k + 1,rfl,by omega,rfl⟩
             · simp only [ssT,zar,zas,setSlot,gOf,AV.ren,renL,Blk.ren,Ax.look,Ax.put,reduceCtorEq,↓reduceIte,Nat.reduceEqDiff,Nat.reduceLT,Nat.reduceAdd,List.length_append,List.length_cons,List.length_nil,Option.some.injEq,hnx]; try simp
             · simp only [ssT,zar,zas,setSlot,gOf,AV.ren,renL,Blk.ren,Ax.look,Ax.put,reduceCtorEq,↓reduceIte,Nat.reduceEqDiff,Nat.reduceLT,Nat.reduceAdd,List.length_append,List.length_cons,List.length_nil,Option.some.injEq,hnx,hap,zgw]; try simp [zgw]
     · have d3 : decide ((k : Int) < (n : Int)) = false := decide_eq_false (by omega)
       obtain rfl : k = n := by omega
       have hrl2 : ((rgK P k k).1.map siA).length = k := by simp [hrn]
       simp only [go_sem,zab,Nat.reduceAdd,Nat.reduceSub,Nat.reduceMul,Int.reduceToNat,reduceCtorEq,↓reduceIte,Int.reducePow,Nat.reducePow,Int.reduceMod,Nat.reduceLeDiff,Int.reduceLE,Int.reduceNe,Int.reduceEq,Nat.reduceEqDiff,Nat.reduceLT,Nat.reduceBEq,ty,zmr,d3]
       have hdle : decide (0 + k ≤ ((rgK P k k).1.map siA).length) = true := decide_eq_true (by rw [hrl2]; omega)
       have htk : List.take k ((rgK P k k).1.map siA) = (rgK P k k).1.map siA := List.take_of_length_le (by rw [hrl2]; omega)
       refine ⟨_,zdg 4 1 7 ((rgK P k k).1.map siA) rfl (zxl _) (by simp [slot,AV.ids]),?_⟩
       simp only [fgL,fgH,AV.fg,Blk.fg,Nat.reduceBEq,cond_true,cond_false,hdle,Bool.and_true,beq_self_eq_true,Bool.true_and,List.drop_zero,htk]
       simp only [go_sem,zab,Nat.reduceAdd,Nat.reduceSub,Nat.reduceMul,Int.reduceToNat,reduceCtorEq,↓reduceIte,Int.reducePow,Nat.reducePow,Int.reduceMod,Nat.reduceLeDiff,Int.reduceLE,Int.reduceNe,Int.reduceEq,Nat.reduceEqDiff,Nat.reduceLT,Nat.reduceBEq,ty,zmr]
 · exact hp.elim
end
end Go.Proofs.Ytdnlliedmfgfiaa
