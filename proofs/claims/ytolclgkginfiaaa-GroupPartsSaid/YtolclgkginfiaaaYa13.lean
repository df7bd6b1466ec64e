/- What the proofs of this seat stand on; it asks nothing. -/
import Derived.Test.YtolclgkginfiaaaYa12
set_option linter.unusedSimpArgs false
set_option linter.unusedVariables false
namespace Go.Proofs.Ytolclgkginfiaaa
open Ax
structure JR where
 g : Int
 p : Int
 l : List Mb
 f : Bool
 e : Int
def jrA (r : JR) : AV := .tup [.agg [.w (.int .i64 r.g),.w (.int .u8 r.p),.sg 3 (r.l.map mbA) r.f],.w (.int .i64 r.e)]
def errJ (e : Int) : JR := ⟨0,0,[],true,e⟩
def insM (v : List UInt8) (now : Int) (l : List Mb) : List Mb := l.take (l.findIdx (zjp v)) ++ ⟨v,now,false⟩ :: l.drop (l.findIdx (zjp v))
def joF (gn ph : Int) (l : List Mb) (v : List UInt8) (now : Int) : JR :=
 if chG gn ph l = 0 then
   if idB v = true then
     if timB now = true then
       if l.findIdx (isD v) < l.length then ⟨gn,ph,l.set (l.findIdx (isD v)) (znl now (mbI l (l.findIdx (isD v)))),false,0⟩
       else if 16 ≤ l.length then errJ 9
       else if gn = 1099511627776 then errJ 11
       else ⟨gn + 1,1,(insM v now l).map clrM,false,0⟩
     else errJ 11
   else errJ 6
 else errJ (chG gn ph l)
def joS : zar
 | [.agg [.w (.int .i64 gn),.w (.int .u8 ph),.sg 3 xs f],.str v,.w (.int .i64 now)],[] => ⟨xs.length ≤ 900000 ∧ v.length ≤ 9223372036854775807 ∧ ∃ l : List Mb,xs = l.map mbA ∧ ∀ r ∈ l,r.d.length ≤ 9223372036854775807,jrA (joF gn ph (xs.map umb) v now),[]⟩
 | _,_ => zbq
def zgm : zar
 | [.sg 3 [] true,.w (.int .i64 0),.sg 3 [.agg [.str d,.w (.int .i64 t),.w (.bool y)]] f],[] => ⟨True,.ms 0 3 0 1,[.g 3 [.agg [.str d,.w (.int .i64 t),.w (.bool y)]]]⟩
 | _,_ => zbq
theorem eq00G : decide ((0:Int) = ((0:Nat):Int)) = true := rfl
theorem eq10G : decide (((1:Nat):Int) = (0:Int)) = false := rfl
theorem eq01G : decide ((0:Int) = ((1:Nat):Int)) = false := rfl
section
set_option maxRecDepth 100000
set_option maxHeartbeats 4000000
theorem insNM_sound : zbn Try.prog 17 zgm := by
 refine zdy (S := noS) (T := ty) mixed ty_ok zcm Try.func17 (c := Try.f17.body.getD .skip) (by kernel_rfl) (by kernel_rfl) (fun xs pins hp _ => ?_)
 unfold zgm at hp ⊢
 split at hp
 · rename_i d t y f _
   refine ⟨by simp,?_⟩
   unfold Try.f17
   simp only [go_sem,coe,zac,Nat.reduceAdd,Nat.reduceSub,Nat.reduceMul,Int.reduceToNat,reduceCtorEq,↓reduceIte,Int.reducePow,Nat.reducePow,Int.reduceMod,Nat.reduceLeDiff,Int.reduceLE,Int.reduceNe,Int.reduceEq,Nat.reduceEqDiff,Nat.reduceLT,Nat.reduceBEq,ty,noS,eq00G,eq01G,eq10G]
   decide
 · exact hp.elim
end
def zfo (f : FuncId) : Option zar :=
 match f with
 | 8 => some chGS
 | 9 => some zen
 | 10 => some timS
 | 11 => some zhd
 | 13 => some zhw
 | 14 => some zjq
 | 17 => some zgm
 | _ => none
theorem Sjo20_ok : Fns Try.prog zfo := by
 intro f s h
 unfold zfo at h
 split at h
 · injection h with h; subst h; exact ⟨⟨_,Try.func8,by kernel_rfl,by kernel_rfl⟩,zxc⟩
 · injection h with h; subst h; exact ⟨⟨_,Try.func9,by kernel_rfl,by kernel_rfl⟩,zrz⟩
 · injection h with h; subst h; exact ⟨⟨_,Try.func10,by kernel_rfl,by kernel_rfl⟩,zod⟩
 · injection h with h; subst h; exact ⟨⟨_,Try.func11,by kernel_rfl,by kernel_rfl⟩,zrm⟩
 · injection h with h; subst h; exact ⟨⟨_,Try.func13,by kernel_rfl,by kernel_rfl⟩,zri⟩
 · injection h with h; subst h; exact ⟨⟨_,Try.func14,by kernel_rfl,by kernel_rfl⟩,zro⟩
 · injection h with h; subst h; exact ⟨⟨_,Try.func17,by kernel_rfl,by kernel_rfl⟩,insNM_sound⟩
 · cases h
def znc (f : FuncId) : Option zar :=
 match f with
 | 12 => some chaS
 | 15 => some ixGS
 | 17 => some (insS 3)
 | 18 => some turS
 | _ => none
theorem Ojo20_ok : FnsO Try.prog znc := by
 intro f s h
 unfold znc at h
 split at h
 · injection h with h; subst h; exact ⟨⟨_,Try.func12,by kernel_rfl,by kernel_rfl⟩,zxa⟩
 · injection h with h; subst h; exact ⟨⟨_,Try.func15,by kernel_rfl,by kernel_rfl⟩,zpa⟩
 · injection h with h; subst h; exact ⟨⟨_,Try.func17,by kernel_rfl,by kernel_rfl⟩,ztp⟩
 · injection h with h; subst h; exact ⟨⟨_,Try.func18,by kernel_rfl,by kernel_rfl⟩,tur_sound⟩
 · cases h
def joPl : zhx := fun id => match id with
 | 10 => .drs [] 4
 | 17 => .opn [] 3
 | 20 => .opn [] 7
 | 21 => .opn [] 1
 | _ => .std
def zoz : zhx := fun id => match id with
 | 10 => .drs [] 4
 | 17 => .opn [] 3
 | 21 => .opn [] 1
 | _ => .std
theorem ch_ok20 {gn ph : Int} {l : List Mb} (h : chG gn ph l = 0) : l.length ≤ 16 ∧ (0 ≤ gn ∧ gn ≤ 1099511627776) ∧ phB ph l = true ∧ zei none l = true := by
 unfold chG at h
 split at h
 · rename_i hb
   unfold chB timB at hb
   simp only [Bool.and_eq_true,decide_eq_true_eq] at hb
   exact ⟨hb.1,hb.2.1,hb.2.2.1,hb.2.2.2⟩
 · cases h
section
set_option maxRecDepth 100000
set_option maxHeartbeats 16000000
theorem jo_sound : zbn Try.prog 4 joS := by
 refine zbs (S := zfo) (SO := znc) (T := ty) mixed ty_ok Sjo20_ok Ojo20_ok Try.func4 (c := Try.f4.body.getD .skip) (by kernel_rfl) (fun xs pins hp _ => ?_)
 unfold joS at hp ⊢
 split at hp
 · rename_i gn ph xs f v now _
   obtain ⟨hL0,hv9,l,rfl,hd⟩ := hp
   rw [List.length_map] at hL0
   have hle : (l.map mbA).length = l.length := by simp
   have hL : l.length ≤ 1000000 := by omega
   have hL9 : l.length ≤ 9223372036854775807 := by omega
   have hex : ∃ k : List Mb,l.map mbA = k.map mbA := ⟨l,rfl⟩
   have hxd : ∃ k : List Mb,l.map mbA = k.map mbA ∧ ∀ r ∈ k,r.d.length ≤ 9223372036854775807 := ⟨l,rfl,hd⟩
   have coeN : ∀ f,coe ty 22 (.sg 3 [] f) = .sg 3 [] f := fun f => rfl
   have hP1 : ixP 29 v = isD v := if_pos rfl
   have hP2 : ixP 16 v = zjp v := if_neg (by decide)
   rw [zap]
   unfold joF
   by_cases hch : chG gn ph l = 0
   · have q0 : decide (chG gn ph l = 0) = true := decide_eq_true hch
     obtain ⟨h16,⟨g0,g1⟩,_,_⟩ := ch_ok20 hch
     rw [if_pos hch]
     cases hI : idB v with
     | false =>
       rw [if_neg (by simp)]
       refine ⟨by simp,joPl,by kernel_rfl,?_⟩
       unfold Try.f4
       iterate 8
         try rw [zaa]
         try simp (config := { maxSteps := 3000000 }) only [go_sem,zaa,Nat.reduceAdd,Nat.reduceSub,Nat.reduceMul,Int.reduceToNat,reduceCtorEq,↓reduceIte,Int.reducePow,Nat.reducePow,Int.reduceMod,Nat.reduceLeDiff,Int.reduceLE,Int.reduceNe,Int.reduceEq,Nat.reduceEqDiff,Nat.reduceLT,Nat.reduceBEq,List.map_cons,List.map_nil,List.toList_toArray,Array.toList_append,Option.toArray_some,Option.toArray_none,Bool.and_self,-zaa,ty,zfo,znc,joPl,zoz,chGS,zen,timS,zhd,zhw,chaS,zjq,ixGS,insS,zgm,turS,zay,coeN,hle,hL,hL9,hex,hxd,hv9,zap,zad,zbb,zak,zgp,hch,Int.toNat_natCast,Bool.not_true,Bool.not_false,decide_true,hP1,hP2,true_or,or_true,hI]
         repeat (refine And.intro (by first | omega | exact zcr | exact ⟨by omega,by omega⟩ | (unfold top; omega)) ?_)
       try (refine ⟨_,Weak.refl _,?_⟩)
       try simp only [go_sem,zaa,Nat.reduceAdd,Nat.reduceSub,Nat.reduceMul,Int.reduceToNat,reduceCtorEq,↓reduceIte,Int.reducePow,Nat.reducePow,Int.reduceMod,Nat.reduceLeDiff,Int.reduceLE,Int.reduceNe,Int.reduceEq,Nat.reduceEqDiff,Nat.reduceLT,Nat.reduceBEq,List.map_cons,List.map_nil,List.toList_toArray,Array.toList_append,Option.toArray_some,Option.toArray_none,Bool.and_self,ty,zfo,jrA,errJ,List.map_nil]
     | true =>
       rw [if_pos rfl]
       cases hT : timB now with
       | false =>
         rw [if_neg (by simp)]
         refine ⟨by simp,joPl,by kernel_rfl,?_⟩
         unfold Try.f4
         iterate 8
           try rw [zaa]
           try simp (config := { maxSteps := 3000000 }) only [go_sem,zaa,Nat.reduceAdd,Nat.reduceSub,Nat.reduceMul,Int.reduceToNat,reduceCtorEq,↓reduceIte,Int.reducePow,Nat.reducePow,Int.reduceMod,Nat.reduceLeDiff,Int.reduceLE,Int.reduceNe,Int.reduceEq,Nat.reduceEqDiff,Nat.reduceLT,Nat.reduceBEq,List.map_cons,List.map_nil,List.toList_toArray,Array.toList_append,Option.toArray_some,Option.toArray_none,Bool.and_self,-zaa,ty,zfo,znc,joPl,zoz,chGS,zen,timS,zhd,zhw,chaS,zjq,ixGS,insS,zgm,turS,zay,coeN,hle,hL,hL9,hex,hxd,hv9,zap,zad,zbb,zak,zgp,hch,Int.toNat_natCast,Bool.not_true,Bool.not_false,decide_true,hP1,hP2,true_or,or_true,hI,hT]
           repeat (refine And.intro (by first | omega | exact zcr | exact ⟨by omega,by omega⟩ | (unfold top; omega)) ?_)
         try (refine ⟨_,Weak.refl _,?_⟩)
         try simp only [go_sem,zaa,Nat.reduceAdd,Nat.reduceSub,Nat.reduceMul,Int.reduceToNat,reduceCtorEq,↓reduceIte,Int.reducePow,Nat.reducePow,Int.reduceMod,Nat.reduceLeDiff,Int.reduceLE,Int.reduceNe,Int.reduceEq,Nat.reduceEqDiff,Nat.reduceLT,Nat.reduceBEq,List.map_cons,List.map_nil,List.toList_toArray,Array.toList_append,Option.toArray_some,Option.toArray_none,Bool.and_self,ty,zfo,jrA,errJ,List.map_nil]
       | true =>
         rw [if_pos rfl]
         obtain ⟨I,hI2⟩ : ∃ I,l.findIdx (isD v) = I := ⟨_,rfl⟩
         rw [hI2]
         by_cases hf : I < l.length
         · rw [if_pos hf]
           have hpl : ixG (isD v) l = (I : Nat) := by unfold ixG; rw [hI2,if_pos hf]
           have q1 : decide ((0 : Int) ≤ (I : Int)) = true := decide_eq_true (by omega)
           generalize hQ : l.set I (znl now (mbI l I)) = Q
           have hQl : Q.length = l.length := by rw [← hQ,List.length_set]
           have hk1 : decide (0 + l.length ≤ (Q.map mbA).length) = true := decide_eq_true (by simp; omega)
           have hk2 : List.take l.length (Q.map mbA) = Q.map mbA := List.take_of_length_le (by simp; omega)
           have hIn : ((I : Int) < (l.length : Int)) = True := eq_true (by omega)
           have hI0 : ((0 : Int) ≤ (I : Int)) = True := eq_true (by omega)
           refine ⟨by simp,joPl,by kernel_rfl,?_⟩
           unfold Try.f4
           iterate 12
             try rw [zaa]
             try simp (config := { maxSteps := 3000000 }) only [go_sem,zaa,Nat.reduceAdd,Nat.reduceSub,Nat.reduceMul,Int.reduceToNat,reduceCtorEq,↓reduceIte,Int.reducePow,Nat.reducePow,Int.reduceMod,Nat.reduceLeDiff,Int.reduceLE,Int.reduceNe,Int.reduceEq,Nat.reduceEqDiff,Nat.reduceLT,Nat.reduceBEq,List.map_cons,List.map_nil,List.toList_toArray,Array.toList_append,Option.toArray_some,Option.toArray_none,Bool.and_self,-zaa,ty,zfo,znc,joPl,zoz,chGS,zen,timS,zhd,zhw,chaS,zjq,ixGS,insS,zgm,turS,zay,coeN,hle,hL,hL9,hex,hxd,hv9,zap,zad,zbb,zak,zgp,hch,Int.toNat_natCast,Bool.not_true,Bool.not_false,decide_true,hP1,hP2,true_or,or_true,hI,hT,hpl,q1]
             repeat (refine And.intro (by first | omega | exact zcr | exact ⟨by omega,by omega⟩ | (unfold top; omega)) ?_)
           refine ⟨_,_,Weak.refl _,?_⟩
           iterate 4
             try rw [zaa]
             try simp (config := { maxSteps := 3000000 }) only [go_sem,zaa,Nat.reduceAdd,Nat.reduceSub,Nat.reduceMul,Int.reduceToNat,reduceCtorEq,↓reduceIte,Int.reducePow,Nat.reducePow,Int.reduceMod,Nat.reduceLeDiff,Int.reduceLE,Int.reduceNe,Int.reduceEq,Nat.reduceEqDiff,Nat.reduceLT,Nat.reduceBEq,List.map_cons,List.map_nil,List.toList_toArray,Array.toList_append,Option.toArray_some,Option.toArray_none,Bool.and_self,-zaa,ty,zfo,znc,joPl,zoz,chGS,zen,timS,zhd,zhw,chaS,zjq,ixGS,insS,zgm,turS,zay,coeN,hle,hL,hL9,hex,hxd,hv9,zap,zad,zbb,zak,zgp,hch,Int.toNat_natCast,Bool.not_true,Bool.not_false,decide_true,hP1,hP2,true_or,or_true,hI,hT,hpl,q1,hQ,hIn,hI0]
             repeat (refine And.intro (by first | omega | exact zcr | exact ⟨by omega,by omega⟩ | (unfold top; omega)) ?_)
           refine ⟨_,zgz 204 3 35 (Q.map mbA) rfl (zad _) (by simp [slot,AV.ids,idsL]),?_⟩
           simp only [fgL,fgH,AV.fg,Blk.fg,Nat.reduceBEq,cond_true,cond_false,Bool.and_true,beq_self_eq_true,Bool.true_and,List.drop_zero,zgp,hk1,hk2]
           simp only [go_sem,zaa,Nat.reduceAdd,Nat.reduceSub,Nat.reduceMul,Int.reduceToNat,reduceCtorEq,↓reduceIte,Int.reducePow,Nat.reducePow,Int.reduceMod,Nat.reduceLeDiff,Int.reduceLE,Int.reduceNe,Int.reduceEq,Nat.reduceEqDiff,Nat.reduceLT,Nat.reduceBEq,List.map_cons,List.map_nil,List.toList_toArray,Array.toList_append,Option.toArray_some,Option.toArray_none,Bool.and_self,ty,zfo,jrA,zad,zak]
         · rw [if_neg hf]
           have hpl : ixG (isD v) l = -1 := by unfold ixG; rw [hI2,if_neg hf]
           have q1 : decide ((0 : Int) ≤ -1) = false := rfl
           by_cases h9 : 16 ≤ l.length
           · rw [if_pos h9]
             have q2 : decide ((16 : Int) ≤ (l.length : Int)) = true := decide_eq_true (by omega)
             refine ⟨by simp,joPl,by kernel_rfl,?_⟩
             unfold Try.f4
             iterate 18
               try rw [zaa]
               try simp (config := { maxSteps := 3000000 }) only [go_sem,zaa,Nat.reduceAdd,Nat.reduceSub,Nat.reduceMul,Int.reduceToNat,reduceCtorEq,↓reduceIte,Int.reducePow,Nat.reducePow,Int.reduceMod,Nat.reduceLeDiff,Int.reduceLE,Int.reduceNe,Int.reduceEq,Nat.reduceEqDiff,Nat.reduceLT,Nat.reduceBEq,List.map_cons,List.map_nil,List.toList_toArray,Array.toList_append,Option.toArray_some,Option.toArray_none,Bool.and_self,-zaa,ty,zfo,znc,joPl,zoz,chGS,zen,timS,zhd,zhw,chaS,zjq,ixGS,insS,zgm,turS,zay,coeN,hle,hL,hL9,hex,hxd,hv9,zap,zad,zbb,zak,zgp,hch,Int.toNat_natCast,Bool.not_true,Bool.not_false,decide_true,hP1,hP2,true_or,or_true,hI,hT,hpl,q1,q2]
               repeat (refine And.intro (by first | omega | exact zcr | exact ⟨by omega,by omega⟩ | (unfold top; omega)) ?_)
             try (refine ⟨_,Weak.refl _,?_⟩)
             try simp only [go_sem,zaa,Nat.reduceAdd,Nat.reduceSub,Nat.reduceMul,Int.reduceToNat,reduceCtorEq,↓reduceIte,Int.reducePow,Nat.reducePow,Int.reduceMod,Nat.reduceLeDiff,Int.reduceLE,Int.reduceNe,Int.reduceEq,Nat.reduceEqDiff,Nat.reduceLT,Nat.reduceBEq,List.map_cons,List.map_nil,List.toList_toArray,Array.toList_append,Option.toArray_some,Option.toArray_none,Bool.and_self,ty,zfo,jrA,errJ,List.map_nil]
           · rw [if_neg h9]
             have q2 : decide ((16 : Int) ≤ (l.length : Int)) = false := decide_eq_false (by omega)
             by_cases hg : gn = 1099511627776
             · rw [if_pos hg]
               have q3 : decide (gn = 1099511627776) = true := decide_eq_true hg
               refine ⟨by simp,joPl,by kernel_rfl,?_⟩
               unfold Try.f4
               iterate 20
                 try rw [zaa]
                 try simp (config := { maxSteps := 3000000 }) only [go_sem,zaa,Nat.reduceAdd,Nat.reduceSub,Nat.reduceMul,Int.reduceToNat,reduceCtorEq,↓reduceIte,Int.reducePow,Nat.reducePow,Int.reduceMod,Nat.reduceLeDiff,Int.reduceLE,Int.reduceNe,Int.reduceEq,Nat.reduceEqDiff,Nat.reduceLT,Nat.reduceBEq,List.map_cons,List.map_nil,List.toList_toArray,Array.toList_append,Option.toArray_some,Option.toArray_none,Bool.and_self,-zaa,ty,zfo,znc,joPl,zoz,chGS,zen,timS,zhd,zhw,chaS,zjq,ixGS,insS,zgm,turS,zay,coeN,hle,hL,hL9,hex,hxd,hv9,zap,zad,zbb,zak,zgp,hch,Int.toNat_natCast,Bool.not_true,Bool.not_false,decide_true,hP1,hP2,true_or,or_true,hI,hT,hpl,q1,q2,q3]
                 repeat (refine And.intro (by first | omega | exact zcr | exact ⟨by omega,by omega⟩ | (unfold top; omega)) ?_)
               try (refine ⟨_,Weak.refl _,?_⟩)
               try simp only [go_sem,zaa,Nat.reduceAdd,Nat.reduceSub,Nat.reduceMul,Int.reduceToNat,reduceCtorEq,↓reduceIte,Int.reducePow,Nat.reducePow,Int.reduceMod,Nat.reduceLeDiff,Int.reduceLE,Int.reduceNe,Int.reduceEq,Nat.reduceEqDiff,Nat.reduceLT,Nat.reduceBEq,List.map_cons,List.map_nil,List.toList_toArray,Array.toList_append,Option.toArray_some,Option.toArray_none,Bool.and_self,ty,zfo,jrA,errJ,List.map_nil]
             · rw [if_neg hg]
               have q3 : decide (gn = 1099511627776) = false := decide_eq_false hg
               have hgb : (-4611686018427387904 ≤ gn ∧ gn ≤ 4611686018427387904) := by omega
               cases hz : empP (l.map mbA) with
               | true =>
                 obtain rfl : l = [] := by cases l with | nil => rfl | cons _ _ => cases hz
                 have hx0 : ∃ k : List Mb,([] : List AV) = k.map mbA := ⟨[],rfl⟩
                 have hxd0 : ∃ k : List Mb,([] : List AV) = k.map mbA ∧ ∀ r ∈ k,r.d.length ≤ 9223372036854775807 := ⟨[],rfl,hd⟩
                 have hpp : ixG (zjp v) [] = -1 := rfl
                 have q4 : decide ((0 : Int) ≤ -1) = false := rfl
                 have q5 : decide ((16 : Int) ≤ 0) = false := rfl
                 have q6 : decide ((16 : Int) ≤ ((0 : Nat) : Int)) = false := rfl
                 have hM1 : (insM v now []).map clrM = [⟨v,now,false⟩] := rfl
                 have hmc : ([AV.agg [.str v,.w (.int .i64 now),.w (.bool false)]].map umb) = [⟨v,now,false⟩] := rfl
                 have hxM : ∃ k : List Mb,[AV.agg [.str v,.w (.int .i64 now),.w (.bool false)]] = k.map mbA := ⟨[⟨v,now,false⟩],rfl⟩
                 have hMc : (List.take 1 [(⟨v,now,false⟩ : Mb)]).map clrM ++ List.drop 1 [(⟨v,now,false⟩ : Mb)] = [⟨v,now,false⟩] := rfl
                 have hmz : (if (1 : Nat) = 0 then (0 : Int) else 1) = 1 := rfl
                 have hk1 : decide (0 + 1 ≤ (([⟨v,now,false⟩] : List Mb).map mbA).length) = true := rfl
                 have hk2 : List.take 1 (([⟨v,now,false⟩] : List Mb).map mbA) = ([⟨v,now,false⟩] : List Mb).map mbA := rfl
                 have h00 : ((0 : Nat) : Int) = 0 := rfl
                 have hcm : mbA (clrM ⟨v,now,false⟩) = .agg [.str v,.w (.int .i64 now),.w (.bool false)] := rfl
                 have hk3 : decide (0 + 1 ≤ [AV.agg [.str v,.w (.int .i64 now),.w (.bool false)]].length) = true := rfl
                 have hk4 : List.take 1 [AV.agg [.str v,.w (.int .i64 now),.w (.bool false)]] = [AV.agg [.str v,.w (.int .i64 now),.w (.bool false)]] := rfl
                 rw [hM1]
                 refine ⟨by simp,zoz,by kernel_rfl,?_⟩
                 unfold Try.f4
                 iterate 26
                   try rw [zaa]
                   try simp (config := { maxSteps := 3000000 }) only [go_sem,zaa,Nat.reduceAdd,Nat.reduceSub,Nat.reduceMul,Int.reduceToNat,reduceCtorEq,↓reduceIte,Int.reducePow,Nat.reducePow,Int.reduceMod,Nat.reduceLeDiff,Int.reduceLE,Int.reduceNe,Int.reduceEq,Nat.reduceEqDiff,Nat.reduceLT,Nat.reduceBEq,List.map_cons,List.map_nil,List.toList_toArray,Array.toList_append,Option.toArray_some,Option.toArray_none,Bool.and_self,-zaa,ty,zfo,znc,joPl,zoz,chGS,zen,timS,zhd,zhw,chaS,zjq,ixGS,insS,zgm,turS,zay,coeN,hle,hL,hL9,hex,hxd,hv9,zap,zad,zbb,zak,zgp,hch,Int.toNat_natCast,Bool.not_true,Bool.not_false,decide_true,hP1,hP2,true_or,or_true,hI,hT,hpl,q1,q3,hpp,q4,q5,q6,hx0,hxd0,hmc,hxM,hMc,hmz,empP,h00,hcm,List.map_nil,List.length_nil,Nat.zero_le,cond_true]
                   repeat (refine And.intro (by first | omega | exact zcr | exact ⟨by omega,by omega⟩ | (unfold top; omega)) ?_)
                 refine ⟨fun y e => by rw [e]; rfl,hgb,?_⟩
                 refine ⟨_,zgz 396 3 67 [AV.agg [.str v,.w (.int .i64 now),.w (.bool false)]] rfl rfl (by simp [slot,AV.ids,idsL]),?_⟩
                 simp only [fgL,fgH,AV.fg,Blk.fg,Nat.reduceBEq,cond_true,cond_false,Bool.and_true,beq_self_eq_true,Bool.true_and,List.drop_zero,hk3,hk4]
                 simp only [go_sem,zaa,Nat.reduceAdd,Nat.reduceSub,Nat.reduceMul,Int.reduceToNat,reduceCtorEq,↓reduceIte,Int.reducePow,Nat.reducePow,Int.reduceMod,Nat.reduceLeDiff,Int.reduceLE,Int.reduceNe,Int.reduceEq,Nat.reduceEqDiff,Nat.reduceLT,Nat.reduceBEq,List.map_cons,List.map_nil,List.toList_toArray,Array.toList_append,Option.toArray_some,Option.toArray_none,Bool.and_self,ty,zfo,jrA,mbA,List.map_cons,List.map_nil]
               | false =>
                 have hpos : 0 < l.length := by cases l with | nil => cases hz | cons _ _ => simp
                 have dpos : decide (0 < l.length) = true := decide_eq_true hpos
                 refine ⟨by simp,joPl,by kernel_rfl,?_⟩
                 unfold Try.f4
                 obtain ⟨K,hK⟩ : ∃ K,l.findIdx (zjp v) = K := ⟨_,rfl⟩
                 have hKl : K ≤ l.length := by rw [← hK]; exact List.findIdx_le_length
                 have hins : insL (l.map mbA) l.length K (.agg [.str v,.w (.int .i64 now),.w (.bool false)]) = (insM v now l).map mbA := by
                   have htk : (l.map mbA).take l.length = l.map mbA := List.take_of_length_le (by simp)
                   unfold insL insM
                   rw [hK,htk,List.map_append,List.map_take,List.map_cons,List.map_drop]
                   rfl
                 have hMl : (insM v now l).length = l.length + 1 := by
                   unfold insM
                   simp only [List.length_append,List.length_take,List.length_cons,List.length_drop]
                   omega
                 generalize insM v now l = M at *
                 have hMe : (M.map mbA).length = l.length + 1 := by rw [List.length_map,hMl]
                 have hMc : (M.take (l.length + 1)).map clrM ++ M.drop (l.length + 1) = M.map clrM := by
                   rw [List.take_of_length_le (by omega),List.drop_eq_nil_of_le (by omega),List.append_nil]
                 have hMx : ∃ k : List Mb,M.map mbA = k.map mbA := ⟨M,rfl⟩
                 have hMz : (if l.length + 1 = 0 then (0 : Int) else 1) = 1 := if_neg (by omega)
                 have hM6 : (l.length + 1 ≤ 1000000) = True := eq_true (by omega)
                 have hk1 : decide (0 + (l.length + 1) ≤ ((M.map clrM).map mbA).length) = true := decide_eq_true (by simp; omega)
                 have hk2 : List.take (l.length + 1) ((M.map clrM).map mbA) = (M.map clrM).map mbA := List.take_of_length_le (by simp; omega)
                 have htk : (l.map mbA).take l.length = l.map mbA := List.take_of_length_le (by simp)
                 by_cases hk : K < l.length
                 · have hpp : ixG (zjp v) l = (K : Nat) := by unfold ixG; rw [hK,if_pos hk]
                   have q4 : decide ((0 : Int) ≤ (K : Int)) = true := decide_eq_true (by omega)
                   iterate 26
                     try rw [zaa]
                     try simp (config := { maxSteps := 3000000 }) only [go_sem,zaa,Nat.reduceAdd,Nat.reduceSub,Nat.reduceMul,Int.reduceToNat,reduceCtorEq,↓reduceIte,Int.reducePow,Nat.reducePow,Int.reduceMod,Nat.reduceLeDiff,Int.reduceLE,Int.reduceNe,Int.reduceEq,Nat.reduceEqDiff,Nat.reduceLT,Nat.reduceBEq,List.map_cons,List.map_nil,List.toList_toArray,Array.toList_append,Option.toArray_some,Option.toArray_none,Bool.and_self,-zaa,ty,zfo,znc,joPl,zoz,chGS,zen,timS,zhd,zhw,chaS,zjq,ixGS,insS,zgm,turS,zay,coeN,hle,hL,hL9,hex,hxd,hv9,zap,zad,zbb,zak,zgp,hch,Int.toNat_natCast,Bool.not_true,Bool.not_false,decide_true,hP1,hP2,true_or,or_true,hI,hT,hpl,q1,q2,q3,hz,hpos,dpos,hpp,q4,hins,hMe,hMc,hMx,hMz,hM6,htk,cond_false]
                     repeat (refine And.intro (by first | omega | exact zcr | exact ⟨by omega,by omega⟩ | (unfold top; omega)) ?_)
                   refine ⟨_,zgz 412 3 67 ((M.map clrM).map mbA) rfl (zad _) (by simp [slot,AV.ids,idsL]),?_⟩
                   simp only [fgL,fgH,AV.fg,Blk.fg,Nat.reduceBEq,cond_true,cond_false,Bool.and_true,beq_self_eq_true,Bool.true_and,List.drop_zero,zgp,hk1,hk2]
                   simp only [go_sem,zaa,Nat.reduceAdd,Nat.reduceSub,Nat.reduceMul,Int.reduceToNat,reduceCtorEq,↓reduceIte,Int.reducePow,Nat.reducePow,Int.reduceMod,Nat.reduceLeDiff,Int.reduceLE,Int.reduceNe,Int.reduceEq,Nat.reduceEqDiff,Nat.reduceLT,Nat.reduceBEq,List.map_cons,List.map_nil,List.toList_toArray,Array.toList_append,Option.toArray_some,Option.toArray_none,Bool.and_self,ty,zfo,jrA,zad,zak]
                 · have hpp : ixG (zjp v) l = -1 := by unfold ixG; rw [hK,if_neg hk]
                   have q4 : decide ((0 : Int) ≤ -1) = false := rfl
                   obtain rfl : K = l.length := by omega
                   iterate 26
                     try rw [zaa]
                     try simp (config := { maxSteps := 3000000 }) only [go_sem,zaa,Nat.reduceAdd,Nat.reduceSub,Nat.reduceMul,Int.reduceToNat,reduceCtorEq,↓reduceIte,Int.reducePow,Nat.reducePow,Int.reduceMod,Nat.reduceLeDiff,Int.reduceLE,Int.reduceNe,Int.reduceEq,Nat.reduceEqDiff,Nat.reduceLT,Nat.reduceBEq,List.map_cons,List.map_nil,List.toList_toArray,Array.toList_append,Option.toArray_some,Option.toArray_none,Bool.and_self,-zaa,ty,zfo,znc,joPl,zoz,chGS,zen,timS,zhd,zhw,chaS,zjq,ixGS,insS,zgm,turS,zay,coeN,hle,hL,hL9,hex,hxd,hv9,zap,zad,zbb,zak,zgp,hch,Int.toNat_natCast,Bool.not_true,Bool.not_false,decide_true,hP1,hP2,true_or,or_true,hI,hT,hpl,q1,q2,q3,hz,hpos,dpos,hpp,q4,hins,hMe,hMc,hMx,hMz,hM6,htk,cond_false]
                     repeat (refine And.intro (by first | omega | exact zcr | exact ⟨by omega,by omega⟩ | (unfold top; omega)) ?_)
                   refine ⟨_,zgz 396 3 67 ((M.map clrM).map mbA) rfl (zad _) (by simp [slot,AV.ids,idsL]),?_⟩
                   simp only [fgL,fgH,AV.fg,Blk.fg,Nat.reduceBEq,cond_true,cond_false,Bool.and_true,beq_self_eq_true,Bool.true_and,List.drop_zero,zgp,hk1,hk2]
                   simp only [go_sem,zaa,Nat.reduceAdd,Nat.reduceSub,Nat.reduceMul,Int.reduceToNat,reduceCtorEq,↓reduceIte,Int.reducePow,Nat.reducePow,Int.reduceMod,Nat.reduceLeDiff,Int.reduceLE,Int.reduceNe,Int.reduceEq,Nat.reduceEqDiff,Nat.reduceLT,Nat.reduceBEq,List.map_cons,List.map_nil,List.toList_toArray,Array.toList_append,Option.toArray_some,Option.toArray_none,Bool.and_self,ty,zfo,jrA,zad,zak]
   · have q0 : decide (chG gn ph l = 0) = false := decide_eq_false hch
     rw [if_neg hch]
     have hch : True := trivial
     refine ⟨by simp,joPl,by kernel_rfl,?_⟩
     unfold Try.f4
     iterate 6
       try rw [zaa]
       try simp (config := { maxSteps := 3000000 }) only [go_sem,zaa,Nat.reduceAdd,Nat.reduceSub,Nat.reduceMul,Int.reduceToNat,reduceCtorEq,↓reduceIte,Int.reducePow,Nat.reducePow,Int.reduceMod,Nat.reduceLeDiff,Int.reduceLE,Int.reduceNe,Int.reduceEq,Nat.reduceEqDiff,Nat.reduceLT,Nat.reduceBEq,List.map_cons,List.map_nil,List.toList_toArray,Array.toList_append,Option.toArray_some,Option.toArray_none,Bool.and_self,-zaa,ty,zfo,znc,joPl,zoz,chGS,zen,timS,zhd,zhw,chaS,zjq,ixGS,insS,zgm,turS,zay,coeN,hle,hL,hL9,hex,hxd,hv9,zap,zad,zbb,zak,zgp,hch,Int.toNat_natCast,Bool.not_true,Bool.not_false,decide_true,hP1,hP2,true_or,or_true,q0]
       repeat (refine And.intro (by first | omega | exact zcr | exact ⟨by omega,by omega⟩ | (unfold top; omega)) ?_)
     try (refine ⟨_,Weak.refl _,?_⟩)
     try simp only [go_sem,zaa,Nat.reduceAdd,Nat.reduceSub,Nat.reduceMul,Int.reduceToNat,reduceCtorEq,↓reduceIte,Int.reducePow,Nat.reducePow,Int.reduceMod,Nat.reduceLeDiff,Int.reduceLE,Int.reduceNe,Int.reduceEq,Nat.reduceEqDiff,Nat.reduceLT,Nat.reduceBEq,List.map_cons,List.map_nil,List.toList_toArray,Array.toList_append,Option.toArray_some,Option.toArray_none,Bool.and_self,ty,zfo,jrA,errJ,List.map_nil]
 · exact hp.elim
end
end Go.Proofs.Ytolclgkginfiaaa
namespace Go.Proofs.Ytolclgkginfiaaa
open Ax
section
set_option maxRecDepth 100000
set_option maxHeartbeats 2000000
def zwv : zar
 | [.sg 3 [] true],[] => ⟨True,.sg 3 [] true,[]⟩
 | _,_ => zbq
theorem clo0G_sound : zbn Try.prog 31 zwv := by
 refine zbs (S := noS) (SO := noO) (T := ty) mixed ty_ok zcm zhp Try.func31 (c := Try.f31.body.getD .skip) (by kernel_rfl) (fun xs pins hp _ => ?_)
 unfold zwv at hp ⊢
 split at hp
 · refine ⟨by simp,cloPl0,by kernel_rfl,?_⟩
   unfold Try.f31
   simp only [go_sem,zaa,Nat.reduceAdd,Nat.reduceSub,Nat.reduceMul,Int.reduceToNat,reduceCtorEq,↓reduceIte,Int.reducePow,Nat.reducePow,Int.reduceMod,Nat.reduceLeDiff,Int.reduceLE,Int.reduceNe,Int.reduceEq,Nat.reduceEqDiff,Nat.reduceLT,Nat.reduceBEq,List.map_cons,List.map_nil,List.toList_toArray,Array.toList_append,Option.toArray_some,Option.toArray_none,Bool.and_self,ty,noS,cloPl0,zgg,List.length_nil]
   repeat (refine And.intro (by omega) ?_)
   intro b
   refine ⟨fun hb => ?_,fun hb => ?_⟩
   · refine ⟨_,zia 2 (.sg 3 [] true) (fun w loc v h => znu 3 h),?_⟩
     simp only [go_sem,zaa,Nat.reduceAdd,Nat.reduceSub,Nat.reduceMul,Int.reduceToNat,reduceCtorEq,↓reduceIte,Int.reducePow,Nat.reducePow,Int.reduceMod,Nat.reduceLeDiff,Int.reduceLE,Int.reduceNe,Int.reduceEq,Nat.reduceEqDiff,Nat.reduceLT,Nat.reduceBEq,List.map_cons,List.map_nil,List.toList_toArray,Array.toList_append,Option.toArray_some,Option.toArray_none,Bool.and_self,ty,noS]
   · refine ⟨_,zia 2 (.sg 3 [] true) (fun w loc v h => znu 3 h),?_⟩
     simp only [go_sem,zaa,Nat.reduceAdd,Nat.reduceSub,Nat.reduceMul,Int.reduceToNat,reduceCtorEq,↓reduceIte,Int.reducePow,Nat.reducePow,Int.reduceMod,Nat.reduceLeDiff,Int.reduceLE,Int.reduceNe,Int.reduceEq,Nat.reduceEqDiff,Nat.reduceLT,Nat.reduceBEq,List.map_cons,List.map_nil,List.toList_toArray,Array.toList_append,Option.toArray_some,Option.toArray_none,Bool.and_self,ty,noS]
 · exact hp.elim
def zpt : zar
 | [.sg 1 [.str a,.str b] f],[] => ⟨True,.ms 0 1 0 2,[.g 1 [.str a,.str b]]⟩
 | _,_ => zbq
theorem clo2s_sound : zbn Try.prog 46 zpt := by
 refine zbs (S := noS) (SO := noO) (T := ty) mixed ty_ok zcm zhp Try.func46 (c := Try.f46.body.getD .skip) (by kernel_rfl) (fun xs pins hp _ => ?_)
 unfold zpt at hp ⊢
 split at hp
 · rename_i a b f _
   refine ⟨by simp,cloPl,by kernel_rfl,?_⟩
   unfold Try.f46
   have h2 : ([AV.str a,AV.str b] : List AV).length = 2 := rfl
   have htop : 2 ≤ top := by unfold top; omega
   simp only [go_sem,zaa,Nat.reduceAdd,Nat.reduceSub,Nat.reduceMul,Int.reduceToNat,reduceCtorEq,↓reduceIte,Int.reducePow,Nat.reducePow,Int.reduceMod,Nat.reduceLeDiff,Int.reduceLE,Int.reduceNe,Int.reduceEq,Nat.reduceEqDiff,Nat.reduceLT,Nat.reduceBEq,List.map_cons,List.map_nil,List.toList_toArray,Array.toList_append,Option.toArray_some,Option.toArray_none,Bool.and_self,ty,noS,cloPl,zgg,h2]
   repeat (refine And.intro (by omega) ?_)
   intro b hb
   obtain rfl : b = false := by cases b with | false => rfl | true => exact absurd (hb rfl) (by decide)
   simp only [go_sem,zaa,Nat.reduceAdd,Nat.reduceSub,Nat.reduceMul,Int.reduceToNat,reduceCtorEq,↓reduceIte,Int.reducePow,Nat.reducePow,Int.reduceMod,Nat.reduceLeDiff,Int.reduceLE,Int.reduceNe,Int.reduceEq,Nat.reduceEqDiff,Nat.reduceLT,Nat.reduceBEq,List.map_cons,List.map_nil,List.toList_toArray,Array.toList_append,Option.toArray_some,Option.toArray_none,Bool.and_self,ty,noS,cloPl,zgg,h2,cond_false]
   repeat (refine And.intro (by first | exact htop | omega) ?_)
   refine ⟨_,Weak.refl _,?_⟩
   simp only [go_sem,zaa,Nat.reduceAdd,Nat.reduceSub,Nat.reduceMul,Int.reduceToNat,reduceCtorEq,↓reduceIte,Int.reducePow,Nat.reducePow,Int.reduceMod,Nat.reduceLeDiff,Int.reduceLE,Int.reduceNe,Int.reduceEq,Nat.reduceEqDiff,Nat.reduceLT,Nat.reduceBEq,List.map_cons,List.map_nil,List.toList_toArray,Array.toList_append,Option.toArray_some,Option.toArray_none,Bool.and_self,ty,noS,h2,cond_false]
 · exact hp.elim
end
def Sb20 (f : FuncId) : Option zar :=
 match f with
 | 46 => some zpt
 | 31 => some zwv
 | _ => none
theorem Sb20_ok : Fns Try.prog Sb20 := by
 intro f s h
 unfold Sb20 at h
 split at h
 · injection h with h; subst h; exact ⟨⟨_,Try.func46,by kernel_rfl,by kernel_rfl⟩,clo2s_sound⟩
 · injection h with h; subst h; exact ⟨⟨_,Try.func31,by kernel_rfl,by kernel_rfl⟩,clo0G_sound⟩
 · cases h
noncomputable def hCl200 (A : List AV) (lk : Nat → Option Blk) (nm : Nat) : Option (AV × Us) :=
 match A with
 | [.sg s [] f] => bif Nat.beq s 3 && f then some (.sg 3 [] true,[]) else none
 | _ => none
noncomputable def hSt20 (A : List AV) (lk : Nat → Option Blk) (nm : Nat) : Option (AV × Us) :=
 match A with
 | [.sg s [.str a,.str b] f] => bif Nat.beq s 1 then some (.ms nm 1 0 2,[(nm,some (.g 1 [.str a,.str b]))]) else none
 | _ => none
def So20 (f : FuncId) : Option zar :=
 match f with
 | 39 => some (delS 3 zaI20)
 | _ => none
theorem So20_ok : FnsO Try.prog So20 := by
 intro f s h
 unfold So20 at h
 split at h
 · injection h with h; subst h; exact ⟨⟨_,Try.func39,by kernel_rfl,by kernel_rfl⟩,ztx⟩
 · cases h
noncomputable def hDe20 (A : List AV) (lk : Nat → Option Blk) (nm : Nat) : Option (AV × Us) :=
 match A with
 | [.ms id s off len,.w (.int .i64 (.ofNat i)),.w (.int .i64 (.ofNat j))] => bif Nat.beq s 3 && (Nat.beq off 0 && (Nat.beq len 2 && (Nat.beq i 0 && Nat.beq j 1))) then (match lk id with
     | some (.g t [x,y]) => bif Nat.beq t 3 && (x.closed && y.closed) then some (.ms id 3 0 1,[(id,some (.g 3 [y,zaI20]))]) else none
     | _ => none) else none
 | _ => none
noncomputable def B20 : zgx := fun g => bif Nat.beq g 39 then some hDe20 else bif Nat.beq g 46 then some hSt20 else bif Nat.beq g 31 then some hCl200 else none
theorem B20_ok : zge Try.prog Sb20 B20 := by
 intro g h e
 unfold B20 at e
 cases hd0 : Nat.beq g 39 with
 | true =>
   rw [hd0,cond_true] at e
   injection e with e
   subst e
   have hg := Nat.eq_of_beq_eq_true hd0
   subst hg
   refine .inr ⟨So20,So20_ok,fun A H lk nm hl x us hx => ?_⟩
   unfold hDe20 at hx
   split at hx
   · rename_i id s off len i j
     cases hc : (Nat.beq s 3 && (Nat.beq off 0 && (Nat.beq len 2 && (Nat.beq i 0 && Nat.beq j 1)))) with
     | false => rw [hc] at hx; cases hx
     | true =>
       rw [hc,cond_true] at hx
       simp only [Bool.and_eq_true] at hc
       obtain ⟨a1,a2,a3,a4,a5⟩ := hc
       have a1 := Nat.eq_of_beq_eq_true a1
       have a2 := Nat.eq_of_beq_eq_true a2
       have a3 := Nat.eq_of_beq_eq_true a3
       have a4 := Nat.eq_of_beq_eq_true a4
       have a5 := Nat.eq_of_beq_eq_true a5
       subst a1 a2 a3 a4 a5
       split at hx
       · rename_i t x0 y0 hk
         cases hc : (Nat.beq t 3 && (x0.closed && y0.closed)) with
         | false => rw [hc] at hx; cases hx
         | true =>
           rw [hc,cond_true] at hx
           simp only [Bool.and_eq_true] at hc
           obtain ⟨b1,b2,b3⟩ := hc
           have b1 := Nat.eq_of_beq_eq_true b1
           subst b1
           injection hx with hx
           injection hx with hx1 hx2
           subst hx1 hx2
           have hH : Ax.look H id = some (.g 3 [x0,y0]) := by rw [hl]; exact hk
           have hi := zmz x0 b2
           have hi2 := zmz y0 b3
           have hS : So20 39 = some (delS 3 zaI20) := rfl
           have hk : (Blk.g 3 [x0,y0]).closed = true := by simp [Blk.closed,closedL,b2,b3]
           have hr : reach H 12 [] [id] = [id] := by simp [reach,hH,Blk.idsB,hk]
           have hA : idsL [AV.ms id 3 0 2,AV.w (Value.int IntKind.i64 (Int.ofNat 0)),AV.w (Value.int IntKind.i64 (Int.ofNat 1))] = [id] := rfl
           unfold aOpen
           rw [hS,hA,hr]
           have hp : pinsR H (idxOf [id]) [id] = [.g 3 [x0,y0]] := by simp [pinsR,hH,Blk.renB,hk]
           have hn : renL (idxOf [id]) [AV.ms id 3 0 2,AV.w (Value.int IntKind.i64 (Int.ofNat 0)),AV.w (Value.int IntKind.i64 (Int.ofNat 1))] = [AV.ms 0 3 0 2,AV.w (Value.int IntKind.i64 0),AV.w (Value.int IntKind.i64 1)] := by simp [renL,AV.ren,idxOf,idx]
           have hd : delL [x0,y0] 2 (Int.toNat 0) zaI20 = [y0,zaI20] := rfl
           have hz : zaI20.closed = true := rfl
           have hzi : zaI20.ids = [] := rfl
           have hzr : ∀ g,zaI20.ren g = zaI20 := fun g => rfl
           simp only [hp,hn,delS,openOut,hd]
           refine ⟨⟨⟨by simp [nodup],?_,by simp [allIn,idsL,AV.ids],?_⟩,by simp,by simp,by simp⟩,rfl,fun k => ?_⟩
           · simp [walk,sidsLH,AV.sidsH,hH]
           · simp [pinsIn,hH,allIn,Blk.idsB,hk]
           · simp [backO,Blk.isGone,gOf,Blk.renB,Blk.closed,closedL,upd,zat,hl,b3,hz,eq_comm]
       · cases hx
   · cases hx
 | false =>
   rw [hd0,cond_false] at e
   cases hs0 : Nat.beq g 46 with
   | true =>
     rw [hs0,cond_true] at e
     injection e with e
     subst e
     have hg := Nat.eq_of_beq_eq_true hs0
     subst hg
     refine .inl fun A H lk nm hl x us hx => ?_
     unfold hSt20 at hx
     split at hx
     · rename_i s a b f
       cases hc : Nat.beq s 1 with
       | false => rw [hc] at hx; cases hx
       | true =>
         rw [hc,cond_true] at hx
         have b1 := Nat.eq_of_beq_eq_true hc
         subst b1
         injection hx with hx
         injection hx with hx1 hx2
         subst hx1 hx2
         have hS : Sb20 46 = some zpt := rfl
         unfold aUser
         rw [hS]
         refine ⟨?_,?_,fun k => ?_⟩
         · simp [callOut,rootsL,AV.roots,lentIdsL,AV.lentIds,pinsOf,nodup,lendL,lend,zpt,closedB,Blk.closed,closedL,AV.closed]
         · simp [callOut,rootsL,AV.roots,lentIdsL,AV.lentIds,pinsOf,nodup,lendL,lend,zpt,AV.ren,gOf]
         · simp [callOut,rootsL,AV.roots,lentIdsL,AV.lentIds,pinsOf,nodup,lendL,lend,zpt,back,zhh,dropAll,closedB,upd,hl,gOf,zat,eq_comm (a := nm) (b := k)]
     · cases hx
   | false =>
     rw [hs0,cond_false] at e
     cases h0 : Nat.beq g 31 with
     | true =>
       rw [h0,cond_true] at e
       injection e with e
       subst e
       have hg := Nat.eq_of_beq_eq_true h0
       subst hg
       refine .inl fun A H lk nm hl x us hx => ?_
       unfold hCl200 at hx
       split at hx
       · rename_i s f
         cases hc : (Nat.beq s 3 && f) with
         | false => rw [hc] at hx; cases hx
         | true =>
           rw [hc,cond_true] at hx
           simp only [Bool.and_eq_true] at hc
           obtain ⟨b1,rfl⟩ := hc
           have b1 := Nat.eq_of_beq_eq_true b1
           subst b1
           injection hx with hx
           injection hx with hx1 hx2
           subst hx1 hx2
           have hS : Sb20 31 = some zwv := rfl
           unfold aUser
           rw [hS]
           simp [callOut,rootsL,AV.roots,lentIdsL,AV.lentIds,pinsOf,nodup,lendL,lend,zwv,AV.ren,back,zhh,dropAll,closedB,upd,hl]
       · cases hx
     | false =>
       rw [h0,cond_false] at e
       cases e
end Go.Proofs.Ytolclgkginfiaaa
namespace Go.Proofs.Ytolclgkginfiaaa
open Ax
section
set_option maxRecDepth 100000
theorem aw20_sound : zbn Try.prog 7 yesS := yes_with Sb20_ok B20_ok (by kernel_rfl)
end
end Go.Proofs.Ytolclgkginfiaaa
namespace Go.Proofs.Ytolclgkginfiaaa
open Ax
def strB : AV → List UInt8
 | .str bs => bs
 | _ => []
theorem zlk (ss : List (List UInt8)) : (ss.map AV.str).map strB = ss := by
 rw [List.map_map]; exact (List.map_congr_left fun x _ => rfl).trans (List.map_id ss)
def zhv (ss : List (List UInt8)) : List (List UInt8) := ss.mergeSort fun x y => decide (x ≤ y)
theorem zie (ss : List (List UInt8)) : (zhv ss).length = ss.length := List.length_mergeSort ..
def zof : zar
 | [.ms 0 1 0 n],[.g 1 xs] => ⟨n = xs.length ∧ n < 4611686018427387904 ∧ ∃ ss : List (List UInt8),xs = ss.map AV.str,.tup [],[.g 1 ((zhv (xs.map strB)).map AV.str)]⟩
 | [.sg s [] fl],[] => ⟨True,.tup [],[]⟩
 | _,_ => zbq
theorem flat_str (ss : List (List UInt8)) : (ss.map AV.str).flatMap AV.leaves = ss.map AV.str := by
 induction ss with
 | nil => rfl
 | cons s r ih => rw [List.map_cons,List.flatMap_cons,ih]; rfl
theorem told_sort {P : Program} {f : FuncId}
   (hC : ∀ (blk off cap : Nat) (ss : List (List UInt8)) (w : World),Go.Sort.Holds Go.Proofs.encStr w blk off ss.toArray → blk < w.heap.size → ss.length < 4611686018427387904 →
     Calls P f #[.slice (some ⟨blk,off,none⟩) ss.length cap] w fun e w' =>
       e = .returned (.tuple #[]) ∧ ∃ n os,w' = Go.Sort.grow (Go.Sort.putRow Go.Proofs.encStr (Go.Sort.ahead w n) blk off (zhv ss).toArray) os)
   (hN : ∀ (p : Option Addr) (cap : Nat) (w : World),Calls P f #[.slice p 0 cap] w fun e w' => e = .returned (.tuple #[]) ∧ w' = w) : zbn P f zof := by
 intro xs pins hp hcl w bad pb vs hpb hnd hbad hpins hlen hxs
 unfold zof at hp ⊢
 split at hp
 · rename_i n ys
   obtain ⟨rfl,hn,ss,rfl⟩ := hp
   rw [zlk]
   obtain ⟨b,rfl⟩ : ∃ b,pb = [b] := by
     cases pb with
     | nil => simp at hpb
     | cons b r => cases r with
       | nil => exact ⟨b,rfl⟩
       | cons c r => simp at hpb
   obtain ⟨v,rfl⟩ : ∃ v,vs = [v] := by
     cases vs with
     | nil => simp at hlen
     | cons v r => cases r with
       | nil => exact ⟨v,rfl⟩
       | cons c r => simp at hlen
   have hv : R w (zaq [b] bad) (.ms 0 1 0 (ss.map AV.str).length) v := hxs 0 (by simp) (by simp)
   have hm : (zaq [b] bad).m 0 = .here b := rfl
   cases hv with
   | ms _ _ _ _ _ h =>
     unfold Owns at h
     rw [hm] at h
     simp only at h
     obtain ⟨o,cap,cur,e,fz,rfl,ho,hcur,hsz,hle,hcap⟩ := h
     have hL := (hpins 0 (by simp) (by simp)).2
     obtain ⟨cur',e',fz',hcur',hfz,hone,hfl,hcells⟩ := hL.lies rfl
     have hb0 : ([b] : List Nat)[0] = b := rfl
     rw [hb0,hcur] at hcur'
     injection hcur' with hcur'
     injection hcur' with h1 h2 h3
     subst h1 h2 h3
     have hflat : (Blk.g 1 (ss.map AV.str)).flat = ss.map AV.str := flat_str ss
     have hbs : b < w.heap.size := by
       rcases Nat.lt_or_ge b w.heap.size with h | h
       · exact h
       · rw [Array.getElem?_eq_none h] at hcur; cases hcur
     rw [List.length_map] at hle hn
     have hlenc : ss.length ≤ cur.size := by
       have := hfl
       rw [show ([Blk.g 1 (ss.map AV.str)] : List Blk)[0] = Blk.g 1 (ss.map AV.str) from rfl,hflat,List.length_map] at this
       exact this
     have ho0 : 0 < ss.length → o = 0 := fun h => by have := ho (by omega); omega
     have hcj : ∀ j (hj : j < ss.length),cur[j]'(by omega) = Value.string ⟨ss[j].toArray⟩ := by
       intro j hj
       have hx := (hcells j (by show j < (Blk.g 1 (ss.map AV.str)).flat.length; rw [hflat]; simpa using hj) (by omega)).2
       have hx' : (Blk.g 1 (ss.map AV.str)).flat[j]'(by rw [hflat]; simpa using hj) = AV.str ss[j] := by
         simp only [hflat,List.getElem_map]
       rw [show (([Blk.g 1 (ss.map AV.str)] : List Blk)[0]).flat[j]'(by show j < (Blk.g 1 (ss.map AV.str)).flat.length; rw [hflat]; simpa using hj) = AV.str ss[j] from hx'] at hx
       generalize cur[j]'(by omega) = u at hx
       cases hx with
       | str _ => rfl
     have hH : Go.Sort.Holds Go.Proofs.encStr w b o ss.toArray := by
       intro j hj
       have hj : j < ss.length := by simpa using hj
       have h0 := ho0 (by omega)
       subst h0
       have hjc : j < cur.size := by omega
       refine ⟨?_,?_⟩
       · simp only [World.cell?,hcur,Nat.zero_add,Array.getElem?_eq_getElem hjc]
         rw [hcj j hj]
         simp [hj]
       · have := zkq hfz j hjc
         simp only [World.frozen?,hcur,Nat.zero_add]
         simpa using this
     have hc := hC b o cap ss w hH hbs hn
     rw [List.length_map]
     refine Calls.mono hc ?_
     rintro e1 w' ⟨rfl,k,os,rfl⟩
     refine ⟨_,zaq [b] bad,rfl,?_⟩
     have hhp : (Go.Sort.grow (Go.Sort.putRow Go.Proofs.encStr (Go.Sort.ahead w k) b o (zhv ss).toArray) os).heap[b]? = some (.cells (Go.Sort.putCells Go.Proofs.encStr o (zhv ss).toArray cur) e fz) := by
       rw [Go.Sort.heap_grow_old _ _ (by simp [Go.Sort.putRow,Go.Sort.mapBlock,Go.Sort.ahead]; exact hbs)]
       simp [Go.Sort.putRow,Go.Sort.mapBlock,Go.Sort.ahead,Array.getElem?_modify,hcur,Go.Sort.onCells]
     obtain ⟨D,hD⟩ : ∃ D,(zhv ss).toArray = D := ⟨_,rfl⟩
     have hDs : D.size = ss.length := by rw [← hD]; simp [zie]
     rw [hD] at hhp ⊢
     obtain ⟨cu,hcu⟩ : ∃ cu,Go.Sort.putCells Go.Proofs.encStr o D cur = cu := ⟨_,rfl⟩
     have hcs : cu.size = cur.size := by rw [← hcu]; simp [Go.Sort.putCells]
     have hget : ∀ (j : Nat) (hj : j < cu.size),cu[j] = if o ≤ j ∧ j < o + D.size then Go.Proofs.encStr D[j - o]! else cur[j]'(by omega) := by
       intro j hj
       subst hcu
       simp [Go.Sort.putCells]
     rw [hcu] at hhp
     have hflat2 : (Blk.g 1 ((zhv ss).map AV.str)).flat = (zhv ss).map AV.str := flat_str _
     refine ⟨R.tup [] [] rfl (by simp),rfl,?_,?_,?_,?_,?_,?_⟩
     · intro k' hk'
       have hk0 : k' = 0 := by simp at hk'; omega
       subst hk0
       refine ⟨?_,by rw [hm]; simp,by rw [hm]; simp⟩
       unfold BlkR
       rw [hm]
       refine ⟨⟨by decide,?_⟩,Lies.mkC ⟨cu,e,fz,hhp,by rw [hcs]; exact hfz,?_,?_,?_⟩⟩
       · intro x hx
         obtain ⟨y,_,rfl⟩ := List.mem_map.1 hx
         rfl
       · intro j hj
         rw [hget j hj]
         split
         · rfl
         · exact hone j (by omega)
       · show (Blk.g 1 ((zhv ss).map AV.str)).flat.length ≤ cu.size
         rw [hflat2,List.length_map,zie,hcs]; exact hlenc
       · intro j hj hj'
         have hjl : j < (zhv ss).length := by
           have : j < (Blk.g 1 ((zhv ss).map AV.str)).flat.length := hj
           rw [hflat2,List.length_map] at this; exact this
         have hjs : j < ss.length := by rw [← zie ss]; exact hjl
         have h0 := ho0 (by omega)
         subst h0
         have hx' : (Blk.g 1 ((zhv ss).map AV.str)).flat[j]'hj = AV.str (zhv ss)[j] := by
           simp only [hflat2,List.getElem_map]
         show (Blk.g 1 ((zhv ss).map AV.str)).flat[j].leaf = true ∧ R _ _ ((Blk.g 1 ((zhv ss).map AV.str)).flat[j]) cu[j]
         rw [hx',hget j hj',if_pos ⟨Nat.zero_le _,by omega⟩]
         refine ⟨rfl,?_⟩
         have hDj : D[j - 0]! = (zhv ss)[j] := by
           subst hD
           simp [hjl]
         rw [hDj]
         exact R.str _
     · intro k' hk'
       have hk0 : k' = 0 := by simp at hk'; omega
       subst hk0; rfl
     · intro k' b' h1 h2
       have h1 : 1 ≤ k' := h1
       have h3 : (zaq [b] bad).m k' = .free := by
         show (match ([b] : List Nat)[k']? with | some b => L.here b | none => L.free) = _
         rw [List.getElem?_eq_none (by simpa using h1)]
       rw [h3] at h2; cases h2
     · intro k' h1
       have h1 : 1 ≤ k' := h1
       show (match ([b] : List Nat)[k']? with | some b => L.here b | none => L.free) = _
       rw [List.getElem?_eq_none (by simpa using h1)]
     · intro i j b' h1 h2
       obtain ⟨g1,_⟩ := zca h1
       obtain ⟨g2,_⟩ := zca h2
       simp at g1 g2
       omega
     · refine ⟨rfl,rfl,rfl,?_,?_,?_⟩
       · simp [Go.Sort.grow,Go.Sort.putRow,Go.Sort.mapBlock,Go.Sort.ahead]
       · intro b' hb' hne
         have hne : b' ≠ b := by simpa using hne
         rw [Go.Sort.heap_grow_old _ _ (by simp [Go.Sort.putRow,Go.Sort.mapBlock,Go.Sort.ahead]; exact hb')]
         simp [Go.Sort.putRow,Go.Sort.mapBlock,Go.Sort.ahead,Array.getElem?_modify]
         intro h; exact (hne h.symm).elim
       · intro b' c' e' f' hE hc'
         have hE : b' = b := by simpa using hE
         subst hE
         rw [hcur] at hc'
         injection hc' with hc'
         injection hc' with h1 h2 h3
         subst h1 h2 h3
         exact ⟨cu,fz,hhp,hcs⟩
 · rename_i s fl
   obtain rfl : pb = [] := by cases pb with
     | nil => rfl
     | cons b r => simp at hpb
   obtain ⟨v,rfl⟩ : ∃ v,vs = [v] := by
     cases vs with
     | nil => simp at hlen
     | cons v r => cases r with
       | nil => exact ⟨v,rfl⟩
       | cons c r => simp at hlen
   have hv : R w (zaq [] bad) (.sg s [] fl) v := hxs 0 (by simp) (by simp)
   cases hv with
   | sg _ _ _ a cap cs hd hs hc hl hx h =>
     refine Calls.mono (hN a cap w) ?_
     rintro e1 w' ⟨rfl,rfl⟩
     refine ⟨_,zaq [] bad,rfl,?_⟩
     have hf : ∀ k,(zaq [] bad).m k = .free := fun k => by
       show (match ([] : List Nat)[k]? with | some b => L.here b | none => L.free) = _
       rw [List.getElem?_eq_none (by simp)]
     refine ⟨R.tup [] [] rfl (by simp),rfl,?_,?_,?_,fun k _ => hf k,?_,?_⟩
     · intro k hk; simp at hk
     · intro k hk; simp at hk
     · intro k b' _ h2; rw [hf k] at h2; cases h2
     · intro i j b' h1 _; rw [hf i] at h1; cases h1
     · exact ⟨rfl,rfl,rfl,Nat.le_refl _,fun _ _ _ => rfl,fun b' c' e' f' hE _ => by simp at hE⟩
 · exact hp.elim
end Go.Proofs.Ytolclgkginfiaaa
namespace Go.Proofs.Ytolclgkginfiaaa
open Go.Shelf
open Ax
def sortSR : Go.Shelf.Ren := ⟨fun | 54 => 47 | 64 => 53 | 65 => 52 | 78 => 62 | 79 => 63 | 80 => 54 | 81 => 55 | 82 => 56 | 83 => 57 | 84 => 58 | 85 => 59 | 61 => 44 | 86 => 60 | 87 => 61 | 93 => 64 | 89 => 65 | 90 => 66 | 94 => 67 | 95 => 68 | 69 => 51 | 97 => 69 | n => n,fun | 25 => 30 | 26 => 9 | 3 => 3 | 51 => 71 | 0 => 0 | 67 => 86 | 69 => 88 | 4 => 4 | 61 => 80 | 60 => 79 | 44 => 64 | 5 => 5 | 9 => 9 | 75 => 89 | 79 => 93 | 83 => 95 | 84 => 96 | n => n,fun | n => n⟩
theorem sortSL : Go.Proofs.SlLaysN.n54 Try.prog sortSR := {
 mixed := by kernel_rfl
 f54 := ⟨Try.f47.name,by decide,Try.func47.trans (congrArg some (by kernel_rfl))⟩
 f61 := ⟨Try.f44.name,by decide,Try.func44.trans (congrArg some (by kernel_rfl))⟩
 f64 := Try.func53.trans (congrArg some (by kernel_rfl))
 f65 := ⟨Try.f52.name,by decide,Try.func52.trans (congrArg some (by kernel_rfl))⟩
 f69 := ⟨Try.f51.name,by decide,Try.func51.trans (congrArg some (by kernel_rfl))⟩
 f78 := Try.func62.trans (congrArg some (by kernel_rfl))
 f79 := Try.func63.trans (congrArg some (by kernel_rfl))
 f80 := ⟨Try.f54.name,by decide,Try.func54.trans (congrArg some (by kernel_rfl))⟩
 f81 := ⟨Try.f55.name,by decide,Try.func55.trans (congrArg some (by kernel_rfl))⟩
 f82 := ⟨Try.f56.name,by decide,Try.func56.trans (congrArg some (by kernel_rfl))⟩
 f83 := ⟨Try.f57.name,by decide,Try.func57.trans (congrArg some (by kernel_rfl))⟩
 f84 := ⟨Try.f58.name,by decide,Try.func58.trans (congrArg some (by kernel_rfl))⟩
 f85 := ⟨Try.f59.name,by decide,Try.func59.trans (congrArg some (by kernel_rfl))⟩
 f86 := ⟨Try.f60.name,by decide,Try.func60.trans (congrArg some (by kernel_rfl))⟩
 f87 := ⟨Try.f61.name,by decide,Try.func61.trans (congrArg some (by kernel_rfl))⟩
 f89 := Try.func65.trans (congrArg some (by kernel_rfl))
 f90 := Try.func66.trans (congrArg some (by kernel_rfl))
 f93 := ⟨Try.f64.name,by decide,Try.func64.trans (congrArg some (by kernel_rfl))⟩
 f94 := ⟨Try.f67.name,by decide,Try.func67.trans (congrArg some (by kernel_rfl))⟩
 f95 := ⟨Try.f68.name,by decide,Try.func68.trans (congrArg some (by kernel_rfl))⟩
 f97 := ⟨Try.f69.name,by decide,Try.func69.trans (congrArg some (by kernel_rfl))⟩
 t0 := Try.underlying0
 a0 := Try.isAgg0
 z0 := Try.sizeOf0
 v0 := Try.zeroValue0
 t3 := Try.underlying3
 a3 := Try.isAgg3
 z3 := Try.sizeOf3
 v3 := Try.zeroValue3
 t4 := Try.underlying4
 a4 := Try.isAgg4
 z4 := Try.sizeOf4
 v4 := Try.zeroValue4
 t5 := Try.underlying5
 a5 := Try.isAgg5
 z5 := Try.sizeOf5
 v5 := Try.zeroValue5
 t9 := Try.underlying9
 a9 := Try.isAgg9
 z9 := Try.sizeOf9
 v9 := Try.zeroValue9
 t25 := Try.underlying30
 a25 := Try.isAgg30
 z25 := Try.sizeOf30
 v25 := Try.zeroValue30
 t26 := Try.underlying9
 a26 := Try.isAgg9
 z26 := Try.sizeOf9
 v26 := Try.zeroValue9
 t44 := Try.underlying64
 a44 := Try.isAgg64
 z44 := Try.sizeOf64
 v44 := Try.zeroValue64
 t51 := Try.underlying71
 a51 := Try.isAgg71
 z51 := Try.sizeOf71
 v51 := Try.zeroValue71
 t60 := Try.underlying79
 a60 := Try.isAgg79
 z60 := Try.sizeOf79
 v60 := Try.zeroValue79
 t61 := Try.underlying80
 a61 := Try.isAgg80
 z61 := Try.sizeOf80
 v61 := Try.zeroValue80
 t67 := Try.underlying86
 a67 := Try.isAgg86
 z67 := Try.sizeOf86
 v67 := Try.zeroValue86
 t69 := Try.underlying88
 a69 := Try.isAgg88
 z69 := Try.sizeOf88
 v69 := Try.zeroValue88
 t75 := Try.underlying89
 a75 := Try.isAgg89
 z75 := Try.sizeOf89
 v75 := Try.zeroValue89
 t79 := Try.underlying93
 a79 := Try.isAgg93
 z79 := Try.sizeOf93
 v79 := Try.zeroValue93
 t83 := Try.underlying95
 a83 := Try.isAgg95
 z83 := Try.sizeOf95
 v83 := Try.zeroValue95
 t84 := Try.underlying96
 a84 := Try.isAgg96
 z84 := Try.sizeOf96
 v84 := Try.zeroValue96 }
theorem sortS_sound : zbn Try.prog 47 zof :=
 told_sort (fun blk off cap ss w hH hb hs => AnyG.slices_Sort_string sortSL blk off cap ss w hH hb hs) (fun p cap w => AnyG.slices_Sort_string_none sortSL p cap w)
theorem sound_toO {P : Program} {f : FuncId} {spec : zar} (h : zbn P f spec) (hc : ∀ xs pins,(spec xs pins).p → closedB pins = true) : zdb P f spec := by
 intro xs pins hp w bad pb vs h1 h2 h3 h4 h5 h6
 refine (h xs pins hp (hc xs pins hp) w bad pb vs h1 h2 h3 h4 h5 h6).mono ?_
 rintro e w' ⟨v,loc',he,hg⟩
 exact ⟨v,loc',he,hg.r,hg.bad,fun k hk => .inr (hg.bl k hk),fun k hk => .inl (hg.old k hk),fun k b hk hb => ⟨.inl (hg.new k b hk hb).1,(hg.new k b hk hb).2⟩,hg.none,hg.inj,hg.fram⟩
theorem zhj (l : List (List UInt8)) : closedL (l.map AV.str) = true := by
 induction l with
 | nil => rfl
 | cons x r ih => simp only [List.map_cons,closedL,AV.closed,ih,Bool.and_self]
theorem sortO_sound : zdb Try.prog 47 zof := by
 refine sound_toO sortS_sound fun xs pins hp => ?_
 unfold zof at hp
 split at hp
 · obtain ⟨_,_,ss,rfl⟩ := hp
   simp only [closedB,Blk.closed,zhj,Bool.and_self]
 · rfl
 · exact hp.elim
end Go.Proofs.Ytolclgkginfiaaa
namespace Go.Proofs.Ytolclgkginfiaaa
open Ax
theorem zqy : ∀ (x y : List UInt8),Op.bytesLess x y = decide (x < y)
 | [],[] => by simp [Op.bytesLess]
 | _ :: _,[] => by simp [Op.bytesLess]
 | [],_ :: _ => by simp [Op.bytesLess]
 | a :: x,b :: y => by
   rw [Op.bytesLess,zqy x y]
   by_cases h : a < b
   · simp [h,List.cons_lt_cons_iff]
   · by_cases e : a = b <;> simp [h,e,List.cons_lt_cons_iff]
def naT (k x : List UInt8) : Bool := !Op.bytesLess x k
def plT (k : List UInt8) (l : List (List UInt8)) : Nat := l.findIdx (naT k)
def rowT (k : List UInt8) (l : List (List UInt8)) : List UInt8 := l.getD (plT k l) []
def thT (k : List UInt8) (l : List (List UInt8)) : Bool := decide (plT k l < l.length) && decide (rowT k l = k)
def srtT (l : List (List UInt8)) : Prop := l.Pairwise (· < ·)
theorem take_lt {k : List UInt8} {l : List (List UInt8)} : ∀ x ∈ l.take (plT k l),x < k := by
 intro x hx
 obtain ⟨i,hi,rfl⟩ := List.mem_take_iff_getElem.1 hx
 have := List.not_of_lt_findIdx (p := naT k) (xs := l) (i := i) (by unfold plT at hi; omega)
 unfold naT at this
 rw [zqy] at this
 simpa using this
theorem row_ge {k : List UInt8} {l : List (List UInt8)} (h : plT k l < l.length) : ¬ l[plT k l] < k := by
 have h2 : naT k l[plT k l] = true := List.findIdx_getElem (w := h)
 unfold naT at h2
 rw [zqy] at h2
 simpa using h2
theorem rowT_at {k : List UInt8} {l : List (List UInt8)} (h : plT k l < l.length) : rowT k l = l[plT k l] := by
 unfold rowT; rw [List.getD_eq_getElem?_getD,List.getElem?_eq_getElem h]; rfl
theorem thT_mem {k : List UInt8} {l : List (List UInt8)} (hs : srtT l) : thT k l = true ↔ k ∈ l := by
 unfold thT
 constructor
 · intro h
   simp only [Bool.and_eq_true,decide_eq_true_eq] at h
   obtain ⟨h1,h2⟩ := h
   rw [rowT_at h1] at h2
   exact h2 ▸ List.getElem_mem h1
 · intro h
   have h3 : k ∈ l.drop (plT k l) := by
     rw [← List.take_append_drop (plT k l) l] at h
     rcases List.mem_append.1 h with h | h
     · exact (List.lt_irrefl k (take_lt k h)).elim
     · exact h
   have hl : plT k l < l.length := by
     have := List.length_pos_of_mem h3
     rw [List.length_drop] at this; omega
   have hd : srtT (l.drop (plT k l)) := hs.sublist (List.drop_sublist _ _)
   rw [List.drop_eq_getElem_cons hl] at hd h3
   have : l[plT k l] = k := by
     rcases List.mem_cons.1 h3 with h | h
     · exact h.symm
     · exact (row_ge hl ((List.pairwise_cons.1 hd).1 k h)).elim
   simp only [Bool.and_eq_true,decide_eq_true_eq]
   exact ⟨hl,by rw [rowT_at hl,this]⟩
theorem plT_le (k : List UInt8) (l : List (List UInt8)) : plT k l ≤ l.length := List.findIdx_le_length
theorem plT_at {k : List UInt8} {l : List (List UInt8)} {i : Nat} (hi : i ≤ l.length) (h1 : ∀ x ∈ l.take i,Op.bytesLess x k = true) (h2 : ∀ x ∈ l.drop i,Op.bytesLess x k = false) : plT k l = i := by
 have a1 : ¬ plT k l < i := fun h => by
   have hl : plT k l < l.length := by omega
   have h3 := row_ge hl
   have h4 := h1 l[plT k l] (List.mem_take_iff_getElem.2 ⟨_,by omega,rfl⟩)
   rw [zqy] at h4
   exact h3 (of_decide_eq_true h4)
 have a2 : ¬ i < plT k l := fun h => by
   have hl : i < l.length := Nat.lt_of_lt_of_le h (plT_le k l)
   have h3 := take_lt (k := k) (l := l) l[i] (List.mem_take_iff_getElem.2 ⟨_,by omega,rfl⟩)
   have h4 := h2 l[i] (List.mem_iff_getElem.2 ⟨0,by rw [List.length_drop]; omega,by rw [List.getElem_drop]; rfl⟩)
   rw [zqy,decide_eq_true h3] at h4
   cases h4
 omega
theorem srt_get {l : List (List UInt8)} (h : srtT l) {i j : Nat} (hij : i < j) (hj : j < l.length) : l[i]'(by omega) < l[j] := List.pairwise_iff_getElem.1 h i j (by omega) hj hij
theorem srt_below {k : List UInt8} {l : List (List UInt8)} (h : srtT l) {n : Nat} (hn : n < l.length) (hv : Op.bytesLess l[n] k = true) : ∀ x ∈ l.take (n + 1),Op.bytesLess x k = true := by
 intro x hx
 obtain ⟨i,hi,rfl⟩ := List.mem_take_iff_getElem.1 hx
 rw [zqy] at hv ⊢
 have hv := of_decide_eq_true hv
 refine decide_eq_true ?_
 by_cases e : i = n
 · subst e; exact hv
 · exact List.lt_trans (srt_get h (by omega) hn) hv
theorem srt_above {k : List UInt8} {l : List (List UInt8)} (h : srtT l) {n : Nat} (hn : n < l.length) (hv : Op.bytesLess l[n] k = false) : ∀ x ∈ l.drop n,Op.bytesLess x k = false := by
 intro x hx
 obtain ⟨i,hi,rfl⟩ := List.mem_iff_getElem.1 hx
 rw [List.length_drop] at hi
 rw [List.getElem_drop,zqy]
 rw [zqy] at hv
 have hv := of_decide_eq_false hv
 refine decide_eq_false fun h3 => hv ?_
 by_cases e : i = 0
 · subst e; simpa using h3
 · exact List.lt_trans (srt_get h (by omega) (by omega)) h3
theorem thT_at {k : List UInt8} {l : List (List UInt8)} (h : plT k l < l.length) : thT k l = decide (l[plT k l] = k) := by
 unfold thT
 rw [decide_eq_true h,rowT_at h,Bool.true_and]
theorem thT_end {k : List UInt8} {l : List (List UInt8)} (h : ¬ plT k l < l.length) : thT k l = false := by
 unfold thT
 rw [decide_eq_false h,Bool.false_and]
theorem sortL_self {l : List (List UInt8)} (h : srtT l) : zhv l = l := by
 have ht : ∀ (x y z : List UInt8),decide (x ≤ y) = true → decide (y ≤ z) = true → decide (x ≤ z) = true := fun x y z p q => by
   simp only [decide_eq_true_eq] at *
   exact List.le_trans p q
 have hc : ∀ (x y : List UInt8),(decide (x ≤ y) || decide (y ≤ x)) = true := fun x y => by
   simp only [Bool.or_eq_true,decide_eq_true_eq]
   exact List.le_total x y
 refine List.Perm.eq_of_pairwise (le := fun x y => decide (x ≤ y) = true) (fun x y _ _ h1 h2 => List.le_antisymm (of_decide_eq_true h1) (of_decide_eq_true h2)) (List.pairwise_mergeSort ht hc _) ?_ (List.mergeSort_perm _ _)
 exact h.imp fun {x y} h => decide_eq_true (List.le_of_lt h)
end Go.Proofs.Ytolclgkginfiaaa
namespace Go.Proofs.Ytolclgkginfiaaa
open Ax
def empT (xs : List AV) : Bool := xs.isEmpty
theorem empT_nil : empT [] = true := rfl
theorem sg_sizeT {w : World} {loc : Ax.Loc} {v : Value} {s : Nat} (s' : Nat) {f : Bool} (h : R w loc (.sg s [] f) v) : R w loc (.sg s' [] f) v := by
 cases h with
 | sg _ _ _ a cap cs hd hs hc hl hx hh => exact .sg s' [] f a cap cs hd (by simp) hc hl hx hh
theorem ids_strs (l : List (List UInt8)) : idsL (l.map AV.str) = [] := by
 induction l with
 | nil => rfl
 | cons x r ih => simp only [List.map_cons,idsL,AV.ids,ih,List.nil_append]
theorem zgh : ∀ (l : List (List UInt8)) (i : Nat) (h : i < l.length),slot (l.map AV.str) i = .str l[i]
 | _ :: _,0,_ => rfl
 | _ :: r,i + 1,h => by
   simp only [List.map_cons,slot,List.getElem_cons_succ]
   exact zgh r i (by simpa using h)
def cloTS : zar
 | [.sg 1 xs f],[] => ⟨xs.length ≤ 1000000 ∧ ∃ es : List (List UInt8),xs = es.map AV.str,bif empT xs then .sg 1 [] true else .ms 0 1 0 xs.length,bif empT xs then [] else [.g 1 xs]⟩
 | _,_ => zbq
def cloTPl : zhx := fun id => match id with
 | 1 => .tst [false,true]
 | _ => .std
def cloTPl0 : zhx := fun id => match id with
 | 1 => .tst [false,true]
 | 3 => .tst [true,false,true]
 | _ => .std
section
set_option maxRecDepth 100000
set_option maxHeartbeats 1000000 in
theorem cloT_sound : zbn Try.prog 46 cloTS := by
 refine zbs (S := noS) (SO := noO) (T := ty) mixed ty_ok zcm zhp Try.func46 (c := Try.f46.body.getD .skip) (by kernel_rfl) (fun xs pins hp _ => ?_)
 unfold cloTS at hp ⊢
 split at hp
 · rename_i xs f _
   obtain ⟨hL,es,rfl⟩ := hp
   rw [List.length_map] at hL
   have hl4 : (es.map AV.str).length = es.length := by simp
   by_cases hz : es.length = 0
   · obtain rfl : es = [] := List.eq_nil_of_length_eq_zero hz
     refine ⟨by simp,cloTPl0,by kernel_rfl,?_⟩
     unfold Try.f46
     simp only [go_sem,zaa,Nat.reduceAdd,Nat.reduceSub,Nat.reduceMul,Int.reduceToNat,reduceCtorEq,↓reduceIte,Int.reducePow,Nat.reducePow,Int.reduceMod,Nat.reduceLeDiff,Int.reduceLE,Int.reduceNe,Int.reduceEq,Nat.reduceEqDiff,Nat.reduceLT,Nat.reduceBEq,List.map_cons,List.map_nil,List.toList_toArray,Array.toList_append,Option.toArray_some,Option.toArray_none,Bool.and_self,ty,noS,cloTPl0,zgg,hl4]
     repeat (refine And.intro (by omega) ?_)
     intro b
     refine ⟨fun hb => ?_,fun hb => ?_⟩
     · refine ⟨_,zia 2 (.sg 1 [] true) (fun w loc v h => sg_sizeT 1 h),?_⟩
       simp only [go_sem,zaa,Nat.reduceAdd,Nat.reduceSub,Nat.reduceMul,Int.reduceToNat,reduceCtorEq,↓reduceIte,Int.reducePow,Nat.reducePow,Int.reduceMod,Nat.reduceLeDiff,Int.reduceLE,Int.reduceNe,Int.reduceEq,Nat.reduceEqDiff,Nat.reduceLT,Nat.reduceBEq,List.map_cons,List.map_nil,List.toList_toArray,Array.toList_append,Option.toArray_some,Option.toArray_none,Bool.and_self,ty,noS,empT_nil,cond_true,cond_false]
     · refine ⟨_,Weak.refl _,?_⟩
       simp only [go_sem,zaa,Nat.reduceAdd,Nat.reduceSub,Nat.reduceMul,Int.reduceToNat,reduceCtorEq,↓reduceIte,Int.reducePow,Nat.reducePow,Int.reduceMod,Nat.reduceLeDiff,Int.reduceLE,Int.reduceNe,Int.reduceEq,Nat.reduceEqDiff,Nat.reduceLT,Nat.reduceBEq,List.map_cons,List.map_nil,List.toList_toArray,Array.toList_append,Option.toArray_some,Option.toArray_none,Bool.and_self,ty,noS,empT_nil,cond_true,cond_false]
   · refine ⟨by simp,cloTPl,by kernel_rfl,?_⟩
     have hem : empT (es.map AV.str) = false := by cases es with | nil => simp at hz | cons _ _ => rfl
     have htop : es.length ≤ top := by unfold top; omega
     unfold Try.f46
     simp only [go_sem,zaa,Nat.reduceAdd,Nat.reduceSub,Nat.reduceMul,Int.reduceToNat,reduceCtorEq,↓reduceIte,Int.reducePow,Nat.reducePow,Int.reduceMod,Nat.reduceLeDiff,Int.reduceLE,Int.reduceNe,Int.reduceEq,Nat.reduceEqDiff,Nat.reduceLT,Nat.reduceBEq,List.map_cons,List.map_nil,List.toList_toArray,Array.toList_append,Option.toArray_some,Option.toArray_none,Bool.and_self,ty,noS,cloTPl,zgg,hl4]
     repeat (refine And.intro (by omega) ?_)
     intro b hb
     obtain rfl : b = false := by cases b with | false => rfl | true => exact absurd (hb rfl) hz
     simp only [go_sem,zaa,Nat.reduceAdd,Nat.reduceSub,Nat.reduceMul,Int.reduceToNat,reduceCtorEq,↓reduceIte,Int.reducePow,Nat.reducePow,Int.reduceMod,Nat.reduceLeDiff,Int.reduceLE,Int.reduceNe,Int.reduceEq,Nat.reduceEqDiff,Nat.reduceLT,Nat.reduceBEq,List.map_cons,List.map_nil,List.toList_toArray,Array.toList_append,Option.toArray_some,Option.toArray_none,Bool.and_self,ty,noS,cloTPl,zgg,hl4,hem,cond_false]
     refine ⟨htop,_,Weak.refl _,?_⟩
     simp only [go_sem,zaa,Nat.reduceAdd,Nat.reduceSub,Nat.reduceMul,Int.reduceToNat,reduceCtorEq,↓reduceIte,Int.reducePow,Nat.reducePow,Int.reduceMod,Nat.reduceLeDiff,Int.reduceLE,Int.reduceNe,Int.reduceEq,Nat.reduceEqDiff,Nat.reduceLT,Nat.reduceBEq,List.map_cons,List.map_nil,List.toList_toArray,Array.toList_append,Option.toArray_some,Option.toArray_none,Bool.and_self,ty,noS,hl4,hem,cond_false,zhj]
 · exact hp.elim
end
end Go.Proofs.Ytolclgkginfiaaa
namespace Go.Proofs.Ytolclgkginfiaaa
open Ax
def cmpTS : zar
 | [.sg 1 xs f],[] => ⟨xs.length ≤ 1000000 ∧ ∃ l : List (List UInt8),xs = l.map AV.str ∧ srtT l,.sg 1 xs f,[]⟩
 | _,_ => zbq
def zqq : zar
 | [.str x],[] => ⟨True,.w (.bool false),[]⟩
 | _,_ => zbq
def lesTS : zar
 | [.str x,.str y],[] => ⟨True,.w (.bool (Op.bytesLess x y)),[]⟩
 | _,_ => zbq
def bsTS : zar
 | [.sg 1 xs f,.str t],[] => ⟨xs.length ≤ 1000000 ∧ ∃ l : List (List UInt8),xs = l.map AV.str ∧ srtT l,.tup [.w (.int .i64 ((plT t (xs.map strB) : Nat) : Int)),.w (.bool (thT t (xs.map strB)))],[]⟩
 | _,_ => zbq
section
set_option maxRecDepth 100000
set_option maxHeartbeats 4000000
theorem nanT_sound : zbn Try.prog 51 zqq := by
 refine zdy (S := noS) (T := ty) mixed ty_ok zcm Try.func51 (c := Try.f51.body.getD .skip) (by kernel_rfl) (by kernel_rfl) (fun xs pins hp _ => ?_)
 unfold zqq at hp ⊢
 split at hp
 · rename_i x _
   refine ⟨by simp,?_⟩
   have d1 : decide (x = x) = true := decide_eq_true rfl
   unfold Try.f51
   simp only [go_sem,zac,Nat.reduceAdd,Nat.reduceSub,Nat.reduceMul,Int.reduceToNat,reduceCtorEq,↓reduceIte,Int.reducePow,Nat.reducePow,Int.reduceMod,Nat.reduceLeDiff,Int.reduceLE,Int.reduceNe,Int.reduceEq,Nat.reduceEqDiff,Nat.reduceLT,Nat.reduceBEq,ty,noS,d1,Bool.not_true]
 · exact hp.elim
theorem nanTs_sound : zbn Try.prog 45 zqq := by
 refine zdy (S := noS) (T := ty) mixed ty_ok zcm Try.func45 (c := Try.f45.body.getD .skip) (by kernel_rfl) (by kernel_rfl) (fun xs pins hp _ => ?_)
 unfold zqq at hp ⊢
 split at hp
 · rename_i x _
   refine ⟨by simp,?_⟩
   have d1 : decide (x = x) = true := decide_eq_true rfl
   unfold Try.f45
   simp only [go_sem,zac,Nat.reduceAdd,Nat.reduceSub,Nat.reduceMul,Int.reduceToNat,reduceCtorEq,↓reduceIte,Int.reducePow,Nat.reducePow,Int.reduceMod,Nat.reduceLeDiff,Int.reduceLE,Int.reduceNe,Int.reduceEq,Nat.reduceEqDiff,Nat.reduceLT,Nat.reduceBEq,ty,noS,d1,Bool.not_true]
 · exact hp.elim
end
def Sles20 (f : FuncId) : Option zar :=
 match f with
 | 51 => some zqq
 | _ => none
theorem Sles20_ok : Fns Try.prog Sles20 := by
 intro f s h
 unfold Sles20 at h
 split at h
 · injection h with h; subst h; exact ⟨⟨_,Try.func51,by kernel_rfl,by kernel_rfl⟩,nanT_sound⟩
 · cases h
section
set_option maxRecDepth 100000
set_option maxHeartbeats 4000000
theorem lesT_sound : zbn Try.prog 44 lesTS := by
 refine zdy (S := Sles20) (T := ty) mixed ty_ok Sles20_ok Try.func44 (c := Try.f44.body.getD .skip) (by kernel_rfl) (by kernel_rfl) (fun xs pins hp _ => ?_)
 unfold lesTS at hp ⊢
 split at hp
 · rename_i x y _
   refine ⟨by simp,?_⟩
   unfold Try.f44
   cases hb : Op.bytesLess x y <;> simp only [go_sem,zac,Nat.reduceAdd,Nat.reduceSub,Nat.reduceMul,Int.reduceToNat,reduceCtorEq,↓reduceIte,Int.reducePow,Nat.reducePow,Int.reduceMod,Nat.reduceLeDiff,Int.reduceLE,Int.reduceNe,Int.reduceEq,Nat.reduceEqDiff,Nat.reduceLT,Nat.reduceBEq,ty,Sles20,zqq,hb,Bool.not_true,Bool.not_false]
 · exact hp.elim
theorem cmpT_sound : zbn Try.prog 48 cmpTS := by
 refine zdy (S := noS) (T := ty) mixed ty_ok zcm Try.func48 (c := Try.f48.body.getD .skip) (by kernel_rfl) (by kernel_rfl) (fun xs pins hp _ => ?_)
 unfold cmpTS at hp ⊢
 split at hp
 · rename_i xs f _
   obtain ⟨hL,l,rfl,hs⟩ := hp
   rw [List.length_map] at hL
   have hlp : (l.map AV.str).length = l.length := by simp
   refine ⟨by simp,?_⟩
   unfold Try.f48
   by_cases h2 : l.length < 2
   · have d0 : decide ((l.length : Int) < 2) = true := decide_eq_true (by omega)
     simp only [go_sem,zac,Nat.reduceAdd,Nat.reduceSub,Nat.reduceMul,Int.reduceToNat,reduceCtorEq,↓reduceIte,Int.reducePow,Nat.reducePow,Int.reduceMod,Nat.reduceLeDiff,Int.reduceLE,Int.reduceNe,Int.reduceEq,Nat.reduceEqDiff,Nat.reduceLT,Nat.reduceBEq,ty,noS,hlp,d0]
   · have d0 : decide ((l.length : Int) < 2) = false := decide_eq_false (by omega)
     simp only [go_sem,zac,Nat.reduceAdd,Nat.reduceSub,Nat.reduceMul,Int.reduceToNat,reduceCtorEq,↓reduceIte,Int.reducePow,Nat.reducePow,Int.reduceMod,Nat.reduceLeDiff,Int.reduceLE,Int.reduceNe,Int.reduceEq,Nat.reduceEqDiff,Nat.reduceLT,Nat.reduceBEq,ty,noS,hlp,d0]
     refine zgv ⟨fun m σ => ∃ (k : Nat),m = l.length - k ∧ 1 ≤ k ∧ k ≤ l.length ∧ σ = ⟨[.sg 1 (l.map .str) f,.junk,.sg 1 [] true,.w (.int .i64 k),.junk,.junk,.junk,.junk,.junk,.junk,.junk,.junk,.junk,.junk,.junk,.junk,.junk,.junk,.junk,.junk,.junk,.junk,.junk,.junk,.junk,.junk,.junk,.junk,.junk,.junk,.junk,.junk,.junk,.junk,.junk,.junk,.junk,.junk,.junk,.junk,.junk,.junk,.junk,.junk,.junk,.junk,.junk,.junk,.junk,.junk,.junk,.junk,.junk,.junk,.junk,.junk,.junk,.junk,.junk,.junk,.junk],[],4⟩,?_,?_⟩
     · refine ⟨_,_,zal [0,1,2,3] rfl rfl rfl ?_ ?_,1,rfl,by omega,by omega,rfl⟩
       · simp only [ssT,zau,zav,setSlot,gOf,AV.ren,renL,Blk.ren,Ax.look,Ax.put,reduceCtorEq,↓reduceIte,Nat.reduceEqDiff,Nat.reduceLT,Nat.reduceAdd,List.length_append,List.length_cons,List.length_nil,Option.some.injEq]; try simp
       · simp only [ssT,zau,zav,setSlot,gOf,AV.ren,renL,Blk.ren,Ax.look,Ax.put,reduceCtorEq,↓reduceIte,Nat.reduceEqDiff,Nat.reduceLT,Nat.reduceAdd,List.length_append,List.length_cons,List.length_nil,Option.some.injEq]
     · rintro m σ ⟨k,rfl,hk1,hk,rfl⟩
       by_cases hkl : k < l.length
       · obtain ⟨j,rfl⟩ : ∃ j,k = j + 1 := ⟨k - 1,by omega⟩
         have d3 : decide (((j + 1 : Nat) : Int) < l.length) = true := decide_eq_true (by omega)
         have e1 : (((j + 1 : Nat) : Int) + 1 + 9223372036854775808) % 18446744073709551616 - 9223372036854775808 = ((j + 1 + 1 : Nat) : Int) := by omega
         have e2 : (((j + 1 : Nat) : Int) - 1 + 9223372036854775808) % 18446744073709551616 - 9223372036854775808 = ((j : Nat) : Int) := by omega
         have hs1 := zgh l (j + 1) hkl
         have hs2 := zgh l j (by omega)
         have hne : decide (l[j + 1] = l[j]'(by omega)) = false := decide_eq_false (fun e => by
           have := srt_get hs (i := j) (j := j + 1) (by omega) hkl
           rw [e] at this
           exact List.lt_irrefl _ this)
         obtain ⟨X,hX⟩ : ∃ X,l[j + 1] = X := ⟨_,rfl⟩
         obtain ⟨Y,hY⟩ : ∃ Y,l[j]'(by omega) = Y := ⟨_,rfl⟩
         rw [hX] at hs1 hne
         rw [hY] at hs2 hne
         simp only [go_sem,zac,Nat.reduceAdd,Nat.reduceSub,Nat.reduceMul,Int.reduceToNat,reduceCtorEq,↓reduceIte,Int.reducePow,Nat.reducePow,Int.reduceMod,Nat.reduceLeDiff,Int.reduceLE,Int.reduceNe,Int.reduceEq,Nat.reduceEqDiff,Nat.reduceLT,Nat.reduceBEq,ty,noS,hlp,d3,hs1,hs2,hne,e1,e2,Int.toNat_natCast]
         repeat (refine And.intro (by omega) ?_)
         refine ⟨l.length - (j + 1 + 1),_,by omega,zal [0,1,2,3] rfl rfl rfl ?_ ?_,j + 1 + 1,rfl,by omega,by omega,rfl⟩
         · simp only [ssT,zau,zav,setSlot,gOf,AV.ren,renL,Blk.ren,Ax.look,Ax.put,reduceCtorEq,↓reduceIte,Nat.reduceEqDiff,Nat.reduceLT,Nat.reduceAdd,List.length_append,List.length_cons,List.length_nil,Option.some.injEq]
         · simp only [ssT,zau,zav,setSlot,gOf,AV.ren,renL,Blk.ren,Ax.look,Ax.put,reduceCtorEq,↓reduceIte,Nat.reduceEqDiff,Nat.reduceLT,Nat.reduceAdd,List.length_append,List.length_cons,List.length_nil,Option.some.injEq]
       · have d3 : decide ((k : Int) < l.length) = false := decide_eq_false (by omega)
         simp only [go_sem,zac,Nat.reduceAdd,Nat.reduceSub,Nat.reduceMul,Int.reduceToNat,reduceCtorEq,↓reduceIte,Int.reducePow,Nat.reducePow,Int.reduceMod,Nat.reduceLeDiff,Int.reduceLE,Int.reduceNe,Int.reduceEq,Nat.reduceEqDiff,Nat.reduceLT,Nat.reduceBEq,ty,noS,hlp,d3]
         refine ⟨_,Weak.refl _,?_⟩
         simp only [go_sem,zac,Nat.reduceAdd,Nat.reduceSub,Nat.reduceMul,Int.reduceToNat,reduceCtorEq,↓reduceIte,Int.reducePow,Nat.reducePow,Int.reduceMod,Nat.reduceLeDiff,Int.reduceLE,Int.reduceNe,Int.reduceEq,Nat.reduceEqDiff,Nat.reduceLT,Nat.reduceBEq,ty,noS]
 · exact hp.elim
end
def zrc (f : FuncId) : Option zar :=
 match f with
 | 44 => some lesTS
 | 45 => some zqq
 | _ => none
theorem Sbs20_ok : Fns Try.prog zrc := by
 intro f s h
 unfold zrc at h
 split at h
 · injection h with h; subst h; exact ⟨⟨_,Try.func44,by kernel_rfl,by kernel_rfl⟩,lesT_sound⟩
 · injection h with h; subst h; exact ⟨⟨_,Try.func45,by kernel_rfl,by kernel_rfl⟩,nanTs_sound⟩
 · cases h
section
set_option maxRecDepth 100000
set_option maxHeartbeats 4000000
theorem bsT_sound : zbn Try.prog 36 bsTS := by
 refine zdy (S := zrc) (T := ty) mixed ty_ok Sbs20_ok Try.func36 (c := Try.f36.body.getD .skip) (by kernel_rfl) (by kernel_rfl) (fun xs pins hp _ => ?_)
 unfold bsTS at hp ⊢
 split at hp
 · rename_i xs f t _
   obtain ⟨hL,l,rfl,hs⟩ := hp
   rw [List.length_map] at hL
   have hlp : (l.map AV.str).length = l.length := by simp
   rw [zlk]
   obtain ⟨Q,hQ⟩ : ∃ Q,thT t l = Q := ⟨_,rfl⟩
   obtain ⟨P,hP⟩ : ∃ P,plT t l = P := ⟨_,rfl⟩
   rw [hQ,hP]
   refine ⟨by simp,?_⟩
   unfold Try.f36
   simp only [go_sem,zac,Nat.reduceAdd,Nat.reduceSub,Nat.reduceMul,Int.reduceToNat,reduceCtorEq,↓reduceIte,Int.reducePow,Nat.reducePow,Int.reduceMod,Nat.reduceLeDiff,Int.reduceLE,Int.reduceNe,Int.reduceEq,Nat.reduceEqDiff,Nat.reduceLT,Nat.reduceBEq,ty,zrc,hlp]
   refine zgv ⟨fun m σ => ∃ (i j : Nat),m = j - i ∧ i ≤ j ∧ j ≤ l.length ∧ (∀ x ∈ l.take i,Op.bytesLess x t = true) ∧ (∀ x ∈ l.drop j,Op.bytesLess x t = false) ∧
       σ = ⟨[.sg 1 (l.map .str) f,.str t,.junk,.junk,.w (.int .i64 0),.w (.bool false),.w (.int .i64 l.length),.w (.int .i64 i),.w (.int .i64 j),.junk,.junk,.junk,.junk,.junk,.junk,.junk,.junk,.junk,.junk,.junk,.junk,.junk,.junk,.junk,.junk,.junk,.junk,.junk,.junk,.junk,.junk,.junk,.junk,.junk,.junk,.junk,.junk,.junk,.junk,.junk,.junk,.junk,.junk,.junk,.junk,.junk,.junk,.junk,.junk,.junk,.junk,.junk,.junk,.junk],[],4⟩,?_,?_⟩
   · refine ⟨_,_,zal [0,1,2,3] rfl rfl rfl ?_ ?_,0,l.length,rfl,by omega,by omega,by simp,by simp,rfl⟩
     · simp only [ssT,zau,zav,setSlot,gOf,AV.ren,renL,Blk.ren,Ax.look,Ax.put,reduceCtorEq,↓reduceIte,Nat.reduceEqDiff,Nat.reduceLT,Nat.reduceAdd,List.length_append,List.length_cons,List.length_nil,Option.some.injEq]; try simp
     · simp only [ssT,zau,zav,setSlot,gOf,AV.ren,renL,Blk.ren,Ax.look,Ax.put,reduceCtorEq,↓reduceIte,Nat.reduceEqDiff,Nat.reduceLT,Nat.reduceAdd,List.length_append,List.length_cons,List.length_nil,Option.some.injEq]
   · rintro m σ ⟨i,j,rfl,hij,hj,hlo,hhi,rfl⟩
     by_cases hlt : i < j
     · have d3 : decide ((i : Int) < (j : Int)) = true := decide_eq_true (by omega)
       have e0 : ((i : Int) + (j : Int) + 9223372036854775808) % 18446744073709551616 - 9223372036854775808 = ((i + j : Nat) : Int) := by omega
       have e1 : (((i + j : Nat) : Int)) % 18446744073709551616 = ((i + j : Nat) : Int) := by omega
       obtain ⟨h,hh⟩ : ∃ h,(i + j) / 2 = h := ⟨_,rfl⟩
       have hb : i ≤ h ∧ h < j := by omega
       have hs1 := zgh l h (by omega)
       obtain ⟨X,hX⟩ : ∃ X,l[h]'(by omega) = X := ⟨_,rfl⟩
       rw [hX] at hs1
       have e2 : (((i + j : Nat) : Int) / 2 + 9223372036854775808) % 18446744073709551616 - 9223372036854775808 = (h : Int) := by omega
       have e3 : ((h : Int) + 1 + 9223372036854775808) % 18446744073709551616 - 9223372036854775808 = ((h + 1 : Nat) : Int) := by omega
       cases hv : Op.bytesLess X t with
       | true =>
         have hlo2 : ∀ x ∈ l.take (h + 1),Op.bytesLess x t = true := srt_below hs (by omega) (by rw [hX]; exact hv)
         simp only [go_sem,zac,Nat.reduceAdd,Nat.reduceSub,Nat.reduceMul,Int.reduceToNat,reduceCtorEq,↓reduceIte,Int.reducePow,Nat.reducePow,Int.reduceMod,Nat.reduceLeDiff,Int.reduceLE,Int.reduceNe,Int.reduceEq,Nat.reduceEqDiff,Nat.reduceLT,Nat.reduceBEq,ty,zrc,lesTS,hlp,d3,hs1,hv,e0,e1,e2,e3,Int.toNat_natCast]
         repeat (first | refine And.intro (by omega) ?_ | refine And.intro ⟨by omega,by omega⟩ ?_)
         refine ⟨j - (h + 1),_,by omega,zal [0,1,2,3] rfl rfl rfl ?_ ?_,h + 1,j,rfl,by omega,by omega,hlo2,hhi,rfl⟩
         · simp only [ssT,zau,zav,setSlot,gOf,AV.ren,renL,Blk.ren,Ax.look,Ax.put,reduceCtorEq,↓reduceIte,Nat.reduceEqDiff,Nat.reduceLT,Nat.reduceAdd,List.length_append,List.length_cons,List.length_nil,Option.some.injEq]
         · simp only [ssT,zau,zav,setSlot,gOf,AV.ren,renL,Blk.ren,Ax.look,Ax.put,reduceCtorEq,↓reduceIte,Nat.reduceEqDiff,Nat.reduceLT,Nat.reduceAdd,List.length_append,List.length_cons,List.length_nil,Option.some.injEq]
       | false =>
         have hhi2 : ∀ x ∈ l.drop h,Op.bytesLess x t = false := srt_above hs (by omega) (by rw [hX]; exact hv)
         simp only [go_sem,zac,Nat.reduceAdd,Nat.reduceSub,Nat.reduceMul,Int.reduceToNat,reduceCtorEq,↓reduceIte,Int.reducePow,Nat.reducePow,Int.reduceMod,Nat.reduceLeDiff,Int.reduceLE,Int.reduceNe,Int.reduceEq,Nat.reduceEqDiff,Nat.reduceLT,Nat.reduceBEq,ty,zrc,lesTS,hlp,d3,hs1,hv,e0,e1,e2,e3,Int.toNat_natCast]
         repeat (first | refine And.intro (by omega) ?_ | refine And.intro ⟨by omega,by omega⟩ ?_)
         refine ⟨h - i,_,by omega,zal [0,1,2,3] rfl rfl rfl ?_ ?_,i,h,rfl,by omega,by omega,hlo,hhi2,rfl⟩
         · simp only [ssT,zau,zav,setSlot,gOf,AV.ren,renL,Blk.ren,Ax.look,Ax.put,reduceCtorEq,↓reduceIte,Nat.reduceEqDiff,Nat.reduceLT,Nat.reduceAdd,List.length_append,List.length_cons,List.length_nil,Option.some.injEq]
         · simp only [ssT,zau,zav,setSlot,gOf,AV.ren,renL,Blk.ren,Ax.look,Ax.put,reduceCtorEq,↓reduceIte,Nat.reduceEqDiff,Nat.reduceLT,Nat.reduceAdd,List.length_append,List.length_cons,List.length_nil,Option.some.injEq]
     · have d3 : decide ((i : Int) < (j : Int)) = false := decide_eq_false (by omega)
       obtain rfl : i = j := by omega
       have hpl := plT_at (k := t) (l := l) (i := i) (by omega) hlo hhi
       simp only [go_sem,zac,Nat.reduceAdd,Nat.reduceSub,Nat.reduceMul,Int.reduceToNat,reduceCtorEq,↓reduceIte,Int.reducePow,Nat.reducePow,Int.reduceMod,Nat.reduceLeDiff,Int.reduceLE,Int.reduceNe,Int.reduceEq,Nat.reduceEqDiff,Nat.reduceLT,Nat.reduceBEq,ty,zrc,hlp,d3]
       refine ⟨_,Weak.refl _,?_⟩
       by_cases hil : i < l.length
       · have d4 : decide ((i : Int) < l.length) = true := decide_eq_true (by omega)
         have hs1 := zgh l i hil
         obtain ⟨X,hX⟩ : ∃ X,l[i] = X := ⟨_,rfl⟩
         rw [hX] at hs1
         have hth : Q = decide (X = t) := by
                       rw [← hQ,thT_at (by rw [hpl]; exact hil)]; simp only [hpl,hX]
         cases hd : decide (X = t) with
         | true =>
           rw [hd] at hth
           simp only [go_sem,zac,Nat.reduceAdd,Nat.reduceSub,Nat.reduceMul,Int.reduceToNat,reduceCtorEq,↓reduceIte,Int.reducePow,Nat.reducePow,Int.reduceMod,Nat.reduceLeDiff,Int.reduceLE,Int.reduceNe,Int.reduceEq,Nat.reduceEqDiff,Nat.reduceLT,Nat.reduceBEq,ty,zrc,zqq,hlp,d4,hs1,hd,Int.toNat_natCast]
           repeat (first | refine And.intro (by omega) ?_ | refine And.intro ⟨by omega,by omega⟩ ?_)
           rw [hth,← hP,hpl]
         | false =>
           rw [hd] at hth
           simp only [go_sem,zac,Nat.reduceAdd,Nat.reduceSub,Nat.reduceMul,Int.reduceToNat,reduceCtorEq,↓reduceIte,Int.reducePow,Nat.reducePow,Int.reduceMod,Nat.reduceLeDiff,Int.reduceLE,Int.reduceNe,Int.reduceEq,Nat.reduceEqDiff,Nat.reduceLT,Nat.reduceBEq,ty,zrc,zqq,hlp,d4,hs1,hd,Int.toNat_natCast]
           repeat (first | refine And.intro (by omega) ?_ | refine And.intro ⟨by omega,by omega⟩ ?_)
           rw [hth,← hP,hpl]
       · have d4 : decide ((i : Int) < l.length) = false := decide_eq_false (by omega)
         have hth : Q = false := by
                       rw [← hQ,thT_end (by rw [hpl]; exact hil)]
         simp only [go_sem,zac,Nat.reduceAdd,Nat.reduceSub,Nat.reduceMul,Int.reduceToNat,reduceCtorEq,↓reduceIte,Int.reducePow,Nat.reducePow,Int.reduceMod,Nat.reduceLeDiff,Int.reduceLE,Int.reduceNe,Int.reduceEq,Nat.reduceEqDiff,Nat.reduceLT,Nat.reduceBEq,ty,zrc,zqq,hlp,d4,Int.toNat_natCast]
         subst hpl hth
         rw [← hP]
 · exact hp.elim
end
end Go.Proofs.Ytolclgkginfiaaa
namespace Go.Proofs.Ytolclgkginfiaaa
open Ax
def clpN (p : Int) : Nat := (min (max p 0) 1000).toNat
theorem clpN_le (p : Int) : clpN p ≤ 1000 := by unfold clpN; omega
def clpS : zar
 | [.w (.int .i64 p)],[] => ⟨True,.w (.int .i64 ((clpN p : Nat) : Int)),[]⟩
 | _,_ => zbq
def sdTS : zar
 | [.sg 1 xs f],[] => ⟨(0 < xs.length ∧ xs.length ≤ 1000000) ∧ ∃ l : List (List UInt8),xs = l.map AV.str ∧ srtT l,.sg 1 xs false,[]⟩
 | _,_ => zbq
def Ssd19 (f : FuncId) : Option zar :=
 match f with
 | 46 => some cloTS
 | 48 => some cmpTS
 | _ => none
theorem Ssd19_ok : Fns Try.prog Ssd19 := by
 intro f s h
 unfold Ssd19 at h
 split at h
 · injection h with h; subst h; exact ⟨⟨_,Try.func46,by kernel_rfl,by kernel_rfl⟩,cloT_sound⟩
 · injection h with h; subst h; exact ⟨⟨_,Try.func48,by kernel_rfl,by kernel_rfl⟩,cmpT_sound⟩
 · cases h
def Osd19 (f : FuncId) : Option zar :=
 match f with
 | 47 => some zof
 | _ => none
theorem Osd19_ok : FnsO Try.prog Osd19 := by
 intro f s h
 unfold Osd19 at h
 split at h
 · injection h with h; subst h; exact ⟨⟨_,Try.func47,by kernel_rfl,by kernel_rfl⟩,sortO_sound⟩
 · cases h
def sdPl : zhx := fun id => match id with
 | 2 => .opn [] 1
 | _ => .std
theorem zfw (l : List (List UInt8)) (h : Bool) : coe ty 30 (.sg 1 (l.map AV.str) h) = .sg 1 (l.map AV.str) h := by cases l <;> rfl
section
set_option maxRecDepth 100000
set_option maxHeartbeats 4000000
theorem clp_sound : zbn Try.prog 49 clpS := by
 refine zdy (S := noS) (T := ty) mixed ty_ok zcm Try.func49 (c := Try.f49.body.getD .skip) (by kernel_rfl) (by kernel_rfl) (fun xs pins hp _ => ?_)
 unfold clpS at hp ⊢
 split at hp
 · rename_i p _
   refine ⟨by simp,?_⟩
   obtain ⟨C,hC⟩ : ∃ C,clpN p = C := ⟨_,rfl⟩
   have hc : (C : Int) = (if 1000 < (if p < 0 then 0 else p) then 1000 else (if p < 0 then 0 else p)) := by
     rw [← hC]; unfold clpN
     split <;> split <;> omega
   rw [hC]
   unfold Try.f49
   simp only [go_sem,zac,Nat.reduceAdd,Nat.reduceSub,Nat.reduceMul,Int.reduceToNat,reduceCtorEq,↓reduceIte,Int.reducePow,Nat.reducePow,Int.reduceMod,Nat.reduceLeDiff,Int.reduceLE,Int.reduceNe,Int.reduceEq,Nat.reduceEqDiff,Nat.reduceLT,Nat.reduceBEq,ty,noS,hc]
 · exact hp.elim
theorem zus : zbn Try.prog 37 sdTS := by
 refine zbs (S := Ssd19) (SO := Osd19) (T := ty) mixed ty_ok Ssd19_ok Osd19_ok Try.func37 (c := Try.f37.body.getD .skip) (by kernel_rfl) (fun xs pins hp _ => ?_)
 unfold sdTS at hp ⊢
 split at hp
 · rename_i xs f _
   obtain ⟨⟨h0,hL⟩,l,rfl,hs⟩ := hp
   rw [List.length_map] at h0 hL
   refine ⟨by simp,sdPl,by kernel_rfl,?_⟩
   have hlp : (l.map AV.str).length = l.length := by simp
   have hem : empT (l.map AV.str) = false := by cases l with | nil => simp at h0 | cons _ _ => rfl
   have hex : ∃ es : List (List UInt8),l.map AV.str = es.map AV.str := ⟨l,rfl⟩
   have hex2 : ∃ es : List (List UInt8),l.map AV.str = es.map AV.str ∧ srtT es := ⟨l,rfl,hs⟩
   have hso : zhv l = l := sortL_self hs
   have hst := zlk l
   have d1 : decide (0 < l.length) = true := decide_eq_true h0
   have hl4 : l.length < 4611686018427387904 := by omega
   have htk : List.take l.length (l.map AV.str) = l.map AV.str := List.take_of_length_le (by simp)
   unfold Try.f37
   simp only [go_sem,zaa,Nat.reduceAdd,Nat.reduceSub,Nat.reduceMul,Int.reduceToNat,reduceCtorEq,↓reduceIte,Int.reducePow,Nat.reducePow,Int.reduceMod,Nat.reduceLeDiff,Int.reduceLE,Int.reduceNe,Int.reduceEq,Nat.reduceEqDiff,Nat.reduceLT,Nat.reduceBEq,List.map_cons,List.map_nil,List.toList_toArray,Array.toList_append,Option.toArray_some,Option.toArray_none,Bool.and_self,ty,Ssd19,Osd19,sdPl,cloTS,cmpTS,zof,hlp,hL,hem,hex,hex2,hso,hst,d1,h0,hl4,htk,ids_strs,zhj,zfw,cond_false]
   refine ⟨fun y hy => by obtain ⟨e,_,rfl⟩ := List.mem_map.1 hy; rfl,_,Weak.refl _,?_⟩
   simp only [go_sem,zaa,Nat.reduceAdd,Nat.reduceSub,Nat.reduceMul,Int.reduceToNat,reduceCtorEq,↓reduceIte,Int.reducePow,Nat.reducePow,Int.reduceMod,Nat.reduceLeDiff,Int.reduceLE,Int.reduceNe,Int.reduceEq,Nat.reduceEqDiff,Nat.reduceLT,Nat.reduceBEq,List.map_cons,List.map_nil,List.toList_toArray,Array.toList_append,Option.toArray_some,Option.toArray_none,Bool.and_self,ty]
 · exact hp.elim
end
end Go.Proofs.Ytolclgkginfiaaa
namespace Go.Proofs.Ytolclgkginfiaaa
open Ax
def iotI (s m : Nat) : List Int := (List.range m).map fun j => ((s + j : Nat) : Int)
def zjr (P n k : Nat) : Nat := P / n + (if k < P % n then 1 else 0)
def rgK (P n : Nat) : Nat → List (List Int) × Nat
 | 0 => ([],0)
 | k + 1 => ((rgK P n k).1 ++ [iotI (rgK P n k).2 (zjr P n k)],(rgK P n k).2 + zjr P n k)
def siA (l : List Int) : AV := .si l false
theorem znx (s m : Nat) : (iotI s m).length = m := by unfold iotI; simp
theorem zvv (s m : Nat) : iotI s m ++ [((s + m : Nat) : Int)] = iotI s (m + 1) := by
 unfold iotI; rw [List.range_succ,List.map_append]; rfl
theorem manyN_le (P n k : Nat) : zjr P n k ≤ P + 1 := by
 have := Nat.div_le_self P n
 unfold zjr; split <;> omega
theorem zmj (P n : Nat) : ∀ k,(rgK P n k).1.length = k
 | 0 => rfl
 | k + 1 => by simp only [rgK,List.length_append,List.length_cons,List.length_nil,zmj P n k]
theorem rgK_le (P n : Nat) : ∀ k,(rgK P n k).2 ≤ k * (P + 1)
 | 0 => by simp [rgK]
 | k + 1 => by
   have h1 := rgK_le P n k
   have h2 := manyN_le P n k
   have h3 : (k + 1) * (P + 1) = k * (P + 1) + (P + 1) := by rw [Nat.add_mul,Nat.one_mul]
   simp only [rgK]; omega
theorem zwt : ∀ (l : List (List Int)),closedL (l.map siA) = true
 | [] => rfl
 | x :: r => by simp only [List.map_cons,closedL,siA,AV.closed,Bool.true_and]; exact zwt r
theorem zff : ∀ (l : List (List Int)),idsL (l.map siA) = []
 | [] => rfl
 | x :: r => by simp only [List.map_cons,idsL,siA,AV.ids,List.nil_append]; exact zff r
theorem fi_si (id : Nat) (bs : List Int) : ∀ (l : List (List Int)),fiL id bs (l.map siA) = l.map siA
 | [] => rfl
 | x :: r => by
   simp only [List.map_cons,fiL,fi_si id bs r]; rfl
theorem zgj (g : Nat → Nat) : ∀ (l : List (List Int)),renL g (l.map siA) = l.map siA
 | [] => rfl
 | x :: r => by simp only [List.map_cons,renL,zgj g r]; rfl
def rgF (n : Nat) (p : Int) : List (List Int) := (rgK (clpN p) n n).1
def rgS : zar
 | [.sg 1 xs f,.w (.int .i64 p)],[] => ⟨(0 < xs.length ∧ xs.length ≤ 1000000) ∧ ∃ l : List (List UInt8),xs = l.map AV.str ∧ srtT l,.sg 1 ((rgF xs.length p).map siA) false,[]⟩
 | _,_ => zbq
def zmd (f : FuncId) : Option zar :=
 match f with
 | 37 => some sdTS
 | 49 => some clpS
 | _ => none
theorem Srg19_ok : Fns Try.prog zmd := by
 intro f s h
 unfold zmd at h
 split at h
 · injection h with h; subst h; exact ⟨⟨_,Try.func37,by kernel_rfl,by kernel_rfl⟩,zus⟩
 · injection h with h; subst h; exact ⟨⟨_,Try.func49,by kernel_rfl,by kernel_rfl⟩,clp_sound⟩
 · cases h
section
set_option maxRecDepth 100000
set_option maxHeartbeats 4000000
theorem rg_sound : zbn Try.prog 38 rgS := by
 refine zdy (S := zmd) (T := ty) mixed ty_ok Srg19_ok Try.func38 (c := Try.f38.body.getD .skip) (by kernel_rfl) (by kernel_rfl) (fun xs pins hp _ => ?_)
 unfold rgS at hp ⊢
 split at hp
 · rename_i xs f p _
   obtain ⟨⟨h0,hL⟩,l,rfl,hs⟩ := hp
   rw [List.length_map] at h0 hL
   refine ⟨by simp,?_⟩
   have hlp : (l.map AV.str).length = l.length := by simp
   have hex2 : ∃ es : List (List UInt8),l.map AV.str = es.map AV.str ∧ srtT es := ⟨l,rfl,hs⟩
   unfold rgF
   rw [hlp]
   have hPl := clpN_le p
   obtain ⟨P,hP⟩ : ∃ P,clpN p = P := ⟨_,rfl⟩
   rw [hP] at hPl ⊢
   obtain ⟨n,hn⟩ : ∃ n,l.length = n := ⟨_,rfl⟩
   rw [hn] at h0 hL hlp ⊢
   have hn0 : ((n : Int) = 0) = False := eq_false (by omega)
   have hnn : ((n : Int) ≠ 0) = True := eq_true (by omega)
   have hql := Nat.div_le_self P n
   have hMv : ∀ k,zjr P n k = P / n + (if k < P % n then 1 else 0) := fun k => rfl
   have hq : Int.tdiv (P : Int) (n : Int) = ((P / n : Nat) : Int) := rfl
   have hr : Int.tmod (P : Int) (n : Int) = ((P % n : Nat) : Int) := rfl
   obtain ⟨Q,hQ⟩ : ∃ Q,P / n = Q := ⟨_,rfl⟩
   obtain ⟨R,hR⟩ : ∃ R,P % n = R := ⟨_,rfl⟩
   rw [hQ] at hql hq
   rw [hR] at hr
   simp only [hQ,hR] at hMv
   have e4 : ((Q : Int) + 9223372036854775808) % 18446744073709551616 - 9223372036854775808 = (Q : Int) := by omega
   unfold Try.f38
   simp only [go_sem,zac,Nat.reduceAdd,Nat.reduceSub,Nat.reduceMul,Int.reduceToNat,reduceCtorEq,↓reduceIte,Int.reducePow,Nat.reducePow,Int.reduceMod,Nat.reduceLeDiff,Int.reduceLE,Int.reduceNe,Int.reduceEq,Nat.reduceEqDiff,Nat.reduceLT,Nat.reduceBEq,ty,zmd,sdTS,clpS,hlp,h0,hL,hex2,hP,zfw]
   refine zgv ⟨fun m σ => ∃ (k : Nat),m = n - k ∧ k ≤ n ∧
       σ = ⟨[.sg 1 (l.map .str) f,.w (.int .i64 p),.junk,.junk,.sg 1 [] true,.w (.int .i64 n),.w (.int .i64 P),.ms 4 1 0 k,.w (.int .i64 (rgK P n k).2),.junk,.junk,.junk,.junk,.junk,.junk,.junk,.junk,.w (.int .i64 n),.w (.int .i64 k),.junk,.junk,.junk,.junk,.junk,.junk,.junk,.junk,.junk,.junk,.junk,.junk,.junk,.junk,.junk,.junk,.junk,.junk,.junk,.junk,.junk,.junk,.junk,.junk,.junk,.junk,.junk,.junk],[(4,.g 1 ((rgK P n k).1.map siA))],5⟩,?_,?_⟩
   · refine ⟨_,_,(znp 7 1 (.g 1 []) ⟨by decide,rfl⟩ (by exact trivial)).trans (zal [0,1,2,3,100] rfl rfl rfl ?_ ?_),0,rfl,by omega,rfl⟩
     · simp only [ssT,zau,zav,setSlot,gOf,AV.ren,renL,Blk.ren,Ax.look,Ax.put,reduceCtorEq,↓reduceIte,Nat.reduceEqDiff,Nat.reduceLT,Nat.reduceAdd,List.length_append,List.length_cons,List.length_nil,Option.some.injEq]; try simp [rgK]
     · simp only [ssT,zau,zav,setSlot,gOf,AV.ren,renL,Blk.ren,Ax.look,Ax.put,reduceCtorEq,↓reduceIte,Nat.reduceEqDiff,Nat.reduceLT,Nat.reduceAdd,List.length_append,List.length_cons,List.length_nil,Option.some.injEq]; try simp [rgK,renL]
   · rintro m σ ⟨k,rfl,hk,rfl⟩
     have e1 : ((k : Int) + 1 + 9223372036854775808) % 18446744073709551616 - 9223372036854775808 = ((k + 1 : Nat) : Int) := by omega
     have hrl := rgK_le P n k
     have hrn := zmj P n k
     have hml := manyN_le P n k
     have hkp : k * (P + 1) ≤ 1000000 * 1001 := Nat.mul_le_mul (by omega) (by omega)
     by_cases hkl : k < n
     · have d3 : decide ((k : Int) < (n : Int)) = true := decide_eq_true (by omega)
       have hnx : (rgK P n (k + 1)) = ((rgK P n k).1 ++ [iotI (rgK P n k).2 (zjr P n k)],(rgK P n k).2 + zjr P n k) := rfl
       obtain ⟨L,s,hLs⟩ : ∃ L s,rgK P n k = (L,s) := ⟨_,_,rfl⟩
       rw [hLs] at hrl hrn hnx ⊢
       simp only at hrl hrn hnx ⊢
       obtain ⟨M,hM⟩ : ∃ M,zjr P n k = M := ⟨_,rfl⟩
       rw [hM] at hml hnx
       have hMk := hMv k
       rw [hM] at hMk
       by_cases hkR : k < R
       · rw [if_pos hkR] at hMk
         have d4 : decide ((k : Int) < (R : Int)) = true := decide_eq_true (by omega)
         have e5 : ((Q : Int) + 1 + 9223372036854775808) % 18446744073709551616 - 9223372036854775808 = (M : Int) := by omega
         simp only [go_sem,zac,Nat.reduceAdd,Nat.reduceSub,Nat.reduceMul,Int.reduceToNat,reduceCtorEq,↓reduceIte,Int.reducePow,Nat.reducePow,Int.reduceMod,Nat.reduceLeDiff,Int.reduceLE,Int.reduceNe,Int.reduceEq,Nat.reduceEqDiff,Nat.reduceLT,Nat.reduceBEq,ty,zmd,hn0,hnn,hq,hr,e4,e5,d3,d4]
         have hrl2 : (L.map siA).length = k := by simp [hrn]
         refine zgv ⟨fun m σ => ∃ (j : Nat),m = M - j ∧ j ≤ M ∧
             σ = ⟨[.sg 1 (l.map .str) f,.w (.int .i64 p),.junk,.junk,.sg 1 [] true,.w (.int .i64 n),.w (.int .i64 P),.ms 4 1 0 k,.w (.int .i64 ((s + j : Nat) : Int)),.w (.int .i64 k),.junk,.ms 5 1 0 j,.junk,.junk,.junk,.junk,.junk,.w (.int .i64 n),.w (.int .i64 k),.junk,.junk,.junk,.junk,.junk,.junk,.junk,.junk,.junk,.junk,.junk,.junk,.w (.int .i64 M),.w (.int .i64 j),.junk,.junk,.junk,.junk,.junk,.junk,.junk,.junk,.junk,.junk,.junk,.junk,.junk,.junk],[(4,.g 1 (L.map siA)),(5,.i (iotI s j))],6⟩,?_,?_⟩
         · refine ⟨_,_,(znp 11 1 (.i []) rfl (by exact trivial)).trans (zal [0,1,2,3,4,149] rfl rfl rfl ?_ ?_),0,rfl,by omega,rfl⟩
           · simp only [ssT,zau,zav,setSlot,gOf,AV.ren,renL,Blk.ren,Ax.look,Ax.put,reduceCtorEq,↓reduceIte,Nat.reduceEqDiff,Nat.reduceLT,Nat.reduceAdd,List.length_append,List.length_cons,List.length_nil,Option.some.injEq,zff,zgj]; try simp
           · simp only [ssT,zau,zav,setSlot,gOf,AV.ren,renL,Blk.ren,Ax.look,Ax.put,reduceCtorEq,↓reduceIte,Nat.reduceEqDiff,Nat.reduceLT,Nat.reduceAdd,List.length_append,List.length_cons,List.length_nil,Option.some.injEq,zff,zgj]; try simp [iotI]
         · rintro m σ ⟨j,rfl,hj,rfl⟩
           have e6 : ((j : Int) + 1 + 9223372036854775808) % 18446744073709551616 - 9223372036854775808 = ((j + 1 : Nat) : Int) := by omega
           have e7 : (((s + j : Nat) : Int) + 1 + 9223372036854775808) % 18446744073709551616 - 9223372036854775808 = ((s + (j + 1) : Nat) : Int) := by omega
           have hil := znx s j
           have hsn := zvv s j
           by_cases hjm : j < M
           · have d6 : decide ((j : Int) < (M : Int)) = true := decide_eq_true (by omega)
             simp only [go_sem,zac,Nat.reduceAdd,Nat.reduceSub,Nat.reduceMul,Int.reduceToNat,reduceCtorEq,↓reduceIte,Int.reducePow,Nat.reducePow,Int.reduceMod,Nat.reduceLeDiff,Int.reduceLE,Int.reduceNe,Int.reduceEq,Nat.reduceEqDiff,Nat.reduceLT,Nat.reduceBEq,ty,zmd,d6,e6,e7,hil,hsn,zff]
             repeat (first | refine And.intro (by omega) ?_ | refine And.intro (by unfold top; omega) ?_)
             refine ⟨M - (j + 1),_,by omega,zal [0,1,2,3,4,38] rfl rfl rfl ?_ ?_,j + 1,rfl,by omega,rfl⟩
             · simp only [ssT,zau,zav,setSlot,gOf,AV.ren,renL,Blk.ren,Ax.look,Ax.put,reduceCtorEq,↓reduceIte,Nat.reduceEqDiff,Nat.reduceLT,Nat.reduceAdd,List.length_append,List.length_cons,List.length_nil,Option.some.injEq,zff,zgj]; try simp
             · simp only [ssT,zau,zav,setSlot,gOf,AV.ren,renL,Blk.ren,Ax.look,Ax.put,reduceCtorEq,↓reduceIte,Nat.reduceEqDiff,Nat.reduceLT,Nat.reduceAdd,List.length_append,List.length_cons,List.length_nil,Option.some.injEq,zff,zgj]; try simp
           · have d6 : decide ((j : Int) < (M : Int)) = false := decide_eq_false (by omega)
             obtain rfl : j = M := by omega
             simp only [go_sem,zac,Nat.reduceAdd,Nat.reduceSub,Nat.reduceMul,Int.reduceToNat,reduceCtorEq,↓reduceIte,Int.reducePow,Nat.reducePow,Int.reduceMod,Nat.reduceLeDiff,Int.reduceLE,Int.reduceNe,Int.reduceEq,Nat.reduceEqDiff,Nat.reduceLT,Nat.reduceBEq,ty,zmd,d6,hil,zff]
             have hdle : decide (0 + j ≤ (iotI s j).length) = true := decide_eq_true (by rw [hil]; omega)
             have htk : List.take j (iotI s j) = iotI s j := List.take_of_length_le (by rw [hil]; omega)
             refine ⟨_,zye 5 11 (iotI s j) rfl (by simp [slot,AV.ids]),?_⟩
             simp only [fiL,fiH,AV.fi,Blk.fi,fi_si,Nat.reduceBEq,cond_true,cond_false,hdle,Bool.and_true,beq_self_eq_true,Bool.true_and,List.drop_zero,htk]
             simp only [go_sem,zac,Nat.reduceAdd,Nat.reduceSub,Nat.reduceMul,Int.reduceToNat,reduceCtorEq,↓reduceIte,Int.reducePow,Nat.reducePow,Int.reduceMod,Nat.reduceLeDiff,Int.reduceLE,Int.reduceNe,Int.reduceEq,Nat.reduceEqDiff,Nat.reduceLT,Nat.reduceBEq,ty,zmd,hrl2,e1,zff]
             have hap : L.map siA ++ [AV.si (iotI s j) false] = (L ++ [iotI s j]).map siA := by simp [siA]
             repeat (refine And.intro (by first | omega | (unfold top; omega)) ?_)
             refine ⟨n - (k + 1),_,by omega,zal [0,1,2,3,38] rfl rfl rfl ?_ ?_,k + 1,rfl,by omega,rfl⟩
             · simp only [ssT,zau,zav,setSlot,gOf,AV.ren,renL,Blk.ren,Ax.look,Ax.put,reduceCtorEq,↓reduceIte,Nat.reduceEqDiff,Nat.reduceLT,Nat.reduceAdd,List.length_append,List.length_cons,List.length_nil,Option.some.injEq,hnx]; try simp
             · simp only [ssT,zau,zav,setSlot,gOf,AV.ren,renL,Blk.ren,Ax.look,Ax.put,reduceCtorEq,↓reduceIte,Nat.reduceEqDiff,Nat.reduceLT,Nat.reduceAdd,List.length_append,List.length_cons,List.length_nil,Option.some.injEq,hnx,hap,zgj]; try simp [zgj]
       · rw [if_neg hkR,Nat.add_zero] at hMk
         subst hMk
         have d4 : decide ((k : Int) < (R : Int)) = false := decide_eq_false (by omega)
         simp only [go_sem,zac,Nat.reduceAdd,Nat.reduceSub,Nat.reduceMul,Int.reduceToNat,reduceCtorEq,↓reduceIte,Int.reducePow,Nat.reducePow,Int.reduceMod,Nat.reduceLeDiff,Int.reduceLE,Int.reduceNe,Int.reduceEq,Nat.reduceEqDiff,Nat.reduceLT,Nat.reduceBEq,ty,zmd,hn0,hnn,hq,hr,e4,d3,d4]
         have hrl2 : (L.map siA).length = k := by simp [hrn]
         refine zgv ⟨fun m σ => ∃ (j : Nat),m = M - j ∧ j ≤ M ∧
             σ = ⟨[.sg 1 (l.map .str) f,.w (.int .i64 p),.junk,.junk,.sg 1 [] true,.w (.int .i64 n),.w (.int .i64 P),.ms 4 1 0 k,.w (.int .i64 ((s + j : Nat) : Int)),.w (.int .i64 k),.junk,.ms 5 1 0 j,.junk,.junk,.junk,.junk,.junk,.w (.int .i64 n),.w (.int .i64 k),.junk,.junk,.junk,.junk,.junk,.junk,.junk,.junk,.junk,.junk,.junk,.junk,.w (.int .i64 M),.w (.int .i64 j),.junk,.junk,.junk,.junk,.junk,.junk,.junk,.junk,.junk,.junk,.junk,.junk,.junk,.junk],[(4,.g 1 (L.map siA)),(5,.i (iotI s j))],6⟩,?_,?_⟩
         · refine ⟨_,_,(znp 11 1 (.i []) rfl (by exact trivial)).trans (zal [0,1,2,3,4,125] rfl rfl rfl ?_ ?_),0,rfl,by omega,rfl⟩
           · simp only [ssT,zau,zav,setSlot,gOf,AV.ren,renL,Blk.ren,Ax.look,Ax.put,reduceCtorEq,↓reduceIte,Nat.reduceEqDiff,Nat.reduceLT,Nat.reduceAdd,List.length_append,List.length_cons,List.length_nil,Option.some.injEq,zff,zgj]; try simp
           · simp only [ssT,zau,zav,setSlot,gOf,AV.ren,renL,Blk.ren,Ax.look,Ax.put,reduceCtorEq,↓reduceIte,Nat.reduceEqDiff,Nat.reduceLT,Nat.reduceAdd,List.length_append,List.length_cons,List.length_nil,Option.some.injEq,zff,zgj]; try simp [iotI]
         · rintro m σ ⟨j,rfl,hj,rfl⟩
           have e6 : ((j : Int) + 1 + 9223372036854775808) % 18446744073709551616 - 9223372036854775808 = ((j + 1 : Nat) : Int) := by omega
           have e7 : (((s + j : Nat) : Int) + 1 + 9223372036854775808) % 18446744073709551616 - 9223372036854775808 = ((s + (j + 1) : Nat) : Int) := by omega
           have hil := znx s j
           have hsn := zvv s j
           by_cases hjm : j < M
           · have d6 : decide ((j : Int) < (M : Int)) = true := decide_eq_true (by omega)
             simp only [go_sem,zac,Nat.reduceAdd,Nat.reduceSub,Nat.reduceMul,Int.reduceToNat,reduceCtorEq,↓reduceIte,Int.reducePow,Nat.reducePow,Int.reduceMod,Nat.reduceLeDiff,Int.reduceLE,Int.reduceNe,Int.reduceEq,Nat.reduceEqDiff,Nat.reduceLT,Nat.reduceBEq,ty,zmd,d6,e6,e7,hil,hsn,zff]
             repeat (first | refine And.intro (by omega) ?_ | refine And.intro (by unfold top; omega) ?_)
             refine ⟨M - (j + 1),_,by omega,zal [0,1,2,3,4,38] rfl rfl rfl ?_ ?_,j + 1,rfl,by omega,rfl⟩
             · simp only [ssT,zau,zav,setSlot,gOf,AV.ren,renL,Blk.ren,Ax.look,Ax.put,reduceCtorEq,↓reduceIte,Nat.reduceEqDiff,Nat.reduceLT,Nat.reduceAdd,List.length_append,List.length_cons,List.length_nil,Option.some.injEq,zff,zgj]; try simp
             · simp only [ssT,zau,zav,setSlot,gOf,AV.ren,renL,Blk.ren,Ax.look,Ax.put,reduceCtorEq,↓reduceIte,Nat.reduceEqDiff,Nat.reduceLT,Nat.reduceAdd,List.length_append,List.length_cons,List.length_nil,Option.some.injEq,zff,zgj]; try simp
           · have d6 : decide ((j : Int) < (M : Int)) = false := decide_eq_false (by omega)
             obtain rfl : j = M := by omega
             simp only [go_sem,zac,Nat.reduceAdd,Nat.reduceSub,Nat.reduceMul,Int.reduceToNat,reduceCtorEq,↓reduceIte,Int.reducePow,Nat.reducePow,Int.reduceMod,Nat.reduceLeDiff,Int.reduceLE,Int.reduceNe,Int.reduceEq,Nat.reduceEqDiff,Nat.reduceLT,Nat.reduceBEq,ty,zmd,d6,hil,zff]
             have hdle : decide (0 + j ≤ (iotI s j).length) = true := decide_eq_true (by rw [hil]; omega)
             have htk : List.take j (iotI s j) = iotI s j := List.take_of_length_le (by rw [hil]; omega)
             refine ⟨_,zye 5 11 (iotI s j) rfl (by simp [slot,AV.ids]),?_⟩
             simp only [fiL,fiH,AV.fi,Blk.fi,fi_si,Nat.reduceBEq,cond_true,cond_false,hdle,Bool.and_true,beq_self_eq_true,Bool.true_and,List.drop_zero,htk]
             simp only [go_sem,zac,Nat.reduceAdd,Nat.reduceSub,Nat.reduceMul,Int.reduceToNat,reduceCtorEq,↓reduceIte,Int.reducePow,Nat.reducePow,Int.reduceMod,Nat.reduceLeDiff,Int.reduceLE,Int.reduceNe,Int.reduceEq,Nat.reduceEqDiff,Nat.reduceLT,Nat.reduceBEq,ty,zmd,hrl2,e1,zff]
             have hap : L.map siA ++ [AV.si (iotI s j) false] = (L ++ [iotI s j]).map siA := by simp [siA]
             repeat (refine And.intro (by first | omega | (unfold top; omega)) ?_)
             refine ⟨n - (k + 1),_,by omega,zal [0,1,2,3,38] rfl rfl rfl ?_ ?_,k + 1,rfl,by omega,rfl⟩
             · simp only [ssT,zau,zav,setSlot,gOf,AV.ren,renL,Blk.ren,Ax.look,Ax.put,reduceCtorEq,↓reduceIte,Nat.reduceEqDiff,Nat.reduceLT,Nat.reduceAdd,List.length_append,List.length_cons,List.length_nil,Option.some.injEq,hnx]; try simp
             · simp only [ssT,zau,zav,setSlot,gOf,AV.ren,renL,Blk.ren,Ax.look,Ax.put,reduceCtorEq,↓reduceIte,Nat.reduceEqDiff,Nat.reduceLT,Nat.reduceAdd,List.length_append,List.length_cons,List.length_nil,Option.some.injEq,hnx,hap,zgj]; try simp [zgj]
     · have d3 : decide ((k : Int) < (n : Int)) = false := decide_eq_false (by omega)
       obtain rfl : k = n := by omega
       have hrl2 : ((rgK P k k).1.map siA).length = k := by simp [hrn]
       simp only [go_sem,zac,Nat.reduceAdd,Nat.reduceSub,Nat.reduceMul,Int.reduceToNat,reduceCtorEq,↓reduceIte,Int.reducePow,Nat.reducePow,Int.reduceMod,Nat.reduceLeDiff,Int.reduceLE,Int.reduceNe,Int.reduceEq,Nat.reduceEqDiff,Nat.reduceLT,Nat.reduceBEq,ty,zmd,d3]
       have hdle : decide (0 + k ≤ ((rgK P k k).1.map siA).length) = true := decide_eq_true (by rw [hrl2]; omega)
       have htk : List.take k ((rgK P k k).1.map siA) = (rgK P k k).1.map siA := List.take_of_length_le (by rw [hrl2]; omega)
       refine ⟨_,zgz 4 1 7 ((rgK P k k).1.map siA) rfl (zwt _) (by simp [slot,AV.ids]),?_⟩
       simp only [fgL,fgH,AV.fg,Blk.fg,Nat.reduceBEq,cond_true,cond_false,hdle,Bool.and_true,beq_self_eq_true,Bool.true_and,List.drop_zero,htk]
       simp only [go_sem,zac,Nat.reduceAdd,Nat.reduceSub,Nat.reduceMul,Int.reduceToNat,reduceCtorEq,↓reduceIte,Int.reducePow,Nat.reducePow,Int.reduceMod,Nat.reduceLeDiff,Int.reduceLE,Int.reduceNe,Int.reduceEq,Nat.reduceEqDiff,Nat.reduceLT,Nat.reduceBEq,ty,zmd]
 · exact hp.elim
end
end Go.Proofs.Ytolclgkginfiaaa
namespace Go.Proofs.Ytolclgkginfiaaa
open Ax
theorem ztk (g : Nat → Nat) : ∀ (l : List Mb),renL g (l.map fun m => AV.str m.d) = l.map fun m => AV.str m.d
 | [] => rfl
 | x :: r => by simp only [List.map_cons,renL,ztk g r]; rfl
theorem slot_si : ∀ (l : List (List Int)) (i : Nat) (h : i < l.length),slot (l.map siA) i = .si l[i] false
 | _ :: _,0,_ => rfl
 | _ :: r,i + 1,h => by
   simp only [List.map_cons,slot,List.getElem_cons_succ]
   exact slot_si r i (by simpa using h)
def ofF (l : List (List UInt8)) (p : Int) (v : List UInt8) : List Int := (rgF l.length p).getD (plT v l) []
def ofS : zar
 | [.sg 1 xs f,.w (.int .i64 p),.str v],[] => ⟨xs.length ≤ 1000000 ∧ ∃ l : List (List UInt8),xs = l.map AV.str ∧ srtT l ∧ thT v l = true,.si (ofF (xs.map strB) p v) false,[]⟩
 | _,_ => zbq
def Sof19 (f : FuncId) : Option zar :=
 match f with
 | 37 => some sdTS
 | 38 => some rgS
 | 36 => some bsTS
 | _ => none
theorem Sof19_ok : Fns Try.prog Sof19 := by
 intro f s h
 unfold Sof19 at h
 split at h
 · injection h with h; subst h; exact ⟨⟨_,Try.func37,by kernel_rfl,by kernel_rfl⟩,zus⟩
 · injection h with h; subst h; exact ⟨⟨_,Try.func38,by kernel_rfl,by kernel_rfl⟩,rg_sound⟩
 · injection h with h; subst h; exact ⟨⟨_,Try.func36,by kernel_rfl,by kernel_rfl⟩,bsT_sound⟩
 · cases h
section
set_option maxRecDepth 100000
set_option maxHeartbeats 4000000
theorem of_sound : zbn Try.prog 22 ofS := by
 refine zdy (S := Sof19) (T := ty) mixed ty_ok Sof19_ok Try.func22 (c := Try.f22.body.getD .skip) (by kernel_rfl) (by kernel_rfl) (fun xs pins hp _ => ?_)
 unfold ofS at hp ⊢
 split at hp
 · rename_i xs f p v _
   obtain ⟨hL,l,rfl,hs,ht⟩ := hp
   rw [List.length_map] at hL
   refine ⟨by simp,?_⟩
   have hlp : (l.map AV.str).length = l.length := by simp
   have hex2 : ∃ es : List (List UInt8),l.map AV.str = es.map AV.str ∧ srtT es := ⟨l,rfl,hs⟩
   have hst := zlk l
   have hpl : plT v l < l.length := by
     rcases Nat.lt_or_ge (plT v l) l.length with h | h
     · exact h
     · rw [thT_end (by omega)] at ht; cases ht
   have h0 : 0 < l.length := by omega
   have hrl : (rgF l.length p).length = l.length := zmj _ _ _
   have hsl := slot_si (rgF l.length p) (plT v l) (by omega)
   have hof : ofF l p v = (rgF l.length p)[plT v l]'(by omega) := by unfold ofF; rw [List.getD_eq_getElem?_getD,List.getElem?_eq_getElem (by omega)]; rfl
   rw [hst,hof]
   have hrm : ((rgF l.length p).map siA).length = l.length := by simp [hrl]
   obtain ⟨X,hX⟩ : ∃ X,(rgF l.length p)[plT v l]'(by omega) = X := ⟨_,rfl⟩
   rw [hX] at hsl ⊢
   clear hof hX
   obtain ⟨G,hG⟩ : ∃ G,rgF l.length p = G := ⟨_,rfl⟩
   obtain ⟨K,hK⟩ : ∃ K,plT v l = K := ⟨_,rfl⟩
   rw [hG,hK] at hsl
   rw [hG] at hrm
   rw [hK] at hpl
   have hcg : ∀ h,coe ty 67 (.sg 1 (G.map siA) h) = .sg 1 (G.map siA) h := fun h => by cases G <;> rfl
   unfold Try.f22
   simp only [go_sem,zac,Nat.reduceAdd,Nat.reduceSub,Nat.reduceMul,Int.reduceToNat,reduceCtorEq,↓reduceIte,Int.reducePow,Nat.reducePow,Int.reduceMod,Nat.reduceLeDiff,Int.reduceLE,Int.reduceNe,Int.reduceEq,Nat.reduceEqDiff,Nat.reduceLT,Nat.reduceBEq,ty,Sof19,sdTS,rgS,bsTS,hlp,h0,hL,hex2,hst,ht,hG,hK,hsl,hrm,hpl,zfw,hcg,Int.toNat_natCast,Bool.not_true]
   omega
 · exact hp.elim
end
def namS : zar
 | [.agg [.w (.int .i64 gn),.w (.int .u8 ph),.sg 3 xs f]],[] => ⟨xs.length ≤ 1000000 ∧ ∃ l : List Mb,xs = l.map mbA,.sg 1 ((xs.map umb).map fun m => .str m.d) false,[]⟩
 | _,_ => zbq
section
set_option maxRecDepth 100000
set_option maxHeartbeats 4000000
theorem zvh : zbn Try.prog 5 namS := by
 refine zdy (S := noS) (T := ty) mixed ty_ok zcm Try.func5 (c := Try.f5.body.getD .skip) (by kernel_rfl) (by kernel_rfl) (fun xs pins hp _ => ?_)
 unfold namS at hp ⊢
 split at hp
 · rename_i gn ph xs f _
   obtain ⟨hL,l,rfl⟩ := hp
   rw [List.length_map] at hL
   have hlp : (l.map mbA).length = l.length := by simp
   have hmm := zap l
   rw [hmm]
   refine ⟨by simp,?_⟩
   unfold Try.f5
   simp only [go_sem,zac,Nat.reduceAdd,Nat.reduceSub,Nat.reduceMul,Int.reduceToNat,reduceCtorEq,↓reduceIte,Int.reducePow,Nat.reducePow,Int.reduceMod,Nat.reduceLeDiff,Int.reduceLE,Int.reduceNe,Int.reduceEq,Nat.reduceEqDiff,Nat.reduceLT,Nat.reduceBEq,ty,noS,hlp]
   refine zgv ⟨fun m σ => ∃ (k : Nat),m = l.length - k ∧ k ≤ l.length ∧
       σ = ⟨[.agg [.w (.int .i64 gn),.w (.int .u8 ph),.sg 3 (l.map mbA) f],.junk,.sg 1 [] true,.ms 4 1 0 k,.junk,.junk,.junk,.sg 3 (l.map mbA) f,.w (.int .i64 l.length),.w (.int .i64 k),.junk,.junk,.junk,.junk,.junk,.junk,.junk,.junk,.junk,.junk],[(4,.g 1 ((l.take k).map fun m => .str m.d))],5⟩,?_,?_⟩
   · refine ⟨_,_,(znp 3 1 (.g 1 []) ⟨by decide,rfl⟩ (by exact trivial)).trans (zal [0,1,2,3,60] rfl rfl rfl ?_ ?_),0,rfl,by omega,rfl⟩
     · simp only [ssT,zau,zav,setSlot,gOf,AV.ren,renL,Blk.ren,Ax.look,Ax.put,reduceCtorEq,↓reduceIte,Nat.reduceEqDiff,Nat.reduceLT,Nat.reduceAdd,List.length_append,List.length_cons,List.length_nil,Option.some.injEq]; try simp
     · simp only [ssT,zau,zav,setSlot,gOf,AV.ren,renL,Blk.ren,Ax.look,Ax.put,reduceCtorEq,↓reduceIte,Nat.reduceEqDiff,Nat.reduceLT,Nat.reduceAdd,List.length_append,List.length_cons,List.length_nil,Option.some.injEq]; try simp [renL]
   · rintro m σ ⟨k,rfl,hk,rfl⟩
     have e1 : ((k : Int) + 1 + 9223372036854775808) % 18446744073709551616 - 9223372036854775808 = ((k + 1 : Nat) : Int) := by omega
     have hrn : (((l.take k).map fun m => AV.str m.d)).length = k := by simp; omega
     by_cases hkl : k < l.length
     · have d3 : decide ((k : Int) < (l.length : Int)) = true := decide_eq_true (by omega)
       have hs1 := zeh l k hkl
       have hap : ((l.take k).map fun m => AV.str m.d) ++ [.str (l[k]).d] = (l.take (k + 1)).map fun m => AV.str m.d := by
         rw [List.take_succ_eq_append_getElem hkl,List.map_append]; rfl
       obtain ⟨X,hX⟩ : ∃ X,l[k] = X := ⟨_,rfl⟩
       rw [hX] at hs1 hap
       obtain ⟨xd,xt,xy⟩ := X
       have hs1 : slot (l.map mbA) k = .agg [.str xd,.w (.int .i64 xt),.w (.bool xy)] := hs1
       simp only at hap
       simp only [go_sem,zac,Nat.reduceAdd,Nat.reduceSub,Nat.reduceMul,Int.reduceToNat,reduceCtorEq,↓reduceIte,Int.reducePow,Nat.reducePow,Int.reduceMod,Nat.reduceLeDiff,Int.reduceLE,Int.reduceNe,Int.reduceEq,Nat.reduceEqDiff,Nat.reduceLT,Nat.reduceBEq,ty,noS,hlp,d3,hs1,e1,hrn,hap,Int.toNat_natCast]
       refine ⟨⟨by omega,hkl⟩,by unfold top; omega,l.length - (k + 1),_,by omega,zal [0,1,2,3,77] rfl rfl rfl ?_ ?_,k + 1,rfl,by omega,rfl⟩
       · simp only [ssT,zau,zav,setSlot,gOf,AV.ren,renL,Blk.ren,Ax.look,Ax.put,reduceCtorEq,↓reduceIte,Nat.reduceEqDiff,Nat.reduceLT,Nat.reduceAdd,List.length_append,List.length_cons,List.length_nil,Option.some.injEq,zak]; try simp
       · simp only [ssT,zau,zav,setSlot,gOf,AV.ren,renL,Blk.ren,Ax.look,Ax.put,reduceCtorEq,↓reduceIte,Nat.reduceEqDiff,Nat.reduceLT,Nat.reduceAdd,List.length_append,List.length_cons,List.length_nil,Option.some.injEq,ztk]; try rw [ztk]
     · have d3 : decide ((k : Int) < (l.length : Int)) = false := decide_eq_false (by omega)
       obtain rfl : k = l.length := by omega
       have hcl : closedL (l.map fun m => AV.str m.d) = true := by
         have := zhj (l.map fun m => m.d)
         rw [List.map_map] at this; exact this
       have htt : l.take l.length = l := List.take_length
       rw [htt] at hrn ⊢
       simp only [go_sem,zac,Nat.reduceAdd,Nat.reduceSub,Nat.reduceMul,Int.reduceToNat,reduceCtorEq,↓reduceIte,Int.reducePow,Nat.reducePow,Int.reduceMod,Nat.reduceLeDiff,Int.reduceLE,Int.reduceNe,Int.reduceEq,Nat.reduceEqDiff,Nat.reduceLT,Nat.reduceBEq,ty,noS,d3]
       have hdle : decide (0 + l.length ≤ (l.map fun m => AV.str m.d).length) = true := decide_eq_true (by rw [hrn]; omega)
       have htk : List.take l.length (l.map fun m => AV.str m.d) = l.map fun m => AV.str m.d := List.take_of_length_le (by rw [hrn]; omega)
       refine ⟨_,zgz 4 1 3 (l.map fun m => AV.str m.d) rfl hcl (by simp [slot,AV.ids]),?_⟩
       simp only [fgL,fgH,AV.fg,Blk.fg,Nat.reduceBEq,cond_true,cond_false,hdle,Bool.and_true,beq_self_eq_true,Bool.true_and,List.drop_zero,htk]
       simp only [go_sem,zac,Nat.reduceAdd,Nat.reduceSub,Nat.reduceMul,Int.reduceToNat,reduceCtorEq,↓reduceIte,Int.reducePow,Nat.reducePow,Int.reduceMod,Nat.reduceLeDiff,Int.reduceLE,Int.reduceNe,Int.reduceEq,Nat.reduceEqDiff,Nat.reduceLT,Nat.reduceBEq,ty,noS]
 · exact hp.elim
end
end Go.Proofs.Ytolclgkginfiaaa
namespace Go.Proofs.Ytolclgkginfiaaa
open Ax
theorem bl_tot : ∀ {x y : List UInt8},x ≠ y → Op.bytesLess x y = false → Op.bytesLess y x = true
 | [],[],h,_ => absurd rfl h
 | [],_ :: _,_,h1 => by simp [Op.bytesLess] at h1
 | _ :: _,[],_,_ => rfl
 | a :: x,b :: y,h,h1 => by
   simp only [Op.bytesLess,Bool.or_eq_true,Bool.or_eq_false_iff,decide_eq_true_eq,decide_eq_false_iff_not,Bool.and_eq_true,beq_iff_eq] at *
   by_cases hab : a = b
   · subst hab
     refine .inr ⟨rfl,bl_tot (fun e => h (by rw [e])) ?_⟩
     have := h1.2
     simpa using this
   · left
     rw [UInt8.lt_iff_toNat_lt] at *
     have : a.toNat ≠ b.toNat := fun e => hab (UInt8.toNat_inj.1 e)
     have := h1.1
     omega
def aft (p : Option (List UInt8)) (v : List UInt8) : Prop := ∀ q,p = some q → leD v q = false
theorem zon (p : Option (List UInt8)) (a : Mb) (r : List Mb) : zei p (a :: r) = true ↔ rowB a = true ∧ aft p a.d ∧ zei (some a.d) r = true := by
 cases p with
 | none => simp [zei,aft]
 | some q => simp [zei,aft]
end Go.Proofs.Ytolclgkginfiaaa
