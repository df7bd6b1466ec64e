/- What the proofs of this seat stand on; it asks nothing. -/
import Derived.Test.YthjceeimbohajaaYba08
set_option linter.unusedSimpArgs false
set_option linter.unusedVariables false
namespace Go.Proofs.Ythjceeimbohajaa
open Ax
def zbh (f : FuncId) : Option zap :=
 match f with
 | 36 => some outS
 | 63 => some aheadS
 | 64 => some spotS
 | 66 => some inS
 | 67 => some mayWS
 | 68 => some raheadS
 | _ => none
theorem Schk35_ok : Fns Try.prog zbh := by
 intro f s h
 unfold zbh at h
 split at h
 · injection h with h; subst h; exact ⟨⟨_,Try.func36,by kernel_rfl,by kernel_rfl⟩,out_sound⟩
 · injection h with h; subst h; exact ⟨⟨_,Try.func63,by kernel_rfl,by kernel_rfl⟩,ahead_sound⟩
 · injection h with h; subst h; exact ⟨⟨_,Try.func64,by kernel_rfl,by kernel_rfl⟩,spot_sound⟩
 · injection h with h; subst h; exact ⟨⟨_,Try.func66,by kernel_rfl,by kernel_rfl⟩,in_sound⟩
 · injection h with h; subst h; exact ⟨⟨_,Try.func67,by kernel_rfl,by kernel_rfl⟩,oneW_sound⟩
 · injection h with h; subst h; exact ⟨⟨_,Try.func68,by kernel_rfl,by kernel_rfl⟩,rahead_sound⟩
 · cases h
def zeb (f : FuncId) : Option zap :=
 match f with
 | 60 => some cont35S
 | _ => none
theorem Ochk35_ok : FnsO Try.prog zeb := by
 intro f s h
 unfold zeb at h
 split at h
 · injection h with h; subst h; exact ⟨⟨_,Try.func60,by kernel_rfl,by kernel_rfl⟩,cont35_sound⟩
 · cases h
def zbq : Plan := fun id => match id with
 | 6 => some []
 | 11 => some []
 | _ => none
section
set_option maxRecDepth 100000
set_option maxHeartbeats 32000000 in
theorem chkW_sound : zaz Try.prog 28 chkWS := by
 refine fn_soundOK (S := zbh) (SO := zeb) (T := ty) zbi ty_ok Schk35_ok Ochk35_ok Try.func28 (c := Try.f28.body.getD .skip) (by kernel_rfl) (fun xs pins hp _ => ?_)
 unfold chkWS at hp ⊢
 split at hp
 · rename_i Z L M D xs f _
   obtain ⟨hL,l,rfl⟩ := hp
   rw [List.length_map] at hL
   have hle : (l.map wsA).length = l.length := by simp
   have hcl := zbm l
   have hc : ∀ f,coe ty 31 (.sg 6 (l.map wsA) f) = .sg 6 (l.map wsA) f := fun f => by cases l <;> rfl
   have hex : ∃ p : List WS,l.map wsA = p.map wsA := ⟨l,rfl⟩
   rw [zax]
   refine ⟨by simp,zde,by kernel_rfl,?_⟩
   unfold Try.f28
   rcases hd_cases Z L M D l.length with Q | Q | Q | Q | Q | Q
   · have hch : chW Z L M D l = 11 := if_pos Q.2
     rw [hch]
     simp only [go_sem,zae,Nat.reduceAdd,Nat.reduceSub,Nat.reduceMul,Int.reduceToNat,reduceCtorEq,↓reduceIte,Int.reducePow,Nat.reducePow,Int.reduceMod,Nat.reduceLeDiff,Int.reduceLE,Int.reduceNe,Int.reduceEq,Nat.reduceEqDiff,Nat.reduceLT,Nat.reduceBEq,List.map_cons,List.map_nil,List.toList_toArray,Array.toList_append,Option.toArray_some,Option.toArray_none,Bool.and_self,ty,zbh,zeb,zde,outS,hle,Q.1,Bool.not_true,Bool.not_false]
     exact zav 2 rfl
   · have hch : chW Z L M D l = 11 := if_pos Q.2.2
     rw [hch]
     simp only [go_sem,zae,Nat.reduceAdd,Nat.reduceSub,Nat.reduceMul,Int.reduceToNat,reduceCtorEq,↓reduceIte,Int.reducePow,Nat.reducePow,Int.reduceMod,Nat.reduceLeDiff,Int.reduceLE,Int.reduceNe,Int.reduceEq,Nat.reduceEqDiff,Nat.reduceLT,Nat.reduceBEq,List.map_cons,List.map_nil,List.toList_toArray,Array.toList_append,Option.toArray_some,Option.toArray_none,Bool.and_self,ty,zbh,zeb,zde,outS,hle,Q.1,Q.2.1,Bool.not_true,Bool.not_false]
     exact zav 2 rfl
   · have hch : chW Z L M D l = 11 := if_pos Q.2.2.2
     rw [hch]
     simp only [go_sem,zae,Nat.reduceAdd,Nat.reduceSub,Nat.reduceMul,Int.reduceToNat,reduceCtorEq,↓reduceIte,Int.reducePow,Nat.reducePow,Int.reduceMod,Nat.reduceLeDiff,Int.reduceLE,Int.reduceNe,Int.reduceEq,Nat.reduceEqDiff,Nat.reduceLT,Nat.reduceBEq,List.map_cons,List.map_nil,List.toList_toArray,Array.toList_append,Option.toArray_some,Option.toArray_none,Bool.and_self,ty,zbh,zeb,zde,outS,hle,Q.1,Q.2.1,Q.2.2.1,Bool.not_true,Bool.not_false]
     exact zav 2 rfl
   · have hch : chW Z L M D l = 11 := if_pos Q.2.2.2.2
     rw [hch]
     simp only [go_sem,zae,Nat.reduceAdd,Nat.reduceSub,Nat.reduceMul,Int.reduceToNat,reduceCtorEq,↓reduceIte,Int.reducePow,Nat.reducePow,Int.reduceMod,Nat.reduceLeDiff,Int.reduceLE,Int.reduceNe,Int.reduceEq,Nat.reduceEqDiff,Nat.reduceLT,Nat.reduceBEq,List.map_cons,List.map_nil,List.toList_toArray,Array.toList_append,Option.toArray_some,Option.toArray_none,Bool.and_self,ty,zbh,zeb,zde,outS,hle,Q.1,Q.2.1,Q.2.2.1,Q.2.2.2.1,Bool.not_true,Bool.not_false]
     exact zav 2 rfl
   · have hch : chW Z L M D l = 11 := if_pos Q.2.2.2.2.2
     rw [hch]
     simp only [go_sem,zae,Nat.reduceAdd,Nat.reduceSub,Nat.reduceMul,Int.reduceToNat,reduceCtorEq,↓reduceIte,Int.reducePow,Nat.reducePow,Int.reduceMod,Nat.reduceLeDiff,Int.reduceLE,Int.reduceNe,Int.reduceEq,Nat.reduceEqDiff,Nat.reduceLT,Nat.reduceBEq,List.map_cons,List.map_nil,List.toList_toArray,Array.toList_append,Option.toArray_some,Option.toArray_none,Bool.and_self,ty,zbh,zeb,zde,outS,hle,Q.1,Q.2.1,Q.2.2.1,Q.2.2.2.1,Q.2.2.2.2.1,Bool.not_true,Bool.not_false]
     exact zav 2 rfl
   obtain ⟨q1,q2,q3,q4,q5,q6⟩ := Q
   have hch : chW Z L M D l = if l.all (okr Z) = true then (if risW l = true then 0 else 16) else 11 := if_neg (by rw [q6]; simp)
   have hz : ¬ Z = 0 := by have := zbd q1; omega
   rw [hch]
   cases hA : l.all (okr Z) with
   | false =>
     rw [if_neg (by simp)]
     simp only [go_sem,zae,Nat.reduceAdd,Nat.reduceSub,Nat.reduceMul,Int.reduceToNat,reduceCtorEq,↓reduceIte,Int.reducePow,Nat.reducePow,Int.reduceMod,Nat.reduceLeDiff,Int.reduceLE,Int.reduceNe,Int.reduceEq,Nat.reduceEqDiff,Nat.reduceLT,Nat.reduceBEq,List.map_cons,List.map_nil,List.toList_toArray,Array.toList_append,Option.toArray_some,Option.toArray_none,Bool.and_self,ty,zbh,zeb,zde,outS,cont35S,hle,hL,hz,hc,hex,zax,q1,q2,q3,q4,q5,hA,Bool.not_true,Bool.not_false]
     try (refine ⟨_,Weak.refl _,?_⟩)
     try simp only [go_sem,zae,Nat.reduceAdd,Nat.reduceSub,Nat.reduceMul,Int.reduceToNat,reduceCtorEq,↓reduceIte,Int.reducePow,Nat.reducePow,Int.reduceMod,Nat.reduceLeDiff,Int.reduceLE,Int.reduceNe,Int.reduceEq,Nat.reduceEqDiff,Nat.reduceLT,Nat.reduceBEq,List.map_cons,List.map_nil,List.toList_toArray,Array.toList_append,Option.toArray_some,Option.toArray_none,Bool.and_self,ty,zbh,zeb,zde]
     first | exact zav 2 rfl | skip
   | true =>
     rw [if_pos rfl]
     simp only [go_sem,zae,Nat.reduceAdd,Nat.reduceSub,Nat.reduceMul,Int.reduceToNat,reduceCtorEq,↓reduceIte,Int.reducePow,Nat.reducePow,Int.reduceMod,Nat.reduceLeDiff,Int.reduceLE,Int.reduceNe,Int.reduceEq,Nat.reduceEqDiff,Nat.reduceLT,Nat.reduceBEq,List.map_cons,List.map_nil,List.toList_toArray,Array.toList_append,Option.toArray_some,Option.toArray_none,Bool.and_self,ty,zbh,zeb,zde,outS,cont35S,hle,hL,hz,hc,hex,zax,q1,q2,q3,q4,q5,hA,hcl,Bool.not_true,Bool.not_false]
     refine awpO_loopW ⟨fun m σ => ∃ i : Nat,m = l.length - i ∧ 1 ≤ i ∧ (i ≤ l.length ∨ i = 1) ∧ risW (l.drop (i - 1)) = risW l ∧
       σ = ⟨[.agg [.w (.int .i64 Z),.w (.int .i64 L),.w (.int .i64 M),.w (.int .i64 D),.sg 6 (l.map wsA) f],.rf 4 5 0 0,.w (.int .i64 0),.w (.int .i64 i),.junk,.junk,.junk,.junk,.junk,.junk,.junk,.junk,.junk,.junk,.junk,.junk,.junk,.junk,.junk,.junk,.junk,.junk,.junk,.junk,.junk,.junk,.junk,.junk,.junk,.junk,.junk,.junk,.junk,.junk,.junk,.junk,.junk,.junk,.junk,.junk,.junk,.junk,.junk,.junk,.junk,.junk,.junk,.junk,.junk,.junk,.junk,.junk,.junk],[(4,.g 5 [.agg [.w (.int .i64 Z),.w (.int .i64 L),.w (.int .i64 M),.w (.int .i64 D),.sg 6 (l.map wsA) f]])],5⟩,?_,?_⟩
     · refine ⟨_,_,zaj [0,1,2,3,4] rfl rfl rfl ?_ ?_,1,rfl,by omega,by omega,rfl,rfl⟩
       · simp only [ssT,zar,zas,setSlot,gOf,AV.ren,renL,Blk.ren,Ax.look,Ax.put,reduceCtorEq,↓reduceIte,Nat.reduceEqDiff,Nat.reduceLT,Nat.reduceAdd,List.length_append,List.length_cons,List.length_nil,Option.some.injEq]; try simp
       · simp only [ssT,zar,zas,setSlot,gOf,AV.ren,renL,Blk.ren,Ax.look,Ax.put,reduceCtorEq,↓reduceIte,Nat.reduceEqDiff,Nat.reduceLT,Nat.reduceAdd,List.length_append,List.length_cons,List.length_nil,Option.some.injEq]; try simp
     · rintro m σ ⟨i,rfl,hi1,hi,hb,rfl⟩
       by_cases hil : i < l.length
       · have d2 : decide ((i : Int) < l.length) = true := decide_eq_true (by omega)
         have e1 : ((i : Int) + 1 + 9223372036854775808) % 18446744073709551616 - 9223372036854775808 = ((i + 1 : Nat) : Int) := by omega
         have e2 : ((i : Int) - 1 + 9223372036854775808) % 18446744073709551616 - 9223372036854775808 = ((i - 1 : Nat) : Int) := by omega
         have hs1 := zck l i hil
         have hs2 := zck l (i - 1) (by omega)
         have hd := risW_drop l (i - 1) (by omega)
         rw [hb] at hd
         have hi11 : i - 1 + 1 = i := by omega
         simp only [hi11] at hd
         obtain ⟨p,hp1⟩ : ∃ x,l[i] = x := ⟨_,rfl⟩
         obtain ⟨q,hq1⟩ : ∃ x,l[i - 1]'(by omega) = x := ⟨_,rfl⟩
         rw [hp1] at hs1
         rw [hq1] at hs2
         rw [hp1,hq1] at hd
         obtain ⟨s1,k1,c1,t1,a1,b1⟩ := p
         obtain ⟨s2,k2,c2,t2,a2,b2⟩ := q
         have hs1 : slot (l.map wsA) i = .agg [.w (.int .i64 s1),.str k1,.w (.int .i64 c1),.w (.int .i64 t1),.w (.int .i64 a1),.w (.int .i64 b1)] := hs1
         have hs2 : slot (l.map wsA) (i - 1) = .agg [.w (.int .i64 s2),.str k2,.w (.int .i64 c2),.w (.int .i64 t2),.w (.int .i64 a2),.w (.int .i64 b2)] := hs2
         have hd : risW l = (ahB s2 k2 s1 k1 && risW (l.drop i)) := hd
         cases hB : ahB s2 k2 s1 k1 with
         | true =>
           rw [hB,Bool.true_and] at hd
           simp only [go_sem,zae,Nat.reduceAdd,Nat.reduceSub,Nat.reduceMul,Int.reduceToNat,reduceCtorEq,↓reduceIte,Int.reducePow,Nat.reducePow,Int.reduceMod,Nat.reduceLeDiff,Int.reduceLE,Int.reduceNe,Int.reduceEq,Nat.reduceEqDiff,Nat.reduceLT,Nat.reduceBEq,List.map_cons,List.map_nil,List.toList_toArray,Array.toList_append,Option.toArray_some,Option.toArray_none,Bool.and_self,ty,zbh,zeb,zde,outS,aheadS,spotS,hle,d2,hs1,hs2,e1,e2,hB,Bool.not_true,Bool.not_false,Int.toNat_natCast]
           repeat (refine And.intro (by omega) ?_)
           refine ⟨l.length - (i + 1),_,by omega,zaj [0,1,2,3,4] rfl rfl rfl ?_ ?_,i + 1,rfl,by omega,by omega,?_,rfl⟩
           · simp only [ssT,zar,zas,setSlot,gOf,AV.ren,renL,Blk.ren,Ax.look,Ax.put,reduceCtorEq,↓reduceIte,Nat.reduceEqDiff,Nat.reduceLT,Nat.reduceAdd,List.length_append,List.length_cons,List.length_nil,Option.some.injEq]; try simp
           · simp only [ssT,zar,zas,setSlot,gOf,AV.ren,renL,Blk.ren,Ax.look,Ax.put,reduceCtorEq,↓reduceIte,Nat.reduceEqDiff,Nat.reduceLT,Nat.reduceAdd,List.length_append,List.length_cons,List.length_nil,Option.some.injEq]; try simp
           · show risW (l.drop i) = _
             exact hd.symm
         | false =>
           rw [hB,Bool.false_and] at hd
           rw [if_neg (by rw [hd]; simp)]
           simp only [go_sem,zae,Nat.reduceAdd,Nat.reduceSub,Nat.reduceMul,Int.reduceToNat,reduceCtorEq,↓reduceIte,Int.reducePow,Nat.reducePow,Int.reduceMod,Nat.reduceLeDiff,Int.reduceLE,Int.reduceNe,Int.reduceEq,Nat.reduceEqDiff,Nat.reduceLT,Nat.reduceBEq,List.map_cons,List.map_nil,List.toList_toArray,Array.toList_append,Option.toArray_some,Option.toArray_none,Bool.and_self,ty,zbh,zeb,zde,outS,aheadS,spotS,hle,d2,hs1,hs2,e1,e2,hB,Bool.not_true,Bool.not_false,Int.toNat_natCast]
           repeat (refine And.intro (by omega) ?_)
           refine ⟨_,Weak.refl _,?_⟩
           simp only [go_sem,zae,Nat.reduceAdd,Nat.reduceSub,Nat.reduceMul,Int.reduceToNat,reduceCtorEq,↓reduceIte,Int.reducePow,Nat.reducePow,Int.reduceMod,Nat.reduceLeDiff,Int.reduceLE,Int.reduceNe,Int.reduceEq,Nat.reduceEqDiff,Nat.reduceLT,Nat.reduceBEq,List.map_cons,List.map_nil,List.toList_toArray,Array.toList_append,Option.toArray_some,Option.toArray_none,Bool.and_self,ty,zbh,zeb,zde]
           exact zav 2 rfl
       · have d2 : decide ((i : Int) < l.length) = false := decide_eq_false (by omega)
         have hr : risW l = true := by rw [← hb]; exact risW_last l _ (by omega)
         rw [if_pos hr]
         simp only [go_sem,zae,Nat.reduceAdd,Nat.reduceSub,Nat.reduceMul,Int.reduceToNat,reduceCtorEq,↓reduceIte,Int.reducePow,Nat.reducePow,Int.reduceMod,Nat.reduceLeDiff,Int.reduceLE,Int.reduceNe,Int.reduceEq,Nat.reduceEqDiff,Nat.reduceLT,Nat.reduceBEq,List.map_cons,List.map_nil,List.toList_toArray,Array.toList_append,Option.toArray_some,Option.toArray_none,Bool.and_self,ty,zbh,zeb,zde,hle,d2]
         refine ⟨_,Weak.refl _,?_⟩
         simp only [go_sem,zae,Nat.reduceAdd,Nat.reduceSub,Nat.reduceMul,Int.reduceToNat,reduceCtorEq,↓reduceIte,Int.reducePow,Nat.reducePow,Int.reduceMod,Nat.reduceLeDiff,Int.reduceLE,Int.reduceNe,Int.reduceEq,Nat.reduceEqDiff,Nat.reduceLT,Nat.reduceBEq,List.map_cons,List.map_nil,List.toList_toArray,Array.toList_append,Option.toArray_some,Option.toArray_none,Bool.and_self,ty,zbh,zeb,zde]
         exact zav 2 rfl
 · exact hp.elim
set_option maxHeartbeats 32000000 in
theorem rchkW_sound : zaz Try.prog 31 chkWS := by
 refine fn_soundF (S := zbh) (T := ty) (pl := zbq) zbi ty_ok Schk35_ok Try.func31 (c := Try.f31.body.getD .skip) (by kernel_rfl) (by kernel_rfl) (fun xs pins hp _ => ?_)
 unfold chkWS at hp ⊢
 split at hp
 · rename_i Z L M D xs f _
   obtain ⟨hL,l,rfl⟩ := hp
   rw [List.length_map] at hL
   have hle : (l.map wsA).length = l.length := by simp
   have hcl := zbm l
   have hc : ∀ f,coe ty 31 (.sg 6 (l.map wsA) f) = .sg 6 (l.map wsA) f := fun f => by cases l <;> rfl
   have hex : ∃ p : List WS,l.map wsA = p.map wsA := ⟨l,rfl⟩
   rw [zax]
   refine ⟨by simp,?_⟩
   unfold Try.f31
   rcases hd_cases Z L M D l.length with Q | Q | Q | Q | Q | Q
   · have hch : chW Z L M D l = 11 := if_pos Q.2
     rw [hch]
     simp only [go_sem,zac,Nat.reduceAdd,Nat.reduceSub,Nat.reduceMul,Int.reduceToNat,reduceCtorEq,↓reduceIte,Int.reducePow,Nat.reducePow,Int.reduceMod,Nat.reduceLeDiff,Int.reduceLE,Int.reduceNe,Int.reduceEq,Nat.reduceEqDiff,Nat.reduceLT,Nat.reduceBEq,List.map_cons,List.map_nil,List.toList_toArray,Array.toList_append,Option.toArray_some,Option.toArray_none,Bool.and_self,ty,zbh,zbq,inS,hle,Q.1,Bool.not_true,Bool.not_false]
     exact zav 2 rfl
   · have hch : chW Z L M D l = 11 := if_pos Q.2.2
     rw [hch]
     simp only [go_sem,zac,Nat.reduceAdd,Nat.reduceSub,Nat.reduceMul,Int.reduceToNat,reduceCtorEq,↓reduceIte,Int.reducePow,Nat.reducePow,Int.reduceMod,Nat.reduceLeDiff,Int.reduceLE,Int.reduceNe,Int.reduceEq,Nat.reduceEqDiff,Nat.reduceLT,Nat.reduceBEq,List.map_cons,List.map_nil,List.toList_toArray,Array.toList_append,Option.toArray_some,Option.toArray_none,Bool.and_self,ty,zbh,zbq,inS,hle,Q.1,Q.2.1,Bool.not_true,Bool.not_false]
     exact zav 2 rfl
   · have hch : chW Z L M D l = 11 := if_pos Q.2.2.2
     rw [hch]
     simp only [go_sem,zac,Nat.reduceAdd,Nat.reduceSub,Nat.reduceMul,Int.reduceToNat,reduceCtorEq,↓reduceIte,Int.reducePow,Nat.reducePow,Int.reduceMod,Nat.reduceLeDiff,Int.reduceLE,Int.reduceNe,Int.reduceEq,Nat.reduceEqDiff,Nat.reduceLT,Nat.reduceBEq,List.map_cons,List.map_nil,List.toList_toArray,Array.toList_append,Option.toArray_some,Option.toArray_none,Bool.and_self,ty,zbh,zbq,inS,hle,Q.1,Q.2.1,Q.2.2.1,Bool.not_true,Bool.not_false]
     exact zav 2 rfl
   · have hch : chW Z L M D l = 11 := if_pos Q.2.2.2.2
     rw [hch]
     simp only [go_sem,zac,Nat.reduceAdd,Nat.reduceSub,Nat.reduceMul,Int.reduceToNat,reduceCtorEq,↓reduceIte,Int.reducePow,Nat.reducePow,Int.reduceMod,Nat.reduceLeDiff,Int.reduceLE,Int.reduceNe,Int.reduceEq,Nat.reduceEqDiff,Nat.reduceLT,Nat.reduceBEq,List.map_cons,List.map_nil,List.toList_toArray,Array.toList_append,Option.toArray_some,Option.toArray_none,Bool.and_self,ty,zbh,zbq,inS,hle,Q.1,Q.2.1,Q.2.2.1,Q.2.2.2.1,Bool.not_true,Bool.not_false]
     exact zav 2 rfl
   · have hch : chW Z L M D l = 11 := if_pos Q.2.2.2.2.2
     rw [hch]
     simp only [go_sem,zac,Nat.reduceAdd,Nat.reduceSub,Nat.reduceMul,Int.reduceToNat,reduceCtorEq,↓reduceIte,Int.reducePow,Nat.reducePow,Int.reduceMod,Nat.reduceLeDiff,Int.reduceLE,Int.reduceNe,Int.reduceEq,Nat.reduceEqDiff,Nat.reduceLT,Nat.reduceBEq,List.map_cons,List.map_nil,List.toList_toArray,Array.toList_append,Option.toArray_some,Option.toArray_none,Bool.and_self,ty,zbh,zbq,inS,hle,Q.1,Q.2.1,Q.2.2.1,Q.2.2.2.1,Q.2.2.2.2.1,Bool.not_true,Bool.not_false]
     exact zav 2 rfl
   obtain ⟨q1,q2,q3,q4,q5,q6⟩ := Q
   have hch : chW Z L M D l = if l.all (okr Z) = true then (if risW l = true then 0 else 16) else 11 := if_neg (by rw [q6]; simp)
   have hz : ¬ Z = 0 := by have := zbd q1; omega
   rw [hch]
   simp only [go_sem,zac,Nat.reduceAdd,Nat.reduceSub,Nat.reduceMul,Int.reduceToNat,reduceCtorEq,↓reduceIte,Int.reducePow,Nat.reducePow,Int.reduceMod,Nat.reduceLeDiff,Int.reduceLE,Int.reduceNe,Int.reduceEq,Nat.reduceEqDiff,Nat.reduceLT,Nat.reduceBEq,List.map_cons,List.map_nil,List.toList_toArray,Array.toList_append,Option.toArray_some,Option.toArray_none,Bool.and_self,ty,zbh,zbq,inS,hle,q1,q2,q3,q4,q5,Bool.not_true,Bool.not_false]
   refine awpF_loopW ⟨fun m σ => ∃ i : Nat,m = l.length - i ∧ i ≤ l.length ∧ (l.drop i).all (okr Z) = l.all (okr Z) ∧
     σ = ⟨[.agg [.w (.int .i64 Z),.w (.int .i64 L),.w (.int .i64 M),.w (.int .i64 D),.sg 6 (l.map wsA) f],.rf 4 5 0 0,.w (.int .i64 0),.w (.int .i64 i),.junk,.junk,.junk,.junk,.junk,.junk,.junk,.junk,.junk,.junk,.junk,.junk,.junk,.junk,.junk,.junk,.junk,.junk,.junk,.junk,.junk,.junk,.junk,.junk,.junk,.junk,.junk,.junk,.junk,.junk,.junk,.junk,.junk,.junk,.junk,.junk,.junk,.junk,.junk,.junk,.junk,.junk,.junk,.junk,.junk,.junk,.junk,.junk,.junk,.junk,.junk,.junk,.junk,.junk,.junk,.junk,.junk,.junk,.junk,.junk,.junk,.junk,.junk,.junk,.junk],[(4,.g 5 [.agg [.w (.int .i64 Z),.w (.int .i64 L),.w (.int .i64 M),.w (.int .i64 D),.sg 6 (l.map wsA) f]])],5⟩,?_,?_⟩
   · refine ⟨_,_,zaj [0,1,2,3,4] rfl rfl rfl ?_ ?_,0,rfl,by omega,rfl,rfl⟩
     · simp only [ssT,zar,zas,setSlot,gOf,AV.ren,renL,Blk.ren,Ax.look,Ax.put,reduceCtorEq,↓reduceIte,Nat.reduceEqDiff,Nat.reduceLT,Nat.reduceAdd,List.length_append,List.length_cons,List.length_nil,Option.some.injEq]; try simp
     · simp only [ssT,zar,zas,setSlot,gOf,AV.ren,renL,Blk.ren,Ax.look,Ax.put,reduceCtorEq,↓reduceIte,Nat.reduceEqDiff,Nat.reduceLT,Nat.reduceAdd,List.length_append,List.length_cons,List.length_nil,Option.some.injEq]; try simp
   · rintro m σ ⟨i,rfl,hi,hb,rfl⟩
     by_cases hil : i < l.length
     · have d2 : decide ((i : Int) < l.length) = true := decide_eq_true (by omega)
       have e1 : ((i : Int) + 1 + 9223372036854775808) % 18446744073709551616 - 9223372036854775808 = ((i + 1 : Nat) : Int) := by omega
       have hs1 := zck l i hil
       have hd := all_drop (okr Z) l i hil
       rw [hb] at hd
       obtain ⟨r,hr⟩ : ∃ r,l[i] = r := ⟨_,rfl⟩
       rw [hr] at hs1 hd
       obtain ⟨s,k,c,t,a,b⟩ := r
       have hs1 : slot (l.map wsA) i = .agg [.w (.int .i64 s),.str k,.w (.int .i64 c),.w (.int .i64 t),.w (.int .i64 a),.w (.int .i64 b)] := hs1
       have hok : okr Z ⟨s,k,c,t,a,b⟩ = okWB Z s k c t a b := rfl
       cases hv : okWB Z s k c t a b with
       | true =>
         rw [hok,hv,Bool.true_and] at hd
         simp only [go_sem,zac,Nat.reduceAdd,Nat.reduceSub,Nat.reduceMul,Int.reduceToNat,reduceCtorEq,↓reduceIte,Int.reducePow,Nat.reducePow,Int.reduceMod,Nat.reduceLeDiff,Int.reduceLE,Int.reduceNe,Int.reduceEq,Nat.reduceEqDiff,Nat.reduceLT,Nat.reduceBEq,List.map_cons,List.map_nil,List.toList_toArray,Array.toList_append,Option.toArray_some,Option.toArray_none,Bool.and_self,ty,zbh,zbq,mayWS,hle,d2,hs1,e1,hz,hv,Bool.not_true,Bool.not_false,Int.toNat_natCast]
         repeat (refine And.intro (by omega) ?_)
         refine ⟨l.length - (i + 1),_,by omega,zaj [0,1,2,3,4] rfl rfl rfl ?_ ?_,i + 1,rfl,by omega,hd.symm,rfl⟩
         · simp only [ssT,zar,zas,setSlot,gOf,AV.ren,renL,Blk.ren,Ax.look,Ax.put,reduceCtorEq,↓reduceIte,Nat.reduceEqDiff,Nat.reduceLT,Nat.reduceAdd,List.length_append,List.length_cons,List.length_nil,Option.some.injEq]; try simp
         · simp only [ssT,zar,zas,setSlot,gOf,AV.ren,renL,Blk.ren,Ax.look,Ax.put,reduceCtorEq,↓reduceIte,Nat.reduceEqDiff,Nat.reduceLT,Nat.reduceAdd,List.length_append,List.length_cons,List.length_nil,Option.some.injEq]; try simp
       | false =>
         rw [hok,hv,Bool.false_and] at hd
         rw [if_neg (by rw [hd]; simp)]
         simp only [go_sem,zac,Nat.reduceAdd,Nat.reduceSub,Nat.reduceMul,Int.reduceToNat,reduceCtorEq,↓reduceIte,Int.reducePow,Nat.reducePow,Int.reduceMod,Nat.reduceLeDiff,Int.reduceLE,Int.reduceNe,Int.reduceEq,Nat.reduceEqDiff,Nat.reduceLT,Nat.reduceBEq,List.map_cons,List.map_nil,List.toList_toArray,Array.toList_append,Option.toArray_some,Option.toArray_none,Bool.and_self,ty,zbh,zbq,mayWS,hle,d2,hs1,e1,hz,hv,Bool.not_true,Bool.not_false,Int.toNat_natCast]
         repeat (refine And.intro (by omega) ?_)
         refine ⟨_,Weak.refl _,?_⟩
         simp only [go_sem,zac,Nat.reduceAdd,Nat.reduceSub,Nat.reduceMul,Int.reduceToNat,reduceCtorEq,↓reduceIte,Int.reducePow,Nat.reducePow,Int.reduceMod,Nat.reduceLeDiff,Int.reduceLE,Int.reduceNe,Int.reduceEq,Nat.reduceEqDiff,Nat.reduceLT,Nat.reduceBEq,List.map_cons,List.map_nil,List.toList_toArray,Array.toList_append,Option.toArray_some,Option.toArray_none,Bool.and_self,ty,zbh,zbq]
         exact zav 2 rfl
     · have d2 : decide ((i : Int) < l.length) = false := decide_eq_false (by omega)
       have hA : l.all (okr Z) = true := by rw [← hb,List.drop_of_length_le (by omega)]; rfl
       rw [if_pos hA]
       simp only [go_sem,zac,Nat.reduceAdd,Nat.reduceSub,Nat.reduceMul,Int.reduceToNat,reduceCtorEq,↓reduceIte,Int.reducePow,Nat.reducePow,Int.reduceMod,Nat.reduceLeDiff,Int.reduceLE,Int.reduceNe,Int.reduceEq,Nat.reduceEqDiff,Nat.reduceLT,Nat.reduceBEq,List.map_cons,List.map_nil,List.toList_toArray,Array.toList_append,Option.toArray_some,Option.toArray_none,Bool.and_self,ty,zbh,zbq,hle,d2]
       refine ⟨_,Weak.refl _,?_⟩
       simp only [go_sem,zac,Nat.reduceAdd,Nat.reduceSub,Nat.reduceMul,Int.reduceToNat,reduceCtorEq,↓reduceIte,Int.reducePow,Nat.reducePow,Int.reduceMod,Nat.reduceLeDiff,Int.reduceLE,Int.reduceNe,Int.reduceEq,Nat.reduceEqDiff,Nat.reduceLT,Nat.reduceBEq,List.map_cons,List.map_nil,List.toList_toArray,Array.toList_append,Option.toArray_some,Option.toArray_none,Bool.and_self,ty,zbh,zbq,hle]
       refine awpF_loopW ⟨fun m σ => ∃ i : Nat,m = l.length - i ∧ 1 ≤ i ∧ (i ≤ l.length ∨ i = 1) ∧ risW (l.drop (i - 1)) = risW l ∧
         σ = ⟨[.agg [.w (.int .i64 Z),.w (.int .i64 L),.w (.int .i64 M),.w (.int .i64 D),.sg 6 (l.map wsA) f],.rf 4 5 0 0,.w (.int .i64 0),.junk,.w (.int .i64 i),.junk,.junk,.junk,.junk,.junk,.junk,.junk,.junk,.junk,.junk,.junk,.junk,.junk,.junk,.junk,.junk,.junk,.junk,.junk,.junk,.junk,.junk,.junk,.junk,.junk,.junk,.junk,.junk,.junk,.junk,.junk,.junk,.junk,.junk,.junk,.junk,.junk,.junk,.junk,.junk,.junk,.junk,.junk,.junk,.junk,.junk,.junk,.junk,.junk,.junk,.junk,.junk,.junk,.junk,.junk,.junk,.junk,.junk,.junk,.junk,.junk,.junk,.junk,.junk],[(4,.g 5 [.agg [.w (.int .i64 Z),.w (.int .i64 L),.w (.int .i64 M),.w (.int .i64 D),.sg 6 (l.map wsA) f]])],5⟩,?_,?_⟩
       · refine ⟨_,_,zaj [0,1,2,3,4] rfl rfl rfl ?_ ?_,1,rfl,by omega,by omega,rfl,rfl⟩
         · simp only [ssT,zar,zas,setSlot,gOf,AV.ren,renL,Blk.ren,Ax.look,Ax.put,reduceCtorEq,↓reduceIte,Nat.reduceEqDiff,Nat.reduceLT,Nat.reduceAdd,List.length_append,List.length_cons,List.length_nil,Option.some.injEq]; try simp
         · simp only [ssT,zar,zas,setSlot,gOf,AV.ren,renL,Blk.ren,Ax.look,Ax.put,reduceCtorEq,↓reduceIte,Nat.reduceEqDiff,Nat.reduceLT,Nat.reduceAdd,List.length_append,List.length_cons,List.length_nil,Option.some.injEq]; try simp
       · rintro m σ ⟨i,rfl,hi1,hi,hb,rfl⟩
         by_cases hil : i < l.length
         · have d2 : decide ((i : Int) < l.length) = true := decide_eq_true (by omega)
           have e1 : ((i : Int) + 1 + 9223372036854775808) % 18446744073709551616 - 9223372036854775808 = ((i + 1 : Nat) : Int) := by omega
           have e2 : ((i : Int) - 1 + 9223372036854775808) % 18446744073709551616 - 9223372036854775808 = ((i - 1 : Nat) : Int) := by omega
           have hs1 := zck l i hil
           have hs2 := zck l (i - 1) (by omega)
           have hd := risW_drop l (i - 1) (by omega)
           rw [hb] at hd
           have hi11 : i - 1 + 1 = i := by omega
           simp only [hi11] at hd
           obtain ⟨p,hp1⟩ : ∃ x,l[i] = x := ⟨_,rfl⟩
           obtain ⟨q,hq1⟩ : ∃ x,l[i - 1]'(by omega) = x := ⟨_,rfl⟩
           rw [hp1] at hs1
           rw [hq1] at hs2
           rw [hp1,hq1] at hd
           obtain ⟨s1,k1,c1,t1,a1,b1⟩ := p
           obtain ⟨s2,k2,c2,t2,a2,b2⟩ := q
           have hs1 : slot (l.map wsA) i = .agg [.w (.int .i64 s1),.str k1,.w (.int .i64 c1),.w (.int .i64 t1),.w (.int .i64 a1),.w (.int .i64 b1)] := hs1
           have hs2 : slot (l.map wsA) (i - 1) = .agg [.w (.int .i64 s2),.str k2,.w (.int .i64 c2),.w (.int .i64 t2),.w (.int .i64 a2),.w (.int .i64 b2)] := hs2
           have hd : risW l = (ahB s2 k2 s1 k1 && risW (l.drop i)) := hd
           cases hB : ahB s2 k2 s1 k1 with
           | true =>
             rw [hB,Bool.true_and] at hd
             simp only [go_sem,zac,Nat.reduceAdd,Nat.reduceSub,Nat.reduceMul,Int.reduceToNat,reduceCtorEq,↓reduceIte,Int.reducePow,Nat.reducePow,Int.reduceMod,Nat.reduceLeDiff,Int.reduceLE,Int.reduceNe,Int.reduceEq,Nat.reduceEqDiff,Nat.reduceLT,Nat.reduceBEq,List.map_cons,List.map_nil,List.toList_toArray,Array.toList_append,Option.toArray_some,Option.toArray_none,Bool.and_self,ty,zbh,zbq,inS,mayWS,raheadS,hle,d2,hs1,hs2,e1,e2,hB,Bool.not_true,Bool.not_false,Int.toNat_natCast]
             repeat (refine And.intro (by omega) ?_)
             refine ⟨l.length - (i + 1),_,by omega,zaj [0,1,2,3,4] rfl rfl rfl ?_ ?_,i + 1,rfl,by omega,by omega,?_,rfl⟩
             · simp only [ssT,zar,zas,setSlot,gOf,AV.ren,renL,Blk.ren,Ax.look,Ax.put,reduceCtorEq,↓reduceIte,Nat.reduceEqDiff,Nat.reduceLT,Nat.reduceAdd,List.length_append,List.length_cons,List.length_nil,Option.some.injEq]; try simp
             · simp only [ssT,zar,zas,setSlot,gOf,AV.ren,renL,Blk.ren,Ax.look,Ax.put,reduceCtorEq,↓reduceIte,Nat.reduceEqDiff,Nat.reduceLT,Nat.reduceAdd,List.length_append,List.length_cons,List.length_nil,Option.some.injEq]; try simp
             · show risW (l.drop i) = _
               exact hd.symm
           | false =>
             rw [hB,Bool.false_and] at hd
             rw [if_neg (by rw [hd]; simp)]
             simp only [go_sem,zac,Nat.reduceAdd,Nat.reduceSub,Nat.reduceMul,Int.reduceToNat,reduceCtorEq,↓reduceIte,Int.reducePow,Nat.reducePow,Int.reduceMod,Nat.reduceLeDiff,Int.reduceLE,Int.reduceNe,Int.reduceEq,Nat.reduceEqDiff,Nat.reduceLT,Nat.reduceBEq,List.map_cons,List.map_nil,List.toList_toArray,Array.toList_append,Option.toArray_some,Option.toArray_none,Bool.and_self,ty,zbh,zbq,inS,mayWS,raheadS,hle,d2,hs1,hs2,e1,e2,hB,Bool.not_true,Bool.not_false,Int.toNat_natCast]
             repeat (refine And.intro (by omega) ?_)
             refine ⟨_,Weak.refl _,?_⟩
             simp only [go_sem,zac,Nat.reduceAdd,Nat.reduceSub,Nat.reduceMul,Int.reduceToNat,reduceCtorEq,↓reduceIte,Int.reducePow,Nat.reducePow,Int.reduceMod,Nat.reduceLeDiff,Int.reduceLE,Int.reduceNe,Int.reduceEq,Nat.reduceEqDiff,Nat.reduceLT,Nat.reduceBEq,List.map_cons,List.map_nil,List.toList_toArray,Array.toList_append,Option.toArray_some,Option.toArray_none,Bool.and_self,ty,zbh,zbq]
             exact zav 2 rfl
         · have d2 : decide ((i : Int) < l.length) = false := decide_eq_false (by omega)
           have hr : risW l = true := by rw [← hb]; exact risW_last l _ (by omega)
           rw [if_pos hr]
           simp only [go_sem,zac,Nat.reduceAdd,Nat.reduceSub,Nat.reduceMul,Int.reduceToNat,reduceCtorEq,↓reduceIte,Int.reducePow,Nat.reducePow,Int.reduceMod,Nat.reduceLeDiff,Int.reduceLE,Int.reduceNe,Int.reduceEq,Nat.reduceEqDiff,Nat.reduceLT,Nat.reduceBEq,List.map_cons,List.map_nil,List.toList_toArray,Array.toList_append,Option.toArray_some,Option.toArray_none,Bool.and_self,ty,zbh,zbq,hle,d2]
           refine ⟨_,Weak.refl _,?_⟩
           simp only [go_sem,zac,Nat.reduceAdd,Nat.reduceSub,Nat.reduceMul,Int.reduceToNat,reduceCtorEq,↓reduceIte,Int.reducePow,Nat.reducePow,Int.reduceMod,Nat.reduceLeDiff,Int.reduceLE,Int.reduceNe,Int.reduceEq,Nat.reduceEqDiff,Nat.reduceLT,Nat.reduceBEq,List.map_cons,List.map_nil,List.toList_toArray,Array.toList_append,Option.toArray_some,Option.toArray_none,Bool.and_self,ty,zbh,zbq]
           exact zav 2 rfl
 · exact hp.elim
end
end Go.Proofs.Ythjceeimbohajaa
namespace Go.Proofs.Ythjceeimbohajaa
open Ax
def zz (n : Int) : Int := if 0 ≤ n then 2 * n else -2 * n - 1
def zzS : zap
 | [.w (.int k n)],[] => ⟨k = .i64 ∧ -9223372036854775808 ≤ n ∧ n ≤ 9223372036854775807,.w (.int .u64 (zz n)),[]⟩
 | _,_ => zbv
def zg (n : Int) : Int := if n % 2 = 0 then n / 2 else -(n / 2) - 1
def zgS : zap
 | [.w (.int k n)],[] => ⟨k = .u64 ∧ 0 ≤ n ∧ n < 18446744073709551616,.w (.int .i64 (zg n)),[]⟩
 | _,_ => zbv
theorem xor_u64_zero (x : Int) (h : 0 ≤ x) (h' : x < 18446744073709551616) : bits .xor .u64 x 0 = x := by
 show IntKind.u64.wrap ((BitVec.ofInt 64 x ^^^ BitVec.ofInt 64 0).toNat : Int) = _
 rw [show BitVec.ofInt 64 0 = 0#64 from rfl,BitVec.xor_zero,BitVec.toNat_ofInt,IntKind.wrap_u64]
 omega
theorem xor_u64_ones (x : Int) (h : 0 ≤ x) (h' : x < 18446744073709551616) : bits .xor .u64 x 18446744073709551615 = 18446744073709551615 - x := by
 show IntKind.u64.wrap ((BitVec.ofInt 64 x ^^^ BitVec.ofInt 64 18446744073709551615).toNat : Int) = _
 rw [show BitVec.ofInt 64 18446744073709551615 = BitVec.allOnes 64 from by decide,BitVec.xor_allOnes,BitVec.toNat_not,BitVec.toNat_ofInt,IntKind.wrap_u64]
 omega
theorem xor_i64_zero (x : Int) (h : -9223372036854775808 ≤ x) (h' : x ≤ 9223372036854775807) : bits .xor .i64 x 0 = x := by
 show IntKind.i64.wrap ((BitVec.ofInt 64 x ^^^ BitVec.ofInt 64 0).toNat : Int) = _
 rw [show BitVec.ofInt 64 0 = 0#64 from rfl,BitVec.xor_zero,BitVec.toNat_ofInt,IntKind.wrap_i64]
 omega
theorem xor_i64_ones (x : Int) (h : -9223372036854775808 ≤ x) (h' : x ≤ 9223372036854775807) : bits .xor .i64 x (-1) = -x - 1 := by
 show IntKind.i64.wrap ((BitVec.ofInt 64 x ^^^ BitVec.ofInt 64 (-1)).toNat : Int) = _
 rw [show BitVec.ofInt 64 (-1) = BitVec.allOnes 64 from by decide,BitVec.xor_allOnes,BitVec.toNat_not,BitVec.toNat_ofInt,IntKind.wrap_i64]
 omega
theorem and_u64_one (x : Int) (h : 0 ≤ x) (h' : x < 18446744073709551616) : bits .and .u64 x 1 = x % 2 := by
 rw [u64_and x 1 h h' (by omega) (by omega),show (1 : Int).toNat = 2 ^ 1 - 1 from rfl,Nat.and_two_pow_sub_one_eq_mod]
 omega
section
set_option maxRecDepth 100000
theorem zig_sound : zaz Try.prog 65 zzS := by
 refine zat (S := noS) (T := ty) zbi ty_ok zcf Try.func65 (c := Try.f65.body.getD .skip) (by kernel_rfl) (by kernel_rfl) (fun xs pins hp _ => ?_)
 unfold zzS at hp ⊢
 split at hp
 · rename_i n _
   obtain ⟨rfl,h1,h2⟩ := hp
   refine ⟨by decide,?_⟩
   unfold Try.f65
   simp only [go_sem,coe,zaa,Nat.reduceAdd,Nat.reduceSub,Nat.reduceMul,Int.reduceToNat,reduceCtorEq,↓reduceIte,Int.reducePow,Nat.reducePow,Int.reduceMod,Nat.reduceLeDiff,Int.reduceLE,Int.reduceNe,Int.reduceEq,Nat.reduceEqDiff,Nat.reduceLT,Nat.reduceBEq,ty,noS]
   unfold zz
   rcases Int.lt_or_le n 0 with h | h
   · rw [if_neg (by omega),show n / 9223372036854775808 % 18446744073709551616 = 18446744073709551615 by omega,xor_u64_ones _ (by omega) (by omega)]
     omega
   · rw [if_pos h,show n / 9223372036854775808 % 18446744073709551616 = 0 by omega,xor_u64_zero _ (by omega) (by omega)]
     omega
 · exact hp.elim
theorem rzig_sound : zaz Try.prog 70 zzS := by
 refine zat (S := noS) (T := ty) zbi ty_ok zcf Try.func70 (c := Try.f70.body.getD .skip) (by kernel_rfl) (by kernel_rfl) (fun xs pins hp _ => ?_)
 unfold zzS at hp ⊢
 split at hp
 · rename_i n _
   obtain ⟨rfl,h1,h2⟩ := hp
   refine ⟨by decide,?_⟩
   unfold Try.f70
   simp only [go_sem,coe,zaa,Nat.reduceAdd,Nat.reduceSub,Nat.reduceMul,Int.reduceToNat,reduceCtorEq,↓reduceIte,Int.reducePow,Nat.reducePow,Int.reduceMod,Nat.reduceLeDiff,Int.reduceLE,Int.reduceNe,Int.reduceEq,Nat.reduceEqDiff,Nat.reduceLT,Nat.reduceBEq,ty,noS,decide_eq_true_eq,decide_eq_false_iff_not]
   unfold zz
   constructor
   · intro h; rw [if_pos h]; omega
   · intro h; rw [if_neg h]; omega
 · exact hp.elim
theorem zag_sound : zaz Try.prog 95 zgS := by
 refine zat (S := noS) (T := ty) zbi ty_ok zcf Try.func95 (c := Try.f95.body.getD .skip) (by kernel_rfl) (by kernel_rfl) (fun xs pins hp _ => ?_)
 unfold zgS at hp ⊢
 split at hp
 · rename_i n _
   obtain ⟨rfl,h1,h2⟩ := hp
   refine ⟨by decide,?_⟩
   unfold Try.f95
   simp only [go_sem,coe,zaa,Nat.reduceAdd,Nat.reduceSub,Nat.reduceMul,Int.reduceToNat,reduceCtorEq,↓reduceIte,Int.reducePow,Nat.reducePow,Int.reduceMod,Nat.reduceLeDiff,Int.reduceLE,Int.reduceNe,Int.reduceEq,Nat.reduceEqDiff,Nat.reduceLT,Nat.reduceBEq,ty,noS]
   rw [and_u64_one n h1 h2]
   unfold zg
   split
   · rename_i h
     rw [show (0 - ((n % 2 + 9223372036854775808) % 18446744073709551616 - 9223372036854775808) + 9223372036854775808) % 18446744073709551616 - 9223372036854775808 = 0 by omega,xor_i64_zero _ (by omega) (by omega)]
     omega
   · rename_i h
     rw [show (0 - ((n % 2 + 9223372036854775808) % 18446744073709551616 - 9223372036854775808) + 9223372036854775808) % 18446744073709551616 - 9223372036854775808 = -1 by omega,xor_i64_ones _ (by omega) (by omega)]
     omega
 · exact hp.elim
theorem rzag_sound : zaz Try.prog 96 zgS := by
 refine zat (S := noS) (T := ty) zbi ty_ok zcf Try.func96 (c := Try.f96.body.getD .skip) (by kernel_rfl) (by kernel_rfl) (fun xs pins hp _ => ?_)
 unfold zgS at hp ⊢
 split at hp
 · rename_i n _
   obtain ⟨rfl,h1,h2⟩ := hp
   refine ⟨by decide,?_⟩
   unfold Try.f96
   simp only [go_sem,coe,zaa,Nat.reduceAdd,Nat.reduceSub,Nat.reduceMul,Int.reduceToNat,reduceCtorEq,↓reduceIte,Int.reducePow,Nat.reducePow,Int.reduceMod,Nat.reduceLeDiff,Int.reduceLE,Int.reduceNe,Int.reduceEq,Nat.reduceEqDiff,Nat.reduceLT,Nat.reduceBEq,ty,noS,decide_eq_true_eq,decide_eq_false_iff_not]
   have e1 : n.tmod 2 = n % 2 := Int.tmod_eq_emod_of_nonneg h1
   have e2 : n.tdiv 2 = n / 2 := Int.tdiv_eq_ediv_of_nonneg h1
   rw [e1,e2]
   unfold zg
   constructor
   · intro h; rw [if_pos h]; omega
   · intro h; rw [if_neg h]; omega
 · exact hp.elim
end
end Go.Proofs.Ythjceeimbohajaa
namespace Go.Proofs.Ythjceeimbohajaa
open Ax
def putU (u : Nat) : List UInt8 := if u < 128 then [UInt8.ofNat u] else UInt8.ofNat (u % 128 + 128) :: putU (u / 128)
termination_by u
decreasing_by omega
def putS : zap
 | [.w (.int k n)],[] => ⟨k = .i64 ∧ -9223372036854775808 ≤ n ∧ n ≤ 9223372036854775807,.ms 0 1 0 (putU (zz n).toNat).length,[.b (putU (zz n).toNat)]⟩
 | _,_ => zbv
def S2 (f : FuncId) : Option zap :=
 match f with
 | 65 => some zzS
 | _ => none
theorem S2_ok : Fns Try.prog S2 := by
 intro f s h
 unfold S2 at h
 split at h
 · injection h with h; subst h; exact ⟨⟨_,Try.func65,by kernel_rfl,by kernel_rfl⟩,zig_sound⟩
 · cases h
theorem putU_big {u : Nat} (h : ¬ u < 128) : putU u = UInt8.ofNat (u % 128 + 128) :: putU (u / 128) := by
 rw [putU,if_neg h]
theorem zdl {u : Nat} (h : u < 128) : putU u = [UInt8.ofNat u] := by
 rw [putU,if_pos h]
theorem putU_pos (u : Nat) : 0 < (putU u).length := by
 rw [putU]; split <;> simp
theorem putU_len : ∀ (k u : Nat),u < 128 ^ (k + 1) → (putU u).length ≤ k + 1
 | 0,u,h => by rw [zdl (by simpa using h)]; simp
 | k + 1,u,h => by
   by_cases hu : u < 128
   · rw [zdl hu]; simp
   · rw [putU_big hu]
     have := putU_len k (u / 128) (by rw [Nat.div_lt_iff_lt_mul (by decide)]; rw [Nat.pow_succ] at h; exact h)
     simp; omega
theorem p128 : (128 : Nat) ^ (9 + 1) = 1180591620717411303424 := by simp
theorem zcw (u : Nat) (h : u < 18446744073709551616) : (putU u).length ≤ 10 := putU_len 9 u (by rw [p128]; omega)
theorem or128_nat : ∀ x : Fin 256,x.val ||| 128 = x.val % 128 + 128 := by decide +kernel
theorem or128 (m : Nat) : bits .or .u8 ((m : Int) % 256) 128 = ((m % 128 + 128 : Nat) : Int) := by
 rw [u8_or _ _ (by omega) (by omega) (by omega) (by omega)]
 have e : ((m : Int) % 256).toNat = m % 256 := by omega
 have := or128_nat ⟨m % 256,by omega⟩
 simp only at this
 rw [e,show (128 : Int).toNat = 128 from rfl,this]
 omega
theorem zz_range (n : Int) (h1 : -9223372036854775808 ≤ n) (h2 : n ≤ 9223372036854775807) : 0 ≤ zz n ∧ zz n < 18446744073709551616 := by
 unfold zz; split <;> omega
section
set_option maxRecDepth 100000
theorem put_sound : zaz Try.prog 29 putS := by
 refine zat (S := S2) (T := ty) zbi ty_ok S2_ok Try.func29 (c := Try.f29.body.getD .skip) (by kernel_rfl) (by kernel_rfl) (fun xs pins hp _ => ?_)
 unfold putS at hp ⊢
 split at hp
 · rename_i n _
   obtain ⟨rfl,h1,h2⟩ := hp
   refine ⟨by decide,?_⟩
   unfold Try.f29
   simp only [go_sem,coe,zaa,Nat.reduceAdd,Nat.reduceSub,Nat.reduceMul,Int.reduceToNat,reduceCtorEq,↓reduceIte,Int.reducePow,Nat.reducePow,Int.reduceMod,Nat.reduceLeDiff,Int.reduceLE,Int.reduceNe,Int.reduceEq,Nat.reduceEqDiff,Nat.reduceLT,Nat.reduceBEq,ty,S2,zzS]
   have hz := zz_range n h1 h2
   refine ⟨⟨h1,h2⟩,awp_loop ⟨fun m σ => ∃ (u : Nat) (bs : List UInt8),m = u ∧ u < 18446744073709551616 ∧ bs ++ putU u = putU (zz n).toNat ∧
     σ = ⟨[.w (.int .i64 n),.junk,.junk,.w (.int .u64 u),.ms 4 1 0 bs.length,.junk,.junk,.junk,.junk,.junk,.junk,.junk,.junk,.junk,.junk,.junk,.junk,.junk,.junk,.junk,.junk,.junk],[(4,.b bs)],5⟩,?_,?_⟩⟩
   · refine ⟨_,_,(weak_nil 4 1 (.b []) rfl (by exact trivial)).trans (zaj [0,1,2,3,44] rfl rfl rfl ?_ ?_),(zz n).toNat,[],rfl,by omega,rfl,rfl⟩
     · simp only [ssT,zar,zas,setSlot,gOf,AV.ren,renL,Blk.ren,Ax.look,Ax.put,reduceCtorEq,↓reduceIte,Nat.reduceEqDiff,Nat.reduceLT,Nat.reduceAdd,List.length_append,List.length_cons,List.length_nil,Option.some.injEq]; omega
     · simp only [ssT,zar,zas,setSlot,gOf,AV.ren,renL,Blk.ren,Ax.look,Ax.put,reduceCtorEq,↓reduceIte,Nat.reduceEqDiff,Nat.reduceLT,Nat.reduceAdd,List.length_append,List.length_cons,List.length_nil,Option.some.injEq]
   · rintro m σ ⟨u,bs,rfl,hu,hbs,rfl⟩
     have hlen := congrArg List.length hbs
     have h10 := zcw (zz n).toNat (by omega)
     have h1' := putU_pos m
     rw [List.length_append] at hlen
     simp only [go_sem,coe,zaa,Nat.reduceAdd,Nat.reduceSub,Nat.reduceMul,Int.reduceToNat,reduceCtorEq,↓reduceIte,Int.reducePow,Nat.reducePow,Int.reduceMod,Nat.reduceLeDiff,Int.reduceLE,Int.reduceNe,Int.reduceEq,Nat.reduceEqDiff,Nat.reduceLT,Nat.reduceBEq,ty,S2,zzS,decide_eq_true_eq,decide_eq_false_iff_not]
     refine ⟨fun hc => ?_,fun hc => ?_⟩
     · have hm : ¬ m < 128 := by omega
       rw [putU_big hm] at hbs
       rw [or128 m]
       refine ⟨by omega,by unfold top; omega,m / 128,_,by omega,zaj [0,1,2,3,61] rfl rfl rfl ?_ ?_,m / 128,bs ++ [UInt8.ofNat (m % 128 + 128)],rfl,by omega,?_,rfl⟩
       · simp only [ssT,zar,zas,setSlot,gOf,AV.ren,renL,Blk.ren,Ax.look,Ax.put,reduceCtorEq,↓reduceIte,Nat.reduceEqDiff,Nat.reduceLT,Nat.reduceAdd,List.length_append,List.length_cons,List.length_nil,Option.some.injEq]; omega
       · simp only [ssT,zar,zas,setSlot,gOf,AV.ren,renL,Blk.ren,Ax.look,Ax.put,reduceCtorEq,↓reduceIte,Nat.reduceEqDiff,Nat.reduceLT,Nat.reduceAdd,List.length_append,List.length_cons,List.length_nil,Option.some.injEq,Int.toNat_natCast]
       · simpa using hbs
     · have hm : m < 128 := by omega
       rw [zdl hm] at hbs
       have e : ((m : Int) % 256).toNat = m := by omega
       rw [e,← hbs]
       refine ⟨by omega,by unfold top; omega,rfl,by simp⟩
 · exact hp.elim
def bytesS : zap
 | [.w (.int k u)],[] => ⟨k = .u64 ∧ 0 ≤ u ∧ u < 18446744073709551616,.ms 0 1 0 (putU u.toNat).length,[.b (putU u.toNat)]⟩
 | _,_ => zbv
theorem bytes_sound : zaz Try.prog 69 bytesS := by
 refine zat (S := noS) (T := ty) zbi ty_ok zcf Try.func69 (c := Try.f69.body.getD .skip) (by kernel_rfl) (by kernel_rfl) (fun xs pins hp _ => ?_)
 unfold bytesS at hp ⊢
 split at hp
 · rename_i n _
   obtain ⟨rfl,h1,h2⟩ := hp
   refine ⟨by decide,?_⟩
   unfold Try.f69
   simp only [go_sem,coe,zaa,Nat.reduceAdd,Nat.reduceSub,Nat.reduceMul,Int.reduceToNat,reduceCtorEq,↓reduceIte,Int.reducePow,Nat.reducePow,Int.reduceMod,Nat.reduceLeDiff,Int.reduceLE,Int.reduceNe,Int.reduceEq,Nat.reduceEqDiff,Nat.reduceLT,Nat.reduceBEq,ty,noS]
   refine awp_loop ⟨fun m σ => ∃ (u : Nat) (bs : List UInt8),m = u ∧ u < 18446744073709551616 ∧ bs ++ putU u = putU n.toNat ∧
     σ = ⟨[.w (.int .u64 u),.junk,.junk,.ms 4 1 0 bs.length,.junk,.junk,.junk,.junk,.junk,.junk,.junk,.junk,.junk,.junk,.junk,.junk,.junk,.junk,.junk,.junk],[(4,.b bs)],5⟩,?_,?_⟩
   · refine ⟨_,_,(weak_nil 3 1 (.b []) rfl (by exact trivial)).trans (zaj [0,1,2,3,20] rfl rfl rfl ?_ ?_),n.toNat,[],rfl,by omega,rfl,rfl⟩
     · simp only [ssT,zar,zas,setSlot,gOf,AV.ren,renL,Blk.ren,Ax.look,Ax.put,reduceCtorEq,↓reduceIte,Nat.reduceEqDiff,Nat.reduceLT,Nat.reduceAdd,List.length_append,List.length_cons,List.length_nil,Option.some.injEq]; omega
     · simp only [ssT,zar,zas,setSlot,gOf,AV.ren,renL,Blk.ren,Ax.look,Ax.put,reduceCtorEq,↓reduceIte,Nat.reduceEqDiff,Nat.reduceLT,Nat.reduceAdd,List.length_append,List.length_cons,List.length_nil,Option.some.injEq]
   · rintro m σ ⟨u,bs,rfl,hu,hbs,rfl⟩
     have hlen := congrArg List.length hbs
     have h10 := zcw n.toNat (by omega)
     have h1' := putU_pos m
     rw [List.length_append] at hlen
     simp only [go_sem,coe,zaa,Nat.reduceAdd,Nat.reduceSub,Nat.reduceMul,Int.reduceToNat,reduceCtorEq,↓reduceIte,Int.reducePow,Nat.reducePow,Int.reduceMod,Nat.reduceLeDiff,Int.reduceLE,Int.reduceNe,Int.reduceEq,Nat.reduceEqDiff,Nat.reduceLT,Nat.reduceBEq,ty,noS,decide_eq_true_eq,decide_eq_false_iff_not]
     have et : (m : Int).tmod 128 = m % 128 := Int.tmod_eq_emod_of_nonneg (by omega)
     have ed : (m : Int).tdiv 128 = m / 128 := Int.tdiv_eq_ediv_of_nonneg (by omega)
     rw [et,ed]
     refine ⟨fun hc => ?_,fun hc => ?_⟩
     · have hm : ¬ m < 128 := by omega
       rw [putU_big hm] at hbs
       have e : (((m : Int) % 128 % 256 + 128) % 256) = ((m % 128 + 128 : Nat) : Int) := by omega
       rw [e]
       refine ⟨by omega,by unfold top; omega,m / 128,_,by omega,zaj [0,1,2,3,69] rfl rfl rfl ?_ ?_,m / 128,bs ++ [UInt8.ofNat (m % 128 + 128)],rfl,by omega,?_,rfl⟩
       · simp only [ssT,zar,zas,setSlot,gOf,AV.ren,renL,Blk.ren,Ax.look,Ax.put,reduceCtorEq,↓reduceIte,Nat.reduceEqDiff,Nat.reduceLT,Nat.reduceAdd,List.length_append,List.length_cons,List.length_nil,Option.some.injEq]; omega
       · simp only [ssT,zar,zas,setSlot,gOf,AV.ren,renL,Blk.ren,Ax.look,Ax.put,reduceCtorEq,↓reduceIte,Nat.reduceEqDiff,Nat.reduceLT,Nat.reduceAdd,List.length_append,List.length_cons,List.length_nil,Option.some.injEq,Int.toNat_natCast]
       · simpa using hbs
     · have hm : m < 128 := by omega
       rw [zdl hm] at hbs
       have e : ((m : Int) % 256).toNat = m := by omega
       rw [e,← hbs]
       refine ⟨by omega,by unfold top; omega,rfl,by simp⟩
 · exact hp.elim
def S19 (f : FuncId) : Option zap :=
 match f with
 | 70 => some zzS
 | 69 => some bytesS
 | _ => none
theorem S19_ok : Fns Try.prog S19 := by
 intro f s h
 unfold S19 at h
 split at h
 · injection h with h; subst h; exact ⟨⟨_,Try.func70,by kernel_rfl,by kernel_rfl⟩,rzig_sound⟩
 · injection h with h; subst h; exact ⟨⟨_,Try.func69,by kernel_rfl,by kernel_rfl⟩,bytes_sound⟩
 · cases h
theorem rput_sound : zaz Try.prog 32 putS := by
 refine zat (S := S19) (T := ty) zbi ty_ok S19_ok Try.func32 (c := Try.f32.body.getD .skip) (by kernel_rfl) (by kernel_rfl) (fun xs pins hp _ => ?_)
 unfold putS at hp ⊢
 split at hp
 · rename_i n _
   obtain ⟨rfl,h1,h2⟩ := hp
   have hz := zz_range n h1 h2
   refine ⟨by decide,?_⟩
   unfold Try.f32
   simp only [go_sem,coe,zaa,Nat.reduceAdd,Nat.reduceSub,Nat.reduceMul,Int.reduceToNat,reduceCtorEq,↓reduceIte,Int.reducePow,Nat.reducePow,Int.reduceMod,Nat.reduceLeDiff,Int.reduceLE,Int.reduceNe,Int.reduceEq,Nat.reduceEqDiff,Nat.reduceLT,Nat.reduceBEq,ty,S19,zzS,bytesS,h1,h2,hz.1,hz.2]
 · exact hp.elim
def clampI (n : Int) : Int := if n < 0 then 0 else if 8 < n then 8 else n
def zfh (s : List UInt8) : List UInt8 := putU (2 * s.length) ++ s
def textS : zap
 | [.str s],[] => ⟨s.length ≤ 1000000,.ms 0 1 0 (zfh s).length,[.b (zfh s)]⟩
 | _,_ => zbv
def S37 (f : FuncId) : Option zap :=
 match f with
 | 29 => some putS
 | 32 => some putS
 | _ => none
theorem S37_ok : Fns Try.prog S37 := by
 intro f s h
 unfold S37 at h
 split at h
 · injection h with h; subst h; exact ⟨⟨_,Try.func29,by kernel_rfl,by kernel_rfl⟩,put_sound⟩
 · injection h with h; subst h; exact ⟨⟨_,Try.func32,by kernel_rfl,by kernel_rfl⟩,rput_sound⟩
 · cases h
theorem text_sound : zaz Try.prog 30 textS := by
 refine zat (S := S37) (T := ty) zbi ty_ok S37_ok Try.func30 (c := Try.f30.body.getD .skip) (by kernel_rfl) (by kernel_rfl) (fun xs pins hp _ => ?_)
 unfold textS at hp ⊢
 split at hp
 · rename_i s _
   refine ⟨by decide,?_⟩
   have hp : s.length ≤ 1000000 := hp
   have hz : (zz (s.length : Int)).toNat = 2 * s.length := by unfold zz; rw [if_pos (by omega)]; omega
   have h10 := zcw (2 * s.length) (by omega)
   unfold Try.f30
   simp only [go_sem,coe,zaa,Nat.reduceAdd,Nat.reduceSub,Nat.reduceMul,Int.reduceToNat,reduceCtorEq,↓reduceIte,Int.reducePow,Nat.reducePow,Int.reduceMod,Nat.reduceLeDiff,Int.reduceLE,Int.reduceNe,Int.reduceEq,Nat.reduceEqDiff,Nat.reduceLT,Nat.reduceBEq,ty,S37,putS,hz]
   unfold zfh top
   simp only [List.length_append]
   exact ⟨by omega,by omega,trivial,trivial⟩
 · exact hp.elim
theorem rtext_sound : zaz Try.prog 33 textS := by
 refine zat (S := S37) (T := ty) zbi ty_ok S37_ok Try.func33 (c := Try.f33.body.getD .skip) (by kernel_rfl) (by kernel_rfl) (fun xs pins hp _ => ?_)
 unfold textS at hp ⊢
 split at hp
 · rename_i s _
   refine ⟨by decide,?_⟩
   have hp : s.length ≤ 1000000 := hp
   have hz : (zz (s.length : Int)).toNat = 2 * s.length := by unfold zz; rw [if_pos (by omega)]; omega
   have h10 := zcw (2 * s.length) (by omega)
   unfold Try.f33
   simp only [go_sem,coe,zaa,Nat.reduceAdd,Nat.reduceSub,Nat.reduceMul,Int.reduceToNat,reduceCtorEq,↓reduceIte,Int.reducePow,Nat.reducePow,Int.reduceMod,Nat.reduceLeDiff,Int.reduceLE,Int.reduceNe,Int.reduceEq,Nat.reduceEqDiff,Nat.reduceLT,Nat.reduceBEq,ty,S37,putS,hz]
   unfold zfh top
   simp only [List.length_append]
   exact ⟨by omega,by omega,trivial,trivial⟩
 · exact hp.elim
end
end Go.Proofs.Ythjceeimbohajaa
namespace Go.Proofs.Ythjceeimbohajaa
open Ax
theorem set_at (k : Nat) (b : UInt8) (l : List UInt8) : (List.replicate (k + 1) 0 ++ l).set k b = List.replicate k 0 ++ b :: l := by
 induction k with
 | zero => rfl
 | succ k ih =>
   rw [List.replicate_succ,List.cons_append,List.set_cons_succ,ih]
   rw [List.replicate_succ (n := k),List.cons_append]
section
set_option maxRecDepth 100000
def unfL (bs : List UInt8) (n : Nat) : Nat := bs.foldl (fun n b => n * 256 + b.toNat) n
def last8 (bs : List UInt8) : List UInt8 := bs.drop (bs.length - 8)
end
end Go.Proofs.Ythjceeimbohajaa
namespace Go.Proofs.Ythjceeimbohajaa
open Ax
def getF (bs : List UInt8) : Nat → Nat → Int → Int × Nat × Int
 | 0,_,_ => if bs.length < 10 then (0,0,3) else (0,0,4)
 | r + 1,i,u =>
   if 128 ≤ (bs.getD i 0).toNat then getF bs r (i + 1) (bits .or .u64 u (bits .andNot .u8 (bs.getD i 0).toNat 128 % 18446744073709551616 * 2 ^ (7 * i) % 18446744073709551616))
   else if (0 < i ∧ (bs.getD i 0).toNat = 0) ∨ (i = 9 ∧ 1 < (bs.getD i 0).toNat) then (0,0,4)
   else (zg (bits .or .u64 u (bits .andNot .u8 (bs.getD i 0).toNat 128 % 18446744073709551616 * 2 ^ (7 * i) % 18446744073709551616)),i + 1,0)
def getL (bs : List UInt8) : Int × Nat × Int := getF bs (min bs.length 10) 0 0
def getS : zap
 | [.sb bs _],[] => ⟨bs.length ≤ 1000000,.tup [.w (.int .i64 (getL bs).1),.w (.int .i64 (getL bs).2.1),.w (.int .i64 (getL bs).2.2)],[]⟩
 | _,_ => zbv
theorem or_u64_range (a b : Int) : 0 ≤ bits .or .u64 a b ∧ bits .or .u64 a b < 18446744073709551616 := by
 show 0 ≤ IntKind.u64.wrap _ ∧ IntKind.u64.wrap _ < _
 rw [IntKind.wrap_u64]; omega
def S22 (f : FuncId) : Option zap :=
 match f with
 | 95 => some zgS
 | _ => none
theorem S22_ok : Fns Try.prog S22 := by
 intro f s h
 unfold S22 at h
 split at h
 · injection h with h; subst h; exact ⟨⟨_,Try.func95,by kernel_rfl,by kernel_rfl⟩,zag_sound⟩
 · cases h
section
set_option maxRecDepth 100000
theorem get_sound : zaz Try.prog 71 getS := by
 refine zat (S := S22) (T := ty) zbi ty_ok S22_ok Try.func71 (c := Try.f71.body.getD .skip) (by kernel_rfl) (by kernel_rfl) (fun xs pins hp _ => ?_)
 unfold getS at hp ⊢
 split at hp
 · rename_i bs f _
   have hp : bs.length ≤ 1000000 := hp
   refine ⟨by decide,?_⟩
   obtain ⟨L,hL⟩ : ∃ L,min bs.length 10 = L := ⟨_,rfl⟩
   have hLb : L ≤ bs.length ∧ L ≤ 10 := by omega
   have em : (if (10 : Int) < bs.length then (10 : Int) else bs.length) = (L : Int) := by split <;> omega
   have hg : getL bs = getF bs L 0 0 := by unfold getL; rw [hL]
   rw [hg]
   unfold Try.f71
   simp only [go_sem,coe,zaa,Nat.reduceAdd,Nat.reduceSub,Nat.reduceMul,Int.reduceToNat,reduceCtorEq,↓reduceIte,Int.reducePow,Nat.reducePow,Int.reduceMod,Nat.reduceLeDiff,Int.reduceLE,Int.reduceNe,Int.reduceEq,Nat.reduceEqDiff,Nat.reduceLT,Nat.reduceBEq,ty,S22,em]
   refine awp_loop ⟨fun m σ => ∃ (i : Nat) (u : Int),m = L - i ∧ i ≤ L ∧ getF bs (L - i) i u = getF bs L 0 0 ∧
     σ = ⟨[.sb bs f,.junk,.junk,.junk,.junk,.w (.int .u64 u),.junk,.junk,.junk,.w (.int .i64 L),.w (.int .i64 i),.junk,.junk,.junk,.junk,.junk,.junk,.junk,.junk,.junk,.junk,.junk,.junk,.junk,.junk,.junk,.junk,.junk,.junk,.junk,.junk,.junk,.junk,.junk,.junk,.junk,.junk,.junk,.junk,.junk,.junk,.junk,.junk,.junk,.junk,.junk,.junk,.junk,.junk,.junk,.junk,.junk,.junk,.junk,.junk,.junk,.junk],[],4⟩,?_,?_⟩
   · refine ⟨_,_,zaj [0,1,2,3] rfl rfl rfl ?_ ?_,0,0,rfl,by omega,rfl,rfl⟩
     · simp only [ssT,zar,zas,setSlot,gOf,AV.ren,renL,Blk.ren,Ax.look,Ax.put,reduceCtorEq,↓reduceIte,Nat.reduceEqDiff,Nat.reduceLT,Nat.reduceAdd,List.length_append,List.length_cons,List.length_nil,Option.some.injEq]; rfl
     · simp only [ssT,zar,zas,setSlot,gOf,AV.ren,renL,Blk.ren,Ax.look,Ax.put,reduceCtorEq,↓reduceIte,Nat.reduceEqDiff,Nat.reduceLT,Nat.reduceAdd,List.length_append,List.length_cons,List.length_nil,Option.some.injEq]
   · rintro m σ ⟨i,u,rfl,hi,hu,rfl⟩
     have e7 : (7 * (i : Int) + 9223372036854775808) % 18446744073709551616 - 9223372036854775808 = ((7 * i : Nat) : Int) := by omega
     have e1 : ((i : Int) + 1 + 9223372036854775808) % 18446744073709551616 - 9223372036854775808 = ((i + 1 : Nat) : Int) := by omega
     obtain ⟨c,hc⟩ : ∃ c,bs.getD i 0 = c := ⟨_,rfl⟩
     by_cases hiL : i < L
     · have hd : decide ((i : Int) < (L : Int)) = true := by simpa using hiL
       have h64 : 7 * i ≤ 64 := by omega
       simp only [go_sem,coe,zaa,Nat.reduceAdd,Nat.reduceSub,Nat.reduceMul,Int.reduceToNat,reduceCtorEq,↓reduceIte,Int.reducePow,Nat.reducePow,Int.reduceMod,Nat.reduceLeDiff,Int.reduceLE,Int.reduceNe,Int.reduceEq,Nat.reduceEqDiff,Nat.reduceLT,Nat.reduceBEq,ty,S22,zgS,decide_eq_true_eq,decide_eq_false_iff_not,e7,e1,h64,if_true,hc,hd]
       obtain ⟨v,hv⟩ : ∃ v,bits .or .u64 u (bits .andNot .u8 c.toNat 128 % 18446744073709551616 * 2 ^ (7 * i) % 18446744073709551616) = v := ⟨_,rfl⟩
       have hvr : 0 ≤ v ∧ v < 18446744073709551616 := hv ▸ or_u64_range _ _
       rw [show L - i = (L - (i + 1)) + 1 by omega,getF,hc,hv] at hu
       simp only [hv]
       refine ⟨⟨by omega,by omega⟩,by omega,⟨by omega,by omega⟩,fun h => ?_,fun h => ?_⟩
       · rw [if_pos (by omega)] at hu
         refine ⟨L - (i + 1),_,by omega,zaj [0,1,2,3] rfl rfl rfl ?_ ?_,i + 1,v,rfl,by omega,hu,rfl⟩
         · simp only [ssT,zar,zas,setSlot,gOf,AV.ren,renL,Blk.ren,Ax.look,Ax.put,reduceCtorEq,↓reduceIte,Nat.reduceEqDiff,Nat.reduceLT,Nat.reduceAdd,List.length_append,List.length_cons,List.length_nil,Option.some.injEq]
         · simp only [ssT,zar,zas,setSlot,gOf,AV.ren,renL,Blk.ren,Ax.look,Ax.put,reduceCtorEq,↓reduceIte,Nat.reduceEqDiff,Nat.reduceLT,Nat.reduceAdd,List.length_append,List.length_cons,List.length_nil,Option.some.injEq]
       · rw [if_neg (by omega)] at hu
         by_cases hA : (0 < i ∧ c.toNat = 0) ∨ (i = 9 ∧ 1 < c.toNat)
         · rw [if_pos hA] at hu
           rw [← hu]
           repeat' (first | (intro _) | (apply And.intro))
           all_goals first | omega | rfl | (exfalso; omega) | trace_state
         · rw [if_neg hA] at hu
           rw [← hu]
           repeat' (first | (intro _) | (apply And.intro))
           all_goals first | omega | rfl | (exfalso; omega) | trace_state
     · have hd : decide ((i : Int) < (L : Int)) = false := by simpa using hiL
       simp only [go_sem,coe,zaa,Nat.reduceAdd,Nat.reduceSub,Nat.reduceMul,Int.reduceToNat,reduceCtorEq,↓reduceIte,Int.reducePow,Nat.reducePow,Int.reduceMod,Nat.reduceLeDiff,Int.reduceLE,Int.reduceNe,Int.reduceEq,Nat.reduceEqDiff,Nat.reduceLT,Nat.reduceBEq,ty,S22,zgS,decide_eq_true_eq,decide_eq_false_iff_not,hd]
       rw [show L - i = 0 by omega,getF] at hu
       refine ⟨fun h => ?_,fun h => ?_⟩
       · rw [if_pos (by omega)] at hu
         rw [← hu]
         repeat' (apply And.intro)
         all_goals rfl
       · rw [if_neg (by omega)] at hu
         rw [← hu]
         repeat' (apply And.intro)
         all_goals rfl
 · exact hp.elim
end
end Go.Proofs.Ythjceeimbohajaa
namespace Go.Proofs.Ythjceeimbohajaa
open Ax
def rd (bs : List UInt8) (f : Bool) (e : Int) : Blk := .g 2 [.agg [.sb bs f,.w (.int .i64 e)]]
def tkB (n : Int) (bs : List UInt8) : List UInt8 := if (bs.length : Int) < n then [] else bs.take n.toNat
def tkL (n : Int) (bs : List UInt8) : List UInt8 := if (bs.length : Int) < n then bs else bs.drop n.toNat
def tkE (n : Int) (bs : List UInt8) (e : Int) : Int := if (bs.length : Int) < n then 3 else e
def takeS : zap
 | [.rf 0 2 0 0,.w (.int k n)],[.g 2 [.agg [.sb bs f,.w (.int k' e)]]] => ⟨k = .i64 ∧ k' = .i64 ∧ 0 ≤ n,.sb (tkB n bs) true,[rd (tkL n bs) f (tkE n bs e)]⟩
 | _,_ => zbv
section
set_option maxRecDepth 100000
theorem take_sound : zaz Try.prog 72 takeS := by
 refine zco (S := noS) (T := ty) zbi ty_ok zcf Try.func72 (c := Try.f72.body.getD .skip) (by kernel_rfl) (by kernel_rfl) (fun xs pins hp _ => ?_)
 unfold takeS at hp ⊢
 split at hp
 · rename_i k n bs f k' e _
   obtain ⟨rfl,rfl,h1⟩ := hp
   refine ⟨by simp,?_⟩
   unfold Try.f72
   simp only [go_sem,coe,zaa,Nat.reduceAdd,Nat.reduceSub,Nat.reduceMul,Int.reduceToNat,reduceCtorEq,↓reduceIte,Int.reducePow,Nat.reducePow,Int.reduceMod,Nat.reduceLeDiff,Int.reduceLE,Int.reduceNe,Int.reduceEq,Nat.reduceEqDiff,Nat.reduceLT,Nat.reduceBEq,ty,noS,decide_eq_true_eq,decide_eq_false_iff_not]
   refine ⟨fun h => ?_,fun h => ?_⟩
   · refine ⟨_,weak_coe 4 1 true rfl,?_⟩
     simp only [go_sem,coe,zaa,Nat.reduceAdd,Nat.reduceSub,Nat.reduceMul,Int.reduceToNat,reduceCtorEq,↓reduceIte,Int.reducePow,Nat.reducePow,Int.reduceMod,Nat.reduceLeDiff,Int.reduceLE,Int.reduceNe,Int.reduceEq,Nat.reduceEqDiff,Nat.reduceLT,Nat.reduceBEq,ty,tkB,tkL,tkE,rd,h,if_true]
   · have e1 : List.take (bs.length - n.toNat) (List.drop n.toNat bs) = bs.drop n.toNat := List.take_of_length_le (by simp)
     refine ⟨⟨by omega,by omega,by omega⟩,⟨by omega,by omega⟩,_,Weak.refl _,?_⟩
     simp only [go_sem,coe,zaa,Nat.reduceAdd,Nat.reduceSub,Nat.reduceMul,Int.reduceToNat,reduceCtorEq,↓reduceIte,Int.reducePow,Nat.reducePow,Int.reduceMod,Nat.reduceLeDiff,Int.reduceLE,Int.reduceNe,Int.reduceEq,Nat.reduceEqDiff,Nat.reduceLT,Nat.reduceBEq,ty,tkB,tkL,tkE,rd,h,if_false,e1,Nat.sub_zero,decide_true]
 · exact hp.elim
def leftS : zap
 | [.rf 0 2 0 0],[.g 2 [.agg [.sb bs f,.w (.int k e)]]] => ⟨k = .i64,.w (.int .i64 bs.length),[rd bs f e]⟩
 | [.w (.pointer none)],[] => ⟨True,.w (.int .i64 0),[]⟩
 | _,_ => zbv
theorem left_sound : zaz Try.prog 74 leftS := by
 refine zat (S := noS) (T := ty) zbi ty_ok zcf Try.func74 (c := Try.f74.body.getD .skip) (by kernel_rfl) (by kernel_rfl) (fun xs pins hp _ => ?_)
 unfold leftS at hp ⊢
 split at hp
 · obtain rfl := hp
   refine ⟨by simp,?_⟩
   unfold Try.f74
   simp only [go_sem,coe,zaa,Nat.reduceAdd,Nat.reduceSub,Nat.reduceMul,Int.reduceToNat,reduceCtorEq,↓reduceIte,Int.reducePow,Nat.reducePow,Int.reduceMod,Nat.reduceLeDiff,Int.reduceLE,Int.reduceNe,Int.reduceEq,Nat.reduceEqDiff,Nat.reduceLT,Nat.reduceBEq,ty,noS,rd]
 · refine ⟨by simp,?_⟩
   unfold Try.f74
   simp only [go_sem,coe,zaa,Nat.reduceAdd,Nat.reduceSub,Nat.reduceMul,Int.reduceToNat,reduceCtorEq,↓reduceIte,Int.reducePow,Nat.reducePow,Int.reduceMod,Nat.reduceLeDiff,Int.reduceLE,Int.reduceNe,Int.reduceEq,Nat.reduceEqDiff,Nat.reduceLT,Nat.reduceBEq,ty,noS,rd]
 · exact hp.elim
def errS : zap
 | [.rf 0 2 0 0],[.g 2 [.agg [.sb bs f,.w (.int k e)]]] => ⟨k = .i64,.w (.int .i64 e),[rd bs f e]⟩
 | [.w (.pointer none)],[] => ⟨True,.w (.int .i64 1),[]⟩
 | _,_ => zbv
theorem err_sound : zaz Try.prog 73 errS := by
 refine zat (S := noS) (T := ty) zbi ty_ok zcf Try.func73 (c := Try.f73.body.getD .skip) (by kernel_rfl) (by kernel_rfl) (fun xs pins hp _ => ?_)
 unfold errS at hp ⊢
 split at hp
 · obtain rfl := hp
   refine ⟨by simp,?_⟩
   unfold Try.f73
   simp only [go_sem,coe,zaa,Nat.reduceAdd,Nat.reduceSub,Nat.reduceMul,Int.reduceToNat,reduceCtorEq,↓reduceIte,Int.reducePow,Nat.reducePow,Int.reduceMod,Nat.reduceLeDiff,Int.reduceLE,Int.reduceNe,Int.reduceEq,Nat.reduceEqDiff,Nat.reduceLT,Nat.reduceBEq,ty,noS,rd]
 · refine ⟨by simp,?_⟩
   unfold Try.f73
   simp only [go_sem,coe,zaa,Nat.reduceAdd,Nat.reduceSub,Nat.reduceMul,Int.reduceToNat,reduceCtorEq,↓reduceIte,Int.reducePow,Nat.reducePow,Int.reduceMod,Nat.reduceLeDiff,Int.reduceLE,Int.reduceNe,Int.reduceEq,Nat.reduceEqDiff,Nat.reduceLT,Nat.reduceBEq,ty,noS,rd]
 · exact hp.elim
def newS : zap
 | [.sb bs f],[] => ⟨bs.length ≤ 1000000,.rf 0 2 0 0,[rd bs false 0]⟩
 | _,_ => zbv
theorem new_sound : zaz Try.prog 34 newS := by
 refine zco (S := noS) (T := ty) zbi ty_ok zcf Try.func34 (c := Try.f34.body.getD .skip) (by kernel_rfl) (by kernel_rfl) (fun xs pins hp _ => ?_)
 unfold newS at hp ⊢
 split at hp
 · rename_i bs f _
   have hp : bs.length ≤ 1000000 := hp
   refine ⟨by simp,?_⟩
   unfold Try.f34
   simp only [go_sem,coe,zaa,Nat.reduceAdd,Nat.reduceSub,Nat.reduceMul,Int.reduceToNat,reduceCtorEq,↓reduceIte,Int.reducePow,Nat.reducePow,Int.reduceMod,Nat.reduceLeDiff,Int.reduceLE,Int.reduceNe,Int.reduceEq,Nat.reduceEqDiff,Nat.reduceLT,Nat.reduceBEq,ty,noS,rd]
   refine ⟨by unfold top; omega,_,weak_fz 20 4 bs rfl (by simp [slot,AV.ids]),?_⟩
   simp only [fzL,fzH,AV.fz,Blk.fz,go_sem,coe,zaa,Nat.reduceAdd,Nat.reduceSub,Nat.reduceMul,Int.reduceToNat,reduceCtorEq,↓reduceIte,Int.reducePow,Nat.reducePow,Int.reduceMod,Nat.reduceLeDiff,Int.reduceLE,Int.reduceNe,Int.reduceEq,Nat.reduceEqDiff,Nat.reduceLT,Nat.reduceBEq,ty,rd,decide_true,List.take_length]
 · exact hp.elim
def numN (bs : List UInt8) (e : Int) : Int := if e = 0 then (getL bs).1 else 0
def numL (bs : List UInt8) (e : Int) : List UInt8 := if e = 0 then bs.drop (getL bs).2.1 else bs
def numE (bs : List UInt8) (e : Int) : Int := if e = 0 then (getL bs).2.2 else e
theorem getF_ok (bs : List UInt8) : ∀ (r i : Nat) (u : Int),i + r ≤ bs.length → (getF bs r i u).2.1 ≤ bs.length ∧ ((getF bs r i u).2.2 ≠ 0 → (getF bs r i u).1 = 0 ∧ (getF bs r i u).2.1 = 0)
 | 0,i,u,h => by unfold getF; split <;> simp
 | r + 1,i,u,h => by
   unfold getF
   split
   · exact getF_ok bs r (i + 1) _ (by omega)
   · split
     · simp
     · simp; omega
theorem getL_ok (bs : List UInt8) : (getL bs).2.1 ≤ bs.length ∧ ((getL bs).2.2 ≠ 0 → (getL bs).1 = 0 ∧ (getL bs).2.1 = 0) := getF_ok bs _ 0 0 (by omega)
def numS : zap
 | [.rf 0 2 0 0],[.g 2 [.agg [.sb bs f,.w (.int k e)]]] => ⟨k = .i64 ∧ bs.length ≤ 1000000,.w (.int .i64 (numN bs e)),[rd (numL bs e) f (numE bs e)]⟩
 | [.w (.pointer none)],[] => ⟨True,.w (.int .i64 0),[]⟩
 | _,_ => zbv
def S28 (f : FuncId) : Option zap :=
 match f with
 | 71 => some getS
 | _ => none
theorem S28_ok : Fns Try.prog S28 := by
 intro f s h
 unfold S28 at h
 split at h
 · injection h with h; subst h; exact ⟨⟨_,Try.func71,by kernel_rfl,by kernel_rfl⟩,get_sound⟩
 · cases h
theorem num_sound : zaz Try.prog 35 numS := by
 refine zat (S := S28) (T := ty) zbi ty_ok S28_ok Try.func35 (c := Try.f35.body.getD .skip) (by kernel_rfl) (by kernel_rfl) (fun xs pins hp _ => ?_)
 unfold numS at hp ⊢
 split at hp
 · rename_i bs f k e _
   obtain ⟨rfl,hlen⟩ := hp
   refine ⟨by simp,?_⟩
   obtain ⟨hg1,hg2⟩ := getL_ok bs
   have e1 : List.take (bs.length - (getL bs).2.1) (List.drop (getL bs).2.1 bs) = bs.drop (getL bs).2.1 := List.take_of_length_le (by simp)
   unfold Try.f35
   simp only [go_sem,coe,zaa,Nat.reduceAdd,Nat.reduceSub,Nat.reduceMul,Int.reduceToNat,reduceCtorEq,↓reduceIte,Int.reducePow,Nat.reducePow,Int.reduceMod,Nat.reduceLeDiff,Int.reduceLE,Int.reduceNe,Int.reduceEq,Nat.reduceEqDiff,Nat.reduceLT,Nat.reduceBEq,ty,S28,getS,decide_eq_true_eq,decide_eq_false_iff_not,rd,e1,hlen]
   by_cases he : e = 0
   · by_cases hr : (getL bs).2.2 = 0
     · simp [numL,numE,numN,he,hr,noimmL,AV.noimm,hg1]
     · obtain ⟨h3,h4⟩ := hg2 hr
       simp [numL,numE,numN,he,hr,h3,h4,noimmL,AV.noimm]
   · simp [numL,numE,numN,he]
 · refine ⟨by simp,?_⟩
   unfold Try.f35
   simp only [go_sem,coe,zaa,Nat.reduceAdd,Nat.reduceSub,Nat.reduceMul,Int.reduceToNat,reduceCtorEq,↓reduceIte,Int.reducePow,Nat.reducePow,Int.reduceMod,Nat.reduceLeDiff,Int.reduceLE,Int.reduceNe,Int.reduceEq,Nat.reduceEqDiff,Nat.reduceLT,Nat.reduceBEq,ty,S28,getS,rd]
 · exact hp.elim
def rfixN (n : Int) (bs : List UInt8) (e : Int) : Int := if e = 0 then (unfL (last8 (tkB (clampI n) bs)) 0 : Nat) else 0
def rfixL (n : Int) (bs : List UInt8) (e : Int) : List UInt8 := if e = 0 then tkL (clampI n) bs else bs
def rfixE (n : Int) (bs : List UInt8) (e : Int) : Int := if e = 0 then tkE (clampI n) bs 0 else e
def doneS : zap
 | [.rf 0 2 0 0],[.g 2 [.agg [.sb bs f,.w (.int k e)]]] => ⟨k = .i64,.w (.int .i64 (if e = 0 ∧ 0 < bs.length then 4 else e)),[rd bs f e]⟩
 | [.w (.pointer none)],[] => ⟨True,.w (.int .i64 1),[]⟩
 | _,_ => zbv
def S35 (f : FuncId) : Option zap :=
 match f with
 | 74 => some leftS
 | 73 => some errS
 | _ => none
theorem S35_ok : Fns Try.prog S35 := by
 intro f s h
 unfold S35 at h
 split at h
 · injection h with h; subst h; exact ⟨⟨_,Try.func74,by kernel_rfl,by kernel_rfl⟩,left_sound⟩
 · injection h with h; subst h; exact ⟨⟨_,Try.func73,by kernel_rfl,by kernel_rfl⟩,err_sound⟩
 · cases h
theorem done_sound : zaz Try.prog 38 doneS := by
 refine zat (S := S35) (T := ty) zbi ty_ok S35_ok Try.func38 (c := Try.f38.body.getD .skip) (by kernel_rfl) (by kernel_rfl) (fun xs pins hp _ => ?_)
 unfold doneS at hp ⊢
 split at hp
 · rename_i bs f k e _
   obtain rfl := hp
   refine ⟨by simp,?_⟩
   unfold Try.f38
   simp only [go_sem,coe,zaa,Nat.reduceAdd,Nat.reduceSub,Nat.reduceMul,Int.reduceToNat,reduceCtorEq,↓reduceIte,Int.reducePow,Nat.reducePow,Int.reduceMod,Nat.reduceLeDiff,Int.reduceLE,Int.reduceNe,Int.reduceEq,Nat.reduceEqDiff,Nat.reduceLT,Nat.reduceBEq,ty,S35,leftS,errS,decide_eq_true_eq,decide_eq_false_iff_not,rd]
   by_cases he : e = 0
   · subst he
     by_cases hb : 0 < bs.length
     · simp [hb]
       all_goals (first | omega | (intro h; rw [h] at hb; simp at hb))
     · have : bs = [] := List.eq_nil_of_length_eq_zero (by omega)
       simp [this]
   · simp [he]
 · refine ⟨by simp,?_⟩
   unfold Try.f38
   simp only [go_sem,coe,zaa,Nat.reduceAdd,Nat.reduceSub,Nat.reduceMul,Int.reduceToNat,reduceCtorEq,↓reduceIte,Int.reducePow,Nat.reducePow,Int.reduceMod,Nat.reduceLeDiff,Int.reduceLE,Int.reduceNe,Int.reduceEq,Nat.reduceEqDiff,Nat.reduceLT,Nat.reduceBEq,ty,S35,leftS,errS,rd,Int.reduceEq,decide_false]
 · exact hp.elim
def rtOk (m : Int) (bs : List UInt8) (e : Int) : Prop := numE bs e = 0 ∧ 0 ≤ numN bs e ∧ numN bs e ≤ max m 0
instance (m : Int) (bs : List UInt8) (e : Int) : Decidable (rtOk m bs e) := by unfold rtOk; infer_instance
def rtS' (m : Int) (bs : List UInt8) (e : Int) : List UInt8 := if rtOk m bs e then tkB (numN bs e) (numL bs e) else []
def rtL (m : Int) (bs : List UInt8) (e : Int) : List UInt8 := if rtOk m bs e then tkL (numN bs e) (numL bs e) else numL bs e
def rtE (m : Int) (bs : List UInt8) (e : Int) : Int := if numE bs e ≠ 0 then numE bs e else if rtOk m bs e then tkE (numN bs e) (numL bs e) 0 else 5
def rtextS' : zap
 | [.rf 0 2 0 0,.w (.int k' m)],[.g 2 [.agg [.sb bs f,.w (.int k e)]]] => ⟨k = .i64 ∧ k' = .i64 ∧ bs.length ≤ 1000000,.str (rtS' m bs e),[rd (rtL m bs e) f (rtE m bs e)]⟩
 | [.w (.pointer none),.w (.int k' m)],[] => ⟨k' = .i64,.str [],[]⟩
 | _,_ => zbv
def S32 (f : FuncId) : Option zap :=
 match f with
 | 35 => some numS
 | 72 => some takeS
 | _ => none
theorem S32_ok : Fns Try.prog S32 := by
 intro f s h
 unfold S32 at h
 split at h
 · injection h with h; subst h; exact ⟨⟨_,Try.func35,by kernel_rfl,by kernel_rfl⟩,num_sound⟩
 · injection h with h; subst h; exact ⟨⟨_,Try.func72,by kernel_rfl,by kernel_rfl⟩,take_sound⟩
 · cases h
theorem mtext_sound : zaz Try.prog 37 rtextS' := by
 refine zat (S := S32) (T := ty) zbi ty_ok S32_ok Try.func37 (c := Try.f37.body.getD .skip) (by kernel_rfl) (by kernel_rfl) (fun xs pins hp _ => ?_)
 unfold rtextS' at hp ⊢
 split at hp
 · rename_i k' m bs f k e _
   obtain ⟨rfl,rfl,hlen⟩ := hp
   refine ⟨by simp,?_⟩
   unfold Try.f37
   simp only [go_sem,coe,zaa,Nat.reduceAdd,Nat.reduceSub,Nat.reduceMul,Int.reduceToNat,reduceCtorEq,↓reduceIte,Int.reducePow,Nat.reducePow,Int.reduceMod,Nat.reduceLeDiff,Int.reduceLE,Int.reduceNe,Int.reduceEq,Nat.reduceEqDiff,Nat.reduceLT,Nat.reduceBEq,ty,S32,numS,takeS,decide_eq_true_eq,decide_eq_false_iff_not,rd,hlen]
   have hmax : (if (0 : Int) > m then (0 : Int) else m) = max m 0 := by split <;> omega
   rw [hmax]
   by_cases hn : numE bs e = 0
   · by_cases hok : 0 ≤ numN bs e ∧ numN bs e ≤ max m 0
     · have hr : rtOk m bs e := ⟨hn,hok⟩
       have h1 : ¬ numN bs e < 0 := by omega
       have h2 : ¬ max m 0 < numN bs e := by omega
       simp only [rtL,rtE,rtS',hr,hn,h1,h2,if_true,decide_true,Bool.not_true,Bool.false_eq_true,Bool.or_false,false_implies,true_implies,not_false_eq_true,not_true_eq_false,true_and,and_true,ne_eq,if_false,hok.1]
     · have hr : ¬ rtOk m bs e := fun h => hok h.2
       simp only [rtL,rtE,rtS',hr,hn,if_false,decide_true,Bool.not_true,Bool.false_eq_true,Bool.or_false,false_implies,true_implies,ne_eq,not_true_eq_false,true_and,and_true,implies_true]
       intro h1 h2
       exact (hok ⟨by omega,by omega⟩).elim
   · have hr : ¬ rtOk m bs e := fun h => hn h.1
     simp [rtL,rtE,rtS',hr,hn]
 · obtain rfl := hp
   refine ⟨by simp,?_⟩
   unfold Try.f37
   simp only [go_sem,coe,zaa,Nat.reduceAdd,Nat.reduceSub,Nat.reduceMul,Int.reduceToNat,reduceCtorEq,↓reduceIte,Int.reducePow,Nat.reducePow,Int.reduceMod,Nat.reduceLeDiff,Int.reduceLE,Int.reduceNe,Int.reduceEq,Nat.reduceEqDiff,Nat.reduceLT,Nat.reduceBEq,ty,S32,numS,takeS,rd]
 · exact hp.elim
end
end Go.Proofs.Ythjceeimbohajaa
namespace Go.Proofs.Ythjceeimbohajaa
open Ax
def valU : List UInt8 → Nat
 | [] => 0
 | c :: r => c.toNat % 128 + 128 * valU r
theorem val_put (u : Nat) : valU (putU u) = u := by
 induction u using Nat.strongRecOn with
 | ind u ih =>
   by_cases h : u < 128
   · rw [zdl h]
     simp only [valU,UInt8.toNat_ofNat']
     omega
   · rw [putU_big h]
     simp only [valU,UInt8.toNat_ofNat',ih (u / 128) (by omega)]
     omega
theorem val_pos : ∀ (p : List UInt8) (c : UInt8),0 < c.toNat → c.toNat < 128 → 0 < valU (p ++ [c])
 | [],c,h,h' => by simp only [List.nil_append,valU]; omega
 | d :: p,c,h,h' => by
   have := val_pos p c h h'
   simp only [List.cons_append,valU]; omega
theorem put_val : ∀ (p : List UInt8) (c : UInt8),(∀ d ∈ p,128 ≤ d.toNat) → c.toNat < 128 → (p = [] ∨ 0 < c.toNat) → putU (valU (p ++ [c])) = p ++ [c]
 | [],c,_,hc,_ => by
   have e : valU ([] ++ [c]) = c.toNat := by simp only [List.nil_append,valU]; omega
   rw [e,zdl hc]
   simp
 | d :: p,c,hp,hc,h => by
   have h0 : 0 < c.toNat := by
       rcases h with h | h; · cases h
       · exact h
   have hv := val_pos p c h0 hc
   have ih := put_val p c (fun x hx => hp x (by simp [hx])) hc (.inr h0)
   have hd := hp d (by simp)
   have hd2 := d.toNat_lt
   have e : valU (d :: p ++ [c]) = d.toNat % 128 + 128 * valU (p ++ [c]) := rfl
   rw [e,putU_big (by omega),show (d.toNat % 128 + 128 * valU (p ++ [c])) / 128 = valU (p ++ [c]) by omega,ih,
     show (d.toNat % 128 + 128 * valU (p ++ [c])) % 128 + 128 = d.toNat by omega]
   simp
theorem put_shape (u : Nat) : ∃ p c,putU u = p ++ [c] ∧ (∀ d ∈ p,128 ≤ d.toNat) ∧ c.toNat < 128 ∧ (p = [] ∨ 0 < c.toNat) := by
 induction u using Nat.strongRecOn with
 | ind u ih =>
   by_cases h : u < 128
   · exact ⟨[],UInt8.ofNat u,by rw [zdl h]; rfl,by simp,by rw [UInt8.toNat_ofNat']; omega,.inl rfl⟩
   · obtain ⟨p,c,h1,h2,h3,h4⟩ := ih (u / 128) (by omega)
     refine ⟨UInt8.ofNat (u % 128 + 128) :: p,c,by rw [putU_big h,h1]; rfl,?_,h3,?_⟩
     · intro d hd
       rcases List.mem_cons.1 hd with rfl | hd
       · rw [UInt8.toNat_ofNat']; omega
       · exact h2 d hd
     · right
       rcases h4 with rfl | h4
       · have e := val_put (u / 128)
         rw [h1] at e
         simp only [List.nil_append,valU] at e
         omega
       · exact h4
theorem val_lt : ∀ (p : List UInt8) (c : UInt8),c.toNat < 128 → valU (p ++ [c]) < (c.toNat + 1) * 128 ^ p.length
 | [],c,h => by simp only [List.nil_append,valU,List.length_nil,Nat.pow_zero]; omega
 | d :: p,c,h => by
   have := val_lt p c h
   simp only [List.cons_append,valU,List.length_cons,Nat.pow_succ]
   rw [← Nat.mul_assoc]
   omega
theorem val_ge : ∀ (p : List UInt8) (c : UInt8),c.toNat < 128 → c.toNat * 128 ^ p.length ≤ valU (p ++ [c])
 | [],c,h => by simp only [List.nil_append,valU,List.length_nil,Nat.pow_zero]; omega
 | d :: p,c,h => by
   have := val_ge p c h
   simp only [List.cons_append,valU,List.length_cons,Nat.pow_succ]
   rw [← Nat.mul_assoc]
   omega
theorem canon (p : List UInt8) (c : UInt8) (hp : ∀ d ∈ p,128 ≤ d.toNat) (hc : c.toNat < 128) (h9 : p.length ≤ 9) :
   putU (valU (p ++ [c]) % 18446744073709551616) = p ++ [c] ↔ ¬ ((0 < p.length ∧ c.toNat = 0) ∨ (p.length = 9 ∧ 1 < c.toNat)) := by
 have hlt := val_lt p c hc
 have hge := val_ge p c hc
 have h7 : (128 : Nat) ^ p.length ≤ 128 ^ 9 := Nat.pow_le_pow_right (by decide) h9
 have h7' : (128 : Nat) ^ 9 = 9223372036854775808 := by simp
 constructor
 · intro h
   have hv := val_put (valU (p ++ [c]) % 18446744073709551616)
   rw [h] at hv
   rintro (⟨h1,h2⟩ | ⟨h1,h2⟩)
   · obtain ⟨q,d,e1,e2,e3,e4⟩ := put_shape (valU (p ++ [c]) % 18446744073709551616)
     rw [h] at e1
     have hq := List.append_inj' e1 rfl
     have hd : c = d := by simpa using hq.2
     rw [← hq.1,← hd] at e4
     rcases e4 with e4 | e4
     · rw [e4] at h1; simp at h1
     · omega
   · rw [h1,h7'] at hge
     omega
 · intro h
   have hsmall : valU (p ++ [c]) < 18446744073709551616 := by
     by_cases hl : p.length = 9
     · rw [hl,h7'] at hlt
       have : c.toNat ≤ 1 := by omega
       have : (c.toNat + 1) * 9223372036854775808 ≤ 2 * 9223372036854775808 := Nat.mul_le_mul_right _ (by omega)
       omega
     · have h8 : (128 : Nat) ^ p.length ≤ 128 ^ 8 := Nat.pow_le_pow_right (by decide) (by omega)
       have h8' : (128 : Nat) ^ 8 = 72057594037927936 := by simp
       have : (c.toNat + 1) * 128 ^ p.length ≤ 128 * 72057594037927936 := Nat.mul_le_mul (by omega) (by omega)
       omega
   rw [Nat.mod_eq_of_lt hsmall]
   refine put_val p c hp hc ?_
   rcases p with _ | ⟨d,p⟩
   · exact .inl rfl
   · right
     simp only [List.length_cons] at h
     omega
def getM : Nat → Nat → List UInt8 → Int × Nat × Int
 | i,_,[] => if i < 10 then (0,0,3) else (0,0,4)
 | i,u,c :: r =>
   if i = 10 then (0,0,4)
   else if 128 ≤ c.toNat then getM (i + 1) (u + c.toNat % 128 * 128 ^ i) r
   else if (0 < i ∧ c.toNat = 0) ∨ (i = 9 ∧ 1 < c.toNat) then (0,0,4)
   else (zg ((u + c.toNat * 128 ^ i : Nat) : Int),i + 1,0)
theorem andNot128 : ∀ x : Fin 256,(bits .andNot .u8 ((x.val : Nat) : Int) 128) = ((x.val % 128 : Nat) : Int) := by decide +kernel
theorem getF_M (bs : List UInt8) : ∀ (r i : Nat) (u : Nat),i + r = min bs.length 10 → u < 128 ^ i → getF bs r i u = getM i u (bs.drop i)
 | 0,i,u,h,hu => by
   by_cases hl : bs.length < 10
   · rw [List.drop_of_length_le (by omega)]
     simp only [getF,getM,hl,if_true,show i < 10 by omega]
   · have hi : i = 10 := by omega
     subst hi
     simp only [getF,hl,if_false]
     cases bs.drop 10 with
     | nil => simp [getM]
     | cons c q => simp [getM]
 | r + 1,i,u,h,hu => by
   have hil : i < bs.length := by omega
   have hi9 : i ≤ 9 := by omega
   rw [List.drop_eq_getElem_cons hil]
   have eg : bs.getD i 0 = bs[i] := by simp [hil]
   have hc := bs[i].toNat_lt
   have ea := andNot128 ⟨bs[i].toNat,by simpa using hc⟩
   simp only at ea
   have hP : (2 : Nat) ^ (7 * i) = 128 ^ i := by rw [Nat.pow_mul]
   have hle : (128 : Nat) ^ i ≤ 128 ^ 9 := Nat.pow_le_pow_right (by decide) hi9
   have h9' : (128 : Nat) ^ 9 = 9223372036854775808 := by simp
   have hm128 : bs[i].toNat % 128 < 128 := Nat.mod_lt _ (by decide)
   simp only [getF,getM,eg,ea,if_neg (show ¬ i = 10 by omega)]
   have hcast : ((bs[i].toNat % 128 : Nat) : Int) % 18446744073709551616 * 2 ^ (7 * i) % 18446744073709551616 = ((bs[i].toNat % 128 * 128 ^ i % 18446744073709551616 : Nat) : Int) := by
     have e0 : ((bs[i].toNat % 128 : Nat) : Int) % 18446744073709551616 = ((bs[i].toNat % 128 : Nat) : Int) := by omega
     have : (2 : Int) ^ (7 * i) = ((128 ^ i : Nat) : Int) := by rw [← hP]; simp
     rw [e0,this,← Int.natCast_mul]
     generalize bs[i].toNat % 128 * 128 ^ i = x
     omega
   rw [hcast]
   by_cases hin : i ≤ 8 ∨ bs[i].toNat % 128 ≤ 1
   · have hmod : bs[i].toNat % 128 * 128 ^ i < 18446744073709551616 := by
       rcases hin with hin | hin
       · have h8 : (128 : Nat) ^ i ≤ 128 ^ 8 := Nat.pow_le_pow_right (by decide) hin
         have h8' : (128 : Nat) ^ 8 = 72057594037927936 := by simp
         have : bs[i].toNat % 128 * 128 ^ i ≤ 127 * 72057594037927936 := Nat.mul_le_mul (by omega) (by omega)
         omega
       · have : bs[i].toNat % 128 * 128 ^ i ≤ 1 * 9223372036854775808 := Nat.mul_le_mul hin (by omega)
         omega
     rw [Nat.mod_eq_of_lt hmod]
     have eor : bits .or .u64 (u : Int) ((bs[i].toNat % 128 * 128 ^ i : Nat) : Int) = ((u + bs[i].toNat % 128 * 128 ^ i : Nat) : Int) := by
       rw [u64_or _ _ (by omega) (by omega) (by omega) (by omega),Int.toNat_natCast,Int.toNat_natCast]
       have := nat_join (7 * i) (bs[i].toNat % 128 * 128 ^ i) u (by rw [hP]; exact Nat.mul_mod_left _ _) (by rw [hP]; exact hu)
       rw [Nat.or_comm,this]
       omega
     rw [eor]
     by_cases hge : 128 ≤ bs[i].toNat
     · rw [if_pos hge,if_pos hge]
       refine getF_M bs r (i + 1) _ (by omega) ?_
       rw [Nat.pow_succ]
       have : bs[i].toNat % 128 * 128 ^ i ≤ 127 * 128 ^ i := Nat.mul_le_mul_right _ (by omega)
       omega
     · rw [if_neg hge,if_neg hge,Nat.mod_eq_of_lt (show bs[i].toNat < 128 by omega)]
   · have hi : i = 9 := by omega
     have hr : r = 0 := by omega
     have hll : ¬ bs.length < 10 := by omega
     subst hr
     by_cases hge : 128 ≤ bs[i].toNat
     · rw [if_pos hge,if_pos hge]
       simp only [getF,hll,if_false,hi]
       cases bs.drop (9 + 1) with
       | nil => simp [getM]
       | cons c q => simp [getM]
     · rw [if_neg hge,if_neg hge]
       have : (0 < i ∧ bs[i].toNat = 0) ∨ (i = 9 ∧ 1 < bs[i].toNat) := .inr ⟨hi,by omega⟩
       rw [if_pos this,if_pos this]
theorem getL_M (bs : List UInt8) : getL bs = getM 0 0 bs := by
 unfold getL
 have := getF_M bs (min bs.length 10) 0 0 (by omega) (by simp)
 simpa using this
theorem getM_end : ∀ (p : List UInt8) (i u : Nat) (c : UInt8) (q : List UInt8),(∀ d ∈ p,128 ≤ d.toNat) → c.toNat < 128 → i + p.length ≤ 9 →
   getM i u (p ++ c :: q) = if (0 < i + p.length ∧ c.toNat = 0) ∨ (i + p.length = 9 ∧ 1 < c.toNat) then (0,0,4) else (zg ((u + valU (p ++ [c]) * 128 ^ i : Nat) : Int),i + p.length + 1,0)
 | [],i,u,c,q,hp,hc,h => by
   have h' : ¬ i = 10 := by simp at h; omega
   have e : valU ([] ++ [c]) = c.toNat := by simp only [List.nil_append,valU]; omega
   simp only [List.nil_append,getM,if_neg h',if_neg (show ¬ 128 ≤ c.toNat by omega),List.length_nil,Nat.add_zero]
   rw [List.nil_append] at e
   rw [e]
 | d :: p,i,u,c,q,hp,hc,h => by
   have hd := hp d (by simp)
   simp only [List.length_cons] at h
   simp only [List.cons_append,getM,if_neg (show ¬ i = 10 by omega),if_pos hd]
   rw [getM_end p (i + 1) _ c q (fun x hx => hp x (by simp [hx])) hc (by omega)]
   have e : i + 1 + p.length = i + (d :: p).length := by simp; omega
   rw [e]
   have e2 : u + d.toNat % 128 * 128 ^ i + valU (p ++ [c]) * 128 ^ (i + 1) = u + valU (d :: (p ++ [c])) * 128 ^ i := by
     simp only [valU,Nat.pow_succ,Nat.add_mul]
     rw [Nat.mul_comm (128 ^ i) 128,← Nat.mul_assoc,Nat.mul_comm (valU (p ++ [c])) 128]
     omega
   rw [e2]
theorem getM_open : ∀ (p : List UInt8) (i u : Nat),(∀ d ∈ p,128 ≤ d.toNat) → i ≤ 10 → getM i u p = if i + p.length < 10 then (0,0,3) else (0,0,4)
 | [],i,u,hp,h => by simp [getM]
 | d :: p,i,u,hp,h => by
   have hd := hp d (by simp)
   simp only [getM]
   by_cases h10 : i = 10
   · rw [if_pos h10,if_neg (by simp; omega)]
   · rw [if_neg h10,if_pos hd,getM_open p (i + 1) _ (fun x hx => hp x (by simp [hx])) (by omega)]
     have e : i + 1 + p.length = i + (d :: p).length := by simp; omega
     rw [e]
theorem getM_ten : ∀ (p : List UInt8) (i u : Nat) (q : List UInt8),(∀ d ∈ p,128 ≤ d.toNat) → i + p.length = 10 → getM i u (p ++ q) = (0,0,4)
 | [],i,u,q,hp,h => by
   have : i = 10 := by simpa using h
   subst this
   cases q <;> simp [getM]
 | d :: p,i,u,q,hp,h => by
   have hd := hp d (by simp)
   simp only [List.length_cons] at h
   simp only [List.cons_append,getM,if_neg (show ¬ i = 10 by omega),if_pos hd]
   exact getM_ten p (i + 1) _ q (fun x hx => hp x (by simp [hx])) (by omega)
theorem getL_put (u : Nat) (hu : u < 18446744073709551616) (q : List UInt8) : getL (putU u ++ q) = (zg (u : Int),(putU u).length,0) := by
 obtain ⟨p,c,e1,e2,e3,e4⟩ := put_shape u
 have hl := zcw u hu
 have hv := val_put u
 have hs := e1
 rw [e1] at hl hv ⊢
 simp only [List.length_append,List.length_cons,List.length_nil] at hl
 rw [getL_M,List.append_assoc,List.singleton_append,getM_end p 0 0 c q e2 e3 (by omega)]
 have hc := (canon p c e2 e3 (by omega)).1 (by rw [hv,Nat.mod_eq_of_lt hu]; exact hs)
 simp only [Nat.zero_add] at hc ⊢
 rw [if_neg hc,hv]
 simp
theorem zg_zz (n : Int) : zg (zz n) = n := by
 unfold zg zz
 repeat' split
 all_goals omega
end Go.Proofs.Ythjceeimbohajaa
namespace Go.Proofs.Ythjceeimbohajaa
open Ax
def S23 (f : FuncId) : Option zap :=
 match f with
 | 96 => some zgS
 | 69 => some bytesS
 | _ => none
theorem S23_ok : Fns Try.prog S23 := by
 intro f s h
 unfold S23 at h
 split at h
 · injection h with h; subst h; exact ⟨⟨_,Try.func96,by kernel_rfl,by kernel_rfl⟩,rzag_sound⟩
 · injection h with h; subst h; exact ⟨⟨_,Try.func69,by kernel_rfl,by kernel_rfl⟩,bytes_sound⟩
 · cases h
theorem getL_ten (bs : List UInt8) (hall : ∀ d ∈ bs.take 10,128 ≤ d.toNat) (hl : 10 ≤ bs.length) : getL bs = (0,0,4) := by
 have e : bs = bs.take 10 ++ bs.drop 10 := (List.take_append_drop 10 bs).symm
 rw [getL_M,e]
 exact getM_ten _ 0 0 _ hall (by simp; omega)
theorem getL_open (bs : List UInt8) (hall : ∀ d ∈ bs,128 ≤ d.toNat) (hl : bs.length < 10) : getL bs = (0,0,3) := by
 rw [getL_M,getM_open bs 0 0 hall (by omega),if_pos (by omega)]
theorem getL_end (bs : List UInt8) (i : Nat) (hi : i < bs.length) (h9 : i ≤ 9) (hall : ∀ d ∈ bs.take i,128 ≤ d.toNat) (hc : bs[i].toNat < 128) :
   getL bs = if putU (valU (bs.take (i + 1)) % 18446744073709551616) = bs.take (i + 1) then (zg ((valU (bs.take (i + 1)) % 18446744073709551616 : Nat) : Int),i + 1,0) else (0,0,4) := by
 have e : bs = bs.take i ++ bs[i] :: bs.drop (i + 1) := by
   rw [← List.drop_eq_getElem_cons hi,List.take_append_drop]
 have e2 : bs.take (i + 1) = bs.take i ++ [bs[i]] := by rw [List.take_succ_eq_append_getElem hi]
 have hlen : (bs.take i).length = i := by simp; omega
 have h1 := getM_end (bs.take i) 0 0 bs[i] (bs.drop (i + 1)) hall hc (by omega)
 have hcan := canon (bs.take i) bs[i] hall hc (by omega)
 rw [← e] at h1
 rw [getL_M,h1,e2]
 simp only [Nat.zero_add,hlen,Nat.pow_zero,Nat.mul_one] at hcan ⊢
 by_cases hbad : (0 < i ∧ bs[i].toNat = 0) ∨ (i = 9 ∧ 1 < bs[i].toNat)
 · rw [if_pos hbad,if_neg (fun h => (hcan.1 h) hbad)]
 · have hput := hcan.2 hbad
   rw [if_neg hbad,if_pos hput]
   have hv := val_put (valU (bs.take i ++ [bs[i]]) % 18446744073709551616)
   rw [hput] at hv
   rw [← hv]
theorem valU_step (bs : List UInt8) (n k : Nat) (hk : k < n) (hn : n ≤ bs.length) : valU ((bs.take n).drop k) = (bs.getD k 0).toNat % 128 + 128 * valU ((bs.take n).drop (k + 1)) := by
 have hkl : k < (bs.take n).length := by simp; omega
 rw [List.drop_eq_getElem_cons hkl]
 have : (bs.take n)[k] = bs.getD k 0 := by
   simp [show k < bs.length by omega]
 rw [this]; rfl
theorem tmod_cast (a b : Nat) : (a : Int).tmod b = ((a % b : Nat) : Int) := by
 rw [Int.tmod_eq_emod_of_nonneg (by omega)]; simp
section
set_option maxRecDepth 100000
theorem rget_sound : zaz Try.prog 75 getS := by
 refine zat (S := S23) (T := ty) zbi ty_ok S23_ok Try.func75 (c := Try.f75.body.getD .skip) (by kernel_rfl) (by kernel_rfl) (fun xs pins hp _ => ?_)
 unfold getS at hp ⊢
 split at hp
 · rename_i bs f _
   have hp : bs.length ≤ 1000000 := hp
   refine ⟨by simp,?_⟩
   obtain ⟨G,hG⟩ : ∃ G,getL bs = G := ⟨_,rfl⟩
   rw [hG]
   unfold Try.f75
   simp only [go_sem,coe,zaa,Nat.reduceAdd,Nat.reduceSub,Nat.reduceMul,Int.reduceToNat,reduceCtorEq,↓reduceIte,Int.reducePow,Nat.reducePow,Int.reduceMod,Nat.reduceLeDiff,Int.reduceLE,Int.reduceNe,Int.reduceEq,Nat.reduceEqDiff,Nat.reduceLT,Nat.reduceBEq,ty,S23]
   refine awp_loop ⟨fun m σ => ∃ (i : Nat),m = bs.length - i ∧ i ≤ bs.length ∧ i ≤ 10 ∧ (∀ d ∈ bs.take i,128 ≤ d.toNat) ∧
     σ = ⟨[.sb bs f,.junk,.w (.int .i64 0),.w (.int .i64 0),.w (.int .i64 0),.w (.int .i64 i),.junk,.junk,.junk,.junk,.junk,.junk,.junk,.junk,.junk,.junk,.junk,.junk,.junk,.junk,.junk,.junk,.junk,.junk,.junk,.junk,.junk,.junk,.junk,.junk,.junk,.junk,.junk,.junk,.junk,.junk,.junk,.junk,.junk,.junk,.junk,.junk,.junk,.junk,.junk,.junk,.junk,.junk,.junk,.junk,.junk,.junk,.junk,.junk,.junk,.junk,.junk,.junk,.junk,.junk],[],4⟩,?_,?_⟩
   · refine ⟨_,_,zaj [0,1,2,3] rfl rfl rfl ?_ ?_,0,rfl,by omega,by omega,by simp,rfl⟩
     · simp only [ssT,zar,zas,setSlot,gOf,AV.ren,renL,Blk.ren,Ax.look,Ax.put,reduceCtorEq,↓reduceIte,Nat.reduceEqDiff,Nat.reduceLT,Nat.reduceAdd,List.length_append,List.length_cons,List.length_nil,Option.some.injEq]; rfl
     · simp only [ssT,zar,zas,setSlot,gOf,AV.ren,renL,Blk.ren,Ax.look,Ax.put,reduceCtorEq,↓reduceIte,Nat.reduceEqDiff,Nat.reduceLT,Nat.reduceAdd,List.length_append,List.length_cons,List.length_nil,Option.some.injEq]
   · rintro m σ ⟨i,rfl,hi,hi10,hall,rfl⟩
     have e1 : ((i : Int) + 1 + 9223372036854775808) % 18446744073709551616 - 9223372036854775808 = ((i + 1 : Nat) : Int) := by omega
     by_cases h1 : i < bs.length ∧ i < 10 ∧ 128 ≤ (bs.getD i 0).toNat
     · obtain ⟨ha,hb,hc⟩ := h1
       have d1 : decide ((i : Int) < bs.length) = true := decide_eq_true (by omega)
       have d2 : decide ((i : Int) < 10) = true := decide_eq_true (by omega)
       have d3 : decide ((128 : Int) ≤ ((bs.getD i 0).toNat : Int)) = true := decide_eq_true (by omega)
       simp only [go_sem,coe,zaa,Nat.reduceAdd,Nat.reduceSub,Nat.reduceMul,Int.reduceToNat,reduceCtorEq,↓reduceIte,Int.reducePow,Nat.reducePow,Int.reduceMod,Nat.reduceLeDiff,Int.reduceLE,Int.reduceNe,Int.reduceEq,Nat.reduceEqDiff,Nat.reduceLT,Nat.reduceBEq,ty,S23,d1,d2,d3,e1]
       refine ⟨⟨by omega,by omega⟩,bs.length - (i + 1),_,by omega,zaj [0,1,2,3] rfl rfl rfl ?_ ?_,i + 1,rfl,by omega,by omega,?_,rfl⟩
       · simp only [ssT,zar,zas,setSlot,gOf,AV.ren,renL,Blk.ren,Ax.look,Ax.put,reduceCtorEq,↓reduceIte,Nat.reduceEqDiff,Nat.reduceLT,Nat.reduceAdd,List.length_append,List.length_cons,List.length_nil,Option.some.injEq]
       · simp only [ssT,zar,zas,setSlot,gOf,AV.ren,renL,Blk.ren,Ax.look,Ax.put,reduceCtorEq,↓reduceIte,Nat.reduceEqDiff,Nat.reduceLT,Nat.reduceAdd,List.length_append,List.length_cons,List.length_nil,Option.some.injEq]
       · intro d hd
         rw [List.take_succ_eq_append_getElem ha,List.mem_append] at hd
         rcases hd with hd | hd
         · exact hall d hd
         · have : d = bs[i] := by simpa using hd
           have eg : bs.getD i 0 = bs[i] := by simp [ha]
           rw [this,← eg]; exact hc
     · -- the loop is left
       by_cases h10 : i = 10
       · subst h10
         have hG2 := getL_ten bs hall hi
         rw [hG] at hG2
         subst hG2
         have d2 : decide (((10 : Nat) : Int) < 10) = false := by simp
         have d3 : decide (((10 : Nat) : Int) = 10) = true := by simp
         by_cases hl : 10 < bs.length
         · have d1 : decide (((10 : Nat) : Int) < bs.length) = true := decide_eq_true (by omega)
           simp only [go_sem,coe,zaa,Nat.reduceAdd,Nat.reduceSub,Nat.reduceMul,Int.reduceToNat,reduceCtorEq,↓reduceIte,Int.reducePow,Nat.reducePow,Int.reduceMod,Nat.reduceLeDiff,Int.reduceLE,Int.reduceNe,Int.reduceEq,Nat.reduceEqDiff,Nat.reduceLT,Nat.reduceBEq,ty,S23,d1,d2,d3]
           rfl
         · have d1 : decide (((10 : Nat) : Int) < bs.length) = false := decide_eq_false (by omega)
           simp only [go_sem,coe,zaa,Nat.reduceAdd,Nat.reduceSub,Nat.reduceMul,Int.reduceToNat,reduceCtorEq,↓reduceIte,Int.reducePow,Nat.reducePow,Int.reduceMod,Nat.reduceLeDiff,Int.reduceLE,Int.reduceNe,Int.reduceEq,Nat.reduceEqDiff,Nat.reduceLT,Nat.reduceBEq,ty,S23,d1,d2,d3]
           rfl
       · have d3 : decide ((i : Int) = 10) = false := decide_eq_false (by omega)
         have d2 : decide ((i : Int) < 10) = true := decide_eq_true (by omega)
         by_cases hl : i = bs.length
         · have d1 : decide ((i : Int) < bs.length) = false := decide_eq_false (by omega)
           have d4 : decide ((i : Int) = bs.length) = true := decide_eq_true (by omega)
           rw [hl,List.take_length] at hall
           have hG2 := getL_open bs hall (by omega)
           rw [hG] at hG2
           subst hG2
           simp only [go_sem,coe,zaa,Nat.reduceAdd,Nat.reduceSub,Nat.reduceMul,Int.reduceToNat,reduceCtorEq,↓reduceIte,Int.reducePow,Nat.reducePow,Int.reduceMod,Nat.reduceLeDiff,Int.reduceLE,Int.reduceNe,Int.reduceEq,Nat.reduceEqDiff,Nat.reduceLT,Nat.reduceBEq,ty,S23,d1,d2,d3,d4]
           rfl
         · have hil : i < bs.length := by omega
           have hc : ¬ 128 ≤ (bs.getD i 0).toNat := fun h => h1 ⟨hil,by omega,h⟩
           have eg : bs.getD i 0 = bs[i] := by simp [hil]
           have hG2 := getL_end bs i hil (by omega) hall (by rw [← eg]; omega)
           rw [hG] at hG2
           have d1 : decide ((i : Int) < bs.length) = true := decide_eq_true (by omega)
           have d4 : decide ((i : Int) = bs.length) = false := decide_eq_false (by omega)
           have d5 : decide ((128 : Int) ≤ ((bs.getD i 0).toNat : Int)) = false := decide_eq_false (by omega)
           simp only [go_sem,coe,zaa,Nat.reduceAdd,Nat.reduceSub,Nat.reduceMul,Int.reduceToNat,reduceCtorEq,↓reduceIte,Int.reducePow,Nat.reducePow,Int.reduceMod,Nat.reduceLeDiff,Int.reduceLE,Int.reduceNe,Int.reduceEq,Nat.reduceEqDiff,Nat.reduceLT,Nat.reduceBEq,ty,S23,d1,d2,d3,d4,d5]
           refine ⟨⟨by omega,by omega⟩,awp_loop ⟨fun m σ => ∃ (k : Nat),m = k ∧ k ≤ i + 1 ∧
             σ = ⟨[.sb bs f,.junk,.w (.int .i64 0),.w (.int .i64 0),.w (.int .i64 0),.w (.int .i64 i),.w (.int .u64 ((valU ((bs.take (i + 1)).drop k) % 18446744073709551616 : Nat) : Int)),.w (.int .i64 ((k : Int) - 1)),.junk,.junk,.junk,.junk,.junk,.junk,.junk,.junk,.junk,.junk,.junk,.junk,.junk,.junk,.junk,.junk,.junk,.junk,.junk,.junk,.junk,.junk,.junk,.junk,.junk,.junk,.junk,.junk,.junk,.junk,.junk,.junk,.junk,.junk,.junk,.junk,.junk,.junk,.junk,.junk,.junk,.junk,.junk,.junk,.junk,.junk,.junk,.junk,.junk,.junk,.junk,.junk],[],4⟩,?_,?_⟩⟩
           · refine ⟨_,_,zaj [0,1,2,3] rfl rfl rfl ?_ ?_,i + 1,rfl,by omega,rfl⟩
             · have : (bs.take (i + 1)).drop (i + 1) = [] := List.drop_of_length_le (by simp; omega)
               simp only [ssT,zar,zas,setSlot,gOf,AV.ren,renL,Blk.ren,Ax.look,Ax.put,reduceCtorEq,↓reduceIte,Nat.reduceEqDiff,Nat.reduceLT,Nat.reduceAdd,List.length_append,List.length_cons,List.length_nil,Option.some.injEq,this,valU]
               simp
             · simp only [ssT,zar,zas,setSlot,gOf,AV.ren,renL,Blk.ren,Ax.look,Ax.put,reduceCtorEq,↓reduceIte,Nat.reduceEqDiff,Nat.reduceLT,Nat.reduceAdd,List.length_append,List.length_cons,List.length_nil,Option.some.injEq]
           · rintro m σ ⟨k,rfl,hk,rfl⟩
             by_cases hk0 : 0 < m
             · have d6 : decide ((0 : Int) ≤ (m : Int) - 1) = true := decide_eq_true (by omega)
               have em : ((m : Int) - 1).toNat = m - 1 := by omega
               have hst := valU_step bs (i + 1) (m - 1) (by omega) (by omega)
               rw [show m - 1 + 1 = m by omega] at hst
               have et : ((bs.getD (m - 1) 0).toNat : Int).tmod 128 = (((bs.getD (m - 1) 0).toNat % 128 : Nat) : Int) := tmod_cast _ 128
               obtain ⟨c,hcd⟩ : ∃ c,(bs.getD (m - 1) 0).toNat = c := ⟨_,rfl⟩
               rw [hcd] at hst et
               generalize valU ((bs.take (i + 1)).drop m) = X at *
               have ew : (128 * ((X % 18446744073709551616 : Nat) : Int) % 18446744073709551616 + ((c % 128 : Nat) : Int) % 18446744073709551616) % 18446744073709551616 = (((c % 128 + 128 * X) % 18446744073709551616 : Nat) : Int) := by omega
               have es : ((m : Int) - 1 - 1 + 9223372036854775808) % 18446744073709551616 - 9223372036854775808 = ((m - 1 : Nat) : Int) - 1 := by omega
               simp only [go_sem,coe,zaa,Nat.reduceAdd,Nat.reduceSub,Nat.reduceMul,Int.reduceToNat,reduceCtorEq,↓reduceIte,Int.reducePow,Nat.reducePow,Int.reduceMod,Nat.reduceLeDiff,Int.reduceLE,Int.reduceNe,Int.reduceEq,Nat.reduceEqDiff,Nat.reduceLT,Nat.reduceBEq,ty,S23,d6,em,hcd,et,ew,es]
               refine ⟨by omega,m - 1,_,by omega,zaj [0,1,2,3] rfl rfl rfl ?_ ?_,m - 1,rfl,by omega,rfl⟩
               · simp only [ssT,zar,zas,setSlot,gOf,AV.ren,renL,Blk.ren,Ax.look,Ax.put,reduceCtorEq,↓reduceIte,Nat.reduceEqDiff,Nat.reduceLT,Nat.reduceAdd,List.length_append,List.length_cons,List.length_nil,Option.some.injEq,hst]
               · simp only [ssT,zar,zas,setSlot,gOf,AV.ren,renL,Blk.ren,Ax.look,Ax.put,reduceCtorEq,↓reduceIte,Nat.reduceEqDiff,Nat.reduceLT,Nat.reduceAdd,List.length_append,List.length_cons,List.length_nil,Option.some.injEq]
             · have d6 : decide ((0 : Int) ≤ (m : Int) - 1) = false := decide_eq_false (by omega)
               obtain rfl : m = 0 := by omega
               generalize hV : valU ((bs.take (i + 1)).drop 0) % 18446744073709551616 = V
               rw [List.drop_zero] at hV
               rw [hV] at hG2
               have hVlt : (V : Int) < 18446744073709551616 := by omega
               have hV0 : (0 : Int) ≤ V := by omega
               have etk : List.take (i + 1) bs = bs.take (i + 1) := rfl
               simp only [go_sem,coe,zaa,Nat.reduceAdd,Nat.reduceSub,Nat.reduceMul,Int.reduceToNat,reduceCtorEq,↓reduceIte,Int.reducePow,Nat.reducePow,Int.reduceMod,Nat.reduceLeDiff,Int.reduceLE,Int.reduceNe,Int.reduceEq,Nat.reduceEqDiff,Nat.reduceLT,Nat.reduceBEq,ty,S23,bytesS,zgS,d6,e1,Int.toNat_natCast,List.take_length,hVlt,hV0]
               simp only [Nat.sub_zero,Bool.not_eq_true',decide_eq_false_iff_not,Bool.not_eq_false',decide_eq_true_eq]
               refine ⟨by omega,fun h => ?_,fun h => ?_⟩
               · rw [hG2,if_neg h]; rfl
               · rw [hG2,if_pos h]
 · exact hp.elim
end
end Go.Proofs.Ythjceeimbohajaa
namespace Go.Proofs.Ythjceeimbohajaa
open Ax
def rrd (bs : List UInt8) (f : Bool) (e : Int) : AV := .agg [.sb bs f,.w (.int .i64 e)]
def rrnumS : zap
 | [.agg [.sb bs f,.w (.int k e)]],[] => ⟨k = .i64 ∧ bs.length ≤ 1000000,.tup [rrd (numL bs e) f (numE bs e),.w (.int .i64 (numN bs e))],[]⟩
 | _,_ => zbv
def S27 (f : FuncId) : Option zap :=
 match f with
 | 75 => some getS
 | _ => none
theorem S27_ok : Fns Try.prog S27 := by
 intro f s h
 unfold S27 at h
 split at h
 · injection h with h; subst h; exact ⟨⟨_,Try.func75,by kernel_rfl,by kernel_rfl⟩,rget_sound⟩
 · cases h
section
set_option maxRecDepth 100000
theorem rrnum_sound : zaz Try.prog 40 rrnumS := by
 refine zat (S := S27) (T := ty) zbi ty_ok S27_ok Try.func40 (c := Try.f40.body.getD .skip) (by kernel_rfl) (by kernel_rfl) (fun xs pins hp _ => ?_)
 unfold rrnumS at hp ⊢
 split at hp
 · rename_i bs f k e _
   obtain ⟨rfl,hlen⟩ := hp
   refine ⟨by simp,?_⟩
   obtain ⟨hg1,hg2⟩ := getL_ok bs
   have e1 : List.take (bs.length - (getL bs).2.1) (List.drop (getL bs).2.1 bs) = bs.drop (getL bs).2.1 := List.take_of_length_le (by simp)
   unfold Try.f40
   by_cases he : e = 0
   · subst he
     have d0 : decide ((0 : Int) = 0) = true := rfl
     by_cases hr : (getL bs).2.2 = 0
     · simp only [go_sem,coe,zaa,Nat.reduceAdd,Nat.reduceSub,Nat.reduceMul,Int.reduceToNat,reduceCtorEq,↓reduceIte,Int.reducePow,Nat.reducePow,Int.reduceMod,Nat.reduceLeDiff,Int.reduceLE,Int.reduceNe,Int.reduceEq,Nat.reduceEqDiff,Nat.reduceLT,Nat.reduceBEq,ty,S27,getS,hlen,e1,hr,Int.toNat_natCast,rrd,numL,numE,numN,if_true,fillS]
       omega
     · obtain ⟨h3,h4⟩ := hg2 hr
       have d1 : decide ((getL bs).2.2 = 0) = false := decide_eq_false hr
       simp only [go_sem,coe,zaa,Nat.reduceAdd,Nat.reduceSub,Nat.reduceMul,Int.reduceToNat,reduceCtorEq,↓reduceIte,Int.reducePow,Nat.reducePow,Int.reduceMod,Nat.reduceLeDiff,Int.reduceLE,Int.reduceNe,Int.reduceEq,Nat.reduceEqDiff,Nat.reduceLT,Nat.reduceBEq,ty,S27,getS,hlen,e1,d1,Int.toNat_natCast,rrd,numL,numE,numN,if_true,h3,h4,List.drop_zero]
   · have d0 : decide (e = 0) = false := decide_eq_false he
     simp only [go_sem,coe,zaa,Nat.reduceAdd,Nat.reduceSub,Nat.reduceMul,Int.reduceToNat,reduceCtorEq,↓reduceIte,Int.reducePow,Nat.reducePow,Int.reduceMod,Nat.reduceLeDiff,Int.reduceLE,Int.reduceNe,Int.reduceEq,Nat.reduceEqDiff,Nat.reduceLT,Nat.reduceBEq,ty,S27,getS,d0,rrd,numL,numE,numN,if_neg he]
 · exact hp.elim
def rrtextS : zap
 | [.agg [.sb bs f,.w (.int k e)],.w (.int k' m)],[] => ⟨k = .i64 ∧ k' = .i64 ∧ bs.length ≤ 1000000,.tup [rrd (rtL m bs e) f (rtE m bs e),.str (rtS' m bs e)],[]⟩
 | _,_ => zbv
def S31 (f : FuncId) : Option zap :=
 match f with
 | 40 => some rrnumS
 | _ => none
theorem S31_ok : Fns Try.prog S31 := by
 intro f s h
 unfold S31 at h
 split at h
 · injection h with h; subst h; exact ⟨⟨_,Try.func40,by kernel_rfl,by kernel_rfl⟩,rrnum_sound⟩
 · cases h
theorem zbe (bs : List UInt8) (e : Int) : (numL bs e).length ≤ bs.length := by
 unfold numL; split <;> simp
end
end Go.Proofs.Ythjceeimbohajaa
namespace Go.Proofs.Ythjceeimbohajaa
open Ax
theorem slot_fzL (id : Nat) (bs : List UInt8) : ∀ (sl : List AV) (i : Nat),slot (fzL id bs sl) i = (slot sl i).fz id bs
 | [],i => rfl
 | x :: sl,0 => rfl
 | x :: sl,i + 1 => slot_fzL id bs sl i
def rA (d t : Int) : Prop := d < 0 ∨ 31 < d ∨ t < 0 ∨ 1099511627776 < t
def rB (key val : List UInt8) : Prop := 64 < key.length ∨ 512 < val.length
def rC (k : Bool) (key : List UInt8) (dd : Bool) (val : List UInt8) : Prop := (k = false ∧ (key ≠ [] ∨ dd = true)) ∨ (dd = true ∧ val ≠ [])
instance (d t : Int) : Decidable (rA d t) := by unfold rA; infer_instance
instance (key val : List UInt8) : Decidable (rB key val) := by unfold rB; infer_instance
instance (k : Bool) (key : List UInt8) (dd : Bool) (val : List UInt8) : Decidable (rC k key dd val) := by unfold rC; infer_instance
def rchk (d t : Int) (k : Bool) (key : List UInt8) (dd : Bool) (val : List UInt8) : Int := if rA d t then 11 else if rB key val then 5 else if rC k key dd val then 4 else 0
section
set_option maxRecDepth 100000
set_option maxHeartbeats 1000000 in
def flagI (k dd : Bool) : Int := (if k then 1 else 0) + (if dd then 2 else 0)
def recL (d t : Int) (k : Bool) (key : List UInt8) (dd : Bool) (val : List UInt8) : List UInt8 :=
 UInt8.ofNat (flagI k dd).toNat :: (putU (zz d).toNat ++ (putU (zz t).toNat ++ ((if k then zfh key else []) ++ (if dd then [] else zfh val))))
def recB (d t : Int) (k : Bool) (key : List UInt8) (dd : Bool) (val : List UInt8) : List UInt8 := if rchk d t k key dd val = 0 then recL d t k key dd val else []
theorem textL_length (s : List UInt8) (h : s.length ≤ 1000000) : (zfh s).length ≤ s.length + 10 := by
 unfold zfh
 have := zcw (2 * s.length) (by omega)
 rw [List.length_append]; omega
end
end Go.Proofs.Ythjceeimbohajaa
