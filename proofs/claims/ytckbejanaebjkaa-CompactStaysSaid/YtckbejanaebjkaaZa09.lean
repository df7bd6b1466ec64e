/- What the proofs of this seat stand on; it asks nothing. -/
import Derived.Test.YtckbejanaebjkaaZa08
set_option linter.unusedSimpArgs false
set_option linter.unusedVariables false
namespace Go.Proofs.Ytckbejanaebjkaa
open Ax
theorem findI_tells (A : Rec → Bool) : ∀ (rs : List Rec) (k : Int),(findI A rs k = -1 ∧ rs.filter (fun r => !A r) = rs) ∨ ∃ (i : Nat) (h : i < rs.length),findI A rs k = k + i ∧ (rs.take i).filter (fun r => !A r) = rs.take i ∧ A rs[i] = true
 | [],_ => .inl ⟨rfl,rfl⟩
 | r :: rs,k => by
   unfold findI
   cases h : A r with
   | true => exact .inr ⟨0,by simp,by simp,by simp,h⟩
   | false =>
     rcases findI_tells A rs (k + 1) with ⟨h1,h2⟩ | ⟨i,hi,h1,h2,h3⟩
     · refine .inl ⟨by simpa using h1,?_⟩
       rw [List.filter_cons,h]
       simp only [Bool.not_false,if_true,h2]
     · refine .inr ⟨i + 1,by simp; omega,?_,?_,by simpa using h3⟩
       · simp only [Bool.false_eq_true,if_false]; rw [h1]; omega
       · rw [List.take_succ_cons,List.filter_cons,h]
         simp only [Bool.not_false,if_true,h2]
theorem setSlot_rv (r : Rec) : ∀ (cs : List Rec) (w : Nat),w < cs.length → setSlot (cs.map rv) w (rv r) = (cs.set w r).map rv
 | x :: cs,0,_ => rfl
 | x :: cs,w + 1,h => by
   show rv x :: setSlot (cs.map rv) w (rv r) = rv x :: (cs.set w r).map rv
   rw [setSlot_rv r cs w (by simpa using h)]
def zR : Rec := ⟨0,0,false,[],false,[]⟩
def del17S : zay
 | [.ms 0 6 0 n,.fn id [.rf 1 6 0 0,.rf 2 1 0 0,.cp [.w (.int .i64 now)],.cp [.w (.int .i64 g)]]],[.g 6 ys,.g 6 [.agg [.w (.int .i64 b),.w (.int .i64 c),.w (.int .i64 p),.w (.int .i64 e),.w (.int .i64 s),.sg 6 xs f]],.g 1 [.rf 3 0 0 0],.o (.mp es)] =>
     ⟨id = 22 ∧ (0 < n ∧ n = ys.length ∧ n ≤ 1000000) ∧ (∃ rs : List Rec,ys = rs.map rv) ∧ ∃ m,es = kvA m,.sg 6 (((ys.map rrec).filter (fun r => !goB (es.map ukv) b now g r)).map rv) false,[gone,.g 6 [.agg [.w (.int .i64 b),.w (.int .i64 c),.w (.int .i64 p),.w (.int .i64 e),.w (.int .i64 s),.sg 6 xs f]],.g 1 [.rf 3 0 0 0],.o (.mp es)]⟩
 | [.sg 6 [] f0,.fn id [.rf 0 6 0 0,.rf 1 1 0 0,.cp [.w (.int .i64 now)],.cp [.w (.int .i64 g)]]],[.g 6 [.agg [.w (.int .i64 b),.w (.int .i64 c),.w (.int .i64 p),.w (.int .i64 e),.w (.int .i64 s),.sg 6 xs f]],.g 1 [.rf 2 0 0 0],.o (.mp es)] =>
     ⟨id = 22,.sg 6 [] f0,[.g 6 [.agg [.w (.int .i64 b),.w (.int .i64 c),.w (.int .i64 p),.w (.int .i64 e),.w (.int .i64 s),.sg 6 xs f]],.g 1 [.rf 2 0 0 0],.o (.mp es)]⟩
 | _,_ => zer
def Odel17 (f : FuncId) : Option zay :=
 match f with
 | 22 => some goes17S
 | 29 => some idx17S
 | _ => none
theorem Odel17_ok : FnsO Try.prog Odel17 := by
 intro f s h
 unfold Odel17 at h
 split at h
 · injection h with h; subst h; exact ⟨⟨_,Try.func22,by kernel_rfl,by kernel_rfl⟩,goes17_sound⟩
 · injection h with h; subst h; exact ⟨⟨_,Try.func29,by kernel_rfl,by kernel_rfl⟩,idx17_sound⟩
 · cases h
def zek : XPlan := fun id => match id with
 | 1 => .opn [] 2
 | 8 => .opn [] 2
 | _ => .std
section
set_option maxRecDepth 100000
set_option maxHeartbeats 4000000 in
theorem del17_sound : SoundO Try.prog 23 del17S := by
 refine fn_soundO (S := noS) (SO := Odel17) (T := ty) zet ty_ok noS_ok Odel17_ok Try.func23 (c := Try.f23.body.getD .skip) (by kernel_rfl) (fun xs pins hp => ?_)
 unfold del17S at hp ⊢
 split at hp
 · rename_i n id now g ys b c p e s xs f es
   obtain ⟨rfl,⟨hn,rfl,hL⟩,⟨rs,rfl⟩,hm⟩ := hp
   obtain ⟨M,hM⟩ : ∃ M,es.map ukv = M := ⟨_,rfl⟩
   rw [List.length_map] at hL hn
   refine ⟨by simp,zek,by kernel_rfl,?_⟩
   have hl4 : (rs.map rv).length = rs.length := by simp
   have dpos : decide (0 < rs.length) = true := decide_eq_true hn
   have hx : ∃ qs : List Rec,rs.map rv = qs.map rv := ⟨rs,rfl⟩
   obtain ⟨A,hA⟩ : ∃ A,goB M b now g = A := ⟨_,rfl⟩
   have hA2 : ∀ r,(!zcu M b r now g) = A r := fun r => by rw [← hA]; rfl
   have hA3 : (fun r => !goB M b now g r) = fun r => !A r := by rw [hA]
   rw [hM,zan,hA3]
   obtain ⟨K,hK⟩ : ∃ K,(fun r => !A r) = K := ⟨_,rfl⟩
   have hKA : ∀ r,K r = !A r := fun r => by rw [← hK]
   have D := findI_tells A rs 0
   rw [hK] at D ⊢
   unfold Try.f23
   rcases D with ⟨hF,hfl⟩ | ⟨i,hi,hF,htk,hAi⟩
   · have dF : decide (findI A rs 0 = -1) = true := decide_eq_true hF
     simp only [go_sem,zac,Nat.reduceAdd,Nat.reduceSub,Nat.reduceMul,Int.reduceToNat,reduceCtorEq,↓reduceIte,Int.reducePow,Nat.reducePow,Int.reduceMod,Nat.reduceLeDiff,Int.reduceLE,Int.reduceNe,Int.reduceEq,Nat.reduceEqDiff,Nat.reduceLT,Nat.reduceBEq,List.map_cons,List.map_nil,List.toList_toArray,Array.toList_append,Option.toArray_some,Option.toArray_none,Bool.and_self,ty,noS,Odel17,zek,zas,zbj,cond_true,idx17S,hl4,dpos,hn,hx,hm,hM,zan,hA,dF,hfl]
     repeat (refine And.intro (by omega) ?_)
     have hdle : decide (0 + rs.length ≤ (rs.map rv).length) = true := decide_eq_true (by simp)
     have htk : (rs.map rv).take rs.length = rs.map rv := List.take_of_length_le (by simp)
     refine ⟨_,weak_fg 0 6 4 (rs.map rv) rfl (zas rs) (by simp [slot,AV.ids]),?_⟩
     simp only [fgL,fgH,AV.fg,Blk.fg,Nat.reduceBEq,cond_true,cond_false,hdle,Bool.and_true,beq_self_eq_true,Bool.true_and,List.drop_zero,htk]
     simp only [go_sem,zac,Nat.reduceAdd,Nat.reduceSub,Nat.reduceMul,Int.reduceToNat,reduceCtorEq,↓reduceIte,Int.reducePow,Nat.reducePow,Int.reduceMod,Nat.reduceLeDiff,Int.reduceLE,Int.reduceNe,Int.reduceEq,Nat.reduceEqDiff,Nat.reduceLT,Nat.reduceBEq,List.map_cons,List.map_nil,List.toList_toArray,Array.toList_append,Option.toArray_some,Option.toArray_none,Bool.and_self,ty,noS,hfl,zan,zas,zbj,cond_true]
   · have hF : findI A rs 0 = (i : Int) := by rw [hF]; omega
     have dF : decide ((i : Int) = -1) = false := decide_eq_false (by omega)
     have e0 : ((i : Int) + 1 + 9223372036854775808) % 18446744073709551616 - 9223372036854775808 = ((i + 1 : Nat) : Int) := by omega
     simp only [go_sem,zac,Nat.reduceAdd,Nat.reduceSub,Nat.reduceMul,Int.reduceToNat,reduceCtorEq,↓reduceIte,Int.reducePow,Nat.reducePow,Int.reduceMod,Nat.reduceLeDiff,Int.reduceLE,Int.reduceNe,Int.reduceEq,Nat.reduceEqDiff,Nat.reduceLT,Nat.reduceBEq,List.map_cons,List.map_nil,List.toList_toArray,Array.toList_append,Option.toArray_some,Option.toArray_none,Bool.and_self,ty,noS,Odel17,zek,zas,zbj,cond_true,idx17S,hl4,dpos,hn,hx,hm,hM,zan,hA,hF,dF,e0]
     repeat (refine And.intro (by omega) ?_)
     refine awpO_loopW ⟨fun m σ => ∃ (j w : Nat) (cs : List Rec),m = rs.length - j ∧ (w < j ∧ j ≤ rs.length) ∧ cs.length = rs.length ∧ cs.take w = (rs.take j).filter K ∧ cs.drop j = rs.drop j ∧
         σ = ⟨[.ms 0 6 0 rs.length,.fn 22 [.rf 1 6 0 0,.rf 2 1 0 0,.cp [.w (.int .i64 now)],.cp [.w (.int .i64 g)]],.junk,.junk,.junk,.w (.int .i64 w),.w (.int .i64 j),.junk,.junk,.junk,.junk,.junk,.junk,.junk,.junk,.junk,.junk,.junk,.junk,.junk,.junk,.junk,.junk,.junk,.junk,.junk,.junk,.junk,.junk,.junk,.junk,.junk,.junk,.junk,.junk,.junk,.junk,.junk,.junk,.junk,.junk,.junk],
           [(0,.g 6 (cs.map rv)),(1,.g 6 [.agg [.w (.int .i64 b),.w (.int .i64 c),.w (.int .i64 p),.w (.int .i64 e),.w (.int .i64 s),.sg 6 xs f]]),(2,.g 1 [.rf 3 0 0 0]),(3,.o (.mp es))],4⟩,?_,?_⟩
     · refine ⟨_,_,zae [0,1,2,3] rfl rfl rfl ?_ ?_,i + 1,i,rs,rfl,by omega,rfl,?_,rfl,rfl⟩
       · simp only [ssT,zaf,zag,setSlot,gOf,AV.ren,renL,Blk.ren,Ax.look,Ax.put,reduceCtorEq,↓reduceIte,Nat.reduceEqDiff,Nat.reduceLT,Nat.reduceAdd,List.length_append,List.length_cons,List.length_nil,Option.some.injEq]; try simp
       · simp only [ssT,zaf,zag,setSlot,gOf,AV.ren,renL,Blk.ren,Ax.look,Ax.put,reduceCtorEq,↓reduceIte,Nat.reduceEqDiff,Nat.reduceLT,Nat.reduceAdd,List.length_append,List.length_cons,List.length_nil,Option.some.injEq,zbj]
       · rw [List.take_succ_eq_append_getElem hi,List.filter_append,htk]
         simp [hKA,hAi]
     · rintro m σ ⟨j,w,cs,rfl,⟨hwj,hj⟩,hcl,htw,hdj,rfl⟩
       have hl5 : (cs.map rv).length = rs.length := by simp [hcl]
       by_cases hjl : j < rs.length
       · have e1 : ((j : Int) + 1 + 9223372036854775808) % 18446744073709551616 - 9223372036854775808 = ((j + 1 : Nat) : Int) := by omega
         have e2 : ((w : Int) + 1 + 9223372036854775808) % 18446744073709551616 - 9223372036854775808 = ((w + 1 : Nat) : Int) := by omega
         have d1 : decide ((j : Int) < rs.length) = true := decide_eq_true (by omega)
         have hjc : j < cs.length := by omega
         have hcj : cs[j] = rs[j] := by
           have h1 : cs.drop j = cs[j] :: cs.drop (j + 1) := List.drop_eq_getElem_cons hjc
           have h2 : rs.drop j = rs[j] :: rs.drop (j + 1) := List.drop_eq_getElem_cons hjl
           rw [h1,h2] at hdj
           injection hdj
         have hs1 := zbf rv cs j hjc
         rw [hcj] at hs1
         have htk1 : (rs.take (j + 1)).filter K = (rs.take j).filter K ++ [rs[j]].filter K := by rw [List.take_succ_eq_append_getElem hjl,List.filter_append]
         have hdj1 : cs.drop (j + 1) = rs.drop (j + 1) := by
           have := congrArg (List.drop 1) hdj
           simpa [List.drop_drop,Nat.add_comm] using this
         obtain ⟨P,hP⟩ : ∃ P,rs[j] = P := ⟨_,rfl⟩
         rw [hP] at hs1 htk1
         simp only [rv] at hs1
         obtain ⟨d,t,k,key,dd,val⟩ := P
         have hAP := hA2 ⟨d,t,k,key,dd,val⟩
         have hKP := hKA ⟨d,t,k,key,dd,val⟩
         cases hap : A ⟨d,t,k,key,dd,val⟩ with
         | true =>
           rw [hap] at hKP
           have hf0 : (rs.take (j + 1)).filter K = (rs.take j).filter K := by rw [htk1]; simp [hKP]
           simp only [go_sem,zac,Nat.reduceAdd,Nat.reduceSub,Nat.reduceMul,Int.reduceToNat,reduceCtorEq,↓reduceIte,Int.reducePow,Nat.reducePow,Int.reduceMod,Nat.reduceLeDiff,Int.reduceLE,Int.reduceNe,Int.reduceEq,Nat.reduceEqDiff,Nat.reduceLT,Nat.reduceBEq,List.map_cons,List.map_nil,List.toList_toArray,Array.toList_append,Option.toArray_some,Option.toArray_none,Bool.and_self,ty,noS,Odel17,zek,zas,zbj,cond_true,goes17S,hl4,hl5,dpos,hn,d1,hs1,hm,hM,hAP,hap,e1,e2,Int.toNat_natCast,Bool.not_true]
           repeat (refine And.intro (by omega) ?_)
           refine ⟨rs.length - (j + 1),_,by omega,zae [0,1,2,3] rfl rfl rfl ?_ ?_,j + 1,w,cs,rfl,by omega,hcl,by rw [hf0]; exact htw,hdj1,rfl⟩
           · simp only [ssT,zaf,zag,setSlot,gOf,AV.ren,renL,Blk.ren,Ax.look,Ax.put,reduceCtorEq,↓reduceIte,Nat.reduceEqDiff,Nat.reduceLT,Nat.reduceAdd,List.length_append,List.length_cons,List.length_nil,Option.some.injEq]
           · simp only [ssT,zaf,zag,setSlot,gOf,AV.ren,renL,Blk.ren,Ax.look,Ax.put,reduceCtorEq,↓reduceIte,Nat.reduceEqDiff,Nat.reduceLT,Nat.reduceAdd,List.length_append,List.length_cons,List.length_nil,Option.some.injEq,zbj]
         | false =>
           rw [hap] at hKP
           have hwc : w < cs.length := by omega
           have hs2 := zbf rv cs w hwc
           simp only [rv] at hs2
           have hd6 : ∀ a b c d e f : AV,List.drop 6 [a,b,c,d,e,f] = [] := fun _ _ _ _ _ _ => rfl
           have hl6 : ∀ a b c d e f : AV,[a,b,c,d,e,f].length = 6 := fun _ _ _ _ _ _ => rfl
           have hss := setSlot_rv ⟨d,t,k,key,dd,val⟩ cs w hwc
           simp only [rv] at hss
           have hf0 : (cs.set w ⟨d,t,k,key,dd,val⟩).take (w + 1) = (rs.take (j + 1)).filter K := by
             rw [htk1,← htw,List.take_succ_eq_append_getElem (by simp; exact hwc),List.take_set_of_le (Nat.le_refl _)]
             simp [hKP]
           have hd0 : (cs.set w ⟨d,t,k,key,dd,val⟩).drop (j + 1) = rs.drop (j + 1) := by
             rw [List.drop_set_of_lt (by omega)]; exact hdj1
           simp only [go_sem,zac,Nat.reduceAdd,Nat.reduceSub,Nat.reduceMul,Int.reduceToNat,reduceCtorEq,↓reduceIte,Int.reducePow,Nat.reducePow,Int.reduceMod,Nat.reduceLeDiff,Int.reduceLE,Int.reduceNe,Int.reduceEq,Nat.reduceEqDiff,Nat.reduceLT,Nat.reduceBEq,List.map_cons,List.map_nil,List.toList_toArray,Array.toList_append,Option.toArray_some,Option.toArray_none,Bool.and_self,ty,noS,Odel17,zek,zas,zbj,cond_true,goes17S,hl4,hl5,dpos,hn,d1,hs1,hs2,hd6,hl6,hss,hm,hM,hAP,hap,e1,e2,Int.toNat_natCast,Bool.not_false]
           repeat (refine And.intro (by omega) ?_)
           refine ⟨rs.length - (j + 1),_,by omega,zae [0,1,2,3] rfl rfl rfl ?_ ?_,j + 1,w + 1,cs.set w ⟨d,t,k,key,dd,val⟩,rfl,by omega,by simp [hcl],hf0,hd0,rfl⟩
           · simp only [ssT,zaf,zag,setSlot,gOf,AV.ren,renL,Blk.ren,Ax.look,Ax.put,reduceCtorEq,↓reduceIte,Nat.reduceEqDiff,Nat.reduceLT,Nat.reduceAdd,List.length_append,List.length_cons,List.length_nil,Option.some.injEq]
           · simp only [ssT,zaf,zag,setSlot,gOf,AV.ren,renL,Blk.ren,Ax.look,Ax.put,reduceCtorEq,↓reduceIte,Nat.reduceEqDiff,Nat.reduceLT,Nat.reduceAdd,List.length_append,List.length_cons,List.length_nil,Option.some.injEq,zbj]
       · have d1 : decide ((j : Int) < rs.length) = false := decide_eq_false (by omega)
         have htj : rs.take j = rs := List.take_of_length_le (by omega)
         rw [htj] at htw
         simp only [go_sem,zac,Nat.reduceAdd,Nat.reduceSub,Nat.reduceMul,Int.reduceToNat,reduceCtorEq,↓reduceIte,Int.reducePow,Nat.reducePow,Int.reduceMod,Nat.reduceLeDiff,Int.reduceLE,Int.reduceNe,Int.reduceEq,Nat.reduceEqDiff,Nat.reduceLT,Nat.reduceBEq,List.map_cons,List.map_nil,List.toList_toArray,Array.toList_append,Option.toArray_some,Option.toArray_none,Bool.and_self,ty,noS,Odel17,zek,zas,zbj,cond_true,hl4,hl5,d1,zan,hA]
         refine ⟨_,Weak.refl _,?_⟩
         simp only [go_sem,zac,Nat.reduceAdd,Nat.reduceSub,Nat.reduceMul,Int.reduceToNat,reduceCtorEq,↓reduceIte,Int.reducePow,Nat.reducePow,Int.reduceMod,Nat.reduceLeDiff,Int.reduceLE,Int.reduceNe,Int.reduceEq,Nat.reduceEqDiff,Nat.reduceLT,Nat.reduceBEq,List.map_cons,List.map_nil,List.toList_toArray,Array.toList_append,Option.toArray_some,Option.toArray_none,Bool.and_self,ty,noS,Odel17,zek,zas,zbj,cond_true,hl4,hl5,d1,zan,hA,Int.toNat_natCast]
         repeat (refine And.intro (by omega) ?_)
         have hz : List.take w (cs.map rv) ++ (List.replicate (rs.length - w) (.agg [.w (.int .i64 0),.w (.int .i64 0),.w (.bool false),.str [],.w (.bool false),.str []]) ++ List.drop (w + (rs.length - w)) (cs.map rv)) = (cs.take w ++ List.replicate (rs.length - w) zR).map rv := by
           have h1 : List.drop (w + (rs.length - w)) (cs.map rv) = [] := List.drop_eq_nil_of_le (by simp; omega)
           rw [h1,List.append_nil,List.map_append,List.map_take,List.map_replicate]; rfl
         rw [hz]
         have hwl : (cs.take w).length = w := by rw [List.length_take]; omega
         have hdle : decide (0 + (w - 0) ≤ ((cs.take w ++ List.replicate (rs.length - w) zR).map rv).length) = true := decide_eq_true (by simp; omega)
         have htk : ((cs.take w ++ List.replicate (rs.length - w) zR).map rv).take (w - 0) = (rs.filter K).map rv := by
           rw [← htw,Nat.sub_zero,List.map_append,List.take_left' (by rw [List.length_map,hwl])]
         have hcz := zas (cs.take w ++ List.replicate (rs.length - w) zR)
         generalize (cs.take w ++ List.replicate (rs.length - w) zR).map rv = Z at *
         refine ⟨_,weak_fg 0 6 4 Z rfl hcz (by simp [slot,AV.ids]),?_⟩
         simp only [fgL,fgH,AV.fg,Blk.fg,Nat.reduceBEq,cond_true,cond_false,hdle,Bool.and_true,beq_self_eq_true,Bool.true_and,List.drop_zero,htk]
         simp only [go_sem,zac,Nat.reduceAdd,Nat.reduceSub,Nat.reduceMul,Int.reduceToNat,reduceCtorEq,↓reduceIte,Int.reducePow,Nat.reducePow,Int.reduceMod,Nat.reduceLeDiff,Int.reduceLE,Int.reduceNe,Int.reduceEq,Nat.reduceEqDiff,Nat.reduceLT,Nat.reduceBEq,List.map_cons,List.map_nil,List.toList_toArray,Array.toList_append,Option.toArray_some,Option.toArray_none,Bool.and_self,ty,noS,zan,zas,zbj,cond_true]
 · rename_i f0 id now g b c p e s xs f es
   obtain rfl := hp
   refine ⟨by simp,zek,by kernel_rfl,?_⟩
   have z0 : decide ((-1 : Int) = -1) = true := rfl
   unfold Try.f23
   simp only [go_sem,coe,zac,Nat.reduceAdd,Nat.reduceSub,Nat.reduceMul,Int.reduceToNat,reduceCtorEq,↓reduceIte,Int.reducePow,Nat.reducePow,Int.reduceMod,Nat.reduceLeDiff,Int.reduceLE,Int.reduceNe,Int.reduceEq,Nat.reduceEqDiff,Nat.reduceLT,Nat.reduceBEq,List.map_cons,List.map_nil,List.toList_toArray,Array.toList_append,Option.toArray_some,Option.toArray_none,Bool.and_self,ty,noS,Odel17,zek,zas,zbj,cond_true,idx17S,z0]
   refine ⟨_,Weak.refl _,?_⟩
   simp only [go_sem,coe,zac,Nat.reduceAdd,Nat.reduceSub,Nat.reduceMul,Int.reduceToNat,reduceCtorEq,↓reduceIte,Int.reducePow,Nat.reducePow,Int.reduceMod,Nat.reduceLeDiff,Int.reduceLE,Int.reduceNe,Int.reduceEq,Nat.reduceEqDiff,Nat.reduceLT,Nat.reduceBEq,List.map_cons,List.map_nil,List.toList_toArray,Array.toList_append,Option.toArray_some,Option.toArray_none,Bool.and_self,ty,noS,zek]
 · exact hp.elim
end
end Go.Proofs.Ytckbejanaebjkaa
namespace Go.Proofs.Ytckbejanaebjkaa
open Ax
def clnB (M : KM) (now g : Int) (x : Bat) : Bat := ⟨x.b,x.c,x.p,x.e,x.s,x.rs.filter (fun r => zcu M x.b r now g)⟩
def empB (x : Bat) : Prop := x.rs.length = 0 ∧ x.p = 0
instance (x : Bat) : Decidable (empB x) := by unfold empB; infer_instance
def clnS (M : KM) (now g : Int) (a : List Bat) (x : Bat) : List Bat := if empB (clnB M now g x) then a else a ++ [clnB M now g x]
def clnM (M : KM) (now g : Int) (l : List Bat) : List Bat := l.foldl (clnS M now g) []
def clnL (l : List Bat) (now g : Int) : List Bat := clnM (lastK l) now g l
theorem clnM_len (M : KM) (now g : Int) : ∀ (l a : List Bat),(l.foldl (clnS M now g) a).length ≤ a.length + l.length
 | [],a => Nat.le_refl _
 | x :: l,a => by
   have h := clnM_len M now g l (clnS M now g a x)
   have h2 : (clnS M now g a x).length ≤ a.length + 1 := by unfold clnS; split <;> simp
   simp only [List.foldl_cons,List.length_cons]; omega
def emp17S : zay
 | [.agg [.w (.int .i64 b),.w (.int .i64 c),.w (.int .i64 p),.w (.int .i64 e),.w (.int .i64 s),.sg 6 xs f]],[] => ⟨xs.length ≤ 9223372036854775807,.w (.bool (decide (xs.length = 0 ∧ p = 0))),[]⟩
 | _,_ => zer
def cln17S : zay
 | [.sg 6 xs f,.w (.int .i64 now),.w (.int .i64 g)],[] => ⟨xs.length ≤ 1000000 ∧ ∃ es : List (Bat × Bool),xs = es.map bvp ∧ ∀ p ∈ es,p.1.rs.length ≤ 1000000,.sg 6 (bfr (clnL (xs.map ubat) now g)) false,[]⟩
 | _,_ => zer
section
set_option maxRecDepth 100000
theorem emp17_sound : zcn Try.prog 25 emp17S := by
 refine zbs (S := noS) (T := ty) zet ty_ok noS_ok Try.func25 (c := Try.f25.body.getD .skip) (by kernel_rfl) (by kernel_rfl) (fun xs pins hp _ => ?_)
 unfold emp17S at hp ⊢
 split at hp
 · rename_i b c p e s xs f _
   have hL : xs.length ≤ 9223372036854775807 := hp
   refine ⟨by simp,?_⟩
   unfold Try.f25
   by_cases h1 : xs.length = 0
   · have d1 : decide ((xs.length : Int) = 0) = true := decide_eq_true (by omega)
     by_cases h2 : p = 0
     · have d2 : decide (p = 0) = true := decide_eq_true h2
       have dv : decide (xs.length = 0 ∧ p = 0) = true := decide_eq_true ⟨h1,h2⟩
       simp only [go_sem,zaa,Nat.reduceAdd,Nat.reduceSub,Nat.reduceMul,Int.reduceToNat,reduceCtorEq,↓reduceIte,Int.reducePow,Nat.reducePow,Int.reduceMod,Nat.reduceLeDiff,Int.reduceLE,Int.reduceNe,Int.reduceEq,Nat.reduceEqDiff,Nat.reduceLT,Nat.reduceBEq,ty,noS,d1,d2,dv]
     · have d2 : decide (p = 0) = false := decide_eq_false h2
       have dv : decide (xs.length = 0 ∧ p = 0) = false := decide_eq_false (fun h => h2 h.2)
       simp only [go_sem,zaa,Nat.reduceAdd,Nat.reduceSub,Nat.reduceMul,Int.reduceToNat,reduceCtorEq,↓reduceIte,Int.reducePow,Nat.reducePow,Int.reduceMod,Nat.reduceLeDiff,Int.reduceLE,Int.reduceNe,Int.reduceEq,Nat.reduceEqDiff,Nat.reduceLT,Nat.reduceBEq,ty,noS,d1,d2,dv]
   · have d1 : decide ((xs.length : Int) = 0) = false := decide_eq_false (by omega)
     have dv : decide (xs.length = 0 ∧ p = 0) = false := decide_eq_false (fun h => h1 h.1)
     simp only [go_sem,zaa,Nat.reduceAdd,Nat.reduceSub,Nat.reduceMul,Int.reduceToNat,reduceCtorEq,↓reduceIte,Int.reducePow,Nat.reducePow,Int.reduceMod,Nat.reduceLeDiff,Int.reduceLE,Int.reduceNe,Int.reduceEq,Nat.reduceEqDiff,Nat.reduceLT,Nat.reduceBEq,ty,noS,d1,dv]
 · exact hp.elim
def Scln17 (f : FuncId) : Option zay :=
 match f with
 | 8 => some zej
 | 25 => some emp17S
 | 24 => some cloneUS
 | _ => none
theorem Scln17_ok : Fns Try.prog Scln17 := by
 intro f s h
 unfold Scln17 at h
 split at h
 · injection h with h; subst h; exact ⟨⟨_,Try.func8,by kernel_rfl,by kernel_rfl⟩,zec⟩
 · injection h with h; subst h; exact ⟨⟨_,Try.func25,by kernel_rfl,by kernel_rfl⟩,emp17_sound⟩
 · injection h with h; subst h; exact ⟨⟨_,Try.func24,by kernel_rfl,by kernel_rfl⟩,cloneU_sound⟩
 · cases h
def Ocln17 (f : FuncId) : Option zay :=
 match f with
 | 23 => some del17S
 | _ => none
theorem Ocln17_ok : FnsO Try.prog Ocln17 := by
 intro f s h
 unfold Ocln17 at h
 split at h
 · injection h with h; subst h; exact ⟨⟨_,Try.func23,by kernel_rfl,by kernel_rfl⟩,del17_sound⟩
 · cases h
def cln17Pl : XPlan := fun id => match id with
 | 7 => .opn [] 4
 | _ => .std
set_option maxHeartbeats 4000000 in
theorem cln17_sound : zcn Try.prog 12 cln17S := by
 refine fn_soundOK (S := Scln17) (SO := Ocln17) (T := ty) zet ty_ok Scln17_ok Ocln17_ok Try.func12 (c := Try.f12.body.getD .skip) (by kernel_rfl) (fun xs pins hp _ => ?_)
 unfold cln17S at hp ⊢
 split at hp
 · rename_i xs f now g _
   obtain ⟨hL,es,rfl,he⟩ := hp
   simp only [List.length_map] at hL
   refine ⟨by simp,cln17Pl,by kernel_rfl,?_⟩
   have hlp : (es.map bvp).length = es.length := by simp
   have hbs : isBs (es.map bvp) := ⟨es,rfl,fun p hp => by have := he p hp; omega⟩
   have mu := zco es
   rw [mu]
   obtain ⟨l,hl⟩ : ∃ l,es.map Prod.fst = l := ⟨_,rfl⟩
   rw [hl] at mu ⊢
   have hlq : l.length = es.length := by subst hl; simp
   obtain ⟨M,hM⟩ : ∃ M,lastK l = M := ⟨_,rfl⟩
   have hcl : clnL l now g = clnM M now g l := by rw [← hM]; rfl
   have hkv : (kvA M).map ukv = M := ukv_kvA M
   have hmx : ∃ m,kvA M = kvA m := ⟨M,rfl⟩
   rw [hcl]
   have ht : top = 4294967296 := rfl
   have hx0 : ∃ qs : List Rec,([] : List AV) = qs.map rv := ⟨[],rfl⟩
   have hcB : ∀ h,coe ty 22 (.sg 6 (es.map bvp) h) = .sg 6 (es.map bvp) h := fun h => by cases es <;> rfl
   unfold Try.f12
   simp only [go_sem,zac,Nat.reduceAdd,Nat.reduceSub,Nat.reduceMul,Int.reduceToNat,reduceCtorEq,↓reduceIte,Int.reducePow,Nat.reducePow,Int.reduceMod,Nat.reduceLeDiff,Int.reduceLE,Int.reduceNe,Int.reduceEq,Nat.reduceEqDiff,Nat.reduceLT,Nat.reduceBEq,List.map_cons,List.map_nil,List.toList_toArray,Array.toList_append,Option.toArray_some,Option.toArray_none,Bool.and_self,ty,Scln17,Ocln17,cln17Pl,zej,hcB,hlp,hbs,mu,hM]
   repeat (refine And.intro (by omega) ?_)
   refine awpO_loopW ⟨fun m σ => ∃ (i : Nat) (a : List Bat),m = es.length - i ∧ i ≤ es.length ∧ clnM M now g l = (l.drop i).foldl (clnS M now g) a ∧ a.length ≤ i ∧
       σ = ⟨[.sg 6 (es.map bvp) f,.junk,.junk,.junk,.cp [.w (.int .i64 now)],.cp [.w (.int .i64 g)],.junk,.rf 5 1 0 0,.ms 6 6 0 a.length,.junk,.junk,.junk,.junk,.junk,.sg 6 (es.map bvp) f,.w (.int .i64 es.length),.w (.int .i64 i),.junk,.junk,.junk,.junk,.junk,.junk,.junk,.junk,.junk,.junk,.junk,.junk,.junk,.junk,.junk,.junk,.junk,.junk,.junk],
         [(4,.o (.mp (kvA M))),(5,.g 1 [.rf 4 0 0 0]),(6,.g 6 (bfr a))],7⟩,?_,?_⟩
   · refine ⟨_,_,(weak_fp 4 4 (.int .i64 now) rfl (by simp [slot,AV.ids])).trans ((weak_fp 12 5 (.int .i64 g) rfl (by simp [slot,AV.ids,fpL,AV.fp])).trans ((weak_nil 8 6 (.g 6 []) ⟨by decide,rfl⟩ (by exact trivial)).trans (zae [0,1,2,3,36,44,92] rfl rfl rfl ?_ ?_))),0,[],rfl,by omega,rfl,by simp,rfl⟩
     · simp only [ssT,zaf,zag,setSlot,gOf,AV.ren,renL,Blk.ren,Ax.look,Ax.put,reduceCtorEq,↓reduceIte,Nat.reduceEqDiff,Nat.reduceLT,Nat.reduceAdd,List.length_append,List.length_cons,List.length_nil,Option.some.injEq,fpL,fpH,AV.fp,Blk.fp,Nat.reduceBEq,cond_true,cond_false,beq_self_eq_true,Bool.and_self]; try simp
     · simp only [ssT,zaf,zag,setSlot,gOf,AV.ren,renL,Blk.ren,Ax.look,Ax.put,reduceCtorEq,↓reduceIte,Nat.reduceEqDiff,Nat.reduceLT,Nat.reduceAdd,List.length_append,List.length_cons,List.length_nil,Option.some.injEq,fpL,fpH,AV.fp,Blk.fp,Nat.reduceBEq,cond_true,cond_false,beq_self_eq_true,Bool.and_self,bfr_nil]; try simp
   · rintro m σ ⟨i,a,rfl,hi,hinv,hal,rfl⟩
     have e1 : ((i : Int) + 1 + 9223372036854775808) % 18446744073709551616 - 9223372036854775808 = ((i + 1 : Nat) : Int) := by omega
     have hml := len_bfr a
     by_cases hil : i < es.length
     · have d3 : decide ((i : Int) < es.length) = true := decide_eq_true (by omega)
       have hs1 := zcx es i hil
       have m1 := he es[i] (List.getElem_mem hil)
       have hdr : l.drop i = es[i].1 :: l.drop (i + 1) := by
         rw [List.drop_eq_getElem_cons (by omega)]
         subst hl; simp
       obtain ⟨P,hP⟩ : ∃ P,es[i] = P := ⟨_,rfl⟩
       rw [hP] at hs1 m1 hdr
       rw [hdr,List.foldl_cons] at hinv
       obtain ⟨⟨b,c,p,e,s,rs⟩,f'⟩ := P
       have hs1 : slot (es.map bvp) i = .agg [.w (.int .i64 b),.w (.int .i64 c),.w (.int .i64 p),.w (.int .i64 e),.w (.int .i64 s),.sg 6 (rs.map rv) f'] := hs1
       simp only at m1
       have hlr : (rs.map rv).length = rs.length := by simp
       have hcR : ∀ h,coe ty 28 (.sg 6 (rs.map rv) h) = .sg 6 (rs.map rv) h := fun h => by cases rs <;> rfl
       have hx : ∃ qs : List Rec,rs.map rv = qs.map rv := ⟨rs,rfl⟩
       have hr1 := zan rs
       have hflt : rs.filter (fun r => !goB M b now g r) = rs.filter (fun r => zcu M b r now g) := by
         have hf : (fun r => !goB M b now g r) = fun r => zcu M b r now g := by funext r; unfold goB; exact Bool.not_not _
         rw [hf]
       obtain ⟨qs,hq⟩ : ∃ qs,rs.filter (fun r => zcu M b r now g) = qs := ⟨_,rfl⟩
       rw [hq] at hflt
       have hlqs : qs.length ≤ rs.length := by rw [← hq]; exact List.length_filter_le _ _
       have hlqv : (qs.map rv).length = qs.length := by simp
       have hB : clnB M now g ⟨b,c,p,e,s,rs⟩ = ⟨b,c,p,e,s,qs⟩ := by unfold clnB; rw [hq]
       unfold clnS at hinv
       rw [hB] at hinv
       have hst : (qs.length = 0 ∧ p = 0) = empB ⟨b,c,p,e,s,qs⟩ := rfl
       have hcN : ∀ h,coe ty 28 (.sg 6 [] h) = .sg 6 [] h := fun h => rfl
       have hbsn := bfr_snoc a ⟨b,c,p,e,s,qs⟩
       simp only [bav] at hbsn
       by_cases hz : rs.length = 0
       · obtain rfl : rs = [] := List.eq_nil_of_length_eq_zero hz
         have hq0 : qs = [] := by rw [← hq]; exact List.filter_nil
         clear hq hflt hB hlqs hlqv hcR hlr hx hr1
         subst hq0
         simp only [List.map_nil] at hs1 hbsn
         have l0 : ([] : List AV).length = 0 := rfl
         by_cases hE : empB ⟨b,c,p,e,s,[]⟩
         · have dE : decide (p = 0) = true := decide_eq_true hE.2
           rw [if_pos hE] at hinv
           simp only [go_sem,zac,Nat.reduceAdd,Nat.reduceSub,Nat.reduceMul,Int.reduceToNat,reduceCtorEq,↓reduceIte,Int.reducePow,Nat.reducePow,Int.reduceMod,Nat.reduceLeDiff,Int.reduceLE,Int.reduceNe,Int.reduceEq,Nat.reduceEqDiff,Nat.reduceLT,Nat.reduceBEq,List.map_cons,List.map_nil,List.toList_toArray,Array.toList_append,Option.toArray_some,Option.toArray_none,Bool.and_self,ty,Scln17,Ocln17,cln17Pl,cloneUS,del17S,emp17S,hcN,hlp,hml,d3,hs1,hx0,emp6_nil,dE,e1,cond_true,cond_false,zas,zbj,Int.toNat_natCast,Bool.not_true,l0]
           repeat (refine And.intro (by omega) ?_)
           refine ⟨es.length - (i + 1),_,by omega,zae [0,1,2,3,4,5,6] rfl rfl rfl ?_ ?_,i + 1,a,rfl,by omega,hinv,by omega,rfl⟩
           · simp only [ssT,zaf,zag,setSlot,gOf,AV.ren,renL,Blk.ren,Ax.look,Ax.put,reduceCtorEq,↓reduceIte,Nat.reduceEqDiff,Nat.reduceLT,Nat.reduceAdd,List.length_append,List.length_cons,List.length_nil,Option.some.injEq]
           · simp only [ssT,zaf,zag,setSlot,gOf,AV.ren,renL,Blk.ren,Ax.look,Ax.put,reduceCtorEq,↓reduceIte,Nat.reduceEqDiff,Nat.reduceLT,Nat.reduceAdd,List.length_append,List.length_cons,List.length_nil,Option.some.injEq,ren_bfr]
         · have dE : decide (p = 0) = false := decide_eq_false (fun h => hE ⟨rfl,h⟩)
           rw [if_neg hE] at hinv
           simp only [go_sem,zac,Nat.reduceAdd,Nat.reduceSub,Nat.reduceMul,Int.reduceToNat,reduceCtorEq,↓reduceIte,Int.reducePow,Nat.reducePow,Int.reduceMod,Nat.reduceLeDiff,Int.reduceLE,Int.reduceNe,Int.reduceEq,Nat.reduceEqDiff,Nat.reduceLT,Nat.reduceBEq,List.map_cons,List.map_nil,List.toList_toArray,Array.toList_append,Option.toArray_some,Option.toArray_none,Bool.and_self,ty,Scln17,Ocln17,cln17Pl,cloneUS,del17S,emp17S,hcN,hlp,hml,d3,hs1,hx0,emp6_nil,dE,e1,cond_true,cond_false,zas,zbj,Int.toNat_natCast,Bool.not_false,l0]
           repeat (refine And.intro (by omega) ?_)
           refine ⟨es.length - (i + 1),_,by omega,zae [0,1,2,3,4,5,167] rfl rfl rfl ?_ ?_,i + 1,_,rfl,by omega,hinv,by simp; omega,rfl⟩
           · simp only [ssT,zaf,zag,setSlot,gOf,AV.ren,renL,Blk.ren,Ax.look,Ax.put,reduceCtorEq,↓reduceIte,Nat.reduceEqDiff,Nat.reduceLT,Nat.reduceAdd,List.length_append,List.length_cons,List.length_nil,Option.some.injEq,List.length_append,List.length_cons,List.length_nil]
           · simp only [ssT,zaf,zag,setSlot,gOf,AV.ren,renL,Blk.ren,Ax.look,Ax.put,reduceCtorEq,↓reduceIte,Nat.reduceEqDiff,Nat.reduceLT,Nat.reduceAdd,List.length_append,List.length_cons,List.length_nil,Option.some.injEq,ren_bfr,hbsn]
             rw [← hbsn,ren_bfr]
       · have hem : emp6 (rs.map rv) = false := by cases rs with | nil => simp at hz | cons _ _ => rfl
         have hpos : 0 < rs.length := by omega
         have dpos : decide (0 < rs.length) = true := decide_eq_true hpos
         by_cases hE : empB ⟨b,c,p,e,s,qs⟩
         · have dE : decide (qs.length = 0 ∧ p = 0) = true := decide_eq_true hE
           rw [if_pos hE] at hinv
           simp only [go_sem,zac,Nat.reduceAdd,Nat.reduceSub,Nat.reduceMul,Int.reduceToNat,reduceCtorEq,↓reduceIte,Int.reducePow,Nat.reducePow,Int.reduceMod,Nat.reduceLeDiff,Int.reduceLE,Int.reduceNe,Int.reduceEq,Nat.reduceEqDiff,Nat.reduceLT,Nat.reduceBEq,List.map_cons,List.map_nil,List.toList_toArray,Array.toList_append,Option.toArray_some,Option.toArray_none,Bool.and_self,ty,Scln17,Ocln17,cln17Pl,cloneUS,del17S,emp17S,hcR,hlp,hml,hlr,hlqv,d3,hs1,hx,hr1,hem,hpos,dpos,hmx,hkv,hflt,dE,e1,cond_true,cond_false,zas,zbj,Int.toNat_natCast,Bool.not_true]
           repeat (refine And.intro (by omega) ?_)
           refine ⟨es.length - (i + 1),_,by omega,zae [0,1,2,3,4,5,6] rfl rfl rfl ?_ ?_,i + 1,a,rfl,by omega,hinv,by omega,rfl⟩
           · simp only [ssT,zaf,zag,setSlot,gOf,AV.ren,renL,Blk.ren,Ax.look,Ax.put,reduceCtorEq,↓reduceIte,Nat.reduceEqDiff,Nat.reduceLT,Nat.reduceAdd,List.length_append,List.length_cons,List.length_nil,Option.some.injEq]
           · simp only [ssT,zaf,zag,setSlot,gOf,AV.ren,renL,Blk.ren,Ax.look,Ax.put,reduceCtorEq,↓reduceIte,Nat.reduceEqDiff,Nat.reduceLT,Nat.reduceAdd,List.length_append,List.length_cons,List.length_nil,Option.some.injEq,ren_bfr]
         · have dE : decide (qs.length = 0 ∧ p = 0) = false := decide_eq_false hE
           rw [if_neg hE] at hinv
           simp only [go_sem,zac,Nat.reduceAdd,Nat.reduceSub,Nat.reduceMul,Int.reduceToNat,reduceCtorEq,↓reduceIte,Int.reducePow,Nat.reducePow,Int.reduceMod,Nat.reduceLeDiff,Int.reduceLE,Int.reduceNe,Int.reduceEq,Nat.reduceEqDiff,Nat.reduceLT,Nat.reduceBEq,List.map_cons,List.map_nil,List.toList_toArray,Array.toList_append,Option.toArray_some,Option.toArray_none,Bool.and_self,ty,Scln17,Ocln17,cln17Pl,cloneUS,del17S,emp17S,hcR,hlp,hml,hlr,hlqv,d3,hs1,hx,hr1,hem,hpos,dpos,hmx,hkv,hflt,dE,e1,cond_true,cond_false,zas,zbj,Int.toNat_natCast,Bool.not_false]
           repeat (refine And.intro (by omega) ?_)
           refine ⟨es.length - (i + 1),_,by omega,zae [0,1,2,3,4,5,167] rfl rfl rfl ?_ ?_,i + 1,_,rfl,by omega,hinv,by simp; omega,rfl⟩
           · simp only [ssT,zaf,zag,setSlot,gOf,AV.ren,renL,Blk.ren,Ax.look,Ax.put,reduceCtorEq,↓reduceIte,Nat.reduceEqDiff,Nat.reduceLT,Nat.reduceAdd,List.length_append,List.length_cons,List.length_nil,Option.some.injEq,List.length_append,List.length_cons,List.length_nil]
           · simp only [ssT,zaf,zag,setSlot,gOf,AV.ren,renL,Blk.ren,Ax.look,Ax.put,reduceCtorEq,↓reduceIte,Nat.reduceEqDiff,Nat.reduceLT,Nat.reduceAdd,List.length_append,List.length_cons,List.length_nil,Option.some.injEq,ren_bfr,hbsn]
             rw [← hbsn,ren_bfr]
     · have d3 : decide ((i : Int) < es.length) = false := decide_eq_false (by omega)
       have hdr : l.drop i = [] := List.drop_eq_nil_of_le (by omega)
       rw [hdr,List.foldl_nil] at hinv
       simp only [go_sem,zac,Nat.reduceAdd,Nat.reduceSub,Nat.reduceMul,Int.reduceToNat,reduceCtorEq,↓reduceIte,Int.reducePow,Nat.reducePow,Int.reduceMod,Nat.reduceLeDiff,Int.reduceLE,Int.reduceNe,Int.reduceEq,Nat.reduceEqDiff,Nat.reduceLT,Nat.reduceBEq,List.map_cons,List.map_nil,List.toList_toArray,Array.toList_append,Option.toArray_some,Option.toArray_none,Bool.and_self,ty,Scln17,Ocln17,cln17Pl,hlp,hml,d3]
       refine ⟨_,Weak.refl _,?_⟩
       simp only [go_sem,zac,Nat.reduceAdd,Nat.reduceSub,Nat.reduceMul,Int.reduceToNat,reduceCtorEq,↓reduceIte,Int.reducePow,Nat.reducePow,Int.reduceMod,Nat.reduceLeDiff,Int.reduceLE,Int.reduceNe,Int.reduceEq,Nat.reduceEqDiff,Nat.reduceLT,Nat.reduceBEq,List.map_cons,List.map_nil,List.toList_toArray,Array.toList_append,Option.toArray_some,Option.toArray_none,Bool.and_self,ty,Scln17,Ocln17,cln17Pl,hlp,hml,d3]
       have hdle : decide (0 + a.length ≤ (bfr a).length) = true := decide_eq_true (by omega)
       have htk : (bfr a).take a.length = bfr a := List.take_of_length_le (by omega)
       refine ⟨_,weak_fg 6 6 6 (bfr a) rfl (closed_bfr a) (by simp [slot,AV.ids]),?_⟩
       simp only [fgL,fgH,AV.fg,Blk.fg,Nat.reduceBEq,cond_true,cond_false,hdle,Bool.and_true,beq_self_eq_true,Bool.true_and,List.drop_zero,htk]
       rw [← hinv]
       simp only [go_sem,zac,Nat.reduceAdd,Nat.reduceSub,Nat.reduceMul,Int.reduceToNat,reduceCtorEq,↓reduceIte,Int.reducePow,Nat.reducePow,Int.reduceMod,Nat.reduceLeDiff,Int.reduceLE,Int.reduceNe,Int.reduceEq,Nat.reduceEqDiff,Nat.reduceLT,Nat.reduceBEq,List.map_cons,List.map_nil,List.toList_toArray,Array.toList_append,Option.toArray_some,Option.toArray_none,Bool.and_self,ty,closed_bfr,ren_bfr,cond_true]
 · exact hp.elim
end
end Go.Proofs.Ytckbejanaebjkaa
namespace Go.Proofs.Ytckbejanaebjkaa
open Ax
def isBk (xs : List AV) : Prop := ∃ es : List (Bat × Bool),xs = es.map bvp ∧ ∀ p ∈ es,p.1.rs.length ≤ 1000000
theorem isBk_isBs {xs : List AV} (h : isBk xs) : isBs xs := by
 obtain ⟨es,rfl,he⟩ := h
 exact ⟨es,rfl,fun p hp => by have := he p hp; omega⟩
theorem isBk_bfr {l : List Bat} (h : ∀ x ∈ l,x.rs.length ≤ 1000000) : isBk (bfr l) := ⟨l.map offB,rfl,fun p hp => by
 obtain ⟨x,hx,rfl⟩ := List.mem_map.1 hp
 exact h x hx⟩
theorem clnM_mem (M : KM) (now g : Int) (Q : Bat → Prop) (hQ : ∀ x,Q x → Q (clnB M now g x)) : ∀ (l a : List Bat),(∀ x ∈ l,Q x) → (∀ x ∈ a,Q x) → ∀ x ∈ l.foldl (clnS M now g) a,Q x
 | [],a,_,ha => ha
 | y :: l,a,hl,ha => by
   refine clnM_mem M now g Q hQ l _ (fun x hx => hl x (List.mem_cons_of_mem _ hx)) ?_
   intro x hx
   unfold clnS at hx
   split at hx
   · exact ha x hx
   · rcases List.mem_append.1 hx with h | h
     · exact ha x h
     · simp at h; subst h; exact hQ _ (hl y (List.mem_cons_self ..))
theorem clnL_small {l : List Bat} {now g : Int} (h : ∀ x ∈ l,x.rs.length ≤ 1000000) : ∀ x ∈ clnL l now g,x.rs.length ≤ 1000000 :=
 clnM_mem _ now g (fun x => x.rs.length ≤ 1000000) (fun x hx => Nat.le_trans (List.length_filter_le _ _) hx) l [] h (fun _ h => by cases h)
theorem clnL_len (l : List Bat) (now g : Int) : (clnL l now g).length ≤ l.length := by
 have := clnM_len (lastK l) now g l []
 simpa [clnL,clnM] using this
def cntL (l : List Bat) : Nat := l.foldl (fun n x => n + x.rs.length) 0
def dirL (l : List Bat) (now g : Int) : Bool := !(decide ((clnL l now g).length = l.length) && decide (cntL (clnL l now g) = cntL l))
def kpB (l : List Bat) (i k now g : Int) : Bool :=
 if 0 ≤ i ∧ 0 ≤ k then
   match l[i.toNat]? with
   | some x => match x.rs[k.toNat]? with
     | some r => zcu (lastK l) x.b r now g
     | none => false
   | none => false
 else false
def cnt17S : zay
 | [.sg 6 xs f],[] => ⟨xs.length ≤ 1000000 ∧ isBk xs,.w (.int .i64 (cntL (xs.map ubat))),[]⟩
 | _,_ => zer
def dir17S : zay
 | [.sg 6 xs f,.w (.int .i64 now),.w (.int .i64 g)],[] => ⟨xs.length ≤ 1000000 ∧ isBk xs,.w (.bool (dirL (xs.map ubat) now g)),[]⟩
 | _,_ => zer
def kps17S : zay
 | [.sg 6 xs f,.w (.int .i64 i),.w (.int .i64 k),.w (.int .i64 now),.w (.int .i64 g)],[] => ⟨xs.length ≤ 1000000 ∧ isBk xs,.w (.bool (kpB (xs.map ubat) i k now g)),[]⟩
 | _,_ => zer
section
set_option maxRecDepth 100000
set_option maxHeartbeats 2000000 in
theorem cnt17_sound : zcn Try.prog 19 cnt17S := by
 refine zbs (S := noS) (T := ty) zet ty_ok noS_ok Try.func19 (c := Try.f19.body.getD .skip) (by kernel_rfl) (by kernel_rfl) (fun xs pins hp _ => ?_)
 unfold cnt17S at hp ⊢
 split at hp
 · rename_i xs f _
   obtain ⟨hL,es,rfl,he⟩ := hp
   simp only [List.length_map] at hL
   refine ⟨by simp,?_⟩
   have hlp : (es.map bvp).length = es.length := by simp
   rw [zco]
   obtain ⟨l,hl⟩ : ∃ l,es.map Prod.fst = l := ⟨_,rfl⟩
   have hel : ∀ x ∈ l,x.rs.length ≤ 1000000 := by
     intro x hx
     rw [← hl] at hx
     obtain ⟨p,hp,rfl⟩ := List.mem_map.1 hx
     exact he p hp
   have hlq : l.length = es.length := by subst hl; simp
   rw [hl]
   unfold Try.f19
   simp only [go_sem,zaa,Nat.reduceAdd,Nat.reduceSub,Nat.reduceMul,Int.reduceToNat,reduceCtorEq,↓reduceIte,Int.reducePow,Nat.reducePow,Int.reduceMod,Nat.reduceLeDiff,Int.reduceLE,Int.reduceNe,Int.reduceEq,Nat.reduceEqDiff,Nat.reduceLT,Nat.reduceBEq,ty,noS,hlp]
   refine zef ⟨fun m σ => ∃ (i a : Nat),m = es.length - i ∧ i ≤ es.length ∧ a ≤ i * 1000000 ∧ cntL l = (l.drop i).foldl (fun n x => n + x.rs.length) a ∧
       σ = ⟨[.sg 6 (es.map bvp) f,.junk,.junk,.w (.int .i64 a),.junk,.junk,.sg 6 (es.map bvp) f,.w (.int .i64 es.length),.w (.int .i64 i),.junk,.junk,.junk,.junk,.junk,.junk,.junk,.junk,.junk,.junk],[],4⟩,?_,?_⟩
   · refine ⟨_,_,zae [0,1,2,3] rfl rfl rfl ?_ ?_,0,0,rfl,by omega,by omega,rfl,rfl⟩
     · simp only [ssT,zaf,zag,setSlot,gOf,AV.ren,renL,Blk.ren,Ax.look,Ax.put,reduceCtorEq,↓reduceIte,Nat.reduceEqDiff,Nat.reduceLT,Nat.reduceAdd,List.length_append,List.length_cons,List.length_nil,Option.some.injEq]; try simp
     · simp only [ssT,zaf,zag,setSlot,gOf,AV.ren,renL,Blk.ren,Ax.look,Ax.put,reduceCtorEq,↓reduceIte,Nat.reduceEqDiff,Nat.reduceLT,Nat.reduceAdd,List.length_append,List.length_cons,List.length_nil,Option.some.injEq]
   · rintro m σ ⟨i,a,rfl,hi,ha,hinv,rfl⟩
     have e1 : ((i : Int) + 1 + 9223372036854775808) % 18446744073709551616 - 9223372036854775808 = ((i + 1 : Nat) : Int) := by omega
     by_cases hil : i < es.length
     · have d3 : decide ((i : Int) < es.length) = true := decide_eq_true (by omega)
       have hs1 := zcx es i hil
       have m1 := he es[i] (List.getElem_mem hil)
       have hdr : l.drop i = es[i].1 :: l.drop (i + 1) := by
         rw [List.drop_eq_getElem_cons (by omega)]
         subst hl; simp
       obtain ⟨P,hP⟩ : ∃ P,es[i] = P := ⟨_,rfl⟩
       rw [hP] at hs1 m1 hdr
       rw [hdr,List.foldl_cons] at hinv
       obtain ⟨⟨b,c,p,e,s,rs⟩,f'⟩ := P
       have hs1 : slot (es.map bvp) i = .agg [.w (.int .i64 b),.w (.int .i64 c),.w (.int .i64 p),.w (.int .i64 e),.w (.int .i64 s),.sg 6 (rs.map rv) f'] := hs1
       simp only at m1 hinv
       have hlr : (rs.map rv).length = rs.length := by simp
       have e2 : ((a : Int) + (rs.length : Int) + 9223372036854775808) % 18446744073709551616 - 9223372036854775808 = ((a + rs.length : Nat) : Int) := by omega
       simp only [go_sem,zaa,Nat.reduceAdd,Nat.reduceSub,Nat.reduceMul,Int.reduceToNat,reduceCtorEq,↓reduceIte,Int.reducePow,Nat.reducePow,Int.reduceMod,Nat.reduceLeDiff,Int.reduceLE,Int.reduceNe,Int.reduceEq,Nat.reduceEqDiff,Nat.reduceLT,Nat.reduceBEq,ty,noS,hlp,hlr,d3,hs1,e1,e2,Int.toNat_natCast]
       repeat (refine And.intro (by omega) ?_)
       refine ⟨es.length - (i + 1),_,by omega,zae [0,1,2,3] rfl rfl rfl ?_ ?_,i + 1,a + rs.length,rfl,by omega,by omega,hinv,rfl⟩
       · simp only [ssT,zaf,zag,setSlot,gOf,AV.ren,renL,Blk.ren,Ax.look,Ax.put,reduceCtorEq,↓reduceIte,Nat.reduceEqDiff,Nat.reduceLT,Nat.reduceAdd,List.length_append,List.length_cons,List.length_nil,Option.some.injEq]
       · simp only [ssT,zaf,zag,setSlot,gOf,AV.ren,renL,Blk.ren,Ax.look,Ax.put,reduceCtorEq,↓reduceIte,Nat.reduceEqDiff,Nat.reduceLT,Nat.reduceAdd,List.length_append,List.length_cons,List.length_nil,Option.some.injEq]
     · have d3 : decide ((i : Int) < es.length) = false := decide_eq_false (by omega)
       have hdr : l.drop i = [] := List.drop_eq_nil_of_le (by omega)
       rw [hdr,List.foldl_nil] at hinv
       simp only [go_sem,zaa,Nat.reduceAdd,Nat.reduceSub,Nat.reduceMul,Int.reduceToNat,reduceCtorEq,↓reduceIte,Int.reducePow,Nat.reducePow,Int.reduceMod,Nat.reduceLeDiff,Int.reduceLE,Int.reduceNe,Int.reduceEq,Nat.reduceEqDiff,Nat.reduceLT,Nat.reduceBEq,ty,noS,hlp,d3,hinv]
 · exact hp.elim
def Sdir17 (f : FuncId) : Option zay :=
 match f with
 | 12 => some cln17S
 | 19 => some cnt17S
 | _ => none
theorem Sdir17_ok : Fns Try.prog Sdir17 := by
 intro f s h
 unfold Sdir17 at h
 split at h
 · injection h with h; subst h; exact ⟨⟨_,Try.func12,by kernel_rfl,by kernel_rfl⟩,cln17_sound⟩
 · injection h with h; subst h; exact ⟨⟨_,Try.func19,by kernel_rfl,by kernel_rfl⟩,cnt17_sound⟩
 · cases h
set_option maxHeartbeats 1000000 in
theorem dir17_sound : zcn Try.prog 16 dir17S := by
 refine zbs (S := Sdir17) (T := ty) zet ty_ok Sdir17_ok Try.func16 (c := Try.f16.body.getD .skip) (by kernel_rfl) (by kernel_rfl) (fun xs pins hp _ => ?_)
 unfold dir17S at hp ⊢
 split at hp
 · rename_i xs f now g _
   obtain ⟨hL,hxs⟩ := hp
   have hbk : (∃ es : List (Bat × Bool),xs = es.map bvp ∧ ∀ p ∈ es,p.1.rs.length ≤ 1000000) := hxs
   have hbk2 : isBk xs := hxs
   obtain ⟨es,rfl,he⟩ := hxs
   have hlp : (es.map bvp).length = es.length := by simp
   rw [hlp] at hL
   have mu := zco es
   rw [mu]
   obtain ⟨l,hl⟩ : ∃ l,es.map Prod.fst = l := ⟨_,rfl⟩
   rw [hl] at mu ⊢
   have hel : ∀ x ∈ l,x.rs.length ≤ 1000000 := by
     intro x hx
     rw [← hl] at hx
     obtain ⟨p,hp,rfl⟩ := List.mem_map.1 hx
     exact he p hp
   have hlq : l.length = es.length := by subst hl; simp
   have hcl := clnL_len l now g
   have hcs := isBk_bfr (clnL_small (now := now) (g := g) hel)
   have hdr : dirL l now g = !(decide ((clnL l now g).length = l.length) && decide (cntL (clnL l now g) = cntL l)) := rfl
   obtain ⟨C,hC⟩ : ∃ C,clnL l now g = C := ⟨_,rfl⟩
   rw [hC] at hcl hcs hdr
   have hlc := len_bfr C
   have huc := ubat_bfr C
   obtain ⟨n1,h1⟩ : ∃ n,cntL C = n := ⟨_,rfl⟩
   obtain ⟨n2,h2⟩ : ∃ n,cntL l = n := ⟨_,rfl⟩
   rw [h1,h2,hlq] at hdr
   refine ⟨by simp,?_⟩
   have hcB : ∀ h,coe ty 22 (.sg 6 (es.map bvp) h) = .sg 6 (es.map bvp) h := fun h => by cases es <;> rfl
   have hcC : ∀ h,coe ty 22 (.sg 6 (bfr C) h) = .sg 6 (bfr C) h := fun h => by cases C <;> rfl
   unfold Try.f16
   by_cases c1 : C.length = es.length
   · have d1 : decide ((C.length : Int) = es.length) = true := decide_eq_true (by omega)
     have d1' : decide (C.length = es.length) = true := decide_eq_true c1
     by_cases c2 : n1 = n2
     · have d2 : decide ((n1 : Int) = n2) = true := decide_eq_true (by omega)
       have d2' : decide (n1 = n2) = true := decide_eq_true c2
       rw [d1',d2'] at hdr
       simp only [go_sem,zaa,Nat.reduceAdd,Nat.reduceSub,Nat.reduceMul,Int.reduceToNat,reduceCtorEq,↓reduceIte,Int.reducePow,Nat.reducePow,Int.reduceMod,Nat.reduceLeDiff,Int.reduceLE,Int.reduceNe,Int.reduceEq,Nat.reduceEqDiff,Nat.reduceLT,Nat.reduceBEq,ty,Sdir17,cln17S,cnt17S,hcB,hcC,hlp,hlc,huc,mu,hC,hcs,hbk,hbk2,h1,h2,d1,d2,hdr,Bool.not_true,Bool.not_false,Bool.and_self]
       repeat (refine And.intro (by omega) ?_)
       first | rfl | omega | trivial
     · have d2 : decide ((n1 : Int) = n2) = false := decide_eq_false (by omega)
       have d2' : decide (n1 = n2) = false := decide_eq_false c2
       rw [d1',d2'] at hdr
       simp only [go_sem,zaa,Nat.reduceAdd,Nat.reduceSub,Nat.reduceMul,Int.reduceToNat,reduceCtorEq,↓reduceIte,Int.reducePow,Nat.reducePow,Int.reduceMod,Nat.reduceLeDiff,Int.reduceLE,Int.reduceNe,Int.reduceEq,Nat.reduceEqDiff,Nat.reduceLT,Nat.reduceBEq,ty,Sdir17,cln17S,cnt17S,hcB,hcC,hlp,hlc,huc,mu,hC,hcs,hbk,hbk2,h1,h2,d1,d2,hdr,Bool.not_true,Bool.not_false,Bool.and_self,Bool.and_false]
       repeat (refine And.intro (by omega) ?_)
       first | rfl | omega | trivial
   · have d1 : decide ((C.length : Int) = es.length) = false := decide_eq_false (by omega)
     have d1' : decide (C.length = es.length) = false := decide_eq_false c1
     rw [d1'] at hdr
     simp only [go_sem,zaa,Nat.reduceAdd,Nat.reduceSub,Nat.reduceMul,Int.reduceToNat,reduceCtorEq,↓reduceIte,Int.reducePow,Nat.reducePow,Int.reduceMod,Nat.reduceLeDiff,Int.reduceLE,Int.reduceNe,Int.reduceEq,Nat.reduceEqDiff,Nat.reduceLT,Nat.reduceBEq,ty,Sdir17,cln17S,cnt17S,hcB,hcC,hlp,hlc,huc,mu,hC,hcs,hbk,hbk2,h1,h2,d1,hdr,Bool.not_true,Bool.not_false,Bool.and_self,Bool.false_and]
     repeat (refine And.intro (by omega) ?_)
     first | rfl | omega | trivial
 · exact hp.elim
def Skps17 (f : FuncId) : Option zay :=
 match f with
 | 8 => some zej
 | 20 => some stays17S
 | _ => none
theorem Skps17_ok : Fns Try.prog Skps17 := by
 intro f s h
 unfold Skps17 at h
 split at h
 · injection h with h; subst h; exact ⟨⟨_,Try.func8,by kernel_rfl,by kernel_rfl⟩,zec⟩
 · injection h with h; subst h; exact ⟨⟨_,Try.func20,by kernel_rfl,by kernel_rfl⟩,stays17_sound⟩
 · cases h
def kps17Pl : Plan := fun id => match id with
 | 3 => some [(2,13),(3,13),(6,13),(7,13),(8,13),(10,13),(11,13)]
 | _ => none
set_option maxHeartbeats 2000000 in
theorem kps17_sound : zcn Try.prog 10 kps17S := by
 refine fn_soundF (S := Skps17) (T := ty) (pl := kps17Pl) zet ty_ok Skps17_ok Try.func10 (c := Try.f10.body.getD .skip) (by kernel_rfl) (by kernel_rfl) (fun xs pins hp _ => ?_)
 unfold kps17S at hp ⊢
 split at hp
 · rename_i xs f i k now g _
   obtain ⟨hL,hxs⟩ := hp
   have hbs := isBk_isBs hxs
   obtain ⟨es,rfl,he⟩ := hxs
   have hlp : (es.map bvp).length = es.length := by simp
   rw [hlp] at hL
   have mu := zco es
   rw [mu]
   obtain ⟨l,hl⟩ : ∃ l,es.map Prod.fst = l := ⟨_,rfl⟩
   rw [hl] at mu ⊢
   have hlq : l.length = es.length := by subst hl; simp
   refine ⟨by simp,?_⟩
   unfold Try.f10
   by_cases c1 : i < 0
   · have d1 : decide (i < 0) = true := decide_eq_true c1
     have hv : kpB l i k now g = false := by unfold kpB; rw [if_neg (by omega)]
     simp only [go_sem,zal,Nat.reduceAdd,Nat.reduceSub,Nat.reduceMul,Int.reduceToNat,reduceCtorEq,↓reduceIte,Int.reducePow,Nat.reducePow,Int.reduceMod,Nat.reduceLeDiff,Int.reduceLE,Int.reduceNe,Int.reduceEq,Nat.reduceEqDiff,Nat.reduceLT,Nat.reduceBEq,List.map_cons,List.map_nil,List.toList_toArray,Array.toList_append,Option.toArray_some,Option.toArray_none,Bool.and_self,ty,Skps17,kps17Pl,d1,hv]
     refine ⟨_,Weak.refl _,?_⟩
     simp only [go_sem,zal,Nat.reduceAdd,Nat.reduceSub,Nat.reduceMul,Int.reduceToNat,reduceCtorEq,↓reduceIte,Int.reducePow,Nat.reducePow,Int.reduceMod,Nat.reduceLeDiff,Int.reduceLE,Int.reduceNe,Int.reduceEq,Nat.reduceEqDiff,Nat.reduceLT,Nat.reduceBEq,List.map_cons,List.map_nil,List.toList_toArray,Array.toList_append,Option.toArray_some,Option.toArray_none,Bool.and_self,ty]
   · obtain ⟨I,rfl⟩ : ∃ I : Nat,i = I := ⟨i.toNat,by omega⟩
     have d1 : decide ((I : Int) < 0) = false := decide_eq_false c1
     by_cases c2 : I < es.length
     · have d2 : decide ((es.length : Int) ≤ I) = false := decide_eq_false (by omega)
       have hs1 := zcx es I c2
       have hgi : l[I]? = some es[I].1 := by
         rw [List.getElem?_eq_getElem (by omega)]; subst hl; simp
       obtain ⟨P,hP⟩ : ∃ P,es[I] = P := ⟨_,rfl⟩
       rw [hP] at hs1 hgi
       obtain ⟨⟨b,c,p,e,s,rs⟩,f'⟩ := P
       have hs1 : slot (es.map bvp) I = .agg [.w (.int .i64 b),.w (.int .i64 c),.w (.int .i64 p),.w (.int .i64 e),.w (.int .i64 s),.sg 6 (rs.map rv) f'] := hs1
       have hlr : (rs.map rv).length = rs.length := by simp
       by_cases c3 : k < 0
       · have d3 : decide (k < 0) = true := decide_eq_true c3
         have hv : kpB l (I : Int) k now g = false := by unfold kpB; rw [if_neg (by omega)]
         simp only [go_sem,zal,Nat.reduceAdd,Nat.reduceSub,Nat.reduceMul,Int.reduceToNat,reduceCtorEq,↓reduceIte,Int.reducePow,Nat.reducePow,Int.reduceMod,Nat.reduceLeDiff,Int.reduceLE,Int.reduceNe,Int.reduceEq,Nat.reduceEqDiff,Nat.reduceLT,Nat.reduceBEq,List.map_cons,List.map_nil,List.toList_toArray,Array.toList_append,Option.toArray_some,Option.toArray_none,Bool.and_self,ty,Skps17,kps17Pl,hlp,d1,d2,d3,hv]
         refine ⟨_,Weak.refl _,?_⟩
         simp only [go_sem,zal,Nat.reduceAdd,Nat.reduceSub,Nat.reduceMul,Int.reduceToNat,reduceCtorEq,↓reduceIte,Int.reducePow,Nat.reducePow,Int.reduceMod,Nat.reduceLeDiff,Int.reduceLE,Int.reduceNe,Int.reduceEq,Nat.reduceEqDiff,Nat.reduceLT,Nat.reduceBEq,List.map_cons,List.map_nil,List.toList_toArray,Array.toList_append,Option.toArray_some,Option.toArray_none,Bool.and_self,ty]
       · obtain ⟨K,rfl⟩ : ∃ K : Nat,k = K := ⟨k.toNat,by omega⟩
         have d3 : decide ((K : Int) < 0) = false := decide_eq_false c3
         by_cases c4 : K < rs.length
         · have d4 : decide ((rs.length : Int) ≤ K) = false := decide_eq_false (by omega)
           have hs2 := zbf rv rs K c4
           have hgk : rs[K]? = some rs[K] := List.getElem?_eq_getElem c4
           obtain ⟨R,hR⟩ : ∃ R,rs[K] = R := ⟨_,rfl⟩
           rw [hR] at hs2 hgk
           obtain ⟨d,t,kd,key,dd,val⟩ := R
           simp only [rv] at hs2
           obtain ⟨M,hM⟩ : ∃ M,lastK l = M := ⟨_,rfl⟩
           have hmx : ∃ m,kvA M = kvA m := ⟨M,rfl⟩
           have hkv := ukv_kvA M
           obtain ⟨V,hV⟩ : ∃ V,zcu M b ⟨d,t,kd,key,dd,val⟩ now g = V := ⟨_,rfl⟩
           have hv : kpB l (I : Int) (K : Int) now g = V := by
             unfold kpB
             rw [if_pos (by omega),Int.toNat_natCast,Int.toNat_natCast,hgi]
             simp only [hgk]
             rw [hM,hV]
           have hcB : ∀ h,coe ty 22 (.sg 6 (es.map bvp) h) = .sg 6 (es.map bvp) h := fun h => by cases es <;> rfl
           simp only [go_sem,zal,Nat.reduceAdd,Nat.reduceSub,Nat.reduceMul,Int.reduceToNat,reduceCtorEq,↓reduceIte,Int.reducePow,Nat.reducePow,Int.reduceMod,Nat.reduceLeDiff,Int.reduceLE,Int.reduceNe,Int.reduceEq,Nat.reduceEqDiff,Nat.reduceLT,Nat.reduceBEq,List.map_cons,List.map_nil,List.toList_toArray,Array.toList_append,Option.toArray_some,Option.toArray_none,Bool.and_self,ty,Skps17,kps17Pl,zej,stays17S,hcB,hlp,hlr,hbs,mu,hM,hmx,hkv,d1,d2,d3,d4,hs1,hs2,hV,hv,Int.toNat_natCast]
           repeat (refine And.intro (by omega) ?_)
           refine ⟨_,Weak.refl _,?_⟩
           simp only [go_sem,zal,Nat.reduceAdd,Nat.reduceSub,Nat.reduceMul,Int.reduceToNat,reduceCtorEq,↓reduceIte,Int.reducePow,Nat.reducePow,Int.reduceMod,Nat.reduceLeDiff,Int.reduceLE,Int.reduceNe,Int.reduceEq,Nat.reduceEqDiff,Nat.reduceLT,Nat.reduceBEq,List.map_cons,List.map_nil,List.toList_toArray,Array.toList_append,Option.toArray_some,Option.toArray_none,Bool.and_self,ty]
         · have d4 : decide ((rs.length : Int) ≤ K) = true := decide_eq_true (by omega)
           have hv : kpB l (I : Int) (K : Int) now g = false := by
             unfold kpB
             rw [if_pos (by omega),Int.toNat_natCast,Int.toNat_natCast,hgi]
             simp only [List.getElem?_eq_none (Nat.le_of_not_lt c4)]
           simp only [go_sem,zal,Nat.reduceAdd,Nat.reduceSub,Nat.reduceMul,Int.reduceToNat,reduceCtorEq,↓reduceIte,Int.reducePow,Nat.reducePow,Int.reduceMod,Nat.reduceLeDiff,Int.reduceLE,Int.reduceNe,Int.reduceEq,Nat.reduceEqDiff,Nat.reduceLT,Nat.reduceBEq,List.map_cons,List.map_nil,List.toList_toArray,Array.toList_append,Option.toArray_some,Option.toArray_none,Bool.and_self,ty,Skps17,kps17Pl,hlp,hlr,d1,d2,d3,d4,hs1,hv,Int.toNat_natCast]
           repeat (refine And.intro (by omega) ?_)
           refine ⟨_,Weak.refl _,?_⟩
           simp only [go_sem,zal,Nat.reduceAdd,Nat.reduceSub,Nat.reduceMul,Int.reduceToNat,reduceCtorEq,↓reduceIte,Int.reducePow,Nat.reducePow,Int.reduceMod,Nat.reduceLeDiff,Int.reduceLE,Int.reduceNe,Int.reduceEq,Nat.reduceEqDiff,Nat.reduceLT,Nat.reduceBEq,List.map_cons,List.map_nil,List.toList_toArray,Array.toList_append,Option.toArray_some,Option.toArray_none,Bool.and_self,ty]
     · have d2 : decide ((es.length : Int) ≤ I) = true := decide_eq_true (by omega)
       have hv : kpB l (I : Int) k now g = false := by
         unfold kpB
         split
         · rw [Int.toNat_natCast,List.getElem?_eq_none (by omega)]
         · rfl
       simp only [go_sem,zal,Nat.reduceAdd,Nat.reduceSub,Nat.reduceMul,Int.reduceToNat,reduceCtorEq,↓reduceIte,Int.reducePow,Nat.reducePow,Int.reduceMod,Nat.reduceLeDiff,Int.reduceLE,Int.reduceNe,Int.reduceEq,Nat.reduceEqDiff,Nat.reduceLT,Nat.reduceBEq,List.map_cons,List.map_nil,List.toList_toArray,Array.toList_append,Option.toArray_some,Option.toArray_none,Bool.and_self,ty,Skps17,kps17Pl,hlp,d1,d2,hv]
       refine ⟨_,Weak.refl _,?_⟩
       simp only [go_sem,zal,Nat.reduceAdd,Nat.reduceSub,Nat.reduceMul,Int.reduceToNat,reduceCtorEq,↓reduceIte,Int.reducePow,Nat.reducePow,Int.reduceMod,Nat.reduceLeDiff,Int.reduceLE,Int.reduceNe,Int.reduceEq,Nat.reduceEqDiff,Nat.reduceLT,Nat.reduceBEq,List.map_cons,List.map_nil,List.toList_toArray,Array.toList_append,Option.toArray_some,Option.toArray_none,Bool.and_self,ty]
 · exact hp.elim
end
end Go.Proofs.Ytckbejanaebjkaa
namespace Go.Proofs.Ytckbejanaebjkaa
open Ax
def okR17 (r : Rec) : Prop := 0 ≤ r.d ∧ r.d ≤ 1000
instance (r : Rec) : Decidable (okR17 r) := by unfold okR17; infer_instance
def okB17 (x : Bat) : Prop := (0 ≤ x.b ∧ x.b ≤ 4611686018427387903) ∧ ∀ r ∈ x.rs,okR17 r
instance (x : Bat) : Decidable (okB17 x) := by unfold okB17; infer_instance
def lgt17 (l : List Bat) : Prop := ((l.length : Int) ≤ 16 ∧ ∀ b ∈ l,lightB b) ∧ ∀ x ∈ l,okB17 x
instance (l : List Bat) : Decidable (lgt17 l) := by unfold lgt17; infer_instance
def lgt17S : zay
 | [.sg 6 xs f],[] => ⟨xs.length ≤ 9223372036854775807 ∧ isBs xs,.w (.bool (decide (lgt17 (xs.map ubat)))),[]⟩
 | _,_ => zer
def Slg17 (f : FuncId) : Option zay :=
 match f with
 | 17 => some lallS
 | _ => none
theorem Slg17_ok : Fns Try.prog Slg17 := by
 intro f s h
 unfold Slg17 at h
 split at h
 · injection h with h; subst h; exact ⟨⟨_,Try.func17,by kernel_rfl,by kernel_rfl⟩,lall_sound⟩
 · cases h
section
set_option maxRecDepth 100000
set_option maxHeartbeats 4000000 in
theorem lgt17_sound : zcn Try.prog 6 lgt17S := by
 refine zbs (S := Slg17) (T := ty) zet ty_ok Slg17_ok Try.func6 (c := Try.f6.body.getD .skip) (by kernel_rfl) (by kernel_rfl) (fun xs pins hp _ => ?_)
 unfold lgt17S at hp ⊢
 split at hp
 · rename_i xs f _
   obtain ⟨hL,hb⟩ := hp
   have hb0 := hb
   obtain ⟨es,rfl,he⟩ := hb
   refine ⟨by simp,?_⟩
   have hlp : (es.map bvp).length = es.length := by simp
   have hc1 : ∀ h,coe ty 22 (.sg 6 (es.map bvp) h) = .sg 6 (es.map bvp) h := fun h => by cases es <;> rfl
   have mu := zco es
   rw [mu]
   obtain ⟨l,hl⟩ : ∃ l,es.map Prod.fst = l := ⟨_,rfl⟩
   rw [hl] at mu ⊢
   have hlq : l.length = es.length := by subst hl; simp
   unfold Try.f6
   by_cases hA : (l.length : Int) ≤ 16 ∧ ∀ b ∈ l,lightB b
   · have dA : decide ((es.length : Int) ≤ 16 ∧ ∀ b ∈ l,lightB b) = true := by rw [← hlq]; exact decide_eq_true hA
     have h16 : es.length ≤ 16 := by have := hA.1; omega
     simp only [go_sem,zaa,Nat.reduceAdd,Nat.reduceSub,Nat.reduceMul,Int.reduceToNat,reduceCtorEq,↓reduceIte,Int.reducePow,Nat.reducePow,Int.reduceMod,Nat.reduceLeDiff,Int.reduceLE,Int.reduceNe,Int.reduceEq,Nat.reduceEqDiff,Nat.reduceLT,Nat.reduceBEq,ty,Slg17,lallS,hc1,hlp,hL,hb0,mu,dA,Bool.not_true]
     rw [hlp] at hL
     have hvt : (∀ x ∈ l,okB17 x) → decide (lgt17 l) = true := fun h => decide_eq_true ⟨hA,h⟩
     have hvf : ∀ x ∈ l,¬ okB17 x → decide (lgt17 l) = false := fun x hx h => decide_eq_false (fun h2 => h (h2.2 x hx))
     obtain ⟨V,hV⟩ : ∃ V,decide (lgt17 l) = V := ⟨_,rfl⟩
     rw [hV] at hvt hvf ⊢
     try refine And.intro (by omega) ?_
     refine zef ⟨fun m σ => ∃ i : Nat,m = es.length - i ∧ i ≤ es.length ∧ (∀ j (h : j < es.length),j < i → okB17 es[j].1) ∧
         σ = ⟨[.sg 6 (es.map bvp) f,.junk,.junk,.w (.int .i64 i),.junk,.junk,.junk,.junk,.junk,.junk,.junk,.junk,.junk,.junk,.junk,.junk,.junk,.junk,.junk,.junk,.junk,.junk,.junk,.junk,.junk,.junk,.junk,.junk,.junk,.junk,.junk,.junk,.junk,.junk,.junk,.junk,.junk,.junk,.junk,.junk,.junk,.junk,.junk,.junk,.junk,.junk,.junk,.junk,.junk,.junk,.junk,.junk,.junk,.junk,.junk,.junk,.junk,.junk,.junk,.junk],[],4⟩,?_,?_⟩
     · refine ⟨_,_,zae [0,1,2,3] rfl rfl rfl ?_ ?_,0,rfl,by omega,by intro j _ h; omega,rfl⟩
       · simp only [ssT,zaf,zag,setSlot,gOf,AV.ren,renL,Blk.ren,Ax.look,Ax.put,reduceCtorEq,↓reduceIte,Nat.reduceEqDiff,Nat.reduceLT,Nat.reduceAdd,List.length_append,List.length_cons,List.length_nil,Option.some.injEq]; try simp
       · simp only [ssT,zaf,zag,setSlot,gOf,AV.ren,renL,Blk.ren,Ax.look,Ax.put,reduceCtorEq,↓reduceIte,Nat.reduceEqDiff,Nat.reduceLT,Nat.reduceAdd,List.length_append,List.length_cons,List.length_nil,Option.some.injEq]
     · rintro m σ ⟨i,rfl,hi,hall,rfl⟩
       have e1 : ((i : Int) + 1 + 9223372036854775808) % 18446744073709551616 - 9223372036854775808 = ((i + 1 : Nat) : Int) := by omega
       by_cases hil : i < es.length
       · have d1 : decide ((i : Int) < es.length) = true := decide_eq_true (by omega)
         have hs1 := zcx es i hil
         have m1 := he es[i] (List.getElem_mem hil)
         have hmem : es[i].1 ∈ l := by rw [← hl]; exact List.mem_map.2 ⟨_,List.getElem_mem hil,rfl⟩
         have h40 := (hA.2 _ hmem).1
         obtain ⟨P,hP⟩ : ∃ P,es[i] = P := ⟨_,rfl⟩
         rw [hP] at hs1 m1 hmem h40
         obtain ⟨⟨b,c,p,e,s,rs⟩,f'⟩ := P
         have hs1 : slot (es.map bvp) i = .agg [.w (.int .i64 b),.w (.int .i64 c),.w (.int .i64 p),.w (.int .i64 e),.w (.int .i64 s),.sg 6 (rs.map rv) f'] := hs1
         simp only at m1 hmem h40
         have hlr : (rs.map rv).length = rs.length := by simp
         by_cases c1 : b < 0
         · have d2 : decide (b < 0) = true := decide_eq_true c1
           have hv : V = false := hvf _ hmem (fun h => by have := h.1.1; simp only at this; omega)
           subst hv
           simp only [go_sem,zaa,Nat.reduceAdd,Nat.reduceSub,Nat.reduceMul,Int.reduceToNat,reduceCtorEq,↓reduceIte,Int.reducePow,Nat.reducePow,Int.reduceMod,Nat.reduceLeDiff,Int.reduceLE,Int.reduceNe,Int.reduceEq,Nat.reduceEqDiff,Nat.reduceLT,Nat.reduceBEq,ty,Slg17,hlp,hlr,d1,d2,hs1,Int.toNat_natCast]
           repeat (first | omega | refine And.intro (by omega) ?_)
         · have d2 : decide (b < 0) = false := decide_eq_false c1
           by_cases c2 : 4611686018427387903 < b
           · have d3 : decide (4611686018427387903 < b) = true := decide_eq_true c2
             have hv : V = false := hvf _ hmem (fun h => by have := h.1.2; simp only at this; omega)
             subst hv
             simp only [go_sem,zaa,Nat.reduceAdd,Nat.reduceSub,Nat.reduceMul,Int.reduceToNat,reduceCtorEq,↓reduceIte,Int.reducePow,Nat.reducePow,Int.reduceMod,Nat.reduceLeDiff,Int.reduceLE,Int.reduceNe,Int.reduceEq,Nat.reduceEqDiff,Nat.reduceLT,Nat.reduceBEq,ty,Slg17,hlp,hlr,d1,d2,d3,hs1,Int.toNat_natCast]
             repeat (first | omega | refine And.intro (by omega) ?_)
           · have d3 : decide (4611686018427387903 < b) = false := decide_eq_false c2
             simp only [go_sem,zaa,Nat.reduceAdd,Nat.reduceSub,Nat.reduceMul,Int.reduceToNat,reduceCtorEq,↓reduceIte,Int.reducePow,Nat.reducePow,Int.reduceMod,Nat.reduceLeDiff,Int.reduceLE,Int.reduceNe,Int.reduceEq,Nat.reduceEqDiff,Nat.reduceLT,Nat.reduceBEq,ty,Slg17,hlp,hlr,d1,d2,d3,hs1,Int.toNat_natCast]
             repeat (refine And.intro (by omega) ?_)
             refine zef ⟨fun m σ => ∃ k : Nat,m = rs.length - k ∧ k ≤ rs.length ∧ (∀ j (h : j < rs.length),j < k → okR17 rs[j]) ∧
                 σ = ⟨[.sg 6 (es.map bvp) f,.junk,.junk,.w (.int .i64 i),.w (.int .i64 k),.junk,.junk,.junk,.junk,.junk,.junk,.junk,.junk,.junk,.junk,.junk,.junk,.junk,.junk,.junk,.junk,.junk,.junk,.junk,.junk,.junk,.junk,.junk,.junk,.junk,.junk,.junk,.junk,.junk,.junk,.junk,.junk,.junk,.junk,.junk,.junk,.junk,.junk,.junk,.junk,.junk,.junk,.junk,.junk,.junk,.junk,.junk,.junk,.junk,.junk,.junk,.junk,.junk,.junk,.junk],[],4⟩,?_,?_⟩
             · refine ⟨_,_,zae [0,1,2,3] rfl rfl rfl ?_ ?_,0,rfl,by omega,by intro j _ h; omega,rfl⟩
               · simp only [ssT,zaf,zag,setSlot,gOf,AV.ren,renL,Blk.ren,Ax.look,Ax.put,reduceCtorEq,↓reduceIte,Nat.reduceEqDiff,Nat.reduceLT,Nat.reduceAdd,List.length_append,List.length_cons,List.length_nil,Option.some.injEq]; try simp
               · simp only [ssT,zaf,zag,setSlot,gOf,AV.ren,renL,Blk.ren,Ax.look,Ax.put,reduceCtorEq,↓reduceIte,Nat.reduceEqDiff,Nat.reduceLT,Nat.reduceAdd,List.length_append,List.length_cons,List.length_nil,Option.some.injEq]
             · rintro m σ ⟨k,rfl,hk,hallk,rfl⟩
               by_cases hkl : k < rs.length
               · have e2 : ((k : Int) + 1 + 9223372036854775808) % 18446744073709551616 - 9223372036854775808 = ((k + 1 : Nat) : Int) := by omega
                 have d4 : decide ((k : Int) < rs.length) = true := decide_eq_true (by omega)
                 have hs2 := zbf rv rs k hkl
                 have hrm : rs[k] ∈ rs := List.getElem_mem hkl
                 obtain ⟨R,hR⟩ : ∃ R,rs[k] = R := ⟨_,rfl⟩
                 rw [hR] at hs2 hrm
                 obtain ⟨d,t,kd,key,dd,val⟩ := R
                 simp only [rv] at hs2
                 by_cases c4 : d < 0
                 · have d5 : decide (d < 0) = true := decide_eq_true c4
                   have hv : V = false := hvf _ hmem (fun h => by have := (h.2 _ hrm).1; simp only at this; omega)
                   subst hv
                   simp only [go_sem,zaa,Nat.reduceAdd,Nat.reduceSub,Nat.reduceMul,Int.reduceToNat,reduceCtorEq,↓reduceIte,Int.reducePow,Nat.reducePow,Int.reduceMod,Nat.reduceLeDiff,Int.reduceLE,Int.reduceNe,Int.reduceEq,Nat.reduceEqDiff,Nat.reduceLT,Nat.reduceBEq,ty,Slg17,hlp,hlr,d4,d5,hs1,hs2,Int.toNat_natCast]
                   repeat (first | omega | refine And.intro (by omega) ?_)
                 · have d5 : decide (d < 0) = false := decide_eq_false c4
                   by_cases c5 : 1000 < d
                   · have d6 : decide (1000 < d) = true := decide_eq_true c5
                     have hv : V = false := hvf _ hmem (fun h => by have := (h.2 _ hrm).2; simp only at this; omega)
                     subst hv
                     simp only [go_sem,zaa,Nat.reduceAdd,Nat.reduceSub,Nat.reduceMul,Int.reduceToNat,reduceCtorEq,↓reduceIte,Int.reducePow,Nat.reducePow,Int.reduceMod,Nat.reduceLeDiff,Int.reduceLE,Int.reduceNe,Int.reduceEq,Nat.reduceEqDiff,Nat.reduceLT,Nat.reduceBEq,ty,Slg17,hlp,hlr,d4,d5,d6,hs1,hs2,Int.toNat_natCast]
                     repeat (first | omega | refine And.intro (by omega) ?_)
                   · have d6 : decide (1000 < d) = false := decide_eq_false c5
                     simp only [go_sem,zaa,Nat.reduceAdd,Nat.reduceSub,Nat.reduceMul,Int.reduceToNat,reduceCtorEq,↓reduceIte,Int.reducePow,Nat.reducePow,Int.reduceMod,Nat.reduceLeDiff,Int.reduceLE,Int.reduceNe,Int.reduceEq,Nat.reduceEqDiff,Nat.reduceLT,Nat.reduceBEq,ty,Slg17,hlp,hlr,d4,d5,d6,hs1,hs2,e2,Int.toNat_natCast]
                     repeat (refine And.intro (by omega) ?_)
                     refine ⟨rs.length - (k + 1),_,by omega,zae [0,1,2,3] rfl rfl rfl ?_ ?_,k + 1,rfl,by omega,?_,rfl⟩
                     · simp only [ssT,zaf,zag,setSlot,gOf,AV.ren,renL,Blk.ren,Ax.look,Ax.put,reduceCtorEq,↓reduceIte,Nat.reduceEqDiff,Nat.reduceLT,Nat.reduceAdd,List.length_append,List.length_cons,List.length_nil,Option.some.injEq]
                     · simp only [ssT,zaf,zag,setSlot,gOf,AV.ren,renL,Blk.ren,Ax.look,Ax.put,reduceCtorEq,↓reduceIte,Nat.reduceEqDiff,Nat.reduceLT,Nat.reduceAdd,List.length_append,List.length_cons,List.length_nil,Option.some.injEq]
                     · intro j h hj
                       rcases Nat.lt_or_ge j k with h2 | h2
                       · exact hallk j h h2
                       · have : j = k := by omega
                         subst this
                         rw [hR]
                         refine ⟨?_,?_⟩ <;> (simp only; omega)
               · have d4 : decide ((k : Int) < rs.length) = false := decide_eq_false (by omega)
                 simp only [go_sem,zaa,Nat.reduceAdd,Nat.reduceSub,Nat.reduceMul,Int.reduceToNat,reduceCtorEq,↓reduceIte,Int.reducePow,Nat.reducePow,Int.reduceMod,Nat.reduceLeDiff,Int.reduceLE,Int.reduceNe,Int.reduceEq,Nat.reduceEqDiff,Nat.reduceLT,Nat.reduceBEq,ty,Slg17,hlp,hlr,d4,hs1,e1,Int.toNat_natCast]
                 repeat (refine And.intro (by omega) ?_)
                 refine ⟨es.length - (i + 1),_,by omega,zae [0,1,2,3] rfl rfl rfl ?_ ?_,i + 1,rfl,by omega,?_,rfl⟩
                 · simp only [ssT,zaf,zag,setSlot,gOf,AV.ren,renL,Blk.ren,Ax.look,Ax.put,reduceCtorEq,↓reduceIte,Nat.reduceEqDiff,Nat.reduceLT,Nat.reduceAdd,List.length_append,List.length_cons,List.length_nil,Option.some.injEq]
                 · simp only [ssT,zaf,zag,setSlot,gOf,AV.ren,renL,Blk.ren,Ax.look,Ax.put,reduceCtorEq,↓reduceIte,Nat.reduceEqDiff,Nat.reduceLT,Nat.reduceAdd,List.length_append,List.length_cons,List.length_nil,Option.some.injEq]
                 · intro j h hj
                   rcases Nat.lt_or_ge j i with h2 | h2
                   · exact hall j h h2
                   · have : j = i := by omega
                     subst this
                     rw [hP]
                     refine ⟨⟨by simp only; omega,by simp only; omega⟩,fun r hr => ?_⟩
                     obtain ⟨q,hq,rfl⟩ := List.getElem_of_mem hr
                     exact hallk q hq (by simp only at hq; omega)
       · have d1 : decide ((i : Int) < es.length) = false := decide_eq_false (by omega)
         have hv : V = true := hvt (fun x hx => by
           rw [← hl] at hx
           obtain ⟨q,hq,rfl⟩ := List.mem_map.1 hx
           obtain ⟨j,hj,rfl⟩ := List.getElem_of_mem hq
           exact hall j hj (by omega))
         subst hv
         simp only [go_sem,zaa,Nat.reduceAdd,Nat.reduceSub,Nat.reduceMul,Int.reduceToNat,reduceCtorEq,↓reduceIte,Int.reducePow,Nat.reducePow,Int.reduceMod,Nat.reduceLeDiff,Int.reduceLE,Int.reduceNe,Int.reduceEq,Nat.reduceEqDiff,Nat.reduceLT,Nat.reduceBEq,ty,Slg17,hlp,d1]
   · have dA : decide ((es.length : Int) ≤ 16 ∧ ∀ b ∈ l,lightB b) = false := by rw [← hlq]; exact decide_eq_false hA
     have hv : decide (lgt17 l) = false := decide_eq_false (fun h => hA h.1)
     simp only [go_sem,zaa,Nat.reduceAdd,Nat.reduceSub,Nat.reduceMul,Int.reduceToNat,reduceCtorEq,↓reduceIte,Int.reducePow,Nat.reducePow,Int.reduceMod,Nat.reduceLeDiff,Int.reduceLE,Int.reduceNe,Int.reduceEq,Nat.reduceEqDiff,Nat.reduceLT,Nat.reduceBEq,ty,Slg17,lallS,hc1,hlp,hL,hb0,mu,dA,hv,Bool.not_false]
     try omega
 · exact hp.elim
def of17S : zay
 | [.w (.int .i64 d),.str key],[] => ⟨True,.agg [.w (.int .i64 d),.w (.int .i64 0),.w (.bool true),.str key,.w (.bool false),.str [118]],[]⟩
 | _,_ => zer
theorem of17_sound : zcn Try.prog 18 of17S := by
 refine zbs (S := noS) (T := ty) zet ty_ok noS_ok Try.func18 (c := Try.f18.body.getD .skip) (by kernel_rfl) (by kernel_rfl) (fun xs pins hp _ => ?_)
 unfold of17S at hp ⊢
 split at hp
 · refine ⟨by simp,?_⟩
   unfold Try.f18
   simp only [go_sem,zaa,Nat.reduceAdd,Nat.reduceSub,Nat.reduceMul,Int.reduceToNat,reduceCtorEq,↓reduceIte,Int.reducePow,Nat.reducePow,Int.reduceMod,Nat.reduceLeDiff,Int.reduceLE,Int.reduceNe,Int.reduceEq,Nat.reduceEqDiff,Nat.reduceLT,Nat.reduceBEq,ty,noS,fillS]
 · exact hp.elim
end
end Go.Proofs.Ytckbejanaebjkaa
namespace Go.Proofs.Ytckbejanaebjkaa
open Ax
def rA17 : Rec := ⟨0,0,true,[97],false,[118]⟩
def rB17 : Rec := ⟨1,0,true,[98],false,[118]⟩
def b1D : Bat := ⟨0,2,0,0,0,[rA17,rB17]⟩
def b2D : Bat := ⟨2,1,0,0,0,[rA17]⟩
def c1D : Bat := ⟨0,2,0,0,0,[rB17]⟩
def lD : List Bat := [b1D,b2D]
def cD : List Bat := [c1D,b2D]
theorem qD1 : clnL lD 9 3 = cD := by rfl
theorem qD2 : cntL cD = 2 := by rfl
theorem qD3 : lastK lD = [([97],2),([98],1)] := by rfl
theorem qD4 : dirL lD 9 3 = true := by rfl
theorem qD5 : dirL cD 9 3 = false := by rfl
theorem qD6 : kpB lD 0 1 9 3 = true := by rfl
theorem qD7 : kpB lD 0 0 9 3 = false := by rfl
theorem kD1 : isBk (bfr lD) := isBk_bfr (by decide)
theorem kD2 : isBk (bfr cD) := isBk_bfr (by decide)
theorem vD1 : [AV.agg [.w (.int .i64 0),.w (.int .i64 2),.w (.int .i64 0),.w (.int .i64 0),.w (.int .i64 0),.sg 6 [.agg [.w (.int .i64 0),.w (.int .i64 0),.w (.bool true),.str [97],.w (.bool false),.str [118]],.agg [.w (.int .i64 1),.w (.int .i64 0),.w (.bool true),.str [98],.w (.bool false),.str [118]]] false],
   .agg [.w (.int .i64 2),.w (.int .i64 1),.w (.int .i64 0),.w (.int .i64 0),.w (.int .i64 0),.sg 6 [.agg [.w (.int .i64 0),.w (.int .i64 0),.w (.bool true),.str [97],.w (.bool false),.str [118]]] false]] = bfr lD := rfl
def Saw17 (f : FuncId) : Option zay :=
 match f with
 | 18 => some of17S
 | 12 => some cln17S
 | 19 => some cnt17S
 | 16 => some dir17S
 | 10 => some kps17S
 | 8 => some zej
 | _ => none
theorem Saw17_ok : Fns Try.prog Saw17 := by
 intro f s h
 unfold Saw17 at h
 split at h
 · injection h with h; subst h; exact ⟨⟨_,Try.func18,by kernel_rfl,by kernel_rfl⟩,of17_sound⟩
 · injection h with h; subst h; exact ⟨⟨_,Try.func12,by kernel_rfl,by kernel_rfl⟩,cln17_sound⟩
 · injection h with h; subst h; exact ⟨⟨_,Try.func19,by kernel_rfl,by kernel_rfl⟩,cnt17_sound⟩
 · injection h with h; subst h; exact ⟨⟨_,Try.func16,by kernel_rfl,by kernel_rfl⟩,dir17_sound⟩
 · injection h with h; subst h; exact ⟨⟨_,Try.func10,by kernel_rfl,by kernel_rfl⟩,kps17_sound⟩
 · injection h with h; subst h; exact ⟨⟨_,Try.func8,by kernel_rfl,by kernel_rfl⟩,zec⟩
 · cases h
def aw17Pl : XPlan := fun id => match id with
 | 2 => .frz [5,8,1]
 | _ => .std
section
set_option maxRecDepth 100000
set_option maxHeartbeats 8000000 in
theorem awake17_sound : zcn Try.prog 7 yesS := by
 refine fn_soundOK (S := Saw17) (SO := noO) (T := ty) zet ty_ok Saw17_ok noO_ok Try.func7 (c := Try.f7.body.getD .skip) (by kernel_rfl) (fun xs pins hp _ => ?_)
 unfold yesS at hp ⊢
 split at hp
 · refine ⟨by simp,aw17Pl,by kernel_rfl,?_⟩
   have l1 : (bfr lD).length = 2 := rfl
   have l2 : (bfr cD).length = 2 := rfl
   have u1 := ubat_bfr lD
   have u2 := ubat_bfr cD
   have b1 := isBk_isBs kD1
   have k1 : ∃ es : List (Bat × Bool),bfr lD = es.map bvp ∧ ∀ p ∈ es,p.1.rs.length ≤ 1000000 := kD1
   have kd1 := kD1
   have kd2 := kD2
   have s1 : slot (bfr cD) 0 = .agg [.w (.int .i64 0),.w (.int .i64 2),.w (.int .i64 0),.w (.int .i64 0),.w (.int .i64 0),.sg 6 [.agg [.w (.int .i64 1),.w (.int .i64 0),.w (.bool true),.str [98],.w (.bool false),.str [118]]] false] := rfl
   have c1 : ∀ h,coe ty 22 (.sg 6 (bfr lD) h) = .sg 6 (bfr lD) h := fun h => rfl
   have c2 : ∀ h,coe ty 22 (.sg 6 (bfr cD) h) = .sg 6 (bfr cD) h := fun h => rfl
   have ix : ixK [97] [([97],2),([98],1)] 0 = some (0,2) := rfl
   have dd : ∀ n : Int,decide (n = n) = true := fun n => decide_eq_true rfl
   have ds : ∀ n : List UInt8,decide (n = n) = true := fun n => decide_eq_true rfl
   have tk : List.take 2 (bfr lD) = bfr lD := rfl
   have cl := closed_bfr lD
   have z1 : decide (((2 : Nat) : Int) = 2) = true := rfl
   have z2 : decide (((1 : Nat) : Int) = 1) = true := rfl
   have t0 : (0 : Int).toNat = 0 := rfl
   unfold Try.f7
   simp (config := { maxSteps := 3000000 }) only [go_sem,zac,Nat.reduceAdd,Nat.reduceSub,Nat.reduceMul,Int.reduceToNat,reduceCtorEq,↓reduceIte,Int.reducePow,Nat.reducePow,Int.reduceMod,Nat.reduceLeDiff,Int.reduceLE,Int.reduceNe,Int.reduceEq,Nat.reduceEqDiff,Nat.reduceLT,Nat.reduceBEq,List.map_cons,List.map_nil,List.toList_toArray,Array.toList_append,Option.toArray_some,Option.toArray_none,Bool.and_self,ty,Saw17,aw17Pl,of17S,cln17S,cnt17S,dir17S,kps17S,zej,l1,l2,u1,u2,b1,k1,kd1,kd2,s1,c1,c2,tk,cl,ix,dd,ds,z1,z2,t0,vD1,qD1,qD2,qD3,qD4,qD5,qD6,qD7,zfg,mpI_some,fillS,fillG,fillI]
   refine ⟨_,Weak.refl _,?_⟩
   simp only [go_sem,zac,Nat.reduceAdd,Nat.reduceSub,Nat.reduceMul,Int.reduceToNat,reduceCtorEq,↓reduceIte,Int.reducePow,Nat.reducePow,Int.reduceMod,Nat.reduceLeDiff,Int.reduceLE,Int.reduceNe,Int.reduceEq,Nat.reduceEqDiff,Nat.reduceLT,Nat.reduceBEq,List.map_cons,List.map_nil,List.toList_toArray,Array.toList_append,Option.toArray_some,Option.toArray_none,Bool.and_self,ty]
 · exact hp.elim
end
end Go.Proofs.Ytckbejanaebjkaa
namespace Go.Proofs.Ytckbejanaebjkaa
open Ax
def dR17 (key : List UInt8) (b : Int) (s : Int × Bool) (r : Rec) : Int × Bool := if r.k = true ∧ r.key = key ∧ (s.2 = false ∨ s.1 < offI b r.d) then (offI b r.d,true) else s
def dB17 (key : List UInt8) (s : Int × Bool) (x : Bat) : Int × Bool := x.rs.foldl (dR17 key x.b) s
def dL17 (key : List UInt8) (l : List Bat) : Int × Bool := l.foldl (dB17 key) (0,false)
def tellO (s : Int × Bool) : Option Int := if s.2 then some s.1 else none
theorem gtK_stK (key : List UInt8) (b : Int) (m : KM) (s : Int × Bool) (r : Rec) (h : gtK m key = tellO s ∧ (s.2 = false → s.1 = 0)) : gtK (stK b m r) key = tellO (dR17 key b s r) ∧ ((dR17 key b s r).2 = false → (dR17 key b s r).1 = 0) := by
 obtain ⟨d,t,k,key',dd,val⟩ := r
 obtain ⟨a,hb⟩ := s
 obtain ⟨h1,h2⟩ := h
 unfold stK dR17
 simp only
 cases k with
 | false => simpa using ⟨h1,h2⟩
 | true =>
   simp only [if_true,true_and]
   by_cases hk : key' = key
   · subst hk
     rw [h1]
     cases hb with
     | false =>
       simp [tellO,gtK_ptK]
     | true =>
       by_cases c : a < offI b d
       · simp [tellO,gtK_ptK,c]
       · simp only [tellO,if_true,c,if_false,true_and]
         refine ⟨?_,by simp⟩
         rw [h1]; simp [tellO,c]
   · have hk2 : ¬ key = key' := fun h => hk h.symm
     simp only [hk,false_and,if_false]
     refine ⟨?_,h2⟩
     split
     · split
       · rw [gtK_ptK,if_neg hk2]; exact h1
       · exact h1
     · rw [gtK_ptK,if_neg hk2]; exact h1
theorem gtK_stKB (key : List UInt8) (b : Int) : ∀ (rs : List Rec) (m : KM) (s : Int × Bool),gtK m key = tellO s ∧ (s.2 = false → s.1 = 0) → gtK (rs.foldl (stK b) m) key = tellO (rs.foldl (dR17 key b) s) ∧ ((rs.foldl (dR17 key b) s).2 = false → (rs.foldl (dR17 key b) s).1 = 0)
 | [],_,_,h => h
 | r :: rs,m,s,h => gtK_stKB key b rs _ _ (gtK_stK key b m s r h)
theorem gtK_all (key : List UInt8) : ∀ (l : List Bat) (m : KM) (s : Int × Bool),gtK m key = tellO s ∧ (s.2 = false → s.1 = 0) → gtK (l.foldl stKB m) key = tellO (l.foldl (dB17 key) s) ∧ ((l.foldl (dB17 key) s).2 = false → (l.foldl (dB17 key) s).1 = 0)
 | [],_,_,h => h
 | x :: l,m,s,h => gtK_all key l _ _ (gtK_stKB key x.b x.rs m s h)
theorem gtK_last (key : List UInt8) (l : List Bat) : gtK (lastK l) key = tellO (dL17 key l) ∧ ((dL17 key l).2 = false → (dL17 key l).1 = 0) :=
 gtK_all key l [] (0,false) ⟨rfl,fun _ => rfl⟩
theorem gtK_getD (key : List UInt8) (l : List Bat) : (gtK (lastK l) key).getD 0 = (dL17 key l).1 := by
 obtain ⟨h1,h2⟩ := gtK_last key l
 rw [h1]
 unfold tellO
 cases hb : (dL17 key l).2 with
 | false => rw [h2 hb]; rfl
 | true => rfl
end Go.Proofs.Ytckbejanaebjkaa
namespace Go.Proofs.Ytckbejanaebjkaa
open Ax
def noPlD : Plan := fun _ => none
end Go.Proofs.Ytckbejanaebjkaa
namespace Go.Proofs.Ytckbejanaebjkaa
open Ax
theorem all_rvJ : ∀ (xs : List AV),(∀ x ∈ xs,∃ r : Rec,x = rv r) → ∃ rs : List Rec,xs = rs.map rv
 | [],_ => ⟨[],rfl⟩
 | x :: xs,h => by
   obtain ⟨r,rfl⟩ := h x (by simp)
   obtain ⟨rs,rfl⟩ := all_rvJ xs (fun y hy => h y (by simp [hy]))
   exact ⟨r :: rs,rfl⟩
theorem all_bvpJ : ∀ (xs : List AV),(∀ x ∈ xs,∃ p : Bat × Bool,x = bvp p ∧ p.1.rs.length ≤ 9223372036854775807) → ∃ es : List (Bat × Bool),xs = es.map bvp ∧ ∀ p ∈ es,p.1.rs.length ≤ 9223372036854775807
 | [],_ => ⟨[],rfl,by simp⟩
 | x :: xs,h => by
   obtain ⟨p,rfl,hp⟩ := h x (by simp)
   obtain ⟨es,rfl,he⟩ := all_bvpJ xs (fun y hy => h y (by simp [hy]))
   refine ⟨p :: es,rfl,?_⟩
   intro q hq
   rcases List.mem_cons.1 hq with rfl | hq
   · exact hp
   · exact he q hq
theorem arg_batsD {j : Nat} {x : AV} (h : Arg ty (j + 6) 22 x) : ∃ (xs : List AV) (f : Bool),x = .sg 6 xs f ∧ xs.length ≤ 9223372036854775807 ∧ isBs xs := by
 obtain ⟨i,ls,hi,hs,rfl⟩ := h
 simp only [ty] at hi
 injection hi with hi
 subst hi
 simp only [Shape,ty,ShapeF,isFlatI] at hs
 obtain ⟨xs,f1,rfl,hx,hxs⟩ := hs
 have hm : maxLen = 9223372036854775807 := by decide
 obtain ⟨es,rfl,hes⟩ := all_bvpJ xs (fun x hxm => by
   obtain ⟨l,⟨k1,s1,rfl,⟨n1,rfl,v1⟩,k2,s2,rfl,⟨n2,rfl,v2⟩,k3,s3,rfl,⟨n3,rfl,v3⟩,k4,s4,rfl,⟨n4,rfl,v4⟩,k5,s5,rfl,⟨n5,rfl,v5⟩,k6,s6,rfl,⟨ys,f,rfl,hl,hy⟩,rfl⟩,_,rfl⟩ := hxs x hxm
   obtain ⟨rs,rfl⟩ := all_rvJ ys (fun y hym => by
     obtain ⟨l,⟨l1,r1,rfl,⟨m1,rfl,w1⟩,l2,r2,rfl,⟨m2,rfl,w2⟩,l3,r3,rfl,⟨m3,rfl⟩,l4,r4,rfl,⟨m4,rfl,w4⟩,l5,r5,rfl,⟨m5,rfl⟩,l6,r6,rfl,⟨m6,rfl,w6⟩,rfl⟩,_,rfl⟩ := hy y hym
     exact ⟨⟨m1,m2,m3,m4,m5,m6⟩,rfl⟩)
   rw [List.length_map] at hl
   exact ⟨⟨⟨n1,n2,n3,n4,n5,rs⟩,f⟩,rfl,by simp only; omega⟩)
 exact ⟨es.map bvp,f1,rfl,by omega,es,rfl,hes⟩
theorem arg_intD {n : Nat} {x : AV} (h : Arg ty (n + 1) 3 x) : ∃ m : Int,x = .w (.int .i64 m) := by
 obtain ⟨i,ls,hi,hs,rfl⟩ := h
 simp only [ty] at hi
 injection hi with hi
 subst hi
 simp only [Shape,ty,ShapeF] at hs
 obtain ⟨m,rfl,_⟩ := hs
 exact ⟨m,rfl⟩
theorem zff (k : List UInt8) : ∀ (m : KM) (i : Nat),zbm (zap ty) 9 (.str k) (kvA m) i = (True,mpI (ixK k m i))
 | [],i => rfl
 | p :: r,i => by
   have h := zff k r (i + 1)
   have he : eqV (zap ty) 4 9 (.str k) (.str p.1) = (True,decide (k = p.1)) := rfl
   show zbm (zap ty) 9 (.str k) (kvP p :: kvA r) i = _
   unfold zbm
   simp only [kvP,he,h,ixK]
   by_cases hk : k = p.1
   · subst hk; simp [mpI]
   · simp [hk,mpI]
theorem lgt_facts {xs : List AV} (hb : isBs xs) (h : lgt17 (xs.map ubat)) : xs.length ≤ 16 ∧ ∃ es : List (Bat × Bool),xs = es.map bvp ∧ (∀ p ∈ es,p.1.rs.length ≤ 40) ∧ ∀ p ∈ es,okB17 p.1 := by
 obtain ⟨es,rfl,he⟩ := hb
 unfold lgt17 at h
 rw [zco] at h
 refine ⟨by have := h.1.1; simp at this ⊢; omega,es,rfl,fun p hp => (h.1.2 p.1 (List.mem_map.2 ⟨p,hp,rfl⟩)).1,fun p hp => h.2 p.1 (List.mem_map.2 ⟨p,hp,rfl⟩)⟩
end Go.Proofs.Ytckbejanaebjkaa
namespace Go.Proofs.Ytckbejanaebjkaa
open Ax
instance recDecD : DecidableEq Rec := fun a b => decidable_of_iff (a.d = b.d ∧ a.t = b.t ∧ a.k = b.k ∧ a.key = b.key ∧ a.dd = b.dd ∧ a.val = b.val) (by cases a; cases b; simp)
theorem dR_mono (key : List UInt8) (b : Int) (s : Int × Bool) (r : Rec) (h : s.2 = true) : (dR17 key b s r).2 = true ∧ s.1 ≤ (dR17 key b s r).1 := by
 unfold dR17
 split
 · rename_i c
   refine ⟨rfl,?_⟩
   rcases c.2.2 with h1 | h1
   · rw [h] at h1; cases h1
   · simp only; omega
 · exact ⟨h,Int.le_refl _⟩
theorem dR_hit (b : Int) (s : Int × Bool) (r : Rec) (h : r.k = true) : (dR17 r.key b s r).2 = true ∧ offI b r.d ≤ (dR17 r.key b s r).1 := by
 unfold dR17
 split
 · exact ⟨rfl,Int.le_refl _⟩
 · rename_i c
   have h2 : s.2 = true := by cases h3 : s.2 with | true => rfl | false => exact absurd ⟨h,rfl,.inl h3⟩ c
   refine ⟨h2,?_⟩
   rcases Int.lt_or_le s.1 (offI b r.d) with h3 | h3
   · exact absurd ⟨h,rfl,.inr h3⟩ c
   · exact h3
theorem dRs_mono (key : List UInt8) (b : Int) : ∀ (rs : List Rec) (s : Int × Bool),s.2 = true → (rs.foldl (dR17 key b) s).2 = true ∧ s.1 ≤ (rs.foldl (dR17 key b) s).1
 | [],s,h => ⟨h,Int.le_refl _⟩
 | r :: rs,s,h => by
   have h1 := dR_mono key b s r h
   have h2 := dRs_mono key b rs _ h1.1
   exact ⟨h2.1,Int.le_trans h1.2 h2.2⟩
theorem dRs_hit (b : Int) (r : Rec) (h : r.k = true) : ∀ (rs : List Rec) (s : Int × Bool),r ∈ rs → (rs.foldl (dR17 r.key b) s).2 = true ∧ offI b r.d ≤ (rs.foldl (dR17 r.key b) s).1
 | q :: rs,s,hm => by
   rcases List.mem_cons.1 hm with rfl | hm
   · have h1 := dR_hit b s r h
     have h2 := dRs_mono r.key b rs _ h1.1
     exact ⟨h2.1,Int.le_trans h1.2 h2.2⟩
   · exact dRs_hit b r h rs _ hm
theorem dBs_mono (key : List UInt8) : ∀ (l : List Bat) (s : Int × Bool),s.2 = true → (l.foldl (dB17 key) s).2 = true ∧ s.1 ≤ (l.foldl (dB17 key) s).1
 | [],s,h => ⟨h,Int.le_refl _⟩
 | x :: l,s,h => by
   have h1 := dRs_mono key x.b x.rs s h
   have h2 := dBs_mono key l _ h1.1
   exact ⟨h2.1,Int.le_trans h1.2 h2.2⟩
theorem dBs_hit (x : Bat) (r : Rec) (hr : r ∈ x.rs) (h : r.k = true) : ∀ (l : List Bat) (s : Int × Bool),x ∈ l → (l.foldl (dB17 r.key) s).2 = true ∧ offI x.b r.d ≤ (l.foldl (dB17 r.key) s).1
 | y :: l,s,hm => by
   rcases List.mem_cons.1 hm with rfl | hm
   · have h1 := dRs_hit x.b r h x.rs s hr
     have h2 := dBs_mono r.key l _ h1.1
     exact ⟨h2.1,Int.le_trans h1.2 h2.2⟩
   · exact dBs_hit x r hr h l _ hm
theorem last_ge {l : List Bat} {x : Bat} {r : Rec} (hx : x ∈ l) (hr : r ∈ x.rs) (h : r.k = true) : offI x.b r.d ≤ (gtK (lastK l) r.key).getD 0 := by
 rw [gtK_getD]
 exact (dBs_hit x r hr h l _ hx).2
def cl1 (M : KM) (now g : Int) (x : Bat) : List Bat := if empB (clnB M now g x) then [] else [clnB M now g x]
theorem cln_flat (M : KM) (now g : Int) : ∀ (l a : List Bat),l.foldl (clnS M now g) a = a ++ l.flatMap (cl1 M now g)
 | [],a => by simp
 | x :: l,a => by
   rw [List.foldl_cons,cln_flat M now g l,List.flatMap_cons]
   unfold clnS cl1
   split <;> simp
theorem cl1_mem {M : KM} {now g : Int} {l : List Bat} {y : Bat} (h : y ∈ l.flatMap (cl1 M now g)) : ∀ r ∈ y.rs,zcu M y.b r now g = true := by
 obtain ⟨x,_,hx⟩ := List.mem_flatMap.1 h
 unfold cl1 at hx
 split at hx
 · cases hx
 · simp at hx
   subst hx
   intro r hr
   exact (List.mem_filter.1 hr).2
def zdl : List Rec → List Rec → List Rec
 | few,[] => few
 | [],_ :: _ => []
 | f :: fs,a :: zs => if f = a then zdl fs zs else zdl (f :: fs) zs
theorem partG_nil : ∀ (zs : List Rec),zdl [] zs = []
 | [] => rfl
 | _ :: _ => rfl
theorem partG_filter (K : Rec → Bool) : ∀ (zs : List Rec),zdl (zs.filter K) zs = []
 | [] => rfl
 | a :: zs => by
   have h := partG_filter K zs
   cases hk : K a with
   | true => rw [List.filter_cons,if_pos hk]; unfold zdl; rw [if_pos rfl]; exact h
   | false =>
     rw [List.filter_cons,if_neg (by rw [hk]; decide)]
     rcases hf : zs.filter K with _ | ⟨f,fs⟩
     · rfl
     · have hK : K f = true := (List.mem_filter.1 (show f ∈ zs.filter K by rw [hf]; exact List.mem_cons_self ..)).2
       unfold zdl
       rw [if_neg (by rintro rfl; rw [hK] at hk; cases hk),← hf]
       exact h
theorem partG_sub : ∀ (zs few : List Rec),zdl few zs = [] → ∀ r ∈ few,r ∈ zs
 | [],few,h,r,hr => by
   have h2 : few = [] := by unfold zdl at h; exact h
   subst h2; cases hr
 | a :: zs,[],h,r,hr => by cases hr
 | a :: zs,f :: fs,h,r,hr => by
   unfold zdl at h
   split at h
   · rename_i e; subst e
     rcases List.mem_cons.1 hr with rfl | hr
     · exact List.mem_cons_self ..
     · exact List.mem_cons_of_mem _ (partG_sub zs fs h r hr)
   · exact List.mem_cons_of_mem _ (partG_sub zs (f :: fs) h r hr)
theorem eqRec (d t : Int) (k : Bool) (key : List UInt8) (dd : Bool) (val : List UInt8) (d' t' : Int) (k' : Bool) (key' : List UInt8) (dd' : Bool) (val' : List UInt8) :
   eqV ty 4 32 (.agg [.w (.int .i64 d),.w (.int .i64 t),.w (.bool k),.str key,.w (.bool dd),.str val]) (.agg [.w (.int .i64 d'),.w (.int .i64 t'),.w (.bool k'),.str key',.w (.bool dd'),.str val']) =
     (True,decide ((⟨d,t,k,key,dd,val⟩ : Rec) = ⟨d',t',k',key',dd',val'⟩)) := by
 have e : ∀ a b : Bool,(a == b) = decide (a = b) := fun a b => by cases a <;> cases b <;> rfl
 have h2 : (eqV ty 4 32 (.agg [.w (.int .i64 d),.w (.int .i64 t),.w (.bool k),.str key,.w (.bool dd),.str val]) (.agg [.w (.int .i64 d'),.w (.int .i64 t'),.w (.bool k'),.str key',.w (.bool dd'),.str val'])).2 = (decide (d = d') && (decide (t = t') && ((k == k') && (decide (key = key') && ((dd == dd') && (decide (val = val') && true)))))) := rfl
 refine Prod.ext ?_ ?_
 · simp only [go_sem,zaa,Nat.reduceAdd,Nat.reduceSub,Nat.reduceMul,Int.reduceToNat,reduceCtorEq,↓reduceIte,Int.reducePow,Nat.reducePow,Int.reduceMod,Nat.reduceLeDiff,Int.reduceLE,Int.reduceNe,Int.reduceEq,Nat.reduceEqDiff,Nat.reduceLT,Nat.reduceBEq,ty]
 · rw [h2]
   simp only [e,Rec.mk.injEq,Bool.decide_and,Bool.and_true]
end Go.Proofs.Ytckbejanaebjkaa
namespace Go.Proofs.Ytckbejanaebjkaa
open Ax
theorem eqRecF (d t : Int) (k : Bool) (key : List UInt8) (dd : Bool) (val : List UInt8) (d' t' : Int) (k' : Bool) (key' : List UInt8) (dd' : Bool) (val' : List UInt8) :
   eqV (zap ty) 4 32 (.agg [.w (.int .i64 d),.w (.int .i64 t),.w (.bool k),.str key,.w (.bool dd),.str val]) (.agg [.w (.int .i64 d'),.w (.int .i64 t'),.w (.bool k'),.str key',.w (.bool dd'),.str val']) =
     (True,decide ((⟨d,t,k,key,dd,val⟩ : Rec) = ⟨d',t',k',key',dd',val'⟩)) := by
 have e : ∀ a b : Bool,(a == b) = decide (a = b) := fun a b => by cases a <;> cases b <;> rfl
 have h2 : (eqV (zap ty) 4 32 (.agg [.w (.int .i64 d),.w (.int .i64 t),.w (.bool k),.str key,.w (.bool dd),.str val]) (.agg [.w (.int .i64 d'),.w (.int .i64 t'),.w (.bool k'),.str key',.w (.bool dd'),.str val'])).2 = (decide (d = d') && (decide (t = t') && ((k == k') && (decide (key = key') && ((dd == dd') && (decide (val = val') && true)))))) := rfl
 refine Prod.ext ?_ ?_
 · simp only [go_sem,zaa,Nat.reduceAdd,Nat.reduceSub,Nat.reduceMul,Int.reduceToNat,reduceCtorEq,↓reduceIte,Int.reducePow,Nat.reducePow,Int.reduceMod,Nat.reduceLeDiff,Int.reduceLE,Int.reduceNe,Int.reduceEq,Nat.reduceEqDiff,Nat.reduceLT,Nat.reduceBEq,zap,ty]
 · rw [h2]
   simp only [e,Rec.mk.injEq,Bool.decide_and,Bool.and_true]
theorem partG_cons (f a : Rec) (fs zs : List Rec) : zdl (f :: fs) (a :: zs) = if f = a then zdl fs zs else zdl (f :: fs) zs := by rw [zdl]
def zcj : zay
 | [.sg 6 xs f,.sg 6 ys g],[] => ⟨(xs.length ≤ 1000000 ∧ ∃ rs : List Rec,xs = rs.map rv) ∧ ys.length ≤ 1000000 ∧ ∃ rs : List Rec,ys = rs.map rv,.w (.bool (decide (zdl (xs.map rrec) (ys.map rrec) = []))),[]⟩
 | _,_ => zer
section
set_option maxRecDepth 100000
set_option maxHeartbeats 2000000 in
theorem part17_sound : zcn Try.prog 13 zcj := by
 refine fn_soundF (S := noS) (T := ty) (pl := noPlD) zet ty_ok noS_ok Try.func13 (c := Try.f13.body.getD .skip) (by kernel_rfl) (by kernel_rfl) (fun xs pins hp _ => ?_)
 unfold zcj at hp ⊢
 split at hp
 · rename_i xs f ys g _
   obtain ⟨⟨hL1,qs,rfl⟩,hL2,rs,rfl⟩ := hp
   simp only [List.length_map] at hL1 hL2
   refine ⟨by simp,?_⟩
   have hlq : (qs.map rv).length = qs.length := by simp
   have hlr : (rs.map rv).length = rs.length := by simp
   rw [zan,zan]
   obtain ⟨V,hV⟩ : ∃ V,decide (zdl qs rs = []) = V := ⟨_,rfl⟩
   rw [hV]
   unfold Try.f13
   simp only [go_sem,zal,Nat.reduceAdd,Nat.reduceSub,Nat.reduceMul,Int.reduceToNat,reduceCtorEq,↓reduceIte,Int.reducePow,Nat.reducePow,Int.reduceMod,Nat.reduceLeDiff,Int.reduceLE,Int.reduceNe,Int.reduceEq,Nat.reduceEqDiff,Nat.reduceLT,Nat.reduceBEq,List.map_cons,List.map_nil,List.toList_toArray,Array.toList_append,Option.toArray_some,Option.toArray_none,Bool.and_self,ty,noS,noPlD,hlq,hlr]
   refine awpF_loopW ⟨fun m σ => ∃ i n : Nat,m = rs.length - i ∧ i ≤ rs.length ∧ n ≤ qs.length ∧ zdl qs rs = zdl (qs.drop n) (rs.drop i) ∧
       σ = ⟨[.sg 6 (qs.map rv) f,.sg 6 (rs.map rv) g,.junk,.junk,.junk,.w (.int .i64 n),.w (.int .i64 i),.junk,.junk,.junk,.junk,.junk,.junk,.junk,.junk,.junk,.junk,.junk,.junk,.junk,.junk,.junk,.junk,.junk,.junk,.junk,.junk,.junk,.junk,.junk,.junk,.junk,.junk,.junk],[],4⟩,?_,?_⟩
   · refine ⟨_,_,zae [0,1,2,3] rfl rfl rfl ?_ ?_,0,0,rfl,by omega,by omega,rfl,rfl⟩
     · simp only [ssT,zaf,zag,setSlot,gOf,AV.ren,renL,Blk.ren,Ax.look,Ax.put,reduceCtorEq,↓reduceIte,Nat.reduceEqDiff,Nat.reduceLT,Nat.reduceAdd,List.length_append,List.length_cons,List.length_nil,Option.some.injEq]; try simp
     · simp only [ssT,zaf,zag,setSlot,gOf,AV.ren,renL,Blk.ren,Ax.look,Ax.put,reduceCtorEq,↓reduceIte,Nat.reduceEqDiff,Nat.reduceLT,Nat.reduceAdd,List.length_append,List.length_cons,List.length_nil,Option.some.injEq]
   · rintro m σ ⟨i,n,rfl,hi,hn,hinv,rfl⟩
     have e1 : ((i : Int) + 1 + 9223372036854775808) % 18446744073709551616 - 9223372036854775808 = ((i + 1 : Nat) : Int) := by omega
     have e2 : ((n : Int) + 1 + 9223372036854775808) % 18446744073709551616 - 9223372036854775808 = ((n + 1 : Nat) : Int) := by omega
     by_cases hil : i < rs.length
     · have d1 : decide ((i : Int) < rs.length) = true := decide_eq_true (by omega)
       by_cases hnl : n < qs.length
       · have d2 : decide ((n : Int) < qs.length) = true := decide_eq_true (by omega)
         have hs1 := zbf rv rs i hil
         have hs2 := zbf rv qs n hnl
         have hdr : rs.drop i = rs[i] :: rs.drop (i + 1) := List.drop_eq_getElem_cons hil
         have hdq : qs.drop n = qs[n] :: qs.drop (n + 1) := List.drop_eq_getElem_cons hnl
         obtain ⟨P,hP⟩ : ∃ P,rs[i] = P := ⟨_,rfl⟩
         obtain ⟨Q,hQ⟩ : ∃ Q,qs[n] = Q := ⟨_,rfl⟩
         rw [hP] at hs1 hdr
         rw [hQ] at hs2 hdq
         have hdq0 := hdq
         rw [hdr,hdq] at hinv
         obtain ⟨d,t,k,key,dd,val⟩ := P
         obtain ⟨d',t',k',key',dd',val'⟩ := Q
         simp only [rv] at hs1 hs2
         by_cases hE : (⟨d',t',k',key',dd',val'⟩ : Rec) = ⟨d,t,k,key,dd,val⟩
         · have dE : decide ((⟨d',t',k',key',dd',val'⟩ : Rec) = ⟨d,t,k,key,dd,val⟩) = true := decide_eq_true hE
           rw [partG_cons,if_pos hE] at hinv
           simp only [go_sem,zal,Nat.reduceAdd,Nat.reduceSub,Nat.reduceMul,Int.reduceToNat,reduceCtorEq,↓reduceIte,Int.reducePow,Nat.reducePow,Int.reduceMod,Nat.reduceLeDiff,Int.reduceLE,Int.reduceNe,Int.reduceEq,Nat.reduceEqDiff,Nat.reduceLT,Nat.reduceBEq,List.map_cons,List.map_nil,List.toList_toArray,Array.toList_append,Option.toArray_some,Option.toArray_none,Bool.and_self,ty,noS,noPlD,hlq,hlr,d1,d2,hs1,hs2,↓eqRec,dE,e1,e2,Int.toNat_natCast]
           try repeat (refine And.intro (by omega) ?_)
           refine ⟨rs.length - (i + 1),_,by omega,zae [0,1,2,3] rfl rfl rfl ?_ ?_,i + 1,n + 1,rfl,by omega,by omega,hinv,rfl⟩
           · simp only [ssT,zaf,zag,setSlot,gOf,AV.ren,renL,Blk.ren,Ax.look,Ax.put,reduceCtorEq,↓reduceIte,Nat.reduceEqDiff,Nat.reduceLT,Nat.reduceAdd,List.length_append,List.length_cons,List.length_nil,Option.some.injEq]
           · simp only [ssT,zaf,zag,setSlot,gOf,AV.ren,renL,Blk.ren,Ax.look,Ax.put,reduceCtorEq,↓reduceIte,Nat.reduceEqDiff,Nat.reduceLT,Nat.reduceAdd,List.length_append,List.length_cons,List.length_nil,Option.some.injEq]
         · have dE : decide ((⟨d',t',k',key',dd',val'⟩ : Rec) = ⟨d,t,k,key,dd,val⟩) = false := decide_eq_false hE
           rw [partG_cons,if_neg hE,← hdq0] at hinv
           simp only [go_sem,zal,Nat.reduceAdd,Nat.reduceSub,Nat.reduceMul,Int.reduceToNat,reduceCtorEq,↓reduceIte,Int.reducePow,Nat.reducePow,Int.reduceMod,Nat.reduceLeDiff,Int.reduceLE,Int.reduceNe,Int.reduceEq,Nat.reduceEqDiff,Nat.reduceLT,Nat.reduceBEq,List.map_cons,List.map_nil,List.toList_toArray,Array.toList_append,Option.toArray_some,Option.toArray_none,Bool.and_self,ty,noS,noPlD,hlq,hlr,d1,d2,hs1,hs2,↓eqRec,dE,e1,e2,Int.toNat_natCast]
           try repeat (refine And.intro (by omega) ?_)
           refine ⟨rs.length - (i + 1),_,by omega,zae [0,1,2,3] rfl rfl rfl ?_ ?_,i + 1,n,rfl,by omega,by omega,hinv,rfl⟩
           · simp only [ssT,zaf,zag,setSlot,gOf,AV.ren,renL,Blk.ren,Ax.look,Ax.put,reduceCtorEq,↓reduceIte,Nat.reduceEqDiff,Nat.reduceLT,Nat.reduceAdd,List.length_append,List.length_cons,List.length_nil,Option.some.injEq]
           · simp only [ssT,zaf,zag,setSlot,gOf,AV.ren,renL,Blk.ren,Ax.look,Ax.put,reduceCtorEq,↓reduceIte,Nat.reduceEqDiff,Nat.reduceLT,Nat.reduceAdd,List.length_append,List.length_cons,List.length_nil,Option.some.injEq]
       · have d2 : decide ((n : Int) < qs.length) = false := decide_eq_false (by omega)
         have d3 : decide ((n : Int) = qs.length) = true := decide_eq_true (by omega)
         have hdq : qs.drop n = [] := List.drop_eq_nil_of_le (by omega)
         rw [hdq,partG_nil] at hinv
         obtain rfl : V = true := by rw [← hV]; exact decide_eq_true hinv
         simp only [go_sem,zal,Nat.reduceAdd,Nat.reduceSub,Nat.reduceMul,Int.reduceToNat,reduceCtorEq,↓reduceIte,Int.reducePow,Nat.reducePow,Int.reduceMod,Nat.reduceLeDiff,Int.reduceLE,Int.reduceNe,Int.reduceEq,Nat.reduceEqDiff,Nat.reduceLT,Nat.reduceBEq,List.map_cons,List.map_nil,List.toList_toArray,Array.toList_append,Option.toArray_some,Option.toArray_none,Bool.and_self,ty,noS,noPlD,hlq,hlr,d1,d2]
         refine ⟨_,Weak.refl _,?_⟩
         simp only [go_sem,zal,Nat.reduceAdd,Nat.reduceSub,Nat.reduceMul,Int.reduceToNat,reduceCtorEq,↓reduceIte,Int.reducePow,Nat.reducePow,Int.reduceMod,Nat.reduceLeDiff,Int.reduceLE,Int.reduceNe,Int.reduceEq,Nat.reduceEqDiff,Nat.reduceLT,Nat.reduceBEq,List.map_cons,List.map_nil,List.toList_toArray,Array.toList_append,Option.toArray_some,Option.toArray_none,Bool.and_self,ty,noS,noPlD,hlq,hlr,d3]
         try (refine ⟨_,Weak.refl _,?_⟩
              simp only [go_sem,zal,Nat.reduceAdd,Nat.reduceSub,Nat.reduceMul,Int.reduceToNat,reduceCtorEq,↓reduceIte,Int.reducePow,Nat.reducePow,Int.reduceMod,Nat.reduceLeDiff,Int.reduceLE,Int.reduceNe,Int.reduceEq,Nat.reduceEqDiff,Nat.reduceLT,Nat.reduceBEq,List.map_cons,List.map_nil,List.toList_toArray,Array.toList_append,Option.toArray_some,Option.toArray_none,Bool.and_self,ty,noS,noPlD,hlq,hlr,d3])
     · have d1 : decide ((i : Int) < rs.length) = false := decide_eq_false (by omega)
       have hdr : rs.drop i = [] := List.drop_eq_nil_of_le (by omega)
       rw [hdr] at hinv
       have hinv : zdl qs rs = qs.drop n := by rw [hinv]; unfold zdl; rfl
       have hVn : V = decide ((n : Int) = qs.length) := by
         rw [← hV,hinv]
         refine decide_eq_decide.mpr ?_
         rw [List.drop_eq_nil_iff]; omega
       simp only [go_sem,zal,Nat.reduceAdd,Nat.reduceSub,Nat.reduceMul,Int.reduceToNat,reduceCtorEq,↓reduceIte,Int.reducePow,Nat.reducePow,Int.reduceMod,Nat.reduceLeDiff,Int.reduceLE,Int.reduceNe,Int.reduceEq,Nat.reduceEqDiff,Nat.reduceLT,Nat.reduceBEq,List.map_cons,List.map_nil,List.toList_toArray,Array.toList_append,Option.toArray_some,Option.toArray_none,Bool.and_self,ty,noS,noPlD,hlq,hlr,d1]
       refine ⟨_,Weak.refl _,?_⟩
       simp only [go_sem,zal,Nat.reduceAdd,Nat.reduceSub,Nat.reduceMul,Int.reduceToNat,reduceCtorEq,↓reduceIte,Int.reducePow,Nat.reducePow,Int.reduceMod,Nat.reduceLeDiff,Int.reduceLE,Int.reduceNe,Int.reduceEq,Nat.reduceEqDiff,Nat.reduceLT,Nat.reduceBEq,List.map_cons,List.map_nil,List.toList_toArray,Array.toList_append,Option.toArray_some,Option.toArray_none,Bool.and_self,ty,noS,noPlD,hlq,hlr,hVn]
       try (refine ⟨_,Weak.refl _,?_⟩
            simp only [go_sem,zal,Nat.reduceAdd,Nat.reduceSub,Nat.reduceMul,Int.reduceToNat,reduceCtorEq,↓reduceIte,Int.reducePow,Nat.reducePow,Int.reduceMod,Nat.reduceLeDiff,Int.reduceLE,Int.reduceNe,Int.reduceEq,Nat.reduceEqDiff,Nat.reduceLT,Nat.reduceBEq,List.map_cons,List.map_nil,List.toList_toArray,Array.toList_append,Option.toArray_some,Option.toArray_none,Bool.and_self,ty,noS,noPlD,hlq,hlr,hVn])
 · exact hp.elim
end
end Go.Proofs.Ytckbejanaebjkaa
namespace Go.Proofs.Ytckbejanaebjkaa
open Ax
theorem slot_bfr (l : List Bat) (n : Nat) (h : n < l.length) : slot (bfr l) n = bav l[n] false := by
 unfold bfr
 rw [zcx _ n (by simp; exact h)]
 simp [offB,bvp]
theorem filter_at (K : Rec → Bool) (rs : List Rec) (m : Nat) (h : m < rs.length) (hK : K rs[m] = true) : ∃ h2 : ((rs.take m).filter K).length < (rs.filter K).length,(rs.filter K)[((rs.take m).filter K).length] = rs[m] := by
 have e : rs.filter K = (rs.take m).filter K ++ (rs[m] :: (rs.drop (m + 1)).filter K) := by
   have h1 : rs = rs.take m ++ rs.drop m := (List.take_append_drop m rs).symm
   have h2 : rs.drop m = rs[m] :: rs.drop (m + 1) := List.drop_eq_getElem_cons h
   have h3 : (rs.drop m).filter K = rs[m] :: (rs.drop (m + 1)).filter K := by rw [h2,List.filter_cons,if_pos hK]
   rw [← h3,← List.filter_append,← h1]
 refine ⟨by rw [e]; simp,?_⟩
 simp only [e]
 rw [List.getElem_append_right (Nat.le_refl _)]
 simp
def lstayS : zay
 | [.sg 6 xs f,.w (.int .i64 now),.w (.int .i64 g)],[] => ⟨xs.length ≤ 9223372036854775807 ∧ isBs xs,.w (.bool true),[]⟩
 | _,_ => zer
def zao (f : FuncId) : Option zay :=
 match f with
 | 6 => some lgt17S
 | 7 => some yesS
 | 13 => some zcj
 | 12 => some cln17S
 | 8 => some zej
 | _ => none
theorem Slstay17_ok : Fns Try.prog zao := by
 intro f s h
 unfold zao at h
 split at h
 · injection h with h; subst h; exact ⟨⟨_,Try.func6,by kernel_rfl,by kernel_rfl⟩,lgt17_sound⟩
 · injection h with h; subst h; exact ⟨⟨_,Try.func7,by kernel_rfl,by kernel_rfl⟩,awake17_sound⟩
 · injection h with h; subst h; exact ⟨⟨_,Try.func13,by kernel_rfl,by kernel_rfl⟩,part17_sound⟩
 · injection h with h; subst h; exact ⟨⟨_,Try.func12,by kernel_rfl,by kernel_rfl⟩,cln17_sound⟩
 · injection h with h; subst h; exact ⟨⟨_,Try.func8,by kernel_rfl,by kernel_rfl⟩,zec⟩
 · cases h
theorem met_cases {l C : List Bat} {M : KM} {now g : Int} {b c p e s : Int} {rs qs : List Rec} (n : Nat) (rest : List Bat)
   (hC : C = l.flatMap (cl1 M now g)) (hd : C.drop n = cl1 M now g ⟨b,c,p,e,s,rs⟩ ++ rest) (hq : rs.filter (fun r => zcu M b r now g) = qs) :
   (decide ((n : Int) < C.length) = false ∧ empB ⟨b,c,p,e,s,qs⟩) ∨
   (decide ((n : Int) < C.length) = true ∧ n < C.length ∧ ∃ b2 c2 p2 e2 s2 ys,slot (bfr C) n = .agg [.w (.int .i64 b2),.w (.int .i64 c2),.w (.int .i64 p2),.w (.int .i64 e2),.w (.int .i64 s2),.sg 6 (List.map rv ys) false] ∧ ys.length ≤ ys.length ∧ (⟨b2,c2,p2,e2,s2,ys⟩ : Bat) ∈ C ∧
     ((decide (b2 = b) = false ∧ empB ⟨b,c,p,e,s,qs⟩) ∨ (decide (b2 = b) = true ∧
     ((decide (c2 = c) = false ∧ empB ⟨b,c,p,e,s,qs⟩) ∨ (decide (c2 = c) = true ∧
     ((decide (p2 = p) = false ∧ empB ⟨b,c,p,e,s,qs⟩) ∨ (decide (p2 = p) = true ∧
     ((decide (e2 = e) = false ∧ empB ⟨b,c,p,e,s,qs⟩) ∨ (decide (e2 = e) = true ∧
     ((decide (s2 = s) = false ∧ empB ⟨b,c,p,e,s,qs⟩) ∨ (decide (s2 = s) = true ∧
     ((decide (zdl ys rs = []) = false ∧ empB ⟨b,c,p,e,s,qs⟩) ∨ (decide (zdl ys rs = []) = true ∧
     ((decide ((0 : Int) < ys.length) = false ∧ decide (p = 0) = true ∧ empB ⟨b,c,p,e,s,qs⟩) ∨
      (decide ((0 : Int) < ys.length) = true ∧ ys = qs ∧ ¬ empB ⟨b,c,p,e,s,qs⟩) ∨
      (decide ((0 : Int) < ys.length) = false ∧ decide (p = 0) = false ∧ ys = qs ∧ ¬ empB ⟨b,c,p,e,s,qs⟩))))))))))))))) := by
 have hB : clnB M now g ⟨b,c,p,e,s,rs⟩ = ⟨b,c,p,e,s,qs⟩ := by unfold clnB; rw [hq]
 unfold cl1 at hd
 rw [hB] at hd
 by_cases hE : empB ⟨b,c,p,e,s,qs⟩
 · by_cases hn : n < C.length
   · refine .inr ⟨decide_eq_true (by omega),hn,?_⟩
     have hmem : C[n] ∈ C := List.getElem_mem hn
     have hsl := slot_bfr C n hn
     have hm2 : ∀ y ∈ C,∀ r ∈ y.rs,zcu M y.b r now g = true := by rw [hC]; exact fun y hy => cl1_mem hy
     have hkept := hm2 _ hmem
     obtain ⟨Y,hY⟩ : ∃ Y,C[n] = Y := ⟨_,rfl⟩
     rw [hY] at hmem hsl hkept
     obtain ⟨b2,c2,p2,e2,s2,ys⟩ := Y
     refine ⟨b2,c2,p2,e2,s2,ys,hsl,Nat.le_refl _,hmem,?_⟩
     by_cases h1 : b2 = b
     case neg => exact .inl ⟨decide_eq_false h1,hE⟩
     refine .inr ⟨decide_eq_true h1,?_⟩
     by_cases h2 : c2 = c
     case neg => exact .inl ⟨decide_eq_false h2,hE⟩
     refine .inr ⟨decide_eq_true h2,?_⟩
     by_cases h3 : p2 = p
     case neg => exact .inl ⟨decide_eq_false h3,hE⟩
     refine .inr ⟨decide_eq_true h3,?_⟩
     by_cases h4 : e2 = e
     case neg => exact .inl ⟨decide_eq_false h4,hE⟩
     refine .inr ⟨decide_eq_true h4,?_⟩
     by_cases h5 : s2 = s
     case neg => exact .inl ⟨decide_eq_false h5,hE⟩
     refine .inr ⟨decide_eq_true h5,?_⟩
     by_cases h6 : zdl ys rs = []
     case neg => exact .inl ⟨decide_eq_false h6,hE⟩
     refine .inr ⟨decide_eq_true h6,.inl ⟨?_,decide_eq_true hE.2,hE⟩⟩
     have hqs : qs = [] := List.eq_nil_of_length_eq_zero hE.1
     have hys : ys = [] := by
       rcases hys : ys with _ | ⟨y,ys'⟩
       · rfl
       · have h7 : y ∈ ys := by rw [hys]; exact List.mem_cons_self ..
         have h8 := partG_sub rs ys h6 y h7
         have h9 := hkept y h7
         simp only at h9
         rw [h1] at h9
         have h10 : y ∈ rs.filter (fun r => zcu M b r now g) := List.mem_filter.2 ⟨h8,h9⟩
         rw [hq,hqs] at h10
         cases h10
     subst hys
     exact decide_eq_false (by simp)
   · exact .inl ⟨decide_eq_false (by omega),hE⟩
 · rw [if_neg hE] at hd
   have hn : n < C.length := by
     rcases Nat.lt_or_ge n C.length with h | h
     · exact h
     · rw [List.drop_eq_nil_of_le h] at hd; cases hd
   have hCn : C[n] = ⟨b,c,p,e,s,qs⟩ := by
     rw [List.drop_eq_getElem_cons hn] at hd
     simp only [List.cons_append,List.nil_append] at hd
     injection hd
   have hmem : C[n] ∈ C := List.getElem_mem hn
   have hsl := slot_bfr C n hn
   rw [hCn] at hsl hmem
   have hp : zdl qs rs = [] := by rw [← hq]; exact partG_filter _ rs
   refine .inr ⟨decide_eq_true (by omega),hn,b,c,p,e,s,qs,hsl,Nat.le_refl _,hmem,.inr ⟨decide_eq_true rfl,.inr ⟨decide_eq_true rfl,.inr ⟨decide_eq_true rfl,.inr ⟨decide_eq_true rfl,.inr ⟨decide_eq_true rfl,.inr ⟨decide_eq_true hp,.inr ?_⟩⟩⟩⟩⟩⟩⟩
   by_cases hz : qs.length = 0
   · exact .inr ⟨decide_eq_false (by omega),decide_eq_false (fun h => hE ⟨hz,h⟩),rfl,hE⟩
   · exact .inl ⟨decide_eq_true (by omega),rfl,hE⟩
end Go.Proofs.Ytckbejanaebjkaa
