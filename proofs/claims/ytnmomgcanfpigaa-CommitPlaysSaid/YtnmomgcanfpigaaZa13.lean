/- What the proofs of this seat stand on; it asks nothing. -/
import Derived.Test.YtnmomgcanfpigaaZa12
set_option linter.unusedSimpArgs false
set_option linter.unusedVariables false
namespace Go.Proofs.Ytnmomgcanfpigaa
open Ax
def plC (d : List Cm) (c : Cm) (dead : Bool) : List Cm :=
 if fndI c d < d.length then (if dead then d.eraseIdx (fndI c d) else d.set (fndI c d) c) else if dead then d else d.take (insI c d) ++ c :: d.drop (insI c d)
def cmR (r : Rec) : Cm := ⟨cG r.key,cT r.key,cI r.key,cO r.dd r.val⟩
def pl1 (d : List Cm) (r : Rec) : List Cm := if gcK r.k r.key r.dd r.val = true then plC d (cmR r) r.dd else d
def pls (d : List Cm) (rs : List Rec) : List Cm := rs.foldl pl1 d
def emp4 : List AV → Bool
 | [] => true
 | _ => false
def cloneG21S : zak
 | [.sg 4 xs f],[] => ⟨xs.length ≤ 1000000 ∧ ∃ l : List Cm,xs = l.map cmA,bif emp4 xs then .sg 4 [] true else .ms 0 4 0 xs.length,bif emp4 xs then [] else [.g 4 xs]⟩
 | _,_ => zbf
def cloneGPl0 : XPlan := fun id => match id with
 | 1 => .tst [false,true]
 | 3 => .tst [true,false,true]
 | _ => .std
def cloneGPl : XPlan := fun id => match id with
 | 1 => .tst [false,true]
 | 3 => .tst [true]
 | _ => .std
theorem sg_true21 {w : World} {loc : Ax.Loc} {v : Value} {s : Nat} (s' : Nat) (h : R w loc (.sg s [] true) v) : R w loc (.sg s' [] true) v := by
 cases h with
 | sg _ _ _ a cap cs hd hs hc hl hx hh => exact .sg s' [] true a cap cs hd (by simp) hc hl hx hh
theorem sg_false21 {w : World} {loc : Ax.Loc} {v : Value} {s : Nat} (s' : Nat) (h : R w loc (.sg s [] true) v) : R w loc (.sg s' [] false) v := by
 cases h with
 | sg _ _ _ a cap cs hd hs hc hl hx hh => exact .sg s' [] false a cap cs ⟨hd.le,hd.top,fun h => by cases h⟩ (by simp) hc hl hx hh
section
set_option maxRecDepth 100000
set_option maxHeartbeats 4000000
theorem cloneG21_sound : zau Try.prog 40 cloneG21S := by
 refine fn_soundOK (S := noS) (SO := noO) (T := ty) zbb ty_ok zbr noO_ok Try.func40 (c := Try.f40.body.getD .skip) (by kernel_rfl) (fun xs pins hp _ => ?_)
 unfold cloneG21S at hp ⊢
 split at hp
 · rename_i xs f _
   obtain ⟨hL,l,rfl⟩ := hp
   rw [List.length_map] at hL
   have hl4 : (l.map cmA).length = l.length := by simp
   cases l with
   | nil =>
     refine ⟨by simp,cloneGPl0,by kernel_rfl,?_⟩
     unfold Try.f40
     simp only [go_sem,zac,Nat.reduceAdd,Nat.reduceSub,Nat.reduceMul,Int.reduceToNat,reduceCtorEq,↓reduceIte,Int.reducePow,Nat.reducePow,Int.reduceMod,Nat.reduceLeDiff,Int.reduceLE,Int.reduceNe,Int.reduceEq,Nat.reduceEqDiff,Nat.reduceLT,Nat.reduceBEq,List.map_cons,List.map_nil,List.toList_toArray,Array.toList_append,Option.toArray_some,Option.toArray_none,Bool.and_self,ty,noS,cloneGPl0,specOp,List.map_nil,List.length_nil,emp4,cond_true]
     repeat (refine And.intro (by omega) ?_)
     intro b
     refine ⟨fun hb => ?_,fun hb => ?_⟩
     · refine ⟨_,zdv 2 (.sg 4 [] true) (fun w loc v h => sg_true21 4 h),?_⟩
       simp only [go_sem,zac,Nat.reduceAdd,Nat.reduceSub,Nat.reduceMul,Int.reduceToNat,reduceCtorEq,↓reduceIte,Int.reducePow,Nat.reducePow,Int.reduceMod,Nat.reduceLeDiff,Int.reduceLE,Int.reduceNe,Int.reduceEq,Nat.reduceEqDiff,Nat.reduceLT,Nat.reduceBEq,List.map_cons,List.map_nil,List.toList_toArray,Array.toList_append,Option.toArray_some,Option.toArray_none,Bool.and_self,ty,noS]
     · refine ⟨_,zdv 2 (.sg 4 [] true) (fun w loc v h => sg_true21 4 h),?_⟩
       simp only [go_sem,zac,Nat.reduceAdd,Nat.reduceSub,Nat.reduceMul,Int.reduceToNat,reduceCtorEq,↓reduceIte,Int.reducePow,Nat.reducePow,Int.reduceMod,Nat.reduceLeDiff,Int.reduceLE,Int.reduceNe,Int.reduceEq,Nat.reduceEqDiff,Nat.reduceLT,Nat.reduceBEq,List.map_cons,List.map_nil,List.toList_toArray,Array.toList_append,Option.toArray_some,Option.toArray_none,Bool.and_self,ty,noS]
   | cons c l =>
     refine ⟨by simp,cloneGPl,by kernel_rfl,?_⟩
     have hem : emp4 ((c :: l).map cmA) = false := rfl
     have hz : (c :: l).length ≠ 0 := by simp
     generalize hls : c :: l = ls at *
     have htop : ls.length ≤ top := by unfold top; omega
     unfold Try.f40
     simp only [go_sem,zac,Nat.reduceAdd,Nat.reduceSub,Nat.reduceMul,Int.reduceToNat,reduceCtorEq,↓reduceIte,Int.reducePow,Nat.reducePow,Int.reduceMod,Nat.reduceLeDiff,Int.reduceLE,Int.reduceNe,Int.reduceEq,Nat.reduceEqDiff,Nat.reduceLT,Nat.reduceBEq,List.map_cons,List.map_nil,List.toList_toArray,Array.toList_append,Option.toArray_some,Option.toArray_none,Bool.and_self,ty,noS,cloneGPl,specOp,hl4]
     repeat (refine And.intro (by omega) ?_)
     intro b hb
     obtain rfl : b = false := by cases b with | false => rfl | true => exact absurd (hb rfl) hz
     simp only [go_sem,zac,Nat.reduceAdd,Nat.reduceSub,Nat.reduceMul,Int.reduceToNat,reduceCtorEq,↓reduceIte,Int.reducePow,Nat.reducePow,Int.reduceMod,Nat.reduceLeDiff,Int.reduceLE,Int.reduceNe,Int.reduceEq,Nat.reduceEqDiff,Nat.reduceLT,Nat.reduceBEq,List.map_cons,List.map_nil,List.toList_toArray,Array.toList_append,Option.toArray_some,Option.toArray_none,Bool.and_self,ty,noS,cloneGPl,specOp,hl4,hem,cond_false]
     refine ⟨htop,_,Weak.refl _,?_⟩
     simp only [go_sem,zac,Nat.reduceAdd,Nat.reduceSub,Nat.reduceMul,Int.reduceToNat,reduceCtorEq,↓reduceIte,Int.reducePow,Nat.reducePow,Int.reduceMod,Nat.reduceLeDiff,Int.reduceLE,Int.reduceNe,Int.reduceEq,Nat.reduceEqDiff,Nat.reduceLT,Nat.reduceBEq,List.map_cons,List.map_nil,List.toList_toArray,Array.toList_append,Option.toArray_some,Option.toArray_none,Bool.and_self,ty,noS,hl4,hem,cond_false,zal]
 · exact hp.elim
def zee (f : FuncId) : Option zak :=
 match f with
 | 40 => some cloneG21S
 | 14 => some zdf
 | _ => none
theorem SPlg21_ok : Fns Try.prog zee := by
 intro f s h
 unfold zee at h
 split at h
 · injection h with h; subst h; exact ⟨⟨_,Try.func40,by kernel_rfl,by kernel_rfl⟩,cloneG21_sound⟩
 · injection h with h; subst h; exact ⟨⟨_,Try.func14,by kernel_rfl,by kernel_rfl⟩,get21_sound⟩
 · cases h
def zce (f : FuncId) : Option zak :=
 match f with
 | 41 => some playS
 | _ => none
theorem SOPlg21_ok : FnsO Try.prog zce := by
 intro f s h
 unfold zce at h
 split at h
 · injection h with h; subst h; exact ⟨⟨_,Try.func41,by kernel_rfl,by kernel_rfl⟩,play_sound⟩
 · cases h
def PlayS : zak
 | [.sg 4 xs f,.agg [.w (.int .i64 b),.w (.int .i64 c),.w (.int .i64 p),.w (.int .i64 e),.w (.int .i64 s),.sg 6 rs g]],[] =>
     ⟨(xs.length + rs.length ≤ 999999 ∧ ∃ l : List Cm,xs = l.map cmA) ∧ ∃ q : List Rec,rs = q.map rv ∧ ∀ r ∈ q,r.key.length ≤ 1000000 ∧ r.val.length ≤ 1000000,.sg 4 ((pls (xs.map ucm) (rs.map rrec)).map cmA) false,[]⟩
 | _,_ => zbf
def PlPl : XPlan := fun id => match id with
 | 7 => .opn [] 4
 | _ => .std
theorem delE_len {e : List Cm} {n i : Nat} (h : n ≤ e.length) (hi : i < n) : (delE e n i).length = n := by
 unfold delE
 simp only [List.length_append,List.length_take,List.length_drop,List.length_cons,List.length_nil]
 omega
theorem insE_len {e : List Cm} {n i : Nat} {c : Cm} (h : n ≤ e.length) (hi : i ≤ n) : (insE e n i c).length = n + 1 := by
 unfold insE
 simp only [List.length_append,List.length_take,List.length_drop,List.length_cons]
 omega
def plR (e : List Cm) (n K1 K2 : Nat) (c : Cm) : Bool → Bool → List Cm
 | true,true => (delE e n K1).take (n - 1)
 | true,false => (e.set K1 c).take n
 | false,true => e.take n
 | false,false => (insE e n K2 c).take (n + 1)
theorem playRes_get (e : List Cm) (n : Nat) (c : Cm) (dd : Bool) : playRes e n c dd = playR e n (fndI c (e.take n)) (insI c (e.take n)) c (decide (fndI c (e.take n) < n)) dd := rfl
theorem plC_get (e : List Cm) (n : Nat) (c : Cm) (dd : Bool) (h : n ≤ e.length) : plC (e.take n) c dd = plR e n (fndI c (e.take n)) (insI c (e.take n)) c (decide (fndI c (e.take n) < n)) dd := by
 have htl : (e.take n).length = n := by rw [List.length_take]; omega
 have hil : insI c (e.take n) ≤ n := Nat.le_trans List.findIdx_le_length (Nat.le_of_eq htl)
 unfold plC
 rw [htl]
 generalize fndI c (e.take n) = K1
 generalize insI c (e.take n) = K2 at *
 by_cases hf : K1 < n
 · rw [if_pos hf,decide_eq_true hf]
   cases dd with
   | true =>
     simp only [if_true,plR,delE]
     have hX : (e.take K1 ++ (e.take n).drop (K1 + 1)).length = n - 1 := by
       simp only [List.length_append,List.length_take,List.length_drop]
       omega
     rw [List.eraseIdx_eq_take_drop_succ,List.take_take,Nat.min_eq_left (by omega),← List.append_assoc,List.take_left' hX]
   | false =>
     simp only [Bool.false_eq_true,if_false,plR]
     rw [List.take_set]
 · rw [if_neg hf,decide_eq_false hf]
   cases dd with
   | true => rfl
   | false =>
     simp only [Bool.false_eq_true,if_false,plR,insE]
     rw [List.take_take,Nat.min_eq_left hil]
     refine (List.take_of_length_le ?_).symm
     simp only [List.length_append,List.length_take,List.length_drop,List.length_cons]
     omega
theorem coe0n : coe ty 48 (.sg 4 [] true) = .sg 4 [] true := rfl
def PlI (l : List Cm) (q : List Rec) (g : Bool) (m : Nat) (σ : ASt) : Prop := ∃ j : Nat,m = q.length - j ∧ j ≤ q.length ∧
 ((pls l (q.take j) = [] ∧ σ = ⟨[.sg 4 [] true,.junk,.junk,.junk,.junk,.junk,.junk,.junk,.junk,.junk,.junk,.junk,.sg 6 (q.map rv) g,.w (.int .i64 q.length),.w (.int .i64 j),.junk,.junk,.junk,.junk,.junk,.junk,.junk,.junk,.junk,.junk,.junk,.junk,.junk,.junk,.junk,.junk,.junk],[],5⟩) ∨
  (∃ (e : List Cm) (n : Nat),0 < e.length ∧ n ≤ e.length ∧ n ≤ l.length + j ∧ e.take n = pls l (q.take j) ∧ σ = ⟨[.ms 4 4 0 n,.junk,.junk,.junk,.junk,.junk,.junk,.junk,.junk,.junk,.junk,.junk,.sg 6 (q.map rv) g,.w (.int .i64 q.length),.w (.int .i64 j),.junk,.junk,.junk,.junk,.junk,.junk,.junk,.junk,.junk,.junk,.junk,.junk,.junk,.junk,.junk,.junk,.junk],[(4,.g 4 (e.map cmA))],5⟩))
set_option maxHeartbeats 8000000 in
theorem Play_sound : zau Try.prog 21 PlayS := by
 refine fn_soundOK (S := zee) (SO := zce) (T := ty) zbb ty_ok SPlg21_ok SOPlg21_ok Try.func21 (c := Try.f21.body.getD .skip) (by kernel_rfl) (fun xs pins hp _ => ?_)
 unfold PlayS at hp ⊢
 split at hp
 · rename_i xs f b c p e s rs g _
   obtain ⟨⟨hL,l,rfl⟩,q,rfl,hq⟩ := hp
   rw [List.length_map,List.length_map] at hL
   rw [zaw,zds]
   have hl4 : (l.map cmA).length = l.length := by simp
   have hl6 : (q.map rv).length = q.length := by simp
   have hex : ∃ k : List Cm,l.map cmA = k.map cmA := ⟨l,rfl⟩
   have hl5 : decide ((l.length : Int) ≤ 1000000) = true := decide_eq_true (by omega)
   refine ⟨by simp,PlPl,by kernel_rfl,?_⟩
   unfold Try.f21
   have main : ∀ σ : ASt,(pls l [] = [] ∧ σ = ⟨[.sg 4 [] true,.junk,.junk,.junk,.junk,.junk,.junk,.junk,.junk,.junk,.junk,.junk,.sg 6 (q.map rv) g,.w (.int .i64 q.length),.w (.int .i64 0),.junk,.junk,.junk,.junk,.junk,.junk,.junk,.junk,.junk,.junk,.junk,.junk,.junk,.junk,.junk,.junk,.junk],[],5⟩) ∨
       (∃ (e' : List Cm) (n : Nat),0 < e'.length ∧ n ≤ e'.length ∧ n ≤ l.length ∧ e'.take n = pls l [] ∧ σ = ⟨[.ms 4 4 0 n,.junk,.junk,.junk,.junk,.junk,.junk,.junk,.junk,.junk,.junk,.junk,.sg 6 (q.map rv) g,.w (.int .i64 q.length),.w (.int .i64 0),.junk,.junk,.junk,.junk,.junk,.junk,.junk,.junk,.junk,.junk,.junk,.junk,.junk,.junk,.junk,.junk,.junk],[(4,.g 4 (e'.map cmA))],5⟩) → PlI l q g (q.length - 0) σ := by
     intro σ h
     refine ⟨0,rfl,Nat.zero_le _,?_⟩
     simpa only [List.take_zero,Nat.add_zero,Int.cast_ofNat_Int] using h
   rcases Classical.em (emp4 (l.map cmA) = true) with hz | hz
   case' inl =>
     have hl0 : l = [] := by cases l with | nil => rfl | cons _ _ => cases hz
     simp only [go_sem,zac,Nat.reduceAdd,Nat.reduceSub,Nat.reduceMul,Int.reduceToNat,reduceCtorEq,↓reduceIte,Int.reducePow,Nat.reducePow,Int.reduceMod,Nat.reduceLeDiff,Int.reduceLE,Int.reduceNe,Int.reduceEq,Nat.reduceEqDiff,Nat.reduceLT,Nat.reduceBEq,List.map_cons,List.map_nil,List.toList_toArray,Array.toList_append,Option.toArray_some,Option.toArray_none,Bool.and_self,ty,zee,zce,PlPl,cloneG21S,hl4,hl6,hex,coe_cm,hz,cond_true]
     refine And.intro (by omega) ?_
     refine awpO_loopW ⟨PlI l q g,?_,?_⟩
     · refine ⟨_,_,zah [0,1,2,3,4] rfl rfl rfl ?_ ?_,main _ (.inl ⟨by subst hl0; rfl,rfl⟩)⟩
       · simp only [ssT,zan,zao,setSlot,gOf,AV.ren,renL,Blk.ren,Ax.look,Ax.put,reduceCtorEq,↓reduceIte,Nat.reduceEqDiff,Nat.reduceLT,Nat.reduceAdd,List.length_append,List.length_cons,List.length_nil,Option.some.injEq]; try simp
       · simp only [ssT,zan,zao,setSlot,gOf,AV.ren,renL,Blk.ren,Ax.look,Ax.put,reduceCtorEq,↓reduceIte,Nat.reduceEqDiff,Nat.reduceLT,Nat.reduceAdd,List.length_append,List.length_cons,List.length_nil,Option.some.injEq]; try simp
   case' inr =>
     have hz : emp4 (l.map cmA) = false := by simpa using hz
     have hl0 : 0 < l.length := by cases l with | nil => cases hz | cons _ _ => simp
     simp only [go_sem,zac,Nat.reduceAdd,Nat.reduceSub,Nat.reduceMul,Int.reduceToNat,reduceCtorEq,↓reduceIte,Int.reducePow,Nat.reducePow,Int.reduceMod,Nat.reduceLeDiff,Int.reduceLE,Int.reduceNe,Int.reduceEq,Nat.reduceEqDiff,Nat.reduceLT,Nat.reduceBEq,List.map_cons,List.map_nil,List.toList_toArray,Array.toList_append,Option.toArray_some,Option.toArray_none,Bool.and_self,ty,zee,zce,PlPl,cloneG21S,hl4,hl6,hex,coe_cm,zal,zbl,hz,cond_false]
     refine And.intro (by omega) ?_
     refine awpO_loopW ⟨PlI l q g,?_,?_⟩
     · refine ⟨_,_,zah [0,1,2,3,28] rfl rfl rfl ?_ ?_,main _ (.inr ⟨l,l.length,hl0,Nat.le_refl _,Nat.le_refl _,List.take_length,rfl⟩)⟩
       · simp only [ssT,zan,zao,setSlot,gOf,AV.ren,renL,Blk.ren,Ax.look,Ax.put,reduceCtorEq,↓reduceIte,Nat.reduceEqDiff,Nat.reduceLT,Nat.reduceAdd,List.length_append,List.length_cons,List.length_nil,Option.some.injEq,zbl]; try simp
       · simp only [ssT,zan,zao,setSlot,gOf,AV.ren,renL,Blk.ren,Ax.look,Ax.put,reduceCtorEq,↓reduceIte,Nat.reduceEqDiff,Nat.reduceLT,Nat.reduceAdd,List.length_append,List.length_cons,List.length_nil,Option.some.injEq,zbl]; try simp
   all_goals
     rintro m σ ⟨j,rfl,hj,hor⟩
     by_cases hjl : j < q.length
     · have e1 : ((j : Int) + 1 + 9223372036854775808) % 18446744073709551616 - 9223372036854775808 = ((j + 1 : Nat) : Int) := by omega
       have d1 : decide ((j : Int) < q.length) = true := decide_eq_true (by omega)
       have hs1 := kslot_map rv q j hjl
       have hq1 := hq q[j] (List.getElem_mem hjl)
       have htk : pls l (q.take (j + 1)) = pl1 (pls l (q.take j)) q[j] := by
         unfold pls
         rw [List.take_succ_eq_append_getElem hjl,List.foldl_append]
         rfl
       obtain ⟨r,hr⟩ : ∃ r,q[j] = r := ⟨_,rfl⟩
       rw [hr] at hs1 hq1 htk
       obtain ⟨d,t,k,key,dd,val⟩ := r
       obtain ⟨hk1,hk2⟩ := hq1
       have hk1 : key.length ≤ 1000000 := hk1
       have hk2 : val.length ≤ 1000000 := hk2
       simp only [rv] at hs1
       have hwe : ∀ (σ' : ASt) (sl : List AV) (H : Heap) (nx : Nat),σ' = ⟨sl,H,nx⟩ → σ' = ⟨sl,H,nx⟩ := fun _ _ _ _ h => h
       cases hg : gcK k key dd val with
       | false =>
         have hga : gtCA k key dd val = .agg [.str [],.str [],.w (.int .i64 0),.w (.int .i64 0)] := by unfold gtCA; rw [hg]; rfl
         have htk : pls l (q.take (j + 1)) = pls l (q.take j) := by rw [htk]; exact if_neg (by rw [hg]; simp)
         rcases hor with ⟨h0,rfl⟩ | ⟨e,n,h1,h2,h3,h4,rfl⟩
         · simp only [go_sem,zac,Nat.reduceAdd,Nat.reduceSub,Nat.reduceMul,Int.reduceToNat,reduceCtorEq,↓reduceIte,Int.reducePow,Nat.reducePow,Int.reduceMod,Nat.reduceLeDiff,Int.reduceLE,Int.reduceNe,Int.reduceEq,Nat.reduceEqDiff,Nat.reduceLT,Nat.reduceBEq,List.map_cons,List.map_nil,List.toList_toArray,Array.toList_append,Option.toArray_some,Option.toArray_none,Bool.and_self,ty,zee,zce,PlPl,zdf,hl6,d1,e1,hs1,hk1,hk2,hg,hga,Int.toNat_natCast,cond_false]
           repeat (refine And.intro (by omega) ?_)
           refine ⟨q.length - (j + 1),_,by omega,zah [0,1,2,3,4] rfl rfl rfl ?_ ?_,j + 1,rfl,by omega,.inl ⟨by rw [htk]; exact h0,rfl⟩⟩
           · simp only [ssT,zan,zao,setSlot,gOf,AV.ren,renL,Blk.ren,Ax.look,Ax.put,reduceCtorEq,↓reduceIte,Nat.reduceEqDiff,Nat.reduceLT,Nat.reduceAdd,List.length_append,List.length_cons,List.length_nil,Option.some.injEq]; try simp
           · simp only [ssT,zan,zao,setSlot,gOf,AV.ren,renL,Blk.ren,Ax.look,Ax.put,reduceCtorEq,↓reduceIte,Nat.reduceEqDiff,Nat.reduceLT,Nat.reduceAdd,List.length_append,List.length_cons,List.length_nil,Option.some.injEq]; try simp
         · simp only [go_sem,zac,Nat.reduceAdd,Nat.reduceSub,Nat.reduceMul,Int.reduceToNat,reduceCtorEq,↓reduceIte,Int.reducePow,Nat.reducePow,Int.reduceMod,Nat.reduceLeDiff,Int.reduceLE,Int.reduceNe,Int.reduceEq,Nat.reduceEqDiff,Nat.reduceLT,Nat.reduceBEq,List.map_cons,List.map_nil,List.toList_toArray,Array.toList_append,Option.toArray_some,Option.toArray_none,Bool.and_self,ty,zee,zce,PlPl,zdf,hl6,d1,e1,hs1,hk1,hk2,hg,hga,Int.toNat_natCast,cond_false]
           repeat (refine And.intro (by omega) ?_)
           refine ⟨q.length - (j + 1),_,by omega,zah [0,1,2,3,4] rfl rfl rfl ?_ ?_,j + 1,rfl,by omega,.inr ⟨e,n,h1,h2,by omega,by rw [htk]; exact h4,rfl⟩⟩
           · simp only [ssT,zan,zao,setSlot,gOf,AV.ren,renL,Blk.ren,Ax.look,Ax.put,reduceCtorEq,↓reduceIte,Nat.reduceEqDiff,Nat.reduceLT,Nat.reduceAdd,List.length_append,List.length_cons,List.length_nil,Option.some.injEq,zbl]; try simp
           · simp only [ssT,zan,zao,setSlot,gOf,AV.ren,renL,Blk.ren,Ax.look,Ax.put,reduceCtorEq,↓reduceIte,Nat.reduceEqDiff,Nat.reduceLT,Nat.reduceAdd,List.length_append,List.length_cons,List.length_nil,Option.some.injEq,zbl]; try simp
       | true =>
         have hga : gtCA k key dd val = .agg [.str (cG key),.str (cT key),.w (.int .i64 (cI key)),.w (.int .i64 (cO dd val))] := by unfold gtCA; rw [hg]; rfl
         have htk : pls l (q.take (j + 1)) = plC (pls l (q.take j)) ⟨cG key,cT key,cI key,cO dd val⟩ dd := by rw [htk]; exact if_pos hg
         generalize cG key = G at *
         generalize cT key = T at *
         generalize cI key = I at *
         generalize cO dd val = O at *
         rcases hor with ⟨h0,rfl⟩ | ⟨e,n,h1,h2,h3,h4,rfl⟩
         · rw [h0] at htk
           cases dd with
           | true =>
             simp only [go_sem,zac,Nat.reduceAdd,Nat.reduceSub,Nat.reduceMul,Int.reduceToNat,reduceCtorEq,↓reduceIte,Int.reducePow,Nat.reducePow,Int.reduceMod,Nat.reduceLeDiff,Int.reduceLE,Int.reduceNe,Int.reduceEq,Nat.reduceEqDiff,Nat.reduceLT,Nat.reduceBEq,List.map_cons,List.map_nil,List.toList_toArray,Array.toList_append,Option.toArray_some,Option.toArray_none,Bool.and_self,ty,zee,zce,PlPl,zdf,playS,coe0n,hl6,d1,e1,hs1,hk1,hk2,hg,hga,Int.toNat_natCast,cond_true]
             repeat (refine And.intro (by omega) ?_)
             refine ⟨q.length - (j + 1),_,by omega,zah [0,1,2,3,4] rfl rfl rfl ?_ ?_,j + 1,rfl,by omega,.inl ⟨htk,rfl⟩⟩
             · simp only [ssT,zan,zao,setSlot,gOf,AV.ren,renL,Blk.ren,Ax.look,Ax.put,reduceCtorEq,↓reduceIte,Nat.reduceEqDiff,Nat.reduceLT,Nat.reduceAdd,List.length_append,List.length_cons,List.length_nil,Option.some.injEq]; try simp
             · simp only [ssT,zan,zao,setSlot,gOf,AV.ren,renL,Blk.ren,Ax.look,Ax.put,reduceCtorEq,↓reduceIte,Nat.reduceEqDiff,Nat.reduceLT,Nat.reduceAdd,List.length_append,List.length_cons,List.length_nil,Option.some.injEq]; try simp
           | false =>
             simp only [go_sem,zac,Nat.reduceAdd,Nat.reduceSub,Nat.reduceMul,Int.reduceToNat,reduceCtorEq,↓reduceIte,Int.reducePow,Nat.reducePow,Int.reduceMod,Nat.reduceLeDiff,Int.reduceLE,Int.reduceNe,Int.reduceEq,Nat.reduceEqDiff,Nat.reduceLT,Nat.reduceBEq,List.map_cons,List.map_nil,List.toList_toArray,Array.toList_append,Option.toArray_some,Option.toArray_none,Bool.and_self,ty,zee,zce,PlPl,zdf,playS,coe0n,hl6,d1,e1,hs1,hk1,hk2,hg,hga,Int.toNat_natCast,cond_true]
             repeat (refine And.intro (by omega) ?_)
             refine ⟨q.length - (j + 1),_,by omega,zah [0,1,2,3,157] rfl rfl rfl ?_ ?_,j + 1,rfl,by omega,.inr ⟨[⟨G,T,I,O⟩],1,by simp,by simp,by omega,htk.symm,rfl⟩⟩
             · simp only [ssT,zan,zao,setSlot,gOf,AV.ren,renL,Blk.ren,Ax.look,Ax.put,reduceCtorEq,↓reduceIte,Nat.reduceEqDiff,Nat.reduceLT,Nat.reduceAdd,List.length_append,List.length_cons,List.length_nil,Option.some.injEq]; (try simp); (try rfl)
             · simp only [ssT,zan,zao,setSlot,gOf,AV.ren,renL,Blk.ren,Ax.look,Ax.put,reduceCtorEq,↓reduceIte,Nat.reduceEqDiff,Nat.reduceLT,Nat.reduceAdd,List.length_append,List.length_cons,List.length_nil,Option.some.injEq]; (try simp); (try rfl)
         · rw [← h4] at htk
           have htl : (e.take n).length = n := by rw [List.length_take]; omega
           have hR := playRes_get e n ⟨G,T,I,O⟩ dd
           have hpl := plC_get e n ⟨G,T,I,O⟩ dd h2
           have hpos : decide (0 < e.length) = true := decide_eq_true h1
           have hex2 : ∃ k : List Cm,e.map cmA = k.map cmA := ⟨e,rfl⟩
           rw [hpl] at htk
           cases hf : decide (fndI ⟨G,T,I,O⟩ (e.take n) < n) with
           | true =>
             have hlt := of_decide_eq_true hf
             rw [hf] at hR htk
             cases dd with
             | true =>
               simp only [playR] at hR
               simp only [go_sem,zac,Nat.reduceAdd,Nat.reduceSub,Nat.reduceMul,Int.reduceToNat,reduceCtorEq,↓reduceIte,Int.reducePow,Nat.reducePow,Int.reduceMod,Nat.reduceLeDiff,Int.reduceLE,Int.reduceNe,Int.reduceEq,Nat.reduceEqDiff,Nat.reduceLT,Nat.reduceBEq,List.map_cons,List.map_nil,List.toList_toArray,Array.toList_append,Option.toArray_some,Option.toArray_none,Bool.and_self,ty,zee,zce,PlPl,zdf,playS,coe0n,hl6,d1,e1,hs1,hk1,hk2,hg,hga,hR,hpos,hex2,List.length_map,zaw,zal,zbl,zcy,Bool.cond_self,Int.toNat_natCast,cond_true]
               refine ⟨⟨by omega,by omega⟩,⟨by omega,by omega,by omega⟩,?_⟩
               refine ⟨q.length - (j + 1),_,by omega,zah [0,1,2,3,4] rfl rfl rfl ?_ ?_,j + 1,rfl,by omega,.inr ⟨delE e n (fndI ⟨G,T,I,O⟩ (e.take n)),n - 1,by rw [delE_len h2 hlt]; omega,by rw [delE_len h2 hlt]; omega,by omega,htk.symm,rfl⟩⟩
               · simp only [ssT,zan,zao,setSlot,gOf,AV.ren,renL,Blk.ren,Ax.look,Ax.put,reduceCtorEq,↓reduceIte,Nat.reduceEqDiff,Nat.reduceLT,Nat.reduceAdd,List.length_append,List.length_cons,List.length_nil,Option.some.injEq,zbl]; try simp
               · simp only [ssT,zan,zao,setSlot,gOf,AV.ren,renL,Blk.ren,Ax.look,Ax.put,reduceCtorEq,↓reduceIte,Nat.reduceEqDiff,Nat.reduceLT,Nat.reduceAdd,List.length_append,List.length_cons,List.length_nil,Option.some.injEq,zbl]; try simp
             | false =>
               simp only [playR] at hR
               simp only [go_sem,zac,Nat.reduceAdd,Nat.reduceSub,Nat.reduceMul,Int.reduceToNat,reduceCtorEq,↓reduceIte,Int.reducePow,Nat.reducePow,Int.reduceMod,Nat.reduceLeDiff,Int.reduceLE,Int.reduceNe,Int.reduceEq,Nat.reduceEqDiff,Nat.reduceLT,Nat.reduceBEq,List.map_cons,List.map_nil,List.toList_toArray,Array.toList_append,Option.toArray_some,Option.toArray_none,Bool.and_self,ty,zee,zce,PlPl,zdf,playS,coe0n,hl6,d1,e1,hs1,hk1,hk2,hg,hga,hR,hpos,hex2,List.length_map,zaw,zal,zbl,zcy,Bool.cond_self,Int.toNat_natCast,cond_true]
               refine ⟨⟨by omega,by omega⟩,⟨by omega,by omega,by omega⟩,?_⟩
               refine ⟨q.length - (j + 1),_,by omega,zah [0,1,2,3,4] rfl rfl rfl ?_ ?_,j + 1,rfl,by omega,.inr ⟨e.set (fndI ⟨G,T,I,O⟩ (e.take n)) ⟨G,T,I,O⟩,n,by rw [List.length_set]; omega,by rw [List.length_set]; omega,by omega,htk.symm,rfl⟩⟩
               · simp only [ssT,zan,zao,setSlot,gOf,AV.ren,renL,Blk.ren,Ax.look,Ax.put,reduceCtorEq,↓reduceIte,Nat.reduceEqDiff,Nat.reduceLT,Nat.reduceAdd,List.length_append,List.length_cons,List.length_nil,Option.some.injEq,zbl]; try simp
               · simp only [ssT,zan,zao,setSlot,gOf,AV.ren,renL,Blk.ren,Ax.look,Ax.put,reduceCtorEq,↓reduceIte,Nat.reduceEqDiff,Nat.reduceLT,Nat.reduceAdd,List.length_append,List.length_cons,List.length_nil,Option.some.injEq,zbl]; try simp
           | false =>
             rw [hf] at hR htk
             cases dd with
             | true =>
               simp only [playR] at hR
               simp only [go_sem,zac,Nat.reduceAdd,Nat.reduceSub,Nat.reduceMul,Int.reduceToNat,reduceCtorEq,↓reduceIte,Int.reducePow,Nat.reducePow,Int.reduceMod,Nat.reduceLeDiff,Int.reduceLE,Int.reduceNe,Int.reduceEq,Nat.reduceEqDiff,Nat.reduceLT,Nat.reduceBEq,List.map_cons,List.map_nil,List.toList_toArray,Array.toList_append,Option.toArray_some,Option.toArray_none,Bool.and_self,ty,zee,zce,PlPl,zdf,playS,coe0n,hl6,d1,e1,hs1,hk1,hk2,hg,hga,hR,hpos,hex2,List.length_map,zaw,zal,zbl,zcy,Bool.cond_self,Int.toNat_natCast,cond_true]
               refine ⟨⟨by omega,by omega⟩,⟨by omega,by omega,by omega⟩,?_⟩
               refine ⟨q.length - (j + 1),_,by omega,zah [0,1,2,3,4] rfl rfl rfl ?_ ?_,j + 1,rfl,by omega,.inr ⟨e,n,h1,h2,by omega,htk.symm,rfl⟩⟩
               · simp only [ssT,zan,zao,setSlot,gOf,AV.ren,renL,Blk.ren,Ax.look,Ax.put,reduceCtorEq,↓reduceIte,Nat.reduceEqDiff,Nat.reduceLT,Nat.reduceAdd,List.length_append,List.length_cons,List.length_nil,Option.some.injEq,zbl]; try simp
               · simp only [ssT,zan,zao,setSlot,gOf,AV.ren,renL,Blk.ren,Ax.look,Ax.put,reduceCtorEq,↓reduceIte,Nat.reduceEqDiff,Nat.reduceLT,Nat.reduceAdd,List.length_append,List.length_cons,List.length_nil,Option.some.injEq,zbl]; try simp
             | false =>
               simp only [playR] at hR
               simp only [go_sem,zac,Nat.reduceAdd,Nat.reduceSub,Nat.reduceMul,Int.reduceToNat,reduceCtorEq,↓reduceIte,Int.reducePow,Nat.reducePow,Int.reduceMod,Nat.reduceLeDiff,Int.reduceLE,Int.reduceNe,Int.reduceEq,Nat.reduceEqDiff,Nat.reduceLT,Nat.reduceBEq,List.map_cons,List.map_nil,List.toList_toArray,Array.toList_append,Option.toArray_some,Option.toArray_none,Bool.and_self,ty,zee,zce,PlPl,zdf,playS,coe0n,hl6,d1,e1,hs1,hk1,hk2,hg,hga,hR,hpos,hex2,List.length_map,zaw,zal,zbl,zcy,Bool.cond_self,Int.toNat_natCast,cond_true]
               refine ⟨⟨by omega,by omega⟩,⟨by omega,by omega,by omega⟩,?_⟩
               have hil : insI ⟨G,T,I,O⟩ (e.take n) ≤ n := Nat.le_trans List.findIdx_le_length (Nat.le_of_eq htl)
               refine ⟨q.length - (j + 1),_,by omega,zah [0,1,2,3,157] rfl rfl rfl ?_ ?_,j + 1,rfl,by omega,.inr ⟨insE e n (insI ⟨G,T,I,O⟩ (e.take n)) ⟨G,T,I,O⟩,n + 1,by rw [insE_len h2 hil]; omega,by rw [insE_len h2 hil]; omega,by omega,htk.symm,rfl⟩⟩
               · simp only [ssT,zan,zao,setSlot,gOf,AV.ren,renL,Blk.ren,Ax.look,Ax.put,reduceCtorEq,↓reduceIte,Nat.reduceEqDiff,Nat.reduceLT,Nat.reduceAdd,List.length_append,List.length_cons,List.length_nil,Option.some.injEq,zbl]; try simp
               · simp only [ssT,zan,zao,setSlot,gOf,AV.ren,renL,Blk.ren,Ax.look,Ax.put,reduceCtorEq,↓reduceIte,Nat.reduceEqDiff,Nat.reduceLT,Nat.reduceAdd,List.length_append,List.length_cons,List.length_nil,Option.some.injEq,zbl]; try simp
     · have d1 : decide ((j : Int) < q.length) = false := decide_eq_false (by omega)
       obtain rfl : j = q.length := by omega
       rw [List.take_length] at hor
       rcases hor with ⟨h0,rfl⟩ | ⟨e,n,h1,h2,h3,h4,rfl⟩
       · rw [h0]
         simp only [go_sem,zac,Nat.reduceAdd,Nat.reduceSub,Nat.reduceMul,Int.reduceToNat,reduceCtorEq,↓reduceIte,Int.reducePow,Nat.reducePow,Int.reduceMod,Nat.reduceLeDiff,Int.reduceLE,Int.reduceNe,Int.reduceEq,Nat.reduceEqDiff,Nat.reduceLT,Nat.reduceBEq,List.map_cons,List.map_nil,List.toList_toArray,Array.toList_append,Option.toArray_some,Option.toArray_none,Bool.and_self,ty,zee,zce,PlPl,hl6,d1]
         refine ⟨_,Weak.refl _,?_⟩
         simp only [go_sem,zac,Nat.reduceAdd,Nat.reduceSub,Nat.reduceMul,Int.reduceToNat,reduceCtorEq,↓reduceIte,Int.reducePow,Nat.reducePow,Int.reduceMod,Nat.reduceLeDiff,Int.reduceLE,Int.reduceNe,Int.reduceEq,Nat.reduceEqDiff,Nat.reduceLT,Nat.reduceBEq,List.map_cons,List.map_nil,List.toList_toArray,Array.toList_append,Option.toArray_some,Option.toArray_none,Bool.and_self,ty,zee,zce,PlPl,List.map_nil]
         refine ⟨_,zdv 4 (.sg 4 [] false) (fun w loc v h => sg_false21 4 h),?_⟩
         simp only [go_sem,zac,Nat.reduceAdd,Nat.reduceSub,Nat.reduceMul,Int.reduceToNat,reduceCtorEq,↓reduceIte,Int.reducePow,Nat.reducePow,Int.reduceMod,Nat.reduceLeDiff,Int.reduceLE,Int.reduceNe,Int.reduceEq,Nat.reduceEqDiff,Nat.reduceLT,Nat.reduceBEq,List.map_cons,List.map_nil,List.toList_toArray,Array.toList_append,Option.toArray_some,Option.toArray_none,Bool.and_self,ty]
       · rw [← h4]
         have dle : decide (n ≤ (e.map cmA).length) = true := decide_eq_true (by rw [List.length_map]; omega)
         have dt : List.take n (e.map cmA) = (e.take n).map cmA := List.map_take.symm
         simp only [go_sem,zac,Nat.reduceAdd,Nat.reduceSub,Nat.reduceMul,Int.reduceToNat,reduceCtorEq,↓reduceIte,Int.reducePow,Nat.reducePow,Int.reduceMod,Nat.reduceLeDiff,Int.reduceLE,Int.reduceNe,Int.reduceEq,Nat.reduceEqDiff,Nat.reduceLT,Nat.reduceBEq,List.map_cons,List.map_nil,List.toList_toArray,Array.toList_append,Option.toArray_some,Option.toArray_none,Bool.and_self,ty,zee,zce,PlPl,hl6,d1]
         refine ⟨_,Weak.refl _,?_⟩
         simp only [go_sem,zac,Nat.reduceAdd,Nat.reduceSub,Nat.reduceMul,Int.reduceToNat,reduceCtorEq,↓reduceIte,Int.reducePow,Nat.reducePow,Int.reduceMod,Nat.reduceLeDiff,Int.reduceLE,Int.reduceNe,Int.reduceEq,Nat.reduceEqDiff,Nat.reduceLT,Nat.reduceBEq,List.map_cons,List.map_nil,List.toList_toArray,Array.toList_append,Option.toArray_some,Option.toArray_none,Bool.and_self,ty,zee,zce,PlPl,List.map_nil]
         refine ⟨_,weak_fg 4 4 4 (e.map cmA) rfl (zal e) (by simp [slot,AV.ids]),?_⟩
         simp only [go_sem,zac,Nat.reduceAdd,Nat.reduceSub,Nat.reduceMul,Int.reduceToNat,reduceCtorEq,↓reduceIte,Int.reducePow,Nat.reducePow,Int.reduceMod,Nat.reduceLeDiff,Int.reduceLE,Int.reduceNe,Int.reduceEq,Nat.reduceEqDiff,Nat.reduceLT,Nat.reduceBEq,List.map_cons,List.map_nil,List.toList_toArray,Array.toList_append,Option.toArray_some,Option.toArray_none,Bool.and_self,ty,fgL,fgH,AV.fg,Blk.fg,dle,dt,List.drop_zero,BEq.rfl,Bool.and_self,cond_true,Bool.true_and]
 · exact hp.elim
end
end Go.Proofs.Ytnmomgcanfpigaa
namespace Go.Proofs.Ytnmomgcanfpigaa
open Ax
theorem map_cm (l : List Cm) : (l.map cmA).map ucm = l := zaw l
theorem slot_fgL_cm (id s : Nat) (zs : List AV) : ∀ (sl : List AV) (i : Nat),slot (fgL id s zs sl) i = (slot sl i).fg id s zs
 | [],i => rfl
 | x :: sl,0 => rfl
 | x :: sl,i + 1 => slot_fgL_cm id s zs sl i
theorem g_ends_cm {T : zab} {sl : List AV} {H : Heap} {nx id n s : Nat} {ws rs : List AV} {q : Prop} (i : Nat) (h2 : slot sl i = .ms id s 0 n) (hl : Ax.look H id = some (.g s ws)) (hc : closedL ws = true) (hn : n = ws.length) (hr : rs = ws) :
   EndsW T [.tmp i] [] ⟨q,.sg s rs false,[]⟩ .ret ⟨sl,H,nx⟩ := by
 subst hn hr
 have hs : slot (fgL id s rs sl) i = .sg s rs false := by
   rw [slot_fgL_cm,h2]
   simp [AV.fg]
 refine ⟨_,weak_fg id s i rs hl hc (by rw [h2]; simp [AV.ids]),?_⟩
 simp only [Ax.Ends,Ax.rvals,EndsX,rone,hs,AV.ids,idsL,newIds,upTo,nodup,pinsOf,List.nil_append,AV.ren,renL,and_self]
theorem zca {T : zab} {sl : List AV} {H : Heap} {nx : Nat} {v : Value} {q : Prop} (i : Nat) (h : slot sl i = .w v) : EndsW T [.tmp i] [] ⟨q,.w v,[]⟩ .ret ⟨sl,H,nx⟩ := by
 refine ⟨_,Weak.refl _,?_⟩
 simp only [Ax.Ends,Ax.rvals,EndsX,rone,h,AV.ids,idsL,newIds,upTo,nodup,pinsOf,List.nil_append,AV.ren,and_self]
theorem same_len_cm {α : Type} {l k : List α} (h : l.length ≠ k.length) : ¬ l = k := fun e => h (by rw [e])
section
set_option maxRecDepth 100000
def as21S : zak
 | [.sg 4 xs f],[] => ⟨xs.length ≤ 1000000 ∧ ∃ l : List Cm,xs = l.map cmA,.sg 4 xs false,[]⟩
 | _,_ => zbf
set_option maxHeartbeats 4000000 in
theorem as21_sound : zau Try.prog 25 as21S := by
 refine zco (S := noS) (T := ty) zbb ty_ok zbr Try.func25 (c := Try.f25.body.getD .skip) (by kernel_rfl) (by kernel_rfl) (fun xs pins hp _ => ?_)
 unfold as21S at hp ⊢
 split at hp
 · rename_i xs f _
   obtain ⟨hL,l,rfl⟩ := hp
   rw [List.length_map] at hL
   have hle : (l.map cmA).length = l.length := by simp
   have ht : top = 4294967296 := rfl
   refine ⟨by simp,?_⟩
   unfold Try.f25
   simp only [go_sem,zaa,Nat.reduceAdd,Nat.reduceSub,Nat.reduceMul,Int.reduceToNat,reduceCtorEq,↓reduceIte,Int.reducePow,Nat.reducePow,Int.reduceMod,Nat.reduceLeDiff,Int.reduceLE,Int.reduceNe,Int.reduceEq,Nat.reduceEqDiff,Nat.reduceLT,Nat.reduceBEq,ty,noS,hle]
   refine awp_loopW ⟨fun m σ => ∃ j : Nat,m = l.length - j ∧ j ≤ l.length ∧
       σ = ⟨[.sg 4 (l.map cmA) f,.junk,.sg 1 [] true,.ms 4 4 0 j,.w (.int .i64 j),.junk,.junk,.junk,.junk,.junk,.junk,.junk,.junk,.junk,.junk,.junk,.junk,.junk,.junk],[(4,.g 4 ((l.take j).map cmA))],5⟩,?_,?_⟩
   · refine ⟨_,_,(weak_nil 3 4 (.g 4 []) ⟨by decide,rfl⟩ (by exact trivial)).trans (zah [0,1,2,3,28] rfl rfl rfl ?_ ?_),0,rfl,by omega,rfl⟩
     · simp only [ssT,zan,zao,setSlot,gOf,AV.ren,renL,Blk.ren,Ax.look,Ax.put,reduceCtorEq,↓reduceIte,Nat.reduceEqDiff,Nat.reduceLT,Nat.reduceAdd,List.length_append,List.length_cons,List.length_nil,Option.some.injEq]; try simp
       try rfl
     · simp only [ssT,zan,zao,setSlot,gOf,AV.ren,renL,Blk.ren,Ax.look,Ax.put,reduceCtorEq,↓reduceIte,Nat.reduceEqDiff,Nat.reduceLT,Nat.reduceAdd,List.length_append,List.length_cons,List.length_nil,Option.some.injEq]; try simp [renL]
   · rintro m σ ⟨j,rfl,hi,rfl⟩
     have e1 : ((j : Int) + 1 + 9223372036854775808) % 18446744073709551616 - 9223372036854775808 = ((j + 1 : Nat) : Int) := by omega
     have hml : ((l.take j).map cmA).length = j := by simp; omega
     by_cases hil : j < l.length
     · have d1 : decide ((j : Int) < l.length) = true := decide_eq_true (by omega)
       have hs1 := zdc l j hil
       have htk : l.take (j + 1) = l.take j ++ [l[j]] := List.take_succ_eq_append_getElem hil
       obtain ⟨r,hr⟩ : ∃ r,l[j] = r := ⟨_,rfl⟩
       rw [hr] at hs1 htk
       obtain ⟨g,t,i,o⟩ := r
       have hs1 : slot (l.map cmA) j = .agg [.str g,.str t,.w (.int .i64 i),.w (.int .i64 o)] := hs1
       have hat : (l.take j).map cmA ++ [.agg [.str g,.str t,.w (.int .i64 i),.w (.int .i64 o)]] = (l.take (j + 1)).map cmA := by rw [htk,List.map_append]; rfl
       simp only [go_sem,zaa,Nat.reduceAdd,Nat.reduceSub,Nat.reduceMul,Int.reduceToNat,reduceCtorEq,↓reduceIte,Int.reducePow,Nat.reducePow,Int.reduceMod,Nat.reduceLeDiff,Int.reduceLE,Int.reduceNe,Int.reduceEq,Nat.reduceEqDiff,Nat.reduceLT,Nat.reduceBEq,ty,noS,hle,hml,d1,hs1,e1,Int.toNat_natCast,hat]
       repeat (refine And.intro (by first | omega | decide) ?_)
       refine ⟨l.length - (j + 1),_,by omega,zah [0,1,2,3,85] rfl rfl rfl ?_ ?_,j + 1,rfl,by omega,rfl⟩
       · simp only [ssT,zan,zao,setSlot,gOf,AV.ren,renL,Blk.ren,Ax.look,Ax.put,reduceCtorEq,↓reduceIte,Nat.reduceEqDiff,Nat.reduceLT,Nat.reduceAdd,List.length_append,List.length_cons,List.length_nil,Option.some.injEq]; try simp
       · simp only [ssT,zan,zao,setSlot,gOf,AV.ren,renL,Blk.ren,Ax.look,Ax.put,reduceCtorEq,↓reduceIte,Nat.reduceEqDiff,Nat.reduceLT,Nat.reduceAdd,List.length_append,List.length_cons,List.length_nil,Option.some.injEq,zbl]; try simp
     · have d1 : decide ((j : Int) < l.length) = false := decide_eq_false (by omega)
       have hii : l.take j = l := List.take_of_length_le (by omega)
       rw [hii] at hml ⊢
       simp only [go_sem,zaa,Nat.reduceAdd,Nat.reduceSub,Nat.reduceMul,Int.reduceToNat,reduceCtorEq,↓reduceIte,Int.reducePow,Nat.reducePow,Int.reduceMod,Nat.reduceLeDiff,Int.reduceLE,Int.reduceNe,Int.reduceEq,Nat.reduceEqDiff,Nat.reduceLT,Nat.reduceBEq,ty,noS,hle,d1]
       refine ⟨_,Weak.refl _,?_⟩
       simp only [go_sem,zaa,Nat.reduceAdd,Nat.reduceSub,Nat.reduceMul,Int.reduceToNat,reduceCtorEq,↓reduceIte,Int.reducePow,Nat.reducePow,Int.reduceMod,Nat.reduceLeDiff,Int.reduceLE,Int.reduceNe,Int.reduceEq,Nat.reduceEqDiff,Nat.reduceLT,Nat.reduceBEq,ty,noS]
       exact g_ends_cm 2 rfl rfl (zal l) hml.symm rfl
 · exact hp.elim
def own21S : zak
 | [.sg 4 xs f],[] => ⟨xs.length ≤ 1000000 ∧ ∃ l : List Cm,xs = l.map cmA,.sg 4 xs false,[]⟩
 | _,_ => zbf
set_option maxHeartbeats 4000000 in
theorem own21_sound : zau Try.prog 20 own21S := by
 refine zco (S := noS) (T := ty) zbb ty_ok zbr Try.func20 (c := Try.f20.body.getD .skip) (by kernel_rfl) (by kernel_rfl) (fun xs pins hp _ => ?_)
 unfold own21S at hp ⊢
 split at hp
 · rename_i xs f _
   obtain ⟨hL,l,rfl⟩ := hp
   rw [List.length_map] at hL
   have hle : (l.map cmA).length = l.length := by simp
   have ht : top = 4294967296 := rfl
   refine ⟨by simp,?_⟩
   unfold Try.f20
   simp only [go_sem,zaa,Nat.reduceAdd,Nat.reduceSub,Nat.reduceMul,Int.reduceToNat,reduceCtorEq,↓reduceIte,Int.reducePow,Nat.reducePow,Int.reduceMod,Nat.reduceLeDiff,Int.reduceLE,Int.reduceNe,Int.reduceEq,Nat.reduceEqDiff,Nat.reduceLT,Nat.reduceBEq,ty,noS,hle]
   refine awp_loopW ⟨fun m σ => ∃ j : Nat,m = l.length - j ∧ j ≤ l.length ∧
       σ = ⟨[.sg 4 (l.map cmA) f,.junk,.sg 1 [] true,.ms 4 4 0 j,.w (.int .i64 j),.junk,.junk,.junk,.junk,.junk,.junk,.junk,.junk,.junk,.junk,.junk,.junk,.junk,.junk],[(4,.g 4 ((l.take j).map cmA))],5⟩,?_,?_⟩
   · refine ⟨_,_,(weak_nil 3 4 (.g 4 []) ⟨by decide,rfl⟩ (by exact trivial)).trans (zah [0,1,2,3,28] rfl rfl rfl ?_ ?_),0,rfl,by omega,rfl⟩
     · simp only [ssT,zan,zao,setSlot,gOf,AV.ren,renL,Blk.ren,Ax.look,Ax.put,reduceCtorEq,↓reduceIte,Nat.reduceEqDiff,Nat.reduceLT,Nat.reduceAdd,List.length_append,List.length_cons,List.length_nil,Option.some.injEq]; try simp
       try rfl
     · simp only [ssT,zan,zao,setSlot,gOf,AV.ren,renL,Blk.ren,Ax.look,Ax.put,reduceCtorEq,↓reduceIte,Nat.reduceEqDiff,Nat.reduceLT,Nat.reduceAdd,List.length_append,List.length_cons,List.length_nil,Option.some.injEq]; try simp [renL]
   · rintro m σ ⟨j,rfl,hi,rfl⟩
     have e1 : ((j : Int) + 1 + 9223372036854775808) % 18446744073709551616 - 9223372036854775808 = ((j + 1 : Nat) : Int) := by omega
     have hml : ((l.take j).map cmA).length = j := by simp; omega
     by_cases hil : j < l.length
     · have d1 : decide ((j : Int) < l.length) = true := decide_eq_true (by omega)
       have hs1 := zdc l j hil
       have htk : l.take (j + 1) = l.take j ++ [l[j]] := List.take_succ_eq_append_getElem hil
       obtain ⟨r,hr⟩ : ∃ r,l[j] = r := ⟨_,rfl⟩
       rw [hr] at hs1 htk
       obtain ⟨g,t,i,o⟩ := r
       have hs1 : slot (l.map cmA) j = .agg [.str g,.str t,.w (.int .i64 i),.w (.int .i64 o)] := hs1
       have hat : (l.take j).map cmA ++ [.agg [.str g,.str t,.w (.int .i64 i),.w (.int .i64 o)]] = (l.take (j + 1)).map cmA := by rw [htk,List.map_append]; rfl
       simp only [go_sem,zaa,Nat.reduceAdd,Nat.reduceSub,Nat.reduceMul,Int.reduceToNat,reduceCtorEq,↓reduceIte,Int.reducePow,Nat.reducePow,Int.reduceMod,Nat.reduceLeDiff,Int.reduceLE,Int.reduceNe,Int.reduceEq,Nat.reduceEqDiff,Nat.reduceLT,Nat.reduceBEq,ty,noS,hle,hml,d1,hs1,e1,Int.toNat_natCast,hat]
       repeat (refine And.intro (by first | omega | decide) ?_)
       refine ⟨l.length - (j + 1),_,by omega,zah [0,1,2,3,85] rfl rfl rfl ?_ ?_,j + 1,rfl,by omega,rfl⟩
       · simp only [ssT,zan,zao,setSlot,gOf,AV.ren,renL,Blk.ren,Ax.look,Ax.put,reduceCtorEq,↓reduceIte,Nat.reduceEqDiff,Nat.reduceLT,Nat.reduceAdd,List.length_append,List.length_cons,List.length_nil,Option.some.injEq]; try simp
       · simp only [ssT,zan,zao,setSlot,gOf,AV.ren,renL,Blk.ren,Ax.look,Ax.put,reduceCtorEq,↓reduceIte,Nat.reduceEqDiff,Nat.reduceLT,Nat.reduceAdd,List.length_append,List.length_cons,List.length_nil,Option.some.injEq,zbl]; try simp
     · have d1 : decide ((j : Int) < l.length) = false := decide_eq_false (by omega)
       have hii : l.take j = l := List.take_of_length_le (by omega)
       rw [hii] at hml ⊢
       simp only [go_sem,zaa,Nat.reduceAdd,Nat.reduceSub,Nat.reduceMul,Int.reduceToNat,reduceCtorEq,↓reduceIte,Int.reducePow,Nat.reducePow,Int.reduceMod,Nat.reduceLeDiff,Int.reduceLE,Int.reduceNe,Int.reduceEq,Nat.reduceEqDiff,Nat.reduceLT,Nat.reduceBEq,ty,noS,hle,d1]
       refine ⟨_,Weak.refl _,?_⟩
       simp only [go_sem,zaa,Nat.reduceAdd,Nat.reduceSub,Nat.reduceMul,Int.reduceToNat,reduceCtorEq,↓reduceIte,Int.reducePow,Nat.reducePow,Int.reduceMod,Nat.reduceLeDiff,Int.reduceLE,Int.reduceNe,Int.reduceEq,Nat.reduceEqDiff,Nat.reduceLT,Nat.reduceBEq,ty,noS]
       exact g_ends_cm 2 rfl rfl (zal l) hml.symm rfl
 · exact hp.elim
end
theorem eq_cm_dec (g1 g2 : List UInt8) (t1 t2 : List UInt8) (i1 i2 : Int) (o1 o2 : Int) :
   (decide (g1 = g2) && (decide (t1 = t2) && (decide (i1 = i2) && (decide (o1 = o2))))) = decide ((⟨g1,t1,i1,o1⟩ : Cm) = ⟨g2,t2,i2,o2⟩) := by
 simp only [Cm.mk.injEq,Bool.decide_and]
theorem same_drop_cm {l k : List Cm} {i : Nat} (h1 : i < l.length) (h2 : i < k.length) : (l.drop i = k.drop i) = (l[i] = k[i] ∧ l.drop (i + 1) = k.drop (i + 1)) := by
 rw [List.drop_eq_getElem_cons h1,List.drop_eq_getElem_cons h2,List.cons.injEq]
section
set_option maxRecDepth 100000
def rsame21S : zak
 | [.sg 4 xs f,.sg 4 ys g],[] => ⟨xs.length ≤ 9223372036854775807 ∧ ys.length ≤ 9223372036854775807 ∧ (∃ l : List Cm,xs = l.map cmA) ∧ ∃ k : List Cm,ys = k.map cmA,.w (.bool (decide (xs.map ucm = ys.map ucm))),[]⟩
 | _,_ => zbf
def zdx : Plan := fun id => match id with
 | 6 => some []
 | _ => none
set_option maxHeartbeats 4000000 in
theorem rsame21_sound : zau Try.prog 24 rsame21S := by
 refine fn_soundF (S := noS) (T := ty) (pl := zdx) zbb ty_ok zbr Try.func24 (c := Try.f24.body.getD .skip) (by kernel_rfl) (by kernel_rfl) (fun xs pins hp _ => ?_)
 unfold rsame21S at hp ⊢
 split at hp
 · rename_i xs f ys g _
   obtain ⟨hL,hK,⟨l,rfl⟩,k,rfl⟩ := hp
   rw [List.length_map] at hL hK
   have hle : (l.map cmA).length = l.length := by simp
   have hke : (k.map cmA).length = k.length := by simp
   rw [map_cm,map_cm]
   refine ⟨by simp,?_⟩
   unfold Try.f24
   by_cases hn : l.length = k.length
   · have d1 : decide ((l.length : Int) = k.length) = true := decide_eq_true (by omega)
     simp only [go_sem,coe,zad,Nat.reduceAdd,Nat.reduceSub,Nat.reduceMul,Int.reduceToNat,reduceCtorEq,↓reduceIte,Int.reducePow,Nat.reducePow,Int.reduceMod,Nat.reduceLeDiff,Int.reduceLE,Int.reduceNe,Int.reduceEq,Nat.reduceEqDiff,Nat.reduceLT,Nat.reduceBEq,List.map_cons,List.map_nil,List.toList_toArray,Array.toList_append,Option.toArray_some,Option.toArray_none,Bool.and_self,ty,noS,zdx,hle,hke,d1]
     refine awpF_loopW ⟨fun m σ => ∃ j : Nat,m = l.length - j ∧ j ≤ l.length ∧ (l.drop j = k.drop j) = (l = k) ∧
       σ = ⟨[.sg 4 (l.map cmA) f,.sg 4 (k.map cmA) g,.junk,.junk,.junk,.w (.int .i64 j),.junk,.junk,.junk,.junk,.junk,.junk,.junk,.junk,.junk,.junk,.junk,.junk,.junk,.junk,.junk,.junk,.junk,.junk,.junk,.junk],[],4⟩,?_,?_⟩
     · refine ⟨_,_,zah [0,1,2,3] rfl rfl rfl ?_ ?_,0,rfl,by omega,rfl,rfl⟩
       · simp only [ssT,zan,zao,setSlot,gOf,AV.ren,renL,Blk.ren,Ax.look,Ax.put,reduceCtorEq,↓reduceIte,Nat.reduceEqDiff,Nat.reduceLT,Nat.reduceAdd,List.length_append,List.length_cons,List.length_nil,Option.some.injEq]; try simp
       · simp only [ssT,zan,zao,setSlot,gOf,AV.ren,renL,Blk.ren,Ax.look,Ax.put,reduceCtorEq,↓reduceIte,Nat.reduceEqDiff,Nat.reduceLT,Nat.reduceAdd,List.length_append,List.length_cons,List.length_nil,Option.some.injEq]
     · rintro m σ ⟨j,rfl,hi,hs,rfl⟩
       by_cases hil : j < l.length
       · have d2 : decide ((j : Int) < l.length) = true := decide_eq_true (by omega)
         have e1 : ((j : Int) + 1 + 9223372036854775808) % 18446744073709551616 - 9223372036854775808 = ((j + 1 : Nat) : Int) := by omega
         have hs1 := zdc l j hil
         have hs2 := zdc k j (by omega)
         have hd := same_drop_cm hil (show j < k.length by omega)
         rw [hs] at hd
         obtain ⟨p,hp1⟩ : ∃ y,l[j] = y := ⟨_,rfl⟩
         obtain ⟨q,hq1⟩ : ∃ y,k[j]'(by omega) = y := ⟨_,rfl⟩
         rw [hp1] at hs1 hd
         rw [hq1] at hs2 hd
         obtain ⟨g1,t1,i1,o1⟩ := p
         obtain ⟨g2,t2,i2,o2⟩ := q
         have hs1 : slot (l.map cmA) j = .agg [.str g1,.str t1,.w (.int .i64 i1),.w (.int .i64 o1)] := hs1
         have hs2 : slot (k.map cmA) j = .agg [.str g2,.str t2,.w (.int .i64 i2),.w (.int .i64 o2)] := hs2
         by_cases he : (⟨g1,t1,i1,o1⟩ : Cm) = ⟨g2,t2,i2,o2⟩
         · have d3 := decide_eq_true he
           simp only [he,true_and] at hd
           simp only [go_sem,coe,zad,Nat.reduceAdd,Nat.reduceSub,Nat.reduceMul,Int.reduceToNat,reduceCtorEq,↓reduceIte,Int.reducePow,Nat.reducePow,Int.reduceMod,Nat.reduceLeDiff,Int.reduceLE,Int.reduceNe,Int.reduceEq,Nat.reduceEqDiff,Nat.reduceLT,Nat.reduceBEq,List.map_cons,List.map_nil,List.toList_toArray,Array.toList_append,Option.toArray_some,Option.toArray_none,Bool.and_self,ty,noS,zdx,hle,hke,d2,e1,hs1,hs2,eq_cm_dec,d3,Int.toNat_natCast]
           repeat (refine And.intro (by omega) ?_)
           refine ⟨l.length - (j + 1),_,by omega,zah [0,1,2,3] rfl rfl rfl ?_ ?_,j + 1,rfl,by omega,hd.symm,rfl⟩
           · simp only [ssT,zan,zao,setSlot,gOf,AV.ren,renL,Blk.ren,Ax.look,Ax.put,reduceCtorEq,↓reduceIte,Nat.reduceEqDiff,Nat.reduceLT,Nat.reduceAdd,List.length_append,List.length_cons,List.length_nil,Option.some.injEq]
           · simp only [ssT,zan,zao,setSlot,gOf,AV.ren,renL,Blk.ren,Ax.look,Ax.put,reduceCtorEq,↓reduceIte,Nat.reduceEqDiff,Nat.reduceLT,Nat.reduceAdd,List.length_append,List.length_cons,List.length_nil,Option.some.injEq]
         · have d3 := decide_eq_false he
           have hno : decide (l = k) = false := decide_eq_false (by rw [hd]; exact fun h => he h.1)
           rw [hno]
           simp only [go_sem,coe,zad,Nat.reduceAdd,Nat.reduceSub,Nat.reduceMul,Int.reduceToNat,reduceCtorEq,↓reduceIte,Int.reducePow,Nat.reducePow,Int.reduceMod,Nat.reduceLeDiff,Int.reduceLE,Int.reduceNe,Int.reduceEq,Nat.reduceEqDiff,Nat.reduceLT,Nat.reduceBEq,List.map_cons,List.map_nil,List.toList_toArray,Array.toList_append,Option.toArray_some,Option.toArray_none,Bool.and_self,ty,noS,zdx,hle,hke,d2,e1,hs1,hs2,eq_cm_dec,d3,Int.toNat_natCast]
           repeat (refine And.intro (by omega) ?_)
           refine ⟨_,Weak.refl _,?_⟩
           simp only [go_sem,coe,zad,Nat.reduceAdd,Nat.reduceSub,Nat.reduceMul,Int.reduceToNat,reduceCtorEq,↓reduceIte,Int.reducePow,Nat.reducePow,Int.reduceMod,Nat.reduceLeDiff,Int.reduceLE,Int.reduceNe,Int.reduceEq,Nat.reduceEqDiff,Nat.reduceLT,Nat.reduceBEq,List.map_cons,List.map_nil,List.toList_toArray,Array.toList_append,Option.toArray_some,Option.toArray_none,Bool.and_self,ty,noS,zdx]
           exact zca 4 rfl
       · have d2 : decide ((j : Int) < l.length) = false := decide_eq_false (by omega)
         have : decide (l = k) = true := by
           refine decide_eq_true ?_
           rw [← hs,List.drop_of_length_le (by omega),List.drop_of_length_le (by omega)]
         rw [this]
         simp only [go_sem,coe,zad,Nat.reduceAdd,Nat.reduceSub,Nat.reduceMul,Int.reduceToNat,reduceCtorEq,↓reduceIte,Int.reducePow,Nat.reducePow,Int.reduceMod,Nat.reduceLeDiff,Int.reduceLE,Int.reduceNe,Int.reduceEq,Nat.reduceEqDiff,Nat.reduceLT,Nat.reduceBEq,List.map_cons,List.map_nil,List.toList_toArray,Array.toList_append,Option.toArray_some,Option.toArray_none,Bool.and_self,ty,noS,zdx,hle,hke,d2]
         refine ⟨_,Weak.refl _,?_⟩
         simp only [go_sem,coe,zad,Nat.reduceAdd,Nat.reduceSub,Nat.reduceMul,Int.reduceToNat,reduceCtorEq,↓reduceIte,Int.reducePow,Nat.reducePow,Int.reduceMod,Nat.reduceLeDiff,Int.reduceLE,Int.reduceNe,Int.reduceEq,Nat.reduceEqDiff,Nat.reduceLT,Nat.reduceBEq,List.map_cons,List.map_nil,List.toList_toArray,Array.toList_append,Option.toArray_some,Option.toArray_none,Bool.and_self,ty,noS,zdx]
         exact zca 4 rfl
   · have d1 : decide ((l.length : Int) = k.length) = false := decide_eq_false (by omega)
     rw [decide_eq_false (same_len_cm hn)]
     simp only [go_sem,coe,zad,Nat.reduceAdd,Nat.reduceSub,Nat.reduceMul,Int.reduceToNat,reduceCtorEq,↓reduceIte,Int.reducePow,Nat.reducePow,Int.reduceMod,Nat.reduceLeDiff,Int.reduceLE,Int.reduceNe,Int.reduceEq,Nat.reduceEqDiff,Nat.reduceLT,Nat.reduceBEq,List.map_cons,List.map_nil,List.toList_toArray,Array.toList_append,Option.toArray_some,Option.toArray_none,Bool.and_self,ty,noS,zdx,hle,hke,d1]
     exact zca 4 rfl
 · exact hp.elim
def equal21S : zak
 | [.sg 4 xs f,.sg 4 ys g],[] => ⟨xs.length ≤ 9223372036854775807 ∧ ys.length ≤ 9223372036854775807 ∧ (∃ l : List Cm,xs = l.map cmA) ∧ ∃ k : List Cm,ys = k.map cmA,.w (.bool (decide (xs.map ucm = ys.map ucm))),[]⟩
 | _,_ => zbf
def zec : Plan := fun id => match id with
 | 6 => some []
 | _ => none
set_option maxHeartbeats 4000000 in
theorem equal21_sound : zau Try.prog 47 equal21S := by
 refine fn_soundF (S := noS) (T := ty) (pl := zec) zbb ty_ok zbr Try.func47 (c := Try.f47.body.getD .skip) (by kernel_rfl) (by kernel_rfl) (fun xs pins hp _ => ?_)
 unfold equal21S at hp ⊢
 split at hp
 · rename_i xs f ys g _
   obtain ⟨hL,hK,⟨l,rfl⟩,k,rfl⟩ := hp
   rw [List.length_map] at hL hK
   have hle : (l.map cmA).length = l.length := by simp
   have hke : (k.map cmA).length = k.length := by simp
   rw [map_cm,map_cm]
   refine ⟨by simp,?_⟩
   unfold Try.f47
   by_cases hn : l.length = k.length
   · have d1 : decide ((l.length : Int) = k.length) = true := decide_eq_true (by omega)
     simp only [go_sem,coe,zad,Nat.reduceAdd,Nat.reduceSub,Nat.reduceMul,Int.reduceToNat,reduceCtorEq,↓reduceIte,Int.reducePow,Nat.reducePow,Int.reduceMod,Nat.reduceLeDiff,Int.reduceLE,Int.reduceNe,Int.reduceEq,Nat.reduceEqDiff,Nat.reduceLT,Nat.reduceBEq,List.map_cons,List.map_nil,List.toList_toArray,Array.toList_append,Option.toArray_some,Option.toArray_none,Bool.and_self,ty,noS,zec,hle,hke,d1]
     refine awpF_loopW ⟨fun m σ => ∃ j : Nat,m = l.length - j ∧ j ≤ l.length ∧ (l.drop j = k.drop j) = (l = k) ∧
       σ = ⟨[.sg 4 (l.map cmA) f,.sg 4 (k.map cmA) g,.junk,.junk,.junk,.junk,.junk,.junk,.junk,.junk,.junk,.junk,.w (.int .i64 l.length),.w (.int .i64 j),.junk,.junk,.junk,.junk,.junk,.junk,.junk,.junk,.junk,.junk,.junk,.junk],[],4⟩,?_,?_⟩
     · refine ⟨_,_,zah [0,1,2,3] rfl rfl rfl ?_ ?_,0,rfl,by omega,rfl,rfl⟩
       · simp only [ssT,zan,zao,setSlot,gOf,AV.ren,renL,Blk.ren,Ax.look,Ax.put,reduceCtorEq,↓reduceIte,Nat.reduceEqDiff,Nat.reduceLT,Nat.reduceAdd,List.length_append,List.length_cons,List.length_nil,Option.some.injEq]; try simp
       · simp only [ssT,zan,zao,setSlot,gOf,AV.ren,renL,Blk.ren,Ax.look,Ax.put,reduceCtorEq,↓reduceIte,Nat.reduceEqDiff,Nat.reduceLT,Nat.reduceAdd,List.length_append,List.length_cons,List.length_nil,Option.some.injEq]
     · rintro m σ ⟨j,rfl,hi,hs,rfl⟩
       by_cases hil : j < l.length
       · have d2 : decide ((j : Int) < l.length) = true := decide_eq_true (by omega)
         have e1 : ((j : Int) + 1 + 9223372036854775808) % 18446744073709551616 - 9223372036854775808 = ((j + 1 : Nat) : Int) := by omega
         have hs1 := zdc l j hil
         have hs2 := zdc k j (by omega)
         have hd := same_drop_cm hil (show j < k.length by omega)
         rw [hs] at hd
         obtain ⟨p,hp1⟩ : ∃ y,l[j] = y := ⟨_,rfl⟩
         obtain ⟨q,hq1⟩ : ∃ y,k[j]'(by omega) = y := ⟨_,rfl⟩
         rw [hp1] at hs1 hd
         rw [hq1] at hs2 hd
         obtain ⟨g1,t1,i1,o1⟩ := p
         obtain ⟨g2,t2,i2,o2⟩ := q
         have hs1 : slot (l.map cmA) j = .agg [.str g1,.str t1,.w (.int .i64 i1),.w (.int .i64 o1)] := hs1
         have hs2 : slot (k.map cmA) j = .agg [.str g2,.str t2,.w (.int .i64 i2),.w (.int .i64 o2)] := hs2
         by_cases he : (⟨g1,t1,i1,o1⟩ : Cm) = ⟨g2,t2,i2,o2⟩
         · have d3 := decide_eq_true he
           simp only [he,true_and] at hd
           simp only [go_sem,coe,zad,Nat.reduceAdd,Nat.reduceSub,Nat.reduceMul,Int.reduceToNat,reduceCtorEq,↓reduceIte,Int.reducePow,Nat.reducePow,Int.reduceMod,Nat.reduceLeDiff,Int.reduceLE,Int.reduceNe,Int.reduceEq,Nat.reduceEqDiff,Nat.reduceLT,Nat.reduceBEq,List.map_cons,List.map_nil,List.toList_toArray,Array.toList_append,Option.toArray_some,Option.toArray_none,Bool.and_self,ty,noS,zec,hle,hke,d2,e1,hs1,hs2,eq_cm_dec,d3,Int.toNat_natCast]
           repeat (refine And.intro (by omega) ?_)
           refine ⟨l.length - (j + 1),_,by omega,zah [0,1,2,3] rfl rfl rfl ?_ ?_,j + 1,rfl,by omega,hd.symm,rfl⟩
           · simp only [ssT,zan,zao,setSlot,gOf,AV.ren,renL,Blk.ren,Ax.look,Ax.put,reduceCtorEq,↓reduceIte,Nat.reduceEqDiff,Nat.reduceLT,Nat.reduceAdd,List.length_append,List.length_cons,List.length_nil,Option.some.injEq]
           · simp only [ssT,zan,zao,setSlot,gOf,AV.ren,renL,Blk.ren,Ax.look,Ax.put,reduceCtorEq,↓reduceIte,Nat.reduceEqDiff,Nat.reduceLT,Nat.reduceAdd,List.length_append,List.length_cons,List.length_nil,Option.some.injEq]
         · have d3 := decide_eq_false he
           have hno : decide (l = k) = false := decide_eq_false (by rw [hd]; exact fun h => he h.1)
           rw [hno]
           simp only [go_sem,coe,zad,Nat.reduceAdd,Nat.reduceSub,Nat.reduceMul,Int.reduceToNat,reduceCtorEq,↓reduceIte,Int.reducePow,Nat.reducePow,Int.reduceMod,Nat.reduceLeDiff,Int.reduceLE,Int.reduceNe,Int.reduceEq,Nat.reduceEqDiff,Nat.reduceLT,Nat.reduceBEq,List.map_cons,List.map_nil,List.toList_toArray,Array.toList_append,Option.toArray_some,Option.toArray_none,Bool.and_self,ty,noS,zec,hle,hke,d2,e1,hs1,hs2,eq_cm_dec,d3,Int.toNat_natCast]
           repeat (refine And.intro (by omega) ?_)
           refine ⟨_,Weak.refl _,?_⟩
           simp only [go_sem,coe,zad,Nat.reduceAdd,Nat.reduceSub,Nat.reduceMul,Int.reduceToNat,reduceCtorEq,↓reduceIte,Int.reducePow,Nat.reducePow,Int.reduceMod,Nat.reduceLeDiff,Int.reduceLE,Int.reduceNe,Int.reduceEq,Nat.reduceEqDiff,Nat.reduceLT,Nat.reduceBEq,List.map_cons,List.map_nil,List.toList_toArray,Array.toList_append,Option.toArray_some,Option.toArray_none,Bool.and_self,ty,noS,zec]
           exact zca 4 rfl
       · have d2 : decide ((j : Int) < l.length) = false := decide_eq_false (by omega)
         have : decide (l = k) = true := by
           refine decide_eq_true ?_
           rw [← hs,List.drop_of_length_le (by omega),List.drop_of_length_le (by omega)]
         rw [this]
         simp only [go_sem,coe,zad,Nat.reduceAdd,Nat.reduceSub,Nat.reduceMul,Int.reduceToNat,reduceCtorEq,↓reduceIte,Int.reducePow,Nat.reducePow,Int.reduceMod,Nat.reduceLeDiff,Int.reduceLE,Int.reduceNe,Int.reduceEq,Nat.reduceEqDiff,Nat.reduceLT,Nat.reduceBEq,List.map_cons,List.map_nil,List.toList_toArray,Array.toList_append,Option.toArray_some,Option.toArray_none,Bool.and_self,ty,noS,zec,hle,hke,d2]
         refine ⟨_,Weak.refl _,?_⟩
         simp only [go_sem,coe,zad,Nat.reduceAdd,Nat.reduceSub,Nat.reduceMul,Int.reduceToNat,reduceCtorEq,↓reduceIte,Int.reducePow,Nat.reducePow,Int.reduceMod,Nat.reduceLeDiff,Int.reduceLE,Int.reduceNe,Int.reduceEq,Nat.reduceEqDiff,Nat.reduceLT,Nat.reduceBEq,List.map_cons,List.map_nil,List.toList_toArray,Array.toList_append,Option.toArray_some,Option.toArray_none,Bool.and_self,ty,noS,zec]
         exact zca 4 rfl
   · have d1 : decide ((l.length : Int) = k.length) = false := decide_eq_false (by omega)
     rw [decide_eq_false (same_len_cm hn)]
     simp only [go_sem,coe,zad,Nat.reduceAdd,Nat.reduceSub,Nat.reduceMul,Int.reduceToNat,reduceCtorEq,↓reduceIte,Int.reducePow,Nat.reducePow,Int.reduceMod,Nat.reduceLeDiff,Int.reduceLE,Int.reduceNe,Int.reduceEq,Nat.reduceEqDiff,Nat.reduceLT,Nat.reduceBEq,List.map_cons,List.map_nil,List.toList_toArray,Array.toList_append,Option.toArray_some,Option.toArray_none,Bool.and_self,ty,noS,zec,hle,hke,d1]
     exact zca 4 rfl
 · exact hp.elim
def Sequal21 (f : FuncId) : Option zak :=
 match f with
 | 47 => some equal21S
 | _ => none
theorem Sequal21_ok : Fns Try.prog Sequal21 := by
 intro f s h
 unfold Sequal21 at h
 split at h
 · injection h with h; subst h; exact ⟨⟨_,Try.func47,by kernel_rfl,by kernel_rfl⟩,equal21_sound⟩
 · cases h
theorem same21_sound : zau Try.prog 27 equal21S := by
 refine zco (S := Sequal21) (T := ty) zbb ty_ok Sequal21_ok Try.func27 (c := Try.f27.body.getD .skip) (by kernel_rfl) (by kernel_rfl) (fun xs pins hp _ => ?_)
 unfold equal21S at hp ⊢
 split at hp
 · rename_i xs f ys g _
   obtain ⟨hL,hK,⟨l,rfl⟩,k,rfl⟩ := hp
   have hx : ∃ q : List Cm,l.map cmA = q.map cmA := ⟨l,rfl⟩
   have hy : ∃ q : List Cm,k.map cmA = q.map cmA := ⟨k,rfl⟩
   rw [map_cm,map_cm]
   refine ⟨by simp,?_⟩
   obtain ⟨D,hD⟩ : ∃ D,decide (l = k) = D := ⟨_,rfl⟩
   unfold Try.f27
   simp only [go_sem,zaa,Nat.reduceAdd,Nat.reduceSub,Nat.reduceMul,Int.reduceToNat,reduceCtorEq,↓reduceIte,Int.reducePow,Nat.reducePow,Int.reduceMod,Nat.reduceLeDiff,Int.reduceLE,Int.reduceNe,Int.reduceEq,Nat.reduceEqDiff,Nat.reduceLT,Nat.reduceBEq,ty,Sequal21,equal21S,hL,hK,hx,hy,map_cm,hD,coe_cm]
   exact zca 4 rfl
 · exact hp.elim
end
end Go.Proofs.Ytnmomgcanfpigaa
namespace Go.Proofs.Ytnmomgcanfpigaa
open Ax
theorem bl_irr : ∀ g : List UInt8,Op.bytesLess g g = false
 | [] => rfl
 | a :: r => by
   have h1 : ¬ a < a := by simp
   simp [Op.bytesLess,bl_irr r,h1]
def ordB (B1 D1 B2 D2 B3 D3 : Bool) : Int := if (B1 || (D1 && (B2 || (D2 && B3)))) = true then -1 else if (D1 && (D2 && D3)) = true then 0 else 1
def ordK (g t : List UInt8) (i : Int) (g2 t2 : List UInt8) (i2 : Int) : Int := ordB (Op.bytesLess g g2) (decide (g = g2)) (Op.bytesLess t t2) (decide (t = t2)) (decide (i < i2)) (decide (i = i2))
theorem ord_lt (g t : List UInt8) (i : Int) (g2 t2 : List UInt8) (i2 : Int) : decide (ordK g t i g2 t2 i2 < 0) = ahdK g t i g2 t2 i2 := by
 unfold ordK ahdK
 by_cases h1 : g = g2
 · subst h1
   rw [if_pos rfl,bl_irr,decide_eq_true rfl]
   by_cases h2 : t = t2
   · subst h2
     rw [if_pos rfl,bl_irr,decide_eq_true rfl]
     cases decide (i < i2) <;> cases decide (i = i2) <;> rfl
   · rw [if_neg h2,decide_eq_false h2]
     cases Op.bytesLess t t2 <;> cases decide (i < i2) <;> cases decide (i = i2) <;> rfl
 · rw [if_neg h1,decide_eq_false h1]
   cases Op.bytesLess g g2 <;> cases Op.bytesLess t t2 <;> cases decide (t = t2) <;> cases decide (i < i2) <;> cases decide (i = i2) <;> rfl
theorem ord_eq (g t : List UInt8) (i : Int) (g2 t2 : List UInt8) (i2 : Int) : decide (ordK g t i g2 t2 i2 = 0) = sameK g t i g2 t2 i2 := by
 unfold ordK sameK
 by_cases h1 : g = g2
 · subst h1
   rw [bl_irr,decide_eq_true rfl]
   by_cases h2 : t = t2
   · subst h2
     rw [bl_irr,decide_eq_true rfl]
     by_cases h3 : i = i2
     · rw [decide_eq_true h3,decide_eq_false (show ¬ i < i2 by omega)]; rfl
     · rw [decide_eq_false h3]
       cases decide (i < i2) <;> rfl
   · rw [decide_eq_false h2]
     cases Op.bytesLess t t2 <;> cases decide (i < i2) <;> cases decide (i = i2) <;> rfl
 · rw [decide_eq_false h1]
   cases Op.bytesLess g g2 <;> cases Op.bytesLess t t2 <;> cases decide (t = t2) <;> cases decide (i < i2) <;> cases decide (i = i2) <;> rfl
def ordS : zak
 | [.agg [.str g,.str t,.w (.int .i64 i),.w (.int .i64 o)],.agg [.str g2,.str t2,.w (.int .i64 i2),.w (.int .i64 o2)]],[] => ⟨True,.w (.int .i64 (ordK g t i g2 t2 i2)),[]⟩
 | _,_ => zbf
def fdO (c : Cm) (l : List Cm) : Int := ((l[fndI c l]?).getD zC).o
def fdB (c : Cm) (l : List Cm) : Bool := decide (fndI c l < l.length)
def findS : zak
 | [.sg 4 xs f,.str g,.str t,.w (.int .i64 i)],[] => ⟨xs.length ≤ 9223372036854775807 ∧ ∃ l : List Cm,xs = l.map cmA,.tup [.w (.int .i64 (fdO ⟨g,t,i,0⟩ (xs.map ucm))),.w (.bool (fdB ⟨g,t,i,0⟩ (xs.map ucm)))],[]⟩
 | _,_ => zbf
theorem w2_ends {T : zab} {sl : List AV} {H : Heap} {nx : Nat} {u v : Value} {q : Prop} (i j : Nat) (h : slot sl i = .w u) (h2 : slot sl j = .w v) : EndsW T [.tmp i,.tmp j] [] ⟨q,.tup [.w u,.w v],[]⟩ .ret ⟨sl,H,nx⟩ := by
 refine ⟨_,Weak.refl _,?_⟩
 simp only [Ax.Ends,Ax.rvals,EndsX,rone,h,h2,AV.ids,idsL,newIds,upTo,nodup,pinsOf,List.nil_append,AV.ren,renL,and_self,List.append_nil]
section
set_option maxRecDepth 100000
set_option maxHeartbeats 8000000 in
theorem ord_sound : zau Try.prog 70 ordS := by
 refine zco (S := noS) (T := ty) zbb ty_ok zbr Try.func70 (c := Try.f70.body.getD .skip) (by kernel_rfl) (by kernel_rfl) (fun xs pins hp _ => ?_)
 unfold ordS at hp ⊢
 split at hp
 · rename_i g t i o g2 t2 i2 o2 _
   refine ⟨by simp,?_⟩
   unfold Try.f70
   unfold ordK
   cases h1 : Op.bytesLess g g2 <;> cases h2 : decide (g = g2) <;> cases h3 : Op.bytesLess t t2 <;> cases h4 : decide (t = t2) <;> cases h5 : decide (i < i2) <;> cases h6 : decide (i = i2)
   all_goals
     simp only [go_sem,coe,zaa,Nat.reduceAdd,Nat.reduceSub,Nat.reduceMul,Int.reduceToNat,reduceCtorEq,↓reduceIte,Int.reducePow,Nat.reducePow,Int.reduceMod,Nat.reduceLeDiff,Int.reduceLE,Int.reduceNe,Int.reduceEq,Nat.reduceEqDiff,Nat.reduceLT,Nat.reduceBEq,ty,noS,h1,h2,h3,h4,h5,h6]
     exact w21_ends 4 rfl
 · exact hp.elim
def Sfind21 (f : FuncId) : Option zak :=
 match f with
 | 42 => some seekS
 | _ => none
theorem Sfind21_ok : Fns Try.prog Sfind21 := by
 intro f s h
 unfold Sfind21 at h
 split at h
 · injection h with h; subst h; exact ⟨⟨_,Try.func42,by kernel_rfl,by kernel_rfl⟩,seek_sound⟩
 · cases h
def findPl : XPlan := fun id => match id with
 | 2 => .wks
 | _ => .std
set_option maxHeartbeats 4000000 in
theorem find_sound : zau Try.prog 22 findS := by
 refine fn_soundOK (S := Sfind21) (SO := noO) (T := ty) zbb ty_ok Sfind21_ok noO_ok Try.func22 (c := Try.f22.body.getD .skip) (by kernel_rfl) (fun xs pins hp _ => ?_)
 unfold findS at hp ⊢
 split at hp
 · rename_i xs f g t i _
   obtain ⟨hL,l,rfl⟩ := hp
   rw [List.length_map] at hL
   have hle : (l.map cmA).length = l.length := by simp
   have hex : ∃ k : List Cm,l.map cmA = k.map cmA := ⟨l,rfl⟩
   rw [zaw]
   refine ⟨by simp,findPl,by kernel_rfl,?_⟩
   obtain ⟨K,hK⟩ : ∃ K,l.findIdx (skP 43 ⟨g,t,i,0⟩) = K := ⟨_,rfl⟩
   have hK2 : fndI ⟨g,t,i,0⟩ l = K := by rw [← hK]; rfl
   have hKl : K ≤ l.length := by rw [← hK]; exact List.findIdx_le_length
   unfold fdO fdB
   rw [hK2]
   by_cases h : K < l.length
   · have d1 : decide ((K : Int) = l.length) = false := decide_eq_false (by omega)
     have hs1 := zdc l K h
     have hg : ((l[K]?).getD zC).o = l[K].o := by rw [List.getElem?_eq_getElem h]; rfl
     obtain ⟨r,hr⟩ : ∃ r,l[K] = r := ⟨_,rfl⟩
     rw [hr] at hs1 hg
     have hs1 : slot (l.map cmA) K = .agg [.str r.g,.str r.t,.w (.int .i64 r.i),.w (.int .i64 r.o)] := hs1
     rw [decide_eq_true h,hg]
     unfold Try.f22
     simp only [go_sem,zac,Nat.reduceAdd,Nat.reduceSub,Nat.reduceMul,Int.reduceToNat,reduceCtorEq,↓reduceIte,Int.reducePow,Nat.reducePow,Int.reduceMod,Nat.reduceLeDiff,Int.reduceLE,Int.reduceNe,Int.reduceEq,Nat.reduceEqDiff,Nat.reduceLT,Nat.reduceBEq,List.map_cons,List.map_nil,List.toList_toArray,Array.toList_append,Option.toArray_some,Option.toArray_none,Bool.and_self,ty,Sfind21,findPl,hle]
     unfold wsF
     refine ⟨_,_,weak_fq 52 10 4 [.str g,.str t,.w (.int .i64 i),.w (.int .i64 0)] rfl (by decide) rfl (by simp) rfl (List.mem_cons_self),?_⟩
     simp only [go_sem,zac,Nat.reduceAdd,Nat.reduceSub,Nat.reduceMul,Int.reduceToNat,reduceCtorEq,↓reduceIte,Int.reducePow,Nat.reducePow,Int.reduceMod,Nat.reduceLeDiff,Int.reduceLE,Int.reduceNe,Int.reduceEq,Nat.reduceEqDiff,Nat.reduceLT,Nat.reduceBEq,List.map_cons,List.map_nil,List.toList_toArray,Array.toList_append,Option.toArray_some,Option.toArray_none,Bool.and_self,ty,Sfind21,findPl,seekS,fq_cm,fqL,fqH,AV.fq,Blk.fq,hle,hL,hex,zaw,coe_cm,hK,d1,hs1,Int.toNat_natCast,true_or,or_true]
     refine ⟨⟨by omega,by omega⟩,?_⟩
     exact w2_ends 8 9 rfl rfl
   · have d1 : decide ((K : Int) = l.length) = true := decide_eq_true (by omega)
     have hg : ((l[K]?).getD zC).o = 0 := by rw [List.getElem?_eq_none (by omega)]; rfl
     rw [decide_eq_false h,hg]
     unfold Try.f22
     simp only [go_sem,zac,Nat.reduceAdd,Nat.reduceSub,Nat.reduceMul,Int.reduceToNat,reduceCtorEq,↓reduceIte,Int.reducePow,Nat.reducePow,Int.reduceMod,Nat.reduceLeDiff,Int.reduceLE,Int.reduceNe,Int.reduceEq,Nat.reduceEqDiff,Nat.reduceLT,Nat.reduceBEq,List.map_cons,List.map_nil,List.toList_toArray,Array.toList_append,Option.toArray_some,Option.toArray_none,Bool.and_self,ty,Sfind21,findPl,hle]
     unfold wsF
     refine ⟨_,_,weak_fq 52 10 4 [.str g,.str t,.w (.int .i64 i),.w (.int .i64 0)] rfl (by decide) rfl (by simp) rfl (List.mem_cons_self),?_⟩
     simp only [go_sem,zac,Nat.reduceAdd,Nat.reduceSub,Nat.reduceMul,Int.reduceToNat,reduceCtorEq,↓reduceIte,Int.reducePow,Nat.reducePow,Int.reduceMod,Nat.reduceLeDiff,Int.reduceLE,Int.reduceNe,Int.reduceEq,Nat.reduceEqDiff,Nat.reduceLT,Nat.reduceBEq,List.map_cons,List.map_nil,List.toList_toArray,Array.toList_append,Option.toArray_some,Option.toArray_none,Bool.and_self,ty,Sfind21,findPl,seekS,fq_cm,fqL,fqH,AV.fq,Blk.fq,hle,hL,hex,zaw,coe_cm,hK,d1,true_or,or_true]
     exact w2_ends 8 9 rfl rfl
 · exact hp.elim
end
end Go.Proofs.Ytnmomgcanfpigaa
namespace Go.Proofs.Ytnmomgcanfpigaa
open Ax
def plcI (c : Cm) (l : List Cm) : Int := if fndI c l < l.length then (fndI c l : Int) else -1
def placeS : zak
 | [.sg 4 xs f,.agg [.str g,.str t,.w (.int .i64 i),.w (.int .i64 o)]],[] => ⟨xs.length ≤ 9223372036854775807 ∧ ∃ l : List Cm,xs = l.map cmA,.w (.int .i64 (plcI ⟨g,t,i,o⟩ (xs.map ucm))),[]⟩
 | _,_ => zbf
def Sord21 (f : FuncId) : Option zak :=
 match f with
 | 70 => some ordS
 | _ => none
theorem Sord21_ok : Fns Try.prog Sord21 := by
 intro f s h
 unfold Sord21 at h
 split at h
 · injection h with h; subst h; exact ⟨⟨_,Try.func70,by kernel_rfl,by kernel_rfl⟩,ord_sound⟩
 · cases h
def placePl : Plan := fun id => match id with
 | 4 => some []
 | _ => none
section
set_option maxRecDepth 100000
set_option maxHeartbeats 8000000 in
theorem place_sound : zau Try.prog 45 placeS := by
 refine fn_soundF (S := Sord21) (T := ty) (pl := placePl) zbb ty_ok Sord21_ok Try.func45 (c := Try.f45.body.getD .skip) (by kernel_rfl) (by kernel_rfl) (fun xs pins hp _ => ?_)
 unfold placeS at hp ⊢
 split at hp
 · rename_i xs f g t i o _
   obtain ⟨hL,l,rfl⟩ := hp
   rw [List.length_map] at hL
   have hle : (l.map cmA).length = l.length := by simp
   rw [zaw]
   refine ⟨by simp,?_⟩
   unfold Try.f45
   simp only [go_sem,coe,zad,Nat.reduceAdd,Nat.reduceSub,Nat.reduceMul,Int.reduceToNat,reduceCtorEq,↓reduceIte,Int.reducePow,Nat.reducePow,Int.reduceMod,Nat.reduceLeDiff,Int.reduceLE,Int.reduceNe,Int.reduceEq,Nat.reduceEqDiff,Nat.reduceLT,Nat.reduceBEq,List.map_cons,List.map_nil,List.toList_toArray,Array.toList_append,Option.toArray_some,Option.toArray_none,Bool.and_self,ty,hle]
   refine awpF_loopW ⟨fun m σ => ∃ j : Nat,m = l.length - j ∧ j ≤ l.length ∧ (∀ x ∈ l.take j,sameC x ⟨g,t,i,o⟩ = false) ∧
       σ = ⟨[.sg 4 (l.map cmA) f,.junk,.junk,.rf 4 4 0 0,.junk,.w (.int .i64 j),.junk,.junk,.junk,.junk,.junk,.junk,.junk,.junk,.junk,.junk,.junk,.junk,.junk,.junk],[(4,.g 4 [.agg [.str g,.str t,.w (.int .i64 i),.w (.int .i64 o)]])],5⟩,?_,?_⟩
   · refine ⟨_,_,zah [0,1,2,3,4] rfl rfl rfl ?_ ?_,0,rfl,by omega,by simp,rfl⟩
     · simp only [ssT,zan,zao,setSlot,gOf,AV.ren,renL,Blk.ren,Ax.look,Ax.put,reduceCtorEq,↓reduceIte,Nat.reduceEqDiff,Nat.reduceLT,Nat.reduceAdd,List.length_append,List.length_cons,List.length_nil,Option.some.injEq]; try simp
     · simp only [ssT,zan,zao,setSlot,gOf,AV.ren,renL,Blk.ren,Ax.look,Ax.put,reduceCtorEq,↓reduceIte,Nat.reduceEqDiff,Nat.reduceLT,Nat.reduceAdd,List.length_append,List.length_cons,List.length_nil,Option.some.injEq]; try simp
   · rintro m σ ⟨j,rfl,hj,hno,rfl⟩
     by_cases hjl : j < l.length
     · have e1 : ((j : Int) + 1 + 9223372036854775808) % 18446744073709551616 - 9223372036854775808 = ((j + 1 : Nat) : Int) := by omega
       have d1 : decide ((j : Int) < l.length) = true := decide_eq_true (by omega)
       have hs1 := zdc l j hjl
       obtain ⟨r,hr⟩ : ∃ r,l[j] = r := ⟨_,rfl⟩
       rw [hr] at hs1
       have hs1 : slot (l.map cmA) j = .agg [.str r.g,.str r.t,.w (.int .i64 r.i),.w (.int .i64 r.o)] := hs1
       have ho := ord_eq r.g r.t r.i g t i
       have hsc : sameC r ⟨g,t,i,o⟩ = sameK r.g r.t r.i g t i := rfl
       cases hv : sameK r.g r.t r.i g t i with
       | true =>
         rw [hv] at ho
         have hfi : fndI ⟨g,t,i,o⟩ l = j := find_split _ l j hjl hno (by rw [hr]; exact hv)
         have hpl : plcI ⟨g,t,i,o⟩ l = j := by unfold plcI; rw [hfi,if_pos hjl]
         rw [hpl]
         simp only [go_sem,coe,zad,Nat.reduceAdd,Nat.reduceSub,Nat.reduceMul,Int.reduceToNat,reduceCtorEq,↓reduceIte,Int.reducePow,Nat.reducePow,Int.reduceMod,Nat.reduceLeDiff,Int.reduceLE,Int.reduceNe,Int.reduceEq,Nat.reduceEqDiff,Nat.reduceLT,Nat.reduceBEq,List.map_cons,List.map_nil,List.toList_toArray,Array.toList_append,Option.toArray_some,Option.toArray_none,Bool.and_self,ty,Sord21,ordS,placePl,hle,d1,hs1,ho,Int.toNat_natCast]
         repeat (refine And.intro (by omega) ?_)
         refine ⟨_,Weak.refl _,?_⟩
         simp only [go_sem,coe,zad,Nat.reduceAdd,Nat.reduceSub,Nat.reduceMul,Int.reduceToNat,reduceCtorEq,↓reduceIte,Int.reducePow,Nat.reducePow,Int.reduceMod,Nat.reduceLeDiff,Int.reduceLE,Int.reduceNe,Int.reduceEq,Nat.reduceEqDiff,Nat.reduceLT,Nat.reduceBEq,List.map_cons,List.map_nil,List.toList_toArray,Array.toList_append,Option.toArray_some,Option.toArray_none,Bool.and_self,ty,hle]
         exact w21_ends 4 rfl
       | false =>
         rw [hv] at ho
         simp only [go_sem,coe,zad,Nat.reduceAdd,Nat.reduceSub,Nat.reduceMul,Int.reduceToNat,reduceCtorEq,↓reduceIte,Int.reducePow,Nat.reducePow,Int.reduceMod,Nat.reduceLeDiff,Int.reduceLE,Int.reduceNe,Int.reduceEq,Nat.reduceEqDiff,Nat.reduceLT,Nat.reduceBEq,List.map_cons,List.map_nil,List.toList_toArray,Array.toList_append,Option.toArray_some,Option.toArray_none,Bool.and_self,ty,Sord21,ordS,placePl,hle,d1,e1,hs1,ho,Int.toNat_natCast]
         repeat (refine And.intro (by omega) ?_)
         refine ⟨l.length - (j + 1),_,by omega,zah [0,1,2,3,4] rfl rfl rfl ?_ ?_,j + 1,rfl,by omega,?_,rfl⟩
         · simp only [ssT,zan,zao,setSlot,gOf,AV.ren,renL,Blk.ren,Ax.look,Ax.put,reduceCtorEq,↓reduceIte,Nat.reduceEqDiff,Nat.reduceLT,Nat.reduceAdd,List.length_append,List.length_cons,List.length_nil,Option.some.injEq]; try simp
         · simp only [ssT,zan,zao,setSlot,gOf,AV.ren,renL,Blk.ren,Ax.look,Ax.put,reduceCtorEq,↓reduceIte,Nat.reduceEqDiff,Nat.reduceLT,Nat.reduceAdd,List.length_append,List.length_cons,List.length_nil,Option.some.injEq]; try simp
         · intro x hx
           rw [List.take_succ_eq_append_getElem hjl] at hx
           rcases List.mem_append.1 hx with h | h
           · exact hno x h
           · obtain rfl := List.mem_singleton.1 h
             rw [hr,hsc]; exact hv
     · have d1 : decide ((j : Int) < l.length) = false := decide_eq_false (by omega)
       obtain rfl : j = l.length := by omega
       rw [List.take_length] at hno
       have hfi : fndI ⟨g,t,i,o⟩ l = l.length := find_none _ l hno
       have hpl : plcI ⟨g,t,i,o⟩ l = -1 := by unfold plcI; rw [hfi,if_neg (by omega)]
       rw [hpl]
       simp only [go_sem,coe,zad,Nat.reduceAdd,Nat.reduceSub,Nat.reduceMul,Int.reduceToNat,reduceCtorEq,↓reduceIte,Int.reducePow,Nat.reducePow,Int.reduceMod,Nat.reduceLeDiff,Int.reduceLE,Int.reduceNe,Int.reduceEq,Nat.reduceEqDiff,Nat.reduceLT,Nat.reduceBEq,List.map_cons,List.map_nil,List.toList_toArray,Array.toList_append,Option.toArray_some,Option.toArray_none,Bool.and_self,ty,hle,d1]
       refine ⟨_,Weak.refl _,?_⟩
       simp only [go_sem,coe,zad,Nat.reduceAdd,Nat.reduceSub,Nat.reduceMul,Int.reduceToNat,reduceCtorEq,↓reduceIte,Int.reducePow,Nat.reducePow,Int.reduceMod,Nat.reduceLeDiff,Int.reduceLE,Int.reduceNe,Int.reduceEq,Nat.reduceEqDiff,Nat.reduceLT,Nat.reduceBEq,List.map_cons,List.map_nil,List.toList_toArray,Array.toList_append,Option.toArray_some,Option.toArray_none,Bool.and_self,ty,hle]
       exact w21_ends 4 rfl
 · exact hp.elim
def Srfind21 (f : FuncId) : Option zak :=
 match f with
 | 45 => some placeS
 | _ => none
theorem Srfind21_ok : Fns Try.prog Srfind21 := by
 intro f s h
 unfold Srfind21 at h
 split at h
 · injection h with h; subst h; exact ⟨⟨_,Try.func45,by kernel_rfl,by kernel_rfl⟩,place_sound⟩
 · cases h
set_option maxHeartbeats 4000000 in
theorem rfind_sound : zau Try.prog 23 findS := by
 refine zco (S := Srfind21) (T := ty) zbb ty_ok Srfind21_ok Try.func23 (c := Try.f23.body.getD .skip) (by kernel_rfl) (by kernel_rfl) (fun xs pins hp _ => ?_)
 unfold findS at hp ⊢
 split at hp
 · rename_i xs f g t i _
   obtain ⟨hL,l,rfl⟩ := hp
   rw [List.length_map] at hL
   have hle : (l.map cmA).length = l.length := by simp
   have hex : ∃ k : List Cm,l.map cmA = k.map cmA := ⟨l,rfl⟩
   have hc : coe ty 27 (.sg 4 (l.map cmA) f) = .sg 4 (l.map cmA) f := by cases l <;> rfl
   rw [zaw]
   refine ⟨by simp,?_⟩
   obtain ⟨K,hK⟩ : ∃ K,fndI ⟨g,t,i,0⟩ l = K := ⟨_,rfl⟩
   obtain ⟨P,hP⟩ : ∃ P,plcI ⟨g,t,i,0⟩ l = P := ⟨_,rfl⟩
   have hP2 := hP
   unfold plcI at hP2
   unfold fdO fdB
   rw [hK] at hP2 ⊢
   by_cases h : K < l.length
   · rw [if_pos h] at hP2
     subst hP2
     have d1 : decide ((K : Int) < 0) = false := decide_eq_false (by omega)
     have hs1 := zdc l K h
     have hg : ((l[K]?).getD zC).o = l[K].o := by rw [List.getElem?_eq_getElem h]; rfl
     obtain ⟨r,hr⟩ : ∃ r,l[K] = r := ⟨_,rfl⟩
     rw [hr] at hs1 hg
     have hs1 : slot (l.map cmA) K = .agg [.str r.g,.str r.t,.w (.int .i64 r.i),.w (.int .i64 r.o)] := hs1
     rw [decide_eq_true h,hg]
     unfold Try.f23
     simp only [go_sem,zaa,Nat.reduceAdd,Nat.reduceSub,Nat.reduceMul,Int.reduceToNat,reduceCtorEq,↓reduceIte,Int.reducePow,Nat.reducePow,Int.reduceMod,Nat.reduceLeDiff,Int.reduceLE,Int.reduceNe,Int.reduceEq,Nat.reduceEqDiff,Nat.reduceLT,Nat.reduceBEq,ty,Srfind21,placeS,hle,hL,hex,hc,zaw,hP,d1,hs1,Int.toNat_natCast]
     refine ⟨⟨by omega,by omega⟩,?_⟩
     exact w2_ends 8 9 rfl rfl
   · rw [if_neg h] at hP2
     subst hP2
     have d1 : decide ((-1 : Int) < 0) = true := rfl
     have hg : ((l[K]?).getD zC).o = 0 := by rw [List.getElem?_eq_none (by omega)]; rfl
     rw [decide_eq_false h,hg]
     unfold Try.f23
     simp only [go_sem,zaa,Nat.reduceAdd,Nat.reduceSub,Nat.reduceMul,Int.reduceToNat,reduceCtorEq,↓reduceIte,Int.reducePow,Nat.reducePow,Int.reduceMod,Nat.reduceLeDiff,Int.reduceLE,Int.reduceNe,Int.reduceEq,Nat.reduceEqDiff,Nat.reduceLT,Nat.reduceBEq,ty,Srfind21,placeS,hle,hL,hex,hc,zaw,hP,d1]
     exact w2_ends 8 9 rfl rfl
 · exact hp.elim
end
end Go.Proofs.Ytnmomgcanfpigaa
namespace Go.Proofs.Ytnmomgcanfpigaa
open Ax
def oneS : zak
 | [.sg 4 xs f,.agg [.w (.int .i64 d),.w (.int .i64 t),.w (.bool k),.str key,.w (.bool dd),.str val]],[] =>
     ⟨xs.length ≤ 999999 ∧ (∃ l : List Cm,xs = l.map cmA) ∧ key.length ≤ 1000000 ∧ val.length ≤ 1000000,.sg 4 ((pl1 (xs.map ucm) ⟨d,t,k,key,dd,val⟩).map cmA) false,[]⟩
 | _,_ => zbf
theorem sg_off {w : World} {loc : Ax.Loc} {v : Value} {s : Nat} {xs : List AV} {f : Bool} (h : R w loc (.sg s xs f) v) : R w loc (.sg s xs false) v := by
 cases h with
 | sg _ _ _ a cap cs hd hs hc hl hx hh => exact .sg s xs false a cap cs ⟨hd.le,hd.top,fun h => by cases h⟩ hs hc hl hx hh
theorem plC_len (l : List Cm) (c : Cm) (dd : Bool) : (plC l c dd).length ≤ l.length + 1 := by
 unfold plC
 have : insI c l ≤ l.length := List.findIdx_le_length
 split
 · rename_i h
   split
   · rw [List.length_eraseIdx_of_lt h]; omega
   · rw [List.length_set]; omega
 · split
   · omega
   · simp only [List.length_append,List.length_take,List.length_cons,List.length_drop]; omega
theorem pls_len : ∀ (l : List Cm) (q : List Rec),(pls l q).length ≤ l.length + q.length
 | l,[] => by simp [pls]
 | l,r :: q => by
   have h1 : pls l (r :: q) = pls (pl1 l r) q := rfl
   have h2 := pls_len (pl1 l r) q
   have h3 : (pl1 l r).length ≤ l.length + 1 := by
     unfold pl1
     split
     · exact plC_len _ _ _
     · omega
   rw [h1,List.length_cons]; omega
def Sone21 (f : FuncId) : Option zak :=
 match f with
 | 15 => some zdf
 | 45 => some placeS
 | 70 => some ordS
 | _ => none
theorem Sone21_ok : Fns Try.prog Sone21 := by
 intro f s h
 unfold Sone21 at h
 split at h
 · injection h with h; subst h; exact ⟨⟨_,Try.func15,by kernel_rfl,by kernel_rfl⟩,rget21_sound⟩
 · injection h with h; subst h; exact ⟨⟨_,Try.func45,by kernel_rfl,by kernel_rfl⟩,place_sound⟩
 · injection h with h; subst h; exact ⟨⟨_,Try.func70,by kernel_rfl,by kernel_rfl⟩,ord_sound⟩
 · cases h
def onePl : Plan := fun id => match id with
 | 7 => some [(4,8)]
 | 9 => some [(4,5),(4,6),(4,11),(7,11)]
 | 11 => some []
 | 13 => some [(4,5),(4,6),(4,10),(7,10)]
 | _ => none
section
set_option maxRecDepth 100000
set_option maxHeartbeats 8000000 in
theorem one_sound : zau Try.prog 46 oneS := by
 refine fn_soundF (S := Sone21) (T := ty) (pl := onePl) zbb ty_ok Sone21_ok Try.func46 (c := Try.f46.body.getD .skip) (by kernel_rfl) (by kernel_rfl) (fun xs pins hp _ => ?_)
 unfold oneS at hp ⊢
 split at hp
 · rename_i xs f d t k key dd val _
   obtain ⟨hL,⟨l,rfl⟩,hk1,hk2⟩ := hp
   rw [List.length_map] at hL
   have hle : (l.map cmA).length = l.length := by simp
   have hex : ∃ k : List Cm,l.map cmA = k.map cmA := ⟨l,rfl⟩
   have hc : coe ty 27 (.sg 4 (l.map cmA) f) = .sg 4 (l.map cmA) f := by cases l <;> rfl
   have hL2 : l.length ≤ 9223372036854775807 := by omega
   have ht : top = 4294967296 := rfl
   rw [zaw]
   refine ⟨by simp,?_⟩
   unfold Try.f46
   cases hg : gcK k key dd val with
   | false =>
     have hga : gtCA k key dd val = .agg [.str [],.str [],.w (.int .i64 0),.w (.int .i64 0)] := by unfold gtCA; rw [hg]; rfl
     have htk : pl1 l ⟨d,t,k,key,dd,val⟩ = l := if_neg (by rw [hg]; simp)
     obtain ⟨P,hP⟩ : ∃ P,plcI ⟨[],[],0,0⟩ l = P := ⟨_,rfl⟩
     rw [htk]
     simp only [go_sem,zad,Nat.reduceAdd,Nat.reduceSub,Nat.reduceMul,Int.reduceToNat,reduceCtorEq,↓reduceIte,Int.reducePow,Nat.reducePow,Int.reduceMod,Nat.reduceLeDiff,Int.reduceLE,Int.reduceNe,Int.reduceEq,Nat.reduceEqDiff,Nat.reduceLT,Nat.reduceBEq,List.map_cons,List.map_nil,List.toList_toArray,Array.toList_append,Option.toArray_some,Option.toArray_none,Bool.and_self,ty,Sone21,zdf,placeS,onePl,hle,hL2,hex,hc,hk1,hk2,hg,hga,hP,zaw,cond_false]
     refine ⟨_,zdv 4 (.sg 4 (l.map cmA) false) (fun w loc v h => sg_off h),?_⟩
     simp only [go_sem,zad,Nat.reduceAdd,Nat.reduceSub,Nat.reduceMul,Int.reduceToNat,reduceCtorEq,↓reduceIte,Int.reducePow,Nat.reducePow,Int.reduceMod,Nat.reduceLeDiff,Int.reduceLE,Int.reduceNe,Int.reduceEq,Nat.reduceEqDiff,Nat.reduceLT,Nat.reduceBEq,List.map_cons,List.map_nil,List.toList_toArray,Array.toList_append,Option.toArray_some,Option.toArray_none,Bool.and_self,ty,zal]
   | true =>
     have hga : gtCA k key dd val = .agg [.str (cG key),.str (cT key),.w (.int .i64 (cI key)),.w (.int .i64 (cO dd val))] := by unfold gtCA; rw [hg]; rfl
     have htk : pl1 l ⟨d,t,k,key,dd,val⟩ = plC l ⟨cG key,cT key,cI key,cO dd val⟩ dd := if_pos hg
     rw [htk]
     generalize cG key = G at *
     generalize cT key = T at *
     generalize cI key = I at *
     generalize cO dd val = O at *
     obtain ⟨K,hK⟩ : ∃ K,fndI ⟨G,T,I,O⟩ l = K := ⟨_,rfl⟩
     obtain ⟨P,hP⟩ : ∃ P,plcI ⟨G,T,I,O⟩ l = P := ⟨_,rfl⟩
     have hP2 := hP
     unfold plcI at hP2
     unfold plC
     rw [hK] at hP2 ⊢
     have htk1 := fun n => (List.map_take (f := cmA) (l := l) (i := n)).symm
     have hdr := fun n => (List.map_drop (f := cmA) (l := l) (i := n)).symm
     by_cases h : K < l.length
     · rw [if_pos h] at hP2
       rw [if_pos h]
       subst hP2
       have d1 : decide ((K : Int) < 0) = false := decide_eq_false (by omega)
       have d2 : decide (0 ≤ (K : Int)) = true := decide_eq_true (by omega)
       have e1 : ((K : Int) + 1 + 9223372036854775808) % 18446744073709551616 - 9223372036854775808 = ((K + 1 : Nat) : Int) := by omega
       have hl1 : (l.take K).length = K := by rw [List.length_take]; omega
       have hl2 : (l.drop (K + 1)).length = l.length - (K + 1) := List.length_drop
       have htd : List.take (l.length - (K + 1)) ((l.drop (K + 1)).map cmA) = (l.drop (K + 1)).map cmA := List.take_of_length_le (by rw [List.length_map,hl2]; omega)
       cases dd with
       | true =>
         have hap : (l.take K).map cmA ++ (l.drop (K + 1)).map cmA = (l.eraseIdx K).map cmA := by rw [← List.map_append,List.eraseIdx_eq_take_drop_succ]
         simp only [go_sem,zad,Nat.reduceAdd,Nat.reduceSub,Nat.reduceMul,Int.reduceToNat,reduceCtorEq,↓reduceIte,Int.reducePow,Nat.reducePow,Int.reduceMod,Nat.reduceLeDiff,Int.reduceLE,Int.reduceNe,Int.reduceEq,Nat.reduceEqDiff,Nat.reduceLT,Nat.reduceBEq,List.map_cons,List.map_nil,List.toList_toArray,Array.toList_append,Option.toArray_some,Option.toArray_none,Bool.and_self,ty,Sone21,zdf,placeS,onePl,hle,hL2,hex,hc,hk1,hk2,hg,hga,hP,zaw,cond_true,d1,d2,e1,htk1,hdr,Nat.sub_zero,List.drop_zero,htd,hap,zcy,List.length_append,List.length_cons,List.length_nil,List.length_map,hl1,hl2,hap,Int.toNat_natCast,zal,zcy]
         refine ⟨⟨by omega,by omega⟩,by omega,⟨by omega,by omega⟩,by omega,?_⟩
         exact g_ends_cm 4 rfl rfl (zal _) (by rw [List.length_map,List.length_eraseIdx_of_lt h]; omega) rfl
       | false =>
         have hap1 : (l.take K).map cmA ++ [.agg [.str G,.str T,.w (.int .i64 I),.w (.int .i64 O)]] = (l.take K ++ [(⟨G,T,I,O⟩ : Cm)]).map cmA := by
           rw [List.map_append]; rfl
         have hap : (l.take K ++ [(⟨G,T,I,O⟩ : Cm)]).map cmA ++ (l.drop (K + 1)).map cmA = (l.set K ⟨G,T,I,O⟩).map cmA := by
           rw [List.set_eq_take_append_cons_drop,if_pos h,← List.map_append,List.append_assoc]; rfl
         simp only [go_sem,zad,Nat.reduceAdd,Nat.reduceSub,Nat.reduceMul,Int.reduceToNat,reduceCtorEq,↓reduceIte,Int.reducePow,Nat.reducePow,Int.reduceMod,Nat.reduceLeDiff,Int.reduceLE,Int.reduceNe,Int.reduceEq,Nat.reduceEqDiff,Nat.reduceLT,Nat.reduceBEq,List.map_cons,List.map_nil,List.toList_toArray,Array.toList_append,Option.toArray_some,Option.toArray_none,Bool.and_self,ty,Sone21,zdf,placeS,onePl,hle,hL2,hex,hc,hk1,hk2,hg,hga,hP,zaw,cond_true,d1,d2,e1,htk1,hdr,Nat.sub_zero,List.drop_zero,htd,hap1,hap,zcy,List.length_append,List.length_cons,List.length_nil,List.length_map,hl1,hl2,Int.toNat_natCast,zal,zcy]
         refine ⟨⟨by omega,by omega⟩,by omega,by omega,⟨by omega,by omega⟩,by omega,?_⟩
         exact g_ends_cm 4 rfl rfl (zal _) (by rw [List.length_map,List.length_set]; omega) rfl
     · rw [if_neg h] at hP2
       rw [if_neg h]
       subst hP2
       have d1 : decide ((-1 : Int) < 0) = true := rfl
       have d2 : decide ((0 : Int) ≤ -1) = false := rfl
       cases dd with
       | true =>
         simp only [go_sem,zad,Nat.reduceAdd,Nat.reduceSub,Nat.reduceMul,Int.reduceToNat,reduceCtorEq,↓reduceIte,Int.reducePow,Nat.reducePow,Int.reduceMod,Nat.reduceLeDiff,Int.reduceLE,Int.reduceNe,Int.reduceEq,Nat.reduceEqDiff,Nat.reduceLT,Nat.reduceBEq,List.map_cons,List.map_nil,List.toList_toArray,Array.toList_append,Option.toArray_some,Option.toArray_none,Bool.and_self,ty,Sone21,zdf,placeS,onePl,hle,hL2,hex,hc,hk1,hk2,hg,hga,hP,zaw,cond_true,d1,d2]
         refine ⟨_,zdv 4 (.sg 4 (l.map cmA) false) (fun w loc v h => sg_off h),?_⟩
         simp only [go_sem,zad,Nat.reduceAdd,Nat.reduceSub,Nat.reduceMul,Int.reduceToNat,reduceCtorEq,↓reduceIte,Int.reducePow,Nat.reducePow,Int.reduceMod,Nat.reduceLeDiff,Int.reduceLE,Int.reduceNe,Int.reduceEq,Nat.reduceEqDiff,Nat.reduceLT,Nat.reduceBEq,List.map_cons,List.map_nil,List.toList_toArray,Array.toList_append,Option.toArray_some,Option.toArray_none,Bool.and_self,ty,zal]
       | false =>
         simp only [go_sem,zad,Nat.reduceAdd,Nat.reduceSub,Nat.reduceMul,Int.reduceToNat,reduceCtorEq,↓reduceIte,Int.reducePow,Nat.reducePow,Int.reduceMod,Nat.reduceLeDiff,Int.reduceLE,Int.reduceNe,Int.reduceEq,Nat.reduceEqDiff,Nat.reduceLT,Nat.reduceBEq,List.map_cons,List.map_nil,List.toList_toArray,Array.toList_append,Option.toArray_some,Option.toArray_none,Bool.and_self,ty,Sone21,zdf,placeS,onePl,hle,hL2,hex,hc,hk1,hk2,hg,hga,hP,zaw,cond_true,d1,d2]
         refine awpF_loopW ⟨fun m σ => ∃ j : Nat,m = l.length - j ∧ j ≤ l.length ∧ (∀ x ∈ l.take j,(!(ahdC x ⟨G,T,I,O⟩)) = false) ∧
           σ = ⟨[.sg 4 (l.map cmA) f,.junk,.junk,.junk,.junk,.rf 4 4 0 0,.junk,.junk,.sg 1 [] true,.w (.int .i64 j),.junk,.junk,.junk,.junk,.junk,.junk,.junk,.junk,.junk,.junk,.junk,.junk,.junk,.junk,.junk,.junk,.junk,.junk,.junk,.junk,.junk,.junk,.junk,.junk,.junk,.junk,.junk,.junk,.junk,.junk,.junk,.junk,.junk,.junk,.junk,.junk,.junk,.junk,.junk,.junk,.junk,.junk,.junk,.junk,.junk,.junk,.junk,.junk,.junk,.junk,.junk,.junk,.junk,.junk,.junk,.junk,.junk,.junk,.junk,.junk,.junk,.junk,.junk,.junk,.junk,.junk,.junk,.junk,.junk,.junk,.junk,.junk,.junk,.junk,.junk,.junk],[(4,.g 4 [.agg [.str G,.str T,.w (.int .i64 I),.w (.int .i64 O)]])],5⟩,?_,?_⟩
         · refine ⟨_,_,zah [0,1,2,3,60] rfl rfl rfl ?_ ?_,0,rfl,by omega,by simp,rfl⟩
           · simp only [ssT,zan,zao,setSlot,gOf,AV.ren,renL,Blk.ren,Ax.look,Ax.put,reduceCtorEq,↓reduceIte,Nat.reduceEqDiff,Nat.reduceLT,Nat.reduceAdd,List.length_append,List.length_cons,List.length_nil,Option.some.injEq]; try simp
           · simp only [ssT,zan,zao,setSlot,gOf,AV.ren,renL,Blk.ren,Ax.look,Ax.put,reduceCtorEq,↓reduceIte,Nat.reduceEqDiff,Nat.reduceLT,Nat.reduceAdd,List.length_append,List.length_cons,List.length_nil,Option.some.injEq]; try simp
         · rintro m σ ⟨j,rfl,hj,hno,rfl⟩
           have e1 : ((j : Int) + 1 + 9223372036854775808) % 18446744073709551616 - 9223372036854775808 = ((j + 1 : Nat) : Int) := by omega
           have hfin : ∀ (hI : insI ⟨G,T,I,O⟩ l = j),(l.take j ++ [(⟨G,T,I,O⟩ : Cm)]).map cmA ++ (l.drop j).map cmA = (l.take (insI ⟨G,T,I,O⟩ l) ++ ⟨G,T,I,O⟩ :: l.drop (insI ⟨G,T,I,O⟩ l)).map cmA := by
             intro hI; rw [hI,← List.map_append,List.append_assoc]; rfl
           have hap1 : (l.take j).map cmA ++ [.agg [.str G,.str T,.w (.int .i64 I),.w (.int .i64 O)]] = (l.take j ++ [(⟨G,T,I,O⟩ : Cm)]).map cmA := by
             rw [List.map_append]; rfl
           have hin : (l.take (insI ⟨G,T,I,O⟩ l) ++ ⟨G,T,I,O⟩ :: l.drop (insI ⟨G,T,I,O⟩ l)).length = l.length + 1 := by
             have : insI ⟨G,T,I,O⟩ l ≤ l.length := List.findIdx_le_length
             simp only [List.length_append,List.length_take,List.length_cons,List.length_drop]; omega
           have hl1 : (l.take j).length = j := by rw [List.length_take]; omega
           have hl2 : (l.drop j).length = l.length - j := List.length_drop
           have htd : List.take (l.length - j) ((l.drop j).map cmA) = (l.drop j).map cmA := List.take_of_length_le (by rw [List.length_map,hl2]; omega)
           by_cases hjl : j < l.length
           · have d1 : decide ((j : Int) < l.length) = true := decide_eq_true (by omega)
             have hs1 := zdc l j hjl
             obtain ⟨r,hr⟩ : ∃ r,l[j] = r := ⟨_,rfl⟩
             rw [hr] at hs1
             have hs1 : slot (l.map cmA) j = .agg [.str r.g,.str r.t,.w (.int .i64 r.i),.w (.int .i64 r.o)] := hs1
             have ho := ord_lt r.g r.t r.i G T I
             have hsc : ahdC r ⟨G,T,I,O⟩ = ahdK r.g r.t r.i G T I := rfl
             cases hv : ahdK r.g r.t r.i G T I with
             | true =>
               rw [hv] at ho
               simp only [go_sem,coe,zad,Nat.reduceAdd,Nat.reduceSub,Nat.reduceMul,Int.reduceToNat,reduceCtorEq,↓reduceIte,Int.reducePow,Nat.reducePow,Int.reduceMod,Nat.reduceLeDiff,Int.reduceLE,Int.reduceNe,Int.reduceEq,Nat.reduceEqDiff,Nat.reduceLT,Nat.reduceBEq,List.map_cons,List.map_nil,List.toList_toArray,Array.toList_append,Option.toArray_some,Option.toArray_none,Bool.and_self,ty,Sone21,ordS,onePl,hle,d1,e1,hs1,ho,Int.toNat_natCast]
               repeat (refine And.intro (by omega) ?_)
               refine ⟨l.length - (j + 1),_,by omega,zah [0,1,2,3,4] rfl rfl rfl ?_ ?_,j + 1,rfl,by omega,?_,rfl⟩
               · simp only [ssT,zan,zao,setSlot,gOf,AV.ren,renL,Blk.ren,Ax.look,Ax.put,reduceCtorEq,↓reduceIte,Nat.reduceEqDiff,Nat.reduceLT,Nat.reduceAdd,List.length_append,List.length_cons,List.length_nil,Option.some.injEq]; try simp
               · simp only [ssT,zan,zao,setSlot,gOf,AV.ren,renL,Blk.ren,Ax.look,Ax.put,reduceCtorEq,↓reduceIte,Nat.reduceEqDiff,Nat.reduceLT,Nat.reduceAdd,List.length_append,List.length_cons,List.length_nil,Option.some.injEq]; try simp
               · intro x hx
                 rw [List.take_succ_eq_append_getElem hjl] at hx
                 rcases List.mem_append.1 hx with h | h
                 · exact hno x h
                 · obtain rfl := List.mem_singleton.1 h
                   rw [hr,hsc,hv]; rfl
             | false =>
               rw [hv] at ho
               have hI : insI ⟨G,T,I,O⟩ l = j := find_split _ l j hjl hno (by rw [hr]; show (!(ahdC r ⟨G,T,I,O⟩)) = true; rw [hsc,hv]; rfl)
               have hap := hfin hI
               simp only [go_sem,zad,Nat.reduceAdd,Nat.reduceSub,Nat.reduceMul,Int.reduceToNat,reduceCtorEq,↓reduceIte,Int.reducePow,Nat.reducePow,Int.reduceMod,Nat.reduceLeDiff,Int.reduceLE,Int.reduceNe,Int.reduceEq,Nat.reduceEqDiff,Nat.reduceLT,Nat.reduceBEq,List.map_cons,List.map_nil,List.toList_toArray,Array.toList_append,Option.toArray_some,Option.toArray_none,Bool.and_self,ty,Sone21,ordS,onePl,hle,d1,e1,hs1,ho,Int.toNat_natCast]
               repeat (refine And.intro (by omega) ?_)
               refine ⟨_,Weak.refl _,?_⟩
               simp only [go_sem,zad,Nat.reduceAdd,Nat.reduceSub,Nat.reduceMul,Int.reduceToNat,reduceCtorEq,↓reduceIte,Int.reducePow,Nat.reducePow,Int.reduceMod,Nat.reduceLeDiff,Int.reduceLE,Int.reduceNe,Int.reduceEq,Nat.reduceEqDiff,Nat.reduceLT,Nat.reduceBEq,List.map_cons,List.map_nil,List.toList_toArray,Array.toList_append,Option.toArray_some,Option.toArray_none,Bool.and_self,ty,hle,hc,onePl,htk1,hdr,Nat.sub_zero,List.drop_zero,htd,zcy,List.length_map,hl1,hl2,List.length_append,List.length_cons,List.length_nil,Int.toNat_natCast,hap1,hap,zal]
               refine ⟨⟨by omega,by omega⟩,by omega,by omega,⟨by omega,by omega⟩,by omega,?_⟩
               exact g_ends_cm 4 rfl rfl (zal _) (by rw [List.length_map,hin]; omega) rfl
           · have d1 : decide ((j : Int) < l.length) = false := decide_eq_false (by omega)
             obtain rfl : j = l.length := by omega
             have hno2 := hno
             rw [List.take_length] at hno2
             have hI : insI ⟨G,T,I,O⟩ l = l.length := find_none _ l hno2
             have hap := hfin hI
             simp only [go_sem,zad,Nat.reduceAdd,Nat.reduceSub,Nat.reduceMul,Int.reduceToNat,reduceCtorEq,↓reduceIte,Int.reducePow,Nat.reducePow,Int.reduceMod,Nat.reduceLeDiff,Int.reduceLE,Int.reduceNe,Int.reduceEq,Nat.reduceEqDiff,Nat.reduceLT,Nat.reduceBEq,List.map_cons,List.map_nil,List.toList_toArray,Array.toList_append,Option.toArray_some,Option.toArray_none,Bool.and_self,ty,Sone21,ordS,onePl,hle,d1,e1]
             refine ⟨_,Weak.refl _,?_⟩
             simp only [go_sem,zad,Nat.reduceAdd,Nat.reduceSub,Nat.reduceMul,Int.reduceToNat,reduceCtorEq,↓reduceIte,Int.reducePow,Nat.reducePow,Int.reduceMod,Nat.reduceLeDiff,Int.reduceLE,Int.reduceNe,Int.reduceEq,Nat.reduceEqDiff,Nat.reduceLT,Nat.reduceBEq,List.map_cons,List.map_nil,List.toList_toArray,Array.toList_append,Option.toArray_some,Option.toArray_none,Bool.and_self,ty,hle,hc,onePl,htk1,hdr,Nat.sub_zero,List.drop_zero,htd,zcy,List.length_map,hl1,hl2,List.length_append,List.length_cons,List.length_nil,Int.toNat_natCast,hap1,hap,zal]
             refine ⟨by omega,by omega,by omega,by omega,by omega,?_⟩
             exact g_ends_cm 4 rfl rfl (zal _) (by rw [List.length_map,hin]; omega) rfl
 · exact hp.elim
def Srplay21 (f : FuncId) : Option zak :=
 match f with
 | 46 => some oneS
 | _ => none
theorem Srplay21_ok : Fns Try.prog Srplay21 := by
 intro f s h
 unfold Srplay21 at h
 split at h
 · injection h with h; subst h; exact ⟨⟨_,Try.func46,by kernel_rfl,by kernel_rfl⟩,one_sound⟩
 · cases h
set_option maxHeartbeats 4000000 in
theorem rPlay_sound : zau Try.prog 26 PlayS := by
 refine zco (S := Srplay21) (T := ty) zbb ty_ok Srplay21_ok Try.func26 (c := Try.f26.body.getD .skip) (by kernel_rfl) (by kernel_rfl) (fun xs pins hp _ => ?_)
 unfold PlayS at hp ⊢
 split at hp
 · rename_i xs f b c p e s rs g _
   obtain ⟨⟨hL,l,rfl⟩,q,rfl,hq⟩ := hp
   rw [List.length_map,List.length_map] at hL
   rw [zaw,zds]
   have hl4 : (l.map cmA).length = l.length := by simp
   have hl6 : (q.map rv).length = q.length := by simp
   refine ⟨by simp,?_⟩
   unfold Try.f26
   simp only [go_sem,zaa,Nat.reduceAdd,Nat.reduceSub,Nat.reduceMul,Int.reduceToNat,reduceCtorEq,↓reduceIte,Int.reducePow,Nat.reducePow,Int.reduceMod,Nat.reduceLeDiff,Int.reduceLE,Int.reduceNe,Int.reduceEq,Nat.reduceEqDiff,Nat.reduceLT,Nat.reduceBEq,ty,hl4,hl6]
   refine awp_loopW ⟨fun m σ => ∃ j : Nat,m = q.length - j ∧ j ≤ q.length ∧ ∃ f1 : Bool,
       σ = ⟨[.sg 4 ((pls l (q.take j)).map cmA) f1,.junk,.junk,.rf 4 6 0 0,.junk,.w (.int .i64 j),.junk,.junk,.junk,.junk,.junk,.junk,.junk,.junk,.junk,.junk,.junk,.junk,.junk,.junk,.junk],[(4,.g 6 [.agg [.w (.int .i64 b),.w (.int .i64 c),.w (.int .i64 p),.w (.int .i64 e),.w (.int .i64 s),.sg 6 (q.map rv) g]])],5⟩,?_,?_⟩
   · refine ⟨_,_,zah [0,1,2,3,4] rfl rfl rfl ?_ ?_,0,rfl,by omega,f,rfl⟩
     · simp only [ssT,zan,zao,setSlot,gOf,AV.ren,renL,Blk.ren,Ax.look,Ax.put,reduceCtorEq,↓reduceIte,Nat.reduceEqDiff,Nat.reduceLT,Nat.reduceAdd,List.length_append,List.length_cons,List.length_nil,Option.some.injEq,List.take_zero]; try simp
       try rfl
     · simp only [ssT,zan,zao,setSlot,gOf,AV.ren,renL,Blk.ren,Ax.look,Ax.put,reduceCtorEq,↓reduceIte,Nat.reduceEqDiff,Nat.reduceLT,Nat.reduceAdd,List.length_append,List.length_cons,List.length_nil,Option.some.injEq]; try simp
   · rintro m σ ⟨j,rfl,hj,f1,rfl⟩
     by_cases hjl : j < q.length
     · have e1 : ((j : Int) + 1 + 9223372036854775808) % 18446744073709551616 - 9223372036854775808 = ((j + 1 : Nat) : Int) := by omega
       have d1 : decide ((j : Int) < q.length) = true := decide_eq_true (by omega)
       have hs1 := kslot_map rv q j hjl
       have hq1 := hq q[j] (List.getElem_mem hjl)
       have htk : pls l (q.take (j + 1)) = pl1 (pls l (q.take j)) q[j] := by
         unfold pls
         rw [List.take_succ_eq_append_getElem hjl,List.foldl_append]
         rfl
       have hln := pls_len l (q.take j)
       have hlt : (q.take j).length = j := by rw [List.length_take]; omega
       generalize pls l (q.take j) = d0 at *
       have hc : coe ty 27 (.sg 4 (d0.map cmA) f1) = .sg 4 (d0.map cmA) f1 := by cases d0 <;> rfl
       have hex : ∃ k : List Cm,d0.map cmA = k.map cmA := ⟨d0,rfl⟩
       have hld : (d0.map cmA).length ≤ 999999 := by rw [List.length_map]; omega
       obtain ⟨r,hr⟩ : ∃ r,q[j] = r := ⟨_,rfl⟩
       rw [hr] at hs1 hq1 htk
       obtain ⟨d,t,k,key,dd,val⟩ := r
       obtain ⟨hk1,hk2⟩ := hq1
       have hk1 : key.length ≤ 1000000 := hk1
       have hk2 : val.length ≤ 1000000 := hk2
       simp only [rv] at hs1
       simp only [go_sem,zaa,Nat.reduceAdd,Nat.reduceSub,Nat.reduceMul,Int.reduceToNat,reduceCtorEq,↓reduceIte,Int.reducePow,Nat.reducePow,Int.reduceMod,Nat.reduceLeDiff,Int.reduceLE,Int.reduceNe,Int.reduceEq,Nat.reduceEqDiff,Nat.reduceLT,Nat.reduceBEq,ty,Srplay21,oneS,hl6,d1,e1,hs1,hc,hex,hld,hk1,hk2,zaw,Int.toNat_natCast]
       repeat (refine And.intro (by omega) ?_)
       refine ⟨q.length - (j + 1),_,by omega,zah [0,1,2,3,4] rfl rfl rfl ?_ ?_,j + 1,rfl,by omega,false,by rw [htk]⟩
       · simp only [ssT,zan,zao,setSlot,gOf,AV.ren,renL,Blk.ren,Ax.look,Ax.put,reduceCtorEq,↓reduceIte,Nat.reduceEqDiff,Nat.reduceLT,Nat.reduceAdd,List.length_append,List.length_cons,List.length_nil,Option.some.injEq]; try simp
       · simp only [ssT,zan,zao,setSlot,gOf,AV.ren,renL,Blk.ren,Ax.look,Ax.put,reduceCtorEq,↓reduceIte,Nat.reduceEqDiff,Nat.reduceLT,Nat.reduceAdd,List.length_append,List.length_cons,List.length_nil,Option.some.injEq]; try simp
     · have d1 : decide ((j : Int) < q.length) = false := decide_eq_false (by omega)
       obtain rfl : j = q.length := by omega
       rw [List.take_length]
       simp only [go_sem,zaa,Nat.reduceAdd,Nat.reduceSub,Nat.reduceMul,Int.reduceToNat,reduceCtorEq,↓reduceIte,Int.reducePow,Nat.reducePow,Int.reduceMod,Nat.reduceLeDiff,Int.reduceLE,Int.reduceNe,Int.reduceEq,Nat.reduceEqDiff,Nat.reduceLT,Nat.reduceBEq,ty,hl6,d1]
       refine ⟨_,Weak.refl _,?_⟩
       simp only [go_sem,zaa,Nat.reduceAdd,Nat.reduceSub,Nat.reduceMul,Int.reduceToNat,reduceCtorEq,↓reduceIte,Int.reducePow,Nat.reducePow,Int.reduceMod,Nat.reduceLeDiff,Int.reduceLE,Int.reduceNe,Int.reduceEq,Nat.reduceEqDiff,Nat.reduceLT,Nat.reduceBEq,ty]
       refine ⟨_,zdv 4 (.sg 4 ((pls l q).map cmA) false) (fun w loc v h => sg_off h),?_⟩
       simp only [go_sem,zaa,Nat.reduceAdd,Nat.reduceSub,Nat.reduceMul,Int.reduceToNat,reduceCtorEq,↓reduceIte,Int.reducePow,Nat.reducePow,Int.reduceMod,Nat.reduceLeDiff,Int.reduceLE,Int.reduceNe,Int.reduceEq,Nat.reduceEqDiff,Nat.reduceLT,Nat.reduceBEq,ty,zal]
 · exact hp.elim
end
end Go.Proofs.Ytnmomgcanfpigaa
