/- What the proofs of this seat stand on; it asks nothing. -/
import Derived.Test.YtnmomgcanfpigaaZa12
set_option linter.unusedSimpArgs false
set_option linter.unusedVariables false
namespace Go.Proofs.Ytnmomgcanfpigaa
open Ax
def plC (d : List Cm) (c : Cm) (dead : Bool) : List Cm :=
 if fndI c d < d.length then (if dead then d.eraseIdx (fndI c d) else d.set (fndI c d) c) else if dead then d else d.take (insI c d) ++ c :: d.drop (insI c d)
def cmR (r : Rec) : Cm := ⟨cG r.key,cT r.key,cI r.key,cO r.dd r.val⟩
def pl1 (d : List Cm) (r : Rec) : List Cm := if gcK r.k r.key r.dd r.val = true then plC d (cmR r) r.dd else d
def pls (d : List Cm) (rs : List Rec) : List Cm := rs.foldl pl1 d
def emp4 : List AV → Bool
 | [] => true
 | _ => false
def cloneG21S : zal
 | [.sg 4 xs f],[] => ⟨xs.length ≤ 1000000 ∧ ∃ l : List Cm,xs = l.map cmA,bif emp4 xs then .sg 4 [] true else .ms 0 4 0 xs.length,bif emp4 xs then [] else [.g 4 xs]⟩
 | _,_ => zbg
def cloneGPl0 : XPlan := fun id => match id with
 | 1 => .tst [false,true]
 | 3 => .tst [true,false,true]
 | _ => .std
def cloneGPl : XPlan := fun id => match id with
 | 1 => .tst [false,true]
 | 3 => .tst [true]
 | _ => .std
theorem sg_true21 {w : World} {loc : Ax.Loc} {v : Value} {s : Nat} (s' : Nat) (h : R w loc (.sg s [] true) v) : R w loc (.sg s' [] true) v := by
 cases h with
 | sg _ _ _ a cap cs hd hs hc hl hx hh => exact .sg s' [] true a cap cs hd (by simp) hc hl hx hh
theorem sg_false21 {w : World} {loc : Ax.Loc} {v : Value} {s : Nat} (s' : Nat) (h : R w loc (.sg s [] true) v) : R w loc (.sg s' [] false) v := by
 cases h with
 | sg _ _ _ a cap cs hd hs hc hl hx hh => exact .sg s' [] false a cap cs ⟨hd.le,hd.top,fun h => by cases h⟩ (by simp) hc hl hx hh
section
set_option maxRecDepth 100000
set_option maxHeartbeats 4000000
theorem cloneG21_sound : zbb Try.prog 40 cloneG21S := by
 refine fn_soundOK (S := noS) (SO := noO) (T := ty) zbf ty_ok zbs noO_ok Try.func40 (c := Try.f40.body.getD .skip) (by kernel_rfl) (fun xs pins hp _ => ?_)
 unfold cloneG21S at hp ⊢
 split at hp
 · rename_i xs f _
   obtain ⟨hL,l,rfl⟩ := hp
   rw [List.length_map] at hL
   have hl4 : (l.map cmA).length = l.length := by simp
   cases l with
   | nil =>
     refine ⟨by simp,cloneGPl0,by kernel_rfl,?_⟩
     unfold Try.f40
     simp only [go_sem,zab,Nat.reduceAdd,Nat.reduceSub,Nat.reduceMul,Int.reduceToNat,reduceCtorEq,↓reduceIte,Int.reducePow,Nat.reducePow,Int.reduceMod,Nat.reduceLeDiff,Int.reduceLE,Int.reduceNe,Int.reduceEq,Nat.reduceEqDiff,Nat.reduceLT,Nat.reduceBEq,List.map_cons,List.map_nil,List.toList_toArray,Array.toList_append,Option.toArray_some,Option.toArray_none,Bool.and_self,ty,noS,cloneGPl0,specOp,List.map_nil,List.length_nil,emp4,cond_true]
     repeat (refine And.intro (by omega) ?_)
     intro b
     refine ⟨fun hb => ?_,fun hb => ?_⟩
     · refine ⟨_,zdc 2 (.sg 4 [] true) (fun w loc v h => sg_true21 4 h),?_⟩
       simp only [go_sem,zab,Nat.reduceAdd,Nat.reduceSub,Nat.reduceMul,Int.reduceToNat,reduceCtorEq,↓reduceIte,Int.reducePow,Nat.reducePow,Int.reduceMod,Nat.reduceLeDiff,Int.reduceLE,Int.reduceNe,Int.reduceEq,Nat.reduceEqDiff,Nat.reduceLT,Nat.reduceBEq,List.map_cons,List.map_nil,List.toList_toArray,Array.toList_append,Option.toArray_some,Option.toArray_none,Bool.and_self,ty,noS]
     · refine ⟨_,zdc 2 (.sg 4 [] true) (fun w loc v h => sg_true21 4 h),?_⟩
       simp only [go_sem,zab,Nat.reduceAdd,Nat.reduceSub,Nat.reduceMul,Int.reduceToNat,reduceCtorEq,↓reduceIte,Int.reducePow,Nat.reducePow,Int.reduceMod,Nat.reduceLeDiff,Int.reduceLE,Int.reduceNe,Int.reduceEq,Nat.reduceEqDiff,Nat.reduceLT,Nat.reduceBEq,List.map_cons,List.map_nil,List.toList_toArray,Array.toList_append,Option.toArray_some,Option.toArray_none,Bool.and_self,ty,noS]
   | cons c l =>
     refine ⟨by simp,cloneGPl,by kernel_rfl,?_⟩
     have hem : emp4 ((c :: l).map cmA) = false := rfl
     have hz : (c :: l).length ≠ 0 := by simp
     generalize hls : c :: l = ls at *
     have htop : ls.length ≤ top := by unfold top; omega
     unfold Try.f40
     simp only [go_sem,zab,Nat.reduceAdd,Nat.reduceSub,Nat.reduceMul,Int.reduceToNat,reduceCtorEq,↓reduceIte,Int.reducePow,Nat.reducePow,Int.reduceMod,Nat.reduceLeDiff,Int.reduceLE,Int.reduceNe,Int.reduceEq,Nat.reduceEqDiff,Nat.reduceLT,Nat.reduceBEq,List.map_cons,List.map_nil,List.toList_toArray,Array.toList_append,Option.toArray_some,Option.toArray_none,Bool.and_self,ty,noS,cloneGPl,specOp,hl4]
     repeat (refine And.intro (by omega) ?_)
     intro b hb
     obtain rfl : b = false := by cases b with | false => rfl | true => exact absurd (hb rfl) hz
     simp only [go_sem,zab,Nat.reduceAdd,Nat.reduceSub,Nat.reduceMul,Int.reduceToNat,reduceCtorEq,↓reduceIte,Int.reducePow,Nat.reducePow,Int.reduceMod,Nat.reduceLeDiff,Int.reduceLE,Int.reduceNe,Int.reduceEq,Nat.reduceEqDiff,Nat.reduceLT,Nat.reduceBEq,List.map_cons,List.map_nil,List.toList_toArray,Array.toList_append,Option.toArray_some,Option.toArray_none,Bool.and_self,ty,noS,cloneGPl,specOp,hl4,hem,cond_false]
     refine ⟨htop,_,Weak.refl _,?_⟩
     simp only [go_sem,zab,Nat.reduceAdd,Nat.reduceSub,Nat.reduceMul,Int.reduceToNat,reduceCtorEq,↓reduceIte,Int.reducePow,Nat.reducePow,Int.reduceMod,Nat.reduceLeDiff,Int.reduceLE,Int.reduceNe,Int.reduceEq,Nat.reduceEqDiff,Nat.reduceLT,Nat.reduceBEq,List.map_cons,List.map_nil,List.toList_toArray,Array.toList_append,Option.toArray_some,Option.toArray_none,Bool.and_self,ty,noS,hl4,hem,cond_false,zba]
 · exact hp.elim
def zee (f : FuncId) : Option zal :=
 match f with
 | 40 => some cloneG21S
 | 14 => some get21S
 | _ => none
theorem SPlg21_ok : Fns Try.prog zee := by
 intro f s h
 unfold zee at h
 split at h
 · injection h with h; subst h; exact ⟨⟨_,Try.func40,by kernel_rfl,by kernel_rfl⟩,cloneG21_sound⟩
 · injection h with h; subst h; exact ⟨⟨_,Try.func14,by kernel_rfl,by kernel_rfl⟩,get21_sound⟩
 · cases h
def zci (f : FuncId) : Option zal :=
 match f with
 | 41 => some playS
 | _ => none
theorem SOPlg21_ok : FnsO Try.prog zci := by
 intro f s h
 unfold zci at h
 split at h
 · injection h with h; subst h; exact ⟨⟨_,Try.func41,by kernel_rfl,by kernel_rfl⟩,play_sound⟩
 · cases h
def PlayS : zal
 | [.sg 4 xs f,.agg [.w (.int .i64 b),.w (.int .i64 c),.w (.int .i64 p),.w (.int .i64 e),.w (.int .i64 s),.sg 6 rs g]],[] =>
     ⟨(xs.length + rs.length ≤ 999999 ∧ ∃ l : List Cm,xs = l.map cmA) ∧ ∃ q : List Rec,rs = q.map rv ∧ ∀ r ∈ q,r.key.length ≤ 1000000 ∧ r.val.length ≤ 1000000,.sg 4 ((pls (xs.map ucm) (rs.map rrec)).map cmA) false,[]⟩
 | _,_ => zbg
def PlPl : XPlan := fun id => match id with
 | 7 => .opn [] 4
 | _ => .std
theorem delE_len {e : List Cm} {n i : Nat} (h : n ≤ e.length) (hi : i < n) : (delE e n i).length = n := by
 unfold delE
 simp only [List.length_append,List.length_take,List.length_drop,List.length_cons,List.length_nil]
 omega
theorem insE_len {e : List Cm} {n i : Nat} {c : Cm} (h : n ≤ e.length) (hi : i ≤ n) : (insE e n i c).length = n + 1 := by
 unfold insE
 simp only [List.length_append,List.length_take,List.length_drop,List.length_cons]
 omega
def plR (e : List Cm) (n K1 K2 : Nat) (c : Cm) : Bool → Bool → List Cm
 | true,true => (delE e n K1).take (n - 1)
 | true,false => (e.set K1 c).take n
 | false,true => e.take n
 | false,false => (insE e n K2 c).take (n + 1)
theorem playRes_get (e : List Cm) (n : Nat) (c : Cm) (dd : Bool) : playRes e n c dd = playR e n (fndI c (e.take n)) (insI c (e.take n)) c (decide (fndI c (e.take n) < n)) dd := rfl
theorem plC_get (e : List Cm) (n : Nat) (c : Cm) (dd : Bool) (h : n ≤ e.length) : plC (e.take n) c dd = plR e n (fndI c (e.take n)) (insI c (e.take n)) c (decide (fndI c (e.take n) < n)) dd := by
 have htl : (e.take n).length = n := by rw [List.length_take]; omega
 have hil : insI c (e.take n) ≤ n := Nat.le_trans List.findIdx_le_length (Nat.le_of_eq htl)
 unfold plC
 rw [htl]
 generalize fndI c (e.take n) = K1
 generalize insI c (e.take n) = K2 at *
 by_cases hf : K1 < n
 · rw [if_pos hf,decide_eq_true hf]
   cases dd with
   | true =>
     simp only [if_true,plR,delE]
     have hX : (e.take K1 ++ (e.take n).drop (K1 + 1)).length = n - 1 := by
       simp only [List.length_append,List.length_take,List.length_drop]
       omega
     rw [List.eraseIdx_eq_take_drop_succ,List.take_take,Nat.min_eq_left (by omega),← List.append_assoc,List.take_left' hX]
   | false =>
     simp only [Bool.false_eq_true,if_false,plR]
     rw [List.take_set]
 · rw [if_neg hf,decide_eq_false hf]
   cases dd with
   | true => rfl
   | false =>
     simp only [Bool.false_eq_true,if_false,plR,insE]
     rw [List.take_take,Nat.min_eq_left hil]
     refine (List.take_of_length_le ?_).symm
     simp only [List.length_append,List.length_take,List.length_drop,List.length_cons]
     omega
theorem coe0n : coe ty 48 (.sg 4 [] true) = .sg 4 [] true := rfl
def PlI (l : List Cm) (q : List Rec) (g : Bool) (m : Nat) (σ : ASt) : Prop := ∃ j : Nat,m = q.length - j ∧ j ≤ q.length ∧
 ((pls l (q.take j) = [] ∧ σ = ⟨[.sg 4 [] true,.junk,.junk,.junk,.junk,.junk,.junk,.junk,.junk,.junk,.junk,.junk,.sg 6 (q.map rv) g,.w (.int .i64 q.length),.w (.int .i64 j),.junk,.junk,.junk,.junk,.junk,.junk,.junk,.junk,.junk,.junk,.junk,.junk,.junk,.junk,.junk,.junk,.junk],[],5⟩) ∨
  (∃ (e : List Cm) (n : Nat),0 < e.length ∧ n ≤ e.length ∧ n ≤ l.length + j ∧ e.take n = pls l (q.take j) ∧ σ = ⟨[.ms 4 4 0 n,.junk,.junk,.junk,.junk,.junk,.junk,.junk,.junk,.junk,.junk,.junk,.sg 6 (q.map rv) g,.w (.int .i64 q.length),.w (.int .i64 j),.junk,.junk,.junk,.junk,.junk,.junk,.junk,.junk,.junk,.junk,.junk,.junk,.junk,.junk,.junk,.junk,.junk],[(4,.g 4 (e.map cmA))],5⟩))
set_option maxHeartbeats 8000000 in
theorem Play_sound : zbb Try.prog 21 PlayS := by
 refine fn_soundOK (S := zee) (SO := zci) (T := ty) zbf ty_ok SPlg21_ok SOPlg21_ok Try.func21 (c := Try.f21.body.getD .skip) (by kernel_rfl) (fun xs pins hp _ => ?_)
 unfold PlayS at hp ⊢
 split at hp
 · rename_i xs f b c p e s rs g _
   obtain ⟨⟨hL,l,rfl⟩,q,rfl,hq⟩ := hp
   rw [List.length_map,List.length_map] at hL
   rw [zbr,zay]
   have hl4 : (l.map cmA).length = l.length := by simp
   have hl6 : (q.map rv).length = q.length := by simp
   have hex : ∃ k : List Cm,l.map cmA = k.map cmA := ⟨l,rfl⟩
   have hl5 : decide ((l.length : Int) ≤ 1000000) = true := decide_eq_true (by omega)
   refine ⟨by simp,PlPl,by kernel_rfl,?_⟩
   unfold Try.f21
   have main : ∀ σ : ASt,(pls l [] = [] ∧ σ = ⟨[.sg 4 [] true,.junk,.junk,.junk,.junk,.junk,.junk,.junk,.junk,.junk,.junk,.junk,.sg 6 (q.map rv) g,.w (.int .i64 q.length),.w (.int .i64 0),.junk,.junk,.junk,.junk,.junk,.junk,.junk,.junk,.junk,.junk,.junk,.junk,.junk,.junk,.junk,.junk,.junk],[],5⟩) ∨
       (∃ (e' : List Cm) (n : Nat),0 < e'.length ∧ n ≤ e'.length ∧ n ≤ l.length ∧ e'.take n = pls l [] ∧ σ = ⟨[.ms 4 4 0 n,.junk,.junk,.junk,.junk,.junk,.junk,.junk,.junk,.junk,.junk,.junk,.sg 6 (q.map rv) g,.w (.int .i64 q.length),.w (.int .i64 0),.junk,.junk,.junk,.junk,.junk,.junk,.junk,.junk,.junk,.junk,.junk,.junk,.junk,.junk,.junk,.junk,.junk],[(4,.g 4 (e'.map cmA))],5⟩) → PlI l q g (q.length - 0) σ := by
     intro σ h
     refine ⟨0,rfl,Nat.zero_le _,?_⟩
     simpa only [List.take_zero,Nat.add_zero,Int.cast_ofNat_Int] using h
   rcases Classical.em (emp4 (l.map cmA) = true) with hz | hz
   case' inl =>
     have hl0 : l = [] := by cases l with | nil => rfl | cons _ _ => cases hz
     simp only [go_sem,zab,Nat.reduceAdd,Nat.reduceSub,Nat.reduceMul,Int.reduceToNat,reduceCtorEq,↓reduceIte,Int.reducePow,Nat.reducePow,Int.reduceMod,Nat.reduceLeDiff,Int.reduceLE,Int.reduceNe,Int.reduceEq,Nat.reduceEqDiff,Nat.reduceLT,Nat.reduceBEq,List.map_cons,List.map_nil,List.toList_toArray,Array.toList_append,Option.toArray_some,Option.toArray_none,Bool.and_self,ty,zee,zci,PlPl,cloneG21S,hl4,hl6,hex,coe_cm,hz,cond_true]
     refine And.intro (by omega) ?_
     refine zez ⟨PlI l q g,?_,?_⟩
     · refine ⟨_,_,zaf [0,1,2,3,4] rfl rfl rfl ?_ ?_,main _ (.inl ⟨by subst hl0; rfl,rfl⟩)⟩
       · simp only [ssT,zah,zai,setSlot,gOf,AV.ren,renL,Blk.ren,Ax.look,Ax.put,reduceCtorEq,↓reduceIte,Nat.reduceEqDiff,Nat.reduceLT,Nat.reduceAdd,List.length_append,List.length_cons,List.length_nil,Option.some.injEq]; try simp
       · simp only [ssT,zah,zai,setSlot,gOf,AV.ren,renL,Blk.ren,Ax.look,Ax.put,reduceCtorEq,↓reduceIte,Nat.reduceEqDiff,Nat.reduceLT,Nat.reduceAdd,List.length_append,List.length_cons,List.length_nil,Option.some.injEq]; try simp
   case' inr =>
     have hz : emp4 (l.map cmA) = false := by simpa using hz
     have hl0 : 0 < l.length := by cases l with | nil => cases hz | cons _ _ => simp
     simp only [go_sem,zab,Nat.reduceAdd,Nat.reduceSub,Nat.reduceMul,Int.reduceToNat,reduceCtorEq,↓reduceIte,Int.reducePow,Nat.reducePow,Int.reduceMod,Nat.reduceLeDiff,Int.reduceLE,Int.reduceNe,Int.reduceEq,Nat.reduceEqDiff,Nat.reduceLT,Nat.reduceBEq,List.map_cons,List.map_nil,List.toList_toArray,Array.toList_append,Option.toArray_some,Option.toArray_none,Bool.and_self,ty,zee,zci,PlPl,cloneG21S,hl4,hl6,hex,coe_cm,zba,zbp,hz,cond_false]
     refine And.intro (by omega) ?_
     refine zez ⟨PlI l q g,?_,?_⟩
     · refine ⟨_,_,zaf [0,1,2,3,28] rfl rfl rfl ?_ ?_,main _ (.inr ⟨l,l.length,hl0,Nat.le_refl _,Nat.le_refl _,List.take_length,rfl⟩)⟩
       · simp only [ssT,zah,zai,setSlot,gOf,AV.ren,renL,Blk.ren,Ax.look,Ax.put,reduceCtorEq,↓reduceIte,Nat.reduceEqDiff,Nat.reduceLT,Nat.reduceAdd,List.length_append,List.length_cons,List.length_nil,Option.some.injEq,zbp]; try simp
       · simp only [ssT,zah,zai,setSlot,gOf,AV.ren,renL,Blk.ren,Ax.look,Ax.put,reduceCtorEq,↓reduceIte,Nat.reduceEqDiff,Nat.reduceLT,Nat.reduceAdd,List.length_append,List.length_cons,List.length_nil,Option.some.injEq,zbp]; try simp
   all_goals
     rintro m σ ⟨j,rfl,hj,hor⟩
     by_cases hjl : j < q.length
     · have e1 : ((j : Int) + 1 + 9223372036854775808) % 18446744073709551616 - 9223372036854775808 = ((j + 1 : Nat) : Int) := by omega
       have d1 : decide ((j : Int) < q.length) = true := decide_eq_true (by omega)
       have hs1 := zfl rv q j hjl
       have hq1 := hq q[j] (List.getElem_mem hjl)
       have htk : pls l (q.take (j + 1)) = pl1 (pls l (q.take j)) q[j] := by
         unfold pls
         rw [List.take_succ_eq_append_getElem hjl,List.foldl_append]
         rfl
       obtain ⟨r,hr⟩ : ∃ r,q[j] = r := ⟨_,rfl⟩
       rw [hr] at hs1 hq1 htk
       obtain ⟨d,t,k,key,dd,val⟩ := r
       obtain ⟨hk1,hk2⟩ := hq1
       have hk1 : key.length ≤ 1000000 := hk1
       have hk2 : val.length ≤ 1000000 := hk2
       simp only [rv] at hs1
       have hwe : ∀ (σ' : ASt) (sl : List AV) (H : Heap) (nx : Nat),σ' = ⟨sl,H,nx⟩ → σ' = ⟨sl,H,nx⟩ := fun _ _ _ _ h => h
       cases hg : gcK k key dd val with
       | false =>
         have hga : gtCA k key dd val = .agg [.str [],.str [],.w (.int .i64 0),.w (.int .i64 0)] := by unfold gtCA; rw [hg]; rfl
         have htk : pls l (q.take (j + 1)) = pls l (q.take j) := by rw [htk]; exact if_neg (by rw [hg]; simp)
         rcases hor with ⟨h0,rfl⟩ | ⟨e,n,h1,h2,h3,h4,rfl⟩
         · simp only [go_sem,zab,Nat.reduceAdd,Nat.reduceSub,Nat.reduceMul,Int.reduceToNat,reduceCtorEq,↓reduceIte,Int.reducePow,Nat.reducePow,Int.reduceMod,Nat.reduceLeDiff,Int.reduceLE,Int.reduceNe,Int.reduceEq,Nat.reduceEqDiff,Nat.reduceLT,Nat.reduceBEq,List.map_cons,List.map_nil,List.toList_toArray,Array.toList_append,Option.toArray_some,Option.toArray_none,Bool.and_self,ty,zee,zci,PlPl,get21S,hl6,d1,e1,hs1,hk1,hk2,hg,hga,Int.toNat_natCast,cond_false]
           repeat (refine And.intro (by omega) ?_)
           refine ⟨q.length - (j + 1),_,by omega,zaf [0,1,2,3,4] rfl rfl rfl ?_ ?_,j + 1,rfl,by omega,.inl ⟨by rw [htk]; exact h0,rfl⟩⟩
           · simp only [ssT,zah,zai,setSlot,gOf,AV.ren,renL,Blk.ren,Ax.look,Ax.put,reduceCtorEq,↓reduceIte,Nat.reduceEqDiff,Nat.reduceLT,Nat.reduceAdd,List.length_append,List.length_cons,List.length_nil,Option.some.injEq]; try simp
           · simp only [ssT,zah,zai,setSlot,gOf,AV.ren,renL,Blk.ren,Ax.look,Ax.put,reduceCtorEq,↓reduceIte,Nat.reduceEqDiff,Nat.reduceLT,Nat.reduceAdd,List.length_append,List.length_cons,List.length_nil,Option.some.injEq]; try simp
         · simp only [go_sem,zab,Nat.reduceAdd,Nat.reduceSub,Nat.reduceMul,Int.reduceToNat,reduceCtorEq,↓reduceIte,Int.reducePow,Nat.reducePow,Int.reduceMod,Nat.reduceLeDiff,Int.reduceLE,Int.reduceNe,Int.reduceEq,Nat.reduceEqDiff,Nat.reduceLT,Nat.reduceBEq,List.map_cons,List.map_nil,List.toList_toArray,Array.toList_append,Option.toArray_some,Option.toArray_none,Bool.and_self,ty,zee,zci,PlPl,get21S,hl6,d1,e1,hs1,hk1,hk2,hg,hga,Int.toNat_natCast,cond_false]
           repeat (refine And.intro (by omega) ?_)
           refine ⟨q.length - (j + 1),_,by omega,zaf [0,1,2,3,4] rfl rfl rfl ?_ ?_,j + 1,rfl,by omega,.inr ⟨e,n,h1,h2,by omega,by rw [htk]; exact h4,rfl⟩⟩
           · simp only [ssT,zah,zai,setSlot,gOf,AV.ren,renL,Blk.ren,Ax.look,Ax.put,reduceCtorEq,↓reduceIte,Nat.reduceEqDiff,Nat.reduceLT,Nat.reduceAdd,List.length_append,List.length_cons,List.length_nil,Option.some.injEq,zbp]; try simp
           · simp only [ssT,zah,zai,setSlot,gOf,AV.ren,renL,Blk.ren,Ax.look,Ax.put,reduceCtorEq,↓reduceIte,Nat.reduceEqDiff,Nat.reduceLT,Nat.reduceAdd,List.length_append,List.length_cons,List.length_nil,Option.some.injEq,zbp]; try simp
       | true =>
         have hga : gtCA k key dd val = .agg [.str (cG key),.str (cT key),.w (.int .i64 (cI key)),.w (.int .i64 (cO dd val))] := by unfold gtCA; rw [hg]; rfl
         have htk : pls l (q.take (j + 1)) = plC (pls l (q.take j)) ⟨cG key,cT key,cI key,cO dd val⟩ dd := by rw [htk]; exact if_pos hg
         generalize cG key = G at *
         generalize cT key = T at *
         generalize cI key = I at *
         generalize cO dd val = O at *
         rcases hor with ⟨h0,rfl⟩ | ⟨e,n,h1,h2,h3,h4,rfl⟩
         · rw [h0] at htk
           cases dd with
           | true =>
             simp only [go_sem,zab,Nat.reduceAdd,Nat.reduceSub,Nat.reduceMul,Int.reduceToNat,reduceCtorEq,↓reduceIte,Int.reducePow,Nat.reducePow,Int.reduceMod,Nat.reduceLeDiff,Int.reduceLE,Int.reduceNe,Int.reduceEq,Nat.reduceEqDiff,Nat.reduceLT,Nat.reduceBEq,List.map_cons,List.map_nil,List.toList_toArray,Array.toList_append,Option.toArray_some,Option.toArray_none,Bool.and_self,ty,zee,zci,PlPl,get21S,playS,coe0n,hl6,d1,e1,hs1,hk1,hk2,hg,hga,Int.toNat_natCast,cond_true]
             repeat (refine And.intro (by omega) ?_)
             refine ⟨q.length - (j + 1),_,by omega,zaf [0,1,2,3,4] rfl rfl rfl ?_ ?_,j + 1,rfl,by omega,.inl ⟨htk,rfl⟩⟩
             · simp only [ssT,zah,zai,setSlot,gOf,AV.ren,renL,Blk.ren,Ax.look,Ax.put,reduceCtorEq,↓reduceIte,Nat.reduceEqDiff,Nat.reduceLT,Nat.reduceAdd,List.length_append,List.length_cons,List.length_nil,Option.some.injEq]; try simp
             · simp only [ssT,zah,zai,setSlot,gOf,AV.ren,renL,Blk.ren,Ax.look,Ax.put,reduceCtorEq,↓reduceIte,Nat.reduceEqDiff,Nat.reduceLT,Nat.reduceAdd,List.length_append,List.length_cons,List.length_nil,Option.some.injEq]; try simp
           | false =>
             simp only [go_sem,zab,Nat.reduceAdd,Nat.reduceSub,Nat.reduceMul,Int.reduceToNat,reduceCtorEq,↓reduceIte,Int.reducePow,Nat.reducePow,Int.reduceMod,Nat.reduceLeDiff,Int.reduceLE,Int.reduceNe,Int.reduceEq,Nat.reduceEqDiff,Nat.reduceLT,Nat.reduceBEq,List.map_cons,List.map_nil,List.toList_toArray,Array.toList_append,Option.toArray_some,Option.toArray_none,Bool.and_self,ty,zee,zci,PlPl,get21S,playS,coe0n,hl6,d1,e1,hs1,hk1,hk2,hg,hga,Int.toNat_natCast,cond_true]
             repeat (refine And.intro (by omega) ?_)
             refine ⟨q.length - (j + 1),_,by omega,zaf [0,1,2,3,157] rfl rfl rfl ?_ ?_,j + 1,rfl,by omega,.inr ⟨[⟨G,T,I,O⟩],1,by simp,by simp,by omega,htk.symm,rfl⟩⟩
             · simp only [ssT,zah,zai,setSlot,gOf,AV.ren,renL,Blk.ren,Ax.look,Ax.put,reduceCtorEq,↓reduceIte,Nat.reduceEqDiff,Nat.reduceLT,Nat.reduceAdd,List.length_append,List.length_cons,List.length_nil,Option.some.injEq]; (try simp); (try rfl)
             · simp only [ssT,zah,zai,setSlot,gOf,AV.ren,renL,Blk.ren,Ax.look,Ax.put,reduceCtorEq,↓reduceIte,Nat.reduceEqDiff,Nat.reduceLT,Nat.reduceAdd,List.length_append,List.length_cons,List.length_nil,Option.some.injEq]; (try simp); (try rfl)
         · rw [← h4] at htk
           have htl : (e.take n).length = n := by rw [List.length_take]; omega
           have hR := playRes_get e n ⟨G,T,I,O⟩ dd
           have hpl := plC_get e n ⟨G,T,I,O⟩ dd h2
           have hpos : decide (0 < e.length) = true := decide_eq_true h1
           have hex2 : ∃ k : List Cm,e.map cmA = k.map cmA := ⟨e,rfl⟩
           rw [hpl] at htk
           cases hf : decide (fndI ⟨G,T,I,O⟩ (e.take n) < n) with
           | true =>
             have hlt := of_decide_eq_true hf
             rw [hf] at hR htk
             cases dd with
             | true =>
               simp only [playR] at hR
               simp only [go_sem,zab,Nat.reduceAdd,Nat.reduceSub,Nat.reduceMul,Int.reduceToNat,reduceCtorEq,↓reduceIte,Int.reducePow,Nat.reducePow,Int.reduceMod,Nat.reduceLeDiff,Int.reduceLE,Int.reduceNe,Int.reduceEq,Nat.reduceEqDiff,Nat.reduceLT,Nat.reduceBEq,List.map_cons,List.map_nil,List.toList_toArray,Array.toList_append,Option.toArray_some,Option.toArray_none,Bool.and_self,ty,zee,zci,PlPl,get21S,playS,coe0n,hl6,d1,e1,hs1,hk1,hk2,hg,hga,hR,hpos,hex2,List.length_map,zbr,zba,zbp,ids_cm,Bool.cond_self,Int.toNat_natCast,cond_true]
               refine ⟨⟨by omega,by omega⟩,⟨by omega,by omega,by omega⟩,?_⟩
               refine ⟨q.length - (j + 1),_,by omega,zaf [0,1,2,3,4] rfl rfl rfl ?_ ?_,j + 1,rfl,by omega,.inr ⟨delE e n (fndI ⟨G,T,I,O⟩ (e.take n)),n - 1,by rw [delE_len h2 hlt]; omega,by rw [delE_len h2 hlt]; omega,by omega,htk.symm,rfl⟩⟩
               · simp only [ssT,zah,zai,setSlot,gOf,AV.ren,renL,Blk.ren,Ax.look,Ax.put,reduceCtorEq,↓reduceIte,Nat.reduceEqDiff,Nat.reduceLT,Nat.reduceAdd,List.length_append,List.length_cons,List.length_nil,Option.some.injEq,zbp]; try simp
               · simp only [ssT,zah,zai,setSlot,gOf,AV.ren,renL,Blk.ren,Ax.look,Ax.put,reduceCtorEq,↓reduceIte,Nat.reduceEqDiff,Nat.reduceLT,Nat.reduceAdd,List.length_append,List.length_cons,List.length_nil,Option.some.injEq,zbp]; try simp
             | false =>
               simp only [playR] at hR
               simp only [go_sem,zab,Nat.reduceAdd,Nat.reduceSub,Nat.reduceMul,Int.reduceToNat,reduceCtorEq,↓reduceIte,Int.reducePow,Nat.reducePow,Int.reduceMod,Nat.reduceLeDiff,Int.reduceLE,Int.reduceNe,Int.reduceEq,Nat.reduceEqDiff,Nat.reduceLT,Nat.reduceBEq,List.map_cons,List.map_nil,List.toList_toArray,Array.toList_append,Option.toArray_some,Option.toArray_none,Bool.and_self,ty,zee,zci,PlPl,get21S,playS,coe0n,hl6,d1,e1,hs1,hk1,hk2,hg,hga,hR,hpos,hex2,List.length_map,zbr,zba,zbp,ids_cm,Bool.cond_self,Int.toNat_natCast,cond_true]
               refine ⟨⟨by omega,by omega⟩,⟨by omega,by omega,by omega⟩,?_⟩
               refine ⟨q.length - (j + 1),_,by omega,zaf [0,1,2,3,4] rfl rfl rfl ?_ ?_,j + 1,rfl,by omega,.inr ⟨e.set (fndI ⟨G,T,I,O⟩ (e.take n)) ⟨G,T,I,O⟩,n,by rw [List.length_set]; omega,by rw [List.length_set]; omega,by omega,htk.symm,rfl⟩⟩
               · simp only [ssT,zah,zai,setSlot,gOf,AV.ren,renL,Blk.ren,Ax.look,Ax.put,reduceCtorEq,↓reduceIte,Nat.reduceEqDiff,Nat.reduceLT,Nat.reduceAdd,List.length_append,List.length_cons,List.length_nil,Option.some.injEq,zbp]; try simp
               · simp only [ssT,zah,zai,setSlot,gOf,AV.ren,renL,Blk.ren,Ax.look,Ax.put,reduceCtorEq,↓reduceIte,Nat.reduceEqDiff,Nat.reduceLT,Nat.reduceAdd,List.length_append,List.length_cons,List.length_nil,Option.some.injEq,zbp]; try simp
           | false =>
             rw [hf] at hR htk
             cases dd with
             | true =>
               simp only [playR] at hR
               simp only [go_sem,zab,Nat.reduceAdd,Nat.reduceSub,Nat.reduceMul,Int.reduceToNat,reduceCtorEq,↓reduceIte,Int.reducePow,Nat.reducePow,Int.reduceMod,Nat.reduceLeDiff,Int.reduceLE,Int.reduceNe,Int.reduceEq,Nat.reduceEqDiff,Nat.reduceLT,Nat.reduceBEq,List.map_cons,List.map_nil,List.toList_toArray,Array.toList_append,Option.toArray_some,Option.toArray_none,Bool.and_self,ty,zee,zci,PlPl,get21S,playS,coe0n,hl6,d1,e1,hs1,hk1,hk2,hg,hga,hR,hpos,hex2,List.length_map,zbr,zba,zbp,ids_cm,Bool.cond_self,Int.toNat_natCast,cond_true]
               refine ⟨⟨by omega,by omega⟩,⟨by omega,by omega,by omega⟩,?_⟩
               refine ⟨q.length - (j + 1),_,by omega,zaf [0,1,2,3,4] rfl rfl rfl ?_ ?_,j + 1,rfl,by omega,.inr ⟨e,n,h1,h2,by omega,htk.symm,rfl⟩⟩
               · simp only [ssT,zah,zai,setSlot,gOf,AV.ren,renL,Blk.ren,Ax.look,Ax.put,reduceCtorEq,↓reduceIte,Nat.reduceEqDiff,Nat.reduceLT,Nat.reduceAdd,List.length_append,List.length_cons,List.length_nil,Option.some.injEq,zbp]; try simp
               · simp only [ssT,zah,zai,setSlot,gOf,AV.ren,renL,Blk.ren,Ax.look,Ax.put,reduceCtorEq,↓reduceIte,Nat.reduceEqDiff,Nat.reduceLT,Nat.reduceAdd,List.length_append,List.length_cons,List.length_nil,Option.some.injEq,zbp]; try simp
             | false =>
               simp only [playR] at hR
               simp only [go_sem,zab,Nat.reduceAdd,Nat.reduceSub,Nat.reduceMul,Int.reduceToNat,reduceCtorEq,↓reduceIte,Int.reducePow,Nat.reducePow,Int.reduceMod,Nat.reduceLeDiff,Int.reduceLE,Int.reduceNe,Int.reduceEq,Nat.reduceEqDiff,Nat.reduceLT,Nat.reduceBEq,List.map_cons,List.map_nil,List.toList_toArray,Array.toList_append,Option.toArray_some,Option.toArray_none,Bool.and_self,ty,zee,zci,PlPl,get21S,playS,coe0n,hl6,d1,e1,hs1,hk1,hk2,hg,hga,hR,hpos,hex2,List.length_map,zbr,zba,zbp,ids_cm,Bool.cond_self,Int.toNat_natCast,cond_true]
               refine ⟨⟨by omega,by omega⟩,⟨by omega,by omega,by omega⟩,?_⟩
               have hil : insI ⟨G,T,I,O⟩ (e.take n) ≤ n := Nat.le_trans List.findIdx_le_length (Nat.le_of_eq htl)
               refine ⟨q.length - (j + 1),_,by omega,zaf [0,1,2,3,157] rfl rfl rfl ?_ ?_,j + 1,rfl,by omega,.inr ⟨insE e n (insI ⟨G,T,I,O⟩ (e.take n)) ⟨G,T,I,O⟩,n + 1,by rw [insE_len h2 hil]; omega,by rw [insE_len h2 hil]; omega,by omega,htk.symm,rfl⟩⟩
               · simp only [ssT,zah,zai,setSlot,gOf,AV.ren,renL,Blk.ren,Ax.look,Ax.put,reduceCtorEq,↓reduceIte,Nat.reduceEqDiff,Nat.reduceLT,Nat.reduceAdd,List.length_append,List.length_cons,List.length_nil,Option.some.injEq,zbp]; try simp
               · simp only [ssT,zah,zai,setSlot,gOf,AV.ren,renL,Blk.ren,Ax.look,Ax.put,reduceCtorEq,↓reduceIte,Nat.reduceEqDiff,Nat.reduceLT,Nat.reduceAdd,List.length_append,List.length_cons,List.length_nil,Option.some.injEq,zbp]; try simp
     · have d1 : decide ((j : Int) < q.length) = false := decide_eq_false (by omega)
       obtain rfl : j = q.length := by omega
       rw [List.take_length] at hor
       rcases hor with ⟨h0,rfl⟩ | ⟨e,n,h1,h2,h3,h4,rfl⟩
       · rw [h0]
         simp only [go_sem,zab,Nat.reduceAdd,Nat.reduceSub,Nat.reduceMul,Int.reduceToNat,reduceCtorEq,↓reduceIte,Int.reducePow,Nat.reducePow,Int.reduceMod,Nat.reduceLeDiff,Int.reduceLE,Int.reduceNe,Int.reduceEq,Nat.reduceEqDiff,Nat.reduceLT,Nat.reduceBEq,List.map_cons,List.map_nil,List.toList_toArray,Array.toList_append,Option.toArray_some,Option.toArray_none,Bool.and_self,ty,zee,zci,PlPl,hl6,d1]
         refine ⟨_,Weak.refl _,?_⟩
         simp only [go_sem,zab,Nat.reduceAdd,Nat.reduceSub,Nat.reduceMul,Int.reduceToNat,reduceCtorEq,↓reduceIte,Int.reducePow,Nat.reducePow,Int.reduceMod,Nat.reduceLeDiff,Int.reduceLE,Int.reduceNe,Int.reduceEq,Nat.reduceEqDiff,Nat.reduceLT,Nat.reduceBEq,List.map_cons,List.map_nil,List.toList_toArray,Array.toList_append,Option.toArray_some,Option.toArray_none,Bool.and_self,ty,zee,zci,PlPl,List.map_nil]
         refine ⟨_,zdc 4 (.sg 4 [] false) (fun w loc v h => sg_false21 4 h),?_⟩
         simp only [go_sem,zab,Nat.reduceAdd,Nat.reduceSub,Nat.reduceMul,Int.reduceToNat,reduceCtorEq,↓reduceIte,Int.reducePow,Nat.reducePow,Int.reduceMod,Nat.reduceLeDiff,Int.reduceLE,Int.reduceNe,Int.reduceEq,Nat.reduceEqDiff,Nat.reduceLT,Nat.reduceBEq,List.map_cons,List.map_nil,List.toList_toArray,Array.toList_append,Option.toArray_some,Option.toArray_none,Bool.and_self,ty]
       · rw [← h4]
         have dle : decide (n ≤ (e.map cmA).length) = true := decide_eq_true (by rw [List.length_map]; omega)
         have dt : List.take n (e.map cmA) = (e.take n).map cmA := List.map_take.symm
         simp only [go_sem,zab,Nat.reduceAdd,Nat.reduceSub,Nat.reduceMul,Int.reduceToNat,reduceCtorEq,↓reduceIte,Int.reducePow,Nat.reducePow,Int.reduceMod,Nat.reduceLeDiff,Int.reduceLE,Int.reduceNe,Int.reduceEq,Nat.reduceEqDiff,Nat.reduceLT,Nat.reduceBEq,List.map_cons,List.map_nil,List.toList_toArray,Array.toList_append,Option.toArray_some,Option.toArray_none,Bool.and_self,ty,zee,zci,PlPl,hl6,d1]
         refine ⟨_,Weak.refl _,?_⟩
         simp only [go_sem,zab,Nat.reduceAdd,Nat.reduceSub,Nat.reduceMul,Int.reduceToNat,reduceCtorEq,↓reduceIte,Int.reducePow,Nat.reducePow,Int.reduceMod,Nat.reduceLeDiff,Int.reduceLE,Int.reduceNe,Int.reduceEq,Nat.reduceEqDiff,Nat.reduceLT,Nat.reduceBEq,List.map_cons,List.map_nil,List.toList_toArray,Array.toList_append,Option.toArray_some,Option.toArray_none,Bool.and_self,ty,zee,zci,PlPl,List.map_nil]
         refine ⟨_,weak_fg 4 4 4 (e.map cmA) rfl (zba e) (by simp [slot,AV.ids]),?_⟩
         simp only [go_sem,zab,Nat.reduceAdd,Nat.reduceSub,Nat.reduceMul,Int.reduceToNat,reduceCtorEq,↓reduceIte,Int.reducePow,Nat.reducePow,Int.reduceMod,Nat.reduceLeDiff,Int.reduceLE,Int.reduceNe,Int.reduceEq,Nat.reduceEqDiff,Nat.reduceLT,Nat.reduceBEq,List.map_cons,List.map_nil,List.toList_toArray,Array.toList_append,Option.toArray_some,Option.toArray_none,Bool.and_self,ty,fgL,fgH,AV.fg,Blk.fg,dle,dt,List.drop_zero,BEq.rfl,Bool.and_self,cond_true,Bool.true_and]
 · exact hp.elim
end
end Go.Proofs.Ytnmomgcanfpigaa
namespace Go.Proofs.Ytnmomgcanfpigaa
open Ax
theorem map_cm (l : List Cm) : (l.map cmA).map ucm = l := zbr l
theorem slot_fgL_cm (id s : Nat) (zs : List AV) : ∀ (sl : List AV) (i : Nat),slot (fgL id s zs sl) i = (slot sl i).fg id s zs
 | [],i => rfl
 | x :: sl,0 => rfl
 | x :: sl,i + 1 => slot_fgL_cm id s zs sl i
theorem g_ends_cm {T : zac} {sl : List AV} {H : Heap} {nx id n s : Nat} {ws rs : List AV} {q : Prop} (i : Nat) (h2 : slot sl i = .ms id s 0 n) (hl : Ax.look H id = some (.g s ws)) (hc : closedL ws = true) (hn : n = ws.length) (hr : rs = ws) :
   EndsW T [.tmp i] [] ⟨q,.sg s rs false,[]⟩ .ret ⟨sl,H,nx⟩ := by
 subst hn hr
 have hs : slot (fgL id s rs sl) i = .sg s rs false := by
   rw [slot_fgL_cm,h2]
   simp [AV.fg]
 refine ⟨_,weak_fg id s i rs hl hc (by rw [h2]; simp [AV.ids]),?_⟩
 simp only [Ax.Ends,Ax.rvals,EndsX,rone,hs,AV.ids,idsL,newIds,upTo,nodup,pinsOf,List.nil_append,AV.ren,renL,and_self]
theorem zcc {T : zac} {sl : List AV} {H : Heap} {nx : Nat} {v : Value} {q : Prop} (i : Nat) (h : slot sl i = .w v) : EndsW T [.tmp i] [] ⟨q,.w v,[]⟩ .ret ⟨sl,H,nx⟩ := by
 refine ⟨_,Weak.refl _,?_⟩
 simp only [Ax.Ends,Ax.rvals,EndsX,rone,h,AV.ids,idsL,newIds,upTo,nodup,pinsOf,List.nil_append,AV.ren,and_self]
theorem same_len_cm {α : Type} {l k : List α} (h : l.length ≠ k.length) : ¬ l = k := fun e => h (by rw [e])
section
set_option maxRecDepth 100000
def as21S : zal
 | [.sg 4 xs f],[] => ⟨xs.length ≤ 1000000 ∧ ∃ l : List Cm,xs = l.map cmA,.sg 4 xs false,[]⟩
 | _,_ => zbg
set_option maxHeartbeats 4000000 in
theorem as21_sound : zbb Try.prog 25 as21S := by
 refine zfr (S := noS) (T := ty) zbf ty_ok zbs Try.func25 (c := Try.f25.body.getD .skip) (by kernel_rfl) (by kernel_rfl) (fun xs pins hp _ => ?_)
 unfold as21S at hp ⊢
 split at hp
 · rename_i xs f _
   obtain ⟨hL,l,rfl⟩ := hp
   rw [List.length_map] at hL
   have hle : (l.map cmA).length = l.length := by simp
   have ht : top = 4294967296 := rfl
   refine ⟨by simp,?_⟩
   unfold Try.f25
   simp only [go_sem,zaa,Nat.reduceAdd,Nat.reduceSub,Nat.reduceMul,Int.reduceToNat,reduceCtorEq,↓reduceIte,Int.reducePow,Nat.reducePow,Int.reduceMod,Nat.reduceLeDiff,Int.reduceLE,Int.reduceNe,Int.reduceEq,Nat.reduceEqDiff,Nat.reduceLT,Nat.reduceBEq,ty,noS,hle]
   refine awp_loopW ⟨fun m σ => ∃ j : Nat,m = l.length - j ∧ j ≤ l.length ∧
       σ = ⟨[.sg 4 (l.map cmA) f,.junk,.sg 1 [] true,.ms 4 4 0 j,.w (.int .i64 j),.junk,.junk,.junk,.junk,.junk,.junk,.junk,.junk,.junk,.junk,.junk,.junk,.junk,.junk],[(4,.g 4 ((l.take j).map cmA))],5⟩,?_,?_⟩
   · refine ⟨_,_,(weak_nil 3 4 (.g 4 []) ⟨by decide,rfl⟩ (by exact trivial)).trans (zaf [0,1,2,3,28] rfl rfl rfl ?_ ?_),0,rfl,by omega,rfl⟩
     · simp only [ssT,zah,zai,setSlot,gOf,AV.ren,renL,Blk.ren,Ax.look,Ax.put,reduceCtorEq,↓reduceIte,Nat.reduceEqDiff,Nat.reduceLT,Nat.reduceAdd,List.length_append,List.length_cons,List.length_nil,Option.some.injEq]; try simp
       try rfl
     · simp only [ssT,zah,zai,setSlot,gOf,AV.ren,renL,Blk.ren,Ax.look,Ax.put,reduceCtorEq,↓reduceIte,Nat.reduceEqDiff,Nat.reduceLT,Nat.reduceAdd,List.length_append,List.length_cons,List.length_nil,Option.some.injEq]; try simp [renL]
   · rintro m σ ⟨j,rfl,hi,rfl⟩
     have e1 : ((j : Int) + 1 + 9223372036854775808) % 18446744073709551616 - 9223372036854775808 = ((j + 1 : Nat) : Int) := by omega
     have hml : ((l.take j).map cmA).length = j := by simp; omega
     by_cases hil : j < l.length
     · have d1 : decide ((j : Int) < l.length) = true := decide_eq_true (by omega)
       have hs1 := slot_cm l j hil
       have htk : l.take (j + 1) = l.take j ++ [l[j]] := List.take_succ_eq_append_getElem hil
       obtain ⟨r,hr⟩ : ∃ r,l[j] = r := ⟨_,rfl⟩
       rw [hr] at hs1 htk
       obtain ⟨g,t,i,o⟩ := r
       have hs1 : slot (l.map cmA) j = .agg [.str g,.str t,.w (.int .i64 i),.w (.int .i64 o)] := hs1
       have hat : (l.take j).map cmA ++ [.agg [.str g,.str t,.w (.int .i64 i),.w (.int .i64 o)]] = (l.take (j + 1)).map cmA := by rw [htk,List.map_append]; rfl
       simp only [go_sem,zaa,Nat.reduceAdd,Nat.reduceSub,Nat.reduceMul,Int.reduceToNat,reduceCtorEq,↓reduceIte,Int.reducePow,Nat.reducePow,Int.reduceMod,Nat.reduceLeDiff,Int.reduceLE,Int.reduceNe,Int.reduceEq,Nat.reduceEqDiff,Nat.reduceLT,Nat.reduceBEq,ty,noS,hle,hml,d1,hs1,e1,Int.toNat_natCast,hat]
       repeat (refine And.intro (by first | omega | decide) ?_)
       refine ⟨l.length - (j + 1),_,by omega,zaf [0,1,2,3,85] rfl rfl rfl ?_ ?_,j + 1,rfl,by omega,rfl⟩
       · simp only [ssT,zah,zai,setSlot,gOf,AV.ren,renL,Blk.ren,Ax.look,Ax.put,reduceCtorEq,↓reduceIte,Nat.reduceEqDiff,Nat.reduceLT,Nat.reduceAdd,List.length_append,List.length_cons,List.length_nil,Option.some.injEq]; try simp
       · simp only [ssT,zah,zai,setSlot,gOf,AV.ren,renL,Blk.ren,Ax.look,Ax.put,reduceCtorEq,↓reduceIte,Nat.reduceEqDiff,Nat.reduceLT,Nat.reduceAdd,List.length_append,List.length_cons,List.length_nil,Option.some.injEq,zbp]; try simp
     · have d1 : decide ((j : Int) < l.length) = false := decide_eq_false (by omega)
       have hii : l.take j = l := List.take_of_length_le (by omega)
       rw [hii] at hml ⊢
       simp only [go_sem,zaa,Nat.reduceAdd,Nat.reduceSub,Nat.reduceMul,Int.reduceToNat,reduceCtorEq,↓reduceIte,Int.reducePow,Nat.reducePow,Int.reduceMod,Nat.reduceLeDiff,Int.reduceLE,Int.reduceNe,Int.reduceEq,Nat.reduceEqDiff,Nat.reduceLT,Nat.reduceBEq,ty,noS,hle,d1]
       refine ⟨_,Weak.refl _,?_⟩
       simp only [go_sem,zaa,Nat.reduceAdd,Nat.reduceSub,Nat.reduceMul,Int.reduceToNat,reduceCtorEq,↓reduceIte,Int.reducePow,Nat.reducePow,Int.reduceMod,Nat.reduceLeDiff,Int.reduceLE,Int.reduceNe,Int.reduceEq,Nat.reduceEqDiff,Nat.reduceLT,Nat.reduceBEq,ty,noS]
       exact g_ends_cm 2 rfl rfl (zba l) hml.symm rfl
 · exact hp.elim
end
theorem eq_cm_dec (g1 g2 : List UInt8) (t1 t2 : List UInt8) (i1 i2 : Int) (o1 o2 : Int) :
   (decide (g1 = g2) && (decide (t1 = t2) && (decide (i1 = i2) && (decide (o1 = o2))))) = decide ((⟨g1,t1,i1,o1⟩ : Cm) = ⟨g2,t2,i2,o2⟩) := by
 simp only [Cm.mk.injEq,Bool.decide_and]
theorem same_drop_cm {l k : List Cm} {i : Nat} (h1 : i < l.length) (h2 : i < k.length) : (l.drop i = k.drop i) = (l[i] = k[i] ∧ l.drop (i + 1) = k.drop (i + 1)) := by
 rw [List.drop_eq_getElem_cons h1,List.drop_eq_getElem_cons h2,List.cons.injEq]
section
set_option maxRecDepth 100000
def rsame21S : zal
 | [.sg 4 xs f,.sg 4 ys g],[] => ⟨xs.length ≤ 9223372036854775807 ∧ ys.length ≤ 9223372036854775807 ∧ (∃ l : List Cm,xs = l.map cmA) ∧ ∃ k : List Cm,ys = k.map cmA,.w (.bool (decide (xs.map ucm = ys.map ucm))),[]⟩
 | _,_ => zbg
def zdx : Plan := fun id => match id with
 | 6 => some []
 | _ => none
set_option maxHeartbeats 4000000 in
theorem rsame21_sound : zbb Try.prog 24 rsame21S := by
 refine fn_soundF (S := noS) (T := ty) (pl := zdx) zbf ty_ok zbs Try.func24 (c := Try.f24.body.getD .skip) (by kernel_rfl) (by kernel_rfl) (fun xs pins hp _ => ?_)
 unfold rsame21S at hp ⊢
 split at hp
 · rename_i xs f ys g _
   obtain ⟨hL,hK,⟨l,rfl⟩,k,rfl⟩ := hp
   rw [List.length_map] at hL hK
   have hle : (l.map cmA).length = l.length := by simp
   have hke : (k.map cmA).length = k.length := by simp
   rw [map_cm,map_cm]
   refine ⟨by simp,?_⟩
   unfold Try.f24
   by_cases hn : l.length = k.length
   · have d1 : decide ((l.length : Int) = k.length) = true := decide_eq_true (by omega)
     simp only [go_sem,coe,zas,Nat.reduceAdd,Nat.reduceSub,Nat.reduceMul,Int.reduceToNat,reduceCtorEq,↓reduceIte,Int.reducePow,Nat.reducePow,Int.reduceMod,Nat.reduceLeDiff,Int.reduceLE,Int.reduceNe,Int.reduceEq,Nat.reduceEqDiff,Nat.reduceLT,Nat.reduceBEq,List.map_cons,List.map_nil,List.toList_toArray,Array.toList_append,Option.toArray_some,Option.toArray_none,Bool.and_self,ty,noS,zdx,hle,hke,d1]
     refine awpF_loopW ⟨fun m σ => ∃ j : Nat,m = l.length - j ∧ j ≤ l.length ∧ (l.drop j = k.drop j) = (l = k) ∧
       σ = ⟨[.sg 4 (l.map cmA) f,.sg 4 (k.map cmA) g,.junk,.junk,.junk,.w (.int .i64 j),.junk,.junk,.junk,.junk,.junk,.junk,.junk,.junk,.junk,.junk,.junk,.junk,.junk,.junk,.junk,.junk,.junk,.junk,.junk,.junk],[],4⟩,?_,?_⟩
     · refine ⟨_,_,zaf [0,1,2,3] rfl rfl rfl ?_ ?_,0,rfl,by omega,rfl,rfl⟩
       · simp only [ssT,zah,zai,setSlot,gOf,AV.ren,renL,Blk.ren,Ax.look,Ax.put,reduceCtorEq,↓reduceIte,Nat.reduceEqDiff,Nat.reduceLT,Nat.reduceAdd,List.length_append,List.length_cons,List.length_nil,Option.some.injEq]; try simp
       · simp only [ssT,zah,zai,setSlot,gOf,AV.ren,renL,Blk.ren,Ax.look,Ax.put,reduceCtorEq,↓reduceIte,Nat.reduceEqDiff,Nat.reduceLT,Nat.reduceAdd,List.length_append,List.length_cons,List.length_nil,Option.some.injEq]
     · rintro m σ ⟨j,rfl,hi,hs,rfl⟩
       by_cases hil : j < l.length
       · have d2 : decide ((j : Int) < l.length) = true := decide_eq_true (by omega)
         have e1 : ((j : Int) + 1 + 9223372036854775808) % 18446744073709551616 - 9223372036854775808 = ((j + 1 : Nat) : Int) := by omega
         have hs1 := slot_cm l j hil
         have hs2 := slot_cm k j (by omega)
         have hd := same_drop_cm hil (show j < k.length by omega)
         rw [hs] at hd
         obtain ⟨p,hp1⟩ : ∃ y,l[j] = y := ⟨_,rfl⟩
         obtain ⟨q,hq1⟩ : ∃ y,k[j]'(by omega) = y := ⟨_,rfl⟩
         rw [hp1] at hs1 hd
         rw [hq1] at hs2 hd
         obtain ⟨g1,t1,i1,o1⟩ := p
         obtain ⟨g2,t2,i2,o2⟩ := q
         have hs1 : slot (l.map cmA) j = .agg [.str g1,.str t1,.w (.int .i64 i1),.w (.int .i64 o1)] := hs1
         have hs2 : slot (k.map cmA) j = .agg [.str g2,.str t2,.w (.int .i64 i2),.w (.int .i64 o2)] := hs2
         by_cases he : (⟨g1,t1,i1,o1⟩ : Cm) = ⟨g2,t2,i2,o2⟩
         · have d3 := decide_eq_true he
           simp only [he,true_and] at hd
           simp only [go_sem,coe,zas,Nat.reduceAdd,Nat.reduceSub,Nat.reduceMul,Int.reduceToNat,reduceCtorEq,↓reduceIte,Int.reducePow,Nat.reducePow,Int.reduceMod,Nat.reduceLeDiff,Int.reduceLE,Int.reduceNe,Int.reduceEq,Nat.reduceEqDiff,Nat.reduceLT,Nat.reduceBEq,List.map_cons,List.map_nil,List.toList_toArray,Array.toList_append,Option.toArray_some,Option.toArray_none,Bool.and_self,ty,noS,zdx,hle,hke,d2,e1,hs1,hs2,eq_cm_dec,d3,Int.toNat_natCast]
           repeat (refine And.intro (by omega) ?_)
           refine ⟨l.length - (j + 1),_,by omega,zaf [0,1,2,3] rfl rfl rfl ?_ ?_,j + 1,rfl,by omega,hd.symm,rfl⟩
           · simp only [ssT,zah,zai,setSlot,gOf,AV.ren,renL,Blk.ren,Ax.look,Ax.put,reduceCtorEq,↓reduceIte,Nat.reduceEqDiff,Nat.reduceLT,Nat.reduceAdd,List.length_append,List.length_cons,List.length_nil,Option.some.injEq]
           · simp only [ssT,zah,zai,setSlot,gOf,AV.ren,renL,Blk.ren,Ax.look,Ax.put,reduceCtorEq,↓reduceIte,Nat.reduceEqDiff,Nat.reduceLT,Nat.reduceAdd,List.length_append,List.length_cons,List.length_nil,Option.some.injEq]
         · have d3 := decide_eq_false he
           have hno : decide (l = k) = false := decide_eq_false (by rw [hd]; exact fun h => he h.1)
           rw [hno]
           simp only [go_sem,coe,zas,Nat.reduceAdd,Nat.reduceSub,Nat.reduceMul,Int.reduceToNat,reduceCtorEq,↓reduceIte,Int.reducePow,Nat.reducePow,Int.reduceMod,Nat.reduceLeDiff,Int.reduceLE,Int.reduceNe,Int.reduceEq,Nat.reduceEqDiff,Nat.reduceLT,Nat.reduceBEq,List.map_cons,List.map_nil,List.toList_toArray,Array.toList_append,Option.toArray_some,Option.toArray_none,Bool.and_self,ty,noS,zdx,hle,hke,d2,e1,hs1,hs2,eq_cm_dec,d3,Int.toNat_natCast]
           repeat (refine And.intro (by omega) ?_)
           refine ⟨_,Weak.refl _,?_⟩
           simp only [go_sem,coe,zas,Nat.reduceAdd,Nat.reduceSub,Nat.reduceMul,Int.reduceToNat,reduceCtorEq,↓reduceIte,Int.reducePow,Nat.reducePow,Int.reduceMod,Nat.reduceLeDiff,Int.reduceLE,Int.reduceNe,Int.reduceEq,Nat.reduceEqDiff,Nat.reduceLT,Nat.reduceBEq,List.map_cons,List.map_nil,List.toList_toArray,Array.toList_append,Option.toArray_some,Option.toArray_none,Bool.and_self,ty,noS,zdx]
           exact zcc 4 rfl
       · have d2 : decide ((j : Int) < l.length) = false := decide_eq_false (by omega)
         have : decide (l = k) = true := by
           refine decide_eq_true ?_
           rw [← hs,List.drop_of_length_le (by omega),List.drop_of_length_le (by omega)]
         rw [this]
         simp only [go_sem,coe,zas,Nat.reduceAdd,Nat.reduceSub,Nat.reduceMul,Int.reduceToNat,reduceCtorEq,↓reduceIte,Int.reducePow,Nat.reducePow,Int.reduceMod,Nat.reduceLeDiff,Int.reduceLE,Int.reduceNe,Int.reduceEq,Nat.reduceEqDiff,Nat.reduceLT,Nat.reduceBEq,List.map_cons,List.map_nil,List.toList_toArray,Array.toList_append,Option.toArray_some,Option.toArray_none,Bool.and_self,ty,noS,zdx,hle,hke,d2]
         refine ⟨_,Weak.refl _,?_⟩
         simp only [go_sem,coe,zas,Nat.reduceAdd,Nat.reduceSub,Nat.reduceMul,Int.reduceToNat,reduceCtorEq,↓reduceIte,Int.reducePow,Nat.reducePow,Int.reduceMod,Nat.reduceLeDiff,Int.reduceLE,Int.reduceNe,Int.reduceEq,Nat.reduceEqDiff,Nat.reduceLT,Nat.reduceBEq,List.map_cons,List.map_nil,List.toList_toArray,Array.toList_append,Option.toArray_some,Option.toArray_none,Bool.and_self,ty,noS,zdx]
         exact zcc 4 rfl
   · have d1 : decide ((l.length : Int) = k.length) = false := decide_eq_false (by omega)
     rw [decide_eq_false (same_len_cm hn)]
     simp only [go_sem,coe,zas,Nat.reduceAdd,Nat.reduceSub,Nat.reduceMul,Int.reduceToNat,reduceCtorEq,↓reduceIte,Int.reducePow,Nat.reducePow,Int.reduceMod,Nat.reduceLeDiff,Int.reduceLE,Int.reduceNe,Int.reduceEq,Nat.reduceEqDiff,Nat.reduceLT,Nat.reduceBEq,List.map_cons,List.map_nil,List.toList_toArray,Array.toList_append,Option.toArray_some,Option.toArray_none,Bool.and_self,ty,noS,zdx,hle,hke,d1]
     exact zcc 4 rfl
 · exact hp.elim
def equal21S : zal
 | [.sg 4 xs f,.sg 4 ys g],[] => ⟨xs.length ≤ 9223372036854775807 ∧ ys.length ≤ 9223372036854775807 ∧ (∃ l : List Cm,xs = l.map cmA) ∧ ∃ k : List Cm,ys = k.map cmA,.w (.bool (decide (xs.map ucm = ys.map ucm))),[]⟩
 | _,_ => zbg
def zec : Plan := fun id => match id with
 | 6 => some []
 | _ => none
set_option maxHeartbeats 4000000 in
theorem equal21_sound : zbb Try.prog 47 equal21S := by
 refine fn_soundF (S := noS) (T := ty) (pl := zec) zbf ty_ok zbs Try.func47 (c := Try.f47.body.getD .skip) (by kernel_rfl) (by kernel_rfl) (fun xs pins hp _ => ?_)
 unfold equal21S at hp ⊢
 split at hp
 · rename_i xs f ys g _
   obtain ⟨hL,hK,⟨l,rfl⟩,k,rfl⟩ := hp
   rw [List.length_map] at hL hK
   have hle : (l.map cmA).length = l.length := by simp
   have hke : (k.map cmA).length = k.length := by simp
   rw [map_cm,map_cm]
   refine ⟨by simp,?_⟩
   unfold Try.f47
   by_cases hn : l.length = k.length
   · have d1 : decide ((l.length : Int) = k.length) = true := decide_eq_true (by omega)
     simp only [go_sem,coe,zas,Nat.reduceAdd,Nat.reduceSub,Nat.reduceMul,Int.reduceToNat,reduceCtorEq,↓reduceIte,Int.reducePow,Nat.reducePow,Int.reduceMod,Nat.reduceLeDiff,Int.reduceLE,Int.reduceNe,Int.reduceEq,Nat.reduceEqDiff,Nat.reduceLT,Nat.reduceBEq,List.map_cons,List.map_nil,List.toList_toArray,Array.toList_append,Option.toArray_some,Option.toArray_none,Bool.and_self,ty,noS,zec,hle,hke,d1]
     refine awpF_loopW ⟨fun m σ => ∃ j : Nat,m = l.length - j ∧ j ≤ l.length ∧ (l.drop j = k.drop j) = (l = k) ∧
       σ = ⟨[.sg 4 (l.map cmA) f,.sg 4 (k.map cmA) g,.junk,.junk,.junk,.junk,.junk,.junk,.junk,.junk,.junk,.junk,.w (.int .i64 l.length),.w (.int .i64 j),.junk,.junk,.junk,.junk,.junk,.junk,.junk,.junk,.junk,.junk,.junk,.junk],[],4⟩,?_,?_⟩
     · refine ⟨_,_,zaf [0,1,2,3] rfl rfl rfl ?_ ?_,0,rfl,by omega,rfl,rfl⟩
       · simp only [ssT,zah,zai,setSlot,gOf,AV.ren,renL,Blk.ren,Ax.look,Ax.put,reduceCtorEq,↓reduceIte,Nat.reduceEqDiff,Nat.reduceLT,Nat.reduceAdd,List.length_append,List.length_cons,List.length_nil,Option.some.injEq]; try simp
       · simp only [ssT,zah,zai,setSlot,gOf,AV.ren,renL,Blk.ren,Ax.look,Ax.put,reduceCtorEq,↓reduceIte,Nat.reduceEqDiff,Nat.reduceLT,Nat.reduceAdd,List.length_append,List.length_cons,List.length_nil,Option.some.injEq]
     · rintro m σ ⟨j,rfl,hi,hs,rfl⟩
       by_cases hil : j < l.length
       · have d2 : decide ((j : Int) < l.length) = true := decide_eq_true (by omega)
         have e1 : ((j : Int) + 1 + 9223372036854775808) % 18446744073709551616 - 9223372036854775808 = ((j + 1 : Nat) : Int) := by omega
         have hs1 := slot_cm l j hil
         have hs2 := slot_cm k j (by omega)
         have hd := same_drop_cm hil (show j < k.length by omega)
         rw [hs] at hd
         obtain ⟨p,hp1⟩ : ∃ y,l[j] = y := ⟨_,rfl⟩
         obtain ⟨q,hq1⟩ : ∃ y,k[j]'(by omega) = y := ⟨_,rfl⟩
         rw [hp1] at hs1 hd
         rw [hq1] at hs2 hd
         obtain ⟨g1,t1,i1,o1⟩ := p
         obtain ⟨g2,t2,i2,o2⟩ := q
         have hs1 : slot (l.map cmA) j = .agg [.str g1,.str t1,.w (.int .i64 i1),.w (.int .i64 o1)] := hs1
         have hs2 : slot (k.map cmA) j = .agg [.str g2,.str t2,.w (.int .i64 i2),.w (.int .i64 o2)] := hs2
         by_cases he : (⟨g1,t1,i1,o1⟩ : Cm) = ⟨g2,t2,i2,o2⟩
         · have d3 := decide_eq_true he
           simp only [he,true_and] at hd
           simp only [go_sem,coe,zas,Nat.reduceAdd,Nat.reduceSub,Nat.reduceMul,Int.reduceToNat,reduceCtorEq,↓reduceIte,Int.reducePow,Nat.reducePow,Int.reduceMod,Nat.reduceLeDiff,Int.reduceLE,Int.reduceNe,Int.reduceEq,Nat.reduceEqDiff,Nat.reduceLT,Nat.reduceBEq,List.map_cons,List.map_nil,List.toList_toArray,Array.toList_append,Option.toArray_some,Option.toArray_none,Bool.and_self,ty,noS,zec,hle,hke,d2,e1,hs1,hs2,eq_cm_dec,d3,Int.toNat_natCast]
           repeat (refine And.intro (by omega) ?_)
           refine ⟨l.length - (j + 1),_,by omega,zaf [0,1,2,3] rfl rfl rfl ?_ ?_,j + 1,rfl,by omega,hd.symm,rfl⟩
           · simp only [ssT,zah,zai,setSlot,gOf,AV.ren,renL,Blk.ren,Ax.look,Ax.put,reduceCtorEq,↓reduceIte,Nat.reduceEqDiff,Nat.reduceLT,Nat.reduceAdd,List.length_append,List.length_cons,List.length_nil,Option.some.injEq]
           · simp only [ssT,zah,zai,setSlot,gOf,AV.ren,renL,Blk.ren,Ax.look,Ax.put,reduceCtorEq,↓reduceIte,Nat.reduceEqDiff,Nat.reduceLT,Nat.reduceAdd,List.length_append,List.length_cons,List.length_nil,Option.some.injEq]
         · have d3 := decide_eq_false he
           have hno : decide (l = k) = false := decide_eq_false (by rw [hd]; exact fun h => he h.1)
           rw [hno]
           simp only [go_sem,coe,zas,Nat.reduceAdd,Nat.reduceSub,Nat.reduceMul,Int.reduceToNat,reduceCtorEq,↓reduceIte,Int.reducePow,Nat.reducePow,Int.reduceMod,Nat.reduceLeDiff,Int.reduceLE,Int.reduceNe,Int.reduceEq,Nat.reduceEqDiff,Nat.reduceLT,Nat.reduceBEq,List.map_cons,List.map_nil,List.toList_toArray,Array.toList_append,Option.toArray_some,Option.toArray_none,Bool.and_self,ty,noS,zec,hle,hke,d2,e1,hs1,hs2,eq_cm_dec,d3,Int.toNat_natCast]
           repeat (refine And.intro (by omega) ?_)
           refine ⟨_,Weak.refl _,?_⟩
           simp only [go_sem,coe,zas,Nat.reduceAdd,Nat.reduceSub,Nat.reduceMul,Int.reduceToNat,reduceCtorEq,↓reduceIte,Int.reducePow,Nat.reducePow,Int.reduceMod,Nat.reduceLeDiff,Int.reduceLE,Int.reduceNe,Int.reduceEq,Nat.reduceEqDiff,Nat.reduceLT,Nat.reduceBEq,List.map_cons,List.map_nil,List.toList_toArray,Array.toList_append,Option.toArray_some,Option.toArray_none,Bool.and_self,ty,noS,zec]
           exact zcc 4 rfl
       · have d2 : decide ((j : Int) < l.length) = false := decide_eq_false (by omega)
         have : decide (l = k) = true := by
           refine decide_eq_true ?_
           rw [← hs,List.drop_of_length_le (by omega),List.drop_of_length_le (by omega)]
         rw [this]
         simp only [go_sem,coe,zas,Nat.reduceAdd,Nat.reduceSub,Nat.reduceMul,Int.reduceToNat,reduceCtorEq,↓reduceIte,Int.reducePow,Nat.reducePow,Int.reduceMod,Nat.reduceLeDiff,Int.reduceLE,Int.reduceNe,Int.reduceEq,Nat.reduceEqDiff,Nat.reduceLT,Nat.reduceBEq,List.map_cons,List.map_nil,List.toList_toArray,Array.toList_append,Option.toArray_some,Option.toArray_none,Bool.and_self,ty,noS,zec,hle,hke,d2]
         refine ⟨_,Weak.refl _,?_⟩
         simp only [go_sem,coe,zas,Nat.reduceAdd,Nat.reduceSub,Nat.reduceMul,Int.reduceToNat,reduceCtorEq,↓reduceIte,Int.reducePow,Nat.reducePow,Int.reduceMod,Nat.reduceLeDiff,Int.reduceLE,Int.reduceNe,Int.reduceEq,Nat.reduceEqDiff,Nat.reduceLT,Nat.reduceBEq,List.map_cons,List.map_nil,List.toList_toArray,Array.toList_append,Option.toArray_some,Option.toArray_none,Bool.and_self,ty,noS,zec]
         exact zcc 4 rfl
   · have d1 : decide ((l.length : Int) = k.length) = false := decide_eq_false (by omega)
     rw [decide_eq_false (same_len_cm hn)]
     simp only [go_sem,coe,zas,Nat.reduceAdd,Nat.reduceSub,Nat.reduceMul,Int.reduceToNat,reduceCtorEq,↓reduceIte,Int.reducePow,Nat.reducePow,Int.reduceMod,Nat.reduceLeDiff,Int.reduceLE,Int.reduceNe,Int.reduceEq,Nat.reduceEqDiff,Nat.reduceLT,Nat.reduceBEq,List.map_cons,List.map_nil,List.toList_toArray,Array.toList_append,Option.toArray_some,Option.toArray_none,Bool.and_self,ty,noS,zec,hle,hke,d1]
     exact zcc 4 rfl
 · exact hp.elim
def Sequal21 (f : FuncId) : Option zal :=
 match f with
 | 47 => some equal21S
 | _ => none
theorem Sequal21_ok : Fns Try.prog Sequal21 := by
 intro f s h
 unfold Sequal21 at h
 split at h
 · injection h with h; subst h; exact ⟨⟨_,Try.func47,by kernel_rfl,by kernel_rfl⟩,equal21_sound⟩
 · cases h
theorem same21_sound : zbb Try.prog 27 equal21S := by
 refine zfr (S := Sequal21) (T := ty) zbf ty_ok Sequal21_ok Try.func27 (c := Try.f27.body.getD .skip) (by kernel_rfl) (by kernel_rfl) (fun xs pins hp _ => ?_)
 unfold equal21S at hp ⊢
 split at hp
 · rename_i xs f ys g _
   obtain ⟨hL,hK,⟨l,rfl⟩,k,rfl⟩ := hp
   have hx : ∃ q : List Cm,l.map cmA = q.map cmA := ⟨l,rfl⟩
   have hy : ∃ q : List Cm,k.map cmA = q.map cmA := ⟨k,rfl⟩
   rw [map_cm,map_cm]
   refine ⟨by simp,?_⟩
   obtain ⟨D,hD⟩ : ∃ D,decide (l = k) = D := ⟨_,rfl⟩
   unfold Try.f27
   simp only [go_sem,zaa,Nat.reduceAdd,Nat.reduceSub,Nat.reduceMul,Int.reduceToNat,reduceCtorEq,↓reduceIte,Int.reducePow,Nat.reducePow,Int.reduceMod,Nat.reduceLeDiff,Int.reduceLE,Int.reduceNe,Int.reduceEq,Nat.reduceEqDiff,Nat.reduceLT,Nat.reduceBEq,ty,Sequal21,equal21S,hL,hK,hx,hy,map_cm,hD,coe_cm]
   exact zcc 4 rfl
 · exact hp.elim
end
end Go.Proofs.Ytnmomgcanfpigaa
namespace Go.Proofs.Ytnmomgcanfpigaa
open Ax
theorem bl_irr : ∀ g : List UInt8,Op.bytesLess g g = false
 | [] => rfl
 | a :: r => by
   have h1 : ¬ a < a := by simp
   simp [Op.bytesLess,bl_irr r,h1]
end Go.Proofs.Ytnmomgcanfpigaa
namespace Go.Proofs.Ytnmomgcanfpigaa
open Ax
theorem plC_len (l : List Cm) (c : Cm) (dd : Bool) : (plC l c dd).length ≤ l.length + 1 := by
 unfold plC
 have : insI c l ≤ l.length := List.findIdx_le_length
 split
 · rename_i h
   split
   · rw [List.length_eraseIdx_of_lt h]; omega
   · rw [List.length_set]; omega
 · split
   · omega
   · simp only [List.length_append,List.length_take,List.length_cons,List.length_drop]; omega
theorem pls_len : ∀ (l : List Cm) (q : List Rec),(pls l q).length ≤ l.length + q.length
 | l,[] => by simp [pls]
 | l,r :: q => by
   have h1 : pls l (r :: q) = pls (pl1 l r) q := rfl
   have h2 := pls_len (pl1 l r) q
   have h3 : (pl1 l r).length ≤ l.length + 1 := by
     unfold pl1
     split
     · exact plC_len _ _ _
     · omega
   rw [h1,List.length_cons]; omega
end Go.Proofs.Ytnmomgcanfpigaa
namespace Go.Proofs.Ytnmomgcanfpigaa
open Ax
theorem bl_trans : ∀ {x y z : List UInt8},Op.bytesLess x y = true → Op.bytesLess y z = true → Op.bytesLess x z = true
 | [],[],_,h1,_ => by simp [Op.bytesLess] at h1
 | _ :: _,[],_,h1,_ => by simp [Op.bytesLess] at h1
 | _,_ :: _,[],_,h2 => by simp [Op.bytesLess] at h2
 | [],_ :: _,_ :: _,_,_ => rfl
 | a :: x,b :: y,c :: z,h1,h2 => by
   simp only [Op.bytesLess,Bool.or_eq_true,decide_eq_true_eq,Bool.and_eq_true,beq_iff_eq] at *
   rcases h1 with h1 | ⟨rfl,h1⟩
   · rcases h2 with h2 | ⟨rfl,h2⟩
     · rw [UInt8.lt_iff_toNat_lt] at *
       exact .inl (by omega)
     · exact .inl h1
   · rcases h2 with h2 | ⟨rfl,h2⟩
     · exact .inl h2
     · exact .inr ⟨rfl,bl_trans h1 h2⟩
theorem bl_tot : ∀ {x y : List UInt8},x ≠ y → Op.bytesLess x y = false → Op.bytesLess y x = true
 | [],[],h,_ => absurd rfl h
 | [],_ :: _,_,h1 => by simp [Op.bytesLess] at h1
 | _ :: _,[],_,_ => rfl
 | a :: x,b :: y,h,h1 => by
   simp only [Op.bytesLess,Bool.or_eq_true,Bool.or_eq_false_iff,decide_eq_true_eq,decide_eq_false_iff_not,Bool.and_eq_true,beq_iff_eq] at *
   by_cases hab : a = b
   · subst hab
     refine .inr ⟨rfl,bl_tot (fun e => h (by rw [e])) ?_⟩
     have := h1.2
     simpa using this
   · left
     rw [UInt8.lt_iff_toNat_lt] at *
     have : a.toNat ≠ b.toNat := fun e => hab (UInt8.toNat_inj.1 e)
     have := h1.1
     omega
theorem same_iff {a b : Cm} : zdl a b = true ↔ a.g = b.g ∧ a.t = b.t ∧ a.i = b.i := by
 unfold zdl sameK
 simp only [Bool.and_eq_true,decide_eq_true_eq]
theorem ahd_irr {a b : Cm} (h : zdl a b = true) : ahdC a b = false := by
 obtain ⟨h1,h2,h3⟩ := same_iff.1 h
 unfold ahdC ahdK
 rw [if_pos h1,if_pos h2,h3]
 simp
theorem ahd_tot {a b : Cm} (h : zdl a b = false) (h1 : ahdC a b = false) : ahdC b a = true := by
 unfold ahdC ahdK at *
 by_cases g : a.g = b.g
 · rw [if_pos g] at h1
   rw [if_pos g.symm]
   by_cases t : a.t = b.t
   · rw [if_pos t] at h1
     rw [if_pos t.symm]
     rw [decide_eq_false_iff_not] at h1
     rw [decide_eq_true_eq]
     have : a.i ≠ b.i := fun e => by
       have := same_iff.2 ⟨g,t,e⟩
       rw [h] at this; cases this
     omega
   · rw [if_neg t] at h1
     rw [if_neg (Ne.symm t)]
     exact bl_tot t h1
 · rw [if_neg g] at h1
   rw [if_neg (Ne.symm g)]
   exact bl_tot g h1
theorem ahd_trans {a b c : Cm} (h1 : ahdC a b = true) (h2 : ahdC b c = true) : ahdC a c = true := by
 unfold ahdC ahdK at *
 by_cases g1 : a.g = b.g
 · rw [if_pos g1] at h1
   by_cases g2 : b.g = c.g
   · rw [if_pos g2] at h2
     rw [if_pos (g1.trans g2)]
     by_cases t1 : a.t = b.t
     · rw [if_pos t1] at h1
       by_cases t2 : b.t = c.t
       · rw [if_pos t2] at h2
         rw [if_pos (t1.trans t2)]
         rw [decide_eq_true_eq] at *
         omega
       · rw [if_neg t2] at h2
         rw [if_neg (fun e => t2 (t1.symm.trans e)),t1]; exact h2
     · rw [if_neg t1] at h1
       by_cases t2 : b.t = c.t
       · rw [if_neg (fun e => t1 (e.trans t2.symm)),← t2]; exact h1
       · rw [if_neg t2] at h2
         have h3 := bl_trans h1 h2
         rw [if_neg (fun e => by rw [e,bl_irr] at h3; cases h3)]; exact h3
   · rw [if_neg g2] at h2
     rw [if_neg (fun e => g2 (g1.symm.trans e)),g1]; exact h2
 · rw [if_neg g1] at h1
   by_cases g2 : b.g = c.g
   · rw [if_neg (fun e => g1 (e.trans g2.symm)),← g2]; exact h1
   · rw [if_neg g2] at h2
     have h3 := bl_trans h1 h2
     rw [if_neg (fun e => by rw [e,bl_irr] at h3; cases h3)]; exact h3
theorem ahd_key {a a' b b' : Cm} (h1 : zdl a a' = true) (h2 : zdl b b' = true) : ahdC a b = ahdC a' b' := by
 obtain ⟨e1,e2,e3⟩ := same_iff.1 h1
 obtain ⟨e4,e5,e6⟩ := same_iff.1 h2
 unfold ahdC
 rw [e1,e2,e3,e4,e5,e6]
theorem ahd_no {a b : Cm} (h : ahdC a b = true) : zdl a b = false := by
 cases hs : zdl a b with
 | false => rfl
 | true => rw [ahd_irr hs] at h; cases h
theorem same_comm (a b : Cm) : zdl a b = zdl b a := by
 cases h : zdl b a with
 | true => obtain ⟨h1,h2,h3⟩ := same_iff.1 h; exact same_iff.2 ⟨h1.symm,h2.symm,h3.symm⟩
 | false =>
   cases h' : zdl a b with
   | false => rfl
   | true => obtain ⟨h1,h2,h3⟩ := same_iff.1 h'; rw [same_iff.2 ⟨h1.symm,h2.symm,h3.symm⟩] at h; cases h
abbrev Srt (l : List Cm) : Prop := l.Pairwise fun a b => ahdC a b = true
theorem srt_eq : ∀ (l k : List Cm),Srt l → Srt k → (∀ x,x ∈ l ↔ x ∈ k) → l = k
 | [],[],_,_,_ => rfl
 | [],y :: k,_,_,h => by have := (h y).2 (by simp); simp at this
 | x :: l,[],_,_,h => by have := (h x).1 (by simp); simp at this
 | x :: l,y :: k,h1,h2,h => by
   have a1 := List.pairwise_cons.1 h1
   have a2 := List.pairwise_cons.1 h2
   have irr : ∀ z : Cm,ahdC z z = false := fun z => ahd_irr (same_iff.2 ⟨rfl,rfl,rfl⟩)
   have hxy : x = y := by
     rcases List.mem_cons.1 ((h x).1 (by simp)) with e | e
     · exact e
     · rcases List.mem_cons.1 ((h y).2 (by simp)) with e' | e'
       · exact e'.symm
       · have := ahd_trans (a2.1 x e) (a1.1 y e')
         rw [irr] at this; cases this
   subst hxy
   have : l = k := srt_eq l k a1.2 a2.2 (fun z => by
     constructor
     · intro hz
       rcases List.mem_cons.1 ((h z).1 (List.mem_cons_of_mem _ hz)) with e | e
       · subst e; have := a1.1 z hz; rw [irr] at this; cases this
       · exact e
     · intro hz
       rcases List.mem_cons.1 ((h z).2 (List.mem_cons_of_mem _ hz)) with e | e
       · subst e; have := a2.1 z hz; rw [irr] at this; cases this
       · exact e)
   rw [this]
theorem fnd_in {c : Cm} {l : List Cm} (h : fndI c l < l.length) : zdl l[fndI c l] c = true := List.findIdx_getElem (w := h)
theorem fnd_out {c : Cm} {l : List Cm} (h : ¬ fndI c l < l.length) : ∀ x ∈ l,zdl x c = false := by
 have h1 : l.findIdx (skP 65 c) = l.length := by
   have : l.findIdx (skP 65 c) ≤ l.length := List.findIdx_le_length
   have h : ¬ l.findIdx (skP 65 c) < l.length := h
   omega
 exact List.findIdx_eq_length.1 h1
def putC (l : List Cm) (c : Cm) : List Cm := plC l c false
theorem put_srt {l : List Cm} (c : Cm) (hs : Srt l) : Srt (putC l c) ∧ ∀ x,x ∈ putC l c ↔ x = c ∨ (x ∈ l ∧ zdl x c = false) := by
 unfold putC plC
 by_cases h : fndI c l < l.length
 · rw [if_pos h]
   simp only [Bool.false_eq_true,if_false]
   have hf := fnd_in h
   generalize fndI c l = K at *
   have hK : l = l.take K ++ l[K] :: l.drop (K + 1) := by rw [← List.drop_eq_getElem_cons h,List.take_append_drop]
   rw [List.set_eq_take_append_cons_drop,if_pos h]
   obtain ⟨y,hy⟩ : ∃ y,l[K] = y := ⟨_,rfl⟩
   rw [hy] at hK hf
   generalize l.take K = A at *
   generalize l.drop (K + 1) = B at *
   subst hK
   have p1 := List.pairwise_append.1 hs
   have p2 := List.pairwise_cons.1 p1.2.1
   have hyy : zdl y c = true := hf
   refine ⟨List.pairwise_append.2 ⟨p1.1,List.pairwise_cons.2 ⟨fun b hb => ?_,p2.2⟩,fun a ha b hb => ?_⟩,fun x => ?_⟩
   · rw [← ahd_key hf (b := b) (b' := b) (same_iff.2 ⟨rfl,rfl,rfl⟩)]; exact p2.1 b hb
   · rcases List.mem_cons.1 hb with rfl | hb
     · rw [← ahd_key (a := a) (a' := a) (same_iff.2 ⟨rfl,rfl,rfl⟩) hf]; exact p1.2.2 a ha y (by simp)
     · exact p1.2.2 a ha b (by simp [hb])
   · have hA : ∀ a ∈ A,zdl a c = false := fun a ha => by
       have h1 := p1.2.2 a ha y (by simp)
       rw [ahd_key (a := a) (a' := a) (same_iff.2 ⟨rfl,rfl,rfl⟩) hf] at h1
       exact ahd_no h1
     have hB : ∀ b ∈ B,zdl b c = false := fun b hb => by
       have h1 := p2.1 b hb
       rw [ahd_key hf (b := b) (b' := b) (same_iff.2 ⟨rfl,rfl,rfl⟩)] at h1
       rw [same_comm]; exact ahd_no h1
     simp only [List.mem_append,List.mem_cons]
     constructor
     · rintro (h | rfl | h)
       · exact .inr ⟨.inl h,hA x h⟩
       · exact .inl rfl
       · exact .inr ⟨.inr (.inr h),hB x h⟩
     · rintro (rfl | ⟨h | rfl | h,hn⟩)
       · exact .inr (.inl rfl)
       · exact .inl h
       · rw [hyy] at hn; cases hn
       · exact .inr (.inr h)
 · rw [if_neg h]
   simp only [Bool.false_eq_true,if_false]
   have ho := fnd_out h
   have hlt : ∀ x ∈ l.take (insI c l),ahdC x c = true := by
     intro x hx
     obtain ⟨j,hj,rfl⟩ := List.mem_take_iff_getElem.1 hx
     have := List.not_of_lt_findIdx (p := skP 68 c) (xs := l) (i := j) (by unfold insI at hj; omega)
     have h2 : skP 68 c l[j] = false := by simpa using this
     have h2 : (!(ahdC l[j] c)) = false := h2
     simpa using h2
   have hge : ∀ x ∈ l.drop (insI c l),ahdC c x = true := by
     intro x hx
     have hil : insI c l < l.length := by
       rcases Nat.lt_or_ge (insI c l) l.length with h | h
       · exact h
       · rw [List.drop_of_length_le h] at hx; simp at hx
     have h1 : (!(ahdC l[insI c l] c)) = true := List.findIdx_getElem (p := skP 68 c) (w := hil)
     have h2 : ahdC l[insI c l] c = false := by simpa using h1
     have h3 := ahd_tot (ho _ (List.getElem_mem hil)) h2
     rw [List.drop_eq_getElem_cons hil] at hx
     rcases List.mem_cons.1 hx with rfl | hx
     · exact h3
     · have hd := List.pairwise_cons.1 (by
         have := (List.pairwise_append.1 (show Srt (l.take (insI c l) ++ l.drop (insI c l)) by rw [List.take_append_drop]; exact hs)).2.1
         rw [List.drop_eq_getElem_cons hil] at this; exact this)
       exact ahd_trans h3 (hd.1 x hx)
   have hta := List.take_append_drop (insI c l) l
   generalize insI c l = K at *
   have p1 := List.pairwise_append.1 (show Srt (l.take K ++ l.drop K) by rw [hta]; exact hs)
   refine ⟨List.pairwise_append.2 ⟨p1.1,List.pairwise_cons.2 ⟨hge,p1.2.1⟩,fun a ha b hb => ?_⟩,fun x => ?_⟩
   · rcases List.mem_cons.1 hb with rfl | hb
     · exact hlt a ha
     · exact ahd_trans (hlt a ha) (hge b hb)
   · have hm : x ∈ l ↔ x ∈ l.take K ∨ x ∈ l.drop K := by rw [← List.mem_append,hta]
     simp only [List.mem_append,List.mem_cons]
     constructor
     · rintro (h | rfl | h)
       · exact .inr ⟨hm.2 (.inl h),ho x (hm.2 (.inl h))⟩
       · exact .inl rfl
       · exact .inr ⟨hm.2 (.inr h),ho x (hm.2 (.inr h))⟩
     · rintro (rfl | ⟨h,_⟩)
       · exact .inr (.inl rfl)
       · rcases hm.1 h with h | h
         · exact .inl h
         · exact .inr (.inr h)
def puts (l : List Cm) (cs : List Cm) : List Cm := cs.foldl putC l
def lasts : List Cm → List Cm
 | [] => []
 | c :: cs => if (cs.any fun x => zdl x c) = true then lasts cs else c :: lasts cs
theorem puts_srt : ∀ (cs l : List Cm),Srt l → Srt (puts l cs) ∧ ∀ x,x ∈ puts l cs ↔ x ∈ lasts cs ∨ (x ∈ l ∧ ∀ c ∈ cs,zdl x c = false)
 | [],l,hs => ⟨hs,fun x => by simp [puts,lasts]⟩
 | c :: cs,l,hs => by
   obtain ⟨h1,h2⟩ := put_srt c hs
   obtain ⟨h3,h4⟩ := puts_srt cs (putC l c) h1
   refine ⟨h3,fun x => ?_⟩
   have e : puts l (c :: cs) = puts (putC l c) cs := rfl
   rw [e,h4,h2]
   simp only [lasts]
   by_cases ha : (cs.any fun x => zdl x c) = true
   · rw [if_pos ha]
     obtain ⟨y,hy,hyc⟩ := List.any_eq_true.1 ha
     constructor
     · rintro (h | ⟨rfl | ⟨h,h'⟩,hn⟩)
       · exact .inl h
       · have := hn y hy
         rw [same_comm,hyc] at this; cases this
       · refine .inr ⟨h,fun z hz => ?_⟩
         rcases List.mem_cons.1 hz with rfl | hz
         · exact h'
         · exact hn z hz
     · rintro (h | ⟨h,hn⟩)
       · exact .inl h
       · exact .inr ⟨.inr ⟨h,hn c (by simp)⟩,fun z hz => hn z (by simp [hz])⟩
   · rw [if_neg ha]
     have hna : ∀ z ∈ cs,zdl z c = false := fun z hz => by
       cases hzc : zdl z c with
       | false => rfl
       | true => exact absurd (List.any_eq_true.2 ⟨z,hz,hzc⟩) ha
     constructor
     · rintro (h | ⟨rfl | ⟨h,h'⟩,hn⟩)
       · exact .inl (List.mem_cons_of_mem _ h)
       · exact .inl (by simp)
       · refine .inr ⟨h,fun z hz => ?_⟩
         rcases List.mem_cons.1 hz with rfl | hz
         · exact h'
         · exact hn z hz
     · rintro (h | ⟨h,hn⟩)
       · rcases List.mem_cons.1 h with rfl | h
         · exact .inr ⟨.inl rfl,fun z hz => by rw [same_comm]; exact hna z hz⟩
         · exact .inl h
       · exact .inr ⟨.inr ⟨h,hn c (by simp)⟩,fun z hz => hn z (by simp [hz])⟩
theorem lasts_sub : ∀ (cs : List Cm),∀ x ∈ lasts cs,x ∈ cs
 | [],x,h => h
 | c :: cs,x,h => by
   simp only [lasts] at h
   split at h
   · exact List.mem_cons_of_mem _ (lasts_sub cs x h)
   · rcases List.mem_cons.1 h with rfl | h
     · simp
     · exact List.mem_cons_of_mem _ (lasts_sub cs x h)
theorem lasts_again : ∀ (cs : List Cm),lasts (lasts cs) = lasts cs
 | [] => rfl
 | c :: cs => by
   simp only [lasts]
   by_cases ha : (cs.any fun x => zdl x c) = true
   · rw [if_pos ha]; exact lasts_again cs
   · rw [if_neg ha]
     simp only [lasts]
     rw [if_neg,lasts_again cs]
     intro h
     obtain ⟨y,hy,hyc⟩ := List.any_eq_true.1 h
     exact ha (List.any_eq_true.2 ⟨y,lasts_sub cs y hy,hyc⟩)
theorem puts_lasts (cs : List Cm) : puts [] (lasts cs) = puts [] cs := by
 obtain ⟨h1,h2⟩ := puts_srt cs [] List.Pairwise.nil
 obtain ⟨h3,h4⟩ := puts_srt (lasts cs) [] List.Pairwise.nil
 refine srt_eq _ _ h3 h1 (fun x => ?_)
 rw [h4,h2,lasts_again]
 simp
end Go.Proofs.Ytnmomgcanfpigaa
namespace Go.Proofs.Ytnmomgcanfpigaa
open Ax
def offI (b d : Int) : Int := (b + d + 9223372036854775808) % 18446744073709551616 - 9223372036854775808
theorem zav : ∀ (G : List Rec),closedL (G.map rv) = true
 | [] => rfl
 | x :: r => by simp only [List.map_cons,closedL,rv,AV.closed,Bool.true_and]; exact zav r
theorem zce (g : Nat → Nat) : ∀ (G : List Rec),renL g (G.map rv) = G.map rv
 | [] => rfl
 | x :: r => by simp only [List.map_cons,renL,zce g r]; rfl
structure Bat where
 b : Int
 c : Int
 p : Int
 e : Int
 s : Int
 rs : List Rec
def bav (x : Bat) (f : Bool) : AV := .agg [.w (.int .i64 x.b),.w (.int .i64 x.c),.w (.int .i64 x.p),.w (.int .i64 x.e),.w (.int .i64 x.s),.sg 6 (x.rs.map rv) f]
end Go.Proofs.Ytnmomgcanfpigaa
namespace Go.Proofs.Ytnmomgcanfpigaa
open Ax
def bvp (p : Bat × Bool) : AV := bav p.1 p.2
def ubat : AV → Bat
 | .agg [.w (.int _ b),.w (.int _ c),.w (.int _ p),.w (.int _ e),.w (.int _ s),.sg 6 xs _] => ⟨b,c,p,e,s,xs.map rrec⟩
 | _ => ⟨0,0,0,0,0,[]⟩
theorem ubat_bvp (p : Bat × Bool) : ubat (bvp p) = p.1 := by
 obtain ⟨⟨b,c,q,e,s,rs⟩,f⟩ := p
 unfold bvp bav ubat
 simp only [zay]
theorem map_ubat (l : List (Bat × Bool)) : (l.map bvp).map ubat = l.map Prod.fst := by
 rw [List.map_map]; exact List.map_congr_left (fun p _ => ubat_bvp p)
theorem slot_bvp : ∀ (l : List (Bat × Bool)) (i : Nat) (h : i < l.length),slot (l.map bvp) i = bvp l[i]
 | _ :: _,0,_ => rfl
 | _ :: r,i + 1,h => by
   simp only [List.map_cons,slot,List.getElem_cons_succ]
   exact slot_bvp r i (by simpa using h)
theorem closed_bvp : ∀ (G : List (Bat × Bool)),closedL (G.map bvp) = true
 | [] => rfl
 | x :: r => by simp only [List.map_cons,closedL,bvp,bav,AV.closed,Bool.true_and]; exact closed_bvp r
theorem ren_bvp (g : Nat → Nat) : ∀ (G : List (Bat × Bool)),renL g (G.map bvp) = G.map bvp
 | [] => rfl
 | x :: r => by simp only [List.map_cons,renL,ren_bvp g r]; rfl
def offB (x : Bat) : Bat × Bool := (x,false)
def bfr (l : List Bat) : List AV := (l.map offB).map bvp
theorem zeg (g : Nat → Nat) (l : List Bat) : renL g (bfr l) = bfr l := ren_bvp g _
theorem closed_bfr (l : List Bat) : closedL (bfr l) = true := closed_bvp _
theorem len_bfr (l : List Bat) : (bfr l).length = l.length := by simp [bfr]
theorem bfr_snoc (l : List Bat) (x : Bat) : bfr (l ++ [x]) = bfr l ++ [bav x false] := by simp [bfr,offB,bvp]
theorem bfr_nil : bfr [] = [] := rfl
theorem ubat_bfr (l : List Bat) : (bfr l).map ubat = l := by
 unfold bfr; rw [map_ubat,List.map_map]; exact List.map_id _
instance batDec : DecidableEq Bat := fun a b => decidable_of_iff (a.b = b.b ∧ a.c = b.c ∧ a.p = b.p ∧ a.e = b.e ∧ a.s = b.s ∧ a.rs = b.rs) (by cases a; cases b; simp)
def lightB (b : Bat) : Prop := b.rs.length ≤ 40 ∧ ∀ r ∈ b.rs,lightR r
instance (b : Bat) : Decidable (lightB b) := by unfold lightB; infer_instance
def isBs (xs : List AV) : Prop := ∃ es : List (Bat × Bool),xs = es.map bvp ∧ ∀ p ∈ es,p.1.rs.length ≤ 9223372036854775807
def lallS : zal
 | [.sg 6 xs f,.w (.int .i64 n)],[] => ⟨xs.length ≤ 9223372036854775807 ∧ isBs xs,.w (.bool (decide ((xs.length : Int) ≤ n ∧ ∀ b ∈ xs.map ubat,lightB b))),[]⟩
 | _,_ => zbg
def Slall (f : FuncId) : Option zal :=
 match f with
 | 19 => some blightS4
 | _ => none
theorem Slall_ok : Fns Try.prog Slall := by
 intro f s h
 unfold Slall at h
 split at h
 · injection h with h; subst h; exact ⟨⟨_,Try.func19,by kernel_rfl,by kernel_rfl⟩,blight4_sound⟩
 · cases h
section
set_option maxRecDepth 100000
set_option maxHeartbeats 2000000 in
theorem lall_sound : zbb Try.prog 29 lallS := by
 refine zaq (S := Slall) (T := ty) zbf ty_ok Slall_ok Try.func29 (c := Try.f29.body.getD .skip) (by kernel_rfl) (by kernel_rfl) (fun xs pins hp _ => ?_)
 unfold lallS at hp ⊢
 split at hp
 · rename_i xs f n _
   obtain ⟨hL,es,rfl,he⟩ := hp
   rw [List.length_map] at hL
   refine ⟨by simp,?_⟩
   have hlp : (es.map bvp).length = es.length := by simp
   rw [hlp,map_ubat]
   unfold Try.f29
   by_cases h40 : n < es.length
   · have d0 : decide (n < (es.length : Int)) = true := decide_eq_true h40
     have dr : decide ((es.length : Int) ≤ n ∧ ∀ b ∈ es.map Prod.fst,lightB b) = false := decide_eq_false (by rintro ⟨h1,_⟩; omega)
     simp only [go_sem,zaa,Nat.reduceAdd,Nat.reduceSub,Nat.reduceMul,Int.reduceToNat,reduceCtorEq,↓reduceIte,Int.reducePow,Nat.reducePow,Int.reduceMod,Nat.reduceLeDiff,Int.reduceLE,Int.reduceNe,Int.reduceEq,Nat.reduceEqDiff,Nat.reduceLT,Nat.reduceBEq,ty,Slall,hlp,d0,dr]
   · have d0 : decide (n < (es.length : Int)) = false := decide_eq_false h40
     simp only [go_sem,zaa,Nat.reduceAdd,Nat.reduceSub,Nat.reduceMul,Int.reduceToNat,reduceCtorEq,↓reduceIte,Int.reducePow,Nat.reducePow,Int.reduceMod,Nat.reduceLeDiff,Int.reduceLE,Int.reduceNe,Int.reduceEq,Nat.reduceEqDiff,Nat.reduceLT,Nat.reduceBEq,ty,Slall,hlp,d0]
     refine awp_loop ⟨fun m σ => ∃ i : Nat,m = es.length - i ∧ i ≤ es.length ∧ (∀ j (h : j < es.length),j < i → lightB es[j].1) ∧
         σ = ⟨[.sg 6 (es.map bvp) f,.w (.int .i64 n),.junk,.junk,.junk,.w (.int .i64 i),.junk,.junk,.junk,.junk,.junk,.junk,.junk,.junk,.junk,.junk,.junk,.junk,.junk,.junk,.junk,.junk],[],4⟩,?_,?_⟩
     · refine ⟨_,_,zaf [0,1,2,3] rfl rfl rfl ?_ ?_,0,rfl,by omega,by intro j _ h; omega,rfl⟩
       · simp only [ssT,zah,zai,setSlot,gOf,AV.ren,renL,Blk.ren,Ax.look,Ax.put,reduceCtorEq,↓reduceIte,Nat.reduceEqDiff,Nat.reduceLT,Nat.reduceAdd,List.length_append,List.length_cons,List.length_nil,Option.some.injEq]; try simp
       · simp only [ssT,zah,zai,setSlot,gOf,AV.ren,renL,Blk.ren,Ax.look,Ax.put,reduceCtorEq,↓reduceIte,Nat.reduceEqDiff,Nat.reduceLT,Nat.reduceAdd,List.length_append,List.length_cons,List.length_nil,Option.some.injEq]
     · rintro m σ ⟨i,rfl,hi,hall,rfl⟩
       by_cases hil : i < es.length
       · have e1 : ((i : Int) + 1 + 9223372036854775808) % 18446744073709551616 - 9223372036854775808 = ((i + 1 : Nat) : Int) := by omega
         have d1 : decide ((i : Int) < es.length) = true := decide_eq_true (by omega)
         have hs1 := slot_bvp es i hil
         have m1 := he es[i] (List.getElem_mem hil)
         obtain ⟨P,hP⟩ : ∃ P,es[i] = P := ⟨_,rfl⟩
         rw [hP] at hs1 m1
         obtain ⟨⟨b,c,p,e,s,rs⟩,f'⟩ := P
         have hs1 : slot (es.map bvp) i = .agg [.w (.int .i64 b),.w (.int .i64 c),.w (.int .i64 p),.w (.int .i64 e),.w (.int .i64 s),.sg 6 (rs.map rv) f'] := hs1
         simp only at m1
         have n1 : (rs.map rv).length ≤ 9223372036854775807 := by rw [List.length_map]; exact m1
         have x1 : ∃ k : List Rec,rs.map rv = k.map rv := ⟨rs,rfl⟩
         have r1 := zay rs
         have hlr : (rs.map rv).length = rs.length := by simp
         by_cases ha : rs.length ≤ 40 ∧ ∀ r ∈ rs,lightR r
         · have d2 : decide (rs.length ≤ 40 ∧ ∀ r ∈ rs,lightR r) = true := decide_eq_true ha
           simp only [go_sem,zaa,Nat.reduceAdd,Nat.reduceSub,Nat.reduceMul,Int.reduceToNat,reduceCtorEq,↓reduceIte,Int.reducePow,Nat.reducePow,Int.reduceMod,Nat.reduceLeDiff,Int.reduceLE,Int.reduceNe,Int.reduceEq,Nat.reduceEqDiff,Nat.reduceLT,Nat.reduceBEq,ty,Slall,blightS4,hlp,hlr,d1,d2,hs1,e1,m1,x1,r1,Int.toNat_natCast]
           repeat (refine And.intro (by omega) ?_)
           refine ⟨es.length - (i + 1),_,by omega,zaf [0,1,2,3] rfl rfl rfl ?_ ?_,i + 1,rfl,by omega,?_,rfl⟩
           · simp only [ssT,zah,zai,setSlot,gOf,AV.ren,renL,Blk.ren,Ax.look,Ax.put,reduceCtorEq,↓reduceIte,Nat.reduceEqDiff,Nat.reduceLT,Nat.reduceAdd,List.length_append,List.length_cons,List.length_nil,Option.some.injEq]
           · simp only [ssT,zah,zai,setSlot,gOf,AV.ren,renL,Blk.ren,Ax.look,Ax.put,reduceCtorEq,↓reduceIte,Nat.reduceEqDiff,Nat.reduceLT,Nat.reduceAdd,List.length_append,List.length_cons,List.length_nil,Option.some.injEq]
           · intro j h hj
             rcases Nat.lt_or_ge j i with h2 | h2
             · exact hall j h h2
             · have : j = i := by omega
               subst this
               rw [hP]; exact ha
         · have d2 : decide (rs.length ≤ 40 ∧ ∀ r ∈ rs,lightR r) = false := decide_eq_false ha
           have dr : decide ((es.length : Int) ≤ n ∧ ∀ b ∈ es.map Prod.fst,lightB b) = false := decide_eq_false (by
             rintro ⟨_,h2⟩
             have := h2 es[i].1 (List.mem_map.2 ⟨_,List.getElem_mem hil,rfl⟩)
             rw [hP] at this; exact ha this)
           simp only [go_sem,zaa,Nat.reduceAdd,Nat.reduceSub,Nat.reduceMul,Int.reduceToNat,reduceCtorEq,↓reduceIte,Int.reducePow,Nat.reducePow,Int.reduceMod,Nat.reduceLeDiff,Int.reduceLE,Int.reduceNe,Int.reduceEq,Nat.reduceEqDiff,Nat.reduceLT,Nat.reduceBEq,ty,Slall,blightS4,hlp,hlr,d1,d2,dr,hs1,e1,m1,x1,r1,Int.toNat_natCast]
           try omega
       · have d1 : decide ((i : Int) < es.length) = false := decide_eq_false (by omega)
         have dr : decide ((es.length : Int) ≤ n ∧ ∀ b ∈ es.map Prod.fst,lightB b) = true := decide_eq_true ⟨by omega,fun b hb => by
           obtain ⟨p,hp,rfl⟩ := List.mem_map.1 hb
           obtain ⟨j,hj,rfl⟩ := List.getElem_of_mem hp
           exact hall j hj (by omega)⟩
         simp only [go_sem,zaa,Nat.reduceAdd,Nat.reduceSub,Nat.reduceMul,Int.reduceToNat,reduceCtorEq,↓reduceIte,Int.reducePow,Nat.reducePow,Int.reduceMod,Nat.reduceLeDiff,Int.reduceLE,Int.reduceNe,Int.reduceEq,Nat.reduceEqDiff,Nat.reduceLT,Nat.reduceBEq,ty,Slall,hlp,d1,dr]
 · exact hp.elim
end
end Go.Proofs.Ytnmomgcanfpigaa
namespace Go.Proofs.Ytnmomgcanfpigaa
open Ax
abbrev KM := List (List UInt8 × Int)
def kvP (p : List UInt8 × Int) : AV × AV := (.str p.1,.w (.int .i64 p.2))
def kvA (m : KM) : List (AV × AV) := m.map kvP
def ukv : AV × AV → List UInt8 × Int
 | (.str k,.w (.int _ n)) => (k,n)
 | _ => ([],0)
theorem ukv_kvA (m : KM) : (kvA m).map ukv = m := by
 unfold kvA; rw [List.map_map]; exact List.map_id _
def ixK (k : List UInt8) : KM → Nat → Option (Nat × Int)
 | [],_ => none
 | p :: r,i => if k = p.1 then some (i,p.2) else ixK k r (i + 1)
def gtK (m : KM) (k : List UInt8) : Option Int := (ixK k m 0).map Prod.snd
def ptK (m : KM) (k : List UInt8) (v : Int) : KM :=
 match ixK k m 0 with
 | some p => m.set p.1 (k,v)
 | none => m ++ [(k,v)]
def mpI (o : Option (Nat × Int)) : Option (Nat × AV) := o.map fun p => (p.1,.w (.int .i64 p.2))
theorem find_kvA (k : List UInt8) : ∀ (m : KM) (i : Nat),zcg ty 9 (.str k) (kvA m) i = (True,mpI (ixK k m i))
 | [],i => rfl
 | p :: r,i => by
   have h := find_kvA k r (i + 1)
   have he : eqV ty 4 9 (.str k) (.str p.1) = (True,decide (k = p.1)) := rfl
   show zcg ty 9 (.str k) (kvP p :: kvA r) i = _
   unfold zcg
   simp only [kvP,he,h,ixK]
   by_cases hk : k = p.1
   · subst hk; simp [mpI]
   · simp [hk,mpI]
theorem put_kvA (m : KM) (k : List UInt8) (v : Int) : putM (kvA m) (.str k) (.w (.int .i64 v)) (mpI (ixK k m 0)) = kvA (ptK m k v) := by
 unfold ptK
 cases ixK k m 0 with
 | none => simp [mpI,putM,kvA,kvP]
 | some p => simp [mpI,putM,kvA,kvP,List.map_set]
theorem ixK_shift (k : List UInt8) : ∀ (m : KM) (i : Nat),ixK k m (i + 1) = (ixK k m i).map fun p => (p.1 + 1,p.2)
 | [],i => rfl
 | p :: r,i => by
   unfold ixK
   split
   · rfl
   · exact ixK_shift k r (i + 1)
theorem gtK_cons (p : List UInt8 × Int) (m : KM) (k : List UInt8) : gtK (p :: m) k = if k = p.1 then some p.2 else gtK m k := by
 unfold gtK
 rw [ixK]
 split
 · rfl
 · rw [ixK_shift]; cases ixK k m 0 <;> rfl
theorem ptK_cons (p : List UInt8 × Int) (m : KM) (k : List UInt8) (v : Int) : ptK (p :: m) k v = if k = p.1 then (k,v) :: m else p :: ptK m k v := by
 unfold ptK
 by_cases h : k = p.1
 · rw [ixK,if_pos h,if_pos h]; rfl
 · rw [ixK,if_neg h,if_neg h,ixK_shift]
   cases ixK k m 0 <;> rfl
theorem gtK_ptK : ∀ (m : KM) (k k' : List UInt8) (v : Int),gtK (ptK m k v) k' = if k' = k then some v else gtK m k'
 | [],k,k',v => by
   show gtK [(k,v)] k' = _
   rw [gtK_cons]; try rfl
 | p :: m,k,k',v => by
   rw [ptK_cons]
   by_cases h : k = p.1
   · rw [if_pos h,gtK_cons,gtK_cons]
     by_cases h2 : k' = k
     · simp [h2]
     · simp only [if_neg h2]
       rw [if_neg (by rw [← h]; exact h2)]
   · rw [if_neg h,gtK_cons,gtK_cons,gtK_ptK m k k' v]
     by_cases h2 : k' = k
     · subst h2; simp [h]
     · simp only [if_neg h2]
def stK (b : Int) (m : KM) (r : Rec) : KM :=
 if r.k = true then (match gtK m r.key with
   | some a => if a < offI b r.d then ptK m r.key (offI b r.d) else m
   | none => ptK m r.key (offI b r.d)) else m
def stKB (m : KM) (x : Bat) : KM := x.rs.foldl (stK x.b) m
def lastK (l : List Bat) : KM := l.foldl stKB []
end Go.Proofs.Ytnmomgcanfpigaa
namespace Go.Proofs.Ytnmomgcanfpigaa
open Ax
theorem mpI_some (p : Nat × Int) : mpI (some p) = some (p.1,.w (.int .i64 p.2)) := rfl
theorem mpI_none : mpI none = none := rfl
theorem set_kvA {m : KM} {k : List UInt8} {p : Nat × Int} (v : Int) (h : ixK k m 0 = some p) : (kvA m).set p.1 (.str k,.w (.int .i64 v)) = kvA (ptK m k v) := by
 have := put_kvA m k v
 rw [h] at this; exact this
theorem snoc_kvA {m : KM} {k : List UInt8} (v : Int) (h : ixK k m 0 = none) : kvA m ++ [(.str k,.w (.int .i64 v))] = kvA (ptK m k v) := by
 have := put_kvA m k v
 rw [h] at this; exact this
def last17S : zal
 | [.sg 6 xs f],[] => ⟨xs.length ≤ 1000000 ∧ isBs xs,.rf 0 0 0 0,[.o (.mp (kvA (lastK (xs.map ubat))))]⟩
 | _,_ => zbg
section
set_option maxRecDepth 100000
set_option maxHeartbeats 4000000 in
theorem last17_sound : zbb Try.prog 48 last17S := by
 refine zaq (S := noS) (T := ty) zbf ty_ok zbs Try.func48 (c := Try.f48.body.getD .skip) (by kernel_rfl) (by kernel_rfl) (fun xs pins hp _ => ?_)
 unfold last17S at hp ⊢
 split at hp
 · rename_i xs f _
   obtain ⟨hL,es,rfl,he⟩ := hp
   simp only [List.length_map] at hL
   refine ⟨by simp,?_⟩
   have hlp : (es.map bvp).length = es.length := by simp
   rw [map_ubat]
   obtain ⟨A,hA⟩ : ∃ A,kvA (lastK (es.map Prod.fst)) = A := ⟨_,rfl⟩
   rw [hA]
   unfold Try.f48
   simp only [go_sem,zaa,Nat.reduceAdd,Nat.reduceSub,Nat.reduceMul,Int.reduceToNat,reduceCtorEq,↓reduceIte,Int.reducePow,Nat.reducePow,Int.reduceMod,Nat.reduceLeDiff,Int.reduceLE,Int.reduceNe,Int.reduceEq,Nat.reduceEqDiff,Nat.reduceLT,Nat.reduceBEq,ty,noS,hlp]
   refine awp_loop ⟨fun m σ => ∃ (i : Nat) (M : KM),m = es.length - i ∧ i ≤ es.length ∧ lastK (es.map Prod.fst) = ((es.drop i).map Prod.fst).foldl stKB M ∧
       σ = ⟨[.sg 6 (es.map bvp) f,.junk,.junk,.rf 4 0 0 0,.junk,.junk,.junk,.junk,.junk,.junk,.junk,.junk,.sg 6 (es.map bvp) f,.w (.int .i64 es.length),.w (.int .i64 i),.junk,.junk,.junk,.junk,.junk,.junk,.junk,.junk,.junk,.junk,.junk,.junk,.junk,.junk,.junk,.junk,.junk,.junk,.junk,.junk,.junk,.junk,.junk,.junk,.junk,.junk,.junk,.junk,.junk,.junk,.junk,.junk,.junk,.junk,.junk,.junk,.junk,.junk,.junk],[(4,.o (.mp (kvA M)))],5⟩,?_,?_⟩
   · refine ⟨_,_,zaf [0,1,2,3,12] rfl rfl rfl ?_ ?_,0,[],rfl,by omega,by rw [List.drop_zero]; rfl,rfl⟩
     · simp only [ssT,zah,zai,setSlot,gOf,AV.ren,renL,Blk.ren,Ax.look,Ax.put,reduceCtorEq,↓reduceIte,Nat.reduceEqDiff,Nat.reduceLT,Nat.reduceAdd,List.length_append,List.length_cons,List.length_nil,Option.some.injEq]; try simp
     · simp only [ssT,zah,zai,setSlot,gOf,AV.ren,renL,Blk.ren,Ax.look,Ax.put,reduceCtorEq,↓reduceIte,Nat.reduceEqDiff,Nat.reduceLT,Nat.reduceAdd,List.length_append,List.length_cons,List.length_nil,Option.some.injEq]; try rfl
   · rintro m σ ⟨i,M,rfl,hi,hinv,rfl⟩
     have e1 : ((i : Int) + 1 + 9223372036854775808) % 18446744073709551616 - 9223372036854775808 = ((i + 1 : Nat) : Int) := by omega
     by_cases hil : i < es.length
     · have d3 : decide ((i : Int) < es.length) = true := decide_eq_true (by omega)
       have hs1 := slot_bvp es i hil
       have m1 := he es[i] (List.getElem_mem hil)
       have hdr : es.drop i = es[i] :: es.drop (i + 1) := List.drop_eq_getElem_cons hil
       obtain ⟨P,hP⟩ : ∃ P,es[i] = P := ⟨_,rfl⟩
       rw [hP] at hs1 m1 hdr
       rw [hdr] at hinv
       obtain ⟨⟨b,c,p,e,s,rs⟩,f'⟩ := P
       have hs1 : slot (es.map bvp) i = .agg [.w (.int .i64 b),.w (.int .i64 c),.w (.int .i64 p),.w (.int .i64 e),.w (.int .i64 s),.sg 6 (rs.map rv) f'] := hs1
       simp only at m1
       have hlr : (rs.map rv).length = rs.length := by simp
       have hinv : lastK (es.map Prod.fst) = ((es.drop (i + 1)).map Prod.fst).foldl stKB (rs.foldl (stK b) M) := hinv
       simp only [go_sem,zaa,Nat.reduceAdd,Nat.reduceSub,Nat.reduceMul,Int.reduceToNat,reduceCtorEq,↓reduceIte,Int.reducePow,Nat.reducePow,Int.reduceMod,Nat.reduceLeDiff,Int.reduceLE,Int.reduceNe,Int.reduceEq,Nat.reduceEqDiff,Nat.reduceLT,Nat.reduceBEq,ty,noS,hlp,d3,hs1,hlr,Int.toNat_natCast]
       repeat (refine And.intro (by omega) ?_)
       refine awp_loop ⟨fun m σ => ∃ (k : Nat) (M : KM),m = rs.length - k ∧ k ≤ rs.length ∧ lastK (es.map Prod.fst) = ((es.drop (i + 1)).map Prod.fst).foldl stKB ((rs.drop k).foldl (stK b) M) ∧
           σ = ⟨[.sg 6 (es.map bvp) f,.junk,.junk,.rf 4 0 0 0,.junk,.rf 5 6 0 0,.junk,.junk,.junk,.junk,.junk,.junk,.sg 6 (es.map bvp) f,.w (.int .i64 es.length),.w (.int .i64 i),.junk,.junk,.junk,.junk,.sg 6 (rs.map rv) f',.w (.int .i64 rs.length),.w (.int .i64 k),.junk,.junk,.junk,.junk,.junk,.junk,.junk,.junk,.junk,.junk,.junk,.junk,.junk,.junk,.junk,.junk,.junk,.junk,.junk,.junk,.junk,.junk,.junk,.junk,.junk,.junk,.junk,.junk,.junk,.junk,.junk,.junk],
             [(4,.o (.mp (kvA M))),(5,.g 6 [.agg [.w (.int .i64 b),.w (.int .i64 c),.w (.int .i64 p),.w (.int .i64 e),.w (.int .i64 s),.sg 6 (rs.map rv) f']])],6⟩,?_,?_⟩
       · refine ⟨_,_,zaf [0,1,2,3,4,29] rfl rfl rfl ?_ ?_,0,M,rfl,by omega,by rw [List.drop_zero]; exact hinv,rfl⟩
         · simp only [ssT,zah,zai,setSlot,gOf,AV.ren,renL,Blk.ren,Ax.look,Ax.put,reduceCtorEq,↓reduceIte,Nat.reduceEqDiff,Nat.reduceLT,Nat.reduceAdd,List.length_append,List.length_cons,List.length_nil,Option.some.injEq]; try simp
         · simp only [ssT,zah,zai,setSlot,gOf,AV.ren,renL,Blk.ren,Ax.look,Ax.put,reduceCtorEq,↓reduceIte,Nat.reduceEqDiff,Nat.reduceLT,Nat.reduceAdd,List.length_append,List.length_cons,List.length_nil,Option.some.injEq]
       · rintro m σ ⟨k,M,rfl,hk,hinv,rfl⟩
         by_cases hkl : k < rs.length
         · have e2 : ((k : Int) + 1 + 9223372036854775808) % 18446744073709551616 - 9223372036854775808 = ((k + 1 : Nat) : Int) := by omega
           have d4 : decide ((k : Int) < rs.length) = true := decide_eq_true (by omega)
           have hs2 := zfl rv rs k hkl
           have hdk : rs.drop k = rs[k] :: rs.drop (k + 1) := List.drop_eq_getElem_cons hkl
           obtain ⟨R,hR⟩ : ∃ R,rs[k] = R := ⟨_,rfl⟩
           rw [hR] at hs2 hdk
           rw [hdk,List.foldl_cons] at hinv
           obtain ⟨d,t,kd,key,dd,val⟩ := R
           simp only [rv] at hs2
           have hof : (b + d + 9223372036854775808) % 18446744073709551616 - 9223372036854775808 = offI b d := rfl
           obtain ⟨O,hO⟩ : ∃ O,offI b d = O := ⟨_,rfl⟩
           rw [hO] at hof
           cases kd with
           | false =>
             have hst : stK b M ⟨d,t,false,key,dd,val⟩ = M := rfl
             rw [hst] at hinv
             simp only [go_sem,zaa,Nat.reduceAdd,Nat.reduceSub,Nat.reduceMul,Int.reduceToNat,reduceCtorEq,↓reduceIte,Int.reducePow,Nat.reducePow,Int.reduceMod,Nat.reduceLeDiff,Int.reduceLE,Int.reduceNe,Int.reduceEq,Nat.reduceEqDiff,Nat.reduceLT,Nat.reduceBEq,ty,noS,hlp,hlr,d4,hs2,hof,e2,Int.toNat_natCast,Bool.not_false]
             repeat (refine And.intro (by omega) ?_)
             refine ⟨rs.length - (k + 1),_,by omega,zaf [0,1,2,3,4,5] rfl rfl rfl ?_ ?_,k + 1,M,rfl,by omega,hinv,rfl⟩
             · simp only [ssT,zah,zai,setSlot,gOf,AV.ren,renL,Blk.ren,Ax.look,Ax.put,reduceCtorEq,↓reduceIte,Nat.reduceEqDiff,Nat.reduceLT,Nat.reduceAdd,List.length_append,List.length_cons,List.length_nil,Option.some.injEq]
             · simp only [ssT,zah,zai,setSlot,gOf,AV.ren,renL,Blk.ren,Ax.look,Ax.put,reduceCtorEq,↓reduceIte,Nat.reduceEqDiff,Nat.reduceLT,Nat.reduceAdd,List.length_append,List.length_cons,List.length_nil,Option.some.injEq]
           | true =>
             rcases hx : ixK key M 0 with _ | ⟨j,a⟩
             · have hst : stK b M ⟨d,t,true,key,dd,val⟩ = ptK M key O := by unfold stK gtK; rw [if_pos rfl]; simp only [hx,hO]; rfl
               rw [hst] at hinv
               have hpk := snoc_kvA O hx
               simp only [go_sem,zaa,Nat.reduceAdd,Nat.reduceSub,Nat.reduceMul,Int.reduceToNat,reduceCtorEq,↓reduceIte,Int.reducePow,Nat.reducePow,Int.reduceMod,Nat.reduceLeDiff,Int.reduceLE,Int.reduceNe,Int.reduceEq,Nat.reduceEqDiff,Nat.reduceLT,Nat.reduceBEq,ty,noS,hlp,hlr,d4,hs2,hof,e2,find_kvA,hx,mpI_none,hpk,Int.toNat_natCast,Bool.not_true,Bool.not_false]
               repeat (refine And.intro (by omega) ?_)
               refine ⟨rs.length - (k + 1),_,by omega,zaf [0,1,2,3,4,5] rfl rfl rfl ?_ ?_,k + 1,_,rfl,by omega,hinv,rfl⟩
               · simp only [ssT,zah,zai,setSlot,gOf,AV.ren,renL,Blk.ren,Ax.look,Ax.put,reduceCtorEq,↓reduceIte,Nat.reduceEqDiff,Nat.reduceLT,Nat.reduceAdd,List.length_append,List.length_cons,List.length_nil,Option.some.injEq]
               · simp only [ssT,zah,zai,setSlot,gOf,AV.ren,renL,Blk.ren,Ax.look,Ax.put,reduceCtorEq,↓reduceIte,Nat.reduceEqDiff,Nat.reduceLT,Nat.reduceAdd,List.length_append,List.length_cons,List.length_nil,Option.some.injEq]
             · have hpk := set_kvA O hx
               by_cases c2 : a < O
               · have d6 : decide (a < O) = true := decide_eq_true c2
                 have hst : stK b M ⟨d,t,true,key,dd,val⟩ = ptK M key O := by unfold stK gtK; rw [if_pos rfl]; simp only [hx,hO,Option.map_some,if_pos c2]
                 rw [hst] at hinv
                 simp only [go_sem,zaa,Nat.reduceAdd,Nat.reduceSub,Nat.reduceMul,Int.reduceToNat,reduceCtorEq,↓reduceIte,Int.reducePow,Nat.reducePow,Int.reduceMod,Nat.reduceLeDiff,Int.reduceLE,Int.reduceNe,Int.reduceEq,Nat.reduceEqDiff,Nat.reduceLT,Nat.reduceBEq,ty,noS,hlp,hlr,d4,d6,hs2,hof,e2,find_kvA,hx,mpI_some,hpk,Int.toNat_natCast,Bool.not_true,Bool.not_false]
                 repeat (refine And.intro (by omega) ?_)
                 refine ⟨rs.length - (k + 1),_,by omega,zaf [0,1,2,3,4,5] rfl rfl rfl ?_ ?_,k + 1,_,rfl,by omega,hinv,rfl⟩
                 · simp only [ssT,zah,zai,setSlot,gOf,AV.ren,renL,Blk.ren,Ax.look,Ax.put,reduceCtorEq,↓reduceIte,Nat.reduceEqDiff,Nat.reduceLT,Nat.reduceAdd,List.length_append,List.length_cons,List.length_nil,Option.some.injEq]
                 · simp only [ssT,zah,zai,setSlot,gOf,AV.ren,renL,Blk.ren,Ax.look,Ax.put,reduceCtorEq,↓reduceIte,Nat.reduceEqDiff,Nat.reduceLT,Nat.reduceAdd,List.length_append,List.length_cons,List.length_nil,Option.some.injEq]
               · have d6 : decide (a < O) = false := decide_eq_false c2
                 have hst : stK b M ⟨d,t,true,key,dd,val⟩ = M := by unfold stK gtK; rw [if_pos rfl]; simp only [hx,hO,Option.map_some,if_neg c2]
                 rw [hst] at hinv
                 simp only [go_sem,zaa,Nat.reduceAdd,Nat.reduceSub,Nat.reduceMul,Int.reduceToNat,reduceCtorEq,↓reduceIte,Int.reducePow,Nat.reducePow,Int.reduceMod,Nat.reduceLeDiff,Int.reduceLE,Int.reduceNe,Int.reduceEq,Nat.reduceEqDiff,Nat.reduceLT,Nat.reduceBEq,ty,noS,hlp,hlr,d4,d6,hs2,hof,e2,find_kvA,hx,mpI_some,hpk,Int.toNat_natCast,Bool.not_true,Bool.not_false]
                 repeat (refine And.intro (by omega) ?_)
                 refine ⟨rs.length - (k + 1),_,by omega,zaf [0,1,2,3,4,5] rfl rfl rfl ?_ ?_,k + 1,M,rfl,by omega,hinv,rfl⟩
                 · simp only [ssT,zah,zai,setSlot,gOf,AV.ren,renL,Blk.ren,Ax.look,Ax.put,reduceCtorEq,↓reduceIte,Nat.reduceEqDiff,Nat.reduceLT,Nat.reduceAdd,List.length_append,List.length_cons,List.length_nil,Option.some.injEq]
                 · simp only [ssT,zah,zai,setSlot,gOf,AV.ren,renL,Blk.ren,Ax.look,Ax.put,reduceCtorEq,↓reduceIte,Nat.reduceEqDiff,Nat.reduceLT,Nat.reduceAdd,List.length_append,List.length_cons,List.length_nil,Option.some.injEq]
         · have d4 : decide ((k : Int) < rs.length) = false := decide_eq_false (by omega)
           have hdk : rs.drop k = [] := List.drop_eq_nil_of_le (by omega)
           rw [hdk,List.foldl_nil] at hinv
           simp only [go_sem,zaa,Nat.reduceAdd,Nat.reduceSub,Nat.reduceMul,Int.reduceToNat,reduceCtorEq,↓reduceIte,Int.reducePow,Nat.reducePow,Int.reduceMod,Nat.reduceLeDiff,Int.reduceLE,Int.reduceNe,Int.reduceEq,Nat.reduceEqDiff,Nat.reduceLT,Nat.reduceBEq,ty,noS,hlp,hlr,d4,e1]
           refine ⟨es.length - (i + 1),_,by omega,zaf [0,1,2,3,4] rfl rfl rfl ?_ ?_,i + 1,M,rfl,by omega,hinv,rfl⟩
           · simp only [ssT,zah,zai,setSlot,gOf,AV.ren,renL,Blk.ren,Ax.look,Ax.put,reduceCtorEq,↓reduceIte,Nat.reduceEqDiff,Nat.reduceLT,Nat.reduceAdd,List.length_append,List.length_cons,List.length_nil,Option.some.injEq]
           · simp only [ssT,zah,zai,setSlot,gOf,AV.ren,renL,Blk.ren,Ax.look,Ax.put,reduceCtorEq,↓reduceIte,Nat.reduceEqDiff,Nat.reduceLT,Nat.reduceAdd,List.length_append,List.length_cons,List.length_nil,Option.some.injEq]
     · have d3 : decide ((i : Int) < es.length) = false := decide_eq_false (by omega)
       have hdr : es.drop i = [] := List.drop_eq_nil_of_le (by omega)
       rw [hdr] at hinv
       have hv2 : lastK (es.map Prod.fst) = M := hinv
       rw [hv2] at hA
       simp only [go_sem,zaa,Nat.reduceAdd,Nat.reduceSub,Nat.reduceMul,Int.reduceToNat,reduceCtorEq,↓reduceIte,Int.reducePow,Nat.reducePow,Int.reduceMod,Nat.reduceLeDiff,Int.reduceLE,Int.reduceNe,Int.reduceEq,Nat.reduceEqDiff,Nat.reduceLT,Nat.reduceBEq,ty,noS,hlp,d3,hA]
 · exact hp.elim
end
end Go.Proofs.Ytnmomgcanfpigaa
namespace Go.Proofs.Ytnmomgcanfpigaa
open Ax
def wrI (a : Int) : Int := (a + 9223372036854775808) % 18446744073709551616 - 9223372036854775808
def lateB (t now g : Int) : Bool := decide (0 ≤ now) && (decide (0 ≤ t) && decide (max g 0 < wrI (now - t)))
def keptB (m : KM) (b : Int) (r : Rec) (now g : Int) : Bool := !r.k || (decide ((gtK m r.key).getD 0 = offI b r.d) && !(r.dd && lateB r.t now g))
def late17S : zal
 | [.agg [.w (.int .i64 d),.w (.int .i64 t),.w (.bool k),.str key,.w (.bool dd),.str val],.w (.int .i64 now),.w (.int .i64 g)],[] => ⟨True,.w (.bool (lateB t now g)),[]⟩
 | _,_ => zbg
def stays17S : zal
 | [.agg [.w (.int .i64 b),.w (.int .i64 c),.w (.int .i64 p),.w (.int .i64 e),.w (.int .i64 s),.sg 6 xs f],.agg [.w (.int .i64 d),.w (.int .i64 t),.w (.bool k),.str key,.w (.bool dd),.str val],.rf 0 0 0 0,.w (.int .i64 now),.w (.int .i64 g)],[.o (.mp es)] =>
     ⟨∃ m,es = kvA m,.w (.bool (keptB (es.map ukv) b ⟨d,t,k,key,dd,val⟩ now g)),[.o (.mp es)]⟩
 | _,_ => zbg
section
set_option maxRecDepth 100000
theorem late17_sound : zbb Try.prog 71 late17S := by
 refine zaq (S := noS) (T := ty) zbf ty_ok zbs Try.func71 (c := Try.f71.body.getD .skip) (by kernel_rfl) (by kernel_rfl) (fun xs pins hp _ => ?_)
 unfold late17S at hp ⊢
 split at hp
 · rename_i d t k key dd val now g _
   refine ⟨by simp,?_⟩
   have hw : (now - t + 9223372036854775808) % 18446744073709551616 - 9223372036854775808 = wrI (now - t) := rfl
   have hm : (if g > 0 then g else 0) = max g 0 := by split <;> omega
   have hm2 : (if 0 > g then 0 else g) = max g 0 := by split <;> omega
   obtain ⟨W,hW⟩ : ∃ W,wrI (now - t) = W := ⟨_,rfl⟩
   obtain ⟨V,hV⟩ : ∃ V,max g 0 = V := ⟨_,rfl⟩
   rw [hW] at hw
   rw [hV] at hm hm2
   unfold Try.f71
   by_cases h1 : 0 ≤ now <;> by_cases h2 : 0 ≤ t <;> by_cases h3 : V < W
   all_goals
     simp only [go_sem,zaa,Nat.reduceAdd,Nat.reduceSub,Nat.reduceMul,Int.reduceToNat,reduceCtorEq,↓reduceIte,Int.reducePow,Nat.reducePow,Int.reduceMod,Nat.reduceLeDiff,Int.reduceLE,Int.reduceNe,Int.reduceEq,Nat.reduceEqDiff,Nat.reduceLT,Nat.reduceBEq,ty,noS,hw,hm,hm2,hV,h1,h2,h3,decide_true,decide_false]
     unfold lateB
     rw [hW,hV]
     simp [h1,h2,h3]
 · exact hp.elim
def Sst17 (f : FuncId) : Option zal :=
 match f with
 | 71 => some late17S
 | _ => none
theorem Sst17_ok : Fns Try.prog Sst17 := by
 intro f s h
 unfold Sst17 at h
 split at h
 · injection h with h; subst h; exact ⟨⟨_,Try.func71,by kernel_rfl,by kernel_rfl⟩,late17_sound⟩
 · cases h
theorem stays17_sound : zbb Try.prog 50 stays17S := by
 refine zaq (S := Sst17) (T := ty) zbf ty_ok Sst17_ok Try.func50 (c := Try.f50.body.getD .skip) (by kernel_rfl) (by kernel_rfl) (fun xs pins hp _ => ?_)
 unfold stays17S at hp ⊢
 split at hp
 · rename_i b c p e s xs f d t k key dd val now g es _
   obtain ⟨m,rfl⟩ := hp
   refine ⟨by simp,?_⟩
   rw [ukv_kvA]
   have hof : (b + d + 9223372036854775808) % 18446744073709551616 - 9223372036854775808 = offI b d := rfl
   obtain ⟨O,hO⟩ : ∃ O,offI b d = O := ⟨_,rfl⟩
   rw [hO] at hof
   obtain ⟨L,hL⟩ : ∃ L,lateB t now g = L := ⟨_,rfl⟩
   unfold Try.f50
   cases k with
   | false =>
     have hv : keptB m b ⟨d,t,false,key,dd,val⟩ now g = true := rfl
     simp only [go_sem,zaa,Nat.reduceAdd,Nat.reduceSub,Nat.reduceMul,Int.reduceToNat,reduceCtorEq,↓reduceIte,Int.reducePow,Nat.reducePow,Int.reduceMod,Nat.reduceLeDiff,Int.reduceLE,Int.reduceNe,Int.reduceEq,Nat.reduceEqDiff,Nat.reduceLT,Nat.reduceBEq,ty,Sst17,hv,Bool.not_false]
   | true =>
     rcases hx : ixK key m 0 with _ | ⟨j,a⟩
     · have hg : (gtK m key).getD 0 = 0 := by unfold gtK; rw [hx]; rfl
       have hv : keptB m b ⟨d,t,true,key,dd,val⟩ now g = (decide (0 = O) && !(dd && L)) := by unfold keptB; simp only [hg,hO,hL]; rfl
       by_cases h1 : 0 = O <;> cases dd <;> cases L
       all_goals
         simp only [h1,decide_true,decide_false,Bool.true_and,Bool.false_and,Bool.and_true,Bool.and_false,Bool.not_true,Bool.not_false] at hv
         simp only [go_sem,zaa,Nat.reduceAdd,Nat.reduceSub,Nat.reduceMul,Int.reduceToNat,reduceCtorEq,↓reduceIte,Int.reducePow,Nat.reducePow,Int.reduceMod,Nat.reduceLeDiff,Int.reduceLE,Int.reduceNe,Int.reduceEq,Nat.reduceEqDiff,Nat.reduceLT,Nat.reduceBEq,ty,Sst17,late17S,hv,hof,hL,find_kvA,hx,mpI_none,h1,decide_true,decide_false,Bool.not_true,Bool.not_false]
     · have hg : (gtK m key).getD 0 = a := by unfold gtK; rw [hx]; rfl
       have hv : keptB m b ⟨d,t,true,key,dd,val⟩ now g = (decide (a = O) && !(dd && L)) := by unfold keptB; simp only [hg,hO,hL]; rfl
       by_cases h1 : a = O <;> cases dd <;> cases L
       all_goals
         simp only [h1,decide_true,decide_false,Bool.true_and,Bool.false_and,Bool.and_true,Bool.and_false,Bool.not_true,Bool.not_false] at hv
         simp only [go_sem,zaa,Nat.reduceAdd,Nat.reduceSub,Nat.reduceMul,Int.reduceToNat,reduceCtorEq,↓reduceIte,Int.reducePow,Nat.reducePow,Int.reduceMod,Nat.reduceLeDiff,Int.reduceLE,Int.reduceNe,Int.reduceEq,Nat.reduceEqDiff,Nat.reduceLT,Nat.reduceBEq,ty,Sst17,late17S,hv,hof,hL,find_kvA,hx,mpI_some,h1,decide_true,decide_false,Bool.not_true,Bool.not_false]
 · exact hp.elim
def goes17S : zal
 | [.agg [.w (.int .i64 d),.w (.int .i64 t),.w (.bool k),.str key,.w (.bool dd),.str val],.rf 0 6 0 0,.rf 1 1 0 0,.cp [.w (.int .i64 now)],.cp [.w (.int .i64 g)]],[.g 6 [.agg [.w (.int .i64 b),.w (.int .i64 c),.w (.int .i64 p),.w (.int .i64 e),.w (.int .i64 s),.sg 6 xs f]],.g 1 [.rf 2 0 0 0],.o (.mp es)] =>
     ⟨∃ m,es = kvA m,.w (.bool (!keptB (es.map ukv) b ⟨d,t,k,key,dd,val⟩ now g)),[.g 6 [.agg [.w (.int .i64 b),.w (.int .i64 c),.w (.int .i64 p),.w (.int .i64 e),.w (.int .i64 s),.sg 6 xs f]],.g 1 [.rf 2 0 0 0],.o (.mp es)]⟩
 | _,_ => zbg
def Sgo17 (f : FuncId) : Option zal :=
 match f with
 | 50 => some stays17S
 | _ => none
theorem Sgo17_ok : Fns Try.prog Sgo17 := by
 intro f s h
 unfold Sgo17 at h
 split at h
 · injection h with h; subst h; exact ⟨⟨_,Try.func50,by kernel_rfl,by kernel_rfl⟩,stays17_sound⟩
 · cases h
def stdPl : XPlan := fun _ => .std
theorem goes17_sound : SoundO Try.prog 49 goes17S := by
 refine fn_soundO (S := Sgo17) (SO := noO) (T := ty) zbf ty_ok Sgo17_ok noO_ok Try.func49 (c := Try.f49.body.getD .skip) (by kernel_rfl) (fun xs pins hp => ?_)
 unfold goes17S at hp ⊢
 split at hp
 · rename_i d t k key dd val now g b c p e s xs f es
   have hp : ∃ m,es = kvA m := hp
   refine ⟨by simp,stdPl,by kernel_rfl,?_⟩
   obtain ⟨V,hV⟩ : ∃ V,keptB (es.map ukv) b ⟨d,t,k,key,dd,val⟩ now g = V := ⟨_,rfl⟩
   unfold Try.f49
   simp only [go_sem,zab,Nat.reduceAdd,Nat.reduceSub,Nat.reduceMul,Int.reduceToNat,reduceCtorEq,↓reduceIte,Int.reducePow,Nat.reducePow,Int.reduceMod,Nat.reduceLeDiff,Int.reduceLE,Int.reduceNe,Int.reduceEq,Nat.reduceEqDiff,Nat.reduceLT,Nat.reduceBEq,List.map_cons,List.map_nil,List.toList_toArray,Array.toList_append,Option.toArray_some,Option.toArray_none,Bool.and_self,ty,Sgo17,stays17S,stdPl,hp,hV]
   try (refine ⟨_,Weak.refl _,?_⟩)
   try simp only [go_sem,zab,Nat.reduceAdd,Nat.reduceSub,Nat.reduceMul,Int.reduceToNat,reduceCtorEq,↓reduceIte,Int.reducePow,Nat.reducePow,Int.reduceMod,Nat.reduceLeDiff,Int.reduceLE,Int.reduceNe,Int.reduceEq,Nat.reduceEqDiff,Nat.reduceLT,Nat.reduceBEq,List.map_cons,List.map_nil,List.toList_toArray,Array.toList_append,Option.toArray_some,Option.toArray_none,Bool.and_self,ty,Sgo17,hV]
 · exact hp.elim
end
end Go.Proofs.Ytnmomgcanfpigaa
namespace Go.Proofs.Ytnmomgcanfpigaa
open Ax
def findI (P : Rec → Bool) : List Rec → Int → Int
 | [],_ => -1
 | r :: rs,i => if P r then i else findI P rs (i + 1)
section
set_option maxRecDepth 100000
set_option maxHeartbeats 1000000 in
end
end Go.Proofs.Ytnmomgcanfpigaa
