/- What the proofs of this seat stand on; it asks nothing. -/
import Derived.Test.YtjiognhpcijndaaZa09
set_option linter.unusedSimpArgs false
set_option linter.unusedVariables false
namespace Go.Proofs.Ytjiognhpcijndaa
open Ax
def eqfBS : zal
 | [.sg 6 xs f,.sg 6 ys g,.fn id []],[] => ⟨id = 32 ∧ (xs.length ≤ 1000000 ∧ ∃ es : List (Bat × Bool),xs = es.map bvp ∧ ∀ p ∈ es,p.1.rs.length ≤ 1000000) ∧ ys.length ≤ 1000000 ∧ ∃ gs : List (Bat × Bool),ys = gs.map bvp ∧ ∀ p ∈ gs,p.1.rs.length ≤ 1000000,.w (.bool (decide (xs.map ubat = ys.map ubat))),[]⟩
 | _,_ => zba
def ssameS : zal
 | [.agg [.w (.int .i64 B),.sg 6 xs f],.agg [.w (.int .i64 D),.sg 6 ys g]],[] => ⟨(xs.length ≤ 1000000 ∧ isBl xs) ∧ ys.length ≤ 1000000 ∧ isBl ys,.w (.bool (decide (B = D) && decide (xs.map ubat = ys.map ubat))),[]⟩
 | _,_ => zba
def spL (l : List Bat) : List Ent := l.zipIdx.map fun p => ⟨p.1.b,newL p.1.rs,(p.2 : Int)⟩
theorem spL_snoc (l : List Bat) (x : Bat) : spL (l ++ [x]) = spL l ++ [⟨x.b,newL x.rs,(l.length : Int)⟩] := by
 unfold spL; rw [List.zipIdx_append]; simp
theorem spL_len (l : List Bat) : (spL l).length = l.length := by unfold spL; simp
theorem ids_entJ : ∀ (l : List Ent),idsL (l.map ent) = []
 | [] => rfl
 | x :: r => by simp only [List.map_cons,idsL,ent,AV.ids,List.nil_append]; exact ids_entJ r
theorem ids_rvJ : ∀ (l : List Rec),idsL (l.map rv) = []
 | [] => rfl
 | x :: r => by simp only [List.map_cons,idsL,rv,AV.ids,List.nil_append]; exact ids_rvJ r
def sparS : zal
 | [.agg [.w (.int .i64 B),.sg 6 xs f],.w (.int .i64 v)],[] => ⟨xs.length ≤ 90000 ∧ isBl xs,iav (bldI v (spL (xs.map ubat))) (empE (bldI v (spL (xs.map ubat))).es),[]⟩
 | _,_ => zba
def SeqfB (f : FuncId) : Option zal :=
 match f with
 | 32 => some zcx
 | _ => none
theorem SeqfB_ok : Fns Try.prog SeqfB := by
 intro f s h
 unfold SeqfB at h
 split at h
 · injection h with h; subst h; exact ⟨⟨_,Try.func32,by kernel_rfl,by kernel_rfl⟩,bsame4_sound⟩
 · cases h
section
set_option maxRecDepth 100000
set_option maxHeartbeats 2000000 in
theorem eqfB_sound : zar Try.prog 58 eqfBS := by
 refine zah (S := SeqfB) (T := ty) zat ty_ok SeqfB_ok Try.func58 (c := Try.f58.body.getD .skip) (by kernel_rfl) (by kernel_rfl) (fun xs pins hp _ => ?_)
 unfold eqfBS at hp ⊢
 split at hp
 · rename_i xs f ys g id _
   obtain ⟨rfl,⟨hL1,es,rfl,he⟩,hL2,gs,rfl,hg⟩ := hp
   rw [List.length_map] at hL1 hL2
   rw [zaz,zaz]
   refine ⟨by simp,?_⟩
   have hlp : (es.map bvp).length = es.length := by simp
   have hlq : (gs.map bvp).length = gs.length := by simp
   have hla : (es.map Prod.fst).length = es.length := by simp
   have hlb : (gs.map Prod.fst).length = gs.length := by simp
   unfold Try.f58
   by_cases hl : es.length = gs.length
   · have d0 : decide ((es.length : Int) = gs.length) = true := decide_eq_true (by omega)
     have hk : es.map Prod.fst = gs.map Prod.fst ↔ ∀ j (h : j < es.length) (h' : j < gs.length),es[j].1 = gs[j].1 := by
       constructor
       · intro h j h1 h2
         have := List.getElem_of_eq h (i := j) (by omega)
         simpa using this
       · intro h
         refine List.ext_getElem (by omega) ?_
         intro j h1 h2
         simpa using h j (by omega) (by omega)
     simp only [go_sem,zaa,Nat.reduceAdd,Nat.reduceSub,Nat.reduceMul,Int.reduceToNat,reduceCtorEq,↓reduceIte,Int.reducePow,Nat.reducePow,Int.reduceMod,Nat.reduceLeDiff,Int.reduceLE,Int.reduceNe,Int.reduceEq,Nat.reduceEqDiff,Nat.reduceLT,Nat.reduceBEq,ty,SeqfB,hlp,hlq,d0]
     refine zas ⟨fun m σ => ∃ i : Nat,m = es.length - i ∧ i ≤ es.length ∧ (∀ j (h : j < es.length) (h' : j < gs.length),j < i → es[j].1 = gs[j].1) ∧
         σ = ⟨[.sg 6 (es.map bvp) f,.sg 6 (gs.map bvp) g,.fn 32 [],.junk,.junk,.junk,.junk,.junk,.junk,.junk,.junk,.junk,.junk,.junk,.junk,.sg 6 (es.map bvp) f,.w (.int .i64 es.length),.w (.int .i64 i),.junk,.junk,.junk,.junk,.junk,.junk,.junk,.junk,.junk,.junk,.junk,.junk,.junk,.junk],[],4⟩,?_,?_⟩
     · refine ⟨_,_,zac [0,1,2,3] rfl rfl rfl ?_ ?_,0,rfl,by omega,by intro j _ _ h; omega,rfl⟩
       · simp only [ssT,zaf,zag,setSlot,gOf,AV.ren,renL,Blk.ren,Ax.look,Ax.put,reduceCtorEq,↓reduceIte,Nat.reduceEqDiff,Nat.reduceLT,Nat.reduceAdd,List.length_append,List.length_cons,List.length_nil,Option.some.injEq]; simp
       · simp only [ssT,zaf,zag,setSlot,gOf,AV.ren,renL,Blk.ren,Ax.look,Ax.put,reduceCtorEq,↓reduceIte,Nat.reduceEqDiff,Nat.reduceLT,Nat.reduceAdd,List.length_append,List.length_cons,List.length_nil,Option.some.injEq]
     · rintro m σ ⟨i,rfl,hi,hall,rfl⟩
       by_cases hil : i < es.length
       · have d1 : decide ((i : Int) < es.length) = true := decide_eq_true (by omega)
         have e1 : ((i : Int) + 1 + 9223372036854775808) % 18446744073709551616 - 9223372036854775808 = ((i + 1 : Nat) : Int) := by omega
         have hiq : i < gs.length := by omega
         have hs1 := zbb es i hil
         have hs2 := zbb gs i hiq
         have m1 := he es[i] (List.getElem_mem hil)
         have m2 := hg gs[i] (List.getElem_mem hiq)
         obtain ⟨P,hP⟩ : ∃ P,es[i] = P := ⟨_,rfl⟩
         obtain ⟨Q,hQ⟩ : ∃ Q,gs[i] = Q := ⟨_,rfl⟩
         rw [hP] at hs1 m1
         rw [hQ] at hs2 m2
         obtain ⟨⟨b,c,p,e,s,rs⟩,f'⟩ := P
         obtain ⟨⟨b',c',p',e',s',qs⟩,g'⟩ := Q
         have hs1 : slot (es.map bvp) i = .agg [.w (.int .i64 b),.w (.int .i64 c),.w (.int .i64 p),.w (.int .i64 e),.w (.int .i64 s),.sg 6 (rs.map rv) f'] := hs1
         have hs2 : slot (gs.map bvp) i = .agg [.w (.int .i64 b'),.w (.int .i64 c'),.w (.int .i64 p'),.w (.int .i64 e'),.w (.int .i64 s'),.sg 6 (qs.map rv) g'] := hs2
         have n1 : (rs.map rv).length ≤ 9223372036854775807 := by rw [List.length_map]; simp only at m1; omega
         have n2 : (qs.map rv).length ≤ 9223372036854775807 := by rw [List.length_map]; simp only at m2; omega
         have x1 : ∃ k : List Rec,rs.map rv = k.map rv := ⟨rs,rfl⟩
         have x2 : ∃ k : List Rec,qs.map rv = k.map rv := ⟨qs,rfl⟩
         have r1 := zae rs
         have r2 := zae qs
         have hbs := bsame_decJ b c p e s rs b' c' p' e' s' qs
         by_cases ha : (⟨b,c,p,e,s,rs⟩ : Bat) = ⟨b',c',p',e',s',qs⟩
         · rw [decide_eq_true ha] at hbs
           simp only [go_sem,zaa,Nat.reduceAdd,Nat.reduceSub,Nat.reduceMul,Int.reduceToNat,reduceCtorEq,↓reduceIte,Int.reducePow,Nat.reducePow,Int.reduceMod,Nat.reduceLeDiff,Int.reduceLE,Int.reduceNe,Int.reduceEq,Nat.reduceEqDiff,Nat.reduceLT,Nat.reduceBEq,ty,SeqfB,zcx,hlp,hlq,d1,hs1,hs2,e1,n1,n2,x1,x2,r1,r2,hbs,Int.toNat_natCast]
           repeat (refine And.intro (by omega) ?_)
           refine ⟨es.length - (i + 1),_,by omega,zac [0,1,2,3] rfl rfl rfl ?_ ?_,i + 1,rfl,by omega,?_,rfl⟩
           · simp only [ssT,zaf,zag,setSlot,gOf,AV.ren,renL,Blk.ren,Ax.look,Ax.put,reduceCtorEq,↓reduceIte,Nat.reduceEqDiff,Nat.reduceLT,Nat.reduceAdd,List.length_append,List.length_cons,List.length_nil,Option.some.injEq]
           · simp only [ssT,zaf,zag,setSlot,gOf,AV.ren,renL,Blk.ren,Ax.look,Ax.put,reduceCtorEq,↓reduceIte,Nat.reduceEqDiff,Nat.reduceLT,Nat.reduceAdd,List.length_append,List.length_cons,List.length_nil,Option.some.injEq]
           · intro j h h' hj
             rcases Nat.lt_or_ge j i with h2 | h2
             · exact hall j h h' h2
             · have : j = i := by omega
               subst this
               rw [hP,hQ]; exact ha
         · have dr : decide (es.map Prod.fst = gs.map Prod.fst) = false := decide_eq_false (fun h => ha (by have := hk.1 h i hil hiq; rw [hP,hQ] at this; exact this))
           rw [decide_eq_false ha] at hbs
           simp only [go_sem,zaa,Nat.reduceAdd,Nat.reduceSub,Nat.reduceMul,Int.reduceToNat,reduceCtorEq,↓reduceIte,Int.reducePow,Nat.reducePow,Int.reduceMod,Nat.reduceLeDiff,Int.reduceLE,Int.reduceNe,Int.reduceEq,Nat.reduceEqDiff,Nat.reduceLT,Nat.reduceBEq,ty,SeqfB,zcx,hlp,hlq,d1,hs1,hs2,e1,n1,n2,x1,x2,r1,r2,hbs,dr,Int.toNat_natCast]
           all_goals omega
       · have d1 : decide ((i : Int) < es.length) = false := decide_eq_false (by omega)
         have dr : decide (es.map Prod.fst = gs.map Prod.fst) = true := decide_eq_true (hk.2 fun j h h' => hall j h h' (by omega))
         simp only [go_sem,zaa,Nat.reduceAdd,Nat.reduceSub,Nat.reduceMul,Int.reduceToNat,reduceCtorEq,↓reduceIte,Int.reducePow,Nat.reducePow,Int.reduceMod,Nat.reduceLeDiff,Int.reduceLE,Int.reduceNe,Int.reduceEq,Nat.reduceEqDiff,Nat.reduceLT,Nat.reduceBEq,ty,SeqfB,hlp,hlq,d1,dr]
   · have d0 : decide ((es.length : Int) = gs.length) = false := decide_eq_false (by omega)
     have dr : decide (es.map Prod.fst = gs.map Prod.fst) = false := decide_eq_false (fun h => hl (by have := congrArg List.length h; simpa using this))
     simp only [go_sem,zaa,Nat.reduceAdd,Nat.reduceSub,Nat.reduceMul,Int.reduceToNat,reduceCtorEq,↓reduceIte,Int.reducePow,Nat.reducePow,Int.reduceMod,Nat.reduceLeDiff,Int.reduceLE,Int.reduceNe,Int.reduceEq,Nat.reduceEqDiff,Nat.reduceLT,Nat.reduceBEq,ty,SeqfB,hlp,hlq,d0,dr]
 · exact hp.elim
def Ssame14 (f : FuncId) : Option zal :=
 match f with
 | 58 => some eqfBS
 | _ => none
theorem Ssame14_ok : Fns Try.prog Ssame14 := by
 intro f s h
 unfold Ssame14 at h
 split at h
 · injection h with h; subst h; exact ⟨⟨_,Try.func58,by kernel_rfl,by kernel_rfl⟩,eqfB_sound⟩
 · cases h
set_option maxHeartbeats 2000000 in
theorem ssame_sound : zar Try.prog 37 ssameS := by
 refine zah (S := Ssame14) (T := tyF) zat tyF_ok Ssame14_ok Try.func37 (c := Try.f37.body.getD .skip) (by kernel_rfl) (by kernel_rfl) (fun xs pins hp _ => ?_)
 unfold ssameS at hp ⊢
 split at hp
 · rename_i B xs f D ys g _
   obtain ⟨⟨hL,es,rfl,he⟩,hL2,gs,rfl,hg⟩ := hp
   refine ⟨by simp,?_⟩
   have n1 : (es.map bvp).length ≤ 1000000 := hL
   have n2 : (gs.map bvp).length ≤ 1000000 := hL2
   have x1 : ∃ k : List (Bat × Bool),es.map bvp = k.map bvp ∧ ∀ p ∈ k,p.1.rs.length ≤ 1000000 := ⟨es,rfl,he⟩
   have x2 : ∃ k : List (Bat × Bool),gs.map bvp = k.map bvp ∧ ∀ p ∈ k,p.1.rs.length ≤ 1000000 := ⟨gs,rfl,hg⟩
   have hc1 : ∀ h,coe (zaj ty) 22 (.sg 6 (es.map bvp) h) = .sg 6 (es.map bvp) h := fun h => by cases es <;> rfl
   have hc2 : ∀ h,coe (zaj ty) 22 (.sg 6 (gs.map bvp) h) = .sg 6 (gs.map bvp) h := fun h => by cases gs <;> rfl
   obtain ⟨K,hK⟩ : ∃ K,decide ((es.map bvp).map ubat = (gs.map bvp).map ubat) = K := ⟨_,rfl⟩
   unfold Try.f37
   by_cases h : B = D
   · have d1 : decide (B = D) = true := decide_eq_true h
     simp only [go_sem,zaa,Nat.reduceAdd,Nat.reduceSub,Nat.reduceMul,Int.reduceToNat,reduceCtorEq,↓reduceIte,Int.reducePow,Nat.reducePow,Int.reduceMod,Nat.reduceLeDiff,Int.reduceLE,Int.reduceNe,Int.reduceEq,Nat.reduceEqDiff,Nat.reduceLT,Nat.reduceBEq,tyF,zaj,ty,Ssame14,eqfBS,hc1,hc2,n1,n2,x1,x2,hK,d1,Bool.true_and]
   · have d1 : decide (B = D) = false := decide_eq_false h
     simp only [go_sem,zaa,Nat.reduceAdd,Nat.reduceSub,Nat.reduceMul,Int.reduceToNat,reduceCtorEq,↓reduceIte,Int.reducePow,Nat.reducePow,Int.reduceMod,Nat.reduceLeDiff,Int.reduceLE,Int.reduceNe,Int.reduceEq,Nat.reduceEqDiff,Nat.reduceLT,Nat.reduceBEq,tyF,zaj,ty,Ssame14,eqfBS,hc1,hc2,n1,n2,x1,x2,hK,d1,Bool.false_and]
 · exact hp.elim
def Sspar (f : FuncId) : Option zal :=
 match f with
 | 43 => some bnewS
 | 49 => some buildI12S
 | _ => none
theorem Sspar_ok : Fns Try.prog Sspar := by
 intro f s h
 unfold Sspar at h
 split at h
 · injection h with h; subst h; exact ⟨⟨_,Try.func43,by kernel_rfl,by kernel_rfl⟩,bnew_sound⟩
 · injection h with h; subst h; exact ⟨⟨_,Try.func49,by kernel_rfl,by kernel_rfl⟩,buildI12_sound⟩
 · cases h
def sparPl : Plan := fun id => match id with
 | 5 => some [(1,4),(2,4)]
 | _ => none
set_option maxHeartbeats 4000000 in
theorem spar_sound : zar Try.prog 25 sparS := by
 refine fn_soundF (S := Sspar) (T := ty) (pl := sparPl) zat ty_ok Sspar_ok Try.func25 (c := Try.f25.body.getD .skip) (by kernel_rfl) (by kernel_rfl) (fun xs pins hp _ => ?_)
 unfold sparS at hp ⊢
 split at hp
 · rename_i B xs f v _
   obtain ⟨hL,es,rfl,he⟩ := hp
   rw [List.length_map] at hL
   refine ⟨by simp,?_⟩
   have hlp : (es.map bvp).length = es.length := by simp
   rw [zaz]
   obtain ⟨l,hl⟩ : ∃ l,es.map Prod.fst = l := ⟨_,rfl⟩
   rw [hl]
   have hlq : l.length = es.length := by subst hl; simp
   have ht : top = 4294967296 := rfl
   unfold Try.f25
   simp only [go_sem,zbh,Nat.reduceAdd,Nat.reduceSub,Nat.reduceMul,Int.reduceToNat,reduceCtorEq,↓reduceIte,Int.reducePow,Nat.reducePow,Int.reduceMod,Nat.reduceLeDiff,Int.reduceLE,Int.reduceNe,Int.reduceEq,Nat.reduceEqDiff,Nat.reduceLT,Nat.reduceBEq,List.map_cons,List.map_nil,List.toList_toArray,Array.toList_append,Option.toArray_some,Option.toArray_none,Bool.and_self,ty,Sspar,sparPl,hlp]
   refine awpF_loopW ⟨fun m σ => ∃ (i : Nat),m = es.length - i ∧ i ≤ es.length ∧
       σ = ⟨[.agg [.w (.int .i64 B),.sg 6 (es.map bvp) f],.w (.int .i64 v),.rf 4 2 0 0,.junk,.rf 5 3 0 0,.ms 6 3 0 i,.junk,.junk,.junk,.sg 6 (es.map bvp) f,.w (.int .i64 es.length),.w (.int .i64 i),.junk,.junk,.junk,.junk,.junk,.junk,.junk,.junk,.junk,.junk,.junk,.junk,.junk,.junk,.junk,.junk,.junk],
         [(4,.g 2 [.agg [.w (.int .i64 B),.sg 6 (es.map bvp) f]]),(5,.g 3 [.agg [.w (.int .i64 0),.w (.int .i64 0),.sg 3 [] true]]),(6,.g 3 ((spL (l.take i)).map ent))],7⟩,?_,?_⟩
   · refine ⟨_,_,(zdw 5 3 (.g 3 []) ⟨by decide,rfl⟩ (by exact trivial)).trans (zac [0,1,2,3,4,12,60] rfl rfl rfl ?_ ?_),0,rfl,by omega,rfl⟩
     · simp only [ssT,zaf,zag,setSlot,gOf,AV.ren,renL,Blk.ren,Ax.look,Ax.put,reduceCtorEq,↓reduceIte,Nat.reduceEqDiff,Nat.reduceLT,Nat.reduceAdd,List.length_append,List.length_cons,List.length_nil,Option.some.injEq]; try simp
     · simp only [ssT,zaf,zag,setSlot,gOf,AV.ren,renL,Blk.ren,Ax.look,Ax.put,reduceCtorEq,↓reduceIte,Nat.reduceEqDiff,Nat.reduceLT,Nat.reduceAdd,List.length_append,List.length_cons,List.length_nil,Option.some.injEq,List.take_zero]; try simp [spL,renL]
   · rintro m σ ⟨i,rfl,hi,rfl⟩
     have e1 : ((i : Int) + 1 + 9223372036854775808) % 18446744073709551616 - 9223372036854775808 = ((i + 1 : Nat) : Int) := by omega
     have hml : ((spL (l.take i)).map ent).length = i := by rw [List.length_map,spL_len,List.length_take]; omega
     by_cases hil : i < es.length
     · have d3 : decide ((i : Int) < es.length) = true := decide_eq_true (by omega)
       have hs1 := zbb es i hil
       have m1 := he es[i] (List.getElem_mem hil)
       have hyi : (spL (l.take (i + 1))).map ent = (spL (l.take i)).map ent ++ [.agg [.w (.int .i64 es[i].1.b),.w (.int .i64 (newL es[i].1.rs)),.w (.int .i64 (i : Int))]] := by
         have h1 : l[i]'(by omega) = es[i].1 := by subst hl; simp
         have h2 : (l.take i).length = i := by rw [List.length_take]; omega
         rw [List.take_succ_eq_append_getElem (by omega),spL_snoc,h1,h2,List.map_append]; rfl
       obtain ⟨P,hP⟩ : ∃ P,es[i] = P := ⟨_,rfl⟩
       rw [hP] at hs1 m1 hyi
       obtain ⟨⟨b,c,p,e,s,rs⟩,f'⟩ := P
       have hs1 : slot (es.map bvp) i = .agg [.w (.int .i64 b),.w (.int .i64 c),.w (.int .i64 p),.w (.int .i64 e),.w (.int .i64 s),.sg 6 (rs.map rv) f'] := hs1
       simp only at m1 hyi
       have n1 : (rs.map rv).length ≤ 9223372036854775807 := by rw [List.length_map]; omega
       have x1 : ∃ k : List Rec,rs.map rv = k.map rv := ⟨rs,rfl⟩
       have r1 := zae rs
       have hids := ids_rvJ rs
       obtain ⟨W,hW⟩ : ∃ W,newL rs = W := ⟨_,rfl⟩
       rw [hW] at hyi
       have hcl := zbn (spL (l.take i))
       have hids2 := ids_entJ (spL (l.take i))
       have hids3 := ids_entJ (spL (l.take (i + 1)))
       rw [hyi] at hids3
       simp only [go_sem,zbh,Nat.reduceAdd,Nat.reduceSub,Nat.reduceMul,Int.reduceToNat,reduceCtorEq,↓reduceIte,Int.reducePow,Nat.reducePow,Int.reduceMod,Nat.reduceLeDiff,Int.reduceLE,Int.reduceNe,Int.reduceEq,Nat.reduceEqDiff,Nat.reduceLT,Nat.reduceBEq,List.map_cons,List.map_nil,List.toList_toArray,Array.toList_append,Option.toArray_some,Option.toArray_none,Bool.and_self,ty,Sspar,sparPl,bnewS,hlp,hml,d3,hs1,n1,x1,r1,hW,e1,hids,hids2,hids3,hcl,fillS,Int.toNat_natCast]
       repeat (refine And.intro (by omega) ?_)
       refine ⟨es.length - (i + 1),_,by omega,zac [0,1,2,3,4,5,127] rfl rfl rfl ?_ ?_,i + 1,rfl,by omega,rfl⟩
       · simp only [ssT,zaf,zag,setSlot,gOf,AV.ren,renL,Blk.ren,Ax.look,Ax.put,reduceCtorEq,↓reduceIte,Nat.reduceEqDiff,Nat.reduceLT,Nat.reduceAdd,List.length_append,List.length_cons,List.length_nil,Option.some.injEq]
       · simp only [ssT,zaf,zag,setSlot,gOf,AV.ren,renL,Blk.ren,Ax.look,Ax.put,reduceCtorEq,↓reduceIte,Nat.reduceEqDiff,Nat.reduceLT,Nat.reduceAdd,List.length_append,List.length_cons,List.length_nil,Option.some.injEq,hyi]
         rw [← hyi,zek _ _ (zbn _)]
     · have d3 : decide ((i : Int) < es.length) = false := decide_eq_false (by omega)
       have hii : l.take i = l := List.take_of_length_le (by omega)
       rw [hii] at hml ⊢
       have hx1 : ∃ k : List Ent,(spL l).map ent = k.map ent := ⟨_,rfl⟩
       have hu := map_uent (spL l)
       have hcl := zbn (spL l)
       have hids2 := ids_entJ (spL l)
       have hle1 : i ≤ 100000 := by omega
       have htk : ((spL l).map ent).take i = (spL l).map ent := List.take_of_length_le (by omega)
       have hcm : ∀ y ∈ (spL l).map ent,y.closed = true := by
         intro y hy
         obtain ⟨e,_,rfl⟩ := List.mem_map.1 hy
         rfl
       simp only [go_sem,zbh,Nat.reduceAdd,Nat.reduceSub,Nat.reduceMul,Int.reduceToNat,reduceCtorEq,↓reduceIte,Int.reducePow,Nat.reducePow,Int.reduceMod,Nat.reduceLeDiff,Int.reduceLE,Int.reduceNe,Int.reduceEq,Nat.reduceEqDiff,Nat.reduceLT,Nat.reduceBEq,List.map_cons,List.map_nil,List.toList_toArray,Array.toList_append,Option.toArray_some,Option.toArray_none,Bool.and_self,ty,Sspar,sparPl,buildI12S,hlp,hml,d3,hids2,hcl,hx1,hu,hle1,htk,fillS]
       have hdle : decide (0 + i ≤ ((spL l).map ent).length) = true := decide_eq_true (by omega)
       have hL1 : ((spL l).map ent).length ≤ 100000 := by omega
       have hcc : ∀ h,coe ty 44 (.sg 3 ((spL l).map ent) h) = .sg 3 ((spL l).map ent) h := fun h => by cases (spL l) <;> rfl
       obtain ⟨X,hX⟩ : ∃ X,bldI v (spL l) = X := ⟨_,rfl⟩
       obtain ⟨G,hG⟩ : ∃ G,empE X.es = G := ⟨_,rfl⟩
       rw [hX,hG]
       have hiX := ids_entJ X.es
       refine ⟨_,weak_fg 6 3 5 ((spL l).map ent) rfl hcl (by simp [slot,AV.ids]),?_⟩
       simp only [fgL,fgH,AV.fg,Blk.fg,Nat.reduceBEq,cond_true,cond_false,hdle,Bool.and_true,beq_self_eq_true,Bool.true_and,List.drop_zero,htk]
       simp only [go_sem,zbh,Nat.reduceAdd,Nat.reduceSub,Nat.reduceMul,Int.reduceToNat,reduceCtorEq,↓reduceIte,Int.reducePow,Nat.reducePow,Int.reduceMod,Nat.reduceLeDiff,Int.reduceLE,Int.reduceNe,Int.reduceEq,Nat.reduceEqDiff,Nat.reduceLT,Nat.reduceBEq,List.map_cons,List.map_nil,List.toList_toArray,Array.toList_append,Option.toArray_some,Option.toArray_none,Bool.and_self,ty,Sspar,sparPl,buildI12S,hcc,hL1,hx1,hu,hX,hG,iav,hiX,fillS]
       refine ⟨_,Weak.refl _,?_⟩
       simp only [go_sem,zbh,Nat.reduceAdd,Nat.reduceSub,Nat.reduceMul,Int.reduceToNat,reduceCtorEq,↓reduceIte,Int.reducePow,Nat.reducePow,Int.reduceMod,Nat.reduceLeDiff,Int.reduceLE,Int.reduceNe,Int.reduceEq,Nat.reduceEqDiff,Nat.reduceLT,Nat.reduceBEq,List.map_cons,List.map_nil,List.toList_toArray,Array.toList_append,Option.toArray_some,Option.toArray_none,Bool.and_self,ty,hiX,fillS]
 · exact hp.elim
end
end Go.Proofs.Ytjiognhpcijndaa
namespace Go.Proofs.Ytjiognhpcijndaa
namespace Ax
theorem aopsF_mono {S : zak} {T : zab} {ops : List Oper} {pl : List (Nat × Nat)} {Q Q' : List AV → Heap → Prop} (hq : ∀ sl H,Q sl H → Q' sl H) : ∀ (l : List Oper) (nm : Nat) (acc : List (Nat × List Nat)) (sl : List AV) (H : Heap),zex S T ops pl nm acc l sl H Q → zex S T ops pl nm acc l sl H Q'
 | [],nm,acc,sl,H,h => ⟨h.1,hq sl H h.2⟩
 | o :: r,nm,acc,sl,H,h => by
   unfold zex at h ⊢
   cases hg : o.guard with
   | none => simp only [hg] at h ⊢; exact ⟨h.1,aopsF_mono hq r _ _ _ _ h.2⟩
   | some g =>
     obtain ⟨j,want⟩ := g
     simp only [hg] at h ⊢
     cases hs : guardSlot ops j with
     | none => simp [hs] at h
     | some d =>
       simp only [hs] at h ⊢
       split at h
       · exact ⟨fun e => ⟨(h.1 e).1,aopsF_mono hq r _ _ _ _ (h.1 e).2⟩,fun e => aopsF_mono hq r _ _ _ _ (h.2 e)⟩
       · exact aopsF_mono hq r _ _ _ _ h
       · exact h.elim
theorem aopsO_mono {S SO : zak} {T : zab} {ops : List Oper} {Q Q' : List AV → Heap → Prop} (hq : ∀ sl H,Q sl H → Q' sl H) : ∀ (k nm : Nat) (l : List Oper) (sl : List AV) (H : Heap),aopsO S SO T ops k nm l sl H Q → aopsO S SO T ops k nm l sl H Q'
 | k,nm,[],sl,H,h => by unfold aopsO at h ⊢; exact hq _ _ h
 | 0,nm,o :: r,sl,H,h => by unfold aopsO at h ⊢; exact ⟨h.1,h.2.1,zdd hq _ _ _ _ h.2.2⟩
 | k + 1,nm,o :: r,sl,H,h => by unfold aopsO at h ⊢; exact ⟨h.1,h.2.1,aopsO_mono hq k _ r _ _ h.2.2⟩
theorem specOp_mono {T : zab} {sl : List AV} {op : Op} {K K' : AV → Prop} (hk : ∀ x,K x → K' x) (h : specOp T sl op K) : specOp T sl op K' := by
 unfold specOp at h ⊢
 repeat' split at h
 all_goals first
   | exact h.elim
   | simp_all
theorem aopsT_mono {S : zak} {T : zab} {ops : List Oper} {Q Q' : List AV → Heap → Prop} (hq : ∀ sl H,Q sl H → Q' sl H) : ∀ (k : List Bool) (nm : Nat) (l : List Oper) (sl : List AV) (H : Heap),aopsT S T ops k nm l sl H Q → aopsT S T ops k nm l sl H Q'
 | k,nm,[],sl,H,h => by unfold aopsT at h ⊢; exact hq _ _ h
 | [],nm,o :: r,sl,H,h => by unfold aopsT at h ⊢; exact zdd hq _ _ _ _ h
 | true :: k,nm,o :: r,sl,H,h => by unfold aopsT at h ⊢; exact ⟨h.1,specOp_mono (fun x hx => aopsT_mono hq k _ r _ _ hx) h.2⟩
 | false :: k,nm,o :: r,sl,H,h => by unfold aopsT at h ⊢; exact ⟨h.1,h.2.1,aopsT_mono hq k _ r _ _ h.2.2⟩
theorem frzK_mono {l : List Nat} {sl : List AV} {H : Heap} {K K' : List AV → Heap → Prop} (hk : ∀ sl H,K sl H → K' sl H) (h : frzK l sl H K) : frzK l sl H K' := ⟨h.1,hk _ _ h.2⟩
theorem awpO_mono {S SO : zak} {T : zab} {pl : XPlan} : ∀ (c : Code) (Q Q' : Exit → ASt → Prop) (σ : ASt),(∀ e σ,Q e σ → Q' e σ) → awpO S SO T pl c Q σ → awpO S SO T pl c Q' σ := by
 intro c
 induction c with
 | skip => intro Q Q' σ hq h; exact hq _ _ h
 | label l => intro Q Q' σ hq h; exact hq _ _ h
 | region id ops draw =>
   intro Q Q' σ hq h
   simp only [awpO] at h ⊢
   split at h
   · exact zdd (fun _ _ h => hq _ _ h) _ _ _ _ h
   · exact aopsF_mono (fun _ _ h => hq _ _ h) _ _ _ _ _ h
   · exact frzK_mono (fun _ _ h => zdd (fun _ _ h => hq _ _ h) _ _ _ _ h) h
   · exact frzK_mono (fun _ _ h => aopsO_mono (fun _ _ h => hq _ _ h) _ _ _ _ _ h) h
   · exact aopsT_mono (fun _ _ h => hq _ _ h) _ _ _ _ _ h
 | seq a b iha ihb =>
   intro Q Q' σ hq h
   refine iha _ _ σ ?_ h
   intro e σ h
   cases e with
   | normal => exact ihb _ _ σ hq h
   | _ => exact hq _ _ h
 | cond c a b iha ihb =>
   intro Q Q' σ hq h
   simp only [awpO] at h ⊢
   split at h
   · exact ⟨fun e => iha _ _ σ hq (h.1 e),fun e => ihb _ _ σ hq (h.2 e)⟩
   · exact h.elim
 | block id c ih =>
   intro Q Q' σ hq h
   refine ih _ _ σ ?_ h
   intro e σ h
   cases e with
   | exit id' =>
     simp only [zfd] at h ⊢
     split at h
     · rename_i he; rw [if_pos he]; exact hq _ _ h
     · rename_i he; rw [if_neg he]; exact hq _ _ h
   | _ => exact hq _ _ h
 | loop c ih =>
   intro Q Q' σ hq h
   obtain ⟨I,hst,hr⟩ := h
   refine ⟨I,hst,fun n σ' hI => ih _ _ σ' ?_ (hr n σ' hI)⟩
   intro e σ h
   cases e with
   | normal => exact h
   | _ =>
     obtain ⟨σ2,hw,h⟩ := h
     exact ⟨σ2,hw,hq _ _ h⟩
 | exit id => intro Q Q' σ hq h; exact hq _ _ h
 | ret => intro Q Q' σ hq h; exact hq _ _ h
 | _ => intro Q Q' σ hq h; exact h.elim
def unK (A : ASt → Prop) (Q : Exit → ASt → Prop) (e : Exit) (σ : ASt) : Prop := match e with
 | .normal => A σ
 | e => Q e σ
def unr (f : (Exit → ASt → Prop) → ASt → Prop) (Q : Exit → ASt → Prop) : Nat → ASt → Prop
 | 0,_ => False
 | n + 1,σ => f (unK (unr f Q n) Q) σ
theorem aloop_unr {f : (Exit → ASt → Prop) → ASt → Prop} {Q : Exit → ASt → Prop} (mono : ∀ (Q Q' : Exit → ASt → Prop) (σ : ASt),(∀ e σ,Q e σ → Q' e σ) → f Q σ → f Q' σ) (n : Nat) (σ : ASt) (h : unr f Q n σ) : ALoop f Q σ := by
 refine ⟨fun k τ => unr f Q k τ,⟨n,σ,Weak.refl _,h⟩,?_⟩
 intro k τ hI
 cases k with
 | zero => exact hI.elim
 | succ k =>
   refine mono _ _ τ ?_ hI
   intro e σ1 h1
   cases e with
   | normal => exact ⟨k,σ1,Nat.lt_succ_self k,Weak.refl _,h1⟩
   | _ => exact ⟨σ1,Weak.refl _,h1⟩
theorem awp_unr {S : zak} {T : zab} {c : Code} {Q : Exit → ASt → Prop} {σ : ASt} (n : Nat) (h : unr (awp S T c) Q n σ) : awp S T (.loop c) Q σ :=
 awp_loopW (aloop_unr (fun Q Q' σ hq h => rawp_mono _ Q Q' σ hq h) n σ h)
theorem awpO_unr {S SO : zak} {T : zab} {pl : XPlan} {c : Code} {Q : Exit → ASt → Prop} {σ : ASt} (n : Nat) (h : unr (awpO S SO T pl c) Q n σ) : awpO S SO T pl (.loop c) Q σ :=
 awpO_loopW (aloop_unr (fun Q Q' σ hq h => awpO_mono _ Q Q' σ hq h) n σ h)
theorem unr_go {S : zak} {T : zab} {c : Code} {Q : Exit → ASt → Prop} {σ : ASt} {n : Nat} : unr (awp S T c) Q (n + 1) σ = awp S T c (unK (unr (awp S T c) Q n) Q) σ := rfl
theorem unrO_go {S SO : zak} {T : zab} {pl : XPlan} {c : Code} {Q : Exit → ASt → Prop} {σ : ASt} {n : Nat} : unr (awpO S SO T pl c) Q (n + 1) σ = awpO S SO T pl c (unK (unr (awpO S SO T pl c) Q n) Q) σ := rfl
theorem zec {A : ASt → Prop} {Q : Exit → ASt → Prop} {σ : ASt} : unK A Q .normal σ = A σ := rfl
theorem unK_exit {A : ASt → Prop} {Q : Exit → ASt → Prop} {σ : ASt} {id : Nat} : unK A Q (.exit id) σ = Q (.exit id) σ := rfl
theorem unK_ret {A : ASt → Prop} {Q : Exit → ASt → Prop} {σ : ASt} : unK A Q .ret σ = Q .ret σ := rfl
end Ax
end Go.Proofs.Ytjiognhpcijndaa
namespace Go.Proofs.Ytjiognhpcijndaa
open Ax
def len64S : zal
 | [.w (.int .u64 n)],[] => ⟨n = 1,.w (.int .i64 1),[]⟩
 | _,_ => zba
def lenS : zal
 | [.w (.int .u64 n)],[] => ⟨n = 1,.w (.int .i64 1),[]⟩
 | _,_ => zba
def ins1S : zal
 | [.sg 1 [.str k] f,.w (.int .i64 a),.w (.int .i64 b)],[] => ⟨a = 0 ∧ b = 1,.tup [],[]⟩
 | _,_ => zba
def pdq1S : zal
 | [.sg 1 [.str k] f,.w (.int .i64 a),.w (.int .i64 b),.w (.int .i64 c)],[] => ⟨a = 0 ∧ b = 1,.tup [],[]⟩
 | _,_ => zba
def sort1S : zal
 | [.sg 1 [.str k] f],[] => ⟨True,.tup [],[]⟩
 | _,_ => zba
section
set_option maxRecDepth 100000
def ins1Pl : XPlan := fun id => match id with
 | 4 => .prs []
 | 6 => .prs []
 | _ => .std
set_option maxHeartbeats 2000000 in
theorem ins1_sound : zar Try.prog 76 ins1S := by
 refine fn_soundOK (S := noS) (SO := noO) (T := ty) zat ty_ok zca noO_ok Try.func76 (c := Try.f76.body.getD .skip) (by kernel_rfl) (fun xs pins hp _ => ?_)
 unfold ins1S at hp ⊢
 split at hp
 · rename_i k f a b _
   obtain ⟨rfl,rfl⟩ := hp
   refine ⟨by simp,ins1Pl,by kernel_rfl,?_⟩
   have c1 : ((0 : Int) + 1 + 9223372036854775808) % 18446744073709551616 - 9223372036854775808 = 1 := by decide
   have d1 : decide ((1 : Int) < 1) = false := rfl
   unfold Try.f76
   simp only [go_sem,zai,Nat.reduceAdd,Nat.reduceSub,Nat.reduceMul,Int.reduceToNat,reduceCtorEq,↓reduceIte,Int.reducePow,Nat.reducePow,Int.reduceMod,Nat.reduceLeDiff,Int.reduceLE,Int.reduceNe,Int.reduceEq,Nat.reduceEqDiff,Nat.reduceLT,Nat.reduceBEq,List.map_cons,List.map_nil,List.toList_toArray,Array.toList_append,Option.toArray_some,Option.toArray_none,Bool.and_self,ty,noS,ins1Pl,c1]
   refine awpO_unr 1 ?_
   simp only [go_sem,zai,Nat.reduceAdd,Nat.reduceSub,Nat.reduceMul,Int.reduceToNat,reduceCtorEq,↓reduceIte,Int.reducePow,Nat.reducePow,Int.reduceMod,Nat.reduceLeDiff,Int.reduceLE,Int.reduceNe,Int.reduceEq,Nat.reduceEqDiff,Nat.reduceLT,Nat.reduceBEq,List.map_cons,List.map_nil,List.toList_toArray,Array.toList_append,Option.toArray_some,Option.toArray_none,Bool.and_self,ty,noS,ins1Pl,c1,d1,unrO_go,zec,unK_exit,unK_ret]
   try (refine ⟨_,Weak.refl _,?_⟩)
   try simp only [go_sem,zai,Nat.reduceAdd,Nat.reduceSub,Nat.reduceMul,Int.reduceToNat,reduceCtorEq,↓reduceIte,Int.reducePow,Nat.reducePow,Int.reduceMod,Nat.reduceLeDiff,Int.reduceLE,Int.reduceNe,Int.reduceEq,Nat.reduceEqDiff,Nat.reduceLT,Nat.reduceBEq,List.map_cons,List.map_nil,List.toList_toArray,Array.toList_append,Option.toArray_some,Option.toArray_none,Bool.and_self,ty,noS]
 · exact hp.elim
def pdq1Pl : XPlan := fun id => match id with
 | 17 => .prs []
 | _ => .std
def Spdq1 (f : FuncId) : Option zal :=
 match f with
 | 76 => some ins1S
 | _ => none
theorem Spdq1_ok : Fns Try.prog Spdq1 := by
 intro f s h
 unfold Spdq1 at h
 split at h
 · injection h with h; subst h; exact ⟨⟨_,Try.func76,by kernel_rfl,by kernel_rfl⟩,ins1_sound⟩
 · cases h
set_option maxHeartbeats 2000000 in
theorem pdq1_sound : zar Try.prog 62 pdq1S := by
 refine fn_soundOK (S := Spdq1) (SO := noO) (T := ty) zat ty_ok Spdq1_ok noO_ok Try.func62 (c := Try.f62.body.getD .skip) (by kernel_rfl) (fun xs pins hp _ => ?_)
 unfold pdq1S at hp ⊢
 split at hp
 · rename_i k f a b c _
   obtain ⟨rfl,rfl⟩ := hp
   refine ⟨by simp,pdq1Pl,by kernel_rfl,?_⟩
   have c1 : ((1 : Int) - 0 + 9223372036854775808) % 18446744073709551616 - 9223372036854775808 = 1 := by decide
   have d1 : decide ((1 : Int) ≤ 12) = true := rfl
   unfold Try.f62
   simp only [go_sem,zai,Nat.reduceAdd,Nat.reduceSub,Nat.reduceMul,Int.reduceToNat,reduceCtorEq,↓reduceIte,Int.reducePow,Nat.reducePow,Int.reduceMod,Nat.reduceLeDiff,Int.reduceLE,Int.reduceNe,Int.reduceEq,Nat.reduceEqDiff,Nat.reduceLT,Nat.reduceBEq,List.map_cons,List.map_nil,List.toList_toArray,Array.toList_append,Option.toArray_some,Option.toArray_none,Bool.and_self,ty,Spdq1,pdq1Pl,c1]
   refine awpO_unr 1 ?_
   simp only [go_sem,zai,Nat.reduceAdd,Nat.reduceSub,Nat.reduceMul,Int.reduceToNat,reduceCtorEq,↓reduceIte,Int.reducePow,Nat.reducePow,Int.reduceMod,Nat.reduceLeDiff,Int.reduceLE,Int.reduceNe,Int.reduceEq,Nat.reduceEqDiff,Nat.reduceLT,Nat.reduceBEq,List.map_cons,List.map_nil,List.toList_toArray,Array.toList_append,Option.toArray_some,Option.toArray_none,Bool.and_self,ty,Spdq1,ins1S,pdq1Pl,c1,d1,unrO_go,zec,unK_exit,unK_ret]
   try (refine ⟨_,Weak.refl _,?_⟩)
   try simp only [go_sem,zai,Nat.reduceAdd,Nat.reduceSub,Nat.reduceMul,Int.reduceToNat,reduceCtorEq,↓reduceIte,Int.reducePow,Nat.reducePow,Int.reduceMod,Nat.reduceLeDiff,Int.reduceLE,Int.reduceNe,Int.reduceEq,Nat.reduceEqDiff,Nat.reduceLT,Nat.reduceBEq,List.map_cons,List.map_nil,List.toList_toArray,Array.toList_append,Option.toArray_some,Option.toArray_none,Bool.and_self,ty,noS]
 · exact hp.elim
set_option maxHeartbeats 2000000 in
theorem len64_sound : zar Try.prog 86 len64S := by
 refine zah (S := noS) (T := ty) zat ty_ok zca Try.func86 (c := Try.f86.body.getD .skip) (by kernel_rfl) (by kernel_rfl) (fun xs pins hp _ => ?_)
 unfold len64S at hp ⊢
 split at hp
 · rename_i n _
   obtain rfl := hp
   refine ⟨by simp,?_⟩
   unfold Try.f86
   have d1 : decide ((4294967296 : Int) ≤ 1) = false := rfl
   have d2 : decide ((65536 : Int) ≤ 1) = false := rfl
   have d3 : decide ((256 : Int) ≤ 1) = false := rfl
   have w1 : ((1 : Int) % 256) = 1 := rfl
   simp only [go_sem,zaa,Nat.reduceAdd,Nat.reduceSub,Nat.reduceMul,Int.reduceToNat,reduceCtorEq,↓reduceIte,Int.reducePow,Nat.reducePow,Int.reduceMod,Nat.reduceLeDiff,Int.reduceLE,Int.reduceNe,Int.reduceEq,Nat.reduceEqDiff,Nat.reduceLT,Nat.reduceBEq,ty,noS,d1,d2,d3,w1]
   decide
 · exact hp.elim
def Slen1 (f : FuncId) : Option zal :=
 match f with
 | 86 => some len64S
 | _ => none
theorem Slen1_ok : Fns Try.prog Slen1 := by
 intro f s h
 unfold Slen1 at h
 split at h
 · injection h with h; subst h; exact ⟨⟨_,Try.func86,by kernel_rfl,by kernel_rfl⟩,len64_sound⟩
 · cases h
theorem len_sound1 : zar Try.prog 63 lenS := by
 refine zah (S := Slen1) (T := ty) zat ty_ok Slen1_ok Try.func63 (c := Try.f63.body.getD .skip) (by kernel_rfl) (by kernel_rfl) (fun xs pins hp _ => ?_)
 unfold lenS at hp ⊢
 split at hp
 · rename_i n _
   obtain rfl := hp
   refine ⟨by simp,?_⟩
   unfold Try.f63
   simp only [go_sem,zaa,Nat.reduceAdd,Nat.reduceSub,Nat.reduceMul,Int.reduceToNat,reduceCtorEq,↓reduceIte,Int.reducePow,Nat.reducePow,Int.reduceMod,Nat.reduceLeDiff,Int.reduceLE,Int.reduceNe,Int.reduceEq,Nat.reduceEqDiff,Nat.reduceLT,Nat.reduceBEq,ty,Slen1,len64S]
   try decide
 · exact hp.elim
def Ssort1 (f : FuncId) : Option zal :=
 match f with
 | 63 => some lenS
 | 62 => some pdq1S
 | _ => none
theorem Ssort1_ok : Fns Try.prog Ssort1 := by
 intro f s h
 unfold Ssort1 at h
 split at h
 · injection h with h; subst h; exact ⟨⟨_,Try.func63,by kernel_rfl,by kernel_rfl⟩,len_sound1⟩
 · injection h with h; subst h; exact ⟨⟨_,Try.func62,by kernel_rfl,by kernel_rfl⟩,pdq1_sound⟩
 · cases h
theorem sort1_sound : zar Try.prog 42 sort1S := by
 refine zah (S := Ssort1) (T := ty) zat ty_ok Ssort1_ok Try.func42 (c := Try.f42.body.getD .skip) (by kernel_rfl) (by kernel_rfl) (fun xs pins hp _ => ?_)
 unfold sort1S at hp ⊢
 split at hp
 · rename_i k f _
   refine ⟨by simp,?_⟩
   have w1 : ((1 : Int) % 18446744073709551616) = 1 := rfl
   unfold Try.f42
   simp only [go_sem,zaa,Nat.reduceAdd,Nat.reduceSub,Nat.reduceMul,Int.reduceToNat,reduceCtorEq,↓reduceIte,Int.reducePow,Nat.reducePow,Int.reduceMod,Nat.reduceLeDiff,Int.reduceLE,Int.reduceNe,Int.reduceEq,Nat.reduceEqDiff,Nat.reduceLT,Nat.reduceBEq,ty,Ssort1,lenS,pdq1S,w1]
   try decide
 · exact hp.elim
def X1J : Bat := ⟨5,2,0,0,0,[⟨0,3,true,[107],false,[]⟩]⟩
def X2J : Bat := ⟨9,1,0,0,0,[]⟩
def kL1 : List Bat := [X1J]
def kL2 : List Bat := [X1J,X2J]
def skey1S : zal
 | [.agg [.w (.int .i64 B),.sg 6 xs f]],[] => ⟨xs = bfr kL2,.ms 0 1 0 1,[.g 1 [.str [107]]]⟩
 | _,_ => zba
def Skey1 (f : FuncId) : Option zal :=
 match f with
 | 42 => some sort1S
 | _ => none
theorem Skey1_ok : Fns Try.prog Skey1 := by
 intro f s h
 unfold Skey1 at h
 split at h
 · injection h with h; subst h; exact ⟨⟨_,Try.func42,by kernel_rfl,by kernel_rfl⟩,sort1_sound⟩
 · cases h
set_option maxHeartbeats 8000000 in
theorem skey1_sound : zar Try.prog 17 skey1S := by
 refine zah (S := Skey1) (T := ty) zat ty_ok Skey1_ok Try.func17 (c := Try.f17.body.getD .skip) (by kernel_rfl) (by kernel_rfl) (fun xs pins hp _ => ?_)
 unfold skey1S at hp ⊢
 split at hp
 · rename_i B xs f _
   obtain rfl : xs = bfr kL2 := hp
   refine ⟨by simp,?_⟩
   have hk : bfr kL2 = [.agg [.w (.int .i64 5),.w (.int .i64 2),.w (.int .i64 0),.w (.int .i64 0),.w (.int .i64 0),.sg 6 [.agg [.w (.int .i64 0),.w (.int .i64 3),.w (.bool true),.str [107],.w (.bool false),.str []]] false],.agg [.w (.int .i64 9),.w (.int .i64 1),.w (.int .i64 0),.w (.int .i64 0),.w (.int .i64 0),.sg 6 [] false]] := rfl
   rw [hk]
   clear hk
   unfold Try.f17
   have q1 : decide ((0 : Int) < ((2 : Nat) : Int)) = true := rfl
   have q2 : decide ((1 : Int) < ((2 : Nat) : Int)) = true := rfl
   have q3 : decide ((2 : Int) < ((2 : Nat) : Int)) = false := rfl
   have q4 : decide ((0 : Int) < ((1 : Nat) : Int)) = true := rfl
   have q5 : decide ((1 : Int) < ((1 : Nat) : Int)) = false := rfl
   have q6 : decide ((0 : Int) < ((0 : Nat) : Int)) = false := rfl
   have t0 : (0 : Int).toNat = 0 := rfl
   have t1 : (1 : Int).toNat = 1 := rfl
   have dk : decide (([107] : List UInt8) = [107]) = true := rfl
   simp only [go_sem,zaa,Nat.reduceAdd,Nat.reduceSub,Nat.reduceMul,Int.reduceToNat,reduceCtorEq,↓reduceIte,Int.reducePow,Nat.reducePow,Int.reduceMod,Nat.reduceLeDiff,Int.reduceLE,Int.reduceNe,Int.reduceEq,Nat.reduceEqDiff,Nat.reduceLT,Nat.reduceBEq,ty,Skey1]
   refine awp_unr 3 ?_
   simp only [go_sem,zaa,Nat.reduceAdd,Nat.reduceSub,Nat.reduceMul,Int.reduceToNat,reduceCtorEq,↓reduceIte,Int.reducePow,Nat.reducePow,Int.reduceMod,Nat.reduceLeDiff,Int.reduceLE,Int.reduceNe,Int.reduceEq,Nat.reduceEqDiff,Nat.reduceLT,Nat.reduceBEq,ty,Skey1,unr_go,zec,unK_exit,unK_ret,q1,q2,q3,q4,q5,q6,t0,t1,slot,Int.reduceAdd,Int.reduceSub]
   repeat (refine And.intro (by first | decide | omega) ?_)
   refine awp_unr 2 ?_
   simp only [go_sem,zaa,Nat.reduceAdd,Nat.reduceSub,Nat.reduceMul,Int.reduceToNat,reduceCtorEq,↓reduceIte,Int.reducePow,Nat.reducePow,Int.reduceMod,Nat.reduceLeDiff,Int.reduceLE,Int.reduceNe,Int.reduceEq,Nat.reduceEqDiff,Nat.reduceLT,Nat.reduceBEq,ty,Skey1,unr_go,zec,unK_exit,unK_ret,q1,q2,q3,q4,q5,q6,t0,t1,dk,slot,Int.reduceAdd,Int.reduceSub,eqV,asv,List.nil_append]
   repeat (refine And.intro (by first | decide | omega) ?_)
   refine awp_unr 1 ?_
   simp only [go_sem,zaa,Nat.reduceAdd,Nat.reduceSub,Nat.reduceMul,Int.reduceToNat,reduceCtorEq,↓reduceIte,Int.reducePow,Nat.reducePow,Int.reduceMod,Nat.reduceLeDiff,Int.reduceLE,Int.reduceNe,Int.reduceEq,Nat.reduceEqDiff,Nat.reduceLT,Nat.reduceBEq,ty,Skey1,unr_go,zec,unK_exit,unK_ret,q1,q2,q3,q4,q5,q6,t0,t1,dk,slot,Int.reduceAdd,Int.reduceSub,eqV,asv,List.nil_append]
   refine awp_unr 2 ?_
   simp only [go_sem,zaa,Nat.reduceAdd,Nat.reduceSub,Nat.reduceMul,Int.reduceToNat,reduceCtorEq,↓reduceIte,Int.reducePow,Nat.reducePow,Int.reduceMod,Nat.reduceLeDiff,Int.reduceLE,Int.reduceNe,Int.reduceEq,Nat.reduceEqDiff,Nat.reduceLT,Nat.reduceBEq,ty,Skey1,sort1S,unr_go,zec,unK_exit,unK_ret,q1,q2,q3,q4,q5,q6,t0,t1,slot,Int.reduceAdd,Int.reduceSub]
   exact ⟨by unfold top; decide,fun y hy => by rw [hy]; rfl⟩
 · exact hp.elim
end
end Go.Proofs.Ytjiognhpcijndaa
namespace Go.Proofs.Ytjiognhpcijndaa
open Ax
theorem puJ (n : Nat) (h : n < 128) : putU n = [UInt8.ofNat n] := by rw [putU]; rw [if_pos h]
def R1J : Rec := ⟨0,3,true,[107],false,[]⟩
theorem xJ1 : rk R1J = 0 := by decide
theorem xJ2 : rb R1J = [1,0,6,2,107,0] := by
 rw [rb_eq xJ1]
 show UInt8.ofNat (flagI true false).toNat :: (putU (zz 0).toNat ++ (putU (zz 3).toNat ++ (textL [107] ++ textL []))) = _
 unfold textL
 rw [puJ (zz 0).toNat (by decide),puJ (zz 3).toNat (by decide),puJ (2 * [107].length) (by decide),puJ (2 * ([] : List UInt8).length) (by decide)]
 rfl
theorem xJ3 : batL 5 2 0 0 0 [R1J] = [10,4,0,0,0,2,1,0,6,2,107,0] := by
 unfold batL zcl nums
 simp only [List.flatMap_cons,List.flatMap_nil,xJ2,List.append_nil]
 rw [puJ (zz 5).toNat (by decide),puJ (zz 2).toNat (by decide),puJ (zz 0).toNat (by decide),puJ (zz (([R1J].length : Nat) : Int)).toNat (by decide)]
 rfl
theorem xJ4 : bE X1J = 0 := by
 unfold bE batE X1J
 simp only
 rw [show (⟨0,3,true,[107],false,[]⟩ : Rec) = R1J from rfl,xJ3,layE_cons,xJ1]
 decide
theorem xJ5 : bB X1J = [10,4,0,0,0,2,1,0,6,2,107,0] := by
 rw [show bB X1J = batL 5 2 0 0 0 [R1J] from if_pos xJ4,xJ3]
theorem yJ3 : batL 9 1 0 0 0 [] = [18,2,0,0,0,0] := by
 unfold batL zcl nums
 simp only [List.flatMap_cons,List.flatMap_nil,List.append_nil]
 rw [puJ (zz 9).toNat (by decide),puJ (zz 1).toNat (by decide),puJ (zz 0).toNat (by decide),puJ (zz ((([] : List Rec).length : Nat) : Int)).toNat (by decide)]
 rfl
theorem yJ4 : bE X2J = 0 := by
 unfold bE batE X2J
 simp only
 rw [yJ3]
 decide
theorem yJ5 : bB X2J = [18,2,0,0,0,0] := by
 rw [show bB X2J = batL 9 1 0 0 0 [] from if_pos yJ4,yJ3]
theorem zJ4 : bE ⟨0,0,0,0,0,[]⟩ ≠ 0 := by decide
theorem fJ1 : zbq 0 [] X1J = 0 := by unfold zbq; rw [if_pos xJ4]; decide
theorem fJ2 : zbq 0 kL1 X2J = 0 := by unfold zbq; rw [if_pos yJ4]; decide
theorem fJ3 : zbq 0 kL2 X2J = 16 := by unfold zbq; rw [if_pos yJ4]; decide
theorem gJ1 : zbz 0 [] X1J = .agg [.w (.int .i64 0),.sg 6 (bfr kL1) false] := by unfold zbz; rw [if_pos fJ1]; rfl
theorem gJ2 : zbz 0 kL1 X2J = .agg [.w (.int .i64 0),.sg 6 (bfr kL2) false] := by unfold zbz; rw [if_pos fJ2]; rfl
theorem gJ3 : zbz 0 kL2 X2J = .agg [.w (.int .i64 0),.sg 6 [] true] := by unfold zbz; rw [fJ3]; rfl
theorem hJ1 : zaq 7 1 kL2 = [X2J] := by decide
theorem hJ2 : btG 3 kL2 = (5,true) := by decide
theorem hJ3 : nwG kL2 = 3 := by decide
theorem hJ4 : ndB X1J = 1 := by unfold ndB; rw [if_pos xJ4,xJ5]; decide
theorem hJ5 : ndB X2J = 1 := by unfold ndB; rw [if_pos yJ4,yJ5]; decide
theorem hJ6 : ndI kL2 0 = 2 := by
 show (0 + ndB X1J) + ndB X2J = 2
 rw [hJ4,hJ5]; rfl
theorem hJ7 : ndB ⟨0,0,0,0,0,[]⟩ = 0 := if_neg zJ4
theorem hJ8 : chkG 0 kL2 = 0 := by
 show (if (0 : Int) < 0 ∨ 4611686018427387903 < (0 : Int) then (11 : Int) else if bE X1J = 0 then (if X1J.b < 0 then 16 else if bE X2J = 0 then (if X2J.b < nxB X1J then 16 else 0) else bE X2J) else bE X1J) = 0
 rw [xJ4,yJ4]; decide
theorem hJ9 : bldI 2 (spL kL2) = ⟨2,2,[⟨5,3,0⟩]⟩ := by rfl
theorem hJa : zce 0 kL2 = 10 := by decide
theorem isBs_bfr {l : List Bat} (h : ∀ x ∈ l,x.rs.length ≤ 1000000) : isBl (bfr l) := ⟨l.map offB,rfl,fun p hp => by
 obtain ⟨x,hx,rfl⟩ := List.mem_map.1 hp
 exact h x hx⟩
theorem iJ1 : isBl (bfr kL1) := isBs_bfr (by decide)
theorem iJ2 : isBl (bfr kL2) := isBs_bfr (by decide)
theorem iJ0 : isBl [] := ⟨[],rfl,by intro p hp; simp at hp⟩
end Go.Proofs.Ytjiognhpcijndaa
namespace Go.Proofs.Ytjiognhpcijndaa
open Ax
def Saw14 (f : FuncId) : Option zal :=
 match f with
 | 29 => some sputS
 | 13 => some sfetS
 | 15 => some sbtS
 | 17 => some skey1S
 | 31 => some zcr
 | 19 => some snewS
 | 21 => some sbkS
 | 23 => some sndS
 | 25 => some sparS
 | 37 => some ssameS
 | 28 => some schkS
 | _ => none
theorem Saw14_ok : Fns Try.prog Saw14 := by
 intro f s h
 unfold Saw14 at h
 split at h
 · injection h with h; subst h; exact ⟨⟨_,Try.func29,by kernel_rfl,by kernel_rfl⟩,sput_sound⟩
 · injection h with h; subst h; exact ⟨⟨_,Try.func13,by kernel_rfl,by kernel_rfl⟩,zfn⟩
 · injection h with h; subst h; exact ⟨⟨_,Try.func15,by kernel_rfl,by kernel_rfl⟩,sbt_sound⟩
 · injection h with h; subst h; exact ⟨⟨_,Try.func17,by kernel_rfl,by kernel_rfl⟩,skey1_sound⟩
 · injection h with h; subst h; exact ⟨⟨_,Try.func31,by kernel_rfl,by kernel_rfl⟩,snext_sound⟩
 · injection h with h; subst h; exact ⟨⟨_,Try.func19,by kernel_rfl,by kernel_rfl⟩,snew_sound⟩
 · injection h with h; subst h; exact ⟨⟨_,Try.func21,by kernel_rfl,by kernel_rfl⟩,sbk_sound⟩
 · injection h with h; subst h; exact ⟨⟨_,Try.func23,by kernel_rfl,by kernel_rfl⟩,snd_sound⟩
 · injection h with h; subst h; exact ⟨⟨_,Try.func25,by kernel_rfl,by kernel_rfl⟩,spar_sound⟩
 · injection h with h; subst h; exact ⟨⟨_,Try.func37,by kernel_rfl,by kernel_rfl⟩,ssame_sound⟩
 · injection h with h; subst h; exact ⟨⟨_,Try.func28,by kernel_rfl,by kernel_rfl⟩,zfo⟩
 · cases h
section
set_option maxRecDepth 100000
set_option maxHeartbeats 8000000 in
theorem zda : zar Try.prog 11 yesS := by
 refine zah (S := Saw14) (T := ty) zat ty_ok Saw14_ok Try.func11 (c := Try.f11.body.getD .skip) (by kernel_rfl) (by kernel_rfl) (fun xs pins hp _ => ?_)
 unfold yesS at hp ⊢
 split at hp
 · refine ⟨by simp,?_⟩
   have p1 : ∃ rs : List Rec,[AV.agg [.w (.int .i64 0),.w (.int .i64 3),.w (.bool true),.str [107],.w (.bool false),.str []]] = rs.map rv := ⟨[R1J],rfl⟩
   have p2 : ∃ rs : List Rec,([] : List AV) = rs.map rv := ⟨[],rfl⟩
   have u1 : rrec (AV.agg [.w (.int .i64 0),.w (.int .i64 3),.w (.bool true),.str [107],.w (.bool false),.str []]) = R1J := rfl
   have f1 : zbq 0 [] ⟨5,2,0,0,0,[R1J]⟩ = 0 := fJ1
   have f2 : zbq 0 kL1 ⟨9,1,0,0,0,[]⟩ = 0 := fJ2
   have f3 : zbq 0 kL2 ⟨9,1,0,0,0,[]⟩ = 16 := fJ3
   have g1 : zbz 0 [] ⟨5,2,0,0,0,[R1J]⟩ = .agg [.w (.int .i64 0),.sg 6 (bfr kL1) false] := gJ1
   have g2 : zbz 0 kL1 ⟨9,1,0,0,0,[]⟩ = .agg [.w (.int .i64 0),.sg 6 (bfr kL2) false] := gJ2
   have g3 : zbz 0 kL2 ⟨9,1,0,0,0,[]⟩ = .agg [.w (.int .i64 0),.sg 6 [] true] := gJ3
   have l1 : (bfr kL1).length = 1 := rfl
   have l2 : (bfr kL2).length = 2 := rfl
   have l3 : (bfr [X2J]).length = 1 := rfl
   have s1 : slot (bfr [X2J]) 0 = .agg [.w (.int .i64 9),.w (.int .i64 1),.w (.int .i64 0),.w (.int .i64 0),.w (.int .i64 0),.sg 6 [] false] := rfl
   have m1 := ubat_bfr kL1
   have m2 := ubat_bfr kL2
   have b1 := isBl_isBs iJ1
   have b2 := isBl_isBs iJ2
   have c1 : ∀ h,coe ty 22 (.sg 6 (bfr kL1) h) = .sg 6 (bfr kL1) h := fun h => rfl
   have c2 : ∀ h,coe ty 22 (.sg 6 (bfr kL2) h) = .sg 6 (bfr kL2) h := fun h => rfl
   have e1 : decide (kL2 = kL2) = true := decide_eq_true rfl
   have e2 : decide (kL1 = kL2) = false := by decide
   have btA : (btG 3 kL2).1 = 5 := by rw [hJ2]
   have btB : (btG 3 kL2).2 = true := by rw [hJ2]
   have iv1 : iav (⟨2,2,[⟨5,3,0⟩]⟩ : Idx) (empE [⟨5,3,0⟩]) = .agg [.w (.int .i64 2),.w (.int .i64 2),.sg 3 [.agg [.w (.int .i64 5),.w (.int .i64 3),.w (.int .i64 0)]] false] := rfl
   have z1 : decide (((1 : Nat) : Int) = 1) = true := rfl
   have dd : ∀ n : Int,decide (n = n) = true := fun n => decide_eq_true rfl
   have ds : ∀ n : List UInt8,decide (n = n) = true := fun n => decide_eq_true rfl
   unfold Try.f11
   simp (config := { maxSteps := 3000000 }) only [go_sem,zaa,Nat.reduceAdd,Nat.reduceSub,Nat.reduceMul,Int.reduceToNat,reduceCtorEq,↓reduceIte,Int.reducePow,Nat.reducePow,Int.reduceMod,Nat.reduceLeDiff,Int.reduceLE,Int.reduceNe,Int.reduceEq,Nat.reduceEqDiff,Nat.reduceLT,Nat.reduceBEq,ty,Saw14,sputS,sfetS,sbtS,skey1S,zcr,snewS,sbkS,sndS,sparS,ssameS,schkS,p1,p2,u1,f1,f2,f3,g1,g2,g3,l1,l2,l3,s1,m1,m2,iJ0,iJ1,iJ2,b1,b2,c1,c2,e1,e2,btA,btB,hJ1,hJ3,hJ6,hJ7,hJ8,hJ9,hJa,iv1,dd,ds,z1,fillS,fillG,List.map_nil,List.map_cons,ubat_bfr]
   exact fun y hy => by rw [hy]; rfl
 · exact hp.elim
end
end Go.Proofs.Ytjiognhpcijndaa
namespace Go.Proofs.Ytjiognhpcijndaa
open Ax
def zbs (l : List Bat) : Prop := (l.length : Int) ≤ 20 ∧ ∀ b ∈ l,lightB b
instance lightGdec (l : List Bat) : Decidable (zbs l) := by unfold zbs; infer_instance
def zbc : zal
 | [.agg [.w (.int .i64 B),.sg 6 xs f]],[] => ⟨xs.length ≤ 9223372036854775807 ∧ isBs xs,.w (.bool (decide (zbs (xs.map ubat)))),[]⟩
 | _,_ => zba
def isB4 (xs : List AV) : Prop := ∃ es : List (Bat × Bool),xs = es.map bvp ∧ ∀ p ∈ es,p.1.rs.length ≤ 40
def Slt14 (f : FuncId) : Option zal :=
 match f with
 | 34 => some lallS
 | _ => none
theorem Slt14_ok : Fns Try.prog Slt14 := by
 intro f s h
 unfold Slt14 at h
 split at h
 · injection h with h; subst h; exact ⟨⟨_,Try.func34,by kernel_rfl,by kernel_rfl⟩,lall_sound⟩
 · cases h
section
set_option maxRecDepth 100000
set_option maxHeartbeats 1000000 in
theorem zdp : zar Try.prog 9 zbc := by
 refine zah (S := Slt14) (T := ty) zat ty_ok Slt14_ok Try.func9 (c := Try.f9.body.getD .skip) (by kernel_rfl) (by kernel_rfl) (fun xs pins hp _ => ?_)
 unfold zbc at hp ⊢
 split at hp
 · rename_i B xs f _
   obtain ⟨hL,hb⟩ := hp
   have hb0 := hb
   obtain ⟨es,rfl,he⟩ := hb
   refine ⟨by simp,?_⟩
   have hc1 : ∀ h,coe ty 22 (.sg 6 (es.map bvp) h) = .sg 6 (es.map bvp) h := fun h => by cases es <;> rfl
   have hv : decide ((((es.map bvp).length : Nat) : Int) ≤ 20 ∧ ∀ b ∈ (es.map bvp).map ubat,lightB b) = decide (zbs ((es.map bvp).map ubat)) := by
     refine decide_eq_decide.mpr ?_
     unfold zbs
     rw [List.length_map (f := ubat)]
   obtain ⟨K,hK⟩ : ∃ K,decide (zbs ((es.map bvp).map ubat)) = K := ⟨_,rfl⟩
   rw [hK] at hv ⊢
   unfold Try.f9
   simp only [go_sem,zaa,Nat.reduceAdd,Nat.reduceSub,Nat.reduceMul,Int.reduceToNat,reduceCtorEq,↓reduceIte,Int.reducePow,Nat.reducePow,Int.reduceMod,Nat.reduceLeDiff,Int.reduceLE,Int.reduceNe,Int.reduceEq,Nat.reduceEqDiff,Nat.reduceLT,Nat.reduceBEq,ty,Slt14,lallS,hc1,hL,hb0,hv]
 · exact hp.elim
end
end Go.Proofs.Ytjiognhpcijndaa
namespace Go.Proofs.Ytjiognhpcijndaa
open Ax
set_option maxRecDepth 10000
theorem all_rvJ : ∀ (xs : List AV),(∀ x ∈ xs,∃ r : Rec,x = rv r) → ∃ rs : List Rec,xs = rs.map rv
 | [],_ => ⟨[],rfl⟩
 | x :: xs,h => by
   obtain ⟨r,rfl⟩ := h x (by simp)
   obtain ⟨rs,rfl⟩ := all_rvJ xs (fun y hy => h y (by simp [hy]))
   exact ⟨r :: rs,rfl⟩
theorem all_bvpJ : ∀ (xs : List AV),(∀ x ∈ xs,∃ p : Bat × Bool,x = bvp p ∧ p.1.rs.length ≤ 9223372036854775807) → ∃ es : List (Bat × Bool),xs = es.map bvp ∧ ∀ p ∈ es,p.1.rs.length ≤ 9223372036854775807
 | [],_ => ⟨[],rfl,by simp⟩
 | x :: xs,h => by
   obtain ⟨p,rfl,hp⟩ := h x (by simp)
   obtain ⟨es,rfl,he⟩ := all_bvpJ xs (fun y hy => h y (by simp [hy]))
   refine ⟨p :: es,rfl,?_⟩
   intro q hq
   rcases List.mem_cons.1 hq with rfl | hq
   · exact hp
   · exact he q hq
theorem arg_segJ {j : Nat} {x : AV} (h : Arg ty (j + 7) 24 x) : ∃ (B : Int) (xs : List AV) (f : Bool),x = .agg [.w (.int .i64 B),.sg 6 xs f] ∧ xs.length ≤ 9223372036854775807 ∧ isBs xs := by
 obtain ⟨i,ls,hi,hs,rfl⟩ := h
 simp only [ty] at hi
 injection hi with hi
 subst hi
 simp only [Shape,ty,ShapeF,isFlatI] at hs
 obtain ⟨l1,r1,rfl,⟨m1,rfl,w1⟩,l2,r2,rfl,⟨xs,f1,rfl,hx,hxs⟩,rfl⟩ := hs
 have hm : maxLen = 9223372036854775807 := by decide
 obtain ⟨es,rfl,hes⟩ := all_bvpJ xs (fun x hxm => by
   obtain ⟨l,⟨k1,s1,rfl,⟨n1,rfl,v1⟩,k2,s2,rfl,⟨n2,rfl,v2⟩,k3,s3,rfl,⟨n3,rfl,v3⟩,k4,s4,rfl,⟨n4,rfl,v4⟩,k5,s5,rfl,⟨n5,rfl,v5⟩,k6,s6,rfl,⟨ys,f,rfl,hl,hy⟩,rfl⟩,_,rfl⟩ := hxs x hxm
   obtain ⟨rs,rfl⟩ := all_rvJ ys (fun y hym => by
     obtain ⟨l,⟨l1,r1,rfl,⟨m1,rfl,w1⟩,l2,r2,rfl,⟨m2,rfl,w2⟩,l3,r3,rfl,⟨m3,rfl⟩,l4,r4,rfl,⟨m4,rfl,w4⟩,l5,r5,rfl,⟨m5,rfl⟩,l6,r6,rfl,⟨m6,rfl,w6⟩,rfl⟩,_,rfl⟩ := hy y hym
     exact ⟨⟨m1,m2,m3,m4,m5,m6⟩,rfl⟩)
   rw [List.length_map] at hl
   exact ⟨⟨⟨n1,n2,n3,n4,n5,rs⟩,f⟩,rfl,by simp only; omega⟩)
 exact ⟨m1,es.map bvp,f1,rfl,by omega,es,rfl,hes⟩
theorem zen {xs : List AV} (hb : isBs xs) (h : zbs (xs.map ubat)) : xs.length ≤ 20 ∧ isB4 xs ∧ isBl xs := by
 obtain ⟨es,rfl,he⟩ := hb
 unfold zbs at h
 rw [zaz] at h
 have h4 : ∀ p ∈ es,p.1.rs.length ≤ 40 := fun p hp => (h.2 p.1 (List.mem_map.2 ⟨p,hp,rfl⟩)).1
 refine ⟨by have := h.1; simp at this ⊢; omega,⟨es,rfl,h4⟩,es,rfl,fun p hp => by have := h4 p hp; omega⟩
end Go.Proofs.Ytjiognhpcijndaa
