/- What the proofs of this seat stand on; it asks nothing. -/
import Derived.Test.YtlcijldkdpmknaaYa12
set_option linter.unusedSimpArgs false
set_option linter.unusedVariables false
namespace Go.Proofs.Ytlcijldkdpmknaa
open Ax
def llookS : zam
 | [.agg [.w (.int .i64 B),.sg 6 xs f],.w (.int .i64 t),.w (.int .i64 v)],[] => ⟨xs.length ≤ 9223372036854775807 ∧ isBs xs,.w (.bool true),[]⟩
 | _,_ => zay
def zeb (f : FuncId) : Option zam :=
 match f with
 | 4 => some slightS
 | 5 => some rschkS
 | 6 => some yesS
 | 7 => some sbtS
 | 8 => some rsbtS
 | 9 => some skeyS
 | 10 => some rskeyS
 | 11 => some snewS
 | 12 => some rsnewS
 | 13 => some sbkS
 | 14 => some rsbkS
 | 15 => some sndS
 | 16 => some rsndS
 | 17 => some sparS
 | 18 => some rsparS
 | _ => none
theorem Slook14_ok : Fns Try.prog zeb := by
 intro f s h
 unfold zeb at h
 split at h
 · injection h with h; subst h; exact ⟨⟨_,Try.func4,by kernel_rfl,by kernel_rfl⟩,slight_sound⟩
 · injection h with h; subst h; exact ⟨⟨_,Try.func5,by kernel_rfl,by kernel_rfl⟩,rschk_sound⟩
 · injection h with h; subst h; exact ⟨⟨_,Try.func6,by kernel_rfl,by kernel_rfl⟩,awake14_sound⟩
 · injection h with h; subst h; exact ⟨⟨_,Try.func7,by kernel_rfl,by kernel_rfl⟩,sbt_sound⟩
 · injection h with h; subst h; exact ⟨⟨_,Try.func8,by kernel_rfl,by kernel_rfl⟩,rsbt_sound⟩
 · injection h with h; subst h; exact ⟨⟨_,Try.func9,by kernel_rfl,by kernel_rfl⟩,skey_sound⟩
 · injection h with h; subst h; exact ⟨⟨_,Try.func10,by kernel_rfl,by kernel_rfl⟩,rskey_sound⟩
 · injection h with h; subst h; exact ⟨⟨_,Try.func11,by kernel_rfl,by kernel_rfl⟩,snew_sound⟩
 · injection h with h; subst h; exact ⟨⟨_,Try.func12,by kernel_rfl,by kernel_rfl⟩,rsnew_sound⟩
 · injection h with h; subst h; exact ⟨⟨_,Try.func13,by kernel_rfl,by kernel_rfl⟩,sbk_sound⟩
 · injection h with h; subst h; exact ⟨⟨_,Try.func14,by kernel_rfl,by kernel_rfl⟩,rsbk_sound⟩
 · injection h with h; subst h; exact ⟨⟨_,Try.func15,by kernel_rfl,by kernel_rfl⟩,snd_sound⟩
 · injection h with h; subst h; exact ⟨⟨_,Try.func16,by kernel_rfl,by kernel_rfl⟩,rsnd_sound⟩
 · injection h with h; subst h; exact ⟨⟨_,Try.func17,by kernel_rfl,by kernel_rfl⟩,spar_sound⟩
 · injection h with h; subst h; exact ⟨⟨_,Try.func18,by kernel_rfl,by kernel_rfl⟩,rspar_sound⟩
 · cases h
section
set_option maxRecDepth 100000
set_option maxHeartbeats 8000000 in
theorem llook_law : zaq Try.prog 3 llookS := by
 refine zak (S := zeb) (T := tyF) zat tyF_ok Slook14_ok Try.func3 (c := Try.f3.body.getD .skip) (by kernel_rfl) (by kernel_rfl) (fun xs pins hp _ => ?_)
 unfold llookS at hp ⊢
 split at hp
 · rename_i B xs f t v _
   obtain ⟨hL,hb⟩ := hp
   refine ⟨by simp,?_⟩
   unfold Try.f3
   by_cases hg : lightG (xs.map ubat)
   · obtain ⟨h20,h4,hbl⟩ := light_facts hb hg
     have hL6 : xs.length ≤ 1000000 := by omega
     have hL7 : xs.length ≤ 9223372036854775806 := by omega
     have hL8 : xs.length ≤ 90000 := by omega
     have d0 : decide (lightG (xs.map ubat)) = true := decide_eq_true hg
     have hkn := cntG_len _ (b4_all h4)
     have hke := keys_eq (xs.map ubat)
     rw [List.length_map] at hkn
     have hkn6 : (ksM (cntG (xs.map ubat))).length ≤ 1000000 := by omega
     have hdl : (dkG (xs.map ubat)).length ≤ 800 := by rw [← hke,zcu]; omega
     obtain ⟨es,rfl,he⟩ := h4
     have h4 : isB4 (es.map bvp) := ⟨es,rfl,he⟩
     have hlp : (es.map bvp).length = es.length := by simp
     have mu := zaz es
     rw [mu] at d0 hkn6 hke hdl
     obtain ⟨l,hl⟩ : ∃ l,es.map Prod.fst = l := ⟨_,rfl⟩
     rw [hl] at mu d0 hkn6 hke hdl
     have hlq : l.length = es.length := by subst hl; simp
     have h20 := h20
     rw [hlp] at h20
     cases d1 : decide (chkG B l = 0) with
     | false => simp only [go_sem,zaa,Nat.reduceAdd,Nat.reduceSub,Nat.reduceMul,Int.reduceToNat,reduceCtorEq,↓reduceIte,Int.reducePow,Nat.reducePow,Int.reduceMod,Nat.reduceLeDiff,Int.reduceLE,Int.reduceNe,Int.reduceEq,Nat.reduceEqDiff,Nat.reduceLT,Nat.reduceBEq,tyF,zau,ty,zeb,slightS,rschkS,yesS,hL,hL6,hL7,hb,h4,mu,d0,d1,Bool.not_true,Bool.not_false]
     | true =>
       obtain ⟨hB0,hok⟩ := chkG_ok (of_decide_eq_true d1)
       have hnl := newL_ok hok
       have eN := nwG_nwD hnl
       have eS := spL_spD hnl
       have di : ∀ k : Int,decide (k = k) = true := fun k => decide_eq_true rfl
       obtain ⟨bt1,bt2,hbt⟩ : ∃ a b,btG t l = (a,b) := ⟨_,_,rfl⟩
       obtain ⟨D,hD⟩ : ∃ D,dkG l = D := ⟨_,rfl⟩
       rw [hD] at hke hdl
       have hIl : (bldI v (spD l)).es.length ≤ 1000 := by
         have h1 := fold_len (spD l) ⟨max v 1,0,[]⟩
         have h2 := spD_len l
         unfold bldI; simp at h1; omega
       obtain ⟨I,hI⟩ : ∃ I,bldI v (spD l) = I := ⟨_,rfl⟩
       rw [hI] at hIl
       obtain ⟨J,hJ⟩ : ∃ J,ndI l 0 = J := ⟨_,rfl⟩
       obtain ⟨N,hN⟩ : ∃ N,nwD l (-1) = N := ⟨_,rfl⟩
       have db : ∀ b : Bool,decide (b = b) = true := fun k => decide_eq_true rfl
       have hDm : (D.map AV.str).length = D.length := by simp
       simp only [go_sem,zaa,Nat.reduceAdd,Nat.reduceSub,Nat.reduceMul,Int.reduceToNat,reduceCtorEq,↓reduceIte,Int.reducePow,Nat.reducePow,Int.reduceMod,Nat.reduceLeDiff,Int.reduceLE,Int.reduceNe,Int.reduceEq,Nat.reduceEqDiff,Nat.reduceLT,Nat.reduceBEq,tyF,zau,ty,zeb,slightS,rschkS,sbtS,rsbtS,skeyS,rskeyS,snewS,rsnewS,sbkS,rsbkS,yesS,hL,hL6,hL7,hL8,hb,h4,hbl,mu,d0,d1,hkn6,hke,hD,hbt,eN,hN,hJ,di,db,hDm,Bool.not_true,Bool.not_false]
       refine zas ⟨fun m σ => ∃ (i : Nat),m = D.length - i ∧ i ≤ D.length ∧
           σ = ⟨[.agg [.w (.int .i64 B),.sg 6 (es.map bvp) f],.w (.int .i64 t),.w (.int .i64 v),.rf 4 2 0 0,.junk,.junk,.w (.bool false),.rf 5 2 0 0,.junk,.junk,.junk,.junk,.sg 1 (D.map .str) false,.sg 1 (D.map .str) false,.w (.int .i64 i),.junk,.junk,.junk,.junk,.junk,.junk,.junk,.junk,.junk,.junk,.junk,.junk,.junk,.junk,.junk,.junk,.junk,.junk,.junk,.junk,.junk,.junk,.junk,.junk,.junk,.junk,.junk,.junk,.junk,.junk,.junk,.junk,.junk,.junk,.junk,.junk,.junk,.junk,.junk,.junk,.junk,.junk,.junk,.junk,.junk,.junk,.junk,.junk,.junk,.junk,.junk,.junk,.junk,.junk,.junk,.junk,.junk,.junk,.junk,.junk,.junk,.junk,.junk,.junk,.junk,.junk,.junk,.junk,.junk,.junk,.junk,.junk,.junk,.junk,.junk,.junk,.junk,.junk,.junk,.junk,.junk,.junk,.junk,.junk,.junk,.junk,.junk,.junk,.junk,.junk,.junk,.junk,.junk,.junk,.junk,.junk,.junk,.junk,.junk,.junk,.junk,.junk,.junk,.junk,.junk,.junk,.junk,.junk,.junk,.junk,.junk,.junk,.junk,.junk,.junk,.junk,.junk,.junk,.junk,.junk,.junk,.junk,.junk,.junk,.junk,.junk,.junk,.junk,.junk,.junk,.junk,.junk,.junk,.junk,.junk,.junk,.junk,.junk,.junk,.junk],[(4,.g 2 [.agg [.w (.int .i64 B),.sg 6 (es.map bvp) f]]),(5,.g 2 [.agg [.w (.int .i64 B),.sg 6 (es.map bvp) f]])],6⟩,?_,?_⟩
       · refine ⟨_,_,zab [0,1,2,3,4,92] rfl rfl rfl ?_ ?_,0,rfl,by omega,rfl⟩
         · simp only [ssT,zae,zaf,setSlot,gOf,AV.ren,renL,Blk.ren,Ax.look,Ax.put,reduceCtorEq,↓reduceIte,Nat.reduceEqDiff,Nat.reduceLT,Nat.reduceAdd,List.length_append,List.length_cons,List.length_nil,Option.some.injEq]; try simp
         · simp only [ssT,zae,zaf,setSlot,gOf,AV.ren,renL,Blk.ren,Ax.look,Ax.put,reduceCtorEq,↓reduceIte,Nat.reduceEqDiff,Nat.reduceLT,Nat.reduceAdd,List.length_append,List.length_cons,List.length_nil,Option.some.injEq]
       · rintro m σ ⟨i,rfl,hi,rfl⟩
         have e1 : ((i : Int) + 1 + 9223372036854775808) % 18446744073709551616 - 9223372036854775808 = ((i + 1 : Nat) : Int) := by omega
         by_cases hil : i < D.length
         · have d3 : decide ((i : Int) < D.length) = true := decide_eq_true (by omega)
           have hs1 := zbe AV.str D i hil
           obtain ⟨X,hX⟩ : ∃ X,D[i] = X := ⟨_,rfl⟩
           rw [hX] at hs1
           have ds : decide (X = X) = true := decide_eq_true rfl
           simp only [go_sem,zaa,Nat.reduceAdd,Nat.reduceSub,Nat.reduceMul,Int.reduceToNat,reduceCtorEq,↓reduceIte,Int.reducePow,Nat.reducePow,Int.reduceMod,Nat.reduceLeDiff,Int.reduceLE,Int.reduceNe,Int.reduceEq,Nat.reduceEqDiff,Nat.reduceLT,Nat.reduceBEq,tyF,zau,ty,zeb,hDm,d3,hs1,ds,e1,Int.toNat_natCast,Bool.not_true]
           repeat (refine And.intro (by first | decide | omega) ?_)
           refine ⟨D.length - (i + 1),_,by omega,zab [0,1,2,3,4,5] rfl rfl rfl ?_ ?_,i + 1,rfl,by omega,rfl⟩
           · simp only [ssT,zae,zaf,setSlot,gOf,AV.ren,renL,Blk.ren,Ax.look,Ax.put,reduceCtorEq,↓reduceIte,Nat.reduceEqDiff,Nat.reduceLT,Nat.reduceAdd,List.length_append,List.length_cons,List.length_nil,Option.some.injEq]
           · simp only [ssT,zae,zaf,setSlot,gOf,AV.ren,renL,Blk.ren,Ax.look,Ax.put,reduceCtorEq,↓reduceIte,Nat.reduceEqDiff,Nat.reduceLT,Nat.reduceAdd,List.length_append,List.length_cons,List.length_nil,Option.some.injEq]
         · have d3 : decide ((i : Int) < D.length) = false := decide_eq_false (by omega)
           simp only [go_sem,zaa,Nat.reduceAdd,Nat.reduceSub,Nat.reduceMul,Int.reduceToNat,reduceCtorEq,↓reduceIte,Int.reducePow,Nat.reducePow,Int.reduceMod,Nat.reduceLeDiff,Int.reduceLE,Int.reduceNe,Int.reduceEq,Nat.reduceEqDiff,Nat.reduceLT,Nat.reduceBEq,tyF,zau,ty,zeb,hDm,d3,Bool.not_true]
           refine zas ⟨fun m σ => ∃ (i : Nat),m = es.length - i ∧ i ≤ es.length ∧
               σ = ⟨[.agg [.w (.int .i64 B),.sg 6 (es.map bvp) f],.w (.int .i64 t),.w (.int .i64 v),.rf 4 2 0 0,.junk,.junk,.w (.bool false),.rf 5 2 0 0,.junk,.junk,.junk,.junk,.junk,.junk,.junk,.w (.int .i64 i),.junk,.junk,.junk,.junk,.junk,.junk,.junk,.junk,.junk,.junk,.junk,.junk,.junk,.junk,.junk,.junk,.junk,.junk,.junk,.junk,.junk,.junk,.junk,.junk,.junk,.junk,.junk,.junk,.junk,.junk,.junk,.junk,.junk,.junk,.junk,.junk,.junk,.junk,.junk,.junk,.junk,.junk,.junk,.junk,.junk,.junk,.junk,.junk,.junk,.junk,.junk,.junk,.junk,.junk,.junk,.junk,.junk,.junk,.junk,.junk,.junk,.junk,.junk,.junk,.junk,.junk,.junk,.junk,.junk,.junk,.junk,.junk,.junk,.junk,.junk,.junk,.junk,.junk,.junk,.junk,.junk,.junk,.junk,.junk,.junk,.junk,.junk,.junk,.junk,.junk,.junk,.junk,.junk,.junk,.junk,.junk,.junk,.junk,.junk,.junk,.junk,.junk,.junk,.junk,.junk,.junk,.junk,.junk,.junk,.junk,.junk,.junk,.junk,.junk,.junk,.junk,.junk,.junk,.junk,.junk,.junk,.junk,.junk,.junk,.junk,.junk,.junk,.junk,.junk,.junk,.junk,.junk,.junk,.junk,.junk,.junk,.junk,.junk,.junk],[(4,.g 2 [.agg [.w (.int .i64 B),.sg 6 (es.map bvp) f]]),(5,.g 2 [.agg [.w (.int .i64 B),.sg 6 (es.map bvp) f]])],6⟩,?_,?_⟩
           · refine ⟨_,_,zab [0,1,2,3,4,5] rfl rfl rfl ?_ ?_,0,rfl,by omega,rfl⟩
             · simp only [ssT,zae,zaf,setSlot,gOf,AV.ren,renL,Blk.ren,Ax.look,Ax.put,reduceCtorEq,↓reduceIte,Nat.reduceEqDiff,Nat.reduceLT,Nat.reduceAdd,List.length_append,List.length_cons,List.length_nil,Option.some.injEq]; try simp
             · simp only [ssT,zae,zaf,setSlot,gOf,AV.ren,renL,Blk.ren,Ax.look,Ax.put,reduceCtorEq,↓reduceIte,Nat.reduceEqDiff,Nat.reduceLT,Nat.reduceAdd,List.length_append,List.length_cons,List.length_nil,Option.some.injEq]
           · clear hi e1 hil d3
             rintro m σ ⟨i,rfl,hi,rfl⟩
             have e1 : ((i : Int) + 1 + 9223372036854775808) % 18446744073709551616 - 9223372036854775808 = ((i + 1 : Nat) : Int) := by omega
             by_cases hil : i < es.length
             · have d3 : decide ((i : Int) < es.length) = true := decide_eq_true (by omega)
               have hs1 := zbb es i hil
               have m1 := he es[i] (List.getElem_mem hil)
               obtain ⟨P,hP⟩ : ∃ P,es[i] = P := ⟨_,rfl⟩
               rw [hP] at hs1 m1
               obtain ⟨⟨b,c,p,e,s,rs⟩,f'⟩ := P
               have hs1 : slot (es.map bvp) i = .agg [.w (.int .i64 b),.w (.int .i64 c),.w (.int .i64 p),.w (.int .i64 e),.w (.int .i64 s),.sg 6 (rs.map rv) f'] := hs1
               simp only at m1
               have n0 : (rs.map rv).length ≤ 40 := by rw [List.length_map]; omega
               have n1 : (rs.map rv).length ≤ 9223372036854775807 := by omega
               have x1 : ∃ k : List Rec,rs.map rv = k.map rv := ⟨rs,rfl⟩
               have r1 := zaj rs
               simp only [go_sem,zaa,Nat.reduceAdd,Nat.reduceSub,Nat.reduceMul,Int.reduceToNat,reduceCtorEq,↓reduceIte,Int.reducePow,Nat.reducePow,Int.reduceMod,Nat.reduceLeDiff,Int.reduceLE,Int.reduceNe,Int.reduceEq,Nat.reduceEqDiff,Nat.reduceLT,Nat.reduceBEq,tyF,zau,ty,zeb,sndS,rsndS,hlp,d3,hs1,n0,n1,x1,r1,di,e1,Int.toNat_natCast,Bool.not_true]
               repeat (refine And.intro (by first | decide | omega) ?_)
               refine ⟨es.length - (i + 1),_,by omega,zab [0,1,2,3,4,5] rfl rfl rfl ?_ ?_,i + 1,rfl,by omega,rfl⟩
               · simp only [ssT,zae,zaf,setSlot,gOf,AV.ren,renL,Blk.ren,Ax.look,Ax.put,reduceCtorEq,↓reduceIte,Nat.reduceEqDiff,Nat.reduceLT,Nat.reduceAdd,List.length_append,List.length_cons,List.length_nil,Option.some.injEq]
               · simp only [ssT,zae,zaf,setSlot,gOf,AV.ren,renL,Blk.ren,Ax.look,Ax.put,reduceCtorEq,↓reduceIte,Nat.reduceEqDiff,Nat.reduceLT,Nat.reduceAdd,List.length_append,List.length_cons,List.length_nil,Option.some.injEq]
             · have d3 : decide ((i : Int) < es.length) = false := decide_eq_false (by omega)
               have hcc : ∀ h,coe (zau ty) 40 (.sg 3 (I.es.map ent) h) = .sg 3 (I.es.map ent) h := fun h => by cases I.es <;> rfl
               have hcd : ∀ h,coe (zau ty) 44 (.sg 3 (I.es.map ent) h) = .sg 3 (I.es.map ent) h := fun h => by cases I.es <;> rfl
               have hem : (I.es.map ent).length = I.es.length := by simp
               simp only [go_sem,zaa,Nat.reduceAdd,Nat.reduceSub,Nat.reduceMul,Int.reduceToNat,reduceCtorEq,↓reduceIte,Int.reducePow,Nat.reducePow,Int.reduceMod,Nat.reduceLeDiff,Int.reduceLE,Int.reduceNe,Int.reduceEq,Nat.reduceEqDiff,Nat.reduceLT,Nat.reduceBEq,tyF,zau,ty,zeb,sparS,rsparS,iav,eS,hI,hL8,hbl,h4,mu,hlp,d3,di,hcc,hcd,hem,Bool.not_true]
               obtain ⟨q1,hq1⟩ : ∃ q,empE I.es = q := ⟨_,rfl⟩
               obtain ⟨q2,hq2⟩ : ∃ q,decide (es.length = 0) = q := ⟨_,rfl⟩
               rw [hq1,hq2]
               refine ⟨by omega,by omega,?_⟩
               refine zas ⟨fun m σ => ∃ (i : Nat),m = I.es.length - i ∧ i ≤ I.es.length ∧
                   σ = ⟨[.agg [.w (.int .i64 B),.sg 6 (es.map bvp) f],.w (.int .i64 t),.w (.int .i64 v),.junk,.junk,.junk,.w (.bool false),.junk,.junk,.junk,.junk,.junk,.junk,.junk,.junk,.junk,.rf 4 3 0 0,.rf 5 3 0 0,.w (.int .i64 i),.junk,.junk,.junk,.junk,.junk,.junk,.junk,.junk,.junk,.junk,.junk,.junk,.junk,.junk,.junk,.junk,.junk,.junk,.junk,.junk,.junk,.junk,.junk,.junk,.junk,.junk,.junk,.junk,.junk,.junk,.junk,.junk,.junk,.junk,.junk,.junk,.junk,.junk,.junk,.junk,.junk,.junk,.junk,.junk,.junk,.junk,.junk,.junk,.junk,.junk,.junk,.junk,.junk,.junk,.junk,.junk,.junk,.junk,.junk,.junk,.junk,.junk,.junk,.junk,.junk,.junk,.junk,.junk,.junk,.junk,.junk,.junk,.junk,.junk,.junk,.junk,.junk,.junk,.junk,.junk,.junk,.junk,.junk,.junk,.junk,.junk,.junk,.junk,.junk,.junk,.junk,.junk,.junk,.junk,.junk,.junk,.junk,.junk,.junk,.junk,.junk,.junk,.junk,.junk,.junk,.junk,.junk,.junk,.junk,.junk,.junk,.junk,.junk,.junk,.junk,.junk,.junk,.junk,.junk,.junk,.junk,.junk,.junk,.junk,.junk,.junk,.junk,.junk,.junk,.junk,.junk,.junk,.junk,.junk,.junk,.junk],[(4,.g 3 [.agg [.w (.int .i64 I.v),.w (.int .i64 I.c),.sg 3 (I.es.map ent) q1]]),(5,.g 3 [.agg [.w (.int .i64 I.v),.w (.int .i64 I.c),.sg 3 (I.es.map ent) q2]])],6⟩,?_,?_⟩
               · refine ⟨_,_,zab [0,1,2,3,94,102] rfl rfl rfl ?_ ?_,0,rfl,by omega,rfl⟩
                 · simp only [ssT,zae,zaf,setSlot,gOf,AV.ren,renL,Blk.ren,Ax.look,Ax.put,reduceCtorEq,↓reduceIte,Nat.reduceEqDiff,Nat.reduceLT,Nat.reduceAdd,List.length_append,List.length_cons,List.length_nil,Option.some.injEq]; try simp
                 · simp only [ssT,zae,zaf,setSlot,gOf,AV.ren,renL,Blk.ren,Ax.look,Ax.put,reduceCtorEq,↓reduceIte,Nat.reduceEqDiff,Nat.reduceLT,Nat.reduceAdd,List.length_append,List.length_cons,List.length_nil,Option.some.injEq]
               · clear hi e1 hil d3
                 rintro m σ ⟨i,rfl,hi,rfl⟩
                 have e1 : ((i : Int) + 1 + 9223372036854775808) % 18446744073709551616 - 9223372036854775808 = ((i + 1 : Nat) : Int) := by omega
                 by_cases hil : i < I.es.length
                 · have d3 : decide ((i : Int) < I.es.length) = true := decide_eq_true (by omega)
                   have hs1 := zbe ent I.es i hil
                   obtain ⟨X,hX⟩ : ∃ X,I.es[i] = X := ⟨_,rfl⟩
                   rw [hX] at hs1
                   obtain ⟨xo,xt,xa⟩ := X
                   have hs1 : slot (I.es.map ent) i = .agg [.w (.int .i64 xo),.w (.int .i64 xt),.w (.int .i64 xa)] := hs1
                   simp only [go_sem,zaa,Nat.reduceAdd,Nat.reduceSub,Nat.reduceMul,Int.reduceToNat,reduceCtorEq,↓reduceIte,Int.reducePow,Nat.reducePow,Int.reduceMod,Nat.reduceLeDiff,Int.reduceLE,Int.reduceNe,Int.reduceEq,Nat.reduceEqDiff,Nat.reduceLT,Nat.reduceBEq,tyF,zau,ty,zeb,hem,d3,hs1,di,e1,Int.toNat_natCast,Bool.not_true]
                   repeat (refine And.intro (by first | decide | omega) ?_)
                   refine ⟨I.es.length - (i + 1),_,by omega,zab [0,1,2,3,4,5] rfl rfl rfl ?_ ?_,i + 1,rfl,by omega,rfl⟩
                   · simp only [ssT,zae,zaf,setSlot,gOf,AV.ren,renL,Blk.ren,Ax.look,Ax.put,reduceCtorEq,↓reduceIte,Nat.reduceEqDiff,Nat.reduceLT,Nat.reduceAdd,List.length_append,List.length_cons,List.length_nil,Option.some.injEq]
                   · simp only [ssT,zae,zaf,setSlot,gOf,AV.ren,renL,Blk.ren,Ax.look,Ax.put,reduceCtorEq,↓reduceIte,Nat.reduceEqDiff,Nat.reduceLT,Nat.reduceAdd,List.length_append,List.length_cons,List.length_nil,Option.some.injEq]
                 · have d3 : decide ((i : Int) < I.es.length) = false := decide_eq_false (by omega)
                   simp only [go_sem,zaa,Nat.reduceAdd,Nat.reduceSub,Nat.reduceMul,Int.reduceToNat,reduceCtorEq,↓reduceIte,Int.reducePow,Nat.reducePow,Int.reduceMod,Nat.reduceLeDiff,Int.reduceLE,Int.reduceNe,Int.reduceEq,Nat.reduceEqDiff,Nat.reduceLT,Nat.reduceBEq,tyF,zau,ty,zeb,yesS,hem,d3,Bool.not_true]
   · have d0 : decide (lightG (xs.map ubat)) = false := decide_eq_false hg
     simp only [go_sem,zaa,Nat.reduceAdd,Nat.reduceSub,Nat.reduceMul,Int.reduceToNat,reduceCtorEq,↓reduceIte,Int.reducePow,Nat.reducePow,Int.reduceMod,Nat.reduceLeDiff,Int.reduceLE,Int.reduceNe,Int.reduceEq,Nat.reduceEqDiff,Nat.reduceLT,Nat.reduceBEq,tyF,zau,ty,zeb,slightS,yesS,hL,hb,d0,Bool.not_false]
 · exact hp.elim
end
theorem llook_dom {x y z : AV} (hx : Arg ty 8 24 x) (hy : Arg ty 8 3 y) (hz : Arg ty 8 3 z) : (llookS [x,y,z] []).p ∧ (llookS [x,y,z] []).x = .w (.bool true) := by
 obtain ⟨B,xs,f,rfl,h1,h2⟩ := arg_segJ (j := 1) hx
 obtain ⟨o,rfl⟩ := arg_intJ hy
 obtain ⟨m,rfl⟩ := arg_intJ hz
 exact ⟨⟨h1,h2⟩,rfl⟩
end Go.Proofs.Ytlcijldkdpmknaa
