/- What the proofs of this seat stand on; it asks nothing. -/
import Derived.Test.YtihbcgbmlecpbaaYa12
import Derived.Test.YtihbcgbmlecpbaaYc00
set_option linter.unusedSimpArgs false
set_option linter.unusedVariables false
namespace Go.Proofs.Ytihbcgbmlecpbaa
open Ax
def zbv : XPlan := fun id => match id with
 | 3 => .prs [(0,2)]
 | _ => .std
theorem cst22 : ((0 : Nat) : Int) = 0 ∧ ((1 : Nat) : Int) = 1 ∧ ((2 : Nat) : Int) = 2 ∧ ((3 : Nat) : Int) = 3 ∧ ((4 : Nat) : Int) = 4 ∧ ((5 : Nat) : Int) = 5 ∧ ((6 : Nat) : Int) = 6 := ⟨rfl,rfl,rfl,rfl,rfl,rfl,rfl⟩
theorem gx22_7 : (([116,105,102,98] : List UInt8).getD 0 0).toNat = 116 ∧ (([116,105,102,98] : List UInt8).getD 1 0).toNat = 105 ∧ (([116,105,102,98] : List UInt8).getD 2 0).toNat = 102 ∧ (([116,105,102,98] : List UInt8).getD 3 0).toNat = 98 := by decide +kernel
theorem lt22 : ((99 : UInt8).toNat : Nat) = 99 ∧ ((102 : UInt8).toNat : Nat) = 102 ∧ ((103 : UInt8).toNat : Nat) = 103 ∧ ((105 : UInt8).toNat : Nat) = 105 ∧ ((107 : UInt8).toNat : Nat) = 107 ∧ ((109 : UInt8).toNat : Nat) = 109 ∧ ((110 : UInt8).toNat : Nat) = 110 ∧ ((111 : UInt8).toNat : Nat) = 111 ∧ ((112 : UInt8).toNat : Nat) = 112 ∧ ((116 : UInt8).toNat : Nat) = 116 ∧ ((119 : UInt8).toNat : Nat) = 119 := by decide
def zds : zak
 | [.w (.bool b)],[] => ⟨True,.ms 0 1 0 1,[.b [UInt8.ofNat (bitN b).toNat]]⟩
 | _,_ => zbd
section
set_option maxRecDepth 100000
theorem flag22_sound : zaq Try.prog 50 zds := by
 refine zal (S := noS) (T := ty) zau ty_ok zbs Try.func50 (c := Try.f50.body.getD .skip) (by kernel_rfl) (by kernel_rfl) (fun xs pins hp _ => ?_)
 unfold zds at hp ⊢
 split at hp
 · rename_i b _
   refine ⟨by simp,?_⟩
   unfold Try.f50
   cases b
   all_goals
     simp only [go_sem,coe,zaa,Nat.reduceAdd,Nat.reduceSub,Nat.reduceMul,Int.reduceToNat,reduceCtorEq,↓reduceIte,Int.reducePow,Nat.reducePow,Int.reduceMod,Nat.reduceLeDiff,Int.reduceLE,Int.reduceNe,Int.reduceEq,Nat.reduceEqDiff,Nat.reduceLT,Nat.reduceBEq,ty,noS,bitN,if_true,if_false,Bool.false_eq_true]
     try decide
 · exact hp.elim
end
def zck (f : FuncId) : Option zak :=
 match f with
 | 47 => some zcy
 | 29 => some sreqS
 | 48 => some rputS4
 | 31 => some zcd
 | 26 => some putS
 | 49 => some usesS
 | 50 => some zds
 | _ => none
theorem SrputQ_ok : Fns Try.prog zck := by
 intro f s h
 unfold zck at h
 split at h
 · injection h with h; subst h; exact ⟨⟨_,Try.func47,by kernel_rfl,by kernel_rfl⟩,only22_sound⟩
 · injection h with h; subst h; exact ⟨⟨_,Try.func29,by kernel_rfl,by kernel_rfl⟩,rsreq22_sound⟩
 · injection h with h; subst h; exact ⟨⟨_,Try.func48,by kernel_rfl,by kernel_rfl⟩,rput4_sound⟩
 · injection h with h; subst h; exact ⟨⟨_,Try.func31,by kernel_rfl,by kernel_rfl⟩,rtext_sound⟩
 · injection h with h; subst h; exact ⟨⟨_,Try.func26,by kernel_rfl,by kernel_rfl⟩,rput_sound⟩
 · injection h with h; subst h; exact ⟨⟨_,Try.func49,by kernel_rfl,by kernel_rfl⟩,ruses22_sound⟩
 · injection h with h; subst h; exact ⟨⟨_,Try.func50,by kernel_rfl,by kernel_rfl⟩,flag22_sound⟩
 · cases h
section
set_option maxRecDepth 100000
set_option maxHeartbeats 8000000 in
theorem rputQ_k3 (t : List UInt8) (i p : Int) (c f : Bool) (o m w : Int) (g mb : List UInt8) (n b1 b2 b3 b4 b5 : Int) (rs : List Rec) (fl : Bool) (hc : chkQ 3 t i p c f o m w g mb n b1 b2 b3 b4 b5 rs = 0) (hq : lenQ t g mb) (hr : intQ i p o m w n) (h40 : (rs.map rv).length ≤ 40) :
   awpO zck noO ty zbv (Try.f25.body.getD .skip) (EndsW ty Try.f25.results.toList [] ⟨True,.tup [.ms 0 1 0 (layQ 3 t i p c f o m w g mb n b1 b2 b3 b4 b5 rs).length,.w (.int .i64 0)],[.b (layQ 3 t i p c f o m w g mb n b1 b2 b3 b4 b5 rs)]⟩) ⟨[.agg [.w (.int .u8 3),.str t,.w (.int .i64 i),.w (.int .i64 p),.w (.bool c),.w (.bool f),.w (.int .i64 o),.w (.int .i64 m),.w (.int .i64 w),.str g,.str mb,.w (.int .i64 n),.w (.int .i64 b1),.w (.int .i64 b2),.w (.int .i64 b3),.w (.int .i64 b4),.w (.int .i64 b5),.sg 6 (rs.map rv) fl]] ++ List.replicate (Try.f25.ntmps - 1) .junk,pinHeap 0 [],4⟩ := by
 have hso := (chkQ_ok rs hc).2.1
 obtain ⟨q1,q2,q3⟩ := hq
 obtain ⟨r1,r2,r3,r4,r5,r6⟩ := hr
 have lq : lenQ t g mb := ⟨q1,q2,q3⟩
 have iq : intQ i p o m w n := ⟨r1,r2,r3,r4,r5,r6⟩
 obtain ⟨-,-,hlong,hb⟩ := chkQ_ok rs hc
 unfold zeo at hlong
 have g1 := zav t q1
 have g2 := zav g q2
 have g3 := zav mb q3
 have l1 := zcf i r1
 have l2 := zcf p r2
 have l3 := zcf o r3
 have l4 := zcf m r4
 have l5 := zcf w r5
 have l6 := zcf n r6
 unfold okI at r1 r2 r3 r4 r5 r6
 have hbl := zfs b1 b2 b3 b4 b5 rs
 have g4 := zav (batB b1 b2 b3 b4 b5 rs) (by omega)
 have hL : (rs.map rv).length ≤ 9223372036854775807 := by omega
 have hmr := zag rs
 have hex : ∃ qs : List Rec,rs.map rv = qs.map rv := ⟨rs,rfl⟩
 have tk : ∀ l : List UInt8,List.take l.length l = l := fun l => List.take_length
 obtain ⟨hbE,rfl⟩ := hb rfl
 have hLay : layQ 3 t i p c f o m w g mb n 0 b2 b3 b4 b5 rs = UInt8.ofNat 3 :: (zaw t ++ (pq i ++ ([UInt8.ofNat (bitN f).toNat] ++ (zaw (batB 0 b2 b3 b4 b5 rs))))) := by simp [layQ,zcq,zbz]
 obtain ⟨Y,hY⟩ : ∃ x,layQ 3 t i p c f o m w g mb n 0 b2 b3 b4 b5 rs = x := ⟨_,rfl⟩
 rw [hY] at hLay ⊢
 obtain ⟨t',i',p',c',f',o',m',w',g',mb',n',b1',b2',b3',b4',b5',ys,fm,hO,hY1,hY2,hS⟩ := only_told 3 t i p c f o m w g mb n 0 b2 b3 b4 b5 rs fl hL
 rw [hso] at hS
 have d1 : decide ((255 : Int) < t.length) = false := decide_eq_false (by omega)
 have d2 : decide ((255 : Int) < g.length) = false := decide_eq_false (by omega)
 have d3 : decide ((255 : Int) < mb.length) = false := decide_eq_false (by omega)
 have hbt : (batB 0 b2 b3 b4 b5 rs).length ≤ 1000000 := by have := zfs 0 b2 b3 b4 b5 rs; omega
 unfold Try.f25
 simp only [go_sem,zab,Nat.reduceAdd,Nat.reduceSub,Nat.reduceMul,Int.reduceToNat,reduceCtorEq,↓reduceIte,Int.reducePow,Nat.reducePow,Int.reduceMod,Nat.reduceLeDiff,Int.reduceLE,Int.reduceNe,Int.reduceEq,Nat.reduceEqDiff,Nat.reduceLT,Nat.reduceBEq,List.map_cons,List.map_nil,List.toList_toArray,Array.toList_append,Option.toArray_some,Option.toArray_none,Bool.and_self,ty,zck,zbv,zcy,sreqS,rputS4,zcd,usesS,zcq,hO,hY1,hY2,hS,d1,d2,d3,hc,hL,h40,hex,hmr,hbt,hbE,tk,Int.reduceEq,Nat.reduceEqDiff,or_self,or_false,false_or,or_true,true_or,if_true,if_false,Int.reduceLE,Int.reduceLT]
 refine awpO_unr 6 ?_
 simp only [go_sem,zab,Nat.reduceAdd,Nat.reduceSub,Nat.reduceMul,Int.reduceToNat,reduceCtorEq,↓reduceIte,Int.reducePow,Nat.reducePow,Int.reduceMod,Nat.reduceLeDiff,Int.reduceLE,Int.reduceNe,Int.reduceEq,Nat.reduceEqDiff,Nat.reduceLT,Nat.reduceBEq,List.map_cons,List.map_nil,List.toList_toArray,Array.toList_append,Option.toArray_some,Option.toArray_none,Bool.and_self,ty,zck,zbv,zcd,putS,zds,unrO_go,unK_normal,unK_exit,unK_ret,Int.reduceAdd,Int.reduceSub,Int.cast_ofNat_Int,q1,q2,q3,r1,r2,r3,r4,r5,r6,zbr,tk,cst22,gx22_7,Int.reduceEq,Nat.reduceEqDiff,or_self,or_false,false_or,or_true,true_or,if_true,if_false,Int.reduceLT]
 repeat (refine And.intro (by first | decide | (unfold top; simp only [List.length_append,List.length_cons,List.length_nil]; omega) | (unfold top; omega)) ?_)
 exact zas 2 3 (by decide) rfl rfl rfl (by simp; try omega) (by rw [hLay]; try simp) rfl
set_option maxHeartbeats 8000000 in
theorem rputQ_loop (k : Int) (hk0 : 0 ≤ k) (hk : k ≤ 11) (hk3 : k ≠ 3) (t : List UInt8) (i p : Int) (c f : Bool) (o m w : Int) (g mb : List UInt8) (n b1 b2 b3 b4 b5 : Int) (rs : List Rec) (fl : Bool) (hc : chkQ k t i p c f o m w g mb n b1 b2 b3 b4 b5 rs = 0) (hq : lenQ t g mb) (hr : intQ i p o m w n) (h40 : (rs.map rv).length ≤ 40) :
   awpO zck noO ty zbv (Try.f25.body.getD .skip) (EndsW ty Try.f25.results.toList [] ⟨True,.tup [.ms 0 1 0 (layQ k t i p c f o m w g mb n b1 b2 b3 b4 b5 rs).length,.w (.int .i64 0)],[.b (layQ k t i p c f o m w g mb n b1 b2 b3 b4 b5 rs)]⟩) ⟨[.agg [.w (.int .u8 k),.str t,.w (.int .i64 i),.w (.int .i64 p),.w (.bool c),.w (.bool f),.w (.int .i64 o),.w (.int .i64 m),.w (.int .i64 w),.str g,.str mb,.w (.int .i64 n),.w (.int .i64 b1),.w (.int .i64 b2),.w (.int .i64 b3),.w (.int .i64 b4),.w (.int .i64 b5),.sg 6 (rs.map rv) fl]] ++ List.replicate (Try.f25.ntmps - 1) .junk,pinHeap 0 [],4⟩ := by
 have hso := (chkQ_ok rs hc).2.1
 obtain ⟨q1,q2,q3⟩ := hq
 obtain ⟨r1,r2,r3,r4,r5,r6⟩ := hr
 have lq : lenQ t g mb := ⟨q1,q2,q3⟩
 have iq : intQ i p o m w n := ⟨r1,r2,r3,r4,r5,r6⟩
 obtain ⟨-,-,hlong,hb⟩ := chkQ_ok rs hc
 unfold zeo at hlong
 have g1 := zav t q1
 have g2 := zav g q2
 have g3 := zav mb q3
 have l1 := zcf i r1
 have l2 := zcf p r2
 have l3 := zcf o r3
 have l4 := zcf m r4
 have l5 := zcf w r5
 have l6 := zcf n r6
 unfold okI at r1 r2 r3 r4 r5 r6
 have hbl := zfs b1 b2 b3 b4 b5 rs
 have g4 := zav (batB b1 b2 b3 b4 b5 rs) (by omega)
 have hL : (rs.map rv).length ≤ 9223372036854775807 := by omega
 have hmr := zag rs
 have hex : ∃ qs : List Rec,rs.map rv = qs.map rv := ⟨rs,rfl⟩
 have tk : ∀ l : List UInt8,List.take l.length l = l := fun l => List.take_length
 have hdec : ∀ j,j < (zcq k).length → True := fun _ _ => trivial
 have hul := uses_len k
 have hlet := uses_let k
 obtain ⟨F,hF⟩ : ∃ F : UInt8 → List UInt8,(fun x : UInt8 => zbz (x.toNat : Int) t i p c f o m w g mb n b1 b2 b3 b4 b5 rs) = F := ⟨_,rfl⟩
 have hFx : ∀ x : UInt8,zbz (x.toNat : Int) t i p c f o m w g mb n b1 b2 b3 b4 b5 rs = F x := fun x => congrFun hF x
 have hFl : ∀ x,(F x).length ≤ 1000010 := fun x => by rw [← hFx x]; exact piece_len _ t i p c f o m w g mb n b1 b2 b3 b4 b5 rs lq iq
 have hLay : layQ k t i p c f o m w g mb n b1 b2 b3 b4 b5 rs = UInt8.ofNat k.toNat :: (zcq k).flatMap F := by rw [← hF]; rfl
 rw [hLay]
 obtain ⟨L,hLL⟩ : ∃ L,zcq k = L := ⟨_,rfl⟩
 rw [hLL] at hul hlet
 rw [hLL]
 clear hF hLay hdec
 obtain ⟨t',i',p',c',f',o',m',w',g',mb',n',b1',b2',b3',b4',b5',ys,fm,hO,hY1,hY2,hS⟩ := only_told k t i p c f o m w g mb n b1 b2 b3 b4 b5 rs fl hL
 rw [hso] at hS
 have d1 : decide ((255 : Int) < t.length) = false := decide_eq_false (by omega)
 have d2 : decide ((255 : Int) < g.length) = false := decide_eq_false (by omega)
 have d3 : decide ((255 : Int) < mb.length) = false := decide_eq_false (by omega)
 have d4 : decide ((11 : Int) < k) = false := decide_eq_false (by omega)
 have d5 : decide (k = 3) = false := decide_eq_false hk3
 have hk2 : k < 256 := by omega
 unfold Try.f25
 simp only [go_sem,zab,Nat.reduceAdd,Nat.reduceSub,Nat.reduceMul,Int.reduceToNat,reduceCtorEq,↓reduceIte,Int.reducePow,Nat.reducePow,Int.reduceMod,Nat.reduceLeDiff,Int.reduceLE,Int.reduceNe,Int.reduceEq,Nat.reduceEqDiff,Nat.reduceLT,Nat.reduceBEq,List.map_cons,List.map_nil,List.toList_toArray,Array.toList_append,Option.toArray_some,Option.toArray_none,Bool.and_self,ty,zck,zbv,zcy,sreqS,usesS,hLL,hO,hY1,hY2,hS,d1,d2,d3,d4,d5,hk0,hk2,hk,hL,h40,hex,hmr,tk]
 refine awpO_loopW ⟨fun mm σ => ∃ j : Nat,mm = L.length - j ∧ j ≤ L.length ∧
   σ = ⟨[.agg [.w (.int .u8 k),.str t,.w (.int .i64 i),.w (.int .i64 p),.w (.bool c),.w (.bool f),.w (.int .i64 o),.w (.int .i64 m),.w (.int .i64 w),.str g,.str mb,.w (.int .i64 n),.w (.int .i64 b1),.w (.int .i64 b2),.w (.int .i64 b3),.w (.int .i64 b4),.w (.int .i64 b5),.sg 6 (rs.map rv) fl],.rf 4 18 0 0,.junk,.junk,.junk,.junk,.junk,.junk,.str L,.ms 5 1 0 (UInt8.ofNat k.toNat :: (L.take j).flatMap F).length,.w (.int .i64 j),.junk,.junk,.junk,.junk,.junk,.junk,.junk,.junk,.junk,.junk,.junk,.junk,.junk,.junk,.junk,.junk,.junk,.junk,.junk,.junk,.junk,.junk,.junk,.junk,.junk,.junk,.junk,.junk,.junk,.junk,.junk,.junk,.junk,.junk,.junk,.junk,.junk,.junk,.junk,.junk,.junk,.junk,.junk,.junk,.junk,.junk,.junk,.junk,.junk,.junk,.junk,.junk,.junk,.junk,.junk,.junk,.junk,.junk,.junk,.junk,.junk,.junk,.junk,.junk,.junk,.junk,.junk,.junk,.junk,.junk,.junk,.junk,.junk,.junk,.junk,.junk,.junk,.junk,.junk,.junk,.junk,.junk,.junk,.junk,.junk,.junk,.junk,.junk,.junk,.junk,.junk,.junk,.junk,.junk,.junk,.junk,.junk,.junk,.junk,.junk,.junk,.junk,.junk,.junk,.junk,.junk,.junk,.junk,.junk,.junk,.junk,.junk,.junk,.junk,.junk,.junk,.junk,.junk,.junk,.junk,.junk,.junk,.junk,.junk,.junk,.junk,.junk,.junk,.junk,.junk,.junk,.junk,.junk,.junk,.junk,.junk,.junk,.junk,.junk,.junk,.junk,.junk,.junk,.junk,.junk,.junk],[(4,.g 18 [.agg [.w (.int .u8 k),.str t,.w (.int .i64 i),.w (.int .i64 p),.w (.bool c),.w (.bool f),.w (.int .i64 o),.w (.int .i64 m),.w (.int .i64 w),.str g,.str mb,.w (.int .i64 n),.w (.int .i64 b1),.w (.int .i64 b2),.w (.int .i64 b3),.w (.int .i64 b4),.w (.int .i64 b5),.sg 6 (rs.map rv) fl]]),(5,.b (UInt8.ofNat k.toNat :: (L.take j).flatMap F))],6⟩,?_,?_⟩
 · refine ⟨_,_,zaf [0,1,2,3,4,324] rfl rfl rfl ?_ ?_,0,rfl,by omega,rfl⟩
   · simp only [ssT,zai,zaj,setSlot,gOf,AV.ren,renL,Blk.ren,Ax.look,Ax.put,reduceCtorEq,↓reduceIte,Nat.reduceEqDiff,Nat.reduceLT,Nat.reduceAdd,List.length_append,List.length_cons,List.length_nil,Option.some.injEq]; try simp
   · simp only [ssT,zai,zaj,setSlot,gOf,AV.ren,renL,Blk.ren,Ax.look,Ax.put,reduceCtorEq,↓reduceIte,Nat.reduceEqDiff,Nat.reduceLT,Nat.reduceAdd,List.length_append,List.length_cons,List.length_nil,Option.some.injEq]; try simp
 · rintro m' σ ⟨j,rfl,hj,rfl⟩
   have hcl := flat_le22 F 1000010 hFl (L.take j)
   have htl : (L.take j).length = j := by rw [List.length_take]; omega
   rw [htl] at hcl
   by_cases hjl : j < L.length
   · have e0 : decide ((j : Int) < (L.length : Int)) = true := decide_eq_true (by omega)
     have ej : ((j : Int) + 1 + 9223372036854775808) % 18446744073709551616 - 9223372036854775808 = ((j + 1 : Nat) : Int) := by omega
     have hx1 : L.getD j 0 = L[j] := by rw [List.getD_eq_getElem?_getD,List.getElem?_eq_getElem hjl]; rfl
     have hlx := hlet L[j] (List.getElem_mem hjl)
     have hP := hFx L[j]
     have hn := hFl L[j]
     have htake : (L.take (j + 1)).flatMap F = (L.take j).flatMap F ++ F L[j] := by
       rw [List.take_succ_eq_append_getElem hjl,List.flatMap_append]; simp
     obtain ⟨x,hx⟩ : ∃ x,L[j] = x := ⟨_,rfl⟩
     rw [hx] at hx1 hlx hP hn htake
     obtain ⟨Z,hZ⟩ : ∃ Z,(L.take j).flatMap F = Z := ⟨_,rfl⟩
     rw [hZ] at hcl htake ⊢
     rcases hlx with hlx | hlx
     rotate_left 1
     · exact (hk3 hlx.2).elim
     rcases hlx with rfl | rfl | rfl | rfl | rfl | rfl | rfl | rfl | rfl | rfl | rfl
     · have hP2 : F 116 = zaw t := by rw [← hP]; rfl
       rw [hP2] at hn htake
       simp only [go_sem,zab,Nat.reduceAdd,Nat.reduceSub,Nat.reduceMul,Int.reduceToNat,reduceCtorEq,↓reduceIte,Int.reducePow,Nat.reducePow,Int.reduceMod,Nat.reduceLeDiff,Int.reduceLE,Int.reduceNe,Int.reduceEq,Nat.reduceEqDiff,Nat.reduceLT,Nat.reduceBEq,List.map_cons,List.map_nil,List.toList_toArray,Array.toList_append,Option.toArray_some,Option.toArray_none,Bool.and_self,ty,zck,zbv,zcd,putS,zds,e0,ej,hx1,q1,q2,q3,r1,r2,r3,r4,r5,r6,zbr,tk,lt22,cst22,Int.reduceEq,Int.toNat_natCast,Int.cast_ofNat_Int]
       repeat (refine And.intro (by first | decide | omega | (unfold top; omega) | (unfold top; simp only [List.length_cons,List.length_nil]; omega)) ?_)
       refine ⟨L.length - (j + 1),_,by omega,zaf [0,1,2,3,4,110] rfl rfl rfl ?_ ?_,j + 1,rfl,by omega,rfl⟩
       · simp only [ssT,zai,zaj,setSlot,gOf,AV.ren,renL,Blk.ren,Ax.look,Ax.put,reduceCtorEq,↓reduceIte,Nat.reduceEqDiff,Nat.reduceLT,Nat.reduceAdd,List.length_append,List.length_cons,List.length_nil,Option.some.injEq,htake]; try simp
         try exact Nat.add_right_comm _ _ _
       · simp only [ssT,zai,zaj,setSlot,gOf,AV.ren,renL,Blk.ren,Ax.look,Ax.put,reduceCtorEq,↓reduceIte,Nat.reduceEqDiff,Nat.reduceLT,Nat.reduceAdd,List.length_append,List.length_cons,List.length_nil,Option.some.injEq,htake]; try simp
     · have hP2 : F 103 = zaw g := by rw [← hP]; rfl
       rw [hP2] at hn htake
       simp only [go_sem,zab,Nat.reduceAdd,Nat.reduceSub,Nat.reduceMul,Int.reduceToNat,reduceCtorEq,↓reduceIte,Int.reducePow,Nat.reducePow,Int.reduceMod,Nat.reduceLeDiff,Int.reduceLE,Int.reduceNe,Int.reduceEq,Nat.reduceEqDiff,Nat.reduceLT,Nat.reduceBEq,List.map_cons,List.map_nil,List.toList_toArray,Array.toList_append,Option.toArray_some,Option.toArray_none,Bool.and_self,ty,zck,zbv,zcd,putS,zds,e0,ej,hx1,q1,q2,q3,r1,r2,r3,r4,r5,r6,zbr,tk,lt22,cst22,Int.reduceEq,Int.toNat_natCast,Int.cast_ofNat_Int]
       repeat (refine And.intro (by first | decide | omega | (unfold top; omega) | (unfold top; simp only [List.length_cons,List.length_nil]; omega)) ?_)
       refine ⟨L.length - (j + 1),_,by omega,zaf [0,1,2,3,4,238] rfl rfl rfl ?_ ?_,j + 1,rfl,by omega,rfl⟩
       · simp only [ssT,zai,zaj,setSlot,gOf,AV.ren,renL,Blk.ren,Ax.look,Ax.put,reduceCtorEq,↓reduceIte,Nat.reduceEqDiff,Nat.reduceLT,Nat.reduceAdd,List.length_append,List.length_cons,List.length_nil,Option.some.injEq,htake]; try simp
         try exact Nat.add_right_comm _ _ _
       · simp only [ssT,zai,zaj,setSlot,gOf,AV.ren,renL,Blk.ren,Ax.look,Ax.put,reduceCtorEq,↓reduceIte,Nat.reduceEqDiff,Nat.reduceLT,Nat.reduceAdd,List.length_append,List.length_cons,List.length_nil,Option.some.injEq,htake]; try simp
     · have hP2 : F 107 = zaw mb := by rw [← hP]; rfl
       rw [hP2] at hn htake
       simp only [go_sem,zab,Nat.reduceAdd,Nat.reduceSub,Nat.reduceMul,Int.reduceToNat,reduceCtorEq,↓reduceIte,Int.reducePow,Nat.reducePow,Int.reduceMod,Nat.reduceLeDiff,Int.reduceLE,Int.reduceNe,Int.reduceEq,Nat.reduceEqDiff,Nat.reduceLT,Nat.reduceBEq,List.map_cons,List.map_nil,List.toList_toArray,Array.toList_append,Option.toArray_some,Option.toArray_none,Bool.and_self,ty,zck,zbv,zcd,putS,zds,e0,ej,hx1,q1,q2,q3,r1,r2,r3,r4,r5,r6,zbr,tk,lt22,cst22,Int.reduceEq,Int.toNat_natCast,Int.cast_ofNat_Int]
       repeat (refine And.intro (by first | decide | omega | (unfold top; omega) | (unfold top; simp only [List.length_cons,List.length_nil]; omega)) ?_)
       refine ⟨L.length - (j + 1),_,by omega,zaf [0,1,2,3,4,254] rfl rfl rfl ?_ ?_,j + 1,rfl,by omega,rfl⟩
       · simp only [ssT,zai,zaj,setSlot,gOf,AV.ren,renL,Blk.ren,Ax.look,Ax.put,reduceCtorEq,↓reduceIte,Nat.reduceEqDiff,Nat.reduceLT,Nat.reduceAdd,List.length_append,List.length_cons,List.length_nil,Option.some.injEq,htake]; try simp
         try exact Nat.add_right_comm _ _ _
       · simp only [ssT,zai,zaj,setSlot,gOf,AV.ren,renL,Blk.ren,Ax.look,Ax.put,reduceCtorEq,↓reduceIte,Nat.reduceEqDiff,Nat.reduceLT,Nat.reduceAdd,List.length_append,List.length_cons,List.length_nil,Option.some.injEq,htake]; try simp
     · have hP2 : F 99 = [UInt8.ofNat (bitN c).toNat] := by rw [← hP]; rfl
       rw [hP2] at hn htake
       simp only [go_sem,zab,Nat.reduceAdd,Nat.reduceSub,Nat.reduceMul,Int.reduceToNat,reduceCtorEq,↓reduceIte,Int.reducePow,Nat.reducePow,Int.reduceMod,Nat.reduceLeDiff,Int.reduceLE,Int.reduceNe,Int.reduceEq,Nat.reduceEqDiff,Nat.reduceLT,Nat.reduceBEq,List.map_cons,List.map_nil,List.toList_toArray,Array.toList_append,Option.toArray_some,Option.toArray_none,Bool.and_self,ty,zck,zbv,zcd,putS,zds,e0,ej,hx1,q1,q2,q3,r1,r2,r3,r4,r5,r6,zbr,tk,lt22,cst22,Int.reduceEq,Int.toNat_natCast,Int.cast_ofNat_Int]
       repeat (refine And.intro (by first | decide | omega | (unfold top; omega) | (unfold top; simp only [List.length_cons,List.length_nil]; omega)) ?_)
       refine ⟨L.length - (j + 1),_,by omega,zaf [0,1,2,3,4,158] rfl rfl rfl ?_ ?_,j + 1,rfl,by omega,rfl⟩
       · simp only [ssT,zai,zaj,setSlot,gOf,AV.ren,renL,Blk.ren,Ax.look,Ax.put,reduceCtorEq,↓reduceIte,Nat.reduceEqDiff,Nat.reduceLT,Nat.reduceAdd,List.length_append,List.length_cons,List.length_nil,Option.some.injEq,htake]; try simp
         try exact Nat.add_right_comm _ _ _
       · simp only [ssT,zai,zaj,setSlot,gOf,AV.ren,renL,Blk.ren,Ax.look,Ax.put,reduceCtorEq,↓reduceIte,Nat.reduceEqDiff,Nat.reduceLT,Nat.reduceAdd,List.length_append,List.length_cons,List.length_nil,Option.some.injEq,htake]; try simp
     · have hP2 : F 102 = [UInt8.ofNat (bitN f).toNat] := by rw [← hP]; rfl
       rw [hP2] at hn htake
       simp only [go_sem,zab,Nat.reduceAdd,Nat.reduceSub,Nat.reduceMul,Int.reduceToNat,reduceCtorEq,↓reduceIte,Int.reducePow,Nat.reducePow,Int.reduceMod,Nat.reduceLeDiff,Int.reduceLE,Int.reduceNe,Int.reduceEq,Nat.reduceEqDiff,Nat.reduceLT,Nat.reduceBEq,List.map_cons,List.map_nil,List.toList_toArray,Array.toList_append,Option.toArray_some,Option.toArray_none,Bool.and_self,ty,zck,zbv,zcd,putS,zds,e0,ej,hx1,q1,q2,q3,r1,r2,r3,r4,r5,r6,zbr,tk,lt22,cst22,Int.reduceEq,Int.toNat_natCast,Int.cast_ofNat_Int]
       repeat (refine And.intro (by first | decide | omega | (unfold top; omega) | (unfold top; simp only [List.length_cons,List.length_nil]; omega)) ?_)
       refine ⟨L.length - (j + 1),_,by omega,zaf [0,1,2,3,4,174] rfl rfl rfl ?_ ?_,j + 1,rfl,by omega,rfl⟩
       · simp only [ssT,zai,zaj,setSlot,gOf,AV.ren,renL,Blk.ren,Ax.look,Ax.put,reduceCtorEq,↓reduceIte,Nat.reduceEqDiff,Nat.reduceLT,Nat.reduceAdd,List.length_append,List.length_cons,List.length_nil,Option.some.injEq,htake]; try simp
         try exact Nat.add_right_comm _ _ _
       · simp only [ssT,zai,zaj,setSlot,gOf,AV.ren,renL,Blk.ren,Ax.look,Ax.put,reduceCtorEq,↓reduceIte,Nat.reduceEqDiff,Nat.reduceLT,Nat.reduceAdd,List.length_append,List.length_cons,List.length_nil,Option.some.injEq,htake]; try simp
     · have hP2 : F 105 = pq i := by rw [← hP]; rfl
       rw [hP2] at hn htake
       simp only [go_sem,zab,Nat.reduceAdd,Nat.reduceSub,Nat.reduceMul,Int.reduceToNat,reduceCtorEq,↓reduceIte,Int.reducePow,Nat.reducePow,Int.reduceMod,Nat.reduceLeDiff,Int.reduceLE,Int.reduceNe,Int.reduceEq,Nat.reduceEqDiff,Nat.reduceLT,Nat.reduceBEq,List.map_cons,List.map_nil,List.toList_toArray,Array.toList_append,Option.toArray_some,Option.toArray_none,Bool.and_self,ty,zck,zbv,zcd,putS,zds,e0,ej,hx1,q1,q2,q3,r1,r2,r3,r4,r5,r6,zbr,tk,lt22,cst22,Int.reduceEq,Int.toNat_natCast,Int.cast_ofNat_Int]
       repeat (refine And.intro (by first | decide | omega | (unfold top; omega) | (unfold top; simp only [List.length_cons,List.length_nil]; omega)) ?_)
       refine ⟨L.length - (j + 1),_,by omega,zaf [0,1,2,3,4,126] rfl rfl rfl ?_ ?_,j + 1,rfl,by omega,rfl⟩
       · simp only [ssT,zai,zaj,setSlot,gOf,AV.ren,renL,Blk.ren,Ax.look,Ax.put,reduceCtorEq,↓reduceIte,Nat.reduceEqDiff,Nat.reduceLT,Nat.reduceAdd,List.length_append,List.length_cons,List.length_nil,Option.some.injEq,htake]; try simp
         try exact Nat.add_right_comm _ _ _
       · simp only [ssT,zai,zaj,setSlot,gOf,AV.ren,renL,Blk.ren,Ax.look,Ax.put,reduceCtorEq,↓reduceIte,Nat.reduceEqDiff,Nat.reduceLT,Nat.reduceAdd,List.length_append,List.length_cons,List.length_nil,Option.some.injEq,htake]; try simp
     · have hP2 : F 112 = pq p := by rw [← hP]; rfl
       rw [hP2] at hn htake
       simp only [go_sem,zab,Nat.reduceAdd,Nat.reduceSub,Nat.reduceMul,Int.reduceToNat,reduceCtorEq,↓reduceIte,Int.reducePow,Nat.reducePow,Int.reduceMod,Nat.reduceLeDiff,Int.reduceLE,Int.reduceNe,Int.reduceEq,Nat.reduceEqDiff,Nat.reduceLT,Nat.reduceBEq,List.map_cons,List.map_nil,List.toList_toArray,Array.toList_append,Option.toArray_some,Option.toArray_none,Bool.and_self,ty,zck,zbv,zcd,putS,zds,e0,ej,hx1,q1,q2,q3,r1,r2,r3,r4,r5,r6,zbr,tk,lt22,cst22,Int.reduceEq,Int.toNat_natCast,Int.cast_ofNat_Int]
       repeat (refine And.intro (by first | decide | omega | (unfold top; omega) | (unfold top; simp only [List.length_cons,List.length_nil]; omega)) ?_)
       refine ⟨L.length - (j + 1),_,by omega,zaf [0,1,2,3,4,142] rfl rfl rfl ?_ ?_,j + 1,rfl,by omega,rfl⟩
       · simp only [ssT,zai,zaj,setSlot,gOf,AV.ren,renL,Blk.ren,Ax.look,Ax.put,reduceCtorEq,↓reduceIte,Nat.reduceEqDiff,Nat.reduceLT,Nat.reduceAdd,List.length_append,List.length_cons,List.length_nil,Option.some.injEq,htake]; try simp
         try exact Nat.add_right_comm _ _ _
       · simp only [ssT,zai,zaj,setSlot,gOf,AV.ren,renL,Blk.ren,Ax.look,Ax.put,reduceCtorEq,↓reduceIte,Nat.reduceEqDiff,Nat.reduceLT,Nat.reduceAdd,List.length_append,List.length_cons,List.length_nil,Option.some.injEq,htake]; try simp
     · have hP2 : F 111 = pq o := by rw [← hP]; rfl
       rw [hP2] at hn htake
       simp only [go_sem,zab,Nat.reduceAdd,Nat.reduceSub,Nat.reduceMul,Int.reduceToNat,reduceCtorEq,↓reduceIte,Int.reducePow,Nat.reducePow,Int.reduceMod,Nat.reduceLeDiff,Int.reduceLE,Int.reduceNe,Int.reduceEq,Nat.reduceEqDiff,Nat.reduceLT,Nat.reduceBEq,List.map_cons,List.map_nil,List.toList_toArray,Array.toList_append,Option.toArray_some,Option.toArray_none,Bool.and_self,ty,zck,zbv,zcd,putS,zds,e0,ej,hx1,q1,q2,q3,r1,r2,r3,r4,r5,r6,zbr,tk,lt22,cst22,Int.reduceEq,Int.toNat_natCast,Int.cast_ofNat_Int]
       repeat (refine And.intro (by first | decide | omega | (unfold top; omega) | (unfold top; simp only [List.length_cons,List.length_nil]; omega)) ?_)
       refine ⟨L.length - (j + 1),_,by omega,zaf [0,1,2,3,4,190] rfl rfl rfl ?_ ?_,j + 1,rfl,by omega,rfl⟩
       · simp only [ssT,zai,zaj,setSlot,gOf,AV.ren,renL,Blk.ren,Ax.look,Ax.put,reduceCtorEq,↓reduceIte,Nat.reduceEqDiff,Nat.reduceLT,Nat.reduceAdd,List.length_append,List.length_cons,List.length_nil,Option.some.injEq,htake]; try simp
         try exact Nat.add_right_comm _ _ _
       · simp only [ssT,zai,zaj,setSlot,gOf,AV.ren,renL,Blk.ren,Ax.look,Ax.put,reduceCtorEq,↓reduceIte,Nat.reduceEqDiff,Nat.reduceLT,Nat.reduceAdd,List.length_append,List.length_cons,List.length_nil,Option.some.injEq,htake]; try simp
     · have hP2 : F 109 = pq m := by rw [← hP]; rfl
       rw [hP2] at hn htake
       simp only [go_sem,zab,Nat.reduceAdd,Nat.reduceSub,Nat.reduceMul,Int.reduceToNat,reduceCtorEq,↓reduceIte,Int.reducePow,Nat.reducePow,Int.reduceMod,Nat.reduceLeDiff,Int.reduceLE,Int.reduceNe,Int.reduceEq,Nat.reduceEqDiff,Nat.reduceLT,Nat.reduceBEq,List.map_cons,List.map_nil,List.toList_toArray,Array.toList_append,Option.toArray_some,Option.toArray_none,Bool.and_self,ty,zck,zbv,zcd,putS,zds,e0,ej,hx1,q1,q2,q3,r1,r2,r3,r4,r5,r6,zbr,tk,lt22,cst22,Int.reduceEq,Int.toNat_natCast,Int.cast_ofNat_Int]
       repeat (refine And.intro (by first | decide | omega | (unfold top; omega) | (unfold top; simp only [List.length_cons,List.length_nil]; omega)) ?_)
       refine ⟨L.length - (j + 1),_,by omega,zaf [0,1,2,3,4,206] rfl rfl rfl ?_ ?_,j + 1,rfl,by omega,rfl⟩
       · simp only [ssT,zai,zaj,setSlot,gOf,AV.ren,renL,Blk.ren,Ax.look,Ax.put,reduceCtorEq,↓reduceIte,Nat.reduceEqDiff,Nat.reduceLT,Nat.reduceAdd,List.length_append,List.length_cons,List.length_nil,Option.some.injEq,htake]; try simp
         try exact Nat.add_right_comm _ _ _
       · simp only [ssT,zai,zaj,setSlot,gOf,AV.ren,renL,Blk.ren,Ax.look,Ax.put,reduceCtorEq,↓reduceIte,Nat.reduceEqDiff,Nat.reduceLT,Nat.reduceAdd,List.length_append,List.length_cons,List.length_nil,Option.some.injEq,htake]; try simp
     · have hP2 : F 119 = pq w := by rw [← hP]; rfl
       rw [hP2] at hn htake
       simp only [go_sem,zab,Nat.reduceAdd,Nat.reduceSub,Nat.reduceMul,Int.reduceToNat,reduceCtorEq,↓reduceIte,Int.reducePow,Nat.reducePow,Int.reduceMod,Nat.reduceLeDiff,Int.reduceLE,Int.reduceNe,Int.reduceEq,Nat.reduceEqDiff,Nat.reduceLT,Nat.reduceBEq,List.map_cons,List.map_nil,List.toList_toArray,Array.toList_append,Option.toArray_some,Option.toArray_none,Bool.and_self,ty,zck,zbv,zcd,putS,zds,e0,ej,hx1,q1,q2,q3,r1,r2,r3,r4,r5,r6,zbr,tk,lt22,cst22,Int.reduceEq,Int.toNat_natCast,Int.cast_ofNat_Int]
       repeat (refine And.intro (by first | decide | omega | (unfold top; omega) | (unfold top; simp only [List.length_cons,List.length_nil]; omega)) ?_)
       refine ⟨L.length - (j + 1),_,by omega,zaf [0,1,2,3,4,222] rfl rfl rfl ?_ ?_,j + 1,rfl,by omega,rfl⟩
       · simp only [ssT,zai,zaj,setSlot,gOf,AV.ren,renL,Blk.ren,Ax.look,Ax.put,reduceCtorEq,↓reduceIte,Nat.reduceEqDiff,Nat.reduceLT,Nat.reduceAdd,List.length_append,List.length_cons,List.length_nil,Option.some.injEq,htake]; try simp
         try exact Nat.add_right_comm _ _ _
       · simp only [ssT,zai,zaj,setSlot,gOf,AV.ren,renL,Blk.ren,Ax.look,Ax.put,reduceCtorEq,↓reduceIte,Nat.reduceEqDiff,Nat.reduceLT,Nat.reduceAdd,List.length_append,List.length_cons,List.length_nil,Option.some.injEq,htake]; try simp
     · have hP2 : F 110 = pq n := by rw [← hP]; rfl
       rw [hP2] at hn htake
       simp only [go_sem,zab,Nat.reduceAdd,Nat.reduceSub,Nat.reduceMul,Int.reduceToNat,reduceCtorEq,↓reduceIte,Int.reducePow,Nat.reducePow,Int.reduceMod,Nat.reduceLeDiff,Int.reduceLE,Int.reduceNe,Int.reduceEq,Nat.reduceEqDiff,Nat.reduceLT,Nat.reduceBEq,List.map_cons,List.map_nil,List.toList_toArray,Array.toList_append,Option.toArray_some,Option.toArray_none,Bool.and_self,ty,zck,zbv,zcd,putS,zds,e0,ej,hx1,q1,q2,q3,r1,r2,r3,r4,r5,r6,zbr,tk,lt22,cst22,Int.reduceEq,Int.toNat_natCast,Int.cast_ofNat_Int]
       repeat (refine And.intro (by first | decide | omega | (unfold top; omega) | (unfold top; simp only [List.length_cons,List.length_nil]; omega)) ?_)
       refine ⟨L.length - (j + 1),_,by omega,zaf [0,1,2,3,4,270] rfl rfl rfl ?_ ?_,j + 1,rfl,by omega,rfl⟩
       · simp only [ssT,zai,zaj,setSlot,gOf,AV.ren,renL,Blk.ren,Ax.look,Ax.put,reduceCtorEq,↓reduceIte,Nat.reduceEqDiff,Nat.reduceLT,Nat.reduceAdd,List.length_append,List.length_cons,List.length_nil,Option.some.injEq,htake]; try simp
         try exact Nat.add_right_comm _ _ _
       · simp only [ssT,zai,zaj,setSlot,gOf,AV.ren,renL,Blk.ren,Ax.look,Ax.put,reduceCtorEq,↓reduceIte,Nat.reduceEqDiff,Nat.reduceLT,Nat.reduceAdd,List.length_append,List.length_cons,List.length_nil,Option.some.injEq,htake]; try simp
   · obtain rfl : j = L.length := by omega
     have e0 : decide ((L.length : Int) < (L.length : Int)) = false := decide_eq_false (by omega)
     rw [List.take_length]
     simp only [go_sem,zab,Nat.reduceAdd,Nat.reduceSub,Nat.reduceMul,Int.reduceToNat,reduceCtorEq,↓reduceIte,Int.reducePow,Nat.reducePow,Int.reduceMod,Nat.reduceLeDiff,Int.reduceLE,Int.reduceNe,Int.reduceEq,Nat.reduceEqDiff,Nat.reduceLT,Nat.reduceBEq,List.map_cons,List.map_nil,List.toList_toArray,Array.toList_append,Option.toArray_some,Option.toArray_none,Bool.and_self,ty,zck,zbv,e0]
     refine ⟨_,Weak.refl _,?_⟩
     simp only [go_sem,zab,Nat.reduceAdd,Nat.reduceSub,Nat.reduceMul,Int.reduceToNat,reduceCtorEq,↓reduceIte,Int.reducePow,Nat.reducePow,Int.reduceMod,Nat.reduceLeDiff,Int.reduceLE,Int.reduceNe,Int.reduceEq,Nat.reduceEqDiff,Nat.reduceLT,Nat.reduceBEq,List.map_cons,List.map_nil,List.toList_toArray,Array.toList_append,Option.toArray_some,Option.toArray_none,Bool.and_self,ty,zck,zbv]
     exact zas 2 3 (by decide) rfl rfl rfl rfl rfl rfl
set_option maxHeartbeats 4000000 in
theorem rputQ_sound : zaq Try.prog 25 putQS := by
 refine zbx (S := zck) (SO := noO) (T := ty) zau ty_ok SrputQ_ok noO_ok Try.func25 (c := Try.f25.body.getD .skip) (by kernel_rfl) (fun xs pins hp _ => ?_)
 unfold putQS at hp ⊢
 split at hp
 · rename_i k t i p c f o m w g mb n b1 b2 b3 b4 b5 xs fl _
   obtain ⟨hk0,hk1,hq,hr,h40,rs,rfl⟩ := hp
   rw [zag]
   refine ⟨by simp,zbv,by kernel_rfl,?_⟩
   by_cases hc : chkQ k t i p c f o m w g mb n b1 b2 b3 b4 b5 rs = 0
   · have hB : putQ k t i p c f o m w g mb n b1 b2 b3 b4 b5 rs = layQ k t i p c f o m w g mb n b1 b2 b3 b4 b5 rs := if_pos hc
     have hk := (chkQ_ok rs hc).1
     rw [hB,hc]
     by_cases hk3 : k = 3
     · subst hk3
       exact rputQ_k3 t i p c f o m w g mb n b1 b2 b3 b4 b5 rs fl hc hq hr h40
     · exact rputQ_loop k hk0 hk hk3 t i p c f o m w g mb n b1 b2 b3 b4 b5 rs fl hc hq hr h40
   · have hB : putQ k t i p c f o m w g mb n b1 b2 b3 b4 b5 rs = [] := if_neg hc
     rw [hB]
     have hL : (rs.map rv).length ≤ 9223372036854775807 := by omega
     have hmr := zag rs
     have hex : ∃ qs : List Rec,rs.map rv = qs.map rv := ⟨rs,rfl⟩
     unfold Try.f25
     by_cases hk : 11 < k
     · have d1 := decide_eq_true hk
       have hv : chkQ k t i p c f o m w g mb n b1 b2 b3 b4 b5 rs = 22 := if_pos hk
       rw [hv]
       simp only [go_sem,zab,Nat.reduceAdd,Nat.reduceSub,Nat.reduceMul,Int.reduceToNat,reduceCtorEq,↓reduceIte,Int.reducePow,Nat.reducePow,Int.reduceMod,Nat.reduceLeDiff,Int.reduceLE,Int.reduceNe,Int.reduceEq,Nat.reduceEqDiff,Nat.reduceLT,Nat.reduceBEq,List.map_cons,List.map_nil,List.toList_toArray,Array.toList_append,Option.toArray_some,Option.toArray_none,Bool.and_self,ty,zck,zbv,d1]
       exact zat 2 3 (by decide) rfl rfl rfl rfl
     have d1 := decide_eq_false hk
     have hk2 : k ≤ 11 := by omega
     obtain ⟨t',i',p',c',f',o',m',w',g',mb',n',b1',b2',b3',b4',b5',ys,fm,hO,hY1,hY2,hS⟩ := only_told k t i p c f o m w g mb n b1 b2 b3 b4 b5 rs fl hL
     have hv1 : ¬ zbu k t i p c f o m w g mb n b1 b2 b3 b4 b5 rs = true → chkQ k t i p c f o m w g mb n b1 b2 b3 b4 b5 rs = 4 := fun h => by unfold chkQ; rw [if_neg hk,if_pos (by simpa using h)]
     have hv2 : zbu k t i p c f o m w g mb n b1 b2 b3 b4 b5 rs = true → zeo t g mb → chkQ k t i p c f o m w g mb n b1 b2 b3 b4 b5 rs = 5 := fun h h2 => by unfold chkQ; rw [if_neg hk,if_neg (by rw [h]; decide),if_pos h2]
     have hv3 : zbu k t i p c f o m w g mb n b1 b2 b3 b4 b5 rs = true → ¬ zeo t g mb → k ≠ 3 → chkQ k t i p c f o m w g mb n b1 b2 b3 b4 b5 rs = 0 := fun h h2 h3 => by unfold chkQ; rw [if_neg hk,if_neg (by rw [h]; decide),if_neg h2,if_pos h3]
     have hv4 : zbu k t i p c f o m w g mb n b1 b2 b3 b4 b5 rs = true → ¬ zeo t g mb → k = 3 → batE 0 b2 b3 b4 b5 rs ≠ 0 → chkQ k t i p c f o m w g mb n b1 b2 b3 b4 b5 rs = batE 0 b2 b3 b4 b5 rs := fun h h2 h3 h4 => by unfold chkQ; rw [if_neg hk,if_neg (by rw [h]; decide),if_neg h2,if_neg (fun g => g h3),if_pos h4]
     have hv5 : zbu k t i p c f o m w g mb n b1 b2 b3 b4 b5 rs = true → ¬ zeo t g mb → k = 3 → batE 0 b2 b3 b4 b5 rs = 0 → b1 ≠ 0 → chkQ k t i p c f o m w g mb n b1 b2 b3 b4 b5 rs = 4 := fun h h2 h3 h4 h5 => by
       unfold chkQ; rw [if_neg hk,if_neg (by rw [h]; decide),if_neg h2,if_neg (fun g => g h3),if_neg (fun g => g h4),if_pos h5]
     have hv6 : zbu k t i p c f o m w g mb n b1 b2 b3 b4 b5 rs = true → ¬ zeo t g mb → k = 3 → batE 0 b2 b3 b4 b5 rs = 0 → b1 = 0 → chkQ k t i p c f o m w g mb n b1 b2 b3 b4 b5 rs = 0 := fun h h2 h3 h4 h5 => by
       unfold chkQ; rw [if_neg hk,if_neg (by rw [h]; decide),if_neg h2,if_neg (fun g => g h3),if_neg (fun g => g h4),if_neg (fun g => g h5)]
     obtain ⟨V,hV⟩ : ∃ x,chkQ k t i p c f o m w g mb n b1 b2 b3 b4 b5 rs = x := ⟨_,rfl⟩
     obtain ⟨S,hSS⟩ : ∃ x,zbu k t i p c f o m w g mb n b1 b2 b3 b4 b5 rs = x := ⟨_,rfl⟩
     rw [hSS] at hS hv1 hv2 hv3 hv4 hv5 hv6
     rw [hV] at hv1 hv2 hv3 hv4 hv5 hv6 hc ⊢
     cases S with
     | false =>
       rw [hv1 (by decide)]
       simp only [go_sem,zab,Nat.reduceAdd,Nat.reduceSub,Nat.reduceMul,Int.reduceToNat,reduceCtorEq,↓reduceIte,Int.reducePow,Nat.reducePow,Int.reduceMod,Nat.reduceLeDiff,Int.reduceLE,Int.reduceNe,Int.reduceEq,Nat.reduceEqDiff,Nat.reduceLT,Nat.reduceBEq,List.map_cons,List.map_nil,List.toList_toArray,Array.toList_append,Option.toArray_some,Option.toArray_none,Bool.and_self,ty,zck,zbv,zcy,sreqS,d1,hk0,hk2,hO,hL,hex,hmr,hY1,hY2,hS]
       exact zat 2 3 (by decide) rfl rfl rfl rfl
     | true =>
       rcases long_cases t g mb with D | D | D | D
       rotate_right 1
       · have hnl : ¬ zeo t g mb := D.2.2.2
         by_cases hk3 : k = 3
         · have d2 := decide_eq_true hk3
           by_cases he : batE 0 b2 b3 b4 b5 rs = 0
           · by_cases hb : b1 = 0
             · exact (hc (hv6 rfl hnl hk3 he hb)).elim
             · have d4 := decide_eq_false hb
               rw [hv5 rfl hnl hk3 he hb]
               simp only [go_sem,zab,Nat.reduceAdd,Nat.reduceSub,Nat.reduceMul,Int.reduceToNat,reduceCtorEq,↓reduceIte,Int.reducePow,Nat.reducePow,Int.reduceMod,Nat.reduceLeDiff,Int.reduceLE,Int.reduceNe,Int.reduceEq,Nat.reduceEqDiff,Nat.reduceLT,Nat.reduceBEq,List.map_cons,List.map_nil,List.toList_toArray,Array.toList_append,Option.toArray_some,Option.toArray_none,Bool.and_self,ty,zck,zbv,zcy,sreqS,rputS4,d1,d2,d4,hk0,hk2,hO,hL,h40,hex,hmr,hY1,hY2,hS,D,he]
               exact zat 2 3 (by decide) rfl rfl rfl rfl
           · have d3 := decide_eq_false he
             rw [hv4 rfl hnl hk3 he]
             simp only [go_sem,zab,Nat.reduceAdd,Nat.reduceSub,Nat.reduceMul,Int.reduceToNat,reduceCtorEq,↓reduceIte,Int.reducePow,Nat.reducePow,Int.reduceMod,Nat.reduceLeDiff,Int.reduceLE,Int.reduceNe,Int.reduceEq,Nat.reduceEqDiff,Nat.reduceLT,Nat.reduceBEq,List.map_cons,List.map_nil,List.toList_toArray,Array.toList_append,Option.toArray_some,Option.toArray_none,Bool.and_self,ty,zck,zbv,zcy,sreqS,rputS4,d1,d2,d3,hk0,hk2,hO,hL,h40,hex,hmr,hY1,hY2,hS,D]
             exact zat 2 3 (by decide) rfl rfl rfl rfl
         · exact (hc (hv3 rfl hnl hk3)).elim
       all_goals
         rw [hv2 rfl (by first | exact D.2 | exact D.2.2 | exact D.2.2.2)]
         simp only [go_sem,zab,Nat.reduceAdd,Nat.reduceSub,Nat.reduceMul,Int.reduceToNat,reduceCtorEq,↓reduceIte,Int.reducePow,Nat.reducePow,Int.reduceMod,Nat.reduceLeDiff,Int.reduceLE,Int.reduceNe,Int.reduceEq,Nat.reduceEqDiff,Nat.reduceLT,Nat.reduceBEq,List.map_cons,List.map_nil,List.toList_toArray,Array.toList_append,Option.toArray_some,Option.toArray_none,Bool.and_self,ty,zck,zbv,zcy,sreqS,d1,hk0,hk2,hO,hL,hex,hmr,hY1,hY2,hS,D]
         exact zat 2 3 (by decide) rfl rfl rfl rfl
 · exact hp.elim
end
end Go.Proofs.Ytihbcgbmlecpbaa
namespace Go.Proofs.Ytihbcgbmlecpbaa
open Ax
def SrsameT (f : FuncId) : Option zak :=
 match f with
 | 29 => some sreqS
 | _ => none
theorem SrsameT_ok : Fns Try.prog SrsameT := by
 intro f s h
 unfold SrsameT at h
 split at h
 · injection h with h; subst h; exact ⟨⟨_,Try.func29,by kernel_rfl,by kernel_rfl⟩,rsreq22_sound⟩
 · cases h
section
set_option maxRecDepth 100000
set_option maxHeartbeats 4000000 in
def sameTT : zak
 | [.agg [.w (.int .u8 k),.w (.int .u8 qk),.str t,.w (.int .i64 i),.w (.int .i64 p),.w (.bool c),.w (.bool f),.w (.int .i64 o),.w (.int .i64 m),.w (.int .i64 w),.str g,.str mb,.w (.int .i64 n),.w (.int .i64 b1),.w (.int .i64 b2),.w (.int .i64 b3),.w (.int .i64 b4),.w (.int .i64 b5),.sg 6 xs fl,.w (.int .i64 N),.w (.bool D),.sb ft ff],.agg [.w (.int .u8 k'),.w (.int .u8 qk'),.str t',.w (.int .i64 i'),.w (.int .i64 p'),.w (.bool c'),.w (.bool f'),.w (.int .i64 o'),.w (.int .i64 m'),.w (.int .i64 w'),.str g',.str mb',.w (.int .i64 n'),.w (.int .i64 b1'),.w (.int .i64 b2'),.w (.int .i64 b3'),.w (.int .i64 b4'),.w (.int .i64 b5'),.sg 6 ys fm,.w (.int .i64 N'),.w (.bool D'),.sb ft' fg]],[] =>
     ⟨(xs.length ≤ 9223372036854775807 ∧ ∃ rs : List Rec,xs = rs.map rv) ∧ ys.length ≤ 9223372036854775807 ∧ ∃ qs : List Rec,ys = qs.map rv,.w (.bool (eqT k N D ft k' N' D' ft' (eqQ qk t i p c f o m w g mb n qk' t' i' p' c' f' o' m' w' g' mb' n' (zbw b1 b2 b3 b4 b5 (xs.map rrec) b1' b2' b3' b4' b5' (ys.map rrec))))),[]⟩
 | _,_ => zbd
theorem sameTT_eq : sameTT = sameTS := rfl
set_option maxHeartbeats 16000000 in
theorem rsameTT_sound : zaq Try.prog 11 sameTT := by
 refine zal (S := SrsameT) (T := tyF) zau tyF_ok SrsameT_ok Try.func11 (c := Try.f11.body.getD .skip) (by kernel_rfl) (by kernel_rfl) (fun xs pins hp _ => ?_)
 unfold sameTT at hp ⊢
 split at hp
 · rename_i k qk t i p c f o m w g mb n b1 b2 b3 b4 b5 xs fl N D ft ff k' qk' t' i' p' c' f' o' m' w' g' mb' n' b1' b2' b3' b4' b5' ys fm N' D' ft' fg _
   obtain ⟨⟨hL,rs,rfl⟩,hL',qs,rfl⟩ := hp
   refine ⟨by simp,?_⟩
   have hex : ∃ rr : List Rec,rs.map rv = rr.map rv := ⟨rs,rfl⟩
   have hex' : ∃ rr : List Rec,qs.map rv = rr.map rv := ⟨qs,rfl⟩
   obtain ⟨B,hB⟩ : ∃ B,eqQ qk t i p c f o m w g mb n qk' t' i' p' c' f' o' m' w' g' mb' n' (zbw b1 b2 b3 b4 b5 ((rs.map rv).map rrec) b1' b2' b3' b4' b5' ((qs.map rv).map rrec)) = B := ⟨_,rfl⟩
   unfold Try.f11
   cases hk : decide (k = k') <;> cases B <;> cases hN : decide (N = N') <;> cases hD : (D == D')
   all_goals
     simp only [go_sem,zaa,Nat.reduceAdd,Nat.reduceSub,Nat.reduceMul,Int.reduceToNat,reduceCtorEq,↓reduceIte,Int.reducePow,Nat.reducePow,Int.reduceMod,Nat.reduceLeDiff,Int.reduceLE,Int.reduceNe,Int.reduceEq,Nat.reduceEqDiff,Nat.reduceLT,Nat.reduceBEq,tyF,zek,ty,SrsameT,sreqS,eqT,hL,hL',hex,hex',hB,hk,hN,hD,Bool.true_and,Bool.false_and]
     try exact zba 4 rfl
 · exact hp.elim
theorem rsameT_sound : zaq Try.prog 11 sameTS := sameTT_eq ▸ rsameTT_sound
end
end Go.Proofs.Ytihbcgbmlecpbaa
namespace Go.Proofs.Ytihbcgbmlecpbaa
open Ax
section
set_option maxRecDepth 100000
set_option maxHeartbeats 16000000 in
theorem ronlyT_sound : zaq Try.prog 24 zdc := by
 refine zev (S := noS) (T := ty) (pl := justPl) zau ty_ok zbs Try.func24 (c := Try.f24.body.getD .skip) (by kernel_rfl) (by kernel_rfl) (fun xs pins hp _ => ?_)
 unfold zdc at hp ⊢
 split at hp
 · rename_i k qk t i p c f o m w g mb n b1 b2 b3 b4 b5 xs fl N D ft ff _
   have hk : 0 ≤ k ∧ k ≤ 5 := hp
   refine ⟨by simp,?_⟩
   rcases kind_le5 k hk with rfl | rfl | rfl | rfl | rfl | rfl
   all_goals
     unfold Try.f24
     simp only [go_sem,zac,Nat.reduceAdd,Nat.reduceSub,Nat.reduceMul,Int.reduceToNat,reduceCtorEq,↓reduceIte,Int.reducePow,Nat.reducePow,Int.reduceMod,Nat.reduceLeDiff,Int.reduceLE,Int.reduceNe,Int.reduceEq,Nat.reduceEqDiff,Nat.reduceLT,Nat.reduceBEq,List.map_cons,List.map_nil,List.toList_toArray,Array.toList_append,Option.toArray_some,Option.toArray_none,Bool.and_self,ty,noS,justPl,fillS,Int.reduceEq,or_self,or_false,false_or,or_true,true_or,if_true,if_false]
     refine ⟨_,Weak.refl _,?_⟩
     simp only [go_sem,zac,Nat.reduceAdd,Nat.reduceSub,Nat.reduceMul,Int.reduceToNat,reduceCtorEq,↓reduceIte,Int.reducePow,Nat.reducePow,Int.reduceMod,Nat.reduceLeDiff,Int.reduceLE,Int.reduceNe,Int.reduceEq,Nat.reduceEqDiff,Nat.reduceLT,Nat.reduceBEq,List.map_cons,List.map_nil,List.toList_toArray,Array.toList_append,Option.toArray_some,Option.toArray_none,Bool.and_self,ty,onlyT,Int.reduceEq,or_self,or_false,false_or,or_true,true_or,if_true,if_false]
 · exact hp.elim
end
end Go.Proofs.Ytihbcgbmlecpbaa
namespace Go.Proofs.Ytihbcgbmlecpbaa
open Ax
theorem only_ft {k : Int} {qk : Int} {t : List UInt8} {i p : Int} {c f : Bool} {o m w : Int} {g mb : List UInt8} {n b1 b2 b3 b4 b5 : Int} {rs : List Rec} {N : Int} {D : Bool} {ft : List UInt8} (h : zcr k qk t i p c f o m w g mb n b1 b2 b3 b4 b5 rs N D ft = true) : k ≠ 4 → ft = [] := by
 intro hk
 unfold zcr eqT at h
 rw [if_neg hk] at h
 simp only [Bool.and_eq_true,decide_eq_true_eq] at h
 exact h.2.2.2.2
def SrputT (f : FuncId) : Option zak :=
 match f with
 | 24 => some zdc
 | 11 => some sameTS
 | 25 => some putQS
 | 26 => some putS
 | _ => none
theorem SrputT_ok : Fns Try.prog SrputT := by
 intro f s h
 unfold SrputT at h
 split at h
 · injection h with h; subst h; exact ⟨⟨_,Try.func24,by kernel_rfl,by kernel_rfl⟩,ronlyT_sound⟩
 · injection h with h; subst h; exact ⟨⟨_,Try.func11,by kernel_rfl,by kernel_rfl⟩,rsameT_sound⟩
 · injection h with h; subst h; exact ⟨⟨_,Try.func25,by kernel_rfl,by kernel_rfl⟩,rputQ_sound⟩
 · injection h with h; subst h; exact ⟨⟨_,Try.func26,by kernel_rfl,by kernel_rfl⟩,rput_sound⟩
 · cases h
def rputTPl : XPlan := fun id => match id with
 | 3 => .prs [(0,2)]
 | _ => .std
section
set_option maxRecDepth 100000
set_option maxHeartbeats 16000000 in
theorem rputT_sound : zaq Try.prog 9 zcs := by
 refine zbx (S := SrputT) (SO := noO) (T := ty) zau ty_ok SrputT_ok noO_ok Try.func9 (c := Try.f9.body.getD .skip) (by kernel_rfl) (fun xs pins hp _ => ?_)
 unfold zcs at hp ⊢
 split at hp
 · rename_i k qk t i p c f o m w g mb n b1 b2 b3 b4 b5 xs fl N D ft ff _
   obtain ⟨⟨hk0,hk1⟩,⟨hq0,hq1⟩,lq,iq,hN,hft,h40,rs,rfl⟩ := hp
   rw [zag]
   have hL : (rs.map rv).length ≤ 9223372036854775807 := by omega
   obtain ⟨qk',t',i',p',c',f',o',m',w',g',mb',n',b1',b2',b3',b4',b5',ys,fm,N',D',ft',fg,hO,hY1,hY2,hS⟩ := told27 k qk t i p c f o m w g mb n b1 b2 b3 b4 b5 rs N D ft fl ff hL
   have hmr := zag rs
   have hex : ∃ qs : List Rec,rs.map rv = qs.map rv := ⟨rs,rfl⟩
   have tk : ∀ l : List UInt8,List.take l.length l = l := fun l => List.take_length
   have hpl := zcf N hN
   have dz : decide ((64 : Int) < ((0 : Nat) : Int)) = false := by decide
   have hql := layQ_len qk t i p c f o m w g mb n b1 b2 b3 b4 b5 rs lq iq
   obtain ⟨n1,n2⟩ := hN
   refine ⟨by simp,rputTPl,by kernel_rfl,?_⟩
   unfold Try.f9
   by_cases hk : 5 < k
   · have hC := chkT_big k qk t i p c f o m w g mb n b1 b2 b3 b4 b5 rs N D ft hk
     have hB : putT k qk t i p c f o m w g mb n b1 b2 b3 b4 b5 rs N D ft = [] := if_neg (by rw [hC]; decide)
     have d1 : decide ((5 : Int) < k) = true := decide_eq_true hk
     rw [hB,hC]
     simp only [go_sem,zab,Nat.reduceAdd,Nat.reduceSub,Nat.reduceMul,Int.reduceToNat,reduceCtorEq,↓reduceIte,Int.reducePow,Nat.reducePow,Int.reduceMod,Nat.reduceLeDiff,Int.reduceLE,Int.reduceNe,Int.reduceEq,Nat.reduceEqDiff,Nat.reduceLT,Nat.reduceBEq,List.map_cons,List.map_nil,List.toList_toArray,Array.toList_append,Option.toArray_some,Option.toArray_none,Bool.and_self,ty,SrputT,noO,rputTPl,d1]
     exact zat 2 3 (by decide) rfl rfl rfl rfl
   have d1 : decide ((5 : Int) < k) = false := decide_eq_false hk
   have hk5 : k ≤ 5 := by omega
   cases hs : zcr k qk t i p c f o m w g mb n b1 b2 b3 b4 b5 rs N D ft with
   | false =>
     have hC := chkT_only k qk t i p c f o m w g mb n b1 b2 b3 b4 b5 rs N D ft hk hs
     have hB : putT k qk t i p c f o m w g mb n b1 b2 b3 b4 b5 rs N D ft = [] := if_neg (by rw [hC]; decide)
     rw [hs] at hS
     rw [hB,hC]
     simp only [go_sem,zab,Nat.reduceAdd,Nat.reduceSub,Nat.reduceMul,Int.reduceToNat,reduceCtorEq,↓reduceIte,Int.reducePow,Nat.reducePow,Int.reduceMod,Nat.reduceLeDiff,Int.reduceLE,Int.reduceNe,Int.reduceEq,Nat.reduceEqDiff,Nat.reduceLT,Nat.reduceBEq,List.map_cons,List.map_nil,List.toList_toArray,Array.toList_append,Option.toArray_some,Option.toArray_none,Bool.and_self,ty,SrputT,noO,rputTPl,zdc,zbc,d1,hk0,hk5,hO,hL,hex,hmr,hY1,hY2,hS]
     exact zat 2 3 (by decide) rfl rfl rfl rfl
   | true =>
     rw [hs] at hS
     by_cases hf : 64 < ft.length
     · have hC := chkT_long k qk t i p c f o m w g mb n b1 b2 b3 b4 b5 rs N D ft hk hs hf
       have hB : putT k qk t i p c f o m w g mb n b1 b2 b3 b4 b5 rs N D ft = [] := if_neg (by rw [hC]; decide)
       have d2 : decide ((64 : Int) < ft.length) = true := decide_eq_true (by omega)
       rw [hB,hC]
       simp only [go_sem,zab,Nat.reduceAdd,Nat.reduceSub,Nat.reduceMul,Int.reduceToNat,reduceCtorEq,↓reduceIte,Int.reducePow,Nat.reducePow,Int.reduceMod,Nat.reduceLeDiff,Int.reduceLE,Int.reduceNe,Int.reduceEq,Nat.reduceEqDiff,Nat.reduceLT,Nat.reduceBEq,List.map_cons,List.map_nil,List.toList_toArray,Array.toList_append,Option.toArray_some,Option.toArray_none,Bool.and_self,ty,SrputT,noO,rputTPl,zdc,zbc,d1,d2,dz,hk0,hk5,hO,hL,hex,hmr,hY1,hY2,hS]
       exact zat 2 3 (by decide) rfl rfl rfl rfl
     have d2 : decide ((64 : Int) < ft.length) = false := decide_eq_false (by omega)
     have hR := chkT_rest k qk t i p c f o m w g mb n b1 b2 b3 b4 b5 rs N D ft hk hs hf
     have hft0 := only_ft hs
     rcases kind_le5 k ⟨hk0,hk5⟩ with rfl | rfl | rfl | rfl | rfl | rfl
     · obtain rfl : ft = [] := hft0 (by decide)
       by_cases hq : chkQ qk t i p c f o m w g mb n b1 b2 b3 b4 b5 rs = 0
       · have hC : chkT 0 qk t i p c f o m w g mb n b1 b2 b3 b4 b5 rs N D [] = 0 := hR.trans hq
         have hB : putT 0 qk t i p c f o m w g mb n b1 b2 b3 b4 b5 rs N D [] = UInt8.ofNat 0 :: putQ qk t i p c f o m w g mb n b1 b2 b3 b4 b5 rs := by
           unfold putT; rw [if_pos hC]; unfold putQ; rw [if_pos hq]; rfl
         have hql' : (putQ qk t i p c f o m w g mb n b1 b2 b3 b4 b5 rs).length ≤ 6000100 := by unfold putQ; rw [if_pos hq]; exact hql
         have d3 : decide (chkQ qk t i p c f o m w g mb n b1 b2 b3 b4 b5 rs = 0) = true := decide_eq_true hq
         rw [hB,hC]
         simp only [go_sem,zab,Nat.reduceAdd,Nat.reduceSub,Nat.reduceMul,Int.reduceToNat,reduceCtorEq,↓reduceIte,Int.reducePow,Nat.reducePow,Int.reduceMod,Nat.reduceLeDiff,Int.reduceLE,Int.reduceNe,Int.reduceEq,Nat.reduceEqDiff,Nat.reduceLT,Nat.reduceBEq,List.map_cons,List.map_nil,List.toList_toArray,Array.toList_append,Option.toArray_some,Option.toArray_none,Bool.and_self,ty,SrputT,noO,rputTPl,zdc,zbc,putQS,d1,d2,dz,d3,hO,hL,h40,hex,hmr,hY1,hY2,hS,lq,iq,hq0,hq1,tk,Int.reduceEq,Int.reduceLT,Int.reduceLE,Nat.reduceEqDiff,or_self,or_false,false_or,or_true,true_or,if_true,if_false]
         repeat (refine And.intro (by first | omega | (unfold top; omega) | (unfold top; simp only [List.length_cons,List.length_nil]; omega) | decide) ?_)
         exact zas 2 3 (by decide) rfl rfl rfl (by simp; try omega) (by simp) rfl
       · have hC : chkT 0 qk t i p c f o m w g mb n b1 b2 b3 b4 b5 rs N D [] = chkQ qk t i p c f o m w g mb n b1 b2 b3 b4 b5 rs := hR
         have hB : putT 0 qk t i p c f o m w g mb n b1 b2 b3 b4 b5 rs N D [] = [] := if_neg (by rw [hC]; exact hq)
         have d3 : decide (chkQ qk t i p c f o m w g mb n b1 b2 b3 b4 b5 rs = 0) = false := decide_eq_false hq
         rw [hB,hC]
         simp only [go_sem,zab,Nat.reduceAdd,Nat.reduceSub,Nat.reduceMul,Int.reduceToNat,reduceCtorEq,↓reduceIte,Int.reducePow,Nat.reducePow,Int.reduceMod,Nat.reduceLeDiff,Int.reduceLE,Int.reduceNe,Int.reduceEq,Nat.reduceEqDiff,Nat.reduceLT,Nat.reduceBEq,List.map_cons,List.map_nil,List.toList_toArray,Array.toList_append,Option.toArray_some,Option.toArray_none,Bool.and_self,ty,SrputT,noO,rputTPl,zdc,zbc,putQS,d1,d2,dz,d3,hO,hL,h40,hex,hmr,hY1,hY2,hS,lq,iq,hq0,hq1,tk,Int.reduceEq,Int.reduceLT,Int.reduceLE,Nat.reduceEqDiff,or_self,or_false,false_or,or_true,true_or,if_true,if_false]
         exact zat 2 3 (by decide) rfl rfl rfl rfl
     · obtain rfl : ft = [] := hft0 (by decide)
       have hC : chkT 1 qk t i p c f o m w g mb n b1 b2 b3 b4 b5 rs N D [] = 0 := hR
       have hB : putT 1 qk t i p c f o m w g mb n b1 b2 b3 b4 b5 rs N D [] = UInt8.ofNat 1 :: pq N := by
         unfold putT; rw [if_pos hC]; rfl
       rw [hB,hC]
       simp only [go_sem,zab,Nat.reduceAdd,Nat.reduceSub,Nat.reduceMul,Int.reduceToNat,reduceCtorEq,↓reduceIte,Int.reducePow,Nat.reducePow,Int.reduceMod,Nat.reduceLeDiff,Int.reduceLE,Int.reduceNe,Int.reduceEq,Nat.reduceEqDiff,Nat.reduceLT,Nat.reduceBEq,List.map_cons,List.map_nil,List.toList_toArray,Array.toList_append,Option.toArray_some,Option.toArray_none,Bool.and_self,ty,SrputT,noO,rputTPl,zdc,zbc,putS,zbr,d1,d2,dz,hO,hL,h40,hex,hmr,hY1,hY2,hS,n1,n2,tk,Int.reduceEq,Int.reduceLT,Int.reduceLE,Nat.reduceEqDiff,or_self,or_false,false_or,or_true,true_or,if_true,if_false]
       repeat (refine And.intro (by first | omega | (unfold top; omega) | (unfold top; simp only [List.length_cons,List.length_nil,List.length_append]; omega) | decide) ?_)
       exact zas 2 3 (by decide) rfl rfl rfl (by simp; try omega) (by simp) rfl
     · obtain rfl : ft = [] := hft0 (by decide)
       have hC : chkT 2 qk t i p c f o m w g mb n b1 b2 b3 b4 b5 rs N D [] = 0 := hR
       have hB : putT 2 qk t i p c f o m w g mb n b1 b2 b3 b4 b5 rs N D [] = UInt8.ofNat 2 :: pq N := by
         unfold putT; rw [if_pos hC]; rfl
       rw [hB,hC]
       simp only [go_sem,zab,Nat.reduceAdd,Nat.reduceSub,Nat.reduceMul,Int.reduceToNat,reduceCtorEq,↓reduceIte,Int.reducePow,Nat.reducePow,Int.reduceMod,Nat.reduceLeDiff,Int.reduceLE,Int.reduceNe,Int.reduceEq,Nat.reduceEqDiff,Nat.reduceLT,Nat.reduceBEq,List.map_cons,List.map_nil,List.toList_toArray,Array.toList_append,Option.toArray_some,Option.toArray_none,Bool.and_self,ty,SrputT,noO,rputTPl,zdc,zbc,putS,zbr,d1,d2,dz,hO,hL,h40,hex,hmr,hY1,hY2,hS,n1,n2,tk,Int.reduceEq,Int.reduceLT,Int.reduceLE,Nat.reduceEqDiff,or_self,or_false,false_or,or_true,true_or,if_true,if_false]
       repeat (refine And.intro (by first | omega | (unfold top; omega) | (unfold top; simp only [List.length_cons,List.length_nil,List.length_append]; omega) | decide) ?_)
       exact zas 2 3 (by decide) rfl rfl rfl (by simp; try omega) (by simp) rfl
     · obtain rfl : ft = [] := hft0 (by decide)
       have hC : chkT 3 qk t i p c f o m w g mb n b1 b2 b3 b4 b5 rs N D [] = 0 := hR
       have hB : putT 3 qk t i p c f o m w g mb n b1 b2 b3 b4 b5 rs N D [] = UInt8.ofNat 3 :: (pq N ++ [UInt8.ofNat (bitN D).toNat]) := by
         unfold putT; rw [if_pos hC]; rfl
       rw [hB,hC]
       cases D
       all_goals
         simp only [go_sem,zab,Nat.reduceAdd,Nat.reduceSub,Nat.reduceMul,Int.reduceToNat,reduceCtorEq,↓reduceIte,Int.reducePow,Nat.reducePow,Int.reduceMod,Nat.reduceLeDiff,Int.reduceLE,Int.reduceNe,Int.reduceEq,Nat.reduceEqDiff,Nat.reduceLT,Nat.reduceBEq,List.map_cons,List.map_nil,List.toList_toArray,Array.toList_append,Option.toArray_some,Option.toArray_none,Bool.and_self,ty,SrputT,noO,rputTPl,zdc,zbc,putS,zbr,d1,d2,dz,bitN,Bool.false_eq_true,hO,hL,h40,hex,hmr,hY1,hY2,hS,n1,n2,tk,Int.reduceEq,Int.reduceLT,Int.reduceLE,Nat.reduceEqDiff,or_self,or_false,false_or,or_true,true_or,if_true,if_false]
         repeat (refine And.intro (by first | omega | (unfold top; omega) | (unfold top; simp only [List.length_cons,List.length_nil,List.length_append]; omega) | decide) ?_)
         first | (rw [show (pq N).length + 1 + 1 = (UInt8.ofNat 3 :: (pq N ++ [UInt8.ofNat 0])).length from by simp]; exact zas 2 3 (by decide) rfl rfl rfl (by simp; try omega) (by simp) rfl) | (rw [show (pq N).length + 1 + 1 = (UInt8.ofNat 3 :: (pq N ++ [UInt8.ofNat 1])).length from by simp]; exact zas 2 3 (by decide) rfl rfl rfl (by simp; try omega) (by simp) rfl)
     · have hC : chkT 4 qk t i p c f o m w g mb n b1 b2 b3 b4 b5 rs N D ft = 0 := hR
       have hB : putT 4 qk t i p c f o m w g mb n b1 b2 b3 b4 b5 rs N D ft = UInt8.ofNat 4 :: ft := by
         unfold putT; rw [if_pos hC]; rfl
       rw [hB,hC]
       simp only [go_sem,zab,Nat.reduceAdd,Nat.reduceSub,Nat.reduceMul,Int.reduceToNat,reduceCtorEq,↓reduceIte,Int.reducePow,Nat.reducePow,Int.reduceMod,Nat.reduceLeDiff,Int.reduceLE,Int.reduceNe,Int.reduceEq,Nat.reduceEqDiff,Nat.reduceLT,Nat.reduceBEq,List.map_cons,List.map_nil,List.toList_toArray,Array.toList_append,Option.toArray_some,Option.toArray_none,Bool.and_self,ty,SrputT,noO,rputTPl,zdc,zbc,putS,zbr,d1,d2,dz,hO,hL,h40,hex,hmr,hY1,hY2,hS,n1,n2,tk,Int.reduceEq,Int.reduceLT,Int.reduceLE,Nat.reduceEqDiff,or_self,or_false,false_or,or_true,true_or,if_true,if_false]
       repeat (refine And.intro (by first | omega | (unfold top; omega) | (unfold top; simp only [List.length_cons,List.length_nil,List.length_append]; omega) | decide) ?_)
       exact zas 2 3 (by decide) rfl rfl rfl (by simp; try omega) (by simp) rfl
     · obtain rfl : ft = [] := hft0 (by decide)
       have hC : chkT 5 qk t i p c f o m w g mb n b1 b2 b3 b4 b5 rs N D [] = 0 := hR
       have hB : putT 5 qk t i p c f o m w g mb n b1 b2 b3 b4 b5 rs N D [] = UInt8.ofNat 5 :: [] := by
         unfold putT; rw [if_pos hC]; rfl
       rw [hB,hC]
       simp only [go_sem,zab,Nat.reduceAdd,Nat.reduceSub,Nat.reduceMul,Int.reduceToNat,reduceCtorEq,↓reduceIte,Int.reducePow,Nat.reducePow,Int.reduceMod,Nat.reduceLeDiff,Int.reduceLE,Int.reduceNe,Int.reduceEq,Nat.reduceEqDiff,Nat.reduceLT,Nat.reduceBEq,List.map_cons,List.map_nil,List.toList_toArray,Array.toList_append,Option.toArray_some,Option.toArray_none,Bool.and_self,ty,SrputT,noO,rputTPl,zdc,zbc,putS,zbr,d1,d2,dz,hO,hL,h40,hex,hmr,hY1,hY2,hS,n1,n2,tk,Int.reduceEq,Int.reduceLT,Int.reduceLE,Nat.reduceEqDiff,or_self,or_false,false_or,or_true,true_or,if_true,if_false]
       repeat (refine And.intro (by first | omega | (unfold top; omega) | (unfold top; simp only [List.length_cons,List.length_nil,List.length_append]; omega) | decide) ?_)
       exact zas 2 3 (by decide) rfl rfl rfl (by simp; try omega) (by simp) rfl
 · exact hp.elim
end
end Go.Proofs.Ytihbcgbmlecpbaa
namespace Go.Proofs.Ytihbcgbmlecpbaa
open Ax
def SrputP (f : FuncId) : Option zak :=
 match f with
 | 9 => some zcs
 | 31 => some zcd
 | _ => none
theorem SrputP_ok : Fns Try.prog SrputP := by
 intro f s h
 unfold SrputP at h
 split at h
 · injection h with h; subst h; exact ⟨⟨_,Try.func9,by kernel_rfl,by kernel_rfl⟩,rputT_sound⟩
 · injection h with h; subst h; exact ⟨⟨_,Try.func31,by kernel_rfl,by kernel_rfl⟩,rtext_sound⟩
 · cases h
section
set_option maxRecDepth 100000
set_option maxHeartbeats 16000000 in
theorem rputP_sound : zaq Try.prog 14 putPS := by
 refine zbp (S := SrputP) (T := ty) zau ty_ok SrputP_ok Try.func14 (c := Try.f14.body.getD .skip) (by kernel_rfl) (by kernel_rfl) (fun xs pins hp _ => ?_)
 unfold putPS at hp ⊢
 split at hp
 · rename_i xs fl _
   obtain ⟨hL,es,rfl,hfit⟩ := hp
   rw [map_ust]
   refine ⟨by simp,?_⟩
   have hll : (es.map stP).length = es.length := by simp
   rw [hll] at hL
   have hlf : (es.map Prod.fst).length = es.length := by simp
   obtain ⟨l,hl⟩ : ∃ l,es.map Prod.fst = l := ⟨_,rfl⟩
   have tk : ∀ l : List UInt8,List.take l.length l = l := fun l => List.take_length
   rw [hl] at hlf ⊢
   unfold Try.f14
   by_cases h1000 : 1000 < l.length
   · have hC := chkP_long h1000
     have hB : putP l = [] := if_neg (by rw [hC]; decide)
     have d1 : decide ((1000 : Int) < es.length) = true := decide_eq_true (by omega)
     rw [hB,hC]
     simp only [go_sem,zaa,Nat.reduceAdd,Nat.reduceSub,Nat.reduceMul,Int.reduceToNat,reduceCtorEq,↓reduceIte,Int.reducePow,Nat.reducePow,Int.reduceMod,Nat.reduceLeDiff,Int.reduceLE,Int.reduceNe,Int.reduceEq,Nat.reduceEqDiff,Nat.reduceLT,Nat.reduceBEq,ty,SrputP,hll,d1]
     exact zat 2 3 (by decide) rfl rfl rfl rfl
   have d1 : decide ((1000 : Int) < es.length) = false := decide_eq_false (by omega)
   simp only [go_sem,zaa,Nat.reduceAdd,Nat.reduceSub,Nat.reduceMul,Int.reduceToNat,reduceCtorEq,↓reduceIte,Int.reducePow,Nat.reducePow,Int.reduceMod,Nat.reduceLeDiff,Int.reduceLE,Int.reduceNe,Int.reduceEq,Nat.reduceEqDiff,Nat.reduceLT,Nat.reduceBEq,ty,SrputP,hll,d1]
   refine zdh ⟨fun mm σ => ∃ j : Nat,mm = es.length - j ∧ j ≤ es.length ∧ errP (l.take j) = 0 ∧
     σ = ⟨[.sg 22 (es.map stP) fl,.junk,.sg 1 [] true,.w (.int .i64 0),.ms 4 1 0 (layP (l.take j)).length,.w (.int .i64 j),.junk,.junk,.junk,.junk,.junk,.junk,.junk,.junk,.junk,.junk,.junk,.junk,.junk,.junk,.junk,.junk,.junk,.junk,.junk,.junk,.junk,.junk,.junk,.junk,.junk,.junk,.junk,.junk,.junk,.junk,.junk],[(4,.b (layP (l.take j)))],5⟩,?_,?_⟩
   · refine ⟨_,_,(zer 4 1 (.b []) rfl (by exact trivial)).trans (zaf [0,1,2,3,60] rfl rfl rfl ?_ ?_),0,rfl,by omega,rfl,rfl⟩
     · simp only [ssT,zai,zaj,setSlot,gOf,AV.ren,renL,Blk.ren,Ax.look,Ax.put,reduceCtorEq,↓reduceIte,Nat.reduceEqDiff,Nat.reduceLT,Nat.reduceAdd,List.length_append,List.length_cons,List.length_nil,Option.some.injEq]; try simp
       try rfl
     · simp only [ssT,zai,zaj,setSlot,gOf,AV.ren,renL,Blk.ren,Ax.look,Ax.put,reduceCtorEq,↓reduceIte,Nat.reduceEqDiff,Nat.reduceLT,Nat.reduceAdd,List.length_append,List.length_cons,List.length_nil,Option.some.injEq]; try simp
       try rfl
   · rintro m' σ ⟨j,rfl,hj,hE,rfl⟩
     have hfl : ∀ s ∈ l.take j,fitS s := by
       intro s hs
       have := List.mem_of_mem_take hs
       rw [← hl] at this
       obtain ⟨p,hp,rfl⟩ := List.mem_map.1 this
       exact hfit p hp
     have hsz := layP_small (l.take j) hE hfl
     have hsz : (layP (l.take j)).length ≤ 60000000 := by rw [List.length_take] at hsz; omega
     by_cases hjl : j < es.length
     · have d2 : decide ((j : Int) < es.length) = true := decide_eq_true (by omega)
       have e1 : ((j : Int) + 1 + 9223372036854775808) % 18446744073709551616 - 9223372036854775808 = ((j + 1 : Nat) : Int) := by omega
       have hjl' : j < l.length := by omega
       have hlj : l[j] = es[j].1 := by subst hl; simp
       have hfs : fitS es[j].1 := hfit es[j] (List.getElem_mem hjl)
       have hdr := errP_drop l j hjl' hE
       rw [List.drop_eq_getElem_cons hjl',hlj] at hdr
       have htake : layP (l.take (j + 1)) = layP (l.take j) ++ zaw (layS es[j].1) := by
         rw [List.take_succ_eq_append_getElem hjl',hlj]; unfold layP; rw [List.flatMap_append]; simp
       have hEn : chkS es[j].1 = 0 → errP (l.take (j + 1)) = 0 := by
         intro h
         rw [List.take_succ_eq_append_getElem hjl',hlj]
         exact errP_snoc _ _ hE h
       have hs : slot (es.map stP) j = stP es[j] := slot_stP es j hjl
       obtain ⟨⟨s,f1,f2⟩,hx⟩ : ∃ x,es[j] = x := ⟨_,rfl⟩
       rw [hx] at hs hfs hdr htake hEn
       simp only at hfs hdr htake hEn
       have hs : slot (es.map stP) j = .agg [.w (.int .u8 s.k),.w (.int .u8 s.q.k),.str s.q.t,.w (.int .i64 s.q.i),.w (.int .i64 s.q.p),.w (.bool s.q.c),.w (.bool s.q.f),.w (.int .i64 s.q.o),.w (.int .i64 s.q.m),.w (.int .i64 s.q.w),.str s.q.g,.str s.q.mb,.w (.int .i64 s.q.n),.w (.int .i64 s.q.b.b),.w (.int .i64 s.q.b.c),.w (.int .i64 s.q.b.p),.w (.int .i64 s.q.b.e),.w (.int .i64 s.q.b.s),.sg 6 (s.q.b.rs.map rv) f1,.w (.int .i64 s.N),.w (.bool s.D),.sb s.ft f2] := hs
       obtain ⟨⟨hk0,hk1⟩,⟨⟨hq0,hq1⟩,lq,iq,h40⟩,hN,hft⟩ := hfs
       have h40 : (s.q.b.rs.map rv).length ≤ 40 := by rw [List.length_map]; exact h40
       have hex : ∃ qs : List Rec,s.q.b.rs.map rv = qs.map rv := ⟨s.q.b.rs,rfl⟩
       have hmr := zag s.q.b.rs
       have hcl := zbi s.q.b.rs
       obtain ⟨C,hC⟩ : ∃ C,chkS s = C := ⟨_,rfl⟩
       have hC' : chkT s.k s.q.k s.q.t s.q.i s.q.p s.q.c s.q.f s.q.o s.q.m s.q.w s.q.g s.q.mb s.q.n s.q.b.b s.q.b.c s.q.b.p s.q.b.e s.q.b.s s.q.b.rs s.N s.D s.ft = C := hC
       obtain ⟨W,hW⟩ : ∃ W,zfc s = W := ⟨_,rfl⟩
       have hW' : putT s.k s.q.k s.q.t s.q.i s.q.p s.q.c s.q.f s.q.o s.q.m s.q.w s.q.g s.q.mb s.q.n s.q.b.b s.q.b.c s.q.b.p s.q.b.e s.q.b.s s.q.b.rs s.N s.D s.ft = W := hW
       by_cases hc : C = 0
       · subst hc
         have d3 : decide ((0 : Int) = 0) = true := rfl
         have hWl : layS s = W := (putS_lay hC).symm.trans hW
         have hWs : W.length ≤ 1000000 := by rw [← hWl]; have := layS_small hC ⟨⟨hk0,hk1⟩,⟨⟨hq0,hq1⟩,lq,iq,by rw [List.length_map] at h40; exact h40⟩,hN,hft⟩; omega
         have hTs := zav W hWs
         rw [hWl] at htake
         simp only [go_sem,zaa,Nat.reduceAdd,Nat.reduceSub,Nat.reduceMul,Int.reduceToNat,reduceCtorEq,↓reduceIte,Int.reducePow,Nat.reducePow,Int.reduceMod,Nat.reduceLeDiff,Int.reduceLE,Int.reduceNe,Int.reduceEq,Nat.reduceEqDiff,Nat.reduceLT,Nat.reduceBEq,ty,SrputP,zcs,zcd,hll,d2,hs,hjl,hk0,hk1,hq0,hq1,lq,iq,hN,hft,h40,hex,hmr,hcl,hC',hW',d3,e1,hWs,tk,Int.toNat_natCast]
         repeat (refine And.intro (by first | omega | (unfold top; omega) | decide) ?_)
         refine ⟨es.length - (j + 1),_,by omega,zaf [0,1,2,3,165] rfl rfl rfl ?_ ?_,j + 1,rfl,by omega,hEn hC,rfl⟩
         · simp only [ssT,zai,zaj,setSlot,gOf,AV.ren,renL,Blk.ren,Ax.look,Ax.put,reduceCtorEq,↓reduceIte,Nat.reduceEqDiff,Nat.reduceLT,Nat.reduceAdd,List.length_append,List.length_cons,List.length_nil,Option.some.injEq,htake]; try simp
         · simp only [ssT,zai,zaj,setSlot,gOf,AV.ren,renL,Blk.ren,Ax.look,Ax.put,reduceCtorEq,↓reduceIte,Nat.reduceEqDiff,Nat.reduceLT,Nat.reduceAdd,List.length_append,List.length_cons,List.length_nil,Option.some.injEq,htake]; try simp
       · have d3 : decide (C = 0) = false := decide_eq_false hc
         have hEl : errP l = C := by rw [← hdr,errP_cons,if_neg (by rw [hC]; exact hc),hC]
         have hCC := chkP_err h1000 (by rw [hEl]; exact hc)
         rw [hEl] at hCC
         have hB : putP l = [] := if_neg (by rw [hCC]; exact hc)
         rw [hB,hCC]
         simp only [go_sem,zaa,Nat.reduceAdd,Nat.reduceSub,Nat.reduceMul,Int.reduceToNat,reduceCtorEq,↓reduceIte,Int.reducePow,Nat.reducePow,Int.reduceMod,Nat.reduceLeDiff,Int.reduceLE,Int.reduceNe,Int.reduceEq,Nat.reduceEqDiff,Nat.reduceLT,Nat.reduceBEq,ty,SrputP,zcs,zcd,hll,d2,hs,hjl,hk0,hk1,hq0,hq1,lq,iq,hN,hft,h40,hex,hmr,hcl,hC',hW',d3,e1,tk,Int.toNat_natCast]
         repeat (refine And.intro (by first | omega | (unfold top; omega) | decide) ?_)
         refine ⟨_,Weak.refl _,?_⟩
         simp only [go_sem,zaa,Nat.reduceAdd,Nat.reduceSub,Nat.reduceMul,Int.reduceToNat,reduceCtorEq,↓reduceIte,Int.reducePow,Nat.reducePow,Int.reduceMod,Nat.reduceLeDiff,Int.reduceLE,Int.reduceNe,Int.reduceEq,Nat.reduceEqDiff,Nat.reduceLT,Nat.reduceBEq,ty,SrputP]
         exact zat 2 3 (by decide) rfl rfl rfl rfl
     · obtain rfl : j = es.length := by omega
       have d2 : decide ((es.length : Int) < es.length) = false := decide_eq_false (by omega)
       rw [← hlf,List.take_length] at hE hsz ⊢
       rw [hlf]
       by_cases hbig : 65536 < (layP l).length
       · have hC := chkP_big h1000 hE hbig
         have hB : putP l = [] := if_neg (by rw [hC]; decide)
         have d3 : decide ((65536 : Int) < (layP l).length) = true := decide_eq_true (by omega)
         rw [hB,hC]
         simp only [go_sem,zaa,Nat.reduceAdd,Nat.reduceSub,Nat.reduceMul,Int.reduceToNat,reduceCtorEq,↓reduceIte,Int.reducePow,Nat.reducePow,Int.reduceMod,Nat.reduceLeDiff,Int.reduceLE,Int.reduceNe,Int.reduceEq,Nat.reduceEqDiff,Nat.reduceLT,Nat.reduceBEq,ty,SrputP,hll,d2,d3]
         refine ⟨_,Weak.refl _,?_⟩
         simp only [go_sem,zaa,Nat.reduceAdd,Nat.reduceSub,Nat.reduceMul,Int.reduceToNat,reduceCtorEq,↓reduceIte,Int.reducePow,Nat.reducePow,Int.reduceMod,Nat.reduceLeDiff,Int.reduceLE,Int.reduceNe,Int.reduceEq,Nat.reduceEqDiff,Nat.reduceLT,Nat.reduceBEq,ty,SrputP,hll,d2,d3]
         exact zat 2 3 (by decide) rfl rfl rfl rfl
       · have hC := chkP_ok h1000 hE hbig
         have hB : putP l = layP l := if_pos hC
         have d3 : decide ((65536 : Int) < (layP l).length) = false := decide_eq_false (by omega)
         rw [hB,hC]
         simp only [go_sem,zaa,Nat.reduceAdd,Nat.reduceSub,Nat.reduceMul,Int.reduceToNat,reduceCtorEq,↓reduceIte,Int.reducePow,Nat.reducePow,Int.reduceMod,Nat.reduceLeDiff,Int.reduceLE,Int.reduceNe,Int.reduceEq,Nat.reduceEqDiff,Nat.reduceLT,Nat.reduceBEq,ty,SrputP,hll,d2,d3]
         refine ⟨_,Weak.refl _,?_⟩
         simp only [go_sem,zaa,Nat.reduceAdd,Nat.reduceSub,Nat.reduceMul,Int.reduceToNat,reduceCtorEq,↓reduceIte,Int.reducePow,Nat.reducePow,Int.reduceMod,Nat.reduceLeDiff,Int.reduceLE,Int.reduceNe,Int.reduceEq,Nat.reduceEqDiff,Nat.reduceLT,Nat.reduceBEq,ty,SrputP,hll,d2,d3]
         exact zas 2 3 (by decide) rfl rfl rfl rfl rfl rfl
 · exact hp.elim
end
end Go.Proofs.Ytihbcgbmlecpbaa
namespace Go.Proofs.Ytihbcgbmlecpbaa
open Ax
set_option maxRecDepth 10000
set_option maxHeartbeats 4000000
theorem arg_bytes27 {j : Nat} {x : AV} (h : Arg ty (j + 1) 28 x) : ∃ (bs : List UInt8) (f : Bool),x = .sb bs f ∧ bs.length ≤ 9223372036854775807 := by
 obtain ⟨i,ls,hi,hs,rfl⟩ := h
 simp only [ty] at hi
 injection hi with hi
 subst hi
 simp only [Shape,ty,ShapeF,isFlatI] at hs
 obtain ⟨m,f,rfl,w⟩ := hs
 have : maxLen = 9223372036854775807 := by decide
 exact ⟨m,f,rfl,by omega⟩
end Go.Proofs.Ytihbcgbmlecpbaa
namespace Go.Proofs.Ytihbcgbmlecpbaa
open Ax
def rtextPl : Plan := fun id => match id with
 | 8 => some [(5,10),(6,10),(8,10)]
 | _ => none
section
set_option maxRecDepth 100000
theorem rrtext_sound : zaq Try.prog 41 zax := by
 refine zev (S := S31) (T := tyC) (pl := rtextPl) zau tyC_ok S31_ok Try.func41 (c := Try.f41.body.getD .skip) (by kernel_rfl) (by kernel_rfl) (fun xs pins hp _ => ?_)
 unfold zax at hp ⊢
 split at hp
 · rename_i bs f k e k' m _
   obtain ⟨rfl,rfl,hlen⟩ := hp
   refine ⟨by simp,?_⟩
   have em : (if (0 : Int) > m then (0 : Int) else m) = max m 0 := by split <;> omega
   have em2 : (if m > (0 : Int) then m else (0 : Int)) = max m 0 := by split <;> omega
   obtain ⟨B,hB⟩ : ∃ B,numL bs e = B := ⟨_,rfl⟩
   obtain ⟨N,hN⟩ : ∃ N,numN bs e = N := ⟨_,rfl⟩
   obtain ⟨E,hE⟩ : ∃ E,numE bs e = E := ⟨_,rfl⟩
   have hBl := zbm bs e
   rw [hB] at hBl
   have hok : rtOk m bs e ↔ E = 0 ∧ 0 ≤ N ∧ N ≤ max m 0 := by unfold rtOk; rw [hE,hN]
   unfold Try.f41
   by_cases hE0 : E = 0
   · have d1 : decide (E = 0) = true := decide_eq_true hE0
     by_cases hN0 : N < 0
     · have d2 : decide (N < 0) = true := decide_eq_true hN0
       have hr : ¬ rtOk m bs e := fun h => by have := hok.1 h; omega
       simp only [go_sem,coe,zac,Nat.reduceAdd,Nat.reduceSub,Nat.reduceMul,Int.reduceToNat,reduceCtorEq,↓reduceIte,Int.reducePow,Nat.reducePow,Int.reduceMod,Nat.reduceLeDiff,Int.reduceLE,Int.reduceNe,Int.reduceEq,Nat.reduceEqDiff,Nat.reduceLT,Nat.reduceBEq,List.map_cons,List.map_nil,List.toList_toArray,Array.toList_append,Option.toArray_some,Option.toArray_none,Bool.and_self,tyC,zel,ty,S31,rtextPl,zar,hlen,rrd,hB,hN,hE,d1,d2,em,em2,rtL,rtE,rtS',hr,if_false,hE0,ne_eq,not_true_eq_false]
       refine ⟨_,Weak.refl _,?_⟩
       simp only [go_sem,coe,zac,Nat.reduceAdd,Nat.reduceSub,Nat.reduceMul,Int.reduceToNat,reduceCtorEq,↓reduceIte,Int.reducePow,Nat.reducePow,Int.reduceMod,Nat.reduceLeDiff,Int.reduceLE,Int.reduceNe,Int.reduceEq,Nat.reduceEqDiff,Nat.reduceLT,Nat.reduceBEq,List.map_cons,List.map_nil,List.toList_toArray,Array.toList_append,Option.toArray_some,Option.toArray_none,Bool.and_self,tyC,zel,ty]
     · have d2 : decide (N < 0) = false := decide_eq_false hN0
       by_cases hNm : max m 0 < N
       · have d3 : decide (max m 0 < N) = true := decide_eq_true hNm
         have hr : ¬ rtOk m bs e := fun h => by have := hok.1 h; omega
         simp only [go_sem,coe,zac,Nat.reduceAdd,Nat.reduceSub,Nat.reduceMul,Int.reduceToNat,reduceCtorEq,↓reduceIte,Int.reducePow,Nat.reducePow,Int.reduceMod,Nat.reduceLeDiff,Int.reduceLE,Int.reduceNe,Int.reduceEq,Nat.reduceEqDiff,Nat.reduceLT,Nat.reduceBEq,List.map_cons,List.map_nil,List.toList_toArray,Array.toList_append,Option.toArray_some,Option.toArray_none,Bool.and_self,tyC,zel,ty,S31,rtextPl,zar,hlen,rrd,hB,hN,hE,d1,d2,d3,em,em2,rtL,rtE,rtS',hr,if_false,hE0,ne_eq,not_true_eq_false]
         refine ⟨_,Weak.refl _,?_⟩
         simp only [go_sem,coe,zac,Nat.reduceAdd,Nat.reduceSub,Nat.reduceMul,Int.reduceToNat,reduceCtorEq,↓reduceIte,Int.reducePow,Nat.reducePow,Int.reduceMod,Nat.reduceLeDiff,Int.reduceLE,Int.reduceNe,Int.reduceEq,Nat.reduceEqDiff,Nat.reduceLT,Nat.reduceBEq,List.map_cons,List.map_nil,List.toList_toArray,Array.toList_append,Option.toArray_some,Option.toArray_none,Bool.and_self,tyC,zel,ty]
       · have d3 : decide (max m 0 < N) = false := decide_eq_false hNm
         have hr : rtOk m bs e := hok.2 ⟨hE0,by omega,by omega⟩
         obtain ⟨M,rfl⟩ := Int.eq_ofNat_of_zero_le (show 0 ≤ N by omega)
         have e1 : List.take (B.length - M) (List.drop M B) = B.drop M := List.take_of_length_le (by simp)
         by_cases hl : (B.length : Int) < (M : Int)
         · have d4 : decide ((B.length : Int) < (M : Int)) = true := decide_eq_true hl
           simp only [go_sem,coe,zac,Nat.reduceAdd,Nat.reduceSub,Nat.reduceMul,Int.reduceToNat,reduceCtorEq,↓reduceIte,Int.reducePow,Nat.reducePow,Int.reduceMod,Nat.reduceLeDiff,Int.reduceLE,Int.reduceNe,Int.reduceEq,Nat.reduceEqDiff,Nat.reduceLT,Nat.reduceBEq,List.map_cons,List.map_nil,List.toList_toArray,Array.toList_append,Option.toArray_some,Option.toArray_none,Bool.and_self,tyC,zel,ty,S31,rtextPl,zar,hlen,rrd,hB,hN,hE,d1,d2,d3,d4,em,em2,rtL,rtE,rtS',hr,if_true,hE0,ne_eq,not_true_eq_false,if_false,tkB,tkL,tkE,hl]
           refine ⟨_,Weak.refl _,?_⟩
           simp only [go_sem,coe,zac,Nat.reduceAdd,Nat.reduceSub,Nat.reduceMul,Int.reduceToNat,reduceCtorEq,↓reduceIte,Int.reducePow,Nat.reducePow,Int.reduceMod,Nat.reduceLeDiff,Int.reduceLE,Int.reduceNe,Int.reduceEq,Nat.reduceEqDiff,Nat.reduceLT,Nat.reduceBEq,List.map_cons,List.map_nil,List.toList_toArray,Array.toList_append,Option.toArray_some,Option.toArray_none,Bool.and_self,tyC,zel,ty]
         · have d4 : decide ((B.length : Int) < (M : Int)) = false := decide_eq_false hl
           simp only [go_sem,coe,zac,Nat.reduceAdd,Nat.reduceSub,Nat.reduceMul,Int.reduceToNat,reduceCtorEq,↓reduceIte,Int.reducePow,Nat.reducePow,Int.reduceMod,Nat.reduceLeDiff,Int.reduceLE,Int.reduceNe,Int.reduceEq,Nat.reduceEqDiff,Nat.reduceLT,Nat.reduceBEq,List.map_cons,List.map_nil,List.toList_toArray,Array.toList_append,Option.toArray_some,Option.toArray_none,Bool.and_self,tyC,zel,ty,S31,rtextPl,zar,hlen,rrd,hB,hN,hE,d1,d2,d3,d4,em,em2,rtL,rtE,rtS',hr,if_true,hE0,ne_eq,not_true_eq_false,if_false,tkB,tkL,tkE,if_neg hl,e1,Int.toNat_natCast,Nat.sub_zero]
           refine ⟨by omega,by omega,?_⟩
           refine ⟨_,Weak.refl _,?_⟩
           simp only [go_sem,coe,zac,Nat.reduceAdd,Nat.reduceSub,Nat.reduceMul,Int.reduceToNat,reduceCtorEq,↓reduceIte,Int.reducePow,Nat.reducePow,Int.reduceMod,Nat.reduceLeDiff,Int.reduceLE,Int.reduceNe,Int.reduceEq,Nat.reduceEqDiff,Nat.reduceLT,Nat.reduceBEq,List.map_cons,List.map_nil,List.toList_toArray,Array.toList_append,Option.toArray_some,Option.toArray_none,Bool.and_self,tyC,zel,ty]
   · have d1 : decide (E = 0) = false := decide_eq_false hE0
     have hr : ¬ rtOk m bs e := fun h => hE0 (hok.1 h).1
     simp only [go_sem,coe,zac,Nat.reduceAdd,Nat.reduceSub,Nat.reduceMul,Int.reduceToNat,reduceCtorEq,↓reduceIte,Int.reducePow,Nat.reducePow,Int.reduceMod,Nat.reduceLeDiff,Int.reduceLE,Int.reduceNe,Int.reduceEq,Nat.reduceEqDiff,Nat.reduceLT,Nat.reduceBEq,List.map_cons,List.map_nil,List.toList_toArray,Array.toList_append,Option.toArray_some,Option.toArray_none,Bool.and_self,tyC,zel,ty,S31,rtextPl,zar,hlen,rrd,hB,hN,hE,d1,em,em2,rtL,rtE,rtS',hr,if_false,ne_eq,hE0,not_false_eq_true,if_true]
     refine ⟨_,Weak.refl _,?_⟩
     simp only [go_sem,coe,zac,Nat.reduceAdd,Nat.reduceSub,Nat.reduceMul,Int.reduceToNat,reduceCtorEq,↓reduceIte,Int.reducePow,Nat.reducePow,Int.reduceMod,Nat.reduceLeDiff,Int.reduceLE,Int.reduceNe,Int.reduceEq,Nat.reduceEqDiff,Nat.reduceLT,Nat.reduceBEq,List.map_cons,List.map_nil,List.toList_toArray,Array.toList_append,Option.toArray_some,Option.toArray_none,Bool.and_self,tyC,zel,ty]
 · exact hp.elim
end
end Go.Proofs.Ytihbcgbmlecpbaa
namespace Go.Proofs.Ytihbcgbmlecpbaa
open Ax
def rrgetS : zak
 | [.agg [.sb bs f,.w (.int .i64 e)]],[] => ⟨bs.length ≤ 1000000,.tup [rrd (gb5 bs e) f (ge5 bs e),grec bs e,.w (.int .i64 (gerr bs e))],[]⟩
 | _,_ => zbd
def zbf : Plan := fun id => match id with
 | 10 => some [(2,4),(3,4),(2,5),(3,5)]
 | 13 => some [(1,2)]
 | _ => none
def zbq (f : FuncId) : Option zak :=
 match f with
 | 38 => some zaz
 | 37 => some zar
 | 41 => some zax
 | 84 => some zbh
 | _ => none
theorem Srrget_ok : Fns Try.prog zbq := by
 intro f s h
 unfold zbq at h
 split at h
 · injection h with h; subst h; exact ⟨⟨_,Try.func38,by kernel_rfl,by kernel_rfl⟩,rrfix_sound⟩
 · injection h with h; subst h; exact ⟨⟨_,Try.func37,by kernel_rfl,by kernel_rfl⟩,rrnum_sound⟩
 · injection h with h; subst h; exact ⟨⟨_,Try.func41,by kernel_rfl,by kernel_rfl⟩,rrtext_sound⟩
 · injection h with h; subst h; exact ⟨⟨_,Try.func84,by kernel_rfl,by kernel_rfl⟩,rrcheck_sound⟩
 · cases h
section
set_option maxRecDepth 100000
set_option maxHeartbeats 2000000 in
theorem rrecget_sound : zaq Try.prog 88 rrgetS := by
 refine zev (S := zbq) (T := ty) (pl := zbf) zau ty_ok Srrget_ok Try.func88 (c := Try.f88.body.getD .skip) (by kernel_rfl) (by kernel_rfl) (fun xs pins hp _ => ?_)
 unfold rrgetS at hp ⊢
 split at hp
 · rename_i bs f e _
   have hlen : bs.length ≤ 1000000 := hp
   refine ⟨by simp,?_⟩
   have hr := rfix1 bs e
   have hN : zci 1 bs e = ((g0 bs e : Nat) : Int) := by unfold g0; omega
   have hN2 : g0 bs e < 256 := by omega
   have hA := Nat.mod_two_eq_zero_or_one (g0 bs e)
   have q1 : (gb1 bs e).length ≤ 1000000 := by have := zdd 1 bs e; unfold gb1; omega
   have q2 : (gb2 bs e).length ≤ 1000000 := by have := zbm (gb1 bs e) (ge1 bs e); unfold gb2; omega
   have q3 : (gb3 bs e).length ≤ 1000000 := by have := zbm (gb2 bs e) (ge2 bs e); unfold gb3; omega
   have q4 : (gb4 bs e).length ≤ 1000000 := by have := rtL_length 64 (gb3 bs e) (ge3 bs e); unfold gb4; split <;> omega
   have i1 : rfixL 1 bs e = gb1 bs e := rfl
   have i2 : rfixE 1 bs e = ge1 bs e := rfl
   have i3 : numN (gb1 bs e) (ge1 bs e) = gd bs e := rfl
   have i4 : numL (gb1 bs e) (ge1 bs e) = gb2 bs e := rfl
   have i5 : numE (gb1 bs e) (ge1 bs e) = ge2 bs e := rfl
   have i6 : numN (gb2 bs e) (ge2 bs e) = gt bs e := rfl
   have i7 : numL (gb2 bs e) (ge2 bs e) = gb3 bs e := rfl
   have i8 : numE (gb2 bs e) (ge2 bs e) = ge3 bs e := rfl
   unfold Try.f88
   rcases Bool.eq_false_or_eq_true (gk bs e) with hk | hk <;> rcases Bool.eq_false_or_eq_true (gdd bs e) with hdd | hdd
   · have c1 : decide ((((g0 bs e : Nat) : Int)).tmod 2 = 1) = true := decide_eq_true (by rw [Int.tmod_eq_emod_of_nonneg (by omega)]; unfold gk at hk; have := of_decide_eq_true hk; omega)
     have c2 : decide (((((g0 bs e : Nat) : Int)).tdiv 2 % 18446744073709551616).tmod 2 = 1) = true := decide_eq_true (by rw [Int.tdiv_eq_ediv_of_nonneg (by omega),Int.tmod_eq_emod_of_nonneg (by omega)]; unfold gdd at hdd; have := of_decide_eq_true hdd; omega)
     have x1 : rtL 64 (gb3 bs e) (ge3 bs e) = gb4 bs e := by unfold gb4; rw [hk]; rfl
     have x2 : rtE 64 (gb3 bs e) (ge3 bs e) = ge4 bs e := by unfold ge4; rw [hk]; rfl
     have x3 : rtS' 64 (gb3 bs e) (ge3 bs e) = gkey bs e := by unfold gkey; rw [hk]; rfl
     have x4 : gb5 bs e = gb4 bs e := by unfold gb5; rw [hdd]; rfl
     have x5 : ge5 bs e = ge4 bs e := by unfold ge5; rw [hdd]; rfl
     have x6 : gval bs e = [] := by unfold gval; rw [hdd]; rfl
     by_cases h5 : ge4 bs e = 0
     · have e5 : ge5 bs e = 0 := by first | exact h5 | (rw [x5]; exact h5)
       by_cases h4 : 4 ≤ g0 bs e
       · have d4 : decide ((3 : Int) < ((g0 bs e : Nat) : Int)) = true := decide_eq_true (by omega)
         have hG : gerr bs e = 4 := by unfold gerr; rw [if_neg (by simpa using e5),if_pos (.inl h4)]
         have hV : grec bs e = recV 0 0 false [] false [] := by unfold grec; rw [hG]; rfl
         simp only [go_sem,coe,zac,Nat.reduceAdd,Nat.reduceSub,Nat.reduceMul,Int.reduceToNat,reduceCtorEq,↓reduceIte,Int.reducePow,Nat.reducePow,Int.reduceMod,Nat.reduceLeDiff,Int.reduceLE,Int.reduceNe,Int.reduceEq,Nat.reduceEqDiff,Nat.reduceLT,Nat.reduceBEq,List.map_cons,List.map_nil,List.toList_toArray,Array.toList_append,Option.toArray_some,Option.toArray_none,Bool.and_self,ty,zbq,zbf,zaz,zar,zax,zbh,rrd,fillS,recV,hN,c1,c2,i1,i2,i3,i4,i5,i6,i7,i8,x1,x2,x3,x4,x5,x6,hlen,q1,q2,q3,q4,h5,d4,hG,hV]
         refine ⟨_,Weak.refl _,?_⟩
         simp only [go_sem,coe,zac,Nat.reduceAdd,Nat.reduceSub,Nat.reduceMul,Int.reduceToNat,reduceCtorEq,↓reduceIte,Int.reducePow,Nat.reducePow,Int.reduceMod,Nat.reduceLeDiff,Int.reduceLE,Int.reduceNe,Int.reduceEq,Nat.reduceEqDiff,Nat.reduceLT,Nat.reduceBEq,List.map_cons,List.map_nil,List.toList_toArray,Array.toList_append,Option.toArray_some,Option.toArray_none,Bool.and_self,ty,zbq,zbf,zaz,zar,zax,zbh,rrd,fillS,recV,hN,c1,c2,i1,i2,i3,i4,i5,i6,i7,i8,x1,x2,x3,x4,x5,x6,hlen,q1,q2,q3,q4,h5,d4,hG,hV]
       · have d4 : decide ((3 : Int) < ((g0 bs e : Nat) : Int)) = false := decide_eq_false (by omega)
         by_cases hc : rchk (gd bs e) (gt bs e) true (gkey bs e) true ([]) = 0
         · have hG : gerr bs e = 0 := by unfold gerr; rw [if_neg (by simpa using e5),hk,hdd,x6,if_neg (by rintro (h | h); exact h4 h; exact h hc)]
           have hV : grec bs e = recV (gd bs e) (gt bs e) true (gkey bs e) true ([]) := by unfold grec; rw [hG,if_pos rfl,hk,hdd,x6]
           simp only [go_sem,coe,zac,Nat.reduceAdd,Nat.reduceSub,Nat.reduceMul,Int.reduceToNat,reduceCtorEq,↓reduceIte,Int.reducePow,Nat.reducePow,Int.reduceMod,Nat.reduceLeDiff,Int.reduceLE,Int.reduceNe,Int.reduceEq,Nat.reduceEqDiff,Nat.reduceLT,Nat.reduceBEq,List.map_cons,List.map_nil,List.toList_toArray,Array.toList_append,Option.toArray_some,Option.toArray_none,Bool.and_self,ty,zbq,zbf,zaz,zar,zax,zbh,rrd,fillS,recV,hN,c1,c2,i1,i2,i3,i4,i5,i6,i7,i8,x1,x2,x3,x4,x5,x6,hlen,q1,q2,q3,q4,h5,d4,hG,hV,hc]
           refine ⟨_,Weak.refl _,?_⟩
           simp only [go_sem,coe,zac,Nat.reduceAdd,Nat.reduceSub,Nat.reduceMul,Int.reduceToNat,reduceCtorEq,↓reduceIte,Int.reducePow,Nat.reducePow,Int.reduceMod,Nat.reduceLeDiff,Int.reduceLE,Int.reduceNe,Int.reduceEq,Nat.reduceEqDiff,Nat.reduceLT,Nat.reduceBEq,List.map_cons,List.map_nil,List.toList_toArray,Array.toList_append,Option.toArray_some,Option.toArray_none,Bool.and_self,ty,zbq,zbf,zaz,zar,zax,zbh,rrd,fillS,recV,hN,c1,c2,i1,i2,i3,i4,i5,i6,i7,i8,x1,x2,x3,x4,x5,x6,hlen,q1,q2,q3,q4,h5,d4,hG,hV,hc]
         · have hG : gerr bs e = 4 := by unfold gerr; rw [if_neg (by simpa using e5),hk,hdd,x6,if_pos (.inr hc)]
           have hV : grec bs e = recV 0 0 false [] false [] := by unfold grec; rw [hG]; rfl
           have d5 : decide (rchk (gd bs e) (gt bs e) true (gkey bs e) true ([]) = 0) = false := decide_eq_false hc
           simp only [go_sem,coe,zac,Nat.reduceAdd,Nat.reduceSub,Nat.reduceMul,Int.reduceToNat,reduceCtorEq,↓reduceIte,Int.reducePow,Nat.reducePow,Int.reduceMod,Nat.reduceLeDiff,Int.reduceLE,Int.reduceNe,Int.reduceEq,Nat.reduceEqDiff,Nat.reduceLT,Nat.reduceBEq,List.map_cons,List.map_nil,List.toList_toArray,Array.toList_append,Option.toArray_some,Option.toArray_none,Bool.and_self,ty,zbq,zbf,zaz,zar,zax,zbh,rrd,fillS,recV,hN,c1,c2,i1,i2,i3,i4,i5,i6,i7,i8,x1,x2,x3,x4,x5,x6,hlen,q1,q2,q3,q4,h5,d4,hG,hV,d5]
           refine ⟨_,Weak.refl _,?_⟩
           simp only [go_sem,coe,zac,Nat.reduceAdd,Nat.reduceSub,Nat.reduceMul,Int.reduceToNat,reduceCtorEq,↓reduceIte,Int.reducePow,Nat.reducePow,Int.reduceMod,Nat.reduceLeDiff,Int.reduceLE,Int.reduceNe,Int.reduceEq,Nat.reduceEqDiff,Nat.reduceLT,Nat.reduceBEq,List.map_cons,List.map_nil,List.toList_toArray,Array.toList_append,Option.toArray_some,Option.toArray_none,Bool.and_self,ty,zbq,zbf,zaz,zar,zax,zbh,rrd,fillS,recV,hN,c1,c2,i1,i2,i3,i4,i5,i6,i7,i8,x1,x2,x3,x4,x5,x6,hlen,q1,q2,q3,q4,h5,d4,hG,hV,d5]
     · have e5 : ¬ ge5 bs e = 0 := by first | exact h5 | (rw [x5]; exact h5)
       have d5 : decide (ge4 bs e = 0) = false := decide_eq_false h5
       have hG : gerr bs e = ge4 bs e := by unfold gerr; rw [if_pos e5]; exact x5
       have hV : grec bs e = recV 0 0 false [] false [] := by unfold grec; rw [hG,if_neg h5]
       simp only [go_sem,coe,zac,Nat.reduceAdd,Nat.reduceSub,Nat.reduceMul,Int.reduceToNat,reduceCtorEq,↓reduceIte,Int.reducePow,Nat.reducePow,Int.reduceMod,Nat.reduceLeDiff,Int.reduceLE,Int.reduceNe,Int.reduceEq,Nat.reduceEqDiff,Nat.reduceLT,Nat.reduceBEq,List.map_cons,List.map_nil,List.toList_toArray,Array.toList_append,Option.toArray_some,Option.toArray_none,Bool.and_self,ty,zbq,zbf,zaz,zar,zax,zbh,rrd,fillS,recV,hN,c1,c2,i1,i2,i3,i4,i5,i6,i7,i8,x1,x2,x3,x4,x5,x6,hlen,q1,q2,q3,q4,d5,hG,hV]
       refine ⟨_,Weak.refl _,?_⟩
       simp only [go_sem,coe,zac,Nat.reduceAdd,Nat.reduceSub,Nat.reduceMul,Int.reduceToNat,reduceCtorEq,↓reduceIte,Int.reducePow,Nat.reducePow,Int.reduceMod,Nat.reduceLeDiff,Int.reduceLE,Int.reduceNe,Int.reduceEq,Nat.reduceEqDiff,Nat.reduceLT,Nat.reduceBEq,List.map_cons,List.map_nil,List.toList_toArray,Array.toList_append,Option.toArray_some,Option.toArray_none,Bool.and_self,ty,zbq,zbf,zaz,zar,zax,zbh,rrd,fillS,recV,hN,c1,c2,i1,i2,i3,i4,i5,i6,i7,i8,x1,x2,x3,x4,x5,x6,hlen,q1,q2,q3,q4,d5,hG,hV]
   · have c1 : decide ((((g0 bs e : Nat) : Int)).tmod 2 = 1) = true := decide_eq_true (by rw [Int.tmod_eq_emod_of_nonneg (by omega)]; unfold gk at hk; have := of_decide_eq_true hk; omega)
     have c2 : decide (((((g0 bs e : Nat) : Int)).tdiv 2 % 18446744073709551616).tmod 2 = 1) = false := decide_eq_false (by rw [Int.tdiv_eq_ediv_of_nonneg (by omega),Int.tmod_eq_emod_of_nonneg (by omega)]; unfold gdd at hdd; have := of_decide_eq_false hdd; omega)
     have x1 : rtL 64 (gb3 bs e) (ge3 bs e) = gb4 bs e := by unfold gb4; rw [hk]; rfl
     have x2 : rtE 64 (gb3 bs e) (ge3 bs e) = ge4 bs e := by unfold ge4; rw [hk]; rfl
     have x3 : rtS' 64 (gb3 bs e) (ge3 bs e) = gkey bs e := by unfold gkey; rw [hk]; rfl
     have x4 : rtL 512 (gb4 bs e) (ge4 bs e) = gb5 bs e := by unfold gb5; rw [hdd]; rfl
     have x5 : rtE 512 (gb4 bs e) (ge4 bs e) = ge5 bs e := by unfold ge5; rw [hdd]; rfl
     have x6 : rtS' 512 (gb4 bs e) (ge4 bs e) = gval bs e := by unfold gval; rw [hdd]; rfl
     by_cases h5 : ge5 bs e = 0
     · have e5 : ge5 bs e = 0 := by first | exact h5 | (rw [x5]; exact h5)
       by_cases h4 : 4 ≤ g0 bs e
       · have d4 : decide ((3 : Int) < ((g0 bs e : Nat) : Int)) = true := decide_eq_true (by omega)
         have hG : gerr bs e = 4 := by unfold gerr; rw [if_neg (by simpa using e5),if_pos (.inl h4)]
         have hV : grec bs e = recV 0 0 false [] false [] := by unfold grec; rw [hG]; rfl
         simp only [go_sem,coe,zac,Nat.reduceAdd,Nat.reduceSub,Nat.reduceMul,Int.reduceToNat,reduceCtorEq,↓reduceIte,Int.reducePow,Nat.reducePow,Int.reduceMod,Nat.reduceLeDiff,Int.reduceLE,Int.reduceNe,Int.reduceEq,Nat.reduceEqDiff,Nat.reduceLT,Nat.reduceBEq,List.map_cons,List.map_nil,List.toList_toArray,Array.toList_append,Option.toArray_some,Option.toArray_none,Bool.and_self,ty,zbq,zbf,zaz,zar,zax,zbh,rrd,fillS,recV,hN,c1,c2,i1,i2,i3,i4,i5,i6,i7,i8,x1,x2,x3,x4,x5,x6,hlen,q1,q2,q3,q4,h5,d4,hG,hV]
         refine ⟨_,Weak.refl _,?_⟩
         simp only [go_sem,coe,zac,Nat.reduceAdd,Nat.reduceSub,Nat.reduceMul,Int.reduceToNat,reduceCtorEq,↓reduceIte,Int.reducePow,Nat.reducePow,Int.reduceMod,Nat.reduceLeDiff,Int.reduceLE,Int.reduceNe,Int.reduceEq,Nat.reduceEqDiff,Nat.reduceLT,Nat.reduceBEq,List.map_cons,List.map_nil,List.toList_toArray,Array.toList_append,Option.toArray_some,Option.toArray_none,Bool.and_self,ty,zbq,zbf,zaz,zar,zax,zbh,rrd,fillS,recV,hN,c1,c2,i1,i2,i3,i4,i5,i6,i7,i8,x1,x2,x3,x4,x5,x6,hlen,q1,q2,q3,q4,h5,d4,hG,hV]
       · have d4 : decide ((3 : Int) < ((g0 bs e : Nat) : Int)) = false := decide_eq_false (by omega)
         by_cases hc : rchk (gd bs e) (gt bs e) true (gkey bs e) false (gval bs e) = 0
         · have hG : gerr bs e = 0 := by unfold gerr; rw [if_neg (by simpa using e5),hk,hdd,if_neg (by rintro (h | h); exact h4 h; exact h hc)]
           have hV : grec bs e = recV (gd bs e) (gt bs e) true (gkey bs e) false (gval bs e) := by unfold grec; rw [hG,if_pos rfl,hk,hdd]
           simp only [go_sem,coe,zac,Nat.reduceAdd,Nat.reduceSub,Nat.reduceMul,Int.reduceToNat,reduceCtorEq,↓reduceIte,Int.reducePow,Nat.reducePow,Int.reduceMod,Nat.reduceLeDiff,Int.reduceLE,Int.reduceNe,Int.reduceEq,Nat.reduceEqDiff,Nat.reduceLT,Nat.reduceBEq,List.map_cons,List.map_nil,List.toList_toArray,Array.toList_append,Option.toArray_some,Option.toArray_none,Bool.and_self,ty,zbq,zbf,zaz,zar,zax,zbh,rrd,fillS,recV,hN,c1,c2,i1,i2,i3,i4,i5,i6,i7,i8,x1,x2,x3,x4,x5,x6,hlen,q1,q2,q3,q4,h5,d4,hG,hV,hc]
           refine ⟨_,Weak.refl _,?_⟩
           simp only [go_sem,coe,zac,Nat.reduceAdd,Nat.reduceSub,Nat.reduceMul,Int.reduceToNat,reduceCtorEq,↓reduceIte,Int.reducePow,Nat.reducePow,Int.reduceMod,Nat.reduceLeDiff,Int.reduceLE,Int.reduceNe,Int.reduceEq,Nat.reduceEqDiff,Nat.reduceLT,Nat.reduceBEq,List.map_cons,List.map_nil,List.toList_toArray,Array.toList_append,Option.toArray_some,Option.toArray_none,Bool.and_self,ty,zbq,zbf,zaz,zar,zax,zbh,rrd,fillS,recV,hN,c1,c2,i1,i2,i3,i4,i5,i6,i7,i8,x1,x2,x3,x4,x5,x6,hlen,q1,q2,q3,q4,h5,d4,hG,hV,hc]
         · have hG : gerr bs e = 4 := by unfold gerr; rw [if_neg (by simpa using e5),hk,hdd,if_pos (.inr hc)]
           have hV : grec bs e = recV 0 0 false [] false [] := by unfold grec; rw [hG]; rfl
           have d5 : decide (rchk (gd bs e) (gt bs e) true (gkey bs e) false (gval bs e) = 0) = false := decide_eq_false hc
           simp only [go_sem,coe,zac,Nat.reduceAdd,Nat.reduceSub,Nat.reduceMul,Int.reduceToNat,reduceCtorEq,↓reduceIte,Int.reducePow,Nat.reducePow,Int.reduceMod,Nat.reduceLeDiff,Int.reduceLE,Int.reduceNe,Int.reduceEq,Nat.reduceEqDiff,Nat.reduceLT,Nat.reduceBEq,List.map_cons,List.map_nil,List.toList_toArray,Array.toList_append,Option.toArray_some,Option.toArray_none,Bool.and_self,ty,zbq,zbf,zaz,zar,zax,zbh,rrd,fillS,recV,hN,c1,c2,i1,i2,i3,i4,i5,i6,i7,i8,x1,x2,x3,x4,x5,x6,hlen,q1,q2,q3,q4,h5,d4,hG,hV,d5]
           refine ⟨_,Weak.refl _,?_⟩
           simp only [go_sem,coe,zac,Nat.reduceAdd,Nat.reduceSub,Nat.reduceMul,Int.reduceToNat,reduceCtorEq,↓reduceIte,Int.reducePow,Nat.reducePow,Int.reduceMod,Nat.reduceLeDiff,Int.reduceLE,Int.reduceNe,Int.reduceEq,Nat.reduceEqDiff,Nat.reduceLT,Nat.reduceBEq,List.map_cons,List.map_nil,List.toList_toArray,Array.toList_append,Option.toArray_some,Option.toArray_none,Bool.and_self,ty,zbq,zbf,zaz,zar,zax,zbh,rrd,fillS,recV,hN,c1,c2,i1,i2,i3,i4,i5,i6,i7,i8,x1,x2,x3,x4,x5,x6,hlen,q1,q2,q3,q4,h5,d4,hG,hV,d5]
     · have e5 : ¬ ge5 bs e = 0 := by first | exact h5 | (rw [x5]; exact h5)
       have d5 : decide (ge5 bs e = 0) = false := decide_eq_false h5
       have hG : gerr bs e = ge5 bs e := by unfold gerr; rw [if_pos e5]
       have hV : grec bs e = recV 0 0 false [] false [] := by unfold grec; rw [hG,if_neg h5]
       simp only [go_sem,coe,zac,Nat.reduceAdd,Nat.reduceSub,Nat.reduceMul,Int.reduceToNat,reduceCtorEq,↓reduceIte,Int.reducePow,Nat.reducePow,Int.reduceMod,Nat.reduceLeDiff,Int.reduceLE,Int.reduceNe,Int.reduceEq,Nat.reduceEqDiff,Nat.reduceLT,Nat.reduceBEq,List.map_cons,List.map_nil,List.toList_toArray,Array.toList_append,Option.toArray_some,Option.toArray_none,Bool.and_self,ty,zbq,zbf,zaz,zar,zax,zbh,rrd,fillS,recV,hN,c1,c2,i1,i2,i3,i4,i5,i6,i7,i8,x1,x2,x3,x4,x5,x6,hlen,q1,q2,q3,q4,d5,hG,hV]
       refine ⟨_,Weak.refl _,?_⟩
       simp only [go_sem,coe,zac,Nat.reduceAdd,Nat.reduceSub,Nat.reduceMul,Int.reduceToNat,reduceCtorEq,↓reduceIte,Int.reducePow,Nat.reducePow,Int.reduceMod,Nat.reduceLeDiff,Int.reduceLE,Int.reduceNe,Int.reduceEq,Nat.reduceEqDiff,Nat.reduceLT,Nat.reduceBEq,List.map_cons,List.map_nil,List.toList_toArray,Array.toList_append,Option.toArray_some,Option.toArray_none,Bool.and_self,ty,zbq,zbf,zaz,zar,zax,zbh,rrd,fillS,recV,hN,c1,c2,i1,i2,i3,i4,i5,i6,i7,i8,x1,x2,x3,x4,x5,x6,hlen,q1,q2,q3,q4,d5,hG,hV]
   · have c1 : decide ((((g0 bs e : Nat) : Int)).tmod 2 = 1) = false := decide_eq_false (by rw [Int.tmod_eq_emod_of_nonneg (by omega)]; unfold gk at hk; have := of_decide_eq_false hk; omega)
     have c2 : decide (((((g0 bs e : Nat) : Int)).tdiv 2 % 18446744073709551616).tmod 2 = 1) = true := decide_eq_true (by rw [Int.tdiv_eq_ediv_of_nonneg (by omega),Int.tmod_eq_emod_of_nonneg (by omega)]; unfold gdd at hdd; have := of_decide_eq_true hdd; omega)
     have x1 : gb3 bs e = gb4 bs e := by unfold gb4; rw [hk]; rfl
     have x2 : ge3 bs e = ge4 bs e := by unfold ge4; rw [hk]; rfl
     have x3 : gkey bs e = [] := by unfold gkey; rw [hk]; rfl
     have x4 : gb5 bs e = gb4 bs e := by unfold gb5; rw [hdd]; rfl
     have x5 : ge5 bs e = ge4 bs e := by unfold ge5; rw [hdd]; rfl
     have x6 : gval bs e = [] := by unfold gval; rw [hdd]; rfl
     by_cases h5 : ge4 bs e = 0
     · have e5 : ge5 bs e = 0 := by first | exact h5 | (rw [x5]; exact h5)
       by_cases h4 : 4 ≤ g0 bs e
       · have d4 : decide ((3 : Int) < ((g0 bs e : Nat) : Int)) = true := decide_eq_true (by omega)
         have hG : gerr bs e = 4 := by unfold gerr; rw [if_neg (by simpa using e5),if_pos (.inl h4)]
         have hV : grec bs e = recV 0 0 false [] false [] := by unfold grec; rw [hG]; rfl
         simp only [go_sem,coe,zac,Nat.reduceAdd,Nat.reduceSub,Nat.reduceMul,Int.reduceToNat,reduceCtorEq,↓reduceIte,Int.reducePow,Nat.reducePow,Int.reduceMod,Nat.reduceLeDiff,Int.reduceLE,Int.reduceNe,Int.reduceEq,Nat.reduceEqDiff,Nat.reduceLT,Nat.reduceBEq,List.map_cons,List.map_nil,List.toList_toArray,Array.toList_append,Option.toArray_some,Option.toArray_none,Bool.and_self,ty,zbq,zbf,zaz,zar,zax,zbh,rrd,fillS,recV,hN,c1,c2,i1,i2,i3,i4,i5,i6,i7,i8,x1,x2,x3,x4,x5,x6,hlen,q1,q2,q3,q4,h5,d4,hG,hV]
         refine ⟨_,Weak.refl _,?_⟩
         simp only [go_sem,coe,zac,Nat.reduceAdd,Nat.reduceSub,Nat.reduceMul,Int.reduceToNat,reduceCtorEq,↓reduceIte,Int.reducePow,Nat.reducePow,Int.reduceMod,Nat.reduceLeDiff,Int.reduceLE,Int.reduceNe,Int.reduceEq,Nat.reduceEqDiff,Nat.reduceLT,Nat.reduceBEq,List.map_cons,List.map_nil,List.toList_toArray,Array.toList_append,Option.toArray_some,Option.toArray_none,Bool.and_self,ty,zbq,zbf,zaz,zar,zax,zbh,rrd,fillS,recV,hN,c1,c2,i1,i2,i3,i4,i5,i6,i7,i8,x1,x2,x3,x4,x5,x6,hlen,q1,q2,q3,q4,h5,d4,hG,hV]
       · have d4 : decide ((3 : Int) < ((g0 bs e : Nat) : Int)) = false := decide_eq_false (by omega)
         by_cases hc : rchk (gd bs e) (gt bs e) false ([]) true ([]) = 0
         · have hG : gerr bs e = 0 := by unfold gerr; rw [if_neg (by simpa using e5),hk,hdd,x3,x6,if_neg (by rintro (h | h); exact h4 h; exact h hc)]
           have hV : grec bs e = recV (gd bs e) (gt bs e) false ([]) true ([]) := by unfold grec; rw [hG,if_pos rfl,hk,hdd,x3,x6]
           simp only [go_sem,coe,zac,Nat.reduceAdd,Nat.reduceSub,Nat.reduceMul,Int.reduceToNat,reduceCtorEq,↓reduceIte,Int.reducePow,Nat.reducePow,Int.reduceMod,Nat.reduceLeDiff,Int.reduceLE,Int.reduceNe,Int.reduceEq,Nat.reduceEqDiff,Nat.reduceLT,Nat.reduceBEq,List.map_cons,List.map_nil,List.toList_toArray,Array.toList_append,Option.toArray_some,Option.toArray_none,Bool.and_self,ty,zbq,zbf,zaz,zar,zax,zbh,rrd,fillS,recV,hN,c1,c2,i1,i2,i3,i4,i5,i6,i7,i8,x1,x2,x3,x4,x5,x6,hlen,q1,q2,q3,q4,h5,d4,hG,hV,hc]
           refine ⟨_,Weak.refl _,?_⟩
           simp only [go_sem,coe,zac,Nat.reduceAdd,Nat.reduceSub,Nat.reduceMul,Int.reduceToNat,reduceCtorEq,↓reduceIte,Int.reducePow,Nat.reducePow,Int.reduceMod,Nat.reduceLeDiff,Int.reduceLE,Int.reduceNe,Int.reduceEq,Nat.reduceEqDiff,Nat.reduceLT,Nat.reduceBEq,List.map_cons,List.map_nil,List.toList_toArray,Array.toList_append,Option.toArray_some,Option.toArray_none,Bool.and_self,ty,zbq,zbf,zaz,zar,zax,zbh,rrd,fillS,recV,hN,c1,c2,i1,i2,i3,i4,i5,i6,i7,i8,x1,x2,x3,x4,x5,x6,hlen,q1,q2,q3,q4,h5,d4,hG,hV,hc]
         · have hG : gerr bs e = 4 := by unfold gerr; rw [if_neg (by simpa using e5),hk,hdd,x3,x6,if_pos (.inr hc)]
           have hV : grec bs e = recV 0 0 false [] false [] := by unfold grec; rw [hG]; rfl
           have d5 : decide (rchk (gd bs e) (gt bs e) false ([]) true ([]) = 0) = false := decide_eq_false hc
           simp only [go_sem,coe,zac,Nat.reduceAdd,Nat.reduceSub,Nat.reduceMul,Int.reduceToNat,reduceCtorEq,↓reduceIte,Int.reducePow,Nat.reducePow,Int.reduceMod,Nat.reduceLeDiff,Int.reduceLE,Int.reduceNe,Int.reduceEq,Nat.reduceEqDiff,Nat.reduceLT,Nat.reduceBEq,List.map_cons,List.map_nil,List.toList_toArray,Array.toList_append,Option.toArray_some,Option.toArray_none,Bool.and_self,ty,zbq,zbf,zaz,zar,zax,zbh,rrd,fillS,recV,hN,c1,c2,i1,i2,i3,i4,i5,i6,i7,i8,x1,x2,x3,x4,x5,x6,hlen,q1,q2,q3,q4,h5,d4,hG,hV,d5]
           refine ⟨_,Weak.refl _,?_⟩
           simp only [go_sem,coe,zac,Nat.reduceAdd,Nat.reduceSub,Nat.reduceMul,Int.reduceToNat,reduceCtorEq,↓reduceIte,Int.reducePow,Nat.reducePow,Int.reduceMod,Nat.reduceLeDiff,Int.reduceLE,Int.reduceNe,Int.reduceEq,Nat.reduceEqDiff,Nat.reduceLT,Nat.reduceBEq,List.map_cons,List.map_nil,List.toList_toArray,Array.toList_append,Option.toArray_some,Option.toArray_none,Bool.and_self,ty,zbq,zbf,zaz,zar,zax,zbh,rrd,fillS,recV,hN,c1,c2,i1,i2,i3,i4,i5,i6,i7,i8,x1,x2,x3,x4,x5,x6,hlen,q1,q2,q3,q4,h5,d4,hG,hV,d5]
     · have e5 : ¬ ge5 bs e = 0 := by first | exact h5 | (rw [x5]; exact h5)
       have d5 : decide (ge4 bs e = 0) = false := decide_eq_false h5
       have hG : gerr bs e = ge4 bs e := by unfold gerr; rw [if_pos e5]; exact x5
       have hV : grec bs e = recV 0 0 false [] false [] := by unfold grec; rw [hG,if_neg h5]
       simp only [go_sem,coe,zac,Nat.reduceAdd,Nat.reduceSub,Nat.reduceMul,Int.reduceToNat,reduceCtorEq,↓reduceIte,Int.reducePow,Nat.reducePow,Int.reduceMod,Nat.reduceLeDiff,Int.reduceLE,Int.reduceNe,Int.reduceEq,Nat.reduceEqDiff,Nat.reduceLT,Nat.reduceBEq,List.map_cons,List.map_nil,List.toList_toArray,Array.toList_append,Option.toArray_some,Option.toArray_none,Bool.and_self,ty,zbq,zbf,zaz,zar,zax,zbh,rrd,fillS,recV,hN,c1,c2,i1,i2,i3,i4,i5,i6,i7,i8,x1,x2,x3,x4,x5,x6,hlen,q1,q2,q3,q4,d5,hG,hV]
       refine ⟨_,Weak.refl _,?_⟩
       simp only [go_sem,coe,zac,Nat.reduceAdd,Nat.reduceSub,Nat.reduceMul,Int.reduceToNat,reduceCtorEq,↓reduceIte,Int.reducePow,Nat.reducePow,Int.reduceMod,Nat.reduceLeDiff,Int.reduceLE,Int.reduceNe,Int.reduceEq,Nat.reduceEqDiff,Nat.reduceLT,Nat.reduceBEq,List.map_cons,List.map_nil,List.toList_toArray,Array.toList_append,Option.toArray_some,Option.toArray_none,Bool.and_self,ty,zbq,zbf,zaz,zar,zax,zbh,rrd,fillS,recV,hN,c1,c2,i1,i2,i3,i4,i5,i6,i7,i8,x1,x2,x3,x4,x5,x6,hlen,q1,q2,q3,q4,d5,hG,hV]
   · have c1 : decide ((((g0 bs e : Nat) : Int)).tmod 2 = 1) = false := decide_eq_false (by rw [Int.tmod_eq_emod_of_nonneg (by omega)]; unfold gk at hk; have := of_decide_eq_false hk; omega)
     have c2 : decide (((((g0 bs e : Nat) : Int)).tdiv 2 % 18446744073709551616).tmod 2 = 1) = false := decide_eq_false (by rw [Int.tdiv_eq_ediv_of_nonneg (by omega),Int.tmod_eq_emod_of_nonneg (by omega)]; unfold gdd at hdd; have := of_decide_eq_false hdd; omega)
     have x1 : gb3 bs e = gb4 bs e := by unfold gb4; rw [hk]; rfl
     have x2 : ge3 bs e = ge4 bs e := by unfold ge4; rw [hk]; rfl
     have x3 : gkey bs e = [] := by unfold gkey; rw [hk]; rfl
     have x4 : rtL 512 (gb4 bs e) (ge4 bs e) = gb5 bs e := by unfold gb5; rw [hdd]; rfl
     have x5 : rtE 512 (gb4 bs e) (ge4 bs e) = ge5 bs e := by unfold ge5; rw [hdd]; rfl
     have x6 : rtS' 512 (gb4 bs e) (ge4 bs e) = gval bs e := by unfold gval; rw [hdd]; rfl
     by_cases h5 : ge5 bs e = 0
     · have e5 : ge5 bs e = 0 := by first | exact h5 | (rw [x5]; exact h5)
       by_cases h4 : 4 ≤ g0 bs e
       · have d4 : decide ((3 : Int) < ((g0 bs e : Nat) : Int)) = true := decide_eq_true (by omega)
         have hG : gerr bs e = 4 := by unfold gerr; rw [if_neg (by simpa using e5),if_pos (.inl h4)]
         have hV : grec bs e = recV 0 0 false [] false [] := by unfold grec; rw [hG]; rfl
         simp only [go_sem,coe,zac,Nat.reduceAdd,Nat.reduceSub,Nat.reduceMul,Int.reduceToNat,reduceCtorEq,↓reduceIte,Int.reducePow,Nat.reducePow,Int.reduceMod,Nat.reduceLeDiff,Int.reduceLE,Int.reduceNe,Int.reduceEq,Nat.reduceEqDiff,Nat.reduceLT,Nat.reduceBEq,List.map_cons,List.map_nil,List.toList_toArray,Array.toList_append,Option.toArray_some,Option.toArray_none,Bool.and_self,ty,zbq,zbf,zaz,zar,zax,zbh,rrd,fillS,recV,hN,c1,c2,i1,i2,i3,i4,i5,i6,i7,i8,x1,x2,x3,x4,x5,x6,hlen,q1,q2,q3,q4,h5,d4,hG,hV]
         refine ⟨_,Weak.refl _,?_⟩
         simp only [go_sem,coe,zac,Nat.reduceAdd,Nat.reduceSub,Nat.reduceMul,Int.reduceToNat,reduceCtorEq,↓reduceIte,Int.reducePow,Nat.reducePow,Int.reduceMod,Nat.reduceLeDiff,Int.reduceLE,Int.reduceNe,Int.reduceEq,Nat.reduceEqDiff,Nat.reduceLT,Nat.reduceBEq,List.map_cons,List.map_nil,List.toList_toArray,Array.toList_append,Option.toArray_some,Option.toArray_none,Bool.and_self,ty,zbq,zbf,zaz,zar,zax,zbh,rrd,fillS,recV,hN,c1,c2,i1,i2,i3,i4,i5,i6,i7,i8,x1,x2,x3,x4,x5,x6,hlen,q1,q2,q3,q4,h5,d4,hG,hV]
       · have d4 : decide ((3 : Int) < ((g0 bs e : Nat) : Int)) = false := decide_eq_false (by omega)
         by_cases hc : rchk (gd bs e) (gt bs e) false ([]) false (gval bs e) = 0
         · have hG : gerr bs e = 0 := by unfold gerr; rw [if_neg (by simpa using e5),hk,hdd,x3,if_neg (by rintro (h | h); exact h4 h; exact h hc)]
           have hV : grec bs e = recV (gd bs e) (gt bs e) false ([]) false (gval bs e) := by unfold grec; rw [hG,if_pos rfl,hk,hdd,x3]
           simp only [go_sem,coe,zac,Nat.reduceAdd,Nat.reduceSub,Nat.reduceMul,Int.reduceToNat,reduceCtorEq,↓reduceIte,Int.reducePow,Nat.reducePow,Int.reduceMod,Nat.reduceLeDiff,Int.reduceLE,Int.reduceNe,Int.reduceEq,Nat.reduceEqDiff,Nat.reduceLT,Nat.reduceBEq,List.map_cons,List.map_nil,List.toList_toArray,Array.toList_append,Option.toArray_some,Option.toArray_none,Bool.and_self,ty,zbq,zbf,zaz,zar,zax,zbh,rrd,fillS,recV,hN,c1,c2,i1,i2,i3,i4,i5,i6,i7,i8,x1,x2,x3,x4,x5,x6,hlen,q1,q2,q3,q4,h5,d4,hG,hV,hc]
           refine ⟨_,Weak.refl _,?_⟩
           simp only [go_sem,coe,zac,Nat.reduceAdd,Nat.reduceSub,Nat.reduceMul,Int.reduceToNat,reduceCtorEq,↓reduceIte,Int.reducePow,Nat.reducePow,Int.reduceMod,Nat.reduceLeDiff,Int.reduceLE,Int.reduceNe,Int.reduceEq,Nat.reduceEqDiff,Nat.reduceLT,Nat.reduceBEq,List.map_cons,List.map_nil,List.toList_toArray,Array.toList_append,Option.toArray_some,Option.toArray_none,Bool.and_self,ty,zbq,zbf,zaz,zar,zax,zbh,rrd,fillS,recV,hN,c1,c2,i1,i2,i3,i4,i5,i6,i7,i8,x1,x2,x3,x4,x5,x6,hlen,q1,q2,q3,q4,h5,d4,hG,hV,hc]
         · have hG : gerr bs e = 4 := by unfold gerr; rw [if_neg (by simpa using e5),hk,hdd,x3,if_pos (.inr hc)]
           have hV : grec bs e = recV 0 0 false [] false [] := by unfold grec; rw [hG]; rfl
           have d5 : decide (rchk (gd bs e) (gt bs e) false ([]) false (gval bs e) = 0) = false := decide_eq_false hc
           simp only [go_sem,coe,zac,Nat.reduceAdd,Nat.reduceSub,Nat.reduceMul,Int.reduceToNat,reduceCtorEq,↓reduceIte,Int.reducePow,Nat.reducePow,Int.reduceMod,Nat.reduceLeDiff,Int.reduceLE,Int.reduceNe,Int.reduceEq,Nat.reduceEqDiff,Nat.reduceLT,Nat.reduceBEq,List.map_cons,List.map_nil,List.toList_toArray,Array.toList_append,Option.toArray_some,Option.toArray_none,Bool.and_self,ty,zbq,zbf,zaz,zar,zax,zbh,rrd,fillS,recV,hN,c1,c2,i1,i2,i3,i4,i5,i6,i7,i8,x1,x2,x3,x4,x5,x6,hlen,q1,q2,q3,q4,h5,d4,hG,hV,d5]
           refine ⟨_,Weak.refl _,?_⟩
           simp only [go_sem,coe,zac,Nat.reduceAdd,Nat.reduceSub,Nat.reduceMul,Int.reduceToNat,reduceCtorEq,↓reduceIte,Int.reducePow,Nat.reducePow,Int.reduceMod,Nat.reduceLeDiff,Int.reduceLE,Int.reduceNe,Int.reduceEq,Nat.reduceEqDiff,Nat.reduceLT,Nat.reduceBEq,List.map_cons,List.map_nil,List.toList_toArray,Array.toList_append,Option.toArray_some,Option.toArray_none,Bool.and_self,ty,zbq,zbf,zaz,zar,zax,zbh,rrd,fillS,recV,hN,c1,c2,i1,i2,i3,i4,i5,i6,i7,i8,x1,x2,x3,x4,x5,x6,hlen,q1,q2,q3,q4,h5,d4,hG,hV,d5]
     · have e5 : ¬ ge5 bs e = 0 := by first | exact h5 | (rw [x5]; exact h5)
       have d5 : decide (ge5 bs e = 0) = false := decide_eq_false h5
       have hG : gerr bs e = ge5 bs e := by unfold gerr; rw [if_pos e5]
       have hV : grec bs e = recV 0 0 false [] false [] := by unfold grec; rw [hG,if_neg h5]
       simp only [go_sem,coe,zac,Nat.reduceAdd,Nat.reduceSub,Nat.reduceMul,Int.reduceToNat,reduceCtorEq,↓reduceIte,Int.reducePow,Nat.reducePow,Int.reduceMod,Nat.reduceLeDiff,Int.reduceLE,Int.reduceNe,Int.reduceEq,Nat.reduceEqDiff,Nat.reduceLT,Nat.reduceBEq,List.map_cons,List.map_nil,List.toList_toArray,Array.toList_append,Option.toArray_some,Option.toArray_none,Bool.and_self,ty,zbq,zbf,zaz,zar,zax,zbh,rrd,fillS,recV,hN,c1,c2,i1,i2,i3,i4,i5,i6,i7,i8,x1,x2,x3,x4,x5,x6,hlen,q1,q2,q3,q4,d5,hG,hV]
       refine ⟨_,Weak.refl _,?_⟩
       simp only [go_sem,coe,zac,Nat.reduceAdd,Nat.reduceSub,Nat.reduceMul,Int.reduceToNat,reduceCtorEq,↓reduceIte,Int.reducePow,Nat.reducePow,Int.reduceMod,Nat.reduceLeDiff,Int.reduceLE,Int.reduceNe,Int.reduceEq,Nat.reduceEqDiff,Nat.reduceLT,Nat.reduceBEq,List.map_cons,List.map_nil,List.toList_toArray,Array.toList_append,Option.toArray_some,Option.toArray_none,Bool.and_self,ty,zbq,zbf,zaz,zar,zax,zbh,rrd,fillS,recV,hN,c1,c2,i1,i2,i3,i4,i5,i6,i7,i8,x1,x2,x3,x4,x5,x6,hlen,q1,q2,q3,q4,d5,hG,hV]
 · exact hp.elim
end
end Go.Proofs.Ytihbcgbmlecpbaa
