/- What the proofs of this seat stand on; it asks nothing. -/
import Derived.Test.YtmedjkjoannbmaaZa18
import Derived.Test.YtmedjkjoannbmaaZc00
import Derived.Test.YtmedjkjoannbmaaZd00
import Derived.Test.YtmedjkjoannbmaaZi00
set_option linter.unusedSimpArgs false
set_option linter.unusedVariables false
namespace Go.Proofs.Ytmedjkjoannbmaa
open Ax
def zbi : XPlan := fun id => match id with
 | 3 => .prs [(0,2)]
 | _ => .std
theorem cst22 : ((0 : Nat) : Int) = 0 ∧ ((1 : Nat) : Int) = 1 ∧ ((2 : Nat) : Int) = 2 ∧ ((3 : Nat) : Int) = 3 ∧ ((4 : Nat) : Int) = 4 ∧ ((5 : Nat) : Int) = 5 ∧ ((6 : Nat) : Int) = 6 := ⟨rfl,rfl,rfl,rfl,rfl,rfl,rfl⟩
section
set_option maxRecDepth 100000
set_option maxHeartbeats 8000000 in
theorem rputQ_k0 (t : List UInt8) (i p : Int) (c f : Bool) (o m w : Int) (g mb : List UInt8) (n b1 b2 b3 b4 b5 : Int) (rs : List Rec) (fl : Bool) (hc : chkQ 0 t i p c f o m w g mb n b1 b2 b3 b4 b5 rs = 0) (hq : lenQ t g mb) (hr : intQ i p o m w n) (h40 : (rs.map rv).length ≤ 40) :
   awpO zbz noO ty zbi (Try.f11.body.getD .skip) (zbs ty Try.f11.results.toList [] ⟨True,.tup [.ms 0 1 0 (layQ 0 t i p c f o m w g mb n b1 b2 b3 b4 b5 rs).length,.w (.int .i64 0)],[.b (layQ 0 t i p c f o m w g mb n b1 b2 b3 b4 b5 rs)]⟩) ⟨[.agg [.w (.int .u8 0),.str t,.w (.int .i64 i),.w (.int .i64 p),.w (.bool c),.w (.bool f),.w (.int .i64 o),.w (.int .i64 m),.w (.int .i64 w),.str g,.str mb,.w (.int .i64 n),.w (.int .i64 b1),.w (.int .i64 b2),.w (.int .i64 b3),.w (.int .i64 b4),.w (.int .i64 b5),.sg 6 (rs.map rv) fl]] ++ List.replicate (Try.f11.ntmps - 1) .junk,pinHeap 0 [],4⟩ := by
 have hso := (zbb rs hc).2.1
 obtain ⟨q1,q2,q3⟩ := hq
 obtain ⟨r1,r2,r3,r4,r5,r6⟩ := hr
 have lq : lenQ t g mb := ⟨q1,q2,q3⟩
 have iq : intQ i p o m w n := ⟨r1,r2,r3,r4,r5,r6⟩
 obtain ⟨-,-,hlong,hb⟩ := zbb rs hc
 unfold zch at hlong
 have g1 := zac t q1
 have g2 := zac g q2
 have g3 := zac mb q3
 have l1 := zad i r1
 have l2 := zad p r2
 have l3 := zad o r3
 have l4 := zad m r4
 have l5 := zad w r5
 have l6 := zad n r6
 unfold okI at r1 r2 r3 r4 r5 r6
 have hbl := zan b1 b2 b3 b4 b5 rs
 have g4 := zac (batB b1 b2 b3 b4 b5 rs) (by omega)
 have hL : (rs.map rv).length ≤ 9223372036854775807 := by omega
 have hmr := zag rs
 have hex : ∃ qs : List Rec,rs.map rv = qs.map rv := ⟨rs,rfl⟩
 have tk : ∀ l : List UInt8,List.take l.length l = l := fun l => List.take_length
 have hLay : layQ 0 t i p c f o m w g mb n b1 b2 b3 b4 b5 rs = UInt8.ofNat 0 :: (zaj t ++ (pq p ++ ([UInt8.ofNat (bitN c).toNat]))) := by simp [layQ,zat,zbc]
 obtain ⟨Y,hY⟩ : ∃ x,layQ 0 t i p c f o m w g mb n b1 b2 b3 b4 b5 rs = x := ⟨_,rfl⟩
 rw [hY] at hLay ⊢
 obtain ⟨t',i',p',c',f',o',m',w',g',mb',n',b1',b2',b3',b4',b5',ys,fm,hO,hY1,hY2,hS⟩ := zdc 0 t i p c f o m w g mb n b1 b2 b3 b4 b5 rs fl hL
 rw [hso] at hS
 have d1 : decide ((255 : Int) < t.length) = false := decide_eq_false (by omega)
 have d2 : decide ((255 : Int) < g.length) = false := decide_eq_false (by omega)
 have d3 : decide ((255 : Int) < mb.length) = false := decide_eq_false (by omega)
 have hbt : (batB 0 b2 b3 b4 b5 rs).length ≤ 1000000 := by have := zan 0 b2 b3 b4 b5 rs; omega
 unfold Try.f11
 simp only [go_sem,zab,Nat.reduceAdd,Nat.reduceSub,Nat.reduceMul,Int.reduceToNat,reduceCtorEq,↓reduceIte,Int.reducePow,Nat.reducePow,Int.reduceMod,Nat.reduceLeDiff,Int.reduceLE,Int.reduceNe,Int.reduceEq,Nat.reduceEqDiff,Nat.reduceLT,Nat.reduceBEq,List.map_cons,List.map_nil,List.toList_toArray,Array.toList_append,Option.toArray_some,Option.toArray_none,Bool.and_self,ty,zbz,zbi,zcj,zdp,zew,zcp,zbh,zat,hO,hY1,hY2,hS,d1,d2,d3,hc,hL,h40,hex,hmr,hbt,tk,Int.reduceEq,Nat.reduceEqDiff,or_self,or_false,false_or,or_true,true_or,if_true,if_false,Int.reduceLE,Int.reduceLT]
 refine zcf 5 ?_
 simp only [go_sem,zab,Nat.reduceAdd,Nat.reduceSub,Nat.reduceMul,Int.reduceToNat,reduceCtorEq,↓reduceIte,Int.reducePow,Nat.reducePow,Int.reduceMod,Nat.reduceLeDiff,Int.reduceLE,Int.reduceNe,Int.reduceEq,Nat.reduceEqDiff,Nat.reduceLT,Nat.reduceBEq,List.map_cons,List.map_nil,List.toList_toArray,Array.toList_append,Option.toArray_some,Option.toArray_none,Bool.and_self,ty,zbz,zbi,zcp,putS,zef,zcw,zaf,zal,zar,Int.reduceAdd,Int.reduceSub,Int.cast_ofNat_Int,q1,q2,q3,r1,r2,r3,r4,r5,r6,zct,tk,cst22,gx22_5,Int.reduceEq,Nat.reduceEqDiff,or_self,or_false,false_or,or_true,true_or,if_true,if_false,Int.reduceLT]
 repeat (refine And.intro (by first | decide | (unfold top; simp only [List.length_append,List.length_cons,List.length_nil]; omega) | (unfold top; omega)) ?_)
 exact zav 2 3 (by decide) rfl rfl rfl (by simp; try omega) (by rw [hLay]; try simp) rfl
set_option maxHeartbeats 8000000 in
theorem rputQ_k1 (t : List UInt8) (i p : Int) (c f : Bool) (o m w : Int) (g mb : List UInt8) (n b1 b2 b3 b4 b5 : Int) (rs : List Rec) (fl : Bool) (hc : chkQ 1 t i p c f o m w g mb n b1 b2 b3 b4 b5 rs = 0) (hq : lenQ t g mb) (hr : intQ i p o m w n) (h40 : (rs.map rv).length ≤ 40) :
   awpO zbz noO ty zbi (Try.f11.body.getD .skip) (zbs ty Try.f11.results.toList [] ⟨True,.tup [.ms 0 1 0 (layQ 1 t i p c f o m w g mb n b1 b2 b3 b4 b5 rs).length,.w (.int .i64 0)],[.b (layQ 1 t i p c f o m w g mb n b1 b2 b3 b4 b5 rs)]⟩) ⟨[.agg [.w (.int .u8 1),.str t,.w (.int .i64 i),.w (.int .i64 p),.w (.bool c),.w (.bool f),.w (.int .i64 o),.w (.int .i64 m),.w (.int .i64 w),.str g,.str mb,.w (.int .i64 n),.w (.int .i64 b1),.w (.int .i64 b2),.w (.int .i64 b3),.w (.int .i64 b4),.w (.int .i64 b5),.sg 6 (rs.map rv) fl]] ++ List.replicate (Try.f11.ntmps - 1) .junk,pinHeap 0 [],4⟩ := by
 have hso := (zbb rs hc).2.1
 obtain ⟨q1,q2,q3⟩ := hq
 obtain ⟨r1,r2,r3,r4,r5,r6⟩ := hr
 have lq : lenQ t g mb := ⟨q1,q2,q3⟩
 have iq : intQ i p o m w n := ⟨r1,r2,r3,r4,r5,r6⟩
 obtain ⟨-,-,hlong,hb⟩ := zbb rs hc
 unfold zch at hlong
 have g1 := zac t q1
 have g2 := zac g q2
 have g3 := zac mb q3
 have l1 := zad i r1
 have l2 := zad p r2
 have l3 := zad o r3
 have l4 := zad m r4
 have l5 := zad w r5
 have l6 := zad n r6
 unfold okI at r1 r2 r3 r4 r5 r6
 have hbl := zan b1 b2 b3 b4 b5 rs
 have g4 := zac (batB b1 b2 b3 b4 b5 rs) (by omega)
 have hL : (rs.map rv).length ≤ 9223372036854775807 := by omega
 have hmr := zag rs
 have hex : ∃ qs : List Rec,rs.map rv = qs.map rv := ⟨rs,rfl⟩
 have tk : ∀ l : List UInt8,List.take l.length l = l := fun l => List.take_length
 have hLay : layQ 1 t i p c f o m w g mb n b1 b2 b3 b4 b5 rs = UInt8.ofNat 1 :: (zaj t) := by simp [layQ,zat,zbc]
 obtain ⟨Y,hY⟩ : ∃ x,layQ 1 t i p c f o m w g mb n b1 b2 b3 b4 b5 rs = x := ⟨_,rfl⟩
 rw [hY] at hLay ⊢
 obtain ⟨t',i',p',c',f',o',m',w',g',mb',n',b1',b2',b3',b4',b5',ys,fm,hO,hY1,hY2,hS⟩ := zdc 1 t i p c f o m w g mb n b1 b2 b3 b4 b5 rs fl hL
 rw [hso] at hS
 have d1 : decide ((255 : Int) < t.length) = false := decide_eq_false (by omega)
 have d2 : decide ((255 : Int) < g.length) = false := decide_eq_false (by omega)
 have d3 : decide ((255 : Int) < mb.length) = false := decide_eq_false (by omega)
 have hbt : (batB 0 b2 b3 b4 b5 rs).length ≤ 1000000 := by have := zan 0 b2 b3 b4 b5 rs; omega
 unfold Try.f11
 simp only [go_sem,zab,Nat.reduceAdd,Nat.reduceSub,Nat.reduceMul,Int.reduceToNat,reduceCtorEq,↓reduceIte,Int.reducePow,Nat.reducePow,Int.reduceMod,Nat.reduceLeDiff,Int.reduceLE,Int.reduceNe,Int.reduceEq,Nat.reduceEqDiff,Nat.reduceLT,Nat.reduceBEq,List.map_cons,List.map_nil,List.toList_toArray,Array.toList_append,Option.toArray_some,Option.toArray_none,Bool.and_self,ty,zbz,zbi,zcj,zdp,zew,zcp,zbh,zat,hO,hY1,hY2,hS,d1,d2,d3,hc,hL,h40,hex,hmr,hbt,tk,Int.reduceEq,Nat.reduceEqDiff,or_self,or_false,false_or,or_true,true_or,if_true,if_false,Int.reduceLE,Int.reduceLT]
 refine zcf 3 ?_
 simp only [go_sem,zab,Nat.reduceAdd,Nat.reduceSub,Nat.reduceMul,Int.reduceToNat,reduceCtorEq,↓reduceIte,Int.reducePow,Nat.reducePow,Int.reduceMod,Nat.reduceLeDiff,Int.reduceLE,Int.reduceNe,Int.reduceEq,Nat.reduceEqDiff,Nat.reduceLT,Nat.reduceBEq,List.map_cons,List.map_nil,List.toList_toArray,Array.toList_append,Option.toArray_some,Option.toArray_none,Bool.and_self,ty,zbz,zbi,zcp,putS,zef,zcw,zaf,zal,zar,Int.reduceAdd,Int.reduceSub,Int.cast_ofNat_Int,q1,q2,q3,r1,r2,r3,r4,r5,r6,zct,tk,cst22,gx22_0,Int.reduceEq,Nat.reduceEqDiff,or_self,or_false,false_or,or_true,true_or,if_true,if_false,Int.reduceLT]
 repeat (refine And.intro (by first | decide | (unfold top; simp only [List.length_append,List.length_cons,List.length_nil]; omega) | (unfold top; omega)) ?_)
 exact zav 2 3 (by decide) rfl rfl rfl (by simp; try omega) (by rw [hLay]; try simp) rfl
set_option maxHeartbeats 8000000 in
theorem rputQ_k2 (t : List UInt8) (i p : Int) (c f : Bool) (o m w : Int) (g mb : List UInt8) (n b1 b2 b3 b4 b5 : Int) (rs : List Rec) (fl : Bool) (hc : chkQ 2 t i p c f o m w g mb n b1 b2 b3 b4 b5 rs = 0) (hq : lenQ t g mb) (hr : intQ i p o m w n) (h40 : (rs.map rv).length ≤ 40) :
   awpO zbz noO ty zbi (Try.f11.body.getD .skip) (zbs ty Try.f11.results.toList [] ⟨True,.tup [.ms 0 1 0 (layQ 2 t i p c f o m w g mb n b1 b2 b3 b4 b5 rs).length,.w (.int .i64 0)],[.b (layQ 2 t i p c f o m w g mb n b1 b2 b3 b4 b5 rs)]⟩) ⟨[.agg [.w (.int .u8 2),.str t,.w (.int .i64 i),.w (.int .i64 p),.w (.bool c),.w (.bool f),.w (.int .i64 o),.w (.int .i64 m),.w (.int .i64 w),.str g,.str mb,.w (.int .i64 n),.w (.int .i64 b1),.w (.int .i64 b2),.w (.int .i64 b3),.w (.int .i64 b4),.w (.int .i64 b5),.sg 6 (rs.map rv) fl]] ++ List.replicate (Try.f11.ntmps - 1) .junk,pinHeap 0 [],4⟩ := by
 have hso := (zbb rs hc).2.1
 obtain ⟨q1,q2,q3⟩ := hq
 obtain ⟨r1,r2,r3,r4,r5,r6⟩ := hr
 have lq : lenQ t g mb := ⟨q1,q2,q3⟩
 have iq : intQ i p o m w n := ⟨r1,r2,r3,r4,r5,r6⟩
 obtain ⟨-,-,hlong,hb⟩ := zbb rs hc
 unfold zch at hlong
 have g1 := zac t q1
 have g2 := zac g q2
 have g3 := zac mb q3
 have l1 := zad i r1
 have l2 := zad p r2
 have l3 := zad o r3
 have l4 := zad m r4
 have l5 := zad w r5
 have l6 := zad n r6
 unfold okI at r1 r2 r3 r4 r5 r6
 have hbl := zan b1 b2 b3 b4 b5 rs
 have g4 := zac (batB b1 b2 b3 b4 b5 rs) (by omega)
 have hL : (rs.map rv).length ≤ 9223372036854775807 := by omega
 have hmr := zag rs
 have hex : ∃ qs : List Rec,rs.map rv = qs.map rv := ⟨rs,rfl⟩
 have tk : ∀ l : List UInt8,List.take l.length l = l := fun l => List.take_length
 have hLay : layQ 2 t i p c f o m w g mb n b1 b2 b3 b4 b5 rs = UInt8.ofNat 2 :: (zaj t) := by simp [layQ,zat,zbc]
 obtain ⟨Y,hY⟩ : ∃ x,layQ 2 t i p c f o m w g mb n b1 b2 b3 b4 b5 rs = x := ⟨_,rfl⟩
 rw [hY] at hLay ⊢
 obtain ⟨t',i',p',c',f',o',m',w',g',mb',n',b1',b2',b3',b4',b5',ys,fm,hO,hY1,hY2,hS⟩ := zdc 2 t i p c f o m w g mb n b1 b2 b3 b4 b5 rs fl hL
 rw [hso] at hS
 have d1 : decide ((255 : Int) < t.length) = false := decide_eq_false (by omega)
 have d2 : decide ((255 : Int) < g.length) = false := decide_eq_false (by omega)
 have d3 : decide ((255 : Int) < mb.length) = false := decide_eq_false (by omega)
 have hbt : (batB 0 b2 b3 b4 b5 rs).length ≤ 1000000 := by have := zan 0 b2 b3 b4 b5 rs; omega
 unfold Try.f11
 simp only [go_sem,zab,Nat.reduceAdd,Nat.reduceSub,Nat.reduceMul,Int.reduceToNat,reduceCtorEq,↓reduceIte,Int.reducePow,Nat.reducePow,Int.reduceMod,Nat.reduceLeDiff,Int.reduceLE,Int.reduceNe,Int.reduceEq,Nat.reduceEqDiff,Nat.reduceLT,Nat.reduceBEq,List.map_cons,List.map_nil,List.toList_toArray,Array.toList_append,Option.toArray_some,Option.toArray_none,Bool.and_self,ty,zbz,zbi,zcj,zdp,zew,zcp,zbh,zat,hO,hY1,hY2,hS,d1,d2,d3,hc,hL,h40,hex,hmr,hbt,tk,Int.reduceEq,Nat.reduceEqDiff,or_self,or_false,false_or,or_true,true_or,if_true,if_false,Int.reduceLE,Int.reduceLT]
 refine zcf 3 ?_
 simp only [go_sem,zab,Nat.reduceAdd,Nat.reduceSub,Nat.reduceMul,Int.reduceToNat,reduceCtorEq,↓reduceIte,Int.reducePow,Nat.reducePow,Int.reduceMod,Nat.reduceLeDiff,Int.reduceLE,Int.reduceNe,Int.reduceEq,Nat.reduceEqDiff,Nat.reduceLT,Nat.reduceBEq,List.map_cons,List.map_nil,List.toList_toArray,Array.toList_append,Option.toArray_some,Option.toArray_none,Bool.and_self,ty,zbz,zbi,zcp,putS,zef,zcw,zaf,zal,zar,Int.reduceAdd,Int.reduceSub,Int.cast_ofNat_Int,q1,q2,q3,r1,r2,r3,r4,r5,r6,zct,tk,cst22,gx22_0,Int.reduceEq,Nat.reduceEqDiff,or_self,or_false,false_or,or_true,true_or,if_true,if_false,Int.reduceLT]
 repeat (refine And.intro (by first | decide | (unfold top; simp only [List.length_append,List.length_cons,List.length_nil]; omega) | (unfold top; omega)) ?_)
 exact zav 2 3 (by decide) rfl rfl rfl (by simp; try omega) (by rw [hLay]; try simp) rfl
set_option maxHeartbeats 8000000 in
theorem rputQ_k3 (t : List UInt8) (i p : Int) (c f : Bool) (o m w : Int) (g mb : List UInt8) (n b1 b2 b3 b4 b5 : Int) (rs : List Rec) (fl : Bool) (hc : chkQ 3 t i p c f o m w g mb n b1 b2 b3 b4 b5 rs = 0) (hq : lenQ t g mb) (hr : intQ i p o m w n) (h40 : (rs.map rv).length ≤ 40) :
   awpO zbz noO ty zbi (Try.f11.body.getD .skip) (zbs ty Try.f11.results.toList [] ⟨True,.tup [.ms 0 1 0 (layQ 3 t i p c f o m w g mb n b1 b2 b3 b4 b5 rs).length,.w (.int .i64 0)],[.b (layQ 3 t i p c f o m w g mb n b1 b2 b3 b4 b5 rs)]⟩) ⟨[.agg [.w (.int .u8 3),.str t,.w (.int .i64 i),.w (.int .i64 p),.w (.bool c),.w (.bool f),.w (.int .i64 o),.w (.int .i64 m),.w (.int .i64 w),.str g,.str mb,.w (.int .i64 n),.w (.int .i64 b1),.w (.int .i64 b2),.w (.int .i64 b3),.w (.int .i64 b4),.w (.int .i64 b5),.sg 6 (rs.map rv) fl]] ++ List.replicate (Try.f11.ntmps - 1) .junk,pinHeap 0 [],4⟩ := by
 have hso := (zbb rs hc).2.1
 obtain ⟨q1,q2,q3⟩ := hq
 obtain ⟨r1,r2,r3,r4,r5,r6⟩ := hr
 have lq : lenQ t g mb := ⟨q1,q2,q3⟩
 have iq : intQ i p o m w n := ⟨r1,r2,r3,r4,r5,r6⟩
 obtain ⟨-,-,hlong,hb⟩ := zbb rs hc
 unfold zch at hlong
 have g1 := zac t q1
 have g2 := zac g q2
 have g3 := zac mb q3
 have l1 := zad i r1
 have l2 := zad p r2
 have l3 := zad o r3
 have l4 := zad m r4
 have l5 := zad w r5
 have l6 := zad n r6
 unfold okI at r1 r2 r3 r4 r5 r6
 have hbl := zan b1 b2 b3 b4 b5 rs
 have g4 := zac (batB b1 b2 b3 b4 b5 rs) (by omega)
 have hL : (rs.map rv).length ≤ 9223372036854775807 := by omega
 have hmr := zag rs
 have hex : ∃ qs : List Rec,rs.map rv = qs.map rv := ⟨rs,rfl⟩
 have tk : ∀ l : List UInt8,List.take l.length l = l := fun l => List.take_length
 obtain ⟨hbE,rfl⟩ := hb rfl
 have hLay : layQ 3 t i p c f o m w g mb n 0 b2 b3 b4 b5 rs = UInt8.ofNat 3 :: (zaj t ++ (pq i ++ ([UInt8.ofNat (bitN f).toNat] ++ (zaj (batB 0 b2 b3 b4 b5 rs))))) := by simp [layQ,zat,zbc]
 obtain ⟨Y,hY⟩ : ∃ x,layQ 3 t i p c f o m w g mb n 0 b2 b3 b4 b5 rs = x := ⟨_,rfl⟩
 rw [hY] at hLay ⊢
 obtain ⟨t',i',p',c',f',o',m',w',g',mb',n',b1',b2',b3',b4',b5',ys,fm,hO,hY1,hY2,hS⟩ := zdc 3 t i p c f o m w g mb n 0 b2 b3 b4 b5 rs fl hL
 rw [hso] at hS
 have d1 : decide ((255 : Int) < t.length) = false := decide_eq_false (by omega)
 have d2 : decide ((255 : Int) < g.length) = false := decide_eq_false (by omega)
 have d3 : decide ((255 : Int) < mb.length) = false := decide_eq_false (by omega)
 have hbt : (batB 0 b2 b3 b4 b5 rs).length ≤ 1000000 := by have := zan 0 b2 b3 b4 b5 rs; omega
 unfold Try.f11
 simp only [go_sem,zab,Nat.reduceAdd,Nat.reduceSub,Nat.reduceMul,Int.reduceToNat,reduceCtorEq,↓reduceIte,Int.reducePow,Nat.reducePow,Int.reduceMod,Nat.reduceLeDiff,Int.reduceLE,Int.reduceNe,Int.reduceEq,Nat.reduceEqDiff,Nat.reduceLT,Nat.reduceBEq,List.map_cons,List.map_nil,List.toList_toArray,Array.toList_append,Option.toArray_some,Option.toArray_none,Bool.and_self,ty,zbz,zbi,zcj,zdp,zew,zcp,zbh,zat,hO,hY1,hY2,hS,d1,d2,d3,hc,hL,h40,hex,hmr,hbt,hbE,tk,Int.reduceEq,Nat.reduceEqDiff,or_self,or_false,false_or,or_true,true_or,if_true,if_false,Int.reduceLE,Int.reduceLT]
 refine zcf 6 ?_
 simp only [go_sem,zab,Nat.reduceAdd,Nat.reduceSub,Nat.reduceMul,Int.reduceToNat,reduceCtorEq,↓reduceIte,Int.reducePow,Nat.reducePow,Int.reduceMod,Nat.reduceLeDiff,Int.reduceLE,Int.reduceNe,Int.reduceEq,Nat.reduceEqDiff,Nat.reduceLT,Nat.reduceBEq,List.map_cons,List.map_nil,List.toList_toArray,Array.toList_append,Option.toArray_some,Option.toArray_none,Bool.and_self,ty,zbz,zbi,zcp,putS,zef,zcw,zaf,zal,zar,Int.reduceAdd,Int.reduceSub,Int.cast_ofNat_Int,q1,q2,q3,r1,r2,r3,r4,r5,r6,zct,tk,cst22,gx22_7,Int.reduceEq,Nat.reduceEqDiff,or_self,or_false,false_or,or_true,true_or,if_true,if_false,Int.reduceLT]
 repeat (refine And.intro (by first | decide | (unfold top; simp only [List.length_append,List.length_cons,List.length_nil]; omega) | (unfold top; omega)) ?_)
 exact zav 2 3 (by decide) rfl rfl rfl (by simp; try omega) (by rw [hLay]; try simp) rfl
set_option maxHeartbeats 8000000 in
theorem rputQ_k4 (t : List UInt8) (i p : Int) (c f : Bool) (o m w : Int) (g mb : List UInt8) (n b1 b2 b3 b4 b5 : Int) (rs : List Rec) (fl : Bool) (hc : chkQ 4 t i p c f o m w g mb n b1 b2 b3 b4 b5 rs = 0) (hq : lenQ t g mb) (hr : intQ i p o m w n) (h40 : (rs.map rv).length ≤ 40) :
   awpO zbz noO ty zbi (Try.f11.body.getD .skip) (zbs ty Try.f11.results.toList [] ⟨True,.tup [.ms 0 1 0 (layQ 4 t i p c f o m w g mb n b1 b2 b3 b4 b5 rs).length,.w (.int .i64 0)],[.b (layQ 4 t i p c f o m w g mb n b1 b2 b3 b4 b5 rs)]⟩) ⟨[.agg [.w (.int .u8 4),.str t,.w (.int .i64 i),.w (.int .i64 p),.w (.bool c),.w (.bool f),.w (.int .i64 o),.w (.int .i64 m),.w (.int .i64 w),.str g,.str mb,.w (.int .i64 n),.w (.int .i64 b1),.w (.int .i64 b2),.w (.int .i64 b3),.w (.int .i64 b4),.w (.int .i64 b5),.sg 6 (rs.map rv) fl]] ++ List.replicate (Try.f11.ntmps - 1) .junk,pinHeap 0 [],4⟩ := by
 have hso := (zbb rs hc).2.1
 obtain ⟨q1,q2,q3⟩ := hq
 obtain ⟨r1,r2,r3,r4,r5,r6⟩ := hr
 have lq : lenQ t g mb := ⟨q1,q2,q3⟩
 have iq : intQ i p o m w n := ⟨r1,r2,r3,r4,r5,r6⟩
 obtain ⟨-,-,hlong,hb⟩ := zbb rs hc
 unfold zch at hlong
 have g1 := zac t q1
 have g2 := zac g q2
 have g3 := zac mb q3
 have l1 := zad i r1
 have l2 := zad p r2
 have l3 := zad o r3
 have l4 := zad m r4
 have l5 := zad w r5
 have l6 := zad n r6
 unfold okI at r1 r2 r3 r4 r5 r6
 have hbl := zan b1 b2 b3 b4 b5 rs
 have g4 := zac (batB b1 b2 b3 b4 b5 rs) (by omega)
 have hL : (rs.map rv).length ≤ 9223372036854775807 := by omega
 have hmr := zag rs
 have hex : ∃ qs : List Rec,rs.map rv = qs.map rv := ⟨rs,rfl⟩
 have tk : ∀ l : List UInt8,List.take l.length l = l := fun l => List.take_length
 have hLay : layQ 4 t i p c f o m w g mb n b1 b2 b3 b4 b5 rs = UInt8.ofNat 4 :: (zaj t ++ (pq i ++ (pq o ++ (pq m)))) := by simp [layQ,zat,zbc]
 obtain ⟨Y,hY⟩ : ∃ x,layQ 4 t i p c f o m w g mb n b1 b2 b3 b4 b5 rs = x := ⟨_,rfl⟩
 rw [hY] at hLay ⊢
 obtain ⟨t',i',p',c',f',o',m',w',g',mb',n',b1',b2',b3',b4',b5',ys,fm,hO,hY1,hY2,hS⟩ := zdc 4 t i p c f o m w g mb n b1 b2 b3 b4 b5 rs fl hL
 rw [hso] at hS
 have d1 : decide ((255 : Int) < t.length) = false := decide_eq_false (by omega)
 have d2 : decide ((255 : Int) < g.length) = false := decide_eq_false (by omega)
 have d3 : decide ((255 : Int) < mb.length) = false := decide_eq_false (by omega)
 have hbt : (batB 0 b2 b3 b4 b5 rs).length ≤ 1000000 := by have := zan 0 b2 b3 b4 b5 rs; omega
 unfold Try.f11
 simp only [go_sem,zab,Nat.reduceAdd,Nat.reduceSub,Nat.reduceMul,Int.reduceToNat,reduceCtorEq,↓reduceIte,Int.reducePow,Nat.reducePow,Int.reduceMod,Nat.reduceLeDiff,Int.reduceLE,Int.reduceNe,Int.reduceEq,Nat.reduceEqDiff,Nat.reduceLT,Nat.reduceBEq,List.map_cons,List.map_nil,List.toList_toArray,Array.toList_append,Option.toArray_some,Option.toArray_none,Bool.and_self,ty,zbz,zbi,zcj,zdp,zew,zcp,zbh,zat,hO,hY1,hY2,hS,d1,d2,d3,hc,hL,h40,hex,hmr,hbt,tk,Int.reduceEq,Nat.reduceEqDiff,or_self,or_false,false_or,or_true,true_or,if_true,if_false,Int.reduceLE,Int.reduceLT]
 refine zcf 6 ?_
 simp only [go_sem,zab,Nat.reduceAdd,Nat.reduceSub,Nat.reduceMul,Int.reduceToNat,reduceCtorEq,↓reduceIte,Int.reducePow,Nat.reducePow,Int.reduceMod,Nat.reduceLeDiff,Int.reduceLE,Int.reduceNe,Int.reduceEq,Nat.reduceEqDiff,Nat.reduceLT,Nat.reduceBEq,List.map_cons,List.map_nil,List.toList_toArray,Array.toList_append,Option.toArray_some,Option.toArray_none,Bool.and_self,ty,zbz,zbi,zcp,putS,zef,zcw,zaf,zal,zar,Int.reduceAdd,Int.reduceSub,Int.cast_ofNat_Int,q1,q2,q3,r1,r2,r3,r4,r5,r6,zct,tk,cst22,gx22_8,Int.reduceEq,Nat.reduceEqDiff,or_self,or_false,false_or,or_true,true_or,if_true,if_false,Int.reduceLT]
 repeat (refine And.intro (by first | decide | (unfold top; simp only [List.length_append,List.length_cons,List.length_nil]; omega) | (unfold top; omega)) ?_)
 exact zav 2 3 (by decide) rfl rfl rfl (by simp; try omega) (by rw [hLay]; try simp) rfl
set_option maxHeartbeats 8000000 in
theorem rputQ_k5 (t : List UInt8) (i p : Int) (c f : Bool) (o m w : Int) (g mb : List UInt8) (n b1 b2 b3 b4 b5 : Int) (rs : List Rec) (fl : Bool) (hc : chkQ 5 t i p c f o m w g mb n b1 b2 b3 b4 b5 rs = 0) (hq : lenQ t g mb) (hr : intQ i p o m w n) (h40 : (rs.map rv).length ≤ 40) :
   awpO zbz noO ty zbi (Try.f11.body.getD .skip) (zbs ty Try.f11.results.toList [] ⟨True,.tup [.ms 0 1 0 (layQ 5 t i p c f o m w g mb n b1 b2 b3 b4 b5 rs).length,.w (.int .i64 0)],[.b (layQ 5 t i p c f o m w g mb n b1 b2 b3 b4 b5 rs)]⟩) ⟨[.agg [.w (.int .u8 5),.str t,.w (.int .i64 i),.w (.int .i64 p),.w (.bool c),.w (.bool f),.w (.int .i64 o),.w (.int .i64 m),.w (.int .i64 w),.str g,.str mb,.w (.int .i64 n),.w (.int .i64 b1),.w (.int .i64 b2),.w (.int .i64 b3),.w (.int .i64 b4),.w (.int .i64 b5),.sg 6 (rs.map rv) fl]] ++ List.replicate (Try.f11.ntmps - 1) .junk,pinHeap 0 [],4⟩ := by
 have hso := (zbb rs hc).2.1
 obtain ⟨q1,q2,q3⟩ := hq
 obtain ⟨r1,r2,r3,r4,r5,r6⟩ := hr
 have lq : lenQ t g mb := ⟨q1,q2,q3⟩
 have iq : intQ i p o m w n := ⟨r1,r2,r3,r4,r5,r6⟩
 obtain ⟨-,-,hlong,hb⟩ := zbb rs hc
 unfold zch at hlong
 have g1 := zac t q1
 have g2 := zac g q2
 have g3 := zac mb q3
 have l1 := zad i r1
 have l2 := zad p r2
 have l3 := zad o r3
 have l4 := zad m r4
 have l5 := zad w r5
 have l6 := zad n r6
 unfold okI at r1 r2 r3 r4 r5 r6
 have hbl := zan b1 b2 b3 b4 b5 rs
 have g4 := zac (batB b1 b2 b3 b4 b5 rs) (by omega)
 have hL : (rs.map rv).length ≤ 9223372036854775807 := by omega
 have hmr := zag rs
 have hex : ∃ qs : List Rec,rs.map rv = qs.map rv := ⟨rs,rfl⟩
 have tk : ∀ l : List UInt8,List.take l.length l = l := fun l => List.take_length
 have hLay : layQ 5 t i p c f o m w g mb n b1 b2 b3 b4 b5 rs = UInt8.ofNat 5 :: (zaj t ++ (pq i ++ (pq w))) := by simp [layQ,zat,zbc]
 obtain ⟨Y,hY⟩ : ∃ x,layQ 5 t i p c f o m w g mb n b1 b2 b3 b4 b5 rs = x := ⟨_,rfl⟩
 rw [hY] at hLay ⊢
 obtain ⟨t',i',p',c',f',o',m',w',g',mb',n',b1',b2',b3',b4',b5',ys,fm,hO,hY1,hY2,hS⟩ := zdc 5 t i p c f o m w g mb n b1 b2 b3 b4 b5 rs fl hL
 rw [hso] at hS
 have d1 : decide ((255 : Int) < t.length) = false := decide_eq_false (by omega)
 have d2 : decide ((255 : Int) < g.length) = false := decide_eq_false (by omega)
 have d3 : decide ((255 : Int) < mb.length) = false := decide_eq_false (by omega)
 have hbt : (batB 0 b2 b3 b4 b5 rs).length ≤ 1000000 := by have := zan 0 b2 b3 b4 b5 rs; omega
 unfold Try.f11
 simp only [go_sem,zab,Nat.reduceAdd,Nat.reduceSub,Nat.reduceMul,Int.reduceToNat,reduceCtorEq,↓reduceIte,Int.reducePow,Nat.reducePow,Int.reduceMod,Nat.reduceLeDiff,Int.reduceLE,Int.reduceNe,Int.reduceEq,Nat.reduceEqDiff,Nat.reduceLT,Nat.reduceBEq,List.map_cons,List.map_nil,List.toList_toArray,Array.toList_append,Option.toArray_some,Option.toArray_none,Bool.and_self,ty,zbz,zbi,zcj,zdp,zew,zcp,zbh,zat,hO,hY1,hY2,hS,d1,d2,d3,hc,hL,h40,hex,hmr,hbt,tk,Int.reduceEq,Nat.reduceEqDiff,or_self,or_false,false_or,or_true,true_or,if_true,if_false,Int.reduceLE,Int.reduceLT]
 refine zcf 5 ?_
 simp only [go_sem,zab,Nat.reduceAdd,Nat.reduceSub,Nat.reduceMul,Int.reduceToNat,reduceCtorEq,↓reduceIte,Int.reducePow,Nat.reducePow,Int.reduceMod,Nat.reduceLeDiff,Int.reduceLE,Int.reduceNe,Int.reduceEq,Nat.reduceEqDiff,Nat.reduceLT,Nat.reduceBEq,List.map_cons,List.map_nil,List.toList_toArray,Array.toList_append,Option.toArray_some,Option.toArray_none,Bool.and_self,ty,zbz,zbi,zcp,putS,zef,zcw,zaf,zal,zar,Int.reduceAdd,Int.reduceSub,Int.cast_ofNat_Int,q1,q2,q3,r1,r2,r3,r4,r5,r6,zct,tk,cst22,gx22_4,Int.reduceEq,Nat.reduceEqDiff,or_self,or_false,false_or,or_true,true_or,if_true,if_false,Int.reduceLT]
 repeat (refine And.intro (by first | decide | (unfold top; simp only [List.length_append,List.length_cons,List.length_nil]; omega) | (unfold top; omega)) ?_)
 exact zav 2 3 (by decide) rfl rfl rfl (by simp; try omega) (by rw [hLay]; try simp) rfl
set_option maxHeartbeats 8000000 in
theorem rputQ_k6 (t : List UInt8) (i p : Int) (c f : Bool) (o m w : Int) (g mb : List UInt8) (n b1 b2 b3 b4 b5 : Int) (rs : List Rec) (fl : Bool) (hc : chkQ 6 t i p c f o m w g mb n b1 b2 b3 b4 b5 rs = 0) (hq : lenQ t g mb) (hr : intQ i p o m w n) (h40 : (rs.map rv).length ≤ 40) :
   awpO zbz noO ty zbi (Try.f11.body.getD .skip) (zbs ty Try.f11.results.toList [] ⟨True,.tup [.ms 0 1 0 (layQ 6 t i p c f o m w g mb n b1 b2 b3 b4 b5 rs).length,.w (.int .i64 0)],[.b (layQ 6 t i p c f o m w g mb n b1 b2 b3 b4 b5 rs)]⟩) ⟨[.agg [.w (.int .u8 6),.str t,.w (.int .i64 i),.w (.int .i64 p),.w (.bool c),.w (.bool f),.w (.int .i64 o),.w (.int .i64 m),.w (.int .i64 w),.str g,.str mb,.w (.int .i64 n),.w (.int .i64 b1),.w (.int .i64 b2),.w (.int .i64 b3),.w (.int .i64 b4),.w (.int .i64 b5),.sg 6 (rs.map rv) fl]] ++ List.replicate (Try.f11.ntmps - 1) .junk,pinHeap 0 [],4⟩ := by
 have hso := (zbb rs hc).2.1
 obtain ⟨q1,q2,q3⟩ := hq
 obtain ⟨r1,r2,r3,r4,r5,r6⟩ := hr
 have lq : lenQ t g mb := ⟨q1,q2,q3⟩
 have iq : intQ i p o m w n := ⟨r1,r2,r3,r4,r5,r6⟩
 obtain ⟨-,-,hlong,hb⟩ := zbb rs hc
 unfold zch at hlong
 have g1 := zac t q1
 have g2 := zac g q2
 have g3 := zac mb q3
 have l1 := zad i r1
 have l2 := zad p r2
 have l3 := zad o r3
 have l4 := zad m r4
 have l5 := zad w r5
 have l6 := zad n r6
 unfold okI at r1 r2 r3 r4 r5 r6
 have hbl := zan b1 b2 b3 b4 b5 rs
 have g4 := zac (batB b1 b2 b3 b4 b5 rs) (by omega)
 have hL : (rs.map rv).length ≤ 9223372036854775807 := by omega
 have hmr := zag rs
 have hex : ∃ qs : List Rec,rs.map rv = qs.map rv := ⟨rs,rfl⟩
 have tk : ∀ l : List UInt8,List.take l.length l = l := fun l => List.take_length
 have hLay : layQ 6 t i p c f o m w g mb n b1 b2 b3 b4 b5 rs = UInt8.ofNat 6 :: (zaj g ++ (zaj mb)) := by simp [layQ,zat,zbc]
 obtain ⟨Y,hY⟩ : ∃ x,layQ 6 t i p c f o m w g mb n b1 b2 b3 b4 b5 rs = x := ⟨_,rfl⟩
 rw [hY] at hLay ⊢
 obtain ⟨t',i',p',c',f',o',m',w',g',mb',n',b1',b2',b3',b4',b5',ys,fm,hO,hY1,hY2,hS⟩ := zdc 6 t i p c f o m w g mb n b1 b2 b3 b4 b5 rs fl hL
 rw [hso] at hS
 have d1 : decide ((255 : Int) < t.length) = false := decide_eq_false (by omega)
 have d2 : decide ((255 : Int) < g.length) = false := decide_eq_false (by omega)
 have d3 : decide ((255 : Int) < mb.length) = false := decide_eq_false (by omega)
 have hbt : (batB 0 b2 b3 b4 b5 rs).length ≤ 1000000 := by have := zan 0 b2 b3 b4 b5 rs; omega
 unfold Try.f11
 simp only [go_sem,zab,Nat.reduceAdd,Nat.reduceSub,Nat.reduceMul,Int.reduceToNat,reduceCtorEq,↓reduceIte,Int.reducePow,Nat.reducePow,Int.reduceMod,Nat.reduceLeDiff,Int.reduceLE,Int.reduceNe,Int.reduceEq,Nat.reduceEqDiff,Nat.reduceLT,Nat.reduceBEq,List.map_cons,List.map_nil,List.toList_toArray,Array.toList_append,Option.toArray_some,Option.toArray_none,Bool.and_self,ty,zbz,zbi,zcj,zdp,zew,zcp,zbh,zat,hO,hY1,hY2,hS,d1,d2,d3,hc,hL,h40,hex,hmr,hbt,tk,Int.reduceEq,Nat.reduceEqDiff,or_self,or_false,false_or,or_true,true_or,if_true,if_false,Int.reduceLE,Int.reduceLT]
 refine zcf 4 ?_
 simp only [go_sem,zab,Nat.reduceAdd,Nat.reduceSub,Nat.reduceMul,Int.reduceToNat,reduceCtorEq,↓reduceIte,Int.reducePow,Nat.reducePow,Int.reduceMod,Nat.reduceLeDiff,Int.reduceLE,Int.reduceNe,Int.reduceEq,Nat.reduceEqDiff,Nat.reduceLT,Nat.reduceBEq,List.map_cons,List.map_nil,List.toList_toArray,Array.toList_append,Option.toArray_some,Option.toArray_none,Bool.and_self,ty,zbz,zbi,zcp,putS,zef,zcw,zaf,zal,zar,Int.reduceAdd,Int.reduceSub,Int.cast_ofNat_Int,q1,q2,q3,r1,r2,r3,r4,r5,r6,zct,tk,cst22,gx22_1,Int.reduceEq,Nat.reduceEqDiff,or_self,or_false,false_or,or_true,true_or,if_true,if_false,Int.reduceLT]
 repeat (refine And.intro (by first | decide | (unfold top; simp only [List.length_append,List.length_cons,List.length_nil]; omega) | (unfold top; omega)) ?_)
 exact zav 2 3 (by decide) rfl rfl rfl (by simp; try omega) (by rw [hLay]; try simp) rfl
set_option maxHeartbeats 8000000 in
theorem rputQ_k7 (t : List UInt8) (i p : Int) (c f : Bool) (o m w : Int) (g mb : List UInt8) (n b1 b2 b3 b4 b5 : Int) (rs : List Rec) (fl : Bool) (hc : chkQ 7 t i p c f o m w g mb n b1 b2 b3 b4 b5 rs = 0) (hq : lenQ t g mb) (hr : intQ i p o m w n) (h40 : (rs.map rv).length ≤ 40) :
   awpO zbz noO ty zbi (Try.f11.body.getD .skip) (zbs ty Try.f11.results.toList [] ⟨True,.tup [.ms 0 1 0 (layQ 7 t i p c f o m w g mb n b1 b2 b3 b4 b5 rs).length,.w (.int .i64 0)],[.b (layQ 7 t i p c f o m w g mb n b1 b2 b3 b4 b5 rs)]⟩) ⟨[.agg [.w (.int .u8 7),.str t,.w (.int .i64 i),.w (.int .i64 p),.w (.bool c),.w (.bool f),.w (.int .i64 o),.w (.int .i64 m),.w (.int .i64 w),.str g,.str mb,.w (.int .i64 n),.w (.int .i64 b1),.w (.int .i64 b2),.w (.int .i64 b3),.w (.int .i64 b4),.w (.int .i64 b5),.sg 6 (rs.map rv) fl]] ++ List.replicate (Try.f11.ntmps - 1) .junk,pinHeap 0 [],4⟩ := by
 have hso := (zbb rs hc).2.1
 obtain ⟨q1,q2,q3⟩ := hq
 obtain ⟨r1,r2,r3,r4,r5,r6⟩ := hr
 have lq : lenQ t g mb := ⟨q1,q2,q3⟩
 have iq : intQ i p o m w n := ⟨r1,r2,r3,r4,r5,r6⟩
 obtain ⟨-,-,hlong,hb⟩ := zbb rs hc
 unfold zch at hlong
 have g1 := zac t q1
 have g2 := zac g q2
 have g3 := zac mb q3
 have l1 := zad i r1
 have l2 := zad p r2
 have l3 := zad o r3
 have l4 := zad m r4
 have l5 := zad w r5
 have l6 := zad n r6
 unfold okI at r1 r2 r3 r4 r5 r6
 have hbl := zan b1 b2 b3 b4 b5 rs
 have g4 := zac (batB b1 b2 b3 b4 b5 rs) (by omega)
 have hL : (rs.map rv).length ≤ 9223372036854775807 := by omega
 have hmr := zag rs
 have hex : ∃ qs : List Rec,rs.map rv = qs.map rv := ⟨rs,rfl⟩
 have tk : ∀ l : List UInt8,List.take l.length l = l := fun l => List.take_length
 have hLay : layQ 7 t i p c f o m w g mb n b1 b2 b3 b4 b5 rs = UInt8.ofNat 7 :: (zaj t ++ (zaj g ++ (zaj mb ++ (pq n)))) := by simp [layQ,zat,zbc]
 obtain ⟨Y,hY⟩ : ∃ x,layQ 7 t i p c f o m w g mb n b1 b2 b3 b4 b5 rs = x := ⟨_,rfl⟩
 rw [hY] at hLay ⊢
 obtain ⟨t',i',p',c',f',o',m',w',g',mb',n',b1',b2',b3',b4',b5',ys,fm,hO,hY1,hY2,hS⟩ := zdc 7 t i p c f o m w g mb n b1 b2 b3 b4 b5 rs fl hL
 rw [hso] at hS
 have d1 : decide ((255 : Int) < t.length) = false := decide_eq_false (by omega)
 have d2 : decide ((255 : Int) < g.length) = false := decide_eq_false (by omega)
 have d3 : decide ((255 : Int) < mb.length) = false := decide_eq_false (by omega)
 have hbt : (batB 0 b2 b3 b4 b5 rs).length ≤ 1000000 := by have := zan 0 b2 b3 b4 b5 rs; omega
 unfold Try.f11
 simp only [go_sem,zab,Nat.reduceAdd,Nat.reduceSub,Nat.reduceMul,Int.reduceToNat,reduceCtorEq,↓reduceIte,Int.reducePow,Nat.reducePow,Int.reduceMod,Nat.reduceLeDiff,Int.reduceLE,Int.reduceNe,Int.reduceEq,Nat.reduceEqDiff,Nat.reduceLT,Nat.reduceBEq,List.map_cons,List.map_nil,List.toList_toArray,Array.toList_append,Option.toArray_some,Option.toArray_none,Bool.and_self,ty,zbz,zbi,zcj,zdp,zew,zcp,zbh,zat,hO,hY1,hY2,hS,d1,d2,d3,hc,hL,h40,hex,hmr,hbt,tk,Int.reduceEq,Nat.reduceEqDiff,or_self,or_false,false_or,or_true,true_or,if_true,if_false,Int.reduceLE,Int.reduceLT]
 refine zcf 6 ?_
 simp only [go_sem,zab,Nat.reduceAdd,Nat.reduceSub,Nat.reduceMul,Int.reduceToNat,reduceCtorEq,↓reduceIte,Int.reducePow,Nat.reducePow,Int.reduceMod,Nat.reduceLeDiff,Int.reduceLE,Int.reduceNe,Int.reduceEq,Nat.reduceEqDiff,Nat.reduceLT,Nat.reduceBEq,List.map_cons,List.map_nil,List.toList_toArray,Array.toList_append,Option.toArray_some,Option.toArray_none,Bool.and_self,ty,zbz,zbi,zcp,putS,zef,zcw,zaf,zal,zar,Int.reduceAdd,Int.reduceSub,Int.cast_ofNat_Int,q1,q2,q3,r1,r2,r3,r4,r5,r6,zct,tk,cst22,gx22_6,Int.reduceEq,Nat.reduceEqDiff,or_self,or_false,false_or,or_true,true_or,if_true,if_false,Int.reduceLT]
 repeat (refine And.intro (by first | decide | (unfold top; simp only [List.length_append,List.length_cons,List.length_nil]; omega) | (unfold top; omega)) ?_)
 exact zav 2 3 (by decide) rfl rfl rfl (by simp; try omega) (by rw [hLay]; try simp) rfl
set_option maxHeartbeats 8000000 in
theorem rputQ_k8 (t : List UInt8) (i p : Int) (c f : Bool) (o m w : Int) (g mb : List UInt8) (n b1 b2 b3 b4 b5 : Int) (rs : List Rec) (fl : Bool) (hc : chkQ 8 t i p c f o m w g mb n b1 b2 b3 b4 b5 rs = 0) (hq : lenQ t g mb) (hr : intQ i p o m w n) (h40 : (rs.map rv).length ≤ 40) :
   awpO zbz noO ty zbi (Try.f11.body.getD .skip) (zbs ty Try.f11.results.toList [] ⟨True,.tup [.ms 0 1 0 (layQ 8 t i p c f o m w g mb n b1 b2 b3 b4 b5 rs).length,.w (.int .i64 0)],[.b (layQ 8 t i p c f o m w g mb n b1 b2 b3 b4 b5 rs)]⟩) ⟨[.agg [.w (.int .u8 8),.str t,.w (.int .i64 i),.w (.int .i64 p),.w (.bool c),.w (.bool f),.w (.int .i64 o),.w (.int .i64 m),.w (.int .i64 w),.str g,.str mb,.w (.int .i64 n),.w (.int .i64 b1),.w (.int .i64 b2),.w (.int .i64 b3),.w (.int .i64 b4),.w (.int .i64 b5),.sg 6 (rs.map rv) fl]] ++ List.replicate (Try.f11.ntmps - 1) .junk,pinHeap 0 [],4⟩ := by
 have hso := (zbb rs hc).2.1
 obtain ⟨q1,q2,q3⟩ := hq
 obtain ⟨r1,r2,r3,r4,r5,r6⟩ := hr
 have lq : lenQ t g mb := ⟨q1,q2,q3⟩
 have iq : intQ i p o m w n := ⟨r1,r2,r3,r4,r5,r6⟩
 obtain ⟨-,-,hlong,hb⟩ := zbb rs hc
 unfold zch at hlong
 have g1 := zac t q1
 have g2 := zac g q2
 have g3 := zac mb q3
 have l1 := zad i r1
 have l2 := zad p r2
 have l3 := zad o r3
 have l4 := zad m r4
 have l5 := zad w r5
 have l6 := zad n r6
 unfold okI at r1 r2 r3 r4 r5 r6
 have hbl := zan b1 b2 b3 b4 b5 rs
 have g4 := zac (batB b1 b2 b3 b4 b5 rs) (by omega)
 have hL : (rs.map rv).length ≤ 9223372036854775807 := by omega
 have hmr := zag rs
 have hex : ∃ qs : List Rec,rs.map rv = qs.map rv := ⟨rs,rfl⟩
 have tk : ∀ l : List UInt8,List.take l.length l = l := fun l => List.take_length
 have hLay : layQ 8 t i p c f o m w g mb n b1 b2 b3 b4 b5 rs = UInt8.ofNat 8 :: (zaj g ++ (zaj mb ++ (pq n))) := by simp [layQ,zat,zbc]
 obtain ⟨Y,hY⟩ : ∃ x,layQ 8 t i p c f o m w g mb n b1 b2 b3 b4 b5 rs = x := ⟨_,rfl⟩
 rw [hY] at hLay ⊢
 obtain ⟨t',i',p',c',f',o',m',w',g',mb',n',b1',b2',b3',b4',b5',ys,fm,hO,hY1,hY2,hS⟩ := zdc 8 t i p c f o m w g mb n b1 b2 b3 b4 b5 rs fl hL
 rw [hso] at hS
 have d1 : decide ((255 : Int) < t.length) = false := decide_eq_false (by omega)
 have d2 : decide ((255 : Int) < g.length) = false := decide_eq_false (by omega)
 have d3 : decide ((255 : Int) < mb.length) = false := decide_eq_false (by omega)
 have hbt : (batB 0 b2 b3 b4 b5 rs).length ≤ 1000000 := by have := zan 0 b2 b3 b4 b5 rs; omega
 unfold Try.f11
 simp only [go_sem,zab,Nat.reduceAdd,Nat.reduceSub,Nat.reduceMul,Int.reduceToNat,reduceCtorEq,↓reduceIte,Int.reducePow,Nat.reducePow,Int.reduceMod,Nat.reduceLeDiff,Int.reduceLE,Int.reduceNe,Int.reduceEq,Nat.reduceEqDiff,Nat.reduceLT,Nat.reduceBEq,List.map_cons,List.map_nil,List.toList_toArray,Array.toList_append,Option.toArray_some,Option.toArray_none,Bool.and_self,ty,zbz,zbi,zcj,zdp,zew,zcp,zbh,zat,hO,hY1,hY2,hS,d1,d2,d3,hc,hL,h40,hex,hmr,hbt,tk,Int.reduceEq,Nat.reduceEqDiff,or_self,or_false,false_or,or_true,true_or,if_true,if_false,Int.reduceLE,Int.reduceLT]
 refine zcf 5 ?_
 simp only [go_sem,zab,Nat.reduceAdd,Nat.reduceSub,Nat.reduceMul,Int.reduceToNat,reduceCtorEq,↓reduceIte,Int.reducePow,Nat.reducePow,Int.reduceMod,Nat.reduceLeDiff,Int.reduceLE,Int.reduceNe,Int.reduceEq,Nat.reduceEqDiff,Nat.reduceLT,Nat.reduceBEq,List.map_cons,List.map_nil,List.toList_toArray,Array.toList_append,Option.toArray_some,Option.toArray_none,Bool.and_self,ty,zbz,zbi,zcp,putS,zef,zcw,zaf,zal,zar,Int.reduceAdd,Int.reduceSub,Int.cast_ofNat_Int,q1,q2,q3,r1,r2,r3,r4,r5,r6,zct,tk,cst22,gx22_2,Int.reduceEq,Nat.reduceEqDiff,or_self,or_false,false_or,or_true,true_or,if_true,if_false,Int.reduceLT]
 repeat (refine And.intro (by first | decide | (unfold top; simp only [List.length_append,List.length_cons,List.length_nil]; omega) | (unfold top; omega)) ?_)
 exact zav 2 3 (by decide) rfl rfl rfl (by simp; try omega) (by rw [hLay]; try simp) rfl
set_option maxHeartbeats 8000000 in
theorem rputQ_k9 (t : List UInt8) (i p : Int) (c f : Bool) (o m w : Int) (g mb : List UInt8) (n b1 b2 b3 b4 b5 : Int) (rs : List Rec) (fl : Bool) (hc : chkQ 9 t i p c f o m w g mb n b1 b2 b3 b4 b5 rs = 0) (hq : lenQ t g mb) (hr : intQ i p o m w n) (h40 : (rs.map rv).length ≤ 40) :
   awpO zbz noO ty zbi (Try.f11.body.getD .skip) (zbs ty Try.f11.results.toList [] ⟨True,.tup [.ms 0 1 0 (layQ 9 t i p c f o m w g mb n b1 b2 b3 b4 b5 rs).length,.w (.int .i64 0)],[.b (layQ 9 t i p c f o m w g mb n b1 b2 b3 b4 b5 rs)]⟩) ⟨[.agg [.w (.int .u8 9),.str t,.w (.int .i64 i),.w (.int .i64 p),.w (.bool c),.w (.bool f),.w (.int .i64 o),.w (.int .i64 m),.w (.int .i64 w),.str g,.str mb,.w (.int .i64 n),.w (.int .i64 b1),.w (.int .i64 b2),.w (.int .i64 b3),.w (.int .i64 b4),.w (.int .i64 b5),.sg 6 (rs.map rv) fl]] ++ List.replicate (Try.f11.ntmps - 1) .junk,pinHeap 0 [],4⟩ := by
 have hso := (zbb rs hc).2.1
 obtain ⟨q1,q2,q3⟩ := hq
 obtain ⟨r1,r2,r3,r4,r5,r6⟩ := hr
 have lq : lenQ t g mb := ⟨q1,q2,q3⟩
 have iq : intQ i p o m w n := ⟨r1,r2,r3,r4,r5,r6⟩
 obtain ⟨-,-,hlong,hb⟩ := zbb rs hc
 unfold zch at hlong
 have g1 := zac t q1
 have g2 := zac g q2
 have g3 := zac mb q3
 have l1 := zad i r1
 have l2 := zad p r2
 have l3 := zad o r3
 have l4 := zad m r4
 have l5 := zad w r5
 have l6 := zad n r6
 unfold okI at r1 r2 r3 r4 r5 r6
 have hbl := zan b1 b2 b3 b4 b5 rs
 have g4 := zac (batB b1 b2 b3 b4 b5 rs) (by omega)
 have hL : (rs.map rv).length ≤ 9223372036854775807 := by omega
 have hmr := zag rs
 have hex : ∃ qs : List Rec,rs.map rv = qs.map rv := ⟨rs,rfl⟩
 have tk : ∀ l : List UInt8,List.take l.length l = l := fun l => List.take_length
 have hLay : layQ 9 t i p c f o m w g mb n b1 b2 b3 b4 b5 rs = UInt8.ofNat 9 :: (zaj g ++ (zaj mb)) := by simp [layQ,zat,zbc]
 obtain ⟨Y,hY⟩ : ∃ x,layQ 9 t i p c f o m w g mb n b1 b2 b3 b4 b5 rs = x := ⟨_,rfl⟩
 rw [hY] at hLay ⊢
 obtain ⟨t',i',p',c',f',o',m',w',g',mb',n',b1',b2',b3',b4',b5',ys,fm,hO,hY1,hY2,hS⟩ := zdc 9 t i p c f o m w g mb n b1 b2 b3 b4 b5 rs fl hL
 rw [hso] at hS
 have d1 : decide ((255 : Int) < t.length) = false := decide_eq_false (by omega)
 have d2 : decide ((255 : Int) < g.length) = false := decide_eq_false (by omega)
 have d3 : decide ((255 : Int) < mb.length) = false := decide_eq_false (by omega)
 have hbt : (batB 0 b2 b3 b4 b5 rs).length ≤ 1000000 := by have := zan 0 b2 b3 b4 b5 rs; omega
 unfold Try.f11
 simp only [go_sem,zab,Nat.reduceAdd,Nat.reduceSub,Nat.reduceMul,Int.reduceToNat,reduceCtorEq,↓reduceIte,Int.reducePow,Nat.reducePow,Int.reduceMod,Nat.reduceLeDiff,Int.reduceLE,Int.reduceNe,Int.reduceEq,Nat.reduceEqDiff,Nat.reduceLT,Nat.reduceBEq,List.map_cons,List.map_nil,List.toList_toArray,Array.toList_append,Option.toArray_some,Option.toArray_none,Bool.and_self,ty,zbz,zbi,zcj,zdp,zew,zcp,zbh,zat,hO,hY1,hY2,hS,d1,d2,d3,hc,hL,h40,hex,hmr,hbt,tk,Int.reduceEq,Nat.reduceEqDiff,or_self,or_false,false_or,or_true,true_or,if_true,if_false,Int.reduceLE,Int.reduceLT]
 refine zcf 4 ?_
 simp only [go_sem,zab,Nat.reduceAdd,Nat.reduceSub,Nat.reduceMul,Int.reduceToNat,reduceCtorEq,↓reduceIte,Int.reducePow,Nat.reducePow,Int.reduceMod,Nat.reduceLeDiff,Int.reduceLE,Int.reduceNe,Int.reduceEq,Nat.reduceEqDiff,Nat.reduceLT,Nat.reduceBEq,List.map_cons,List.map_nil,List.toList_toArray,Array.toList_append,Option.toArray_some,Option.toArray_none,Bool.and_self,ty,zbz,zbi,zcp,putS,zef,zcw,zaf,zal,zar,Int.reduceAdd,Int.reduceSub,Int.cast_ofNat_Int,q1,q2,q3,r1,r2,r3,r4,r5,r6,zct,tk,cst22,gx22_1,Int.reduceEq,Nat.reduceEqDiff,or_self,or_false,false_or,or_true,true_or,if_true,if_false,Int.reduceLT]
 repeat (refine And.intro (by first | decide | (unfold top; simp only [List.length_append,List.length_cons,List.length_nil]; omega) | (unfold top; omega)) ?_)
 exact zav 2 3 (by decide) rfl rfl rfl (by simp; try omega) (by rw [hLay]; try simp) rfl
set_option maxHeartbeats 8000000 in
theorem rputQ_k10 (t : List UInt8) (i p : Int) (c f : Bool) (o m w : Int) (g mb : List UInt8) (n b1 b2 b3 b4 b5 : Int) (rs : List Rec) (fl : Bool) (hc : chkQ 10 t i p c f o m w g mb n b1 b2 b3 b4 b5 rs = 0) (hq : lenQ t g mb) (hr : intQ i p o m w n) (h40 : (rs.map rv).length ≤ 40) :
   awpO zbz noO ty zbi (Try.f11.body.getD .skip) (zbs ty Try.f11.results.toList [] ⟨True,.tup [.ms 0 1 0 (layQ 10 t i p c f o m w g mb n b1 b2 b3 b4 b5 rs).length,.w (.int .i64 0)],[.b (layQ 10 t i p c f o m w g mb n b1 b2 b3 b4 b5 rs)]⟩) ⟨[.agg [.w (.int .u8 10),.str t,.w (.int .i64 i),.w (.int .i64 p),.w (.bool c),.w (.bool f),.w (.int .i64 o),.w (.int .i64 m),.w (.int .i64 w),.str g,.str mb,.w (.int .i64 n),.w (.int .i64 b1),.w (.int .i64 b2),.w (.int .i64 b3),.w (.int .i64 b4),.w (.int .i64 b5),.sg 6 (rs.map rv) fl]] ++ List.replicate (Try.f11.ntmps - 1) .junk,pinHeap 0 [],4⟩ := by
 have hso := (zbb rs hc).2.1
 obtain ⟨q1,q2,q3⟩ := hq
 obtain ⟨r1,r2,r3,r4,r5,r6⟩ := hr
 have lq : lenQ t g mb := ⟨q1,q2,q3⟩
 have iq : intQ i p o m w n := ⟨r1,r2,r3,r4,r5,r6⟩
 obtain ⟨-,-,hlong,hb⟩ := zbb rs hc
 unfold zch at hlong
 have g1 := zac t q1
 have g2 := zac g q2
 have g3 := zac mb q3
 have l1 := zad i r1
 have l2 := zad p r2
 have l3 := zad o r3
 have l4 := zad m r4
 have l5 := zad w r5
 have l6 := zad n r6
 unfold okI at r1 r2 r3 r4 r5 r6
 have hbl := zan b1 b2 b3 b4 b5 rs
 have g4 := zac (batB b1 b2 b3 b4 b5 rs) (by omega)
 have hL : (rs.map rv).length ≤ 9223372036854775807 := by omega
 have hmr := zag rs
 have hex : ∃ qs : List Rec,rs.map rv = qs.map rv := ⟨rs,rfl⟩
 have tk : ∀ l : List UInt8,List.take l.length l = l := fun l => List.take_length
 have hLay : layQ 10 t i p c f o m w g mb n b1 b2 b3 b4 b5 rs = UInt8.ofNat 10 :: (zaj t ++ (pq i ++ (pq o ++ (zaj g ++ (zaj mb ++ (pq n)))))) := by simp [layQ,zat,zbc]
 obtain ⟨Y,hY⟩ : ∃ x,layQ 10 t i p c f o m w g mb n b1 b2 b3 b4 b5 rs = x := ⟨_,rfl⟩
 rw [hY] at hLay ⊢
 obtain ⟨t',i',p',c',f',o',m',w',g',mb',n',b1',b2',b3',b4',b5',ys,fm,hO,hY1,hY2,hS⟩ := zdc 10 t i p c f o m w g mb n b1 b2 b3 b4 b5 rs fl hL
 rw [hso] at hS
 have d1 : decide ((255 : Int) < t.length) = false := decide_eq_false (by omega)
 have d2 : decide ((255 : Int) < g.length) = false := decide_eq_false (by omega)
 have d3 : decide ((255 : Int) < mb.length) = false := decide_eq_false (by omega)
 have hbt : (batB 0 b2 b3 b4 b5 rs).length ≤ 1000000 := by have := zan 0 b2 b3 b4 b5 rs; omega
 unfold Try.f11
 simp only [go_sem,zab,Nat.reduceAdd,Nat.reduceSub,Nat.reduceMul,Int.reduceToNat,reduceCtorEq,↓reduceIte,Int.reducePow,Nat.reducePow,Int.reduceMod,Nat.reduceLeDiff,Int.reduceLE,Int.reduceNe,Int.reduceEq,Nat.reduceEqDiff,Nat.reduceLT,Nat.reduceBEq,List.map_cons,List.map_nil,List.toList_toArray,Array.toList_append,Option.toArray_some,Option.toArray_none,Bool.and_self,ty,zbz,zbi,zcj,zdp,zew,zcp,zbh,zat,hO,hY1,hY2,hS,d1,d2,d3,hc,hL,h40,hex,hmr,hbt,tk,Int.reduceEq,Nat.reduceEqDiff,or_self,or_false,false_or,or_true,true_or,if_true,if_false,Int.reduceLE,Int.reduceLT]
 refine zcf 8 ?_
 simp only [go_sem,zab,Nat.reduceAdd,Nat.reduceSub,Nat.reduceMul,Int.reduceToNat,reduceCtorEq,↓reduceIte,Int.reducePow,Nat.reducePow,Int.reduceMod,Nat.reduceLeDiff,Int.reduceLE,Int.reduceNe,Int.reduceEq,Nat.reduceEqDiff,Nat.reduceLT,Nat.reduceBEq,List.map_cons,List.map_nil,List.toList_toArray,Array.toList_append,Option.toArray_some,Option.toArray_none,Bool.and_self,ty,zbz,zbi,zcp,putS,zef,zcw,zaf,zal,zar,Int.reduceAdd,Int.reduceSub,Int.cast_ofNat_Int,q1,q2,q3,r1,r2,r3,r4,r5,r6,zct,tk,cst22,gx22_9,Int.reduceEq,Nat.reduceEqDiff,or_self,or_false,false_or,or_true,true_or,if_true,if_false,Int.reduceLT]
 repeat (refine And.intro (by first | decide | (unfold top; simp only [List.length_append,List.length_cons,List.length_nil]; omega) | (unfold top; omega)) ?_)
 exact zav 2 3 (by decide) rfl rfl rfl (by simp; try omega) (by rw [hLay]; try simp) rfl
set_option maxHeartbeats 8000000 in
theorem rputQ_k11 (t : List UInt8) (i p : Int) (c f : Bool) (o m w : Int) (g mb : List UInt8) (n b1 b2 b3 b4 b5 : Int) (rs : List Rec) (fl : Bool) (hc : chkQ 11 t i p c f o m w g mb n b1 b2 b3 b4 b5 rs = 0) (hq : lenQ t g mb) (hr : intQ i p o m w n) (h40 : (rs.map rv).length ≤ 40) :
   awpO zbz noO ty zbi (Try.f11.body.getD .skip) (zbs ty Try.f11.results.toList [] ⟨True,.tup [.ms 0 1 0 (layQ 11 t i p c f o m w g mb n b1 b2 b3 b4 b5 rs).length,.w (.int .i64 0)],[.b (layQ 11 t i p c f o m w g mb n b1 b2 b3 b4 b5 rs)]⟩) ⟨[.agg [.w (.int .u8 11),.str t,.w (.int .i64 i),.w (.int .i64 p),.w (.bool c),.w (.bool f),.w (.int .i64 o),.w (.int .i64 m),.w (.int .i64 w),.str g,.str mb,.w (.int .i64 n),.w (.int .i64 b1),.w (.int .i64 b2),.w (.int .i64 b3),.w (.int .i64 b4),.w (.int .i64 b5),.sg 6 (rs.map rv) fl]] ++ List.replicate (Try.f11.ntmps - 1) .junk,pinHeap 0 [],4⟩ := by
 have hso := (zbb rs hc).2.1
 obtain ⟨q1,q2,q3⟩ := hq
 obtain ⟨r1,r2,r3,r4,r5,r6⟩ := hr
 have lq : lenQ t g mb := ⟨q1,q2,q3⟩
 have iq : intQ i p o m w n := ⟨r1,r2,r3,r4,r5,r6⟩
 obtain ⟨-,-,hlong,hb⟩ := zbb rs hc
 unfold zch at hlong
 have g1 := zac t q1
 have g2 := zac g q2
 have g3 := zac mb q3
 have l1 := zad i r1
 have l2 := zad p r2
 have l3 := zad o r3
 have l4 := zad m r4
 have l5 := zad w r5
 have l6 := zad n r6
 unfold okI at r1 r2 r3 r4 r5 r6
 have hbl := zan b1 b2 b3 b4 b5 rs
 have g4 := zac (batB b1 b2 b3 b4 b5 rs) (by omega)
 have hL : (rs.map rv).length ≤ 9223372036854775807 := by omega
 have hmr := zag rs
 have hex : ∃ qs : List Rec,rs.map rv = qs.map rv := ⟨rs,rfl⟩
 have tk : ∀ l : List UInt8,List.take l.length l = l := fun l => List.take_length
 have hLay : layQ 11 t i p c f o m w g mb n b1 b2 b3 b4 b5 rs = UInt8.ofNat 11 :: (zaj t ++ (pq i ++ (zaj g))) := by simp [layQ,zat,zbc]
 obtain ⟨Y,hY⟩ : ∃ x,layQ 11 t i p c f o m w g mb n b1 b2 b3 b4 b5 rs = x := ⟨_,rfl⟩
 rw [hY] at hLay ⊢
 obtain ⟨t',i',p',c',f',o',m',w',g',mb',n',b1',b2',b3',b4',b5',ys,fm,hO,hY1,hY2,hS⟩ := zdc 11 t i p c f o m w g mb n b1 b2 b3 b4 b5 rs fl hL
 rw [hso] at hS
 have d1 : decide ((255 : Int) < t.length) = false := decide_eq_false (by omega)
 have d2 : decide ((255 : Int) < g.length) = false := decide_eq_false (by omega)
 have d3 : decide ((255 : Int) < mb.length) = false := decide_eq_false (by omega)
 have hbt : (batB 0 b2 b3 b4 b5 rs).length ≤ 1000000 := by have := zan 0 b2 b3 b4 b5 rs; omega
 unfold Try.f11
 simp only [go_sem,zab,Nat.reduceAdd,Nat.reduceSub,Nat.reduceMul,Int.reduceToNat,reduceCtorEq,↓reduceIte,Int.reducePow,Nat.reducePow,Int.reduceMod,Nat.reduceLeDiff,Int.reduceLE,Int.reduceNe,Int.reduceEq,Nat.reduceEqDiff,Nat.reduceLT,Nat.reduceBEq,List.map_cons,List.map_nil,List.toList_toArray,Array.toList_append,Option.toArray_some,Option.toArray_none,Bool.and_self,ty,zbz,zbi,zcj,zdp,zew,zcp,zbh,zat,hO,hY1,hY2,hS,d1,d2,d3,hc,hL,h40,hex,hmr,hbt,tk,Int.reduceEq,Nat.reduceEqDiff,or_self,or_false,false_or,or_true,true_or,if_true,if_false,Int.reduceLE,Int.reduceLT]
 refine zcf 5 ?_
 simp only [go_sem,zab,Nat.reduceAdd,Nat.reduceSub,Nat.reduceMul,Int.reduceToNat,reduceCtorEq,↓reduceIte,Int.reducePow,Nat.reducePow,Int.reduceMod,Nat.reduceLeDiff,Int.reduceLE,Int.reduceNe,Int.reduceEq,Nat.reduceEqDiff,Nat.reduceLT,Nat.reduceBEq,List.map_cons,List.map_nil,List.toList_toArray,Array.toList_append,Option.toArray_some,Option.toArray_none,Bool.and_self,ty,zbz,zbi,zcp,putS,zef,zcw,zaf,zal,zar,Int.reduceAdd,Int.reduceSub,Int.cast_ofNat_Int,q1,q2,q3,r1,r2,r3,r4,r5,r6,zct,tk,cst22,gx22_3,Int.reduceEq,Nat.reduceEqDiff,or_self,or_false,false_or,or_true,true_or,if_true,if_false,Int.reduceLT]
 repeat (refine And.intro (by first | decide | (unfold top; simp only [List.length_append,List.length_cons,List.length_nil]; omega) | (unfold top; omega)) ?_)
 exact zav 2 3 (by decide) rfl rfl rfl (by simp; try omega) (by rw [hLay]; try simp) rfl
set_option maxHeartbeats 4000000 in
theorem rputQ_sound : zbf Try.prog 11 zbx := by
 refine zdx (S := zbz) (SO := noO) (T := ty) zbj ty_ok SrputQ_ok noO_ok Try.func11 (c := Try.f11.body.getD .skip) (by kernel_rfl) (fun xs pins hp _ => ?_)
 unfold zbx at hp ⊢
 split at hp
 · rename_i k t i p c f o m w g mb n b1 b2 b3 b4 b5 xs fl _
   obtain ⟨hk0,hk1,hq,hr,h40,rs,rfl⟩ := hp
   rw [zag]
   refine ⟨by simp,zbi,by kernel_rfl,?_⟩
   by_cases hc : chkQ k t i p c f o m w g mb n b1 b2 b3 b4 b5 rs = 0
   · have hB : putQ k t i p c f o m w g mb n b1 b2 b3 b4 b5 rs = layQ k t i p c f o m w g mb n b1 b2 b3 b4 b5 rs := if_pos hc
     have hk := (zbb rs hc).1
     rw [hB,hc]
     rcases knd_le k ⟨hk0,hk⟩ with rfl | rfl | rfl | rfl | rfl | rfl | rfl | rfl | rfl | rfl | rfl | rfl
     · exact rputQ_k0 t i p c f o m w g mb n b1 b2 b3 b4 b5 rs fl hc hq hr h40
     · exact rputQ_k1 t i p c f o m w g mb n b1 b2 b3 b4 b5 rs fl hc hq hr h40
     · exact rputQ_k2 t i p c f o m w g mb n b1 b2 b3 b4 b5 rs fl hc hq hr h40
     · exact rputQ_k3 t i p c f o m w g mb n b1 b2 b3 b4 b5 rs fl hc hq hr h40
     · exact rputQ_k4 t i p c f o m w g mb n b1 b2 b3 b4 b5 rs fl hc hq hr h40
     · exact rputQ_k5 t i p c f o m w g mb n b1 b2 b3 b4 b5 rs fl hc hq hr h40
     · exact rputQ_k6 t i p c f o m w g mb n b1 b2 b3 b4 b5 rs fl hc hq hr h40
     · exact rputQ_k7 t i p c f o m w g mb n b1 b2 b3 b4 b5 rs fl hc hq hr h40
     · exact rputQ_k8 t i p c f o m w g mb n b1 b2 b3 b4 b5 rs fl hc hq hr h40
     · exact rputQ_k9 t i p c f o m w g mb n b1 b2 b3 b4 b5 rs fl hc hq hr h40
     · exact rputQ_k10 t i p c f o m w g mb n b1 b2 b3 b4 b5 rs fl hc hq hr h40
     · exact rputQ_k11 t i p c f o m w g mb n b1 b2 b3 b4 b5 rs fl hc hq hr h40
   · have hB : putQ k t i p c f o m w g mb n b1 b2 b3 b4 b5 rs = [] := if_neg hc
     rw [hB]
     have hL : (rs.map rv).length ≤ 9223372036854775807 := by omega
     have hmr := zag rs
     have hex : ∃ qs : List Rec,rs.map rv = qs.map rv := ⟨rs,rfl⟩
     unfold Try.f11
     by_cases hk : 11 < k
     · have d1 := decide_eq_true hk
       have hv : chkQ k t i p c f o m w g mb n b1 b2 b3 b4 b5 rs = 22 := if_pos hk
       rw [hv]
       simp only [go_sem,zab,Nat.reduceAdd,Nat.reduceSub,Nat.reduceMul,Int.reduceToNat,reduceCtorEq,↓reduceIte,Int.reducePow,Nat.reducePow,Int.reduceMod,Nat.reduceLeDiff,Int.reduceLE,Int.reduceNe,Int.reduceEq,Nat.reduceEqDiff,Nat.reduceLT,Nat.reduceBEq,List.map_cons,List.map_nil,List.toList_toArray,Array.toList_append,Option.toArray_some,Option.toArray_none,Bool.and_self,ty,zbz,zbi,d1]
       exact zci 2 3 (by decide) rfl rfl rfl rfl
     have d1 := decide_eq_false hk
     have hk2 : k ≤ 11 := by omega
     obtain ⟨t',i',p',c',f',o',m',w',g',mb',n',b1',b2',b3',b4',b5',ys,fm,hO,hY1,hY2,hS⟩ := zdc k t i p c f o m w g mb n b1 b2 b3 b4 b5 rs fl hL
     have hv1 : ¬ zbp k t i p c f o m w g mb n b1 b2 b3 b4 b5 rs = true → chkQ k t i p c f o m w g mb n b1 b2 b3 b4 b5 rs = 4 := fun h => by unfold chkQ; rw [if_neg hk,if_pos (by simpa using h)]
     have hv2 : zbp k t i p c f o m w g mb n b1 b2 b3 b4 b5 rs = true → zch t g mb → chkQ k t i p c f o m w g mb n b1 b2 b3 b4 b5 rs = 5 := fun h h2 => by unfold chkQ; rw [if_neg hk,if_neg (by rw [h]; decide),if_pos h2]
     have hv3 : zbp k t i p c f o m w g mb n b1 b2 b3 b4 b5 rs = true → ¬ zch t g mb → k ≠ 3 → chkQ k t i p c f o m w g mb n b1 b2 b3 b4 b5 rs = 0 := fun h h2 h3 => by unfold chkQ; rw [if_neg hk,if_neg (by rw [h]; decide),if_neg h2,if_pos h3]
     have hv4 : zbp k t i p c f o m w g mb n b1 b2 b3 b4 b5 rs = true → ¬ zch t g mb → k = 3 → batE 0 b2 b3 b4 b5 rs ≠ 0 → chkQ k t i p c f o m w g mb n b1 b2 b3 b4 b5 rs = batE 0 b2 b3 b4 b5 rs := fun h h2 h3 h4 => by unfold chkQ; rw [if_neg hk,if_neg (by rw [h]; decide),if_neg h2,if_neg (fun g => g h3),if_pos h4]
     have hv5 : zbp k t i p c f o m w g mb n b1 b2 b3 b4 b5 rs = true → ¬ zch t g mb → k = 3 → batE 0 b2 b3 b4 b5 rs = 0 → b1 ≠ 0 → chkQ k t i p c f o m w g mb n b1 b2 b3 b4 b5 rs = 4 := fun h h2 h3 h4 h5 => by
       unfold chkQ; rw [if_neg hk,if_neg (by rw [h]; decide),if_neg h2,if_neg (fun g => g h3),if_neg (fun g => g h4),if_pos h5]
     have hv6 : zbp k t i p c f o m w g mb n b1 b2 b3 b4 b5 rs = true → ¬ zch t g mb → k = 3 → batE 0 b2 b3 b4 b5 rs = 0 → b1 = 0 → chkQ k t i p c f o m w g mb n b1 b2 b3 b4 b5 rs = 0 := fun h h2 h3 h4 h5 => by
       unfold chkQ; rw [if_neg hk,if_neg (by rw [h]; decide),if_neg h2,if_neg (fun g => g h3),if_neg (fun g => g h4),if_neg (fun g => g h5)]
     obtain ⟨V,hV⟩ : ∃ x,chkQ k t i p c f o m w g mb n b1 b2 b3 b4 b5 rs = x := ⟨_,rfl⟩
     obtain ⟨S,hSS⟩ : ∃ x,zbp k t i p c f o m w g mb n b1 b2 b3 b4 b5 rs = x := ⟨_,rfl⟩
     rw [hSS] at hS hv1 hv2 hv3 hv4 hv5 hv6
     rw [hV] at hv1 hv2 hv3 hv4 hv5 hv6 hc ⊢
     cases S with
     | false =>
       rw [hv1 (by decide)]
       simp only [go_sem,zab,Nat.reduceAdd,Nat.reduceSub,Nat.reduceMul,Int.reduceToNat,reduceCtorEq,↓reduceIte,Int.reducePow,Nat.reducePow,Int.reduceMod,Nat.reduceLeDiff,Int.reduceLE,Int.reduceNe,Int.reduceEq,Nat.reduceEqDiff,Nat.reduceLT,Nat.reduceBEq,List.map_cons,List.map_nil,List.toList_toArray,Array.toList_append,Option.toArray_some,Option.toArray_none,Bool.and_self,ty,zbz,zbi,zcj,zdp,d1,hk0,hk2,hO,hL,hex,hmr,hY1,hY2,hS]
       exact zci 2 3 (by decide) rfl rfl rfl rfl
     | true =>
       rcases long_cases t g mb with D | D | D | D
       rotate_right 1
       · have hnl : ¬ zch t g mb := D.2.2.2
         by_cases hk3 : k = 3
         · have d2 := decide_eq_true hk3
           by_cases he : batE 0 b2 b3 b4 b5 rs = 0
           · by_cases hb : b1 = 0
             · exact (hc (hv6 rfl hnl hk3 he hb)).elim
             · have d4 := decide_eq_false hb
               rw [hv5 rfl hnl hk3 he hb]
               simp only [go_sem,zab,Nat.reduceAdd,Nat.reduceSub,Nat.reduceMul,Int.reduceToNat,reduceCtorEq,↓reduceIte,Int.reducePow,Nat.reducePow,Int.reduceMod,Nat.reduceLeDiff,Int.reduceLE,Int.reduceNe,Int.reduceEq,Nat.reduceEqDiff,Nat.reduceLT,Nat.reduceBEq,List.map_cons,List.map_nil,List.toList_toArray,Array.toList_append,Option.toArray_some,Option.toArray_none,Bool.and_self,ty,zbz,zbi,zcj,zdp,zew,d1,d2,d4,hk0,hk2,hO,hL,h40,hex,hmr,hY1,hY2,hS,D,he]
               exact zci 2 3 (by decide) rfl rfl rfl rfl
           · have d3 := decide_eq_false he
             rw [hv4 rfl hnl hk3 he]
             simp only [go_sem,zab,Nat.reduceAdd,Nat.reduceSub,Nat.reduceMul,Int.reduceToNat,reduceCtorEq,↓reduceIte,Int.reducePow,Nat.reducePow,Int.reduceMod,Nat.reduceLeDiff,Int.reduceLE,Int.reduceNe,Int.reduceEq,Nat.reduceEqDiff,Nat.reduceLT,Nat.reduceBEq,List.map_cons,List.map_nil,List.toList_toArray,Array.toList_append,Option.toArray_some,Option.toArray_none,Bool.and_self,ty,zbz,zbi,zcj,zdp,zew,d1,d2,d3,hk0,hk2,hO,hL,h40,hex,hmr,hY1,hY2,hS,D]
             exact zci 2 3 (by decide) rfl rfl rfl rfl
         · exact (hc (hv3 rfl hnl hk3)).elim
       all_goals
         rw [hv2 rfl (by first | exact D.2 | exact D.2.2 | exact D.2.2.2)]
         simp only [go_sem,zab,Nat.reduceAdd,Nat.reduceSub,Nat.reduceMul,Int.reduceToNat,reduceCtorEq,↓reduceIte,Int.reducePow,Nat.reducePow,Int.reduceMod,Nat.reduceLeDiff,Int.reduceLE,Int.reduceNe,Int.reduceEq,Nat.reduceEqDiff,Nat.reduceLT,Nat.reduceBEq,List.map_cons,List.map_nil,List.toList_toArray,Array.toList_append,Option.toArray_some,Option.toArray_none,Bool.and_self,ty,zbz,zbi,zcj,zdp,d1,hk0,hk2,hO,hL,hex,hmr,hY1,hY2,hS,D]
         exact zci 2 3 (by decide) rfl rfl rfl rfl
 · exact hp.elim
end
end Go.Proofs.Ytmedjkjoannbmaa
namespace Go.Proofs.Ytmedjkjoannbmaa
open Ax
set_option maxRecDepth 10000
set_option maxHeartbeats 2000000
theorem arg_u822 {x : AV} (h : Arg ty 6 5 x) : ∃ n : Int,x = .w (.int .u8 n) := by
 obtain ⟨i,ls,hi,hs,rfl⟩ := h
 simp only [ty] at hi
 injection hi with hi
 subst hi
 simp only [Shape,ty,ShapeF] at hs
 obtain ⟨m,rfl,_⟩ := hs
 exact ⟨m,rfl⟩
end Go.Proofs.Ytmedjkjoannbmaa
namespace Go.Proofs.Ytmedjkjoannbmaa
open Ax
def Swasks (f : FuncId) : Option zaq :=
 match f with
 | 9 => some yesS
 | 8 => some zfh
 | 10 => some zbx
 | 11 => some zbx
 | 12 => some zdp
 | 13 => some zdp
 | 14 => some zbh
 | 15 => some zbh
 | _ => none
theorem Swasks_ok : Fns Try.prog Swasks := by
 intro f s h
 unfold Swasks at h
 split at h
 · injection h with h; subst h; exact ⟨⟨_,Try.func9,by kernel_rfl,by kernel_rfl⟩,awake22_sound⟩
 · injection h with h; subst h; exact ⟨⟨_,Try.func8,by kernel_rfl,by kernel_rfl⟩,lrq22_sound⟩
 · injection h with h; subst h; exact ⟨⟨_,Try.func10,by kernel_rfl,by kernel_rfl⟩,putQ_sound⟩
 · injection h with h; subst h; exact ⟨⟨_,Try.func11,by kernel_rfl,by kernel_rfl⟩,rputQ_sound⟩
 · injection h with h; subst h; exact ⟨⟨_,Try.func12,by kernel_rfl,by kernel_rfl⟩,sreq22_sound⟩
 · injection h with h; subst h; exact ⟨⟨_,Try.func13,by kernel_rfl,by kernel_rfl⟩,rsreq22_sound⟩
 · injection h with h; subst h; exact ⟨⟨_,Try.func14,by kernel_rfl,by kernel_rfl⟩,uses22_sound⟩
 · injection h with h; subst h; exact ⟨⟨_,Try.func15,by kernel_rfl,by kernel_rfl⟩,ruses22_sound⟩
 · cases h
def wasksPl : XPlan := fun id => match id with
 | 5 => .prs [(13,14),(13,15)]
 | _ => .std
def wasksS : zaq
 | [x,y,.w (.int .u8 kk)],[] => ⟨isRq22 x ∧ isRq22 y,.w (.bool true),[]⟩
 | _,_ => zbv
section
set_option maxRecDepth 100000
set_option maxHeartbeats 8000000 in
theorem wasks_law : zbf Try.prog 3 wasksS := by
 refine zdx (S := Swasks) (SO := noO) (T := ty) zbj ty_ok Swasks_ok noO_ok Try.func3 (c := Try.f3.body.getD .skip) (by kernel_rfl) (fun xs pins hp _ => ?_)
 unfold wasksS at hp ⊢
 split at hp
 · rename_i x y kk _
   obtain ⟨⟨k,t,i,p,c,f,o,m,w,g,mb,n,b1,b2,b3,b4,b5,rs,fl,rfl,hk,hl,iq,hr⟩,⟨k',t',i',p',c',f',o',m',w',g',mb',n',b1',b2',b3',b4',b5',rs',fl',rfl,hk',hl',iq',hr'⟩⟩ := hp
   unfold rqV
   refine ⟨by simp,wasksPl,by kernel_rfl,?_⟩
   have hrl : (rs.map rv).length = rs.length := by simp
   have hmr := zag rs
   have hex : ∃ qs : List Rec,rs.map rv = qs.map rv := ⟨rs,rfl⟩
   have hc : coe ty 22 (.sg 6 (rs.map rv) fl) = .sg 6 (rs.map rv) fl := by cases rs <;> rfl
   have ht1 := hl.1
   have ht2 := hl.2.1
   have ht3 := hl.2.2
   have hrl' : (rs'.map rv).length = rs'.length := by simp
   have hmr' := zag rs'
   have hex' : ∃ qs : List Rec,rs'.map rv = qs.map rv := ⟨rs',rfl⟩
   have hc' : coe ty 22 (.sg 6 (rs'.map rv) fl') = .sg 6 (rs'.map rv) fl' := by cases rs' <;> rfl
   have ht1' := hl'.1
   have ht2' := hl'.2.1
   have ht3' := hl'.2.2
   unfold Try.f3
   by_cases LA : t.length ≤ 400 ∧ g.length ≤ 400 ∧ mb.length ≤ 400 ∧ rs.length ≤ 40 ∧ ∀ r ∈ rs,lightR r
   case neg =>
     have DA := decide_eq_false LA
     simp only [go_sem,zab,Nat.reduceAdd,Nat.reduceSub,Nat.reduceMul,Int.reduceToNat,reduceCtorEq,↓reduceIte,Int.reducePow,Nat.reducePow,Int.reduceMod,Nat.reduceLeDiff,Int.reduceLE,Int.reduceNe,Int.reduceEq,Nat.reduceEqDiff,Nat.reduceLT,Nat.reduceBEq,List.map_cons,List.map_nil,List.toList_toArray,Array.toList_append,Option.toArray_some,Option.toArray_none,Bool.and_self,ty,Swasks,wasksPl,zfh,yesS,hrl,hmr,hex,hc,ht1,ht2,ht3,hr,DA]
     exact zas 6 rfl
   have DA := decide_eq_true LA
   by_cases LB : t'.length ≤ 400 ∧ g'.length ≤ 400 ∧ mb'.length ≤ 400 ∧ rs'.length ≤ 40 ∧ ∀ r ∈ rs',lightR r
   case neg =>
     have DB := decide_eq_false LB
     simp only [go_sem,zab,Nat.reduceAdd,Nat.reduceSub,Nat.reduceMul,Int.reduceToNat,reduceCtorEq,↓reduceIte,Int.reducePow,Nat.reducePow,Int.reduceMod,Nat.reduceLeDiff,Int.reduceLE,Int.reduceNe,Int.reduceEq,Nat.reduceEqDiff,Nat.reduceLT,Nat.reduceBEq,List.map_cons,List.map_nil,List.toList_toArray,Array.toList_append,Option.toArray_some,Option.toArray_none,Bool.and_self,ty,Swasks,wasksPl,zfh,yesS,hrl,hmr,hex,hc,ht1,ht2,ht3,hr,hrl',hmr',hex',hc',ht1',ht2',ht3',hr',DA,DB]
     exact zas 6 rfl
   have DB := decide_eq_true LB
   have lq : lenQ t g mb := ⟨by have := LA.1; omega,by have := LA.2.1; omega,by have := LA.2.2.1; omega⟩
   have h40 : rs.length ≤ 40 := LA.2.2.2.1
   have lq' : lenQ t' g' mb' := ⟨by have := LB.1; omega,by have := LB.2.1; omega,by have := LB.2.2.1; omega⟩
   have h40' : rs'.length ≤ 40 := LB.2.2.2.1
   obtain ⟨W,hW⟩ : ∃ W,putQ k t i p c f o m w g mb n b1 b2 b3 b4 b5 rs = W := ⟨_,rfl⟩
   obtain ⟨C,hC⟩ : ∃ C,chkQ k t i p c f o m w g mb n b1 b2 b3 b4 b5 rs = C := ⟨_,rfl⟩
   obtain ⟨B,hB⟩ : ∃ B,eqQ k t i p c f o m w g mb n k' t' i' p' c' f' o' m' w' g' mb' n' (zdh b1 b2 b3 b4 b5 rs b1' b2' b3' b4' b5' rs') = B := ⟨_,rfl⟩
   obtain ⟨U,hU⟩ : ∃ U,zat kk = U := ⟨_,rfl⟩
   have dW : decide (W = W) = true := decide_eq_true rfl
   have dC : decide (C = C) = true := decide_eq_true rfl
   have dU : decide (U = U) = true := decide_eq_true rfl
   have dB : (B == B) = true := beq_self_eq_true B
   have tk : ∀ l : List UInt8,List.take l.length l = l := fun l => List.take_length
   simp only [go_sem,zab,Nat.reduceAdd,Nat.reduceSub,Nat.reduceMul,Int.reduceToNat,reduceCtorEq,↓reduceIte,Int.reducePow,Nat.reducePow,Int.reduceMod,Nat.reduceLeDiff,Int.reduceLE,Int.reduceNe,Int.reduceEq,Nat.reduceEqDiff,Nat.reduceLT,Nat.reduceBEq,List.map_cons,List.map_nil,List.toList_toArray,Array.toList_append,Option.toArray_some,Option.toArray_none,Bool.and_self,ty,Swasks,wasksPl,zfh,zbx,zdp,zbh,yesS,hrl,hmr,hex,hc,ht1,ht2,ht3,hr,hrl',hmr',hex',hc',ht1',ht2',ht3',hr',DA,DB,lq,iq,hk,lq',iq',hk',hW,hC,hB,hU,dW,dC,dU,dB,tk]
   repeat (refine And.intro (by first | omega | assumption) ?_)
   exact zas 6 rfl
 · exact hp.elim
end
theorem wasks_dom {x y z : AV} (hx : Arg ty 6 26 x) (hy : Arg ty 6 26 y) (hz : Arg ty 6 5 z) : (wasksS [x,y,z] []).p ∧ (wasksS [x,y,z] []).x = .w (.bool true) := by
 obtain ⟨n,rfl⟩ := arg_u822 hz
 exact ⟨⟨is_rq22 (j := 0) hx,is_rq22 (j := 0) hy⟩,rfl⟩
end Go.Proofs.Ytmedjkjoannbmaa
