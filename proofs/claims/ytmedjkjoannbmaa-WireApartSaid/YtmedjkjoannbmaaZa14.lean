/- What the proofs of this seat stand on; it asks nothing. -/
import Derived.Test.YtmedjkjoannbmaaZa13
set_option linter.unusedSimpArgs false
set_option linter.unusedVariables false
namespace Go.Proofs.Ytmedjkjoannbmaa
open Ax
def layQ (k : Int) (t : List UInt8) (i p : Int) (c f : Bool) (o m w : Int) (g mb : List UInt8) (n b1 b2 b3 b4 b5 : Int) (rs : List Rec) : List UInt8 := UInt8.ofNat k.toNat :: (zat k).flatMap fun x => zbc (x.toNat : Int) t i p c f o m w g mb n b1 b2 b3 b4 b5 rs
def putQ (k : Int) (t : List UInt8) (i p : Int) (c f : Bool) (o m w : Int) (g mb : List UInt8) (n b1 b2 b3 b4 b5 : Int) (rs : List Rec) : List UInt8 := if chkQ k t i p c f o m w g mb n b1 b2 b3 b4 b5 rs = 0 then layQ k t i p c f o m w g mb n b1 b2 b3 b4 b5 rs else []
def zbx : zaq
 | [.agg [.w (.int .u8 k),.str t,.w (.int .i64 i),.w (.int .i64 p),.w (.bool c),.w (.bool f),.w (.int .i64 o),.w (.int .i64 m),.w (.int .i64 w),.str g,.str mb,.w (.int .i64 n),.w (.int .i64 b1),.w (.int .i64 b2),.w (.int .i64 b3),.w (.int .i64 b4),.w (.int .i64 b5),.sg 6 xs fl]],[] => ⟨0 ≤ k ∧ k < 256 ∧ lenQ t g mb ∧ intQ i p o m w n ∧ xs.length ≤ 40 ∧ ∃ rs : List Rec,xs = rs.map rv,
     .tup [.ms 0 1 0 (putQ k t i p c f o m w g mb n b1 b2 b3 b4 b5 (xs.map rrec)).length,.w (.int .i64 (chkQ k t i p c f o m w g mb n b1 b2 b3 b4 b5 (xs.map rrec)))],[.b (putQ k t i p c f o m w g mb n b1 b2 b3 b4 b5 (xs.map rrec))]⟩
 | _,_ => zbv
theorem zbb {k : Int} {t : List UInt8} {i p : Int} {c f : Bool} {o m w : Int} {g mb : List UInt8} {n b1 b2 b3 b4 b5 : Int} (rs : List Rec) (h : chkQ k t i p c f o m w g mb n b1 b2 b3 b4 b5 rs = 0) : k ≤ 11 ∧ zbp k t i p c f o m w g mb n b1 b2 b3 b4 b5 rs = true ∧ ¬ zch t g mb ∧ (k = 3 → batE 0 b2 b3 b4 b5 rs = 0 ∧ b1 = 0) := by
 unfold chkQ at h
 by_cases h1 : 11 < k
 · rw [if_pos h1] at h; omega
 · rw [if_neg h1] at h
   by_cases h2 : zbp k t i p c f o m w g mb n b1 b2 b3 b4 b5 rs = false
   · rw [if_pos h2] at h; omega
   · rw [if_neg h2] at h
     by_cases h3 : zch t g mb
     · rw [if_pos h3] at h; omega
     · rw [if_neg h3] at h
       refine ⟨by omega,by simpa using h2,h3,fun hk => ?_⟩
       rw [if_neg (fun g => g hk)] at h
       by_cases h4 : batE 0 b2 b3 b4 b5 rs = 0
       · rw [if_neg (fun g => g h4)] at h
         by_cases h5 : b1 = 0
         · exact ⟨h4,h5⟩
         · rw [if_pos h5] at h; omega
       · rw [if_pos h4] at h; exact (h4 h).elim
def zdq (f : FuncId) : Option zaq :=
 match f with
 | 26 => some chkQS
 | 14 => some zbh
 | 27 => some fieldS
 | _ => none
theorem SputQ_ok : Fns Try.prog zdq := by
 intro f s h
 unfold zdq at h
 split at h
 · injection h with h; subst h; exact ⟨⟨_,Try.func26,by kernel_rfl,by kernel_rfl⟩,chkQ_sound⟩
 · injection h with h; subst h; exact ⟨⟨_,Try.func14,by kernel_rfl,by kernel_rfl⟩,uses22_sound⟩
 · injection h with h; subst h; exact ⟨⟨_,Try.func27,by kernel_rfl,by kernel_rfl⟩,field22_sound⟩
 · cases h
section
set_option maxRecDepth 100000
set_option maxHeartbeats 8000000 in
theorem putQ_k0 (t : List UInt8) (i p : Int) (c f : Bool) (o m w : Int) (g mb : List UInt8) (n b1 b2 b3 b4 b5 : Int) (rs : List Rec) (fl : Bool) (hc : chkQ 0 t i p c f o m w g mb n b1 b2 b3 b4 b5 rs = 0) (hq : lenQ t g mb) (hr : intQ i p o m w n) (h40 : (rs.map rv).length ≤ 40) :
   awp zdq ty (Try.f10.body.getD .skip) (zbs ty Try.f10.results.toList [] ⟨True,.tup [.ms 0 1 0 (layQ 0 t i p c f o m w g mb n b1 b2 b3 b4 b5 rs).length,.w (.int .i64 0)],[.b (layQ 0 t i p c f o m w g mb n b1 b2 b3 b4 b5 rs)]⟩) ⟨[.agg [.w (.int .u8 0),.str t,.w (.int .i64 i),.w (.int .i64 p),.w (.bool c),.w (.bool f),.w (.int .i64 o),.w (.int .i64 m),.w (.int .i64 w),.str g,.str mb,.w (.int .i64 n),.w (.int .i64 b1),.w (.int .i64 b2),.w (.int .i64 b3),.w (.int .i64 b4),.w (.int .i64 b5),.sg 6 (rs.map rv) fl]] ++ List.replicate (Try.f10.ntmps - 1) .junk,pinHeap 0 [],4⟩ := by
 obtain ⟨q1,q2,q3⟩ := hq
 obtain ⟨r1,r2,r3,r4,r5,r6⟩ := hr
 have lq : lenQ t g mb := ⟨q1,q2,q3⟩
 have iq : intQ i p o m w n := ⟨r1,r2,r3,r4,r5,r6⟩
 obtain ⟨-,-,hlong,hb⟩ := zbb rs hc
 unfold zch at hlong
 have g1 := zac t q1
 have g2 := zac g q2
 have g3 := zac mb q3
 have l1 := zad i r1
 have l2 := zad p r2
 have l3 := zad o r3
 have l4 := zad m r4
 have l5 := zad w r5
 have l6 := zad n r6
 unfold okI at r1 r2 r3 r4 r5 r6
 have hbl := zan b1 b2 b3 b4 b5 rs
 have g4 := zac (batB b1 b2 b3 b4 b5 rs) (by omega)
 have hL : (rs.map rv).length ≤ 9223372036854775807 := by omega
 have hmr := zag rs
 have hex : ∃ qs : List Rec,rs.map rv = qs.map rv := ⟨rs,rfl⟩
 have tk : ∀ l : List UInt8,List.take l.length l = l := fun l => List.take_length
 have hLay : layQ 0 t i p c f o m w g mb n b1 b2 b3 b4 b5 rs = UInt8.ofNat 0 :: (zaj t ++ (pq p ++ ([UInt8.ofNat (bitN c).toNat]))) := by simp [layQ,zat,zbc]
 obtain ⟨Y,hY⟩ : ∃ x,layQ 0 t i p c f o m w g mb n b1 b2 b3 b4 b5 rs = x := ⟨_,rfl⟩
 rw [hY] at hLay ⊢
 unfold Try.f10
 simp only [go_sem,zaa,Nat.reduceAdd,Nat.reduceSub,Nat.reduceMul,Int.reduceToNat,reduceCtorEq,↓reduceIte,Int.reducePow,Nat.reducePow,Int.reduceMod,Nat.reduceLeDiff,Int.reduceLE,Int.reduceNe,Int.reduceEq,Nat.reduceEqDiff,Nat.reduceLT,Nat.reduceBEq,ty,zdq,chkQS,zbh,zat,hc,hL,hex,hmr,Int.reduceEq,Nat.reduceEqDiff,or_self,or_false,false_or,or_true,true_or,if_true,if_false,Int.reduceLE,Int.reduceLT]
 refine zbl 5 ?_
 simp only [go_sem,zaa,Nat.reduceAdd,Nat.reduceSub,Nat.reduceMul,Int.reduceToNat,reduceCtorEq,↓reduceIte,Int.reducePow,Nat.reducePow,Int.reduceMod,Nat.reduceLeDiff,Int.reduceLE,Int.reduceNe,Int.reduceEq,Nat.reduceEqDiff,Nat.reduceLT,Nat.reduceBEq,ty,zdq,fieldS,zbc,zdr,zcg,zaf,zal,zar,Int.reduceAdd,Int.reduceSub,Int.cast_ofNat_Int,lq,iq,hL,hex,hmr,tk,Int.reduceEq,Nat.reduceEqDiff,or_self,or_false,false_or,or_true,true_or,if_true,if_false,dc22_5]
 repeat (refine And.intro (by first | decide | (unfold top; simp only [List.length_append,List.length_cons,List.length_nil]; omega) | (unfold top; omega)) ?_)
 exact zav 2 3 (by decide) rfl rfl rfl (by simp; try omega) (by rw [hLay]; try simp) rfl
set_option maxHeartbeats 8000000 in
theorem putQ_k1 (t : List UInt8) (i p : Int) (c f : Bool) (o m w : Int) (g mb : List UInt8) (n b1 b2 b3 b4 b5 : Int) (rs : List Rec) (fl : Bool) (hc : chkQ 1 t i p c f o m w g mb n b1 b2 b3 b4 b5 rs = 0) (hq : lenQ t g mb) (hr : intQ i p o m w n) (h40 : (rs.map rv).length ≤ 40) :
   awp zdq ty (Try.f10.body.getD .skip) (zbs ty Try.f10.results.toList [] ⟨True,.tup [.ms 0 1 0 (layQ 1 t i p c f o m w g mb n b1 b2 b3 b4 b5 rs).length,.w (.int .i64 0)],[.b (layQ 1 t i p c f o m w g mb n b1 b2 b3 b4 b5 rs)]⟩) ⟨[.agg [.w (.int .u8 1),.str t,.w (.int .i64 i),.w (.int .i64 p),.w (.bool c),.w (.bool f),.w (.int .i64 o),.w (.int .i64 m),.w (.int .i64 w),.str g,.str mb,.w (.int .i64 n),.w (.int .i64 b1),.w (.int .i64 b2),.w (.int .i64 b3),.w (.int .i64 b4),.w (.int .i64 b5),.sg 6 (rs.map rv) fl]] ++ List.replicate (Try.f10.ntmps - 1) .junk,pinHeap 0 [],4⟩ := by
 obtain ⟨q1,q2,q3⟩ := hq
 obtain ⟨r1,r2,r3,r4,r5,r6⟩ := hr
 have lq : lenQ t g mb := ⟨q1,q2,q3⟩
 have iq : intQ i p o m w n := ⟨r1,r2,r3,r4,r5,r6⟩
 obtain ⟨-,-,hlong,hb⟩ := zbb rs hc
 unfold zch at hlong
 have g1 := zac t q1
 have g2 := zac g q2
 have g3 := zac mb q3
 have l1 := zad i r1
 have l2 := zad p r2
 have l3 := zad o r3
 have l4 := zad m r4
 have l5 := zad w r5
 have l6 := zad n r6
 unfold okI at r1 r2 r3 r4 r5 r6
 have hbl := zan b1 b2 b3 b4 b5 rs
 have g4 := zac (batB b1 b2 b3 b4 b5 rs) (by omega)
 have hL : (rs.map rv).length ≤ 9223372036854775807 := by omega
 have hmr := zag rs
 have hex : ∃ qs : List Rec,rs.map rv = qs.map rv := ⟨rs,rfl⟩
 have tk : ∀ l : List UInt8,List.take l.length l = l := fun l => List.take_length
 have hLay : layQ 1 t i p c f o m w g mb n b1 b2 b3 b4 b5 rs = UInt8.ofNat 1 :: (zaj t) := by simp [layQ,zat,zbc]
 obtain ⟨Y,hY⟩ : ∃ x,layQ 1 t i p c f o m w g mb n b1 b2 b3 b4 b5 rs = x := ⟨_,rfl⟩
 rw [hY] at hLay ⊢
 unfold Try.f10
 simp only [go_sem,zaa,Nat.reduceAdd,Nat.reduceSub,Nat.reduceMul,Int.reduceToNat,reduceCtorEq,↓reduceIte,Int.reducePow,Nat.reducePow,Int.reduceMod,Nat.reduceLeDiff,Int.reduceLE,Int.reduceNe,Int.reduceEq,Nat.reduceEqDiff,Nat.reduceLT,Nat.reduceBEq,ty,zdq,chkQS,zbh,zat,hc,hL,hex,hmr,Int.reduceEq,Nat.reduceEqDiff,or_self,or_false,false_or,or_true,true_or,if_true,if_false,Int.reduceLE,Int.reduceLT]
 refine zbl 3 ?_
 simp only [go_sem,zaa,Nat.reduceAdd,Nat.reduceSub,Nat.reduceMul,Int.reduceToNat,reduceCtorEq,↓reduceIte,Int.reducePow,Nat.reducePow,Int.reduceMod,Nat.reduceLeDiff,Int.reduceLE,Int.reduceNe,Int.reduceEq,Nat.reduceEqDiff,Nat.reduceLT,Nat.reduceBEq,ty,zdq,fieldS,zbc,zdr,zcg,zaf,zal,zar,Int.reduceAdd,Int.reduceSub,Int.cast_ofNat_Int,lq,iq,hL,hex,hmr,tk,Int.reduceEq,Nat.reduceEqDiff,or_self,or_false,false_or,or_true,true_or,if_true,if_false,dc22_0]
 repeat (refine And.intro (by first | decide | (unfold top; simp only [List.length_append,List.length_cons,List.length_nil]; omega) | (unfold top; omega)) ?_)
 exact zav 2 3 (by decide) rfl rfl rfl (by simp; try omega) (by rw [hLay]; try simp) rfl
set_option maxHeartbeats 8000000 in
theorem putQ_k2 (t : List UInt8) (i p : Int) (c f : Bool) (o m w : Int) (g mb : List UInt8) (n b1 b2 b3 b4 b5 : Int) (rs : List Rec) (fl : Bool) (hc : chkQ 2 t i p c f o m w g mb n b1 b2 b3 b4 b5 rs = 0) (hq : lenQ t g mb) (hr : intQ i p o m w n) (h40 : (rs.map rv).length ≤ 40) :
   awp zdq ty (Try.f10.body.getD .skip) (zbs ty Try.f10.results.toList [] ⟨True,.tup [.ms 0 1 0 (layQ 2 t i p c f o m w g mb n b1 b2 b3 b4 b5 rs).length,.w (.int .i64 0)],[.b (layQ 2 t i p c f o m w g mb n b1 b2 b3 b4 b5 rs)]⟩) ⟨[.agg [.w (.int .u8 2),.str t,.w (.int .i64 i),.w (.int .i64 p),.w (.bool c),.w (.bool f),.w (.int .i64 o),.w (.int .i64 m),.w (.int .i64 w),.str g,.str mb,.w (.int .i64 n),.w (.int .i64 b1),.w (.int .i64 b2),.w (.int .i64 b3),.w (.int .i64 b4),.w (.int .i64 b5),.sg 6 (rs.map rv) fl]] ++ List.replicate (Try.f10.ntmps - 1) .junk,pinHeap 0 [],4⟩ := by
 obtain ⟨q1,q2,q3⟩ := hq
 obtain ⟨r1,r2,r3,r4,r5,r6⟩ := hr
 have lq : lenQ t g mb := ⟨q1,q2,q3⟩
 have iq : intQ i p o m w n := ⟨r1,r2,r3,r4,r5,r6⟩
 obtain ⟨-,-,hlong,hb⟩ := zbb rs hc
 unfold zch at hlong
 have g1 := zac t q1
 have g2 := zac g q2
 have g3 := zac mb q3
 have l1 := zad i r1
 have l2 := zad p r2
 have l3 := zad o r3
 have l4 := zad m r4
 have l5 := zad w r5
 have l6 := zad n r6
 unfold okI at r1 r2 r3 r4 r5 r6
 have hbl := zan b1 b2 b3 b4 b5 rs
 have g4 := zac (batB b1 b2 b3 b4 b5 rs) (by omega)
 have hL : (rs.map rv).length ≤ 9223372036854775807 := by omega
 have hmr := zag rs
 have hex : ∃ qs : List Rec,rs.map rv = qs.map rv := ⟨rs,rfl⟩
 have tk : ∀ l : List UInt8,List.take l.length l = l := fun l => List.take_length
 have hLay : layQ 2 t i p c f o m w g mb n b1 b2 b3 b4 b5 rs = UInt8.ofNat 2 :: (zaj t) := by simp [layQ,zat,zbc]
 obtain ⟨Y,hY⟩ : ∃ x,layQ 2 t i p c f o m w g mb n b1 b2 b3 b4 b5 rs = x := ⟨_,rfl⟩
 rw [hY] at hLay ⊢
 unfold Try.f10
 simp only [go_sem,zaa,Nat.reduceAdd,Nat.reduceSub,Nat.reduceMul,Int.reduceToNat,reduceCtorEq,↓reduceIte,Int.reducePow,Nat.reducePow,Int.reduceMod,Nat.reduceLeDiff,Int.reduceLE,Int.reduceNe,Int.reduceEq,Nat.reduceEqDiff,Nat.reduceLT,Nat.reduceBEq,ty,zdq,chkQS,zbh,zat,hc,hL,hex,hmr,Int.reduceEq,Nat.reduceEqDiff,or_self,or_false,false_or,or_true,true_or,if_true,if_false,Int.reduceLE,Int.reduceLT]
 refine zbl 3 ?_
 simp only [go_sem,zaa,Nat.reduceAdd,Nat.reduceSub,Nat.reduceMul,Int.reduceToNat,reduceCtorEq,↓reduceIte,Int.reducePow,Nat.reducePow,Int.reduceMod,Nat.reduceLeDiff,Int.reduceLE,Int.reduceNe,Int.reduceEq,Nat.reduceEqDiff,Nat.reduceLT,Nat.reduceBEq,ty,zdq,fieldS,zbc,zdr,zcg,zaf,zal,zar,Int.reduceAdd,Int.reduceSub,Int.cast_ofNat_Int,lq,iq,hL,hex,hmr,tk,Int.reduceEq,Nat.reduceEqDiff,or_self,or_false,false_or,or_true,true_or,if_true,if_false,dc22_0]
 repeat (refine And.intro (by first | decide | (unfold top; simp only [List.length_append,List.length_cons,List.length_nil]; omega) | (unfold top; omega)) ?_)
 exact zav 2 3 (by decide) rfl rfl rfl (by simp; try omega) (by rw [hLay]; try simp) rfl
set_option maxHeartbeats 8000000 in
theorem putQ_k3 (t : List UInt8) (i p : Int) (c f : Bool) (o m w : Int) (g mb : List UInt8) (n b1 b2 b3 b4 b5 : Int) (rs : List Rec) (fl : Bool) (hc : chkQ 3 t i p c f o m w g mb n b1 b2 b3 b4 b5 rs = 0) (hq : lenQ t g mb) (hr : intQ i p o m w n) (h40 : (rs.map rv).length ≤ 40) :
   awp zdq ty (Try.f10.body.getD .skip) (zbs ty Try.f10.results.toList [] ⟨True,.tup [.ms 0 1 0 (layQ 3 t i p c f o m w g mb n b1 b2 b3 b4 b5 rs).length,.w (.int .i64 0)],[.b (layQ 3 t i p c f o m w g mb n b1 b2 b3 b4 b5 rs)]⟩) ⟨[.agg [.w (.int .u8 3),.str t,.w (.int .i64 i),.w (.int .i64 p),.w (.bool c),.w (.bool f),.w (.int .i64 o),.w (.int .i64 m),.w (.int .i64 w),.str g,.str mb,.w (.int .i64 n),.w (.int .i64 b1),.w (.int .i64 b2),.w (.int .i64 b3),.w (.int .i64 b4),.w (.int .i64 b5),.sg 6 (rs.map rv) fl]] ++ List.replicate (Try.f10.ntmps - 1) .junk,pinHeap 0 [],4⟩ := by
 obtain ⟨q1,q2,q3⟩ := hq
 obtain ⟨r1,r2,r3,r4,r5,r6⟩ := hr
 have lq : lenQ t g mb := ⟨q1,q2,q3⟩
 have iq : intQ i p o m w n := ⟨r1,r2,r3,r4,r5,r6⟩
 obtain ⟨-,-,hlong,hb⟩ := zbb rs hc
 unfold zch at hlong
 have g1 := zac t q1
 have g2 := zac g q2
 have g3 := zac mb q3
 have l1 := zad i r1
 have l2 := zad p r2
 have l3 := zad o r3
 have l4 := zad m r4
 have l5 := zad w r5
 have l6 := zad n r6
 unfold okI at r1 r2 r3 r4 r5 r6
 have hbl := zan b1 b2 b3 b4 b5 rs
 have g4 := zac (batB b1 b2 b3 b4 b5 rs) (by omega)
 have hL : (rs.map rv).length ≤ 9223372036854775807 := by omega
 have hmr := zag rs
 have hex : ∃ qs : List Rec,rs.map rv = qs.map rv := ⟨rs,rfl⟩
 have tk : ∀ l : List UInt8,List.take l.length l = l := fun l => List.take_length
 obtain ⟨hbE,rfl⟩ := hb rfl
 have hLay : layQ 3 t i p c f o m w g mb n 0 b2 b3 b4 b5 rs = UInt8.ofNat 3 :: (zaj t ++ (pq i ++ ([UInt8.ofNat (bitN f).toNat] ++ (zaj (batB 0 b2 b3 b4 b5 rs))))) := by simp [layQ,zat,zbc]
 obtain ⟨Y,hY⟩ : ∃ x,layQ 3 t i p c f o m w g mb n 0 b2 b3 b4 b5 rs = x := ⟨_,rfl⟩
 rw [hY] at hLay ⊢
 unfold Try.f10
 simp only [go_sem,zaa,Nat.reduceAdd,Nat.reduceSub,Nat.reduceMul,Int.reduceToNat,reduceCtorEq,↓reduceIte,Int.reducePow,Nat.reducePow,Int.reduceMod,Nat.reduceLeDiff,Int.reduceLE,Int.reduceNe,Int.reduceEq,Nat.reduceEqDiff,Nat.reduceLT,Nat.reduceBEq,ty,zdq,chkQS,zbh,zat,hc,hL,hex,hmr,Int.reduceEq,Nat.reduceEqDiff,or_self,or_false,false_or,or_true,true_or,if_true,if_false,Int.reduceLE,Int.reduceLT]
 refine zbl 6 ?_
 simp only [go_sem,zaa,Nat.reduceAdd,Nat.reduceSub,Nat.reduceMul,Int.reduceToNat,reduceCtorEq,↓reduceIte,Int.reducePow,Nat.reducePow,Int.reduceMod,Nat.reduceLeDiff,Int.reduceLE,Int.reduceNe,Int.reduceEq,Nat.reduceEqDiff,Nat.reduceLT,Nat.reduceBEq,ty,zdq,fieldS,zbc,zdr,zcg,zaf,zal,zar,Int.reduceAdd,Int.reduceSub,Int.cast_ofNat_Int,lq,iq,hL,hex,hmr,tk,Int.reduceEq,Nat.reduceEqDiff,or_self,or_false,false_or,or_true,true_or,if_true,if_false,hbE,dc22_7]
 repeat (refine And.intro (by first | decide | (unfold top; simp only [List.length_append,List.length_cons,List.length_nil]; omega) | (unfold top; omega)) ?_)
 exact zav 2 3 (by decide) rfl rfl rfl (by simp; try omega) (by rw [hLay]; try simp) rfl
set_option maxHeartbeats 8000000 in
theorem putQ_k4 (t : List UInt8) (i p : Int) (c f : Bool) (o m w : Int) (g mb : List UInt8) (n b1 b2 b3 b4 b5 : Int) (rs : List Rec) (fl : Bool) (hc : chkQ 4 t i p c f o m w g mb n b1 b2 b3 b4 b5 rs = 0) (hq : lenQ t g mb) (hr : intQ i p o m w n) (h40 : (rs.map rv).length ≤ 40) :
   awp zdq ty (Try.f10.body.getD .skip) (zbs ty Try.f10.results.toList [] ⟨True,.tup [.ms 0 1 0 (layQ 4 t i p c f o m w g mb n b1 b2 b3 b4 b5 rs).length,.w (.int .i64 0)],[.b (layQ 4 t i p c f o m w g mb n b1 b2 b3 b4 b5 rs)]⟩) ⟨[.agg [.w (.int .u8 4),.str t,.w (.int .i64 i),.w (.int .i64 p),.w (.bool c),.w (.bool f),.w (.int .i64 o),.w (.int .i64 m),.w (.int .i64 w),.str g,.str mb,.w (.int .i64 n),.w (.int .i64 b1),.w (.int .i64 b2),.w (.int .i64 b3),.w (.int .i64 b4),.w (.int .i64 b5),.sg 6 (rs.map rv) fl]] ++ List.replicate (Try.f10.ntmps - 1) .junk,pinHeap 0 [],4⟩ := by
 obtain ⟨q1,q2,q3⟩ := hq
 obtain ⟨r1,r2,r3,r4,r5,r6⟩ := hr
 have lq : lenQ t g mb := ⟨q1,q2,q3⟩
 have iq : intQ i p o m w n := ⟨r1,r2,r3,r4,r5,r6⟩
 obtain ⟨-,-,hlong,hb⟩ := zbb rs hc
 unfold zch at hlong
 have g1 := zac t q1
 have g2 := zac g q2
 have g3 := zac mb q3
 have l1 := zad i r1
 have l2 := zad p r2
 have l3 := zad o r3
 have l4 := zad m r4
 have l5 := zad w r5
 have l6 := zad n r6
 unfold okI at r1 r2 r3 r4 r5 r6
 have hbl := zan b1 b2 b3 b4 b5 rs
 have g4 := zac (batB b1 b2 b3 b4 b5 rs) (by omega)
 have hL : (rs.map rv).length ≤ 9223372036854775807 := by omega
 have hmr := zag rs
 have hex : ∃ qs : List Rec,rs.map rv = qs.map rv := ⟨rs,rfl⟩
 have tk : ∀ l : List UInt8,List.take l.length l = l := fun l => List.take_length
 have hLay : layQ 4 t i p c f o m w g mb n b1 b2 b3 b4 b5 rs = UInt8.ofNat 4 :: (zaj t ++ (pq i ++ (pq o ++ (pq m)))) := by simp [layQ,zat,zbc]
 obtain ⟨Y,hY⟩ : ∃ x,layQ 4 t i p c f o m w g mb n b1 b2 b3 b4 b5 rs = x := ⟨_,rfl⟩
 rw [hY] at hLay ⊢
 unfold Try.f10
 simp only [go_sem,zaa,Nat.reduceAdd,Nat.reduceSub,Nat.reduceMul,Int.reduceToNat,reduceCtorEq,↓reduceIte,Int.reducePow,Nat.reducePow,Int.reduceMod,Nat.reduceLeDiff,Int.reduceLE,Int.reduceNe,Int.reduceEq,Nat.reduceEqDiff,Nat.reduceLT,Nat.reduceBEq,ty,zdq,chkQS,zbh,zat,hc,hL,hex,hmr,Int.reduceEq,Nat.reduceEqDiff,or_self,or_false,false_or,or_true,true_or,if_true,if_false,Int.reduceLE,Int.reduceLT]
 refine zbl 6 ?_
 simp only [go_sem,zaa,Nat.reduceAdd,Nat.reduceSub,Nat.reduceMul,Int.reduceToNat,reduceCtorEq,↓reduceIte,Int.reducePow,Nat.reducePow,Int.reduceMod,Nat.reduceLeDiff,Int.reduceLE,Int.reduceNe,Int.reduceEq,Nat.reduceEqDiff,Nat.reduceLT,Nat.reduceBEq,ty,zdq,fieldS,zbc,zdr,zcg,zaf,zal,zar,Int.reduceAdd,Int.reduceSub,Int.cast_ofNat_Int,lq,iq,hL,hex,hmr,tk,Int.reduceEq,Nat.reduceEqDiff,or_self,or_false,false_or,or_true,true_or,if_true,if_false,dc22_8]
 repeat (refine And.intro (by first | decide | (unfold top; simp only [List.length_append,List.length_cons,List.length_nil]; omega) | (unfold top; omega)) ?_)
 exact zav 2 3 (by decide) rfl rfl rfl (by simp; try omega) (by rw [hLay]; try simp) rfl
set_option maxHeartbeats 8000000 in
theorem putQ_k5 (t : List UInt8) (i p : Int) (c f : Bool) (o m w : Int) (g mb : List UInt8) (n b1 b2 b3 b4 b5 : Int) (rs : List Rec) (fl : Bool) (hc : chkQ 5 t i p c f o m w g mb n b1 b2 b3 b4 b5 rs = 0) (hq : lenQ t g mb) (hr : intQ i p o m w n) (h40 : (rs.map rv).length ≤ 40) :
   awp zdq ty (Try.f10.body.getD .skip) (zbs ty Try.f10.results.toList [] ⟨True,.tup [.ms 0 1 0 (layQ 5 t i p c f o m w g mb n b1 b2 b3 b4 b5 rs).length,.w (.int .i64 0)],[.b (layQ 5 t i p c f o m w g mb n b1 b2 b3 b4 b5 rs)]⟩) ⟨[.agg [.w (.int .u8 5),.str t,.w (.int .i64 i),.w (.int .i64 p),.w (.bool c),.w (.bool f),.w (.int .i64 o),.w (.int .i64 m),.w (.int .i64 w),.str g,.str mb,.w (.int .i64 n),.w (.int .i64 b1),.w (.int .i64 b2),.w (.int .i64 b3),.w (.int .i64 b4),.w (.int .i64 b5),.sg 6 (rs.map rv) fl]] ++ List.replicate (Try.f10.ntmps - 1) .junk,pinHeap 0 [],4⟩ := by
 obtain ⟨q1,q2,q3⟩ := hq
 obtain ⟨r1,r2,r3,r4,r5,r6⟩ := hr
 have lq : lenQ t g mb := ⟨q1,q2,q3⟩
 have iq : intQ i p o m w n := ⟨r1,r2,r3,r4,r5,r6⟩
 obtain ⟨-,-,hlong,hb⟩ := zbb rs hc
 unfold zch at hlong
 have g1 := zac t q1
 have g2 := zac g q2
 have g3 := zac mb q3
 have l1 := zad i r1
 have l2 := zad p r2
 have l3 := zad o r3
 have l4 := zad m r4
 have l5 := zad w r5
 have l6 := zad n r6
 unfold okI at r1 r2 r3 r4 r5 r6
 have hbl := zan b1 b2 b3 b4 b5 rs
 have g4 := zac (batB b1 b2 b3 b4 b5 rs) (by omega)
 have hL : (rs.map rv).length ≤ 9223372036854775807 := by omega
 have hmr := zag rs
 have hex : ∃ qs : List Rec,rs.map rv = qs.map rv := ⟨rs,rfl⟩
 have tk : ∀ l : List UInt8,List.take l.length l = l := fun l => List.take_length
 have hLay : layQ 5 t i p c f o m w g mb n b1 b2 b3 b4 b5 rs = UInt8.ofNat 5 :: (zaj t ++ (pq i ++ (pq w))) := by simp [layQ,zat,zbc]
 obtain ⟨Y,hY⟩ : ∃ x,layQ 5 t i p c f o m w g mb n b1 b2 b3 b4 b5 rs = x := ⟨_,rfl⟩
 rw [hY] at hLay ⊢
 unfold Try.f10
 simp only [go_sem,zaa,Nat.reduceAdd,Nat.reduceSub,Nat.reduceMul,Int.reduceToNat,reduceCtorEq,↓reduceIte,Int.reducePow,Nat.reducePow,Int.reduceMod,Nat.reduceLeDiff,Int.reduceLE,Int.reduceNe,Int.reduceEq,Nat.reduceEqDiff,Nat.reduceLT,Nat.reduceBEq,ty,zdq,chkQS,zbh,zat,hc,hL,hex,hmr,Int.reduceEq,Nat.reduceEqDiff,or_self,or_false,false_or,or_true,true_or,if_true,if_false,Int.reduceLE,Int.reduceLT]
 refine zbl 5 ?_
 simp only [go_sem,zaa,Nat.reduceAdd,Nat.reduceSub,Nat.reduceMul,Int.reduceToNat,reduceCtorEq,↓reduceIte,Int.reducePow,Nat.reducePow,Int.reduceMod,Nat.reduceLeDiff,Int.reduceLE,Int.reduceNe,Int.reduceEq,Nat.reduceEqDiff,Nat.reduceLT,Nat.reduceBEq,ty,zdq,fieldS,zbc,zdr,zcg,zaf,zal,zar,Int.reduceAdd,Int.reduceSub,Int.cast_ofNat_Int,lq,iq,hL,hex,hmr,tk,Int.reduceEq,Nat.reduceEqDiff,or_self,or_false,false_or,or_true,true_or,if_true,if_false,dc22_4]
 repeat (refine And.intro (by first | decide | (unfold top; simp only [List.length_append,List.length_cons,List.length_nil]; omega) | (unfold top; omega)) ?_)
 exact zav 2 3 (by decide) rfl rfl rfl (by simp; try omega) (by rw [hLay]; try simp) rfl
set_option maxHeartbeats 8000000 in
theorem putQ_k6 (t : List UInt8) (i p : Int) (c f : Bool) (o m w : Int) (g mb : List UInt8) (n b1 b2 b3 b4 b5 : Int) (rs : List Rec) (fl : Bool) (hc : chkQ 6 t i p c f o m w g mb n b1 b2 b3 b4 b5 rs = 0) (hq : lenQ t g mb) (hr : intQ i p o m w n) (h40 : (rs.map rv).length ≤ 40) :
   awp zdq ty (Try.f10.body.getD .skip) (zbs ty Try.f10.results.toList [] ⟨True,.tup [.ms 0 1 0 (layQ 6 t i p c f o m w g mb n b1 b2 b3 b4 b5 rs).length,.w (.int .i64 0)],[.b (layQ 6 t i p c f o m w g mb n b1 b2 b3 b4 b5 rs)]⟩) ⟨[.agg [.w (.int .u8 6),.str t,.w (.int .i64 i),.w (.int .i64 p),.w (.bool c),.w (.bool f),.w (.int .i64 o),.w (.int .i64 m),.w (.int .i64 w),.str g,.str mb,.w (.int .i64 n),.w (.int .i64 b1),.w (.int .i64 b2),.w (.int .i64 b3),.w (.int .i64 b4),.w (.int .i64 b5),.sg 6 (rs.map rv) fl]] ++ List.replicate (Try.f10.ntmps - 1) .junk,pinHeap 0 [],4⟩ := by
 obtain ⟨q1,q2,q3⟩ := hq
 obtain ⟨r1,r2,r3,r4,r5,r6⟩ := hr
 have lq : lenQ t g mb := ⟨q1,q2,q3⟩
 have iq : intQ i p o m w n := ⟨r1,r2,r3,r4,r5,r6⟩
 obtain ⟨-,-,hlong,hb⟩ := zbb rs hc
 unfold zch at hlong
 have g1 := zac t q1
 have g2 := zac g q2
 have g3 := zac mb q3
 have l1 := zad i r1
 have l2 := zad p r2
 have l3 := zad o r3
 have l4 := zad m r4
 have l5 := zad w r5
 have l6 := zad n r6
 unfold okI at r1 r2 r3 r4 r5 r6
 have hbl := zan b1 b2 b3 b4 b5 rs
 have g4 := zac (batB b1 b2 b3 b4 b5 rs) (by omega)
 have hL : (rs.map rv).length ≤ 9223372036854775807 := by omega
 have hmr := zag rs
 have hex : ∃ qs : List Rec,rs.map rv = qs.map rv := ⟨rs,rfl⟩
 have tk : ∀ l : List UInt8,List.take l.length l = l := fun l => List.take_length
 have hLay : layQ 6 t i p c f o m w g mb n b1 b2 b3 b4 b5 rs = UInt8.ofNat 6 :: (zaj g ++ (zaj mb)) := by simp [layQ,zat,zbc]
 obtain ⟨Y,hY⟩ : ∃ x,layQ 6 t i p c f o m w g mb n b1 b2 b3 b4 b5 rs = x := ⟨_,rfl⟩
 rw [hY] at hLay ⊢
 unfold Try.f10
 simp only [go_sem,zaa,Nat.reduceAdd,Nat.reduceSub,Nat.reduceMul,Int.reduceToNat,reduceCtorEq,↓reduceIte,Int.reducePow,Nat.reducePow,Int.reduceMod,Nat.reduceLeDiff,Int.reduceLE,Int.reduceNe,Int.reduceEq,Nat.reduceEqDiff,Nat.reduceLT,Nat.reduceBEq,ty,zdq,chkQS,zbh,zat,hc,hL,hex,hmr,Int.reduceEq,Nat.reduceEqDiff,or_self,or_false,false_or,or_true,true_or,if_true,if_false,Int.reduceLE,Int.reduceLT]
 refine zbl 4 ?_
 simp only [go_sem,zaa,Nat.reduceAdd,Nat.reduceSub,Nat.reduceMul,Int.reduceToNat,reduceCtorEq,↓reduceIte,Int.reducePow,Nat.reducePow,Int.reduceMod,Nat.reduceLeDiff,Int.reduceLE,Int.reduceNe,Int.reduceEq,Nat.reduceEqDiff,Nat.reduceLT,Nat.reduceBEq,ty,zdq,fieldS,zbc,zdr,zcg,zaf,zal,zar,Int.reduceAdd,Int.reduceSub,Int.cast_ofNat_Int,lq,iq,hL,hex,hmr,tk,Int.reduceEq,Nat.reduceEqDiff,or_self,or_false,false_or,or_true,true_or,if_true,if_false,dc22_1]
 repeat (refine And.intro (by first | decide | (unfold top; simp only [List.length_append,List.length_cons,List.length_nil]; omega) | (unfold top; omega)) ?_)
 exact zav 2 3 (by decide) rfl rfl rfl (by simp; try omega) (by rw [hLay]; try simp) rfl
set_option maxHeartbeats 8000000 in
theorem putQ_k7 (t : List UInt8) (i p : Int) (c f : Bool) (o m w : Int) (g mb : List UInt8) (n b1 b2 b3 b4 b5 : Int) (rs : List Rec) (fl : Bool) (hc : chkQ 7 t i p c f o m w g mb n b1 b2 b3 b4 b5 rs = 0) (hq : lenQ t g mb) (hr : intQ i p o m w n) (h40 : (rs.map rv).length ≤ 40) :
   awp zdq ty (Try.f10.body.getD .skip) (zbs ty Try.f10.results.toList [] ⟨True,.tup [.ms 0 1 0 (layQ 7 t i p c f o m w g mb n b1 b2 b3 b4 b5 rs).length,.w (.int .i64 0)],[.b (layQ 7 t i p c f o m w g mb n b1 b2 b3 b4 b5 rs)]⟩) ⟨[.agg [.w (.int .u8 7),.str t,.w (.int .i64 i),.w (.int .i64 p),.w (.bool c),.w (.bool f),.w (.int .i64 o),.w (.int .i64 m),.w (.int .i64 w),.str g,.str mb,.w (.int .i64 n),.w (.int .i64 b1),.w (.int .i64 b2),.w (.int .i64 b3),.w (.int .i64 b4),.w (.int .i64 b5),.sg 6 (rs.map rv) fl]] ++ List.replicate (Try.f10.ntmps - 1) .junk,pinHeap 0 [],4⟩ := by
 obtain ⟨q1,q2,q3⟩ := hq
 obtain ⟨r1,r2,r3,r4,r5,r6⟩ := hr
 have lq : lenQ t g mb := ⟨q1,q2,q3⟩
 have iq : intQ i p o m w n := ⟨r1,r2,r3,r4,r5,r6⟩
 obtain ⟨-,-,hlong,hb⟩ := zbb rs hc
 unfold zch at hlong
 have g1 := zac t q1
 have g2 := zac g q2
 have g3 := zac mb q3
 have l1 := zad i r1
 have l2 := zad p r2
 have l3 := zad o r3
 have l4 := zad m r4
 have l5 := zad w r5
 have l6 := zad n r6
 unfold okI at r1 r2 r3 r4 r5 r6
 have hbl := zan b1 b2 b3 b4 b5 rs
 have g4 := zac (batB b1 b2 b3 b4 b5 rs) (by omega)
 have hL : (rs.map rv).length ≤ 9223372036854775807 := by omega
 have hmr := zag rs
 have hex : ∃ qs : List Rec,rs.map rv = qs.map rv := ⟨rs,rfl⟩
 have tk : ∀ l : List UInt8,List.take l.length l = l := fun l => List.take_length
 have hLay : layQ 7 t i p c f o m w g mb n b1 b2 b3 b4 b5 rs = UInt8.ofNat 7 :: (zaj t ++ (zaj g ++ (zaj mb ++ (pq n)))) := by simp [layQ,zat,zbc]
 obtain ⟨Y,hY⟩ : ∃ x,layQ 7 t i p c f o m w g mb n b1 b2 b3 b4 b5 rs = x := ⟨_,rfl⟩
 rw [hY] at hLay ⊢
 unfold Try.f10
 simp only [go_sem,zaa,Nat.reduceAdd,Nat.reduceSub,Nat.reduceMul,Int.reduceToNat,reduceCtorEq,↓reduceIte,Int.reducePow,Nat.reducePow,Int.reduceMod,Nat.reduceLeDiff,Int.reduceLE,Int.reduceNe,Int.reduceEq,Nat.reduceEqDiff,Nat.reduceLT,Nat.reduceBEq,ty,zdq,chkQS,zbh,zat,hc,hL,hex,hmr,Int.reduceEq,Nat.reduceEqDiff,or_self,or_false,false_or,or_true,true_or,if_true,if_false,Int.reduceLE,Int.reduceLT]
 refine zbl 6 ?_
 simp only [go_sem,zaa,Nat.reduceAdd,Nat.reduceSub,Nat.reduceMul,Int.reduceToNat,reduceCtorEq,↓reduceIte,Int.reducePow,Nat.reducePow,Int.reduceMod,Nat.reduceLeDiff,Int.reduceLE,Int.reduceNe,Int.reduceEq,Nat.reduceEqDiff,Nat.reduceLT,Nat.reduceBEq,ty,zdq,fieldS,zbc,zdr,zcg,zaf,zal,zar,Int.reduceAdd,Int.reduceSub,Int.cast_ofNat_Int,lq,iq,hL,hex,hmr,tk,Int.reduceEq,Nat.reduceEqDiff,or_self,or_false,false_or,or_true,true_or,if_true,if_false,dc22_6]
 repeat (refine And.intro (by first | decide | (unfold top; simp only [List.length_append,List.length_cons,List.length_nil]; omega) | (unfold top; omega)) ?_)
 exact zav 2 3 (by decide) rfl rfl rfl (by simp; try omega) (by rw [hLay]; try simp) rfl
set_option maxHeartbeats 8000000 in
theorem putQ_k8 (t : List UInt8) (i p : Int) (c f : Bool) (o m w : Int) (g mb : List UInt8) (n b1 b2 b3 b4 b5 : Int) (rs : List Rec) (fl : Bool) (hc : chkQ 8 t i p c f o m w g mb n b1 b2 b3 b4 b5 rs = 0) (hq : lenQ t g mb) (hr : intQ i p o m w n) (h40 : (rs.map rv).length ≤ 40) :
   awp zdq ty (Try.f10.body.getD .skip) (zbs ty Try.f10.results.toList [] ⟨True,.tup [.ms 0 1 0 (layQ 8 t i p c f o m w g mb n b1 b2 b3 b4 b5 rs).length,.w (.int .i64 0)],[.b (layQ 8 t i p c f o m w g mb n b1 b2 b3 b4 b5 rs)]⟩) ⟨[.agg [.w (.int .u8 8),.str t,.w (.int .i64 i),.w (.int .i64 p),.w (.bool c),.w (.bool f),.w (.int .i64 o),.w (.int .i64 m),.w (.int .i64 w),.str g,.str mb,.w (.int .i64 n),.w (.int .i64 b1),.w (.int .i64 b2),.w (.int .i64 b3),.w (.int .i64 b4),.w (.int .i64 b5),.sg 6 (rs.map rv) fl]] ++ List.replicate (Try.f10.ntmps - 1) .junk,pinHeap 0 [],4⟩ := by
 obtain ⟨q1,q2,q3⟩ := hq
 obtain ⟨r1,r2,r3,r4,r5,r6⟩ := hr
 have lq : lenQ t g mb := ⟨q1,q2,q3⟩
 have iq : intQ i p o m w n := ⟨r1,r2,r3,r4,r5,r6⟩
 obtain ⟨-,-,hlong,hb⟩ := zbb rs hc
 unfold zch at hlong
 have g1 := zac t q1
 have g2 := zac g q2
 have g3 := zac mb q3
 have l1 := zad i r1
 have l2 := zad p r2
 have l3 := zad o r3
 have l4 := zad m r4
 have l5 := zad w r5
 have l6 := zad n r6
 unfold okI at r1 r2 r3 r4 r5 r6
 have hbl := zan b1 b2 b3 b4 b5 rs
 have g4 := zac (batB b1 b2 b3 b4 b5 rs) (by omega)
 have hL : (rs.map rv).length ≤ 9223372036854775807 := by omega
 have hmr := zag rs
 have hex : ∃ qs : List Rec,rs.map rv = qs.map rv := ⟨rs,rfl⟩
 have tk : ∀ l : List UInt8,List.take l.length l = l := fun l => List.take_length
 have hLay : layQ 8 t i p c f o m w g mb n b1 b2 b3 b4 b5 rs = UInt8.ofNat 8 :: (zaj g ++ (zaj mb ++ (pq n))) := by simp [layQ,zat,zbc]
 obtain ⟨Y,hY⟩ : ∃ x,layQ 8 t i p c f o m w g mb n b1 b2 b3 b4 b5 rs = x := ⟨_,rfl⟩
 rw [hY] at hLay ⊢
 unfold Try.f10
 simp only [go_sem,zaa,Nat.reduceAdd,Nat.reduceSub,Nat.reduceMul,Int.reduceToNat,reduceCtorEq,↓reduceIte,Int.reducePow,Nat.reducePow,Int.reduceMod,Nat.reduceLeDiff,Int.reduceLE,Int.reduceNe,Int.reduceEq,Nat.reduceEqDiff,Nat.reduceLT,Nat.reduceBEq,ty,zdq,chkQS,zbh,zat,hc,hL,hex,hmr,Int.reduceEq,Nat.reduceEqDiff,or_self,or_false,false_or,or_true,true_or,if_true,if_false,Int.reduceLE,Int.reduceLT]
 refine zbl 5 ?_
 simp only [go_sem,zaa,Nat.reduceAdd,Nat.reduceSub,Nat.reduceMul,Int.reduceToNat,reduceCtorEq,↓reduceIte,Int.reducePow,Nat.reducePow,Int.reduceMod,Nat.reduceLeDiff,Int.reduceLE,Int.reduceNe,Int.reduceEq,Nat.reduceEqDiff,Nat.reduceLT,Nat.reduceBEq,ty,zdq,fieldS,zbc,zdr,zcg,zaf,zal,zar,Int.reduceAdd,Int.reduceSub,Int.cast_ofNat_Int,lq,iq,hL,hex,hmr,tk,Int.reduceEq,Nat.reduceEqDiff,or_self,or_false,false_or,or_true,true_or,if_true,if_false,dc22_2]
 repeat (refine And.intro (by first | decide | (unfold top; simp only [List.length_append,List.length_cons,List.length_nil]; omega) | (unfold top; omega)) ?_)
 exact zav 2 3 (by decide) rfl rfl rfl (by simp; try omega) (by rw [hLay]; try simp) rfl
set_option maxHeartbeats 8000000 in
theorem putQ_k9 (t : List UInt8) (i p : Int) (c f : Bool) (o m w : Int) (g mb : List UInt8) (n b1 b2 b3 b4 b5 : Int) (rs : List Rec) (fl : Bool) (hc : chkQ 9 t i p c f o m w g mb n b1 b2 b3 b4 b5 rs = 0) (hq : lenQ t g mb) (hr : intQ i p o m w n) (h40 : (rs.map rv).length ≤ 40) :
   awp zdq ty (Try.f10.body.getD .skip) (zbs ty Try.f10.results.toList [] ⟨True,.tup [.ms 0 1 0 (layQ 9 t i p c f o m w g mb n b1 b2 b3 b4 b5 rs).length,.w (.int .i64 0)],[.b (layQ 9 t i p c f o m w g mb n b1 b2 b3 b4 b5 rs)]⟩) ⟨[.agg [.w (.int .u8 9),.str t,.w (.int .i64 i),.w (.int .i64 p),.w (.bool c),.w (.bool f),.w (.int .i64 o),.w (.int .i64 m),.w (.int .i64 w),.str g,.str mb,.w (.int .i64 n),.w (.int .i64 b1),.w (.int .i64 b2),.w (.int .i64 b3),.w (.int .i64 b4),.w (.int .i64 b5),.sg 6 (rs.map rv) fl]] ++ List.replicate (Try.f10.ntmps - 1) .junk,pinHeap 0 [],4⟩ := by
 obtain ⟨q1,q2,q3⟩ := hq
 obtain ⟨r1,r2,r3,r4,r5,r6⟩ := hr
 have lq : lenQ t g mb := ⟨q1,q2,q3⟩
 have iq : intQ i p o m w n := ⟨r1,r2,r3,r4,r5,r6⟩
 obtain ⟨-,-,hlong,hb⟩ := zbb rs hc
 unfold zch at hlong
 have g1 := zac t q1
 have g2 := zac g q2
 have g3 := zac mb q3
 have l1 := zad i r1
 have l2 := zad p r2
 have l3 := zad o r3
 have l4 := zad m r4
 have l5 := zad w r5
 have l6 := zad n r6
 unfold okI at r1 r2 r3 r4 r5 r6
 have hbl := zan b1 b2 b3 b4 b5 rs
 have g4 := zac (batB b1 b2 b3 b4 b5 rs) (by omega)
 have hL : (rs.map rv).length ≤ 9223372036854775807 := by omega
 have hmr := zag rs
 have hex : ∃ qs : List Rec,rs.map rv = qs.map rv := ⟨rs,rfl⟩
 have tk : ∀ l : List UInt8,List.take l.length l = l := fun l => List.take_length
 have hLay : layQ 9 t i p c f o m w g mb n b1 b2 b3 b4 b5 rs = UInt8.ofNat 9 :: (zaj g ++ (zaj mb)) := by simp [layQ,zat,zbc]
 obtain ⟨Y,hY⟩ : ∃ x,layQ 9 t i p c f o m w g mb n b1 b2 b3 b4 b5 rs = x := ⟨_,rfl⟩
 rw [hY] at hLay ⊢
 unfold Try.f10
 simp only [go_sem,zaa,Nat.reduceAdd,Nat.reduceSub,Nat.reduceMul,Int.reduceToNat,reduceCtorEq,↓reduceIte,Int.reducePow,Nat.reducePow,Int.reduceMod,Nat.reduceLeDiff,Int.reduceLE,Int.reduceNe,Int.reduceEq,Nat.reduceEqDiff,Nat.reduceLT,Nat.reduceBEq,ty,zdq,chkQS,zbh,zat,hc,hL,hex,hmr,Int.reduceEq,Nat.reduceEqDiff,or_self,or_false,false_or,or_true,true_or,if_true,if_false,Int.reduceLE,Int.reduceLT]
 refine zbl 4 ?_
 simp only [go_sem,zaa,Nat.reduceAdd,Nat.reduceSub,Nat.reduceMul,Int.reduceToNat,reduceCtorEq,↓reduceIte,Int.reducePow,Nat.reducePow,Int.reduceMod,Nat.reduceLeDiff,Int.reduceLE,Int.reduceNe,Int.reduceEq,Nat.reduceEqDiff,Nat.reduceLT,Nat.reduceBEq,ty,zdq,fieldS,zbc,zdr,zcg,zaf,zal,zar,Int.reduceAdd,Int.reduceSub,Int.cast_ofNat_Int,lq,iq,hL,hex,hmr,tk,Int.reduceEq,Nat.reduceEqDiff,or_self,or_false,false_or,or_true,true_or,if_true,if_false,dc22_1]
 repeat (refine And.intro (by first | decide | (unfold top; simp only [List.length_append,List.length_cons,List.length_nil]; omega) | (unfold top; omega)) ?_)
 exact zav 2 3 (by decide) rfl rfl rfl (by simp; try omega) (by rw [hLay]; try simp) rfl
set_option maxHeartbeats 8000000 in
theorem putQ_k10 (t : List UInt8) (i p : Int) (c f : Bool) (o m w : Int) (g mb : List UInt8) (n b1 b2 b3 b4 b5 : Int) (rs : List Rec) (fl : Bool) (hc : chkQ 10 t i p c f o m w g mb n b1 b2 b3 b4 b5 rs = 0) (hq : lenQ t g mb) (hr : intQ i p o m w n) (h40 : (rs.map rv).length ≤ 40) :
   awp zdq ty (Try.f10.body.getD .skip) (zbs ty Try.f10.results.toList [] ⟨True,.tup [.ms 0 1 0 (layQ 10 t i p c f o m w g mb n b1 b2 b3 b4 b5 rs).length,.w (.int .i64 0)],[.b (layQ 10 t i p c f o m w g mb n b1 b2 b3 b4 b5 rs)]⟩) ⟨[.agg [.w (.int .u8 10),.str t,.w (.int .i64 i),.w (.int .i64 p),.w (.bool c),.w (.bool f),.w (.int .i64 o),.w (.int .i64 m),.w (.int .i64 w),.str g,.str mb,.w (.int .i64 n),.w (.int .i64 b1),.w (.int .i64 b2),.w (.int .i64 b3),.w (.int .i64 b4),.w (.int .i64 b5),.sg 6 (rs.map rv) fl]] ++ List.replicate (Try.f10.ntmps - 1) .junk,pinHeap 0 [],4⟩ := by
 obtain ⟨q1,q2,q3⟩ := hq
 obtain ⟨r1,r2,r3,r4,r5,r6⟩ := hr
 have lq : lenQ t g mb := ⟨q1,q2,q3⟩
 have iq : intQ i p o m w n := ⟨r1,r2,r3,r4,r5,r6⟩
 obtain ⟨-,-,hlong,hb⟩ := zbb rs hc
 unfold zch at hlong
 have g1 := zac t q1
 have g2 := zac g q2
 have g3 := zac mb q3
 have l1 := zad i r1
 have l2 := zad p r2
 have l3 := zad o r3
 have l4 := zad m r4
 have l5 := zad w r5
 have l6 := zad n r6
 unfold okI at r1 r2 r3 r4 r5 r6
 have hbl := zan b1 b2 b3 b4 b5 rs
 have g4 := zac (batB b1 b2 b3 b4 b5 rs) (by omega)
 have hL : (rs.map rv).length ≤ 9223372036854775807 := by omega
 have hmr := zag rs
 have hex : ∃ qs : List Rec,rs.map rv = qs.map rv := ⟨rs,rfl⟩
 have tk : ∀ l : List UInt8,List.take l.length l = l := fun l => List.take_length
 have hLay : layQ 10 t i p c f o m w g mb n b1 b2 b3 b4 b5 rs = UInt8.ofNat 10 :: (zaj t ++ (pq i ++ (pq o ++ (zaj g ++ (zaj mb ++ (pq n)))))) := by simp [layQ,zat,zbc]
 obtain ⟨Y,hY⟩ : ∃ x,layQ 10 t i p c f o m w g mb n b1 b2 b3 b4 b5 rs = x := ⟨_,rfl⟩
 rw [hY] at hLay ⊢
 unfold Try.f10
 simp only [go_sem,zaa,Nat.reduceAdd,Nat.reduceSub,Nat.reduceMul,Int.reduceToNat,reduceCtorEq,↓reduceIte,Int.reducePow,Nat.reducePow,Int.reduceMod,Nat.reduceLeDiff,Int.reduceLE,Int.reduceNe,Int.reduceEq,Nat.reduceEqDiff,Nat.reduceLT,Nat.reduceBEq,ty,zdq,chkQS,zbh,zat,hc,hL,hex,hmr,Int.reduceEq,Nat.reduceEqDiff,or_self,or_false,false_or,or_true,true_or,if_true,if_false,Int.reduceLE,Int.reduceLT]
 refine zbl 8 ?_
 simp only [go_sem,zaa,Nat.reduceAdd,Nat.reduceSub,Nat.reduceMul,Int.reduceToNat,reduceCtorEq,↓reduceIte,Int.reducePow,Nat.reducePow,Int.reduceMod,Nat.reduceLeDiff,Int.reduceLE,Int.reduceNe,Int.reduceEq,Nat.reduceEqDiff,Nat.reduceLT,Nat.reduceBEq,ty,zdq,fieldS,zbc,zdr,zcg,zaf,zal,zar,Int.reduceAdd,Int.reduceSub,Int.cast_ofNat_Int,lq,iq,hL,hex,hmr,tk,Int.reduceEq,Nat.reduceEqDiff,or_self,or_false,false_or,or_true,true_or,if_true,if_false,dc22_9]
 repeat (refine And.intro (by first | decide | (unfold top; simp only [List.length_append,List.length_cons,List.length_nil]; omega) | (unfold top; omega)) ?_)
 exact zav 2 3 (by decide) rfl rfl rfl (by simp; try omega) (by rw [hLay]; try simp) rfl
set_option maxHeartbeats 8000000 in
theorem putQ_k11 (t : List UInt8) (i p : Int) (c f : Bool) (o m w : Int) (g mb : List UInt8) (n b1 b2 b3 b4 b5 : Int) (rs : List Rec) (fl : Bool) (hc : chkQ 11 t i p c f o m w g mb n b1 b2 b3 b4 b5 rs = 0) (hq : lenQ t g mb) (hr : intQ i p o m w n) (h40 : (rs.map rv).length ≤ 40) :
   awp zdq ty (Try.f10.body.getD .skip) (zbs ty Try.f10.results.toList [] ⟨True,.tup [.ms 0 1 0 (layQ 11 t i p c f o m w g mb n b1 b2 b3 b4 b5 rs).length,.w (.int .i64 0)],[.b (layQ 11 t i p c f o m w g mb n b1 b2 b3 b4 b5 rs)]⟩) ⟨[.agg [.w (.int .u8 11),.str t,.w (.int .i64 i),.w (.int .i64 p),.w (.bool c),.w (.bool f),.w (.int .i64 o),.w (.int .i64 m),.w (.int .i64 w),.str g,.str mb,.w (.int .i64 n),.w (.int .i64 b1),.w (.int .i64 b2),.w (.int .i64 b3),.w (.int .i64 b4),.w (.int .i64 b5),.sg 6 (rs.map rv) fl]] ++ List.replicate (Try.f10.ntmps - 1) .junk,pinHeap 0 [],4⟩ := by
 obtain ⟨q1,q2,q3⟩ := hq
 obtain ⟨r1,r2,r3,r4,r5,r6⟩ := hr
 have lq : lenQ t g mb := ⟨q1,q2,q3⟩
 have iq : intQ i p o m w n := ⟨r1,r2,r3,r4,r5,r6⟩
 obtain ⟨-,-,hlong,hb⟩ := zbb rs hc
 unfold zch at hlong
 have g1 := zac t q1
 have g2 := zac g q2
 have g3 := zac mb q3
 have l1 := zad i r1
 have l2 := zad p r2
 have l3 := zad o r3
 have l4 := zad m r4
 have l5 := zad w r5
 have l6 := zad n r6
 unfold okI at r1 r2 r3 r4 r5 r6
 have hbl := zan b1 b2 b3 b4 b5 rs
 have g4 := zac (batB b1 b2 b3 b4 b5 rs) (by omega)
 have hL : (rs.map rv).length ≤ 9223372036854775807 := by omega
 have hmr := zag rs
 have hex : ∃ qs : List Rec,rs.map rv = qs.map rv := ⟨rs,rfl⟩
 have tk : ∀ l : List UInt8,List.take l.length l = l := fun l => List.take_length
 have hLay : layQ 11 t i p c f o m w g mb n b1 b2 b3 b4 b5 rs = UInt8.ofNat 11 :: (zaj t ++ (pq i ++ (zaj g))) := by simp [layQ,zat,zbc]
 obtain ⟨Y,hY⟩ : ∃ x,layQ 11 t i p c f o m w g mb n b1 b2 b3 b4 b5 rs = x := ⟨_,rfl⟩
 rw [hY] at hLay ⊢
 unfold Try.f10
 simp only [go_sem,zaa,Nat.reduceAdd,Nat.reduceSub,Nat.reduceMul,Int.reduceToNat,reduceCtorEq,↓reduceIte,Int.reducePow,Nat.reducePow,Int.reduceMod,Nat.reduceLeDiff,Int.reduceLE,Int.reduceNe,Int.reduceEq,Nat.reduceEqDiff,Nat.reduceLT,Nat.reduceBEq,ty,zdq,chkQS,zbh,zat,hc,hL,hex,hmr,Int.reduceEq,Nat.reduceEqDiff,or_self,or_false,false_or,or_true,true_or,if_true,if_false,Int.reduceLE,Int.reduceLT]
 refine zbl 5 ?_
 simp only [go_sem,zaa,Nat.reduceAdd,Nat.reduceSub,Nat.reduceMul,Int.reduceToNat,reduceCtorEq,↓reduceIte,Int.reducePow,Nat.reducePow,Int.reduceMod,Nat.reduceLeDiff,Int.reduceLE,Int.reduceNe,Int.reduceEq,Nat.reduceEqDiff,Nat.reduceLT,Nat.reduceBEq,ty,zdq,fieldS,zbc,zdr,zcg,zaf,zal,zar,Int.reduceAdd,Int.reduceSub,Int.cast_ofNat_Int,lq,iq,hL,hex,hmr,tk,Int.reduceEq,Nat.reduceEqDiff,or_self,or_false,false_or,or_true,true_or,if_true,if_false,dc22_3]
 repeat (refine And.intro (by first | decide | (unfold top; simp only [List.length_append,List.length_cons,List.length_nil]; omega) | (unfold top; omega)) ?_)
 exact zav 2 3 (by decide) rfl rfl rfl (by simp; try omega) (by rw [hLay]; try simp) rfl
set_option maxHeartbeats 2000000 in
theorem putQ_sound : zbf Try.prog 10 zbx := by
 refine zcm (S := zdq) (T := ty) zbj ty_ok SputQ_ok Try.func10 (c := Try.f10.body.getD .skip) (by kernel_rfl) (by kernel_rfl) (fun xs pins hp _ => ?_)
 unfold zbx at hp ⊢
 split at hp
 · rename_i k t i p c f o m w g mb n b1 b2 b3 b4 b5 xs fl _
   obtain ⟨hk0,hk1,hq,hr,h40,rs,rfl⟩ := hp
   rw [zag]
   refine ⟨by simp,?_⟩
   by_cases hc : chkQ k t i p c f o m w g mb n b1 b2 b3 b4 b5 rs = 0
   · have hB : putQ k t i p c f o m w g mb n b1 b2 b3 b4 b5 rs = layQ k t i p c f o m w g mb n b1 b2 b3 b4 b5 rs := if_pos hc
     have hk := (zbb rs hc).1
     rw [hB,hc]
     rcases knd_le k ⟨hk0,hk⟩ with rfl | rfl | rfl | rfl | rfl | rfl | rfl | rfl | rfl | rfl | rfl | rfl
     · exact putQ_k0 t i p c f o m w g mb n b1 b2 b3 b4 b5 rs fl hc hq hr h40
     · exact putQ_k1 t i p c f o m w g mb n b1 b2 b3 b4 b5 rs fl hc hq hr h40
     · exact putQ_k2 t i p c f o m w g mb n b1 b2 b3 b4 b5 rs fl hc hq hr h40
     · exact putQ_k3 t i p c f o m w g mb n b1 b2 b3 b4 b5 rs fl hc hq hr h40
     · exact putQ_k4 t i p c f o m w g mb n b1 b2 b3 b4 b5 rs fl hc hq hr h40
     · exact putQ_k5 t i p c f o m w g mb n b1 b2 b3 b4 b5 rs fl hc hq hr h40
     · exact putQ_k6 t i p c f o m w g mb n b1 b2 b3 b4 b5 rs fl hc hq hr h40
     · exact putQ_k7 t i p c f o m w g mb n b1 b2 b3 b4 b5 rs fl hc hq hr h40
     · exact putQ_k8 t i p c f o m w g mb n b1 b2 b3 b4 b5 rs fl hc hq hr h40
     · exact putQ_k9 t i p c f o m w g mb n b1 b2 b3 b4 b5 rs fl hc hq hr h40
     · exact putQ_k10 t i p c f o m w g mb n b1 b2 b3 b4 b5 rs fl hc hq hr h40
     · exact putQ_k11 t i p c f o m w g mb n b1 b2 b3 b4 b5 rs fl hc hq hr h40
   · have hB : putQ k t i p c f o m w g mb n b1 b2 b3 b4 b5 rs = [] := if_neg hc
     have d1 := decide_eq_false hc
     have hL : (rs.map rv).length ≤ 9223372036854775807 := by omega
     have hmr := zag rs
     have hex : ∃ qs : List Rec,rs.map rv = qs.map rv := ⟨rs,rfl⟩
     unfold Try.f10
     simp only [go_sem,zaa,Nat.reduceAdd,Nat.reduceSub,Nat.reduceMul,Int.reduceToNat,reduceCtorEq,↓reduceIte,Int.reducePow,Nat.reducePow,Int.reduceMod,Nat.reduceLeDiff,Int.reduceLE,Int.reduceNe,Int.reduceEq,Nat.reduceEqDiff,Nat.reduceLT,Nat.reduceBEq,ty,zdq,chkQS,hk0,hk1,hL,hex,hmr,d1]
     exact zci 2 3 (by decide) rfl rfl hB rfl
 · exact hp.elim
end
end Go.Proofs.Ytmedjkjoannbmaa
namespace Go.Proofs.Ytmedjkjoannbmaa
open Ax
def zbu (x : Int) (bs : List UInt8) (e : Int) : List UInt8 × Int :=
 if x = 116 ∨ x = 103 ∨ x = 107 then (rtL 255 bs e,rtE 255 bs e) else if x = 99 ∨ x = 102 then (zfg 1 bs e,rfixE 1 bs e) else if x = 98 then (rtL 8192 bs e,rtE 8192 bs e) else (numL bs e,numE bs e)
def zft (x : Int) (bs : List UInt8) (e : Int) (k : Int) (t : List UInt8) (i p : Int) (c f : Bool) (o m w : Int) (g mb : List UInt8) (n b1 b2 b3 b4 b5 : Int) (xs : List AV) (fl : Bool) : AV :=
 .agg [.w (.int .u8 k),.str (if x = 116 then rtS' 255 bs e else t),.w (.int .i64 (if x = 105 then numN bs e else i)),.w (.int .i64 (if x = 112 then numN bs e else p)),.w (.bool (if x = 99 then decide (zei 1 bs e = 1) else c)),.w (.bool (if x = 102 then decide (zei 1 bs e = 1) else f)),.w (.int .i64 (if x = 111 then numN bs e else o)),.w (.int .i64 (if x = 109 then numN bs e else m)),.w (.int .i64 (if x = 119 then numN bs e else w)),.str (if x = 103 then rtS' 255 bs e else g),.str (if x = 107 then rtS' 255 bs e else mb),.w (.int .i64 (if x = 110 then numN bs e else n)),.w (.int .i64 (if x = 98 then (zdg (rtS' 8192 bs e)).b else b1)),.w (.int .i64 (if x = 98 then (zdg (rtS' 8192 bs e)).c else b2)),.w (.int .i64 (if x = 98 then (zdg (rtS' 8192 bs e)).p else b3)),.w (.int .i64 (if x = 98 then (zdg (rtS' 8192 bs e)).e else b4)),.w (.int .i64 (if x = 98 then (zdg (rtS' 8192 bs e)).s else b5)),.sg 6 (if x = 98 then (zdg (rtS' 8192 bs e)).rs.map rv else xs) (if x = 98 then emp (zdg (rtS' 8192 bs e)).rs else fl)]
def ltr22 (x : Int) : Prop := x = 116 ∨ x = 105 ∨ x = 112 ∨ x = 99 ∨ x = 102 ∨ x = 111 ∨ x = 109 ∨ x = 119 ∨ x = 103 ∨ x = 107 ∨ x = 110 ∨ x = 98
instance (x : Int) : Decidable (ltr22 x) := by unfold ltr22; infer_instance
def zba : zaq
 | [.rf 0 18 0 0,.w (.int .i32 x),.rf 1 2 0 0],[.g 18 [.agg [.w (.int .u8 k),.str t,.w (.int .i64 i),.w (.int .i64 p),.w (.bool c),.w (.bool f),.w (.int .i64 o),.w (.int .i64 m),.w (.int .i64 w),.str g,.str mb,.w (.int .i64 n),.w (.int .i64 b1),.w (.int .i64 b2),.w (.int .i64 b3),.w (.int .i64 b4),.w (.int .i64 b5),.sg 6 xs fl]],.g 2 [.agg [.sb bs fb,.w (.int .i64 e)]]] => ⟨ltr22 x ∧ bs.length ≤ 1000000 ∧ ∃ rs : List Rec,xs = rs.map rv,.tup [],[.g 18 [zft x bs e k t i p c f o m w g mb n b1 b2 b3 b4 b5 xs fl],rd (zbu x bs e).1 fb (zbu x bs e).2]⟩
 | _,_ => zbv
def Stake22 (f : FuncId) : Option zaq :=
 match f with
 | 46 => some zcs
 | 52 => some numS
 | 55 => some zcr
 | 54 => some bgetS
 | _ => none
theorem Stake22_ok : Fns Try.prog Stake22 := by
 intro f s h
 unfold Stake22 at h
 split at h
 · injection h with h; subst h; exact ⟨⟨_,Try.func46,by kernel_rfl,by kernel_rfl⟩,mfixed_sound⟩
 · injection h with h; subst h; exact ⟨⟨_,Try.func52,by kernel_rfl,by kernel_rfl⟩,num_sound⟩
 · injection h with h; subst h; exact ⟨⟨_,Try.func55,by kernel_rfl,by kernel_rfl⟩,mtext_sound⟩
 · injection h with h; subst h; exact ⟨⟨_,Try.func54,by kernel_rfl,by kernel_rfl⟩,bget_sound⟩
 · cases h
def take22Pl : XPlan := fun id => match id with
 | 0 => .opn [] 2
 | 3 => .opn [] 2
 | 6 => .opn [] 2
 | _ => .std
theorem tkS_len22 (m : Int) (bs : List UInt8) (e : Int) : (rtS' m bs e).length ≤ bs.length := by
 unfold rtS'; split
 · refine Nat.le_trans ?_ (zby bs e)
   unfold tkB; split
   · simp
   · rw [List.length_take]; omega
 · simp
section
set_option maxRecDepth 100000
set_option maxHeartbeats 8000000 in
theorem take22_sound : zbf Try.prog 47 zba := by
 refine zdx (S := Stake22) (SO := zay) (T := ty) zbj ty_ok Stake22_ok Ojust22_ok Try.func47 (c := Try.f47.body.getD .skip) (by kernel_rfl) (fun xs pins hp _ => ?_)
 unfold zba at hp ⊢
 split at hp
 · rename_i x k t i p c f o m w g mb n b1 b2 b3 b4 b5 xs fl bs fb e _
   obtain ⟨hx,hb,rs,rfl⟩ := hp
   have hmr := zag rs
   have hcl := closed_rv rs
   have tk : ∀ l : List UInt8,List.take l.length l = l := fun l => List.take_length
   have hS : (rtS' 8192 bs e).length ≤ 1000000 := by have := tkS_len22 8192 bs e; omega
   refine ⟨by simp,take22Pl,by kernel_rfl,?_⟩
   unfold Try.f47
   rcases hx with rfl | rfl | rfl | rfl | rfl | rfl | rfl | rfl | rfl | rfl | rfl | rfl
   all_goals
     simp only [go_sem,zab,Nat.reduceAdd,Nat.reduceSub,Nat.reduceMul,Int.reduceToNat,reduceCtorEq,↓reduceIte,Int.reducePow,Nat.reducePow,Int.reduceMod,Nat.reduceLeDiff,Int.reduceLE,Int.reduceNe,Int.reduceEq,Nat.reduceEqDiff,Nat.reduceLT,Nat.reduceBEq,List.map_cons,List.map_nil,List.toList_toArray,Array.toList_append,Option.toArray_some,Option.toArray_none,Bool.and_self,ty,Stake22,zay,take22Pl,zfp,yesO,zfq,zem,yesF,zec,zdi,zcs,numS,zcr,bgetS,bav,rd,hb,hS,tk,hcl,Int.reduceEq,Nat.reduceEqDiff,or_self,or_false,false_or,or_true,true_or,if_true,if_false]
     try (repeat (refine And.intro (by first | omega | decide) ?_))
     refine ⟨_,Weak.refl _,?_⟩
     simp only [go_sem,zab,Nat.reduceAdd,Nat.reduceSub,Nat.reduceMul,Int.reduceToNat,reduceCtorEq,↓reduceIte,Int.reducePow,Nat.reducePow,Int.reduceMod,Nat.reduceLeDiff,Int.reduceLE,Int.reduceNe,Int.reduceEq,Nat.reduceEqDiff,Nat.reduceLT,Nat.reduceBEq,List.map_cons,List.map_nil,List.toList_toArray,Array.toList_append,Option.toArray_some,Option.toArray_none,Bool.and_self,ty,zft,zbu,rd,hcl,Int.reduceEq,Nat.reduceEqDiff,or_self,or_false,false_or,or_true,true_or,if_true,if_false]
 · exact hp.elim
end
end Go.Proofs.Ytmedjkjoannbmaa
namespace Go.Proofs.Ytmedjkjoannbmaa
open Ax
theorem fix1_cons (c : UInt8) (r : List UInt8) : zei 1 (c :: r) 0 = c.toNat ∧ zfg 1 (c :: r) 0 = r ∧ rfixE 1 (c :: r) 0 = 0 := by
 have h1 : clampI 1 = 1 := by decide
 have h2 : ¬ (((c :: r).length : Int) < 1) := by simp; omega
 refine ⟨?_,?_,?_⟩
 · unfold zei tkB
   rw [if_pos rfl,h1,if_neg h2]
   simp [last8,unfL]
 · unfold zfg tkL
   rw [if_pos rfl,h1,if_neg h2]
   simp
 · unfold rfixE tkE
   rw [if_pos rfl,h1,if_neg h2]
theorem num_put (n : Int) (h1 : -9223372036854775808 ≤ n) (h2 : n ≤ 9223372036854775807) (r : List UInt8) :
   numN (putU (zz n).toNat ++ r) 0 = n ∧ numL (putU (zz n).toNat ++ r) 0 = r ∧ numE (putU (zz n).toNat ++ r) 0 = 0 := by
 have hz := zea n h1 h2
 have hg := getL_put (zz n).toNat (by omega) r
 have hc : (((zz n).toNat : Nat) : Int) = zz n := by omega
 rw [hc,zg_zz] at hg
 unfold numN numL numE
 rw [if_pos rfl,if_pos rfl,if_pos rfl,hg]
 exact ⟨rfl,by simp,rfl⟩
theorem zz_len (n : Nat) : (zz (n : Int)).toNat = 2 * n := by unfold zz; rw [if_pos (by omega)]; omega
theorem text_put (m : Int) (s r : List UInt8) (hm : (s.length : Int) ≤ m) (hs : s.length ≤ 1000000) :
   rtS' m (zaj s ++ r) 0 = s ∧ rtL m (zaj s ++ r) 0 = r ∧ rtE m (zaj s ++ r) 0 = 0 := by
 obtain ⟨h1,h2,h3⟩ := num_put (s.length : Int) (by omega) (by omega) (s ++ r)
 rw [zz_len] at h1 h2 h3
 have e : zaj s ++ r = putU (2 * s.length) ++ (s ++ r) := by unfold zaj; rw [List.append_assoc]
 have hok : rtOk m (zaj s ++ r) 0 := by unfold rtOk; rw [e,h1,h3]; omega
 have hl : ¬ (((s ++ r).length : Int) < (s.length : Int)) := by simp; omega
 unfold rtS' rtL rtE
 rw [if_pos hok,if_pos hok,if_pos hok,e,h1,h2,h3]
 unfold tkB tkL tkE
 rw [if_neg hl,if_neg hl,if_neg hl]
 simp
theorem flag_toNat (k dd : Bool) : (UInt8.ofNat (flagI k dd).toNat).toNat = (flagI k dd).toNat := by
 cases k <;> cases dd <;> rfl
theorem g_head (d t : Int) (hd : 0 ≤ d ∧ d ≤ 31) (ht : 0 ≤ t ∧ t ≤ 1099511627776) (k dd : Bool) (r bs : List UInt8) (hbs : bs = UInt8.ofNat (flagI k dd).toNat :: (putU (zz d).toNat ++ (putU (zz t).toNat ++ r))) :
   g0 bs 0 = (flagI k dd).toNat ∧ gk bs 0 = k ∧ gdd bs 0 = dd ∧ gd bs 0 = d ∧ gt bs 0 = t ∧ gb3 bs 0 = r ∧ ge3 bs 0 = 0 := by
 subst hbs
 obtain ⟨a1,a2,a3⟩ := fix1_cons (UInt8.ofNat (flagI k dd).toNat) (putU (zz d).toNat ++ (putU (zz t).toNat ++ r))
 obtain ⟨b1,b2,b3⟩ := num_put d (by omega) (by omega) (putU (zz t).toNat ++ r)
 obtain ⟨c1,c2,c3⟩ := num_put t (by omega) (by omega) r
 generalize hB : UInt8.ofNat (flagI k dd).toNat :: (putU (zz d).toNat ++ (putU (zz t).toNat ++ r)) = B at *
 have h0 : g0 B 0 = (flagI k dd).toNat := by unfold g0; rw [a1,flag_toNat,Int.toNat_natCast]
 have hb1 : gb1 B 0 = putU (zz d).toNat ++ (putU (zz t).toNat ++ r) := a2
 have he1 : ge1 B 0 = 0 := a3
 have hb2 : gb2 B 0 = putU (zz t).toNat ++ r := by unfold gb2; rw [hb1,he1,b2]
 have he2 : ge2 B 0 = 0 := by unfold ge2; rw [hb1,he1,b3]
 refine ⟨h0,?_,?_,by unfold gd; rw [hb1,he1,b1],by unfold gt; rw [hb2,he2,c1],by unfold gb3; rw [hb2,he2,c2],by unfold ge3; rw [hb2,he2,c3]⟩
 · unfold gk; rw [h0]; cases k <;> cases dd <;> rfl
 · unfold gdd; rw [h0]; cases k <;> cases dd <;> rfl
theorem rchk_zero {d t : Int} {k : Bool} {key : List UInt8} {dd : Bool} {val : List UInt8} (h : rchk d t k key dd val = 0) :
   (0 ≤ d ∧ d ≤ 31) ∧ (0 ≤ t ∧ t ≤ 1099511627776) ∧ key.length ≤ 64 ∧ val.length ≤ 512 ∧ (k = false → key = [] ∧ dd = false) ∧ (dd = true → val = []) := by
 rcases rchk_cases d t k key dd val with ⟨e,_⟩ | ⟨e,_⟩ | ⟨e,_⟩ | ⟨_,h1,h2,h3⟩
 · omega
 · omega
 · omega
 · unfold rA at h1
   unfold rB at h2
   unfold rC at h3
   refine ⟨by omega,by omega,by omega,by omega,fun hk => ?_,fun hd => ?_⟩
   · refine ⟨?_,?_⟩
     · apply Classical.byContradiction; intro hne; exact h3 (.inl ⟨hk,.inl hne⟩)
     · cases dd with
       | false => rfl
       | true => exact (h3 (.inl ⟨hk,.inr rfl⟩)).elim
   · apply Classical.byContradiction; intro hne; exact h3 (.inr ⟨hd,hne⟩)
theorem get_put (d t : Int) (k : Bool) (key : List UInt8) (dd : Bool) (val : List UInt8) (z : List UInt8) (h : rchk d t k key dd val = 0) :
   gerr (recL d t k key dd val ++ z) 0 = 0 ∧ grec (recL d t k key dd val ++ z) 0 = recV d t k key dd val ∧ gb5 (recL d t k key dd val ++ z) 0 = z ∧ ge5 (recL d t k key dd val ++ z) 0 = 0 := by
 obtain ⟨h1,h2,h3,h4,h5,h6⟩ := rchk_zero h
 obtain ⟨B,hB⟩ : ∃ B,recL d t k key dd val ++ z = B := ⟨_,rfl⟩
 have hform : B = UInt8.ofNat (flagI k dd).toNat :: (putU (zz d).toNat ++ (putU (zz t).toNat ++ ((if k then zaj key else []) ++ ((if dd then [] else zaj val) ++ z)))) := by
   rw [← hB]; unfold recL; simp
 obtain ⟨q0,q1,q2,q3,q4,q5,q6⟩ := g_head d t h1 h2 k dd _ B hform
 rw [hB]
 have r4 : gkey B 0 = key ∧ gb4 B 0 = (if dd then [] else zaj val) ++ z ∧ ge4 B 0 = 0 := by
   unfold gkey gb4 ge4
   rw [q1,q5,q6]
   cases k with
   | true =>
     obtain ⟨t1,t2,t3⟩ := text_put 64 key ((if dd then [] else zaj val) ++ z) (by omega) (by omega)
     exact ⟨t1,t2,t3⟩
   | false => exact ⟨(h5 rfl).1.symm,rfl,rfl⟩
 obtain ⟨r1,r2,r3⟩ := r4
 have r5 : gval B 0 = val ∧ gb5 B 0 = z ∧ ge5 B 0 = 0 := by
   unfold gval gb5 ge5
   rw [q2,r2,r3]
   cases dd with
   | false =>
     obtain ⟨t1,t2,t3⟩ := text_put 512 val z (by omega) (by omega)
     exact ⟨t1,t2,t3⟩
   | true => exact ⟨(h6 rfl).symm,rfl,rfl⟩
 obtain ⟨s1,s2,s3⟩ := r5
 have hf : ¬ 4 ≤ (flagI k dd).toNat := by cases k <;> cases dd <;> decide
 have he : gerr B 0 = 0 := by
   unfold gerr
   rw [s3,if_neg (by simp),q0,q1,q2,q3,q4,r1,s1,h,if_neg]
   rintro (h | h)
   · exact hf h
   · exact h rfl
 refine ⟨he,?_,s2,s3⟩
 unfold grec
 rw [if_pos he,q1,q2,q3,q4,r1,s1]
end Go.Proofs.Ytmedjkjoannbmaa
namespace Go.Proofs.Ytmedjkjoannbmaa
open Ax
theorem rrec_rv (r : Rec) : rrec (rv r) = r := rfl
theorem rv_inj {a b : Rec} (h : rv a = rv b) : a = b := by rw [← rrec_rv a,← rrec_rv b,h]
theorem rb_eq {r : Rec} (h : rk r = 0) : rb r = recL r.d r.t r.k r.key r.dd r.val := if_pos h
theorem gR_put {r : Rec} (h : rk r = 0) (z : List UInt8) : gerr (rb r ++ z) 0 = 0 ∧ gR (rb r ++ z) 0 = r ∧ gb5 (rb r ++ z) 0 = z ∧ ge5 (rb r ++ z) 0 = 0 := by
 obtain ⟨h1,h2,h3,h4⟩ := get_put r.d r.t r.k r.key r.dd r.val z h
 rw [rb_eq h]
 refine ⟨h1,?_,h3,h4⟩
 rw [grec_rv h1] at h2
 exact rv_inj h2
theorem layE_zero {c : Int} : ∀ {a : Int} {rs : List Rec},layE c a rs = 0 → (∀ r ∈ rs,rk r = 0) ∧ (∀ r ∈ rs,a < r.d ∧ r.d < c) ∧ rs.Pairwise (fun x y => x.d < y.d)
 | a,[],_ => ⟨by simp,by simp,List.Pairwise.nil⟩
 | a,r :: rs,h => by
   rw [layE_cons] at h
   by_cases h1 : rk r = 0
   · rw [if_pos h1] at h
     by_cases h2 : r.d ≤ a ∨ c ≤ r.d
     · rw [if_pos h2] at h; omega
     · rw [if_neg h2] at h
       obtain ⟨i1,i2,i3⟩ := layE_zero h
       refine ⟨?_,?_,List.pairwise_cons.2 ⟨fun q hq => (i2 q hq).1,i3⟩⟩
       · intro q hq
         rcases List.mem_cons.1 hq with rfl | hq
         · exact h1
         · exact i1 q hq
       · intro q hq
         rcases List.mem_cons.1 hq with rfl | hq
         · omega
         · have := i2 q hq; omega
   · rw [if_neg h1] at h; exact absurd h h1
theorem readN_put : ∀ (rs : List Rec) (z : List UInt8),(∀ r ∈ rs,rk r = 0) → readN rs.length (rs.flatMap rb ++ z) 0 = some (rs,z,0)
 | [],z,_ => rfl
 | r :: rs,z,h => by
   obtain ⟨h1,h2,h3,h4⟩ := gR_put (h r (by simp)) (rs.flatMap rb ++ z)
   rw [List.length_cons,List.flatMap_cons,List.append_assoc,readN_succ,if_pos h1,h2,h3,h4,readN_put rs z (fun q hq => h q (by simp [hq]))]
   rfl
theorem bE_zero {x : Bat} (h : bE x = 0) : bfld x.b x.c x.p x.e x.s x.rs.length = 0 ∧ layE x.c (-1) x.rs = 0 ∧ (batL x.b x.c x.p x.e x.s x.rs).length ≤ 8192 := by
 unfold bE batE at h
 split at h
 · rename_i h1
   split at h
   · rename_i h2
     split at h
     · omega
     · exact ⟨h1,h2,by omega⟩
   · rename_i h2; exact absurd h h2
 · rename_i h1; exact absurd h h1
theorem bB_eq {x : Bat} (h : bE x = 0) : bB x = zeu (nums x.b x.c x.p x.e x.s x.rs.length) ++ x.rs.flatMap rb := if_pos h
theorem bheads {x : Bat} (h : bE x = 0) (z : List UInt8) : hn 0 (bB x ++ z) = x.b ∧ hn 1 (bB x ++ z) = x.c ∧ hn 2 (bB x ++ z) = x.p ∧ hn 3 (bB x ++ z) = x.e ∧ hn 4 (bB x ++ z) = x.s ∧ hn 5 (bB x ++ z) = x.rs.length ∧ hb 6 (bB x ++ z) = (x.rs.flatMap rb ++ z,0) ∧ x.rs.length ≤ 32 ∧ ∀ r ∈ x.rs,rk r = 0 := by
 obtain ⟨h1,h2,h3⟩ := bE_zero h
 have hz := bfld_zero h1
 obtain ⟨i1,i2,i3⟩ := layE_zero h2
 obtain ⟨T,hT⟩ : ∃ T,x.rs.flatMap rb ++ z = T := ⟨_,rfl⟩
 obtain ⟨X5,hX5⟩ : ∃ X,putU (zz x.rs.length).toNat ++ T = X := ⟨_,rfl⟩
 obtain ⟨X4,hX4⟩ : ∃ X,putU (zz x.s).toNat ++ X5 = X := ⟨_,rfl⟩
 obtain ⟨X3,hX3⟩ : ∃ X,putU (zz x.e).toNat ++ X4 = X := ⟨_,rfl⟩
 obtain ⟨X2,hX2⟩ : ∃ X,putU (zz x.p).toNat ++ X3 = X := ⟨_,rfl⟩
 obtain ⟨X1,hX1⟩ : ∃ X,putU (zz x.c).toNat ++ X2 = X := ⟨_,rfl⟩
 have hW : bB x ++ z = putU (zz x.b).toNat ++ X1 := by
   rw [bB_eq h,← hX1,← hX2,← hX3,← hX4,← hX5,← hT]
   simp only [zeu,nums,List.flatMap_cons,List.flatMap_nil,List.append_assoc,List.append_nil]
 obtain ⟨a1,a2,a3⟩ := num_put x.b (by omega) (by omega) X1
 obtain ⟨b1,b2,b3⟩ := num_put x.c (by omega) (by omega) X2
 obtain ⟨c1,c2,c3⟩ := num_put x.p (by omega) (by omega) X3
 obtain ⟨d1,d2,d3⟩ := num_put x.e (by omega) (by omega) X4
 obtain ⟨e1,e2,e3⟩ := num_put x.s (by omega) (by omega) X5
 obtain ⟨f1,f2,f3⟩ := num_put x.rs.length (by omega) (by omega) T
 rw [← hW] at a1 a2 a3
 rw [hX1] at b1 b2 b3
 rw [hX2] at c1 c2 c3
 rw [hX3] at d1 d2 d3
 rw [hX4] at e1 e2 e3
 rw [hX5] at f1 f2 f3
 have hx : ∃ W,bB x ++ z = W ∧ bB x ++ z = W := ⟨_,rfl,rfl⟩
 obtain ⟨W,hW1,hW2⟩ := hx
 rw [hW1] at a1 a2 a3 ⊢
 have B1 : hb 1 W = (X1,0) := Prod.ext a2 a3
 have N0 : hn 0 W = x.b := a1
 have N1 : hn 1 W = x.c := by unfold hn; rw [B1]; exact b1
 have B2 : hb 2 W = (X2,0) := by show (numL (hb 1 W).1 (hb 1 W).2,numE (hb 1 W).1 (hb 1 W).2) = _; rw [B1]; exact Prod.ext b2 b3
 have N2 : hn 2 W = x.p := by unfold hn; rw [B2]; exact c1
 have B3 : hb 3 W = (X3,0) := by show (numL (hb 2 W).1 (hb 2 W).2,numE (hb 2 W).1 (hb 2 W).2) = _; rw [B2]; exact Prod.ext c2 c3
 have N3 : hn 3 W = x.e := by unfold hn; rw [B3]; exact d1
 have B4 : hb 4 W = (X4,0) := by show (numL (hb 3 W).1 (hb 3 W).2,numE (hb 3 W).1 (hb 3 W).2) = _; rw [B3]; exact Prod.ext d2 d3
 have N4 : hn 4 W = x.s := by unfold hn; rw [B4]; exact e1
 have B5 : hb 5 W = (X5,0) := by show (numL (hb 4 W).1 (hb 4 W).2,numE (hb 4 W).1 (hb 4 W).2) = _; rw [B4]; exact Prod.ext e2 e3
 have N5 : hn 5 W = x.rs.length := by unfold hn; rw [B5]; exact f1
 have B6 : hb 6 W = (T,0) := by show (numL (hb 5 W).1 (hb 5 W).2,numE (hb 5 W).1 (hb 5 W).2) = _; rw [B5]; exact Prod.ext f2 f3
 exact ⟨N0,N1,N2,N3,N4,N5,by rw [B6,hT],by omega,i1⟩
theorem bget_more {x : Bat} (h : bE x = 0) (z : List UInt8) : bget (bB x ++ z) = if z = [] then some x else none := by
 obtain ⟨N0,N1,N2,N3,N4,N5,B6,hl,i1⟩ := bheads h z
 have hrd := readN_put x.rs z i1
 obtain ⟨W,hW1⟩ : ∃ W,bB x ++ z = W := ⟨_,rfl⟩
 rw [hW1] at N0 N1 N2 N3 N4 N5 B6 ⊢
 unfold bget
 rw [N0,N1,N2,N3,N4,N5,B6,if_pos (by omega),Int.toNat_natCast]
 simp only
 rw [hrd]
 simp only
 have hxe : (⟨x.b,x.c,x.p,x.e,x.s,x.rs⟩ : Bat) = x := rfl
 rw [hxe]
 by_cases hzz : z = []
 · rw [if_pos hzz,if_pos (by refine ⟨?_,hzz,h,by rw [← hW1,hzz,List.append_nil]⟩; first | exact trivial | rfl)]
 · rw [if_neg hzz,if_neg (fun q => hzz q.2.1)]
theorem bget_put {x : Bat} (h : bE x = 0) : bget (bB x) = some x := by
 have := bget_more h []
 rwa [List.append_nil,if_pos rfl] at this
theorem bget_some {bs : List UInt8} {x : Bat} (h : bget bs = some x) : bE x = 0 ∧ bB x = bs := by
 unfold bget at h
 split at h
 · split at h
   · split at h
     · rename_i h3
       injection h with h
       subst h
       exact ⟨h3.2.2.1,h3.2.2.2⟩
     · cases h
   · cases h
 · cases h
theorem bB_length {x : Bat} (h : bE x = 0) : (bB x).length ≤ 8192 := by
 rw [show bB x = batL x.b x.c x.p x.e x.s x.rs from if_pos h]; exact (bE_zero h).2.2
end Go.Proofs.Ytmedjkjoannbmaa
