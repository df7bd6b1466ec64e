/- What the proofs of this seat stand on; it asks nothing. -/
import Derived.Test.YtmedjkjoannbmaaZa18
import Derived.Test.YtmedjkjoannbmaaZb00
import Derived.Test.YtmedjkjoannbmaaZc00
import Derived.Test.YtmedjkjoannbmaaZe00
import Derived.Test.YtmedjkjoannbmaaZf00
set_option linter.unusedSimpArgs false
set_option linter.unusedVariables false
namespace Go.Proofs.Ytmedjkjoannbmaa
open Ax
theorem layR_pos (q : Rq) : 1 ≤ (layR q).length := by unfold layR layQ; simp
theorem req_ok {q : Rq} (h : chkR q = 0) (hf : fitR q) : gqOk (layR q) ∧ rdR (layR q) = q := by
 have a := (rd_lay22 q h hf []).1
 rw [List.append_nil] at a
 unfold gqOk
 rw [a]
 exact ⟨⟨h,rfl⟩,rfl⟩
theorem req_app {q : Rq} (h : chkR q = 0) (hf : fitR q) (r : List UInt8) (hr : r ≠ []) : ¬ gqOk (layR q ++ r) := by
 intro hg
 have h1 := (rd_lay22 q h hf r).1
 have h2 := hg.2
 rw [h1] at h2
 have h3 := congrArg List.length h2
 rw [List.length_append] at h3
 exact hr (List.eq_nil_of_length_eq_zero (by omega))
set_option maxHeartbeats 4000000 in
theorem pieceL_len (x : Int) (t : List UInt8) (i p : Int) (c f : Bool) (o m w : Int) (g mb : List UInt8) (n b1 b2 b3 b4 b5 : Int) (rs : List Rec) (ht : ¬ zch t g mb) (hi : intQ i p o m w n) : (zbc x t i p c f o m w g mb n b1 b2 b3 b4 b5 rs).length ≤ 8202 := by
 unfold zch at ht
 obtain ⟨i1,i2,i3,i4,i5,i6⟩ := hi
 have h1 := zac t (by omega)
 have h2 := zac g (by omega)
 have h3 := zac mb (by omega)
 have h4 := zan b1 b2 b3 b4 b5 rs
 have h5 := zac (batB b1 b2 b3 b4 b5 rs) (by omega)
 have j1 := zad i i1
 have j2 := zad p i2
 have j3 := zad o i3
 have j4 := zad m i4
 have j5 := zad w i5
 have j6 := zad n i6
 have k1 : ([UInt8.ofNat (bitN c).toNat]).length ≤ 8202 := by simp
 have k2 : ([UInt8.ofNat (bitN f).toNat]).length ≤ 8202 := by simp
 unfold zbc
 generalize zaj t = A1 at *
 generalize zaj g = A2 at *
 generalize zaj mb = A3 at *
 generalize zaj (batB b1 b2 b3 b4 b5 rs) = A4 at *
 generalize pq i = B1 at *
 generalize pq p = B2 at *
 generalize pq o = B3 at *
 generalize pq m = B4 at *
 generalize pq w = B5 at *
 generalize pq n = B6 at *
 repeat' split
 all_goals first | exact k1 | exact k2 | omega
theorem flat_len22 (f : UInt8 → List UInt8) (h : ∀ x,(f x).length ≤ 8202) : ∀ l : List UInt8,(l.flatMap f).length ≤ 8202 * l.length
 | [] => by simp
 | x :: r => by
   have h1 := h x
   have h2 := flat_len22 f h r
   rw [List.flatMap_cons,List.length_append,List.length_cons]; omega
theorem usesL_len (k : Int) : (zat k).length ≤ 6 := by
 unfold zat
 by_cases h0 : k = 0
 · rw [if_pos h0]; decide
 rw [if_neg h0]
 by_cases h1 : k = 1
 · rw [if_pos h1]; decide
 rw [if_neg h1]
 by_cases h2 : k = 2
 · rw [if_pos h2]; decide
 rw [if_neg h2]
 by_cases h3 : k = 3
 · rw [if_pos h3]; decide
 rw [if_neg h3]
 by_cases h4 : k = 4
 · rw [if_pos h4]; decide
 rw [if_neg h4]
 by_cases h5 : k = 5
 · rw [if_pos h5]; decide
 rw [if_neg h5]
 by_cases h6 : k = 6
 · rw [if_pos h6]; decide
 rw [if_neg h6]
 by_cases h7 : k = 7
 · rw [if_pos h7]; decide
 rw [if_neg h7]
 by_cases h8 : k = 8
 · rw [if_pos h8]; decide
 rw [if_neg h8]
 by_cases h9 : k = 9
 · rw [if_pos h9]; decide
 rw [if_neg h9]
 by_cases h10 : k = 10
 · rw [if_pos h10]; decide
 rw [if_neg h10]
 by_cases h11 : k = 11
 · rw [if_pos h11]; decide
 rw [if_neg h11]
 decide
theorem layR_len {q : Rq} (h : chkR q = 0) (hf : fitR q) : (layR q).length ≤ 60000 := by
 obtain ⟨k,t,i,p,c,f,o,m,w,g,mb,n,⟨b1,b2,b3,b4,b5,rs⟩⟩ := q
 obtain ⟨-,-,hl,-⟩ := zbb _ h
 have h1 := flat_len22 (fun x => zbc (x.toNat : Int) t i p c f o m w g mb n b1 b2 b3 b4 b5 rs) (fun x => pieceL_len _ t i p c f o m w g mb n b1 b2 b3 b4 b5 rs hl hf.2.2.1) (zat k)
 have h2 := usesL_len k
 unfold layR layQ
 rw [List.length_cons]
 simp only at h1 ⊢
 omega
theorem req_cut {q : Rq} (h : chkR q = 0) (hf : fitR q) : ¬ gqOk ((layR q).take ((layR q).length - 1)) := by
 intro hg
 have hp := layR_pos q
 have hl := layR_len h hf
 obtain ⟨b',hb'⟩ : ∃ b',(layR q).take ((layR q).length - 1) = b' := ⟨_,rfl⟩
 rw [hb'] at hg
 have hm' := hg.2
 have hlen : b'.length = (layR q).length - 1 := by rw [← hb',List.length_take]; omega
 have h1 := (rd_lay22 (rdR b') hg.1 (zes b' (by omega)) ((layR q).drop ((layR q).length - 1))).1
 rw [hm',← hb',List.take_append_drop,hb'] at h1
 have h2 := (req_ok h hf).2
 rw [h2] at h1
 rw [← h1] at hm'
 have := congrArg List.length hm'
 omega
theorem layRs_pos (a : Rs) : 1 ≤ (zfb a).length := by unfold zfb layA headA; simp
theorem rsp_ok {a : Rs} (h : errR a = 0) (hf : fitA a) : okA c64 8192 (zfb a) ∧ rdA c64 8192 (zfb a) = a := by
 have x := rsp_rd h hf []
 rw [List.append_nil] at x
 unfold okA
 rw [x]
 exact ⟨⟨h,rfl⟩,rfl⟩
theorem rsp_app {a : Rs} (h : errR a = 0) (hf : fitA a) (r : List UInt8) (hr : r ≠ []) : ¬ okA c64 8192 (zfb a ++ r) := by
 intro hg
 have h1 := rsp_rd h hf r
 have h2 := hg.2
 rw [h1] at h2
 have h3 := congrArg List.length h2
 rw [List.length_append] at h3
 exact hr (List.eq_nil_of_length_eq_zero (by omega))
theorem rsp_cut {a : Rs} (h : errR a = 0) (hf : fitA a) : ¬ okA c64 8192 ((zfb a).take ((zfb a).length - 1)) := by
 intro hg
 have hp := layRs_pos a
 obtain ⟨b',hb'⟩ : ∃ b',(zfb a).take ((zfb a).length - 1) = b' := ⟨_,rfl⟩
 rw [hb'] at hg
 have hm' := hg.2
 have hlen : b'.length = (zfb a).length - 1 := by rw [← hb',List.length_take]; omega
 have h1 := rsp_rd hg.1 (rdA_fit c64 8192 b') ((zfb a).drop ((zfb a).length - 1))
 rw [hm',← hb',List.take_append_drop,hb'] at h1
 have h2 := (rsp_ok h hf).2
 rw [h2] at h1
 rw [← h1] at hm'
 have := congrArg List.length hm'
 omega
theorem layRs_len {a : Rs} (h : errR a = 0) (hf : fitA a) : (zfb a).length ≤ 700000 := by
 obtain ⟨⟨l1,l2,l3⟩,hb,hn⟩ := errR_ok h
 obtain ⟨hk,f1,f2,f3,f4,f5⟩ := hf
 obtain ⟨k,er,o,x,d,g,bl,pl,nl⟩ := a
 simp only at l1 l2 l3 hb hn hk f1 f2 f3 f4 f5
 have h1 := headA_len k er o x d g f1 f2 f3 f4
 have h2 := catB_len bl
 have h3 := catP_len pl f5
 have h4 := catN_len nl hn
 have h5 := zad (bl.length : Int) ⟨by omega,by omega⟩
 have h6 := zad (pl.length : Int) ⟨by omega,by omega⟩
 have h7 := zad (nl.length : Int) ⟨by omega,by omega⟩
 unfold zfb layA
 simp only [List.length_append]
 omega
end Go.Proofs.Ytmedjkjoannbmaa
namespace Go.Proofs.Ytmedjkjoannbmaa
open Ax
def Swback (f : FuncId) : Option zaq :=
 match f with
 | 9 => some yesS
 | 8 => some zfh
 | 16 => some lrpS22
 | 10 => some zbx
 | 21 => some zbr
 | 12 => some zdp
 | 17 => some putAS
 | 23 => some getAS22
 | 19 => some sresS
 | _ => none
theorem Swback_ok : Fns Try.prog Swback := by
 intro f s h
 unfold Swback at h
 split at h
 · injection h with h; subst h; exact ⟨⟨_,Try.func9,by kernel_rfl,by kernel_rfl⟩,awake22_sound⟩
 · injection h with h; subst h; exact ⟨⟨_,Try.func8,by kernel_rfl,by kernel_rfl⟩,lrq22_sound⟩
 · injection h with h; subst h; exact ⟨⟨_,Try.func16,by kernel_rfl,by kernel_rfl⟩,lrp22_sound⟩
 · injection h with h; subst h; exact ⟨⟨_,Try.func10,by kernel_rfl,by kernel_rfl⟩,putQ_sound⟩
 · injection h with h; subst h; exact ⟨⟨_,Try.func21,by kernel_rfl,by kernel_rfl⟩,getQ_sound⟩
 · injection h with h; subst h; exact ⟨⟨_,Try.func12,by kernel_rfl,by kernel_rfl⟩,sreq22_sound⟩
 · injection h with h; subst h; exact ⟨⟨_,Try.func17,by kernel_rfl,by kernel_rfl⟩,putA_sound⟩
 · injection h with h; subst h; exact ⟨⟨_,Try.func23,by kernel_rfl,by kernel_rfl⟩,getA22_sound⟩
 · injection h with h; subst h; exact ⟨⟨_,Try.func19,by kernel_rfl,by kernel_rfl⟩,sres22_sound⟩
 · cases h
def wbackPl : XPlan := fun id => match id with
 | 7 => .frz [5]
 | 16 => .frz [13]
 | _ => .std
def wbackS : zaq
 | [x,y],[] => ⟨isRq22 x ∧ isRp22 y,.w (.bool true),[]⟩
 | _,_ => zbv
theorem wb_req {q : Rq} (h : chkR q = 0) (hf : fitR q) : ∃ Y : List UInt8,putR q = Y ∧ 1 ≤ Y.length ∧ Y.length ≤ 60000 ∧ gqOk Y ∧ rdR Y = q ∧ ¬ gqOk (Y ++ [0]) ∧ ¬ gqOk (Y.take (Y.length - 1)) := by
 obtain ⟨h1,h2⟩ := req_ok h hf
 exact ⟨layR q,if_pos h,layR_pos q,layR_len h hf,h1,h2,req_app h hf [0] (by simp),req_cut h hf⟩
theorem wb_rsp {a : Rs} (h : errR a = 0) (hf : fitA a) : ∃ Y : List UInt8,putA a.k a.er a.o a.x a.d a.g a.bl a.pl a.nl = Y ∧ 1 ≤ Y.length ∧ Y.length ≤ 700000 ∧ okA c64 8192 Y ∧ rdA c64 8192 Y = a ∧ ¬ okA c64 8192 (Y ++ [0]) ∧ ¬ okA c64 8192 (Y.take (Y.length - 1)) := by
 obtain ⟨h1,h2⟩ := rsp_ok h hf
 exact ⟨zfb a,if_pos h,layRs_pos a,layRs_len h hf,h1,h2,rsp_app h hf [0] (by simp),rsp_cut h hf⟩
theorem gqA_no {b : List UInt8} (h : ¬ gqOk b) : gqA b = (.agg [.w (.int .u8 0),.str [],.w (.int .i64 0),.w (.int .i64 0),.w (.bool false),.w (.bool false),.w (.int .i64 0),.w (.int .i64 0),.w (.int .i64 0),.str [],.str [],.w (.int .i64 0),.w (.int .i64 0),.w (.int .i64 0),.w (.int .i64 0),.w (.int .i64 0),.w (.int .i64 0),.sg 6 [] true]) ∧ (if gqOk b then (0 : Int) else 4) = 4 := by
 unfold gqA gqR; rw [if_neg h,if_neg h]; exact ⟨rfl,rfl⟩
theorem gaR_no {b : List UInt8} (h : ¬ okA c64 8192 b) : gaR b = .tup [(.agg [.w (.int .u8 0),.w (.int .i64 0),.w (.int .i64 0),.w (.int .i64 0),.w (.bool false),.w (.int .i64 0),.sg 6 [] true,.si [] true,.sg 1 [] true]),.w (.int .i64 4)] := if_neg h
section
set_option maxRecDepth 100000
set_option maxHeartbeats 16000000 in
theorem wback_law : zbf Try.prog 6 wbackS := by
 refine zdx (S := Swback) (SO := noO) (T := ty) zbj ty_ok Swback_ok noO_ok Try.func6 (c := Try.f6.body.getD .skip) (by kernel_rfl) (fun xs pins hp _ => ?_)
 unfold wbackS at hp ⊢
 split at hp
 · rename_i x0 y0
   obtain ⟨⟨k,t,i,p,c,f,o,m,w,g,mb,n,b1,b2,b3,b4,b5,rs,fl,rfl,hk,hl,iq,hr⟩,⟨k2,er2,o2,x2,d2,g2,es2,f12,ps2,f22,ks2,f32,rfl,hk2,hi2,hes2,hps2,hks2⟩⟩ := hp
   unfold rqV rpV
   refine ⟨by simp,wbackPl,by kernel_rfl,?_⟩
   have hrl : (rs.map rv).length = rs.length := by simp
   have hmr := zag rs
   have hex : ∃ qs : List Rec,rs.map rv = qs.map rv := ⟨rs,rfl⟩
   have hc : coe ty 22 (.sg 6 (rs.map rv) fl) = .sg 6 (rs.map rv) fl := by cases rs <;> rfl
   have ht1 := hl.1
   have ht2 := hl.2.1
   have ht3 := hl.2.2
   have hel2 : (es2.map bvp).length = es2.length := by simp
   have hkl2 : (ks2.map AV.str).length = ks2.length := by simp
   have hmu2 := zej es2
   have hms2 := zcc ks2
   have hx92 : ∃ gs : List (Bat × Bool),es2.map bvp = gs.map bvp ∧ ∀ p ∈ gs,p.1.rs.length ≤ 9223372036854775807 := ⟨es2,rfl,hes2.2⟩
   have hy92 : ∃ qs : List (List UInt8),ks2.map AV.str = qs.map AV.str ∧ ∀ s ∈ qs,s.length ≤ 9223372036854775807 := ⟨ks2,rfl,hks2.2⟩
   have hcb2 := zdy es2 f12
   have hcs2 := zcz ks2 f32
   have he92 := hes2.1
   have hp92 := hps2.1
   have hk92 := hks2.1
   have tk : ∀ l : List UInt8,List.take l.length l = l := fun l => List.take_length
   unfold Try.f6
   by_cases LA : t.length ≤ 400 ∧ g.length ≤ 400 ∧ mb.length ≤ 400 ∧ rs.length ≤ 40 ∧ ∀ r ∈ rs,lightR r
   case neg =>
     have DA := decide_eq_false LA
     simp only [go_sem,zab,Nat.reduceAdd,Nat.reduceSub,Nat.reduceMul,Int.reduceToNat,reduceCtorEq,↓reduceIte,Int.reducePow,Nat.reducePow,Int.reduceMod,Nat.reduceLeDiff,Int.reduceLE,Int.reduceNe,Int.reduceEq,Nat.reduceEqDiff,Nat.reduceLT,Nat.reduceBEq,List.map_cons,List.map_nil,List.toList_toArray,Array.toList_append,Option.toArray_some,Option.toArray_none,Bool.and_self,ty,Swback,wbackPl,zfh,yesS,hrl,hmr,hex,hc,ht1,ht2,ht3,hr,DA]
     exact zas 4 rfl
   have DA := decide_eq_true LA
   by_cases M2 : lightA22 (es2.map Prod.fst) ps2.length ks2
   case neg =>
     have D2 := decide_eq_false M2
     simp only [go_sem,zab,Nat.reduceAdd,Nat.reduceSub,Nat.reduceMul,Int.reduceToNat,reduceCtorEq,↓reduceIte,Int.reducePow,Nat.reducePow,Int.reduceMod,Nat.reduceLeDiff,Int.reduceLE,Int.reduceNe,Int.reduceEq,Nat.reduceEqDiff,Nat.reduceLT,Nat.reduceBEq,List.map_cons,List.map_nil,List.toList_toArray,Array.toList_append,Option.toArray_some,Option.toArray_none,Bool.and_self,ty,Swback,wbackPl,zfh,lrpS22,yesS,hrl,hmr,hex,hc,ht1,ht2,ht3,hr,hel2,hkl2,hmu2,hms2,hx92,hy92,hcb2,hcs2,he92,hp92,hk92,DA,D2]
     exact zas 4 rfl
   have D2 := decide_eq_true M2
   have lq : lenQ t g mb := ⟨by have := LA.1; omega,by have := LA.2.1; omega,by have := LA.2.2.1; omega⟩
   have h40 : rs.length ≤ 40 := LA.2.2.2.1
   have hle2 : es2.length ≤ 1000000 := by have := M2.2.2.1.1; rw [List.length_map] at this; omega
   have hlp2 : ps2.length ≤ 1000000 := by have := M2.1; omega
   have hlk2 : ks2.length ≤ 1000000 := by have := M2.2.1; omega
   have hb42 : ∀ p ∈ es2,p.1.rs.length ≤ 40 := fun p hp => (M2.2.2.1.2 p.1 (List.mem_map.2 ⟨p,hp,rfl⟩)).1
   have hx42 : ∃ gs : List (Bat × Bool),es2.map bvp = gs.map bvp ∧ ∀ p ∈ gs,p.1.rs.length ≤ 40 := ⟨es2,rfl,hb42⟩
   have hy42 : ∃ qs : List (List UInt8),ks2.map AV.str = qs.map AV.str := ⟨ks2,rfl⟩
   have hpi2 := hps2.2
   have fq : fitR ⟨k,t,i,p,c,f,o,m,w,g,mb,n,⟨b1,b2,b3,b4,b5,rs⟩⟩ := ⟨hk,lq,iq,by have := LA.2.2.2.1; exact this⟩
   have fa : fitA ⟨k2,er2,o2,x2,d2,g2,es2.map Prod.fst,ps2,ks2⟩ := ⟨hk2,hi2.1,hi2.2.1,hi2.2.2.1,hi2.2.2.2,hps2.2⟩
   have eqq := (eqQ_iff ⟨k,t,i,p,c,f,o,m,w,g,mb,n,⟨b1,b2,b3,b4,b5,rs⟩⟩ ⟨k,t,i,p,c,f,o,m,w,g,mb,n,⟨b1,b2,b3,b4,b5,rs⟩⟩).2 rfl
   have eqa := (eqA_iff ⟨k2,er2,o2,x2,d2,g2,es2.map Prod.fst,ps2,ks2⟩ ⟨k2,er2,o2,x2,d2,g2,es2.map Prod.fst,ps2,ks2⟩).2 rfl
   have eqa1 : eqA k2 er2 o2 x2 d2 g2 k2 er2 o2 x2 d2 g2 true = true := by unfold eqA; simp
   have t3 : ∀ Y : List UInt8,List.take (Y.length + 1) (Y ++ [UInt8.ofNat 0]) = Y ++ [0] := fun Y => List.take_of_length_le (by rw [List.length_append]; exact Nat.le_refl _)
   have t4 : ∀ Y : List UInt8,Y.length ≤ 700000 → (Y ++ [0]).length ≤ 1000000 ∧ (Y.take (Y.length - 1)).length ≤ 1000000 := fun Y h => ⟨by rw [List.length_append,List.length_singleton]; omega,by rw [List.length_take]; omega⟩
   by_cases hq : chkR ⟨k,t,i,p,c,f,o,m,w,g,mb,n,⟨b1,b2,b3,b4,b5,rs⟩⟩ = 0
   · obtain ⟨Y,hY,hY1,hY2,hY3,hY4,hY5,hY6⟩ := wb_req hq fq
     have hC : chkQ k t i p c f o m w g mb n b1 b2 b3 b4 b5 rs = 0 := hq
     have hW : putQ k t i p c f o m w g mb n b1 b2 b3 b4 b5 rs = Y := hY
     have u1 : gqA Y = (.agg [.w (.int .u8 k),.str t,.w (.int .i64 i),.w (.int .i64 p),.w (.bool c),.w (.bool f),.w (.int .i64 o),.w (.int .i64 m),.w (.int .i64 w),.str g,.str mb,.w (.int .i64 n),.w (.int .i64 b1),.w (.int .i64 b2),.w (.int .i64 b3),.w (.int .i64 b4),.w (.int .i64 b5),.sg 6 (rs.map rv) (emp rs)]) := by unfold gqA gqR; rw [if_pos hY3,hY4]; rfl
     have u2 : (if gqOk Y then (0 : Int) else 4) = 0 := if_pos hY3
     obtain ⟨u3,u4⟩ := gqA_no hY5
     obtain ⟨u5,u6⟩ := gqA_no hY6
     have y1 : Y.length ≤ 1000000 := by omega
     obtain ⟨y2,y3⟩ := t4 Y (by omega)
     have d5 : decide ((Y.length : Int) = 0) = false := decide_eq_false (by omega)
     have e5 : ((Y.length : Int) - 1 + 9223372036854775808) % 18446744073709551616 - 9223372036854775808 = ((Y.length - 1 : Nat) : Int) := by omega
     have t5 := t3 Y
     obtain ⟨Z1,hZ1⟩ : ∃ x,Y ++ [0] = x := ⟨_,rfl⟩
     obtain ⟨Z2,hZ2⟩ : ∃ x,Y.take (Y.length - 1) = x := ⟨_,rfl⟩
     rw [hZ1] at t5 y2 u3 u4
     rw [hZ2] at y3 u5 u6
     have hce : coe ty 22 (.sg 6 (rs.map rv) (emp rs)) = .sg 6 (rs.map rv) (emp rs) := by cases rs <;> rfl
     clear hY3 hY4 hY5 hY6 hq
     by_cases ha : errR ⟨k2,er2,o2,x2,d2,g2,es2.map Prod.fst,ps2,ks2⟩ = 0
     · obtain ⟨X,hH,hH1,hH2,hH3,hH4,hH5,hH6⟩ := wb_rsp ha fa
       obtain ⟨bl2,hbl2⟩ : ∃ x,es2.map Prod.fst = x := ⟨_,rfl⟩
       have hC2 : errA k2 (es2.map Prod.fst) ps2 ks2 = 0 := ha
       have hW2 : putA k2 er2 o2 x2 d2 g2 (es2.map Prod.fst) ps2 ks2 = X := hH
       rw [hbl2] at hC2 hW2 eqa hH4 hmu2 D2
       have r1 : gaR X = .tup [(.agg [.w (.int .u8 k2),.w (.int .i64 er2),.w (.int .i64 o2),.w (.int .i64 x2),.w (.bool d2),.w (.int .i64 g2),.sg 6 (bl2.map bq22) false,.si ps2 false,.sg 1 (ks2.map AV.str) false]),.w (.int .i64 0)] := by unfold gaR; rw [if_pos hH3,hH4]; rfl
       have r2 := gaR_no hH5
       have r3 := gaR_no hH6
       have s1 : X.length ≤ 1000000 := by omega
       obtain ⟨s2,s3⟩ := t4 X (by omega)
       have d6 : decide ((X.length : Int) = 0) = false := decide_eq_false (by omega)
       have e6 : ((X.length : Int) - 1 + 9223372036854775808) % 18446744073709551616 - 9223372036854775808 = ((X.length - 1 : Nat) : Int) := by omega
       have t6 := t3 X
       obtain ⟨Z3,hZ3⟩ : ∃ x,X ++ [0] = x := ⟨_,rfl⟩
       obtain ⟨Z4,hZ4⟩ : ∃ x,X.take (X.length - 1) = x := ⟨_,rfl⟩
       rw [hZ3] at t6 s2 r2
       rw [hZ4] at s3 r3
       have hcq : coe ty 38 (.sg 6 (bl2.map bq22) false) = .sg 6 (bl2.map bq22) false := by cases bl2 <;> rfl
       have hcz := zcz ks2 false
       have hub := bq_ubat bl2
       have hlb : (bl2.map bq22).length ≤ 1000000 := by rw [List.length_map,← hbl2,List.length_map]; exact hle2
       have hxb : ∃ gs : List (Bat × Bool),bl2.map bq22 = gs.map bvp ∧ ∀ p ∈ gs,p.1.rs.length ≤ 40 := by
         refine ⟨bl2.map fun x => (x,emp x.rs),bq_map bl2,?_⟩
         intro p hp
         obtain ⟨x,hx,rfl⟩ := List.mem_map.1 hp
         rw [← hbl2] at hx
         obtain ⟨p',hp',rfl⟩ := List.mem_map.1 hx
         exact hb42 p' hp'
       clear hH3 hH4 hH5 hH6 ha
       simp only [go_sem,zab,Nat.reduceAdd,Nat.reduceSub,Nat.reduceMul,Int.reduceToNat,reduceCtorEq,↓reduceIte,Int.reducePow,Nat.reducePow,Int.reduceMod,Nat.reduceLeDiff,Int.reduceLE,Int.reduceNe,Int.reduceEq,Nat.reduceEqDiff,Nat.reduceLT,Nat.reduceBEq,List.map_cons,List.map_nil,List.toList_toArray,Array.toList_append,Option.toArray_some,Option.toArray_none,Bool.and_self,ty,Swback,wbackPl,zfh,lrpS22,zbx,zbr,zdp,putAS,getAS22,sresS,yesS,hrl,hmr,hex,hc,ht1,ht2,ht3,hr,hel2,hkl2,hmu2,hms2,hx92,hy92,hcb2,hcs2,he92,hp92,hk92,DA,D2,lq,iq,hk,hle2,hlp2,hlk2,hx42,hy42,hpi2,hk2,hi2,hC,hW,u1,u2,u3,u4,u5,u6,y1,y2,y3,d5,e5,t5,hZ2,eqq,hce,hC2,hW2,eqa,eqa1,r1,r2,r3,s1,s2,s3,d6,e6,t6,hZ4,hcq,hcz,hub,hlb,hxb,tk,fillS,Int.toNat_natCast,Nat.sub_zero]
       repeat (refine And.intro (by first | omega | assumption | (unfold top; omega)) ?_)
       exact zas 4 rfl
     · have hC2 : decide (errA k2 (es2.map Prod.fst) ps2 ks2 = 0) = false := decide_eq_false ha
       have hW2 : putA k2 er2 o2 x2 d2 g2 (es2.map Prod.fst) ps2 ks2 = [] := if_neg ha
       simp only [go_sem,zab,Nat.reduceAdd,Nat.reduceSub,Nat.reduceMul,Int.reduceToNat,reduceCtorEq,↓reduceIte,Int.reducePow,Nat.reducePow,Int.reduceMod,Nat.reduceLeDiff,Int.reduceLE,Int.reduceNe,Int.reduceEq,Nat.reduceEqDiff,Nat.reduceLT,Nat.reduceBEq,List.map_cons,List.map_nil,List.toList_toArray,Array.toList_append,Option.toArray_some,Option.toArray_none,Bool.and_self,ty,Swback,wbackPl,zfh,lrpS22,zbx,zbr,zdp,putAS,yesS,hrl,hmr,hex,hc,ht1,ht2,ht3,hr,hel2,hkl2,hmu2,hms2,hx92,hy92,hcb2,hcs2,he92,hp92,hk92,DA,D2,lq,iq,hk,hle2,hlp2,hlk2,hx42,hy42,hpi2,hk2,hi2,hC,hW,u1,u2,u3,u4,u5,u6,y1,y2,y3,d5,e5,t5,hZ2,eqq,hce,hC2,hW2,tk,fillS,Int.toNat_natCast,Nat.sub_zero]
       repeat (refine And.intro (by first | omega | assumption | (unfold top; omega)) ?_)
       exact zas 4 rfl
   · have hC : decide (chkQ k t i p c f o m w g mb n b1 b2 b3 b4 b5 rs = 0) = false := decide_eq_false hq
     have hW : putQ k t i p c f o m w g mb n b1 b2 b3 b4 b5 rs = [] := if_neg hq
     by_cases ha : errR ⟨k2,er2,o2,x2,d2,g2,es2.map Prod.fst,ps2,ks2⟩ = 0
     · obtain ⟨X,hH,hH1,hH2,hH3,hH4,hH5,hH6⟩ := wb_rsp ha fa
       obtain ⟨bl2,hbl2⟩ : ∃ x,es2.map Prod.fst = x := ⟨_,rfl⟩
       have hC2 : errA k2 (es2.map Prod.fst) ps2 ks2 = 0 := ha
       have hW2 : putA k2 er2 o2 x2 d2 g2 (es2.map Prod.fst) ps2 ks2 = X := hH
       rw [hbl2] at hC2 hW2 eqa hH4 hmu2 D2
       have r1 : gaR X = .tup [(.agg [.w (.int .u8 k2),.w (.int .i64 er2),.w (.int .i64 o2),.w (.int .i64 x2),.w (.bool d2),.w (.int .i64 g2),.sg 6 (bl2.map bq22) false,.si ps2 false,.sg 1 (ks2.map AV.str) false]),.w (.int .i64 0)] := by unfold gaR; rw [if_pos hH3,hH4]; rfl
       have r2 := gaR_no hH5
       have r3 := gaR_no hH6
       have s1 : X.length ≤ 1000000 := by omega
       obtain ⟨s2,s3⟩ := t4 X (by omega)
       have d6 : decide ((X.length : Int) = 0) = false := decide_eq_false (by omega)
       have e6 : ((X.length : Int) - 1 + 9223372036854775808) % 18446744073709551616 - 9223372036854775808 = ((X.length - 1 : Nat) : Int) := by omega
       have t6 := t3 X
       obtain ⟨Z3,hZ3⟩ : ∃ x,X ++ [0] = x := ⟨_,rfl⟩
       obtain ⟨Z4,hZ4⟩ : ∃ x,X.take (X.length - 1) = x := ⟨_,rfl⟩
       rw [hZ3] at t6 s2 r2
       rw [hZ4] at s3 r3
       have hcq : coe ty 38 (.sg 6 (bl2.map bq22) false) = .sg 6 (bl2.map bq22) false := by cases bl2 <;> rfl
       have hcz := zcz ks2 false
       have hub := bq_ubat bl2
       have hlb : (bl2.map bq22).length ≤ 1000000 := by rw [List.length_map,← hbl2,List.length_map]; exact hle2
       have hxb : ∃ gs : List (Bat × Bool),bl2.map bq22 = gs.map bvp ∧ ∀ p ∈ gs,p.1.rs.length ≤ 40 := by
         refine ⟨bl2.map fun x => (x,emp x.rs),bq_map bl2,?_⟩
         intro p hp
         obtain ⟨x,hx,rfl⟩ := List.mem_map.1 hp
         rw [← hbl2] at hx
         obtain ⟨p',hp',rfl⟩ := List.mem_map.1 hx
         exact hb42 p' hp'
       clear hH3 hH4 hH5 hH6 ha
       simp only [go_sem,zab,Nat.reduceAdd,Nat.reduceSub,Nat.reduceMul,Int.reduceToNat,reduceCtorEq,↓reduceIte,Int.reducePow,Nat.reducePow,Int.reduceMod,Nat.reduceLeDiff,Int.reduceLE,Int.reduceNe,Int.reduceEq,Nat.reduceEqDiff,Nat.reduceLT,Nat.reduceBEq,List.map_cons,List.map_nil,List.toList_toArray,Array.toList_append,Option.toArray_some,Option.toArray_none,Bool.and_self,ty,Swback,wbackPl,zfh,lrpS22,zbx,zbr,zdp,putAS,getAS22,sresS,yesS,hrl,hmr,hex,hc,ht1,ht2,ht3,hr,hel2,hkl2,hmu2,hms2,hx92,hy92,hcb2,hcs2,he92,hp92,hk92,DA,D2,lq,iq,hk,hle2,hlp2,hlk2,hx42,hy42,hpi2,hk2,hi2,hC,hW,hC2,hW2,eqa,eqa1,r1,r2,r3,s1,s2,s3,d6,e6,t6,hZ4,hcq,hcz,hub,hlb,hxb,tk,fillS,Int.toNat_natCast,Nat.sub_zero]
       repeat (refine And.intro (by first | omega | assumption | (unfold top; omega)) ?_)
       exact zas 4 rfl
     · have hC2 : decide (errA k2 (es2.map Prod.fst) ps2 ks2 = 0) = false := decide_eq_false ha
       have hW2 : putA k2 er2 o2 x2 d2 g2 (es2.map Prod.fst) ps2 ks2 = [] := if_neg ha
       simp only [go_sem,zab,Nat.reduceAdd,Nat.reduceSub,Nat.reduceMul,Int.reduceToNat,reduceCtorEq,↓reduceIte,Int.reducePow,Nat.reducePow,Int.reduceMod,Nat.reduceLeDiff,Int.reduceLE,Int.reduceNe,Int.reduceEq,Nat.reduceEqDiff,Nat.reduceLT,Nat.reduceBEq,List.map_cons,List.map_nil,List.toList_toArray,Array.toList_append,Option.toArray_some,Option.toArray_none,Bool.and_self,ty,Swback,wbackPl,zfh,lrpS22,zbx,zbr,zdp,putAS,yesS,hrl,hmr,hex,hc,ht1,ht2,ht3,hr,hel2,hkl2,hmu2,hms2,hx92,hy92,hcb2,hcs2,he92,hp92,hk92,DA,D2,lq,iq,hk,hle2,hlp2,hlk2,hx42,hy42,hpi2,hk2,hi2,hC,hW,hC2,hW2,tk,fillS,Int.toNat_natCast,Nat.sub_zero]
       repeat (refine And.intro (by first | omega | assumption | (unfold top; omega)) ?_)
       exact zas 4 rfl
 · exact hp.elim
end
theorem wback_dom {x y : AV} (hx : Arg ty 6 26 x) (hy : Arg ty 6 42 y) : (wbackS [x,y] []).p ∧ (wbackS [x,y] []).x = .w (.bool true) :=
 ⟨⟨is_rq22 (j := 0) hx,is_rp22 hy⟩,rfl⟩
end Go.Proofs.Ytmedjkjoannbmaa
