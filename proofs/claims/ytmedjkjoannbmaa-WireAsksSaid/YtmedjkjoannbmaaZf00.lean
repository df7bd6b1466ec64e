/- What the proofs of this seat stand on; it asks nothing. -/
import Derived.Test.YtmedjkjoannbmaaZa12
import Derived.Test.YtmedjkjoannbmaaZb00
import Derived.Test.YtmedjkjoannbmaaZd00
set_option linter.unusedSimpArgs false
set_option linter.unusedVariables false
namespace Go.Proofs.Ytmedjkjoannbmaa
open Ax
theorem w5 : gerr [1,2,10,2,107,2,118] 0 = 0 := by decide +kernel
theorem w7 : gt [1,2,10,2,107,2,118] 0 = 5 := by decide +kernel
theorem w8 : gk [1,2,10,2,107,2,118] 0 = true := by decide +kernel
theorem w9 : gdd [1,2,10,2,107,2,118] 0 = false := by decide +kernel
theorem w10 : gkey [1,2,10,2,107,2,118] 0 = [107] := by decide +kernel
theorem w11 : gval [1,2,10,2,107,2,118] 0 = [118] := by decide +kernel
theorem w12 : grec [1,2,10,2,107,2,118] 0 = recV 1 5 true [107] false [118] := by
 unfold grec; rw [if_pos w5,w6,w7,w8,w9,w10,w11]
section
set_option maxRecDepth 100000
set_option maxHeartbeats 1000000 in
end
end Go.Proofs.Ytmedjkjoannbmaa
namespace Go.Proofs.Ytmedjkjoannbmaa
open Ax
def lrqS22 : zai
 | [.agg [.w (.int .u8 k),.str t,.w (.int .i64 i),.w (.int .i64 p),.w (.bool c),.w (.bool f),.w (.int .i64 o),.w (.int .i64 m),.w (.int .i64 w),.str g,.str mb,.w (.int .i64 n),.w (.int .i64 bb),.w (.int .i64 bc),.w (.int .i64 bp),.w (.int .i64 be),.w (.int .i64 bs),.sg 6 xs fx]],[] =>
     ⟨(t.length ≤ 9223372036854775807 ∧ g.length ≤ 9223372036854775807 ∧ mb.length ≤ 9223372036854775807) ∧ xs.length ≤ 9223372036854775807 ∧ ∃ rs : List Rec,xs = rs.map rv,
       .w (.bool (decide (t.length ≤ 400 ∧ g.length ≤ 400 ∧ mb.length ≤ 400 ∧ (xs.map rrec).length ≤ 40 ∧ ∀ r ∈ xs.map rrec,lightR r))),[]⟩
 | _,_ => zba
def Slrq22 (f : FuncId) : Option zai :=
 match f with
 | 25 => some blightS4
 | _ => none
theorem Slrq22_ok : Fns Try.prog Slrq22 := by
 intro f s h
 unfold Slrq22 at h
 split at h
 · injection h with h; subst h; exact ⟨⟨_,Try.func25,by kernel_rfl,by kernel_rfl⟩,blight4_sound⟩
 · cases h
section
set_option maxRecDepth 100000
set_option maxHeartbeats 4000000 in
theorem lrq22_sound : zaq Try.prog 8 lrqS22 := by
 refine zbo (S := Slrq22) (T := ty) zas ty_ok Slrq22_ok Try.func8 (c := Try.f8.body.getD .skip) (by kernel_rfl) (by kernel_rfl) (fun xs pins hp _ => ?_)
 unfold lrqS22 at hp ⊢
 split at hp
 · rename_i k t i p c f o m w g mb n bb bc bp be bs xs fx _
   obtain ⟨⟨h1,h2,h3⟩,hL,rs,rfl⟩ := hp
   have hrl : (rs.map rv).length = rs.length := by simp
   rw [hrl] at hL
   have hx1 : ∃ k : List Rec,rs.map rv = k.map rv := ⟨rs,rfl⟩
   have hc1 : coe ty 22 (.sg 6 (rs.map rv) fx) = .sg 6 (rs.map rv) fx := by cases rs <;> rfl
   have hmr := zah rs
   rw [hmr]
   refine ⟨by simp,?_⟩
   unfold Try.f8
   by_cases g1 : t.length ≤ 400
   case neg =>
     have d1 : decide ((t.length : Int) ≤ 400) = false := decide_eq_false (by omega)
     rw [decide_eq_false (fun h => g1 h.1)]
     simp only [go_sem,zaa,Nat.reduceAdd,Nat.reduceSub,Nat.reduceMul,Int.reduceToNat,reduceCtorEq,↓reduceIte,Int.reducePow,Nat.reducePow,Int.reduceMod,Nat.reduceLeDiff,Int.reduceLE,Int.reduceNe,Int.reduceEq,Nat.reduceEqDiff,Nat.reduceLT,Nat.reduceBEq,ty,Slrq22,d1]
     exact zao 2 rfl
   have d1 : decide ((t.length : Int) ≤ 400) = true := decide_eq_true (by omega)
   by_cases g2 : g.length ≤ 400
   case neg =>
     have d2 : decide ((g.length : Int) ≤ 400) = false := decide_eq_false (by omega)
     rw [decide_eq_false (fun h => g2 h.2.1)]
     simp only [go_sem,zaa,Nat.reduceAdd,Nat.reduceSub,Nat.reduceMul,Int.reduceToNat,reduceCtorEq,↓reduceIte,Int.reducePow,Nat.reducePow,Int.reduceMod,Nat.reduceLeDiff,Int.reduceLE,Int.reduceNe,Int.reduceEq,Nat.reduceEqDiff,Nat.reduceLT,Nat.reduceBEq,ty,Slrq22,d1,d2]
     exact zao 2 rfl
   have d2 : decide ((g.length : Int) ≤ 400) = true := decide_eq_true (by omega)
   by_cases g3 : mb.length ≤ 400
   case neg =>
     have d3 : decide ((mb.length : Int) ≤ 400) = false := decide_eq_false (by omega)
     rw [decide_eq_false (fun h => g3 h.2.2.1)]
     simp only [go_sem,zaa,Nat.reduceAdd,Nat.reduceSub,Nat.reduceMul,Int.reduceToNat,reduceCtorEq,↓reduceIte,Int.reducePow,Nat.reducePow,Int.reduceMod,Nat.reduceLeDiff,Int.reduceLE,Int.reduceNe,Int.reduceEq,Nat.reduceEqDiff,Nat.reduceLT,Nat.reduceBEq,ty,Slrq22,d1,d2,d3]
     exact zao 2 rfl
   have d3 : decide ((mb.length : Int) ≤ 400) = true := decide_eq_true (by omega)
   by_cases g4 : rs.length ≤ 40 ∧ ∀ r ∈ rs,lightR r
   · have d4 := decide_eq_true g4
     rw [decide_eq_true (show t.length ≤ 400 ∧ g.length ≤ 400 ∧ mb.length ≤ 400 ∧ rs.length ≤ 40 ∧ ∀ r ∈ rs,lightR r from ⟨g1,g2,g3,g4⟩)]
     simp only [go_sem,zaa,Nat.reduceAdd,Nat.reduceSub,Nat.reduceMul,Int.reduceToNat,reduceCtorEq,↓reduceIte,Int.reducePow,Nat.reducePow,Int.reduceMod,Nat.reduceLeDiff,Int.reduceLE,Int.reduceNe,Int.reduceEq,Nat.reduceEqDiff,Nat.reduceLT,Nat.reduceBEq,ty,Slrq22,blightS4,d1,d2,d3,hrl,hL,hx1,hc1,hmr,d4]
     exact zao 2 rfl
   · have d4 := decide_eq_false g4
     rw [decide_eq_false (fun h => g4 h.2.2.2)]
     simp only [go_sem,zaa,Nat.reduceAdd,Nat.reduceSub,Nat.reduceMul,Int.reduceToNat,reduceCtorEq,↓reduceIte,Int.reducePow,Nat.reducePow,Int.reduceMod,Nat.reduceLeDiff,Int.reduceLE,Int.reduceNe,Int.reduceEq,Nat.reduceEqDiff,Nat.reduceLT,Nat.reduceBEq,ty,Slrq22,blightS4,d1,d2,d3,hrl,hL,hx1,hc1,hmr,d4]
     exact zao 2 rfl
 · exact hp.elim
end
end Go.Proofs.Ytmedjkjoannbmaa
namespace Go.Proofs.Ytmedjkjoannbmaa
open Ax
set_option maxRecDepth 10000
set_option maxHeartbeats 2000000
def rqV (k : Int) (t : List UInt8) (i p : Int) (c f : Bool) (o m w : Int) (g mb : List UInt8) (n b1 b2 b3 b4 b5 : Int) (rs : List Rec) (fl : Bool) : AV :=
 .agg [.w (.int .u8 k),.str t,.w (.int .i64 i),.w (.int .i64 p),.w (.bool c),.w (.bool f),.w (.int .i64 o),.w (.int .i64 m),.w (.int .i64 w),.str g,.str mb,.w (.int .i64 n),.w (.int .i64 b1),.w (.int .i64 b2),.w (.int .i64 b3),.w (.int .i64 b4),.w (.int .i64 b5),.sg 6 (rs.map rv) fl]
def rqP (k : Int) (t : List UInt8) (i p o m w : Int) (g mb : List UInt8) (n : Int) (rs : List Rec) : Prop :=
 (0 ≤ k ∧ k < 256) ∧ (t.length ≤ 9223372036854775807 ∧ g.length ≤ 9223372036854775807 ∧ mb.length ≤ 9223372036854775807) ∧ intQ i p o m w n ∧ rs.length ≤ 9223372036854775807
theorem arg_rq22 {j : Nat} {x : AV} (h : Arg ty (j + 6) 26 x) : ∃ k t i p c f o m w g mb n b1 b2 b3 b4 b5 rs fl,x = rqV k t i p c f o m w g mb n b1 b2 b3 b4 b5 rs fl ∧ rqP k t i p o m w g mb n rs := by
 obtain ⟨i,ls,hi,hs,rfl⟩ := h
 simp only [ty] at hi
 injection hi with hi
 subst hi
 simp only [Shape,ty,ShapeF,isFlatI] at hs
 obtain ⟨l1,r1,rfl,⟨m1,rfl,w1⟩,l2,r2,rfl,⟨m2,rfl,w2⟩,l3,r3,rfl,⟨m3,rfl,w3⟩,l4,r4,rfl,⟨m4,rfl,w4⟩,l5,r5,rfl,⟨m5,rfl⟩,l6,r6,rfl,⟨m6,rfl⟩,l7,r7,rfl,⟨m7,rfl,w7⟩,l8,r8,rfl,⟨m8,rfl,w8⟩,l9,r9,rfl,⟨m9,rfl,w9⟩,l10,r10,rfl,⟨m10,rfl,w10⟩,l11,r11,rfl,⟨m11,rfl,w11⟩,l12,r12,rfl,⟨m12,rfl,w12⟩,l13,r13,rfl,⟨k1,s1,rfl,⟨n1,rfl,v1⟩,k2,s2,rfl,⟨n2,rfl,v2⟩,k3,s3,rfl,⟨n3,rfl,v3⟩,k4,s4,rfl,⟨n4,rfl,v4⟩,k5,s5,rfl,⟨n5,rfl,v5⟩,k6,s6,rfl,⟨xs,f,rfl,hl,hx⟩,rfl⟩,rfl⟩ := hs
 obtain ⟨rs,rfl⟩ := all_rv22 xs (fun x hxm => by
   obtain ⟨l,⟨l1,r1,rfl,⟨m1,rfl,w1⟩,l2,r2,rfl,⟨m2,rfl,w2⟩,l3,r3,rfl,⟨m3,rfl⟩,l4,r4,rfl,⟨m4,rfl,w4⟩,l5,r5,rfl,⟨m5,rfl⟩,l6,r6,rfl,⟨m6,rfl,w6⟩,rfl⟩,_,rfl⟩ := hx x hxm
   exact ⟨⟨m1,m2,m3,m4,m5,m6⟩,rfl⟩)
 rw [List.length_map] at hl
 have hm : maxLen = 9223372036854775807 := by decide
 exact ⟨m1,m2,m3,m4,m5,m6,m7,m8,m9,m10,m11,m12,n1,n2,n3,n4,n5,rs,f,rfl,wf_u8 w1,⟨by omega,by omega,by omega⟩,⟨wf_i64 w3,wf_i64 w4,wf_i64 w7,wf_i64 w8,wf_i64 w9,wf_i64 w12⟩,by omega⟩
def isRq22 (x : AV) : Prop := ∃ k t i p c f o m w g mb n b1 b2 b3 b4 b5 rs fl,x = rqV k t i p c f o m w g mb n b1 b2 b3 b4 b5 rs fl ∧ rqP k t i p o m w g mb n rs
theorem is_rq22 {j : Nat} {x : AV} (h : Arg ty (j + 6) 26 x) : isRq22 x := arg_rq22 h
theorem arg_u822 {x : AV} (h : Arg ty 6 5 x) : ∃ n : Int,x = .w (.int .u8 n) := by
 obtain ⟨i,ls,hi,hs,rfl⟩ := h
 simp only [ty] at hi
 injection hi with hi
 subst hi
 simp only [Shape,ty,ShapeF] at hs
 obtain ⟨m,rfl,_⟩ := hs
 exact ⟨m,rfl⟩
end Go.Proofs.Ytmedjkjoannbmaa
namespace Go.Proofs.Ytmedjkjoannbmaa
open Ax
def Swasks (f : FuncId) : Option zai :=
 match f with
 | 9 => some yesS
 | 8 => some lrqS22
 | 10 => some putQS
 | 11 => some putQS
 | 12 => some zfe
 | 13 => some zfe
 | 14 => some usesS
 | 15 => some usesS
 | _ => none
theorem Swasks_ok : Fns Try.prog Swasks := by
 intro f s h
 unfold Swasks at h
 split at h
 · injection h with h; subst h; exact ⟨⟨_,Try.func9,by kernel_rfl,by kernel_rfl⟩,awake22_sound⟩
 · injection h with h; subst h; exact ⟨⟨_,Try.func8,by kernel_rfl,by kernel_rfl⟩,lrq22_sound⟩
 · injection h with h; subst h; exact ⟨⟨_,Try.func10,by kernel_rfl,by kernel_rfl⟩,putQ_sound⟩
 · injection h with h; subst h; exact ⟨⟨_,Try.func11,by kernel_rfl,by kernel_rfl⟩,rputQ_sound⟩
 · injection h with h; subst h; exact ⟨⟨_,Try.func12,by kernel_rfl,by kernel_rfl⟩,sreq22_sound⟩
 · injection h with h; subst h; exact ⟨⟨_,Try.func13,by kernel_rfl,by kernel_rfl⟩,rsreq22_sound⟩
 · injection h with h; subst h; exact ⟨⟨_,Try.func14,by kernel_rfl,by kernel_rfl⟩,zfc⟩
 · injection h with h; subst h; exact ⟨⟨_,Try.func15,by kernel_rfl,by kernel_rfl⟩,zfp⟩
 · cases h
def wasksPl : XPlan := fun id => match id with
 | 5 => .prs [(13,14),(13,15)]
 | _ => .std
def wasksS : zai
 | [x,y,.w (.int .u8 kk)],[] => ⟨isRq22 x ∧ isRq22 y,.w (.bool true),[]⟩
 | _,_ => zba
section
set_option maxRecDepth 100000
set_option maxHeartbeats 8000000 in
theorem wasks_law : zaq Try.prog 3 wasksS := by
 refine zcj (S := Swasks) (SO := noO) (T := ty) zas ty_ok Swasks_ok noO_ok Try.func3 (c := Try.f3.body.getD .skip) (by kernel_rfl) (fun xs pins hp _ => ?_)
 unfold wasksS at hp ⊢
 split at hp
 · rename_i x y kk _
   obtain ⟨⟨k,t,i,p,c,f,o,m,w,g,mb,n,b1,b2,b3,b4,b5,rs,fl,rfl,hk,hl,iq,hr⟩,⟨k',t',i',p',c',f',o',m',w',g',mb',n',b1',b2',b3',b4',b5',rs',fl',rfl,hk',hl',iq',hr'⟩⟩ := hp
   unfold rqV
   refine ⟨by simp,wasksPl,by kernel_rfl,?_⟩
   have hrl : (rs.map rv).length = rs.length := by simp
   have hmr := zah rs
   have hex : ∃ qs : List Rec,rs.map rv = qs.map rv := ⟨rs,rfl⟩
   have hc : coe ty 22 (.sg 6 (rs.map rv) fl) = .sg 6 (rs.map rv) fl := by cases rs <;> rfl
   have ht1 := hl.1
   have ht2 := hl.2.1
   have ht3 := hl.2.2
   have hrl' : (rs'.map rv).length = rs'.length := by simp
   have hmr' := zah rs'
   have hex' : ∃ qs : List Rec,rs'.map rv = qs.map rv := ⟨rs',rfl⟩
   have hc' : coe ty 22 (.sg 6 (rs'.map rv) fl') = .sg 6 (rs'.map rv) fl' := by cases rs' <;> rfl
   have ht1' := hl'.1
   have ht2' := hl'.2.1
   have ht3' := hl'.2.2
   unfold Try.f3
   by_cases LA : t.length ≤ 400 ∧ g.length ≤ 400 ∧ mb.length ≤ 400 ∧ rs.length ≤ 40 ∧ ∀ r ∈ rs,lightR r
   case neg =>
     have DA := decide_eq_false LA
     simp only [go_sem,zab,Nat.reduceAdd,Nat.reduceSub,Nat.reduceMul,Int.reduceToNat,reduceCtorEq,↓reduceIte,Int.reducePow,Nat.reducePow,Int.reduceMod,Nat.reduceLeDiff,Int.reduceLE,Int.reduceNe,Int.reduceEq,Nat.reduceEqDiff,Nat.reduceLT,Nat.reduceBEq,List.map_cons,List.map_nil,List.toList_toArray,Array.toList_append,Option.toArray_some,Option.toArray_none,Bool.and_self,ty,Swasks,wasksPl,lrqS22,yesS,hrl,hmr,hex,hc,ht1,ht2,ht3,hr,DA]
     exact zao 6 rfl
   have DA := decide_eq_true LA
   by_cases LB : t'.length ≤ 400 ∧ g'.length ≤ 400 ∧ mb'.length ≤ 400 ∧ rs'.length ≤ 40 ∧ ∀ r ∈ rs',lightR r
   case neg =>
     have DB := decide_eq_false LB
     simp only [go_sem,zab,Nat.reduceAdd,Nat.reduceSub,Nat.reduceMul,Int.reduceToNat,reduceCtorEq,↓reduceIte,Int.reducePow,Nat.reducePow,Int.reduceMod,Nat.reduceLeDiff,Int.reduceLE,Int.reduceNe,Int.reduceEq,Nat.reduceEqDiff,Nat.reduceLT,Nat.reduceBEq,List.map_cons,List.map_nil,List.toList_toArray,Array.toList_append,Option.toArray_some,Option.toArray_none,Bool.and_self,ty,Swasks,wasksPl,lrqS22,yesS,hrl,hmr,hex,hc,ht1,ht2,ht3,hr,hrl',hmr',hex',hc',ht1',ht2',ht3',hr',DA,DB]
     exact zao 6 rfl
   have DB := decide_eq_true LB
   have lq : lenQ t g mb := ⟨by have := LA.1; omega,by have := LA.2.1; omega,by have := LA.2.2.1; omega⟩
   have h40 : rs.length ≤ 40 := LA.2.2.2.1
   have lq' : lenQ t' g' mb' := ⟨by have := LB.1; omega,by have := LB.2.1; omega,by have := LB.2.2.1; omega⟩
   have h40' : rs'.length ≤ 40 := LB.2.2.2.1
   obtain ⟨W,hW⟩ : ∃ W,putQ k t i p c f o m w g mb n b1 b2 b3 b4 b5 rs = W := ⟨_,rfl⟩
   obtain ⟨C,hC⟩ : ∃ C,chkQ k t i p c f o m w g mb n b1 b2 b3 b4 b5 rs = C := ⟨_,rfl⟩
   obtain ⟨B,hB⟩ : ∃ B,eqQ k t i p c f o m w g mb n k' t' i' p' c' f' o' m' w' g' mb' n' (zcl b1 b2 b3 b4 b5 rs b1' b2' b3' b4' b5' rs') = B := ⟨_,rfl⟩
   obtain ⟨U,hU⟩ : ∃ U,zcr kk = U := ⟨_,rfl⟩
   have dW : decide (W = W) = true := decide_eq_true rfl
   have dC : decide (C = C) = true := decide_eq_true rfl
   have dU : decide (U = U) = true := decide_eq_true rfl
   have dB : (B == B) = true := beq_self_eq_true B
   have tk : ∀ l : List UInt8,List.take l.length l = l := fun l => List.take_length
   simp only [go_sem,zab,Nat.reduceAdd,Nat.reduceSub,Nat.reduceMul,Int.reduceToNat,reduceCtorEq,↓reduceIte,Int.reducePow,Nat.reducePow,Int.reduceMod,Nat.reduceLeDiff,Int.reduceLE,Int.reduceNe,Int.reduceEq,Nat.reduceEqDiff,Nat.reduceLT,Nat.reduceBEq,List.map_cons,List.map_nil,List.toList_toArray,Array.toList_append,Option.toArray_some,Option.toArray_none,Bool.and_self,ty,Swasks,wasksPl,lrqS22,putQS,zfe,usesS,yesS,hrl,hmr,hex,hc,ht1,ht2,ht3,hr,hrl',hmr',hex',hc',ht1',ht2',ht3',hr',DA,DB,lq,iq,hk,lq',iq',hk',hW,hC,hB,hU,dW,dC,dU,dB,tk]
   repeat (refine And.intro (by first | omega | assumption) ?_)
   exact zao 6 rfl
 · exact hp.elim
end
theorem wasks_dom {x y z : AV} (hx : Arg ty 6 26 x) (hy : Arg ty 6 26 y) (hz : Arg ty 6 5 z) : (wasksS [x,y,z] []).p ∧ (wasksS [x,y,z] []).x = .w (.bool true) := by
 obtain ⟨n,rfl⟩ := arg_u822 hz
 exact ⟨⟨is_rq22 (j := 0) hx,is_rq22 (j := 0) hy⟩,rfl⟩
end Go.Proofs.Ytmedjkjoannbmaa
