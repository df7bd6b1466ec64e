/- What the proofs of this seat stand on; it asks nothing. -/
import Derived.Test.YtmedjkjoannbmaaZa18
import Derived.Test.YtmedjkjoannbmaaZb00
import Derived.Test.YtmedjkjoannbmaaZc00
import Derived.Test.YtmedjkjoannbmaaZf00
set_option linter.unusedSimpArgs false
set_option linter.unusedVariables false
namespace Go.Proofs.Ytmedjkjoannbmaa
open Ax
set_option maxRecDepth 10000
set_option maxHeartbeats 2000000
theorem arg_two22 {x : AV} (h : Arg ty 7 57 x) : ∃ k er o y d g es f1 ps f2 ks f3 k' er' o' y' d' g' es' f1' ps' f2' ks' f3',x = .agg [.w (.int .u8 k),.w (.int .i64 er),.w (.int .i64 o),.w (.int .i64 y),.w (.bool d),.w (.int .i64 g),.sg 6 (es.map bvp) f1,.si ps f2,.sg 1 (ks.map AV.str) f3,.w (.int .u8 k'),.w (.int .i64 er'),.w (.int .i64 o'),.w (.int .i64 y'),.w (.bool d'),.w (.int .i64 g'),.sg 6 (es'.map bvp) f1',.si ps' f2',.sg 1 (ks'.map AV.str) f3'] ∧ rpP k er o y g es ps ks ∧ rpP k' er' o' y' g' es' ps' ks' := by
 obtain ⟨i,ls,hi,hs,rfl⟩ := h
 have hi' := hi
 simp only [ty] at hi
 injection hi with hi
 subst hi
 unfold Shape at hs
 rw [hi'] at hs
 simp only [List.replicate_succ,List.replicate_zero,ShapeF] at hs
 obtain ⟨l1,r1,rfl,h1,l2,r2,rfl,h2,rfl⟩ := hs
 obtain ⟨k,er,o,y,d,g,es,f1,ps,f2,ks,f3,rfl,hp⟩ := shape_rp22 (n := 0) h1
 obtain ⟨k',er',o',y',d',g',es',f1',ps',f2',ks',f3',rfl,hp'⟩ := shape_rp22 (n := 0) h2
 exact ⟨k,er,o,y,d,g,es,f1,ps,f2,ks,f3,k',er',o',y',d',g',es',f1',ps',f2',ks',f3',rfl,hp,hp'⟩
end Go.Proofs.Ytmedjkjoannbmaa
namespace Go.Proofs.Ytmedjkjoannbmaa
open Ax
theorem req_inj {q r : Rq} (h1 : chkR q = 0) (h2 : chkR r = 0) (f1 : fitR q) (f2 : fitR r) : layR q = layR r ↔ q = r := by
 constructor
 · intro h
   have a := (rd_lay22 q h1 f1 []).1
   have b := (rd_lay22 r h2 f2 []).1
   rw [List.append_nil] at a b
   rw [← a,← b,h]
 · rintro rfl; rfl
theorem rsp_inj {a b : Rs} (h1 : errR a = 0) (h2 : errR b = 0) (f1 : fitA a) (f2 : fitA b) : zfb a = zfb b ↔ a = b := by
 constructor
 · intro h
   have x := rsp_rd h1 f1 []
   have y := rsp_rd h2 f2 []
   rw [List.append_nil] at x y
   rw [← x,← y,h]
 · rintro rfl; rfl
end Go.Proofs.Ytmedjkjoannbmaa
namespace Go.Proofs.Ytmedjkjoannbmaa
open Ax
def Swapart (f : FuncId) : Option zaq :=
 match f with
 | 9 => some yesS
 | 8 => some zfh
 | 16 => some lrpS22
 | 10 => some zbx
 | 12 => some zdp
 | 17 => some putAS
 | 19 => some sresS
 | _ => none
theorem Swapart_ok : Fns Try.prog Swapart := by
 intro f s h
 unfold Swapart at h
 split at h
 · injection h with h; subst h; exact ⟨⟨_,Try.func9,by kernel_rfl,by kernel_rfl⟩,awake22_sound⟩
 · injection h with h; subst h; exact ⟨⟨_,Try.func8,by kernel_rfl,by kernel_rfl⟩,lrq22_sound⟩
 · injection h with h; subst h; exact ⟨⟨_,Try.func16,by kernel_rfl,by kernel_rfl⟩,lrp22_sound⟩
 · injection h with h; subst h; exact ⟨⟨_,Try.func10,by kernel_rfl,by kernel_rfl⟩,putQ_sound⟩
 · injection h with h; subst h; exact ⟨⟨_,Try.func12,by kernel_rfl,by kernel_rfl⟩,sreq22_sound⟩
 · injection h with h; subst h; exact ⟨⟨_,Try.func17,by kernel_rfl,by kernel_rfl⟩,putA_sound⟩
 · injection h with h; subst h; exact ⟨⟨_,Try.func19,by kernel_rfl,by kernel_rfl⟩,sres22_sound⟩
 · cases h
def wapartPl : XPlan := fun id => match id with
 | 5 => .prs [(8,14),(10,14),(11,14)]
 | 9 => .prs [(8,16),(10,16),(11,16)]
 | _ => .std
def wapartS : zaq
 | [x,y,.agg [.w (.int .u8 k2),.w (.int .i64 er2),.w (.int .i64 o2),.w (.int .i64 x2),.w (.bool d2),.w (.int .i64 g2),.sg 6 z1 f12,.si ps2 f22,.sg 1 z2 f32,.w (.int .u8 k3),.w (.int .i64 er3),.w (.int .i64 o3),.w (.int .i64 x3),.w (.bool d3),.w (.int .i64 g3),.sg 6 z3 f13,.si ps3 f23,.sg 1 z4 f33]],[] =>
     ⟨isRq22 x ∧ isRq22 y ∧ (∃ es2 ks2,z1 = es2.map bvp ∧ z2 = ks2.map AV.str ∧ rpP k2 er2 o2 x2 g2 es2 ps2 ks2) ∧ ∃ es3 ks3,z3 = es3.map bvp ∧ z4 = ks3.map AV.str ∧ rpP k3 er3 o3 x3 g3 es3 ps3 ks3,.w (.bool true),[]⟩
 | _,_ => zbv
section
set_option maxRecDepth 100000
set_option maxHeartbeats 16000000 in
theorem wapart_law : zbf Try.prog 7 wapartS := by
 refine zdx (S := Swapart) (SO := noO) (T := ty) zbj ty_ok Swapart_ok noO_ok Try.func7 (c := Try.f7.body.getD .skip) (by kernel_rfl) (fun xs pins hp _ => ?_)
 unfold wapartS at hp ⊢
 split at hp
 · rename_i x0 y0 k2 er2 o2 x2 d2 g2 z1 f12 ps2 f22 z2 f32 k3 er3 o3 x3 d3 g3 z3 f13 ps3 f23 z4 f33 _
   obtain ⟨⟨k,t,i,p,c,f,o,m,w,g,mb,n,b1,b2,b3,b4,b5,rs,fl,rfl,hk,hl,iq,hr⟩,⟨k',t',i',p',c',f',o',m',w',g',mb',n',b1',b2',b3',b4',b5',rs',fl',rfl,hk',hl',iq',hr'⟩,⟨es2,ks2,rfl,rfl,hk2,hi2,hes2,hps2,hks2⟩,es3,ks3,rfl,rfl,hk3,hi3,hes3,hps3,hks3⟩ := hp
   unfold rqV
   refine ⟨by simp,wapartPl,by kernel_rfl,?_⟩
   have hrl : (rs.map rv).length = rs.length := by simp
   have hmr := zag rs
   have hex : ∃ qs : List Rec,rs.map rv = qs.map rv := ⟨rs,rfl⟩
   have hc : coe ty 22 (.sg 6 (rs.map rv) fl) = .sg 6 (rs.map rv) fl := by cases rs <;> rfl
   have ht1 := hl.1
   have ht2 := hl.2.1
   have ht3 := hl.2.2
   have hrl' : (rs'.map rv).length = rs'.length := by simp
   have hmr' := zag rs'
   have hex' : ∃ qs : List Rec,rs'.map rv = qs.map rv := ⟨rs',rfl⟩
   have hc' : coe ty 22 (.sg 6 (rs'.map rv) fl') = .sg 6 (rs'.map rv) fl' := by cases rs' <;> rfl
   have ht1' := hl'.1
   have ht2' := hl'.2.1
   have ht3' := hl'.2.2
   have hel2 : (es2.map bvp).length = es2.length := by simp
   have hkl2 : (ks2.map AV.str).length = ks2.length := by simp
   have hmu2 := zej es2
   have hms2 := zcc ks2
   have hx92 : ∃ gs : List (Bat × Bool),es2.map bvp = gs.map bvp ∧ ∀ p ∈ gs,p.1.rs.length ≤ 9223372036854775807 := ⟨es2,rfl,hes2.2⟩
   have hy92 : ∃ qs : List (List UInt8),ks2.map AV.str = qs.map AV.str ∧ ∀ s ∈ qs,s.length ≤ 9223372036854775807 := ⟨ks2,rfl,hks2.2⟩
   have hcb2 := zdy es2 f12
   have hcs2 := zcz ks2 f32
   have he92 := hes2.1
   have hp92 := hps2.1
   have hk92 := hks2.1
   have hel3 : (es3.map bvp).length = es3.length := by simp
   have hkl3 : (ks3.map AV.str).length = ks3.length := by simp
   have hmu3 := zej es3
   have hms3 := zcc ks3
   have hx93 : ∃ gs : List (Bat × Bool),es3.map bvp = gs.map bvp ∧ ∀ p ∈ gs,p.1.rs.length ≤ 9223372036854775807 := ⟨es3,rfl,hes3.2⟩
   have hy93 : ∃ qs : List (List UInt8),ks3.map AV.str = qs.map AV.str ∧ ∀ s ∈ qs,s.length ≤ 9223372036854775807 := ⟨ks3,rfl,hks3.2⟩
   have hcb3 := zdy es3 f13
   have hcs3 := zcz ks3 f33
   have he93 := hes3.1
   have hp93 := hps3.1
   have hk93 := hks3.1
   have tk : ∀ l : List UInt8,List.take l.length l = l := fun l => List.take_length
   unfold Try.f7
   by_cases LA : t.length ≤ 400 ∧ g.length ≤ 400 ∧ mb.length ≤ 400 ∧ rs.length ≤ 40 ∧ ∀ r ∈ rs,lightR r
   case neg =>
     have DA := decide_eq_false LA
     simp only [go_sem,zab,Nat.reduceAdd,Nat.reduceSub,Nat.reduceMul,Int.reduceToNat,reduceCtorEq,↓reduceIte,Int.reducePow,Nat.reducePow,Int.reduceMod,Nat.reduceLeDiff,Int.reduceLE,Int.reduceNe,Int.reduceEq,Nat.reduceEqDiff,Nat.reduceLT,Nat.reduceBEq,List.map_cons,List.map_nil,List.toList_toArray,Array.toList_append,Option.toArray_some,Option.toArray_none,Bool.and_self,ty,Swapart,wapartPl,zfh,yesS,hrl,hmr,hex,hc,ht1,ht2,ht3,hr,DA]
     repeat (refine And.intro (by first | omega | assumption | decide) ?_)
     exact zas 6 rfl
   have DA := decide_eq_true LA
   by_cases LB : t'.length ≤ 400 ∧ g'.length ≤ 400 ∧ mb'.length ≤ 400 ∧ rs'.length ≤ 40 ∧ ∀ r ∈ rs',lightR r
   case neg =>
     have DB := decide_eq_false LB
     simp only [go_sem,zab,Nat.reduceAdd,Nat.reduceSub,Nat.reduceMul,Int.reduceToNat,reduceCtorEq,↓reduceIte,Int.reducePow,Nat.reducePow,Int.reduceMod,Nat.reduceLeDiff,Int.reduceLE,Int.reduceNe,Int.reduceEq,Nat.reduceEqDiff,Nat.reduceLT,Nat.reduceBEq,List.map_cons,List.map_nil,List.toList_toArray,Array.toList_append,Option.toArray_some,Option.toArray_none,Bool.and_self,ty,Swapart,wapartPl,zfh,yesS,hrl,hmr,hex,hc,ht1,ht2,ht3,hr,hrl',hmr',hex',hc',ht1',ht2',ht3',hr',DA,DB]
     repeat (refine And.intro (by first | omega | assumption | decide) ?_)
     exact zas 6 rfl
   have DB := decide_eq_true LB
   by_cases M2 : lightA22 (es2.map Prod.fst) ps2.length ks2
   case neg =>
     have D2 := decide_eq_false M2
     simp only [go_sem,zab,Nat.reduceAdd,Nat.reduceSub,Nat.reduceMul,Int.reduceToNat,reduceCtorEq,↓reduceIte,Int.reducePow,Nat.reducePow,Int.reduceMod,Nat.reduceLeDiff,Int.reduceLE,Int.reduceNe,Int.reduceEq,Nat.reduceEqDiff,Nat.reduceLT,Nat.reduceBEq,List.map_cons,List.map_nil,List.toList_toArray,Array.toList_append,Option.toArray_some,Option.toArray_none,Bool.and_self,ty,Swapart,wapartPl,zfh,lrpS22,yesS,hrl,hmr,hex,hc,ht1,ht2,ht3,hr,hrl',hmr',hex',hc',ht1',ht2',ht3',hr',hel2,hkl2,hmu2,hms2,hx92,hy92,hcb2,hcs2,he92,hp92,hk92,DA,DB,D2]
     repeat (refine And.intro (by first | omega | assumption | decide) ?_)
     exact zas 6 rfl
   have D2 := decide_eq_true M2
   by_cases M3 : lightA22 (es3.map Prod.fst) ps3.length ks3
   case neg =>
     have D3 := decide_eq_false M3
     simp only [go_sem,zab,Nat.reduceAdd,Nat.reduceSub,Nat.reduceMul,Int.reduceToNat,reduceCtorEq,↓reduceIte,Int.reducePow,Nat.reducePow,Int.reduceMod,Nat.reduceLeDiff,Int.reduceLE,Int.reduceNe,Int.reduceEq,Nat.reduceEqDiff,Nat.reduceLT,Nat.reduceBEq,List.map_cons,List.map_nil,List.toList_toArray,Array.toList_append,Option.toArray_some,Option.toArray_none,Bool.and_self,ty,Swapart,wapartPl,zfh,lrpS22,yesS,hrl,hmr,hex,hc,ht1,ht2,ht3,hr,hrl',hmr',hex',hc',ht1',ht2',ht3',hr',hel2,hkl2,hmu2,hms2,hx92,hy92,hcb2,hcs2,he92,hp92,hk92,hel3,hkl3,hmu3,hms3,hx93,hy93,hcb3,hcs3,he93,hp93,hk93,DA,DB,D2,D3]
     repeat (refine And.intro (by first | omega | assumption | decide) ?_)
     exact zas 6 rfl
   have D3 := decide_eq_true M3
   have lq : lenQ t g mb := ⟨by have := LA.1; omega,by have := LA.2.1; omega,by have := LA.2.2.1; omega⟩
   have h40 : rs.length ≤ 40 := LA.2.2.2.1
   have lq' : lenQ t' g' mb' := ⟨by have := LB.1; omega,by have := LB.2.1; omega,by have := LB.2.2.1; omega⟩
   have h40' : rs'.length ≤ 40 := LB.2.2.2.1
   have hle2 : es2.length ≤ 1000000 := by have := M2.2.2.1.1; rw [List.length_map] at this; omega
   have hlp2 : ps2.length ≤ 1000000 := by have := M2.1; omega
   have hlk2 : ks2.length ≤ 1000000 := by have := M2.2.1; omega
   have hb42 : ∀ p ∈ es2,p.1.rs.length ≤ 40 := fun p hp => (M2.2.2.1.2 p.1 (List.mem_map.2 ⟨p,hp,rfl⟩)).1
   have hx42 : ∃ gs : List (Bat × Bool),es2.map bvp = gs.map bvp ∧ ∀ p ∈ gs,p.1.rs.length ≤ 40 := ⟨es2,rfl,hb42⟩
   have hy42 : ∃ qs : List (List UInt8),ks2.map AV.str = qs.map AV.str := ⟨ks2,rfl⟩
   have hpi2 := hps2.2
   have hle3 : es3.length ≤ 1000000 := by have := M3.2.2.1.1; rw [List.length_map] at this; omega
   have hlp3 : ps3.length ≤ 1000000 := by have := M3.1; omega
   have hlk3 : ks3.length ≤ 1000000 := by have := M3.2.1; omega
   have hb43 : ∀ p ∈ es3,p.1.rs.length ≤ 40 := fun p hp => (M3.2.2.1.2 p.1 (List.mem_map.2 ⟨p,hp,rfl⟩)).1
   have hx43 : ∃ gs : List (Bat × Bool),es3.map bvp = gs.map bvp ∧ ∀ p ∈ gs,p.1.rs.length ≤ 40 := ⟨es3,rfl,hb43⟩
   have hy43 : ∃ qs : List (List UInt8),ks3.map AV.str = qs.map AV.str := ⟨ks3,rfl⟩
   have hpi3 := hps3.2
   have fq : fitR ⟨k,t,i,p,c,f,o,m,w,g,mb,n,⟨b1,b2,b3,b4,b5,rs⟩⟩ := ⟨hk,lq,iq,by have := LA.2.2.2.1; exact this⟩
   have fq' : fitR ⟨k',t',i',p',c',f',o',m',w',g',mb',n',⟨b1',b2',b3',b4',b5',rs'⟩⟩ := ⟨hk',lq',iq',by have := LB.2.2.2.1; exact this⟩
   have eqq := eqQ_iff ⟨k,t,i,p,c,f,o,m,w,g,mb,n,⟨b1,b2,b3,b4,b5,rs⟩⟩ ⟨k',t',i',p',c',f',o',m',w',g',mb',n',⟨b1',b2',b3',b4',b5',rs'⟩⟩
   have inj := fun h1 h2 => req_inj (q := ⟨k,t,i,p,c,f,o,m,w,g,mb,n,⟨b1,b2,b3,b4,b5,rs⟩⟩) (r := ⟨k',t',i',p',c',f',o',m',w',g',mb',n',⟨b1',b2',b3',b4',b5',rs'⟩⟩) h1 h2 fq fq'
   have pl : chkQ k t i p c f o m w g mb n b1 b2 b3 b4 b5 rs = 0 → putQ k t i p c f o m w g mb n b1 b2 b3 b4 b5 rs = layR ⟨k,t,i,p,c,f,o,m,w,g,mb,n,⟨b1,b2,b3,b4,b5,rs⟩⟩ := fun h => if_pos h
   have pl' : chkQ k' t' i' p' c' f' o' m' w' g' mb' n' b1' b2' b3' b4' b5' rs' = 0 → putQ k' t' i' p' c' f' o' m' w' g' mb' n' b1' b2' b3' b4' b5' rs' = layR ⟨k',t',i',p',c',f',o',m',w',g',mb',n',⟨b1',b2',b3',b4',b5',rs'⟩⟩ := fun h => if_pos h
   have fa : fitA ⟨k2,er2,o2,x2,d2,g2,es2.map Prod.fst,ps2,ks2⟩ := ⟨hk2,hi2.1,hi2.2.1,hi2.2.2.1,hi2.2.2.2,hps2.2⟩
   have fa' : fitA ⟨k3,er3,o3,x3,d3,g3,es3.map Prod.fst,ps3,ks3⟩ := ⟨hk3,hi3.1,hi3.2.1,hi3.2.2.1,hi3.2.2.2,hps3.2⟩
   have eqa := eqA_iff ⟨k2,er2,o2,x2,d2,g2,es2.map Prod.fst,ps2,ks2⟩ ⟨k3,er3,o3,x3,d3,g3,es3.map Prod.fst,ps3,ks3⟩
   have inja := fun h1 h2 => rsp_inj (a := ⟨k2,er2,o2,x2,d2,g2,es2.map Prod.fst,ps2,ks2⟩) (b := ⟨k3,er3,o3,x3,d3,g3,es3.map Prod.fst,ps3,ks3⟩) h1 h2 fa fa'
   have pa : errA k2 (es2.map Prod.fst) ps2 ks2 = 0 → putA k2 er2 o2 x2 d2 g2 (es2.map Prod.fst) ps2 ks2 = zfb ⟨k2,er2,o2,x2,d2,g2,es2.map Prod.fst,ps2,ks2⟩ := fun h => if_pos h
   have pa' : errA k3 (es3.map Prod.fst) ps3 ks3 = 0 → putA k3 er3 o3 x3 d3 g3 (es3.map Prod.fst) ps3 ks3 = zfb ⟨k3,er3,o3,x3,d3,g3,es3.map Prod.fst,ps3,ks3⟩ := fun h => if_pos h
   obtain ⟨W,hW⟩ : ∃ W,putQ k t i p c f o m w g mb n b1 b2 b3 b4 b5 rs = W := ⟨_,rfl⟩
   obtain ⟨C,hC⟩ : ∃ C,chkQ k t i p c f o m w g mb n b1 b2 b3 b4 b5 rs = C := ⟨_,rfl⟩
   obtain ⟨W',hW'⟩ : ∃ W,putQ k' t' i' p' c' f' o' m' w' g' mb' n' b1' b2' b3' b4' b5' rs' = W := ⟨_,rfl⟩
   obtain ⟨C',hC'⟩ : ∃ C,chkQ k' t' i' p' c' f' o' m' w' g' mb' n' b1' b2' b3' b4' b5' rs' = C := ⟨_,rfl⟩
   obtain ⟨B,hB⟩ : ∃ B,eqQ k t i p c f o m w g mb n k' t' i' p' c' f' o' m' w' g' mb' n' (zdh b1 b2 b3 b4 b5 rs b1' b2' b3' b4' b5' rs') = B := ⟨_,rfl⟩
   obtain ⟨W2,hW2⟩ : ∃ W,putA k2 er2 o2 x2 d2 g2 (es2.map Prod.fst) ps2 ks2 = W := ⟨_,rfl⟩
   obtain ⟨C2,hC2⟩ : ∃ C,errA k2 (es2.map Prod.fst) ps2 ks2 = C := ⟨_,rfl⟩
   obtain ⟨W3,hW3⟩ : ∃ W,putA k3 er3 o3 x3 d3 g3 (es3.map Prod.fst) ps3 ks3 = W := ⟨_,rfl⟩
   obtain ⟨C3,hC3⟩ : ∃ C,errA k3 (es3.map Prod.fst) ps3 ks3 = C := ⟨_,rfl⟩
   obtain ⟨B2,hB2⟩ : ∃ B,eqA k2 er2 o2 x2 d2 g2 k3 er3 o3 x3 d3 g3 (decide (es2.map Prod.fst = es3.map Prod.fst) && (decide (ps2 = ps3) && decide (ks2 = ks3))) = B := ⟨_,rfl⟩
   have Q : (decide (C = 0) = false) ∨ (decide (C = 0) = true ∧ decide (C' = 0) = false) ∨ (decide (C = 0) = true ∧ decide (C' = 0) = true ∧ decide (W = W') = B) := by
     by_cases h1 : C = 0
     · by_cases h2 : C' = 0
       · refine .inr (.inr ⟨decide_eq_true h1,decide_eq_true h2,?_⟩)
         have h3 := inj (hC.trans h1) (hC'.trans h2)
         rw [← pl (hC.trans h1),← pl' (hC'.trans h2),hW,hW'] at h3
         have h4 : B = true ↔ (⟨k,t,i,p,c,f,o,m,w,g,mb,n,⟨b1,b2,b3,b4,b5,rs⟩⟩ : Rq) = ⟨k',t',i',p',c',f',o',m',w',g',mb',n',⟨b1',b2',b3',b4',b5',rs'⟩⟩ := by rw [← hB]; exact eqq
         by_cases h5 : W = W'
         · rw [decide_eq_true h5]; exact (h4.2 (h3.1 h5)).symm
         · rw [decide_eq_false h5]
           cases B with
           | false => rfl
           | true => exact (h5 (h3.2 (h4.1 rfl))).elim
       · exact .inr (.inl ⟨decide_eq_true h1,decide_eq_false h2⟩)
     · exact .inl (decide_eq_false h1)
   have Q2 : (decide (C2 = 0) = false) ∨ (decide (C2 = 0) = true ∧ decide (C3 = 0) = false) ∨ (decide (C2 = 0) = true ∧ decide (C3 = 0) = true ∧ decide (W2 = W3) = B2) := by
     by_cases h1 : C2 = 0
     · by_cases h2 : C3 = 0
       · refine .inr (.inr ⟨decide_eq_true h1,decide_eq_true h2,?_⟩)
         have h3 := inja (hC2.trans h1) (hC3.trans h2)
         rw [← pa (hC2.trans h1),← pa' (hC3.trans h2),hW2,hW3] at h3
         have h4 : B2 = true ↔ (⟨k2,er2,o2,x2,d2,g2,es2.map Prod.fst,ps2,ks2⟩ : Rs) = ⟨k3,er3,o3,x3,d3,g3,es3.map Prod.fst,ps3,ks3⟩ := by rw [← hB2]; exact eqa
         by_cases h5 : W2 = W3
         · rw [decide_eq_true h5]; exact (h4.2 (h3.1 h5)).symm
         · rw [decide_eq_false h5]
           cases B2 with
           | false => rfl
           | true => exact (h5 (h3.2 (h4.1 rfl))).elim
       · exact .inr (.inl ⟨decide_eq_true h1,decide_eq_false h2⟩)
     · exact .inl (decide_eq_false h1)
   have bb : ∀ b : Bool,(b == b) = true := fun b => beq_self_eq_true b
   clear pl pl' pa pa' inj inja eqq eqa fq fq' fa fa'
   rcases Q with Q | Q | Q
   all_goals
     rcases Q2 with Q2 | Q2 | Q2
     all_goals
       simp only [go_sem,zab,Nat.reduceAdd,Nat.reduceSub,Nat.reduceMul,Int.reduceToNat,reduceCtorEq,↓reduceIte,Int.reducePow,Nat.reducePow,Int.reduceMod,Nat.reduceLeDiff,Int.reduceLE,Int.reduceNe,Int.reduceEq,Nat.reduceEqDiff,Nat.reduceLT,Nat.reduceBEq,List.map_cons,List.map_nil,List.toList_toArray,Array.toList_append,Option.toArray_some,Option.toArray_none,Bool.and_self,ty,Swapart,wapartPl,zfh,lrpS22,zbx,putAS,zdp,sresS,yesS,hrl,hmr,hex,hc,ht1,ht2,ht3,hr,hrl',hmr',hex',hc',ht1',ht2',ht3',hr',hel2,hkl2,hmu2,hms2,hx92,hy92,hcb2,hcs2,he92,hp92,hk92,hel3,hkl3,hmu3,hms3,hx93,hy93,hcb3,hcs3,he93,hp93,hk93,DA,DB,D2,D3,lq,iq,hk,lq',iq',hk',hle2,hlp2,hlk2,hx42,hy42,hpi2,hk2,hi2,hle3,hlp3,hlk3,hx43,hy43,hpi3,hk3,hi3,hW,hC,hW',hC',hB,hW2,hC2,hW3,hC3,hB2,Q,Q2,bb,tk,Bool.not_true]
       repeat (refine And.intro (by first | omega | assumption | decide) ?_)
       exact zas 6 rfl
 · exact hp.elim
end
theorem wapart_dom {x y z : AV} (hx : Arg ty 7 26 x) (hy : Arg ty 7 26 y) (hz : Arg ty 7 57 z) : (wapartS [x,y,z] []).p ∧ (wapartS [x,y,z] []).x = .w (.bool true) := by
 obtain ⟨k,er,o,v,d,g,es,f1,ps,f2,ks,f3,k',er',o',v',d',g',es',f1',ps',f2',ks',f3',rfl,h1,h2⟩ := arg_two22 hz
 exact ⟨⟨is_rq22 (j := 1) hx,is_rq22 (j := 1) hy,⟨es,ks,rfl,rfl,h1⟩,es',ks',rfl,rfl,h2⟩,rfl⟩
end Go.Proofs.Ytmedjkjoannbmaa
