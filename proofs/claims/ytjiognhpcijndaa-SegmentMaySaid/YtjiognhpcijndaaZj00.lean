/- What the proofs of this seat stand on; it asks nothing. -/
import Derived.Test.YtjiognhpcijndaaZa10
import Derived.Test.YtjiognhpcijndaaZb00
import Derived.Test.YtjiognhpcijndaaZc00
import Derived.Test.YtjiognhpcijndaaZe00
set_option linter.unusedSimpArgs false
set_option linter.unusedVariables false
namespace Go.Proofs.Ytjiognhpcijndaa
open Ax
section
set_option maxRecDepth 100000
def unfL (bs : List UInt8) (n : Nat) : Nat := bs.foldl (fun n b => n * 256 + b.toNat) n
def last8 (bs : List UInt8) : List UInt8 := bs.drop (bs.length - 8)
end
end Go.Proofs.Ytjiognhpcijndaa
namespace Go.Proofs.Ytjiognhpcijndaa
open Ax
def tkB (n : Int) (bs : List UInt8) : List UInt8 := if (bs.length : Int) < n then [] else bs.take n.toNat
section
set_option maxRecDepth 100000
def rfixN (n : Int) (bs : List UInt8) (e : Int) : Int := if e = 0 then (unfL (last8 (tkB (clampI n) bs)) 0 : Nat) else 0
def rtOk (m : Int) (bs : List UInt8) (e : Int) : Prop := numE bs e = 0 ∧ 0 ≤ numN bs e ∧ numN bs e ≤ max m 0
instance (m : Int) (bs : List UInt8) (e : Int) : Decidable (rtOk m bs e) := by unfold rtOk; infer_instance
def rtS' (m : Int) (bs : List UInt8) (e : Int) : List UInt8 := if rtOk m bs e then tkB (numN bs e) (numL bs e) else []
def rtL (m : Int) (bs : List UInt8) (e : Int) : List UInt8 := if rtOk m bs e then tkL (numN bs e) (numL bs e) else numL bs e
def rtE (m : Int) (bs : List UInt8) (e : Int) : Int := if numE bs e ≠ 0 then numE bs e else if rtOk m bs e then tkE (numN bs e) (numL bs e) 0 else 5
end
end Go.Proofs.Ytjiognhpcijndaa
namespace Go.Proofs.Ytjiognhpcijndaa
open Ax
def g0 (bs : List UInt8) (e : Int) : Nat := (rfixN 1 bs e).toNat
def gb2 (bs : List UInt8) (e : Int) := numL (gb1 bs e) (ge1 bs e)
def ge2 (bs : List UInt8) (e : Int) := numE (gb1 bs e) (ge1 bs e)
def gt (bs : List UInt8) (e : Int) : Int := numN (gb2 bs e) (ge2 bs e)
def gb3 (bs : List UInt8) (e : Int) := numL (gb2 bs e) (ge2 bs e)
def ge3 (bs : List UInt8) (e : Int) := numE (gb2 bs e) (ge2 bs e)
def gk (bs : List UInt8) (e : Int) : Bool := decide (g0 bs e % 2 = 1)
def gdd (bs : List UInt8) (e : Int) : Bool := decide (g0 bs e / 2 % 2 = 1)
def gkey (bs : List UInt8) (e : Int) : List UInt8 := if gk bs e then rtS' 64 (gb3 bs e) (ge3 bs e) else []
def gb4 (bs : List UInt8) (e : Int) : List UInt8 := if gk bs e then rtL 64 (gb3 bs e) (ge3 bs e) else gb3 bs e
def ge4 (bs : List UInt8) (e : Int) : Int := if gk bs e then rtE 64 (gb3 bs e) (ge3 bs e) else ge3 bs e
def gval (bs : List UInt8) (e : Int) : List UInt8 := if gdd bs e then [] else rtS' 512 (gb4 bs e) (ge4 bs e)
def ge5 (bs : List UInt8) (e : Int) : Int := if gdd bs e then ge4 bs e else rtE 512 (gb4 bs e) (ge4 bs e)
def gerr (bs : List UInt8) (e : Int) : Int :=
 if ge5 bs e ≠ 0 then ge5 bs e else if 4 ≤ g0 bs e ∨ rchk (gd bs e) (gt bs e) (gk bs e) (gkey bs e) (gdd bs e) (gval bs e) ≠ 0 then 4 else 0
section
set_option maxRecDepth 100000
set_option maxHeartbeats 2000000 in
end
end Go.Proofs.Ytjiognhpcijndaa
namespace Go.Proofs.Ytjiognhpcijndaa
open Ax
theorem w3 : recB 1 5 true [107] false [118] = [1,2,10,2,107,2,118] := by
 simp [recB,w1,recL,flagI,textL,putU,zz]
theorem w5 : gerr [1,2,10,2,107,2,118] 0 = 0 := by decide +kernel
section
set_option maxRecDepth 100000
set_option maxHeartbeats 1000000 in
end
end Go.Proofs.Ytjiognhpcijndaa
namespace Go.Proofs.Ytjiognhpcijndaa
open Ax
def lmayS : zal
 | [.agg [.w (.int .i64 B),.sg 6 xs f],.agg [.w (.int .i64 b),.w (.int .i64 c),.w (.int .i64 p),.w (.int .i64 e),.w (.int .i64 s),.sg 6 ys g]],[] => ⟨(xs.length ≤ 9223372036854775807 ∧ isBs xs) ∧ ys.length ≤ 9223372036854775807 ∧ ∃ rs : List Rec,ys = rs.map rv,.w (.bool true),[]⟩
 | _,_ => zba
def Slmay14 (f : FuncId) : Option zal :=
 match f with
 | 9 => some zbc
 | 27 => some zcz
 | 28 => some schkS
 | 29 => some sputS
 | 30 => some zfe
 | 31 => some zcr
 | 11 => some yesS
 | 13 => some sfetS
 | 32 => some zcx
 | 33 => some zcb
 | _ => none
theorem Slmay14_ok : Fns Try.prog Slmay14 := by
 intro f s h
 unfold Slmay14 at h
 split at h
 · injection h with h; subst h; exact ⟨⟨_,Try.func9,by kernel_rfl,by kernel_rfl⟩,zdp⟩
 · injection h with h; subst h; exact ⟨⟨_,Try.func27,by kernel_rfl,by kernel_rfl⟩,blight4_sound⟩
 · injection h with h; subst h; exact ⟨⟨_,Try.func28,by kernel_rfl,by kernel_rfl⟩,zfo⟩
 · injection h with h; subst h; exact ⟨⟨_,Try.func29,by kernel_rfl,by kernel_rfl⟩,sput_sound⟩
 · injection h with h; subst h; exact ⟨⟨_,Try.func30,by kernel_rfl,by kernel_rfl⟩,bchk4_sound⟩
 · injection h with h; subst h; exact ⟨⟨_,Try.func31,by kernel_rfl,by kernel_rfl⟩,snext_sound⟩
 · injection h with h; subst h; exact ⟨⟨_,Try.func11,by kernel_rfl,by kernel_rfl⟩,zda⟩
 · injection h with h; subst h; exact ⟨⟨_,Try.func13,by kernel_rfl,by kernel_rfl⟩,zfn⟩
 · injection h with h; subst h; exact ⟨⟨_,Try.func32,by kernel_rfl,by kernel_rfl⟩,bsame4_sound⟩
 · injection h with h; subst h; exact ⟨⟨_,Try.func33,by kernel_rfl,by kernel_rfl⟩,zeu⟩
 · cases h
theorem chkG_of {B : Int} {l : List Bat} (h0 : ¬ (B < 0 ∨ 4611686018427387903 < B)) (h : okL B l) : chkG B l = 0 := by
 unfold chkG; rw [if_neg h0]; exact (chkL_ok l B).2 h
section
set_option maxRecDepth 100000
set_option maxHeartbeats 8000000 in
theorem lmay_law : zar Try.prog 5 lmayS := by
 refine zah (S := Slmay14) (T := tyF) zat tyF_ok Slmay14_ok Try.func5 (c := Try.f5.body.getD .skip) (by kernel_rfl) (by kernel_rfl) (fun xs pins hp _ => ?_)
 unfold lmayS at hp ⊢
 split at hp
 · rename_i B xs f b c p e s ys g _
   obtain ⟨⟨hL,hb⟩,hLy,rs,rfl⟩ := hp
   refine ⟨by simp,?_⟩
   unfold Try.f5
   have x1 : ∃ k : List Rec,rs.map rv = k.map rv := ⟨rs,rfl⟩
   have r1 := zae rs
   have hlr : (rs.map rv).length = rs.length := by simp
   by_cases hg : zbs (xs.map ubat)
   · obtain ⟨h20,h4,hbl⟩ := zen hb hg
     have hL6 : xs.length ≤ 1000000 := by omega
     have hL7 : xs.length ≤ 9223372036854775806 := by omega
     have d0 : decide (zbs (xs.map ubat)) = true := decide_eq_true hg
     have hlx : (xs.map ubat).length = xs.length := by simp
     obtain ⟨l,hl⟩ : ∃ l,xs.map ubat = l := ⟨_,rfl⟩
     rw [hl] at d0 hlx
     by_cases hgb : rs.length ≤ 40 ∧ ∀ r ∈ rs,zfc r
     · have dg : decide (rs.length ≤ 40 ∧ ∀ r ∈ rs,zfc r) = true := decide_eq_true hgb
       have hL8 : rs.length ≤ 1000000 := by omega
       rw [hlr] at hLy
       cases d1 : decide (chkG B l = 0) with
       | false => simp only [go_sem,zaa,Nat.reduceAdd,Nat.reduceSub,Nat.reduceMul,Int.reduceToNat,reduceCtorEq,↓reduceIte,Int.reducePow,Nat.reducePow,Int.reduceMod,Nat.reduceLeDiff,Int.reduceLE,Int.reduceNe,Int.reduceEq,Nat.reduceEqDiff,Nat.reduceLT,Nat.reduceBEq,tyF,zaj,ty,Slmay14,zbc,zcz,schkS,yesS,hL,hL7,hb,hl,hlr,hLy,x1,r1,d0,dg,d1,Bool.not_true,Bool.not_false]
       | true =>
         have hok0 := of_decide_eq_true d1
         obtain ⟨hB0,hok⟩ := chkG_ok hok0
         have hBB : ¬ (B < 0 ∨ 4611686018427387903 < B) := by
           intro h; unfold chkG at hok0; rw [if_pos h] at hok0; omega
         obtain ⟨E,hE⟩ : ∃ E,batE b c p e s rs = E := ⟨_,rfl⟩
         have hbE : bE ⟨b,c,p,e,s,rs⟩ = E := hE
         obtain ⟨N,hN⟩ : ∃ N,zce B l = N := ⟨_,rfl⟩
         have dd : ∀ k : Int,decide (k = k) = true := fun k => decide_eq_true rfl
         by_cases g1 : E = 0
         · by_cases g2 : b < N
           · have hv : zbq B l ⟨b,c,p,e,s,rs⟩ = 16 := by unfold zbq; rw [hbE,if_pos g1,hN,if_pos g2]
             have hA : zbz B l ⟨b,c,p,e,s,rs⟩ = .agg [.w (.int .i64 0),.sg 6 [] true] := by unfold zbz; rw [hv]; rfl
             have d2 : decide (b < N) = true := decide_eq_true g2
             have d3 : decide (E = 16) = false := decide_eq_false (by omega)
             simp only [go_sem,zaa,Nat.reduceAdd,Nat.reduceSub,Nat.reduceMul,Int.reduceToNat,reduceCtorEq,↓reduceIte,Int.reducePow,Nat.reducePow,Int.reduceMod,Nat.reduceLeDiff,Int.reduceLE,Int.reduceNe,Int.reduceEq,Nat.reduceEqDiff,Nat.reduceLT,Nat.reduceBEq,tyF,zaj,ty,Slmay14,zbc,zcz,schkS,sputS,zfe,zcr,yesS,hL,hL6,hL7,hL8,hb,hbl,hl,hlr,hLy,x1,r1,d0,dg,d1,d2,d3,hv,hA,hE,hN,dd,Bool.not_true,Bool.not_false]
             try decide
           · have hv : zbq B l ⟨b,c,p,e,s,rs⟩ = 0 := by unfold zbq; rw [hbE,if_pos g1,hN,if_neg g2]
             have hA : zbz B l ⟨b,c,p,e,s,rs⟩ = .agg [.w (.int .i64 B),.sg 6 (bfr (l ++ [⟨b,c,p,e,s,rs⟩])) false] := by unfold zbz; rw [hv]; rfl
             have hbx : bE ⟨b,c,p,e,s,rs⟩ = 0 := by rw [hbE]; exact g1
             have hok2 : okL B (l ++ [⟨b,c,p,e,s,rs⟩]) := (okL_split _ _ _).2 ⟨hok,hbx,by rw [hN]; show N ≤ b; omega,trivial⟩
             have hck2 : chkG B (l ++ [⟨b,c,p,e,s,rs⟩]) = 0 := chkG_of hBB hok2
             have hnx2 : zce B (l ++ [⟨b,c,p,e,s,rs⟩]) = (b + c + 9223372036854775808) % 18446744073709551616 - 9223372036854775808 := lastN_snoc _ _ _
             have hfe := fetch_end hok2 99
             rw [hnx2] at hfe
             have hub := ubat_bfr (l ++ [⟨b,c,p,e,s,rs⟩])
             have hlen : (bfr (l ++ [⟨b,c,p,e,s,rs⟩])).length = xs.length + 1 := by rw [zck]; simp; omega
             have hib : isBl (bfr (l ++ [⟨b,c,p,e,s,rs⟩])) := isBs_bfr (fun x hx => by
               rcases List.mem_append.1 hx with h | h
               · have := b4_all h4 x (by rw [hl]; exact h); omega
               · simp at h; subst h; exact hL8)
             have hib2 := isBl_isBs hib
             have hsl : slot (bfr (l ++ [⟨b,c,p,e,s,rs⟩])) xs.length = .agg [.w (.int .i64 b),.w (.int .i64 c),.w (.int .i64 p),.w (.int .i64 e),.w (.int .i64 s),.sg 6 (rs.map rv) false] := by
               unfold bfr
               rw [zbb _ _ (by simp; omega)]
               have : ((l ++ [(⟨b,c,p,e,s,rs⟩ : Bat)]).map offB)[xs.length]'(by simp; omega) = offB ⟨b,c,p,e,s,rs⟩ := by
                 rw [List.getElem_map,List.getElem_append_right (by omega)]
                 simp [hlx]
               rw [this]; rfl
             obtain ⟨Z,hZ⟩ : ∃ Z,bfr (l ++ [⟨b,c,p,e,s,rs⟩]) = Z := ⟨_,rfl⟩
             rw [hZ] at hA hub hlen hib hib2 hsl
             obtain ⟨Y,hY⟩ : ∃ Y,l ++ [(⟨b,c,p,e,s,rs⟩ : Bat)] = Y := ⟨_,rfl⟩
             rw [hY] at hck2 hnx2 hfe hub
             have d3 : decide (E = 0) = true := decide_eq_true g1
             have hsm : zcy b c p e s rs b c p e s rs = true := by rw [bsame_decJ]; exact decide_eq_true rfl
             obtain ⟨K,hK⟩ : ∃ K,(b + c + 9223372036854775808) % 18446744073709551616 - 9223372036854775808 = K := ⟨_,rfl⟩
             rw [hK] at hnx2 hfe
             have e1 : ((xs.length : Int) + 1 + 9223372036854775808) % 18446744073709551616 - 9223372036854775808 = ((xs.length + 1 : Nat) : Int) := by omega
             have e2 : (((xs.length + 1 : Nat) : Int) - 1 + 9223372036854775808) % 18446744073709551616 - 9223372036854775808 = (xs.length : Int) := by omega
             have y1 : xs.length + 1 ≤ 1000000 := by omega
             have y2 : xs.length + 1 ≤ 9223372036854775806 := by omega
             have y3 : xs.length + 1 ≤ 9223372036854775807 := by omega
             have y4 : rs.length ≤ 9223372036854775807 := by omega
             have hl0 : (bfr []).length = 0 := rfl
             have z0 : decide (((0 : Nat) : Int) = 0) = true := rfl
             simp only [go_sem,zaa,Nat.reduceAdd,Nat.reduceSub,Nat.reduceMul,Int.reduceToNat,reduceCtorEq,↓reduceIte,Int.reducePow,Nat.reducePow,Int.reduceMod,Nat.reduceLeDiff,Int.reduceLE,Int.reduceNe,Int.reduceEq,Nat.reduceEqDiff,Nat.reduceLT,Nat.reduceBEq,tyF,zaj,ty,Slmay14,zbc,zcz,schkS,sputS,zfe,zcr,zcb,sfetS,zcx,yesS,hL,hL6,hL7,hL8,hb,hbl,hl,hlr,hLy,x1,r1,d0,dg,d1,d3,hv,hA,hE,hN,dd,hck2,hnx2,hfe,hub,hlen,hib,hib2,hsl,hsm,hK,e1,e2,y1,y2,y3,y4,hl0,z0,Int.toNat_natCast,Bool.not_true,Bool.not_false]
             try decide
             try omega
         · have hv : zbq B l ⟨b,c,p,e,s,rs⟩ = E := by unfold zbq; rw [hbE,if_neg g1]
           have hA : zbz B l ⟨b,c,p,e,s,rs⟩ = .agg [.w (.int .i64 0),.sg 6 [] true] := by unfold zbz; rw [hv,if_neg g1]
           have d3 : decide (E = 0) = false := decide_eq_false g1
           simp only [go_sem,zaa,Nat.reduceAdd,Nat.reduceSub,Nat.reduceMul,Int.reduceToNat,reduceCtorEq,↓reduceIte,Int.reducePow,Nat.reducePow,Int.reduceMod,Nat.reduceLeDiff,Int.reduceLE,Int.reduceNe,Int.reduceEq,Nat.reduceEqDiff,Nat.reduceLT,Nat.reduceBEq,tyF,zaj,ty,Slmay14,zbc,zcz,schkS,sputS,zfe,zcr,yesS,hL,hL6,hL7,hL8,hb,hbl,hl,hlr,hLy,x1,r1,d0,dg,d1,d3,hv,hA,hE,hN,dd,Bool.not_true,Bool.not_false]
           try decide
     · have dg : decide (rs.length ≤ 40 ∧ ∀ r ∈ rs,zfc r) = false := decide_eq_false hgb
       rw [hlr] at hLy
       simp only [go_sem,zaa,Nat.reduceAdd,Nat.reduceSub,Nat.reduceMul,Int.reduceToNat,reduceCtorEq,↓reduceIte,Int.reducePow,Nat.reducePow,Int.reduceMod,Nat.reduceLeDiff,Int.reduceLE,Int.reduceNe,Int.reduceEq,Nat.reduceEqDiff,Nat.reduceLT,Nat.reduceBEq,tyF,zaj,ty,Slmay14,zbc,zcz,yesS,hL,hb,hl,hlr,hLy,x1,r1,d0,dg,Bool.not_true,Bool.not_false]
   · have d0 : decide (zbs (xs.map ubat)) = false := decide_eq_false hg
     simp only [go_sem,zaa,Nat.reduceAdd,Nat.reduceSub,Nat.reduceMul,Int.reduceToNat,reduceCtorEq,↓reduceIte,Int.reducePow,Nat.reducePow,Int.reduceMod,Nat.reduceLeDiff,Int.reduceLE,Int.reduceNe,Int.reduceEq,Nat.reduceEqDiff,Nat.reduceLT,Nat.reduceBEq,tyF,zaj,ty,Slmay14,zbc,yesS,hL,hb,d0,Bool.not_false]
 · exact hp.elim
end
theorem arg_batJ {j : Nat} {x : AV} (h : Arg ty (j + 6) 43 x) : ∃ (b : Bat) (f : Bool),x = bav b f ∧ b.rs.length ≤ 9223372036854775807 := by
 obtain ⟨i,ls,hi,hs,rfl⟩ := h
 simp only [ty] at hi
 injection hi with hi
 subst hi
 simp only [Shape,ty,ShapeF,isFlatI] at hs
 obtain ⟨l1,r1,rfl,⟨m1,rfl,w1⟩,l2,r2,rfl,⟨m2,rfl,w2⟩,l3,r3,rfl,⟨m3,rfl,w3⟩,l4,r4,rfl,⟨m4,rfl,w4⟩,l5,r5,rfl,⟨m5,rfl,w5⟩,l6,r6,rfl,⟨xs,f,rfl,hl,hx⟩,rfl⟩ := hs
 obtain ⟨rs,rfl⟩ := all_rvJ xs (fun x hxm => by
   obtain ⟨l,⟨l1,r1,rfl,⟨m1,rfl,w1⟩,l2,r2,rfl,⟨m2,rfl,w2⟩,l3,r3,rfl,⟨m3,rfl⟩,l4,r4,rfl,⟨m4,rfl,w4⟩,l5,r5,rfl,⟨m5,rfl⟩,l6,r6,rfl,⟨m6,rfl,w6⟩,rfl⟩,_,rfl⟩ := hx x hxm
   exact ⟨⟨m1,m2,m3,m4,m5,m6⟩,rfl⟩)
 refine ⟨⟨m1,m2,m3,m4,m5,rs⟩,f,rfl,?_⟩
 rw [List.length_map] at hl
 have : maxLen = 9223372036854775807 := by decide
 show rs.length ≤ _
 omega
theorem lmay_dom {x y : AV} (hx : Arg ty 8 24 x) (hy : Arg ty 8 43 y) : (lmayS [x,y] []).p ∧ (lmayS [x,y] []).x = .w (.bool true) := by
 obtain ⟨B,xs,f,rfl,h1,h2⟩ := arg_segJ (j := 1) hx
 obtain ⟨⟨b,c,p,e,s,rs⟩,g,rfl,h3⟩ := arg_batJ (j := 2) hy
 exact ⟨⟨⟨h1,h2⟩,by rw [List.length_map]; exact h3,rs,rfl⟩,rfl⟩
end Go.Proofs.Ytjiognhpcijndaa
