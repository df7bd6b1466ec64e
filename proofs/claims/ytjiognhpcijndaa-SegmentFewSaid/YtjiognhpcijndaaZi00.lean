/- What the proofs of this seat stand on; it asks nothing. -/
import Derived.Test.YtjiognhpcijndaaZa10
import Derived.Test.YtjiognhpcijndaaZc00
import Derived.Test.YtjiognhpcijndaaZd00
import Derived.Test.YtjiognhpcijndaaZf00
set_option linter.unusedSimpArgs false
set_option linter.unusedVariables false
namespace Go.Proofs.Ytjiognhpcijndaa
open Ax
def lfewS : zal
 | [.agg [.w (.int .i64 B),.sg 6 xs f],.w (.int .i64 off),.w (.int .u8 m)],[] => ⟨(xs.length ≤ 9223372036854775807 ∧ isBs xs) ∧ 0 ≤ m ∧ m < 256,.w (.bool true),[]⟩
 | _,_ => zba
def Slfew14 (f : FuncId) : Option zal :=
 match f with
 | 9 => some zbc
 | 28 => some schkS
 | 11 => some yesS
 | 13 => some sfetS
 | 12 => some eqBrS
 | _ => none
theorem Slfew14_ok : Fns Try.prog Slfew14 := by
 intro f s h
 unfold Slfew14 at h
 split at h
 · injection h with h; subst h; exact ⟨⟨_,Try.func9,by kernel_rfl,by kernel_rfl⟩,zdp⟩
 · injection h with h; subst h; exact ⟨⟨_,Try.func28,by kernel_rfl,by kernel_rfl⟩,zfo⟩
 · injection h with h; subst h; exact ⟨⟨_,Try.func11,by kernel_rfl,by kernel_rfl⟩,zda⟩
 · injection h with h; subst h; exact ⟨⟨_,Try.func13,by kernel_rfl,by kernel_rfl⟩,zfn⟩
 · injection h with h; subst h; exact ⟨⟨_,Try.func12,by kernel_rfl,by kernel_rfl⟩,eqBr_sound⟩
 · cases h
theorem fetch_min (off most : Int) (l : List Bat) : (zaq off most l).length = min most.toNat (selB off l).length := by unfold zaq; rw [List.length_take]
theorem take_bfr (n : Nat) (l : List Bat) : (bfr l).take n = bfr (l.take n) := by unfold bfr; rw [List.map_take,List.map_take]
section
set_option maxRecDepth 100000
set_option maxHeartbeats 4000000 in
theorem lfew_law : zar Try.prog 8 lfewS := by
 refine zah (S := Slfew14) (T := tyF) zat tyF_ok Slfew14_ok Try.func8 (c := Try.f8.body.getD .skip) (by kernel_rfl) (by kernel_rfl) (fun xs pins hp _ => ?_)
 unfold lfewS at hp ⊢
 split at hp
 · rename_i B xs f off m _
   obtain ⟨⟨hL,hb⟩,hm0,hm1⟩ := hp
   refine ⟨by simp,?_⟩
   unfold Try.f8
   by_cases hg : zbs (xs.map ubat)
   · obtain ⟨h20,h4,hbl⟩ := zen hb hg
     have hL6 : xs.length ≤ 1000000 := by omega
     have hL7 : xs.length ≤ 9223372036854775806 := by omega
     have d0 : decide (zbs (xs.map ubat)) = true := decide_eq_true hg
     have h40 := b4_all h4
     obtain ⟨l,hl⟩ : ∃ l,xs.map ubat = l := ⟨_,rfl⟩
     rw [hl] at d0 h40
     have hll : l.length ≤ 20 := by subst hl; simp; omega
     obtain ⟨E,hE⟩ : ∃ E,chkG B l = E := ⟨_,rfl⟩
     cases d1 : decide (E = 0) with
     | false => simp only [go_sem,zaa,Nat.reduceAdd,Nat.reduceSub,Nat.reduceMul,Int.reduceToNat,reduceCtorEq,↓reduceIte,Int.reducePow,Nat.reducePow,Int.reduceMod,Nat.reduceLeDiff,Int.reduceLE,Int.reduceNe,Int.reduceEq,Nat.reduceEqDiff,Nat.reduceLT,Nat.reduceBEq,tyF,zaj,ty,Slfew14,zbc,schkS,yesS,hL,hL7,hb,hl,d0,d1,hE,Bool.not_true,Bool.not_false]
     | true =>
       obtain ⟨T,hT⟩ : ∃ T,m.tmod 20 = T := ⟨_,rfl⟩
       have hT0 : 0 ≤ T ∧ T ≤ 19 := by
         rw [← hT,Int.tmod_eq_emod_of_nonneg hm0]; omega
       have eT : (T + 9223372036854775808) % 18446744073709551616 - 9223372036854775808 = T := by omega
       have eT1 : (T + 1 + 9223372036854775808) % 18446744073709551616 - 9223372036854775808 = T + 1 := by omega
       have hs := selB_len off l
       have c1 := fetch_min off T l
       have c2 := fetch_min off (T + 1) l
       have c3 := fetch_min off 99 l
       have ht12 : (zaq off (T + 1) l).take (zaq off T l).length = zaq off T l := by
         rw [c1]; unfold zaq
         rw [List.take_take]
         have : min (min T.toNat (selB off l).length) (T + 1).toNat = min T.toNat (selB off l).length := by omega
         rw [this]
         rcases Nat.le_total T.toNat (selB off l).length with h | h
         · rw [Nat.min_eq_left h]
         · rw [Nat.min_eq_right h,List.take_length,List.take_of_length_le h]
       have ok1 := fetch_ok off T h40
       have tk : List.take ((bfr (zaq off T l)).length - 0) (bfr (zaq off (T + 1) l)) = bfr (zaq off T l) := by
         rw [Nat.sub_zero,zck,take_bfr,ht12]
       have q1 := zck (zaq off T l)
       have q2 := zck (zaq off (T + 1) l)
       have q3 := zck (zaq off 99 l)
       obtain ⟨X1,hX1⟩ : ∃ Z,bfr (zaq off T l) = Z := ⟨_,rfl⟩
       obtain ⟨X2,hX2⟩ : ∃ Z,bfr (zaq off (T + 1) l) = Z := ⟨_,rfl⟩
       obtain ⟨X3,hX3⟩ : ∃ Z,bfr (zaq off 99 l) = Z := ⟨_,rfl⟩
       rw [hX1] at ok1 tk q1
       rw [hX2] at tk q2
       rw [hX3] at q3
       have t99 : (99 : Int).toNat = 99 := rfl
       rw [t99] at c3
       have z1 : (X1.length : Int) = min T (X3.length : Int) := by omega
       have z2 : (X2.length : Int) = min (T + 1) (X3.length : Int) := by omega
       have z3 : X3.length ≤ 20 := by omega
       clear c1 c2 c3 q1 q2 q3 ht12 hs
       have b1 : decide (T < (X1.length : Int)) = false := decide_eq_false (by omega)
       have b2 : decide (T + 1 < (X2.length : Int)) = false := decide_eq_false (by omega)
       have b3 : decide ((X2.length : Int) < (X1.length : Int)) = false := decide_eq_false (by omega)
       have m1 : (if (X3.length : Int) < T then (X3.length : Int) else T) = X1.length := by split <;> omega
       have m2 : (if (X3.length : Int) < T + 1 then (X3.length : Int) else T + 1) = X2.length := by split <;> omega
       have y1 : X1.length ≤ 1000000 := by omega
       have y2 : X1.length ≤ X2.length := by omega
       have cc1 : ∀ h,coe (zaj ty) 22 (.sg 6 X1 h) = .sg 6 X1 h := fun h => by cases X1 <;> rfl
       have dz : decide (X1.map ubat = X1.map ubat) = true := decide_eq_true rfl
       have di : ∀ k : Int,decide (k = k) = true := fun k => decide_eq_true rfl
       simp only [go_sem,zaa,Nat.reduceAdd,Nat.reduceSub,Nat.reduceMul,Int.reduceToNat,reduceCtorEq,↓reduceIte,Int.reducePow,Nat.reducePow,Int.reduceMod,Nat.reduceLeDiff,Int.reduceLE,Int.reduceNe,Int.reduceEq,Nat.reduceEqDiff,Nat.reduceLT,Nat.reduceBEq,tyF,zaj,ty,Slfew14,zbc,schkS,sfetS,eqBrS,yesS,hL,hL6,hL7,hb,hbl,hl,d0,d1,hE,hT,eT,eT1,hX1,hX2,hX3,tk,ok1,b1,b2,b3,m1,m2,y1,y2,cc1,dz,di,Int.toNat_natCast,Bool.not_true,Bool.not_false]
       omega
   · have d0 : decide (zbs (xs.map ubat)) = false := decide_eq_false hg
     simp only [go_sem,zaa,Nat.reduceAdd,Nat.reduceSub,Nat.reduceMul,Int.reduceToNat,reduceCtorEq,↓reduceIte,Int.reducePow,Nat.reducePow,Int.reduceMod,Nat.reduceLeDiff,Int.reduceLE,Int.reduceNe,Int.reduceEq,Nat.reduceEqDiff,Nat.reduceLT,Nat.reduceBEq,tyF,zaj,ty,Slfew14,zbc,yesS,hL,hb,d0,Bool.not_false]
 · exact hp.elim
end
theorem arg_u8J {n : Nat} {x : AV} (h : Arg ty (n + 1) 5 x) : ∃ m : Int,x = .w (.int .u8 m) ∧ 0 ≤ m ∧ m < 256 := by
 obtain ⟨i,ls,hi,hs,rfl⟩ := h
 simp only [ty] at hi
 injection hi with hi
 subst hi
 simp only [Shape,ty,ShapeF] at hs
 obtain ⟨m,rfl,w⟩ := hs
 exact ⟨m,rfl,wf_u8 w⟩
theorem lfew_dom {x y z : AV} (hx : Arg ty 8 24 x) (hy : Arg ty 8 3 y) (hz : Arg ty 8 5 z) : (lfewS [x,y,z] []).p ∧ (lfewS [x,y,z] []).x = .w (.bool true) := by
 obtain ⟨B,xs,f,rfl,h1,h2⟩ := arg_segJ (j := 1) hx
 obtain ⟨o,rfl⟩ := arg_intJ hy
 obtain ⟨m,rfl,h3,h4⟩ := arg_u8J hz
 exact ⟨⟨⟨h1,h2⟩,h3,h4⟩,rfl⟩
end Go.Proofs.Ytjiognhpcijndaa
