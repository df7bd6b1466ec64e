/- What the proofs of this seat stand on; it asks nothing. -/
import Derived.Test.YtihbcgbmlecpbaaYa12
set_option linter.unusedSimpArgs false
set_option linter.unusedVariables false
namespace Go.Proofs.Ytihbcgbmlecpbaa
open Ax
theorem getL_cut (u : Nat) (hu : u < 18446744073709551616) : getL ((putU u).take ((putU u).length - 1)) = (0,0,3) := by
 obtain ⟨p,c,e1,e2,e3,e4⟩ := put_shape u
 have hl := zay u hu
 rw [e1] at hl ⊢
 simp only [List.length_append,List.length_cons,List.length_nil] at hl
 have : (p ++ [c]).take ((p ++ [c]).length - 1) = p := by simp
 rw [this,getL_M,getM_open p 0 0 e2 (by omega),if_pos (by omega)]
end Go.Proofs.Ytihbcgbmlecpbaa
namespace Go.Proofs.Ytihbcgbmlecpbaa
open Ax
section
set_option maxRecDepth 100000
def lightS : zak
 | [.agg [.w (.int .i64 d),.w (.int .i64 t),.w (.bool k),.str key,.w (.bool dd),.str val]],[] => ⟨True,.w (.bool (decide (key.length ≤ 200 ∧ val.length ≤ 700))),[]⟩
 | _,_ => zbd
theorem light_sound : zaq Try.prog 64 lightS := by
 refine zal (S := noS) (T := ty) zau ty_ok zbs Try.func64 (c := Try.f64.body.getD .skip) (by kernel_rfl) (by kernel_rfl) (fun xs pins hp _ => ?_)
 unfold lightS at hp ⊢
 split at hp
 · rename_i d t k key dd val _
   refine ⟨by simp,?_⟩
   unfold Try.f64
   by_cases h1 : key.length ≤ 200
   · have d1 : decide ((key.length : Int) ≤ 200) = true := decide_eq_true (by omega)
     by_cases h2 : val.length ≤ 700
     · have d2 : decide ((val.length : Int) ≤ 700) = true := decide_eq_true (by omega)
       have d3 : decide (key.length ≤ 200 ∧ val.length ≤ 700) = true := decide_eq_true ⟨h1,h2⟩
       simp only [go_sem,coe,zaa,Nat.reduceAdd,Nat.reduceSub,Nat.reduceMul,Int.reduceToNat,reduceCtorEq,↓reduceIte,Int.reducePow,Nat.reducePow,Int.reduceMod,Nat.reduceLeDiff,Int.reduceLE,Int.reduceNe,Int.reduceEq,Nat.reduceEqDiff,Nat.reduceLT,Nat.reduceBEq,ty,noS,d1,d2,d3]
     · have d2 : decide ((val.length : Int) ≤ 700) = false := decide_eq_false (by omega)
       have d3 : decide (key.length ≤ 200 ∧ val.length ≤ 700) = false := decide_eq_false (fun h => h2 h.2)
       simp only [go_sem,coe,zaa,Nat.reduceAdd,Nat.reduceSub,Nat.reduceMul,Int.reduceToNat,reduceCtorEq,↓reduceIte,Int.reducePow,Nat.reducePow,Int.reduceMod,Nat.reduceLeDiff,Int.reduceLE,Int.reduceNe,Int.reduceEq,Nat.reduceEqDiff,Nat.reduceLT,Nat.reduceBEq,ty,noS,d1,d2,d3]
   · have d1 : decide ((key.length : Int) ≤ 200) = false := decide_eq_false (by omega)
     have d3 : decide (key.length ≤ 200 ∧ val.length ≤ 700) = false := decide_eq_false (fun h => h1 h.1)
     simp only [go_sem,coe,zaa,Nat.reduceAdd,Nat.reduceSub,Nat.reduceMul,Int.reduceToNat,reduceCtorEq,↓reduceIte,Int.reducePow,Nat.reducePow,Int.reduceMod,Nat.reduceLeDiff,Int.reduceLE,Int.reduceNe,Int.reduceEq,Nat.reduceEqDiff,Nat.reduceLT,Nat.reduceBEq,ty,noS,d1,d3]
 · exact hp.elim
end
end Go.Proofs.Ytihbcgbmlecpbaa
namespace Go.Proofs.Ytihbcgbmlecpbaa
open Ax
def lightR (r : Rec) : Prop := r.key.length ≤ 200 ∧ r.val.length ≤ 700
instance (r : Rec) : Decidable (lightR r) := by unfold lightR; infer_instance
def blightS4 : zak
 | [.agg [.w (.int .i64 b),.w (.int .i64 c),.w (.int .i64 p),.w (.int .i64 e),.w (.int .i64 s),.sg 6 xs f]],[] => ⟨xs.length ≤ 9223372036854775807 ∧ ∃ rs : List Rec,xs = rs.map rv,
     .w (.bool (decide (xs.length ≤ 40 ∧ ∀ r ∈ xs.map rrec,lightR r))),[]⟩
 | _,_ => zbd
def Sblight4 (f : FuncId) : Option zak :=
 match f with
 | 64 => some lightS
 | _ => none
theorem Sblight4_ok : Fns Try.prog Sblight4 := by
 intro f s h
 unfold Sblight4 at h
 split at h
 · injection h with h; subst h; exact ⟨⟨_,Try.func64,by kernel_rfl,by kernel_rfl⟩,light_sound⟩
 · cases h
section
set_option maxRecDepth 100000
set_option maxHeartbeats 1000000 in
theorem blight4_sound : zaq Try.prog 42 blightS4 := by
 refine zal (S := Sblight4) (T := ty) zau ty_ok Sblight4_ok Try.func42 (c := Try.f42.body.getD .skip) (by kernel_rfl) (by kernel_rfl) (fun xs pins hp _ => ?_)
 unfold blightS4 at hp ⊢
 split at hp
 · rename_i b c p e s xs f _
   obtain ⟨hL,rs,rfl⟩ := hp
   have hl4 : (rs.map rv).length = rs.length := by simp
   rw [hl4] at hL
   refine ⟨by simp,?_⟩
   unfold Try.f42
   by_cases h40 : rs.length ≤ 40
   · have d0 : decide ((40 : Int) < rs.length) = false := decide_eq_false (by omega)
     simp only [go_sem,zaa,Nat.reduceAdd,Nat.reduceSub,Nat.reduceMul,Int.reduceToNat,reduceCtorEq,↓reduceIte,Int.reducePow,Nat.reducePow,Int.reduceMod,Nat.reduceLeDiff,Int.reduceLE,Int.reduceNe,Int.reduceEq,Nat.reduceEqDiff,Nat.reduceLT,Nat.reduceBEq,ty,Sblight4,hl4,d0,zag]
     refine zco ⟨fun m σ => ∃ i : Nat,m = rs.length - i ∧ i ≤ rs.length ∧ (∀ j (h : j < rs.length),j < i → lightR rs[j]) ∧
         σ = ⟨[.agg [.w (.int .i64 b),.w (.int .i64 c),.w (.int .i64 p),.w (.int .i64 e),.w (.int .i64 s),.sg 6 (rs.map rv) f],.rf 4 6 0 0,.junk,.w (.int .i64 i),.junk,.junk,.junk,.junk,.junk,.junk,.junk,.junk,.junk,.junk,.junk,.junk,.junk,.junk,.junk,.junk,.junk,.junk],[(4,.g 6 [.agg [.w (.int .i64 b),.w (.int .i64 c),.w (.int .i64 p),.w (.int .i64 e),.w (.int .i64 s),.sg 6 (rs.map rv) f]])],5⟩,?_,?_⟩
     · refine ⟨_,_,zaf [0,1,2,3,4] rfl rfl rfl ?_ ?_,0,rfl,by omega,by intro j _ h; omega,rfl⟩
       · simp only [ssT,zai,zaj,setSlot,gOf,AV.ren,renL,Blk.ren,Ax.look,Ax.put,reduceCtorEq,↓reduceIte,Nat.reduceEqDiff,Nat.reduceLT,Nat.reduceAdd,List.length_append,List.length_cons,List.length_nil,Option.some.injEq]; rfl
       · simp only [ssT,zai,zaj,setSlot,gOf,AV.ren,renL,Blk.ren,Ax.look,Ax.put,reduceCtorEq,↓reduceIte,Nat.reduceEqDiff,Nat.reduceLT,Nat.reduceAdd,List.length_append,List.length_cons,List.length_nil,Option.some.injEq]
     · rintro m σ ⟨i,rfl,hi,hall,rfl⟩
       have e1 : ((i : Int) + 1 + 9223372036854775808) % 18446744073709551616 - 9223372036854775808 = ((i + 1 : Nat) : Int) := by omega
       by_cases hil : i < rs.length
       · have d1 : decide ((i : Int) < rs.length) = true := decide_eq_true (by omega)
         have hs1 := zec rv rs i hil
         obtain ⟨P,hP⟩ : ∃ P,rs[i] = P := ⟨_,rfl⟩
         rw [hP] at hs1
         simp only [rv] at hs1
         by_cases ha : P.key.length ≤ 200 ∧ P.val.length ≤ 700
         · have d2 : decide (P.key.length ≤ 200 ∧ P.val.length ≤ 700) = true := decide_eq_true ha
           simp only [go_sem,zaa,Nat.reduceAdd,Nat.reduceSub,Nat.reduceMul,Int.reduceToNat,reduceCtorEq,↓reduceIte,Int.reducePow,Nat.reducePow,Int.reduceMod,Nat.reduceLeDiff,Int.reduceLE,Int.reduceNe,Int.reduceEq,Nat.reduceEqDiff,Nat.reduceLT,Nat.reduceBEq,ty,Sblight4,lightS,hl4,d1,d2,hs1,e1,Int.toNat_natCast]
           repeat (refine And.intro (by omega) ?_)
           refine ⟨rs.length - (i + 1),_,by omega,zaf [0,1,2,3,4] rfl rfl rfl ?_ ?_,i + 1,rfl,by omega,?_,rfl⟩
           · simp only [ssT,zai,zaj,setSlot,gOf,AV.ren,renL,Blk.ren,Ax.look,Ax.put,reduceCtorEq,↓reduceIte,Nat.reduceEqDiff,Nat.reduceLT,Nat.reduceAdd,List.length_append,List.length_cons,List.length_nil,Option.some.injEq]
           · simp only [ssT,zai,zaj,setSlot,gOf,AV.ren,renL,Blk.ren,Ax.look,Ax.put,reduceCtorEq,↓reduceIte,Nat.reduceEqDiff,Nat.reduceLT,Nat.reduceAdd,List.length_append,List.length_cons,List.length_nil,Option.some.injEq]
           · intro j h hj
             rcases Nat.lt_or_ge j i with h2 | h2
             · exact hall j h h2
             · have : j = i := by omega
               subst this
               rw [hP]; exact ha
         · have d2 : decide (P.key.length ≤ 200 ∧ P.val.length ≤ 700) = false := decide_eq_false ha
           have dr : decide (rs.length ≤ 40 ∧ ∀ r ∈ rs,lightR r) = false := decide_eq_false (fun h => ha (h.2 P (hP ▸ List.getElem_mem hil)))
           simp only [go_sem,zaa,Nat.reduceAdd,Nat.reduceSub,Nat.reduceMul,Int.reduceToNat,reduceCtorEq,↓reduceIte,Int.reducePow,Nat.reducePow,Int.reduceMod,Nat.reduceLeDiff,Int.reduceLE,Int.reduceNe,Int.reduceEq,Nat.reduceEqDiff,Nat.reduceLT,Nat.reduceBEq,ty,Sblight4,lightS,hl4,d1,d2,hs1,e1,dr,zag,Int.toNat_natCast]
           omega
       · have d1 : decide ((i : Int) < rs.length) = false := decide_eq_false (by omega)
         have dr : decide (rs.length ≤ 40 ∧ ∀ r ∈ rs,lightR r) = true := decide_eq_true ⟨h40,fun r hr => by
           obtain ⟨j,hj,rfl⟩ := List.getElem_of_mem hr
           exact hall j hj (by omega)⟩
         simp only [go_sem,zaa,Nat.reduceAdd,Nat.reduceSub,Nat.reduceMul,Int.reduceToNat,reduceCtorEq,↓reduceIte,Int.reducePow,Nat.reducePow,Int.reduceMod,Nat.reduceLeDiff,Int.reduceLE,Int.reduceNe,Int.reduceEq,Nat.reduceEqDiff,Nat.reduceLT,Nat.reduceBEq,ty,Sblight4,hl4,d1,dr,zag]
   · have d0 : decide ((40 : Int) < rs.length) = true := decide_eq_true (by omega)
     have dr : decide (rs.length ≤ 40 ∧ ∀ r ∈ rs,lightR r) = false := decide_eq_false (fun h => h40 h.1)
     simp only [go_sem,zaa,Nat.reduceAdd,Nat.reduceSub,Nat.reduceMul,Int.reduceToNat,reduceCtorEq,↓reduceIte,Int.reducePow,Nat.reducePow,Int.reduceMod,Nat.reduceLeDiff,Int.reduceLE,Int.reduceNe,Int.reduceEq,Nat.reduceEqDiff,Nat.reduceLT,Nat.reduceBEq,ty,Sblight4,hl4,d0,dr,zag]
 · exact hp.elim
end
end Go.Proofs.Ytihbcgbmlecpbaa
namespace Go.Proofs.Ytihbcgbmlecpbaa
open Ax
theorem w3 : recB 1 5 true [107] false [118] = [1,2,10,2,107,2,118] := by
 simp [recB,w1,recL,flagI,zaw,putU,zz]
theorem w4 : recB 1 5 true [107] true [] = [3,2,10,2,107] := by
 simp [recB,w2,recL,flagI,zaw,putU,zz]
theorem w5 : gerr [1,2,10,2,107,2,118] 0 = 0 := by decide +kernel
theorem w6 : gd [1,2,10,2,107,2,118] 0 = 1 := by decide +kernel
theorem w7 : gt [1,2,10,2,107,2,118] 0 = 5 := by decide +kernel
theorem w8 : gk [1,2,10,2,107,2,118] 0 = true := by decide +kernel
theorem w9 : gdd [1,2,10,2,107,2,118] 0 = false := by decide +kernel
theorem w10 : gkey [1,2,10,2,107,2,118] 0 = [107] := by decide +kernel
theorem w11 : gval [1,2,10,2,107,2,118] 0 = [118] := by decide +kernel
theorem w12 : grec [1,2,10,2,107,2,118] 0 = recV 1 5 true [107] false [118] := by
 unfold grec; rw [if_pos w5,w6,w7,w8,w9,w10,w11]
section
set_option maxRecDepth 100000
set_option maxHeartbeats 1000000 in
end
end Go.Proofs.Ytihbcgbmlecpbaa
namespace Go.Proofs.Ytihbcgbmlecpbaa
open Ax
theorem num_cut (u : Nat) (hu : u < 18446744073709551616) : numE ((putU u).take ((putU u).length - 1)) 0 ≠ 0 := by
 unfold numE
 rw [if_pos rfl,getL_cut u hu]
 decide
theorem text_cut (m : Int) (s : List UInt8) (hm : (s.length : Int) ≤ m) (hs : s.length ≤ 1000000) : rtE m ((zaw s).take ((zaw s).length - 1)) 0 ≠ 0 := by
 have hp := putU_pos (2 * s.length)
 rcases s with _ | ⟨c,q⟩
 · have e : zaw [] = putU 0 := by unfold zaw; simp
   rw [e]
   have := num_cut 0 (by omega)
   unfold rtE
   rw [if_pos this]
   exact this
 · obtain ⟨x,hx⟩ : ∃ x,(c :: q).take ((c :: q).length - 1) = x := ⟨_,rfl⟩
   have hxl : x.length = q.length := by rw [← hx]; simp
   have e : (zaw (c :: q)).take ((zaw (c :: q)).length - 1) = putU (2 * (c :: q).length) ++ x := by
     unfold zaw
     rw [List.length_append,List.take_append,List.take_of_length_le (by simp)]
     congr 1
     rw [← hx]
     congr 1
     simp
   obtain ⟨h1,h2,h3⟩ := zey ((c :: q).length : Int) (by omega) (by omega) x
   rw [zz_len] at h1 h2 h3
   have hok : rtOk m (putU (2 * (c :: q).length) ++ x) 0 := by unfold rtOk; rw [h1,h3]; omega
   rw [e]
   unfold rtE
   rw [h3,if_neg (by simp),if_pos hok,h1,h2]
   unfold tkE
   rw [if_pos (by simp; omega)]
   decide
theorem take_last (p q : List UInt8) (h : 0 < q.length) : (p ++ q).take ((p ++ q).length - 1) = p ++ q.take (q.length - 1) := by
 rw [List.length_append,List.take_append,List.take_of_length_le (by omega)]
 congr 2
 omega
end Go.Proofs.Ytihbcgbmlecpbaa
namespace Go.Proofs.Ytihbcgbmlecpbaa
open Ax
theorem closed_stP : ∀ (G : List (St × Bool × Bool)),closedL (G.map stP) = true
 | [] => rfl
 | x :: r => by
   have h := closed_stP r
   simp only [List.map_cons,closedL,h,Bool.and_true]
   rfl
end Go.Proofs.Ytihbcgbmlecpbaa
namespace Go.Proofs.Ytihbcgbmlecpbaa
open Ax
def lrqS22 : zak
 | [.agg [.w (.int .u8 k),.str t,.w (.int .i64 i),.w (.int .i64 p),.w (.bool c),.w (.bool f),.w (.int .i64 o),.w (.int .i64 m),.w (.int .i64 w),.str g,.str mb,.w (.int .i64 n),.w (.int .i64 bb),.w (.int .i64 bc),.w (.int .i64 bp),.w (.int .i64 be),.w (.int .i64 bs),.sg 6 xs fx]],[] =>
     ⟨(t.length ≤ 9223372036854775807 ∧ g.length ≤ 9223372036854775807 ∧ mb.length ≤ 9223372036854775807) ∧ xs.length ≤ 9223372036854775807 ∧ ∃ rs : List Rec,xs = rs.map rv,
       .w (.bool (decide (t.length ≤ 400 ∧ g.length ≤ 400 ∧ mb.length ≤ 400 ∧ (xs.map rrec).length ≤ 40 ∧ ∀ r ∈ xs.map rrec,lightR r))),[]⟩
 | _,_ => zbd
def Slrq22 (f : FuncId) : Option zak :=
 match f with
 | 42 => some blightS4
 | _ => none
theorem Slrq22_ok : Fns Try.prog Slrq22 := by
 intro f s h
 unfold Slrq22 at h
 split at h
 · injection h with h; subst h; exact ⟨⟨_,Try.func42,by kernel_rfl,by kernel_rfl⟩,blight4_sound⟩
 · cases h
section
set_option maxRecDepth 100000
set_option maxHeartbeats 4000000 in
theorem lrq22_sound : zaq Try.prog 19 lrqS22 := by
 refine zbp (S := Slrq22) (T := ty) zau ty_ok Slrq22_ok Try.func19 (c := Try.f19.body.getD .skip) (by kernel_rfl) (by kernel_rfl) (fun xs pins hp _ => ?_)
 unfold lrqS22 at hp ⊢
 split at hp
 · rename_i k t i p c f o m w g mb n bb bc bp be bs xs fx _
   obtain ⟨⟨h1,h2,h3⟩,hL,rs,rfl⟩ := hp
   have hrl : (rs.map rv).length = rs.length := by simp
   rw [hrl] at hL
   have hx1 : ∃ k : List Rec,rs.map rv = k.map rv := ⟨rs,rfl⟩
   have hc1 : coe ty 23 (.sg 6 (rs.map rv) fx) = .sg 6 (rs.map rv) fx := by cases rs <;> rfl
   have hmr := zag rs
   rw [hmr]
   refine ⟨by simp,?_⟩
   unfold Try.f19
   by_cases g1 : t.length ≤ 400
   case neg =>
     have d1 : decide ((t.length : Int) ≤ 400) = false := decide_eq_false (by omega)
     rw [decide_eq_false (fun h => g1 h.1)]
     simp only [go_sem,zaa,Nat.reduceAdd,Nat.reduceSub,Nat.reduceMul,Int.reduceToNat,reduceCtorEq,↓reduceIte,Int.reducePow,Nat.reducePow,Int.reduceMod,Nat.reduceLeDiff,Int.reduceLE,Int.reduceNe,Int.reduceEq,Nat.reduceEqDiff,Nat.reduceLT,Nat.reduceBEq,ty,Slrq22,d1]
     exact zba 2 rfl
   have d1 : decide ((t.length : Int) ≤ 400) = true := decide_eq_true (by omega)
   by_cases g2 : g.length ≤ 400
   case neg =>
     have d2 : decide ((g.length : Int) ≤ 400) = false := decide_eq_false (by omega)
     rw [decide_eq_false (fun h => g2 h.2.1)]
     simp only [go_sem,zaa,Nat.reduceAdd,Nat.reduceSub,Nat.reduceMul,Int.reduceToNat,reduceCtorEq,↓reduceIte,Int.reducePow,Nat.reducePow,Int.reduceMod,Nat.reduceLeDiff,Int.reduceLE,Int.reduceNe,Int.reduceEq,Nat.reduceEqDiff,Nat.reduceLT,Nat.reduceBEq,ty,Slrq22,d1,d2]
     exact zba 2 rfl
   have d2 : decide ((g.length : Int) ≤ 400) = true := decide_eq_true (by omega)
   by_cases g3 : mb.length ≤ 400
   case neg =>
     have d3 : decide ((mb.length : Int) ≤ 400) = false := decide_eq_false (by omega)
     rw [decide_eq_false (fun h => g3 h.2.2.1)]
     simp only [go_sem,zaa,Nat.reduceAdd,Nat.reduceSub,Nat.reduceMul,Int.reduceToNat,reduceCtorEq,↓reduceIte,Int.reducePow,Nat.reducePow,Int.reduceMod,Nat.reduceLeDiff,Int.reduceLE,Int.reduceNe,Int.reduceEq,Nat.reduceEqDiff,Nat.reduceLT,Nat.reduceBEq,ty,Slrq22,d1,d2,d3]
     exact zba 2 rfl
   have d3 : decide ((mb.length : Int) ≤ 400) = true := decide_eq_true (by omega)
   by_cases g4 : rs.length ≤ 40 ∧ ∀ r ∈ rs,lightR r
   · have d4 := decide_eq_true g4
     rw [decide_eq_true (show t.length ≤ 400 ∧ g.length ≤ 400 ∧ mb.length ≤ 400 ∧ rs.length ≤ 40 ∧ ∀ r ∈ rs,lightR r from ⟨g1,g2,g3,g4⟩)]
     simp only [go_sem,zaa,Nat.reduceAdd,Nat.reduceSub,Nat.reduceMul,Int.reduceToNat,reduceCtorEq,↓reduceIte,Int.reducePow,Nat.reducePow,Int.reduceMod,Nat.reduceLeDiff,Int.reduceLE,Int.reduceNe,Int.reduceEq,Nat.reduceEqDiff,Nat.reduceLT,Nat.reduceBEq,ty,Slrq22,blightS4,d1,d2,d3,hrl,hL,hx1,hc1,hmr,d4]
     exact zba 2 rfl
   · have d4 := decide_eq_false g4
     rw [decide_eq_false (fun h => g4 h.2.2.2)]
     simp only [go_sem,zaa,Nat.reduceAdd,Nat.reduceSub,Nat.reduceMul,Int.reduceToNat,reduceCtorEq,↓reduceIte,Int.reducePow,Nat.reducePow,Int.reduceMod,Nat.reduceLeDiff,Int.reduceLE,Int.reduceNe,Int.reduceEq,Nat.reduceEqDiff,Nat.reduceLT,Nat.reduceBEq,ty,Slrq22,blightS4,d1,d2,d3,hrl,hL,hx1,hc1,hmr,d4]
     exact zba 2 rfl
 · exact hp.elim
end
end Go.Proofs.Ytihbcgbmlecpbaa
namespace Go.Proofs.Ytihbcgbmlecpbaa
open Ax
theorem ren_stP (g : Nat → Nat) : ∀ (G : List (St × Bool × Bool)),renL g (G.map stP) = G.map stP
 | [] => rfl
 | x :: r => by simp only [List.map_cons,renL,ren_stP g r]; rfl
def ownTS : zak
 | [.sg 22 xs fl],[] => ⟨xs.length ≤ 1000000 ∧ ∃ es : List (St × Bool × Bool),xs = es.map stP,.sg 22 xs false,[]⟩
 | _,_ => zbd
def lightT (s : St) : Prop := (s.q.t.length ≤ 400 ∧ s.q.g.length ≤ 400 ∧ s.q.mb.length ≤ 400 ∧ s.q.b.rs.length ≤ 40 ∧ ∀ r ∈ s.q.b.rs,lightR r) ∧ s.ft.length ≤ 200
instance (s : St) : Decidable (lightT s) := by unfold lightT; infer_instance
def lightP (l : List St) (n : Int) : Prop := ¬ n < l.length ∧ ∀ s ∈ l,lightT s
instance (l : List St) (n : Int) : Decidable (lightP l n) := by unfold lightP; infer_instance
def wideS (s : St) : Prop := (s.q.t.length ≤ 9223372036854775807 ∧ s.q.g.length ≤ 9223372036854775807 ∧ s.q.mb.length ≤ 9223372036854775807) ∧ s.q.b.rs.length ≤ 9223372036854775807 ∧ s.ft.length ≤ 9223372036854775807
def lightTS : zak
 | [.sg 22 xs fl,.w (.int .i64 n)],[] => ⟨xs.length ≤ 9223372036854775807 ∧ ∃ es : List (St × Bool × Bool),xs = es.map stP ∧ ∀ p ∈ es,wideS p.1,.w (.bool (decide (lightP (xs.map ust) n))),[]⟩
 | _,_ => zbd
def zfb (f : FuncId) : Option zak :=
 match f with
 | 19 => some lrqS22
 | _ => none
theorem SlightT_ok : Fns Try.prog zfb := by
 intro f s h
 unfold zfb at h
 split at h
 · injection h with h; subst h; exact ⟨⟨_,Try.func19,by kernel_rfl,by kernel_rfl⟩,lrq22_sound⟩
 · cases h
section
set_option maxRecDepth 100000
set_option maxHeartbeats 8000000 in
theorem own27_sound : zaq Try.prog 13 ownTS := by
 refine zal (S := noS) (T := ty) zau ty_ok zbs Try.func13 (c := Try.f13.body.getD .skip) (by kernel_rfl) (by kernel_rfl) (fun xs pins hp _ => ?_)
 unfold ownTS at hp ⊢
 split at hp
 · rename_i xs fl _
   obtain ⟨hL,es,rfl⟩ := hp
   rw [List.length_map] at hL
   refine ⟨by simp,?_⟩
   have hll : (es.map stP).length = es.length := by simp
   have ht : top = 4294967296 := rfl
   unfold Try.f13
   simp only [go_sem,zaa,Nat.reduceAdd,Nat.reduceSub,Nat.reduceMul,Int.reduceToNat,reduceCtorEq,↓reduceIte,Int.reducePow,Nat.reducePow,Int.reduceMod,Nat.reduceLeDiff,Int.reduceLE,Int.reduceNe,Int.reduceEq,Nat.reduceEqDiff,Nat.reduceLT,Nat.reduceBEq,ty,noS,hll]
   refine zdh ⟨fun m σ => ∃ i : Nat,m = es.length - i ∧ i ≤ es.length ∧
       σ = ⟨[.sg 22 (es.map stP) fl,.junk,.sg 1 [] true,.ms 4 22 0 i,.w (.int .i64 i),.junk,.junk,.junk,.junk,.junk,.junk,.junk,.junk,.junk,.junk,.junk,.junk,.junk,.junk],[(4,.g 22 ((es.take i).map stP))],5⟩,?_,?_⟩
   · refine ⟨_,_,(zer 3 22 (.g 22 []) ⟨by decide,rfl⟩ (by exact trivial)).trans (zaf [0,1,2,3,28] rfl rfl rfl ?_ ?_),0,rfl,by omega,rfl⟩
     · simp only [ssT,zai,zaj,setSlot,gOf,AV.ren,renL,Blk.ren,Ax.look,Ax.put,reduceCtorEq,↓reduceIte,Nat.reduceEqDiff,Nat.reduceLT,Nat.reduceAdd,List.length_append,List.length_cons,List.length_nil,Option.some.injEq]; try simp
       try rfl
     · simp only [ssT,zai,zaj,setSlot,gOf,AV.ren,renL,Blk.ren,Ax.look,Ax.put,reduceCtorEq,↓reduceIte,Nat.reduceEqDiff,Nat.reduceLT,Nat.reduceAdd,List.length_append,List.length_cons,List.length_nil,Option.some.injEq]; try simp [renL]
   · rintro m σ ⟨i,rfl,hi,rfl⟩
     have e1 : ((i : Int) + 1 + 9223372036854775808) % 18446744073709551616 - 9223372036854775808 = ((i + 1 : Nat) : Int) := by omega
     have hml : ((es.take i).map stP).length = i := by simp; omega
     by_cases hil : i < es.length
     · have d1 : decide ((i : Int) < es.length) = true := decide_eq_true (by omega)
       have hs1 := slot_stP es i hil
       have htk : es.take (i + 1) = es.take i ++ [es[i]] := List.take_succ_eq_append_getElem hil
       obtain ⟨⟨s,f1,f2⟩,hP⟩ : ∃ P,es[i] = P := ⟨_,rfl⟩
       rw [hP] at hs1 htk
       have hs1 : slot (es.map stP) i = .agg [.w (.int .u8 s.k),.w (.int .u8 s.q.k),.str s.q.t,.w (.int .i64 s.q.i),.w (.int .i64 s.q.p),.w (.bool s.q.c),.w (.bool s.q.f),.w (.int .i64 s.q.o),.w (.int .i64 s.q.m),.w (.int .i64 s.q.w),.str s.q.g,.str s.q.mb,.w (.int .i64 s.q.n),.w (.int .i64 s.q.b.b),.w (.int .i64 s.q.b.c),.w (.int .i64 s.q.b.p),.w (.int .i64 s.q.b.e),.w (.int .i64 s.q.b.s),.sg 6 (s.q.b.rs.map rv) f1,.w (.int .i64 s.N),.w (.bool s.D),.sb s.ft f2] := hs1
       have hcl := zbi s.q.b.rs
       simp only [go_sem,zaa,Nat.reduceAdd,Nat.reduceSub,Nat.reduceMul,Int.reduceToNat,reduceCtorEq,↓reduceIte,Int.reducePow,Nat.reducePow,Int.reduceMod,Nat.reduceLeDiff,Int.reduceLE,Int.reduceNe,Int.reduceEq,Nat.reduceEqDiff,Nat.reduceLT,Nat.reduceBEq,ty,noS,hll,hml,d1,hs1,e1,hcl,Int.toNat_natCast]
       repeat (refine And.intro (by first | omega | decide) ?_)
       refine ⟨es.length - (i + 1),_,by omega,zaf [0,1,2,3,85] rfl rfl rfl ?_ ?_,i + 1,rfl,by omega,rfl⟩
       · simp only [ssT,zai,zaj,setSlot,gOf,AV.ren,renL,Blk.ren,Ax.look,Ax.put,reduceCtorEq,↓reduceIte,Nat.reduceEqDiff,Nat.reduceLT,Nat.reduceAdd,List.length_append,List.length_cons,List.length_nil,Option.some.injEq,htk]; try simp
       · simp only [ssT,zai,zaj,setSlot,gOf,AV.ren,renL,Blk.ren,Ax.look,Ax.put,reduceCtorEq,↓reduceIte,Nat.reduceEqDiff,Nat.reduceLT,Nat.reduceAdd,List.length_append,List.length_cons,List.length_nil,Option.some.injEq,htk,ren_stP]; try simp [stP]
     · have d1 : decide ((i : Int) < es.length) = false := decide_eq_false (by omega)
       have hii : es.take i = es := List.take_of_length_le (by omega)
       rw [hii] at hml ⊢
       have hdle : decide (0 + i ≤ (es.map stP).length) = true := decide_eq_true (by omega)
       have htk : (es.map stP).take i = es.map stP := List.take_of_length_le (by omega)
       simp only [go_sem,zaa,Nat.reduceAdd,Nat.reduceSub,Nat.reduceMul,Int.reduceToNat,reduceCtorEq,↓reduceIte,Int.reducePow,Nat.reducePow,Int.reduceMod,Nat.reduceLeDiff,Int.reduceLE,Int.reduceNe,Int.reduceEq,Nat.reduceEqDiff,Nat.reduceLT,Nat.reduceBEq,ty,noS,hll,d1]
       refine ⟨_,weak_fg 4 22 3 (es.map stP) rfl (closed_stP es) (by simp [slot,AV.ids]),?_⟩
       simp only [fgL,fgH,AV.fg,Blk.fg,Nat.reduceBEq,cond_true,cond_false,hdle,Bool.and_true,beq_self_eq_true,Bool.true_and,List.drop_zero,htk]
       simp only [go_sem,zaa,Nat.reduceAdd,Nat.reduceSub,Nat.reduceMul,Int.reduceToNat,reduceCtorEq,↓reduceIte,Int.reducePow,Nat.reducePow,Int.reduceMod,Nat.reduceLeDiff,Int.reduceLE,Int.reduceNe,Int.reduceEq,Nat.reduceEqDiff,Nat.reduceLT,Nat.reduceBEq,ty,noS]
 · exact hp.elim
set_option maxHeartbeats 8000000 in
theorem light27_sound : zaq Try.prog 6 lightTS := by
 refine zbp (S := zfb) (T := ty) zau ty_ok SlightT_ok Try.func6 (c := Try.f6.body.getD .skip) (by kernel_rfl) (by kernel_rfl) (fun xs pins hp _ => ?_)
 unfold lightTS at hp ⊢
 split at hp
 · rename_i xs fl n _
   obtain ⟨hL,es,rfl,hw⟩ := hp
   rw [List.length_map] at hL
   have hll : (es.map stP).length = es.length := by simp
   have hlf : (es.map Prod.fst).length = es.length := by simp
   rw [map_ust]
   refine ⟨by simp,?_⟩
   unfold Try.f6
   by_cases hn : n < es.length
   · have d1 : decide (n < (es.length : Int)) = true := decide_eq_true hn
     have hno : decide (lightP (es.map Prod.fst) n) = false := decide_eq_false (fun h => h.1 (by rw [hlf]; exact hn))
     rw [hno]
     simp only [go_sem,zaa,Nat.reduceAdd,Nat.reduceSub,Nat.reduceMul,Int.reduceToNat,reduceCtorEq,↓reduceIte,Int.reducePow,Nat.reducePow,Int.reduceMod,Nat.reduceLeDiff,Int.reduceLE,Int.reduceNe,Int.reduceEq,Nat.reduceEqDiff,Nat.reduceLT,Nat.reduceBEq,ty,zfb,hll,d1]
     exact zba 4 rfl
   · have d1 : decide (n < (es.length : Int)) = false := decide_eq_false hn
     simp only [go_sem,zaa,Nat.reduceAdd,Nat.reduceSub,Nat.reduceMul,Int.reduceToNat,reduceCtorEq,↓reduceIte,Int.reducePow,Nat.reducePow,Int.reduceMod,Nat.reduceLeDiff,Int.reduceLE,Int.reduceNe,Int.reduceEq,Nat.reduceEqDiff,Nat.reduceLT,Nat.reduceBEq,ty,zfb,hll,d1]
     refine zdh ⟨fun m σ => ∃ i : Nat,m = es.length - i ∧ i ≤ es.length ∧ (∀ p ∈ es.take i,lightT p.1) ∧
       σ = ⟨[.sg 22 (es.map stP) fl,.w (.int .i64 n),.junk,.junk,.junk,.w (.int .i64 i),.junk,.junk,.junk,.junk,.junk,.junk,.junk,.junk,.junk,.junk,.junk,.junk,.junk,.junk,.junk,.junk,.junk,.junk,.junk,.junk,.junk,.junk,.junk,.junk,.junk,.junk],[],4⟩,?_,?_⟩
     · refine ⟨_,_,zaf [0,1,2,3] rfl rfl rfl ?_ ?_,0,rfl,by omega,by simp,rfl⟩
       · simp only [ssT,zai,zaj,setSlot,gOf,AV.ren,renL,Blk.ren,Ax.look,Ax.put,reduceCtorEq,↓reduceIte,Nat.reduceEqDiff,Nat.reduceLT,Nat.reduceAdd,List.length_append,List.length_cons,List.length_nil,Option.some.injEq]; try simp
       · simp only [ssT,zai,zaj,setSlot,gOf,AV.ren,renL,Blk.ren,Ax.look,Ax.put,reduceCtorEq,↓reduceIte,Nat.reduceEqDiff,Nat.reduceLT,Nat.reduceAdd,List.length_append,List.length_cons,List.length_nil,Option.some.injEq]
     · rintro m σ ⟨i,rfl,hi,hall,rfl⟩
       by_cases hil : i < es.length
       · have d2 : decide ((i : Int) < es.length) = true := decide_eq_true (by omega)
         have e1 : ((i : Int) + 1 + 9223372036854775808) % 18446744073709551616 - 9223372036854775808 = ((i + 1 : Nat) : Int) := by omega
         have hs1 := slot_stP es i hil
         have hws := hw es[i] (List.getElem_mem hil)
         have hmem : es[i].1 ∈ es.map Prod.fst := List.mem_map.2 ⟨es[i],List.getElem_mem hil,rfl⟩
         have htake : es.take (i + 1) = es.take i ++ [es[i]] := List.take_succ_eq_append_getElem hil
         obtain ⟨⟨s,f1,f2⟩,hP⟩ : ∃ P,es[i] = P := ⟨_,rfl⟩
         rw [hP] at hs1 hws hmem htake
         have hs1 : slot (es.map stP) i = .agg [.w (.int .u8 s.k),.w (.int .u8 s.q.k),.str s.q.t,.w (.int .i64 s.q.i),.w (.int .i64 s.q.p),.w (.bool s.q.c),.w (.bool s.q.f),.w (.int .i64 s.q.o),.w (.int .i64 s.q.m),.w (.int .i64 s.q.w),.str s.q.g,.str s.q.mb,.w (.int .i64 s.q.n),.w (.int .i64 s.q.b.b),.w (.int .i64 s.q.b.c),.w (.int .i64 s.q.b.p),.w (.int .i64 s.q.b.e),.w (.int .i64 s.q.b.s),.sg 6 (s.q.b.rs.map rv) f1,.w (.int .i64 s.N),.w (.bool s.D),.sb s.ft f2] := hs1
         obtain ⟨⟨ht1,ht2,ht3⟩,hr,hft⟩ := hws
         simp only at ht1 ht2 ht3 hr hft hmem
         have hrl : (s.q.b.rs.map rv).length = s.q.b.rs.length := by simp
         have hmr := zag s.q.b.rs
         have hex : ∃ qs : List Rec,s.q.b.rs.map rv = qs.map rv := ⟨s.q.b.rs,rfl⟩
         have hc : coe ty 23 (.sg 6 (s.q.b.rs.map rv) f1) = .sg 6 (s.q.b.rs.map rv) f1 := by cases s.q.b.rs <;> rfl
         by_cases hl : lightT s
         · have d3 := decide_eq_true hl.1
           have d4 : decide ((200 : Int) < s.ft.length) = false := decide_eq_false (by have := hl.2; omega)
           simp only [go_sem,zaa,Nat.reduceAdd,Nat.reduceSub,Nat.reduceMul,Int.reduceToNat,reduceCtorEq,↓reduceIte,Int.reducePow,Nat.reducePow,Int.reduceMod,Nat.reduceLeDiff,Int.reduceLE,Int.reduceNe,Int.reduceEq,Nat.reduceEqDiff,Nat.reduceLT,Nat.reduceBEq,ty,zfb,lrqS22,hll,d2,hs1,e1,ht1,ht2,ht3,hr,hrl,hmr,hex,hc,d3,d4,Int.toNat_natCast]
           repeat (refine And.intro (by first | omega | decide) ?_)
           refine ⟨es.length - (i + 1),_,by omega,zaf [0,1,2,3] rfl rfl rfl ?_ ?_,i + 1,rfl,by omega,?_,rfl⟩
           · simp only [ssT,zai,zaj,setSlot,gOf,AV.ren,renL,Blk.ren,Ax.look,Ax.put,reduceCtorEq,↓reduceIte,Nat.reduceEqDiff,Nat.reduceLT,Nat.reduceAdd,List.length_append,List.length_cons,List.length_nil,Option.some.injEq]
           · simp only [ssT,zai,zaj,setSlot,gOf,AV.ren,renL,Blk.ren,Ax.look,Ax.put,reduceCtorEq,↓reduceIte,Nat.reduceEqDiff,Nat.reduceLT,Nat.reduceAdd,List.length_append,List.length_cons,List.length_nil,Option.some.injEq]
           · intro p hp
             rw [htake] at hp
             rcases List.mem_append.1 hp with h | h
             · exact hall p h
             · rw [List.mem_singleton.1 h]; exact hl
         · have hno : decide (lightP (es.map Prod.fst) n) = false := decide_eq_false (fun h => hl (h.2 _ hmem))
           rw [hno]
           by_cases h1 : s.q.t.length ≤ 400 ∧ s.q.g.length ≤ 400 ∧ s.q.mb.length ≤ 400 ∧ s.q.b.rs.length ≤ 40 ∧ ∀ r ∈ s.q.b.rs,lightR r
           · have d3 := decide_eq_true h1
             have d4 : decide ((200 : Int) < s.ft.length) = true := decide_eq_true (by
               rcases Nat.lt_or_ge 200 s.ft.length with h | h
               · omega
               · exact (hl ⟨h1,h⟩).elim)
             simp only [go_sem,zaa,Nat.reduceAdd,Nat.reduceSub,Nat.reduceMul,Int.reduceToNat,reduceCtorEq,↓reduceIte,Int.reducePow,Nat.reducePow,Int.reduceMod,Nat.reduceLeDiff,Int.reduceLE,Int.reduceNe,Int.reduceEq,Nat.reduceEqDiff,Nat.reduceLT,Nat.reduceBEq,ty,zfb,lrqS22,hll,d2,hs1,e1,ht1,ht2,ht3,hr,hrl,hmr,hex,hc,d3,d4,Int.toNat_natCast]
             repeat (refine And.intro (by first | omega | decide) ?_)
             refine ⟨_,Weak.refl _,?_⟩
             simp only [go_sem,zaa,Nat.reduceAdd,Nat.reduceSub,Nat.reduceMul,Int.reduceToNat,reduceCtorEq,↓reduceIte,Int.reducePow,Nat.reducePow,Int.reduceMod,Nat.reduceLeDiff,Int.reduceLE,Int.reduceNe,Int.reduceEq,Nat.reduceEqDiff,Nat.reduceLT,Nat.reduceBEq,ty,zfb]
             exact zba 4 rfl
           · have d3 := decide_eq_false h1
             simp only [go_sem,zaa,Nat.reduceAdd,Nat.reduceSub,Nat.reduceMul,Int.reduceToNat,reduceCtorEq,↓reduceIte,Int.reducePow,Nat.reducePow,Int.reduceMod,Nat.reduceLeDiff,Int.reduceLE,Int.reduceNe,Int.reduceEq,Nat.reduceEqDiff,Nat.reduceLT,Nat.reduceBEq,ty,zfb,lrqS22,hll,d2,hs1,e1,ht1,ht2,ht3,hr,hrl,hmr,hex,hc,d3,Int.toNat_natCast]
             repeat (refine And.intro (by first | omega | decide) ?_)
             refine ⟨_,Weak.refl _,?_⟩
             simp only [go_sem,zaa,Nat.reduceAdd,Nat.reduceSub,Nat.reduceMul,Int.reduceToNat,reduceCtorEq,↓reduceIte,Int.reducePow,Nat.reducePow,Int.reduceMod,Nat.reduceLeDiff,Int.reduceLE,Int.reduceNe,Int.reduceEq,Nat.reduceEqDiff,Nat.reduceLT,Nat.reduceBEq,ty,zfb]
             exact zba 4 rfl
       · have d2 : decide ((i : Int) < es.length) = false := decide_eq_false (by omega)
         have hii : es.take i = es := List.take_of_length_le (by omega)
         rw [hii] at hall
         have hyes : decide (lightP (es.map Prod.fst) n) = true := decide_eq_true ⟨by rw [hlf]; omega,by
           intro s hs
           obtain ⟨p,hp,rfl⟩ := List.mem_map.1 hs
           exact hall p hp⟩
         rw [hyes]
         simp only [go_sem,zaa,Nat.reduceAdd,Nat.reduceSub,Nat.reduceMul,Int.reduceToNat,reduceCtorEq,↓reduceIte,Int.reducePow,Nat.reducePow,Int.reduceMod,Nat.reduceLeDiff,Int.reduceLE,Int.reduceNe,Int.reduceEq,Nat.reduceEqDiff,Nat.reduceLT,Nat.reduceBEq,ty,zfb,hll,d2]
         refine ⟨_,Weak.refl _,?_⟩
         simp only [go_sem,zaa,Nat.reduceAdd,Nat.reduceSub,Nat.reduceMul,Int.reduceToNat,reduceCtorEq,↓reduceIte,Int.reducePow,Nat.reducePow,Int.reduceMod,Nat.reduceLeDiff,Int.reduceLE,Int.reduceNe,Int.reduceEq,Nat.reduceEqDiff,Nat.reduceLT,Nat.reduceBEq,ty,zfb]
         exact zba 4 rfl
 · exact hp.elim
end
end Go.Proofs.Ytihbcgbmlecpbaa
namespace Go.Proofs.Ytihbcgbmlecpbaa
open Ax
set_option maxRecDepth 10000
set_option maxHeartbeats 4000000
theorem all_rv27 : ∀ (xs : List AV),(∀ x ∈ xs,∃ r : Rec,x = rv r) → ∃ rs : List Rec,xs = rs.map rv
 | [],_ => ⟨[],rfl⟩
 | x :: xs,h => by
   obtain ⟨r,rfl⟩ := h x (by simp)
   obtain ⟨rs,rfl⟩ := all_rv27 xs (fun y hy => h y (by simp [hy]))
   exact ⟨r :: rs,rfl⟩
def argS (s : St) : Prop := (0 ≤ s.k ∧ s.k < 256) ∧ (0 ≤ s.q.k ∧ s.q.k < 256) ∧ intQ s.q.i s.q.p s.q.o s.q.m s.q.w s.q.n ∧ okI s.N ∧ wideS s
theorem all_stP : ∀ (xs : List AV),(∀ x ∈ xs,∃ p : St × Bool × Bool,x = stP p ∧ argS p.1) → ∃ es : List (St × Bool × Bool),xs = es.map stP ∧ ∀ p ∈ es,argS p.1
 | [],_ => ⟨[],rfl,by simp⟩
 | x :: xs,h => by
   obtain ⟨p,rfl,hp⟩ := h x (by simp)
   obtain ⟨es,rfl,he⟩ := all_stP xs (fun y hy => h y (by simp [hy]))
   refine ⟨p :: es,rfl,?_⟩
   intro q hq
   rcases List.mem_cons.1 hq with rfl | hq
   · exact hp
   · exact he q hq
theorem shape_st27 {n : Nat} {ls : List AV} (hs : Shape ty (n + 7) 30 ls) : ∃ p : St × Bool × Bool,AV.agg ls = stP p ∧ argS p.1 := by
 simp only [Shape,ty,ShapeF,isFlatI] at hs
 obtain ⟨l0,r0,rfl,⟨m0,rfl,w0⟩,lq,rq,rfl,⟨l1,r1,rfl,⟨m1,rfl,w1⟩,l2,r2,rfl,⟨m2,rfl,w2⟩,l3,r3,rfl,⟨m3,rfl,w3⟩,l4,r4,rfl,⟨m4,rfl,w4⟩,l5,r5,rfl,⟨m5,rfl⟩,l6,r6,rfl,⟨m6,rfl⟩,l7,r7,rfl,⟨m7,rfl,w7⟩,l8,r8,rfl,⟨m8,rfl,w8⟩,l9,r9,rfl,⟨m9,rfl,w9⟩,l10,r10,rfl,⟨m10,rfl,w10⟩,l11,r11,rfl,⟨m11,rfl,w11⟩,l12,r12,rfl,⟨m12,rfl,w12⟩,l13,r13,rfl,⟨k1,s1,rfl,⟨n1,rfl,v1⟩,k2,s2,rfl,⟨n2,rfl,v2⟩,k3,s3,rfl,⟨n3,rfl,v3⟩,k4,s4,rfl,⟨n4,rfl,v4⟩,k5,s5,rfl,⟨n5,rfl,v5⟩,k6,s6,rfl,⟨xs,f,rfl,hl,hx⟩,rfl⟩,rfl⟩,lN,rN,rfl,⟨mN,rfl,wN⟩,lD,rD,rfl,⟨mD,rfl⟩,lf,rf,rfl,⟨mf,ff,rfl,wf⟩,rfl⟩ := hs
 obtain ⟨rs,rfl⟩ := all_rv27 xs (fun x hxm => by
   obtain ⟨l,⟨l1,r1,rfl,⟨m1,rfl,w1⟩,l2,r2,rfl,⟨m2,rfl,w2⟩,l3,r3,rfl,⟨m3,rfl⟩,l4,r4,rfl,⟨m4,rfl,w4⟩,l5,r5,rfl,⟨m5,rfl⟩,l6,r6,rfl,⟨m6,rfl,w6⟩,rfl⟩,_,rfl⟩ := hx x hxm
   exact ⟨⟨m1,m2,m3,m4,m5,m6⟩,rfl⟩)
 rw [List.length_map] at hl
 have hm : maxLen = 9223372036854775807 := by decide
 exact ⟨⟨⟨m0,⟨m1,m2,m3,m4,m5,m6,m7,m8,m9,m10,m11,m12,⟨n1,n2,n3,n4,n5,rs⟩⟩,mN,mD,mf⟩,f,ff⟩,rfl,wf_u8 w0,wf_u8 w1,⟨wf_i64 w3,wf_i64 w4,wf_i64 w7,wf_i64 w8,wf_i64 w9,wf_i64 w12⟩,wf_i64 wN,⟨by simp only; omega,by simp only; omega,by simp only; omega⟩,by simp only; omega,by simp only; omega⟩
theorem arg_sts27 {x : AV} (h : Arg ty 8 22 x) : ∃ (es : List (St × Bool × Bool)) (f : Bool),x = .sg 22 (es.map stP) f ∧ es.length ≤ 9223372036854775807 ∧ ∀ p ∈ es,argS p.1 := by
 obtain ⟨i,ls,hi,hs,rfl⟩ := h
 simp only [ty] at hi
 injection hi with hi
 subst hi
 unfold Shape at hs
 simp only [ty,isFlatI] at hs
 obtain ⟨xs,f,rfl,hl,hx⟩ := hs
 obtain ⟨es,rfl,he⟩ := all_stP xs (fun x hxm => by
   obtain ⟨l,h1,_,rfl⟩ := hx x hxm
   exact shape_st27 (n := 0) h1)
 rw [List.length_map] at hl
 have hm : maxLen = 9223372036854775807 := by decide
 exact ⟨es,f,rfl,by omega,he⟩
end Go.Proofs.Ytihbcgbmlecpbaa
namespace Go.Proofs.Ytihbcgbmlecpbaa
open Ax
theorem fit_of {s : St} (ha : argS s) (hl : lightT s) : fitS s := by
 obtain ⟨h1,h2,h3,h4,_⟩ := ha
 obtain ⟨⟨l1,l2,l3,l4,_⟩,l5⟩ := hl
 exact ⟨h1,⟨h2,⟨by omega,by omega,by omega⟩,h3,l4⟩,h4,by omega⟩
end Go.Proofs.Ytihbcgbmlecpbaa
namespace Go.Proofs.Ytihbcgbmlecpbaa
open Ax
theorem gt_none : ¬ gtOk [] := fun h => h.1 rfl
theorem back_more {l : List St} (h : chkP l = 0) (hf : ∀ s ∈ l,fitS s) : gpO (layP l ++ [0]) = none := by
 obtain ⟨h1,h2,h3,_⟩ := bk_facts h hf
 have t := (text_put 65536 [] [] (by decide) (by decide)).1
 have e : zaw [] ++ [] = [0] := by simp [zaw,putU]
 rw [e] at t
 have := gp_app l 1000 [0] h2 hf h1
 rw [gpR_bad (1000 - l.length) (b := [0]) (by simp) (by rw [t]; exact gt_none)] at this
 unfold gpO
 split
 · rfl
 · rw [this]; rfl
theorem back_less {l : List St} (h : chkP l = 0) (hf : ∀ s ∈ l,fitS s) (hne : l ≠ []) : gpO ((layP l).take ((layP l).length - 1)) = none := by
 obtain ⟨h1,h2,h3,_⟩ := bk_facts h hf
 obtain ⟨l0,s,rfl⟩ : ∃ l0 s,l = l0 ++ [s] := ⟨_,_,(List.dropLast_concat_getLast hne).symm⟩
 have hs := h2 s (by simp)
 have hfs := hf s (by simp)
 have hsm := layS_small hs hfs
 have e : layP (l0 ++ [s]) = layP l0 ++ zaw (layS s) := by unfold layP; rw [List.flatMap_append]; simp
 have hp := putU_pos (2 * (layS s).length)
 have hl1 : 1 ≤ (layS s).length := by unfold layS layT; simp
 have htl : 2 ≤ (zaw (layS s)).length := by unfold zaw; rw [List.length_append]; omega
 have hc := text_cut 65536 (layS s) (by omega) (by omega)
 have hr : rtS' 65536 ((zaw (layS s)).take ((zaw (layS s)).length - 1)) 0 = [] := by
   rcases Classical.em (rtS' 65536 ((zaw (layS s)).take ((zaw (layS s)).length - 1)) 0 = []) with g | g
   · exact g
   · exact (hc (rt_ok 65536 _ 0 g)).elim
 have hz : (zaw (layS s)).take ((zaw (layS s)).length - 1) ≠ [] := by
   intro g
   have := congrArg List.length g
   rw [List.length_take] at this
   simp at this
   omega
 rw [e,take_last _ _ (by omega)]
 have := gp_app l0 1000 ((zaw (layS s)).take ((zaw (layS s)).length - 1)) (fun y hy => h2 y (by simp [hy])) (fun y hy => hf y (by simp [hy])) (by rw [List.length_append] at h1; omega)
 rw [gpR_bad _ hz (by rw [hr]; exact gt_none)] at this
 unfold gpO
 split
 · rfl
 · rw [this]; rfl
theorem layP_pos {l : List St} (hne : l ≠ []) : 1 ≤ (layP l).length := by
 cases l with
 | nil => exact (hne rfl).elim
 | cons s r =>
   have := textL_ne (layS s)
   have h2 : 0 < (zaw (layS s)).length := List.length_pos_iff.2 this
   unfold layP; rw [List.flatMap_cons,List.length_append]; omega
end Go.Proofs.Ytihbcgbmlecpbaa
namespace Go.Proofs.Ytihbcgbmlecpbaa
open Ax
def Sbk27 (f : FuncId) : Option zak :=
 match f with
 | 6 => some lightTS
 | 7 => some yesS27
 | 10 => some sameTS
 | 13 => some ownTS
 | 12 => some putPS
 | 17 => some getPS
 | _ => none
theorem Sbk27_ok : Fns Try.prog Sbk27 := by
 intro f s h
 unfold Sbk27 at h
 split at h
 · injection h with h; subst h; exact ⟨⟨_,Try.func6,by kernel_rfl,by kernel_rfl⟩,light27_sound⟩
 · injection h with h; subst h; exact ⟨⟨_,Try.func7,by kernel_rfl,by kernel_rfl⟩,awake27_sound⟩
 · injection h with h; subst h; exact ⟨⟨_,Try.func10,by kernel_rfl,by kernel_rfl⟩,sameT_sound⟩
 · injection h with h; subst h; exact ⟨⟨_,Try.func13,by kernel_rfl,by kernel_rfl⟩,own27_sound⟩
 · injection h with h; subst h; exact ⟨⟨_,Try.func12,by kernel_rfl,by kernel_rfl⟩,putP_sound⟩
 · injection h with h; subst h; exact ⟨⟨_,Try.func17,by kernel_rfl,by kernel_rfl⟩,getP_sound⟩
 · cases h
def bk27Pl : XPlan := fun id => match id with
 | 6 => .frz [3]
 | _ => .std
def bk27S : zak
 | [.sg 22 xs fl],[] => ⟨∃ es : List (St × Bool × Bool),xs = es.map stP ∧ es.length ≤ 9223372036854775807 ∧ ∀ p ∈ es,argS p.1,.w (.bool true),[]⟩
 | _,_ => zbd
section
set_option maxRecDepth 100000
set_option maxHeartbeats 16000000 in
theorem bk27_law : zaq Try.prog 5 bk27S := by
 refine zbx (S := Sbk27) (SO := noO) (T := ty) zau ty_ok Sbk27_ok noO_ok Try.func5 (c := Try.f5.body.getD .skip) (by kernel_rfl) (fun xs pins hp _ => ?_)
 unfold bk27S at hp ⊢
 split at hp
 · rename_i xs fl _
   obtain ⟨es,rfl,hL,hes⟩ := hp
   refine ⟨by simp,bk27Pl,by kernel_rfl,?_⟩
   have hll : (es.map stP).length = es.length := by simp
   have hexw : ∃ gs : List (St × Bool × Bool),es.map stP = gs.map stP ∧ ∀ p ∈ gs,wideS p.1 := ⟨es,rfl,fun p h => (hes p h).2.2.2.2⟩
   have hmu := map_ust es
   have hc : coe ty 22 (.sg 22 (es.map stP) fl) = .sg 22 (es.map stP) fl := by cases es <;> rfl
   have hc2 : coe ty 42 (.sg 22 (es.map stP) false) = .sg 22 (es.map stP) false := by cases es <;> rfl
   have hlf : (es.map Prod.fst).length = es.length := by simp
   have hle : ∀ (i : Nat) (h : i < es.length),(es.map Prod.fst)[i]'(by rw [hlf]; exact h) = es[i].1 := fun i h => by simp
   have tk : ∀ l : List UInt8,List.take l.length l = l := fun l => List.take_length
   have hmem : ∀ s ∈ es.map Prod.fst,argS s := by
     intro s hs
     obtain ⟨p,hp,rfl⟩ := List.mem_map.1 hs
     exact hes p hp
   obtain ⟨l,hl⟩ : ∃ l,es.map Prod.fst = l := ⟨_,rfl⟩
   have hnl : es = [] ↔ l = [] := by rw [← hl]; simp
   unfold Try.f5
   by_cases LA : lightP l 30
   case neg =>
     have DA := decide_eq_false LA
     rw [hl] at hmu
     simp only [go_sem,zab,Nat.reduceAdd,Nat.reduceSub,Nat.reduceMul,Int.reduceToNat,reduceCtorEq,↓reduceIte,Int.reducePow,Nat.reducePow,Int.reduceMod,Nat.reduceLeDiff,Int.reduceLE,Int.reduceNe,Int.reduceEq,Nat.reduceEqDiff,Nat.reduceLT,Nat.reduceBEq,List.map_cons,List.map_nil,List.toList_toArray,Array.toList_append,Option.toArray_some,Option.toArray_none,Bool.and_self,ty,Sbk27,bk27Pl,lightTS,yesS27,hll,hc,hL,hexw,hmu,DA]
     exact zba 2 rfl
   have DA := decide_eq_true LA
   have hf : ∀ s ∈ l,fitS s := fun s hs => fit_of (hmem s (by rw [hl]; exact hs)) (LA.2 s hs)
   have hfes : ∀ p ∈ es,fitS p.1 := fun p hp => hf p.1 (by rw [← hl]; exact List.mem_map.2 ⟨p,hp,rfl⟩)
   have hll2 : l.length = es.length := by rw [← hl]; exact hlf
   have h30 : es.length ≤ 30 := by have := LA.1; omega
   have hexf : ∃ gs : List (St × Bool × Bool),es.map stP = gs.map stP ∧ ∀ p ∈ gs,fitS p.1 := ⟨es,rfl,hfes⟩
   have hexg : ∃ gs : List (St × Bool × Bool),es.map stP = gs.map stP := ⟨es,rfl⟩
   have hLm : es.length ≤ 1000000 := by omega
   have dz : decide (((0 : Nat) : Int) = 0) = true := by decide
   by_cases hC : chkP l = 0
   case neg =>
     have hW : putP l = [] := if_neg hC
     have d0 : decide (chkP l = 0) = false := decide_eq_false hC
     rw [hl] at hmu
     simp only [go_sem,zab,Nat.reduceAdd,Nat.reduceSub,Nat.reduceMul,Int.reduceToNat,reduceCtorEq,↓reduceIte,Int.reducePow,Nat.reducePow,Int.reduceMod,Nat.reduceLeDiff,Int.reduceLE,Int.reduceNe,Int.reduceEq,Nat.reduceEqDiff,Nat.reduceLT,Nat.reduceBEq,List.map_cons,List.map_nil,List.toList_toArray,Array.toList_append,Option.toArray_some,Option.toArray_none,Bool.and_self,ty,Sbk27,bk27Pl,lightTS,ownTS,putPS,yesS27,hll,hc,hc2,hL,hLm,hexw,hexf,hexg,hmu,DA,hW,d0,dz,List.length_nil]
     exact zba 2 rfl
   obtain ⟨q1,q2,q3,q4⟩ := bk_facts hC hf
   have d0 : decide (chkP l = 0) = true := decide_eq_true hC
   by_cases hn : l = []
   · have hW : putP l = [] := by rw [q4,hn]; rfl
     have del : decide ((es.length : Int) = 0) = true := by rw [hnl.2 hn]; rfl
     rw [hl] at hmu
     simp only [go_sem,zab,Nat.reduceAdd,Nat.reduceSub,Nat.reduceMul,Int.reduceToNat,reduceCtorEq,↓reduceIte,Int.reducePow,Nat.reducePow,Int.reduceMod,Nat.reduceLeDiff,Int.reduceLE,Int.reduceNe,Int.reduceEq,Nat.reduceEqDiff,Nat.reduceLT,Nat.reduceBEq,List.map_cons,List.map_nil,List.toList_toArray,Array.toList_append,Option.toArray_some,Option.toArray_none,Bool.and_self,ty,Sbk27,bk27Pl,lightTS,ownTS,putPS,yesS27,hll,hc,hc2,hL,hLm,hexw,hexf,hexg,hmu,DA,hW,hC,d0,dz,del,List.length_nil]
     exact zba 2 rfl
   have hok := back_ok hC hf
   have hmo := back_more hC hf
   have hle2 := back_less hC hf hn
   have hpo := layP_pos hn
   have hnz : es ≠ [] := fun h => hn (hnl.1 h)
   have hgl : ∀ i (h : i < es.length),slot (l.map gtV) i = gtV es[i].1 := by
     intro i h
     rw [slot_gtV l i (by omega)]
     subst hl
     rw [hle i h]
   have hlm : (l.map gtV).length = es.length := by rw [List.length_map]; exact hll2
   obtain ⟨Y,hY⟩ : ∃ Y,layP l = Y := ⟨_,rfl⟩
   rw [hY] at hok hmo hle2 hpo q3 q4
   have d5 : decide ((Y.length : Int) = 0) = false := decide_eq_false (by omega)
   have e5 : ((Y.length : Int) - 1 + 9223372036854775808) % 18446744073709551616 - 9223372036854775808 = ((Y.length - 1 : Nat) : Int) := by omega
   have t5 : List.take (Y.length + 1) (Y ++ [UInt8.ofNat 0]) = Y ++ [0] := List.take_of_length_le (by rw [List.length_append]; exact Nat.le_refl _)
   have y1 : Y.length ≤ 1000000 := by omega
   have y2 : (Y ++ [0]).length ≤ 1000000 := by rw [List.length_append,List.length_singleton]; omega
   have y3 : (Y.take (Y.length - 1)).length ≤ 1000000 := by rw [List.length_take]; omega
   have x1 : gpX (gpO Y) = .tup [.sg 22 (l.map gtV) false,.w (.int .i64 0)] := by rw [hok]; rfl
   have x2 : gpX (gpO (Y ++ [0])) = .tup [.sg 1 [] true,.w (.int .i64 4)] := by rw [hmo]; rfl
   have x3 : gpX (gpO (Y.take (Y.length - 1))) = .tup [.sg 1 [] true,.w (.int .i64 4)] := by rw [hle2]; rfl
   obtain ⟨Z1,hZ1⟩ : ∃ x,Y ++ [0] = x := ⟨_,rfl⟩
   obtain ⟨Z2,hZ2⟩ : ∃ x,Y.take (Y.length - 1) = x := ⟨_,rfl⟩
   rw [hZ1] at t5 y2 x2
   rw [hZ2] at y3 x3
   clear hok hmo hle2
   have dl : decide ((es.length : Int) = es.length) = true := decide_eq_true rfl
   rw [hl] at hmu
   simp only [go_sem,zab,Nat.reduceAdd,Nat.reduceSub,Nat.reduceMul,Int.reduceToNat,reduceCtorEq,↓reduceIte,Int.reducePow,Nat.reducePow,Int.reduceMod,Nat.reduceLeDiff,Int.reduceLE,Int.reduceNe,Int.reduceEq,Nat.reduceEqDiff,Nat.reduceLT,Nat.reduceBEq,List.map_cons,List.map_nil,List.toList_toArray,Array.toList_append,Option.toArray_some,Option.toArray_none,Bool.and_self,ty,Sbk27,bk27Pl,lightTS,ownTS,putPS,getPS,hll,hc,hc2,hL,hLm,hexw,hexf,hexg,hmu,DA,q4,hC,d0,dz,d5,y1,x1,hlm,dl,tk,fillS]
   refine awpO_loopW ⟨fun m σ => ∃ i : Nat,m = es.length - i ∧ i ≤ es.length ∧
       σ = ⟨[.sg 22 (es.map stP) fl,.junk,.w (.bool false),.sb Y false,.w (.int .i64 0),.sg 22 (l.map gtV) false,.w (.int .i64 0),.w (.int .i64 i),.junk,.junk,.junk,.junk,.junk,.junk,.junk,.junk,.junk,.junk,.junk,.junk,.junk,.junk,.junk,.junk,.junk,.junk,.junk,.junk,.junk,.junk,.junk,.junk,.junk,.junk,.junk,.junk,.junk,.junk,.junk,.junk,.junk,.junk,.junk,.junk,.junk,.junk,.junk,.junk,.junk,.junk,.junk,.junk,.junk,.junk,.junk,.junk,.junk,.junk,.junk,.junk,.junk,.junk,.junk,.junk,.junk,.junk,.junk,.junk,.junk,.junk,.junk,.junk,.junk,.junk,.junk,.junk,.junk,.junk,.junk,.junk,.junk,.junk,.junk,.junk,.junk,.junk,.junk,.junk,.junk,.junk,.junk,.junk,.junk,.junk,.junk,.junk,.junk,.junk,.junk,.junk,.junk],[],4⟩,?_,?_⟩
   · refine ⟨_,_,zaf [0,1,2,3] rfl rfl rfl ?_ ?_,0,rfl,by omega,rfl⟩
     · simp only [ssT,zai,zaj,setSlot,gOf,AV.ren,renL,Blk.ren,Ax.look,Ax.put,reduceCtorEq,↓reduceIte,Nat.reduceEqDiff,Nat.reduceLT,Nat.reduceAdd,List.length_append,List.length_cons,List.length_nil,Option.some.injEq]; try simp
     · simp only [ssT,zai,zaj,setSlot,gOf,AV.ren,renL,Blk.ren,Ax.look,Ax.put,reduceCtorEq,↓reduceIte,Nat.reduceEqDiff,Nat.reduceLT,Nat.reduceAdd,List.length_append,List.length_cons,List.length_nil,Option.some.injEq]; try simp
   · rintro m σ ⟨i,rfl,hi,rfl⟩
     by_cases hil : i < es.length
     · have d2 : decide ((i : Int) < es.length) = true := decide_eq_true (by omega)
       have e1 : ((i : Int) + 1 + 9223372036854775808) % 18446744073709551616 - 9223372036854775808 = ((i + 1 : Nat) : Int) := by omega
       have hs1 := slot_stP es i hil
       have hs2 := hgl i hil
       have hfr := hfes es[i] (List.getElem_mem hil)
       obtain ⟨⟨r,g1,g2⟩,hR⟩ : ∃ P,es[i] = P := ⟨_,rfl⟩
       rw [hR] at hs1 hs2 hfr
       have hs1 : slot (es.map stP) i = .agg [.w (.int .u8 r.k),.w (.int .u8 r.q.k),.str r.q.t,.w (.int .i64 r.q.i),.w (.int .i64 r.q.p),.w (.bool r.q.c),.w (.bool r.q.f),.w (.int .i64 r.q.o),.w (.int .i64 r.q.m),.w (.int .i64 r.q.w),.str r.q.g,.str r.q.mb,.w (.int .i64 r.q.n),.w (.int .i64 r.q.b.b),.w (.int .i64 r.q.b.c),.w (.int .i64 r.q.b.p),.w (.int .i64 r.q.b.e),.w (.int .i64 r.q.b.s),.sg 6 (r.q.b.rs.map rv) g1,.w (.int .i64 r.N),.w (.bool r.D),.sb r.ft g2] := hs1
       have hs2 : slot (l.map gtV) i = .agg [.w (.int .u8 r.k),.w (.int .u8 r.q.k),.str r.q.t,.w (.int .i64 r.q.i),.w (.int .i64 r.q.p),.w (.bool r.q.c),.w (.bool r.q.f),.w (.int .i64 r.q.o),.w (.int .i64 r.q.m),.w (.int .i64 r.q.w),.str r.q.g,.str r.q.mb,.w (.int .i64 r.q.n),.w (.int .i64 r.q.b.b),.w (.int .i64 r.q.b.c),.w (.int .i64 r.q.b.p),.w (.int .i64 r.q.b.e),.w (.int .i64 r.q.b.s),.sg 6 (r.q.b.rs.map rv) (emp r.q.b.rs),.w (.int .i64 r.N),.w (.bool r.D),.sb r.ft (!decide (r.k = 4))] := hs2
       have h40 : (r.q.b.rs.map rv).length ≤ 9223372036854775807 := by rw [List.length_map]; have := hfr.2.1.2.2.2; exact Nat.le_trans this (by decide)
       have hex : ∃ qs : List Rec,r.q.b.rs.map rv = qs.map rv := ⟨r.q.b.rs,rfl⟩
       have hmr := zag r.q.b.rs
       have hrf := eqT_refl r
       simp only [go_sem,zab,Nat.reduceAdd,Nat.reduceSub,Nat.reduceMul,Int.reduceToNat,reduceCtorEq,↓reduceIte,Int.reducePow,Nat.reducePow,Int.reduceMod,Nat.reduceLeDiff,Int.reduceLE,Int.reduceNe,Int.reduceEq,Nat.reduceEqDiff,Nat.reduceLT,Nat.reduceBEq,List.map_cons,List.map_nil,List.toList_toArray,Array.toList_append,Option.toArray_some,Option.toArray_none,Bool.and_self,ty,Sbk27,bk27Pl,zbc,hll,hlm,d2,e1,hs1,hs2,h40,hex,hmr,hrf,hil,tk,Int.toNat_natCast,Bool.not_true]
       repeat (refine And.intro (by first | omega | decide) ?_)
       refine ⟨es.length - (i + 1),_,by omega,zaf [0,1,2,3] rfl rfl rfl ?_ ?_,i + 1,rfl,by omega,rfl⟩
       · simp only [ssT,zai,zaj,setSlot,gOf,AV.ren,renL,Blk.ren,Ax.look,Ax.put,reduceCtorEq,↓reduceIte,Nat.reduceEqDiff,Nat.reduceLT,Nat.reduceAdd,List.length_append,List.length_cons,List.length_nil,Option.some.injEq]; try simp
       · simp only [ssT,zai,zaj,setSlot,gOf,AV.ren,renL,Blk.ren,Ax.look,Ax.put,reduceCtorEq,↓reduceIte,Nat.reduceEqDiff,Nat.reduceLT,Nat.reduceAdd,List.length_append,List.length_cons,List.length_nil,Option.some.injEq]; try simp
     · have d2 : decide ((i : Int) < es.length) = false := decide_eq_false (by omega)
       simp only [go_sem,zab,Nat.reduceAdd,Nat.reduceSub,Nat.reduceMul,Int.reduceToNat,reduceCtorEq,↓reduceIte,Int.reducePow,Nat.reducePow,Int.reduceMod,Nat.reduceLeDiff,Int.reduceLE,Int.reduceNe,Int.reduceEq,Nat.reduceEqDiff,Nat.reduceLT,Nat.reduceBEq,List.map_cons,List.map_nil,List.toList_toArray,Array.toList_append,Option.toArray_some,Option.toArray_none,Bool.and_self,ty,Sbk27,bk27Pl,hll,d2]
       refine ⟨_,Weak.refl _,?_⟩
       simp only [go_sem,zab,Nat.reduceAdd,Nat.reduceSub,Nat.reduceMul,Int.reduceToNat,reduceCtorEq,↓reduceIte,Int.reducePow,Nat.reducePow,Int.reduceMod,Nat.reduceLeDiff,Int.reduceLE,Int.reduceNe,Int.reduceEq,Nat.reduceEqDiff,Nat.reduceLT,Nat.reduceBEq,List.map_cons,List.map_nil,List.toList_toArray,Array.toList_append,Option.toArray_some,Option.toArray_none,Bool.and_self,ty,Sbk27,bk27Pl,getPS,yesS27,y1,y2,y3,x2,x3,e5,t5,hZ2,tk,fillS,Int.toNat_natCast,Nat.sub_zero]
       repeat (refine And.intro (by first | omega | assumption | (unfold top; omega)) ?_)
       exact zba 2 rfl
 · exact hp.elim
end
theorem bk27_dom {x : AV} (hx : Arg ty 8 22 x) : (bk27S [x] []).p ∧ (bk27S [x] []).x = .w (.bool true) := by
 obtain ⟨es,f,rfl,hl,he⟩ := arg_sts27 hx
 exact ⟨⟨es,rfl,hl,he⟩,rfl⟩
end Go.Proofs.Ytihbcgbmlecpbaa
