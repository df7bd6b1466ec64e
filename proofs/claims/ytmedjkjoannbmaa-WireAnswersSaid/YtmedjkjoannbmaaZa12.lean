/- What the proofs of this seat stand on; it asks nothing. -/
import Derived.Test.YtmedjkjoannbmaaZa11
set_option linter.unusedSimpArgs false
set_option linter.unusedVariables false
namespace Go.Proofs.Ytmedjkjoannbmaa
open Ax
def gR (bs : List UInt8) (e : Int) : Rec := ⟨gd bs e,gt bs e,gk bs e,gkey bs e,gdd bs e,gval bs e⟩
theorem grec_rv {bs : List UInt8} {e : Int} (h : gerr bs e = 0) : grec bs e = rv (gR bs e) := by unfold grec; rw [if_pos h]; rfl
def readN : Nat → List UInt8 → Int → Option (List Rec × List UInt8 × Int)
 | 0,bs,e => some ([],bs,e)
 | n + 1,bs,e => if gerr bs e = 0 then (readN n (gb5 bs e) (ge5 bs e)).map (fun x => (gR bs e :: x.1,x.2)) else none
theorem readN_succ (n : Nat) (bs : List UInt8) (e : Int) : readN (n + 1) bs e = if gerr bs e = 0 then (readN n (gb5 bs e) (ge5 bs e)).map (fun x => (gR bs e :: x.1,x.2)) else none := rfl
def hb : Nat → List UInt8 → List UInt8 × Int
 | 0,bs => (bs,0)
 | k + 1,bs => (numL (hb k bs).1 (hb k bs).2,numE (hb k bs).1 (hb k bs).2)
def hn (k : Nat) (bs : List UInt8) : Int := numN (hb k bs).1 (hb k bs).2
structure Bat where
 b : Int
 c : Int
 p : Int
 e : Int
 s : Int
 rs : List Rec
def bav (x : Bat) (f : Bool) : AV := .agg [.w (.int .i64 x.b),.w (.int .i64 x.c),.w (.int .i64 x.p),.w (.int .i64 x.e),.w (.int .i64 x.s),.sg 6 (x.rs.map rv) f]
def bE (x : Bat) : Int := batE x.b x.c x.p x.e x.s x.rs
def bB (x : Bat) : List UInt8 := batB x.b x.c x.p x.e x.s x.rs
def bget (bs : List UInt8) : Option Bat :=
 if 0 ≤ hn 5 bs ∧ hn 5 bs ≤ 32 then
   match readN (hn 5 bs).toNat (hb 6 bs).1 (hb 6 bs).2 with
   | some (rs,r,e) => if e = 0 ∧ r = [] ∧ bE ⟨hn 0 bs,hn 1 bs,hn 2 bs,hn 3 bs,hn 4 bs,rs⟩ = 0 ∧ bB ⟨hn 0 bs,hn 1 bs,hn 2 bs,hn 3 bs,hn 4 bs,rs⟩ = bs then some ⟨hn 0 bs,hn 1 bs,hn 2 bs,hn 3 bs,hn 4 bs,rs⟩ else none
   | none => none
 else none
def zdg (bs : List UInt8) : Bat := (bget bs).getD ⟨0,0,0,0,0,[]⟩
def bgetE (bs : List UInt8) : Int := if (bget bs).isSome then 0 else 4
def emp (rs : List Rec) : Bool := rs.isEmpty
theorem emp_nil : emp [] = true := rfl
def bgetS : zaq
 | [.sb bs f],[] => ⟨bs.length ≤ 1000000,.tup [bav (zdg bs) (emp (zdg bs).rs),.w (.int .i64 (bgetE bs))],[]⟩
 | _,_ => zbv
theorem hb_length (bs : List UInt8) : ∀ k,(hb k bs).1.length ≤ bs.length
 | 0 => Nat.le_refl _
 | k + 1 => Nat.le_trans (zby _ _) (hb_length bs k)
theorem readN_step {n : Nat} {b : List UInt8} {e : Int} (h : gerr b e = 0) (qs : List Rec) : (readN (n + 1) b e).map (fun x => (qs ++ x.1,x.2)) = (readN n (gb5 b e) (ge5 b e)).map (fun x => ((qs ++ [gR b e]) ++ x.1,x.2)) := by
 rw [readN_succ,if_pos h,Option.map_map]; congr 1; funext x; simp
theorem gb5_length (bs : List UInt8) (e : Int) : (gb5 bs e).length ≤ bs.length := by
 have q1 : (gb1 bs e).length ≤ bs.length := zbg 1 bs e
 have q2 : (gb2 bs e).length ≤ bs.length := Nat.le_trans (zby _ _) q1
 have q3 : (gb3 bs e).length ≤ bs.length := Nat.le_trans (zby _ _) q2
 have q4 : (gb4 bs e).length ≤ bs.length := by have := rtL_length 64 (gb3 bs e) (ge3 bs e); unfold gb4; split <;> omega
 have := rtL_length 512 (gb4 bs e) (ge4 bs e)
 unfold gb5; split <;> omega
def Sbget (f : FuncId) : Option zaq :=
 match f with
 | 45 => some newS
 | 52 => some numS
 | 48 => some zbq
 | 84 => some rgetS
 | 76 => some zdd
 | 49 => some beqS
 | _ => none
theorem Sbget_ok : Fns Try.prog Sbget := by
 intro f s h
 unfold Sbget at h
 split at h
 · injection h with h; subst h; exact ⟨⟨_,Try.func45,by kernel_rfl,by kernel_rfl⟩,new_sound⟩
 · injection h with h; subst h; exact ⟨⟨_,Try.func52,by kernel_rfl,by kernel_rfl⟩,num_sound⟩
 · injection h with h; subst h; exact ⟨⟨_,Try.func48,by kernel_rfl,by kernel_rfl⟩,done_sound⟩
 · injection h with h; subst h; exact ⟨⟨_,Try.func84,by kernel_rfl,by kernel_rfl⟩,recget_sound⟩
 · injection h with h; subst h; exact ⟨⟨_,Try.func76,by kernel_rfl,by kernel_rfl⟩,blay4_sound⟩
 · injection h with h; subst h; exact ⟨⟨_,Try.func49,by kernel_rfl,by kernel_rfl⟩,beq_sound⟩
 · cases h
section
set_option maxRecDepth 100000
set_option maxHeartbeats 2000000 in
theorem bget_sound : zbf Try.prog 54 bgetS := by
 refine zau (S := Sbget) (T := ty) zbj ty_ok Sbget_ok Try.func54 (c := Try.f54.body.getD .skip) (by kernel_rfl) (by kernel_rfl) (fun xs pins hp _ => ?_)
 unfold bgetS at hp ⊢
 split at hp
 · rename_i bs f _
   have hlen : bs.length ≤ 1000000 := hp
   refine ⟨by simp,?_⟩
   unfold Try.f54
   have L0 := hb_length bs 0
   have L1 := hb_length bs 1
   have L2 := hb_length bs 2
   have L3 := hb_length bs 3
   have L4 := hb_length bs 4
   have L5 := hb_length bs 5
   have L6 := hb_length bs 6
   have q0 : bs.length ≤ 1000000 := hlen
   have q1 : (hb 1 bs).1.length ≤ 1000000 := by omega
   have q2 : (hb 2 bs).1.length ≤ 1000000 := by omega
   have q3 : (hb 3 bs).1.length ≤ 1000000 := by omega
   have q4 : (hb 4 bs).1.length ≤ 1000000 := by omega
   have q5 : (hb 5 bs).1.length ≤ 1000000 := by omega
   have q6 : (hb 6 bs).1.length ≤ 1000000 := by omega
   have n0 : numN bs 0 = hn 0 bs := rfl
   have l0 : numL bs 0 = (hb 1 bs).1 := rfl
   have e0 : numE bs 0 = (hb 1 bs).2 := rfl
   have n1 : numN (hb 1 bs).1 (hb 1 bs).2 = hn 1 bs := rfl
   have l1 : numL (hb 1 bs).1 (hb 1 bs).2 = (hb 2 bs).1 := rfl
   have e1 : numE (hb 1 bs).1 (hb 1 bs).2 = (hb 2 bs).2 := rfl
   have n2 : numN (hb 2 bs).1 (hb 2 bs).2 = hn 2 bs := rfl
   have l2 : numL (hb 2 bs).1 (hb 2 bs).2 = (hb 3 bs).1 := rfl
   have e2 : numE (hb 2 bs).1 (hb 2 bs).2 = (hb 3 bs).2 := rfl
   have n3 : numN (hb 3 bs).1 (hb 3 bs).2 = hn 3 bs := rfl
   have l3 : numL (hb 3 bs).1 (hb 3 bs).2 = (hb 4 bs).1 := rfl
   have e3 : numE (hb 3 bs).1 (hb 3 bs).2 = (hb 4 bs).2 := rfl
   have n4 : numN (hb 4 bs).1 (hb 4 bs).2 = hn 4 bs := rfl
   have l4 : numL (hb 4 bs).1 (hb 4 bs).2 = (hb 5 bs).1 := rfl
   have e4 : numE (hb 4 bs).1 (hb 4 bs).2 = (hb 5 bs).2 := rfl
   have n5 : numN (hb 5 bs).1 (hb 5 bs).2 = hn 5 bs := rfl
   have l5 : numL (hb 5 bs).1 (hb 5 bs).2 = (hb 6 bs).1 := rfl
   have e5 : numE (hb 5 bs).1 (hb 5 bs).2 = (hb 6 bs).2 := rfl
   obtain ⟨B,hB⟩ : ∃ B,hb 6 bs = B := ⟨_,rfl⟩
   simp only [hB] at q6 l5 e5
   have hget : bget bs = if 0 ≤ hn 5 bs ∧ hn 5 bs ≤ 32 then
       match readN (hn 5 bs).toNat B.1 B.2 with
       | some (rs,r,e) => if e = 0 ∧ r = [] ∧ bE ⟨hn 0 bs,hn 1 bs,hn 2 bs,hn 3 bs,hn 4 bs,rs⟩ = 0 ∧ bB ⟨hn 0 bs,hn 1 bs,hn 2 bs,hn 3 bs,hn 4 bs,rs⟩ = bs then some ⟨hn 0 bs,hn 1 bs,hn 2 bs,hn 3 bs,hn 4 bs,rs⟩ else none
       | none => none
     else none := by rw [← hB]; rfl
   generalize hn 0 bs = N0 at *
   generalize hn 1 bs = N1 at *
   generalize hn 2 bs = N2 at *
   generalize hn 3 bs = N3 at *
   generalize hn 4 bs = N4 at *
   generalize hn 5 bs = N5 at *
   by_cases h0 : N5 < 0
   · have d0 : decide (N5 < 0) = true := decide_eq_true h0
     have hg : bget bs = none := by rw [hget,if_neg (by omega)]
     have v1 : zdg bs = ⟨0,0,0,0,0,[]⟩ := by unfold zdg; rw [hg]; rfl
     have v2 : bgetE bs = 4 := by unfold bgetE; rw [hg]; rfl
     simp only [go_sem,zaa,Nat.reduceAdd,Nat.reduceSub,Nat.reduceMul,Int.reduceToNat,reduceCtorEq,↓reduceIte,Int.reducePow,Nat.reducePow,Int.reduceMod,Nat.reduceLeDiff,Int.reduceLE,Int.reduceNe,Int.reduceEq,Nat.reduceEqDiff,Nat.reduceLT,Nat.reduceBEq,ty,Sbget,newS,numS,rd,q0,q1,q2,q3,q4,q5,n0,n1,n2,n3,n4,n5,l0,l1,l2,l3,l4,l5,e0,e1,e2,e3,e4,e5,d0,v1,v2,bav,emp_nil,List.map_nil,fillS]
   · have d0 : decide (N5 < 0) = false := decide_eq_false h0
     by_cases h32 : 32 < N5
     · have d1 : decide (32 < N5) = true := decide_eq_true h32
       have hg : bget bs = none := by rw [hget,if_neg (by omega)]
       have v1 : zdg bs = ⟨0,0,0,0,0,[]⟩ := by unfold zdg; rw [hg]; rfl
       have v2 : bgetE bs = 4 := by unfold bgetE; rw [hg]; rfl
       simp only [go_sem,zaa,Nat.reduceAdd,Nat.reduceSub,Nat.reduceMul,Int.reduceToNat,reduceCtorEq,↓reduceIte,Int.reducePow,Nat.reducePow,Int.reduceMod,Nat.reduceLeDiff,Int.reduceLE,Int.reduceNe,Int.reduceEq,Nat.reduceEqDiff,Nat.reduceLT,Nat.reduceBEq,ty,Sbget,newS,numS,rd,q0,q1,q2,q3,q4,q5,n0,n1,n2,n3,n4,n5,l0,l1,l2,l3,l4,l5,e0,e1,e2,e3,e4,e5,d0,d1,v1,v2,bav,emp_nil,List.map_nil,fillS]
     · have d1 : decide (32 < N5) = false := decide_eq_false h32
       rw [if_pos (by omega)] at hget
       simp only [go_sem,zaa,Nat.reduceAdd,Nat.reduceSub,Nat.reduceMul,Int.reduceToNat,reduceCtorEq,↓reduceIte,Int.reducePow,Nat.reducePow,Int.reduceMod,Nat.reduceLeDiff,Int.reduceLE,Int.reduceNe,Int.reduceEq,Nat.reduceEqDiff,Nat.reduceLT,Nat.reduceBEq,ty,Sbget,newS,numS,rd,q0,q1,q2,q3,q4,q5,n0,n1,n2,n3,n4,n5,l0,l1,l2,l3,l4,l5,e0,e1,e2,e3,e4,e5,d0,d1]
       have closedZ := closed_rv
       have htop : top = 4294967296 := rfl
       refine zdu ⟨fun m σ => ∃ (i : Nat) (b : List UInt8) (e : Int) (qs : List Rec),m = N5.toNat - i ∧ (i : Int) ≤ N5 ∧ b.length ≤ 1000000 ∧ readN N5.toNat B.1 B.2 = (readN (N5.toNat - i) b e).map (fun x => (qs ++ x.1,x.2)) ∧ qs.length = i ∧
           ((i = 0 ∧ σ = ⟨[.sb bs f,.junk,.rf 4 6 0 0,.w (.int .i64 0),.rf 5 2 0 0,.rf 6 6 0 0,.junk,.junk,.junk,.junk,.junk,.junk,.junk,.junk,.junk,.junk,.junk,.junk,.junk,.junk,.junk,.junk,.junk,.junk,.junk,.junk,.junk,.junk,.junk,.junk,.junk,.junk,.junk,.w (.int .i64 N5),.w (.int .i64 0),.junk,.junk,.junk,.junk,.junk,.junk,.junk,.junk,.junk,.junk,.junk,.junk,.junk,.junk,.junk,.junk,.junk,.junk,.junk,.junk,.junk,.junk,.junk,.junk,.junk,.junk,.junk,.junk,.junk,.junk,.junk,.junk,.junk,.junk,.junk],[(5,.g 2 [.agg [.sb b false,.w (.int .i64 e)]]),(6,.g 6 [.agg [.w (.int .i64 N0),.w (.int .i64 N1),.w (.int .i64 N2),.w (.int .i64 N3),.w (.int .i64 N4),.sg 6 [] true]]),(4,.g 6 [.agg [.w (.int .i64 0),.w (.int .i64 0),.w (.int .i64 0),.w (.int .i64 0),.w (.int .i64 0),.sg 6 [] true]])],7⟩) ∨
            (0 < i ∧ σ = ⟨[.sb bs f,.junk,.rf 4 6 0 0,.w (.int .i64 0),.rf 5 2 0 0,.rf 6 6 0 0,.junk,.junk,.junk,.junk,.junk,.junk,.junk,.junk,.junk,.junk,.junk,.junk,.junk,.junk,.junk,.junk,.junk,.junk,.junk,.junk,.junk,.junk,.junk,.junk,.junk,.junk,.junk,.w (.int .i64 N5),.w (.int .i64 i),.junk,.junk,.junk,.junk,.junk,.junk,.junk,.junk,.junk,.junk,.junk,.junk,.junk,.ms 7 6 0 i,.junk,.junk,.junk,.junk,.junk,.junk,.junk,.junk,.junk,.junk,.junk,.junk,.junk,.junk,.junk,.junk,.junk,.junk,.junk,.junk,.junk],[(5,.g 2 [.agg [.sb b false,.w (.int .i64 e)]]),(6,.g 6 [.agg [.w (.int .i64 N0),.w (.int .i64 N1),.w (.int .i64 N2),.w (.int .i64 N3),.w (.int .i64 N4),.ms 7 6 0 i]]),(4,.g 6 [.agg [.w (.int .i64 0),.w (.int .i64 0),.w (.int .i64 0),.w (.int .i64 0),.w (.int .i64 0),.sg 6 [] true]]),(7,.g 6 (qs.map rv))],8⟩)),?_,?_⟩
       · refine ⟨_,_,zai [0,1,2,3,4,28,132] rfl rfl rfl ?_ ?_,0,B.1,B.2,[],rfl,by omega,q6,?_,rfl,.inl ⟨rfl,rfl⟩⟩
         · simp only [ssT,zao,zap,setSlot,gOf,AV.ren,renL,Blk.ren,Ax.look,Ax.put,reduceCtorEq,↓reduceIte,Nat.reduceEqDiff,Nat.reduceLT,Nat.reduceAdd,List.length_append,List.length_cons,List.length_nil,Option.some.injEq]
         · simp only [ssT,zao,zap,setSlot,gOf,AV.ren,renL,Blk.ren,Ax.look,Ax.put,reduceCtorEq,↓reduceIte,Nat.reduceEqDiff,Nat.reduceLT,Nat.reduceAdd,List.length_append,List.length_cons,List.length_nil,Option.some.injEq]
         · cases readN N5.toNat B.1 B.2 <;> simp
       · rintro m σ ⟨i,b,e,qs,rfl,hi,hlb,hinv,hql,hσ⟩
         rcases hσ with ⟨hi0,rfl⟩ | ⟨hi0,rfl⟩
         · obtain rfl : i = 0 := hi0
           obtain rfl : qs = [] := List.eq_nil_of_length_eq_zero hql
           by_cases hil : (0 : Int) < N5
           · have d2 : decide ((0 : Int) < N5) = true := decide_eq_true (by omega)
             have es : ((0 : Int) + 1 + 9223372036854775808) % 18446744073709551616 - 9223372036854775808 = 1 := by omega
             have hsuc : N5.toNat - 0 = (N5.toNat - (0 + 1)) + 1 := by omega
             have hl5 := gb5_length b e
             by_cases hg0 : gerr b e = 0
             · have d3 : decide (gerr b e = 0) = true := decide_eq_true hg0
               have hgr := grec_rv hg0
               have hR : readN N5.toNat B.1 B.2 = (readN (N5.toNat - (0 + 1)) (gb5 b e) (ge5 b e)).map (fun x => ((([] : List Rec) ++ [gR b e]) ++ x.1,x.2)) := by
                 rw [hinv,hsuc,readN_step hg0]
               obtain ⟨G,hG⟩ : ∃ G,gR b e = G := ⟨_,rfl⟩
               rw [hG] at hgr hR
               simp only [rv] at hgr
               simp only [go_sem,zaa,Nat.reduceAdd,Nat.reduceSub,Nat.reduceMul,Int.reduceToNat,reduceCtorEq,↓reduceIte,Int.reducePow,Nat.reducePow,Int.reduceMod,Nat.reduceLeDiff,Int.reduceLE,Int.reduceNe,Int.reduceEq,Nat.reduceEqDiff,Nat.reduceLT,Nat.reduceBEq,ty,Sbget,newS,numS,rgetS,zbq,zdd,beqS,rd,d2,hlb,hgr,hg0,es]
               repeat (refine And.intro (by first | omega | (intro h; cases h)) ?_)
               refine ⟨N5.toNat - (0 + 1),_,by omega,zai [0,1,2,3,4,5,6,127] rfl rfl rfl ?_ ?_,0 + 1,gb5 b e,ge5 b e,([] : List Rec) ++ [G],rfl,by omega,by omega,hR,by simp [hql],.inr ⟨by omega,rfl⟩⟩
               · simp only [ssT,zao,zap,setSlot,gOf,AV.ren,renL,Blk.ren,Ax.look,Ax.put,reduceCtorEq,↓reduceIte,Nat.reduceEqDiff,Nat.reduceLT,Nat.reduceAdd,List.length_append,List.length_cons,List.length_nil,Option.some.injEq]; try simp
               · simp only [ssT,zao,zap,setSlot,gOf,AV.ren,renL,Blk.ren,Ax.look,Ax.put,reduceCtorEq,↓reduceIte,Nat.reduceEqDiff,Nat.reduceLT,Nat.reduceAdd,List.length_append,List.length_cons,List.length_nil,Option.some.injEq]; rw [ren_rv]; simp [rv]
             · have d3 : decide (gerr b e = 0) = false := decide_eq_false hg0
               have hR : readN N5.toNat B.1 B.2 = none := by rw [hinv,hsuc]; rw [readN_succ,if_neg hg0]; rfl
               have hg : bget bs = none := by rw [hget,hR]
               have v1 : zdg bs = ⟨0,0,0,0,0,[]⟩ := by unfold zdg; rw [hg]; rfl
               have v2 : bgetE bs = 4 := by unfold bgetE; rw [hg]; rfl
               have hgr : grec b e = recV 0 0 false [] false [] := if_neg hg0
               simp only [go_sem,zaa,Nat.reduceAdd,Nat.reduceSub,Nat.reduceMul,Int.reduceToNat,reduceCtorEq,↓reduceIte,Int.reducePow,Nat.reducePow,Int.reduceMod,Nat.reduceLeDiff,Int.reduceLE,Int.reduceNe,Int.reduceEq,Nat.reduceEqDiff,Nat.reduceLT,Nat.reduceBEq,ty,Sbget,newS,numS,rgetS,zbq,zdd,beqS,rd,d2,hlb,hgr,recV,d3,v1,v2,bav,emp_nil,List.map_nil,fillS]
               refine ⟨_,Weak.refl _,?_⟩
               simp only [go_sem,zaa,Nat.reduceAdd,Nat.reduceSub,Nat.reduceMul,Int.reduceToNat,reduceCtorEq,↓reduceIte,Int.reducePow,Nat.reducePow,Int.reduceMod,Nat.reduceLeDiff,Int.reduceLE,Int.reduceNe,Int.reduceEq,Nat.reduceEqDiff,Nat.reduceLT,Nat.reduceBEq,ty,Sbget,newS,numS,rgetS,zbq,zdd,beqS,rd,v1,v2,bav,emp_nil,List.map_nil,fillS]
           · have d2 : decide ((0 : Int) < N5) = false := decide_eq_false (by omega)
             have hz : N5.toNat - 0 = 0 := by omega
             have hR : readN N5.toNat B.1 B.2 = some (([] : List Rec),b,e) := by rw [hinv,hz]; simp [readN]
             rw [hR] at hget
             simp only at hget
             have hmL : (([] : List AV)).length = 0 := by simp [hql]
             have hmL2 : (([] : List AV)).length ≤ 9223372036854775807 := by omega
             have hex : ∃ rs : List Rec,([] : List AV) = rs.map rv := ⟨([] : List Rec),rfl⟩
             have hrr : (([] : List AV)).map rrec = ([] : List Rec) := rfl
             have hcl : closedL (([] : List AV)) = true := rfl
             have hbE : batE N0 N1 N2 N3 N4 ([] : List Rec) = bE ⟨N0,N1,N2,N3,N4,([] : List Rec)⟩ := rfl
             have hbB : batB N0 N1 N2 N3 N4 ([] : List Rec) = bB ⟨N0,N1,N2,N3,N4,([] : List Rec)⟩ := rfl
             generalize hX : (⟨N0,N1,N2,N3,N4,([] : List Rec)⟩ : Bat) = X at *
             simp only [go_sem,zaa,Nat.reduceAdd,Nat.reduceSub,Nat.reduceMul,Int.reduceToNat,reduceCtorEq,↓reduceIte,Int.reducePow,Nat.reducePow,Int.reduceMod,Nat.reduceLeDiff,Int.reduceLE,Int.reduceNe,Int.reduceEq,Nat.reduceEqDiff,Nat.reduceLT,Nat.reduceBEq,ty,Sbget,newS,numS,rgetS,zbq,zdd,beqS,rd,d2,hmL]
             refine ⟨_,Weak.refl _,?_⟩
             by_cases hd : e = 0 ∧ b = []
             · obtain ⟨rfl,rfl⟩ := hd
               have hdn : (if (0 : Int) = 0 ∧ 0 < ([] : List UInt8).length then (4 : Int) else 0) = 0 := by simp
               by_cases hE : bE X = 0
               · by_cases hBq : bB X = bs
                 · have hg : bget bs = some X := by rw [hget,if_pos ⟨rfl,rfl,hE,hBq⟩]
                   have v1 : zdg bs = X := by unfold zdg; rw [hg]; rfl
                   have v2 : bgetE bs = 0 := by unfold bgetE; rw [hg]; rfl
                   have dq : decide (bB X = bs) = true := decide_eq_true hBq
                   rw [← hX] at v1
                   simp only [go_sem,zaa,Nat.reduceAdd,Nat.reduceSub,Nat.reduceMul,Int.reduceToNat,reduceCtorEq,↓reduceIte,Int.reducePow,Nat.reducePow,Int.reduceMod,Nat.reduceLeDiff,Int.reduceLE,Int.reduceNe,Int.reduceEq,Nat.reduceEqDiff,Nat.reduceLT,Nat.reduceBEq,ty,Sbget,newS,numS,rgetS,zbq,zdd,beqS,rd,hdn,hmL,hmL2,hex,hrr,hcl,hbE,hbB,hE,dq,v1,v2,bav,List.map_nil,emp_nil]
                 · have hg : bget bs = none := by rw [hget,if_neg (fun h => hBq h.2.2.2)]
                   have v1 : zdg bs = ⟨0,0,0,0,0,[]⟩ := by unfold zdg; rw [hg]; rfl
                   have v2 : bgetE bs = 4 := by unfold bgetE; rw [hg]; rfl
                   have dq : decide (bB X = bs) = false := decide_eq_false hBq
                   simp only [go_sem,zaa,Nat.reduceAdd,Nat.reduceSub,Nat.reduceMul,Int.reduceToNat,reduceCtorEq,↓reduceIte,Int.reducePow,Nat.reducePow,Int.reduceMod,Nat.reduceLeDiff,Int.reduceLE,Int.reduceNe,Int.reduceEq,Nat.reduceEqDiff,Nat.reduceLT,Nat.reduceBEq,ty,Sbget,newS,numS,rgetS,zbq,zdd,beqS,rd,hdn,hmL,hmL2,hex,hrr,hcl,hbE,hbB,hE,dq,v1,v2,bav,emp_nil,List.map_nil,fillS]
               · have hg : bget bs = none := by rw [hget,if_neg (fun h => hE h.2.2.1)]
                 have v1 : zdg bs = ⟨0,0,0,0,0,[]⟩ := by unfold zdg; rw [hg]; rfl
                 have v2 : bgetE bs = 4 := by unfold bgetE; rw [hg]; rfl
                 have dE : decide (bE X = 0) = false := decide_eq_false hE
                 simp only [go_sem,zaa,Nat.reduceAdd,Nat.reduceSub,Nat.reduceMul,Int.reduceToNat,reduceCtorEq,↓reduceIte,Int.reducePow,Nat.reducePow,Int.reduceMod,Nat.reduceLeDiff,Int.reduceLE,Int.reduceNe,Int.reduceEq,Nat.reduceEqDiff,Nat.reduceLT,Nat.reduceBEq,ty,Sbget,newS,numS,rgetS,zbq,zdd,beqS,rd,hdn,hmL,hmL2,hex,hrr,hcl,hbE,hbB,dE,v1,v2,bav,emp_nil,List.map_nil,fillS]
             · have hg : bget bs = none := by rw [hget,if_neg (fun h => hd ⟨h.1,h.2.1⟩)]
               have v1 : zdg bs = ⟨0,0,0,0,0,[]⟩ := by unfold zdg; rw [hg]; rfl
               have v2 : bgetE bs = 4 := by unfold bgetE; rw [hg]; rfl
               have hdn0 : (if e = 0 ∧ 0 < b.length then (4 : Int) else e) ≠ 0 := by
                 split
                 · decide
                 · rename_i h
                   intro he
                   exact hd ⟨he,List.eq_nil_of_length_eq_zero (by by_cases hbl : b.length = 0; exact hbl; exact (h ⟨he,by omega⟩).elim)⟩
               obtain ⟨D,hD⟩ : ∃ D,(if e = 0 ∧ 0 < b.length then (4 : Int) else e) = D := ⟨_,rfl⟩
               rw [hD] at hdn0
               have dD : decide (D = 0) = false := decide_eq_false hdn0
               simp only [go_sem,zaa,Nat.reduceAdd,Nat.reduceSub,Nat.reduceMul,Int.reduceToNat,reduceCtorEq,↓reduceIte,Int.reducePow,Nat.reducePow,Int.reduceMod,Nat.reduceLeDiff,Int.reduceLE,Int.reduceNe,Int.reduceEq,Nat.reduceEqDiff,Nat.reduceLT,Nat.reduceBEq,ty,Sbget,newS,numS,rgetS,zbq,zdd,beqS,rd,hD,dD,v1,v2,bav,emp_nil,List.map_nil,fillS]
         · have hml : (qs.map rv).length = i := by simp [hql]
           have hdle : decide (0 + i ≤ (qs.map rv).length) = true := decide_eq_true (by omega)
           have htk : (qs.map rv).take i = qs.map rv := List.take_of_length_le (by omega)
           have hie : emp qs = false := by cases qs with | nil => simp at hql; omega | cons _ _ => rfl
           have hi2 : i ≤ 32 := by omega
           have hi3 : i ≤ 9223372036854775807 := by omega
           by_cases hil : (i : Int) < N5
           · have d2 : decide ((i : Int) < N5) = true := decide_eq_true (by omega)
             have es : ((i : Int) + 1 + 9223372036854775808) % 18446744073709551616 - 9223372036854775808 = ((i + 1 : Nat) : Int) := by omega
             have hsuc : N5.toNat - i = (N5.toNat - (i + 1)) + 1 := by omega
             have hl5 := gb5_length b e
             by_cases hg0 : gerr b e = 0
             · have d3 : decide (gerr b e = 0) = true := decide_eq_true hg0
               have hgr := grec_rv hg0
               have hR : readN N5.toNat B.1 B.2 = (readN (N5.toNat - (i + 1)) (gb5 b e) (ge5 b e)).map (fun x => ((qs ++ [gR b e]) ++ x.1,x.2)) := by
                 rw [hinv,hsuc,readN_step hg0]
               obtain ⟨G,hG⟩ : ∃ G,gR b e = G := ⟨_,rfl⟩
               rw [hG] at hgr hR
               simp only [rv] at hgr
               simp only [go_sem,zaa,Nat.reduceAdd,Nat.reduceSub,Nat.reduceMul,Int.reduceToNat,reduceCtorEq,↓reduceIte,Int.reducePow,Nat.reducePow,Int.reduceMod,Nat.reduceLeDiff,Int.reduceLE,Int.reduceNe,Int.reduceEq,Nat.reduceEqDiff,Nat.reduceLT,Nat.reduceBEq,ty,Sbget,newS,numS,rgetS,zbq,zdd,beqS,rd,d2,hlb,hgr,hg0,es,hql,hml]
               repeat (refine And.intro (by first | omega | (intro h; cases h)) ?_)
               refine ⟨N5.toNat - (i + 1),_,by omega,zai [0,1,2,3,4,5,6,128] rfl rfl rfl ?_ ?_,i + 1,gb5 b e,ge5 b e,qs ++ [G],rfl,by omega,by omega,hR,by simp [hql],.inr ⟨by omega,rfl⟩⟩
               · simp only [ssT,zao,zap,setSlot,gOf,AV.ren,renL,Blk.ren,Ax.look,Ax.put,reduceCtorEq,↓reduceIte,Nat.reduceEqDiff,Nat.reduceLT,Nat.reduceAdd,List.length_append,List.length_cons,List.length_nil,Option.some.injEq]; try simp
               · simp only [ssT,zao,zap,setSlot,gOf,AV.ren,renL,Blk.ren,Ax.look,Ax.put,reduceCtorEq,↓reduceIte,Nat.reduceEqDiff,Nat.reduceLT,Nat.reduceAdd,List.length_append,List.length_cons,List.length_nil,Option.some.injEq]; rw [ren_rv]; simp [rv]
             · have d3 : decide (gerr b e = 0) = false := decide_eq_false hg0
               have hR : readN N5.toNat B.1 B.2 = none := by rw [hinv,hsuc]; rw [readN_succ,if_neg hg0]; rfl
               have hg : bget bs = none := by rw [hget,hR]
               have v1 : zdg bs = ⟨0,0,0,0,0,[]⟩ := by unfold zdg; rw [hg]; rfl
               have v2 : bgetE bs = 4 := by unfold bgetE; rw [hg]; rfl
               have hgr : grec b e = recV 0 0 false [] false [] := if_neg hg0
               simp only [go_sem,zaa,Nat.reduceAdd,Nat.reduceSub,Nat.reduceMul,Int.reduceToNat,reduceCtorEq,↓reduceIte,Int.reducePow,Nat.reducePow,Int.reduceMod,Nat.reduceLeDiff,Int.reduceLE,Int.reduceNe,Int.reduceEq,Nat.reduceEqDiff,Nat.reduceLT,Nat.reduceBEq,ty,Sbget,newS,numS,rgetS,zbq,zdd,beqS,rd,d2,hlb,hgr,recV,d3,v1,v2,bav,emp_nil,List.map_nil,fillS]
               refine ⟨_,Weak.refl _,?_⟩
               simp only [go_sem,zaa,Nat.reduceAdd,Nat.reduceSub,Nat.reduceMul,Int.reduceToNat,reduceCtorEq,↓reduceIte,Int.reducePow,Nat.reducePow,Int.reduceMod,Nat.reduceLeDiff,Int.reduceLE,Int.reduceNe,Int.reduceEq,Nat.reduceEqDiff,Nat.reduceLT,Nat.reduceBEq,ty,Sbget,newS,numS,rgetS,zbq,zdd,beqS,rd,v1,v2,bav,emp_nil,List.map_nil,fillS]
           · have d2 : decide ((i : Int) < N5) = false := decide_eq_false (by omega)
             have hz : N5.toNat - i = 0 := by omega
             have hR : readN N5.toNat B.1 B.2 = some (qs,b,e) := by rw [hinv,hz]; simp [readN]
             rw [hR] at hget
             simp only at hget
             have hmL : (qs.map rv).length = i := by simp [hql]
             have hmL2 : (qs.map rv).length ≤ 9223372036854775807 := by omega
             have hex : ∃ rs : List Rec,qs.map rv = rs.map rv := ⟨qs,rfl⟩
             have hrr : (qs.map rv).map rrec = qs := zag qs
             have hcl : closedL (qs.map rv) = true := closed_rv qs
             have hbE : batE N0 N1 N2 N3 N4 qs = bE ⟨N0,N1,N2,N3,N4,qs⟩ := rfl
             have hbB : batB N0 N1 N2 N3 N4 qs = bB ⟨N0,N1,N2,N3,N4,qs⟩ := rfl
             generalize hX : (⟨N0,N1,N2,N3,N4,qs⟩ : Bat) = X at *
             simp only [go_sem,zaa,Nat.reduceAdd,Nat.reduceSub,Nat.reduceMul,Int.reduceToNat,reduceCtorEq,↓reduceIte,Int.reducePow,Nat.reducePow,Int.reduceMod,Nat.reduceLeDiff,Int.reduceLE,Int.reduceNe,Int.reduceEq,Nat.reduceEqDiff,Nat.reduceLT,Nat.reduceBEq,ty,Sbget,newS,numS,rgetS,zbq,zdd,beqS,rd,d2,hmL,hql]
             refine ⟨_,weak_fg 7 6 48 (qs.map rv) rfl (closed_rv qs) (by simp [slot,AV.ids]),?_⟩
             simp only [fgL,fgH,AV.fg,Blk.fg,Nat.reduceBEq,cond_true,cond_false,hdle,Bool.and_true,beq_self_eq_true,Bool.true_and,List.drop_zero,htk]
             by_cases hd : e = 0 ∧ b = []
             · obtain ⟨rfl,rfl⟩ := hd
               have hdn : (if (0 : Int) = 0 ∧ 0 < ([] : List UInt8).length then (4 : Int) else 0) = 0 := by simp
               by_cases hE : bE X = 0
               · by_cases hBq : bB X = bs
                 · have hg : bget bs = some X := by rw [hget,if_pos ⟨rfl,rfl,hE,hBq⟩]
                   have v1 : zdg bs = X := by unfold zdg; rw [hg]; rfl
                   have v2 : bgetE bs = 0 := by unfold bgetE; rw [hg]; rfl
                   have dq : decide (bB X = bs) = true := decide_eq_true hBq
                   rw [← hX] at v1
                   simp only [go_sem,zaa,Nat.reduceAdd,Nat.reduceSub,Nat.reduceMul,Int.reduceToNat,reduceCtorEq,↓reduceIte,Int.reducePow,Nat.reducePow,Int.reduceMod,Nat.reduceLeDiff,Int.reduceLE,Int.reduceNe,Int.reduceEq,Nat.reduceEqDiff,Nat.reduceLT,Nat.reduceBEq,ty,Sbget,newS,numS,rgetS,zbq,zdd,beqS,rd,hdn,hmL,hmL2,hex,hrr,hcl,hbE,hbB,hE,dq,v1,v2,bav,List.map_nil,hie,hi3]
                 · have hg : bget bs = none := by rw [hget,if_neg (fun h => hBq h.2.2.2)]
                   have v1 : zdg bs = ⟨0,0,0,0,0,[]⟩ := by unfold zdg; rw [hg]; rfl
                   have v2 : bgetE bs = 4 := by unfold bgetE; rw [hg]; rfl
                   have dq : decide (bB X = bs) = false := decide_eq_false hBq
                   simp only [go_sem,zaa,Nat.reduceAdd,Nat.reduceSub,Nat.reduceMul,Int.reduceToNat,reduceCtorEq,↓reduceIte,Int.reducePow,Nat.reducePow,Int.reduceMod,Nat.reduceLeDiff,Int.reduceLE,Int.reduceNe,Int.reduceEq,Nat.reduceEqDiff,Nat.reduceLT,Nat.reduceBEq,ty,Sbget,newS,numS,rgetS,zbq,zdd,beqS,rd,hdn,hmL,hmL2,hi3,hex,hrr,hcl,hbE,hbB,hE,dq,v1,v2,bav,emp_nil,List.map_nil,fillS]
               · have hg : bget bs = none := by rw [hget,if_neg (fun h => hE h.2.2.1)]
                 have v1 : zdg bs = ⟨0,0,0,0,0,[]⟩ := by unfold zdg; rw [hg]; rfl
                 have v2 : bgetE bs = 4 := by unfold bgetE; rw [hg]; rfl
                 have dE : decide (bE X = 0) = false := decide_eq_false hE
                 simp only [go_sem,zaa,Nat.reduceAdd,Nat.reduceSub,Nat.reduceMul,Int.reduceToNat,reduceCtorEq,↓reduceIte,Int.reducePow,Nat.reducePow,Int.reduceMod,Nat.reduceLeDiff,Int.reduceLE,Int.reduceNe,Int.reduceEq,Nat.reduceEqDiff,Nat.reduceLT,Nat.reduceBEq,ty,Sbget,newS,numS,rgetS,zbq,zdd,beqS,rd,hdn,hmL,hmL2,hi3,hex,hrr,hcl,hbE,hbB,dE,v1,v2,bav,emp_nil,List.map_nil,fillS]
             · have hg : bget bs = none := by rw [hget,if_neg (fun h => hd ⟨h.1,h.2.1⟩)]
               have v1 : zdg bs = ⟨0,0,0,0,0,[]⟩ := by unfold zdg; rw [hg]; rfl
               have v2 : bgetE bs = 4 := by unfold bgetE; rw [hg]; rfl
               have hdn0 : (if e = 0 ∧ 0 < b.length then (4 : Int) else e) ≠ 0 := by
                 split
                 · decide
                 · rename_i h
                   intro he
                   exact hd ⟨he,List.eq_nil_of_length_eq_zero (by by_cases hbl : b.length = 0; exact hbl; exact (h ⟨he,by omega⟩).elim)⟩
               obtain ⟨D,hD⟩ : ∃ D,(if e = 0 ∧ 0 < b.length then (4 : Int) else e) = D := ⟨_,rfl⟩
               rw [hD] at hdn0
               have dD : decide (D = 0) = false := decide_eq_false hdn0
               simp only [go_sem,zaa,Nat.reduceAdd,Nat.reduceSub,Nat.reduceMul,Int.reduceToNat,reduceCtorEq,↓reduceIte,Int.reducePow,Nat.reducePow,Int.reduceMod,Nat.reduceLeDiff,Int.reduceLE,Int.reduceNe,Int.reduceEq,Nat.reduceEqDiff,Nat.reduceLT,Nat.reduceBEq,ty,Sbget,newS,numS,rgetS,zbq,zdd,beqS,rd,hD,dD,v1,v2,bav,emp_nil,List.map_nil,fillS]
 · exact hp.elim
end
end Go.Proofs.Ytmedjkjoannbmaa
namespace Go.Proofs.Ytmedjkjoannbmaa
namespace Ax
theorem aopsF_mono {S : zaw} {T : zah} {ops : List Oper} {pl : List (Nat × Nat)} {Q Q' : List AV → Heap → Prop} (hq : ∀ sl H,Q sl H → Q' sl H) : ∀ (l : List Oper) (nm : Nat) (acc : List (Nat × List Nat)) (sl : List AV) (H : Heap),aopsF S T ops pl nm acc l sl H Q → aopsF S T ops pl nm acc l sl H Q'
 | [],nm,acc,sl,H,h => ⟨h.1,hq sl H h.2⟩
 | o :: r,nm,acc,sl,H,h => by
   unfold aopsF at h ⊢
   cases hg : o.guard with
   | none => simp only [hg] at h ⊢; exact ⟨h.1,aopsF_mono hq r _ _ _ _ h.2⟩
   | some g =>
     obtain ⟨j,want⟩ := g
     simp only [hg] at h ⊢
     cases hs : guardSlot ops j with
     | none => simp [hs] at h
     | some d =>
       simp only [hs] at h ⊢
       split at h
       · exact ⟨fun e => ⟨(h.1 e).1,aopsF_mono hq r _ _ _ _ (h.1 e).2⟩,fun e => aopsF_mono hq r _ _ _ _ (h.2 e)⟩
       · exact aopsF_mono hq r _ _ _ _ h
       · exact h.elim
theorem aopsO_mono {S SO : zaw} {T : zah} {ops : List Oper} {Q Q' : List AV → Heap → Prop} (hq : ∀ sl H,Q sl H → Q' sl H) : ∀ (k nm : Nat) (l : List Oper) (sl : List AV) (H : Heap),aopsO S SO T ops k nm l sl H Q → aopsO S SO T ops k nm l sl H Q'
 | k,nm,[],sl,H,h => by unfold aopsO at h ⊢; exact hq _ _ h
 | 0,nm,o :: r,sl,H,h => by unfold aopsO at h ⊢; exact ⟨h.1,h.2.1,zfn hq _ _ _ _ h.2.2⟩
 | k + 1,nm,o :: r,sl,H,h => by unfold aopsO at h ⊢; exact ⟨h.1,h.2.1,aopsO_mono hq k _ r _ _ h.2.2⟩
theorem specOp_mono {T : zah} {sl : List AV} {op : Op} {K K' : AV → Prop} (hk : ∀ x,K x → K' x) (h : specOp T sl op K) : specOp T sl op K' := by
 unfold specOp at h ⊢
 repeat' split at h
 all_goals first
   | exact h.elim
   | simp_all
theorem aopsT_mono {S : zaw} {T : zah} {ops : List Oper} {Q Q' : List AV → Heap → Prop} (hq : ∀ sl H,Q sl H → Q' sl H) : ∀ (k : List Bool) (nm : Nat) (l : List Oper) (sl : List AV) (H : Heap),aopsT S T ops k nm l sl H Q → aopsT S T ops k nm l sl H Q'
 | k,nm,[],sl,H,h => by unfold aopsT at h ⊢; exact hq _ _ h
 | [],nm,o :: r,sl,H,h => by unfold aopsT at h ⊢; exact zfn hq _ _ _ _ h
 | true :: k,nm,o :: r,sl,H,h => by unfold aopsT at h ⊢; exact ⟨h.1,specOp_mono (fun x hx => aopsT_mono hq k _ r _ _ hx) h.2⟩
 | false :: k,nm,o :: r,sl,H,h => by unfold aopsT at h ⊢; exact ⟨h.1,h.2.1,aopsT_mono hq k _ r _ _ h.2.2⟩
theorem frzK_mono {l : List Nat} {sl : List AV} {H : Heap} {K K' : List AV → Heap → Prop} (hk : ∀ sl H,K sl H → K' sl H) (h : frzK l sl H K) : frzK l sl H K' := ⟨h.1,hk _ _ h.2⟩
theorem awpO_mono {S SO : zaw} {T : zah} {pl : XPlan} : ∀ (c : Code) (Q Q' : Exit → ASt → Prop) (σ : ASt),(∀ e σ,Q e σ → Q' e σ) → awpO S SO T pl c Q σ → awpO S SO T pl c Q' σ := by
 intro c
 induction c with
 | skip => intro Q Q' σ hq h; exact hq _ _ h
 | label l => intro Q Q' σ hq h; exact hq _ _ h
 | region id ops draw =>
   intro Q Q' σ hq h
   simp only [awpO] at h ⊢
   split at h
   · exact zfn (fun _ _ h => hq _ _ h) _ _ _ _ h
   · exact aopsF_mono (fun _ _ h => hq _ _ h) _ _ _ _ _ h
   · exact frzK_mono (fun _ _ h => zfn (fun _ _ h => hq _ _ h) _ _ _ _ h) h
   · exact frzK_mono (fun _ _ h => aopsO_mono (fun _ _ h => hq _ _ h) _ _ _ _ _ h) h
   · exact aopsT_mono (fun _ _ h => hq _ _ h) _ _ _ _ _ h
 | seq a b iha ihb =>
   intro Q Q' σ hq h
   refine iha _ _ σ ?_ h
   intro e σ h
   cases e with
   | normal => exact ihb _ _ σ hq h
   | _ => exact hq _ _ h
 | cond c a b iha ihb =>
   intro Q Q' σ hq h
   simp only [awpO] at h ⊢
   split at h
   · exact ⟨fun e => iha _ _ σ hq (h.1 e),fun e => ihb _ _ σ hq (h.2 e)⟩
   · exact h.elim
 | block id c ih =>
   intro Q Q' σ hq h
   refine ih _ _ σ ?_ h
   intro e σ h
   cases e with
   | exit id' =>
     simp only [blockK] at h ⊢
     split at h
     · rename_i he; rw [if_pos he]; exact hq _ _ h
     · rename_i he; rw [if_neg he]; exact hq _ _ h
   | _ => exact hq _ _ h
 | loop c ih =>
   intro Q Q' σ hq h
   obtain ⟨I,hst,hr⟩ := h
   refine ⟨I,hst,fun n σ' hI => ih _ _ σ' ?_ (hr n σ' hI)⟩
   intro e σ h
   cases e with
   | normal => exact h
   | _ =>
     obtain ⟨σ2,hw,h⟩ := h
     exact ⟨σ2,hw,hq _ _ h⟩
 | exit id => intro Q Q' σ hq h; exact hq _ _ h
 | ret => intro Q Q' σ hq h; exact hq _ _ h
 | _ => intro Q Q' σ hq h; exact h.elim
def unK (A : ASt → Prop) (Q : Exit → ASt → Prop) (e : Exit) (σ : ASt) : Prop := match e with
 | .normal => A σ
 | e => Q e σ
def unr (f : (Exit → ASt → Prop) → ASt → Prop) (Q : Exit → ASt → Prop) : Nat → ASt → Prop
 | 0,_ => False
 | n + 1,σ => f (unK (unr f Q n) Q) σ
theorem aloop_unr {f : (Exit → ASt → Prop) → ASt → Prop} {Q : Exit → ASt → Prop} (mono : ∀ (Q Q' : Exit → ASt → Prop) (σ : ASt),(∀ e σ,Q e σ → Q' e σ) → f Q σ → f Q' σ) (n : Nat) (σ : ASt) (h : unr f Q n σ) : ALoop f Q σ := by
 refine ⟨fun k τ => unr f Q k τ,⟨n,σ,Weak.refl _,h⟩,?_⟩
 intro k τ hI
 cases k with
 | zero => exact hI.elim
 | succ k =>
   refine mono _ _ τ ?_ hI
   intro e σ1 h1
   cases e with
   | normal => exact ⟨k,σ1,Nat.lt_succ_self k,Weak.refl _,h1⟩
   | _ => exact ⟨σ1,Weak.refl _,h1⟩
theorem zbl {S : zaw} {T : zah} {c : Code} {Q : Exit → ASt → Prop} {σ : ASt} (n : Nat) (h : unr (awp S T c) Q n σ) : awp S T (.loop c) Q σ :=
 zdu (aloop_unr (fun Q Q' σ hq h => rawp_mono _ Q Q' σ hq h) n σ h)
theorem zcf {S SO : zaw} {T : zah} {pl : XPlan} {c : Code} {Q : Exit → ASt → Prop} {σ : ASt} (n : Nat) (h : unr (awpO S SO T pl c) Q n σ) : awpO S SO T pl (.loop c) Q σ :=
 awpO_loopW (aloop_unr (fun Q Q' σ hq h => awpO_mono _ Q Q' σ hq h) n σ h)
theorem zcg {S : zaw} {T : zah} {c : Code} {Q : Exit → ASt → Prop} {σ : ASt} {n : Nat} : unr (awp S T c) Q (n + 1) σ = awp S T c (unK (unr (awp S T c) Q n) Q) σ := rfl
theorem zcw {S SO : zaw} {T : zah} {pl : XPlan} {c : Code} {Q : Exit → ASt → Prop} {σ : ASt} {n : Nat} : unr (awpO S SO T pl c) Q (n + 1) σ = awpO S SO T pl c (unK (unr (awpO S SO T pl c) Q n) Q) σ := rfl
theorem zaf {A : ASt → Prop} {Q : Exit → ASt → Prop} {σ : ASt} : unK A Q .normal σ = A σ := rfl
theorem zal {A : ASt → Prop} {Q : Exit → ASt → Prop} {σ : ASt} {id : Nat} : unK A Q (.exit id) σ = Q (.exit id) σ := rfl
theorem zar {A : ASt → Prop} {Q : Exit → ASt → Prop} {σ : ASt} : unK A Q .ret σ = Q .ret σ := rfl
end Ax
end Go.Proofs.Ytmedjkjoannbmaa
namespace Go.Proofs.Ytmedjkjoannbmaa
open Ax
structure Rq where
 k : Int
 t : List UInt8
 i : Int
 p : Int
 c : Bool
 f : Bool
 o : Int
 m : Int
 w : Int
 g : List UInt8
 mb : List UInt8
 n : Int
 b : Bat
def rqA (q : Rq) (fl : Bool) : AV := .agg [.w (.int .u8 q.k),.str q.t,.w (.int .i64 q.i),.w (.int .i64 q.p),.w (.bool q.c),.w (.bool q.f),.w (.int .i64 q.o),.w (.int .i64 q.m),.w (.int .i64 q.w),.str q.g,.str q.mb,.w (.int .i64 q.n),
 .w (.int .i64 q.b.b),.w (.int .i64 q.b.c),.w (.int .i64 q.b.p),.w (.int .i64 q.b.e),.w (.int .i64 q.b.s),.sg 6 (q.b.rs.map rv) fl]
def zB : Bat := ⟨0,0,0,0,0,[]⟩
def zat (k : Int) : List UInt8 :=
 if k = 0 then [116,112,99]
 else if k = 1 then [116]
 else if k = 2 then [116]
 else if k = 3 then [116,105,102,98]
 else if k = 4 then [116,105,111,109]
 else if k = 5 then [116,105,119]
 else if k = 6 then [103,107]
 else if k = 7 then [116,103,107,110]
 else if k = 8 then [103,107,110]
 else if k = 9 then [103,107]
 else if k = 10 then [116,105,111,103,107,110]
 else if k = 11 then [116,105,103]
 else []
def zbh : zaq
 | [.w (.int .u8 k)],[] => ⟨True,.str (zat k),[]⟩
 | _,_ => zbv
theorem knd_cases (k : Int) : (k ≠ 0 ∧ k ≠ 1 ∧ k ≠ 2 ∧ k ≠ 3 ∧ k ≠ 4 ∧ k ≠ 5 ∧ k ≠ 6 ∧ k ≠ 7 ∧ k ≠ 8 ∧ k ≠ 9 ∧ k ≠ 10 ∧ k ≠ 11) ∨ k = 0 ∨ k = 1 ∨ k = 2 ∨ k = 3 ∨ k = 4 ∨ k = 5 ∨ k = 6 ∨ k = 7 ∨ k = 8 ∨ k = 9 ∨ k = 10 ∨ k = 11 := by omega
theorem knd_le (k : Int) (h : 0 ≤ k ∧ k ≤ 11) : k = 0 ∨ k = 1 ∨ k = 2 ∨ k = 3 ∨ k = 4 ∨ k = 5 ∨ k = 6 ∨ k = 7 ∨ k = 8 ∨ k = 9 ∨ k = 10 ∨ k = 11 := by omega
def zem (c : Int) : Nat := if c = 116 then 1 else if c = 103 then 9 else if c = 107 then 10 else 0
def yesF (c : Int) : Nat := if c = 99 then 4 else if c = 102 then 5 else 0
def zec (c : Int) : Nat := if c = 105 then 2 else if c = 112 then 3 else if c = 111 then 6 else if c = 109 then 7 else if c = 119 then 8 else if c = 110 then 11 else 0
def zdi (n : Nat) : AV := if n = 0 then .w (.pointer none) else .rf 0 18 0 n
def zfp : zaq
 | [.rf 0 18 0 0,.w (.int .i32 c)],[.g 18 [x]] => ⟨x.closed = true,zdi (zem c),[.g 18 [x]]⟩
 | _,_ => zbv
def yesO : zaq
 | [.rf 0 18 0 0,.w (.int .i32 c)],[.g 18 [x]] => ⟨x.closed = true,zdi (yesF c),[.g 18 [x]]⟩
 | _,_ => zbv
def zfq : zaq
 | [.rf 0 18 0 0,.w (.int .i32 c)],[.g 18 [x]] => ⟨x.closed = true,zdi (zec c),[.g 18 [x]]⟩
 | _,_ => zbv
section
set_option maxRecDepth 100000
set_option maxHeartbeats 4000000 in
theorem uses22_sound : zbf Try.prog 14 zbh := by
 refine zau (S := noS) (T := ty) zbj ty_ok zcy Try.func14 (c := Try.f14.body.getD .skip) (by kernel_rfl) (by kernel_rfl) (fun xs pins hp _ => ?_)
 unfold zbh at hp ⊢
 split at hp
 · rename_i k _
   refine ⟨by simp,?_⟩
   unfold Try.f14
   rcases knd_cases k with ⟨h0,h1,h2,h3,h4,h5,h6,h7,h8,h9,h10,h11⟩ | rfl | rfl | rfl | rfl | rfl | rfl | rfl | rfl | rfl | rfl | rfl | rfl
   · have hu : zat k = [] := by unfold zat; simp only [h0,h1,h2,h3,h4,h5,h6,h7,h8,h9,h10,h11,if_false]
     have d0 := decide_eq_false h0
     have d1 := decide_eq_false h1
     have d2 := decide_eq_false h2
     have d3 := decide_eq_false h3
     have d4 := decide_eq_false h4
     have d5 := decide_eq_false h5
     have d6 := decide_eq_false h6
     have d7 := decide_eq_false h7
     have d8 := decide_eq_false h8
     have d9 := decide_eq_false h9
     have d10 := decide_eq_false h10
     have d11 := decide_eq_false h11
     simp only [go_sem,coe,zaa,Nat.reduceAdd,Nat.reduceSub,Nat.reduceMul,Int.reduceToNat,reduceCtorEq,↓reduceIte,Int.reducePow,Nat.reducePow,Int.reduceMod,Nat.reduceLeDiff,Int.reduceLE,Int.reduceNe,Int.reduceEq,Nat.reduceEqDiff,Nat.reduceLT,Nat.reduceBEq,ty,noS,hu,d0,d1,d2,d3,d4,d5,d6,d7,d8,d9,d10,d11]
   all_goals simp only [go_sem,coe,zaa,Nat.reduceAdd,Nat.reduceSub,Nat.reduceMul,Int.reduceToNat,reduceCtorEq,↓reduceIte,Int.reducePow,Nat.reducePow,Int.reduceMod,Nat.reduceLeDiff,Int.reduceLE,Int.reduceNe,Int.reduceEq,Nat.reduceEqDiff,Nat.reduceLT,Nat.reduceBEq,ty,noS,zat,Int.reduceEq,decide_true,decide_false,if_true,if_false]
 · exact hp.elim
set_option maxHeartbeats 4000000 in
theorem text22_sound : SoundO Try.prog 62 zfp := by
 refine fn_soundO (S := noS) (SO := noO) (T := ty) zbj ty_ok zcy noO_ok Try.func62 (c := Try.f62.body.getD .skip) (by kernel_rfl) (fun xs pins hp => ?_)
 unfold zfp at hp ⊢
 split at hp
 · rename_i c x
   have hx : x.closed = true := hp
   refine ⟨by simp,fun _ => .std,by kernel_rfl,?_⟩
   unfold Try.f62
   by_cases h116 : c = 116
   · subst h116
     simp only [go_sem,coe,zab,Nat.reduceAdd,Nat.reduceSub,Nat.reduceMul,Int.reduceToNat,reduceCtorEq,↓reduceIte,Int.reducePow,Nat.reducePow,Int.reduceMod,Nat.reduceLeDiff,Int.reduceLE,Int.reduceNe,Int.reduceEq,Nat.reduceEqDiff,Nat.reduceLT,Nat.reduceBEq,List.map_cons,List.map_nil,List.toList_toArray,Array.toList_append,Option.toArray_some,Option.toArray_none,Bool.and_self,ty,noS,zem,zdi,Int.reduceEq,Nat.reduceEqDiff,decide_true,decide_false,if_true,if_false]
     refine ⟨_,Weak.refl _,?_⟩
     simp only [go_sem,coe,zab,Nat.reduceAdd,Nat.reduceSub,Nat.reduceMul,Int.reduceToNat,reduceCtorEq,↓reduceIte,Int.reducePow,Nat.reducePow,Int.reduceMod,Nat.reduceLeDiff,Int.reduceLE,Int.reduceNe,Int.reduceEq,Nat.reduceEqDiff,Nat.reduceLT,Nat.reduceBEq,List.map_cons,List.map_nil,List.toList_toArray,Array.toList_append,Option.toArray_some,Option.toArray_none,Bool.and_self,ty,noS,hx]
   have d116 := decide_eq_false h116
   by_cases h103 : c = 103
   · subst h103
     simp only [go_sem,coe,zab,Nat.reduceAdd,Nat.reduceSub,Nat.reduceMul,Int.reduceToNat,reduceCtorEq,↓reduceIte,Int.reducePow,Nat.reducePow,Int.reduceMod,Nat.reduceLeDiff,Int.reduceLE,Int.reduceNe,Int.reduceEq,Nat.reduceEqDiff,Nat.reduceLT,Nat.reduceBEq,List.map_cons,List.map_nil,List.toList_toArray,Array.toList_append,Option.toArray_some,Option.toArray_none,Bool.and_self,ty,noS,zem,zdi,Int.reduceEq,Nat.reduceEqDiff,decide_true,decide_false,if_true,if_false]
     refine ⟨_,Weak.refl _,?_⟩
     simp only [go_sem,coe,zab,Nat.reduceAdd,Nat.reduceSub,Nat.reduceMul,Int.reduceToNat,reduceCtorEq,↓reduceIte,Int.reducePow,Nat.reducePow,Int.reduceMod,Nat.reduceLeDiff,Int.reduceLE,Int.reduceNe,Int.reduceEq,Nat.reduceEqDiff,Nat.reduceLT,Nat.reduceBEq,List.map_cons,List.map_nil,List.toList_toArray,Array.toList_append,Option.toArray_some,Option.toArray_none,Bool.and_self,ty,noS,hx]
   have d103 := decide_eq_false h103
   by_cases h107 : c = 107
   · subst h107
     simp only [go_sem,coe,zab,Nat.reduceAdd,Nat.reduceSub,Nat.reduceMul,Int.reduceToNat,reduceCtorEq,↓reduceIte,Int.reducePow,Nat.reducePow,Int.reduceMod,Nat.reduceLeDiff,Int.reduceLE,Int.reduceNe,Int.reduceEq,Nat.reduceEqDiff,Nat.reduceLT,Nat.reduceBEq,List.map_cons,List.map_nil,List.toList_toArray,Array.toList_append,Option.toArray_some,Option.toArray_none,Bool.and_self,ty,noS,zem,zdi,Int.reduceEq,Nat.reduceEqDiff,decide_true,decide_false,if_true,if_false]
     refine ⟨_,Weak.refl _,?_⟩
     simp only [go_sem,coe,zab,Nat.reduceAdd,Nat.reduceSub,Nat.reduceMul,Int.reduceToNat,reduceCtorEq,↓reduceIte,Int.reducePow,Nat.reducePow,Int.reduceMod,Nat.reduceLeDiff,Int.reduceLE,Int.reduceNe,Int.reduceEq,Nat.reduceEqDiff,Nat.reduceLT,Nat.reduceBEq,List.map_cons,List.map_nil,List.toList_toArray,Array.toList_append,Option.toArray_some,Option.toArray_none,Bool.and_self,ty,noS,hx]
   have d107 := decide_eq_false h107
   have hv : zdi (zem c) = .w (.pointer none) := by unfold zem; simp only [h116,h103,h107,if_false]; rfl
   simp only [go_sem,coe,zab,Nat.reduceAdd,Nat.reduceSub,Nat.reduceMul,Int.reduceToNat,reduceCtorEq,↓reduceIte,Int.reducePow,Nat.reducePow,Int.reduceMod,Nat.reduceLeDiff,Int.reduceLE,Int.reduceNe,Int.reduceEq,Nat.reduceEqDiff,Nat.reduceLT,Nat.reduceBEq,List.map_cons,List.map_nil,List.toList_toArray,Array.toList_append,Option.toArray_some,Option.toArray_none,Bool.and_self,ty,noS,hv,d116,d103,d107]
   refine ⟨_,Weak.refl _,?_⟩
   simp only [go_sem,coe,zab,Nat.reduceAdd,Nat.reduceSub,Nat.reduceMul,Int.reduceToNat,reduceCtorEq,↓reduceIte,Int.reducePow,Nat.reducePow,Int.reduceMod,Nat.reduceLeDiff,Int.reduceLE,Int.reduceNe,Int.reduceEq,Nat.reduceEqDiff,Nat.reduceLT,Nat.reduceBEq,List.map_cons,List.map_nil,List.toList_toArray,Array.toList_append,Option.toArray_some,Option.toArray_none,Bool.and_self,ty,noS,hv,hx]
 · exact hp.elim
set_option maxHeartbeats 4000000 in
theorem yes22_sound : SoundO Try.prog 63 yesO := by
 refine fn_soundO (S := noS) (SO := noO) (T := ty) zbj ty_ok zcy noO_ok Try.func63 (c := Try.f63.body.getD .skip) (by kernel_rfl) (fun xs pins hp => ?_)
 unfold yesO at hp ⊢
 split at hp
 · rename_i c x
   have hx : x.closed = true := hp
   refine ⟨by simp,fun _ => .std,by kernel_rfl,?_⟩
   unfold Try.f63
   by_cases h99 : c = 99
   · subst h99
     simp only [go_sem,coe,zab,Nat.reduceAdd,Nat.reduceSub,Nat.reduceMul,Int.reduceToNat,reduceCtorEq,↓reduceIte,Int.reducePow,Nat.reducePow,Int.reduceMod,Nat.reduceLeDiff,Int.reduceLE,Int.reduceNe,Int.reduceEq,Nat.reduceEqDiff,Nat.reduceLT,Nat.reduceBEq,List.map_cons,List.map_nil,List.toList_toArray,Array.toList_append,Option.toArray_some,Option.toArray_none,Bool.and_self,ty,noS,yesF,zdi,Int.reduceEq,Nat.reduceEqDiff,decide_true,decide_false,if_true,if_false]
     refine ⟨_,Weak.refl _,?_⟩
     simp only [go_sem,coe,zab,Nat.reduceAdd,Nat.reduceSub,Nat.reduceMul,Int.reduceToNat,reduceCtorEq,↓reduceIte,Int.reducePow,Nat.reducePow,Int.reduceMod,Nat.reduceLeDiff,Int.reduceLE,Int.reduceNe,Int.reduceEq,Nat.reduceEqDiff,Nat.reduceLT,Nat.reduceBEq,List.map_cons,List.map_nil,List.toList_toArray,Array.toList_append,Option.toArray_some,Option.toArray_none,Bool.and_self,ty,noS,hx]
   have d99 := decide_eq_false h99
   by_cases h102 : c = 102
   · subst h102
     simp only [go_sem,coe,zab,Nat.reduceAdd,Nat.reduceSub,Nat.reduceMul,Int.reduceToNat,reduceCtorEq,↓reduceIte,Int.reducePow,Nat.reducePow,Int.reduceMod,Nat.reduceLeDiff,Int.reduceLE,Int.reduceNe,Int.reduceEq,Nat.reduceEqDiff,Nat.reduceLT,Nat.reduceBEq,List.map_cons,List.map_nil,List.toList_toArray,Array.toList_append,Option.toArray_some,Option.toArray_none,Bool.and_self,ty,noS,yesF,zdi,Int.reduceEq,Nat.reduceEqDiff,decide_true,decide_false,if_true,if_false]
     refine ⟨_,Weak.refl _,?_⟩
     simp only [go_sem,coe,zab,Nat.reduceAdd,Nat.reduceSub,Nat.reduceMul,Int.reduceToNat,reduceCtorEq,↓reduceIte,Int.reducePow,Nat.reducePow,Int.reduceMod,Nat.reduceLeDiff,Int.reduceLE,Int.reduceNe,Int.reduceEq,Nat.reduceEqDiff,Nat.reduceLT,Nat.reduceBEq,List.map_cons,List.map_nil,List.toList_toArray,Array.toList_append,Option.toArray_some,Option.toArray_none,Bool.and_self,ty,noS,hx]
   have d102 := decide_eq_false h102
   have hv : zdi (yesF c) = .w (.pointer none) := by unfold yesF; simp only [h99,h102,if_false]; rfl
   simp only [go_sem,coe,zab,Nat.reduceAdd,Nat.reduceSub,Nat.reduceMul,Int.reduceToNat,reduceCtorEq,↓reduceIte,Int.reducePow,Nat.reducePow,Int.reduceMod,Nat.reduceLeDiff,Int.reduceLE,Int.reduceNe,Int.reduceEq,Nat.reduceEqDiff,Nat.reduceLT,Nat.reduceBEq,List.map_cons,List.map_nil,List.toList_toArray,Array.toList_append,Option.toArray_some,Option.toArray_none,Bool.and_self,ty,noS,hv,d99,d102]
   refine ⟨_,Weak.refl _,?_⟩
   simp only [go_sem,coe,zab,Nat.reduceAdd,Nat.reduceSub,Nat.reduceMul,Int.reduceToNat,reduceCtorEq,↓reduceIte,Int.reducePow,Nat.reducePow,Int.reduceMod,Nat.reduceLeDiff,Int.reduceLE,Int.reduceNe,Int.reduceEq,Nat.reduceEqDiff,Nat.reduceLT,Nat.reduceBEq,List.map_cons,List.map_nil,List.toList_toArray,Array.toList_append,Option.toArray_some,Option.toArray_none,Bool.and_self,ty,noS,hv,hx]
 · exact hp.elim
set_option maxHeartbeats 4000000 in
theorem numb22_sound : SoundO Try.prog 64 zfq := by
 refine fn_soundO (S := noS) (SO := noO) (T := ty) zbj ty_ok zcy noO_ok Try.func64 (c := Try.f64.body.getD .skip) (by kernel_rfl) (fun xs pins hp => ?_)
 unfold zfq at hp ⊢
 split at hp
 · rename_i c x
   have hx : x.closed = true := hp
   refine ⟨by simp,fun _ => .std,by kernel_rfl,?_⟩
   unfold Try.f64
   by_cases h105 : c = 105
   · subst h105
     simp only [go_sem,coe,zab,Nat.reduceAdd,Nat.reduceSub,Nat.reduceMul,Int.reduceToNat,reduceCtorEq,↓reduceIte,Int.reducePow,Nat.reducePow,Int.reduceMod,Nat.reduceLeDiff,Int.reduceLE,Int.reduceNe,Int.reduceEq,Nat.reduceEqDiff,Nat.reduceLT,Nat.reduceBEq,List.map_cons,List.map_nil,List.toList_toArray,Array.toList_append,Option.toArray_some,Option.toArray_none,Bool.and_self,ty,noS,zec,zdi,Int.reduceEq,Nat.reduceEqDiff,decide_true,decide_false,if_true,if_false]
     refine ⟨_,Weak.refl _,?_⟩
     simp only [go_sem,coe,zab,Nat.reduceAdd,Nat.reduceSub,Nat.reduceMul,Int.reduceToNat,reduceCtorEq,↓reduceIte,Int.reducePow,Nat.reducePow,Int.reduceMod,Nat.reduceLeDiff,Int.reduceLE,Int.reduceNe,Int.reduceEq,Nat.reduceEqDiff,Nat.reduceLT,Nat.reduceBEq,List.map_cons,List.map_nil,List.toList_toArray,Array.toList_append,Option.toArray_some,Option.toArray_none,Bool.and_self,ty,noS,hx]
   have d105 := decide_eq_false h105
   by_cases h112 : c = 112
   · subst h112
     simp only [go_sem,coe,zab,Nat.reduceAdd,Nat.reduceSub,Nat.reduceMul,Int.reduceToNat,reduceCtorEq,↓reduceIte,Int.reducePow,Nat.reducePow,Int.reduceMod,Nat.reduceLeDiff,Int.reduceLE,Int.reduceNe,Int.reduceEq,Nat.reduceEqDiff,Nat.reduceLT,Nat.reduceBEq,List.map_cons,List.map_nil,List.toList_toArray,Array.toList_append,Option.toArray_some,Option.toArray_none,Bool.and_self,ty,noS,zec,zdi,Int.reduceEq,Nat.reduceEqDiff,decide_true,decide_false,if_true,if_false]
     refine ⟨_,Weak.refl _,?_⟩
     simp only [go_sem,coe,zab,Nat.reduceAdd,Nat.reduceSub,Nat.reduceMul,Int.reduceToNat,reduceCtorEq,↓reduceIte,Int.reducePow,Nat.reducePow,Int.reduceMod,Nat.reduceLeDiff,Int.reduceLE,Int.reduceNe,Int.reduceEq,Nat.reduceEqDiff,Nat.reduceLT,Nat.reduceBEq,List.map_cons,List.map_nil,List.toList_toArray,Array.toList_append,Option.toArray_some,Option.toArray_none,Bool.and_self,ty,noS,hx]
   have d112 := decide_eq_false h112
   by_cases h111 : c = 111
   · subst h111
     simp only [go_sem,coe,zab,Nat.reduceAdd,Nat.reduceSub,Nat.reduceMul,Int.reduceToNat,reduceCtorEq,↓reduceIte,Int.reducePow,Nat.reducePow,Int.reduceMod,Nat.reduceLeDiff,Int.reduceLE,Int.reduceNe,Int.reduceEq,Nat.reduceEqDiff,Nat.reduceLT,Nat.reduceBEq,List.map_cons,List.map_nil,List.toList_toArray,Array.toList_append,Option.toArray_some,Option.toArray_none,Bool.and_self,ty,noS,zec,zdi,Int.reduceEq,Nat.reduceEqDiff,decide_true,decide_false,if_true,if_false]
     refine ⟨_,Weak.refl _,?_⟩
     simp only [go_sem,coe,zab,Nat.reduceAdd,Nat.reduceSub,Nat.reduceMul,Int.reduceToNat,reduceCtorEq,↓reduceIte,Int.reducePow,Nat.reducePow,Int.reduceMod,Nat.reduceLeDiff,Int.reduceLE,Int.reduceNe,Int.reduceEq,Nat.reduceEqDiff,Nat.reduceLT,Nat.reduceBEq,List.map_cons,List.map_nil,List.toList_toArray,Array.toList_append,Option.toArray_some,Option.toArray_none,Bool.and_self,ty,noS,hx]
   have d111 := decide_eq_false h111
   by_cases h109 : c = 109
   · subst h109
     simp only [go_sem,coe,zab,Nat.reduceAdd,Nat.reduceSub,Nat.reduceMul,Int.reduceToNat,reduceCtorEq,↓reduceIte,Int.reducePow,Nat.reducePow,Int.reduceMod,Nat.reduceLeDiff,Int.reduceLE,Int.reduceNe,Int.reduceEq,Nat.reduceEqDiff,Nat.reduceLT,Nat.reduceBEq,List.map_cons,List.map_nil,List.toList_toArray,Array.toList_append,Option.toArray_some,Option.toArray_none,Bool.and_self,ty,noS,zec,zdi,Int.reduceEq,Nat.reduceEqDiff,decide_true,decide_false,if_true,if_false]
     refine ⟨_,Weak.refl _,?_⟩
     simp only [go_sem,coe,zab,Nat.reduceAdd,Nat.reduceSub,Nat.reduceMul,Int.reduceToNat,reduceCtorEq,↓reduceIte,Int.reducePow,Nat.reducePow,Int.reduceMod,Nat.reduceLeDiff,Int.reduceLE,Int.reduceNe,Int.reduceEq,Nat.reduceEqDiff,Nat.reduceLT,Nat.reduceBEq,List.map_cons,List.map_nil,List.toList_toArray,Array.toList_append,Option.toArray_some,Option.toArray_none,Bool.and_self,ty,noS,hx]
   have d109 := decide_eq_false h109
   by_cases h119 : c = 119
   · subst h119
     simp only [go_sem,coe,zab,Nat.reduceAdd,Nat.reduceSub,Nat.reduceMul,Int.reduceToNat,reduceCtorEq,↓reduceIte,Int.reducePow,Nat.reducePow,Int.reduceMod,Nat.reduceLeDiff,Int.reduceLE,Int.reduceNe,Int.reduceEq,Nat.reduceEqDiff,Nat.reduceLT,Nat.reduceBEq,List.map_cons,List.map_nil,List.toList_toArray,Array.toList_append,Option.toArray_some,Option.toArray_none,Bool.and_self,ty,noS,zec,zdi,Int.reduceEq,Nat.reduceEqDiff,decide_true,decide_false,if_true,if_false]
     refine ⟨_,Weak.refl _,?_⟩
     simp only [go_sem,coe,zab,Nat.reduceAdd,Nat.reduceSub,Nat.reduceMul,Int.reduceToNat,reduceCtorEq,↓reduceIte,Int.reducePow,Nat.reducePow,Int.reduceMod,Nat.reduceLeDiff,Int.reduceLE,Int.reduceNe,Int.reduceEq,Nat.reduceEqDiff,Nat.reduceLT,Nat.reduceBEq,List.map_cons,List.map_nil,List.toList_toArray,Array.toList_append,Option.toArray_some,Option.toArray_none,Bool.and_self,ty,noS,hx]
   have d119 := decide_eq_false h119
   by_cases h110 : c = 110
   · subst h110
     simp only [go_sem,coe,zab,Nat.reduceAdd,Nat.reduceSub,Nat.reduceMul,Int.reduceToNat,reduceCtorEq,↓reduceIte,Int.reducePow,Nat.reducePow,Int.reduceMod,Nat.reduceLeDiff,Int.reduceLE,Int.reduceNe,Int.reduceEq,Nat.reduceEqDiff,Nat.reduceLT,Nat.reduceBEq,List.map_cons,List.map_nil,List.toList_toArray,Array.toList_append,Option.toArray_some,Option.toArray_none,Bool.and_self,ty,noS,zec,zdi,Int.reduceEq,Nat.reduceEqDiff,decide_true,decide_false,if_true,if_false]
     refine ⟨_,Weak.refl _,?_⟩
     simp only [go_sem,coe,zab,Nat.reduceAdd,Nat.reduceSub,Nat.reduceMul,Int.reduceToNat,reduceCtorEq,↓reduceIte,Int.reducePow,Nat.reducePow,Int.reduceMod,Nat.reduceLeDiff,Int.reduceLE,Int.reduceNe,Int.reduceEq,Nat.reduceEqDiff,Nat.reduceLT,Nat.reduceBEq,List.map_cons,List.map_nil,List.toList_toArray,Array.toList_append,Option.toArray_some,Option.toArray_none,Bool.and_self,ty,noS,hx]
   have d110 := decide_eq_false h110
   have hv : zdi (zec c) = .w (.pointer none) := by unfold zec; simp only [h105,h112,h111,h109,h119,h110,if_false]; rfl
   simp only [go_sem,coe,zab,Nat.reduceAdd,Nat.reduceSub,Nat.reduceMul,Int.reduceToNat,reduceCtorEq,↓reduceIte,Int.reducePow,Nat.reducePow,Int.reduceMod,Nat.reduceLeDiff,Int.reduceLE,Int.reduceNe,Int.reduceEq,Nat.reduceEqDiff,Nat.reduceLT,Nat.reduceBEq,List.map_cons,List.map_nil,List.toList_toArray,Array.toList_append,Option.toArray_some,Option.toArray_none,Bool.and_self,ty,noS,hv,d105,d112,d111,d109,d119,d110]
   refine ⟨_,Weak.refl _,?_⟩
   simp only [go_sem,coe,zab,Nat.reduceAdd,Nat.reduceSub,Nat.reduceMul,Int.reduceToNat,reduceCtorEq,↓reduceIte,Int.reducePow,Nat.reducePow,Int.reduceMod,Nat.reduceLeDiff,Int.reduceLE,Int.reduceNe,Int.reduceEq,Nat.reduceEqDiff,Nat.reduceLT,Nat.reduceBEq,List.map_cons,List.map_nil,List.toList_toArray,Array.toList_append,Option.toArray_some,Option.toArray_none,Bool.and_self,ty,noS,hv,hx]
 · exact hp.elim
end
end Go.Proofs.Ytmedjkjoannbmaa
