/- What the proofs of this seat stand on; it asks nothing. -/
import Derived.Test.YtihbcgbmlecpbaaYa12
import Derived.Test.YtihbcgbmlecpbaaYc01
set_option linter.unusedSimpArgs false
set_option linter.unusedVariables false
namespace Go.Proofs.Ytihbcgbmlecpbaa
open Ax
def dR (bs : List UInt8) (e : Int) : Rec := rrec (grec bs e)
def dRead : Nat → List UInt8 → Int → List Rec
 | 0,_,_ => []
 | k + 1,bs,e => if e = 0 then dR bs e :: dRead k (gb5 bs e) (ge5 bs e) else []
theorem dRead_succ (k : Nat) (bs : List UInt8) (e : Int) : dRead (k + 1) bs e = if e = 0 then dR bs e :: dRead k (gb5 bs e) (ge5 bs e) else [] := rfl
theorem zfp (k : Nat) (bs : List UInt8) (e : Int) (h : k = 0 ∨ e ≠ 0) : dRead k bs e = [] := by
 cases k with
 | zero => rfl
 | succ k => rw [dRead_succ,if_neg (by omega)]
theorem dR_rv (bs : List UInt8) (e : Int) : grec bs e = rv (dR bs e) := by
 unfold dR grec
 split <;> rfl
theorem dRead_put : ∀ (rs : List Rec) (z : List UInt8),(∀ r ∈ rs,rk r = 0) → dRead rs.length (rs.flatMap rb ++ z) 0 = rs
 | [],z,_ => rfl
 | r :: rs,z,h => by
   obtain ⟨h1,h2,h3,h4⟩ := gR_put (h r (by simp)) (rs.flatMap rb ++ z)
   have h5 : dR (rb r ++ (rs.flatMap rb ++ z)) 0 = r := by unfold dR; rw [grec_rv h1,h2]; rfl
   rw [List.length_cons,List.flatMap_cons,List.append_assoc,dRead_succ,if_pos rfl,h5,h3,h4,dRead_put rs z (fun q hq => h q (by simp [hq]))]
def dX (bs : List UInt8) : Bat := ⟨hn 0 bs,hn 1 bs,hn 2 bs,hn 3 bs,hn 4 bs,dRead (min (hn 5 bs) 32).toNat (hb 6 bs).1 (hb 6 bs).2⟩
theorem dget_eq (bs : List UInt8) : bget bs = if 8192 < bs.length then none else if bE (dX bs) = 0 ∧ bB (dX bs) = bs then some (dX bs) else none := by
 cases hg : bget bs with
 | some y =>
   obtain ⟨h1,h2⟩ := bget_some hg
   have hl := bB_length h1
   obtain ⟨N0,N1,N2,N3,N4,N5,B6,hl2,i1⟩ := bheads h1 []
   rw [List.append_nil,h2] at N0 N1 N2 N3 N4 N5 B6
   have hX : dX bs = y := by
     unfold dX
     rw [N0,N1,N2,N3,N4,N5,B6,show (min (y.rs.length : Int) 32).toNat = y.rs.length by omega,dRead_put y.rs _ i1]
   rw [hX,if_neg (by rw [← h2]; omega),if_pos ⟨h1,h2⟩]
 | none =>
   by_cases h8 : 8192 < bs.length
   · rw [if_pos h8]
   · rw [if_neg h8,if_neg]
     rintro ⟨h1,h2⟩
     have := bget_put h1
     rw [h2,hg] at this
     cases this
def Sdget (f : FuncId) : Option zak :=
 match f with
 | 37 => some zar
 | 88 => some rrgetS
 | 48 => some rputS4
 | _ => none
theorem Sdget_ok : Fns Try.prog Sdget := by
 intro f s h
 unfold Sdget at h
 split at h
 · injection h with h; subst h; exact ⟨⟨_,Try.func37,by kernel_rfl,by kernel_rfl⟩,rrnum_sound⟩
 · injection h with h; subst h; exact ⟨⟨_,Try.func88,by kernel_rfl,by kernel_rfl⟩,rrecget_sound⟩
 · injection h with h; subst h; exact ⟨⟨_,Try.func48,by kernel_rfl,by kernel_rfl⟩,rput4_sound⟩
 · cases h
section
set_option maxRecDepth 100000
set_option maxHeartbeats 2000000 in
theorem dget_sound : zaq Try.prog 81 bgetS := by
 refine zal (S := Sdget) (T := ty) zau ty_ok Sdget_ok Try.func81 (c := Try.f81.body.getD .skip) (by kernel_rfl) (by kernel_rfl) (fun xs pins hp _ => ?_)
 unfold bgetS at hp ⊢
 split at hp
 · rename_i bs f _
   have hlen : bs.length ≤ 1000000 := hp
   refine ⟨by simp,?_⟩
   unfold Try.f81
   have hget := dget_eq bs
   by_cases h8 : 8192 < bs.length
   · have d0 : decide ((8192 : Int) < bs.length) = true := decide_eq_true (by omega)
     rw [if_pos h8] at hget
     have v1 : zbk bs = ⟨0,0,0,0,0,[]⟩ := by unfold zbk; rw [hget]; rfl
     have v2 : zcn bs = 4 := by unfold zcn; rw [hget]; rfl
     simp only [go_sem,zaa,Nat.reduceAdd,Nat.reduceSub,Nat.reduceMul,Int.reduceToNat,reduceCtorEq,↓reduceIte,Int.reducePow,Nat.reducePow,Int.reduceMod,Nat.reduceLeDiff,Int.reduceLE,Int.reduceNe,Int.reduceEq,Nat.reduceEqDiff,Nat.reduceLT,Nat.reduceBEq,ty,Sdget,d0,v1,v2,bav,zcz,List.map_nil,fillS]
   · have d0 : decide ((8192 : Int) < bs.length) = false := decide_eq_false (by omega)
     rw [if_neg h8] at hget
     unfold dX at hget
     have L1 := zca bs 1
     have L2 := zca bs 2
     have L3 := zca bs 3
     have L4 := zca bs 4
     have L5 := zca bs 5
     have L6 := zca bs 6
     have q0 : bs.length ≤ 1000000 := hlen
     have q1 : (hb 1 bs).1.length ≤ 1000000 := by omega
     have q2 : (hb 2 bs).1.length ≤ 1000000 := by omega
     have q3 : (hb 3 bs).1.length ≤ 1000000 := by omega
     have q4 : (hb 4 bs).1.length ≤ 1000000 := by omega
     have q5 : (hb 5 bs).1.length ≤ 1000000 := by omega
     have q6 : (hb 6 bs).1.length ≤ 1000000 := by omega
     have n0 : numN bs 0 = hn 0 bs := rfl
     have l0 : numL bs 0 = (hb 1 bs).1 := rfl
     have e0 : numE bs 0 = (hb 1 bs).2 := rfl
     have n1 : numN (hb 1 bs).1 (hb 1 bs).2 = hn 1 bs := rfl
     have l1 : numL (hb 1 bs).1 (hb 1 bs).2 = (hb 2 bs).1 := rfl
     have e1 : numE (hb 1 bs).1 (hb 1 bs).2 = (hb 2 bs).2 := rfl
     have n2 : numN (hb 2 bs).1 (hb 2 bs).2 = hn 2 bs := rfl
     have l2 : numL (hb 2 bs).1 (hb 2 bs).2 = (hb 3 bs).1 := rfl
     have e2 : numE (hb 2 bs).1 (hb 2 bs).2 = (hb 3 bs).2 := rfl
     have n3 : numN (hb 3 bs).1 (hb 3 bs).2 = hn 3 bs := rfl
     have l3 : numL (hb 3 bs).1 (hb 3 bs).2 = (hb 4 bs).1 := rfl
     have e3 : numE (hb 3 bs).1 (hb 3 bs).2 = (hb 4 bs).2 := rfl
     have n4 : numN (hb 4 bs).1 (hb 4 bs).2 = hn 4 bs := rfl
     have l4 : numL (hb 4 bs).1 (hb 4 bs).2 = (hb 5 bs).1 := rfl
     have e4 : numE (hb 4 bs).1 (hb 4 bs).2 = (hb 5 bs).2 := rfl
     have n5 : numN (hb 5 bs).1 (hb 5 bs).2 = hn 5 bs := rfl
     have l5 : numL (hb 5 bs).1 (hb 5 bs).2 = (hb 6 bs).1 := rfl
     have e5 : numE (hb 5 bs).1 (hb 5 bs).2 = (hb 6 bs).2 := rfl
     obtain ⟨B,hB⟩ : ∃ B,hb 6 bs = B := ⟨_,rfl⟩
     rw [hB] at hget
     simp only [hB] at q6 l5 e5
     generalize hn 0 bs = N0 at *
     generalize hn 1 bs = N1 at *
     generalize hn 2 bs = N2 at *
     generalize hn 3 bs = N3 at *
     generalize hn 4 bs = N4 at *
     generalize hn 5 bs = N5 at *
     simp only [go_sem,zaa,Nat.reduceAdd,Nat.reduceSub,Nat.reduceMul,Int.reduceToNat,reduceCtorEq,↓reduceIte,Int.reducePow,Nat.reducePow,Int.reduceMod,Nat.reduceLeDiff,Int.reduceLE,Int.reduceNe,Int.reduceEq,Nat.reduceEqDiff,Nat.reduceLT,Nat.reduceBEq,ty,Sdget,zar,rrd,d0,q0,q1,q2,q3,q4,q5,n0,n1,n2,n3,n4,n5,l0,l1,l2,l3,l4,l5,e0,e1,e2,e3,e4,e5,fillS]
     have htop : top = 4294967296 := rfl
     obtain ⟨N,hN⟩ : ∃ N,(min N5 32).toNat = N := ⟨_,rfl⟩
     rw [hN] at hget
     refine zdh ⟨fun m σ => ∃ (i : Nat) (b : List UInt8) (e : Int) (qs : List Rec),m = N - i ∧ i ≤ N ∧ b.length ≤ 1000000 ∧ dRead N B.1 B.2 = qs ++ dRead (N - i) b e ∧ qs.length = i ∧
         ((i = 0 ∧ σ = ⟨[.sb bs f,.junk,.rf 4 6 0 0,.w (.int .i64 0),.rf 5 6 0 0,.w (.int .i64 N5),.rf 6 2 0 0,.w (.int .i64 0),.junk,.junk,.junk,.junk,.junk,.junk,.junk,.junk,.junk,.junk,.junk,.junk,.junk,.junk,.junk,.junk,.junk,.junk,.junk,.junk,.junk,.junk,.junk,.junk,.junk,.junk,.junk,.junk,.junk,.junk,.junk,.junk,.junk,.junk,.junk,.junk,.junk,.junk,.junk,.junk,.junk,.junk,.junk,.junk,.junk,.junk,.junk,.junk,.junk,.junk,.junk,.junk,.junk,.junk,.junk,.junk,.junk,.junk,.junk,.junk,.junk,.junk,.junk,.junk,.junk,.junk,.junk,.junk,.junk,.junk,.junk,.junk,.junk,.junk,.junk,.junk,.junk,.junk,.junk,.junk,.junk,.junk,.junk,.junk,.junk,.junk,.junk,.junk,.junk],[(6,.g 2 [.agg [.sb b f,.w (.int .i64 e)]]),(5,.g 6 [.agg [.w (.int .i64 N0),.w (.int .i64 N1),.w (.int .i64 N2),.w (.int .i64 N3),.w (.int .i64 N4),.sg 6 [] true]]),(4,.g 6 [.agg [.w (.int .i64 0),.w (.int .i64 0),.w (.int .i64 0),.w (.int .i64 0),.w (.int .i64 0),.sg 6 [] true]])],7⟩) ∨
          (0 < i ∧ σ = ⟨[.sb bs f,.junk,.rf 4 6 0 0,.w (.int .i64 0),.rf 5 6 0 0,.w (.int .i64 N5),.rf 6 2 0 0,.w (.int .i64 i),.junk,.junk,.junk,.junk,.junk,.junk,.junk,.junk,.junk,.junk,.junk,.junk,.junk,.junk,.junk,.junk,.junk,.junk,.junk,.junk,.junk,.junk,.junk,.junk,.junk,.junk,.junk,.junk,.junk,.junk,.junk,.junk,.junk,.junk,.junk,.junk,.junk,.junk,.junk,.junk,.junk,.junk,.junk,.junk,.junk,.junk,.junk,.junk,.junk,.junk,.junk,.junk,.junk,.junk,.junk,.junk,.junk,.junk,.junk,.junk,.junk,.junk,.junk,.junk,.junk,.junk,.junk,.junk,.junk,.junk,.junk,.ms 7 6 0 i,.junk,.junk,.junk,.junk,.junk,.junk,.junk,.junk,.junk,.junk,.junk,.junk,.junk,.junk,.junk,.junk,.junk],[(6,.g 2 [.agg [.sb b f,.w (.int .i64 e)]]),(5,.g 6 [.agg [.w (.int .i64 N0),.w (.int .i64 N1),.w (.int .i64 N2),.w (.int .i64 N3),.w (.int .i64 N4),.ms 7 6 0 i]]),(4,.g 6 [.agg [.w (.int .i64 0),.w (.int .i64 0),.w (.int .i64 0),.w (.int .i64 0),.w (.int .i64 0),.sg 6 [] true]]),(7,.g 6 (qs.map rv))],8⟩)),?_,?_⟩
     · refine ⟨_,_,zaf [0,1,2,3,4,44,76] rfl rfl rfl ?_ ?_,0,B.1,B.2,[],rfl,by omega,q6,rfl,rfl,.inl ⟨rfl,rfl⟩⟩
       · simp only [ssT,zai,zaj,setSlot,gOf,AV.ren,renL,Blk.ren,Ax.look,Ax.put,reduceCtorEq,↓reduceIte,Nat.reduceEqDiff,Nat.reduceLT,Nat.reduceAdd,List.length_append,List.length_cons,List.length_nil,Option.some.injEq]; try simp
       · simp only [ssT,zai,zaj,setSlot,gOf,AV.ren,renL,Blk.ren,Ax.look,Ax.put,reduceCtorEq,↓reduceIte,Nat.reduceEqDiff,Nat.reduceLT,Nat.reduceAdd,List.length_append,List.length_cons,List.length_nil,Option.some.injEq]
     · rintro m σ ⟨i,b,e,qs,rfl,hi,hlb,hinv,hql,hσ⟩
       rcases hσ with ⟨hi0,rfl⟩ | ⟨hi0,rfl⟩
       · obtain rfl : i = 0 := hi0
         obtain rfl : qs = [] := List.eq_nil_of_length_eq_zero hql
         have hor : (((0 : Int) < N5 ∧ (0 : Int) < 32) ∧ e = 0) ∨ (decide ((0 : Int) < N5) = false ∧ dRead (N - 0) b e = []) ∨ (decide ((0 : Int) < N5) = true ∧ decide ((0 : Int) < 32) = false ∧ dRead (N - 0) b e = []) ∨ (decide ((0 : Int) < N5) = true ∧ decide ((0 : Int) < 32) = true ∧ decide (e = 0) = false ∧ dRead (N - 0) b e = []) := by
           by_cases h1 : (0 : Int) < N5
           · by_cases h2 : (0 : Int) < 32
             · by_cases h3 : e = 0
               · exact .inl ⟨⟨h1,h2⟩,h3⟩
               · exact .inr (.inr (.inr ⟨decide_eq_true h1,decide_eq_true h2,decide_eq_false h3,zfp _ _ _ (.inr h3)⟩))
             · exact .inr (.inr (.inl ⟨decide_eq_true h1,decide_eq_false h2,zfp _ _ _ (.inl (by omega))⟩))
           · exact .inr (.inl ⟨decide_eq_false h1,zfp _ _ _ (.inl (by omega))⟩)
         rcases hor with ⟨⟨h1,h2⟩,rfl⟩ | hstop
         · have d2 : decide ((0 : Int) < N5) = true := decide_eq_true h1
           have d3 : decide ((0 : Int) < 32) = true := decide_eq_true h2
           have es : ((0 : Int) + 1 + 9223372036854775808) % 18446744073709551616 - 9223372036854775808 = 1 := by omega
           have hsuc : N - 0 = (N - (0 + 1)) + 1 := by omega
           have hl5 := gb5_length b 0
           have hgr := dR_rv b 0
           have hR : dRead N B.1 B.2 = (([] : List Rec) ++ [dR b 0]) ++ dRead (N - (0 + 1)) (gb5 b 0) (ge5 b 0) := by
             rw [hinv,hsuc,dRead_succ,if_pos rfl,List.append_assoc]; rfl
           obtain ⟨G,hG⟩ : ∃ G,dR b 0 = G := ⟨_,rfl⟩
           rw [hG] at hgr hR
           simp only [rv] at hgr
           simp only [go_sem,zaa,Nat.reduceAdd,Nat.reduceSub,Nat.reduceMul,Int.reduceToNat,reduceCtorEq,↓reduceIte,Int.reducePow,Nat.reducePow,Int.reduceMod,Nat.reduceLeDiff,Int.reduceLE,Int.reduceNe,Int.reduceEq,Nat.reduceEqDiff,Nat.reduceLT,Nat.reduceBEq,ty,Sdget,zar,rrgetS,rputS4,rrd,d2,d3,hlb,hgr,es,fillS]
           repeat (refine And.intro (by first | omega | (intro h; cases h)) ?_)
           refine ⟨N - (0 + 1),_,by omega,zaf [0,1,2,3,4,5,6,239] rfl rfl rfl ?_ ?_,0 + 1,gb5 b 0,ge5 b 0,([] : List Rec) ++ [G],rfl,by omega,by omega,hR,by simp [hql],.inr ⟨by omega,rfl⟩⟩
           · simp only [ssT,zai,zaj,setSlot,gOf,AV.ren,renL,Blk.ren,Ax.look,Ax.put,reduceCtorEq,↓reduceIte,Nat.reduceEqDiff,Nat.reduceLT,Nat.reduceAdd,List.length_append,List.length_cons,List.length_nil,Option.some.injEq]; try simp
           · simp only [ssT,zai,zaj,setSlot,gOf,AV.ren,renL,Blk.ren,Ax.look,Ax.put,reduceCtorEq,↓reduceIte,Nat.reduceEqDiff,Nat.reduceLT,Nat.reduceAdd,List.length_append,List.length_cons,List.length_nil,Option.some.injEq,ren_rv]; try simp [rv]
         · have hnil : dRead (N - 0) b e = [] := by
             rcases hstop with h | h | h
             · exact h.2
             · exact h.2.2
             · exact h.2.2.2
           have hR : dRead N B.1 B.2 = ([] : List Rec) := by rw [hinv,hnil]; rfl
           rw [hR] at hget
           have hmL : (([] : List AV)).length = 0 := by simp [hql]
           have hmL2 : (([] : List AV)).length ≤ 40 := by omega
           have hi40 : 0 ≤ 40 := by omega
           have hex : ∃ rs : List Rec,([] : List AV) = rs.map rv := ⟨([] : List Rec),rfl⟩
           have hrr : (([] : List AV)).map rrec = ([] : List Rec) := rfl
           have hbE : batE N0 N1 N2 N3 N4 ([] : List Rec) = bE ⟨N0,N1,N2,N3,N4,([] : List Rec)⟩ := rfl
           have hbB : batB N0 N1 N2 N3 N4 ([] : List Rec) = bB ⟨N0,N1,N2,N3,N4,([] : List Rec)⟩ := rfl
           generalize hX : (⟨N0,N1,N2,N3,N4,([] : List Rec)⟩ : Bat) = X at *
           have hend : (bE X = 0 ∧ decide (bB X = bs) = true ∧ zbk bs = X ∧ zcn bs = 0) ∨ (bE X = 0 ∧ decide (bB X = bs) = false ∧ zbk bs = ⟨0,0,0,0,0,[]⟩ ∧ zcn bs = 4) ∨ (decide (bE X = 0) = false ∧ zbk bs = ⟨0,0,0,0,0,[]⟩ ∧ zcn bs = 4) := by
             by_cases hE : bE X = 0
             · by_cases hBq : bB X = bs
               · have hg : bget bs = some X := by rw [hget,if_pos ⟨hE,hBq⟩]
                 exact .inl ⟨hE,decide_eq_true hBq,by unfold zbk; rw [hg]; rfl,by unfold zcn; rw [hg]; rfl⟩
               · have hg : bget bs = none := by rw [hget,if_neg (fun h => hBq h.2)]
                 exact .inr (.inl ⟨hE,decide_eq_false hBq,by unfold zbk; rw [hg]; rfl,by unfold zcn; rw [hg]; rfl⟩)
             · have hg : bget bs = none := by rw [hget,if_neg (fun h => hE h.1)]
               exact .inr (.inr ⟨decide_eq_false hE,by unfold zbk; rw [hg]; rfl,by unfold zcn; rw [hg]; rfl⟩)
           have hP : X.b = N0 ∧ X.c = N1 ∧ X.p = N2 ∧ X.e = N3 ∧ X.s = N4 ∧ X.rs = ([] : List Rec) := by rw [← hX]; exact ⟨rfl,rfl,rfl,rfl,rfl,rfl⟩
           clear hget hinv hR
           rcases hstop with D | D | D
           all_goals simp only [go_sem,zaa,Nat.reduceAdd,Nat.reduceSub,Nat.reduceMul,Int.reduceToNat,reduceCtorEq,↓reduceIte,Int.reducePow,Nat.reducePow,Int.reduceMod,Nat.reduceLeDiff,Int.reduceLE,Int.reduceNe,Int.reduceEq,Nat.reduceEqDiff,Nat.reduceLT,Nat.reduceBEq,ty,Sdget,zar,rrgetS,rputS4,rrd,D]
           all_goals refine ⟨_,Weak.refl _,?_⟩
           all_goals rcases hend with E | E | E
           all_goals simp only [go_sem,zaa,Nat.reduceAdd,Nat.reduceSub,Nat.reduceMul,Int.reduceToNat,reduceCtorEq,↓reduceIte,Int.reducePow,Nat.reducePow,Int.reduceMod,Nat.reduceLeDiff,Int.reduceLE,Int.reduceNe,Int.reduceEq,Nat.reduceEqDiff,Nat.reduceLT,Nat.reduceBEq,ty,Sdget,zar,rrgetS,rputS4,rrd,hmL,hi40,hex,hrr,closedL,hbE,hbB,hP,E,bav,List.map_nil,zcz,fillS]
       · have hml : (qs.map rv).length = i := by simp [hql]
         have hdle : decide (0 + i ≤ (qs.map rv).length) = true := decide_eq_true (by omega)
         have htk : (qs.map rv).take i = qs.map rv := List.take_of_length_le (by omega)
         have hie : emp qs = false := by cases qs with | nil => simp at hql; omega | cons _ _ => rfl
         have hor : (((i : Int) < N5 ∧ (i : Int) < 32) ∧ e = 0) ∨ (decide ((i : Int) < N5) = false ∧ dRead (N - i) b e = []) ∨ (decide ((i : Int) < N5) = true ∧ decide ((i : Int) < 32) = false ∧ dRead (N - i) b e = []) ∨ (decide ((i : Int) < N5) = true ∧ decide ((i : Int) < 32) = true ∧ decide (e = 0) = false ∧ dRead (N - i) b e = []) := by
           by_cases h1 : (i : Int) < N5
           · by_cases h2 : (i : Int) < 32
             · by_cases h3 : e = 0
               · exact .inl ⟨⟨h1,h2⟩,h3⟩
               · exact .inr (.inr (.inr ⟨decide_eq_true h1,decide_eq_true h2,decide_eq_false h3,zfp _ _ _ (.inr h3)⟩))
             · exact .inr (.inr (.inl ⟨decide_eq_true h1,decide_eq_false h2,zfp _ _ _ (.inl (by omega))⟩))
           · exact .inr (.inl ⟨decide_eq_false h1,zfp _ _ _ (.inl (by omega))⟩)
         rcases hor with ⟨⟨h1,h2⟩,rfl⟩ | hstop
         · have d2 : decide ((i : Int) < N5) = true := decide_eq_true h1
           have d3 : decide ((i : Int) < 32) = true := decide_eq_true h2
           have es : ((i : Int) + 1 + 9223372036854775808) % 18446744073709551616 - 9223372036854775808 = ((i + 1 : Nat) : Int) := by omega
           have hsuc : N - i = (N - (i + 1)) + 1 := by omega
           have hl5 := gb5_length b 0
           have hgr := dR_rv b 0
           have hR : dRead N B.1 B.2 = (qs ++ [dR b 0]) ++ dRead (N - (i + 1)) (gb5 b 0) (ge5 b 0) := by
             rw [hinv,hsuc,dRead_succ,if_pos rfl,List.append_assoc]; rfl
           obtain ⟨G,hG⟩ : ∃ G,dR b 0 = G := ⟨_,rfl⟩
           rw [hG] at hgr hR
           simp only [rv] at hgr
           simp only [go_sem,zaa,Nat.reduceAdd,Nat.reduceSub,Nat.reduceMul,Int.reduceToNat,reduceCtorEq,↓reduceIte,Int.reducePow,Nat.reducePow,Int.reduceMod,Nat.reduceLeDiff,Int.reduceLE,Int.reduceNe,Int.reduceEq,Nat.reduceEqDiff,Nat.reduceLT,Nat.reduceBEq,ty,Sdget,zar,rrgetS,rputS4,rrd,d2,d3,hlb,hgr,es,fillS,hql,hml]
           repeat (refine And.intro (by first | omega | (intro h; cases h)) ?_)
           refine ⟨N - (i + 1),_,by omega,zaf [0,1,2,3,4,5,6,240] rfl rfl rfl ?_ ?_,i + 1,gb5 b 0,ge5 b 0,qs ++ [G],rfl,by omega,by omega,hR,by simp [hql],.inr ⟨by omega,rfl⟩⟩
           · simp only [ssT,zai,zaj,setSlot,gOf,AV.ren,renL,Blk.ren,Ax.look,Ax.put,reduceCtorEq,↓reduceIte,Nat.reduceEqDiff,Nat.reduceLT,Nat.reduceAdd,List.length_append,List.length_cons,List.length_nil,Option.some.injEq]; try simp
           · simp only [ssT,zai,zaj,setSlot,gOf,AV.ren,renL,Blk.ren,Ax.look,Ax.put,reduceCtorEq,↓reduceIte,Nat.reduceEqDiff,Nat.reduceLT,Nat.reduceAdd,List.length_append,List.length_cons,List.length_nil,Option.some.injEq,ren_rv]; try simp [rv]
         · have hnil : dRead (N - i) b e = [] := by
             rcases hstop with h | h | h
             · exact h.2
             · exact h.2.2
             · exact h.2.2.2
           have hR : dRead N B.1 B.2 = qs := by rw [hinv,hnil]; simp
           rw [hR] at hget
           have hmL : (qs.map rv).length = i := by simp [hql]
           have hmL2 : (qs.map rv).length ≤ 40 := by omega
           have hi40 : i ≤ 40 := by omega
           have hex : ∃ rs : List Rec,qs.map rv = rs.map rv := ⟨qs,rfl⟩
           have hrr : (qs.map rv).map rrec = qs := zag qs
           have hbE : batE N0 N1 N2 N3 N4 qs = bE ⟨N0,N1,N2,N3,N4,qs⟩ := rfl
           have hbB : batB N0 N1 N2 N3 N4 qs = bB ⟨N0,N1,N2,N3,N4,qs⟩ := rfl
           generalize hX : (⟨N0,N1,N2,N3,N4,qs⟩ : Bat) = X at *
           have hend : (bE X = 0 ∧ decide (bB X = bs) = true ∧ zbk bs = X ∧ zcn bs = 0) ∨ (bE X = 0 ∧ decide (bB X = bs) = false ∧ zbk bs = ⟨0,0,0,0,0,[]⟩ ∧ zcn bs = 4) ∨ (decide (bE X = 0) = false ∧ zbk bs = ⟨0,0,0,0,0,[]⟩ ∧ zcn bs = 4) := by
             by_cases hE : bE X = 0
             · by_cases hBq : bB X = bs
               · have hg : bget bs = some X := by rw [hget,if_pos ⟨hE,hBq⟩]
                 exact .inl ⟨hE,decide_eq_true hBq,by unfold zbk; rw [hg]; rfl,by unfold zcn; rw [hg]; rfl⟩
               · have hg : bget bs = none := by rw [hget,if_neg (fun h => hBq h.2)]
                 exact .inr (.inl ⟨hE,decide_eq_false hBq,by unfold zbk; rw [hg]; rfl,by unfold zcn; rw [hg]; rfl⟩)
             · have hg : bget bs = none := by rw [hget,if_neg (fun h => hE h.1)]
               exact .inr (.inr ⟨decide_eq_false hE,by unfold zbk; rw [hg]; rfl,by unfold zcn; rw [hg]; rfl⟩)
           have hP : X.b = N0 ∧ X.c = N1 ∧ X.p = N2 ∧ X.e = N3 ∧ X.s = N4 ∧ X.rs = qs := by rw [← hX]; exact ⟨rfl,rfl,rfl,rfl,rfl,rfl⟩
           clear hget hinv hR
           rcases hstop with D | D | D
           all_goals simp only [go_sem,zaa,Nat.reduceAdd,Nat.reduceSub,Nat.reduceMul,Int.reduceToNat,reduceCtorEq,↓reduceIte,Int.reducePow,Nat.reducePow,Int.reduceMod,Nat.reduceLeDiff,Int.reduceLE,Int.reduceNe,Int.reduceEq,Nat.reduceEqDiff,Nat.reduceLT,Nat.reduceBEq,ty,Sdget,zar,rrgetS,rputS4,rrd,D,hql]
           all_goals refine ⟨_,weak_fg 7 6 79 (qs.map rv) rfl (zbi qs) (by simp [slot,AV.ids]),?_⟩
           all_goals simp only [fgL,fgH,AV.fg,Blk.fg,Nat.reduceBEq,cond_true,cond_false,hdle,Bool.and_true,beq_self_eq_true,Bool.true_and,List.drop_zero,htk]
           all_goals rcases hend with E | E | E
           all_goals simp only [go_sem,zaa,Nat.reduceAdd,Nat.reduceSub,Nat.reduceMul,Int.reduceToNat,reduceCtorEq,↓reduceIte,Int.reducePow,Nat.reducePow,Int.reduceMod,Nat.reduceLeDiff,Int.reduceLE,Int.reduceNe,Int.reduceEq,Nat.reduceEqDiff,Nat.reduceLT,Nat.reduceBEq,ty,Sdget,zar,rrgetS,rputS4,rrd,hmL,hi40,hex,hrr,zbi,hbE,hbB,hP,E,bav,List.map_nil,zcz,fillS,hie]
 · exact hp.elim
end
end Go.Proofs.Ytihbcgbmlecpbaa
namespace Go.Proofs.Ytihbcgbmlecpbaa
open Ax
def rtakeQ (x : Int) (bs : List UInt8) (e : Int) : List UInt8 × Int :=
 if x = 116 ∨ x = 103 ∨ x = 107 then (rtL 255 bs e,rtE 255 bs e) else if x = 99 ∨ x = 102 then (rfixL 1 bs e,rfixE 1 bs e) else if x = 98 then (rtL 1073741824 bs e,rtE 1073741824 bs e) else (numL bs e,numE bs e)
def rtakeA (x : Int) (bs : List UInt8) (e : Int) (k : Int) (t : List UInt8) (i p : Int) (c f : Bool) (o m w : Int) (g mb : List UInt8) (n b1 b2 b3 b4 b5 : Int) (xs : List AV) (fl : Bool) : AV :=
 .agg [.w (.int .u8 k),.str (if x = 116 then rtS' 255 bs e else t),.w (.int .i64 (if x = 105 then numN bs e else i)),.w (.int .i64 (if x = 112 then numN bs e else p)),.w (.bool (if x = 99 then decide (zci 1 bs e = 1) else c)),.w (.bool (if x = 102 then decide (zci 1 bs e = 1) else f)),.w (.int .i64 (if x = 111 then numN bs e else o)),.w (.int .i64 (if x = 109 then numN bs e else m)),.w (.int .i64 (if x = 119 then numN bs e else w)),.str (if x = 103 then rtS' 255 bs e else g),.str (if x = 107 then rtS' 255 bs e else mb),.w (.int .i64 (if x = 110 then numN bs e else n)),.w (.int .i64 (if x = 98 then (zbk (rtS' 1073741824 bs e)).b else b1)),.w (.int .i64 (if x = 98 then (zbk (rtS' 1073741824 bs e)).c else b2)),.w (.int .i64 (if x = 98 then (zbk (rtS' 1073741824 bs e)).p else b3)),.w (.int .i64 (if x = 98 then (zbk (rtS' 1073741824 bs e)).e else b4)),.w (.int .i64 (if x = 98 then (zbk (rtS' 1073741824 bs e)).s else b5)),.sg 6 (if x = 98 then (zbk (rtS' 1073741824 bs e)).rs.map rv else xs) (if x = 98 then emp (zbk (rtS' 1073741824 bs e)).rs else fl)]
def rtakeS : zak
 | [.agg [.sb bs fb,.w (.int .i64 e)],.agg [.w (.int .u8 k),.str t,.w (.int .i64 i),.w (.int .i64 p),.w (.bool c),.w (.bool f),.w (.int .i64 o),.w (.int .i64 m),.w (.int .i64 w),.str g,.str mb,.w (.int .i64 n),.w (.int .i64 b1),.w (.int .i64 b2),.w (.int .i64 b3),.w (.int .i64 b4),.w (.int .i64 b5),.sg 6 xs fl],.w (.int .u8 x)],[] => ⟨ltr22 x ∧ bs.length ≤ 1000000 ∧ ∃ rs : List Rec,xs = rs.map rv,.tup [rrd (rtakeQ x bs e).1 fb (rtakeQ x bs e).2,rtakeA x bs e k t i p c f o m w g mb n b1 b2 b3 b4 b5 xs fl],[]⟩
 | _,_ => zbd
def Srtake (f : FuncId) : Option zak :=
 match f with
 | 38 => some zaz
 | 37 => some zar
 | 41 => some zax
 | 81 => some bgetS
 | _ => none
theorem Srtake_ok : Fns Try.prog Srtake := by
 intro f s h
 unfold Srtake at h
 split at h
 · injection h with h; subst h; exact ⟨⟨_,Try.func38,by kernel_rfl,by kernel_rfl⟩,rrfix_sound⟩
 · injection h with h; subst h; exact ⟨⟨_,Try.func37,by kernel_rfl,by kernel_rfl⟩,rrnum_sound⟩
 · injection h with h; subst h; exact ⟨⟨_,Try.func41,by kernel_rfl,by kernel_rfl⟩,rrtext_sound⟩
 · injection h with h; subst h; exact ⟨⟨_,Try.func81,by kernel_rfl,by kernel_rfl⟩,dget_sound⟩
 · cases h
def rtakePl : Plan := fun id => match id with
 | 29 => some [(1,2)]
 | _ => none
section
set_option maxRecDepth 100000
set_option maxHeartbeats 8000000 in
theorem rtake_sound : zaq Try.prog 61 rtakeS := by
 refine zev (S := Srtake) (T := ty) (pl := rtakePl) zau ty_ok Srtake_ok Try.func61 (c := Try.f61.body.getD .skip) (by kernel_rfl) (by kernel_rfl) (fun xs pins hp _ => ?_)
 unfold rtakeS at hp ⊢
 split at hp
 · rename_i bs fb e k t i p c f o m w g mb n b1 b2 b3 b4 b5 xs fl x _
   obtain ⟨hx,hb,rs,rfl⟩ := hp
   have hmr := zag rs
   have hcl := zbi rs
   have tk : ∀ l : List UInt8,List.take l.length l = l := fun l => List.take_length
   have hS : (rtS' 1073741824 bs e).length ≤ 1000000 := by have := tkS_len22 1073741824 bs e; omega
   refine ⟨by simp,?_⟩
   unfold Try.f61
   rcases hx with rfl | rfl | rfl | rfl | rfl | rfl | rfl | rfl | rfl | rfl | rfl | rfl
   all_goals
     simp only [go_sem,zac,Nat.reduceAdd,Nat.reduceSub,Nat.reduceMul,Int.reduceToNat,reduceCtorEq,↓reduceIte,Int.reducePow,Nat.reducePow,Int.reduceMod,Nat.reduceLeDiff,Int.reduceLE,Int.reduceNe,Int.reduceEq,Nat.reduceEqDiff,Nat.reduceLT,Nat.reduceBEq,List.map_cons,List.map_nil,List.toList_toArray,Array.toList_append,Option.toArray_some,Option.toArray_none,Bool.and_self,ty,Srtake,rtakePl,zaz,zar,zax,bgetS,bav,rrd,hb,hS,tk,hcl,Int.reduceEq,Nat.reduceEqDiff,or_self,or_false,false_or,or_true,true_or,if_true,if_false]
     try (repeat (refine And.intro (by first | omega | decide) ?_))
     refine ⟨_,Weak.refl _,?_⟩
     simp only [go_sem,zac,Nat.reduceAdd,Nat.reduceSub,Nat.reduceMul,Int.reduceToNat,reduceCtorEq,↓reduceIte,Int.reducePow,Nat.reducePow,Int.reduceMod,Nat.reduceLeDiff,Int.reduceLE,Int.reduceNe,Int.reduceEq,Nat.reduceEqDiff,Nat.reduceLT,Nat.reduceBEq,List.map_cons,List.map_nil,List.toList_toArray,Array.toList_append,Option.toArray_some,Option.toArray_none,Bool.and_self,ty,rtakeA,rtakeQ,rrd,hcl,Int.reduceEq,Nat.reduceEqDiff,or_self,or_false,false_or,or_true,true_or,if_true,if_false]
 · exact hp.elim
end
end Go.Proofs.Ytihbcgbmlecpbaa
namespace Go.Proofs.Ytihbcgbmlecpbaa
open Ax
def rrdR (b : List UInt8) : Rq := (rdB 1073741824 b).1
theorem rrdR_fit (b : List UInt8) (hb : b.length ≤ 1000000) : fitR (rrdR b) := rdB_fit 1073741824 b hb
theorem rrdR_of {b : List UInt8} (hb : b.length ≤ 1000000) (h : gqOk b) : rrdR b = rdR b := by
 have h1 := congrArg Prod.fst (rd_lay 1073741824 (by decide) (rdR b) h.1 (rdR_fit b hb) [])
 rw [List.append_nil,h.2] at h1
 exact h1
def rgqOk (b : List UInt8) : Prop := chkR (rrdR b) = 0 ∧ layR (rrdR b) = b
theorem rgq_iff {b : List UInt8} (hb : b.length ≤ 1000000) : rgqOk b ↔ gqOk b := by
 constructor
 · intro h
   have h1 := (rd_lay22 (rrdR b) h.1 (rrdR_fit b hb) []).1
   rw [List.append_nil,h.2] at h1
   unfold gqOk
   rw [h1]
   exact h
 · intro h
   have h1 := rrdR_of hb h
   unfold rgqOk
   rw [h1]
   exact h
theorem rgq_cases (b : List UInt8) (hb : b.length ≤ 1000000) {M : Rq} (hM : rrdR b = M) {C : Int} {W : List UInt8} (hC : chkR M = C) (hW : putR M = W) :
   (gqOk b ∧ rdR b = M ∧ decide (C = 0) = true ∧ decide (W = b) = true) ∨ (¬ gqOk b ∧ decide (C = 0) = false) ∨ (¬ gqOk b ∧ decide (C = 0) = true ∧ decide (W = b) = false) := by
 subst hM hC hW
 by_cases hg : gqOk b
 · have h1 := rrdR_of hb hg
   have h2 := (rgq_iff hb).2 hg
   have h3 : putR (rrdR b) = b := (if_pos h2.1).trans h2.2
   exact .inl ⟨hg,h1.symm,decide_eq_true h2.1,decide_eq_true h3⟩
 · by_cases h2 : chkR (rrdR b) = 0
   · by_cases h3 : putR (rrdR b) = b
     · exact (hg ((rgq_iff hb).1 ⟨h2,(if_pos h2).symm.trans h3⟩)).elim
     · exact .inr (.inr ⟨hg,decide_eq_true h2,decide_eq_false h3⟩)
   · exact .inr (.inl ⟨hg,decide_eq_false h2⟩)
theorem rtakeA_rq (x : Int) (bs : List UInt8) (e : Int) (q : Rq) : rtakeA x bs e q.k q.t q.i q.p q.c q.f q.o q.m q.w q.g q.mb q.n q.b.b q.b.c q.b.p q.b.e q.b.s (q.b.rs.map rv) (emp q.b.rs) = rqA (tkR 1073741824 x (bs,e) q) (emp (tkR 1073741824 x (bs,e) q).b.rs) := by
 unfold rtakeA rqA tkR
 by_cases h : x = 98
 · simp only [if_pos h]
 · simp only [if_neg h]
def SrgetQ (f : FuncId) : Option zak :=
 match f with
 | 38 => some zaz
 | 49 => some usesS
 | 61 => some rtakeS
 | 25 => some putQS
 | _ => none
theorem SrgetQ_ok : Fns Try.prog SrgetQ := by
 intro f s h
 unfold SrgetQ at h
 split at h
 · injection h with h; subst h; exact ⟨⟨_,Try.func38,by kernel_rfl,by kernel_rfl⟩,rrfix_sound⟩
 · injection h with h; subst h; exact ⟨⟨_,Try.func49,by kernel_rfl,by kernel_rfl⟩,ruses22_sound⟩
 · injection h with h; subst h; exact ⟨⟨_,Try.func61,by kernel_rfl,by kernel_rfl⟩,rtake_sound⟩
 · injection h with h; subst h; exact ⟨⟨_,Try.func25,by kernel_rfl,by kernel_rfl⟩,rputQ_sound⟩
 · cases h
def rgetQPl : XPlan := fun id => match id with
 | 7 => .prs []
 | _ => .std
section
set_option maxRecDepth 100000
set_option maxHeartbeats 8000000 in
theorem rgetQ_sound : zaq Try.prog 36 zct := by
 refine zbx (S := SrgetQ) (SO := noO) (T := ty) zau ty_ok SrgetQ_ok noO_ok Try.func36 (c := Try.f36.body.getD .skip) (by kernel_rfl) (fun xs pins hp _ => ?_)
 have hx : ∃ b f,xs = [.sb b f] ∧ pins = [] ∧ b.length ≤ 1000000 := by
   unfold zct at hp
   split at hp
   · rename_i b f _
     exact ⟨b,f,rfl,rfl,hp⟩
   · exact hp.elim
 obtain ⟨b,f,rfl,rfl,hb⟩ := hx
 refine ⟨by simp,rgetQPl,by kernel_rfl,?_⟩
 have hK' : zci 1 b 0 % 256 = kq b := rfl
 obtain ⟨K,hK⟩ : ∃ x,kq b = x := ⟨_,rfl⟩
 have hKr := kq_rng b
 rw [hK] at hK' hKr
 obtain ⟨hK0,hK1⟩ := hKr
 have hK3 : K ≤ 255 := by omega
 have tk : ∀ l : List UInt8,List.take l.length l = l := fun l => List.take_length
 obtain ⟨a0,ha0⟩ : ∃ x,rfixL 1 b 0 = x := ⟨_,rfl⟩
 obtain ⟨z0,hz0⟩ : ∃ x,rfixE 1 b 0 = x := ⟨_,rfl⟩
 have hl0 : a0.length ≤ 1000000 := by have := zdd 1 b 0; rw [ha0] at this; omega
 have hul := uses_len K
 have hlt : ∀ x ∈ zcq K,ltr22 (x.toNat : Int) := fun x hx => let_ltr hx
 obtain ⟨L,hLL⟩ : ∃ L,zcq K = L := ⟨_,rfl⟩
 rw [hLL] at hul hlt
 have hrd : rdB 1073741824 b = rdL 1073741824 L (a0,z0) (zRk K) := by unfold rdB; rw [hK,hLL]; unfold sq0; rw [ha0,hz0]
 unfold Try.f36
 simp only [go_sem,zab,Nat.reduceAdd,Nat.reduceSub,Nat.reduceMul,Int.reduceToNat,reduceCtorEq,↓reduceIte,Int.reducePow,Nat.reducePow,Int.reduceMod,Nat.reduceLeDiff,Int.reduceLE,Int.reduceNe,Int.reduceEq,Nat.reduceEqDiff,Nat.reduceLT,Nat.reduceBEq,List.map_cons,List.map_nil,List.toList_toArray,Array.toList_append,Option.toArray_some,Option.toArray_none,Bool.and_self,ty,SrgetQ,rgetQPl,zaz,usesS,rrd,hb,hK',hLL,ha0,hz0,hl0,hK0,hK1,hK3,tk]
 refine awpO_loopW ⟨fun mm σ => ∃ (j : Nat) (M : Rq) (u : List UInt8) (e : Int),mm = L.length - j ∧ j ≤ L.length ∧ rdL 1073741824 (L.take j) (a0,z0) (zRk K) = (M,(u,e)) ∧
   σ = ⟨[.sb b f,.junk,.rf 4 18 0 0,.w (.int .i64 0),.rf 5 2 0 0,.junk,.rf 6 18 0 0,.str L,.w (.int .i64 j),.junk,.junk,.junk,.junk,.junk,.junk,.junk,.junk,.junk,.junk,.junk,.junk,.junk,.junk,.junk,.junk,.junk,.junk,.junk,.junk,.junk,.junk,.junk,.junk,.junk,.junk,.junk,.junk,.junk,.junk,.junk,.junk,.junk,.junk,.junk,.junk,.junk,.junk,.junk,.junk,.junk,.junk,.junk,.junk,.junk],[(4,.g 18 [.agg [.w (.int .u8 0),.str [],.w (.int .i64 0),.w (.int .i64 0),.w (.bool false),.w (.bool false),.w (.int .i64 0),.w (.int .i64 0),.w (.int .i64 0),.str [],.str [],.w (.int .i64 0),.w (.int .i64 0),.w (.int .i64 0),.w (.int .i64 0),.w (.int .i64 0),.w (.int .i64 0),.sg 6 [] true]]),(5,.g 2 [.agg [.sb u f,.w (.int .i64 e)]]),(6,.g 18 [.agg [.w (.int .u8 M.k),.str M.t,.w (.int .i64 M.i),.w (.int .i64 M.p),.w (.bool M.c),.w (.bool M.f),.w (.int .i64 M.o),.w (.int .i64 M.m),.w (.int .i64 M.w),.str M.g,.str M.mb,.w (.int .i64 M.n),.w (.int .i64 M.b.b),.w (.int .i64 M.b.c),.w (.int .i64 M.b.p),.w (.int .i64 M.b.e),.w (.int .i64 M.b.s),.sg 6 (M.b.rs.map rv) (emp M.b.rs)]])],7⟩,?_,?_⟩
 · refine ⟨_,_,zaf [0,1,2,3,4,68,116] rfl rfl rfl ?_ ?_,0,zRk K,a0,z0,rfl,by omega,rfl,rfl⟩
   · simp only [ssT,zai,zaj,setSlot,gOf,AV.ren,renL,Blk.ren,Ax.look,Ax.put,reduceCtorEq,↓reduceIte,Nat.reduceEqDiff,Nat.reduceLT,Nat.reduceAdd,List.length_append,List.length_cons,List.length_nil,Option.some.injEq]; try simp
   · simp only [ssT,zai,zaj,setSlot,gOf,AV.ren,renL,Blk.ren,Ax.look,Ax.put,reduceCtorEq,↓reduceIte,Nat.reduceEqDiff,Nat.reduceLT,Nat.reduceAdd,List.length_append,List.length_cons,List.length_nil,Option.some.injEq,zRk,zB,zcz,List.map_nil]; try simp
 · rintro m' σ ⟨j,M,u,e,rfl,hj,hM,rfl⟩
   have hfa := fit_all 1073741824 (L.take j) (a0,z0) (zRk K) hl0 (by rw [← hK]; exact zR_fit b)
   rw [hM] at hfa
   obtain ⟨hfit,hu⟩ := hfa
   have hu : u.length ≤ 1000000 := Nat.le_trans hu hl0
   have hex : ∃ qs : List Rec,M.b.rs.map rv = qs.map rv := ⟨M.b.rs,rfl⟩
   have hcl := zbi M.b.rs
   by_cases hjl : j < L.length
   · have d1 : decide ((j : Int) < L.length) = true := decide_eq_true (by omega)
     have e1 : ((j : Int) + 1 + 9223372036854775808) % 18446744073709551616 - 9223372036854775808 = ((j + 1 : Nat) : Int) := by omega
     have hx1 : L.getD j 0 = L[j] := by rw [List.getD_eq_getElem?_getD,List.getElem?_eq_getElem hjl]; rfl
     have hlx := hlt L[j] (List.getElem_mem hjl)
     have hnext := rdL_take 1073741824 L (a0,z0) (zRk K) hjl
     rw [hM] at hnext
     simp only at hnext
     obtain ⟨x,hx⟩ : ∃ x,((L[j].toNat : Nat) : Int) = x := ⟨_,rfl⟩
     rw [hx] at hlx hnext
     have hT := rtakeA_rq x u e M
     obtain ⟨M',hM'⟩ : ∃ M',tkR 1073741824 x (u,e) M = M' := ⟨_,rfl⟩
     have hQ : rtakeQ x u e = nxB 1073741824 x (u,e) := rfl
     obtain ⟨⟨u',e'⟩,hs'⟩ : ∃ s',nxB 1073741824 x (u,e) = s' := ⟨_,rfl⟩
     rw [hM'] at hT hnext
     rw [hs'] at hQ hnext
     have hcl' := zbi M'.b.rs
     simp only [go_sem,zab,Nat.reduceAdd,Nat.reduceSub,Nat.reduceMul,Int.reduceToNat,reduceCtorEq,↓reduceIte,Int.reducePow,Nat.reducePow,Int.reduceMod,Nat.reduceLeDiff,Int.reduceLE,Int.reduceNe,Int.reduceEq,Nat.reduceEqDiff,Nat.reduceLT,Nat.reduceBEq,List.map_cons,List.map_nil,List.toList_toArray,Array.toList_append,Option.toArray_some,Option.toArray_none,Bool.and_self,ty,SrgetQ,rgetQPl,rtakeS,rrd,d1,hx1,hx,e1,hjl,Int.toNat_natCast,hlx,hu,hex,hcl,hcl',hT,rqA,hQ]
     repeat (refine And.intro (by first | omega | decide) ?_)
     refine ⟨L.length - (j + 1),_,by omega,zaf [0,1,2,3,4,5,6] rfl rfl rfl ?_ ?_,j + 1,M',u',e',rfl,by omega,hnext,rfl⟩
     · simp only [ssT,zai,zaj,setSlot,gOf,AV.ren,renL,Blk.ren,Ax.look,Ax.put,reduceCtorEq,↓reduceIte,Nat.reduceEqDiff,Nat.reduceLT,Nat.reduceAdd,List.length_append,List.length_cons,List.length_nil,Option.some.injEq]; try simp
     · simp only [ssT,zai,zaj,setSlot,gOf,AV.ren,renL,Blk.ren,Ax.look,Ax.put,reduceCtorEq,↓reduceIte,Nat.reduceEqDiff,Nat.reduceLT,Nat.reduceAdd,List.length_append,List.length_cons,List.length_nil,Option.some.injEq]; try simp
   · obtain rfl : j = L.length := by omega
     have d1 : decide ((L.length : Int) < L.length) = false := decide_eq_false (by omega)
     rw [List.take_length,← hrd] at hM
     have hMr : rrdR b = M := congrArg Prod.fst hM
     obtain ⟨C,hC⟩ : ∃ x,chkR M = x := ⟨_,rfl⟩
     obtain ⟨W,hW⟩ : ∃ x,putR M = x := ⟨_,rfl⟩
     have hcase := rgq_cases b hb hMr hC hW
     have hC' : chkQ M.k M.t M.i M.p M.c M.f M.o M.m M.w M.g M.mb M.n M.b.b M.b.c M.b.p M.b.e M.b.s M.b.rs = C := hC
     have hW' : putQ M.k M.t M.i M.p M.c M.f M.o M.m M.w M.g M.mb M.n M.b.b M.b.c M.b.p M.b.e M.b.s M.b.rs = W := hW
     obtain ⟨⟨k1,k2⟩,lq,iq,hr40⟩ := hfit
     have h40 : (M.b.rs.map rv).length ≤ 40 := by rw [List.length_map]; exact hr40
     have hmr := zag M.b.rs
     have hVok : gqOk b → rdR b = M → gqA b = .agg [.w (.int .u8 M.k),.str M.t,.w (.int .i64 M.i),.w (.int .i64 M.p),.w (.bool M.c),.w (.bool M.f),.w (.int .i64 M.o),.w (.int .i64 M.m),.w (.int .i64 M.w),.str M.g,.str M.mb,.w (.int .i64 M.n),.w (.int .i64 M.b.b),.w (.int .i64 M.b.c),.w (.int .i64 M.b.p),.w (.int .i64 M.b.e),.w (.int .i64 M.b.s),.sg 6 (M.b.rs.map rv) (emp M.b.rs)] ∧ (if gqOk b then (0 : Int) else 4) = 0 := by
       intro h hMr; unfold gqA gqR; rw [if_pos h,if_pos h,hMr]; exact ⟨rfl,rfl⟩
     have hVno : ¬ gqOk b → gqA b = .agg [.w (.int .u8 0),.str [],.w (.int .i64 0),.w (.int .i64 0),.w (.bool false),.w (.bool false),.w (.int .i64 0),.w (.int .i64 0),.w (.int .i64 0),.str [],.str [],.w (.int .i64 0),.w (.int .i64 0),.w (.int .i64 0),.w (.int .i64 0),.w (.int .i64 0),.w (.int .i64 0),.sg 6 [] true] ∧ (if gqOk b then (0 : Int) else 4) = 4 := by
       intro h; unfold gqA gqR; rw [if_neg h,if_neg h]; exact ⟨rfl,rfl⟩
     rcases hcase with X | X | X
     · obtain ⟨w1,w2⟩ := hVok X.1 X.2.1
       simp only [go_sem,zab,Nat.reduceAdd,Nat.reduceSub,Nat.reduceMul,Int.reduceToNat,reduceCtorEq,↓reduceIte,Int.reducePow,Nat.reducePow,Int.reduceMod,Nat.reduceLeDiff,Int.reduceLE,Int.reduceNe,Int.reduceEq,Nat.reduceEqDiff,Nat.reduceLT,Nat.reduceBEq,List.map_cons,List.map_nil,List.toList_toArray,Array.toList_append,Option.toArray_some,Option.toArray_none,Bool.and_self,ty,SrgetQ,rgetQPl,zct,putQS,rrd,d1,hu,k1,k2,lq,iq,hC',hW',tk,hex,hcl,h40,hmr,X.2,w1,w2]
       refine ⟨_,Weak.refl _,?_⟩
       simp only [go_sem,zab,Nat.reduceAdd,Nat.reduceSub,Nat.reduceMul,Int.reduceToNat,reduceCtorEq,↓reduceIte,Int.reducePow,Nat.reducePow,Int.reduceMod,Nat.reduceLeDiff,Int.reduceLE,Int.reduceNe,Int.reduceEq,Nat.reduceEqDiff,Nat.reduceLT,Nat.reduceBEq,List.map_cons,List.map_nil,List.toList_toArray,Array.toList_append,Option.toArray_some,Option.toArray_none,Bool.and_self,ty,SrgetQ,rgetQPl,zct,putQS,rrd,d1,hu,k1,k2,lq,iq,hC',hW',tk,hex,hcl,h40,hmr,X.2,w1,w2]
       refine ⟨_,Weak.refl _,?_⟩
       simp only [go_sem,zab,Nat.reduceAdd,Nat.reduceSub,Nat.reduceMul,Int.reduceToNat,reduceCtorEq,↓reduceIte,Int.reducePow,Nat.reducePow,Int.reduceMod,Nat.reduceLeDiff,Int.reduceLE,Int.reduceNe,Int.reduceEq,Nat.reduceEqDiff,Nat.reduceLT,Nat.reduceBEq,List.map_cons,List.map_nil,List.toList_toArray,Array.toList_append,Option.toArray_some,Option.toArray_none,Bool.and_self,ty]
     all_goals
       obtain ⟨w1,w2⟩ := hVno X.1
       simp only [go_sem,zab,Nat.reduceAdd,Nat.reduceSub,Nat.reduceMul,Int.reduceToNat,reduceCtorEq,↓reduceIte,Int.reducePow,Nat.reducePow,Int.reduceMod,Nat.reduceLeDiff,Int.reduceLE,Int.reduceNe,Int.reduceEq,Nat.reduceEqDiff,Nat.reduceLT,Nat.reduceBEq,List.map_cons,List.map_nil,List.toList_toArray,Array.toList_append,Option.toArray_some,Option.toArray_none,Bool.and_self,ty,SrgetQ,rgetQPl,zct,putQS,rrd,d1,hu,k1,k2,lq,iq,hC',hW',tk,hex,hcl,h40,hmr,X.2,w1,w2]
       refine ⟨_,Weak.refl _,?_⟩
       simp only [go_sem,zab,Nat.reduceAdd,Nat.reduceSub,Nat.reduceMul,Int.reduceToNat,reduceCtorEq,↓reduceIte,Int.reducePow,Nat.reducePow,Int.reduceMod,Nat.reduceLeDiff,Int.reduceLE,Int.reduceNe,Int.reduceEq,Nat.reduceEqDiff,Nat.reduceLT,Nat.reduceBEq,List.map_cons,List.map_nil,List.toList_toArray,Array.toList_append,Option.toArray_some,Option.toArray_none,Bool.and_self,ty,SrgetQ,rgetQPl,zct,putQS,rrd,d1,hu,k1,k2,lq,iq,hC',hW',tk,hex,hcl,h40,hmr,X.2,w1,w2]
       refine ⟨_,Weak.refl _,?_⟩
       simp only [go_sem,zab,Nat.reduceAdd,Nat.reduceSub,Nat.reduceMul,Int.reduceToNat,reduceCtorEq,↓reduceIte,Int.reducePow,Nat.reducePow,Int.reduceMod,Nat.reduceLeDiff,Int.reduceLE,Int.reduceNe,Int.reduceEq,Nat.reduceEqDiff,Nat.reduceLT,Nat.reduceBEq,List.map_cons,List.map_nil,List.toList_toArray,Array.toList_append,Option.toArray_some,Option.toArray_none,Bool.and_self,ty]
end
end Go.Proofs.Ytihbcgbmlecpbaa
namespace Go.Proofs.Ytihbcgbmlecpbaa
open Ax
def zfe (f : FuncId) : Option zak :=
 match f with
 | 36 => some zct
 | 37 => some zar
 | 38 => some zaz
 | 9 => some zcs
 | _ => none
theorem SrgetT_ok : Fns Try.prog zfe := by
 intro f s h
 unfold zfe at h
 split at h
 · injection h with h; subst h; exact ⟨⟨_,Try.func36,by kernel_rfl,by kernel_rfl⟩,rgetQ_sound⟩
 · injection h with h; subst h; exact ⟨⟨_,Try.func37,by kernel_rfl,by kernel_rfl⟩,rrnum_sound⟩
 · injection h with h; subst h; exact ⟨⟨_,Try.func38,by kernel_rfl,by kernel_rfl⟩,rrfix_sound⟩
 · injection h with h; subst h; exact ⟨⟨_,Try.func9,by kernel_rfl,by kernel_rfl⟩,rputT_sound⟩
 · cases h
def zeb : XPlan := fun id => match id with
 | 17 => .prs [(4,5)]
 | _ => .std
section
set_option maxRecDepth 100000
set_option maxHeartbeats 40000000 in
theorem rgetT_sound : zaq Try.prog 16 getTS := by
 refine zbx (S := zfe) (SO := noO) (T := ty) zau ty_ok SrgetT_ok noO_ok Try.func16 (c := Try.f16.body.getD .skip) (by kernel_rfl) (fun xs pins hp _ => ?_)
 unfold getTS at hp ⊢
 split at hp
 · rename_i b fb _
   have hb : b.length ≤ 1000000 := hp
   refine ⟨by simp,zeb,by kernel_rfl,?_⟩
   have tk : ∀ l : List UInt8,List.take l.length l = l := fun l => List.take_length
   unfold Try.f16
   cases b with
   | nil =>
     obtain ⟨w1,w2⟩ := gtA_no (b := []) (fun h => h.1 rfl)
     rw [w1,w2]
     have hz : decide (((0 : Nat) : Int) = 0) = true := by decide
     simp only [go_sem,zab,Nat.reduceAdd,Nat.reduceSub,Nat.reduceMul,Int.reduceToNat,reduceCtorEq,↓reduceIte,Int.reducePow,Nat.reducePow,Int.reduceMod,Nat.reduceLeDiff,Int.reduceLE,Int.reduceNe,Int.reduceEq,Nat.reduceEqDiff,Nat.reduceLT,Nat.reduceBEq,List.map_cons,List.map_nil,List.toList_toArray,Array.toList_append,Option.toArray_some,Option.toArray_none,Bool.and_self,ty,zfe,zeb,List.length_nil,fillS,hz]
     refine ⟨_,Weak.refl _,?_⟩
     simp only [go_sem,zab,Nat.reduceAdd,Nat.reduceSub,Nat.reduceMul,Int.reduceToNat,reduceCtorEq,↓reduceIte,Int.reducePow,Nat.reducePow,Int.reduceMod,Nat.reduceLeDiff,Int.reduceLE,Int.reduceNe,Int.reduceEq,Nat.reduceEqDiff,Nat.reduceLT,Nat.reduceBEq,List.map_cons,List.map_nil,List.toList_toArray,Array.toList_append,Option.toArray_some,Option.toArray_none,Bool.and_self,ty]
   | cons x r =>
     have hr : r.length ≤ 1000000 := by rw [List.length_cons] at hb; omega
     have h0 : decide (((r.length + 1 : Nat) : Int) = 0) = false := decide_eq_false (by omega)
     obtain ⟨K,hK⟩ : ∃ K,((x.toNat : Nat) : Int) = K := ⟨_,rfl⟩
     have hKr : 0 ≤ K ∧ K < 256 := by have := x.toNat_lt; omega
     obtain ⟨k1,k2⟩ := hKr
     have hNo := @gtA_no (x :: r)
     have hne : (x :: r) ≠ [] := by simp
     rcases kind_cases6 K k1 with rfl | rfl | rfl | rfl | rfl | hbig
     · have hS : rdT (x :: r) = ⟨0,gqR r,0,false,[]⟩ := by
         rw [zdb,hK]; simp only [Int.reduceEq,if_true,if_false]
       obtain ⟨M,hM⟩ : ∃ M,gqR r = M := ⟨_,rfl⟩
       have hfit := gqR_fit r hr
       have hqa : gqA r = .agg [.w (.int .u8 M.k),.str M.t,.w (.int .i64 M.i),.w (.int .i64 M.p),.w (.bool M.c),.w (.bool M.f),.w (.int .i64 M.o),.w (.int .i64 M.m),.w (.int .i64 M.w),.str M.g,.str M.mb,.w (.int .i64 M.n),.w (.int .i64 M.b.b),.w (.int .i64 M.b.c),.w (.int .i64 M.b.p),.w (.int .i64 M.b.e),.w (.int .i64 M.b.s),.sg 6 (M.b.rs.map rv) (emp M.b.rs)] := by unfold gqA; rw [hM]; rfl
       rw [hM] at hS hfit
       obtain ⟨⟨q0,q1⟩,lq,iq,hr40⟩ := hfit
       have h40 : (M.b.rs.map rv).length ≤ 40 := by rw [List.length_map]; exact hr40
       have hmr := zag M.b.rs
       have hex : ∃ qs : List Rec,M.b.rs.map rv = qs.map rv := ⟨M.b.rs,rfl⟩
       have hcl := zbi M.b.rs
       obtain ⟨C,hC⟩ : ∃ C,chkS ⟨0,M,0,false,[]⟩ = C := ⟨_,rfl⟩
       obtain ⟨W,hW⟩ : ∃ W,zfc ⟨0,M,0,false,[]⟩ = W := ⟨_,rfl⟩
       have hC' : chkT 0 M.k M.t M.i M.p M.c M.f M.o M.m M.w M.g M.mb M.n M.b.b M.b.c M.b.p M.b.e M.b.s M.b.rs 0 false [] = C := hC
       have hW' : putT 0 M.k M.t M.i M.p M.c M.f M.o M.m M.w M.g M.mb M.n M.b.b M.b.c M.b.p M.b.e M.b.s M.b.rs 0 false [] = W := hW
       have hOk : gtOk (x :: r) → gtA (x :: r) = .agg [.w (.int .u8 0),.w (.int .u8 M.k),.str M.t,.w (.int .i64 M.i),.w (.int .i64 M.p),.w (.bool M.c),.w (.bool M.f),.w (.int .i64 M.o),.w (.int .i64 M.m),.w (.int .i64 M.w),.str M.g,.str M.mb,.w (.int .i64 M.n),.w (.int .i64 M.b.b),.w (.int .i64 M.b.c),.w (.int .i64 M.b.p),.w (.int .i64 M.b.e),.w (.int .i64 M.b.s),.sg 6 (M.b.rs.map rv) (emp M.b.rs),.w (.int .i64 0),.w (.bool false),.sb [] true] ∧ (if gtOk (x :: r) then (0 : Int) else 4) = 0 := by
         intro h; unfold gtA gtS; rw [if_pos h,if_pos h,hS]; exact ⟨rfl,rfl⟩
       have hcase := zdn (x :: r) hne hS hC hW
       rcases hcase with X | X | X
       · obtain ⟨w1,w2⟩ := hOk X.1
         rw [w1,w2]
         simp only [go_sem,zab,Nat.reduceAdd,Nat.reduceSub,Nat.reduceMul,Int.reduceToNat,reduceCtorEq,↓reduceIte,Int.reducePow,Nat.reducePow,Int.reduceMod,Nat.reduceLeDiff,Int.reduceLE,Int.reduceNe,Int.reduceEq,Nat.reduceEqDiff,Nat.reduceLT,Nat.reduceBEq,List.map_cons,List.map_nil,List.toList_toArray,Array.toList_append,Option.toArray_some,Option.toArray_none,Bool.and_self,ty,zfe,zeb,fillS,zct,zar,zaz,zcs,zdj,rd,rrd,h0,hK,hb,hr,tk,hC',hW',X.2,okz,okz0,hqa,q0,q1,lq,iq,h40,hmr,hex,hcl,List.length_nil,Nat.zero_le,Int.reduceEq,Int.reduceLT,Int.reduceLE,Nat.reduceEqDiff,or_self,or_false,false_or,or_true,true_or,if_true,if_false,List.drop_succ_cons,List.drop_zero,Nat.add_sub_cancel,List.getD_cons_zero,List.length_cons]
         repeat (refine And.intro (by first | omega | (unfold top; omega) | decide) ?_)
         refine ⟨_,Weak.refl _,?_⟩
         simp only [go_sem,zab,Nat.reduceAdd,Nat.reduceSub,Nat.reduceMul,Int.reduceToNat,reduceCtorEq,↓reduceIte,Int.reducePow,Nat.reducePow,Int.reduceMod,Nat.reduceLeDiff,Int.reduceLE,Int.reduceNe,Int.reduceEq,Nat.reduceEqDiff,Nat.reduceLT,Nat.reduceBEq,List.map_cons,List.map_nil,List.toList_toArray,Array.toList_append,Option.toArray_some,Option.toArray_none,Bool.and_self,ty,fzL,fzH,AV.fz,Blk.fz,tk]
       all_goals
         obtain ⟨w1,w2⟩ := hNo X.1
         rw [w1,w2]
         simp only [go_sem,zab,Nat.reduceAdd,Nat.reduceSub,Nat.reduceMul,Int.reduceToNat,reduceCtorEq,↓reduceIte,Int.reducePow,Nat.reducePow,Int.reduceMod,Nat.reduceLeDiff,Int.reduceLE,Int.reduceNe,Int.reduceEq,Nat.reduceEqDiff,Nat.reduceLT,Nat.reduceBEq,List.map_cons,List.map_nil,List.toList_toArray,Array.toList_append,Option.toArray_some,Option.toArray_none,Bool.and_self,ty,zfe,zeb,fillS,zct,zar,zaz,zcs,zdj,rd,rrd,h0,hK,hb,hr,tk,hC',hW',X.2,okz,okz0,hqa,q0,q1,lq,iq,h40,hmr,hex,hcl,List.length_nil,Nat.zero_le,Int.reduceEq,Int.reduceLT,Int.reduceLE,Nat.reduceEqDiff,or_self,or_false,false_or,or_true,true_or,if_true,if_false,List.drop_succ_cons,List.drop_zero,Nat.add_sub_cancel,List.getD_cons_zero,List.length_cons]
         repeat (refine And.intro (by first | omega | (unfold top; omega) | decide) ?_)
         refine ⟨_,Weak.refl _,?_⟩
         simp only [go_sem,zab,Nat.reduceAdd,Nat.reduceSub,Nat.reduceMul,Int.reduceToNat,reduceCtorEq,↓reduceIte,Int.reducePow,Nat.reducePow,Int.reduceMod,Nat.reduceLeDiff,Int.reduceLE,Int.reduceNe,Int.reduceEq,Nat.reduceEqDiff,Nat.reduceLT,Nat.reduceBEq,List.map_cons,List.map_nil,List.toList_toArray,Array.toList_append,Option.toArray_some,Option.toArray_none,Bool.and_self,ty]
     · have hS : rdT (x :: r) = ⟨1,zRk 0,numN r 0,false,[]⟩ := by
         rw [zdb,hK]; simp only [Int.reduceEq,if_true,if_false]
       have hq3 : ∃ rs : List Rec,([] : List AV) = rs.map rv := ⟨[],rfl⟩
       have hq4 : List.map rrec ([] : List AV) = [] := rfl
       have hq5 : lenQ [] [] [] := ⟨by simp,by simp,by simp⟩
       have hq6 : intQ 0 0 0 0 0 0 := ⟨zad,zad,zad,zad,zad,zad⟩
       have hN := zcv r 0
       obtain ⟨C,hC⟩ : ∃ C,chkS ⟨1,zRk 0,numN r 0,false,[]⟩ = C := ⟨_,rfl⟩
       obtain ⟨W,hW⟩ : ∃ W,zfc ⟨1,zRk 0,numN r 0,false,[]⟩ = W := ⟨_,rfl⟩
       have hC' : chkT 1 0 [] 0 0 false false 0 0 0 [] [] 0 0 0 0 0 0 [] (numN r 0) false [] = C := hC
       have hW' : putT 1 0 [] 0 0 false false 0 0 0 [] [] 0 0 0 0 0 0 [] (numN r 0) false [] = W := hW
       have hOk : gtOk (x :: r) → gtA (x :: r) = .agg [.w (.int .u8 1),.w (.int .u8 0),.str [],.w (.int .i64 0),.w (.int .i64 0),.w (.bool false),.w (.bool false),.w (.int .i64 0),.w (.int .i64 0),.w (.int .i64 0),.str [],.str [],.w (.int .i64 0),.w (.int .i64 0),.w (.int .i64 0),.w (.int .i64 0),.w (.int .i64 0),.w (.int .i64 0),.sg 6 [] true,.w (.int .i64 (numN r 0)),.w (.bool false),.sb [] true] ∧ (if gtOk (x :: r) then (0 : Int) else 4) = 0 := by
         intro h; unfold gtA gtS; rw [if_pos h,if_pos h,hS]; exact ⟨rfl,rfl⟩
       have hcase := zdn (x :: r) hne hS hC hW
       rcases hcase with X | X | X
       · obtain ⟨w1,w2⟩ := hOk X.1
         rw [w1,w2]
         simp only [go_sem,zab,Nat.reduceAdd,Nat.reduceSub,Nat.reduceMul,Int.reduceToNat,reduceCtorEq,↓reduceIte,Int.reducePow,Nat.reducePow,Int.reduceMod,Nat.reduceLeDiff,Int.reduceLE,Int.reduceNe,Int.reduceEq,Nat.reduceEqDiff,Nat.reduceLT,Nat.reduceBEq,List.map_cons,List.map_nil,List.toList_toArray,Array.toList_append,Option.toArray_some,Option.toArray_none,Bool.and_self,ty,zfe,zeb,fillS,zct,zar,zaz,zcs,zdj,rd,rrd,h0,hK,hb,hr,tk,hC',hW',X.2,okz,okz0,hq3,hq4,hq5,hq6,Nat.zero_le,List.length_nil,hN,Int.reduceEq,Int.reduceLT,Int.reduceLE,Nat.reduceEqDiff,or_self,or_false,false_or,or_true,true_or,if_true,if_false,List.drop_succ_cons,List.drop_zero,Nat.add_sub_cancel,List.getD_cons_zero,List.length_cons]
         repeat (refine And.intro (by first | omega | (unfold top; omega) | decide) ?_)
         refine ⟨_,Weak.refl _,?_⟩
         simp only [go_sem,zab,Nat.reduceAdd,Nat.reduceSub,Nat.reduceMul,Int.reduceToNat,reduceCtorEq,↓reduceIte,Int.reducePow,Nat.reducePow,Int.reduceMod,Nat.reduceLeDiff,Int.reduceLE,Int.reduceNe,Int.reduceEq,Nat.reduceEqDiff,Nat.reduceLT,Nat.reduceBEq,List.map_cons,List.map_nil,List.toList_toArray,Array.toList_append,Option.toArray_some,Option.toArray_none,Bool.and_self,ty,fzL,fzH,AV.fz,Blk.fz,tk]
       all_goals
         obtain ⟨w1,w2⟩ := hNo X.1
         rw [w1,w2]
         simp only [go_sem,zab,Nat.reduceAdd,Nat.reduceSub,Nat.reduceMul,Int.reduceToNat,reduceCtorEq,↓reduceIte,Int.reducePow,Nat.reducePow,Int.reduceMod,Nat.reduceLeDiff,Int.reduceLE,Int.reduceNe,Int.reduceEq,Nat.reduceEqDiff,Nat.reduceLT,Nat.reduceBEq,List.map_cons,List.map_nil,List.toList_toArray,Array.toList_append,Option.toArray_some,Option.toArray_none,Bool.and_self,ty,zfe,zeb,fillS,zct,zar,zaz,zcs,zdj,rd,rrd,h0,hK,hb,hr,tk,hC',hW',X.2,okz,okz0,hq3,hq4,hq5,hq6,Nat.zero_le,List.length_nil,hN,Int.reduceEq,Int.reduceLT,Int.reduceLE,Nat.reduceEqDiff,or_self,or_false,false_or,or_true,true_or,if_true,if_false,List.drop_succ_cons,List.drop_zero,Nat.add_sub_cancel,List.getD_cons_zero,List.length_cons]
         repeat (refine And.intro (by first | omega | (unfold top; omega) | decide) ?_)
         refine ⟨_,Weak.refl _,?_⟩
         simp only [go_sem,zab,Nat.reduceAdd,Nat.reduceSub,Nat.reduceMul,Int.reduceToNat,reduceCtorEq,↓reduceIte,Int.reducePow,Nat.reducePow,Int.reduceMod,Nat.reduceLeDiff,Int.reduceLE,Int.reduceNe,Int.reduceEq,Nat.reduceEqDiff,Nat.reduceLT,Nat.reduceBEq,List.map_cons,List.map_nil,List.toList_toArray,Array.toList_append,Option.toArray_some,Option.toArray_none,Bool.and_self,ty]
     · have hS : rdT (x :: r) = ⟨2,zRk 0,numN r 0,false,[]⟩ := by
         rw [zdb,hK]; simp only [Int.reduceEq,if_true,if_false]
       have hq3 : ∃ rs : List Rec,([] : List AV) = rs.map rv := ⟨[],rfl⟩
       have hq4 : List.map rrec ([] : List AV) = [] := rfl
       have hq5 : lenQ [] [] [] := ⟨by simp,by simp,by simp⟩
       have hq6 : intQ 0 0 0 0 0 0 := ⟨zad,zad,zad,zad,zad,zad⟩
       have hN := zcv r 0
       obtain ⟨C,hC⟩ : ∃ C,chkS ⟨2,zRk 0,numN r 0,false,[]⟩ = C := ⟨_,rfl⟩
       obtain ⟨W,hW⟩ : ∃ W,zfc ⟨2,zRk 0,numN r 0,false,[]⟩ = W := ⟨_,rfl⟩
       have hC' : chkT 2 0 [] 0 0 false false 0 0 0 [] [] 0 0 0 0 0 0 [] (numN r 0) false [] = C := hC
       have hW' : putT 2 0 [] 0 0 false false 0 0 0 [] [] 0 0 0 0 0 0 [] (numN r 0) false [] = W := hW
       have hOk : gtOk (x :: r) → gtA (x :: r) = .agg [.w (.int .u8 2),.w (.int .u8 0),.str [],.w (.int .i64 0),.w (.int .i64 0),.w (.bool false),.w (.bool false),.w (.int .i64 0),.w (.int .i64 0),.w (.int .i64 0),.str [],.str [],.w (.int .i64 0),.w (.int .i64 0),.w (.int .i64 0),.w (.int .i64 0),.w (.int .i64 0),.w (.int .i64 0),.sg 6 [] true,.w (.int .i64 (numN r 0)),.w (.bool false),.sb [] true] ∧ (if gtOk (x :: r) then (0 : Int) else 4) = 0 := by
         intro h; unfold gtA gtS; rw [if_pos h,if_pos h,hS]; exact ⟨rfl,rfl⟩
       have hcase := zdn (x :: r) hne hS hC hW
       rcases hcase with X | X | X
       · obtain ⟨w1,w2⟩ := hOk X.1
         rw [w1,w2]
         simp only [go_sem,zab,Nat.reduceAdd,Nat.reduceSub,Nat.reduceMul,Int.reduceToNat,reduceCtorEq,↓reduceIte,Int.reducePow,Nat.reducePow,Int.reduceMod,Nat.reduceLeDiff,Int.reduceLE,Int.reduceNe,Int.reduceEq,Nat.reduceEqDiff,Nat.reduceLT,Nat.reduceBEq,List.map_cons,List.map_nil,List.toList_toArray,Array.toList_append,Option.toArray_some,Option.toArray_none,Bool.and_self,ty,zfe,zeb,fillS,zct,zar,zaz,zcs,zdj,rd,rrd,h0,hK,hb,hr,tk,hC',hW',X.2,okz,okz0,hq3,hq4,hq5,hq6,Nat.zero_le,List.length_nil,hN,Int.reduceEq,Int.reduceLT,Int.reduceLE,Nat.reduceEqDiff,or_self,or_false,false_or,or_true,true_or,if_true,if_false,List.drop_succ_cons,List.drop_zero,Nat.add_sub_cancel,List.getD_cons_zero,List.length_cons]
         repeat (refine And.intro (by first | omega | (unfold top; omega) | decide) ?_)
         refine ⟨_,Weak.refl _,?_⟩
         simp only [go_sem,zab,Nat.reduceAdd,Nat.reduceSub,Nat.reduceMul,Int.reduceToNat,reduceCtorEq,↓reduceIte,Int.reducePow,Nat.reducePow,Int.reduceMod,Nat.reduceLeDiff,Int.reduceLE,Int.reduceNe,Int.reduceEq,Nat.reduceEqDiff,Nat.reduceLT,Nat.reduceBEq,List.map_cons,List.map_nil,List.toList_toArray,Array.toList_append,Option.toArray_some,Option.toArray_none,Bool.and_self,ty,fzL,fzH,AV.fz,Blk.fz,tk]
       all_goals
         obtain ⟨w1,w2⟩ := hNo X.1
         rw [w1,w2]
         simp only [go_sem,zab,Nat.reduceAdd,Nat.reduceSub,Nat.reduceMul,Int.reduceToNat,reduceCtorEq,↓reduceIte,Int.reducePow,Nat.reducePow,Int.reduceMod,Nat.reduceLeDiff,Int.reduceLE,Int.reduceNe,Int.reduceEq,Nat.reduceEqDiff,Nat.reduceLT,Nat.reduceBEq,List.map_cons,List.map_nil,List.toList_toArray,Array.toList_append,Option.toArray_some,Option.toArray_none,Bool.and_self,ty,zfe,zeb,fillS,zct,zar,zaz,zcs,zdj,rd,rrd,h0,hK,hb,hr,tk,hC',hW',X.2,okz,okz0,hq3,hq4,hq5,hq6,Nat.zero_le,List.length_nil,hN,Int.reduceEq,Int.reduceLT,Int.reduceLE,Nat.reduceEqDiff,or_self,or_false,false_or,or_true,true_or,if_true,if_false,List.drop_succ_cons,List.drop_zero,Nat.add_sub_cancel,List.getD_cons_zero,List.length_cons]
         repeat (refine And.intro (by first | omega | (unfold top; omega) | decide) ?_)
         refine ⟨_,Weak.refl _,?_⟩
         simp only [go_sem,zab,Nat.reduceAdd,Nat.reduceSub,Nat.reduceMul,Int.reduceToNat,reduceCtorEq,↓reduceIte,Int.reducePow,Nat.reducePow,Int.reduceMod,Nat.reduceLeDiff,Int.reduceLE,Int.reduceNe,Int.reduceEq,Nat.reduceEqDiff,Nat.reduceLT,Nat.reduceBEq,List.map_cons,List.map_nil,List.toList_toArray,Array.toList_append,Option.toArray_some,Option.toArray_none,Bool.and_self,ty]
     · have hS : rdT (x :: r) = ⟨3,zRk 0,numN r 0,decide (zci 1 (numL r 0) (numE r 0) = 1),[]⟩ := by
         rw [zdb,hK]; simp only [Int.reduceEq,if_true,if_false]
       have hq3 : ∃ rs : List Rec,([] : List AV) = rs.map rv := ⟨[],rfl⟩
       have hq4 : List.map rrec ([] : List AV) = [] := rfl
       have hq5 : lenQ [] [] [] := ⟨by simp,by simp,by simp⟩
       have hq6 : intQ 0 0 0 0 0 0 := ⟨zad,zad,zad,zad,zad,zad⟩
       have hN := zcv r 0
       have hnl : (numL r 0).length ≤ 1000000 := Nat.le_trans (zbm r 0) hr
       obtain ⟨C,hC⟩ : ∃ C,chkS ⟨3,zRk 0,numN r 0,decide (zci 1 (numL r 0) (numE r 0) = 1),[]⟩ = C := ⟨_,rfl⟩
       obtain ⟨W,hW⟩ : ∃ W,zfc ⟨3,zRk 0,numN r 0,decide (zci 1 (numL r 0) (numE r 0) = 1),[]⟩ = W := ⟨_,rfl⟩
       have hC' : chkT 3 0 [] 0 0 false false 0 0 0 [] [] 0 0 0 0 0 0 [] (numN r 0) (decide (zci 1 (numL r 0) (numE r 0) = 1)) [] = C := hC
       have hW' : putT 3 0 [] 0 0 false false 0 0 0 [] [] 0 0 0 0 0 0 [] (numN r 0) (decide (zci 1 (numL r 0) (numE r 0) = 1)) [] = W := hW
       have hOk : gtOk (x :: r) → gtA (x :: r) = .agg [.w (.int .u8 3),.w (.int .u8 0),.str [],.w (.int .i64 0),.w (.int .i64 0),.w (.bool false),.w (.bool false),.w (.int .i64 0),.w (.int .i64 0),.w (.int .i64 0),.str [],.str [],.w (.int .i64 0),.w (.int .i64 0),.w (.int .i64 0),.w (.int .i64 0),.w (.int .i64 0),.w (.int .i64 0),.sg 6 [] true,.w (.int .i64 (numN r 0)),.w (.bool (decide (zci 1 (numL r 0) (numE r 0) = 1))),.sb [] true] ∧ (if gtOk (x :: r) then (0 : Int) else 4) = 0 := by
         intro h; unfold gtA gtS; rw [if_pos h,if_pos h,hS]; exact ⟨rfl,rfl⟩
       have hcase := zdn (x :: r) hne hS hC hW
       rcases hcase with X | X | X
       · obtain ⟨w1,w2⟩ := hOk X.1
         rw [w1,w2]
         simp only [go_sem,zab,Nat.reduceAdd,Nat.reduceSub,Nat.reduceMul,Int.reduceToNat,reduceCtorEq,↓reduceIte,Int.reducePow,Nat.reducePow,Int.reduceMod,Nat.reduceLeDiff,Int.reduceLE,Int.reduceNe,Int.reduceEq,Nat.reduceEqDiff,Nat.reduceLT,Nat.reduceBEq,List.map_cons,List.map_nil,List.toList_toArray,Array.toList_append,Option.toArray_some,Option.toArray_none,Bool.and_self,ty,zfe,zeb,fillS,zct,zar,zaz,zcs,zdj,rd,rrd,h0,hK,hb,hr,tk,hC',hW',X.2,okz,okz0,hq3,hq4,hq5,hq6,Nat.zero_le,List.length_nil,hN,hnl,Int.reduceEq,Int.reduceLT,Int.reduceLE,Nat.reduceEqDiff,or_self,or_false,false_or,or_true,true_or,if_true,if_false,List.drop_succ_cons,List.drop_zero,Nat.add_sub_cancel,List.getD_cons_zero,List.length_cons]
         repeat (refine And.intro (by first | omega | (unfold top; omega) | decide) ?_)
         refine ⟨_,Weak.refl _,?_⟩
         simp only [go_sem,zab,Nat.reduceAdd,Nat.reduceSub,Nat.reduceMul,Int.reduceToNat,reduceCtorEq,↓reduceIte,Int.reducePow,Nat.reducePow,Int.reduceMod,Nat.reduceLeDiff,Int.reduceLE,Int.reduceNe,Int.reduceEq,Nat.reduceEqDiff,Nat.reduceLT,Nat.reduceBEq,List.map_cons,List.map_nil,List.toList_toArray,Array.toList_append,Option.toArray_some,Option.toArray_none,Bool.and_self,ty,fzL,fzH,AV.fz,Blk.fz,tk]
       all_goals
         obtain ⟨w1,w2⟩ := hNo X.1
         rw [w1,w2]
         simp only [go_sem,zab,Nat.reduceAdd,Nat.reduceSub,Nat.reduceMul,Int.reduceToNat,reduceCtorEq,↓reduceIte,Int.reducePow,Nat.reducePow,Int.reduceMod,Nat.reduceLeDiff,Int.reduceLE,Int.reduceNe,Int.reduceEq,Nat.reduceEqDiff,Nat.reduceLT,Nat.reduceBEq,List.map_cons,List.map_nil,List.toList_toArray,Array.toList_append,Option.toArray_some,Option.toArray_none,Bool.and_self,ty,zfe,zeb,fillS,zct,zar,zaz,zcs,zdj,rd,rrd,h0,hK,hb,hr,tk,hC',hW',X.2,okz,okz0,hq3,hq4,hq5,hq6,Nat.zero_le,List.length_nil,hN,hnl,Int.reduceEq,Int.reduceLT,Int.reduceLE,Nat.reduceEqDiff,or_self,or_false,false_or,or_true,true_or,if_true,if_false,List.drop_succ_cons,List.drop_zero,Nat.add_sub_cancel,List.getD_cons_zero,List.length_cons]
         repeat (refine And.intro (by first | omega | (unfold top; omega) | decide) ?_)
         refine ⟨_,Weak.refl _,?_⟩
         simp only [go_sem,zab,Nat.reduceAdd,Nat.reduceSub,Nat.reduceMul,Int.reduceToNat,reduceCtorEq,↓reduceIte,Int.reducePow,Nat.reducePow,Int.reduceMod,Nat.reduceLeDiff,Int.reduceLE,Int.reduceNe,Int.reduceEq,Nat.reduceEqDiff,Nat.reduceLT,Nat.reduceBEq,List.map_cons,List.map_nil,List.toList_toArray,Array.toList_append,Option.toArray_some,Option.toArray_none,Bool.and_self,ty]
     · have hS : rdT (x :: r) = ⟨4,zRk 0,0,false,r⟩ := by
         rw [zdb,hK]; simp only [Int.reduceEq,if_true,if_false]
       have hq3 : ∃ rs : List Rec,([] : List AV) = rs.map rv := ⟨[],rfl⟩
       have hq4 : List.map rrec ([] : List AV) = [] := rfl
       have hq5 : lenQ [] [] [] := ⟨by simp,by simp,by simp⟩
       have hq6 : intQ 0 0 0 0 0 0 := ⟨zad,zad,zad,zad,zad,zad⟩
       obtain ⟨C,hC⟩ : ∃ C,chkS ⟨4,zRk 0,0,false,r⟩ = C := ⟨_,rfl⟩
       obtain ⟨W,hW⟩ : ∃ W,zfc ⟨4,zRk 0,0,false,r⟩ = W := ⟨_,rfl⟩
       have hC' : chkT 4 0 [] 0 0 false false 0 0 0 [] [] 0 0 0 0 0 0 [] 0 false r = C := hC
       have hW' : putT 4 0 [] 0 0 false false 0 0 0 [] [] 0 0 0 0 0 0 [] 0 false r = W := hW
       have hOk : gtOk (x :: r) → gtA (x :: r) = .agg [.w (.int .u8 4),.w (.int .u8 0),.str [],.w (.int .i64 0),.w (.int .i64 0),.w (.bool false),.w (.bool false),.w (.int .i64 0),.w (.int .i64 0),.w (.int .i64 0),.str [],.str [],.w (.int .i64 0),.w (.int .i64 0),.w (.int .i64 0),.w (.int .i64 0),.w (.int .i64 0),.w (.int .i64 0),.sg 6 [] true,.w (.int .i64 0),.w (.bool false),.sb r false] ∧ (if gtOk (x :: r) then (0 : Int) else 4) = 0 := by
         intro h; unfold gtA gtS; rw [if_pos h,if_pos h,hS]; exact ⟨rfl,rfl⟩
       have hcase := zdn (x :: r) hne hS hC hW
       rcases hcase with X | X | X
       · obtain ⟨w1,w2⟩ := hOk X.1
         rw [w1,w2]
         simp only [go_sem,zab,Nat.reduceAdd,Nat.reduceSub,Nat.reduceMul,Int.reduceToNat,reduceCtorEq,↓reduceIte,Int.reducePow,Nat.reducePow,Int.reduceMod,Nat.reduceLeDiff,Int.reduceLE,Int.reduceNe,Int.reduceEq,Nat.reduceEqDiff,Nat.reduceLT,Nat.reduceBEq,List.map_cons,List.map_nil,List.toList_toArray,Array.toList_append,Option.toArray_some,Option.toArray_none,Bool.and_self,ty,zfe,zeb,fillS,zct,zar,zaz,zcs,zdj,rd,rrd,h0,hK,hb,hr,tk,hC',hW',X.2,okz,okz0,hq3,hq4,hq5,hq6,Nat.zero_le,List.length_nil,Int.reduceEq,Int.reduceLT,Int.reduceLE,Nat.reduceEqDiff,or_self,or_false,false_or,or_true,true_or,if_true,if_false,List.drop_succ_cons,List.drop_zero,Nat.add_sub_cancel,List.getD_cons_zero,List.length_cons]
         repeat (refine And.intro (by first | omega | (unfold top; omega) | decide) ?_)
         refine ⟨_,weak_fzs 62 rfl rfl,?_⟩
         simp only [go_sem,zab,Nat.reduceAdd,Nat.reduceSub,Nat.reduceMul,Int.reduceToNat,reduceCtorEq,↓reduceIte,Int.reducePow,Nat.reducePow,Int.reduceMod,Nat.reduceLeDiff,Int.reduceLE,Int.reduceNe,Int.reduceEq,Nat.reduceEqDiff,Nat.reduceLT,Nat.reduceBEq,List.map_cons,List.map_nil,List.toList_toArray,Array.toList_append,Option.toArray_some,Option.toArray_none,Bool.and_self,ty,fzL,fzH,AV.fz,Blk.fz,tk]
       all_goals
         obtain ⟨w1,w2⟩ := hNo X.1
         rw [w1,w2]
         simp only [go_sem,zab,Nat.reduceAdd,Nat.reduceSub,Nat.reduceMul,Int.reduceToNat,reduceCtorEq,↓reduceIte,Int.reducePow,Nat.reducePow,Int.reduceMod,Nat.reduceLeDiff,Int.reduceLE,Int.reduceNe,Int.reduceEq,Nat.reduceEqDiff,Nat.reduceLT,Nat.reduceBEq,List.map_cons,List.map_nil,List.toList_toArray,Array.toList_append,Option.toArray_some,Option.toArray_none,Bool.and_self,ty,zfe,zeb,fillS,zct,zar,zaz,zcs,zdj,rd,rrd,h0,hK,hb,hr,tk,hC',hW',X.2,okz,okz0,hq3,hq4,hq5,hq6,Nat.zero_le,List.length_nil,Int.reduceEq,Int.reduceLT,Int.reduceLE,Nat.reduceEqDiff,or_self,or_false,false_or,or_true,true_or,if_true,if_false,List.drop_succ_cons,List.drop_zero,Nat.add_sub_cancel,List.getD_cons_zero,List.length_cons]
         repeat (refine And.intro (by first | omega | (unfold top; omega) | decide) ?_)
         refine ⟨_,Weak.refl _,?_⟩
         simp only [go_sem,zab,Nat.reduceAdd,Nat.reduceSub,Nat.reduceMul,Int.reduceToNat,reduceCtorEq,↓reduceIte,Int.reducePow,Nat.reducePow,Int.reduceMod,Nat.reduceLeDiff,Int.reduceLE,Int.reduceNe,Int.reduceEq,Nat.reduceEqDiff,Nat.reduceLT,Nat.reduceBEq,List.map_cons,List.map_nil,List.toList_toArray,Array.toList_append,Option.toArray_some,Option.toArray_none,Bool.and_self,ty]
     · have g0 : ¬ K = 0 := by omega
       have g1 : ¬ K = 1 := by omega
       have g2 : ¬ K = 2 := by omega
       have g3 : ¬ K = 3 := by omega
       have g4 : ¬ K = 4 := by omega
       have d0 := decide_eq_false g0
       have d1 := decide_eq_false g1
       have d2 := decide_eq_false g2
       have d3 := decide_eq_false g3
       have d4 := decide_eq_false g4
       have hS : rdT (x :: r) = ⟨K,zRk 0,0,false,[]⟩ := by
         rw [zdb,hK,if_neg g0,if_neg g1,if_neg g2,if_neg g3,if_neg g4]
       have hq3 : ∃ rs : List Rec,([] : List AV) = rs.map rv := ⟨[],rfl⟩
       have hq4 : List.map rrec ([] : List AV) = [] := rfl
       have hq5 : lenQ [] [] [] := ⟨by simp,by simp,by simp⟩
       have hq6 : intQ 0 0 0 0 0 0 := ⟨zad,zad,zad,zad,zad,zad⟩
       obtain ⟨C,hC⟩ : ∃ C,chkS ⟨K,zRk 0,0,false,[]⟩ = C := ⟨_,rfl⟩
       obtain ⟨W,hW⟩ : ∃ W,zfc ⟨K,zRk 0,0,false,[]⟩ = W := ⟨_,rfl⟩
       have hC' : chkT K 0 [] 0 0 false false 0 0 0 [] [] 0 0 0 0 0 0 [] 0 false [] = C := hC
       have hW' : putT K 0 [] 0 0 false false 0 0 0 [] [] 0 0 0 0 0 0 [] 0 false [] = W := hW
       have hOk : gtOk (x :: r) → gtA (x :: r) = .agg [.w (.int .u8 K),.w (.int .u8 0),.str [],.w (.int .i64 0),.w (.int .i64 0),.w (.bool false),.w (.bool false),.w (.int .i64 0),.w (.int .i64 0),.w (.int .i64 0),.str [],.str [],.w (.int .i64 0),.w (.int .i64 0),.w (.int .i64 0),.w (.int .i64 0),.w (.int .i64 0),.w (.int .i64 0),.sg 6 [] true,.w (.int .i64 0),.w (.bool false),.sb [] true] ∧ (if gtOk (x :: r) then (0 : Int) else 4) = 0 := by
         intro h; unfold gtA gtS; rw [if_pos h,if_pos h,hS]; exact ⟨by simp [stP,g4,zRk,zB,emp],rfl⟩
       have hcase := zdn (x :: r) hne hS hC hW
       rcases hcase with X | X | X
       · obtain ⟨w1,w2⟩ := hOk X.1
         rw [w1,w2]
         simp only [go_sem,zab,Nat.reduceAdd,Nat.reduceSub,Nat.reduceMul,Int.reduceToNat,reduceCtorEq,↓reduceIte,Int.reducePow,Nat.reducePow,Int.reduceMod,Nat.reduceLeDiff,Int.reduceLE,Int.reduceNe,Int.reduceEq,Nat.reduceEqDiff,Nat.reduceLT,Nat.reduceBEq,List.map_cons,List.map_nil,List.toList_toArray,Array.toList_append,Option.toArray_some,Option.toArray_none,Bool.and_self,ty,zfe,zeb,fillS,zct,zar,zaz,zcs,zdj,rd,rrd,h0,hK,hb,hr,tk,hC',hW',X.2,okz,okz0,hq3,hq4,hq5,hq6,Nat.zero_le,List.length_nil,d0,d1,d2,d3,d4,k1,k2,Int.reduceEq,Int.reduceLT,Int.reduceLE,Nat.reduceEqDiff,or_self,or_false,false_or,or_true,true_or,if_true,if_false,List.drop_succ_cons,List.drop_zero,Nat.add_sub_cancel,List.getD_cons_zero,List.length_cons]
         repeat (refine And.intro (by first | omega | (unfold top; omega) | decide) ?_)
         refine ⟨_,Weak.refl _,?_⟩
         simp only [go_sem,zab,Nat.reduceAdd,Nat.reduceSub,Nat.reduceMul,Int.reduceToNat,reduceCtorEq,↓reduceIte,Int.reducePow,Nat.reducePow,Int.reduceMod,Nat.reduceLeDiff,Int.reduceLE,Int.reduceNe,Int.reduceEq,Nat.reduceEqDiff,Nat.reduceLT,Nat.reduceBEq,List.map_cons,List.map_nil,List.toList_toArray,Array.toList_append,Option.toArray_some,Option.toArray_none,Bool.and_self,ty,fzL,fzH,AV.fz,Blk.fz,tk]
       all_goals
         obtain ⟨w1,w2⟩ := hNo X.1
         rw [w1,w2]
         simp only [go_sem,zab,Nat.reduceAdd,Nat.reduceSub,Nat.reduceMul,Int.reduceToNat,reduceCtorEq,↓reduceIte,Int.reducePow,Nat.reducePow,Int.reduceMod,Nat.reduceLeDiff,Int.reduceLE,Int.reduceNe,Int.reduceEq,Nat.reduceEqDiff,Nat.reduceLT,Nat.reduceBEq,List.map_cons,List.map_nil,List.toList_toArray,Array.toList_append,Option.toArray_some,Option.toArray_none,Bool.and_self,ty,zfe,zeb,fillS,zct,zar,zaz,zcs,zdj,rd,rrd,h0,hK,hb,hr,tk,hC',hW',X.2,okz,okz0,hq3,hq4,hq5,hq6,Nat.zero_le,List.length_nil,d0,d1,d2,d3,d4,k1,k2,Int.reduceEq,Int.reduceLT,Int.reduceLE,Nat.reduceEqDiff,or_self,or_false,false_or,or_true,true_or,if_true,if_false,List.drop_succ_cons,List.drop_zero,Nat.add_sub_cancel,List.getD_cons_zero,List.length_cons]
         repeat (refine And.intro (by first | omega | (unfold top; omega) | decide) ?_)
         refine ⟨_,Weak.refl _,?_⟩
         simp only [go_sem,zab,Nat.reduceAdd,Nat.reduceSub,Nat.reduceMul,Int.reduceToNat,reduceCtorEq,↓reduceIte,Int.reducePow,Nat.reducePow,Int.reduceMod,Nat.reduceLeDiff,Int.reduceLE,Int.reduceNe,Int.reduceEq,Nat.reduceEqDiff,Nat.reduceLT,Nat.reduceBEq,List.map_cons,List.map_nil,List.toList_toArray,Array.toList_append,Option.toArray_some,Option.toArray_none,Bool.and_self,ty]
 · exact hp.elim
end
end Go.Proofs.Ytihbcgbmlecpbaa
namespace Go.Proofs.Ytihbcgbmlecpbaa
open Ax
def rgR : Nat → List UInt8 → Int → List St
 | 0,_,_ => []
 | n + 1,b,e => if b = [] ∨ e ≠ 0 then [] else gtS (rtS' 65536 b e) :: rgR n (rtL 65536 b e) (rtE 65536 b e)
def rgO (b : List UInt8) : Option (List St) := if chkP (rgR 1001 b 0) = 0 ∧ layP (rgR 1001 b 0) = b then some (rgR 1001 b 0) else none
theorem rgR_stop (n : Nat) {b : List UInt8} {e : Int} (h : b = [] ∨ e ≠ 0 ∨ n = 0) : rgR n b e = [] := by
 cases n with
 | zero => rfl
 | succ n =>
   unfold rgR
   rw [if_pos]
   rcases h with h | h | h
   · exact .inl h
   · exact .inr h
   · cases h
theorem rgR_go (n : Nat) {b : List UInt8} {e : Int} (h : b ≠ []) (he : e = 0) : rgR (n + 1) b e = gtS (rtS' 65536 b e) :: rgR n (rtL 65536 b e) (rtE 65536 b e) := by
 conv => lhs; unfold rgR
 rw [if_neg (fun g => g.elim h (fun g => g he))]
theorem zz_zg (v : Nat) : (zz (zg (v : Int))).toNat = v := by
 unfold zz zg
 split <;> split <;> omega
theorem split_num : ∀ b : List UInt8,(∃ p c q,b = p ++ c :: q ∧ (∀ d ∈ p,128 ≤ d.toNat) ∧ c.toNat < 128) ∨ ∀ d ∈ b,128 ≤ d.toNat
 | [] => .inr (by simp)
 | c :: r => by
   by_cases hc : c.toNat < 128
   · exact .inl ⟨[],c,r,rfl,by simp,hc⟩
   · rcases split_num r with ⟨p,d,q,rfl,h1,h2⟩ | h
     · refine .inl ⟨c :: p,d,q,rfl,?_,h2⟩
       intro x hx
       rcases List.mem_cons.1 hx with rfl | hx
       · omega
       · exact h1 x hx
     · refine .inr ?_
       intro x hx
       rcases List.mem_cons.1 hx with rfl | hx
       · omega
       · exact h x hx
theorem num_canon {b : List UInt8} (h : numE b 0 = 0) : b = pq (numN b 0) ++ numL b 0 := by
 unfold numE at h
 rw [if_pos rfl] at h
 unfold numN numL pq
 rw [if_pos rfl,if_pos rfl]
 rw [getL_M] at h ⊢
 rcases split_num b with ⟨p,c,q,rfl,hp,hc⟩ | hall
 · by_cases h9 : p.length ≤ 9
   · rw [getM_end p 0 0 c q hp hc (by omega)] at h ⊢
     by_cases hbad : (0 < 0 + p.length ∧ c.toNat = 0) ∨ (0 + p.length = 9 ∧ 1 < c.toNat)
     · rw [if_pos hbad] at h; cases h
     · rw [if_neg hbad]
       rw [Nat.zero_add] at hbad
       have hcn := (canon p c hp hc h9).2 hbad
       have hv := congrArg valU hcn
       rw [val_put] at hv
       rw [hv] at hcn
       simp only [Nat.zero_add,Nat.pow_zero,Nat.mul_one]
       rw [zz_zg,hcn,List.drop_append,List.drop_of_length_le (by omega),Nat.add_sub_cancel_left]
       simp
   · have e : p ++ c :: q = p.take 10 ++ (p.drop 10 ++ c :: q) := by rw [← List.append_assoc,List.take_append_drop]
     rw [e,getM_ten (p.take 10) 0 0 _ (fun d hd => hp d (List.mem_of_mem_take hd)) (by rw [List.length_take]; omega)] at h
     cases h
 · rw [getM_open b 0 0 hall (by omega)] at h
   split at h <;> cases h
theorem text_canon {m : Int} {b : List UInt8} (h : rtS' m b 0 ≠ []) : b = zaw (rtS' m b 0) ++ rtL m b 0 := by
 by_cases hk : rtOk m b 0
 · unfold rtS' at h
   rw [if_pos hk] at h
   unfold rtS' rtL
   rw [if_pos hk,if_pos hk]
   have hc := num_canon hk.1
   have h0 := hk.2.1
   obtain ⟨N,hN⟩ : ∃ N,numN b 0 = N := ⟨_,rfl⟩
   obtain ⟨L,hL⟩ : ∃ L,numL b 0 = L := ⟨_,rfl⟩
   rw [hN,hL] at h hc
   rw [hN] at h0
   rw [hN,hL]
   unfold tkB at h
   by_cases hs : (L.length : Int) < N
   · rw [if_pos hs] at h; exact (h rfl).elim
   · unfold tkB tkL zaw
     rw [if_neg hs,if_neg hs,List.length_take,Nat.min_eq_left (by omega),List.append_assoc,List.take_append_drop]
     have hz : (zz N).toNat = 2 * N.toNat := by unfold zz; rw [if_pos h0]; omega
     unfold pq at hc
     rw [hz] at hc
     exact hc
 · unfold rtS' at h
   rw [if_neg hk] at h; exact (h rfl).elim
theorem gp_rg : ∀ (n : Nat) (b : List UInt8) (l : List St),gpR n b = some l → (∀ m,n < m → rgR m b 0 = l) ∧ layP l = b ∧ (∀ s ∈ l,chkS s = 0) ∧ l.length ≤ n
 | n,[],l,h => by
   rw [gpR_nil] at h
   injection h with h
   subst h
   exact ⟨fun m _ => rgR_stop m (.inl rfl),rfl,by simp,by simp⟩
 | 0,c :: r,l,h => by cases h
 | n + 1,c :: r,l,h => by
   have hne : (c :: r) ≠ [] := by simp
   by_cases hg : gtOk (rtS' 65536 (c :: r) 0)
   · rw [gpR_good n hne hg] at h
     have hSn := hg.1
     have hE := rt_ok 65536 (c :: r) 0 hSn
     have hcan := text_canon hSn
     have hgs : gtS (rtS' 65536 (c :: r) 0) = rdT (rtS' 65536 (c :: r) 0) := if_pos hg
     obtain ⟨L,hL⟩ : ∃ L,rtL 65536 (c :: r) 0 = L := ⟨_,rfl⟩
     rw [hL] at h hcan
     cases hq : gpR n L with
     | none => rw [hq] at h; cases h
     | some l' =>
       rw [hq] at h
       injection h with h
       subst h
       obtain ⟨i1,i2,i3,i4⟩ := gp_rg n L l' hq
       refine ⟨?_,?_,?_,by simpa using i4⟩
       · intro m hm
         cases m with
         | zero => omega
         | succ m => rw [rgR_go m hne rfl,hL,hE,i1 m (by omega)]
       · have e : layP (gtS (rtS' 65536 (c :: r) 0) :: l') = zaw (layS (gtS (rtS' 65536 (c :: r) 0))) ++ layP l' := by unfold layP; rw [List.flatMap_cons]
         show layP (gtS (rtS' 65536 (c :: r) 0) :: l') = _
         rw [e,hgs,hg.2.2,i2]
         exact hcan.symm
       · intro s hs
         rcases List.mem_cons.1 hs with rfl | hs
         · rw [hgs]; exact hg.2.1
         · exact i3 s hs
   · rw [gpR_bad (n + 1) hne hg] at h; cases h
theorem errP_of : ∀ (l : List St),(∀ s ∈ l,chkS s = 0) → errP l = 0
 | [],_ => rfl
 | s :: r,h => by
   rw [show errP (s :: r) = if chkS s = 0 then errP r else chkS s from rfl,if_pos (h s (List.mem_cons_self ..))]
   exact errP_of r fun x hx => h x (List.mem_cons_of_mem _ hx)
theorem zRk_fit : fitR (zRk 0) := ⟨by decide,⟨by simp [zRk],by simp [zRk],by simp [zRk]⟩,⟨zad,zad,zad,zad,zad,zad⟩,by simp [zRk,zB]⟩
theorem gtS_fit (b : List UInt8) (hb : b.length ≤ 1000000) : fitS (gtS b) := by
 unfold gtS
 split
 · cases b with
   | nil => exact ⟨by decide,zRk_fit,zad,by decide⟩
   | cons c r =>
     have hr : r.length ≤ 1000000 := by rw [List.length_cons] at hb; omega
     have hc := c.toNat_lt
     rw [zdb]
     repeat' split
     · exact ⟨⟨by simp,by simp⟩,gqR_fit r hr,zad,by simp⟩
     · exact ⟨⟨by simp,by simp⟩,zRk_fit,zcv r 0,by simp⟩
     · exact ⟨⟨by simp,by simp⟩,zRk_fit,zcv r 0,by simp⟩
     · exact ⟨⟨by simp,by simp⟩,zRk_fit,zcv r 0,by simp⟩
     · exact ⟨⟨by simp,by simp⟩,zRk_fit,zad,hr⟩
     · exact ⟨⟨by simp only; omega,by simp only; omega⟩,zRk_fit,zad,by simp⟩
 · exact ⟨by decide,zRk_fit,zad,by decide⟩
theorem rgR_fit : ∀ (n : Nat) (b : List UInt8) (e : Int),b.length ≤ 1000000 → ∀ s ∈ rgR n b e,fitS s
 | 0,b,e,hb,s,hs => by unfold rgR at hs; simp at hs
 | n + 1,b,e,hb,s,hs => by
   unfold rgR at hs
   split at hs
   · simp at hs
   · have hsum := rt_sum 65536 b e
     rcases List.mem_cons.1 hs with rfl | hs
     · exact gtS_fit _ (by omega)
     · exact rgR_fit n _ _ (by omega) s hs
theorem rgR_len : ∀ (n : Nat) (b : List UInt8) (e : Int),(rgR n b e).length ≤ n
 | 0,b,e => by unfold rgR; simp
 | n + 1,b,e => by
   unfold rgR
   split
   · simp
   · have := rgR_len n (rtL 65536 b e) (rtE 65536 b e)
     simp only [List.length_cons]; omega
theorem gp_eq (b : List UInt8) (hb : b.length ≤ 1000000) : gpO b = rgO b := by
 cases hg : gpO b with
 | some l =>
   unfold gpO at hg
   by_cases hbig : 65536 < b.length
   · rw [if_pos hbig] at hg; cases hg
   · rw [if_neg hbig] at hg
     obtain ⟨i1,i2,i3,i4⟩ := gp_rg 1000 b l hg
     have hr := i1 1001 (by omega)
     have hc : chkP l = 0 := by
       unfold chkP
       rw [if_neg (by omega),if_neg (fun h => h (errP_of l i3)),i2,if_neg hbig]
     unfold rgO
     rw [hr,if_pos ⟨hc,i2⟩]
 | none =>
   unfold rgO
   by_cases h : chkP (rgR 1001 b 0) = 0 ∧ layP (rgR 1001 b 0) = b
   · have := back_ok h.1 (rgR_fit 1001 b 0 hb)
     rw [h.2,hg] at this; cases this
   · rw [if_neg h]
theorem gtV_stP (l : List St) : l.map gtV = (l.map fun s => (s,emp s.q.b.rs,!decide (s.k = 4))).map stP := by rw [List.map_map]; rfl
theorem ust_gtV (l : List St) : (l.map gtV).map ust = l := by
 rw [gtV_stP,map_ust,List.map_map]
 exact (List.map_congr_left fun x _ => rfl).trans (List.map_id l)
end Go.Proofs.Ytihbcgbmlecpbaa
namespace Go.Proofs.Ytihbcgbmlecpbaa
open Ax
def rgetPS : zak
 | [.sb b fb],[] => ⟨b.length ≤ 1000000,gpX (rgO b),[]⟩
 | _,_ => zbd
def SrgetP (f : FuncId) : Option zak :=
 match f with
 | 41 => some zax
 | 16 => some getTS
 | 14 => some putPS
 | _ => none
theorem SrgetP_ok : Fns Try.prog SrgetP := by
 intro f s h
 unfold SrgetP at h
 split at h
 · injection h with h; subst h; exact ⟨⟨_,Try.func41,by kernel_rfl,by kernel_rfl⟩,rrtext_sound⟩
 · injection h with h; subst h; exact ⟨⟨_,Try.func16,by kernel_rfl,by kernel_rfl⟩,rgetT_sound⟩
 · injection h with h; subst h; exact ⟨⟨_,Try.func14,by kernel_rfl,by kernel_rfl⟩,rputP_sound⟩
 · cases h
section
set_option maxRecDepth 100000
set_option maxHeartbeats 32000000 in
theorem rgetP_sound : zaq Try.prog 18 rgetPS := by
 refine zbp (S := SrgetP) (T := ty) zau ty_ok SrgetP_ok Try.func18 (c := Try.f18.body.getD .skip) (by kernel_rfl) (by kernel_rfl) (fun xs pins hp _ => ?_)
 unfold rgetPS at hp ⊢
 split at hp
 · rename_i b fb _
   have hb : b.length ≤ 1000000 := hp
   refine ⟨by simp,?_⟩
   have tk : ∀ l : List UInt8,List.take l.length l = l := fun l => List.take_length
   unfold Try.f18
   simp only [go_sem,zaa,Nat.reduceAdd,Nat.reduceSub,Nat.reduceMul,Int.reduceToNat,reduceCtorEq,↓reduceIte,Int.reducePow,Nat.reducePow,Int.reduceMod,Nat.reduceLeDiff,Int.reduceLE,Int.reduceNe,Int.reduceEq,Nat.reduceEqDiff,Nat.reduceLT,Nat.reduceBEq,ty,SrgetP,rrd,hb,fillS]
   refine zdh ⟨fun mm σ => ∃ (acc : List St) (bs : List UInt8) (E : Int) (n : Nat),mm = n ∧ bs.length ≤ b.length ∧ acc.length + n = 1001 ∧ rgR 1001 b 0 = acc ++ rgR n bs E ∧
     σ = ⟨[.sb b fb,.junk,.sg 1 [] true,.w (.int .i64 0),.rf 4 2 0 0,.ms 5 22 0 acc.length,.junk,.junk,.junk,.junk,.junk,.junk,.junk,.junk,.junk,.junk,.junk,.junk,.junk,.junk,.junk,.junk,.junk,.junk,.junk,.junk,.junk,.junk,.junk,.junk,.junk,.junk,.junk,.junk,.junk,.junk,.junk,.junk,.junk,.junk,.junk,.junk,.junk,.junk,.junk,.junk,.junk,.junk,.junk,.junk,.junk,.junk,.junk,.junk,.junk,.junk,.junk],[(4,.g 2 [.agg [.sb bs fb,.w (.int .i64 E)]]),(5,.g 22 (acc.map gtV))],6⟩,?_,?_⟩
   · refine ⟨_,_,(zer 5 22 (.g 22 []) ⟨by decide,rfl⟩ (by exact trivial)).trans (zaf [0,1,2,3,36,68] rfl rfl rfl ?_ ?_),[],b,0,1001,rfl,Nat.le_refl _,rfl,rfl,rfl⟩
     · simp only [ssT,zai,zaj,setSlot,gOf,AV.ren,renL,Blk.ren,Ax.look,Ax.put,reduceCtorEq,↓reduceIte,Nat.reduceEqDiff,Nat.reduceLT,Nat.reduceAdd,List.length_append,List.length_cons,List.length_nil,Option.some.injEq]; try simp
       try rfl
     · simp only [ssT,zai,zaj,setSlot,gOf,AV.ren,renL,Blk.ren,Ax.look,Ax.put,reduceCtorEq,↓reduceIte,Nat.reduceEqDiff,Nat.reduceLT,Nat.reduceAdd,List.length_append,List.length_cons,List.length_nil,Option.some.injEq]; try simp [renL]
   · rintro n σ ⟨acc,bs,E,n0,rfl,hbs,hn,hI,rfl⟩
     have hbs1 : bs.length ≤ 1000000 := by omega
     have hal : (acc.map gtV).length = acc.length := by simp
     have hfit := rgR_fit 1001 b 0 hb
     obtain ⟨x1,hx1⟩ : ∃ x,decide ((0 : Int) < bs.length) = x := ⟨_,rfl⟩
     obtain ⟨x2,hx2⟩ : ∃ x,decide (E = 0) = x := ⟨_,rfl⟩
     obtain ⟨x3,hx3⟩ : ∃ x,decide ((acc.length : Int) ≤ 1000) = x := ⟨_,rfl⟩
     by_cases hgo : x1 = true ∧ x2 = true ∧ x3 = true
     · obtain ⟨rfl,rfl,rfl⟩ := hgo
       have g1 := of_decide_eq_true hx1
       have hE : E = 0 := of_decide_eq_true hx2
       have g3 := of_decide_eq_true hx3
       subst hE
       have hnil : bs ≠ [] := by rintro rfl; simp at g1
       obtain ⟨k,rfl⟩ : ∃ k,n = k + 1 := ⟨n - 1,by omega⟩
       rw [rgR_go k hnil rfl] at hI
       have hsum := rt_sum 65536 bs 0
       obtain ⟨S,hS⟩ : ∃ S,rtS' 65536 bs 0 = S := ⟨_,rfl⟩
       obtain ⟨L,hL⟩ : ∃ L,rtL 65536 bs 0 = L := ⟨_,rfl⟩
       obtain ⟨F,hF⟩ : ∃ F,rtE 65536 bs 0 = F := ⟨_,rfl⟩
       rw [hS,hL] at hsum
       rw [hS,hL,hF] at hI
       have hSl : S.length ≤ 1000000 := by omega
       obtain ⟨s,hM⟩ : ∃ s,gtS S = s := ⟨_,rfl⟩
       have hA : gtA S = .agg [.w (.int .u8 s.k),.w (.int .u8 s.q.k),.str s.q.t,.w (.int .i64 s.q.i),.w (.int .i64 s.q.p),.w (.bool s.q.c),.w (.bool s.q.f),.w (.int .i64 s.q.o),.w (.int .i64 s.q.m),.w (.int .i64 s.q.w),.str s.q.g,.str s.q.mb,.w (.int .i64 s.q.n),.w (.int .i64 s.q.b.b),.w (.int .i64 s.q.b.c),.w (.int .i64 s.q.b.p),.w (.int .i64 s.q.b.e),.w (.int .i64 s.q.b.s),.sg 6 (s.q.b.rs.map rv) (emp s.q.b.rs),.w (.int .i64 s.N),.w (.bool s.D),.sb s.ft (!decide (s.k = 4))] := by unfold gtA; rw [hM]; rfl
       have hcl := zbi s.q.b.rs
       rw [hM] at hI
       have hI : rgR 1001 b 0 = (acc ++ [s]) ++ rgR k L F := by rw [hI]; simp
       have hat : (acc.map gtV) ++ [.agg [.w (.int .u8 s.k),.w (.int .u8 s.q.k),.str s.q.t,.w (.int .i64 s.q.i),.w (.int .i64 s.q.p),.w (.bool s.q.c),.w (.bool s.q.f),.w (.int .i64 s.q.o),.w (.int .i64 s.q.m),.w (.int .i64 s.q.w),.str s.q.g,.str s.q.mb,.w (.int .i64 s.q.n),.w (.int .i64 s.q.b.b),.w (.int .i64 s.q.b.c),.w (.int .i64 s.q.b.p),.w (.int .i64 s.q.b.e),.w (.int .i64 s.q.b.s),.sg 6 (s.q.b.rs.map rv) (emp s.q.b.rs),.w (.int .i64 s.N),.w (.bool s.D),.sb s.ft (!decide (s.k = 4))]] = (acc ++ [s]).map gtV := by rw [List.map_append]; rfl
       simp only [go_sem,zaa,Nat.reduceAdd,Nat.reduceSub,Nat.reduceMul,Int.reduceToNat,reduceCtorEq,↓reduceIte,Int.reducePow,Nat.reducePow,Int.reduceMod,Nat.reduceLeDiff,Int.reduceLE,Int.reduceNe,Int.reduceEq,Nat.reduceEqDiff,Nat.reduceLT,Nat.reduceBEq,ty,SrgetP,zax,getTS,rrd,hbs1,hal,hx1,hx2,hx3,hS,hL,hF,hSl,hA,hcl,tk,Int.toNat_natCast]
       repeat (refine And.intro (by first | omega | (unfold top; omega) | decide) ?_)
       refine ⟨k,_,by omega,zaf [0,1,2,3,4,270] rfl rfl rfl ?_ ?_,acc ++ [s],L,F,k,rfl,by omega,by simp; omega,hI,rfl⟩
       · simp only [ssT,zai,zaj,setSlot,gOf,AV.ren,renL,Blk.ren,Ax.look,Ax.put,reduceCtorEq,↓reduceIte,Nat.reduceEqDiff,Nat.reduceLT,Nat.reduceAdd,List.length_append,List.length_cons,List.length_nil,Option.some.injEq]; try simp
       · simp only [ssT,zai,zaj,setSlot,gOf,AV.ren,renL,Blk.ren,Ax.look,Ax.put,reduceCtorEq,↓reduceIte,Nat.reduceEqDiff,Nat.reduceLT,Nat.reduceAdd,List.length_append,List.length_cons,List.length_nil,Option.some.injEq,hat,ren_gtV]; try simp
     · have hst : bs = [] ∨ E ≠ 0 ∨ n = 0 := by
         by_cases h1 : bs = []
         · exact .inl h1
         · by_cases h2 : E = 0
           · refine .inr (.inr ?_)
             have h1' : 0 < bs.length := by
               rcases Nat.eq_zero_or_pos bs.length with h | h
               · exact (h1 (List.length_eq_zero_iff.1 h)).elim
               · exact h
             have e1 : x1 = true := by rw [← hx1]; exact decide_eq_true (by omega)
             have e2 : x2 = true := by rw [← hx2]; exact decide_eq_true h2
             rcases Nat.eq_zero_or_pos n with h | h
             · exact h
             · exact (hgo ⟨e1,e2,by rw [← hx3]; exact decide_eq_true (by omega)⟩).elim
           · exact .inr (.inl h2)
       have hI : rgR 1001 b 0 = acc := by rw [hI,rgR_stop n hst,List.append_nil]
       rw [hI] at hfit
       have hO : rgO b = if chkP acc = 0 ∧ layP acc = b then some acc else none := by unfold rgO; rw [hI]
       have hdle : decide (0 + acc.length ≤ (acc.map gtV).length) = true := decide_eq_true (by omega)
       have htk : (acc.map gtV).take acc.length = acc.map gtV := List.take_of_length_le (by omega)
       have hc : coe ty 22 (.sg 22 (acc.map gtV) false) = .sg 22 (acc.map gtV) false := by cases acc <;> rfl
       have hex : ∃ es : List (St × Bool × Bool),acc.map gtV = es.map stP ∧ ∀ p ∈ es,fitS p.1 := ⟨_,gtV_stP acc,by
         intro p hp
         obtain ⟨s,hs,rfl⟩ := List.mem_map.1 hp
         exact hfit s hs⟩
       have hmu := ust_gtV acc
       have hLm : acc.length ≤ 9223372036854775807 := by omega
       obtain ⟨C,hC⟩ : ∃ C,chkP acc = C := ⟨_,rfl⟩
       obtain ⟨W,hW⟩ : ∃ W,putP acc = W := ⟨_,rfl⟩
       have hcs : (gpX (rgO b) = .tup [.sg 22 (acc.map gtV) false,.w (.int .i64 0)] ∧ decide (C = 0) = true ∧ decide (W = b) = true) ∨ (gpX (rgO b) = .tup [.sg 1 [] true,.w (.int .i64 4)] ∧ decide (C = 0) = false) ∨ (gpX (rgO b) = .tup [.sg 1 [] true,.w (.int .i64 4)] ∧ decide (C = 0) = true ∧ decide (W = b) = false) := by
         subst hC hW
         rw [hO]
         by_cases h1 : chkP acc = 0
         · have hp : putP acc = layP acc := if_pos h1
           rw [hp]
           by_cases h2 : layP acc = b
           · rw [if_pos ⟨h1,h2⟩]; exact .inl ⟨rfl,decide_eq_true h1,decide_eq_true h2⟩
           · rw [if_neg (fun h => h2 h.2)]; exact .inr (.inr ⟨rfl,decide_eq_true h1,decide_eq_false h2⟩)
         · rw [if_neg (fun h => h1 h.1)]; exact .inr (.inl ⟨rfl,decide_eq_false h1⟩)
       clear hst hfit hO hI
       have hgo : ¬ (x1 = true ∧ x2 = true ∧ x3 = true) := hgo
       cases x1 <;> cases x2 <;> cases x3
       case true.true.true => exact (hgo ⟨rfl,rfl,rfl⟩).elim
       all_goals
         simp only [go_sem,zaa,Nat.reduceAdd,Nat.reduceSub,Nat.reduceMul,Int.reduceToNat,reduceCtorEq,↓reduceIte,Int.reducePow,Nat.reducePow,Int.reduceMod,Nat.reduceLeDiff,Int.reduceLE,Int.reduceNe,Int.reduceEq,Nat.reduceEqDiff,Nat.reduceLT,Nat.reduceBEq,ty,SrgetP,hx1,hx2,hx3]
         refine ⟨_,weak_fg 5 22 5 (acc.map gtV) rfl (closed_gtV acc) (by simp [slot,AV.ids]),?_⟩
         simp only [fgL,fgH,AV.fg,Blk.fg,Nat.reduceBEq,cond_true,cond_false,hdle,Bool.and_true,beq_self_eq_true,Bool.true_and,List.drop_zero,htk]
         rcases hcs with X | X | X
         all_goals
           rw [X.1]
           simp only [go_sem,zaa,Nat.reduceAdd,Nat.reduceSub,Nat.reduceMul,Int.reduceToNat,reduceCtorEq,↓reduceIte,Int.reducePow,Nat.reducePow,Int.reduceMod,Nat.reduceLeDiff,Int.reduceLE,Int.reduceNe,Int.reduceEq,Nat.reduceEqDiff,Nat.reduceLT,Nat.reduceBEq,ty,SrgetP,putPS,hal,hLm,hex,hc,hmu,hC,hW,X.2,tk]
           refine ⟨_,Weak.refl _,?_⟩
           simp only [go_sem,zaa,Nat.reduceAdd,Nat.reduceSub,Nat.reduceMul,Int.reduceToNat,reduceCtorEq,↓reduceIte,Int.reducePow,Nat.reducePow,Int.reduceMod,Nat.reduceLeDiff,Int.reduceLE,Int.reduceNe,Int.reduceEq,Nat.reduceEqDiff,Nat.reduceLT,Nat.reduceBEq,ty]
 · exact hp.elim
end
end Go.Proofs.Ytihbcgbmlecpbaa
namespace Go.Proofs.Ytihbcgbmlecpbaa
open Ax
def Ssg27 (f : FuncId) : Option zak :=
 match f with
 | 7 => some yesS27
 | 11 => some sameTS
 | 15 => some getTS
 | 16 => some getTS
 | 17 => some getPS
 | 18 => some rgetPS
 | _ => none
theorem Ssg27_ok : Fns Try.prog Ssg27 := by
 intro f s h
 unfold Ssg27 at h
 split at h
 · injection h with h; subst h; exact ⟨⟨_,Try.func7,by kernel_rfl,by kernel_rfl⟩,awake27_sound⟩
 · injection h with h; subst h; exact ⟨⟨_,Try.func11,by kernel_rfl,by kernel_rfl⟩,rsameT_sound⟩
 · injection h with h; subst h; exact ⟨⟨_,Try.func15,by kernel_rfl,by kernel_rfl⟩,getT_sound⟩
 · injection h with h; subst h; exact ⟨⟨_,Try.func16,by kernel_rfl,by kernel_rfl⟩,rgetT_sound⟩
 · injection h with h; subst h; exact ⟨⟨_,Try.func17,by kernel_rfl,by kernel_rfl⟩,getP_sound⟩
 · injection h with h; subst h; exact ⟨⟨_,Try.func18,by kernel_rfl,by kernel_rfl⟩,rgetP_sound⟩
 · cases h
def sg27Pl : XPlan := fun _ => .std
def sg27S : zak
 | [.sb a fa,.sb b fb],[] => ⟨a.length ≤ 9223372036854775807 ∧ b.length ≤ 9223372036854775807,.w (.bool true),[]⟩
 | _,_ => zbd
theorem gpX_at (o : Option (List St)) : ∃ (sz : Nat) (fl : Bool) (g : Int),gpX o = .tup [.sg sz ((o.getD []).map gtV) fl,.w (.int .i64 g)] ∧ (o.getD [] ≠ [] → sz = 22) := by
 cases o with
 | none => exact ⟨1,true,4,rfl,fun h => (h rfl).elim⟩
 | some l => exact ⟨22,false,0,rfl,fun _ => rfl⟩
theorem gpl_fit (b : List UInt8) (hb : b.length ≤ 1000000) : ((gpO b).getD []).length ≤ 1001 ∧ ∀ s ∈ (gpO b).getD [],fitS s := by
 rw [gp_eq b hb]
 unfold rgO
 split
 · exact ⟨rgR_len 1001 b 0,rgR_fit 1001 b 0 hb⟩
 · exact ⟨by simp,by simp⟩
section
set_option maxRecDepth 100000
set_option maxHeartbeats 16000000 in
theorem sg27_law : zaq Try.prog 4 sg27S := by
 refine zbx (S := Ssg27) (SO := noO) (T := ty) zau ty_ok Ssg27_ok noO_ok Try.func4 (c := Try.f4.body.getD .skip) (by kernel_rfl) (fun xs pins hp _ => ?_)
 unfold sg27S at hp ⊢
 split at hp
 · rename_i a fa b fb _
   obtain ⟨ha,hb⟩ := hp
   refine ⟨by simp,sg27Pl,by kernel_rfl,?_⟩
   have tk : ∀ l : List UInt8,List.take l.length l = l := fun l => List.take_length
   unfold Try.f4
   by_cases LA : 1000 < a.length
   · have DA : decide ((1000 : Int) < a.length) = true := decide_eq_true (by omega)
     simp only [go_sem,zab,Nat.reduceAdd,Nat.reduceSub,Nat.reduceMul,Int.reduceToNat,reduceCtorEq,↓reduceIte,Int.reducePow,Nat.reducePow,Int.reduceMod,Nat.reduceLeDiff,Int.reduceLE,Int.reduceNe,Int.reduceEq,Nat.reduceEqDiff,Nat.reduceLT,Nat.reduceBEq,List.map_cons,List.map_nil,List.toList_toArray,Array.toList_append,Option.toArray_some,Option.toArray_none,Bool.and_self,ty,Ssg27,sg27Pl,yesS27,DA]
     exact zba 4 rfl
   have DA : decide ((1000 : Int) < a.length) = false := decide_eq_false (by omega)
   by_cases LB : 1000 < b.length
   · have DB : decide ((1000 : Int) < b.length) = true := decide_eq_true (by omega)
     simp only [go_sem,zab,Nat.reduceAdd,Nat.reduceSub,Nat.reduceMul,Int.reduceToNat,reduceCtorEq,↓reduceIte,Int.reducePow,Nat.reducePow,Int.reduceMod,Nat.reduceLeDiff,Int.reduceLE,Int.reduceNe,Int.reduceEq,Nat.reduceEqDiff,Nat.reduceLT,Nat.reduceBEq,List.map_cons,List.map_nil,List.toList_toArray,Array.toList_append,Option.toArray_some,Option.toArray_none,Bool.and_self,ty,Ssg27,sg27Pl,yesS27,DA,DB]
     exact zba 4 rfl
   have DB : decide ((1000 : Int) < b.length) = false := decide_eq_false (by omega)
   have ha1 : a.length ≤ 1000000 := by omega
   have hb1 : b.length ≤ 1000000 := by omega
   obtain ⟨sz,fl,g,hX,hsz⟩ := gpX_at (gpO b)
   obtain ⟨hlen,hlf⟩ := gpl_fit b hb1
   obtain ⟨l,hl⟩ : ∃ l,(gpO b).getD [] = l := ⟨_,rfl⟩
   rw [hl] at hX hsz hlen hlf
   have hX2 : gpX (rgO b) = .tup [.sg sz (l.map gtV) fl,.w (.int .i64 g)] := by rw [← gp_eq b hb1]; exact hX
   have hfa := gtS_fit a ha1
   obtain ⟨s,hM⟩ : ∃ s,gtS a = s := ⟨_,rfl⟩
   have hA : gtA a = .agg [.w (.int .u8 s.k),.w (.int .u8 s.q.k),.str s.q.t,.w (.int .i64 s.q.i),.w (.int .i64 s.q.p),.w (.bool s.q.c),.w (.bool s.q.f),.w (.int .i64 s.q.o),.w (.int .i64 s.q.m),.w (.int .i64 s.q.w),.str s.q.g,.str s.q.mb,.w (.int .i64 s.q.n),.w (.int .i64 s.q.b.b),.w (.int .i64 s.q.b.c),.w (.int .i64 s.q.b.p),.w (.int .i64 s.q.b.e),.w (.int .i64 s.q.b.s),.sg 6 (s.q.b.rs.map rv) (emp s.q.b.rs),.w (.int .i64 s.N),.w (.bool s.D),.sb s.ft (!decide (s.k = 4))] := by unfold gtA; rw [hM]; rfl
   rw [hM] at hfa
   have hcl := zbi s.q.b.rs
   have h40 : (s.q.b.rs.map rv).length ≤ 9223372036854775807 := by rw [List.length_map]; have := hfa.2.1.2.2.2; exact Nat.le_trans this (by decide)
   have hex : ∃ qs : List Rec,s.q.b.rs.map rv = qs.map rv := ⟨s.q.b.rs,rfl⟩
   have hmr := zag s.q.b.rs
   have hrf := eqT_refl s
   obtain ⟨Z,hZ⟩ : ∃ Z : Int,(if gtOk a then (0 : Int) else 4) = Z := ⟨_,rfl⟩
   have dZ : decide (Z = Z) = true := decide_eq_true rfl
   have dg : decide (g = g) = true := decide_eq_true rfl
   have hlm : (l.map gtV).length = l.length := by simp
   have dl : decide ((l.length : Int) = l.length) = true := decide_eq_true rfl
   have hfl : ∀ (i : Nat) (h : i < l.length),(l[i].q.b.rs.map rv).length ≤ 9223372036854775807 := fun i h => by
     rw [List.length_map]; exact Nat.le_trans (hlf l[i] (List.getElem_mem h)).2.1.2.2.2 (by decide)
   simp only [go_sem,zab,Nat.reduceAdd,Nat.reduceSub,Nat.reduceMul,Int.reduceToNat,reduceCtorEq,↓reduceIte,Int.reducePow,Nat.reducePow,Int.reduceMod,Nat.reduceLeDiff,Int.reduceLE,Int.reduceNe,Int.reduceEq,Nat.reduceEqDiff,Nat.reduceLT,Nat.reduceBEq,List.map_cons,List.map_nil,List.toList_toArray,Array.toList_append,Option.toArray_some,Option.toArray_none,Bool.and_self,ty,Ssg27,sg27Pl,getTS,getPS,rgetPS,zbc,fillS,DA,DB,ha1,hb1,hX,hX2,hA,hcl,h40,hex,hmr,hrf,hZ,dZ,dg,hlm,dl,tk,Int.toNat_natCast,Bool.not_true]
   repeat (refine And.intro (by first | omega | decide | (rintro y rfl; rfl)) ?_)
   refine awpO_loopW ⟨fun m σ => ∃ i : Nat,m = l.length - i ∧ i ≤ l.length ∧
       σ = ⟨[.sb a fa,.sb b fb,.junk,.junk,.w (.bool false),.junk,.junk,.junk,.junk,.sg sz (l.map gtV) fl,.junk,.sg sz (l.map gtV) fl,.junk,.w (.int .i64 i),.junk,.junk,.junk,.junk,.junk,.junk,.junk,.junk,.junk,.junk,.junk,.junk,.junk,.junk,.junk,.junk,.junk,.junk,.junk,.junk,.junk,.junk,.junk,.junk,.junk,.junk,.junk,.junk,.junk,.junk,.junk,.junk,.junk,.junk,.junk,.junk,.junk,.junk,.junk,.junk,.junk,.junk,.junk,.junk,.junk,.junk,.junk,.junk,.junk,.junk,.junk,.junk,.junk,.junk,.junk,.junk,.junk,.junk,.junk,.junk,.junk,.junk,.junk,.junk,.junk,.junk,.junk],[],4⟩,?_,?_⟩
   · refine ⟨_,_,zaf [0,1,2,3] rfl rfl rfl ?_ ?_,0,rfl,by omega,rfl⟩
     · simp only [ssT,zai,zaj,setSlot,gOf,AV.ren,renL,Blk.ren,Ax.look,Ax.put,reduceCtorEq,↓reduceIte,Nat.reduceEqDiff,Nat.reduceLT,Nat.reduceAdd,List.length_append,List.length_cons,List.length_nil,Option.some.injEq]; try simp
     · simp only [ssT,zai,zaj,setSlot,gOf,AV.ren,renL,Blk.ren,Ax.look,Ax.put,reduceCtorEq,↓reduceIte,Nat.reduceEqDiff,Nat.reduceLT,Nat.reduceAdd,List.length_append,List.length_cons,List.length_nil,Option.some.injEq]; try simp
   · rintro m σ ⟨i,rfl,hi,rfl⟩
     by_cases hil : i < l.length
     · have d2 : decide ((i : Int) < l.length) = true := decide_eq_true (by omega)
       have e1 : ((i : Int) + 1 + 9223372036854775808) % 18446744073709551616 - 9223372036854775808 = ((i + 1 : Nat) : Int) := by omega
       have hne : l ≠ [] := by rintro rfl; simp at hil
       obtain rfl : sz = 22 := hsz hne
       have hs2 := slot_gtV l i hil
       have k40 := hfl i hil
       obtain ⟨r,hR⟩ : ∃ P,l[i] = P := ⟨_,rfl⟩
       rw [hR] at hs2 k40
       have hs2 : slot (l.map gtV) i = .agg [.w (.int .u8 r.k),.w (.int .u8 r.q.k),.str r.q.t,.w (.int .i64 r.q.i),.w (.int .i64 r.q.p),.w (.bool r.q.c),.w (.bool r.q.f),.w (.int .i64 r.q.o),.w (.int .i64 r.q.m),.w (.int .i64 r.q.w),.str r.q.g,.str r.q.mb,.w (.int .i64 r.q.n),.w (.int .i64 r.q.b.b),.w (.int .i64 r.q.b.c),.w (.int .i64 r.q.b.p),.w (.int .i64 r.q.b.e),.w (.int .i64 r.q.b.s),.sg 6 (r.q.b.rs.map rv) (emp r.q.b.rs),.w (.int .i64 r.N),.w (.bool r.D),.sb r.ft (!decide (r.k = 4))] := hs2
       have kex : ∃ qs : List Rec,r.q.b.rs.map rv = qs.map rv := ⟨r.q.b.rs,rfl⟩
       have kmr := zag r.q.b.rs
       have krf := eqT_refl r
       simp only [go_sem,zab,Nat.reduceAdd,Nat.reduceSub,Nat.reduceMul,Int.reduceToNat,reduceCtorEq,↓reduceIte,Int.reducePow,Nat.reducePow,Int.reduceMod,Nat.reduceLeDiff,Int.reduceLE,Int.reduceNe,Int.reduceEq,Nat.reduceEqDiff,Nat.reduceLT,Nat.reduceBEq,List.map_cons,List.map_nil,List.toList_toArray,Array.toList_append,Option.toArray_some,Option.toArray_none,Bool.and_self,ty,Ssg27,sg27Pl,zbc,hlm,d2,e1,hs2,k40,kex,kmr,krf,hil,tk,Int.toNat_natCast,Bool.not_true]
       repeat (refine And.intro (by first | omega | decide) ?_)
       refine ⟨l.length - (i + 1),_,by omega,zaf [0,1,2,3] rfl rfl rfl ?_ ?_,i + 1,rfl,by omega,rfl⟩
       · simp only [ssT,zai,zaj,setSlot,gOf,AV.ren,renL,Blk.ren,Ax.look,Ax.put,reduceCtorEq,↓reduceIte,Nat.reduceEqDiff,Nat.reduceLT,Nat.reduceAdd,List.length_append,List.length_cons,List.length_nil,Option.some.injEq]; try simp
       · simp only [ssT,zai,zaj,setSlot,gOf,AV.ren,renL,Blk.ren,Ax.look,Ax.put,reduceCtorEq,↓reduceIte,Nat.reduceEqDiff,Nat.reduceLT,Nat.reduceAdd,List.length_append,List.length_cons,List.length_nil,Option.some.injEq]; try simp
     · have d2 : decide ((i : Int) < l.length) = false := decide_eq_false (by omega)
       simp only [go_sem,zab,Nat.reduceAdd,Nat.reduceSub,Nat.reduceMul,Int.reduceToNat,reduceCtorEq,↓reduceIte,Int.reducePow,Nat.reducePow,Int.reduceMod,Nat.reduceLeDiff,Int.reduceLE,Int.reduceNe,Int.reduceEq,Nat.reduceEqDiff,Nat.reduceLT,Nat.reduceBEq,List.map_cons,List.map_nil,List.toList_toArray,Array.toList_append,Option.toArray_some,Option.toArray_none,Bool.and_self,ty,Ssg27,sg27Pl,hlm,d2]
       refine ⟨_,Weak.refl _,?_⟩
       simp only [go_sem,zab,Nat.reduceAdd,Nat.reduceSub,Nat.reduceMul,Int.reduceToNat,reduceCtorEq,↓reduceIte,Int.reducePow,Nat.reducePow,Int.reduceMod,Nat.reduceLeDiff,Int.reduceLE,Int.reduceNe,Int.reduceEq,Nat.reduceEqDiff,Nat.reduceLT,Nat.reduceBEq,List.map_cons,List.map_nil,List.toList_toArray,Array.toList_append,Option.toArray_some,Option.toArray_none,Bool.and_self,ty,Ssg27,sg27Pl,yesS27]
       exact zba 4 rfl
 · exact hp.elim
end
theorem sg27_dom {x y : AV} (hx : Arg ty 6 28 x) (hy : Arg ty 6 28 y) : (sg27S [x,y] []).p ∧ (sg27S [x,y] []).x = .w (.bool true) := by
 obtain ⟨a,f,rfl,h1⟩ := arg_bytes27 (j := 5) hx
 obtain ⟨b,g,rfl,h2⟩ := arg_bytes27 (j := 5) hy
 exact ⟨⟨h1,h2⟩,rfl⟩
end Go.Proofs.Ytihbcgbmlecpbaa
