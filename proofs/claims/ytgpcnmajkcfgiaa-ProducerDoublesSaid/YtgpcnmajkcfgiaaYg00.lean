/- What the proofs of this seat stand on; it asks nothing. -/
import Derived.Test.YtgpcnmajkcfgiaaYa13
import Derived.Test.YtgpcnmajkcfgiaaYc00
import Derived.Test.YtgpcnmajkcfgiaaYd00
set_option linter.unusedSimpArgs false
set_option linter.unusedVariables false
namespace Go.Proofs.Ytgpcnmajkcfgiaa
namespace Ax
open Go.RowKit
theorem wf_u16 {n : Int} (h : (Lit.int .u16 n).wf = true) : 0 ≤ n ∧ n < 65536 := by
 simp only [Lit.wf,Bool.and_eq_true,decide_eq_true_eq] at h
 have h1 : IntKind.min .u16 = 0 := by decide
 have h2 : IntKind.max .u16 = 65535 := by decide
 rw [h1,h2] at h; omega
end Ax
end Go.Proofs.Ytgpcnmajkcfgiaa
namespace Go.Proofs.Ytgpcnmajkcfgiaa
open Ax
structure DbI (X : List Se) (Q B : Int) (i : Nat) : Prop where
 n : X.length = i
 q : 0 ≤ Q ∧ Q ≤ 32 * (i : Int)
 b : 0 ≤ B ∧ B ≤ 65535 + 64 * (i : Int)
 x : ∀ y ∈ X,(0 ≤ y.q ∧ y.q < Q) ∧ 1 ≤ y.c ∧ y.c ≤ 32
 p : X.Pairwise (fun a b => a.q < b.q)
 l : ∀ y,X.getLast? = some y → y.q + y.c = Q
 z : X = [] → Q = 0
def tblD (ep : Int) (X : List Se) : List En := if X.length = 0 then [] else [⟨3,1 + ep,lst5 X⟩]
theorem db_start (B : Int) (h0 : 0 ≤ B) (h1 : B < 65536) : DbI [] 0 B 0 := ⟨rfl,by simp,by simp; omega,by simp,List.Pairwise.nil,by simp,fun _ => rfl⟩
theorem db_step {X : List Se} {Q B u : Int} {i : Nat} (h : DbI X Q B i) (hi : i < 20) (hu : 0 ≤ u ∧ u < 32) : DbI (X ++ [⟨Q,1 + u,B⟩]) (Q + (1 + u)) (B + (1 + u + i)) (i + 1) := by
 obtain ⟨hn,⟨q1,q2⟩,⟨b1,b2⟩,hx,hp,hl,hz⟩ := h
 refine ⟨by rw [List.length_append,hn]; rfl,by omega,by omega,fun y hy => ?_,?_,fun y hy => ?_,fun h => by simp at h⟩
 · rcases List.mem_append.1 hy with h1 | h1
   · have := hx y h1; omega
   · obtain rfl := List.mem_singleton.1 h1
     simp only; omega
 · refine List.pairwise_append.2 ⟨hp,List.pairwise_singleton _ _,fun a ha b hb => ?_⟩
   obtain rfl := List.mem_singleton.1 hb
   exact (hx a ha).1.2
 · rw [List.getLast?_append] at hy
   simp at hy
   subst hy
   rfl
theorem lst5_len (X : List Se) : (lst5 X).length = if X.length < 5 then X.length else 5 := by
 unfold lst5; rw [List.length_drop]; split <;> omega
theorem tblD_find (ep : Int) (X : List Se) : (tblD ep X).find? (isI 3) = if X.length = 0 then none else some ⟨3,1 + ep,lst5 X⟩ := by
 unfold tblD
 by_cases h : X.length = 0
 · rw [if_pos h,if_pos h]; rfl
 · rw [if_neg h,if_neg h]; rfl
theorem lst5_last {X : List Se} {i : Nat} {Q B : Int} (h : DbI X Q B i) (hX : X.length ≠ 0) : bhI (seeI (lst5 X) ((lst5 X).length - 1)).q (seeI (lst5 X) ((lst5 X).length - 1)).c = Q % 2147483648 := by
 have hne : X ≠ [] := fun e => hX (by rw [e]; rfl)
 have h1 := h.l (X.getLast hne) (List.getLast?_eq_some_getLast hne)
 have h2 : seeI (lst5 X) ((lst5 X).length - 1) = X.getLast hne := by
   unfold seeI
   have : (lst5 X)[(lst5 X).length - 1]? = some (X.getLast hne) := by
     have hL := lst5_len X
     unfold lst5 at hL ⊢
     rw [List.getElem?_drop]
     rw [List.getLast_eq_getElem,List.getElem?_eq_getElem (by rw [List.length_drop]; omega)]
     congr 2
     rw [List.length_drop]; omega
   rw [this]; rfl
 rw [h2]
 unfold bhI
 rw [h1]
theorem mem_lst5 {X : List Se} {y : Se} (h : y ∈ lst5 X) : y ∈ X := List.mem_of_mem_drop h
theorem lst5_get (X : List Se) (j : Nat) (hj : j < (lst5 X).length) (h2 : X.length - 5 + j < X.length) : (lst5 X)[j] = X[X.length - 5 + j] := List.getElem_drop ..
theorem lst5_lt {X : List Se} {j : Nat} (hj : j < (lst5 X).length) : X.length - 5 + j < X.length := by
 unfold lst5 at hj; rw [List.length_drop] at hj; omega
theorem db_none {X : List Se} {Q B c s : Int} {i : Nat} (h : DbI X Q B i) (hs : Q ≤ s) : ¬ (lst5 X).findIdx (likeI s c) < (lst5 X).length := by
 intro hlt
 have h1 := List.findIdx_getElem (p := likeI s c) (xs := lst5 X) (w := hlt)
 have h2 := h.x _ (mem_lst5 (List.getElem_mem hlt))
 have h3 := like_q h1
 omega
theorem db_ask {X : List Se} {Q B : Int} {i : Nat} (ep c : Int) (h : DbI X Q B i) (hi : i ≤ 20) : askF (tblD ep X) c 3 (1 + ep) Q = ⟨0,false,0⟩ := by
 rw [askF_lk,if_neg (by decide),tblD_find]
 by_cases hX : X.length = 0
 · rw [if_pos hX]
   have hq := h.z (List.eq_nil_of_length_eq_zero hX)
   simp only [begF,hq,if_pos]
 · rw [if_neg hX]
   have hL := lst5_len X
   have h5 := h.q
   simp only [askE]
   rw [if_neg (by omega),if_neg (by omega),if_neg (by rw [hL]; split <;> omega),if_neg (db_none h (Int.le_refl _)),if_pos (by rw [lst5_last h hX]; omega)]
theorem lst5_snoc (X : List Se) (y : Se) : lst5 (lst5 X ++ [y]) = lst5 (X ++ [y]) := by
 unfold lst5
 rw [List.length_append,List.length_append,List.length_drop,List.length_singleton,List.drop_append,List.drop_append,List.drop_drop,List.length_drop]
 congr 2
 · omega
 · omega
theorem db_put (ep : Int) (X : List Se) (b c s : Int) : putF (tblD ep X) b c 3 (1 + ep) s = tblD ep (X ++ [⟨s,c,b⟩]) := by
 have hr : tblD ep (X ++ [⟨s,c,b⟩]) = [⟨3,1 + ep,lst5 (X ++ [⟨s,c,b⟩])⟩] := by
   unfold tblD; rw [if_neg (by simp)]
 rw [hr]
 unfold putF
 rw [if_neg (by decide)]
 by_cases hX : X.length = 0
 · obtain rfl : X = [] := List.eq_nil_of_length_eq_zero hX
   rfl
 · have ht : tblD ep X = [⟨3,1 + ep,lst5 X⟩] := if_neg hX
   have hI : ([⟨3,1 + ep,lst5 X⟩] : List En).findIdx (isI 3) = 0 := rfl
   rw [ht,hI,if_pos (by simp)]
   unfold setF
   rw [hI]
   have he : entI [⟨3,1 + ep,lst5 X⟩] 0 = ⟨3,1 + ep,lst5 X⟩ := rfl
   rw [he]
   unfold newL oldL
   rw [if_pos rfl,lst5_snoc]; rfl
theorem find_drop (X : List Se) (k : Nat) (h : k < X.length) (hp : X.Pairwise (fun a b => a.q < b.q)) (hk : X.length ≤ k + 5) : (lst5 X).findIdx (likeI X[k].q X[k].c) = k - (X.length - 5) := by
 have hL := lst5_len X
 have h1 : k - (X.length - 5) < (lst5 X).length := by rw [hL]; split <;> omega
 have hg : ∀ j (hj : j < (lst5 X).length),(lst5 X)[j] = X[X.length - 5 + j]'(lst5_lt hj) := fun j hj => lst5_get X j hj _
 have hkk : X.length - 5 + (k - (X.length - 5)) = k := by omega
 rw [List.findIdx_eq h1]
 refine ⟨?_,fun j hj => ?_⟩
 · rw [hg _ h1]
   simp only [hkk]
   simp [likeI]
 · rw [hg _ (by omega)]
   have := List.pairwise_iff_getElem.1 hp (X.length - 5 + j) k (by omega) h (by omega)
   unfold likeI
   rw [decide_eq_false (by omega)]; rfl
theorem find_drop_no (X : List Se) (k : Nat) (h : k < X.length) (hp : X.Pairwise (fun a b => a.q < b.q)) (hk : k + 5 < X.length) : ¬ (lst5 X).findIdx (likeI X[k].q X[k].c) < (lst5 X).length := by
 intro hlt
 have h1 := List.findIdx_getElem (p := likeI X[k].q X[k].c) (xs := lst5 X) (w := hlt)
 rw [lst5_get X _ hlt (lst5_lt hlt)] at h1
 have h3 := like_q h1
 have := List.pairwise_iff_getElem.1 hp k _ h (lst5_lt hlt) (by omega)
 omega
theorem db_look {X : List Se} {Q B : Int} {i : Nat} (ep : Int) (h : DbI X Q B i) (hi : i ≤ 20) (k : Nat) (hk : k < X.length) : askF (tblD ep X) X[k].c 3 (1 + ep) X[k].q = if X.length ≤ k + 5 then ⟨X[k].b,true,0⟩ else ⟨0,false,16⟩ := by
 have hL := lst5_len X
 rw [askF_lk,if_neg (by decide),tblD_find,if_neg (by omega)]
 simp only [askE]
 rw [if_neg (by omega),if_neg (by omega),if_neg (by rw [hL]; split <;> omega)]
 by_cases hl : X.length ≤ k + 5
 · rw [if_pos hl,find_drop X k hk h.p hl,if_pos (by rw [hL]; split <;> omega)]
   have : seeI (lst5 X) (k - (X.length - 5)) = X[k] := by
     unfold seeI lst5
     rw [List.getElem?_drop,show X.length - 5 + (k - (X.length - 5)) = k by omega,List.getElem?_eq_getElem hk]; rfl
   rw [this]
 · rw [if_neg hl,if_neg (find_drop_no X k hk h.p (by omega)),if_neg]
   rw [lst5_last h (by omega)]
   have h1 := h.x _ (List.getElem_mem hk)
   have h2 := h.q
   omega
theorem db_fence {X : List Se} (ep Q : Int) (hX : X.length ≠ 0) : askF (tblD ep X) 1 3 ep Q = ⟨0,false,17⟩ := by
 rw [askF_lk,if_neg (by decide),tblD_find,if_neg hX]
 simp only [askE]
 rw [if_neg (by omega),if_pos (by omega)]
theorem db_gap {X : List Se} {Q B : Int} {i : Nat} (ep : Int) (h : DbI X Q B i) (hi : i ≤ 20) (hX : X.length ≠ 0) : askF (tblD ep X) 40 3 (1 + ep) (Q + 1) = ⟨0,false,16⟩ := by
 have hL := lst5_len X
 have h5 := h.q
 rw [askF_lk,if_neg (by decide),tblD_find,if_neg hX]
 simp only [askE]
 rw [if_neg (by omega),if_neg (by omega),if_neg (by rw [hL]; split <;> omega),if_neg (db_none h (by omega)),if_neg (by rw [lst5_last h hX]; omega)]
theorem db_new {X : List Se} (ep : Int) (hX : X.length ≠ 0) : askF (tblD ep X) 1 3 (2 + ep) 0 = ⟨0,false,0⟩ := by
 rw [askF_lk,if_neg (by decide),tblD_find,if_neg hX]
 simp only [askE]
 rw [if_pos (by omega)]; rfl
theorem db_fnd {X : List Se} (ep : Int) (hX : X.length ≠ 0) : fndA (tblD ep X) 3 = .tup [.agg [.w (.int .i64 3),.w (.int .i64 (1 + ep)),.sg 3 ((lst5 X).map seA) false],.w (.bool true)] := by
 have ht : tblD ep X = [⟨3,1 + ep,lst5 X⟩] := if_neg hX
 rw [ht]; rfl
theorem db_ok {X : List Se} (ep : Int) (hX : X.length ≤ 20) : okL (tblD ep X) := by
 have hL := lst5_len X
 unfold tblD
 by_cases h : X.length = 0
 · rw [if_pos h]; exact ⟨by simp,by simp⟩
 · rw [if_neg h]
   refine ⟨by simp,fun r hr => ?_⟩
   obtain rfl := List.mem_singleton.1 hr
   simp only
   rw [hL]; split <;> omega
end Go.Proofs.Ytgpcnmajkcfgiaa
namespace Go.Proofs.Ytgpcnmajkcfgiaa
open Ax
def btA (ep : Int) (x : Se) : AV := .agg [.w (.int .i64 x.b),.w (.int .i64 x.c),.w (.int .i64 3),.w (.int .i64 (1 + ep)),.w (.int .i64 x.q),.sg 6 [] true]
theorem zeq (ep : Int) : ∀ (l : List Se),closedL (l.map (btA ep)) = true
 | [] => rfl
 | x :: r => by simp only [List.map_cons,closedL,btA,AV.closed,Bool.true_and]; exact zeq ep r
theorem ren_bt (ep : Int) (g : Nat → Nat) : ∀ (l : List Se),renL g (l.map (btA ep)) = l.map (btA ep)
 | [] => rfl
 | x :: r => by simp only [List.map_cons,renL,ren_bt ep g r]; rfl
theorem ids_bt (ep : Int) : ∀ (l : List Se),idsL (l.map (btA ep)) = []
 | [] => rfl
 | x :: r => by simp only [List.map_cons,idsL,ids_bt ep r]; rfl
theorem slot_bt (ep : Int) : ∀ (l : List Se) (i : Nat) (h : i < l.length),slot (l.map (btA ep)) i = btA ep l[i]
 | p :: ps,0,h => rfl
 | p :: ps,i + 1,h => by
   simp only [List.map_cons,slot,List.getElem_cons_succ]
   exact slot_bt ep ps i (by simpa using h)
def dblS : zay
 | [.sb bs f,.w (.int .u8 ep),.w (.int .u16 fi)],[] => ⟨bs.length ≤ 9223372036854775807 ∧ (0 ≤ ep ∧ ep < 256) ∧ 0 ≤ fi ∧ fi < 65536,.w (.bool true),[]⟩
 | _,_ => zcr
def Sdb13 (f : FuncId) : Option zay :=
 match f with
 | 9 => some yesS
 | 13 => some pubS
 | 11 => some askS
 | 14 => some fndS13
 | _ => none
theorem Sdb13_ok : Fns Try.prog Sdb13 := by
 intro f s h
 unfold Sdb13 at h
 split at h
 · injection h with h; subst h; exact ⟨⟨_,Try.func9,by kernel_rfl,by kernel_rfl⟩,aw13_sound⟩
 · injection h with h; subst h; exact ⟨⟨_,Try.func13,by kernel_rfl,by kernel_rfl⟩,pub_sound⟩
 · injection h with h; subst h; exact ⟨⟨_,Try.func11,by kernel_rfl,by kernel_rfl⟩,ask_sound⟩
 · injection h with h; subst h; exact ⟨⟨_,Try.func14,by kernel_rfl,by kernel_rfl⟩,fnd_sound⟩
 · cases h
def dbPl : Plan := fun id => match id with
 | 20 => some []
 | _ => none
theorem wD_ends {T : zae} {sl : List AV} {H : Heap} {nx : Nat} {v : Value} {q : Prop} (i : Nat) (h : slot sl i = .w v) : EndsW T [.tmp i] [] ⟨q,.w v,[]⟩ .ret ⟨sl,H,nx⟩ := by
 refine ⟨_,Weak.refl _,?_⟩
 simp only [Ax.Ends,Ax.rvals,EndsX,rone,h,AV.ids,idsL,newIds,upTo,nodup,pinsOf,List.nil_append,AV.ren,and_self]
section
set_option maxRecDepth 100000
set_option maxHeartbeats 16000000
theorem dbl_law : zbx Try.prog 5 dblS := by
 refine fn_soundF (S := Sdb13) (T := ty) (pl := dbPl) zcu ty_ok Sdb13_ok Try.func5 (c := Try.f5.body.getD .skip) (by kernel_rfl) (by kernel_rfl) (fun xs pins hp _ => ?_)
 unfold dblS at hp ⊢
 split at hp
 · rename_i bs f ep fi _
   obtain ⟨hL,⟨p0,p1⟩,f0,f1⟩ := hp
   have we : (ep + 9223372036854775808) % 18446744073709551616 - 9223372036854775808 = ep := by omega
   have we1 : (1 + ep + 9223372036854775808) % 18446744073709551616 - 9223372036854775808 = 1 + ep := by omega
   have we2 : (2 + ep + 9223372036854775808) % 18446744073709551616 - 9223372036854775808 = 2 + ep := by omega
   have wf : (fi + 9223372036854775808) % 18446744073709551616 - 9223372036854775808 = fi := by omega
   have ht : top = 4294967296 := rfl
   refine ⟨by simp,?_⟩
   unfold Try.f5
   by_cases h20 : 20 < bs.length
   · have d0 : decide ((20 : Int) < (bs.length : Int)) = true := decide_eq_true (by omega)
     simp only [go_sem,zad,Nat.reduceAdd,Nat.reduceSub,Nat.reduceMul,Int.reduceToNat,reduceCtorEq,↓reduceIte,Int.reducePow,Nat.reducePow,Int.reduceMod,Nat.reduceLeDiff,Int.reduceLE,Int.reduceNe,Int.reduceEq,Nat.reduceEqDiff,Nat.reduceLT,Nat.reduceBEq,List.map_cons,List.map_nil,List.toList_toArray,Array.toList_append,Option.toArray_some,Option.toArray_none,Bool.and_self,ty,Sdb13,dbPl,yesS,d0]
     exact wD_ends 6 rfl
   · have d0 : decide ((20 : Int) < (bs.length : Int)) = false := decide_eq_false (by omega)
     by_cases h0 : bs.length = 0
     · have d1 : decide ((bs.length : Int) = 0) = true := decide_eq_true (by omega)
       simp only [go_sem,zad,Nat.reduceAdd,Nat.reduceSub,Nat.reduceMul,Int.reduceToNat,reduceCtorEq,↓reduceIte,Int.reducePow,Nat.reducePow,Int.reduceMod,Nat.reduceLeDiff,Int.reduceLE,Int.reduceNe,Int.reduceEq,Nat.reduceEqDiff,Nat.reduceLT,Nat.reduceBEq,List.map_cons,List.map_nil,List.toList_toArray,Array.toList_append,Option.toArray_some,Option.toArray_none,Bool.and_self,ty,Sdb13,dbPl,yesS,d0,d1]
       exact wD_ends 6 rfl
     · have d1 : decide ((bs.length : Int) = 0) = false := decide_eq_false (by omega)
       simp only [go_sem,zad,Nat.reduceAdd,Nat.reduceSub,Nat.reduceMul,Int.reduceToNat,reduceCtorEq,↓reduceIte,Int.reducePow,Nat.reducePow,Int.reduceMod,Nat.reduceLeDiff,Int.reduceLE,Int.reduceNe,Int.reduceEq,Nat.reduceEqDiff,Nat.reduceLT,Nat.reduceBEq,List.map_cons,List.map_nil,List.toList_toArray,Array.toList_append,Option.toArray_some,Option.toArray_none,Bool.and_self,ty,Sdb13,dbPl,yesS,d0,d1,wf]
       refine zed ⟨fun m σ => ∃ (i : Nat) (X : List Se) (Q B : Int) (g : Bool),m = bs.length - i ∧ i ≤ bs.length ∧ DbI X Q B i ∧ σ = ⟨[.sb bs f,.w (.int .u8 ep),.junk,.junk,.junk,.junk,.w (.bool false),.rf 4 1 0 0,.ms 5 6 0 X.length,.w (.int .i64 Q),.w (.int .i64 B),.w (.int .i64 i),.junk,.junk,.junk,.junk,.junk,.junk,.junk,.junk,.junk,.junk,.junk,.junk,.junk,.junk,.junk,.junk,.junk,.junk,.junk,.junk,.junk,.junk,.junk,.junk,.junk,.junk,.junk,.junk,.junk,.junk,.junk,.junk,.junk,.junk,.junk,.junk,.junk,.junk,.junk,.junk,.junk,.junk,.junk,.junk,.junk,.junk,.junk,.junk,.junk,.junk,.junk,.junk,.junk,.junk,.junk,.junk,.junk,.junk,.junk,.junk,.junk,.junk,.junk,.junk,.junk,.junk,.junk,.junk,.junk,.junk,.junk,.junk,.junk,.junk,.junk,.junk,.junk,.junk,.junk,.junk,.junk,.junk,.junk,.junk,.junk,.junk,.junk,.junk,.junk,.junk,.junk,.junk,.junk,.junk,.junk,.junk,.junk,.junk,.junk,.junk,.junk,.junk,.junk,.junk,.junk,.junk,.junk,.junk,.junk,.junk,.junk,.junk,.junk,.junk,.junk,.junk,.junk,.junk,.junk,.junk,.junk,.junk,.junk,.junk,.junk,.junk,.junk,.junk,.junk,.junk,.junk,.junk,.junk,.junk,.junk,.junk,.junk,.junk,.junk,.junk,.junk,.junk,.junk,.junk,.junk,.junk,.junk,.junk,.junk,.junk,.junk,.junk,.junk,.junk,.junk,.junk,.junk,.junk,.junk,.junk,.junk,.junk,.junk,.junk,.junk,.junk,.junk,.junk,.junk,.junk,.junk,.junk,.junk,.junk,.junk,.junk,.junk,.junk,.junk,.junk,.junk,.junk,.junk,.junk,.junk,.junk,.junk,.junk,.junk,.junk,.junk,.junk,.junk,.junk,.junk,.junk,.junk,.junk,.junk,.junk,.junk,.junk,.junk],[(4,.g 1 [.agg [.sg 3 ((tblD ep X).map enA) g]]),(5,.g 6 (X.map (btA ep)))],6⟩,?_,?_⟩
       · refine ⟨_,_,(weak_nil 8 6 (.g 6 []) ⟨by decide,rfl⟩ (by exact trivial)).trans (zal [0,1,2,3,76,132] rfl rfl rfl ?_ ?_),0,[],0,fi,true,rfl,by omega,db_start fi f0 f1,rfl⟩
         · simp only [ssT,zaq,zar,setSlot,gOf,AV.ren,renL,Blk.ren,Ax.look,Ax.put,reduceCtorEq,↓reduceIte,Nat.reduceEqDiff,Nat.reduceLT,Nat.reduceAdd,List.length_append,List.length_cons,List.length_nil,Option.some.injEq]; try simp
         · simp only [ssT,zaq,zar,setSlot,gOf,AV.ren,renL,Blk.ren,Ax.look,Ax.put,reduceCtorEq,↓reduceIte,Nat.reduceEqDiff,Nat.reduceLT,Nat.reduceAdd,List.length_append,List.length_cons,List.length_nil,Option.some.injEq]; try simp [renL]
           try rfl
       · rintro m σ ⟨i,X,Q,B,g,rfl,hi,hI,rfl⟩
         have e1 : ((i : Int) + 1 + 9223372036854775808) % 18446744073709551616 - 9223372036854775808 = ((i + 1 : Nat) : Int) := by omega
         have hn := hI.n
         have hxt : ∃ k : List En,(tblD ep X).map enA = k.map enA ∧ okL k := ⟨tblD ep X,rfl,db_ok ep (by omega)⟩
         have hbl : (X.map (btA ep)).length = X.length := by simp
         by_cases hil : i < bs.length
         · have d2 : decide ((i : Int) < bs.length) = true := decide_eq_true (by omega)
           obtain ⟨u,hu⟩ : ∃ u,((bs.getD i 0).toNat : Int).tmod 32 = u := ⟨_,rfl⟩
           have hub : 0 ≤ u ∧ u < 32 := by rw [← hu]; exact ⟨Int.tmod_nonneg 32 (by omega),Int.tmod_lt_of_pos _ (by omega)⟩
           have hst := db_step hI (by omega) hub
           obtain ⟨hq1,hq2⟩ := hI.q
           obtain ⟨hb1,hb2⟩ := hI.b
           have wu : (u + 9223372036854775808) % 18446744073709551616 - 9223372036854775808 = u := by omega
           have wu1 : (1 + u + 9223372036854775808) % 18446744073709551616 - 9223372036854775808 = 1 + u := by omega
           have wQ : (Q + (1 + u) + 9223372036854775808) % 18446744073709551616 - 9223372036854775808 = Q + (1 + u) := by omega
           have wB1 : (1 + u + (i : Int) + 9223372036854775808) % 18446744073709551616 - 9223372036854775808 = 1 + u + i := by omega
           have wB2 : (B + (1 + u + (i : Int)) + 9223372036854775808) % 18446744073709551616 - 9223372036854775808 = B + (1 + u + i) := by omega
           have hA := db_ask ep (1 + u) hI (by omega)
           have hP := db_put ep X B (1 + u) Q
           have happ : X.map (btA ep) ++ [.agg [.w (.int .i64 B),.w (.int .i64 (1 + u)),.w (.int .i64 3),.w (.int .i64 (1 + ep)),.w (.int .i64 Q),.sg 6 [] true]] = (X ++ [(⟨Q,1 + u,B⟩ : Se)]).map (btA ep) := by simp [btA]
           have c6 : coe ty 25 (.sg 6 [] true) = .sg 6 [] true := rfl
           simp (config := { maxSteps := 3000000 }) only [go_sem,zad,Nat.reduceAdd,Nat.reduceSub,Nat.reduceMul,Int.reduceToNat,reduceCtorEq,↓reduceIte,Int.reducePow,Nat.reducePow,Int.reduceMod,Nat.reduceLeDiff,Int.reduceLE,Int.reduceNe,Int.reduceEq,Nat.reduceEqDiff,Nat.reduceLT,Nat.reduceBEq,List.map_cons,List.map_nil,List.toList_toArray,Array.toList_append,Option.toArray_some,Option.toArray_none,Bool.and_self,ty,Sdb13,dbPl,askS,pubS,anA,we,we1,d2,e1,hu,wu,wu1,wQ,wB1,wB2,hA,hP,happ,hbl,c6,zcb,hxt,zak,zab,zeq,zam,ids_bt,Int.toNat_natCast,Bool.not_true,Bool.not_false]
           repeat (first | refine And.intro (by omega) ?_ | refine And.intro ⟨by omega,by omega⟩ ?_)
           refine ⟨bs.length - (i + 1),_,by omega,zal [0,1,2,3,4,334] rfl rfl rfl ?_ ?_,i + 1,_,_,_,false,rfl,by omega,hst,rfl⟩
           · simp only [ssT,zaq,zar,setSlot,gOf,AV.ren,renL,Blk.ren,Ax.look,Ax.put,reduceCtorEq,↓reduceIte,Nat.reduceEqDiff,Nat.reduceLT,Nat.reduceAdd,List.length_append,List.length_cons,List.length_nil,Option.some.injEq,zai,ren_bt]; try simp
           · simp only [ssT,zaq,zar,setSlot,gOf,AV.ren,renL,Blk.ren,Ax.look,Ax.put,reduceCtorEq,↓reduceIte,Nat.reduceEqDiff,Nat.reduceLT,Nat.reduceAdd,List.length_append,List.length_cons,List.length_nil,Option.some.injEq,zai,ren_bt]; try simp
         · have d2 : decide ((i : Int) < bs.length) = false := decide_eq_false (by omega)
           have hX0 : X.length ≠ 0 := by omega
           have hX20 : X.length ≤ 20 := by omega
           have c6 : coe ty 25 (.sg 6 [] true) = .sg 6 [] true := rfl
           obtain ⟨hq1,hq2⟩ := hI.q
           simp (config := { maxSteps := 3000000 }) only [go_sem,zad,Nat.reduceAdd,Nat.reduceSub,Nat.reduceMul,Int.reduceToNat,reduceCtorEq,↓reduceIte,Int.reducePow,Nat.reducePow,Int.reduceMod,Nat.reduceLeDiff,Int.reduceLE,Int.reduceNe,Int.reduceEq,Nat.reduceEqDiff,Nat.reduceLT,Nat.reduceBEq,List.map_cons,List.map_nil,List.toList_toArray,Array.toList_append,Option.toArray_some,Option.toArray_none,Bool.and_self,ty,Sdb13,dbPl,yesS,askS,fndS13,anA,we,we1,we2,hbl,c6,zcb,hxt,zak,zab,zac,zeq,zam,ids_bt,Int.toNat_natCast,Bool.not_true,Bool.not_false,d2]
           refine ⟨_,Weak.refl _,?_⟩
           simp (config := { maxSteps := 3000000 }) only [go_sem,zad,Nat.reduceAdd,Nat.reduceSub,Nat.reduceMul,Int.reduceToNat,reduceCtorEq,↓reduceIte,Int.reducePow,Nat.reducePow,Int.reduceMod,Nat.reduceLeDiff,Int.reduceLE,Int.reduceNe,Int.reduceEq,Nat.reduceEqDiff,Nat.reduceLT,Nat.reduceBEq,List.map_cons,List.map_nil,List.toList_toArray,Array.toList_append,Option.toArray_some,Option.toArray_none,Bool.and_self,ty,Sdb13,dbPl,yesS,askS,fndS13,anA,we,we1,we2,hbl,c6,zcb,hxt,zak,zab,zac,zeq,zam,ids_bt,Int.toNat_natCast,Bool.not_true,Bool.not_false,d2]
           refine zed ⟨fun m σ => ∃ k : Nat,m = X.length - k ∧ k ≤ X.length ∧ σ = ⟨[.junk,.w (.int .u8 ep),.junk,.junk,.junk,.junk,.w (.bool false),.rf 4 1 0 0,.ms 5 6 0 X.length,.w (.int .i64 Q),.junk,.junk,.junk,.junk,.junk,.junk,.w (.int .i64 k),.junk,.junk,.junk,.junk,.junk,.junk,.junk,.junk,.junk,.junk,.junk,.junk,.junk,.junk,.junk,.junk,.junk,.junk,.junk,.junk,.junk,.junk,.junk,.junk,.junk,.junk,.junk,.junk,.junk,.junk,.junk,.junk,.junk,.junk,.junk,.junk,.junk,.junk,.junk,.junk,.junk,.junk,.junk,.junk,.junk,.junk,.junk,.junk,.junk,.junk,.junk,.junk,.junk,.junk,.junk,.junk,.junk,.junk,.junk,.junk,.junk,.junk,.junk,.junk,.junk,.junk,.junk,.junk,.junk,.junk,.junk,.junk,.junk,.junk,.junk,.junk,.junk,.junk,.junk,.junk,.junk,.junk,.junk,.junk,.junk,.junk,.junk,.junk,.junk,.junk,.junk,.junk,.junk,.junk,.junk,.junk,.junk,.junk,.junk,.junk,.junk,.junk,.junk,.junk,.junk,.junk,.junk,.junk,.junk,.junk,.junk,.junk,.junk,.junk,.junk,.junk,.junk,.junk,.junk,.junk,.junk,.junk,.junk,.junk,.junk,.junk,.junk,.junk,.junk,.junk,.junk,.junk,.junk,.junk,.junk,.junk,.junk,.junk,.junk,.junk,.junk,.junk,.junk,.junk,.junk,.junk,.junk,.junk,.junk,.junk,.junk,.junk,.junk,.junk,.junk,.junk,.junk,.junk,.junk,.junk,.junk,.junk,.junk,.junk,.junk,.junk,.junk,.junk,.junk,.junk,.junk,.junk,.junk,.junk,.junk,.junk,.junk,.junk,.junk,.junk,.junk,.junk,.junk,.junk,.junk,.junk,.junk,.junk,.junk,.junk,.junk,.junk,.junk,.junk,.junk,.junk,.junk,.junk],[(4,.g 1 [.agg [.sg 3 ((tblD ep X).map enA) g]]),(5,.g 6 (X.map (btA ep)))],6⟩,?_,?_⟩
           · refine ⟨_,_,zal [0,1,2,3,4,5] rfl rfl rfl ?_ ?_,0,rfl,by omega,rfl⟩
             · simp only [ssT,zaq,zar,setSlot,gOf,AV.ren,renL,Blk.ren,Ax.look,Ax.put,reduceCtorEq,↓reduceIte,Nat.reduceEqDiff,Nat.reduceLT,Nat.reduceAdd,List.length_append,List.length_cons,List.length_nil,Option.some.injEq,zai,ren_bt]; try simp
             · simp only [ssT,zaq,zar,setSlot,gOf,AV.ren,renL,Blk.ren,Ax.look,Ax.put,reduceCtorEq,↓reduceIte,Nat.reduceEqDiff,Nat.reduceLT,Nat.reduceAdd,List.length_append,List.length_cons,List.length_nil,Option.some.injEq,zai,ren_bt]; try simp
           · rintro m σ ⟨k,rfl,hk,rfl⟩
             have e2 : ((k : Int) + 1 + 9223372036854775808) % 18446744073709551616 - 9223372036854775808 = ((k + 1 : Nat) : Int) := by omega
             by_cases hkl : k < X.length
             · have d3 : decide ((k : Int) < X.length) = true := decide_eq_true (by omega)
               have hs1 := slot_bt ep X k hkl
               have hA := db_look ep hI (by omega) k hkl
               obtain ⟨y,hy⟩ : ∃ y,X[k] = y := ⟨_,rfl⟩
               rw [hy] at hs1 hA
               obtain ⟨yq,yc,yb⟩ := y
               have hs1 : slot (X.map (btA ep)) k = .agg [.w (.int .i64 yb),.w (.int .i64 yc),.w (.int .i64 3),.w (.int .i64 (1 + ep)),.w (.int .i64 yq),.sg 6 [] true] := hs1
               simp only at hA
               have wl : ((X.length : Int) - (k : Int) + 9223372036854775808) % 18446744073709551616 - 9223372036854775808 = (X.length : Int) - k := by omega
               have hyb : decide (yb = yb) = true := decide_eq_true rfl
               by_cases hlt : X.length ≤ k + 5
               · rw [if_pos hlt] at hA
                 have d4 : decide ((X.length : Int) - k ≤ 5) = true := decide_eq_true (by omega)
                 simp (config := { maxSteps := 3000000 }) only [go_sem,zad,Nat.reduceAdd,Nat.reduceSub,Nat.reduceMul,Int.reduceToNat,reduceCtorEq,↓reduceIte,Int.reducePow,Nat.reducePow,Int.reduceMod,Nat.reduceLeDiff,Int.reduceLE,Int.reduceNe,Int.reduceEq,Nat.reduceEqDiff,Nat.reduceLT,Nat.reduceBEq,List.map_cons,List.map_nil,List.toList_toArray,Array.toList_append,Option.toArray_some,Option.toArray_none,Bool.and_self,ty,Sdb13,dbPl,yesS,askS,fndS13,anA,we,we1,we2,hbl,c6,zcb,hxt,zak,zab,zac,zeq,zam,ids_bt,Int.toNat_natCast,Bool.not_true,Bool.not_false,d3,hs1,hA,wl,hyb,d4,e2]
                 repeat (first | refine And.intro (by omega) ?_ | refine And.intro ⟨by omega,by omega⟩ ?_)
                 refine ⟨X.length - (k + 1),_,by omega,zal [0,1,2,3,4,5] rfl rfl rfl ?_ ?_,k + 1,rfl,by omega,rfl⟩
                 · simp only [ssT,zaq,zar,setSlot,gOf,AV.ren,renL,Blk.ren,Ax.look,Ax.put,reduceCtorEq,↓reduceIte,Nat.reduceEqDiff,Nat.reduceLT,Nat.reduceAdd,List.length_append,List.length_cons,List.length_nil,Option.some.injEq,zai,ren_bt]; try simp
                 · simp only [ssT,zaq,zar,setSlot,gOf,AV.ren,renL,Blk.ren,Ax.look,Ax.put,reduceCtorEq,↓reduceIte,Nat.reduceEqDiff,Nat.reduceLT,Nat.reduceAdd,List.length_append,List.length_cons,List.length_nil,Option.some.injEq,zai,ren_bt]; try simp
               · rw [if_neg hlt] at hA
                 have d4 : decide ((X.length : Int) - k ≤ 5) = false := decide_eq_false (by omega)
                 simp (config := { maxSteps := 3000000 }) only [go_sem,zad,Nat.reduceAdd,Nat.reduceSub,Nat.reduceMul,Int.reduceToNat,reduceCtorEq,↓reduceIte,Int.reducePow,Nat.reducePow,Int.reduceMod,Nat.reduceLeDiff,Int.reduceLE,Int.reduceNe,Int.reduceEq,Nat.reduceEqDiff,Nat.reduceLT,Nat.reduceBEq,List.map_cons,List.map_nil,List.toList_toArray,Array.toList_append,Option.toArray_some,Option.toArray_none,Bool.and_self,ty,Sdb13,dbPl,yesS,askS,fndS13,anA,we,we1,we2,hbl,c6,zcb,hxt,zak,zab,zac,zeq,zam,ids_bt,Int.toNat_natCast,Bool.not_true,Bool.not_false,d3,hs1,hA,wl,hyb,d4,e2]
                 repeat (first | refine And.intro (by omega) ?_ | refine And.intro ⟨by omega,by omega⟩ ?_)
                 refine ⟨X.length - (k + 1),_,by omega,zal [0,1,2,3,4,5] rfl rfl rfl ?_ ?_,k + 1,rfl,by omega,rfl⟩
                 · simp only [ssT,zaq,zar,setSlot,gOf,AV.ren,renL,Blk.ren,Ax.look,Ax.put,reduceCtorEq,↓reduceIte,Nat.reduceEqDiff,Nat.reduceLT,Nat.reduceAdd,List.length_append,List.length_cons,List.length_nil,Option.some.injEq,zai,ren_bt]; try simp
                 · simp only [ssT,zaq,zar,setSlot,gOf,AV.ren,renL,Blk.ren,Ax.look,Ax.put,reduceCtorEq,↓reduceIte,Nat.reduceEqDiff,Nat.reduceLT,Nat.reduceAdd,List.length_append,List.length_cons,List.length_nil,Option.some.injEq,zai,ren_bt]; try simp
             · have d3 : decide ((k : Int) < X.length) = false := decide_eq_false (by omega)
               have wQ : (Q + 1 + 9223372036854775808) % 18446744073709551616 - 9223372036854775808 = Q + 1 := by omega
               have a1 := db_fence (X := X) ep Q hX0
               have a2 := db_gap ep hI (by omega) hX0
               have a3 := db_new (X := X) ep hX0
               have a4 := db_fnd (X := X) ep hX0
               have hle5 : ((lst5 X).map seA).length = (lst5 X).length := by simp
               have h5 : decide (((lst5 X).length : Int) = if (X.length : Int) < 5 then (X.length : Int) else 5) = true := decide_eq_true (by rw [lst5_len]; split <;> split <;> omega)
               simp (config := { maxSteps := 3000000 }) only [go_sem,zad,Nat.reduceAdd,Nat.reduceSub,Nat.reduceMul,Int.reduceToNat,reduceCtorEq,↓reduceIte,Int.reducePow,Nat.reducePow,Int.reduceMod,Nat.reduceLeDiff,Int.reduceLE,Int.reduceNe,Int.reduceEq,Nat.reduceEqDiff,Nat.reduceLT,Nat.reduceBEq,List.map_cons,List.map_nil,List.toList_toArray,Array.toList_append,Option.toArray_some,Option.toArray_none,Bool.and_self,ty,Sdb13,dbPl,yesS,askS,fndS13,anA,we,we1,we2,hbl,c6,zcb,hxt,zak,zab,zac,zeq,zam,ids_bt,Int.toNat_natCast,Bool.not_true,Bool.not_false,d3,wQ,a1,a2,a3,a4,hle5,h5]
               refine ⟨_,Weak.refl _,?_⟩
               simp (config := { maxSteps := 3000000 }) only [go_sem,zad,Nat.reduceAdd,Nat.reduceSub,Nat.reduceMul,Int.reduceToNat,reduceCtorEq,↓reduceIte,Int.reducePow,Nat.reducePow,Int.reduceMod,Nat.reduceLeDiff,Int.reduceLE,Int.reduceNe,Int.reduceEq,Nat.reduceEqDiff,Nat.reduceLT,Nat.reduceBEq,List.map_cons,List.map_nil,List.toList_toArray,Array.toList_append,Option.toArray_some,Option.toArray_none,Bool.and_self,ty,Sdb13,dbPl,yesS,askS,fndS13,anA,we,we1,we2,hbl,c6,zcb,hxt,zak,zab,zac,zeq,zam,ids_bt,Int.toNat_natCast,Bool.not_true,Bool.not_false,d3,wQ,a1,a2,a3,a4,hle5,h5]
               exact wD_ends 6 rfl
 · exact hp.elim
end
theorem arg_bytes13 {j : Nat} {x : AV} (h : Arg ty (j + 1) 63 x) : ∃ (bs : List UInt8) (f : Bool),x = .sb bs f ∧ bs.length ≤ 9223372036854775807 := by
 obtain ⟨i,ls,hi,hs,rfl⟩ := h
 simp only [ty] at hi
 injection hi with hi
 subst hi
 simp only [Shape,ty,ShapeF,isFlatI] at hs
 obtain ⟨m,f,rfl,w⟩ := hs
 have : maxLen = 9223372036854775807 := by decide
 exact ⟨m,f,rfl,by omega⟩
theorem arg_u813 {j : Nat} {x : AV} (h : Arg ty (j + 1) 5 x) : ∃ n : Int,x = .w (.int .u8 n) ∧ 0 ≤ n ∧ n < 256 := by
 obtain ⟨i,ls,hi,hs,rfl⟩ := h
 simp only [ty] at hi
 injection hi with hi
 subst hi
 simp only [Shape,ty] at hs
 obtain ⟨m,rfl,hw⟩ := hs
 exact ⟨m,rfl,wf_u8 hw⟩
theorem arg_u1613 {j : Nat} {x : AV} (h : Arg ty (j + 1) 64 x) : ∃ n : Int,x = .w (.int .u16 n) ∧ 0 ≤ n ∧ n < 65536 := by
 obtain ⟨i,ls,hi,hs,rfl⟩ := h
 simp only [ty] at hi
 injection hi with hi
 subst hi
 simp only [Shape,ty] at hs
 obtain ⟨m,rfl,hw⟩ := hs
 exact ⟨m,rfl,wf_u16 hw⟩
theorem dbl_dom {x y z : AV} (hx : Arg ty 8 63 x) (hy : Arg ty 8 5 y) (hz : Arg ty 8 64 z) : (dblS [x,y,z] []).p ∧ (dblS [x,y,z] []).x = .w (.bool true) := by
 obtain ⟨bs,f,rfl,hL⟩ := arg_bytes13 (j := 7) hx
 obtain ⟨e,rfl,e0,e1⟩ := arg_u813 (j := 7) hy
 obtain ⟨a,rfl,a0,a1⟩ := arg_u1613 (j := 7) hz
 exact ⟨⟨hL,⟨e0,e1⟩,a0,a1⟩,rfl⟩
end Go.Proofs.Ytgpcnmajkcfgiaa
