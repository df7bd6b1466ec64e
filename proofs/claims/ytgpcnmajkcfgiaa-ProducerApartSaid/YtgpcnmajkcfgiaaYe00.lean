/- What the proofs of this seat stand on; it asks nothing. -/
import Derived.Test.YtgpcnmajkcfgiaaYa13
import Derived.Test.YtgpcnmajkcfgiaaYb00
import Derived.Test.YtgpcnmajkcfgiaaYc00
set_option linter.unusedSimpArgs false
set_option linter.unusedVariables false
namespace Go.Proofs.Ytgpcnmajkcfgiaa
open Ax
def bvp (p : Bat × Bool) : AV := bav p.1 p.2
theorem slot_bvp : ∀ (l : List (Bat × Bool)) (i : Nat) (h : i < l.length),slot (l.map bvp) i = bvp l[i]
 | _ :: _,0,_ => rfl
 | _ :: r,i + 1,h => by
   simp only [List.map_cons,slot,List.getElem_cons_succ]
   exact slot_bvp r i (by simpa using h)
end Go.Proofs.Ytgpcnmajkcfgiaa
namespace Go.Proofs.Ytgpcnmajkcfgiaa
open Ax
def oldO (o : Option En) (e : Int) : List Se := match o with
 | some r => oldL r e
 | none => []
theorem lk_set (p p' : Int) (x : En) (hx : x.i = p) : ∀ l : List En,l.findIdx (isI p) < l.length → (l.set (l.findIdx (isI p)) x).find? (isI p') = if p' = p then some x else l.find? (isI p')
 | [],h => by simp at h
 | y :: l,h => by
   by_cases hy : y.i = p
   · have h1 : (y :: l).findIdx (isI p) = 0 := by rw [List.findIdx_cons]; simp [isI,hy]
     rw [h1,List.set_cons_zero,List.find?_cons,List.find?_cons]
     by_cases hp : p' = p
     · have : isI p' x = true := by unfold isI; exact decide_eq_true (by omega)
       rw [this,if_pos hp]
     · have e1 : isI p' x = false := by unfold isI; exact decide_eq_false (by omega)
       have e2 : isI p' y = false := by unfold isI; exact decide_eq_false (by omega)
       rw [e1,e2,if_neg hp]
   · have h1 : (y :: l).findIdx (isI p) = l.findIdx (isI p) + 1 := by rw [List.findIdx_cons]; simp [isI,hy]
     rw [h1] at h ⊢
     have ih := lk_set p p' x hx l (by simpa using h)
     rw [List.set_cons_succ,List.find?_cons,List.find?_cons,ih]
     by_cases hp : p' = p
     · have : isI p' y = false := by unfold isI; exact decide_eq_false (by omega)
       rw [this]
     · rw [if_neg hp,if_neg hp]
theorem lk_ins (p p' : Int) (x : En) (hx : x.i = p) (l : List En) (hn : l.find? (isI p) = none) (K : Nat) : (l.take K ++ x :: l.drop K).find? (isI p') = if p' = p then some x else l.find? (isI p') := by
 rw [List.find?_append,List.find?_cons]
 by_cases hp : p' = p
 · subst hp
   have e1 : isI p' x = true := by unfold isI; exact decide_eq_true hx
   have e2 : (l.take K).find? (isI p') = none := by
     rw [List.find?_eq_none] at hn ⊢
     exact fun y hy => hn y (List.mem_of_mem_take hy)
   rw [e1,e2,if_pos rfl]; rfl
 · have e1 : isI p' x = false := by unfold isI; exact decide_eq_false (by omega)
   rw [e1,if_neg hp]
   have := List.find?_append (xs := l.take K) (ys := l.drop K) (p := isI p')
   rw [List.take_append_drop] at this
   rw [this]
theorem lk_put (l : List En) (b c p e s p' : Int) (hp : p ≠ 0) : (putF l b c p e s).find? (isI p') = if p' = p then some ⟨p,e,newL (oldO (l.find? (isI p)) e) s c b⟩ else l.find? (isI p') := by
 unfold putF
 rw [if_neg hp,lk_eq (isI p) l]
 by_cases h : l.findIdx (isI p) < l.length
 · rw [if_pos h,if_pos h]
   unfold setF
   rw [lk_set p p' _ rfl l h]; rfl
 · rw [if_neg h,if_neg h]
   unfold addF
   rw [lk_ins p p' _ rfl l (by rw [lk_eq,if_neg h]) _]; rfl
def srtE (l : List En) : Prop := l.Pairwise (fun a b => a.i < b.i)
theorem srt_ids {l k : List En} (h : l.map En.i = k.map En.i) (hs : srtE l) : srtE k := by
 unfold srtE at *
 have h1 : (l.map En.i).Pairwise (· < ·) := List.pairwise_map.2 hs
 rw [h] at h1
 exact List.pairwise_map.1 h1
theorem srt_set (p : Int) (x : En) (hx : x.i = p) (l : List En) (h : l.findIdx (isI p) < l.length) (hs : srtE l) : srtE (l.set (l.findIdx (isI p)) x) := by
 refine srt_ids ?_ hs
 rw [List.map_set]
 have h1 : (l[l.findIdx (isI p)]).i = p := by
   have := List.findIdx_getElem (p := isI p) (xs := l) (w := h)
   exact of_decide_eq_true this
 have h2 : (l.map En.i)[l.findIdx (isI p)]'(by simpa using h) = x.i := by rw [List.getElem_map,h1,hx]
 rw [← h2,List.set_getElem_self]
theorem srt_ins (p : Int) (x : En) (hx : x.i = p) : ∀ l : List En,srtE l → (∀ e ∈ l,e.i ≠ p) → srtE (l.take (l.findIdx (pastI p)) ++ x :: l.drop (l.findIdx (pastI p)))
 | [],_,_ => by unfold srtE; exact List.pairwise_singleton _ _
 | y :: l,hs,hn => by
   unfold srtE at *
   obtain ⟨h1,h2⟩ := List.pairwise_cons.1 hs
   rw [List.findIdx_cons]
   by_cases hy : p < y.i
   · have : pastI p y = true := decide_eq_true hy
     rw [this]
     simp only [cond_true,List.take_zero,List.drop_zero,List.nil_append]
     refine List.pairwise_cons.2 ⟨fun z hz => ?_,hs⟩
     rcases List.mem_cons.1 hz with rfl | hz
     · omega
     · have := h1 z hz; omega
   · have : pastI p y = false := decide_eq_false hy
     rw [this]
     simp only [cond_false,List.take_succ_cons,List.drop_succ_cons,List.cons_append]
     refine List.pairwise_cons.2 ⟨fun z hz => ?_,srt_ins p x hx l h2 (fun e he => hn e (by simp [he]))⟩
     rcases ins_mem l x _ z hz with rfl | hz
     · have := hn y (by simp); omega
     · exact h1 z hz
theorem srt_put (l : List En) (b c p e s : Int) (hs : srtE l) : srtE (putF l b c p e s) := by
 unfold putF
 by_cases hp : p = 0
 · rw [if_pos hp]; exact hs
 · rw [if_neg hp]
   by_cases h : l.findIdx (isI p) < l.length
   · rw [if_pos h]; exact srt_set p _ rfl l h hs
   · rw [if_neg h]
     refine srt_ins p _ rfl l hs (fun r hr he => ?_)
     have h1 : l.find? (isI p) = none := by rw [lk_eq,if_neg h]
     rw [List.find?_eq_none] at h1
     exact h1 r hr (decide_eq_true he)
end Go.Proofs.Ytgpcnmajkcfgiaa
namespace Go.Proofs.Ytgpcnmajkcfgiaa
open Ax
def apartS : zay
 | [.sg 6 xs f,.agg [.w (.int .i64 b),.w (.int .i64 c),.w (.int .i64 p),.w (.int .i64 e),.w (.int .i64 s),.sg 6 rs h]],[] => ⟨closedL rs = true ∧ xs.length ≤ 9223372036854775807 ∧ ∃ l : List (Bat × Bool),xs = l.map bvp,.w (.bool true),[]⟩
 | _,_ => zcr
def Sap13 (f : FuncId) : Option zay :=
 match f with
 | 9 => some yesS
 | 13 => some pubS
 | 11 => some askS
 | _ => none
theorem Sap13_ok : Fns Try.prog Sap13 := by
 intro f s h
 unfold Sap13 at h
 split at h
 · injection h with h; subst h; exact ⟨⟨_,Try.func9,by kernel_rfl,by kernel_rfl⟩,aw13_sound⟩
 · injection h with h; subst h; exact ⟨⟨_,Try.func13,by kernel_rfl,by kernel_rfl⟩,pub_sound⟩
 · injection h with h; subst h; exact ⟨⟨_,Try.func11,by kernel_rfl,by kernel_rfl⟩,ask_sound⟩
 · cases h
def apPl : Plan := fun id => match id with
 | 7 => some []
 | 8 => some []
 | 9 => some []
 | 15 => some []
 | _ => none
theorem wP_ends {T : zae} {sl : List AV} {H : Heap} {nx : Nat} {v : Value} {q : Prop} (i : Nat) (h : slot sl i = .w v) : EndsW T [.tmp i] [] ⟨q,.w v,[]⟩ .ret ⟨sl,H,nx⟩ := by
 refine ⟨_,Weak.refl _,?_⟩
 simp only [Ax.Ends,Ax.rvals,EndsX,rone,h,AV.ids,idsL,newIds,upTo,nodup,pinsOf,List.nil_append,AV.ren,and_self]
structure ApI (p : Int) (A F : List En) (i : Nat) : Prop where
 a : okN i A
 f : okN i F
 s : srtE A
 e : A.find? (isI p) = F.find? (isI p)
theorem ap_start (p : Int) : ApI p [] [] 0 := ⟨⟨by simp,by simp⟩,⟨by simp,by simp⟩,List.Pairwise.nil,rfl⟩
theorem ap_same {p : Int} {A F : List En} {i : Nat} (h : ApI p A F i) (b c e s : Int) : ApI p (putF A b c p e s) (putF F b c p e s) (i + 1) := by
 refine ⟨okN_put h.a _ _ _ _ _,okN_put h.f _ _ _ _ _,srt_put _ _ _ _ _ _ h.s,?_⟩
 by_cases hp : p = 0
 · unfold putF; rw [if_pos hp,if_pos hp]; exact h.e
 · rw [lk_put _ _ _ _ _ _ _ hp,lk_put _ _ _ _ _ _ _ hp,h.e]
theorem ap_other {p : Int} {A F : List En} {i : Nat} (h : ApI p A F i) (b c q e s : Int) (hq : q ≠ p) : ApI p (putF A b c q e s) F (i + 1) := by
 refine ⟨okN_put h.a _ _ _ _ _,⟨Nat.le_succ_of_le h.f.1,h.f.2⟩,srt_put _ _ _ _ _ _ h.s,?_⟩
 by_cases hp : q = 0
 · unfold putF; rw [if_pos hp]; exact h.e
 · rw [lk_put _ _ _ _ _ _ _ hp,if_neg (fun e => hq e.symm)]; exact h.e
section
set_option maxRecDepth 100000
set_option maxHeartbeats 16000000
theorem apart_law : zbx Try.prog 6 apartS := by
 refine fn_soundF (S := Sap13) (T := ty) (pl := apPl) zcu ty_ok Sap13_ok Try.func6 (c := Try.f6.body.getD .skip) (by kernel_rfl) (by kernel_rfl) (fun xs pins hp _ => ?_)
 unfold apartS at hp ⊢
 split at hp
 · rename_i xs f b c p e s rs h _
   obtain ⟨hr,hL,l,rfl⟩ := hp
   rw [List.length_map] at hL
   have hle : (l.map bvp).length = l.length := by simp
   refine ⟨by simp,?_⟩
   unfold Try.f6
   by_cases h20 : 20 < l.length
   · have d0 : decide ((20 : Int) < (l.length : Int)) = true := decide_eq_true (by omega)
     simp only [go_sem,zad,Nat.reduceAdd,Nat.reduceSub,Nat.reduceMul,Int.reduceToNat,reduceCtorEq,↓reduceIte,Int.reducePow,Nat.reducePow,Int.reduceMod,Nat.reduceLeDiff,Int.reduceLE,Int.reduceNe,Int.reduceEq,Nat.reduceEqDiff,Nat.reduceLT,Nat.reduceBEq,List.map_cons,List.map_nil,List.toList_toArray,Array.toList_append,Option.toArray_some,Option.toArray_none,Bool.and_self,ty,Sap13,apPl,yesS,hle,d0]
     exact wP_ends 4 rfl
   · have d0 : decide ((20 : Int) < (l.length : Int)) = false := decide_eq_false (by omega)
     simp only [go_sem,zad,Nat.reduceAdd,Nat.reduceSub,Nat.reduceMul,Int.reduceToNat,reduceCtorEq,↓reduceIte,Int.reducePow,Nat.reducePow,Int.reduceMod,Nat.reduceLeDiff,Int.reduceLE,Int.reduceNe,Int.reduceEq,Nat.reduceEqDiff,Nat.reduceLT,Nat.reduceBEq,List.map_cons,List.map_nil,List.toList_toArray,Array.toList_append,Option.toArray_some,Option.toArray_none,Bool.and_self,ty,Sap13,apPl,yesS,hle,d0]
     refine zed ⟨fun m σ => ∃ (i : Nat) (A F : List En) (g1 g2 : Bool),m = l.length - i ∧ i ≤ l.length ∧ ApI p A F i ∧ σ = ⟨[.sg 6 (l.map bvp) f,.junk,.junk,.rf 4 6 0 0,.w (.bool false),.rf 5 1 0 0,.rf 6 1 0 0,.w (.int .i64 i),.junk,.junk,.junk,.junk,.junk,.junk,.junk,.junk,.junk,.junk,.junk,.junk,.junk,.junk,.junk,.junk,.junk,.junk,.junk,.junk,.junk,.junk,.junk,.junk,.junk,.junk,.junk,.junk,.junk,.junk,.junk,.junk,.junk,.junk,.junk,.junk,.junk,.junk,.junk,.junk,.junk,.junk,.junk,.junk,.junk,.junk,.junk,.junk,.junk,.junk,.junk,.junk,.junk,.junk,.junk,.junk,.junk,.junk,.junk,.junk,.junk,.junk,.junk,.junk,.junk,.junk,.junk,.junk,.junk,.junk,.junk,.junk,.junk,.junk,.junk,.junk,.junk,.junk,.junk,.junk,.junk,.junk,.junk,.junk,.junk,.junk,.junk,.junk],[(4,.g 6 [.agg [.w (.int .i64 b),.w (.int .i64 c),.w (.int .i64 p),.w (.int .i64 e),.w (.int .i64 s),.sg 6 rs h]]),(5,.g 1 [.agg [.sg 3 (A.map enA) g1]]),(6,.g 1 [.agg [.sg 3 (F.map enA) g2]])],7⟩,?_,?_⟩
     · refine ⟨_,_,zal [0,1,2,3,4,44,52] rfl rfl rfl ?_ ?_,0,[],[],true,true,rfl,by omega,ap_start p,rfl⟩
       · simp only [ssT,zaq,zar,setSlot,gOf,AV.ren,renL,Blk.ren,Ax.look,Ax.put,reduceCtorEq,↓reduceIte,Nat.reduceEqDiff,Nat.reduceLT,Nat.reduceAdd,List.length_append,List.length_cons,List.length_nil,Option.some.injEq]; try simp
       · simp only [ssT,zaq,zar,setSlot,gOf,AV.ren,renL,Blk.ren,Ax.look,Ax.put,reduceCtorEq,↓reduceIte,Nat.reduceEqDiff,Nat.reduceLT,Nat.reduceAdd,List.length_append,List.length_cons,List.length_nil,Option.some.injEq]; try simp
     · rintro m σ ⟨i,A,F,g1,g2,rfl,hi,hI,rfl⟩
       have e1 : ((i : Int) + 1 + 9223372036854775808) % 18446744073709551616 - 9223372036854775808 = ((i + 1 : Nat) : Int) := by omega
       have hxA : ∃ k : List En,A.map enA = k.map enA ∧ okL k := ⟨A,rfl,okN_ok hI.a (by omega)⟩
       have hxF : ∃ k : List En,F.map enA = k.map enA ∧ okL k := ⟨F,rfl,okN_ok hI.f (by omega)⟩
       by_cases hil : i < l.length
       · have d1 : decide ((i : Int) < l.length) = true := decide_eq_true (by omega)
         have hs1 := slot_bvp l i hil
         obtain ⟨r,hr1⟩ : ∃ r,l[i] = r := ⟨_,rfl⟩
         rw [hr1] at hs1
         obtain ⟨⟨b1,c1,p1,k1,s1,r1⟩,f1⟩ := r
         have hs1 : slot (l.map bvp) i = .agg [.w (.int .i64 b1),.w (.int .i64 c1),.w (.int .i64 p1),.w (.int .i64 k1),.w (.int .i64 s1),.sg 6 (r1.map rv) f1] := hs1
         have hr1c := closed_rv r1
         have hcr : coe ty 25 (.sg 6 (r1.map rv) f1) = .sg 6 (r1.map rv) f1 := by cases r1 <;> rfl
         by_cases hpp : p1 = p
         · have d2 : decide (p1 = p) = true := decide_eq_true hpp
           simp (config := { maxSteps := 3000000 }) only [go_sem,zad,Nat.reduceAdd,Nat.reduceSub,Nat.reduceMul,Int.reduceToNat,reduceCtorEq,↓reduceIte,Int.reducePow,Nat.reducePow,Int.reduceMod,Nat.reduceLeDiff,Int.reduceLE,Int.reduceNe,Int.reduceEq,Nat.reduceEqDiff,Nat.reduceLT,Nat.reduceBEq,List.map_cons,List.map_nil,List.toList_toArray,Array.toList_append,Option.toArray_some,Option.toArray_none,Bool.and_self,ty,Sap13,apPl,pubS,hle,d1,d2,hs1,e1,hr,hr1c,hcr,zcb,hxA,hxF,zak,zab,zam,Int.toNat_natCast,Bool.not_true,Bool.not_false]
           repeat (first | refine And.intro (by omega) ?_ | refine And.intro ⟨by omega,by omega⟩ ?_)
           have hI2 := ap_same hI b1 c1 k1 s1
           rw [← hpp] at hI2 ⊢
           refine ⟨l.length - (i + 1),_,by omega,zal [0,1,2,3,4,5,6] rfl rfl rfl ?_ ?_,i + 1,_,_,false,false,rfl,by omega,hI2,rfl⟩
           · simp only [ssT,zaq,zar,setSlot,gOf,AV.ren,renL,Blk.ren,Ax.look,Ax.put,reduceCtorEq,↓reduceIte,Nat.reduceEqDiff,Nat.reduceLT,Nat.reduceAdd,List.length_append,List.length_cons,List.length_nil,Option.some.injEq,zai]; try simp
           · simp only [ssT,zaq,zar,setSlot,gOf,AV.ren,renL,Blk.ren,Ax.look,Ax.put,reduceCtorEq,↓reduceIte,Nat.reduceEqDiff,Nat.reduceLT,Nat.reduceAdd,List.length_append,List.length_cons,List.length_nil,Option.some.injEq,zai]; try simp
         · have d2 : decide (p1 = p) = false := decide_eq_false hpp
           simp (config := { maxSteps := 3000000 }) only [go_sem,zad,Nat.reduceAdd,Nat.reduceSub,Nat.reduceMul,Int.reduceToNat,reduceCtorEq,↓reduceIte,Int.reducePow,Nat.reducePow,Int.reduceMod,Nat.reduceLeDiff,Int.reduceLE,Int.reduceNe,Int.reduceEq,Nat.reduceEqDiff,Nat.reduceLT,Nat.reduceBEq,List.map_cons,List.map_nil,List.toList_toArray,Array.toList_append,Option.toArray_some,Option.toArray_none,Bool.and_self,ty,Sap13,apPl,pubS,hle,d1,d2,hs1,e1,hr,hr1c,hcr,zcb,hxA,hxF,zak,zab,zam,Int.toNat_natCast,Bool.not_true,Bool.not_false]
           repeat (first | refine And.intro (by omega) ?_ | refine And.intro ⟨by omega,by omega⟩ ?_)
           refine ⟨l.length - (i + 1),_,by omega,zal [0,1,2,3,4,5,6] rfl rfl rfl ?_ ?_,i + 1,_,F,false,g2,rfl,by omega,ap_other hI b1 c1 p1 k1 s1 hpp,rfl⟩
           · simp only [ssT,zaq,zar,setSlot,gOf,AV.ren,renL,Blk.ren,Ax.look,Ax.put,reduceCtorEq,↓reduceIte,Nat.reduceEqDiff,Nat.reduceLT,Nat.reduceAdd,List.length_append,List.length_cons,List.length_nil,Option.some.injEq,zai]; try simp
           · simp only [ssT,zaq,zar,setSlot,gOf,AV.ren,renL,Blk.ren,Ax.look,Ax.put,reduceCtorEq,↓reduceIte,Nat.reduceEqDiff,Nat.reduceLT,Nat.reduceAdd,List.length_append,List.length_cons,List.length_nil,Option.some.injEq,zai]; try simp
       · have d1 : decide ((i : Int) < l.length) = false := decide_eq_false (by omega)
         have hAe : (A.map enA).length = A.length := by simp
         have hAL := hI.a.1
         obtain ⟨X,hX⟩ : ∃ X,askF A c p e s = X := ⟨_,rfl⟩
         have hY : askF F c p e s = X := by rw [← hX,askF_lk,askF_lk,hI.e]
         obtain ⟨xa,xd,xe⟩ := X
         simp (config := { maxSteps := 3000000 }) only [go_sem,zad,Nat.reduceAdd,Nat.reduceSub,Nat.reduceMul,Int.reduceToNat,reduceCtorEq,↓reduceIte,Int.reducePow,Nat.reducePow,Int.reduceMod,Nat.reduceLeDiff,Int.reduceLE,Int.reduceNe,Int.reduceEq,Nat.reduceEqDiff,Nat.reduceLT,Nat.reduceBEq,List.map_cons,List.map_nil,List.toList_toArray,Array.toList_append,Option.toArray_some,Option.toArray_none,Bool.and_self,ty,Sap13,apPl,askS,anA,hX,hY,hle,d1,hr,zcb,hxA,hxF,zak,Bool.not_true,Bool.not_false]
         refine ⟨_,Weak.refl _,?_⟩
         simp (config := { maxSteps := 3000000 }) only [go_sem,zad,Nat.reduceAdd,Nat.reduceSub,Nat.reduceMul,Int.reduceToNat,reduceCtorEq,↓reduceIte,Int.reducePow,Nat.reducePow,Int.reduceMod,Nat.reduceLeDiff,Int.reduceLE,Int.reduceNe,Int.reduceEq,Nat.reduceEqDiff,Nat.reduceLT,Nat.reduceBEq,List.map_cons,List.map_nil,List.toList_toArray,Array.toList_append,Option.toArray_some,Option.toArray_none,Bool.and_self,ty,Sap13,apPl,askS,anA,hX,hY,hle,d1,hr,zcb,hxA,hxF,zak,Bool.not_true,Bool.not_false]
         refine zed ⟨fun m σ => ∃ k : Nat,m = A.length - k ∧ 1 ≤ k ∧ σ = ⟨[.junk,.junk,.junk,.junk,.w (.bool false),.rf 4 1 0 0,.junk,.junk,.w (.int .i64 xa),.w (.bool xd),.w (.int .i64 xe),.w (.int .i64 xa),.w (.bool xd),.w (.int .i64 xe),.w (.int .i64 k),.junk,.junk,.junk,.junk,.junk,.junk,.junk,.junk,.junk,.junk,.junk,.junk,.junk,.junk,.junk,.junk,.junk,.junk,.junk,.junk,.junk,.junk,.junk,.junk,.junk,.junk,.junk,.junk,.junk,.junk,.junk,.junk,.junk,.junk,.junk,.junk,.junk,.junk,.junk,.junk,.junk,.junk,.junk,.junk,.junk,.junk,.junk,.junk,.junk,.junk,.junk,.junk,.junk,.junk,.junk,.junk,.junk,.junk,.junk,.junk,.junk,.junk,.junk,.junk,.junk,.junk,.junk,.junk,.junk,.junk,.junk,.junk,.junk,.junk,.junk,.junk,.junk,.junk,.junk,.junk,.junk],[(4,.g 1 [.agg [.sg 3 (A.map enA) g1]])],5⟩,?_,?_⟩
         · refine ⟨_,_,zal [0,1,2,3,5] rfl rfl rfl ?_ ?_,1,rfl,by omega,rfl⟩
           · simp only [ssT,zaq,zar,setSlot,gOf,AV.ren,renL,Blk.ren,Ax.look,Ax.put,reduceCtorEq,↓reduceIte,Nat.reduceEqDiff,Nat.reduceLT,Nat.reduceAdd,List.length_append,List.length_cons,List.length_nil,Option.some.injEq,zai]; try simp
           · simp only [ssT,zaq,zar,setSlot,gOf,AV.ren,renL,Blk.ren,Ax.look,Ax.put,reduceCtorEq,↓reduceIte,Nat.reduceEqDiff,Nat.reduceLT,Nat.reduceAdd,List.length_append,List.length_cons,List.length_nil,Option.some.injEq,zai]; try simp
         · rintro m σ ⟨k,rfl,hk,rfl⟩
           by_cases hkl : k < A.length
           · have d3 : decide ((k : Int) < A.length) = true := decide_eq_true (by omega)
             have e2 : ((k : Int) + 1 + 9223372036854775808) % 18446744073709551616 - 9223372036854775808 = ((k + 1 : Nat) : Int) := by omega
             obtain ⟨k0,hk0⟩ : ∃ k0,k - 1 = k0 := ⟨_,rfl⟩
             have hN : ((k : Int) - 1 + 9223372036854775808) % 18446744073709551616 - 9223372036854775808 = ((k0 : Nat) : Int) := by omega
             have hk1 : k0 < A.length := by omega
             have hord := List.pairwise_iff_getElem.1 hI.s k0 k hk1 hkl (by omega)
             have hs2 := zbw A k0 hk1
             have hs3 := zbw A k hkl
             obtain ⟨x,hx⟩ : ∃ x,A[k0] = x := ⟨_,rfl⟩
             obtain ⟨y,hy⟩ : ∃ y,A[k] = y := ⟨_,rfl⟩
             rw [hx] at hs2 hord
             rw [hy] at hs3 hord
             obtain ⟨xi,xk,xl⟩ := x
             obtain ⟨yi,yk,yl⟩ := y
             have hs2 : slot (A.map enA) k0 = .agg [.w (.int .i64 xi),.w (.int .i64 xk),.sg 3 (xl.map seA) false] := hs2
             have hs3 : slot (A.map enA) k = .agg [.w (.int .i64 yi),.w (.int .i64 yk),.sg 3 (yl.map seA) false] := hs3
             have d4 : decide (yi ≤ xi) = false := decide_eq_false (by simp only at hord; omega)
             have c1 := zac xl
             have c2 := zac yl
             simp (config := { maxSteps := 3000000 }) only [go_sem,zad,Nat.reduceAdd,Nat.reduceSub,Nat.reduceMul,Int.reduceToNat,reduceCtorEq,↓reduceIte,Int.reducePow,Nat.reducePow,Int.reduceMod,Nat.reduceLeDiff,Int.reduceLE,Int.reduceNe,Int.reduceEq,Nat.reduceEqDiff,Nat.reduceLT,Nat.reduceBEq,List.map_cons,List.map_nil,List.toList_toArray,Array.toList_append,Option.toArray_some,Option.toArray_none,Bool.and_self,ty,Sap13,apPl,hAe,d3,d4,e2,hN,hs2,hs3,c1,c2,zam,zap,Int.toNat_natCast,Bool.not_true,Bool.not_false]
             repeat (first | refine And.intro (by omega) ?_ | refine And.intro ⟨by omega,by omega⟩ ?_)
             refine ⟨A.length - (k + 1),_,by omega,zal [0,1,2,3,4] rfl rfl rfl ?_ ?_,k + 1,rfl,by omega,rfl⟩
             · simp only [ssT,zaq,zar,setSlot,gOf,AV.ren,renL,Blk.ren,Ax.look,Ax.put,reduceCtorEq,↓reduceIte,Nat.reduceEqDiff,Nat.reduceLT,Nat.reduceAdd,List.length_append,List.length_cons,List.length_nil,Option.some.injEq,zai]; try simp
             · simp only [ssT,zaq,zar,setSlot,gOf,AV.ren,renL,Blk.ren,Ax.look,Ax.put,reduceCtorEq,↓reduceIte,Nat.reduceEqDiff,Nat.reduceLT,Nat.reduceAdd,List.length_append,List.length_cons,List.length_nil,Option.some.injEq,zai]; try simp
           · have d3 : decide ((k : Int) < A.length) = false := decide_eq_false (by omega)
             have q1 : decide (xa = xa) = true := decide_eq_true rfl
             have q2 : decide (xd = xd) = true := decide_eq_true rfl
             have q3 : decide (xe = xe) = true := decide_eq_true rfl
             simp (config := { maxSteps := 3000000 }) only [go_sem,zad,Nat.reduceAdd,Nat.reduceSub,Nat.reduceMul,Int.reduceToNat,reduceCtorEq,↓reduceIte,Int.reducePow,Nat.reducePow,Int.reduceMod,Nat.reduceLeDiff,Int.reduceLE,Int.reduceNe,Int.reduceEq,Nat.reduceEqDiff,Nat.reduceLT,Nat.reduceBEq,List.map_cons,List.map_nil,List.toList_toArray,Array.toList_append,Option.toArray_some,Option.toArray_none,Bool.and_self,ty,Sap13,apPl,yesS,hAe,d3,q1,q2,q3,decide_true,Int.toNat_natCast,Bool.not_true,Bool.not_false]
             refine ⟨_,Weak.refl _,?_⟩
             simp (config := { maxSteps := 3000000 }) only [go_sem,zad,Nat.reduceAdd,Nat.reduceSub,Nat.reduceMul,Int.reduceToNat,reduceCtorEq,↓reduceIte,Int.reducePow,Nat.reducePow,Int.reduceMod,Nat.reduceLeDiff,Int.reduceLE,Int.reduceNe,Int.reduceEq,Nat.reduceEqDiff,Nat.reduceLT,Nat.reduceBEq,List.map_cons,List.map_nil,List.toList_toArray,Array.toList_append,Option.toArray_some,Option.toArray_none,Bool.and_self,ty,Sap13,apPl,yesS,hAe,d3,q1,q2,q3,decide_true,Int.toNat_natCast,Bool.not_true,Bool.not_false]
             exact wP_ends 4 rfl
 · exact hp.elim
end
theorem all_bvp13 : ∀ (xs : List AV),(∀ x ∈ xs,∃ p : Bat × Bool,x = bvp p ∧ p.1.rs.length ≤ 9223372036854775807) → ∃ es : List (Bat × Bool),xs = es.map bvp ∧ ∀ p ∈ es,p.1.rs.length ≤ 9223372036854775807
 | [],_ => ⟨[],rfl,by simp⟩
 | x :: xs,h => by
   obtain ⟨p,rfl,hp⟩ := h x (by simp)
   obtain ⟨es,rfl,he⟩ := all_bvp13 xs (fun y hy => h y (by simp [hy]))
   refine ⟨p :: es,rfl,?_⟩
   intro q hq
   rcases List.mem_cons.1 hq with rfl | hq
   · exact hp
   · exact he q hq
theorem arg_bats13 {j : Nat} {x : AV} (h : Arg ty (j + 7) 55 x) : ∃ (es : List (Bat × Bool)) (f : Bool),x = .sg 6 (es.map bvp) f ∧ es.length ≤ 9223372036854775807 ∧ ∀ p ∈ es,p.1.rs.length ≤ 9223372036854775807 := by
 obtain ⟨i,ls,hi,hs,rfl⟩ := h
 simp only [ty] at hi
 injection hi with hi
 subst hi
 simp only [Shape,ty,ShapeF,isFlatI] at hs
 obtain ⟨xs,f1,rfl,hx,hxs⟩ := hs
 have hm : maxLen = 9223372036854775807 := by decide
 obtain ⟨es,rfl,hes⟩ := all_bvp13 xs (fun x hxm => by
   obtain ⟨l,⟨k1,s1,rfl,⟨n1,rfl,v1⟩,k2,s2,rfl,⟨n2,rfl,v2⟩,k3,s3,rfl,⟨n3,rfl,v3⟩,k4,s4,rfl,⟨n4,rfl,v4⟩,k5,s5,rfl,⟨n5,rfl,v5⟩,k6,s6,rfl,⟨ys,f,rfl,hl,hy⟩,rfl⟩,_,rfl⟩ := hxs x hxm
   obtain ⟨rs,rfl⟩ := all_rv13 ys (fun y hym => by
     obtain ⟨l,⟨l1,r1,rfl,⟨m1,rfl,w1⟩,l2,r2,rfl,⟨m2,rfl,w2⟩,l3,r3,rfl,⟨m3,rfl⟩,l4,r4,rfl,⟨m4,rfl,w4⟩,l5,r5,rfl,⟨m5,rfl⟩,l6,r6,rfl,⟨m6,rfl,w6⟩,rfl⟩,_,rfl⟩ := hy y hym
     exact ⟨⟨m1,m2,m3,m4,m5,m6⟩,rfl⟩)
   rw [List.length_map] at hl
   exact ⟨⟨⟨n1,n2,n3,n4,n5,rs⟩,f⟩,rfl,by simp only; omega⟩)
 rw [List.length_map] at hx
 exact ⟨es,f1,rfl,by omega,hes⟩
theorem apart_dom {x y : AV} (hx : Arg ty 8 55 x) (hy : Arg ty 8 27 y) : (apartS [x,y] []).p ∧ (apartS [x,y] []).x = .w (.bool true) := by
 obtain ⟨es,f,rfl,hL,hes⟩ := arg_bats13 (j := 1) hx
 obtain ⟨⟨b,c,p,e,s,rs⟩,g,rfl,h3⟩ := arg_bat13 (j := 2) hy
 exact ⟨⟨closed_rv rs,by rw [List.length_map]; exact hL,es,rfl⟩,rfl⟩
end Go.Proofs.Ytgpcnmajkcfgiaa
