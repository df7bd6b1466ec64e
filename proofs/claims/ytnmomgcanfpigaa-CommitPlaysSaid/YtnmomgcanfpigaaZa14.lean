/- What the proofs of this seat stand on; it asks nothing. -/
import Derived.Test.YtnmomgcanfpigaaZa13
set_option linter.unusedSimpArgs false
set_option linter.unusedVariables false
namespace Go.Proofs.Ytnmomgcanfpigaa
open Ax
section
set_option maxRecDepth 100000
def lit21R (r : Cm) : Prop := r.g.length ≤ 60 ∧ r.t.length ≤ 60
instance (r : Cm) : Decidable (lit21R r) := by unfold lit21R; infer_instance
def lit21L (l : List Cm) : Prop := l.length ≤ 30 ∧ ∀ r ∈ l,lit21R r
instance (l : List Cm) : Decidable (lit21L l) := by unfold lit21L; infer_instance
def lit21S : zak
 | [.sg 4 xs f],[] => ⟨xs.length ≤ 9223372036854775807 ∧ ∃ l : List Cm,xs = l.map cmA,.w (.bool (decide (lit21L (xs.map ucm)))),[]⟩
 | _,_ => zbf
set_option maxHeartbeats 4000000 in
theorem lit21_sound : zau Try.prog 7 lit21S := by
 refine zco (S := noS) (T := ty) zbb ty_ok zbr Try.func7 (c := Try.f7.body.getD .skip) (by kernel_rfl) (by kernel_rfl) (fun xs pins hp _ => ?_)
 unfold lit21S at hp ⊢
 split at hp
 · rename_i xs f _
   obtain ⟨hL,l,rfl⟩ := hp
   rw [List.length_map] at hL
   have hle : (l.map cmA).length = l.length := by simp
   rw [map_cm]
   refine ⟨by simp,?_⟩
   unfold Try.f7
   by_cases hn : 30 < l.length
   · have d1 : decide ((30 : Int) < (l.length : Int)) = true := decide_eq_true (by omega)
     have hno : decide (lit21L l) = false := decide_eq_false (fun h => by have := h.1; omega)
     rw [hno]
     simp only [go_sem,coe,zaa,Nat.reduceAdd,Nat.reduceSub,Nat.reduceMul,Int.reduceToNat,reduceCtorEq,↓reduceIte,Int.reducePow,Nat.reducePow,Int.reduceMod,Nat.reduceLeDiff,Int.reduceLE,Int.reduceNe,Int.reduceEq,Nat.reduceEqDiff,Nat.reduceLT,Nat.reduceBEq,ty,noS,hle,d1]
     exact zca 2 rfl
   · have d1 : decide ((30 : Int) < (l.length : Int)) = false := decide_eq_false (by omega)
     simp only [go_sem,coe,zaa,Nat.reduceAdd,Nat.reduceSub,Nat.reduceMul,Int.reduceToNat,reduceCtorEq,↓reduceIte,Int.reducePow,Nat.reducePow,Int.reduceMod,Nat.reduceLeDiff,Int.reduceLE,Int.reduceNe,Int.reduceEq,Nat.reduceEqDiff,Nat.reduceLT,Nat.reduceBEq,ty,noS,hle,d1]
     refine awp_loopW ⟨fun m σ => ∃ j : Nat,m = l.length - j ∧ j ≤ l.length ∧ (∀ r ∈ l.take j,lit21R r) ∧
       σ = ⟨[.sg 4 (l.map cmA) f,.junk,.w (.bool false),.w (.int .i64 j),.junk,.junk,.junk,.junk,.junk,.junk,.junk,.junk,.junk,.junk,.junk,.junk,.junk,.junk,.junk,.junk,.junk,.junk,.junk,.junk,.junk,.junk,.junk,.junk,.junk],[],4⟩,?_,?_⟩
     · refine ⟨_,_,zah [0,1,2,3] rfl rfl rfl ?_ ?_,0,rfl,by omega,by simp,rfl⟩
       · simp only [ssT,zan,zao,setSlot,gOf,AV.ren,renL,Blk.ren,Ax.look,Ax.put,reduceCtorEq,↓reduceIte,Nat.reduceEqDiff,Nat.reduceLT,Nat.reduceAdd,List.length_append,List.length_cons,List.length_nil,Option.some.injEq]; try simp
       · simp only [ssT,zan,zao,setSlot,gOf,AV.ren,renL,Blk.ren,Ax.look,Ax.put,reduceCtorEq,↓reduceIte,Nat.reduceEqDiff,Nat.reduceLT,Nat.reduceAdd,List.length_append,List.length_cons,List.length_nil,Option.some.injEq]; try simp
     · rintro m σ ⟨j,rfl,hi,hall,rfl⟩
       by_cases hil : j < l.length
       · have d2 : decide ((j : Int) < l.length) = true := decide_eq_true (by omega)
         have e1 : ((j : Int) + 1 + 9223372036854775808) % 18446744073709551616 - 9223372036854775808 = ((j + 1 : Nat) : Int) := by omega
         have hs1 := zdc l j hil
         have hmem : l[j] ∈ l := List.getElem_mem hil
         have htk : l.take (j + 1) = l.take j ++ [l[j]] := List.take_succ_eq_append_getElem hil
         obtain ⟨r,hr⟩ : ∃ r,l[j] = r := ⟨_,rfl⟩
         rw [hr] at hs1 hmem htk
         obtain ⟨g,t,i,o⟩ := r
         have hs1 : slot (l.map cmA) j = .agg [.str g,.str t,.w (.int .i64 i),.w (.int .i64 o)] := hs1
         by_cases h0 : 60 < g.length
         · have d3 : decide ((60 : Int) < (g.length : Int)) = true := decide_eq_true (by omega)
           have hno : decide (lit21L l) = false := decide_eq_false (fun h => by have := (h.2 _ hmem).1; simp at this; omega)
           rw [hno]
           simp only [go_sem,coe,zaa,Nat.reduceAdd,Nat.reduceSub,Nat.reduceMul,Int.reduceToNat,reduceCtorEq,↓reduceIte,Int.reducePow,Nat.reducePow,Int.reduceMod,Nat.reduceLeDiff,Int.reduceLE,Int.reduceNe,Int.reduceEq,Nat.reduceEqDiff,Nat.reduceLT,Nat.reduceBEq,ty,noS,hle,d2,hs1,d3,Int.toNat_natCast]
           repeat (refine And.intro (by omega) ?_)
           refine ⟨_,Weak.refl _,?_⟩
           simp only [go_sem,coe,zaa,Nat.reduceAdd,Nat.reduceSub,Nat.reduceMul,Int.reduceToNat,reduceCtorEq,↓reduceIte,Int.reducePow,Nat.reducePow,Int.reduceMod,Nat.reduceLeDiff,Int.reduceLE,Int.reduceNe,Int.reduceEq,Nat.reduceEqDiff,Nat.reduceLT,Nat.reduceBEq,ty]
           exact zca 2 rfl
         · have d3 : decide ((60 : Int) < (g.length : Int)) = false := decide_eq_false (by omega)
           by_cases h1 : 60 < t.length
           · have d4 : decide ((60 : Int) < (t.length : Int)) = true := decide_eq_true (by omega)
             have hno : decide (lit21L l) = false := decide_eq_false (fun h => by have := (h.2 _ hmem).2; simp at this; omega)
             rw [hno]
             simp only [go_sem,coe,zaa,Nat.reduceAdd,Nat.reduceSub,Nat.reduceMul,Int.reduceToNat,reduceCtorEq,↓reduceIte,Int.reducePow,Nat.reducePow,Int.reduceMod,Nat.reduceLeDiff,Int.reduceLE,Int.reduceNe,Int.reduceEq,Nat.reduceEqDiff,Nat.reduceLT,Nat.reduceBEq,ty,noS,hle,d2,hs1,d3,d4,Int.toNat_natCast]
             repeat (refine And.intro (by omega) ?_)
             refine ⟨_,Weak.refl _,?_⟩
             simp only [go_sem,coe,zaa,Nat.reduceAdd,Nat.reduceSub,Nat.reduceMul,Int.reduceToNat,reduceCtorEq,↓reduceIte,Int.reducePow,Nat.reducePow,Int.reduceMod,Nat.reduceLeDiff,Int.reduceLE,Int.reduceNe,Int.reduceEq,Nat.reduceEqDiff,Nat.reduceLT,Nat.reduceBEq,ty]
             exact zca 2 rfl
           · have d4 : decide ((60 : Int) < (t.length : Int)) = false := decide_eq_false (by omega)
             simp only [go_sem,coe,zaa,Nat.reduceAdd,Nat.reduceSub,Nat.reduceMul,Int.reduceToNat,reduceCtorEq,↓reduceIte,Int.reducePow,Nat.reducePow,Int.reduceMod,Nat.reduceLeDiff,Int.reduceLE,Int.reduceNe,Int.reduceEq,Nat.reduceEqDiff,Nat.reduceLT,Nat.reduceBEq,ty,noS,hle,d2,hs1,e1,d3,d4,Int.toNat_natCast]
             repeat (refine And.intro (by omega) ?_)
             refine ⟨l.length - (j + 1),_,by omega,zah [0,1,2,3] rfl rfl rfl ?_ ?_,j + 1,rfl,by omega,?_,rfl⟩
             · simp only [ssT,zan,zao,setSlot,gOf,AV.ren,renL,Blk.ren,Ax.look,Ax.put,reduceCtorEq,↓reduceIte,Nat.reduceEqDiff,Nat.reduceLT,Nat.reduceAdd,List.length_append,List.length_cons,List.length_nil,Option.some.injEq]; try simp
             · simp only [ssT,zan,zao,setSlot,gOf,AV.ren,renL,Blk.ren,Ax.look,Ax.put,reduceCtorEq,↓reduceIte,Nat.reduceEqDiff,Nat.reduceLT,Nat.reduceAdd,List.length_append,List.length_cons,List.length_nil,Option.some.injEq]; try simp
             · rw [htk]
               intro r hr
               rcases List.mem_append.1 hr with h | h
               · exact hall r h
               · obtain rfl := List.mem_singleton.1 h
                 exact ⟨by simp; omega,by simp; omega⟩
       · have d2 : decide ((j : Int) < l.length) = false := decide_eq_false (by omega)
         have hii : l.take j = l := List.take_of_length_le (by omega)
         rw [hii] at hall
         have hyes : decide (lit21L l) = true := decide_eq_true ⟨by omega,hall⟩
         rw [hyes]
         simp only [go_sem,coe,zaa,Nat.reduceAdd,Nat.reduceSub,Nat.reduceMul,Int.reduceToNat,reduceCtorEq,↓reduceIte,Int.reducePow,Nat.reducePow,Int.reduceMod,Nat.reduceLeDiff,Int.reduceLE,Int.reduceNe,Int.reduceEq,Nat.reduceEqDiff,Nat.reduceLT,Nat.reduceBEq,ty,noS,hle,d2]
         refine ⟨_,Weak.refl _,?_⟩
         simp only [go_sem,coe,zaa,Nat.reduceAdd,Nat.reduceSub,Nat.reduceMul,Int.reduceToNat,reduceCtorEq,↓reduceIte,Int.reducePow,Nat.reducePow,Int.reduceMod,Nat.reduceLeDiff,Int.reduceLE,Int.reduceNe,Int.reduceEq,Nat.reduceEqDiff,Nat.reduceLT,Nat.reduceBEq,ty]
         exact zca 2 rfl
 · exact hp.elim
end
theorem all_cm21 : ∀ (xs : List AV),(∀ x ∈ xs,∃ r : Cm,x = cmA r) → ∃ rs : List Cm,xs = rs.map cmA
 | [],_ => ⟨[],rfl⟩
 | x :: xs,h => by
   obtain ⟨r,rfl⟩ := h x (by simp)
   obtain ⟨rs,rfl⟩ := all_cm21 xs (fun y hy => h y (by simp [hy]))
   exact ⟨r :: rs,rfl⟩
theorem arg_cm21 {x : AV} (h : Arg ty 6 27 x) : ∃ (l : List Cm) (f : Bool),x = .sg 4 (l.map cmA) f ∧ l.length ≤ 9223372036854775807 := by
 obtain ⟨i,ls,hi,hs,rfl⟩ := h
 simp only [ty] at hi
 injection hi with hi
 subst hi
 simp only [Shape,ty,ShapeF,isFlatI] at hs
 obtain ⟨xs,f1,rfl,hx,hxs⟩ := hs
 have hm : maxLen = 9223372036854775807 := by decide
 obtain ⟨es,rfl⟩ := all_cm21 xs (fun x hxm => by
   obtain ⟨l,⟨l0,r0,rfl,⟨m0,rfl,w0⟩,l1,r1,rfl,⟨m1,rfl,w1⟩,l2,r2,rfl,⟨m2,rfl,w2⟩,l3,r3,rfl,⟨m3,rfl,w3⟩,rfl⟩,_,rfl⟩ := hxs x hxm
   exact ⟨⟨m0,m1,m2,m3⟩,rfl⟩)
 rw [List.length_map] at hx
 exact ⟨es,f1,rfl,by omega⟩
theorem all_rvO : ∀ (xs : List AV),(∀ x ∈ xs,∃ r : Rec,x = rv r) → ∃ rs : List Rec,xs = rs.map rv
 | [],_ => ⟨[],rfl⟩
 | x :: xs,h => by
   obtain ⟨r,rfl⟩ := h x (by simp)
   obtain ⟨rs,rfl⟩ := all_rvO xs (fun y hy => h y (by simp [hy]))
   exact ⟨r :: rs,rfl⟩
theorem arg_batO {x : AV} (h : Arg ty 6 46 x) : ∃ (b c p e s : Int) (q : List Rec) (g : Bool),x = .agg [.w (.int .i64 b),.w (.int .i64 c),.w (.int .i64 p),.w (.int .i64 e),.w (.int .i64 s),.sg 6 (q.map rv) g] ∧ q.length ≤ 9223372036854775807 := by
 obtain ⟨i,ls,hi,hs,rfl⟩ := h
 simp only [ty] at hi
 injection hi with hi
 subst hi
 simp only [Shape,ty,ShapeF,isFlatI] at hs
 obtain ⟨l1,r1,rfl,⟨m1,rfl,w1⟩,l2,r2,rfl,⟨m2,rfl,w2⟩,l3,r3,rfl,⟨m3,rfl,w3⟩,l4,r4,rfl,⟨m4,rfl,w4⟩,l5,r5,rfl,⟨m5,rfl,w5⟩,l6,r6,rfl,⟨xs,f,rfl,hl,hx⟩,rfl⟩ := hs
 obtain ⟨rs,rfl⟩ := all_rvO xs (fun x hxm => by
   obtain ⟨l,⟨l1,r1,rfl,⟨m1,rfl,w1⟩,l2,r2,rfl,⟨m2,rfl,w2⟩,l3,r3,rfl,⟨m3,rfl⟩,l4,r4,rfl,⟨m4,rfl,w4⟩,l5,r5,rfl,⟨m5,rfl⟩,l6,r6,rfl,⟨m6,rfl,w6⟩,rfl⟩,_,rfl⟩ := hx x hxm
   exact ⟨⟨m1,m2,m3,m4,m5,m6⟩,rfl⟩)
 rw [List.length_map] at hl
 have : maxLen = 9223372036854775807 := by decide
 exact ⟨m1,m2,m3,m4,m5,rs,f,rfl,by omega⟩
def cplayS : zak
 | [.sg 4 xs f,.agg [.w (.int .i64 b),.w (.int .i64 c),.w (.int .i64 p),.w (.int .i64 e),.w (.int .i64 s),.sg 6 rs g],.agg [.str gr,.str tp,.w (.int .i64 ix),.w (.int .i64 of)]],[] =>
     ⟨(xs.length ≤ 9223372036854775807 ∧ ∃ l : List Cm,xs = l.map cmA) ∧ rs.length ≤ 9223372036854775807 ∧ ∃ q : List Rec,rs = q.map rv,.w (.bool true),[]⟩
 | _,_ => zbf
def Scpl21 (f : FuncId) : Option zak :=
 match f with
 | 9 => some yesS
 | 7 => some lit21S
 | 19 => some blightS4
 | 20 => some own21S
 | 25 => some as21S
 | 21 => some PlayS
 | 26 => some PlayS
 | 22 => some findS
 | 23 => some findS
 | 27 => some equal21S
 | 24 => some rsame21S
 | _ => none
theorem Scpl21_ok : Fns Try.prog Scpl21 := by
 intro f s h
 unfold Scpl21 at h
 split at h
 · injection h with h; subst h; exact ⟨⟨_,Try.func9,by kernel_rfl,by kernel_rfl⟩,aw21_sound⟩
 · injection h with h; subst h; exact ⟨⟨_,Try.func7,by kernel_rfl,by kernel_rfl⟩,lit21_sound⟩
 · injection h with h; subst h; exact ⟨⟨_,Try.func19,by kernel_rfl,by kernel_rfl⟩,blight4_sound⟩
 · injection h with h; subst h; exact ⟨⟨_,Try.func20,by kernel_rfl,by kernel_rfl⟩,own21_sound⟩
 · injection h with h; subst h; exact ⟨⟨_,Try.func25,by kernel_rfl,by kernel_rfl⟩,as21_sound⟩
 · injection h with h; subst h; exact ⟨⟨_,Try.func21,by kernel_rfl,by kernel_rfl⟩,Play_sound⟩
 · injection h with h; subst h; exact ⟨⟨_,Try.func26,by kernel_rfl,by kernel_rfl⟩,rPlay_sound⟩
 · injection h with h; subst h; exact ⟨⟨_,Try.func22,by kernel_rfl,by kernel_rfl⟩,find_sound⟩
 · injection h with h; subst h; exact ⟨⟨_,Try.func23,by kernel_rfl,by kernel_rfl⟩,rfind_sound⟩
 · injection h with h; subst h; exact ⟨⟨_,Try.func27,by kernel_rfl,by kernel_rfl⟩,same21_sound⟩
 · injection h with h; subst h; exact ⟨⟨_,Try.func24,by kernel_rfl,by kernel_rfl⟩,rsame21_sound⟩
 · cases h
theorem lit_len {l : List Cm} (h : decide (lit21L l) = true) : l.length ≤ 30 := (of_decide_eq_true h).1
section
set_option maxRecDepth 100000
set_option maxHeartbeats 8000000 in
theorem cplay_law : zau Try.prog 4 cplayS := by
 refine zam (S := Scpl21) (T := tyF) zbb tyF_ok Scpl21_ok Try.func4 (c := Try.f4.body.getD .skip) (by kernel_rfl) (by kernel_rfl) (fun xs pins hp _ => ?_)
 unfold cplayS at hp ⊢
 split at hp
 · rename_i xs f b c p e s rs g gr tp ix of _
   obtain ⟨⟨hL,l,rfl⟩,hR,q,rfl⟩ := hp
   rw [List.length_map] at hL hR
   have hle : (l.map cmA).length = l.length := by simp
   have hqe : (q.map rv).length = q.length := by simp
   have hex : ∃ k : List Cm,l.map cmA = k.map cmA := ⟨l,rfl⟩
   have hexq : ∃ k : List Rec,q.map rv = k.map rv := ⟨q,rfl⟩
   refine ⟨by simp,?_⟩
   have cF1 : ∀ (l : List Cm) (f : Bool),coe (zbp ty) 48 (.sg 4 (l.map cmA) f) = .sg 4 (l.map cmA) f := fun l f => by cases l <;> rfl
   have cF2 : ∀ (l : List Cm) (f : Bool),coe (zbp ty) 27 (.sg 4 (l.map cmA) f) = .sg 4 (l.map cmA) f := fun l f => by cases l <;> rfl
   obtain ⟨L1,hL1⟩ : ∃ L1,decide (lit21L l) = L1 := ⟨_,rfl⟩
   obtain ⟨L2,hL2⟩ : ∃ L2,decide (q.length ≤ 40 ∧ ∀ r ∈ q,lightR r) = L2 := ⟨_,rfl⟩
   obtain ⟨L3,hL3⟩ : ∃ L3,decide ((60 : Int) < (gr.length : Int)) = L3 := ⟨_,rfl⟩
   obtain ⟨L4,hL4⟩ : ∃ L4,decide ((60 : Int) < (tp.length : Int)) = L4 := ⟨_,rfl⟩
   unfold Try.f4
   cases L1 with
   | false =>
     simp only [go_sem,zaa,Nat.reduceAdd,Nat.reduceSub,Nat.reduceMul,Int.reduceToNat,reduceCtorEq,↓reduceIte,Int.reducePow,Nat.reducePow,Int.reduceMod,Nat.reduceLeDiff,Int.reduceLE,Int.reduceNe,Int.reduceEq,Nat.reduceEqDiff,Nat.reduceLT,Nat.reduceBEq,tyF,zbp,ty,Bool.not_true,Bool.not_false,Scpl21,yesS,lit21S,cF1,cF2,hle,hL,hex,zaw,hL1]
   | true =>
     cases L2 with
     | false =>
       simp only [go_sem,zaa,Nat.reduceAdd,Nat.reduceSub,Nat.reduceMul,Int.reduceToNat,reduceCtorEq,↓reduceIte,Int.reducePow,Nat.reducePow,Int.reduceMod,Nat.reduceLeDiff,Int.reduceLE,Int.reduceNe,Int.reduceEq,Nat.reduceEqDiff,Nat.reduceLT,Nat.reduceBEq,tyF,zbp,ty,Bool.not_true,Bool.not_false,Scpl21,yesS,lit21S,blightS4,cF1,cF2,hle,hqe,hL,hR,hex,hexq,zaw,zds,hL1,hL2]
     | true =>
       cases L3 with
       | true =>
         simp only [go_sem,zaa,Nat.reduceAdd,Nat.reduceSub,Nat.reduceMul,Int.reduceToNat,reduceCtorEq,↓reduceIte,Int.reducePow,Nat.reducePow,Int.reduceMod,Nat.reduceLeDiff,Int.reduceLE,Int.reduceNe,Int.reduceEq,Nat.reduceEqDiff,Nat.reduceLT,Nat.reduceBEq,tyF,zbp,ty,Bool.not_true,Bool.not_false,Scpl21,yesS,lit21S,blightS4,cF1,cF2,hle,hqe,hL,hR,hex,hexq,zaw,zds,hL1,hL2,hL3]
       | false =>
         cases L4 with
         | true =>
           simp only [go_sem,zaa,Nat.reduceAdd,Nat.reduceSub,Nat.reduceMul,Int.reduceToNat,reduceCtorEq,↓reduceIte,Int.reducePow,Nat.reducePow,Int.reduceMod,Nat.reduceLeDiff,Int.reduceLE,Int.reduceNe,Int.reduceEq,Nat.reduceEqDiff,Nat.reduceLT,Nat.reduceBEq,tyF,zbp,ty,Bool.not_true,Bool.not_false,Scpl21,yesS,lit21S,blightS4,cF1,cF2,hle,hqe,hL,hR,hex,hexq,zaw,zds,hL1,hL2,hL3,hL4]
         | false =>
           have h30 := lit_len hL1
           obtain ⟨h40,hlr⟩ := of_decide_eq_true hL2
           have hexr : ∃ k : List Rec,q.map rv = k.map rv ∧ ∀ r ∈ k,r.key.length ≤ 1000000 ∧ r.val.length ≤ 1000000 := ⟨q,rfl,fun r hr => ⟨by have := (hlr r hr).1; omega,by have := (hlr r hr).2; omega⟩⟩
           have hlm : l.length ≤ 1000000 := by omega
           have hlq : l.length + q.length ≤ 999999 := by omega
           have hpl := pls_len l q
           have hP1 : (pls l q).length ≤ 1000000 := by omega
           have hP2 : (pls l q).length ≤ 9223372036854775807 := by omega
           have hexp : ∃ k : List Cm,(pls l q).map cmA = k.map cmA := ⟨_,rfl⟩
           obtain ⟨P,hP⟩ : ∃ P,pls l q = P := ⟨_,rfl⟩
           rw [hP] at hpl hP1 hP2 hexp
           have hpe : (P.map cmA).length = P.length := by simp
           obtain ⟨D,hD⟩ : ∃ D,decide (l = P) = D := ⟨_,rfl⟩
           have q1 : decide (P = P) = true := decide_eq_true rfl
           have q2 : decide (l = l) = true := decide_eq_true rfl
           obtain ⟨X,hX⟩ : ∃ X,fdO ⟨gr,tp,ix,0⟩ l = X := ⟨_,rfl⟩
           obtain ⟨Y,hY⟩ : ∃ Y,fdB ⟨gr,tp,ix,0⟩ l = Y := ⟨_,rfl⟩
           have q3 : decide (X = X) = true := decide_eq_true rfl
           have q4 : decide (Y = Y) = true := decide_eq_true rfl
           have q5 : decide (D = D) = true := decide_eq_true rfl
           simp only [go_sem,zaa,Nat.reduceAdd,Nat.reduceSub,Nat.reduceMul,Int.reduceToNat,reduceCtorEq,↓reduceIte,Int.reducePow,Nat.reducePow,Int.reduceMod,Nat.reduceLeDiff,Int.reduceLE,Int.reduceNe,Int.reduceEq,Nat.reduceEqDiff,Nat.reduceLT,Nat.reduceBEq,tyF,zbp,ty,Bool.not_true,Bool.not_false,Scpl21,yesS,lit21S,blightS4,own21S,as21S,PlayS,findS,equal21S,rsame21S,cF1,cF2,hle,hqe,hpe,hL,hR,hlm,hlq,hP1,hP2,hex,hexq,hexr,hexp,zaw,zds,hL1,hL2,hL3,hL4,hP,hD,hX,hY,q1,q2,q3,q4,q5]
 · exact hp.elim
end
theorem cplay_dom {x y z : AV} (hx : Arg ty 6 27 x) (hy : Arg ty 6 46 y) (hz : Arg ty 6 23 z) : (cplayS [x,y,z] []).p ∧ (cplayS [x,y,z] []).x = .w (.bool true) := by
 obtain ⟨l,f,rfl,hl⟩ := arg_cm21 hx
 obtain ⟨b,c,p,e,s,q,g,rfl,hq⟩ := arg_batO hy
 obtain ⟨gr,tp,ix,of,rfl⟩ := arg_com hz
 exact ⟨⟨⟨by rw [List.length_map]; exact hl,l,rfl⟩,by rw [List.length_map]; exact hq,q,rfl⟩,rfl⟩
end Go.Proofs.Ytnmomgcanfpigaa
