/- What the proofs of this seat stand on; it asks nothing. -/
import Derived.Test.YtgpcnmajkcfgiaaYa13
set_option linter.unusedSimpArgs false
set_option linter.unusedVariables false
namespace Go.Proofs.Ytgpcnmajkcfgiaa
namespace Ax
def emptyB : Blk → Prop
 | .b bs => bs = []
 | .i ns => ns = []
 | .g s xs => 0 < s ∧ xs = []
 | .o _ => False
theorem weak_nil {sl : List AV} {H : Heap} {nx : Nat} (i s : Nat) (b : Blk) (hb : emptyB b) (hn : nilV (slot sl i)) : Weak ⟨sl,H,nx⟩ ⟨setSlot sl i (.ms nx s 0 0),put H nx b,nx + 1⟩ := by
 rintro w0 E B a w ⟨loc,hB,hr⟩
 have hf : loc.m nx = .free := hr.fresh nx (Nat.le_refl _)
 have hb1 : b.ok ∧ b.len = 0 := by
   cases b with
   | o x => exact hb.elim
   | b bs => exact ⟨trivial,by rw [show bs = [] from hb]; rfl⟩
   | i bs => exact ⟨trivial,by rw [show bs = [] from hb]; rfl⟩
   | g s xs => obtain ⟨h1,rfl⟩ := hb; exact ⟨⟨h1,by simp⟩,rfl⟩
 have hM : ∀ c,Mut (loc.set nx .nil) c → Mut loc c := by
   rintro c (h | ⟨k,h⟩)
   · exact .inl h
   · by_cases hk : k = nx
     · subst hk; rw [Loc.set_same] at h; cases h
     · rw [Loc.set_other _ _ hk] at h; exact .inr ⟨k,h⟩
 have hE : Ext (fun _ => False) w loc w (loc.set nx .nil) :=
   ⟨Nat.le_refl _,fun id h _ => Loc.set_other _ _ (fun e => h (e ▸ hf)),fun _ _ h => h.elim,fun c _ hm => ⟨rfl,fun h => hm (hM c h)⟩,fun _ _ _ _ => rfl,fun _ cur _ fz h => ⟨cur,fz,h,rfl⟩⟩
 have hset : ∀ {k c},(loc.set nx .nil).m k = .here c → loc.m k = .here c := by
   intro k c h
   by_cases hk : k = nx
   · subst hk; rw [Loc.set_same] at h; cases h
   · rwa [Loc.set_other _ _ hk] at h
 refine ⟨loc.set nx .nil,⟨hB.1,hB.2.1,fun k hk => ?_⟩,⟨?_,fun t => ?_,?_,⟨hr.env.os,hr.env.tape,hr.env.output,hr.env.size,hr.env.same,fun i j b h1 h2 => hr.env.inj i j b (hset h1) (hset h2),fun i b h1 => hr.env.lies i b (hset h1),hr.env.bad⟩,?_,hr.defers,?_⟩⟩
 · have hne : k ≠ nx := by
     rintro rfl
     rcases hB.2.2 k hk with h | ⟨h,_⟩ <;> rw [hf] at h <;> cases h
   rw [Loc.set_other _ _ hne]; exact hB.2.2 k hk
 · simp only; rw [zaw]; exact hr.size
 · simp only
   by_cases ht : i = t
   · subst ht
     by_cases hl : i < sl.length
     · rw [zcc hl]
       obtain ⟨a',he⟩ := nilV_R hn (hr.slots i)
       rw [he]
       refine .ms _ _ _ _ _ ?_
       unfold Owns
       rw [Loc.set_same]
       exact ⟨rfl,a',rfl⟩
     · rw [zds (by rw [zaw]; exact Nat.le_of_not_lt hl)]; exact .junk _
   · rw [zbv ht]; exact (hr.slots t).ext hE
 · intro id c hl
   simp only at hl
   rw [zau] at hl
   split at hl
   · rename_i e; subst e
     injection hl with hl; subst hl
     unfold BlkR
     rw [Loc.set_same]; exact hb1
   · rename_i e
     by_cases hfr : loc.m id = .free
     · exact BlkR.free (by rw [Loc.set_other _ _ (Ne.symm e)]; exact hfr)
     · exact (hr.heap id c hl).ext hE (fun h => h) hfr
 · intro id hid
   simp only at hid
   rw [Loc.set_other _ _ (by omega)]; exact hr.fresh id (by simp only; omega)
 · intro id c hl
   simp only at hl
   rw [zau] at hl
   split at hl
   · simp only; omega
   · have := hr.low id c hl
     simp only at this ⊢; omega
end Ax
end Go.Proofs.Ytgpcnmajkcfgiaa
namespace Go.Proofs.Ytgpcnmajkcfgiaa
open Ax
def Sfnd13 (f : FuncId) : Option zay :=
 match f with
 | 35 => some cloSeS
 | _ => none
theorem Sfnd13_ok : Fns Try.prog Sfnd13 := by
 intro f s h
 unfold Sfnd13 at h
 split at h
 · injection h with h; subst h; exact ⟨⟨_,Try.func35,by kernel_rfl,by kernel_rfl⟩,cloSe_sound⟩
 · cases h
def SOfnd13 (f : FuncId) : Option zay :=
 match f with
 | 27 => some plaS
 | _ => none
theorem SOfnd13_ok : FnsO Try.prog SOfnd13 := by
 intro f s h
 unfold SOfnd13 at h
 split at h
 · injection h with h; subst h; exact ⟨⟨_,Try.func27,by kernel_rfl,by kernel_rfl⟩,pla_sound⟩
 · cases h
def fndPl : XPlan := fun id => match id with
 | 1 => .opn [] 2
 | _ => .std
def fndA (l : List En) (v : Int) : AV := if l.findIdx (isI v) < l.length then .tup [enA (entI l (l.findIdx (isI v))),.w (.bool true)] else .tup [.agg [.w (.int .i64 0),.w (.int .i64 0),.sg 3 [] true],.w (.bool false)]
def fndS13 : zay
 | [.agg [.sg 3 xs f],.w (.int .i64 v)],[] => ⟨∃ l : List En,xs = l.map enA ∧ okL l,fndA (xs.map uen) v,[]⟩
 | _,_ => zcr
section
set_option maxRecDepth 100000
set_option maxHeartbeats 4000000
theorem fnd_sound : zbx Try.prog 14 fndS13 := by
 refine zca (S := Sfnd13) (SO := SOfnd13) (T := ty) zcu ty_ok Sfnd13_ok SOfnd13_ok Try.func14 (c := Try.f14.body.getD .skip) (by kernel_rfl) (fun xs pins hp _ => ?_)
 unfold fndS13 at hp ⊢
 split at hp
 · rename_i xs f v _
   obtain ⟨l,rfl,hL,hi⟩ := hp
   have hle : (l.map enA).length = l.length := by simp
   have hcl := zab l
   have hex : ∃ k : List En,l.map enA = k.map enA := ⟨l,rfl⟩
   have hL9 : l.length ≤ 9223372036854775807 := by omega
   obtain ⟨I,hI⟩ : ∃ I,l.findIdx (isI v) = I := ⟨_,rfl⟩
   have hIl : I ≤ l.length := by rw [← hI]; exact List.findIdx_le_length
   rw [zak]
   unfold fndA
   rw [hI]
   refine ⟨by simp,fndPl,by kernel_rfl,?_⟩
   unfold Try.f14
   by_cases hf : I < l.length
   · rw [if_pos hf]
     have q1 : decide ((I : Int) = (l.length : Int)) = false := decide_eq_false (by omega)
     have hs1 := zbw l I hf
     obtain ⟨r,hr1⟩ : ∃ r,l[I] = r := ⟨_,rfl⟩
     have hil := hi _ (List.getElem_mem hf)
     rw [hr1] at hs1 hil
     obtain ⟨i1,e1,l1⟩ := r
     simp only at hil
     have hent : entI l I = ⟨i1,e1,l1⟩ := by unfold entI; rw [List.getElem?_eq_getElem hf,hr1]; rfl
     rw [hent]
     have hs1 : slot (l.map enA) I = .agg [.w (.int .i64 i1),.w (.int .i64 e1),.sg 3 (l1.map seA) false] := hs1
     have hle1 : (l1.map seA).length = l1.length := by simp
     have hx1 : ∃ k : List Se,l1.map seA = k.map seA := ⟨l1,rfl⟩
     have hL1 : l1.length ≤ 1000000 := by omega
     iterate 10
       try rw [zaa]
       try simp only [go_sem,zaa,Nat.reduceAdd,Nat.reduceSub,Nat.reduceMul,Int.reduceToNat,reduceCtorEq,↓reduceIte,Int.reducePow,Nat.reducePow,Int.reduceMod,Nat.reduceLeDiff,Int.reduceLE,Int.reduceNe,Int.reduceEq,Nat.reduceEqDiff,Nat.reduceLT,Nat.reduceBEq,List.map_cons,List.map_nil,List.toList_toArray,Array.toList_append,Option.toArray_some,Option.toArray_none,Bool.and_self,-zaa,ty,Sfnd13,SOfnd13,fndPl,plaS,cloSeS,zcb,coe_se,hle,hL9,hcl,hex,zak,map_se,zab,zac,hI,Int.toNat_natCast,Bool.not_true,Bool.not_false,q1,hs1,hle1,hx1,hL1]
       repeat (refine And.intro (by first | omega | exact ⟨by omega,by omega⟩ | (unfold top; omega)) ?_)
     refine ⟨_,Weak.refl _,?_⟩
     simp only [go_sem,zaa,Nat.reduceAdd,Nat.reduceSub,Nat.reduceMul,Int.reduceToNat,reduceCtorEq,↓reduceIte,Int.reducePow,Nat.reducePow,Int.reduceMod,Nat.reduceLeDiff,Int.reduceLE,Int.reduceNe,Int.reduceEq,Nat.reduceEqDiff,Nat.reduceLT,Nat.reduceBEq,List.map_cons,List.map_nil,List.toList_toArray,Array.toList_append,Option.toArray_some,Option.toArray_none,Bool.and_self,ty,Sfnd13,enA,zac,List.map_nil]
   · rw [if_neg hf]
     have q1 : decide ((I : Int) = (l.length : Int)) = true := decide_eq_true (by omega)
     iterate 10
       try rw [zaa]
       try simp only [go_sem,zaa,Nat.reduceAdd,Nat.reduceSub,Nat.reduceMul,Int.reduceToNat,reduceCtorEq,↓reduceIte,Int.reducePow,Nat.reducePow,Int.reduceMod,Nat.reduceLeDiff,Int.reduceLE,Int.reduceNe,Int.reduceEq,Nat.reduceEqDiff,Nat.reduceLT,Nat.reduceBEq,List.map_cons,List.map_nil,List.toList_toArray,Array.toList_append,Option.toArray_some,Option.toArray_none,Bool.and_self,-zaa,ty,Sfnd13,SOfnd13,fndPl,plaS,cloSeS,zcb,coe_se,hle,hL9,hcl,hex,zak,map_se,zab,zac,hI,Int.toNat_natCast,Bool.not_true,Bool.not_false,q1]
       repeat (refine And.intro (by first | omega | exact ⟨by omega,by omega⟩ | (unfold top; omega)) ?_)
     refine ⟨_,Weak.refl _,?_⟩
     simp only [go_sem,zaa,Nat.reduceAdd,Nat.reduceSub,Nat.reduceMul,Int.reduceToNat,reduceCtorEq,↓reduceIte,Int.reducePow,Nat.reducePow,Int.reduceMod,Nat.reduceLeDiff,Int.reduceLE,Int.reduceNe,Int.reduceEq,Nat.reduceEqDiff,Nat.reduceLT,Nat.reduceBEq,List.map_cons,List.map_nil,List.toList_toArray,Array.toList_append,Option.toArray_some,Option.toArray_none,Bool.and_self,ty,Sfnd13,enA,zac,List.map_nil]
 · exact hp.elim
end
end Go.Proofs.Ytgpcnmajkcfgiaa
namespace Go.Proofs.Ytgpcnmajkcfgiaa
open Ax
theorem like_q {q c : Int} {y : Se} (h : likeI q c y = true) : y.q = q ∧ y.c = c := by
 unfold likeI at h
 simpa only [Bool.and_eq_true,decide_eq_true_eq] using h
end Go.Proofs.Ytgpcnmajkcfgiaa
