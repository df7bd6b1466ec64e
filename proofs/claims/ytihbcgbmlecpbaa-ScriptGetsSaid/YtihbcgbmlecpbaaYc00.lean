/- What the proofs of this seat stand on; it asks nothing. -/
import Derived.Test.YtihbcgbmlecpbaaYa12
set_option linter.unusedSimpArgs false
set_option linter.unusedVariables false
namespace Go.Proofs.Ytihbcgbmlecpbaa
namespace Ax
open Go.RowKit
section rules
variable {S : zan} {T : zae} {Q : Exit → ASt → Prop} {σ : ASt}
variable {ops r : List Oper} {o : Oper} {nm : Nat} {sl : List AV} {H : Heap} {Q' : List AV → Heap → Prop}
end rules
def zel (T : zae) : zae := fun t =>
 match T t with
 | some i => some { i with flat := 2 }
 | none => none
theorem setCold_ok {P : Program} {T : zae} (h : TOk P T) : TOk P (zel T) := by
 intro t i hi
 unfold zel at hi
 cases ht : T t with
 | none => rw [ht] at hi; cases hi
 | some j =>
   rw [ht] at hi
   injection hi with hi
   subst hi
   have := h t j ht
   exact ⟨this.d,this.info,this.eqs⟩
end Ax
end Go.Proofs.Ytihbcgbmlecpbaa
namespace Go.Proofs.Ytihbcgbmlecpbaa
open Ax
def tyC : zae := zel ty
theorem tyC_ok : TOk Try.prog tyC := setCold_ok ty_ok
end Go.Proofs.Ytihbcgbmlecpbaa
namespace Go.Proofs.Ytihbcgbmlecpbaa
open Ax
section
set_option maxRecDepth 100000
theorem rzag_sound : zaq Try.prog 82 zgS := by
 refine zal (S := noS) (T := ty) zau ty_ok zbs Try.func82 (c := Try.f82.body.getD .skip) (by kernel_rfl) (by kernel_rfl) (fun xs pins hp _ => ?_)
 unfold zgS at hp ⊢
 split at hp
 · rename_i n _
   obtain ⟨rfl,h1,h2⟩ := hp
   refine ⟨by decide,?_⟩
   unfold Try.f82
   simp only [go_sem,coe,zaa,Nat.reduceAdd,Nat.reduceSub,Nat.reduceMul,Int.reduceToNat,reduceCtorEq,↓reduceIte,Int.reducePow,Nat.reducePow,Int.reduceMod,Nat.reduceLeDiff,Int.reduceLE,Int.reduceNe,Int.reduceEq,Nat.reduceEqDiff,Nat.reduceLT,Nat.reduceBEq,ty,noS,decide_eq_true_eq,decide_eq_false_iff_not]
   have e1 : n.tmod 2 = n % 2 := Int.tmod_eq_emod_of_nonneg h1
   have e2 : n.tdiv 2 = n / 2 := Int.tdiv_eq_ediv_of_nonneg h1
   rw [e1,e2]
   unfold zg
   constructor
   · intro h; rw [if_pos h]; omega
   · intro h; rw [if_neg h]; omega
 · exact hp.elim
end
end Go.Proofs.Ytihbcgbmlecpbaa
namespace Go.Proofs.Ytihbcgbmlecpbaa
open Ax
section
set_option maxRecDepth 100000
theorem rtext_sound : zaq Try.prog 31 zcd := by
 refine zal (S := S37) (T := ty) zau ty_ok S37_ok Try.func31 (c := Try.f31.body.getD .skip) (by kernel_rfl) (by kernel_rfl) (fun xs pins hp _ => ?_)
 unfold zcd at hp ⊢
 split at hp
 · rename_i s _
   refine ⟨by decide,?_⟩
   have hp : s.length ≤ 1000000 := hp
   have hz : (zz (s.length : Int)).toNat = 2 * s.length := by unfold zz; rw [if_pos (by omega)]; omega
   have h10 := zay (2 * s.length) (by omega)
   unfold Try.f31
   simp only [go_sem,coe,zaa,Nat.reduceAdd,Nat.reduceSub,Nat.reduceMul,Int.reduceToNat,reduceCtorEq,↓reduceIte,Int.reducePow,Nat.reducePow,Int.reduceMod,Nat.reduceLeDiff,Int.reduceLE,Int.reduceNe,Int.reduceEq,Nat.reduceEqDiff,Nat.reduceLT,Nat.reduceBEq,ty,S37,putS,hz]
   unfold zaw top
   simp only [List.length_append]
   exact ⟨by omega,by omega,trivial,trivial⟩
 · exact hp.elim
end
end Go.Proofs.Ytihbcgbmlecpbaa
namespace Go.Proofs.Ytihbcgbmlecpbaa
open Ax
theorem getM_ten : ∀ (p : List UInt8) (i u : Nat) (q : List UInt8),(∀ d ∈ p,128 ≤ d.toNat) → i + p.length = 10 → getM i u (p ++ q) = (0,0,4)
 | [],i,u,q,hp,h => by
   have : i = 10 := by simpa using h
   subst this
   cases q <;> simp [getM]
 | d :: p,i,u,q,hp,h => by
   have hd := hp d (by simp)
   simp only [List.length_cons] at h
   simp only [List.cons_append,getM,if_neg (show ¬ i = 10 by omega),if_pos hd]
   exact getM_ten p (i + 1) _ q (fun x hx => hp x (by simp [hx])) (by omega)
end Go.Proofs.Ytihbcgbmlecpbaa
namespace Go.Proofs.Ytihbcgbmlecpbaa
open Ax
def S23 (f : FuncId) : Option zak :=
 match f with
 | 82 => some zgS
 | 51 => some bytesS
 | _ => none
theorem S23_ok : Fns Try.prog S23 := by
 intro f s h
 unfold S23 at h
 split at h
 · injection h with h; subst h; exact ⟨⟨_,Try.func82,by kernel_rfl,by kernel_rfl⟩,rzag_sound⟩
 · injection h with h; subst h; exact ⟨⟨_,Try.func51,by kernel_rfl,by kernel_rfl⟩,bytes_sound⟩
 · cases h
theorem getL_ten (bs : List UInt8) (hall : ∀ d ∈ bs.take 10,128 ≤ d.toNat) (hl : 10 ≤ bs.length) : getL bs = (0,0,4) := by
 have e : bs = bs.take 10 ++ bs.drop 10 := (List.take_append_drop 10 bs).symm
 rw [getL_M,e]
 exact getM_ten _ 0 0 _ hall (by simp; omega)
theorem getL_open (bs : List UInt8) (hall : ∀ d ∈ bs,128 ≤ d.toNat) (hl : bs.length < 10) : getL bs = (0,0,3) := by
 rw [getL_M,getM_open bs 0 0 hall (by omega),if_pos (by omega)]
theorem getL_end (bs : List UInt8) (i : Nat) (hi : i < bs.length) (h9 : i ≤ 9) (hall : ∀ d ∈ bs.take i,128 ≤ d.toNat) (hc : bs[i].toNat < 128) :
   getL bs = if putU (valU (bs.take (i + 1)) % 18446744073709551616) = bs.take (i + 1) then (zg ((valU (bs.take (i + 1)) % 18446744073709551616 : Nat) : Int),i + 1,0) else (0,0,4) := by
 have e : bs = bs.take i ++ bs[i] :: bs.drop (i + 1) := by
   rw [← List.drop_eq_getElem_cons hi,List.take_append_drop]
 have e2 : bs.take (i + 1) = bs.take i ++ [bs[i]] := by rw [List.take_succ_eq_append_getElem hi]
 have hlen : (bs.take i).length = i := by simp; omega
 have h1 := getM_end (bs.take i) 0 0 bs[i] (bs.drop (i + 1)) hall hc (by omega)
 have hcan := canon (bs.take i) bs[i] hall hc (by omega)
 rw [← e] at h1
 rw [getL_M,h1,e2]
 simp only [Nat.zero_add,hlen,Nat.pow_zero,Nat.mul_one] at hcan ⊢
 by_cases hbad : (0 < i ∧ bs[i].toNat = 0) ∨ (i = 9 ∧ 1 < bs[i].toNat)
 · rw [if_pos hbad,if_neg (fun h => (hcan.1 h) hbad)]
 · have hput := hcan.2 hbad
   rw [if_neg hbad,if_pos hput]
   have hv := val_put (valU (bs.take i ++ [bs[i]]) % 18446744073709551616)
   rw [hput] at hv
   rw [← hv]
theorem valU_step (bs : List UInt8) (n k : Nat) (hk : k < n) (hn : n ≤ bs.length) : valU ((bs.take n).drop k) = (bs.getD k 0).toNat % 128 + 128 * valU ((bs.take n).drop (k + 1)) := by
 have hkl : k < (bs.take n).length := by simp; omega
 rw [List.drop_eq_getElem_cons hkl]
 have : (bs.take n)[k] = bs.getD k 0 := by
   simp [show k < bs.length by omega]
 rw [this]; rfl
theorem tmod_cast (a b : Nat) : (a : Int).tmod b = ((a % b : Nat) : Int) := by
 rw [Int.tmod_eq_emod_of_nonneg (by omega)]; simp
section
set_option maxRecDepth 100000
theorem rget_sound : zaq Try.prog 62 getS := by
 refine zal (S := S23) (T := ty) zau ty_ok S23_ok Try.func62 (c := Try.f62.body.getD .skip) (by kernel_rfl) (by kernel_rfl) (fun xs pins hp _ => ?_)
 unfold getS at hp ⊢
 split at hp
 · rename_i bs f _
   have hp : bs.length ≤ 1000000 := hp
   refine ⟨by simp,?_⟩
   obtain ⟨G,hG⟩ : ∃ G,getL bs = G := ⟨_,rfl⟩
   rw [hG]
   unfold Try.f62
   simp only [go_sem,coe,zaa,Nat.reduceAdd,Nat.reduceSub,Nat.reduceMul,Int.reduceToNat,reduceCtorEq,↓reduceIte,Int.reducePow,Nat.reducePow,Int.reduceMod,Nat.reduceLeDiff,Int.reduceLE,Int.reduceNe,Int.reduceEq,Nat.reduceEqDiff,Nat.reduceLT,Nat.reduceBEq,ty,S23]
   refine zco ⟨fun m σ => ∃ (i : Nat),m = bs.length - i ∧ i ≤ bs.length ∧ i ≤ 10 ∧ (∀ d ∈ bs.take i,128 ≤ d.toNat) ∧
     σ = ⟨[.sb bs f,.junk,.w (.int .i64 0),.w (.int .i64 0),.w (.int .i64 0),.w (.int .i64 i),.junk,.junk,.junk,.junk,.junk,.junk,.junk,.junk,.junk,.junk,.junk,.junk,.junk,.junk,.junk,.junk,.junk,.junk,.junk,.junk,.junk,.junk,.junk,.junk,.junk,.junk,.junk,.junk,.junk,.junk,.junk,.junk,.junk,.junk,.junk,.junk,.junk,.junk,.junk,.junk,.junk,.junk,.junk,.junk,.junk,.junk,.junk,.junk,.junk,.junk,.junk,.junk,.junk,.junk],[],4⟩,?_,?_⟩
   · refine ⟨_,_,zaf [0,1,2,3] rfl rfl rfl ?_ ?_,0,rfl,by omega,by omega,by simp,rfl⟩
     · simp only [ssT,zai,zaj,setSlot,gOf,AV.ren,renL,Blk.ren,Ax.look,Ax.put,reduceCtorEq,↓reduceIte,Nat.reduceEqDiff,Nat.reduceLT,Nat.reduceAdd,List.length_append,List.length_cons,List.length_nil,Option.some.injEq]; rfl
     · simp only [ssT,zai,zaj,setSlot,gOf,AV.ren,renL,Blk.ren,Ax.look,Ax.put,reduceCtorEq,↓reduceIte,Nat.reduceEqDiff,Nat.reduceLT,Nat.reduceAdd,List.length_append,List.length_cons,List.length_nil,Option.some.injEq]
   · rintro m σ ⟨i,rfl,hi,hi10,hall,rfl⟩
     have e1 : ((i : Int) + 1 + 9223372036854775808) % 18446744073709551616 - 9223372036854775808 = ((i + 1 : Nat) : Int) := by omega
     by_cases h1 : i < bs.length ∧ i < 10 ∧ 128 ≤ (bs.getD i 0).toNat
     · obtain ⟨ha,hb,hc⟩ := h1
       have d1 : decide ((i : Int) < bs.length) = true := decide_eq_true (by omega)
       have d2 : decide ((i : Int) < 10) = true := decide_eq_true (by omega)
       have d3 : decide ((128 : Int) ≤ ((bs.getD i 0).toNat : Int)) = true := decide_eq_true (by omega)
       simp only [go_sem,coe,zaa,Nat.reduceAdd,Nat.reduceSub,Nat.reduceMul,Int.reduceToNat,reduceCtorEq,↓reduceIte,Int.reducePow,Nat.reducePow,Int.reduceMod,Nat.reduceLeDiff,Int.reduceLE,Int.reduceNe,Int.reduceEq,Nat.reduceEqDiff,Nat.reduceLT,Nat.reduceBEq,ty,S23,d1,d2,d3,e1]
       refine ⟨⟨by omega,by omega⟩,bs.length - (i + 1),_,by omega,zaf [0,1,2,3] rfl rfl rfl ?_ ?_,i + 1,rfl,by omega,by omega,?_,rfl⟩
       · simp only [ssT,zai,zaj,setSlot,gOf,AV.ren,renL,Blk.ren,Ax.look,Ax.put,reduceCtorEq,↓reduceIte,Nat.reduceEqDiff,Nat.reduceLT,Nat.reduceAdd,List.length_append,List.length_cons,List.length_nil,Option.some.injEq]
       · simp only [ssT,zai,zaj,setSlot,gOf,AV.ren,renL,Blk.ren,Ax.look,Ax.put,reduceCtorEq,↓reduceIte,Nat.reduceEqDiff,Nat.reduceLT,Nat.reduceAdd,List.length_append,List.length_cons,List.length_nil,Option.some.injEq]
       · intro d hd
         rw [List.take_succ_eq_append_getElem ha,List.mem_append] at hd
         rcases hd with hd | hd
         · exact hall d hd
         · have : d = bs[i] := by simpa using hd
           have eg : bs.getD i 0 = bs[i] := by simp [ha]
           rw [this,← eg]; exact hc
     · -- the loop is left
       by_cases h10 : i = 10
       · subst h10
         have hG2 := getL_ten bs hall hi
         rw [hG] at hG2
         subst hG2
         have d2 : decide (((10 : Nat) : Int) < 10) = false := by simp
         have d3 : decide (((10 : Nat) : Int) = 10) = true := by simp
         by_cases hl : 10 < bs.length
         · have d1 : decide (((10 : Nat) : Int) < bs.length) = true := decide_eq_true (by omega)
           simp only [go_sem,coe,zaa,Nat.reduceAdd,Nat.reduceSub,Nat.reduceMul,Int.reduceToNat,reduceCtorEq,↓reduceIte,Int.reducePow,Nat.reducePow,Int.reduceMod,Nat.reduceLeDiff,Int.reduceLE,Int.reduceNe,Int.reduceEq,Nat.reduceEqDiff,Nat.reduceLT,Nat.reduceBEq,ty,S23,d1,d2,d3]
           rfl
         · have d1 : decide (((10 : Nat) : Int) < bs.length) = false := decide_eq_false (by omega)
           simp only [go_sem,coe,zaa,Nat.reduceAdd,Nat.reduceSub,Nat.reduceMul,Int.reduceToNat,reduceCtorEq,↓reduceIte,Int.reducePow,Nat.reducePow,Int.reduceMod,Nat.reduceLeDiff,Int.reduceLE,Int.reduceNe,Int.reduceEq,Nat.reduceEqDiff,Nat.reduceLT,Nat.reduceBEq,ty,S23,d1,d2,d3]
           rfl
       · have d3 : decide ((i : Int) = 10) = false := decide_eq_false (by omega)
         have d2 : decide ((i : Int) < 10) = true := decide_eq_true (by omega)
         by_cases hl : i = bs.length
         · have d1 : decide ((i : Int) < bs.length) = false := decide_eq_false (by omega)
           have d4 : decide ((i : Int) = bs.length) = true := decide_eq_true (by omega)
           rw [hl,List.take_length] at hall
           have hG2 := getL_open bs hall (by omega)
           rw [hG] at hG2
           subst hG2
           simp only [go_sem,coe,zaa,Nat.reduceAdd,Nat.reduceSub,Nat.reduceMul,Int.reduceToNat,reduceCtorEq,↓reduceIte,Int.reducePow,Nat.reducePow,Int.reduceMod,Nat.reduceLeDiff,Int.reduceLE,Int.reduceNe,Int.reduceEq,Nat.reduceEqDiff,Nat.reduceLT,Nat.reduceBEq,ty,S23,d1,d2,d3,d4]
           rfl
         · have hil : i < bs.length := by omega
           have hc : ¬ 128 ≤ (bs.getD i 0).toNat := fun h => h1 ⟨hil,by omega,h⟩
           have eg : bs.getD i 0 = bs[i] := by simp [hil]
           have hG2 := getL_end bs i hil (by omega) hall (by rw [← eg]; omega)
           rw [hG] at hG2
           have d1 : decide ((i : Int) < bs.length) = true := decide_eq_true (by omega)
           have d4 : decide ((i : Int) = bs.length) = false := decide_eq_false (by omega)
           have d5 : decide ((128 : Int) ≤ ((bs.getD i 0).toNat : Int)) = false := decide_eq_false (by omega)
           simp only [go_sem,coe,zaa,Nat.reduceAdd,Nat.reduceSub,Nat.reduceMul,Int.reduceToNat,reduceCtorEq,↓reduceIte,Int.reducePow,Nat.reducePow,Int.reduceMod,Nat.reduceLeDiff,Int.reduceLE,Int.reduceNe,Int.reduceEq,Nat.reduceEqDiff,Nat.reduceLT,Nat.reduceBEq,ty,S23,d1,d2,d3,d4,d5]
           refine ⟨⟨by omega,by omega⟩,zco ⟨fun m σ => ∃ (k : Nat),m = k ∧ k ≤ i + 1 ∧
             σ = ⟨[.sb bs f,.junk,.w (.int .i64 0),.w (.int .i64 0),.w (.int .i64 0),.w (.int .i64 i),.w (.int .u64 ((valU ((bs.take (i + 1)).drop k) % 18446744073709551616 : Nat) : Int)),.w (.int .i64 ((k : Int) - 1)),.junk,.junk,.junk,.junk,.junk,.junk,.junk,.junk,.junk,.junk,.junk,.junk,.junk,.junk,.junk,.junk,.junk,.junk,.junk,.junk,.junk,.junk,.junk,.junk,.junk,.junk,.junk,.junk,.junk,.junk,.junk,.junk,.junk,.junk,.junk,.junk,.junk,.junk,.junk,.junk,.junk,.junk,.junk,.junk,.junk,.junk,.junk,.junk,.junk,.junk,.junk,.junk],[],4⟩,?_,?_⟩⟩
           · refine ⟨_,_,zaf [0,1,2,3] rfl rfl rfl ?_ ?_,i + 1,rfl,by omega,rfl⟩
             · have : (bs.take (i + 1)).drop (i + 1) = [] := List.drop_of_length_le (by simp; omega)
               simp only [ssT,zai,zaj,setSlot,gOf,AV.ren,renL,Blk.ren,Ax.look,Ax.put,reduceCtorEq,↓reduceIte,Nat.reduceEqDiff,Nat.reduceLT,Nat.reduceAdd,List.length_append,List.length_cons,List.length_nil,Option.some.injEq,this,valU]
               simp
             · simp only [ssT,zai,zaj,setSlot,gOf,AV.ren,renL,Blk.ren,Ax.look,Ax.put,reduceCtorEq,↓reduceIte,Nat.reduceEqDiff,Nat.reduceLT,Nat.reduceAdd,List.length_append,List.length_cons,List.length_nil,Option.some.injEq]
           · rintro m σ ⟨k,rfl,hk,rfl⟩
             by_cases hk0 : 0 < m
             · have d6 : decide ((0 : Int) ≤ (m : Int) - 1) = true := decide_eq_true (by omega)
               have em : ((m : Int) - 1).toNat = m - 1 := by omega
               have hst := valU_step bs (i + 1) (m - 1) (by omega) (by omega)
               rw [show m - 1 + 1 = m by omega] at hst
               have et : ((bs.getD (m - 1) 0).toNat : Int).tmod 128 = (((bs.getD (m - 1) 0).toNat % 128 : Nat) : Int) := tmod_cast _ 128
               obtain ⟨c,hcd⟩ : ∃ c,(bs.getD (m - 1) 0).toNat = c := ⟨_,rfl⟩
               rw [hcd] at hst et
               generalize valU ((bs.take (i + 1)).drop m) = X at *
               have ew : (128 * ((X % 18446744073709551616 : Nat) : Int) % 18446744073709551616 + ((c % 128 : Nat) : Int) % 18446744073709551616) % 18446744073709551616 = (((c % 128 + 128 * X) % 18446744073709551616 : Nat) : Int) := by omega
               have es : ((m : Int) - 1 - 1 + 9223372036854775808) % 18446744073709551616 - 9223372036854775808 = ((m - 1 : Nat) : Int) - 1 := by omega
               simp only [go_sem,coe,zaa,Nat.reduceAdd,Nat.reduceSub,Nat.reduceMul,Int.reduceToNat,reduceCtorEq,↓reduceIte,Int.reducePow,Nat.reducePow,Int.reduceMod,Nat.reduceLeDiff,Int.reduceLE,Int.reduceNe,Int.reduceEq,Nat.reduceEqDiff,Nat.reduceLT,Nat.reduceBEq,ty,S23,d6,em,hcd,et,ew,es]
               refine ⟨by omega,m - 1,_,by omega,zaf [0,1,2,3] rfl rfl rfl ?_ ?_,m - 1,rfl,by omega,rfl⟩
               · simp only [ssT,zai,zaj,setSlot,gOf,AV.ren,renL,Blk.ren,Ax.look,Ax.put,reduceCtorEq,↓reduceIte,Nat.reduceEqDiff,Nat.reduceLT,Nat.reduceAdd,List.length_append,List.length_cons,List.length_nil,Option.some.injEq,hst]
               · simp only [ssT,zai,zaj,setSlot,gOf,AV.ren,renL,Blk.ren,Ax.look,Ax.put,reduceCtorEq,↓reduceIte,Nat.reduceEqDiff,Nat.reduceLT,Nat.reduceAdd,List.length_append,List.length_cons,List.length_nil,Option.some.injEq]
             · have d6 : decide ((0 : Int) ≤ (m : Int) - 1) = false := decide_eq_false (by omega)
               obtain rfl : m = 0 := by omega
               generalize hV : valU ((bs.take (i + 1)).drop 0) % 18446744073709551616 = V
               rw [List.drop_zero] at hV
               rw [hV] at hG2
               have hVlt : (V : Int) < 18446744073709551616 := by omega
               have hV0 : (0 : Int) ≤ V := by omega
               have etk : List.take (i + 1) bs = bs.take (i + 1) := rfl
               simp only [go_sem,coe,zaa,Nat.reduceAdd,Nat.reduceSub,Nat.reduceMul,Int.reduceToNat,reduceCtorEq,↓reduceIte,Int.reducePow,Nat.reducePow,Int.reduceMod,Nat.reduceLeDiff,Int.reduceLE,Int.reduceNe,Int.reduceEq,Nat.reduceEqDiff,Nat.reduceLT,Nat.reduceBEq,ty,S23,bytesS,zgS,d6,e1,Int.toNat_natCast,List.take_length,hVlt,hV0]
               simp only [Nat.sub_zero,Bool.not_eq_true',decide_eq_false_iff_not,Bool.not_eq_false',decide_eq_true_eq]
               refine ⟨by omega,fun h => ?_,fun h => ?_⟩
               · rw [hG2,if_neg h]; rfl
               · rw [hG2,if_pos h]
 · exact hp.elim
end
end Go.Proofs.Ytihbcgbmlecpbaa
namespace Go.Proofs.Ytihbcgbmlecpbaa
open Ax
section
set_option maxRecDepth 100000
theorem runfixed_sound : zaq Try.prog 63 unfS := by
 refine zal (S := noS) (T := ty) zau ty_ok zbs Try.func63 (c := Try.f63.body.getD .skip) (by kernel_rfl) (by kernel_rfl) (fun xs pins hp _ => ?_)
 unfold unfS at hp ⊢
 split at hp
 · rename_i bs f _
   have hp : bs.length ≤ 1000000 := hp
   refine ⟨by simp,?_⟩
   have hl8 := last8_length bs
   have hll : (zcc bs).length = bs.length - (bs.length - 8) := by unfold zcc; simp
   have em : (if (bs.length - 8 + 9223372036854775808 : Int) % 18446744073709551616 - 9223372036854775808 > 0 then (bs.length - 8 + 9223372036854775808 : Int) % 18446744073709551616 - 9223372036854775808 else 0) = ((bs.length - 8 : Nat) : Int) := by
     split <;> omega
   unfold Try.f63
   simp -implicitDefEqProofs only [go_sem,coe,zaa,Nat.reduceAdd,Nat.reduceSub,Nat.reduceMul,Int.reduceToNat,reduceCtorEq,↓reduceIte,Int.reducePow,Nat.reducePow,Int.reduceMod,Nat.reduceLeDiff,Int.reduceLE,Int.reduceNe,Int.reduceEq,Nat.reduceEqDiff,Nat.reduceLT,Nat.reduceBEq,ty,noS,em]
   refine zco ⟨fun m σ => ∃ (i X : Nat),m = (zcc bs).length - i ∧ i ≤ (zcc bs).length ∧ X < 256 ^ i ∧ unfL ((zcc bs).drop i) X = unfL (zcc bs) 0 ∧
     σ = ⟨[.sb bs f,.junk,.junk,.w (.int .u64 X),.w (.int .i64 ((bs.length - 8 + i : Nat) : Int)),.junk,.junk,.junk,.junk,.junk,.junk,.junk,.junk,.junk,.junk,.junk,.junk,.junk,.junk,.junk,.junk,.junk,.junk,.junk],[],4⟩,?_,?_⟩
   · refine ⟨_,_,zaf [0,1,2,3] rfl rfl rfl ?_ ?_,0,0,rfl,by omega,by simp,rfl,rfl⟩
     · simp only [ssT,zai,zaj,setSlot,gOf,AV.ren,renL,Blk.ren,Ax.look,Ax.put,reduceCtorEq,↓reduceIte,Nat.reduceEqDiff,Nat.reduceLT,Nat.reduceAdd,List.length_append,List.length_cons,List.length_nil,Option.some.injEq]; simp
     · simp only [ssT,zai,zaj,setSlot,gOf,AV.ren,renL,Blk.ren,Ax.look,Ax.put,reduceCtorEq,↓reduceIte,Nat.reduceEqDiff,Nat.reduceLT,Nat.reduceAdd,List.length_append,List.length_cons,List.length_nil,Option.some.injEq]
   · rintro m σ ⟨i,X,rfl,hi,hX,hu,rfl⟩
     obtain ⟨k,hk⟩ : ∃ k,bs.length - 8 + i = k := ⟨_,rfl⟩
     rw [hk]
     simp -implicitDefEqProofs only [go_sem,coe,zaa,Nat.reduceAdd,Nat.reduceSub,Nat.reduceMul,Int.reduceToNat,reduceCtorEq,↓reduceIte,Int.reducePow,Nat.reducePow,Int.reduceMod,Nat.reduceLeDiff,Int.reduceLE,Int.reduceNe,Int.reduceEq,Nat.reduceEqDiff,Nat.reduceLT,Nat.reduceBEq,ty,noS,decide_eq_true_eq,decide_eq_false_iff_not]
     refine ⟨fun hc => ?_,fun hc => ?_⟩
     · have hil : i < (zcc bs).length := by omega
       have h7 : (256 : Nat) ^ i ≤ 256 ^ 7 := Nat.pow_le_pow_right (by decide) (by omega)
       have h7' : (256 : Nat) ^ 7 = 72057594037927936 := by simp
       have hb := (zcc bs)[i].toNat_lt
       rw [List.drop_eq_getElem_cons hil] at hu
       have eg : bs.getD k 0 = (zcc bs)[i] := by
         have : (zcc bs)[i] = bs[k]'(by omega) := by simp [zcc,hk]
         rw [this]; simp [show k < bs.length by omega]
       simp only [eg]
       refine ⟨⟨by omega,by omega⟩,(zcc bs).length - (i + 1),_,by omega,zaf [0,1,2,3] rfl rfl rfl ?_ ?_,i + 1,X * 256 + (zcc bs)[i].toNat,rfl,by omega,?_,hu,rfl⟩
       · simp only [ssT,zai,zaj,setSlot,gOf,AV.ren,renL,Blk.ren,Ax.look,Ax.put,reduceCtorEq,↓reduceIte,Nat.reduceEqDiff,Nat.reduceLT,Nat.reduceAdd,List.length_append,List.length_cons,List.length_nil,Option.some.injEq]; omega
       · simp only [ssT,zai,zaj,setSlot,gOf,AV.ren,renL,Blk.ren,Ax.look,Ax.put,reduceCtorEq,↓reduceIte,Nat.reduceEqDiff,Nat.reduceLT,Nat.reduceAdd,List.length_append,List.length_cons,List.length_nil,Option.some.injEq]
       · rw [Nat.pow_succ]; omega
     · have hil : i = (zcc bs).length := by omega
       subst hil
       rw [List.drop_length] at hu
       simp only [unfL,List.foldl_nil] at hu ⊢
       rw [← hu]
 · exact hp.elim
end
end Go.Proofs.Ytihbcgbmlecpbaa
namespace Go.Proofs.Ytihbcgbmlecpbaa
open Ax
def zar : zak
 | [.agg [.sb bs f,.w (.int k e)]],[] => ⟨k = .i64 ∧ bs.length ≤ 1000000,.tup [rrd (numL bs e) f (numE bs e),.w (.int .i64 (numN bs e))],[]⟩
 | _,_ => zbd
def S27 (f : FuncId) : Option zak :=
 match f with
 | 62 => some getS
 | _ => none
theorem S27_ok : Fns Try.prog S27 := by
 intro f s h
 unfold S27 at h
 split at h
 · injection h with h; subst h; exact ⟨⟨_,Try.func62,by kernel_rfl,by kernel_rfl⟩,rget_sound⟩
 · cases h
section
set_option maxRecDepth 100000
theorem rrnum_sound : zaq Try.prog 37 zar := by
 refine zal (S := S27) (T := ty) zau ty_ok S27_ok Try.func37 (c := Try.f37.body.getD .skip) (by kernel_rfl) (by kernel_rfl) (fun xs pins hp _ => ?_)
 unfold zar at hp ⊢
 split at hp
 · rename_i bs f k e _
   obtain ⟨rfl,hlen⟩ := hp
   refine ⟨by simp,?_⟩
   obtain ⟨hg1,hg2⟩ := getL_ok bs
   have e1 : List.take (bs.length - (getL bs).2.1) (List.drop (getL bs).2.1 bs) = bs.drop (getL bs).2.1 := List.take_of_length_le (by simp)
   unfold Try.f37
   by_cases he : e = 0
   · subst he
     have d0 : decide ((0 : Int) = 0) = true := rfl
     by_cases hr : (getL bs).2.2 = 0
     · simp only [go_sem,coe,zaa,Nat.reduceAdd,Nat.reduceSub,Nat.reduceMul,Int.reduceToNat,reduceCtorEq,↓reduceIte,Int.reducePow,Nat.reducePow,Int.reduceMod,Nat.reduceLeDiff,Int.reduceLE,Int.reduceNe,Int.reduceEq,Nat.reduceEqDiff,Nat.reduceLT,Nat.reduceBEq,ty,S27,getS,hlen,e1,hr,Int.toNat_natCast,rrd,numL,numE,numN,if_true,fillS]
       omega
     · obtain ⟨h3,h4⟩ := hg2 hr
       have d1 : decide ((getL bs).2.2 = 0) = false := decide_eq_false hr
       simp only [go_sem,coe,zaa,Nat.reduceAdd,Nat.reduceSub,Nat.reduceMul,Int.reduceToNat,reduceCtorEq,↓reduceIte,Int.reducePow,Nat.reducePow,Int.reduceMod,Nat.reduceLeDiff,Int.reduceLE,Int.reduceNe,Int.reduceEq,Nat.reduceEqDiff,Nat.reduceLT,Nat.reduceBEq,ty,S27,getS,hlen,e1,d1,Int.toNat_natCast,rrd,numL,numE,numN,if_true,h3,h4,List.drop_zero]
   · have d0 : decide (e = 0) = false := decide_eq_false he
     simp only [go_sem,coe,zaa,Nat.reduceAdd,Nat.reduceSub,Nat.reduceMul,Int.reduceToNat,reduceCtorEq,↓reduceIte,Int.reducePow,Nat.reducePow,Int.reduceMod,Nat.reduceLeDiff,Int.reduceLE,Int.reduceNe,Int.reduceEq,Nat.reduceEqDiff,Nat.reduceLT,Nat.reduceBEq,ty,S27,getS,d0,rrd,numL,numE,numN,if_neg he]
 · exact hp.elim
def zaz : zak
 | [.agg [.sb bs f,.w (.int k e)],.w (.int k' n)],[] => ⟨k = .i64 ∧ k' = .i64 ∧ bs.length ≤ 1000000,.tup [rrd (rfixL n bs e) f (rfixE n bs e),.w (.int .u64 (zci n bs e))],[]⟩
 | _,_ => zbd
def S29 (f : FuncId) : Option zak :=
 match f with
 | 63 => some unfS
 | _ => none
theorem S29_ok : Fns Try.prog S29 := by
 intro f s h
 unfold S29 at h
 split at h
 · injection h with h; subst h; exact ⟨⟨_,Try.func63,by kernel_rfl,by kernel_rfl⟩,runfixed_sound⟩
 · cases h
theorem rrfix_sound : zaq Try.prog 38 zaz := by
 refine zal (S := S29) (T := tyF) zau tyF_ok S29_ok Try.func38 (c := Try.f38.body.getD .skip) (by kernel_rfl) (by kernel_rfl) (fun xs pins hp _ => ?_)
 unfold zaz at hp ⊢
 split at hp
 · rename_i bs f k e k' n _
   obtain ⟨rfl,rfl,hlen⟩ := hp
   refine ⟨by simp,?_⟩
   have hc := clampI_range n
   have em : (if (if (8 : Int) < n then (8 : Int) else n) > 0 then (if (8 : Int) < n then (8 : Int) else n) else 0) = zfd n := by
     unfold zfd
     repeat' split
     all_goals omega
   have em2 : (if (0 : Int) > (if (8 : Int) < n then (8 : Int) else n) then (0 : Int) else (if (8 : Int) < n then (8 : Int) else n)) = zfd n := by
     unfold zfd
     repeat' split
     all_goals omega
   obtain ⟨W,hW⟩ := Int.eq_ofNat_of_zero_le hc.1
   have hW8 : W ≤ 8 := by omega
   have e1 : List.take (bs.length - W) (List.drop W bs) = bs.drop W := List.take_of_length_le (by simp)
   unfold Try.f38
   by_cases he : e = 0
   · subst he
     by_cases hl : bs.length < W
     · have d1 : decide ((bs.length : Int) < W) = true := decide_eq_true (by omega)
       have hl2 : (bs.length : Int) < (W : Int) := by omega
       simp only [go_sem,coe,zaa,Nat.reduceAdd,Nat.reduceSub,Nat.reduceMul,Int.reduceToNat,reduceCtorEq,↓reduceIte,Int.reducePow,Nat.reducePow,Int.reduceMod,Nat.reduceLeDiff,Int.reduceLE,Int.reduceNe,Int.reduceEq,Nat.reduceEqDiff,Nat.reduceLT,Nat.reduceBEq,tyF,zek,ty,S29,em,em2,hW,d1,rrd,rfixL,rfixE,zci,tkB,tkL,tkE,if_true,hl2]
       simp [zcc,unfL]
     · have d1 : decide ((bs.length : Int) < W) = false := decide_eq_false (by omega)
       have hl3 : W ≤ bs.length := by omega
       have hl2 : ¬ (bs.length : Int) < (W : Int) := by omega
       simp only [go_sem,coe,zaa,Nat.reduceAdd,Nat.reduceSub,Nat.reduceMul,Int.reduceToNat,reduceCtorEq,↓reduceIte,Int.reducePow,Nat.reducePow,Int.reduceMod,Nat.reduceLeDiff,Int.reduceLE,Int.reduceNe,Int.reduceEq,Nat.reduceEqDiff,Nat.reduceLT,Nat.reduceBEq,tyF,zek,ty,S29,unfS,em,em2,hW,d1,e1,rrd,rfixL,rfixE,zci,tkB,tkL,tkE,if_true,if_neg hl2,Int.toNat_natCast,Nat.sub_zero,List.length_take,hl3,if_true]
       omega
   · have d0 : decide (e = 0) = false := decide_eq_false he
     simp only [go_sem,coe,zaa,Nat.reduceAdd,Nat.reduceSub,Nat.reduceMul,Int.reduceToNat,reduceCtorEq,↓reduceIte,Int.reducePow,Nat.reducePow,Int.reduceMod,Nat.reduceLeDiff,Int.reduceLE,Int.reduceNe,Int.reduceEq,Nat.reduceEqDiff,Nat.reduceLT,Nat.reduceBEq,tyF,zek,ty,S29,em,em2,hW,d0,rrd,rfixL,rfixE,zci,if_neg he]
 · exact hp.elim
def zax : zak
 | [.agg [.sb bs f,.w (.int k e)],.w (.int k' m)],[] => ⟨k = .i64 ∧ k' = .i64 ∧ bs.length ≤ 1000000,.tup [rrd (rtL m bs e) f (rtE m bs e),.str (rtS' m bs e)],[]⟩
 | _,_ => zbd
def S31 (f : FuncId) : Option zak :=
 match f with
 | 37 => some zar
 | _ => none
theorem S31_ok : Fns Try.prog S31 := by
 intro f s h
 unfold S31 at h
 split at h
 · injection h with h; subst h; exact ⟨⟨_,Try.func37,by kernel_rfl,by kernel_rfl⟩,rrnum_sound⟩
 · cases h
end
end Go.Proofs.Ytihbcgbmlecpbaa
namespace Go.Proofs.Ytihbcgbmlecpbaa
open Ax
section
set_option maxRecDepth 100000
set_option maxHeartbeats 1000000 in
theorem rrcheck_sound : zaq Try.prog 84 zbh := by
 refine zal (S := noS) (T := ty) zau ty_ok zbs Try.func84 (c := Try.f84.body.getD .skip) (by kernel_rfl) (by kernel_rfl) (fun xs pins hp _ => ?_)
 unfold zbh at hp ⊢
 split at hp
 · rename_i d t k key dd val _
   refine ⟨by simp,?_⟩
   unfold Try.f84
   have hc := zfn d t k key dd val
   generalize rchk d t k key dd val = X at *
   unfold rA rB rC at hc
   rcases key with _ | ⟨c,ks⟩ <;> rcases val with _ | ⟨v,vs⟩ <;> cases k <;> cases dd
   all_goals
     simp only [go_sem,coe,zaa,Nat.reduceAdd,Nat.reduceSub,Nat.reduceMul,Int.reduceToNat,reduceCtorEq,↓reduceIte,Int.reducePow,Nat.reducePow,Int.reduceMod,Nat.reduceLeDiff,Int.reduceLE,Int.reduceNe,Int.reduceEq,Nat.reduceEqDiff,Nat.reduceLT,Nat.reduceBEq,ty,noS,decide_eq_true_eq,decide_eq_false_iff_not]
     simp only [List.length_cons,List.length_nil,ne_eq,reduceCtorEq,not_true_eq_false,not_false_eq_true,or_true,true_or,or_false,false_or,and_true,and_false,true_and,false_and,Bool.false_eq_true,Bool.true_eq_false] at hc
     repeat' (first | (intro _) | (apply And.intro))
     all_goals omega
 · exact hp.elim
def Srrput (f : FuncId) : Option zak :=
 match f with
 | 84 => some zbh
 | 26 => some putS
 | 31 => some zcd
 | _ => none
theorem Srrput_ok : Fns Try.prog Srrput := by
 intro f s h
 unfold Srrput at h
 split at h
 · injection h with h; subst h; exact ⟨⟨_,Try.func84,by kernel_rfl,by kernel_rfl⟩,rrcheck_sound⟩
 · injection h with h; subst h; exact ⟨⟨_,Try.func26,by kernel_rfl,by kernel_rfl⟩,rput_sound⟩
 · injection h with h; subst h; exact ⟨⟨_,Try.func31,by kernel_rfl,by kernel_rfl⟩,rtext_sound⟩
 · cases h
end
end Go.Proofs.Ytihbcgbmlecpbaa
namespace Go.Proofs.Ytihbcgbmlecpbaa
open Ax
section
set_option maxRecDepth 100000
theorem rrsame_sound : zaq Try.prog 86 rsameS := by
 refine zal (S := noS) (T := ty) zau ty_ok zbs Try.func86 (c := Try.f86.body.getD .skip) (by kernel_rfl) (by kernel_rfl) (fun xs pins hp _ => ?_)
 unfold rsameS at hp ⊢
 split at hp
 · rename_i d t k key dd val d' t' k' key' dd' val' _
   refine ⟨by simp,?_⟩
   unfold Try.f86
   unfold sameB
   by_cases h1 : d = d'
   · have d1 : decide (d = d') = true := decide_eq_true h1
     by_cases h2 : t = t'
     · have d2 : decide (t = t') = true := decide_eq_true h2
       cases hk : (k == k') with
       | false => simp only [go_sem,coe,zaa,Nat.reduceAdd,Nat.reduceSub,Nat.reduceMul,Int.reduceToNat,reduceCtorEq,↓reduceIte,Int.reducePow,Nat.reducePow,Int.reduceMod,Nat.reduceLeDiff,Int.reduceLE,Int.reduceNe,Int.reduceEq,Nat.reduceEqDiff,Nat.reduceLT,Nat.reduceBEq,ty,noS,d1,d2,hk]
       | true =>
         by_cases h4 : key = key'
         · have d4 : decide (key = key') = true := decide_eq_true h4
           cases hd : (dd == dd') with
           | false => simp only [go_sem,coe,zaa,Nat.reduceAdd,Nat.reduceSub,Nat.reduceMul,Int.reduceToNat,reduceCtorEq,↓reduceIte,Int.reducePow,Nat.reducePow,Int.reduceMod,Nat.reduceLeDiff,Int.reduceLE,Int.reduceNe,Int.reduceEq,Nat.reduceEqDiff,Nat.reduceLT,Nat.reduceBEq,ty,noS,d1,d2,hk,d4,hd]
           | true => simp only [go_sem,coe,zaa,Nat.reduceAdd,Nat.reduceSub,Nat.reduceMul,Int.reduceToNat,reduceCtorEq,↓reduceIte,Int.reducePow,Nat.reducePow,Int.reduceMod,Nat.reduceLeDiff,Int.reduceLE,Int.reduceNe,Int.reduceEq,Nat.reduceEqDiff,Nat.reduceLT,Nat.reduceBEq,ty,noS,d1,d2,hk,d4,hd]
         · have d4 : decide (key = key') = false := decide_eq_false h4
           simp only [go_sem,coe,zaa,Nat.reduceAdd,Nat.reduceSub,Nat.reduceMul,Int.reduceToNat,reduceCtorEq,↓reduceIte,Int.reducePow,Nat.reducePow,Int.reduceMod,Nat.reduceLeDiff,Int.reduceLE,Int.reduceNe,Int.reduceEq,Nat.reduceEqDiff,Nat.reduceLT,Nat.reduceBEq,ty,noS,d1,d2,hk,d4]
     · have d2 : decide (t = t') = false := decide_eq_false h2
       simp only [go_sem,coe,zaa,Nat.reduceAdd,Nat.reduceSub,Nat.reduceMul,Int.reduceToNat,reduceCtorEq,↓reduceIte,Int.reducePow,Nat.reducePow,Int.reduceMod,Nat.reduceLeDiff,Int.reduceLE,Int.reduceNe,Int.reduceEq,Nat.reduceEqDiff,Nat.reduceLT,Nat.reduceBEq,ty,noS,d1,d2]
   · have d1 : decide (d = d') = false := decide_eq_false h1
     simp only [go_sem,coe,zaa,Nat.reduceAdd,Nat.reduceSub,Nat.reduceMul,Int.reduceToNat,reduceCtorEq,↓reduceIte,Int.reducePow,Nat.reducePow,Int.reduceMod,Nat.reduceLeDiff,Int.reduceLE,Int.reduceNe,Int.reduceEq,Nat.reduceEqDiff,Nat.reduceLT,Nat.reduceBEq,ty,noS,d1]
 · exact hp.elim
end
end Go.Proofs.Ytihbcgbmlecpbaa
namespace Go.Proofs.Ytihbcgbmlecpbaa
open Ax
section
set_option maxRecDepth 100000
set_option maxHeartbeats 4000000 in
theorem ruses22_sound : zaq Try.prog 49 usesS := by
 refine zal (S := noS) (T := ty) zau ty_ok zbs Try.func49 (c := Try.f49.body.getD .skip) (by kernel_rfl) (by kernel_rfl) (fun xs pins hp _ => ?_)
 unfold usesS at hp ⊢
 split at hp
 · rename_i k _
   refine ⟨by simp,?_⟩
   unfold Try.f49
   rcases knd_cases k with ⟨h0,h1,h2,h3,h4,h5,h6,h7,h8,h9,h10,h11⟩ | rfl | rfl | rfl | rfl | rfl | rfl | rfl | rfl | rfl | rfl | rfl | rfl
   · have hu : zcq k = [] := by unfold zcq; simp only [h0,h1,h2,h3,h4,h5,h6,h7,h8,h9,h10,h11,if_false]
     have d0 := decide_eq_false h0
     have d1 := decide_eq_false h1
     have d2 := decide_eq_false h2
     have d3 := decide_eq_false h3
     have d4 := decide_eq_false h4
     have d5 := decide_eq_false h5
     have d6 := decide_eq_false h6
     have d7 := decide_eq_false h7
     have d8 := decide_eq_false h8
     have d9 := decide_eq_false h9
     have d10 := decide_eq_false h10
     have d11 := decide_eq_false h11
     simp only [go_sem,coe,zaa,Nat.reduceAdd,Nat.reduceSub,Nat.reduceMul,Int.reduceToNat,reduceCtorEq,↓reduceIte,Int.reducePow,Nat.reducePow,Int.reduceMod,Nat.reduceLeDiff,Int.reduceLE,Int.reduceNe,Int.reduceEq,Nat.reduceEqDiff,Nat.reduceLT,Nat.reduceBEq,ty,noS,hu,d0,d1,d2,d3,d4,d5,d6,d7,d8,d9,d10,d11]
   all_goals simp only [go_sem,coe,zaa,Nat.reduceAdd,Nat.reduceSub,Nat.reduceMul,Int.reduceToNat,reduceCtorEq,↓reduceIte,Int.reducePow,Nat.reducePow,Int.reduceMod,Nat.reduceLeDiff,Int.reduceLE,Int.reduceNe,Int.reduceEq,Nat.reduceEqDiff,Nat.reduceLT,Nat.reduceBEq,ty,noS,zcq,Int.reduceEq,decide_true,decide_false,if_true,if_false]
 · exact hp.elim
end
end Go.Proofs.Ytihbcgbmlecpbaa
namespace Go.Proofs.Ytihbcgbmlecpbaa
open Ax
def hasL (s : List UInt8) (c : Int) : Bool := s.any fun b => decide ((b.toNat : Int) = c)
def hasS : zak
 | [.str s,.w (.int .u8 c)],[] => ⟨s.length ≤ 1000000,.w (.bool (hasL s c)),[]⟩
 | _,_ => zbd
section
set_option maxRecDepth 100000
set_option maxHeartbeats 2000000 in
theorem has22_sound : zaq Try.prog 72 hasS := by
 refine zbp (S := noS) (T := ty) zau ty_ok zbs Try.func72 (c := Try.f72.body.getD .skip) (by kernel_rfl) (by kernel_rfl) (fun xs pins hp _ => ?_)
 unfold hasS at hp ⊢
 split at hp
 · rename_i s c _
   have hs : s.length ≤ 1000000 := hp
   refine ⟨by simp,?_⟩
   unfold Try.f72
   simp only [go_sem,coe,zaa,Nat.reduceAdd,Nat.reduceSub,Nat.reduceMul,Int.reduceToNat,reduceCtorEq,↓reduceIte,Int.reducePow,Nat.reducePow,Int.reduceMod,Nat.reduceLeDiff,Int.reduceLE,Int.reduceNe,Int.reduceEq,Nat.reduceEqDiff,Nat.reduceLT,Nat.reduceBEq,ty,noS]
   refine zdh ⟨fun m σ => ∃ i : Nat,m = s.length - i ∧ i ≤ s.length ∧ hasL (s.drop i) c = hasL s c ∧
     σ = ⟨[.str s,.w (.int .u8 c),.junk,.junk,.junk,.w (.int .i64 i),.junk,.junk,.junk,.junk,.junk,.junk,.junk,.junk,.junk,.junk,.junk],[],4⟩,?_,?_⟩
   · refine ⟨_,_,zaf [0,1,2,3] rfl rfl rfl ?_ ?_,0,rfl,by omega,rfl,rfl⟩
     · simp only [ssT,zai,zaj,setSlot,gOf,AV.ren,renL,Blk.ren,Ax.look,Ax.put,reduceCtorEq,↓reduceIte,Nat.reduceEqDiff,Nat.reduceLT,Nat.reduceAdd,List.length_append,List.length_cons,List.length_nil,Option.some.injEq]; try simp
     · simp only [ssT,zai,zaj,setSlot,gOf,AV.ren,renL,Blk.ren,Ax.look,Ax.put,reduceCtorEq,↓reduceIte,Nat.reduceEqDiff,Nat.reduceLT,Nat.reduceAdd,List.length_append,List.length_cons,List.length_nil,Option.some.injEq]
   · rintro m σ ⟨i,rfl,hi,hh,rfl⟩
     by_cases hil : i < s.length
     · have d1 : decide ((i : Int) < s.length) = true := decide_eq_true (by omega)
       have e1 : ((i : Int) + 1 + 9223372036854775808) % 18446744073709551616 - 9223372036854775808 = ((i + 1 : Nat) : Int) := by omega
       have eg : s.getD i 0 = s[i] := by simp [hil]
       rw [List.drop_eq_getElem_cons hil] at hh
       have hh : (decide ((s[i].toNat : Int) = c) || hasL (s.drop (i + 1)) c) = hasL s c := hh
       by_cases hc : (s[i].toNat : Int) = c
       · have d2 := decide_eq_true hc
         rw [d2,Bool.true_or] at hh
         rw [← hh]
         simp only [go_sem,coe,zaa,Nat.reduceAdd,Nat.reduceSub,Nat.reduceMul,Int.reduceToNat,reduceCtorEq,↓reduceIte,Int.reducePow,Nat.reducePow,Int.reduceMod,Nat.reduceLeDiff,Int.reduceLE,Int.reduceNe,Int.reduceEq,Nat.reduceEqDiff,Nat.reduceLT,Nat.reduceBEq,ty,noS,d1,eg,d2,Int.toNat_natCast]
         refine ⟨by omega,_,Weak.refl _,?_⟩
         simp only [go_sem,coe,zaa,Nat.reduceAdd,Nat.reduceSub,Nat.reduceMul,Int.reduceToNat,reduceCtorEq,↓reduceIte,Int.reducePow,Nat.reducePow,Int.reduceMod,Nat.reduceLeDiff,Int.reduceLE,Int.reduceNe,Int.reduceEq,Nat.reduceEqDiff,Nat.reduceLT,Nat.reduceBEq,ty,noS]
         exact zba 4 rfl
       · have d2 := decide_eq_false hc
         rw [d2,Bool.false_or] at hh
         simp only [go_sem,coe,zaa,Nat.reduceAdd,Nat.reduceSub,Nat.reduceMul,Int.reduceToNat,reduceCtorEq,↓reduceIte,Int.reducePow,Nat.reducePow,Int.reduceMod,Nat.reduceLeDiff,Int.reduceLE,Int.reduceNe,Int.reduceEq,Nat.reduceEqDiff,Nat.reduceLT,Nat.reduceBEq,ty,noS,d1,eg,d2,e1,Int.toNat_natCast]
         refine ⟨by omega,s.length - (i + 1),_,by omega,zaf [0,1,2,3] rfl rfl rfl ?_ ?_,i + 1,rfl,by omega,hh,rfl⟩
         · simp only [ssT,zai,zaj,setSlot,gOf,AV.ren,renL,Blk.ren,Ax.look,Ax.put,reduceCtorEq,↓reduceIte,Nat.reduceEqDiff,Nat.reduceLT,Nat.reduceAdd,List.length_append,List.length_cons,List.length_nil,Option.some.injEq]
         · simp only [ssT,zai,zaj,setSlot,gOf,AV.ren,renL,Blk.ren,Ax.look,Ax.put,reduceCtorEq,↓reduceIte,Nat.reduceEqDiff,Nat.reduceLT,Nat.reduceAdd,List.length_append,List.length_cons,List.length_nil,Option.some.injEq]
     · have d1 : decide ((i : Int) < s.length) = false := decide_eq_false (by omega)
       rw [List.drop_of_length_le (by omega)] at hh
       have hh : false = hasL s c := hh
       rw [← hh]
       simp only [go_sem,coe,zaa,Nat.reduceAdd,Nat.reduceSub,Nat.reduceMul,Int.reduceToNat,reduceCtorEq,↓reduceIte,Int.reducePow,Nat.reducePow,Int.reduceMod,Nat.reduceLeDiff,Int.reduceLE,Int.reduceNe,Int.reduceEq,Nat.reduceEqDiff,Nat.reduceLT,Nat.reduceBEq,ty,noS,d1]
       refine ⟨_,Weak.refl _,?_⟩
       simp only [go_sem,coe,zaa,Nat.reduceAdd,Nat.reduceSub,Nat.reduceMul,Int.reduceToNat,reduceCtorEq,↓reduceIte,Int.reducePow,Nat.reducePow,Int.reduceMod,Nat.reduceLeDiff,Int.reduceLE,Int.reduceNe,Int.reduceEq,Nat.reduceEqDiff,Nat.reduceLT,Nat.reduceBEq,ty,noS]
       exact zba 4 rfl
 · exact hp.elim
end
theorem hs22_0 : hasL [116] 116 = true ∧ hasL [116] 105 = false ∧ hasL [116] 112 = false ∧ hasL [116] 99 = false ∧ hasL [116] 102 = false ∧ hasL [116] 111 = false ∧ hasL [116] 109 = false ∧ hasL [116] 119 = false ∧ hasL [116] 103 = false ∧ hasL [116] 107 = false ∧ hasL [116] 110 = false := by decide +kernel
theorem hs22_1 : hasL [103,107] 116 = false ∧ hasL [103,107] 105 = false ∧ hasL [103,107] 112 = false ∧ hasL [103,107] 99 = false ∧ hasL [103,107] 102 = false ∧ hasL [103,107] 111 = false ∧ hasL [103,107] 109 = false ∧ hasL [103,107] 119 = false ∧ hasL [103,107] 103 = true ∧ hasL [103,107] 107 = true ∧ hasL [103,107] 110 = false := by decide +kernel
theorem hs22_2 : hasL [103,107,110] 116 = false ∧ hasL [103,107,110] 105 = false ∧ hasL [103,107,110] 112 = false ∧ hasL [103,107,110] 99 = false ∧ hasL [103,107,110] 102 = false ∧ hasL [103,107,110] 111 = false ∧ hasL [103,107,110] 109 = false ∧ hasL [103,107,110] 119 = false ∧ hasL [103,107,110] 103 = true ∧ hasL [103,107,110] 107 = true ∧ hasL [103,107,110] 110 = true := by decide +kernel
theorem hs22_3 : hasL [116,105,103] 116 = true ∧ hasL [116,105,103] 105 = true ∧ hasL [116,105,103] 112 = false ∧ hasL [116,105,103] 99 = false ∧ hasL [116,105,103] 102 = false ∧ hasL [116,105,103] 111 = false ∧ hasL [116,105,103] 109 = false ∧ hasL [116,105,103] 119 = false ∧ hasL [116,105,103] 103 = true ∧ hasL [116,105,103] 107 = false ∧ hasL [116,105,103] 110 = false := by decide +kernel
theorem hs22_4 : hasL [116,105,119] 116 = true ∧ hasL [116,105,119] 105 = true ∧ hasL [116,105,119] 112 = false ∧ hasL [116,105,119] 99 = false ∧ hasL [116,105,119] 102 = false ∧ hasL [116,105,119] 111 = false ∧ hasL [116,105,119] 109 = false ∧ hasL [116,105,119] 119 = true ∧ hasL [116,105,119] 103 = false ∧ hasL [116,105,119] 107 = false ∧ hasL [116,105,119] 110 = false := by decide +kernel
theorem hs22_5 : hasL [116,112,99] 116 = true ∧ hasL [116,112,99] 105 = false ∧ hasL [116,112,99] 112 = true ∧ hasL [116,112,99] 99 = true ∧ hasL [116,112,99] 102 = false ∧ hasL [116,112,99] 111 = false ∧ hasL [116,112,99] 109 = false ∧ hasL [116,112,99] 119 = false ∧ hasL [116,112,99] 103 = false ∧ hasL [116,112,99] 107 = false ∧ hasL [116,112,99] 110 = false := by decide +kernel
theorem hs22_6 : hasL [116,103,107,110] 116 = true ∧ hasL [116,103,107,110] 105 = false ∧ hasL [116,103,107,110] 112 = false ∧ hasL [116,103,107,110] 99 = false ∧ hasL [116,103,107,110] 102 = false ∧ hasL [116,103,107,110] 111 = false ∧ hasL [116,103,107,110] 109 = false ∧ hasL [116,103,107,110] 119 = false ∧ hasL [116,103,107,110] 103 = true ∧ hasL [116,103,107,110] 107 = true ∧ hasL [116,103,107,110] 110 = true := by decide +kernel
theorem hs22_7 : hasL [116,105,102,98] 116 = true ∧ hasL [116,105,102,98] 105 = true ∧ hasL [116,105,102,98] 112 = false ∧ hasL [116,105,102,98] 99 = false ∧ hasL [116,105,102,98] 102 = true ∧ hasL [116,105,102,98] 111 = false ∧ hasL [116,105,102,98] 109 = false ∧ hasL [116,105,102,98] 119 = false ∧ hasL [116,105,102,98] 103 = false ∧ hasL [116,105,102,98] 107 = false ∧ hasL [116,105,102,98] 110 = false := by decide +kernel
theorem hs22_8 : hasL [116,105,111,109] 116 = true ∧ hasL [116,105,111,109] 105 = true ∧ hasL [116,105,111,109] 112 = false ∧ hasL [116,105,111,109] 99 = false ∧ hasL [116,105,111,109] 102 = false ∧ hasL [116,105,111,109] 111 = true ∧ hasL [116,105,111,109] 109 = true ∧ hasL [116,105,111,109] 119 = false ∧ hasL [116,105,111,109] 103 = false ∧ hasL [116,105,111,109] 107 = false ∧ hasL [116,105,111,109] 110 = false := by decide +kernel
theorem hs22_9 : hasL [116,105,111,103,107,110] 116 = true ∧ hasL [116,105,111,103,107,110] 105 = true ∧ hasL [116,105,111,103,107,110] 112 = false ∧ hasL [116,105,111,103,107,110] 99 = false ∧ hasL [116,105,111,103,107,110] 102 = false ∧ hasL [116,105,111,103,107,110] 111 = true ∧ hasL [116,105,111,103,107,110] 109 = false ∧ hasL [116,105,111,103,107,110] 119 = false ∧ hasL [116,105,111,103,107,110] 103 = true ∧ hasL [116,105,111,103,107,110] 107 = true ∧ hasL [116,105,111,103,107,110] 110 = true := by decide +kernel
def Sonly22 (f : FuncId) : Option zak :=
 match f with
 | 49 => some usesS
 | 72 => some hasS
 | _ => none
theorem Sonly22_ok : Fns Try.prog Sonly22 := by
 intro f s h
 unfold Sonly22 at h
 split at h
 · injection h with h; subst h; exact ⟨⟨_,Try.func49,by kernel_rfl,by kernel_rfl⟩,ruses22_sound⟩
 · injection h with h; subst h; exact ⟨⟨_,Try.func72,by kernel_rfl,by kernel_rfl⟩,has22_sound⟩
 · cases h
def only22Pl : Plan := fun id => match id with
 | 8 => some [(2,5),(3,5)]
 | 10 => some [(2,5),(3,5)]
 | _ => none
section
set_option maxRecDepth 100000
set_option maxHeartbeats 40000000 in
theorem only22_sound : zaq Try.prog 47 zcy := by
 refine zev (S := Sonly22) (T := ty) (pl := only22Pl) zau ty_ok Sonly22_ok Try.func47 (c := Try.f47.body.getD .skip) (by kernel_rfl) (by kernel_rfl) (fun xs pins hp _ => ?_)
 unfold zcy at hp ⊢
 split at hp
 · rename_i k t i p c f o m w g mb n b1 b2 b3 b4 b5 xs fl _
   have hk : 0 ≤ k ∧ k ≤ 11 := hp
   refine ⟨by simp,?_⟩
   rcases knd_le k hk with rfl | rfl | rfl | rfl | rfl | rfl | rfl | rfl | rfl | rfl | rfl | rfl
   all_goals
     unfold Try.f47
     simp only [go_sem,coe,zac,Nat.reduceAdd,Nat.reduceSub,Nat.reduceMul,Int.reduceToNat,reduceCtorEq,↓reduceIte,Int.reducePow,Nat.reducePow,Int.reduceMod,Nat.reduceLeDiff,Int.reduceLE,Int.reduceNe,Int.reduceEq,Nat.reduceEqDiff,Nat.reduceLT,Nat.reduceBEq,List.map_cons,List.map_nil,List.toList_toArray,Array.toList_append,Option.toArray_some,Option.toArray_none,Bool.and_self,ty,Sonly22,only22Pl,usesS,zcq,hasS,fillS,Int.reduceEq,Int.reduceLT,Int.reduceLE,or_self,or_false,false_or,or_true,true_or,if_true,if_false,hs22_0,hs22_1,hs22_2,hs22_3,hs22_4,hs22_5,hs22_6,hs22_7,hs22_8,hs22_9]
     refine ⟨_,Weak.refl _,?_⟩
     simp only [go_sem,coe,zac,Nat.reduceAdd,Nat.reduceSub,Nat.reduceMul,Int.reduceToNat,reduceCtorEq,↓reduceIte,Int.reducePow,Nat.reducePow,Int.reduceMod,Nat.reduceLeDiff,Int.reduceLE,Int.reduceNe,Int.reduceEq,Nat.reduceEqDiff,Nat.reduceLT,Nat.reduceBEq,List.map_cons,List.map_nil,List.toList_toArray,Array.toList_append,Option.toArray_some,Option.toArray_none,Bool.and_self,ty,onlyQ,Int.reduceEq,Int.reduceLT,Int.reduceLE,or_self,or_false,false_or,or_true,true_or,if_true,if_false]
 · exact hp.elim
end
end Go.Proofs.Ytihbcgbmlecpbaa
namespace Go.Proofs.Ytihbcgbmlecpbaa
open Ax
section
set_option maxRecDepth 100000
def rputPl : Plan := fun id => match id with
 | 9 => some [(5,6),(5,7)]
 | _ => none
set_option maxHeartbeats 1000000 in
theorem rrecput_sound : zaq Try.prog 85 rputS := by
 refine zev (S := Srrput) (T := ty) (pl := rputPl) zau ty_ok Srrput_ok Try.func85 (c := Try.f85.body.getD .skip) (by kernel_rfl) (by kernel_rfl) (fun xs pins hp _ => ?_)
 unfold rputS at hp ⊢
 split at hp
 · rename_i d t k key dd val _
   refine ⟨by simp,?_⟩
   unfold Try.f85
   by_cases h0 : rchk d t k key dd val = 0
   · have hc := zfn d t k key dd val
     unfold rA rB at hc
     have hd : (-9223372036854775808 ≤ d ∧ d ≤ 9223372036854775807) ∧ (-9223372036854775808 ≤ t ∧ t ≤ 9223372036854775807) ∧ key.length ≤ 64 ∧ val.length ≤ 512 := by omega
     obtain ⟨hd1,hd2,hd3,hd4⟩ := hd
     clear hc
     have z1 := zda d hd1.1 hd1.2
     have z2 := zda t hd2.1 hd2.2
     have l1 := zay (zz d).toNat (by omega)
     have l2 := zay (zz t).toNat (by omega)
     have l3 := zdt key (by omega)
     have l4 := zdt val (by omega)
     have k3 : key.length ≤ 1000000 := by omega
     have k4 : val.length ≤ 1000000 := by omega
     generalize hP1 : putU (zz d).toNat = P1 at *
     generalize hP2 : putU (zz t).toNat = P2 at *
     generalize hP3 : zaw key = P3 at *
     generalize hP4 : zaw val = P4 at *
     cases k <;> cases dd
     all_goals
       have f0 : flagI false false = 0 := rfl
       have f1 : flagI true false = 1 := rfl
       have f2 : flagI false true = 2 := rfl
       have f3 : flagI true true = 3 := rfl
       simp only [go_sem,coe,zac,Nat.reduceAdd,Nat.reduceSub,Nat.reduceMul,Int.reduceToNat,reduceCtorEq,↓reduceIte,Int.reducePow,Nat.reducePow,Int.reduceMod,Nat.reduceLeDiff,Int.reduceLE,Int.reduceNe,Int.reduceEq,Nat.reduceEqDiff,Nat.reduceLT,Nat.reduceBEq,List.map_cons,List.map_nil,List.toList_toArray,Array.toList_append,Option.toArray_some,Option.toArray_none,Bool.and_self,ty,Srrput,rputPl,zbh,flagS,putS,zcd,h0,hd1,hd2,k3,k4,hP1,hP2,hP3,hP4,List.take_length,f0,f1,f2,f3,Int.reduceAdd]
       have ht : top = 4294967296 := rfl
       repeat (refine And.intro (by omega) ?_)
       exact put_ends rfl rfl rfl (by simp only [List.length_append,List.length_cons,List.length_nil]; omega) (by simp [recB,h0,recL,hP1,hP2,hP3,hP4,f0,f1,f2,f3]) rfl
   · have d0 : decide (rchk d t k key dd val = 0) = false := decide_eq_false h0
     simp only [go_sem,coe,zac,Nat.reduceAdd,Nat.reduceSub,Nat.reduceMul,Int.reduceToNat,reduceCtorEq,↓reduceIte,Int.reducePow,Nat.reducePow,Int.reduceMod,Nat.reduceLeDiff,Int.reduceLE,Int.reduceNe,Int.reduceEq,Nat.reduceEqDiff,Nat.reduceLT,Nat.reduceBEq,List.map_cons,List.map_nil,List.toList_toArray,Array.toList_append,Option.toArray_some,Option.toArray_none,Bool.and_self,ty,Srrput,rputPl,zbh,d0]
     refine ⟨_,zdl 2 (.sb [] false) (fun _ _ _ h => h.nilb),?_⟩
     simp only [go_sem,coe,zac,Nat.reduceAdd,Nat.reduceSub,Nat.reduceMul,Int.reduceToNat,reduceCtorEq,↓reduceIte,Int.reducePow,Nat.reducePow,Int.reduceMod,Nat.reduceLeDiff,Int.reduceLE,Int.reduceNe,Int.reduceEq,Nat.reduceEqDiff,Nat.reduceLT,Nat.reduceBEq,List.map_cons,List.map_nil,List.toList_toArray,Array.toList_append,Option.toArray_some,Option.toArray_none,Bool.and_self,ty,recB,if_neg h0]
 · exact hp.elim
end
end Go.Proofs.Ytihbcgbmlecpbaa
namespace Go.Proofs.Ytihbcgbmlecpbaa
open Ax
theorem put1_ends {T : zae} {sl : List AV} {H : Heap} {nx id n : Nat} {bs rs : List UInt8} {q : Prop} (h2 : slot sl 2 = .ms id 1 0 n) (hl : Ax.look H id = some (.b bs)) (hn : n = bs.length) (hr : rs = bs) :
   EndsW T [.tmp 2] [] ⟨q,.sb rs false,[]⟩ .ret ⟨sl,H,nx⟩ := by
 subst hn hr
 have hs : slot (fzL id rs sl) 2 = .sb rs false := by
   rw [slot_fzL,h2]
   simp [AV.fz]
 refine ⟨_,(weak_fzs 2 h2 hl).trans (zdl 2 (.sb rs false) (fun w loc v h => by rwa [hs] at h)),?_⟩
 have e2 : slot (setSlot (fzL id rs sl) 2 (.sb rs false)) 2 = .sb rs false := slot_set_eq _ _ _ (by rw [hs]; simp)
 simp only [Ax.Ends,Ax.rvals,EndsX,rone,e2,AV.ids,idsL,newIds,upTo,nodup,pinsOf,List.nil_append,AV.ren,renL,and_self]
def rlayS4 : zak
 | [.agg [.w (.int .i64 b),.w (.int .i64 c),.w (.int .i64 p),.w (.int .i64 e),.w (.int .i64 s),.sg 6 xs f]],[] =>
     ⟨xs.length ≤ 40 ∧ okI b ∧ okI c ∧ okI p ∧ okI e ∧ okI s ∧ ∃ rs : List Rec,xs = rs.map rv,.sb (batL b c p e s (xs.map rrec)) false,[]⟩
 | _,_ => zbd
def Srlay4 (f : FuncId) : Option zak :=
 match f with
 | 26 => some putS
 | 85 => some rputS
 | _ => none
theorem Srlay4_ok : Fns Try.prog Srlay4 := by
 intro f s h
 unfold Srlay4 at h
 split at h
 · injection h with h; subst h; exact ⟨⟨_,Try.func26,by kernel_rfl,by kernel_rfl⟩,rput_sound⟩
 · injection h with h; subst h; exact ⟨⟨_,Try.func85,by kernel_rfl,by kernel_rfl⟩,rrecput_sound⟩
 · cases h
theorem headL_len : ∀ (l : List Int),(∀ x ∈ l,okI x) → (zdr l).length ≤ 10 * l.length
 | [],_ => Nat.le_refl _
 | n :: l,h => by
   have h1 := headL_len l (fun x hx => h x (List.mem_cons_of_mem _ hx))
   have h2 := h n (by simp)
   have z := zda n h2.1 h2.2
   have h3 := zay (zz n).toNat (by omega)
   unfold zdr at h1 ⊢
   rw [List.flatMap_cons,List.length_append,List.length_cons]; omega
section
set_option maxRecDepth 100000
set_option maxHeartbeats 2000000 in
theorem rlay4_sound : zaq Try.prog 74 rlayS4 := by
 refine zbp (S := Srlay4) (T := ty) zau ty_ok Srlay4_ok Try.func74 (c := Try.f74.body.getD .skip) (by kernel_rfl) (by kernel_rfl) (fun xs pins hp _ => ?_)
 unfold rlayS4 at hp ⊢
 split at hp
 · rename_i b c p e s xs f _
   obtain ⟨hL,hb,hc,hpp,he,hs,rs,rfl⟩ := hp
   have hl4 : (rs.map rv).length = rs.length := by simp
   rw [hl4] at hL
   refine ⟨by simp,?_⟩
   unfold Try.f74
   obtain ⟨L,hLL⟩ : ∃ L,nums b c p e s rs.length = L := ⟨_,rfl⟩
   have hlen : L.length = 6 := by rw [← hLL]; rfl
   have hrg : ∀ x ∈ L,okI x := by
     rw [← hLL]; unfold nums
     intro x hx
     simp only [List.mem_cons,List.not_mem_nil,or_false] at hx
     rcases hx with rfl | rfl | rfl | rfl | rfl | rfl
     · exact hb
     · exact hc
     · exact hpp
     · exact he
     · exact hs
     · unfold okI; omega
   have hL2 : [b,c,p,e,s,(rs.length : Int)] = L := hLL
   simp only [go_sem,zaa,Nat.reduceAdd,Nat.reduceSub,Nat.reduceMul,Int.reduceToNat,reduceCtorEq,↓reduceIte,Int.reducePow,Nat.reducePow,Int.reduceMod,Nat.reduceLeDiff,Int.reduceLE,Int.reduceNe,Int.reduceEq,Nat.reduceEqDiff,Nat.reduceLT,Nat.reduceBEq,ty,Srlay4,hl4,hL,hL2,zag]
   have ht : top = 4294967296 := rfl
   refine zco ⟨fun m σ => ∃ k : Nat,m = 6 - k ∧ k ≤ 6 ∧
       σ = ⟨[.agg [.w (.int .i64 b),.w (.int .i64 c),.w (.int .i64 p),.w (.int .i64 e),.w (.int .i64 s),.sg 6 (rs.map rv) f],.rf 4 6 0 0,.junk,.ms 6 1 0 (zdr (L.take k)).length,.ms 5 1 0 6,.w (.int .i64 k),.junk,.junk,.junk,.junk,.junk,.junk,.junk,.junk,.junk,.junk,.junk,.junk,.junk,.junk,.junk,.junk,.junk,.junk,.junk,.junk,.junk,.junk,.junk,.junk,.junk,.junk,.junk,.junk,.junk,.junk,.junk,.junk,.junk,.junk,.junk,.junk,.junk,.junk,.junk,.junk,.junk,.junk,.junk,.junk,.junk,.junk,.junk,.junk,.junk,.junk],[(4,.g 6 [.agg [.w (.int .i64 b),.w (.int .i64 c),.w (.int .i64 p),.w (.int .i64 e),.w (.int .i64 s),.sg 6 (rs.map rv) f]]),(5,.i L),(6,.b (zdr (L.take k)))],7⟩,?_,?_⟩
   · refine ⟨_,_,(zer 3 1 (.b []) rfl (by exact trivial)).trans (zaf [0,1,2,3,4,132,156] rfl rfl rfl ?_ ?_),0,rfl,by omega,rfl⟩
     · simp only [ssT,zai,zaj,setSlot,gOf,AV.ren,renL,Blk.ren,Ax.look,Ax.put,reduceCtorEq,↓reduceIte,Nat.reduceEqDiff,Nat.reduceLT,Nat.reduceAdd,List.length_append,List.length_cons,List.length_nil,Option.some.injEq]; first | exact ⟨by simp [zdr],rfl,rfl⟩ | (simp [zdr]; done)
     · simp only [ssT,zai,zaj,setSlot,gOf,AV.ren,renL,Blk.ren,Ax.look,Ax.put,reduceCtorEq,↓reduceIte,Nat.reduceEqDiff,Nat.reduceLT,Nat.reduceAdd,List.length_append,List.length_cons,List.length_nil,Option.some.injEq]; rfl
   · rintro m σ ⟨k,rfl,hk,rfl⟩
     have e1 : ((k : Int) + 1 + 9223372036854775808) % 18446744073709551616 - 9223372036854775808 = ((k + 1 : Nat) : Int) := by omega
     by_cases hk6 : k < 6
     · have d1 : decide ((k : Int) < ((6 : Nat) : Int)) = true := decide_eq_true (by omega)
       have hkl : k < L.length := by omega
       obtain ⟨N,hN⟩ : ∃ N,L.getD k 0 = N := ⟨_,rfl⟩
       have hNe : L[k] = N := by rw [← hN]; simp [hkl]
       obtain ⟨hN1,hN2⟩ := hrg N (hNe ▸ List.getElem_mem hkl)
       have z := zda N hN1 hN2
       have hPl := zay (zz N).toNat (by omega)
       have hsn : zdr (L.take (k + 1)) = zdr (L.take k) ++ putU (zz N).toNat := by
         rw [List.take_succ_eq_append_getElem hkl,headL_snoc,hNe]
       have hhl := headL_len (L.take k) (fun x hx => hrg x (List.mem_of_mem_take hx))
       rw [List.length_take] at hhl
       obtain ⟨P,hP⟩ : ∃ P,putU (zz N).toNat = P := ⟨_,rfl⟩
       rw [hP] at hsn hPl
       simp only [go_sem,zaa,Nat.reduceAdd,Nat.reduceSub,Nat.reduceMul,Int.reduceToNat,reduceCtorEq,↓reduceIte,Int.reducePow,Nat.reducePow,Int.reduceMod,Nat.reduceLeDiff,Int.reduceLE,Int.reduceNe,Int.reduceEq,Nat.reduceEqDiff,Nat.reduceLT,Nat.reduceBEq,ty,Srlay4,putS,d1,hN,hP,hN1,hN2,e1,hlen,List.take_length,Int.toNat_natCast,Nat.zero_add]
       repeat (refine And.intro (by omega) ?_)
       refine ⟨6 - (k + 1),_,by omega,zaf [0,1,2,3,4,5,87] rfl rfl rfl ?_ ?_,k + 1,rfl,by omega,rfl⟩
       · simp only [ssT,zai,zaj,setSlot,gOf,AV.ren,renL,Blk.ren,Ax.look,Ax.put,reduceCtorEq,↓reduceIte,Nat.reduceEqDiff,Nat.reduceLT,Nat.reduceAdd,List.length_append,List.length_cons,List.length_nil,Option.some.injEq,hsn,List.length_append]
       · simp only [ssT,zai,zaj,setSlot,gOf,AV.ren,renL,Blk.ren,Ax.look,Ax.put,reduceCtorEq,↓reduceIte,Nat.reduceEqDiff,Nat.reduceLT,Nat.reduceAdd,List.length_append,List.length_cons,List.length_nil,Option.some.injEq,hsn]
     · have d1 : decide ((k : Int) < ((6 : Nat) : Int)) = false := decide_eq_false (by omega)
       have hk2 : L.take k = L := List.take_of_length_le (by omega)
       have hHl := headL_len L hrg
       simp only [go_sem,zaa,Nat.reduceAdd,Nat.reduceSub,Nat.reduceMul,Int.reduceToNat,reduceCtorEq,↓reduceIte,Int.reducePow,Nat.reducePow,Int.reduceMod,Nat.reduceLeDiff,Int.reduceLE,Int.reduceNe,Int.reduceEq,Nat.reduceEqDiff,Nat.reduceLT,Nat.reduceBEq,ty,Srlay4,d1,hk2]
       refine zco ⟨fun m σ => ∃ i : Nat,m = rs.length - i ∧ i ≤ rs.length ∧
           σ = ⟨[.agg [.w (.int .i64 b),.w (.int .i64 c),.w (.int .i64 p),.w (.int .i64 e),.w (.int .i64 s),.sg 6 (rs.map rv) f],.rf 4 6 0 0,.junk,.ms 5 1 0 (zdr L ++ (rs.take i).flatMap rb).length,.junk,.junk,.w (.int .i64 i),.junk,.junk,.junk,.junk,.junk,.junk,.junk,.junk,.junk,.junk,.junk,.junk,.junk,.junk,.junk,.junk,.junk,.junk,.junk,.junk,.junk,.junk,.junk,.junk,.junk,.junk,.junk,.junk,.junk,.junk,.junk,.junk,.junk,.junk,.junk,.junk,.junk,.junk,.junk,.junk,.junk,.junk,.junk,.junk,.junk,.junk,.junk,.junk,.junk],[(4,.g 6 [.agg [.w (.int .i64 b),.w (.int .i64 c),.w (.int .i64 p),.w (.int .i64 e),.w (.int .i64 s),.sg 6 (rs.map rv) f]]),(5,.b (zdr L ++ (rs.take i).flatMap rb))],6⟩,?_,?_⟩
       · refine ⟨_,_,zaf [0,1,2,3,4,6] rfl rfl rfl ?_ ?_,0,rfl,by omega,rfl⟩
         · simp only [ssT,zai,zaj,setSlot,gOf,AV.ren,renL,Blk.ren,Ax.look,Ax.put,reduceCtorEq,↓reduceIte,Nat.reduceEqDiff,Nat.reduceLT,Nat.reduceAdd,List.length_append,List.length_cons,List.length_nil,Option.some.injEq]; simp
         · simp only [ssT,zai,zaj,setSlot,gOf,AV.ren,renL,Blk.ren,Ax.look,Ax.put,reduceCtorEq,↓reduceIte,Nat.reduceEqDiff,Nat.reduceLT,Nat.reduceAdd,List.length_append,List.length_cons,List.length_nil,Option.some.injEq]; simp
       · rintro m σ ⟨i,rfl,hi,rfl⟩
         have e2 : ((i : Int) + 1 + 9223372036854775808) % 18446744073709551616 - 9223372036854775808 = ((i + 1 : Nat) : Int) := by omega
         have hbl := rbs_length (rs.take i)
         rw [List.length_take] at hbl
         obtain ⟨O,hO⟩ : ∃ O,zdr L ++ (rs.take i).flatMap rb = O := ⟨_,rfl⟩
         have hOl : O.length ≤ 60 + 700 * 40 := by rw [← hO,List.length_append]; omega
         by_cases hil : i < rs.length
         · have d3 : decide ((i : Int) < rs.length) = true := decide_eq_true (by omega)
           have hsl := zec rv rs i hil
           have htk : (rs.take (i + 1)).flatMap rb = (rs.take i).flatMap rb ++ rb rs[i] := by
             rw [List.take_succ_eq_append_getElem hil,List.flatMap_append,List.flatMap_cons,List.flatMap_nil,List.append_nil]
           obtain ⟨R,hR⟩ : ∃ R,rs[i] = R := ⟨_,rfl⟩
           rw [hR] at hsl htk
           simp only [rv] at hsl
           have hRl := rb_length R
           have hrb : recB R.d R.t R.k R.key R.dd R.val = rb R := rfl
           have htk2 : zdr L ++ (rs.take (i + 1)).flatMap rb = O ++ rb R := by rw [htk,← hO,List.append_assoc]
           have hln2 : (zdr L).length + ((rs.take (i + 1)).flatMap rb).length = O.length + (rb R).length := by rw [← List.length_append,htk2,List.length_append]
           simp only [go_sem,zaa,Nat.reduceAdd,Nat.reduceSub,Nat.reduceMul,Int.reduceToNat,reduceCtorEq,↓reduceIte,Int.reducePow,Nat.reducePow,Int.reduceMod,Nat.reduceLeDiff,Int.reduceLE,Int.reduceNe,Int.reduceEq,Nat.reduceEqDiff,Nat.reduceLT,Nat.reduceBEq,ty,Srlay4,rputS,hrb,hO,hl4,d3,hsl,e2,List.take_length,Int.toNat_natCast]
           repeat (refine And.intro (by omega) ?_)
           refine ⟨rs.length - (i + 1),_,by omega,zaf [0,1,2,3,4,150] rfl rfl rfl ?_ ?_,i + 1,rfl,by omega,rfl⟩
           · simp only [ssT,zai,zaj,setSlot,gOf,AV.ren,renL,Blk.ren,Ax.look,Ax.put,reduceCtorEq,↓reduceIte,Nat.reduceEqDiff,Nat.reduceLT,Nat.reduceAdd,List.length_append,List.length_cons,List.length_nil,Option.some.injEq,htk2,List.length_append,hln2]
           · simp only [ssT,zai,zaj,setSlot,gOf,AV.ren,renL,Blk.ren,Ax.look,Ax.put,reduceCtorEq,↓reduceIte,Nat.reduceEqDiff,Nat.reduceLT,Nat.reduceAdd,List.length_append,List.length_cons,List.length_nil,Option.some.injEq,htk2]
         · have d3 : decide ((i : Int) < rs.length) = false := decide_eq_false (by omega)
           have htk : rs.take i = rs := List.take_of_length_le (by omega)
           have hOe : batL b c p e s rs = O := by unfold batL; rw [hLL,← hO,htk]
           simp only [go_sem,zaa,Nat.reduceAdd,Nat.reduceSub,Nat.reduceMul,Int.reduceToNat,reduceCtorEq,↓reduceIte,Int.reducePow,Nat.reducePow,Int.reduceMod,Nat.reduceLeDiff,Int.reduceLE,Int.reduceNe,Int.reduceEq,Nat.reduceEqDiff,Nat.reduceLT,Nat.reduceBEq,ty,Srlay4,hO,hl4,d3,zag,hOe]
           exact put1_ends rfl rfl rfl rfl
 · exact hp.elim
end
end Go.Proofs.Ytihbcgbmlecpbaa
namespace Go.Proofs.Ytihbcgbmlecpbaa
open Ax
theorem fld_cases (b c p e s n : Int) :
   (decide (c < 1) = true ∧ bfld b c p e s n = 11) ∨
   (decide (c < 1) = false ∧ decide (32 < c) = true ∧ bfld b c p e s n = 11) ∨
   (decide (c < 1) = false ∧ decide (32 < c) = false ∧ decide (b < 0) = true ∧ bfld b c p e s n = 11) ∨
   (decide (c < 1) = false ∧ decide (32 < c) = false ∧ (4611686018427387903 - c + 9223372036854775808) % 18446744073709551616 - 9223372036854775808 = 4611686018427387903 - c ∧ decide (b < 0) = false ∧ decide (4611686018427387903 - c < b) = true ∧ bfld b c p e s n = 11) ∨
   (decide (c < 1) = false ∧ decide (32 < c) = false ∧ (4611686018427387903 - c + 9223372036854775808) % 18446744073709551616 - 9223372036854775808 = 4611686018427387903 - c ∧ decide (b < 0) = false ∧ decide (4611686018427387903 - c < b) = false ∧
     ((decide (p < 0) = true ∧ bfld b c p e s n = 11) ∨
      (decide (p < 0) = false ∧ decide (1099511627776 < p) = true ∧ bfld b c p e s n = 11) ∨
      (decide (p < 0) = false ∧ decide (1099511627776 < p) = false ∧ decide (e < 0) = true ∧ bfld b c p e s n = 11) ∨
      (decide (p < 0) = false ∧ decide (1099511627776 < p) = false ∧ decide (e < 0) = false ∧ decide (32767 < e) = true ∧ bfld b c p e s n = 11) ∨
      (decide (p < 0) = false ∧ decide (1099511627776 < p) = false ∧ decide (e < 0) = false ∧ decide (32767 < e) = false ∧ decide (s < 0) = true ∧ bfld b c p e s n = 11) ∨
      (decide (p < 0) = false ∧ decide (1099511627776 < p) = false ∧ decide (e < 0) = false ∧ decide (32767 < e) = false ∧ decide (s < 0) = false ∧ decide (2147483647 < s) = true ∧ bfld b c p e s n = 11) ∨
      (decide (p < 0) = false ∧ decide (1099511627776 < p) = false ∧ decide (e < 0) = false ∧ decide (32767 < e) = false ∧ decide (s < 0) = false ∧ decide (2147483647 < s) = false ∧
       ((decide (p = 0) = true ∧ decide (e = 0) = false ∧ bfld b c p e s n = 4) ∨
        (decide (p = 0) = true ∧ decide (e = 0) = true ∧ decide (s = 0) = false ∧ bfld b c p e s n = 4) ∨
        (decide (p = 0) = true ∧ decide (e = 0) = true ∧ decide (s = 0) = true ∧ decide (c < n) = true ∧ bfld b c p e s n = 5) ∨
        (decide (p = 0) = false ∧ decide (c < n) = true ∧ bfld b c p e s n = 5) ∨
        (decide (p = 0) = true ∧ decide (e = 0) = true ∧ decide (s = 0) = true ∧ decide (c < n) = false ∧ bfld b c p e s n = 0) ∨
        (decide (p = 0) = false ∧ decide (c < n) = false ∧ bfld b c p e s n = 0))))) := by
 unfold bfld
 simp only [decide_eq_true_eq,decide_eq_false_iff_not]
 by_cases h0 : c < 1
 · exact .inl ⟨h0,if_pos (by omega)⟩
 by_cases h1 : 32 < c
 · exact .inr (.inl ⟨h0,h1,if_pos (by omega)⟩)
 by_cases h2 : b < 0
 · exact .inr (.inr (.inl ⟨h0,h1,h2,if_pos (by omega)⟩))
 by_cases h3 : 4611686018427387903 - c < b
 · exact .inr (.inr (.inr (.inl ⟨h0,h1,by omega,h2,h3,if_pos (by omega)⟩)))
 refine .inr (.inr (.inr (.inr ⟨h0,h1,by omega,h2,h3,?_⟩)))
 by_cases h4 : p < 0
 · exact .inl ⟨h4,if_pos (by omega)⟩
 by_cases h5 : 1099511627776 < p
 · exact .inr (.inl ⟨h4,h5,if_pos (by omega)⟩)
 by_cases h6 : e < 0
 · exact .inr (.inr (.inl ⟨h4,h5,h6,if_pos (by omega)⟩))
 by_cases h7 : 32767 < e
 · exact .inr (.inr (.inr (.inl ⟨h4,h5,h6,h7,if_pos (by omega)⟩)))
 by_cases h8 : s < 0
 · exact .inr (.inr (.inr (.inr (.inl ⟨h4,h5,h6,h7,h8,if_pos (by omega)⟩))))
 by_cases h9 : 2147483647 < s
 · exact .inr (.inr (.inr (.inr (.inr (.inl ⟨h4,h5,h6,h7,h8,h9,if_pos (by omega)⟩)))))
 refine .inr (.inr (.inr (.inr (.inr (.inr ⟨h4,h5,h6,h7,h8,h9,?_⟩)))))
 rw [if_neg (by omega)]
 by_cases hp : p = 0
 · by_cases he : e = 0
   · by_cases hs : s = 0
     · by_cases hc : c < n
       · exact .inr (.inr (.inl ⟨hp,he,hs,hc,by rw [if_neg (by omega),if_pos hc]⟩))
       · exact .inr (.inr (.inr (.inr (.inl ⟨hp,he,hs,hc,by rw [if_neg (by omega),if_neg hc]⟩))))
     · exact .inr (.inl ⟨hp,he,hs,if_pos (by omega)⟩)
   · exact .inl ⟨hp,he,if_pos (by omega)⟩
 · by_cases hc : c < n
   · exact .inr (.inr (.inr (.inl ⟨hp,hc,by rw [if_neg (by omega),if_pos hc]⟩)))
   · exact .inr (.inr (.inr (.inr (.inr ⟨hp,hc,by rw [if_neg (by omega),if_neg hc]⟩))))
def rchkS4 : zak
 | [.agg [.w (.int .i64 b),.w (.int .i64 c),.w (.int .i64 p),.w (.int .i64 e),.w (.int .i64 s),.sg 6 xs f]],[] =>
     ⟨xs.length ≤ 40 ∧ ∃ rs : List Rec,xs = rs.map rv,.w (.int .i64 (batE b c p e s (xs.map rrec))),[]⟩
 | _,_ => zbd
def rputS4 : zak
 | [.agg [.w (.int .i64 b),.w (.int .i64 c),.w (.int .i64 p),.w (.int .i64 e),.w (.int .i64 s),.sg 6 xs f]],[] => ⟨xs.length ≤ 40 ∧ ∃ rs : List Rec,xs = rs.map rv,
     .tup [.sb (batB b c p e s (xs.map rrec)) false,.w (.int .i64 (batE b c p e s (xs.map rrec)))],[]⟩
 | _,_ => zbd
theorem batE_eq (b c p e s : Int) (rs : List Rec) (h : bfld b c p e s rs.length ≠ 0) : batE b c p e s rs = bfld b c p e s rs.length := if_neg h
def Srchk4 (f : FuncId) : Option zak :=
 match f with
 | 74 => some rlayS4
 | 84 => some zbh
 | _ => none
theorem Srchk4_ok : Fns Try.prog Srchk4 := by
 intro f s h
 unfold Srchk4 at h
 split at h
 · injection h with h; subst h; exact ⟨⟨_,Try.func74,by kernel_rfl,by kernel_rfl⟩,rlay4_sound⟩
 · injection h with h; subst h; exact ⟨⟨_,Try.func84,by kernel_rfl,by kernel_rfl⟩,rrcheck_sound⟩
 · cases h
section
set_option maxRecDepth 100000
set_option maxHeartbeats 4000000 in
theorem rchk4_sound : zaq Try.prog 73 rchkS4 := by
 refine zal (S := Srchk4) (T := ty) zau ty_ok Srchk4_ok Try.func73 (c := Try.f73.body.getD .skip) (by kernel_rfl) (by kernel_rfl) (fun xs pins hp _ => ?_)
 unfold rchkS4 at hp ⊢
 split at hp
 · rename_i b c p e s xs f _
   obtain ⟨hL,rs,rfl⟩ := hp
   have hl4 : (rs.map rv).length = rs.length := by simp
   rw [hl4] at hL
   refine ⟨by simp,?_⟩
   unfold Try.f73
   have hE := batE_eq b c p e s rs
   have n1 : ((11 : Int) ≠ 0) = True := by decide
   have n2 : ((4 : Int) ≠ 0) = True := by decide
   have n3 : ((5 : Int) ≠ 0) = True := by decide
   rcases fld_cases b c p e s rs.length with D | D | D | D | ⟨a0,a1,a2,a3,a4,D | D | D | D | D | D | ⟨a5,a6,a7,a8,a9,a10,D | D | D | D | D | D⟩⟩
   all_goals simp only [go_sem,zaa,Nat.reduceAdd,Nat.reduceSub,Nat.reduceMul,Int.reduceToNat,reduceCtorEq,↓reduceIte,Int.reducePow,Nat.reducePow,Int.reduceMod,Nat.reduceLeDiff,Int.reduceLE,Int.reduceNe,Int.reduceEq,Nat.reduceEqDiff,Nat.reduceLT,Nat.reduceBEq,ty,Srchk4,hl4,zag, *]
   all_goals
     have hF : bfld b c p e s rs.length = 0 := by simp only [D]
     have hz := bfld_zero hF
     clear D hE n1 n2 n3
     refine zco ⟨fun m σ => ∃ (i : Nat) (a : Int),m = rs.length - i ∧ i ≤ rs.length ∧ layE c (-1) rs = layE c a (rs.drop i) ∧
         σ = ⟨[.agg [.w (.int .i64 b),.w (.int .i64 c),.w (.int .i64 p),.w (.int .i64 e),.w (.int .i64 s),.sg 6 (rs.map rv) f],.rf 4 6 0 0,.junk,.w (.int .i64 a),.w (.int .i64 i),.junk,.junk,.junk,.junk,.junk,.junk,.junk,.junk,.junk,.junk,.junk,.junk,.junk,.junk,.junk,.junk,.junk,.junk,.junk,.junk,.junk,.junk,.junk,.junk,.junk,.junk,.junk,.junk,.junk,.junk,.junk,.junk,.junk,.junk,.junk,.junk,.junk,.junk,.junk,.junk,.junk,.junk,.junk,.junk,.junk,.junk,.junk,.junk,.junk,.junk,.junk,.junk,.junk,.junk,.junk,.junk,.junk,.junk,.junk,.junk,.junk,.junk,.junk,.junk,.junk,.junk,.junk,.junk,.junk,.junk,.junk,.junk,.junk,.junk,.junk,.junk,.junk,.junk,.junk,.junk,.junk,.junk,.junk,.junk,.junk,.junk,.junk,.junk,.junk,.junk,.junk,.junk,.junk,.junk,.junk,.junk,.junk,.junk,.junk,.junk,.junk,.junk,.junk,.junk,.junk,.junk,.junk,.junk,.junk,.junk,.junk,.junk,.junk,.junk,.junk,.junk,.junk,.junk,.junk,.junk],[(4,.g 6 [.agg [.w (.int .i64 b),.w (.int .i64 c),.w (.int .i64 p),.w (.int .i64 e),.w (.int .i64 s),.sg 6 (rs.map rv) f]])],5⟩,?_,?_⟩
     · refine ⟨_,_,zaf [0,1,2,3,4] rfl rfl rfl ?_ ?_,0,-1,rfl,by omega,by rw [List.drop_zero],rfl⟩
       · simp only [ssT,zai,zaj,setSlot,gOf,AV.ren,renL,Blk.ren,Ax.look,Ax.put,reduceCtorEq,↓reduceIte,Nat.reduceEqDiff,Nat.reduceLT,Nat.reduceAdd,List.length_append,List.length_cons,List.length_nil,Option.some.injEq]; try simp
       · simp only [ssT,zai,zaj,setSlot,gOf,AV.ren,renL,Blk.ren,Ax.look,Ax.put,reduceCtorEq,↓reduceIte,Nat.reduceEqDiff,Nat.reduceLT,Nat.reduceAdd,List.length_append,List.length_cons,List.length_nil,Option.some.injEq]
     · rintro m σ ⟨i,a,rfl,hi,hinv,rfl⟩
       have e2 : ((i : Int) + 1 + 9223372036854775808) % 18446744073709551616 - 9223372036854775808 = ((i + 1 : Nat) : Int) := by omega
       by_cases hil : i < rs.length
       · have d3 : decide ((i : Int) < rs.length) = true := decide_eq_true (by omega)
         have hsl := zec rv rs i hil
         have hdr : rs.drop i = rs[i] :: rs.drop (i + 1) := List.drop_eq_getElem_cons hil
         obtain ⟨R,hR⟩ : ∃ R,rs[i] = R := ⟨_,rfl⟩
         rw [hR] at hsl hdr
         simp only [rv] at hsl
         rw [hdr,layE_cons] at hinv
         have hrk : rchk R.d R.t R.k R.key R.dd R.val = rk R := rfl
         have hLE : ∀ v,v ≠ 0 → layE c (-1) rs = v → batE b c p e s rs = v := fun v h1 h2 => by unfold batE; rw [if_pos hF,if_neg (by rw [h2]; exact h1),h2]
         by_cases hk0 : rk R = 0
         · have d4 : decide (rk R = 0) = true := decide_eq_true hk0
           rw [if_pos hk0] at hinv
           have hor : (decide (R.d ≤ a) = true ∧ batE b c p e s rs = 16) ∨ (decide (R.d ≤ a) = false ∧ decide (c ≤ R.d) = true ∧ batE b c p e s rs = 16) ∨ (decide (R.d ≤ a) = false ∧ decide (c ≤ R.d) = false ∧ layE c (-1) rs = layE c R.d (rs.drop (i + 1))) := by
             by_cases hA : R.d ≤ a
             · rw [if_pos (.inl hA)] at hinv
               exact .inl ⟨decide_eq_true hA,hLE 16 (by decide) hinv⟩
             · by_cases hC : c ≤ R.d
               · rw [if_pos (.inr hC)] at hinv
                 exact .inr (.inl ⟨decide_eq_false hA,decide_eq_true hC,hLE 16 (by decide) hinv⟩)
               · rw [if_neg (by omega)] at hinv
                 exact .inr (.inr ⟨decide_eq_false hA,decide_eq_false hC,hinv⟩)
           clear hinv
           rcases hor with D | D | D
           all_goals simp only [go_sem,zaa,Nat.reduceAdd,Nat.reduceSub,Nat.reduceMul,Int.reduceToNat,reduceCtorEq,↓reduceIte,Int.reducePow,Nat.reducePow,Int.reduceMod,Nat.reduceLeDiff,Int.reduceLE,Int.reduceNe,Int.reduceEq,Nat.reduceEqDiff,Nat.reduceLT,Nat.reduceBEq,ty,Srchk4,zbh,hrk,hl4,d3,hsl,d4,e2,zag,Int.toNat_natCast,D]
           all_goals repeat (refine And.intro (by omega) ?_)
           all_goals try omega
           refine ⟨rs.length - (i + 1),_,by omega,zaf [0,1,2,3,4] rfl rfl rfl ?_ ?_,i + 1,R.d,rfl,by omega,rfl,rfl⟩
           · simp only [ssT,zai,zaj,setSlot,gOf,AV.ren,renL,Blk.ren,Ax.look,Ax.put,reduceCtorEq,↓reduceIte,Nat.reduceEqDiff,Nat.reduceLT,Nat.reduceAdd,List.length_append,List.length_cons,List.length_nil,Option.some.injEq]
           · simp only [ssT,zai,zaj,setSlot,gOf,AV.ren,renL,Blk.ren,Ax.look,Ax.put,reduceCtorEq,↓reduceIte,Nat.reduceEqDiff,Nat.reduceLT,Nat.reduceAdd,List.length_append,List.length_cons,List.length_nil,Option.some.injEq]
         · have d4 : decide (rk R = 0) = false := decide_eq_false hk0
           rw [if_neg hk0] at hinv
           have hB := hLE _ hk0 hinv
           simp only [go_sem,zaa,Nat.reduceAdd,Nat.reduceSub,Nat.reduceMul,Int.reduceToNat,reduceCtorEq,↓reduceIte,Int.reducePow,Nat.reducePow,Int.reduceMod,Nat.reduceLeDiff,Int.reduceLE,Int.reduceNe,Int.reduceEq,Nat.reduceEqDiff,Nat.reduceLT,Nat.reduceBEq,ty,Srchk4,zbh,hrk,hl4,d3,hsl,d4,hB,zag,Int.toNat_natCast]
           omega
       · have d3 : decide ((i : Int) < rs.length) = false := decide_eq_false (by omega)
         have hdr : rs.drop i = [] := List.drop_eq_nil_of_le (by omega)
         rw [hdr] at hinv
         have hl0 : layE c (-1) rs = 0 := hinv
         have o1 : okI b := by unfold okI; omega
         have o2 : okI c := by unfold okI; omega
         have o3 : okI p := by unfold okI; omega
         have o4 : okI e := by unfold okI; omega
         have o5 : okI s := by unfold okI; omega
         have hex : ∃ qs : List Rec,rs.map rv = qs.map rv := ⟨rs,rfl⟩
         have hor : (decide ((8192 : Int) < (batL b c p e s rs).length) = true ∧ batE b c p e s rs = 5) ∨ (decide ((8192 : Int) < (batL b c p e s rs).length) = false ∧ batE b c p e s rs = 0) := by
           by_cases h8 : 8192 < (batL b c p e s rs).length
           · exact .inl ⟨decide_eq_true (by omega),by unfold batE; rw [if_pos hF,if_pos hl0,if_pos h8]⟩
           · exact .inr ⟨decide_eq_false (by omega),by unfold batE; rw [if_pos hF,if_pos hl0,if_neg h8]⟩
         rcases hor with ⟨d4,hB⟩ | ⟨d4,hB⟩
         all_goals simp only [go_sem,zaa,Nat.reduceAdd,Nat.reduceSub,Nat.reduceMul,Int.reduceToNat,reduceCtorEq,↓reduceIte,Int.reducePow,Nat.reducePow,Int.reduceMod,Nat.reduceLeDiff,Int.reduceLE,Int.reduceNe,Int.reduceEq,Nat.reduceEqDiff,Nat.reduceLT,Nat.reduceBEq,ty,Srchk4,rlayS4,hl4,hL,d3,d4,hB,hex,o1,o2,o3,o4,o5,zag]
 · exact hp.elim
end
end Go.Proofs.Ytihbcgbmlecpbaa
namespace Go.Proofs.Ytihbcgbmlecpbaa
open Ax
def sallS : zak
 | [.sg 6 xs f,.sg 6 ys g],[] => ⟨(xs.length ≤ 9223372036854775807 ∧ ∃ rs : List Rec,xs = rs.map rv) ∧ ys.length ≤ 9223372036854775807 ∧ ∃ qs : List Rec,ys = qs.map rv,
     .w (.bool (decide (xs.map rrec = ys.map rrec))),[]⟩
 | _,_ => zbd
theorem same_cases (b c p e s : Int) (rs : List Rec) (b' c' p' e' s' : Int) (qs : List Rec) :
   (decide (b = b') = false ∧ zbw b c p e s rs b' c' p' e' s' qs = false) ∨
   (decide (b = b') = true ∧ decide (c = c') = false ∧ zbw b c p e s rs b' c' p' e' s' qs = false) ∨
   (decide (b = b') = true ∧ decide (c = c') = true ∧ decide (p = p') = false ∧ zbw b c p e s rs b' c' p' e' s' qs = false) ∨
   (decide (b = b') = true ∧ decide (c = c') = true ∧ decide (p = p') = true ∧ decide (e = e') = false ∧ zbw b c p e s rs b' c' p' e' s' qs = false) ∨
   (decide (b = b') = true ∧ decide (c = c') = true ∧ decide (p = p') = true ∧ decide (e = e') = true ∧ decide (s = s') = false ∧ zbw b c p e s rs b' c' p' e' s' qs = false) ∨
   (decide (b = b') = true ∧ decide (c = c') = true ∧ decide (p = p') = true ∧ decide (e = e') = true ∧ decide (s = s') = true ∧ zbw b c p e s rs b' c' p' e' s' qs = decide (rs = qs)) := by
 unfold zbw
 by_cases h1 : b = b' <;> by_cases h2 : c = c' <;> by_cases h3 : p = p' <;> by_cases h4 : e = e' <;> by_cases h5 : s = s' <;> simp [h1,h2,h3,h4,h5]
def Srput4 (f : FuncId) : Option zak :=
 match f with
 | 73 => some rchkS4
 | 74 => some rlayS4
 | _ => none
theorem Srput4_ok : Fns Try.prog Srput4 := by
 intro f s h
 unfold Srput4 at h
 split at h
 · injection h with h; subst h; exact ⟨⟨_,Try.func73,by kernel_rfl,by kernel_rfl⟩,rchk4_sound⟩
 · injection h with h; subst h; exact ⟨⟨_,Try.func74,by kernel_rfl,by kernel_rfl⟩,rlay4_sound⟩
 · cases h
def Ssall (f : FuncId) : Option zak :=
 match f with
 | 86 => some rsameS
 | _ => none
theorem Ssall_ok : Fns Try.prog Ssall := by
 intro f s h
 unfold Ssall at h
 split at h
 · injection h with h; subst h; exact ⟨⟨_,Try.func86,by kernel_rfl,by kernel_rfl⟩,rrsame_sound⟩
 · cases h
section
set_option maxRecDepth 100000
set_option maxHeartbeats 1000000 in
theorem rput4_sound : zaq Try.prog 48 rputS4 := by
 refine zbp (S := Srput4) (T := ty) zau ty_ok Srput4_ok Try.func48 (c := Try.f48.body.getD .skip) (by kernel_rfl) (by kernel_rfl) (fun xs pins hp _ => ?_)
 unfold rputS4 at hp ⊢
 split at hp
 · rename_i b c p e s xs f _
   obtain ⟨hL,rs,rfl⟩ := hp
   have hl4 : (rs.map rv).length = rs.length := by simp
   rw [hl4] at hL
   have hex : ∃ qs : List Rec,rs.map rv = qs.map rv := ⟨rs,rfl⟩
   refine ⟨by simp,?_⟩
   unfold Try.f48
   by_cases h0 : batE b c p e s rs = 0
   · have hF : bfld b c p e s rs.length = 0 := Classical.byContradiction fun h => h ((batE_eq b c p e s rs h).symm.trans h0)
     have hz := bfld_zero hF
     have o1 : okI b := by unfold okI; omega
     have o2 : okI c := by unfold okI; omega
     have o3 : okI p := by unfold okI; omega
     have o4 : okI e := by unfold okI; omega
     have o5 : okI s := by unfold okI; omega
     have hB : batB b c p e s rs = batL b c p e s rs := if_pos h0
     simp only [go_sem,zaa,Nat.reduceAdd,Nat.reduceSub,Nat.reduceMul,Int.reduceToNat,reduceCtorEq,↓reduceIte,Int.reducePow,Nat.reducePow,Int.reduceMod,Nat.reduceLeDiff,Int.reduceLE,Int.reduceNe,Int.reduceEq,Nat.reduceEqDiff,Nat.reduceLT,Nat.reduceBEq,ty,Srput4,rchkS4,rlayS4,hl4,hL,hex,zag,h0,hB,o1,o2,o3,o4,o5]
     refine ⟨_,Weak.refl _,?_⟩
     simp only [go_sem,coe,zaa,Nat.reduceAdd,Nat.reduceSub,Nat.reduceMul,Int.reduceToNat,reduceCtorEq,↓reduceIte,Int.reducePow,Nat.reducePow,Int.reduceMod,Nat.reduceLeDiff,Int.reduceLE,Int.reduceNe,Int.reduceEq,Nat.reduceEqDiff,Nat.reduceLT,Nat.reduceBEq,ty]
   · have d0 : decide (batE b c p e s rs = 0) = false := decide_eq_false h0
     have hB : batB b c p e s rs = [] := if_neg h0
     simp only [go_sem,zaa,Nat.reduceAdd,Nat.reduceSub,Nat.reduceMul,Int.reduceToNat,reduceCtorEq,↓reduceIte,Int.reducePow,Nat.reducePow,Int.reduceMod,Nat.reduceLeDiff,Int.reduceLE,Int.reduceNe,Int.reduceEq,Nat.reduceEqDiff,Nat.reduceLT,Nat.reduceBEq,ty,Srput4,rchkS4,hl4,hL,hex,zag,d0,hB]
     refine ⟨_,zdl 2 (.sb [] false) (fun _ _ _ h => h.nilb),?_⟩
     simp only [go_sem,coe,zaa,Nat.reduceAdd,Nat.reduceSub,Nat.reduceMul,Int.reduceToNat,reduceCtorEq,↓reduceIte,Int.reducePow,Nat.reducePow,Int.reduceMod,Nat.reduceLeDiff,Int.reduceLE,Int.reduceNe,Int.reduceEq,Nat.reduceEqDiff,Nat.reduceLT,Nat.reduceBEq,ty]
 · exact hp.elim
set_option maxHeartbeats 1000000 in
theorem sall_sound : zaq Try.prog 77 sallS := by
 refine zal (S := Ssall) (T := tyF) zau tyF_ok Ssall_ok Try.func77 (c := Try.f77.body.getD .skip) (by kernel_rfl) (by kernel_rfl) (fun xs pins hp _ => ?_)
 unfold sallS at hp ⊢
 split at hp
 · rename_i xs f ys g _
   obtain ⟨⟨hL1,rs,rfl⟩,hL2,qs,rfl⟩ := hp
   rw [List.length_map] at hL1 hL2
   refine ⟨by simp,?_⟩
   have hlp : (rs.map rv).length = rs.length := by simp
   have hlq : (qs.map rv).length = qs.length := by simp
   unfold Try.f77
   by_cases hl : rs.length = qs.length
   · have d0 : decide ((rs.length : Int) = qs.length) = true := decide_eq_true (by omega)
     have hk : rs = qs ↔ ∀ j (h : j < rs.length) (h' : j < qs.length),rs[j] = qs[j] := ⟨fun h => by subst h; intros; rfl,fun h => List.ext_getElem hl h⟩
     simp only [go_sem,zaa,Nat.reduceAdd,Nat.reduceSub,Nat.reduceMul,Int.reduceToNat,reduceCtorEq,↓reduceIte,Int.reducePow,Nat.reducePow,Int.reduceMod,Nat.reduceLeDiff,Int.reduceLE,Int.reduceNe,Int.reduceEq,Nat.reduceEqDiff,Nat.reduceLT,Nat.reduceBEq,tyF,zek,ty,Ssall,hlp,hlq,d0,zag]
     refine zco ⟨fun m σ => ∃ i : Nat,m = rs.length - i ∧ i ≤ rs.length ∧ (∀ j (h : j < rs.length) (h' : j < qs.length),j < i → rs[j] = qs[j]) ∧
         σ = ⟨[.sg 6 (rs.map rv) f,.sg 6 (qs.map rv) g,.junk,.junk,.junk,.w (.int .i64 i),.junk,.junk,.junk,.junk,.junk,.junk,.junk,.junk,.junk,.junk,.junk,.junk,.junk,.junk,.junk,.junk,.junk,.junk,.junk,.junk,.junk],[],4⟩,?_,?_⟩
     · refine ⟨_,_,zaf [0,1,2,3] rfl rfl rfl ?_ ?_,0,rfl,by omega,by intro j _ _ h; omega,rfl⟩
       · simp only [ssT,zai,zaj,setSlot,gOf,AV.ren,renL,Blk.ren,Ax.look,Ax.put,reduceCtorEq,↓reduceIte,Nat.reduceEqDiff,Nat.reduceLT,Nat.reduceAdd,List.length_append,List.length_cons,List.length_nil,Option.some.injEq]; simp
       · simp only [ssT,zai,zaj,setSlot,gOf,AV.ren,renL,Blk.ren,Ax.look,Ax.put,reduceCtorEq,↓reduceIte,Nat.reduceEqDiff,Nat.reduceLT,Nat.reduceAdd,List.length_append,List.length_cons,List.length_nil,Option.some.injEq]
     · rintro m σ ⟨i,rfl,hi,hall,rfl⟩
       by_cases hil : i < rs.length
       · have d1 : decide ((i : Int) < rs.length) = true := decide_eq_true (by omega)
         have e1 : ((i : Int) + 1 + 9223372036854775808) % 18446744073709551616 - 9223372036854775808 = ((i + 1 : Nat) : Int) := by omega
         have hiq : i < qs.length := by omega
         have hs1 := zec rv rs i hil
         have hs2 := zec rv qs i hiq
         obtain ⟨P,hP⟩ : ∃ P,rs[i] = P := ⟨_,rfl⟩
         obtain ⟨Q,hQ⟩ : ∃ Q,qs[i] = Q := ⟨_,rfl⟩
         rw [hP] at hs1
         rw [hQ] at hs2
         simp only [rv] at hs1 hs2
         have hsm := sameB_rec P Q
         by_cases ha : P = Q
         · rw [decide_eq_true ha] at hsm
           simp only [go_sem,zaa,Nat.reduceAdd,Nat.reduceSub,Nat.reduceMul,Int.reduceToNat,reduceCtorEq,↓reduceIte,Int.reducePow,Nat.reducePow,Int.reduceMod,Nat.reduceLeDiff,Int.reduceLE,Int.reduceNe,Int.reduceEq,Nat.reduceEqDiff,Nat.reduceLT,Nat.reduceBEq,tyF,zek,ty,Ssall,rsameS,hlp,hlq,d1,hs1,hs2,e1,hsm,Int.toNat_natCast]
           repeat (refine And.intro (by omega) ?_)
           refine ⟨rs.length - (i + 1),_,by omega,zaf [0,1,2,3] rfl rfl rfl ?_ ?_,i + 1,rfl,by omega,?_,rfl⟩
           · simp only [ssT,zai,zaj,setSlot,gOf,AV.ren,renL,Blk.ren,Ax.look,Ax.put,reduceCtorEq,↓reduceIte,Nat.reduceEqDiff,Nat.reduceLT,Nat.reduceAdd,List.length_append,List.length_cons,List.length_nil,Option.some.injEq]
           · simp only [ssT,zai,zaj,setSlot,gOf,AV.ren,renL,Blk.ren,Ax.look,Ax.put,reduceCtorEq,↓reduceIte,Nat.reduceEqDiff,Nat.reduceLT,Nat.reduceAdd,List.length_append,List.length_cons,List.length_nil,Option.some.injEq]
           · intro j h h' hj
             rcases Nat.lt_or_ge j i with h2 | h2
             · exact hall j h h' h2
             · have : j = i := by omega
               subst this
               rw [hP,hQ]; exact ha
         · rw [decide_eq_false ha] at hsm
           have dr : decide (rs = qs) = false := decide_eq_false (fun h => ha (by rw [← hP,← hQ]; exact hk.1 h i hil hiq))
           simp only [go_sem,zaa,Nat.reduceAdd,Nat.reduceSub,Nat.reduceMul,Int.reduceToNat,reduceCtorEq,↓reduceIte,Int.reducePow,Nat.reducePow,Int.reduceMod,Nat.reduceLeDiff,Int.reduceLE,Int.reduceNe,Int.reduceEq,Nat.reduceEqDiff,Nat.reduceLT,Nat.reduceBEq,tyF,zek,ty,Ssall,rsameS,hlp,hlq,d1,hs1,hs2,e1,hsm,dr,zag,Int.toNat_natCast]
           omega
       · have d1 : decide ((i : Int) < rs.length) = false := decide_eq_false (by omega)
         have dr : decide (rs = qs) = true := decide_eq_true (hk.2 fun j h h' => hall j h h' (by omega))
         simp only [go_sem,zaa,Nat.reduceAdd,Nat.reduceSub,Nat.reduceMul,Int.reduceToNat,reduceCtorEq,↓reduceIte,Int.reducePow,Nat.reducePow,Int.reduceMod,Nat.reduceLeDiff,Int.reduceLE,Int.reduceNe,Int.reduceEq,Nat.reduceEqDiff,Nat.reduceLT,Nat.reduceBEq,tyF,zek,ty,Ssall,hlp,hlq,d1,dr,zag]
   · have d0 : decide ((rs.length : Int) = qs.length) = false := decide_eq_false (by omega)
     have dr : decide (rs = qs) = false := decide_eq_false (fun h => hl (by rw [h]))
     simp only [go_sem,zaa,Nat.reduceAdd,Nat.reduceSub,Nat.reduceMul,Int.reduceToNat,reduceCtorEq,↓reduceIte,Int.reducePow,Nat.reducePow,Int.reduceMod,Nat.reduceLeDiff,Int.reduceLE,Int.reduceNe,Int.reduceEq,Nat.reduceEqDiff,Nat.reduceLT,Nat.reduceBEq,tyF,zek,ty,Ssall,hlp,hlq,d0,dr,zag]
 · exact hp.elim
def Srsame4 (f : FuncId) : Option zak :=
 match f with
 | 77 => some sallS
 | _ => none
theorem Srsame4_ok : Fns Try.prog Srsame4 := by
 intro f s h
 unfold Srsame4 at h
 split at h
 · injection h with h; subst h; exact ⟨⟨_,Try.func77,by kernel_rfl,by kernel_rfl⟩,sall_sound⟩
 · cases h
set_option maxHeartbeats 1000000 in
theorem rsame4_sound : zaq Try.prog 54 bsameS4 := by
 refine zal (S := Srsame4) (T := ty) zau ty_ok Srsame4_ok Try.func54 (c := Try.f54.body.getD .skip) (by kernel_rfl) (by kernel_rfl) (fun xs pins hp _ => ?_)
 unfold bsameS4 at hp ⊢
 split at hp
 · rename_i b c p e s xs f b' c' p' e' s' ys g _
   obtain ⟨⟨hL1,rs,rfl⟩,hL2,qs,rfl⟩ := hp
   rw [List.length_map] at hL1 hL2
   refine ⟨by simp,?_⟩
   have hlp : (rs.map rv).length = rs.length := by simp
   have hlq : (qs.map rv).length = qs.length := by simp
   have hx1 : ∃ qs_1 : List Rec,rs.map rv = qs_1.map rv := ⟨rs,rfl⟩
   have hx2 : ∃ qs_1 : List Rec,qs.map rv = qs_1.map rv := ⟨qs,rfl⟩
   have hc1 : coe ty 23 (.sg 6 (rs.map rv) f) = .sg 6 (rs.map rv) f := by cases rs <;> rfl
   have hc2 : coe ty 23 (.sg 6 (qs.map rv) g) = .sg 6 (qs.map rv) g := by cases qs <;> rfl
   unfold Try.f54
   rcases same_cases b c p e s rs b' c' p' e' s' qs with D | D | D | D | D | D
   all_goals simp only [go_sem,zaa,Nat.reduceAdd,Nat.reduceSub,Nat.reduceMul,Int.reduceToNat,reduceCtorEq,↓reduceIte,Int.reducePow,Nat.reducePow,Int.reduceMod,Nat.reduceLeDiff,Int.reduceLE,Int.reduceNe,Int.reduceEq,Nat.reduceEqDiff,Nat.reduceLT,Nat.reduceBEq,hc1,hc2,ty,Srsame4,sallS,hlp,hlq,hL1,hL2,hx1,hx2,zag,D]
 · exact hp.elim
end
end Go.Proofs.Ytihbcgbmlecpbaa
namespace Go.Proofs.Ytihbcgbmlecpbaa
open Ax
def Srsreq22 (f : FuncId) : Option zak :=
 match f with
 | 54 => some bsameS4
 | _ => none
theorem Srsreq22_ok : Fns Try.prog Srsreq22 := by
 intro f s h
 unfold Srsreq22 at h
 split at h
 · injection h with h; subst h; exact ⟨⟨_,Try.func54,by kernel_rfl,by kernel_rfl⟩,rsame4_sound⟩
 · cases h
section
set_option maxRecDepth 100000
set_option maxHeartbeats 8000000 in
theorem rsreq22_sound : zaq Try.prog 29 sreqS := by
 refine zbp (S := Srsreq22) (T := ty) zau ty_ok Srsreq22_ok Try.func29 (c := Try.f29.body.getD .skip) (by kernel_rfl) (by kernel_rfl) (fun xs pins hp _ => ?_)
 unfold sreqS at hp ⊢
 split at hp
 · rename_i k t i p c f o m w g mb n b1 b2 b3 b4 b5 xs fl k' t' i' p' c' f' o' m' w' g' mb' n' b1' b2' b3' b4' b5' ys fm _
   obtain ⟨hX,hY1,hY2⟩ := hp
   refine ⟨by simp,?_⟩
   unfold Try.f29
   rcases eqQ_cases k t i p c f o m w g mb n k' t' i' p' c' f' o' m' w' g' mb' n' with D | D | D | D | D | D | D | D | D | D | D | D | D
   all_goals
     simp only [go_sem,coe,zaa,Nat.reduceAdd,Nat.reduceSub,Nat.reduceMul,Int.reduceToNat,reduceCtorEq,↓reduceIte,Int.reducePow,Nat.reducePow,Int.reduceMod,Nat.reduceLeDiff,Int.reduceLE,Int.reduceNe,Int.reduceEq,Nat.reduceEqDiff,Nat.reduceLT,Nat.reduceBEq,ty,Srsreq22,bsameS4,hX,hY1,hY2,D]
     exact zba 4 rfl
 · exact hp.elim
end
end Go.Proofs.Ytihbcgbmlecpbaa
