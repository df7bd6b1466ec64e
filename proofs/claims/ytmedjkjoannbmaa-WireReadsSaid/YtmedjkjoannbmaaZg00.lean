/- What the proofs of this seat stand on; it asks nothing. -/
import Derived.Test.YtmedjkjoannbmaaZa12
import Derived.Test.YtmedjkjoannbmaaZc00
import Derived.Test.YtmedjkjoannbmaaZd00
set_option linter.unusedSimpArgs false
set_option linter.unusedVariables false
namespace Go.Proofs.Ytmedjkjoannbmaa
namespace Ax
open Go.RowKit
section rules
variable {S : zal} {T : zag} {Q : Exit → ASt → Prop} {σ : ASt}
variable {ops r : List Oper} {o : Oper} {nm : Nat} {sl : List AV} {H : Heap} {Q' : List AV → Heap → Prop}
end rules
def zes (T : zag) : zag := fun t =>
 match T t with
 | some i => some { i with flat := 2 }
 | none => none
theorem setCold_ok {P : Program} {T : zag} (h : TOk P T) : TOk P (zes T) := by
 intro t i hi
 unfold zes at hi
 cases ht : T t with
 | none => rw [ht] at hi; cases hi
 | some j =>
   rw [ht] at hi
   injection hi with hi
   subst hi
   have := h t j ht
   exact ⟨this.d,this.info,this.eqs⟩
end Ax
end Go.Proofs.Ytmedjkjoannbmaa
namespace Go.Proofs.Ytmedjkjoannbmaa
open Ax
def tyC : zag := zes ty
theorem tyC_ok : TOk Try.prog tyC := setCold_ok ty_ok
end Go.Proofs.Ytmedjkjoannbmaa
namespace Go.Proofs.Ytmedjkjoannbmaa
open Ax
section
set_option maxRecDepth 100000
theorem rzag_sound : zaq Try.prog 95 zgS := by
 refine zak (S := noS) (T := ty) zas ty_ok zby Try.func95 (c := Try.f95.body.getD .skip) (by kernel_rfl) (by kernel_rfl) (fun xs pins hp _ => ?_)
 unfold zgS at hp ⊢
 split at hp
 · rename_i n _
   obtain ⟨rfl,h1,h2⟩ := hp
   refine ⟨by decide,?_⟩
   unfold Try.f95
   simp only [go_sem,coe,zaa,Nat.reduceAdd,Nat.reduceSub,Nat.reduceMul,Int.reduceToNat,reduceCtorEq,↓reduceIte,Int.reducePow,Nat.reducePow,Int.reduceMod,Nat.reduceLeDiff,Int.reduceLE,Int.reduceNe,Int.reduceEq,Nat.reduceEqDiff,Nat.reduceLT,Nat.reduceBEq,ty,noS,decide_eq_true_eq,decide_eq_false_iff_not]
   have e1 : n.tmod 2 = n % 2 := Int.tmod_eq_emod_of_nonneg h1
   have e2 : n.tdiv 2 = n / 2 := Int.tdiv_eq_ediv_of_nonneg h1
   rw [e1,e2]
   unfold zg
   constructor
   · intro h; rw [if_pos h]; omega
   · intro h; rw [if_neg h]; omega
 · exact hp.elim
end
end Go.Proofs.Ytmedjkjoannbmaa
namespace Go.Proofs.Ytmedjkjoannbmaa
open Ax
theorem getM_open : ∀ (p : List UInt8) (i u : Nat),(∀ d ∈ p,128 ≤ d.toNat) → i ≤ 10 → getM i u p = if i + p.length < 10 then (0,0,3) else (0,0,4)
 | [],i,u,hp,h => by simp [getM]
 | d :: p,i,u,hp,h => by
   have hd := hp d (by simp)
   simp only [getM]
   by_cases h10 : i = 10
   · rw [if_pos h10,if_neg (by simp; omega)]
   · rw [if_neg h10,if_pos hd,getM_open p (i + 1) _ (fun x hx => hp x (by simp [hx])) (by omega)]
     have e : i + 1 + p.length = i + (d :: p).length := by simp; omega
     rw [e]
theorem getM_ten : ∀ (p : List UInt8) (i u : Nat) (q : List UInt8),(∀ d ∈ p,128 ≤ d.toNat) → i + p.length = 10 → getM i u (p ++ q) = (0,0,4)
 | [],i,u,q,hp,h => by
   have : i = 10 := by simpa using h
   subst this
   cases q <;> simp [getM]
 | d :: p,i,u,q,hp,h => by
   have hd := hp d (by simp)
   simp only [List.length_cons] at h
   simp only [List.cons_append,getM,if_neg (show ¬ i = 10 by omega),if_pos hd]
   exact getM_ten p (i + 1) _ q (fun x hx => hp x (by simp [hx])) (by omega)
end Go.Proofs.Ytmedjkjoannbmaa
namespace Go.Proofs.Ytmedjkjoannbmaa
open Ax
def S23 (f : FuncId) : Option zai :=
 match f with
 | 95 => some zgS
 | 68 => some bytesS
 | _ => none
theorem S23_ok : Fns Try.prog S23 := by
 intro f s h
 unfold S23 at h
 split at h
 · injection h with h; subst h; exact ⟨⟨_,Try.func95,by kernel_rfl,by kernel_rfl⟩,rzag_sound⟩
 · injection h with h; subst h; exact ⟨⟨_,Try.func68,by kernel_rfl,by kernel_rfl⟩,bytes_sound⟩
 · cases h
theorem getL_ten (bs : List UInt8) (hall : ∀ d ∈ bs.take 10,128 ≤ d.toNat) (hl : 10 ≤ bs.length) : getL bs = (0,0,4) := by
 have e : bs = bs.take 10 ++ bs.drop 10 := (List.take_append_drop 10 bs).symm
 rw [getL_M,e]
 exact getM_ten _ 0 0 _ hall (by simp; omega)
theorem getL_open (bs : List UInt8) (hall : ∀ d ∈ bs,128 ≤ d.toNat) (hl : bs.length < 10) : getL bs = (0,0,3) := by
 rw [getL_M,getM_open bs 0 0 hall (by omega),if_pos (by omega)]
theorem getL_end (bs : List UInt8) (i : Nat) (hi : i < bs.length) (h9 : i ≤ 9) (hall : ∀ d ∈ bs.take i,128 ≤ d.toNat) (hc : bs[i].toNat < 128) :
   getL bs = if putU (valU (bs.take (i + 1)) % 18446744073709551616) = bs.take (i + 1) then (zg ((valU (bs.take (i + 1)) % 18446744073709551616 : Nat) : Int),i + 1,0) else (0,0,4) := by
 have e : bs = bs.take i ++ bs[i] :: bs.drop (i + 1) := by
   rw [← List.drop_eq_getElem_cons hi,List.take_append_drop]
 have e2 : bs.take (i + 1) = bs.take i ++ [bs[i]] := by rw [List.take_succ_eq_append_getElem hi]
 have hlen : (bs.take i).length = i := by simp; omega
 have h1 := getM_end (bs.take i) 0 0 bs[i] (bs.drop (i + 1)) hall hc (by omega)
 have hcan := canon (bs.take i) bs[i] hall hc (by omega)
 rw [← e] at h1
 rw [getL_M,h1,e2]
 simp only [Nat.zero_add,hlen,Nat.pow_zero,Nat.mul_one] at hcan ⊢
 by_cases hbad : (0 < i ∧ bs[i].toNat = 0) ∨ (i = 9 ∧ 1 < bs[i].toNat)
 · rw [if_pos hbad,if_neg (fun h => (hcan.1 h) hbad)]
 · have hput := hcan.2 hbad
   rw [if_neg hbad,if_pos hput]
   have hv := val_put (valU (bs.take i ++ [bs[i]]) % 18446744073709551616)
   rw [hput] at hv
   rw [← hv]
theorem valU_step (bs : List UInt8) (n k : Nat) (hk : k < n) (hn : n ≤ bs.length) : valU ((bs.take n).drop k) = (bs.getD k 0).toNat % 128 + 128 * valU ((bs.take n).drop (k + 1)) := by
 have hkl : k < (bs.take n).length := by simp; omega
 rw [List.drop_eq_getElem_cons hkl]
 have : (bs.take n)[k] = bs.getD k 0 := by
   simp [show k < bs.length by omega]
 rw [this]; rfl
theorem tmod_cast (a b : Nat) : (a : Int).tmod b = ((a % b : Nat) : Int) := by
 rw [Int.tmod_eq_emod_of_nonneg (by omega)]; simp
section
set_option maxRecDepth 100000
theorem rget_sound : zaq Try.prog 85 getS := by
 refine zak (S := S23) (T := ty) zas ty_ok S23_ok Try.func85 (c := Try.f85.body.getD .skip) (by kernel_rfl) (by kernel_rfl) (fun xs pins hp _ => ?_)
 unfold getS at hp ⊢
 split at hp
 · rename_i bs f _
   have hp : bs.length ≤ 1000000 := hp
   refine ⟨by simp,?_⟩
   obtain ⟨G,hG⟩ : ∃ G,getL bs = G := ⟨_,rfl⟩
   rw [hG]
   unfold Try.f85
   simp only [go_sem,coe,zaa,Nat.reduceAdd,Nat.reduceSub,Nat.reduceMul,Int.reduceToNat,reduceCtorEq,↓reduceIte,Int.reducePow,Nat.reducePow,Int.reduceMod,Nat.reduceLeDiff,Int.reduceLE,Int.reduceNe,Int.reduceEq,Nat.reduceEqDiff,Nat.reduceLT,Nat.reduceBEq,ty,S23]
   refine zbr ⟨fun m σ => ∃ (i : Nat),m = bs.length - i ∧ i ≤ bs.length ∧ i ≤ 10 ∧ (∀ d ∈ bs.take i,128 ≤ d.toNat) ∧
     σ = ⟨[.sb bs f,.junk,.w (.int .i64 0),.w (.int .i64 0),.w (.int .i64 0),.w (.int .i64 i),.junk,.junk,.junk,.junk,.junk,.junk,.junk,.junk,.junk,.junk,.junk,.junk,.junk,.junk,.junk,.junk,.junk,.junk,.junk,.junk,.junk,.junk,.junk,.junk,.junk,.junk,.junk,.junk,.junk,.junk,.junk,.junk,.junk,.junk,.junk,.junk,.junk,.junk,.junk,.junk,.junk,.junk,.junk,.junk,.junk,.junk,.junk,.junk,.junk,.junk,.junk,.junk,.junk,.junk],[],4⟩,?_,?_⟩
   · refine ⟨_,_,zad [0,1,2,3] rfl rfl rfl ?_ ?_,0,rfl,by omega,by omega,by simp,rfl⟩
     · simp only [ssT,zae,zaf,setSlot,gOf,AV.ren,renL,Blk.ren,Ax.look,Ax.put,reduceCtorEq,↓reduceIte,Nat.reduceEqDiff,Nat.reduceLT,Nat.reduceAdd,List.length_append,List.length_cons,List.length_nil,Option.some.injEq]; rfl
     · simp only [ssT,zae,zaf,setSlot,gOf,AV.ren,renL,Blk.ren,Ax.look,Ax.put,reduceCtorEq,↓reduceIte,Nat.reduceEqDiff,Nat.reduceLT,Nat.reduceAdd,List.length_append,List.length_cons,List.length_nil,Option.some.injEq]
   · rintro m σ ⟨i,rfl,hi,hi10,hall,rfl⟩
     have e1 : ((i : Int) + 1 + 9223372036854775808) % 18446744073709551616 - 9223372036854775808 = ((i + 1 : Nat) : Int) := by omega
     by_cases h1 : i < bs.length ∧ i < 10 ∧ 128 ≤ (bs.getD i 0).toNat
     · obtain ⟨ha,hb,hc⟩ := h1
       have d1 : decide ((i : Int) < bs.length) = true := decide_eq_true (by omega)
       have d2 : decide ((i : Int) < 10) = true := decide_eq_true (by omega)
       have d3 : decide ((128 : Int) ≤ ((bs.getD i 0).toNat : Int)) = true := decide_eq_true (by omega)
       simp only [go_sem,coe,zaa,Nat.reduceAdd,Nat.reduceSub,Nat.reduceMul,Int.reduceToNat,reduceCtorEq,↓reduceIte,Int.reducePow,Nat.reducePow,Int.reduceMod,Nat.reduceLeDiff,Int.reduceLE,Int.reduceNe,Int.reduceEq,Nat.reduceEqDiff,Nat.reduceLT,Nat.reduceBEq,ty,S23,d1,d2,d3,e1]
       refine ⟨⟨by omega,by omega⟩,bs.length - (i + 1),_,by omega,zad [0,1,2,3] rfl rfl rfl ?_ ?_,i + 1,rfl,by omega,by omega,?_,rfl⟩
       · simp only [ssT,zae,zaf,setSlot,gOf,AV.ren,renL,Blk.ren,Ax.look,Ax.put,reduceCtorEq,↓reduceIte,Nat.reduceEqDiff,Nat.reduceLT,Nat.reduceAdd,List.length_append,List.length_cons,List.length_nil,Option.some.injEq]
       · simp only [ssT,zae,zaf,setSlot,gOf,AV.ren,renL,Blk.ren,Ax.look,Ax.put,reduceCtorEq,↓reduceIte,Nat.reduceEqDiff,Nat.reduceLT,Nat.reduceAdd,List.length_append,List.length_cons,List.length_nil,Option.some.injEq]
       · intro d hd
         rw [List.take_succ_eq_append_getElem ha,List.mem_append] at hd
         rcases hd with hd | hd
         · exact hall d hd
         · have : d = bs[i] := by simpa using hd
           have eg : bs.getD i 0 = bs[i] := by simp [ha]
           rw [this,← eg]; exact hc
     · -- the loop is left
       by_cases h10 : i = 10
       · subst h10
         have hG2 := getL_ten bs hall hi
         rw [hG] at hG2
         subst hG2
         have d2 : decide (((10 : Nat) : Int) < 10) = false := by simp
         have d3 : decide (((10 : Nat) : Int) = 10) = true := by simp
         by_cases hl : 10 < bs.length
         · have d1 : decide (((10 : Nat) : Int) < bs.length) = true := decide_eq_true (by omega)
           simp only [go_sem,coe,zaa,Nat.reduceAdd,Nat.reduceSub,Nat.reduceMul,Int.reduceToNat,reduceCtorEq,↓reduceIte,Int.reducePow,Nat.reducePow,Int.reduceMod,Nat.reduceLeDiff,Int.reduceLE,Int.reduceNe,Int.reduceEq,Nat.reduceEqDiff,Nat.reduceLT,Nat.reduceBEq,ty,S23,d1,d2,d3]
           rfl
         · have d1 : decide (((10 : Nat) : Int) < bs.length) = false := decide_eq_false (by omega)
           simp only [go_sem,coe,zaa,Nat.reduceAdd,Nat.reduceSub,Nat.reduceMul,Int.reduceToNat,reduceCtorEq,↓reduceIte,Int.reducePow,Nat.reducePow,Int.reduceMod,Nat.reduceLeDiff,Int.reduceLE,Int.reduceNe,Int.reduceEq,Nat.reduceEqDiff,Nat.reduceLT,Nat.reduceBEq,ty,S23,d1,d2,d3]
           rfl
       · have d3 : decide ((i : Int) = 10) = false := decide_eq_false (by omega)
         have d2 : decide ((i : Int) < 10) = true := decide_eq_true (by omega)
         by_cases hl : i = bs.length
         · have d1 : decide ((i : Int) < bs.length) = false := decide_eq_false (by omega)
           have d4 : decide ((i : Int) = bs.length) = true := decide_eq_true (by omega)
           rw [hl,List.take_length] at hall
           have hG2 := getL_open bs hall (by omega)
           rw [hG] at hG2
           subst hG2
           simp only [go_sem,coe,zaa,Nat.reduceAdd,Nat.reduceSub,Nat.reduceMul,Int.reduceToNat,reduceCtorEq,↓reduceIte,Int.reducePow,Nat.reducePow,Int.reduceMod,Nat.reduceLeDiff,Int.reduceLE,Int.reduceNe,Int.reduceEq,Nat.reduceEqDiff,Nat.reduceLT,Nat.reduceBEq,ty,S23,d1,d2,d3,d4]
           rfl
         · have hil : i < bs.length := by omega
           have hc : ¬ 128 ≤ (bs.getD i 0).toNat := fun h => h1 ⟨hil,by omega,h⟩
           have eg : bs.getD i 0 = bs[i] := by simp [hil]
           have hG2 := getL_end bs i hil (by omega) hall (by rw [← eg]; omega)
           rw [hG] at hG2
           have d1 : decide ((i : Int) < bs.length) = true := decide_eq_true (by omega)
           have d4 : decide ((i : Int) = bs.length) = false := decide_eq_false (by omega)
           have d5 : decide ((128 : Int) ≤ ((bs.getD i 0).toNat : Int)) = false := decide_eq_false (by omega)
           simp only [go_sem,coe,zaa,Nat.reduceAdd,Nat.reduceSub,Nat.reduceMul,Int.reduceToNat,reduceCtorEq,↓reduceIte,Int.reducePow,Nat.reducePow,Int.reduceMod,Nat.reduceLeDiff,Int.reduceLE,Int.reduceNe,Int.reduceEq,Nat.reduceEqDiff,Nat.reduceLT,Nat.reduceBEq,ty,S23,d1,d2,d3,d4,d5]
           refine ⟨⟨by omega,by omega⟩,zbr ⟨fun m σ => ∃ (k : Nat),m = k ∧ k ≤ i + 1 ∧
             σ = ⟨[.sb bs f,.junk,.w (.int .i64 0),.w (.int .i64 0),.w (.int .i64 0),.w (.int .i64 i),.w (.int .u64 ((valU ((bs.take (i + 1)).drop k) % 18446744073709551616 : Nat) : Int)),.w (.int .i64 ((k : Int) - 1)),.junk,.junk,.junk,.junk,.junk,.junk,.junk,.junk,.junk,.junk,.junk,.junk,.junk,.junk,.junk,.junk,.junk,.junk,.junk,.junk,.junk,.junk,.junk,.junk,.junk,.junk,.junk,.junk,.junk,.junk,.junk,.junk,.junk,.junk,.junk,.junk,.junk,.junk,.junk,.junk,.junk,.junk,.junk,.junk,.junk,.junk,.junk,.junk,.junk,.junk,.junk,.junk],[],4⟩,?_,?_⟩⟩
           · refine ⟨_,_,zad [0,1,2,3] rfl rfl rfl ?_ ?_,i + 1,rfl,by omega,rfl⟩
             · have : (bs.take (i + 1)).drop (i + 1) = [] := List.drop_of_length_le (by simp; omega)
               simp only [ssT,zae,zaf,setSlot,gOf,AV.ren,renL,Blk.ren,Ax.look,Ax.put,reduceCtorEq,↓reduceIte,Nat.reduceEqDiff,Nat.reduceLT,Nat.reduceAdd,List.length_append,List.length_cons,List.length_nil,Option.some.injEq,this,valU]
               simp
             · simp only [ssT,zae,zaf,setSlot,gOf,AV.ren,renL,Blk.ren,Ax.look,Ax.put,reduceCtorEq,↓reduceIte,Nat.reduceEqDiff,Nat.reduceLT,Nat.reduceAdd,List.length_append,List.length_cons,List.length_nil,Option.some.injEq]
           · rintro m σ ⟨k,rfl,hk,rfl⟩
             by_cases hk0 : 0 < m
             · have d6 : decide ((0 : Int) ≤ (m : Int) - 1) = true := decide_eq_true (by omega)
               have em : ((m : Int) - 1).toNat = m - 1 := by omega
               have hst := valU_step bs (i + 1) (m - 1) (by omega) (by omega)
               rw [show m - 1 + 1 = m by omega] at hst
               have et : ((bs.getD (m - 1) 0).toNat : Int).tmod 128 = (((bs.getD (m - 1) 0).toNat % 128 : Nat) : Int) := tmod_cast _ 128
               obtain ⟨c,hcd⟩ : ∃ c,(bs.getD (m - 1) 0).toNat = c := ⟨_,rfl⟩
               rw [hcd] at hst et
               generalize valU ((bs.take (i + 1)).drop m) = X at *
               have ew : (128 * ((X % 18446744073709551616 : Nat) : Int) % 18446744073709551616 + ((c % 128 : Nat) : Int) % 18446744073709551616) % 18446744073709551616 = (((c % 128 + 128 * X) % 18446744073709551616 : Nat) : Int) := by omega
               have es : ((m : Int) - 1 - 1 + 9223372036854775808) % 18446744073709551616 - 9223372036854775808 = ((m - 1 : Nat) : Int) - 1 := by omega
               simp only [go_sem,coe,zaa,Nat.reduceAdd,Nat.reduceSub,Nat.reduceMul,Int.reduceToNat,reduceCtorEq,↓reduceIte,Int.reducePow,Nat.reducePow,Int.reduceMod,Nat.reduceLeDiff,Int.reduceLE,Int.reduceNe,Int.reduceEq,Nat.reduceEqDiff,Nat.reduceLT,Nat.reduceBEq,ty,S23,d6,em,hcd,et,ew,es]
               refine ⟨by omega,m - 1,_,by omega,zad [0,1,2,3] rfl rfl rfl ?_ ?_,m - 1,rfl,by omega,rfl⟩
               · simp only [ssT,zae,zaf,setSlot,gOf,AV.ren,renL,Blk.ren,Ax.look,Ax.put,reduceCtorEq,↓reduceIte,Nat.reduceEqDiff,Nat.reduceLT,Nat.reduceAdd,List.length_append,List.length_cons,List.length_nil,Option.some.injEq,hst]
               · simp only [ssT,zae,zaf,setSlot,gOf,AV.ren,renL,Blk.ren,Ax.look,Ax.put,reduceCtorEq,↓reduceIte,Nat.reduceEqDiff,Nat.reduceLT,Nat.reduceAdd,List.length_append,List.length_cons,List.length_nil,Option.some.injEq]
             · have d6 : decide ((0 : Int) ≤ (m : Int) - 1) = false := decide_eq_false (by omega)
               obtain rfl : m = 0 := by omega
               generalize hV : valU ((bs.take (i + 1)).drop 0) % 18446744073709551616 = V
               rw [List.drop_zero] at hV
               rw [hV] at hG2
               have hVlt : (V : Int) < 18446744073709551616 := by omega
               have hV0 : (0 : Int) ≤ V := by omega
               have etk : List.take (i + 1) bs = bs.take (i + 1) := rfl
               simp only [go_sem,coe,zaa,Nat.reduceAdd,Nat.reduceSub,Nat.reduceMul,Int.reduceToNat,reduceCtorEq,↓reduceIte,Int.reducePow,Nat.reducePow,Int.reduceMod,Nat.reduceLeDiff,Int.reduceLE,Int.reduceNe,Int.reduceEq,Nat.reduceEqDiff,Nat.reduceLT,Nat.reduceBEq,ty,S23,bytesS,zgS,d6,e1,Int.toNat_natCast,List.take_length,hVlt,hV0]
               simp only [Nat.sub_zero,Bool.not_eq_true',decide_eq_false_iff_not,Bool.not_eq_false',decide_eq_true_eq]
               refine ⟨by omega,fun h => ?_,fun h => ?_⟩
               · rw [hG2,if_neg h]; rfl
               · rw [hG2,if_pos h]
 · exact hp.elim
end
end Go.Proofs.Ytmedjkjoannbmaa
namespace Go.Proofs.Ytmedjkjoannbmaa
open Ax
section
set_option maxRecDepth 100000
theorem runfixed_sound : zaq Try.prog 82 unfS := by
 refine zak (S := noS) (T := ty) zas ty_ok zby Try.func82 (c := Try.f82.body.getD .skip) (by kernel_rfl) (by kernel_rfl) (fun xs pins hp _ => ?_)
 unfold unfS at hp ⊢
 split at hp
 · rename_i bs f _
   have hp : bs.length ≤ 1000000 := hp
   refine ⟨by simp,?_⟩
   have hl8 := last8_length bs
   have hll : (zch bs).length = bs.length - (bs.length - 8) := by unfold zch; simp
   have em : (if (bs.length - 8 + 9223372036854775808 : Int) % 18446744073709551616 - 9223372036854775808 > 0 then (bs.length - 8 + 9223372036854775808 : Int) % 18446744073709551616 - 9223372036854775808 else 0) = ((bs.length - 8 : Nat) : Int) := by
     split <;> omega
   unfold Try.f82
   simp -implicitDefEqProofs only [go_sem,coe,zaa,Nat.reduceAdd,Nat.reduceSub,Nat.reduceMul,Int.reduceToNat,reduceCtorEq,↓reduceIte,Int.reducePow,Nat.reducePow,Int.reduceMod,Nat.reduceLeDiff,Int.reduceLE,Int.reduceNe,Int.reduceEq,Nat.reduceEqDiff,Nat.reduceLT,Nat.reduceBEq,ty,noS,em]
   refine zbr ⟨fun m σ => ∃ (i X : Nat),m = (zch bs).length - i ∧ i ≤ (zch bs).length ∧ X < 256 ^ i ∧ unfL ((zch bs).drop i) X = unfL (zch bs) 0 ∧
     σ = ⟨[.sb bs f,.junk,.junk,.w (.int .u64 X),.w (.int .i64 ((bs.length - 8 + i : Nat) : Int)),.junk,.junk,.junk,.junk,.junk,.junk,.junk,.junk,.junk,.junk,.junk,.junk,.junk,.junk,.junk,.junk,.junk,.junk,.junk],[],4⟩,?_,?_⟩
   · refine ⟨_,_,zad [0,1,2,3] rfl rfl rfl ?_ ?_,0,0,rfl,by omega,by simp,rfl,rfl⟩
     · simp only [ssT,zae,zaf,setSlot,gOf,AV.ren,renL,Blk.ren,Ax.look,Ax.put,reduceCtorEq,↓reduceIte,Nat.reduceEqDiff,Nat.reduceLT,Nat.reduceAdd,List.length_append,List.length_cons,List.length_nil,Option.some.injEq]; simp
     · simp only [ssT,zae,zaf,setSlot,gOf,AV.ren,renL,Blk.ren,Ax.look,Ax.put,reduceCtorEq,↓reduceIte,Nat.reduceEqDiff,Nat.reduceLT,Nat.reduceAdd,List.length_append,List.length_cons,List.length_nil,Option.some.injEq]
   · rintro m σ ⟨i,X,rfl,hi,hX,hu,rfl⟩
     obtain ⟨k,hk⟩ : ∃ k,bs.length - 8 + i = k := ⟨_,rfl⟩
     rw [hk]
     simp -implicitDefEqProofs only [go_sem,coe,zaa,Nat.reduceAdd,Nat.reduceSub,Nat.reduceMul,Int.reduceToNat,reduceCtorEq,↓reduceIte,Int.reducePow,Nat.reducePow,Int.reduceMod,Nat.reduceLeDiff,Int.reduceLE,Int.reduceNe,Int.reduceEq,Nat.reduceEqDiff,Nat.reduceLT,Nat.reduceBEq,ty,noS,decide_eq_true_eq,decide_eq_false_iff_not]
     refine ⟨fun hc => ?_,fun hc => ?_⟩
     · have hil : i < (zch bs).length := by omega
       have h7 : (256 : Nat) ^ i ≤ 256 ^ 7 := Nat.pow_le_pow_right (by decide) (by omega)
       have h7' : (256 : Nat) ^ 7 = 72057594037927936 := by simp
       have hb := (zch bs)[i].toNat_lt
       rw [List.drop_eq_getElem_cons hil] at hu
       have eg : bs.getD k 0 = (zch bs)[i] := by
         have : (zch bs)[i] = bs[k]'(by omega) := by simp [zch,hk]
         rw [this]; simp [show k < bs.length by omega]
       simp only [eg]
       refine ⟨⟨by omega,by omega⟩,(zch bs).length - (i + 1),_,by omega,zad [0,1,2,3] rfl rfl rfl ?_ ?_,i + 1,X * 256 + (zch bs)[i].toNat,rfl,by omega,?_,hu,rfl⟩
       · simp only [ssT,zae,zaf,setSlot,gOf,AV.ren,renL,Blk.ren,Ax.look,Ax.put,reduceCtorEq,↓reduceIte,Nat.reduceEqDiff,Nat.reduceLT,Nat.reduceAdd,List.length_append,List.length_cons,List.length_nil,Option.some.injEq]; omega
       · simp only [ssT,zae,zaf,setSlot,gOf,AV.ren,renL,Blk.ren,Ax.look,Ax.put,reduceCtorEq,↓reduceIte,Nat.reduceEqDiff,Nat.reduceLT,Nat.reduceAdd,List.length_append,List.length_cons,List.length_nil,Option.some.injEq]
       · rw [Nat.pow_succ]; omega
     · have hil : i = (zch bs).length := by omega
       subst hil
       rw [List.drop_length] at hu
       simp only [unfL,List.foldl_nil] at hu ⊢
       rw [← hu]
 · exact hp.elim
end
end Go.Proofs.Ytmedjkjoannbmaa
namespace Go.Proofs.Ytmedjkjoannbmaa
open Ax
def rrd (bs : List UInt8) (f : Bool) (e : Int) : AV := .agg [.sb bs f,.w (.int .i64 e)]
def zat : zai
 | [.agg [.sb bs f,.w (.int k e)]],[] => ⟨k = .i64 ∧ bs.length ≤ 1000000,.tup [rrd (numL bs e) f (numE bs e),.w (.int .i64 (numN bs e))],[]⟩
 | _,_ => zba
def S27 (f : FuncId) : Option zai :=
 match f with
 | 85 => some getS
 | _ => none
theorem S27_ok : Fns Try.prog S27 := by
 intro f s h
 unfold S27 at h
 split at h
 · injection h with h; subst h; exact ⟨⟨_,Try.func85,by kernel_rfl,by kernel_rfl⟩,rget_sound⟩
 · cases h
section
set_option maxRecDepth 100000
theorem rrnum_sound : zaq Try.prog 56 zat := by
 refine zak (S := S27) (T := ty) zas ty_ok S27_ok Try.func56 (c := Try.f56.body.getD .skip) (by kernel_rfl) (by kernel_rfl) (fun xs pins hp _ => ?_)
 unfold zat at hp ⊢
 split at hp
 · rename_i bs f k e _
   obtain ⟨rfl,hlen⟩ := hp
   refine ⟨by simp,?_⟩
   obtain ⟨hg1,hg2⟩ := getL_ok bs
   have e1 : List.take (bs.length - (getL bs).2.1) (List.drop (getL bs).2.1 bs) = bs.drop (getL bs).2.1 := List.take_of_length_le (by simp)
   unfold Try.f56
   by_cases he : e = 0
   · subst he
     have d0 : decide ((0 : Int) = 0) = true := rfl
     by_cases hr : (getL bs).2.2 = 0
     · simp only [go_sem,coe,zaa,Nat.reduceAdd,Nat.reduceSub,Nat.reduceMul,Int.reduceToNat,reduceCtorEq,↓reduceIte,Int.reducePow,Nat.reducePow,Int.reduceMod,Nat.reduceLeDiff,Int.reduceLE,Int.reduceNe,Int.reduceEq,Nat.reduceEqDiff,Nat.reduceLT,Nat.reduceBEq,ty,S27,getS,hlen,e1,hr,Int.toNat_natCast,rrd,numL,numE,numN,if_true,fillS]
       omega
     · obtain ⟨h3,h4⟩ := hg2 hr
       have d1 : decide ((getL bs).2.2 = 0) = false := decide_eq_false hr
       simp only [go_sem,coe,zaa,Nat.reduceAdd,Nat.reduceSub,Nat.reduceMul,Int.reduceToNat,reduceCtorEq,↓reduceIte,Int.reducePow,Nat.reducePow,Int.reduceMod,Nat.reduceLeDiff,Int.reduceLE,Int.reduceNe,Int.reduceEq,Nat.reduceEqDiff,Nat.reduceLT,Nat.reduceBEq,ty,S27,getS,hlen,e1,d1,Int.toNat_natCast,rrd,numL,numE,numN,if_true,h3,h4,List.drop_zero]
   · have d0 : decide (e = 0) = false := decide_eq_false he
     simp only [go_sem,coe,zaa,Nat.reduceAdd,Nat.reduceSub,Nat.reduceMul,Int.reduceToNat,reduceCtorEq,↓reduceIte,Int.reducePow,Nat.reducePow,Int.reduceMod,Nat.reduceLeDiff,Int.reduceLE,Int.reduceNe,Int.reduceEq,Nat.reduceEqDiff,Nat.reduceLT,Nat.reduceBEq,ty,S27,getS,d0,rrd,numL,numE,numN,if_neg he]
 · exact hp.elim
def zbi : zai
 | [.agg [.sb bs f,.w (.int k e)],.w (.int k' n)],[] => ⟨k = .i64 ∧ k' = .i64 ∧ bs.length ≤ 1000000,.tup [rrd (zfj n bs e) f (rfixE n bs e),.w (.int .u64 (zdz n bs e))],[]⟩
 | _,_ => zba
def S29 (f : FuncId) : Option zai :=
 match f with
 | 82 => some unfS
 | _ => none
theorem S29_ok : Fns Try.prog S29 := by
 intro f s h
 unfold S29 at h
 split at h
 · injection h with h; subst h; exact ⟨⟨_,Try.func82,by kernel_rfl,by kernel_rfl⟩,runfixed_sound⟩
 · cases h
theorem rrfix_sound : zaq Try.prog 50 zbi := by
 refine zak (S := S29) (T := tyF) zas tyF_ok S29_ok Try.func50 (c := Try.f50.body.getD .skip) (by kernel_rfl) (by kernel_rfl) (fun xs pins hp _ => ?_)
 unfold zbi at hp ⊢
 split at hp
 · rename_i bs f k e k' n _
   obtain ⟨rfl,rfl,hlen⟩ := hp
   refine ⟨by simp,?_⟩
   have hc := clampI_range n
   have em : (if (if (8 : Int) < n then (8 : Int) else n) > 0 then (if (8 : Int) < n then (8 : Int) else n) else 0) = zfo n := by
     unfold zfo
     repeat' split
     all_goals omega
   have em2 : (if (0 : Int) > (if (8 : Int) < n then (8 : Int) else n) then (0 : Int) else (if (8 : Int) < n then (8 : Int) else n)) = zfo n := by
     unfold zfo
     repeat' split
     all_goals omega
   obtain ⟨W,hW⟩ := Int.eq_ofNat_of_zero_le hc.1
   have hW8 : W ≤ 8 := by omega
   have e1 : List.take (bs.length - W) (List.drop W bs) = bs.drop W := List.take_of_length_le (by simp)
   unfold Try.f50
   by_cases he : e = 0
   · subst he
     by_cases hl : bs.length < W
     · have d1 : decide ((bs.length : Int) < W) = true := decide_eq_true (by omega)
       have hl2 : (bs.length : Int) < (W : Int) := by omega
       simp only [go_sem,coe,zaa,Nat.reduceAdd,Nat.reduceSub,Nat.reduceMul,Int.reduceToNat,reduceCtorEq,↓reduceIte,Int.reducePow,Nat.reducePow,Int.reduceMod,Nat.reduceLeDiff,Int.reduceLE,Int.reduceNe,Int.reduceEq,Nat.reduceEqDiff,Nat.reduceLT,Nat.reduceBEq,tyF,zdm,ty,S29,em,em2,hW,d1,rrd,zfj,rfixE,zdz,tkB,tkL,tkE,if_true,hl2]
       simp [zch,unfL]
     · have d1 : decide ((bs.length : Int) < W) = false := decide_eq_false (by omega)
       have hl3 : W ≤ bs.length := by omega
       have hl2 : ¬ (bs.length : Int) < (W : Int) := by omega
       simp only [go_sem,coe,zaa,Nat.reduceAdd,Nat.reduceSub,Nat.reduceMul,Int.reduceToNat,reduceCtorEq,↓reduceIte,Int.reducePow,Nat.reducePow,Int.reduceMod,Nat.reduceLeDiff,Int.reduceLE,Int.reduceNe,Int.reduceEq,Nat.reduceEqDiff,Nat.reduceLT,Nat.reduceBEq,tyF,zdm,ty,S29,unfS,em,em2,hW,d1,e1,rrd,zfj,rfixE,zdz,tkB,tkL,tkE,if_true,if_neg hl2,Int.toNat_natCast,Nat.sub_zero,List.length_take,hl3,if_true]
       omega
   · have d0 : decide (e = 0) = false := decide_eq_false he
     simp only [go_sem,coe,zaa,Nat.reduceAdd,Nat.reduceSub,Nat.reduceMul,Int.reduceToNat,reduceCtorEq,↓reduceIte,Int.reducePow,Nat.reducePow,Int.reduceMod,Nat.reduceLeDiff,Int.reduceLE,Int.reduceNe,Int.reduceEq,Nat.reduceEqDiff,Nat.reduceLT,Nat.reduceBEq,tyF,zdm,ty,S29,em,em2,hW,d0,rrd,zfj,rfixE,zdz,if_neg he]
 · exact hp.elim
def zav : zai
 | [.agg [.sb bs f,.w (.int k e)],.w (.int k' m)],[] => ⟨k = .i64 ∧ k' = .i64 ∧ bs.length ≤ 1000000,.tup [rrd (rtL m bs e) f (rtE m bs e),.str (rtS' m bs e)],[]⟩
 | _,_ => zba
def S31 (f : FuncId) : Option zai :=
 match f with
 | 56 => some zat
 | _ => none
theorem S31_ok : Fns Try.prog S31 := by
 intro f s h
 unfold S31 at h
 split at h
 · injection h with h; subst h; exact ⟨⟨_,Try.func56,by kernel_rfl,by kernel_rfl⟩,rrnum_sound⟩
 · cases h
end
end Go.Proofs.Ytmedjkjoannbmaa
namespace Go.Proofs.Ytmedjkjoannbmaa
open Ax
theorem Ax.awpO_loopR {S SO : zal} {T : zag} {pl : XPlan} {c : Code} {Q : Exit → ASt → Prop} {σ : ASt} (R : Exit → ASt → Prop) (h : ALoop (awpO S SO T pl c) R σ) (hR : ∀ e σ2,R e σ2 → Q e σ2) : ALoop (awpO S SO T pl c) Q σ := by
 obtain ⟨I,hst,hr⟩ := h
 refine ⟨I,hst,fun n σ' hI => awpO_mono c _ _ σ' ?_ (hr n σ' hI)⟩
 intro e σ1 h
 cases e with
 | normal => exact h
 | _ => obtain ⟨σ2,h1,h2⟩ := h; exact ⟨σ2,h1,hR _ _ h2⟩
def dSt (st : zaz → zaz) : Nat → zaz → Nat
 | 0,_ => 0
 | k + 1,s => if s.2 = 0 then dSt st k (st s) + 1 else 0
def c65 : Cnt := fun st s n => dSt st (min (max n 0) 65).toNat s
theorem itS_succ (st : zaz → zaz) (s : zaz) : ∀ j,itS st (st s) j = itS st s (j + 1)
 | 0 => rfl
 | j + 1 => by
   show st (itS st (st s) j) = st (itS st s (j + 1))
   rw [itS_succ st s j]
theorem dSt_full (st : zaz → zaz) : ∀ (n : Nat) (s : zaz),(∀ j,j ≤ n → (itS st s j).2 = 0) → dSt st n s = n
 | 0,_,_ => rfl
 | n + 1,s,h => by
   unfold dSt
   have h0 : s.2 = 0 := h 0 (by omega)
   rw [if_pos h0,dSt_full st n (st s) (fun j hj => by rw [itS_succ]; exact h (j + 1) (by omega))]
theorem c65_good : c65.good := by
 intro st s n hn h
 unfold c65
 rw [show (min (max (n : Int) 0) 65).toNat = n by omega]
 exact dSt_full st n s h
end Go.Proofs.Ytmedjkjoannbmaa
namespace Go.Proofs.Ytmedjkjoannbmaa
open Ax
def rtextPl : Plan := fun id => match id with
 | 8 => some [(5,10),(6,10),(8,10)]
 | _ => none
section
set_option maxRecDepth 100000
theorem rrtext_sound : zaq Try.prog 57 zav := by
 refine fn_soundF (S := S31) (T := tyC) (pl := rtextPl) zas tyC_ok S31_ok Try.func57 (c := Try.f57.body.getD .skip) (by kernel_rfl) (by kernel_rfl) (fun xs pins hp _ => ?_)
 unfold zav at hp ⊢
 split at hp
 · rename_i bs f k e k' m _
   obtain ⟨rfl,rfl,hlen⟩ := hp
   refine ⟨by simp,?_⟩
   have em : (if (0 : Int) > m then (0 : Int) else m) = max m 0 := by split <;> omega
   have em2 : (if m > (0 : Int) then m else (0 : Int)) = max m 0 := by split <;> omega
   obtain ⟨B,hB⟩ : ∃ B,numL bs e = B := ⟨_,rfl⟩
   obtain ⟨N,hN⟩ : ∃ N,numN bs e = N := ⟨_,rfl⟩
   obtain ⟨E,hE⟩ : ∃ E,numE bs e = E := ⟨_,rfl⟩
   have hBl := zan bs e
   rw [hB] at hBl
   have hok : rtOk m bs e ↔ E = 0 ∧ 0 ≤ N ∧ N ≤ max m 0 := by unfold rtOk; rw [hE,hN]
   unfold Try.f57
   by_cases hE0 : E = 0
   · have d1 : decide (E = 0) = true := decide_eq_true hE0
     by_cases hN0 : N < 0
     · have d2 : decide (N < 0) = true := decide_eq_true hN0
       have hr : ¬ rtOk m bs e := fun h => by have := hok.1 h; omega
       simp only [go_sem,coe,zac,Nat.reduceAdd,Nat.reduceSub,Nat.reduceMul,Int.reduceToNat,reduceCtorEq,↓reduceIte,Int.reducePow,Nat.reducePow,Int.reduceMod,Nat.reduceLeDiff,Int.reduceLE,Int.reduceNe,Int.reduceEq,Nat.reduceEqDiff,Nat.reduceLT,Nat.reduceBEq,List.map_cons,List.map_nil,List.toList_toArray,Array.toList_append,Option.toArray_some,Option.toArray_none,Bool.and_self,tyC,zes,ty,S31,rtextPl,zat,hlen,rrd,hB,hN,hE,d1,d2,em,em2,rtL,rtE,rtS',hr,if_false,hE0,ne_eq,not_true_eq_false]
       refine ⟨_,Weak.refl _,?_⟩
       simp only [go_sem,coe,zac,Nat.reduceAdd,Nat.reduceSub,Nat.reduceMul,Int.reduceToNat,reduceCtorEq,↓reduceIte,Int.reducePow,Nat.reducePow,Int.reduceMod,Nat.reduceLeDiff,Int.reduceLE,Int.reduceNe,Int.reduceEq,Nat.reduceEqDiff,Nat.reduceLT,Nat.reduceBEq,List.map_cons,List.map_nil,List.toList_toArray,Array.toList_append,Option.toArray_some,Option.toArray_none,Bool.and_self,tyC,zes,ty]
     · have d2 : decide (N < 0) = false := decide_eq_false hN0
       by_cases hNm : max m 0 < N
       · have d3 : decide (max m 0 < N) = true := decide_eq_true hNm
         have hr : ¬ rtOk m bs e := fun h => by have := hok.1 h; omega
         simp only [go_sem,coe,zac,Nat.reduceAdd,Nat.reduceSub,Nat.reduceMul,Int.reduceToNat,reduceCtorEq,↓reduceIte,Int.reducePow,Nat.reducePow,Int.reduceMod,Nat.reduceLeDiff,Int.reduceLE,Int.reduceNe,Int.reduceEq,Nat.reduceEqDiff,Nat.reduceLT,Nat.reduceBEq,List.map_cons,List.map_nil,List.toList_toArray,Array.toList_append,Option.toArray_some,Option.toArray_none,Bool.and_self,tyC,zes,ty,S31,rtextPl,zat,hlen,rrd,hB,hN,hE,d1,d2,d3,em,em2,rtL,rtE,rtS',hr,if_false,hE0,ne_eq,not_true_eq_false]
         refine ⟨_,Weak.refl _,?_⟩
         simp only [go_sem,coe,zac,Nat.reduceAdd,Nat.reduceSub,Nat.reduceMul,Int.reduceToNat,reduceCtorEq,↓reduceIte,Int.reducePow,Nat.reducePow,Int.reduceMod,Nat.reduceLeDiff,Int.reduceLE,Int.reduceNe,Int.reduceEq,Nat.reduceEqDiff,Nat.reduceLT,Nat.reduceBEq,List.map_cons,List.map_nil,List.toList_toArray,Array.toList_append,Option.toArray_some,Option.toArray_none,Bool.and_self,tyC,zes,ty]
       · have d3 : decide (max m 0 < N) = false := decide_eq_false hNm
         have hr : rtOk m bs e := hok.2 ⟨hE0,by omega,by omega⟩
         obtain ⟨M,rfl⟩ := Int.eq_ofNat_of_zero_le (show 0 ≤ N by omega)
         have e1 : List.take (B.length - M) (List.drop M B) = B.drop M := List.take_of_length_le (by simp)
         by_cases hl : (B.length : Int) < (M : Int)
         · have d4 : decide ((B.length : Int) < (M : Int)) = true := decide_eq_true hl
           simp only [go_sem,coe,zac,Nat.reduceAdd,Nat.reduceSub,Nat.reduceMul,Int.reduceToNat,reduceCtorEq,↓reduceIte,Int.reducePow,Nat.reducePow,Int.reduceMod,Nat.reduceLeDiff,Int.reduceLE,Int.reduceNe,Int.reduceEq,Nat.reduceEqDiff,Nat.reduceLT,Nat.reduceBEq,List.map_cons,List.map_nil,List.toList_toArray,Array.toList_append,Option.toArray_some,Option.toArray_none,Bool.and_self,tyC,zes,ty,S31,rtextPl,zat,hlen,rrd,hB,hN,hE,d1,d2,d3,d4,em,em2,rtL,rtE,rtS',hr,if_true,hE0,ne_eq,not_true_eq_false,if_false,tkB,tkL,tkE,hl]
           refine ⟨_,Weak.refl _,?_⟩
           simp only [go_sem,coe,zac,Nat.reduceAdd,Nat.reduceSub,Nat.reduceMul,Int.reduceToNat,reduceCtorEq,↓reduceIte,Int.reducePow,Nat.reducePow,Int.reduceMod,Nat.reduceLeDiff,Int.reduceLE,Int.reduceNe,Int.reduceEq,Nat.reduceEqDiff,Nat.reduceLT,Nat.reduceBEq,List.map_cons,List.map_nil,List.toList_toArray,Array.toList_append,Option.toArray_some,Option.toArray_none,Bool.and_self,tyC,zes,ty]
         · have d4 : decide ((B.length : Int) < (M : Int)) = false := decide_eq_false hl
           simp only [go_sem,coe,zac,Nat.reduceAdd,Nat.reduceSub,Nat.reduceMul,Int.reduceToNat,reduceCtorEq,↓reduceIte,Int.reducePow,Nat.reducePow,Int.reduceMod,Nat.reduceLeDiff,Int.reduceLE,Int.reduceNe,Int.reduceEq,Nat.reduceEqDiff,Nat.reduceLT,Nat.reduceBEq,List.map_cons,List.map_nil,List.toList_toArray,Array.toList_append,Option.toArray_some,Option.toArray_none,Bool.and_self,tyC,zes,ty,S31,rtextPl,zat,hlen,rrd,hB,hN,hE,d1,d2,d3,d4,em,em2,rtL,rtE,rtS',hr,if_true,hE0,ne_eq,not_true_eq_false,if_false,tkB,tkL,tkE,if_neg hl,e1,Int.toNat_natCast,Nat.sub_zero]
           refine ⟨by omega,by omega,?_⟩
           refine ⟨_,Weak.refl _,?_⟩
           simp only [go_sem,coe,zac,Nat.reduceAdd,Nat.reduceSub,Nat.reduceMul,Int.reduceToNat,reduceCtorEq,↓reduceIte,Int.reducePow,Nat.reducePow,Int.reduceMod,Nat.reduceLeDiff,Int.reduceLE,Int.reduceNe,Int.reduceEq,Nat.reduceEqDiff,Nat.reduceLT,Nat.reduceBEq,List.map_cons,List.map_nil,List.toList_toArray,Array.toList_append,Option.toArray_some,Option.toArray_none,Bool.and_self,tyC,zes,ty]
   · have d1 : decide (E = 0) = false := decide_eq_false hE0
     have hr : ¬ rtOk m bs e := fun h => hE0 (hok.1 h).1
     simp only [go_sem,coe,zac,Nat.reduceAdd,Nat.reduceSub,Nat.reduceMul,Int.reduceToNat,reduceCtorEq,↓reduceIte,Int.reducePow,Nat.reducePow,Int.reduceMod,Nat.reduceLeDiff,Int.reduceLE,Int.reduceNe,Int.reduceEq,Nat.reduceEqDiff,Nat.reduceLT,Nat.reduceBEq,List.map_cons,List.map_nil,List.toList_toArray,Array.toList_append,Option.toArray_some,Option.toArray_none,Bool.and_self,tyC,zes,ty,S31,rtextPl,zat,hlen,rrd,hB,hN,hE,d1,em,em2,rtL,rtE,rtS',hr,if_false,ne_eq,hE0,not_false_eq_true,if_true]
     refine ⟨_,Weak.refl _,?_⟩
     simp only [go_sem,coe,zac,Nat.reduceAdd,Nat.reduceSub,Nat.reduceMul,Int.reduceToNat,reduceCtorEq,↓reduceIte,Int.reducePow,Nat.reducePow,Int.reduceMod,Nat.reduceLeDiff,Int.reduceLE,Int.reduceNe,Int.reduceEq,Nat.reduceEqDiff,Nat.reduceLT,Nat.reduceBEq,List.map_cons,List.map_nil,List.toList_toArray,Array.toList_append,Option.toArray_some,Option.toArray_none,Bool.and_self,tyC,zes,ty]
 · exact hp.elim
end
end Go.Proofs.Ytmedjkjoannbmaa
namespace Go.Proofs.Ytmedjkjoannbmaa
open Ax
def rrgetS : zai
 | [.agg [.sb bs f,.w (.int .i64 e)]],[] => ⟨bs.length ≤ 1000000,.tup [rrd (gb5 bs e) f (ge5 bs e),grec bs e,.w (.int .i64 (gerr bs e))],[]⟩
 | _,_ => zba
def zbe : Plan := fun id => match id with
 | 10 => some [(2,4),(3,4),(2,5),(3,5)]
 | 13 => some [(1,2)]
 | _ => none
def zbq (f : FuncId) : Option zai :=
 match f with
 | 50 => some zbi
 | 56 => some zat
 | 57 => some zav
 | 87 => some zbh
 | _ => none
theorem Srrget_ok : Fns Try.prog zbq := by
 intro f s h
 unfold zbq at h
 split at h
 · injection h with h; subst h; exact ⟨⟨_,Try.func50,by kernel_rfl,by kernel_rfl⟩,rrfix_sound⟩
 · injection h with h; subst h; exact ⟨⟨_,Try.func56,by kernel_rfl,by kernel_rfl⟩,rrnum_sound⟩
 · injection h with h; subst h; exact ⟨⟨_,Try.func57,by kernel_rfl,by kernel_rfl⟩,rrtext_sound⟩
 · injection h with h; subst h; exact ⟨⟨_,Try.func87,by kernel_rfl,by kernel_rfl⟩,rrcheck_sound⟩
 · cases h
section
set_option maxRecDepth 100000
set_option maxHeartbeats 2000000 in
theorem rrecget_sound : zaq Try.prog 86 rrgetS := by
 refine fn_soundF (S := zbq) (T := ty) (pl := zbe) zas ty_ok Srrget_ok Try.func86 (c := Try.f86.body.getD .skip) (by kernel_rfl) (by kernel_rfl) (fun xs pins hp _ => ?_)
 unfold rrgetS at hp ⊢
 split at hp
 · rename_i bs f e _
   have hlen : bs.length ≤ 1000000 := hp
   refine ⟨by simp,?_⟩
   have hr := rfix1 bs e
   have hN : zdz 1 bs e = ((g0 bs e : Nat) : Int) := by unfold g0; omega
   have hN2 : g0 bs e < 256 := by omega
   have hA := Nat.mod_two_eq_zero_or_one (g0 bs e)
   have q1 : (gb1 bs e).length ≤ 1000000 := by have := zbp 1 bs e; unfold gb1; omega
   have q2 : (gb2 bs e).length ≤ 1000000 := by have := zan (gb1 bs e) (ge1 bs e); unfold gb2; omega
   have q3 : (gb3 bs e).length ≤ 1000000 := by have := zan (gb2 bs e) (ge2 bs e); unfold gb3; omega
   have q4 : (gb4 bs e).length ≤ 1000000 := by have := zdi 64 (gb3 bs e) (ge3 bs e); unfold gb4; split <;> omega
   have i1 : zfj 1 bs e = gb1 bs e := rfl
   have i2 : rfixE 1 bs e = ge1 bs e := rfl
   have i3 : numN (gb1 bs e) (ge1 bs e) = gd bs e := rfl
   have i4 : numL (gb1 bs e) (ge1 bs e) = gb2 bs e := rfl
   have i5 : numE (gb1 bs e) (ge1 bs e) = ge2 bs e := rfl
   have i6 : numN (gb2 bs e) (ge2 bs e) = gt bs e := rfl
   have i7 : numL (gb2 bs e) (ge2 bs e) = gb3 bs e := rfl
   have i8 : numE (gb2 bs e) (ge2 bs e) = ge3 bs e := rfl
   unfold Try.f86
   rcases Bool.eq_false_or_eq_true (gk bs e) with hk | hk <;> rcases Bool.eq_false_or_eq_true (gdd bs e) with hdd | hdd
   · have c1 : decide ((((g0 bs e : Nat) : Int)).tmod 2 = 1) = true := decide_eq_true (by rw [Int.tmod_eq_emod_of_nonneg (by omega)]; unfold gk at hk; have := of_decide_eq_true hk; omega)
     have c2 : decide (((((g0 bs e : Nat) : Int)).tdiv 2 % 18446744073709551616).tmod 2 = 1) = true := decide_eq_true (by rw [Int.tdiv_eq_ediv_of_nonneg (by omega),Int.tmod_eq_emod_of_nonneg (by omega)]; unfold gdd at hdd; have := of_decide_eq_true hdd; omega)
     have x1 : rtL 64 (gb3 bs e) (ge3 bs e) = gb4 bs e := by unfold gb4; rw [hk]; rfl
     have x2 : rtE 64 (gb3 bs e) (ge3 bs e) = ge4 bs e := by unfold ge4; rw [hk]; rfl
     have x3 : rtS' 64 (gb3 bs e) (ge3 bs e) = gkey bs e := by unfold gkey; rw [hk]; rfl
     have x4 : gb5 bs e = gb4 bs e := by unfold gb5; rw [hdd]; rfl
     have x5 : ge5 bs e = ge4 bs e := by unfold ge5; rw [hdd]; rfl
     have x6 : gval bs e = [] := by unfold gval; rw [hdd]; rfl
     by_cases h5 : ge4 bs e = 0
     · have e5 : ge5 bs e = 0 := by first | exact h5 | (rw [x5]; exact h5)
       by_cases h4 : 4 ≤ g0 bs e
       · have d4 : decide ((3 : Int) < ((g0 bs e : Nat) : Int)) = true := decide_eq_true (by omega)
         have hG : gerr bs e = 4 := by unfold gerr; rw [if_neg (by simpa using e5),if_pos (.inl h4)]
         have hV : grec bs e = recV 0 0 false [] false [] := by unfold grec; rw [hG]; rfl
         simp only [go_sem,coe,zac,Nat.reduceAdd,Nat.reduceSub,Nat.reduceMul,Int.reduceToNat,reduceCtorEq,↓reduceIte,Int.reducePow,Nat.reducePow,Int.reduceMod,Nat.reduceLeDiff,Int.reduceLE,Int.reduceNe,Int.reduceEq,Nat.reduceEqDiff,Nat.reduceLT,Nat.reduceBEq,List.map_cons,List.map_nil,List.toList_toArray,Array.toList_append,Option.toArray_some,Option.toArray_none,Bool.and_self,ty,zbq,zbe,zbi,zat,zav,zbh,rrd,fillS,recV,hN,c1,c2,i1,i2,i3,i4,i5,i6,i7,i8,x1,x2,x3,x4,x5,x6,hlen,q1,q2,q3,q4,h5,d4,hG,hV]
         refine ⟨_,Weak.refl _,?_⟩
         simp only [go_sem,coe,zac,Nat.reduceAdd,Nat.reduceSub,Nat.reduceMul,Int.reduceToNat,reduceCtorEq,↓reduceIte,Int.reducePow,Nat.reducePow,Int.reduceMod,Nat.reduceLeDiff,Int.reduceLE,Int.reduceNe,Int.reduceEq,Nat.reduceEqDiff,Nat.reduceLT,Nat.reduceBEq,List.map_cons,List.map_nil,List.toList_toArray,Array.toList_append,Option.toArray_some,Option.toArray_none,Bool.and_self,ty,zbq,zbe,zbi,zat,zav,zbh,rrd,fillS,recV,hN,c1,c2,i1,i2,i3,i4,i5,i6,i7,i8,x1,x2,x3,x4,x5,x6,hlen,q1,q2,q3,q4,h5,d4,hG,hV]
       · have d4 : decide ((3 : Int) < ((g0 bs e : Nat) : Int)) = false := decide_eq_false (by omega)
         by_cases hc : rchk (gd bs e) (gt bs e) true (gkey bs e) true ([]) = 0
         · have hG : gerr bs e = 0 := by unfold gerr; rw [if_neg (by simpa using e5),hk,hdd,x6,if_neg (by rintro (h | h); exact h4 h; exact h hc)]
           have hV : grec bs e = recV (gd bs e) (gt bs e) true (gkey bs e) true ([]) := by unfold grec; rw [hG,if_pos rfl,hk,hdd,x6]
           simp only [go_sem,coe,zac,Nat.reduceAdd,Nat.reduceSub,Nat.reduceMul,Int.reduceToNat,reduceCtorEq,↓reduceIte,Int.reducePow,Nat.reducePow,Int.reduceMod,Nat.reduceLeDiff,Int.reduceLE,Int.reduceNe,Int.reduceEq,Nat.reduceEqDiff,Nat.reduceLT,Nat.reduceBEq,List.map_cons,List.map_nil,List.toList_toArray,Array.toList_append,Option.toArray_some,Option.toArray_none,Bool.and_self,ty,zbq,zbe,zbi,zat,zav,zbh,rrd,fillS,recV,hN,c1,c2,i1,i2,i3,i4,i5,i6,i7,i8,x1,x2,x3,x4,x5,x6,hlen,q1,q2,q3,q4,h5,d4,hG,hV,hc]
           refine ⟨_,Weak.refl _,?_⟩
           simp only [go_sem,coe,zac,Nat.reduceAdd,Nat.reduceSub,Nat.reduceMul,Int.reduceToNat,reduceCtorEq,↓reduceIte,Int.reducePow,Nat.reducePow,Int.reduceMod,Nat.reduceLeDiff,Int.reduceLE,Int.reduceNe,Int.reduceEq,Nat.reduceEqDiff,Nat.reduceLT,Nat.reduceBEq,List.map_cons,List.map_nil,List.toList_toArray,Array.toList_append,Option.toArray_some,Option.toArray_none,Bool.and_self,ty,zbq,zbe,zbi,zat,zav,zbh,rrd,fillS,recV,hN,c1,c2,i1,i2,i3,i4,i5,i6,i7,i8,x1,x2,x3,x4,x5,x6,hlen,q1,q2,q3,q4,h5,d4,hG,hV,hc]
         · have hG : gerr bs e = 4 := by unfold gerr; rw [if_neg (by simpa using e5),hk,hdd,x6,if_pos (.inr hc)]
           have hV : grec bs e = recV 0 0 false [] false [] := by unfold grec; rw [hG]; rfl
           have d5 : decide (rchk (gd bs e) (gt bs e) true (gkey bs e) true ([]) = 0) = false := decide_eq_false hc
           simp only [go_sem,coe,zac,Nat.reduceAdd,Nat.reduceSub,Nat.reduceMul,Int.reduceToNat,reduceCtorEq,↓reduceIte,Int.reducePow,Nat.reducePow,Int.reduceMod,Nat.reduceLeDiff,Int.reduceLE,Int.reduceNe,Int.reduceEq,Nat.reduceEqDiff,Nat.reduceLT,Nat.reduceBEq,List.map_cons,List.map_nil,List.toList_toArray,Array.toList_append,Option.toArray_some,Option.toArray_none,Bool.and_self,ty,zbq,zbe,zbi,zat,zav,zbh,rrd,fillS,recV,hN,c1,c2,i1,i2,i3,i4,i5,i6,i7,i8,x1,x2,x3,x4,x5,x6,hlen,q1,q2,q3,q4,h5,d4,hG,hV,d5]
           refine ⟨_,Weak.refl _,?_⟩
           simp only [go_sem,coe,zac,Nat.reduceAdd,Nat.reduceSub,Nat.reduceMul,Int.reduceToNat,reduceCtorEq,↓reduceIte,Int.reducePow,Nat.reducePow,Int.reduceMod,Nat.reduceLeDiff,Int.reduceLE,Int.reduceNe,Int.reduceEq,Nat.reduceEqDiff,Nat.reduceLT,Nat.reduceBEq,List.map_cons,List.map_nil,List.toList_toArray,Array.toList_append,Option.toArray_some,Option.toArray_none,Bool.and_self,ty,zbq,zbe,zbi,zat,zav,zbh,rrd,fillS,recV,hN,c1,c2,i1,i2,i3,i4,i5,i6,i7,i8,x1,x2,x3,x4,x5,x6,hlen,q1,q2,q3,q4,h5,d4,hG,hV,d5]
     · have e5 : ¬ ge5 bs e = 0 := by first | exact h5 | (rw [x5]; exact h5)
       have d5 : decide (ge4 bs e = 0) = false := decide_eq_false h5
       have hG : gerr bs e = ge4 bs e := by unfold gerr; rw [if_pos e5]; exact x5
       have hV : grec bs e = recV 0 0 false [] false [] := by unfold grec; rw [hG,if_neg h5]
       simp only [go_sem,coe,zac,Nat.reduceAdd,Nat.reduceSub,Nat.reduceMul,Int.reduceToNat,reduceCtorEq,↓reduceIte,Int.reducePow,Nat.reducePow,Int.reduceMod,Nat.reduceLeDiff,Int.reduceLE,Int.reduceNe,Int.reduceEq,Nat.reduceEqDiff,Nat.reduceLT,Nat.reduceBEq,List.map_cons,List.map_nil,List.toList_toArray,Array.toList_append,Option.toArray_some,Option.toArray_none,Bool.and_self,ty,zbq,zbe,zbi,zat,zav,zbh,rrd,fillS,recV,hN,c1,c2,i1,i2,i3,i4,i5,i6,i7,i8,x1,x2,x3,x4,x5,x6,hlen,q1,q2,q3,q4,d5,hG,hV]
       refine ⟨_,Weak.refl _,?_⟩
       simp only [go_sem,coe,zac,Nat.reduceAdd,Nat.reduceSub,Nat.reduceMul,Int.reduceToNat,reduceCtorEq,↓reduceIte,Int.reducePow,Nat.reducePow,Int.reduceMod,Nat.reduceLeDiff,Int.reduceLE,Int.reduceNe,Int.reduceEq,Nat.reduceEqDiff,Nat.reduceLT,Nat.reduceBEq,List.map_cons,List.map_nil,List.toList_toArray,Array.toList_append,Option.toArray_some,Option.toArray_none,Bool.and_self,ty,zbq,zbe,zbi,zat,zav,zbh,rrd,fillS,recV,hN,c1,c2,i1,i2,i3,i4,i5,i6,i7,i8,x1,x2,x3,x4,x5,x6,hlen,q1,q2,q3,q4,d5,hG,hV]
   · have c1 : decide ((((g0 bs e : Nat) : Int)).tmod 2 = 1) = true := decide_eq_true (by rw [Int.tmod_eq_emod_of_nonneg (by omega)]; unfold gk at hk; have := of_decide_eq_true hk; omega)
     have c2 : decide (((((g0 bs e : Nat) : Int)).tdiv 2 % 18446744073709551616).tmod 2 = 1) = false := decide_eq_false (by rw [Int.tdiv_eq_ediv_of_nonneg (by omega),Int.tmod_eq_emod_of_nonneg (by omega)]; unfold gdd at hdd; have := of_decide_eq_false hdd; omega)
     have x1 : rtL 64 (gb3 bs e) (ge3 bs e) = gb4 bs e := by unfold gb4; rw [hk]; rfl
     have x2 : rtE 64 (gb3 bs e) (ge3 bs e) = ge4 bs e := by unfold ge4; rw [hk]; rfl
     have x3 : rtS' 64 (gb3 bs e) (ge3 bs e) = gkey bs e := by unfold gkey; rw [hk]; rfl
     have x4 : rtL 512 (gb4 bs e) (ge4 bs e) = gb5 bs e := by unfold gb5; rw [hdd]; rfl
     have x5 : rtE 512 (gb4 bs e) (ge4 bs e) = ge5 bs e := by unfold ge5; rw [hdd]; rfl
     have x6 : rtS' 512 (gb4 bs e) (ge4 bs e) = gval bs e := by unfold gval; rw [hdd]; rfl
     by_cases h5 : ge5 bs e = 0
     · have e5 : ge5 bs e = 0 := by first | exact h5 | (rw [x5]; exact h5)
       by_cases h4 : 4 ≤ g0 bs e
       · have d4 : decide ((3 : Int) < ((g0 bs e : Nat) : Int)) = true := decide_eq_true (by omega)
         have hG : gerr bs e = 4 := by unfold gerr; rw [if_neg (by simpa using e5),if_pos (.inl h4)]
         have hV : grec bs e = recV 0 0 false [] false [] := by unfold grec; rw [hG]; rfl
         simp only [go_sem,coe,zac,Nat.reduceAdd,Nat.reduceSub,Nat.reduceMul,Int.reduceToNat,reduceCtorEq,↓reduceIte,Int.reducePow,Nat.reducePow,Int.reduceMod,Nat.reduceLeDiff,Int.reduceLE,Int.reduceNe,Int.reduceEq,Nat.reduceEqDiff,Nat.reduceLT,Nat.reduceBEq,List.map_cons,List.map_nil,List.toList_toArray,Array.toList_append,Option.toArray_some,Option.toArray_none,Bool.and_self,ty,zbq,zbe,zbi,zat,zav,zbh,rrd,fillS,recV,hN,c1,c2,i1,i2,i3,i4,i5,i6,i7,i8,x1,x2,x3,x4,x5,x6,hlen,q1,q2,q3,q4,h5,d4,hG,hV]
         refine ⟨_,Weak.refl _,?_⟩
         simp only [go_sem,coe,zac,Nat.reduceAdd,Nat.reduceSub,Nat.reduceMul,Int.reduceToNat,reduceCtorEq,↓reduceIte,Int.reducePow,Nat.reducePow,Int.reduceMod,Nat.reduceLeDiff,Int.reduceLE,Int.reduceNe,Int.reduceEq,Nat.reduceEqDiff,Nat.reduceLT,Nat.reduceBEq,List.map_cons,List.map_nil,List.toList_toArray,Array.toList_append,Option.toArray_some,Option.toArray_none,Bool.and_self,ty,zbq,zbe,zbi,zat,zav,zbh,rrd,fillS,recV,hN,c1,c2,i1,i2,i3,i4,i5,i6,i7,i8,x1,x2,x3,x4,x5,x6,hlen,q1,q2,q3,q4,h5,d4,hG,hV]
       · have d4 : decide ((3 : Int) < ((g0 bs e : Nat) : Int)) = false := decide_eq_false (by omega)
         by_cases hc : rchk (gd bs e) (gt bs e) true (gkey bs e) false (gval bs e) = 0
         · have hG : gerr bs e = 0 := by unfold gerr; rw [if_neg (by simpa using e5),hk,hdd,if_neg (by rintro (h | h); exact h4 h; exact h hc)]
           have hV : grec bs e = recV (gd bs e) (gt bs e) true (gkey bs e) false (gval bs e) := by unfold grec; rw [hG,if_pos rfl,hk,hdd]
           simp only [go_sem,coe,zac,Nat.reduceAdd,Nat.reduceSub,Nat.reduceMul,Int.reduceToNat,reduceCtorEq,↓reduceIte,Int.reducePow,Nat.reducePow,Int.reduceMod,Nat.reduceLeDiff,Int.reduceLE,Int.reduceNe,Int.reduceEq,Nat.reduceEqDiff,Nat.reduceLT,Nat.reduceBEq,List.map_cons,List.map_nil,List.toList_toArray,Array.toList_append,Option.toArray_some,Option.toArray_none,Bool.and_self,ty,zbq,zbe,zbi,zat,zav,zbh,rrd,fillS,recV,hN,c1,c2,i1,i2,i3,i4,i5,i6,i7,i8,x1,x2,x3,x4,x5,x6,hlen,q1,q2,q3,q4,h5,d4,hG,hV,hc]
           refine ⟨_,Weak.refl _,?_⟩
           simp only [go_sem,coe,zac,Nat.reduceAdd,Nat.reduceSub,Nat.reduceMul,Int.reduceToNat,reduceCtorEq,↓reduceIte,Int.reducePow,Nat.reducePow,Int.reduceMod,Nat.reduceLeDiff,Int.reduceLE,Int.reduceNe,Int.reduceEq,Nat.reduceEqDiff,Nat.reduceLT,Nat.reduceBEq,List.map_cons,List.map_nil,List.toList_toArray,Array.toList_append,Option.toArray_some,Option.toArray_none,Bool.and_self,ty,zbq,zbe,zbi,zat,zav,zbh,rrd,fillS,recV,hN,c1,c2,i1,i2,i3,i4,i5,i6,i7,i8,x1,x2,x3,x4,x5,x6,hlen,q1,q2,q3,q4,h5,d4,hG,hV,hc]
         · have hG : gerr bs e = 4 := by unfold gerr; rw [if_neg (by simpa using e5),hk,hdd,if_pos (.inr hc)]
           have hV : grec bs e = recV 0 0 false [] false [] := by unfold grec; rw [hG]; rfl
           have d5 : decide (rchk (gd bs e) (gt bs e) true (gkey bs e) false (gval bs e) = 0) = false := decide_eq_false hc
           simp only [go_sem,coe,zac,Nat.reduceAdd,Nat.reduceSub,Nat.reduceMul,Int.reduceToNat,reduceCtorEq,↓reduceIte,Int.reducePow,Nat.reducePow,Int.reduceMod,Nat.reduceLeDiff,Int.reduceLE,Int.reduceNe,Int.reduceEq,Nat.reduceEqDiff,Nat.reduceLT,Nat.reduceBEq,List.map_cons,List.map_nil,List.toList_toArray,Array.toList_append,Option.toArray_some,Option.toArray_none,Bool.and_self,ty,zbq,zbe,zbi,zat,zav,zbh,rrd,fillS,recV,hN,c1,c2,i1,i2,i3,i4,i5,i6,i7,i8,x1,x2,x3,x4,x5,x6,hlen,q1,q2,q3,q4,h5,d4,hG,hV,d5]
           refine ⟨_,Weak.refl _,?_⟩
           simp only [go_sem,coe,zac,Nat.reduceAdd,Nat.reduceSub,Nat.reduceMul,Int.reduceToNat,reduceCtorEq,↓reduceIte,Int.reducePow,Nat.reducePow,Int.reduceMod,Nat.reduceLeDiff,Int.reduceLE,Int.reduceNe,Int.reduceEq,Nat.reduceEqDiff,Nat.reduceLT,Nat.reduceBEq,List.map_cons,List.map_nil,List.toList_toArray,Array.toList_append,Option.toArray_some,Option.toArray_none,Bool.and_self,ty,zbq,zbe,zbi,zat,zav,zbh,rrd,fillS,recV,hN,c1,c2,i1,i2,i3,i4,i5,i6,i7,i8,x1,x2,x3,x4,x5,x6,hlen,q1,q2,q3,q4,h5,d4,hG,hV,d5]
     · have e5 : ¬ ge5 bs e = 0 := by first | exact h5 | (rw [x5]; exact h5)
       have d5 : decide (ge5 bs e = 0) = false := decide_eq_false h5
       have hG : gerr bs e = ge5 bs e := by unfold gerr; rw [if_pos e5]
       have hV : grec bs e = recV 0 0 false [] false [] := by unfold grec; rw [hG,if_neg h5]
       simp only [go_sem,coe,zac,Nat.reduceAdd,Nat.reduceSub,Nat.reduceMul,Int.reduceToNat,reduceCtorEq,↓reduceIte,Int.reducePow,Nat.reducePow,Int.reduceMod,Nat.reduceLeDiff,Int.reduceLE,Int.reduceNe,Int.reduceEq,Nat.reduceEqDiff,Nat.reduceLT,Nat.reduceBEq,List.map_cons,List.map_nil,List.toList_toArray,Array.toList_append,Option.toArray_some,Option.toArray_none,Bool.and_self,ty,zbq,zbe,zbi,zat,zav,zbh,rrd,fillS,recV,hN,c1,c2,i1,i2,i3,i4,i5,i6,i7,i8,x1,x2,x3,x4,x5,x6,hlen,q1,q2,q3,q4,d5,hG,hV]
       refine ⟨_,Weak.refl _,?_⟩
       simp only [go_sem,coe,zac,Nat.reduceAdd,Nat.reduceSub,Nat.reduceMul,Int.reduceToNat,reduceCtorEq,↓reduceIte,Int.reducePow,Nat.reducePow,Int.reduceMod,Nat.reduceLeDiff,Int.reduceLE,Int.reduceNe,Int.reduceEq,Nat.reduceEqDiff,Nat.reduceLT,Nat.reduceBEq,List.map_cons,List.map_nil,List.toList_toArray,Array.toList_append,Option.toArray_some,Option.toArray_none,Bool.and_self,ty,zbq,zbe,zbi,zat,zav,zbh,rrd,fillS,recV,hN,c1,c2,i1,i2,i3,i4,i5,i6,i7,i8,x1,x2,x3,x4,x5,x6,hlen,q1,q2,q3,q4,d5,hG,hV]
   · have c1 : decide ((((g0 bs e : Nat) : Int)).tmod 2 = 1) = false := decide_eq_false (by rw [Int.tmod_eq_emod_of_nonneg (by omega)]; unfold gk at hk; have := of_decide_eq_false hk; omega)
     have c2 : decide (((((g0 bs e : Nat) : Int)).tdiv 2 % 18446744073709551616).tmod 2 = 1) = true := decide_eq_true (by rw [Int.tdiv_eq_ediv_of_nonneg (by omega),Int.tmod_eq_emod_of_nonneg (by omega)]; unfold gdd at hdd; have := of_decide_eq_true hdd; omega)
     have x1 : gb3 bs e = gb4 bs e := by unfold gb4; rw [hk]; rfl
     have x2 : ge3 bs e = ge4 bs e := by unfold ge4; rw [hk]; rfl
     have x3 : gkey bs e = [] := by unfold gkey; rw [hk]; rfl
     have x4 : gb5 bs e = gb4 bs e := by unfold gb5; rw [hdd]; rfl
     have x5 : ge5 bs e = ge4 bs e := by unfold ge5; rw [hdd]; rfl
     have x6 : gval bs e = [] := by unfold gval; rw [hdd]; rfl
     by_cases h5 : ge4 bs e = 0
     · have e5 : ge5 bs e = 0 := by first | exact h5 | (rw [x5]; exact h5)
       by_cases h4 : 4 ≤ g0 bs e
       · have d4 : decide ((3 : Int) < ((g0 bs e : Nat) : Int)) = true := decide_eq_true (by omega)
         have hG : gerr bs e = 4 := by unfold gerr; rw [if_neg (by simpa using e5),if_pos (.inl h4)]
         have hV : grec bs e = recV 0 0 false [] false [] := by unfold grec; rw [hG]; rfl
         simp only [go_sem,coe,zac,Nat.reduceAdd,Nat.reduceSub,Nat.reduceMul,Int.reduceToNat,reduceCtorEq,↓reduceIte,Int.reducePow,Nat.reducePow,Int.reduceMod,Nat.reduceLeDiff,Int.reduceLE,Int.reduceNe,Int.reduceEq,Nat.reduceEqDiff,Nat.reduceLT,Nat.reduceBEq,List.map_cons,List.map_nil,List.toList_toArray,Array.toList_append,Option.toArray_some,Option.toArray_none,Bool.and_self,ty,zbq,zbe,zbi,zat,zav,zbh,rrd,fillS,recV,hN,c1,c2,i1,i2,i3,i4,i5,i6,i7,i8,x1,x2,x3,x4,x5,x6,hlen,q1,q2,q3,q4,h5,d4,hG,hV]
         refine ⟨_,Weak.refl _,?_⟩
         simp only [go_sem,coe,zac,Nat.reduceAdd,Nat.reduceSub,Nat.reduceMul,Int.reduceToNat,reduceCtorEq,↓reduceIte,Int.reducePow,Nat.reducePow,Int.reduceMod,Nat.reduceLeDiff,Int.reduceLE,Int.reduceNe,Int.reduceEq,Nat.reduceEqDiff,Nat.reduceLT,Nat.reduceBEq,List.map_cons,List.map_nil,List.toList_toArray,Array.toList_append,Option.toArray_some,Option.toArray_none,Bool.and_self,ty,zbq,zbe,zbi,zat,zav,zbh,rrd,fillS,recV,hN,c1,c2,i1,i2,i3,i4,i5,i6,i7,i8,x1,x2,x3,x4,x5,x6,hlen,q1,q2,q3,q4,h5,d4,hG,hV]
       · have d4 : decide ((3 : Int) < ((g0 bs e : Nat) : Int)) = false := decide_eq_false (by omega)
         by_cases hc : rchk (gd bs e) (gt bs e) false ([]) true ([]) = 0
         · have hG : gerr bs e = 0 := by unfold gerr; rw [if_neg (by simpa using e5),hk,hdd,x3,x6,if_neg (by rintro (h | h); exact h4 h; exact h hc)]
           have hV : grec bs e = recV (gd bs e) (gt bs e) false ([]) true ([]) := by unfold grec; rw [hG,if_pos rfl,hk,hdd,x3,x6]
           simp only [go_sem,coe,zac,Nat.reduceAdd,Nat.reduceSub,Nat.reduceMul,Int.reduceToNat,reduceCtorEq,↓reduceIte,Int.reducePow,Nat.reducePow,Int.reduceMod,Nat.reduceLeDiff,Int.reduceLE,Int.reduceNe,Int.reduceEq,Nat.reduceEqDiff,Nat.reduceLT,Nat.reduceBEq,List.map_cons,List.map_nil,List.toList_toArray,Array.toList_append,Option.toArray_some,Option.toArray_none,Bool.and_self,ty,zbq,zbe,zbi,zat,zav,zbh,rrd,fillS,recV,hN,c1,c2,i1,i2,i3,i4,i5,i6,i7,i8,x1,x2,x3,x4,x5,x6,hlen,q1,q2,q3,q4,h5,d4,hG,hV,hc]
           refine ⟨_,Weak.refl _,?_⟩
           simp only [go_sem,coe,zac,Nat.reduceAdd,Nat.reduceSub,Nat.reduceMul,Int.reduceToNat,reduceCtorEq,↓reduceIte,Int.reducePow,Nat.reducePow,Int.reduceMod,Nat.reduceLeDiff,Int.reduceLE,Int.reduceNe,Int.reduceEq,Nat.reduceEqDiff,Nat.reduceLT,Nat.reduceBEq,List.map_cons,List.map_nil,List.toList_toArray,Array.toList_append,Option.toArray_some,Option.toArray_none,Bool.and_self,ty,zbq,zbe,zbi,zat,zav,zbh,rrd,fillS,recV,hN,c1,c2,i1,i2,i3,i4,i5,i6,i7,i8,x1,x2,x3,x4,x5,x6,hlen,q1,q2,q3,q4,h5,d4,hG,hV,hc]
         · have hG : gerr bs e = 4 := by unfold gerr; rw [if_neg (by simpa using e5),hk,hdd,x3,x6,if_pos (.inr hc)]
           have hV : grec bs e = recV 0 0 false [] false [] := by unfold grec; rw [hG]; rfl
           have d5 : decide (rchk (gd bs e) (gt bs e) false ([]) true ([]) = 0) = false := decide_eq_false hc
           simp only [go_sem,coe,zac,Nat.reduceAdd,Nat.reduceSub,Nat.reduceMul,Int.reduceToNat,reduceCtorEq,↓reduceIte,Int.reducePow,Nat.reducePow,Int.reduceMod,Nat.reduceLeDiff,Int.reduceLE,Int.reduceNe,Int.reduceEq,Nat.reduceEqDiff,Nat.reduceLT,Nat.reduceBEq,List.map_cons,List.map_nil,List.toList_toArray,Array.toList_append,Option.toArray_some,Option.toArray_none,Bool.and_self,ty,zbq,zbe,zbi,zat,zav,zbh,rrd,fillS,recV,hN,c1,c2,i1,i2,i3,i4,i5,i6,i7,i8,x1,x2,x3,x4,x5,x6,hlen,q1,q2,q3,q4,h5,d4,hG,hV,d5]
           refine ⟨_,Weak.refl _,?_⟩
           simp only [go_sem,coe,zac,Nat.reduceAdd,Nat.reduceSub,Nat.reduceMul,Int.reduceToNat,reduceCtorEq,↓reduceIte,Int.reducePow,Nat.reducePow,Int.reduceMod,Nat.reduceLeDiff,Int.reduceLE,Int.reduceNe,Int.reduceEq,Nat.reduceEqDiff,Nat.reduceLT,Nat.reduceBEq,List.map_cons,List.map_nil,List.toList_toArray,Array.toList_append,Option.toArray_some,Option.toArray_none,Bool.and_self,ty,zbq,zbe,zbi,zat,zav,zbh,rrd,fillS,recV,hN,c1,c2,i1,i2,i3,i4,i5,i6,i7,i8,x1,x2,x3,x4,x5,x6,hlen,q1,q2,q3,q4,h5,d4,hG,hV,d5]
     · have e5 : ¬ ge5 bs e = 0 := by first | exact h5 | (rw [x5]; exact h5)
       have d5 : decide (ge4 bs e = 0) = false := decide_eq_false h5
       have hG : gerr bs e = ge4 bs e := by unfold gerr; rw [if_pos e5]; exact x5
       have hV : grec bs e = recV 0 0 false [] false [] := by unfold grec; rw [hG,if_neg h5]
       simp only [go_sem,coe,zac,Nat.reduceAdd,Nat.reduceSub,Nat.reduceMul,Int.reduceToNat,reduceCtorEq,↓reduceIte,Int.reducePow,Nat.reducePow,Int.reduceMod,Nat.reduceLeDiff,Int.reduceLE,Int.reduceNe,Int.reduceEq,Nat.reduceEqDiff,Nat.reduceLT,Nat.reduceBEq,List.map_cons,List.map_nil,List.toList_toArray,Array.toList_append,Option.toArray_some,Option.toArray_none,Bool.and_self,ty,zbq,zbe,zbi,zat,zav,zbh,rrd,fillS,recV,hN,c1,c2,i1,i2,i3,i4,i5,i6,i7,i8,x1,x2,x3,x4,x5,x6,hlen,q1,q2,q3,q4,d5,hG,hV]
       refine ⟨_,Weak.refl _,?_⟩
       simp only [go_sem,coe,zac,Nat.reduceAdd,Nat.reduceSub,Nat.reduceMul,Int.reduceToNat,reduceCtorEq,↓reduceIte,Int.reducePow,Nat.reducePow,Int.reduceMod,Nat.reduceLeDiff,Int.reduceLE,Int.reduceNe,Int.reduceEq,Nat.reduceEqDiff,Nat.reduceLT,Nat.reduceBEq,List.map_cons,List.map_nil,List.toList_toArray,Array.toList_append,Option.toArray_some,Option.toArray_none,Bool.and_self,ty,zbq,zbe,zbi,zat,zav,zbh,rrd,fillS,recV,hN,c1,c2,i1,i2,i3,i4,i5,i6,i7,i8,x1,x2,x3,x4,x5,x6,hlen,q1,q2,q3,q4,d5,hG,hV]
   · have c1 : decide ((((g0 bs e : Nat) : Int)).tmod 2 = 1) = false := decide_eq_false (by rw [Int.tmod_eq_emod_of_nonneg (by omega)]; unfold gk at hk; have := of_decide_eq_false hk; omega)
     have c2 : decide (((((g0 bs e : Nat) : Int)).tdiv 2 % 18446744073709551616).tmod 2 = 1) = false := decide_eq_false (by rw [Int.tdiv_eq_ediv_of_nonneg (by omega),Int.tmod_eq_emod_of_nonneg (by omega)]; unfold gdd at hdd; have := of_decide_eq_false hdd; omega)
     have x1 : gb3 bs e = gb4 bs e := by unfold gb4; rw [hk]; rfl
     have x2 : ge3 bs e = ge4 bs e := by unfold ge4; rw [hk]; rfl
     have x3 : gkey bs e = [] := by unfold gkey; rw [hk]; rfl
     have x4 : rtL 512 (gb4 bs e) (ge4 bs e) = gb5 bs e := by unfold gb5; rw [hdd]; rfl
     have x5 : rtE 512 (gb4 bs e) (ge4 bs e) = ge5 bs e := by unfold ge5; rw [hdd]; rfl
     have x6 : rtS' 512 (gb4 bs e) (ge4 bs e) = gval bs e := by unfold gval; rw [hdd]; rfl
     by_cases h5 : ge5 bs e = 0
     · have e5 : ge5 bs e = 0 := by first | exact h5 | (rw [x5]; exact h5)
       by_cases h4 : 4 ≤ g0 bs e
       · have d4 : decide ((3 : Int) < ((g0 bs e : Nat) : Int)) = true := decide_eq_true (by omega)
         have hG : gerr bs e = 4 := by unfold gerr; rw [if_neg (by simpa using e5),if_pos (.inl h4)]
         have hV : grec bs e = recV 0 0 false [] false [] := by unfold grec; rw [hG]; rfl
         simp only [go_sem,coe,zac,Nat.reduceAdd,Nat.reduceSub,Nat.reduceMul,Int.reduceToNat,reduceCtorEq,↓reduceIte,Int.reducePow,Nat.reducePow,Int.reduceMod,Nat.reduceLeDiff,Int.reduceLE,Int.reduceNe,Int.reduceEq,Nat.reduceEqDiff,Nat.reduceLT,Nat.reduceBEq,List.map_cons,List.map_nil,List.toList_toArray,Array.toList_append,Option.toArray_some,Option.toArray_none,Bool.and_self,ty,zbq,zbe,zbi,zat,zav,zbh,rrd,fillS,recV,hN,c1,c2,i1,i2,i3,i4,i5,i6,i7,i8,x1,x2,x3,x4,x5,x6,hlen,q1,q2,q3,q4,h5,d4,hG,hV]
         refine ⟨_,Weak.refl _,?_⟩
         simp only [go_sem,coe,zac,Nat.reduceAdd,Nat.reduceSub,Nat.reduceMul,Int.reduceToNat,reduceCtorEq,↓reduceIte,Int.reducePow,Nat.reducePow,Int.reduceMod,Nat.reduceLeDiff,Int.reduceLE,Int.reduceNe,Int.reduceEq,Nat.reduceEqDiff,Nat.reduceLT,Nat.reduceBEq,List.map_cons,List.map_nil,List.toList_toArray,Array.toList_append,Option.toArray_some,Option.toArray_none,Bool.and_self,ty,zbq,zbe,zbi,zat,zav,zbh,rrd,fillS,recV,hN,c1,c2,i1,i2,i3,i4,i5,i6,i7,i8,x1,x2,x3,x4,x5,x6,hlen,q1,q2,q3,q4,h5,d4,hG,hV]
       · have d4 : decide ((3 : Int) < ((g0 bs e : Nat) : Int)) = false := decide_eq_false (by omega)
         by_cases hc : rchk (gd bs e) (gt bs e) false ([]) false (gval bs e) = 0
         · have hG : gerr bs e = 0 := by unfold gerr; rw [if_neg (by simpa using e5),hk,hdd,x3,if_neg (by rintro (h | h); exact h4 h; exact h hc)]
           have hV : grec bs e = recV (gd bs e) (gt bs e) false ([]) false (gval bs e) := by unfold grec; rw [hG,if_pos rfl,hk,hdd,x3]
           simp only [go_sem,coe,zac,Nat.reduceAdd,Nat.reduceSub,Nat.reduceMul,Int.reduceToNat,reduceCtorEq,↓reduceIte,Int.reducePow,Nat.reducePow,Int.reduceMod,Nat.reduceLeDiff,Int.reduceLE,Int.reduceNe,Int.reduceEq,Nat.reduceEqDiff,Nat.reduceLT,Nat.reduceBEq,List.map_cons,List.map_nil,List.toList_toArray,Array.toList_append,Option.toArray_some,Option.toArray_none,Bool.and_self,ty,zbq,zbe,zbi,zat,zav,zbh,rrd,fillS,recV,hN,c1,c2,i1,i2,i3,i4,i5,i6,i7,i8,x1,x2,x3,x4,x5,x6,hlen,q1,q2,q3,q4,h5,d4,hG,hV,hc]
           refine ⟨_,Weak.refl _,?_⟩
           simp only [go_sem,coe,zac,Nat.reduceAdd,Nat.reduceSub,Nat.reduceMul,Int.reduceToNat,reduceCtorEq,↓reduceIte,Int.reducePow,Nat.reducePow,Int.reduceMod,Nat.reduceLeDiff,Int.reduceLE,Int.reduceNe,Int.reduceEq,Nat.reduceEqDiff,Nat.reduceLT,Nat.reduceBEq,List.map_cons,List.map_nil,List.toList_toArray,Array.toList_append,Option.toArray_some,Option.toArray_none,Bool.and_self,ty,zbq,zbe,zbi,zat,zav,zbh,rrd,fillS,recV,hN,c1,c2,i1,i2,i3,i4,i5,i6,i7,i8,x1,x2,x3,x4,x5,x6,hlen,q1,q2,q3,q4,h5,d4,hG,hV,hc]
         · have hG : gerr bs e = 4 := by unfold gerr; rw [if_neg (by simpa using e5),hk,hdd,x3,if_pos (.inr hc)]
           have hV : grec bs e = recV 0 0 false [] false [] := by unfold grec; rw [hG]; rfl
           have d5 : decide (rchk (gd bs e) (gt bs e) false ([]) false (gval bs e) = 0) = false := decide_eq_false hc
           simp only [go_sem,coe,zac,Nat.reduceAdd,Nat.reduceSub,Nat.reduceMul,Int.reduceToNat,reduceCtorEq,↓reduceIte,Int.reducePow,Nat.reducePow,Int.reduceMod,Nat.reduceLeDiff,Int.reduceLE,Int.reduceNe,Int.reduceEq,Nat.reduceEqDiff,Nat.reduceLT,Nat.reduceBEq,List.map_cons,List.map_nil,List.toList_toArray,Array.toList_append,Option.toArray_some,Option.toArray_none,Bool.and_self,ty,zbq,zbe,zbi,zat,zav,zbh,rrd,fillS,recV,hN,c1,c2,i1,i2,i3,i4,i5,i6,i7,i8,x1,x2,x3,x4,x5,x6,hlen,q1,q2,q3,q4,h5,d4,hG,hV,d5]
           refine ⟨_,Weak.refl _,?_⟩
           simp only [go_sem,coe,zac,Nat.reduceAdd,Nat.reduceSub,Nat.reduceMul,Int.reduceToNat,reduceCtorEq,↓reduceIte,Int.reducePow,Nat.reducePow,Int.reduceMod,Nat.reduceLeDiff,Int.reduceLE,Int.reduceNe,Int.reduceEq,Nat.reduceEqDiff,Nat.reduceLT,Nat.reduceBEq,List.map_cons,List.map_nil,List.toList_toArray,Array.toList_append,Option.toArray_some,Option.toArray_none,Bool.and_self,ty,zbq,zbe,zbi,zat,zav,zbh,rrd,fillS,recV,hN,c1,c2,i1,i2,i3,i4,i5,i6,i7,i8,x1,x2,x3,x4,x5,x6,hlen,q1,q2,q3,q4,h5,d4,hG,hV,d5]
     · have e5 : ¬ ge5 bs e = 0 := by first | exact h5 | (rw [x5]; exact h5)
       have d5 : decide (ge5 bs e = 0) = false := decide_eq_false h5
       have hG : gerr bs e = ge5 bs e := by unfold gerr; rw [if_pos e5]
       have hV : grec bs e = recV 0 0 false [] false [] := by unfold grec; rw [hG,if_neg h5]
       simp only [go_sem,coe,zac,Nat.reduceAdd,Nat.reduceSub,Nat.reduceMul,Int.reduceToNat,reduceCtorEq,↓reduceIte,Int.reducePow,Nat.reducePow,Int.reduceMod,Nat.reduceLeDiff,Int.reduceLE,Int.reduceNe,Int.reduceEq,Nat.reduceEqDiff,Nat.reduceLT,Nat.reduceBEq,List.map_cons,List.map_nil,List.toList_toArray,Array.toList_append,Option.toArray_some,Option.toArray_none,Bool.and_self,ty,zbq,zbe,zbi,zat,zav,zbh,rrd,fillS,recV,hN,c1,c2,i1,i2,i3,i4,i5,i6,i7,i8,x1,x2,x3,x4,x5,x6,hlen,q1,q2,q3,q4,d5,hG,hV]
       refine ⟨_,Weak.refl _,?_⟩
       simp only [go_sem,coe,zac,Nat.reduceAdd,Nat.reduceSub,Nat.reduceMul,Int.reduceToNat,reduceCtorEq,↓reduceIte,Int.reducePow,Nat.reducePow,Int.reduceMod,Nat.reduceLeDiff,Int.reduceLE,Int.reduceNe,Int.reduceEq,Nat.reduceEqDiff,Nat.reduceLT,Nat.reduceBEq,List.map_cons,List.map_nil,List.toList_toArray,Array.toList_append,Option.toArray_some,Option.toArray_none,Bool.and_self,ty,zbq,zbe,zbi,zat,zav,zbh,rrd,fillS,recV,hN,c1,c2,i1,i2,i3,i4,i5,i6,i7,i8,x1,x2,x3,x4,x5,x6,hlen,q1,q2,q3,q4,d5,hG,hV]
 · exact hp.elim
end
end Go.Proofs.Ytmedjkjoannbmaa
namespace Go.Proofs.Ytmedjkjoannbmaa
open Ax
def dR (bs : List UInt8) (e : Int) : Rec := rrec (grec bs e)
def dRead : Nat → List UInt8 → Int → List Rec
 | 0,_,_ => []
 | k + 1,bs,e => if e = 0 then dR bs e :: dRead k (gb5 bs e) (ge5 bs e) else []
theorem dRead_succ (k : Nat) (bs : List UInt8) (e : Int) : dRead (k + 1) bs e = if e = 0 then dR bs e :: dRead k (gb5 bs e) (ge5 bs e) else [] := rfl
theorem dRead_stop (k : Nat) (bs : List UInt8) (e : Int) (h : k = 0 ∨ e ≠ 0) : dRead k bs e = [] := by
 cases k with
 | zero => rfl
 | succ k => rw [dRead_succ,if_neg (by omega)]
theorem dR_rv (bs : List UInt8) (e : Int) : grec bs e = rv (dR bs e) := by
 unfold dR grec
 split <;> rfl
theorem dRead_put : ∀ (rs : List Rec) (z : List UInt8),(∀ r ∈ rs,rk r = 0) → dRead rs.length (rs.flatMap rb ++ z) 0 = rs
 | [],z,_ => rfl
 | r :: rs,z,h => by
   obtain ⟨h1,h2,h3,h4⟩ := gR_put (h r (by simp)) (rs.flatMap rb ++ z)
   have h5 : dR (rb r ++ (rs.flatMap rb ++ z)) 0 = r := by unfold dR; rw [grec_rv h1,h2]; rfl
   rw [List.length_cons,List.flatMap_cons,List.append_assoc,dRead_succ,if_pos rfl,h5,h3,h4,dRead_put rs z (fun q hq => h q (by simp [hq]))]
def dX (bs : List UInt8) : Bat := ⟨hn 0 bs,hn 1 bs,hn 2 bs,hn 3 bs,hn 4 bs,dRead (min (hn 5 bs) 32).toNat (hb 6 bs).1 (hb 6 bs).2⟩
theorem dget_eq (bs : List UInt8) : bget bs = if 8192 < bs.length then none else if bE (dX bs) = 0 ∧ bB (dX bs) = bs then some (dX bs) else none := by
 cases hg : bget bs with
 | some y =>
   obtain ⟨h1,h2⟩ := bget_some hg
   have hl := bB_length h1
   obtain ⟨N0,N1,N2,N3,N4,N5,B6,hl2,i1⟩ := bheads h1 []
   rw [List.append_nil,h2] at N0 N1 N2 N3 N4 N5 B6
   have hX : dX bs = y := by
     unfold dX
     rw [N0,N1,N2,N3,N4,N5,B6,show (min (y.rs.length : Int) 32).toNat = y.rs.length by omega,dRead_put y.rs _ i1]
   rw [hX,if_neg (by rw [← h2]; omega),if_pos ⟨h1,h2⟩]
 | none =>
   by_cases h8 : 8192 < bs.length
   · rw [if_pos h8]
   · rw [if_neg h8,if_neg]
     rintro ⟨h1,h2⟩
     have := bget_put h1
     rw [h2,hg] at this
     cases this
def Sdget (f : FuncId) : Option zai :=
 match f with
 | 56 => some zat
 | 86 => some rrgetS
 | 29 => some zfn
 | _ => none
theorem Sdget_ok : Fns Try.prog Sdget := by
 intro f s h
 unfold Sdget at h
 split at h
 · injection h with h; subst h; exact ⟨⟨_,Try.func56,by kernel_rfl,by kernel_rfl⟩,rrnum_sound⟩
 · injection h with h; subst h; exact ⟨⟨_,Try.func86,by kernel_rfl,by kernel_rfl⟩,rrecget_sound⟩
 · injection h with h; subst h; exact ⟨⟨_,Try.func29,by kernel_rfl,by kernel_rfl⟩,rput4_sound⟩
 · cases h
section
set_option maxRecDepth 100000
set_option maxHeartbeats 2000000 in
theorem dget_sound : zaq Try.prog 58 bgetS := by
 refine zak (S := Sdget) (T := ty) zas ty_ok Sdget_ok Try.func58 (c := Try.f58.body.getD .skip) (by kernel_rfl) (by kernel_rfl) (fun xs pins hp _ => ?_)
 unfold bgetS at hp ⊢
 split at hp
 · rename_i bs f _
   have hlen : bs.length ≤ 1000000 := hp
   refine ⟨by simp,?_⟩
   unfold Try.f58
   have hget := dget_eq bs
   by_cases h8 : 8192 < bs.length
   · have d0 : decide ((8192 : Int) < bs.length) = true := decide_eq_true (by omega)
     rw [if_pos h8] at hget
     have v1 : zbf bs = ⟨0,0,0,0,0,[]⟩ := by unfold zbf; rw [hget]; rfl
     have v2 : zcm bs = 4 := by unfold zcm; rw [hget]; rfl
     simp only [go_sem,zaa,Nat.reduceAdd,Nat.reduceSub,Nat.reduceMul,Int.reduceToNat,reduceCtorEq,↓reduceIte,Int.reducePow,Nat.reducePow,Int.reduceMod,Nat.reduceLeDiff,Int.reduceLE,Int.reduceNe,Int.reduceEq,Nat.reduceEqDiff,Nat.reduceLT,Nat.reduceBEq,ty,Sdget,d0,v1,v2,bav,zcy,List.map_nil,fillS]
   · have d0 : decide ((8192 : Int) < bs.length) = false := decide_eq_false (by omega)
     rw [if_neg h8] at hget
     unfold dX at hget
     have L1 := zcd bs 1
     have L2 := zcd bs 2
     have L3 := zcd bs 3
     have L4 := zcd bs 4
     have L5 := zcd bs 5
     have L6 := zcd bs 6
     have q0 : bs.length ≤ 1000000 := hlen
     have q1 : (hb 1 bs).1.length ≤ 1000000 := by omega
     have q2 : (hb 2 bs).1.length ≤ 1000000 := by omega
     have q3 : (hb 3 bs).1.length ≤ 1000000 := by omega
     have q4 : (hb 4 bs).1.length ≤ 1000000 := by omega
     have q5 : (hb 5 bs).1.length ≤ 1000000 := by omega
     have q6 : (hb 6 bs).1.length ≤ 1000000 := by omega
     have n0 : numN bs 0 = hn 0 bs := rfl
     have l0 : numL bs 0 = (hb 1 bs).1 := rfl
     have e0 : numE bs 0 = (hb 1 bs).2 := rfl
     have n1 : numN (hb 1 bs).1 (hb 1 bs).2 = hn 1 bs := rfl
     have l1 : numL (hb 1 bs).1 (hb 1 bs).2 = (hb 2 bs).1 := rfl
     have e1 : numE (hb 1 bs).1 (hb 1 bs).2 = (hb 2 bs).2 := rfl
     have n2 : numN (hb 2 bs).1 (hb 2 bs).2 = hn 2 bs := rfl
     have l2 : numL (hb 2 bs).1 (hb 2 bs).2 = (hb 3 bs).1 := rfl
     have e2 : numE (hb 2 bs).1 (hb 2 bs).2 = (hb 3 bs).2 := rfl
     have n3 : numN (hb 3 bs).1 (hb 3 bs).2 = hn 3 bs := rfl
     have l3 : numL (hb 3 bs).1 (hb 3 bs).2 = (hb 4 bs).1 := rfl
     have e3 : numE (hb 3 bs).1 (hb 3 bs).2 = (hb 4 bs).2 := rfl
     have n4 : numN (hb 4 bs).1 (hb 4 bs).2 = hn 4 bs := rfl
     have l4 : numL (hb 4 bs).1 (hb 4 bs).2 = (hb 5 bs).1 := rfl
     have e4 : numE (hb 4 bs).1 (hb 4 bs).2 = (hb 5 bs).2 := rfl
     have n5 : numN (hb 5 bs).1 (hb 5 bs).2 = hn 5 bs := rfl
     have l5 : numL (hb 5 bs).1 (hb 5 bs).2 = (hb 6 bs).1 := rfl
     have e5 : numE (hb 5 bs).1 (hb 5 bs).2 = (hb 6 bs).2 := rfl
     obtain ⟨B,hB⟩ : ∃ B,hb 6 bs = B := ⟨_,rfl⟩
     rw [hB] at hget
     simp only [hB] at q6 l5 e5
     generalize hn 0 bs = N0 at *
     generalize hn 1 bs = N1 at *
     generalize hn 2 bs = N2 at *
     generalize hn 3 bs = N3 at *
     generalize hn 4 bs = N4 at *
     generalize hn 5 bs = N5 at *
     simp only [go_sem,zaa,Nat.reduceAdd,Nat.reduceSub,Nat.reduceMul,Int.reduceToNat,reduceCtorEq,↓reduceIte,Int.reducePow,Nat.reducePow,Int.reduceMod,Nat.reduceLeDiff,Int.reduceLE,Int.reduceNe,Int.reduceEq,Nat.reduceEqDiff,Nat.reduceLT,Nat.reduceBEq,ty,Sdget,zat,rrd,d0,q0,q1,q2,q3,q4,q5,n0,n1,n2,n3,n4,n5,l0,l1,l2,l3,l4,l5,e0,e1,e2,e3,e4,e5,fillS]
     have htop : top = 4294967296 := rfl
     obtain ⟨N,hN⟩ : ∃ N,(min N5 32).toNat = N := ⟨_,rfl⟩
     rw [hN] at hget
     refine zca ⟨fun m σ => ∃ (i : Nat) (b : List UInt8) (e : Int) (qs : List Rec),m = N - i ∧ i ≤ N ∧ b.length ≤ 1000000 ∧ dRead N B.1 B.2 = qs ++ dRead (N - i) b e ∧ qs.length = i ∧
         ((i = 0 ∧ σ = ⟨[.sb bs f,.junk,.rf 4 6 0 0,.w (.int .i64 0),.rf 5 6 0 0,.w (.int .i64 N5),.rf 6 2 0 0,.w (.int .i64 0),.junk,.junk,.junk,.junk,.junk,.junk,.junk,.junk,.junk,.junk,.junk,.junk,.junk,.junk,.junk,.junk,.junk,.junk,.junk,.junk,.junk,.junk,.junk,.junk,.junk,.junk,.junk,.junk,.junk,.junk,.junk,.junk,.junk,.junk,.junk,.junk,.junk,.junk,.junk,.junk,.junk,.junk,.junk,.junk,.junk,.junk,.junk,.junk,.junk,.junk,.junk,.junk,.junk,.junk,.junk,.junk,.junk,.junk,.junk,.junk,.junk,.junk,.junk,.junk,.junk,.junk,.junk,.junk,.junk,.junk,.junk,.junk,.junk,.junk,.junk,.junk,.junk,.junk,.junk,.junk,.junk,.junk,.junk,.junk,.junk,.junk,.junk,.junk,.junk],[(6,.g 2 [.agg [.sb b f,.w (.int .i64 e)]]),(5,.g 6 [.agg [.w (.int .i64 N0),.w (.int .i64 N1),.w (.int .i64 N2),.w (.int .i64 N3),.w (.int .i64 N4),.sg 6 [] true]]),(4,.g 6 [.agg [.w (.int .i64 0),.w (.int .i64 0),.w (.int .i64 0),.w (.int .i64 0),.w (.int .i64 0),.sg 6 [] true]])],7⟩) ∨
          (0 < i ∧ σ = ⟨[.sb bs f,.junk,.rf 4 6 0 0,.w (.int .i64 0),.rf 5 6 0 0,.w (.int .i64 N5),.rf 6 2 0 0,.w (.int .i64 i),.junk,.junk,.junk,.junk,.junk,.junk,.junk,.junk,.junk,.junk,.junk,.junk,.junk,.junk,.junk,.junk,.junk,.junk,.junk,.junk,.junk,.junk,.junk,.junk,.junk,.junk,.junk,.junk,.junk,.junk,.junk,.junk,.junk,.junk,.junk,.junk,.junk,.junk,.junk,.junk,.junk,.junk,.junk,.junk,.junk,.junk,.junk,.junk,.junk,.junk,.junk,.junk,.junk,.junk,.junk,.junk,.junk,.junk,.junk,.junk,.junk,.junk,.junk,.junk,.junk,.junk,.junk,.junk,.junk,.junk,.junk,.ms 7 6 0 i,.junk,.junk,.junk,.junk,.junk,.junk,.junk,.junk,.junk,.junk,.junk,.junk,.junk,.junk,.junk,.junk,.junk],[(6,.g 2 [.agg [.sb b f,.w (.int .i64 e)]]),(5,.g 6 [.agg [.w (.int .i64 N0),.w (.int .i64 N1),.w (.int .i64 N2),.w (.int .i64 N3),.w (.int .i64 N4),.ms 7 6 0 i]]),(4,.g 6 [.agg [.w (.int .i64 0),.w (.int .i64 0),.w (.int .i64 0),.w (.int .i64 0),.w (.int .i64 0),.sg 6 [] true]]),(7,.g 6 (qs.map rv))],8⟩)),?_,?_⟩
     · refine ⟨_,_,zad [0,1,2,3,4,44,76] rfl rfl rfl ?_ ?_,0,B.1,B.2,[],rfl,by omega,q6,rfl,rfl,.inl ⟨rfl,rfl⟩⟩
       · simp only [ssT,zae,zaf,setSlot,gOf,AV.ren,renL,Blk.ren,Ax.look,Ax.put,reduceCtorEq,↓reduceIte,Nat.reduceEqDiff,Nat.reduceLT,Nat.reduceAdd,List.length_append,List.length_cons,List.length_nil,Option.some.injEq]; try simp
       · simp only [ssT,zae,zaf,setSlot,gOf,AV.ren,renL,Blk.ren,Ax.look,Ax.put,reduceCtorEq,↓reduceIte,Nat.reduceEqDiff,Nat.reduceLT,Nat.reduceAdd,List.length_append,List.length_cons,List.length_nil,Option.some.injEq]
     · rintro m σ ⟨i,b,e,qs,rfl,hi,hlb,hinv,hql,hσ⟩
       rcases hσ with ⟨hi0,rfl⟩ | ⟨hi0,rfl⟩
       · obtain rfl : i = 0 := hi0
         obtain rfl : qs = [] := List.eq_nil_of_length_eq_zero hql
         have hor : (((0 : Int) < N5 ∧ (0 : Int) < 32) ∧ e = 0) ∨ (decide ((0 : Int) < N5) = false ∧ dRead (N - 0) b e = []) ∨ (decide ((0 : Int) < N5) = true ∧ decide ((0 : Int) < 32) = false ∧ dRead (N - 0) b e = []) ∨ (decide ((0 : Int) < N5) = true ∧ decide ((0 : Int) < 32) = true ∧ decide (e = 0) = false ∧ dRead (N - 0) b e = []) := by
           by_cases h1 : (0 : Int) < N5
           · by_cases h2 : (0 : Int) < 32
             · by_cases h3 : e = 0
               · exact .inl ⟨⟨h1,h2⟩,h3⟩
               · exact .inr (.inr (.inr ⟨decide_eq_true h1,decide_eq_true h2,decide_eq_false h3,dRead_stop _ _ _ (.inr h3)⟩))
             · exact .inr (.inr (.inl ⟨decide_eq_true h1,decide_eq_false h2,dRead_stop _ _ _ (.inl (by omega))⟩))
           · exact .inr (.inl ⟨decide_eq_false h1,dRead_stop _ _ _ (.inl (by omega))⟩)
         rcases hor with ⟨⟨h1,h2⟩,rfl⟩ | hstop
         · have d2 : decide ((0 : Int) < N5) = true := decide_eq_true h1
           have d3 : decide ((0 : Int) < 32) = true := decide_eq_true h2
           have es : ((0 : Int) + 1 + 9223372036854775808) % 18446744073709551616 - 9223372036854775808 = 1 := by omega
           have hsuc : N - 0 = (N - (0 + 1)) + 1 := by omega
           have hl5 := gb5_length b 0
           have hgr := dR_rv b 0
           have hR : dRead N B.1 B.2 = (([] : List Rec) ++ [dR b 0]) ++ dRead (N - (0 + 1)) (gb5 b 0) (ge5 b 0) := by
             rw [hinv,hsuc,dRead_succ,if_pos rfl,List.append_assoc]; rfl
           obtain ⟨G,hG⟩ : ∃ G,dR b 0 = G := ⟨_,rfl⟩
           rw [hG] at hgr hR
           simp only [rv] at hgr
           simp only [go_sem,zaa,Nat.reduceAdd,Nat.reduceSub,Nat.reduceMul,Int.reduceToNat,reduceCtorEq,↓reduceIte,Int.reducePow,Nat.reducePow,Int.reduceMod,Nat.reduceLeDiff,Int.reduceLE,Int.reduceNe,Int.reduceEq,Nat.reduceEqDiff,Nat.reduceLT,Nat.reduceBEq,ty,Sdget,zat,rrgetS,zfn,rrd,d2,d3,hlb,hgr,es,fillS]
           repeat (refine And.intro (by first | omega | (intro h; cases h)) ?_)
           refine ⟨N - (0 + 1),_,by omega,zad [0,1,2,3,4,5,6,239] rfl rfl rfl ?_ ?_,0 + 1,gb5 b 0,ge5 b 0,([] : List Rec) ++ [G],rfl,by omega,by omega,hR,by simp [hql],.inr ⟨by omega,rfl⟩⟩
           · simp only [ssT,zae,zaf,setSlot,gOf,AV.ren,renL,Blk.ren,Ax.look,Ax.put,reduceCtorEq,↓reduceIte,Nat.reduceEqDiff,Nat.reduceLT,Nat.reduceAdd,List.length_append,List.length_cons,List.length_nil,Option.some.injEq]; try simp
           · simp only [ssT,zae,zaf,setSlot,gOf,AV.ren,renL,Blk.ren,Ax.look,Ax.put,reduceCtorEq,↓reduceIte,Nat.reduceEqDiff,Nat.reduceLT,Nat.reduceAdd,List.length_append,List.length_cons,List.length_nil,Option.some.injEq,ren_rv]; try simp [rv]
         · have hnil : dRead (N - 0) b e = [] := by
             rcases hstop with h | h | h
             · exact h.2
             · exact h.2.2
             · exact h.2.2.2
           have hR : dRead N B.1 B.2 = ([] : List Rec) := by rw [hinv,hnil]; rfl
           rw [hR] at hget
           have hmL : (([] : List AV)).length = 0 := by simp [hql]
           have hmL2 : (([] : List AV)).length ≤ 40 := by omega
           have hi40 : 0 ≤ 40 := by omega
           have hex : ∃ rs : List Rec,([] : List AV) = rs.map rv := ⟨([] : List Rec),rfl⟩
           have hrr : (([] : List AV)).map rrec = ([] : List Rec) := rfl
           have hbE : batE N0 N1 N2 N3 N4 ([] : List Rec) = bE ⟨N0,N1,N2,N3,N4,([] : List Rec)⟩ := rfl
           have hbB : batB N0 N1 N2 N3 N4 ([] : List Rec) = bB ⟨N0,N1,N2,N3,N4,([] : List Rec)⟩ := rfl
           generalize hX : (⟨N0,N1,N2,N3,N4,([] : List Rec)⟩ : Bat) = X at *
           have hend : (bE X = 0 ∧ decide (bB X = bs) = true ∧ zbf bs = X ∧ zcm bs = 0) ∨ (bE X = 0 ∧ decide (bB X = bs) = false ∧ zbf bs = ⟨0,0,0,0,0,[]⟩ ∧ zcm bs = 4) ∨ (decide (bE X = 0) = false ∧ zbf bs = ⟨0,0,0,0,0,[]⟩ ∧ zcm bs = 4) := by
             by_cases hE : bE X = 0
             · by_cases hBq : bB X = bs
               · have hg : bget bs = some X := by rw [hget,if_pos ⟨hE,hBq⟩]
                 exact .inl ⟨hE,decide_eq_true hBq,by unfold zbf; rw [hg]; rfl,by unfold zcm; rw [hg]; rfl⟩
               · have hg : bget bs = none := by rw [hget,if_neg (fun h => hBq h.2)]
                 exact .inr (.inl ⟨hE,decide_eq_false hBq,by unfold zbf; rw [hg]; rfl,by unfold zcm; rw [hg]; rfl⟩)
             · have hg : bget bs = none := by rw [hget,if_neg (fun h => hE h.1)]
               exact .inr (.inr ⟨decide_eq_false hE,by unfold zbf; rw [hg]; rfl,by unfold zcm; rw [hg]; rfl⟩)
           have hP : X.b = N0 ∧ X.c = N1 ∧ X.p = N2 ∧ X.e = N3 ∧ X.s = N4 ∧ X.rs = ([] : List Rec) := by rw [← hX]; exact ⟨rfl,rfl,rfl,rfl,rfl,rfl⟩
           clear hget hinv hR
           rcases hstop with D | D | D
           all_goals simp only [go_sem,zaa,Nat.reduceAdd,Nat.reduceSub,Nat.reduceMul,Int.reduceToNat,reduceCtorEq,↓reduceIte,Int.reducePow,Nat.reducePow,Int.reduceMod,Nat.reduceLeDiff,Int.reduceLE,Int.reduceNe,Int.reduceEq,Nat.reduceEqDiff,Nat.reduceLT,Nat.reduceBEq,ty,Sdget,zat,rrgetS,zfn,rrd,D]
           all_goals refine ⟨_,Weak.refl _,?_⟩
           all_goals rcases hend with E | E | E
           all_goals simp only [go_sem,zaa,Nat.reduceAdd,Nat.reduceSub,Nat.reduceMul,Int.reduceToNat,reduceCtorEq,↓reduceIte,Int.reducePow,Nat.reducePow,Int.reduceMod,Nat.reduceLeDiff,Int.reduceLE,Int.reduceNe,Int.reduceEq,Nat.reduceEqDiff,Nat.reduceLT,Nat.reduceBEq,ty,Sdget,zat,rrgetS,zfn,rrd,hmL,hi40,hex,hrr,closedL,hbE,hbB,hP,E,bav,List.map_nil,zcy,fillS]
       · have hml : (qs.map rv).length = i := by simp [hql]
         have hdle : decide (0 + i ≤ (qs.map rv).length) = true := decide_eq_true (by omega)
         have htk : (qs.map rv).take i = qs.map rv := List.take_of_length_le (by omega)
         have hie : emp qs = false := by cases qs with | nil => simp at hql; omega | cons _ _ => rfl
         have hor : (((i : Int) < N5 ∧ (i : Int) < 32) ∧ e = 0) ∨ (decide ((i : Int) < N5) = false ∧ dRead (N - i) b e = []) ∨ (decide ((i : Int) < N5) = true ∧ decide ((i : Int) < 32) = false ∧ dRead (N - i) b e = []) ∨ (decide ((i : Int) < N5) = true ∧ decide ((i : Int) < 32) = true ∧ decide (e = 0) = false ∧ dRead (N - i) b e = []) := by
           by_cases h1 : (i : Int) < N5
           · by_cases h2 : (i : Int) < 32
             · by_cases h3 : e = 0
               · exact .inl ⟨⟨h1,h2⟩,h3⟩
               · exact .inr (.inr (.inr ⟨decide_eq_true h1,decide_eq_true h2,decide_eq_false h3,dRead_stop _ _ _ (.inr h3)⟩))
             · exact .inr (.inr (.inl ⟨decide_eq_true h1,decide_eq_false h2,dRead_stop _ _ _ (.inl (by omega))⟩))
           · exact .inr (.inl ⟨decide_eq_false h1,dRead_stop _ _ _ (.inl (by omega))⟩)
         rcases hor with ⟨⟨h1,h2⟩,rfl⟩ | hstop
         · have d2 : decide ((i : Int) < N5) = true := decide_eq_true h1
           have d3 : decide ((i : Int) < 32) = true := decide_eq_true h2
           have es : ((i : Int) + 1 + 9223372036854775808) % 18446744073709551616 - 9223372036854775808 = ((i + 1 : Nat) : Int) := by omega
           have hsuc : N - i = (N - (i + 1)) + 1 := by omega
           have hl5 := gb5_length b 0
           have hgr := dR_rv b 0
           have hR : dRead N B.1 B.2 = (qs ++ [dR b 0]) ++ dRead (N - (i + 1)) (gb5 b 0) (ge5 b 0) := by
             rw [hinv,hsuc,dRead_succ,if_pos rfl,List.append_assoc]; rfl
           obtain ⟨G,hG⟩ : ∃ G,dR b 0 = G := ⟨_,rfl⟩
           rw [hG] at hgr hR
           simp only [rv] at hgr
           simp only [go_sem,zaa,Nat.reduceAdd,Nat.reduceSub,Nat.reduceMul,Int.reduceToNat,reduceCtorEq,↓reduceIte,Int.reducePow,Nat.reducePow,Int.reduceMod,Nat.reduceLeDiff,Int.reduceLE,Int.reduceNe,Int.reduceEq,Nat.reduceEqDiff,Nat.reduceLT,Nat.reduceBEq,ty,Sdget,zat,rrgetS,zfn,rrd,d2,d3,hlb,hgr,es,fillS,hql,hml]
           repeat (refine And.intro (by first | omega | (intro h; cases h)) ?_)
           refine ⟨N - (i + 1),_,by omega,zad [0,1,2,3,4,5,6,240] rfl rfl rfl ?_ ?_,i + 1,gb5 b 0,ge5 b 0,qs ++ [G],rfl,by omega,by omega,hR,by simp [hql],.inr ⟨by omega,rfl⟩⟩
           · simp only [ssT,zae,zaf,setSlot,gOf,AV.ren,renL,Blk.ren,Ax.look,Ax.put,reduceCtorEq,↓reduceIte,Nat.reduceEqDiff,Nat.reduceLT,Nat.reduceAdd,List.length_append,List.length_cons,List.length_nil,Option.some.injEq]; try simp
           · simp only [ssT,zae,zaf,setSlot,gOf,AV.ren,renL,Blk.ren,Ax.look,Ax.put,reduceCtorEq,↓reduceIte,Nat.reduceEqDiff,Nat.reduceLT,Nat.reduceAdd,List.length_append,List.length_cons,List.length_nil,Option.some.injEq,ren_rv]; try simp [rv]
         · have hnil : dRead (N - i) b e = [] := by
             rcases hstop with h | h | h
             · exact h.2
             · exact h.2.2
             · exact h.2.2.2
           have hR : dRead N B.1 B.2 = qs := by rw [hinv,hnil]; simp
           rw [hR] at hget
           have hmL : (qs.map rv).length = i := by simp [hql]
           have hmL2 : (qs.map rv).length ≤ 40 := by omega
           have hi40 : i ≤ 40 := by omega
           have hex : ∃ rs : List Rec,qs.map rv = rs.map rv := ⟨qs,rfl⟩
           have hrr : (qs.map rv).map rrec = qs := zah qs
           have hbE : batE N0 N1 N2 N3 N4 qs = bE ⟨N0,N1,N2,N3,N4,qs⟩ := rfl
           have hbB : batB N0 N1 N2 N3 N4 qs = bB ⟨N0,N1,N2,N3,N4,qs⟩ := rfl
           generalize hX : (⟨N0,N1,N2,N3,N4,qs⟩ : Bat) = X at *
           have hend : (bE X = 0 ∧ decide (bB X = bs) = true ∧ zbf bs = X ∧ zcm bs = 0) ∨ (bE X = 0 ∧ decide (bB X = bs) = false ∧ zbf bs = ⟨0,0,0,0,0,[]⟩ ∧ zcm bs = 4) ∨ (decide (bE X = 0) = false ∧ zbf bs = ⟨0,0,0,0,0,[]⟩ ∧ zcm bs = 4) := by
             by_cases hE : bE X = 0
             · by_cases hBq : bB X = bs
               · have hg : bget bs = some X := by rw [hget,if_pos ⟨hE,hBq⟩]
                 exact .inl ⟨hE,decide_eq_true hBq,by unfold zbf; rw [hg]; rfl,by unfold zcm; rw [hg]; rfl⟩
               · have hg : bget bs = none := by rw [hget,if_neg (fun h => hBq h.2)]
                 exact .inr (.inl ⟨hE,decide_eq_false hBq,by unfold zbf; rw [hg]; rfl,by unfold zcm; rw [hg]; rfl⟩)
             · have hg : bget bs = none := by rw [hget,if_neg (fun h => hE h.1)]
               exact .inr (.inr ⟨decide_eq_false hE,by unfold zbf; rw [hg]; rfl,by unfold zcm; rw [hg]; rfl⟩)
           have hP : X.b = N0 ∧ X.c = N1 ∧ X.p = N2 ∧ X.e = N3 ∧ X.s = N4 ∧ X.rs = qs := by rw [← hX]; exact ⟨rfl,rfl,rfl,rfl,rfl,rfl⟩
           clear hget hinv hR
           rcases hstop with D | D | D
           all_goals simp only [go_sem,zaa,Nat.reduceAdd,Nat.reduceSub,Nat.reduceMul,Int.reduceToNat,reduceCtorEq,↓reduceIte,Int.reducePow,Nat.reducePow,Int.reduceMod,Nat.reduceLeDiff,Int.reduceLE,Int.reduceNe,Int.reduceEq,Nat.reduceEqDiff,Nat.reduceLT,Nat.reduceBEq,ty,Sdget,zat,rrgetS,zfn,rrd,D,hql]
           all_goals refine ⟨_,weak_fg 7 6 79 (qs.map rv) rfl (zbz qs) (by simp [slot,AV.ids]),?_⟩
           all_goals simp only [fgL,fgH,AV.fg,Blk.fg,Nat.reduceBEq,cond_true,cond_false,hdle,Bool.and_true,beq_self_eq_true,Bool.true_and,List.drop_zero,htk]
           all_goals rcases hend with E | E | E
           all_goals simp only [go_sem,zaa,Nat.reduceAdd,Nat.reduceSub,Nat.reduceMul,Int.reduceToNat,reduceCtorEq,↓reduceIte,Int.reducePow,Nat.reducePow,Int.reduceMod,Nat.reduceLeDiff,Int.reduceLE,Int.reduceNe,Int.reduceEq,Nat.reduceEqDiff,Nat.reduceLT,Nat.reduceBEq,ty,Sdget,zat,rrgetS,zfn,rrd,hmL,hi40,hex,hrr,zbz,hbE,hbB,hP,E,bav,List.map_nil,zcy,fillS,hie]
 · exact hp.elim
end
end Go.Proofs.Ytmedjkjoannbmaa
namespace Go.Proofs.Ytmedjkjoannbmaa
open Ax
def rtakeQ (x : Int) (bs : List UInt8) (e : Int) : List UInt8 × Int :=
 if x = 116 ∨ x = 103 ∨ x = 107 then (rtL 255 bs e,rtE 255 bs e) else if x = 99 ∨ x = 102 then (zfj 1 bs e,rfixE 1 bs e) else if x = 98 then (rtL 1073741824 bs e,rtE 1073741824 bs e) else (numL bs e,numE bs e)
def rtakeA (x : Int) (bs : List UInt8) (e : Int) (k : Int) (t : List UInt8) (i p : Int) (c f : Bool) (o m w : Int) (g mb : List UInt8) (n b1 b2 b3 b4 b5 : Int) (xs : List AV) (fl : Bool) : AV :=
 .agg [.w (.int .u8 k),.str (if x = 116 then rtS' 255 bs e else t),.w (.int .i64 (if x = 105 then numN bs e else i)),.w (.int .i64 (if x = 112 then numN bs e else p)),.w (.bool (if x = 99 then decide (zdz 1 bs e = 1) else c)),.w (.bool (if x = 102 then decide (zdz 1 bs e = 1) else f)),.w (.int .i64 (if x = 111 then numN bs e else o)),.w (.int .i64 (if x = 109 then numN bs e else m)),.w (.int .i64 (if x = 119 then numN bs e else w)),.str (if x = 103 then rtS' 255 bs e else g),.str (if x = 107 then rtS' 255 bs e else mb),.w (.int .i64 (if x = 110 then numN bs e else n)),.w (.int .i64 (if x = 98 then (zbf (rtS' 1073741824 bs e)).b else b1)),.w (.int .i64 (if x = 98 then (zbf (rtS' 1073741824 bs e)).c else b2)),.w (.int .i64 (if x = 98 then (zbf (rtS' 1073741824 bs e)).p else b3)),.w (.int .i64 (if x = 98 then (zbf (rtS' 1073741824 bs e)).e else b4)),.w (.int .i64 (if x = 98 then (zbf (rtS' 1073741824 bs e)).s else b5)),.sg 6 (if x = 98 then (zbf (rtS' 1073741824 bs e)).rs.map rv else xs) (if x = 98 then emp (zbf (rtS' 1073741824 bs e)).rs else fl)]
def rtakeS : zai
 | [.agg [.sb bs fb,.w (.int .i64 e)],.agg [.w (.int .u8 k),.str t,.w (.int .i64 i),.w (.int .i64 p),.w (.bool c),.w (.bool f),.w (.int .i64 o),.w (.int .i64 m),.w (.int .i64 w),.str g,.str mb,.w (.int .i64 n),.w (.int .i64 b1),.w (.int .i64 b2),.w (.int .i64 b3),.w (.int .i64 b4),.w (.int .i64 b5),.sg 6 xs fl],.w (.int .u8 x)],[] => ⟨ltr22 x ∧ bs.length ≤ 1000000 ∧ ∃ rs : List Rec,xs = rs.map rv,.tup [rrd (rtakeQ x bs e).1 fb (rtakeQ x bs e).2,rtakeA x bs e k t i p c f o m w g mb n b1 b2 b3 b4 b5 xs fl],[]⟩
 | _,_ => zba
def Srtake (f : FuncId) : Option zai :=
 match f with
 | 50 => some zbi
 | 56 => some zat
 | 57 => some zav
 | 58 => some bgetS
 | _ => none
theorem Srtake_ok : Fns Try.prog Srtake := by
 intro f s h
 unfold Srtake at h
 split at h
 · injection h with h; subst h; exact ⟨⟨_,Try.func50,by kernel_rfl,by kernel_rfl⟩,rrfix_sound⟩
 · injection h with h; subst h; exact ⟨⟨_,Try.func56,by kernel_rfl,by kernel_rfl⟩,rrnum_sound⟩
 · injection h with h; subst h; exact ⟨⟨_,Try.func57,by kernel_rfl,by kernel_rfl⟩,rrtext_sound⟩
 · injection h with h; subst h; exact ⟨⟨_,Try.func58,by kernel_rfl,by kernel_rfl⟩,dget_sound⟩
 · cases h
def rtakePl : Plan := fun id => match id with
 | 29 => some [(1,2)]
 | _ => none
section
set_option maxRecDepth 100000
set_option maxHeartbeats 8000000 in
theorem rtake_sound : zaq Try.prog 51 rtakeS := by
 refine fn_soundF (S := Srtake) (T := ty) (pl := rtakePl) zas ty_ok Srtake_ok Try.func51 (c := Try.f51.body.getD .skip) (by kernel_rfl) (by kernel_rfl) (fun xs pins hp _ => ?_)
 unfold rtakeS at hp ⊢
 split at hp
 · rename_i bs fb e k t i p c f o m w g mb n b1 b2 b3 b4 b5 xs fl x _
   obtain ⟨hx,hb,rs,rfl⟩ := hp
   have hmr := zah rs
   have hcl := zbz rs
   have tk : ∀ l : List UInt8,List.take l.length l = l := fun l => List.take_length
   have hS : (rtS' 1073741824 bs e).length ≤ 1000000 := by have := tkS_len22 1073741824 bs e; omega
   refine ⟨by simp,?_⟩
   unfold Try.f51
   rcases hx with rfl | rfl | rfl | rfl | rfl | rfl | rfl | rfl | rfl | rfl | rfl | rfl
   all_goals
     simp only [go_sem,zac,Nat.reduceAdd,Nat.reduceSub,Nat.reduceMul,Int.reduceToNat,reduceCtorEq,↓reduceIte,Int.reducePow,Nat.reducePow,Int.reduceMod,Nat.reduceLeDiff,Int.reduceLE,Int.reduceNe,Int.reduceEq,Nat.reduceEqDiff,Nat.reduceLT,Nat.reduceBEq,List.map_cons,List.map_nil,List.toList_toArray,Array.toList_append,Option.toArray_some,Option.toArray_none,Bool.and_self,ty,Srtake,rtakePl,zbi,zat,zav,bgetS,bav,rrd,hb,hS,tk,hcl,Int.reduceEq,Nat.reduceEqDiff,or_self,or_false,false_or,or_true,true_or,if_true,if_false]
     try (repeat (refine And.intro (by first | omega | decide) ?_))
     refine ⟨_,Weak.refl _,?_⟩
     simp only [go_sem,zac,Nat.reduceAdd,Nat.reduceSub,Nat.reduceMul,Int.reduceToNat,reduceCtorEq,↓reduceIte,Int.reducePow,Nat.reducePow,Int.reduceMod,Nat.reduceLeDiff,Int.reduceLE,Int.reduceNe,Int.reduceEq,Nat.reduceEqDiff,Nat.reduceLT,Nat.reduceBEq,List.map_cons,List.map_nil,List.toList_toArray,Array.toList_append,Option.toArray_some,Option.toArray_none,Bool.and_self,ty,rtakeA,rtakeQ,rrd,hcl,Int.reduceEq,Nat.reduceEqDiff,or_self,or_false,false_or,or_true,true_or,if_true,if_false]
 · exact hp.elim
end
end Go.Proofs.Ytmedjkjoannbmaa
namespace Go.Proofs.Ytmedjkjoannbmaa
open Ax
def rrdR (b : List UInt8) : Rq := (rdB 1073741824 b).1
theorem rrdR_fit (b : List UInt8) (hb : b.length ≤ 1000000) : fitR (rrdR b) := rdB_fit 1073741824 b hb
theorem rrdR_of {b : List UInt8} (hb : b.length ≤ 1000000) (h : gqOk b) : rrdR b = rdR b := by
 have h1 := congrArg Prod.fst (rd_lay 1073741824 (by decide) (rdR b) h.1 (rdR_fit b hb) [])
 rw [List.append_nil,h.2] at h1
 exact h1
def rgqOk (b : List UInt8) : Prop := chkR (rrdR b) = 0 ∧ layR (rrdR b) = b
theorem rgq_iff {b : List UInt8} (hb : b.length ≤ 1000000) : rgqOk b ↔ gqOk b := by
 constructor
 · intro h
   have h1 := (rd_lay22 (rrdR b) h.1 (rrdR_fit b hb) []).1
   rw [List.append_nil,h.2] at h1
   unfold gqOk
   rw [h1]
   exact h
 · intro h
   have h1 := rrdR_of hb h
   unfold rgqOk
   rw [h1]
   exact h
theorem rgq_cases (b : List UInt8) (hb : b.length ≤ 1000000) {M : Rq} (hM : rrdR b = M) {C : Int} {W : List UInt8} (hC : chkR M = C) (hW : putR M = W) :
   (gqOk b ∧ rdR b = M ∧ decide (C = 0) = true ∧ decide (W = b) = true) ∨ (¬ gqOk b ∧ decide (C = 0) = false) ∨ (¬ gqOk b ∧ decide (C = 0) = true ∧ decide (W = b) = false) := by
 subst hM hC hW
 by_cases hg : gqOk b
 · have h1 := rrdR_of hb hg
   have h2 := (rgq_iff hb).2 hg
   have h3 : putR (rrdR b) = b := (if_pos h2.1).trans h2.2
   exact .inl ⟨hg,h1.symm,decide_eq_true h2.1,decide_eq_true h3⟩
 · by_cases h2 : chkR (rrdR b) = 0
   · by_cases h3 : putR (rrdR b) = b
     · exact (hg ((rgq_iff hb).1 ⟨h2,(if_pos h2).symm.trans h3⟩)).elim
     · exact .inr (.inr ⟨hg,decide_eq_true h2,decide_eq_false h3⟩)
   · exact .inr (.inl ⟨hg,decide_eq_false h2⟩)
theorem rtakeA_rq (x : Int) (bs : List UInt8) (e : Int) (q : Rq) : rtakeA x bs e q.k q.t q.i q.p q.c q.f q.o q.m q.w q.g q.mb q.n q.b.b q.b.c q.b.p q.b.e q.b.s (q.b.rs.map rv) (emp q.b.rs) = rqA (tkR 1073741824 x (bs,e) q) (emp (tkR 1073741824 x (bs,e) q).b.rs) := by
 unfold rtakeA rqA tkR
 by_cases h : x = 98
 · simp only [if_pos h]
 · simp only [if_neg h]
def SrgetQ (f : FuncId) : Option zai :=
 match f with
 | 50 => some zbi
 | 15 => some usesS
 | 51 => some rtakeS
 | 11 => some putQS
 | _ => none
theorem SrgetQ_ok : Fns Try.prog SrgetQ := by
 intro f s h
 unfold SrgetQ at h
 split at h
 · injection h with h; subst h; exact ⟨⟨_,Try.func50,by kernel_rfl,by kernel_rfl⟩,rrfix_sound⟩
 · injection h with h; subst h; exact ⟨⟨_,Try.func15,by kernel_rfl,by kernel_rfl⟩,zfp⟩
 · injection h with h; subst h; exact ⟨⟨_,Try.func51,by kernel_rfl,by kernel_rfl⟩,rtake_sound⟩
 · injection h with h; subst h; exact ⟨⟨_,Try.func11,by kernel_rfl,by kernel_rfl⟩,rputQ_sound⟩
 · cases h
def rgetQPl : XPlan := fun id => match id with
 | 7 => .prs []
 | _ => .std
section
set_option maxRecDepth 100000
set_option maxHeartbeats 8000000 in
theorem rgetQ_sound : zaq Try.prog 22 getQS := by
 refine zcj (S := SrgetQ) (SO := noO) (T := ty) zas ty_ok SrgetQ_ok noO_ok Try.func22 (c := Try.f22.body.getD .skip) (by kernel_rfl) (fun xs pins hp _ => ?_)
 have hx : ∃ b f,xs = [.sb b f] ∧ pins = [] ∧ b.length ≤ 1000000 := by
   unfold getQS at hp
   split at hp
   · rename_i b f _
     exact ⟨b,f,rfl,rfl,hp⟩
   · exact hp.elim
 obtain ⟨b,f,rfl,rfl,hb⟩ := hx
 refine ⟨by simp,rgetQPl,by kernel_rfl,?_⟩
 have hK' : zdz 1 b 0 % 256 = kq b := rfl
 obtain ⟨K,hK⟩ : ∃ x,kq b = x := ⟨_,rfl⟩
 have hKr := kq_rng b
 rw [hK] at hK' hKr
 obtain ⟨hK0,hK1⟩ := hKr
 have hK3 : K ≤ 255 := by omega
 have tk : ∀ l : List UInt8,List.take l.length l = l := fun l => List.take_length
 obtain ⟨a0,ha0⟩ : ∃ x,zfj 1 b 0 = x := ⟨_,rfl⟩
 obtain ⟨z0,hz0⟩ : ∃ x,rfixE 1 b 0 = x := ⟨_,rfl⟩
 have hl0 : a0.length ≤ 1000000 := by have := zbp 1 b 0; rw [ha0] at this; omega
 have hul := uses_len K
 have hlt : ∀ x ∈ zcr K,ltr22 (x.toNat : Int) := fun x hx => let_ltr hx
 obtain ⟨L,hLL⟩ : ∃ L,zcr K = L := ⟨_,rfl⟩
 rw [hLL] at hul hlt
 have hrd : rdB 1073741824 b = rdL 1073741824 L (a0,z0) (zRk K) := by unfold rdB; rw [hK,hLL]; unfold sq0; rw [ha0,hz0]
 unfold Try.f22
 simp only [go_sem,zab,Nat.reduceAdd,Nat.reduceSub,Nat.reduceMul,Int.reduceToNat,reduceCtorEq,↓reduceIte,Int.reducePow,Nat.reducePow,Int.reduceMod,Nat.reduceLeDiff,Int.reduceLE,Int.reduceNe,Int.reduceEq,Nat.reduceEqDiff,Nat.reduceLT,Nat.reduceBEq,List.map_cons,List.map_nil,List.toList_toArray,Array.toList_append,Option.toArray_some,Option.toArray_none,Bool.and_self,ty,SrgetQ,rgetQPl,zbi,usesS,rrd,hb,hK',hLL,ha0,hz0,hl0,hK0,hK1,hK3,tk]
 refine zdl ⟨fun mm σ => ∃ (j : Nat) (M : Rq) (u : List UInt8) (e : Int),mm = L.length - j ∧ j ≤ L.length ∧ rdL 1073741824 (L.take j) (a0,z0) (zRk K) = (M,(u,e)) ∧
   σ = ⟨[.sb b f,.junk,.rf 4 18 0 0,.w (.int .i64 0),.rf 5 2 0 0,.junk,.rf 6 18 0 0,.str L,.w (.int .i64 j),.junk,.junk,.junk,.junk,.junk,.junk,.junk,.junk,.junk,.junk,.junk,.junk,.junk,.junk,.junk,.junk,.junk,.junk,.junk,.junk,.junk,.junk,.junk,.junk,.junk,.junk,.junk,.junk,.junk,.junk,.junk,.junk,.junk,.junk,.junk,.junk,.junk,.junk,.junk,.junk,.junk,.junk,.junk,.junk,.junk],[(4,.g 18 [.agg [.w (.int .u8 0),.str [],.w (.int .i64 0),.w (.int .i64 0),.w (.bool false),.w (.bool false),.w (.int .i64 0),.w (.int .i64 0),.w (.int .i64 0),.str [],.str [],.w (.int .i64 0),.w (.int .i64 0),.w (.int .i64 0),.w (.int .i64 0),.w (.int .i64 0),.w (.int .i64 0),.sg 6 [] true]]),(5,.g 2 [.agg [.sb u f,.w (.int .i64 e)]]),(6,.g 18 [.agg [.w (.int .u8 M.k),.str M.t,.w (.int .i64 M.i),.w (.int .i64 M.p),.w (.bool M.c),.w (.bool M.f),.w (.int .i64 M.o),.w (.int .i64 M.m),.w (.int .i64 M.w),.str M.g,.str M.mb,.w (.int .i64 M.n),.w (.int .i64 M.b.b),.w (.int .i64 M.b.c),.w (.int .i64 M.b.p),.w (.int .i64 M.b.e),.w (.int .i64 M.b.s),.sg 6 (M.b.rs.map rv) (emp M.b.rs)]])],7⟩,?_,?_⟩
 · refine ⟨_,_,zad [0,1,2,3,4,68,116] rfl rfl rfl ?_ ?_,0,zRk K,a0,z0,rfl,by omega,rfl,rfl⟩
   · simp only [ssT,zae,zaf,setSlot,gOf,AV.ren,renL,Blk.ren,Ax.look,Ax.put,reduceCtorEq,↓reduceIte,Nat.reduceEqDiff,Nat.reduceLT,Nat.reduceAdd,List.length_append,List.length_cons,List.length_nil,Option.some.injEq]; try simp
   · simp only [ssT,zae,zaf,setSlot,gOf,AV.ren,renL,Blk.ren,Ax.look,Ax.put,reduceCtorEq,↓reduceIte,Nat.reduceEqDiff,Nat.reduceLT,Nat.reduceAdd,List.length_append,List.length_cons,List.length_nil,Option.some.injEq,zRk,zB,zcy,List.map_nil]; try simp
 · rintro m' σ ⟨j,M,u,e,rfl,hj,hM,rfl⟩
   have hfa := fit_all 1073741824 (L.take j) (a0,z0) (zRk K) hl0 (by rw [← hK]; exact zR_fit b)
   rw [hM] at hfa
   obtain ⟨hfit,hu⟩ := hfa
   have hu : u.length ≤ 1000000 := Nat.le_trans hu hl0
   have hex : ∃ qs : List Rec,M.b.rs.map rv = qs.map rv := ⟨M.b.rs,rfl⟩
   have hcl := zbz M.b.rs
   by_cases hjl : j < L.length
   · have d1 : decide ((j : Int) < L.length) = true := decide_eq_true (by omega)
     have e1 : ((j : Int) + 1 + 9223372036854775808) % 18446744073709551616 - 9223372036854775808 = ((j + 1 : Nat) : Int) := by omega
     have hx1 : L.getD j 0 = L[j] := by rw [List.getD_eq_getElem?_getD,List.getElem?_eq_getElem hjl]; rfl
     have hlx := hlt L[j] (List.getElem_mem hjl)
     have hnext := rdL_take 1073741824 L (a0,z0) (zRk K) hjl
     rw [hM] at hnext
     simp only at hnext
     obtain ⟨x,hx⟩ : ∃ x,((L[j].toNat : Nat) : Int) = x := ⟨_,rfl⟩
     rw [hx] at hlx hnext
     have hT := rtakeA_rq x u e M
     obtain ⟨M',hM'⟩ : ∃ M',tkR 1073741824 x (u,e) M = M' := ⟨_,rfl⟩
     have hQ : rtakeQ x u e = nxB 1073741824 x (u,e) := rfl
     obtain ⟨⟨u',e'⟩,hs'⟩ : ∃ s',nxB 1073741824 x (u,e) = s' := ⟨_,rfl⟩
     rw [hM'] at hT hnext
     rw [hs'] at hQ hnext
     have hcl' := zbz M'.b.rs
     simp only [go_sem,zab,Nat.reduceAdd,Nat.reduceSub,Nat.reduceMul,Int.reduceToNat,reduceCtorEq,↓reduceIte,Int.reducePow,Nat.reducePow,Int.reduceMod,Nat.reduceLeDiff,Int.reduceLE,Int.reduceNe,Int.reduceEq,Nat.reduceEqDiff,Nat.reduceLT,Nat.reduceBEq,List.map_cons,List.map_nil,List.toList_toArray,Array.toList_append,Option.toArray_some,Option.toArray_none,Bool.and_self,ty,SrgetQ,rgetQPl,rtakeS,rrd,d1,hx1,hx,e1,hjl,Int.toNat_natCast,hlx,hu,hex,hcl,hcl',hT,rqA,hQ]
     repeat (refine And.intro (by first | omega | decide) ?_)
     refine ⟨L.length - (j + 1),_,by omega,zad [0,1,2,3,4,5,6] rfl rfl rfl ?_ ?_,j + 1,M',u',e',rfl,by omega,hnext,rfl⟩
     · simp only [ssT,zae,zaf,setSlot,gOf,AV.ren,renL,Blk.ren,Ax.look,Ax.put,reduceCtorEq,↓reduceIte,Nat.reduceEqDiff,Nat.reduceLT,Nat.reduceAdd,List.length_append,List.length_cons,List.length_nil,Option.some.injEq]; try simp
     · simp only [ssT,zae,zaf,setSlot,gOf,AV.ren,renL,Blk.ren,Ax.look,Ax.put,reduceCtorEq,↓reduceIte,Nat.reduceEqDiff,Nat.reduceLT,Nat.reduceAdd,List.length_append,List.length_cons,List.length_nil,Option.some.injEq]; try simp
   · obtain rfl : j = L.length := by omega
     have d1 : decide ((L.length : Int) < L.length) = false := decide_eq_false (by omega)
     rw [List.take_length,← hrd] at hM
     have hMr : rrdR b = M := congrArg Prod.fst hM
     obtain ⟨C,hC⟩ : ∃ x,chkR M = x := ⟨_,rfl⟩
     obtain ⟨W,hW⟩ : ∃ x,putR M = x := ⟨_,rfl⟩
     have hcase := rgq_cases b hb hMr hC hW
     have hC' : chkQ M.k M.t M.i M.p M.c M.f M.o M.m M.w M.g M.mb M.n M.b.b M.b.c M.b.p M.b.e M.b.s M.b.rs = C := hC
     have hW' : putQ M.k M.t M.i M.p M.c M.f M.o M.m M.w M.g M.mb M.n M.b.b M.b.c M.b.p M.b.e M.b.s M.b.rs = W := hW
     obtain ⟨⟨k1,k2⟩,lq,iq,hr40⟩ := hfit
     have h40 : (M.b.rs.map rv).length ≤ 40 := by rw [List.length_map]; exact hr40
     have hmr := zah M.b.rs
     have hVok : gqOk b → rdR b = M → gqA b = .agg [.w (.int .u8 M.k),.str M.t,.w (.int .i64 M.i),.w (.int .i64 M.p),.w (.bool M.c),.w (.bool M.f),.w (.int .i64 M.o),.w (.int .i64 M.m),.w (.int .i64 M.w),.str M.g,.str M.mb,.w (.int .i64 M.n),.w (.int .i64 M.b.b),.w (.int .i64 M.b.c),.w (.int .i64 M.b.p),.w (.int .i64 M.b.e),.w (.int .i64 M.b.s),.sg 6 (M.b.rs.map rv) (emp M.b.rs)] ∧ (if gqOk b then (0 : Int) else 4) = 0 := by
       intro h hMr; unfold gqA gqR; rw [if_pos h,if_pos h,hMr]; exact ⟨rfl,rfl⟩
     have hVno : ¬ gqOk b → gqA b = .agg [.w (.int .u8 0),.str [],.w (.int .i64 0),.w (.int .i64 0),.w (.bool false),.w (.bool false),.w (.int .i64 0),.w (.int .i64 0),.w (.int .i64 0),.str [],.str [],.w (.int .i64 0),.w (.int .i64 0),.w (.int .i64 0),.w (.int .i64 0),.w (.int .i64 0),.w (.int .i64 0),.sg 6 [] true] ∧ (if gqOk b then (0 : Int) else 4) = 4 := by
       intro h; unfold gqA gqR; rw [if_neg h,if_neg h]; exact ⟨rfl,rfl⟩
     rcases hcase with X | X | X
     · obtain ⟨w1,w2⟩ := hVok X.1 X.2.1
       simp only [go_sem,zab,Nat.reduceAdd,Nat.reduceSub,Nat.reduceMul,Int.reduceToNat,reduceCtorEq,↓reduceIte,Int.reducePow,Nat.reducePow,Int.reduceMod,Nat.reduceLeDiff,Int.reduceLE,Int.reduceNe,Int.reduceEq,Nat.reduceEqDiff,Nat.reduceLT,Nat.reduceBEq,List.map_cons,List.map_nil,List.toList_toArray,Array.toList_append,Option.toArray_some,Option.toArray_none,Bool.and_self,ty,SrgetQ,rgetQPl,getQS,putQS,rrd,d1,hu,k1,k2,lq,iq,hC',hW',tk,hex,hcl,h40,hmr,X.2,w1,w2]
       refine ⟨_,Weak.refl _,?_⟩
       simp only [go_sem,zab,Nat.reduceAdd,Nat.reduceSub,Nat.reduceMul,Int.reduceToNat,reduceCtorEq,↓reduceIte,Int.reducePow,Nat.reducePow,Int.reduceMod,Nat.reduceLeDiff,Int.reduceLE,Int.reduceNe,Int.reduceEq,Nat.reduceEqDiff,Nat.reduceLT,Nat.reduceBEq,List.map_cons,List.map_nil,List.toList_toArray,Array.toList_append,Option.toArray_some,Option.toArray_none,Bool.and_self,ty,SrgetQ,rgetQPl,getQS,putQS,rrd,d1,hu,k1,k2,lq,iq,hC',hW',tk,hex,hcl,h40,hmr,X.2,w1,w2]
       refine ⟨_,Weak.refl _,?_⟩
       simp only [go_sem,zab,Nat.reduceAdd,Nat.reduceSub,Nat.reduceMul,Int.reduceToNat,reduceCtorEq,↓reduceIte,Int.reducePow,Nat.reducePow,Int.reduceMod,Nat.reduceLeDiff,Int.reduceLE,Int.reduceNe,Int.reduceEq,Nat.reduceEqDiff,Nat.reduceLT,Nat.reduceBEq,List.map_cons,List.map_nil,List.toList_toArray,Array.toList_append,Option.toArray_some,Option.toArray_none,Bool.and_self,ty]
     all_goals
       obtain ⟨w1,w2⟩ := hVno X.1
       simp only [go_sem,zab,Nat.reduceAdd,Nat.reduceSub,Nat.reduceMul,Int.reduceToNat,reduceCtorEq,↓reduceIte,Int.reducePow,Nat.reducePow,Int.reduceMod,Nat.reduceLeDiff,Int.reduceLE,Int.reduceNe,Int.reduceEq,Nat.reduceEqDiff,Nat.reduceLT,Nat.reduceBEq,List.map_cons,List.map_nil,List.toList_toArray,Array.toList_append,Option.toArray_some,Option.toArray_none,Bool.and_self,ty,SrgetQ,rgetQPl,getQS,putQS,rrd,d1,hu,k1,k2,lq,iq,hC',hW',tk,hex,hcl,h40,hmr,X.2,w1,w2]
       refine ⟨_,Weak.refl _,?_⟩
       simp only [go_sem,zab,Nat.reduceAdd,Nat.reduceSub,Nat.reduceMul,Int.reduceToNat,reduceCtorEq,↓reduceIte,Int.reducePow,Nat.reducePow,Int.reduceMod,Nat.reduceLeDiff,Int.reduceLE,Int.reduceNe,Int.reduceEq,Nat.reduceEqDiff,Nat.reduceLT,Nat.reduceBEq,List.map_cons,List.map_nil,List.toList_toArray,Array.toList_append,Option.toArray_some,Option.toArray_none,Bool.and_self,ty,SrgetQ,rgetQPl,getQS,putQS,rrd,d1,hu,k1,k2,lq,iq,hC',hW',tk,hex,hcl,h40,hmr,X.2,w1,w2]
       refine ⟨_,Weak.refl _,?_⟩
       simp only [go_sem,zab,Nat.reduceAdd,Nat.reduceSub,Nat.reduceMul,Int.reduceToNat,reduceCtorEq,↓reduceIte,Int.reducePow,Nat.reducePow,Int.reduceMod,Nat.reduceLeDiff,Int.reduceLE,Int.reduceNe,Int.reduceEq,Nat.reduceEqDiff,Nat.reduceLT,Nat.reduceBEq,List.map_cons,List.map_nil,List.toList_toArray,Array.toList_append,Option.toArray_some,Option.toArray_none,Bool.and_self,ty]
end
end Go.Proofs.Ytmedjkjoannbmaa
