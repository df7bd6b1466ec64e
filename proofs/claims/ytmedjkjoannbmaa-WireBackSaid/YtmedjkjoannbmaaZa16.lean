/- What the proofs of this seat stand on; it asks nothing. -/
import Derived.Test.YtmedjkjoannbmaaZa15
set_option linter.unusedSimpArgs false
set_option linter.unusedVariables false
namespace Go.Proofs.Ytmedjkjoannbmaa
open Ax
theorem zg_rng22 (v : Nat) (h : v < 18446744073709551616) : -9223372036854775808 ≤ zg (v : Int) ∧ zg (v : Int) ≤ 9223372036854775807 := by
 unfold zg; split <;> omega
theorem getM_rng22 : ∀ (l : List UInt8) (i u : Nat),u < 128 ^ i → i ≤ 10 → -9223372036854775808 ≤ (getM i u l).1 ∧ (getM i u l).1 ≤ 9223372036854775807
 | [],i,u,_,_ => by unfold getM; split <;> decide
 | c :: r,i,u,hu,hi => by
   unfold getM
   have hp : (128 : Nat) ^ (i + 1) = 128 * 128 ^ i := by rw [Nat.pow_succ,Nat.mul_comm]
   split
   · decide
   · rename_i h10
     split
     · refine getM_rng22 r (i + 1) _ ?_ (by omega)
       have h1 : c.toNat % 128 * 128 ^ i ≤ 127 * 128 ^ i := Nat.mul_le_mul_right _ (by omega)
       omega
     · rename_i hc
       split
       · decide
       · rename_i hb
         refine zg_rng22 _ ?_
         by_cases h9 : i = 9
         · subst h9
           have h1 : c.toNat * 128 ^ 9 ≤ 1 * 128 ^ 9 := Nat.mul_le_mul_right _ (by omega)
           have h2 : (128 : Nat) ^ 9 = 9223372036854775808 := by decide
           omega
         · have h1 : c.toNat * 128 ^ i ≤ 127 * 128 ^ i := Nat.mul_le_mul_right _ (by omega)
           have h2 : (128 : Nat) ^ (i + 1) ≤ 128 ^ 9 := Nat.pow_le_pow_right (by decide) (by omega)
           have h3 : (128 : Nat) ^ 9 = 9223372036854775808 := by decide
           omega
theorem zcb (b : List UInt8) (e : Int) : okI (numN b e) := by
 unfold okI numN; split
 · rw [getL_M]; exact getM_rng22 b 0 0 (by decide) (by decide)
 · decide
theorem zak : okI 0 := by unfold okI; decide
theorem zcl (x : Int) (s : List UInt8 × Int) : (nx22 x s).1.length ≤ s.1.length := by
 unfold nx22 zbu
 have h1 : ∀ m,(rtL m s.1 s.2).length ≤ s.1.length := fun m => rtL_length m s.1 s.2
 repeat' split
 · exact h1 255
 · exact zbg 1 s.1 s.2
 · exact h1 8192
 · exact zby s.1 s.2
theorem bget0_recs (s : List UInt8) : (zdg s).rs.length ≤ 32 := by
 unfold zdg
 cases h : bget s with
 | none => simp
 | some x => exact (bheads (bget_some h).1 []).2.2.2.2.2.2.2.1
theorem zdj (m : Int) (s : List UInt8 × Int) (n : Nat) (h : s.1.length ≤ n) : (rtS' m s.1 s.2).length ≤ n := Nat.le_trans (tkS_len22 m s.1 s.2) h
theorem zet {x : Int} {s : List UInt8 × Int} {n : Nat} (h : s.1.length ≤ n) : (nx22 x s).1.length ≤ n := Nat.le_trans (zcl x s) h
theorem zdk {b : List UInt8} {n : Nat} (h : b.length ≤ n) : (sq0 b).1.length ≤ n := Nat.le_trans (zbg 1 b 0) h
theorem zes (b : List UInt8) (hb : b.length ≤ 1000000) : fitR (rdR b) := by
 have hk := kq_rng b
 refine ⟨by rw [rdR_k]; exact hk,?_⟩
 unfold rdR
 by_cases h0 : kq b = 0
 · rw [if_pos h0]
   exact ⟨⟨zdj 255 _ _ (zdk hb),by simp,by simp⟩,⟨zak,zcb _ _,zak,zak,zak,zak⟩,by simp [zB]⟩
 rw [if_neg h0]
 by_cases h1 : kq b = 1
 · rw [if_pos h1]
   exact ⟨⟨zdj 255 _ _ (zdk hb),by simp,by simp⟩,⟨zak,zak,zak,zak,zak,zak⟩,by simp [zB]⟩
 rw [if_neg h1]
 by_cases h2 : kq b = 2
 · rw [if_pos h2]
   exact ⟨⟨zdj 255 _ _ (zdk hb),by simp,by simp⟩,⟨zak,zak,zak,zak,zak,zak⟩,by simp [zB]⟩
 rw [if_neg h2]
 by_cases h3 : kq b = 3
 · rw [if_pos h3]
   exact ⟨⟨zdj 255 _ _ (zdk hb),by simp,by simp⟩,⟨zcb _ _,zak,zak,zak,zak,zak⟩,Nat.le_trans (bget0_recs _) (by decide)⟩
 rw [if_neg h3]
 by_cases h4 : kq b = 4
 · rw [if_pos h4]
   exact ⟨⟨zdj 255 _ _ (zdk hb),by simp,by simp⟩,⟨zcb _ _,zak,zcb _ _,zcb _ _,zak,zak⟩,by simp [zB]⟩
 rw [if_neg h4]
 by_cases h5 : kq b = 5
 · rw [if_pos h5]
   exact ⟨⟨zdj 255 _ _ (zdk hb),by simp,by simp⟩,⟨zcb _ _,zak,zak,zak,zcb _ _,zak⟩,by simp [zB]⟩
 rw [if_neg h5]
 by_cases h6 : kq b = 6
 · rw [if_pos h6]
   exact ⟨⟨by simp,zdj 255 _ _ (zdk hb),zdj 255 _ _ (zet (zdk hb))⟩,⟨zak,zak,zak,zak,zak,zak⟩,by simp [zB]⟩
 rw [if_neg h6]
 by_cases h7 : kq b = 7
 · rw [if_pos h7]
   exact ⟨⟨zdj 255 _ _ (zdk hb),zdj 255 _ _ (zet (zdk hb)),zdj 255 _ _ (zet (zet (zdk hb)))⟩,⟨zak,zak,zak,zak,zak,zcb _ _⟩,by simp [zB]⟩
 rw [if_neg h7]
 by_cases h8 : kq b = 8
 · rw [if_pos h8]
   exact ⟨⟨by simp,zdj 255 _ _ (zdk hb),zdj 255 _ _ (zet (zdk hb))⟩,⟨zak,zak,zak,zak,zak,zcb _ _⟩,by simp [zB]⟩
 rw [if_neg h8]
 by_cases h9 : kq b = 9
 · rw [if_pos h9]
   exact ⟨⟨by simp,zdj 255 _ _ (zdk hb),zdj 255 _ _ (zet (zdk hb))⟩,⟨zak,zak,zak,zak,zak,zak⟩,by simp [zB]⟩
 rw [if_neg h9]
 by_cases h10 : kq b = 10
 · rw [if_pos h10]
   exact ⟨⟨zdj 255 _ _ (zdk hb),zdj 255 _ _ (zet (zet (zet (zdk hb)))),zdj 255 _ _ (zet (zet (zet (zet (zdk hb)))))⟩,⟨zcb _ _,zak,zcb _ _,zak,zak,zcb _ _⟩,by simp [zB]⟩
 rw [if_neg h10]
 by_cases h11 : kq b = 11
 · rw [if_pos h11]
   exact ⟨⟨zdj 255 _ _ (zdk hb),zdj 255 _ _ (zet (zet (zdk hb))),by simp⟩,⟨zcb _ _,zak,zak,zak,zak,zak⟩,by simp [zB]⟩
 rw [if_neg h11]
 exact ⟨⟨by simp,by simp,by simp⟩,⟨zak,zak,zak,zak,zak,zak⟩,by simp [zB]⟩
def gqOk (b : List UInt8) : Prop := chkR (rdR b) = 0 ∧ layR (rdR b) = b
instance (b : List UInt8) : Decidable (gqOk b) := by unfold gqOk; infer_instance
def zR : Rq := ⟨0,[],0,0,false,false,0,0,0,[],[],0,zB⟩
def gqR (b : List UInt8) : Rq := if gqOk b then rdR b else zR
def gqA (b : List UInt8) : AV := rqA (gqR b) (emp (gqR b).b.rs)
def zbr : zaq
 | [.sb b fb],[] => ⟨b.length ≤ 1000000,.tup [gqA b,.w (.int .i64 (if gqOk b then 0 else 4))],[]⟩
 | _,_ => zbv
theorem gq_done {b : List UInt8} (hb : b.length ≤ 1000000) (h : gqOk b) : rdS b = ([],0) := by
 have h1 := (rd_lay22 (rdR b) h.1 (zes b hb) []).2
 rw [List.append_nil,h.2] at h1; exact h1
theorem zeo (b : List UInt8) (hb : b.length ≤ 1000000) {M : Rq} (hM : rdR b = M) {L : List UInt8} {E D C : Int} {W : List UInt8} (hQ : rdS b = (L,E)) (hD : (if E = 0 ∧ 0 < L.length then (4 : Int) else E) = D) (hC : chkR M = C) (hW : putR M = W) :
   (gqOk b ∧ decide (D = 0) = true ∧ decide (C = 0) = true ∧ decide (W = b) = true) ∨ (¬ gqOk b ∧ decide (D = 0) = false) ∨ (¬ gqOk b ∧ decide (D = 0) = true ∧ decide (C = 0) = false) ∨ (¬ gqOk b ∧ decide (D = 0) = true ∧ decide (C = 0) = true ∧ decide (W = b) = false) := by
 subst hM hC hW hD
 by_cases hg : gqOk b
 · have h1 := gq_done hb hg
   rw [hQ] at h1
   injection h1 with h1 h2
   subst h1 h2
   have h3 : putR (rdR b) = b := (if_pos hg.1).trans hg.2
   exact .inl ⟨hg,by simp,decide_eq_true hg.1,decide_eq_true h3⟩
 · by_cases h1 : (if E = 0 ∧ 0 < L.length then (4 : Int) else E) = 0
   · by_cases h2 : chkR (rdR b) = 0
     · by_cases h3 : putR (rdR b) = b
       · exact (hg ⟨h2,(if_pos h2).symm.trans h3⟩).elim
       · exact .inr (.inr (.inr ⟨hg,decide_eq_true h1,decide_eq_true h2,decide_eq_false h3⟩))
     · exact .inr (.inr (.inl ⟨hg,decide_eq_true h1,decide_eq_false h2⟩))
   · exact .inr (.inl ⟨hg,decide_eq_false h1⟩)
def zcn : zaq
 | [.sb a f,.sb b g],[] => ⟨True,.w (.bool (decide (a = b))),[]⟩
 | _,_ => zbv
section
set_option maxRecDepth 100000
theorem eqB22_sound : zbf Try.prog 49 zcn := by
 refine zau (S := noS) (T := ty) zbj ty_ok zcy Try.func49 (c := Try.f49.body.getD .skip) (by kernel_rfl) (by kernel_rfl) (fun xs pins hp _ => ?_)
 unfold zcn at hp ⊢
 split at hp
 · rename_i a f b g _
   refine ⟨by simp,?_⟩
   unfold Try.f49
   simp only [go_sem,zaa,Nat.reduceAdd,Nat.reduceSub,Nat.reduceMul,Int.reduceToNat,reduceCtorEq,↓reduceIte,Int.reducePow,Nat.reducePow,Int.reduceMod,Nat.reduceLeDiff,Int.reduceLE,Int.reduceNe,Int.reduceEq,Nat.reduceEqDiff,Nat.reduceLT,Nat.reduceBEq,ty,noS]
 · exact hp.elim
end
def zca (f : FuncId) : Option zaq :=
 match f with
 | 45 => some newS
 | 46 => some zcs
 | 48 => some zbq
 | 14 => some zbh
 | 47 => some zba
 | 10 => some zbx
 | 49 => some zcn
 | _ => none
theorem SgetQ_ok : Fns Try.prog zca := by
 intro f s h
 unfold zca at h
 split at h
 · injection h with h; subst h; exact ⟨⟨_,Try.func45,by kernel_rfl,by kernel_rfl⟩,new_sound⟩
 · injection h with h; subst h; exact ⟨⟨_,Try.func46,by kernel_rfl,by kernel_rfl⟩,mfixed_sound⟩
 · injection h with h; subst h; exact ⟨⟨_,Try.func48,by kernel_rfl,by kernel_rfl⟩,done_sound⟩
 · injection h with h; subst h; exact ⟨⟨_,Try.func14,by kernel_rfl,by kernel_rfl⟩,uses22_sound⟩
 · injection h with h; subst h; exact ⟨⟨_,Try.func47,by kernel_rfl,by kernel_rfl⟩,take22_sound⟩
 · injection h with h; subst h; exact ⟨⟨_,Try.func10,by kernel_rfl,by kernel_rfl⟩,putQ_sound⟩
 · injection h with h; subst h; exact ⟨⟨_,Try.func49,by kernel_rfl,by kernel_rfl⟩,eqB22_sound⟩
 · cases h
section
set_option maxRecDepth 100000
set_option maxHeartbeats 8000000 in
theorem getQ_k0 (b : List UInt8) (fb : Bool) (hb : b.length ≤ 1000000) (hK : kq b = 0) :
   awp zca ty (Try.f21.body.getD .skip) (zbs ty Try.f21.results.toList [] (zbr [.sb b fb] [])) ⟨[AV.sb b fb] ++ List.replicate (Try.f21.ntmps - 1) .junk,pinHeap 0 [],4⟩ := by
 have hK' : zei 1 b 0 % 256 = 0 := hK
 obtain ⟨a0,ha0⟩ : ∃ x,zfg 1 b 0 = x := ⟨_,rfl⟩
 obtain ⟨z0,hz0⟩ : ∃ x,rfixE 1 b 0 = x := ⟨_,rfl⟩
 have hl0 : a0.length ≤ 1000000 := by have := zbg 1 b 0; rw [ha0] at this; omega
 have s0 : sq0 b = (a0,z0) := by unfold sq0; rw [ha0,hz0]
 obtain ⟨v1,hv1⟩ : ∃ x,rtS' 255 a0 z0 = x := ⟨_,rfl⟩
 obtain ⟨a1,ha1⟩ : ∃ x,rtL 255 a0 z0 = x := ⟨_,rfl⟩
 obtain ⟨z1,hz1⟩ : ∃ x,rtE 255 a0 z0 = x := ⟨_,rfl⟩
 have s1 : nx22 116 (a0,z0) = (a1,z1) := by unfold nx22 zbu; simp only [Int.reduceEq,or_self,or_false,false_or,or_true,true_or,if_true,if_false,ha1,hz1]
 have hl1 : a1.length ≤ 1000000 := by have := zcl 116 (a0,z0); rw [s1] at this; simp only at this; omega
 obtain ⟨v2,hv2⟩ : ∃ x,numN a1 z1 = x := ⟨_,rfl⟩
 obtain ⟨a2,ha2⟩ : ∃ x,numL a1 z1 = x := ⟨_,rfl⟩
 obtain ⟨z2,hz2⟩ : ∃ x,numE a1 z1 = x := ⟨_,rfl⟩
 have s2 : nx22 112 (a1,z1) = (a2,z2) := by unfold nx22 zbu; simp only [Int.reduceEq,or_self,or_false,false_or,or_true,true_or,if_true,if_false,ha2,hz2]
 have hl2 : a2.length ≤ 1000000 := by have := zcl 112 (a1,z1); rw [s2] at this; simp only at this; omega
 obtain ⟨v3,hv3⟩ : ∃ x,zei 1 a2 z2 = x := ⟨_,rfl⟩
 obtain ⟨a3,ha3⟩ : ∃ x,zfg 1 a2 z2 = x := ⟨_,rfl⟩
 obtain ⟨z3,hz3⟩ : ∃ x,rfixE 1 a2 z2 = x := ⟨_,rfl⟩
 have s3 : nx22 99 (a2,z2) = (a3,z3) := by unfold nx22 zbu; simp only [Int.reduceEq,or_self,or_false,false_or,or_true,true_or,if_true,if_false,ha3,hz3]
 have hl3 : a3.length ≤ 1000000 := by have := zcl 99 (a2,z2); rw [s3] at this; simp only at this; omega
 have hM : rdR b = ⟨0,v1,0,v2,decide (v3 = 1),false,0,0,0,[],[],0,zB⟩ := by unfold rdR; rw [hK]; simp only [Int.reduceEq,if_true,if_false,s0,s1,hv1,s2,hv2,s3,hv3]
 have hQ : rdS b = (a3,z3) := by unfold rdS; rw [hK]; simp only [Int.reduceEq,if_true,if_false,s0,s1,s2,s3]
 obtain ⟨D,hD⟩ : ∃ x,(if z3 = 0 ∧ 0 < a3.length then (4 : Int) else z3) = x := ⟨_,rfl⟩
 obtain ⟨C,hC⟩ : ∃ x,chkR ⟨0,v1,0,v2,decide (v3 = 1),false,0,0,0,[],[],0,zB⟩ = x := ⟨_,rfl⟩
 obtain ⟨W,hW⟩ : ∃ x,putR ⟨0,v1,0,v2,decide (v3 = 1),false,0,0,0,[],[],0,zB⟩ = x := ⟨_,rfl⟩
 have hcase := zeo b hb hM hQ hD hC hW
 have hC' : chkQ 0 v1 0 v2 (decide (v3 = 1)) false 0 0 0 [] [] 0 0 0 0 0 0 [] = C := hC
 have hW' : putQ 0 v1 0 v2 (decide (v3 = 1)) false 0 0 0 [] [] 0 0 0 0 0 0 [] = W := hW
 have hfit := zes b hb
 rw [hM] at hfit
 have lq : lenQ v1 [] [] := hfit.2.1
 have iq : intQ 0 v2 0 0 0 0 := hfit.2.2.1
 have hmr : ([] : List AV).map rrec = [] := rfl
 have h40 : ([] : List AV).length ≤ 40 := by simp
 have hex : ∃ qs : List Rec,([] : List AV) = qs.map rv := ⟨[],rfl⟩
 have tk : ∀ l : List UInt8,List.take l.length l = l := fun l => List.take_length
 have hVok : gqOk b → gqA b = .agg [.w (.int .u8 0),.str v1,.w (.int .i64 0),.w (.int .i64 v2),.w (.bool (decide (v3 = 1))),.w (.bool false),.w (.int .i64 0),.w (.int .i64 0),.w (.int .i64 0),.str [],.str [],.w (.int .i64 0),.w (.int .i64 0),.w (.int .i64 0),.w (.int .i64 0),.w (.int .i64 0),.w (.int .i64 0),.sg 6 [] true] ∧ (if gqOk b then (0 : Int) else 4) = 0 := by
   intro h; unfold gqA gqR; rw [if_pos h,if_pos h,hM]; exact ⟨rfl,rfl⟩
 have hVno : ¬ gqOk b → gqA b = .agg [.w (.int .u8 0),.str [],.w (.int .i64 0),.w (.int .i64 0),.w (.bool false),.w (.bool false),.w (.int .i64 0),.w (.int .i64 0),.w (.int .i64 0),.str [],.str [],.w (.int .i64 0),.w (.int .i64 0),.w (.int .i64 0),.w (.int .i64 0),.w (.int .i64 0),.w (.int .i64 0),.sg 6 [] true] ∧ (if gqOk b then (0 : Int) else 4) = 4 := by
   intro h; unfold gqA gqR; rw [if_neg h,if_neg h]; exact ⟨rfl,rfl⟩
 unfold Try.f21
 rcases hcase with X | X | X | X
 · obtain ⟨w1,w2⟩ := hVok X.1
   simp only [go_sem,zaa,Nat.reduceAdd,Nat.reduceSub,Nat.reduceMul,Int.reduceToNat,reduceCtorEq,↓reduceIte,Int.reducePow,Nat.reducePow,Int.reduceMod,Nat.reduceLeDiff,Int.reduceLE,Int.reduceNe,Int.reduceEq,Nat.reduceEqDiff,Nat.reduceLT,Nat.reduceBEq,ty,zca,zbr,newS,zcs,zbq,zbh,zat,zba,zbx,zcn,rd,hb,hK',ha0,hz0,hl0,tk,fillS,List.length_nil,Nat.zero_le,Int.reduceLT,Int.reduceLE,Int.reduceEq,Nat.reduceEqDiff,or_self,or_false,false_or,or_true,true_or,if_true,if_false]
   refine zbl 5 ?_
   simp only [go_sem,zaa,Nat.reduceAdd,Nat.reduceSub,Nat.reduceMul,Int.reduceToNat,reduceCtorEq,↓reduceIte,Int.reducePow,Nat.reducePow,Int.reduceMod,Nat.reduceLeDiff,Int.reduceLE,Int.reduceNe,Int.reduceEq,Nat.reduceEqDiff,Nat.reduceLT,Nat.reduceBEq,ty,zca,zbr,zbq,zba,zft,zbu,zbx,zcn,ltr22,rd,hb,ha0,hz0,hl0,hv1,ha1,hz1,hl1,hv2,ha2,hz2,hl2,hv3,ha3,hz3,hl3,zcg,zaf,zal,zar,Int.reduceAdd,Int.reduceSub,Int.cast_ofNat_Int,dc22_5,lq,iq,hC',hW',hD,tk,hmr,h40,hex,X.2,w1,w2,fillS,Nat.zero_le,Int.reduceLT,Int.reduceLE,List.length_nil,Int.reduceEq,Nat.reduceEqDiff,or_self,or_false,false_or,or_true,true_or,if_true,if_false]
   repeat (refine And.intro (by first | omega | decide) ?_)
   refine ⟨_,Weak.refl _,?_⟩
   simp only [go_sem,zaa,Nat.reduceAdd,Nat.reduceSub,Nat.reduceMul,Int.reduceToNat,reduceCtorEq,↓reduceIte,Int.reducePow,Nat.reducePow,Int.reduceMod,Nat.reduceLeDiff,Int.reduceLE,Int.reduceNe,Int.reduceEq,Nat.reduceEqDiff,Nat.reduceLT,Nat.reduceBEq,ty,w1,w2]
 all_goals
   obtain ⟨w1,w2⟩ := hVno X.1
   simp only [go_sem,zaa,Nat.reduceAdd,Nat.reduceSub,Nat.reduceMul,Int.reduceToNat,reduceCtorEq,↓reduceIte,Int.reducePow,Nat.reducePow,Int.reduceMod,Nat.reduceLeDiff,Int.reduceLE,Int.reduceNe,Int.reduceEq,Nat.reduceEqDiff,Nat.reduceLT,Nat.reduceBEq,ty,zca,zbr,newS,zcs,zbq,zbh,zat,zba,zbx,zcn,rd,hb,hK',ha0,hz0,hl0,tk,fillS,List.length_nil,Nat.zero_le,Int.reduceLT,Int.reduceLE,Int.reduceEq,Nat.reduceEqDiff,or_self,or_false,false_or,or_true,true_or,if_true,if_false]
   refine zbl 5 ?_
   simp only [go_sem,zaa,Nat.reduceAdd,Nat.reduceSub,Nat.reduceMul,Int.reduceToNat,reduceCtorEq,↓reduceIte,Int.reducePow,Nat.reducePow,Int.reduceMod,Nat.reduceLeDiff,Int.reduceLE,Int.reduceNe,Int.reduceEq,Nat.reduceEqDiff,Nat.reduceLT,Nat.reduceBEq,ty,zca,zbr,zbq,zba,zft,zbu,zbx,zcn,ltr22,rd,hb,ha0,hz0,hl0,hv1,ha1,hz1,hl1,hv2,ha2,hz2,hl2,hv3,ha3,hz3,hl3,zcg,zaf,zal,zar,Int.reduceAdd,Int.reduceSub,Int.cast_ofNat_Int,dc22_5,lq,iq,hC',hW',hD,tk,hmr,h40,hex,X.2,w1,w2,fillS,Nat.zero_le,Int.reduceLT,Int.reduceLE,List.length_nil,Int.reduceEq,Nat.reduceEqDiff,or_self,or_false,false_or,or_true,true_or,if_true,if_false]
   repeat (refine And.intro (by first | omega | decide) ?_)
   refine ⟨_,Weak.refl _,?_⟩
   simp only [go_sem,zaa,Nat.reduceAdd,Nat.reduceSub,Nat.reduceMul,Int.reduceToNat,reduceCtorEq,↓reduceIte,Int.reducePow,Nat.reducePow,Int.reduceMod,Nat.reduceLeDiff,Int.reduceLE,Int.reduceNe,Int.reduceEq,Nat.reduceEqDiff,Nat.reduceLT,Nat.reduceBEq,ty,w1,w2]
set_option maxHeartbeats 8000000 in
theorem getQ_k1 (b : List UInt8) (fb : Bool) (hb : b.length ≤ 1000000) (hK : kq b = 1) :
   awp zca ty (Try.f21.body.getD .skip) (zbs ty Try.f21.results.toList [] (zbr [.sb b fb] [])) ⟨[AV.sb b fb] ++ List.replicate (Try.f21.ntmps - 1) .junk,pinHeap 0 [],4⟩ := by
 have hK' : zei 1 b 0 % 256 = 1 := hK
 obtain ⟨a0,ha0⟩ : ∃ x,zfg 1 b 0 = x := ⟨_,rfl⟩
 obtain ⟨z0,hz0⟩ : ∃ x,rfixE 1 b 0 = x := ⟨_,rfl⟩
 have hl0 : a0.length ≤ 1000000 := by have := zbg 1 b 0; rw [ha0] at this; omega
 have s0 : sq0 b = (a0,z0) := by unfold sq0; rw [ha0,hz0]
 obtain ⟨v1,hv1⟩ : ∃ x,rtS' 255 a0 z0 = x := ⟨_,rfl⟩
 obtain ⟨a1,ha1⟩ : ∃ x,rtL 255 a0 z0 = x := ⟨_,rfl⟩
 obtain ⟨z1,hz1⟩ : ∃ x,rtE 255 a0 z0 = x := ⟨_,rfl⟩
 have s1 : nx22 116 (a0,z0) = (a1,z1) := by unfold nx22 zbu; simp only [Int.reduceEq,or_self,or_false,false_or,or_true,true_or,if_true,if_false,ha1,hz1]
 have hl1 : a1.length ≤ 1000000 := by have := zcl 116 (a0,z0); rw [s1] at this; simp only at this; omega
 have hM : rdR b = ⟨1,v1,0,0,false,false,0,0,0,[],[],0,zB⟩ := by unfold rdR; rw [hK]; simp only [Int.reduceEq,if_true,if_false,s0,s1,hv1]
 have hQ : rdS b = (a1,z1) := by unfold rdS; rw [hK]; simp only [Int.reduceEq,if_true,if_false,s0,s1]
 obtain ⟨D,hD⟩ : ∃ x,(if z1 = 0 ∧ 0 < a1.length then (4 : Int) else z1) = x := ⟨_,rfl⟩
 obtain ⟨C,hC⟩ : ∃ x,chkR ⟨1,v1,0,0,false,false,0,0,0,[],[],0,zB⟩ = x := ⟨_,rfl⟩
 obtain ⟨W,hW⟩ : ∃ x,putR ⟨1,v1,0,0,false,false,0,0,0,[],[],0,zB⟩ = x := ⟨_,rfl⟩
 have hcase := zeo b hb hM hQ hD hC hW
 have hC' : chkQ 1 v1 0 0 false false 0 0 0 [] [] 0 0 0 0 0 0 [] = C := hC
 have hW' : putQ 1 v1 0 0 false false 0 0 0 [] [] 0 0 0 0 0 0 [] = W := hW
 have hfit := zes b hb
 rw [hM] at hfit
 have lq : lenQ v1 [] [] := hfit.2.1
 have iq : intQ 0 0 0 0 0 0 := hfit.2.2.1
 have hmr : ([] : List AV).map rrec = [] := rfl
 have h40 : ([] : List AV).length ≤ 40 := by simp
 have hex : ∃ qs : List Rec,([] : List AV) = qs.map rv := ⟨[],rfl⟩
 have tk : ∀ l : List UInt8,List.take l.length l = l := fun l => List.take_length
 have hVok : gqOk b → gqA b = .agg [.w (.int .u8 1),.str v1,.w (.int .i64 0),.w (.int .i64 0),.w (.bool false),.w (.bool false),.w (.int .i64 0),.w (.int .i64 0),.w (.int .i64 0),.str [],.str [],.w (.int .i64 0),.w (.int .i64 0),.w (.int .i64 0),.w (.int .i64 0),.w (.int .i64 0),.w (.int .i64 0),.sg 6 [] true] ∧ (if gqOk b then (0 : Int) else 4) = 0 := by
   intro h; unfold gqA gqR; rw [if_pos h,if_pos h,hM]; exact ⟨rfl,rfl⟩
 have hVno : ¬ gqOk b → gqA b = .agg [.w (.int .u8 0),.str [],.w (.int .i64 0),.w (.int .i64 0),.w (.bool false),.w (.bool false),.w (.int .i64 0),.w (.int .i64 0),.w (.int .i64 0),.str [],.str [],.w (.int .i64 0),.w (.int .i64 0),.w (.int .i64 0),.w (.int .i64 0),.w (.int .i64 0),.w (.int .i64 0),.sg 6 [] true] ∧ (if gqOk b then (0 : Int) else 4) = 4 := by
   intro h; unfold gqA gqR; rw [if_neg h,if_neg h]; exact ⟨rfl,rfl⟩
 unfold Try.f21
 rcases hcase with X | X | X | X
 · obtain ⟨w1,w2⟩ := hVok X.1
   simp only [go_sem,zaa,Nat.reduceAdd,Nat.reduceSub,Nat.reduceMul,Int.reduceToNat,reduceCtorEq,↓reduceIte,Int.reducePow,Nat.reducePow,Int.reduceMod,Nat.reduceLeDiff,Int.reduceLE,Int.reduceNe,Int.reduceEq,Nat.reduceEqDiff,Nat.reduceLT,Nat.reduceBEq,ty,zca,zbr,newS,zcs,zbq,zbh,zat,zba,zbx,zcn,rd,hb,hK',ha0,hz0,hl0,tk,fillS,List.length_nil,Nat.zero_le,Int.reduceLT,Int.reduceLE,Int.reduceEq,Nat.reduceEqDiff,or_self,or_false,false_or,or_true,true_or,if_true,if_false]
   refine zbl 3 ?_
   simp only [go_sem,zaa,Nat.reduceAdd,Nat.reduceSub,Nat.reduceMul,Int.reduceToNat,reduceCtorEq,↓reduceIte,Int.reducePow,Nat.reducePow,Int.reduceMod,Nat.reduceLeDiff,Int.reduceLE,Int.reduceNe,Int.reduceEq,Nat.reduceEqDiff,Nat.reduceLT,Nat.reduceBEq,ty,zca,zbr,zbq,zba,zft,zbu,zbx,zcn,ltr22,rd,hb,ha0,hz0,hl0,hv1,ha1,hz1,hl1,zcg,zaf,zal,zar,Int.reduceAdd,Int.reduceSub,Int.cast_ofNat_Int,dc22_0,lq,iq,hC',hW',hD,tk,hmr,h40,hex,X.2,w1,w2,fillS,Nat.zero_le,Int.reduceLT,Int.reduceLE,List.length_nil,Int.reduceEq,Nat.reduceEqDiff,or_self,or_false,false_or,or_true,true_or,if_true,if_false]
   repeat (refine And.intro (by first | omega | decide) ?_)
   refine ⟨_,Weak.refl _,?_⟩
   simp only [go_sem,zaa,Nat.reduceAdd,Nat.reduceSub,Nat.reduceMul,Int.reduceToNat,reduceCtorEq,↓reduceIte,Int.reducePow,Nat.reducePow,Int.reduceMod,Nat.reduceLeDiff,Int.reduceLE,Int.reduceNe,Int.reduceEq,Nat.reduceEqDiff,Nat.reduceLT,Nat.reduceBEq,ty,w1,w2]
 all_goals
   obtain ⟨w1,w2⟩ := hVno X.1
   simp only [go_sem,zaa,Nat.reduceAdd,Nat.reduceSub,Nat.reduceMul,Int.reduceToNat,reduceCtorEq,↓reduceIte,Int.reducePow,Nat.reducePow,Int.reduceMod,Nat.reduceLeDiff,Int.reduceLE,Int.reduceNe,Int.reduceEq,Nat.reduceEqDiff,Nat.reduceLT,Nat.reduceBEq,ty,zca,zbr,newS,zcs,zbq,zbh,zat,zba,zbx,zcn,rd,hb,hK',ha0,hz0,hl0,tk,fillS,List.length_nil,Nat.zero_le,Int.reduceLT,Int.reduceLE,Int.reduceEq,Nat.reduceEqDiff,or_self,or_false,false_or,or_true,true_or,if_true,if_false]
   refine zbl 3 ?_
   simp only [go_sem,zaa,Nat.reduceAdd,Nat.reduceSub,Nat.reduceMul,Int.reduceToNat,reduceCtorEq,↓reduceIte,Int.reducePow,Nat.reducePow,Int.reduceMod,Nat.reduceLeDiff,Int.reduceLE,Int.reduceNe,Int.reduceEq,Nat.reduceEqDiff,Nat.reduceLT,Nat.reduceBEq,ty,zca,zbr,zbq,zba,zft,zbu,zbx,zcn,ltr22,rd,hb,ha0,hz0,hl0,hv1,ha1,hz1,hl1,zcg,zaf,zal,zar,Int.reduceAdd,Int.reduceSub,Int.cast_ofNat_Int,dc22_0,lq,iq,hC',hW',hD,tk,hmr,h40,hex,X.2,w1,w2,fillS,Nat.zero_le,Int.reduceLT,Int.reduceLE,List.length_nil,Int.reduceEq,Nat.reduceEqDiff,or_self,or_false,false_or,or_true,true_or,if_true,if_false]
   repeat (refine And.intro (by first | omega | decide) ?_)
   refine ⟨_,Weak.refl _,?_⟩
   simp only [go_sem,zaa,Nat.reduceAdd,Nat.reduceSub,Nat.reduceMul,Int.reduceToNat,reduceCtorEq,↓reduceIte,Int.reducePow,Nat.reducePow,Int.reduceMod,Nat.reduceLeDiff,Int.reduceLE,Int.reduceNe,Int.reduceEq,Nat.reduceEqDiff,Nat.reduceLT,Nat.reduceBEq,ty,w1,w2]
set_option maxHeartbeats 8000000 in
theorem getQ_k2 (b : List UInt8) (fb : Bool) (hb : b.length ≤ 1000000) (hK : kq b = 2) :
   awp zca ty (Try.f21.body.getD .skip) (zbs ty Try.f21.results.toList [] (zbr [.sb b fb] [])) ⟨[AV.sb b fb] ++ List.replicate (Try.f21.ntmps - 1) .junk,pinHeap 0 [],4⟩ := by
 have hK' : zei 1 b 0 % 256 = 2 := hK
 obtain ⟨a0,ha0⟩ : ∃ x,zfg 1 b 0 = x := ⟨_,rfl⟩
 obtain ⟨z0,hz0⟩ : ∃ x,rfixE 1 b 0 = x := ⟨_,rfl⟩
 have hl0 : a0.length ≤ 1000000 := by have := zbg 1 b 0; rw [ha0] at this; omega
 have s0 : sq0 b = (a0,z0) := by unfold sq0; rw [ha0,hz0]
 obtain ⟨v1,hv1⟩ : ∃ x,rtS' 255 a0 z0 = x := ⟨_,rfl⟩
 obtain ⟨a1,ha1⟩ : ∃ x,rtL 255 a0 z0 = x := ⟨_,rfl⟩
 obtain ⟨z1,hz1⟩ : ∃ x,rtE 255 a0 z0 = x := ⟨_,rfl⟩
 have s1 : nx22 116 (a0,z0) = (a1,z1) := by unfold nx22 zbu; simp only [Int.reduceEq,or_self,or_false,false_or,or_true,true_or,if_true,if_false,ha1,hz1]
 have hl1 : a1.length ≤ 1000000 := by have := zcl 116 (a0,z0); rw [s1] at this; simp only at this; omega
 have hM : rdR b = ⟨2,v1,0,0,false,false,0,0,0,[],[],0,zB⟩ := by unfold rdR; rw [hK]; simp only [Int.reduceEq,if_true,if_false,s0,s1,hv1]
 have hQ : rdS b = (a1,z1) := by unfold rdS; rw [hK]; simp only [Int.reduceEq,if_true,if_false,s0,s1]
 obtain ⟨D,hD⟩ : ∃ x,(if z1 = 0 ∧ 0 < a1.length then (4 : Int) else z1) = x := ⟨_,rfl⟩
 obtain ⟨C,hC⟩ : ∃ x,chkR ⟨2,v1,0,0,false,false,0,0,0,[],[],0,zB⟩ = x := ⟨_,rfl⟩
 obtain ⟨W,hW⟩ : ∃ x,putR ⟨2,v1,0,0,false,false,0,0,0,[],[],0,zB⟩ = x := ⟨_,rfl⟩
 have hcase := zeo b hb hM hQ hD hC hW
 have hC' : chkQ 2 v1 0 0 false false 0 0 0 [] [] 0 0 0 0 0 0 [] = C := hC
 have hW' : putQ 2 v1 0 0 false false 0 0 0 [] [] 0 0 0 0 0 0 [] = W := hW
 have hfit := zes b hb
 rw [hM] at hfit
 have lq : lenQ v1 [] [] := hfit.2.1
 have iq : intQ 0 0 0 0 0 0 := hfit.2.2.1
 have hmr : ([] : List AV).map rrec = [] := rfl
 have h40 : ([] : List AV).length ≤ 40 := by simp
 have hex : ∃ qs : List Rec,([] : List AV) = qs.map rv := ⟨[],rfl⟩
 have tk : ∀ l : List UInt8,List.take l.length l = l := fun l => List.take_length
 have hVok : gqOk b → gqA b = .agg [.w (.int .u8 2),.str v1,.w (.int .i64 0),.w (.int .i64 0),.w (.bool false),.w (.bool false),.w (.int .i64 0),.w (.int .i64 0),.w (.int .i64 0),.str [],.str [],.w (.int .i64 0),.w (.int .i64 0),.w (.int .i64 0),.w (.int .i64 0),.w (.int .i64 0),.w (.int .i64 0),.sg 6 [] true] ∧ (if gqOk b then (0 : Int) else 4) = 0 := by
   intro h; unfold gqA gqR; rw [if_pos h,if_pos h,hM]; exact ⟨rfl,rfl⟩
 have hVno : ¬ gqOk b → gqA b = .agg [.w (.int .u8 0),.str [],.w (.int .i64 0),.w (.int .i64 0),.w (.bool false),.w (.bool false),.w (.int .i64 0),.w (.int .i64 0),.w (.int .i64 0),.str [],.str [],.w (.int .i64 0),.w (.int .i64 0),.w (.int .i64 0),.w (.int .i64 0),.w (.int .i64 0),.w (.int .i64 0),.sg 6 [] true] ∧ (if gqOk b then (0 : Int) else 4) = 4 := by
   intro h; unfold gqA gqR; rw [if_neg h,if_neg h]; exact ⟨rfl,rfl⟩
 unfold Try.f21
 rcases hcase with X | X | X | X
 · obtain ⟨w1,w2⟩ := hVok X.1
   simp only [go_sem,zaa,Nat.reduceAdd,Nat.reduceSub,Nat.reduceMul,Int.reduceToNat,reduceCtorEq,↓reduceIte,Int.reducePow,Nat.reducePow,Int.reduceMod,Nat.reduceLeDiff,Int.reduceLE,Int.reduceNe,Int.reduceEq,Nat.reduceEqDiff,Nat.reduceLT,Nat.reduceBEq,ty,zca,zbr,newS,zcs,zbq,zbh,zat,zba,zbx,zcn,rd,hb,hK',ha0,hz0,hl0,tk,fillS,List.length_nil,Nat.zero_le,Int.reduceLT,Int.reduceLE,Int.reduceEq,Nat.reduceEqDiff,or_self,or_false,false_or,or_true,true_or,if_true,if_false]
   refine zbl 3 ?_
   simp only [go_sem,zaa,Nat.reduceAdd,Nat.reduceSub,Nat.reduceMul,Int.reduceToNat,reduceCtorEq,↓reduceIte,Int.reducePow,Nat.reducePow,Int.reduceMod,Nat.reduceLeDiff,Int.reduceLE,Int.reduceNe,Int.reduceEq,Nat.reduceEqDiff,Nat.reduceLT,Nat.reduceBEq,ty,zca,zbr,zbq,zba,zft,zbu,zbx,zcn,ltr22,rd,hb,ha0,hz0,hl0,hv1,ha1,hz1,hl1,zcg,zaf,zal,zar,Int.reduceAdd,Int.reduceSub,Int.cast_ofNat_Int,dc22_0,lq,iq,hC',hW',hD,tk,hmr,h40,hex,X.2,w1,w2,fillS,Nat.zero_le,Int.reduceLT,Int.reduceLE,List.length_nil,Int.reduceEq,Nat.reduceEqDiff,or_self,or_false,false_or,or_true,true_or,if_true,if_false]
   repeat (refine And.intro (by first | omega | decide) ?_)
   refine ⟨_,Weak.refl _,?_⟩
   simp only [go_sem,zaa,Nat.reduceAdd,Nat.reduceSub,Nat.reduceMul,Int.reduceToNat,reduceCtorEq,↓reduceIte,Int.reducePow,Nat.reducePow,Int.reduceMod,Nat.reduceLeDiff,Int.reduceLE,Int.reduceNe,Int.reduceEq,Nat.reduceEqDiff,Nat.reduceLT,Nat.reduceBEq,ty,w1,w2]
 all_goals
   obtain ⟨w1,w2⟩ := hVno X.1
   simp only [go_sem,zaa,Nat.reduceAdd,Nat.reduceSub,Nat.reduceMul,Int.reduceToNat,reduceCtorEq,↓reduceIte,Int.reducePow,Nat.reducePow,Int.reduceMod,Nat.reduceLeDiff,Int.reduceLE,Int.reduceNe,Int.reduceEq,Nat.reduceEqDiff,Nat.reduceLT,Nat.reduceBEq,ty,zca,zbr,newS,zcs,zbq,zbh,zat,zba,zbx,zcn,rd,hb,hK',ha0,hz0,hl0,tk,fillS,List.length_nil,Nat.zero_le,Int.reduceLT,Int.reduceLE,Int.reduceEq,Nat.reduceEqDiff,or_self,or_false,false_or,or_true,true_or,if_true,if_false]
   refine zbl 3 ?_
   simp only [go_sem,zaa,Nat.reduceAdd,Nat.reduceSub,Nat.reduceMul,Int.reduceToNat,reduceCtorEq,↓reduceIte,Int.reducePow,Nat.reducePow,Int.reduceMod,Nat.reduceLeDiff,Int.reduceLE,Int.reduceNe,Int.reduceEq,Nat.reduceEqDiff,Nat.reduceLT,Nat.reduceBEq,ty,zca,zbr,zbq,zba,zft,zbu,zbx,zcn,ltr22,rd,hb,ha0,hz0,hl0,hv1,ha1,hz1,hl1,zcg,zaf,zal,zar,Int.reduceAdd,Int.reduceSub,Int.cast_ofNat_Int,dc22_0,lq,iq,hC',hW',hD,tk,hmr,h40,hex,X.2,w1,w2,fillS,Nat.zero_le,Int.reduceLT,Int.reduceLE,List.length_nil,Int.reduceEq,Nat.reduceEqDiff,or_self,or_false,false_or,or_true,true_or,if_true,if_false]
   repeat (refine And.intro (by first | omega | decide) ?_)
   refine ⟨_,Weak.refl _,?_⟩
   simp only [go_sem,zaa,Nat.reduceAdd,Nat.reduceSub,Nat.reduceMul,Int.reduceToNat,reduceCtorEq,↓reduceIte,Int.reducePow,Nat.reducePow,Int.reduceMod,Nat.reduceLeDiff,Int.reduceLE,Int.reduceNe,Int.reduceEq,Nat.reduceEqDiff,Nat.reduceLT,Nat.reduceBEq,ty,w1,w2]
set_option maxHeartbeats 8000000 in
theorem getQ_k3 (b : List UInt8) (fb : Bool) (hb : b.length ≤ 1000000) (hK : kq b = 3) :
   awp zca ty (Try.f21.body.getD .skip) (zbs ty Try.f21.results.toList [] (zbr [.sb b fb] [])) ⟨[AV.sb b fb] ++ List.replicate (Try.f21.ntmps - 1) .junk,pinHeap 0 [],4⟩ := by
 have hK' : zei 1 b 0 % 256 = 3 := hK
 obtain ⟨a0,ha0⟩ : ∃ x,zfg 1 b 0 = x := ⟨_,rfl⟩
 obtain ⟨z0,hz0⟩ : ∃ x,rfixE 1 b 0 = x := ⟨_,rfl⟩
 have hl0 : a0.length ≤ 1000000 := by have := zbg 1 b 0; rw [ha0] at this; omega
 have s0 : sq0 b = (a0,z0) := by unfold sq0; rw [ha0,hz0]
 obtain ⟨v1,hv1⟩ : ∃ x,rtS' 255 a0 z0 = x := ⟨_,rfl⟩
 obtain ⟨a1,ha1⟩ : ∃ x,rtL 255 a0 z0 = x := ⟨_,rfl⟩
 obtain ⟨z1,hz1⟩ : ∃ x,rtE 255 a0 z0 = x := ⟨_,rfl⟩
 have s1 : nx22 116 (a0,z0) = (a1,z1) := by unfold nx22 zbu; simp only [Int.reduceEq,or_self,or_false,false_or,or_true,true_or,if_true,if_false,ha1,hz1]
 have hl1 : a1.length ≤ 1000000 := by have := zcl 116 (a0,z0); rw [s1] at this; simp only at this; omega
 obtain ⟨v2,hv2⟩ : ∃ x,numN a1 z1 = x := ⟨_,rfl⟩
 obtain ⟨a2,ha2⟩ : ∃ x,numL a1 z1 = x := ⟨_,rfl⟩
 obtain ⟨z2,hz2⟩ : ∃ x,numE a1 z1 = x := ⟨_,rfl⟩
 have s2 : nx22 105 (a1,z1) = (a2,z2) := by unfold nx22 zbu; simp only [Int.reduceEq,or_self,or_false,false_or,or_true,true_or,if_true,if_false,ha2,hz2]
 have hl2 : a2.length ≤ 1000000 := by have := zcl 105 (a1,z1); rw [s2] at this; simp only at this; omega
 obtain ⟨v3,hv3⟩ : ∃ x,zei 1 a2 z2 = x := ⟨_,rfl⟩
 obtain ⟨a3,ha3⟩ : ∃ x,zfg 1 a2 z2 = x := ⟨_,rfl⟩
 obtain ⟨z3,hz3⟩ : ∃ x,rfixE 1 a2 z2 = x := ⟨_,rfl⟩
 have s3 : nx22 102 (a2,z2) = (a3,z3) := by unfold nx22 zbu; simp only [Int.reduceEq,or_self,or_false,false_or,or_true,true_or,if_true,if_false,ha3,hz3]
 have hl3 : a3.length ≤ 1000000 := by have := zcl 102 (a2,z2); rw [s3] at this; simp only at this; omega
 obtain ⟨vt,hvt⟩ : ∃ x,rtS' 8192 a3 z3 = x := ⟨_,rfl⟩
 obtain ⟨v4,hv4⟩ : ∃ x,zdg vt = x := ⟨_,rfl⟩
 obtain ⟨x1,x2,x3,x4,x5,rs⟩ := v4
 obtain ⟨a4,ha4⟩ : ∃ x,rtL 8192 a3 z3 = x := ⟨_,rfl⟩
 obtain ⟨z4,hz4⟩ : ∃ x,rtE 8192 a3 z3 = x := ⟨_,rfl⟩
 have s4 : nx22 98 (a3,z3) = (a4,z4) := by unfold nx22 zbu; simp only [Int.reduceEq,or_self,or_false,false_or,or_true,true_or,if_true,if_false,ha4,hz4]
 have hl4 : a4.length ≤ 1000000 := by have := zcl 98 (a3,z3); rw [s4] at this; simp only at this; omega
 have hM : rdR b = ⟨3,v1,v2,0,false,decide (v3 = 1),0,0,0,[],[],0,⟨x1,x2,x3,x4,x5,rs⟩⟩ := by unfold rdR; rw [hK]; simp only [Int.reduceEq,if_true,if_false,s0,s1,hv1,s2,hv2,s3,hv3,s4,hv4,hvt]
 have hQ : rdS b = (a4,z4) := by unfold rdS; rw [hK]; simp only [Int.reduceEq,if_true,if_false,s0,s1,s2,s3,s4]
 obtain ⟨D,hD⟩ : ∃ x,(if z4 = 0 ∧ 0 < a4.length then (4 : Int) else z4) = x := ⟨_,rfl⟩
 obtain ⟨C,hC⟩ : ∃ x,chkR ⟨3,v1,v2,0,false,decide (v3 = 1),0,0,0,[],[],0,⟨x1,x2,x3,x4,x5,rs⟩⟩ = x := ⟨_,rfl⟩
 obtain ⟨W,hW⟩ : ∃ x,putR ⟨3,v1,v2,0,false,decide (v3 = 1),0,0,0,[],[],0,⟨x1,x2,x3,x4,x5,rs⟩⟩ = x := ⟨_,rfl⟩
 have hcase := zeo b hb hM hQ hD hC hW
 have hC' : chkQ 3 v1 v2 0 false (decide (v3 = 1)) 0 0 0 [] [] 0 x1 x2 x3 x4 x5 rs = C := hC
 have hW' : putQ 3 v1 v2 0 false (decide (v3 = 1)) 0 0 0 [] [] 0 x1 x2 x3 x4 x5 rs = W := hW
 have hfit := zes b hb
 rw [hM] at hfit
 have lq : lenQ v1 [] [] := hfit.2.1
 have iq : intQ v2 0 0 0 0 0 := hfit.2.2.1
 have h40 : (rs.map rv).length ≤ 40 := by rw [List.length_map]; exact hfit.2.2.2
 have hmr := zag rs
 have hex : ∃ qs : List Rec,rs.map rv = qs.map rv := ⟨rs,rfl⟩
 have hex0 : ∃ qs : List Rec,([] : List AV) = qs.map rv := ⟨[],rfl⟩
 have hcl := closed_rv rs
 have tk : ∀ l : List UInt8,List.take l.length l = l := fun l => List.take_length
 have hVok : gqOk b → gqA b = .agg [.w (.int .u8 3),.str v1,.w (.int .i64 v2),.w (.int .i64 0),.w (.bool false),.w (.bool (decide (v3 = 1))),.w (.int .i64 0),.w (.int .i64 0),.w (.int .i64 0),.str [],.str [],.w (.int .i64 0),.w (.int .i64 x1),.w (.int .i64 x2),.w (.int .i64 x3),.w (.int .i64 x4),.w (.int .i64 x5),.sg 6 (rs.map rv) (emp rs)] ∧ (if gqOk b then (0 : Int) else 4) = 0 := by
   intro h; unfold gqA gqR; rw [if_pos h,if_pos h,hM]; exact ⟨rfl,rfl⟩
 have hVno : ¬ gqOk b → gqA b = .agg [.w (.int .u8 0),.str [],.w (.int .i64 0),.w (.int .i64 0),.w (.bool false),.w (.bool false),.w (.int .i64 0),.w (.int .i64 0),.w (.int .i64 0),.str [],.str [],.w (.int .i64 0),.w (.int .i64 0),.w (.int .i64 0),.w (.int .i64 0),.w (.int .i64 0),.w (.int .i64 0),.sg 6 [] true] ∧ (if gqOk b then (0 : Int) else 4) = 4 := by
   intro h; unfold gqA gqR; rw [if_neg h,if_neg h]; exact ⟨rfl,rfl⟩
 unfold Try.f21
 rcases hcase with X | X | X | X
 · obtain ⟨w1,w2⟩ := hVok X.1
   simp only [go_sem,zaa,Nat.reduceAdd,Nat.reduceSub,Nat.reduceMul,Int.reduceToNat,reduceCtorEq,↓reduceIte,Int.reducePow,Nat.reducePow,Int.reduceMod,Nat.reduceLeDiff,Int.reduceLE,Int.reduceNe,Int.reduceEq,Nat.reduceEqDiff,Nat.reduceLT,Nat.reduceBEq,ty,zca,zbr,newS,zcs,zbq,zbh,zat,zba,zbx,zcn,rd,hb,hK',ha0,hz0,hl0,tk,fillS,List.length_nil,Nat.zero_le,Int.reduceLT,Int.reduceLE,Int.reduceEq,Nat.reduceEqDiff,or_self,or_false,false_or,or_true,true_or,if_true,if_false]
   refine zbl 6 ?_
   simp only [go_sem,zaa,Nat.reduceAdd,Nat.reduceSub,Nat.reduceMul,Int.reduceToNat,reduceCtorEq,↓reduceIte,Int.reducePow,Nat.reducePow,Int.reduceMod,Nat.reduceLeDiff,Int.reduceLE,Int.reduceNe,Int.reduceEq,Nat.reduceEqDiff,Nat.reduceLT,Nat.reduceBEq,ty,zca,zbr,zbq,zba,zft,zbu,zbx,zcn,ltr22,rd,hb,ha0,hz0,hl0,hv1,ha1,hz1,hl1,hv2,ha2,hz2,hl2,hv3,ha3,hz3,hl3,hvt,hv4,ha4,hz4,hl4,zcg,zaf,zal,zar,Int.reduceAdd,Int.reduceSub,Int.cast_ofNat_Int,dc22_7,lq,iq,hC',hW',hD,tk,hmr,h40,hex,hex0,hcl,X.2,w1,w2,fillS,Nat.zero_le,Int.reduceLT,Int.reduceLE,List.length_nil,Int.reduceEq,Nat.reduceEqDiff,or_self,or_false,false_or,or_true,true_or,if_true,if_false]
   repeat (refine And.intro (by first | omega | decide) ?_)
   refine ⟨_,Weak.refl _,?_⟩
   simp only [go_sem,zaa,Nat.reduceAdd,Nat.reduceSub,Nat.reduceMul,Int.reduceToNat,reduceCtorEq,↓reduceIte,Int.reducePow,Nat.reducePow,Int.reduceMod,Nat.reduceLeDiff,Int.reduceLE,Int.reduceNe,Int.reduceEq,Nat.reduceEqDiff,Nat.reduceLT,Nat.reduceBEq,ty,w1,w2]
 all_goals
   obtain ⟨w1,w2⟩ := hVno X.1
   simp only [go_sem,zaa,Nat.reduceAdd,Nat.reduceSub,Nat.reduceMul,Int.reduceToNat,reduceCtorEq,↓reduceIte,Int.reducePow,Nat.reducePow,Int.reduceMod,Nat.reduceLeDiff,Int.reduceLE,Int.reduceNe,Int.reduceEq,Nat.reduceEqDiff,Nat.reduceLT,Nat.reduceBEq,ty,zca,zbr,newS,zcs,zbq,zbh,zat,zba,zbx,zcn,rd,hb,hK',ha0,hz0,hl0,tk,fillS,List.length_nil,Nat.zero_le,Int.reduceLT,Int.reduceLE,Int.reduceEq,Nat.reduceEqDiff,or_self,or_false,false_or,or_true,true_or,if_true,if_false]
   refine zbl 6 ?_
   simp only [go_sem,zaa,Nat.reduceAdd,Nat.reduceSub,Nat.reduceMul,Int.reduceToNat,reduceCtorEq,↓reduceIte,Int.reducePow,Nat.reducePow,Int.reduceMod,Nat.reduceLeDiff,Int.reduceLE,Int.reduceNe,Int.reduceEq,Nat.reduceEqDiff,Nat.reduceLT,Nat.reduceBEq,ty,zca,zbr,zbq,zba,zft,zbu,zbx,zcn,ltr22,rd,hb,ha0,hz0,hl0,hv1,ha1,hz1,hl1,hv2,ha2,hz2,hl2,hv3,ha3,hz3,hl3,hvt,hv4,ha4,hz4,hl4,zcg,zaf,zal,zar,Int.reduceAdd,Int.reduceSub,Int.cast_ofNat_Int,dc22_7,lq,iq,hC',hW',hD,tk,hmr,h40,hex,hex0,hcl,X.2,w1,w2,fillS,Nat.zero_le,Int.reduceLT,Int.reduceLE,List.length_nil,Int.reduceEq,Nat.reduceEqDiff,or_self,or_false,false_or,or_true,true_or,if_true,if_false]
   repeat (refine And.intro (by first | omega | decide) ?_)
   refine ⟨_,Weak.refl _,?_⟩
   simp only [go_sem,zaa,Nat.reduceAdd,Nat.reduceSub,Nat.reduceMul,Int.reduceToNat,reduceCtorEq,↓reduceIte,Int.reducePow,Nat.reducePow,Int.reduceMod,Nat.reduceLeDiff,Int.reduceLE,Int.reduceNe,Int.reduceEq,Nat.reduceEqDiff,Nat.reduceLT,Nat.reduceBEq,ty,w1,w2]
set_option maxHeartbeats 8000000 in
theorem getQ_k4 (b : List UInt8) (fb : Bool) (hb : b.length ≤ 1000000) (hK : kq b = 4) :
   awp zca ty (Try.f21.body.getD .skip) (zbs ty Try.f21.results.toList [] (zbr [.sb b fb] [])) ⟨[AV.sb b fb] ++ List.replicate (Try.f21.ntmps - 1) .junk,pinHeap 0 [],4⟩ := by
 have hK' : zei 1 b 0 % 256 = 4 := hK
 obtain ⟨a0,ha0⟩ : ∃ x,zfg 1 b 0 = x := ⟨_,rfl⟩
 obtain ⟨z0,hz0⟩ : ∃ x,rfixE 1 b 0 = x := ⟨_,rfl⟩
 have hl0 : a0.length ≤ 1000000 := by have := zbg 1 b 0; rw [ha0] at this; omega
 have s0 : sq0 b = (a0,z0) := by unfold sq0; rw [ha0,hz0]
 obtain ⟨v1,hv1⟩ : ∃ x,rtS' 255 a0 z0 = x := ⟨_,rfl⟩
 obtain ⟨a1,ha1⟩ : ∃ x,rtL 255 a0 z0 = x := ⟨_,rfl⟩
 obtain ⟨z1,hz1⟩ : ∃ x,rtE 255 a0 z0 = x := ⟨_,rfl⟩
 have s1 : nx22 116 (a0,z0) = (a1,z1) := by unfold nx22 zbu; simp only [Int.reduceEq,or_self,or_false,false_or,or_true,true_or,if_true,if_false,ha1,hz1]
 have hl1 : a1.length ≤ 1000000 := by have := zcl 116 (a0,z0); rw [s1] at this; simp only at this; omega
 obtain ⟨v2,hv2⟩ : ∃ x,numN a1 z1 = x := ⟨_,rfl⟩
 obtain ⟨a2,ha2⟩ : ∃ x,numL a1 z1 = x := ⟨_,rfl⟩
 obtain ⟨z2,hz2⟩ : ∃ x,numE a1 z1 = x := ⟨_,rfl⟩
 have s2 : nx22 105 (a1,z1) = (a2,z2) := by unfold nx22 zbu; simp only [Int.reduceEq,or_self,or_false,false_or,or_true,true_or,if_true,if_false,ha2,hz2]
 have hl2 : a2.length ≤ 1000000 := by have := zcl 105 (a1,z1); rw [s2] at this; simp only at this; omega
 obtain ⟨v3,hv3⟩ : ∃ x,numN a2 z2 = x := ⟨_,rfl⟩
 obtain ⟨a3,ha3⟩ : ∃ x,numL a2 z2 = x := ⟨_,rfl⟩
 obtain ⟨z3,hz3⟩ : ∃ x,numE a2 z2 = x := ⟨_,rfl⟩
 have s3 : nx22 111 (a2,z2) = (a3,z3) := by unfold nx22 zbu; simp only [Int.reduceEq,or_self,or_false,false_or,or_true,true_or,if_true,if_false,ha3,hz3]
 have hl3 : a3.length ≤ 1000000 := by have := zcl 111 (a2,z2); rw [s3] at this; simp only at this; omega
 obtain ⟨v4,hv4⟩ : ∃ x,numN a3 z3 = x := ⟨_,rfl⟩
 obtain ⟨a4,ha4⟩ : ∃ x,numL a3 z3 = x := ⟨_,rfl⟩
 obtain ⟨z4,hz4⟩ : ∃ x,numE a3 z3 = x := ⟨_,rfl⟩
 have s4 : nx22 109 (a3,z3) = (a4,z4) := by unfold nx22 zbu; simp only [Int.reduceEq,or_self,or_false,false_or,or_true,true_or,if_true,if_false,ha4,hz4]
 have hl4 : a4.length ≤ 1000000 := by have := zcl 109 (a3,z3); rw [s4] at this; simp only at this; omega
 have hM : rdR b = ⟨4,v1,v2,0,false,false,v3,v4,0,[],[],0,zB⟩ := by unfold rdR; rw [hK]; simp only [Int.reduceEq,if_true,if_false,s0,s1,hv1,s2,hv2,s3,hv3,s4,hv4]
 have hQ : rdS b = (a4,z4) := by unfold rdS; rw [hK]; simp only [Int.reduceEq,if_true,if_false,s0,s1,s2,s3,s4]
 obtain ⟨D,hD⟩ : ∃ x,(if z4 = 0 ∧ 0 < a4.length then (4 : Int) else z4) = x := ⟨_,rfl⟩
 obtain ⟨C,hC⟩ : ∃ x,chkR ⟨4,v1,v2,0,false,false,v3,v4,0,[],[],0,zB⟩ = x := ⟨_,rfl⟩
 obtain ⟨W,hW⟩ : ∃ x,putR ⟨4,v1,v2,0,false,false,v3,v4,0,[],[],0,zB⟩ = x := ⟨_,rfl⟩
 have hcase := zeo b hb hM hQ hD hC hW
 have hC' : chkQ 4 v1 v2 0 false false v3 v4 0 [] [] 0 0 0 0 0 0 [] = C := hC
 have hW' : putQ 4 v1 v2 0 false false v3 v4 0 [] [] 0 0 0 0 0 0 [] = W := hW
 have hfit := zes b hb
 rw [hM] at hfit
 have lq : lenQ v1 [] [] := hfit.2.1
 have iq : intQ v2 0 v3 v4 0 0 := hfit.2.2.1
 have hmr : ([] : List AV).map rrec = [] := rfl
 have h40 : ([] : List AV).length ≤ 40 := by simp
 have hex : ∃ qs : List Rec,([] : List AV) = qs.map rv := ⟨[],rfl⟩
 have tk : ∀ l : List UInt8,List.take l.length l = l := fun l => List.take_length
 have hVok : gqOk b → gqA b = .agg [.w (.int .u8 4),.str v1,.w (.int .i64 v2),.w (.int .i64 0),.w (.bool false),.w (.bool false),.w (.int .i64 v3),.w (.int .i64 v4),.w (.int .i64 0),.str [],.str [],.w (.int .i64 0),.w (.int .i64 0),.w (.int .i64 0),.w (.int .i64 0),.w (.int .i64 0),.w (.int .i64 0),.sg 6 [] true] ∧ (if gqOk b then (0 : Int) else 4) = 0 := by
   intro h; unfold gqA gqR; rw [if_pos h,if_pos h,hM]; exact ⟨rfl,rfl⟩
 have hVno : ¬ gqOk b → gqA b = .agg [.w (.int .u8 0),.str [],.w (.int .i64 0),.w (.int .i64 0),.w (.bool false),.w (.bool false),.w (.int .i64 0),.w (.int .i64 0),.w (.int .i64 0),.str [],.str [],.w (.int .i64 0),.w (.int .i64 0),.w (.int .i64 0),.w (.int .i64 0),.w (.int .i64 0),.w (.int .i64 0),.sg 6 [] true] ∧ (if gqOk b then (0 : Int) else 4) = 4 := by
   intro h; unfold gqA gqR; rw [if_neg h,if_neg h]; exact ⟨rfl,rfl⟩
 unfold Try.f21
 rcases hcase with X | X | X | X
 · obtain ⟨w1,w2⟩ := hVok X.1
   simp only [go_sem,zaa,Nat.reduceAdd,Nat.reduceSub,Nat.reduceMul,Int.reduceToNat,reduceCtorEq,↓reduceIte,Int.reducePow,Nat.reducePow,Int.reduceMod,Nat.reduceLeDiff,Int.reduceLE,Int.reduceNe,Int.reduceEq,Nat.reduceEqDiff,Nat.reduceLT,Nat.reduceBEq,ty,zca,zbr,newS,zcs,zbq,zbh,zat,zba,zbx,zcn,rd,hb,hK',ha0,hz0,hl0,tk,fillS,List.length_nil,Nat.zero_le,Int.reduceLT,Int.reduceLE,Int.reduceEq,Nat.reduceEqDiff,or_self,or_false,false_or,or_true,true_or,if_true,if_false]
   refine zbl 6 ?_
   simp only [go_sem,zaa,Nat.reduceAdd,Nat.reduceSub,Nat.reduceMul,Int.reduceToNat,reduceCtorEq,↓reduceIte,Int.reducePow,Nat.reducePow,Int.reduceMod,Nat.reduceLeDiff,Int.reduceLE,Int.reduceNe,Int.reduceEq,Nat.reduceEqDiff,Nat.reduceLT,Nat.reduceBEq,ty,zca,zbr,zbq,zba,zft,zbu,zbx,zcn,ltr22,rd,hb,ha0,hz0,hl0,hv1,ha1,hz1,hl1,hv2,ha2,hz2,hl2,hv3,ha3,hz3,hl3,hv4,ha4,hz4,hl4,zcg,zaf,zal,zar,Int.reduceAdd,Int.reduceSub,Int.cast_ofNat_Int,dc22_8,lq,iq,hC',hW',hD,tk,hmr,h40,hex,X.2,w1,w2,fillS,Nat.zero_le,Int.reduceLT,Int.reduceLE,List.length_nil,Int.reduceEq,Nat.reduceEqDiff,or_self,or_false,false_or,or_true,true_or,if_true,if_false]
   repeat (refine And.intro (by first | omega | decide) ?_)
   refine ⟨_,Weak.refl _,?_⟩
   simp only [go_sem,zaa,Nat.reduceAdd,Nat.reduceSub,Nat.reduceMul,Int.reduceToNat,reduceCtorEq,↓reduceIte,Int.reducePow,Nat.reducePow,Int.reduceMod,Nat.reduceLeDiff,Int.reduceLE,Int.reduceNe,Int.reduceEq,Nat.reduceEqDiff,Nat.reduceLT,Nat.reduceBEq,ty,w1,w2]
 all_goals
   obtain ⟨w1,w2⟩ := hVno X.1
   simp only [go_sem,zaa,Nat.reduceAdd,Nat.reduceSub,Nat.reduceMul,Int.reduceToNat,reduceCtorEq,↓reduceIte,Int.reducePow,Nat.reducePow,Int.reduceMod,Nat.reduceLeDiff,Int.reduceLE,Int.reduceNe,Int.reduceEq,Nat.reduceEqDiff,Nat.reduceLT,Nat.reduceBEq,ty,zca,zbr,newS,zcs,zbq,zbh,zat,zba,zbx,zcn,rd,hb,hK',ha0,hz0,hl0,tk,fillS,List.length_nil,Nat.zero_le,Int.reduceLT,Int.reduceLE,Int.reduceEq,Nat.reduceEqDiff,or_self,or_false,false_or,or_true,true_or,if_true,if_false]
   refine zbl 6 ?_
   simp only [go_sem,zaa,Nat.reduceAdd,Nat.reduceSub,Nat.reduceMul,Int.reduceToNat,reduceCtorEq,↓reduceIte,Int.reducePow,Nat.reducePow,Int.reduceMod,Nat.reduceLeDiff,Int.reduceLE,Int.reduceNe,Int.reduceEq,Nat.reduceEqDiff,Nat.reduceLT,Nat.reduceBEq,ty,zca,zbr,zbq,zba,zft,zbu,zbx,zcn,ltr22,rd,hb,ha0,hz0,hl0,hv1,ha1,hz1,hl1,hv2,ha2,hz2,hl2,hv3,ha3,hz3,hl3,hv4,ha4,hz4,hl4,zcg,zaf,zal,zar,Int.reduceAdd,Int.reduceSub,Int.cast_ofNat_Int,dc22_8,lq,iq,hC',hW',hD,tk,hmr,h40,hex,X.2,w1,w2,fillS,Nat.zero_le,Int.reduceLT,Int.reduceLE,List.length_nil,Int.reduceEq,Nat.reduceEqDiff,or_self,or_false,false_or,or_true,true_or,if_true,if_false]
   repeat (refine And.intro (by first | omega | decide) ?_)
   refine ⟨_,Weak.refl _,?_⟩
   simp only [go_sem,zaa,Nat.reduceAdd,Nat.reduceSub,Nat.reduceMul,Int.reduceToNat,reduceCtorEq,↓reduceIte,Int.reducePow,Nat.reducePow,Int.reduceMod,Nat.reduceLeDiff,Int.reduceLE,Int.reduceNe,Int.reduceEq,Nat.reduceEqDiff,Nat.reduceLT,Nat.reduceBEq,ty,w1,w2]
set_option maxHeartbeats 8000000 in
theorem getQ_k5 (b : List UInt8) (fb : Bool) (hb : b.length ≤ 1000000) (hK : kq b = 5) :
   awp zca ty (Try.f21.body.getD .skip) (zbs ty Try.f21.results.toList [] (zbr [.sb b fb] [])) ⟨[AV.sb b fb] ++ List.replicate (Try.f21.ntmps - 1) .junk,pinHeap 0 [],4⟩ := by
 have hK' : zei 1 b 0 % 256 = 5 := hK
 obtain ⟨a0,ha0⟩ : ∃ x,zfg 1 b 0 = x := ⟨_,rfl⟩
 obtain ⟨z0,hz0⟩ : ∃ x,rfixE 1 b 0 = x := ⟨_,rfl⟩
 have hl0 : a0.length ≤ 1000000 := by have := zbg 1 b 0; rw [ha0] at this; omega
 have s0 : sq0 b = (a0,z0) := by unfold sq0; rw [ha0,hz0]
 obtain ⟨v1,hv1⟩ : ∃ x,rtS' 255 a0 z0 = x := ⟨_,rfl⟩
 obtain ⟨a1,ha1⟩ : ∃ x,rtL 255 a0 z0 = x := ⟨_,rfl⟩
 obtain ⟨z1,hz1⟩ : ∃ x,rtE 255 a0 z0 = x := ⟨_,rfl⟩
 have s1 : nx22 116 (a0,z0) = (a1,z1) := by unfold nx22 zbu; simp only [Int.reduceEq,or_self,or_false,false_or,or_true,true_or,if_true,if_false,ha1,hz1]
 have hl1 : a1.length ≤ 1000000 := by have := zcl 116 (a0,z0); rw [s1] at this; simp only at this; omega
 obtain ⟨v2,hv2⟩ : ∃ x,numN a1 z1 = x := ⟨_,rfl⟩
 obtain ⟨a2,ha2⟩ : ∃ x,numL a1 z1 = x := ⟨_,rfl⟩
 obtain ⟨z2,hz2⟩ : ∃ x,numE a1 z1 = x := ⟨_,rfl⟩
 have s2 : nx22 105 (a1,z1) = (a2,z2) := by unfold nx22 zbu; simp only [Int.reduceEq,or_self,or_false,false_or,or_true,true_or,if_true,if_false,ha2,hz2]
 have hl2 : a2.length ≤ 1000000 := by have := zcl 105 (a1,z1); rw [s2] at this; simp only at this; omega
 obtain ⟨v3,hv3⟩ : ∃ x,numN a2 z2 = x := ⟨_,rfl⟩
 obtain ⟨a3,ha3⟩ : ∃ x,numL a2 z2 = x := ⟨_,rfl⟩
 obtain ⟨z3,hz3⟩ : ∃ x,numE a2 z2 = x := ⟨_,rfl⟩
 have s3 : nx22 119 (a2,z2) = (a3,z3) := by unfold nx22 zbu; simp only [Int.reduceEq,or_self,or_false,false_or,or_true,true_or,if_true,if_false,ha3,hz3]
 have hl3 : a3.length ≤ 1000000 := by have := zcl 119 (a2,z2); rw [s3] at this; simp only at this; omega
 have hM : rdR b = ⟨5,v1,v2,0,false,false,0,0,v3,[],[],0,zB⟩ := by unfold rdR; rw [hK]; simp only [Int.reduceEq,if_true,if_false,s0,s1,hv1,s2,hv2,s3,hv3]
 have hQ : rdS b = (a3,z3) := by unfold rdS; rw [hK]; simp only [Int.reduceEq,if_true,if_false,s0,s1,s2,s3]
 obtain ⟨D,hD⟩ : ∃ x,(if z3 = 0 ∧ 0 < a3.length then (4 : Int) else z3) = x := ⟨_,rfl⟩
 obtain ⟨C,hC⟩ : ∃ x,chkR ⟨5,v1,v2,0,false,false,0,0,v3,[],[],0,zB⟩ = x := ⟨_,rfl⟩
 obtain ⟨W,hW⟩ : ∃ x,putR ⟨5,v1,v2,0,false,false,0,0,v3,[],[],0,zB⟩ = x := ⟨_,rfl⟩
 have hcase := zeo b hb hM hQ hD hC hW
 have hC' : chkQ 5 v1 v2 0 false false 0 0 v3 [] [] 0 0 0 0 0 0 [] = C := hC
 have hW' : putQ 5 v1 v2 0 false false 0 0 v3 [] [] 0 0 0 0 0 0 [] = W := hW
 have hfit := zes b hb
 rw [hM] at hfit
 have lq : lenQ v1 [] [] := hfit.2.1
 have iq : intQ v2 0 0 0 v3 0 := hfit.2.2.1
 have hmr : ([] : List AV).map rrec = [] := rfl
 have h40 : ([] : List AV).length ≤ 40 := by simp
 have hex : ∃ qs : List Rec,([] : List AV) = qs.map rv := ⟨[],rfl⟩
 have tk : ∀ l : List UInt8,List.take l.length l = l := fun l => List.take_length
 have hVok : gqOk b → gqA b = .agg [.w (.int .u8 5),.str v1,.w (.int .i64 v2),.w (.int .i64 0),.w (.bool false),.w (.bool false),.w (.int .i64 0),.w (.int .i64 0),.w (.int .i64 v3),.str [],.str [],.w (.int .i64 0),.w (.int .i64 0),.w (.int .i64 0),.w (.int .i64 0),.w (.int .i64 0),.w (.int .i64 0),.sg 6 [] true] ∧ (if gqOk b then (0 : Int) else 4) = 0 := by
   intro h; unfold gqA gqR; rw [if_pos h,if_pos h,hM]; exact ⟨rfl,rfl⟩
 have hVno : ¬ gqOk b → gqA b = .agg [.w (.int .u8 0),.str [],.w (.int .i64 0),.w (.int .i64 0),.w (.bool false),.w (.bool false),.w (.int .i64 0),.w (.int .i64 0),.w (.int .i64 0),.str [],.str [],.w (.int .i64 0),.w (.int .i64 0),.w (.int .i64 0),.w (.int .i64 0),.w (.int .i64 0),.w (.int .i64 0),.sg 6 [] true] ∧ (if gqOk b then (0 : Int) else 4) = 4 := by
   intro h; unfold gqA gqR; rw [if_neg h,if_neg h]; exact ⟨rfl,rfl⟩
 unfold Try.f21
 rcases hcase with X | X | X | X
 · obtain ⟨w1,w2⟩ := hVok X.1
   simp only [go_sem,zaa,Nat.reduceAdd,Nat.reduceSub,Nat.reduceMul,Int.reduceToNat,reduceCtorEq,↓reduceIte,Int.reducePow,Nat.reducePow,Int.reduceMod,Nat.reduceLeDiff,Int.reduceLE,Int.reduceNe,Int.reduceEq,Nat.reduceEqDiff,Nat.reduceLT,Nat.reduceBEq,ty,zca,zbr,newS,zcs,zbq,zbh,zat,zba,zbx,zcn,rd,hb,hK',ha0,hz0,hl0,tk,fillS,List.length_nil,Nat.zero_le,Int.reduceLT,Int.reduceLE,Int.reduceEq,Nat.reduceEqDiff,or_self,or_false,false_or,or_true,true_or,if_true,if_false]
   refine zbl 5 ?_
   simp only [go_sem,zaa,Nat.reduceAdd,Nat.reduceSub,Nat.reduceMul,Int.reduceToNat,reduceCtorEq,↓reduceIte,Int.reducePow,Nat.reducePow,Int.reduceMod,Nat.reduceLeDiff,Int.reduceLE,Int.reduceNe,Int.reduceEq,Nat.reduceEqDiff,Nat.reduceLT,Nat.reduceBEq,ty,zca,zbr,zbq,zba,zft,zbu,zbx,zcn,ltr22,rd,hb,ha0,hz0,hl0,hv1,ha1,hz1,hl1,hv2,ha2,hz2,hl2,hv3,ha3,hz3,hl3,zcg,zaf,zal,zar,Int.reduceAdd,Int.reduceSub,Int.cast_ofNat_Int,dc22_4,lq,iq,hC',hW',hD,tk,hmr,h40,hex,X.2,w1,w2,fillS,Nat.zero_le,Int.reduceLT,Int.reduceLE,List.length_nil,Int.reduceEq,Nat.reduceEqDiff,or_self,or_false,false_or,or_true,true_or,if_true,if_false]
   repeat (refine And.intro (by first | omega | decide) ?_)
   refine ⟨_,Weak.refl _,?_⟩
   simp only [go_sem,zaa,Nat.reduceAdd,Nat.reduceSub,Nat.reduceMul,Int.reduceToNat,reduceCtorEq,↓reduceIte,Int.reducePow,Nat.reducePow,Int.reduceMod,Nat.reduceLeDiff,Int.reduceLE,Int.reduceNe,Int.reduceEq,Nat.reduceEqDiff,Nat.reduceLT,Nat.reduceBEq,ty,w1,w2]
 all_goals
   obtain ⟨w1,w2⟩ := hVno X.1
   simp only [go_sem,zaa,Nat.reduceAdd,Nat.reduceSub,Nat.reduceMul,Int.reduceToNat,reduceCtorEq,↓reduceIte,Int.reducePow,Nat.reducePow,Int.reduceMod,Nat.reduceLeDiff,Int.reduceLE,Int.reduceNe,Int.reduceEq,Nat.reduceEqDiff,Nat.reduceLT,Nat.reduceBEq,ty,zca,zbr,newS,zcs,zbq,zbh,zat,zba,zbx,zcn,rd,hb,hK',ha0,hz0,hl0,tk,fillS,List.length_nil,Nat.zero_le,Int.reduceLT,Int.reduceLE,Int.reduceEq,Nat.reduceEqDiff,or_self,or_false,false_or,or_true,true_or,if_true,if_false]
   refine zbl 5 ?_
   simp only [go_sem,zaa,Nat.reduceAdd,Nat.reduceSub,Nat.reduceMul,Int.reduceToNat,reduceCtorEq,↓reduceIte,Int.reducePow,Nat.reducePow,Int.reduceMod,Nat.reduceLeDiff,Int.reduceLE,Int.reduceNe,Int.reduceEq,Nat.reduceEqDiff,Nat.reduceLT,Nat.reduceBEq,ty,zca,zbr,zbq,zba,zft,zbu,zbx,zcn,ltr22,rd,hb,ha0,hz0,hl0,hv1,ha1,hz1,hl1,hv2,ha2,hz2,hl2,hv3,ha3,hz3,hl3,zcg,zaf,zal,zar,Int.reduceAdd,Int.reduceSub,Int.cast_ofNat_Int,dc22_4,lq,iq,hC',hW',hD,tk,hmr,h40,hex,X.2,w1,w2,fillS,Nat.zero_le,Int.reduceLT,Int.reduceLE,List.length_nil,Int.reduceEq,Nat.reduceEqDiff,or_self,or_false,false_or,or_true,true_or,if_true,if_false]
   repeat (refine And.intro (by first | omega | decide) ?_)
   refine ⟨_,Weak.refl _,?_⟩
   simp only [go_sem,zaa,Nat.reduceAdd,Nat.reduceSub,Nat.reduceMul,Int.reduceToNat,reduceCtorEq,↓reduceIte,Int.reducePow,Nat.reducePow,Int.reduceMod,Nat.reduceLeDiff,Int.reduceLE,Int.reduceNe,Int.reduceEq,Nat.reduceEqDiff,Nat.reduceLT,Nat.reduceBEq,ty,w1,w2]
set_option maxHeartbeats 8000000 in
theorem getQ_k6 (b : List UInt8) (fb : Bool) (hb : b.length ≤ 1000000) (hK : kq b = 6) :
   awp zca ty (Try.f21.body.getD .skip) (zbs ty Try.f21.results.toList [] (zbr [.sb b fb] [])) ⟨[AV.sb b fb] ++ List.replicate (Try.f21.ntmps - 1) .junk,pinHeap 0 [],4⟩ := by
 have hK' : zei 1 b 0 % 256 = 6 := hK
 obtain ⟨a0,ha0⟩ : ∃ x,zfg 1 b 0 = x := ⟨_,rfl⟩
 obtain ⟨z0,hz0⟩ : ∃ x,rfixE 1 b 0 = x := ⟨_,rfl⟩
 have hl0 : a0.length ≤ 1000000 := by have := zbg 1 b 0; rw [ha0] at this; omega
 have s0 : sq0 b = (a0,z0) := by unfold sq0; rw [ha0,hz0]
 obtain ⟨v1,hv1⟩ : ∃ x,rtS' 255 a0 z0 = x := ⟨_,rfl⟩
 obtain ⟨a1,ha1⟩ : ∃ x,rtL 255 a0 z0 = x := ⟨_,rfl⟩
 obtain ⟨z1,hz1⟩ : ∃ x,rtE 255 a0 z0 = x := ⟨_,rfl⟩
 have s1 : nx22 103 (a0,z0) = (a1,z1) := by unfold nx22 zbu; simp only [Int.reduceEq,or_self,or_false,false_or,or_true,true_or,if_true,if_false,ha1,hz1]
 have hl1 : a1.length ≤ 1000000 := by have := zcl 103 (a0,z0); rw [s1] at this; simp only at this; omega
 obtain ⟨v2,hv2⟩ : ∃ x,rtS' 255 a1 z1 = x := ⟨_,rfl⟩
 obtain ⟨a2,ha2⟩ : ∃ x,rtL 255 a1 z1 = x := ⟨_,rfl⟩
 obtain ⟨z2,hz2⟩ : ∃ x,rtE 255 a1 z1 = x := ⟨_,rfl⟩
 have s2 : nx22 107 (a1,z1) = (a2,z2) := by unfold nx22 zbu; simp only [Int.reduceEq,or_self,or_false,false_or,or_true,true_or,if_true,if_false,ha2,hz2]
 have hl2 : a2.length ≤ 1000000 := by have := zcl 107 (a1,z1); rw [s2] at this; simp only at this; omega
 have hM : rdR b = ⟨6,[],0,0,false,false,0,0,0,v1,v2,0,zB⟩ := by unfold rdR; rw [hK]; simp only [Int.reduceEq,if_true,if_false,s0,s1,hv1,s2,hv2]
 have hQ : rdS b = (a2,z2) := by unfold rdS; rw [hK]; simp only [Int.reduceEq,if_true,if_false,s0,s1,s2]
 obtain ⟨D,hD⟩ : ∃ x,(if z2 = 0 ∧ 0 < a2.length then (4 : Int) else z2) = x := ⟨_,rfl⟩
 obtain ⟨C,hC⟩ : ∃ x,chkR ⟨6,[],0,0,false,false,0,0,0,v1,v2,0,zB⟩ = x := ⟨_,rfl⟩
 obtain ⟨W,hW⟩ : ∃ x,putR ⟨6,[],0,0,false,false,0,0,0,v1,v2,0,zB⟩ = x := ⟨_,rfl⟩
 have hcase := zeo b hb hM hQ hD hC hW
 have hC' : chkQ 6 [] 0 0 false false 0 0 0 v1 v2 0 0 0 0 0 0 [] = C := hC
 have hW' : putQ 6 [] 0 0 false false 0 0 0 v1 v2 0 0 0 0 0 0 [] = W := hW
 have hfit := zes b hb
 rw [hM] at hfit
 have lq : lenQ [] v1 v2 := hfit.2.1
 have iq : intQ 0 0 0 0 0 0 := hfit.2.2.1
 have hmr : ([] : List AV).map rrec = [] := rfl
 have h40 : ([] : List AV).length ≤ 40 := by simp
 have hex : ∃ qs : List Rec,([] : List AV) = qs.map rv := ⟨[],rfl⟩
 have tk : ∀ l : List UInt8,List.take l.length l = l := fun l => List.take_length
 have hVok : gqOk b → gqA b = .agg [.w (.int .u8 6),.str [],.w (.int .i64 0),.w (.int .i64 0),.w (.bool false),.w (.bool false),.w (.int .i64 0),.w (.int .i64 0),.w (.int .i64 0),.str v1,.str v2,.w (.int .i64 0),.w (.int .i64 0),.w (.int .i64 0),.w (.int .i64 0),.w (.int .i64 0),.w (.int .i64 0),.sg 6 [] true] ∧ (if gqOk b then (0 : Int) else 4) = 0 := by
   intro h; unfold gqA gqR; rw [if_pos h,if_pos h,hM]; exact ⟨rfl,rfl⟩
 have hVno : ¬ gqOk b → gqA b = .agg [.w (.int .u8 0),.str [],.w (.int .i64 0),.w (.int .i64 0),.w (.bool false),.w (.bool false),.w (.int .i64 0),.w (.int .i64 0),.w (.int .i64 0),.str [],.str [],.w (.int .i64 0),.w (.int .i64 0),.w (.int .i64 0),.w (.int .i64 0),.w (.int .i64 0),.w (.int .i64 0),.sg 6 [] true] ∧ (if gqOk b then (0 : Int) else 4) = 4 := by
   intro h; unfold gqA gqR; rw [if_neg h,if_neg h]; exact ⟨rfl,rfl⟩
 unfold Try.f21
 rcases hcase with X | X | X | X
 · obtain ⟨w1,w2⟩ := hVok X.1
   simp only [go_sem,zaa,Nat.reduceAdd,Nat.reduceSub,Nat.reduceMul,Int.reduceToNat,reduceCtorEq,↓reduceIte,Int.reducePow,Nat.reducePow,Int.reduceMod,Nat.reduceLeDiff,Int.reduceLE,Int.reduceNe,Int.reduceEq,Nat.reduceEqDiff,Nat.reduceLT,Nat.reduceBEq,ty,zca,zbr,newS,zcs,zbq,zbh,zat,zba,zbx,zcn,rd,hb,hK',ha0,hz0,hl0,tk,fillS,List.length_nil,Nat.zero_le,Int.reduceLT,Int.reduceLE,Int.reduceEq,Nat.reduceEqDiff,or_self,or_false,false_or,or_true,true_or,if_true,if_false]
   refine zbl 4 ?_
   simp only [go_sem,zaa,Nat.reduceAdd,Nat.reduceSub,Nat.reduceMul,Int.reduceToNat,reduceCtorEq,↓reduceIte,Int.reducePow,Nat.reducePow,Int.reduceMod,Nat.reduceLeDiff,Int.reduceLE,Int.reduceNe,Int.reduceEq,Nat.reduceEqDiff,Nat.reduceLT,Nat.reduceBEq,ty,zca,zbr,zbq,zba,zft,zbu,zbx,zcn,ltr22,rd,hb,ha0,hz0,hl0,hv1,ha1,hz1,hl1,hv2,ha2,hz2,hl2,zcg,zaf,zal,zar,Int.reduceAdd,Int.reduceSub,Int.cast_ofNat_Int,dc22_1,lq,iq,hC',hW',hD,tk,hmr,h40,hex,X.2,w1,w2,fillS,Nat.zero_le,Int.reduceLT,Int.reduceLE,List.length_nil,Int.reduceEq,Nat.reduceEqDiff,or_self,or_false,false_or,or_true,true_or,if_true,if_false]
   repeat (refine And.intro (by first | omega | decide) ?_)
   refine ⟨_,Weak.refl _,?_⟩
   simp only [go_sem,zaa,Nat.reduceAdd,Nat.reduceSub,Nat.reduceMul,Int.reduceToNat,reduceCtorEq,↓reduceIte,Int.reducePow,Nat.reducePow,Int.reduceMod,Nat.reduceLeDiff,Int.reduceLE,Int.reduceNe,Int.reduceEq,Nat.reduceEqDiff,Nat.reduceLT,Nat.reduceBEq,ty,w1,w2]
 all_goals
   obtain ⟨w1,w2⟩ := hVno X.1
   simp only [go_sem,zaa,Nat.reduceAdd,Nat.reduceSub,Nat.reduceMul,Int.reduceToNat,reduceCtorEq,↓reduceIte,Int.reducePow,Nat.reducePow,Int.reduceMod,Nat.reduceLeDiff,Int.reduceLE,Int.reduceNe,Int.reduceEq,Nat.reduceEqDiff,Nat.reduceLT,Nat.reduceBEq,ty,zca,zbr,newS,zcs,zbq,zbh,zat,zba,zbx,zcn,rd,hb,hK',ha0,hz0,hl0,tk,fillS,List.length_nil,Nat.zero_le,Int.reduceLT,Int.reduceLE,Int.reduceEq,Nat.reduceEqDiff,or_self,or_false,false_or,or_true,true_or,if_true,if_false]
   refine zbl 4 ?_
   simp only [go_sem,zaa,Nat.reduceAdd,Nat.reduceSub,Nat.reduceMul,Int.reduceToNat,reduceCtorEq,↓reduceIte,Int.reducePow,Nat.reducePow,Int.reduceMod,Nat.reduceLeDiff,Int.reduceLE,Int.reduceNe,Int.reduceEq,Nat.reduceEqDiff,Nat.reduceLT,Nat.reduceBEq,ty,zca,zbr,zbq,zba,zft,zbu,zbx,zcn,ltr22,rd,hb,ha0,hz0,hl0,hv1,ha1,hz1,hl1,hv2,ha2,hz2,hl2,zcg,zaf,zal,zar,Int.reduceAdd,Int.reduceSub,Int.cast_ofNat_Int,dc22_1,lq,iq,hC',hW',hD,tk,hmr,h40,hex,X.2,w1,w2,fillS,Nat.zero_le,Int.reduceLT,Int.reduceLE,List.length_nil,Int.reduceEq,Nat.reduceEqDiff,or_self,or_false,false_or,or_true,true_or,if_true,if_false]
   repeat (refine And.intro (by first | omega | decide) ?_)
   refine ⟨_,Weak.refl _,?_⟩
   simp only [go_sem,zaa,Nat.reduceAdd,Nat.reduceSub,Nat.reduceMul,Int.reduceToNat,reduceCtorEq,↓reduceIte,Int.reducePow,Nat.reducePow,Int.reduceMod,Nat.reduceLeDiff,Int.reduceLE,Int.reduceNe,Int.reduceEq,Nat.reduceEqDiff,Nat.reduceLT,Nat.reduceBEq,ty,w1,w2]
set_option maxHeartbeats 8000000 in
theorem getQ_k7 (b : List UInt8) (fb : Bool) (hb : b.length ≤ 1000000) (hK : kq b = 7) :
   awp zca ty (Try.f21.body.getD .skip) (zbs ty Try.f21.results.toList [] (zbr [.sb b fb] [])) ⟨[AV.sb b fb] ++ List.replicate (Try.f21.ntmps - 1) .junk,pinHeap 0 [],4⟩ := by
 have hK' : zei 1 b 0 % 256 = 7 := hK
 obtain ⟨a0,ha0⟩ : ∃ x,zfg 1 b 0 = x := ⟨_,rfl⟩
 obtain ⟨z0,hz0⟩ : ∃ x,rfixE 1 b 0 = x := ⟨_,rfl⟩
 have hl0 : a0.length ≤ 1000000 := by have := zbg 1 b 0; rw [ha0] at this; omega
 have s0 : sq0 b = (a0,z0) := by unfold sq0; rw [ha0,hz0]
 obtain ⟨v1,hv1⟩ : ∃ x,rtS' 255 a0 z0 = x := ⟨_,rfl⟩
 obtain ⟨a1,ha1⟩ : ∃ x,rtL 255 a0 z0 = x := ⟨_,rfl⟩
 obtain ⟨z1,hz1⟩ : ∃ x,rtE 255 a0 z0 = x := ⟨_,rfl⟩
 have s1 : nx22 116 (a0,z0) = (a1,z1) := by unfold nx22 zbu; simp only [Int.reduceEq,or_self,or_false,false_or,or_true,true_or,if_true,if_false,ha1,hz1]
 have hl1 : a1.length ≤ 1000000 := by have := zcl 116 (a0,z0); rw [s1] at this; simp only at this; omega
 obtain ⟨v2,hv2⟩ : ∃ x,rtS' 255 a1 z1 = x := ⟨_,rfl⟩
 obtain ⟨a2,ha2⟩ : ∃ x,rtL 255 a1 z1 = x := ⟨_,rfl⟩
 obtain ⟨z2,hz2⟩ : ∃ x,rtE 255 a1 z1 = x := ⟨_,rfl⟩
 have s2 : nx22 103 (a1,z1) = (a2,z2) := by unfold nx22 zbu; simp only [Int.reduceEq,or_self,or_false,false_or,or_true,true_or,if_true,if_false,ha2,hz2]
 have hl2 : a2.length ≤ 1000000 := by have := zcl 103 (a1,z1); rw [s2] at this; simp only at this; omega
 obtain ⟨v3,hv3⟩ : ∃ x,rtS' 255 a2 z2 = x := ⟨_,rfl⟩
 obtain ⟨a3,ha3⟩ : ∃ x,rtL 255 a2 z2 = x := ⟨_,rfl⟩
 obtain ⟨z3,hz3⟩ : ∃ x,rtE 255 a2 z2 = x := ⟨_,rfl⟩
 have s3 : nx22 107 (a2,z2) = (a3,z3) := by unfold nx22 zbu; simp only [Int.reduceEq,or_self,or_false,false_or,or_true,true_or,if_true,if_false,ha3,hz3]
 have hl3 : a3.length ≤ 1000000 := by have := zcl 107 (a2,z2); rw [s3] at this; simp only at this; omega
 obtain ⟨v4,hv4⟩ : ∃ x,numN a3 z3 = x := ⟨_,rfl⟩
 obtain ⟨a4,ha4⟩ : ∃ x,numL a3 z3 = x := ⟨_,rfl⟩
 obtain ⟨z4,hz4⟩ : ∃ x,numE a3 z3 = x := ⟨_,rfl⟩
 have s4 : nx22 110 (a3,z3) = (a4,z4) := by unfold nx22 zbu; simp only [Int.reduceEq,or_self,or_false,false_or,or_true,true_or,if_true,if_false,ha4,hz4]
 have hl4 : a4.length ≤ 1000000 := by have := zcl 110 (a3,z3); rw [s4] at this; simp only at this; omega
 have hM : rdR b = ⟨7,v1,0,0,false,false,0,0,0,v2,v3,v4,zB⟩ := by unfold rdR; rw [hK]; simp only [Int.reduceEq,if_true,if_false,s0,s1,hv1,s2,hv2,s3,hv3,s4,hv4]
 have hQ : rdS b = (a4,z4) := by unfold rdS; rw [hK]; simp only [Int.reduceEq,if_true,if_false,s0,s1,s2,s3,s4]
 obtain ⟨D,hD⟩ : ∃ x,(if z4 = 0 ∧ 0 < a4.length then (4 : Int) else z4) = x := ⟨_,rfl⟩
 obtain ⟨C,hC⟩ : ∃ x,chkR ⟨7,v1,0,0,false,false,0,0,0,v2,v3,v4,zB⟩ = x := ⟨_,rfl⟩
 obtain ⟨W,hW⟩ : ∃ x,putR ⟨7,v1,0,0,false,false,0,0,0,v2,v3,v4,zB⟩ = x := ⟨_,rfl⟩
 have hcase := zeo b hb hM hQ hD hC hW
 have hC' : chkQ 7 v1 0 0 false false 0 0 0 v2 v3 v4 0 0 0 0 0 [] = C := hC
 have hW' : putQ 7 v1 0 0 false false 0 0 0 v2 v3 v4 0 0 0 0 0 [] = W := hW
 have hfit := zes b hb
 rw [hM] at hfit
 have lq : lenQ v1 v2 v3 := hfit.2.1
 have iq : intQ 0 0 0 0 0 v4 := hfit.2.2.1
 have hmr : ([] : List AV).map rrec = [] := rfl
 have h40 : ([] : List AV).length ≤ 40 := by simp
 have hex : ∃ qs : List Rec,([] : List AV) = qs.map rv := ⟨[],rfl⟩
 have tk : ∀ l : List UInt8,List.take l.length l = l := fun l => List.take_length
 have hVok : gqOk b → gqA b = .agg [.w (.int .u8 7),.str v1,.w (.int .i64 0),.w (.int .i64 0),.w (.bool false),.w (.bool false),.w (.int .i64 0),.w (.int .i64 0),.w (.int .i64 0),.str v2,.str v3,.w (.int .i64 v4),.w (.int .i64 0),.w (.int .i64 0),.w (.int .i64 0),.w (.int .i64 0),.w (.int .i64 0),.sg 6 [] true] ∧ (if gqOk b then (0 : Int) else 4) = 0 := by
   intro h; unfold gqA gqR; rw [if_pos h,if_pos h,hM]; exact ⟨rfl,rfl⟩
 have hVno : ¬ gqOk b → gqA b = .agg [.w (.int .u8 0),.str [],.w (.int .i64 0),.w (.int .i64 0),.w (.bool false),.w (.bool false),.w (.int .i64 0),.w (.int .i64 0),.w (.int .i64 0),.str [],.str [],.w (.int .i64 0),.w (.int .i64 0),.w (.int .i64 0),.w (.int .i64 0),.w (.int .i64 0),.w (.int .i64 0),.sg 6 [] true] ∧ (if gqOk b then (0 : Int) else 4) = 4 := by
   intro h; unfold gqA gqR; rw [if_neg h,if_neg h]; exact ⟨rfl,rfl⟩
 unfold Try.f21
 rcases hcase with X | X | X | X
 · obtain ⟨w1,w2⟩ := hVok X.1
   simp only [go_sem,zaa,Nat.reduceAdd,Nat.reduceSub,Nat.reduceMul,Int.reduceToNat,reduceCtorEq,↓reduceIte,Int.reducePow,Nat.reducePow,Int.reduceMod,Nat.reduceLeDiff,Int.reduceLE,Int.reduceNe,Int.reduceEq,Nat.reduceEqDiff,Nat.reduceLT,Nat.reduceBEq,ty,zca,zbr,newS,zcs,zbq,zbh,zat,zba,zbx,zcn,rd,hb,hK',ha0,hz0,hl0,tk,fillS,List.length_nil,Nat.zero_le,Int.reduceLT,Int.reduceLE,Int.reduceEq,Nat.reduceEqDiff,or_self,or_false,false_or,or_true,true_or,if_true,if_false]
   refine zbl 6 ?_
   simp only [go_sem,zaa,Nat.reduceAdd,Nat.reduceSub,Nat.reduceMul,Int.reduceToNat,reduceCtorEq,↓reduceIte,Int.reducePow,Nat.reducePow,Int.reduceMod,Nat.reduceLeDiff,Int.reduceLE,Int.reduceNe,Int.reduceEq,Nat.reduceEqDiff,Nat.reduceLT,Nat.reduceBEq,ty,zca,zbr,zbq,zba,zft,zbu,zbx,zcn,ltr22,rd,hb,ha0,hz0,hl0,hv1,ha1,hz1,hl1,hv2,ha2,hz2,hl2,hv3,ha3,hz3,hl3,hv4,ha4,hz4,hl4,zcg,zaf,zal,zar,Int.reduceAdd,Int.reduceSub,Int.cast_ofNat_Int,dc22_6,lq,iq,hC',hW',hD,tk,hmr,h40,hex,X.2,w1,w2,fillS,Nat.zero_le,Int.reduceLT,Int.reduceLE,List.length_nil,Int.reduceEq,Nat.reduceEqDiff,or_self,or_false,false_or,or_true,true_or,if_true,if_false]
   repeat (refine And.intro (by first | omega | decide) ?_)
   refine ⟨_,Weak.refl _,?_⟩
   simp only [go_sem,zaa,Nat.reduceAdd,Nat.reduceSub,Nat.reduceMul,Int.reduceToNat,reduceCtorEq,↓reduceIte,Int.reducePow,Nat.reducePow,Int.reduceMod,Nat.reduceLeDiff,Int.reduceLE,Int.reduceNe,Int.reduceEq,Nat.reduceEqDiff,Nat.reduceLT,Nat.reduceBEq,ty,w1,w2]
 all_goals
   obtain ⟨w1,w2⟩ := hVno X.1
   simp only [go_sem,zaa,Nat.reduceAdd,Nat.reduceSub,Nat.reduceMul,Int.reduceToNat,reduceCtorEq,↓reduceIte,Int.reducePow,Nat.reducePow,Int.reduceMod,Nat.reduceLeDiff,Int.reduceLE,Int.reduceNe,Int.reduceEq,Nat.reduceEqDiff,Nat.reduceLT,Nat.reduceBEq,ty,zca,zbr,newS,zcs,zbq,zbh,zat,zba,zbx,zcn,rd,hb,hK',ha0,hz0,hl0,tk,fillS,List.length_nil,Nat.zero_le,Int.reduceLT,Int.reduceLE,Int.reduceEq,Nat.reduceEqDiff,or_self,or_false,false_or,or_true,true_or,if_true,if_false]
   refine zbl 6 ?_
   simp only [go_sem,zaa,Nat.reduceAdd,Nat.reduceSub,Nat.reduceMul,Int.reduceToNat,reduceCtorEq,↓reduceIte,Int.reducePow,Nat.reducePow,Int.reduceMod,Nat.reduceLeDiff,Int.reduceLE,Int.reduceNe,Int.reduceEq,Nat.reduceEqDiff,Nat.reduceLT,Nat.reduceBEq,ty,zca,zbr,zbq,zba,zft,zbu,zbx,zcn,ltr22,rd,hb,ha0,hz0,hl0,hv1,ha1,hz1,hl1,hv2,ha2,hz2,hl2,hv3,ha3,hz3,hl3,hv4,ha4,hz4,hl4,zcg,zaf,zal,zar,Int.reduceAdd,Int.reduceSub,Int.cast_ofNat_Int,dc22_6,lq,iq,hC',hW',hD,tk,hmr,h40,hex,X.2,w1,w2,fillS,Nat.zero_le,Int.reduceLT,Int.reduceLE,List.length_nil,Int.reduceEq,Nat.reduceEqDiff,or_self,or_false,false_or,or_true,true_or,if_true,if_false]
   repeat (refine And.intro (by first | omega | decide) ?_)
   refine ⟨_,Weak.refl _,?_⟩
   simp only [go_sem,zaa,Nat.reduceAdd,Nat.reduceSub,Nat.reduceMul,Int.reduceToNat,reduceCtorEq,↓reduceIte,Int.reducePow,Nat.reducePow,Int.reduceMod,Nat.reduceLeDiff,Int.reduceLE,Int.reduceNe,Int.reduceEq,Nat.reduceEqDiff,Nat.reduceLT,Nat.reduceBEq,ty,w1,w2]
set_option maxHeartbeats 8000000 in
theorem getQ_k8 (b : List UInt8) (fb : Bool) (hb : b.length ≤ 1000000) (hK : kq b = 8) :
   awp zca ty (Try.f21.body.getD .skip) (zbs ty Try.f21.results.toList [] (zbr [.sb b fb] [])) ⟨[AV.sb b fb] ++ List.replicate (Try.f21.ntmps - 1) .junk,pinHeap 0 [],4⟩ := by
 have hK' : zei 1 b 0 % 256 = 8 := hK
 obtain ⟨a0,ha0⟩ : ∃ x,zfg 1 b 0 = x := ⟨_,rfl⟩
 obtain ⟨z0,hz0⟩ : ∃ x,rfixE 1 b 0 = x := ⟨_,rfl⟩
 have hl0 : a0.length ≤ 1000000 := by have := zbg 1 b 0; rw [ha0] at this; omega
 have s0 : sq0 b = (a0,z0) := by unfold sq0; rw [ha0,hz0]
 obtain ⟨v1,hv1⟩ : ∃ x,rtS' 255 a0 z0 = x := ⟨_,rfl⟩
 obtain ⟨a1,ha1⟩ : ∃ x,rtL 255 a0 z0 = x := ⟨_,rfl⟩
 obtain ⟨z1,hz1⟩ : ∃ x,rtE 255 a0 z0 = x := ⟨_,rfl⟩
 have s1 : nx22 103 (a0,z0) = (a1,z1) := by unfold nx22 zbu; simp only [Int.reduceEq,or_self,or_false,false_or,or_true,true_or,if_true,if_false,ha1,hz1]
 have hl1 : a1.length ≤ 1000000 := by have := zcl 103 (a0,z0); rw [s1] at this; simp only at this; omega
 obtain ⟨v2,hv2⟩ : ∃ x,rtS' 255 a1 z1 = x := ⟨_,rfl⟩
 obtain ⟨a2,ha2⟩ : ∃ x,rtL 255 a1 z1 = x := ⟨_,rfl⟩
 obtain ⟨z2,hz2⟩ : ∃ x,rtE 255 a1 z1 = x := ⟨_,rfl⟩
 have s2 : nx22 107 (a1,z1) = (a2,z2) := by unfold nx22 zbu; simp only [Int.reduceEq,or_self,or_false,false_or,or_true,true_or,if_true,if_false,ha2,hz2]
 have hl2 : a2.length ≤ 1000000 := by have := zcl 107 (a1,z1); rw [s2] at this; simp only at this; omega
 obtain ⟨v3,hv3⟩ : ∃ x,numN a2 z2 = x := ⟨_,rfl⟩
 obtain ⟨a3,ha3⟩ : ∃ x,numL a2 z2 = x := ⟨_,rfl⟩
 obtain ⟨z3,hz3⟩ : ∃ x,numE a2 z2 = x := ⟨_,rfl⟩
 have s3 : nx22 110 (a2,z2) = (a3,z3) := by unfold nx22 zbu; simp only [Int.reduceEq,or_self,or_false,false_or,or_true,true_or,if_true,if_false,ha3,hz3]
 have hl3 : a3.length ≤ 1000000 := by have := zcl 110 (a2,z2); rw [s3] at this; simp only at this; omega
 have hM : rdR b = ⟨8,[],0,0,false,false,0,0,0,v1,v2,v3,zB⟩ := by unfold rdR; rw [hK]; simp only [Int.reduceEq,if_true,if_false,s0,s1,hv1,s2,hv2,s3,hv3]
 have hQ : rdS b = (a3,z3) := by unfold rdS; rw [hK]; simp only [Int.reduceEq,if_true,if_false,s0,s1,s2,s3]
 obtain ⟨D,hD⟩ : ∃ x,(if z3 = 0 ∧ 0 < a3.length then (4 : Int) else z3) = x := ⟨_,rfl⟩
 obtain ⟨C,hC⟩ : ∃ x,chkR ⟨8,[],0,0,false,false,0,0,0,v1,v2,v3,zB⟩ = x := ⟨_,rfl⟩
 obtain ⟨W,hW⟩ : ∃ x,putR ⟨8,[],0,0,false,false,0,0,0,v1,v2,v3,zB⟩ = x := ⟨_,rfl⟩
 have hcase := zeo b hb hM hQ hD hC hW
 have hC' : chkQ 8 [] 0 0 false false 0 0 0 v1 v2 v3 0 0 0 0 0 [] = C := hC
 have hW' : putQ 8 [] 0 0 false false 0 0 0 v1 v2 v3 0 0 0 0 0 [] = W := hW
 have hfit := zes b hb
 rw [hM] at hfit
 have lq : lenQ [] v1 v2 := hfit.2.1
 have iq : intQ 0 0 0 0 0 v3 := hfit.2.2.1
 have hmr : ([] : List AV).map rrec = [] := rfl
 have h40 : ([] : List AV).length ≤ 40 := by simp
 have hex : ∃ qs : List Rec,([] : List AV) = qs.map rv := ⟨[],rfl⟩
 have tk : ∀ l : List UInt8,List.take l.length l = l := fun l => List.take_length
 have hVok : gqOk b → gqA b = .agg [.w (.int .u8 8),.str [],.w (.int .i64 0),.w (.int .i64 0),.w (.bool false),.w (.bool false),.w (.int .i64 0),.w (.int .i64 0),.w (.int .i64 0),.str v1,.str v2,.w (.int .i64 v3),.w (.int .i64 0),.w (.int .i64 0),.w (.int .i64 0),.w (.int .i64 0),.w (.int .i64 0),.sg 6 [] true] ∧ (if gqOk b then (0 : Int) else 4) = 0 := by
   intro h; unfold gqA gqR; rw [if_pos h,if_pos h,hM]; exact ⟨rfl,rfl⟩
 have hVno : ¬ gqOk b → gqA b = .agg [.w (.int .u8 0),.str [],.w (.int .i64 0),.w (.int .i64 0),.w (.bool false),.w (.bool false),.w (.int .i64 0),.w (.int .i64 0),.w (.int .i64 0),.str [],.str [],.w (.int .i64 0),.w (.int .i64 0),.w (.int .i64 0),.w (.int .i64 0),.w (.int .i64 0),.w (.int .i64 0),.sg 6 [] true] ∧ (if gqOk b then (0 : Int) else 4) = 4 := by
   intro h; unfold gqA gqR; rw [if_neg h,if_neg h]; exact ⟨rfl,rfl⟩
 unfold Try.f21
 rcases hcase with X | X | X | X
 · obtain ⟨w1,w2⟩ := hVok X.1
   simp only [go_sem,zaa,Nat.reduceAdd,Nat.reduceSub,Nat.reduceMul,Int.reduceToNat,reduceCtorEq,↓reduceIte,Int.reducePow,Nat.reducePow,Int.reduceMod,Nat.reduceLeDiff,Int.reduceLE,Int.reduceNe,Int.reduceEq,Nat.reduceEqDiff,Nat.reduceLT,Nat.reduceBEq,ty,zca,zbr,newS,zcs,zbq,zbh,zat,zba,zbx,zcn,rd,hb,hK',ha0,hz0,hl0,tk,fillS,List.length_nil,Nat.zero_le,Int.reduceLT,Int.reduceLE,Int.reduceEq,Nat.reduceEqDiff,or_self,or_false,false_or,or_true,true_or,if_true,if_false]
   refine zbl 5 ?_
   simp only [go_sem,zaa,Nat.reduceAdd,Nat.reduceSub,Nat.reduceMul,Int.reduceToNat,reduceCtorEq,↓reduceIte,Int.reducePow,Nat.reducePow,Int.reduceMod,Nat.reduceLeDiff,Int.reduceLE,Int.reduceNe,Int.reduceEq,Nat.reduceEqDiff,Nat.reduceLT,Nat.reduceBEq,ty,zca,zbr,zbq,zba,zft,zbu,zbx,zcn,ltr22,rd,hb,ha0,hz0,hl0,hv1,ha1,hz1,hl1,hv2,ha2,hz2,hl2,hv3,ha3,hz3,hl3,zcg,zaf,zal,zar,Int.reduceAdd,Int.reduceSub,Int.cast_ofNat_Int,dc22_2,lq,iq,hC',hW',hD,tk,hmr,h40,hex,X.2,w1,w2,fillS,Nat.zero_le,Int.reduceLT,Int.reduceLE,List.length_nil,Int.reduceEq,Nat.reduceEqDiff,or_self,or_false,false_or,or_true,true_or,if_true,if_false]
   repeat (refine And.intro (by first | omega | decide) ?_)
   refine ⟨_,Weak.refl _,?_⟩
   simp only [go_sem,zaa,Nat.reduceAdd,Nat.reduceSub,Nat.reduceMul,Int.reduceToNat,reduceCtorEq,↓reduceIte,Int.reducePow,Nat.reducePow,Int.reduceMod,Nat.reduceLeDiff,Int.reduceLE,Int.reduceNe,Int.reduceEq,Nat.reduceEqDiff,Nat.reduceLT,Nat.reduceBEq,ty,w1,w2]
 all_goals
   obtain ⟨w1,w2⟩ := hVno X.1
   simp only [go_sem,zaa,Nat.reduceAdd,Nat.reduceSub,Nat.reduceMul,Int.reduceToNat,reduceCtorEq,↓reduceIte,Int.reducePow,Nat.reducePow,Int.reduceMod,Nat.reduceLeDiff,Int.reduceLE,Int.reduceNe,Int.reduceEq,Nat.reduceEqDiff,Nat.reduceLT,Nat.reduceBEq,ty,zca,zbr,newS,zcs,zbq,zbh,zat,zba,zbx,zcn,rd,hb,hK',ha0,hz0,hl0,tk,fillS,List.length_nil,Nat.zero_le,Int.reduceLT,Int.reduceLE,Int.reduceEq,Nat.reduceEqDiff,or_self,or_false,false_or,or_true,true_or,if_true,if_false]
   refine zbl 5 ?_
   simp only [go_sem,zaa,Nat.reduceAdd,Nat.reduceSub,Nat.reduceMul,Int.reduceToNat,reduceCtorEq,↓reduceIte,Int.reducePow,Nat.reducePow,Int.reduceMod,Nat.reduceLeDiff,Int.reduceLE,Int.reduceNe,Int.reduceEq,Nat.reduceEqDiff,Nat.reduceLT,Nat.reduceBEq,ty,zca,zbr,zbq,zba,zft,zbu,zbx,zcn,ltr22,rd,hb,ha0,hz0,hl0,hv1,ha1,hz1,hl1,hv2,ha2,hz2,hl2,hv3,ha3,hz3,hl3,zcg,zaf,zal,zar,Int.reduceAdd,Int.reduceSub,Int.cast_ofNat_Int,dc22_2,lq,iq,hC',hW',hD,tk,hmr,h40,hex,X.2,w1,w2,fillS,Nat.zero_le,Int.reduceLT,Int.reduceLE,List.length_nil,Int.reduceEq,Nat.reduceEqDiff,or_self,or_false,false_or,or_true,true_or,if_true,if_false]
   repeat (refine And.intro (by first | omega | decide) ?_)
   refine ⟨_,Weak.refl _,?_⟩
   simp only [go_sem,zaa,Nat.reduceAdd,Nat.reduceSub,Nat.reduceMul,Int.reduceToNat,reduceCtorEq,↓reduceIte,Int.reducePow,Nat.reducePow,Int.reduceMod,Nat.reduceLeDiff,Int.reduceLE,Int.reduceNe,Int.reduceEq,Nat.reduceEqDiff,Nat.reduceLT,Nat.reduceBEq,ty,w1,w2]
set_option maxHeartbeats 8000000 in
theorem getQ_k9 (b : List UInt8) (fb : Bool) (hb : b.length ≤ 1000000) (hK : kq b = 9) :
   awp zca ty (Try.f21.body.getD .skip) (zbs ty Try.f21.results.toList [] (zbr [.sb b fb] [])) ⟨[AV.sb b fb] ++ List.replicate (Try.f21.ntmps - 1) .junk,pinHeap 0 [],4⟩ := by
 have hK' : zei 1 b 0 % 256 = 9 := hK
 obtain ⟨a0,ha0⟩ : ∃ x,zfg 1 b 0 = x := ⟨_,rfl⟩
 obtain ⟨z0,hz0⟩ : ∃ x,rfixE 1 b 0 = x := ⟨_,rfl⟩
 have hl0 : a0.length ≤ 1000000 := by have := zbg 1 b 0; rw [ha0] at this; omega
 have s0 : sq0 b = (a0,z0) := by unfold sq0; rw [ha0,hz0]
 obtain ⟨v1,hv1⟩ : ∃ x,rtS' 255 a0 z0 = x := ⟨_,rfl⟩
 obtain ⟨a1,ha1⟩ : ∃ x,rtL 255 a0 z0 = x := ⟨_,rfl⟩
 obtain ⟨z1,hz1⟩ : ∃ x,rtE 255 a0 z0 = x := ⟨_,rfl⟩
 have s1 : nx22 103 (a0,z0) = (a1,z1) := by unfold nx22 zbu; simp only [Int.reduceEq,or_self,or_false,false_or,or_true,true_or,if_true,if_false,ha1,hz1]
 have hl1 : a1.length ≤ 1000000 := by have := zcl 103 (a0,z0); rw [s1] at this; simp only at this; omega
 obtain ⟨v2,hv2⟩ : ∃ x,rtS' 255 a1 z1 = x := ⟨_,rfl⟩
 obtain ⟨a2,ha2⟩ : ∃ x,rtL 255 a1 z1 = x := ⟨_,rfl⟩
 obtain ⟨z2,hz2⟩ : ∃ x,rtE 255 a1 z1 = x := ⟨_,rfl⟩
 have s2 : nx22 107 (a1,z1) = (a2,z2) := by unfold nx22 zbu; simp only [Int.reduceEq,or_self,or_false,false_or,or_true,true_or,if_true,if_false,ha2,hz2]
 have hl2 : a2.length ≤ 1000000 := by have := zcl 107 (a1,z1); rw [s2] at this; simp only at this; omega
 have hM : rdR b = ⟨9,[],0,0,false,false,0,0,0,v1,v2,0,zB⟩ := by unfold rdR; rw [hK]; simp only [Int.reduceEq,if_true,if_false,s0,s1,hv1,s2,hv2]
 have hQ : rdS b = (a2,z2) := by unfold rdS; rw [hK]; simp only [Int.reduceEq,if_true,if_false,s0,s1,s2]
 obtain ⟨D,hD⟩ : ∃ x,(if z2 = 0 ∧ 0 < a2.length then (4 : Int) else z2) = x := ⟨_,rfl⟩
 obtain ⟨C,hC⟩ : ∃ x,chkR ⟨9,[],0,0,false,false,0,0,0,v1,v2,0,zB⟩ = x := ⟨_,rfl⟩
 obtain ⟨W,hW⟩ : ∃ x,putR ⟨9,[],0,0,false,false,0,0,0,v1,v2,0,zB⟩ = x := ⟨_,rfl⟩
 have hcase := zeo b hb hM hQ hD hC hW
 have hC' : chkQ 9 [] 0 0 false false 0 0 0 v1 v2 0 0 0 0 0 0 [] = C := hC
 have hW' : putQ 9 [] 0 0 false false 0 0 0 v1 v2 0 0 0 0 0 0 [] = W := hW
 have hfit := zes b hb
 rw [hM] at hfit
 have lq : lenQ [] v1 v2 := hfit.2.1
 have iq : intQ 0 0 0 0 0 0 := hfit.2.2.1
 have hmr : ([] : List AV).map rrec = [] := rfl
 have h40 : ([] : List AV).length ≤ 40 := by simp
 have hex : ∃ qs : List Rec,([] : List AV) = qs.map rv := ⟨[],rfl⟩
 have tk : ∀ l : List UInt8,List.take l.length l = l := fun l => List.take_length
 have hVok : gqOk b → gqA b = .agg [.w (.int .u8 9),.str [],.w (.int .i64 0),.w (.int .i64 0),.w (.bool false),.w (.bool false),.w (.int .i64 0),.w (.int .i64 0),.w (.int .i64 0),.str v1,.str v2,.w (.int .i64 0),.w (.int .i64 0),.w (.int .i64 0),.w (.int .i64 0),.w (.int .i64 0),.w (.int .i64 0),.sg 6 [] true] ∧ (if gqOk b then (0 : Int) else 4) = 0 := by
   intro h; unfold gqA gqR; rw [if_pos h,if_pos h,hM]; exact ⟨rfl,rfl⟩
 have hVno : ¬ gqOk b → gqA b = .agg [.w (.int .u8 0),.str [],.w (.int .i64 0),.w (.int .i64 0),.w (.bool false),.w (.bool false),.w (.int .i64 0),.w (.int .i64 0),.w (.int .i64 0),.str [],.str [],.w (.int .i64 0),.w (.int .i64 0),.w (.int .i64 0),.w (.int .i64 0),.w (.int .i64 0),.w (.int .i64 0),.sg 6 [] true] ∧ (if gqOk b then (0 : Int) else 4) = 4 := by
   intro h; unfold gqA gqR; rw [if_neg h,if_neg h]; exact ⟨rfl,rfl⟩
 unfold Try.f21
 rcases hcase with X | X | X | X
 · obtain ⟨w1,w2⟩ := hVok X.1
   simp only [go_sem,zaa,Nat.reduceAdd,Nat.reduceSub,Nat.reduceMul,Int.reduceToNat,reduceCtorEq,↓reduceIte,Int.reducePow,Nat.reducePow,Int.reduceMod,Nat.reduceLeDiff,Int.reduceLE,Int.reduceNe,Int.reduceEq,Nat.reduceEqDiff,Nat.reduceLT,Nat.reduceBEq,ty,zca,zbr,newS,zcs,zbq,zbh,zat,zba,zbx,zcn,rd,hb,hK',ha0,hz0,hl0,tk,fillS,List.length_nil,Nat.zero_le,Int.reduceLT,Int.reduceLE,Int.reduceEq,Nat.reduceEqDiff,or_self,or_false,false_or,or_true,true_or,if_true,if_false]
   refine zbl 4 ?_
   simp only [go_sem,zaa,Nat.reduceAdd,Nat.reduceSub,Nat.reduceMul,Int.reduceToNat,reduceCtorEq,↓reduceIte,Int.reducePow,Nat.reducePow,Int.reduceMod,Nat.reduceLeDiff,Int.reduceLE,Int.reduceNe,Int.reduceEq,Nat.reduceEqDiff,Nat.reduceLT,Nat.reduceBEq,ty,zca,zbr,zbq,zba,zft,zbu,zbx,zcn,ltr22,rd,hb,ha0,hz0,hl0,hv1,ha1,hz1,hl1,hv2,ha2,hz2,hl2,zcg,zaf,zal,zar,Int.reduceAdd,Int.reduceSub,Int.cast_ofNat_Int,dc22_1,lq,iq,hC',hW',hD,tk,hmr,h40,hex,X.2,w1,w2,fillS,Nat.zero_le,Int.reduceLT,Int.reduceLE,List.length_nil,Int.reduceEq,Nat.reduceEqDiff,or_self,or_false,false_or,or_true,true_or,if_true,if_false]
   repeat (refine And.intro (by first | omega | decide) ?_)
   refine ⟨_,Weak.refl _,?_⟩
   simp only [go_sem,zaa,Nat.reduceAdd,Nat.reduceSub,Nat.reduceMul,Int.reduceToNat,reduceCtorEq,↓reduceIte,Int.reducePow,Nat.reducePow,Int.reduceMod,Nat.reduceLeDiff,Int.reduceLE,Int.reduceNe,Int.reduceEq,Nat.reduceEqDiff,Nat.reduceLT,Nat.reduceBEq,ty,w1,w2]
 all_goals
   obtain ⟨w1,w2⟩ := hVno X.1
   simp only [go_sem,zaa,Nat.reduceAdd,Nat.reduceSub,Nat.reduceMul,Int.reduceToNat,reduceCtorEq,↓reduceIte,Int.reducePow,Nat.reducePow,Int.reduceMod,Nat.reduceLeDiff,Int.reduceLE,Int.reduceNe,Int.reduceEq,Nat.reduceEqDiff,Nat.reduceLT,Nat.reduceBEq,ty,zca,zbr,newS,zcs,zbq,zbh,zat,zba,zbx,zcn,rd,hb,hK',ha0,hz0,hl0,tk,fillS,List.length_nil,Nat.zero_le,Int.reduceLT,Int.reduceLE,Int.reduceEq,Nat.reduceEqDiff,or_self,or_false,false_or,or_true,true_or,if_true,if_false]
   refine zbl 4 ?_
   simp only [go_sem,zaa,Nat.reduceAdd,Nat.reduceSub,Nat.reduceMul,Int.reduceToNat,reduceCtorEq,↓reduceIte,Int.reducePow,Nat.reducePow,Int.reduceMod,Nat.reduceLeDiff,Int.reduceLE,Int.reduceNe,Int.reduceEq,Nat.reduceEqDiff,Nat.reduceLT,Nat.reduceBEq,ty,zca,zbr,zbq,zba,zft,zbu,zbx,zcn,ltr22,rd,hb,ha0,hz0,hl0,hv1,ha1,hz1,hl1,hv2,ha2,hz2,hl2,zcg,zaf,zal,zar,Int.reduceAdd,Int.reduceSub,Int.cast_ofNat_Int,dc22_1,lq,iq,hC',hW',hD,tk,hmr,h40,hex,X.2,w1,w2,fillS,Nat.zero_le,Int.reduceLT,Int.reduceLE,List.length_nil,Int.reduceEq,Nat.reduceEqDiff,or_self,or_false,false_or,or_true,true_or,if_true,if_false]
   repeat (refine And.intro (by first | omega | decide) ?_)
   refine ⟨_,Weak.refl _,?_⟩
   simp only [go_sem,zaa,Nat.reduceAdd,Nat.reduceSub,Nat.reduceMul,Int.reduceToNat,reduceCtorEq,↓reduceIte,Int.reducePow,Nat.reducePow,Int.reduceMod,Nat.reduceLeDiff,Int.reduceLE,Int.reduceNe,Int.reduceEq,Nat.reduceEqDiff,Nat.reduceLT,Nat.reduceBEq,ty,w1,w2]
set_option maxHeartbeats 8000000 in
theorem getQ_k10 (b : List UInt8) (fb : Bool) (hb : b.length ≤ 1000000) (hK : kq b = 10) :
   awp zca ty (Try.f21.body.getD .skip) (zbs ty Try.f21.results.toList [] (zbr [.sb b fb] [])) ⟨[AV.sb b fb] ++ List.replicate (Try.f21.ntmps - 1) .junk,pinHeap 0 [],4⟩ := by
 have hK' : zei 1 b 0 % 256 = 10 := hK
 obtain ⟨a0,ha0⟩ : ∃ x,zfg 1 b 0 = x := ⟨_,rfl⟩
 obtain ⟨z0,hz0⟩ : ∃ x,rfixE 1 b 0 = x := ⟨_,rfl⟩
 have hl0 : a0.length ≤ 1000000 := by have := zbg 1 b 0; rw [ha0] at this; omega
 have s0 : sq0 b = (a0,z0) := by unfold sq0; rw [ha0,hz0]
 obtain ⟨v1,hv1⟩ : ∃ x,rtS' 255 a0 z0 = x := ⟨_,rfl⟩
 obtain ⟨a1,ha1⟩ : ∃ x,rtL 255 a0 z0 = x := ⟨_,rfl⟩
 obtain ⟨z1,hz1⟩ : ∃ x,rtE 255 a0 z0 = x := ⟨_,rfl⟩
 have s1 : nx22 116 (a0,z0) = (a1,z1) := by unfold nx22 zbu; simp only [Int.reduceEq,or_self,or_false,false_or,or_true,true_or,if_true,if_false,ha1,hz1]
 have hl1 : a1.length ≤ 1000000 := by have := zcl 116 (a0,z0); rw [s1] at this; simp only at this; omega
 obtain ⟨v2,hv2⟩ : ∃ x,numN a1 z1 = x := ⟨_,rfl⟩
 obtain ⟨a2,ha2⟩ : ∃ x,numL a1 z1 = x := ⟨_,rfl⟩
 obtain ⟨z2,hz2⟩ : ∃ x,numE a1 z1 = x := ⟨_,rfl⟩
 have s2 : nx22 105 (a1,z1) = (a2,z2) := by unfold nx22 zbu; simp only [Int.reduceEq,or_self,or_false,false_or,or_true,true_or,if_true,if_false,ha2,hz2]
 have hl2 : a2.length ≤ 1000000 := by have := zcl 105 (a1,z1); rw [s2] at this; simp only at this; omega
 obtain ⟨v3,hv3⟩ : ∃ x,numN a2 z2 = x := ⟨_,rfl⟩
 obtain ⟨a3,ha3⟩ : ∃ x,numL a2 z2 = x := ⟨_,rfl⟩
 obtain ⟨z3,hz3⟩ : ∃ x,numE a2 z2 = x := ⟨_,rfl⟩
 have s3 : nx22 111 (a2,z2) = (a3,z3) := by unfold nx22 zbu; simp only [Int.reduceEq,or_self,or_false,false_or,or_true,true_or,if_true,if_false,ha3,hz3]
 have hl3 : a3.length ≤ 1000000 := by have := zcl 111 (a2,z2); rw [s3] at this; simp only at this; omega
 obtain ⟨v4,hv4⟩ : ∃ x,rtS' 255 a3 z3 = x := ⟨_,rfl⟩
 obtain ⟨a4,ha4⟩ : ∃ x,rtL 255 a3 z3 = x := ⟨_,rfl⟩
 obtain ⟨z4,hz4⟩ : ∃ x,rtE 255 a3 z3 = x := ⟨_,rfl⟩
 have s4 : nx22 103 (a3,z3) = (a4,z4) := by unfold nx22 zbu; simp only [Int.reduceEq,or_self,or_false,false_or,or_true,true_or,if_true,if_false,ha4,hz4]
 have hl4 : a4.length ≤ 1000000 := by have := zcl 103 (a3,z3); rw [s4] at this; simp only at this; omega
 obtain ⟨v5,hv5⟩ : ∃ x,rtS' 255 a4 z4 = x := ⟨_,rfl⟩
 obtain ⟨a5,ha5⟩ : ∃ x,rtL 255 a4 z4 = x := ⟨_,rfl⟩
 obtain ⟨z5,hz5⟩ : ∃ x,rtE 255 a4 z4 = x := ⟨_,rfl⟩
 have s5 : nx22 107 (a4,z4) = (a5,z5) := by unfold nx22 zbu; simp only [Int.reduceEq,or_self,or_false,false_or,or_true,true_or,if_true,if_false,ha5,hz5]
 have hl5 : a5.length ≤ 1000000 := by have := zcl 107 (a4,z4); rw [s5] at this; simp only at this; omega
 obtain ⟨v6,hv6⟩ : ∃ x,numN a5 z5 = x := ⟨_,rfl⟩
 obtain ⟨a6,ha6⟩ : ∃ x,numL a5 z5 = x := ⟨_,rfl⟩
 obtain ⟨z6,hz6⟩ : ∃ x,numE a5 z5 = x := ⟨_,rfl⟩
 have s6 : nx22 110 (a5,z5) = (a6,z6) := by unfold nx22 zbu; simp only [Int.reduceEq,or_self,or_false,false_or,or_true,true_or,if_true,if_false,ha6,hz6]
 have hl6 : a6.length ≤ 1000000 := by have := zcl 110 (a5,z5); rw [s6] at this; simp only at this; omega
 have hM : rdR b = ⟨10,v1,v2,0,false,false,v3,0,0,v4,v5,v6,zB⟩ := by unfold rdR; rw [hK]; simp only [Int.reduceEq,if_true,if_false,s0,s1,hv1,s2,hv2,s3,hv3,s4,hv4,s5,hv5,s6,hv6]
 have hQ : rdS b = (a6,z6) := by unfold rdS; rw [hK]; simp only [Int.reduceEq,if_true,if_false,s0,s1,s2,s3,s4,s5,s6]
 obtain ⟨D,hD⟩ : ∃ x,(if z6 = 0 ∧ 0 < a6.length then (4 : Int) else z6) = x := ⟨_,rfl⟩
 obtain ⟨C,hC⟩ : ∃ x,chkR ⟨10,v1,v2,0,false,false,v3,0,0,v4,v5,v6,zB⟩ = x := ⟨_,rfl⟩
 obtain ⟨W,hW⟩ : ∃ x,putR ⟨10,v1,v2,0,false,false,v3,0,0,v4,v5,v6,zB⟩ = x := ⟨_,rfl⟩
 have hcase := zeo b hb hM hQ hD hC hW
 have hC' : chkQ 10 v1 v2 0 false false v3 0 0 v4 v5 v6 0 0 0 0 0 [] = C := hC
 have hW' : putQ 10 v1 v2 0 false false v3 0 0 v4 v5 v6 0 0 0 0 0 [] = W := hW
 have hfit := zes b hb
 rw [hM] at hfit
 have lq : lenQ v1 v4 v5 := hfit.2.1
 have iq : intQ v2 0 v3 0 0 v6 := hfit.2.2.1
 have hmr : ([] : List AV).map rrec = [] := rfl
 have h40 : ([] : List AV).length ≤ 40 := by simp
 have hex : ∃ qs : List Rec,([] : List AV) = qs.map rv := ⟨[],rfl⟩
 have tk : ∀ l : List UInt8,List.take l.length l = l := fun l => List.take_length
 have hVok : gqOk b → gqA b = .agg [.w (.int .u8 10),.str v1,.w (.int .i64 v2),.w (.int .i64 0),.w (.bool false),.w (.bool false),.w (.int .i64 v3),.w (.int .i64 0),.w (.int .i64 0),.str v4,.str v5,.w (.int .i64 v6),.w (.int .i64 0),.w (.int .i64 0),.w (.int .i64 0),.w (.int .i64 0),.w (.int .i64 0),.sg 6 [] true] ∧ (if gqOk b then (0 : Int) else 4) = 0 := by
   intro h; unfold gqA gqR; rw [if_pos h,if_pos h,hM]; exact ⟨rfl,rfl⟩
 have hVno : ¬ gqOk b → gqA b = .agg [.w (.int .u8 0),.str [],.w (.int .i64 0),.w (.int .i64 0),.w (.bool false),.w (.bool false),.w (.int .i64 0),.w (.int .i64 0),.w (.int .i64 0),.str [],.str [],.w (.int .i64 0),.w (.int .i64 0),.w (.int .i64 0),.w (.int .i64 0),.w (.int .i64 0),.w (.int .i64 0),.sg 6 [] true] ∧ (if gqOk b then (0 : Int) else 4) = 4 := by
   intro h; unfold gqA gqR; rw [if_neg h,if_neg h]; exact ⟨rfl,rfl⟩
 unfold Try.f21
 rcases hcase with X | X | X | X
 · obtain ⟨w1,w2⟩ := hVok X.1
   simp only [go_sem,zaa,Nat.reduceAdd,Nat.reduceSub,Nat.reduceMul,Int.reduceToNat,reduceCtorEq,↓reduceIte,Int.reducePow,Nat.reducePow,Int.reduceMod,Nat.reduceLeDiff,Int.reduceLE,Int.reduceNe,Int.reduceEq,Nat.reduceEqDiff,Nat.reduceLT,Nat.reduceBEq,ty,zca,zbr,newS,zcs,zbq,zbh,zat,zba,zbx,zcn,rd,hb,hK',ha0,hz0,hl0,tk,fillS,List.length_nil,Nat.zero_le,Int.reduceLT,Int.reduceLE,Int.reduceEq,Nat.reduceEqDiff,or_self,or_false,false_or,or_true,true_or,if_true,if_false]
   refine zbl 8 ?_
   simp only [go_sem,zaa,Nat.reduceAdd,Nat.reduceSub,Nat.reduceMul,Int.reduceToNat,reduceCtorEq,↓reduceIte,Int.reducePow,Nat.reducePow,Int.reduceMod,Nat.reduceLeDiff,Int.reduceLE,Int.reduceNe,Int.reduceEq,Nat.reduceEqDiff,Nat.reduceLT,Nat.reduceBEq,ty,zca,zbr,zbq,zba,zft,zbu,zbx,zcn,ltr22,rd,hb,ha0,hz0,hl0,hv1,ha1,hz1,hl1,hv2,ha2,hz2,hl2,hv3,ha3,hz3,hl3,hv4,ha4,hz4,hl4,hv5,ha5,hz5,hl5,hv6,ha6,hz6,hl6,zcg,zaf,zal,zar,Int.reduceAdd,Int.reduceSub,Int.cast_ofNat_Int,dc22_9,lq,iq,hC',hW',hD,tk,hmr,h40,hex,X.2,w1,w2,fillS,Nat.zero_le,Int.reduceLT,Int.reduceLE,List.length_nil,Int.reduceEq,Nat.reduceEqDiff,or_self,or_false,false_or,or_true,true_or,if_true,if_false]
   repeat (refine And.intro (by first | omega | decide) ?_)
   refine ⟨_,Weak.refl _,?_⟩
   simp only [go_sem,zaa,Nat.reduceAdd,Nat.reduceSub,Nat.reduceMul,Int.reduceToNat,reduceCtorEq,↓reduceIte,Int.reducePow,Nat.reducePow,Int.reduceMod,Nat.reduceLeDiff,Int.reduceLE,Int.reduceNe,Int.reduceEq,Nat.reduceEqDiff,Nat.reduceLT,Nat.reduceBEq,ty,w1,w2]
 all_goals
   obtain ⟨w1,w2⟩ := hVno X.1
   simp only [go_sem,zaa,Nat.reduceAdd,Nat.reduceSub,Nat.reduceMul,Int.reduceToNat,reduceCtorEq,↓reduceIte,Int.reducePow,Nat.reducePow,Int.reduceMod,Nat.reduceLeDiff,Int.reduceLE,Int.reduceNe,Int.reduceEq,Nat.reduceEqDiff,Nat.reduceLT,Nat.reduceBEq,ty,zca,zbr,newS,zcs,zbq,zbh,zat,zba,zbx,zcn,rd,hb,hK',ha0,hz0,hl0,tk,fillS,List.length_nil,Nat.zero_le,Int.reduceLT,Int.reduceLE,Int.reduceEq,Nat.reduceEqDiff,or_self,or_false,false_or,or_true,true_or,if_true,if_false]
   refine zbl 8 ?_
   simp only [go_sem,zaa,Nat.reduceAdd,Nat.reduceSub,Nat.reduceMul,Int.reduceToNat,reduceCtorEq,↓reduceIte,Int.reducePow,Nat.reducePow,Int.reduceMod,Nat.reduceLeDiff,Int.reduceLE,Int.reduceNe,Int.reduceEq,Nat.reduceEqDiff,Nat.reduceLT,Nat.reduceBEq,ty,zca,zbr,zbq,zba,zft,zbu,zbx,zcn,ltr22,rd,hb,ha0,hz0,hl0,hv1,ha1,hz1,hl1,hv2,ha2,hz2,hl2,hv3,ha3,hz3,hl3,hv4,ha4,hz4,hl4,hv5,ha5,hz5,hl5,hv6,ha6,hz6,hl6,zcg,zaf,zal,zar,Int.reduceAdd,Int.reduceSub,Int.cast_ofNat_Int,dc22_9,lq,iq,hC',hW',hD,tk,hmr,h40,hex,X.2,w1,w2,fillS,Nat.zero_le,Int.reduceLT,Int.reduceLE,List.length_nil,Int.reduceEq,Nat.reduceEqDiff,or_self,or_false,false_or,or_true,true_or,if_true,if_false]
   repeat (refine And.intro (by first | omega | decide) ?_)
   refine ⟨_,Weak.refl _,?_⟩
   simp only [go_sem,zaa,Nat.reduceAdd,Nat.reduceSub,Nat.reduceMul,Int.reduceToNat,reduceCtorEq,↓reduceIte,Int.reducePow,Nat.reducePow,Int.reduceMod,Nat.reduceLeDiff,Int.reduceLE,Int.reduceNe,Int.reduceEq,Nat.reduceEqDiff,Nat.reduceLT,Nat.reduceBEq,ty,w1,w2]
set_option maxHeartbeats 8000000 in
theorem getQ_k11 (b : List UInt8) (fb : Bool) (hb : b.length ≤ 1000000) (hK : kq b = 11) :
   awp zca ty (Try.f21.body.getD .skip) (zbs ty Try.f21.results.toList [] (zbr [.sb b fb] [])) ⟨[AV.sb b fb] ++ List.replicate (Try.f21.ntmps - 1) .junk,pinHeap 0 [],4⟩ := by
 have hK' : zei 1 b 0 % 256 = 11 := hK
 obtain ⟨a0,ha0⟩ : ∃ x,zfg 1 b 0 = x := ⟨_,rfl⟩
 obtain ⟨z0,hz0⟩ : ∃ x,rfixE 1 b 0 = x := ⟨_,rfl⟩
 have hl0 : a0.length ≤ 1000000 := by have := zbg 1 b 0; rw [ha0] at this; omega
 have s0 : sq0 b = (a0,z0) := by unfold sq0; rw [ha0,hz0]
 obtain ⟨v1,hv1⟩ : ∃ x,rtS' 255 a0 z0 = x := ⟨_,rfl⟩
 obtain ⟨a1,ha1⟩ : ∃ x,rtL 255 a0 z0 = x := ⟨_,rfl⟩
 obtain ⟨z1,hz1⟩ : ∃ x,rtE 255 a0 z0 = x := ⟨_,rfl⟩
 have s1 : nx22 116 (a0,z0) = (a1,z1) := by unfold nx22 zbu; simp only [Int.reduceEq,or_self,or_false,false_or,or_true,true_or,if_true,if_false,ha1,hz1]
 have hl1 : a1.length ≤ 1000000 := by have := zcl 116 (a0,z0); rw [s1] at this; simp only at this; omega
 obtain ⟨v2,hv2⟩ : ∃ x,numN a1 z1 = x := ⟨_,rfl⟩
 obtain ⟨a2,ha2⟩ : ∃ x,numL a1 z1 = x := ⟨_,rfl⟩
 obtain ⟨z2,hz2⟩ : ∃ x,numE a1 z1 = x := ⟨_,rfl⟩
 have s2 : nx22 105 (a1,z1) = (a2,z2) := by unfold nx22 zbu; simp only [Int.reduceEq,or_self,or_false,false_or,or_true,true_or,if_true,if_false,ha2,hz2]
 have hl2 : a2.length ≤ 1000000 := by have := zcl 105 (a1,z1); rw [s2] at this; simp only at this; omega
 obtain ⟨v3,hv3⟩ : ∃ x,rtS' 255 a2 z2 = x := ⟨_,rfl⟩
 obtain ⟨a3,ha3⟩ : ∃ x,rtL 255 a2 z2 = x := ⟨_,rfl⟩
 obtain ⟨z3,hz3⟩ : ∃ x,rtE 255 a2 z2 = x := ⟨_,rfl⟩
 have s3 : nx22 103 (a2,z2) = (a3,z3) := by unfold nx22 zbu; simp only [Int.reduceEq,or_self,or_false,false_or,or_true,true_or,if_true,if_false,ha3,hz3]
 have hl3 : a3.length ≤ 1000000 := by have := zcl 103 (a2,z2); rw [s3] at this; simp only at this; omega
 have hM : rdR b = ⟨11,v1,v2,0,false,false,0,0,0,v3,[],0,zB⟩ := by unfold rdR; rw [hK]; simp only [Int.reduceEq,if_true,if_false,s0,s1,hv1,s2,hv2,s3,hv3]
 have hQ : rdS b = (a3,z3) := by unfold rdS; rw [hK]; simp only [Int.reduceEq,if_true,if_false,s0,s1,s2,s3]
 obtain ⟨D,hD⟩ : ∃ x,(if z3 = 0 ∧ 0 < a3.length then (4 : Int) else z3) = x := ⟨_,rfl⟩
 obtain ⟨C,hC⟩ : ∃ x,chkR ⟨11,v1,v2,0,false,false,0,0,0,v3,[],0,zB⟩ = x := ⟨_,rfl⟩
 obtain ⟨W,hW⟩ : ∃ x,putR ⟨11,v1,v2,0,false,false,0,0,0,v3,[],0,zB⟩ = x := ⟨_,rfl⟩
 have hcase := zeo b hb hM hQ hD hC hW
 have hC' : chkQ 11 v1 v2 0 false false 0 0 0 v3 [] 0 0 0 0 0 0 [] = C := hC
 have hW' : putQ 11 v1 v2 0 false false 0 0 0 v3 [] 0 0 0 0 0 0 [] = W := hW
 have hfit := zes b hb
 rw [hM] at hfit
 have lq : lenQ v1 v3 [] := hfit.2.1
 have iq : intQ v2 0 0 0 0 0 := hfit.2.2.1
 have hmr : ([] : List AV).map rrec = [] := rfl
 have h40 : ([] : List AV).length ≤ 40 := by simp
 have hex : ∃ qs : List Rec,([] : List AV) = qs.map rv := ⟨[],rfl⟩
 have tk : ∀ l : List UInt8,List.take l.length l = l := fun l => List.take_length
 have hVok : gqOk b → gqA b = .agg [.w (.int .u8 11),.str v1,.w (.int .i64 v2),.w (.int .i64 0),.w (.bool false),.w (.bool false),.w (.int .i64 0),.w (.int .i64 0),.w (.int .i64 0),.str v3,.str [],.w (.int .i64 0),.w (.int .i64 0),.w (.int .i64 0),.w (.int .i64 0),.w (.int .i64 0),.w (.int .i64 0),.sg 6 [] true] ∧ (if gqOk b then (0 : Int) else 4) = 0 := by
   intro h; unfold gqA gqR; rw [if_pos h,if_pos h,hM]; exact ⟨rfl,rfl⟩
 have hVno : ¬ gqOk b → gqA b = .agg [.w (.int .u8 0),.str [],.w (.int .i64 0),.w (.int .i64 0),.w (.bool false),.w (.bool false),.w (.int .i64 0),.w (.int .i64 0),.w (.int .i64 0),.str [],.str [],.w (.int .i64 0),.w (.int .i64 0),.w (.int .i64 0),.w (.int .i64 0),.w (.int .i64 0),.w (.int .i64 0),.sg 6 [] true] ∧ (if gqOk b then (0 : Int) else 4) = 4 := by
   intro h; unfold gqA gqR; rw [if_neg h,if_neg h]; exact ⟨rfl,rfl⟩
 unfold Try.f21
 rcases hcase with X | X | X | X
 · obtain ⟨w1,w2⟩ := hVok X.1
   simp only [go_sem,zaa,Nat.reduceAdd,Nat.reduceSub,Nat.reduceMul,Int.reduceToNat,reduceCtorEq,↓reduceIte,Int.reducePow,Nat.reducePow,Int.reduceMod,Nat.reduceLeDiff,Int.reduceLE,Int.reduceNe,Int.reduceEq,Nat.reduceEqDiff,Nat.reduceLT,Nat.reduceBEq,ty,zca,zbr,newS,zcs,zbq,zbh,zat,zba,zbx,zcn,rd,hb,hK',ha0,hz0,hl0,tk,fillS,List.length_nil,Nat.zero_le,Int.reduceLT,Int.reduceLE,Int.reduceEq,Nat.reduceEqDiff,or_self,or_false,false_or,or_true,true_or,if_true,if_false]
   refine zbl 5 ?_
   simp only [go_sem,zaa,Nat.reduceAdd,Nat.reduceSub,Nat.reduceMul,Int.reduceToNat,reduceCtorEq,↓reduceIte,Int.reducePow,Nat.reducePow,Int.reduceMod,Nat.reduceLeDiff,Int.reduceLE,Int.reduceNe,Int.reduceEq,Nat.reduceEqDiff,Nat.reduceLT,Nat.reduceBEq,ty,zca,zbr,zbq,zba,zft,zbu,zbx,zcn,ltr22,rd,hb,ha0,hz0,hl0,hv1,ha1,hz1,hl1,hv2,ha2,hz2,hl2,hv3,ha3,hz3,hl3,zcg,zaf,zal,zar,Int.reduceAdd,Int.reduceSub,Int.cast_ofNat_Int,dc22_3,lq,iq,hC',hW',hD,tk,hmr,h40,hex,X.2,w1,w2,fillS,Nat.zero_le,Int.reduceLT,Int.reduceLE,List.length_nil,Int.reduceEq,Nat.reduceEqDiff,or_self,or_false,false_or,or_true,true_or,if_true,if_false]
   repeat (refine And.intro (by first | omega | decide) ?_)
   refine ⟨_,Weak.refl _,?_⟩
   simp only [go_sem,zaa,Nat.reduceAdd,Nat.reduceSub,Nat.reduceMul,Int.reduceToNat,reduceCtorEq,↓reduceIte,Int.reducePow,Nat.reducePow,Int.reduceMod,Nat.reduceLeDiff,Int.reduceLE,Int.reduceNe,Int.reduceEq,Nat.reduceEqDiff,Nat.reduceLT,Nat.reduceBEq,ty,w1,w2]
 all_goals
   obtain ⟨w1,w2⟩ := hVno X.1
   simp only [go_sem,zaa,Nat.reduceAdd,Nat.reduceSub,Nat.reduceMul,Int.reduceToNat,reduceCtorEq,↓reduceIte,Int.reducePow,Nat.reducePow,Int.reduceMod,Nat.reduceLeDiff,Int.reduceLE,Int.reduceNe,Int.reduceEq,Nat.reduceEqDiff,Nat.reduceLT,Nat.reduceBEq,ty,zca,zbr,newS,zcs,zbq,zbh,zat,zba,zbx,zcn,rd,hb,hK',ha0,hz0,hl0,tk,fillS,List.length_nil,Nat.zero_le,Int.reduceLT,Int.reduceLE,Int.reduceEq,Nat.reduceEqDiff,or_self,or_false,false_or,or_true,true_or,if_true,if_false]
   refine zbl 5 ?_
   simp only [go_sem,zaa,Nat.reduceAdd,Nat.reduceSub,Nat.reduceMul,Int.reduceToNat,reduceCtorEq,↓reduceIte,Int.reducePow,Nat.reducePow,Int.reduceMod,Nat.reduceLeDiff,Int.reduceLE,Int.reduceNe,Int.reduceEq,Nat.reduceEqDiff,Nat.reduceLT,Nat.reduceBEq,ty,zca,zbr,zbq,zba,zft,zbu,zbx,zcn,ltr22,rd,hb,ha0,hz0,hl0,hv1,ha1,hz1,hl1,hv2,ha2,hz2,hl2,hv3,ha3,hz3,hl3,zcg,zaf,zal,zar,Int.reduceAdd,Int.reduceSub,Int.cast_ofNat_Int,dc22_3,lq,iq,hC',hW',hD,tk,hmr,h40,hex,X.2,w1,w2,fillS,Nat.zero_le,Int.reduceLT,Int.reduceLE,List.length_nil,Int.reduceEq,Nat.reduceEqDiff,or_self,or_false,false_or,or_true,true_or,if_true,if_false]
   repeat (refine And.intro (by first | omega | decide) ?_)
   refine ⟨_,Weak.refl _,?_⟩
   simp only [go_sem,zaa,Nat.reduceAdd,Nat.reduceSub,Nat.reduceMul,Int.reduceToNat,reduceCtorEq,↓reduceIte,Int.reducePow,Nat.reducePow,Int.reduceMod,Nat.reduceLeDiff,Int.reduceLE,Int.reduceNe,Int.reduceEq,Nat.reduceEqDiff,Nat.reduceLT,Nat.reduceBEq,ty,w1,w2]
set_option maxHeartbeats 8000000 in
theorem getQ_k12 (b : List UInt8) (fb : Bool) (hb : b.length ≤ 1000000) (hKn : kq b ≠ 0 ∧ kq b ≠ 1 ∧ kq b ≠ 2 ∧ kq b ≠ 3 ∧ kq b ≠ 4 ∧ kq b ≠ 5 ∧ kq b ≠ 6 ∧ kq b ≠ 7 ∧ kq b ≠ 8 ∧ kq b ≠ 9 ∧ kq b ≠ 10 ∧ kq b ≠ 11) :
   awp zca ty (Try.f21.body.getD .skip) (zbs ty Try.f21.results.toList [] (zbr [.sb b fb] [])) ⟨[AV.sb b fb] ++ List.replicate (Try.f21.ntmps - 1) .junk,pinHeap 0 [],4⟩ := by
 obtain ⟨h0,h1,h2,h3,h4,h5,h6,h7,h8,h9,h10,h11⟩ := hKn
 have hKr := kq_rng b
 have hM : rdR b = ⟨kq b,[],0,0,false,false,0,0,0,[],[],0,zB⟩ := by
   unfold rdR
   rw [if_neg h0,if_neg h1,if_neg h2,if_neg h3,if_neg h4,if_neg h5,if_neg h6,if_neg h7,if_neg h8,if_neg h9,if_neg h10,if_neg h11]
 have hfit := zes b hb
 rw [hM] at hfit
 have hu : zat (kq b) = [] := by
   unfold zat
   simp only [h0,h1,h2,h3,h4,h5,h6,h7,h8,h9,h10,h11,or_self,if_false]
 obtain ⟨K,hK⟩ : ∃ x,kq b = x := ⟨_,rfl⟩
 rw [hK] at hM hu hfit hKr h0 h1 h2 h3 h4 h5 h6 h7 h8 h9 h10 h11
 have hK' : zei 1 b 0 % 256 = K := hK
 have hK0 : 0 ≤ K := hKr.1
 have hK1 : K < 256 := hKr.2
 have hK2 : 11 < K := by omega
 have hK3 : K ≤ 255 := by omega
 obtain ⟨a0,ha0⟩ : ∃ x,zfg 1 b 0 = x := ⟨_,rfl⟩
 obtain ⟨z0,hz0⟩ : ∃ x,rfixE 1 b 0 = x := ⟨_,rfl⟩
 have hl0 : a0.length ≤ 1000000 := by have := zbg 1 b 0; rw [ha0] at this; omega
 obtain ⟨L,hL⟩ : ∃ x,(rdS b).1 = x := ⟨_,rfl⟩
 obtain ⟨D,hD⟩ : ∃ x,(if z0 = 0 ∧ 0 < a0.length then (4 : Int) else z0) = x := ⟨_,rfl⟩
 have hC' : chkQ K [] 0 0 false false 0 0 0 [] [] 0 0 0 0 0 0 [] = 22 := if_pos hK2
 obtain ⟨W,hW'⟩ : ∃ x,putQ K [] 0 0 false false 0 0 0 [] [] 0 0 0 0 0 0 [] = x := ⟨_,rfl⟩
 have hno : ¬ gqOk b := by
   intro h
   have h1 : chkR (rdR b) = 0 := h.1
   rw [hM] at h1
   exact absurd (h1.symm.trans hC') (by decide)
 have lq : lenQ [] [] [] := hfit.2.1
 have iq : intQ 0 0 0 0 0 0 := hfit.2.2.1
 have hmr : ([] : List AV).map rrec = [] := rfl
 have h40 : ([] : List AV).length ≤ 40 := by simp
 have hex : ∃ qs : List Rec,([] : List AV) = qs.map rv := ⟨[],rfl⟩
 have tk : ∀ l : List UInt8,List.take l.length l = l := fun l => List.take_length
 have hVno : ¬ gqOk b → gqA b = .agg [.w (.int .u8 0),.str [],.w (.int .i64 0),.w (.int .i64 0),.w (.bool false),.w (.bool false),.w (.int .i64 0),.w (.int .i64 0),.w (.int .i64 0),.str [],.str [],.w (.int .i64 0),.w (.int .i64 0),.w (.int .i64 0),.w (.int .i64 0),.w (.int .i64 0),.w (.int .i64 0),.sg 6 [] true] ∧ (if gqOk b then (0 : Int) else 4) = 4 := by
   intro h; unfold gqA gqR; rw [if_neg h,if_neg h]; exact ⟨rfl,rfl⟩
 obtain ⟨w1,w2⟩ := hVno hno
 have hcase : decide (D = 0) = true ∨ decide (D = 0) = false := by cases decide (D = 0) <;> simp
 unfold Try.f21
 rcases hcase with X | X
 all_goals
   simp only [go_sem,zaa,Nat.reduceAdd,Nat.reduceSub,Nat.reduceMul,Int.reduceToNat,reduceCtorEq,↓reduceIte,Int.reducePow,Nat.reducePow,Int.reduceMod,Nat.reduceLeDiff,Int.reduceLE,Int.reduceNe,Int.reduceEq,Nat.reduceEqDiff,Nat.reduceLT,Nat.reduceBEq,ty,zca,zbr,newS,zcs,zbq,zbh,hu,zba,zbx,zcn,rd,hb,hK',ha0,hz0,hl0,hK0,hK1,hK3,tk,fillS,List.length_nil,Nat.zero_le,Int.reduceLT,Int.reduceLE,Int.reduceEq,Nat.reduceEqDiff,or_self,or_false,false_or,or_true,true_or,if_true,if_false]
   refine zbl 2 ?_
   simp only [go_sem,zaa,Nat.reduceAdd,Nat.reduceSub,Nat.reduceMul,Int.reduceToNat,reduceCtorEq,↓reduceIte,Int.reducePow,Nat.reducePow,Int.reduceMod,Nat.reduceLeDiff,Int.reduceLE,Int.reduceNe,Int.reduceEq,Nat.reduceEqDiff,Nat.reduceLT,Nat.reduceBEq,ty,zca,zbr,zbq,zba,zft,zbu,zbx,zcn,rd,hb,ha0,hz0,hl0,hK0,hK1,hK3,zcg,zaf,zal,zar,Int.reduceAdd,Int.reduceSub,Int.cast_ofNat_Int,lq,iq,hC',hW',hD,tk,hmr,h40,hex,X,w1,w2,fillS,Nat.zero_le,Int.reduceLT,Int.reduceLE,List.length_nil,Int.reduceEq,Nat.reduceEqDiff,or_self,or_false,false_or,or_true,true_or,if_true,if_false]
   repeat (refine And.intro (by first | omega | decide) ?_)
   refine ⟨_,Weak.refl _,?_⟩
   simp only [go_sem,zaa,Nat.reduceAdd,Nat.reduceSub,Nat.reduceMul,Int.reduceToNat,reduceCtorEq,↓reduceIte,Int.reducePow,Nat.reducePow,Int.reduceMod,Nat.reduceLeDiff,Int.reduceLE,Int.reduceNe,Int.reduceEq,Nat.reduceEqDiff,Nat.reduceLT,Nat.reduceBEq,ty,w1,w2]
theorem getQ_sound : zbf Try.prog 21 zbr := by
 refine zcm (S := zca) (T := ty) zbj ty_ok SgetQ_ok Try.func21 (c := Try.f21.body.getD .skip) (by kernel_rfl) (by kernel_rfl) (fun xs pins hp _ => ?_)
 have hx : ∃ b f,xs = [.sb b f] ∧ pins = [] ∧ b.length ≤ 1000000 := by
   unfold zbr at hp
   split at hp
   · rename_i b f _
     exact ⟨b,f,rfl,rfl,hp⟩
   · exact hp.elim
 obtain ⟨b,f,rfl,rfl,hb⟩ := hx
 refine ⟨by simp,?_⟩
 rcases knd_cases (kq b) with h | h | h | h | h | h | h | h | h | h | h | h | h
 · exact getQ_k12 b f hb h
 · exact getQ_k0 b f hb h
 · exact getQ_k1 b f hb h
 · exact getQ_k2 b f hb h
 · exact getQ_k3 b f hb h
 · exact getQ_k4 b f hb h
 · exact getQ_k5 b f hb h
 · exact getQ_k6 b f hb h
 · exact getQ_k7 b f hb h
 · exact getQ_k8 b f hb h
 · exact getQ_k9 b f hb h
 · exact getQ_k10 b f hb h
 · exact getQ_k11 b f hb h
end
end Go.Proofs.Ytmedjkjoannbmaa
