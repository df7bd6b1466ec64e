/- What the proofs of this seat stand on; it asks nothing. -/
import Derived.Test.YtihbcgbmlecpbaaYa10
set_option linter.unusedSimpArgs false
set_option linter.unusedVariables false
namespace Go.Proofs.Ytihbcgbmlecpbaa
open Ax
theorem zg_rng22 (v : Nat) (h : v < 18446744073709551616) : -9223372036854775808 ≤ zg (v : Int) ∧ zg (v : Int) ≤ 9223372036854775807 := by
 unfold zg; split <;> omega
theorem getM_rng22 : ∀ (l : List UInt8) (i u : Nat),u < 128 ^ i → i ≤ 10 → -9223372036854775808 ≤ (getM i u l).1 ∧ (getM i u l).1 ≤ 9223372036854775807
 | [],i,u,_,_ => by unfold getM; split <;> decide
 | c :: r,i,u,hu,hi => by
   unfold getM
   have hp : (128 : Nat) ^ (i + 1) = 128 * 128 ^ i := by rw [Nat.pow_succ,Nat.mul_comm]
   split
   · decide
   · rename_i h10
     split
     · refine getM_rng22 r (i + 1) _ ?_ (by omega)
       have h1 : c.toNat % 128 * 128 ^ i ≤ 127 * 128 ^ i := Nat.mul_le_mul_right _ (by omega)
       omega
     · rename_i hc
       split
       · decide
       · rename_i hb
         refine zg_rng22 _ ?_
         by_cases h9 : i = 9
         · subst h9
           have h1 : c.toNat * 128 ^ 9 ≤ 1 * 128 ^ 9 := Nat.mul_le_mul_right _ (by omega)
           have h2 : (128 : Nat) ^ 9 = 9223372036854775808 := by decide
           omega
         · have h1 : c.toNat * 128 ^ i ≤ 127 * 128 ^ i := Nat.mul_le_mul_right _ (by omega)
           have h2 : (128 : Nat) ^ (i + 1) ≤ 128 ^ 9 := Nat.pow_le_pow_right (by decide) (by omega)
           have h3 : (128 : Nat) ^ 9 = 9223372036854775808 := by decide
           omega
theorem zcv (b : List UInt8) (e : Int) : okI (numN b e) := by
 unfold okI numN; split
 · rw [getL_M]; exact getM_rng22 b 0 0 (by decide) (by decide)
 · decide
theorem zad : okI 0 := by unfold okI; decide
theorem nxB_len (B x : Int) (s : List UInt8 × Int) : (nxB B x s).1.length ≤ s.1.length := by
 unfold nxB
 have h1 : ∀ m,(rtL m s.1 s.2).length ≤ s.1.length := fun m => rtL_length m s.1 s.2
 repeat' split
 · exact h1 255
 · exact zdd 1 s.1 s.2
 · exact h1 B
 · exact zbm s.1 s.2
theorem bget0_recs (s : List UInt8) : (zbk s).rs.length ≤ 32 := by
 unfold zbk
 cases h : bget s with
 | none => simp
 | some x => exact (bheads (bget_some h).1 []).2.2.2.2.2.2.2.1
theorem fit_step (B x : Int) (s : List UInt8 × Int) (q : Rq) (hs : s.1.length ≤ 1000000) (h : fitR q) : fitR (tkR B x s q) := by
 obtain ⟨hk,⟨t1,t2,t3⟩,⟨i1,i2,i3,i4,i5,i6⟩,hr⟩ := h
 have hT := Nat.le_trans (tkS_len22 255 s.1 s.2) hs
 have hN := zcv s.1 s.2
 have cs : ∀ (P : Prop) [Decidable P] (a b : List UInt8),a.length ≤ 1000000 → b.length ≤ 1000000 → (if P then a else b).length ≤ 1000000 := by
   intro P _ a b h1 h2; split <;> assumption
 have ci : ∀ (P : Prop) [Decidable P] (a b : Int),okI a → okI b → okI (if P then a else b) := by
   intro P _ a b h1 h2; split <;> assumption
 refine ⟨hk,⟨cs _ _ _ hT t1,cs _ _ _ hT t2,cs _ _ _ hT t3⟩,⟨ci _ _ _ hN i1,ci _ _ _ hN i2,ci _ _ _ hN i3,ci _ _ _ hN i4,ci _ _ _ hN i5,ci _ _ _ hN i6⟩,?_⟩
 show (if x = 98 then zbk (rtS' B s.1 s.2) else q.b).rs.length ≤ 40
 split
 · exact Nat.le_trans (bget0_recs _) (by decide)
 · exact hr
theorem fit_all (B : Int) : ∀ (l : List UInt8) (s : List UInt8 × Int) (q : Rq),s.1.length ≤ 1000000 → fitR q → fitR (rdL B l s q).1 ∧ (rdL B l s q).2.1.length ≤ s.1.length
 | [],_,_,_,h => ⟨h,Nat.le_refl _⟩
 | x :: r,s,q,hs,h => by
   have h1 := nxB_len B (x.toNat : Int) s
   have h2 := fit_all B r (nxB B (x.toNat : Int) s) (tkR B (x.toNat : Int) s q) (Nat.le_trans h1 hs) (fit_step B _ s q hs h)
   exact ⟨h2.1,Nat.le_trans h2.2 h1⟩
theorem zR_fit (b : List UInt8) : fitR (zRk (kq b)) := ⟨kq_rng b,⟨by simp [zRk],by simp [zRk],by simp [zRk]⟩,⟨zad,zad,zad,zad,zad,zad⟩,by simp [zRk,zB]⟩
theorem sq0_len (b : List UInt8) : (sq0 b).1.length ≤ b.length := zdd 1 b 0
theorem rdB_fit (B : Int) (b : List UInt8) (hb : b.length ≤ 1000000) : fitR (rdB B b).1 := (fit_all B _ _ _ (Nat.le_trans (sq0_len b) hb) (zR_fit b)).1
theorem rdR_fit (b : List UInt8) (hb : b.length ≤ 1000000) : fitR (rdR b) := rdB_fit 8192 b hb
theorem takeA_rq (x : Int) (bs : List UInt8) (e : Int) (q : Rq) : takeA x bs e q.k q.t q.i q.p q.c q.f q.o q.m q.w q.g q.mb q.n q.b.b q.b.c q.b.p q.b.e q.b.s (q.b.rs.map rv) (emp q.b.rs) = rqA (tkR 8192 x (bs,e) q) (emp (tkR 8192 x (bs,e) q).b.rs) := by
 unfold takeA rqA tkR
 by_cases h : x = 98
 · simp only [if_pos h]
 · simp only [if_neg h]
def gqOk (b : List UInt8) : Prop := chkR (rdR b) = 0 ∧ layR (rdR b) = b
instance (b : List UInt8) : Decidable (gqOk b) := by unfold gqOk; infer_instance
def zR : Rq := ⟨0,[],0,0,false,false,0,0,0,[],[],0,zB⟩
def gqR (b : List UInt8) : Rq := if gqOk b then rdR b else zR
def gqA (b : List UInt8) : AV := rqA (gqR b) (emp (gqR b).b.rs)
def zct : zak
 | [.sb b fb],[] => ⟨b.length ≤ 1000000,.tup [gqA b,.w (.int .i64 (if gqOk b then 0 else 4))],[]⟩
 | _,_ => zbd
theorem gq_done {b : List UInt8} (hb : b.length ≤ 1000000) (h : gqOk b) : rdS b = ([],0) := by
 have h1 := (rd_lay22 (rdR b) h.1 (rdR_fit b hb) []).2
 rw [List.append_nil,h.2] at h1; exact h1
theorem gq_cases (b : List UInt8) (hb : b.length ≤ 1000000) {M : Rq} (hM : rdR b = M) {L : List UInt8} {E D C : Int} {W : List UInt8} (hQ : rdS b = (L,E)) (hD : (if E = 0 ∧ 0 < L.length then (4 : Int) else E) = D) (hC : chkR M = C) (hW : putR M = W) :
   (gqOk b ∧ decide (D = 0) = true ∧ decide (C = 0) = true ∧ decide (W = b) = true) ∨ (¬ gqOk b ∧ decide (D = 0) = false) ∨ (¬ gqOk b ∧ decide (D = 0) = true ∧ decide (C = 0) = false) ∨ (¬ gqOk b ∧ decide (D = 0) = true ∧ decide (C = 0) = true ∧ decide (W = b) = false) := by
 subst hM hC hW hD
 by_cases hg : gqOk b
 · have h1 := gq_done hb hg
   rw [hQ] at h1
   injection h1 with h1 h2
   subst h1 h2
   have h3 : putR (rdR b) = b := (if_pos hg.1).trans hg.2
   exact .inl ⟨hg,by simp,decide_eq_true hg.1,decide_eq_true h3⟩
 · by_cases h1 : (if E = 0 ∧ 0 < L.length then (4 : Int) else E) = 0
   · by_cases h2 : chkR (rdR b) = 0
     · by_cases h3 : putR (rdR b) = b
       · exact (hg ⟨h2,(if_pos h2).symm.trans h3⟩).elim
       · exact .inr (.inr (.inr ⟨hg,decide_eq_true h1,decide_eq_true h2,decide_eq_false h3⟩))
     · exact .inr (.inr (.inl ⟨hg,decide_eq_true h1,decide_eq_false h2⟩))
   · exact .inr (.inl ⟨hg,decide_eq_false h1⟩)
def zdj : zak
 | [.sb a f,.sb b g],[] => ⟨True,.w (.bool (decide (a = b))),[]⟩
 | _,_ => zbd
section
set_option maxRecDepth 100000
theorem eqB22_sound : zaq Try.prog 28 zdj := by
 refine zal (S := noS) (T := ty) zau ty_ok zbs Try.func28 (c := Try.f28.body.getD .skip) (by kernel_rfl) (by kernel_rfl) (fun xs pins hp _ => ?_)
 unfold zdj at hp ⊢
 split at hp
 · rename_i a f b g _
   refine ⟨by simp,?_⟩
   unfold Try.f28
   simp only [go_sem,zaa,Nat.reduceAdd,Nat.reduceSub,Nat.reduceMul,Int.reduceToNat,reduceCtorEq,↓reduceIte,Int.reducePow,Nat.reducePow,Int.reduceMod,Nat.reduceLeDiff,Int.reduceLE,Int.reduceNe,Int.reduceEq,Nat.reduceEqDiff,Nat.reduceLT,Nat.reduceBEq,ty,noS]
 · exact hp.elim
end
def SgetQ (f : FuncId) : Option zak :=
 match f with
 | 32 => some newS
 | 35 => some zcx
 | 56 => some zfj
 | 44 => some usesS
 | 55 => some takeS22
 | 22 => some putQS
 | 28 => some zdj
 | _ => none
theorem SgetQ_ok : Fns Try.prog SgetQ := by
 intro f s h
 unfold SgetQ at h
 split at h
 · injection h with h; subst h; exact ⟨⟨_,Try.func32,by kernel_rfl,by kernel_rfl⟩,new_sound⟩
 · injection h with h; subst h; exact ⟨⟨_,Try.func35,by kernel_rfl,by kernel_rfl⟩,mfixed_sound⟩
 · injection h with h; subst h; exact ⟨⟨_,Try.func56,by kernel_rfl,by kernel_rfl⟩,done_sound⟩
 · injection h with h; subst h; exact ⟨⟨_,Try.func44,by kernel_rfl,by kernel_rfl⟩,uses22_sound⟩
 · injection h with h; subst h; exact ⟨⟨_,Try.func55,by kernel_rfl,by kernel_rfl⟩,take22_sound⟩
 · injection h with h; subst h; exact ⟨⟨_,Try.func22,by kernel_rfl,by kernel_rfl⟩,putQ_sound⟩
 · injection h with h; subst h; exact ⟨⟨_,Try.func28,by kernel_rfl,by kernel_rfl⟩,eqB22_sound⟩
 · cases h
theorem let_ltr {k : Int} {x : UInt8} (h : x ∈ zcq k) : ltr22 (x.toNat : Int) := by
 rcases uses_let k x h with h1 | ⟨rfl,_⟩
 · rcases h1 with rfl | rfl | rfl | rfl | rfl | rfl | rfl | rfl | rfl | rfl | rfl <;> decide
 · decide
section
set_option maxRecDepth 100000
set_option maxHeartbeats 8000000 in
theorem getQ_sound : zaq Try.prog 33 zct := by
 refine zbp (S := SgetQ) (T := ty) zau ty_ok SgetQ_ok Try.func33 (c := Try.f33.body.getD .skip) (by kernel_rfl) (by kernel_rfl) (fun xs pins hp _ => ?_)
 have hx : ∃ b f,xs = [.sb b f] ∧ pins = [] ∧ b.length ≤ 1000000 := by
   unfold zct at hp
   split at hp
   · rename_i b f _
     exact ⟨b,f,rfl,rfl,hp⟩
   · exact hp.elim
 obtain ⟨b,f,rfl,rfl,hb⟩ := hx
 refine ⟨by simp,?_⟩
 have hK' : zci 1 b 0 % 256 = kq b := rfl
 obtain ⟨K,hK⟩ : ∃ x,kq b = x := ⟨_,rfl⟩
 have hKr := kq_rng b
 rw [hK] at hK' hKr
 obtain ⟨hK0,hK1⟩ := hKr
 have hK3 : K ≤ 255 := by omega
 have tk : ∀ l : List UInt8,List.take l.length l = l := fun l => List.take_length
 obtain ⟨a0,ha0⟩ : ∃ x,rfixL 1 b 0 = x := ⟨_,rfl⟩
 obtain ⟨z0,hz0⟩ : ∃ x,rfixE 1 b 0 = x := ⟨_,rfl⟩
 have hl0 : a0.length ≤ 1000000 := by have := zdd 1 b 0; rw [ha0] at this; omega
 have hdec := uses_dec K
 have hul := uses_len K
 have hlt : ∀ x ∈ zcq K,ltr22 (x.toNat : Int) := fun x hx => let_ltr hx
 obtain ⟨L,hLL⟩ : ∃ L,zcq K = L := ⟨_,rfl⟩
 rw [hLL] at hdec hul hlt
 have hrd : rdB 8192 b = rdL 8192 L (a0,z0) (zRk K) := by unfold rdB; rw [hK,hLL]; unfold sq0; rw [ha0,hz0]
 unfold Try.f33
 simp only [go_sem,zaa,Nat.reduceAdd,Nat.reduceSub,Nat.reduceMul,Int.reduceToNat,reduceCtorEq,↓reduceIte,Int.reducePow,Nat.reducePow,Int.reduceMod,Nat.reduceLeDiff,Int.reduceLE,Int.reduceNe,Int.reduceEq,Nat.reduceEqDiff,Nat.reduceLT,Nat.reduceBEq,ty,SgetQ,newS,zcx,usesS,rd,hb,hK',hLL,ha0,hz0,hl0,hK0,hK1,hK3,tk]
 refine zdh ⟨fun mm σ => ∃ (j : Nat) (M : Rq) (u : List UInt8) (e : Int),mm = L.length - j ∧ j ≤ L.length ∧ rdL 8192 (L.take j) (a0,z0) (zRk K) = (M,(u,e)) ∧
   σ = ⟨[.sb b f,.junk,.rf 4 18 0 0,.w (.int .i64 0),.rf 5 2 0 0,.rf 6 18 0 0,.junk,.junk,.junk,.junk,.junk,.junk,.junk,.junk,.junk,.junk,.junk,.junk,.junk,.rf 7 1 0 0,.junk,.junk,.junk,.junk,.junk,.junk,.junk,.junk,.junk,.junk,.junk,.junk,.junk,.junk,.junk,.junk,.junk,.junk,.junk,.junk,.junk,.junk,.junk,.junk,.junk,.junk],[(4,.g 18 [.agg [.w (.int .u8 0),.str [],.w (.int .i64 0),.w (.int .i64 0),.w (.bool false),.w (.bool false),.w (.int .i64 0),.w (.int .i64 0),.w (.int .i64 0),.str [],.str [],.w (.int .i64 0),.w (.int .i64 0),.w (.int .i64 0),.w (.int .i64 0),.w (.int .i64 0),.w (.int .i64 0),.sg 6 [] true]]),(5,.g 2 [.agg [.sb u false,.w (.int .i64 e)]]),(6,.g 18 [.agg [.w (.int .u8 M.k),.str M.t,.w (.int .i64 M.i),.w (.int .i64 M.p),.w (.bool M.c),.w (.bool M.f),.w (.int .i64 M.o),.w (.int .i64 M.m),.w (.int .i64 M.w),.str M.g,.str M.mb,.w (.int .i64 M.n),.w (.int .i64 M.b.b),.w (.int .i64 M.b.c),.w (.int .i64 M.b.p),.w (.int .i64 M.b.e),.w (.int .i64 M.b.s),.sg 6 (M.b.rs.map rv) (emp M.b.rs)]]),(7,.o (.it L j))],8⟩,?_,?_⟩
 · refine ⟨_,_,zaf [0,1,2,3,4,28,76,116] rfl rfl rfl ?_ ?_,0,zRk K,a0,z0,rfl,by omega,rfl,rfl⟩
   · simp only [ssT,zai,zaj,setSlot,gOf,AV.ren,renL,Blk.ren,Ax.look,Ax.put,reduceCtorEq,↓reduceIte,Nat.reduceEqDiff,Nat.reduceLT,Nat.reduceAdd,List.length_append,List.length_cons,List.length_nil,Option.some.injEq]; try simp
   · simp only [ssT,zai,zaj,setSlot,gOf,AV.ren,renL,Blk.ren,Ax.look,Ax.put,reduceCtorEq,↓reduceIte,Nat.reduceEqDiff,Nat.reduceLT,Nat.reduceAdd,List.length_append,List.length_cons,List.length_nil,Option.some.injEq,zRk,zB,zcz,List.map_nil]; try simp
 · rintro m' σ ⟨j,M,u,e,rfl,hj,hM,rfl⟩
   have hfa := fit_all 8192 (L.take j) (a0,z0) (zRk K) hl0 (by rw [← hK]; exact zR_fit b)
   rw [hM] at hfa
   obtain ⟨hfit,hu⟩ := hfa
   have hu : u.length ≤ 1000000 := Nat.le_trans hu hl0
   have hex : ∃ qs : List Rec,M.b.rs.map rv = qs.map rv := ⟨M.b.rs,rfl⟩
   have hcl := zbi M.b.rs
   by_cases hjl : j < L.length
   · have d1 : decide (j < L.length) = true := decide_eq_true hjl
     obtain ⟨hd1,hd2⟩ := hdec j hjl
     have hx1 : L.getD j 0 = L[j] := by rw [List.getD_eq_getElem?_getD,List.getElem?_eq_getElem hjl]; rfl
     have hlx := hlt L[j] (List.getElem_mem hjl)
     have hnext := rdL_take 8192 L (a0,z0) (zRk K) hjl
     rw [hM] at hnext
     simp only at hnext
     rw [hx1] at hd1
     obtain ⟨x,hx⟩ : ∃ x,((L[j].toNat : Nat) : Int) = x := ⟨_,rfl⟩
     rw [hx] at hlx hnext
     have hd1 : ((decR L j : Nat) : Int) = x := by rw [hd1]; exact hx
     have hT := takeA_rq x u e M
     obtain ⟨M',hM'⟩ : ∃ M',tkR 8192 x (u,e) M = M' := ⟨_,rfl⟩
     have hQ : takeQ x u e = nxB 8192 x (u,e) := rfl
     obtain ⟨⟨u',e'⟩,hs'⟩ : ∃ s',nxB 8192 x (u,e) = s' := ⟨_,rfl⟩
     rw [hM'] at hT hnext
     rw [hs'] at hQ hnext
     have hcl' := zbi M'.b.rs
     simp only [go_sem,zaa,Nat.reduceAdd,Nat.reduceSub,Nat.reduceMul,Int.reduceToNat,reduceCtorEq,↓reduceIte,Int.reducePow,Nat.reducePow,Int.reduceMod,Nat.reduceLeDiff,Int.reduceLE,Int.reduceNe,Int.reduceEq,Nat.reduceEqDiff,Nat.reduceLT,Nat.reduceBEq,ty,SgetQ,takeS22,rd,d1,hd1,hd2,hlx,hu,hex,hcl,hcl',hT,rqA,hQ]
     refine ⟨L.length - (j + 1),_,by omega,zaf [0,1,2,3,4,5,6,7] rfl rfl rfl ?_ ?_,j + 1,M',u',e',rfl,by omega,hnext,rfl⟩
     · simp only [ssT,zai,zaj,setSlot,gOf,AV.ren,renL,Blk.ren,Ax.look,Ax.put,reduceCtorEq,↓reduceIte,Nat.reduceEqDiff,Nat.reduceLT,Nat.reduceAdd,List.length_append,List.length_cons,List.length_nil,Option.some.injEq]; try simp
     · simp only [ssT,zai,zaj,setSlot,gOf,AV.ren,renL,Blk.ren,Ax.look,Ax.put,reduceCtorEq,↓reduceIte,Nat.reduceEqDiff,Nat.reduceLT,Nat.reduceAdd,List.length_append,List.length_cons,List.length_nil,Option.some.injEq]; try simp
   · obtain rfl : j = L.length := by omega
     have d1 : decide (L.length < L.length) = false := decide_eq_false (by omega)
     rw [List.take_length,← hrd] at hM
     have hMr : rdR b = M := congrArg Prod.fst hM
     have hQr : rdS b = (u,e) := congrArg Prod.snd hM
     obtain ⟨D,hD⟩ : ∃ x,(if e = 0 ∧ 0 < u.length then (4 : Int) else e) = x := ⟨_,rfl⟩
     obtain ⟨C,hC⟩ : ∃ x,chkR M = x := ⟨_,rfl⟩
     obtain ⟨W,hW⟩ : ∃ x,putR M = x := ⟨_,rfl⟩
     have hcase := gq_cases b hb hMr hQr hD hC hW
     have hC' : chkQ M.k M.t M.i M.p M.c M.f M.o M.m M.w M.g M.mb M.n M.b.b M.b.c M.b.p M.b.e M.b.s M.b.rs = C := hC
     have hW' : putQ M.k M.t M.i M.p M.c M.f M.o M.m M.w M.g M.mb M.n M.b.b M.b.c M.b.p M.b.e M.b.s M.b.rs = W := hW
     obtain ⟨⟨k1,k2⟩,lq,iq,hr40⟩ := hfit
     have h40 : (M.b.rs.map rv).length ≤ 40 := by rw [List.length_map]; exact hr40
     have hmr := zag M.b.rs
     have hVok : gqOk b → gqA b = .agg [.w (.int .u8 M.k),.str M.t,.w (.int .i64 M.i),.w (.int .i64 M.p),.w (.bool M.c),.w (.bool M.f),.w (.int .i64 M.o),.w (.int .i64 M.m),.w (.int .i64 M.w),.str M.g,.str M.mb,.w (.int .i64 M.n),.w (.int .i64 M.b.b),.w (.int .i64 M.b.c),.w (.int .i64 M.b.p),.w (.int .i64 M.b.e),.w (.int .i64 M.b.s),.sg 6 (M.b.rs.map rv) (emp M.b.rs)] ∧ (if gqOk b then (0 : Int) else 4) = 0 := by
       intro h; unfold gqA gqR; rw [if_pos h,if_pos h,hMr]; exact ⟨rfl,rfl⟩
     have hVno : ¬ gqOk b → gqA b = .agg [.w (.int .u8 0),.str [],.w (.int .i64 0),.w (.int .i64 0),.w (.bool false),.w (.bool false),.w (.int .i64 0),.w (.int .i64 0),.w (.int .i64 0),.str [],.str [],.w (.int .i64 0),.w (.int .i64 0),.w (.int .i64 0),.w (.int .i64 0),.w (.int .i64 0),.w (.int .i64 0),.sg 6 [] true] ∧ (if gqOk b then (0 : Int) else 4) = 4 := by
       intro h; unfold gqA gqR; rw [if_neg h,if_neg h]; exact ⟨rfl,rfl⟩
     rcases hcase with X | X | X | X
     · obtain ⟨w1,w2⟩ := hVok X.1
       simp only [go_sem,zaa,Nat.reduceAdd,Nat.reduceSub,Nat.reduceMul,Int.reduceToNat,reduceCtorEq,↓reduceIte,Int.reducePow,Nat.reducePow,Int.reduceMod,Nat.reduceLeDiff,Int.reduceLE,Int.reduceNe,Int.reduceEq,Nat.reduceEqDiff,Nat.reduceLT,Nat.reduceBEq,ty,SgetQ,zct,zfj,putQS,zdj,rd,d1,hu,k1,k2,lq,iq,hC',hW',hD,tk,hex,hcl,h40,hmr,X.2,w1,w2]
       refine ⟨_,Weak.refl _,?_⟩
       simp only [go_sem,zaa,Nat.reduceAdd,Nat.reduceSub,Nat.reduceMul,Int.reduceToNat,reduceCtorEq,↓reduceIte,Int.reducePow,Nat.reducePow,Int.reduceMod,Nat.reduceLeDiff,Int.reduceLE,Int.reduceNe,Int.reduceEq,Nat.reduceEqDiff,Nat.reduceLT,Nat.reduceBEq,ty,SgetQ,zct,zfj,putQS,zdj,rd,d1,hu,k1,k2,lq,iq,hC',hW',hD,tk,hex,hcl,h40,hmr,X.2,w1,w2]
       refine ⟨_,Weak.refl _,?_⟩
       simp only [go_sem,zaa,Nat.reduceAdd,Nat.reduceSub,Nat.reduceMul,Int.reduceToNat,reduceCtorEq,↓reduceIte,Int.reducePow,Nat.reducePow,Int.reduceMod,Nat.reduceLeDiff,Int.reduceLE,Int.reduceNe,Int.reduceEq,Nat.reduceEqDiff,Nat.reduceLT,Nat.reduceBEq,ty]
     all_goals
       obtain ⟨w1,w2⟩ := hVno X.1
       simp only [go_sem,zaa,Nat.reduceAdd,Nat.reduceSub,Nat.reduceMul,Int.reduceToNat,reduceCtorEq,↓reduceIte,Int.reducePow,Nat.reducePow,Int.reduceMod,Nat.reduceLeDiff,Int.reduceLE,Int.reduceNe,Int.reduceEq,Nat.reduceEqDiff,Nat.reduceLT,Nat.reduceBEq,ty,SgetQ,zct,zfj,putQS,zdj,rd,d1,hu,k1,k2,lq,iq,hC',hW',hD,tk,hex,hcl,h40,hmr,X.2,w1,w2]
       refine ⟨_,Weak.refl _,?_⟩
       simp only [go_sem,zaa,Nat.reduceAdd,Nat.reduceSub,Nat.reduceMul,Int.reduceToNat,reduceCtorEq,↓reduceIte,Int.reducePow,Nat.reducePow,Int.reduceMod,Nat.reduceLeDiff,Int.reduceLE,Int.reduceNe,Int.reduceEq,Nat.reduceEqDiff,Nat.reduceLT,Nat.reduceBEq,ty,SgetQ,zct,zfj,putQS,zdj,rd,d1,hu,k1,k2,lq,iq,hC',hW',hD,tk,hex,hcl,h40,hmr,X.2,w1,w2]
       refine ⟨_,Weak.refl _,?_⟩
       simp only [go_sem,zaa,Nat.reduceAdd,Nat.reduceSub,Nat.reduceMul,Int.reduceToNat,reduceCtorEq,↓reduceIte,Int.reducePow,Nat.reducePow,Int.reduceMod,Nat.reduceLeDiff,Int.reduceLE,Int.reduceNe,Int.reduceEq,Nat.reduceEqDiff,Nat.reduceLT,Nat.reduceBEq,ty]
end
end Go.Proofs.Ytihbcgbmlecpbaa
namespace Go.Proofs.Ytihbcgbmlecpbaa
open Ax
def eqT (k N : Int) (D : Bool) (ft : List UInt8) (k' N' : Int) (D' : Bool) (ft' : List UInt8) (B : Bool) : Bool := decide (k = k') && (B && (decide (N = N') && ((D == D') && decide (ft = ft'))))
set_option maxHeartbeats 4000000 in
def sameTS : zak
 | [.agg [.w (.int .u8 k),.w (.int .u8 qk),.str t,.w (.int .i64 i),.w (.int .i64 p),.w (.bool c),.w (.bool f),.w (.int .i64 o),.w (.int .i64 m),.w (.int .i64 w),.str g,.str mb,.w (.int .i64 n),.w (.int .i64 b1),.w (.int .i64 b2),.w (.int .i64 b3),.w (.int .i64 b4),.w (.int .i64 b5),.sg 6 xs fl,.w (.int .i64 N),.w (.bool D),.sb ft ff],.agg [.w (.int .u8 k'),.w (.int .u8 qk'),.str t',.w (.int .i64 i'),.w (.int .i64 p'),.w (.bool c'),.w (.bool f'),.w (.int .i64 o'),.w (.int .i64 m'),.w (.int .i64 w'),.str g',.str mb',.w (.int .i64 n'),.w (.int .i64 b1'),.w (.int .i64 b2'),.w (.int .i64 b3'),.w (.int .i64 b4'),.w (.int .i64 b5'),.sg 6 ys fm,.w (.int .i64 N'),.w (.bool D'),.sb ft' fg]],[] =>
     ⟨(xs.length ≤ 9223372036854775807 ∧ ∃ rs : List Rec,xs = rs.map rv) ∧ ys.length ≤ 9223372036854775807 ∧ ∃ qs : List Rec,ys = qs.map rv,.w (.bool (eqT k N D ft k' N' D' ft' (eqQ qk t i p c f o m w g mb n qk' t' i' p' c' f' o' m' w' g' mb' n' (zbw b1 b2 b3 b4 b5 (xs.map rrec) b1' b2' b3' b4' b5' (ys.map rrec))))),[]⟩
 | _,_ => zbd
def SsameT (f : FuncId) : Option zak :=
 match f with
 | 27 => some sreqS
 | 28 => some zdj
 | _ => none
theorem SsameT_ok : Fns Try.prog SsameT := by
 intro f s h
 unfold SsameT at h
 split at h
 · injection h with h; subst h; exact ⟨⟨_,Try.func27,by kernel_rfl,by kernel_rfl⟩,sreq22_sound⟩
 · injection h with h; subst h; exact ⟨⟨_,Try.func28,by kernel_rfl,by kernel_rfl⟩,eqB22_sound⟩
 · cases h
section
set_option maxRecDepth 100000
set_option maxHeartbeats 16000000 in
theorem sameT_sound : zaq Try.prog 10 sameTS := by
 refine zal (S := SsameT) (T := tyF) zau tyF_ok SsameT_ok Try.func10 (c := Try.f10.body.getD .skip) (by kernel_rfl) (by kernel_rfl) (fun xs pins hp _ => ?_)
 unfold sameTS at hp ⊢
 split at hp
 · rename_i k qk t i p c f o m w g mb n b1 b2 b3 b4 b5 xs fl N D ft ff k' qk' t' i' p' c' f' o' m' w' g' mb' n' b1' b2' b3' b4' b5' ys fm N' D' ft' fg _
   obtain ⟨⟨hL,rs,rfl⟩,hL',qs,rfl⟩ := hp
   refine ⟨by simp,?_⟩
   have hex : ∃ rr : List Rec,rs.map rv = rr.map rv := ⟨rs,rfl⟩
   have hex' : ∃ rr : List Rec,qs.map rv = rr.map rv := ⟨qs,rfl⟩
   obtain ⟨B,hB⟩ : ∃ B,eqQ qk t i p c f o m w g mb n qk' t' i' p' c' f' o' m' w' g' mb' n' (zbw b1 b2 b3 b4 b5 ((rs.map rv).map rrec) b1' b2' b3' b4' b5' ((qs.map rv).map rrec)) = B := ⟨_,rfl⟩
   unfold Try.f10
   cases hk : decide (k = k') <;> cases B <;> cases hN : decide (N = N') <;> cases hD : (D == D')
   all_goals
     simp only [go_sem,zaa,Nat.reduceAdd,Nat.reduceSub,Nat.reduceMul,Int.reduceToNat,reduceCtorEq,↓reduceIte,Int.reducePow,Nat.reducePow,Int.reduceMod,Nat.reduceLeDiff,Int.reduceLE,Int.reduceNe,Int.reduceEq,Nat.reduceEqDiff,Nat.reduceLT,Nat.reduceBEq,tyF,zek,ty,SsameT,sreqS,zdj,eqT,hL,hL',hex,hex',hB,hk,hN,hD,Bool.true_and,Bool.false_and]
     try exact zba 4 rfl
 · exact hp.elim
end
end Go.Proofs.Ytihbcgbmlecpbaa
namespace Go.Proofs.Ytihbcgbmlecpbaa
open Ax
def onlyT (k : Int) (qk : Int) (t : List UInt8) (i p : Int) (c f : Bool) (o m w : Int) (g mb : List UInt8) (n b1 b2 b3 b4 b5 : Int) (xs : List AV) (fl : Bool) (N : Int) (D : Bool) (ft : List UInt8) (ff : Bool) : AV :=
 .agg [.w (.int .u8 k),.w (.int .u8 (if k = 0 then qk else 0)),.str (if k = 0 then t else []),.w (.int .i64 (if k = 0 then i else 0)),.w (.int .i64 (if k = 0 then p else 0)),.w (.bool (if k = 0 then c else false)),.w (.bool (if k = 0 then f else false)),.w (.int .i64 (if k = 0 then o else 0)),.w (.int .i64 (if k = 0 then m else 0)),.w (.int .i64 (if k = 0 then w else 0)),.str (if k = 0 then g else []),.str (if k = 0 then mb else []),.w (.int .i64 (if k = 0 then n else 0)),.w (.int .i64 (if k = 0 then b1 else 0)),.w (.int .i64 (if k = 0 then b2 else 0)),.w (.int .i64 (if k = 0 then b3 else 0)),.w (.int .i64 (if k = 0 then b4 else 0)),.w (.int .i64 (if k = 0 then b5 else 0)),.sg 6 (if k = 0 then xs else []) (if k = 0 then fl else true),.w (.int .i64 (if k = 1 ∨ k = 2 ∨ k = 3 then N else 0)),.w (.bool (if k = 3 then D else false)),.sb (if k = 4 then ft else []) (if k = 4 then ff else true)]
def zdc : zak
 | [.agg [.w (.int .u8 k),.w (.int .u8 qk),.str t,.w (.int .i64 i),.w (.int .i64 p),.w (.bool c),.w (.bool f),.w (.int .i64 o),.w (.int .i64 m),.w (.int .i64 w),.str g,.str mb,.w (.int .i64 n),.w (.int .i64 b1),.w (.int .i64 b2),.w (.int .i64 b3),.w (.int .i64 b4),.w (.int .i64 b5),.sg 6 xs fl,.w (.int .i64 N),.w (.bool D),.sb ft ff]],[] => ⟨0 ≤ k ∧ k ≤ 5,onlyT k qk t i p c f o m w g mb n b1 b2 b3 b4 b5 xs fl N D ft ff,[]⟩
 | _,_ => zbd
def justPl : Plan := fun id => match id with
 | 9 => some [(2,5),(3,5)]
 | _ => none
theorem kind_le5 (k : Int) (h : 0 ≤ k ∧ k ≤ 5) : k = 0 ∨ k = 1 ∨ k = 2 ∨ k = 3 ∨ k = 4 ∨ k = 5 := by omega
section
set_option maxRecDepth 100000
set_option maxHeartbeats 16000000 in
theorem justT_sound : zaq Try.prog 20 zdc := by
 refine zev (S := noS) (T := ty) (pl := justPl) zau ty_ok zbs Try.func20 (c := Try.f20.body.getD .skip) (by kernel_rfl) (by kernel_rfl) (fun xs pins hp _ => ?_)
 unfold zdc at hp ⊢
 split at hp
 · rename_i k qk t i p c f o m w g mb n b1 b2 b3 b4 b5 xs fl N D ft ff _
   have hk : 0 ≤ k ∧ k ≤ 5 := hp
   refine ⟨by simp,?_⟩
   rcases kind_le5 k hk with rfl | rfl | rfl | rfl | rfl | rfl
   all_goals
     unfold Try.f20
     simp only [go_sem,zac,Nat.reduceAdd,Nat.reduceSub,Nat.reduceMul,Int.reduceToNat,reduceCtorEq,↓reduceIte,Int.reducePow,Nat.reducePow,Int.reduceMod,Nat.reduceLeDiff,Int.reduceLE,Int.reduceNe,Int.reduceEq,Nat.reduceEqDiff,Nat.reduceLT,Nat.reduceBEq,List.map_cons,List.map_nil,List.toList_toArray,Array.toList_append,Option.toArray_some,Option.toArray_none,Bool.and_self,ty,noS,justPl,fillS,Int.reduceEq,or_self,or_false,false_or,or_true,true_or,if_true,if_false]
     refine ⟨_,Weak.refl _,?_⟩
     simp only [go_sem,zac,Nat.reduceAdd,Nat.reduceSub,Nat.reduceMul,Int.reduceToNat,reduceCtorEq,↓reduceIte,Int.reducePow,Nat.reducePow,Int.reduceMod,Nat.reduceLeDiff,Int.reduceLE,Int.reduceNe,Int.reduceEq,Nat.reduceEqDiff,Nat.reduceLT,Nat.reduceBEq,List.map_cons,List.map_nil,List.toList_toArray,Array.toList_append,Option.toArray_some,Option.toArray_none,Bool.and_self,ty,onlyT,Int.reduceEq,or_self,or_false,false_or,or_true,true_or,if_true,if_false]
 · exact hp.elim
end
end Go.Proofs.Ytihbcgbmlecpbaa
namespace Go.Proofs.Ytihbcgbmlecpbaa
open Ax
def zcr (k : Int) (qk : Int) (t : List UInt8) (i p : Int) (c f : Bool) (o m w : Int) (g mb : List UInt8) (n b1 b2 b3 b4 b5 : Int) (rs : List Rec) (N : Int) (D : Bool) (ft : List UInt8) : Bool :=
 eqT k N D ft k (if k = 1 ∨ k = 2 ∨ k = 3 then N else 0) (if k = 3 then D else false) (if k = 4 then ft else []) (eqQ qk t i p c f o m w g mb n (if k = 0 then qk else 0) (if k = 0 then t else []) (if k = 0 then i else 0) (if k = 0 then p else 0) (if k = 0 then c else false) (if k = 0 then f else false) (if k = 0 then o else 0) (if k = 0 then m else 0) (if k = 0 then w else 0) (if k = 0 then g else []) (if k = 0 then mb else []) (if k = 0 then n else 0) (zbw b1 b2 b3 b4 b5 rs (if k = 0 then b1 else 0) (if k = 0 then b2 else 0) (if k = 0 then b3 else 0) (if k = 0 then b4 else 0) (if k = 0 then b5 else 0) (if k = 0 then rs else [])))
def chkT (k : Int) (qk : Int) (t : List UInt8) (i p : Int) (c f : Bool) (o m w : Int) (g mb : List UInt8) (n b1 b2 b3 b4 b5 : Int) (rs : List Rec) (N : Int) (D : Bool) (ft : List UInt8) : Int :=
 if 5 < k then 2 else if zcr k qk t i p c f o m w g mb n b1 b2 b3 b4 b5 rs N D ft = false then 4 else if 64 < ft.length then 5 else if k = 0 then chkQ qk t i p c f o m w g mb n b1 b2 b3 b4 b5 rs else 0
def layT (k : Int) (qk : Int) (t : List UInt8) (i p : Int) (c f : Bool) (o m w : Int) (g mb : List UInt8) (n b1 b2 b3 b4 b5 : Int) (rs : List Rec) (N : Int) (D : Bool) (ft : List UInt8) : List UInt8 :=
 UInt8.ofNat k.toNat :: (if k = 0 then layQ qk t i p c f o m w g mb n b1 b2 b3 b4 b5 rs else if k = 1 ∨ k = 2 then pq N else if k = 3 then pq N ++ [UInt8.ofNat (bitN D).toNat] else if k = 4 then ft else [])
def putT (k : Int) (qk : Int) (t : List UInt8) (i p : Int) (c f : Bool) (o m w : Int) (g mb : List UInt8) (n b1 b2 b3 b4 b5 : Int) (rs : List Rec) (N : Int) (D : Bool) (ft : List UInt8) : List UInt8 := if chkT k qk t i p c f o m w g mb n b1 b2 b3 b4 b5 rs N D ft = 0 then layT k qk t i p c f o m w g mb n b1 b2 b3 b4 b5 rs N D ft else []
theorem recs27 (k : Int) (rs : List Rec) (hL : (rs.map rv).length ≤ 9223372036854775807) : (if k = 0 then rs.map rv else []).length ≤ 9223372036854775807 ∧ (∃ qs : List Rec,(if k = 0 then rs.map rv else []) = qs.map rv) ∧ (if k = 0 then rs.map rv else []).map rrec = (if k = 0 then rs else []) := by
 by_cases h : k = 0
 · rw [if_pos h,if_pos h]; exact ⟨hL,⟨rs,rfl⟩,zag rs⟩
 · rw [if_neg h,if_neg h]; exact ⟨by simp,⟨[],rfl⟩,rfl⟩
theorem told27 (k : Int) (qk : Int) (t : List UInt8) (i p : Int) (c f : Bool) (o m w : Int) (g mb : List UInt8) (n b1 b2 b3 b4 b5 : Int) (rs : List Rec) (N : Int) (D : Bool) (ft : List UInt8) (fl ff : Bool) (hL : (rs.map rv).length ≤ 9223372036854775807) :
   ∃ (qk' : Int) (t' : List UInt8) (i' p' : Int) (c' f' : Bool) (o' m' w' : Int) (g' mb' : List UInt8) (n' b1' b2' b3' b4' b5' : Int) (ys : List AV) (fm : Bool) (N' : Int) (D' : Bool) (ft' : List UInt8) (fg : Bool),
     onlyT k qk t i p c f o m w g mb n b1 b2 b3 b4 b5 (rs.map rv) fl N D ft ff = .agg [.w (.int .u8 k),.w (.int .u8 qk'),.str t',.w (.int .i64 i'),.w (.int .i64 p'),.w (.bool c'),.w (.bool f'),.w (.int .i64 o'),.w (.int .i64 m'),.w (.int .i64 w'),.str g',.str mb',.w (.int .i64 n'),.w (.int .i64 b1'),.w (.int .i64 b2'),.w (.int .i64 b3'),.w (.int .i64 b4'),.w (.int .i64 b5'),.sg 6 ys fm,.w (.int .i64 N'),.w (.bool D'),.sb ft' fg] ∧
     ys.length ≤ 9223372036854775807 ∧ (∃ qs : List Rec,ys = qs.map rv) ∧ eqT k N D ft k N' D' ft' (eqQ qk t i p c f o m w g mb n qk' t' i' p' c' f' o' m' w' g' mb' n' (zbw b1 b2 b3 b4 b5 rs b1' b2' b3' b4' b5' (ys.map rrec))) = zcr k qk t i p c f o m w g mb n b1 b2 b3 b4 b5 rs N D ft := by
 obtain ⟨h1,h2,h3⟩ := recs27 k rs hL
 refine ⟨_,_,_,_,_,_,_,_,_,_,_,_,_,_,_,_,_,_,_,_,_,_,_,rfl,h1,h2,?_⟩
 rw [h3]; rfl
theorem chkT_big (k : Int) (qk : Int) (t : List UInt8) (i p : Int) (c f : Bool) (o m w : Int) (g mb : List UInt8) (n b1 b2 b3 b4 b5 : Int) (rs : List Rec) (N : Int) (D : Bool) (ft : List UInt8) (h : 5 < k) : chkT k qk t i p c f o m w g mb n b1 b2 b3 b4 b5 rs N D ft = 2 := if_pos h
theorem chkT_only (k : Int) (qk : Int) (t : List UInt8) (i p : Int) (c f : Bool) (o m w : Int) (g mb : List UInt8) (n b1 b2 b3 b4 b5 : Int) (rs : List Rec) (N : Int) (D : Bool) (ft : List UInt8) (h : ¬ 5 < k) (h2 : zcr k qk t i p c f o m w g mb n b1 b2 b3 b4 b5 rs N D ft = false) : chkT k qk t i p c f o m w g mb n b1 b2 b3 b4 b5 rs N D ft = 4 := by unfold chkT; rw [if_neg h,if_pos h2]
theorem chkT_long (k : Int) (qk : Int) (t : List UInt8) (i p : Int) (c f : Bool) (o m w : Int) (g mb : List UInt8) (n b1 b2 b3 b4 b5 : Int) (rs : List Rec) (N : Int) (D : Bool) (ft : List UInt8) (h : ¬ 5 < k) (h2 : zcr k qk t i p c f o m w g mb n b1 b2 b3 b4 b5 rs N D ft = true) (h3 : 64 < ft.length) : chkT k qk t i p c f o m w g mb n b1 b2 b3 b4 b5 rs N D ft = 5 := by unfold chkT; rw [if_neg h,if_neg (by rw [h2]; decide),if_pos h3]
theorem chkT_rest (k : Int) (qk : Int) (t : List UInt8) (i p : Int) (c f : Bool) (o m w : Int) (g mb : List UInt8) (n b1 b2 b3 b4 b5 : Int) (rs : List Rec) (N : Int) (D : Bool) (ft : List UInt8) (h : ¬ 5 < k) (h2 : zcr k qk t i p c f o m w g mb n b1 b2 b3 b4 b5 rs N D ft = true) (h3 : ¬ 64 < ft.length) : chkT k qk t i p c f o m w g mb n b1 b2 b3 b4 b5 rs N D ft = if k = 0 then chkQ qk t i p c f o m w g mb n b1 b2 b3 b4 b5 rs else 0 := by unfold chkT; rw [if_neg h,if_neg (by rw [h2]; decide),if_neg h3]
theorem layQ_len (k : Int) (t : List UInt8) (i p : Int) (c f : Bool) (o m w : Int) (g mb : List UInt8) (n b1 b2 b3 b4 b5 : Int) (rs : List Rec) (lq : lenQ t g mb) (iq : intQ i p o m w n) : (layQ k t i p c f o m w g mb n b1 b2 b3 b4 b5 rs).length ≤ 6000100 := by
 have h1 := flat_le22 (fun x : UInt8 => zbz (x.toNat : Int) t i p c f o m w g mb n b1 b2 b3 b4 b5 rs) 1000010 (fun x => piece_len _ t i p c f o m w g mb n b1 b2 b3 b4 b5 rs lq iq) (zcq k)
 have h2 := uses_len k
 unfold layQ
 rw [List.length_cons]; omega
def flagTO : zak
 | [.w (.bool y),.rf 0 1 0 0],[.g 1 [.ms 1 1 0 n],.b bs] => ⟨n = bs.length ∧ 0 < n ∧ n ≤ 4000000,.tup [],[.g 1 [.ms 2 1 0 (n + 1)],gone,.b (bs ++ [UInt8.ofNat (bitN y).toNat])]⟩
 | _,_ => zbd
section
set_option maxRecDepth 100000
theorem flagT_sound : SoundO Try.prog 21 flagTO := by
 refine fn_soundO (S := noS) (SO := noO) (T := ty) zau ty_ok zbs noO_ok Try.func21 (c := Try.f21.body.getD .skip) (by kernel_rfl) (fun xs pins hp => ?_)
 unfold flagTO at hp ⊢
 split at hp
 · rename_i y n bs
   obtain ⟨rfl,hpos,hle⟩ := hp
   have d1 : decide (0 < bs.length) = true := decide_eq_true hpos
   refine ⟨by simp,fun _ => .std,by kernel_rfl,?_⟩
   unfold Try.f21
   cases y
   all_goals simp only [go_sem,coe,zab,Nat.reduceAdd,Nat.reduceSub,Nat.reduceMul,Int.reduceToNat,reduceCtorEq,↓reduceIte,Int.reducePow,Nat.reducePow,Int.reduceMod,Nat.reduceLeDiff,Int.reduceLE,Int.reduceNe,Int.reduceEq,Nat.reduceEqDiff,Nat.reduceLT,Nat.reduceBEq,List.map_cons,List.map_nil,List.toList_toArray,Array.toList_append,Option.toArray_some,Option.toArray_none,Bool.and_self,ty,noS,bitN,hpos,d1,Bool.false_eq_true,if_true,if_false]
   all_goals repeat (refine And.intro (by first | omega | (unfold top; omega) | decide) ?_)
   all_goals refine ⟨_,Weak.refl _,?_⟩
   all_goals simp only [go_sem,coe,zab,Nat.reduceAdd,Nat.reduceSub,Nat.reduceMul,Int.reduceToNat,reduceCtorEq,↓reduceIte,Int.reducePow,Nat.reducePow,Int.reduceMod,Nat.reduceLeDiff,Int.reduceLE,Int.reduceNe,Int.reduceEq,Nat.reduceEqDiff,Nat.reduceLT,Nat.reduceBEq,List.map_cons,List.map_nil,List.toList_toArray,Array.toList_append,Option.toArray_some,Option.toArray_none,Bool.and_self,ty,hpos,d1]
   all_goals try decide
 · exact hp.elim
end
theorem zbc (k : Int) (qk : Int) (t : List UInt8) (i p : Int) (c f : Bool) (o m w : Int) (g mb : List UInt8) (n b1 b2 b3 b4 b5 : Int) (xs : List AV) (fl : Bool) (N : Int) (D : Bool) (ft : List UInt8) (ff : Bool) (k' : Int) (qk' : Int) (t' : List UInt8) (i' p' : Int) (c' f' : Bool) (o' m' w' : Int) (g' mb' : List UInt8) (n' b1' b2' b3' b4' b5' : Int) (ys : List AV) (fm : Bool) (N' : Int) (D' : Bool) (ft' : List UInt8) (fg : Bool) :
   sameTS [.agg [.w (.int .u8 k),.w (.int .u8 qk),.str t,.w (.int .i64 i),.w (.int .i64 p),.w (.bool c),.w (.bool f),.w (.int .i64 o),.w (.int .i64 m),.w (.int .i64 w),.str g,.str mb,.w (.int .i64 n),.w (.int .i64 b1),.w (.int .i64 b2),.w (.int .i64 b3),.w (.int .i64 b4),.w (.int .i64 b5),.sg 6 xs fl,.w (.int .i64 N),.w (.bool D),.sb ft ff],.agg [.w (.int .u8 k'),.w (.int .u8 qk'),.str t',.w (.int .i64 i'),.w (.int .i64 p'),.w (.bool c'),.w (.bool f'),.w (.int .i64 o'),.w (.int .i64 m'),.w (.int .i64 w'),.str g',.str mb',.w (.int .i64 n'),.w (.int .i64 b1'),.w (.int .i64 b2'),.w (.int .i64 b3'),.w (.int .i64 b4'),.w (.int .i64 b5'),.sg 6 ys fm,.w (.int .i64 N'),.w (.bool D'),.sb ft' fg]] [] =
     ⟨(xs.length ≤ 9223372036854775807 ∧ ∃ rs : List Rec,xs = rs.map rv) ∧ ys.length ≤ 9223372036854775807 ∧ ∃ qs : List Rec,ys = qs.map rv,.w (.bool (eqT k N D ft k' N' D' ft' (eqQ qk t i p c f o m w g mb n qk' t' i' p' c' f' o' m' w' g' mb' n' (zbw b1 b2 b3 b4 b5 (xs.map rrec) b1' b2' b3' b4' b5' (ys.map rrec))))),[]⟩ := rfl
def zcs : zak
 | [.agg [.w (.int .u8 k),.w (.int .u8 qk),.str t,.w (.int .i64 i),.w (.int .i64 p),.w (.bool c),.w (.bool f),.w (.int .i64 o),.w (.int .i64 m),.w (.int .i64 w),.str g,.str mb,.w (.int .i64 n),.w (.int .i64 b1),.w (.int .i64 b2),.w (.int .i64 b3),.w (.int .i64 b4),.w (.int .i64 b5),.sg 6 xs fl,.w (.int .i64 N),.w (.bool D),.sb ft ff]],[] => ⟨(0 ≤ k ∧ k < 256) ∧ (0 ≤ qk ∧ qk < 256) ∧ lenQ t g mb ∧ intQ i p o m w n ∧ okI N ∧ ft.length ≤ 1000000 ∧ xs.length ≤ 40 ∧ ∃ rs : List Rec,xs = rs.map rv,
     .tup [.ms 0 1 0 (putT k qk t i p c f o m w g mb n b1 b2 b3 b4 b5 (xs.map rrec) N D ft).length,.w (.int .i64 (chkT k qk t i p c f o m w g mb n b1 b2 b3 b4 b5 (xs.map rrec) N D ft))],[.b (putT k qk t i p c f o m w g mb n b1 b2 b3 b4 b5 (xs.map rrec) N D ft)]⟩
 | _,_ => zbd
def SputT (f : FuncId) : Option zak :=
 match f with
 | 20 => some zdc
 | 10 => some sameTS
 | 22 => some putQS
 | 23 => some putS
 | _ => none
theorem SputT_ok : Fns Try.prog SputT := by
 intro f s h
 unfold SputT at h
 split at h
 · injection h with h; subst h; exact ⟨⟨_,Try.func20,by kernel_rfl,by kernel_rfl⟩,justT_sound⟩
 · injection h with h; subst h; exact ⟨⟨_,Try.func10,by kernel_rfl,by kernel_rfl⟩,sameT_sound⟩
 · injection h with h; subst h; exact ⟨⟨_,Try.func22,by kernel_rfl,by kernel_rfl⟩,putQ_sound⟩
 · injection h with h; subst h; exact ⟨⟨_,Try.func23,by kernel_rfl,by kernel_rfl⟩,put_sound⟩
 · cases h
def OputT (f : FuncId) : Option zak :=
 match f with
 | 21 => some flagTO
 | _ => none
theorem OputT_ok : FnsO Try.prog OputT := by
 intro f s h
 unfold OputT at h
 split at h
 · injection h with h; subst h; exact ⟨⟨_,Try.func21,by kernel_rfl,by kernel_rfl⟩,flagT_sound⟩
 · cases h
def putTPl : XPlan := fun id => match id with
 | 3 => .prs [(0,2)]
 | 17 => .prs [(0,3)]
 | 19 => .prs [(0,3)]
 | 20 => .opn [] 3
 | _ => .std
section
set_option maxRecDepth 100000
set_option maxHeartbeats 16000000 in
theorem putT_sound : zaq Try.prog 8 zcs := by
 refine zbx (S := SputT) (SO := OputT) (T := ty) zau ty_ok SputT_ok OputT_ok Try.func8 (c := Try.f8.body.getD .skip) (by kernel_rfl) (fun xs pins hp _ => ?_)
 unfold zcs at hp ⊢
 split at hp
 · rename_i k qk t i p c f o m w g mb n b1 b2 b3 b4 b5 xs fl N D ft ff _
   obtain ⟨⟨hk0,hk1⟩,⟨hq0,hq1⟩,lq,iq,hN,hft,h40,rs,rfl⟩ := hp
   rw [zag]
   have hL : (rs.map rv).length ≤ 9223372036854775807 := by omega
   obtain ⟨qk',t',i',p',c',f',o',m',w',g',mb',n',b1',b2',b3',b4',b5',ys,fm,N',D',ft',fg,hO,hY1,hY2,hS⟩ := told27 k qk t i p c f o m w g mb n b1 b2 b3 b4 b5 rs N D ft fl ff hL
   have hmr := zag rs
   have hex : ∃ qs : List Rec,rs.map rv = qs.map rv := ⟨rs,rfl⟩
   have tk : ∀ l : List UInt8,List.take l.length l = l := fun l => List.take_length
   have hpl := zcf N hN
   have hql := layQ_len qk t i p c f o m w g mb n b1 b2 b3 b4 b5 rs lq iq
   obtain ⟨n1,n2⟩ := hN
   refine ⟨by simp,putTPl,by kernel_rfl,?_⟩
   unfold Try.f8
   by_cases hk : 5 < k
   · have hC := chkT_big k qk t i p c f o m w g mb n b1 b2 b3 b4 b5 rs N D ft hk
     have hB : putT k qk t i p c f o m w g mb n b1 b2 b3 b4 b5 rs N D ft = [] := if_neg (by rw [hC]; decide)
     have d1 : decide ((5 : Int) < k) = true := decide_eq_true hk
     rw [hB,hC]
     simp only [go_sem,zab,Nat.reduceAdd,Nat.reduceSub,Nat.reduceMul,Int.reduceToNat,reduceCtorEq,↓reduceIte,Int.reducePow,Nat.reducePow,Int.reduceMod,Nat.reduceLeDiff,Int.reduceLE,Int.reduceNe,Int.reduceEq,Nat.reduceEqDiff,Nat.reduceLT,Nat.reduceBEq,List.map_cons,List.map_nil,List.toList_toArray,Array.toList_append,Option.toArray_some,Option.toArray_none,Bool.and_self,ty,SputT,OputT,putTPl,d1]
     exact zat 2 3 (by decide) rfl rfl rfl rfl
   have d1 : decide ((5 : Int) < k) = false := decide_eq_false hk
   have hk5 : k ≤ 5 := by omega
   cases hs : zcr k qk t i p c f o m w g mb n b1 b2 b3 b4 b5 rs N D ft with
   | false =>
     have hC := chkT_only k qk t i p c f o m w g mb n b1 b2 b3 b4 b5 rs N D ft hk hs
     have hB : putT k qk t i p c f o m w g mb n b1 b2 b3 b4 b5 rs N D ft = [] := if_neg (by rw [hC]; decide)
     rw [hs] at hS
     rw [hB,hC]
     simp only [go_sem,zab,Nat.reduceAdd,Nat.reduceSub,Nat.reduceMul,Int.reduceToNat,reduceCtorEq,↓reduceIte,Int.reducePow,Nat.reducePow,Int.reduceMod,Nat.reduceLeDiff,Int.reduceLE,Int.reduceNe,Int.reduceEq,Nat.reduceEqDiff,Nat.reduceLT,Nat.reduceBEq,List.map_cons,List.map_nil,List.toList_toArray,Array.toList_append,Option.toArray_some,Option.toArray_none,Bool.and_self,ty,SputT,OputT,putTPl,zdc,zbc,d1,hk0,hk5,hO,hL,hex,hmr,hY1,hY2,hS]
     exact zat 2 3 (by decide) rfl rfl rfl rfl
   | true =>
     rw [hs] at hS
     by_cases hf : 64 < ft.length
     · have hC := chkT_long k qk t i p c f o m w g mb n b1 b2 b3 b4 b5 rs N D ft hk hs hf
       have hB : putT k qk t i p c f o m w g mb n b1 b2 b3 b4 b5 rs N D ft = [] := if_neg (by rw [hC]; decide)
       have d2 : decide ((64 : Int) < ft.length) = true := decide_eq_true (by omega)
       rw [hB,hC]
       simp only [go_sem,zab,Nat.reduceAdd,Nat.reduceSub,Nat.reduceMul,Int.reduceToNat,reduceCtorEq,↓reduceIte,Int.reducePow,Nat.reducePow,Int.reduceMod,Nat.reduceLeDiff,Int.reduceLE,Int.reduceNe,Int.reduceEq,Nat.reduceEqDiff,Nat.reduceLT,Nat.reduceBEq,List.map_cons,List.map_nil,List.toList_toArray,Array.toList_append,Option.toArray_some,Option.toArray_none,Bool.and_self,ty,SputT,OputT,putTPl,zdc,zbc,d1,d2,hk0,hk5,hO,hL,hex,hmr,hY1,hY2,hS]
       exact zat 2 3 (by decide) rfl rfl rfl rfl
     have d2 : decide ((64 : Int) < ft.length) = false := decide_eq_false (by omega)
     have hR := chkT_rest k qk t i p c f o m w g mb n b1 b2 b3 b4 b5 rs N D ft hk hs hf
     rcases kind_le5 k ⟨hk0,hk5⟩ with rfl | rfl | rfl | rfl | rfl | rfl
     · by_cases hq : chkQ qk t i p c f o m w g mb n b1 b2 b3 b4 b5 rs = 0
       · have hC : chkT 0 qk t i p c f o m w g mb n b1 b2 b3 b4 b5 rs N D ft = 0 := hR.trans hq
         have hB : putT 0 qk t i p c f o m w g mb n b1 b2 b3 b4 b5 rs N D ft = UInt8.ofNat 0 :: putQ qk t i p c f o m w g mb n b1 b2 b3 b4 b5 rs := by
           unfold putT; rw [if_pos hC]; unfold putQ; rw [if_pos hq]; rfl
         have hql' : (putQ qk t i p c f o m w g mb n b1 b2 b3 b4 b5 rs).length ≤ 6000100 := by unfold putQ; rw [if_pos hq]; exact hql
         have d3 : decide (chkQ qk t i p c f o m w g mb n b1 b2 b3 b4 b5 rs = 0) = true := decide_eq_true hq
         rw [hB,hC]
         simp only [go_sem,zab,Nat.reduceAdd,Nat.reduceSub,Nat.reduceMul,Int.reduceToNat,reduceCtorEq,↓reduceIte,Int.reducePow,Nat.reducePow,Int.reduceMod,Nat.reduceLeDiff,Int.reduceLE,Int.reduceNe,Int.reduceEq,Nat.reduceEqDiff,Nat.reduceLT,Nat.reduceBEq,List.map_cons,List.map_nil,List.toList_toArray,Array.toList_append,Option.toArray_some,Option.toArray_none,Bool.and_self,ty,SputT,OputT,putTPl,zdc,zbc,putQS,d1,d2,d3,hO,hL,h40,hex,hmr,hY1,hY2,hS,lq,iq,hq0,hq1,tk,Int.reduceEq,Int.reduceLT,Int.reduceLE,Nat.reduceEqDiff,or_self,or_false,false_or,or_true,true_or,if_true,if_false]
         repeat (refine And.intro (by first | omega | (unfold top; omega) | (unfold top; simp only [List.length_cons,List.length_nil]; omega) | decide) ?_)
         exact zas 2 3 (by decide) rfl rfl rfl (by simp; try omega) (by simp) rfl
       · have hC : chkT 0 qk t i p c f o m w g mb n b1 b2 b3 b4 b5 rs N D ft = chkQ qk t i p c f o m w g mb n b1 b2 b3 b4 b5 rs := hR
         have hB : putT 0 qk t i p c f o m w g mb n b1 b2 b3 b4 b5 rs N D ft = [] := if_neg (by rw [hC]; exact hq)
         have d3 : decide (chkQ qk t i p c f o m w g mb n b1 b2 b3 b4 b5 rs = 0) = false := decide_eq_false hq
         rw [hB,hC]
         simp only [go_sem,zab,Nat.reduceAdd,Nat.reduceSub,Nat.reduceMul,Int.reduceToNat,reduceCtorEq,↓reduceIte,Int.reducePow,Nat.reducePow,Int.reduceMod,Nat.reduceLeDiff,Int.reduceLE,Int.reduceNe,Int.reduceEq,Nat.reduceEqDiff,Nat.reduceLT,Nat.reduceBEq,List.map_cons,List.map_nil,List.toList_toArray,Array.toList_append,Option.toArray_some,Option.toArray_none,Bool.and_self,ty,SputT,OputT,putTPl,zdc,zbc,putQS,d1,d2,d3,hO,hL,h40,hex,hmr,hY1,hY2,hS,lq,iq,hq0,hq1,tk,Int.reduceEq,Int.reduceLT,Int.reduceLE,Nat.reduceEqDiff,or_self,or_false,false_or,or_true,true_or,if_true,if_false]
         exact zat 2 3 (by decide) rfl rfl rfl rfl
     · have hC : chkT 1 qk t i p c f o m w g mb n b1 b2 b3 b4 b5 rs N D ft = 0 := hR
       have hB : putT 1 qk t i p c f o m w g mb n b1 b2 b3 b4 b5 rs N D ft = UInt8.ofNat 1 :: pq N := by
         unfold putT; rw [if_pos hC]; rfl
       rw [hB,hC]
       simp only [go_sem,zab,Nat.reduceAdd,Nat.reduceSub,Nat.reduceMul,Int.reduceToNat,reduceCtorEq,↓reduceIte,Int.reducePow,Nat.reducePow,Int.reduceMod,Nat.reduceLeDiff,Int.reduceLE,Int.reduceNe,Int.reduceEq,Nat.reduceEqDiff,Nat.reduceLT,Nat.reduceBEq,List.map_cons,List.map_nil,List.toList_toArray,Array.toList_append,Option.toArray_some,Option.toArray_none,Bool.and_self,ty,SputT,OputT,putTPl,zdc,zbc,putS,flagTO,zbr,d1,d2,hO,hL,h40,hex,hmr,hY1,hY2,hS,n1,n2,tk,Int.reduceEq,Int.reduceLT,Int.reduceLE,Nat.reduceEqDiff,or_self,or_false,false_or,or_true,true_or,if_true,if_false]
       repeat (refine And.intro (by first | omega | (unfold top; omega) | (unfold top; simp only [List.length_cons,List.length_nil,List.length_append]; omega) | decide) ?_)
       exact zas 2 3 (by decide) rfl rfl rfl (by simp; try omega) (by simp) rfl
     · have hC : chkT 2 qk t i p c f o m w g mb n b1 b2 b3 b4 b5 rs N D ft = 0 := hR
       have hB : putT 2 qk t i p c f o m w g mb n b1 b2 b3 b4 b5 rs N D ft = UInt8.ofNat 2 :: pq N := by
         unfold putT; rw [if_pos hC]; rfl
       rw [hB,hC]
       simp only [go_sem,zab,Nat.reduceAdd,Nat.reduceSub,Nat.reduceMul,Int.reduceToNat,reduceCtorEq,↓reduceIte,Int.reducePow,Nat.reducePow,Int.reduceMod,Nat.reduceLeDiff,Int.reduceLE,Int.reduceNe,Int.reduceEq,Nat.reduceEqDiff,Nat.reduceLT,Nat.reduceBEq,List.map_cons,List.map_nil,List.toList_toArray,Array.toList_append,Option.toArray_some,Option.toArray_none,Bool.and_self,ty,SputT,OputT,putTPl,zdc,zbc,putS,flagTO,zbr,d1,d2,hO,hL,h40,hex,hmr,hY1,hY2,hS,n1,n2,tk,Int.reduceEq,Int.reduceLT,Int.reduceLE,Nat.reduceEqDiff,or_self,or_false,false_or,or_true,true_or,if_true,if_false]
       repeat (refine And.intro (by first | omega | (unfold top; omega) | (unfold top; simp only [List.length_cons,List.length_nil,List.length_append]; omega) | decide) ?_)
       exact zas 2 3 (by decide) rfl rfl rfl (by simp; try omega) (by simp) rfl
     · have hC : chkT 3 qk t i p c f o m w g mb n b1 b2 b3 b4 b5 rs N D ft = 0 := hR
       have hB : putT 3 qk t i p c f o m w g mb n b1 b2 b3 b4 b5 rs N D ft = UInt8.ofNat 3 :: (pq N ++ [UInt8.ofNat (bitN D).toNat]) := by
         unfold putT; rw [if_pos hC]; rfl
       have d3 : decide (0 < 1 + (pq N).length) = true := decide_eq_true (by omega)
       have d4 : 0 < 1 + (pq N).length := by omega
       rw [hB,hC]
       simp only [go_sem,zab,Nat.reduceAdd,Nat.reduceSub,Nat.reduceMul,Int.reduceToNat,reduceCtorEq,↓reduceIte,Int.reducePow,Nat.reducePow,Int.reduceMod,Nat.reduceLeDiff,Int.reduceLE,Int.reduceNe,Int.reduceEq,Nat.reduceEqDiff,Nat.reduceLT,Nat.reduceBEq,List.map_cons,List.map_nil,List.toList_toArray,Array.toList_append,Option.toArray_some,Option.toArray_none,Bool.and_self,ty,SputT,OputT,putTPl,zdc,zbc,putS,flagTO,zbr,d1,d2,d3,d4,hO,hL,h40,hex,hmr,hY1,hY2,hS,n1,n2,tk,Int.reduceEq,Int.reduceLT,Int.reduceLE,Nat.reduceEqDiff,or_self,or_false,false_or,or_true,true_or,if_true,if_false]
       repeat (refine And.intro (by first | omega | (unfold top; omega) | (unfold top; simp only [List.length_cons,List.length_nil,List.length_append]; omega) | decide) ?_)
       try rw [show (pq N).length + 1 + 1 = (UInt8.ofNat 3 :: (pq N ++ [UInt8.ofNat (bitN D).toNat])).length from by simp]
       exact zas 2 3 (by decide) rfl rfl rfl (by simp; try omega) (by simp) rfl
     · have hC : chkT 4 qk t i p c f o m w g mb n b1 b2 b3 b4 b5 rs N D ft = 0 := hR
       have hB : putT 4 qk t i p c f o m w g mb n b1 b2 b3 b4 b5 rs N D ft = UInt8.ofNat 4 :: ft := by
         unfold putT; rw [if_pos hC]; rfl
       rw [hB,hC]
       simp only [go_sem,zab,Nat.reduceAdd,Nat.reduceSub,Nat.reduceMul,Int.reduceToNat,reduceCtorEq,↓reduceIte,Int.reducePow,Nat.reducePow,Int.reduceMod,Nat.reduceLeDiff,Int.reduceLE,Int.reduceNe,Int.reduceEq,Nat.reduceEqDiff,Nat.reduceLT,Nat.reduceBEq,List.map_cons,List.map_nil,List.toList_toArray,Array.toList_append,Option.toArray_some,Option.toArray_none,Bool.and_self,ty,SputT,OputT,putTPl,zdc,zbc,putS,flagTO,zbr,d1,d2,hO,hL,h40,hex,hmr,hY1,hY2,hS,n1,n2,tk,Int.reduceEq,Int.reduceLT,Int.reduceLE,Nat.reduceEqDiff,or_self,or_false,false_or,or_true,true_or,if_true,if_false]
       repeat (refine And.intro (by first | omega | (unfold top; omega) | (unfold top; simp only [List.length_cons,List.length_nil,List.length_append]; omega) | decide) ?_)
       exact zas 2 3 (by decide) rfl rfl rfl (by simp; try omega) (by simp) rfl
     · have hC : chkT 5 qk t i p c f o m w g mb n b1 b2 b3 b4 b5 rs N D ft = 0 := hR
       have hB : putT 5 qk t i p c f o m w g mb n b1 b2 b3 b4 b5 rs N D ft = UInt8.ofNat 5 :: [] := by
         unfold putT; rw [if_pos hC]; rfl
       rw [hB,hC]
       simp only [go_sem,zab,Nat.reduceAdd,Nat.reduceSub,Nat.reduceMul,Int.reduceToNat,reduceCtorEq,↓reduceIte,Int.reducePow,Nat.reducePow,Int.reduceMod,Nat.reduceLeDiff,Int.reduceLE,Int.reduceNe,Int.reduceEq,Nat.reduceEqDiff,Nat.reduceLT,Nat.reduceBEq,List.map_cons,List.map_nil,List.toList_toArray,Array.toList_append,Option.toArray_some,Option.toArray_none,Bool.and_self,ty,SputT,OputT,putTPl,zdc,zbc,putS,flagTO,zbr,d1,d2,hO,hL,h40,hex,hmr,hY1,hY2,hS,n1,n2,tk,Int.reduceEq,Int.reduceLT,Int.reduceLE,Nat.reduceEqDiff,or_self,or_false,false_or,or_true,true_or,if_true,if_false]
       repeat (refine And.intro (by first | omega | (unfold top; omega) | (unfold top; simp only [List.length_cons,List.length_nil,List.length_append]; omega) | decide) ?_)
       exact zas 2 3 (by decide) rfl rfl rfl (by simp; try omega) (by simp) rfl
 · exact hp.elim
end
end Go.Proofs.Ytihbcgbmlecpbaa
namespace Go.Proofs.Ytihbcgbmlecpbaa
open Ax
structure St where
 k : Int
 q : Rq
 N : Int
 D : Bool
 ft : List UInt8
def stP (p : St × Bool × Bool) : AV := .agg [.w (.int .u8 p.1.k),.w (.int .u8 p.1.q.k),.str p.1.q.t,.w (.int .i64 p.1.q.i),.w (.int .i64 p.1.q.p),.w (.bool p.1.q.c),.w (.bool p.1.q.f),.w (.int .i64 p.1.q.o),.w (.int .i64 p.1.q.m),.w (.int .i64 p.1.q.w),.str p.1.q.g,.str p.1.q.mb,.w (.int .i64 p.1.q.n),.w (.int .i64 p.1.q.b.b),.w (.int .i64 p.1.q.b.c),.w (.int .i64 p.1.q.b.p),.w (.int .i64 p.1.q.b.e),.w (.int .i64 p.1.q.b.s),.sg 6 (p.1.q.b.rs.map rv) p.2.1,.w (.int .i64 p.1.N),.w (.bool p.1.D),.sb p.1.ft p.2.2]
def zSt : St := ⟨0,⟨0,[],0,0,false,false,0,0,0,[],[],0,zB⟩,0,false,[]⟩
def ust : AV → St
 | .agg [.w (.int .u8 k),.w (.int .u8 qk),.str t,.w (.int .i64 i),.w (.int .i64 p),.w (.bool c),.w (.bool f),.w (.int .i64 o),.w (.int .i64 m),.w (.int .i64 w),.str g,.str mb,.w (.int .i64 n),.w (.int .i64 b1),.w (.int .i64 b2),.w (.int .i64 b3),.w (.int .i64 b4),.w (.int .i64 b5),.sg 6 xs fl,.w (.int .i64 N),.w (.bool D),.sb ft ff] => ⟨k,⟨qk,t,i,p,c,f,o,m,w,g,mb,n,⟨b1,b2,b3,b4,b5,xs.map rrec⟩⟩,N,D,ft⟩
 | _ => zSt
theorem ust_stP (p : St × Bool × Bool) : ust (stP p) = p.1 := by
 obtain ⟨⟨k,⟨qk,t,i,p,c,f,o,m,w,g,mb,n,⟨b1,b2,b3,b4,b5,rs⟩⟩,N,D,ft⟩,f1,f2⟩ := p
 simp only [stP,ust,zag]
theorem map_ust (es : List (St × Bool × Bool)) : (es.map stP).map ust = es.map Prod.fst := by
 rw [List.map_map]
 exact List.map_congr_left fun p _ => ust_stP p
theorem slot_stP : ∀ (es : List (St × Bool × Bool)) (i : Nat) (h : i < es.length),slot (es.map stP) i = stP es[i]
 | p :: ps,0,h => rfl
 | p :: ps,i + 1,h => by
   simp only [List.map_cons,slot,List.getElem_cons_succ]
   exact slot_stP ps i (by simpa using h)
def chkS (s : St) : Int := chkT s.k s.q.k s.q.t s.q.i s.q.p s.q.c s.q.f s.q.o s.q.m s.q.w s.q.g s.q.mb s.q.n s.q.b.b s.q.b.c s.q.b.p s.q.b.e s.q.b.s s.q.b.rs s.N s.D s.ft
def layS (s : St) : List UInt8 := layT s.k s.q.k s.q.t s.q.i s.q.p s.q.c s.q.f s.q.o s.q.m s.q.w s.q.g s.q.mb s.q.n s.q.b.b s.q.b.c s.q.b.p s.q.b.e s.q.b.s s.q.b.rs s.N s.D s.ft
def zfc (s : St) : List UInt8 := putT s.k s.q.k s.q.t s.q.i s.q.p s.q.c s.q.f s.q.o s.q.m s.q.w s.q.g s.q.mb s.q.n s.q.b.b s.q.b.c s.q.b.p s.q.b.e s.q.b.s s.q.b.rs s.N s.D s.ft
def fitS (s : St) : Prop := (0 ≤ s.k ∧ s.k < 256) ∧ fitR s.q ∧ okI s.N ∧ s.ft.length ≤ 1000000
def errP : List St → Int
 | [] => 0
 | s :: r => if chkS s = 0 then errP r else chkS s
def layP (l : List St) : List UInt8 := l.flatMap fun s => zaw (layS s)
def chkP (l : List St) : Int := if 1000 < l.length then 5 else if errP l ≠ 0 then errP l else if 65536 < (layP l).length then 5 else 0
def putP (l : List St) : List UInt8 := if chkP l = 0 then layP l else []
theorem putS_lay {s : St} (h : chkS s = 0) : zfc s = layS s := if_pos h
set_option maxHeartbeats 8000000 in
theorem piece_small (x : Int) (t : List UInt8) (i p : Int) (c f : Bool) (o m w : Int) (g mb : List UInt8) (n b1 b2 b3 b4 b5 : Int) (rs : List Rec) (h : ¬ zeo t g mb) (hi : intQ i p o m w n) : (zbz x t i p c f o m w g mb n b1 b2 b3 b4 b5 rs).length ≤ 8202 := by
 unfold zeo at h
 obtain ⟨i1,i2,i3,i4,i5,i6⟩ := hi
 have h1 := zav t (by omega)
 have h2 := zav g (by omega)
 have h3 := zav mb (by omega)
 have h4 := zfs b1 b2 b3 b4 b5 rs
 have h5 := zav (batB b1 b2 b3 b4 b5 rs) (by omega)
 have j1 := zcf i i1
 have j2 := zcf p i2
 have j3 := zcf o i3
 have j4 := zcf m i4
 have j5 := zcf w i5
 have j6 := zcf n i6
 have k1 : ([UInt8.ofNat (bitN c).toNat]).length ≤ 8202 := by simp
 have k2 : ([UInt8.ofNat (bitN f).toNat]).length ≤ 8202 := by simp
 clear i1 i2 i3 i4 i5 i6
 have h1 : (zaw t).length ≤ 8202 := by omega
 have h2 : (zaw g).length ≤ 8202 := by omega
 have h3 : (zaw mb).length ≤ 8202 := by omega
 have h5 : (zaw (batB b1 b2 b3 b4 b5 rs)).length ≤ 8202 := by omega
 unfold zbz
 repeat' split
 all_goals first | exact k1 | exact k2 | exact h1 | exact h2 | exact h3 | exact h5 | exact Nat.le_trans j1 (by decide) | exact Nat.le_trans j2 (by decide) | exact Nat.le_trans j3 (by decide) | exact Nat.le_trans j4 (by decide) | exact Nat.le_trans j5 (by decide) | exact Nat.le_trans j6 (by decide)
theorem layR_small {q : Rq} (h : chkR q = 0) (hf : fitR q) : (layR q).length ≤ 50000 := by
 obtain ⟨_,_,hl,_⟩ := chkQ_ok _ h
 have h1 := flat_le22 (fun x : UInt8 => zbz (x.toNat : Int) q.t q.i q.p q.c q.f q.o q.m q.w q.g q.mb q.n q.b.b q.b.c q.b.p q.b.e q.b.s q.b.rs) 8202 (fun x => piece_small _ _ _ _ _ _ _ _ _ _ _ _ _ _ _ _ _ _ hl hf.2.2.1) (zcq q.k)
 have h2 := uses_len q.k
 unfold layR layQ
 rw [List.length_cons]; omega
theorem chkS_ok {s : St} (h : chkS s = 0) : ¬ 5 < s.k ∧ zcr s.k s.q.k s.q.t s.q.i s.q.p s.q.c s.q.f s.q.o s.q.m s.q.w s.q.g s.q.mb s.q.n s.q.b.b s.q.b.c s.q.b.p s.q.b.e s.q.b.s s.q.b.rs s.N s.D s.ft = true ∧ ¬ 64 < s.ft.length ∧ (s.k = 0 → chkR s.q = 0) := by
 unfold chkS at h
 by_cases h1 : 5 < s.k
 · rw [chkT_big s.k s.q.k s.q.t s.q.i s.q.p s.q.c s.q.f s.q.o s.q.m s.q.w s.q.g s.q.mb s.q.n s.q.b.b s.q.b.c s.q.b.p s.q.b.e s.q.b.s s.q.b.rs s.N s.D s.ft h1] at h; cases h
 · cases h2 : zcr s.k s.q.k s.q.t s.q.i s.q.p s.q.c s.q.f s.q.o s.q.m s.q.w s.q.g s.q.mb s.q.n s.q.b.b s.q.b.c s.q.b.p s.q.b.e s.q.b.s s.q.b.rs s.N s.D s.ft with
   | false => rw [chkT_only s.k s.q.k s.q.t s.q.i s.q.p s.q.c s.q.f s.q.o s.q.m s.q.w s.q.g s.q.mb s.q.n s.q.b.b s.q.b.c s.q.b.p s.q.b.e s.q.b.s s.q.b.rs s.N s.D s.ft h1 h2] at h; cases h
   | true =>
     by_cases h3 : 64 < s.ft.length
     · rw [chkT_long s.k s.q.k s.q.t s.q.i s.q.p s.q.c s.q.f s.q.o s.q.m s.q.w s.q.g s.q.mb s.q.n s.q.b.b s.q.b.c s.q.b.p s.q.b.e s.q.b.s s.q.b.rs s.N s.D s.ft h1 h2 h3] at h; cases h
     · rw [chkT_rest s.k s.q.k s.q.t s.q.i s.q.p s.q.c s.q.f s.q.o s.q.m s.q.w s.q.g s.q.mb s.q.n s.q.b.b s.q.b.c s.q.b.p s.q.b.e s.q.b.s s.q.b.rs s.N s.D s.ft h1 h2 h3] at h
       refine ⟨h1,rfl,h3,fun h0 => ?_⟩
       rw [if_pos h0] at h; exact h
theorem layS_small {s : St} (h : chkS s = 0) (hf : fitS s) : (layS s).length ≤ 50001 := by
 obtain ⟨h1,_,h3,h4⟩ := chkS_ok h
 have hN := zcf s.N hf.2.2.1
 unfold layS layT
 rw [List.length_cons]
 repeat' split
 · have := layR_small (h4 (by assumption)) hf.2.1
   unfold layR at this; omega
 · omega
 · rw [List.length_append]; simp; omega
 · omega
 · simp
theorem layP_small : ∀ (l : List St),errP l = 0 → (∀ s ∈ l,fitS s) → (layP l).length ≤ 60000 * l.length
 | [],_,_ => by simp [layP]
 | s :: r,h,hf => by
   have hs : chkS s = 0 := by
     unfold errP at h; split at h
     · assumption
     · exact h
   have hr : errP r = 0 := by unfold errP at h; rw [if_pos hs] at h; exact h
   have h1 := layP_small r hr fun x hx => hf x (List.mem_cons_of_mem _ hx)
   have h2 := layS_small hs (hf s (List.mem_cons_self ..))
   have h3 := zav (layS s) (by omega)
   unfold layP at h1 ⊢
   rw [List.flatMap_cons,List.length_append,List.length_cons,Nat.mul_add]; omega
theorem errP_drop : ∀ (l : List St) (j : Nat) (h : j < l.length),errP (l.take j) = 0 → errP (l.drop j) = errP l
 | s :: r,0,_,_ => rfl
 | s :: r,j + 1,h,h0 => by
   have hs : chkS s = 0 := by
     unfold errP at h0; rw [List.take_succ_cons] at h0; simp only at h0; split at h0
     · assumption
     · exact h0
   have h0' : errP (r.take j) = 0 := by
     rw [List.take_succ_cons] at h0; unfold errP at h0; rw [if_pos hs] at h0; exact h0
   have := errP_drop r j (by simpa using h) h0'
   rw [List.drop_succ_cons,this]
   show _ = errP (s :: r)
   conv => rhs; unfold errP
   rw [if_pos hs]
theorem errP_snoc : ∀ (l : List St) (s : St),errP l = 0 → chkS s = 0 → errP (l ++ [s]) = 0
 | [],s,_,h => by unfold errP; rw [List.nil_append]; simp only; rw [if_pos h]; rfl
 | x :: r,s,h,hs => by
   have hx : chkS x = 0 := by
     unfold errP at h; split at h
     · assumption
     · exact h
   have hr : errP r = 0 := by unfold errP at h; rw [if_pos hx] at h; exact h
   show errP (x :: (r ++ [s])) = 0
   unfold errP
   rw [if_pos hx]; exact errP_snoc r s hr hs
end Go.Proofs.Ytihbcgbmlecpbaa
namespace Go.Proofs.Ytihbcgbmlecpbaa
open Ax
def rdT : List UInt8 → St
 | [] => zSt
 | c :: r =>
   if (c.toNat : Int) = 0 then ⟨0,gqR r,0,false,[]⟩
   else if (c.toNat : Int) = 1 then ⟨1,zRk 0,numN r 0,false,[]⟩
   else if (c.toNat : Int) = 2 then ⟨2,zRk 0,numN r 0,false,[]⟩
   else if (c.toNat : Int) = 3 then ⟨3,zRk 0,numN r 0,decide (zci 1 (numL r 0) (numE r 0) = 1),[]⟩
   else if (c.toNat : Int) = 4 then ⟨4,zRk 0,0,false,r⟩
   else ⟨(c.toNat : Int),zRk 0,0,false,[]⟩
theorem zdb (c : UInt8) (r : List UInt8) : rdT (c :: r) = if (c.toNat : Int) = 0 then ⟨0,gqR r,0,false,[]⟩
   else if (c.toNat : Int) = 1 then ⟨1,zRk 0,numN r 0,false,[]⟩
   else if (c.toNat : Int) = 2 then ⟨2,zRk 0,numN r 0,false,[]⟩
   else if (c.toNat : Int) = 3 then ⟨3,zRk 0,numN r 0,decide (zci 1 (numL r 0) (numE r 0) = 1),[]⟩
   else if (c.toNat : Int) = 4 then ⟨4,zRk 0,0,false,r⟩
   else ⟨(c.toNat : Int),zRk 0,0,false,[]⟩ := rfl
def gtOk (b : List UInt8) : Prop := b ≠ [] ∧ chkS (rdT b) = 0 ∧ layS (rdT b) = b
instance (b : List UInt8) : Decidable (gtOk b) := by unfold gtOk; infer_instance
def gtS (b : List UInt8) : St := if gtOk b then rdT b else zSt
def gtA (b : List UInt8) : AV := stP (gtS b,emp (gtS b).q.b.rs,!decide ((gtS b).k = 4))
def getTS : zak
 | [.sb b fb],[] => ⟨b.length ≤ 1000000,.tup [gtA b,.w (.int .i64 (if gtOk b then 0 else 4))],[]⟩
 | _,_ => zbd
theorem zdn (b : List UInt8) (hb : b ≠ []) {S : St} (hS : rdT b = S) {C : Int} {W : List UInt8} (hC : chkS S = C) (hW : zfc S = W) :
   (gtOk b ∧ decide (C = 0) = true ∧ decide (W = b) = true) ∨ (¬ gtOk b ∧ decide (C = 0) = false) ∨ (¬ gtOk b ∧ decide (C = 0) = true ∧ decide (W = b) = false) := by
 subst hS hC hW
 by_cases h1 : chkS (rdT b) = 0
 · rw [putS_lay h1]
   by_cases h2 : layS (rdT b) = b
   · exact .inl ⟨⟨hb,h1,h2⟩,decide_eq_true h1,decide_eq_true h2⟩
   · exact .inr (.inr ⟨fun h => h2 h.2.2,decide_eq_true h1,decide_eq_false h2⟩)
 · exact .inr (.inl ⟨fun h => h1 h.2.1,decide_eq_false h1⟩)
theorem gqR_fit (b : List UInt8) (hb : b.length ≤ 1000000) : fitR (gqR b) := by
 unfold gqR; split
 · exact rdR_fit b hb
 · exact ⟨by decide,⟨by simp [zR],by simp [zR],by simp [zR]⟩,⟨zad,zad,zad,zad,zad,zad⟩,by simp [zR,zB]⟩
theorem gtA_no {b : List UInt8} (h : ¬ gtOk b) : gtA b = .agg [.w (.int .u8 0),.w (.int .u8 0),.str [],.w (.int .i64 0),.w (.int .i64 0),.w (.bool false),.w (.bool false),.w (.int .i64 0),.w (.int .i64 0),.w (.int .i64 0),.str [],.str [],.w (.int .i64 0),.w (.int .i64 0),.w (.int .i64 0),.w (.int .i64 0),.w (.int .i64 0),.w (.int .i64 0),.sg 6 [] true,.w (.int .i64 0),.w (.bool false),.sb [] true] ∧ (if gtOk b then (0 : Int) else 4) = 4 := by
 unfold gtA gtS; rw [if_neg h,if_neg h]; exact ⟨rfl,rfl⟩
theorem kind_cases6 (K : Int) (h : 0 ≤ K) : K = 0 ∨ K = 1 ∨ K = 2 ∨ K = 3 ∨ K = 4 ∨ 4 < K := by omega
def SgetT (f : FuncId) : Option zak :=
 match f with
 | 32 => some newS
 | 33 => some zct
 | 34 => some numS
 | 35 => some zcx
 | 8 => some zcs
 | 28 => some zdj
 | _ => none
theorem SgetT_ok : Fns Try.prog SgetT := by
 intro f s h
 unfold SgetT at h
 split at h
 · injection h with h; subst h; exact ⟨⟨_,Try.func32,by kernel_rfl,by kernel_rfl⟩,new_sound⟩
 · injection h with h; subst h; exact ⟨⟨_,Try.func33,by kernel_rfl,by kernel_rfl⟩,getQ_sound⟩
 · injection h with h; subst h; exact ⟨⟨_,Try.func34,by kernel_rfl,by kernel_rfl⟩,num_sound⟩
 · injection h with h; subst h; exact ⟨⟨_,Try.func35,by kernel_rfl,by kernel_rfl⟩,mfixed_sound⟩
 · injection h with h; subst h; exact ⟨⟨_,Try.func8,by kernel_rfl,by kernel_rfl⟩,putT_sound⟩
 · injection h with h; subst h; exact ⟨⟨_,Try.func28,by kernel_rfl,by kernel_rfl⟩,eqB22_sound⟩
 · cases h
def getTPl : XPlan := fun id => match id with
 | 15 => .prs [(4,5)]
 | _ => .std
theorem okz0 : okI 0 := zad
theorem okz : (0 : Int) ≤ 0 := by decide
section
set_option maxRecDepth 100000
set_option maxHeartbeats 40000000 in
theorem getT_sound : zaq Try.prog 15 getTS := by
 refine zbx (S := SgetT) (SO := noO) (T := ty) zau ty_ok SgetT_ok noO_ok Try.func15 (c := Try.f15.body.getD .skip) (by kernel_rfl) (fun xs pins hp _ => ?_)
 unfold getTS at hp ⊢
 split at hp
 · rename_i b fb _
   have hb : b.length ≤ 1000000 := hp
   refine ⟨by simp,getTPl,by kernel_rfl,?_⟩
   have tk : ∀ l : List UInt8,List.take l.length l = l := fun l => List.take_length
   unfold Try.f15
   cases b with
   | nil =>
     obtain ⟨w1,w2⟩ := gtA_no (b := []) (fun h => h.1 rfl)
     rw [w1,w2]
     have hz : decide (((0 : Nat) : Int) = 0) = true := by decide
     simp only [go_sem,zab,Nat.reduceAdd,Nat.reduceSub,Nat.reduceMul,Int.reduceToNat,reduceCtorEq,↓reduceIte,Int.reducePow,Nat.reducePow,Int.reduceMod,Nat.reduceLeDiff,Int.reduceLE,Int.reduceNe,Int.reduceEq,Nat.reduceEqDiff,Nat.reduceLT,Nat.reduceBEq,List.map_cons,List.map_nil,List.toList_toArray,Array.toList_append,Option.toArray_some,Option.toArray_none,Bool.and_self,ty,SgetT,getTPl,List.length_nil,fillS,hz]
     refine ⟨_,Weak.refl _,?_⟩
     simp only [go_sem,zab,Nat.reduceAdd,Nat.reduceSub,Nat.reduceMul,Int.reduceToNat,reduceCtorEq,↓reduceIte,Int.reducePow,Nat.reducePow,Int.reduceMod,Nat.reduceLeDiff,Int.reduceLE,Int.reduceNe,Int.reduceEq,Nat.reduceEqDiff,Nat.reduceLT,Nat.reduceBEq,List.map_cons,List.map_nil,List.toList_toArray,Array.toList_append,Option.toArray_some,Option.toArray_none,Bool.and_self,ty]
   | cons x r =>
     have hr : r.length ≤ 1000000 := by rw [List.length_cons] at hb; omega
     have h0 : decide (((r.length + 1 : Nat) : Int) = 0) = false := decide_eq_false (by omega)
     obtain ⟨K,hK⟩ : ∃ K,((x.toNat : Nat) : Int) = K := ⟨_,rfl⟩
     have hKr : 0 ≤ K ∧ K < 256 := by have := x.toNat_lt; omega
     obtain ⟨k1,k2⟩ := hKr
     have hNo := @gtA_no (x :: r)
     have hne : (x :: r) ≠ [] := by simp
     rcases kind_cases6 K k1 with rfl | rfl | rfl | rfl | rfl | hbig
     · have hS : rdT (x :: r) = ⟨0,gqR r,0,false,[]⟩ := by
         rw [zdb,hK]; simp only [Int.reduceEq,if_true,if_false]
       obtain ⟨M,hM⟩ : ∃ M,gqR r = M := ⟨_,rfl⟩
       have hfit := gqR_fit r hr
       have hqa : gqA r = .agg [.w (.int .u8 M.k),.str M.t,.w (.int .i64 M.i),.w (.int .i64 M.p),.w (.bool M.c),.w (.bool M.f),.w (.int .i64 M.o),.w (.int .i64 M.m),.w (.int .i64 M.w),.str M.g,.str M.mb,.w (.int .i64 M.n),.w (.int .i64 M.b.b),.w (.int .i64 M.b.c),.w (.int .i64 M.b.p),.w (.int .i64 M.b.e),.w (.int .i64 M.b.s),.sg 6 (M.b.rs.map rv) (emp M.b.rs)] := by unfold gqA; rw [hM]; rfl
       rw [hM] at hS hfit
       obtain ⟨⟨q0,q1⟩,lq,iq,hr40⟩ := hfit
       have h40 : (M.b.rs.map rv).length ≤ 40 := by rw [List.length_map]; exact hr40
       have hmr := zag M.b.rs
       have hex : ∃ qs : List Rec,M.b.rs.map rv = qs.map rv := ⟨M.b.rs,rfl⟩
       have hcl := zbi M.b.rs
       obtain ⟨C,hC⟩ : ∃ C,chkS ⟨0,M,0,false,[]⟩ = C := ⟨_,rfl⟩
       obtain ⟨W,hW⟩ : ∃ W,zfc ⟨0,M,0,false,[]⟩ = W := ⟨_,rfl⟩
       have hC' : chkT 0 M.k M.t M.i M.p M.c M.f M.o M.m M.w M.g M.mb M.n M.b.b M.b.c M.b.p M.b.e M.b.s M.b.rs 0 false [] = C := hC
       have hW' : putT 0 M.k M.t M.i M.p M.c M.f M.o M.m M.w M.g M.mb M.n M.b.b M.b.c M.b.p M.b.e M.b.s M.b.rs 0 false [] = W := hW
       have hOk : gtOk (x :: r) → gtA (x :: r) = .agg [.w (.int .u8 0),.w (.int .u8 M.k),.str M.t,.w (.int .i64 M.i),.w (.int .i64 M.p),.w (.bool M.c),.w (.bool M.f),.w (.int .i64 M.o),.w (.int .i64 M.m),.w (.int .i64 M.w),.str M.g,.str M.mb,.w (.int .i64 M.n),.w (.int .i64 M.b.b),.w (.int .i64 M.b.c),.w (.int .i64 M.b.p),.w (.int .i64 M.b.e),.w (.int .i64 M.b.s),.sg 6 (M.b.rs.map rv) (emp M.b.rs),.w (.int .i64 0),.w (.bool false),.sb [] true] ∧ (if gtOk (x :: r) then (0 : Int) else 4) = 0 := by
         intro h; unfold gtA gtS; rw [if_pos h,if_pos h,hS]; exact ⟨rfl,rfl⟩
       have hcase := zdn (x :: r) hne hS hC hW
       rcases hcase with X | X | X
       · obtain ⟨w1,w2⟩ := hOk X.1
         rw [w1,w2]
         simp only [go_sem,zab,Nat.reduceAdd,Nat.reduceSub,Nat.reduceMul,Int.reduceToNat,reduceCtorEq,↓reduceIte,Int.reducePow,Nat.reducePow,Int.reduceMod,Nat.reduceLeDiff,Int.reduceLE,Int.reduceNe,Int.reduceEq,Nat.reduceEqDiff,Nat.reduceLT,Nat.reduceBEq,List.map_cons,List.map_nil,List.toList_toArray,Array.toList_append,Option.toArray_some,Option.toArray_none,Bool.and_self,ty,SgetT,getTPl,fillS,newS,zct,numS,zcx,zcs,zdj,rd,rrd,h0,hK,hb,hr,tk,hC',hW',X.2,okz,okz0,hqa,q0,q1,lq,iq,h40,hmr,hex,hcl,List.length_nil,Nat.zero_le,Int.reduceEq,Int.reduceLT,Int.reduceLE,Nat.reduceEqDiff,or_self,or_false,false_or,or_true,true_or,if_true,if_false,List.drop_succ_cons,List.drop_zero,Nat.add_sub_cancel,List.getD_cons_zero,List.length_cons]
         repeat (refine And.intro (by first | omega | (unfold top; omega) | decide) ?_)
         refine ⟨_,Weak.refl _,?_⟩
         simp only [go_sem,zab,Nat.reduceAdd,Nat.reduceSub,Nat.reduceMul,Int.reduceToNat,reduceCtorEq,↓reduceIte,Int.reducePow,Nat.reducePow,Int.reduceMod,Nat.reduceLeDiff,Int.reduceLE,Int.reduceNe,Int.reduceEq,Nat.reduceEqDiff,Nat.reduceLT,Nat.reduceBEq,List.map_cons,List.map_nil,List.toList_toArray,Array.toList_append,Option.toArray_some,Option.toArray_none,Bool.and_self,ty,fzL,fzH,AV.fz,Blk.fz,tk]
       all_goals
         obtain ⟨w1,w2⟩ := hNo X.1
         rw [w1,w2]
         simp only [go_sem,zab,Nat.reduceAdd,Nat.reduceSub,Nat.reduceMul,Int.reduceToNat,reduceCtorEq,↓reduceIte,Int.reducePow,Nat.reducePow,Int.reduceMod,Nat.reduceLeDiff,Int.reduceLE,Int.reduceNe,Int.reduceEq,Nat.reduceEqDiff,Nat.reduceLT,Nat.reduceBEq,List.map_cons,List.map_nil,List.toList_toArray,Array.toList_append,Option.toArray_some,Option.toArray_none,Bool.and_self,ty,SgetT,getTPl,fillS,newS,zct,numS,zcx,zcs,zdj,rd,rrd,h0,hK,hb,hr,tk,hC',hW',X.2,okz,okz0,hqa,q0,q1,lq,iq,h40,hmr,hex,hcl,List.length_nil,Nat.zero_le,Int.reduceEq,Int.reduceLT,Int.reduceLE,Nat.reduceEqDiff,or_self,or_false,false_or,or_true,true_or,if_true,if_false,List.drop_succ_cons,List.drop_zero,Nat.add_sub_cancel,List.getD_cons_zero,List.length_cons]
         repeat (refine And.intro (by first | omega | (unfold top; omega) | decide) ?_)
         refine ⟨_,Weak.refl _,?_⟩
         simp only [go_sem,zab,Nat.reduceAdd,Nat.reduceSub,Nat.reduceMul,Int.reduceToNat,reduceCtorEq,↓reduceIte,Int.reducePow,Nat.reducePow,Int.reduceMod,Nat.reduceLeDiff,Int.reduceLE,Int.reduceNe,Int.reduceEq,Nat.reduceEqDiff,Nat.reduceLT,Nat.reduceBEq,List.map_cons,List.map_nil,List.toList_toArray,Array.toList_append,Option.toArray_some,Option.toArray_none,Bool.and_self,ty]
     · have hS : rdT (x :: r) = ⟨1,zRk 0,numN r 0,false,[]⟩ := by
         rw [zdb,hK]; simp only [Int.reduceEq,if_true,if_false]
       have hq3 : ∃ rs : List Rec,([] : List AV) = rs.map rv := ⟨[],rfl⟩
       have hq4 : List.map rrec ([] : List AV) = [] := rfl
       have hq5 : lenQ [] [] [] := ⟨by simp,by simp,by simp⟩
       have hq6 : intQ 0 0 0 0 0 0 := ⟨zad,zad,zad,zad,zad,zad⟩
       have hN := zcv r 0
       obtain ⟨C,hC⟩ : ∃ C,chkS ⟨1,zRk 0,numN r 0,false,[]⟩ = C := ⟨_,rfl⟩
       obtain ⟨W,hW⟩ : ∃ W,zfc ⟨1,zRk 0,numN r 0,false,[]⟩ = W := ⟨_,rfl⟩
       have hC' : chkT 1 0 [] 0 0 false false 0 0 0 [] [] 0 0 0 0 0 0 [] (numN r 0) false [] = C := hC
       have hW' : putT 1 0 [] 0 0 false false 0 0 0 [] [] 0 0 0 0 0 0 [] (numN r 0) false [] = W := hW
       have hOk : gtOk (x :: r) → gtA (x :: r) = .agg [.w (.int .u8 1),.w (.int .u8 0),.str [],.w (.int .i64 0),.w (.int .i64 0),.w (.bool false),.w (.bool false),.w (.int .i64 0),.w (.int .i64 0),.w (.int .i64 0),.str [],.str [],.w (.int .i64 0),.w (.int .i64 0),.w (.int .i64 0),.w (.int .i64 0),.w (.int .i64 0),.w (.int .i64 0),.sg 6 [] true,.w (.int .i64 (numN r 0)),.w (.bool false),.sb [] true] ∧ (if gtOk (x :: r) then (0 : Int) else 4) = 0 := by
         intro h; unfold gtA gtS; rw [if_pos h,if_pos h,hS]; exact ⟨rfl,rfl⟩
       have hcase := zdn (x :: r) hne hS hC hW
       rcases hcase with X | X | X
       · obtain ⟨w1,w2⟩ := hOk X.1
         rw [w1,w2]
         simp only [go_sem,zab,Nat.reduceAdd,Nat.reduceSub,Nat.reduceMul,Int.reduceToNat,reduceCtorEq,↓reduceIte,Int.reducePow,Nat.reducePow,Int.reduceMod,Nat.reduceLeDiff,Int.reduceLE,Int.reduceNe,Int.reduceEq,Nat.reduceEqDiff,Nat.reduceLT,Nat.reduceBEq,List.map_cons,List.map_nil,List.toList_toArray,Array.toList_append,Option.toArray_some,Option.toArray_none,Bool.and_self,ty,SgetT,getTPl,fillS,newS,zct,numS,zcx,zcs,zdj,rd,rrd,h0,hK,hb,hr,tk,hC',hW',X.2,okz,okz0,hq3,hq4,hq5,hq6,Nat.zero_le,List.length_nil,hN,Int.reduceEq,Int.reduceLT,Int.reduceLE,Nat.reduceEqDiff,or_self,or_false,false_or,or_true,true_or,if_true,if_false,List.drop_succ_cons,List.drop_zero,Nat.add_sub_cancel,List.getD_cons_zero,List.length_cons]
         repeat (refine And.intro (by first | omega | (unfold top; omega) | decide) ?_)
         refine ⟨_,Weak.refl _,?_⟩
         simp only [go_sem,zab,Nat.reduceAdd,Nat.reduceSub,Nat.reduceMul,Int.reduceToNat,reduceCtorEq,↓reduceIte,Int.reducePow,Nat.reducePow,Int.reduceMod,Nat.reduceLeDiff,Int.reduceLE,Int.reduceNe,Int.reduceEq,Nat.reduceEqDiff,Nat.reduceLT,Nat.reduceBEq,List.map_cons,List.map_nil,List.toList_toArray,Array.toList_append,Option.toArray_some,Option.toArray_none,Bool.and_self,ty,fzL,fzH,AV.fz,Blk.fz,tk]
       all_goals
         obtain ⟨w1,w2⟩ := hNo X.1
         rw [w1,w2]
         simp only [go_sem,zab,Nat.reduceAdd,Nat.reduceSub,Nat.reduceMul,Int.reduceToNat,reduceCtorEq,↓reduceIte,Int.reducePow,Nat.reducePow,Int.reduceMod,Nat.reduceLeDiff,Int.reduceLE,Int.reduceNe,Int.reduceEq,Nat.reduceEqDiff,Nat.reduceLT,Nat.reduceBEq,List.map_cons,List.map_nil,List.toList_toArray,Array.toList_append,Option.toArray_some,Option.toArray_none,Bool.and_self,ty,SgetT,getTPl,fillS,newS,zct,numS,zcx,zcs,zdj,rd,rrd,h0,hK,hb,hr,tk,hC',hW',X.2,okz,okz0,hq3,hq4,hq5,hq6,Nat.zero_le,List.length_nil,hN,Int.reduceEq,Int.reduceLT,Int.reduceLE,Nat.reduceEqDiff,or_self,or_false,false_or,or_true,true_or,if_true,if_false,List.drop_succ_cons,List.drop_zero,Nat.add_sub_cancel,List.getD_cons_zero,List.length_cons]
         repeat (refine And.intro (by first | omega | (unfold top; omega) | decide) ?_)
         refine ⟨_,Weak.refl _,?_⟩
         simp only [go_sem,zab,Nat.reduceAdd,Nat.reduceSub,Nat.reduceMul,Int.reduceToNat,reduceCtorEq,↓reduceIte,Int.reducePow,Nat.reducePow,Int.reduceMod,Nat.reduceLeDiff,Int.reduceLE,Int.reduceNe,Int.reduceEq,Nat.reduceEqDiff,Nat.reduceLT,Nat.reduceBEq,List.map_cons,List.map_nil,List.toList_toArray,Array.toList_append,Option.toArray_some,Option.toArray_none,Bool.and_self,ty]
     · have hS : rdT (x :: r) = ⟨2,zRk 0,numN r 0,false,[]⟩ := by
         rw [zdb,hK]; simp only [Int.reduceEq,if_true,if_false]
       have hq3 : ∃ rs : List Rec,([] : List AV) = rs.map rv := ⟨[],rfl⟩
       have hq4 : List.map rrec ([] : List AV) = [] := rfl
       have hq5 : lenQ [] [] [] := ⟨by simp,by simp,by simp⟩
       have hq6 : intQ 0 0 0 0 0 0 := ⟨zad,zad,zad,zad,zad,zad⟩
       have hN := zcv r 0
       obtain ⟨C,hC⟩ : ∃ C,chkS ⟨2,zRk 0,numN r 0,false,[]⟩ = C := ⟨_,rfl⟩
       obtain ⟨W,hW⟩ : ∃ W,zfc ⟨2,zRk 0,numN r 0,false,[]⟩ = W := ⟨_,rfl⟩
       have hC' : chkT 2 0 [] 0 0 false false 0 0 0 [] [] 0 0 0 0 0 0 [] (numN r 0) false [] = C := hC
       have hW' : putT 2 0 [] 0 0 false false 0 0 0 [] [] 0 0 0 0 0 0 [] (numN r 0) false [] = W := hW
       have hOk : gtOk (x :: r) → gtA (x :: r) = .agg [.w (.int .u8 2),.w (.int .u8 0),.str [],.w (.int .i64 0),.w (.int .i64 0),.w (.bool false),.w (.bool false),.w (.int .i64 0),.w (.int .i64 0),.w (.int .i64 0),.str [],.str [],.w (.int .i64 0),.w (.int .i64 0),.w (.int .i64 0),.w (.int .i64 0),.w (.int .i64 0),.w (.int .i64 0),.sg 6 [] true,.w (.int .i64 (numN r 0)),.w (.bool false),.sb [] true] ∧ (if gtOk (x :: r) then (0 : Int) else 4) = 0 := by
         intro h; unfold gtA gtS; rw [if_pos h,if_pos h,hS]; exact ⟨rfl,rfl⟩
       have hcase := zdn (x :: r) hne hS hC hW
       rcases hcase with X | X | X
       · obtain ⟨w1,w2⟩ := hOk X.1
         rw [w1,w2]
         simp only [go_sem,zab,Nat.reduceAdd,Nat.reduceSub,Nat.reduceMul,Int.reduceToNat,reduceCtorEq,↓reduceIte,Int.reducePow,Nat.reducePow,Int.reduceMod,Nat.reduceLeDiff,Int.reduceLE,Int.reduceNe,Int.reduceEq,Nat.reduceEqDiff,Nat.reduceLT,Nat.reduceBEq,List.map_cons,List.map_nil,List.toList_toArray,Array.toList_append,Option.toArray_some,Option.toArray_none,Bool.and_self,ty,SgetT,getTPl,fillS,newS,zct,numS,zcx,zcs,zdj,rd,rrd,h0,hK,hb,hr,tk,hC',hW',X.2,okz,okz0,hq3,hq4,hq5,hq6,Nat.zero_le,List.length_nil,hN,Int.reduceEq,Int.reduceLT,Int.reduceLE,Nat.reduceEqDiff,or_self,or_false,false_or,or_true,true_or,if_true,if_false,List.drop_succ_cons,List.drop_zero,Nat.add_sub_cancel,List.getD_cons_zero,List.length_cons]
         repeat (refine And.intro (by first | omega | (unfold top; omega) | decide) ?_)
         refine ⟨_,Weak.refl _,?_⟩
         simp only [go_sem,zab,Nat.reduceAdd,Nat.reduceSub,Nat.reduceMul,Int.reduceToNat,reduceCtorEq,↓reduceIte,Int.reducePow,Nat.reducePow,Int.reduceMod,Nat.reduceLeDiff,Int.reduceLE,Int.reduceNe,Int.reduceEq,Nat.reduceEqDiff,Nat.reduceLT,Nat.reduceBEq,List.map_cons,List.map_nil,List.toList_toArray,Array.toList_append,Option.toArray_some,Option.toArray_none,Bool.and_self,ty,fzL,fzH,AV.fz,Blk.fz,tk]
       all_goals
         obtain ⟨w1,w2⟩ := hNo X.1
         rw [w1,w2]
         simp only [go_sem,zab,Nat.reduceAdd,Nat.reduceSub,Nat.reduceMul,Int.reduceToNat,reduceCtorEq,↓reduceIte,Int.reducePow,Nat.reducePow,Int.reduceMod,Nat.reduceLeDiff,Int.reduceLE,Int.reduceNe,Int.reduceEq,Nat.reduceEqDiff,Nat.reduceLT,Nat.reduceBEq,List.map_cons,List.map_nil,List.toList_toArray,Array.toList_append,Option.toArray_some,Option.toArray_none,Bool.and_self,ty,SgetT,getTPl,fillS,newS,zct,numS,zcx,zcs,zdj,rd,rrd,h0,hK,hb,hr,tk,hC',hW',X.2,okz,okz0,hq3,hq4,hq5,hq6,Nat.zero_le,List.length_nil,hN,Int.reduceEq,Int.reduceLT,Int.reduceLE,Nat.reduceEqDiff,or_self,or_false,false_or,or_true,true_or,if_true,if_false,List.drop_succ_cons,List.drop_zero,Nat.add_sub_cancel,List.getD_cons_zero,List.length_cons]
         repeat (refine And.intro (by first | omega | (unfold top; omega) | decide) ?_)
         refine ⟨_,Weak.refl _,?_⟩
         simp only [go_sem,zab,Nat.reduceAdd,Nat.reduceSub,Nat.reduceMul,Int.reduceToNat,reduceCtorEq,↓reduceIte,Int.reducePow,Nat.reducePow,Int.reduceMod,Nat.reduceLeDiff,Int.reduceLE,Int.reduceNe,Int.reduceEq,Nat.reduceEqDiff,Nat.reduceLT,Nat.reduceBEq,List.map_cons,List.map_nil,List.toList_toArray,Array.toList_append,Option.toArray_some,Option.toArray_none,Bool.and_self,ty]
     · have hS : rdT (x :: r) = ⟨3,zRk 0,numN r 0,decide (zci 1 (numL r 0) (numE r 0) = 1),[]⟩ := by
         rw [zdb,hK]; simp only [Int.reduceEq,if_true,if_false]
       have hq3 : ∃ rs : List Rec,([] : List AV) = rs.map rv := ⟨[],rfl⟩
       have hq4 : List.map rrec ([] : List AV) = [] := rfl
       have hq5 : lenQ [] [] [] := ⟨by simp,by simp,by simp⟩
       have hq6 : intQ 0 0 0 0 0 0 := ⟨zad,zad,zad,zad,zad,zad⟩
       have hN := zcv r 0
       have hnl : (numL r 0).length ≤ 1000000 := Nat.le_trans (zbm r 0) hr
       obtain ⟨C,hC⟩ : ∃ C,chkS ⟨3,zRk 0,numN r 0,decide (zci 1 (numL r 0) (numE r 0) = 1),[]⟩ = C := ⟨_,rfl⟩
       obtain ⟨W,hW⟩ : ∃ W,zfc ⟨3,zRk 0,numN r 0,decide (zci 1 (numL r 0) (numE r 0) = 1),[]⟩ = W := ⟨_,rfl⟩
       have hC' : chkT 3 0 [] 0 0 false false 0 0 0 [] [] 0 0 0 0 0 0 [] (numN r 0) (decide (zci 1 (numL r 0) (numE r 0) = 1)) [] = C := hC
       have hW' : putT 3 0 [] 0 0 false false 0 0 0 [] [] 0 0 0 0 0 0 [] (numN r 0) (decide (zci 1 (numL r 0) (numE r 0) = 1)) [] = W := hW
       have hOk : gtOk (x :: r) → gtA (x :: r) = .agg [.w (.int .u8 3),.w (.int .u8 0),.str [],.w (.int .i64 0),.w (.int .i64 0),.w (.bool false),.w (.bool false),.w (.int .i64 0),.w (.int .i64 0),.w (.int .i64 0),.str [],.str [],.w (.int .i64 0),.w (.int .i64 0),.w (.int .i64 0),.w (.int .i64 0),.w (.int .i64 0),.w (.int .i64 0),.sg 6 [] true,.w (.int .i64 (numN r 0)),.w (.bool (decide (zci 1 (numL r 0) (numE r 0) = 1))),.sb [] true] ∧ (if gtOk (x :: r) then (0 : Int) else 4) = 0 := by
         intro h; unfold gtA gtS; rw [if_pos h,if_pos h,hS]; exact ⟨rfl,rfl⟩
       have hcase := zdn (x :: r) hne hS hC hW
       rcases hcase with X | X | X
       · obtain ⟨w1,w2⟩ := hOk X.1
         rw [w1,w2]
         simp only [go_sem,zab,Nat.reduceAdd,Nat.reduceSub,Nat.reduceMul,Int.reduceToNat,reduceCtorEq,↓reduceIte,Int.reducePow,Nat.reducePow,Int.reduceMod,Nat.reduceLeDiff,Int.reduceLE,Int.reduceNe,Int.reduceEq,Nat.reduceEqDiff,Nat.reduceLT,Nat.reduceBEq,List.map_cons,List.map_nil,List.toList_toArray,Array.toList_append,Option.toArray_some,Option.toArray_none,Bool.and_self,ty,SgetT,getTPl,fillS,newS,zct,numS,zcx,zcs,zdj,rd,rrd,h0,hK,hb,hr,tk,hC',hW',X.2,okz,okz0,hq3,hq4,hq5,hq6,Nat.zero_le,List.length_nil,hN,hnl,Int.reduceEq,Int.reduceLT,Int.reduceLE,Nat.reduceEqDiff,or_self,or_false,false_or,or_true,true_or,if_true,if_false,List.drop_succ_cons,List.drop_zero,Nat.add_sub_cancel,List.getD_cons_zero,List.length_cons]
         repeat (refine And.intro (by first | omega | (unfold top; omega) | decide) ?_)
         refine ⟨_,Weak.refl _,?_⟩
         simp only [go_sem,zab,Nat.reduceAdd,Nat.reduceSub,Nat.reduceMul,Int.reduceToNat,reduceCtorEq,↓reduceIte,Int.reducePow,Nat.reducePow,Int.reduceMod,Nat.reduceLeDiff,Int.reduceLE,Int.reduceNe,Int.reduceEq,Nat.reduceEqDiff,Nat.reduceLT,Nat.reduceBEq,List.map_cons,List.map_nil,List.toList_toArray,Array.toList_append,Option.toArray_some,Option.toArray_none,Bool.and_self,ty,fzL,fzH,AV.fz,Blk.fz,tk]
       all_goals
         obtain ⟨w1,w2⟩ := hNo X.1
         rw [w1,w2]
         simp only [go_sem,zab,Nat.reduceAdd,Nat.reduceSub,Nat.reduceMul,Int.reduceToNat,reduceCtorEq,↓reduceIte,Int.reducePow,Nat.reducePow,Int.reduceMod,Nat.reduceLeDiff,Int.reduceLE,Int.reduceNe,Int.reduceEq,Nat.reduceEqDiff,Nat.reduceLT,Nat.reduceBEq,List.map_cons,List.map_nil,List.toList_toArray,Array.toList_append,Option.toArray_some,Option.toArray_none,Bool.and_self,ty,SgetT,getTPl,fillS,newS,zct,numS,zcx,zcs,zdj,rd,rrd,h0,hK,hb,hr,tk,hC',hW',X.2,okz,okz0,hq3,hq4,hq5,hq6,Nat.zero_le,List.length_nil,hN,hnl,Int.reduceEq,Int.reduceLT,Int.reduceLE,Nat.reduceEqDiff,or_self,or_false,false_or,or_true,true_or,if_true,if_false,List.drop_succ_cons,List.drop_zero,Nat.add_sub_cancel,List.getD_cons_zero,List.length_cons]
         repeat (refine And.intro (by first | omega | (unfold top; omega) | decide) ?_)
         refine ⟨_,Weak.refl _,?_⟩
         simp only [go_sem,zab,Nat.reduceAdd,Nat.reduceSub,Nat.reduceMul,Int.reduceToNat,reduceCtorEq,↓reduceIte,Int.reducePow,Nat.reducePow,Int.reduceMod,Nat.reduceLeDiff,Int.reduceLE,Int.reduceNe,Int.reduceEq,Nat.reduceEqDiff,Nat.reduceLT,Nat.reduceBEq,List.map_cons,List.map_nil,List.toList_toArray,Array.toList_append,Option.toArray_some,Option.toArray_none,Bool.and_self,ty]
     · have hS : rdT (x :: r) = ⟨4,zRk 0,0,false,r⟩ := by
         rw [zdb,hK]; simp only [Int.reduceEq,if_true,if_false]
       have hq3 : ∃ rs : List Rec,([] : List AV) = rs.map rv := ⟨[],rfl⟩
       have hq4 : List.map rrec ([] : List AV) = [] := rfl
       have hq5 : lenQ [] [] [] := ⟨by simp,by simp,by simp⟩
       have hq6 : intQ 0 0 0 0 0 0 := ⟨zad,zad,zad,zad,zad,zad⟩
       obtain ⟨C,hC⟩ : ∃ C,chkS ⟨4,zRk 0,0,false,r⟩ = C := ⟨_,rfl⟩
       obtain ⟨W,hW⟩ : ∃ W,zfc ⟨4,zRk 0,0,false,r⟩ = W := ⟨_,rfl⟩
       have hC' : chkT 4 0 [] 0 0 false false 0 0 0 [] [] 0 0 0 0 0 0 [] 0 false r = C := hC
       have hW' : putT 4 0 [] 0 0 false false 0 0 0 [] [] 0 0 0 0 0 0 [] 0 false r = W := hW
       have hOk : gtOk (x :: r) → gtA (x :: r) = .agg [.w (.int .u8 4),.w (.int .u8 0),.str [],.w (.int .i64 0),.w (.int .i64 0),.w (.bool false),.w (.bool false),.w (.int .i64 0),.w (.int .i64 0),.w (.int .i64 0),.str [],.str [],.w (.int .i64 0),.w (.int .i64 0),.w (.int .i64 0),.w (.int .i64 0),.w (.int .i64 0),.w (.int .i64 0),.sg 6 [] true,.w (.int .i64 0),.w (.bool false),.sb r false] ∧ (if gtOk (x :: r) then (0 : Int) else 4) = 0 := by
         intro h; unfold gtA gtS; rw [if_pos h,if_pos h,hS]; exact ⟨rfl,rfl⟩
       have hcase := zdn (x :: r) hne hS hC hW
       rcases hcase with X | X | X
       · obtain ⟨w1,w2⟩ := hOk X.1
         rw [w1,w2]
         simp only [go_sem,zab,Nat.reduceAdd,Nat.reduceSub,Nat.reduceMul,Int.reduceToNat,reduceCtorEq,↓reduceIte,Int.reducePow,Nat.reducePow,Int.reduceMod,Nat.reduceLeDiff,Int.reduceLE,Int.reduceNe,Int.reduceEq,Nat.reduceEqDiff,Nat.reduceLT,Nat.reduceBEq,List.map_cons,List.map_nil,List.toList_toArray,Array.toList_append,Option.toArray_some,Option.toArray_none,Bool.and_self,ty,SgetT,getTPl,fillS,newS,zct,numS,zcx,zcs,zdj,rd,rrd,h0,hK,hb,hr,tk,hC',hW',X.2,okz,okz0,hq3,hq4,hq5,hq6,Nat.zero_le,List.length_nil,Int.reduceEq,Int.reduceLT,Int.reduceLE,Nat.reduceEqDiff,or_self,or_false,false_or,or_true,true_or,if_true,if_false,List.drop_succ_cons,List.drop_zero,Nat.add_sub_cancel,List.getD_cons_zero,List.length_cons]
         repeat (refine And.intro (by first | omega | (unfold top; omega) | decide) ?_)
         refine ⟨_,weak_fzs 51 rfl rfl,?_⟩
         simp only [go_sem,zab,Nat.reduceAdd,Nat.reduceSub,Nat.reduceMul,Int.reduceToNat,reduceCtorEq,↓reduceIte,Int.reducePow,Nat.reducePow,Int.reduceMod,Nat.reduceLeDiff,Int.reduceLE,Int.reduceNe,Int.reduceEq,Nat.reduceEqDiff,Nat.reduceLT,Nat.reduceBEq,List.map_cons,List.map_nil,List.toList_toArray,Array.toList_append,Option.toArray_some,Option.toArray_none,Bool.and_self,ty,fzL,fzH,AV.fz,Blk.fz,tk]
       all_goals
         obtain ⟨w1,w2⟩ := hNo X.1
         rw [w1,w2]
         simp only [go_sem,zab,Nat.reduceAdd,Nat.reduceSub,Nat.reduceMul,Int.reduceToNat,reduceCtorEq,↓reduceIte,Int.reducePow,Nat.reducePow,Int.reduceMod,Nat.reduceLeDiff,Int.reduceLE,Int.reduceNe,Int.reduceEq,Nat.reduceEqDiff,Nat.reduceLT,Nat.reduceBEq,List.map_cons,List.map_nil,List.toList_toArray,Array.toList_append,Option.toArray_some,Option.toArray_none,Bool.and_self,ty,SgetT,getTPl,fillS,newS,zct,numS,zcx,zcs,zdj,rd,rrd,h0,hK,hb,hr,tk,hC',hW',X.2,okz,okz0,hq3,hq4,hq5,hq6,Nat.zero_le,List.length_nil,Int.reduceEq,Int.reduceLT,Int.reduceLE,Nat.reduceEqDiff,or_self,or_false,false_or,or_true,true_or,if_true,if_false,List.drop_succ_cons,List.drop_zero,Nat.add_sub_cancel,List.getD_cons_zero,List.length_cons]
         repeat (refine And.intro (by first | omega | (unfold top; omega) | decide) ?_)
         refine ⟨_,Weak.refl _,?_⟩
         simp only [go_sem,zab,Nat.reduceAdd,Nat.reduceSub,Nat.reduceMul,Int.reduceToNat,reduceCtorEq,↓reduceIte,Int.reducePow,Nat.reducePow,Int.reduceMod,Nat.reduceLeDiff,Int.reduceLE,Int.reduceNe,Int.reduceEq,Nat.reduceEqDiff,Nat.reduceLT,Nat.reduceBEq,List.map_cons,List.map_nil,List.toList_toArray,Array.toList_append,Option.toArray_some,Option.toArray_none,Bool.and_self,ty]
     · have g0 : ¬ K = 0 := by omega
       have g1 : ¬ K = 1 := by omega
       have g2 : ¬ K = 2 := by omega
       have g3 : ¬ K = 3 := by omega
       have g4 : ¬ K = 4 := by omega
       have d0 := decide_eq_false g0
       have d1 := decide_eq_false g1
       have d2 := decide_eq_false g2
       have d3 := decide_eq_false g3
       have d4 := decide_eq_false g4
       have hS : rdT (x :: r) = ⟨K,zRk 0,0,false,[]⟩ := by
         rw [zdb,hK,if_neg g0,if_neg g1,if_neg g2,if_neg g3,if_neg g4]
       have hq3 : ∃ rs : List Rec,([] : List AV) = rs.map rv := ⟨[],rfl⟩
       have hq4 : List.map rrec ([] : List AV) = [] := rfl
       have hq5 : lenQ [] [] [] := ⟨by simp,by simp,by simp⟩
       have hq6 : intQ 0 0 0 0 0 0 := ⟨zad,zad,zad,zad,zad,zad⟩
       obtain ⟨C,hC⟩ : ∃ C,chkS ⟨K,zRk 0,0,false,[]⟩ = C := ⟨_,rfl⟩
       obtain ⟨W,hW⟩ : ∃ W,zfc ⟨K,zRk 0,0,false,[]⟩ = W := ⟨_,rfl⟩
       have hC' : chkT K 0 [] 0 0 false false 0 0 0 [] [] 0 0 0 0 0 0 [] 0 false [] = C := hC
       have hW' : putT K 0 [] 0 0 false false 0 0 0 [] [] 0 0 0 0 0 0 [] 0 false [] = W := hW
       have hOk : gtOk (x :: r) → gtA (x :: r) = .agg [.w (.int .u8 K),.w (.int .u8 0),.str [],.w (.int .i64 0),.w (.int .i64 0),.w (.bool false),.w (.bool false),.w (.int .i64 0),.w (.int .i64 0),.w (.int .i64 0),.str [],.str [],.w (.int .i64 0),.w (.int .i64 0),.w (.int .i64 0),.w (.int .i64 0),.w (.int .i64 0),.w (.int .i64 0),.sg 6 [] true,.w (.int .i64 0),.w (.bool false),.sb [] true] ∧ (if gtOk (x :: r) then (0 : Int) else 4) = 0 := by
         intro h; unfold gtA gtS; rw [if_pos h,if_pos h,hS]; exact ⟨by simp [stP,g4,zRk,zB,emp],rfl⟩
       have hcase := zdn (x :: r) hne hS hC hW
       rcases hcase with X | X | X
       · obtain ⟨w1,w2⟩ := hOk X.1
         rw [w1,w2]
         simp only [go_sem,zab,Nat.reduceAdd,Nat.reduceSub,Nat.reduceMul,Int.reduceToNat,reduceCtorEq,↓reduceIte,Int.reducePow,Nat.reducePow,Int.reduceMod,Nat.reduceLeDiff,Int.reduceLE,Int.reduceNe,Int.reduceEq,Nat.reduceEqDiff,Nat.reduceLT,Nat.reduceBEq,List.map_cons,List.map_nil,List.toList_toArray,Array.toList_append,Option.toArray_some,Option.toArray_none,Bool.and_self,ty,SgetT,getTPl,fillS,newS,zct,numS,zcx,zcs,zdj,rd,rrd,h0,hK,hb,hr,tk,hC',hW',X.2,okz,okz0,hq3,hq4,hq5,hq6,Nat.zero_le,List.length_nil,d0,d1,d2,d3,d4,k1,k2,Int.reduceEq,Int.reduceLT,Int.reduceLE,Nat.reduceEqDiff,or_self,or_false,false_or,or_true,true_or,if_true,if_false,List.drop_succ_cons,List.drop_zero,Nat.add_sub_cancel,List.getD_cons_zero,List.length_cons]
         repeat (refine And.intro (by first | omega | (unfold top; omega) | decide) ?_)
         refine ⟨_,Weak.refl _,?_⟩
         simp only [go_sem,zab,Nat.reduceAdd,Nat.reduceSub,Nat.reduceMul,Int.reduceToNat,reduceCtorEq,↓reduceIte,Int.reducePow,Nat.reducePow,Int.reduceMod,Nat.reduceLeDiff,Int.reduceLE,Int.reduceNe,Int.reduceEq,Nat.reduceEqDiff,Nat.reduceLT,Nat.reduceBEq,List.map_cons,List.map_nil,List.toList_toArray,Array.toList_append,Option.toArray_some,Option.toArray_none,Bool.and_self,ty,fzL,fzH,AV.fz,Blk.fz,tk]
       all_goals
         obtain ⟨w1,w2⟩ := hNo X.1
         rw [w1,w2]
         simp only [go_sem,zab,Nat.reduceAdd,Nat.reduceSub,Nat.reduceMul,Int.reduceToNat,reduceCtorEq,↓reduceIte,Int.reducePow,Nat.reducePow,Int.reduceMod,Nat.reduceLeDiff,Int.reduceLE,Int.reduceNe,Int.reduceEq,Nat.reduceEqDiff,Nat.reduceLT,Nat.reduceBEq,List.map_cons,List.map_nil,List.toList_toArray,Array.toList_append,Option.toArray_some,Option.toArray_none,Bool.and_self,ty,SgetT,getTPl,fillS,newS,zct,numS,zcx,zcs,zdj,rd,rrd,h0,hK,hb,hr,tk,hC',hW',X.2,okz,okz0,hq3,hq4,hq5,hq6,Nat.zero_le,List.length_nil,d0,d1,d2,d3,d4,k1,k2,Int.reduceEq,Int.reduceLT,Int.reduceLE,Nat.reduceEqDiff,or_self,or_false,false_or,or_true,true_or,if_true,if_false,List.drop_succ_cons,List.drop_zero,Nat.add_sub_cancel,List.getD_cons_zero,List.length_cons]
         repeat (refine And.intro (by first | omega | (unfold top; omega) | decide) ?_)
         refine ⟨_,Weak.refl _,?_⟩
         simp only [go_sem,zab,Nat.reduceAdd,Nat.reduceSub,Nat.reduceMul,Int.reduceToNat,reduceCtorEq,↓reduceIte,Int.reducePow,Nat.reducePow,Int.reduceMod,Nat.reduceLeDiff,Int.reduceLE,Int.reduceNe,Int.reduceEq,Nat.reduceEqDiff,Nat.reduceLT,Nat.reduceBEq,List.map_cons,List.map_nil,List.toList_toArray,Array.toList_append,Option.toArray_some,Option.toArray_none,Bool.and_self,ty]
 · exact hp.elim
end
end Go.Proofs.Ytihbcgbmlecpbaa
namespace Go.Proofs.Ytihbcgbmlecpbaa
open Ax
def gpR : Nat → List UInt8 → Option (List St)
 | _,[] => some []
 | 0,_ :: _ => none
 | n + 1,c :: r => if gtOk (rtS' 65536 (c :: r) 0) then (gpR n (rtL 65536 (c :: r) 0)).map (gtS (rtS' 65536 (c :: r) 0) :: ·) else none
def gpO (b : List UInt8) : Option (List St) := if 65536 < b.length then none else gpR 1000 b
def gtV (s : St) : AV := stP (s,emp s.q.b.rs,!decide (s.k = 4))
def gpX : Option (List St) → AV
 | some l => .tup [.sg 22 (l.map gtV) false,.w (.int .i64 0)]
 | none => .tup [.sg 1 [] true,.w (.int .i64 4)]
def getPS : zak
 | [.sb b fb],[] => ⟨b.length ≤ 1000000,gpX (gpO b),[]⟩
 | _,_ => zbd
theorem gpR_nil (n : Nat) : gpR n [] = some [] := by cases n <;> rfl
theorem gpR_zero {b : List UInt8} (h : b ≠ []) : gpR 0 b = none := by
 cases b with
 | nil => exact (h rfl).elim
 | cons c r => rfl
theorem gpR_bad (n : Nat) {b : List UInt8} (h : b ≠ []) (hg : ¬ gtOk (rtS' 65536 b 0)) : gpR n b = none := by
 cases b with
 | nil => exact (h rfl).elim
 | cons c r =>
   cases n with
   | zero => rfl
   | succ n => unfold gpR; rw [if_neg hg]
theorem gpR_good (n : Nat) {b : List UInt8} (h : b ≠ []) (hg : gtOk (rtS' 65536 b 0)) : gpR (n + 1) b = (gpR n (rtL 65536 b 0)).map (gtS (rtS' 65536 b 0) :: ·) := by
 cases b with
 | nil => exact (h rfl).elim
 | cons c r => conv => lhs; unfold gpR
               rw [if_pos hg]
theorem rt_sum (m : Int) (bs : List UInt8) (e : Int) : (rtS' m bs e).length + (rtL m bs e).length ≤ bs.length := by
 have h := zbm bs e
 unfold rtS' rtL
 split
 · unfold tkB tkL
   split
   · simp only [List.length_nil]; omega
   · rw [List.length_take,List.length_drop]; omega
 · simp only [List.length_nil]; omega
theorem rt_ok (m : Int) (bs : List UInt8) (e : Int) (h : rtS' m bs e ≠ []) : rtE m bs e = 0 := by
 unfold rtS' at h
 split at h
 · rename_i hk
   unfold tkB at h
   split at h
   · exact (h rfl).elim
   · rename_i hn
     unfold rtE
     rw [if_neg (fun g => g hk.1),if_pos hk]
     unfold tkE
     rw [if_neg hn]
 · exact (h rfl).elim
theorem closed_gtV : ∀ (G : List St),closedL (G.map gtV) = true
 | [] => rfl
 | x :: r => by
   have h := closed_gtV r
   simp only [List.map_cons,closedL,h,Bool.and_true]
   rfl
theorem ren_gtV (g : Nat → Nat) : ∀ (G : List St),renL g (G.map gtV) = G.map gtV
 | [] => rfl
 | x :: r => by simp only [List.map_cons,renL,ren_gtV g r]; rfl
theorem map_app_nil (o : Option (List St)) : o.map ([] ++ ·) = o := by cases o <;> rfl
theorem map_app_cons (acc : List St) (x : St) (o : Option (List St)) : (o.map (x :: ·)).map (acc ++ ·) = o.map ((acc ++ [x]) ++ ·) := by cases o <;> simp
def SgetP (f : FuncId) : Option zak :=
 match f with
 | 32 => some newS
 | 39 => some leftS
 | 40 => some zbo
 | 15 => some getTS
 | _ => none
theorem SgetP_ok : Fns Try.prog SgetP := by
 intro f s h
 unfold SgetP at h
 split at h
 · injection h with h; subst h; exact ⟨⟨_,Try.func32,by kernel_rfl,by kernel_rfl⟩,new_sound⟩
 · injection h with h; subst h; exact ⟨⟨_,Try.func39,by kernel_rfl,by kernel_rfl⟩,left_sound⟩
 · injection h with h; subst h; exact ⟨⟨_,Try.func40,by kernel_rfl,by kernel_rfl⟩,mtext_sound⟩
 · injection h with h; subst h; exact ⟨⟨_,Try.func15,by kernel_rfl,by kernel_rfl⟩,getT_sound⟩
 · cases h
section
set_option maxRecDepth 100000
set_option maxHeartbeats 16000000 in
theorem getP_sound : zaq Try.prog 17 getPS := by
 refine zbp (S := SgetP) (T := ty) zau ty_ok SgetP_ok Try.func17 (c := Try.f17.body.getD .skip) (by kernel_rfl) (by kernel_rfl) (fun xs pins hp _ => ?_)
 unfold getPS at hp ⊢
 split at hp
 · rename_i b fb _
   have hb : b.length ≤ 1000000 := hp
   refine ⟨by simp,?_⟩
   have tk : ∀ l : List UInt8,List.take l.length l = l := fun l => List.take_length
   unfold Try.f17
   by_cases hbig : 65536 < b.length
   · have hO : gpO b = none := if_pos hbig
     have d1 : decide ((65536 : Int) < b.length) = true := decide_eq_true (by omega)
     rw [hO]
     simp only [go_sem,zaa,Nat.reduceAdd,Nat.reduceSub,Nat.reduceMul,Int.reduceToNat,reduceCtorEq,↓reduceIte,Int.reducePow,Nat.reducePow,Int.reduceMod,Nat.reduceLeDiff,Int.reduceLE,Int.reduceNe,Int.reduceEq,Nat.reduceEqDiff,Nat.reduceLT,Nat.reduceBEq,ty,SgetP,d1]
     refine ⟨_,Weak.refl _,?_⟩
     simp only [go_sem,zaa,Nat.reduceAdd,Nat.reduceSub,Nat.reduceMul,Int.reduceToNat,reduceCtorEq,↓reduceIte,Int.reducePow,Nat.reducePow,Int.reduceMod,Nat.reduceLeDiff,Int.reduceLE,Int.reduceNe,Int.reduceEq,Nat.reduceEqDiff,Nat.reduceLT,Nat.reduceBEq,ty,gpX]
   have hO : gpO b = gpR 1000 b := if_neg hbig
   have d1 : decide ((65536 : Int) < b.length) = false := decide_eq_false (by omega)
   simp only [go_sem,zaa,Nat.reduceAdd,Nat.reduceSub,Nat.reduceMul,Int.reduceToNat,reduceCtorEq,↓reduceIte,Int.reducePow,Nat.reducePow,Int.reduceMod,Nat.reduceLeDiff,Int.reduceLE,Int.reduceNe,Int.reduceEq,Nat.reduceEqDiff,Nat.reduceLT,Nat.reduceBEq,ty,SgetP,newS,rd,hb,d1]
   refine zdh ⟨fun mm σ => ∃ (acc : List St) (bs : List UInt8) (n : Nat),mm = bs.length ∧ bs.length ≤ b.length ∧ acc.length + n = 1000 ∧ gpO b = (gpR n bs).map (acc ++ ·) ∧
     σ = ⟨[.sb b fb,.junk,.sg 1 [] true,.w (.int .i64 0),.rf 4 2 0 0,.ms 5 22 0 acc.length,.junk,.junk,.junk,.junk,.junk,.junk,.junk,.junk,.junk,.junk,.junk,.junk,.junk,.junk,.junk,.junk,.junk,.junk,.junk,.junk,.junk,.junk,.junk,.junk,.junk,.junk,.junk,.junk,.junk],[(4,.g 2 [.agg [.sb bs false,.w (.int .i64 0)]]),(5,.g 22 (acc.map gtV))],6⟩,?_,?_⟩
   · refine ⟨_,_,(zer 5 22 (.g 22 []) ⟨by decide,rfl⟩ (by exact trivial)).trans (zaf [0,1,2,3,52,76] rfl rfl rfl ?_ ?_),[],b,1000,rfl,Nat.le_refl _,rfl,hO.trans (map_app_nil _).symm,rfl⟩
     · simp only [ssT,zai,zaj,setSlot,gOf,AV.ren,renL,Blk.ren,Ax.look,Ax.put,reduceCtorEq,↓reduceIte,Nat.reduceEqDiff,Nat.reduceLT,Nat.reduceAdd,List.length_append,List.length_cons,List.length_nil,Option.some.injEq]; try simp
       try rfl
     · simp only [ssT,zai,zaj,setSlot,gOf,AV.ren,renL,Blk.ren,Ax.look,Ax.put,reduceCtorEq,↓reduceIte,Nat.reduceEqDiff,Nat.reduceLT,Nat.reduceAdd,List.length_append,List.length_cons,List.length_nil,Option.some.injEq]; try simp [renL]
   · rintro m' σ ⟨acc,bs,n,rfl,hbs,hn,hI,rfl⟩
     have hbs1 : bs.length ≤ 1000000 := by omega
     have hal : (acc.map gtV).length = acc.length := by simp
     by_cases hnil : bs = []
     · subst hnil
       rw [gpR_nil] at hI
       have hI : gpO b = some acc := by rw [hI]; simp
       have hdle : decide (0 + acc.length ≤ (acc.map gtV).length) = true := decide_eq_true (by omega)
       have htk : (acc.map gtV).take acc.length = acc.map gtV := List.take_of_length_le (by omega)
       have dz : decide ((0 : Int) < ((0 : Nat) : Int)) = false := by decide
       rw [hI]
       simp only [go_sem,zaa,Nat.reduceAdd,Nat.reduceSub,Nat.reduceMul,Int.reduceToNat,reduceCtorEq,↓reduceIte,Int.reducePow,Nat.reducePow,Int.reduceMod,Nat.reduceLeDiff,Int.reduceLE,Int.reduceNe,Int.reduceEq,Nat.reduceEqDiff,Nat.reduceLT,Nat.reduceBEq,ty,SgetP,leftS,rd,List.length_nil,dz]
       refine ⟨_,weak_fg 5 22 5 (acc.map gtV) rfl (closed_gtV acc) (by simp [slot,AV.ids]),?_⟩
       simp only [fgL,fgH,AV.fg,Blk.fg,Nat.reduceBEq,cond_true,cond_false,hdle,Bool.and_true,beq_self_eq_true,Bool.true_and,List.drop_zero,htk]
       simp only [go_sem,zaa,Nat.reduceAdd,Nat.reduceSub,Nat.reduceMul,Int.reduceToNat,reduceCtorEq,↓reduceIte,Int.reducePow,Nat.reducePow,Int.reduceMod,Nat.reduceLeDiff,Int.reduceLE,Int.reduceNe,Int.reduceEq,Nat.reduceEqDiff,Nat.reduceLT,Nat.reduceBEq,ty,SgetP,gpX]
       try (refine ⟨_,Weak.refl _,?_⟩; simp only [go_sem,zaa,Nat.reduceAdd,Nat.reduceSub,Nat.reduceMul,Int.reduceToNat,reduceCtorEq,↓reduceIte,Int.reducePow,Nat.reducePow,Int.reduceMod,Nat.reduceLeDiff,Int.reduceLE,Int.reduceNe,Int.reduceEq,Nat.reduceEqDiff,Nat.reduceLT,Nat.reduceBEq,ty,gpX])
     have hpos : 0 < bs.length := by
       rcases Nat.eq_zero_or_pos bs.length with h | h
       · exact (hnil (List.length_eq_zero_iff.1 h)).elim
       · exact h
     have d2 : decide ((0 : Int) < bs.length) = true := decide_eq_true (by omega)
     have hsum := rt_sum 65536 bs 0
     have hok := rt_ok 65536 bs 0
     have hbad := gpR_bad n hnil
     have hzero := gpR_zero hnil
     have hgood := fun n => gpR_good n hnil
     obtain ⟨S,hS⟩ : ∃ S,rtS' 65536 bs 0 = S := ⟨_,rfl⟩
     obtain ⟨L,hL⟩ : ∃ L,rtL 65536 bs 0 = L := ⟨_,rfl⟩
     obtain ⟨E,hE⟩ : ∃ E,rtE 65536 bs 0 = E := ⟨_,rfl⟩
     rw [hS] at hsum hok hbad hgood
     rw [hL] at hsum hgood
     rw [hE] at hok
     have hSl : S.length ≤ 1000000 := by omega
     obtain ⟨s,hM⟩ : ∃ s,gtS S = s := ⟨_,rfl⟩
     have hA : gtA S = .agg [.w (.int .u8 s.k),.w (.int .u8 s.q.k),.str s.q.t,.w (.int .i64 s.q.i),.w (.int .i64 s.q.p),.w (.bool s.q.c),.w (.bool s.q.f),.w (.int .i64 s.q.o),.w (.int .i64 s.q.m),.w (.int .i64 s.q.w),.str s.q.g,.str s.q.mb,.w (.int .i64 s.q.n),.w (.int .i64 s.q.b.b),.w (.int .i64 s.q.b.c),.w (.int .i64 s.q.b.p),.w (.int .i64 s.q.b.e),.w (.int .i64 s.q.b.s),.sg 6 (s.q.b.rs.map rv) (emp s.q.b.rs),.w (.int .i64 s.N),.w (.bool s.D),.sb s.ft (!decide (s.k = 4))] := by unfold gtA; rw [hM]; rfl
     have hcl := zbi s.q.b.rs
     by_cases hg : gtOk S
     · have hg4 : (if gtOk S then (0 : Int) else 4) = 0 := if_pos hg
       have hSn : S ≠ [] := hg.1
       have hE0 : E = 0 := hok hSn
       have hSpos : 0 < S.length := by
         rcases Nat.eq_zero_or_pos S.length with h | h
         · exact (hSn (List.length_eq_zero_iff.1 h)).elim
         · exact h
       cases n with
       | zero =>
         have d3 : decide ((1000 : Int) ≤ acc.length) = true := decide_eq_true (by omega)
         rw [hzero] at hI
         have hI : gpO b = none := hI
         rw [hI]
         simp only [go_sem,zaa,Nat.reduceAdd,Nat.reduceSub,Nat.reduceMul,Int.reduceToNat,reduceCtorEq,↓reduceIte,Int.reducePow,Nat.reducePow,Int.reduceMod,Nat.reduceLeDiff,Int.reduceLE,Int.reduceNe,Int.reduceEq,Nat.reduceEqDiff,Nat.reduceLT,Nat.reduceBEq,ty,SgetP,leftS,zbo,getTS,rd,hbs1,hal,d2,d3,hS,hL,hE,hSl,hA,hg4,tk]
         repeat (refine And.intro (by first | omega | (unfold top; omega) | decide) ?_)
         refine ⟨_,Weak.refl _,?_⟩
         simp only [go_sem,zaa,Nat.reduceAdd,Nat.reduceSub,Nat.reduceMul,Int.reduceToNat,reduceCtorEq,↓reduceIte,Int.reducePow,Nat.reducePow,Int.reduceMod,Nat.reduceLeDiff,Int.reduceLE,Int.reduceNe,Int.reduceEq,Nat.reduceEqDiff,Nat.reduceLT,Nat.reduceBEq,ty,gpX]
         refine ⟨_,Weak.refl _,?_⟩
         simp only [go_sem,zaa,Nat.reduceAdd,Nat.reduceSub,Nat.reduceMul,Int.reduceToNat,reduceCtorEq,↓reduceIte,Int.reducePow,Nat.reducePow,Int.reduceMod,Nat.reduceLeDiff,Int.reduceLE,Int.reduceNe,Int.reduceEq,Nat.reduceEqDiff,Nat.reduceLT,Nat.reduceBEq,ty,gpX]
       | succ n =>
         have d3 : decide ((1000 : Int) ≤ acc.length) = false := decide_eq_false (by omega)
         rw [hgood n hg,hM,map_app_cons] at hI
         have hat : (acc.map gtV) ++ [.agg [.w (.int .u8 s.k),.w (.int .u8 s.q.k),.str s.q.t,.w (.int .i64 s.q.i),.w (.int .i64 s.q.p),.w (.bool s.q.c),.w (.bool s.q.f),.w (.int .i64 s.q.o),.w (.int .i64 s.q.m),.w (.int .i64 s.q.w),.str s.q.g,.str s.q.mb,.w (.int .i64 s.q.n),.w (.int .i64 s.q.b.b),.w (.int .i64 s.q.b.c),.w (.int .i64 s.q.b.p),.w (.int .i64 s.q.b.e),.w (.int .i64 s.q.b.s),.sg 6 (s.q.b.rs.map rv) (emp s.q.b.rs),.w (.int .i64 s.N),.w (.bool s.D),.sb s.ft (!decide (s.k = 4))]] = (acc ++ [s]).map gtV := by rw [List.map_append]; rfl
         simp only [go_sem,zaa,Nat.reduceAdd,Nat.reduceSub,Nat.reduceMul,Int.reduceToNat,reduceCtorEq,↓reduceIte,Int.reducePow,Nat.reducePow,Int.reduceMod,Nat.reduceLeDiff,Int.reduceLE,Int.reduceNe,Int.reduceEq,Nat.reduceEqDiff,Nat.reduceLT,Nat.reduceBEq,ty,SgetP,leftS,zbo,getTS,rd,hbs1,hal,d2,d3,hS,hL,hE,hSl,hA,hg4,hE0,hcl,tk,Int.toNat_natCast]
         repeat (refine And.intro (by first | omega | (unfold top; omega) | decide) ?_)
         refine ⟨L.length,_,by omega,zaf [0,1,2,3,4,190] rfl rfl rfl ?_ ?_,acc ++ [s],L,n,rfl,by omega,by simp; omega,hI,rfl⟩
         · simp only [ssT,zai,zaj,setSlot,gOf,AV.ren,renL,Blk.ren,Ax.look,Ax.put,reduceCtorEq,↓reduceIte,Nat.reduceEqDiff,Nat.reduceLT,Nat.reduceAdd,List.length_append,List.length_cons,List.length_nil,Option.some.injEq]; try simp
         · simp only [ssT,zai,zaj,setSlot,gOf,AV.ren,renL,Blk.ren,Ax.look,Ax.put,reduceCtorEq,↓reduceIte,Nat.reduceEqDiff,Nat.reduceLT,Nat.reduceAdd,List.length_append,List.length_cons,List.length_nil,Option.some.injEq,hat,ren_gtV]; try simp
     · have hg4 : (if gtOk S then (0 : Int) else 4) = 4 := if_neg hg
       rw [hbad hg] at hI
       have hI : gpO b = none := hI
       rw [hI]
       simp only [go_sem,zaa,Nat.reduceAdd,Nat.reduceSub,Nat.reduceMul,Int.reduceToNat,reduceCtorEq,↓reduceIte,Int.reducePow,Nat.reducePow,Int.reduceMod,Nat.reduceLeDiff,Int.reduceLE,Int.reduceNe,Int.reduceEq,Nat.reduceEqDiff,Nat.reduceLT,Nat.reduceBEq,ty,SgetP,leftS,zbo,getTS,rd,hbs1,hal,d2,hS,hL,hE,hSl,hA,hg4,tk]
       repeat (refine And.intro (by first | omega | (unfold top; omega) | decide) ?_)
       refine ⟨_,Weak.refl _,?_⟩
       simp only [go_sem,zaa,Nat.reduceAdd,Nat.reduceSub,Nat.reduceMul,Int.reduceToNat,reduceCtorEq,↓reduceIte,Int.reducePow,Nat.reducePow,Int.reduceMod,Nat.reduceLeDiff,Int.reduceLE,Int.reduceNe,Int.reduceEq,Nat.reduceEqDiff,Nat.reduceLT,Nat.reduceBEq,ty,gpX]
       refine ⟨_,Weak.refl _,?_⟩
       simp only [go_sem,zaa,Nat.reduceAdd,Nat.reduceSub,Nat.reduceMul,Int.reduceToNat,reduceCtorEq,↓reduceIte,Int.reducePow,Nat.reducePow,Int.reduceMod,Nat.reduceLeDiff,Int.reduceLE,Int.reduceNe,Int.reduceEq,Nat.reduceEqDiff,Nat.reduceLT,Nat.reduceBEq,ty,gpX]
 · exact hp.elim
end
end Go.Proofs.Ytihbcgbmlecpbaa
namespace Go.Proofs.Ytihbcgbmlecpbaa
open Ax
def putPS : zak
 | [.sg 22 xs fl],[] => ⟨xs.length ≤ 9223372036854775807 ∧ ∃ es : List (St × Bool × Bool),xs = es.map stP ∧ ∀ p ∈ es,fitS p.1,.tup [.ms 0 1 0 (putP (xs.map ust)).length,.w (.int .i64 (chkP (xs.map ust)))],[.b (putP (xs.map ust))]⟩
 | _,_ => zbd
theorem chkP_long {l : List St} (h : 1000 < l.length) : chkP l = 5 := if_pos h
theorem chkP_err {l : List St} (h : ¬ 1000 < l.length) (h2 : errP l ≠ 0) : chkP l = errP l := by unfold chkP; rw [if_neg h,if_pos h2]
theorem chkP_big {l : List St} (h : ¬ 1000 < l.length) (h2 : errP l = 0) (h3 : 65536 < (layP l).length) : chkP l = 5 := by unfold chkP; rw [if_neg h,if_neg (fun g => g h2),if_pos h3]
theorem chkP_ok {l : List St} (h : ¬ 1000 < l.length) (h2 : errP l = 0) (h3 : ¬ 65536 < (layP l).length) : chkP l = 0 := by unfold chkP; rw [if_neg h,if_neg (fun g => g h2),if_neg h3]
theorem errP_cons {s : St} {r : List St} : errP (s :: r) = if chkS s = 0 then errP r else chkS s := rfl
def SputP (f : FuncId) : Option zak :=
 match f with
 | 8 => some zcs
 | 30 => some zcd
 | _ => none
theorem SputP_ok : Fns Try.prog SputP := by
 intro f s h
 unfold SputP at h
 split at h
 · injection h with h; subst h; exact ⟨⟨_,Try.func8,by kernel_rfl,by kernel_rfl⟩,putT_sound⟩
 · injection h with h; subst h; exact ⟨⟨_,Try.func30,by kernel_rfl,by kernel_rfl⟩,text_sound⟩
 · cases h
section
set_option maxRecDepth 100000
set_option maxHeartbeats 16000000 in
theorem putP_sound : zaq Try.prog 12 putPS := by
 refine zbp (S := SputP) (T := ty) zau ty_ok SputP_ok Try.func12 (c := Try.f12.body.getD .skip) (by kernel_rfl) (by kernel_rfl) (fun xs pins hp _ => ?_)
 unfold putPS at hp ⊢
 split at hp
 · rename_i xs fl _
   obtain ⟨hL,es,rfl,hfit⟩ := hp
   rw [map_ust]
   refine ⟨by simp,?_⟩
   have hll : (es.map stP).length = es.length := by simp
   rw [hll] at hL
   have hlf : (es.map Prod.fst).length = es.length := by simp
   obtain ⟨l,hl⟩ : ∃ l,es.map Prod.fst = l := ⟨_,rfl⟩
   have tk : ∀ l : List UInt8,List.take l.length l = l := fun l => List.take_length
   rw [hl] at hlf ⊢
   unfold Try.f12
   by_cases h1000 : 1000 < l.length
   · have hC := chkP_long h1000
     have hB : putP l = [] := if_neg (by rw [hC]; decide)
     have d1 : decide ((1000 : Int) < es.length) = true := decide_eq_true (by omega)
     rw [hB,hC]
     simp only [go_sem,zaa,Nat.reduceAdd,Nat.reduceSub,Nat.reduceMul,Int.reduceToNat,reduceCtorEq,↓reduceIte,Int.reducePow,Nat.reducePow,Int.reduceMod,Nat.reduceLeDiff,Int.reduceLE,Int.reduceNe,Int.reduceEq,Nat.reduceEqDiff,Nat.reduceLT,Nat.reduceBEq,ty,SputP,hll,d1]
     exact zat 2 3 (by decide) rfl rfl rfl rfl
   have d1 : decide ((1000 : Int) < es.length) = false := decide_eq_false (by omega)
   simp only [go_sem,zaa,Nat.reduceAdd,Nat.reduceSub,Nat.reduceMul,Int.reduceToNat,reduceCtorEq,↓reduceIte,Int.reducePow,Nat.reducePow,Int.reduceMod,Nat.reduceLeDiff,Int.reduceLE,Int.reduceNe,Int.reduceEq,Nat.reduceEqDiff,Nat.reduceLT,Nat.reduceBEq,ty,SputP,hll,d1]
   refine zdh ⟨fun mm σ => ∃ j : Nat,mm = es.length - j ∧ j ≤ es.length ∧ errP (l.take j) = 0 ∧
     σ = ⟨[.sg 22 (es.map stP) fl,.junk,.sg 1 [] true,.w (.int .i64 0),.ms 4 1 0 (layP (l.take j)).length,.junk,.junk,.junk,.junk,.junk,.junk,.junk,.sg 22 (es.map stP) fl,.w (.int .i64 es.length),.w (.int .i64 j),.junk,.junk,.junk,.junk,.junk,.junk,.junk,.junk,.junk,.junk,.junk,.junk,.junk,.junk,.junk,.junk,.junk,.junk,.junk,.junk,.junk],[(4,.b (layP (l.take j)))],5⟩,?_,?_⟩
   · refine ⟨_,_,(zer 4 1 (.b []) rfl (by exact trivial)).trans (zaf [0,1,2,3,76] rfl rfl rfl ?_ ?_),0,rfl,by omega,rfl,rfl⟩
     · simp only [ssT,zai,zaj,setSlot,gOf,AV.ren,renL,Blk.ren,Ax.look,Ax.put,reduceCtorEq,↓reduceIte,Nat.reduceEqDiff,Nat.reduceLT,Nat.reduceAdd,List.length_append,List.length_cons,List.length_nil,Option.some.injEq]; try simp
       try rfl
     · simp only [ssT,zai,zaj,setSlot,gOf,AV.ren,renL,Blk.ren,Ax.look,Ax.put,reduceCtorEq,↓reduceIte,Nat.reduceEqDiff,Nat.reduceLT,Nat.reduceAdd,List.length_append,List.length_cons,List.length_nil,Option.some.injEq]; try simp
       try rfl
   · rintro m' σ ⟨j,rfl,hj,hE,rfl⟩
     have hfl : ∀ s ∈ l.take j,fitS s := by
       intro s hs
       have := List.mem_of_mem_take hs
       rw [← hl] at this
       obtain ⟨p,hp,rfl⟩ := List.mem_map.1 this
       exact hfit p hp
     have hsz := layP_small (l.take j) hE hfl
     have hsz : (layP (l.take j)).length ≤ 60000000 := by rw [List.length_take] at hsz; omega
     by_cases hjl : j < es.length
     · have d2 : decide ((j : Int) < es.length) = true := decide_eq_true (by omega)
       have e1 : ((j : Int) + 1 + 9223372036854775808) % 18446744073709551616 - 9223372036854775808 = ((j + 1 : Nat) : Int) := by omega
       have hjl' : j < l.length := by omega
       have hlj : l[j] = es[j].1 := by subst hl; simp
       have hfs : fitS es[j].1 := hfit es[j] (List.getElem_mem hjl)
       have hdr := errP_drop l j hjl' hE
       rw [List.drop_eq_getElem_cons hjl',hlj] at hdr
       have htake : layP (l.take (j + 1)) = layP (l.take j) ++ zaw (layS es[j].1) := by
         rw [List.take_succ_eq_append_getElem hjl',hlj]; unfold layP; rw [List.flatMap_append]; simp
       have hEn : chkS es[j].1 = 0 → errP (l.take (j + 1)) = 0 := by
         intro h
         rw [List.take_succ_eq_append_getElem hjl',hlj]
         exact errP_snoc _ _ hE h
       have hs : slot (es.map stP) j = stP es[j] := slot_stP es j hjl
       obtain ⟨⟨s,f1,f2⟩,hx⟩ : ∃ x,es[j] = x := ⟨_,rfl⟩
       rw [hx] at hs hfs hdr htake hEn
       simp only at hfs hdr htake hEn
       have hs : slot (es.map stP) j = .agg [.w (.int .u8 s.k),.w (.int .u8 s.q.k),.str s.q.t,.w (.int .i64 s.q.i),.w (.int .i64 s.q.p),.w (.bool s.q.c),.w (.bool s.q.f),.w (.int .i64 s.q.o),.w (.int .i64 s.q.m),.w (.int .i64 s.q.w),.str s.q.g,.str s.q.mb,.w (.int .i64 s.q.n),.w (.int .i64 s.q.b.b),.w (.int .i64 s.q.b.c),.w (.int .i64 s.q.b.p),.w (.int .i64 s.q.b.e),.w (.int .i64 s.q.b.s),.sg 6 (s.q.b.rs.map rv) f1,.w (.int .i64 s.N),.w (.bool s.D),.sb s.ft f2] := hs
       obtain ⟨⟨hk0,hk1⟩,⟨⟨hq0,hq1⟩,lq,iq,h40⟩,hN,hft⟩ := hfs
       have h40 : (s.q.b.rs.map rv).length ≤ 40 := by rw [List.length_map]; exact h40
       have hex : ∃ qs : List Rec,s.q.b.rs.map rv = qs.map rv := ⟨s.q.b.rs,rfl⟩
       have hmr := zag s.q.b.rs
       have hcl := zbi s.q.b.rs
       obtain ⟨C,hC⟩ : ∃ C,chkS s = C := ⟨_,rfl⟩
       have hC' : chkT s.k s.q.k s.q.t s.q.i s.q.p s.q.c s.q.f s.q.o s.q.m s.q.w s.q.g s.q.mb s.q.n s.q.b.b s.q.b.c s.q.b.p s.q.b.e s.q.b.s s.q.b.rs s.N s.D s.ft = C := hC
       obtain ⟨W,hW⟩ : ∃ W,zfc s = W := ⟨_,rfl⟩
       have hW' : putT s.k s.q.k s.q.t s.q.i s.q.p s.q.c s.q.f s.q.o s.q.m s.q.w s.q.g s.q.mb s.q.n s.q.b.b s.q.b.c s.q.b.p s.q.b.e s.q.b.s s.q.b.rs s.N s.D s.ft = W := hW
       by_cases hc : C = 0
       · subst hc
         have d3 : decide ((0 : Int) = 0) = true := rfl
         have hWl : layS s = W := (putS_lay hC).symm.trans hW
         have hWs : W.length ≤ 1000000 := by rw [← hWl]; have := layS_small hC ⟨⟨hk0,hk1⟩,⟨⟨hq0,hq1⟩,lq,iq,by rw [List.length_map] at h40; exact h40⟩,hN,hft⟩; omega
         have hTs := zav W hWs
         rw [hWl] at htake
         simp only [go_sem,zaa,Nat.reduceAdd,Nat.reduceSub,Nat.reduceMul,Int.reduceToNat,reduceCtorEq,↓reduceIte,Int.reducePow,Nat.reducePow,Int.reduceMod,Nat.reduceLeDiff,Int.reduceLE,Int.reduceNe,Int.reduceEq,Nat.reduceEqDiff,Nat.reduceLT,Nat.reduceBEq,ty,SputP,zcs,zcd,hll,d2,hs,hjl,hk0,hk1,hq0,hq1,lq,iq,hN,hft,h40,hex,hmr,hcl,hC',hW',d3,e1,hWs,tk,Int.toNat_natCast]
         repeat (refine And.intro (by first | omega | (unfold top; omega) | decide) ?_)
         refine ⟨es.length - (j + 1),_,by omega,zaf [0,1,2,3,149] rfl rfl rfl ?_ ?_,j + 1,rfl,by omega,hEn hC,rfl⟩
         · simp only [ssT,zai,zaj,setSlot,gOf,AV.ren,renL,Blk.ren,Ax.look,Ax.put,reduceCtorEq,↓reduceIte,Nat.reduceEqDiff,Nat.reduceLT,Nat.reduceAdd,List.length_append,List.length_cons,List.length_nil,Option.some.injEq,htake]; try simp
         · simp only [ssT,zai,zaj,setSlot,gOf,AV.ren,renL,Blk.ren,Ax.look,Ax.put,reduceCtorEq,↓reduceIte,Nat.reduceEqDiff,Nat.reduceLT,Nat.reduceAdd,List.length_append,List.length_cons,List.length_nil,Option.some.injEq,htake]; try simp
       · have d3 : decide (C = 0) = false := decide_eq_false hc
         have hEl : errP l = C := by rw [← hdr,errP_cons,if_neg (by rw [hC]; exact hc),hC]
         have hCC := chkP_err h1000 (by rw [hEl]; exact hc)
         rw [hEl] at hCC
         have hB : putP l = [] := if_neg (by rw [hCC]; exact hc)
         rw [hB,hCC]
         simp only [go_sem,zaa,Nat.reduceAdd,Nat.reduceSub,Nat.reduceMul,Int.reduceToNat,reduceCtorEq,↓reduceIte,Int.reducePow,Nat.reducePow,Int.reduceMod,Nat.reduceLeDiff,Int.reduceLE,Int.reduceNe,Int.reduceEq,Nat.reduceEqDiff,Nat.reduceLT,Nat.reduceBEq,ty,SputP,zcs,zcd,hll,d2,hs,hjl,hk0,hk1,hq0,hq1,lq,iq,hN,hft,h40,hex,hmr,hcl,hC',hW',d3,e1,tk,Int.toNat_natCast]
         repeat (refine And.intro (by first | omega | (unfold top; omega) | decide) ?_)
         refine ⟨_,Weak.refl _,?_⟩
         simp only [go_sem,zaa,Nat.reduceAdd,Nat.reduceSub,Nat.reduceMul,Int.reduceToNat,reduceCtorEq,↓reduceIte,Int.reducePow,Nat.reducePow,Int.reduceMod,Nat.reduceLeDiff,Int.reduceLE,Int.reduceNe,Int.reduceEq,Nat.reduceEqDiff,Nat.reduceLT,Nat.reduceBEq,ty,SputP]
         exact zat 2 3 (by decide) rfl rfl rfl rfl
     · obtain rfl : j = es.length := by omega
       have d2 : decide ((es.length : Int) < es.length) = false := decide_eq_false (by omega)
       rw [← hlf,List.take_length] at hE hsz ⊢
       rw [hlf]
       by_cases hbig : 65536 < (layP l).length
       · have hC := chkP_big h1000 hE hbig
         have hB : putP l = [] := if_neg (by rw [hC]; decide)
         have d3 : decide ((65536 : Int) < (layP l).length) = true := decide_eq_true (by omega)
         rw [hB,hC]
         simp only [go_sem,zaa,Nat.reduceAdd,Nat.reduceSub,Nat.reduceMul,Int.reduceToNat,reduceCtorEq,↓reduceIte,Int.reducePow,Nat.reducePow,Int.reduceMod,Nat.reduceLeDiff,Int.reduceLE,Int.reduceNe,Int.reduceEq,Nat.reduceEqDiff,Nat.reduceLT,Nat.reduceBEq,ty,SputP,hll,d2,d3]
         refine ⟨_,Weak.refl _,?_⟩
         simp only [go_sem,zaa,Nat.reduceAdd,Nat.reduceSub,Nat.reduceMul,Int.reduceToNat,reduceCtorEq,↓reduceIte,Int.reducePow,Nat.reducePow,Int.reduceMod,Nat.reduceLeDiff,Int.reduceLE,Int.reduceNe,Int.reduceEq,Nat.reduceEqDiff,Nat.reduceLT,Nat.reduceBEq,ty,SputP,hll,d2,d3]
         exact zat 2 3 (by decide) rfl rfl rfl rfl
       · have hC := chkP_ok h1000 hE hbig
         have hB : putP l = layP l := if_pos hC
         have d3 : decide ((65536 : Int) < (layP l).length) = false := decide_eq_false (by omega)
         rw [hB,hC]
         simp only [go_sem,zaa,Nat.reduceAdd,Nat.reduceSub,Nat.reduceMul,Int.reduceToNat,reduceCtorEq,↓reduceIte,Int.reducePow,Nat.reducePow,Int.reduceMod,Nat.reduceLeDiff,Int.reduceLE,Int.reduceNe,Int.reduceEq,Nat.reduceEqDiff,Nat.reduceLT,Nat.reduceBEq,ty,SputP,hll,d2,d3]
         refine ⟨_,Weak.refl _,?_⟩
         simp only [go_sem,zaa,Nat.reduceAdd,Nat.reduceSub,Nat.reduceMul,Int.reduceToNat,reduceCtorEq,↓reduceIte,Int.reducePow,Nat.reducePow,Int.reduceMod,Nat.reduceLeDiff,Int.reduceLE,Int.reduceNe,Int.reduceEq,Nat.reduceEqDiff,Nat.reduceLT,Nat.reduceBEq,ty,SputP,hll,d2,d3]
         exact zas 2 3 (by decide) rfl rfl rfl rfl rfl rfl
 · exact hp.elim
end
end Go.Proofs.Ytihbcgbmlecpbaa
