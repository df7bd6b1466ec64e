/- What the proofs of this seat stand on; it asks nothing. -/
import Derived.Test.YtlpjdgkpapjldaaZa10
set_option linter.unusedSimpArgs false
set_option linter.unusedVariables false
namespace Go.Proofs.Ytlpjdgkpapjldaa
open Ax
def rfdW (f : Bool) (Z L M D : Int) (l : List WS) (k : List UInt8) (t n : Int) : FR :=
 if chW Z L M D l = 0 then
   if 64 < k.length then ⟨Z,L,M,D,l,f,[],5⟩
   else if (outB t 0 1099511627776 || outB n (-1073741824) 1073741824) = true then ⟨Z,L,M,D,l,f,[],11⟩
   else if ltW Z L (stW Z t) (mxW M t) = true then ⟨Z,L,M,if 1099511627776 < D + 1 then 1099511627776 else D + 1,l,f,[],0⟩
   else if (putF (stW Z t) k n l).2 = 0 then finF Z L (mxW M t) D (putF (stW Z t) k n l).1 else ⟨Z,L,M,D,l,f,[],(putF (stW Z t) k n l).2⟩
 else ⟨Z,L,M,D,l,f,[],chW Z L M D l⟩
def rfeedS35 : zar
 | [.agg [.w (.int .i64 Z),.w (.int .i64 L),.w (.int .i64 M),.w (.int .i64 D),.sg 6 xs f],.str k,.w (.int .i64 t),.w (.int .i64 n)],[] => ⟨xs.length ≤ 999999 ∧ ∃ l : List WS,xs = l.map wsA,frA (rfdW f Z L M D (xs.map uws) k t n),[]⟩
 | _,_ => zcd
def Srfd35 (f : FuncId) : Option zar :=
 match f with
 | 20 => some zbu
 | 30 => some inS
 | 31 => some zdr
 | 32 => some zcu
 | 33 => some rputS35
 | _ => none
theorem Srfd35_ok : Fns Try.prog Srfd35 := by
 intro f s h
 unfold Srfd35 at h
 split at h
 · injection h with h; subst h; exact ⟨⟨_,Try.func20,by kernel_rfl,by kernel_rfl⟩,rchkW_sound⟩
 · injection h with h; subst h; exact ⟨⟨_,Try.func30,by kernel_rfl,by kernel_rfl⟩,in_sound⟩
 · injection h with h; subst h; exact ⟨⟨_,Try.func31,by kernel_rfl,by kernel_rfl⟩,numb_sound⟩
 · injection h with h; subst h; exact ⟨⟨_,Try.func32,by kernel_rfl,by kernel_rfl⟩,rlate35_sound⟩
 · injection h with h; subst h; exact ⟨⟨_,Try.func33,by kernel_rfl,by kernel_rfl⟩,rput35_sound⟩
 · cases h
def zel : Plan := fun id => match id with
 | 21 => some []
 | 23 => some []
 | _ => none
theorem putF_len (s : Int) (k : List UInt8) (n : Int) (l : List WS) : (putF s k n l).1.length ≤ l.length + 1 := by
 have := plW_le s k l
 unfold putF
 split
 · split
   · show l.length ≤ _; omega
   · show (l.set _ _).length ≤ _; rw [List.length_set]; omega
 · split
   · show l.length ≤ _; omega
   · show (insW s k n l).length ≤ _
     unfold insW; simp only [List.length_append,List.length_take,List.length_cons,List.length_drop]; omega
theorem putF_s {s : Int} {k : List UInt8} {n : Int} {l : List WS} (hs : smlW s) (h : ∀ r ∈ l,smlW r.s) : ∀ r ∈ (putF s k n l).1,smlW r.s := by
 intro r hr
 unfold putF at hr
 split at hr
 · rename_i hth
   split at hr
   · exact h r hr
   · rcases List.mem_or_eq_of_mem_set hr with h1 | rfl
     · exact h r h1
     · unfold rthW at hth
       rw [Bool.and_eq_true] at hth
       have hlt := of_decide_eq_true hth.1
       have := h _ (List.getElem_mem hlt)
       rw [row_eq hlt]; exact this
 · split at hr
   · exact h r hr
   · have hr : r ∈ insW s k n l := hr
     unfold insW at hr
     rcases List.mem_append.1 hr with h1 | h1
     · exact h r (List.mem_of_mem_take h1)
     · rcases List.mem_cons.1 h1 with rfl | h1
       · exact hs
       · exact h r (List.mem_of_mem_drop h1)
section
set_option maxRecDepth 100000
set_option maxHeartbeats 16000000 in
theorem rfeed35_sound : zbi Try.prog 10 rfeedS35 := by
 refine zfs (S := Srfd35) (T := ty) (pl := zel) zbt ty_ok Srfd35_ok Try.func10 (c := Try.f10.body.getD .skip) (by kernel_rfl) (by kernel_rfl) (fun xs pins hp _ => ?_)
 unfold rfeedS35 at hp ⊢
 split at hp
 · rename_i Z L M D xs f k t n _
   obtain ⟨hL,l,rfl⟩ := hp
   rw [List.length_map] at hL
   rw [zai]
   have hle : (l.map wsA).length = l.length := by simp
   have hcl := zag l
   have hex : ∃ p : List WS,l.map wsA = p.map wsA := ⟨l,rfl⟩
   have hL6 : l.length ≤ 9223372036854775807 := by omega
   have ht : top = 4294967296 := rfl
   have hc : ∀ f,coe ty 22 (.sg 6 (l.map wsA) f) = .sg 6 (l.map wsA) f := fun f => by cases l <;> rfl
   refine ⟨by simp,?_⟩
   unfold Try.f10
   by_cases hch : chW Z L M D l = 0
   · obtain ⟨oZ,oL,oM,oD,ol,hris,hrow⟩ := ch_ok hch
     have d0 : decide (chW Z L M D l = 0) = true := decide_eq_true hch
     by_cases hk : 64 < k.length
     · have hv : rfdW f Z L M D l k t n = ⟨Z,L,M,D,l,f,[],5⟩ := by unfold rfdW; rw [if_pos hch,if_pos hk]
       have d1 : decide ((64 : Int) < (k.length : Int)) = true := decide_eq_true (by omega)
       rw [hv]
       simp only [go_sem,zab,Nat.reduceAdd,Nat.reduceSub,Nat.reduceMul,Int.reduceToNat,reduceCtorEq,↓reduceIte,Int.reducePow,Nat.reducePow,Int.reduceMod,Nat.reduceLeDiff,Int.reduceLE,Int.reduceNe,Int.reduceEq,Nat.reduceEqDiff,Nat.reduceLT,Nat.reduceBEq,List.map_cons,List.map_nil,List.toList_toArray,Array.toList_append,Option.toArray_some,Option.toArray_none,Bool.and_self,ty,Srfd35,zel,zbu,hle,hL6,hc,hex,zai,hch,d0,d1,decide_true,Bool.not_true,Bool.not_false]
       refine ⟨_,zas 9 (.sg 6 [] false) (fun w loc v h => zbd 6 h),?_⟩
       simp only [go_sem,zab,Nat.reduceAdd,Nat.reduceSub,Nat.reduceMul,Int.reduceToNat,reduceCtorEq,↓reduceIte,Int.reducePow,Nat.reducePow,Int.reduceMod,Nat.reduceLeDiff,Int.reduceLE,Int.reduceNe,Int.reduceEq,Nat.reduceEqDiff,Nat.reduceLT,Nat.reduceBEq,List.map_cons,List.map_nil,List.toList_toArray,Array.toList_append,Option.toArray_some,Option.toArray_none,Bool.and_self,ty,frA,List.map_nil,setSlot,hcl]
     · have d1 : decide ((64 : Int) < (k.length : Int)) = false := decide_eq_false (by omega)
       cases hot : outB t 0 1099511627776 with
       | true =>
         have hv : rfdW f Z L M D l k t n = ⟨Z,L,M,D,l,f,[],11⟩ := by unfold rfdW; rw [if_pos hch,if_neg hk,if_pos (by rw [hot]; rfl)]
         rw [hv]
         simp only [go_sem,zab,Nat.reduceAdd,Nat.reduceSub,Nat.reduceMul,Int.reduceToNat,reduceCtorEq,↓reduceIte,Int.reducePow,Nat.reducePow,Int.reduceMod,Nat.reduceLeDiff,Int.reduceLE,Int.reduceNe,Int.reduceEq,Nat.reduceEqDiff,Nat.reduceLT,Nat.reduceBEq,List.map_cons,List.map_nil,List.toList_toArray,Array.toList_append,Option.toArray_some,Option.toArray_none,Bool.and_self,ty,Srfd35,zel,zbu,inS,zdr,hle,hL6,hc,hex,zai,hch,d0,d1,hot,decide_true,Bool.not_true,Bool.not_false]
         refine ⟨_,zas 9 (.sg 6 [] false) (fun w loc v h => zbd 6 h),?_⟩
         simp only [go_sem,zab,Nat.reduceAdd,Nat.reduceSub,Nat.reduceMul,Int.reduceToNat,reduceCtorEq,↓reduceIte,Int.reducePow,Nat.reducePow,Int.reduceMod,Nat.reduceLeDiff,Int.reduceLE,Int.reduceNe,Int.reduceEq,Nat.reduceEqDiff,Nat.reduceLT,Nat.reduceBEq,List.map_cons,List.map_nil,List.toList_toArray,Array.toList_append,Option.toArray_some,Option.toArray_none,Bool.and_self,ty,frA,List.map_nil,setSlot,hcl]
       | false =>
         cases hon : outB n (-1073741824) 1073741824 with
         | true =>
           have hv : rfdW f Z L M D l k t n = ⟨Z,L,M,D,l,f,[],11⟩ := by unfold rfdW; rw [if_pos hch,if_neg hk,if_pos (by rw [hot,hon]; rfl)]
           rw [hv]
           simp only [go_sem,zab,Nat.reduceAdd,Nat.reduceSub,Nat.reduceMul,Int.reduceToNat,reduceCtorEq,↓reduceIte,Int.reducePow,Nat.reducePow,Int.reduceMod,Nat.reduceLeDiff,Int.reduceLE,Int.reduceNe,Int.reduceEq,Nat.reduceEqDiff,Nat.reduceLT,Nat.reduceBEq,List.map_cons,List.map_nil,List.toList_toArray,Array.toList_append,Option.toArray_some,Option.toArray_none,Bool.and_self,ty,Srfd35,zel,zbu,inS,zdr,hle,hL6,hc,hex,zai,hch,d0,d1,hot,hon,decide_true,Bool.not_true,Bool.not_false]
           refine ⟨_,zas 9 (.sg 6 [] false) (fun w loc v h => zbd 6 h),?_⟩
           simp only [go_sem,zab,Nat.reduceAdd,Nat.reduceSub,Nat.reduceMul,Int.reduceToNat,reduceCtorEq,↓reduceIte,Int.reducePow,Nat.reducePow,Int.reduceMod,Nat.reduceLeDiff,Int.reduceLE,Int.reduceNe,Int.reduceEq,Nat.reduceEqDiff,Nat.reduceLT,Nat.reduceBEq,List.map_cons,List.map_nil,List.toList_toArray,Array.toList_append,Option.toArray_some,Option.toArray_none,Bool.and_self,ty,frA,List.map_nil,setSlot,hcl]
         | false =>
           have ot := zaq hot
           have on := zaq hon
           have hz : ¬ Z = 0 := by omega
           have hsb := st_bound oZ.1 ot.1
           have w1 : (t - t.tmod Z + 9223372036854775808) % 18446744073709551616 - 9223372036854775808 = stW Z t := by unfold stW at *; omega
           have wD : (D + 1 + 9223372036854775808) % 18446744073709551616 - 9223372036854775808 = D + 1 := by omega
           have sZ : smlW Z := ⟨by omega,by omega⟩
           have sL : smlW L := ⟨by omega,by omega⟩
           have sS : smlW (stW Z t) := ⟨by omega,by omega⟩
           have hmx : (if M < t then t else M) = mxW M t := rfl
           have sN : smlW n := ⟨by omega,by omega⟩
           obtain ⟨ST,hST⟩ : ∃ x,stW Z t = x := ⟨_,rfl⟩
           obtain ⟨MK,hMK⟩ : ∃ x,mxW M t = x := ⟨_,rfl⟩
           rw [hST] at w1 sS
           rw [hMK] at hmx
           cases hlt : ltW Z L ST MK with
           | true =>
             have hv : rfdW f Z L M D l k t n = ⟨Z,L,M,if 1099511627776 < D + 1 then 1099511627776 else D + 1,l,f,[],0⟩ := by
               unfold rfdW; rw [if_pos hch,if_neg hk,if_neg (by rw [hot,hon]; simp),if_pos (by rw [hST,hMK]; exact hlt)]
             rw [hv]
             simp only [go_sem,zab,Nat.reduceAdd,Nat.reduceSub,Nat.reduceMul,Int.reduceToNat,reduceCtorEq,↓reduceIte,Int.reducePow,Nat.reducePow,Int.reduceMod,Nat.reduceLeDiff,Int.reduceLE,Int.reduceNe,Int.reduceEq,Nat.reduceEqDiff,Nat.reduceLT,Nat.reduceBEq,List.map_cons,List.map_nil,List.toList_toArray,Array.toList_append,Option.toArray_some,Option.toArray_none,Bool.and_self,ty,Srfd35,zel,zbu,inS,zdr,zcu,hle,hL,hL6,hc,hex,hz,hcl,w1,wD,hmx,hlt,sZ,sL,sS,zai,hch,d0,d1,hot,hon,decide_true,Bool.not_true,Bool.not_false]
             refine ⟨_,zas 9 (.sg 6 [] false) (fun w loc v h => zbd 6 h),?_⟩
             simp only [go_sem,zab,Nat.reduceAdd,Nat.reduceSub,Nat.reduceMul,Int.reduceToNat,reduceCtorEq,↓reduceIte,Int.reducePow,Nat.reducePow,Int.reduceMod,Nat.reduceLeDiff,Int.reduceLE,Int.reduceNe,Int.reduceEq,Nat.reduceEqDiff,Nat.reduceLT,Nat.reduceBEq,List.map_cons,List.map_nil,List.toList_toArray,Array.toList_append,Option.toArray_some,Option.toArray_none,Bool.and_self,ty,frA,List.map_nil,setSlot,hcl]
           | false =>
             have hexc : ∃ p : List WS,l.map wsA = p.map wsA ∧ ∀ r ∈ p,smlW r.c ∧ smlW r.t := ⟨l,rfl,fun r hr => by
               have := hrow r hr
               exact ⟨⟨by omega,by omega⟩,by omega,by omega⟩⟩
             have hl1 := putF_len ST k n l
             have hs1 := putF_s (k := k) (n := n) sS (fun r hr => (⟨by have := hrow r hr; omega,by have := hrow r hr; omega⟩ : smlW r.s))
             have hv : rfdW f Z L M D l k t n = if (putF ST k n l).2 = 0 then finF Z L MK D (putF ST k n l).1 else ⟨Z,L,M,D,l,f,[],(putF ST k n l).2⟩ := by
               unfold rfdW; rw [if_pos hch,if_neg hk,if_neg (by rw [hot,hon]; simp),if_neg (by rw [hST,hMK,hlt]; simp),hST,hMK]
             rw [hv]
             obtain ⟨P,hP⟩ : ∃ P,putF ST k n l = P := ⟨_,rfl⟩
             rw [hP] at hl1 hs1 ⊢
             obtain ⟨l1,e1⟩ := P
             simp only at hl1 hs1 ⊢
             by_cases he : e1 = 0
             · have de : decide (e1 = 0) = true := decide_eq_true he
               rw [if_pos he]
               have hle1 : (l1.map wsA).length = l1.length := by simp
               simp only [go_sem,zab,Nat.reduceAdd,Nat.reduceSub,Nat.reduceMul,Int.reduceToNat,reduceCtorEq,↓reduceIte,Int.reducePow,Nat.reducePow,Int.reduceMod,Nat.reduceLeDiff,Int.reduceLE,Int.reduceNe,Int.reduceEq,Nat.reduceEqDiff,Nat.reduceLT,Nat.reduceBEq,List.map_cons,List.map_nil,List.toList_toArray,Array.toList_append,Option.toArray_some,Option.toArray_none,Bool.and_self,ty,Srfd35,zel,zbu,inS,zdr,zcu,rputS35,hP,hexc,sN,de,hle1,hle,hL,hL6,hc,hex,hz,hcl,w1,wD,hmx,hlt,sZ,sL,sS,zai,hch,d0,d1,hot,hon,decide_true,Bool.not_true,Bool.not_false]
               have hL1 : l1.length ≤ 1000000 := by omega
               simp only [frA,finF]
               refine zdx ⟨fun m σ => ∃ (j a b : Nat),m = l1.length - j ∧ j ≤ l1.length ∧ a = (opW Z L MK (l1.take j)).length ∧ b = (clW Z L MK (l1.take j)).length ∧
                 σ = ⟨[.agg [.w (.int .i64 Z),.w (.int .i64 L),.w (.int .i64 M),.w (.int .i64 D),.sg 6 (l.map wsA) f],.junk,.junk,.junk,.rf 4 5 0 0,.junk,.junk,.junk,.rf 5 5 0 0,.sg 1 [] true,.w (.int .i64 0),.junk,.junk,.w (.int .i64 MK),.sg 6 (l1.map wsA) false,.rf 6 5 0 0,.ms 8 6 0 b,.w (.int .i64 j),.junk,.junk,.junk,.junk,.junk,.junk,.junk,.junk,.junk,.junk,.junk,.junk,.junk,.junk,.junk,.junk,.junk,.junk,.junk,.junk,.junk,.junk,.junk,.junk,.junk,.junk,.junk,.junk,.junk,.junk,.junk,.junk,.junk,.junk,.junk,.junk,.junk,.junk,.junk,.junk,.junk,.junk,.junk,.junk,.junk,.junk,.junk,.junk,.junk,.junk,.junk,.junk,.junk,.junk,.junk,.junk,.junk,.junk,.junk,.junk,.junk,.junk,.junk,.junk,.junk,.junk,.junk,.junk,.junk,.junk,.junk,.junk,.junk,.junk,.junk,.junk,.junk,.junk,.junk,.junk,.junk,.junk,.junk,.junk,.junk,.junk,.junk,.junk,.junk,.junk,.junk,.junk,.junk,.junk,.junk],
                   [(4,.g 5 [.agg [.w (.int .i64 Z),.w (.int .i64 L),.w (.int .i64 M),.w (.int .i64 D),.sg 6 (l.map wsA) f]]),(5,.g 5 [.agg [.w (.int .i64 0),.w (.int .i64 0),.w (.int .i64 0),.w (.int .i64 0),.sg 6 [] true]]),(6,.g 5 [.agg [.w (.int .i64 Z),.w (.int .i64 L),.w (.int .i64 MK),.w (.int .i64 D),.ms 7 6 0 a]]),(7,.g 6 ((opW Z L MK (l1.take j)).map wsA)),(8,.g 6 ((clW Z L MK (l1.take j)).map wsA))],9⟩,?_,?_⟩
               · refine ⟨_,_,(weak_nilB 484 5 4 6 [.w (.int .i64 Z),.w (.int .i64 L),.w (.int .i64 MK),.w (.int .i64 D),.sg 1 [] true] rfl (by simp) (by exact trivial) (by decide)).trans ((weak_nil 16 6 (.g 6 []) ⟨by decide,rfl⟩ (by exact trivial)).trans (zao [0,1,2,3,4,12,484,516,517] rfl rfl rfl ?_ ?_)),0,0,0,rfl,by omega,rfl,rfl,rfl⟩
                 · simp only [ssT,zax,zay,setSlot,gOf,AV.ren,renL,Blk.ren,Ax.look,Ax.put,reduceCtorEq,↓reduceIte,Nat.reduceEqDiff,Nat.reduceLT,Nat.reduceAdd,List.length_append,List.length_cons,List.length_nil,Option.some.injEq,zbv]; try simp
                 · simp only [ssT,zax,zay,setSlot,gOf,AV.ren,renL,Blk.ren,Ax.look,Ax.put,reduceCtorEq,↓reduceIte,Nat.reduceEqDiff,Nat.reduceLT,Nat.reduceAdd,List.length_append,List.length_cons,List.length_nil,Option.some.injEq,zbv]; try simp [renL,opW,clW]
                   try rfl
               · rintro m σ ⟨j,a,b,rfl,hj,ha,hb,rfl⟩
                 have hla : ((opW Z L MK (l1.take j)).map wsA).length = a := by rw [List.length_map]; exact ha.symm
                 have hlb : ((clW Z L MK (l1.take j)).map wsA).length = b := by rw [List.length_map]; exact hb.symm
                 have hab : a ≤ j ∧ b ≤ j := by
                   have h1 : a ≤ (l1.take j).length := by rw [ha]; exact List.length_filter_le _ _
                   have h2 : b ≤ (l1.take j).length := by rw [hb]; exact List.length_filter_le _ _
                   rw [List.length_take] at h1 h2
                   omega
                 by_cases hjl : j < l1.length
                 · have e1 : ((j : Int) + 1 + 9223372036854775808) % 18446744073709551616 - 9223372036854775808 = ((j + 1 : Nat) : Int) := by omega
                   have d1 : decide ((j : Int) < l1.length) = true := decide_eq_true (by omega)
                   have hs2 := zbq l1 j hjl
                   have hsm := hs1 l1[j] (List.getElem_mem hjl)
                   have htk : l1.take (j + 1) = l1.take j ++ [l1[j]] := List.take_succ_eq_append_getElem hjl
                   obtain ⟨r,hr⟩ : ∃ r,l1[j] = r := ⟨_,rfl⟩
                   rw [hr] at hs2 hsm htk
                   obtain ⟨s,k,c,t,x,y⟩ := r
                   have hs2 : slot (l1.map wsA) j = .agg [.w (.int .i64 s),.str k,.w (.int .i64 c),.w (.int .i64 t),.w (.int .i64 x),.w (.int .i64 y)] := hs2
                   simp only at hsm
                   cases hv : ltW Z L s MK with
                   | true =>
                     have ho : opW Z L MK (l1.take (j + 1)) = opW Z L MK (l1.take j) := by unfold opW; rw [htk,List.filter_append]; simp [hv]
                     have hc : clW Z L MK (l1.take (j + 1)) = clW Z L MK (l1.take j) ++ [⟨s,k,c,t,x,y⟩] := by unfold clW; rw [htk,List.filter_append]; simp [hv]
                     have hat : (clW Z L MK (l1.take j)).map wsA ++ [.agg [.w (.int .i64 s),.str k,.w (.int .i64 c),.w (.int .i64 t),.w (.int .i64 x),.w (.int .i64 y)]] = (clW Z L MK (l1.take (j + 1))).map wsA := by rw [hc,List.map_append]; rfl
                     simp only [go_sem,zab,Nat.reduceAdd,Nat.reduceSub,Nat.reduceMul,Int.reduceToNat,reduceCtorEq,↓reduceIte,Int.reducePow,Nat.reducePow,Int.reduceMod,Nat.reduceLeDiff,Int.reduceLE,Int.reduceNe,Int.reduceEq,Nat.reduceEqDiff,Nat.reduceLT,Nat.reduceBEq,List.map_cons,List.map_nil,List.toList_toArray,Array.toList_append,Option.toArray_some,Option.toArray_none,Bool.and_self,ty,Srfd35,zel,zcu,hle1,hlb,d1,e1,hs2,hv,hsm,sZ,sL,zdk,hat,Int.toNat_natCast,Bool.not_true,Bool.not_false]
                     repeat (refine And.intro (by omega) ?_)
                     refine ⟨l1.length - (j + 1),_,by omega,zao [0,1,2,3,4,5,6,7,153] rfl rfl rfl ?_ ?_,j + 1,a,b + 1,rfl,by omega,by rw [ho]; exact ha,by rw [hc,List.length_append,← hb]; rfl,rfl⟩
                     · simp only [ssT,zax,zay,setSlot,gOf,AV.ren,renL,Blk.ren,Ax.look,Ax.put,reduceCtorEq,↓reduceIte,Nat.reduceEqDiff,Nat.reduceLT,Nat.reduceAdd,List.length_append,List.length_cons,List.length_nil,Option.some.injEq,zbv]; try simp
                     · simp only [ssT,zax,zay,setSlot,gOf,AV.ren,renL,Blk.ren,Ax.look,Ax.put,reduceCtorEq,↓reduceIte,Nat.reduceEqDiff,Nat.reduceLT,Nat.reduceAdd,List.length_append,List.length_cons,List.length_nil,Option.some.injEq,zbv,ho]; try simp
                   | false =>
                     have ho : opW Z L MK (l1.take (j + 1)) = opW Z L MK (l1.take j) ++ [⟨s,k,c,t,x,y⟩] := by unfold opW; rw [htk,List.filter_append]; simp [hv]
                     have hc : clW Z L MK (l1.take (j + 1)) = clW Z L MK (l1.take j) := by unfold clW; rw [htk,List.filter_append]; simp [hv]
                     have hat : (opW Z L MK (l1.take j)).map wsA ++ [.agg [.w (.int .i64 s),.str k,.w (.int .i64 c),.w (.int .i64 t),.w (.int .i64 x),.w (.int .i64 y)]] = (opW Z L MK (l1.take (j + 1))).map wsA := by rw [ho,List.map_append]; rfl
                     simp only [go_sem,zab,Nat.reduceAdd,Nat.reduceSub,Nat.reduceMul,Int.reduceToNat,reduceCtorEq,↓reduceIte,Int.reducePow,Nat.reducePow,Int.reduceMod,Nat.reduceLeDiff,Int.reduceLE,Int.reduceNe,Int.reduceEq,Nat.reduceEqDiff,Nat.reduceLT,Nat.reduceBEq,List.map_cons,List.map_nil,List.toList_toArray,Array.toList_append,Option.toArray_some,Option.toArray_none,Bool.and_self,ty,Srfd35,zel,zcu,hle1,hla,d1,e1,hs2,hv,hsm,sZ,sL,zdk,hat,Int.toNat_natCast,Bool.not_true,Bool.not_false]
                     repeat (refine And.intro (by omega) ?_)
                     refine ⟨l1.length - (j + 1),_,by omega,zao [0,1,2,3,4,5,6,161,8] rfl rfl rfl ?_ ?_,j + 1,a + 1,b,rfl,by omega,by rw [ho,List.length_append,← ha]; rfl,by rw [hc]; exact hb,rfl⟩
                     · simp only [ssT,zax,zay,setSlot,gOf,AV.ren,renL,Blk.ren,Ax.look,Ax.put,reduceCtorEq,↓reduceIte,Nat.reduceEqDiff,Nat.reduceLT,Nat.reduceAdd,List.length_append,List.length_cons,List.length_nil,Option.some.injEq,zbv]; try simp
                     · simp only [ssT,zax,zay,setSlot,gOf,AV.ren,renL,Blk.ren,Ax.look,Ax.put,reduceCtorEq,↓reduceIte,Nat.reduceEqDiff,Nat.reduceLT,Nat.reduceAdd,List.length_append,List.length_cons,List.length_nil,Option.some.injEq,zbv,hc]; try simp
                 · have d1 : decide ((j : Int) < l1.length) = false := decide_eq_false (by omega)
                   have hii : l1.take j = l1 := List.take_of_length_le (by omega)
                   rw [hii] at hla hlb ha hb ⊢
                   have dla : decide (a ≤ ((opW Z L MK l1).map wsA).length) = true := decide_eq_true (by omega)
                   have dlb : decide (b ≤ ((clW Z L MK l1).map wsA).length) = true := decide_eq_true (by omega)
                   have tka : ((opW Z L MK l1).map wsA).take a = (opW Z L MK l1).map wsA := List.take_of_length_le (by omega)
                   have tkb : ((clW Z L MK l1).map wsA).take b = (clW Z L MK l1).map wsA := List.take_of_length_le (by omega)
                   simp only [go_sem,zab,Nat.reduceAdd,Nat.reduceSub,Nat.reduceMul,Int.reduceToNat,reduceCtorEq,↓reduceIte,Int.reducePow,Nat.reducePow,Int.reduceMod,Nat.reduceLeDiff,Int.reduceLE,Int.reduceNe,Int.reduceEq,Nat.reduceEqDiff,Nat.reduceLT,Nat.reduceBEq,List.map_cons,List.map_nil,List.toList_toArray,Array.toList_append,Option.toArray_some,Option.toArray_none,Bool.and_self,ty,Srfd35,zel,hle1,d1]
                   refine ⟨_,(weak_fg 8 6 16 ((clW Z L MK l1).map wsA) rfl (zag _) (by simp [slot,AV.ids])).trans (weak_fgC 7 6 15 6 ((opW Z L MK l1).map wsA) (.g 5 [.agg [.w (.int .i64 Z),.w (.int .i64 L),.w (.int .i64 MK),.w (.int .i64 D),.ms 7 6 0 a]]) ?_ (zag _) rfl ?_ (by simp [Blk.idsB,Blk.closed,closedL,AV.closed,idsL,AV.ids])),?_⟩
                   · simp [fgH,Ax.look,Blk.fg,fg_ws,fgL,AV.fg]
                   · simp [fgL,AV.fg,slot,AV.ids]
                   simp only [go_sem,zab,Nat.reduceAdd,Nat.reduceSub,Nat.reduceMul,Int.reduceToNat,reduceCtorEq,↓reduceIte,Int.reducePow,Nat.reducePow,Int.reduceMod,Nat.reduceLeDiff,Int.reduceLE,Int.reduceNe,Int.reduceEq,Nat.reduceEqDiff,Nat.reduceLT,Nat.reduceBEq,List.map_cons,List.map_nil,List.toList_toArray,Array.toList_append,Option.toArray_some,Option.toArray_none,Bool.and_self,ty,fgL,fgH,AV.fg,Blk.fg,Nat.reduceBEq,cond_true,cond_false,beq_self_eq_true,Bool.true_and,List.drop_zero,Nat.zero_add,fg_ws,dla,dlb,tka,tkb,zag,zbv,zel]
                   refine ⟨_,Weak.refl _,?_⟩
                   simp only [go_sem,zab,Nat.reduceAdd,Nat.reduceSub,Nat.reduceMul,Int.reduceToNat,reduceCtorEq,↓reduceIte,Int.reducePow,Nat.reducePow,Int.reduceMod,Nat.reduceLeDiff,Int.reduceLE,Int.reduceNe,Int.reduceEq,Nat.reduceEqDiff,Nat.reduceLT,Nat.reduceBEq,List.map_cons,List.map_nil,List.toList_toArray,Array.toList_append,Option.toArray_some,Option.toArray_none,Bool.and_self,ty,zag,zbv,cond_true]
             · have de : decide (e1 = 0) = false := decide_eq_false he
               rw [if_neg he]
               simp only [go_sem,zab,Nat.reduceAdd,Nat.reduceSub,Nat.reduceMul,Int.reduceToNat,reduceCtorEq,↓reduceIte,Int.reducePow,Nat.reducePow,Int.reduceMod,Nat.reduceLeDiff,Int.reduceLE,Int.reduceNe,Int.reduceEq,Nat.reduceEqDiff,Nat.reduceLT,Nat.reduceBEq,List.map_cons,List.map_nil,List.toList_toArray,Array.toList_append,Option.toArray_some,Option.toArray_none,Bool.and_self,ty,Srfd35,zel,zbu,inS,zdr,zcu,rputS35,hP,hexc,sN,de,hle,hL,hL6,hc,hex,hz,hcl,w1,wD,hmx,hlt,sZ,sL,sS,zai,hch,d0,d1,hot,hon,decide_true,Bool.not_true,Bool.not_false]
               refine ⟨_,zas 9 (.sg 6 [] false) (fun w loc v h => zbd 6 h),?_⟩
               simp only [go_sem,zab,Nat.reduceAdd,Nat.reduceSub,Nat.reduceMul,Int.reduceToNat,reduceCtorEq,↓reduceIte,Int.reducePow,Nat.reducePow,Int.reduceMod,Nat.reduceLeDiff,Int.reduceLE,Int.reduceNe,Int.reduceEq,Nat.reduceEqDiff,Nat.reduceLT,Nat.reduceBEq,List.map_cons,List.map_nil,List.toList_toArray,Array.toList_append,Option.toArray_some,Option.toArray_none,Bool.and_self,ty,frA,List.map_nil,setSlot,hcl]
   · have hv : rfdW f Z L M D l k t n = ⟨Z,L,M,D,l,f,[],chW Z L M D l⟩ := by unfold rfdW; rw [if_neg hch]
     have d0 : decide (chW Z L M D l = 0) = false := decide_eq_false hch
     rw [hv]
     simp only [go_sem,zab,Nat.reduceAdd,Nat.reduceSub,Nat.reduceMul,Int.reduceToNat,reduceCtorEq,↓reduceIte,Int.reducePow,Nat.reducePow,Int.reduceMod,Nat.reduceLeDiff,Int.reduceLE,Int.reduceNe,Int.reduceEq,Nat.reduceEqDiff,Nat.reduceLT,Nat.reduceBEq,List.map_cons,List.map_nil,List.toList_toArray,Array.toList_append,Option.toArray_some,Option.toArray_none,Bool.and_self,ty,Srfd35,zel,zbu,hle,hL6,hc,hex,zai,d0,Bool.not_true,Bool.not_false]
     refine ⟨_,zas 9 (.sg 6 [] false) (fun w loc v h => zbd 6 h),?_⟩
     simp only [go_sem,zab,Nat.reduceAdd,Nat.reduceSub,Nat.reduceMul,Int.reduceToNat,reduceCtorEq,↓reduceIte,Int.reducePow,Nat.reducePow,Int.reduceMod,Nat.reduceLeDiff,Int.reduceLE,Int.reduceNe,Int.reduceEq,Nat.reduceEqDiff,Nat.reduceLT,Nat.reduceBEq,List.map_cons,List.map_nil,List.toList_toArray,Array.toList_append,Option.toArray_some,Option.toArray_none,Bool.and_self,ty,frA,List.map_nil,setSlot,hcl]
 · exact hp.elim
end
end Go.Proofs.Ytlpjdgkpapjldaa
namespace Go.Proofs.Ytlpjdgkpapjldaa
open Ax
def as35S : zar
 | [.sg 6 xs f],[] => ⟨xs.length ≤ 1000000 ∧ ∃ l : List WS,xs = l.map wsA,.sg 6 xs false,[]⟩
 | _,_ => zcd
def back35S : zar
 | [.agg [.w (.int .i64 Z),.w (.int .i64 L),.w (.int .i64 M),.w (.int .i64 D),.sg 6 xs f]],[] => ⟨xs.length ≤ 1000000 ∧ ∃ l : List WS,xs = l.map wsA,.agg [.w (.int .i64 Z),.w (.int .i64 L),.w (.int .i64 M),.w (.int .i64 D),.sg 6 xs false],[]⟩
 | _,_ => zcd
theorem slot_fgLW (id s : Nat) (zs : List AV) : ∀ (sl : List AV) (i : Nat),slot (fgL id s zs sl) i = (slot sl i).fg id s zs
 | [],i => rfl
 | x :: sl,0 => rfl
 | x :: sl,i + 1 => slot_fgLW id s zs sl i
theorem gW_ends {T : zac} {sl : List AV} {H : Heap} {nx id n s : Nat} {ws rs : List AV} {q : Prop} (i : Nat) (h2 : slot sl i = .ms id s 0 n) (hl : Ax.look H id = some (.g s ws)) (hc : closedL ws = true) (hn : n = ws.length) (hr : rs = ws) :
   EndsW T [.tmp i] [] ⟨q,.sg s rs false,[]⟩ .ret ⟨sl,H,nx⟩ := by
 subst hn hr
 have hs : slot (fgL id s rs sl) i = .sg s rs false := by
   rw [slot_fgLW,h2]
   simp [AV.fg]
 refine ⟨_,weak_fg id s i rs hl hc (by rw [h2]; simp [AV.ids]),?_⟩
 simp only [Ax.Ends,Ax.rvals,EndsX,rone,hs,AV.ids,idsL,newIds,upTo,nodup,pinsOf,List.nil_append,AV.ren,renL,and_self]
section
set_option maxRecDepth 100000
set_option maxHeartbeats 4000000 in
theorem as35_sound : zbi Try.prog 18 as35S := by
 refine zeh (S := noS) (T := ty) zbt ty_ok zdj Try.func18 (c := Try.f18.body.getD .skip) (by kernel_rfl) (by kernel_rfl) (fun xs pins hp _ => ?_)
 unfold as35S at hp ⊢
 split at hp
 · rename_i xs f _
   obtain ⟨hL,l,rfl⟩ := hp
   rw [List.length_map] at hL
   have hle : (l.map wsA).length = l.length := by simp
   have ht : top = 4294967296 := rfl
   refine ⟨by simp,?_⟩
   unfold Try.f18
   simp only [go_sem,zad,Nat.reduceAdd,Nat.reduceSub,Nat.reduceMul,Int.reduceToNat,reduceCtorEq,↓reduceIte,Int.reducePow,Nat.reducePow,Int.reduceMod,Nat.reduceLeDiff,Int.reduceLE,Int.reduceNe,Int.reduceEq,Nat.reduceEqDiff,Nat.reduceLT,Nat.reduceBEq,ty,noS,hle]
   refine awp_loopW ⟨fun m σ => ∃ i : Nat,m = l.length - i ∧ i ≤ l.length ∧
       σ = ⟨[.sg 6 (l.map wsA) f,.junk,.sg 1 [] true,.ms 4 6 0 i,.w (.int .i64 i),.junk,.junk,.junk,.junk,.junk,.junk,.junk,.junk,.junk,.junk,.junk,.junk,.junk,.junk],[(4,.g 6 ((l.take i).map wsA))],5⟩,?_,?_⟩
   · refine ⟨_,_,(weak_nil 3 6 (.g 6 []) ⟨by decide,rfl⟩ (by exact trivial)).trans (zao [0,1,2,3,28] rfl rfl rfl ?_ ?_),0,rfl,by omega,rfl⟩
     · simp only [ssT,zax,zay,setSlot,gOf,AV.ren,renL,Blk.ren,Ax.look,Ax.put,reduceCtorEq,↓reduceIte,Nat.reduceEqDiff,Nat.reduceLT,Nat.reduceAdd,List.length_append,List.length_cons,List.length_nil,Option.some.injEq]; try simp
       try rfl
     · simp only [ssT,zax,zay,setSlot,gOf,AV.ren,renL,Blk.ren,Ax.look,Ax.put,reduceCtorEq,↓reduceIte,Nat.reduceEqDiff,Nat.reduceLT,Nat.reduceAdd,List.length_append,List.length_cons,List.length_nil,Option.some.injEq]; try simp [renL]
   · rintro m σ ⟨i,rfl,hi,rfl⟩
     have e1 : ((i : Int) + 1 + 9223372036854775808) % 18446744073709551616 - 9223372036854775808 = ((i + 1 : Nat) : Int) := by omega
     have hml : ((l.take i).map wsA).length = i := by simp; omega
     by_cases hil : i < l.length
     · have d1 : decide ((i : Int) < l.length) = true := decide_eq_true (by omega)
       have hs1 := zbq l i hil
       have htk : l.take (i + 1) = l.take i ++ [l[i]] := List.take_succ_eq_append_getElem hil
       obtain ⟨r,hr⟩ : ∃ r,l[i] = r := ⟨_,rfl⟩
       rw [hr] at hs1 htk
       obtain ⟨s,k,c,t,a,b⟩ := r
       have hs1 : slot (l.map wsA) i = .agg [.w (.int .i64 s),.str k,.w (.int .i64 c),.w (.int .i64 t),.w (.int .i64 a),.w (.int .i64 b)] := hs1
       have hat : (l.take i).map wsA ++ [.agg [.w (.int .i64 s),.str k,.w (.int .i64 c),.w (.int .i64 t),.w (.int .i64 a),.w (.int .i64 b)]] = (l.take (i + 1)).map wsA := by rw [htk,List.map_append]; rfl
       simp only [go_sem,zad,Nat.reduceAdd,Nat.reduceSub,Nat.reduceMul,Int.reduceToNat,reduceCtorEq,↓reduceIte,Int.reducePow,Nat.reducePow,Int.reduceMod,Nat.reduceLeDiff,Int.reduceLE,Int.reduceNe,Int.reduceEq,Nat.reduceEqDiff,Nat.reduceLT,Nat.reduceBEq,ty,noS,hle,hml,d1,hs1,e1,Int.toNat_natCast,hat]
       repeat (refine And.intro (by first | omega | decide) ?_)
       refine ⟨l.length - (i + 1),_,by omega,zao [0,1,2,3,85] rfl rfl rfl ?_ ?_,i + 1,rfl,by omega,rfl⟩
       · simp only [ssT,zax,zay,setSlot,gOf,AV.ren,renL,Blk.ren,Ax.look,Ax.put,reduceCtorEq,↓reduceIte,Nat.reduceEqDiff,Nat.reduceLT,Nat.reduceAdd,List.length_append,List.length_cons,List.length_nil,Option.some.injEq]; try simp
       · simp only [ssT,zax,zay,setSlot,gOf,AV.ren,renL,Blk.ren,Ax.look,Ax.put,reduceCtorEq,↓reduceIte,Nat.reduceEqDiff,Nat.reduceLT,Nat.reduceAdd,List.length_append,List.length_cons,List.length_nil,Option.some.injEq,zbv]; try simp
     · have d1 : decide ((i : Int) < l.length) = false := decide_eq_false (by omega)
       have hii : l.take i = l := List.take_of_length_le (by omega)
       rw [hii] at hml ⊢
       simp only [go_sem,zad,Nat.reduceAdd,Nat.reduceSub,Nat.reduceMul,Int.reduceToNat,reduceCtorEq,↓reduceIte,Int.reducePow,Nat.reducePow,Int.reduceMod,Nat.reduceLeDiff,Int.reduceLE,Int.reduceNe,Int.reduceEq,Nat.reduceEqDiff,Nat.reduceLT,Nat.reduceBEq,ty,noS,hle,d1]
       refine ⟨_,Weak.refl _,?_⟩
       simp only [go_sem,zad,Nat.reduceAdd,Nat.reduceSub,Nat.reduceMul,Int.reduceToNat,reduceCtorEq,↓reduceIte,Int.reducePow,Nat.reducePow,Int.reduceMod,Nat.reduceLeDiff,Int.reduceLE,Int.reduceNe,Int.reduceEq,Nat.reduceEqDiff,Nat.reduceLT,Nat.reduceBEq,ty,noS]
       exact gW_ends 2 rfl rfl (zag l) hml.symm rfl
 · exact hp.elim
def Sback35 (f : FuncId) : Option zar :=
 match f with
 | 18 => some as35S
 | _ => none
theorem Sback35_ok : Fns Try.prog Sback35 := by
 intro f s h
 unfold Sback35 at h
 split at h
 · injection h with h; subst h; exact ⟨⟨_,Try.func18,by kernel_rfl,by kernel_rfl⟩,as35_sound⟩
 · cases h
set_option maxHeartbeats 4000000 in
theorem back35_sound : zbi Try.prog 16 back35S := by
 refine zcx (S := Sback35) (T := tyF) zbt tyF_ok Sback35_ok Try.func16 (c := Try.f16.body.getD .skip) (by kernel_rfl) (by kernel_rfl) (fun xs pins hp _ => ?_)
 unfold back35S at hp ⊢
 split at hp
 · rename_i Z L M D xs f _
   obtain ⟨hL,l,rfl⟩ := hp
   have hx : ∃ k : List WS,l.map wsA = k.map wsA := ⟨l,rfl⟩
   have hcl := zag l
   have hc : coe (setFlat ty) 29 (.sg 6 (l.map wsA) f) = .sg 6 (l.map wsA) f := by cases l <;> rfl
   refine ⟨by simp,?_⟩
   unfold Try.f16
   simp only [go_sem,zad,Nat.reduceAdd,Nat.reduceSub,Nat.reduceMul,Int.reduceToNat,reduceCtorEq,↓reduceIte,Int.reducePow,Nat.reducePow,Int.reduceMod,Nat.reduceLeDiff,Int.reduceLE,Int.reduceNe,Int.reduceEq,Nat.reduceEqDiff,Nat.reduceLT,Nat.reduceBEq,tyF,setFlat,ty,Sback35,as35S,hL,hx,hcl,hc]
 · exact hp.elim
theorem eqWS_dec (s : Int) (k : List UInt8) (c t a b s' : Int) (k' : List UInt8) (c' t' a' b' : Int) :
   (decide (s = s') && (decide (k = k') && (decide (c = c') && (decide (t = t') && (decide (a = a') && decide (b = b')))))) = decide ((⟨s,k,c,t,a,b⟩ : WS) = ⟨s',k',c',t',a',b'⟩) := by
 simp only [WS.mk.injEq,Bool.decide_and]
def zdz : zar
 | [.sg 6 xs f,.sg 6 ys g],[] => ⟨xs.length ≤ 9223372036854775807 ∧ ys.length ≤ 9223372036854775807 ∧ (∃ l : List WS,xs = l.map wsA) ∧ ∃ k : List WS,ys = k.map wsA,.w (.bool (decide (xs.map uws = ys.map uws))),[]⟩
 | _,_ => zcd
def same35S : zar
 | [.agg [.w (.int .i64 Z),.w (.int .i64 L),.w (.int .i64 M),.w (.int .i64 D),.sg 6 xs f],.agg [.w (.int .i64 Z'),.w (.int .i64 L'),.w (.int .i64 M'),.w (.int .i64 D'),.sg 6 ys g]],[] => ⟨xs.length ≤ 9223372036854775807 ∧ ys.length ≤ 9223372036854775807 ∧ (∃ l : List WS,xs = l.map wsA) ∧ ∃ k : List WS,ys = k.map wsA,.w (.bool (decide (Z = Z') && (decide (L = L') && (decide (M = M') && (decide (D = D') && decide (xs.map uws = ys.map uws)))))),[]⟩
 | _,_ => zcd
def zbe : Plan := fun id => match id with
 | 6 => some []
 | _ => none
theorem same_lenW {α : Type} {l k : List α} (h : l.length ≠ k.length) : ¬ l = k := fun e => h (by rw [e])
theorem same_dropW {l k : List WS} {i : Nat} (h1 : i < l.length) (h2 : i < k.length) : (l.drop i = k.drop i) = (l[i] = k[i] ∧ l.drop (i + 1) = k.drop (i + 1)) := by
 rw [List.drop_eq_getElem_cons h1,List.drop_eq_getElem_cons h2,List.cons.injEq]
set_option maxHeartbeats 4000000 in
theorem sameR35_sound : zbi Try.prog 17 zdz := by
 refine zfs (S := noS) (T := ty) (pl := zbe) zbt ty_ok zdj Try.func17 (c := Try.f17.body.getD .skip) (by kernel_rfl) (by kernel_rfl) (fun xs pins hp _ => ?_)
 unfold zdz at hp ⊢
 split at hp
 · rename_i xs f ys g _
   obtain ⟨hL,hK,⟨l,rfl⟩,k,rfl⟩ := hp
   rw [List.length_map] at hL hK
   have hle : (l.map wsA).length = l.length := by simp
   have hke : (k.map wsA).length = k.length := by simp
   rw [zai,zai]
   refine ⟨by simp,?_⟩
   unfold Try.f17
   by_cases hn : l.length = k.length
   · have d1 : decide ((l.length : Int) = k.length) = true := decide_eq_true (by omega)
     simp only [go_sem,coe,zab,Nat.reduceAdd,Nat.reduceSub,Nat.reduceMul,Int.reduceToNat,reduceCtorEq,↓reduceIte,Int.reducePow,Nat.reducePow,Int.reduceMod,Nat.reduceLeDiff,Int.reduceLE,Int.reduceNe,Int.reduceEq,Nat.reduceEqDiff,Nat.reduceLT,Nat.reduceBEq,List.map_cons,List.map_nil,List.toList_toArray,Array.toList_append,Option.toArray_some,Option.toArray_none,Bool.and_self,ty,noS,zbe,hle,hke,d1]
     refine zdx ⟨fun m σ => ∃ i : Nat,m = l.length - i ∧ i ≤ l.length ∧ (l.drop i = k.drop i) = (l = k) ∧
       σ = ⟨[.sg 6 (l.map wsA) f,.sg 6 (k.map wsA) g,.junk,.junk,.junk,.w (.int .i64 i),.junk,.junk,.junk,.junk,.junk,.junk,.junk,.junk,.junk,.junk,.junk,.junk,.junk,.junk,.junk,.junk,.junk,.junk,.junk,.junk],[],4⟩,?_,?_⟩
     · refine ⟨_,_,zao [0,1,2,3] rfl rfl rfl ?_ ?_,0,rfl,by omega,rfl,rfl⟩
       · simp only [ssT,zax,zay,setSlot,gOf,AV.ren,renL,Blk.ren,Ax.look,Ax.put,reduceCtorEq,↓reduceIte,Nat.reduceEqDiff,Nat.reduceLT,Nat.reduceAdd,List.length_append,List.length_cons,List.length_nil,Option.some.injEq]; try simp
       · simp only [ssT,zax,zay,setSlot,gOf,AV.ren,renL,Blk.ren,Ax.look,Ax.put,reduceCtorEq,↓reduceIte,Nat.reduceEqDiff,Nat.reduceLT,Nat.reduceAdd,List.length_append,List.length_cons,List.length_nil,Option.some.injEq]
     · rintro m σ ⟨i,rfl,hi,hs,rfl⟩
       by_cases hil : i < l.length
       · have d2 : decide ((i : Int) < l.length) = true := decide_eq_true (by omega)
         have e1 : ((i : Int) + 1 + 9223372036854775808) % 18446744073709551616 - 9223372036854775808 = ((i + 1 : Nat) : Int) := by omega
         have hs1 := zbq l i hil
         have hs2 := zbq k i (by omega)
         have hd := same_dropW hil (show i < k.length by omega)
         rw [hs] at hd
         obtain ⟨a,ha⟩ : ∃ x,l[i] = x := ⟨_,rfl⟩
         obtain ⟨b,hb⟩ : ∃ x,k[i]'(by omega) = x := ⟨_,rfl⟩
         rw [ha] at hs1 hd
         rw [hb] at hs2 hd
         obtain ⟨s1,k1,c1,t1,a1,b1⟩ := a
         obtain ⟨s2,k2,c2,t2,a2,b2⟩ := b
         have hs1 : slot (l.map wsA) i = .agg [.w (.int .i64 s1),.str k1,.w (.int .i64 c1),.w (.int .i64 t1),.w (.int .i64 a1),.w (.int .i64 b1)] := hs1
         have hs2 : slot (k.map wsA) i = .agg [.w (.int .i64 s2),.str k2,.w (.int .i64 c2),.w (.int .i64 t2),.w (.int .i64 a2),.w (.int .i64 b2)] := hs2
         by_cases he : (⟨s1,k1,c1,t1,a1,b1⟩ : WS) = ⟨s2,k2,c2,t2,a2,b2⟩
         · have d3 := decide_eq_true he
           simp only [he,true_and] at hd
           simp only [go_sem,coe,zab,Nat.reduceAdd,Nat.reduceSub,Nat.reduceMul,Int.reduceToNat,reduceCtorEq,↓reduceIte,Int.reducePow,Nat.reducePow,Int.reduceMod,Nat.reduceLeDiff,Int.reduceLE,Int.reduceNe,Int.reduceEq,Nat.reduceEqDiff,Nat.reduceLT,Nat.reduceBEq,List.map_cons,List.map_nil,List.toList_toArray,Array.toList_append,Option.toArray_some,Option.toArray_none,Bool.and_self,ty,noS,zbe,hle,hke,d2,e1,hs1,hs2,eqWS_dec,d3,Int.toNat_natCast]
           repeat (refine And.intro (by omega) ?_)
           refine ⟨l.length - (i + 1),_,by omega,zao [0,1,2,3] rfl rfl rfl ?_ ?_,i + 1,rfl,by omega,hd.symm,rfl⟩
           · simp only [ssT,zax,zay,setSlot,gOf,AV.ren,renL,Blk.ren,Ax.look,Ax.put,reduceCtorEq,↓reduceIte,Nat.reduceEqDiff,Nat.reduceLT,Nat.reduceAdd,List.length_append,List.length_cons,List.length_nil,Option.some.injEq]
           · simp only [ssT,zax,zay,setSlot,gOf,AV.ren,renL,Blk.ren,Ax.look,Ax.put,reduceCtorEq,↓reduceIte,Nat.reduceEqDiff,Nat.reduceLT,Nat.reduceAdd,List.length_append,List.length_cons,List.length_nil,Option.some.injEq]
         · have d3 := decide_eq_false he
           have hno : decide (l = k) = false := decide_eq_false (by rw [hd]; exact fun h => he h.1)
           rw [hno]
           simp only [go_sem,coe,zab,Nat.reduceAdd,Nat.reduceSub,Nat.reduceMul,Int.reduceToNat,reduceCtorEq,↓reduceIte,Int.reducePow,Nat.reducePow,Int.reduceMod,Nat.reduceLeDiff,Int.reduceLE,Int.reduceNe,Int.reduceEq,Nat.reduceEqDiff,Nat.reduceLT,Nat.reduceBEq,List.map_cons,List.map_nil,List.toList_toArray,Array.toList_append,Option.toArray_some,Option.toArray_none,Bool.and_self,ty,noS,zbe,hle,hke,d2,e1,hs1,hs2,eqWS_dec,d3,Int.toNat_natCast]
           repeat (refine And.intro (by omega) ?_)
           refine ⟨_,Weak.refl _,?_⟩
           simp only [go_sem,coe,zab,Nat.reduceAdd,Nat.reduceSub,Nat.reduceMul,Int.reduceToNat,reduceCtorEq,↓reduceIte,Int.reducePow,Nat.reducePow,Int.reduceMod,Nat.reduceLeDiff,Int.reduceLE,Int.reduceNe,Int.reduceEq,Nat.reduceEqDiff,Nat.reduceLT,Nat.reduceBEq,List.map_cons,List.map_nil,List.toList_toArray,Array.toList_append,Option.toArray_some,Option.toArray_none,Bool.and_self,ty,noS,zbe]
           exact zba 4 rfl
       · have d2 : decide ((i : Int) < l.length) = false := decide_eq_false (by omega)
         have : decide (l = k) = true := by
           refine decide_eq_true ?_
           rw [← hs,List.drop_of_length_le (by omega),List.drop_of_length_le (by omega)]
         rw [this]
         simp only [go_sem,coe,zab,Nat.reduceAdd,Nat.reduceSub,Nat.reduceMul,Int.reduceToNat,reduceCtorEq,↓reduceIte,Int.reducePow,Nat.reducePow,Int.reduceMod,Nat.reduceLeDiff,Int.reduceLE,Int.reduceNe,Int.reduceEq,Nat.reduceEqDiff,Nat.reduceLT,Nat.reduceBEq,List.map_cons,List.map_nil,List.toList_toArray,Array.toList_append,Option.toArray_some,Option.toArray_none,Bool.and_self,ty,noS,zbe,hle,hke,d2]
         refine ⟨_,Weak.refl _,?_⟩
         simp only [go_sem,coe,zab,Nat.reduceAdd,Nat.reduceSub,Nat.reduceMul,Int.reduceToNat,reduceCtorEq,↓reduceIte,Int.reducePow,Nat.reducePow,Int.reduceMod,Nat.reduceLeDiff,Int.reduceLE,Int.reduceNe,Int.reduceEq,Nat.reduceEqDiff,Nat.reduceLT,Nat.reduceBEq,List.map_cons,List.map_nil,List.toList_toArray,Array.toList_append,Option.toArray_some,Option.toArray_none,Bool.and_self,ty,noS,zbe]
         exact zba 4 rfl
   · have d1 : decide ((l.length : Int) = k.length) = false := decide_eq_false (by omega)
     rw [decide_eq_false (same_lenW hn)]
     simp only [go_sem,coe,zab,Nat.reduceAdd,Nat.reduceSub,Nat.reduceMul,Int.reduceToNat,reduceCtorEq,↓reduceIte,Int.reducePow,Nat.reducePow,Int.reduceMod,Nat.reduceLeDiff,Int.reduceLE,Int.reduceNe,Int.reduceEq,Nat.reduceEqDiff,Nat.reduceLT,Nat.reduceBEq,List.map_cons,List.map_nil,List.toList_toArray,Array.toList_append,Option.toArray_some,Option.toArray_none,Bool.and_self,ty,noS,zbe,hle,hke,d1]
     exact zba 4 rfl
 · exact hp.elim
set_option maxHeartbeats 4000000 in
theorem equal35_sound : zbi Try.prog 48 zdz := by
 refine zfs (S := noS) (T := ty) (pl := zbe) zbt ty_ok zdj Try.func48 (c := Try.f48.body.getD .skip) (by kernel_rfl) (by kernel_rfl) (fun xs pins hp _ => ?_)
 unfold zdz at hp ⊢
 split at hp
 · rename_i xs f ys g _
   obtain ⟨hL,hK,⟨l,rfl⟩,k,rfl⟩ := hp
   rw [List.length_map] at hL hK
   have hle : (l.map wsA).length = l.length := by simp
   have hke : (k.map wsA).length = k.length := by simp
   rw [zai,zai]
   refine ⟨by simp,?_⟩
   unfold Try.f48
   by_cases hn : l.length = k.length
   · have d1 : decide ((l.length : Int) = k.length) = true := decide_eq_true (by omega)
     simp only [go_sem,coe,zab,Nat.reduceAdd,Nat.reduceSub,Nat.reduceMul,Int.reduceToNat,reduceCtorEq,↓reduceIte,Int.reducePow,Nat.reducePow,Int.reduceMod,Nat.reduceLeDiff,Int.reduceLE,Int.reduceNe,Int.reduceEq,Nat.reduceEqDiff,Nat.reduceLT,Nat.reduceBEq,List.map_cons,List.map_nil,List.toList_toArray,Array.toList_append,Option.toArray_some,Option.toArray_none,Bool.and_self,ty,noS,zbe,hle,hke,d1]
     refine zdx ⟨fun m σ => ∃ i : Nat,m = l.length - i ∧ i ≤ l.length ∧ (l.drop i = k.drop i) = (l = k) ∧
       σ = ⟨[.sg 6 (l.map wsA) f,.sg 6 (k.map wsA) g,.junk,.junk,.junk,.junk,.junk,.junk,.junk,.junk,.junk,.junk,.w (.int .i64 l.length),.w (.int .i64 i),.junk,.junk,.junk,.junk,.junk,.junk,.junk,.junk,.junk,.junk,.junk,.junk],[],4⟩,?_,?_⟩
     · refine ⟨_,_,zao [0,1,2,3] rfl rfl rfl ?_ ?_,0,rfl,by omega,rfl,rfl⟩
       · simp only [ssT,zax,zay,setSlot,gOf,AV.ren,renL,Blk.ren,Ax.look,Ax.put,reduceCtorEq,↓reduceIte,Nat.reduceEqDiff,Nat.reduceLT,Nat.reduceAdd,List.length_append,List.length_cons,List.length_nil,Option.some.injEq]; try simp
       · simp only [ssT,zax,zay,setSlot,gOf,AV.ren,renL,Blk.ren,Ax.look,Ax.put,reduceCtorEq,↓reduceIte,Nat.reduceEqDiff,Nat.reduceLT,Nat.reduceAdd,List.length_append,List.length_cons,List.length_nil,Option.some.injEq]
     · rintro m σ ⟨i,rfl,hi,hs,rfl⟩
       by_cases hil : i < l.length
       · have d2 : decide ((i : Int) < l.length) = true := decide_eq_true (by omega)
         have e1 : ((i : Int) + 1 + 9223372036854775808) % 18446744073709551616 - 9223372036854775808 = ((i + 1 : Nat) : Int) := by omega
         have hs1 := zbq l i hil
         have hs2 := zbq k i (by omega)
         have hd := same_dropW hil (show i < k.length by omega)
         rw [hs] at hd
         obtain ⟨a,ha⟩ : ∃ x,l[i] = x := ⟨_,rfl⟩
         obtain ⟨b,hb⟩ : ∃ x,k[i]'(by omega) = x := ⟨_,rfl⟩
         rw [ha] at hs1 hd
         rw [hb] at hs2 hd
         obtain ⟨s1,k1,c1,t1,a1,b1⟩ := a
         obtain ⟨s2,k2,c2,t2,a2,b2⟩ := b
         have hs1 : slot (l.map wsA) i = .agg [.w (.int .i64 s1),.str k1,.w (.int .i64 c1),.w (.int .i64 t1),.w (.int .i64 a1),.w (.int .i64 b1)] := hs1
         have hs2 : slot (k.map wsA) i = .agg [.w (.int .i64 s2),.str k2,.w (.int .i64 c2),.w (.int .i64 t2),.w (.int .i64 a2),.w (.int .i64 b2)] := hs2
         by_cases he : (⟨s1,k1,c1,t1,a1,b1⟩ : WS) = ⟨s2,k2,c2,t2,a2,b2⟩
         · have d3 := decide_eq_true he
           simp only [he,true_and] at hd
           simp only [go_sem,coe,zab,Nat.reduceAdd,Nat.reduceSub,Nat.reduceMul,Int.reduceToNat,reduceCtorEq,↓reduceIte,Int.reducePow,Nat.reducePow,Int.reduceMod,Nat.reduceLeDiff,Int.reduceLE,Int.reduceNe,Int.reduceEq,Nat.reduceEqDiff,Nat.reduceLT,Nat.reduceBEq,List.map_cons,List.map_nil,List.toList_toArray,Array.toList_append,Option.toArray_some,Option.toArray_none,Bool.and_self,ty,noS,zbe,hle,hke,d2,e1,hs1,hs2,eqWS_dec,d3,Int.toNat_natCast]
           repeat (refine And.intro (by omega) ?_)
           refine ⟨l.length - (i + 1),_,by omega,zao [0,1,2,3] rfl rfl rfl ?_ ?_,i + 1,rfl,by omega,hd.symm,rfl⟩
           · simp only [ssT,zax,zay,setSlot,gOf,AV.ren,renL,Blk.ren,Ax.look,Ax.put,reduceCtorEq,↓reduceIte,Nat.reduceEqDiff,Nat.reduceLT,Nat.reduceAdd,List.length_append,List.length_cons,List.length_nil,Option.some.injEq]
           · simp only [ssT,zax,zay,setSlot,gOf,AV.ren,renL,Blk.ren,Ax.look,Ax.put,reduceCtorEq,↓reduceIte,Nat.reduceEqDiff,Nat.reduceLT,Nat.reduceAdd,List.length_append,List.length_cons,List.length_nil,Option.some.injEq]
         · have d3 := decide_eq_false he
           have hno : decide (l = k) = false := decide_eq_false (by rw [hd]; exact fun h => he h.1)
           rw [hno]
           simp only [go_sem,coe,zab,Nat.reduceAdd,Nat.reduceSub,Nat.reduceMul,Int.reduceToNat,reduceCtorEq,↓reduceIte,Int.reducePow,Nat.reducePow,Int.reduceMod,Nat.reduceLeDiff,Int.reduceLE,Int.reduceNe,Int.reduceEq,Nat.reduceEqDiff,Nat.reduceLT,Nat.reduceBEq,List.map_cons,List.map_nil,List.toList_toArray,Array.toList_append,Option.toArray_some,Option.toArray_none,Bool.and_self,ty,noS,zbe,hle,hke,d2,e1,hs1,hs2,eqWS_dec,d3,Int.toNat_natCast]
           repeat (refine And.intro (by omega) ?_)
           refine ⟨_,Weak.refl _,?_⟩
           simp only [go_sem,coe,zab,Nat.reduceAdd,Nat.reduceSub,Nat.reduceMul,Int.reduceToNat,reduceCtorEq,↓reduceIte,Int.reducePow,Nat.reducePow,Int.reduceMod,Nat.reduceLeDiff,Int.reduceLE,Int.reduceNe,Int.reduceEq,Nat.reduceEqDiff,Nat.reduceLT,Nat.reduceBEq,List.map_cons,List.map_nil,List.toList_toArray,Array.toList_append,Option.toArray_some,Option.toArray_none,Bool.and_self,ty,noS,zbe]
           exact zba 4 rfl
       · have d2 : decide ((i : Int) < l.length) = false := decide_eq_false (by omega)
         have : decide (l = k) = true := by
           refine decide_eq_true ?_
           rw [← hs,List.drop_of_length_le (by omega),List.drop_of_length_le (by omega)]
         rw [this]
         simp only [go_sem,coe,zab,Nat.reduceAdd,Nat.reduceSub,Nat.reduceMul,Int.reduceToNat,reduceCtorEq,↓reduceIte,Int.reducePow,Nat.reducePow,Int.reduceMod,Nat.reduceLeDiff,Int.reduceLE,Int.reduceNe,Int.reduceEq,Nat.reduceEqDiff,Nat.reduceLT,Nat.reduceBEq,List.map_cons,List.map_nil,List.toList_toArray,Array.toList_append,Option.toArray_some,Option.toArray_none,Bool.and_self,ty,noS,zbe,hle,hke,d2]
         refine ⟨_,Weak.refl _,?_⟩
         simp only [go_sem,coe,zab,Nat.reduceAdd,Nat.reduceSub,Nat.reduceMul,Int.reduceToNat,reduceCtorEq,↓reduceIte,Int.reducePow,Nat.reducePow,Int.reduceMod,Nat.reduceLeDiff,Int.reduceLE,Int.reduceNe,Int.reduceEq,Nat.reduceEqDiff,Nat.reduceLT,Nat.reduceBEq,List.map_cons,List.map_nil,List.toList_toArray,Array.toList_append,Option.toArray_some,Option.toArray_none,Bool.and_self,ty,noS,zbe]
         exact zba 4 rfl
   · have d1 : decide ((l.length : Int) = k.length) = false := decide_eq_false (by omega)
     rw [decide_eq_false (same_lenW hn)]
     simp only [go_sem,coe,zab,Nat.reduceAdd,Nat.reduceSub,Nat.reduceMul,Int.reduceToNat,reduceCtorEq,↓reduceIte,Int.reducePow,Nat.reducePow,Int.reduceMod,Nat.reduceLeDiff,Int.reduceLE,Int.reduceNe,Int.reduceEq,Nat.reduceEqDiff,Nat.reduceLT,Nat.reduceBEq,List.map_cons,List.map_nil,List.toList_toArray,Array.toList_append,Option.toArray_some,Option.toArray_none,Bool.and_self,ty,noS,zbe,hle,hke,d1]
     exact zba 4 rfl
 · exact hp.elim
def Ssame35 (f : FuncId) : Option zar :=
 match f with
 | 17 => some zdz
 | 48 => some zdz
 | _ => none
theorem Ssame35_ok : Fns Try.prog Ssame35 := by
 intro f s h
 unfold Ssame35 at h
 split at h
 · injection h with h; subst h; exact ⟨⟨_,Try.func17,by kernel_rfl,by kernel_rfl⟩,sameR35_sound⟩
 · injection h with h; subst h; exact ⟨⟨_,Try.func48,by kernel_rfl,by kernel_rfl⟩,equal35_sound⟩
 · cases h
set_option maxHeartbeats 8000000 in
theorem rsame35_sound : zbi Try.prog 15 same35S := by
 refine zeh (S := Ssame35) (T := ty) zbt ty_ok Ssame35_ok Try.func15 (c := Try.f15.body.getD .skip) (by kernel_rfl) (by kernel_rfl) (fun xs pins hp _ => ?_)
 unfold same35S at hp ⊢
 split at hp
 · rename_i Z L M D xs f Z' L' M' D' ys g _
   obtain ⟨hL,hK,⟨l,rfl⟩,k,rfl⟩ := hp
   have hx : ∃ q : List WS,l.map wsA = q.map wsA := ⟨l,rfl⟩
   have hy : ∃ q : List WS,k.map wsA = q.map wsA := ⟨k,rfl⟩
   rw [zai,zai]
   refine ⟨by simp,?_⟩
   obtain ⟨Q,hQ⟩ : ∃ Q,decide (l = k) = Q := ⟨_,rfl⟩
   have hc : coe ty 22 (.sg 6 (l.map wsA) f) = .sg 6 (l.map wsA) f := by cases l <;> rfl
   have hd : coe ty 22 (.sg 6 (k.map wsA) g) = .sg 6 (k.map wsA) g := by cases k <;> rfl
   unfold Try.f15
   cases h1 : decide (Z = Z') <;> cases h2 : decide (L = L') <;> cases h3 : decide (M = M') <;> cases h4 : decide (D = D')
   all_goals
     simp only [go_sem,zad,Nat.reduceAdd,Nat.reduceSub,Nat.reduceMul,Int.reduceToNat,reduceCtorEq,↓reduceIte,Int.reducePow,Nat.reducePow,Int.reduceMod,Nat.reduceLeDiff,Int.reduceLE,Int.reduceNe,Int.reduceEq,Nat.reduceEqDiff,Nat.reduceLT,Nat.reduceBEq,ty,Ssame35,zdz,hL,hK,hx,hy,zai,h1,h2,h3,h4,hQ,hc,hd,Bool.true_and,Bool.false_and]
     exact zba 4 rfl
 · exact hp.elim
end
end Go.Proofs.Ytlpjdgkpapjldaa
namespace Go.Proofs.Ytlpjdgkpapjldaa
open Ax
def own35S : zar
 | [.agg [.w (.int .i64 Z),.w (.int .i64 L),.w (.int .i64 M),.w (.int .i64 D),.sg 6 xs f]],[] => ⟨xs.length ≤ 1000000 ∧ ∃ l : List WS,xs = l.map wsA,.agg [.w (.int .i64 Z),.w (.int .i64 L),.w (.int .i64 M),.w (.int .i64 D),.sg 6 xs false],[]⟩
 | _,_ => zcd
def own35Pl : Plan := fun id => match id with
 | 5 => some []
 | _ => none
section
set_option maxRecDepth 100000
set_option maxHeartbeats 4000000 in
theorem own35_sound : zbi Try.prog 8 own35S := by
 refine zfs (S := noS) (T := ty) (pl := own35Pl) zbt ty_ok zdj Try.func8 (c := Try.f8.body.getD .skip) (by kernel_rfl) (by kernel_rfl) (fun xs pins hp _ => ?_)
 unfold own35S at hp ⊢
 split at hp
 · rename_i Z L M D xs f _
   obtain ⟨hL,l,rfl⟩ := hp
   rw [List.length_map] at hL
   have hle : (l.map wsA).length = l.length := by simp
   have ht : top = 4294967296 := rfl
   refine ⟨by simp,?_⟩
   unfold Try.f8
   simp only [go_sem,zab,Nat.reduceAdd,Nat.reduceSub,Nat.reduceMul,Int.reduceToNat,reduceCtorEq,↓reduceIte,Int.reducePow,Nat.reducePow,Int.reduceMod,Nat.reduceLeDiff,Int.reduceLE,Int.reduceNe,Int.reduceEq,Nat.reduceEqDiff,Nat.reduceLT,Nat.reduceBEq,List.map_cons,List.map_nil,List.toList_toArray,Array.toList_append,Option.toArray_some,Option.toArray_none,Bool.and_self,ty,noS,own35Pl,hle,fillS]
   refine zdx ⟨fun m σ => ∃ i : Nat,m = l.length - i ∧ i ≤ l.length ∧
     σ = ⟨[.agg [.w (.int .i64 Z),.w (.int .i64 L),.w (.int .i64 M),.w (.int .i64 D),.sg 6 (l.map wsA) f],.rf 4 5 0 0,.rf 5 5 0 0,.rf 6 5 0 0,.w (.int .i64 i),.junk,.junk,.junk,.junk,.junk,.junk,.junk,.junk,.junk,.junk,.junk,.junk,.junk,.junk,.junk,.junk,.junk,.junk,.junk,.junk,.junk,.junk,.junk,.junk,.junk,.junk,.junk],[(4,.g 5 [.agg [.w (.int .i64 Z),.w (.int .i64 L),.w (.int .i64 M),.w (.int .i64 D),.sg 6 (l.map wsA) f]]),(5,.g 5 [.agg [.w (.int .i64 0),.w (.int .i64 0),.w (.int .i64 0),.w (.int .i64 0),.sg 6 [] true]]),(6,.g 5 [.agg [.w (.int .i64 Z),.w (.int .i64 L),.w (.int .i64 M),.w (.int .i64 D),.ms 7 6 0 i]]),(7,.g 6 ((l.take i).map wsA))],8⟩,?_,?_⟩
   · refine ⟨_,_,(weak_nilB 92 5 4 6 [.w (.int .i64 Z),.w (.int .i64 L),.w (.int .i64 M),.w (.int .i64 D),.sg 6 [] true] rfl (by simp) (by exact trivial) (by decide)).trans (zao [0,1,2,3,4,12,92,116] rfl rfl rfl ?_ ?_),0,rfl,by omega,rfl⟩
     · simp only [ssT,zax,zay,setSlot,gOf,AV.ren,renL,Blk.ren,Ax.look,Ax.put,reduceCtorEq,↓reduceIte,Nat.reduceEqDiff,Nat.reduceLT,Nat.reduceAdd,List.length_append,List.length_cons,List.length_nil,Option.some.injEq]; try simp
     · simp only [ssT,zax,zay,setSlot,gOf,AV.ren,renL,Blk.ren,Ax.look,Ax.put,reduceCtorEq,↓reduceIte,Nat.reduceEqDiff,Nat.reduceLT,Nat.reduceAdd,List.length_append,List.length_cons,List.length_nil,Option.some.injEq]; try simp [renL]
   · rintro m σ ⟨i,rfl,hi,rfl⟩
     have hml : ((l.take i).map wsA).length = i := by simp; omega
     by_cases hil : i < l.length
     · have d2 : decide ((i : Int) < l.length) = true := decide_eq_true (by omega)
       have e1 : ((i : Int) + 1 + 9223372036854775808) % 18446744073709551616 - 9223372036854775808 = ((i + 1 : Nat) : Int) := by omega
       have hs1 := zbq l i hil
       have htk : l.take (i + 1) = l.take i ++ [l[i]] := List.take_succ_eq_append_getElem hil
       obtain ⟨r,hr⟩ : ∃ r,l[i] = r := ⟨_,rfl⟩
       rw [hr] at hs1 htk
       obtain ⟨s,k,c,t,a,b⟩ := r
       have hs1 : slot (l.map wsA) i = .agg [.w (.int .i64 s),.str k,.w (.int .i64 c),.w (.int .i64 t),.w (.int .i64 a),.w (.int .i64 b)] := hs1
       have hat : (l.take i).map wsA ++ [.agg [.w (.int .i64 s),.str k,.w (.int .i64 c),.w (.int .i64 t),.w (.int .i64 a),.w (.int .i64 b)]] = (l.take (i + 1)).map wsA := by rw [htk,List.map_append]; rfl
       simp only [go_sem,zab,Nat.reduceAdd,Nat.reduceSub,Nat.reduceMul,Int.reduceToNat,reduceCtorEq,↓reduceIte,Int.reducePow,Nat.reducePow,Int.reduceMod,Nat.reduceLeDiff,Int.reduceLE,Int.reduceNe,Int.reduceEq,Nat.reduceEqDiff,Nat.reduceLT,Nat.reduceBEq,List.map_cons,List.map_nil,List.toList_toArray,Array.toList_append,Option.toArray_some,Option.toArray_none,Bool.and_self,ty,noS,own35Pl,hle,hml,d2,hs1,e1,Int.toNat_natCast,zdk,hat]
       repeat (refine And.intro (by first | omega | decide) ?_)
       refine ⟨l.length - (i + 1),_,by omega,zao [0,1,2,3,4,5,6,112] rfl rfl rfl ?_ ?_,i + 1,rfl,by omega,rfl⟩
       · simp only [ssT,zax,zay,setSlot,gOf,AV.ren,renL,Blk.ren,Ax.look,Ax.put,reduceCtorEq,↓reduceIte,Nat.reduceEqDiff,Nat.reduceLT,Nat.reduceAdd,List.length_append,List.length_cons,List.length_nil,Option.some.injEq]; try simp
       · simp only [ssT,zax,zay,setSlot,gOf,AV.ren,renL,Blk.ren,Ax.look,Ax.put,reduceCtorEq,↓reduceIte,Nat.reduceEqDiff,Nat.reduceLT,Nat.reduceAdd,List.length_append,List.length_cons,List.length_nil,Option.some.injEq,zbv]; try simp
     · have d2 : decide ((i : Int) < l.length) = false := decide_eq_false (by omega)
       have hii : l.take i = l := List.take_of_length_le (by omega)
       rw [hii] at hml ⊢
       have hdle : decide (0 + i ≤ (l.map wsA).length) = true := decide_eq_true (by omega)
       have htk : (l.map wsA).take i = l.map wsA := List.take_of_length_le (by omega)
       simp only [go_sem,zab,Nat.reduceAdd,Nat.reduceSub,Nat.reduceMul,Int.reduceToNat,reduceCtorEq,↓reduceIte,Int.reducePow,Nat.reducePow,Int.reduceMod,Nat.reduceLeDiff,Int.reduceLE,Int.reduceNe,Int.reduceEq,Nat.reduceEqDiff,Nat.reduceLT,Nat.reduceBEq,List.map_cons,List.map_nil,List.toList_toArray,Array.toList_append,Option.toArray_some,Option.toArray_none,Bool.and_self,ty,noS,own35Pl,hle,d2]
       refine ⟨_,weak_fgC 7 6 3 6 (l.map wsA) _ rfl (zag l) rfl (by simp [slot,AV.ids]) (by simp [Blk.idsB,Blk.closed,closedL,AV.closed,idsL,AV.ids]),?_⟩
       simp only [fgL,fgH,AV.fg,Blk.fg,Nat.reduceBEq,cond_true,cond_false,hdle,Bool.and_true,beq_self_eq_true,Bool.true_and,List.drop_zero,htk]
       simp only [go_sem,zab,Nat.reduceAdd,Nat.reduceSub,Nat.reduceMul,Int.reduceToNat,reduceCtorEq,↓reduceIte,Int.reducePow,Nat.reducePow,Int.reduceMod,Nat.reduceLeDiff,Int.reduceLE,Int.reduceNe,Int.reduceEq,Nat.reduceEqDiff,Nat.reduceLT,Nat.reduceBEq,List.map_cons,List.map_nil,List.toList_toArray,Array.toList_append,Option.toArray_some,Option.toArray_none,Bool.and_self,ty,noS,own35Pl]
       refine ⟨_,Weak.refl _,?_⟩
       simp only [go_sem,zab,Nat.reduceAdd,Nat.reduceSub,Nat.reduceMul,Int.reduceToNat,reduceCtorEq,↓reduceIte,Int.reducePow,Nat.reducePow,Int.reduceMod,Nat.reduceLeDiff,Int.reduceLE,Int.reduceNe,Int.reduceEq,Nat.reduceEqDiff,Nat.reduceLT,Nat.reduceBEq,List.map_cons,List.map_nil,List.toList_toArray,Array.toList_append,Option.toArray_some,Option.toArray_none,Bool.and_self,ty,noS]
 · exact hp.elim
end
end Go.Proofs.Ytlpjdgkpapjldaa
namespace Go.Proofs.Ytlpjdgkpapjldaa
namespace Ax
abbrev Us := List (Nat × Option Blk)
def upd : Us → (Nat → Option Blk) → Nat → Option Blk
 | [],lk,id => lk id
 | (k,b) :: r,lk,id => if k = id then b else upd r lk id
def Told (o : Out) (lk : Nat → Option Blk) (r : Option (AV × Us)) : Prop := ∀ x us,r = some (x,us) → o.p ∧ o.x = x ∧ ∀ id,look o.H id = upd us lk id
section
variable {H : Heap} {lk : Nat → Option Blk} (hl : ∀ id,look H id = lk id)
def csub (ti : TyI) (ls : List AV) (f : Nat) : Option AV :=
 bif ti.d.aggr then (if f + ti.size ≤ ls.length then some (.agg ((ls.drop f).take ti.size)) else none) else (if f < ls.length then some (slot ls f) else none)
theorem csub_ok {ti : TyI} {ls : List AV} {f : Nat} {x : AV} (h : csub ti ls f = some x) : (subv ti ls f H).p ∧ (subv ti ls f H).x = x ∧ (subv ti ls f H).H = H := by
 unfold csub at h
 unfold subv
 cases ha : ti.d.aggr <;> simp only [ha,cond_true,cond_false] at h ⊢ <;> split at h <;> simp_all
def cLoad (T : zac) (t : TypeId) (x : AV) (lk : Nat → Option Blk) : Option (AV × Us) :=
 match T t with
 | none => none
 | some ti => match x with
   | .cp ls => (csub ti ls 0).map fun y => (y,[])
   | .rf id s i f => match lk id with
     | some blk => if s = blk.size ∧ i < blk.len then (csub ti (zaj blk i) f).map fun y => (y,[]) else none
     | none => none
   | _ => none
include hl in
theorem cLoad_ok {T : zac} {t : TypeId} {x : AV} : Told (aLoad T t x H) lk (cLoad T t x lk) := by
 intro y us h
 unfold cLoad at h
 unfold aLoad
 split at h
 · cases h
 · rename_i ti ht
   simp only [ht]
   split at h
   · obtain ⟨z,hz,he⟩ := Option.map_eq_some_iff.1 h
     injection he with h1 h2; subst h1 h2
     obtain ⟨a,b,c⟩ := csub_ok (H := H) hz
     exact ⟨a,b,fun id => by rw [c]; exact hl id⟩
   · rename_i id s i f
     simp only [hl id]
     split at h
     · rename_i blk hb
       simp only [hb]
       split at h
       · rename_i hc
         obtain ⟨z,hz,he⟩ := Option.map_eq_some_iff.1 h
         injection he with h1 h2; subst h1 h2
         obtain ⟨a,b,c⟩ := csub_ok (H := H) hz
         exact ⟨⟨hc,a⟩,b,fun id => by simp only [Out.and]; rw [c]; exact hl id⟩
       · cases h
     · cases h
   · cases h
def csetB (blk : Blk) (i f : Nat) (x : AV) : Option Blk :=
 match blk with
 | .b bs => match x with
   | .w (.int .u8 m) => if f = 0 ∧ 0 ≤ m ∧ m < 256 then some (.b (bs.set i (UInt8.ofNat m.toNat))) else none
   | _ => none
 | .i ns => match x with
   | .w (.int .i64 m) => if f = 0 then some (.i (ns.set i m)) else none
   | _ => none
 | .g s xs => match slot xs i with
   | .agg ls => if f + x.leaves.length ≤ ls.length then some (.g s (setSlot xs i (.agg (splice ls f x.leaves)))) else none
   | _ => if f = 0 ∧ x.leaf = true then some (.g s (setSlot xs i x)) else none
 | .o _ => none
theorem csetB_ok {blk : Blk} {i f : Nat} {x : AV} {b : Blk} (h : csetB blk i f x = some b) : (setB blk i f x).1 ∧ (setB blk i f x).2 = b := by
 cases blk with
 | b bs =>
   simp only [csetB] at h
   simp only [setB]
   split at h
   · split at h <;> simp_all
   · cases h
 | i ns =>
   simp only [csetB] at h
   simp only [setB]
   split at h
   · split at h <;> simp_all
   · cases h
 | g s xs =>
   simp only [csetB] at h
   simp only [setB]
   cases hs : slot xs i <;> simp only [hs] at h ⊢ <;> split at h <;> simp_all
 | o x => cases h
def cStore (T : zac) (t : TypeId) (p x : AV) (lk : Nat → Option Blk) : Option (AV × Us) :=
 match T t,p with
 | some ti,.rf id s i f => match lk id with
   | some blk => if s = blk.size ∧ i < blk.len ∧ x.leaves.length = ti.size ∧ x.okv = true then (csetB blk i f x).map fun b => (.junk,[(id,some b)]) else none
   | none => none
 | _,_ => none
theorem zam (hl : ∀ id,look H id = lk id) {nm : Nat} {b : Blk} (id : Nat) : look (put H nm b) id = upd [(nm,some b)] lk id := by
 rw [zan]; simp only [upd]; split <;> simp [hl]
include hl in
theorem cStore_ok {T : zac} {t : TypeId} {p x : AV} : Told (aStore T t p x H) lk (cStore T t p x lk) := by
 intro y us h
 unfold cStore at h
 unfold aStore
 split at h
 · rename_i ti id s i f ht
   simp only [ht,hl id]
   split at h
   · rename_i blk hb
     simp only [hb]
     split at h
     · rename_i hc
       obtain ⟨z,hz,he⟩ := Option.map_eq_some_iff.1 h
       injection he with h1 h2; subst h1 h2
       obtain ⟨a,b⟩ := csetB_ok hz
       refine ⟨⟨hc.1,hc.2.1,hc.2.2.1,hc.2.2.2,a⟩,rfl,fun k => ?_⟩
       rw [b]; exact zam hl k
     · cases h
   · cases h
 · cases h
def cPick (c a b : AV) : Option (AV × Us) :=
 match c with
 | .w (.bool t) => match a,b with
   | .w (.bool x),.w (.bool y) => some (.w (.bool (bif t then x else y)),[])
   | _,.w (.bool y) => if t = false then some (.w (.bool y),[]) else none
   | .w (.bool x),_ => if t = true then some (.w (.bool x),[]) else none
   | _,_ => none
 | _ => none
include hl in
theorem cPick_ok {c a b : AV} : Told (aPick c a b H) lk (cPick c a b) := by
 intro y us h
 have key : ∀ t,cPick (.w (.bool t)) a b = some (y,us) → (aPick (.w (.bool t)) a b H).p ∧ (aPick (.w (.bool t)) a b H).x = y ∧ ∀ id,look (aPick (.w (.bool t)) a b H).H id = upd us lk id := by
   intro t h
   rcases hb : b with v | _ | _ | _ | _ | _ | _ | _ | _ | _ | _ | _ <;> subst hb <;> (try rcases hv : v with x | _ | _ | _ | _ | _ | _ | _ | _ | _ | _ | _ | _ | _ | _) <;> (try subst hv) <;>
     rcases ha : a with u | _ | _ | _ | _ | _ | _ | _ | _ | _ | _ | _ <;> subst ha <;> (try rcases hu : u with z | _ | _ | _ | _ | _ | _ | _ | _ | _ | _ | _ | _ | _ | _) <;> (try subst hu) <;>
     simp only [cPick] at h <;> first | (cases h; done) | (split at h <;> first | (cases h; done) | (injection h with h; injection h with h1 h2; subst h1 h2; exact ⟨by assumption,rfl,hl⟩)) | (injection h with h; injection h with h1 h2; subst h1 h2; exact ⟨trivial,rfl,hl⟩)
 unfold cPick at h
 split at h
 · exact key _ h
 · cases h
def cAlloc (T : zac) (nm : Nat) (e : TypeId) : Option (AV × Us) :=
 match T e with
 | some ti => if 0 < ti.size then some (.rf nm ti.size 0 0,[(nm,some (.g ti.size [asv ti ti.zero]))]) else none
 | none => none
include hl in
theorem cAlloc_ok {T : zac} {nm : Nat} {e : TypeId} : Told (aAlloc T nm e H) lk (cAlloc T nm e) := by
 intro y us h
 unfold cAlloc at h
 unfold aAlloc
 split at h
 · rename_i ti ht
   simp only [ht]
   split at h
   · injection h with h; injection h with h1 h2; subst h1 h2
     exact ⟨by assumption,rfl,fun id => zam hl id⟩
   · cases h
 · cases h
def cBox (T : zac) (nm : Nat) (e : TypeId) (x : AV) : Option (AV × Us) :=
 match T e with
 | some ti => if 0 < ti.size ∧ x.leaves.length = ti.size ∧ x.okv = true then some (.rf nm ti.size 0 0,[(nm,some (.g ti.size [x]))]) else none
 | none => none
include hl in
theorem cBox_ok {T : zac} {nm : Nat} {e : TypeId} {x : AV} : Told (aBox T nm e x H) lk (cBox T nm e x) := by
 intro y us h
 unfold cBox at h
 unfold aBox
 split at h
 · rename_i ti ht
   simp only [ht]
   split at h
   · injection h with h; injection h with h1 h2; subst h1 h2
     exact ⟨by assumption,rfl,fun id => zam hl id⟩
   · cases h
 · cases h
def cfillS (T : zac) (fs : List (Nat × TypeId)) : List (Nat × AV) → List AV → Option (List AV)
 | [],ls => some ls
 | (i,x) :: r,ls => match fs[i]? with
   | some (off,ty) => match T ty with
     | some ti => if x.leaves.length = ti.size ∧ x.okv = true ∧ off + ti.size ≤ ls.length then cfillS T fs r (splice ls off x.leaves) else none
     | none => none
   | none => none
theorem cfillS_ok {T : zac} {fs : List (Nat × TypeId)} : ∀ {ps : List (Nat × AV)} {ls zs : List AV},cfillS T fs ps ls = some zs → (fillS T fs ps ls).1 ∧ (fillS T fs ps ls).2 = zs
 | [],ls,zs,h => by injection h with h; exact ⟨trivial,h⟩
 | (i,x) :: r,ls,zs,h => by
   unfold cfillS at h
   unfold fillS
   split at h
   · rename_i off ty hi
     simp only [hi]
     split at h
     · rename_i ti ht
       simp only [ht]
       split at h
       · rename_i hc
         obtain ⟨h1,h2⟩ := cfillS_ok h
         exact ⟨⟨hc.1,hc.2.1,hc.2.2,h1⟩,h2⟩
       · cases h
     · cases h
   · cases h
def cfillA (s : Nat) : List (Nat × AV) → List AV → Option (List AV)
 | [],ls => some ls
 | (i,x) :: r,ls => if x.leaves.length = s ∧ x.okv = true ∧ i * s + s ≤ ls.length then cfillA s r (splice ls (i * s) x.leaves) else none
theorem cfillA_ok {s : Nat} : ∀ {ps : List (Nat × AV)} {ls zs : List AV},cfillA s ps ls = some zs → (fillA s ps ls).1 ∧ (fillA s ps ls).2 = zs
 | [],ls,zs,h => by injection h with h; exact ⟨trivial,h⟩
 | (i,x) :: r,ls,zs,h => by
   unfold cfillA at h
   unfold fillA
   split at h
   · rename_i hc
     obtain ⟨h1,h2⟩ := cfillA_ok h
     exact ⟨⟨hc.1,hc.2.1,hc.2.2,h1⟩,h2⟩
   · cases h
def callTy (T : zac) : List (Nat × TypeId) → Bool
 | [] => true
 | p :: r => match T p.2 with
   | some _ => callTy T r
   | none => false
theorem callTy_ok {T : zac} : ∀ {l : List (Nat × TypeId)},callTy T l = true → allTy T l
 | [],_ => trivial
 | p :: r,h => by
   unfold callTy at h
   unfold allTy
   split at h
   · rename_i x hx; simp only [hx]; exact callTy_ok h
   · cases h
def cBuild (T : zac) (t : TypeId) (ps : List (Nat × AV)) : Option (AV × Us) :=
 match T t with
 | some ti => match ti.d with
   | .struct fs => bif callTy T fs then (cfillS T fs ps ti.zero).map fun l => (.agg l,[]) else none
   | .arr _ e => match T e with
     | some te => (cfillA te.size ps ti.zero).map fun l => (.agg l,[])
     | none => none
   | _ => none
 | none => none
include hl in
theorem cBuild_ok {T : zac} {t : TypeId} {ps : List (Nat × AV)} : Told (aBuild T t ps H) lk (cBuild T t ps) := by
 intro y us h
 unfold cBuild at h
 unfold aBuild
 split at h
 · rename_i ti ht
   simp only [ht]
   split at h
   · rename_i fs hd
     simp only [hd]
     cases hc : callTy T fs with
     | false => rw [hc] at h; cases h
     | true =>
       rw [hc] at h
       obtain ⟨z,hz,he⟩ := Option.map_eq_some_iff.1 h
       injection he with h1 h2; subst h1 h2
       obtain ⟨a,b⟩ := cfillS_ok hz
       exact ⟨⟨callTy_ok hc,a⟩,by rw [b],hl⟩
   · rename_i n e hd
     simp only [hd]
     split at h
     · rename_i te hte
       simp only [hte]
       obtain ⟨z,hz,he⟩ := Option.map_eq_some_iff.1 h
       injection he with h1 h2; subst h1 h2
       obtain ⟨a,b⟩ := cfillA_ok hz
       exact ⟨a,by rw [b],hl⟩
     · cases h
   · cases h
 · cases h
def cfillB : List (Nat × AV) → List UInt8 → Option (List UInt8)
 | [],bs => some bs
 | (i,x) :: r,bs => match x with
   | .w (.int .u8 m) => if i < bs.length ∧ 0 ≤ m ∧ m < 256 then cfillB r (bs.set i (UInt8.ofNat m.toNat)) else none
   | _ => none
theorem cfillB_ok : ∀ {ps : List (Nat × AV)} {ls zs : List UInt8},cfillB ps ls = some zs → (fillB ps ls).1 ∧ (fillB ps ls).2 = zs
 | [],ls,zs,h => by injection h with h; exact ⟨trivial,h⟩
 | (i,x) :: r,ls,zs,h => by
   unfold cfillB at h
   unfold fillB
   split at h
   · split at h
     · rename_i hc
       obtain ⟨h1,h2⟩ := cfillB_ok h
       exact ⟨⟨hc.1,hc.2.1,hc.2.2,h1⟩,h2⟩
     · cases h
   · cases h
def cfillI : List (Nat × AV) → List Int → Option (List Int)
 | [],ns => some ns
 | (i,x) :: r,ns => match x with
   | .w (.int .i64 m) => if i < ns.length then cfillI r (ns.set i m) else none
   | _ => none
theorem cfillI_ok : ∀ {ps : List (Nat × AV)} {ls zs : List Int},cfillI ps ls = some zs → (fillI ps ls).1 ∧ (fillI ps ls).2 = zs
 | [],ls,zs,h => by injection h with h; exact ⟨trivial,h⟩
 | (i,x) :: r,ls,zs,h => by
   unfold cfillI at h
   unfold fillI
   split at h
   · split at h
     · rename_i hc
       obtain ⟨h1,h2⟩ := cfillI_ok h
       exact ⟨⟨hc,h1⟩,h2⟩
     · cases h
   · cases h
def cfillG (s : Nat) : List (Nat × AV) → List AV → Option (List AV)
 | [],xs => some xs
 | (i,x) :: r,xs => if i < xs.length ∧ x.leaves.length = s ∧ x.okv = true then cfillG s r (setSlot xs i x) else none
theorem cfillG_ok {s : Nat} : ∀ {ps : List (Nat × AV)} {ls zs : List AV},cfillG s ps ls = some zs → (fillG s ps ls).1 ∧ (fillG s ps ls).2 = zs
 | [],ls,zs,h => by injection h with h; exact ⟨trivial,h⟩
 | (i,x) :: r,ls,zs,h => by
   unfold cfillG at h
   unfold fillG
   split at h
   · rename_i hc
     obtain ⟨h1,h2⟩ := cfillG_ok h
     exact ⟨⟨hc.1,hc.2.1,hc.2.2,h1⟩,h2⟩
   · cases h
def isZ (k : IntKind) : List AV → Bool
 | [.w (.int k' n)] => decide (k' = k) && decide (n = 0)
 | _ => false
theorem isZ_ok {k : IntKind} {l : List AV} (h : isZ k l = true) : l = [.w (.int k 0)] := by
 unfold isZ at h
 split at h
 · simp only [Bool.and_eq_true,decide_eq_true_eq] at h
   obtain ⟨rfl,rfl⟩ := h; rfl
 · cases h
def cBuildSlice (T : zac) (nm : Nat) (t : TypeId) (n : Nat) (ps : List (Nat × AV)) : Option (AV × Us) :=
 match T t with
 | some ti => match ti.d with
   | .slice e => match T e with
     | some te => match te.d with
       | .int .u8 => if te.size = 1 ∧ isZ .u8 te.zero = true ∧ n ≤ 16777216 then (cfillB ps (List.replicate n 0)).map fun l => (.ms nm 1 0 n,[(nm,some (.b l))]) else none
       | .int .i64 => if te.size = 1 ∧ isZ .i64 te.zero = true ∧ n ≤ 16777216 then (cfillI ps (List.replicate n 0)).map fun l => (.ms nm 1 0 n,[(nm,some (.i l))]) else none
       | _ => if 0 < te.size ∧ n * te.size ≤ 16777216 then (cfillG te.size ps (List.replicate n (asv te te.zero))).map fun l => (.ms nm te.size 0 n,[(nm,some (.g te.size l))]) else none
     | none => none
   | _ => none
 | none => none
include hl in
theorem cBuildSlice_ok {T : zac} {nm : Nat} {t : TypeId} {n : Nat} {ps : List (Nat × AV)} : Told (aBuildSlice T nm t n ps H) lk (cBuildSlice T nm t n ps) := by
 intro y us h
 unfold cBuildSlice at h
 unfold aBuildSlice
 split at h
 · rename_i ti ht
   simp only [ht]
   split at h
   · rename_i e hd
     simp only [hd]
     split at h
     · rename_i te hte
       simp only [hte]
       split at h
       · rename_i hk
         simp only [hk]
         split at h
         · rename_i hc
           obtain ⟨z,hz,he⟩ := Option.map_eq_some_iff.1 h
           injection he with h1 h2; subst h1 h2
           obtain ⟨a,b⟩ := cfillB_ok hz
           exact ⟨⟨hc.1,isZ_ok hc.2.1,hc.2.2,a⟩,rfl,fun id => by rw [b]; exact zam hl id⟩
         · cases h
       · rename_i hk
         simp only [hk]
         split at h
         · rename_i hc
           obtain ⟨z,hz,he⟩ := Option.map_eq_some_iff.1 h
           injection he with h1 h2; subst h1 h2
           obtain ⟨a,b⟩ := cfillI_ok hz
           exact ⟨⟨hc.1,isZ_ok hc.2.1,hc.2.2,a⟩,rfl,fun id => by rw [b]; exact zam hl id⟩
         · cases h
       · rename_i hk1 hk2
         split
         · rename_i he; exact (hk1 he).elim
         · rename_i he; exact (hk2 he).elim
         · split at h
           · rename_i hc
             obtain ⟨z,hz,he⟩ := Option.map_eq_some_iff.1 h
             injection he with h1 h2; subst h1 h2
             obtain ⟨a,b⟩ := cfillG_ok hz
             exact ⟨⟨hc.1,hc.2,a⟩,rfl,fun id => by rw [b]; exact zam hl id⟩
           · cases h
     · cases h
   · cases h
 · cases h
def cNil (x : AV) (lk : Nat → Option Blk) : Option (AV × Us) :=
 match x with
 | .rf id s i f => match lk id with
   | some _ => if s ≠ 0 then some (.rf id s i f,[]) else none
   | none => none
 | .cp ls => some (.cp ls,[])
 | .fn f cs => some (.fn f cs,[])
 | _ => none
include hl in
theorem cNil_ok {x : AV} : Told (aNil x H) lk (cNil x lk) := by
 intro y us h
 unfold cNil at h
 unfold aNil
 split at h
 · rename_i id s i f
   simp only [hl id]
   split at h
   · rename_i b hb
     simp only [hb]
     split at h
     · injection h with h; injection h with h1 h2; subst h1 h2
       exact ⟨by assumption,rfl,hl⟩
     · cases h
   · cases h
 · injection h with h; injection h with h1 h2; subst h1 h2; exact ⟨trivial,rfl,hl⟩
 · injection h with h; injection h with h1 h2; subst h1 h2; exact ⟨trivial,rfl,hl⟩
 · cases h
def cInt (op : BinOp) (k : IntKind) (a : Int) (k' : IntKind) (b : Int) : Option Value :=
 match op with
 | .shl => if 0 ≤ b then some (.int k (k.wrap (a * 2 ^ min b.toNat k.bits))) else none
 | .shr => if 0 ≤ b then some (.int k (a / 2 ^ min b.toNat k.bits)) else none
 | .add => if k = k' then some (.int k (k.wrap (a + b))) else none
 | .sub => if k = k' then some (.int k (k.wrap (a - b))) else none
 | .mul => if k = k' then some (.int k (k.wrap (a * b))) else none
 | .quo => if k = k' ∧ b ≠ 0 then some (.int k (k.wrap (a.tdiv b))) else none
 | .rem => if k = k' ∧ b ≠ 0 then some (.int k (a.tmod b)) else none
 | .and => if k = k' then some (.int k (bits .and k a b)) else none
 | .or => if k = k' then some (.int k (bits .or k a b)) else none
 | .xor => if k = k' then some (.int k (bits .xor k a b)) else none
 | .andNot => if k = k' then some (.int k (bits .andNot k a b)) else none
 | .eql => if k = k' then some (.bool (decide (a = b))) else none
 | .neq => if k = k' then some (.bool (!decide (a = b))) else none
 | .lss => if k = k' then some (.bool (decide (a < b))) else none
 | .leq => if k = k' then some (.bool (decide (a ≤ b))) else none
 | .gtr => if k = k' then some (.bool (decide (b < a))) else none
 | .geq => if k = k' then some (.bool (decide (b ≤ a))) else none
theorem cInt_ok {op : BinOp} {k k' : IntKind} {a b : Int} {v : Value} (h : cInt op k a k' b = some v) : (aInt op k a k' b).1 ∧ (aInt op k a k' b).2 = v := by
 cases op <;> simp only [cInt] at h <;> simp only [aInt] <;> split at h <;> first | (injection h with h; exact ⟨by assumption,h⟩) | cases h
def cStr (op : BinOp) (a b : List UInt8) : Option AV :=
 match op with
 | .add => if a.length + b.length ≤ 1099511627776 then some (.str (a ++ b)) else none
 | .eql => some (.w (.bool (decide (a = b))))
 | .neq => some (.w (.bool (!decide (a = b))))
 | .lss => some (.w (.bool (Op.bytesLess a b)))
 | .leq => some (.w (.bool (Op.bytesLess a b || decide (a = b))))
 | .gtr => some (.w (.bool (!(Op.bytesLess a b || decide (a = b)))))
 | .geq => some (.w (.bool (!(Op.bytesLess a b))))
 | _ => none
theorem cStr_ok {op : BinOp} {a b : List UInt8} {v : AV} (h : cStr op a b = some v) : (aStr op a b).1 ∧ (aStr op a b).2 = v := by
 cases op <;> simp only [cStr] at h <;> simp only [aStr] <;> first | cases h | (split at h <;> first | cases h | (injection h with h; exact ⟨by assumption,h⟩)) | (injection h with h; exact ⟨trivial,h⟩)
 all_goals first | exact ⟨trivial,rfl⟩ | trivial
def cEq (op : BinOp) (r : Bool) : Option (AV × Us) :=
 match op with
 | .eql => some (.w (.bool r),[])
 | .neq => some (.w (.bool (!r)),[])
 | _ => none
include hl in
theorem cEq_ok {op : BinOp} {r : Bool} : Told (aEq op r H) lk (cEq op r) := by
 intro y us h
 cases op <;> simp only [cEq] at h <;> first | cases h | skip
 all_goals (exact ⟨trivial,rfl,hl⟩)
def cisPtr (T : zac) (t : TypeId) : Bool :=
 match T t with
 | some ti => match ti.d with
   | .ptr => true
   | _ => false
 | none => false
theorem cisPtr_ok {T : zac} {t : TypeId} (h : cisPtr T t = true) : isPtr T t := by
 unfold cisPtr at h; unfold isPtr; split at h
 · rename_i ti ht; simp only [ht]; split at h
   · rename_i hd; simp only [hd]
   · cases h
 · cases h
def cisBool (T : zac) (t : TypeId) : Bool :=
 match T t with
 | some ti => match ti.d with
   | .bool => true
   | _ => false
 | none => false
theorem cisBool_ok {T : zac} {t : TypeId} (h : cisBool T t = true) : isBool T t := by
 unfold cisBool at h; unfold isBool; split at h
 · rename_i ti ht; simp only [ht]; split at h
   · rename_i hd; simp only [hd]
   · cases h
 · cases h
def cisStruct (T : zac) (t : TypeId) : Bool :=
 match T t with
 | some ti => match ti.d with
   | .struct _ => true
   | _ => false
 | none => false
theorem cisStruct_ok {T : zac} {t : TypeId} (h : cisStruct T t = true) : isStruct T t := by
 unfold cisStruct at h; unfold isStruct; split at h
 · rename_i ti ht; simp only [ht]; split at h
   · rename_i hd; simp only [hd]
   · cases h
 · cases h
def ceqF (S : TypeId → AV → AV → Option Bool) (T : zac) : List (Nat × TypeId) → List AV → List AV → Option Bool
 | [],_,_ => some true
 | p :: r,xs,ys => match T p.2 with
   | none => none
   | some te => match csub te xs p.1,csub te ys p.1 with
     | some a,some b => match S p.2 a b with
       | some u => match ceqF S T r xs ys with
         | some v => some (u && v)
         | none => none
       | none => none
     | _,_ => none
def ceqV (T : zac) : Nat → TypeId → AV → AV → Option Bool
 | 0,_,_,_ => none
 | n + 1,t,x,y => match T t with
   | none => none
   | some i => match i.d with
     | .int _ => match x,y with
       | .w (.int k1 a),.w (.int k2 b) => if k1 = k2 then some (decide (a = b)) else none
       | _,_ => none
     | .bool => match x,y with
       | .w (.bool a),.w (.bool b) => some (a == b)
       | _,_ => none
     | .str => match x,y with
       | .str a,.str b => some (decide (a = b))
       | _,_ => none
     | .struct fs => match x,y with
       | .agg xs,.agg ys => ceqF (ceqV T n) T fs xs ys
       | _,_ => none
     | _ => none
theorem ceqF_ok {T : zac} {S : TypeId → AV → AV → Prop × Bool} {S' : TypeId → AV → AV → Option Bool} (hS : ∀ t x y b,S' t x y = some b → (S t x y).1 ∧ (S t x y).2 = b) :
   ∀ {fs : List (Nat × TypeId)} {xs ys : List AV} {b : Bool},ceqF S' T fs xs ys = some b → (eqF S T fs xs ys).1 ∧ (eqF S T fs xs ys).2 = b
 | [],xs,ys,b,h => by injection h with h; exact ⟨trivial,h⟩
 | p :: r,xs,ys,b,h => by
   unfold ceqF at h
   unfold eqF
   split at h
   · cases h
   · rename_i te ht
     simp only [ht]
     split at h
     · rename_i a c ha hc
       split at h
       · rename_i u hu
         split at h
         · rename_i v hv
           injection h with h
           obtain ⟨a1,a2,_⟩ := csub_ok (H := []) ha
           obtain ⟨b1,b2,_⟩ := csub_ok (H := []) hc
           obtain ⟨c1,c2⟩ := hS _ _ _ _ hu
           obtain ⟨d1,d2⟩ := ceqF_ok hS hv
           rw [a2,b2]
           exact ⟨⟨a1,b1,c1,d1⟩,by rw [c2,d2,h]⟩
         · cases h
       · cases h
     · cases h
theorem ceqV_ok {T : zac} : ∀ (n : Nat) (t : TypeId) (x y : AV) (b : Bool),ceqV T n t x y = some b → (eqV T n t x y).1 ∧ (eqV T n t x y).2 = b
 | 0,t,x,y,b,h => by cases h
 | n + 1,t,x,y,b,h => by
   unfold ceqV at h
   unfold eqV
   split at h
   · cases h
   · rename_i i hi
     simp only [hi]
     split at h
     · rename_i hd
       simp only [hd]
       split at h
       · split at h
         · injection h with h; exact ⟨by assumption,h⟩
         · cases h
       · cases h
     · rename_i hd
       simp only [hd]
       split at h
       · injection h with h; exact ⟨trivial,h⟩
       · cases h
     · rename_i hd
       simp only [hd]
       split at h
       · injection h with h; exact ⟨trivial,h⟩
       · cases h
     · rename_i hd
       simp only [hd]
       split at h
       · exact ceqF_ok (ceqV_ok n) h
       · cases h
     · cases h
def cBin (T : zac) (op : BinOp) (t : TypeId) (x y : AV) (lk : Nat → Option Blk) : Option (AV × Us) :=
 match x,y with
 | .w (.int k a),.w (.int k' b) => (cInt op k a k' b).map fun v => (.w v,[])
 | .str a,.str b => (cStr op a b).map fun v => (v,[])
 | .w (.bool a),.w (.bool b) => bif cisBool T t then cEq op (a == b) else none
 | .rf id s _ _,.w (.pointer none) => match lk id with
   | some _ => bif decide (s ≠ 0) && cisPtr T t then cEq op false else none
   | none => none
 | .w (.pointer none),.w (.pointer none) => bif cisPtr T t then cEq op true else none
 | .agg xs,.agg ys => match ceqV T 4 t (.agg xs) (.agg ys) with
   | some r => bif cisStruct T t then cEq op r else none
   | none => none
 | _,_ => none
theorem Told.and {q : Prop} {o : Out} {r : Option (AV × Us)} (h : Told o lk r) (hq : q) : Told (o.and q) lk r := fun x us e => let ⟨a,b,c⟩ := h x us e; ⟨⟨hq,a⟩,b,c⟩
theorem Told.cond {q : Prop} {b : Bool} {o : Out} {r : Option (AV × Us)} (h : Told o lk r) (hq : b = true → q) : Told (o.and q) lk (bif b then r else none) := by
 cases b with
 | true => exact h.and (hq rfl)
 | false => intro x us e; cases e
include hl in
theorem cBin_ok {T : zac} {op : BinOp} {t : TypeId} {x y : AV} : Told (aBin T op t x y H) lk (cBin T op t x y lk) := by
 intro z us h
 unfold cBin at h
 split at h
 · obtain ⟨v,hv,he⟩ := Option.map_eq_some_iff.1 h
   injection he with h1 h2; subst h1 h2
   obtain ⟨a,b⟩ := cInt_ok hv
   exact ⟨a,by simp only [aBin,b],hl⟩
 · obtain ⟨v,hv,he⟩ := Option.map_eq_some_iff.1 h
   injection he with h1 h2; subst h1 h2
   obtain ⟨a,b⟩ := cStr_ok hv
   exact ⟨a,b,hl⟩
 · exact ((cEq_ok hl).cond (q := isBool T t) cisBool_ok) z us h
 · rename_i id s _ _
   split at h
   · rename_i bk hb
     have hb' : look H id = some bk := (hl id).trans hb
     have := ((cEq_ok hl).cond (q := s ≠ 0 ∧ isPtr T t) fun h => by
       simp only [Bool.and_eq_true,decide_eq_true_eq] at h
       exact ⟨h.1,cisPtr_ok h.2⟩) z us h
     simp only [aBin,hb']
     exact this
   · cases h
 · exact ((cEq_ok hl).cond (q := isPtr T t) cisPtr_ok) z us h
 · rename_i xs ys
   split at h
   · rename_i r hr
     obtain ⟨a,b⟩ := ceqV_ok _ _ _ _ _ hr
     simp only [aBin]
     rw [b]
     cases hc : cisStruct T t with
     | true =>
       rw [hc] at h
       exact (cEq_ok hl).and ⟨cisStruct_ok hc,a⟩ z us h
     | false => rw [hc] at h; cases h
   · cases h
 · cases h
def cUn (op : UnOp) (x : AV) : Option (AV × Us) :=
 match op,x with
 | .not,.w (.bool b) => some (.w (.bool (!b)),[])
 | .neg,.w (.int k n) => some (.w (.int k (k.wrap (0 - n))),[])
 | .xor,.w (.int k n) => some (.w (.int k (bits .xor k (bif k.signed then -1 else k.max) n)),[])
 | _,_ => none
include hl in
theorem cUn_ok {op : UnOp} {x : AV} : Told (aUn op x H) lk (cUn op x) := by
 intro y us h
 unfold cUn at h
 unfold aUn
 split at h <;> first | cases h | (injection h with h; injection h with h1 h2; subst h1 h2; exact ⟨trivial,rfl,hl⟩)
 all_goals exact ⟨trivial,rfl,hl⟩
def cviewB (lk : Nat → Option Blk) (x : AV) : Option (List UInt8) :=
 match x with
 | .sb bs _ => some bs
 | .sg _ [] _ => some []
 | .ms id s off len => match lk id with
   | some (.b bs) => if s = 1 ∧ off + len ≤ bs.length then some ((bs.drop off).take len) else none
   | _ => none
 | _ => none
include hl in
theorem cviewB_ok {x : AV} {l : List UInt8} (h : cviewB lk x = some l) : (zfg H x).1 ∧ (zfg H x).2 = l := by
 unfold cviewB at h
 unfold zfg
 split at h
 · injection h with h; exact ⟨trivial,h⟩
 · injection h with h; exact ⟨trivial,h⟩
 · rename_i id s off len
   simp only [hl id]
   split at h
   · rename_i bs hb
     simp only [hb]
     split at h
     · injection h with h; exact ⟨by assumption,h⟩
     · cases h
   · cases h
 · cases h
def cviewI (lk : Nat → Option Blk) (x : AV) : Option (List Int) :=
 match x with
 | .si ns _ => some ns
 | .sg _ [] _ => some []
 | .ms id s off len => match lk id with
   | some (.i ns) => if s = 1 ∧ off + len ≤ ns.length then some ((ns.drop off).take len) else none
   | _ => none
 | _ => none
include hl in
theorem cviewI_ok {x : AV} {l : List Int} (h : cviewI lk x = some l) : (viewI H x).1 ∧ (viewI H x).2 = l := by
 unfold cviewI at h
 unfold viewI
 split at h
 · injection h with h; exact ⟨trivial,h⟩
 · injection h with h; exact ⟨trivial,h⟩
 · rename_i id s off len
   simp only [hl id]
   split at h
   · rename_i bs hb
     simp only [hb]
     split at h
     · injection h with h; exact ⟨by assumption,h⟩
     · cases h
   · cases h
 · cases h
def cviewG (s : Nat) (lk : Nat → Option Blk) (x : AV) : Option (List AV) :=
 match x with
 | .sg s' xs _ => bif xs.isEmpty || decide (s' = s) then some xs else none
 | .ms id s' off len => match lk id with
   | some (.g s'' xs) => if s' = s ∧ s'' = s ∧ off + len ≤ xs.length then some ((xs.drop off).take len) else none
   | _ => none
 | _ => none
include hl in
theorem cviewG_ok {s : Nat} {x : AV} {l : List AV} (h : cviewG s lk x = some l) : (zff s H x).1 ∧ (zff s H x).2 = l := by
 unfold cviewG at h
 unfold zff
 split at h
 · rename_i s' xs f
   cases hc : xs.isEmpty || decide (s' = s) with
   | true =>
     rw [hc] at h
     injection h with h
     refine ⟨?_,h⟩
     simp only [Bool.or_eq_true,List.isEmpty_iff,decide_eq_true_eq] at hc
     exact hc
   | false => rw [hc] at h; cases h
 · rename_i id s off len
   simp only [hl id]
   split at h
   · rename_i bs hb
     simp only [hb]
     split at h
     · injection h with h; exact ⟨by assumption,h⟩
     · cases h
   · cases h
 · cases h
def cisBytes (T : zac) (t : TypeId) : Bool :=
 match T t with
 | some ti => match ti.d with
   | .slice e => match T e with
     | some te => match te.d with
       | .int .u8 => true
       | _ => false
     | none => false
   | _ => false
 | none => false
theorem cisBytes_ok {T : zac} {t : TypeId} (h : cisBytes T t = true) : isBytes T t := by
 unfold cisBytes at h; unfold isBytes; split at h
 · rename_i ti ht; simp only [ht]; split at h
   · rename_i e hd; simp only [hd]; split at h
     · rename_i te hte; simp only [hte]; split at h
       · rename_i hk; simp only [hk]
       · cases h
     · cases h
   · cases h
 · cases h
def cConv (T : zac) (src dst : TypeId) (nm : Nat) (x : AV) (lk : Nat → Option Blk) : Option (AV × Us) :=
 match T src,T dst with
 | some _,some b => match b.d with
   | .int k => match x with
     | .w (.int _ n) => some (.w (.int k (k.wrap n)),[])
     | _ => none
   | .str => match x with
     | .str bs => some (.str bs,[])
     | _ => bif cisBytes T src then (cviewB lk x).map fun l => (.str l,[]) else none
   | .slice _ => match x with
     | .str bs => bif cisBytes T dst && decide (bs.length ≤ 9223372036854775807) then some (.ms nm 1 0 bs.length,[(nm,some (.b bs))]) else none
     | .ms id s off len => match lk id with
       | some blk => bif cisBytes T dst && (decide (src = dst) && (decide (0 < blk.len) && decide (blk.size = 1))) then some (.ms id s off len,[(id,some blk)]) else none
       | none => none
     | _ => none
   | _ => none
 | _,_ => none
include hl in
theorem cConv_ok {T : zac} {src dst : TypeId} {nm : Nat} {x : AV} : Told (aConv T src dst nm x H) lk (cConv T src dst nm x lk) := by
 intro y us h
 unfold cConv at h
 unfold aConv
 split at h
 · rename_i a b ha hb
   simp only [ha,hb]
   split at h
   · rename_i k hk
     simp only [hk]
     split at h
     · injection h with h; injection h with h1 h2; subst h1 h2; exact ⟨trivial,rfl,hl⟩
     · cases h
   · rename_i hk
     simp only [hk]
     split at h
     · injection h with h; injection h with h1 h2; subst h1 h2; exact ⟨trivial,rfl,hl⟩
     · rename_i hx
       split
       · rename_i bs; exact (hx bs rfl).elim
       · cases hc : cisBytes T src with
         | true =>
           rw [hc] at h
           obtain ⟨v,hv,he⟩ := Option.map_eq_some_iff.1 h
           injection he with h1 h2; subst h1 h2
           obtain ⟨p,q⟩ := cviewB_ok hl hv
           exact ⟨⟨cisBytes_ok hc,p⟩,by simp only [q],hl⟩
         | false => rw [hc] at h; cases h
   · rename_i e hk
     simp only [hk]
     split at h
     · rename_i bs
       cases hc : (cisBytes T dst && decide (bs.length ≤ 9223372036854775807)) with
       | true =>
         rw [hc] at h
         injection h with h; injection h with h1 h2; subst h1 h2
         simp only [Bool.and_eq_true,decide_eq_true_eq] at hc
         exact ⟨⟨cisBytes_ok hc.1,hc.2⟩,rfl,fun id => zam hl id⟩
       | false => rw [hc] at h; cases h
     · rename_i id s off len
       simp only [hl id]
       split at h
       · rename_i blk hbk
         simp only [hbk]
         cases hc : (cisBytes T dst && (decide (src = dst) && (decide (0 < blk.len) && decide (blk.size = 1)))) with
         | true =>
           rw [hc] at h
           injection h with h; injection h with h1 h2; subst h1 h2
           simp only [Bool.and_eq_true,decide_eq_true_eq] at hc
           exact ⟨⟨cisBytes_ok hc.1,hc.2⟩,rfl,fun id => zam hl id⟩
         | false => rw [hc] at h; cases h
       · cases h
     · cases h
   · cases h
 · cases h
end
end Ax
end Go.Proofs.Ytlpjdgkpapjldaa
