/- What the proofs of this seat stand on; it asks nothing. -/
import Derived.Test.YtmedjkjoannbmaaZa12
set_option linter.unusedSimpArgs false
set_option linter.unusedVariables false
namespace Go.Proofs.Ytmedjkjoannbmaa
namespace Ax
open Go.RowKit
section rules
variable {S : zal} {T : zag} {pl : Plan} {Q : Exit → ASt → Prop} {σ : ASt}
theorem awpF_loopW {c : Code} (h : ALoop (awpF S T pl c) Q σ) : awpF S T pl (.loop c) Q σ := h
variable {ops r : List Oper} {o : Oper} {nm : Nat} {sl : List AV} {H : Heap} {Q' : List AV → Heap → Prop} {pp : List (Nat × Nat)} {acc : List (Nat × List Nat)}
end rules
end Ax
end Go.Proofs.Ytmedjkjoannbmaa
namespace Go.Proofs.Ytmedjkjoannbmaa
open Ax
def zdg (f : FuncId) : Option zai :=
 match f with
 | 31 => some putS
 | 32 => some zde
 | 29 => some zfn
 | 30 => some zcg
 | _ => none
theorem SrputA_ok : Fns Try.prog zdg := by
 intro f s h
 unfold zdg at h
 split at h
 · injection h with h; subst h; exact ⟨⟨_,Try.func31,by kernel_rfl,by kernel_rfl⟩,rput_sound⟩
 · injection h with h; subst h; exact ⟨⟨_,Try.func32,by kernel_rfl,by kernel_rfl⟩,flag22_sound⟩
 · injection h with h; subst h; exact ⟨⟨_,Try.func29,by kernel_rfl,by kernel_rfl⟩,rput4_sound⟩
 · injection h with h; subst h; exact ⟨⟨_,Try.func30,by kernel_rfl,by kernel_rfl⟩,rtext_sound⟩
 · cases h
theorem lngB_at {ks : List (List UInt8)} {i : Nat} (h : i < ks.length) (h2 : 255 < ks[i].length) : lngB ks = true := by
 unfold lngB; rw [List.any_eq_true]
 exact ⟨ks[i],List.getElem_mem h,by simpa using h2⟩
theorem lngB_none {ks : List (List UInt8)} (h : ∀ s ∈ ks,s.length ≤ 255) : lngB ks = false := by
 unfold lngB; rw [List.any_eq_false]
 intro s hs
 have := h s hs
 simp only [decide_eq_true_eq]; omega
section
set_option maxRecDepth 100000
set_option maxHeartbeats 8000000 in
theorem rputA_sound : zaq Try.prog 18 putAS := by
 refine zbo (S := zdg) (T := ty) zas ty_ok SrputA_ok Try.func18 (c := Try.f18.body.getD .skip) (by kernel_rfl) (by kernel_rfl) (fun xs pins hp _ => ?_)
 unfold putAS at hp ⊢
 split at hp
 · rename_i k er o x d g bs f1 pl f2 ns f3 _
   obtain ⟨⟨⟨hk0,hk1⟩,r1,r2,r3,r4⟩,⟨hL1,hL2,hL3⟩,⟨l,rfl,hrs⟩,hpk,ks,rfl⟩ := hp
   rw [zez,zbj]
   have q1 := r1
   have q2 := r2
   have q3 := r3
   have q4 := r4
   have hmu := zbj ks
   have hl1 : (l.map bvp).length = l.length := by simp
   have hl2 : pl.length = pl.length := rfl
   have hl3 : (ks.map AV.str).length = ks.length := by simp
   have hfl : (l.map Prod.fst).length = l.length := by simp
   rw [hl1] at hL1
   rw [hl3] at hL3
   have c1 : l.length ≤ 9223372036854775807 := by omega
   have c2 : pl.length ≤ 9223372036854775807 := by omega
   have c3 : ks.length ≤ 9223372036854775807 := by omega
   have hex : ∃ qs : List (List UInt8),ks.map AV.str = qs.map AV.str := ⟨ks,rfl⟩
   have tk : ∀ l : List UInt8,List.take l.length l = l := fun l => List.take_length
   refine ⟨by simp,?_⟩
   unfold Try.f18
   have hE0 : ∀ C : Int,chkA k l.length pl.length ks = C → C ≠ 0 → errA k (l.map Prod.fst) pl ks = C ∧ putA k er o x d g (l.map Prod.fst) pl ks = [] := by
     intro C hC hn
     have h1 : errA k (l.map Prod.fst) pl ks = C := by unfold errA; rw [hfl,hC,if_neg hn]
     exact ⟨h1,by unfold putA; rw [h1,if_neg hn]⟩
   rcases chkA_kind k with K | K | K
   · obtain ⟨hE,hO⟩ := hE0 22 (if_pos K.2.2) (by decide)
     rw [hE,hO]
     simp only [go_sem,zaa,Nat.reduceAdd,Nat.reduceSub,Nat.reduceMul,Int.reduceToNat,reduceCtorEq,↓reduceIte,Int.reducePow,Nat.reducePow,Int.reduceMod,Nat.reduceLeDiff,Int.reduceLE,Int.reduceNe,Int.reduceEq,Nat.reduceEqDiff,Nat.reduceLT,Nat.reduceBEq,ty,zdg,K.1,K.2.1]
     exact zbl 2 3 (by decide) rfl rfl rfl rfl
   all_goals
     have hKn : ¬ (11 < k ∧ k ≠ 255) := by first | exact K.2.2 | exact K.2
     rcases chkA_len l.length pl.length ks.length with D | D | D | D
     rotate_right 1
     · have hDn := D.2.2.2
       simp only [go_sem,zaa,Nat.reduceAdd,Nat.reduceSub,Nat.reduceMul,Int.reduceToNat,reduceCtorEq,↓reduceIte,Int.reducePow,Nat.reducePow,Int.reduceMod,Nat.reduceLeDiff,Int.reduceLE,Int.reduceNe,Int.reduceEq,Nat.reduceEqDiff,Nat.reduceLT,Nat.reduceBEq,ty,zdg,hl1,hl3,K,D]
       refine zca ⟨fun m σ => ∃ i : Nat,m = ks.length - i ∧ i ≤ ks.length ∧ (∀ s ∈ ks.take i,s.length ≤ 255) ∧
         σ = ⟨[.agg [.w (.int .u8 k),.w (.int .i64 er),.w (.int .i64 o),.w (.int .i64 x),.w (.bool d),.w (.int .i64 g),.sg 6 (l.map bvp) f1,.si pl f2,.sg 1 (ks.map AV.str) f3],.rf 4 9 0 0,.junk,.junk,.w (.int .i64 i),.junk,.junk,.junk,.junk,.junk,.junk,.junk,.junk,.junk,.junk,.junk,.junk,.junk,.junk,.junk,.junk,.junk,.junk,.junk,.junk,.junk,.junk,.junk,.junk,.junk,.junk,.junk,.junk,.junk,.junk,.junk,.junk,.junk,.junk,.junk,.junk,.junk,.junk,.junk,.junk,.junk,.junk,.junk,.junk,.junk,.junk,.junk,.junk,.junk,.junk,.junk,.junk,.junk,.junk,.junk,.junk,.junk,.junk,.junk,.junk,.junk,.junk,.junk,.junk,.junk,.junk,.junk,.junk,.junk,.junk,.junk,.junk,.junk,.junk,.junk,.junk,.junk,.junk,.junk,.junk,.junk,.junk,.junk,.junk,.junk,.junk,.junk,.junk,.junk,.junk,.junk,.junk,.junk,.junk,.junk,.junk,.junk,.junk,.junk,.junk,.junk,.junk,.junk,.junk,.junk,.junk,.junk,.junk,.junk,.junk,.junk,.junk,.junk,.junk,.junk,.junk,.junk,.junk,.junk,.junk,.junk,.junk,.junk,.junk,.junk,.junk,.junk,.junk,.junk,.junk,.junk,.junk,.junk,.junk,.junk,.junk,.junk,.junk,.junk,.junk,.junk,.junk,.junk,.junk,.junk,.junk,.junk,.junk,.junk,.junk,.junk],[(4,.g 9 [.agg [.w (.int .u8 k),.w (.int .i64 er),.w (.int .i64 o),.w (.int .i64 x),.w (.bool d),.w (.int .i64 g),.sg 6 (l.map bvp) f1,.si pl f2,.sg 1 (ks.map AV.str) f3]])],5⟩,?_,?_⟩
       · refine ⟨_,_,zad [0,1,2,3,4] rfl rfl rfl ?_ ?_,0,rfl,by omega,by simp,rfl⟩
         · simp only [ssT,zae,zaf,setSlot,gOf,AV.ren,renL,Blk.ren,Ax.look,Ax.put,reduceCtorEq,↓reduceIte,Nat.reduceEqDiff,Nat.reduceLT,Nat.reduceAdd,List.length_append,List.length_cons,List.length_nil,Option.some.injEq]; try simp
         · simp only [ssT,zae,zaf,setSlot,gOf,AV.ren,renL,Blk.ren,Ax.look,Ax.put,reduceCtorEq,↓reduceIte,Nat.reduceEqDiff,Nat.reduceLT,Nat.reduceAdd,List.length_append,List.length_cons,List.length_nil,Option.some.injEq]
       · rintro m σ ⟨i,rfl,hi,hall,rfl⟩
         by_cases hil : i < ks.length
         · have d2 : decide ((i : Int) < ks.length) = true := decide_eq_true (by omega)
           have e1 : ((i : Int) + 1 + 9223372036854775808) % 18446744073709551616 - 9223372036854775808 = ((i + 1 : Nat) : Int) := by omega
           have hs1 := zct ks i hil
           have htake : ks.take (i + 1) = ks.take i ++ [ks[i]] := List.take_succ_eq_append_getElem hil
           have hat := lngB_at hil
           obtain ⟨s,hS⟩ : ∃ x,ks[i] = x := ⟨_,rfl⟩
           rw [hS] at hs1 htake hat
           by_cases hg : 255 < s.length
           · have d3 : decide ((255 : Int) < s.length) = true := decide_eq_true (by omega)
             obtain ⟨hE,hO⟩ := hE0 5 (by unfold chkA; rw [if_neg hKn,if_neg hDn,if_pos (hat hg)]) (by decide)
             rw [hE,hO]
             simp only [go_sem,zaa,Nat.reduceAdd,Nat.reduceSub,Nat.reduceMul,Int.reduceToNat,reduceCtorEq,↓reduceIte,Int.reducePow,Nat.reducePow,Int.reduceMod,Nat.reduceLeDiff,Int.reduceLE,Int.reduceNe,Int.reduceEq,Nat.reduceEqDiff,Nat.reduceLT,Nat.reduceBEq,ty,zdg,hl3,d2,d3,hs1,e1,Int.toNat_natCast]
             repeat (refine And.intro (by first | omega | (unfold top; omega)) ?_)
             refine ⟨_,Weak.refl _,?_⟩
             simp only [go_sem,zaa,Nat.reduceAdd,Nat.reduceSub,Nat.reduceMul,Int.reduceToNat,reduceCtorEq,↓reduceIte,Int.reducePow,Nat.reducePow,Int.reduceMod,Nat.reduceLeDiff,Int.reduceLE,Int.reduceNe,Int.reduceEq,Nat.reduceEqDiff,Nat.reduceLT,Nat.reduceBEq,ty,zdg]
             exact zbl 2 3 (by decide) rfl rfl rfl rfl
           · have d3 : decide ((255 : Int) < s.length) = false := decide_eq_false (by omega)
             simp only [go_sem,zaa,Nat.reduceAdd,Nat.reduceSub,Nat.reduceMul,Int.reduceToNat,reduceCtorEq,↓reduceIte,Int.reducePow,Nat.reducePow,Int.reduceMod,Nat.reduceLeDiff,Int.reduceLE,Int.reduceNe,Int.reduceEq,Nat.reduceEqDiff,Nat.reduceLT,Nat.reduceBEq,ty,zdg,hl3,d2,d3,hs1,e1,Int.toNat_natCast]
             repeat (refine And.intro (by first | omega | (unfold top; omega)) ?_)
             refine ⟨ks.length - (i + 1),_,by omega,zad [0,1,2,3,4] rfl rfl rfl ?_ ?_,i + 1,rfl,by omega,?_,rfl⟩
             · simp only [ssT,zae,zaf,setSlot,gOf,AV.ren,renL,Blk.ren,Ax.look,Ax.put,reduceCtorEq,↓reduceIte,Nat.reduceEqDiff,Nat.reduceLT,Nat.reduceAdd,List.length_append,List.length_cons,List.length_nil,Option.some.injEq]
             · simp only [ssT,zae,zaf,setSlot,gOf,AV.ren,renL,Blk.ren,Ax.look,Ax.put,reduceCtorEq,↓reduceIte,Nat.reduceEqDiff,Nat.reduceLT,Nat.reduceAdd,List.length_append,List.length_cons,List.length_nil,Option.some.injEq]
             · intro q hq
               rw [htake,List.mem_append] at hq
               rcases hq with hq | hq
               · exact hall q hq
               · have : q = s := by simpa using hq
                 rw [this]; omega
         · have d2 : decide ((i : Int) < ks.length) = false := decide_eq_false (by omega)
           have hi2 : i = ks.length := by omega
           subst hi2
           rw [List.take_length] at hall
           have hks := hall
           have hc : chkA k l.length pl.length ks = 0 := by unfold chkA; rw [if_neg hKn,if_neg hDn,if_neg (by rw [lngB_none hall]; decide)]
           obtain ⟨hk2,m1,m2,m3,-⟩ := chkA_ok hc
           have rn1 : -9223372036854775808 ≤ (l.length : Int) ∧ (l.length : Int) ≤ 9223372036854775807 := by omega
           have rn2 : -9223372036854775808 ≤ (pl.length : Int) ∧ (pl.length : Int) ≤ 9223372036854775807 := by omega
           have rn3 : -9223372036854775808 ≤ (ks.length : Int) ∧ (ks.length : Int) ≤ 9223372036854775807 := by omega
           have l1 := zbk er r1
           have l2 := zbk o r2
           have l3 := zbk x r3
           have l4 := zbk g r4
           have l5 := zbk _ rn1
           have l6 := zbk _ rn2
           have l7 := zbk _ rn3
           have gd : [er,o,x,g].getD 0 0 = er ∧ [er,o,x,g].getD 1 0 = o ∧ [er,o,x,g].getD 2 0 = x ∧ [er,o,x,g].getD 3 0 = g := ⟨rfl,rfl,rfl,rfl⟩
           unfold okI at r1 r2 r3 r4
           simp only [go_sem,zaa,Nat.reduceAdd,Nat.reduceSub,Nat.reduceMul,Int.reduceToNat,reduceCtorEq,↓reduceIte,Int.reducePow,Nat.reducePow,Int.reduceMod,Nat.reduceLeDiff,Int.reduceLE,Int.reduceNe,Int.reduceEq,Nat.reduceEqDiff,Nat.reduceLT,Nat.reduceBEq,ty,zdg,hl3,d2]
           refine ⟨_,Weak.refl _,?_⟩
           simp only [go_sem,zaa,Nat.reduceAdd,Nat.reduceSub,Nat.reduceMul,Int.reduceToNat,reduceCtorEq,↓reduceIte,Int.reducePow,Nat.reducePow,Int.reduceMod,Nat.reduceLeDiff,Int.reduceLE,Int.reduceNe,Int.reduceEq,Nat.reduceEqDiff,Nat.reduceLT,Nat.reduceBEq,ty,zdg,hk0,hk1,hl3,d2]
           refine awp_unr 6 ?_
           simp only [go_sem,zaa,Nat.reduceAdd,Nat.reduceSub,Nat.reduceMul,Int.reduceToNat,reduceCtorEq,↓reduceIte,Int.reducePow,Nat.reducePow,Int.reduceMod,Nat.reduceLeDiff,Int.reduceLE,Int.reduceNe,Int.reduceEq,Nat.reduceEqDiff,Nat.reduceLT,Nat.reduceBEq,ty,zdg,putS,zde,unr_go,unK_normal,unK_exit,unK_ret,Int.reduceAdd,Int.reduceSub,Int.reduceLT,Int.reduceEq,Int.cast_ofNat_Int,cst22h,hl1,hl3,r1,r2,r3,r4,rn1,zbt,tk,gd]
           repeat (refine And.intro (by first | omega | (unfold top; omega)) ?_)
           obtain ⟨bl,hbl⟩ : ∃ v,l.map Prod.fst = v := ⟨_,rfl⟩
           have hA : headA k er o x d g = UInt8.ofNat k.toNat :: (pq er ++ (pq o ++ (pq x ++ (pq g ++ [UInt8.ofNat (bitN d).toNat])))) := rfl
           have hAl := headA_len k er o x d g q1 q2 q3 q4
           obtain ⟨A,hAA⟩ : ∃ v,headA k er o x d g = v := ⟨_,rfl⟩
           rw [hAA] at hA hAl
           have hbn : bl.length = l.length := by rw [← hbl,List.length_map]
           rw [hbl]
           refine zca ⟨fun m σ => ∃ i : Nat,m = l.length - i ∧ i ≤ l.length ∧ (∀ m ∈ bl.take i,bE m = 0) ∧
             σ = ⟨[.agg [.w (.int .u8 k),.w (.int .i64 er),.w (.int .i64 o),.w (.int .i64 x),.w (.bool d),.w (.int .i64 g),.sg 6 (l.map bvp) f1,.si pl f2,.sg 1 (ks.map AV.str) f3],.rf 4 9 0 0,.junk,.junk,.junk,.ms 5 1 0 (A ++ (pq (l.length : Int) ++ catB (bl.take i))).length,.junk,.junk,.w (.int .i64 i),.junk,.junk,.junk,.junk,.junk,.junk,.junk,.junk,.junk,.junk,.junk,.junk,.junk,.junk,.junk,.junk,.junk,.junk,.junk,.junk,.junk,.junk,.junk,.junk,.junk,.junk,.junk,.junk,.junk,.junk,.junk,.junk,.junk,.junk,.junk,.junk,.junk,.junk,.junk,.junk,.junk,.junk,.junk,.junk,.junk,.junk,.junk,.junk,.junk,.junk,.junk,.junk,.junk,.junk,.junk,.junk,.junk,.junk,.junk,.junk,.junk,.junk,.junk,.junk,.junk,.junk,.junk,.junk,.junk,.junk,.junk,.junk,.junk,.junk,.junk,.junk,.junk,.junk,.junk,.junk,.junk,.junk,.junk,.junk,.junk,.junk,.junk,.junk,.junk,.junk,.junk,.junk,.junk,.junk,.junk,.junk,.junk,.junk,.junk,.junk,.junk,.junk,.junk,.junk,.junk,.junk,.junk,.junk,.junk,.junk,.junk,.junk,.junk,.junk,.junk,.junk,.junk,.junk,.junk,.junk,.junk,.junk,.junk,.junk,.junk,.junk,.junk,.junk,.junk,.junk,.junk,.junk,.junk,.junk,.junk,.junk,.junk,.junk,.junk,.junk,.junk,.junk,.junk,.junk,.junk,.junk,.junk],[(4,.g 9 [.agg [.w (.int .u8 k),.w (.int .i64 er),.w (.int .i64 o),.w (.int .i64 x),.w (.bool d),.w (.int .i64 g),.sg 6 (l.map bvp) f1,.si pl f2,.sg 1 (ks.map AV.str) f3]]),(5,.b (A ++ (pq (l.length : Int) ++ catB (bl.take i))))],6⟩,?_,?_⟩
           · refine ⟨_,_,zad [0,1,2,3,4,765] rfl rfl rfl ?_ ?_,0,rfl,by omega,by simp,rfl⟩
             · simp only [ssT,zae,zaf,setSlot,gOf,AV.ren,renL,Blk.ren,Ax.look,Ax.put,reduceCtorEq,↓reduceIte,Nat.reduceEqDiff,Nat.reduceLT,Nat.reduceAdd,List.length_append,List.length_cons,List.length_nil,Option.some.injEq]; simp [hA,catB]; try omega
             · simp only [ssT,zae,zaf,setSlot,gOf,AV.ren,renL,Blk.ren,Ax.look,Ax.put,reduceCtorEq,↓reduceIte,Nat.reduceEqDiff,Nat.reduceLT,Nat.reduceAdd,List.length_append,List.length_cons,List.length_nil,Option.some.injEq]; try simp [hA,catB]
           · rintro m σ ⟨i,rfl,hi,hall,rfl⟩
             have cnt : (((A ++ (pq (l.length : Int) ++ catB (bl.take i))).length : Nat)) ≤ 60 + 8202 * i := by
               have h1 := catB_len (bl.take i)
               have h2 : (bl.take i).length ≤ i := List.length_take_le _ _
               simp only [List.length_append]; omega
             by_cases hil : i < l.length
             · have d2 : decide ((i : Int) < l.length) = true := decide_eq_true (by omega)
               have e1 : ((i : Int) + 1 + 9223372036854775808) % 18446744073709551616 - 9223372036854775808 = ((i + 1 : Nat) : Int) := by omega
               have hs1 := slot_bvp l i hil
               have hib : i < bl.length := by omega
               have hbi : bl[i] = l[i].1 := by subst hbl; simp
               have hsn := catB_snoc bl i hib
               have hfb := badB_at bl i hib hall
               have htake : bl.take (i + 1) = bl.take i ++ [bl[i]] := List.take_succ_eq_append_getElem hib
               have hrl := hrs l[i] (List.getElem_mem hil)
               rw [hbi] at hsn hfb htake
               obtain ⟨mm,hmm⟩ : ∃ x,l[i] = x := ⟨_,rfl⟩
               rw [hmm] at hs1 hsn hfb htake hrl
               obtain ⟨⟨y1,y2,y3,y4,y5,rs⟩,f⟩ := mm
               have hs1 : slot (l.map bvp) i = .agg [.w (.int .i64 y1),.w (.int .i64 y2),.w (.int .i64 y3),.w (.int .i64 y4),.w (.int .i64 y5),.sg 6 (rs.map rv) f] := hs1
               have hmr := zah rs
               have hex2 : ∃ qs : List Rec,rs.map rv = qs.map rv := ⟨rs,rfl⟩
               have hrl : (rs.map rv).length ≤ 40 := by rw [List.length_map]; exact hrl
               have hbB : bB ⟨y1,y2,y3,y4,y5,rs⟩ = batB y1 y2 y3 y4 y5 rs := rfl
               have hbE : bE ⟨y1,y2,y3,y4,y5,rs⟩ = batE y1 y2 y3 y4 y5 rs := rfl
               have hYl := zdx y1 y2 y3 y4 y5 rs
               have htl := zax (batB y1 y2 y3 y4 y5 rs) (by omega)
               simp only [hbB,hbE] at hsn hfb
               by_cases hc2 : batE y1 y2 y3 y4 y5 rs = 0
               · obtain ⟨Y,hY⟩ : ∃ x,batB y1 y2 y3 y4 y5 rs = x := ⟨_,rfl⟩
                 rw [hY] at hYl htl hsn
                 have hYm : Y.length ≤ 1000000 := by omega
                 obtain ⟨X,hX⟩ : ∃ x,A ++ (pq (l.length : Int) ++ catB (bl.take i)) = x := ⟨_,rfl⟩
                 have hX2 : A ++ (pq (l.length : Int) ++ catB (bl.take (i + 1))) = X ++ zbc Y := by rw [hsn,← hX]; simp
                 have hX3 : A.length + ((pq (l.length : Int)).length + (catB (bl.take (i + 1))).length) = X.length + (zbc Y).length := by simpa using congrArg List.length hX2
                 rw [hX] at cnt ⊢
                 simp only [go_sem,zaa,Nat.reduceAdd,Nat.reduceSub,Nat.reduceMul,Int.reduceToNat,reduceCtorEq,↓reduceIte,Int.reducePow,Nat.reducePow,Int.reduceMod,Nat.reduceLeDiff,Int.reduceLE,Int.reduceNe,Int.reduceEq,Nat.reduceEqDiff,Nat.reduceLT,Nat.reduceBEq,ty,zdg,zfn,zcg,hl1,d2,e1,hs1,hmr,hex2,hrl,hc2,hY,hYm,tk,Int.toNat_natCast]
                 repeat (refine And.intro (by first | omega | (unfold top; omega)) ?_)
                 refine ⟨l.length - (i + 1),_,by omega,zad [0,1,2,3,4,182] rfl rfl rfl ?_ ?_,i + 1,rfl,by omega,?_,rfl⟩
                 · simp only [ssT,zae,zaf,setSlot,gOf,AV.ren,renL,Blk.ren,Ax.look,Ax.put,reduceCtorEq,↓reduceIte,Nat.reduceEqDiff,Nat.reduceLT,Nat.reduceAdd,List.length_append,List.length_cons,List.length_nil,Option.some.injEq,hX2,hX3]
                 · simp only [ssT,zae,zaf,setSlot,gOf,AV.ren,renL,Blk.ren,Ax.look,Ax.put,reduceCtorEq,↓reduceIte,Nat.reduceEqDiff,Nat.reduceLT,Nat.reduceAdd,List.length_append,List.length_cons,List.length_nil,Option.some.injEq,hX2,hX3]
                 · intro q hq
                   rw [htake,List.mem_append] at hq
                   rcases hq with hq | hq
                   · exact hall q hq
                   · have : q = ⟨y1,y2,y3,y4,y5,rs⟩ := by simpa using hq
                     rw [this]; exact hc2
               · have d3 := decide_eq_false hc2
                 have hE : errA k bl pl ks = batE y1 y2 y3 y4 y5 rs := by unfold errA; rw [hbn,if_pos hc]; exact hfb hc2
                 have hO : putA k er o x d g bl pl ks = [] := by unfold putA; rw [hE,if_neg hc2]
                 rw [hE,hO]
                 obtain ⟨C,hC⟩ : ∃ v,batE y1 y2 y3 y4 y5 rs = v := ⟨_,rfl⟩
                 rw [hC] at d3 ⊢
                 simp only [go_sem,zaa,Nat.reduceAdd,Nat.reduceSub,Nat.reduceMul,Int.reduceToNat,reduceCtorEq,↓reduceIte,Int.reducePow,Nat.reducePow,Int.reduceMod,Nat.reduceLeDiff,Int.reduceLE,Int.reduceNe,Int.reduceEq,Nat.reduceEqDiff,Nat.reduceLT,Nat.reduceBEq,ty,zdg,zfn,zcg,hl1,d2,hs1,hmr,hex2,hrl,hC,d3,Int.toNat_natCast]
                 repeat (refine And.intro (by first | omega | (unfold top; omega)) ?_)
                 refine ⟨_,Weak.refl _,?_⟩
                 simp only [go_sem,zaa,Nat.reduceAdd,Nat.reduceSub,Nat.reduceMul,Int.reduceToNat,reduceCtorEq,↓reduceIte,Int.reducePow,Nat.reducePow,Int.reduceMod,Nat.reduceLeDiff,Int.reduceLE,Int.reduceNe,Int.reduceEq,Nat.reduceEqDiff,Nat.reduceLT,Nat.reduceBEq,ty,zdg]
                 exact zbl 2 3 (by decide) rfl rfl rfl rfl
             · have d2 : decide ((i : Int) < l.length) = false := decide_eq_false (by omega)
               have hi2 : i = l.length := by omega
               subst hi2
               have htk : bl.take l.length = bl := by rw [← hbn,List.take_length]
               rw [htk] at hall cnt ⊢
               have hf0 : badB bl = 0 := badB_none bl hall
               have hE : errA k bl pl ks = 0 := by unfold errA; rw [hbn,if_pos hc]; exact hf0
               have hO : putA k er o x d g bl pl ks = layA k er o x d g bl pl ks := if_pos hE
               rw [hE,hO]
               obtain ⟨B,hB⟩ : ∃ v,A ++ (pq (l.length : Int) ++ catB bl) = v := ⟨_,rfl⟩
               have hLay : layA k er o x d g bl pl ks = B ++ (pq (pl.length : Int) ++ (catP pl ++ (pq (ks.length : Int) ++ catN ks))) := by
                 unfold layA; rw [hAA,hbn,← hB]; simp
               obtain ⟨R,hR⟩ : ∃ v,layA k er o x d g bl pl ks = v := ⟨_,rfl⟩
               rw [hR] at hLay ⊢
               rw [hB] at cnt ⊢
               have hBl : B.length ≤ 60 + 8202 * 64 := by omega
               simp only [go_sem,zaa,Nat.reduceAdd,Nat.reduceSub,Nat.reduceMul,Int.reduceToNat,reduceCtorEq,↓reduceIte,Int.reducePow,Nat.reducePow,Int.reduceMod,Nat.reduceLeDiff,Int.reduceLE,Int.reduceNe,Int.reduceEq,Nat.reduceEqDiff,Nat.reduceLT,Nat.reduceBEq,ty,zdg,hl1,d2]
               refine ⟨_,Weak.refl _,?_⟩
               simp only [go_sem,zaa,Nat.reduceAdd,Nat.reduceSub,Nat.reduceMul,Int.reduceToNat,reduceCtorEq,↓reduceIte,Int.reducePow,Nat.reducePow,Int.reduceMod,Nat.reduceLeDiff,Int.reduceLE,Int.reduceNe,Int.reduceEq,Nat.reduceEqDiff,Nat.reduceLT,Nat.reduceBEq,ty,zdg,putS,hl1,d2,rn2,zbt,tk]
               repeat (refine And.intro (by first | omega | (unfold top; omega)) ?_)
               refine zca ⟨fun m σ => ∃ i : Nat,m = pl.length - i ∧ i ≤ pl.length ∧
                 σ = ⟨[.agg [.w (.int .u8 k),.w (.int .i64 er),.w (.int .i64 o),.w (.int .i64 x),.w (.bool d),.w (.int .i64 g),.sg 6 (l.map bvp) f1,.si pl f2,.sg 1 (ks.map AV.str) f3],.rf 4 9 0 0,.junk,.junk,.junk,.ms 5 1 0 (B ++ (pq (pl.length : Int) ++ catP (pl.take i))).length,.junk,.junk,.junk,.junk,.junk,.w (.int .i64 i),.junk,.junk,.junk,.junk,.junk,.junk,.junk,.junk,.junk,.junk,.junk,.junk,.junk,.junk,.junk,.junk,.junk,.junk,.junk,.junk,.junk,.junk,.junk,.junk,.junk,.junk,.junk,.junk,.junk,.junk,.junk,.junk,.junk,.junk,.junk,.junk,.junk,.junk,.junk,.junk,.junk,.junk,.junk,.junk,.junk,.junk,.junk,.junk,.junk,.junk,.junk,.junk,.junk,.junk,.junk,.junk,.junk,.junk,.junk,.junk,.junk,.junk,.junk,.junk,.junk,.junk,.junk,.junk,.junk,.junk,.junk,.junk,.junk,.junk,.junk,.junk,.junk,.junk,.junk,.junk,.junk,.junk,.junk,.junk,.junk,.junk,.junk,.junk,.junk,.junk,.junk,.junk,.junk,.junk,.junk,.junk,.junk,.junk,.junk,.junk,.junk,.junk,.junk,.junk,.junk,.junk,.junk,.junk,.junk,.junk,.junk,.junk,.junk,.junk,.junk,.junk,.junk,.junk,.junk,.junk,.junk,.junk,.junk,.junk,.junk,.junk,.junk,.junk,.junk,.junk,.junk,.junk,.junk,.junk,.junk,.junk,.junk,.junk,.junk,.junk,.junk,.junk,.junk,.junk],[(4,.g 9 [.agg [.w (.int .u8 k),.w (.int .i64 er),.w (.int .i64 o),.w (.int .i64 x),.w (.bool d),.w (.int .i64 g),.sg 6 (l.map bvp) f1,.si pl f2,.sg 1 (ks.map AV.str) f3]]),(5,.b (B ++ (pq (pl.length : Int) ++ catP (pl.take i))))],6⟩,?_,?_⟩
               · refine ⟨_,_,zad [0,1,2,3,4,86] rfl rfl rfl ?_ ?_,0,rfl,by omega,rfl⟩
                 · simp only [ssT,zae,zaf,setSlot,gOf,AV.ren,renL,Blk.ren,Ax.look,Ax.put,reduceCtorEq,↓reduceIte,Nat.reduceEqDiff,Nat.reduceLT,Nat.reduceAdd,List.length_append,List.length_cons,List.length_nil,Option.some.injEq]; simp [catP]; try omega
                 · simp only [ssT,zae,zaf,setSlot,gOf,AV.ren,renL,Blk.ren,Ax.look,Ax.put,reduceCtorEq,↓reduceIte,Nat.reduceEqDiff,Nat.reduceLT,Nat.reduceAdd,List.length_append,List.length_cons,List.length_nil,Option.some.injEq]; try simp [catP]
               · rintro m σ ⟨i,rfl,hi,rfl⟩
                 have cnt2 : (((B ++ (pq (pl.length : Int) ++ catP (pl.take i))).length : Nat)) ≤ 600000 + 10 * i := by
                   have h1 := catP_len (pl.take i) (fun n hn => hpk n (List.mem_of_mem_take hn))
                   have h2 : (pl.take i).length ≤ i := List.length_take_le _ _
                   simp only [List.length_append]; omega
                 by_cases hil : i < pl.length
                 · have d2 : decide ((i : Int) < pl.length) = true := decide_eq_true (by omega)
                   have e1 : ((i : Int) + 1 + 9223372036854775808) % 18446744073709551616 - 9223372036854775808 = ((i + 1 : Nat) : Int) := by omega
                   have hs1 : pl.getD i 0 = pl[i] := by rw [List.getD_eq_getElem?_getD,List.getElem?_eq_getElem hil]; rfl
                   have hsn := catP_snoc pl i hil
                   have hsl := hpk pl[i] (List.getElem_mem hil)
                   obtain ⟨n,hS⟩ : ∃ x,pl[i] = x := ⟨_,rfl⟩
                   rw [hS] at hs1 hsn hsl
                   have htl := zbk n hsl
                   unfold okI at hsl
                   obtain ⟨X,hX⟩ : ∃ x,B ++ (pq (pl.length : Int) ++ catP (pl.take i)) = x := ⟨_,rfl⟩
                   have hX2 : B ++ (pq (pl.length : Int) ++ catP (pl.take (i + 1))) = X ++ pq n := by rw [hsn,← hX]; simp
                   have hX3 : B.length + ((pq (pl.length : Int)).length + (catP (pl.take (i + 1))).length) = X.length + (pq n).length := by simpa using congrArg List.length hX2
                   rw [hX] at cnt2 ⊢
                   simp only [go_sem,zaa,Nat.reduceAdd,Nat.reduceSub,Nat.reduceMul,Int.reduceToNat,reduceCtorEq,↓reduceIte,Int.reducePow,Nat.reducePow,Int.reduceMod,Nat.reduceLeDiff,Int.reduceLE,Int.reduceNe,Int.reduceEq,Nat.reduceEqDiff,Nat.reduceLT,Nat.reduceBEq,ty,zdg,d2,e1,hs1,putS,zbt,hsl,tk,Int.toNat_natCast]
                   repeat (refine And.intro (by first | omega | (unfold top; omega)) ?_)
                   refine ⟨pl.length - (i + 1),_,by omega,zad [0,1,2,3,4,102] rfl rfl rfl ?_ ?_,i + 1,rfl,by omega,rfl⟩
                   · simp only [ssT,zae,zaf,setSlot,gOf,AV.ren,renL,Blk.ren,Ax.look,Ax.put,reduceCtorEq,↓reduceIte,Nat.reduceEqDiff,Nat.reduceLT,Nat.reduceAdd,List.length_append,List.length_cons,List.length_nil,Option.some.injEq,hX2,hX3]
                   · simp only [ssT,zae,zaf,setSlot,gOf,AV.ren,renL,Blk.ren,Ax.look,Ax.put,reduceCtorEq,↓reduceIte,Nat.reduceEqDiff,Nat.reduceLT,Nat.reduceAdd,List.length_append,List.length_cons,List.length_nil,Option.some.injEq,hX2,hX3]
                 · have d2 : decide ((i : Int) < pl.length) = false := decide_eq_false (by omega)
                   have hi2 : i = pl.length := by omega
                   subst hi2
                   rw [List.take_length] at cnt2 ⊢
                   obtain ⟨D,hD⟩ : ∃ v,B ++ (pq (pl.length : Int) ++ catP pl) = v := ⟨_,rfl⟩
                   rw [hD] at cnt2 ⊢
                   have hDl : D.length ≤ 600000 + 10 * 64 := by omega
                   simp only [go_sem,zaa,Nat.reduceAdd,Nat.reduceSub,Nat.reduceMul,Int.reduceToNat,reduceCtorEq,↓reduceIte,Int.reducePow,Nat.reducePow,Int.reduceMod,Nat.reduceLeDiff,Int.reduceLE,Int.reduceNe,Int.reduceEq,Nat.reduceEqDiff,Nat.reduceLT,Nat.reduceBEq,ty,zdg,hl3,d2]
                   refine ⟨_,Weak.refl _,?_⟩
                   simp only [go_sem,zaa,Nat.reduceAdd,Nat.reduceSub,Nat.reduceMul,Int.reduceToNat,reduceCtorEq,↓reduceIte,Int.reducePow,Nat.reducePow,Int.reduceMod,Nat.reduceLeDiff,Int.reduceLE,Int.reduceNe,Int.reduceEq,Nat.reduceEqDiff,Nat.reduceLT,Nat.reduceBEq,ty,zdg,putS,hl3,d2,rn3,zbt,tk]
                   repeat (refine And.intro (by first | omega | (unfold top; omega)) ?_)
                   refine zca ⟨fun m σ => ∃ i : Nat,m = ks.length - i ∧ i ≤ ks.length ∧
                     σ = ⟨[.agg [.w (.int .u8 k),.w (.int .i64 er),.w (.int .i64 o),.w (.int .i64 x),.w (.bool d),.w (.int .i64 g),.sg 6 (l.map bvp) f1,.si pl f2,.sg 1 (ks.map AV.str) f3],.rf 4 9 0 0,.junk,.junk,.junk,.ms 5 1 0 (D ++ (pq (ks.length : Int) ++ catN (ks.take i))).length,.junk,.junk,.junk,.junk,.junk,.junk,.w (.int .i64 i),.junk,.junk,.junk,.junk,.junk,.junk,.junk,.junk,.junk,.junk,.junk,.junk,.junk,.junk,.junk,.junk,.junk,.junk,.junk,.junk,.junk,.junk,.junk,.junk,.junk,.junk,.junk,.junk,.junk,.junk,.junk,.junk,.junk,.junk,.junk,.junk,.junk,.junk,.junk,.junk,.junk,.junk,.junk,.junk,.junk,.junk,.junk,.junk,.junk,.junk,.junk,.junk,.junk,.junk,.junk,.junk,.junk,.junk,.junk,.junk,.junk,.junk,.junk,.junk,.junk,.junk,.junk,.junk,.junk,.junk,.junk,.junk,.junk,.junk,.junk,.junk,.junk,.junk,.junk,.junk,.junk,.junk,.junk,.junk,.junk,.junk,.junk,.junk,.junk,.junk,.junk,.junk,.junk,.junk,.junk,.junk,.junk,.junk,.junk,.junk,.junk,.junk,.junk,.junk,.junk,.junk,.junk,.junk,.junk,.junk,.junk,.junk,.junk,.junk,.junk,.junk,.junk,.junk,.junk,.junk,.junk,.junk,.junk,.junk,.junk,.junk,.junk,.junk,.junk,.junk,.junk,.junk,.junk,.junk,.junk,.junk,.junk,.junk,.junk,.junk,.junk,.junk,.junk],[(4,.g 9 [.agg [.w (.int .u8 k),.w (.int .i64 er),.w (.int .i64 o),.w (.int .i64 x),.w (.bool d),.w (.int .i64 g),.sg 6 (l.map bvp) f1,.si pl f2,.sg 1 (ks.map AV.str) f3]]),(5,.b (D ++ (pq (ks.length : Int) ++ catN (ks.take i))))],6⟩,?_,?_⟩
                   · refine ⟨_,_,zad [0,1,2,3,4,86] rfl rfl rfl ?_ ?_,0,rfl,by omega,rfl⟩
                     · simp only [ssT,zae,zaf,setSlot,gOf,AV.ren,renL,Blk.ren,Ax.look,Ax.put,reduceCtorEq,↓reduceIte,Nat.reduceEqDiff,Nat.reduceLT,Nat.reduceAdd,List.length_append,List.length_cons,List.length_nil,Option.some.injEq]; simp [catN]; try omega
                     · simp only [ssT,zae,zaf,setSlot,gOf,AV.ren,renL,Blk.ren,Ax.look,Ax.put,reduceCtorEq,↓reduceIte,Nat.reduceEqDiff,Nat.reduceLT,Nat.reduceAdd,List.length_append,List.length_cons,List.length_nil,Option.some.injEq]; try simp [catN]
                   · rintro m σ ⟨i,rfl,hi,rfl⟩
                     have cnt2 : (((D ++ (pq (ks.length : Int) ++ catN (ks.take i))).length : Nat)) ≤ 700000 + 265 * i := by
                       have h1 := catN_len (ks.take i) (fun s hs => hks s (List.mem_of_mem_take hs))
                       have h2 : (ks.take i).length ≤ i := List.length_take_le _ _
                       simp only [List.length_append]; omega
                     by_cases hil : i < ks.length
                     · have d2 : decide ((i : Int) < ks.length) = true := decide_eq_true (by omega)
                       have e1 : ((i : Int) + 1 + 9223372036854775808) % 18446744073709551616 - 9223372036854775808 = ((i + 1 : Nat) : Int) := by omega
                       have hs1 := zct ks i hil
                       have hsn := catN_snoc ks i hil
                       have hsl := hks ks[i] (List.getElem_mem hil)
                       obtain ⟨s,hS⟩ : ∃ x,ks[i] = x := ⟨_,rfl⟩
                       rw [hS] at hs1 hsn hsl
                       have hsm : s.length ≤ 1000000 := by omega
                       have htl := zax s hsm
                       obtain ⟨X,hX⟩ : ∃ x,D ++ (pq (ks.length : Int) ++ catN (ks.take i)) = x := ⟨_,rfl⟩
                       have hX2 : D ++ (pq (ks.length : Int) ++ catN (ks.take (i + 1))) = X ++ zbc s := by rw [hsn,← hX]; simp
                       have hX3 : D.length + ((pq (ks.length : Int)).length + (catN (ks.take (i + 1))).length) = X.length + (zbc s).length := by simpa using congrArg List.length hX2
                       rw [hX] at cnt2 ⊢
                       simp only [go_sem,zaa,Nat.reduceAdd,Nat.reduceSub,Nat.reduceMul,Int.reduceToNat,reduceCtorEq,↓reduceIte,Int.reducePow,Nat.reducePow,Int.reduceMod,Nat.reduceLeDiff,Int.reduceLE,Int.reduceNe,Int.reduceEq,Nat.reduceEqDiff,Nat.reduceLT,Nat.reduceBEq,ty,zdg,hl3,d2,e1,hs1,zcg,hsm,tk,Int.toNat_natCast]
                       repeat (refine And.intro (by first | omega | (unfold top; omega)) ?_)
                       refine ⟨ks.length - (i + 1),_,by omega,zad [0,1,2,3,4,102] rfl rfl rfl ?_ ?_,i + 1,rfl,by omega,rfl⟩
                       · simp only [ssT,zae,zaf,setSlot,gOf,AV.ren,renL,Blk.ren,Ax.look,Ax.put,reduceCtorEq,↓reduceIte,Nat.reduceEqDiff,Nat.reduceLT,Nat.reduceAdd,List.length_append,List.length_cons,List.length_nil,Option.some.injEq,hX2,hX3]
                       · simp only [ssT,zae,zaf,setSlot,gOf,AV.ren,renL,Blk.ren,Ax.look,Ax.put,reduceCtorEq,↓reduceIte,Nat.reduceEqDiff,Nat.reduceLT,Nat.reduceAdd,List.length_append,List.length_cons,List.length_nil,Option.some.injEq,hX2,hX3]
                     · have d2 : decide ((i : Int) < ks.length) = false := decide_eq_false (by omega)
                       have hi2 : i = ks.length := by omega
                       subst hi2
                       rw [List.take_length] at cnt2 ⊢
                       simp only [go_sem,zaa,Nat.reduceAdd,Nat.reduceSub,Nat.reduceMul,Int.reduceToNat,reduceCtorEq,↓reduceIte,Int.reducePow,Nat.reducePow,Int.reduceMod,Nat.reduceLeDiff,Int.reduceLE,Int.reduceNe,Int.reduceEq,Nat.reduceEqDiff,Nat.reduceLT,Nat.reduceBEq,ty,zdg,hl3,d2]
                       refine ⟨_,Weak.refl _,?_⟩
                       simp only [go_sem,zaa,Nat.reduceAdd,Nat.reduceSub,Nat.reduceMul,Int.reduceToNat,reduceCtorEq,↓reduceIte,Int.reducePow,Nat.reducePow,Int.reduceMod,Nat.reduceLeDiff,Int.reduceLE,Int.reduceNe,Int.reduceEq,Nat.reduceEqDiff,Nat.reduceLT,Nat.reduceBEq,ty,zdg,hl3,d2]
                       exact zbn 2 3 (by decide) rfl rfl rfl (by simp) (by rw [hLay,← hD]; simp) rfl
     all_goals
       obtain ⟨hE,hO⟩ := hE0 5 (by unfold chkA; rw [if_neg hKn,if_pos (by first | exact D.2 | exact D.2.2 | exact D.2.2.2)]) (by decide)
       rw [hE,hO]
       simp only [go_sem,zaa,Nat.reduceAdd,Nat.reduceSub,Nat.reduceMul,Int.reduceToNat,reduceCtorEq,↓reduceIte,Int.reducePow,Nat.reducePow,Int.reduceMod,Nat.reduceLeDiff,Int.reduceLE,Int.reduceNe,Int.reduceEq,Nat.reduceEqDiff,Nat.reduceLT,Nat.reduceBEq,ty,zdg,hl1,hl3,K,D]
       exact zbl 2 3 (by decide) rfl rfl rfl rfl
 · exact hp.elim
end
end Go.Proofs.Ytmedjkjoannbmaa
namespace Go.Proofs.Ytmedjkjoannbmaa
open Ax
def eqBr22S : zai
 | [.sg 6 xs f,.sg 6 ys g],[] => ⟨(xs.length ≤ 1000000 ∧ ∃ es : List (Bat × Bool),xs = es.map bvp ∧ ∀ p ∈ es,p.1.rs.length ≤ 40) ∧ ys.length ≤ 1000000 ∧ ∃ gs : List (Bat × Bool),ys = gs.map bvp ∧ ∀ p ∈ gs,p.1.rs.length ≤ 40,.w (.bool (decide (xs.map ubat = ys.map ubat))),[]⟩
 | _,_ => zba
def SeqBr22 (f : FuncId) : Option zai :=
 match f with
 | 34 => some zeg
 | _ => none
theorem SeqBr22_ok : Fns Try.prog SeqBr22 := by
 intro f s h
 unfold SeqBr22 at h
 split at h
 · injection h with h; subst h; exact ⟨⟨_,Try.func34,by kernel_rfl,by kernel_rfl⟩,rsame4_sound⟩
 · cases h
section
set_option maxRecDepth 100000
set_option maxHeartbeats 2000000 in
theorem eqBr22_sound : zaq Try.prog 44 eqBr22S := by
 refine zak (S := SeqBr22) (T := tyF) zas tyF_ok SeqBr22_ok Try.func44 (c := Try.f44.body.getD .skip) (by kernel_rfl) (by kernel_rfl) (fun xs pins hp _ => ?_)
 unfold eqBr22S at hp ⊢
 split at hp
 · rename_i xs f ys g _
   obtain ⟨⟨hL1,es,rfl,he⟩,hL2,gs,rfl,hg⟩ := hp
   rw [List.length_map] at hL1 hL2
   rw [zez,zez]
   refine ⟨by simp,?_⟩
   have hlp : (es.map bvp).length = es.length := by simp
   have hlq : (gs.map bvp).length = gs.length := by simp
   have hla : (es.map Prod.fst).length = es.length := by simp
   have hlb : (gs.map Prod.fst).length = gs.length := by simp
   unfold Try.f44
   by_cases hl : es.length = gs.length
   · have d0 : decide ((es.length : Int) = gs.length) = true := decide_eq_true (by omega)
     have hk : es.map Prod.fst = gs.map Prod.fst ↔ ∀ j (h : j < es.length) (h' : j < gs.length),es[j].1 = gs[j].1 := by
       constructor
       · intro h j h1 h2
         have := List.getElem_of_eq h (i := j) (by omega)
         simpa using this
       · intro h
         refine List.ext_getElem (by omega) ?_
         intro j h1 h2
         simpa using h j (by omega) (by omega)
     simp only [go_sem,zaa,Nat.reduceAdd,Nat.reduceSub,Nat.reduceMul,Int.reduceToNat,reduceCtorEq,↓reduceIte,Int.reducePow,Nat.reducePow,Int.reduceMod,Nat.reduceLeDiff,Int.reduceLE,Int.reduceNe,Int.reduceEq,Nat.reduceEqDiff,Nat.reduceLT,Nat.reduceBEq,tyF,zdm,ty,SeqBr22,hlp,hlq,d0]
     refine zbr ⟨fun m σ => ∃ i : Nat,m = es.length - i ∧ i ≤ es.length ∧ (∀ j (h : j < es.length) (h' : j < gs.length),j < i → es[j].1 = gs[j].1) ∧
         σ = ⟨[.sg 6 (es.map bvp) f,.sg 6 (gs.map bvp) g,.junk,.junk,.junk,.w (.int .i64 i),.junk,.junk,.junk,.junk,.junk,.junk,.junk,.junk,.junk,.junk,.junk,.junk,.junk,.junk,.junk,.junk,.junk,.junk,.junk,.junk,.junk],[],4⟩,?_,?_⟩
     · refine ⟨_,_,zad [0,1,2,3] rfl rfl rfl ?_ ?_,0,rfl,by omega,by intro j _ _ h; omega,rfl⟩
       · simp only [ssT,zae,zaf,setSlot,gOf,AV.ren,renL,Blk.ren,Ax.look,Ax.put,reduceCtorEq,↓reduceIte,Nat.reduceEqDiff,Nat.reduceLT,Nat.reduceAdd,List.length_append,List.length_cons,List.length_nil,Option.some.injEq]; simp
       · simp only [ssT,zae,zaf,setSlot,gOf,AV.ren,renL,Blk.ren,Ax.look,Ax.put,reduceCtorEq,↓reduceIte,Nat.reduceEqDiff,Nat.reduceLT,Nat.reduceAdd,List.length_append,List.length_cons,List.length_nil,Option.some.injEq]
     · rintro m σ ⟨i,rfl,hi,hall,rfl⟩
       by_cases hil : i < es.length
       · have d1 : decide ((i : Int) < es.length) = true := decide_eq_true (by omega)
         have e1 : ((i : Int) + 1 + 9223372036854775808) % 18446744073709551616 - 9223372036854775808 = ((i + 1 : Nat) : Int) := by omega
         have hiq : i < gs.length := by omega
         have hs1 := slot_bvp es i hil
         have hs2 := slot_bvp gs i hiq
         have m1 := he es[i] (List.getElem_mem hil)
         have m2 := hg gs[i] (List.getElem_mem hiq)
         obtain ⟨P,hP⟩ : ∃ P,es[i] = P := ⟨_,rfl⟩
         obtain ⟨Q,hQ⟩ : ∃ Q,gs[i] = Q := ⟨_,rfl⟩
         rw [hP] at hs1 m1
         rw [hQ] at hs2 m2
         obtain ⟨⟨b,c,p,e,s,rs⟩,f'⟩ := P
         obtain ⟨⟨b',c',p',e',s',qs⟩,g'⟩ := Q
         have hs1 : slot (es.map bvp) i = .agg [.w (.int .i64 b),.w (.int .i64 c),.w (.int .i64 p),.w (.int .i64 e),.w (.int .i64 s),.sg 6 (rs.map rv) f'] := hs1
         have hs2 : slot (gs.map bvp) i = .agg [.w (.int .i64 b'),.w (.int .i64 c'),.w (.int .i64 p'),.w (.int .i64 e'),.w (.int .i64 s'),.sg 6 (qs.map rv) g'] := hs2
         have n1 : (rs.map rv).length ≤ 9223372036854775807 := by rw [List.length_map]; simp only at m1; omega
         have n2 : (qs.map rv).length ≤ 9223372036854775807 := by rw [List.length_map]; simp only at m2; omega
         have x1 : ∃ k : List Rec,rs.map rv = k.map rv := ⟨rs,rfl⟩
         have x2 : ∃ k : List Rec,qs.map rv = k.map rv := ⟨qs,rfl⟩
         have r1 := zah rs
         have r2 := zah qs
         have hbs := bsame_dec b c p e s rs b' c' p' e' s' qs
         by_cases ha : (⟨b,c,p,e,s,rs⟩ : Bat) = ⟨b',c',p',e',s',qs⟩
         · rw [decide_eq_true ha] at hbs
           simp only [go_sem,zaa,Nat.reduceAdd,Nat.reduceSub,Nat.reduceMul,Int.reduceToNat,reduceCtorEq,↓reduceIte,Int.reducePow,Nat.reducePow,Int.reduceMod,Nat.reduceLeDiff,Int.reduceLE,Int.reduceNe,Int.reduceEq,Nat.reduceEqDiff,Nat.reduceLT,Nat.reduceBEq,tyF,zdm,ty,SeqBr22,zeg,hlp,hlq,d1,hs1,hs2,e1,n1,n2,x1,x2,r1,r2,hbs,Int.toNat_natCast]
           repeat (refine And.intro (by omega) ?_)
           refine ⟨es.length - (i + 1),_,by omega,zad [0,1,2,3] rfl rfl rfl ?_ ?_,i + 1,rfl,by omega,?_,rfl⟩
           · simp only [ssT,zae,zaf,setSlot,gOf,AV.ren,renL,Blk.ren,Ax.look,Ax.put,reduceCtorEq,↓reduceIte,Nat.reduceEqDiff,Nat.reduceLT,Nat.reduceAdd,List.length_append,List.length_cons,List.length_nil,Option.some.injEq]
           · simp only [ssT,zae,zaf,setSlot,gOf,AV.ren,renL,Blk.ren,Ax.look,Ax.put,reduceCtorEq,↓reduceIte,Nat.reduceEqDiff,Nat.reduceLT,Nat.reduceAdd,List.length_append,List.length_cons,List.length_nil,Option.some.injEq]
           · intro j h h' hj
             rcases Nat.lt_or_ge j i with h2 | h2
             · exact hall j h h' h2
             · have : j = i := by omega
               subst this
               rw [hP,hQ]; exact ha
         · have dr : decide (es.map Prod.fst = gs.map Prod.fst) = false := decide_eq_false (fun h => ha (by have := hk.1 h i hil hiq; rw [hP,hQ] at this; exact this))
           rw [decide_eq_false ha] at hbs
           simp only [go_sem,zaa,Nat.reduceAdd,Nat.reduceSub,Nat.reduceMul,Int.reduceToNat,reduceCtorEq,↓reduceIte,Int.reducePow,Nat.reducePow,Int.reduceMod,Nat.reduceLeDiff,Int.reduceLE,Int.reduceNe,Int.reduceEq,Nat.reduceEqDiff,Nat.reduceLT,Nat.reduceBEq,tyF,zdm,ty,SeqBr22,zeg,hlp,hlq,d1,hs1,hs2,e1,n1,n2,x1,x2,r1,r2,hbs,dr,Int.toNat_natCast]
           all_goals omega
       · have d1 : decide ((i : Int) < es.length) = false := decide_eq_false (by omega)
         have dr : decide (es.map Prod.fst = gs.map Prod.fst) = true := decide_eq_true (hk.2 fun j h h' => hall j h h' (by omega))
         simp only [go_sem,zaa,Nat.reduceAdd,Nat.reduceSub,Nat.reduceMul,Int.reduceToNat,reduceCtorEq,↓reduceIte,Int.reducePow,Nat.reducePow,Int.reduceMod,Nat.reduceLeDiff,Int.reduceLE,Int.reduceNe,Int.reduceEq,Nat.reduceEqDiff,Nat.reduceLT,Nat.reduceBEq,tyF,zdm,ty,SeqBr22,hlp,hlq,d1,dr]
   · have d0 : decide ((es.length : Int) = gs.length) = false := decide_eq_false (by omega)
     have dr : decide (es.map Prod.fst = gs.map Prod.fst) = false := decide_eq_false (fun h => hl (by have := congrArg List.length h; simpa using this))
     simp only [go_sem,zaa,Nat.reduceAdd,Nat.reduceSub,Nat.reduceMul,Int.reduceToNat,reduceCtorEq,↓reduceIte,Int.reducePow,Nat.reducePow,Int.reduceMod,Nat.reduceLeDiff,Int.reduceLE,Int.reduceNe,Int.reduceEq,Nat.reduceEqDiff,Nat.reduceLT,Nat.reduceBEq,tyF,zdm,ty,SeqBr22,hlp,hlq,d0,dr]
 · exact hp.elim
end
def zcf (f : FuncId) : Option zai :=
 match f with
 | 44 => some eqBr22S
 | _ => none
theorem Srsres22_ok : Fns Try.prog zcf := by
 intro f s h
 unfold zcf at h
 split at h
 · injection h with h; subst h; exact ⟨⟨_,Try.func44,by kernel_rfl,by kernel_rfl⟩,eqBr22_sound⟩
 · cases h
def zdr : Plan := fun id => match id with
 | 6 => some []
 | 11 => some []
 | _ => none
section
set_option maxRecDepth 100000
set_option maxHeartbeats 8000000 in
theorem rsres22_sound : zaq Try.prog 20 sresS := by
 refine fn_soundF (S := zcf) (T := ty) (pl := zdr) zas ty_ok Srsres22_ok Try.func20 (c := Try.f20.body.getD .skip) (by kernel_rfl) (by kernel_rfl) (fun xs pins hp _ => ?_)
 unfold sresS at hp ⊢
 split at hp
 · rename_i k er o x d g bs f1 ps f2 ns f3 k' er' o' x' d' g' bs' f1' ps' f2' ns' f3' _
   obtain ⟨⟨⟨a1,es,rfl,ha⟩,a2,es',rfl,ha'⟩,⟨a3,a4⟩,⟨a5,ss,rfl⟩,a6,ss',rfl⟩ := hp
   have p1 : ∃ gs : List (Bat × Bool),es.map bvp = gs.map bvp ∧ ∀ p ∈ gs,p.1.rs.length ≤ 40 := ⟨es,rfl,ha⟩
   have p2 : ∃ gs : List (Bat × Bool),es'.map bvp = gs.map bvp ∧ ∀ p ∈ gs,p.1.rs.length ≤ 40 := ⟨es',rfl,ha'⟩
   have c1 := zex es f1
   have c2 := zex es' f1'
   generalize es.map bvp = X1 at *
   generalize es'.map bvp = X2 at *
   rw [List.length_map] at a5 a6
   rw [zbj,zbj]
   have hls : (ss.map AV.str).length = ss.length := by simp
   have hls' : (ss'.map AV.str).length = ss'.length := by simp
   refine ⟨by simp,?_⟩
   unfold Try.f20
   rcases eqA_cases k er o x d g k' er' o' x' d' g' with D | D | D | D | D | D | D
   rotate_right 1
   · rw [D.1]
     obtain ⟨B1,h1⟩ : ∃ v,decide (X1.map ubat = X2.map ubat) = v := ⟨_,rfl⟩
     rw [h1]
     have D := D.2
     by_cases hl : ps.length = ps'.length
     case neg =>
       have d1 : decide ((ps.length : Int) = ps'.length) = false := decide_eq_false (by omega)
       have dr : decide (ps = ps') = false := decide_eq_false (fun h => hl (by rw [h]))
       simp only [go_sem,zac,Nat.reduceAdd,Nat.reduceSub,Nat.reduceMul,Int.reduceToNat,reduceCtorEq,↓reduceIte,Int.reducePow,Nat.reducePow,Int.reduceMod,Nat.reduceLeDiff,Int.reduceLE,Int.reduceNe,Int.reduceEq,Nat.reduceEqDiff,Nat.reduceLT,Nat.reduceBEq,List.map_cons,List.map_nil,List.toList_toArray,Array.toList_append,Option.toArray_some,Option.toArray_none,Bool.and_self,ty,zcf,zdr,D,d1,dr,Bool.and_false,Bool.false_and]
       exact zao 4 rfl
     have d1 : decide ((ps.length : Int) = ps'.length) = true := decide_eq_true (by omega)
     by_cases hm : ss.length = ss'.length
     case neg =>
       have d2 : decide ((ss.length : Int) = ss'.length) = false := decide_eq_false (by omega)
       have dr : decide (ss = ss') = false := decide_eq_false (fun h => hm (by rw [h]))
       simp only [go_sem,zac,Nat.reduceAdd,Nat.reduceSub,Nat.reduceMul,Int.reduceToNat,reduceCtorEq,↓reduceIte,Int.reducePow,Nat.reducePow,Int.reduceMod,Nat.reduceLeDiff,Int.reduceLE,Int.reduceNe,Int.reduceEq,Nat.reduceEqDiff,Nat.reduceLT,Nat.reduceBEq,List.map_cons,List.map_nil,List.toList_toArray,Array.toList_append,Option.toArray_some,Option.toArray_none,Bool.and_self,ty,zcf,zdr,D,d1,hls,hls',d2,dr,Bool.and_false,Bool.false_and]
       exact zao 4 rfl
     have d2 : decide ((ss.length : Int) = ss'.length) = true := decide_eq_true (by omega)
     have hk1 : ps = ps' ↔ ∀ j (h : j < ps.length) (h' : j < ps'.length),ps[j] = ps'[j] := ⟨fun h => by subst h; intros; rfl,fun h => List.ext_getElem hl h⟩
     have hk2 : ss = ss' ↔ ∀ j (h : j < ss.length) (h' : j < ss'.length),ss[j] = ss'[j] := ⟨fun h => by subst h; intros; rfl,fun h => List.ext_getElem hm h⟩
     simp only [go_sem,zac,Nat.reduceAdd,Nat.reduceSub,Nat.reduceMul,Int.reduceToNat,reduceCtorEq,↓reduceIte,Int.reducePow,Nat.reducePow,Int.reduceMod,Nat.reduceLeDiff,Int.reduceLE,Int.reduceNe,Int.reduceEq,Nat.reduceEqDiff,Nat.reduceLT,Nat.reduceBEq,List.map_cons,List.map_nil,List.toList_toArray,Array.toList_append,Option.toArray_some,Option.toArray_none,Bool.and_self,ty,zcf,zdr,D,d1,hls,hls',d2]
     refine awpF_loopW ⟨fun m σ => ∃ i : Nat,m = ps.length - i ∧ i ≤ ps.length ∧ (∀ j (h : j < ps.length) (h' : j < ps'.length),j < i → ps[j] = ps'[j]) ∧
         σ = ⟨[(.agg [.w (.int .u8 k),.w (.int .i64 er),.w (.int .i64 o),.w (.int .i64 x),.w (.bool d),.w (.int .i64 g),.sg 6 X1 f1,.si ps f2,.sg 1 (ss.map AV.str) f3]),(.agg [.w (.int .u8 k'),.w (.int .i64 er'),.w (.int .i64 o'),.w (.int .i64 x'),.w (.bool d'),.w (.int .i64 g'),.sg 6 X2 f1',.si ps' f2',.sg 1 (ss'.map AV.str) f3']),.rf 4 9 0 0,.rf 5 9 0 0,.junk,.w (.int .i64 i),.junk,.junk,.junk,.junk,.junk,.junk,.junk,.junk,.junk,.junk,.junk,.junk,.junk,.junk,.junk,.junk,.junk,.junk,.junk,.junk,.junk,.junk,.junk,.junk,.junk,.junk,.junk,.junk,.junk,.junk,.junk,.junk,.junk,.junk,.junk,.junk,.junk,.junk,.junk,.junk,.junk,.junk,.junk,.junk,.junk,.junk,.junk,.junk,.junk,.junk,.junk,.junk,.junk,.junk,.junk,.junk,.junk,.junk,.junk,.junk,.junk,.junk,.junk,.junk,.junk,.junk,.junk,.junk,.junk,.junk,.junk,.junk,.junk,.junk,.junk,.junk,.junk,.junk,.junk,.junk,.junk,.junk,.junk,.junk,.junk,.junk,.junk,.junk,.junk,.junk,.junk,.junk,.junk,.junk,.junk,.junk,.junk,.junk,.junk,.junk],[(4,.g 9 [(.agg [.w (.int .u8 k),.w (.int .i64 er),.w (.int .i64 o),.w (.int .i64 x),.w (.bool d),.w (.int .i64 g),.sg 6 X1 f1,.si ps f2,.sg 1 (ss.map AV.str) f3])]),(5,.g 9 [(.agg [.w (.int .u8 k'),.w (.int .i64 er'),.w (.int .i64 o'),.w (.int .i64 x'),.w (.bool d'),.w (.int .i64 g'),.sg 6 X2 f1',.si ps' f2',.sg 1 (ss'.map AV.str) f3'])])],6⟩,?_,?_⟩
     · refine ⟨_,_,zad [0,1,2,3,4,12] rfl rfl rfl ?_ ?_,0,rfl,by omega,by intro j _ _ h; omega,rfl⟩
       · simp only [ssT,zae,zaf,setSlot,gOf,AV.ren,renL,Blk.ren,Ax.look,Ax.put,reduceCtorEq,↓reduceIte,Nat.reduceEqDiff,Nat.reduceLT,Nat.reduceAdd,List.length_append,List.length_cons,List.length_nil,Option.some.injEq]; try rfl
       · simp only [ssT,zae,zaf,setSlot,gOf,AV.ren,renL,Blk.ren,Ax.look,Ax.put,reduceCtorEq,↓reduceIte,Nat.reduceEqDiff,Nat.reduceLT,Nat.reduceAdd,List.length_append,List.length_cons,List.length_nil,Option.some.injEq]
     · rintro m σ ⟨i,rfl,hi,hall,rfl⟩
       have e1 : ((i : Int) + 1 + 9223372036854775808) % 18446744073709551616 - 9223372036854775808 = ((i + 1 : Nat) : Int) := by omega
       by_cases hil : i < ps.length
       · have d3 : decide ((i : Int) < ps.length) = true := decide_eq_true (by omega)
         have hiq : i < ps'.length := by omega
         have hs1 : ps.getD i 0 = ps[i] := by rw [List.getD_eq_getElem?_getD,List.getElem?_eq_getElem hil]; rfl
         have hs2 : ps'.getD i 0 = ps'[i] := by rw [List.getD_eq_getElem?_getD,List.getElem?_eq_getElem hiq]; rfl
         obtain ⟨P,hP⟩ : ∃ P,ps[i] = P := ⟨_,rfl⟩
         obtain ⟨Q,hQ⟩ : ∃ Q,ps'[i] = Q := ⟨_,rfl⟩
         rw [hP] at hs1
         rw [hQ] at hs2
         by_cases hpq : P = Q
         · have da : decide (P = Q) = true := decide_eq_true hpq
           simp only [go_sem,zac,Nat.reduceAdd,Nat.reduceSub,Nat.reduceMul,Int.reduceToNat,reduceCtorEq,↓reduceIte,Int.reducePow,Nat.reducePow,Int.reduceMod,Nat.reduceLeDiff,Int.reduceLE,Int.reduceNe,Int.reduceEq,Nat.reduceEqDiff,Nat.reduceLT,Nat.reduceBEq,List.map_cons,List.map_nil,List.toList_toArray,Array.toList_append,Option.toArray_some,Option.toArray_none,Bool.and_self,ty,zcf,zdr,d3,hs1,hs2,e1,da,Int.toNat_natCast]
           repeat (refine And.intro (by omega) ?_)
           refine ⟨ps.length - (i + 1),_,by omega,zad [0,1,2,3,4,5] rfl rfl rfl ?_ ?_,i + 1,rfl,by omega,?_,rfl⟩
           · simp only [ssT,zae,zaf,setSlot,gOf,AV.ren,renL,Blk.ren,Ax.look,Ax.put,reduceCtorEq,↓reduceIte,Nat.reduceEqDiff,Nat.reduceLT,Nat.reduceAdd,List.length_append,List.length_cons,List.length_nil,Option.some.injEq]
           · simp only [ssT,zae,zaf,setSlot,gOf,AV.ren,renL,Blk.ren,Ax.look,Ax.put,reduceCtorEq,↓reduceIte,Nat.reduceEqDiff,Nat.reduceLT,Nat.reduceAdd,List.length_append,List.length_cons,List.length_nil,Option.some.injEq]
           · intro j h h' hj
             rcases Nat.lt_or_ge j i with h2 | h2
             · exact hall j h h' h2
             · have : j = i := by omega
               subst this
               rw [hP,hQ]; exact hpq
         · have da : decide (P = Q) = false := decide_eq_false hpq
           have dr : decide (ps = ps') = false := decide_eq_false (fun h => hpq (by rw [← hP,← hQ]; exact hk1.1 h i hil hiq))
           simp only [go_sem,zac,Nat.reduceAdd,Nat.reduceSub,Nat.reduceMul,Int.reduceToNat,reduceCtorEq,↓reduceIte,Int.reducePow,Nat.reducePow,Int.reduceMod,Nat.reduceLeDiff,Int.reduceLE,Int.reduceNe,Int.reduceEq,Nat.reduceEqDiff,Nat.reduceLT,Nat.reduceBEq,List.map_cons,List.map_nil,List.toList_toArray,Array.toList_append,Option.toArray_some,Option.toArray_none,Bool.and_self,ty,zcf,zdr,d3,hs1,hs2,e1,da,dr,Int.toNat_natCast,Bool.and_false,Bool.false_and]
           repeat (refine And.intro (by omega) ?_)
           refine ⟨_,Weak.refl _,?_⟩
           simp only [go_sem,coe,zac,Nat.reduceAdd,Nat.reduceSub,Nat.reduceMul,Int.reduceToNat,reduceCtorEq,↓reduceIte,Int.reducePow,Nat.reducePow,Int.reduceMod,Nat.reduceLeDiff,Int.reduceLE,Int.reduceNe,Int.reduceEq,Nat.reduceEqDiff,Nat.reduceLT,Nat.reduceBEq,List.map_cons,List.map_nil,List.toList_toArray,Array.toList_append,Option.toArray_some,Option.toArray_none,Bool.and_self,ty,zcf,zdr]
           exact zao 4 rfl
       · have d3 : decide ((i : Int) < ps.length) = false := decide_eq_false (by omega)
         have dr : decide (ps = ps') = true := decide_eq_true (hk1.2 fun j h h' => hall j h h' (by omega))
         rw [dr,Bool.true_and]
         simp only [go_sem,zac,Nat.reduceAdd,Nat.reduceSub,Nat.reduceMul,Int.reduceToNat,reduceCtorEq,↓reduceIte,Int.reducePow,Nat.reducePow,Int.reduceMod,Nat.reduceLeDiff,Int.reduceLE,Int.reduceNe,Int.reduceEq,Nat.reduceEqDiff,Nat.reduceLT,Nat.reduceBEq,List.map_cons,List.map_nil,List.toList_toArray,Array.toList_append,Option.toArray_some,Option.toArray_none,Bool.and_self,ty,zcf,zdr,d3]
         refine ⟨_,Weak.refl _,?_⟩
         simp only [go_sem,zac,Nat.reduceAdd,Nat.reduceSub,Nat.reduceMul,Int.reduceToNat,reduceCtorEq,↓reduceIte,Int.reducePow,Nat.reducePow,Int.reduceMod,Nat.reduceLeDiff,Int.reduceLE,Int.reduceNe,Int.reduceEq,Nat.reduceEqDiff,Nat.reduceLT,Nat.reduceBEq,List.map_cons,List.map_nil,List.toList_toArray,Array.toList_append,Option.toArray_some,Option.toArray_none,Bool.and_self,ty,zcf,zdr,hls,hls']
         refine awpF_loopW ⟨fun m σ => ∃ i' : Nat,m = ss.length - i' ∧ i' ≤ ss.length ∧ (∀ j (h : j < ss.length) (h' : j < ss'.length),j < i' → ss[j] = ss'[j]) ∧
             σ = ⟨[(.agg [.w (.int .u8 k),.w (.int .i64 er),.w (.int .i64 o),.w (.int .i64 x),.w (.bool d),.w (.int .i64 g),.sg 6 X1 f1,.si ps f2,.sg 1 (ss.map AV.str) f3]),(.agg [.w (.int .u8 k'),.w (.int .i64 er'),.w (.int .i64 o'),.w (.int .i64 x'),.w (.bool d'),.w (.int .i64 g'),.sg 6 X2 f1',.si ps' f2',.sg 1 (ss'.map AV.str) f3']),.rf 4 9 0 0,.rf 5 9 0 0,.junk,.junk,.w (.int .i64 i'),.junk,.junk,.junk,.junk,.junk,.junk,.junk,.junk,.junk,.junk,.junk,.junk,.junk,.junk,.junk,.junk,.junk,.junk,.junk,.junk,.junk,.junk,.junk,.junk,.junk,.junk,.junk,.junk,.junk,.junk,.junk,.junk,.junk,.junk,.junk,.junk,.junk,.junk,.junk,.junk,.junk,.junk,.junk,.junk,.junk,.junk,.junk,.junk,.junk,.junk,.junk,.junk,.junk,.junk,.junk,.junk,.junk,.junk,.junk,.junk,.junk,.junk,.junk,.junk,.junk,.junk,.junk,.junk,.junk,.junk,.junk,.junk,.junk,.junk,.junk,.junk,.junk,.junk,.junk,.junk,.junk,.junk,.junk,.junk,.junk,.junk,.junk,.junk,.junk,.junk,.junk,.junk,.junk,.junk,.junk,.junk,.junk,.junk,.junk],[(4,.g 9 [(.agg [.w (.int .u8 k),.w (.int .i64 er),.w (.int .i64 o),.w (.int .i64 x),.w (.bool d),.w (.int .i64 g),.sg 6 X1 f1,.si ps f2,.sg 1 (ss.map AV.str) f3])]),(5,.g 9 [(.agg [.w (.int .u8 k'),.w (.int .i64 er'),.w (.int .i64 o'),.w (.int .i64 x'),.w (.bool d'),.w (.int .i64 g'),.sg 6 X2 f1',.si ps' f2',.sg 1 (ss'.map AV.str) f3'])])],6⟩,?_,?_⟩
         · refine ⟨_,_,zad [0,1,2,3,4,5] rfl rfl rfl ?_ ?_,0,rfl,by omega,by intro j _ _ h; omega,rfl⟩
           · simp only [ssT,zae,zaf,setSlot,gOf,AV.ren,renL,Blk.ren,Ax.look,Ax.put,reduceCtorEq,↓reduceIte,Nat.reduceEqDiff,Nat.reduceLT,Nat.reduceAdd,List.length_append,List.length_cons,List.length_nil,Option.some.injEq]; try rfl
           · simp only [ssT,zae,zaf,setSlot,gOf,AV.ren,renL,Blk.ren,Ax.look,Ax.put,reduceCtorEq,↓reduceIte,Nat.reduceEqDiff,Nat.reduceLT,Nat.reduceAdd,List.length_append,List.length_cons,List.length_nil,Option.some.injEq]
         · rintro m σ ⟨u,rfl,hu,halu,rfl⟩
           have e2 : ((u : Int) + 1 + 9223372036854775808) % 18446744073709551616 - 9223372036854775808 = ((u + 1 : Nat) : Int) := by omega
           by_cases hul : u < ss.length
           · have d4 : decide ((u : Int) < ss.length) = true := decide_eq_true (by omega)
             have huq : u < ss'.length := by omega
             have hs1 := zct ss u hul
             have hs2 := zct ss' u huq
             obtain ⟨P,hP⟩ : ∃ P,ss[u] = P := ⟨_,rfl⟩
             obtain ⟨Q,hQ⟩ : ∃ Q,ss'[u] = Q := ⟨_,rfl⟩
             rw [hP] at hs1
             rw [hQ] at hs2
             have hs1 : slot (ss.map AV.str) u = .str P := hs1
             have hs2 : slot (ss'.map AV.str) u = .str Q := hs2
             by_cases hpq : P = Q
             · have da : decide (P = Q) = true := decide_eq_true hpq
               simp only [go_sem,zac,Nat.reduceAdd,Nat.reduceSub,Nat.reduceMul,Int.reduceToNat,reduceCtorEq,↓reduceIte,Int.reducePow,Nat.reducePow,Int.reduceMod,Nat.reduceLeDiff,Int.reduceLE,Int.reduceNe,Int.reduceEq,Nat.reduceEqDiff,Nat.reduceLT,Nat.reduceBEq,List.map_cons,List.map_nil,List.toList_toArray,Array.toList_append,Option.toArray_some,Option.toArray_none,Bool.and_self,ty,zcf,zdr,hls,hls',d4,hs1,hs2,e2,da,Int.toNat_natCast]
               repeat (refine And.intro (by omega) ?_)
               refine ⟨ss.length - (u + 1),_,by omega,zad [0,1,2,3,4,5] rfl rfl rfl ?_ ?_,u + 1,rfl,by omega,?_,rfl⟩
               · simp only [ssT,zae,zaf,setSlot,gOf,AV.ren,renL,Blk.ren,Ax.look,Ax.put,reduceCtorEq,↓reduceIte,Nat.reduceEqDiff,Nat.reduceLT,Nat.reduceAdd,List.length_append,List.length_cons,List.length_nil,Option.some.injEq]
               · simp only [ssT,zae,zaf,setSlot,gOf,AV.ren,renL,Blk.ren,Ax.look,Ax.put,reduceCtorEq,↓reduceIte,Nat.reduceEqDiff,Nat.reduceLT,Nat.reduceAdd,List.length_append,List.length_cons,List.length_nil,Option.some.injEq]
               · intro j h h' hj
                 rcases Nat.lt_or_ge j u with h2 | h2
                 · exact halu j h h' h2
                 · have : j = u := by omega
                   subst this
                   rw [hP,hQ]; exact hpq
             · have da : decide (P = Q) = false := decide_eq_false hpq
               have dr : decide (ss = ss') = false := decide_eq_false (fun h => hpq (by rw [← hP,← hQ]; exact hk2.1 h u hul huq))
               simp only [go_sem,zac,Nat.reduceAdd,Nat.reduceSub,Nat.reduceMul,Int.reduceToNat,reduceCtorEq,↓reduceIte,Int.reducePow,Nat.reducePow,Int.reduceMod,Nat.reduceLeDiff,Int.reduceLE,Int.reduceNe,Int.reduceEq,Nat.reduceEqDiff,Nat.reduceLT,Nat.reduceBEq,List.map_cons,List.map_nil,List.toList_toArray,Array.toList_append,Option.toArray_some,Option.toArray_none,Bool.and_self,ty,zcf,zdr,hls,hls',d4,hs1,hs2,e2,da,dr,Int.toNat_natCast,Bool.and_false,Bool.false_and]
               repeat (refine And.intro (by omega) ?_)
               refine ⟨_,Weak.refl _,?_⟩
               simp only [go_sem,coe,zac,Nat.reduceAdd,Nat.reduceSub,Nat.reduceMul,Int.reduceToNat,reduceCtorEq,↓reduceIte,Int.reducePow,Nat.reducePow,Int.reduceMod,Nat.reduceLeDiff,Int.reduceLE,Int.reduceNe,Int.reduceEq,Nat.reduceEqDiff,Nat.reduceLT,Nat.reduceBEq,List.map_cons,List.map_nil,List.toList_toArray,Array.toList_append,Option.toArray_some,Option.toArray_none,Bool.and_self,ty,zcf,zdr]
               exact zao 4 rfl
           · have d4 : decide ((u : Int) < ss.length) = false := decide_eq_false (by omega)
             have dr : decide (ss = ss') = true := decide_eq_true (hk2.2 fun j h h' => halu j h h' (by omega))
             rw [dr,Bool.and_true]
             simp only [go_sem,zac,Nat.reduceAdd,Nat.reduceSub,Nat.reduceMul,Int.reduceToNat,reduceCtorEq,↓reduceIte,Int.reducePow,Nat.reducePow,Int.reduceMod,Nat.reduceLeDiff,Int.reduceLE,Int.reduceNe,Int.reduceEq,Nat.reduceEqDiff,Nat.reduceLT,Nat.reduceBEq,List.map_cons,List.map_nil,List.toList_toArray,Array.toList_append,Option.toArray_some,Option.toArray_none,Bool.and_self,ty,zcf,zdr,hls,hls',d4]
             refine ⟨_,Weak.refl _,?_⟩
             simp only [go_sem,zac,Nat.reduceAdd,Nat.reduceSub,Nat.reduceMul,Int.reduceToNat,reduceCtorEq,↓reduceIte,Int.reducePow,Nat.reducePow,Int.reduceMod,Nat.reduceLeDiff,Int.reduceLE,Int.reduceNe,Int.reduceEq,Nat.reduceEqDiff,Nat.reduceLT,Nat.reduceBEq,List.map_cons,List.map_nil,List.toList_toArray,Array.toList_append,Option.toArray_some,Option.toArray_none,Bool.and_self,ty,zcf,zdr,eqBr22S,a1,a2,p1,p2,c1,c2,h1]
             exact zao 4 rfl
   all_goals
     rw [D.1]
     simp only [go_sem,zac,Nat.reduceAdd,Nat.reduceSub,Nat.reduceMul,Int.reduceToNat,reduceCtorEq,↓reduceIte,Int.reducePow,Nat.reducePow,Int.reduceMod,Nat.reduceLeDiff,Int.reduceLE,Int.reduceNe,Int.reduceEq,Nat.reduceEqDiff,Nat.reduceLT,Nat.reduceBEq,List.map_cons,List.map_nil,List.toList_toArray,Array.toList_append,Option.toArray_some,Option.toArray_none,Bool.and_self,ty,zcf,zdr,D]
     exact zao 4 rfl
 · exact hp.elim
end
end Go.Proofs.Ytmedjkjoannbmaa
