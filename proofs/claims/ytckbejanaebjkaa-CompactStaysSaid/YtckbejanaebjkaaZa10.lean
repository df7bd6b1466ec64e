/- What the proofs of this seat stand on; it asks nothing. -/
import Derived.Test.YtckbejanaebjkaaZa09
set_option linter.unusedSimpArgs false
set_option linter.unusedVariables false
namespace Go.Proofs.Ytckbejanaebjkaa
open Ax
def loopsC : Code → List Code
 | .seq a b => loopsC a ++ loopsC b
 | .cond _ a b => loopsC a ++ loopsC b
 | .block _ c => loopsC c
 | .loop c => c :: loopsC c
 | _ => []
noncomputable def innerC : Code := ((loopsC (Try.f4.body.getD .skip))[1]?).getD .skip
section
set_option maxRecDepth 100000
set_option maxHeartbeats 16000000 in
theorem zbc {Q : Exit → ASt → Prop} {es : List (Bat × Bool)} {f f' FF : Bool} {now g b c p e s BB CC PP EE SSS : Int} {C : List Bat} {M : KM} {n i : Nat} {rs qs : List Rec} {K : Rec → Bool} {σ : ASt}
   (hil : i < es.length) (h16 : es.length ≤ 16) (m1 : rs.length ≤ 40) (hs1 : slot (es.map bvp) i = .agg [.w (.int .i64 b),.w (.int .i64 c),.w (.int .i64 p),.w (.int .i64 e),.w (.int .i64 s),.sg 6 (rs.map rv) f'])
   (hq : rs.filter K = qs) (hgoes : ∀ r ∈ rs,K r = false → r.k = true ∧ (r.dd = false → offI b r.d < (gtK M r.key).getD 0))
   (hst : Weak σ ⟨[.sg 6 (es.map bvp) f,.w (.int .i64 now),.w (.int .i64 g),.junk,.junk,.junk,.junk,.sg 6 (bfr C) false,.rf 4 0 0 0,.w (.int .i64 n),.w (.int .i64 i),.rf 5 6 0 0,.w (.int .i64 0),.w (.int .i64 0),.junk,.junk,.junk,.junk,.junk,.junk,.junk,.junk,.junk,.junk,.junk,.junk,.junk,.junk,.junk,.junk,.junk,.junk,.junk,.junk,.junk,.junk,.junk,.junk,.junk,.junk,.junk,.junk,.junk,.junk,.junk,.junk,.junk,.junk,.junk,.junk,.junk,.junk,.junk,.junk,.junk,.junk,.junk,.junk,.junk,.junk,.junk,.junk,.junk,.junk,.junk,.junk,.junk,.junk,.junk,.junk,.junk,.junk,.junk,.junk,.junk,.junk,.junk,.junk,.junk,.junk,.junk,.junk,.junk,.junk,.junk,.junk,.junk,.junk,.junk,.junk,.junk,.junk,.junk,.junk,.junk,.junk,.junk,.junk,.junk,.junk,.junk,.junk,.junk,.junk,.junk,.junk,.junk,.junk,.junk,.junk,.junk,.junk,.junk,.junk,.junk,.junk,.junk,.junk,.junk,.junk,.junk,.junk,.junk,.junk,.junk,.junk,.junk,.junk,.junk,.junk,.junk,.junk,.junk,.junk,.junk,.junk,.junk,.junk,.junk,.junk,.junk,.junk,.junk,.junk,.junk,.junk,.junk,.junk,.junk,.junk,.junk,.junk,.junk,.junk,.junk,.junk,.junk,.junk,.junk,.junk,.junk,.junk,.junk,.junk,.junk,.junk,.junk,.junk,.junk,.junk,.junk,.junk,.junk,.junk,.junk,.junk,.junk,.junk,.junk,.junk,.junk,.junk,.junk,.junk,.junk,.junk,.junk,.junk,.junk,.junk,.junk,.junk,.junk,.junk,.junk,.junk,.junk,.junk,.junk,.junk,.junk,.junk,.junk,.junk,.junk,.junk,.junk,.junk,.junk,.junk],
     [(4,.o (.mp (kvA M))),(5,.g 6 [.agg [.w (.int .i64 BB),.w (.int .i64 CC),.w (.int .i64 PP),.w (.int .i64 EE),.w (.int .i64 SSS),.sg 6 (qs.map rv) FF]])],6⟩) (hQ : Q (.exit 2) ⟨[.sg 6 (es.map bvp) f,.w (.int .i64 now),.w (.int .i64 g),.junk,.junk,.junk,.junk,.sg 6 (bfr C) false,.rf 4 0 0 0,.w (.int .i64 n),.w (.int .i64 i),.rf 5 6 0 0,.w (.int .i64 qs.length),.w (.int .i64 rs.length),.junk,.junk,.junk,.junk,.junk,.junk,.junk,.junk,.junk,.junk,.junk,.junk,.junk,.junk,.junk,.junk,.junk,.junk,.junk,.junk,.junk,.junk,.junk,.junk,.junk,.junk,.junk,.junk,.junk,.junk,.junk,.junk,.junk,.junk,.junk,.junk,.junk,.junk,.junk,.junk,.junk,.junk,.junk,.junk,.junk,.junk,.junk,.junk,.junk,.junk,.junk,.junk,.junk,.junk,.junk,.junk,.junk,.junk,.junk,.junk,.junk,.junk,.junk,.junk,.junk,.junk,.junk,.junk,.junk,.junk,.junk,.junk,.junk,.junk,.junk,.junk,.junk,.junk,.junk,.junk,.junk,.junk,.junk,.junk,.junk,.junk,.junk,.junk,.junk,.junk,.junk,.junk,.junk,.junk,.junk,.junk,.junk,.junk,.junk,.junk,.junk,.junk,.junk,.junk,.junk,.junk,.junk,.junk,.junk,.junk,.junk,.junk,.junk,.junk,.junk,.junk,.junk,.junk,.junk,.junk,.junk,.junk,.junk,.junk,.junk,.junk,.junk,.junk,.junk,.junk,.junk,.junk,.junk,.junk,.junk,.junk,.junk,.junk,.junk,.junk,.junk,.junk,.junk,.junk,.junk,.junk,.junk,.junk,.junk,.junk,.junk,.junk,.junk,.junk,.junk,.junk,.junk,.junk,.junk,.junk,.junk,.junk,.junk,.junk,.junk,.junk,.junk,.junk,.junk,.junk,.junk,.junk,.junk,.junk,.junk,.junk,.junk,.junk,.junk,.junk,.junk,.junk,.junk,.junk,.junk,.junk,.junk,.junk,.junk,.junk,.junk,.junk,.junk,.junk,.junk,.junk],
     [(4,.o (.mp (kvA M))),(5,.g 6 [.agg [.w (.int .i64 BB),.w (.int .i64 CC),.w (.int .i64 PP),.w (.int .i64 EE),.w (.int .i64 SSS),.sg 6 (qs.map rv) FF]])],6⟩) : awp zao tyF (.loop innerC) Q σ := by
 have hlp : (es.map bvp).length = es.length := by simp
 have hlr : (rs.map rv).length = rs.length := by simp
 have hlqv : (qs.map rv).length = qs.length := by simp
 have e1 : ((i : Int) + 1 + 9223372036854775808) % 18446744073709551616 - 9223372036854775808 = ((i + 1 : Nat) : Int) := by omega
 have d3 : decide ((i : Int) < es.length) = true := decide_eq_true (by omega)
 unfold innerC Try.f4
 simp only [loopsC,Option.getD,List.cons_append,List.nil_append,List.getElem?_cons_succ,List.getElem?_cons_zero]
 refine awp_loopW ⟨fun m σ => ∃ k : Nat,m = rs.length - k ∧ k ≤ rs.length ∧
     σ = ⟨[.sg 6 (es.map bvp) f,.w (.int .i64 now),.w (.int .i64 g),.junk,.junk,.junk,.junk,.sg 6 (bfr C) false,.rf 4 0 0 0,.w (.int .i64 n),.w (.int .i64 i),.rf 5 6 0 0,.w (.int .i64 ((rs.take k).filter K).length),.w (.int .i64 k),.junk,.junk,.junk,.junk,.junk,.junk,.junk,.junk,.junk,.junk,.junk,.junk,.junk,.junk,.junk,.junk,.junk,.junk,.junk,.junk,.junk,.junk,.junk,.junk,.junk,.junk,.junk,.junk,.junk,.junk,.junk,.junk,.junk,.junk,.junk,.junk,.junk,.junk,.junk,.junk,.junk,.junk,.junk,.junk,.junk,.junk,.junk,.junk,.junk,.junk,.junk,.junk,.junk,.junk,.junk,.junk,.junk,.junk,.junk,.junk,.junk,.junk,.junk,.junk,.junk,.junk,.junk,.junk,.junk,.junk,.junk,.junk,.junk,.junk,.junk,.junk,.junk,.junk,.junk,.junk,.junk,.junk,.junk,.junk,.junk,.junk,.junk,.junk,.junk,.junk,.junk,.junk,.junk,.junk,.junk,.junk,.junk,.junk,.junk,.junk,.junk,.junk,.junk,.junk,.junk,.junk,.junk,.junk,.junk,.junk,.junk,.junk,.junk,.junk,.junk,.junk,.junk,.junk,.junk,.junk,.junk,.junk,.junk,.junk,.junk,.junk,.junk,.junk,.junk,.junk,.junk,.junk,.junk,.junk,.junk,.junk,.junk,.junk,.junk,.junk,.junk,.junk,.junk,.junk,.junk,.junk,.junk,.junk,.junk,.junk,.junk,.junk,.junk,.junk,.junk,.junk,.junk,.junk,.junk,.junk,.junk,.junk,.junk,.junk,.junk,.junk,.junk,.junk,.junk,.junk,.junk,.junk,.junk,.junk,.junk,.junk,.junk,.junk,.junk,.junk,.junk,.junk,.junk,.junk,.junk,.junk,.junk,.junk,.junk,.junk,.junk,.junk,.junk,.junk,.junk,.junk],
       [(4,.o (.mp (kvA M))),(5,.g 6 [.agg [.w (.int .i64 BB),.w (.int .i64 CC),.w (.int .i64 PP),.w (.int .i64 EE),.w (.int .i64 SSS),.sg 6 (qs.map rv) FF]])],6⟩,?_,?_⟩
 · exact ⟨_,_,hst,0,rfl,by omega,rfl⟩
 · rintro m σ ⟨k,rfl,hk,rfl⟩
   have hkk : ((rs.take k).filter K).length ≤ k := Nat.le_trans (List.length_filter_le _ _) (by simp; omega)
   by_cases hkl : k < rs.length
   · have e2 : ((k : Int) + 1 + 9223372036854775808) % 18446744073709551616 - 9223372036854775808 = ((k + 1 : Nat) : Int) := by omega
     have d4 : decide ((k : Int) < rs.length) = true := decide_eq_true (by omega)
     have hs2' := zbf rv rs k hkl
     have htk : (rs.take (k + 1)).filter K = (rs.take k).filter K ++ [rs[k]].filter K := by rw [List.take_succ_eq_append_getElem hkl,List.filter_append]
     have hfa := filter_at K rs k hkl
     have hgo := hgoes rs[k] (List.getElem_mem hkl)
     obtain ⟨R,hR⟩ : ∃ R,rs[k] = R := ⟨_,rfl⟩
     rw [hR] at hs2' htk hfa hgo
     obtain ⟨d,t,kd,key,dd,val⟩ := R
     simp only [rv] at hs2'
     obtain ⟨kk,hkv⟩ : ∃ kk,((rs.take k).filter K).length = kk := ⟨_,rfl⟩
     rw [hkv] at hfa hkk ⊢
     have e3 : ((kk : Int) + 1 + 9223372036854775808) % 18446744073709551616 - 9223372036854775808 = ((kk + 1 : Nat) : Int) := by omega
     cases hap : K ⟨d,t,kd,key,dd,val⟩ with
     | true =>
       have hlt : ((rs.take (k + 1)).filter K).length = kk + 1 := by rw [htk,List.length_append,hkv]; simp [hap]
       obtain ⟨h1,h2⟩ := hfa hap
       simp only [hq] at h1 h2
       have dq : decide ((kk : Int) < qs.length) = true := decide_eq_true (by omega)
       have hsq := zbf rv qs kk h1
       rw [h2] at hsq
       simp only [rv] at hsq
       have dE : decide ((⟨d,t,kd,key,dd,val⟩ : Rec) = ⟨d,t,kd,key,dd,val⟩) = true := decide_eq_true rfl
       simp only [go_sem,zaa,Nat.reduceAdd,Nat.reduceSub,Nat.reduceMul,Int.reduceToNat,reduceCtorEq,↓reduceIte,Int.reducePow,Nat.reducePow,Int.reduceMod,Nat.reduceLeDiff,Int.reduceLE,Int.reduceNe,Int.reduceEq,Nat.reduceEqDiff,Nat.reduceLT,Nat.reduceBEq,tyF,zap,ty,zao,hlp,hlr,hlqv,d4,dq,hs1,hs2',hsq,↓eqRecF,dE,e2,e3,Int.toNat_natCast,Bool.not_true,Bool.not_false]
       try repeat (refine And.intro (by omega) ?_)
       refine ⟨rs.length - (k + 1),_,by omega,zae [0,1,2,3,4,5] rfl rfl rfl ?_ ?_,k + 1,rfl,by omega,rfl⟩
       · simp only [ssT,zaf,zag,setSlot,gOf,AV.ren,renL,Blk.ren,Ax.look,Ax.put,reduceCtorEq,↓reduceIte,Nat.reduceEqDiff,Nat.reduceLT,Nat.reduceAdd,List.length_append,List.length_cons,List.length_nil,Option.some.injEq,hlt]; try simp
       · simp only [ssT,zaf,zag,setSlot,gOf,AV.ren,renL,Blk.ren,Ax.look,Ax.put,reduceCtorEq,↓reduceIte,Nat.reduceEqDiff,Nat.reduceLT,Nat.reduceAdd,List.length_append,List.length_cons,List.length_nil,Option.some.injEq]
     | false =>
       have hlt : ((rs.take (k + 1)).filter K).length = kk := by rw [htk,List.length_append,hkv]; simp [hap]
       obtain ⟨rfl,hgo⟩ := hgo hap
       have hof : (b + d + 9223372036854775808) % 18446744073709551616 - 9223372036854775808 = offI b d := rfl
       obtain ⟨O,hO⟩ : ∃ O,offI b d = O := ⟨_,rfl⟩
       rw [hO] at hof hgo
       rcases Nat.lt_or_ge kk qs.length with h1 | h1
       · have dq : decide ((kk : Int) < qs.length) = true := decide_eq_true (by omega)
         have hsq := zbf rv qs kk h1
         have hne : qs[kk] ≠ ⟨d,t,true,key,dd,val⟩ := by
           intro h
           have h5 : qs[kk] ∈ rs.filter K := by rw [hq]; exact List.getElem_mem h1
           rw [h] at h5
           have h6 := (List.mem_filter.1 h5).2
           rw [hap] at h6; cases h6
         obtain ⟨Q,hQ⟩ : ∃ Q,qs[kk] = Q := ⟨_,rfl⟩
         rw [hQ] at hsq hne
         obtain ⟨d',t',k',key',dd',val'⟩ := Q
         simp only [rv] at hsq
         have dE : decide ((⟨d',t',k',key',dd',val'⟩ : Rec) = ⟨d,t,true,key,dd,val⟩) = false := decide_eq_false hne
         cases dd with
         | true =>
           simp only [go_sem,zaa,Nat.reduceAdd,Nat.reduceSub,Nat.reduceMul,Int.reduceToNat,reduceCtorEq,↓reduceIte,Int.reducePow,Nat.reducePow,Int.reduceMod,Nat.reduceLeDiff,Int.reduceLE,Int.reduceNe,Int.reduceEq,Nat.reduceEqDiff,Nat.reduceLT,Nat.reduceBEq,tyF,zap,ty,zao,hlp,hlr,hlqv,d4,hs1,hs2',zff,hof,e2,e3,dq,hsq,↓eqRecF,dE,Int.toNat_natCast,Bool.not_true,Bool.not_false]
           try repeat (refine And.intro (by omega) ?_)
           refine ⟨rs.length - (k + 1),_,by omega,zae [0,1,2,3,4,5] rfl rfl rfl ?_ ?_,k + 1,rfl,by omega,rfl⟩
           · simp only [ssT,zaf,zag,setSlot,gOf,AV.ren,renL,Blk.ren,Ax.look,Ax.put,reduceCtorEq,↓reduceIte,Nat.reduceEqDiff,Nat.reduceLT,Nat.reduceAdd,List.length_append,List.length_cons,List.length_nil,Option.some.injEq,hlt]; try simp
           · simp only [ssT,zaf,zag,setSlot,gOf,AV.ren,renL,Blk.ren,Ax.look,Ax.put,reduceCtorEq,↓reduceIte,Nat.reduceEqDiff,Nat.reduceLT,Nat.reduceAdd,List.length_append,List.length_cons,List.length_nil,Option.some.injEq]
         | false =>
           have hgo := hgo rfl
           rcases hx : ixK key M 0 with _ | ⟨jj,a⟩
           · have hg0 : (gtK M key).getD 0 = 0 := by unfold gtK; rw [hx]; rfl
             rw [hg0] at hgo
             have dg : decide (0 ≤ O) = false := decide_eq_false (by omega)
             simp only [go_sem,zaa,Nat.reduceAdd,Nat.reduceSub,Nat.reduceMul,Int.reduceToNat,reduceCtorEq,↓reduceIte,Int.reducePow,Nat.reducePow,Int.reduceMod,Nat.reduceLeDiff,Int.reduceLE,Int.reduceNe,Int.reduceEq,Nat.reduceEqDiff,Nat.reduceLT,Nat.reduceBEq,tyF,zap,ty,zao,hlp,hlr,hlqv,d4,hs1,hs2',zff,hof,e2,e3,dq,hsq,↓eqRecF,dE,hx,mpI_none,dg,Int.toNat_natCast,Bool.not_true,Bool.not_false]
             try repeat (refine And.intro (by omega) ?_)
             refine ⟨rs.length - (k + 1),_,by omega,zae [0,1,2,3,4,5] rfl rfl rfl ?_ ?_,k + 1,rfl,by omega,rfl⟩
             · simp only [ssT,zaf,zag,setSlot,gOf,AV.ren,renL,Blk.ren,Ax.look,Ax.put,reduceCtorEq,↓reduceIte,Nat.reduceEqDiff,Nat.reduceLT,Nat.reduceAdd,List.length_append,List.length_cons,List.length_nil,Option.some.injEq,hlt]; try simp
             · simp only [ssT,zaf,zag,setSlot,gOf,AV.ren,renL,Blk.ren,Ax.look,Ax.put,reduceCtorEq,↓reduceIte,Nat.reduceEqDiff,Nat.reduceLT,Nat.reduceAdd,List.length_append,List.length_cons,List.length_nil,Option.some.injEq]
           · have hg0 : (gtK M key).getD 0 = a := by unfold gtK; rw [hx]; rfl
             rw [hg0] at hgo
             have dg : decide (a ≤ O) = false := decide_eq_false (by omega)
             simp only [go_sem,zaa,Nat.reduceAdd,Nat.reduceSub,Nat.reduceMul,Int.reduceToNat,reduceCtorEq,↓reduceIte,Int.reducePow,Nat.reducePow,Int.reduceMod,Nat.reduceLeDiff,Int.reduceLE,Int.reduceNe,Int.reduceEq,Nat.reduceEqDiff,Nat.reduceLT,Nat.reduceBEq,tyF,zap,ty,zao,hlp,hlr,hlqv,d4,hs1,hs2',zff,hof,e2,e3,dq,hsq,↓eqRecF,dE,hx,mpI_some,dg,Int.toNat_natCast,Bool.not_true,Bool.not_false]
             try repeat (refine And.intro (by omega) ?_)
             refine ⟨rs.length - (k + 1),_,by omega,zae [0,1,2,3,4,5] rfl rfl rfl ?_ ?_,k + 1,rfl,by omega,rfl⟩
             · simp only [ssT,zaf,zag,setSlot,gOf,AV.ren,renL,Blk.ren,Ax.look,Ax.put,reduceCtorEq,↓reduceIte,Nat.reduceEqDiff,Nat.reduceLT,Nat.reduceAdd,List.length_append,List.length_cons,List.length_nil,Option.some.injEq,hlt]; try simp
             · simp only [ssT,zaf,zag,setSlot,gOf,AV.ren,renL,Blk.ren,Ax.look,Ax.put,reduceCtorEq,↓reduceIte,Nat.reduceEqDiff,Nat.reduceLT,Nat.reduceAdd,List.length_append,List.length_cons,List.length_nil,Option.some.injEq]
       · have dq : decide ((kk : Int) < qs.length) = false := decide_eq_false (by omega)
         cases dd with
         | true =>
           simp only [go_sem,zaa,Nat.reduceAdd,Nat.reduceSub,Nat.reduceMul,Int.reduceToNat,reduceCtorEq,↓reduceIte,Int.reducePow,Nat.reducePow,Int.reduceMod,Nat.reduceLeDiff,Int.reduceLE,Int.reduceNe,Int.reduceEq,Nat.reduceEqDiff,Nat.reduceLT,Nat.reduceBEq,tyF,zap,ty,zao,hlp,hlr,hlqv,d4,hs1,hs2',zff,hof,e2,e3,dq,Int.toNat_natCast,Bool.not_true,Bool.not_false]
           try repeat (refine And.intro (by omega) ?_)
           refine ⟨rs.length - (k + 1),_,by omega,zae [0,1,2,3,4,5] rfl rfl rfl ?_ ?_,k + 1,rfl,by omega,rfl⟩
           · simp only [ssT,zaf,zag,setSlot,gOf,AV.ren,renL,Blk.ren,Ax.look,Ax.put,reduceCtorEq,↓reduceIte,Nat.reduceEqDiff,Nat.reduceLT,Nat.reduceAdd,List.length_append,List.length_cons,List.length_nil,Option.some.injEq,hlt]; try simp
           · simp only [ssT,zaf,zag,setSlot,gOf,AV.ren,renL,Blk.ren,Ax.look,Ax.put,reduceCtorEq,↓reduceIte,Nat.reduceEqDiff,Nat.reduceLT,Nat.reduceAdd,List.length_append,List.length_cons,List.length_nil,Option.some.injEq]
         | false =>
           have hgo := hgo rfl
           rcases hx : ixK key M 0 with _ | ⟨jj,a⟩
           · have hg0 : (gtK M key).getD 0 = 0 := by unfold gtK; rw [hx]; rfl
             rw [hg0] at hgo
             have dg : decide (0 ≤ O) = false := decide_eq_false (by omega)
             simp only [go_sem,zaa,Nat.reduceAdd,Nat.reduceSub,Nat.reduceMul,Int.reduceToNat,reduceCtorEq,↓reduceIte,Int.reducePow,Nat.reducePow,Int.reduceMod,Nat.reduceLeDiff,Int.reduceLE,Int.reduceNe,Int.reduceEq,Nat.reduceEqDiff,Nat.reduceLT,Nat.reduceBEq,tyF,zap,ty,zao,hlp,hlr,hlqv,d4,hs1,hs2',zff,hof,e2,e3,dq,hx,mpI_none,dg,Int.toNat_natCast,Bool.not_true,Bool.not_false]
             try repeat (refine And.intro (by omega) ?_)
             refine ⟨rs.length - (k + 1),_,by omega,zae [0,1,2,3,4,5] rfl rfl rfl ?_ ?_,k + 1,rfl,by omega,rfl⟩
             · simp only [ssT,zaf,zag,setSlot,gOf,AV.ren,renL,Blk.ren,Ax.look,Ax.put,reduceCtorEq,↓reduceIte,Nat.reduceEqDiff,Nat.reduceLT,Nat.reduceAdd,List.length_append,List.length_cons,List.length_nil,Option.some.injEq,hlt]; try simp
             · simp only [ssT,zaf,zag,setSlot,gOf,AV.ren,renL,Blk.ren,Ax.look,Ax.put,reduceCtorEq,↓reduceIte,Nat.reduceEqDiff,Nat.reduceLT,Nat.reduceAdd,List.length_append,List.length_cons,List.length_nil,Option.some.injEq]
           · have hg0 : (gtK M key).getD 0 = a := by unfold gtK; rw [hx]; rfl
             rw [hg0] at hgo
             have dg : decide (a ≤ O) = false := decide_eq_false (by omega)
             simp only [go_sem,zaa,Nat.reduceAdd,Nat.reduceSub,Nat.reduceMul,Int.reduceToNat,reduceCtorEq,↓reduceIte,Int.reducePow,Nat.reducePow,Int.reduceMod,Nat.reduceLeDiff,Int.reduceLE,Int.reduceNe,Int.reduceEq,Nat.reduceEqDiff,Nat.reduceLT,Nat.reduceBEq,tyF,zap,ty,zao,hlp,hlr,hlqv,d4,hs1,hs2',zff,hof,e2,e3,dq,hx,mpI_some,dg,Int.toNat_natCast,Bool.not_true,Bool.not_false]
             try repeat (refine And.intro (by omega) ?_)
             refine ⟨rs.length - (k + 1),_,by omega,zae [0,1,2,3,4,5] rfl rfl rfl ?_ ?_,k + 1,rfl,by omega,rfl⟩
             · simp only [ssT,zaf,zag,setSlot,gOf,AV.ren,renL,Blk.ren,Ax.look,Ax.put,reduceCtorEq,↓reduceIte,Nat.reduceEqDiff,Nat.reduceLT,Nat.reduceAdd,List.length_append,List.length_cons,List.length_nil,Option.some.injEq,hlt]; try simp
             · simp only [ssT,zaf,zag,setSlot,gOf,AV.ren,renL,Blk.ren,Ax.look,Ax.put,reduceCtorEq,↓reduceIte,Nat.reduceEqDiff,Nat.reduceLT,Nat.reduceAdd,List.length_append,List.length_cons,List.length_nil,Option.some.injEq]
   · obtain rfl : k = rs.length := by omega
     have d4 : decide (((rs.length : Nat) : Int) < rs.length) = false := decide_eq_false (by omega)
     have htk : rs.take rs.length = rs := List.take_of_length_le (by omega)
     have hkq : ((rs.take rs.length).filter K).length = qs.length := by rw [htk,hq]
     rw [hkq]
     simp only [go_sem,zaa,Nat.reduceAdd,Nat.reduceSub,Nat.reduceMul,Int.reduceToNat,reduceCtorEq,↓reduceIte,Int.reducePow,Nat.reducePow,Int.reduceMod,Nat.reduceLeDiff,Int.reduceLE,Int.reduceNe,Int.reduceEq,Nat.reduceEqDiff,Nat.reduceLT,Nat.reduceBEq,tyF,zap,ty,zao,hlp,hlr,d4,hs1,Int.toNat_natCast,Bool.not_true,Bool.not_false]
     try repeat (refine And.intro (by omega) ?_)
     refine ⟨_,zae [0,1,2,3,4,5] rfl rfl rfl ?_ ?_,hQ⟩
     · simp only [ssT,zaf,zag,setSlot,gOf,AV.ren,renL,Blk.ren,Ax.look,Ax.put,reduceCtorEq,↓reduceIte,Nat.reduceEqDiff,Nat.reduceLT,Nat.reduceAdd,List.length_append,List.length_cons,List.length_nil,Option.some.injEq]; try simp
     · simp only [ssT,zaf,zag,setSlot,gOf,AV.ren,renL,Blk.ren,Ax.look,Ax.put,reduceCtorEq,↓reduceIte,Nat.reduceEqDiff,Nat.reduceLT,Nat.reduceAdd,List.length_append,List.length_cons,List.length_nil,Option.some.injEq]
end
end Go.Proofs.Ytckbejanaebjkaa
namespace Go.Proofs.Ytckbejanaebjkaa
open Ax
section
set_option maxRecDepth 100000
set_option maxHeartbeats 16000000 in
theorem lstay_law : zcn Try.prog 4 lstayS := by
 refine zbs (S := zao) (T := tyF) zet tyF_ok Slstay17_ok Try.func4 (c := Try.f4.body.getD .skip) (by kernel_rfl) (by kernel_rfl) (fun xs pins hp _ => ?_)
 unfold lstayS at hp ⊢
 split at hp
 · rename_i xs f now g _
   obtain ⟨hL,hb⟩ := hp
   refine ⟨by simp,?_⟩
   unfold Try.f4
   by_cases hg : lgt17 (xs.map ubat)
   · obtain ⟨h16,es,rfl,h40,hok⟩ := lgt_facts hb hg
     have d0 : decide (lgt17 ((es.map bvp).map ubat)) = true := decide_eq_true hg
     have hlp : (es.map bvp).length = es.length := by simp
     have hbk : ∃ gs : List (Bat × Bool),es.map bvp = gs.map bvp ∧ ∀ p ∈ gs,p.1.rs.length ≤ 1000000 := ⟨es,rfl,fun p hp => by have := h40 p hp; omega⟩
     have hcz : ∀ h,coe (zap ty) 22 (.sg 6 (es.map bvp) h) = .sg 6 (es.map bvp) h := fun h => by cases es <;> rfl
     have mu := zco es
     obtain ⟨l,hl⟩ : ∃ l,es.map Prod.fst = l := ⟨_,rfl⟩
     rw [hl] at mu
     rw [mu] at d0
     have hlq : l.length = es.length := by subst hl; simp
     have hel : ∀ x ∈ l,x.rs.length ≤ 1000000 := by
       intro x hx
       rw [← hl] at hx
       obtain ⟨p,hp,rfl⟩ := List.mem_map.1 hx
       have := h40 p hp; omega
     have hsm := clnL_small (now := now) (g := g) hel
     have hcn := clnL_len l now g
     have hge := fun x (hx : x ∈ l) r (hr : r ∈ x.rs) (h : r.k = true) => last_ge hx hr h
     have hCf : clnL l now g = l.flatMap (cl1 (lastK l) now g) := by unfold clnL clnM; rw [cln_flat]; rfl
     obtain ⟨M,hM⟩ : ∃ M,lastK l = M := ⟨_,rfl⟩
     rw [hM] at hCf hge
     obtain ⟨C,hC⟩ : ∃ C,clnL l now g = C := ⟨_,rfl⟩
     rw [hC] at hCf hsm hcn
     have hlc := len_bfr C
     rw [hlp] at h16 hL
     have hL6 : es.length ≤ 1000000 := by omega
     simp only [go_sem,zaa,Nat.reduceAdd,Nat.reduceSub,Nat.reduceMul,Int.reduceToNat,reduceCtorEq,↓reduceIte,Int.reducePow,Nat.reducePow,Int.reduceMod,Nat.reduceLeDiff,Int.reduceLE,Int.reduceNe,Int.reduceEq,Nat.reduceEqDiff,Nat.reduceLT,Nat.reduceBEq,tyF,zap,ty,zao,lgt17S,cln17S,zej,hL,hL6,hb,hbk,hcz,hlp,mu,d0,hM,hC,Bool.not_true]
     try repeat (refine And.intro (by omega) ?_)
     refine zef ⟨fun m σ => ∃ i n : Nat,m = es.length - i ∧ i ≤ es.length ∧ n ≤ C.length ∧ C.drop n = (l.drop i).flatMap (cl1 M now g) ∧
         σ = ⟨[.sg 6 (es.map bvp) f,.w (.int .i64 now),.w (.int .i64 g),.junk,.junk,.junk,.junk,.sg 6 (bfr C) false,.rf 4 0 0 0,.w (.int .i64 n),.w (.int .i64 i),.junk,.junk,.junk,.junk,.junk,.junk,.junk,.junk,.junk,.junk,.junk,.junk,.junk,.junk,.junk,.junk,.junk,.junk,.junk,.junk,.junk,.junk,.junk,.junk,.junk,.junk,.junk,.junk,.junk,.junk,.junk,.junk,.junk,.junk,.junk,.junk,.junk,.junk,.junk,.junk,.junk,.junk,.junk,.junk,.junk,.junk,.junk,.junk,.junk,.junk,.junk,.junk,.junk,.junk,.junk,.junk,.junk,.junk,.junk,.junk,.junk,.junk,.junk,.junk,.junk,.junk,.junk,.junk,.junk,.junk,.junk,.junk,.junk,.junk,.junk,.junk,.junk,.junk,.junk,.junk,.junk,.junk,.junk,.junk,.junk,.junk,.junk,.junk,.junk,.junk,.junk,.junk,.junk,.junk,.junk,.junk,.junk,.junk,.junk,.junk,.junk,.junk,.junk,.junk,.junk,.junk,.junk,.junk,.junk,.junk,.junk,.junk,.junk,.junk,.junk,.junk,.junk,.junk,.junk,.junk,.junk,.junk,.junk,.junk,.junk,.junk,.junk,.junk,.junk,.junk,.junk,.junk,.junk,.junk,.junk,.junk,.junk,.junk,.junk,.junk,.junk,.junk,.junk,.junk,.junk,.junk,.junk,.junk,.junk,.junk,.junk,.junk,.junk,.junk,.junk,.junk,.junk,.junk,.junk,.junk,.junk,.junk,.junk,.junk,.junk,.junk,.junk,.junk,.junk,.junk,.junk,.junk,.junk,.junk,.junk,.junk,.junk,.junk,.junk,.junk,.junk,.junk,.junk,.junk,.junk,.junk,.junk,.junk,.junk,.junk,.junk,.junk,.junk,.junk,.junk,.junk,.junk,.junk,.junk],[(4,.o (.mp (kvA M)))],5⟩,?_,?_⟩
     · refine ⟨_,_,zae [0,1,2,3,84] rfl rfl rfl ?_ ?_,0,0,rfl,by omega,by omega,hCf,rfl⟩
       · simp only [ssT,zaf,zag,setSlot,gOf,AV.ren,renL,Blk.ren,Ax.look,Ax.put,reduceCtorEq,↓reduceIte,Nat.reduceEqDiff,Nat.reduceLT,Nat.reduceAdd,List.length_append,List.length_cons,List.length_nil,Option.some.injEq]; try simp
       · simp only [ssT,zaf,zag,setSlot,gOf,AV.ren,renL,Blk.ren,Ax.look,Ax.put,reduceCtorEq,↓reduceIte,Nat.reduceEqDiff,Nat.reduceLT,Nat.reduceAdd,List.length_append,List.length_cons,List.length_nil,Option.some.injEq]; try simp
     · rintro m σ ⟨i,n,rfl,hi,hn,hd,rfl⟩
       have e1 : ((i : Int) + 1 + 9223372036854775808) % 18446744073709551616 - 9223372036854775808 = ((i + 1 : Nat) : Int) := by omega
       have en : ((n : Int) + 1 + 9223372036854775808) % 18446744073709551616 - 9223372036854775808 = ((n + 1 : Nat) : Int) := by omega
       by_cases hil : i < es.length
       · have d3 : decide ((i : Int) < es.length) = true := decide_eq_true (by omega)
         have hs1 := zcx es i hil
         have m1 := h40 es[i] (List.getElem_mem hil)
         have hmem : es[i].1 ∈ l := by rw [← hl]; exact List.mem_map.2 ⟨_,List.getElem_mem hil,rfl⟩
         have hdr : l.drop i = es[i].1 :: l.drop (i + 1) := by
           rw [List.drop_eq_getElem_cons (by omega)]
           subst hl; simp
         have hge1 := hge _ hmem
         obtain ⟨P,hP⟩ : ∃ P,es[i] = P := ⟨_,rfl⟩
         rw [hP] at hs1 m1 hdr hge1
         rw [hdr,List.flatMap_cons] at hd
         obtain ⟨⟨b,c,p,e,s,rs⟩,f'⟩ := P
         have hs1 : slot (es.map bvp) i = .agg [.w (.int .i64 b),.w (.int .i64 c),.w (.int .i64 p),.w (.int .i64 e),.w (.int .i64 s),.sg 6 (rs.map rv) f'] := hs1
         simp only at m1 hge1 hd
         have hlr : (rs.map rv).length = rs.length := by simp
         obtain ⟨qs,hq⟩ : ∃ qs,rs.filter (fun r => zcu M b r now g) = qs := ⟨_,rfl⟩
         have hB : clnB M now g ⟨b,c,p,e,s,rs⟩ = ⟨b,c,p,e,s,qs⟩ := by unfold clnB; rw [hq]
         have D := met_cases n _ hCf hd hq
         have hgoes : ∀ r ∈ rs,zcu M b r now g = false → r.k = true ∧ (r.dd = false → offI b r.d < (gtK M r.key).getD 0) := by
           intro r hr h
           unfold zcu at h
           cases hk : r.k with
           | false => rw [hk] at h; cases h
           | true =>
             refine ⟨rfl,fun hdd => ?_⟩
             rw [hk,hdd] at h
             have h1 : ¬ (gtK M r.key).getD 0 = offI b r.d := by simpa using h
             have := hge1 r hr hk
             omega
         obtain ⟨K,hK⟩ : ∃ K,(fun r => zcu M b r now g) = K := ⟨_,rfl⟩
         rw [hK] at hq
         have hgoes : ∀ r ∈ rs,K r = false → r.k = true ∧ (r.dd = false → offI b r.d < (gtK M r.key).getD 0) := by rw [← hK]; exact hgoes
         have hlqv : (qs.map rv).length = qs.length := by simp
         have hL1 : rs.length ≤ 1000000 := by omega
         have hr1 := zan rs
         have x1 : ∃ k : List Rec,rs.map rv = k.map rv := ⟨rs,rfl⟩
         have dd0 : ∀ n : Int,decide (n = n) = true := fun n => decide_eq_true rfl
         have hcx : ∀ (zs : List Rec) h,coe (zap ty) 28 (.sg 6 (zs.map rv) h) = .sg 6 (zs.map rv) h := fun zs h => by cases zs <;> rfl
         rcases D with ⟨dn,hE⟩ | ⟨dn,hnl,b2,c2,p2,e2',s2,ys,hs2,_,hym,D⟩
         · have hqn : qs = [] := List.eq_nil_of_length_eq_zero hE.1
           have x2 := x1
           have hq0 : qs.length = 0 := by rw [hqn]; rfl
           simp (config := { maxSteps := 1000000 }) only [go_sem,zaa,Nat.reduceAdd,Nat.reduceSub,Nat.reduceMul,Int.reduceToNat,reduceCtorEq,↓reduceIte,Int.reducePow,Nat.reducePow,Int.reduceMod,Nat.reduceLeDiff,Int.reduceLE,Int.reduceNe,Int.reduceEq,Nat.reduceEqDiff,Nat.reduceLT,Nat.reduceBEq,tyF,zap,ty,zao,zcj,hcx,hlp,hlc,hlr,d3,hs1,dn,dd0,x1,x2,hr1,hL1,fillS,Int.toNat_natCast,Bool.not_true,Bool.not_false,List.length_map,zan]
           try repeat (refine And.intro (by first | omega | exact ⟨_,rfl⟩) ?_)
           refine zbc (es := es) (f := f) (f' := f') (FF := true) (now := now) (g := g) (BB := 0) (CC := 0) (PP := 0) (EE := 0) (SSS := 0) (C := C) (M := M) (n := n) (i := i) (rs := rs) (qs := qs) (K := K) hil h16 m1 hs1 hq hgoes (zae [0,1,2,3,4,37] rfl rfl rfl ?_ ?_) ?_
           · simp only [ssT,zaf,zag,setSlot,gOf,AV.ren,renL,Blk.ren,Ax.look,Ax.put,reduceCtorEq,↓reduceIte,Nat.reduceEqDiff,Nat.reduceLT,Nat.reduceAdd,List.length_append,List.length_cons,List.length_nil,Option.some.injEq]; try simp
           · simp only [ssT,zaf,zag,setSlot,gOf,AV.ren,renL,Blk.ren,Ax.look,Ax.put,reduceCtorEq,↓reduceIte,Nat.reduceEqDiff,Nat.reduceLT,Nat.reduceAdd,List.length_append,List.length_cons,List.length_nil,Option.some.injEq]; try simp
             try exact hqn
           · rw [hq0]
             have dz : decide ((0 : Int) < ((0 : Nat) : Int)) = false := rfl
             have dp : decide (p = 0) = true := decide_eq_true hE.2
             simp only [go_sem,zaa,Nat.reduceAdd,Nat.reduceSub,Nat.reduceMul,Int.reduceToNat,reduceCtorEq,↓reduceIte,Int.reducePow,Nat.reducePow,Int.reduceMod,Nat.reduceLeDiff,Int.reduceLE,Int.reduceNe,Int.reduceEq,Nat.reduceEqDiff,Nat.reduceLT,Nat.reduceBEq,tyF,zap,ty,zao,hlp,hlr,d3,hs1,e1,dz,dp,Int.toNat_natCast,Bool.not_true,Bool.not_false]
             try repeat (refine And.intro (by omega) ?_)
             refine ⟨es.length - (i + 1),_,by omega,zae [0,1,2,3,4] rfl rfl rfl ?_ ?_,i + 1,n,rfl,by omega,hn,?_,rfl⟩
             · simp only [ssT,zaf,zag,setSlot,gOf,AV.ren,renL,Blk.ren,Ax.look,Ax.put,reduceCtorEq,↓reduceIte,Nat.reduceEqDiff,Nat.reduceLT,Nat.reduceAdd,List.length_append,List.length_cons,List.length_nil,Option.some.injEq]
             · simp only [ssT,zaf,zag,setSlot,gOf,AV.ren,renL,Blk.ren,Ax.look,Ax.put,reduceCtorEq,↓reduceIte,Nat.reduceEqDiff,Nat.reduceLT,Nat.reduceAdd,List.length_append,List.length_cons,List.length_nil,Option.some.injEq]
             · rw [hd]; unfold cl1; rw [hB,if_pos hE]; rfl
         · have hyl := hsm _ hym
           simp only at hyl
           have hyr := zan ys
           have x2 : ∃ k : List Rec,ys.map rv = k.map rv := ⟨ys,rfl⟩
           rcases D with ⟨y1,hE⟩ | ⟨y1,D⟩
           · have hqn : qs = [] := List.eq_nil_of_length_eq_zero hE.1
             have hq0 : qs.length = 0 := by rw [hqn]; rfl
             simp (config := { maxSteps := 1000000 }) only [go_sem,zaa,Nat.reduceAdd,Nat.reduceSub,Nat.reduceMul,Int.reduceToNat,reduceCtorEq,↓reduceIte,Int.reducePow,Nat.reducePow,Int.reduceMod,Nat.reduceLeDiff,Int.reduceLE,Int.reduceNe,Int.reduceEq,Nat.reduceEqDiff,Nat.reduceLT,Nat.reduceBEq,tyF,zap,ty,zao,zcj,hcx,hlp,hlc,hlr,d3,hs1,dn,hs2,hyl,hyr,y1,dd0,x1,x2,hr1,hL1,fillS,Int.toNat_natCast,Bool.not_true,Bool.not_false,List.length_map,zan]
             try repeat (refine And.intro (by first | omega | exact ⟨_,rfl⟩) ?_)
             refine zbc (es := es) (f := f) (f' := f') (FF := true) (now := now) (g := g) (BB := 0) (CC := 0) (PP := 0) (EE := 0) (SSS := 0) (C := C) (M := M) (n := n) (i := i) (rs := rs) (qs := qs) (K := K) hil h16 m1 hs1 hq hgoes (zae [0,1,2,3,4,37] rfl rfl rfl ?_ ?_) ?_
             · simp only [ssT,zaf,zag,setSlot,gOf,AV.ren,renL,Blk.ren,Ax.look,Ax.put,reduceCtorEq,↓reduceIte,Nat.reduceEqDiff,Nat.reduceLT,Nat.reduceAdd,List.length_append,List.length_cons,List.length_nil,Option.some.injEq]; try simp
             · simp only [ssT,zaf,zag,setSlot,gOf,AV.ren,renL,Blk.ren,Ax.look,Ax.put,reduceCtorEq,↓reduceIte,Nat.reduceEqDiff,Nat.reduceLT,Nat.reduceAdd,List.length_append,List.length_cons,List.length_nil,Option.some.injEq]; try simp
               try exact hqn
             · rw [hq0]
               have dz : decide ((0 : Int) < ((0 : Nat) : Int)) = false := rfl
               have dp : decide (p = 0) = true := decide_eq_true hE.2
               simp only [go_sem,zaa,Nat.reduceAdd,Nat.reduceSub,Nat.reduceMul,Int.reduceToNat,reduceCtorEq,↓reduceIte,Int.reducePow,Nat.reducePow,Int.reduceMod,Nat.reduceLeDiff,Int.reduceLE,Int.reduceNe,Int.reduceEq,Nat.reduceEqDiff,Nat.reduceLT,Nat.reduceBEq,tyF,zap,ty,zao,hlp,hlr,d3,hs1,e1,dz,dp,Int.toNat_natCast,Bool.not_true,Bool.not_false]
               try repeat (refine And.intro (by omega) ?_)
               refine ⟨es.length - (i + 1),_,by omega,zae [0,1,2,3,4] rfl rfl rfl ?_ ?_,i + 1,n,rfl,by omega,hn,?_,rfl⟩
               · simp only [ssT,zaf,zag,setSlot,gOf,AV.ren,renL,Blk.ren,Ax.look,Ax.put,reduceCtorEq,↓reduceIte,Nat.reduceEqDiff,Nat.reduceLT,Nat.reduceAdd,List.length_append,List.length_cons,List.length_nil,Option.some.injEq]
               · simp only [ssT,zaf,zag,setSlot,gOf,AV.ren,renL,Blk.ren,Ax.look,Ax.put,reduceCtorEq,↓reduceIte,Nat.reduceEqDiff,Nat.reduceLT,Nat.reduceAdd,List.length_append,List.length_cons,List.length_nil,Option.some.injEq]
               · rw [hd]; unfold cl1; rw [hB,if_pos hE]; rfl
           rcases D with ⟨y2,hE⟩ | ⟨y2,D⟩
           · have hqn : qs = [] := List.eq_nil_of_length_eq_zero hE.1
             have hq0 : qs.length = 0 := by rw [hqn]; rfl
             simp (config := { maxSteps := 1000000 }) only [go_sem,zaa,Nat.reduceAdd,Nat.reduceSub,Nat.reduceMul,Int.reduceToNat,reduceCtorEq,↓reduceIte,Int.reducePow,Nat.reducePow,Int.reduceMod,Nat.reduceLeDiff,Int.reduceLE,Int.reduceNe,Int.reduceEq,Nat.reduceEqDiff,Nat.reduceLT,Nat.reduceBEq,tyF,zap,ty,zao,zcj,hcx,hlp,hlc,hlr,d3,hs1,dn,hs2,hyl,hyr,y1,y2,dd0,x1,x2,hr1,hL1,fillS,Int.toNat_natCast,Bool.not_true,Bool.not_false,List.length_map,zan]
             try repeat (refine And.intro (by first | omega | exact ⟨_,rfl⟩) ?_)
             refine zbc (es := es) (f := f) (f' := f') (FF := true) (now := now) (g := g) (BB := 0) (CC := 0) (PP := 0) (EE := 0) (SSS := 0) (C := C) (M := M) (n := n) (i := i) (rs := rs) (qs := qs) (K := K) hil h16 m1 hs1 hq hgoes (zae [0,1,2,3,4,37] rfl rfl rfl ?_ ?_) ?_
             · simp only [ssT,zaf,zag,setSlot,gOf,AV.ren,renL,Blk.ren,Ax.look,Ax.put,reduceCtorEq,↓reduceIte,Nat.reduceEqDiff,Nat.reduceLT,Nat.reduceAdd,List.length_append,List.length_cons,List.length_nil,Option.some.injEq]; try simp
             · simp only [ssT,zaf,zag,setSlot,gOf,AV.ren,renL,Blk.ren,Ax.look,Ax.put,reduceCtorEq,↓reduceIte,Nat.reduceEqDiff,Nat.reduceLT,Nat.reduceAdd,List.length_append,List.length_cons,List.length_nil,Option.some.injEq]; try simp
               try exact hqn
             · rw [hq0]
               have dz : decide ((0 : Int) < ((0 : Nat) : Int)) = false := rfl
               have dp : decide (p = 0) = true := decide_eq_true hE.2
               simp only [go_sem,zaa,Nat.reduceAdd,Nat.reduceSub,Nat.reduceMul,Int.reduceToNat,reduceCtorEq,↓reduceIte,Int.reducePow,Nat.reducePow,Int.reduceMod,Nat.reduceLeDiff,Int.reduceLE,Int.reduceNe,Int.reduceEq,Nat.reduceEqDiff,Nat.reduceLT,Nat.reduceBEq,tyF,zap,ty,zao,hlp,hlr,d3,hs1,e1,dz,dp,Int.toNat_natCast,Bool.not_true,Bool.not_false]
               try repeat (refine And.intro (by omega) ?_)
               refine ⟨es.length - (i + 1),_,by omega,zae [0,1,2,3,4] rfl rfl rfl ?_ ?_,i + 1,n,rfl,by omega,hn,?_,rfl⟩
               · simp only [ssT,zaf,zag,setSlot,gOf,AV.ren,renL,Blk.ren,Ax.look,Ax.put,reduceCtorEq,↓reduceIte,Nat.reduceEqDiff,Nat.reduceLT,Nat.reduceAdd,List.length_append,List.length_cons,List.length_nil,Option.some.injEq]
               · simp only [ssT,zaf,zag,setSlot,gOf,AV.ren,renL,Blk.ren,Ax.look,Ax.put,reduceCtorEq,↓reduceIte,Nat.reduceEqDiff,Nat.reduceLT,Nat.reduceAdd,List.length_append,List.length_cons,List.length_nil,Option.some.injEq]
               · rw [hd]; unfold cl1; rw [hB,if_pos hE]; rfl
           rcases D with ⟨y3,hE⟩ | ⟨y3,D⟩
           · have hqn : qs = [] := List.eq_nil_of_length_eq_zero hE.1
             have hq0 : qs.length = 0 := by rw [hqn]; rfl
             simp (config := { maxSteps := 1000000 }) only [go_sem,zaa,Nat.reduceAdd,Nat.reduceSub,Nat.reduceMul,Int.reduceToNat,reduceCtorEq,↓reduceIte,Int.reducePow,Nat.reducePow,Int.reduceMod,Nat.reduceLeDiff,Int.reduceLE,Int.reduceNe,Int.reduceEq,Nat.reduceEqDiff,Nat.reduceLT,Nat.reduceBEq,tyF,zap,ty,zao,zcj,hcx,hlp,hlc,hlr,d3,hs1,dn,hs2,hyl,hyr,y1,y2,y3,dd0,x1,x2,hr1,hL1,fillS,Int.toNat_natCast,Bool.not_true,Bool.not_false,List.length_map,zan]
             try repeat (refine And.intro (by first | omega | exact ⟨_,rfl⟩) ?_)
             refine zbc (es := es) (f := f) (f' := f') (FF := true) (now := now) (g := g) (BB := 0) (CC := 0) (PP := 0) (EE := 0) (SSS := 0) (C := C) (M := M) (n := n) (i := i) (rs := rs) (qs := qs) (K := K) hil h16 m1 hs1 hq hgoes (zae [0,1,2,3,4,37] rfl rfl rfl ?_ ?_) ?_
             · simp only [ssT,zaf,zag,setSlot,gOf,AV.ren,renL,Blk.ren,Ax.look,Ax.put,reduceCtorEq,↓reduceIte,Nat.reduceEqDiff,Nat.reduceLT,Nat.reduceAdd,List.length_append,List.length_cons,List.length_nil,Option.some.injEq]; try simp
             · simp only [ssT,zaf,zag,setSlot,gOf,AV.ren,renL,Blk.ren,Ax.look,Ax.put,reduceCtorEq,↓reduceIte,Nat.reduceEqDiff,Nat.reduceLT,Nat.reduceAdd,List.length_append,List.length_cons,List.length_nil,Option.some.injEq]; try simp
               try exact hqn
             · rw [hq0]
               have dz : decide ((0 : Int) < ((0 : Nat) : Int)) = false := rfl
               have dp : decide (p = 0) = true := decide_eq_true hE.2
               simp only [go_sem,zaa,Nat.reduceAdd,Nat.reduceSub,Nat.reduceMul,Int.reduceToNat,reduceCtorEq,↓reduceIte,Int.reducePow,Nat.reducePow,Int.reduceMod,Nat.reduceLeDiff,Int.reduceLE,Int.reduceNe,Int.reduceEq,Nat.reduceEqDiff,Nat.reduceLT,Nat.reduceBEq,tyF,zap,ty,zao,hlp,hlr,d3,hs1,e1,dz,dp,Int.toNat_natCast,Bool.not_true,Bool.not_false]
               try repeat (refine And.intro (by omega) ?_)
               refine ⟨es.length - (i + 1),_,by omega,zae [0,1,2,3,4] rfl rfl rfl ?_ ?_,i + 1,n,rfl,by omega,hn,?_,rfl⟩
               · simp only [ssT,zaf,zag,setSlot,gOf,AV.ren,renL,Blk.ren,Ax.look,Ax.put,reduceCtorEq,↓reduceIte,Nat.reduceEqDiff,Nat.reduceLT,Nat.reduceAdd,List.length_append,List.length_cons,List.length_nil,Option.some.injEq]
               · simp only [ssT,zaf,zag,setSlot,gOf,AV.ren,renL,Blk.ren,Ax.look,Ax.put,reduceCtorEq,↓reduceIte,Nat.reduceEqDiff,Nat.reduceLT,Nat.reduceAdd,List.length_append,List.length_cons,List.length_nil,Option.some.injEq]
               · rw [hd]; unfold cl1; rw [hB,if_pos hE]; rfl
           rcases D with ⟨y4,hE⟩ | ⟨y4,D⟩
           · have hqn : qs = [] := List.eq_nil_of_length_eq_zero hE.1
             have hq0 : qs.length = 0 := by rw [hqn]; rfl
             simp (config := { maxSteps := 1000000 }) only [go_sem,zaa,Nat.reduceAdd,Nat.reduceSub,Nat.reduceMul,Int.reduceToNat,reduceCtorEq,↓reduceIte,Int.reducePow,Nat.reducePow,Int.reduceMod,Nat.reduceLeDiff,Int.reduceLE,Int.reduceNe,Int.reduceEq,Nat.reduceEqDiff,Nat.reduceLT,Nat.reduceBEq,tyF,zap,ty,zao,zcj,hcx,hlp,hlc,hlr,d3,hs1,dn,hs2,hyl,hyr,y1,y2,y3,y4,dd0,x1,x2,hr1,hL1,fillS,Int.toNat_natCast,Bool.not_true,Bool.not_false,List.length_map,zan]
             try repeat (refine And.intro (by first | omega | exact ⟨_,rfl⟩) ?_)
             refine zbc (es := es) (f := f) (f' := f') (FF := true) (now := now) (g := g) (BB := 0) (CC := 0) (PP := 0) (EE := 0) (SSS := 0) (C := C) (M := M) (n := n) (i := i) (rs := rs) (qs := qs) (K := K) hil h16 m1 hs1 hq hgoes (zae [0,1,2,3,4,37] rfl rfl rfl ?_ ?_) ?_
             · simp only [ssT,zaf,zag,setSlot,gOf,AV.ren,renL,Blk.ren,Ax.look,Ax.put,reduceCtorEq,↓reduceIte,Nat.reduceEqDiff,Nat.reduceLT,Nat.reduceAdd,List.length_append,List.length_cons,List.length_nil,Option.some.injEq]; try simp
             · simp only [ssT,zaf,zag,setSlot,gOf,AV.ren,renL,Blk.ren,Ax.look,Ax.put,reduceCtorEq,↓reduceIte,Nat.reduceEqDiff,Nat.reduceLT,Nat.reduceAdd,List.length_append,List.length_cons,List.length_nil,Option.some.injEq]; try simp
               try exact hqn
             · rw [hq0]
               have dz : decide ((0 : Int) < ((0 : Nat) : Int)) = false := rfl
               have dp : decide (p = 0) = true := decide_eq_true hE.2
               simp only [go_sem,zaa,Nat.reduceAdd,Nat.reduceSub,Nat.reduceMul,Int.reduceToNat,reduceCtorEq,↓reduceIte,Int.reducePow,Nat.reducePow,Int.reduceMod,Nat.reduceLeDiff,Int.reduceLE,Int.reduceNe,Int.reduceEq,Nat.reduceEqDiff,Nat.reduceLT,Nat.reduceBEq,tyF,zap,ty,zao,hlp,hlr,d3,hs1,e1,dz,dp,Int.toNat_natCast,Bool.not_true,Bool.not_false]
               try repeat (refine And.intro (by omega) ?_)
               refine ⟨es.length - (i + 1),_,by omega,zae [0,1,2,3,4] rfl rfl rfl ?_ ?_,i + 1,n,rfl,by omega,hn,?_,rfl⟩
               · simp only [ssT,zaf,zag,setSlot,gOf,AV.ren,renL,Blk.ren,Ax.look,Ax.put,reduceCtorEq,↓reduceIte,Nat.reduceEqDiff,Nat.reduceLT,Nat.reduceAdd,List.length_append,List.length_cons,List.length_nil,Option.some.injEq]
               · simp only [ssT,zaf,zag,setSlot,gOf,AV.ren,renL,Blk.ren,Ax.look,Ax.put,reduceCtorEq,↓reduceIte,Nat.reduceEqDiff,Nat.reduceLT,Nat.reduceAdd,List.length_append,List.length_cons,List.length_nil,Option.some.injEq]
               · rw [hd]; unfold cl1; rw [hB,if_pos hE]; rfl
           rcases D with ⟨y5,hE⟩ | ⟨y5,D⟩
           · have hqn : qs = [] := List.eq_nil_of_length_eq_zero hE.1
             have hq0 : qs.length = 0 := by rw [hqn]; rfl
             simp (config := { maxSteps := 1000000 }) only [go_sem,zaa,Nat.reduceAdd,Nat.reduceSub,Nat.reduceMul,Int.reduceToNat,reduceCtorEq,↓reduceIte,Int.reducePow,Nat.reducePow,Int.reduceMod,Nat.reduceLeDiff,Int.reduceLE,Int.reduceNe,Int.reduceEq,Nat.reduceEqDiff,Nat.reduceLT,Nat.reduceBEq,tyF,zap,ty,zao,zcj,hcx,hlp,hlc,hlr,d3,hs1,dn,hs2,hyl,hyr,y1,y2,y3,y4,y5,dd0,x1,x2,hr1,hL1,fillS,Int.toNat_natCast,Bool.not_true,Bool.not_false,List.length_map,zan]
             try repeat (refine And.intro (by first | omega | exact ⟨_,rfl⟩) ?_)
             refine zbc (es := es) (f := f) (f' := f') (FF := true) (now := now) (g := g) (BB := 0) (CC := 0) (PP := 0) (EE := 0) (SSS := 0) (C := C) (M := M) (n := n) (i := i) (rs := rs) (qs := qs) (K := K) hil h16 m1 hs1 hq hgoes (zae [0,1,2,3,4,37] rfl rfl rfl ?_ ?_) ?_
             · simp only [ssT,zaf,zag,setSlot,gOf,AV.ren,renL,Blk.ren,Ax.look,Ax.put,reduceCtorEq,↓reduceIte,Nat.reduceEqDiff,Nat.reduceLT,Nat.reduceAdd,List.length_append,List.length_cons,List.length_nil,Option.some.injEq]; try simp
             · simp only [ssT,zaf,zag,setSlot,gOf,AV.ren,renL,Blk.ren,Ax.look,Ax.put,reduceCtorEq,↓reduceIte,Nat.reduceEqDiff,Nat.reduceLT,Nat.reduceAdd,List.length_append,List.length_cons,List.length_nil,Option.some.injEq]; try simp
               try exact hqn
             · rw [hq0]
               have dz : decide ((0 : Int) < ((0 : Nat) : Int)) = false := rfl
               have dp : decide (p = 0) = true := decide_eq_true hE.2
               simp only [go_sem,zaa,Nat.reduceAdd,Nat.reduceSub,Nat.reduceMul,Int.reduceToNat,reduceCtorEq,↓reduceIte,Int.reducePow,Nat.reducePow,Int.reduceMod,Nat.reduceLeDiff,Int.reduceLE,Int.reduceNe,Int.reduceEq,Nat.reduceEqDiff,Nat.reduceLT,Nat.reduceBEq,tyF,zap,ty,zao,hlp,hlr,d3,hs1,e1,dz,dp,Int.toNat_natCast,Bool.not_true,Bool.not_false]
               try repeat (refine And.intro (by omega) ?_)
               refine ⟨es.length - (i + 1),_,by omega,zae [0,1,2,3,4] rfl rfl rfl ?_ ?_,i + 1,n,rfl,by omega,hn,?_,rfl⟩
               · simp only [ssT,zaf,zag,setSlot,gOf,AV.ren,renL,Blk.ren,Ax.look,Ax.put,reduceCtorEq,↓reduceIte,Nat.reduceEqDiff,Nat.reduceLT,Nat.reduceAdd,List.length_append,List.length_cons,List.length_nil,Option.some.injEq]
               · simp only [ssT,zaf,zag,setSlot,gOf,AV.ren,renL,Blk.ren,Ax.look,Ax.put,reduceCtorEq,↓reduceIte,Nat.reduceEqDiff,Nat.reduceLT,Nat.reduceAdd,List.length_append,List.length_cons,List.length_nil,Option.some.injEq]
               · rw [hd]; unfold cl1; rw [hB,if_pos hE]; rfl
           rcases D with ⟨y6,hE⟩ | ⟨y6,D⟩
           · have hqn : qs = [] := List.eq_nil_of_length_eq_zero hE.1
             have hq0 : qs.length = 0 := by rw [hqn]; rfl
             simp (config := { maxSteps := 1000000 }) only [go_sem,zaa,Nat.reduceAdd,Nat.reduceSub,Nat.reduceMul,Int.reduceToNat,reduceCtorEq,↓reduceIte,Int.reducePow,Nat.reducePow,Int.reduceMod,Nat.reduceLeDiff,Int.reduceLE,Int.reduceNe,Int.reduceEq,Nat.reduceEqDiff,Nat.reduceLT,Nat.reduceBEq,tyF,zap,ty,zao,zcj,hcx,hlp,hlc,hlr,d3,hs1,dn,hs2,hyl,hyr,y1,y2,y3,y4,y5,y6,dd0,x1,x2,hr1,hL1,fillS,Int.toNat_natCast,Bool.not_true,Bool.not_false,List.length_map,zan]
             try repeat (refine And.intro (by first | omega | exact ⟨_,rfl⟩) ?_)
             refine zbc (es := es) (f := f) (f' := f') (FF := true) (now := now) (g := g) (BB := 0) (CC := 0) (PP := 0) (EE := 0) (SSS := 0) (C := C) (M := M) (n := n) (i := i) (rs := rs) (qs := qs) (K := K) hil h16 m1 hs1 hq hgoes (zae [0,1,2,3,4,37] rfl rfl rfl ?_ ?_) ?_
             · simp only [ssT,zaf,zag,setSlot,gOf,AV.ren,renL,Blk.ren,Ax.look,Ax.put,reduceCtorEq,↓reduceIte,Nat.reduceEqDiff,Nat.reduceLT,Nat.reduceAdd,List.length_append,List.length_cons,List.length_nil,Option.some.injEq]; try simp
             · simp only [ssT,zaf,zag,setSlot,gOf,AV.ren,renL,Blk.ren,Ax.look,Ax.put,reduceCtorEq,↓reduceIte,Nat.reduceEqDiff,Nat.reduceLT,Nat.reduceAdd,List.length_append,List.length_cons,List.length_nil,Option.some.injEq]; try simp
               try exact hqn
             · rw [hq0]
               have dz : decide ((0 : Int) < ((0 : Nat) : Int)) = false := rfl
               have dp : decide (p = 0) = true := decide_eq_true hE.2
               simp only [go_sem,zaa,Nat.reduceAdd,Nat.reduceSub,Nat.reduceMul,Int.reduceToNat,reduceCtorEq,↓reduceIte,Int.reducePow,Nat.reducePow,Int.reduceMod,Nat.reduceLeDiff,Int.reduceLE,Int.reduceNe,Int.reduceEq,Nat.reduceEqDiff,Nat.reduceLT,Nat.reduceBEq,tyF,zap,ty,zao,hlp,hlr,d3,hs1,e1,dz,dp,Int.toNat_natCast,Bool.not_true,Bool.not_false]
               try repeat (refine And.intro (by omega) ?_)
               refine ⟨es.length - (i + 1),_,by omega,zae [0,1,2,3,4] rfl rfl rfl ?_ ?_,i + 1,n,rfl,by omega,hn,?_,rfl⟩
               · simp only [ssT,zaf,zag,setSlot,gOf,AV.ren,renL,Blk.ren,Ax.look,Ax.put,reduceCtorEq,↓reduceIte,Nat.reduceEqDiff,Nat.reduceLT,Nat.reduceAdd,List.length_append,List.length_cons,List.length_nil,Option.some.injEq]
               · simp only [ssT,zaf,zag,setSlot,gOf,AV.ren,renL,Blk.ren,Ax.look,Ax.put,reduceCtorEq,↓reduceIte,Nat.reduceEqDiff,Nat.reduceLT,Nat.reduceAdd,List.length_append,List.length_cons,List.length_nil,Option.some.injEq]
               · rw [hd]; unfold cl1; rw [hB,if_pos hE]; rfl
           rcases D with ⟨y7,y8,hE⟩ | ⟨y7,hyq,hE⟩ | ⟨y7,y8,hyq,hE⟩
           · have hqn : qs = [] := List.eq_nil_of_length_eq_zero hE.1
             have hq0 : qs.length = 0 := by rw [hqn]; rfl
             simp (config := { maxSteps := 1000000 }) only [go_sem,zaa,Nat.reduceAdd,Nat.reduceSub,Nat.reduceMul,Int.reduceToNat,reduceCtorEq,↓reduceIte,Int.reducePow,Nat.reducePow,Int.reduceMod,Nat.reduceLeDiff,Int.reduceLE,Int.reduceNe,Int.reduceEq,Nat.reduceEqDiff,Nat.reduceLT,Nat.reduceBEq,tyF,zap,ty,zao,zcj,hcx,hlp,hlc,hlr,d3,hs1,dn,hs2,hyl,hyr,y1,y2,y3,y4,y5,y6,y7,y8,dd0,x1,x2,hr1,hL1,fillS,Int.toNat_natCast,Bool.not_true,Bool.not_false,List.length_map,zan]
             try repeat (refine And.intro (by first | omega | exact ⟨_,rfl⟩) ?_)
             refine zbc (es := es) (f := f) (f' := f') (FF := true) (now := now) (g := g) (BB := 0) (CC := 0) (PP := 0) (EE := 0) (SSS := 0) (C := C) (M := M) (n := n) (i := i) (rs := rs) (qs := qs) (K := K) hil h16 m1 hs1 hq hgoes (zae [0,1,2,3,4,37] rfl rfl rfl ?_ ?_) ?_
             · simp only [ssT,zaf,zag,setSlot,gOf,AV.ren,renL,Blk.ren,Ax.look,Ax.put,reduceCtorEq,↓reduceIte,Nat.reduceEqDiff,Nat.reduceLT,Nat.reduceAdd,List.length_append,List.length_cons,List.length_nil,Option.some.injEq]; try simp
             · simp only [ssT,zaf,zag,setSlot,gOf,AV.ren,renL,Blk.ren,Ax.look,Ax.put,reduceCtorEq,↓reduceIte,Nat.reduceEqDiff,Nat.reduceLT,Nat.reduceAdd,List.length_append,List.length_cons,List.length_nil,Option.some.injEq]; try simp
               try exact hqn
             · rw [hq0]
               have dz : decide ((0 : Int) < ((0 : Nat) : Int)) = false := rfl
               have dp : decide (p = 0) = true := decide_eq_true hE.2
               simp only [go_sem,zaa,Nat.reduceAdd,Nat.reduceSub,Nat.reduceMul,Int.reduceToNat,reduceCtorEq,↓reduceIte,Int.reducePow,Nat.reducePow,Int.reduceMod,Nat.reduceLeDiff,Int.reduceLE,Int.reduceNe,Int.reduceEq,Nat.reduceEqDiff,Nat.reduceLT,Nat.reduceBEq,tyF,zap,ty,zao,hlp,hlr,d3,hs1,e1,dz,dp,Int.toNat_natCast,Bool.not_true,Bool.not_false]
               try repeat (refine And.intro (by omega) ?_)
               refine ⟨es.length - (i + 1),_,by omega,zae [0,1,2,3,4] rfl rfl rfl ?_ ?_,i + 1,n,rfl,by omega,hn,?_,rfl⟩
               · simp only [ssT,zaf,zag,setSlot,gOf,AV.ren,renL,Blk.ren,Ax.look,Ax.put,reduceCtorEq,↓reduceIte,Nat.reduceEqDiff,Nat.reduceLT,Nat.reduceAdd,List.length_append,List.length_cons,List.length_nil,Option.some.injEq]
               · simp only [ssT,zaf,zag,setSlot,gOf,AV.ren,renL,Blk.ren,Ax.look,Ax.put,reduceCtorEq,↓reduceIte,Nat.reduceEqDiff,Nat.reduceLT,Nat.reduceAdd,List.length_append,List.length_cons,List.length_nil,Option.some.injEq]
               · rw [hd]; unfold cl1; rw [hB,if_pos hE]; rfl
           · obtain rfl : qs = ys := hyq.symm
             simp (config := { maxSteps := 1000000 }) only [go_sem,zaa,Nat.reduceAdd,Nat.reduceSub,Nat.reduceMul,Int.reduceToNat,reduceCtorEq,↓reduceIte,Int.reducePow,Nat.reducePow,Int.reduceMod,Nat.reduceLeDiff,Int.reduceLE,Int.reduceNe,Int.reduceEq,Nat.reduceEqDiff,Nat.reduceLT,Nat.reduceBEq,tyF,zap,ty,zao,zcj,hcx,hlp,hlc,hlr,d3,hs1,dn,hs2,hyl,hyr,y1,y2,y3,y4,y5,y6,y7,dd0,x1,x2,hr1,hL1,fillS,Int.toNat_natCast,Bool.not_true,Bool.not_false,List.length_map,zan]
             try repeat (refine And.intro (by first | omega | exact ⟨_,rfl⟩) ?_)
             refine zbc (es := es) (f := f) (f' := f') (FF := false) (now := now) (g := g) (BB := b2) (CC := c2) (PP := p2) (EE := e2') (SSS := s2) (C := C) (M := M) (n := n) (i := i) (rs := rs) (qs := qs) (K := K) hil h16 m1 hs1 hq hgoes (zae [0,1,2,3,4,37] rfl rfl rfl ?_ ?_) ?_
             · simp only [ssT,zaf,zag,setSlot,gOf,AV.ren,renL,Blk.ren,Ax.look,Ax.put,reduceCtorEq,↓reduceIte,Nat.reduceEqDiff,Nat.reduceLT,Nat.reduceAdd,List.length_append,List.length_cons,List.length_nil,Option.some.injEq]; try simp
             · simp only [ssT,zaf,zag,setSlot,gOf,AV.ren,renL,Blk.ren,Ax.look,Ax.put,reduceCtorEq,↓reduceIte,Nat.reduceEqDiff,Nat.reduceLT,Nat.reduceAdd,List.length_append,List.length_cons,List.length_nil,Option.some.injEq]; try simp
             · simp only [go_sem,zaa,Nat.reduceAdd,Nat.reduceSub,Nat.reduceMul,Int.reduceToNat,reduceCtorEq,↓reduceIte,Int.reducePow,Nat.reducePow,Int.reduceMod,Nat.reduceLeDiff,Int.reduceLE,Int.reduceNe,Int.reduceEq,Nat.reduceEqDiff,Nat.reduceLT,Nat.reduceBEq,tyF,zap,ty,zao,hlp,hlr,d3,hs1,e1,en,y7,Int.toNat_natCast,Bool.not_true,Bool.not_false]
               try repeat (refine And.intro (by omega) ?_)
               refine ⟨es.length - (i + 1),_,by omega,zae [0,1,2,3,4] rfl rfl rfl ?_ ?_,i + 1,n + 1,rfl,by omega,by omega,?_,rfl⟩
               · simp only [ssT,zaf,zag,setSlot,gOf,AV.ren,renL,Blk.ren,Ax.look,Ax.put,reduceCtorEq,↓reduceIte,Nat.reduceEqDiff,Nat.reduceLT,Nat.reduceAdd,List.length_append,List.length_cons,List.length_nil,Option.some.injEq]
               · simp only [ssT,zaf,zag,setSlot,gOf,AV.ren,renL,Blk.ren,Ax.look,Ax.put,reduceCtorEq,↓reduceIte,Nat.reduceEqDiff,Nat.reduceLT,Nat.reduceAdd,List.length_append,List.length_cons,List.length_nil,Option.some.injEq]
               · have h9 : C.drop (n + 1) = (C.drop n).drop 1 := by rw [List.drop_drop]
                 rw [h9,hd]; unfold cl1; rw [hB,if_neg hE]; rfl
           · obtain rfl : qs = ys := hyq.symm
             simp (config := { maxSteps := 1000000 }) only [go_sem,zaa,Nat.reduceAdd,Nat.reduceSub,Nat.reduceMul,Int.reduceToNat,reduceCtorEq,↓reduceIte,Int.reducePow,Nat.reducePow,Int.reduceMod,Nat.reduceLeDiff,Int.reduceLE,Int.reduceNe,Int.reduceEq,Nat.reduceEqDiff,Nat.reduceLT,Nat.reduceBEq,tyF,zap,ty,zao,zcj,hcx,hlp,hlc,hlr,d3,hs1,dn,hs2,hyl,hyr,y1,y2,y3,y4,y5,y6,y7,y8,dd0,x1,x2,hr1,hL1,fillS,Int.toNat_natCast,Bool.not_true,Bool.not_false,List.length_map,zan]
             try repeat (refine And.intro (by first | omega | exact ⟨_,rfl⟩) ?_)
             refine zbc (es := es) (f := f) (f' := f') (FF := false) (now := now) (g := g) (BB := b2) (CC := c2) (PP := p2) (EE := e2') (SSS := s2) (C := C) (M := M) (n := n) (i := i) (rs := rs) (qs := qs) (K := K) hil h16 m1 hs1 hq hgoes (zae [0,1,2,3,4,37] rfl rfl rfl ?_ ?_) ?_
             · simp only [ssT,zaf,zag,setSlot,gOf,AV.ren,renL,Blk.ren,Ax.look,Ax.put,reduceCtorEq,↓reduceIte,Nat.reduceEqDiff,Nat.reduceLT,Nat.reduceAdd,List.length_append,List.length_cons,List.length_nil,Option.some.injEq]; try simp
             · simp only [ssT,zaf,zag,setSlot,gOf,AV.ren,renL,Blk.ren,Ax.look,Ax.put,reduceCtorEq,↓reduceIte,Nat.reduceEqDiff,Nat.reduceLT,Nat.reduceAdd,List.length_append,List.length_cons,List.length_nil,Option.some.injEq]; try simp
             · simp only [go_sem,zaa,Nat.reduceAdd,Nat.reduceSub,Nat.reduceMul,Int.reduceToNat,reduceCtorEq,↓reduceIte,Int.reducePow,Nat.reducePow,Int.reduceMod,Nat.reduceLeDiff,Int.reduceLE,Int.reduceNe,Int.reduceEq,Nat.reduceEqDiff,Nat.reduceLT,Nat.reduceBEq,tyF,zap,ty,zao,hlp,hlr,d3,hs1,e1,en,y7,y8,Int.toNat_natCast,Bool.not_true,Bool.not_false]
               try repeat (refine And.intro (by omega) ?_)
               refine ⟨es.length - (i + 1),_,by omega,zae [0,1,2,3,4] rfl rfl rfl ?_ ?_,i + 1,n + 1,rfl,by omega,by omega,?_,rfl⟩
               · simp only [ssT,zaf,zag,setSlot,gOf,AV.ren,renL,Blk.ren,Ax.look,Ax.put,reduceCtorEq,↓reduceIte,Nat.reduceEqDiff,Nat.reduceLT,Nat.reduceAdd,List.length_append,List.length_cons,List.length_nil,Option.some.injEq]
               · simp only [ssT,zaf,zag,setSlot,gOf,AV.ren,renL,Blk.ren,Ax.look,Ax.put,reduceCtorEq,↓reduceIte,Nat.reduceEqDiff,Nat.reduceLT,Nat.reduceAdd,List.length_append,List.length_cons,List.length_nil,Option.some.injEq]
               · have h9 : C.drop (n + 1) = (C.drop n).drop 1 := by rw [List.drop_drop]
                 rw [h9,hd]; unfold cl1; rw [hB,if_neg hE]; rfl
       · have d3 : decide ((i : Int) < es.length) = false := decide_eq_false (by omega)
         have hdr : l.drop i = [] := List.drop_eq_nil_of_le (by omega)
         rw [hdr] at hd
         have hnl : n = C.length := by
           have h5 : C.drop n = [] := hd
           have := List.drop_eq_nil_iff.1 h5
           omega
         have dn : decide ((n : Int) = C.length) = true := decide_eq_true (by omega)
         simp only [go_sem,zaa,Nat.reduceAdd,Nat.reduceSub,Nat.reduceMul,Int.reduceToNat,reduceCtorEq,↓reduceIte,Int.reducePow,Nat.reducePow,Int.reduceMod,Nat.reduceLeDiff,Int.reduceLE,Int.reduceNe,Int.reduceEq,Nat.reduceEqDiff,Nat.reduceLT,Nat.reduceBEq,tyF,zap,ty,zao,yesS,hlp,hlc,d3,dn]
         try omega
   · have d0 : decide (lgt17 (xs.map ubat)) = false := decide_eq_false hg
     have hcz : ∀ h,coe (zap ty) 22 (.sg 6 xs h) = .sg 6 xs h := fun h => by cases xs <;> rfl
     simp only [go_sem,zaa,Nat.reduceAdd,Nat.reduceSub,Nat.reduceMul,Int.reduceToNat,reduceCtorEq,↓reduceIte,Int.reducePow,Nat.reducePow,Int.reduceMod,Nat.reduceLeDiff,Int.reduceLE,Int.reduceNe,Int.reduceEq,Nat.reduceEqDiff,Nat.reduceLT,Nat.reduceBEq,tyF,zap,ty,zao,lgt17S,yesS,hL,hb,hcz,d0,Bool.not_false]
 · exact hp.elim
end
theorem lstay_dom {x y z : AV} (hx : Arg ty 8 22 x) (hy : Arg ty 8 3 y) (hz : Arg ty 8 3 z) : (lstayS [x,y,z] []).p ∧ (lstayS [x,y,z] []).x = .w (.bool true) := by
 obtain ⟨xs,f,rfl,h1,h2⟩ := arg_batsD (j := 2) hx
 obtain ⟨o,rfl⟩ := arg_intD hy
 obtain ⟨m,rfl⟩ := arg_intD hz
 exact ⟨⟨h1,h2⟩,rfl⟩
end Go.Proofs.Ytckbejanaebjkaa
