/- What the proofs of this seat stand on; it asks nothing. -/
import Derived.Test.YtmedjkjoannbmaaZa18
set_option linter.unusedSimpArgs false
set_option linter.unusedVariables false
namespace Go.Proofs.Ytmedjkjoannbmaa
namespace Ax
open Go.RowKit
section rules
variable {S : zaw} {T : zah} {Q : Exit → ASt → Prop} {σ : ASt}
variable {ops r : List Oper} {o : Oper} {nm : Nat} {sl : List AV} {H : Heap} {Q' : List AV → Heap → Prop}
end rules
def setFlat (T : zah) : zah := fun t =>
 match T t with
 | some i => some { i with flat := 1 }
 | none => none
theorem setFlat_ok {P : Program} {T : zah} (h : TOk P T) : TOk P (setFlat T) := by
 intro t i hi
 unfold setFlat at hi
 cases ht : T t with
 | none => rw [ht] at hi; cases hi
 | some j =>
   rw [ht] at hi
   injection hi with hi
   subst hi
   have := h t j ht
   exact ⟨this.d,this.info,this.eqs⟩
end Ax
end Go.Proofs.Ytmedjkjoannbmaa
namespace Go.Proofs.Ytmedjkjoannbmaa
open Ax
def tyF : zah := setFlat ty
theorem tyF_ok : TOk Try.prog tyF := setFlat_ok ty_ok
end Go.Proofs.Ytmedjkjoannbmaa
namespace Go.Proofs.Ytmedjkjoannbmaa
open Ax
section
set_option maxRecDepth 100000
theorem rtext_sound : zbf Try.prog 30 zcp := by
 refine zau (S := S37) (T := ty) zbj ty_ok S37_ok Try.func30 (c := Try.f30.body.getD .skip) (by kernel_rfl) (by kernel_rfl) (fun xs pins hp _ => ?_)
 unfold zcp at hp ⊢
 split at hp
 · rename_i s _
   refine ⟨by decide,?_⟩
   have hp : s.length ≤ 1000000 := hp
   have hz : (zz (s.length : Int)).toNat = 2 * s.length := by unfold zz; rw [if_pos (by omega)]; omega
   have h10 := zbo (2 * s.length) (by omega)
   unfold Try.f30
   simp only [go_sem,coe,zaa,Nat.reduceAdd,Nat.reduceSub,Nat.reduceMul,Int.reduceToNat,reduceCtorEq,↓reduceIte,Int.reducePow,Nat.reducePow,Int.reduceMod,Nat.reduceLeDiff,Int.reduceLE,Int.reduceNe,Int.reduceEq,Nat.reduceEqDiff,Nat.reduceLT,Nat.reduceBEq,ty,S37,putS,hz]
   unfold zaj top
   simp only [List.length_append]
   exact ⟨by omega,by omega,trivial,trivial⟩
 · exact hp.elim
end
end Go.Proofs.Ytmedjkjoannbmaa
namespace Go.Proofs.Ytmedjkjoannbmaa
open Ax
section
set_option maxRecDepth 100000
set_option maxHeartbeats 1000000 in
theorem rrcheck_sound : zbf Try.prog 87 zfa := by
 refine zau (S := noS) (T := ty) zbj ty_ok zcy Try.func87 (c := Try.f87.body.getD .skip) (by kernel_rfl) (by kernel_rfl) (fun xs pins hp _ => ?_)
 unfold zfa at hp ⊢
 split at hp
 · rename_i d t k key dd val _
   refine ⟨by simp,?_⟩
   unfold Try.f87
   have hc := rchk_cases d t k key dd val
   generalize rchk d t k key dd val = X at *
   unfold rA rB rC at hc
   rcases key with _ | ⟨c,ks⟩ <;> rcases val with _ | ⟨v,vs⟩ <;> cases k <;> cases dd
   all_goals
     simp only [go_sem,coe,zaa,Nat.reduceAdd,Nat.reduceSub,Nat.reduceMul,Int.reduceToNat,reduceCtorEq,↓reduceIte,Int.reducePow,Nat.reducePow,Int.reduceMod,Nat.reduceLeDiff,Int.reduceLE,Int.reduceNe,Int.reduceEq,Nat.reduceEqDiff,Nat.reduceLT,Nat.reduceBEq,ty,noS,decide_eq_true_eq,decide_eq_false_iff_not]
     simp only [List.length_cons,List.length_nil,ne_eq,reduceCtorEq,not_true_eq_false,not_false_eq_true,or_true,true_or,or_false,false_or,and_true,and_false,true_and,false_and,Bool.false_eq_true,Bool.true_eq_false] at hc
     repeat' (first | (intro _) | (apply And.intro))
     all_goals omega
 · exact hp.elim
def Srrput (f : FuncId) : Option zaq :=
 match f with
 | 87 => some zfa
 | 31 => some putS
 | 30 => some zcp
 | _ => none
theorem Srrput_ok : Fns Try.prog Srrput := by
 intro f s h
 unfold Srrput at h
 split at h
 · injection h with h; subst h; exact ⟨⟨_,Try.func87,by kernel_rfl,by kernel_rfl⟩,rrcheck_sound⟩
 · injection h with h; subst h; exact ⟨⟨_,Try.func31,by kernel_rfl,by kernel_rfl⟩,rput_sound⟩
 · injection h with h; subst h; exact ⟨⟨_,Try.func30,by kernel_rfl,by kernel_rfl⟩,rtext_sound⟩
 · cases h
end
end Go.Proofs.Ytmedjkjoannbmaa
namespace Go.Proofs.Ytmedjkjoannbmaa
open Ax
section
set_option maxRecDepth 100000
theorem rrsame_sound : zbf Try.prog 89 rsameS := by
 refine zau (S := noS) (T := ty) zbj ty_ok zcy Try.func89 (c := Try.f89.body.getD .skip) (by kernel_rfl) (by kernel_rfl) (fun xs pins hp _ => ?_)
 unfold rsameS at hp ⊢
 split at hp
 · rename_i d t k key dd val d' t' k' key' dd' val' _
   refine ⟨by simp,?_⟩
   unfold Try.f89
   unfold sameB
   by_cases h1 : d = d'
   · have d1 : decide (d = d') = true := decide_eq_true h1
     by_cases h2 : t = t'
     · have d2 : decide (t = t') = true := decide_eq_true h2
       cases hk : (k == k') with
       | false => simp only [go_sem,coe,zaa,Nat.reduceAdd,Nat.reduceSub,Nat.reduceMul,Int.reduceToNat,reduceCtorEq,↓reduceIte,Int.reducePow,Nat.reducePow,Int.reduceMod,Nat.reduceLeDiff,Int.reduceLE,Int.reduceNe,Int.reduceEq,Nat.reduceEqDiff,Nat.reduceLT,Nat.reduceBEq,ty,noS,d1,d2,hk]
       | true =>
         by_cases h4 : key = key'
         · have d4 : decide (key = key') = true := decide_eq_true h4
           cases hd : (dd == dd') with
           | false => simp only [go_sem,coe,zaa,Nat.reduceAdd,Nat.reduceSub,Nat.reduceMul,Int.reduceToNat,reduceCtorEq,↓reduceIte,Int.reducePow,Nat.reducePow,Int.reduceMod,Nat.reduceLeDiff,Int.reduceLE,Int.reduceNe,Int.reduceEq,Nat.reduceEqDiff,Nat.reduceLT,Nat.reduceBEq,ty,noS,d1,d2,hk,d4,hd]
           | true => simp only [go_sem,coe,zaa,Nat.reduceAdd,Nat.reduceSub,Nat.reduceMul,Int.reduceToNat,reduceCtorEq,↓reduceIte,Int.reducePow,Nat.reducePow,Int.reduceMod,Nat.reduceLeDiff,Int.reduceLE,Int.reduceNe,Int.reduceEq,Nat.reduceEqDiff,Nat.reduceLT,Nat.reduceBEq,ty,noS,d1,d2,hk,d4,hd]
         · have d4 : decide (key = key') = false := decide_eq_false h4
           simp only [go_sem,coe,zaa,Nat.reduceAdd,Nat.reduceSub,Nat.reduceMul,Int.reduceToNat,reduceCtorEq,↓reduceIte,Int.reducePow,Nat.reducePow,Int.reduceMod,Nat.reduceLeDiff,Int.reduceLE,Int.reduceNe,Int.reduceEq,Nat.reduceEqDiff,Nat.reduceLT,Nat.reduceBEq,ty,noS,d1,d2,hk,d4]
     · have d2 : decide (t = t') = false := decide_eq_false h2
       simp only [go_sem,coe,zaa,Nat.reduceAdd,Nat.reduceSub,Nat.reduceMul,Int.reduceToNat,reduceCtorEq,↓reduceIte,Int.reducePow,Nat.reducePow,Int.reduceMod,Nat.reduceLeDiff,Int.reduceLE,Int.reduceNe,Int.reduceEq,Nat.reduceEqDiff,Nat.reduceLT,Nat.reduceBEq,ty,noS,d1,d2]
   · have d1 : decide (d = d') = false := decide_eq_false h1
     simp only [go_sem,coe,zaa,Nat.reduceAdd,Nat.reduceSub,Nat.reduceMul,Int.reduceToNat,reduceCtorEq,↓reduceIte,Int.reducePow,Nat.reducePow,Int.reduceMod,Nat.reduceLeDiff,Int.reduceLE,Int.reduceNe,Int.reduceEq,Nat.reduceEqDiff,Nat.reduceLT,Nat.reduceBEq,ty,noS,d1]
 · exact hp.elim
end
end Go.Proofs.Ytmedjkjoannbmaa
namespace Go.Proofs.Ytmedjkjoannbmaa
open Ax
section
set_option maxRecDepth 100000
def rputPl : Plan := fun id => match id with
 | 9 => some [(5,6),(5,7)]
 | _ => none
set_option maxHeartbeats 1000000 in
theorem rrecput_sound : zbf Try.prog 88 rputS := by
 refine fn_soundF (S := Srrput) (T := ty) (pl := rputPl) zbj ty_ok Srrput_ok Try.func88 (c := Try.f88.body.getD .skip) (by kernel_rfl) (by kernel_rfl) (fun xs pins hp _ => ?_)
 unfold rputS at hp ⊢
 split at hp
 · rename_i d t k key dd val _
   refine ⟨by simp,?_⟩
   unfold Try.f88
   by_cases h0 : rchk d t k key dd val = 0
   · have hc := rchk_cases d t k key dd val
     unfold rA rB at hc
     have hd : (-9223372036854775808 ≤ d ∧ d ≤ 9223372036854775807) ∧ (-9223372036854775808 ≤ t ∧ t ≤ 9223372036854775807) ∧ key.length ≤ 64 ∧ val.length ≤ 512 := by omega
     obtain ⟨hd1,hd2,hd3,hd4⟩ := hd
     clear hc
     have z1 := zea d hd1.1 hd1.2
     have z2 := zea t hd2.1 hd2.2
     have l1 := zbo (zz d).toNat (by omega)
     have l2 := zbo (zz t).toNat (by omega)
     have l3 := zev key (by omega)
     have l4 := zev val (by omega)
     have k3 : key.length ≤ 1000000 := by omega
     have k4 : val.length ≤ 1000000 := by omega
     generalize hP1 : putU (zz d).toNat = P1 at *
     generalize hP2 : putU (zz t).toNat = P2 at *
     generalize hP3 : zaj key = P3 at *
     generalize hP4 : zaj val = P4 at *
     cases k <;> cases dd
     all_goals
       have f0 : flagI false false = 0 := rfl
       have f1 : flagI true false = 1 := rfl
       have f2 : flagI false true = 2 := rfl
       have f3 : flagI true true = 3 := rfl
       simp only [go_sem,coe,zae,Nat.reduceAdd,Nat.reduceSub,Nat.reduceMul,Int.reduceToNat,reduceCtorEq,↓reduceIte,Int.reducePow,Nat.reducePow,Int.reduceMod,Nat.reduceLeDiff,Int.reduceLE,Int.reduceNe,Int.reduceEq,Nat.reduceEqDiff,Nat.reduceLT,Nat.reduceBEq,List.map_cons,List.map_nil,List.toList_toArray,Array.toList_append,Option.toArray_some,Option.toArray_none,Bool.and_self,ty,Srrput,rputPl,zfa,flagS,putS,zcp,h0,hd1,hd2,k3,k4,hP1,hP2,hP3,hP4,List.take_length,f0,f1,f2,f3,Int.reduceAdd]
       have ht : top = 4294967296 := rfl
       repeat (refine And.intro (by omega) ?_)
       exact put_ends rfl rfl rfl (by simp only [List.length_append,List.length_cons,List.length_nil]; omega) (by simp [recB,h0,recL,hP1,hP2,hP3,hP4,f0,f1,f2,f3]) rfl
   · have d0 : decide (rchk d t k key dd val = 0) = false := decide_eq_false h0
     simp only [go_sem,coe,zae,Nat.reduceAdd,Nat.reduceSub,Nat.reduceMul,Int.reduceToNat,reduceCtorEq,↓reduceIte,Int.reducePow,Nat.reducePow,Int.reduceMod,Nat.reduceLeDiff,Int.reduceLE,Int.reduceNe,Int.reduceEq,Nat.reduceEqDiff,Nat.reduceLT,Nat.reduceBEq,List.map_cons,List.map_nil,List.toList_toArray,Array.toList_append,Option.toArray_some,Option.toArray_none,Bool.and_self,ty,Srrput,rputPl,zfa,d0]
     refine ⟨_,zel 2 (.sb [] false) (fun _ _ _ h => h.nilb),?_⟩
     simp only [go_sem,coe,zae,Nat.reduceAdd,Nat.reduceSub,Nat.reduceMul,Int.reduceToNat,reduceCtorEq,↓reduceIte,Int.reducePow,Nat.reducePow,Int.reduceMod,Nat.reduceLeDiff,Int.reduceLE,Int.reduceNe,Int.reduceEq,Nat.reduceEqDiff,Nat.reduceLT,Nat.reduceBEq,List.map_cons,List.map_nil,List.toList_toArray,Array.toList_append,Option.toArray_some,Option.toArray_none,Bool.and_self,ty,recB,if_neg h0]
 · exact hp.elim
end
end Go.Proofs.Ytmedjkjoannbmaa
namespace Go.Proofs.Ytmedjkjoannbmaa
open Ax
theorem put1_ends {T : zah} {sl : List AV} {H : Heap} {nx id n : Nat} {bs rs : List UInt8} {q : Prop} (h2 : slot sl 2 = .ms id 1 0 n) (hl : Ax.look H id = some (.b bs)) (hn : n = bs.length) (hr : rs = bs) :
   zbs T [.tmp 2] [] ⟨q,.sb rs false,[]⟩ .ret ⟨sl,H,nx⟩ := by
 subst hn hr
 have hs : slot (fzL id rs sl) 2 = .sb rs false := by
   rw [slot_fzL,h2]
   simp [AV.fz]
 refine ⟨_,(weak_fzs 2 h2 hl).trans (zel 2 (.sb rs false) (fun w loc v h => by rwa [hs] at h)),?_⟩
 have e2 : slot (setSlot (fzL id rs sl) 2 (.sb rs false)) 2 = .sb rs false := slot_set_eq _ _ _ (by rw [hs]; simp)
 simp only [Ax.Ends,Ax.rvals,EndsX,rone,e2,AV.ids,idsL,newIds,upTo,nodup,pinsOf,List.nil_append,AV.ren,renL,and_self]
def rlayS4 : zaq
 | [.agg [.w (.int .i64 b),.w (.int .i64 c),.w (.int .i64 p),.w (.int .i64 e),.w (.int .i64 s),.sg 6 xs f]],[] =>
     ⟨xs.length ≤ 40 ∧ okI b ∧ okI c ∧ okI p ∧ okI e ∧ okI s ∧ ∃ rs : List Rec,xs = rs.map rv,.sb (batL b c p e s (xs.map rrec)) false,[]⟩
 | _,_ => zbv
def Srlay4 (f : FuncId) : Option zaq :=
 match f with
 | 31 => some putS
 | 88 => some rputS
 | _ => none
theorem Srlay4_ok : Fns Try.prog Srlay4 := by
 intro f s h
 unfold Srlay4 at h
 split at h
 · injection h with h; subst h; exact ⟨⟨_,Try.func31,by kernel_rfl,by kernel_rfl⟩,rput_sound⟩
 · injection h with h; subst h; exact ⟨⟨_,Try.func88,by kernel_rfl,by kernel_rfl⟩,rrecput_sound⟩
 · cases h
theorem headL_len : ∀ (l : List Int),(∀ x ∈ l,okI x) → (zeu l).length ≤ 10 * l.length
 | [],_ => Nat.le_refl _
 | n :: l,h => by
   have h1 := headL_len l (fun x hx => h x (List.mem_cons_of_mem _ hx))
   have h2 := h n (by simp)
   have z := zea n h2.1 h2.2
   have h3 := zbo (zz n).toNat (by omega)
   unfold zeu at h1 ⊢
   rw [List.flatMap_cons,List.length_append,List.length_cons]; omega
section
set_option maxRecDepth 100000
set_option maxHeartbeats 2000000 in
theorem rlay4_sound : zbf Try.prog 67 rlayS4 := by
 refine zcm (S := Srlay4) (T := ty) zbj ty_ok Srlay4_ok Try.func67 (c := Try.f67.body.getD .skip) (by kernel_rfl) (by kernel_rfl) (fun xs pins hp _ => ?_)
 unfold rlayS4 at hp ⊢
 split at hp
 · rename_i b c p e s xs f _
   obtain ⟨hL,hb,hc,hpp,he,hs,rs,rfl⟩ := hp
   have hl4 : (rs.map rv).length = rs.length := by simp
   rw [hl4] at hL
   refine ⟨by simp,?_⟩
   unfold Try.f67
   obtain ⟨L,hLL⟩ : ∃ L,nums b c p e s rs.length = L := ⟨_,rfl⟩
   have hlen : L.length = 6 := by rw [← hLL]; rfl
   have hrg : ∀ x ∈ L,okI x := by
     rw [← hLL]; unfold nums
     intro x hx
     simp only [List.mem_cons,List.not_mem_nil,or_false] at hx
     rcases hx with rfl | rfl | rfl | rfl | rfl | rfl
     · exact hb
     · exact hc
     · exact hpp
     · exact he
     · exact hs
     · unfold okI; omega
   have hL2 : [b,c,p,e,s,(rs.length : Int)] = L := hLL
   simp only [go_sem,zaa,Nat.reduceAdd,Nat.reduceSub,Nat.reduceMul,Int.reduceToNat,reduceCtorEq,↓reduceIte,Int.reducePow,Nat.reducePow,Int.reduceMod,Nat.reduceLeDiff,Int.reduceLE,Int.reduceNe,Int.reduceEq,Nat.reduceEqDiff,Nat.reduceLT,Nat.reduceBEq,ty,Srlay4,hl4,hL,hL2,zag]
   have ht : top = 4294967296 := rfl
   refine zde ⟨fun m σ => ∃ k : Nat,m = 6 - k ∧ k ≤ 6 ∧
       σ = ⟨[.agg [.w (.int .i64 b),.w (.int .i64 c),.w (.int .i64 p),.w (.int .i64 e),.w (.int .i64 s),.sg 6 (rs.map rv) f],.rf 4 6 0 0,.junk,.ms 6 1 0 (zeu (L.take k)).length,.ms 5 1 0 6,.w (.int .i64 k),.junk,.junk,.junk,.junk,.junk,.junk,.junk,.junk,.junk,.junk,.junk,.junk,.junk,.junk,.junk,.junk,.junk,.junk,.junk,.junk,.junk,.junk,.junk,.junk,.junk,.junk,.junk,.junk,.junk,.junk,.junk,.junk,.junk,.junk,.junk,.junk,.junk,.junk,.junk,.junk,.junk,.junk,.junk,.junk,.junk,.junk,.junk,.junk,.junk,.junk],[(4,.g 6 [.agg [.w (.int .i64 b),.w (.int .i64 c),.w (.int .i64 p),.w (.int .i64 e),.w (.int .i64 s),.sg 6 (rs.map rv) f]]),(5,.i L),(6,.b (zeu (L.take k)))],7⟩,?_,?_⟩
   · refine ⟨_,_,(weak_nil 3 1 (.b []) rfl (by exact trivial)).trans (zai [0,1,2,3,4,132,156] rfl rfl rfl ?_ ?_),0,rfl,by omega,rfl⟩
     · simp only [ssT,zao,zap,setSlot,gOf,AV.ren,renL,Blk.ren,Ax.look,Ax.put,reduceCtorEq,↓reduceIte,Nat.reduceEqDiff,Nat.reduceLT,Nat.reduceAdd,List.length_append,List.length_cons,List.length_nil,Option.some.injEq]; first | exact ⟨by simp [zeu],rfl,rfl⟩ | (simp [zeu]; done)
     · simp only [ssT,zao,zap,setSlot,gOf,AV.ren,renL,Blk.ren,Ax.look,Ax.put,reduceCtorEq,↓reduceIte,Nat.reduceEqDiff,Nat.reduceLT,Nat.reduceAdd,List.length_append,List.length_cons,List.length_nil,Option.some.injEq]; rfl
   · rintro m σ ⟨k,rfl,hk,rfl⟩
     have e1 : ((k : Int) + 1 + 9223372036854775808) % 18446744073709551616 - 9223372036854775808 = ((k + 1 : Nat) : Int) := by omega
     by_cases hk6 : k < 6
     · have d1 : decide ((k : Int) < ((6 : Nat) : Int)) = true := decide_eq_true (by omega)
       have hkl : k < L.length := by omega
       obtain ⟨N,hN⟩ : ∃ N,L.getD k 0 = N := ⟨_,rfl⟩
       have hNe : L[k] = N := by rw [← hN]; simp [hkl]
       obtain ⟨hN1,hN2⟩ := hrg N (hNe ▸ List.getElem_mem hkl)
       have z := zea N hN1 hN2
       have hPl := zbo (zz N).toNat (by omega)
       have hsn : zeu (L.take (k + 1)) = zeu (L.take k) ++ putU (zz N).toNat := by
         rw [List.take_succ_eq_append_getElem hkl,headL_snoc,hNe]
       have hhl := headL_len (L.take k) (fun x hx => hrg x (List.mem_of_mem_take hx))
       rw [List.length_take] at hhl
       obtain ⟨P,hP⟩ : ∃ P,putU (zz N).toNat = P := ⟨_,rfl⟩
       rw [hP] at hsn hPl
       simp only [go_sem,zaa,Nat.reduceAdd,Nat.reduceSub,Nat.reduceMul,Int.reduceToNat,reduceCtorEq,↓reduceIte,Int.reducePow,Nat.reducePow,Int.reduceMod,Nat.reduceLeDiff,Int.reduceLE,Int.reduceNe,Int.reduceEq,Nat.reduceEqDiff,Nat.reduceLT,Nat.reduceBEq,ty,Srlay4,putS,d1,hN,hP,hN1,hN2,e1,hlen,List.take_length,Int.toNat_natCast,Nat.zero_add]
       repeat (refine And.intro (by omega) ?_)
       refine ⟨6 - (k + 1),_,by omega,zai [0,1,2,3,4,5,87] rfl rfl rfl ?_ ?_,k + 1,rfl,by omega,rfl⟩
       · simp only [ssT,zao,zap,setSlot,gOf,AV.ren,renL,Blk.ren,Ax.look,Ax.put,reduceCtorEq,↓reduceIte,Nat.reduceEqDiff,Nat.reduceLT,Nat.reduceAdd,List.length_append,List.length_cons,List.length_nil,Option.some.injEq,hsn,List.length_append]
       · simp only [ssT,zao,zap,setSlot,gOf,AV.ren,renL,Blk.ren,Ax.look,Ax.put,reduceCtorEq,↓reduceIte,Nat.reduceEqDiff,Nat.reduceLT,Nat.reduceAdd,List.length_append,List.length_cons,List.length_nil,Option.some.injEq,hsn]
     · have d1 : decide ((k : Int) < ((6 : Nat) : Int)) = false := decide_eq_false (by omega)
       have hk2 : L.take k = L := List.take_of_length_le (by omega)
       have hHl := headL_len L hrg
       simp only [go_sem,zaa,Nat.reduceAdd,Nat.reduceSub,Nat.reduceMul,Int.reduceToNat,reduceCtorEq,↓reduceIte,Int.reducePow,Nat.reducePow,Int.reduceMod,Nat.reduceLeDiff,Int.reduceLE,Int.reduceNe,Int.reduceEq,Nat.reduceEqDiff,Nat.reduceLT,Nat.reduceBEq,ty,Srlay4,d1,hk2]
       refine zde ⟨fun m σ => ∃ i : Nat,m = rs.length - i ∧ i ≤ rs.length ∧
           σ = ⟨[.agg [.w (.int .i64 b),.w (.int .i64 c),.w (.int .i64 p),.w (.int .i64 e),.w (.int .i64 s),.sg 6 (rs.map rv) f],.rf 4 6 0 0,.junk,.ms 5 1 0 (zeu L ++ (rs.take i).flatMap rb).length,.junk,.junk,.w (.int .i64 i),.junk,.junk,.junk,.junk,.junk,.junk,.junk,.junk,.junk,.junk,.junk,.junk,.junk,.junk,.junk,.junk,.junk,.junk,.junk,.junk,.junk,.junk,.junk,.junk,.junk,.junk,.junk,.junk,.junk,.junk,.junk,.junk,.junk,.junk,.junk,.junk,.junk,.junk,.junk,.junk,.junk,.junk,.junk,.junk,.junk,.junk,.junk,.junk,.junk],[(4,.g 6 [.agg [.w (.int .i64 b),.w (.int .i64 c),.w (.int .i64 p),.w (.int .i64 e),.w (.int .i64 s),.sg 6 (rs.map rv) f]]),(5,.b (zeu L ++ (rs.take i).flatMap rb))],6⟩,?_,?_⟩
       · refine ⟨_,_,zai [0,1,2,3,4,6] rfl rfl rfl ?_ ?_,0,rfl,by omega,rfl⟩
         · simp only [ssT,zao,zap,setSlot,gOf,AV.ren,renL,Blk.ren,Ax.look,Ax.put,reduceCtorEq,↓reduceIte,Nat.reduceEqDiff,Nat.reduceLT,Nat.reduceAdd,List.length_append,List.length_cons,List.length_nil,Option.some.injEq]; simp
         · simp only [ssT,zao,zap,setSlot,gOf,AV.ren,renL,Blk.ren,Ax.look,Ax.put,reduceCtorEq,↓reduceIte,Nat.reduceEqDiff,Nat.reduceLT,Nat.reduceAdd,List.length_append,List.length_cons,List.length_nil,Option.some.injEq]; simp
       · rintro m σ ⟨i,rfl,hi,rfl⟩
         have e2 : ((i : Int) + 1 + 9223372036854775808) % 18446744073709551616 - 9223372036854775808 = ((i + 1 : Nat) : Int) := by omega
         have hbl := rbs_length (rs.take i)
         rw [List.length_take] at hbl
         obtain ⟨O,hO⟩ : ∃ O,zeu L ++ (rs.take i).flatMap rb = O := ⟨_,rfl⟩
         have hOl : O.length ≤ 60 + 700 * 40 := by rw [← hO,List.length_append]; omega
         by_cases hil : i < rs.length
         · have d3 : decide ((i : Int) < rs.length) = true := decide_eq_true (by omega)
           have hsl := zfi rv rs i hil
           have htk : (rs.take (i + 1)).flatMap rb = (rs.take i).flatMap rb ++ rb rs[i] := by
             rw [List.take_succ_eq_append_getElem hil,List.flatMap_append,List.flatMap_cons,List.flatMap_nil,List.append_nil]
           obtain ⟨R,hR⟩ : ∃ R,rs[i] = R := ⟨_,rfl⟩
           rw [hR] at hsl htk
           simp only [rv] at hsl
           have hRl := rb_length R
           have hrb : recB R.d R.t R.k R.key R.dd R.val = rb R := rfl
           have htk2 : zeu L ++ (rs.take (i + 1)).flatMap rb = O ++ rb R := by rw [htk,← hO,List.append_assoc]
           have hln2 : (zeu L).length + ((rs.take (i + 1)).flatMap rb).length = O.length + (rb R).length := by rw [← List.length_append,htk2,List.length_append]
           simp only [go_sem,zaa,Nat.reduceAdd,Nat.reduceSub,Nat.reduceMul,Int.reduceToNat,reduceCtorEq,↓reduceIte,Int.reducePow,Nat.reducePow,Int.reduceMod,Nat.reduceLeDiff,Int.reduceLE,Int.reduceNe,Int.reduceEq,Nat.reduceEqDiff,Nat.reduceLT,Nat.reduceBEq,ty,Srlay4,rputS,hrb,hO,hl4,d3,hsl,e2,List.take_length,Int.toNat_natCast]
           repeat (refine And.intro (by omega) ?_)
           refine ⟨rs.length - (i + 1),_,by omega,zai [0,1,2,3,4,150] rfl rfl rfl ?_ ?_,i + 1,rfl,by omega,rfl⟩
           · simp only [ssT,zao,zap,setSlot,gOf,AV.ren,renL,Blk.ren,Ax.look,Ax.put,reduceCtorEq,↓reduceIte,Nat.reduceEqDiff,Nat.reduceLT,Nat.reduceAdd,List.length_append,List.length_cons,List.length_nil,Option.some.injEq,htk2,List.length_append,hln2]
           · simp only [ssT,zao,zap,setSlot,gOf,AV.ren,renL,Blk.ren,Ax.look,Ax.put,reduceCtorEq,↓reduceIte,Nat.reduceEqDiff,Nat.reduceLT,Nat.reduceAdd,List.length_append,List.length_cons,List.length_nil,Option.some.injEq,htk2]
         · have d3 : decide ((i : Int) < rs.length) = false := decide_eq_false (by omega)
           have htk : rs.take i = rs := List.take_of_length_le (by omega)
           have hOe : batL b c p e s rs = O := by unfold batL; rw [hLL,← hO,htk]
           simp only [go_sem,zaa,Nat.reduceAdd,Nat.reduceSub,Nat.reduceMul,Int.reduceToNat,reduceCtorEq,↓reduceIte,Int.reducePow,Nat.reducePow,Int.reduceMod,Nat.reduceLeDiff,Int.reduceLE,Int.reduceNe,Int.reduceEq,Nat.reduceEqDiff,Nat.reduceLT,Nat.reduceBEq,ty,Srlay4,hO,hl4,d3,zag,hOe]
           exact put1_ends rfl rfl rfl rfl
 · exact hp.elim
end
end Go.Proofs.Ytmedjkjoannbmaa
namespace Go.Proofs.Ytmedjkjoannbmaa
open Ax
theorem fld_cases (b c p e s n : Int) :
   (decide (c < 1) = true ∧ bfld b c p e s n = 11) ∨
   (decide (c < 1) = false ∧ decide (32 < c) = true ∧ bfld b c p e s n = 11) ∨
   (decide (c < 1) = false ∧ decide (32 < c) = false ∧ decide (b < 0) = true ∧ bfld b c p e s n = 11) ∨
   (decide (c < 1) = false ∧ decide (32 < c) = false ∧ (4611686018427387903 - c + 9223372036854775808) % 18446744073709551616 - 9223372036854775808 = 4611686018427387903 - c ∧ decide (b < 0) = false ∧ decide (4611686018427387903 - c < b) = true ∧ bfld b c p e s n = 11) ∨
   (decide (c < 1) = false ∧ decide (32 < c) = false ∧ (4611686018427387903 - c + 9223372036854775808) % 18446744073709551616 - 9223372036854775808 = 4611686018427387903 - c ∧ decide (b < 0) = false ∧ decide (4611686018427387903 - c < b) = false ∧
     ((decide (p < 0) = true ∧ bfld b c p e s n = 11) ∨
      (decide (p < 0) = false ∧ decide (1099511627776 < p) = true ∧ bfld b c p e s n = 11) ∨
      (decide (p < 0) = false ∧ decide (1099511627776 < p) = false ∧ decide (e < 0) = true ∧ bfld b c p e s n = 11) ∨
      (decide (p < 0) = false ∧ decide (1099511627776 < p) = false ∧ decide (e < 0) = false ∧ decide (32767 < e) = true ∧ bfld b c p e s n = 11) ∨
      (decide (p < 0) = false ∧ decide (1099511627776 < p) = false ∧ decide (e < 0) = false ∧ decide (32767 < e) = false ∧ decide (s < 0) = true ∧ bfld b c p e s n = 11) ∨
      (decide (p < 0) = false ∧ decide (1099511627776 < p) = false ∧ decide (e < 0) = false ∧ decide (32767 < e) = false ∧ decide (s < 0) = false ∧ decide (2147483647 < s) = true ∧ bfld b c p e s n = 11) ∨
      (decide (p < 0) = false ∧ decide (1099511627776 < p) = false ∧ decide (e < 0) = false ∧ decide (32767 < e) = false ∧ decide (s < 0) = false ∧ decide (2147483647 < s) = false ∧
       ((decide (p = 0) = true ∧ decide (e = 0) = false ∧ bfld b c p e s n = 4) ∨
        (decide (p = 0) = true ∧ decide (e = 0) = true ∧ decide (s = 0) = false ∧ bfld b c p e s n = 4) ∨
        (decide (p = 0) = true ∧ decide (e = 0) = true ∧ decide (s = 0) = true ∧ decide (c < n) = true ∧ bfld b c p e s n = 5) ∨
        (decide (p = 0) = false ∧ decide (c < n) = true ∧ bfld b c p e s n = 5) ∨
        (decide (p = 0) = true ∧ decide (e = 0) = true ∧ decide (s = 0) = true ∧ decide (c < n) = false ∧ bfld b c p e s n = 0) ∨
        (decide (p = 0) = false ∧ decide (c < n) = false ∧ bfld b c p e s n = 0))))) := by
 unfold bfld
 simp only [decide_eq_true_eq,decide_eq_false_iff_not]
 by_cases h0 : c < 1
 · exact .inl ⟨h0,if_pos (by omega)⟩
 by_cases h1 : 32 < c
 · exact .inr (.inl ⟨h0,h1,if_pos (by omega)⟩)
 by_cases h2 : b < 0
 · exact .inr (.inr (.inl ⟨h0,h1,h2,if_pos (by omega)⟩))
 by_cases h3 : 4611686018427387903 - c < b
 · exact .inr (.inr (.inr (.inl ⟨h0,h1,by omega,h2,h3,if_pos (by omega)⟩)))
 refine .inr (.inr (.inr (.inr ⟨h0,h1,by omega,h2,h3,?_⟩)))
 by_cases h4 : p < 0
 · exact .inl ⟨h4,if_pos (by omega)⟩
 by_cases h5 : 1099511627776 < p
 · exact .inr (.inl ⟨h4,h5,if_pos (by omega)⟩)
 by_cases h6 : e < 0
 · exact .inr (.inr (.inl ⟨h4,h5,h6,if_pos (by omega)⟩))
 by_cases h7 : 32767 < e
 · exact .inr (.inr (.inr (.inl ⟨h4,h5,h6,h7,if_pos (by omega)⟩)))
 by_cases h8 : s < 0
 · exact .inr (.inr (.inr (.inr (.inl ⟨h4,h5,h6,h7,h8,if_pos (by omega)⟩))))
 by_cases h9 : 2147483647 < s
 · exact .inr (.inr (.inr (.inr (.inr (.inl ⟨h4,h5,h6,h7,h8,h9,if_pos (by omega)⟩)))))
 refine .inr (.inr (.inr (.inr (.inr (.inr ⟨h4,h5,h6,h7,h8,h9,?_⟩)))))
 rw [if_neg (by omega)]
 by_cases hp : p = 0
 · by_cases he : e = 0
   · by_cases hs : s = 0
     · by_cases hc : c < n
       · exact .inr (.inr (.inl ⟨hp,he,hs,hc,by rw [if_neg (by omega),if_pos hc]⟩))
       · exact .inr (.inr (.inr (.inr (.inl ⟨hp,he,hs,hc,by rw [if_neg (by omega),if_neg hc]⟩))))
     · exact .inr (.inl ⟨hp,he,hs,if_pos (by omega)⟩)
   · exact .inl ⟨hp,he,if_pos (by omega)⟩
 · by_cases hc : c < n
   · exact .inr (.inr (.inr (.inl ⟨hp,hc,by rw [if_neg (by omega),if_pos hc]⟩)))
   · exact .inr (.inr (.inr (.inr (.inr ⟨hp,hc,by rw [if_neg (by omega),if_neg hc]⟩))))
def rchkS4 : zaq
 | [.agg [.w (.int .i64 b),.w (.int .i64 c),.w (.int .i64 p),.w (.int .i64 e),.w (.int .i64 s),.sg 6 xs f]],[] =>
     ⟨xs.length ≤ 40 ∧ ∃ rs : List Rec,xs = rs.map rv,.w (.int .i64 (batE b c p e s (xs.map rrec))),[]⟩
 | _,_ => zbv
def zew : zaq
 | [.agg [.w (.int .i64 b),.w (.int .i64 c),.w (.int .i64 p),.w (.int .i64 e),.w (.int .i64 s),.sg 6 xs f]],[] => ⟨xs.length ≤ 40 ∧ ∃ rs : List Rec,xs = rs.map rv,
     .tup [.sb (batB b c p e s (xs.map rrec)) false,.w (.int .i64 (batE b c p e s (xs.map rrec)))],[]⟩
 | _,_ => zbv
theorem batE_eq (b c p e s : Int) (rs : List Rec) (h : bfld b c p e s rs.length ≠ 0) : batE b c p e s rs = bfld b c p e s rs.length := if_neg h
def Srchk4 (f : FuncId) : Option zaq :=
 match f with
 | 67 => some rlayS4
 | 87 => some zfa
 | _ => none
theorem Srchk4_ok : Fns Try.prog Srchk4 := by
 intro f s h
 unfold Srchk4 at h
 split at h
 · injection h with h; subst h; exact ⟨⟨_,Try.func67,by kernel_rfl,by kernel_rfl⟩,rlay4_sound⟩
 · injection h with h; subst h; exact ⟨⟨_,Try.func87,by kernel_rfl,by kernel_rfl⟩,rrcheck_sound⟩
 · cases h
section
set_option maxRecDepth 100000
set_option maxHeartbeats 4000000 in
theorem rchk4_sound : zbf Try.prog 66 rchkS4 := by
 refine zau (S := Srchk4) (T := ty) zbj ty_ok Srchk4_ok Try.func66 (c := Try.f66.body.getD .skip) (by kernel_rfl) (by kernel_rfl) (fun xs pins hp _ => ?_)
 unfold rchkS4 at hp ⊢
 split at hp
 · rename_i b c p e s xs f _
   obtain ⟨hL,rs,rfl⟩ := hp
   have hl4 : (rs.map rv).length = rs.length := by simp
   rw [hl4] at hL
   refine ⟨by simp,?_⟩
   unfold Try.f66
   have hE := batE_eq b c p e s rs
   have n1 : ((11 : Int) ≠ 0) = True := by decide
   have n2 : ((4 : Int) ≠ 0) = True := by decide
   have n3 : ((5 : Int) ≠ 0) = True := by decide
   rcases fld_cases b c p e s rs.length with D | D | D | D | ⟨a0,a1,a2,a3,a4,D | D | D | D | D | D | ⟨a5,a6,a7,a8,a9,a10,D | D | D | D | D | D⟩⟩
   all_goals simp only [go_sem,zaa,Nat.reduceAdd,Nat.reduceSub,Nat.reduceMul,Int.reduceToNat,reduceCtorEq,↓reduceIte,Int.reducePow,Nat.reducePow,Int.reduceMod,Nat.reduceLeDiff,Int.reduceLE,Int.reduceNe,Int.reduceEq,Nat.reduceEqDiff,Nat.reduceLT,Nat.reduceBEq,ty,Srchk4,hl4,zag, *]
   all_goals
     have hF : bfld b c p e s rs.length = 0 := by simp only [D]
     have hz := bfld_zero hF
     clear D hE n1 n2 n3
     refine zde ⟨fun m σ => ∃ (i : Nat) (a : Int),m = rs.length - i ∧ i ≤ rs.length ∧ layE c (-1) rs = layE c a (rs.drop i) ∧
         σ = ⟨[.agg [.w (.int .i64 b),.w (.int .i64 c),.w (.int .i64 p),.w (.int .i64 e),.w (.int .i64 s),.sg 6 (rs.map rv) f],.rf 4 6 0 0,.junk,.w (.int .i64 a),.w (.int .i64 i),.junk,.junk,.junk,.junk,.junk,.junk,.junk,.junk,.junk,.junk,.junk,.junk,.junk,.junk,.junk,.junk,.junk,.junk,.junk,.junk,.junk,.junk,.junk,.junk,.junk,.junk,.junk,.junk,.junk,.junk,.junk,.junk,.junk,.junk,.junk,.junk,.junk,.junk,.junk,.junk,.junk,.junk,.junk,.junk,.junk,.junk,.junk,.junk,.junk,.junk,.junk,.junk,.junk,.junk,.junk,.junk,.junk,.junk,.junk,.junk,.junk,.junk,.junk,.junk,.junk,.junk,.junk,.junk,.junk,.junk,.junk,.junk,.junk,.junk,.junk,.junk,.junk,.junk,.junk,.junk,.junk,.junk,.junk,.junk,.junk,.junk,.junk,.junk,.junk,.junk,.junk,.junk,.junk,.junk,.junk,.junk,.junk,.junk,.junk,.junk,.junk,.junk,.junk,.junk,.junk,.junk,.junk,.junk,.junk,.junk,.junk,.junk,.junk,.junk,.junk,.junk,.junk,.junk,.junk,.junk],[(4,.g 6 [.agg [.w (.int .i64 b),.w (.int .i64 c),.w (.int .i64 p),.w (.int .i64 e),.w (.int .i64 s),.sg 6 (rs.map rv) f]])],5⟩,?_,?_⟩
     · refine ⟨_,_,zai [0,1,2,3,4] rfl rfl rfl ?_ ?_,0,-1,rfl,by omega,by rw [List.drop_zero],rfl⟩
       · simp only [ssT,zao,zap,setSlot,gOf,AV.ren,renL,Blk.ren,Ax.look,Ax.put,reduceCtorEq,↓reduceIte,Nat.reduceEqDiff,Nat.reduceLT,Nat.reduceAdd,List.length_append,List.length_cons,List.length_nil,Option.some.injEq]; try simp
       · simp only [ssT,zao,zap,setSlot,gOf,AV.ren,renL,Blk.ren,Ax.look,Ax.put,reduceCtorEq,↓reduceIte,Nat.reduceEqDiff,Nat.reduceLT,Nat.reduceAdd,List.length_append,List.length_cons,List.length_nil,Option.some.injEq]
     · rintro m σ ⟨i,a,rfl,hi,hinv,rfl⟩
       have e2 : ((i : Int) + 1 + 9223372036854775808) % 18446744073709551616 - 9223372036854775808 = ((i + 1 : Nat) : Int) := by omega
       by_cases hil : i < rs.length
       · have d3 : decide ((i : Int) < rs.length) = true := decide_eq_true (by omega)
         have hsl := zfi rv rs i hil
         have hdr : rs.drop i = rs[i] :: rs.drop (i + 1) := List.drop_eq_getElem_cons hil
         obtain ⟨R,hR⟩ : ∃ R,rs[i] = R := ⟨_,rfl⟩
         rw [hR] at hsl hdr
         simp only [rv] at hsl
         rw [hdr,layE_cons] at hinv
         have hrk : rchk R.d R.t R.k R.key R.dd R.val = rk R := rfl
         have hLE : ∀ v,v ≠ 0 → layE c (-1) rs = v → batE b c p e s rs = v := fun v h1 h2 => by unfold batE; rw [if_pos hF,if_neg (by rw [h2]; exact h1),h2]
         by_cases hk0 : rk R = 0
         · have d4 : decide (rk R = 0) = true := decide_eq_true hk0
           rw [if_pos hk0] at hinv
           have hor : (decide (R.d ≤ a) = true ∧ batE b c p e s rs = 16) ∨ (decide (R.d ≤ a) = false ∧ decide (c ≤ R.d) = true ∧ batE b c p e s rs = 16) ∨ (decide (R.d ≤ a) = false ∧ decide (c ≤ R.d) = false ∧ layE c (-1) rs = layE c R.d (rs.drop (i + 1))) := by
             by_cases hA : R.d ≤ a
             · rw [if_pos (.inl hA)] at hinv
               exact .inl ⟨decide_eq_true hA,hLE 16 (by decide) hinv⟩
             · by_cases hC : c ≤ R.d
               · rw [if_pos (.inr hC)] at hinv
                 exact .inr (.inl ⟨decide_eq_false hA,decide_eq_true hC,hLE 16 (by decide) hinv⟩)
               · rw [if_neg (by omega)] at hinv
                 exact .inr (.inr ⟨decide_eq_false hA,decide_eq_false hC,hinv⟩)
           clear hinv
           rcases hor with D | D | D
           all_goals simp only [go_sem,zaa,Nat.reduceAdd,Nat.reduceSub,Nat.reduceMul,Int.reduceToNat,reduceCtorEq,↓reduceIte,Int.reducePow,Nat.reducePow,Int.reduceMod,Nat.reduceLeDiff,Int.reduceLE,Int.reduceNe,Int.reduceEq,Nat.reduceEqDiff,Nat.reduceLT,Nat.reduceBEq,ty,Srchk4,zfa,hrk,hl4,d3,hsl,d4,e2,zag,Int.toNat_natCast,D]
           all_goals repeat (refine And.intro (by omega) ?_)
           all_goals try omega
           refine ⟨rs.length - (i + 1),_,by omega,zai [0,1,2,3,4] rfl rfl rfl ?_ ?_,i + 1,R.d,rfl,by omega,rfl,rfl⟩
           · simp only [ssT,zao,zap,setSlot,gOf,AV.ren,renL,Blk.ren,Ax.look,Ax.put,reduceCtorEq,↓reduceIte,Nat.reduceEqDiff,Nat.reduceLT,Nat.reduceAdd,List.length_append,List.length_cons,List.length_nil,Option.some.injEq]
           · simp only [ssT,zao,zap,setSlot,gOf,AV.ren,renL,Blk.ren,Ax.look,Ax.put,reduceCtorEq,↓reduceIte,Nat.reduceEqDiff,Nat.reduceLT,Nat.reduceAdd,List.length_append,List.length_cons,List.length_nil,Option.some.injEq]
         · have d4 : decide (rk R = 0) = false := decide_eq_false hk0
           rw [if_neg hk0] at hinv
           have hB := hLE _ hk0 hinv
           simp only [go_sem,zaa,Nat.reduceAdd,Nat.reduceSub,Nat.reduceMul,Int.reduceToNat,reduceCtorEq,↓reduceIte,Int.reducePow,Nat.reducePow,Int.reduceMod,Nat.reduceLeDiff,Int.reduceLE,Int.reduceNe,Int.reduceEq,Nat.reduceEqDiff,Nat.reduceLT,Nat.reduceBEq,ty,Srchk4,zfa,hrk,hl4,d3,hsl,d4,hB,zag,Int.toNat_natCast]
           omega
       · have d3 : decide ((i : Int) < rs.length) = false := decide_eq_false (by omega)
         have hdr : rs.drop i = [] := List.drop_eq_nil_of_le (by omega)
         rw [hdr] at hinv
         have hl0 : layE c (-1) rs = 0 := hinv
         have o1 : okI b := by unfold okI; omega
         have o2 : okI c := by unfold okI; omega
         have o3 : okI p := by unfold okI; omega
         have o4 : okI e := by unfold okI; omega
         have o5 : okI s := by unfold okI; omega
         have hex : ∃ qs : List Rec,rs.map rv = qs.map rv := ⟨rs,rfl⟩
         have hor : (decide ((8192 : Int) < (batL b c p e s rs).length) = true ∧ batE b c p e s rs = 5) ∨ (decide ((8192 : Int) < (batL b c p e s rs).length) = false ∧ batE b c p e s rs = 0) := by
           by_cases h8 : 8192 < (batL b c p e s rs).length
           · exact .inl ⟨decide_eq_true (by omega),by unfold batE; rw [if_pos hF,if_pos hl0,if_pos h8]⟩
           · exact .inr ⟨decide_eq_false (by omega),by unfold batE; rw [if_pos hF,if_pos hl0,if_neg h8]⟩
         rcases hor with ⟨d4,hB⟩ | ⟨d4,hB⟩
         all_goals simp only [go_sem,zaa,Nat.reduceAdd,Nat.reduceSub,Nat.reduceMul,Int.reduceToNat,reduceCtorEq,↓reduceIte,Int.reducePow,Nat.reducePow,Int.reduceMod,Nat.reduceLeDiff,Int.reduceLE,Int.reduceNe,Int.reduceEq,Nat.reduceEqDiff,Nat.reduceLT,Nat.reduceBEq,ty,Srchk4,rlayS4,hl4,hL,d3,d4,hB,hex,o1,o2,o3,o4,o5,zag]
 · exact hp.elim
end
end Go.Proofs.Ytmedjkjoannbmaa
namespace Go.Proofs.Ytmedjkjoannbmaa
open Ax
def sallS : zaq
 | [.sg 6 xs f,.sg 6 ys g],[] => ⟨(xs.length ≤ 9223372036854775807 ∧ ∃ rs : List Rec,xs = rs.map rv) ∧ ys.length ≤ 9223372036854775807 ∧ ∃ qs : List Rec,ys = qs.map rv,
     .w (.bool (decide (xs.map rrec = ys.map rrec))),[]⟩
 | _,_ => zbv
theorem same_cases (b c p e s : Int) (rs : List Rec) (b' c' p' e' s' : Int) (qs : List Rec) :
   (decide (b = b') = false ∧ zdh b c p e s rs b' c' p' e' s' qs = false) ∨
   (decide (b = b') = true ∧ decide (c = c') = false ∧ zdh b c p e s rs b' c' p' e' s' qs = false) ∨
   (decide (b = b') = true ∧ decide (c = c') = true ∧ decide (p = p') = false ∧ zdh b c p e s rs b' c' p' e' s' qs = false) ∨
   (decide (b = b') = true ∧ decide (c = c') = true ∧ decide (p = p') = true ∧ decide (e = e') = false ∧ zdh b c p e s rs b' c' p' e' s' qs = false) ∨
   (decide (b = b') = true ∧ decide (c = c') = true ∧ decide (p = p') = true ∧ decide (e = e') = true ∧ decide (s = s') = false ∧ zdh b c p e s rs b' c' p' e' s' qs = false) ∨
   (decide (b = b') = true ∧ decide (c = c') = true ∧ decide (p = p') = true ∧ decide (e = e') = true ∧ decide (s = s') = true ∧ zdh b c p e s rs b' c' p' e' s' qs = decide (rs = qs)) := by
 unfold zdh
 by_cases h1 : b = b' <;> by_cases h2 : c = c' <;> by_cases h3 : p = p' <;> by_cases h4 : e = e' <;> by_cases h5 : s = s' <;> simp [h1,h2,h3,h4,h5]
def Srput4 (f : FuncId) : Option zaq :=
 match f with
 | 66 => some rchkS4
 | 67 => some rlayS4
 | _ => none
theorem Srput4_ok : Fns Try.prog Srput4 := by
 intro f s h
 unfold Srput4 at h
 split at h
 · injection h with h; subst h; exact ⟨⟨_,Try.func66,by kernel_rfl,by kernel_rfl⟩,rchk4_sound⟩
 · injection h with h; subst h; exact ⟨⟨_,Try.func67,by kernel_rfl,by kernel_rfl⟩,rlay4_sound⟩
 · cases h
def Ssall (f : FuncId) : Option zaq :=
 match f with
 | 89 => some rsameS
 | _ => none
theorem Ssall_ok : Fns Try.prog Ssall := by
 intro f s h
 unfold Ssall at h
 split at h
 · injection h with h; subst h; exact ⟨⟨_,Try.func89,by kernel_rfl,by kernel_rfl⟩,rrsame_sound⟩
 · cases h
section
set_option maxRecDepth 100000
set_option maxHeartbeats 1000000 in
theorem rput4_sound : zbf Try.prog 29 zew := by
 refine zcm (S := Srput4) (T := ty) zbj ty_ok Srput4_ok Try.func29 (c := Try.f29.body.getD .skip) (by kernel_rfl) (by kernel_rfl) (fun xs pins hp _ => ?_)
 unfold zew at hp ⊢
 split at hp
 · rename_i b c p e s xs f _
   obtain ⟨hL,rs,rfl⟩ := hp
   have hl4 : (rs.map rv).length = rs.length := by simp
   rw [hl4] at hL
   have hex : ∃ qs : List Rec,rs.map rv = qs.map rv := ⟨rs,rfl⟩
   refine ⟨by simp,?_⟩
   unfold Try.f29
   by_cases h0 : batE b c p e s rs = 0
   · have hF : bfld b c p e s rs.length = 0 := Classical.byContradiction fun h => h ((batE_eq b c p e s rs h).symm.trans h0)
     have hz := bfld_zero hF
     have o1 : okI b := by unfold okI; omega
     have o2 : okI c := by unfold okI; omega
     have o3 : okI p := by unfold okI; omega
     have o4 : okI e := by unfold okI; omega
     have o5 : okI s := by unfold okI; omega
     have hB : batB b c p e s rs = batL b c p e s rs := if_pos h0
     simp only [go_sem,zaa,Nat.reduceAdd,Nat.reduceSub,Nat.reduceMul,Int.reduceToNat,reduceCtorEq,↓reduceIte,Int.reducePow,Nat.reducePow,Int.reduceMod,Nat.reduceLeDiff,Int.reduceLE,Int.reduceNe,Int.reduceEq,Nat.reduceEqDiff,Nat.reduceLT,Nat.reduceBEq,ty,Srput4,rchkS4,rlayS4,hl4,hL,hex,zag,h0,hB,o1,o2,o3,o4,o5]
     refine ⟨_,Weak.refl _,?_⟩
     simp only [go_sem,coe,zaa,Nat.reduceAdd,Nat.reduceSub,Nat.reduceMul,Int.reduceToNat,reduceCtorEq,↓reduceIte,Int.reducePow,Nat.reducePow,Int.reduceMod,Nat.reduceLeDiff,Int.reduceLE,Int.reduceNe,Int.reduceEq,Nat.reduceEqDiff,Nat.reduceLT,Nat.reduceBEq,ty]
   · have d0 : decide (batE b c p e s rs = 0) = false := decide_eq_false h0
     have hB : batB b c p e s rs = [] := if_neg h0
     simp only [go_sem,zaa,Nat.reduceAdd,Nat.reduceSub,Nat.reduceMul,Int.reduceToNat,reduceCtorEq,↓reduceIte,Int.reducePow,Nat.reducePow,Int.reduceMod,Nat.reduceLeDiff,Int.reduceLE,Int.reduceNe,Int.reduceEq,Nat.reduceEqDiff,Nat.reduceLT,Nat.reduceBEq,ty,Srput4,rchkS4,hl4,hL,hex,zag,d0,hB]
     refine ⟨_,zel 2 (.sb [] false) (fun _ _ _ h => h.nilb),?_⟩
     simp only [go_sem,coe,zaa,Nat.reduceAdd,Nat.reduceSub,Nat.reduceMul,Int.reduceToNat,reduceCtorEq,↓reduceIte,Int.reducePow,Nat.reducePow,Int.reduceMod,Nat.reduceLeDiff,Int.reduceLE,Int.reduceNe,Int.reduceEq,Nat.reduceEqDiff,Nat.reduceLT,Nat.reduceBEq,ty]
 · exact hp.elim
set_option maxHeartbeats 1000000 in
theorem sall_sound : zbf Try.prog 72 sallS := by
 refine zau (S := Ssall) (T := tyF) zbj tyF_ok Ssall_ok Try.func72 (c := Try.f72.body.getD .skip) (by kernel_rfl) (by kernel_rfl) (fun xs pins hp _ => ?_)
 unfold sallS at hp ⊢
 split at hp
 · rename_i xs f ys g _
   obtain ⟨⟨hL1,rs,rfl⟩,hL2,qs,rfl⟩ := hp
   rw [List.length_map] at hL1 hL2
   refine ⟨by simp,?_⟩
   have hlp : (rs.map rv).length = rs.length := by simp
   have hlq : (qs.map rv).length = qs.length := by simp
   unfold Try.f72
   by_cases hl : rs.length = qs.length
   · have d0 : decide ((rs.length : Int) = qs.length) = true := decide_eq_true (by omega)
     have hk : rs = qs ↔ ∀ j (h : j < rs.length) (h' : j < qs.length),rs[j] = qs[j] := ⟨fun h => by subst h; intros; rfl,fun h => List.ext_getElem hl h⟩
     simp only [go_sem,zaa,Nat.reduceAdd,Nat.reduceSub,Nat.reduceMul,Int.reduceToNat,reduceCtorEq,↓reduceIte,Int.reducePow,Nat.reducePow,Int.reduceMod,Nat.reduceLeDiff,Int.reduceLE,Int.reduceNe,Int.reduceEq,Nat.reduceEqDiff,Nat.reduceLT,Nat.reduceBEq,tyF,setFlat,ty,Ssall,hlp,hlq,d0,zag]
     refine zde ⟨fun m σ => ∃ i : Nat,m = rs.length - i ∧ i ≤ rs.length ∧ (∀ j (h : j < rs.length) (h' : j < qs.length),j < i → rs[j] = qs[j]) ∧
         σ = ⟨[.sg 6 (rs.map rv) f,.sg 6 (qs.map rv) g,.junk,.junk,.junk,.w (.int .i64 i),.junk,.junk,.junk,.junk,.junk,.junk,.junk,.junk,.junk,.junk,.junk,.junk,.junk,.junk,.junk,.junk,.junk,.junk,.junk,.junk,.junk],[],4⟩,?_,?_⟩
     · refine ⟨_,_,zai [0,1,2,3] rfl rfl rfl ?_ ?_,0,rfl,by omega,by intro j _ _ h; omega,rfl⟩
       · simp only [ssT,zao,zap,setSlot,gOf,AV.ren,renL,Blk.ren,Ax.look,Ax.put,reduceCtorEq,↓reduceIte,Nat.reduceEqDiff,Nat.reduceLT,Nat.reduceAdd,List.length_append,List.length_cons,List.length_nil,Option.some.injEq]; simp
       · simp only [ssT,zao,zap,setSlot,gOf,AV.ren,renL,Blk.ren,Ax.look,Ax.put,reduceCtorEq,↓reduceIte,Nat.reduceEqDiff,Nat.reduceLT,Nat.reduceAdd,List.length_append,List.length_cons,List.length_nil,Option.some.injEq]
     · rintro m σ ⟨i,rfl,hi,hall,rfl⟩
       by_cases hil : i < rs.length
       · have d1 : decide ((i : Int) < rs.length) = true := decide_eq_true (by omega)
         have e1 : ((i : Int) + 1 + 9223372036854775808) % 18446744073709551616 - 9223372036854775808 = ((i + 1 : Nat) : Int) := by omega
         have hiq : i < qs.length := by omega
         have hs1 := zfi rv rs i hil
         have hs2 := zfi rv qs i hiq
         obtain ⟨P,hP⟩ : ∃ P,rs[i] = P := ⟨_,rfl⟩
         obtain ⟨Q,hQ⟩ : ∃ Q,qs[i] = Q := ⟨_,rfl⟩
         rw [hP] at hs1
         rw [hQ] at hs2
         simp only [rv] at hs1 hs2
         have hsm := sameB_rec P Q
         by_cases ha : P = Q
         · rw [decide_eq_true ha] at hsm
           simp only [go_sem,zaa,Nat.reduceAdd,Nat.reduceSub,Nat.reduceMul,Int.reduceToNat,reduceCtorEq,↓reduceIte,Int.reducePow,Nat.reducePow,Int.reduceMod,Nat.reduceLeDiff,Int.reduceLE,Int.reduceNe,Int.reduceEq,Nat.reduceEqDiff,Nat.reduceLT,Nat.reduceBEq,tyF,setFlat,ty,Ssall,rsameS,hlp,hlq,d1,hs1,hs2,e1,hsm,Int.toNat_natCast]
           repeat (refine And.intro (by omega) ?_)
           refine ⟨rs.length - (i + 1),_,by omega,zai [0,1,2,3] rfl rfl rfl ?_ ?_,i + 1,rfl,by omega,?_,rfl⟩
           · simp only [ssT,zao,zap,setSlot,gOf,AV.ren,renL,Blk.ren,Ax.look,Ax.put,reduceCtorEq,↓reduceIte,Nat.reduceEqDiff,Nat.reduceLT,Nat.reduceAdd,List.length_append,List.length_cons,List.length_nil,Option.some.injEq]
           · simp only [ssT,zao,zap,setSlot,gOf,AV.ren,renL,Blk.ren,Ax.look,Ax.put,reduceCtorEq,↓reduceIte,Nat.reduceEqDiff,Nat.reduceLT,Nat.reduceAdd,List.length_append,List.length_cons,List.length_nil,Option.some.injEq]
           · intro j h h' hj
             rcases Nat.lt_or_ge j i with h2 | h2
             · exact hall j h h' h2
             · have : j = i := by omega
               subst this
               rw [hP,hQ]; exact ha
         · rw [decide_eq_false ha] at hsm
           have dr : decide (rs = qs) = false := decide_eq_false (fun h => ha (by rw [← hP,← hQ]; exact hk.1 h i hil hiq))
           simp only [go_sem,zaa,Nat.reduceAdd,Nat.reduceSub,Nat.reduceMul,Int.reduceToNat,reduceCtorEq,↓reduceIte,Int.reducePow,Nat.reducePow,Int.reduceMod,Nat.reduceLeDiff,Int.reduceLE,Int.reduceNe,Int.reduceEq,Nat.reduceEqDiff,Nat.reduceLT,Nat.reduceBEq,tyF,setFlat,ty,Ssall,rsameS,hlp,hlq,d1,hs1,hs2,e1,hsm,dr,zag,Int.toNat_natCast]
           omega
       · have d1 : decide ((i : Int) < rs.length) = false := decide_eq_false (by omega)
         have dr : decide (rs = qs) = true := decide_eq_true (hk.2 fun j h h' => hall j h h' (by omega))
         simp only [go_sem,zaa,Nat.reduceAdd,Nat.reduceSub,Nat.reduceMul,Int.reduceToNat,reduceCtorEq,↓reduceIte,Int.reducePow,Nat.reducePow,Int.reduceMod,Nat.reduceLeDiff,Int.reduceLE,Int.reduceNe,Int.reduceEq,Nat.reduceEqDiff,Nat.reduceLT,Nat.reduceBEq,tyF,setFlat,ty,Ssall,hlp,hlq,d1,dr,zag]
   · have d0 : decide ((rs.length : Int) = qs.length) = false := decide_eq_false (by omega)
     have dr : decide (rs = qs) = false := decide_eq_false (fun h => hl (by rw [h]))
     simp only [go_sem,zaa,Nat.reduceAdd,Nat.reduceSub,Nat.reduceMul,Int.reduceToNat,reduceCtorEq,↓reduceIte,Int.reducePow,Nat.reducePow,Int.reduceMod,Nat.reduceLeDiff,Int.reduceLE,Int.reduceNe,Int.reduceEq,Nat.reduceEqDiff,Nat.reduceLT,Nat.reduceBEq,tyF,setFlat,ty,Ssall,hlp,hlq,d0,dr,zag]
 · exact hp.elim
def Srsame4 (f : FuncId) : Option zaq :=
 match f with
 | 72 => some sallS
 | _ => none
theorem Srsame4_ok : Fns Try.prog Srsame4 := by
 intro f s h
 unfold Srsame4 at h
 split at h
 · injection h with h; subst h; exact ⟨⟨_,Try.func72,by kernel_rfl,by kernel_rfl⟩,sall_sound⟩
 · cases h
set_option maxHeartbeats 1000000 in
theorem rsame4_sound : zbf Try.prog 34 zfk := by
 refine zau (S := Srsame4) (T := ty) zbj ty_ok Srsame4_ok Try.func34 (c := Try.f34.body.getD .skip) (by kernel_rfl) (by kernel_rfl) (fun xs pins hp _ => ?_)
 unfold zfk at hp ⊢
 split at hp
 · rename_i b c p e s xs f b' c' p' e' s' ys g _
   obtain ⟨⟨hL1,rs,rfl⟩,hL2,qs,rfl⟩ := hp
   rw [List.length_map] at hL1 hL2
   refine ⟨by simp,?_⟩
   have hlp : (rs.map rv).length = rs.length := by simp
   have hlq : (qs.map rv).length = qs.length := by simp
   have hx1 : ∃ qs_1 : List Rec,rs.map rv = qs_1.map rv := ⟨rs,rfl⟩
   have hx2 : ∃ qs_1 : List Rec,qs.map rv = qs_1.map rv := ⟨qs,rfl⟩
   have hc1 : coe ty 22 (.sg 6 (rs.map rv) f) = .sg 6 (rs.map rv) f := by cases rs <;> rfl
   have hc2 : coe ty 22 (.sg 6 (qs.map rv) g) = .sg 6 (qs.map rv) g := by cases qs <;> rfl
   unfold Try.f34
   rcases same_cases b c p e s rs b' c' p' e' s' qs with D | D | D | D | D | D
   all_goals simp only [go_sem,zaa,Nat.reduceAdd,Nat.reduceSub,Nat.reduceMul,Int.reduceToNat,reduceCtorEq,↓reduceIte,Int.reducePow,Nat.reducePow,Int.reduceMod,Nat.reduceLeDiff,Int.reduceLE,Int.reduceNe,Int.reduceEq,Nat.reduceEqDiff,Nat.reduceLT,Nat.reduceBEq,hc1,hc2,ty,Srsame4,sallS,hlp,hlq,hL1,hL2,hx1,hx2,zag,D]
 · exact hp.elim
end
end Go.Proofs.Ytmedjkjoannbmaa
namespace Go.Proofs.Ytmedjkjoannbmaa
open Ax
def zef : zaq
 | [.w (.bool b)],[] => ⟨True,.ms 0 1 0 1,[.b [UInt8.ofNat (bitN b).toNat]]⟩
 | _,_ => zbv
section
set_option maxRecDepth 100000
theorem flag22_sound : zbf Try.prog 32 zef := by
 refine zau (S := noS) (T := ty) zbj ty_ok zcy Try.func32 (c := Try.f32.body.getD .skip) (by kernel_rfl) (by kernel_rfl) (fun xs pins hp _ => ?_)
 unfold zef at hp ⊢
 split at hp
 · rename_i b _
   refine ⟨by simp,?_⟩
   unfold Try.f32
   cases b
   all_goals
     simp only [go_sem,coe,zaa,Nat.reduceAdd,Nat.reduceSub,Nat.reduceMul,Int.reduceToNat,reduceCtorEq,↓reduceIte,Int.reducePow,Nat.reducePow,Int.reduceMod,Nat.reduceLeDiff,Int.reduceLE,Int.reduceNe,Int.reduceEq,Nat.reduceEqDiff,Nat.reduceLT,Nat.reduceBEq,ty,noS,bitN,if_true,if_false,Bool.false_eq_true]
     try decide
 · exact hp.elim
end
end Go.Proofs.Ytmedjkjoannbmaa
