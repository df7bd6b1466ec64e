/- What the proofs of this seat stand on; it asks nothing. -/
import Derived.Test.YtmedjkjoannbmaaZa09
set_option linter.unusedSimpArgs false
set_option linter.unusedVariables false
namespace Go.Proofs.Ytmedjkjoannbmaa
open Ax
theorem put1_ends {T : zag} {sl : List AV} {H : Heap} {nx id n : Nat} {bs rs : List UInt8} {q : Prop} (h2 : slot sl 2 = .ms id 1 0 n) (hl : Ax.look H id = some (.b bs)) (hn : n = bs.length) (hr : rs = bs) :
   EndsW T [.tmp 2] [] ⟨q,.sb rs false,[]⟩ .ret ⟨sl,H,nx⟩ := by
 subst hn hr
 have hs : slot (fzL id rs sl) 2 = .sb rs false := by
   rw [slot_fzL,h2]
   simp [AV.fz]
 refine ⟨_,(weak_fzs 2 h2 hl).trans (zdn 2 (.sb rs false) (fun w loc v h => by rwa [hs] at h)),?_⟩
 have e2 : slot (setSlot (fzL id rs sl) 2 (.sb rs false)) 2 = .sb rs false := slot_set_eq _ _ _ (by rw [hs]; simp)
 simp only [Ax.Ends,Ax.rvals,EndsX,rone,e2,AV.ids,idsL,newIds,upTo,nodup,pinsOf,List.nil_append,AV.ren,renL,and_self]
def okI (n : Int) : Prop := -9223372036854775808 ≤ n ∧ n ≤ 9223372036854775807
def rlayS4 : zai
 | [.agg [.w (.int .i64 b),.w (.int .i64 c),.w (.int .i64 p),.w (.int .i64 e),.w (.int .i64 s),.sg 6 xs f]],[] =>
     ⟨xs.length ≤ 40 ∧ okI b ∧ okI c ∧ okI p ∧ okI e ∧ okI s ∧ ∃ rs : List Rec,xs = rs.map rv,.sb (batL b c p e s (xs.map rrec)) false,[]⟩
 | _,_ => zba
def Srlay4 (f : FuncId) : Option zai :=
 match f with
 | 31 => some putS
 | 88 => some rputS
 | _ => none
theorem Srlay4_ok : Fns Try.prog Srlay4 := by
 intro f s h
 unfold Srlay4 at h
 split at h
 · injection h with h; subst h; exact ⟨⟨_,Try.func31,by kernel_rfl,by kernel_rfl⟩,rput_sound⟩
 · injection h with h; subst h; exact ⟨⟨_,Try.func88,by kernel_rfl,by kernel_rfl⟩,rrecput_sound⟩
 · cases h
theorem headL_len : ∀ (l : List Int),(∀ x ∈ l,okI x) → (zdt l).length ≤ 10 * l.length
 | [],_ => Nat.le_refl _
 | n :: l,h => by
   have h1 := headL_len l (fun x hx => h x (List.mem_cons_of_mem _ hx))
   have h2 := h n (by simp)
   have z := zcz n h2.1 h2.2
   have h3 := zay (zz n).toNat (by omega)
   unfold zdt at h1 ⊢
   rw [List.flatMap_cons,List.length_append,List.length_cons]; omega
section
set_option maxRecDepth 100000
set_option maxHeartbeats 2000000 in
theorem rlay4_sound : zaq Try.prog 67 rlayS4 := by
 refine zbo (S := Srlay4) (T := ty) zas ty_ok Srlay4_ok Try.func67 (c := Try.f67.body.getD .skip) (by kernel_rfl) (by kernel_rfl) (fun xs pins hp _ => ?_)
 unfold rlayS4 at hp ⊢
 split at hp
 · rename_i b c p e s xs f _
   obtain ⟨hL,hb,hc,hpp,he,hs,rs,rfl⟩ := hp
   have hl4 : (rs.map rv).length = rs.length := by simp
   rw [hl4] at hL
   refine ⟨by simp,?_⟩
   unfold Try.f67
   obtain ⟨L,hLL⟩ : ∃ L,nums b c p e s rs.length = L := ⟨_,rfl⟩
   have hlen : L.length = 6 := by rw [← hLL]; rfl
   have hrg : ∀ x ∈ L,okI x := by
     rw [← hLL]; unfold nums
     intro x hx
     simp only [List.mem_cons,List.not_mem_nil,or_false] at hx
     rcases hx with rfl | rfl | rfl | rfl | rfl | rfl
     · exact hb
     · exact hc
     · exact hpp
     · exact he
     · exact hs
     · unfold okI; omega
   have hL2 : [b,c,p,e,s,(rs.length : Int)] = L := hLL
   simp only [go_sem,zaa,Nat.reduceAdd,Nat.reduceSub,Nat.reduceMul,Int.reduceToNat,reduceCtorEq,↓reduceIte,Int.reducePow,Nat.reducePow,Int.reduceMod,Nat.reduceLeDiff,Int.reduceLE,Int.reduceNe,Int.reduceEq,Nat.reduceEqDiff,Nat.reduceLT,Nat.reduceBEq,ty,Srlay4,hl4,hL,hL2,zah]
   have ht : top = 4294967296 := rfl
   refine zbr ⟨fun m σ => ∃ k : Nat,m = 6 - k ∧ k ≤ 6 ∧
       σ = ⟨[.agg [.w (.int .i64 b),.w (.int .i64 c),.w (.int .i64 p),.w (.int .i64 e),.w (.int .i64 s),.sg 6 (rs.map rv) f],.rf 4 6 0 0,.junk,.ms 6 1 0 (zdt (L.take k)).length,.ms 5 1 0 6,.w (.int .i64 k),.junk,.junk,.junk,.junk,.junk,.junk,.junk,.junk,.junk,.junk,.junk,.junk,.junk,.junk,.junk,.junk,.junk,.junk,.junk,.junk,.junk,.junk,.junk,.junk,.junk,.junk,.junk,.junk,.junk,.junk,.junk,.junk,.junk,.junk,.junk,.junk,.junk,.junk,.junk,.junk,.junk,.junk,.junk,.junk,.junk,.junk,.junk,.junk,.junk,.junk],[(4,.g 6 [.agg [.w (.int .i64 b),.w (.int .i64 c),.w (.int .i64 p),.w (.int .i64 e),.w (.int .i64 s),.sg 6 (rs.map rv) f]]),(5,.i L),(6,.b (zdt (L.take k)))],7⟩,?_,?_⟩
   · refine ⟨_,_,(weak_nil 3 1 (.b []) rfl (by exact trivial)).trans (zad [0,1,2,3,4,132,156] rfl rfl rfl ?_ ?_),0,rfl,by omega,rfl⟩
     · simp only [ssT,zae,zaf,setSlot,gOf,AV.ren,renL,Blk.ren,Ax.look,Ax.put,reduceCtorEq,↓reduceIte,Nat.reduceEqDiff,Nat.reduceLT,Nat.reduceAdd,List.length_append,List.length_cons,List.length_nil,Option.some.injEq]; first | exact ⟨by simp [zdt],rfl,rfl⟩ | (simp [zdt]; done)
     · simp only [ssT,zae,zaf,setSlot,gOf,AV.ren,renL,Blk.ren,Ax.look,Ax.put,reduceCtorEq,↓reduceIte,Nat.reduceEqDiff,Nat.reduceLT,Nat.reduceAdd,List.length_append,List.length_cons,List.length_nil,Option.some.injEq]; rfl
   · rintro m σ ⟨k,rfl,hk,rfl⟩
     have e1 : ((k : Int) + 1 + 9223372036854775808) % 18446744073709551616 - 9223372036854775808 = ((k + 1 : Nat) : Int) := by omega
     by_cases hk6 : k < 6
     · have d1 : decide ((k : Int) < ((6 : Nat) : Int)) = true := decide_eq_true (by omega)
       have hkl : k < L.length := by omega
       obtain ⟨N,hN⟩ : ∃ N,L.getD k 0 = N := ⟨_,rfl⟩
       have hNe : L[k] = N := by rw [← hN]; simp [hkl]
       obtain ⟨hN1,hN2⟩ := hrg N (hNe ▸ List.getElem_mem hkl)
       have z := zcz N hN1 hN2
       have hPl := zay (zz N).toNat (by omega)
       have hsn : zdt (L.take (k + 1)) = zdt (L.take k) ++ putU (zz N).toNat := by
         rw [List.take_succ_eq_append_getElem hkl,headL_snoc,hNe]
       have hhl := headL_len (L.take k) (fun x hx => hrg x (List.mem_of_mem_take hx))
       rw [List.length_take] at hhl
       obtain ⟨P,hP⟩ : ∃ P,putU (zz N).toNat = P := ⟨_,rfl⟩
       rw [hP] at hsn hPl
       simp only [go_sem,zaa,Nat.reduceAdd,Nat.reduceSub,Nat.reduceMul,Int.reduceToNat,reduceCtorEq,↓reduceIte,Int.reducePow,Nat.reducePow,Int.reduceMod,Nat.reduceLeDiff,Int.reduceLE,Int.reduceNe,Int.reduceEq,Nat.reduceEqDiff,Nat.reduceLT,Nat.reduceBEq,ty,Srlay4,putS,d1,hN,hP,hN1,hN2,e1,hlen,List.take_length,Int.toNat_natCast,Nat.zero_add]
       repeat (refine And.intro (by omega) ?_)
       refine ⟨6 - (k + 1),_,by omega,zad [0,1,2,3,4,5,87] rfl rfl rfl ?_ ?_,k + 1,rfl,by omega,rfl⟩
       · simp only [ssT,zae,zaf,setSlot,gOf,AV.ren,renL,Blk.ren,Ax.look,Ax.put,reduceCtorEq,↓reduceIte,Nat.reduceEqDiff,Nat.reduceLT,Nat.reduceAdd,List.length_append,List.length_cons,List.length_nil,Option.some.injEq,hsn,List.length_append]
       · simp only [ssT,zae,zaf,setSlot,gOf,AV.ren,renL,Blk.ren,Ax.look,Ax.put,reduceCtorEq,↓reduceIte,Nat.reduceEqDiff,Nat.reduceLT,Nat.reduceAdd,List.length_append,List.length_cons,List.length_nil,Option.some.injEq,hsn]
     · have d1 : decide ((k : Int) < ((6 : Nat) : Int)) = false := decide_eq_false (by omega)
       have hk2 : L.take k = L := List.take_of_length_le (by omega)
       have hHl := headL_len L hrg
       simp only [go_sem,zaa,Nat.reduceAdd,Nat.reduceSub,Nat.reduceMul,Int.reduceToNat,reduceCtorEq,↓reduceIte,Int.reducePow,Nat.reducePow,Int.reduceMod,Nat.reduceLeDiff,Int.reduceLE,Int.reduceNe,Int.reduceEq,Nat.reduceEqDiff,Nat.reduceLT,Nat.reduceBEq,ty,Srlay4,d1,hk2]
       refine zbr ⟨fun m σ => ∃ i : Nat,m = rs.length - i ∧ i ≤ rs.length ∧
           σ = ⟨[.agg [.w (.int .i64 b),.w (.int .i64 c),.w (.int .i64 p),.w (.int .i64 e),.w (.int .i64 s),.sg 6 (rs.map rv) f],.rf 4 6 0 0,.junk,.ms 5 1 0 (zdt L ++ (rs.take i).flatMap rb).length,.junk,.junk,.w (.int .i64 i),.junk,.junk,.junk,.junk,.junk,.junk,.junk,.junk,.junk,.junk,.junk,.junk,.junk,.junk,.junk,.junk,.junk,.junk,.junk,.junk,.junk,.junk,.junk,.junk,.junk,.junk,.junk,.junk,.junk,.junk,.junk,.junk,.junk,.junk,.junk,.junk,.junk,.junk,.junk,.junk,.junk,.junk,.junk,.junk,.junk,.junk,.junk,.junk,.junk],[(4,.g 6 [.agg [.w (.int .i64 b),.w (.int .i64 c),.w (.int .i64 p),.w (.int .i64 e),.w (.int .i64 s),.sg 6 (rs.map rv) f]]),(5,.b (zdt L ++ (rs.take i).flatMap rb))],6⟩,?_,?_⟩
       · refine ⟨_,_,zad [0,1,2,3,4,6] rfl rfl rfl ?_ ?_,0,rfl,by omega,rfl⟩
         · simp only [ssT,zae,zaf,setSlot,gOf,AV.ren,renL,Blk.ren,Ax.look,Ax.put,reduceCtorEq,↓reduceIte,Nat.reduceEqDiff,Nat.reduceLT,Nat.reduceAdd,List.length_append,List.length_cons,List.length_nil,Option.some.injEq]; simp
         · simp only [ssT,zae,zaf,setSlot,gOf,AV.ren,renL,Blk.ren,Ax.look,Ax.put,reduceCtorEq,↓reduceIte,Nat.reduceEqDiff,Nat.reduceLT,Nat.reduceAdd,List.length_append,List.length_cons,List.length_nil,Option.some.injEq]; simp
       · rintro m σ ⟨i,rfl,hi,rfl⟩
         have e2 : ((i : Int) + 1 + 9223372036854775808) % 18446744073709551616 - 9223372036854775808 = ((i + 1 : Nat) : Int) := by omega
         have hbl := rbs_length (rs.take i)
         rw [List.length_take] at hbl
         obtain ⟨O,hO⟩ : ∃ O,zdt L ++ (rs.take i).flatMap rb = O := ⟨_,rfl⟩
         have hOl : O.length ≤ 60 + 700 * 40 := by rw [← hO,List.length_append]; omega
         by_cases hil : i < rs.length
         · have d3 : decide ((i : Int) < rs.length) = true := decide_eq_true (by omega)
           have hsl := zee rv rs i hil
           have htk : (rs.take (i + 1)).flatMap rb = (rs.take i).flatMap rb ++ rb rs[i] := by
             rw [List.take_succ_eq_append_getElem hil,List.flatMap_append,List.flatMap_cons,List.flatMap_nil,List.append_nil]
           obtain ⟨R,hR⟩ : ∃ R,rs[i] = R := ⟨_,rfl⟩
           rw [hR] at hsl htk
           simp only [rv] at hsl
           have hRl := rb_length R
           have hrb : recB R.d R.t R.k R.key R.dd R.val = rb R := rfl
           have htk2 : zdt L ++ (rs.take (i + 1)).flatMap rb = O ++ rb R := by rw [htk,← hO,List.append_assoc]
           have hln2 : (zdt L).length + ((rs.take (i + 1)).flatMap rb).length = O.length + (rb R).length := by rw [← List.length_append,htk2,List.length_append]
           simp only [go_sem,zaa,Nat.reduceAdd,Nat.reduceSub,Nat.reduceMul,Int.reduceToNat,reduceCtorEq,↓reduceIte,Int.reducePow,Nat.reducePow,Int.reduceMod,Nat.reduceLeDiff,Int.reduceLE,Int.reduceNe,Int.reduceEq,Nat.reduceEqDiff,Nat.reduceLT,Nat.reduceBEq,ty,Srlay4,rputS,hrb,hO,hl4,d3,hsl,e2,List.take_length,Int.toNat_natCast]
           repeat (refine And.intro (by omega) ?_)
           refine ⟨rs.length - (i + 1),_,by omega,zad [0,1,2,3,4,150] rfl rfl rfl ?_ ?_,i + 1,rfl,by omega,rfl⟩
           · simp only [ssT,zae,zaf,setSlot,gOf,AV.ren,renL,Blk.ren,Ax.look,Ax.put,reduceCtorEq,↓reduceIte,Nat.reduceEqDiff,Nat.reduceLT,Nat.reduceAdd,List.length_append,List.length_cons,List.length_nil,Option.some.injEq,htk2,List.length_append,hln2]
           · simp only [ssT,zae,zaf,setSlot,gOf,AV.ren,renL,Blk.ren,Ax.look,Ax.put,reduceCtorEq,↓reduceIte,Nat.reduceEqDiff,Nat.reduceLT,Nat.reduceAdd,List.length_append,List.length_cons,List.length_nil,Option.some.injEq,htk2]
         · have d3 : decide ((i : Int) < rs.length) = false := decide_eq_false (by omega)
           have htk : rs.take i = rs := List.take_of_length_le (by omega)
           have hOe : batL b c p e s rs = O := by unfold batL; rw [hLL,← hO,htk]
           simp only [go_sem,zaa,Nat.reduceAdd,Nat.reduceSub,Nat.reduceMul,Int.reduceToNat,reduceCtorEq,↓reduceIte,Int.reducePow,Nat.reducePow,Int.reduceMod,Nat.reduceLeDiff,Int.reduceLE,Int.reduceNe,Int.reduceEq,Nat.reduceEqDiff,Nat.reduceLT,Nat.reduceBEq,ty,Srlay4,hO,hl4,d3,zah,hOe]
           exact put1_ends rfl rfl rfl rfl
 · exact hp.elim
end
end Go.Proofs.Ytmedjkjoannbmaa
namespace Go.Proofs.Ytmedjkjoannbmaa
open Ax
theorem fld_cases (b c p e s n : Int) :
   (decide (c < 1) = true ∧ bfld b c p e s n = 11) ∨
   (decide (c < 1) = false ∧ decide (32 < c) = true ∧ bfld b c p e s n = 11) ∨
   (decide (c < 1) = false ∧ decide (32 < c) = false ∧ decide (b < 0) = true ∧ bfld b c p e s n = 11) ∨
   (decide (c < 1) = false ∧ decide (32 < c) = false ∧ (4611686018427387903 - c + 9223372036854775808) % 18446744073709551616 - 9223372036854775808 = 4611686018427387903 - c ∧ decide (b < 0) = false ∧ decide (4611686018427387903 - c < b) = true ∧ bfld b c p e s n = 11) ∨
   (decide (c < 1) = false ∧ decide (32 < c) = false ∧ (4611686018427387903 - c + 9223372036854775808) % 18446744073709551616 - 9223372036854775808 = 4611686018427387903 - c ∧ decide (b < 0) = false ∧ decide (4611686018427387903 - c < b) = false ∧
     ((decide (p < 0) = true ∧ bfld b c p e s n = 11) ∨
      (decide (p < 0) = false ∧ decide (1099511627776 < p) = true ∧ bfld b c p e s n = 11) ∨
      (decide (p < 0) = false ∧ decide (1099511627776 < p) = false ∧ decide (e < 0) = true ∧ bfld b c p e s n = 11) ∨
      (decide (p < 0) = false ∧ decide (1099511627776 < p) = false ∧ decide (e < 0) = false ∧ decide (32767 < e) = true ∧ bfld b c p e s n = 11) ∨
      (decide (p < 0) = false ∧ decide (1099511627776 < p) = false ∧ decide (e < 0) = false ∧ decide (32767 < e) = false ∧ decide (s < 0) = true ∧ bfld b c p e s n = 11) ∨
      (decide (p < 0) = false ∧ decide (1099511627776 < p) = false ∧ decide (e < 0) = false ∧ decide (32767 < e) = false ∧ decide (s < 0) = false ∧ decide (2147483647 < s) = true ∧ bfld b c p e s n = 11) ∨
      (decide (p < 0) = false ∧ decide (1099511627776 < p) = false ∧ decide (e < 0) = false ∧ decide (32767 < e) = false ∧ decide (s < 0) = false ∧ decide (2147483647 < s) = false ∧
       ((decide (p = 0) = true ∧ decide (e = 0) = false ∧ bfld b c p e s n = 4) ∨
        (decide (p = 0) = true ∧ decide (e = 0) = true ∧ decide (s = 0) = false ∧ bfld b c p e s n = 4) ∨
        (decide (p = 0) = true ∧ decide (e = 0) = true ∧ decide (s = 0) = true ∧ decide (c < n) = true ∧ bfld b c p e s n = 5) ∨
        (decide (p = 0) = false ∧ decide (c < n) = true ∧ bfld b c p e s n = 5) ∨
        (decide (p = 0) = true ∧ decide (e = 0) = true ∧ decide (s = 0) = true ∧ decide (c < n) = false ∧ bfld b c p e s n = 0) ∨
        (decide (p = 0) = false ∧ decide (c < n) = false ∧ bfld b c p e s n = 0))))) := by
 unfold bfld
 simp only [decide_eq_true_eq,decide_eq_false_iff_not]
 by_cases h0 : c < 1
 · exact .inl ⟨h0,if_pos (by omega)⟩
 by_cases h1 : 32 < c
 · exact .inr (.inl ⟨h0,h1,if_pos (by omega)⟩)
 by_cases h2 : b < 0
 · exact .inr (.inr (.inl ⟨h0,h1,h2,if_pos (by omega)⟩))
 by_cases h3 : 4611686018427387903 - c < b
 · exact .inr (.inr (.inr (.inl ⟨h0,h1,by omega,h2,h3,if_pos (by omega)⟩)))
 refine .inr (.inr (.inr (.inr ⟨h0,h1,by omega,h2,h3,?_⟩)))
 by_cases h4 : p < 0
 · exact .inl ⟨h4,if_pos (by omega)⟩
 by_cases h5 : 1099511627776 < p
 · exact .inr (.inl ⟨h4,h5,if_pos (by omega)⟩)
 by_cases h6 : e < 0
 · exact .inr (.inr (.inl ⟨h4,h5,h6,if_pos (by omega)⟩))
 by_cases h7 : 32767 < e
 · exact .inr (.inr (.inr (.inl ⟨h4,h5,h6,h7,if_pos (by omega)⟩)))
 by_cases h8 : s < 0
 · exact .inr (.inr (.inr (.inr (.inl ⟨h4,h5,h6,h7,h8,if_pos (by omega)⟩))))
 by_cases h9 : 2147483647 < s
 · exact .inr (.inr (.inr (.inr (.inr (.inl ⟨h4,h5,h6,h7,h8,h9,if_pos (by omega)⟩)))))
 refine .inr (.inr (.inr (.inr (.inr (.inr ⟨h4,h5,h6,h7,h8,h9,?_⟩)))))
 rw [if_neg (by omega)]
 by_cases hp : p = 0
 · by_cases he : e = 0
   · by_cases hs : s = 0
     · by_cases hc : c < n
       · exact .inr (.inr (.inl ⟨hp,he,hs,hc,by rw [if_neg (by omega),if_pos hc]⟩))
       · exact .inr (.inr (.inr (.inr (.inl ⟨hp,he,hs,hc,by rw [if_neg (by omega),if_neg hc]⟩))))
     · exact .inr (.inl ⟨hp,he,hs,if_pos (by omega)⟩)
   · exact .inl ⟨hp,he,if_pos (by omega)⟩
 · by_cases hc : c < n
   · exact .inr (.inr (.inr (.inl ⟨hp,hc,by rw [if_neg (by omega),if_pos hc]⟩)))
   · exact .inr (.inr (.inr (.inr (.inr ⟨hp,hc,by rw [if_neg (by omega),if_neg hc]⟩))))
def rchkS4 : zai
 | [.agg [.w (.int .i64 b),.w (.int .i64 c),.w (.int .i64 p),.w (.int .i64 e),.w (.int .i64 s),.sg 6 xs f]],[] =>
     ⟨xs.length ≤ 40 ∧ ∃ rs : List Rec,xs = rs.map rv,.w (.int .i64 (batE b c p e s (xs.map rrec))),[]⟩
 | _,_ => zba
def zfn : zai
 | [.agg [.w (.int .i64 b),.w (.int .i64 c),.w (.int .i64 p),.w (.int .i64 e),.w (.int .i64 s),.sg 6 xs f]],[] => ⟨xs.length ≤ 40 ∧ ∃ rs : List Rec,xs = rs.map rv,
     .tup [.sb (batB b c p e s (xs.map rrec)) false,.w (.int .i64 (batE b c p e s (xs.map rrec)))],[]⟩
 | _,_ => zba
theorem batE_eq (b c p e s : Int) (rs : List Rec) (h : bfld b c p e s rs.length ≠ 0) : batE b c p e s rs = bfld b c p e s rs.length := if_neg h
def Srchk4 (f : FuncId) : Option zai :=
 match f with
 | 67 => some rlayS4
 | 87 => some zbh
 | _ => none
theorem Srchk4_ok : Fns Try.prog Srchk4 := by
 intro f s h
 unfold Srchk4 at h
 split at h
 · injection h with h; subst h; exact ⟨⟨_,Try.func67,by kernel_rfl,by kernel_rfl⟩,rlay4_sound⟩
 · injection h with h; subst h; exact ⟨⟨_,Try.func87,by kernel_rfl,by kernel_rfl⟩,rrcheck_sound⟩
 · cases h
section
set_option maxRecDepth 100000
set_option maxHeartbeats 4000000 in
theorem rchk4_sound : zaq Try.prog 66 rchkS4 := by
 refine zak (S := Srchk4) (T := ty) zas ty_ok Srchk4_ok Try.func66 (c := Try.f66.body.getD .skip) (by kernel_rfl) (by kernel_rfl) (fun xs pins hp _ => ?_)
 unfold rchkS4 at hp ⊢
 split at hp
 · rename_i b c p e s xs f _
   obtain ⟨hL,rs,rfl⟩ := hp
   have hl4 : (rs.map rv).length = rs.length := by simp
   rw [hl4] at hL
   refine ⟨by simp,?_⟩
   unfold Try.f66
   have hE := batE_eq b c p e s rs
   have n1 : ((11 : Int) ≠ 0) = True := by decide
   have n2 : ((4 : Int) ≠ 0) = True := by decide
   have n3 : ((5 : Int) ≠ 0) = True := by decide
   rcases fld_cases b c p e s rs.length with D | D | D | D | ⟨a0,a1,a2,a3,a4,D | D | D | D | D | D | ⟨a5,a6,a7,a8,a9,a10,D | D | D | D | D | D⟩⟩
   all_goals simp only [go_sem,zaa,Nat.reduceAdd,Nat.reduceSub,Nat.reduceMul,Int.reduceToNat,reduceCtorEq,↓reduceIte,Int.reducePow,Nat.reducePow,Int.reduceMod,Nat.reduceLeDiff,Int.reduceLE,Int.reduceNe,Int.reduceEq,Nat.reduceEqDiff,Nat.reduceLT,Nat.reduceBEq,ty,Srchk4,hl4,zah, *]
   all_goals
     have hF : bfld b c p e s rs.length = 0 := by simp only [D]
     have hz := bfld_zero hF
     clear D hE n1 n2 n3
     refine zbr ⟨fun m σ => ∃ (i : Nat) (a : Int),m = rs.length - i ∧ i ≤ rs.length ∧ layE c (-1) rs = layE c a (rs.drop i) ∧
         σ = ⟨[.agg [.w (.int .i64 b),.w (.int .i64 c),.w (.int .i64 p),.w (.int .i64 e),.w (.int .i64 s),.sg 6 (rs.map rv) f],.rf 4 6 0 0,.junk,.w (.int .i64 a),.w (.int .i64 i),.junk,.junk,.junk,.junk,.junk,.junk,.junk,.junk,.junk,.junk,.junk,.junk,.junk,.junk,.junk,.junk,.junk,.junk,.junk,.junk,.junk,.junk,.junk,.junk,.junk,.junk,.junk,.junk,.junk,.junk,.junk,.junk,.junk,.junk,.junk,.junk,.junk,.junk,.junk,.junk,.junk,.junk,.junk,.junk,.junk,.junk,.junk,.junk,.junk,.junk,.junk,.junk,.junk,.junk,.junk,.junk,.junk,.junk,.junk,.junk,.junk,.junk,.junk,.junk,.junk,.junk,.junk,.junk,.junk,.junk,.junk,.junk,.junk,.junk,.junk,.junk,.junk,.junk,.junk,.junk,.junk,.junk,.junk,.junk,.junk,.junk,.junk,.junk,.junk,.junk,.junk,.junk,.junk,.junk,.junk,.junk,.junk,.junk,.junk,.junk,.junk,.junk,.junk,.junk,.junk,.junk,.junk,.junk,.junk,.junk,.junk,.junk,.junk,.junk,.junk,.junk,.junk,.junk,.junk,.junk],[(4,.g 6 [.agg [.w (.int .i64 b),.w (.int .i64 c),.w (.int .i64 p),.w (.int .i64 e),.w (.int .i64 s),.sg 6 (rs.map rv) f]])],5⟩,?_,?_⟩
     · refine ⟨_,_,zad [0,1,2,3,4] rfl rfl rfl ?_ ?_,0,-1,rfl,by omega,by rw [List.drop_zero],rfl⟩
       · simp only [ssT,zae,zaf,setSlot,gOf,AV.ren,renL,Blk.ren,Ax.look,Ax.put,reduceCtorEq,↓reduceIte,Nat.reduceEqDiff,Nat.reduceLT,Nat.reduceAdd,List.length_append,List.length_cons,List.length_nil,Option.some.injEq]; try simp
       · simp only [ssT,zae,zaf,setSlot,gOf,AV.ren,renL,Blk.ren,Ax.look,Ax.put,reduceCtorEq,↓reduceIte,Nat.reduceEqDiff,Nat.reduceLT,Nat.reduceAdd,List.length_append,List.length_cons,List.length_nil,Option.some.injEq]
     · rintro m σ ⟨i,a,rfl,hi,hinv,rfl⟩
       have e2 : ((i : Int) + 1 + 9223372036854775808) % 18446744073709551616 - 9223372036854775808 = ((i + 1 : Nat) : Int) := by omega
       by_cases hil : i < rs.length
       · have d3 : decide ((i : Int) < rs.length) = true := decide_eq_true (by omega)
         have hsl := zee rv rs i hil
         have hdr : rs.drop i = rs[i] :: rs.drop (i + 1) := List.drop_eq_getElem_cons hil
         obtain ⟨R,hR⟩ : ∃ R,rs[i] = R := ⟨_,rfl⟩
         rw [hR] at hsl hdr
         simp only [rv] at hsl
         rw [hdr,layE_cons] at hinv
         have hrk : rchk R.d R.t R.k R.key R.dd R.val = rk R := rfl
         have hLE : ∀ v,v ≠ 0 → layE c (-1) rs = v → batE b c p e s rs = v := fun v h1 h2 => by unfold batE; rw [if_pos hF,if_neg (by rw [h2]; exact h1),h2]
         by_cases hk0 : rk R = 0
         · have d4 : decide (rk R = 0) = true := decide_eq_true hk0
           rw [if_pos hk0] at hinv
           have hor : (decide (R.d ≤ a) = true ∧ batE b c p e s rs = 16) ∨ (decide (R.d ≤ a) = false ∧ decide (c ≤ R.d) = true ∧ batE b c p e s rs = 16) ∨ (decide (R.d ≤ a) = false ∧ decide (c ≤ R.d) = false ∧ layE c (-1) rs = layE c R.d (rs.drop (i + 1))) := by
             by_cases hA : R.d ≤ a
             · rw [if_pos (.inl hA)] at hinv
               exact .inl ⟨decide_eq_true hA,hLE 16 (by decide) hinv⟩
             · by_cases hC : c ≤ R.d
               · rw [if_pos (.inr hC)] at hinv
                 exact .inr (.inl ⟨decide_eq_false hA,decide_eq_true hC,hLE 16 (by decide) hinv⟩)
               · rw [if_neg (by omega)] at hinv
                 exact .inr (.inr ⟨decide_eq_false hA,decide_eq_false hC,hinv⟩)
           clear hinv
           rcases hor with D | D | D
           all_goals simp only [go_sem,zaa,Nat.reduceAdd,Nat.reduceSub,Nat.reduceMul,Int.reduceToNat,reduceCtorEq,↓reduceIte,Int.reducePow,Nat.reducePow,Int.reduceMod,Nat.reduceLeDiff,Int.reduceLE,Int.reduceNe,Int.reduceEq,Nat.reduceEqDiff,Nat.reduceLT,Nat.reduceBEq,ty,Srchk4,zbh,hrk,hl4,d3,hsl,d4,e2,zah,Int.toNat_natCast,D]
           all_goals repeat (refine And.intro (by omega) ?_)
           all_goals try omega
           refine ⟨rs.length - (i + 1),_,by omega,zad [0,1,2,3,4] rfl rfl rfl ?_ ?_,i + 1,R.d,rfl,by omega,rfl,rfl⟩
           · simp only [ssT,zae,zaf,setSlot,gOf,AV.ren,renL,Blk.ren,Ax.look,Ax.put,reduceCtorEq,↓reduceIte,Nat.reduceEqDiff,Nat.reduceLT,Nat.reduceAdd,List.length_append,List.length_cons,List.length_nil,Option.some.injEq]
           · simp only [ssT,zae,zaf,setSlot,gOf,AV.ren,renL,Blk.ren,Ax.look,Ax.put,reduceCtorEq,↓reduceIte,Nat.reduceEqDiff,Nat.reduceLT,Nat.reduceAdd,List.length_append,List.length_cons,List.length_nil,Option.some.injEq]
         · have d4 : decide (rk R = 0) = false := decide_eq_false hk0
           rw [if_neg hk0] at hinv
           have hB := hLE _ hk0 hinv
           simp only [go_sem,zaa,Nat.reduceAdd,Nat.reduceSub,Nat.reduceMul,Int.reduceToNat,reduceCtorEq,↓reduceIte,Int.reducePow,Nat.reducePow,Int.reduceMod,Nat.reduceLeDiff,Int.reduceLE,Int.reduceNe,Int.reduceEq,Nat.reduceEqDiff,Nat.reduceLT,Nat.reduceBEq,ty,Srchk4,zbh,hrk,hl4,d3,hsl,d4,hB,zah,Int.toNat_natCast]
           omega
       · have d3 : decide ((i : Int) < rs.length) = false := decide_eq_false (by omega)
         have hdr : rs.drop i = [] := List.drop_eq_nil_of_le (by omega)
         rw [hdr] at hinv
         have hl0 : layE c (-1) rs = 0 := hinv
         have o1 : okI b := by unfold okI; omega
         have o2 : okI c := by unfold okI; omega
         have o3 : okI p := by unfold okI; omega
         have o4 : okI e := by unfold okI; omega
         have o5 : okI s := by unfold okI; omega
         have hex : ∃ qs : List Rec,rs.map rv = qs.map rv := ⟨rs,rfl⟩
         have hor : (decide ((8192 : Int) < (batL b c p e s rs).length) = true ∧ batE b c p e s rs = 5) ∨ (decide ((8192 : Int) < (batL b c p e s rs).length) = false ∧ batE b c p e s rs = 0) := by
           by_cases h8 : 8192 < (batL b c p e s rs).length
           · exact .inl ⟨decide_eq_true (by omega),by unfold batE; rw [if_pos hF,if_pos hl0,if_pos h8]⟩
           · exact .inr ⟨decide_eq_false (by omega),by unfold batE; rw [if_pos hF,if_pos hl0,if_neg h8]⟩
         rcases hor with ⟨d4,hB⟩ | ⟨d4,hB⟩
         all_goals simp only [go_sem,zaa,Nat.reduceAdd,Nat.reduceSub,Nat.reduceMul,Int.reduceToNat,reduceCtorEq,↓reduceIte,Int.reducePow,Nat.reducePow,Int.reduceMod,Nat.reduceLeDiff,Int.reduceLE,Int.reduceNe,Int.reduceEq,Nat.reduceEqDiff,Nat.reduceLT,Nat.reduceBEq,ty,Srchk4,rlayS4,hl4,hL,d3,d4,hB,hex,o1,o2,o3,o4,o5,zah]
 · exact hp.elim
end
end Go.Proofs.Ytmedjkjoannbmaa
namespace Go.Proofs.Ytmedjkjoannbmaa
open Ax
def sallS : zai
 | [.sg 6 xs f,.sg 6 ys g],[] => ⟨(xs.length ≤ 9223372036854775807 ∧ ∃ rs : List Rec,xs = rs.map rv) ∧ ys.length ≤ 9223372036854775807 ∧ ∃ qs : List Rec,ys = qs.map rv,
     .w (.bool (decide (xs.map rrec = ys.map rrec))),[]⟩
 | _,_ => zba
theorem same_cases (b c p e s : Int) (rs : List Rec) (b' c' p' e' s' : Int) (qs : List Rec) :
   (decide (b = b') = false ∧ zcl b c p e s rs b' c' p' e' s' qs = false) ∨
   (decide (b = b') = true ∧ decide (c = c') = false ∧ zcl b c p e s rs b' c' p' e' s' qs = false) ∨
   (decide (b = b') = true ∧ decide (c = c') = true ∧ decide (p = p') = false ∧ zcl b c p e s rs b' c' p' e' s' qs = false) ∨
   (decide (b = b') = true ∧ decide (c = c') = true ∧ decide (p = p') = true ∧ decide (e = e') = false ∧ zcl b c p e s rs b' c' p' e' s' qs = false) ∨
   (decide (b = b') = true ∧ decide (c = c') = true ∧ decide (p = p') = true ∧ decide (e = e') = true ∧ decide (s = s') = false ∧ zcl b c p e s rs b' c' p' e' s' qs = false) ∨
   (decide (b = b') = true ∧ decide (c = c') = true ∧ decide (p = p') = true ∧ decide (e = e') = true ∧ decide (s = s') = true ∧ zcl b c p e s rs b' c' p' e' s' qs = decide (rs = qs)) := by
 unfold zcl
 by_cases h1 : b = b' <;> by_cases h2 : c = c' <;> by_cases h3 : p = p' <;> by_cases h4 : e = e' <;> by_cases h5 : s = s' <;> simp [h1,h2,h3,h4,h5]
def Srput4 (f : FuncId) : Option zai :=
 match f with
 | 66 => some rchkS4
 | 67 => some rlayS4
 | _ => none
theorem Srput4_ok : Fns Try.prog Srput4 := by
 intro f s h
 unfold Srput4 at h
 split at h
 · injection h with h; subst h; exact ⟨⟨_,Try.func66,by kernel_rfl,by kernel_rfl⟩,rchk4_sound⟩
 · injection h with h; subst h; exact ⟨⟨_,Try.func67,by kernel_rfl,by kernel_rfl⟩,rlay4_sound⟩
 · cases h
def Ssall (f : FuncId) : Option zai :=
 match f with
 | 89 => some rsameS
 | _ => none
theorem Ssall_ok : Fns Try.prog Ssall := by
 intro f s h
 unfold Ssall at h
 split at h
 · injection h with h; subst h; exact ⟨⟨_,Try.func89,by kernel_rfl,by kernel_rfl⟩,rrsame_sound⟩
 · cases h
section
set_option maxRecDepth 100000
set_option maxHeartbeats 1000000 in
theorem rput4_sound : zaq Try.prog 29 zfn := by
 refine zbo (S := Srput4) (T := ty) zas ty_ok Srput4_ok Try.func29 (c := Try.f29.body.getD .skip) (by kernel_rfl) (by kernel_rfl) (fun xs pins hp _ => ?_)
 unfold zfn at hp ⊢
 split at hp
 · rename_i b c p e s xs f _
   obtain ⟨hL,rs,rfl⟩ := hp
   have hl4 : (rs.map rv).length = rs.length := by simp
   rw [hl4] at hL
   have hex : ∃ qs : List Rec,rs.map rv = qs.map rv := ⟨rs,rfl⟩
   refine ⟨by simp,?_⟩
   unfold Try.f29
   by_cases h0 : batE b c p e s rs = 0
   · have hF : bfld b c p e s rs.length = 0 := Classical.byContradiction fun h => h ((batE_eq b c p e s rs h).symm.trans h0)
     have hz := bfld_zero hF
     have o1 : okI b := by unfold okI; omega
     have o2 : okI c := by unfold okI; omega
     have o3 : okI p := by unfold okI; omega
     have o4 : okI e := by unfold okI; omega
     have o5 : okI s := by unfold okI; omega
     have hB : batB b c p e s rs = batL b c p e s rs := if_pos h0
     simp only [go_sem,zaa,Nat.reduceAdd,Nat.reduceSub,Nat.reduceMul,Int.reduceToNat,reduceCtorEq,↓reduceIte,Int.reducePow,Nat.reducePow,Int.reduceMod,Nat.reduceLeDiff,Int.reduceLE,Int.reduceNe,Int.reduceEq,Nat.reduceEqDiff,Nat.reduceLT,Nat.reduceBEq,ty,Srput4,rchkS4,rlayS4,hl4,hL,hex,zah,h0,hB,o1,o2,o3,o4,o5]
     refine ⟨_,Weak.refl _,?_⟩
     simp only [go_sem,coe,zaa,Nat.reduceAdd,Nat.reduceSub,Nat.reduceMul,Int.reduceToNat,reduceCtorEq,↓reduceIte,Int.reducePow,Nat.reducePow,Int.reduceMod,Nat.reduceLeDiff,Int.reduceLE,Int.reduceNe,Int.reduceEq,Nat.reduceEqDiff,Nat.reduceLT,Nat.reduceBEq,ty]
   · have d0 : decide (batE b c p e s rs = 0) = false := decide_eq_false h0
     have hB : batB b c p e s rs = [] := if_neg h0
     simp only [go_sem,zaa,Nat.reduceAdd,Nat.reduceSub,Nat.reduceMul,Int.reduceToNat,reduceCtorEq,↓reduceIte,Int.reducePow,Nat.reducePow,Int.reduceMod,Nat.reduceLeDiff,Int.reduceLE,Int.reduceNe,Int.reduceEq,Nat.reduceEqDiff,Nat.reduceLT,Nat.reduceBEq,ty,Srput4,rchkS4,hl4,hL,hex,zah,d0,hB]
     refine ⟨_,zdn 2 (.sb [] false) (fun _ _ _ h => h.nilb),?_⟩
     simp only [go_sem,coe,zaa,Nat.reduceAdd,Nat.reduceSub,Nat.reduceMul,Int.reduceToNat,reduceCtorEq,↓reduceIte,Int.reducePow,Nat.reducePow,Int.reduceMod,Nat.reduceLeDiff,Int.reduceLE,Int.reduceNe,Int.reduceEq,Nat.reduceEqDiff,Nat.reduceLT,Nat.reduceBEq,ty]
 · exact hp.elim
set_option maxHeartbeats 1000000 in
theorem sall_sound : zaq Try.prog 72 sallS := by
 refine zak (S := Ssall) (T := tyF) zas tyF_ok Ssall_ok Try.func72 (c := Try.f72.body.getD .skip) (by kernel_rfl) (by kernel_rfl) (fun xs pins hp _ => ?_)
 unfold sallS at hp ⊢
 split at hp
 · rename_i xs f ys g _
   obtain ⟨⟨hL1,rs,rfl⟩,hL2,qs,rfl⟩ := hp
   rw [List.length_map] at hL1 hL2
   refine ⟨by simp,?_⟩
   have hlp : (rs.map rv).length = rs.length := by simp
   have hlq : (qs.map rv).length = qs.length := by simp
   unfold Try.f72
   by_cases hl : rs.length = qs.length
   · have d0 : decide ((rs.length : Int) = qs.length) = true := decide_eq_true (by omega)
     have hk : rs = qs ↔ ∀ j (h : j < rs.length) (h' : j < qs.length),rs[j] = qs[j] := ⟨fun h => by subst h; intros; rfl,fun h => List.ext_getElem hl h⟩
     simp only [go_sem,zaa,Nat.reduceAdd,Nat.reduceSub,Nat.reduceMul,Int.reduceToNat,reduceCtorEq,↓reduceIte,Int.reducePow,Nat.reducePow,Int.reduceMod,Nat.reduceLeDiff,Int.reduceLE,Int.reduceNe,Int.reduceEq,Nat.reduceEqDiff,Nat.reduceLT,Nat.reduceBEq,tyF,zdm,ty,Ssall,hlp,hlq,d0,zah]
     refine zbr ⟨fun m σ => ∃ i : Nat,m = rs.length - i ∧ i ≤ rs.length ∧ (∀ j (h : j < rs.length) (h' : j < qs.length),j < i → rs[j] = qs[j]) ∧
         σ = ⟨[.sg 6 (rs.map rv) f,.sg 6 (qs.map rv) g,.junk,.junk,.junk,.w (.int .i64 i),.junk,.junk,.junk,.junk,.junk,.junk,.junk,.junk,.junk,.junk,.junk,.junk,.junk,.junk,.junk,.junk,.junk,.junk,.junk,.junk,.junk],[],4⟩,?_,?_⟩
     · refine ⟨_,_,zad [0,1,2,3] rfl rfl rfl ?_ ?_,0,rfl,by omega,by intro j _ _ h; omega,rfl⟩
       · simp only [ssT,zae,zaf,setSlot,gOf,AV.ren,renL,Blk.ren,Ax.look,Ax.put,reduceCtorEq,↓reduceIte,Nat.reduceEqDiff,Nat.reduceLT,Nat.reduceAdd,List.length_append,List.length_cons,List.length_nil,Option.some.injEq]; simp
       · simp only [ssT,zae,zaf,setSlot,gOf,AV.ren,renL,Blk.ren,Ax.look,Ax.put,reduceCtorEq,↓reduceIte,Nat.reduceEqDiff,Nat.reduceLT,Nat.reduceAdd,List.length_append,List.length_cons,List.length_nil,Option.some.injEq]
     · rintro m σ ⟨i,rfl,hi,hall,rfl⟩
       by_cases hil : i < rs.length
       · have d1 : decide ((i : Int) < rs.length) = true := decide_eq_true (by omega)
         have e1 : ((i : Int) + 1 + 9223372036854775808) % 18446744073709551616 - 9223372036854775808 = ((i + 1 : Nat) : Int) := by omega
         have hiq : i < qs.length := by omega
         have hs1 := zee rv rs i hil
         have hs2 := zee rv qs i hiq
         obtain ⟨P,hP⟩ : ∃ P,rs[i] = P := ⟨_,rfl⟩
         obtain ⟨Q,hQ⟩ : ∃ Q,qs[i] = Q := ⟨_,rfl⟩
         rw [hP] at hs1
         rw [hQ] at hs2
         simp only [rv] at hs1 hs2
         have hsm := sameB_rec P Q
         by_cases ha : P = Q
         · rw [decide_eq_true ha] at hsm
           simp only [go_sem,zaa,Nat.reduceAdd,Nat.reduceSub,Nat.reduceMul,Int.reduceToNat,reduceCtorEq,↓reduceIte,Int.reducePow,Nat.reducePow,Int.reduceMod,Nat.reduceLeDiff,Int.reduceLE,Int.reduceNe,Int.reduceEq,Nat.reduceEqDiff,Nat.reduceLT,Nat.reduceBEq,tyF,zdm,ty,Ssall,rsameS,hlp,hlq,d1,hs1,hs2,e1,hsm,Int.toNat_natCast]
           repeat (refine And.intro (by omega) ?_)
           refine ⟨rs.length - (i + 1),_,by omega,zad [0,1,2,3] rfl rfl rfl ?_ ?_,i + 1,rfl,by omega,?_,rfl⟩
           · simp only [ssT,zae,zaf,setSlot,gOf,AV.ren,renL,Blk.ren,Ax.look,Ax.put,reduceCtorEq,↓reduceIte,Nat.reduceEqDiff,Nat.reduceLT,Nat.reduceAdd,List.length_append,List.length_cons,List.length_nil,Option.some.injEq]
           · simp only [ssT,zae,zaf,setSlot,gOf,AV.ren,renL,Blk.ren,Ax.look,Ax.put,reduceCtorEq,↓reduceIte,Nat.reduceEqDiff,Nat.reduceLT,Nat.reduceAdd,List.length_append,List.length_cons,List.length_nil,Option.some.injEq]
           · intro j h h' hj
             rcases Nat.lt_or_ge j i with h2 | h2
             · exact hall j h h' h2
             · have : j = i := by omega
               subst this
               rw [hP,hQ]; exact ha
         · rw [decide_eq_false ha] at hsm
           have dr : decide (rs = qs) = false := decide_eq_false (fun h => ha (by rw [← hP,← hQ]; exact hk.1 h i hil hiq))
           simp only [go_sem,zaa,Nat.reduceAdd,Nat.reduceSub,Nat.reduceMul,Int.reduceToNat,reduceCtorEq,↓reduceIte,Int.reducePow,Nat.reducePow,Int.reduceMod,Nat.reduceLeDiff,Int.reduceLE,Int.reduceNe,Int.reduceEq,Nat.reduceEqDiff,Nat.reduceLT,Nat.reduceBEq,tyF,zdm,ty,Ssall,rsameS,hlp,hlq,d1,hs1,hs2,e1,hsm,dr,zah,Int.toNat_natCast]
           omega
       · have d1 : decide ((i : Int) < rs.length) = false := decide_eq_false (by omega)
         have dr : decide (rs = qs) = true := decide_eq_true (hk.2 fun j h h' => hall j h h' (by omega))
         simp only [go_sem,zaa,Nat.reduceAdd,Nat.reduceSub,Nat.reduceMul,Int.reduceToNat,reduceCtorEq,↓reduceIte,Int.reducePow,Nat.reducePow,Int.reduceMod,Nat.reduceLeDiff,Int.reduceLE,Int.reduceNe,Int.reduceEq,Nat.reduceEqDiff,Nat.reduceLT,Nat.reduceBEq,tyF,zdm,ty,Ssall,hlp,hlq,d1,dr,zah]
   · have d0 : decide ((rs.length : Int) = qs.length) = false := decide_eq_false (by omega)
     have dr : decide (rs = qs) = false := decide_eq_false (fun h => hl (by rw [h]))
     simp only [go_sem,zaa,Nat.reduceAdd,Nat.reduceSub,Nat.reduceMul,Int.reduceToNat,reduceCtorEq,↓reduceIte,Int.reducePow,Nat.reducePow,Int.reduceMod,Nat.reduceLeDiff,Int.reduceLE,Int.reduceNe,Int.reduceEq,Nat.reduceEqDiff,Nat.reduceLT,Nat.reduceBEq,tyF,zdm,ty,Ssall,hlp,hlq,d0,dr,zah]
 · exact hp.elim
def Srsame4 (f : FuncId) : Option zai :=
 match f with
 | 72 => some sallS
 | _ => none
theorem Srsame4_ok : Fns Try.prog Srsame4 := by
 intro f s h
 unfold Srsame4 at h
 split at h
 · injection h with h; subst h; exact ⟨⟨_,Try.func72,by kernel_rfl,by kernel_rfl⟩,sall_sound⟩
 · cases h
set_option maxHeartbeats 1000000 in
theorem rsame4_sound : zaq Try.prog 34 zeg := by
 refine zak (S := Srsame4) (T := ty) zas ty_ok Srsame4_ok Try.func34 (c := Try.f34.body.getD .skip) (by kernel_rfl) (by kernel_rfl) (fun xs pins hp _ => ?_)
 unfold zeg at hp ⊢
 split at hp
 · rename_i b c p e s xs f b' c' p' e' s' ys g _
   obtain ⟨⟨hL1,rs,rfl⟩,hL2,qs,rfl⟩ := hp
   rw [List.length_map] at hL1 hL2
   refine ⟨by simp,?_⟩
   have hlp : (rs.map rv).length = rs.length := by simp
   have hlq : (qs.map rv).length = qs.length := by simp
   have hx1 : ∃ qs_1 : List Rec,rs.map rv = qs_1.map rv := ⟨rs,rfl⟩
   have hx2 : ∃ qs_1 : List Rec,qs.map rv = qs_1.map rv := ⟨qs,rfl⟩
   have hc1 : coe ty 22 (.sg 6 (rs.map rv) f) = .sg 6 (rs.map rv) f := by cases rs <;> rfl
   have hc2 : coe ty 22 (.sg 6 (qs.map rv) g) = .sg 6 (qs.map rv) g := by cases qs <;> rfl
   unfold Try.f34
   rcases same_cases b c p e s rs b' c' p' e' s' qs with D | D | D | D | D | D
   all_goals simp only [go_sem,zaa,Nat.reduceAdd,Nat.reduceSub,Nat.reduceMul,Int.reduceToNat,reduceCtorEq,↓reduceIte,Int.reducePow,Nat.reducePow,Int.reduceMod,Nat.reduceLeDiff,Int.reduceLE,Int.reduceNe,Int.reduceEq,Nat.reduceEqDiff,Nat.reduceLT,Nat.reduceBEq,hc1,hc2,ty,Srsame4,sallS,hlp,hlq,hL1,hL2,hx1,hx2,zah,D]
 · exact hp.elim
end
end Go.Proofs.Ytmedjkjoannbmaa
namespace Go.Proofs.Ytmedjkjoannbmaa
open Ax
def eqQ (k : Int) (t : List UInt8) (i p : Int) (c f : Bool) (o m w : Int) (g mb : List UInt8) (n : Int) (k' : Int) (t' : List UInt8) (i' p' : Int) (c' f' : Bool) (o' m' w' : Int) (g' mb' : List UInt8) (n' : Int) (B : Bool) : Bool := decide (k = k' ∧ t = t' ∧ i = i' ∧ p = p' ∧ c = c' ∧ f = f' ∧ o = o' ∧ m = m' ∧ w = w' ∧ g = g' ∧ mb = mb' ∧ n = n') && B
theorem eqQ_cases (k : Int) (t : List UInt8) (i p : Int) (c f : Bool) (o m w : Int) (g mb : List UInt8) (n : Int) (k' : Int) (t' : List UInt8) (i' p' : Int) (c' f' : Bool) (o' m' w' : Int) (g' mb' : List UInt8) (n' : Int) :
   ((∀ B,eqQ k t i p c f o m w g mb n k' t' i' p' c' f' o' m' w' g' mb' n' B = false) ∧ decide (k = k') = false) ∨
   ((∀ B,eqQ k t i p c f o m w g mb n k' t' i' p' c' f' o' m' w' g' mb' n' B = false) ∧ decide (k = k') = true ∧ decide (t = t') = false) ∨
   ((∀ B,eqQ k t i p c f o m w g mb n k' t' i' p' c' f' o' m' w' g' mb' n' B = false) ∧ decide (k = k') = true ∧ decide (t = t') = true ∧ decide (i = i') = false) ∨
   ((∀ B,eqQ k t i p c f o m w g mb n k' t' i' p' c' f' o' m' w' g' mb' n' B = false) ∧ decide (k = k') = true ∧ decide (t = t') = true ∧ decide (i = i') = true ∧ decide (p = p') = false) ∨
   ((∀ B,eqQ k t i p c f o m w g mb n k' t' i' p' c' f' o' m' w' g' mb' n' B = false) ∧ decide (k = k') = true ∧ decide (t = t') = true ∧ decide (i = i') = true ∧ decide (p = p') = true ∧ (c == c') = false) ∨
   ((∀ B,eqQ k t i p c f o m w g mb n k' t' i' p' c' f' o' m' w' g' mb' n' B = false) ∧ decide (k = k') = true ∧ decide (t = t') = true ∧ decide (i = i') = true ∧ decide (p = p') = true ∧ (c == c') = true ∧ (f == f') = false) ∨
   ((∀ B,eqQ k t i p c f o m w g mb n k' t' i' p' c' f' o' m' w' g' mb' n' B = false) ∧ decide (k = k') = true ∧ decide (t = t') = true ∧ decide (i = i') = true ∧ decide (p = p') = true ∧ (c == c') = true ∧ (f == f') = true ∧ decide (o = o') = false) ∨
   ((∀ B,eqQ k t i p c f o m w g mb n k' t' i' p' c' f' o' m' w' g' mb' n' B = false) ∧ decide (k = k') = true ∧ decide (t = t') = true ∧ decide (i = i') = true ∧ decide (p = p') = true ∧ (c == c') = true ∧ (f == f') = true ∧ decide (o = o') = true ∧ decide (m = m') = false) ∨
   ((∀ B,eqQ k t i p c f o m w g mb n k' t' i' p' c' f' o' m' w' g' mb' n' B = false) ∧ decide (k = k') = true ∧ decide (t = t') = true ∧ decide (i = i') = true ∧ decide (p = p') = true ∧ (c == c') = true ∧ (f == f') = true ∧ decide (o = o') = true ∧ decide (m = m') = true ∧ decide (w = w') = false) ∨
   ((∀ B,eqQ k t i p c f o m w g mb n k' t' i' p' c' f' o' m' w' g' mb' n' B = false) ∧ decide (k = k') = true ∧ decide (t = t') = true ∧ decide (i = i') = true ∧ decide (p = p') = true ∧ (c == c') = true ∧ (f == f') = true ∧ decide (o = o') = true ∧ decide (m = m') = true ∧ decide (w = w') = true ∧ decide (g = g') = false) ∨
   ((∀ B,eqQ k t i p c f o m w g mb n k' t' i' p' c' f' o' m' w' g' mb' n' B = false) ∧ decide (k = k') = true ∧ decide (t = t') = true ∧ decide (i = i') = true ∧ decide (p = p') = true ∧ (c == c') = true ∧ (f == f') = true ∧ decide (o = o') = true ∧ decide (m = m') = true ∧ decide (w = w') = true ∧ decide (g = g') = true ∧ decide (mb = mb') = false) ∨
   ((∀ B,eqQ k t i p c f o m w g mb n k' t' i' p' c' f' o' m' w' g' mb' n' B = false) ∧ decide (k = k') = true ∧ decide (t = t') = true ∧ decide (i = i') = true ∧ decide (p = p') = true ∧ (c == c') = true ∧ (f == f') = true ∧ decide (o = o') = true ∧ decide (m = m') = true ∧ decide (w = w') = true ∧ decide (g = g') = true ∧ decide (mb = mb') = true ∧ decide (n = n') = false) ∨
   ((∀ B,eqQ k t i p c f o m w g mb n k' t' i' p' c' f' o' m' w' g' mb' n' B = B) ∧ decide (k = k') = true ∧ decide (t = t') = true ∧ decide (i = i') = true ∧ decide (p = p') = true ∧ (c == c') = true ∧ (f == f') = true ∧ decide (o = o') = true ∧ decide (m = m') = true ∧ decide (w = w') = true ∧ decide (g = g') = true ∧ decide (mb = mb') = true ∧ decide (n = n') = true) := by
 by_cases h0 : k = k'
 case neg =>
   exact .inl ⟨fun B => by unfold eqQ; rw [decide_eq_false (fun h => h0 h.1)]; rfl,decide_eq_false h0⟩
 by_cases h1 : t = t'
 case neg =>
   exact .inr (.inl ⟨fun B => by unfold eqQ; rw [decide_eq_false (fun h => h1 h.2.1)]; rfl,decide_eq_true h0,decide_eq_false h1⟩)
 by_cases h2 : i = i'
 case neg =>
   exact .inr (.inr (.inl ⟨fun B => by unfold eqQ; rw [decide_eq_false (fun h => h2 h.2.2.1)]; rfl,decide_eq_true h0,decide_eq_true h1,decide_eq_false h2⟩))
 by_cases h3 : p = p'
 case neg =>
   exact .inr (.inr (.inr (.inl ⟨fun B => by unfold eqQ; rw [decide_eq_false (fun h => h3 h.2.2.2.1)]; rfl,decide_eq_true h0,decide_eq_true h1,decide_eq_true h2,decide_eq_false h3⟩)))
 by_cases h4 : c = c'
 case neg =>
   exact .inr (.inr (.inr (.inr (.inl ⟨fun B => by unfold eqQ; rw [decide_eq_false (fun h => h4 h.2.2.2.2.1)]; rfl,decide_eq_true h0,decide_eq_true h1,decide_eq_true h2,decide_eq_true h3,(beq_false_of_ne h4)⟩))))
 by_cases h5 : f = f'
 case neg =>
   exact .inr (.inr (.inr (.inr (.inr (.inl ⟨fun B => by unfold eqQ; rw [decide_eq_false (fun h => h5 h.2.2.2.2.2.1)]; rfl,decide_eq_true h0,decide_eq_true h1,decide_eq_true h2,decide_eq_true h3,(by rw [h4]; exact beq_self_eq_true _),(beq_false_of_ne h5)⟩)))))
 by_cases h6 : o = o'
 case neg =>
   exact .inr (.inr (.inr (.inr (.inr (.inr (.inl ⟨fun B => by unfold eqQ; rw [decide_eq_false (fun h => h6 h.2.2.2.2.2.2.1)]; rfl,decide_eq_true h0,decide_eq_true h1,decide_eq_true h2,decide_eq_true h3,(by rw [h4]; exact beq_self_eq_true _),(by rw [h5]; exact beq_self_eq_true _),decide_eq_false h6⟩))))))
 by_cases h7 : m = m'
 case neg =>
   exact .inr (.inr (.inr (.inr (.inr (.inr (.inr (.inl ⟨fun B => by unfold eqQ; rw [decide_eq_false (fun h => h7 h.2.2.2.2.2.2.2.1)]; rfl,decide_eq_true h0,decide_eq_true h1,decide_eq_true h2,decide_eq_true h3,(by rw [h4]; exact beq_self_eq_true _),(by rw [h5]; exact beq_self_eq_true _),decide_eq_true h6,decide_eq_false h7⟩)))))))
 by_cases h8 : w = w'
 case neg =>
   exact .inr (.inr (.inr (.inr (.inr (.inr (.inr (.inr (.inl ⟨fun B => by unfold eqQ; rw [decide_eq_false (fun h => h8 h.2.2.2.2.2.2.2.2.1)]; rfl,decide_eq_true h0,decide_eq_true h1,decide_eq_true h2,decide_eq_true h3,(by rw [h4]; exact beq_self_eq_true _),(by rw [h5]; exact beq_self_eq_true _),decide_eq_true h6,decide_eq_true h7,decide_eq_false h8⟩))))))))
 by_cases h9 : g = g'
 case neg =>
   exact .inr (.inr (.inr (.inr (.inr (.inr (.inr (.inr (.inr (.inl ⟨fun B => by unfold eqQ; rw [decide_eq_false (fun h => h9 h.2.2.2.2.2.2.2.2.2.1)]; rfl,decide_eq_true h0,decide_eq_true h1,decide_eq_true h2,decide_eq_true h3,(by rw [h4]; exact beq_self_eq_true _),(by rw [h5]; exact beq_self_eq_true _),decide_eq_true h6,decide_eq_true h7,decide_eq_true h8,decide_eq_false h9⟩)))))))))
 by_cases h10 : mb = mb'
 case neg =>
   exact .inr (.inr (.inr (.inr (.inr (.inr (.inr (.inr (.inr (.inr (.inl ⟨fun B => by unfold eqQ; rw [decide_eq_false (fun h => h10 h.2.2.2.2.2.2.2.2.2.2.1)]; rfl,decide_eq_true h0,decide_eq_true h1,decide_eq_true h2,decide_eq_true h3,(by rw [h4]; exact beq_self_eq_true _),(by rw [h5]; exact beq_self_eq_true _),decide_eq_true h6,decide_eq_true h7,decide_eq_true h8,decide_eq_true h9,decide_eq_false h10⟩))))))))))
 by_cases h11 : n = n'
 case neg =>
   exact .inr (.inr (.inr (.inr (.inr (.inr (.inr (.inr (.inr (.inr (.inr (.inl ⟨fun B => by unfold eqQ; rw [decide_eq_false (fun h => h11 h.2.2.2.2.2.2.2.2.2.2.2)]; rfl,decide_eq_true h0,decide_eq_true h1,decide_eq_true h2,decide_eq_true h3,(by rw [h4]; exact beq_self_eq_true _),(by rw [h5]; exact beq_self_eq_true _),decide_eq_true h6,decide_eq_true h7,decide_eq_true h8,decide_eq_true h9,decide_eq_true h10,decide_eq_false h11⟩)))))))))))
 exact .inr (.inr (.inr (.inr (.inr (.inr (.inr (.inr (.inr (.inr (.inr (.inr (⟨fun B => by unfold eqQ; rw [decide_eq_true ⟨h0,h1,h2,h3,h4,h5,h6,h7,h8,h9,h10,h11⟩]; rfl,decide_eq_true h0,decide_eq_true h1,decide_eq_true h2,decide_eq_true h3,(by rw [h4]; exact beq_self_eq_true _),(by rw [h5]; exact beq_self_eq_true _),decide_eq_true h6,decide_eq_true h7,decide_eq_true h8,decide_eq_true h9,decide_eq_true h10,decide_eq_true h11⟩))))))))))))
def zfe : zai
 | [.agg [.w (.int .u8 k),.str t,.w (.int .i64 i),.w (.int .i64 p),.w (.bool c),.w (.bool f),.w (.int .i64 o),.w (.int .i64 m),.w (.int .i64 w),.str g,.str mb,.w (.int .i64 n),.w (.int .i64 b1),.w (.int .i64 b2),.w (.int .i64 b3),.w (.int .i64 b4),.w (.int .i64 b5),.sg 6 xs fl],.agg [.w (.int .u8 k'),.str t',.w (.int .i64 i'),.w (.int .i64 p'),.w (.bool c'),.w (.bool f'),.w (.int .i64 o'),.w (.int .i64 m'),.w (.int .i64 w'),.str g',.str mb',.w (.int .i64 n'),.w (.int .i64 b1'),.w (.int .i64 b2'),.w (.int .i64 b3'),.w (.int .i64 b4'),.w (.int .i64 b5'),.sg 6 ys fm]],[] =>
     ⟨(xs.length ≤ 9223372036854775807 ∧ ∃ rs : List Rec,xs = rs.map rv) ∧ ys.length ≤ 9223372036854775807 ∧ ∃ qs : List Rec,ys = qs.map rv,.w (.bool (eqQ k t i p c f o m w g mb n k' t' i' p' c' f' o' m' w' g' mb' n' (zcl b1 b2 b3 b4 b5 (xs.map rrec) b1' b2' b3' b4' b5' (ys.map rrec)))),[]⟩
 | _,_ => zba
def Ssreq22 (f : FuncId) : Option zai :=
 match f with
 | 33 => some zeg
 | _ => none
theorem Ssreq22_ok : Fns Try.prog Ssreq22 := by
 intro f s h
 unfold Ssreq22 at h
 split at h
 · injection h with h; subst h; exact ⟨⟨_,Try.func33,by kernel_rfl,by kernel_rfl⟩,bsame4_sound⟩
 · cases h
section
set_option maxRecDepth 100000
set_option maxHeartbeats 8000000 in
theorem sreq22_sound : zaq Try.prog 12 zfe := by
 refine zbo (S := Ssreq22) (T := ty) zas ty_ok Ssreq22_ok Try.func12 (c := Try.f12.body.getD .skip) (by kernel_rfl) (by kernel_rfl) (fun xs pins hp _ => ?_)
 unfold zfe at hp ⊢
 split at hp
 · rename_i k t i p c f o m w g mb n b1 b2 b3 b4 b5 xs fl k' t' i' p' c' f' o' m' w' g' mb' n' b1' b2' b3' b4' b5' ys fm _
   obtain ⟨hX,hY1,hY2⟩ := hp
   refine ⟨by simp,?_⟩
   unfold Try.f12
   rcases eqQ_cases k t i p c f o m w g mb n k' t' i' p' c' f' o' m' w' g' mb' n' with D | D | D | D | D | D | D | D | D | D | D | D | D
   all_goals
     simp only [go_sem,coe,zaa,Nat.reduceAdd,Nat.reduceSub,Nat.reduceMul,Int.reduceToNat,reduceCtorEq,↓reduceIte,Int.reducePow,Nat.reducePow,Int.reduceMod,Nat.reduceLeDiff,Int.reduceLE,Int.reduceNe,Int.reduceEq,Nat.reduceEqDiff,Nat.reduceLT,Nat.reduceBEq,ty,Ssreq22,zeg,hX,hY1,hY2,D]
     exact zao 4 rfl
 · exact hp.elim
end
end Go.Proofs.Ytmedjkjoannbmaa
namespace Go.Proofs.Ytmedjkjoannbmaa
open Ax
def zbv (k : Int) (t : List UInt8) (i p : Int) (c f : Bool) (o m w : Int) (g mb : List UInt8) (n b1 b2 b3 b4 b5 : Int) (rs : List Rec) : Bool :=
 eqQ k t i p c f o m w g mb n k (if k = 0 ∨ k = 1 ∨ k = 2 ∨ k = 3 ∨ k = 4 ∨ k = 5 ∨ k = 7 ∨ k = 10 ∨ k = 11 then t else []) (if k = 3 ∨ k = 4 ∨ k = 5 ∨ k = 10 ∨ k = 11 then i else 0) (if k = 0 then p else 0) (if k = 0 then c else false) (if k = 3 then f else false) (if k = 4 ∨ k = 10 then o else 0) (if k = 4 then m else 0) (if k = 5 then w else 0) (if k = 6 ∨ k = 7 ∨ k = 8 ∨ k = 9 ∨ k = 10 ∨ k = 11 then g else []) (if k = 6 ∨ k = 7 ∨ k = 8 ∨ k = 9 ∨ k = 10 then mb else []) (if k = 7 ∨ k = 8 ∨ k = 10 then n else 0) (zcl b1 b2 b3 b4 b5 rs (if k = 3 then b1 else 0) (if k = 3 then b2 else 0) (if k = 3 then b3 else 0) (if k = 3 then b4 else 0) (if k = 3 then b5 else 0) (if k = 3 then rs else []))
def zfk (t g mb : List UInt8) : Prop := 255 < t.length ∨ 255 < g.length ∨ 255 < mb.length
instance (t g mb : List UInt8) : Decidable (zfk t g mb) := by unfold zfk; infer_instance
def chkQ (k : Int) (t : List UInt8) (i p : Int) (c f : Bool) (o m w : Int) (g mb : List UInt8) (n b1 b2 b3 b4 b5 : Int) (rs : List Rec) : Int :=
 if 11 < k then 22 else if zbv k t i p c f o m w g mb n b1 b2 b3 b4 b5 rs = false then 4 else if zfk t g mb then 5 else if k ≠ 3 then 0 else if batE 0 b2 b3 b4 b5 rs ≠ 0 then batE 0 b2 b3 b4 b5 rs else if b1 ≠ 0 then 4 else 0
def chkQS : zai
 | [.agg [.w (.int .u8 k),.str t,.w (.int .i64 i),.w (.int .i64 p),.w (.bool c),.w (.bool f),.w (.int .i64 o),.w (.int .i64 m),.w (.int .i64 w),.str g,.str mb,.w (.int .i64 n),.w (.int .i64 b1),.w (.int .i64 b2),.w (.int .i64 b3),.w (.int .i64 b4),.w (.int .i64 b5),.sg 6 xs fl]],[] => ⟨0 ≤ k ∧ k < 256 ∧ xs.length ≤ 9223372036854775807 ∧ ∃ rs : List Rec,xs = rs.map rv,.w (.int .i64 (chkQ k t i p c f o m w g mb n b1 b2 b3 b4 b5 (xs.map rrec))),[]⟩
 | _,_ => zba
theorem long_cases (t g mb : List UInt8) :
   (decide ((255 : Int) < t.length) = true ∧ zfk t g mb) ∨ (decide ((255 : Int) < t.length) = false ∧ decide ((255 : Int) < g.length) = true ∧ zfk t g mb) ∨
   (decide ((255 : Int) < t.length) = false ∧ decide ((255 : Int) < g.length) = false ∧ decide ((255 : Int) < mb.length) = true ∧ zfk t g mb) ∨
   (decide ((255 : Int) < t.length) = false ∧ decide ((255 : Int) < g.length) = false ∧ decide ((255 : Int) < mb.length) = false ∧ ¬ zfk t g mb) := by
 unfold zfk
 by_cases h1 : 255 < t.length
 · exact .inl ⟨decide_eq_true (by omega),.inl h1⟩
 · by_cases h2 : 255 < g.length
   · exact .inr (.inl ⟨decide_eq_false (by omega),decide_eq_true (by omega),.inr (.inl h2)⟩)
   · by_cases h3 : 255 < mb.length
     · exact .inr (.inr (.inl ⟨decide_eq_false (by omega),decide_eq_false (by omega),decide_eq_true (by omega),.inr (.inr h3)⟩))
     · exact .inr (.inr (.inr ⟨decide_eq_false (by omega),decide_eq_false (by omega),decide_eq_false (by omega),by omega⟩))
theorem only_recs (k : Int) (rs : List Rec) (hL : (rs.map rv).length ≤ 9223372036854775807) : (if k = 3 then rs.map rv else []).length ≤ 9223372036854775807 ∧ (∃ qs : List Rec,(if k = 3 then rs.map rv else []) = qs.map rv) ∧ (if k = 3 then rs.map rv else []).map rrec = (if k = 3 then rs else []) := by
 by_cases h : k = 3
 · rw [if_pos h,if_pos h]; exact ⟨hL,⟨rs,rfl⟩,zah rs⟩
 · rw [if_neg h,if_neg h]; exact ⟨by simp,⟨[],rfl⟩,rfl⟩
theorem only_told (k : Int) (t : List UInt8) (i p : Int) (c f : Bool) (o m w : Int) (g mb : List UInt8) (n b1 b2 b3 b4 b5 : Int) (rs : List Rec) (fl : Bool) (hL : (rs.map rv).length ≤ 9223372036854775807) :
   ∃ (t' : List UInt8) (i' p' : Int) (c' f' : Bool) (o' m' w' : Int) (g' mb' : List UInt8) (n' b1' b2' b3' b4' b5' : Int) (ys : List AV) (fm : Bool),
     onlyQ k t i p c f o m w g mb n b1 b2 b3 b4 b5 (rs.map rv) fl = .agg [.w (.int .u8 k),.str t',.w (.int .i64 i'),.w (.int .i64 p'),.w (.bool c'),.w (.bool f'),.w (.int .i64 o'),.w (.int .i64 m'),.w (.int .i64 w'),.str g',.str mb',.w (.int .i64 n'),.w (.int .i64 b1'),.w (.int .i64 b2'),.w (.int .i64 b3'),.w (.int .i64 b4'),.w (.int .i64 b5'),.sg 6 ys fm] ∧
     ys.length ≤ 9223372036854775807 ∧ (∃ qs : List Rec,ys = qs.map rv) ∧ eqQ k t i p c f o m w g mb n k t' i' p' c' f' o' m' w' g' mb' n' (zcl b1 b2 b3 b4 b5 rs b1' b2' b3' b4' b5' (ys.map rrec)) = zbv k t i p c f o m w g mb n b1 b2 b3 b4 b5 rs := by
 obtain ⟨h1,h2,h3⟩ := only_recs k rs hL
 refine ⟨_,_,_,_,_,_,_,_,_,_,_,_,_,_,_,_,_,_,rfl,h1,h2,?_⟩
 rw [h3]; rfl
def SchkQ (f : FuncId) : Option zai :=
 match f with
 | 60 => some zcw
 | 12 => some zfe
 | 61 => some bchkS4
 | _ => none
theorem SchkQ_ok : Fns Try.prog SchkQ := by
 intro f s h
 unfold SchkQ at h
 split at h
 · injection h with h; subst h; exact ⟨⟨_,Try.func60,by kernel_rfl,by kernel_rfl⟩,just22_sound⟩
 · injection h with h; subst h; exact ⟨⟨_,Try.func12,by kernel_rfl,by kernel_rfl⟩,sreq22_sound⟩
 · injection h with h; subst h; exact ⟨⟨_,Try.func61,by kernel_rfl,by kernel_rfl⟩,bchk4_sound⟩
 · cases h
def chkQPl : Plan := fun id => match id with
 | 3 => some [(0,2)]
 | _ => none
section
set_option maxRecDepth 100000
set_option maxHeartbeats 8000000 in
theorem chkQ_sound : zaq Try.prog 26 chkQS := by
 refine fn_soundF (S := SchkQ) (T := ty) (pl := chkQPl) zas ty_ok SchkQ_ok Try.func26 (c := Try.f26.body.getD .skip) (by kernel_rfl) (by kernel_rfl) (fun xs pins hp _ => ?_)
 unfold chkQS at hp ⊢
 split at hp
 · rename_i k t i p c f o m w g mb n b1 b2 b3 b4 b5 xs fl _
   obtain ⟨hk0,hk1,hL,rs,rfl⟩ := hp
   rw [zah]
   refine ⟨by simp,?_⟩
   unfold Try.f26
   by_cases hk : 11 < k
   · have d1 := decide_eq_true hk
     have hv : chkQ k t i p c f o m w g mb n b1 b2 b3 b4 b5 rs = 22 := if_pos hk
     simp only [go_sem,coe,zac,Nat.reduceAdd,Nat.reduceSub,Nat.reduceMul,Int.reduceToNat,reduceCtorEq,↓reduceIte,Int.reducePow,Nat.reducePow,Int.reduceMod,Nat.reduceLeDiff,Int.reduceLE,Int.reduceNe,Int.reduceEq,Nat.reduceEqDiff,Nat.reduceLT,Nat.reduceBEq,List.map_cons,List.map_nil,List.toList_toArray,Array.toList_append,Option.toArray_some,Option.toArray_none,Bool.and_self,ty,SchkQ,chkQPl,d1,hv]
     exact zao 2 rfl
   have d1 := decide_eq_false hk
   have hk2 : k ≤ 11 := by omega
   have hmr := zah rs
   have hex : ∃ qs : List Rec,rs.map rv = qs.map rv := ⟨rs,rfl⟩
   obtain ⟨t',i',p',c',f',o',m',w',g',mb',n',b1',b2',b3',b4',b5',ys,fm,hO,hY1,hY2,hS⟩ := only_told k t i p c f o m w g mb n b1 b2 b3 b4 b5 rs fl hL
   have hv1 : ¬ zbv k t i p c f o m w g mb n b1 b2 b3 b4 b5 rs = true → chkQ k t i p c f o m w g mb n b1 b2 b3 b4 b5 rs = 4 := fun h => by unfold chkQ; rw [if_neg hk,if_pos (by simpa using h)]
   have hv2 : zbv k t i p c f o m w g mb n b1 b2 b3 b4 b5 rs = true → zfk t g mb → chkQ k t i p c f o m w g mb n b1 b2 b3 b4 b5 rs = 5 := fun h h2 => by unfold chkQ; rw [if_neg hk,if_neg (by rw [h]; decide),if_pos h2]
   have hv3 : zbv k t i p c f o m w g mb n b1 b2 b3 b4 b5 rs = true → ¬ zfk t g mb → k ≠ 3 → chkQ k t i p c f o m w g mb n b1 b2 b3 b4 b5 rs = 0 := fun h h2 h3 => by unfold chkQ; rw [if_neg hk,if_neg (by rw [h]; decide),if_neg h2,if_pos h3]
   have hv4 : zbv k t i p c f o m w g mb n b1 b2 b3 b4 b5 rs = true → ¬ zfk t g mb → k = 3 → batE 0 b2 b3 b4 b5 rs ≠ 0 → chkQ k t i p c f o m w g mb n b1 b2 b3 b4 b5 rs = batE 0 b2 b3 b4 b5 rs := fun h h2 h3 h4 => by unfold chkQ; rw [if_neg hk,if_neg (by rw [h]; decide),if_neg h2,if_neg (fun g => g h3),if_pos h4]
   have hv5 : zbv k t i p c f o m w g mb n b1 b2 b3 b4 b5 rs = true → ¬ zfk t g mb → k = 3 → batE 0 b2 b3 b4 b5 rs = 0 → chkQ k t i p c f o m w g mb n b1 b2 b3 b4 b5 rs = if b1 = 0 then 0 else 4 := fun h h2 h3 h4 => by
     unfold chkQ; rw [if_neg hk,if_neg (by rw [h]; decide),if_neg h2,if_neg (fun g => g h3),if_neg (fun g => g h4)]
     by_cases h5 : b1 = 0
     · rw [if_pos h5,if_neg (fun g => g h5)]
     · rw [if_neg h5,if_pos h5]
   obtain ⟨V,hV⟩ : ∃ x,chkQ k t i p c f o m w g mb n b1 b2 b3 b4 b5 rs = x := ⟨_,rfl⟩
   obtain ⟨S,hSS⟩ : ∃ x,zbv k t i p c f o m w g mb n b1 b2 b3 b4 b5 rs = x := ⟨_,rfl⟩
   rw [hSS] at hS hv1 hv2 hv3 hv4 hv5
   rw [hV] at hv1 hv2 hv3 hv4 hv5 ⊢
   cases S with
   | false =>
     have hv := hv1 (by decide)
     simp only [go_sem,coe,zac,Nat.reduceAdd,Nat.reduceSub,Nat.reduceMul,Int.reduceToNat,reduceCtorEq,↓reduceIte,Int.reducePow,Nat.reducePow,Int.reduceMod,Nat.reduceLeDiff,Int.reduceLE,Int.reduceNe,Int.reduceEq,Nat.reduceEqDiff,Nat.reduceLT,Nat.reduceBEq,List.map_cons,List.map_nil,List.toList_toArray,Array.toList_append,Option.toArray_some,Option.toArray_none,Bool.and_self,ty,SchkQ,chkQPl,zcw,zfe,d1,hk0,hk2,hO,hL,hex,hmr,hY1,hY2,hS,hv]
     exact zao 2 rfl
   | true =>
     rcases long_cases t g mb with D | D | D | D
     rotate_right 1
     · have hnl : ¬ zfk t g mb := D.2.2.2
       by_cases hk3 : k = 3
       · have d2 := decide_eq_true hk3
         by_cases he : batE 0 b2 b3 b4 b5 rs = 0
         · by_cases hb : b1 = 0
           · have d4 := decide_eq_true hb
             have hv := hv5 rfl hnl hk3 he
             rw [if_pos hb] at hv
             simp only [go_sem,coe,zac,Nat.reduceAdd,Nat.reduceSub,Nat.reduceMul,Int.reduceToNat,reduceCtorEq,↓reduceIte,Int.reducePow,Nat.reducePow,Int.reduceMod,Nat.reduceLeDiff,Int.reduceLE,Int.reduceNe,Int.reduceEq,Nat.reduceEqDiff,Nat.reduceLT,Nat.reduceBEq,List.map_cons,List.map_nil,List.toList_toArray,Array.toList_append,Option.toArray_some,Option.toArray_none,Bool.and_self,ty,SchkQ,chkQPl,zcw,zfe,bchkS4,d1,d2,d4,hk0,hk2,hO,hL,hex,hmr,hY1,hY2,hS,D,he,hv]
             exact zao 2 rfl
           · have d4 := decide_eq_false hb
             have hv := hv5 rfl hnl hk3 he
             rw [if_neg hb] at hv
             simp only [go_sem,coe,zac,Nat.reduceAdd,Nat.reduceSub,Nat.reduceMul,Int.reduceToNat,reduceCtorEq,↓reduceIte,Int.reducePow,Nat.reducePow,Int.reduceMod,Nat.reduceLeDiff,Int.reduceLE,Int.reduceNe,Int.reduceEq,Nat.reduceEqDiff,Nat.reduceLT,Nat.reduceBEq,List.map_cons,List.map_nil,List.toList_toArray,Array.toList_append,Option.toArray_some,Option.toArray_none,Bool.and_self,ty,SchkQ,chkQPl,zcw,zfe,bchkS4,d1,d2,d4,hk0,hk2,hO,hL,hex,hmr,hY1,hY2,hS,D,he,hv]
             exact zao 2 rfl
         · have d3 := decide_eq_false he
           have hv := hv4 rfl hnl hk3 he
           simp only [go_sem,coe,zac,Nat.reduceAdd,Nat.reduceSub,Nat.reduceMul,Int.reduceToNat,reduceCtorEq,↓reduceIte,Int.reducePow,Nat.reducePow,Int.reduceMod,Nat.reduceLeDiff,Int.reduceLE,Int.reduceNe,Int.reduceEq,Nat.reduceEqDiff,Nat.reduceLT,Nat.reduceBEq,List.map_cons,List.map_nil,List.toList_toArray,Array.toList_append,Option.toArray_some,Option.toArray_none,Bool.and_self,ty,SchkQ,chkQPl,zcw,zfe,bchkS4,d1,d2,d3,hk0,hk2,hO,hL,hex,hmr,hY1,hY2,hS,D,hv]
           exact zao 2 rfl
       · have d2 := decide_eq_false hk3
         have hv := hv3 rfl hnl hk3
         simp only [go_sem,coe,zac,Nat.reduceAdd,Nat.reduceSub,Nat.reduceMul,Int.reduceToNat,reduceCtorEq,↓reduceIte,Int.reducePow,Nat.reducePow,Int.reduceMod,Nat.reduceLeDiff,Int.reduceLE,Int.reduceNe,Int.reduceEq,Nat.reduceEqDiff,Nat.reduceLT,Nat.reduceBEq,List.map_cons,List.map_nil,List.toList_toArray,Array.toList_append,Option.toArray_some,Option.toArray_none,Bool.and_self,ty,SchkQ,chkQPl,zcw,zfe,bchkS4,d1,d2,hk0,hk2,hO,hL,hex,hmr,hY1,hY2,hS,D,hv]
         exact zao 2 rfl
     all_goals
       have hv := hv2 rfl (by first | exact D.2 | exact D.2.2 | exact D.2.2.2)
       simp only [go_sem,coe,zac,Nat.reduceAdd,Nat.reduceSub,Nat.reduceMul,Int.reduceToNat,reduceCtorEq,↓reduceIte,Int.reducePow,Nat.reducePow,Int.reduceMod,Nat.reduceLeDiff,Int.reduceLE,Int.reduceNe,Int.reduceEq,Nat.reduceEqDiff,Nat.reduceLT,Nat.reduceBEq,List.map_cons,List.map_nil,List.toList_toArray,Array.toList_append,Option.toArray_some,Option.toArray_none,Bool.and_self,ty,SchkQ,chkQPl,zcw,zfe,d1,hk0,hk2,hO,hL,hex,hmr,hY1,hY2,hS,D,hv]
       exact zao 2 rfl
 · exact hp.elim
end
end Go.Proofs.Ytmedjkjoannbmaa
namespace Go.Proofs.Ytmedjkjoannbmaa
open Ax
theorem zbn {T : zag} {sl : List AV} {H : Heap} {nx id n : Nat} {bs rs : List UInt8} {e e' : Value} {q : Prop} (i j : Nat) (hij : i ≠ j) (h2 : slot sl i = .ms id 1 0 n) (h3 : slot sl j = .w e) (hl : Ax.look H id = some (.b bs)) (hn : n = bs.length) (hr : rs = bs) (he : e' = e) :
   EndsW T [.tmp i,.tmp j] [] ⟨q,.tup [.ms 0 1 0 rs.length,.w e'],[.b rs]⟩ .ret ⟨sl,H,nx⟩ := by
 subst hn hr he
 refine ⟨_,Weak.refl _,?_⟩
 simp only [Ax.Ends,Ax.rvals,EndsX,rone,h2,h3,AV.ids,idsL,newIds,upTo,nodup,pinsOf,hl,List.nil_append,List.append_nil,AV.ren,renL,gOf,and_self]
 simp [pinsOf,newIds,nodup,hl,gOf,Blk.closed]
theorem zbl {T : zag} {sl : List AV} {H : Heap} {nx : Nat} {e e' : Value} {q : Prop} {rs : List UInt8} (i j : Nat) (hij : i ≠ j) (h2 : slot sl i = .sg 1 [] true) (h3 : slot sl j = .w e) (hr : rs = []) (he : e' = e) :
   EndsW T [.tmp i,.tmp j] [] ⟨q,.tup [.ms 0 1 0 rs.length,.w e'],[.b rs]⟩ .ret ⟨sl,H,nx⟩ := by
 subst hr he
 have hi : i < sl.length := by
   rcases Nat.lt_or_ge i sl.length with h | h
   · exact h
   · rw [slot_ge h] at h2; cases h2
 obtain ⟨σ',h5,h6⟩ := zbn (T := T) (sl := setSlot sl i (.ms nx 1 0 0)) (H := Ax.put H nx (.b [])) (nx := nx + 1) (q := q) i j hij (id := nx) (n := 0) (bs := []) (rs := []) (e := e') (e' := e') (zcb hi) (by rw [zbx hij]; exact h3) (by simp [Ax.put,Ax.look]) rfl rfl rfl
 exact ⟨σ',(weak_nil i 1 (.b []) rfl (by rw [h2]; exact trivial)).trans h5,h6⟩
def pq (n : Int) : List UInt8 := putU (zz n).toNat
theorem zbt (n : Int) : putU (zz n).toNat = pq n := rfl
theorem zbk (n : Int) (h : okI n) : (pq n).length ≤ 10 := by
 have := zcz n h.1 h.2
 exact zay _ (by omega)
theorem zax (s : List UInt8) (h : s.length ≤ 1000000) : (zbc s).length ≤ s.length + 10 := by
 unfold zbc
 have := zay (2 * s.length) (by omega)
 rw [List.length_append]; omega
def bitN (b : Bool) : Int := if b then 1 else 0
def zen : zai
 | [.w (.bool b)],[] => ⟨True,.w (.int .u8 (bitN b)),[]⟩
 | _,_ => zba
theorem zdx (b c p e s : Int) (rs : List Rec) : (batB b c p e s rs).length ≤ 8192 := by
 unfold batB
 by_cases h : batE b c p e s rs = 0
 · rw [if_pos h]
   unfold batE at h
   repeat' split at h
   all_goals omega
 · rw [if_neg h]; simp
def zcs (x : Int) (t : List UInt8) (i p : Int) (c f : Bool) (o m w : Int) (g mb : List UInt8) (n b1 b2 b3 b4 b5 : Int) (rs : List Rec) : List UInt8 :=
 if x = 116 then zbc t
 else if x = 103 then zbc g
 else if x = 107 then zbc mb
 else if x = 99 then [UInt8.ofNat (bitN c).toNat]
 else if x = 102 then [UInt8.ofNat (bitN f).toNat]
 else if x = 105 then pq i
 else if x = 112 then pq p
 else if x = 111 then pq o
 else if x = 109 then pq m
 else if x = 119 then pq w
 else if x = 110 then pq n
 else zbc (batB b1 b2 b3 b4 b5 rs)
def zem (x : Int) (b1 b2 b3 b4 b5 : Int) (rs : List Rec) : Int := if x = 116 ∨ x = 103 ∨ x = 107 ∨ x = 99 ∨ x = 102 ∨ x = 105 ∨ x = 112 ∨ x = 111 ∨ x = 109 ∨ x = 119 ∨ x = 110 then 0 else batE b1 b2 b3 b4 b5 rs
def lenQ (t g mb : List UInt8) : Prop := t.length ≤ 1000000 ∧ g.length ≤ 1000000 ∧ mb.length ≤ 1000000
def intQ (i p o m w n : Int) : Prop := okI i ∧ okI p ∧ okI o ∧ okI m ∧ okI w ∧ okI n
def fieldS : zai
 | [.agg [.w (.int .u8 k),.str t,.w (.int .i64 i),.w (.int .i64 p),.w (.bool c),.w (.bool f),.w (.int .i64 o),.w (.int .i64 m),.w (.int .i64 w),.str g,.str mb,.w (.int .i64 n),.w (.int .i64 b1),.w (.int .i64 b2),.w (.int .i64 b3),.w (.int .i64 b4),.w (.int .i64 b5),.sg 6 xs fl],.w (.int .i32 x)],[] => ⟨lenQ t g mb ∧ intQ i p o m w n ∧ xs.length ≤ 9223372036854775807 ∧ ∃ rs : List Rec,xs = rs.map rv,
     .tup [.ms 0 1 0 (zcs x t i p c f o m w g mb n b1 b2 b3 b4 b5 (xs.map rrec)).length,.w (.int .i64 (zem x b1 b2 b3 b4 b5 (xs.map rrec)))],[.b (zcs x t i p c f o m w g mb n b1 b2 b3 b4 b5 (xs.map rrec))]⟩
 | _,_ => zba
section
set_option maxRecDepth 100000
theorem bit22_sound : zaq Try.prog 38 zen := by
 refine zak (S := noS) (T := ty) zas ty_ok zby Try.func38 (c := Try.f38.body.getD .skip) (by kernel_rfl) (by kernel_rfl) (fun xs pins hp _ => ?_)
 unfold zen at hp ⊢
 split at hp
 · rename_i b _
   refine ⟨by simp,?_⟩
   unfold Try.f38
   cases b
   all_goals simp only [go_sem,coe,zaa,Nat.reduceAdd,Nat.reduceSub,Nat.reduceMul,Int.reduceToNat,reduceCtorEq,↓reduceIte,Int.reducePow,Nat.reducePow,Int.reduceMod,Nat.reduceLeDiff,Int.reduceLE,Int.reduceNe,Int.reduceEq,Nat.reduceEqDiff,Nat.reduceLT,Nat.reduceBEq,ty,noS,bitN,if_true,if_false,Bool.false_eq_true]
 · exact hp.elim
end
def zcq (f : FuncId) : Option zai :=
 match f with
 | 40 => some zcg
 | 37 => some putS
 | 38 => some zen
 | 39 => some zce
 | _ => none
theorem Sfield22_ok : Fns Try.prog zcq := by
 intro f s h
 unfold zcq at h
 split at h
 · injection h with h; subst h; exact ⟨⟨_,Try.func40,by kernel_rfl,by kernel_rfl⟩,text_sound⟩
 · injection h with h; subst h; exact ⟨⟨_,Try.func37,by kernel_rfl,by kernel_rfl⟩,put_sound⟩
 · injection h with h; subst h; exact ⟨⟨_,Try.func38,by kernel_rfl,by kernel_rfl⟩,bit22_sound⟩
 · injection h with h; subst h; exact ⟨⟨_,Try.func39,by kernel_rfl,by kernel_rfl⟩,bput4_sound⟩
 · cases h
def zck : XPlan := fun id => match id with
 | 1 => .opn [] 1
 | 4 => .opn [] 1
 | 7 => .opn [] 1
 | _ => .std
section
set_option maxRecDepth 100000
set_option maxHeartbeats 8000000 in
theorem field22_sound : zaq Try.prog 27 fieldS := by
 refine zcj (S := zcq) (SO := zcn) (T := ty) zas ty_ok Sfield22_ok Ojust22_ok Try.func27 (c := Try.f27.body.getD .skip) (by kernel_rfl) (fun xs pins hp _ => ?_)
 unfold fieldS at hp ⊢
 split at hp
 · rename_i k t i p c f o m w g mb n b1 b2 b3 b4 b5 xs fl x _
   obtain ⟨⟨q1,q2,q3⟩,⟨r1,r2,r3,r4,r5,r6⟩,hL,rs,rfl⟩ := hp
   unfold okI at r1 r2 r3 r4 r5 r6
   rw [zah]
   have hmr := zah rs
   have hex : ∃ qs : List Rec,rs.map rv = qs.map rv := ⟨rs,rfl⟩
   have tk : ∀ l : List UInt8,List.take l.length l = l := fun l => List.take_length
   refine ⟨by simp,zck,by kernel_rfl,?_⟩
   unfold Try.f27
   by_cases h116 : x = 116
   · subst h116
     have hp1 : zcs 116 t i p c f o m w g mb n b1 b2 b3 b4 b5 rs = zbc t := rfl
     have hp2 : zem 116 b1 b2 b3 b4 b5 rs = 0 := rfl
     rw [hp1,hp2]
     simp only [go_sem,zab,Nat.reduceAdd,Nat.reduceSub,Nat.reduceMul,Int.reduceToNat,reduceCtorEq,↓reduceIte,Int.reducePow,Nat.reducePow,Int.reduceMod,Nat.reduceLeDiff,Int.reduceLE,Int.reduceNe,Int.reduceEq,Nat.reduceEqDiff,Nat.reduceLT,Nat.reduceBEq,List.map_cons,List.map_nil,List.toList_toArray,Array.toList_append,Option.toArray_some,Option.toArray_none,Bool.and_self,ty,zcq,zcn,zck,textO,yesO,numbO,textF,yesF,zfs,zds,zcg,putS,zen,q1,q2,q3,r1,r2,r3,r4,r5,r6,zbt,tk,Int.reduceEq,Nat.reduceEqDiff,or_self,or_false,false_or,or_true,true_or,if_true,if_false]
     exact zbn 4 5 (by decide) rfl rfl rfl rfl rfl rfl
   have d116 := decide_eq_false h116
   by_cases h103 : x = 103
   · subst h103
     have hp1 : zcs 103 t i p c f o m w g mb n b1 b2 b3 b4 b5 rs = zbc g := rfl
     have hp2 : zem 103 b1 b2 b3 b4 b5 rs = 0 := rfl
     rw [hp1,hp2]
     simp only [go_sem,zab,Nat.reduceAdd,Nat.reduceSub,Nat.reduceMul,Int.reduceToNat,reduceCtorEq,↓reduceIte,Int.reducePow,Nat.reducePow,Int.reduceMod,Nat.reduceLeDiff,Int.reduceLE,Int.reduceNe,Int.reduceEq,Nat.reduceEqDiff,Nat.reduceLT,Nat.reduceBEq,List.map_cons,List.map_nil,List.toList_toArray,Array.toList_append,Option.toArray_some,Option.toArray_none,Bool.and_self,ty,zcq,zcn,zck,textO,yesO,numbO,textF,yesF,zfs,zds,zcg,putS,zen,q1,q2,q3,r1,r2,r3,r4,r5,r6,zbt,tk,Int.reduceEq,Nat.reduceEqDiff,or_self,or_false,false_or,or_true,true_or,if_true,if_false]
     exact zbn 4 5 (by decide) rfl rfl rfl rfl rfl rfl
   have d103 := decide_eq_false h103
   by_cases h107 : x = 107
   · subst h107
     have hp1 : zcs 107 t i p c f o m w g mb n b1 b2 b3 b4 b5 rs = zbc mb := rfl
     have hp2 : zem 107 b1 b2 b3 b4 b5 rs = 0 := rfl
     rw [hp1,hp2]
     simp only [go_sem,zab,Nat.reduceAdd,Nat.reduceSub,Nat.reduceMul,Int.reduceToNat,reduceCtorEq,↓reduceIte,Int.reducePow,Nat.reducePow,Int.reduceMod,Nat.reduceLeDiff,Int.reduceLE,Int.reduceNe,Int.reduceEq,Nat.reduceEqDiff,Nat.reduceLT,Nat.reduceBEq,List.map_cons,List.map_nil,List.toList_toArray,Array.toList_append,Option.toArray_some,Option.toArray_none,Bool.and_self,ty,zcq,zcn,zck,textO,yesO,numbO,textF,yesF,zfs,zds,zcg,putS,zen,q1,q2,q3,r1,r2,r3,r4,r5,r6,zbt,tk,Int.reduceEq,Nat.reduceEqDiff,or_self,or_false,false_or,or_true,true_or,if_true,if_false]
     exact zbn 4 5 (by decide) rfl rfl rfl rfl rfl rfl
   have d107 := decide_eq_false h107
   by_cases h99 : x = 99
   · subst h99
     have hp1 : zcs 99 t i p c f o m w g mb n b1 b2 b3 b4 b5 rs = [UInt8.ofNat (bitN c).toNat] := rfl
     have hp2 : zem 99 b1 b2 b3 b4 b5 rs = 0 := rfl
     rw [hp1,hp2]
     simp only [go_sem,zab,Nat.reduceAdd,Nat.reduceSub,Nat.reduceMul,Int.reduceToNat,reduceCtorEq,↓reduceIte,Int.reducePow,Nat.reducePow,Int.reduceMod,Nat.reduceLeDiff,Int.reduceLE,Int.reduceNe,Int.reduceEq,Nat.reduceEqDiff,Nat.reduceLT,Nat.reduceBEq,List.map_cons,List.map_nil,List.toList_toArray,Array.toList_append,Option.toArray_some,Option.toArray_none,Bool.and_self,ty,zcq,zcn,zck,textO,yesO,numbO,textF,yesF,zfs,zds,zcg,putS,zen,q1,q2,q3,r1,r2,r3,r4,r5,r6,zbt,tk,Int.reduceEq,Nat.reduceEqDiff,or_self,or_false,false_or,or_true,true_or,if_true,if_false]
     repeat (refine And.intro (by cases c <;> decide) ?_)
     exact zbn 4 5 (by decide) rfl rfl rfl rfl rfl rfl
   have d99 := decide_eq_false h99
   by_cases h102 : x = 102
   · subst h102
     have hp1 : zcs 102 t i p c f o m w g mb n b1 b2 b3 b4 b5 rs = [UInt8.ofNat (bitN f).toNat] := rfl
     have hp2 : zem 102 b1 b2 b3 b4 b5 rs = 0 := rfl
     rw [hp1,hp2]
     simp only [go_sem,zab,Nat.reduceAdd,Nat.reduceSub,Nat.reduceMul,Int.reduceToNat,reduceCtorEq,↓reduceIte,Int.reducePow,Nat.reducePow,Int.reduceMod,Nat.reduceLeDiff,Int.reduceLE,Int.reduceNe,Int.reduceEq,Nat.reduceEqDiff,Nat.reduceLT,Nat.reduceBEq,List.map_cons,List.map_nil,List.toList_toArray,Array.toList_append,Option.toArray_some,Option.toArray_none,Bool.and_self,ty,zcq,zcn,zck,textO,yesO,numbO,textF,yesF,zfs,zds,zcg,putS,zen,q1,q2,q3,r1,r2,r3,r4,r5,r6,zbt,tk,Int.reduceEq,Nat.reduceEqDiff,or_self,or_false,false_or,or_true,true_or,if_true,if_false]
     repeat (refine And.intro (by cases f <;> decide) ?_)
     exact zbn 4 5 (by decide) rfl rfl rfl rfl rfl rfl
   have d102 := decide_eq_false h102
   by_cases h105 : x = 105
   · subst h105
     have hp1 : zcs 105 t i p c f o m w g mb n b1 b2 b3 b4 b5 rs = pq i := rfl
     have hp2 : zem 105 b1 b2 b3 b4 b5 rs = 0 := rfl
     rw [hp1,hp2]
     simp only [go_sem,zab,Nat.reduceAdd,Nat.reduceSub,Nat.reduceMul,Int.reduceToNat,reduceCtorEq,↓reduceIte,Int.reducePow,Nat.reducePow,Int.reduceMod,Nat.reduceLeDiff,Int.reduceLE,Int.reduceNe,Int.reduceEq,Nat.reduceEqDiff,Nat.reduceLT,Nat.reduceBEq,List.map_cons,List.map_nil,List.toList_toArray,Array.toList_append,Option.toArray_some,Option.toArray_none,Bool.and_self,ty,zcq,zcn,zck,textO,yesO,numbO,textF,yesF,zfs,zds,zcg,putS,zen,q1,q2,q3,r1,r2,r3,r4,r5,r6,zbt,tk,Int.reduceEq,Nat.reduceEqDiff,or_self,or_false,false_or,or_true,true_or,if_true,if_false]
     exact zbn 4 5 (by decide) rfl rfl rfl rfl rfl rfl
   have d105 := decide_eq_false h105
   by_cases h112 : x = 112
   · subst h112
     have hp1 : zcs 112 t i p c f o m w g mb n b1 b2 b3 b4 b5 rs = pq p := rfl
     have hp2 : zem 112 b1 b2 b3 b4 b5 rs = 0 := rfl
     rw [hp1,hp2]
     simp only [go_sem,zab,Nat.reduceAdd,Nat.reduceSub,Nat.reduceMul,Int.reduceToNat,reduceCtorEq,↓reduceIte,Int.reducePow,Nat.reducePow,Int.reduceMod,Nat.reduceLeDiff,Int.reduceLE,Int.reduceNe,Int.reduceEq,Nat.reduceEqDiff,Nat.reduceLT,Nat.reduceBEq,List.map_cons,List.map_nil,List.toList_toArray,Array.toList_append,Option.toArray_some,Option.toArray_none,Bool.and_self,ty,zcq,zcn,zck,textO,yesO,numbO,textF,yesF,zfs,zds,zcg,putS,zen,q1,q2,q3,r1,r2,r3,r4,r5,r6,zbt,tk,Int.reduceEq,Nat.reduceEqDiff,or_self,or_false,false_or,or_true,true_or,if_true,if_false]
     exact zbn 4 5 (by decide) rfl rfl rfl rfl rfl rfl
   have d112 := decide_eq_false h112
   by_cases h111 : x = 111
   · subst h111
     have hp1 : zcs 111 t i p c f o m w g mb n b1 b2 b3 b4 b5 rs = pq o := rfl
     have hp2 : zem 111 b1 b2 b3 b4 b5 rs = 0 := rfl
     rw [hp1,hp2]
     simp only [go_sem,zab,Nat.reduceAdd,Nat.reduceSub,Nat.reduceMul,Int.reduceToNat,reduceCtorEq,↓reduceIte,Int.reducePow,Nat.reducePow,Int.reduceMod,Nat.reduceLeDiff,Int.reduceLE,Int.reduceNe,Int.reduceEq,Nat.reduceEqDiff,Nat.reduceLT,Nat.reduceBEq,List.map_cons,List.map_nil,List.toList_toArray,Array.toList_append,Option.toArray_some,Option.toArray_none,Bool.and_self,ty,zcq,zcn,zck,textO,yesO,numbO,textF,yesF,zfs,zds,zcg,putS,zen,q1,q2,q3,r1,r2,r3,r4,r5,r6,zbt,tk,Int.reduceEq,Nat.reduceEqDiff,or_self,or_false,false_or,or_true,true_or,if_true,if_false]
     exact zbn 4 5 (by decide) rfl rfl rfl rfl rfl rfl
   have d111 := decide_eq_false h111
   by_cases h109 : x = 109
   · subst h109
     have hp1 : zcs 109 t i p c f o m w g mb n b1 b2 b3 b4 b5 rs = pq m := rfl
     have hp2 : zem 109 b1 b2 b3 b4 b5 rs = 0 := rfl
     rw [hp1,hp2]
     simp only [go_sem,zab,Nat.reduceAdd,Nat.reduceSub,Nat.reduceMul,Int.reduceToNat,reduceCtorEq,↓reduceIte,Int.reducePow,Nat.reducePow,Int.reduceMod,Nat.reduceLeDiff,Int.reduceLE,Int.reduceNe,Int.reduceEq,Nat.reduceEqDiff,Nat.reduceLT,Nat.reduceBEq,List.map_cons,List.map_nil,List.toList_toArray,Array.toList_append,Option.toArray_some,Option.toArray_none,Bool.and_self,ty,zcq,zcn,zck,textO,yesO,numbO,textF,yesF,zfs,zds,zcg,putS,zen,q1,q2,q3,r1,r2,r3,r4,r5,r6,zbt,tk,Int.reduceEq,Nat.reduceEqDiff,or_self,or_false,false_or,or_true,true_or,if_true,if_false]
     exact zbn 4 5 (by decide) rfl rfl rfl rfl rfl rfl
   have d109 := decide_eq_false h109
   by_cases h119 : x = 119
   · subst h119
     have hp1 : zcs 119 t i p c f o m w g mb n b1 b2 b3 b4 b5 rs = pq w := rfl
     have hp2 : zem 119 b1 b2 b3 b4 b5 rs = 0 := rfl
     rw [hp1,hp2]
     simp only [go_sem,zab,Nat.reduceAdd,Nat.reduceSub,Nat.reduceMul,Int.reduceToNat,reduceCtorEq,↓reduceIte,Int.reducePow,Nat.reducePow,Int.reduceMod,Nat.reduceLeDiff,Int.reduceLE,Int.reduceNe,Int.reduceEq,Nat.reduceEqDiff,Nat.reduceLT,Nat.reduceBEq,List.map_cons,List.map_nil,List.toList_toArray,Array.toList_append,Option.toArray_some,Option.toArray_none,Bool.and_self,ty,zcq,zcn,zck,textO,yesO,numbO,textF,yesF,zfs,zds,zcg,putS,zen,q1,q2,q3,r1,r2,r3,r4,r5,r6,zbt,tk,Int.reduceEq,Nat.reduceEqDiff,or_self,or_false,false_or,or_true,true_or,if_true,if_false]
     exact zbn 4 5 (by decide) rfl rfl rfl rfl rfl rfl
   have d119 := decide_eq_false h119
   by_cases h110 : x = 110
   · subst h110
     have hp1 : zcs 110 t i p c f o m w g mb n b1 b2 b3 b4 b5 rs = pq n := rfl
     have hp2 : zem 110 b1 b2 b3 b4 b5 rs = 0 := rfl
     rw [hp1,hp2]
     simp only [go_sem,zab,Nat.reduceAdd,Nat.reduceSub,Nat.reduceMul,Int.reduceToNat,reduceCtorEq,↓reduceIte,Int.reducePow,Nat.reducePow,Int.reduceMod,Nat.reduceLeDiff,Int.reduceLE,Int.reduceNe,Int.reduceEq,Nat.reduceEqDiff,Nat.reduceLT,Nat.reduceBEq,List.map_cons,List.map_nil,List.toList_toArray,Array.toList_append,Option.toArray_some,Option.toArray_none,Bool.and_self,ty,zcq,zcn,zck,textO,yesO,numbO,textF,yesF,zfs,zds,zcg,putS,zen,q1,q2,q3,r1,r2,r3,r4,r5,r6,zbt,tk,Int.reduceEq,Nat.reduceEqDiff,or_self,or_false,false_or,or_true,true_or,if_true,if_false]
     exact zbn 4 5 (by decide) rfl rfl rfl rfl rfl rfl
   have d110 := decide_eq_false h110
   have hp1 : zcs x t i p c f o m w g mb n b1 b2 b3 b4 b5 rs = zbc (batB b1 b2 b3 b4 b5 rs) := by unfold zcs; simp only [h116,h103,h107,h99,h102,h105,h112,h111,h109,h119,h110,if_false]
   have hp2 : zem x b1 b2 b3 b4 b5 rs = batE b1 b2 b3 b4 b5 rs := by unfold zem; simp only [h116,h103,h107,h99,h102,h105,h112,h111,h109,h119,h110,or_self,if_false]
   have e1 : textF x = 0 := by unfold textF; simp only [h116,h103,h107,h99,h102,h105,h112,h111,h109,h119,h110,if_false]
   have e2 : yesF x = 0 := by unfold yesF; simp only [h116,h103,h107,h99,h102,h105,h112,h111,h109,h119,h110,if_false]
   have e3 : zfs x = 0 := by unfold zfs; simp only [h116,h103,h107,h99,h102,h105,h112,h111,h109,h119,h110,if_false]
   have hbl : (batB b1 b2 b3 b4 b5 rs).length ≤ 1000000 := by have := zdx b1 b2 b3 b4 b5 rs; omega
   rw [hp1,hp2]
   simp only [go_sem,zab,Nat.reduceAdd,Nat.reduceSub,Nat.reduceMul,Int.reduceToNat,reduceCtorEq,↓reduceIte,Int.reducePow,Nat.reducePow,Int.reduceMod,Nat.reduceLeDiff,Int.reduceLE,Int.reduceNe,Int.reduceEq,Nat.reduceEqDiff,Nat.reduceLT,Nat.reduceBEq,List.map_cons,List.map_nil,List.toList_toArray,Array.toList_append,Option.toArray_some,Option.toArray_none,Bool.and_self,ty,zcq,zcn,zck,textO,yesO,numbO,e1,e2,e3,zds,zcg,putS,zen,zce,hL,hex,hmr,hbl,zbt,tk,Int.reduceEq,Nat.reduceEqDiff,or_self,or_false,false_or,or_true,true_or,if_true,if_false]
   exact zbn 4 5 (by decide) rfl rfl rfl rfl rfl rfl
 · exact hp.elim
end
end Go.Proofs.Ytmedjkjoannbmaa
namespace Go.Proofs.Ytmedjkjoannbmaa
open Ax
def layQ (k : Int) (t : List UInt8) (i p : Int) (c f : Bool) (o m w : Int) (g mb : List UInt8) (n b1 b2 b3 b4 b5 : Int) (rs : List Rec) : List UInt8 := UInt8.ofNat k.toNat :: (zcr k).flatMap fun x => zcs (x.toNat : Int) t i p c f o m w g mb n b1 b2 b3 b4 b5 rs
def putQ (k : Int) (t : List UInt8) (i p : Int) (c f : Bool) (o m w : Int) (g mb : List UInt8) (n b1 b2 b3 b4 b5 : Int) (rs : List Rec) : List UInt8 := if chkQ k t i p c f o m w g mb n b1 b2 b3 b4 b5 rs = 0 then layQ k t i p c f o m w g mb n b1 b2 b3 b4 b5 rs else []
def putQS : zai
 | [.agg [.w (.int .u8 k),.str t,.w (.int .i64 i),.w (.int .i64 p),.w (.bool c),.w (.bool f),.w (.int .i64 o),.w (.int .i64 m),.w (.int .i64 w),.str g,.str mb,.w (.int .i64 n),.w (.int .i64 b1),.w (.int .i64 b2),.w (.int .i64 b3),.w (.int .i64 b4),.w (.int .i64 b5),.sg 6 xs fl]],[] => ⟨0 ≤ k ∧ k < 256 ∧ lenQ t g mb ∧ intQ i p o m w n ∧ xs.length ≤ 40 ∧ ∃ rs : List Rec,xs = rs.map rv,
     .tup [.ms 0 1 0 (putQ k t i p c f o m w g mb n b1 b2 b3 b4 b5 (xs.map rrec)).length,.w (.int .i64 (chkQ k t i p c f o m w g mb n b1 b2 b3 b4 b5 (xs.map rrec)))],[.b (putQ k t i p c f o m w g mb n b1 b2 b3 b4 b5 (xs.map rrec))]⟩
 | _,_ => zba
theorem chkQ_ok {k : Int} {t : List UInt8} {i p : Int} {c f : Bool} {o m w : Int} {g mb : List UInt8} {n b1 b2 b3 b4 b5 : Int} (rs : List Rec) (h : chkQ k t i p c f o m w g mb n b1 b2 b3 b4 b5 rs = 0) : k ≤ 11 ∧ zbv k t i p c f o m w g mb n b1 b2 b3 b4 b5 rs = true ∧ ¬ zfk t g mb ∧ (k = 3 → batE 0 b2 b3 b4 b5 rs = 0 ∧ b1 = 0) := by
 unfold chkQ at h
 by_cases h1 : 11 < k
 · rw [if_pos h1] at h; omega
 · rw [if_neg h1] at h
   by_cases h2 : zbv k t i p c f o m w g mb n b1 b2 b3 b4 b5 rs = false
   · rw [if_pos h2] at h; omega
   · rw [if_neg h2] at h
     by_cases h3 : zfk t g mb
     · rw [if_pos h3] at h; omega
     · rw [if_neg h3] at h
       refine ⟨by omega,by simpa using h2,h3,fun hk => ?_⟩
       rw [if_neg (fun g => g hk)] at h
       by_cases h4 : batE 0 b2 b3 b4 b5 rs = 0
       · rw [if_neg (fun g => g h4)] at h
         by_cases h5 : b1 = 0
         · exact ⟨h4,h5⟩
         · rw [if_pos h5] at h; omega
       · rw [if_pos h4] at h; exact (h4 h).elim
def SputQ (f : FuncId) : Option zai :=
 match f with
 | 26 => some chkQS
 | 14 => some usesS
 | 27 => some fieldS
 | _ => none
theorem SputQ_ok : Fns Try.prog SputQ := by
 intro f s h
 unfold SputQ at h
 split at h
 · injection h with h; subst h; exact ⟨⟨_,Try.func26,by kernel_rfl,by kernel_rfl⟩,chkQ_sound⟩
 · injection h with h; subst h; exact ⟨⟨_,Try.func14,by kernel_rfl,by kernel_rfl⟩,zfc⟩
 · injection h with h; subst h; exact ⟨⟨_,Try.func27,by kernel_rfl,by kernel_rfl⟩,field22_sound⟩
 · cases h
theorem usesL_cases (P : List UInt8 → Int → Prop) (h : P [116,112,99] 0 ∧ P [116] 1 ∧ P [116] 2 ∧ P [116,105,102,98] 3 ∧ P [116,105,111,109] 4 ∧ P [116,105,119] 5 ∧ P [103,107] 6 ∧ P [116,103,107,110] 7 ∧ P [103,107,110] 8 ∧ P [103,107] 9 ∧ P [116,105,111,103,107,110] 10 ∧ P [116,105,103] 11 ∧ ∀ k,P [] k) (k : Int) : P (zcr k) k := by
 obtain ⟨a0,a1,a2,a3,a4,a5,a6,a7,a8,a9,a10,a11,a12⟩ := h
 unfold zcr
 by_cases h0 : k = 0; · rw [if_pos h0,h0]; exact a0
 rw [if_neg h0]
 by_cases h1 : k = 1; · rw [if_pos h1,h1]; exact a1
 rw [if_neg h1]
 by_cases h2 : k = 2; · rw [if_pos h2,h2]; exact a2
 rw [if_neg h2]
 by_cases h3 : k = 3; · rw [if_pos h3,h3]; exact a3
 rw [if_neg h3]
 by_cases h4 : k = 4; · rw [if_pos h4,h4]; exact a4
 rw [if_neg h4]
 by_cases h5 : k = 5; · rw [if_pos h5,h5]; exact a5
 rw [if_neg h5]
 by_cases h6 : k = 6; · rw [if_pos h6,h6]; exact a6
 rw [if_neg h6]
 by_cases h7 : k = 7; · rw [if_pos h7,h7]; exact a7
 rw [if_neg h7]
 by_cases h8 : k = 8; · rw [if_pos h8,h8]; exact a8
 rw [if_neg h8]
 by_cases h9 : k = 9; · rw [if_pos h9,h9]; exact a9
 rw [if_neg h9]
 by_cases h10 : k = 10; · rw [if_pos h10,h10]; exact a10
 rw [if_neg h10]
 by_cases h11 : k = 11; · rw [if_pos h11,h11]; exact a11
 rw [if_neg h11]
 exact a12 k
def decOk22 (l : List UInt8) : Bool := (List.range l.length).all fun j => decR l j == (l.getD j 0).toNat && decW l j == 1
theorem uses_dec (k : Int) : ∀ j,j < (zcr k).length → decR (zcr k) j = ((zcr k).getD j 0).toNat ∧ decW (zcr k) j = 1 := by
 have h := usesL_cases (fun l _ => decOk22 l = true) (by
   refine ⟨?_,?_,?_,?_,?_,?_,?_,?_,?_,?_,?_,?_,fun _ => rfl⟩ <;> decide +kernel) k
 intro j hj
 unfold decOk22 at h
 have := List.all_eq_true.1 h j (List.mem_range.2 hj)
 simp only [Bool.and_eq_true,beq_iff_eq] at this
 exact this
def letOk22 (l : List UInt8) (k : Int) : Prop := ∀ x ∈ l,(x = 116 ∨ x = 103 ∨ x = 107 ∨ x = 99 ∨ x = 102 ∨ x = 105 ∨ x = 112 ∨ x = 111 ∨ x = 109 ∨ x = 119 ∨ x = 110) ∨ (x = 98 ∧ k = 3)
theorem uses_let (k : Int) : letOk22 (zcr k) k := by
 refine usesL_cases letOk22 ?_ k
 refine ⟨?_,?_,?_,?_,?_,?_,?_,?_,?_,?_,?_,?_,fun _ x hx => by simp at hx⟩ <;> (unfold letOk22; decide)
theorem uses_len (k : Int) : (zcr k).length ≤ 6 := by
 refine usesL_cases (fun l _ => l.length ≤ 6) ?_ k
 refine ⟨?_,?_,?_,?_,?_,?_,?_,?_,?_,?_,?_,?_,fun _ => ?_⟩ <;> decide
theorem piece_ok {k : Int} {t : List UInt8} {i p : Int} {c f : Bool} {o m w : Int} {g mb : List UInt8} {n b1 b2 b3 b4 b5 : Int} {rs : List Rec} (h : chkQ k t i p c f o m w g mb n b1 b2 b3 b4 b5 rs = 0) {x : UInt8} (hx : x ∈ zcr k) : zem (x.toNat : Int) b1 b2 b3 b4 b5 rs = 0 := by
 obtain ⟨-,-,-,hb⟩ := chkQ_ok rs h
 rcases uses_let k x hx with h1 | ⟨rfl,rfl⟩
 · unfold zem
   rw [if_pos]
   rcases h1 with rfl | rfl | rfl | rfl | rfl | rfl | rfl | rfl | rfl | rfl | rfl <;> decide
 · obtain ⟨h2,rfl⟩ := hb rfl
   unfold zem
   rw [if_neg (by decide)]
   exact h2
set_option maxHeartbeats 8000000 in
theorem piece_len (x : Int) (t : List UInt8) (i p : Int) (c f : Bool) (o m w : Int) (g mb : List UInt8) (n b1 b2 b3 b4 b5 : Int) (rs : List Rec) (ht : lenQ t g mb) (hi : intQ i p o m w n) : (zcs x t i p c f o m w g mb n b1 b2 b3 b4 b5 rs).length ≤ 1000010 := by
 obtain ⟨q1,q2,q3⟩ := ht
 obtain ⟨i1,i2,i3,i4,i5,i6⟩ := hi
 have h1 := zax t q1
 have h2 := zax g q2
 have h3 := zax mb q3
 have h4 := zdx b1 b2 b3 b4 b5 rs
 have h5 := zax (batB b1 b2 b3 b4 b5 rs) (by omega)
 have j1 := zbk i i1
 have j2 := zbk p i2
 have j3 := zbk o i3
 have j4 := zbk m i4
 have j5 := zbk w i5
 have j6 := zbk n i6
 have k1 : ([UInt8.ofNat (bitN c).toNat]).length ≤ 1000010 := by simp
 have k2 : ([UInt8.ofNat (bitN f).toNat]).length ≤ 1000010 := by simp
 clear i1 i2 i3 i4 i5 i6
 unfold zcs
 generalize zbc t = A1 at *
 generalize zbc g = A2 at *
 generalize zbc mb = A3 at *
 generalize zbc (batB b1 b2 b3 b4 b5 rs) = A4 at *
 generalize pq i = B1 at *
 generalize pq p = B2 at *
 generalize pq o = B3 at *
 generalize pq m = B4 at *
 generalize pq w = B5 at *
 generalize pq n = B6 at *
 repeat' split
 all_goals first | exact k1 | exact k2 | omega
theorem flat_le22 (F : UInt8 → List UInt8) (B : Nat) (h : ∀ x,(F x).length ≤ B) : ∀ l : List UInt8,(l.flatMap F).length ≤ B * l.length
 | [] => by simp
 | x :: r => by
   have h1 := h x
   have h2 := flat_le22 F B h r
   rw [List.flatMap_cons,List.length_append,List.length_cons,Nat.mul_add]; omega
section
set_option maxRecDepth 100000
set_option maxHeartbeats 8000000 in
theorem putQ_sound : zaq Try.prog 10 putQS := by
 refine zbo (S := SputQ) (T := ty) zas ty_ok SputQ_ok Try.func10 (c := Try.f10.body.getD .skip) (by kernel_rfl) (by kernel_rfl) (fun xs pins hp _ => ?_)
 unfold putQS at hp ⊢
 split at hp
 · rename_i k t i p c f o m w g mb n b1 b2 b3 b4 b5 xs fl _
   obtain ⟨hk0,hk1,hq,hr,h40,rs,rfl⟩ := hp
   rw [zah]
   refine ⟨by simp,?_⟩
   have hL : (rs.map rv).length ≤ 9223372036854775807 := by omega
   have hmr := zah rs
   have hex : ∃ qs : List Rec,rs.map rv = qs.map rv := ⟨rs,rfl⟩
   have tk : ∀ l : List UInt8,List.take l.length l = l := fun l => List.take_length
   by_cases hc : chkQ k t i p c f o m w g mb n b1 b2 b3 b4 b5 rs = 0
   · have hB : putQ k t i p c f o m w g mb n b1 b2 b3 b4 b5 rs = layQ k t i p c f o m w g mb n b1 b2 b3 b4 b5 rs := if_pos hc
     rw [hB,hc]
     have hdec := uses_dec k
     have hul := uses_len k
     have hpe : ∀ x ∈ zcr k,zem (x.toNat : Int) b1 b2 b3 b4 b5 rs = 0 := fun x hx => piece_ok hc hx
     have hLay : layQ k t i p c f o m w g mb n b1 b2 b3 b4 b5 rs = UInt8.ofNat k.toNat :: (zcr k).flatMap fun x => zcs (x.toNat : Int) t i p c f o m w g mb n b1 b2 b3 b4 b5 rs := rfl
     obtain ⟨F,hF⟩ : ∃ F : UInt8 → List UInt8,(fun x : UInt8 => zcs (x.toNat : Int) t i p c f o m w g mb n b1 b2 b3 b4 b5 rs) = F := ⟨_,rfl⟩
     have hFx : ∀ x : UInt8,zcs (x.toNat : Int) t i p c f o m w g mb n b1 b2 b3 b4 b5 rs = F x := fun x => congrFun hF x
     have hFl : ∀ x,(F x).length ≤ 1000010 := fun x => by rw [← hFx x]; exact piece_len _ t i p c f o m w g mb n b1 b2 b3 b4 b5 rs hq hr
     rw [hF] at hLay
     rw [hLay]
     obtain ⟨L,hLL⟩ : ∃ L,zcr k = L := ⟨_,rfl⟩
     rw [hLL] at hdec hul hpe
     rw [hLL]
     unfold Try.f10
     simp only [go_sem,zaa,Nat.reduceAdd,Nat.reduceSub,Nat.reduceMul,Int.reduceToNat,reduceCtorEq,↓reduceIte,Int.reducePow,Nat.reducePow,Int.reduceMod,Nat.reduceLeDiff,Int.reduceLE,Int.reduceNe,Int.reduceEq,Nat.reduceEqDiff,Nat.reduceLT,Nat.reduceBEq,ty,SputQ,chkQS,usesS,hk0,hk1,hc,hLL,hL,hex,hmr]
     refine zca ⟨fun mm σ => ∃ j : Nat,mm = L.length - j ∧ j ≤ L.length ∧
       σ = ⟨[.agg [.w (.int .u8 k),.str t,.w (.int .i64 i),.w (.int .i64 p),.w (.bool c),.w (.bool f),.w (.int .i64 o),.w (.int .i64 m),.w (.int .i64 w),.str g,.str mb,.w (.int .i64 n),.w (.int .i64 b1),.w (.int .i64 b2),.w (.int .i64 b3),.w (.int .i64 b4),.w (.int .i64 b5),.sg 6 (rs.map rv) fl],.rf 4 18 0 0,.junk,.junk,.junk,.ms 5 1 0 (UInt8.ofNat k.toNat :: (L.take j).flatMap F).length,.junk,.junk,.junk,.junk,.junk,.junk,.junk,.junk,.junk,.junk,.junk,.junk,.junk,.junk,.junk,.rf 6 1 0 0,.junk,.junk,.junk,.junk,.junk,.junk,.junk,.junk,.junk,.junk,.junk,.junk,.junk,.junk,.junk,.junk],[(4,.g 18 [.agg [.w (.int .u8 k),.str t,.w (.int .i64 i),.w (.int .i64 p),.w (.bool c),.w (.bool f),.w (.int .i64 o),.w (.int .i64 m),.w (.int .i64 w),.str g,.str mb,.w (.int .i64 n),.w (.int .i64 b1),.w (.int .i64 b2),.w (.int .i64 b3),.w (.int .i64 b4),.w (.int .i64 b5),.sg 6 (rs.map rv) fl]]),(5,.b (UInt8.ofNat k.toNat :: (L.take j).flatMap F)),(6,.o (.it L j))],7⟩,?_,?_⟩
     · refine ⟨_,_,zad [0,1,2,3,4,84,124] rfl rfl rfl ?_ ?_,0,rfl,by omega,rfl⟩
       · simp only [ssT,zae,zaf,setSlot,gOf,AV.ren,renL,Blk.ren,Ax.look,Ax.put,reduceCtorEq,↓reduceIte,Nat.reduceEqDiff,Nat.reduceLT,Nat.reduceAdd,List.length_append,List.length_cons,List.length_nil,Option.some.injEq]; try simp
       · simp only [ssT,zae,zaf,setSlot,gOf,AV.ren,renL,Blk.ren,Ax.look,Ax.put,reduceCtorEq,↓reduceIte,Nat.reduceEqDiff,Nat.reduceLT,Nat.reduceAdd,List.length_append,List.length_cons,List.length_nil,Option.some.injEq]; try simp
     · rintro m' σ ⟨j,rfl,hj,rfl⟩
       have hcl := flat_le22 F 1000010 hFl (L.take j)
       have htl : (L.take j).length = j := by rw [List.length_take]; omega
       rw [htl] at hcl
       by_cases hjl : j < L.length
       · have d1 : decide (j < L.length) = true := decide_eq_true hjl
         obtain ⟨hd1,hd2⟩ := hdec j hjl
         have hx1 : L.getD j 0 = L[j] := by rw [List.getD_eq_getElem?_getD,List.getElem?_eq_getElem hjl]; rfl
         have hE := hpe L[j] (List.getElem_mem hjl)
         have hP := hFx L[j]
         have hn := hFl L[j]
         have htake : (L.take (j + 1)).flatMap F = (L.take j).flatMap F ++ F L[j] := by
           rw [List.take_succ_eq_append_getElem hjl,List.flatMap_append]; simp
         rw [hx1] at hd1
         obtain ⟨x,hx⟩ : ∃ x,L[j] = x := ⟨_,rfl⟩
         rw [hx] at hd1 hE hP hn htake
         obtain ⟨Z,hZ⟩ : ∃ Z,(L.take j).flatMap F = Z := ⟨_,rfl⟩
         rw [hZ] at hcl htake ⊢
         obtain ⟨Y,hY⟩ : ∃ Y,F x = Y := ⟨_,rfl⟩
         rw [hY] at hP hn htake
         simp only [go_sem,zaa,Nat.reduceAdd,Nat.reduceSub,Nat.reduceMul,Int.reduceToNat,reduceCtorEq,↓reduceIte,Int.reducePow,Nat.reducePow,Int.reduceMod,Nat.reduceLeDiff,Int.reduceLE,Int.reduceNe,Int.reduceEq,Nat.reduceEqDiff,Nat.reduceLT,Nat.reduceBEq,ty,SputQ,fieldS,d1,hd1,hd2,hE,hP,hq,hr,hL,hex,hmr,tk]
         repeat (refine And.intro (by first | decide | (unfold top; omega) | omega) ?_)
         refine ⟨L.length - (j + 1),_,by omega,zad [0,1,2,3,4,135,6] rfl rfl rfl ?_ ?_,j + 1,rfl,by omega,rfl⟩
         · simp only [ssT,zae,zaf,setSlot,gOf,AV.ren,renL,Blk.ren,Ax.look,Ax.put,reduceCtorEq,↓reduceIte,Nat.reduceEqDiff,Nat.reduceLT,Nat.reduceAdd,List.length_append,List.length_cons,List.length_nil,Option.some.injEq,htake]; try simp
           exact Nat.add_right_comm _ _ _
         · simp only [ssT,zae,zaf,setSlot,gOf,AV.ren,renL,Blk.ren,Ax.look,Ax.put,reduceCtorEq,↓reduceIte,Nat.reduceEqDiff,Nat.reduceLT,Nat.reduceAdd,List.length_append,List.length_cons,List.length_nil,Option.some.injEq,htake]; try simp
       · obtain rfl : j = L.length := by omega
         have d1 : decide (L.length < L.length) = false := decide_eq_false (by omega)
         rw [List.take_length] at hcl ⊢
         simp only [go_sem,zaa,Nat.reduceAdd,Nat.reduceSub,Nat.reduceMul,Int.reduceToNat,reduceCtorEq,↓reduceIte,Int.reducePow,Nat.reducePow,Int.reduceMod,Nat.reduceLeDiff,Int.reduceLE,Int.reduceNe,Int.reduceEq,Nat.reduceEqDiff,Nat.reduceLT,Nat.reduceBEq,ty,SputQ,d1]
         refine ⟨_,Weak.refl _,?_⟩
         simp only [go_sem,zaa,Nat.reduceAdd,Nat.reduceSub,Nat.reduceMul,Int.reduceToNat,reduceCtorEq,↓reduceIte,Int.reducePow,Nat.reducePow,Int.reduceMod,Nat.reduceLeDiff,Int.reduceLE,Int.reduceNe,Int.reduceEq,Nat.reduceEqDiff,Nat.reduceLT,Nat.reduceBEq,ty,SputQ]
         exact zbn 2 3 (by decide) rfl rfl rfl rfl rfl rfl
   · have hB : putQ k t i p c f o m w g mb n b1 b2 b3 b4 b5 rs = [] := if_neg hc
     have d1 := decide_eq_false hc
     unfold Try.f10
     simp only [go_sem,zaa,Nat.reduceAdd,Nat.reduceSub,Nat.reduceMul,Int.reduceToNat,reduceCtorEq,↓reduceIte,Int.reducePow,Nat.reducePow,Int.reduceMod,Nat.reduceLeDiff,Int.reduceLE,Int.reduceNe,Int.reduceEq,Nat.reduceEqDiff,Nat.reduceLT,Nat.reduceBEq,ty,SputQ,chkQS,hk0,hk1,hL,hex,hmr,d1]
     exact zbl 2 3 (by decide) rfl rfl hB rfl
 · exact hp.elim
end
end Go.Proofs.Ytmedjkjoannbmaa
namespace Go.Proofs.Ytmedjkjoannbmaa
open Ax
def zde : zai
 | [.w (.bool b)],[] => ⟨True,.ms 0 1 0 1,[.b [UInt8.ofNat (bitN b).toNat]]⟩
 | _,_ => zba
section
set_option maxRecDepth 100000
theorem flag22_sound : zaq Try.prog 32 zde := by
 refine zak (S := noS) (T := ty) zas ty_ok zby Try.func32 (c := Try.f32.body.getD .skip) (by kernel_rfl) (by kernel_rfl) (fun xs pins hp _ => ?_)
 unfold zde at hp ⊢
 split at hp
 · rename_i b _
   refine ⟨by simp,?_⟩
   unfold Try.f32
   cases b
   all_goals
     simp only [go_sem,coe,zaa,Nat.reduceAdd,Nat.reduceSub,Nat.reduceMul,Int.reduceToNat,reduceCtorEq,↓reduceIte,Int.reducePow,Nat.reducePow,Int.reduceMod,Nat.reduceLeDiff,Int.reduceLE,Int.reduceNe,Int.reduceEq,Nat.reduceEqDiff,Nat.reduceLT,Nat.reduceBEq,ty,noS,bitN,if_true,if_false,Bool.false_eq_true]
     try decide
 · exact hp.elim
end
end Go.Proofs.Ytmedjkjoannbmaa
namespace Go.Proofs.Ytmedjkjoannbmaa
open Ax
def takeQ (x : Int) (bs : List UInt8) (e : Int) : List UInt8 × Int :=
 if x = 116 ∨ x = 103 ∨ x = 107 then (rtL 255 bs e,rtE 255 bs e) else if x = 99 ∨ x = 102 then (zfj 1 bs e,rfixE 1 bs e) else if x = 98 then (rtL 8192 bs e,rtE 8192 bs e) else (numL bs e,numE bs e)
def takeA (x : Int) (bs : List UInt8) (e : Int) (k : Int) (t : List UInt8) (i p : Int) (c f : Bool) (o m w : Int) (g mb : List UInt8) (n b1 b2 b3 b4 b5 : Int) (xs : List AV) (fl : Bool) : AV :=
 .agg [.w (.int .u8 k),.str (if x = 116 then rtS' 255 bs e else t),.w (.int .i64 (if x = 105 then numN bs e else i)),.w (.int .i64 (if x = 112 then numN bs e else p)),.w (.bool (if x = 99 then decide (zdz 1 bs e = 1) else c)),.w (.bool (if x = 102 then decide (zdz 1 bs e = 1) else f)),.w (.int .i64 (if x = 111 then numN bs e else o)),.w (.int .i64 (if x = 109 then numN bs e else m)),.w (.int .i64 (if x = 119 then numN bs e else w)),.str (if x = 103 then rtS' 255 bs e else g),.str (if x = 107 then rtS' 255 bs e else mb),.w (.int .i64 (if x = 110 then numN bs e else n)),.w (.int .i64 (if x = 98 then (zbf (rtS' 8192 bs e)).b else b1)),.w (.int .i64 (if x = 98 then (zbf (rtS' 8192 bs e)).c else b2)),.w (.int .i64 (if x = 98 then (zbf (rtS' 8192 bs e)).p else b3)),.w (.int .i64 (if x = 98 then (zbf (rtS' 8192 bs e)).e else b4)),.w (.int .i64 (if x = 98 then (zbf (rtS' 8192 bs e)).s else b5)),.sg 6 (if x = 98 then (zbf (rtS' 8192 bs e)).rs.map rv else xs) (if x = 98 then emp (zbf (rtS' 8192 bs e)).rs else fl)]
def ltr22 (x : Int) : Prop := x = 116 ∨ x = 105 ∨ x = 112 ∨ x = 99 ∨ x = 102 ∨ x = 111 ∨ x = 109 ∨ x = 119 ∨ x = 103 ∨ x = 107 ∨ x = 110 ∨ x = 98
instance (x : Int) : Decidable (ltr22 x) := by unfold ltr22; infer_instance
def takeS22 : zai
 | [.rf 0 18 0 0,.w (.int .i32 x),.rf 1 2 0 0],[.g 18 [.agg [.w (.int .u8 k),.str t,.w (.int .i64 i),.w (.int .i64 p),.w (.bool c),.w (.bool f),.w (.int .i64 o),.w (.int .i64 m),.w (.int .i64 w),.str g,.str mb,.w (.int .i64 n),.w (.int .i64 b1),.w (.int .i64 b2),.w (.int .i64 b3),.w (.int .i64 b4),.w (.int .i64 b5),.sg 6 xs fl]],.g 2 [.agg [.sb bs fb,.w (.int .i64 e)]]] => ⟨ltr22 x ∧ bs.length ≤ 1000000 ∧ ∃ rs : List Rec,xs = rs.map rv,.tup [],[.g 18 [takeA x bs e k t i p c f o m w g mb n b1 b2 b3 b4 b5 xs fl],rd (takeQ x bs e).1 fb (takeQ x bs e).2]⟩
 | _,_ => zba
def Stake22 (f : FuncId) : Option zai :=
 match f with
 | 46 => some zff
 | 52 => some numS
 | 55 => some zbs
 | 54 => some bgetS
 | _ => none
theorem Stake22_ok : Fns Try.prog Stake22 := by
 intro f s h
 unfold Stake22 at h
 split at h
 · injection h with h; subst h; exact ⟨⟨_,Try.func46,by kernel_rfl,by kernel_rfl⟩,mfixed_sound⟩
 · injection h with h; subst h; exact ⟨⟨_,Try.func52,by kernel_rfl,by kernel_rfl⟩,num_sound⟩
 · injection h with h; subst h; exact ⟨⟨_,Try.func55,by kernel_rfl,by kernel_rfl⟩,mtext_sound⟩
 · injection h with h; subst h; exact ⟨⟨_,Try.func54,by kernel_rfl,by kernel_rfl⟩,bget_sound⟩
 · cases h
def take22Pl : XPlan := fun id => match id with
 | 0 => .opn [] 2
 | 3 => .opn [] 2
 | 6 => .opn [] 2
 | _ => .std
theorem tkS_len22 (m : Int) (bs : List UInt8) (e : Int) : (rtS' m bs e).length ≤ bs.length := by
 unfold rtS'; split
 · refine Nat.le_trans ?_ (zan bs e)
   unfold tkB; split
   · simp
   · rw [List.length_take]; omega
 · simp
section
set_option maxRecDepth 100000
set_option maxHeartbeats 8000000 in
theorem take22_sound : zaq Try.prog 47 takeS22 := by
 refine zcj (S := Stake22) (SO := zcn) (T := ty) zas ty_ok Stake22_ok Ojust22_ok Try.func47 (c := Try.f47.body.getD .skip) (by kernel_rfl) (fun xs pins hp _ => ?_)
 unfold takeS22 at hp ⊢
 split at hp
 · rename_i x k t i p c f o m w g mb n b1 b2 b3 b4 b5 xs fl bs fb e _
   obtain ⟨hx,hb,rs,rfl⟩ := hp
   have hmr := zah rs
   have hcl := zbz rs
   have tk : ∀ l : List UInt8,List.take l.length l = l := fun l => List.take_length
   have hS : (rtS' 8192 bs e).length ≤ 1000000 := by have := tkS_len22 8192 bs e; omega
   refine ⟨by simp,take22Pl,by kernel_rfl,?_⟩
   unfold Try.f47
   rcases hx with rfl | rfl | rfl | rfl | rfl | rfl | rfl | rfl | rfl | rfl | rfl | rfl
   all_goals
     simp only [go_sem,zab,Nat.reduceAdd,Nat.reduceSub,Nat.reduceMul,Int.reduceToNat,reduceCtorEq,↓reduceIte,Int.reducePow,Nat.reducePow,Int.reduceMod,Nat.reduceLeDiff,Int.reduceLE,Int.reduceNe,Int.reduceEq,Nat.reduceEqDiff,Nat.reduceLT,Nat.reduceBEq,List.map_cons,List.map_nil,List.toList_toArray,Array.toList_append,Option.toArray_some,Option.toArray_none,Bool.and_self,ty,Stake22,zcn,take22Pl,textO,yesO,numbO,textF,yesF,zfs,zds,zff,numS,zbs,bgetS,bav,rd,hb,hS,tk,hcl,Int.reduceEq,Nat.reduceEqDiff,or_self,or_false,false_or,or_true,true_or,if_true,if_false]
     try (repeat (refine And.intro (by first | omega | decide) ?_))
     refine ⟨_,Weak.refl _,?_⟩
     simp only [go_sem,zab,Nat.reduceAdd,Nat.reduceSub,Nat.reduceMul,Int.reduceToNat,reduceCtorEq,↓reduceIte,Int.reducePow,Nat.reducePow,Int.reduceMod,Nat.reduceLeDiff,Int.reduceLE,Int.reduceNe,Int.reduceEq,Nat.reduceEqDiff,Nat.reduceLT,Nat.reduceBEq,List.map_cons,List.map_nil,List.toList_toArray,Array.toList_append,Option.toArray_some,Option.toArray_none,Bool.and_self,ty,takeA,takeQ,rd,hcl,Int.reduceEq,Nat.reduceEqDiff,or_self,or_false,false_or,or_true,true_or,if_true,if_false]
 · exact hp.elim
end
end Go.Proofs.Ytmedjkjoannbmaa
namespace Go.Proofs.Ytmedjkjoannbmaa
open Ax
theorem fix1_cons (c : UInt8) (r : List UInt8) : zdz 1 (c :: r) 0 = c.toNat ∧ zfj 1 (c :: r) 0 = r ∧ rfixE 1 (c :: r) 0 = 0 := by
 have h1 : zfo 1 = 1 := by decide
 have h2 : ¬ (((c :: r).length : Int) < 1) := by simp; omega
 refine ⟨?_,?_,?_⟩
 · unfold zdz tkB
   rw [if_pos rfl,h1,if_neg h2]
   simp [zch,unfL]
 · unfold zfj tkL
   rw [if_pos rfl,h1,if_neg h2]
   simp
 · unfold rfixE tkE
   rw [if_pos rfl,h1,if_neg h2]
theorem num_put (n : Int) (h1 : -9223372036854775808 ≤ n) (h2 : n ≤ 9223372036854775807) (r : List UInt8) :
   numN (putU (zz n).toNat ++ r) 0 = n ∧ numL (putU (zz n).toNat ++ r) 0 = r ∧ numE (putU (zz n).toNat ++ r) 0 = 0 := by
 have hz := zcz n h1 h2
 have hg := getL_put (zz n).toNat (by omega) r
 have hc : (((zz n).toNat : Nat) : Int) = zz n := by omega
 rw [hc,zg_zz] at hg
 unfold numN numL numE
 rw [if_pos rfl,if_pos rfl,if_pos rfl,hg]
 exact ⟨rfl,by simp,rfl⟩
theorem zz_len (n : Nat) : (zz (n : Int)).toNat = 2 * n := by unfold zz; rw [if_pos (by omega)]; omega
theorem text_put (m : Int) (s r : List UInt8) (hm : (s.length : Int) ≤ m) (hs : s.length ≤ 1000000) :
   rtS' m (zbc s ++ r) 0 = s ∧ rtL m (zbc s ++ r) 0 = r ∧ rtE m (zbc s ++ r) 0 = 0 := by
 obtain ⟨h1,h2,h3⟩ := num_put (s.length : Int) (by omega) (by omega) (s ++ r)
 rw [zz_len] at h1 h2 h3
 have e : zbc s ++ r = putU (2 * s.length) ++ (s ++ r) := by unfold zbc; rw [List.append_assoc]
 have hok : rtOk m (zbc s ++ r) 0 := by unfold rtOk; rw [e,h1,h3]; omega
 have hl : ¬ (((s ++ r).length : Int) < (s.length : Int)) := by simp; omega
 unfold rtS' rtL rtE
 rw [if_pos hok,if_pos hok,if_pos hok,e,h1,h2,h3]
 unfold tkB tkL tkE
 rw [if_neg hl,if_neg hl,if_neg hl]
 simp
theorem flag_toNat (k dd : Bool) : (UInt8.ofNat (flagI k dd).toNat).toNat = (flagI k dd).toNat := by
 cases k <;> cases dd <;> rfl
theorem g_head (d t : Int) (hd : 0 ≤ d ∧ d ≤ 31) (ht : 0 ≤ t ∧ t ≤ 1099511627776) (k dd : Bool) (r bs : List UInt8) (hbs : bs = UInt8.ofNat (flagI k dd).toNat :: (putU (zz d).toNat ++ (putU (zz t).toNat ++ r))) :
   g0 bs 0 = (flagI k dd).toNat ∧ gk bs 0 = k ∧ gdd bs 0 = dd ∧ gd bs 0 = d ∧ gt bs 0 = t ∧ gb3 bs 0 = r ∧ ge3 bs 0 = 0 := by
 subst hbs
 obtain ⟨a1,a2,a3⟩ := fix1_cons (UInt8.ofNat (flagI k dd).toNat) (putU (zz d).toNat ++ (putU (zz t).toNat ++ r))
 obtain ⟨b1,b2,b3⟩ := num_put d (by omega) (by omega) (putU (zz t).toNat ++ r)
 obtain ⟨c1,c2,c3⟩ := num_put t (by omega) (by omega) r
 generalize hB : UInt8.ofNat (flagI k dd).toNat :: (putU (zz d).toNat ++ (putU (zz t).toNat ++ r)) = B at *
 have h0 : g0 B 0 = (flagI k dd).toNat := by unfold g0; rw [a1,flag_toNat,Int.toNat_natCast]
 have hb1 : gb1 B 0 = putU (zz d).toNat ++ (putU (zz t).toNat ++ r) := a2
 have he1 : ge1 B 0 = 0 := a3
 have hb2 : gb2 B 0 = putU (zz t).toNat ++ r := by unfold gb2; rw [hb1,he1,b2]
 have he2 : ge2 B 0 = 0 := by unfold ge2; rw [hb1,he1,b3]
 refine ⟨h0,?_,?_,by unfold gd; rw [hb1,he1,b1],by unfold gt; rw [hb2,he2,c1],by unfold gb3; rw [hb2,he2,c2],by unfold ge3; rw [hb2,he2,c3]⟩
 · unfold gk; rw [h0]; cases k <;> cases dd <;> rfl
 · unfold gdd; rw [h0]; cases k <;> cases dd <;> rfl
theorem rchk_zero {d t : Int} {k : Bool} {key : List UInt8} {dd : Bool} {val : List UInt8} (h : rchk d t k key dd val = 0) :
   (0 ≤ d ∧ d ≤ 31) ∧ (0 ≤ t ∧ t ≤ 1099511627776) ∧ key.length ≤ 64 ∧ val.length ≤ 512 ∧ (k = false → key = [] ∧ dd = false) ∧ (dd = true → val = []) := by
 rcases rchk_cases d t k key dd val with ⟨e,_⟩ | ⟨e,_⟩ | ⟨e,_⟩ | ⟨_,h1,h2,h3⟩
 · omega
 · omega
 · omega
 · unfold rA at h1
   unfold rB at h2
   unfold rC at h3
   refine ⟨by omega,by omega,by omega,by omega,fun hk => ?_,fun hd => ?_⟩
   · refine ⟨?_,?_⟩
     · apply Classical.byContradiction; intro hne; exact h3 (.inl ⟨hk,.inl hne⟩)
     · cases dd with
       | false => rfl
       | true => exact (h3 (.inl ⟨hk,.inr rfl⟩)).elim
   · apply Classical.byContradiction; intro hne; exact h3 (.inr ⟨hd,hne⟩)
theorem get_put (d t : Int) (k : Bool) (key : List UInt8) (dd : Bool) (val : List UInt8) (z : List UInt8) (h : rchk d t k key dd val = 0) :
   gerr (recL d t k key dd val ++ z) 0 = 0 ∧ grec (recL d t k key dd val ++ z) 0 = recV d t k key dd val ∧ gb5 (recL d t k key dd val ++ z) 0 = z ∧ ge5 (recL d t k key dd val ++ z) 0 = 0 := by
 obtain ⟨h1,h2,h3,h4,h5,h6⟩ := rchk_zero h
 obtain ⟨B,hB⟩ : ∃ B,recL d t k key dd val ++ z = B := ⟨_,rfl⟩
 have hform : B = UInt8.ofNat (flagI k dd).toNat :: (putU (zz d).toNat ++ (putU (zz t).toNat ++ ((if k then zbc key else []) ++ ((if dd then [] else zbc val) ++ z)))) := by
   rw [← hB]; unfold recL; simp
 obtain ⟨q0,q1,q2,q3,q4,q5,q6⟩ := g_head d t h1 h2 k dd _ B hform
 rw [hB]
 have r4 : gkey B 0 = key ∧ gb4 B 0 = (if dd then [] else zbc val) ++ z ∧ ge4 B 0 = 0 := by
   unfold gkey gb4 ge4
   rw [q1,q5,q6]
   cases k with
   | true =>
     obtain ⟨t1,t2,t3⟩ := text_put 64 key ((if dd then [] else zbc val) ++ z) (by omega) (by omega)
     exact ⟨t1,t2,t3⟩
   | false => exact ⟨(h5 rfl).1.symm,rfl,rfl⟩
 obtain ⟨r1,r2,r3⟩ := r4
 have r5 : gval B 0 = val ∧ gb5 B 0 = z ∧ ge5 B 0 = 0 := by
   unfold gval gb5 ge5
   rw [q2,r2,r3]
   cases dd with
   | false =>
     obtain ⟨t1,t2,t3⟩ := text_put 512 val z (by omega) (by omega)
     exact ⟨t1,t2,t3⟩
   | true => exact ⟨(h6 rfl).symm,rfl,rfl⟩
 obtain ⟨s1,s2,s3⟩ := r5
 have hf : ¬ 4 ≤ (flagI k dd).toNat := by cases k <;> cases dd <;> decide
 have he : gerr B 0 = 0 := by
   unfold gerr
   rw [s3,if_neg (by simp),q0,q1,q2,q3,q4,r1,s1,h,if_neg]
   rintro (h | h)
   · exact hf h
   · exact h rfl
 refine ⟨he,?_,s2,s3⟩
 unfold grec
 rw [if_pos he,q1,q2,q3,q4,r1,s1]
end Go.Proofs.Ytmedjkjoannbmaa
namespace Go.Proofs.Ytmedjkjoannbmaa
open Ax
theorem rrec_rv (r : Rec) : rrec (rv r) = r := rfl
theorem rv_inj {a b : Rec} (h : rv a = rv b) : a = b := by rw [← rrec_rv a,← rrec_rv b,h]
theorem rb_eq {r : Rec} (h : rk r = 0) : rb r = recL r.d r.t r.k r.key r.dd r.val := if_pos h
theorem gR_put {r : Rec} (h : rk r = 0) (z : List UInt8) : gerr (rb r ++ z) 0 = 0 ∧ gR (rb r ++ z) 0 = r ∧ gb5 (rb r ++ z) 0 = z ∧ ge5 (rb r ++ z) 0 = 0 := by
 obtain ⟨h1,h2,h3,h4⟩ := get_put r.d r.t r.k r.key r.dd r.val z h
 rw [rb_eq h]
 refine ⟨h1,?_,h3,h4⟩
 rw [grec_rv h1] at h2
 exact rv_inj h2
theorem layE_zero {c : Int} : ∀ {a : Int} {rs : List Rec},layE c a rs = 0 → (∀ r ∈ rs,rk r = 0) ∧ (∀ r ∈ rs,a < r.d ∧ r.d < c) ∧ rs.Pairwise (fun x y => x.d < y.d)
 | a,[],_ => ⟨by simp,by simp,List.Pairwise.nil⟩
 | a,r :: rs,h => by
   rw [layE_cons] at h
   by_cases h1 : rk r = 0
   · rw [if_pos h1] at h
     by_cases h2 : r.d ≤ a ∨ c ≤ r.d
     · rw [if_pos h2] at h; omega
     · rw [if_neg h2] at h
       obtain ⟨i1,i2,i3⟩ := layE_zero h
       refine ⟨?_,?_,List.pairwise_cons.2 ⟨fun q hq => (i2 q hq).1,i3⟩⟩
       · intro q hq
         rcases List.mem_cons.1 hq with rfl | hq
         · exact h1
         · exact i1 q hq
       · intro q hq
         rcases List.mem_cons.1 hq with rfl | hq
         · omega
         · have := i2 q hq; omega
   · rw [if_neg h1] at h; exact absurd h h1
theorem readN_put : ∀ (rs : List Rec) (z : List UInt8),(∀ r ∈ rs,rk r = 0) → readN rs.length (rs.flatMap rb ++ z) 0 = some (rs,z,0)
 | [],z,_ => rfl
 | r :: rs,z,h => by
   obtain ⟨h1,h2,h3,h4⟩ := gR_put (h r (by simp)) (rs.flatMap rb ++ z)
   rw [List.length_cons,List.flatMap_cons,List.append_assoc,readN_succ,if_pos h1,h2,h3,h4,readN_put rs z (fun q hq => h q (by simp [hq]))]
   rfl
theorem bE_zero {x : Bat} (h : bE x = 0) : bfld x.b x.c x.p x.e x.s x.rs.length = 0 ∧ layE x.c (-1) x.rs = 0 ∧ (batL x.b x.c x.p x.e x.s x.rs).length ≤ 8192 := by
 unfold bE batE at h
 split at h
 · rename_i h1
   split at h
   · rename_i h2
     split at h
     · omega
     · exact ⟨h1,h2,by omega⟩
   · rename_i h2; exact absurd h h2
 · rename_i h1; exact absurd h h1
theorem bB_eq {x : Bat} (h : bE x = 0) : bB x = zdt (nums x.b x.c x.p x.e x.s x.rs.length) ++ x.rs.flatMap rb := if_pos h
theorem bheads {x : Bat} (h : bE x = 0) (z : List UInt8) : hn 0 (bB x ++ z) = x.b ∧ hn 1 (bB x ++ z) = x.c ∧ hn 2 (bB x ++ z) = x.p ∧ hn 3 (bB x ++ z) = x.e ∧ hn 4 (bB x ++ z) = x.s ∧ hn 5 (bB x ++ z) = x.rs.length ∧ hb 6 (bB x ++ z) = (x.rs.flatMap rb ++ z,0) ∧ x.rs.length ≤ 32 ∧ ∀ r ∈ x.rs,rk r = 0 := by
 obtain ⟨h1,h2,h3⟩ := bE_zero h
 have hz := bfld_zero h1
 obtain ⟨i1,i2,i3⟩ := layE_zero h2
 obtain ⟨T,hT⟩ : ∃ T,x.rs.flatMap rb ++ z = T := ⟨_,rfl⟩
 obtain ⟨X5,hX5⟩ : ∃ X,putU (zz x.rs.length).toNat ++ T = X := ⟨_,rfl⟩
 obtain ⟨X4,hX4⟩ : ∃ X,putU (zz x.s).toNat ++ X5 = X := ⟨_,rfl⟩
 obtain ⟨X3,hX3⟩ : ∃ X,putU (zz x.e).toNat ++ X4 = X := ⟨_,rfl⟩
 obtain ⟨X2,hX2⟩ : ∃ X,putU (zz x.p).toNat ++ X3 = X := ⟨_,rfl⟩
 obtain ⟨X1,hX1⟩ : ∃ X,putU (zz x.c).toNat ++ X2 = X := ⟨_,rfl⟩
 have hW : bB x ++ z = putU (zz x.b).toNat ++ X1 := by
   rw [bB_eq h,← hX1,← hX2,← hX3,← hX4,← hX5,← hT]
   simp only [zdt,nums,List.flatMap_cons,List.flatMap_nil,List.append_assoc,List.append_nil]
 obtain ⟨a1,a2,a3⟩ := num_put x.b (by omega) (by omega) X1
 obtain ⟨b1,b2,b3⟩ := num_put x.c (by omega) (by omega) X2
 obtain ⟨c1,c2,c3⟩ := num_put x.p (by omega) (by omega) X3
 obtain ⟨d1,d2,d3⟩ := num_put x.e (by omega) (by omega) X4
 obtain ⟨e1,e2,e3⟩ := num_put x.s (by omega) (by omega) X5
 obtain ⟨f1,f2,f3⟩ := num_put x.rs.length (by omega) (by omega) T
 rw [← hW] at a1 a2 a3
 rw [hX1] at b1 b2 b3
 rw [hX2] at c1 c2 c3
 rw [hX3] at d1 d2 d3
 rw [hX4] at e1 e2 e3
 rw [hX5] at f1 f2 f3
 have hx : ∃ W,bB x ++ z = W ∧ bB x ++ z = W := ⟨_,rfl,rfl⟩
 obtain ⟨W,hW1,hW2⟩ := hx
 rw [hW1] at a1 a2 a3 ⊢
 have B1 : hb 1 W = (X1,0) := Prod.ext a2 a3
 have N0 : hn 0 W = x.b := a1
 have N1 : hn 1 W = x.c := by unfold hn; rw [B1]; exact b1
 have B2 : hb 2 W = (X2,0) := by show (numL (hb 1 W).1 (hb 1 W).2,numE (hb 1 W).1 (hb 1 W).2) = _; rw [B1]; exact Prod.ext b2 b3
 have N2 : hn 2 W = x.p := by unfold hn; rw [B2]; exact c1
 have B3 : hb 3 W = (X3,0) := by show (numL (hb 2 W).1 (hb 2 W).2,numE (hb 2 W).1 (hb 2 W).2) = _; rw [B2]; exact Prod.ext c2 c3
 have N3 : hn 3 W = x.e := by unfold hn; rw [B3]; exact d1
 have B4 : hb 4 W = (X4,0) := by show (numL (hb 3 W).1 (hb 3 W).2,numE (hb 3 W).1 (hb 3 W).2) = _; rw [B3]; exact Prod.ext d2 d3
 have N4 : hn 4 W = x.s := by unfold hn; rw [B4]; exact e1
 have B5 : hb 5 W = (X5,0) := by show (numL (hb 4 W).1 (hb 4 W).2,numE (hb 4 W).1 (hb 4 W).2) = _; rw [B4]; exact Prod.ext e2 e3
 have N5 : hn 5 W = x.rs.length := by unfold hn; rw [B5]; exact f1
 have B6 : hb 6 W = (T,0) := by show (numL (hb 5 W).1 (hb 5 W).2,numE (hb 5 W).1 (hb 5 W).2) = _; rw [B5]; exact Prod.ext f2 f3
 exact ⟨N0,N1,N2,N3,N4,N5,by rw [B6,hT],by omega,i1⟩
theorem bget_more {x : Bat} (h : bE x = 0) (z : List UInt8) : bget (bB x ++ z) = if z = [] then some x else none := by
 obtain ⟨N0,N1,N2,N3,N4,N5,B6,hl,i1⟩ := bheads h z
 have hrd := readN_put x.rs z i1
 obtain ⟨W,hW1⟩ : ∃ W,bB x ++ z = W := ⟨_,rfl⟩
 rw [hW1] at N0 N1 N2 N3 N4 N5 B6 ⊢
 unfold bget
 rw [N0,N1,N2,N3,N4,N5,B6,if_pos (by omega),Int.toNat_natCast]
 simp only
 rw [hrd]
 simp only
 have hxe : (⟨x.b,x.c,x.p,x.e,x.s,x.rs⟩ : Bat) = x := rfl
 rw [hxe]
 by_cases hzz : z = []
 · rw [if_pos hzz,if_pos (by refine ⟨?_,hzz,h,by rw [← hW1,hzz,List.append_nil]⟩; first | exact trivial | rfl)]
 · rw [if_neg hzz,if_neg (fun q => hzz q.2.1)]
theorem bget_put {x : Bat} (h : bE x = 0) : bget (bB x) = some x := by
 have := bget_more h []
 rwa [List.append_nil,if_pos rfl] at this
theorem bget_some {bs : List UInt8} {x : Bat} (h : bget bs = some x) : bE x = 0 ∧ bB x = bs := by
 unfold bget at h
 split at h
 · split at h
   · split at h
     · rename_i h3
       injection h with h
       subst h
       exact ⟨h3.2.2.1,h3.2.2.2⟩
     · cases h
   · cases h
 · cases h
theorem bB_length {x : Bat} (h : bE x = 0) : (bB x).length ≤ 8192 := by
 rw [show bB x = batL x.b x.c x.p x.e x.s x.rs from if_pos h]; exact (bE_zero h).2.2
end Go.Proofs.Ytmedjkjoannbmaa
