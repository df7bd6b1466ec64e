/- What the proofs of this seat stand on; it asks nothing. -/
import Derived.Test.YtlcijldkdpmknaaYa07
set_option linter.unusedSimpArgs false
set_option linter.unusedVariables false
namespace Go.Proofs.Ytlcijldkdpmknaa
open Ax
theorem put1_ends {T : zac} {sl : List AV} {H : Heap} {nx id n : Nat} {bs rs : List UInt8} {q : Prop} (h2 : slot sl 2 = .ms id 1 0 n) (hl : Ax.look H id = some (.b bs)) (hn : n = bs.length) (hr : rs = bs) :
   EndsW T [.tmp 2] [] ⟨q,.sb rs false,[]⟩ .ret ⟨sl,H,nx⟩ := by
 subst hn hr
 have hs : slot (fzL id rs sl) 2 = .sb rs false := by
   rw [slot_fzL,h2]
   simp [AV.fz]
 refine ⟨_,(weak_fzs 2 h2 hl).trans (zbl 2 (.sb rs false) (fun w loc v h => by rwa [hs] at h)),?_⟩
 have e2 : slot (setSlot (fzL id rs sl) 2 (.sb rs false)) 2 = .sb rs false := slot_set_eq _ _ _ (by rw [hs]; simp)
 simp only [Ax.Ends,Ax.rvals,EndsX,rone,e2,AV.ids,idsL,newIds,upTo,nodup,pinsOf,List.nil_append,AV.ren,renL,and_self]
def okI (n : Int) : Prop := -9223372036854775808 ≤ n ∧ n ≤ 9223372036854775807
def rlayS4 : zam
 | [.agg [.w (.int .i64 b),.w (.int .i64 c),.w (.int .i64 p),.w (.int .i64 e),.w (.int .i64 s),.sg 6 xs f]],[] =>
     ⟨xs.length ≤ 40 ∧ okI b ∧ okI c ∧ okI p ∧ okI e ∧ okI s ∧ ∃ rs : List Rec,xs = rs.map rv,.sb (batL b c p e s (xs.map rrec)) false,[]⟩
 | _,_ => zay
def Srlay4 (f : FuncId) : Option zam :=
 match f with
 | 56 => some putS
 | 57 => some rputS
 | _ => none
theorem Srlay4_ok : Fns Try.prog Srlay4 := by
 intro f s h
 unfold Srlay4 at h
 split at h
 · injection h with h; subst h; exact ⟨⟨_,Try.func56,by kernel_rfl,by kernel_rfl⟩,rput_sound⟩
 · injection h with h; subst h; exact ⟨⟨_,Try.func57,by kernel_rfl,by kernel_rfl⟩,rrecput_sound⟩
 · cases h
theorem headL_len : ∀ (l : List Int),(∀ x ∈ l,okI x) → (zcs l).length ≤ 10 * l.length
 | [],_ => Nat.le_refl _
 | n :: l,h => by
   have h1 := headL_len l (fun x hx => h x (List.mem_cons_of_mem _ hx))
   have h2 := h n (by simp)
   have z := zcn n h2.1 h2.2
   have h3 := zax (zz n).toNat (by omega)
   unfold zcs at h1 ⊢
   rw [List.flatMap_cons,List.length_append,List.length_cons]; omega
section
set_option maxRecDepth 100000
set_option maxHeartbeats 2000000 in
theorem rlay4_sound : zaq Try.prog 38 rlayS4 := by
 refine zey (S := Srlay4) (T := ty) zat ty_ok Srlay4_ok Try.func38 (c := Try.f38.body.getD .skip) (by kernel_rfl) (by kernel_rfl) (fun xs pins hp _ => ?_)
 unfold rlayS4 at hp ⊢
 split at hp
 · rename_i b c p e s xs f _
   obtain ⟨hL,hb,hc,hpp,he,hs,rs,rfl⟩ := hp
   have hl4 : (rs.map rv).length = rs.length := by simp
   rw [hl4] at hL
   refine ⟨by simp,?_⟩
   unfold Try.f38
   obtain ⟨L,hLL⟩ : ∃ L,nums b c p e s rs.length = L := ⟨_,rfl⟩
   have hlen : L.length = 6 := by rw [← hLL]; rfl
   have hrg : ∀ x ∈ L,okI x := by
     rw [← hLL]; unfold nums
     intro x hx
     simp only [List.mem_cons,List.not_mem_nil,or_false] at hx
     rcases hx with rfl | rfl | rfl | rfl | rfl | rfl
     · exact hb
     · exact hc
     · exact hpp
     · exact he
     · exact hs
     · unfold okI; omega
   have hL2 : [b,c,p,e,s,(rs.length : Int)] = L := hLL
   simp only [go_sem,zaa,Nat.reduceAdd,Nat.reduceSub,Nat.reduceMul,Int.reduceToNat,reduceCtorEq,↓reduceIte,Int.reducePow,Nat.reducePow,Int.reduceMod,Nat.reduceLeDiff,Int.reduceLE,Int.reduceNe,Int.reduceEq,Nat.reduceEqDiff,Nat.reduceLT,Nat.reduceBEq,ty,Srlay4,hl4,hL,hL2,zaj]
   have ht : top = 4294967296 := rfl
   refine zas ⟨fun m σ => ∃ k : Nat,m = 6 - k ∧ k ≤ 6 ∧
       σ = ⟨[.agg [.w (.int .i64 b),.w (.int .i64 c),.w (.int .i64 p),.w (.int .i64 e),.w (.int .i64 s),.sg 6 (rs.map rv) f],.rf 4 6 0 0,.junk,.ms 6 1 0 (zcs (L.take k)).length,.ms 5 1 0 6,.w (.int .i64 k),.junk,.junk,.junk,.junk,.junk,.junk,.junk,.junk,.junk,.junk,.junk,.junk,.junk,.junk,.junk,.junk,.junk,.junk,.junk,.junk,.junk,.junk,.junk,.junk,.junk,.junk,.junk,.junk,.junk,.junk,.junk,.junk,.junk,.junk,.junk,.junk,.junk,.junk,.junk,.junk,.junk,.junk,.junk,.junk,.junk,.junk,.junk,.junk,.junk,.junk],[(4,.g 6 [.agg [.w (.int .i64 b),.w (.int .i64 c),.w (.int .i64 p),.w (.int .i64 e),.w (.int .i64 s),.sg 6 (rs.map rv) f]]),(5,.i L),(6,.b (zcs (L.take k)))],7⟩,?_,?_⟩
   · refine ⟨_,_,(zfg 3 1 (.b []) rfl (by exact trivial)).trans (zab [0,1,2,3,4,132,156] rfl rfl rfl ?_ ?_),0,rfl,by omega,rfl⟩
     · simp only [ssT,zae,zaf,setSlot,gOf,AV.ren,renL,Blk.ren,Ax.look,Ax.put,reduceCtorEq,↓reduceIte,Nat.reduceEqDiff,Nat.reduceLT,Nat.reduceAdd,List.length_append,List.length_cons,List.length_nil,Option.some.injEq]; first | exact ⟨by simp [zcs],rfl,rfl⟩ | (simp [zcs]; done)
     · simp only [ssT,zae,zaf,setSlot,gOf,AV.ren,renL,Blk.ren,Ax.look,Ax.put,reduceCtorEq,↓reduceIte,Nat.reduceEqDiff,Nat.reduceLT,Nat.reduceAdd,List.length_append,List.length_cons,List.length_nil,Option.some.injEq]; rfl
   · rintro m σ ⟨k,rfl,hk,rfl⟩
     have e1 : ((k : Int) + 1 + 9223372036854775808) % 18446744073709551616 - 9223372036854775808 = ((k + 1 : Nat) : Int) := by omega
     by_cases hk6 : k < 6
     · have d1 : decide ((k : Int) < ((6 : Nat) : Int)) = true := decide_eq_true (by omega)
       have hkl : k < L.length := by omega
       obtain ⟨N,hN⟩ : ∃ N,L.getD k 0 = N := ⟨_,rfl⟩
       have hNe : L[k] = N := by rw [← hN]; simp [hkl]
       obtain ⟨hN1,hN2⟩ := hrg N (hNe ▸ List.getElem_mem hkl)
       have z := zcn N hN1 hN2
       have hPl := zax (zz N).toNat (by omega)
       have hsn : zcs (L.take (k + 1)) = zcs (L.take k) ++ putU (zz N).toNat := by
         rw [List.take_succ_eq_append_getElem hkl,headL_snoc,hNe]
       have hhl := headL_len (L.take k) (fun x hx => hrg x (List.mem_of_mem_take hx))
       rw [List.length_take] at hhl
       obtain ⟨P,hP⟩ : ∃ P,putU (zz N).toNat = P := ⟨_,rfl⟩
       rw [hP] at hsn hPl
       simp only [go_sem,zaa,Nat.reduceAdd,Nat.reduceSub,Nat.reduceMul,Int.reduceToNat,reduceCtorEq,↓reduceIte,Int.reducePow,Nat.reducePow,Int.reduceMod,Nat.reduceLeDiff,Int.reduceLE,Int.reduceNe,Int.reduceEq,Nat.reduceEqDiff,Nat.reduceLT,Nat.reduceBEq,ty,Srlay4,putS,d1,hN,hP,hN1,hN2,e1,hlen,List.take_length,Int.toNat_natCast,Nat.zero_add]
       repeat (refine And.intro (by omega) ?_)
       refine ⟨6 - (k + 1),_,by omega,zab [0,1,2,3,4,5,87] rfl rfl rfl ?_ ?_,k + 1,rfl,by omega,rfl⟩
       · simp only [ssT,zae,zaf,setSlot,gOf,AV.ren,renL,Blk.ren,Ax.look,Ax.put,reduceCtorEq,↓reduceIte,Nat.reduceEqDiff,Nat.reduceLT,Nat.reduceAdd,List.length_append,List.length_cons,List.length_nil,Option.some.injEq,hsn,List.length_append]
       · simp only [ssT,zae,zaf,setSlot,gOf,AV.ren,renL,Blk.ren,Ax.look,Ax.put,reduceCtorEq,↓reduceIte,Nat.reduceEqDiff,Nat.reduceLT,Nat.reduceAdd,List.length_append,List.length_cons,List.length_nil,Option.some.injEq,hsn]
     · have d1 : decide ((k : Int) < ((6 : Nat) : Int)) = false := decide_eq_false (by omega)
       have hk2 : L.take k = L := List.take_of_length_le (by omega)
       have hHl := headL_len L hrg
       simp only [go_sem,zaa,Nat.reduceAdd,Nat.reduceSub,Nat.reduceMul,Int.reduceToNat,reduceCtorEq,↓reduceIte,Int.reducePow,Nat.reducePow,Int.reduceMod,Nat.reduceLeDiff,Int.reduceLE,Int.reduceNe,Int.reduceEq,Nat.reduceEqDiff,Nat.reduceLT,Nat.reduceBEq,ty,Srlay4,d1,hk2]
       refine zas ⟨fun m σ => ∃ i : Nat,m = rs.length - i ∧ i ≤ rs.length ∧
           σ = ⟨[.agg [.w (.int .i64 b),.w (.int .i64 c),.w (.int .i64 p),.w (.int .i64 e),.w (.int .i64 s),.sg 6 (rs.map rv) f],.rf 4 6 0 0,.junk,.ms 5 1 0 (zcs L ++ (rs.take i).flatMap rb).length,.junk,.junk,.w (.int .i64 i),.junk,.junk,.junk,.junk,.junk,.junk,.junk,.junk,.junk,.junk,.junk,.junk,.junk,.junk,.junk,.junk,.junk,.junk,.junk,.junk,.junk,.junk,.junk,.junk,.junk,.junk,.junk,.junk,.junk,.junk,.junk,.junk,.junk,.junk,.junk,.junk,.junk,.junk,.junk,.junk,.junk,.junk,.junk,.junk,.junk,.junk,.junk,.junk,.junk],[(4,.g 6 [.agg [.w (.int .i64 b),.w (.int .i64 c),.w (.int .i64 p),.w (.int .i64 e),.w (.int .i64 s),.sg 6 (rs.map rv) f]]),(5,.b (zcs L ++ (rs.take i).flatMap rb))],6⟩,?_,?_⟩
       · refine ⟨_,_,zab [0,1,2,3,4,6] rfl rfl rfl ?_ ?_,0,rfl,by omega,rfl⟩
         · simp only [ssT,zae,zaf,setSlot,gOf,AV.ren,renL,Blk.ren,Ax.look,Ax.put,reduceCtorEq,↓reduceIte,Nat.reduceEqDiff,Nat.reduceLT,Nat.reduceAdd,List.length_append,List.length_cons,List.length_nil,Option.some.injEq]; simp
         · simp only [ssT,zae,zaf,setSlot,gOf,AV.ren,renL,Blk.ren,Ax.look,Ax.put,reduceCtorEq,↓reduceIte,Nat.reduceEqDiff,Nat.reduceLT,Nat.reduceAdd,List.length_append,List.length_cons,List.length_nil,Option.some.injEq]; simp
       · rintro m σ ⟨i,rfl,hi,rfl⟩
         have e2 : ((i : Int) + 1 + 9223372036854775808) % 18446744073709551616 - 9223372036854775808 = ((i + 1 : Nat) : Int) := by omega
         have hbl := rbs_length (rs.take i)
         rw [List.length_take] at hbl
         obtain ⟨O,hO⟩ : ∃ O,zcs L ++ (rs.take i).flatMap rb = O := ⟨_,rfl⟩
         have hOl : O.length ≤ 60 + 700 * 40 := by rw [← hO,List.length_append]; omega
         by_cases hil : i < rs.length
         · have d3 : decide ((i : Int) < rs.length) = true := decide_eq_true (by omega)
           have hsl := zbe rv rs i hil
           have htk : (rs.take (i + 1)).flatMap rb = (rs.take i).flatMap rb ++ rb rs[i] := by
             rw [List.take_succ_eq_append_getElem hil,List.flatMap_append,List.flatMap_cons,List.flatMap_nil,List.append_nil]
           obtain ⟨R,hR⟩ : ∃ R,rs[i] = R := ⟨_,rfl⟩
           rw [hR] at hsl htk
           simp only [rv] at hsl
           have hRl := rb_length R
           have hrb : recB R.d R.t R.k R.key R.dd R.val = rb R := rfl
           have htk2 : zcs L ++ (rs.take (i + 1)).flatMap rb = O ++ rb R := by rw [htk,← hO,List.append_assoc]
           have hln2 : (zcs L).length + ((rs.take (i + 1)).flatMap rb).length = O.length + (rb R).length := by rw [← List.length_append,htk2,List.length_append]
           simp only [go_sem,zaa,Nat.reduceAdd,Nat.reduceSub,Nat.reduceMul,Int.reduceToNat,reduceCtorEq,↓reduceIte,Int.reducePow,Nat.reducePow,Int.reduceMod,Nat.reduceLeDiff,Int.reduceLE,Int.reduceNe,Int.reduceEq,Nat.reduceEqDiff,Nat.reduceLT,Nat.reduceBEq,ty,Srlay4,rputS,hrb,hO,hl4,d3,hsl,e2,List.take_length,Int.toNat_natCast]
           repeat (refine And.intro (by omega) ?_)
           refine ⟨rs.length - (i + 1),_,by omega,zab [0,1,2,3,4,150] rfl rfl rfl ?_ ?_,i + 1,rfl,by omega,rfl⟩
           · simp only [ssT,zae,zaf,setSlot,gOf,AV.ren,renL,Blk.ren,Ax.look,Ax.put,reduceCtorEq,↓reduceIte,Nat.reduceEqDiff,Nat.reduceLT,Nat.reduceAdd,List.length_append,List.length_cons,List.length_nil,Option.some.injEq,htk2,List.length_append,hln2]
           · simp only [ssT,zae,zaf,setSlot,gOf,AV.ren,renL,Blk.ren,Ax.look,Ax.put,reduceCtorEq,↓reduceIte,Nat.reduceEqDiff,Nat.reduceLT,Nat.reduceAdd,List.length_append,List.length_cons,List.length_nil,Option.some.injEq,htk2]
         · have d3 : decide ((i : Int) < rs.length) = false := decide_eq_false (by omega)
           have htk : rs.take i = rs := List.take_of_length_le (by omega)
           have hOe : batL b c p e s rs = O := by unfold batL; rw [hLL,← hO,htk]
           simp only [go_sem,zaa,Nat.reduceAdd,Nat.reduceSub,Nat.reduceMul,Int.reduceToNat,reduceCtorEq,↓reduceIte,Int.reducePow,Nat.reducePow,Int.reduceMod,Nat.reduceLeDiff,Int.reduceLE,Int.reduceNe,Int.reduceEq,Nat.reduceEqDiff,Nat.reduceLT,Nat.reduceBEq,ty,Srlay4,hO,hl4,d3,zaj,hOe]
           exact put1_ends rfl rfl rfl rfl
 · exact hp.elim
end
end Go.Proofs.Ytlcijldkdpmknaa
namespace Go.Proofs.Ytlcijldkdpmknaa
open Ax
theorem fld_cases (b c p e s n : Int) :
   (decide (c < 1) = true ∧ bfld b c p e s n = 11) ∨
   (decide (c < 1) = false ∧ decide (32 < c) = true ∧ bfld b c p e s n = 11) ∨
   (decide (c < 1) = false ∧ decide (32 < c) = false ∧ decide (b < 0) = true ∧ bfld b c p e s n = 11) ∨
   (decide (c < 1) = false ∧ decide (32 < c) = false ∧ (4611686018427387903 - c + 9223372036854775808) % 18446744073709551616 - 9223372036854775808 = 4611686018427387903 - c ∧ decide (b < 0) = false ∧ decide (4611686018427387903 - c < b) = true ∧ bfld b c p e s n = 11) ∨
   (decide (c < 1) = false ∧ decide (32 < c) = false ∧ (4611686018427387903 - c + 9223372036854775808) % 18446744073709551616 - 9223372036854775808 = 4611686018427387903 - c ∧ decide (b < 0) = false ∧ decide (4611686018427387903 - c < b) = false ∧
     ((decide (p < 0) = true ∧ bfld b c p e s n = 11) ∨
      (decide (p < 0) = false ∧ decide (1099511627776 < p) = true ∧ bfld b c p e s n = 11) ∨
      (decide (p < 0) = false ∧ decide (1099511627776 < p) = false ∧ decide (e < 0) = true ∧ bfld b c p e s n = 11) ∨
      (decide (p < 0) = false ∧ decide (1099511627776 < p) = false ∧ decide (e < 0) = false ∧ decide (32767 < e) = true ∧ bfld b c p e s n = 11) ∨
      (decide (p < 0) = false ∧ decide (1099511627776 < p) = false ∧ decide (e < 0) = false ∧ decide (32767 < e) = false ∧ decide (s < 0) = true ∧ bfld b c p e s n = 11) ∨
      (decide (p < 0) = false ∧ decide (1099511627776 < p) = false ∧ decide (e < 0) = false ∧ decide (32767 < e) = false ∧ decide (s < 0) = false ∧ decide (2147483647 < s) = true ∧ bfld b c p e s n = 11) ∨
      (decide (p < 0) = false ∧ decide (1099511627776 < p) = false ∧ decide (e < 0) = false ∧ decide (32767 < e) = false ∧ decide (s < 0) = false ∧ decide (2147483647 < s) = false ∧
       ((decide (p = 0) = true ∧ decide (e = 0) = false ∧ bfld b c p e s n = 4) ∨
        (decide (p = 0) = true ∧ decide (e = 0) = true ∧ decide (s = 0) = false ∧ bfld b c p e s n = 4) ∨
        (decide (p = 0) = true ∧ decide (e = 0) = true ∧ decide (s = 0) = true ∧ decide (c < n) = true ∧ bfld b c p e s n = 5) ∨
        (decide (p = 0) = false ∧ decide (c < n) = true ∧ bfld b c p e s n = 5) ∨
        (decide (p = 0) = true ∧ decide (e = 0) = true ∧ decide (s = 0) = true ∧ decide (c < n) = false ∧ bfld b c p e s n = 0) ∨
        (decide (p = 0) = false ∧ decide (c < n) = false ∧ bfld b c p e s n = 0))))) := by
 unfold bfld
 simp only [decide_eq_true_eq,decide_eq_false_iff_not]
 by_cases h0 : c < 1
 · exact .inl ⟨h0,if_pos (by omega)⟩
 by_cases h1 : 32 < c
 · exact .inr (.inl ⟨h0,h1,if_pos (by omega)⟩)
 by_cases h2 : b < 0
 · exact .inr (.inr (.inl ⟨h0,h1,h2,if_pos (by omega)⟩))
 by_cases h3 : 4611686018427387903 - c < b
 · exact .inr (.inr (.inr (.inl ⟨h0,h1,by omega,h2,h3,if_pos (by omega)⟩)))
 refine .inr (.inr (.inr (.inr ⟨h0,h1,by omega,h2,h3,?_⟩)))
 by_cases h4 : p < 0
 · exact .inl ⟨h4,if_pos (by omega)⟩
 by_cases h5 : 1099511627776 < p
 · exact .inr (.inl ⟨h4,h5,if_pos (by omega)⟩)
 by_cases h6 : e < 0
 · exact .inr (.inr (.inl ⟨h4,h5,h6,if_pos (by omega)⟩))
 by_cases h7 : 32767 < e
 · exact .inr (.inr (.inr (.inl ⟨h4,h5,h6,h7,if_pos (by omega)⟩)))
 by_cases h8 : s < 0
 · exact .inr (.inr (.inr (.inr (.inl ⟨h4,h5,h6,h7,h8,if_pos (by omega)⟩))))
 by_cases h9 : 2147483647 < s
 · exact .inr (.inr (.inr (.inr (.inr (.inl ⟨h4,h5,h6,h7,h8,h9,if_pos (by omega)⟩)))))
 refine .inr (.inr (.inr (.inr (.inr (.inr ⟨h4,h5,h6,h7,h8,h9,?_⟩)))))
 rw [if_neg (by omega)]
 by_cases hp : p = 0
 · by_cases he : e = 0
   · by_cases hs : s = 0
     · by_cases hc : c < n
       · exact .inr (.inr (.inl ⟨hp,he,hs,hc,by rw [if_neg (by omega),if_pos hc]⟩))
       · exact .inr (.inr (.inr (.inr (.inl ⟨hp,he,hs,hc,by rw [if_neg (by omega),if_neg hc]⟩))))
     · exact .inr (.inl ⟨hp,he,hs,if_pos (by omega)⟩)
   · exact .inl ⟨hp,he,if_pos (by omega)⟩
 · by_cases hc : c < n
   · exact .inr (.inr (.inr (.inl ⟨hp,hc,by rw [if_neg (by omega),if_pos hc]⟩)))
   · exact .inr (.inr (.inr (.inr (.inr ⟨hp,hc,by rw [if_neg (by omega),if_neg hc]⟩))))
def rchkS4 : zam
 | [.agg [.w (.int .i64 b),.w (.int .i64 c),.w (.int .i64 p),.w (.int .i64 e),.w (.int .i64 s),.sg 6 xs f]],[] =>
     ⟨xs.length ≤ 40 ∧ ∃ rs : List Rec,xs = rs.map rv,.w (.int .i64 (batE b c p e s (xs.map rrec))),[]⟩
 | _,_ => zay
def rputS4 : zam
 | [.agg [.w (.int .i64 b),.w (.int .i64 c),.w (.int .i64 p),.w (.int .i64 e),.w (.int .i64 s),.sg 6 xs f]],[] => ⟨xs.length ≤ 40 ∧ ∃ rs : List Rec,xs = rs.map rv,
     .tup [.sb (batB b c p e s (xs.map rrec)) false,.w (.int .i64 (batE b c p e s (xs.map rrec)))],[]⟩
 | _,_ => zay
theorem batE_eq (b c p e s : Int) (rs : List Rec) (h : bfld b c p e s rs.length ≠ 0) : batE b c p e s rs = bfld b c p e s rs.length := if_neg h
def Srchk4 (f : FuncId) : Option zam :=
 match f with
 | 38 => some rlayS4
 | 37 => some rchkS
 | _ => none
theorem Srchk4_ok : Fns Try.prog Srchk4 := by
 intro f s h
 unfold Srchk4 at h
 split at h
 · injection h with h; subst h; exact ⟨⟨_,Try.func38,by kernel_rfl,by kernel_rfl⟩,rlay4_sound⟩
 · injection h with h; subst h; exact ⟨⟨_,Try.func37,by kernel_rfl,by kernel_rfl⟩,rrcheck_sound⟩
 · cases h
section
set_option maxRecDepth 100000
set_option maxHeartbeats 4000000 in
theorem rchk4_sound : zaq Try.prog 20 rchkS4 := by
 refine zak (S := Srchk4) (T := ty) zat ty_ok Srchk4_ok Try.func20 (c := Try.f20.body.getD .skip) (by kernel_rfl) (by kernel_rfl) (fun xs pins hp _ => ?_)
 unfold rchkS4 at hp ⊢
 split at hp
 · rename_i b c p e s xs f _
   obtain ⟨hL,rs,rfl⟩ := hp
   have hl4 : (rs.map rv).length = rs.length := by simp
   rw [hl4] at hL
   refine ⟨by simp,?_⟩
   unfold Try.f20
   have hE := batE_eq b c p e s rs
   have n1 : ((11 : Int) ≠ 0) = True := by decide
   have n2 : ((4 : Int) ≠ 0) = True := by decide
   have n3 : ((5 : Int) ≠ 0) = True := by decide
   rcases fld_cases b c p e s rs.length with D | D | D | D | ⟨a0,a1,a2,a3,a4,D | D | D | D | D | D | ⟨a5,a6,a7,a8,a9,a10,D | D | D | D | D | D⟩⟩
   all_goals simp only [go_sem,zaa,Nat.reduceAdd,Nat.reduceSub,Nat.reduceMul,Int.reduceToNat,reduceCtorEq,↓reduceIte,Int.reducePow,Nat.reducePow,Int.reduceMod,Nat.reduceLeDiff,Int.reduceLE,Int.reduceNe,Int.reduceEq,Nat.reduceEqDiff,Nat.reduceLT,Nat.reduceBEq,ty,Srchk4,hl4,zaj, *]
   all_goals
     have hF : bfld b c p e s rs.length = 0 := by simp only [D]
     have hz := bfld_zero hF
     clear D hE n1 n2 n3
     refine zas ⟨fun m σ => ∃ (i : Nat) (a : Int),m = rs.length - i ∧ i ≤ rs.length ∧ layE c (-1) rs = layE c a (rs.drop i) ∧
         σ = ⟨[.agg [.w (.int .i64 b),.w (.int .i64 c),.w (.int .i64 p),.w (.int .i64 e),.w (.int .i64 s),.sg 6 (rs.map rv) f],.rf 4 6 0 0,.junk,.w (.int .i64 a),.w (.int .i64 i),.junk,.junk,.junk,.junk,.junk,.junk,.junk,.junk,.junk,.junk,.junk,.junk,.junk,.junk,.junk,.junk,.junk,.junk,.junk,.junk,.junk,.junk,.junk,.junk,.junk,.junk,.junk,.junk,.junk,.junk,.junk,.junk,.junk,.junk,.junk,.junk,.junk,.junk,.junk,.junk,.junk,.junk,.junk,.junk,.junk,.junk,.junk,.junk,.junk,.junk,.junk,.junk,.junk,.junk,.junk,.junk,.junk,.junk,.junk,.junk,.junk,.junk,.junk,.junk,.junk,.junk,.junk,.junk,.junk,.junk,.junk,.junk,.junk,.junk,.junk,.junk,.junk,.junk,.junk,.junk,.junk,.junk,.junk,.junk,.junk,.junk,.junk,.junk,.junk,.junk,.junk,.junk,.junk,.junk,.junk,.junk,.junk,.junk,.junk,.junk,.junk,.junk,.junk,.junk,.junk,.junk,.junk,.junk,.junk,.junk,.junk,.junk,.junk,.junk,.junk,.junk,.junk,.junk,.junk,.junk],[(4,.g 6 [.agg [.w (.int .i64 b),.w (.int .i64 c),.w (.int .i64 p),.w (.int .i64 e),.w (.int .i64 s),.sg 6 (rs.map rv) f]])],5⟩,?_,?_⟩
     · refine ⟨_,_,zab [0,1,2,3,4] rfl rfl rfl ?_ ?_,0,-1,rfl,by omega,by rw [List.drop_zero],rfl⟩
       · simp only [ssT,zae,zaf,setSlot,gOf,AV.ren,renL,Blk.ren,Ax.look,Ax.put,reduceCtorEq,↓reduceIte,Nat.reduceEqDiff,Nat.reduceLT,Nat.reduceAdd,List.length_append,List.length_cons,List.length_nil,Option.some.injEq]; try simp
       · simp only [ssT,zae,zaf,setSlot,gOf,AV.ren,renL,Blk.ren,Ax.look,Ax.put,reduceCtorEq,↓reduceIte,Nat.reduceEqDiff,Nat.reduceLT,Nat.reduceAdd,List.length_append,List.length_cons,List.length_nil,Option.some.injEq]
     · rintro m σ ⟨i,a,rfl,hi,hinv,rfl⟩
       have e2 : ((i : Int) + 1 + 9223372036854775808) % 18446744073709551616 - 9223372036854775808 = ((i + 1 : Nat) : Int) := by omega
       by_cases hil : i < rs.length
       · have d3 : decide ((i : Int) < rs.length) = true := decide_eq_true (by omega)
         have hsl := zbe rv rs i hil
         have hdr : rs.drop i = rs[i] :: rs.drop (i + 1) := List.drop_eq_getElem_cons hil
         obtain ⟨R,hR⟩ : ∃ R,rs[i] = R := ⟨_,rfl⟩
         rw [hR] at hsl hdr
         simp only [rv] at hsl
         rw [hdr,layE_cons] at hinv
         have hrk : rchk R.d R.t R.k R.key R.dd R.val = rk R := rfl
         have hLE : ∀ v,v ≠ 0 → layE c (-1) rs = v → batE b c p e s rs = v := fun v h1 h2 => by unfold batE; rw [if_pos hF,if_neg (by rw [h2]; exact h1),h2]
         by_cases hk0 : rk R = 0
         · have d4 : decide (rk R = 0) = true := decide_eq_true hk0
           rw [if_pos hk0] at hinv
           have hor : (decide (R.d ≤ a) = true ∧ batE b c p e s rs = 16) ∨ (decide (R.d ≤ a) = false ∧ decide (c ≤ R.d) = true ∧ batE b c p e s rs = 16) ∨ (decide (R.d ≤ a) = false ∧ decide (c ≤ R.d) = false ∧ layE c (-1) rs = layE c R.d (rs.drop (i + 1))) := by
             by_cases hA : R.d ≤ a
             · rw [if_pos (.inl hA)] at hinv
               exact .inl ⟨decide_eq_true hA,hLE 16 (by decide) hinv⟩
             · by_cases hC : c ≤ R.d
               · rw [if_pos (.inr hC)] at hinv
                 exact .inr (.inl ⟨decide_eq_false hA,decide_eq_true hC,hLE 16 (by decide) hinv⟩)
               · rw [if_neg (by omega)] at hinv
                 exact .inr (.inr ⟨decide_eq_false hA,decide_eq_false hC,hinv⟩)
           clear hinv
           rcases hor with D | D | D
           all_goals simp only [go_sem,zaa,Nat.reduceAdd,Nat.reduceSub,Nat.reduceMul,Int.reduceToNat,reduceCtorEq,↓reduceIte,Int.reducePow,Nat.reducePow,Int.reduceMod,Nat.reduceLeDiff,Int.reduceLE,Int.reduceNe,Int.reduceEq,Nat.reduceEqDiff,Nat.reduceLT,Nat.reduceBEq,ty,Srchk4,rchkS,hrk,hl4,d3,hsl,d4,e2,zaj,Int.toNat_natCast,D]
           all_goals repeat (refine And.intro (by omega) ?_)
           all_goals try omega
           refine ⟨rs.length - (i + 1),_,by omega,zab [0,1,2,3,4] rfl rfl rfl ?_ ?_,i + 1,R.d,rfl,by omega,rfl,rfl⟩
           · simp only [ssT,zae,zaf,setSlot,gOf,AV.ren,renL,Blk.ren,Ax.look,Ax.put,reduceCtorEq,↓reduceIte,Nat.reduceEqDiff,Nat.reduceLT,Nat.reduceAdd,List.length_append,List.length_cons,List.length_nil,Option.some.injEq]
           · simp only [ssT,zae,zaf,setSlot,gOf,AV.ren,renL,Blk.ren,Ax.look,Ax.put,reduceCtorEq,↓reduceIte,Nat.reduceEqDiff,Nat.reduceLT,Nat.reduceAdd,List.length_append,List.length_cons,List.length_nil,Option.some.injEq]
         · have d4 : decide (rk R = 0) = false := decide_eq_false hk0
           rw [if_neg hk0] at hinv
           have hB := hLE _ hk0 hinv
           simp only [go_sem,zaa,Nat.reduceAdd,Nat.reduceSub,Nat.reduceMul,Int.reduceToNat,reduceCtorEq,↓reduceIte,Int.reducePow,Nat.reducePow,Int.reduceMod,Nat.reduceLeDiff,Int.reduceLE,Int.reduceNe,Int.reduceEq,Nat.reduceEqDiff,Nat.reduceLT,Nat.reduceBEq,ty,Srchk4,rchkS,hrk,hl4,d3,hsl,d4,hB,zaj,Int.toNat_natCast]
           omega
       · have d3 : decide ((i : Int) < rs.length) = false := decide_eq_false (by omega)
         have hdr : rs.drop i = [] := List.drop_eq_nil_of_le (by omega)
         rw [hdr] at hinv
         have hl0 : layE c (-1) rs = 0 := hinv
         have o1 : okI b := by unfold okI; omega
         have o2 : okI c := by unfold okI; omega
         have o3 : okI p := by unfold okI; omega
         have o4 : okI e := by unfold okI; omega
         have o5 : okI s := by unfold okI; omega
         have hex : ∃ qs : List Rec,rs.map rv = qs.map rv := ⟨rs,rfl⟩
         have hor : (decide ((8192 : Int) < (batL b c p e s rs).length) = true ∧ batE b c p e s rs = 5) ∨ (decide ((8192 : Int) < (batL b c p e s rs).length) = false ∧ batE b c p e s rs = 0) := by
           by_cases h8 : 8192 < (batL b c p e s rs).length
           · exact .inl ⟨decide_eq_true (by omega),by unfold batE; rw [if_pos hF,if_pos hl0,if_pos h8]⟩
           · exact .inr ⟨decide_eq_false (by omega),by unfold batE; rw [if_pos hF,if_pos hl0,if_neg h8]⟩
         rcases hor with ⟨d4,hB⟩ | ⟨d4,hB⟩
         all_goals simp only [go_sem,zaa,Nat.reduceAdd,Nat.reduceSub,Nat.reduceMul,Int.reduceToNat,reduceCtorEq,↓reduceIte,Int.reducePow,Nat.reducePow,Int.reduceMod,Nat.reduceLeDiff,Int.reduceLE,Int.reduceNe,Int.reduceEq,Nat.reduceEqDiff,Nat.reduceLT,Nat.reduceBEq,ty,Srchk4,rlayS4,hl4,hL,d3,d4,hB,hex,o1,o2,o3,o4,o5,zaj]
 · exact hp.elim
end
end Go.Proofs.Ytlcijldkdpmknaa
namespace Go.Proofs.Ytlcijldkdpmknaa
open Ax
def Srput4 (f : FuncId) : Option zam :=
 match f with
 | 20 => some rchkS4
 | 38 => some rlayS4
 | _ => none
theorem Srput4_ok : Fns Try.prog Srput4 := by
 intro f s h
 unfold Srput4 at h
 split at h
 · injection h with h; subst h; exact ⟨⟨_,Try.func20,by kernel_rfl,by kernel_rfl⟩,rchk4_sound⟩
 · injection h with h; subst h; exact ⟨⟨_,Try.func38,by kernel_rfl,by kernel_rfl⟩,rlay4_sound⟩
 · cases h
section
set_option maxRecDepth 100000
set_option maxHeartbeats 1000000 in
theorem rput4_sound : zaq Try.prog 32 rputS4 := by
 refine zey (S := Srput4) (T := ty) zat ty_ok Srput4_ok Try.func32 (c := Try.f32.body.getD .skip) (by kernel_rfl) (by kernel_rfl) (fun xs pins hp _ => ?_)
 unfold rputS4 at hp ⊢
 split at hp
 · rename_i b c p e s xs f _
   obtain ⟨hL,rs,rfl⟩ := hp
   have hl4 : (rs.map rv).length = rs.length := by simp
   rw [hl4] at hL
   have hex : ∃ qs : List Rec,rs.map rv = qs.map rv := ⟨rs,rfl⟩
   refine ⟨by simp,?_⟩
   unfold Try.f32
   by_cases h0 : batE b c p e s rs = 0
   · have hF : bfld b c p e s rs.length = 0 := Classical.byContradiction fun h => h ((batE_eq b c p e s rs h).symm.trans h0)
     have hz := bfld_zero hF
     have o1 : okI b := by unfold okI; omega
     have o2 : okI c := by unfold okI; omega
     have o3 : okI p := by unfold okI; omega
     have o4 : okI e := by unfold okI; omega
     have o5 : okI s := by unfold okI; omega
     have hB : batB b c p e s rs = batL b c p e s rs := if_pos h0
     simp only [go_sem,zaa,Nat.reduceAdd,Nat.reduceSub,Nat.reduceMul,Int.reduceToNat,reduceCtorEq,↓reduceIte,Int.reducePow,Nat.reducePow,Int.reduceMod,Nat.reduceLeDiff,Int.reduceLE,Int.reduceNe,Int.reduceEq,Nat.reduceEqDiff,Nat.reduceLT,Nat.reduceBEq,ty,Srput4,rchkS4,rlayS4,hl4,hL,hex,zaj,h0,hB,o1,o2,o3,o4,o5]
     refine ⟨_,Weak.refl _,?_⟩
     simp only [go_sem,coe,zaa,Nat.reduceAdd,Nat.reduceSub,Nat.reduceMul,Int.reduceToNat,reduceCtorEq,↓reduceIte,Int.reducePow,Nat.reducePow,Int.reduceMod,Nat.reduceLeDiff,Int.reduceLE,Int.reduceNe,Int.reduceEq,Nat.reduceEqDiff,Nat.reduceLT,Nat.reduceBEq,ty]
   · have d0 : decide (batE b c p e s rs = 0) = false := decide_eq_false h0
     have hB : batB b c p e s rs = [] := if_neg h0
     simp only [go_sem,zaa,Nat.reduceAdd,Nat.reduceSub,Nat.reduceMul,Int.reduceToNat,reduceCtorEq,↓reduceIte,Int.reducePow,Nat.reducePow,Int.reduceMod,Nat.reduceLeDiff,Int.reduceLE,Int.reduceNe,Int.reduceEq,Nat.reduceEqDiff,Nat.reduceLT,Nat.reduceBEq,ty,Srput4,rchkS4,hl4,hL,hex,zaj,d0,hB]
     refine ⟨_,zbl 2 (.sb [] false) (fun _ _ _ h => h.nilb),?_⟩
     simp only [go_sem,coe,zaa,Nat.reduceAdd,Nat.reduceSub,Nat.reduceMul,Int.reduceToNat,reduceCtorEq,↓reduceIte,Int.reducePow,Nat.reducePow,Int.reduceMod,Nat.reduceLeDiff,Int.reduceLE,Int.reduceNe,Int.reduceEq,Nat.reduceEqDiff,Nat.reduceLT,Nat.reduceBEq,ty]
 · exact hp.elim
set_option maxHeartbeats 1000000 in
end
end Go.Proofs.Ytlcijldkdpmknaa
namespace Go.Proofs.Ytlcijldkdpmknaa
open Ax
def from1S : zam
 | [.agg [.w (.int .i64 d),.w (.int .i64 t),.w (.bool k),.str key,.w (.bool dd),.str val],.rf 0 6 0 0,.rf 1 1 0 0],[.g 6 [.agg [.w (.int .i64 b),.w (.int .i64 c),.w (.int .i64 p),.w (.int .i64 e),.w (.int .i64 s),.sg 6 xs f]],.g 1 [.w (.int .i64 off)]] =>
     ⟨True,.w (.bool (decide (off ≤ offI b d))),[.g 6 [.agg [.w (.int .i64 b),.w (.int .i64 c),.w (.int .i64 p),.w (.int .i64 e),.w (.int .i64 s),.sg 6 xs f]],.g 1 [.w (.int .i64 off)]]⟩
 | _,_ => zay
def fromR (b off : Int) (rs : List Rec) : List Rec := rs.filter (fun r => decide (off ≤ offI b r.d))
def chooseS : zam
 | [.sg 6 ys g,.fn id [.rf 0 6 0 0,.rf 1 1 0 0]],[.g 6 [.agg [.w (.int .i64 b),.w (.int .i64 c),.w (.int .i64 p),.w (.int .i64 e),.w (.int .i64 s),.sg 6 xs f]],.g 1 [.w (.int .i64 off)]] =>
     ⟨id = 59 ∧ ys.length ≤ 1000000 ∧ ∃ rs : List Rec,ys = rs.map rv,
     .ms 2 6 0 (fromR b off (ys.map rrec)).length,[.g 6 [.agg [.w (.int .i64 b),.w (.int .i64 c),.w (.int .i64 p),.w (.int .i64 e),.w (.int .i64 s),.sg 6 xs f]],.g 1 [.w (.int .i64 off)],.g 6 ((fromR b off (ys.map rrec)).map rv)]⟩
 | _,_ => zay
section
set_option maxRecDepth 100000
set_option maxHeartbeats 400000 in
theorem from1_sound : zaq Try.prog 59 from1S := by
 refine zak (S := noS) (T := ty) zat ty_ok zbo Try.func59 (c := Try.f59.body.getD .skip) (by kernel_rfl) (by kernel_rfl) (fun xs pins hp _ => ?_)
 unfold from1S at hp ⊢
 split at hp
 · rename_i d t k key dd val b c p e s xs f off _
   refine ⟨by simp,?_⟩
   have ho : (b + d + 9223372036854775808) % 18446744073709551616 - 9223372036854775808 = offI b d := rfl
   unfold Try.f59
   simp only [go_sem,zaa,Nat.reduceAdd,Nat.reduceSub,Nat.reduceMul,Int.reduceToNat,reduceCtorEq,↓reduceIte,Int.reducePow,Nat.reducePow,Int.reduceMod,Nat.reduceLeDiff,Int.reduceLE,Int.reduceNe,Int.reduceEq,Nat.reduceEqDiff,Nat.reduceLT,Nat.reduceBEq,ty,noS,ho]
 · exact hp.elim
def Schoose (f : FuncId) : Option zam :=
 match f with
 | 59 => some from1S
 | _ => none
theorem Schoose_ok : Fns Try.prog Schoose := by
 intro f s h
 unfold Schoose at h
 split at h
 · injection h with h; subst h; exact ⟨⟨_,Try.func59,by kernel_rfl,by kernel_rfl⟩,from1_sound⟩
 · cases h
set_option maxHeartbeats 1000000 in
theorem choose_sound : zaq Try.prog 58 chooseS := by
 refine zak (S := Schoose) (T := ty) zat ty_ok Schoose_ok Try.func58 (c := Try.f58.body.getD .skip) (by kernel_rfl) (by kernel_rfl) (fun xs pins hp _ => ?_)
 unfold chooseS at hp ⊢
 split at hp
 · rename_i ys g id b c p e s xs f off _
   obtain ⟨rfl,hL,rs,rfl⟩ := hp
   rw [List.length_map] at hL
   refine ⟨by simp,?_⟩
   have hl4 : (rs.map rv).length = rs.length := by simp
   have ht : top = 4294967296 := rfl
   obtain ⟨A,hA⟩ : ∃ A,(fun r : Rec => decide (off ≤ offI b r.d)) = A := ⟨_,rfl⟩
   have hfr : fromR b off rs = rs.filter A := by unfold fromR; rw [hA]
   unfold Try.f58
   simp only [go_sem,zaa,Nat.reduceAdd,Nat.reduceSub,Nat.reduceMul,Int.reduceToNat,reduceCtorEq,↓reduceIte,Int.reducePow,Nat.reducePow,Int.reduceMod,Nat.reduceLeDiff,Int.reduceLE,Int.reduceNe,Int.reduceEq,Nat.reduceEqDiff,Nat.reduceLT,Nat.reduceBEq,ty,Schoose,hl4,zaj,hfr]
   refine zas ⟨fun m σ => ∃ i : Nat,m = rs.length - i ∧ i ≤ rs.length ∧
       σ = ⟨[.sg 6 (rs.map rv) g,.fn 59 [.rf 0 6 0 0,.rf 1 1 0 0],.junk,.junk,.junk,.ms 4 6 0 ((rs.take i).filter A).length,.junk,.junk,.sg 6 (rs.map rv) g,.w (.int .i64 rs.length),.w (.int .i64 i),.junk,.junk,.junk,.junk,.junk,.junk,.junk,.junk,.junk,.junk,.junk,.junk],[(0,.g 6 [.agg [.w (.int .i64 b),.w (.int .i64 c),.w (.int .i64 p),.w (.int .i64 e),.w (.int .i64 s),.sg 6 xs f]]),(1,.g 1 [.w (.int .i64 off)]),(4,.g 6 (((rs.take i).filter A).map rv))],5⟩,?_,?_⟩
   · refine ⟨_,_,(zfg 5 6 (.g 6 []) ⟨by decide,rfl⟩ (by exact trivial)).trans (zab [0,1,2,3,44] rfl rfl rfl ?_ ?_),0,rfl,by omega,rfl⟩
     · simp only [ssT,zae,zaf,setSlot,gOf,AV.ren,renL,Blk.ren,Ax.look,Ax.put,reduceCtorEq,↓reduceIte,Nat.reduceEqDiff,Nat.reduceLT,Nat.reduceAdd,List.length_append,List.length_cons,List.length_nil,Option.some.injEq]; try simp
     · simp only [ssT,zae,zaf,setSlot,gOf,AV.ren,renL,Blk.ren,Ax.look,Ax.put,reduceCtorEq,↓reduceIte,Nat.reduceEqDiff,Nat.reduceLT,Nat.reduceAdd,List.length_append,List.length_cons,List.length_nil,Option.some.injEq]; try simp [renL]
   · rintro m σ ⟨i,rfl,hi,rfl⟩
     have e1 : ((i : Int) + 1 + 9223372036854775808) % 18446744073709551616 - 9223372036854775808 = ((i + 1 : Nat) : Int) := by omega
     have hml : (((rs.take i).filter A).map rv).length = ((rs.take i).filter A).length := by simp
     have hfl : ((rs.take i).filter A).length ≤ i := Nat.le_trans (List.length_filter_le _ _) (by simp; omega)
     by_cases hil : i < rs.length
     · have d1 : decide ((i : Int) < rs.length) = true := decide_eq_true (by omega)
       have hs1 := zbe rv rs i hil
       have htk : (rs.take (i + 1)).filter A = (rs.take i).filter A ++ [rs[i]].filter A := by
         rw [List.take_succ_eq_append_getElem hil,List.filter_append]
       obtain ⟨P,hP⟩ : ∃ P,rs[i] = P := ⟨_,rfl⟩
       rw [hP] at hs1 htk
       simp only [rv] at hs1
       have hAP : decide (off ≤ offI b P.d) = A P := by rw [← hA]
       cases hap : A P with
       | true =>
         have hf1 : [P].filter A = [P] := by simp [hap]
         rw [hf1] at htk
         simp only [go_sem,zaa,Nat.reduceAdd,Nat.reduceSub,Nat.reduceMul,Int.reduceToNat,reduceCtorEq,↓reduceIte,Int.reducePow,Nat.reducePow,Int.reduceMod,Nat.reduceLeDiff,Int.reduceLE,Int.reduceNe,Int.reduceEq,Nat.reduceEqDiff,Nat.reduceLT,Nat.reduceBEq,ty,Schoose,from1S,hl4,hml,d1,hs1,hAP,hap,e1,Int.toNat_natCast]
         repeat (refine And.intro (by omega) ?_)
         refine ⟨rs.length - (i + 1),_,by omega,zab [0,1,2,3,93] rfl rfl rfl ?_ ?_,i + 1,rfl,by omega,rfl⟩
         · simp only [ssT,zae,zaf,setSlot,gOf,AV.ren,renL,Blk.ren,Ax.look,Ax.put,reduceCtorEq,↓reduceIte,Nat.reduceEqDiff,Nat.reduceLT,Nat.reduceAdd,List.length_append,List.length_cons,List.length_nil,Option.some.injEq,htk]; try simp
         · simp only [ssT,zae,zaf,setSlot,gOf,AV.ren,renL,Blk.ren,Ax.look,Ax.put,reduceCtorEq,↓reduceIte,Nat.reduceEqDiff,Nat.reduceLT,Nat.reduceAdd,List.length_append,List.length_cons,List.length_nil,Option.some.injEq,htk,ren_rv]; try simp [rv]
       | false =>
         have hf1 : [P].filter A = [] := by simp [hap]
         rw [hf1,List.append_nil] at htk
         simp only [go_sem,zaa,Nat.reduceAdd,Nat.reduceSub,Nat.reduceMul,Int.reduceToNat,reduceCtorEq,↓reduceIte,Int.reducePow,Nat.reducePow,Int.reduceMod,Nat.reduceLeDiff,Int.reduceLE,Int.reduceNe,Int.reduceEq,Nat.reduceEqDiff,Nat.reduceLT,Nat.reduceBEq,ty,Schoose,from1S,hl4,hml,d1,hs1,hAP,hap,e1,Int.toNat_natCast]
         repeat (refine And.intro (by omega) ?_)
         refine ⟨rs.length - (i + 1),_,by omega,zab [0,1,2,3,4] rfl rfl rfl ?_ ?_,i + 1,rfl,by omega,rfl⟩
         · simp only [ssT,zae,zaf,setSlot,gOf,AV.ren,renL,Blk.ren,Ax.look,Ax.put,reduceCtorEq,↓reduceIte,Nat.reduceEqDiff,Nat.reduceLT,Nat.reduceAdd,List.length_append,List.length_cons,List.length_nil,Option.some.injEq,htk]
         · simp only [ssT,zae,zaf,setSlot,gOf,AV.ren,renL,Blk.ren,Ax.look,Ax.put,reduceCtorEq,↓reduceIte,Nat.reduceEqDiff,Nat.reduceLT,Nat.reduceAdd,List.length_append,List.length_cons,List.length_nil,Option.some.injEq,htk,ren_rv]
     · have d1 : decide ((i : Int) < rs.length) = false := decide_eq_false (by omega)
       have hii : rs.take i = rs := List.take_of_length_le (by omega)
       simp only [go_sem,zaa,Nat.reduceAdd,Nat.reduceSub,Nat.reduceMul,Int.reduceToNat,reduceCtorEq,↓reduceIte,Int.reducePow,Nat.reducePow,Int.reduceMod,Nat.reduceLeDiff,Int.reduceLE,Int.reduceNe,Int.reduceEq,Nat.reduceEqDiff,Nat.reduceLT,Nat.reduceBEq,ty,Schoose,hl4,d1,hii,hfr,zaj,closed_rv]
 · exact hp.elim
end
end Go.Proofs.Ytlcijldkdpmknaa
namespace Go.Proofs.Ytlcijldkdpmknaa
open Ax
def Sbfrom (f : FuncId) : Option zam :=
 match f with
 | 58 => some chooseS
 | _ => none
theorem Sbfrom_ok : Fns Try.prog Sbfrom := by
 intro f s h
 unfold Sbfrom at h
 split at h
 · injection h with h; subst h; exact ⟨⟨_,Try.func58,by kernel_rfl,by kernel_rfl⟩,choose_sound⟩
 · cases h
end Go.Proofs.Ytlcijldkdpmknaa
namespace Go.Proofs.Ytlcijldkdpmknaa
open Ax
def newI (rs : List Rec) (a : Int) : Int := rs.foldl (fun a r => max a r.t) a
def newL : List Rec → Int
 | [] => -1
 | r :: rs => newI (r :: rs) r.t
def bnewS : zam
 | [.agg [.w (.int .i64 b),.w (.int .i64 c),.w (.int .i64 p),.w (.int .i64 e),.w (.int .i64 s),.sg 6 xs f]],[] =>
     ⟨xs.length ≤ 9223372036854775807 ∧ ∃ rs : List Rec,xs = rs.map rv,.w (.int .i64 (newL (xs.map rrec))),[]⟩
 | _,_ => zay
section
set_option maxRecDepth 100000
set_option maxHeartbeats 1000000 in
theorem bnew_sound : zaq Try.prog 28 bnewS := by
 refine zak (S := noS) (T := ty) zat ty_ok zbo Try.func28 (c := Try.f28.body.getD .skip) (by kernel_rfl) (by kernel_rfl) (fun xs pins hp _ => ?_)
 unfold bnewS at hp ⊢
 split at hp
 · rename_i b c p e s xs f _
   obtain ⟨hL,rs,rfl⟩ := hp
   rw [List.length_map] at hL
   refine ⟨by simp,?_⟩
   have hl4 : (rs.map rv).length = rs.length := by simp
   unfold Try.f28
   by_cases h0 : rs.length = 0
   · have d0 : decide ((rs.length : Int) = 0) = true := decide_eq_true (by omega)
     have hv : newL rs = -1 := by rw [List.length_eq_zero_iff.1 h0]; rfl
     simp only [go_sem,zaa,Nat.reduceAdd,Nat.reduceSub,Nat.reduceMul,Int.reduceToNat,reduceCtorEq,↓reduceIte,Int.reducePow,Nat.reducePow,Int.reduceMod,Nat.reduceLeDiff,Int.reduceLE,Int.reduceNe,Int.reduceEq,Nat.reduceEqDiff,Nat.reduceLT,Nat.reduceBEq,ty,noS,hl4,d0,zaj,hv]
   · have d0 : decide ((rs.length : Int) = 0) = false := decide_eq_false (by omega)
     obtain ⟨R,qs,rfl⟩ : ∃ R qs,rs = R :: qs := by cases rs with | nil => simp at h0 | cons R qs => exact ⟨R,qs,rfl⟩
     obtain ⟨rs,hrs⟩ : ∃ rs,R :: qs = rs := ⟨_,rfl⟩
     have hv : newL rs = newI rs R.t := by rw [← hrs]; rfl
     have hs0 : slot (rs.map rv) 0 = rv R := by rw [← hrs]; rfl
     have hpos : 0 < rs.length := by rw [← hrs]; simp
     have hLr : rs.length ≤ 9223372036854775807 := by rw [← hrs]; exact hL
     simp only [rv] at hs0
     rw [hrs]
     clear hrs hL hl4 d0 h0
     have hl4 : (rs.map rv).length = rs.length := by simp
     have d0 : decide ((rs.length : Int) = 0) = false := decide_eq_false (by omega)
     simp only [go_sem,zaa,Nat.reduceAdd,Nat.reduceSub,Nat.reduceMul,Int.reduceToNat,reduceCtorEq,↓reduceIte,Int.reducePow,Nat.reducePow,Int.reduceMod,Nat.reduceLeDiff,Int.reduceLE,Int.reduceNe,Int.reduceEq,Nat.reduceEqDiff,Nat.reduceLT,Nat.reduceBEq,ty,noS,hl4,d0,zaj,hv,hs0,hpos,Int.toNat_zero]
     refine zas ⟨fun m σ => ∃ (i : Nat) (a : Int),m = rs.length - i ∧ i ≤ rs.length ∧ newI rs R.t = newI (rs.drop i) a ∧
         σ = ⟨[.agg [.w (.int .i64 b),.w (.int .i64 c),.w (.int .i64 p),.w (.int .i64 e),.w (.int .i64 s),.sg 6 (rs.map rv) f],.rf 4 6 0 0,.junk,.w (.int .i64 a),.junk,.junk,.junk,.junk,.junk,.junk,.junk,.junk,.junk,.junk,.junk,.junk,.sg 6 (rs.map rv) f,.w (.int .i64 rs.length),.w (.int .i64 i),.junk,.junk,.junk,.junk,.junk,.junk,.junk,.junk,.junk],[(4,.g 6 [.agg [.w (.int .i64 b),.w (.int .i64 c),.w (.int .i64 p),.w (.int .i64 e),.w (.int .i64 s),.sg 6 (rs.map rv) f]])],5⟩,?_,?_⟩
     · refine ⟨_,_,zab [0,1,2,3,4] rfl rfl rfl ?_ ?_,0,R.t,rfl,by omega,by rw [List.drop_zero],rfl⟩
       · simp only [ssT,zae,zaf,setSlot,gOf,AV.ren,renL,Blk.ren,Ax.look,Ax.put,reduceCtorEq,↓reduceIte,Nat.reduceEqDiff,Nat.reduceLT,Nat.reduceAdd,List.length_append,List.length_cons,List.length_nil,Option.some.injEq]; try simp
       · simp only [ssT,zae,zaf,setSlot,gOf,AV.ren,renL,Blk.ren,Ax.look,Ax.put,reduceCtorEq,↓reduceIte,Nat.reduceEqDiff,Nat.reduceLT,Nat.reduceAdd,List.length_append,List.length_cons,List.length_nil,Option.some.injEq]
     · rintro m σ ⟨i,a,rfl,hi,hinv,rfl⟩
       by_cases hil : i < rs.length
       · have e1 : ((i : Int) + 1 + 9223372036854775808) % 18446744073709551616 - 9223372036854775808 = ((i + 1 : Nat) : Int) := by omega
         have d1 : decide ((i : Int) < rs.length) = true := decide_eq_true (by omega)
         have hs1 := zbe rv rs i hil
         have hdr : rs.drop i = rs[i] :: rs.drop (i + 1) := List.drop_eq_getElem_cons hil
         obtain ⟨P,hP⟩ : ∃ P,rs[i] = P := ⟨_,rfl⟩
         rw [hP] at hs1 hdr
         simp only [rv] at hs1
         rw [hdr] at hinv
         have hinv2 : newI rs R.t = newI (rs.drop (i + 1)) (max a P.t) := hinv
         have em1 : (if a > P.t then a else P.t) = max a P.t := by split <;> omega
         have em2 : (if P.t > a then P.t else a) = max a P.t := by split <;> omega
         simp only [go_sem,zaa,Nat.reduceAdd,Nat.reduceSub,Nat.reduceMul,Int.reduceToNat,reduceCtorEq,↓reduceIte,Int.reducePow,Nat.reducePow,Int.reduceMod,Nat.reduceLeDiff,Int.reduceLE,Int.reduceNe,Int.reduceEq,Nat.reduceEqDiff,Nat.reduceLT,Nat.reduceBEq,ty,noS,hl4,d1,hs1,e1,em1,em2,Int.toNat_natCast]
         repeat (refine And.intro (by omega) ?_)
         refine ⟨rs.length - (i + 1),_,by omega,zab [0,1,2,3,4] rfl rfl rfl ?_ ?_,i + 1,max a P.t,rfl,by omega,hinv2,rfl⟩
         · simp only [ssT,zae,zaf,setSlot,gOf,AV.ren,renL,Blk.ren,Ax.look,Ax.put,reduceCtorEq,↓reduceIte,Nat.reduceEqDiff,Nat.reduceLT,Nat.reduceAdd,List.length_append,List.length_cons,List.length_nil,Option.some.injEq]
         · simp only [ssT,zae,zaf,setSlot,gOf,AV.ren,renL,Blk.ren,Ax.look,Ax.put,reduceCtorEq,↓reduceIte,Nat.reduceEqDiff,Nat.reduceLT,Nat.reduceAdd,List.length_append,List.length_cons,List.length_nil,Option.some.injEq]
       · have d1 : decide ((i : Int) < rs.length) = false := decide_eq_false (by omega)
         have hdr : rs.drop i = [] := List.drop_eq_nil_of_le (by omega)
         rw [hdr] at hinv
         have hv2 : newI rs R.t = a := hinv
         simp only [go_sem,zaa,Nat.reduceAdd,Nat.reduceSub,Nat.reduceMul,Int.reduceToNat,reduceCtorEq,↓reduceIte,Int.reducePow,Nat.reducePow,Int.reduceMod,Nat.reduceLeDiff,Int.reduceLE,Int.reduceNe,Int.reduceEq,Nat.reduceEqDiff,Nat.reduceLT,Nat.reduceBEq,ty,noS,hl4,d1,zaj,hv,hv2]
 · exact hp.elim
end
end Go.Proofs.Ytlcijldkdpmknaa
namespace Go.Proofs.Ytlcijldkdpmknaa
namespace Ax
mutual
def AV.fi (id : Nat) (bs : List Int) : AV → AV
 | .agg xs => .agg (fiL id bs xs)
 | .tup xs => .tup (fiL id bs xs)
 | .fn f cs => .fn f (fiL id bs cs)
 | .ms k s off len => bif k == id then (bif s == 1 && decide (off + len ≤ bs.length) then .si ((bs.drop off).take len) false else .ms k s off len) else .ms k s off len
 | x => x
def fiL (id : Nat) (bs : List Int) : List AV → List AV
 | [] => []
 | x :: xs => x.fi id bs :: fiL id bs xs
end
theorem zez (id : Nat) (bs : List Int) : ∀ (xs : List AV),(fiL id bs xs).length = xs.length ∧ ∀ (j : Nat) (h : j < (fiL id bs xs).length) (h' : j < xs.length),(fiL id bs xs)[j] = xs[j].fi id bs
 | [] => ⟨rfl,fun j h => by simp [fiL] at h⟩
 | x :: xs => by
   obtain ⟨h1,h2⟩ := zez id bs xs
   refine ⟨by simp [fiL,h1],fun j h h' => ?_⟩
   cases j with
   | zero => rfl
   | succ j => exact h2 j (by simpa [fiL] using h) (by simpa using h')
theorem fi_leaf {id : Nat} {bs : List Int} {x : AV} (h : x.leaf = true) : (x.fi id bs).leaf = true := by
 cases x <;> first | exact h | (simp [AV.leaf] at h; done) | skip
 simp only [AV.fi]
 cases (_ == id) with
 | false => rfl
 | true =>
   simp only [cond_true]
   cases (_ && _ : Bool) <;> rfl
theorem fi_R {w : World} {loc : Loc} {id : Nat} {bs : List Int} (hor : (loc.m id = .nil ∧ bs = []) ∨ ∃ b,loc.m id = .here b ∧ b < w.heap.size ∧ Lies w loc (.i bs) b ∧ (∀ k,loc.m k = .here b → k = id) ∧ ¬ loc.bad b) {x : AV} {v : Value} (h : R w loc x v) : R w (loc.set id .dead) (x.fi id bs) v := by
 have hM : ∀ c,Mut (loc.set id .dead) c → Mut loc c := by
   rintro c (h | ⟨k,h⟩)
   · exact .inl h
   · by_cases hk : k = id
     · subst hk; rw [Loc.set_same] at h; cases h
     · rw [Loc.set_other _ _ hk] at h; exact .inr ⟨k,h⟩
 have hC : ∀ {a cs},Cells w loc a cs → Cells w (loc.set id .dead) a cs := fun h => h.move (fun b _ hm => hM b hm)
 induction h with
 | w v h => exact .w v h
 | str bs => exact .str bs
 | agg xs cs hl hx _ ih =>
   obtain ⟨h1,h2⟩ := zez id bs xs
   refine .agg _ cs (by rw [h1,hl]) (fun j hj => ?_) (fun j a b => ?_)
   · rw [h2 j hj (by rw [← h1]; exact hj)]; exact fi_leaf (hx j _)
   · rw [h2 j a (by rw [← h1]; exact a)]; exact ih j _ b
 | tup xs cs hl _ ih =>
   obtain ⟨h1,h2⟩ := zez id bs xs
   refine .tup _ cs (by rw [h1,hl]) (fun j a b => ?_)
   rw [h2 j a (by rw [← h1]; exact a)]; exact ih j _ b
 | sb bs full a cap hd hc => exact .sb bs full a cap hd (hC hc)
 | si ns full a cap hd hc => exact .si ns full a cap hd (hC hc)
 | sg s xs full a cap cs hd hs hc hl hx h _ => exact .sg s xs full a cap cs hd hs (hC hc) hl hx (fun j a b => (h j a b).move (fun b _ hm => hM b hm) (hx j a).2)
 | cp ls a cs hc hn hl hx h _ => exact .cp ls a cs (hC hc) hn hl hx (fun j a b => (h j a b).move (fun b _ hm => hM b hm) (hx j a).2)
 | ms k s off len v h =>
   have hkeep : R w (loc.set id .dead) (.ms k s off len) v := by
     refine .ms _ _ _ _ _ ?_
     by_cases hk : k = id
     · subst hk; unfold Owns; rw [Loc.set_same]; exact h.one
     · unfold Owns at h ⊢; rw [Loc.set_other _ _ hk]; exact h
   simp only [AV.fi]
   by_cases hk : k = id
   · subst hk
     simp only [beq_self_eq_true,cond_true]
     cases hc : (s == 1 && decide (off + len ≤ bs.length)) with
     | false => exact hkeep
     | true =>
       simp only [cond_true]
       simp only [Bool.and_eq_true,beq_iff_eq,decide_eq_true_eq] at hc
       obtain ⟨rfl,hle⟩ := hc
       have hlen : ((bs.drop off).take len).length = len := by simp; omega
       rcases hor with ⟨hb,rfl⟩ | ⟨b,hb,hlt,hl,hinj,hnb⟩
       · unfold Owns at h
         rw [hb] at h
         obtain ⟨rfl,a,rfl⟩ := h
         have := R.si (w := w) (loc := loc.set k .dead) (([] : List Int)) false a 0 ⟨Nat.le_refl _,Nat.zero_le _,fun h => by cases h⟩ ⟨.inl rfl⟩
         simpa using this
       unfold Owns at h
       rw [hb] at h
       obtain ⟨o,cap,cur,e,fz,rfl,ho,hh,hsz,hlc,htop⟩ := h
       have hcells : Cells w (loc.set k .dead) (some ⟨b,o,none⟩) (((bs.drop off).take len).map word) := by
         by_cases h0 : len = 0
         · subst h0; exact ⟨.inl (by simp)⟩
         refine ⟨.inr ⟨b,o,rfl,?_,hlt,fun j hj => ?_⟩⟩
         · rintro (h | ⟨i,h⟩)
           · exact hnb h
           · by_cases hk : i = k
             · subst hk; rw [Loc.set_same] at h; cases h
             · rw [Loc.set_other _ _ hk] at h; exact hk (hinj i h)
         · obtain ⟨cur',e',fz',hh',hf',hone',hfl',hr'⟩ := hl.lies
           rw [hh] at hh'; injection hh' with hh'; injection hh' with h1 h2 h3; subst h1
           have ho := ho (by omega)
           rw [Nat.mul_one] at ho
           rw [ho]
           have hj' : j < len := by simp at hj; omega
           have hfl : (Blk.flat (.i bs)).length = bs.length := by simp [Blk.flat]
           have hjs : off + j < cur.size := by omega
           have := (hr' (off + j) (by omega) hjs).2
           have e1 : (Blk.flat (.i bs))[off + j]'(by omega) = .w (word (bs[off + j]'(by omega))) := by simp [Blk.flat]
           rw [e1] at this
           have := this.wv
           have e2 : (((bs.drop off).take len).map word)[j] = word (bs[off + j]'(by omega)) := by simp
           rw [e2,← this]
           simp [World.cell?,hh,hjs]
       have := R.si (w := w) (loc := loc.set k .dead) ((bs.drop off).take len) false (some ⟨b,o,none⟩) cap ⟨by omega,htop,fun h => by cases h⟩ hcells
       rw [hlen] at this
       exact this
   · have : (k == id) = false := by simpa using hk
     rw [this]; exact hkeep
 | rf k s i f v h =>
   refine .rf _ _ _ _ _ ?_
   by_cases hk : k = id
   · subst hk; unfold Points; rw [Loc.set_same]; exact h.one
   · unfold Points at h ⊢; rw [Loc.set_other _ _ hk]; exact h
 | fn f caps cs hl _ ih =>
   obtain ⟨h1,h2⟩ := zez id bs caps
   refine .fn f _ cs (by rw [h1,hl]) (fun j a b => ?_)
   rw [h2 j a (by rw [← h1]; exact a)]; exact ih j _ b
 | junk v => exact .junk v
def Blk.fi (id : Nat) (bs : List Int) : Blk → Blk
 | .g s xs => .g s (fiL id bs xs)
 | .b cs => .b cs
 | .i ns => .i ns
 | .o x => .o x
theorem odd_fi {id : Nat} {bs : List Int} {b : Blk} : (b.fi id bs).odd = b.odd := by cases b <;> rfl
theorem size_fi {id : Nat} {bs : List Int} {b : Blk} : (b.fi id bs).size = b.size := by cases b <;> rfl
def fiH (id : Nat) (bs : List Int) : Heap → Heap
 | [] => []
 | p :: r => bif p.1 == id then fiH id bs r else (p.1,p.2.fi id bs) :: fiH id bs r
theorem leaves_fi (id : Nat) (bs : List Int) (x : AV) : (x.fi id bs).leaves = fiL id bs x.leaves := by
 cases x <;> first | rfl | skip
 simp only [AV.fi,AV.leaves,fiL]
 cases (_ == id) with
 | false => rfl
 | true =>
   simp only [cond_true]
   cases (_ && _ : Bool) <;> rfl
theorem fiL_append (id : Nat) (bs : List Int) : ∀ (xs ys : List AV),fiL id bs (xs ++ ys) = fiL id bs xs ++ fiL id bs ys
 | [],_ => rfl
 | x :: xs,ys => by simp [fiL,fiL_append id bs xs ys]
theorem flat_fi (id : Nat) (bs : List Int) (b : Blk) : (b.fi id bs).flat = fiL id bs b.flat := by
 cases b with
 | b cs =>
   simp only [Blk.fi,Blk.flat]
   induction cs with
   | nil => rfl
   | cons c r ih => simp only [List.map_cons,fiL,AV.fi]; rw [← ih]
 | o x => rfl
 | i ns =>
   simp only [Blk.fi,Blk.flat]
   induction ns with
   | nil => rfl
   | cons c r ih => simp only [List.map_cons,fiL,AV.fi]; rw [← ih]
 | g s xs =>
   simp only [Blk.fi,Blk.flat]
   induction xs with
   | nil => rfl
   | cons c r ih => simp only [fiL,List.flatMap_cons,fiL_append]; rw [ih,leaves_fi]
theorem ok_fi {id : Nat} {bs : List Int} {b : Blk} (h : b.ok) : (b.fi id bs).ok := by
 cases b with
 | g s xs =>
   obtain ⟨h1,h2⟩ := h
   refine ⟨h1,fun x hx => ?_⟩
   obtain ⟨j,hj,rfl⟩ := List.getElem_of_mem hx
   obtain ⟨h3,h4⟩ := zez id bs xs
   rw [h4 j hj (by rw [← h3]; exact hj),leaves_fi,(zez id bs _).1]
   exact h2 _ (List.getElem_mem _)
 | _ => trivial
theorem len_fi {id : Nat} {bs : List Int} {b : Blk} : (b.fi id bs).len = b.len := by
 cases b with
 | g s xs => exact (zez id bs xs).1
 | _ => rfl
theorem fiH_get {id : Nat} {bs : List Int} : ∀ {H : Heap} {k : Nat} {b : Blk},look (fiH id bs H) k = some b → k ≠ id ∧ ∃ c,look H k = some c ∧ b = c.fi id bs
 | [],k,b,h => by simp [fiH,look] at h
 | p :: r,k,b,h => by
   have e : look (p :: r) k = if p.1 = k then some p.2 else look r k := zav r p.1 k p.2
   unfold fiH at h
   by_cases hp : p.1 = id
   · have : (p.1 == id) = true := by simpa using hp
     rw [this] at h
     obtain ⟨h1,c,h2,h3⟩ := fiH_get h
     exact ⟨h1,c,by rw [e,if_neg (by omega)]; exact h2,h3⟩
   · have : (p.1 == id) = false := by simpa using hp
     rw [this] at h
     have e2 : look ((p.1,p.2.fi id bs) :: fiH id bs r) k = if p.1 = k then some (p.2.fi id bs) else look (fiH id bs r) k := zav (fiH id bs r) p.1 k _
     simp only [cond_false] at h
     rw [e2] at h
     split at h
     · rename_i hk
       injection h with h
       exact ⟨by omega,p.2,by rw [e,if_pos hk],h.symm⟩
     · rename_i hk
       obtain ⟨h1,c,h2,h3⟩ := fiH_get h
       exact ⟨h1,c,by rw [e,if_neg hk]; exact h2,h3⟩
theorem slot_fiL {id : Nat} {bs : List Int} : ∀ (sl : List AV) (t : Nat),slot (fiL id bs sl) t = (slot sl t).fi id bs
 | [],t => rfl
 | x :: xs,0 => rfl
 | x :: xs,t + 1 => slot_fiL xs t
theorem rel_fi {w0 : World} {E : Nat → Prop} {B : Bs} {w : World} {loc : Loc} {a : Act} {sl : List AV} {H : Heap} {nx : Nat} (id : Nat) (bs : List Int) (hl : look H id = some (.i bs)) (hB : Base w0 B w loc) (hr : Rel' w0 E loc ⟨sl,H,nx⟩ a w) (hlive : loc.m id ≠ .free) : Rel w0 E B ⟨fiL id bs sl,fiH id bs H,nx⟩ a w := by
 have hblk := hr.heap id _ hl
 have hor : (loc.m id = .nil ∧ bs = []) ∨ ∃ b,loc.m id = .here b ∧ b < w.heap.size ∧ Lies w loc (.i bs) b ∧ (∀ k,loc.m k = .here b → k = id) ∧ ¬ loc.bad b := by
   unfold BlkR at hblk
   cases e : loc.m id with
   | free => exact (hlive e).elim
   | dead => rw [e] at hblk; exact hblk.elim
   | nil => rw [e] at hblk; exact .inl ⟨rfl,List.eq_nil_of_length_eq_zero hblk.2⟩
   | here b =>
     rw [e] at hblk
     have h1 := hr.env.lies id b e
     refine .inr ⟨b,rfl,h1.1,hblk.2,fun k hk => hr.env.inj k id b hk e,fun hb => ?_⟩
     have h2 := hr.env.bad b hb
     rcases h1.2 with h3 | h3
     · omega
     · exact h2.2 h3
 have hset : ∀ {k c},(loc.set id .dead).m k = .here c → loc.m k = .here c := by
   intro k c h
   by_cases hk : k = id
   · subst hk; rw [Loc.set_same] at h; cases h
   · rwa [Loc.set_other _ _ hk] at h
 refine ⟨loc.set id .dead,⟨hB.1,hB.2.1,fun k hk => ?_⟩,⟨?_,fun t => ?_,?_,⟨hr.env.os,hr.env.tape,hr.env.output,hr.env.size,hr.env.same,fun i j b h1 h2 => hr.env.inj i j b (hset h1) (hset h2),fun i b h1 => hr.env.lies i b (hset h1),hr.env.bad⟩,?_,hr.defers,?_⟩⟩
 · by_cases hne : k = id
   · subst hne; left; rw [Loc.set_same]
   · rw [Loc.set_other _ _ hne]; exact hB.2.2 k hk
 · rw [hr.size]; exact ((zez id bs sl).1).symm
 · simp only; rw [slot_fiL]; exact fi_R hor (hr.slots t)
 · intro k b hk
   obtain ⟨h1,c,h2,rfl⟩ := fiH_get hk
   have h3 := hr.heap k c h2
   unfold BlkR at h3 ⊢
   rw [Loc.set_other _ _ h1]
   split
   · trivial
   · rename_i e; rw [e] at h3; exact h3
   · rename_i e; rw [e] at h3; exact ⟨ok_fi h3.1,by rw [len_fi]; exact h3.2⟩
   · rename_i d e
     rw [e] at h3
     rcases zbr c with ⟨x,hx,rfl⟩ | hodd
     · exact ⟨ok_fi h3.1,.mkO (Thing.move (loc := loc) (fun c _ hM => hM.imp (fun h => h) (fun ⟨k,h⟩ => ⟨k,hset h⟩)) (h3.2.is hx)) rfl⟩
     obtain ⟨cur,el,fi,g1,g2,g3,g4,g5⟩ := h3.2.lies hodd
     have hlen : (c.fi id bs).flat.length = c.flat.length := by rw [flat_fi,(zez id bs _).1]
     refine ⟨ok_fi h3.1,.mkC ⟨cur,el,fi,g1,by rw [size_fi]; exact g2,g3,by omega,fun j x y => ?_⟩ (odd_fi.trans hodd)⟩
     have h6 := g5 j (by omega) y
     have e : (c.fi id bs).flat[j] = (c.flat[j]'(by omega)).fi id bs := by
       have := (zez id bs c.flat).2 j (by rw [(zez id bs _).1]; omega) (by omega)
       rw [← this]
       congr 1
       exact flat_fi id bs c
     rw [e]
     exact ⟨fi_leaf h6.1,fi_R hor h6.2⟩
 · intro k hk
   by_cases hne : k = id
   · exact (hlive (hne ▸ hr.fresh k hk)).elim
   · rw [Loc.set_other _ _ hne]; exact hr.fresh k hk
 · intro k b hk
   obtain ⟨h1,c,h2,rfl⟩ := fiH_get hk
   exact hr.low k c h2
theorem weak_fi {sl : List AV} {H : Heap} {nx : Nat} (id i : Nat) (bs : List Int) (hl : look H id = some (.i bs)) (hi : id ∈ (slot sl i).ids) : Weak ⟨sl,H,nx⟩ ⟨fiL id bs sl,fiH id bs H,nx⟩ := by
 rintro w0 E B a w ⟨loc,hB,hr⟩
 exact rel_fi id bs hl hB hr (zdn _ _ (hr.slots i) hi)
end Ax
end Go.Proofs.Ytlcijldkdpmknaa
namespace Go.Proofs.Ytlcijldkdpmknaa
namespace Ax
mutual
def AV.fg (id s : Nat) (zs : List AV) : AV → AV
 | .agg xs => .agg (fgL id s zs xs)
 | .tup xs => .tup (fgL id s zs xs)
 | .fn f cs => .fn f (fgL id s zs cs)
 | .ms k s' off len => bif k == id then (bif s' == s && decide (off + len ≤ zs.length) then .sg s ((zs.drop off).take len) false else .ms k s' off len) else .ms k s' off len
 | x => x
def fgL (id s : Nat) (zs : List AV) : List AV → List AV
 | [] => []
 | x :: xs => x.fg id s zs :: fgL id s zs xs
end
theorem zfa (id s : Nat) (zs : List AV) : ∀ (xs : List AV),(fgL id s zs xs).length = xs.length ∧ ∀ (j : Nat) (h : j < (fgL id s zs xs).length) (h' : j < xs.length),(fgL id s zs xs)[j] = xs[j].fg id s zs
 | [] => ⟨rfl,fun j h => by simp [fgL] at h⟩
 | x :: xs => by
   obtain ⟨h1,h2⟩ := zfa id s zs xs
   refine ⟨by simp [fgL,h1],fun j h h' => ?_⟩
   cases j with
   | zero => rfl
   | succ j => exact h2 j (by simpa [fgL] using h) (by simpa using h')
theorem fg_leaf {id s : Nat} {zs : List AV} {x : AV} (h : x.leaf = true) : (x.fg id s zs).leaf = true := by
 cases x <;> first | exact h | (simp [AV.leaf] at h; done) | skip
 simp only [AV.fg]
 cases (_ == id) with
 | false => rfl
 | true =>
   simp only [cond_true]
   cases (_ && _ : Bool) <;> rfl
theorem fg_R {w : World} {loc : Loc} {id s : Nat} {zs : List AV} (hcl : closedL zs = true) (hok : Blk.ok (.g s zs)) (hor : (loc.m id = .nil ∧ zs = []) ∨ ∃ b,loc.m id = .here b ∧ b < w.heap.size ∧ Lies w loc (.g s zs) b ∧ (∀ k,loc.m k = .here b → k = id) ∧ ¬ loc.bad b) {x : AV} {v : Value} (h : R w loc x v) : R w (loc.set id .dead) (x.fg id s zs) v := by
 have hM : ∀ c,Mut (loc.set id .dead) c → Mut loc c := by
   rintro c (h | ⟨k,h⟩)
   · exact .inl h
   · by_cases hk : k = id
     · subst hk; rw [Loc.set_same] at h; cases h
     · rw [Loc.set_other _ _ hk] at h; exact .inr ⟨k,h⟩
 have hC : ∀ {a cs},Cells w loc a cs → Cells w (loc.set id .dead) a cs := fun h => h.move (fun b _ hm => hM b hm)
 induction h with
 | w v h => exact .w v h
 | str bs => exact .str bs
 | agg xs cs hl hx _ ih =>
   obtain ⟨h1,h2⟩ := zfa id s zs xs
   refine .agg _ cs (by rw [h1,hl]) (fun j hj => ?_) (fun j a b => ?_)
   · rw [h2 j hj (by rw [← h1]; exact hj)]; exact fg_leaf (hx j _)
   · rw [h2 j a (by rw [← h1]; exact a)]; exact ih j _ b
 | tup xs cs hl _ ih =>
   obtain ⟨h1,h2⟩ := zfa id s zs xs
   refine .tup _ cs (by rw [h1,hl]) (fun j a b => ?_)
   rw [h2 j a (by rw [← h1]; exact a)]; exact ih j _ b
 | sb bs full a cap hd hc => exact .sb bs full a cap hd (hC hc)
 | si ns full a cap hd hc => exact .si ns full a cap hd (hC hc)
 | sg s xs full a cap cs hd hs hc hl hx h _ => exact .sg s xs full a cap cs hd hs (hC hc) hl hx (fun j a b => (h j a b).move (fun b _ hm => hM b hm) (hx j a).2)
 | cp ls a cs hc hn hl hx h _ => exact .cp ls a cs (hC hc) hn hl hx (fun j a b => (h j a b).move (fun b _ hm => hM b hm) (hx j a).2)
 | ms k s' off len v h =>
   have hkeep : R w (loc.set id .dead) (.ms k s' off len) v := by
     refine .ms _ _ _ _ _ ?_
     by_cases hk : k = id
     · subst hk; unfold Owns; rw [Loc.set_same]; exact h.one
     · unfold Owns at h ⊢; rw [Loc.set_other _ _ hk]; exact h
   simp only [AV.fg]
   by_cases hk : k = id
   · subst hk
     simp only [beq_self_eq_true,cond_true]
     cases hc : (s' == s && decide (off + len ≤ zs.length)) with
     | false => exact hkeep
     | true =>
       simp only [cond_true]
       simp only [Bool.and_eq_true,beq_iff_eq,decide_eq_true_eq] at hc
       obtain ⟨rfl,hle⟩ := hc
       have hlen : ((zs.drop off).take len).length = len := by simp; omega
       have hls : ∀ y ∈ (zs.drop off).take len,y.leaves.length = s' := fun y hy => hok.2 y (List.mem_of_mem_drop (List.mem_of_mem_take hy))
       have hclx : ∀ (j : Nat) (hj : j < (((zs.drop off).take len).flatMap AV.leaves).length),(((zs.drop off).take len).flatMap AV.leaves)[j].closed = true := by
         intro j hj
         have hm := List.getElem_mem hj
         obtain ⟨y,hy,hyl⟩ := List.mem_flatMap.1 hm
         exact closed_leaves (closedL_mem hcl (List.mem_of_mem_drop (List.mem_of_mem_take hy))) _ hyl
       have hHR : HR w loc [(k,.g s' zs)] := by
         intro i b hl
         simp only [look] at hl
         split at hl
         · rename_i e; subst e
           injection hl with hl; subst hl
           unfold BlkR
           rcases hor with ⟨h1,h2⟩ | ⟨b,h1,h2,h3,_⟩
           · rw [h1]; exact ⟨hok,by rw [h2]; rfl⟩
           · rw [h1]; exact ⟨hok,h3⟩
         · cases hl
       have hs := seen_ms (H := [(k,.g s' zs)]) (blk := .g s' zs) hHR h (by simp [look]) rfl hle
       have hfl : (Blk.flat (.g s' zs) |>.drop (off * s') |>.take (len * s')) = ((zs.drop off).take len).flatMap AV.leaves := by
         rw [zbp _ _ (fun y hy => hok.2 y (List.mem_of_mem_drop hy)),zbz _ _ hok.2]; rfl
       rw [hfl] at hs
       obtain ⟨a,cap,rfl,h1,h2,h3⟩ := hs.seen
       have h3 : len = 0 ∨ ∃ cs,(cs.length = len * s' ∧ CellsOf w loc (((zs.drop off).take len).flatMap AV.leaves) cs ∧ Cells w (loc.set k .dead) a cs) := by
         rcases h3 with h3 | ⟨b,o,cs,rfl,h4,h5,h6,h7⟩
         · exact .inl h3
         · by_cases h0 : len = 0
           · exact .inl h0
           refine .inr ⟨cs,h5,h7,⟨.inr ⟨b,o,rfl,?_,h4,h6⟩⟩⟩
           have hb : loc.m k = .here b ∧ (∀ i,loc.m i = .here b → i = k) ∧ ¬ loc.bad b := by
             rcases hor with ⟨hb,rfl⟩ | ⟨b',hb,hlt,hl,hinj,hnb⟩
             · simp at hle; omega
             · unfold Owns at h; rw [hb] at h
               obtain ⟨o',cap',cur0,e0,fz0,hv,_⟩ := h
               injection hv with hv _ _
               injection hv with hv
               injection hv with hv1 hv2
               subst hv1
               exact ⟨hb,hinj,hnb⟩
           rintro (hq | ⟨i,hq⟩)
           · exact hb.2.2 hq
           · by_cases hk : i = k
             · subst hk; rw [Loc.set_same] at hq; cases hq
             · rw [Loc.set_other _ _ hk] at hq; exact hk (hb.2.1 i hq)
       have : R w (loc.set k .dead) (.sg s' ((zs.drop off).take len) false) (.slice a ((zs.drop off).take len).length cap) := by
         rcases h3 with h0 | ⟨cs,h5,h7,h8⟩
         · have he : (zs.drop off).take len = [] := List.length_eq_zero_iff.1 (by omega)
           rw [he]
           exact .sg s' [] false a cap [] ⟨Nat.zero_le _,h2,by simp⟩ (by simp) ⟨.inl rfl⟩ (by simp) (fun j hj => by simp at hj) (fun j hj => by simp at hj)
         · exact .sg s' ((zs.drop off).take len) false a cap cs ⟨by omega,h2,by simp⟩ hls h8 h7.len (fun j hj => ⟨h7.leaf j hj,hclx j hj⟩) (fun j x y => (h7.r j x y).move (fun b _ hm => hM b hm) (hclx j x))
       rw [hlen] at this
       exact this
   · have : (k == id) = false := by simpa using hk
     rw [this]; exact hkeep
 | rf k s i f v h =>
   refine .rf _ _ _ _ _ ?_
   by_cases hk : k = id
   · subst hk; unfold Points; rw [Loc.set_same]; exact h.one
   · unfold Points at h ⊢; rw [Loc.set_other _ _ hk]; exact h
 | fn f caps cs hl _ ih =>
   obtain ⟨h1,h2⟩ := zfa id s zs caps
   refine .fn f _ cs (by rw [h1,hl]) (fun j a b => ?_)
   rw [h2 j a (by rw [← h1]; exact a)]; exact ih j _ b
 | junk v => exact .junk v
def Blk.fg (id s : Nat) (zs : List AV) : Blk → Blk
 | .g s' xs => .g s' (fgL id s zs xs)
 | .b cs => .b cs
 | .i ns => .i ns
 | .o x => .o x
theorem odd_fg {id s : Nat} {zs : List AV} {b : Blk} : (b.fg id s zs).odd = b.odd := by cases b <;> rfl
theorem size_fg {id s : Nat} {zs : List AV} {b : Blk} : (b.fg id s zs).size = b.size := by cases b <;> rfl
def fgH (id s : Nat) (zs : List AV) : Heap → Heap
 | [] => []
 | p :: r => bif p.1 == id then fgH id s zs r else (p.1,p.2.fg id s zs) :: fgH id s zs r
theorem leaves_fg (id s : Nat) (zs : List AV) (x : AV) : (x.fg id s zs).leaves = fgL id s zs x.leaves := by
 cases x <;> first | rfl | skip
 simp only [AV.fg,AV.leaves,fgL]
 cases (_ == id) with
 | false => rfl
 | true =>
   simp only [cond_true]
   cases (_ && _ : Bool) <;> rfl
theorem fgL_append (id s : Nat) (zs : List AV) : ∀ (xs ys : List AV),fgL id s zs (xs ++ ys) = fgL id s zs xs ++ fgL id s zs ys
 | [],_ => rfl
 | x :: xs,ys => by simp [fgL,fgL_append id s zs xs ys]
theorem flat_fg (id s : Nat) (zs : List AV) (b : Blk) : (b.fg id s zs).flat = fgL id s zs b.flat := by
 cases b with
 | b cs =>
   simp only [Blk.fg,Blk.flat]
   induction cs with
   | nil => rfl
   | cons c r ih => simp only [List.map_cons,fgL,AV.fg]; rw [← ih]
 | o x => rfl
 | i ns =>
   simp only [Blk.fg,Blk.flat]
   induction ns with
   | nil => rfl
   | cons c r ih => simp only [List.map_cons,fgL,AV.fg]; rw [← ih]
 | g s xs =>
   simp only [Blk.fg,Blk.flat]
   induction xs with
   | nil => rfl
   | cons c r ih => simp only [fgL,List.flatMap_cons,fgL_append]; rw [ih,leaves_fg]
theorem ok_fg {id s : Nat} {zs : List AV} {b : Blk} (h : b.ok) : (b.fg id s zs).ok := by
 cases b with
 | g s' xs =>
   obtain ⟨h1,h2⟩ := h
   refine ⟨h1,fun x hx => ?_⟩
   obtain ⟨j,hj,rfl⟩ := List.getElem_of_mem hx
   obtain ⟨h3,h4⟩ := zfa id s zs xs
   rw [h4 j hj (by rw [← h3]; exact hj),leaves_fg,(zfa id s zs _).1]
   exact h2 _ (List.getElem_mem _)
 | _ => trivial
theorem len_fg {id s : Nat} {zs : List AV} {b : Blk} : (b.fg id s zs).len = b.len := by
 cases b with
 | g s' xs => exact (zfa id s zs xs).1
 | _ => rfl
theorem fgH_get {id s : Nat} {zs : List AV} : ∀ {H : Heap} {k : Nat} {b : Blk},look (fgH id s zs H) k = some b → k ≠ id ∧ ∃ c,look H k = some c ∧ b = c.fg id s zs
 | [],k,b,h => by simp [fgH,look] at h
 | p :: r,k,b,h => by
   have e : look (p :: r) k = if p.1 = k then some p.2 else look r k := zav r p.1 k p.2
   unfold fgH at h
   by_cases hp : p.1 = id
   · have : (p.1 == id) = true := by simpa using hp
     rw [this] at h
     obtain ⟨h1,c,h2,h3⟩ := fgH_get h
     exact ⟨h1,c,by rw [e,if_neg (by omega)]; exact h2,h3⟩
   · have : (p.1 == id) = false := by simpa using hp
     rw [this] at h
     have e2 : look ((p.1,p.2.fg id s zs) :: fgH id s zs r) k = if p.1 = k then some (p.2.fg id s zs) else look (fgH id s zs r) k := zav (fgH id s zs r) p.1 k _
     simp only [cond_false] at h
     rw [e2] at h
     split at h
     · rename_i hk
       injection h with h
       exact ⟨by omega,p.2,by rw [e,if_pos hk],h.symm⟩
     · rename_i hk
       obtain ⟨h1,c,h2,h3⟩ := fgH_get h
       exact ⟨h1,c,by rw [e,if_neg hk]; exact h2,h3⟩
theorem slot_fgL {id s : Nat} {zs : List AV} : ∀ (sl : List AV) (t : Nat),slot (fgL id s zs sl) t = (slot sl t).fg id s zs
 | [],t => rfl
 | x :: xs,0 => rfl
 | x :: xs,t + 1 => slot_fgL xs t
theorem rel_fg {w0 : World} {E : Nat → Prop} {B : Bs} {w : World} {loc : Loc} {a : Act} {sl : List AV} {H : Heap} {nx : Nat} {id s : Nat} {zs : List AV} (hB : Base w0 B w loc) (hr : Rel' w0 E loc ⟨sl,H,nx⟩ a w) (hlive : loc.m id ≠ .free) (hblk : BlkR w loc id (.g s zs)) (hcl : closedL zs = true) :
   Base w0 B w (loc.set id .dead) ∧ Rel' w0 E (loc.set id .dead) ⟨fgL id s zs sl,fgH id s zs H,nx⟩ a w := by
 have hor : (loc.m id = .nil ∧ zs = []) ∨ ∃ b,loc.m id = .here b ∧ b < w.heap.size ∧ Lies w loc (.g s zs) b ∧ (∀ k,loc.m k = .here b → k = id) ∧ ¬ loc.bad b := by
   unfold BlkR at hblk
   cases e : loc.m id with
   | free => exact (hlive e).elim
   | dead => rw [e] at hblk; exact hblk.elim
   | nil => rw [e] at hblk; exact .inl ⟨rfl,List.eq_nil_of_length_eq_zero hblk.2⟩
   | here b =>
     rw [e] at hblk
     have h1 := hr.env.lies id b e
     refine .inr ⟨b,rfl,h1.1,hblk.2,fun k hk => hr.env.inj k id b hk e,fun hb => ?_⟩
     have h2 := hr.env.bad b hb
     rcases h1.2 with h3 | h3
     · omega
     · exact h2.2 h3
 have hok : Blk.ok (.g s zs) := by
   unfold BlkR at hblk
   cases e : loc.m id with
   | free => exact (hlive e).elim
   | dead => rw [e] at hblk; exact hblk.elim
   | nil => rw [e] at hblk; exact hblk.1
   | here b => rw [e] at hblk; exact hblk.1
 have hset : ∀ {k c},(loc.set id .dead).m k = .here c → loc.m k = .here c := by
   intro k c h
   by_cases hk : k = id
   · subst hk; rw [Loc.set_same] at h; cases h
   · rwa [Loc.set_other _ _ hk] at h
 refine ⟨⟨hB.1,hB.2.1,fun k hk => ?_⟩,⟨?_,fun t => ?_,?_,⟨hr.env.os,hr.env.tape,hr.env.output,hr.env.size,hr.env.same,fun i j b h1 h2 => hr.env.inj i j b (hset h1) (hset h2),fun i b h1 => hr.env.lies i b (hset h1),hr.env.bad⟩,?_,hr.defers,?_⟩⟩
 · by_cases hne : k = id
   · subst hne; left; rw [Loc.set_same]
   · rw [Loc.set_other _ _ hne]; exact hB.2.2 k hk
 · rw [hr.size]; exact ((zfa id s zs sl).1).symm
 · simp only; rw [slot_fgL]; exact fg_R hcl hok hor (hr.slots t)
 · intro k b hk
   obtain ⟨h1,c,h2,rfl⟩ := fgH_get hk
   have h3 := hr.heap k c h2
   unfold BlkR at h3 ⊢
   rw [Loc.set_other _ _ h1]
   split
   · trivial
   · rename_i e; rw [e] at h3; exact h3
   · rename_i e; rw [e] at h3; exact ⟨ok_fg h3.1,by rw [len_fg]; exact h3.2⟩
   · rename_i d e
     rw [e] at h3
     rcases zbr c with ⟨x,hx,rfl⟩ | hodd
     · exact ⟨ok_fg h3.1,.mkO (Thing.move (loc := loc) (fun c _ hM => hM.imp (fun h => h) (fun ⟨k,h⟩ => ⟨k,hset h⟩)) (h3.2.is hx)) rfl⟩
     obtain ⟨cur,el,fz,g1,g2,g3,g4,g5⟩ := h3.2.lies hodd
     have hlen : (c.fg id s zs).flat.length = c.flat.length := by rw [flat_fg,(zfa id s zs _).1]
     refine ⟨ok_fg h3.1,.mkC ⟨cur,el,fz,g1,by rw [size_fg]; exact g2,g3,by omega,fun j x y => ?_⟩ (odd_fg.trans hodd)⟩
     have h6 := g5 j (by omega) y
     have e : (c.fg id s zs).flat[j] = (c.flat[j]'(by omega)).fg id s zs := by
       have := (zfa id s zs c.flat).2 j (by rw [(zfa id s zs _).1]; omega) (by omega)
       rw [← this]
       congr 1
       exact flat_fg id s zs c
     rw [e]
     exact ⟨fg_leaf h6.1,fg_R hcl hok hor h6.2⟩
 · intro k hk
   by_cases hne : k = id
   · exact (hlive (hne ▸ hr.fresh k hk)).elim
   · rw [Loc.set_other _ _ hne]; exact hr.fresh k hk
 · intro k b hk
   obtain ⟨h1,c,h2,rfl⟩ := fgH_get hk
   exact hr.low k c h2
theorem zfo {sl : List AV} {H : Heap} {nx : Nat} (id s i : Nat) (zs : List AV) (hl : look H id = some (.g s zs)) (hcl : closedL zs = true) (hi : id ∈ (slot sl i).ids) : Weak ⟨sl,H,nx⟩ ⟨fgL id s zs sl,fgH id s zs H,nx⟩ := by
 rintro w0 E B a w ⟨loc,hB,hr⟩
 obtain ⟨h1,h2⟩ := rel_fg hB hr (zdn _ _ (hr.slots i) hi) (hr.heap id _ hl) hcl
 exact ⟨_,h1,h2⟩
end Ax
end Go.Proofs.Ytlcijldkdpmknaa
namespace Go.Proofs.Ytlcijldkdpmknaa
namespace Ax
section
variable {P : Program}
theorem post_anon {w0 : World} {E : Nat → Prop} {w w' : World} {loc : Loc} {wr : Bool} {H : Heap} {nm : Nat} {x : AV} {v : Value} {o : Obj} (he : Env w0 E w loc) (hh : HR w loc H) (hp : Pushed w w' o) (hx : Ext (fun _ => False) w loc w' loc → R w' loc x v) :
   Post w0 E w loc wr nm x H v w' loc := by
 have hsz : w'.heap.size = w.heap.size + 1 := by rw [hp.heap]; simp
 have hext : Ext (fun _ => False) w loc w' loc :=
   ⟨by omega,fun _ _ _ => rfl,fun _ _ h => h.elim,fun b hb hm => ⟨zbk hp hb,hm⟩,fun id b h1 _ => zbk hp (he.lies id b h1).1,fun b cur el fz' h2 => ⟨cur,fz',(zbk hp (Array.getElem?_eq_some_iff.1 h2).1).trans h2,rfl⟩⟩
 refine ⟨hx hext,fun id b hb => ?_,⟨hp.os.trans he.os,hp.tape.trans he.tape,hp.output.trans he.output,by have := he.size; omega,fun b hb hE => (zbk hp (by have := he.size; omega)).trans (he.same b hb hE),he.inj,fun i b hi => by have := he.lies i b hi; exact ⟨by omega,this.2⟩,he.bad⟩,⟨_,hext,fun _ _ h => h⟩,fun _ h h' => (h' h).elim,rfl⟩
 by_cases hfr : loc.m id = .free
 · exact BlkR.free hfr
 · exact (hh id b hb).ext hext (fun h => h) hfr
end
end Ax
end Go.Proofs.Ytlcijldkdpmknaa
namespace Go.Proofs.Ytlcijldkdpmknaa
namespace Ax
open Go.RowKit
def frzS (i : Nat) (q : Prop × List AV × Heap) : Prop × List AV × Heap :=
 match slot q.2.1 i with
 | .ms id _ _ _ => match look q.2.2 id with
   | some (.b bs) => (q.1,fzL id bs q.2.1,fzH id bs q.2.2)
   | some (.g s xs) => (q.1 ∧ closedL xs = true,fgL id s xs q.2.1,fgH id s xs q.2.2)
   | some (.i ns) => (q.1,fiL id ns q.2.1,fiH id ns q.2.2)
   | _ => q
 | _ => q
def frzL : List Nat → Prop × List AV × Heap → Prop × List AV × Heap
 | [],q => q
 | i :: r,q => frzL r (frzS i q)
def frzK (l : List Nat) (sl : List AV) (H : Heap) (K : List AV → Heap → Prop) : Prop := (frzL l (True,sl,H)).1 ∧ K (frzL l (True,sl,H)).2.1 (frzL l (True,sl,H)).2.2
theorem frzS_sound {i : Nat} {q : Prop × List AV × Heap} {nx : Nat} (h : (frzS i q).1) : q.1 ∧ Weak ⟨q.2.1,q.2.2,nx⟩ ⟨(frzS i q).2.1,(frzS i q).2.2,nx⟩ := by
 unfold frzS at h ⊢
 split at h
 · rename_i id s off len hs
   split at h
   · rename_i bs hl
     exact ⟨h,weak_fz id i bs hl (by rw [hs]; simp [AV.ids])⟩
   · rename_i s' xs hl
     exact ⟨h.1,zfo id s' i xs hl h.2 (by rw [hs]; simp [AV.ids])⟩
   · rename_i ns hl
     exact ⟨h,weak_fi id i ns hl (by rw [hs]; simp [AV.ids])⟩
   · exact ⟨h,Weak.refl _⟩
 · exact ⟨h,Weak.refl _⟩
theorem frzL_sound {nx : Nat} : ∀ (l : List Nat) (q : Prop × List AV × Heap),(frzL l q).1 → q.1 ∧ Weak ⟨q.2.1,q.2.2,nx⟩ ⟨(frzL l q).2.1,(frzL l q).2.2,nx⟩
 | [],q,h => ⟨h,Weak.refl _⟩
 | i :: r,q,h => by
   obtain ⟨h1,h2⟩ := frzL_sound (nx := nx) r _ h
   obtain ⟨h3,h4⟩ := frzS_sound (nx := nx) h1
   exact ⟨h3,h4.trans h2⟩
theorem frzK_sound {nx : Nat} (l : List Nat) (sl : List AV) (H : Heap) (K : List AV → Heap → Prop) (h : frzK l sl H K) : ∃ sl' H',Weak ⟨sl,H,nx⟩ ⟨sl',H',nx⟩ ∧ K sl' H' :=
 ⟨_,_,(frzL_sound l _ h.1).2,h.2⟩
abbrev KPlan := Nat → Option (List Nat × Option Nat)
open Classical in
theorem sound_genK {P : Program} {T : zac} {S : zal} (hT : TOk P T) (hS : Fns P S) {f : FuncId} {fn : Func} {c : Code} (hf : P.funcs[f]? = some fn) (hb : fn.body = some c) {spec : zam} {Qp : List AV → List Blk → Exit → ASt → Prop}
   (hqp : ∀ xs pins e σ,Qp xs pins e σ → ∃ σ',Weak σ σ' ∧ Ends T fn.results.toList pins (spec xs pins) e σ')
   (h : ∀ xs pins,(spec xs pins).p → closedB pins = true → pins.length ≤ 4 ∧ ∀ w0 E B a w,Rel w0 E B ⟨xs ++ List.replicate (fn.ntmps - xs.length) .junk,pinHeap 0 pins,4⟩ a w → c.wp P (Low w0 E B (Qp xs pins)) a w) : zaq P f spec := by
 intro xs pins hp hcl w bad pb vs hlen hnd hbad hlies hxl hx
 obtain ⟨hp4,h⟩ := h xs pins hp hcl
 refine calls_of_wp hf hb ?_
 have hrel : Rel w (· ∈ pb) ⟨bad,pb⟩ ⟨xs ++ List.replicate (fn.ntmps - xs.length) .junk,pinHeap 0 pins,4⟩ { tmps := vs.toArray ++ Array.replicate (fn.ntmps - vs.toArray.size) undef,defers := [] } w := by
   refine ⟨zba pb bad,⟨⟨rfl,fun k hk cur e fz hh => ⟨cur,fz,hh,rfl⟩⟩,by simp only; omega,fun k hk => .inr ⟨by simp [zba,List.getElem?_eq_getElem hk],fun cur e fz hh => ⟨cur,fz,hh,rfl⟩⟩⟩,?_⟩
   refine ⟨by simp [hxl],fun t => ?_,?_,?_,?_,rfl,fun id b hl => ?_⟩
   · simp only
     rw [zcz]
     by_cases ht : t < xs.length
     · have e1 : (xs ++ List.replicate (fn.ntmps - xs.length) AV.junk).getD t .junk = xs[t] := by simp [List.getElem?_append_left,ht]
       have e2 : (vs.toArray ++ Array.replicate (fn.ntmps - vs.toArray.size) undef).getD t undef = vs[t]'(by omega) := by
         have : t < vs.length := by omega
         simp [Array.getD_eq_getD_getElem?,Array.getElem?_append,this]
       rw [e1,e2]
       exact hx t ht _
     · have e1 : (xs ++ List.replicate (fn.ntmps - xs.length) AV.junk).getD t .junk = .junk := by
         rw [List.getD_eq_getElem?_getD,List.getElem?_append_right (by omega),List.getElem?_replicate]
         split <;> rfl
       rw [e1]; exact .junk _
   · intro id b hl
     obtain ⟨j,hj,rfl,rfl⟩ := zbm pins 0 id b hl
     have hj' : j < pb.length := by omega
     unfold BlkR
     have : (zba pb bad).m (0 + j) = .here pb[j] := by simp [zba,List.getElem?_eq_getElem hj']
     rw [this]
     exact hlies j hj hj'
   · refine ⟨rfl,rfl,rfl,Nat.le_refl _,fun _ _ _ => rfl,?_,?_,?_⟩
     · intro i j b hi hj
       obtain ⟨h1,h2⟩ := zbv hi
       obtain ⟨h3,h4⟩ := zbv hj
       exact zby hnd (h2.trans h4.symm)
     · intro i b hi
       obtain ⟨h1,h2⟩ := zbv hi
       subst h2
       refine ⟨?_,.inr (List.getElem_mem h1)⟩
       obtain ⟨ob,hh⟩ := lies_live2 (hlies i (by omega) h1).2
       rcases Nat.lt_or_ge pb[i] w.heap.size with h' | h'
       · exact h'
       · rw [Array.getElem?_eq_none h'] at hh; cases hh
     · exact fun b hb => hbad b hb
   · intro id hid
     simp only at hid
     have : pb[id]? = none := List.getElem?_eq_none (by omega)
     simp [zba,this]
   · obtain ⟨j,hj,rfl,_⟩ := zbm pins 0 id b hl
     simp; omega
 refine wp_mono (h _ _ _ _ w hrel) ?_
 have main : ∀ a w' σ,Rel w (· ∈ pb) ⟨bad,pb⟩ σ a w' → (rvals T σ.H σ.sl fn.results.toList).1 ∧ EndsX pins (spec xs pins) (rone (rvals T σ.H σ.sl fn.results.toList).2) σ →
     a.defers = [] ∧ ∃ v,(results fn a.tmps).run P w' = .ok v w' ∧ ∃ v' loc',Ending.returned v = .returned v' ∧ Gives w bad pb (spec xs pins) v' w' loc' := by
   rintro a w' σ ⟨loc,hB,hr⟩ ⟨hrv,hnodup,hpin,hbl,hren⟩
   obtain ⟨v,hv,hR⟩ := results_R (P := P) (fn := fn) hT hr.heap hr.slots hrv
   refine ⟨hr.defers,v,hv,v,?_⟩
   generalize rone (rvals T σ.H σ.sl fn.results.toList).2 = x at hnodup hpin hbl hren hR
   have hnd' := zdu hnodup
   obtain ⟨hids1,hids2⟩ := newIds_mem x.ids (upTo 0 pins)
   obtain ⟨hu1,hu2⟩ := upTo_get pins 0
   generalize hids : newIds (upTo 0 pins) x.ids = ids at hnodup hpin hbl hren hnd' hids1 hids2
   obtain ⟨hpl,hpc,hpg⟩ := zem hpin
   rw [hbl] at hpl hpc hpg
   obtain ⟨t,rfl⟩ := hids1
   have hm : pins.length ≤ (upTo 0 pins ++ t).length := by simp [hu1]
   have hold : ∀ k,(hk : k < pins.length) → (upTo 0 pins ++ t)[k]'(by omega) = k := by
     intro k hk
     rw [List.getElem_append_left (by omega)]
     have := hu2 k (by omega)
     omega
   -- every one of the names is alive
   have hlive : ∀ (k : Nat) (hk : k < (upTo 0 pins ++ t).length),loc.m (upTo 0 pins ++ t)[k] ≠ .free := by
     intro k hk
     rcases hids2 _ (List.getElem_mem hk) with hi | hi
     · obtain ⟨j,hj,he⟩ := List.getElem_of_mem hi
       rw [← he,hu2 j hj]
       have hj' : j < pb.length := by omega
       rcases hB.2.2 j hj' with h1 | ⟨h1,_⟩
       · rw [Nat.zero_add,h1]; simp
       · rw [Nat.zero_add,h1]; simp
     · exact zdn x v hR hi
   have hblk : ∀ (k : Nat) (hk : k < (upTo 0 pins ++ t).length) (hk' : k < (spec xs pins).bl.length),BlkR w' loc (upTo 0 pins ++ t)[k] (spec xs pins).bl[k] := by
     intro k hk hk'
     refine hr.heap _ _ ?_
     rw [hpg k hk,List.getElem?_eq_getElem hk']
   have hdead : ∀ (k : Nat) (hk : k < (upTo 0 pins ++ t).length),loc.m (upTo 0 pins ++ t)[k] ≠ .dead := by
     intro k hk e
     have := hblk k hk (by omega)
     unfold BlkR at this
     rw [e] at this
     exact this
   let g : Nat → Nat := gOf (upTo 0 pins ++ t) σ.nx
   have hgo : ∀ k,(hk : k < (upTo 0 pins ++ t).length) → g k = (upTo 0 pins ++ t)[k] := fun k hk => zdz hk
   have hgn : ∀ k,(upTo 0 pins ++ t).length ≤ k → loc.m (g k) = .free := by
     intro k hk
     refine hr.fresh _ ?_
     show σ.nx ≤ gOf _ σ.nx k
     rw [zdk hk]; omega
   let loc' : Loc := { m := fun k => loc.m (g k),bad := loc.bad }
   have hlt : ∀ i b,loc'.m i = .here b → i < (upTo 0 pins ++ t).length := by
     intro i b hi
     rcases Nat.lt_or_ge i (upTo 0 pins ++ t).length with h' | h'
     · exact h'
     · have : loc'.m i = .free := hgn i h'
       rw [this] at hi; cases hi
   have hinj : ∀ i j b,loc'.m i = .here b → loc'.m j = .here b → i = j := by
     intro i j b hi hj
     have h1 := hlt i b hi
     have h2 := hlt j b hj
     have h3 : g i = g j := hr.env.inj (g i) (g j) b hi hj
     rw [hgo i h1,hgo j h2] at h3
     exact zby hnd' h3
   have hpb : ∀ (k : Nat) (hk : k < pb.length),loc'.m k = .here pb[k] ∧ ∀ cur e fz,w.heap[pb[k]]? = some (.cells cur e fz) → ∃ cur' fz',w'.heap[pb[k]]? = some (.cells cur' e fz') ∧ cur'.size = cur.size := by
     intro k hk
     have hk1 : k < pins.length := by omega
     have e : loc'.m k = loc.m k := by
       show loc.m (g k) = loc.m k
       rw [hgo k (by omega),hold k hk1]
     rcases hB.2.2 k hk with h1 | ⟨h1,h2⟩
     · have := hdead k (by omega)
       rw [hold k hk1] at this
       exact (this h1).elim
     · exact ⟨e.trans h1,h2⟩
   refine ⟨loc',rfl,?_⟩
   refine ⟨unren (loc2 := loc') (g := g) (fun _ => rfl) rfl hR _ hren,hB.1.1,?_,fun k hk => (hpb k hk).1,?_,?_,hinj,?_⟩
   · intro k hk
     have hk' : k < (upTo 0 pins ++ t).length := by omega
     have e : loc'.m k = loc.m (upTo 0 pins ++ t)[k] := by show loc.m (g k) = _; rw [hgo k hk']
     refine ⟨?_,by rw [e]; exact hlive k hk',by rw [e]; exact hdead k hk'⟩
     have hb := hblk k hk' hk
     unfold BlkR at hb ⊢
     rw [e]
     split
     · trivial
     · rename_i e'; rw [e'] at hb; exact hb
     · rename_i e'; rw [e'] at hb; exact hb
     · rename_i b e'
       rw [e'] at hb
       refine ⟨hb.1,zew hb.2 (zfb hpc k hk) (.inr ?_)⟩
       rintro c _ (h | ⟨i,h⟩)
       · exact .inl h
       · exact .inr ⟨g i,h⟩
   · intro k b hk hkb
     have := hr.env.lies (g k) b hkb
     refine ⟨?_,this.1⟩
     rcases this.2 with h' | h'
     · exact h'
     · obtain ⟨j,hj,he⟩ := List.getElem_of_mem h'
       have h1 := (hpb j hj).1
       rw [he] at h1
       have := hinj k j b hkb h1
       omega
   · intro k hk
     exact hgn k (by omega)
   · refine ⟨hr.env.os,hr.env.tape,hr.env.output,hr.env.size,hr.env.same,?_⟩
     rintro b cur e fz hb hh
     obtain ⟨j,hj,rfl⟩ := List.getElem_of_mem hb
     exact (hpb j hj).2 cur e fz hh
 rintro e a w' ⟨σ0,hr0,hq0⟩
 obtain ⟨σ,hwk,hq⟩ := hqp xs pins e σ0 hq0
 have hr := hwk _ _ _ _ _ hr0
 cases e with
 | normal => exact main a w' σ hr hq
 | ret => exact main a w' σ hr hq
 | _ => exact hq.elim
section rules
variable {S : zal} {T : zac} {pl : KPlan} {Q : Exit → ASt → Prop} {σ : ASt}
variable {ops r : List Oper} {o : Oper} {nm k : Nat} {sl : List AV} {H : Heap} {Q' : List AV → Heap → Prop}
theorem frzK_def {l : List Nat} {K : List AV → Heap → Prop} : frzK l sl H K = ((frzL l (True,sl,H)).1 ∧ K (frzL l (True,sl,H)).2.1 (frzL l (True,sl,H)).2.2) := rfl
end rules
end Ax
end Go.Proofs.Ytlcijldkdpmknaa
namespace Go.Proofs.Ytlcijldkdpmknaa
open Ax
open Ax
attribute [go_sem] Blk.fz Blk.fi Blk.fg
attribute [go_sem ↓] frzK_def
end Go.Proofs.Ytlcijldkdpmknaa
namespace Go.Proofs.Ytlcijldkdpmknaa
open Ax
def hb : Nat → List UInt8 → List UInt8 × Int
 | 0,bs => (bs,0)
 | k + 1,bs => (numL (hb k bs).1 (hb k bs).2,numE (hb k bs).1 (hb k bs).2)
def hn (k : Nat) (bs : List UInt8) : Int := numN (hb k bs).1 (hb k bs).2
section
set_option maxRecDepth 100000
set_option maxHeartbeats 2000000 in
end
end Go.Proofs.Ytlcijldkdpmknaa
namespace Go.Proofs.Ytlcijldkdpmknaa
open Ax
theorem bsame_decJ (b c p e s : Int) (rs : List Rec) (b' c' p' e' s' : Int) (qs : List Rec) : bsame4 b c p e s rs b' c' p' e' s' qs = decide ((⟨b,c,p,e,s,rs⟩ : Bat) = ⟨b',c',p',e',s',qs⟩) := by
 unfold bsame4
 refine decide_eq_decide.mpr ?_
 constructor
 · rintro ⟨rfl,rfl,rfl,rfl,rfl,rfl⟩; rfl
 · intro h; injection h; exact ⟨by assumption,by assumption,by assumption,by assumption,by assumption,by assumption⟩
section
set_option maxRecDepth 100000
set_option maxHeartbeats 2000000 in
end
end Go.Proofs.Ytlcijldkdpmknaa
namespace Go.Proofs.Ytlcijldkdpmknaa
open Ax
theorem slot_fgL (id s : Nat) (zs : List AV) : ∀ (sl : List AV) (i : Nat),slot (fgL id s zs sl) i = (slot sl i).fg id s zs
 | [],i => rfl
 | x :: sl,0 => rfl
 | x :: sl,i + 1 => slot_fgL id s zs sl i
theorem g1_ends {T : zac} {sl : List AV} {H : Heap} {nx id n s : Nat} {ws rs : List AV} {q : Prop} (i : Nat) (h2 : slot sl i = .ms id s 0 n) (hl : Ax.look H id = some (.g s ws)) (hc : closedL ws = true) (hn : n = ws.length) (hr : rs = ws) :
   EndsW T [.tmp i] [] ⟨q,.sg s rs false,[]⟩ .ret ⟨sl,H,nx⟩ := by
 subst hn hr
 have hs : slot (fgL id s rs sl) i = .sg s rs false := by
   rw [slot_fgL,h2]
   simp [AV.fg]
 refine ⟨_,zfo id s i rs hl hc (by rw [h2]; simp [AV.ids]),?_⟩
 simp only [Ax.Ends,Ax.rvals,EndsX,rone,hs,AV.ids,idsL,newIds,upTo,nodup,pinsOf,List.nil_append,AV.ren,renL,and_self]
def bfromD : zam
 | [.agg [.w (.int .i64 b),.w (.int .i64 c),.w (.int .i64 p),.w (.int .i64 e),.w (.int .i64 s),.sg 6 xs f],.w (.int .i64 off)],[] =>
     ⟨xs.length ≤ 1000000 ∧ ∃ rs : List Rec,xs = rs.map rv,.sg 6 ((fromR b off (xs.map rrec)).map rv) false,[]⟩
 | _,_ => zay
def rnewS : zam
 | [.agg [.w (.int .i64 b),.w (.int .i64 c),.w (.int .i64 p),.w (.int .i64 e),.w (.int .i64 s),.sg 6 xs f]],[] =>
     ⟨xs.length ≤ 9223372036854775807 ∧ ∃ rs : List Rec,xs = rs.map rv,.w (.int .i64 (newI (xs.map rrec) (-1))),[]⟩
 | _,_ => zay
section
set_option maxRecDepth 100000
set_option maxHeartbeats 1000000 in
theorem bfromD_sound : zaq Try.prog 43 bfromD := by
 refine zey (S := Sbfrom) (T := ty) zat ty_ok Sbfrom_ok Try.func43 (c := Try.f43.body.getD .skip) (by kernel_rfl) (by kernel_rfl) (fun xs pins hp _ => ?_)
 unfold bfromD at hp ⊢
 split at hp
 · rename_i b c p e s xs f off _
   obtain ⟨hL,rs,rfl⟩ := hp
   rw [List.length_map] at hL
   refine ⟨by simp,?_⟩
   have hl4 : (rs.map rv).length = rs.length := by simp
   have hex : ∃ qs : List Rec,rs.map rv = qs.map rv := ⟨rs,rfl⟩
   have hc1 : coe ty 37 (.sg 6 (rs.map rv) f) = .sg 6 (rs.map rv) f := by cases rs <;> rfl
   unfold Try.f43
   simp only [go_sem,zaa,Nat.reduceAdd,Nat.reduceSub,Nat.reduceMul,Int.reduceToNat,reduceCtorEq,↓reduceIte,Int.reducePow,Nat.reducePow,Int.reduceMod,Nat.reduceLeDiff,Int.reduceLE,Int.reduceNe,Int.reduceEq,Nat.reduceEqDiff,Nat.reduceLT,Nat.reduceBEq,hc1,ty,Sbfrom,chooseS,hl4,hL,hex,zaj,closed_rv]
   exact g1_ends 4 rfl rfl (closed_rv _) (by simp) rfl
 · exact hp.elim
theorem rnext_sound : zaq Try.prog 39 zfc := by
 refine zak (S := noS) (T := ty) zat ty_ok zbo Try.func39 (c := Try.f39.body.getD .skip) (by kernel_rfl) (by kernel_rfl) (fun xs pins hp _ => ?_)
 unfold zfc at hp ⊢
 split at hp
 · rename_i b c p e s xs f _
   refine ⟨by simp,?_⟩
   unfold Try.f39
   simp only [go_sem,zaa,Nat.reduceAdd,Nat.reduceSub,Nat.reduceMul,Int.reduceToNat,reduceCtorEq,↓reduceIte,Int.reducePow,Nat.reducePow,Int.reduceMod,Nat.reduceLeDiff,Int.reduceLE,Int.reduceNe,Int.reduceEq,Nat.reduceEqDiff,Nat.reduceLT,Nat.reduceBEq,ty,noS]
 · exact hp.elim
set_option maxHeartbeats 1000000 in
theorem rnew_sound : zaq Try.prog 29 rnewS := by
 refine zak (S := noS) (T := ty) zat ty_ok zbo Try.func29 (c := Try.f29.body.getD .skip) (by kernel_rfl) (by kernel_rfl) (fun xs pins hp _ => ?_)
 unfold rnewS at hp ⊢
 split at hp
 · rename_i b c p e s xs f _
   obtain ⟨hL,rs,rfl⟩ := hp
   rw [List.length_map] at hL
   refine ⟨by simp,?_⟩
   have hl4 : (rs.map rv).length = rs.length := by simp
   unfold Try.f29
   simp only [go_sem,zaa,Nat.reduceAdd,Nat.reduceSub,Nat.reduceMul,Int.reduceToNat,reduceCtorEq,↓reduceIte,Int.reducePow,Nat.reducePow,Int.reduceMod,Nat.reduceLeDiff,Int.reduceLE,Int.reduceNe,Int.reduceEq,Nat.reduceEqDiff,Nat.reduceLT,Nat.reduceBEq,ty,noS,hl4,zaj]
   refine zas ⟨fun m σ => ∃ (i : Nat) (a : Int),m = rs.length - i ∧ i ≤ rs.length ∧ newI rs (-1) = newI (rs.drop i) a ∧
       σ = ⟨[.agg [.w (.int .i64 b),.w (.int .i64 c),.w (.int .i64 p),.w (.int .i64 e),.w (.int .i64 s),.sg 6 (rs.map rv) f],.rf 4 6 0 0,.junk,.w (.int .i64 a),.w (.int .i64 i),.junk,.junk,.junk,.junk,.junk,.junk,.junk,.junk,.junk,.junk,.junk,.junk,.junk,.junk,.junk,.junk],[(4,.g 6 [.agg [.w (.int .i64 b),.w (.int .i64 c),.w (.int .i64 p),.w (.int .i64 e),.w (.int .i64 s),.sg 6 (rs.map rv) f]])],5⟩,?_,?_⟩
   · refine ⟨_,_,zab [0,1,2,3,4] rfl rfl rfl ?_ ?_,0,-1,rfl,by omega,by rw [List.drop_zero],rfl⟩
     · simp only [ssT,zae,zaf,setSlot,gOf,AV.ren,renL,Blk.ren,Ax.look,Ax.put,reduceCtorEq,↓reduceIte,Nat.reduceEqDiff,Nat.reduceLT,Nat.reduceAdd,List.length_append,List.length_cons,List.length_nil,Option.some.injEq]; try simp
     · simp only [ssT,zae,zaf,setSlot,gOf,AV.ren,renL,Blk.ren,Ax.look,Ax.put,reduceCtorEq,↓reduceIte,Nat.reduceEqDiff,Nat.reduceLT,Nat.reduceAdd,List.length_append,List.length_cons,List.length_nil,Option.some.injEq]
   · rintro m σ ⟨i,a,rfl,hi,hinv,rfl⟩
     by_cases hil : i < rs.length
     · have e1 : ((i : Int) + 1 + 9223372036854775808) % 18446744073709551616 - 9223372036854775808 = ((i + 1 : Nat) : Int) := by omega
       have d1 : decide ((i : Int) < rs.length) = true := decide_eq_true (by omega)
       have hs1 := zbe rv rs i hil
       have hdr : rs.drop i = rs[i] :: rs.drop (i + 1) := List.drop_eq_getElem_cons hil
       obtain ⟨P,hP⟩ : ∃ P,rs[i] = P := ⟨_,rfl⟩
       rw [hP] at hs1 hdr
       simp only [rv] at hs1
       rw [hdr] at hinv
       have hinv2 : newI rs (-1) = newI (rs.drop (i + 1)) (max a P.t) := hinv
       have em1 : (if a > P.t then a else P.t) = max a P.t := by split <;> omega
       have em2 : (if P.t > a then P.t else a) = max a P.t := by split <;> omega
       simp only [go_sem,zaa,Nat.reduceAdd,Nat.reduceSub,Nat.reduceMul,Int.reduceToNat,reduceCtorEq,↓reduceIte,Int.reducePow,Nat.reducePow,Int.reduceMod,Nat.reduceLeDiff,Int.reduceLE,Int.reduceNe,Int.reduceEq,Nat.reduceEqDiff,Nat.reduceLT,Nat.reduceBEq,ty,noS,hl4,d1,hs1,e1,em1,em2,Int.toNat_natCast]
       repeat (refine And.intro (by omega) ?_)
       refine ⟨rs.length - (i + 1),_,by omega,zab [0,1,2,3,4] rfl rfl rfl ?_ ?_,i + 1,max a P.t,rfl,by omega,hinv2,rfl⟩
       · simp only [ssT,zae,zaf,setSlot,gOf,AV.ren,renL,Blk.ren,Ax.look,Ax.put,reduceCtorEq,↓reduceIte,Nat.reduceEqDiff,Nat.reduceLT,Nat.reduceAdd,List.length_append,List.length_cons,List.length_nil,Option.some.injEq]
       · simp only [ssT,zae,zaf,setSlot,gOf,AV.ren,renL,Blk.ren,Ax.look,Ax.put,reduceCtorEq,↓reduceIte,Nat.reduceEqDiff,Nat.reduceLT,Nat.reduceAdd,List.length_append,List.length_cons,List.length_nil,Option.some.injEq]
     · have d1 : decide ((i : Int) < rs.length) = false := decide_eq_false (by omega)
       have hdr : rs.drop i = [] := List.drop_eq_nil_of_le (by omega)
       rw [hdr] at hinv
       have hv2 : newI rs (-1) = a := hinv
       simp only [go_sem,zaa,Nat.reduceAdd,Nat.reduceSub,Nat.reduceMul,Int.reduceToNat,reduceCtorEq,↓reduceIte,Int.reducePow,Nat.reducePow,Int.reduceMod,Nat.reduceLeDiff,Int.reduceLE,Int.reduceNe,Int.reduceEq,Nat.reduceEqDiff,Nat.reduceLT,Nat.reduceBEq,ty,noS,hl4,d1,zaj,hv2]
 · exact hp.elim
set_option maxHeartbeats 1000000 in
set_option maxHeartbeats 1000000 in
end
end Go.Proofs.Ytlcijldkdpmknaa
namespace Go.Proofs.Ytlcijldkdpmknaa
open Ax
def nxB (x : Bat) : Int := (x.b + x.c + 9223372036854775808) % 18446744073709551616 - 9223372036854775808
def lastN (B : Int) (l : List Bat) : Int := l.foldl (fun _ x => nxB x) B
theorem lastN_snoc (B : Int) (l : List Bat) (x : Bat) : lastN B (l ++ [x]) = nxB x := by unfold lastN; rw [List.foldl_append]; rfl
def chkL : Int → List Bat → Int
 | _,[] => 0
 | a,x :: r => if bE x = 0 then (if x.b < a then 16 else chkL (nxB x) r) else bE x
def chkG (B : Int) (l : List Bat) : Int := if B < 0 ∨ 4611686018427387903 < B then 11 else chkL B l
theorem bfld_facts {b c p e s n : Int} (h : bfld b c p e s n = 0) : 1 ≤ c ∧ c ≤ 32 ∧ 0 ≤ b ∧ b ≤ 4611686018427387903 - c := by
 unfold bfld at h
 split at h
 · exact absurd h (by decide)
 · rename_i h1; clear h; omega
theorem bE_nx {x : Bat} (h : bE x = 0) : nxB x = x.b + x.c ∧ 1 ≤ x.c ∧ x.c ≤ 32 ∧ 0 ≤ x.b ∧ x.b + x.c ≤ 4611686018427387903 := by
 have h1 : bfld x.b x.c x.p x.e x.s x.rs.length = 0 := by
   unfold bE batE at h
   split at h
   · assumption
   · rename_i h2; exact h
 have := bfld_facts h1
 unfold nxB
 omega
def zer : zam
 | [.agg [.w (.int .i64 B),.sg 6 xs f]],[] => ⟨xs.length ≤ 9223372036854775807 ∧ isBs xs,.w (.int .i64 (lastN B (xs.map ubat))),[]⟩
 | _,_ => zay
def schkS : zam
 | [.agg [.w (.int .i64 B),.sg 6 xs f]],[] => ⟨xs.length ≤ 9223372036854775806 ∧ isBs xs,.w (.int .i64 (chkG B (xs.map ubat))),[]⟩
 | _,_ => zay
def Snx14 (f : FuncId) : Option zam :=
 match f with
 | 42 => some zfc
 | _ => none
theorem Snx14_ok : Fns Try.prog Snx14 := by
 intro f s h
 unfold Snx14 at h
 split at h
 · injection h with h; subst h; exact ⟨⟨_,Try.func42,by kernel_rfl,by kernel_rfl⟩,bnext_sound⟩
 · cases h
def Srnx14 (f : FuncId) : Option zam :=
 match f with
 | 39 => some zfc
 | _ => none
theorem Srnx14_ok : Fns Try.prog Srnx14 := by
 intro f s h
 unfold Srnx14 at h
 split at h
 · injection h with h; subst h; exact ⟨⟨_,Try.func39,by kernel_rfl,by kernel_rfl⟩,rnext_sound⟩
 · cases h
section
set_option maxRecDepth 100000
set_option maxHeartbeats 2000000 in
theorem snext_sound : zaq Try.prog 24 zer := by
 refine zak (S := Snx14) (T := ty) zat ty_ok Snx14_ok Try.func24 (c := Try.f24.body.getD .skip) (by kernel_rfl) (by kernel_rfl) (fun xs pins hp _ => ?_)
 unfold zer at hp ⊢
 split at hp
 · rename_i B xs f _
   obtain ⟨hL,es,rfl,he⟩ := hp
   rw [List.length_map] at hL
   refine ⟨by simp,?_⟩
   have hlp : (es.map bvp).length = es.length := by simp
   rw [zaz]
   unfold Try.f24
   rcases List.eq_nil_or_concat es with rfl | ⟨qs,P,hcc⟩
   · have z0 : decide (((0 : Nat) : Int) = 0) = true := rfl
     simp only [go_sem,zaa,Nat.reduceAdd,Nat.reduceSub,Nat.reduceMul,Int.reduceToNat,reduceCtorEq,↓reduceIte,Int.reducePow,Nat.reducePow,Int.reduceMod,Nat.reduceLeDiff,Int.reduceLE,Int.reduceNe,Int.reduceEq,Nat.reduceEqDiff,Nat.reduceLT,Nat.reduceBEq,ty,Snx14,lastN,List.map_nil,List.foldl,z0]
   · rw [List.concat_eq_append] at hcc
     subst hcc
     have d0 : decide (((qs ++ [P]).length : Int) = 0) = false := decide_eq_false (by simp; omega)
     have hs1 := zbb (qs ++ [P]) qs.length (by simp)
     rw [List.getElem_concat_length rfl] at hs1
     have hv : lastN B ((qs ++ [P]).map Prod.fst) = nxB P.1 := by rw [List.map_append]; exact lastN_snoc _ _ _
     have e1 : (((qs ++ [P]).length : Int) - 1 + 9223372036854775808) % 18446744073709551616 - 9223372036854775808 = (qs.length : Int) := by simp at hL ⊢; omega
     have hll : qs.length < (qs ++ [P]).length := by simp
     generalize qs ++ [P] = zs at *
     obtain ⟨⟨b,c,p,e,s,rs⟩,f'⟩ := P
     have hs1 : slot (zs.map bvp) qs.length = .agg [.w (.int .i64 b),.w (.int .i64 c),.w (.int .i64 p),.w (.int .i64 e),.w (.int .i64 s),.sg 6 (rs.map rv) f'] := hs1
     simp only [go_sem,zaa,Nat.reduceAdd,Nat.reduceSub,Nat.reduceMul,Int.reduceToNat,reduceCtorEq,↓reduceIte,Int.reducePow,Nat.reducePow,Int.reduceMod,Nat.reduceLeDiff,Int.reduceLE,Int.reduceNe,Int.reduceEq,Nat.reduceEqDiff,Nat.reduceLT,Nat.reduceBEq,ty,Snx14,zfc,hlp,d0,hs1,hv,e1,nxB,Int.toNat_natCast]
     omega
 · exact hp.elim
set_option maxHeartbeats 2000000 in
theorem rsnext_sound : zaq Try.prog 21 zer := by
 refine zak (S := Srnx14) (T := ty) zat ty_ok Srnx14_ok Try.func21 (c := Try.f21.body.getD .skip) (by kernel_rfl) (by kernel_rfl) (fun xs pins hp _ => ?_)
 unfold zer at hp ⊢
 split at hp
 · rename_i B xs f _
   obtain ⟨hL,es,rfl,he⟩ := hp
   rw [List.length_map] at hL
   refine ⟨by simp,?_⟩
   have hlp : (es.map bvp).length = es.length := by simp
   rw [zaz]
   unfold Try.f21
   rcases List.eq_nil_or_concat es with rfl | ⟨qs,P,hcc⟩
   · have z0 : decide (((0 : Nat) : Int) = 0) = true := rfl
     simp only [go_sem,zaa,Nat.reduceAdd,Nat.reduceSub,Nat.reduceMul,Int.reduceToNat,reduceCtorEq,↓reduceIte,Int.reducePow,Nat.reducePow,Int.reduceMod,Nat.reduceLeDiff,Int.reduceLE,Int.reduceNe,Int.reduceEq,Nat.reduceEqDiff,Nat.reduceLT,Nat.reduceBEq,ty,Srnx14,lastN,List.map_nil,List.foldl,z0]
   · rw [List.concat_eq_append] at hcc
     subst hcc
     have d0 : decide (((qs ++ [P]).length : Int) = 0) = false := decide_eq_false (by simp; omega)
     have hs1 := zbb (qs ++ [P]) qs.length (by simp)
     rw [List.getElem_concat_length rfl] at hs1
     have hv : lastN B ((qs ++ [P]).map Prod.fst) = nxB P.1 := by rw [List.map_append]; exact lastN_snoc _ _ _
     have e1 : (((qs ++ [P]).length : Int) - 1 + 9223372036854775808) % 18446744073709551616 - 9223372036854775808 = (qs.length : Int) := by simp at hL ⊢; omega
     have hll : qs.length < (qs ++ [P]).length := by simp
     generalize qs ++ [P] = zs at *
     obtain ⟨⟨b,c,p,e,s,rs⟩,f'⟩ := P
     have hs1 : slot (zs.map bvp) qs.length = .agg [.w (.int .i64 b),.w (.int .i64 c),.w (.int .i64 p),.w (.int .i64 e),.w (.int .i64 s),.sg 6 (rs.map rv) f'] := hs1
     simp only [go_sem,zaa,Nat.reduceAdd,Nat.reduceSub,Nat.reduceMul,Int.reduceToNat,reduceCtorEq,↓reduceIte,Int.reducePow,Nat.reducePow,Int.reduceMod,Nat.reduceLeDiff,Int.reduceLE,Int.reduceNe,Int.reduceEq,Nat.reduceEqDiff,Nat.reduceLT,Nat.reduceBEq,ty,Srnx14,zfc,hlp,d0,hs1,hv,e1,nxB,Int.toNat_natCast]
     omega
 · exact hp.elim
def Sck14 (f : FuncId) : Option zam :=
 match f with
 | 40 => some bchkS4
 | 42 => some zfc
 | _ => none
theorem Sck14_ok : Fns Try.prog Sck14 := by
 intro f s h
 unfold Sck14 at h
 split at h
 · injection h with h; subst h; exact ⟨⟨_,Try.func40,by kernel_rfl,by kernel_rfl⟩,bchk4_sound⟩
 · injection h with h; subst h; exact ⟨⟨_,Try.func42,by kernel_rfl,by kernel_rfl⟩,bnext_sound⟩
 · cases h
set_option maxHeartbeats 4000000 in
theorem schk_sound : zaq Try.prog 26 schkS := by
 refine zak (S := Sck14) (T := ty) zat ty_ok Sck14_ok Try.func26 (c := Try.f26.body.getD .skip) (by kernel_rfl) (by kernel_rfl) (fun xs pins hp _ => ?_)
 unfold schkS at hp ⊢
 split at hp
 · rename_i B xs f _
   obtain ⟨hL,es,rfl,he⟩ := hp
   rw [List.length_map] at hL
   refine ⟨by simp,?_⟩
   have hlp : (es.map bvp).length = es.length := by simp
   rw [zaz]
   unfold Try.f26
   by_cases hB1 : B < 0
   · have d1 : decide (B < 0) = true := decide_eq_true hB1
     have hv : chkG B (es.map Prod.fst) = 11 := if_pos (.inl hB1)
     simp only [go_sem,zaa,Nat.reduceAdd,Nat.reduceSub,Nat.reduceMul,Int.reduceToNat,reduceCtorEq,↓reduceIte,Int.reducePow,Nat.reducePow,Int.reduceMod,Nat.reduceLeDiff,Int.reduceLE,Int.reduceNe,Int.reduceEq,Nat.reduceEqDiff,Nat.reduceLT,Nat.reduceBEq,ty,Sck14,hlp,d1,hv]
   have d1 : decide (B < 0) = false := decide_eq_false hB1
   by_cases hB2 : 4611686018427387903 < B
   · have d2 : decide (4611686018427387903 < B) = true := decide_eq_true hB2
     have hv : chkG B (es.map Prod.fst) = 11 := if_pos (.inr hB2)
     simp only [go_sem,zaa,Nat.reduceAdd,Nat.reduceSub,Nat.reduceMul,Int.reduceToNat,reduceCtorEq,↓reduceIte,Int.reducePow,Nat.reducePow,Int.reduceMod,Nat.reduceLeDiff,Int.reduceLE,Int.reduceNe,Int.reduceEq,Nat.reduceEqDiff,Nat.reduceLT,Nat.reduceBEq,ty,Sck14,hlp,d1,d2,hv]
   have d2 : decide (4611686018427387903 < B) = false := decide_eq_false hB2
   have hv : chkG B (es.map Prod.fst) = chkL B (es.map Prod.fst) := if_neg (by omega)
   rw [hv]
   simp only [go_sem,zaa,Nat.reduceAdd,Nat.reduceSub,Nat.reduceMul,Int.reduceToNat,reduceCtorEq,↓reduceIte,Int.reducePow,Nat.reducePow,Int.reduceMod,Nat.reduceLeDiff,Int.reduceLE,Int.reduceNe,Int.reduceEq,Nat.reduceEqDiff,Nat.reduceLT,Nat.reduceBEq,ty,Sck14,hlp,d1,d2]
   refine zas ⟨fun m σ => ∃ (i : Nat) (a : Int),m = es.length - i ∧ i ≤ es.length ∧ chkL B (es.map Prod.fst) = chkL a ((es.drop i).map Prod.fst) ∧
       σ = ⟨[.agg [.w (.int .i64 B),.sg 6 (es.map bvp) f],.rf 4 2 0 0,.junk,.w (.int .i64 a),.junk,.junk,.junk,.junk,.junk,.junk,.junk,.junk,.junk,.junk,.junk,.junk,.junk,.junk,.sg 6 (es.map bvp) f,.w (.int .i64 es.length),.w (.int .i64 i),.junk,.junk,.junk,.junk,.junk,.junk,.junk,.junk,.junk,.junk,.junk,.junk,.junk,.junk,.junk],[(4,.g 2 [.agg [.w (.int .i64 B),.sg 6 (es.map bvp) f]])],5⟩,?_,?_⟩
   · refine ⟨_,_,zab [0,1,2,3,4] rfl rfl rfl ?_ ?_,0,B,rfl,by omega,by rw [List.drop_zero],rfl⟩
     · simp only [ssT,zae,zaf,setSlot,gOf,AV.ren,renL,Blk.ren,Ax.look,Ax.put,reduceCtorEq,↓reduceIte,Nat.reduceEqDiff,Nat.reduceLT,Nat.reduceAdd,List.length_append,List.length_cons,List.length_nil,Option.some.injEq]; try simp
     · simp only [ssT,zae,zaf,setSlot,gOf,AV.ren,renL,Blk.ren,Ax.look,Ax.put,reduceCtorEq,↓reduceIte,Nat.reduceEqDiff,Nat.reduceLT,Nat.reduceAdd,List.length_append,List.length_cons,List.length_nil,Option.some.injEq]
   · rintro m σ ⟨i,a,rfl,hi,hinv,rfl⟩
     have e1 : ((i : Int) + 1 + 9223372036854775808) % 18446744073709551616 - 9223372036854775808 = ((i + 1 : Nat) : Int) := by omega
     by_cases hil : i < es.length
     · have d3 : decide ((i : Int) < es.length) = true := decide_eq_true (by omega)
       have hs1 := zbb es i hil
       have m1 := he es[i] (List.getElem_mem hil)
       have hdr : es.drop i = es[i] :: es.drop (i + 1) := List.drop_eq_getElem_cons hil
       obtain ⟨P,hP⟩ : ∃ P,es[i] = P := ⟨_,rfl⟩
       rw [hP] at hs1 m1 hdr
       rw [hdr] at hinv
       obtain ⟨⟨b,c,p,e,s,rs⟩,f'⟩ := P
       have hs1 : slot (es.map bvp) i = .agg [.w (.int .i64 b),.w (.int .i64 c),.w (.int .i64 p),.w (.int .i64 e),.w (.int .i64 s),.sg 6 (rs.map rv) f'] := hs1
       simp only at m1
       have n1 : (rs.map rv).length ≤ 9223372036854775807 := by rw [List.length_map]; exact m1
       have x1 : ∃ k : List Rec,rs.map rv = k.map rv := ⟨rs,rfl⟩
       have r1 := zaj rs
       have hinv : chkL B (es.map Prod.fst) = if batE b c p e s rs = 0 then (if b < a then 16 else chkL ((b + c + 9223372036854775808) % 18446744073709551616 - 9223372036854775808) ((es.drop (i + 1)).map Prod.fst)) else batE b c p e s rs := hinv
       obtain ⟨E,hE⟩ : ∃ E,batE b c p e s rs = E := ⟨_,rfl⟩
       obtain ⟨K,hK⟩ : ∃ K,(b + c + 9223372036854775808) % 18446744073709551616 - 9223372036854775808 = K := ⟨_,rfl⟩
       rw [hE,hK] at hinv
       by_cases g1 : E = 0
       · have d4 : decide (E = 0) = true := decide_eq_true g1
         rw [if_pos g1] at hinv
         by_cases g2 : b < a
         · have d5 : decide (b < a) = true := decide_eq_true g2
           rw [if_pos g2] at hinv
           simp only [go_sem,zaa,Nat.reduceAdd,Nat.reduceSub,Nat.reduceMul,Int.reduceToNat,reduceCtorEq,↓reduceIte,Int.reducePow,Nat.reducePow,Int.reduceMod,Nat.reduceLeDiff,Int.reduceLE,Int.reduceNe,Int.reduceEq,Nat.reduceEqDiff,Nat.reduceLT,Nat.reduceBEq,ty,Sck14,bchkS4,zfc,hlp,d3,d4,d5,hs1,n1,x1,r1,hE,hK,hinv,Int.toNat_natCast,Bool.not_true]
           try omega
         · have d5 : decide (b < a) = false := decide_eq_false g2
           rw [if_neg g2] at hinv
           simp only [go_sem,zaa,Nat.reduceAdd,Nat.reduceSub,Nat.reduceMul,Int.reduceToNat,reduceCtorEq,↓reduceIte,Int.reducePow,Nat.reducePow,Int.reduceMod,Nat.reduceLeDiff,Int.reduceLE,Int.reduceNe,Int.reduceEq,Nat.reduceEqDiff,Nat.reduceLT,Nat.reduceBEq,ty,Sck14,bchkS4,zfc,hlp,d3,d4,d5,e1,hs1,n1,x1,r1,hE,hK,Int.toNat_natCast,Bool.not_true]
           repeat (refine And.intro (by omega) ?_)
           refine ⟨es.length - (i + 1),_,by omega,zab [0,1,2,3,4] rfl rfl rfl ?_ ?_,i + 1,K,rfl,by omega,hinv,rfl⟩
           · simp only [ssT,zae,zaf,setSlot,gOf,AV.ren,renL,Blk.ren,Ax.look,Ax.put,reduceCtorEq,↓reduceIte,Nat.reduceEqDiff,Nat.reduceLT,Nat.reduceAdd,List.length_append,List.length_cons,List.length_nil,Option.some.injEq]
           · simp only [ssT,zae,zaf,setSlot,gOf,AV.ren,renL,Blk.ren,Ax.look,Ax.put,reduceCtorEq,↓reduceIte,Nat.reduceEqDiff,Nat.reduceLT,Nat.reduceAdd,List.length_append,List.length_cons,List.length_nil,Option.some.injEq]
       · have d4 : decide (E = 0) = false := decide_eq_false g1
         rw [if_neg g1] at hinv
         simp only [go_sem,zaa,Nat.reduceAdd,Nat.reduceSub,Nat.reduceMul,Int.reduceToNat,reduceCtorEq,↓reduceIte,Int.reducePow,Nat.reducePow,Int.reduceMod,Nat.reduceLeDiff,Int.reduceLE,Int.reduceNe,Int.reduceEq,Nat.reduceEqDiff,Nat.reduceLT,Nat.reduceBEq,ty,Sck14,bchkS4,zfc,hlp,d3,d4,hs1,n1,x1,r1,hE,hK,hinv,Int.toNat_natCast,Bool.not_false]
         try omega
     · have d3 : decide ((i : Int) < es.length) = false := decide_eq_false (by omega)
       have hdr : es.drop i = [] := List.drop_eq_nil_of_le (by omega)
       rw [hdr] at hinv
       have hv2 : chkL B (es.map Prod.fst) = 0 := hinv
       simp only [go_sem,zaa,Nat.reduceAdd,Nat.reduceSub,Nat.reduceMul,Int.reduceToNat,reduceCtorEq,↓reduceIte,Int.reducePow,Nat.reducePow,Int.reduceMod,Nat.reduceLeDiff,Int.reduceLE,Int.reduceNe,Int.reduceEq,Nat.reduceEqDiff,Nat.reduceLT,Nat.reduceBEq,ty,Sck14,hlp,d3,hv2]
 · exact hp.elim
end
end Go.Proofs.Ytlcijldkdpmknaa
namespace Go.Proofs.Ytlcijldkdpmknaa
open Ax
def cutB (off : Int) (x : Bat) : Bat := ⟨x.b,x.c,x.p,x.e,x.s,fromR x.b off x.rs⟩
def selB (off : Int) (l : List Bat) : List Bat := (l.filter fun x => decide (off < nxB x)).map (cutB off)
def zcl (off most : Int) (l : List Bat) : List Bat := (selB off l).take most.toNat
theorem selB_snoc (off : Int) (l : List Bat) (x : Bat) : selB off (l ++ [x]) = selB off l ++ (if off < nxB x then [cutB off x] else []) := by
 unfold selB
 rw [List.filter_append,List.map_append]
 by_cases h : off < nxB x
 · simp [h]
 · simp [h]
theorem selB_len (off : Int) (l : List Bat) : (selB off l).length ≤ l.length := by
 unfold selB
 rw [List.length_map]
 exact List.length_filter_le _ _
theorem fetchL_len (off most : Int) (l : List Bat) : (zcl off most l).length ≤ l.length := by
 unfold zcl
 have := selB_len off l
 simp; omega
theorem fetchL_nil (off most : Int) : zcl off most [] = [] := by simp [zcl,selB]
theorem fetch_stop {off most : Int} {l : List Bat} {i : Nat} (h : most ≤ ((zcl off most (l.take i)).length : Int)) : zcl off most l = zcl off most (l.take i) := by
 have hs : selB off l = selB off (l.take i) ++ selB off (l.drop i) := by
   conv => lhs; rw [← List.take_append_drop i l]
   unfold selB
   rw [List.filter_append,List.map_append]
 unfold zcl at h ⊢
 rw [hs,List.take_append_of_le_length]
 rw [List.length_take] at h
 omega
theorem fetch_step {off most : Int} {l : List Bat} {i : Nat} (hi : i < l.length) (h : ((zcl off most (l.take i)).length : Int) < most) : zcl off most (l.take (i + 1)) = zcl off most (l.take i) ++ (if off < nxB l[i] then [cutB off l[i]] else []) := by
 unfold zcl at h ⊢
 rw [List.length_take] at h
 rw [List.take_succ_eq_append_getElem hi,selB_snoc]
 rw [List.take_of_length_le (l := selB off (l.take i)) (by omega)]
 split
 · rw [List.take_of_length_le (by simp; omega)]
 · simp only [List.append_nil]; rw [List.take_of_length_le (by omega)]
def isBl (xs : List AV) : Prop := ∃ es : List (Bat × Bool),xs = es.map bvp ∧ ∀ p ∈ es,p.1.rs.length ≤ 1000000
def sfetS : zam
 | [.agg [.w (.int .i64 B),.sg 6 xs f],.w (.int .i64 off),.w (.int .i64 most)],[] => ⟨xs.length ≤ 1000000 ∧ isBl xs,
     .sg 6 (bfr (zcl off most (xs.map ubat))) false,[]⟩
 | _,_ => zay
def Sfet14 (f : FuncId) : Option zam :=
 match f with
 | 42 => some zfc
 | 43 => some bfromD
 | _ => none
theorem Sfet14_ok : Fns Try.prog Sfet14 := by
 intro f s h
 unfold Sfet14 at h
 split at h
 · injection h with h; subst h; exact ⟨⟨_,Try.func42,by kernel_rfl,by kernel_rfl⟩,bnext_sound⟩
 · injection h with h; subst h; exact ⟨⟨_,Try.func43,by kernel_rfl,by kernel_rfl⟩,bfromD_sound⟩
 · cases h
section
set_option maxRecDepth 100000
set_option maxHeartbeats 4000000 in
theorem sfet_sound : zaq Try.prog 23 sfetS := by
 refine zey (S := Sfet14) (T := ty) zat ty_ok Sfet14_ok Try.func23 (c := Try.f23.body.getD .skip) (by kernel_rfl) (by kernel_rfl) (fun xs pins hp _ => ?_)
 unfold sfetS at hp ⊢
 split at hp
 · rename_i B xs f off most _
   obtain ⟨hL,es,rfl,he⟩ := hp
   rw [List.length_map] at hL
   refine ⟨by simp,?_⟩
   have hlp : (es.map bvp).length = es.length := by simp
   rw [zaz]
   have hlq : (es.map Prod.fst).length = es.length := by simp
   obtain ⟨l,hl⟩ : ∃ l,es.map Prod.fst = l := ⟨_,rfl⟩
   rw [hl] at hlq ⊢
   have ht : top = 4294967296 := rfl
   unfold Try.f23
   simp only [go_sem,zaa,Nat.reduceAdd,Nat.reduceSub,Nat.reduceMul,Int.reduceToNat,reduceCtorEq,↓reduceIte,Int.reducePow,Nat.reducePow,Int.reduceMod,Nat.reduceLeDiff,Int.reduceLE,Int.reduceNe,Int.reduceEq,Nat.reduceEqDiff,Nat.reduceLT,Nat.reduceBEq,ty,Sfet14,hlp]
   refine zas ⟨fun m σ => ∃ (i : Nat),m = es.length - i ∧ i ≤ es.length ∧
       σ = ⟨[.agg [.w (.int .i64 B),.sg 6 (es.map bvp) f],.w (.int .i64 off),.w (.int .i64 most),.rf 4 2 0 0,.junk,.junk,.junk,.ms 5 6 0 (zcl off most (l.take i)).length,.junk,.junk,.junk,.sg 6 (es.map bvp) f,.w (.int .i64 es.length),.w (.int .i64 i),.junk,.junk,.junk,.junk,.junk,.junk,.junk,.junk,.junk,.junk,.junk,.junk,.junk,.junk,.junk,.junk,.junk,.junk,.junk,.junk,.junk],[(4,.g 2 [.agg [.w (.int .i64 B),.sg 6 (es.map bvp) f]]),(5,.g 6 (bfr (zcl off most (l.take i))))],6⟩,?_,?_⟩
   · refine ⟨_,_,(zfg 7 6 (.g 6 []) ⟨by decide,rfl⟩ (by exact trivial)).trans (zab [0,1,2,3,4,60] rfl rfl rfl ?_ ?_),0,rfl,by omega,rfl⟩
     · simp only [ssT,zae,zaf,setSlot,gOf,AV.ren,renL,Blk.ren,Ax.look,Ax.put,reduceCtorEq,↓reduceIte,Nat.reduceEqDiff,Nat.reduceLT,Nat.reduceAdd,List.length_append,List.length_cons,List.length_nil,Option.some.injEq,List.take_zero,fetchL_nil]; try simp
     · simp only [ssT,zae,zaf,setSlot,gOf,AV.ren,renL,Blk.ren,Ax.look,Ax.put,reduceCtorEq,↓reduceIte,Nat.reduceEqDiff,Nat.reduceLT,Nat.reduceAdd,List.length_append,List.length_cons,List.length_nil,Option.some.injEq,List.take_zero,fetchL_nil,bfr_nil,ren_bfr]
   · rintro m σ ⟨i,rfl,hi,rfl⟩
     have e1 : ((i : Int) + 1 + 9223372036854775808) % 18446744073709551616 - 9223372036854775808 = ((i + 1 : Nat) : Int) := by omega
     have hfl : (zcl off most (l.take i)).length ≤ i := Nat.le_trans (fetchL_len _ _ _) (by rw [List.length_take]; omega)
     have hml := len_bfr (zcl off most (l.take i))
     by_cases hil : i < es.length
     · have d3 : decide ((i : Int) < es.length) = true := decide_eq_true (by omega)
       have hs1 := zbb es i hil
       have m1 := he es[i] (List.getElem_mem hil)
       have hli : l[i]'(by omega) = es[i].1 := by subst hl; simp
       have hstep := fetch_step (off := off) (most := most) (l := l) (i := i) (by omega)
       have hstop := fetch_stop (off := off) (most := most) (l := l) (i := i)
       rw [hli] at hstep
       obtain ⟨P,hP⟩ : ∃ P,es[i] = P := ⟨_,rfl⟩
       rw [hP] at hs1 m1 hstep
       obtain ⟨⟨b,c,p,e,s,rs⟩,f'⟩ := P
       have hs1 : slot (es.map bvp) i = .agg [.w (.int .i64 b),.w (.int .i64 c),.w (.int .i64 p),.w (.int .i64 e),.w (.int .i64 s),.sg 6 (rs.map rv) f'] := hs1
       simp only at m1
       have n1 : (rs.map rv).length ≤ 1000000 := by rw [List.length_map]; exact m1
       have x1 : ∃ k : List Rec,rs.map rv = k.map rv := ⟨rs,rfl⟩
       have r1 := zaj rs
       obtain ⟨K,hK⟩ : ∃ K,(b + c + 9223372036854775808) % 18446744073709551616 - 9223372036854775808 = K := ⟨_,rfl⟩
       have hnx : nxB ⟨b,c,p,e,s,rs⟩ = K := hK
       rw [hnx] at hstep
       by_cases g1 : most ≤ ((zcl off most (l.take i)).length : Int)
       · have d4 : decide (most ≤ ((zcl off most (l.take i)).length : Int)) = true := decide_eq_true g1
         have hst := hstop g1
         simp only [go_sem,zaa,Nat.reduceAdd,Nat.reduceSub,Nat.reduceMul,Int.reduceToNat,reduceCtorEq,↓reduceIte,Int.reducePow,Nat.reducePow,Int.reduceMod,Nat.reduceLeDiff,Int.reduceLE,Int.reduceNe,Int.reduceEq,Nat.reduceEqDiff,Nat.reduceLT,Nat.reduceBEq,ty,Sfet14,hlp,hml,d3,d4,hs1,Int.toNat_natCast]
         refine ⟨by omega,?_⟩
         rw [hst]
         exact g1_ends 6 rfl rfl (closed_bfr _) (len_bfr _).symm rfl
       · have d4 : decide (most ≤ ((zcl off most (l.take i)).length : Int)) = false := decide_eq_false g1
         have hst := hstep (by omega)
         by_cases g2 : off < K
         · have d5 : decide (off < K) = true := decide_eq_true g2
           rw [if_pos g2] at hst
           simp only [go_sem,zaa,Nat.reduceAdd,Nat.reduceSub,Nat.reduceMul,Int.reduceToNat,reduceCtorEq,↓reduceIte,Int.reducePow,Nat.reducePow,Int.reduceMod,Nat.reduceLeDiff,Int.reduceLE,Int.reduceNe,Int.reduceEq,Nat.reduceEqDiff,Nat.reduceLT,Nat.reduceBEq,ty,Sfet14,zfc,bfromD,hlp,hml,d3,d4,d5,hs1,n1,x1,r1,hK,e1,Int.toNat_natCast]
           repeat (refine And.intro (by omega) ?_)
           refine ⟨es.length - (i + 1),_,by omega,zab [0,1,2,3,4,174] rfl rfl rfl ?_ ?_,i + 1,rfl,by omega,rfl⟩
           · simp only [ssT,zae,zaf,setSlot,gOf,AV.ren,renL,Blk.ren,Ax.look,Ax.put,reduceCtorEq,↓reduceIte,Nat.reduceEqDiff,Nat.reduceLT,Nat.reduceAdd,List.length_append,List.length_cons,List.length_nil,Option.some.injEq,hst]
           · simp only [ssT,zae,zaf,setSlot,gOf,AV.ren,renL,Blk.ren,Ax.look,Ax.put,reduceCtorEq,↓reduceIte,Nat.reduceEqDiff,Nat.reduceLT,Nat.reduceAdd,List.length_append,List.length_cons,List.length_nil,Option.some.injEq,hst,bfr_snoc]
             rw [← bfr_snoc,ren_bfr,bfr_snoc]; rfl
         · have d5 : decide (off < K) = false := decide_eq_false g2
           rw [if_neg g2,List.append_nil] at hst
           simp only [go_sem,zaa,Nat.reduceAdd,Nat.reduceSub,Nat.reduceMul,Int.reduceToNat,reduceCtorEq,↓reduceIte,Int.reducePow,Nat.reducePow,Int.reduceMod,Nat.reduceLeDiff,Int.reduceLE,Int.reduceNe,Int.reduceEq,Nat.reduceEqDiff,Nat.reduceLT,Nat.reduceBEq,ty,Sfet14,zfc,bfromD,hlp,hml,d3,d4,d5,hs1,n1,x1,r1,hK,e1,Int.toNat_natCast]
           repeat (refine And.intro (by omega) ?_)
           refine ⟨es.length - (i + 1),_,by omega,zab [0,1,2,3,4,5] rfl rfl rfl ?_ ?_,i + 1,rfl,by omega,rfl⟩
           · simp only [ssT,zae,zaf,setSlot,gOf,AV.ren,renL,Blk.ren,Ax.look,Ax.put,reduceCtorEq,↓reduceIte,Nat.reduceEqDiff,Nat.reduceLT,Nat.reduceAdd,List.length_append,List.length_cons,List.length_nil,Option.some.injEq,hst]
           · simp only [ssT,zae,zaf,setSlot,gOf,AV.ren,renL,Blk.ren,Ax.look,Ax.put,reduceCtorEq,↓reduceIte,Nat.reduceEqDiff,Nat.reduceLT,Nat.reduceAdd,List.length_append,List.length_cons,List.length_nil,Option.some.injEq,hst,ren_bfr]
     · have d3 : decide ((i : Int) < es.length) = false := decide_eq_false (by omega)
       have hii : l.take i = l := List.take_of_length_le (by omega)
       simp only [go_sem,zaa,Nat.reduceAdd,Nat.reduceSub,Nat.reduceMul,Int.reduceToNat,reduceCtorEq,↓reduceIte,Int.reducePow,Nat.reducePow,Int.reduceMod,Nat.reduceLeDiff,Int.reduceLE,Int.reduceNe,Int.reduceEq,Nat.reduceEqDiff,Nat.reduceLT,Nat.reduceBEq,ty,Sfet14,hlp,d3,hii]
       exact g1_ends 6 rfl rfl (closed_bfr _) (len_bfr _).symm rfl
 · exact hp.elim
set_option maxHeartbeats 4000000 in
end
end Go.Proofs.Ytlcijldkdpmknaa
