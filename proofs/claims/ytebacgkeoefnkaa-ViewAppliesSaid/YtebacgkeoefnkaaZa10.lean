/- What the proofs of this seat stand on; it asks nothing. -/
import Derived.Test.YtebacgkeoefnkaaZa09
set_option linter.unusedSimpArgs false
set_option linter.unusedVariables false
namespace Go.Proofs.Ytebacgkeoefnkaa
open Ax
theorem w1 : rchk 1 5 true [107] false [118] = 0 := by decide
theorem w2 : rchk 1 5 true [107] true [] = 0 := by decide
theorem w3 : recB 1 5 true [107] false [118] = [1,2,10,2,107,2,118] := by
 simp [recB,w1,recL,zmq,zkp,putU,zz]
theorem w4 : recB 1 5 true [107] true [] = [3,2,10,2,107] := by
 simp [recB,w2,recL,zmq,zkp,putU,zz]
theorem w5 : gerr [1,2,10,2,107,2,118] 0 = 0 := by decide +kernel
theorem w6 : gd [1,2,10,2,107,2,118] 0 = 1 := by decide +kernel
section
set_option maxRecDepth 100000
set_option maxHeartbeats 1000000 in
end
end Go.Proofs.Ytebacgkeoefnkaa
namespace Go.Proofs.Ytebacgkeoefnkaa
open Ax
section
set_option maxRecDepth 100000
def yhp : Plan := fun id => match id with
 | 9 => some [(5,6),(5,7)]
 | _ => none
set_option maxHeartbeats 1000000 in
theorem ztl : zbb Try.prog 91 zom := by
 refine zcp (S := zyy) (T := ty) (pl := yhp) mixed ty_ok ylt Try.func91 (c := Try.f91.body.getD .skip) (by kernel_rfl) (by kernel_rfl) (fun xs pins hp _ => ?_)
 unfold zom at hp ⊢
 split at hp
 ·rename_i d t k key dd val _
  refine ⟨by simp,?_⟩
  unfold Try.f91
  by_cases h0 : rchk d t k key dd val = 0
  ·have hc := zgj d t k key dd val
   unfold rA rB at hc
   have hd : (-9223372036854775808 ≤ d ∧ d ≤ 9223372036854775807) ∧ (-9223372036854775808 ≤ t ∧ t ≤ 9223372036854775807) ∧ key.length ≤ 64 ∧ val.length ≤ 512 := by omega
   obtain ⟨hd1,hd2,hd3,hd4⟩ := hd
   clear hc
   have z1 := zcs d hd1.1 hd1.2
   have z2 := zcs t hd2.1 hd2.2
   have l1 := zay (zz d).toNat (by omega)
   have l2 := zay (zz t).toNat (by omega)
   have l3 := zcx key (by omega)
   have l4 := zcx val (by omega)
   have k3 : key.length ≤ 1000000 := by omega
   have k4 : val.length ≤ 1000000 := by omega
   generalize hP1 : putU (zz d).toNat = P1 at *
   generalize hP2 : putU (zz t).toNat = P2 at *
   generalize hP3 : zkp key = P3 at *
   generalize hP4 : zkp val = P4 at *
   cases k <;> cases dd
   all_goals
    have f0 : zmq false false = 0 := rfl
    have f1 : zmq true false = 1 := rfl
    have f2 : zmq false true = 2 := rfl
    have f3 : zmq true true = 3 := rfl
    simp only [go_sem,coe,zab,↓reduceIte,lcT,ty,zyy,yhp,zmb,ykc,putS,zuz,h0,hd1,hd2,k3,k4,hP1,hP2,hP3,hP4,List.take_length,f0,f1,f2,f3,Int.reduceAdd]
    have ht : top = 4294967296 := rfl
    repeat (refine And.intro (by omega) ?_)
    exact ztn rfl rfl rfl (by simp only [List.length_append,List.length_cons,List.length_nil]; omega) (by simp [recB,h0,recL,hP1,hP2,hP3,hP4,f0,f1,f2,f3]) rfl
  ·have d0 : decide (rchk d t k key dd val = 0) = false := decide_eq_false h0
   simp only [go_sem,coe,zab,↓reduceIte,lcT,ty,zyy,yhp,zmb,d0]
   refine ⟨_,zda 2 (.sb [] false) (fun _ _ _ h => h.nilb),?_⟩
   simp only [go_sem,coe,zab,↓reduceIte,lcT,ty,recB,if_neg h0]
 ·exact hp.elim
end
end Go.Proofs.Ytebacgkeoefnkaa
namespace Go.Proofs.Ytebacgkeoefnkaa
open Ax
theorem yht {T : zac} {sl : List AV} {H : Heap} {nx id n : Nat} {bs rs : List UInt8} {q : Prop} (h2 : slot sl 2 = .ms id 1 0 n) (hl : Ax.look H id = some (.b bs)) (hn : n = bs.length) (hr : rs = bs) :
  zrh T [.tmp 2] [] ⟨q,.sb rs false,[]⟩ .ret ⟨sl,H,nx⟩ := by
 subst hn hr
 have hs : slot (fzL id rs sl) 2 = .sb rs false := by
  rw [zhb,h2]
  simp [AV.fz]
 refine ⟨_,(ybn 2 h2 hl).trans (zda 2 (.sb rs false) (fun w loc v h => by rwa [hs] at h)),?_⟩
 have e2 : slot (setSlot (fzL id rs sl) 2 (.sb rs false)) 2 = .sb rs false := zjr _ _ _ (by rw [hs]; simp)
 simp only [Ax.Ends,Ax.rvals,EndsX,rone,e2,AV.ids,idsL,newIds,upTo,nodup,pinsOf,List.nil_append,AV.ren,renL,and_self]
def okI (n : Int) : Prop := -9223372036854775808 ≤ n ∧ n ≤ 9223372036854775807
def ybv : zaw
 | [.agg [.w (.int .i64 b),.w (.int .i64 c),.w (.int .i64 p),.w (.int .i64 e),.w (.int .i64 s),.sg 6 xs f]],[] =>
   ⟨xs.length ≤ 40 ∧ okI b ∧ okI c ∧ okI p ∧ okI e ∧ okI s ∧ ∃ rs : List Rec,xs = rs.map rv,.sb (batL b c p e s (xs.map rrec)) false,[]⟩
 | _,_ => zcm
def zng (f : FuncId) : Option zaw :=
 match f with
 | 90 => some putS
 | 91 => some zom
 | _ => none
theorem ylv : Fns Try.prog zng := by
 intro f s h
 unfold zng at h
 split at h
 ·injection h with h; subst h; exact ⟨⟨_,Try.func90,by kernel_rfl,by kernel_rfl⟩,zma⟩
 ·injection h with h; subst h; exact ⟨⟨_,Try.func91,by kernel_rfl,by kernel_rfl⟩,ztl⟩
 ·cases h
theorem zpg : ∀ (l : List Int),(∀ x ∈ l,okI x) → (zdf l).length ≤ 10 * l.length
 | [],_ => Nat.le_refl _
 | n :: l,h => by
  have h1 := zpg l (fun x hx => h x (List.mem_cons_of_mem _ hx))
  have h2 := h n (by simp)
  have z := zcs n h2.1 h2.2
  have h3 := zay (zz n).toNat (by omega)
  unfold zdf at h1 ⊢
  rw [List.flatMap_cons,List.length_append,List.length_cons]; omega
section
set_option maxRecDepth 100000
set_option maxHeartbeats 2000000 in
theorem zzp : zbb Try.prog 65 ybv := by
 refine zfl (S := zng) (T := ty) mixed ty_ok ylv Try.func65 (c := Try.f65.body.getD .skip) (by kernel_rfl) (by kernel_rfl) (fun xs pins hp _ => ?_)
 unfold ybv at hp ⊢
 split at hp
 ·rename_i b c p e s xs f _
  obtain ⟨hL,hb,hc,hpp,he,hs,rs,rfl⟩ := hp
  have hl4 : (rs.map rv).length = rs.length := by simp
  rw [hl4] at hL
  refine ⟨by simp,?_⟩
  unfold Try.f65
  obtain ⟨L,hLL⟩ : ∃ L,nums b c p e s rs.length = L := ⟨_,rfl⟩
  have hlen : L.length = 6 := by rw [← hLL]; rfl
  have hrg : ∀ x ∈ L,okI x := by
   rw [← hLL]; unfold nums
   intro x hx
   simp only [List.mem_cons,List.not_mem_nil,or_false] at hx
   rcases hx with rfl | rfl | rfl | rfl | rfl | rfl
   ·exact hb
   ·exact hc
   ·exact hpp
   ·exact he
   ·exact hs
   ·unfold okI; omega
  have hL2 : [b,c,p,e,s,(rs.length : Int)] = L := hLL
  simp only [go_sem,zaa,↓reduceIte,ty,zng,hl4,hL,hL2,zam]
  have ht : top = 4294967296 := rfl
  refine zea ⟨fun m σ => ∃ k : Nat,m = 6 - k ∧ k ≤ 6 ∧
    σ = ⟨[.agg [.w (.int .i64 b),.w (.int .i64 c),.w (.int .i64 p),.w (.int .i64 e),.w (.int .i64 s),.sg 6 (rs.map rv) f],.rf 4 6 0 0,.junk,.ms 6 1 0 (zdf (L.take k)).length,.ms 5 1 0 6,.w (.int .i64 k),.junk,.junk,.junk,.junk,.junk,.junk,.junk,.junk,.junk,.junk,.junk,.junk,.junk,.junk,.junk,.junk,.junk,.junk,.junk,.junk,.junk,.junk,.junk,.junk,.junk,.junk,.junk,.junk,.junk,.junk,.junk,.junk,.junk,.junk,.junk,.junk,.junk,.junk,.junk,.junk,.junk,.junk,.junk,.junk,.junk,.junk,.junk,.junk,.junk,.junk],[(4,.g 6 [.agg [.w (.int .i64 b),.w (.int .i64 c),.w (.int .i64 p),.w (.int .i64 e),.w (.int .i64 s),.sg 6 (rs.map rv) f]]),(5,.i L),(6,.b (zdf (L.take k)))],7⟩,?_,?_⟩
  ·refine ⟨_,_,(zgx 3 1 (.b []) rfl (by exact trivial)).trans (zaf [0,1,2,3,4,132,156] rfl rfl rfl ?_ ?_),0,rfl,by omega,rfl⟩
   ·simp only [ssT,zah,zai,setSlot,gOf,AV.ren,renL,Blk.ren,Ax.look,Ax.put,reduceCtorEq,↓reduceIte,Nat.reduceEqDiff,Nat.reduceLT,Nat.reduceAdd,List.length_append,List.length_cons,List.length_nil,Option.some.injEq]; first | exact ⟨by simp [zdf],rfl,rfl⟩ | (simp [zdf]; done)
   ·simp only [ssT,zah,zai,setSlot,gOf,AV.ren,renL,Blk.ren,Ax.look,Ax.put,reduceCtorEq,↓reduceIte,Nat.reduceEqDiff,Nat.reduceLT,Nat.reduceAdd,List.length_append,List.length_cons,List.length_nil,Option.some.injEq]; rfl
  ·rintro m σ ⟨k,rfl,hk,rfl⟩
   have e1 : ((k : Int) + 1 + 9223372036854775808) % 18446744073709551616 - 9223372036854775808 = ((k + 1 : Nat) : Int) := by omega
   by_cases hk6 : k < 6
   ·have d1 : decide ((k : Int) < ((6 : Nat) : Int)) = true := decide_eq_true (by omega)
    have hkl : k < L.length := by omega
    obtain ⟨N,hN⟩ : ∃ N,L.getD k 0 = N := ⟨_,rfl⟩
    have hNe : L[k] = N := by rw [← hN]; simp [hkl]
    obtain ⟨hN1,hN2⟩ := hrg N (hNe ▸ List.getElem_mem hkl)
    have z := zcs N hN1 hN2
    have hPl := zay (zz N).toNat (by omega)
    have hsn : zdf (L.take (k + 1)) = zdf (L.take k) ++ putU (zz N).toNat := by
     rw [List.take_succ_eq_append_getElem hkl,zrx,hNe]
    have hhl := zpg (L.take k) (fun x hx => hrg x (List.mem_of_mem_take hx))
    rw [List.length_take] at hhl
    obtain ⟨P,hP⟩ : ∃ P,putU (zz N).toNat = P := ⟨_,rfl⟩
    rw [hP] at hsn hPl
    simp only [go_sem,zaa,↓reduceIte,ty,zng,putS,d1,hN,hP,hN1,hN2,e1,hlen,List.take_length,Int.toNat_natCast,Nat.zero_add]
    repeat (refine And.intro (by omega) ?_)
    refine ⟨6 - (k + 1),_,by omega,zaf [0,1,2,3,4,5,87] rfl rfl rfl ?_ ?_,k + 1,rfl,by omega,rfl⟩
    ·simp only [ssT,zah,zai,setSlot,gOf,AV.ren,renL,Blk.ren,Ax.look,Ax.put,reduceCtorEq,↓reduceIte,Nat.reduceEqDiff,Nat.reduceLT,Nat.reduceAdd,List.length_append,List.length_cons,List.length_nil,Option.some.injEq,hsn,List.length_append]
    ·simp only [ssT,zah,zai,setSlot,gOf,AV.ren,renL,Blk.ren,Ax.look,Ax.put,reduceCtorEq,↓reduceIte,Nat.reduceEqDiff,Nat.reduceLT,Nat.reduceAdd,List.length_append,List.length_cons,List.length_nil,Option.some.injEq,hsn]
   ·have d1 : decide ((k : Int) < ((6 : Nat) : Int)) = false := decide_eq_false (by omega)
    have hk2 : L.take k = L := List.take_of_length_le (by omega)
    have hHl := zpg L hrg
    simp only [go_sem,zaa,↓reduceIte,ty,zng,d1,hk2]
    refine zea ⟨fun m σ => ∃ i : Nat,m = rs.length - i ∧ i ≤ rs.length ∧
      σ = ⟨[.agg [.w (.int .i64 b),.w (.int .i64 c),.w (.int .i64 p),.w (.int .i64 e),.w (.int .i64 s),.sg 6 (rs.map rv) f],.rf 4 6 0 0,.junk,.ms 5 1 0 (zdf L ++ (rs.take i).flatMap rb).length,.junk,.junk,.w (.int .i64 i),.junk,.junk,.junk,.junk,.junk,.junk,.junk,.junk,.junk,.junk,.junk,.junk,.junk,.junk,.junk,.junk,.junk,.junk,.junk,.junk,.junk,.junk,.junk,.junk,.junk,.junk,.junk,.junk,.junk,.junk,.junk,.junk,.junk,.junk,.junk,.junk,.junk,.junk,.junk,.junk,.junk,.junk,.junk,.junk,.junk,.junk,.junk,.junk,.junk],[(4,.g 6 [.agg [.w (.int .i64 b),.w (.int .i64 c),.w (.int .i64 p),.w (.int .i64 e),.w (.int .i64 s),.sg 6 (rs.map rv) f]]),(5,.b (zdf L ++ (rs.take i).flatMap rb))],6⟩,?_,?_⟩
    ·refine ⟨_,_,zaf [0,1,2,3,4,6] rfl rfl rfl ?_ ?_,0,rfl,by omega,rfl⟩
     ·simp only [ssT,zah,zai,setSlot,gOf,AV.ren,renL,Blk.ren,Ax.look,Ax.put,reduceCtorEq,↓reduceIte,Nat.reduceEqDiff,Nat.reduceLT,Nat.reduceAdd,List.length_append,List.length_cons,List.length_nil,Option.some.injEq]; simp
     ·simp only [ssT,zah,zai,setSlot,gOf,AV.ren,renL,Blk.ren,Ax.look,Ax.put,reduceCtorEq,↓reduceIte,Nat.reduceEqDiff,Nat.reduceLT,Nat.reduceAdd,List.length_append,List.length_cons,List.length_nil,Option.some.injEq]; simp
    ·rintro m σ ⟨i,rfl,hi,rfl⟩
     have e2 : ((i : Int) + 1 + 9223372036854775808) % 18446744073709551616 - 9223372036854775808 = ((i + 1 : Nat) : Int) := by omega
     have hbl := zmc (rs.take i)
     rw [List.length_take] at hbl
     obtain ⟨O,hO⟩ : ∃ O,zdf L ++ (rs.take i).flatMap rb = O := ⟨_,rfl⟩
     have hOl : O.length ≤ 60 + 700 * 40 := by rw [← hO,List.length_append]; omega
     by_cases hil : i < rs.length
     ·have d3 : decide ((i : Int) < rs.length) = true := decide_eq_true (by omega)
      have hsl := zfg rv rs i hil
      have htk : (rs.take (i + 1)).flatMap rb = (rs.take i).flatMap rb ++ rb rs[i] := by
       rw [List.take_succ_eq_append_getElem hil,List.flatMap_append,List.flatMap_cons,List.flatMap_nil,List.append_nil]
      obtain ⟨R,hR⟩ : ∃ R,rs[i] = R := ⟨_,rfl⟩
      rw [hR] at hsl htk
      simp only [rv] at hsl
      have hRl := zoq R
      have hrb : recB R.d R.t R.k R.key R.dd R.val = rb R := rfl
      have htk2 : zdf L ++ (rs.take (i + 1)).flatMap rb = O ++ rb R := by rw [htk,← hO,List.append_assoc]
      have hln2 : (zdf L).length + ((rs.take (i + 1)).flatMap rb).length = O.length + (rb R).length := by rw [← List.length_append,htk2,List.length_append]
      simp only [go_sem,zaa,↓reduceIte,ty,zng,zom,hrb,hO,hl4,d3,hsl,e2,List.take_length,Int.toNat_natCast]
      repeat (refine And.intro (by omega) ?_)
      refine ⟨rs.length - (i + 1),_,by omega,zaf [0,1,2,3,4,150] rfl rfl rfl ?_ ?_,i + 1,rfl,by omega,rfl⟩
      ·simp only [ssT,zah,zai,setSlot,gOf,AV.ren,renL,Blk.ren,Ax.look,Ax.put,reduceCtorEq,↓reduceIte,Nat.reduceEqDiff,Nat.reduceLT,Nat.reduceAdd,List.length_append,List.length_cons,List.length_nil,Option.some.injEq,htk2,List.length_append,hln2]
      ·simp only [ssT,zah,zai,setSlot,gOf,AV.ren,renL,Blk.ren,Ax.look,Ax.put,reduceCtorEq,↓reduceIte,Nat.reduceEqDiff,Nat.reduceLT,Nat.reduceAdd,List.length_append,List.length_cons,List.length_nil,Option.some.injEq,htk2]
     ·have d3 : decide ((i : Int) < rs.length) = false := decide_eq_false (by omega)
      have htk : rs.take i = rs := List.take_of_length_le (by omega)
      have hOe : batL b c p e s rs = O := by unfold batL; rw [hLL,← hO,htk]
      simp only [go_sem,zaa,↓reduceIte,ty,zng,hO,hl4,d3,zam,hOe]
      exact yht rfl rfl rfl rfl
 ·exact hp.elim
end
end Go.Proofs.Ytebacgkeoefnkaa
namespace Go.Proofs.Ytebacgkeoefnkaa
open Ax
theorem yjy (b c p e s n : Int) :
   (decide (c < 1) = true ∧ bfld b c p e s n = 11) ∨
   (decide (c < 1) = false ∧ decide (32 < c) = true ∧ bfld b c p e s n = 11) ∨
   (decide (c < 1) = false ∧ decide (32 < c) = false ∧ decide (b < 0) = true ∧ bfld b c p e s n = 11) ∨
   (decide (c < 1) = false ∧ decide (32 < c) = false ∧ (4611686018427387903 - c + 9223372036854775808) % 18446744073709551616 - 9223372036854775808 = 4611686018427387903 - c ∧ decide (b < 0) = false ∧ decide (4611686018427387903 - c < b) = true ∧ bfld b c p e s n = 11) ∨
   (decide (c < 1) = false ∧ decide (32 < c) = false ∧ (4611686018427387903 - c + 9223372036854775808) % 18446744073709551616 - 9223372036854775808 = 4611686018427387903 - c ∧ decide (b < 0) = false ∧ decide (4611686018427387903 - c < b) = false ∧
     ((decide (p < 0) = true ∧ bfld b c p e s n = 11) ∨
      (decide (p < 0) = false ∧ decide (1099511627776 < p) = true ∧ bfld b c p e s n = 11) ∨
      (decide (p < 0) = false ∧ decide (1099511627776 < p) = false ∧ decide (e < 0) = true ∧ bfld b c p e s n = 11) ∨
      (decide (p < 0) = false ∧ decide (1099511627776 < p) = false ∧ decide (e < 0) = false ∧ decide (32767 < e) = true ∧ bfld b c p e s n = 11) ∨
      (decide (p < 0) = false ∧ decide (1099511627776 < p) = false ∧ decide (e < 0) = false ∧ decide (32767 < e) = false ∧ decide (s < 0) = true ∧ bfld b c p e s n = 11) ∨
      (decide (p < 0) = false ∧ decide (1099511627776 < p) = false ∧ decide (e < 0) = false ∧ decide (32767 < e) = false ∧ decide (s < 0) = false ∧ decide (2147483647 < s) = true ∧ bfld b c p e s n = 11) ∨
      (decide (p < 0) = false ∧ decide (1099511627776 < p) = false ∧ decide (e < 0) = false ∧ decide (32767 < e) = false ∧ decide (s < 0) = false ∧ decide (2147483647 < s) = false ∧
       ((decide (p = 0) = true ∧ decide (e = 0) = false ∧ bfld b c p e s n = 4) ∨
        (decide (p = 0) = true ∧ decide (e = 0) = true ∧ decide (s = 0) = false ∧ bfld b c p e s n = 4) ∨
        (decide (p = 0) = true ∧ decide (e = 0) = true ∧ decide (s = 0) = true ∧ decide (c < n) = true ∧ bfld b c p e s n = 5) ∨
        (decide (p = 0) = false ∧ decide (c < n) = true ∧ bfld b c p e s n = 5) ∨
        (decide (p = 0) = true ∧ decide (e = 0) = true ∧ decide (s = 0) = true ∧ decide (c < n) = false ∧ bfld b c p e s n = 0) ∨
        (decide (p = 0) = false ∧ decide (c < n) = false ∧ bfld b c p e s n = 0))))) := by
 unfold bfld
 simp only [decide_eq_true_eq,decide_eq_false_iff_not]
 by_cases h0 : c < 1
 · exact .inl ⟨h0,if_pos (by omega)⟩
 by_cases h1 : 32 < c
 · exact .inr (.inl ⟨h0,h1,if_pos (by omega)⟩)
 by_cases h2 : b < 0
 · exact .inr (.inr (.inl ⟨h0,h1,h2,if_pos (by omega)⟩))
 by_cases h3 : 4611686018427387903 - c < b
 · exact .inr (.inr (.inr (.inl ⟨h0,h1,by omega,h2,h3,if_pos (by omega)⟩)))
 refine .inr (.inr (.inr (.inr ⟨h0,h1,by omega,h2,h3,?_⟩)))
 by_cases h4 : p < 0
 · exact .inl ⟨h4,if_pos (by omega)⟩
 by_cases h5 : 1099511627776 < p
 · exact .inr (.inl ⟨h4,h5,if_pos (by omega)⟩)
 by_cases h6 : e < 0
 · exact .inr (.inr (.inl ⟨h4,h5,h6,if_pos (by omega)⟩))
 by_cases h7 : 32767 < e
 · exact .inr (.inr (.inr (.inl ⟨h4,h5,h6,h7,if_pos (by omega)⟩)))
 by_cases h8 : s < 0
 · exact .inr (.inr (.inr (.inr (.inl ⟨h4,h5,h6,h7,h8,if_pos (by omega)⟩))))
 by_cases h9 : 2147483647 < s
 · exact .inr (.inr (.inr (.inr (.inr (.inl ⟨h4,h5,h6,h7,h8,h9,if_pos (by omega)⟩)))))
 refine .inr (.inr (.inr (.inr (.inr (.inr ⟨h4,h5,h6,h7,h8,h9,?_⟩)))))
 rw [if_neg (by omega)]
 by_cases hp : p = 0
 · by_cases he : e = 0
   · by_cases hs : s = 0
     · by_cases hc : c < n
       · exact .inr (.inr (.inl ⟨hp,he,hs,hc,by rw [if_neg (by omega),if_pos hc]⟩))
       · exact .inr (.inr (.inr (.inr (.inl ⟨hp,he,hs,hc,by rw [if_neg (by omega),if_neg hc]⟩))))
     · exact .inr (.inl ⟨hp,he,hs,if_pos (by omega)⟩)
   · exact .inl ⟨hp,he,if_pos (by omega)⟩
 · by_cases hc : c < n
   · exact .inr (.inr (.inr (.inl ⟨hp,hc,by rw [if_neg (by omega),if_pos hc]⟩)))
   · exact .inr (.inr (.inr (.inr (.inr ⟨hp,hc,by rw [if_neg (by omega),if_neg hc]⟩))))
def zop : zaw
 | [.agg [.w (.int .i64 b),.w (.int .i64 c),.w (.int .i64 p),.w (.int .i64 e),.w (.int .i64 s),.sg 6 xs f]],[] =>
   ⟨xs.length ≤ 40 ∧ ∃ rs : List Rec,xs = rs.map rv,.w (.int .i64 (batE b c p e s (xs.map rrec))),[]⟩
 | _,_ => zcm
theorem yra (b c p e s : Int) (rs : List Rec) (h : bfld b c p e s rs.length ≠ 0) : batE b c p e s rs = bfld b c p e s rs.length := if_neg h
def zqo (f : FuncId) : Option zaw :=
 match f with
 | 65 => some ybv
 | 64 => some zmb
 | _ => none
theorem ylw : Fns Try.prog zqo := by
 intro f s h
 unfold zqo at h
 split at h
 ·injection h with h; subst h; exact ⟨⟨_,Try.func65,by kernel_rfl,by kernel_rfl⟩,zzp⟩
 ·injection h with h; subst h; exact ⟨⟨_,Try.func64,by kernel_rfl,by kernel_rfl⟩,zkw⟩
 ·cases h
section
set_option maxRecDepth 100000
set_option maxHeartbeats 4000000 in
theorem zzq : zbb Try.prog 34 zop := by
 refine zbd (S := zqo) (T := ty) mixed ty_ok ylw Try.func34 (c := Try.f34.body.getD .skip) (by kernel_rfl) (by kernel_rfl) (fun xs pins hp _ => ?_)
 unfold zop at hp ⊢
 split at hp
 ·rename_i b c p e s xs f _
  obtain ⟨hL,rs,rfl⟩ := hp
  have hl4 : (rs.map rv).length = rs.length := by simp
  rw [hl4] at hL
  refine ⟨by simp,?_⟩
  unfold Try.f34
  have hE := yra b c p e s rs
  have n1 : ((11 : Int) ≠ 0) = True := by decide
  have n2 : ((4 : Int) ≠ 0) = True := by decide
  have n3 : ((5 : Int) ≠ 0) = True := by decide
  rcases yjy b c p e s rs.length with D | D | D | D | ⟨a0,a1,a2,a3,a4,D | D | D | D | D | D | ⟨a5,a6,a7,a8,a9,a10,D | D | D | D | D | D⟩⟩
  all_goals simp only [go_sem,zaa,↓reduceIte,ty,zqo,hl4,zam, *]
  all_goals
   have hF : bfld b c p e s rs.length = 0 := by simp only [D]
   have hz := zyg hF
   clear D hE n1 n2 n3
   refine zea ⟨fun m σ => ∃ (i : Nat) (a : Int),m = rs.length - i ∧ i ≤ rs.length ∧ layE c (-1) rs = layE c a (rs.drop i) ∧
     σ = ⟨[.agg [.w (.int .i64 b),.w (.int .i64 c),.w (.int .i64 p),.w (.int .i64 e),.w (.int .i64 s),.sg 6 (rs.map rv) f],.rf 4 6 0 0,.junk,.w (.int .i64 a),.w (.int .i64 i),.junk,.junk,.junk,.junk,.junk,.junk,.junk,.junk,.junk,.junk,.junk,.junk,.junk,.junk,.junk,.junk,.junk,.junk,.junk,.junk,.junk,.junk,.junk,.junk,.junk,.junk,.junk,.junk,.junk,.junk,.junk,.junk,.junk,.junk,.junk,.junk,.junk,.junk,.junk,.junk,.junk,.junk,.junk,.junk,.junk,.junk,.junk,.junk,.junk,.junk,.junk,.junk,.junk,.junk,.junk,.junk,.junk,.junk,.junk,.junk,.junk,.junk,.junk,.junk,.junk,.junk,.junk,.junk,.junk,.junk,.junk,.junk,.junk,.junk,.junk,.junk,.junk,.junk,.junk,.junk,.junk,.junk,.junk,.junk,.junk,.junk,.junk,.junk,.junk,.junk,.junk,.junk,.junk,.junk,.junk,.junk,.junk,.junk,.junk,.junk,.junk,.junk,.junk,.junk,.junk,.junk,.junk,.junk,.junk,.junk,.junk,.junk,.junk,.junk,.junk,.junk,.junk,.junk,.junk,.junk],[(4,.g 6 [.agg [.w (.int .i64 b),.w (.int .i64 c),.w (.int .i64 p),.w (.int .i64 e),.w (.int .i64 s),.sg 6 (rs.map rv) f]])],5⟩,?_,?_⟩
   ·refine ⟨_,_,zaf [0,1,2,3,4] rfl rfl rfl ?_ ?_,0,-1,rfl,by omega,by rw [List.drop_zero],rfl⟩
    ·simp only [ssT,zah,zai,setSlot,gOf,AV.ren,renL,Blk.ren,Ax.look,Ax.put,reduceCtorEq,↓reduceIte,Nat.reduceEqDiff,Nat.reduceLT,Nat.reduceAdd,List.length_append,List.length_cons,List.length_nil,Option.some.injEq]; try simp
    ·simp only [ssT,zah,zai,setSlot,gOf,AV.ren,renL,Blk.ren,Ax.look,Ax.put,reduceCtorEq,↓reduceIte,Nat.reduceEqDiff,Nat.reduceLT,Nat.reduceAdd,List.length_append,List.length_cons,List.length_nil,Option.some.injEq]
   ·rintro m σ ⟨i,a,rfl,hi,hinv,rfl⟩
    have e2 : ((i : Int) + 1 + 9223372036854775808) % 18446744073709551616 - 9223372036854775808 = ((i + 1 : Nat) : Int) := by omega
    by_cases hil : i < rs.length
    ·have d3 : decide ((i : Int) < rs.length) = true := decide_eq_true (by omega)
     have hsl := zfg rv rs i hil
     have hdr : rs.drop i = rs[i] :: rs.drop (i + 1) := List.drop_eq_getElem_cons hil
     obtain ⟨R,hR⟩ : ∃ R,rs[i] = R := ⟨_,rfl⟩
     rw [hR] at hsl hdr
     simp only [rv] at hsl
     rw [hdr,zwp] at hinv
     have hrk : rchk R.d R.t R.k R.key R.dd R.val = rk R := rfl
     have hLE : ∀ v,v ≠ 0 → layE c (-1) rs = v → batE b c p e s rs = v := fun v h1 h2 => by unfold batE; rw [if_pos hF,if_neg (by rw [h2]; exact h1),h2]
     by_cases hk0 : rk R = 0
     ·have d4 : decide (rk R = 0) = true := decide_eq_true hk0
      rw [if_pos hk0] at hinv
      have hor : (decide (R.d ≤ a) = true ∧ batE b c p e s rs = 16) ∨ (decide (R.d ≤ a) = false ∧ decide (c ≤ R.d) = true ∧ batE b c p e s rs = 16) ∨ (decide (R.d ≤ a) = false ∧ decide (c ≤ R.d) = false ∧ layE c (-1) rs = layE c R.d (rs.drop (i + 1))) := by
       by_cases hA : R.d ≤ a
       ·rw [if_pos (.inl hA)] at hinv
        exact .inl ⟨decide_eq_true hA,hLE 16 (by decide) hinv⟩
       ·by_cases hC : c ≤ R.d
        ·rw [if_pos (.inr hC)] at hinv
         exact .inr (.inl ⟨decide_eq_false hA,decide_eq_true hC,hLE 16 (by decide) hinv⟩)
        ·rw [if_neg (by omega)] at hinv
         exact .inr (.inr ⟨decide_eq_false hA,decide_eq_false hC,hinv⟩)
      clear hinv
      rcases hor with D | D | D
      all_goals simp only [go_sem,zaa,↓reduceIte,ty,zqo,zmb,hrk,hl4,d3,hsl,d4,e2,zam,Int.toNat_natCast,D]
      all_goals repeat (refine And.intro (by omega) ?_)
      all_goals try omega
      refine ⟨rs.length - (i + 1),_,by omega,zaf [0,1,2,3,4] rfl rfl rfl ?_ ?_,i + 1,R.d,rfl,by omega,rfl,rfl⟩
      ·simp only [ssT,zah,zai,setSlot,gOf,AV.ren,renL,Blk.ren,Ax.look,Ax.put,reduceCtorEq,↓reduceIte,Nat.reduceEqDiff,Nat.reduceLT,Nat.reduceAdd,List.length_append,List.length_cons,List.length_nil,Option.some.injEq]
      ·simp only [ssT,zah,zai,setSlot,gOf,AV.ren,renL,Blk.ren,Ax.look,Ax.put,reduceCtorEq,↓reduceIte,Nat.reduceEqDiff,Nat.reduceLT,Nat.reduceAdd,List.length_append,List.length_cons,List.length_nil,Option.some.injEq]
     ·have d4 : decide (rk R = 0) = false := decide_eq_false hk0
      rw [if_neg hk0] at hinv
      have hB := hLE _ hk0 hinv
      simp only [go_sem,zaa,↓reduceIte,ty,zqo,zmb,hrk,hl4,d3,hsl,d4,hB,zam,Int.toNat_natCast]
      omega
    ·have d3 : decide ((i : Int) < rs.length) = false := decide_eq_false (by omega)
     have hdr : rs.drop i = [] := List.drop_eq_nil_of_le (by omega)
     rw [hdr] at hinv
     have hl0 : layE c (-1) rs = 0 := hinv
     have o1 : okI b := by unfold okI; omega
     have o2 : okI c := by unfold okI; omega
     have o3 : okI p := by unfold okI; omega
     have o4 : okI e := by unfold okI; omega
     have o5 : okI s := by unfold okI; omega
     have hex : ∃ qs : List Rec,rs.map rv = qs.map rv := ⟨rs,rfl⟩
     have hor : (decide ((8192 : Int) < (batL b c p e s rs).length) = true ∧ batE b c p e s rs = 5) ∨ (decide ((8192 : Int) < (batL b c p e s rs).length) = false ∧ batE b c p e s rs = 0) := by
      by_cases h8 : 8192 < (batL b c p e s rs).length
      ·exact .inl ⟨decide_eq_true (by omega),by unfold batE; rw [if_pos hF,if_pos hl0,if_pos h8]⟩
      ·exact .inr ⟨decide_eq_false (by omega),by unfold batE; rw [if_pos hF,if_pos hl0,if_neg h8]⟩
     rcases hor with ⟨d4,hB⟩ | ⟨d4,hB⟩
     all_goals simp only [go_sem,zaa,↓reduceIte,ty,zqo,ybv,hl4,hL,d3,d4,hB,hex,o1,o2,o3,o4,o5,zam]
 ·exact hp.elim
end
end Go.Proofs.Ytebacgkeoefnkaa
namespace Go.Proofs.Ytebacgkeoefnkaa
open Ax
def dcV (l : List VR) (b : Int) (rs : List Rec) : List VR := rs.foldl (oneV b) l
def dcE (n : Int) (l : List VR) (x : Bat) : Int := if chV n l = 0 then (if bE x = 0 then (if x.b < n then 16 else if 4096 < (dcV l x.b x.rs).length then 9 else 0) else bE x) else chV n l
def dcA (n : Int) (l : List VR) (f : Bool) (x : Bat) : AV := if dcE n l x = 0 then vwA (nxI x.b x.c) (dcV l x.b x.rs) false 0 else vwA n l f (dcE n l x)
def rapS : zaw
 | [.agg [.w (.int .i64 n),.sg 4 xs f],.agg [.w (.int .i64 b),.w (.int .i64 c),.w (.int .i64 p),.w (.int .i64 e),.w (.int .i64 s),.sg 6 ys g]],[] =>
   ⟨xs.length ≤ 900000 ∧ ys.length ≤ 40 ∧ (∃ l : List VR,xs = l.map vrA) ∧ ∃ rs : List Rec,ys = rs.map rv,dcA n (xs.map uvr) f ⟨b,c,p,e,s,ys.map rrec⟩,[]⟩
 | _,_ => zcm
theorem ymq (b : Int) (l : List VR) (r : Rec) : (oneV b l r).length ≤ l.length + 1 := by
 unfold oneV
 have h1 := zza r.key l
 split
 ·split
  ·omega
  ·rw [List.length_append,List.length_cons,List.length_take,List.length_drop]; omega
 ·omega
theorem yap (b : Int) : ∀ (rs : List Rec) (l : List VR),(rs.foldl (oneV b) l).length ≤ l.length + rs.length
 | [],l => by simp
 | r :: rs,l => by
  rw [List.foldl_cons]
  have h1 := yap b rs (oneV b l r)
  have h2 := ymq b l r
  rw [List.length_cons]; omega
section
set_option maxRecDepth 100000
theorem ztm : zbb Try.prog 35 znf := by
 refine zbd (S := noS) (T := ty) mixed ty_ok zdk Try.func35 (c := Try.f35.body.getD .skip) (by kernel_rfl) (by kernel_rfl) (fun xs pins hp _ => ?_)
 unfold znf at hp ⊢
 split at hp
 ·rename_i b c p e s xs f _
  refine ⟨by simp,?_⟩
  unfold Try.f35
  simp only [go_sem,zaa,↓reduceIte,ty,noS]
 ·exact hp.elim
def zek (f : FuncId) : Option zaw :=
 match f with
 | 17 => some zhs
 | 34 => some zop
 | 35 => some znf
 | 36 => some oneS
 | _ => none
theorem ylx : Fns Try.prog zek := by
 intro f s h
 unfold zek at h
 split at h
 ·injection h with h; subst h; exact ⟨⟨_,Try.func17,by kernel_rfl,by kernel_rfl⟩,zoo⟩
 ·injection h with h; subst h; exact ⟨⟨_,Try.func34,by kernel_rfl,by kernel_rfl⟩,zzq⟩
 ·injection h with h; subst h; exact ⟨⟨_,Try.func35,by kernel_rfl,by kernel_rfl⟩,ztm⟩
 ·injection h with h; subst h; exact ⟨⟨_,Try.func36,by kernel_rfl,by kernel_rfl⟩,yia⟩
 ·cases h
def zqy : Plan := fun id => match id with
 | 14 => some []
 | _ => none
set_option maxHeartbeats 16000000 in
theorem zvr : zbb Try.prog 11 rapS := by
 refine zcp (S := zek) (T := ty) (pl := zqy) mixed ty_ok ylx Try.func11 (c := Try.f11.body.getD .skip) (by kernel_rfl) (by kernel_rfl) (fun xs pins hp _ => ?_)
 unfold rapS at hp ⊢
 split at hp
 ·rename_i n xs f b c p e s ys g _
  obtain ⟨hL,hR,⟨l,rfl⟩,rs,rfl⟩ := hp
  rw [List.length_map] at hL hR
  have hlp : (l.map vrA).length = l.length := by simp
  have hlr : (rs.map rv).length = rs.length := by simp
  have hL9 : l.length ≤ 9223372036854775807 := by omega
  have hxl : ∃ q : List VR,l.map vrA = q.map vrA := ⟨l,rfl⟩
  have hxr : ∃ q : List Rec,rs.map rv = q.map rv := ⟨rs,rfl⟩
  have ht : top = 4294967296 := rfl
  have hcl : ∀ f,coe ty 22 (.sg 4 (l.map vrA) f) = .sg 4 (l.map vrA) f := fun f => by cases l <;> rfl
  rw [zau,zam]
  refine ⟨by simp,?_⟩
  obtain ⟨E,hE⟩ : ∃ E,dcE n l ⟨b,c,p,e,s,rs⟩ = E := ⟨_,rfl⟩
  unfold dcA
  rw [hE]
  unfold dcE at hE
  obtain ⟨C,hC⟩ : ∃ C,chV n l = C := ⟨_,rfl⟩
  obtain ⟨D,hD⟩ : ∃ D,batE b c p e s rs = D := ⟨_,rfl⟩
  have hD2 : bE ⟨b,c,p,e,s,rs⟩ = D := hD
  rw [hC,hD2] at hE
  have hn0 : ∀ b0 : Bool,znf [.agg [.w (.int .i64 b),.w (.int .i64 c),.w (.int .i64 p),.w (.int .i64 e),.w (.int .i64 s),.sg 6 (rs.map rv) b0]] [] = ⟨True,.w (.int .i64 (nxI b c)),[]⟩ := fun _ => rfl
  unfold Try.f11
  by_cases h1 : C = 0
  ·have d1 : decide (C = 0) = true := decide_eq_true h1
   by_cases h2 : D = 0
   ·have d2 : decide (D = 0) = true := decide_eq_true h2
    by_cases h3 : b < n
    ·have d3 : decide (b < n) = true := decide_eq_true h3
     rw [if_pos h1,if_pos h2,if_pos h3] at hE
     subst hE
     simp only [go_sem,zab,↓reduceIte,lcT,ty,zek,zqy,zhs,zop,hcl,hlp,hlr,hL9,hR,hxl,hxr,zau,zam,hC,hD,d1,d2,d3,vwA]
     refine ⟨_,Weak.refl _,?_⟩
     simp only [go_sem,zab,↓reduceIte,lcT,ty,zek,zan]
    ·have d3 : decide (b < n) = false := decide_eq_false h3
     rw [if_pos h1,if_pos h2,if_neg h3] at hE
     simp only at hE
     simp only [go_sem,zab,↓reduceIte,lcT,ty,zek,zqy,zhs,zop,ht,hcl,hn0,hlp,hlr,hL9,hR,hxl,hxr,zau,zam,hC,hD,d1,d2,d3]
     refine And.intro (by omega) ?_
     refine zcg ⟨fun m σ => ∃ i : Nat,m = rs.length - i ∧ i ≤ rs.length ∧
       σ = ⟨[.junk,.junk,.rf 4 2 0 0,.rf 5 6 0 0,.rf 6 2 0 0,.junk,.junk,.junk,.rf 7 2 0 0,.w (.int .i64 i),.junk,.junk,.junk,.junk,.junk,.junk,.junk,.junk,.junk,.junk,.junk,.junk,.junk,.junk,.junk,.junk,.junk,.junk,.junk,.junk,.junk,.junk,.junk,.junk,.junk,.junk,.junk,.junk,.junk,.junk,.junk,.junk,.junk,.junk,.junk,.junk,.junk,.junk,.junk,.junk,.junk,.junk,.junk,.junk,.junk,.junk,.junk,.junk,.junk,.junk,.junk,.junk,.junk,.junk,.junk,.junk,.junk,.junk,.junk,.junk,.junk],
        [(4,.g 2 [.agg [.w (.int .i64 n),.sg 4 (l.map vrA) f]]),(5,.g 6 [.agg [.w (.int .i64 b),.w (.int .i64 c),.w (.int .i64 p),.w (.int .i64 e),.w (.int .i64 s),.sg 6 (rs.map rv) g]]),(6,.g 2 [.agg [.w (.int .i64 0),.sg 4 [] true]]),(7,.g 2 [.agg [.w (.int .i64 (nxI b c)),.sg 4 ((dcV l b (rs.take i)).map vrA) false]])],8⟩,?_,?_⟩
     ·have hdle : decide (0 + l.length ≤ (l.map vrA).length) = true := decide_eq_true (by omega)
      have htk : (l.map vrA).take l.length = l.map vrA := List.take_of_length_le (by omega)
      refine ⟨_,_,(ztd 252 4 8 204 (l.map vrA) _ rfl (zan l) rfl (by simp [slot,AV.ids]) (by simp [Blk.idsB,Blk.closed,closedL,AV.closed,idsL,AV.ids])).trans ?_,0,rfl,by omega,rfl⟩
      simp only [fgL,fgH,AV.fg,Blk.fg,Nat.reduceBEq,cond_true,cond_false,hdle,Bool.and_true,beq_self_eq_true,Bool.true_and,List.drop_zero,htk]
      refine zaf [0,1,2,3,4,12,20,204] rfl rfl rfl ?_ ?_
      ·simp only [ssT,zah,zai,setSlot,gOf,AV.ren,renL,Blk.ren,Ax.look,Ax.put,reduceCtorEq,↓reduceIte,Nat.reduceEqDiff,Nat.reduceLT,Nat.reduceAdd,List.length_append,List.length_cons,List.length_nil,Option.some.injEq]; try simp
      ·simp only [ssT,zah,zai,setSlot,gOf,AV.ren,renL,Blk.ren,Ax.look,Ax.put,reduceCtorEq,↓reduceIte,Nat.reduceEqDiff,Nat.reduceLT,Nat.reduceAdd,List.length_append,List.length_cons,List.length_nil,Option.some.injEq,zfc]; try simp [dcV]
     ·rintro m σ ⟨i,rfl,hi,rfl⟩
      have e1 : ((i : Int) + 1 + 9223372036854775808) % 18446744073709551616 - 9223372036854775808 = ((i + 1 : Nat) : Int) := by omega
      have hKl := yap b (rs.take i) l
      rw [List.length_take] at hKl
      by_cases hil : i < rs.length
      ·have d4 : decide ((i : Int) < rs.length) = true := decide_eq_true (by omega)
       have hs1 := zfg rv rs i hil
       have htk : rs.take (i + 1) = rs.take i ++ [rs[i]] := List.take_succ_eq_append_getElem hil
       obtain ⟨r,hr⟩ : ∃ r,rs[i] = r := ⟨_,rfl⟩
       rw [hr] at hs1 htk
       have hst : dcV l b (rs.take (i + 1)) = oneV b (dcV l b (rs.take i)) r := by unfold dcV; rw [htk,List.foldl_append]; rfl
       obtain ⟨K,hK⟩ : ∃ K,dcV l b (rs.take i) = K := ⟨_,rfl⟩
       have hKl : K.length ≤ 1000000 := by rw [← hK]; unfold dcV; omega
       rw [hK] at hst ⊢
       obtain ⟨d,t,kd,key,dd,val⟩ := r
       simp only [rv] at hs1
       have hof : (b + d + 9223372036854775808) % 18446744073709551616 - 9223372036854775808 = offI b d := rfl
       have hKm : (K.map vrA).length = K.length := by simp
       have hcK : ∀ f,coe ty 22 (.sg 4 (K.map vrA) f) = .sg 4 (K.map vrA) f := fun f => by cases K <;> rfl
       have hxK : ∃ q : List VR,K.map vrA = q.map vrA := ⟨K,rfl⟩
       have hon : (if kd = true then (if dd = true then wiL key K else (wiL key K).take (wiN key K) ++ ⟨key,val,offI b d,t⟩ :: (wiL key K).drop (wiN key K)) else K) = dcV l b (rs.take (i + 1)) := hst.symm
       obtain ⟨N,hN⟩ : ∃ N,dcV l b (rs.take (i + 1)) = N := ⟨_,rfl⟩
       rw [hN] at hon
       have hoS : oneS [.sg 4 (K.map vrA) false,.agg [.w (.int .i64 d),.w (.int .i64 t),.w (.bool kd),.str key,.w (.bool dd),.str val],.w (.int .i64 (offI b d))] [] = ⟨K.length ≤ 1000000 ∧ ∃ q : List VR,K.map vrA = q.map vrA,.sg 4 (N.map vrA) false,[]⟩ := by
        show (⟨(K.map vrA).length ≤ 1000000 ∧ ∃ q : List VR,K.map vrA = q.map vrA,.sg 4 ((if kd = true then (if dd = true then wiL key ((K.map vrA).map uvr) else (wiL key ((K.map vrA).map uvr)).take (wiN key ((K.map vrA).map uvr)) ++ ⟨key,val,offI b d,t⟩ :: (wiL key ((K.map vrA).map uvr)).drop (wiN key ((K.map vrA).map uvr))) else (K.map vrA).map uvr).map vrA) false,[]⟩ : Res) = _
        rw [zau,hKm,hon]
       simp only [go_sem,zab,↓reduceIte,lcT,ty,zek,zqy,hlr,d4,hs1,e1,hof,hcK,hoS,hKl,hxK,zan,Int.toNat_natCast]
       repeat (first | refine And.intro (by omega) ?_ | refine And.intro ⟨by omega,by omega⟩ ?_)
       refine ⟨rs.length - (i + 1),_,by omega,zaf [0,1,2,3,4,5,6,7] rfl rfl rfl ?_ ?_,i + 1,rfl,by omega,rfl⟩
       ·simp only [ssT,zah,zai,setSlot,gOf,AV.ren,renL,Blk.ren,Ax.look,Ax.put,reduceCtorEq,↓reduceIte,Nat.reduceEqDiff,Nat.reduceLT,Nat.reduceAdd,List.length_append,List.length_cons,List.length_nil,Option.some.injEq]; try simp
       ·simp only [ssT,zah,zai,setSlot,gOf,AV.ren,renL,Blk.ren,Ax.look,Ax.put,reduceCtorEq,↓reduceIte,Nat.reduceEqDiff,Nat.reduceLT,Nat.reduceAdd,List.length_append,List.length_cons,List.length_nil,Option.some.injEq,zfc,hN]; try simp
      ·have d4 : decide ((i : Int) < rs.length) = false := decide_eq_false (by omega)
       have htk : rs.take i = rs := List.take_of_length_le (by omega)
       rw [htk] at hKl ⊢
       obtain ⟨Z,hZ⟩ : ∃ Z,dcV l b rs = Z := ⟨_,rfl⟩
       rw [hZ] at hE ⊢
       have hZl : (Z.map vrA).length = Z.length := by simp
       by_cases h5 : 4096 < Z.length
       ·have d5 : decide ((4096 : Int) < Z.length) = true := decide_eq_true (by omega)
        rw [if_pos h5] at hE
        subst hE
        simp only [go_sem,zab,↓reduceIte,lcT,ty,zek,zqy,hlr,d4]
        refine ⟨_,Weak.refl _,?_⟩
        simp only [go_sem,zab,↓reduceIte,lcT,ty,zek,zqy,hZl,d5,vwA]
        refine ⟨_,Weak.refl _,?_⟩
        simp only [go_sem,zab,↓reduceIte,lcT,ty,zek,zan]
       ·have d5 : decide ((4096 : Int) < Z.length) = false := decide_eq_false (by omega)
        rw [if_neg h5] at hE
        subst hE
        simp only [go_sem,zab,↓reduceIte,lcT,ty,zek,zqy,hlr,d4]
        refine ⟨_,Weak.refl _,?_⟩
        simp only [go_sem,zab,↓reduceIte,lcT,ty,zek,zqy,hZl,d5,vwA]
        refine ⟨_,Weak.refl _,?_⟩
        simp only [go_sem,zab,↓reduceIte,lcT,ty,zek,zan]
   ·have d2 : decide (D = 0) = false := decide_eq_false h2
    rw [if_pos h1,if_neg h2] at hE
    subst hE
    simp only [go_sem,zab,↓reduceIte,lcT,ty,zek,zqy,zhs,zop,hcl,hlp,hlr,hL9,hR,hxl,hxr,zau,zam,hC,hD,d1,d2,vwA,if_neg h2]
    refine ⟨_,Weak.refl _,?_⟩
    simp only [go_sem,zab,↓reduceIte,lcT,ty,zek,zan]
  ·have d1 : decide (C = 0) = false := decide_eq_false h1
   rw [if_neg h1] at hE
   subst hE
   simp only [go_sem,zab,↓reduceIte,lcT,ty,zek,zqy,zhs,zop,hcl,hlp,hlr,hL9,hR,hxl,hxr,zau,zam,hC,hD,d1,vwA,if_neg h1]
   refine ⟨_,Weak.refl _,?_⟩
   simp only [go_sem,zab,↓reduceIte,lcT,ty,zek,zan]
 ·exact hp.elim
end
end Go.Proofs.Ytebacgkeoefnkaa
namespace Go.Proofs.Ytebacgkeoefnkaa
open Ax
def bldG (E : Int → List VR → Bat → Int) (A : List VR → Int → List Rec → List VR) : List Bat → Int → List VR → Bool → AV
 | [],n,l,f => vwA n l f 0
 | x :: xs,n,l,f => if E n l x = 0 then bldG E A xs (nxI x.b x.c) (A l x.b x.rs) false else vwA 0 [] true (E n l x)
def srA (l : List VR) (b : Int) (rs : List Rec) : List VR := srtV (allV l b rs)
def bldS (E : Int → List VR → Bat → Int) (A : List VR → Int → List Rec → List VR) : zaw
 | [.sg 6 xs f],[] => ⟨xs.length ≤ 12 ∧ ∃ es : List (Bat × Bool),xs = es.map bvp ∧ ∀ p ∈ es,p.1.rs.length ≤ 40,bldG E A (xs.map ubat) 0 [] true,[]⟩
 | _,_ => zcm
def zqp (f : FuncId) : Option zaw :=
 match f with
 | 10 => some zsu
 | _ => none
theorem yom : Fns Try.prog zqp := by
 intro f s h
 unfold zqp at h
 split at h
 ·injection h with h; subst h; exact ⟨⟨_,Try.func10,by kernel_rfl,by kernel_rfl⟩,zqj⟩
 ·cases h
def zqq (f : FuncId) : Option zaw :=
 match f with
 | 11 => some rapS
 | _ => none
theorem yon : Fns Try.prog zqq := by
 intro f s h
 unfold zqq at h
 split at h
 ·injection h with h; subst h; exact ⟨⟨_,Try.func11,by kernel_rfl,by kernel_rfl⟩,zvr⟩
 ·cases h
theorem zzg (l : List VR) (b : Int) (rs : List Rec) : (srA l b rs).length ≤ l.length + rs.length := by
 unfold srA; rw [zbq]; exact yeh l b rs
theorem ynp (l : List VR) (b : Int) (rs : List Rec) : (dcV l b rs).length ≤ l.length + rs.length := yap b rs l
def zwb : Plan := fun _ => none
def zwc : Plan := fun id => match id with
 | 5 => some [(0,9),(4,9),(5,9),(2,8),(0,8),(1,8)]
 | _ => none
section
set_option maxRecDepth 100000
set_option maxHeartbeats 16000000 in
theorem ygj : zbb Try.prog 12 (bldS apE srA) := by
 refine zcp (S := zqp) (T := ty) (pl := zwb) mixed ty_ok yom Try.func12 (c := Try.f12.body.getD .skip) (by kernel_rfl) (by kernel_rfl) (fun xs pins hp _ => ?_)
 unfold bldS at hp ⊢
 split at hp
 ·rename_i xs f _
  obtain ⟨hL,es,rfl,he⟩ := hp
  rw [List.length_map] at hL
  have hlp : (es.map bvp).length = es.length := by simp
  have ht : top = 4294967296 := rfl
  rw [zdx]
  refine ⟨by simp,?_⟩
  obtain ⟨X,hX⟩ : ∃ X,bldG apE srA (es.map Prod.fst) 0 [] true = X := ⟨_,rfl⟩
  rw [hX]
  unfold Try.f12
  simp only [go_sem,zab,↓reduceIte,lcT,ty,zqp,zwb,hlp]
  refine zcg ⟨fun m σ => ∃ (i : Nat) (n : Int) (l : List VR) (fl : Bool),m = es.length - i ∧ i ≤ es.length ∧ l.length ≤ 40 * i ∧ bldG apE srA ((es.drop i).map Prod.fst) n l fl = X ∧
    σ = ⟨[.sg 6 (es.map bvp) f,.junk,.rf 4 2 0 0,.junk,.rf 5 2 0 0,.junk,.junk,.junk,.junk,.junk,.sg 6 (es.map bvp) f,.w (.int .i64 es.length),.w (.int .i64 i),.junk,.junk,.junk,.junk,.junk,.junk,.junk,.junk,.junk,.junk,.junk,.junk,.junk,.junk,.junk,.junk],[(4,.g 2 [.agg [.w (.int .i64 0),.sg 4 [] true]]),(5,.g 2 [.agg [.w (.int .i64 n),.sg 4 (l.map vrA) fl]])],6⟩,?_,?_⟩
  ·refine ⟨_,_,zaf [0,1,2,3,4,28] rfl rfl rfl ?_ ?_,0,0,[],true,rfl,by omega,by simp,by rw [List.drop_zero]; exact hX,rfl⟩
   ·simp only [ssT,zah,zai,setSlot,gOf,AV.ren,renL,Blk.ren,Ax.look,Ax.put,reduceCtorEq,↓reduceIte,Nat.reduceEqDiff,Nat.reduceLT,Nat.reduceAdd,List.length_append,List.length_cons,List.length_nil,Option.some.injEq]; try simp
   ·simp only [ssT,zah,zai,setSlot,gOf,AV.ren,renL,Blk.ren,Ax.look,Ax.put,reduceCtorEq,↓reduceIte,Nat.reduceEqDiff,Nat.reduceLT,Nat.reduceAdd,List.length_append,List.length_cons,List.length_nil,Option.some.injEq]; try simp [renL]
  ·rintro m σ ⟨i,n,l,fl,rfl,hi,hl,hI,rfl⟩
   have e1 : ((i : Int) + 1 + 9223372036854775808) % 18446744073709551616 - 9223372036854775808 = ((i + 1 : Nat) : Int) := by omega
   by_cases hil : i < es.length
   ·have d4 : decide ((i : Int) < es.length) = true := decide_eq_true (by omega)
    have hs1 := zno es i hil
    have m1 := he es[i] (List.getElem_mem hil)
    have hdr : es.drop i = es[i] :: es.drop (i + 1) := List.drop_eq_getElem_cons hil
    obtain ⟨P,hP⟩ : ∃ P,es[i] = P := ⟨_,rfl⟩
    rw [hP] at hs1 m1 hdr
    rw [hdr,List.map_cons] at hI
    obtain ⟨⟨b,c,p,e,s,rs⟩,f'⟩ := P
    have hs1 : slot (es.map bvp) i = .agg [.w (.int .i64 b),.w (.int .i64 c),.w (.int .i64 p),.w (.int .i64 e),.w (.int .i64 s),.sg 6 (rs.map rv) f'] := hs1
    simp only at m1
    have hcl : ∀ f,coe ty 33 (.sg 4 (l.map vrA) f) = .sg 4 (l.map vrA) f := fun f => by cases l <;> rfl
    have hlq : (l.map vrA).length = l.length := by simp
    have hlr : (rs.map rv).length = rs.length := by simp
    have hxl : ∃ q : List VR,l.map vrA = q.map vrA := ⟨l,rfl⟩
    have hxr : ∃ q : List Rec,rs.map rv = q.map rv := ⟨rs,rfl⟩
    have hl9 : l.length ≤ 1000000 := by omega
    have hr9 : rs.length ≤ 1000000 := by omega
    have hLn := zzg l b rs
    unfold bldG at hI
    have hap : ∀ f0,zsu [.agg [.w (.int .i64 n),.sg 4 (l.map vrA) fl],.agg [.w (.int .i64 b),.w (.int .i64 c),.w (.int .i64 p),.w (.int .i64 e),.w (.int .i64 s),.sg 6 (rs.map rv) f0]] [] = ⟨l.length ≤ 1000000 ∧ rs.length ≤ 1000000 ∧ (∃ q : List VR,l.map vrA = q.map vrA) ∧ ∃ q : List Rec,rs.map rv = q.map rv,apA n l ⟨b,c,p,e,s,rs⟩,[]⟩ := fun f0 => by
     show (⟨(l.map vrA).length ≤ 1000000 ∧ (rs.map rv).length ≤ 1000000 ∧ (∃ q : List VR,l.map vrA = q.map vrA) ∧ ∃ q : List Rec,rs.map rv = q.map rv,apA n ((l.map vrA).map uvr) ⟨b,c,p,e,s,(rs.map rv).map rrec⟩,[]⟩ : Res) = _
     rw [zau,zam,hlq,hlr]
    by_cases h0 : apE n l ⟨b,c,p,e,s,rs⟩ = 0
    ·have hA : apA n l ⟨b,c,p,e,s,rs⟩ = .tup [.agg [.w (.int .i64 (nxI b c)),.sg 4 ((srA l b rs).map vrA) false],.w (.int .i64 0)] := if_pos h0
     rw [if_pos h0] at hI
     obtain ⟨L,hLL⟩ : ∃ L,srA l b rs = L := ⟨_,rfl⟩
     simp only [hLL] at hI hA hLn
     simp only [hA] at hap
     simp only [go_sem,zab,↓reduceIte,lcT,ty,zqp,zwb,hlp,d4,hs1,e1,hcl,hap,hl9,hr9,hxl,hxr,zan,Int.toNat_natCast]
     repeat (first | refine And.intro (by omega) ?_ | refine And.intro ⟨by omega,by omega⟩ ?_)
     refine ⟨es.length - (i + 1),_,by omega,zaf [0,1,2,3,4,5] rfl rfl rfl ?_ ?_,i + 1,nxI b c,L,false,rfl,by omega,by omega,hI,rfl⟩
     ·simp only [ssT,zah,zai,setSlot,gOf,AV.ren,renL,Blk.ren,Ax.look,Ax.put,reduceCtorEq,↓reduceIte,Nat.reduceEqDiff,Nat.reduceLT,Nat.reduceAdd,List.length_append,List.length_cons,List.length_nil,Option.some.injEq]; try simp
     ·simp only [ssT,zah,zai,setSlot,gOf,AV.ren,renL,Blk.ren,Ax.look,Ax.put,reduceCtorEq,↓reduceIte,Nat.reduceEqDiff,Nat.reduceLT,Nat.reduceAdd,List.length_append,List.length_cons,List.length_nil,Option.some.injEq,zfc]; try simp
    ·have hA : apA n l ⟨b,c,p,e,s,rs⟩ = .tup [.agg [.w (.int .i64 0),.sg 4 [] true],.w (.int .i64 (apE n l ⟨b,c,p,e,s,rs⟩))] := if_neg h0
     rw [if_neg h0] at hI
     have d5 : decide (apE n l ⟨b,c,p,e,s,rs⟩ = 0) = false := decide_eq_false h0
     obtain ⟨C,hC⟩ : ∃ C,apE n l ⟨b,c,p,e,s,rs⟩ = C := ⟨_,rfl⟩
     rw [hC] at hI hA d5
     simp only [hA] at hap
     subst hI
     simp only [go_sem,zab,↓reduceIte,lcT,ty,zqp,zwb,hlp,d4,d5,hs1,e1,hcl,hap,hl9,hr9,hxl,hxr,zan,vwA,List.map_nil,Int.toNat_natCast]
     repeat (first | refine And.intro (by omega) ?_ | refine And.intro ⟨by omega,by omega⟩ ?_)
     refine ⟨_,Weak.refl _,?_⟩
     simp only [go_sem,zab,↓reduceIte,lcT,ty,zqp,zwb]
     try (refine ⟨_,Weak.refl _,?_⟩; simp only [go_sem,zab,↓reduceIte,lcT,ty,zqp,zwb])
   ·have d4 : decide ((i : Int) < es.length) = false := decide_eq_false (by omega)
    have hdr : es.drop i = [] := List.drop_eq_nil_of_le (by omega)
    rw [hdr] at hI
    have hI : vwA n l fl 0 = X := hI
    subst hI
    simp only [go_sem,zab,↓reduceIte,lcT,ty,zqp,zwb,hlp,d4,vwA]
    refine ⟨_,Weak.refl _,?_⟩
    simp only [go_sem,zab,↓reduceIte,lcT,ty,zqp,zwb,zan]
    try (refine ⟨_,Weak.refl _,?_⟩; simp only [go_sem,zab,↓reduceIte,lcT,ty,zqp,zan])
 ·exact hp.elim
set_option maxHeartbeats 16000000 in
theorem ygk : zbb Try.prog 13 (bldS dcE dcV) := by
 refine zcp (S := zqq) (T := ty) (pl := zwc) mixed ty_ok yon Try.func13 (c := Try.f13.body.getD .skip) (by kernel_rfl) (by kernel_rfl) (fun xs pins hp _ => ?_)
 unfold bldS at hp ⊢
 split at hp
 ·rename_i xs f _
  obtain ⟨hL,es,rfl,he⟩ := hp
  rw [List.length_map] at hL
  have hlp : (es.map bvp).length = es.length := by simp
  have ht : top = 4294967296 := rfl
  rw [zdx]
  refine ⟨by simp,?_⟩
  obtain ⟨X,hX⟩ : ∃ X,bldG dcE dcV (es.map Prod.fst) 0 [] true = X := ⟨_,rfl⟩
  rw [hX]
  unfold Try.f13
  simp only [go_sem,zab,↓reduceIte,lcT,ty,zqq,zwc,hlp]
  refine zcg ⟨fun m σ => ∃ (i : Nat) (n : Int) (l : List VR) (fl : Bool),m = es.length - i ∧ i ≤ es.length ∧ l.length ≤ 40 * i ∧ bldG dcE dcV ((es.drop i).map Prod.fst) n l fl = X ∧
    σ = ⟨[.sg 6 (es.map bvp) f,.junk,.rf 4 2 0 0,.junk,.rf 5 2 0 0,.w (.int .i64 i),.junk,.junk,.junk,.junk,.junk,.junk,.junk,.junk,.junk,.junk,.junk,.junk,.junk,.junk,.junk,.junk,.junk,.junk,.junk,.junk,.junk,.junk,.junk],[(4,.g 2 [.agg [.w (.int .i64 0),.sg 4 [] true]]),(5,.g 2 [.agg [.w (.int .i64 n),.sg 4 (l.map vrA) fl]])],6⟩,?_,?_⟩
  ·refine ⟨_,_,zaf [0,1,2,3,4,20] rfl rfl rfl ?_ ?_,0,0,[],true,rfl,by omega,by simp,by rw [List.drop_zero]; exact hX,rfl⟩
   ·simp only [ssT,zah,zai,setSlot,gOf,AV.ren,renL,Blk.ren,Ax.look,Ax.put,reduceCtorEq,↓reduceIte,Nat.reduceEqDiff,Nat.reduceLT,Nat.reduceAdd,List.length_append,List.length_cons,List.length_nil,Option.some.injEq]; try simp
   ·simp only [ssT,zah,zai,setSlot,gOf,AV.ren,renL,Blk.ren,Ax.look,Ax.put,reduceCtorEq,↓reduceIte,Nat.reduceEqDiff,Nat.reduceLT,Nat.reduceAdd,List.length_append,List.length_cons,List.length_nil,Option.some.injEq]; try simp [renL]
  ·rintro m σ ⟨i,n,l,fl,rfl,hi,hl,hI,rfl⟩
   have e1 : ((i : Int) + 1 + 9223372036854775808) % 18446744073709551616 - 9223372036854775808 = ((i + 1 : Nat) : Int) := by omega
   by_cases hil : i < es.length
   ·have d4 : decide ((i : Int) < es.length) = true := decide_eq_true (by omega)
    have hs1 := zno es i hil
    have m1 := he es[i] (List.getElem_mem hil)
    have hdr : es.drop i = es[i] :: es.drop (i + 1) := List.drop_eq_getElem_cons hil
    obtain ⟨P,hP⟩ : ∃ P,es[i] = P := ⟨_,rfl⟩
    rw [hP] at hs1 m1 hdr
    rw [hdr,List.map_cons] at hI
    obtain ⟨⟨b,c,p,e,s,rs⟩,f'⟩ := P
    have hs1 : slot (es.map bvp) i = .agg [.w (.int .i64 b),.w (.int .i64 c),.w (.int .i64 p),.w (.int .i64 e),.w (.int .i64 s),.sg 6 (rs.map rv) f'] := hs1
    simp only at m1
    have hcl : ∀ f,coe ty 22 (.sg 4 (l.map vrA) f) = .sg 4 (l.map vrA) f := fun f => by cases l <;> rfl
    have hlq : (l.map vrA).length = l.length := by simp
    have hlr : (rs.map rv).length = rs.length := by simp
    have hxl : ∃ q : List VR,l.map vrA = q.map vrA := ⟨l,rfl⟩
    have hxr : ∃ q : List Rec,rs.map rv = q.map rv := ⟨rs,rfl⟩
    have hl9 : l.length ≤ 900000 := by omega
    have hr9 : rs.length ≤ 40 := by omega
    have hLn := ynp l b rs
    unfold bldG at hI
    have hap : ∀ f0,rapS [.agg [.w (.int .i64 n),.sg 4 (l.map vrA) fl],.agg [.w (.int .i64 b),.w (.int .i64 c),.w (.int .i64 p),.w (.int .i64 e),.w (.int .i64 s),.sg 6 (rs.map rv) f0]] [] = ⟨l.length ≤ 900000 ∧ rs.length ≤ 40 ∧ (∃ q : List VR,l.map vrA = q.map vrA) ∧ ∃ q : List Rec,rs.map rv = q.map rv,dcA n l fl ⟨b,c,p,e,s,rs⟩,[]⟩ := fun f0 => by
     show (⟨(l.map vrA).length ≤ 900000 ∧ (rs.map rv).length ≤ 40 ∧ (∃ q : List VR,l.map vrA = q.map vrA) ∧ ∃ q : List Rec,rs.map rv = q.map rv,dcA n ((l.map vrA).map uvr) fl ⟨b,c,p,e,s,(rs.map rv).map rrec⟩,[]⟩ : Res) = _
     rw [zau,zam,hlq,hlr]
    by_cases h0 : dcE n l ⟨b,c,p,e,s,rs⟩ = 0
    ·have hA : dcA n l fl ⟨b,c,p,e,s,rs⟩ = .tup [.agg [.w (.int .i64 (nxI b c)),.sg 4 ((dcV l b rs).map vrA) false],.w (.int .i64 0)] := if_pos h0
     rw [if_pos h0] at hI
     obtain ⟨L,hLL⟩ : ∃ L,dcV l b rs = L := ⟨_,rfl⟩
     simp only [hLL] at hI hA hLn
     simp only [hA] at hap
     simp only [go_sem,zab,↓reduceIte,lcT,ty,zqq,zwc,hlp,d4,hs1,e1,hcl,hap,hl9,hr9,hxl,hxr,zan,Int.toNat_natCast]
     repeat (first | refine And.intro (by omega) ?_ | refine And.intro ⟨by omega,by omega⟩ ?_)
     refine ⟨es.length - (i + 1),_,by omega,zaf [0,1,2,3,4,5] rfl rfl rfl ?_ ?_,i + 1,nxI b c,L,false,rfl,by omega,by omega,hI,rfl⟩
     ·simp only [ssT,zah,zai,setSlot,gOf,AV.ren,renL,Blk.ren,Ax.look,Ax.put,reduceCtorEq,↓reduceIte,Nat.reduceEqDiff,Nat.reduceLT,Nat.reduceAdd,List.length_append,List.length_cons,List.length_nil,Option.some.injEq]; try simp
     ·simp only [ssT,zah,zai,setSlot,gOf,AV.ren,renL,Blk.ren,Ax.look,Ax.put,reduceCtorEq,↓reduceIte,Nat.reduceEqDiff,Nat.reduceLT,Nat.reduceAdd,List.length_append,List.length_cons,List.length_nil,Option.some.injEq,zfc]; try simp
    ·have hA : dcA n l fl ⟨b,c,p,e,s,rs⟩ = .tup [.agg [.w (.int .i64 n),.sg 4 (l.map vrA) fl],.w (.int .i64 (dcE n l ⟨b,c,p,e,s,rs⟩))] := if_neg h0
     rw [if_neg h0] at hI
     have d5 : decide (dcE n l ⟨b,c,p,e,s,rs⟩ = 0) = false := decide_eq_false h0
     obtain ⟨C,hC⟩ : ∃ C,dcE n l ⟨b,c,p,e,s,rs⟩ = C := ⟨_,rfl⟩
     rw [hC] at hI hA d5
     simp only [hA] at hap
     subst hI
     simp only [go_sem,zab,↓reduceIte,lcT,ty,zqq,zwc,hlp,d4,d5,hs1,e1,hcl,hap,hl9,hr9,hxl,hxr,zan,vwA,List.map_nil,Int.toNat_natCast]
     repeat (first | refine And.intro (by omega) ?_ | refine And.intro ⟨by omega,by omega⟩ ?_)
     refine ⟨_,Weak.refl _,?_⟩
     simp only [go_sem,zab,↓reduceIte,lcT,ty,zqq,zwc]
     try (refine ⟨_,Weak.refl _,?_⟩; simp only [go_sem,zab,↓reduceIte,lcT,ty,zqq,zwc])
   ·have d4 : decide ((i : Int) < es.length) = false := decide_eq_false (by omega)
    have hdr : es.drop i = [] := List.drop_eq_nil_of_le (by omega)
    rw [hdr] at hI
    have hI : vwA n l fl 0 = X := hI
    subst hI
    simp only [go_sem,zab,↓reduceIte,lcT,ty,zqq,zwc,hlp,d4,vwA]
    refine ⟨_,Weak.refl _,?_⟩
    simp only [go_sem,zab,↓reduceIte,lcT,ty,zqq,zwc,zan]
    try (refine ⟨_,Weak.refl _,?_⟩; simp only [go_sem,zab,↓reduceIte,lcT,ty,zqq,zan])
 ·exact hp.elim
end
end Go.Proofs.Ytebacgkeoefnkaa
namespace Go.Proofs.Ytebacgkeoefnkaa
open Ax
def srtR (l : List VR) : Prop := l.Pairwise fun x y => x.k < y.k
theorem zva (key : List UInt8) : ∀ W : List VR,srtR W →
  W.take (wiN key W) = W.filter (fun r => decide (r.k < key)) ∧ W.drop (wiN key W) = W.filter (fun r => !decide (r.k < key))
 | [],_ => ⟨rfl,rfl⟩
 | x :: W,h => by
  have h2 := List.pairwise_cons.1 h
  by_cases hx : x.k < key
  ·have hb : Op.bytesLess x.k key = true := by rw [bytesLess_eq]; exact decide_eq_true hx
   have hc : wiN key (x :: W) = wiN key W + 1 := by unfold wiN; rw [List.countP_cons,if_pos hb]
   obtain ⟨i1,i2⟩ := zva key W h2.2
   rw [hc,List.take_succ_cons,List.drop_succ_cons,i1,i2]
   simp [hx]
  ·have hall : ∀ y ∈ W,¬ y.k < key := fun y hy hlt => hx (List.lt_trans (h2.1 y hy) hlt)
   have hc : wiN key (x :: W) = 0 := by
    unfold wiN
    rw [List.countP_eq_zero]
    intro y hy hb
    rw [bytesLess_eq] at hb
    have hb := of_decide_eq_true hb
    rcases List.mem_cons.1 hy with rfl | hy
    ·exact hx hb
    ·exact hall y hy hb
   rw [hc,List.take_zero,List.drop_zero]
   constructor
   ·symm; rw [List.filter_eq_nil_iff]
    intro y hy hd
    have hd := of_decide_eq_true hd
    rcases List.mem_cons.1 hy with rfl | hy
    ·exact hx hd
    ·exact hall y hy hd
   ·symm; rw [List.filter_eq_self]
    intro y hy
    rcases List.mem_cons.1 hy with rfl | hy
    ·simp [hx]
    ·simp [hall y hy]
theorem yph (key : List UInt8) (l : List VR) : wiN key (wiL key l) = wiN key l := by
 unfold wiN wiL
 rw [List.countP_filter]
 refine List.countP_congr fun r _ => ?_
 rw [bytesLess_eq]
 simp only [Bool.and_eq_true,decide_eq_true_eq]
 exact ⟨fun h => h.1,fun h => ⟨h,fun e => by rw [e] at h; exact List.lt_irrefl _ h⟩⟩
theorem ymr (b : Int) {l : List VR} (r : Rec) (hs : srtR l) (hk : r.k = true) (hd : ¬ r.dd = true) :
  srtR (oneV b l r) ∧ ∀ x,x ∈ oneV b l r ↔ (x ∈ l ∧ ¬ x.k = r.key) ∨ x = rowR b r := by
 have hW : srtR (wiL r.key l) := hs.sublist List.filter_sublist
 obtain ⟨h1,h2⟩ := zva r.key _ hW
 rw [yph] at h1 h2
 have hmW : ∀ x,x ∈ wiL r.key l ↔ x ∈ l ∧ ¬ x.k = r.key := fun x => by unfold wiL; rw [List.mem_filter,decide_eq_true_eq]
 unfold oneV
 rw [if_pos hk,if_neg hd,h1,h2]
 refine ⟨?_,fun x => ?_⟩
 ·refine List.pairwise_append.2 ⟨hW.sublist List.filter_sublist,List.pairwise_cons.2 ⟨fun y hy => ?_,hW.sublist List.filter_sublist⟩,fun x hx y hy => ?_⟩
  ·obtain ⟨hy1,hy2⟩ := List.mem_filter.1 hy
   have hne := ((hmW y).1 hy1).2
   have hnl : ¬ y.k < r.key := by simpa using hy2
   show r.key < y.k
   rcases List.le_total r.key y.k with h | h
   ·exact Decidable.byContradiction fun hc => hne (List.le_antisymm (List.not_lt.1 hc) h)
   ·exact absurd (List.le_antisymm h (List.not_lt.1 hnl)) hne
  ·obtain ⟨hx1,hx2⟩ := List.mem_filter.1 hx
   have hxl := of_decide_eq_true hx2
   rcases List.mem_cons.1 hy with rfl | hy
   ·exact hxl
   ·obtain ⟨hy1,hy2⟩ := List.mem_filter.1 hy
    have hnl : ¬ y.k < r.key := by simpa using hy2
    exact Decidable.byContradiction fun hc => hnl (List.lt_of_le_of_lt (List.not_lt.1 hc) hxl)
 ·rw [List.mem_append,List.mem_cons,List.mem_filter,List.mem_filter,← hmW]
  constructor
  ·rintro (h | rfl | h)
   ·exact .inl h.1
   ·exact .inr rfl
   ·exact .inl h.1
  ·rintro (h | rfl)
   ·by_cases hl : x.k < r.key
    ·exact .inl ⟨h,decide_eq_true hl⟩
    ·exact .inr (.inr ⟨h,by simp [hl]⟩)
   ·exact .inr (.inl rfl)
theorem ypc (l : List VR) (b : Int) (rs : List Rec) (hs : srtR l) : ∀ i,i ≤ rs.length →
  srtR (dcV l b (rs.take i)) ∧ ∀ x,x ∈ dcV l b (rs.take i) ↔ (x ∈ l ∧ (rs.take i).countP (zhr x.k) = 0) ∨ x ∈ mdV b (rs.take i)
 | 0,_ => ⟨by rw [List.take_zero]; exact hs,fun x => by rw [List.take_zero]; simp [dcV,mdV]⟩
 | i + 1,hi => by
  obtain ⟨i1,i2⟩ := ypc l b rs hs i (by omega)
  have htk : rs.take (i + 1) = rs.take i ++ [rs[i]] := List.take_succ_eq_append_getElem (by omega)
  rw [htk]
  obtain ⟨p,hp⟩ : ∃ p,rs.take i = p := ⟨_,rfl⟩
  obtain ⟨r,hr⟩ : ∃ r,rs[i] = r := ⟨_,rfl⟩
  rw [hp] at i1 i2 ⊢
  rw [hr]
  have e1 : dcV l b (p ++ [r]) = oneV b (dcV l b p) r := by unfold dcV; rw [List.foldl_append]; rfl
  have e2 : mdV b (p ++ [r]) = mdK b (mdV b p) r := by unfold mdV; rw [List.foldl_append]; rfl
  have e3 : ∀ k,(p ++ [r]).countP (zhr k) = p.countP (zhr k) + if zhr k r = true then 1 else 0 := fun k => by rw [List.countP_append,List.countP_singleton]
  have ho : ztq (mdV b p) := (zzw b p [] List.nodup_nil).1
  rw [e1,e2]
  by_cases hk : r.k = true
  ·have hz : ∀ x : VR,(p ++ [r]).countP (zhr x.k) = 0 ↔ p.countP (zhr x.k) = 0 ∧ ¬ x.k = r.key := fun x => by
    rw [e3]
    unfold zhr
    rw [hk]
    by_cases e : r.key = x.k
    ·simp [e]
    ·have e' : ¬ x.k = r.key := fun h => e h.symm
     simp [e,e']
   by_cases hd : r.dd = true
   ·have a1 : oneV b (dcV l b p) r = wiL r.key (dcV l b p) := by unfold oneV; rw [if_pos hk,if_pos hd]
    have a2 : mdK b (mdV b p) r = ctR (mdV b p) r.key := by unfold mdK; rw [if_pos hk,if_pos hd]
    rw [a1,a2]
    refine ⟨i1.sublist List.filter_sublist,fun x => ?_⟩
    rw [hz,(zue _ r.key ho).2 x]
    unfold wiL
    rw [List.mem_filter,decide_eq_true_eq,i2]
    constructor
    ·rintro ⟨h1 | h1,h2⟩
     ·exact .inl ⟨h1.1,h1.2,h2⟩
     ·exact .inr ⟨h1,h2⟩
    ·rintro (⟨h1,h2,h3⟩ | ⟨h1,h2⟩)
     ·exact ⟨.inl ⟨h1,h2⟩,h3⟩
     ·exact ⟨.inr h1,h2⟩
   ·obtain ⟨o1,o2⟩ := ymr b r i1 hk hd
    have a2 : mdK b (mdV b p) r = ptR (mdV b p) (rowR b r) := by unfold mdK; rw [if_pos hk,if_neg hd]
    rw [a2]
    refine ⟨o1,fun x => ?_⟩
    rw [hz,(ztp _ (rowR b r) ho).2 x,o2,i2]
    have er : (rowR b r).k = r.key := rfl
    rw [er]
    constructor
    ·rintro (⟨h1 | h1,h2⟩ | h1)
     ·exact .inl ⟨h1.1,h1.2,h2⟩
     ·exact .inr (.inl ⟨h1,h2⟩)
     ·exact .inr (.inr h1)
    ·rintro (⟨h1,h2,h3⟩ | ⟨h1,h2⟩ | h1)
     ·exact .inl ⟨.inl ⟨h1,h2⟩,h3⟩
     ·exact .inl ⟨.inr h1,h2⟩
     ·exact .inr h1
  ·have hz : ∀ x : VR,(p ++ [r]).countP (zhr x.k) = p.countP (zhr x.k) := fun x => by
    rw [e3]; unfold zhr; simp [hk]
   have a1 : oneV b (dcV l b p) r = dcV l b p := by unfold oneV; rw [if_neg hk]
   have a2 : mdK b (mdV b p) r = mdV b p := by unfold mdK; rw [if_neg hk]
   rw [a1,a2]
   refine ⟨i1,fun x => ?_⟩
   rw [hz]; exact i2 x
theorem yqr {n : Int} {l : List VR} (h : chV n l = 0) : srtR l := by
 unfold chV at h
 by_cases h0 : n < 0 ∨ 4611686018427387903 < n ∨ 4096 < l.length
 ·rw [if_pos h0] at h; cases h
 ·rw [if_neg h0] at h
  by_cases h1 : badV n l = 0
  ·rw [if_pos h1] at h
   by_cases h2 : risV l = true
   ·exact yhr l h2
   ·rw [if_neg h2] at h; cases h
  ·rw [if_neg h1] at h; exact absurd h h1
theorem yqi {n : Int} {l : List VR} (h : chV n l = 0) (b : Int) (rs : List Rec) : dcV l b rs = srA l b rs := by
 have hs := yqr h
 obtain ⟨h1,h2⟩ := ypc l b rs hs rs.length (Nat.le_refl _)
 rw [List.take_length] at h1 h2
 have hna : (zjd (allV l b rs)).Nodup := ycd (b := b) (rs := rs) h
 have hmem : ∀ x,x ∈ allV l b rs ↔ (x ∈ l ∧ rs.countP (zhr x.k) = 0) ∨ x ∈ mdV b rs := fun x => by
  unfold allV kpV
  rw [List.mem_append,List.mem_filter,decide_eq_true_eq,zxq]
  constructor
  ·rintro (⟨h3,h4⟩ | h3)
   ·exact .inl ⟨h3,by omega⟩
   ·exact .inr h3
  ·rintro (⟨h3,h4⟩ | h3)
   ·exact .inl ⟨h3,by omega⟩
   ·exact .inr h3
 have nd1 : (allV l b rs).Nodup := List.Pairwise.of_map (fun r : VR => r.k) (fun x y hxy e => hxy (by rw [e])) hna
 have nd2 : (dcV l b rs).Nodup := h1.imp fun {x y} hxy e => by rw [e] at hxy; exact List.lt_irrefl _ hxy
 have hp : (dcV l b rs).Perm (allV l b rs) := (List.perm_ext_iff_of_nodup nd2 nd1).2 fun x => (h2 x).trans (hmem x).symm
 exact zob hna hp (h1.imp fun {x y} hxy hyx => List.lt_irrefl _ (List.lt_trans hxy hyx))
theorem ysf {n : Int} {l : List VR} (h : chV n l = 0) (b : Int) (rs : List Rec) : (dcV l b rs).length = (allV l b rs).length := by
 rw [yqi h]; unfold srA; exact zbq _
theorem yaq (n : Int) (l : List VR) (x : Bat) : dcE n l x = apE n l x := by
 unfold dcE apE
 by_cases h : chV n l = 0
 ·rw [if_pos h,if_pos h,ysf h]
 ·rw [if_neg h,if_neg h]
theorem ype {n : Int} {l : List VR} {x : Bat} (h : apE n l x = 0) : chV n l = 0 := by
 unfold apE at h
 by_cases h0 : chV n l = 0
 ·exact h0
 ·rw [if_neg h0] at h; exact absurd h h0
theorem ydv : ∀ (xs : List Bat) (n : Int) (l : List VR) (f : Bool),bldG dcE dcV xs n l f = bldG apE srA xs n l f
 | [],n,l,f => rfl
 | x :: xs,n,l,f => by
  unfold bldG
  rw [yaq]
  by_cases h : apE n l x = 0
  ·rw [if_pos h,if_pos h,yqi (ype h),ydv xs]
  ·rw [if_neg h,if_neg h]
theorem ydw (E : Int → List VR → Bat → Int) (A : List VR → Int → List Rec → List VR) (hA : ∀ l b rs,(A l b rs).length ≤ l.length + rs.length) : ∀ (xs : List Bat) (n : Int) (l : List VR) (f : Bool),(∀ x ∈ xs,x.rs.length ≤ 40) →
  ∃ (m : Int) (k : List VR) (g : Bool) (e : Int),bldG E A xs n l f = vwA m k g e ∧ k.length ≤ l.length + 40 * xs.length
 | [],n,l,f,_ => ⟨n,l,f,0,rfl,by omega⟩
 | x :: xs,n,l,f,h => by
  unfold bldG
  by_cases h0 : E n l x = 0
  ·rw [if_pos h0]
   obtain ⟨m,k,g,e,h1,h2⟩ := ydw E A hA xs (nxI x.b x.c) (A l x.b x.rs) false fun y hy => h y (List.mem_cons_of_mem _ hy)
   refine ⟨m,k,g,e,h1,?_⟩
   have h3 := hA l x.b x.rs
   have h4 := h x (List.mem_cons_self ..)
   rw [List.length_cons]; omega
  ·rw [if_neg h0]
   exact ⟨0,[],true,_,rfl,by simp⟩
end Go.Proofs.Ytebacgkeoefnkaa
namespace Go.Proofs.Ytebacgkeoefnkaa
open Ax
def zvw : zaw
 | [.agg [.w (.int .i64 n),.sg 4 xs f]],[] => ⟨xs.length ≤ 1000000 ∧ ∃ l : List VR,xs = l.map vrA,.agg [.w (.int .i64 n),.sg 4 xs false],[]⟩
 | _,_ => zcm
def zou : Plan := fun id => match id with
 | 5 => some []
 | _ => none
section
set_option maxRecDepth 100000
set_option maxHeartbeats 4000000 in
theorem zzr : zbb Try.prog 9 zvw := by
 refine zcp (S := noS) (T := ty) (pl := zou) mixed ty_ok zdk Try.func9 (c := Try.f9.body.getD .skip) (by kernel_rfl) (by kernel_rfl) (fun xs pins hp _ => ?_)
 unfold zvw at hp ⊢
 split at hp
 ·rename_i n xs f _
  obtain ⟨hL,l,rfl⟩ := hp
  rw [List.length_map] at hL
  have hle : (l.map vrA).length = l.length := by simp
  have ht : top = 4294967296 := rfl
  refine ⟨by simp,?_⟩
  unfold Try.f9
  simp only [go_sem,zab,↓reduceIte,lcT,ty,noS,zou,hle,fillS]
  refine zcg ⟨fun m σ => ∃ i : Nat,m = l.length - i ∧ i ≤ l.length ∧
   σ = ⟨[.agg [.w (.int .i64 n),.sg 4 (l.map vrA) f],.rf 4 2 0 0,.rf 5 2 0 0,.rf 6 2 0 0,.w (.int .i64 i),.junk,.junk,.junk,.junk,.junk,.junk,.junk,.junk,.junk,.junk,.junk,.junk,.junk,.junk,.junk,.junk,.junk,.junk,.junk,.junk,.junk],[(4,.g 2 [.agg [.w (.int .i64 n),.sg 4 (l.map vrA) f]]),(5,.g 2 [.agg [.w (.int .i64 0),.sg 4 [] true]]),(6,.g 2 [.agg [.w (.int .i64 n),.ms 7 4 0 i]]),(7,.g 4 ((l.take i).map vrA))],8⟩,?_,?_⟩
  ·refine ⟨_,_,(yha 44 2 1 4 [.w (.int .i64 n),.sg 4 [] true] rfl (by simp) (by exact trivial) (by decide)).trans (zaf [0,1,2,3,4,12,44,68] rfl rfl rfl ?_ ?_),0,rfl,by omega,rfl⟩
   ·simp only [ssT,zah,zai,setSlot,gOf,AV.ren,renL,Blk.ren,Ax.look,Ax.put,reduceCtorEq,↓reduceIte,Nat.reduceEqDiff,Nat.reduceLT,Nat.reduceAdd,List.length_append,List.length_cons,List.length_nil,Option.some.injEq]; try simp
   ·simp only [ssT,zah,zai,setSlot,gOf,AV.ren,renL,Blk.ren,Ax.look,Ax.put,reduceCtorEq,↓reduceIte,Nat.reduceEqDiff,Nat.reduceLT,Nat.reduceAdd,List.length_append,List.length_cons,List.length_nil,Option.some.injEq]; try simp [renL]
  ·rintro m σ ⟨i,rfl,hi,rfl⟩
   have hml : ((l.take i).map vrA).length = i := by simp; omega
   by_cases hil : i < l.length
   ·have d2 : decide ((i : Int) < l.length) = true := decide_eq_true (by omega)
    have e1 : ((i : Int) + 1 + 9223372036854775808) % 18446744073709551616 - 9223372036854775808 = ((i + 1 : Nat) : Int) := by omega
    have hs1 := zdb l i hil
    have htk : l.take (i + 1) = l.take i ++ [l[i]] := List.take_succ_eq_append_getElem hil
    obtain ⟨r,hr⟩ : ∃ r,l[i] = r := ⟨_,rfl⟩
    rw [hr] at hs1 htk
    obtain ⟨k,v,o,t⟩ := r
    have hs1 : slot (l.map vrA) i = .agg [.str k,.str v,.w (.int .i64 o),.w (.int .i64 t)] := hs1
    have hat : (l.take i).map vrA ++ [.agg [.str k,.str v,.w (.int .i64 o),.w (.int .i64 t)]] = (l.take (i + 1)).map vrA := by rw [htk,List.map_append]; rfl
    simp only [go_sem,zab,↓reduceIte,lcT,ty,noS,zou,hle,hml,d2,hs1,e1,Int.toNat_natCast,yix,hat]
    repeat (refine And.intro (by first | omega | decide) ?_)
    refine ⟨l.length - (i + 1),_,by omega,zaf [0,1,2,3,4,5,6,112] rfl rfl rfl ?_ ?_,i + 1,rfl,by omega,rfl⟩
    ·simp only [ssT,zah,zai,setSlot,gOf,AV.ren,renL,Blk.ren,Ax.look,Ax.put,reduceCtorEq,↓reduceIte,Nat.reduceEqDiff,Nat.reduceLT,Nat.reduceAdd,List.length_append,List.length_cons,List.length_nil,Option.some.injEq]; try simp
    ·simp only [ssT,zah,zai,setSlot,gOf,AV.ren,renL,Blk.ren,Ax.look,Ax.put,reduceCtorEq,↓reduceIte,Nat.reduceEqDiff,Nat.reduceLT,Nat.reduceAdd,List.length_append,List.length_cons,List.length_nil,Option.some.injEq,zfc]; try simp
   ·have d2 : decide ((i : Int) < l.length) = false := decide_eq_false (by omega)
    have hii : l.take i = l := List.take_of_length_le (by omega)
    rw [hii] at hml ⊢
    have hdle : decide (0 + i ≤ (l.map vrA).length) = true := decide_eq_true (by omega)
    have htk : (l.map vrA).take i = l.map vrA := List.take_of_length_le (by omega)
    simp only [go_sem,zab,↓reduceIte,lcT,ty,noS,zou,hle,d2]
    refine ⟨_,ztd 7 4 3 6 (l.map vrA) _ rfl (zan l) rfl (by simp [slot,AV.ids]) (by simp [Blk.idsB,Blk.closed,closedL,AV.closed,idsL,AV.ids]),?_⟩
    simp only [fgL,fgH,AV.fg,Blk.fg,Nat.reduceBEq,cond_true,cond_false,hdle,Bool.and_true,beq_self_eq_true,Bool.true_and,List.drop_zero,htk]
    simp only [go_sem,zab,↓reduceIte,lcT,ty,noS,zou]
    refine ⟨_,Weak.refl _,?_⟩
    simp only [go_sem,zab,↓reduceIte,lcT,ty,noS]
 ·exact hp.elim
end
end Go.Proofs.Ytebacgkeoefnkaa
namespace Go.Proofs.Ytebacgkeoefnkaa
open Ax
def yoi : zaw
 | [.sg 4 xs f],[] => ⟨xs.length ≤ 1000000 ∧ ∃ l : List VR,xs = l.map vrA,.sg 4 xs false,[]⟩
 | _,_ => zcm
def zqf : zaw
 | [.agg [.w (.int .i64 n),.sg 4 xs f]],[] => ⟨xs.length ≤ 1000000 ∧ ∃ l : List VR,xs = l.map vrA,.agg [.w (.int .i64 n),.sg 4 xs false],[]⟩
 | _,_ => zcm
theorem zvf (id s : Nat) (zs : List AV) : ∀ (sl : List AV) (i : Nat),slot (fgL id s zs sl) i = (slot sl i).fg id s zs
 | [],i => rfl
 | x :: sl,0 => rfl
 | x :: sl,i + 1 => zvf id s zs sl i
theorem yqf {T : zac} {sl : List AV} {H : Heap} {nx id n s : Nat} {ws rs : List AV} {q : Prop} (i : Nat) (h2 : slot sl i = .ms id s 0 n) (hl : Ax.look H id = some (.g s ws)) (hc : closedL ws = true) (hn : n = ws.length) (hr : rs = ws) :
  zrh T [.tmp i] [] ⟨q,.sg s rs false,[]⟩ .ret ⟨sl,H,nx⟩ := by
 subst hn hr
 have hs : slot (fgL id s rs sl) i = .sg s rs false := by
  rw [zvf,h2]
  simp [AV.fg]
 refine ⟨_,znz id s i rs hl hc (by rw [h2]; simp [AV.ids]),?_⟩
 simp only [Ax.Ends,Ax.rvals,EndsX,rone,hs,AV.ids,idsL,newIds,upTo,nodup,pinsOf,List.nil_append,AV.ren,renL,and_self]
section
set_option maxRecDepth 100000
set_option maxHeartbeats 4000000 in
theorem ygo : zbb Try.prog 38 yoi := by
 refine zfl (S := noS) (T := ty) mixed ty_ok zdk Try.func38 (c := Try.f38.body.getD .skip) (by kernel_rfl) (by kernel_rfl) (fun xs pins hp _ => ?_)
 unfold yoi at hp ⊢
 split at hp
 ·rename_i xs f _
  obtain ⟨hL,l,rfl⟩ := hp
  rw [List.length_map] at hL
  have hle : (l.map vrA).length = l.length := by simp
  have ht : top = 4294967296 := rfl
  refine ⟨by simp,?_⟩
  unfold Try.f38
  simp only [go_sem,zaa,↓reduceIte,ty,noS,hle]
  refine zqg ⟨fun m σ => ∃ i : Nat,m = l.length - i ∧ i ≤ l.length ∧
    σ = ⟨[.sg 4 (l.map vrA) f,.junk,.sg 1 [] true,.ms 4 4 0 i,.w (.int .i64 i),.junk,.junk,.junk,.junk,.junk,.junk,.junk,.junk,.junk,.junk,.junk,.junk,.junk,.junk],[(4,.g 4 ((l.take i).map vrA))],5⟩,?_,?_⟩
  ·refine ⟨_,_,(zgx 3 4 (.g 4 []) ⟨by decide,rfl⟩ (by exact trivial)).trans (zaf [0,1,2,3,28] rfl rfl rfl ?_ ?_),0,rfl,by omega,rfl⟩
   ·simp only [ssT,zah,zai,setSlot,gOf,AV.ren,renL,Blk.ren,Ax.look,Ax.put,reduceCtorEq,↓reduceIte,Nat.reduceEqDiff,Nat.reduceLT,Nat.reduceAdd,List.length_append,List.length_cons,List.length_nil,Option.some.injEq]; try simp
    try rfl
   ·simp only [ssT,zah,zai,setSlot,gOf,AV.ren,renL,Blk.ren,Ax.look,Ax.put,reduceCtorEq,↓reduceIte,Nat.reduceEqDiff,Nat.reduceLT,Nat.reduceAdd,List.length_append,List.length_cons,List.length_nil,Option.some.injEq]; try simp [renL]
  ·rintro m σ ⟨i,rfl,hi,rfl⟩
   have e1 : ((i : Int) + 1 + 9223372036854775808) % 18446744073709551616 - 9223372036854775808 = ((i + 1 : Nat) : Int) := by omega
   have hml : ((l.take i).map vrA).length = i := by simp; omega
   by_cases hil : i < l.length
   ·have d1 : decide ((i : Int) < l.length) = true := decide_eq_true (by omega)
    have hs1 := zdb l i hil
    have htk : l.take (i + 1) = l.take i ++ [l[i]] := List.take_succ_eq_append_getElem hil
    obtain ⟨r,hr⟩ : ∃ r,l[i] = r := ⟨_,rfl⟩
    rw [hr] at hs1 htk
    obtain ⟨k,v,o,t⟩ := r
    have hs1 : slot (l.map vrA) i = .agg [.str k,.str v,.w (.int .i64 o),.w (.int .i64 t)] := hs1
    have hat : (l.take i).map vrA ++ [.agg [.str k,.str v,.w (.int .i64 o),.w (.int .i64 t)]] = (l.take (i + 1)).map vrA := by rw [htk,List.map_append]; rfl
    simp only [go_sem,zaa,↓reduceIte,ty,noS,hle,hml,d1,hs1,e1,Int.toNat_natCast,hat]
    repeat (refine And.intro (by first | omega | decide) ?_)
    refine ⟨l.length - (i + 1),_,by omega,zaf [0,1,2,3,85] rfl rfl rfl ?_ ?_,i + 1,rfl,by omega,rfl⟩
    ·simp only [ssT,zah,zai,setSlot,gOf,AV.ren,renL,Blk.ren,Ax.look,Ax.put,reduceCtorEq,↓reduceIte,Nat.reduceEqDiff,Nat.reduceLT,Nat.reduceAdd,List.length_append,List.length_cons,List.length_nil,Option.some.injEq]; try simp
    ·simp only [ssT,zah,zai,setSlot,gOf,AV.ren,renL,Blk.ren,Ax.look,Ax.put,reduceCtorEq,↓reduceIte,Nat.reduceEqDiff,Nat.reduceLT,Nat.reduceAdd,List.length_append,List.length_cons,List.length_nil,Option.some.injEq,zfc]; try simp
   ·have d1 : decide ((i : Int) < l.length) = false := decide_eq_false (by omega)
    have hii : l.take i = l := List.take_of_length_le (by omega)
    rw [hii] at hml ⊢
    simp only [go_sem,zaa,↓reduceIte,ty,noS,hle,d1]
    refine ⟨_,Weak.refl _,?_⟩
    simp only [go_sem,zaa,↓reduceIte,ty,noS]
    exact yqf 2 rfl rfl (zan l) hml.symm rfl
 ·exact hp.elim
def zuu (f : FuncId) : Option zaw :=
 match f with
 | 38 => some yoi
 | _ => none
theorem ygv : Fns Try.prog zuu := by
 intro f s h
 unfold zuu at h
 split at h
 ·injection h with h; subst h; exact ⟨⟨_,Try.func38,by kernel_rfl,by kernel_rfl⟩,ygo⟩
 ·cases h
set_option maxHeartbeats 4000000 in
theorem zyj : zbb Try.prog 15 zqf := by
 refine zbd (S := zuu) (T := tyF) mixed yrn ygv Try.func15 (c := Try.f15.body.getD .skip) (by kernel_rfl) (by kernel_rfl) (fun xs pins hp _ => ?_)
 unfold zqf at hp ⊢
 split at hp
 ·rename_i n xs f _
  obtain ⟨hL,l,rfl⟩ := hp
  have hx : ∃ k : List VR,l.map vrA = k.map vrA := ⟨l,rfl⟩
  have hcl := zan l
  have hc : coe (zoh ty) 33 (.sg 4 (l.map vrA) f) = .sg 4 (l.map vrA) f := by cases l <;> rfl
  refine ⟨by simp,?_⟩
  unfold Try.f15
  simp only [go_sem,zaa,↓reduceIte,tyF,zoh,ty,zuu,yoi,hL,hx,hcl,hc]
 ·exact hp.elim
theorem ycu (k v : List UInt8) (o t : Int) (k' v' : List UInt8) (o' t' : Int) :
  (decide (k = k') && (decide (v = v') && (decide (o = o') && decide (t = t')))) = decide ((⟨k,v,o,t⟩ : VR) = ⟨k',v',o',t'⟩) := by
 simp only [VR.mk.injEq,Bool.decide_and]
def znq : zaw
 | [.sg 4 xs f,.sg 4 ys g],[] => ⟨xs.length ≤ 9223372036854775807 ∧ ys.length ≤ 9223372036854775807 ∧ (∃ l : List VR,xs = l.map vrA) ∧ ∃ k : List VR,ys = k.map vrA,.w (.bool (decide (xs.map uvr = ys.map uvr))),[]⟩
 | _,_ => zcm
def zoj : zaw
 | [.agg [.w (.int .i64 n),.sg 4 xs f],.agg [.w (.int .i64 m),.sg 4 ys g]],[] => ⟨xs.length ≤ 9223372036854775807 ∧ ys.length ≤ 9223372036854775807 ∧ (∃ l : List VR,xs = l.map vrA) ∧ ∃ k : List VR,ys = k.map vrA,.w (.bool (decide (n = m) && decide (xs.map uvr = ys.map uvr))),[]⟩
 | _,_ => zcm
def zef : Plan := fun id => match id with
 | 6 => some []
 | _ => none
theorem ymk {α : Type} {l k : List α} (h : l.length ≠ k.length) : ¬ l = k := fun e => h (by rw [e])
theorem yhm {l k : List VR} {i : Nat} (h1 : i < l.length) (h2 : i < k.length) : (l.drop i = k.drop i) = (l[i] = k[i] ∧ l.drop (i + 1) = k.drop (i + 1)) := by
 rw [List.drop_eq_getElem_cons h1,List.drop_eq_getElem_cons h2,List.cons.injEq]
set_option maxHeartbeats 4000000 in
theorem ztj : zbb Try.prog 37 znq := by
 refine zcp (S := noS) (T := ty) (pl := zef) mixed ty_ok zdk Try.func37 (c := Try.f37.body.getD .skip) (by kernel_rfl) (by kernel_rfl) (fun xs pins hp _ => ?_)
 unfold znq at hp ⊢
 split at hp
 ·rename_i xs f ys g _
  obtain ⟨hL,hK,⟨l,rfl⟩,k,rfl⟩ := hp
  rw [List.length_map] at hL hK
  have hle : (l.map vrA).length = l.length := by simp
  have hke : (k.map vrA).length = k.length := by simp
  rw [zau,zau]
  refine ⟨by simp,?_⟩
  unfold Try.f37
  by_cases hn : l.length = k.length
  ·have d1 : decide ((l.length : Int) = k.length) = true := decide_eq_true (by omega)
   simp only [go_sem,coe,zab,↓reduceIte,lcT,ty,noS,zef,hle,hke,d1]
   refine zcg ⟨fun m σ => ∃ i : Nat,m = l.length - i ∧ i ≤ l.length ∧ (l.drop i = k.drop i) = (l = k) ∧
    σ = ⟨[.sg 4 (l.map vrA) f,.sg 4 (k.map vrA) g,.junk,.junk,.junk,.w (.int .i64 i),.junk,.junk,.junk,.junk,.junk,.junk,.junk,.junk,.junk,.junk,.junk,.junk,.junk,.junk,.junk,.junk,.junk,.junk,.junk,.junk],[],4⟩,?_,?_⟩
   ·refine ⟨_,_,zaf [0,1,2,3] rfl rfl rfl ?_ ?_,0,rfl,by omega,rfl,rfl⟩
    ·simp only [ssT,zah,zai,setSlot,gOf,AV.ren,renL,Blk.ren,Ax.look,Ax.put,reduceCtorEq,↓reduceIte,Nat.reduceEqDiff,Nat.reduceLT,Nat.reduceAdd,List.length_append,List.length_cons,List.length_nil,Option.some.injEq]; try simp
    ·simp only [ssT,zah,zai,setSlot,gOf,AV.ren,renL,Blk.ren,Ax.look,Ax.put,reduceCtorEq,↓reduceIte,Nat.reduceEqDiff,Nat.reduceLT,Nat.reduceAdd,List.length_append,List.length_cons,List.length_nil,Option.some.injEq]
   ·rintro m σ ⟨i,rfl,hi,hs,rfl⟩
    by_cases hil : i < l.length
    ·have d2 : decide ((i : Int) < l.length) = true := decide_eq_true (by omega)
     have e1 : ((i : Int) + 1 + 9223372036854775808) % 18446744073709551616 - 9223372036854775808 = ((i + 1 : Nat) : Int) := by omega
     have hs1 := zdb l i hil
     have hs2 := zdb k i (by omega)
     have hd := yhm hil (show i < k.length by omega)
     rw [hs] at hd
     obtain ⟨a,ha⟩ : ∃ x,l[i] = x := ⟨_,rfl⟩
     obtain ⟨b,hb⟩ : ∃ x,k[i]'(by omega) = x := ⟨_,rfl⟩
     rw [ha] at hs1 hd
     rw [hb] at hs2 hd
     obtain ⟨k1,v1,o1,t1⟩ := a
     obtain ⟨k2,v2,o2,t2⟩ := b
     have hs1 : slot (l.map vrA) i = .agg [.str k1,.str v1,.w (.int .i64 o1),.w (.int .i64 t1)] := hs1
     have hs2 : slot (k.map vrA) i = .agg [.str k2,.str v2,.w (.int .i64 o2),.w (.int .i64 t2)] := hs2
     by_cases he : (⟨k1,v1,o1,t1⟩ : VR) = ⟨k2,v2,o2,t2⟩
     ·have d3 := decide_eq_true he
      simp only [he,true_and] at hd
      simp only [go_sem,coe,zab,↓reduceIte,lcT,ty,noS,zef,hle,hke,d2,e1,hs1,hs2,ycu,d3,Int.toNat_natCast]
      repeat (refine And.intro (by omega) ?_)
      refine ⟨l.length - (i + 1),_,by omega,zaf [0,1,2,3] rfl rfl rfl ?_ ?_,i + 1,rfl,by omega,hd.symm,rfl⟩
      ·simp only [ssT,zah,zai,setSlot,gOf,AV.ren,renL,Blk.ren,Ax.look,Ax.put,reduceCtorEq,↓reduceIte,Nat.reduceEqDiff,Nat.reduceLT,Nat.reduceAdd,List.length_append,List.length_cons,List.length_nil,Option.some.injEq]
      ·simp only [ssT,zah,zai,setSlot,gOf,AV.ren,renL,Blk.ren,Ax.look,Ax.put,reduceCtorEq,↓reduceIte,Nat.reduceEqDiff,Nat.reduceLT,Nat.reduceAdd,List.length_append,List.length_cons,List.length_nil,Option.some.injEq]
     ·have d3 := decide_eq_false he
      have hno : decide (l = k) = false := decide_eq_false (by rw [hd]; exact fun h => he h.1)
      rw [hno]
      simp only [go_sem,coe,zab,↓reduceIte,lcT,ty,noS,zef,hle,hke,d2,e1,hs1,hs2,ycu,d3,Int.toNat_natCast]
      repeat (refine And.intro (by omega) ?_)
      refine ⟨_,Weak.refl _,?_⟩
      simp only [go_sem,coe,zab,↓reduceIte,lcT,ty,noS,zef]
      exact zbe 4 rfl
    ·have d2 : decide ((i : Int) < l.length) = false := decide_eq_false (by omega)
     have : decide (l = k) = true := by
      refine decide_eq_true ?_
      rw [← hs,List.drop_of_length_le (by omega),List.drop_of_length_le (by omega)]
     rw [this]
     simp only [go_sem,coe,zab,↓reduceIte,lcT,ty,noS,zef,hle,hke,d2]
     refine ⟨_,Weak.refl _,?_⟩
     simp only [go_sem,coe,zab,↓reduceIte,lcT,ty,noS,zef]
     exact zbe 4 rfl
  ·have d1 : decide ((l.length : Int) = k.length) = false := decide_eq_false (by omega)
   rw [decide_eq_false (ymk hn)]
   simp only [go_sem,coe,zab,↓reduceIte,lcT,ty,noS,zef,hle,hke,d1]
   exact zbe 4 rfl
 ·exact hp.elim
def zut (f : FuncId) : Option zaw :=
 match f with
 | 37 => some znq
 | _ => none
theorem ygu : Fns Try.prog zut := by
 intro f s h
 unfold zut at h
 split at h
 ·injection h with h; subst h; exact ⟨⟨_,Try.func37,by kernel_rfl,by kernel_rfl⟩,ztj⟩
 ·cases h
set_option maxHeartbeats 4000000 in
theorem zvi : zbb Try.prog 14 zoj := by
 refine zfl (S := zut) (T := ty) mixed ty_ok ygu Try.func14 (c := Try.f14.body.getD .skip) (by kernel_rfl) (by kernel_rfl) (fun xs pins hp _ => ?_)
 unfold zoj at hp ⊢
 split at hp
 ·rename_i n xs f m ys g _
  obtain ⟨hL,hK,⟨l,rfl⟩,k,rfl⟩ := hp
  have hx : ∃ q : List VR,l.map vrA = q.map vrA := ⟨l,rfl⟩
  have hy : ∃ q : List VR,k.map vrA = q.map vrA := ⟨k,rfl⟩
  rw [zau,zau]
  refine ⟨by simp,?_⟩
  obtain ⟨D,hD⟩ : ∃ D,decide (l = k) = D := ⟨_,rfl⟩
  have hc : coe ty 22 (.sg 4 (l.map vrA) f) = .sg 4 (l.map vrA) f := by cases l <;> rfl
  have hd : coe ty 22 (.sg 4 (k.map vrA) g) = .sg 4 (k.map vrA) g := by cases k <;> rfl
  unfold Try.f14
  cases h : decide (n = m)
  all_goals
   simp only [go_sem,zaa,↓reduceIte,ty,zut,znq,hL,hK,hx,hy,zau,h,hD,hc,hd,Bool.true_and,Bool.false_and]
   exact zbe 4 rfl
 ·exact hp.elim
end
end Go.Proofs.Ytebacgkeoefnkaa
namespace Go.Proofs.Ytebacgkeoefnkaa
namespace Ax
abbrev Us := List (Nat × Option Blk)
def upd : Us → (Nat → Option Blk) → Nat → Option Blk
 | [],lk,id => lk id
 | (k,b) :: r,lk,id => if k = id then b else upd r lk id
def Told (o : Out) (lk : Nat → Option Blk) (r : Option (AV × Us)) : Prop := ∀ x us,r = some (x,us) → o.p ∧ o.x = x ∧ ∀ id,look o.H id = upd us lk id
section
variable {H : Heap} {lk : Nat → Option Blk} (hl : ∀ id,look H id = lk id)
def csub (ti : TyI) (ls : List AV) (f : Nat) : Option AV :=
 bif ti.d.aggr then (if f + ti.size ≤ ls.length then some (.agg ((ls.drop f).take ti.size)) else none) else (if f < ls.length then some (slot ls f) else none)
theorem zms {ti : TyI} {ls : List AV} {f : Nat} {x : AV} (h : csub ti ls f = some x) : (subv ti ls f H).p ∧ (subv ti ls f H).x = x ∧ (subv ti ls f H).H = H := by
 unfold csub at h
 unfold subv
 cases ha : ti.d.aggr <;> simp only [ha,cond_true,cond_false] at h ⊢ <;> split at h <;> simp_all
def ylb (T : zac) (t : TypeId) (x : AV) (lk : Nat → Option Blk) : Option (AV × Us) :=
 match T t with
 | none => none
 | some ti => match x with
  | .cp ls => (csub ti ls 0).map fun y => (y,[])
  | .rf id s i f => match lk id with
   | some blk => bif zky ti blk then (if s = 1 ∧ f = 0 then (csub ti blk.flat i).map fun y => (y,[]) else none) else (if s = blk.size ∧ i < blk.len then (csub ti (zaj blk i) f).map fun y => (y,[]) else none)
   | none => none
  | _ => none
include hl in
theorem ydk {T : zac} {t : TypeId} {x : AV} : Told (aLoad T t x H) lk (ylb T t x lk) := by
 intro y us h
 unfold ylb at h
 unfold aLoad
 split at h
 ·cases h
 ·rename_i ti ht
  simp only [ht]
  split at h
  ·obtain ⟨z,hz,he⟩ := Option.map_eq_some_iff.1 h
   injection he with h1 h2; subst h1 h2
   obtain ⟨a,b,c⟩ := zms (H := H) hz
   exact ⟨a,b,fun id => by rw [c]; exact hl id⟩
  ·rename_i id s i f
   simp only [hl id]
   split at h
   ·rename_i blk hb
    simp only [hb]
    cases hm : zky ti blk <;> simp only [hm,cond_true,cond_false] at h ⊢
    all_goals
     split at h
     ·rename_i hc
      obtain ⟨z,hz,he⟩ := Option.map_eq_some_iff.1 h
      injection he with h1 h2; subst h1 h2
      obtain ⟨a,b,c⟩ := zms (H := H) hz
      exact ⟨⟨hc,a⟩,b,fun id => by simp only [Out.and]; rw [c]; exact hl id⟩
     ·cases h
   ·cases h
  ·cases h
def ykm (blk : Blk) (i f : Nat) (x : AV) : Option Blk :=
 match blk with
 | .b bs => match x with
  | .w (.int .u8 m) => if f = 0 ∧ 0 ≤ m ∧ m < 256 then some (.b (bs.set i (UInt8.ofNat m.toNat))) else none
  | _ => none
 | .i ns => match x with
  | .w (.int .i64 m) => if f = 0 then some (.i (ns.set i m)) else none
  | _ => none
 | .g s xs => match slot xs i with
  | .agg ls => if f + x.leaves.length ≤ ls.length then some (.g s (setSlot xs i (.agg (splice ls f x.leaves)))) else none
  | _ => if f = 0 ∧ x.leaf = true then some (.g s (setSlot xs i x)) else none
 | .o _ => none
theorem ynu {blk : Blk} {i f : Nat} {x : AV} {b : Blk} (h : ykm blk i f x = some b) : (setB blk i f x).1 ∧ (setB blk i f x).2 = b := by
 cases blk with
 | b bs =>
  simp only [ykm] at h
  simp only [setB]
  split at h
  ·split at h <;> simp_all
  ·cases h
 | i ns =>
  simp only [ykm] at h
  simp only [setB]
  split at h
  ·split at h <;> simp_all
  ·cases h
 | g s xs =>
  simp only [ykm] at h
  simp only [setB]
  cases hs : slot xs i <;> simp only [hs] at h ⊢ <;> split at h <;> simp_all
 | o x => cases h
def yqq (blk : Blk) (i : Nat) (x : AV) : Option Blk :=
 match blk with
 | .b bs => match zqb x.leaves with
  | some ys => if i + ys.length ≤ bs.length ∧ 0 < ys.length then some (.b (bs.take i ++ (ys ++ bs.drop (i + ys.length)))) else none
  | none => none
 | _ => none
theorem ynx {blk : Blk} {i : Nat} {x : AV} {b : Blk} (h : yqq blk i x = some b) : (layB blk i x).1 ∧ (layB blk i x).2 = b := by
 unfold yqq at h
 unfold layB
 split at h
 ·split at h
  ·rename_i ys hy
   split at h
   ·rename_i hc
    injection h with h
    simp only [hy]
    exact ⟨hc,h⟩
   ·cases h
  ·cases h
 ·cases h
def ydh (T : zac) (t : TypeId) (p x : AV) (lk : Nat → Option Blk) : Option (AV × Us) :=
 match T t,p with
 | some ti,.rf id s i f => match lk id with
  | some blk => bif zky ti blk then (if s = 1 ∧ f = 0 ∧ x.leaves.length = ti.size ∧ x.okv = true then (yqq blk i x).map fun b => (.junk,[(id,some b)]) else none) else if s = blk.size ∧ i < blk.len ∧ x.leaves.length = ti.size ∧ x.okv = true then (ykm blk i f x).map fun b => (.junk,[(id,some b)]) else none
  | none => none
 | _,_ => none
theorem zap (hl : ∀ id,look H id = lk id) {nm : Nat} {b : Blk} (id : Nat) : look (put H nm b) id = upd [(nm,some b)] lk id := by
 rw [zar]; simp only [upd]; split <;> simp [hl]
include hl in
theorem yky {T : zac} {t : TypeId} {p x : AV} : Told (zjl T t p x H) lk (ydh T t p x lk) := by
 intro y us h
 unfold ydh at h
 unfold zjl
 split at h
 ·rename_i ti id s i f ht
  simp only [ht,hl id]
  split at h
  ·rename_i blk hb
   simp only [hb]
   cases hm : zky ti blk <;> simp only [hm,cond_true,cond_false] at h ⊢
   case true =>
    split at h
    ·rename_i hc
     obtain ⟨z,hz,he⟩ := Option.map_eq_some_iff.1 h
     injection he with h1 h2; subst h1 h2
     obtain ⟨a,b⟩ := ynx hz
     refine ⟨⟨hc.1,hc.2.1,hc.2.2.1,hc.2.2.2,a⟩,rfl,fun k => ?_⟩
     rw [b]; exact zap hl k
    ·cases h
   split at h
   ·rename_i hc
    obtain ⟨z,hz,he⟩ := Option.map_eq_some_iff.1 h
    injection he with h1 h2; subst h1 h2
    obtain ⟨a,b⟩ := ynu hz
    refine ⟨⟨hc.1,hc.2.1,hc.2.2.1,hc.2.2.2,a⟩,rfl,fun k => ?_⟩
    rw [b]; exact zap hl k
   ·cases h
  ·cases h
 ·cases h
def ygf (c a b : AV) : Option (AV × Us) :=
 match c with
 | .w (.bool t) => match a,b with
  | .w (.bool x),.w (.bool y) => some (.w (.bool (bif t then x else y)),[])
  | _,.w (.bool y) => if t = false then some (.w (.bool y),[]) else none
  | .w (.bool x),_ => if t = true then some (.w (.bool x),[]) else none
  | _,_ => none
 | _ => none
include hl in
theorem ynz {c a b : AV} : Told (zre c a b H) lk (ygf c a b) := by
 intro y us h
 have key : ∀ t,ygf (.w (.bool t)) a b = some (y,us) → (zre (.w (.bool t)) a b H).p ∧ (zre (.w (.bool t)) a b H).x = y ∧ ∀ id,look (zre (.w (.bool t)) a b H).H id = upd us lk id := by
  intro t h
  rcases hb : b with v | _ | _ | _ | _ | _ | _ | _ | _ | _ | _ | _ <;> subst hb <;> (try rcases hv : v with x | _ | _ | _ | _ | _ | _ | _ | _ | _ | _ | _ | _ | _ | _) <;> (try subst hv) <;>
   rcases ha : a with u | _ | _ | _ | _ | _ | _ | _ | _ | _ | _ | _ <;> subst ha <;> (try rcases hu : u with z | _ | _ | _ | _ | _ | _ | _ | _ | _ | _ | _ | _ | _ | _) <;> (try subst hu) <;>
   simp only [ygf] at h <;> first | (cases h; done) | (split at h <;> first | (cases h; done) | (injection h with h; injection h with h1 h2; subst h1 h2; exact ⟨by assumption,rfl,hl⟩)) | (injection h with h; injection h with h1 h2; subst h1 h2; exact ⟨trivial,rfl,hl⟩)
 unfold ygf at h
 split at h
 ·exact key _ h
 ·cases h
def yds (T : zac) (nm : Nat) (e : TypeId) : Option (AV × Us) :=
 match T e with
 | some ti => bif zki ti then (if 0 < ti.size then some (.rf nm 1 0 0,[(nm,some (.b (List.replicate ti.size 0)))]) else none) else (if 0 < ti.size then some (.rf nm ti.size 0 0,[(nm,some (.g ti.size [asv ti ti.zero]))]) else none)
 | none => none
include hl in
theorem ylh {T : zac} {nm : Nat} {e : TypeId} : Told (aAlloc T nm e H) lk (yds T nm e) := by
 intro y us h
 unfold yds at h
 unfold aAlloc
 split at h
 ·rename_i ti ht
  simp only [ht]
  cases hm : zki ti <;> simp only [hm,cond_true,cond_false] at h ⊢
  all_goals
   split at h
   ·injection h with h; injection h with h1 h2; subst h1 h2
    exact ⟨by assumption,rfl,fun id => zap hl id⟩
   ·cases h
 ·cases h
def cBox (T : zac) (nm : Nat) (e : TypeId) (x : AV) : Option (AV × Us) :=
 match T e with
 | some ti => if 0 < ti.size ∧ x.leaves.length = ti.size ∧ x.okv = true then some (.rf nm ti.size 0 0,[(nm,some (.g ti.size [x]))]) else none
 | none => none
include hl in
theorem yqy {T : zac} {nm : Nat} {e : TypeId} {x : AV} : Told (aBox T nm e x H) lk (cBox T nm e x) := by
 intro y us h
 unfold cBox at h
 unfold aBox
 split at h
 ·rename_i ti ht
  simp only [ht]
  split at h
  ·injection h with h; injection h with h1 h2; subst h1 h2
   exact ⟨by assumption,rfl,fun id => zap hl id⟩
  ·cases h
 ·cases h
def ycz (T : zac) (fs : List (Nat × TypeId)) : List (Nat × AV) → List AV → Option (List AV)
 | [],ls => some ls
 | (i,x) :: r,ls => match fs[i]? with
  | some (off,ty) => match T ty with
   | some ti => if x.leaves.length = ti.size ∧ x.okv = true ∧ off + ti.size ≤ ls.length then ycz T fs r (splice ls off x.leaves) else none
   | none => none
  | none => none
theorem zxv {T : zac} {fs : List (Nat × TypeId)} : ∀ {ps : List (Nat × AV)} {ls zs : List AV},ycz T fs ps ls = some zs → (fillS T fs ps ls).1 ∧ (fillS T fs ps ls).2 = zs
 | [],ls,zs,h => by injection h with h; exact ⟨trivial,h⟩
 | (i,x) :: r,ls,zs,h => by
  unfold ycz at h
  unfold fillS
  split at h
  ·rename_i off ty hi
   simp only [hi]
   split at h
   ·rename_i ti ht
    simp only [ht]
    split at h
    ·rename_i hc
     obtain ⟨h1,h2⟩ := zxv h
     exact ⟨⟨hc.1,hc.2.1,hc.2.2,h1⟩,h2⟩
    ·cases h
   ·cases h
  ·cases h
def ydd (s : Nat) : List (Nat × AV) → List AV → Option (List AV)
 | [],ls => some ls
 | (i,x) :: r,ls => if x.leaves.length = s ∧ x.okv = true ∧ i * s + s ≤ ls.length then ydd s r (splice ls (i * s) x.leaves) else none
theorem zxz {s : Nat} : ∀ {ps : List (Nat × AV)} {ls zs : List AV},ydd s ps ls = some zs → (zrb s ps ls).1 ∧ (zrb s ps ls).2 = zs
 | [],ls,zs,h => by injection h with h; exact ⟨trivial,h⟩
 | (i,x) :: r,ls,zs,h => by
  unfold ydd at h
  unfold zrb
  split at h
  ·rename_i hc
   obtain ⟨h1,h2⟩ := zxz h
   exact ⟨⟨hc.1,hc.2.1,hc.2.2,h1⟩,h2⟩
  ·cases h
def zyc (T : zac) : List (Nat × TypeId) → Bool
 | [] => true
 | p :: r => match T p.2 with
  | some _ => zyc T r
  | none => false
theorem zyb {T : zac} : ∀ {l : List (Nat × TypeId)},zyc T l = true → allTy T l
 | [],_ => trivial
 | p :: r,h => by
  unfold zyc at h
  unfold allTy
  split at h
  ·rename_i x hx; simp only [hx]; exact zyb h
  ·cases h
def ydr (T : zac) (t : TypeId) (ps : List (Nat × AV)) : Option (AV × Us) :=
 match T t with
 | some ti => match ti.d with
  | .struct fs => bif zyc T fs then (ycz T fs ps ti.zero).map fun l => (.agg l,[]) else none
  | .arr _ e => match T e with
   | some te => (ydd te.size ps ti.zero).map fun l => (.agg l,[])
   | none => none
  | _ => none
 | none => none
include hl in
theorem ylg {T : zac} {t : TypeId} {ps : List (Nat × AV)} : Told (aBuild T t ps H) lk (ydr T t ps) := by
 intro y us h
 unfold ydr at h
 unfold aBuild
 split at h
 ·rename_i ti ht
  simp only [ht]
  split at h
  ·rename_i fs hd
   simp only [hd]
   cases hc : zyc T fs with
   | false => rw [hc] at h; cases h
   | true =>
    rw [hc] at h
    obtain ⟨z,hz,he⟩ := Option.map_eq_some_iff.1 h
    injection he with h1 h2; subst h1 h2
    obtain ⟨a,b⟩ := zxv hz
    exact ⟨⟨zyb hc,a⟩,by rw [b],hl⟩
  ·rename_i n e hd
   simp only [hd]
   split at h
   ·rename_i te hte
    simp only [hte]
    obtain ⟨z,hz,he⟩ := Option.map_eq_some_iff.1 h
    injection he with h1 h2; subst h1 h2
    obtain ⟨a,b⟩ := zxz hz
    exact ⟨a,by rw [b],hl⟩
   ·cases h
  ·cases h
 ·cases h
def ydc : List (Nat × AV) → List UInt8 → Option (List UInt8)
 | [],bs => some bs
 | (i,x) :: r,bs => match x with
  | .w (.int .u8 m) => if i < bs.length ∧ 0 ≤ m ∧ m < 256 then ydc r (bs.set i (UInt8.ofNat m.toNat)) else none
  | _ => none
theorem zxy : ∀ {ps : List (Nat × AV)} {ls zs : List UInt8},ydc ps ls = some zs → (fillB ps ls).1 ∧ (fillB ps ls).2 = zs
 | [],ls,zs,h => by injection h with h; exact ⟨trivial,h⟩
 | (i,x) :: r,ls,zs,h => by
  unfold ydc at h
  unfold fillB
  split at h
  ·split at h
   ·rename_i hc
    obtain ⟨h1,h2⟩ := zxy h
    exact ⟨⟨hc.1,hc.2.1,hc.2.2,h1⟩,h2⟩
   ·cases h
  ·cases h
def yda : List (Nat × AV) → List Int → Option (List Int)
 | [],ns => some ns
 | (i,x) :: r,ns => match x with
  | .w (.int .i64 m) => if i < ns.length then yda r (ns.set i m) else none
  | _ => none
theorem zxw : ∀ {ps : List (Nat × AV)} {ls zs : List Int},yda ps ls = some zs → (fillI ps ls).1 ∧ (fillI ps ls).2 = zs
 | [],ls,zs,h => by injection h with h; exact ⟨trivial,h⟩
 | (i,x) :: r,ls,zs,h => by
  unfold yda at h
  unfold fillI
  split at h
  ·split at h
   ·rename_i hc
    obtain ⟨h1,h2⟩ := zxw h
    exact ⟨⟨hc,h1⟩,h2⟩
   ·cases h
  ·cases h
def ydb (s : Nat) : List (Nat × AV) → List AV → Option (List AV)
 | [],xs => some xs
 | (i,x) :: r,xs => if i < xs.length ∧ x.leaves.length = s ∧ x.okv = true then ydb s r (setSlot xs i x) else none
theorem zxx {s : Nat} : ∀ {ps : List (Nat × AV)} {ls zs : List AV},ydb s ps ls = some zs → (fillG s ps ls).1 ∧ (fillG s ps ls).2 = zs
 | [],ls,zs,h => by injection h with h; exact ⟨trivial,h⟩
 | (i,x) :: r,ls,zs,h => by
  unfold ydb at h
  unfold fillG
  split at h
  ·rename_i hc
   obtain ⟨h1,h2⟩ := zxx h
   exact ⟨⟨hc.1,hc.2.1,hc.2.2,h1⟩,h2⟩
  ·cases h
def isZ (k : IntKind) : List AV → Bool
 | [.w (.int k' n)] => decide (k' = k) && decide (n = 0)
 | _ => false
theorem zws {k : IntKind} {l : List AV} (h : isZ k l = true) : l = [.w (.int k 0)] := by
 unfold isZ at h
 split at h
 ·simp only [Bool.and_eq_true,decide_eq_true_eq] at h
  obtain ⟨rfl,rfl⟩ := h; rfl
 ·cases h
def zhk (T : zac) (nm : Nat) (t : TypeId) (n : Nat) (ps : List (Nat × AV)) : Option (AV × Us) :=
 match T t with
 | some ti => match ti.d with
  | .slice e => match T e with
   | some te => match te.d with
    | .int .u8 => if te.size = 1 ∧ isZ .u8 te.zero = true ∧ n ≤ 16777216 then (ydc ps (List.replicate n 0)).map fun l => (.ms nm 1 0 n,[(nm,some (.b l))]) else none
    | .int .i64 => if te.size = 1 ∧ isZ .i64 te.zero = true ∧ n ≤ 16777216 then (yda ps (List.replicate n 0)).map fun l => (.ms nm 1 0 n,[(nm,some (.i l))]) else none
    | _ => if 0 < te.size ∧ n * te.size ≤ 16777216 then (ydb te.size ps (List.replicate n (asv te te.zero))).map fun l => (.ms nm te.size 0 n,[(nm,some (.g te.size l))]) else none
   | none => none
  | _ => none
 | none => none
include hl in
theorem zrd {T : zac} {nm : Nat} {t : TypeId} {n : Nat} {ps : List (Nat × AV)} : Told (aBuildSlice T nm t n ps H) lk (zhk T nm t n ps) := by
 intro y us h
 unfold zhk at h
 unfold aBuildSlice
 split at h
 ·rename_i ti ht
  simp only [ht]
  split at h
  ·rename_i e hd
   simp only [hd]
   split at h
   ·rename_i te hte
    simp only [hte]
    split at h
    ·rename_i hk
     simp only [hk]
     split at h
     ·rename_i hc
      obtain ⟨z,hz,he⟩ := Option.map_eq_some_iff.1 h
      injection he with h1 h2; subst h1 h2
      obtain ⟨a,b⟩ := zxy hz
      exact ⟨⟨hc.1,zws hc.2.1,hc.2.2,a⟩,rfl,fun id => by rw [b]; exact zap hl id⟩
     ·cases h
    ·rename_i hk
     simp only [hk]
     split at h
     ·rename_i hc
      obtain ⟨z,hz,he⟩ := Option.map_eq_some_iff.1 h
      injection he with h1 h2; subst h1 h2
      obtain ⟨a,b⟩ := zxw hz
      exact ⟨⟨hc.1,zws hc.2.1,hc.2.2,a⟩,rfl,fun id => by rw [b]; exact zap hl id⟩
     ·cases h
    ·rename_i hk1 hk2
     split
     ·rename_i he; exact (hk1 he).elim
     ·rename_i he; exact (hk2 he).elim
     ·split at h
      ·rename_i hc
       obtain ⟨z,hz,he⟩ := Option.map_eq_some_iff.1 h
       injection he with h1 h2; subst h1 h2
       obtain ⟨a,b⟩ := zxx hz
       exact ⟨⟨hc.1,hc.2,a⟩,rfl,fun id => by rw [b]; exact zap hl id⟩
      ·cases h
   ·cases h
  ·cases h
 ·cases h
def cNil (x : AV) (lk : Nat → Option Blk) : Option (AV × Us) :=
 match x with
 | .rf id s i f => match lk id with
  | some _ => if s ≠ 0 then some (.rf id s i f,[]) else none
  | none => none
 | .cp ls => some (.cp ls,[])
 | .fn f cs => some (.fn f cs,[])
 | _ => none
include hl in
theorem yqt {x : AV} : Told (aNil x H) lk (cNil x lk) := by
 intro y us h
 unfold cNil at h
 unfold aNil
 split at h
 ·rename_i id s i f
  simp only [hl id]
  split at h
  ·rename_i b hb
   simp only [hb]
   split at h
   ·injection h with h; injection h with h1 h2; subst h1 h2
    exact ⟨by assumption,rfl,hl⟩
   ·cases h
  ·cases h
 ·injection h with h; injection h with h1 h2; subst h1 h2; exact ⟨trivial,rfl,hl⟩
 ·injection h with h; injection h with h1 h2; subst h1 h2; exact ⟨trivial,rfl,hl⟩
 ·cases h
def cInt (op : BinOp) (k : IntKind) (a : Int) (k' : IntKind) (b : Int) : Option Value :=
 match op with
 | .shl => if 0 ≤ b then some (.int k (k.wrap (a * 2 ^ min b.toNat k.bits))) else none
 | .shr => if 0 ≤ b then some (.int k (a / 2 ^ min b.toNat k.bits)) else none
 | .add => if k = k' then some (.int k (k.wrap (a + b))) else none
 | .sub => if k = k' then some (.int k (k.wrap (a - b))) else none
 | .mul => if k = k' then some (.int k (k.wrap (a * b))) else none
 | .quo => if k = k' ∧ b ≠ 0 then some (.int k (k.wrap (a.tdiv b))) else none
 | .rem => if k = k' ∧ b ≠ 0 then some (.int k (a.tmod b)) else none
 | .and => if k = k' then some (.int k (bits .and k a b)) else none
 | .or => if k = k' then some (.int k (bits .or k a b)) else none
 | .xor => if k = k' then some (.int k (bits .xor k a b)) else none
 | .andNot => if k = k' then some (.int k (bits .andNot k a b)) else none
 | .eql => if k = k' then some (.bool (decide (a = b))) else none
 | .neq => if k = k' then some (.bool (!decide (a = b))) else none
 | .lss => if k = k' then some (.bool (decide (a < b))) else none
 | .leq => if k = k' then some (.bool (decide (a ≤ b))) else none
 | .gtr => if k = k' then some (.bool (decide (b < a))) else none
 | .geq => if k = k' then some (.bool (decide (b ≤ a))) else none
theorem yqx {op : BinOp} {k k' : IntKind} {a b : Int} {v : Value} (h : cInt op k a k' b = some v) : (aInt op k a k' b).1 ∧ (aInt op k a k' b).2 = v := by
 cases op <;> simp only [cInt] at h <;> simp only [aInt] <;> split at h <;> first | (injection h with h; exact ⟨by assumption,h⟩) | cases h
def cStr (op : BinOp) (a b : List UInt8) : Option AV :=
 match op with
 | .add => if a.length + b.length ≤ 1099511627776 then some (.str (a ++ b)) else none
 | .eql => some (.w (.bool (decide (a = b))))
 | .neq => some (.w (.bool (!decide (a = b))))
 | .lss => some (.w (.bool (Op.bytesLess a b)))
 | .leq => some (.w (.bool (Op.bytesLess a b || decide (a = b))))
 | .gtr => some (.w (.bool (!(Op.bytesLess a b || decide (a = b)))))
 | .geq => some (.w (.bool (!(Op.bytesLess a b))))
 | _ => none
theorem yqs {op : BinOp} {a b : List UInt8} {v : AV} (h : cStr op a b = some v) : (aStr op a b).1 ∧ (aStr op a b).2 = v := by
 cases op <;> simp only [cStr] at h <;> simp only [aStr] <;> first | cases h | (split at h <;> first | cases h | (injection h with h; exact ⟨by assumption,h⟩)) | (injection h with h; exact ⟨trivial,h⟩)
 all_goals first | exact ⟨trivial,rfl⟩ | trivial
def cEq (op : BinOp) (r : Bool) : Option (AV × Us) :=
 match op with
 | .eql => some (.w (.bool r),[])
 | .neq => some (.w (.bool (!r)),[])
 | _ => none
include hl in
theorem ydo {op : BinOp} {r : Bool} : Told (aEq op r H) lk (cEq op r) := by
 intro y us h
 cases op <;> simp only [cEq] at h <;> first | cases h | skip
 all_goals (exact ⟨trivial,rfl,hl⟩)
def ycy (T : zac) (t : TypeId) : Bool :=
 match T t with
 | some ti => match ti.d with
  | .ptr => true
  | _ => false
 | none => false
theorem zxu {T : zac} {t : TypeId} (h : ycy T t = true) : isPtr T t := by
 unfold ycy at h; unfold isPtr; split at h
 ·rename_i ti ht; simp only [ht]; split at h
  ·rename_i hd; simp only [hd]
  ·cases h
 ·cases h
def yas (T : zac) (t : TypeId) : Bool :=
 match T t with
 | some ti => match ti.d with
  | .bool => true
  | _ => false
 | none => false
theorem ygc {T : zac} {t : TypeId} (h : yas T t = true) : isBool T t := by
 unfold yas at h; unfold isBool; split at h
 ·rename_i ti ht; simp only [ht]; split at h
  ·rename_i hd; simp only [hd]
  ·cases h
 ·cases h
def zlp (T : zac) (t : TypeId) : Bool :=
 match T t with
 | some ti => match ti.d with
  | .struct _ => true
  | _ => false
 | none => false
theorem zxt {T : zac} {t : TypeId} (h : zlp T t = true) : isStruct T t := by
 unfold zlp at h; unfold isStruct; split at h
 ·rename_i ti ht; simp only [ht]; split at h
  ·rename_i hd; simp only [hd]
  ·cases h
 ·cases h
def ceqF (S : TypeId → AV → AV → Option Bool) (T : zac) : List (Nat × TypeId) → List AV → List AV → Option Bool
 | [],_,_ => some true
 | p :: r,xs,ys => match T p.2 with
  | none => none
  | some te => match csub te xs p.1,csub te ys p.1 with
   | some a,some b => match S p.2 a b with
    | some u => match ceqF S T r xs ys with
     | some v => some (u && v)
     | none => none
    | none => none
   | _,_ => none
def ceqV (T : zac) : Nat → TypeId → AV → AV → Option Bool
 | 0,_,_,_ => none
 | n + 1,t,x,y => match T t with
  | none => none
  | some i => match i.d with
   | .int _ => match x,y with
    | .w (.int k1 a),.w (.int k2 b) => if k1 = k2 then some (decide (a = b)) else none
    | _,_ => none
   | .bool => match x,y with
    | .w (.bool a),.w (.bool b) => some (a == b)
    | _,_ => none
   | .str => match x,y with
    | .str a,.str b => some (decide (a = b))
    | _,_ => none
   | .struct fs => match x,y with
    | .agg xs,.agg ys => ceqF (ceqV T n) T fs xs ys
    | _,_ => none
   | _ => none
theorem ykv {T : zac} {S : TypeId → AV → AV → Prop × Bool} {S' : TypeId → AV → AV → Option Bool} (hS : ∀ t x y b,S' t x y = some b → (S t x y).1 ∧ (S t x y).2 = b) :
  ∀ {fs : List (Nat × TypeId)} {xs ys : List AV} {b : Bool},ceqF S' T fs xs ys = some b → (eqF S T fs xs ys).1 ∧ (eqF S T fs xs ys).2 = b
 | [],xs,ys,b,h => by injection h with h; exact ⟨trivial,h⟩
 | p :: r,xs,ys,b,h => by
  unfold ceqF at h
  unfold eqF
  split at h
  ·cases h
  ·rename_i te ht
   simp only [ht]
   split at h
   ·rename_i a c ha hc
    split at h
    ·rename_i u hu
     split at h
     ·rename_i v hv
      injection h with h
      obtain ⟨a1,a2,_⟩ := zms (H := []) ha
      obtain ⟨b1,b2,_⟩ := zms (H := []) hc
      obtain ⟨c1,c2⟩ := hS _ _ _ _ hu
      obtain ⟨d1,d2⟩ := ykv hS hv
      rw [a2,b2]
      exact ⟨⟨a1,b1,c1,d1⟩,by rw [c2,d2,h]⟩
     ·cases h
    ·cases h
   ·cases h
theorem zqa {T : zac} : ∀ (n : Nat) (t : TypeId) (x y : AV) (b : Bool),ceqV T n t x y = some b → (eqV T n t x y).1 ∧ (eqV T n t x y).2 = b
 | 0,t,x,y,b,h => by cases h
 | n + 1,t,x,y,b,h => by
  unfold ceqV at h
  unfold eqV
  split at h
  ·cases h
  ·rename_i i hi
   simp only [hi]
   split at h
   ·rename_i hd
    simp only [hd]
    split at h
    ·split at h
     ·injection h with h; exact ⟨by assumption,h⟩
     ·cases h
    ·cases h
   ·rename_i hd
    simp only [hd]
    split at h
    ·injection h with h; exact ⟨trivial,h⟩
    ·cases h
   ·rename_i hd
    simp only [hd]
    split at h
    ·injection h with h; exact ⟨trivial,h⟩
    ·cases h
   ·rename_i hd
    simp only [hd]
    split at h
    ·exact ykv (zqa n) h
    ·cases h
   ·cases h
def cBin (T : zac) (op : BinOp) (t : TypeId) (x y : AV) (lk : Nat → Option Blk) : Option (AV × Us) :=
 match x,y with
 | .w (.int k a),.w (.int k' b) => (cInt op k a k' b).map fun v => (.w v,[])
 | .str a,.str b => (cStr op a b).map fun v => (v,[])
 | .w (.bool a),.w (.bool b) => bif yas T t then cEq op (a == b) else none
 | .rf id s _ _,.w (.pointer none) => match lk id with
  | some _ => bif decide (s ≠ 0) && ycy T t then cEq op false else none
  | none => none
 | .w (.pointer none),.w (.pointer none) => bif ycy T t then cEq op true else none
 | .agg xs,.agg ys => match ceqV T 4 t (.agg xs) (.agg ys) with
  | some r => bif zlp T t then cEq op r else none
  | none => none
 | _,_ => none
theorem Told.and {q : Prop} {o : Out} {r : Option (AV × Us)} (h : Told o lk r) (hq : q) : Told (o.and q) lk r := fun x us e => let ⟨a,b,c⟩ := h x us e; ⟨⟨hq,a⟩,b,c⟩
theorem Told.cond {q : Prop} {b : Bool} {o : Out} {r : Option (AV × Us)} (h : Told o lk r) (hq : b = true → q) : Told (o.and q) lk (bif b then r else none) := by
 cases b with
 | true => exact h.and (hq rfl)
 | false => intro x us e; cases e
include hl in
theorem yqz {T : zac} {op : BinOp} {t : TypeId} {x y : AV} : Told (aBin T op t x y H) lk (cBin T op t x y lk) := by
 intro z us h
 unfold cBin at h
 split at h
 ·obtain ⟨v,hv,he⟩ := Option.map_eq_some_iff.1 h
  injection he with h1 h2; subst h1 h2
  obtain ⟨a,b⟩ := yqx hv
  exact ⟨a,by simp only [aBin,b],hl⟩
 ·obtain ⟨v,hv,he⟩ := Option.map_eq_some_iff.1 h
  injection he with h1 h2; subst h1 h2
  obtain ⟨a,b⟩ := yqs hv
  exact ⟨a,b,hl⟩
 ·exact ((ydo hl).cond (q := isBool T t) ygc) z us h
 ·rename_i id s _ _
  split at h
  ·rename_i bk hb
   have hb' : look H id = some bk := (hl id).trans hb
   have := ((ydo hl).cond (q := s ≠ 0 ∧ isPtr T t) fun h => by
    simp only [Bool.and_eq_true,decide_eq_true_eq] at h
    exact ⟨h.1,zxu h.2⟩) z us h
   simp only [aBin,hb']
   exact this
  ·cases h
 ·exact ((ydo hl).cond (q := isPtr T t) zxu) z us h
 ·rename_i xs ys
  split at h
  ·rename_i r hr
   obtain ⟨a,b⟩ := zqa _ _ _ _ _ hr
   simp only [aBin]
   rw [b]
   cases hc : zlp T t with
   | true =>
    rw [hc] at h
    exact (ydo hl).and ⟨zxt hc,a⟩ z us h
   | false => rw [hc] at h; cases h
  ·cases h
 ·cases h
def cUn (op : UnOp) (x : AV) : Option (AV × Us) :=
 match op,x with
 | .not,.w (.bool b) => some (.w (.bool (!b)),[])
 | .neg,.w (.int k n) => some (.w (.int k (k.wrap (0 - n))),[])
 | .xor,.w (.int k n) => some (.w (.int k (bits .xor k (bif k.signed then -1 else k.max) n)),[])
 | _,_ => none
include hl in
theorem yso {op : UnOp} {x : AV} : Told (aUn op x H) lk (cUn op x) := by
 intro y us h
 unfold cUn at h
 unfold aUn
 split at h <;> first | cases h | (injection h with h; injection h with h1 h2; subst h1 h2; exact ⟨trivial,rfl,hl⟩)
 all_goals exact ⟨trivial,rfl,hl⟩
def zxo (lk : Nat → Option Blk) (x : AV) : Option (List UInt8) :=
 match x with
 | .sb bs _ => some bs
 | .sg _ [] _ => some []
 | .ms id s off len => match lk id with
  | some (.b bs) => if s = 1 ∧ off + len ≤ bs.length then some ((bs.drop off).take len) else none
  | _ => none
 | _ => none
include hl in
theorem zpv {x : AV} {l : List UInt8} (h : zxo lk x = some l) : (zey H x).1 ∧ (zey H x).2 = l := by
 unfold zxo at h
 unfold zey
 split at h
 ·injection h with h; exact ⟨trivial,h⟩
 ·injection h with h; exact ⟨trivial,h⟩
 ·rename_i id s off len
  simp only [hl id]
  split at h
  ·rename_i bs hb
   simp only [hb]
   split at h
   ·injection h with h; exact ⟨by assumption,h⟩
   ·cases h
  ·cases h
 ·cases h
def ykj (lk : Nat → Option Blk) (x : AV) : Option (List Int) :=
 match x with
 | .si ns _ => some ns
 | .sg _ [] _ => some []
 | .ms id s off len => match lk id with
  | some (.i ns) => if s = 1 ∧ off + len ≤ ns.length then some ((ns.drop off).take len) else none
  | _ => none
 | _ => none
include hl in
theorem yki {x : AV} {l : List Int} (h : ykj lk x = some l) : (zhq H x).1 ∧ (zhq H x).2 = l := by
 unfold ykj at h
 unfold zhq
 split at h
 ·injection h with h; exact ⟨trivial,h⟩
 ·injection h with h; exact ⟨trivial,h⟩
 ·rename_i id s off len
  simp only [hl id]
  split at h
  ·rename_i bs hb
   simp only [hb]
   split at h
   ·injection h with h; exact ⟨by assumption,h⟩
   ·cases h
  ·cases h
 ·cases h
def ykl (s : Nat) (lk : Nat → Option Blk) (x : AV) : Option (List AV) :=
 match x with
 | .sg s' xs _ => bif xs.isEmpty || decide (s' = s) then some xs else none
 | .ms id s' off len => match lk id with
  | some (.g s'' xs) => if s' = s ∧ s'' = s ∧ off + len ≤ xs.length then some ((xs.drop off).take len) else none
  | _ => none
 | _ => none
include hl in
theorem ykk {s : Nat} {x : AV} {l : List AV} (h : ykl s lk x = some l) : (zex s H x).1 ∧ (zex s H x).2 = l := by
 unfold ykl at h
 unfold zex
 split at h
 ·rename_i s' xs f
  cases hc : xs.isEmpty || decide (s' = s) with
  | true =>
   rw [hc] at h
   injection h with h
   refine ⟨?_,h⟩
   simp only [Bool.or_eq_true,List.isEmpty_iff,decide_eq_true_eq] at hc
   exact hc
  | false => rw [hc] at h; cases h
 ·rename_i id s off len
  simp only [hl id]
  split at h
  ·rename_i bs hb
   simp only [hb]
   split at h
   ·injection h with h; exact ⟨by assumption,h⟩
   ·cases h
  ·cases h
 ·cases h
def zga (T : zac) (t : TypeId) : Bool :=
 match T t with
 | some ti => match ti.d with
  | .slice e => match T e with
   | some te => match te.d with
    | .int .u8 => true
    | _ => false
   | none => false
  | _ => false
 | none => false
theorem zkg {T : zac} {t : TypeId} (h : zga T t = true) : isBytes T t := by
 unfold zga at h; unfold isBytes; split at h
 ·rename_i ti ht; simp only [ht]; split at h
  ·rename_i e hd; simp only [hd]; split at h
   ·rename_i te hte; simp only [hte]; split at h
    ·rename_i hk; simp only [hk]
    ·cases h
   ·cases h
  ·cases h
 ·cases h
def yoh (T : zac) (src dst : TypeId) (nm : Nat) (x : AV) (lk : Nat → Option Blk) : Option (AV × Us) :=
 match T src,T dst with
 | some _,some b => match b.d with
  | .int k => match x with
   | .w (.int _ n) => some (.w (.int k (k.wrap n)),[])
   | _ => none
  | .str => match x with
   | .str bs => some (.str bs,[])
   | _ => bif zga T src then (zxo lk x).map fun l => (.str l,[]) else none
  | .slice _ => match x with
   | .str bs => bif zga T dst && decide (bs.length ≤ 9223372036854775807) then some (.ms nm 1 0 bs.length,[(nm,some (.b bs))]) else none
   | .ms id s off len => match lk id with
    | some blk => bif zga T dst && (decide (src = dst) && (decide (0 < blk.len) && decide (blk.size = 1))) then some (.ms id s off len,[(id,some blk)]) else none
    | none => none
   | _ => none
  | _ => none
 | _,_ => none
include hl in
theorem yog {T : zac} {src dst : TypeId} {nm : Nat} {x : AV} : Told (zkm T src dst nm x H) lk (yoh T src dst nm x lk) := by
 intro y us h
 unfold yoh at h
 unfold zkm
 split at h
 ·rename_i a b ha hb
  simp only [ha,hb]
  split at h
  ·rename_i k hk
   simp only [hk]
   split at h
   ·injection h with h; injection h with h1 h2; subst h1 h2; exact ⟨trivial,rfl,hl⟩
   ·cases h
  ·rename_i hk
   simp only [hk]
   split at h
   ·injection h with h; injection h with h1 h2; subst h1 h2; exact ⟨trivial,rfl,hl⟩
   ·rename_i hx
    split
    ·rename_i bs; exact (hx bs rfl).elim
    ·cases hc : zga T src with
     | true =>
      rw [hc] at h
      obtain ⟨v,hv,he⟩ := Option.map_eq_some_iff.1 h
      injection he with h1 h2; subst h1 h2
      obtain ⟨p,q⟩ := zpv hl hv
      exact ⟨⟨zkg hc,p⟩,by simp only [q],hl⟩
     | false => rw [hc] at h; cases h
  ·rename_i e hk
   simp only [hk]
   split at h
   ·rename_i bs
    cases hc : (zga T dst && decide (bs.length ≤ 9223372036854775807)) with
    | true =>
     rw [hc] at h
     injection h with h; injection h with h1 h2; subst h1 h2
     simp only [Bool.and_eq_true,decide_eq_true_eq] at hc
     exact ⟨⟨zkg hc.1,hc.2⟩,rfl,fun id => zap hl id⟩
    | false => rw [hc] at h; cases h
   ·rename_i id s off len
    simp only [hl id]
    split at h
    ·rename_i blk hbk
     simp only [hbk]
     cases hc : (zga T dst && (decide (src = dst) && (decide (0 < blk.len) && decide (blk.size = 1)))) with
     | true =>
      rw [hc] at h
      injection h with h; injection h with h1 h2; subst h1 h2
      simp only [Bool.and_eq_true,decide_eq_true_eq] at hc
      exact ⟨⟨zkg hc.1,hc.2⟩,rfl,fun id => zap hl id⟩
     | false => rw [hc] at h; cases h
    ·cases h
   ·cases h
  ·cases h
 ·cases h
end
end Ax
end Go.Proofs.Ytebacgkeoefnkaa
