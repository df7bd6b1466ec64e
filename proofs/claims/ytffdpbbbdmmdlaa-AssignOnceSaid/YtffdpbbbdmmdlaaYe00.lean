/- What the proofs of this seat stand on; it asks nothing. -/
import Derived.Test.YtffdpbbbdmmdlaaYa11
import Derived.Test.YtffdpbbbdmmdlaaYb00
set_option linter.unusedSimpArgs false
set_option linter.unusedVariables false
namespace Go.Proofs.Ytffdpbbbdmmdlaa
open Ax
structure yjn (L : List (List Int)) (P : Nat) : Prop where
 row : ∀ r ∈ L,r.length ≤ 1000000 ∧ r.Pairwise (· < ·) ∧ ∀ x ∈ r,0 ≤ x ∧ x < (P : Int)
 len : ∀ r ∈ L,r.length ≤ (L.getD 0 []).length ∧ (L.getD 0 []).length ≤ r.length + 1
 all : ∀ q : Nat,q < P → L.flatten.count (q : Int) = 1
def cntL (P : Nat) (pre : List Int) : List Int := (List.range P).map fun (q : Nat) => ((pre.count ((q : Nat) : Int) : Nat) : Int)
theorem zgs (P : Nat) (pre : List Int) : (cntL P pre).length = P := by unfold cntL; simp
theorem zot {P j : Nat} (pre : List Int) (hj : j < P) : (cntL P pre)[j]'(by rw [zgs]; exact hj) = ((pre.count ((j : Nat) : Int) : Nat) : Int) := by unfold cntL; simp
theorem ylm {P j : Nat} (pre : List Int) (hj : j < P) : (cntL P pre).set j (((pre.count ((j : Nat) : Int) : Nat) : Int) + 1) = cntL P (pre ++ [((j : Nat) : Int)]) := by
 refine List.ext_getElem (by simp [zgs]) fun q h1 h2 => ?_
 have hq : q < P := by simpa [zgs] using h2
 rw [List.getElem_set,zot _ hq,zot _ hq,List.count_append]
 by_cases e : j = q
 ·subst e
  rw [if_pos rfl]
  simp
 ·rw [if_neg e]
  have : List.count ((q : Nat) : Int) [((j : Nat) : Int)] = 0 := by
   rw [List.count_eq_zero]
   simp; omega
  rw [this,Nat.add_zero]
def preL (L : List (List Int)) (i k : Nat) : List Int := (L.take i).flatten ++ (L.getD i []).take k
theorem yfk (L : List (List Int)) (i : Nat) (h : i < L.length) : preL L (i + 1) 0 = preL L i (L[i].length) := by
 unfold preL
 have e : (L.take (i + 1)).flatten = (L.take i).flatten ++ L[i] := by rw [List.take_succ_eq_append_getElem h,List.flatten_append]; simp only [List.flatten_cons,List.flatten_nil,List.append_nil]
 rw [e,List.take_zero,List.append_nil,List.getD_eq_getElem?_getD,List.getElem?_eq_getElem h]
 simp
theorem yfj (L : List (List Int)) (i k : Nat) (h : i < L.length) (hk : k < L[i].length) : preL L i k ++ [L[i][k]] = preL L i (k + 1) := by
 unfold preL
 rw [List.getD_eq_getElem?_getD,List.getElem?_eq_getElem h]
 simp only [Option.getD_some]
 rw [List.take_succ_eq_append_getElem hk,List.append_assoc]
theorem yke (L : List (List Int)) : preL L L.length 0 = L.flatten := by unfold preL; simp
theorem yco (L : List (List Int)) (i k : Nat) (x : Int) : (preL L i k).count x ≤ L.flatten.count x := by
 rcases Nat.lt_or_ge i L.length with h | h
 ·have e : L.flatten = (L.take i).flatten ++ (L[i] ++ (L.drop (i + 1)).flatten) := by
   have h2 : L = L.take i ++ L[i] :: L.drop (i + 1) := by rw [← List.drop_eq_getElem_cons h,List.take_append_drop]
   have h3 := congrArg List.flatten h2
   rw [List.flatten_append,List.flatten_cons] at h3
   exact h3
  rw [e]
  unfold preL
  rw [List.getD_eq_getElem?_getD,List.getElem?_eq_getElem h]
  simp only [Option.getD_some,List.count_append]
  have := (List.take_sublist k L[i]).count_le x
  omega
 ·unfold preL
  rw [List.take_of_length_le h,List.getD_eq_getElem?_getD,List.getElem?_eq_none h]
  simp
theorem hsnT {L : List (List Int)} {i k : Nat} {hil : i < L.length} {r : List Int} {hkl : k < r.length} {x : Int} (hr : L[i] = r) (hj : r[k] = x) {h2 : k < L[i].length} {a b : List Int} (h : a ++ [L[i][k]] = b) : a ++ [x] = b := by
 subst hr hj
 exact h
def frlS : zaz
 | [.sg 1 xs f,.w (.int .i64 p)],[] => ⟨(0 ≤ p ∧ p ≤ 1000) ∧ xs.length ≤ 1000000 ∧ ∃ L : List (List Int),xs = L.map siA ∧ yjn L p.toNat,.w (.bool true),[]⟩
 | _,_ => zeh
section
set_option maxRecDepth 100000
set_option maxHeartbeats 16000000
theorem ygz : zbk Try.prog 18 frlS := by
 refine zbm (S := noS) (T := tyF) mixed yee zki Try.func18 (c := Try.f18.body.getD .skip) (by kernel_rfl) (by kernel_rfl) (fun xs pins hp _ => ?_)
 unfold frlS at hp ⊢
 split at hp
 ·rename_i xs f p _
  obtain ⟨⟨p0,p3⟩,hL,L,rfl,hF⟩ := hp
  rw [List.length_map] at hL
  obtain ⟨P,rfl⟩ : ∃ P : Nat,p = P := ⟨p.toNat,by omega⟩
  rw [Int.toNat_natCast] at hF
  have hlp : (L.map siA).length = L.length := by simp
  have hm8 : ((P : Nat) : Int) * 8 ≤ 1099511627776 := by omega
  have hz : cntL P (preL L 0 0) = List.replicate P 0 := by
   refine List.ext_getElem (by simp [zgs]) fun q h1 h2 => ?_
   have hq : q < P := by simpa [zgs] using h1
   rw [zot _ hq]
   simp [preL]
  refine ⟨by simp,?_⟩
  unfold Try.f18
  simp only [go_sem,zaa,↓reduceIte,tyF,zat,ty,noS,hlp,Int.toNat_natCast]
  repeat (refine And.intro (by first | omega | exact ⟨by omega,by omega⟩) ?_)
  refine zas ⟨fun m σ => ∃ (i : Nat),m = L.length - i ∧ i ≤ L.length ∧
   σ = ⟨[.sg 1 (L.map siA) f,.w (.int .i64 P),.junk,.junk,.w (.bool false),.ms 4 1 0 P,.w (.int .i64 i),.junk,.junk,.junk,.junk,.junk,.junk,.junk,.junk,.junk,.junk,.junk,.junk,.junk,.junk,.junk,.junk,.junk,.junk,.junk,.junk,.junk,.junk,.junk,.junk,.junk,.junk,.junk,.junk,.junk,.junk,.junk,.junk,.junk,.junk,.junk,.junk,.junk,.junk,.junk,.junk,.junk,.junk,.junk,.junk,.junk,.junk,.junk,.junk,.junk,.junk,.junk,.junk,.junk,.junk,.junk,.junk,.junk,.junk,.junk,.junk,.junk,.junk,.junk,.junk,.junk,.junk,.junk,.junk,.junk,.junk,.junk,.junk,.junk,.junk,.junk,.junk,.junk,.junk,.junk,.junk,.junk,.junk,.junk,.junk,.junk,.junk,.junk,.junk,.junk],[(4,.i (cntL P (preL L i 0)))],5⟩,?_,?_⟩
  ·refine ⟨_,_,zaf [0,1,2,3,20] rfl rfl rfl ?_ ?_,0,rfl,by omega,rfl⟩
   ·simp only [ssT,zai,zaj,setSlot,gOf,AV.ren,renL,Blk.ren,Ax.look,Ax.put,reduceCtorEq,↓reduceIte,Nat.reduceEqDiff,Nat.reduceLT,Nat.reduceAdd,List.length_append,List.length_cons,List.length_nil,Option.some.injEq,zbi]; try simp
   ·simp only [ssT,zai,zaj,setSlot,gOf,AV.ren,renL,Blk.ren,Ax.look,Ax.put,reduceCtorEq,↓reduceIte,Nat.reduceEqDiff,Nat.reduceLT,Nat.reduceAdd,List.length_append,List.length_cons,List.length_nil,Option.some.injEq,hz]; try simp
  ·rintro m σ ⟨i,rfl,hi,rfl⟩
   have e1 : ((i : Int) + 1 + 9223372036854775808) % 18446744073709551616 - 9223372036854775808 = ((i + 1 : Nat) : Int) := by omega
   by_cases hil : i < L.length
   ·have d1 : decide ((i : Int) < (L.length : Int)) = true := decide_eq_true (by omega)
    have hs1 := zgo L i hil
    have hs0 := zgo L 0 (by omega)
    have hrw := hF.row _ (List.getElem_mem hil)
    have hln := hF.len _ (List.getElem_mem hil)
    have h00 : L.getD 0 [] = L[0]'(by omega) := by rw [List.getD_eq_getElem?_getD,List.getElem?_eq_getElem (by omega)]; rfl
    have hpn := yfk L i hil
    have hps := yfj L i
    have hpc := yco L i
    rw [h00] at hln
    obtain ⟨r0,hr0⟩ : ∃ r0,L[0]'(by omega) = r0 := ⟨_,rfl⟩
    rw [hr0] at hs0 hln
    obtain ⟨r,hr⟩ : ∃ r,L[i] = r := ⟨_,rfl⟩
    rw [hr] at hs1 hrw hln hpn
    obtain ⟨hr6,hrp,hrb⟩ := hrw
    simp only [go_sem,zaa,↓reduceIte,tyF,zat,ty,noS,hlp,d1]
    refine zas ⟨fun m σ => ∃ (k : Nat),m = r.length - k ∧ k ≤ r.length ∧
     σ = ⟨[.sg 1 (L.map siA) f,.w (.int .i64 P),.junk,.junk,.w (.bool false),.ms 4 1 0 P,.w (.int .i64 i),.w (.int .i64 k),.junk,.junk,.junk,.junk,.junk,.junk,.junk,.junk,.junk,.junk,.junk,.junk,.junk,.junk,.junk,.junk,.junk,.junk,.junk,.junk,.junk,.junk,.junk,.junk,.junk,.junk,.junk,.junk,.junk,.junk,.junk,.junk,.junk,.junk,.junk,.junk,.junk,.junk,.junk,.junk,.junk,.junk,.junk,.junk,.junk,.junk,.junk,.junk,.junk,.junk,.junk,.junk,.junk,.junk,.junk,.junk,.junk,.junk,.junk,.junk,.junk,.junk,.junk,.junk,.junk,.junk,.junk,.junk,.junk,.junk,.junk,.junk,.junk,.junk,.junk,.junk,.junk,.junk,.junk,.junk,.junk,.junk,.junk,.junk,.junk,.junk,.junk,.junk],[(4,.i (cntL P (preL L i k)))],5⟩,?_,?_⟩
    ·refine ⟨_,_,zaf [0,1,2,3,4] rfl rfl rfl ?_ ?_,0,rfl,by omega,rfl⟩
     ·simp only [ssT,zai,zaj,setSlot,gOf,AV.ren,renL,Blk.ren,Ax.look,Ax.put,reduceCtorEq,↓reduceIte,Nat.reduceEqDiff,Nat.reduceLT,Nat.reduceAdd,List.length_append,List.length_cons,List.length_nil,Option.some.injEq,zbi]; try simp
     ·simp only [ssT,zai,zaj,setSlot,gOf,AV.ren,renL,Blk.ren,Ax.look,Ax.put,reduceCtorEq,↓reduceIte,Nat.reduceEqDiff,Nat.reduceLT,Nat.reduceAdd,List.length_append,List.length_cons,List.length_nil,Option.some.injEq]; try simp
    ·rintro m σ ⟨k,rfl,hk,rfl⟩
     have e2 : ((k : Int) + 1 + 9223372036854775808) % 18446744073709551616 - 9223372036854775808 = ((k + 1 : Nat) : Int) := by omega
     by_cases hkl : k < r.length
     ·have d2 : decide ((k : Int) < (r.length : Int)) = true := decide_eq_true (by omega)
      have hxb := hrb _ (List.getElem_mem hkl)
      have hsn := hps k hil (by rw [hr]; exact hkl)
      obtain ⟨j,hj⟩ : ∃ j : Nat,r[k] = ((j : Nat) : Int) := ⟨r[k].toNat,by have := hxb.1; omega⟩
      have hsn : preL L i k ++ [((j : Nat) : Int)] = preL L i (k + 1) := hsnT hr hj hsn
      rw [hj] at hxb
      have hjP : j < P := by have := hxb.2; omega
      have hcp := hpc k ((j : Nat) : Int)
      have hc1 := hF.all j hjP
      have hcs := ylm (preL L i k) hjP
      have hca := zot (preL L i k) hjP
      have hcl := zgs P (preL L i k)
      rw [hsn] at hcs
      have hx : r.getD k 0 = ((j : Nat) : Int) := by rw [List.getD_eq_getElem?_getD,List.getElem?_eq_getElem hkl]; exact hj
      have hv : (cntL P (preL L i k)).getD j 0 = (((preL L i k).count ((j : Nat) : Int) : Nat) : Int) := by rw [List.getD_eq_getElem?_getD,List.getElem?_eq_getElem (by rw [hcl]; exact hjP)]; exact hca
      obtain ⟨c,hc⟩ : ∃ c,(preL L i k).count ((j : Nat) : Int) = c := ⟨_,rfl⟩
      rw [hc] at hcp hcs hv
      clear hca hc
      obtain ⟨C,hC⟩ : ∃ C,cntL P (preL L i k) = C := ⟨_,rfl⟩
      obtain ⟨D,hD⟩ : ∃ D,cntL P (preL L i (k + 1)) = D := ⟨_,rfl⟩
      rw [hC] at hcs hv hcl
      rw [hD] at hcs
      rw [hC]
      have e3 : (((c : Nat) : Int) + 1 + 9223372036854775808) % 18446744073709551616 - 9223372036854775808 = (c : Int) + 1 := by omega
      have d5 : decide (((j : Nat) : Int) < 0) = false := decide_eq_false (by omega)
      have d6 : decide (((P : Nat) : Int) ≤ ((j : Nat) : Int)) = false := decide_eq_false (by omega)
      have q1 : ((0 : Int) ≤ ((j : Nat) : Int)) = True := eq_true (by omega)
      have q2 : (((j : Nat) : Int) < ((P : Nat) : Int)) = True := eq_true (by omega)
      by_cases hk0 : k = 0
      ·have d7 : decide ((0 : Int) < (k : Int)) = false := decide_eq_false (by omega)
       simp only [go_sem,zaa,↓reduceIte,tyF,zat,ty,noS,hlp,hs1,hs0,d2,d5,d6,d7,e2,e3,hx,hv,hcs,hcl,q1,q2,hjP,Int.toNat_natCast]
       repeat (first | refine And.intro (by omega) ?_ | refine And.intro ⟨by omega,by omega⟩ ?_)
       try (refine ⟨r.length - (k + 1),_,by omega,zaf [0,1,2,3,4] rfl rfl rfl ?_ ?_,k + 1,rfl,by omega,rfl⟩)
       ·simp only [ssT,zai,zaj,setSlot,gOf,AV.ren,renL,Blk.ren,Ax.look,Ax.put,reduceCtorEq,↓reduceIte,Nat.reduceEqDiff,Nat.reduceLT,Nat.reduceAdd,List.length_append,List.length_cons,List.length_nil,Option.some.injEq,zbi,hD]; try simp
       ·simp only [ssT,zai,zaj,setSlot,gOf,AV.ren,renL,Blk.ren,Ax.look,Ax.put,reduceCtorEq,↓reduceIte,Nat.reduceEqDiff,Nat.reduceLT,Nat.reduceAdd,List.length_append,List.length_cons,List.length_nil,Option.some.injEq,hD]; try simp
      ·have d7 : decide ((0 : Int) < (k : Int)) = true := decide_eq_true (by omega)
       have e4 : ((k : Int) - 1 + 9223372036854775808) % 18446744073709551616 - 9223372036854775808 = ((k - 1 : Nat) : Int) := by omega
       have hlt := List.pairwise_iff_getElem.1 hrp (k - 1) k (by omega) hkl (by omega)
       have hy : r.getD (k - 1) 0 = r[k - 1]'(by omega) := by rw [List.getD_eq_getElem?_getD,List.getElem?_eq_getElem (by omega)]; rfl
       rw [hj,← hy] at hlt
       obtain ⟨Y,hY⟩ : ∃ Y,r.getD (k - 1) 0 = Y := ⟨_,rfl⟩
       rw [hY] at hlt
       obtain ⟨k1,hk1⟩ : ∃ k1,k - 1 = k1 := ⟨_,rfl⟩
       rw [hk1] at e4 hY
       have hk1l : k1 < r.length := by omega
       have d8 : decide (((j : Nat) : Int) ≤ Y) = false := decide_eq_false (by omega)
       simp only [go_sem,zaa,↓reduceIte,tyF,zat,ty,noS,hlp,hs1,hs0,d2,d5,d6,d7,d8,e2,e3,e4,hx,hv,hY,hcs,hcl,q1,q2,hjP,Int.toNat_natCast]
       repeat (first | refine And.intro (by omega) ?_ | refine And.intro ⟨by omega,by omega⟩ ?_)
       try (refine ⟨r.length - (k + 1),_,by omega,zaf [0,1,2,3,4] rfl rfl rfl ?_ ?_,k + 1,rfl,by omega,rfl⟩)
       ·simp only [ssT,zai,zaj,setSlot,gOf,AV.ren,renL,Blk.ren,Ax.look,Ax.put,reduceCtorEq,↓reduceIte,Nat.reduceEqDiff,Nat.reduceLT,Nat.reduceAdd,List.length_append,List.length_cons,List.length_nil,Option.some.injEq,zbi,hD]; try simp
       ·simp only [ssT,zai,zaj,setSlot,gOf,AV.ren,renL,Blk.ren,Ax.look,Ax.put,reduceCtorEq,↓reduceIte,Nat.reduceEqDiff,Nat.reduceLT,Nat.reduceAdd,List.length_append,List.length_cons,List.length_nil,Option.some.injEq,hD]; try simp
     ·have d2 : decide ((k : Int) < (r.length : Int)) = false := decide_eq_false (by omega)
      obtain rfl : k = r.length := by omega
      have d5 : decide ((r0.length : Int) < (r.length : Int)) = false := decide_eq_false (by omega)
      have d6 : decide ((r.length : Int) + 1 < (r0.length : Int)) = false := decide_eq_false (by omega)
      have e3 : ((r.length : Int) + 1 + 9223372036854775808) % 18446744073709551616 - 9223372036854775808 = (r.length : Int) + 1 := by omega
      have hL0 : 0 < L.length := by omega
      rw [← hpn]
      simp only [go_sem,zaa,↓reduceIte,tyF,zat,ty,noS,hlp,hs1,hs0,d2,Int.toNat_natCast]
      repeat (first | refine And.intro (by omega) ?_ | refine And.intro ⟨by omega,by omega⟩ ?_)
      refine ⟨_,Weak.refl _,?_⟩
      simp only [go_sem,zaa,↓reduceIte,tyF,zat,ty,noS,hlp,hs1,hs0,d5,d6,e1,e3,Int.toNat_natCast]
      repeat (first | refine And.intro (by omega) ?_ | refine And.intro ⟨by omega,by omega⟩ ?_)
      refine ⟨L.length - (i + 1),_,by omega,zaf [0,1,2,3,4] rfl rfl rfl ?_ ?_,i + 1,rfl,by omega,rfl⟩
      ·simp only [ssT,zai,zaj,setSlot,gOf,AV.ren,renL,Blk.ren,Ax.look,Ax.put,reduceCtorEq,↓reduceIte,Nat.reduceEqDiff,Nat.reduceLT,Nat.reduceAdd,List.length_append,List.length_cons,List.length_nil,Option.some.injEq,zbi]; try simp
      ·simp only [ssT,zai,zaj,setSlot,gOf,AV.ren,renL,Blk.ren,Ax.look,Ax.put,reduceCtorEq,↓reduceIte,Nat.reduceEqDiff,Nat.reduceLT,Nat.reduceAdd,List.length_append,List.length_cons,List.length_nil,Option.some.injEq]; try simp
   ·have d1 : decide ((i : Int) < (L.length : Int)) = false := decide_eq_false (by omega)
    obtain rfl : i = L.length := by omega
    rw [yke]
    have hcl := zgs P L.flatten
    have hat : ∀ q,q < P → (cntL P L.flatten).getD q 0 = 1 := fun q hq => by
     rw [List.getD_eq_getElem?_getD,List.getElem?_eq_getElem (by rw [hcl]; exact hq),Option.getD_some,zot _ hq,hF.all q hq]; rfl
    obtain ⟨C,hC⟩ : ∃ C,cntL P L.flatten = C := ⟨_,rfl⟩
    rw [hC] at hcl hat ⊢
    simp only [go_sem,zaa,↓reduceIte,tyF,zat,ty,noS,hlp,d1]
    refine ⟨_,Weak.refl _,?_⟩
    simp only [go_sem,zaa,↓reduceIte,tyF,zat,ty,noS,hlp]
    refine zas ⟨fun m σ => ∃ (q : Nat),m = P - q ∧ q ≤ P ∧
     σ = ⟨[.sg 1 (L.map siA) f,.w (.int .i64 P),.junk,.junk,.w (.bool false),.ms 4 1 0 P,.junk,.junk,.junk,.w (.int .i64 q),.junk,.junk,.junk,.junk,.junk,.junk,.junk,.junk,.junk,.junk,.junk,.junk,.junk,.junk,.junk,.junk,.junk,.junk,.junk,.junk,.junk,.junk,.junk,.junk,.junk,.junk,.junk,.junk,.junk,.junk,.junk,.junk,.junk,.junk,.junk,.junk,.junk,.junk,.junk,.junk,.junk,.junk,.junk,.junk,.junk,.junk,.junk,.junk,.junk,.junk,.junk,.junk,.junk,.junk,.junk,.junk,.junk,.junk,.junk,.junk,.junk,.junk,.junk,.junk,.junk,.junk,.junk,.junk,.junk,.junk,.junk,.junk,.junk,.junk,.junk,.junk,.junk,.junk,.junk,.junk,.junk,.junk,.junk,.junk,.junk,.junk],[(4,.i C)],5⟩,?_,?_⟩
    ·refine ⟨_,_,zaf [0,1,2,3,4] rfl rfl rfl ?_ ?_,0,rfl,by omega,rfl⟩
     ·simp only [ssT,zai,zaj,setSlot,gOf,AV.ren,renL,Blk.ren,Ax.look,Ax.put,reduceCtorEq,↓reduceIte,Nat.reduceEqDiff,Nat.reduceLT,Nat.reduceAdd,List.length_append,List.length_cons,List.length_nil,Option.some.injEq,zbi]; try simp
     ·simp only [ssT,zai,zaj,setSlot,gOf,AV.ren,renL,Blk.ren,Ax.look,Ax.put,reduceCtorEq,↓reduceIte,Nat.reduceEqDiff,Nat.reduceLT,Nat.reduceAdd,List.length_append,List.length_cons,List.length_nil,Option.some.injEq]; try simp
    ·rintro m σ ⟨q,rfl,hq,rfl⟩
     have e2 : ((q : Int) + 1 + 9223372036854775808) % 18446744073709551616 - 9223372036854775808 = ((q + 1 : Nat) : Int) := by omega
     by_cases hqP : q < P
     ·have d5 : decide ((q : Int) < (P : Int)) = true := decide_eq_true (by omega)
      have hq1 := hat q hqP
      have d6 : decide ((1 : Int) = 1) = true := rfl
      simp only [go_sem,zaa,↓reduceIte,tyF,zat,ty,noS,hcl,hqP,hq1,d5,d6,e2,Int.toNat_natCast,Bool.not_true]
      repeat (first | refine And.intro (by omega) ?_ | refine And.intro ⟨by omega,by omega⟩ ?_)
      refine ⟨P - (q + 1),_,by omega,zaf [0,1,2,3,4] rfl rfl rfl ?_ ?_,q + 1,rfl,by omega,rfl⟩
      ·simp only [ssT,zai,zaj,setSlot,gOf,AV.ren,renL,Blk.ren,Ax.look,Ax.put,reduceCtorEq,↓reduceIte,Nat.reduceEqDiff,Nat.reduceLT,Nat.reduceAdd,List.length_append,List.length_cons,List.length_nil,Option.some.injEq,zbi]; try simp
      ·simp only [ssT,zai,zaj,setSlot,gOf,AV.ren,renL,Blk.ren,Ax.look,Ax.put,reduceCtorEq,↓reduceIte,Nat.reduceEqDiff,Nat.reduceLT,Nat.reduceAdd,List.length_append,List.length_cons,List.length_nil,Option.some.injEq]; try simp
     ·have d5 : decide ((q : Int) < (P : Int)) = false := decide_eq_false (by omega)
      simp only [go_sem,zaa,↓reduceIte,tyF,zat,ty,noS,d5]
      refine ⟨_,Weak.refl _,?_⟩
      simp only [go_sem,zaa,↓reduceIte,tyF,zat,ty,noS]
 ·exact hp.elim
end
end Go.Proofs.Ytffdpbbbdmmdlaa
namespace Go.Proofs.Ytffdpbbbdmmdlaa
open Ax
theorem zvp {l : List Int} {a : Int} (hn : l.Nodup) (h : a ∈ l) : l.count a = 1 := by
 have h1 := List.nodup_iff_count.1 hn a
 have h2 := List.count_pos_iff.2 h
 omega
theorem zna (a s j : Nat) (hs : 0 < s) : (apI a s j).Pairwise (· < ·) := by
 unfold apI
 rw [List.pairwise_map]
 refine List.pairwise_lt_range.imp fun {x y} hxy => ?_
 have : s * (x + 1) ≤ s * y := Nat.mul_le_mul_left s hxy
 rw [Nat.mul_add,Nat.mul_one] at this
 omega
theorem zqi {l : List Int} (h : l.Pairwise (· < ·)) : l.Nodup := h.imp fun {x y} hxy e => by omega
theorem apI_mem {a s j : Nat} {q : Nat} : ((q : Nat) : Int) ∈ apI a s j ↔ ∃ i,i < j ∧ q = a + s * i := by
 unfold apI
 rw [List.mem_map]
 constructor
 ·rintro ⟨i,hi,e⟩
  exact ⟨i,List.mem_range.1 hi,by omega⟩
 ·rintro ⟨i,hi,rfl⟩
  exact ⟨i,List.mem_range.2 hi,rfl⟩
theorem yje {a s p : Nat} (hs : 0 < s) : ∀ x ∈ apI a s (cJ a s p),0 ≤ x ∧ x < (p : Int) := by
 intro x hx
 unfold apI at hx
 obtain ⟨i,hi,rfl⟩ := List.mem_map.1 hx
 have := (zhw hs).1 (List.mem_range.1 hi)
 exact ⟨by omega,by omega⟩
theorem yqs {a s p : Nat} (hs : 0 < s) : cJ a s p ≤ p := by
 refine Nat.not_lt.1 fun h => ?_
 have h3 := (zhw (a := a) (s := s) (p := p) (j := p) hs).1 h
 have h4 : 1 * p ≤ s * p := Nat.mul_le_mul_right _ hs
 omega
theorem znv {P n k : Nat} (hk : k < n) : zcu P n k = cJ k n P := by
 have hn : 0 < n := by omega
 have hdm := Nat.div_add_mod P n
 have hml := Nat.mod_lt P hn
 have key : ∀ j,j < zcu P n k ↔ k + n * j < P := by
  intro j
  unfold zcu
  generalize P / n = Q at *
  generalize P % n = R at *
  rcases Nat.lt_trichotomy j Q with h | h | h
  ·have h1 : n * (j + 1) ≤ n * Q := Nat.mul_le_mul_left n h
   rw [Nat.mul_add,Nat.mul_one] at h1
   constructor
   ·intro _; omega
   ·intro _; omega
  ·subst h
   constructor
   ·intro h2; split at h2 <;> omega
   ·intro h2; rw [if_pos (by omega)]; omega
  ·have h1 : n * (Q + 1) ≤ n * j := Nat.mul_le_mul_left n h
   rw [Nat.mul_add,Nat.mul_one] at h1
   constructor
   ·intro h2; split at h2 <;> omega
   ·intro h2; omega
 refine Nat.le_antisymm (Nat.not_lt.1 fun h => ?_) (Nat.not_lt.1 fun h => ?_)
 ·exact Nat.lt_irrefl _ ((zhw hn).2 ((key _).1 h))
 ·exact Nat.lt_irrefl _ ((key _).2 ((zhw hn).1 h))
theorem ybe {P n k : Nat} (hk : k < n) : cJ k n P ≤ cJ 0 n P ∧ cJ 0 n P ≤ cJ k n P + 1 := by
 rw [← znv hk,← znv (show 0 < n by omega)]
 unfold zcu
 split <;> split <;> omega
theorem yel (m : Nat) : ∀ n,((List.range n).map fun k => if k = m then 1 else 0).sum = if m < n then 1 else 0
 | 0 => rfl
 | n + 1 => by
  rw [List.range_succ,List.map_append,List.sum_append,yel m n]
  simp only [List.map_cons,List.map_nil,List.sum_cons,List.sum_nil,Nat.add_zero]
  by_cases e : n = m
  ·subst e; rw [if_neg (Nat.lt_irrefl _),if_pos rfl,if_pos (Nat.lt_succ_self _)]
  ·rw [if_neg e]
   by_cases h : m < n
   ·rw [if_pos h,if_pos (by omega)]
   ·rw [if_neg h,if_neg (by omega)]
theorem yjt {n P : Nat} (hn : 0 < n) (hP : P ≤ 1000) : yjn (tnL n P) P := by
 have hrow : ∀ k,k < n → tnK n P k = apI k n (cJ k n P) := zzg n hn P
 have h0 : (tnL n P).getD 0 [] = apI 0 n (cJ 0 n P) := by
  unfold tnL
  rw [List.getD_eq_getElem?_getD,List.getElem?_map,List.getElem?_range hn]
  exact hrow 0 hn
 refine ⟨fun r hr => ?_,fun r hr => ?_,fun q hq => ?_⟩
 ·obtain ⟨k,hk,rfl⟩ := List.mem_map.1 hr
  have hk := List.mem_range.1 hk
  rw [hrow k hk]
  refine ⟨?_,zna _ _ _ hn,yje hn⟩
  rw [zmb]
  have := yqs (a := k) (s := n) (p := P) hn
  omega
 ·obtain ⟨k,hk,rfl⟩ := List.mem_map.1 hr
  have hk := List.mem_range.1 hk
  rw [hrow k hk,h0,zmb,zmb]
  exact ybe hk
 ·rw [List.count_flatten]
  unfold tnL
  rw [List.map_map]
  have hdm := Nat.div_add_mod q n
  have hml := Nat.mod_lt q hn
  have : (List.range n).map ((List.count ((q : Nat) : Int)) ∘ tnK n P) = (List.range n).map fun k => if k = q % n then 1 else 0 := by
   refine List.map_congr_left fun k hk => ?_
   have hk := List.mem_range.1 hk
   show List.count ((q : Nat) : Int) (tnK n P k) = _
   rw [hrow k hk]
   by_cases e : k = q % n
   ·rw [if_pos e]
    refine zvp (zqi (zna _ _ _ hn)) (apI_mem.2 ⟨q / n,(zhw hn).2 (by omega),by omega⟩)
   ·rw [if_neg e,List.count_eq_zero]
    intro h
    obtain ⟨i,hi,e2⟩ := apI_mem.1 h
    refine e ?_
    rw [e2,Nat.add_mul_mod_self_left,Nat.mod_eq_of_lt hk]
  rw [this,yel,if_pos hml]
theorem ykr (s m k : Nat) : iotI s m ++ iotI (s + m) k = iotI s (m + k) := by
 unfold iotI
 rw [List.range_add,List.map_append,List.map_map]
 congr 1
 refine List.map_congr_left fun j _ => ?_
 simp; omega
theorem zzp (P n : Nat) : ∀ k,(rgK P n k).1.flatten = iotI 0 (rgK P n k).2
 | 0 => rfl
 | k + 1 => by
  simp only [rgK]
  rw [List.flatten_append,zzp P n k]
  simp only [List.flatten_cons,List.flatten_nil,List.append_nil]
  have := ykr 0 (rgK P n k).2 (zcu P n k)
  rw [Nat.zero_add] at this
  exact this
theorem zxp (P n : Nat) : ∀ k,∀ r ∈ (rgK P n k).1,∃ j,j < k ∧ r = iotI (rgK P n j).2 (zcu P n j)
 | 0 => by intro r hr; cases hr
 | k + 1 => by
  intro r hr
  simp only [rgK] at hr
  rcases List.mem_append.1 hr with h | h
  ·obtain ⟨j,hj,e⟩ := zxp P n k r h; exact ⟨j,by omega,e⟩
  ·rw [List.mem_singleton] at h; exact ⟨k,by omega,h⟩
theorem ztu (P n : Nat) : ∀ k i (h : i < (rgK P n k).1.length),(rgK P n k).1[i].length = zcu P n i
 | 0,i,h => absurd h (by simp [rgK])
 | k + 1,i,h => by
  have hl := zhl P n k
  have hl1 := zhl P n (k + 1)
  by_cases e : i < k
  ·have := ztu P n k i (by omega)
   rw [← this]
   simp only [rgK]
   rw [List.getElem_append_left (by omega)]
  ·obtain rfl : i = k := by omega
   simp only [rgK]
   rw [List.getElem_append_right (by omega)]
   simp [hl,zkn]
theorem yka {n : Nat} (hn : 0 < n) (p : Int) : yjn (rgF n p) (clpN p) := by
 have hP := zgt p
 have hlen : (rgF n p).length = n := zsf _ _
 unfold rgF at hlen ⊢
 generalize clpN p = P at hP hlen ⊢
 have hall := zzq P n hn
 have hfl := zzp P n n
 rw [zzr P n hn] at hfl
 have h0 : ((rgK P n n).1.getD 0 []).length = zcu P n 0 := by
  rw [List.getD_eq_getElem?_getD,List.getElem?_eq_getElem (by omega)]
  exact ztu P n n 0 (by omega)
 have hm : ∀ k,k < n → zcu P n k ≤ zcu P n 0 ∧ zcu P n 0 ≤ zcu P n k + 1 := fun k hk => by
  rw [znv hk,znv hn]; exact ybe hk
 refine ⟨fun r hr => ?_,fun r hr => ?_,fun q hq => ?_⟩
 ·obtain ⟨j,hj,rfl⟩ := zxp P n n r hr
  have h1 := hall (j + 1) (by omega)
  have h1 : (rgK P n j).2 + zcu P n j ≤ P := h1
  rw [← zza]
  refine ⟨by rw [zmb]; omega,zna _ _ _ (by decide),fun x hx => ?_⟩
  unfold apI at hx
  obtain ⟨i,hi,rfl⟩ := List.mem_map.1 hx
  have := List.mem_range.1 hi
  exact ⟨by omega,by omega⟩
 ·obtain ⟨j,hj,rfl⟩ := zxp P n n r hr
  rw [h0,zkn]
  exact hm j hj
 ·rw [hfl,← zza]
  exact zvp (zqi (zna _ _ _ (by decide))) (apI_mem.2 ⟨q,hq,by omega⟩)
theorem yjz {n : Nat} (hn : 0 < n) (p : Int) (i : Nat) (h : i < (rgF n p).length) (h' : i < (tnL n (clpN p)).length) : (rgF n p)[i].length = (tnL n (clpN p))[i].length := by
 have hl : (rgF n p).length = n := zsf _ _
 have h1 : (rgF n p)[i].length = zcu (clpN p) n i := ztu (clpN p) n n i h
 have h2 : (tnL n (clpN p))[i] = tnK n (clpN p) i := by simp [tnL]
 have hin : i < n := by rw [hl] at h; exact h
 rw [h1,h2,zzg n hn (clpN p) i hin,zmb,znv hin]
theorem yez {n : Nat} (p : Int) (i : Nat) (h : i + 1 < (rgF n p).length) : (rgF n p)[i + 1].length ≤ (rgF n p)[i].length := by
 have h1 : (rgF n p)[i + 1].length = zcu (clpN p) n (i + 1) := ztu (clpN p) n n (i + 1) h
 have h2 : (rgF n p)[i].length = zcu (clpN p) n i := ztu (clpN p) n n i (show i < (rgF n p).length by omega)
 rw [h1,h2]
 unfold zcu
 generalize clpN p / n = Q
 generalize clpN p % n = R
 split <;> split <;> omega
def aeS : zaz
 | [.sg 1 xs f,.w (.int .u8 p)],[] => ⟨(xs.length ≤ 9223372036854775807 ∧ ∃ l : List (List UInt8),xs = l.map AV.str ∧ ∀ r ∈ l,r.length ≤ 9223372036854775807) ∧ 0 ≤ p ∧ p < 256,.w (.bool true),[]⟩
 | _,_ => zeh
def Sae (f : FuncId) : Option zaz :=
 match f with
 | 7 => some yesS
 | 6 => some rliT
 | 8 => some sdGS
 | 11 => some rgGS
 | 13 => some tnS
 | 18 => some frlS
 | _ => none
theorem yqd : Fns Try.prog Sae := by
 intro f s h
 unfold Sae at h
 split at h
 ·injection h with h; subst h; exact ⟨⟨_,Try.func7,by kernel_rfl,by kernel_rfl⟩,zlz⟩
 ·injection h with h; subst h; exact ⟨⟨_,Try.func6,by kernel_rfl,by kernel_rfl⟩,zlk⟩
 ·injection h with h; subst h; exact ⟨⟨_,Try.func8,by kernel_rfl,by kernel_rfl⟩,zhj⟩
 ·injection h with h; subst h; exact ⟨⟨_,Try.func11,by kernel_rfl,by kernel_rfl⟩,znp⟩
 ·injection h with h; subst h; exact ⟨⟨_,Try.func13,by kernel_rfl,by kernel_rfl⟩,zry⟩
 ·injection h with h; subst h; exact ⟨⟨_,Try.func18,by kernel_rfl,by kernel_rfl⟩,ygz⟩
 ·cases h
section
set_option maxRecDepth 100000
set_option maxHeartbeats 16000000
theorem ae_law : zbk Try.prog 4 aeS := by
 refine zbm (S := Sae) (T := ty) mixed ty_ok yqd Try.func4 (c := Try.f4.body.getD .skip) (by kernel_rfl) (by kernel_rfl) (fun xs pins hp _ => ?_)
 unfold aeS at hp ⊢
 split at hp
 ·rename_i xs f p _
  obtain ⟨⟨hL9,l,rfl,hd⟩,p0,p2⟩ := hp
  rw [List.length_map] at hL9
  have hle : (l.map AV.str).length = l.length := by simp
  have hst := zba l
  have hxd : ∃ k : List (List UInt8),l.map AV.str = k.map AV.str ∧ ∀ r ∈ k,r.length ≤ 9223372036854775807 := ⟨l,rfl,hd⟩
  have hex : ∃ k : List (List UInt8),l.map AV.str = k.map AV.str := ⟨l,rfl⟩
  have hp8 : (p + 9223372036854775808) % 18446744073709551616 - 9223372036854775808 = p := by omega
  refine ⟨by simp,?_⟩
  unfold Try.f4
  cases hB : znx l with
  | false => simp only [go_sem,zaa,↓reduceIte,ty,Sae,yesS,rliT,hle,hst,hxd,hL9,hB,zbh,Bool.not_true,Bool.not_false]
  | true =>
   have hl40 : l.length ≤ 40 := by unfold znx at hB; simp only [Bool.and_eq_true,decide_eq_true_eq] at hB; exact hB.1
   have hL : l.length ≤ 1000000 := by omega
   have hUl := zcx l
   have hUz := srtU_zero (l := l)
   obtain ⟨U,hU⟩ : ∃ U,srtU l = U := ⟨_,rfl⟩
   rw [hU] at hUl hUz
   have hPl := zgt p
   have hPc : clpN p = p.toNat := by unfold clpN; omega
   have hRl : (rgF U.length p).length = U.length := zsf _ _
   have hTl := zxb U.length (clpN p)
   have hrl := fun hn i h h' => yjz (n := U.length) hn p i h h'
   have hrf := fun i h => yez (n := U.length) p i h
   have hRF := fun hn => yka (n := U.length) hn p
   have hTF := fun hn => yjt (n := U.length) (P := clpN p) hn hPl
   obtain ⟨RR,hRR⟩ : ∃ RR,rgF U.length p = RR := ⟨_,rfl⟩
   obtain ⟨TT,hTT⟩ : ∃ TT,tnL U.length (clpN p) = TT := ⟨_,rfl⟩
   rw [hRR] at hRl hRF
   rw [hTT] at hTl hTF
   simp only [hRR,hTT] at hrl hrf
   have hRm : (RR.map siA).length = U.length := by simp [hRl]
   have hTm : (TT.map siA).length = U.length := by simp [hTl]
   obtain ⟨E,hE⟩ : ∃ E,decide (U.length = 0) = E := ⟨_,rfl⟩
   by_cases hz : l.length = 0
   ·have hU0 : U.length = 0 := hUz.2 hz
    have dz : decide (((l.length : Nat) : Int) = 0) = true := decide_eq_true (by omega)
    have dz2 : (((U.length : Nat) : Int) + ((U.length : Nat) : Int) + 9223372036854775808) % 18446744073709551616 - 9223372036854775808 = 0 := by omega
    have d00 : decide ((0 : Int) = 0) = true := rfl
    simp only [go_sem,zaa,↓reduceIte,ty,Sae,yesS,rliT,rgGS,tnS,hle,hst,hxd,hex,hL9,hL,hB,hp8,hU,hRR,hTT,hRm,hTm,hE,dz,dz2,d00,zbh,zmx,Bool.not_true,Bool.not_false]
   ·have hU0 : 0 < U.length := by omega
    have dz : decide (((l.length : Nat) : Int) = 0) = false := decide_eq_false (by omega)
    have di : ∀ k : Int,decide (k = k) = true := fun k => decide_eq_true rfl
    have hUm : (U.map AV.str).length = U.length := by simp
    have hxR : ∃ L : List (List Int),RR.map siA = L.map siA ∧ yjn L p.toNat := ⟨RR,rfl,hPc ▸ hRF hU0⟩
    have hxT : ∃ L : List (List Int),TT.map siA = L.map siA ∧ yjn L p.toNat := ⟨TT,rfl,hPc ▸ hTF hU0⟩
    have hrl := hrl hU0
    obtain ⟨E2,hE2⟩ : ∃ E2,empT (l.map AV.str) = E2 := ⟨_,rfl⟩
    simp only [go_sem,zaa,↓reduceIte,ty,Sae,yesS,rliT,sdGS,rgGS,tnS,hle,hst,hxd,hex,hL9,hL,hB,hp8,hU,hUm,hRR,hTT,hRm,hTm,hE,hE2,dz,di,zbh,zmx,Bool.not_true,Bool.not_false]
    refine zas ⟨fun m σ => ∃ (i : Nat),m = U.length - i ∧ 1 ≤ i ∧ i ≤ U.length ∧
     σ = ⟨[.sg 1 (l.map .str) f,.w (.int .u8 p),.junk,.junk,.w (.bool false),.sg 1 (RR.map siA) false,.sg 1 (TT.map siA) E,.w (.int .i64 i),.junk,.junk,.junk,.junk,.junk,.junk,.junk,.junk,.junk,.junk,.junk,.junk,.junk,.junk,.junk,.junk,.junk,.junk,.junk,.junk,.junk,.junk,.junk,.junk,.junk,.junk,.junk,.junk,.junk,.junk,.junk,.junk,.junk,.junk,.junk,.junk,.junk,.junk,.junk,.junk,.junk,.junk,.junk,.junk,.junk,.junk,.junk,.junk,.junk,.junk,.junk,.junk,.junk,.junk,.junk,.junk,.junk,.junk,.junk,.junk,.junk,.junk,.junk,.junk,.junk,.junk,.junk,.junk,.junk,.junk,.junk,.junk,.junk,.junk,.junk,.junk,.junk,.junk,.junk,.junk,.junk],[],4⟩,?_,?_⟩
    ·refine ⟨_,_,zaf [0,1,2,3] rfl rfl rfl ?_ ?_,1,rfl,by omega,by omega,rfl⟩
     ·simp only [ssT,zai,zaj,setSlot,gOf,AV.ren,renL,Blk.ren,Ax.look,Ax.put,reduceCtorEq,↓reduceIte,Nat.reduceEqDiff,Nat.reduceLT,Nat.reduceAdd,List.length_append,List.length_cons,List.length_nil,Option.some.injEq,zbb,zbi]; try simp
     ·simp only [ssT,zai,zaj,setSlot,gOf,AV.ren,renL,Blk.ren,Ax.look,Ax.put,reduceCtorEq,↓reduceIte,Nat.reduceEqDiff,Nat.reduceLT,Nat.reduceAdd,List.length_append,List.length_cons,List.length_nil,Option.some.injEq]
    ·rintro m σ ⟨i,rfl,hi1,hi,rfl⟩
     have e1 : ((i : Int) + 1 + 9223372036854775808) % 18446744073709551616 - 9223372036854775808 = ((i + 1 : Nat) : Int) := by omega
     by_cases hil : i < U.length
     ·have d1 : decide ((i : Int) < (U.length : Int)) = true := decide_eq_true (by omega)
      have e2 : ((i : Int) - 1 + 9223372036854775808) % 18446744073709551616 - 9223372036854775808 = ((i - 1 : Nat) : Int) := by omega
      obtain ⟨j,rfl⟩ : ∃ j,i = j + 1 := ⟨i - 1,by omega⟩
      rw [Nat.add_sub_cancel] at e2
      have hs1 := zgo RR (j + 1) (by omega)
      have hs2 := zgo RR j (by omega)
      have hs3 := zgo TT (j + 1) (by omega)
      have hf1 := hrf j (by omega)
      have hf2 := hrl (j + 1) (by omega) (by omega)
      obtain ⟨X,hX⟩ : ∃ X,RR[j + 1]'(by omega) = X := ⟨_,rfl⟩
      obtain ⟨Y,hY⟩ : ∃ Y,RR[j]'(by omega) = Y := ⟨_,rfl⟩
      obtain ⟨Z,hZ⟩ : ∃ Z,TT[j + 1]'(by omega) = Z := ⟨_,rfl⟩
      rw [hX] at hs1 hf1 hf2
      rw [hY] at hs2 hf1
      rw [hZ] at hs3 hf2
      have d2 : decide ((Y.length : Int) < (X.length : Int)) = false := decide_eq_false (by omega)
      have d3 : decide ((X.length : Int) = (Z.length : Int)) = true := decide_eq_true (by omega)
      have hjU : j < U.length := by omega
      simp only [go_sem,zaa,↓reduceIte,ty,Sae,hRm,hTm,d1,d2,d3,hs1,hs2,hs3,e1,e2,hil,hjU,Int.toNat_natCast,Bool.not_true]
      repeat (first | refine And.intro (by omega) ?_ | refine And.intro ⟨by omega,by omega⟩ ?_)
      refine ⟨U.length - (j + 1 + 1),_,by omega,zaf [0,1,2,3] rfl rfl rfl ?_ ?_,j + 1 + 1,rfl,by omega,by omega,rfl⟩
      ·simp only [ssT,zai,zaj,setSlot,gOf,AV.ren,renL,Blk.ren,Ax.look,Ax.put,reduceCtorEq,↓reduceIte,Nat.reduceEqDiff,Nat.reduceLT,Nat.reduceAdd,List.length_append,List.length_cons,List.length_nil,Option.some.injEq,zbb,zbi]; try simp
      ·simp only [ssT,zai,zaj,setSlot,gOf,AV.ren,renL,Blk.ren,Ax.look,Ax.put,reduceCtorEq,↓reduceIte,Nat.reduceEqDiff,Nat.reduceLT,Nat.reduceAdd,List.length_append,List.length_cons,List.length_nil,Option.some.injEq]
     ·have d1 : decide ((i : Int) < (U.length : Int)) = false := decide_eq_false (by omega)
      have hU6 : U.length ≤ 1000000 := by omega
      have p3 : (p ≤ 1000) = True := eq_true (by omega)
      have p1 : (0 ≤ p) = True := eq_true p0
      simp only [go_sem,zaa,↓reduceIte,ty,Sae,hRm,hTm,d1]
      refine ⟨_,Weak.refl _,?_⟩
      simp only [go_sem,zaa,↓reduceIte,ty,Sae,yesS,frlS,hRm,hTm,hU6,hp8,hxR,hxT,p1,p3,zmx,Bool.not_true]
      try (refine ⟨_,Weak.refl _,?_⟩)
      try simp only [go_sem,zaa,↓reduceIte,ty]
 ·exact hp.elim
end
theorem zte {x : AV} (h : Arg ty 6 5 x) : ∃ n : Int,x = .w (.int .u8 n) ∧ 0 ≤ n ∧ n < 256 := by
 obtain ⟨i,ls,hi,hs,rfl⟩ := h
 simp only [ty] at hi
 injection hi with hi
 subst hi
 simp only [zjx,ty,zix] at hs
 obtain ⟨m,rfl,w⟩ := hs
 exact ⟨m,rfl,ymt w⟩
theorem ae_dom {x y : AV} (hx : Arg ty 6 22 x) (hy : Arg ty 6 5 y) : (aeS [x,y] []).p ∧ (aeS [x,y] []).x = .w (.bool true) := by
 obtain ⟨l,f,rfl,hL,hl⟩ := zma hx
 obtain ⟨n,rfl,h0,h2⟩ := zte hy
 exact ⟨⟨⟨by rw [List.length_map]; exact hL,l,rfl,hl⟩,h0,h2⟩,rfl⟩
end Go.Proofs.Ytffdpbbbdmmdlaa
