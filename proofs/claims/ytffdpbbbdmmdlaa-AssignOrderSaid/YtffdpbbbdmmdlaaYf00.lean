/- What the proofs of this seat stand on; it asks nothing. -/
import Derived.Test.YtffdpbbbdmmdlaaYa11
import Derived.Test.YtffdpbbbdmmdlaaYc00
set_option linter.unusedSimpArgs false
set_option linter.unusedVariables false
namespace Go.Proofs.Ytffdpbbbdmmdlaa
open Ax
theorem zxf {a b : List (List UInt8)} (h : ∀ x,x ∈ a ↔ x ∈ b) : srtU a = srtU b :=
 ymd (zef a).1 (zef b).1 fun x => ((zef a).2 x).trans ((h x).trans ((zef b).2 x).symm)
end Go.Proofs.Ytffdpbbbdmmdlaa
namespace Go.Proofs.Ytffdpbbbdmmdlaa
open Ax
def aoS : zaz
 | [.sg 1 xs f,.w (.int .u8 p)],[] => ⟨(xs.length ≤ 9223372036854775807 ∧ ∃ l : List (List UInt8),xs = l.map AV.str ∧ ∀ r ∈ l,r.length ≤ 9223372036854775807) ∧ 0 ≤ p ∧ p < 256,.w (.bool true),[]⟩
 | _,_ => zeh
def Sao (f : FuncId) : Option zaz :=
 match f with
 | 7 => some yesS
 | 6 => some rliT
 | 13 => some tnS
 | 16 => some ofGS
 | 10 => some saaS
 | 15 => some rsoS
 | _ => none
theorem yqb : Fns Try.prog Sao := by
 intro f s h
 unfold Sao at h
 split at h
 ·injection h with h; subst h; exact ⟨⟨_,Try.func7,by kernel_rfl,by kernel_rfl⟩,zlz⟩
 ·injection h with h; subst h; exact ⟨⟨_,Try.func6,by kernel_rfl,by kernel_rfl⟩,zlk⟩
 ·injection h with h; subst h; exact ⟨⟨_,Try.func13,by kernel_rfl,by kernel_rfl⟩,zry⟩
 ·injection h with h; subst h; exact ⟨⟨_,Try.func16,by kernel_rfl,by kernel_rfl⟩,zud⟩
 ·injection h with h; subst h; exact ⟨⟨_,Try.func10,by kernel_rfl,by kernel_rfl⟩,ztp⟩
 ·injection h with h; subst h; exact ⟨⟨_,Try.func15,by kernel_rfl,by kernel_rfl⟩,znn⟩
 ·cases h
theorem ykb (l : List (List UInt8)) (i : Nat) (h : i < l.length) : l.reverse.take i ++ [l[l.length - 1 - i]'(by omega)] = l.reverse.take (i + 1) := by
 rw [List.take_succ_eq_append_getElem (by simpa using h),List.getElem_reverse]
section
set_option maxRecDepth 100000
set_option maxHeartbeats 16000000
theorem ao_law : zbk Try.prog 5 aoS := by
 refine zbm (S := Sao) (T := tyF) mixed yee yqb Try.func5 (c := Try.f5.body.getD .skip) (by kernel_rfl) (by kernel_rfl) (fun xs pins hp _ => ?_)
 unfold aoS at hp ⊢
 split at hp
 ·rename_i xs f p _
  obtain ⟨⟨hL9,l,rfl,hd⟩,p0,p2⟩ := hp
  rw [List.length_map] at hL9
  have hle : (l.map AV.str).length = l.length := by simp
  have hst := zba l
  have hxd : ∃ k : List (List UInt8),l.map AV.str = k.map AV.str ∧ ∀ r ∈ k,r.length ≤ 9223372036854775807 := ⟨l,rfl,hd⟩
  have hex : ∃ k : List (List UInt8),l.map AV.str = k.map AV.str := ⟨l,rfl⟩
  have hp8 : (p + 9223372036854775808) % 18446744073709551616 - 9223372036854775808 = p := by omega
  have cS : ∀ (l : List (List UInt8)) (h : Bool),coe (zat ty) 22 (.sg 1 (l.map AV.str) h) = .sg 1 (l.map AV.str) h := fun l h => by cases l <;> rfl
  have cR : ∀ (L : List (List Int)) (h : Bool),coe (zat ty) 27 (.sg 1 (L.map siA) h) = .sg 1 (L.map siA) h := fun L h => by cases L <;> rfl
  refine ⟨by simp,?_⟩
  unfold Try.f5
  cases hB : znx l with
  | false => simp only [go_sem,zaa,↓reduceIte,tyF,zat,ty,Sao,yesS,rliT,hle,hst,hxd,hL9,hB,cS,zbh,Bool.not_true,Bool.not_false]
  | true =>
   by_cases h2 : 20 < l.length
   ·have d3 : decide ((20 : Int) < (l.length : Int)) = true := decide_eq_true (by omega)
    simp only [go_sem,zaa,↓reduceIte,tyF,zat,ty,Sao,yesS,rliT,hle,hst,hxd,hL9,hB,d3,cS,zbh,Bool.not_true,Bool.not_false]
   ·have d3 : decide ((20 : Int) < (l.length : Int)) = false := decide_eq_false (by omega)
    have hL : l.length ≤ 1000000 := by omega
    simp only [go_sem,zaa,↓reduceIte,tyF,zat,ty,Sao,yesS,rliT,hle,hst,hxd,hL9,hB,d3,cS,zbh,Bool.not_true,Bool.not_false]
    refine zas ⟨fun m σ => ∃ (i : Nat),m = l.length - i ∧ i ≤ l.length ∧
     σ = ⟨[.sg 1 (l.map .str) f,.w (.int .u8 p),.junk,.junk,.w (.bool false),.ms 4 1 0 i,.w (.int .i64 i),.junk,.junk,.junk,.junk,.junk,.junk,.junk,.junk,.junk,.junk,.junk,.junk,.junk,.junk,.junk,.junk,.junk,.junk,.junk,.junk,.junk,.junk,.junk,.junk,.junk,.junk,.junk,.junk,.junk,.junk,.junk,.junk,.junk,.junk,.junk,.junk,.junk,.junk,.junk,.junk,.junk,.junk,.junk,.junk,.junk,.junk,.junk,.junk,.junk,.junk,.junk,.junk,.junk,.junk,.junk,.junk,.junk,.junk,.junk,.junk,.junk,.junk,.junk,.junk,.junk,.junk],[(4,.g 1 ((l.reverse.take i).map .str))],5⟩,?_,?_⟩
    ·refine ⟨_,_,(zgk 5 1 (.g 1 []) ⟨by decide,rfl⟩ (by exact trivial)).trans (zaf [0,1,2,3,92] rfl rfl rfl ?_ ?_),0,rfl,by omega,rfl⟩
     ·simp only [ssT,zai,zaj,setSlot,gOf,AV.ren,renL,Blk.ren,Ax.look,Ax.put,reduceCtorEq,↓reduceIte,Nat.reduceEqDiff,Nat.reduceLT,Nat.reduceAdd,List.length_append,List.length_cons,List.length_nil,Option.some.injEq,zbb]; try simp
     ·simp only [ssT,zai,zaj,setSlot,gOf,AV.ren,renL,Blk.ren,Ax.look,Ax.put,reduceCtorEq,↓reduceIte,Nat.reduceEqDiff,Nat.reduceLT,Nat.reduceAdd,List.length_append,List.length_cons,List.length_nil,Option.some.injEq]; try simp [renL]
    ·rintro m σ ⟨i,rfl,hi,rfl⟩
     have e1 : ((i : Int) + 1 + 9223372036854775808) % 18446744073709551616 - 9223372036854775808 = ((i + 1 : Nat) : Int) := by omega
     have hkl : ((l.reverse.take i).map AV.str).length = i := by simp; omega
     by_cases hil : i < l.length
     ·have d1 : decide ((i : Int) < (l.length : Int)) = true := decide_eq_true (by omega)
      have e2 : (l.length : Int) - 1 - (i : Int) = ((l.length - 1 - i : Nat) : Int) := by omega
      have e4 : ((l.length : Int) - 1 + 9223372036854775808) % 18446744073709551616 - 9223372036854775808 = (l.length : Int) - 1 := by omega
      have e5 : ((l.length : Int) - 1 - (i : Int) + 9223372036854775808) % 18446744073709551616 - 9223372036854775808 = ((l.length - 1 - i : Nat) : Int) := by omega
      have hs1 := zbq l (l.length - 1 - i) (by omega)
      have hsn := ykb l i hil
      obtain ⟨Y,hY⟩ : ∃ Y,l[l.length - 1 - i]'(by omega) = Y := ⟨_,rfl⟩
      rw [hY] at hs1 hsn
      obtain ⟨J,hJ⟩ : ∃ J,l.length - 1 - i = J := ⟨_,rfl⟩
      have hJl : J < l.length := by omega
      rw [hJ] at hs1 e5
      obtain ⟨K,hK⟩ : ∃ K,l.reverse.take i = K := ⟨_,rfl⟩
      obtain ⟨N,hN⟩ : ∃ N,l.reverse.take (i + 1) = N := ⟨_,rfl⟩
      rw [hK] at hkl hsn
      rw [hN] at hsn
      have hap : K.map AV.str ++ [AV.str Y] = N.map AV.str := by rw [← hsn]; simp
      rw [hK]
      simp only [go_sem,zaa,↓reduceIte,tyF,zat,ty,Sao,hle,hkl,d1,e1,e4,e5,hs1,hap,zko,Int.toNat_natCast]
      repeat (first | refine And.intro (by omega) ?_ | refine And.intro ⟨by omega,by omega⟩ ?_ | refine And.intro (by unfold top; omega) ?_)
      refine ⟨l.length - (i + 1),_,by omega,zaf [0,1,2,3,117] rfl rfl rfl ?_ ?_,i + 1,rfl,by omega,rfl⟩
      ·simp only [ssT,zai,zaj,setSlot,gOf,AV.ren,renL,Blk.ren,Ax.look,Ax.put,reduceCtorEq,↓reduceIte,Nat.reduceEqDiff,Nat.reduceLT,Nat.reduceAdd,List.length_append,List.length_cons,List.length_nil,Option.some.injEq,zbb,hN]; try simp
      ·simp only [ssT,zai,zaj,setSlot,gOf,AV.ren,renL,Blk.ren,Ax.look,Ax.put,reduceCtorEq,↓reduceIte,Nat.reduceEqDiff,Nat.reduceLT,Nat.reduceAdd,List.length_append,List.length_cons,List.length_nil,Option.some.injEq,zbb,hN]; try simp [zbb]
     ·have d1 : decide ((i : Int) < (l.length : Int)) = false := decide_eq_false (by omega)
      obtain rfl : i = l.length := by omega
      have hrv : l.reverse.take l.length = l.reverse := List.take_of_length_le (by simp)
      rw [hrv] at hkl ⊢
      obtain ⟨T,hT⟩ : ∃ T,l.reverse ++ l = T := ⟨_,rfl⟩
      have hap : l.reverse.map AV.str ++ l.map AV.str = T.map AV.str := by rw [← hT]; simp
      have hTl : (T.map AV.str).length = l.length + l.length := by rw [← hT]; simp
      have hTU : srtU T = srtU l := zxf fun x => by rw [← hT]; simp
      have htk : List.take l.length (l.map AV.str) = l.map AV.str := List.take_of_length_le (by simp)
      simp only [go_sem,zaa,↓reduceIte,tyF,zat,ty,Sao,hle,hkl,d1]
      refine ⟨_,Weak.refl _,?_⟩
      simp only [go_sem,zaa,↓reduceIte,tyF,zat,ty,Sao,hle,hkl,hap,htk,zko,zbl]
      refine ⟨by unfold top; omega,?_⟩
      have hdle : decide (0 + (l.length + l.length) ≤ (T.map AV.str).length) = true := decide_eq_true (by omega)
      have htk2 : List.take (l.length + l.length) (T.map AV.str) = T.map AV.str := List.take_of_length_le (by omega)
      have hdle1 : ∀ n,List.take n (T.map AV.str) = (T.take n).map AV.str := fun n => (List.map_take (f := AV.str) (l := T) (i := n)).symm
      have hexT : ∃ k : List (List UInt8),T.map AV.str = k.map AV.str := ⟨T,rfl⟩
      have hstT := zba T
      have hTm : (T.map AV.str).length ≤ 1000000 := by omega
      have hOf : ∀ v,ofG T p v = ofG l p v := fun v => by unfold ofG; rw [hTU]
      obtain ⟨U,hU⟩ : ∃ U,srtU l = U := ⟨_,rfl⟩
      rw [hU] at hTU
      have hUl := zcx l
      rw [hU] at hUl
      refine zas ⟨fun m σ => ∃ (k : Nat),m = l.length - k ∧ k ≤ l.length ∧
       σ = ⟨[.sg 1 (l.map .str) f,.w (.int .u8 p),.junk,.junk,.w (.bool false),.sg 1 (T.map .str) false,.junk,.w (.int .i64 k),.junk,.junk,.junk,.junk,.junk,.junk,.junk,.junk,.junk,.junk,.junk,.junk,.junk,.junk,.junk,.junk,.junk,.junk,.junk,.junk,.junk,.junk,.junk,.junk,.junk,.junk,.junk,.junk,.junk,.junk,.junk,.junk,.junk,.junk,.junk,.junk,.junk,.junk,.junk,.junk,.junk,.junk,.junk,.junk,.junk,.junk,.junk,.junk,.junk,.junk,.junk,.junk,.junk,.junk,.junk,.junk,.junk,.junk,.junk,.junk,.junk,.junk,.junk,.junk,.junk],[],4⟩,?_,?_⟩
      ·refine ⟨_,_,(zhf 53 1 5 (T.map AV.str) rfl (zbl _) (by simp [slot,AV.ids,idsL])).trans ?_,0,rfl,by omega,rfl⟩
       simp only [fgL,fgH,AV.fg,Blk.fg,zvl,Nat.reduceBEq,cond_true,cond_false,hdle,Bool.and_true,beq_self_eq_true,Bool.true_and,List.drop_zero,htk2]
       refine zaf [0,1,2,3] rfl rfl rfl ?_ ?_
       ·simp only [ssT,zai,zaj,setSlot,gOf,AV.ren,renL,Blk.ren,Ax.look,Ax.put,reduceCtorEq,↓reduceIte,Nat.reduceEqDiff,Nat.reduceLT,Nat.reduceAdd,List.length_append,List.length_cons,List.length_nil,Option.some.injEq,zbb]; try simp
       ·simp only [ssT,zai,zaj,setSlot,gOf,AV.ren,renL,Blk.ren,Ax.look,Ax.put,reduceCtorEq,↓reduceIte,Nat.reduceEqDiff,Nat.reduceLT,Nat.reduceAdd,List.length_append,List.length_cons,List.length_nil,Option.some.injEq]
      ·rintro m σ ⟨k,rfl,hk,rfl⟩
       have e6 : ((k : Int) + 1 + 9223372036854775808) % 18446744073709551616 - 9223372036854775808 = ((k + 1 : Nat) : Int) := by omega
       have tr : ∀ k : List AV,(k = k) = True := fun k => eq_true rfl
       have tri : ∀ k : List Int,(k = k) = True := fun k => eq_true rfl
       by_cases hkl2 : k < l.length
       ·have d5 : decide ((k : Int) < (l.length : Int)) = true := decide_eq_true (by omega)
        have hs2 := zbq l k hkl2
        obtain ⟨Y,hY⟩ : ∃ Y,l[k] = Y := ⟨_,rfl⟩
        rw [hY] at hs2
        have hOl := yfq l p Y
        have hOY := hOf Y
        obtain ⟨OO,hOO⟩ : ∃ OO,ofG l p Y = OO := ⟨_,rfl⟩
        rw [hOO] at hOl hOY
        simp only [go_sem,zaa,↓reduceIte,tyF,zat,ty,Sao,ofGS,rsoS,hle,hst,hex,hL,hstT,hexT,hTm,hp8,d5,e6,hs2,hOO,hOY,hOl,tri,cS,Int.toNat_natCast,Bool.not_true]
        repeat (first | refine And.intro (by omega) ?_ | refine And.intro ⟨by omega,by omega⟩ ?_)
        refine ⟨l.length - (k + 1),_,by omega,zaf [0,1,2,3] rfl rfl rfl ?_ ?_,k + 1,rfl,by omega,rfl⟩
        ·simp only [ssT,zai,zaj,setSlot,gOf,AV.ren,renL,Blk.ren,Ax.look,Ax.put,reduceCtorEq,↓reduceIte,Nat.reduceEqDiff,Nat.reduceLT,Nat.reduceAdd,List.length_append,List.length_cons,List.length_nil,Option.some.injEq,zbb]; try simp
        ·simp only [ssT,zai,zaj,setSlot,gOf,AV.ren,renL,Blk.ren,Ax.look,Ax.put,reduceCtorEq,↓reduceIte,Nat.reduceEqDiff,Nat.reduceLT,Nat.reduceAdd,List.length_append,List.length_cons,List.length_nil,Option.some.injEq]
       ·have d5 : decide ((k : Int) < (l.length : Int)) = false := decide_eq_false (by omega)
        have hPl := zgt p
        have hTr := yeh U.length (clpN p) hPl
        have hTTl := zxb U.length (clpN p)
        obtain ⟨TT,hTT⟩ : ∃ TT,tnL U.length (clpN p) = TT := ⟨_,rfl⟩
        rw [hTT] at hTr hTTl
        have hTTm : (TT.map siA).length = U.length := by simp [hTTl]
        have hU6 : U.length ≤ 1000000 := by omega
        have hxT : ∃ L : List (List Int),TT.map siA = L.map siA ∧ ∀ r ∈ L,r.length ≤ 1000000 := ⟨TT,rfl,hTr⟩
        simp only [go_sem,zaa,↓reduceIte,tyF,zat,ty,Sao,hle,d5]
        refine ⟨_,Weak.refl _,?_⟩
        simp only [go_sem,zaa,↓reduceIte,tyF,zat,ty,Sao,yesS,tnS,saaS,hle,hst,hex,hL,hstT,hexT,hTm,hp8,hU,hTU,hTT,hTTm,hU6,hxT,tr,cS,cR,Bool.not_true]
        try (refine ⟨_,Weak.refl _,?_⟩)
        try simp only [go_sem,zaa,↓reduceIte,tyF,zat,ty]
 ·exact hp.elim
end
theorem zte {x : AV} (h : Arg ty 6 5 x) : ∃ n : Int,x = .w (.int .u8 n) ∧ 0 ≤ n ∧ n < 256 := by
 obtain ⟨i,ls,hi,hs,rfl⟩ := h
 simp only [ty] at hi
 injection hi with hi
 subst hi
 simp only [zjx,ty,zix] at hs
 obtain ⟨m,rfl,w⟩ := hs
 exact ⟨m,rfl,ymt w⟩
theorem ao_dom {x y : AV} (hx : Arg ty 6 22 x) (hy : Arg ty 6 5 y) : (aoS [x,y] []).p ∧ (aoS [x,y] []).x = .w (.bool true) := by
 obtain ⟨l,f,rfl,hL,hl⟩ := zma hx
 obtain ⟨n,rfl,h0,h2⟩ := zte hy
 exact ⟨⟨⟨by rw [List.length_map]; exact hL,l,rfl,hl⟩,h0,h2⟩,rfl⟩
end Go.Proofs.Ytffdpbbbdmmdlaa
