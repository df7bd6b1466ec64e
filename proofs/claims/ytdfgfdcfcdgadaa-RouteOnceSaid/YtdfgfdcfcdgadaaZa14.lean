/- What the proofs of this seat stand on; it asks nothing. -/
import Derived.Test.YtdfgfdcfcdgadaaZa13
set_option linter.unusedSimpArgs false
set_option linter.unusedVariables false
namespace Go.Proofs.Ytdfgfdcfcdgadaa
open Ax
set_option maxRecDepth 100000 in
theorem ydj : zen Try.prog 5 yesS := ymo (by kernel_rfl)
def roS : zcc
 | [.sg 6 xs f,.w (.int .i64 parts),.w (.int .i64 turn)],[] => ⟨xs.length ≤ 9223372036854775807 ∧ ∃ rs : List Rec,xs = rs.map rv,.w (.bool true),[]⟩
 | _,_ => zkn
def zes (f : FuncId) : Option zcc :=
 match f with
 | 5 => some yesS
 | 4 => some zks
 | 8 => some zhg
 | 6 => some zmq
 | 7 => some zam
 | _ => none
theorem ykc : Fns Try.prog zes := by
 intro f s h
 unfold zes at h
 split at h
 ·injection h with h; subst h; exact ⟨⟨_,Try.func5,by kernel_rfl,by kernel_rfl⟩,ydj⟩
 ·injection h with h; subst h; exact ⟨⟨_,Try.func4,by kernel_rfl,by kernel_rfl⟩,zsb⟩
 ·injection h with h; subst h; exact ⟨⟨_,Try.func8,by kernel_rfl,by kernel_rfl⟩,zsy⟩
 ·injection h with h; subst h; exact ⟨⟨_,Try.func6,by kernel_rfl,by kernel_rfl⟩,zrs⟩
 ·injection h with h; subst h; exact ⟨⟨_,Try.func7,by kernel_rfl,by kernel_rfl⟩,znl⟩
 ·cases h
def roPl : Plan := fun id => match id with
 | 18 => some []
 | 31 => some []
 | _ => none
theorem ztb {T : zac} {sl : List AV} {H : Heap} {nx : Nat} {v : Value} {q : Prop} (i : Nat) (h : slot sl i = .w v) : zyi T [.tmp i] [] ⟨q,.w v,[]⟩ .ret ⟨sl,H,nx⟩ := by
 refine ⟨_,Weak.refl _,?_⟩
 simp only [Ax.Ends,Ax.rvals,EndsX,rone,h,AV.ids,idsL,newIds,upTo,nodup,pinsOf,List.nil_append,AV.ren,and_self]
theorem zne : ∀ (l : List (List Rec)) (p : Nat),((l.take p).map List.length).sum ≤ (l.map List.length).sum
 | [],p => by simp
 | x :: l,0 => by simp
 | x :: l,p + 1 => by
  have := zne l p
  simp only [List.take_succ_cons,List.map_cons,List.sum_cons]; omega
theorem yca (L : List Rec) (i : Nat) (h : i < L.length) : zbo (L.take (i + 1)) = zbo (L.take i) + if L[i].k = true then 0 else 1 := by
 rw [List.take_succ_eq_append_getElem h]
 unfold zbo
 rw [List.countP_append,List.countP_singleton]
 cases L[i].k <;> rfl
section
set_option maxRecDepth 100000
set_option maxHeartbeats 32000000 in
theorem ro_law : zen Try.prog 3 roS := by
 refine yge (S := zes) (T := ty) (pl := roPl) mixed ty_ok ykc Try.func3 (c := Try.f3.body.getD .skip) (by kernel_rfl) (by kernel_rfl) (fun xs pins hp _ => ?_)
 unfold roS at hp ⊢
 split at hp
 ·rename_i xs f parts turn _
  obtain ⟨hL,rs,rfl⟩ := hp
  rw [List.length_map] at hL
  have hlr : (rs.map rv).length = rs.length := by simp
  have hxr : ∃ q : List Rec,rs.map rv = q.map rv := ⟨rs,rfl⟩
  have hcr : ∀ f,coe ty 22 (.sg 6 (rs.map rv) f) = .sg 6 (rs.map rv) f := fun f => by cases rs <;> rfl
  refine ⟨by simp,?_⟩
  unfold Try.f3
  by_cases h1 : rs.length ≤ 100 ∧ ∀ r ∈ rs,zpm r
  ·have d1 : decide (rs.length ≤ 100 ∧ ∀ r ∈ rs,zpm r) = true := decide_eq_true h1
   have hsp : ∀ f,zmq [.sg 6 (rs.map rv) f,.w (.int .i64 parts),.w (.int .i64 turn)] [] = ⟨True,.tup [.sg 1 ((runS parts turn rs).2.map nbR) false,.w (.int .i64 (runS parts turn rs).1)],[]⟩ := fun f => by
    show (⟨(rs.map rv).length ≤ 1000 ∧ ∃ q : List Rec,rs.map rv = q.map rv ∧ ∀ r ∈ q,r.key.length ≤ 1000000,.tup [.sg 1 ((runS parts turn ((rs.map rv).map rrec)).2.map nbR) false,.w (.int .i64 (runS parts turn ((rs.map rv).map rrec)).1)],[]⟩ : Res) = _
    rw [zaz,hlr,eq_true (show rs.length ≤ 1000 ∧ ∃ q : List Rec,rs.map rv = q.map rv ∧ ∀ r ∈ q,r.key.length ≤ 1000000 from ⟨by omega,rs,rfl,fun r hr => by have := (h1.2 r hr).1; omega⟩)]
   obtain ⟨b1,b2,b3,b4,_⟩ := zyt parts turn rs
   have hev := ycw parts turn rs
   have hkl : ∀ (j : Nat) (h : j < (runS parts turn rs).2.length),∀ r ∈ (runS parts turn rs).2[j],r.key.length ≤ 1000000 := fun j h r hr => by
    have := (h1.2 r ((b2 j h).subset hr)).1; omega
   have hll : ∀ (j : Nat) (h : j < (runS parts turn rs).2.length),(runS parts turn rs).2[j].length ≤ 100 := fun j h => Nat.le_trans (b2 j h).length_le h1.1
   have hcp := zqx parts
   have hcc := ylx parts
   obtain ⟨X,hX⟩ : ∃ X,runS parts turn rs = X := ⟨_,rfl⟩
   simp only [hX] at hsp b1 b2 b3 b4 hev hkl hll
   obtain ⟨T,Ls⟩ := X
   simp only at hsp b1 b2 b3 b4 hev hkl hll
   have hcb := zas Ls
   have hPm : (Ls.map nbR).length = Ls.length := by simp
   have hP8 : Ls.length ≤ 8 := by omega
   have ht : top = 4294967296 := rfl
   simp only [go_sem,zaq,↓reduceIte,lcT,ty,zes,roPl,yesS,zks,hcr,hsp,hL,hlr,hxr,zaz,d1,hcb]
   refine zex ⟨fun m σ => ∃ p : Nat,m = Ls.length - p ∧ p ≤ Ls.length ∧
     σ = ⟨[.sg 6 (rs.map rv) f,.w (.int .i64 parts),.junk,.junk,.junk,.junk,.junk,.sg 1 (Ls.map nbR) false,.junk,.w (.int .i64 (((Ls.take p).map List.length).sum : Nat)),.ms 4 1 0 p,.w (.int .i64 p),.junk,.junk,.junk,.junk,.junk,.junk,.junk,.junk,.junk,.junk,.junk,.junk,.junk,.junk,.junk,.junk,.junk,.junk,.junk,.junk,.junk,.junk,.junk,.junk,.junk,.junk,.junk,.junk,.junk,.junk,.junk,.junk,.junk,.junk,.junk,.junk,.junk,.junk,.junk,.junk,.junk,.junk,.junk,.junk,.junk,.junk,.junk,.junk,.junk,.junk,.junk,.junk,.junk,.junk,.junk,.junk,.junk,.junk,.junk,.junk,.junk,.junk,.junk,.junk,.junk,.junk,.junk,.junk,.junk,.junk,.junk,.junk,.junk,.junk,.junk,.junk,.junk,.junk,.junk,.junk,.junk,.junk,.junk,.junk,.junk,.junk,.junk,.junk,.junk,.junk,.junk,.junk,.junk,.junk,.junk,.junk,.junk,.junk,.junk,.junk,.junk,.junk,.junk,.junk,.junk,.junk,.junk,.junk,.junk,.junk,.junk,.junk,.junk,.junk,.junk,.junk,.junk,.junk,.junk,.junk,.junk],[(4,.i ((Ls.take p).map fun L => (zbo L : Int)))],5⟩,?_,?_⟩
   ·refine ⟨_,_,(yia 10 1 (.i []) rfl (by exact trivial)).trans (zab [0,1,2,3,132] rfl rfl rfl ?_ ?_),0,rfl,by omega,rfl⟩
    ·simp only [ssT,zad,zae,setSlot,gOf,AV.ren,renL,Blk.ren,Ax.look,Ax.put,reduceCtorEq,↓reduceIte,Nat.reduceEqDiff,Nat.reduceLT,Nat.reduceAdd,List.length_append,List.length_cons,List.length_nil,Option.some.injEq]; try simp
    ·simp only [ssT,zad,zae,setSlot,gOf,AV.ren,renL,Blk.ren,Ax.look,Ax.put,reduceCtorEq,↓reduceIte,Nat.reduceEqDiff,Nat.reduceLT,Nat.reduceAdd,List.length_append,List.length_cons,List.length_nil,Option.some.injEq]; try simp
   ·rintro m σ ⟨p,rfl,hp,rfl⟩
    have e1 : ((p : Int) + 1 + 9223372036854775808) % 18446744073709551616 - 9223372036854775808 = ((p + 1 : Nat) : Int) := by omega
    by_cases hpl : p < Ls.length
    ·have d4 : decide ((p : Int) < Ls.length) = true := decide_eq_true (by omega)
     have hs1 : slot (Ls.map nbR) p = nbR Ls[p] := zba nbR Ls p hpl
     have hsub := (b2 p hpl).map fgt
     have hown := b3 p hpl
     have hkp := hkl p hpl
     have hlp := hll p hpl
     have htk : Ls.take (p + 1) = Ls.take p ++ [Ls[p]] := List.take_succ_eq_append_getElem hpl
     have hsm : ((Ls.take p).map List.length).sum ≤ 100 := Nat.le_trans (zne Ls p) (by rw [b4]; exact h1.1)
     obtain ⟨L,hLL⟩ : ∃ L,Ls[p] = L := ⟨_,rfl⟩
     rw [hLL] at hs1 hsub hown hkp hlp htk
     have hs1 : slot (Ls.map nbR) p = .sg 6 ((nbL 0 L).map rv) false := hs1
     obtain ⟨S,hS⟩ : ∃ S,((Ls.take p).map List.length).sum = S := ⟨_,rfl⟩
     have hnl : ((nbL 0 L).map rv).length = L.length := by rw [List.length_map,zrx]
     rw [hS] at hsm ⊢
     simp only [go_sem,zaq,↓reduceIte,lcT,ty,zes,roPl,hPm,d4]
     refine zex ⟨fun m σ => ∃ i at' : Nat,m = L.length - i ∧ i ≤ L.length ∧ at' ≤ rs.length ∧ ((L.drop i).map fgt).Sublist ((rs.drop at').map fgt) ∧
       σ = ⟨[.sg 6 (rs.map rv) f,.w (.int .i64 parts),.junk,.junk,.junk,.junk,.junk,.sg 1 (Ls.map nbR) false,.junk,.w (.int .i64 (S : Nat)),.ms 4 1 0 p,.w (.int .i64 p),.w (.int .i64 at'),.w (.int .i64 (zbo (L.take i) : Nat)),.w (.int .i64 i),.junk,.junk,.junk,.junk,.junk,.junk,.junk,.junk,.junk,.junk,.junk,.junk,.junk,.junk,.junk,.junk,.junk,.junk,.junk,.junk,.junk,.junk,.junk,.junk,.junk,.junk,.junk,.junk,.junk,.junk,.junk,.junk,.junk,.junk,.junk,.junk,.junk,.junk,.junk,.junk,.junk,.junk,.junk,.junk,.junk,.junk,.junk,.junk,.junk,.junk,.junk,.junk,.junk,.junk,.junk,.junk,.junk,.junk,.junk,.junk,.junk,.junk,.junk,.junk,.junk,.junk,.junk,.junk,.junk,.junk,.junk,.junk,.junk,.junk,.junk,.junk,.junk,.junk,.junk,.junk,.junk,.junk,.junk,.junk,.junk,.junk,.junk,.junk,.junk,.junk,.junk,.junk,.junk,.junk,.junk,.junk,.junk,.junk,.junk,.junk,.junk,.junk,.junk,.junk,.junk,.junk,.junk,.junk,.junk,.junk,.junk,.junk,.junk,.junk,.junk,.junk,.junk,.junk],[(4,.i ((Ls.take p).map fun L => (zbo L : Int)))],5⟩,?_,?_⟩
     ·refine ⟨_,_,zab [0,1,2,3,4] rfl rfl rfl ?_ ?_,0,0,rfl,by omega,by omega,by rw [List.drop_zero,List.drop_zero]; exact hsub,rfl⟩
      ·simp only [ssT,zad,zae,setSlot,gOf,AV.ren,renL,Blk.ren,Ax.look,Ax.put,reduceCtorEq,↓reduceIte,Nat.reduceEqDiff,Nat.reduceLT,Nat.reduceAdd,List.length_append,List.length_cons,List.length_nil,Option.some.injEq]; try simp [zbo]
      ·simp only [ssT,zad,zae,setSlot,gOf,AV.ren,renL,Blk.ren,Ax.look,Ax.put,reduceCtorEq,↓reduceIte,Nat.reduceEqDiff,Nat.reduceLT,Nat.reduceAdd,List.length_append,List.length_cons,List.length_nil,Option.some.injEq]; try simp
     ·rintro m σ ⟨i,at',rfl,hi,hat,hss,rfl⟩
      have e2 : ((i : Int) + 1 + 9223372036854775808) % 18446744073709551616 - 9223372036854775808 = ((i + 1 : Nat) : Int) := by omega
      by_cases hil : i < L.length
      ·have d5 : decide ((i : Int) < L.length) = true := decide_eq_true (by omega)
       have hin : i < (nbL 0 L).length := by rw [zrx]; exact hil
       have hs2 : slot ((nbL 0 L).map rv) i = rv (nbL 0 L)[i] := zba rv (nbL 0 L) i hin
       rw [yet L 0 i hin hil] at hs2
       have hdr : L.drop i = L[i] :: L.drop (i + 1) := List.drop_eq_getElem_cons hil
       have hps := yca L i hil
       have hor := hown L[i] (List.getElem_mem hil)
       have hkr := hkp L[i] (List.getElem_mem hil)
       have hN100 : zbo (L.take i) ≤ 100 := Nat.le_trans List.countP_le_length (by rw [List.length_take]; omega)
       rw [hdr] at hss
       obtain ⟨r,hr⟩ : ∃ r,L[i] = r := ⟨_,rfl⟩
       rw [hr] at hs2 hdr hps hor hkr hss
       obtain ⟨d,t,kd,key,dd,val⟩ := r
       simp only [rv,Nat.zero_add] at hs2
       simp only at hps hor hkr
       have hop : ofP key parts = ofP key (clP parts : Int) := by unfold ofP; rw [hcc]
       obtain ⟨N,hN⟩ : ∃ N,zbo (L.take i) = N := ⟨_,rfl⟩
       obtain ⟨N2,hN2⟩ : ∃ N2,zbo (L.take (i + 1)) = N2 := ⟨_,rfl⟩
       rw [hN] at hN100
       rw [hN,hN2] at hps
       rw [hN]
       have q0 : decide ((i : Int) = (i : Int)) = true := decide_eq_true rfl
       have e3 : ((N : Int) + 1 + 9223372036854775808) % 18446744073709551616 - 9223372036854775808 = ((N + 1 : Nat) : Int) := by omega
       cases kd with
       | true =>
        have hor := hor rfl
        have q1 : decide (((ofP key parts : Nat) : Int) = (p : Int)) = true := decide_eq_true (by rw [hop,hor])
        have hps : N2 = N := by simpa using hps
        subst hps
        simp only [go_sem,zaq,↓reduceIte,lcT,ty,zes,roPl,zam,hPm,hs1,hs2,hnl,d5,q0,q1,hkr,Int.toNat_natCast,Bool.not_true]
        repeat (first | refine And.intro (by omega) ?_ | refine And.intro ⟨by omega,by omega⟩ ?_)
        refine zex ⟨fun m σ => ∃ a : Nat,m = rs.length - a ∧ a ≤ rs.length ∧ ((⟨d,t,true,key,dd,val⟩ :: L.drop (i + 1)).map fgt).Sublist ((rs.drop a).map fgt) ∧
          σ = ⟨[.sg 6 (rs.map rv) f,.w (.int .i64 parts),.junk,.junk,.junk,.junk,.junk,.sg 1 (Ls.map nbR) false,.junk,.w (.int .i64 (S : Nat)),.ms 4 1 0 p,.w (.int .i64 p),.w (.int .i64 a),.w (.int .i64 (N2 : Nat)),.w (.int .i64 i),.rf 5 6 0 0,.junk,.junk,.junk,.junk,.junk,.junk,.junk,.junk,.junk,.junk,.junk,.junk,.junk,.junk,.junk,.junk,.junk,.junk,.junk,.junk,.junk,.junk,.junk,.junk,.junk,.junk,.junk,.junk,.junk,.junk,.junk,.junk,.junk,.junk,.junk,.junk,.junk,.junk,.junk,.junk,.junk,.junk,.junk,.junk,.junk,.junk,.junk,.junk,.junk,.junk,.junk,.junk,.junk,.junk,.junk,.junk,.junk,.junk,.junk,.junk,.junk,.junk,.junk,.junk,.junk,.junk,.junk,.junk,.junk,.junk,.junk,.junk,.junk,.junk,.junk,.junk,.junk,.junk,.junk,.junk,.junk,.junk,.junk,.junk,.junk,.junk,.junk,.junk,.junk,.junk,.junk,.junk,.junk,.junk,.junk,.junk,.junk,.junk,.junk,.junk,.junk,.junk,.junk,.junk,.junk,.junk,.junk,.junk,.junk,.junk,.junk,.junk,.junk,.junk,.junk,.junk,.junk],[(4,.i ((Ls.take p).map fun L => (zbo L : Int))),(5,.g 6 [.agg [.w (.int .i64 (i : Int)),.w (.int .i64 t),.w (.bool true),.str key,.w (.bool dd),.str val]])],6⟩,?_,?_⟩
        ·refine ⟨_,_,zab [0,1,2,3,4,117] rfl rfl rfl ?_ ?_,at',rfl,hat,hss,rfl⟩
         ·simp only [ssT,zad,zae,setSlot,gOf,AV.ren,renL,Blk.ren,Ax.look,Ax.put,reduceCtorEq,↓reduceIte,Nat.reduceEqDiff,Nat.reduceLT,Nat.reduceAdd,List.length_append,List.length_cons,List.length_nil,Option.some.injEq]; try simp
         ·simp only [ssT,zad,zae,setSlot,gOf,AV.ren,renL,Blk.ren,Ax.look,Ax.put,reduceCtorEq,↓reduceIte,Nat.reduceEqDiff,Nat.reduceLT,Nat.reduceAdd,List.length_append,List.length_cons,List.length_nil,Option.some.injEq]; try simp
        ·rintro m σ ⟨a,rfl,ha,hsa,rfl⟩
         have e5 : ((a : Int) + 1 + 9223372036854775808) % 18446744073709551616 - 9223372036854775808 = ((a + 1 : Nat) : Int) := by omega
         by_cases hal : a < rs.length
         ·have d6 : decide ((a : Int) < rs.length) = true := decide_eq_true (by omega)
          have d7 : decide ((a : Int) = (rs.length : Int)) = false := decide_eq_false (by omega)
          have hs3 := zba rv rs a hal
          have hda : rs.drop a = rs[a] :: rs.drop (a + 1) := List.drop_eq_getElem_cons hal
          obtain ⟨x,hx⟩ : ∃ x,rs[a] = x := ⟨_,rfl⟩
          rw [hx] at hs3 hda
          rw [hda] at hsa
          have hak := zwj x ⟨d,t,true,key,dd,val⟩
          obtain ⟨d',t',k',key',dd',val'⟩ := x
          simp only [rv] at hs3
          simp only at hak
          by_cases he : fgt ⟨d',t',k',key',dd',val'⟩ = fgt ⟨d,t,true,key,dd,val⟩
          ·have hak := hak.trans (decide_eq_true he)
           simp only [go_sem,zaq,↓reduceIte,lcT,ty,zes,roPl,zhg,hlr,d6,hs3,hak,Int.toNat_natCast,Bool.not_true]
           repeat (first | refine And.intro (by omega) ?_ | refine And.intro ⟨by omega,by omega⟩ ?_)
           repeat (refine ⟨_,Weak.refl _,?_⟩; simp only [go_sem,zaq,↓reduceIte,lcT,ty,zes,roPl,hlr,d7,e5,e2])
           refine ⟨L.length - (i + 1),_,by omega,zab [0,1,2,3,4] rfl rfl rfl ?_ ?_,i + 1,a + 1,rfl,by omega,by omega,ydt hsa he,rfl⟩
           ·simp only [ssT,zad,zae,setSlot,gOf,AV.ren,renL,Blk.ren,Ax.look,Ax.put,reduceCtorEq,↓reduceIte,Nat.reduceEqDiff,Nat.reduceLT,Nat.reduceAdd,List.length_append,List.length_cons,List.length_nil,Option.some.injEq,hN2]; try simp
           ·simp only [ssT,zad,zae,setSlot,gOf,AV.ren,renL,Blk.ren,Ax.look,Ax.put,reduceCtorEq,↓reduceIte,Nat.reduceEqDiff,Nat.reduceLT,Nat.reduceAdd,List.length_append,List.length_cons,List.length_nil,Option.some.injEq]; try simp
          ·have hak := hak.trans (decide_eq_false he)
           simp only [go_sem,zaq,↓reduceIte,lcT,ty,zes,roPl,zhg,hlr,d6,hs3,hak,e5,Int.toNat_natCast,Bool.not_false]
           repeat (first | refine And.intro (by omega) ?_ | refine And.intro ⟨by omega,by omega⟩ ?_)
           refine ⟨rs.length - (a + 1),_,by omega,zab [0,1,2,3,4,5] rfl rfl rfl ?_ ?_,a + 1,rfl,by omega,zyn hsa he,rfl⟩
           ·simp only [ssT,zad,zae,setSlot,gOf,AV.ren,renL,Blk.ren,Ax.look,Ax.put,reduceCtorEq,↓reduceIte,Nat.reduceEqDiff,Nat.reduceLT,Nat.reduceAdd,List.length_append,List.length_cons,List.length_nil,Option.some.injEq]; try simp
           ·simp only [ssT,zad,zae,setSlot,gOf,AV.ren,renL,Blk.ren,Ax.look,Ax.put,reduceCtorEq,↓reduceIte,Nat.reduceEqDiff,Nat.reduceLT,Nat.reduceAdd,List.length_append,List.length_cons,List.length_nil,Option.some.injEq]; try simp
         ·have hda : rs.drop a = [] := List.drop_eq_nil_of_le (by omega)
          rw [hda,List.map_nil] at hsa
          have := hsa.length_le
          simp at this
       | false =>
        have hps : N2 = N + 1 := by simpa using hps
        subst hps
        simp only [go_sem,zaq,↓reduceIte,lcT,ty,zes,roPl,zam,hPm,hs1,hs2,hnl,d5,q0,e3,hkr,Int.toNat_natCast,Bool.not_false]
        repeat (first | refine And.intro (by omega) ?_ | refine And.intro ⟨by omega,by omega⟩ ?_)
        refine zex ⟨fun m σ => ∃ a : Nat,m = rs.length - a ∧ a ≤ rs.length ∧ ((⟨d,t,false,key,dd,val⟩ :: L.drop (i + 1)).map fgt).Sublist ((rs.drop a).map fgt) ∧
          σ = ⟨[.sg 6 (rs.map rv) f,.w (.int .i64 parts),.junk,.junk,.junk,.junk,.junk,.sg 1 (Ls.map nbR) false,.junk,.w (.int .i64 (S : Nat)),.ms 4 1 0 p,.w (.int .i64 p),.w (.int .i64 a),.w (.int .i64 ((N + 1) : Nat)),.w (.int .i64 i),.rf 5 6 0 0,.junk,.junk,.junk,.junk,.junk,.junk,.junk,.junk,.junk,.junk,.junk,.junk,.junk,.junk,.junk,.junk,.junk,.junk,.junk,.junk,.junk,.junk,.junk,.junk,.junk,.junk,.junk,.junk,.junk,.junk,.junk,.junk,.junk,.junk,.junk,.junk,.junk,.junk,.junk,.junk,.junk,.junk,.junk,.junk,.junk,.junk,.junk,.junk,.junk,.junk,.junk,.junk,.junk,.junk,.junk,.junk,.junk,.junk,.junk,.junk,.junk,.junk,.junk,.junk,.junk,.junk,.junk,.junk,.junk,.junk,.junk,.junk,.junk,.junk,.junk,.junk,.junk,.junk,.junk,.junk,.junk,.junk,.junk,.junk,.junk,.junk,.junk,.junk,.junk,.junk,.junk,.junk,.junk,.junk,.junk,.junk,.junk,.junk,.junk,.junk,.junk,.junk,.junk,.junk,.junk,.junk,.junk,.junk,.junk,.junk,.junk,.junk,.junk,.junk,.junk,.junk,.junk],[(4,.i ((Ls.take p).map fun L => (zbo L : Int))),(5,.g 6 [.agg [.w (.int .i64 (i : Int)),.w (.int .i64 t),.w (.bool false),.str key,.w (.bool dd),.str val]])],6⟩,?_,?_⟩
        ·refine ⟨_,_,zab [0,1,2,3,4,117] rfl rfl rfl ?_ ?_,at',rfl,hat,hss,rfl⟩
         ·simp only [ssT,zad,zae,setSlot,gOf,AV.ren,renL,Blk.ren,Ax.look,Ax.put,reduceCtorEq,↓reduceIte,Nat.reduceEqDiff,Nat.reduceLT,Nat.reduceAdd,List.length_append,List.length_cons,List.length_nil,Option.some.injEq]; try simp
         ·simp only [ssT,zad,zae,setSlot,gOf,AV.ren,renL,Blk.ren,Ax.look,Ax.put,reduceCtorEq,↓reduceIte,Nat.reduceEqDiff,Nat.reduceLT,Nat.reduceAdd,List.length_append,List.length_cons,List.length_nil,Option.some.injEq]; try simp
        ·rintro m σ ⟨a,rfl,ha,hsa,rfl⟩
         have e5 : ((a : Int) + 1 + 9223372036854775808) % 18446744073709551616 - 9223372036854775808 = ((a + 1 : Nat) : Int) := by omega
         by_cases hal : a < rs.length
         ·have d6 : decide ((a : Int) < rs.length) = true := decide_eq_true (by omega)
          have d7 : decide ((a : Int) = (rs.length : Int)) = false := decide_eq_false (by omega)
          have hs3 := zba rv rs a hal
          have hda : rs.drop a = rs[a] :: rs.drop (a + 1) := List.drop_eq_getElem_cons hal
          obtain ⟨x,hx⟩ : ∃ x,rs[a] = x := ⟨_,rfl⟩
          rw [hx] at hs3 hda
          rw [hda] at hsa
          have hak := zwj x ⟨d,t,false,key,dd,val⟩
          obtain ⟨d',t',k',key',dd',val'⟩ := x
          simp only [rv] at hs3
          simp only at hak
          by_cases he : fgt ⟨d',t',k',key',dd',val'⟩ = fgt ⟨d,t,false,key,dd,val⟩
          ·have hak := hak.trans (decide_eq_true he)
           simp only [go_sem,zaq,↓reduceIte,lcT,ty,zes,roPl,zhg,hlr,d6,hs3,hak,Int.toNat_natCast,Bool.not_true]
           repeat (first | refine And.intro (by omega) ?_ | refine And.intro ⟨by omega,by omega⟩ ?_)
           repeat (refine ⟨_,Weak.refl _,?_⟩; simp only [go_sem,zaq,↓reduceIte,lcT,ty,zes,roPl,hlr,d7,e5,e2])
           refine ⟨L.length - (i + 1),_,by omega,zab [0,1,2,3,4] rfl rfl rfl ?_ ?_,i + 1,a + 1,rfl,by omega,by omega,ydt hsa he,rfl⟩
           ·simp only [ssT,zad,zae,setSlot,gOf,AV.ren,renL,Blk.ren,Ax.look,Ax.put,reduceCtorEq,↓reduceIte,Nat.reduceEqDiff,Nat.reduceLT,Nat.reduceAdd,List.length_append,List.length_cons,List.length_nil,Option.some.injEq,hN2]; try simp
           ·simp only [ssT,zad,zae,setSlot,gOf,AV.ren,renL,Blk.ren,Ax.look,Ax.put,reduceCtorEq,↓reduceIte,Nat.reduceEqDiff,Nat.reduceLT,Nat.reduceAdd,List.length_append,List.length_cons,List.length_nil,Option.some.injEq]; try simp
          ·have hak := hak.trans (decide_eq_false he)
           simp only [go_sem,zaq,↓reduceIte,lcT,ty,zes,roPl,zhg,hlr,d6,hs3,hak,e5,Int.toNat_natCast,Bool.not_false]
           repeat (first | refine And.intro (by omega) ?_ | refine And.intro ⟨by omega,by omega⟩ ?_)
           refine ⟨rs.length - (a + 1),_,by omega,zab [0,1,2,3,4,5] rfl rfl rfl ?_ ?_,a + 1,rfl,by omega,zyn hsa he,rfl⟩
           ·simp only [ssT,zad,zae,setSlot,gOf,AV.ren,renL,Blk.ren,Ax.look,Ax.put,reduceCtorEq,↓reduceIte,Nat.reduceEqDiff,Nat.reduceLT,Nat.reduceAdd,List.length_append,List.length_cons,List.length_nil,Option.some.injEq]; try simp
           ·simp only [ssT,zad,zae,setSlot,gOf,AV.ren,renL,Blk.ren,Ax.look,Ax.put,reduceCtorEq,↓reduceIte,Nat.reduceEqDiff,Nat.reduceLT,Nat.reduceAdd,List.length_append,List.length_cons,List.length_nil,Option.some.injEq]; try simp
         ·have hda : rs.drop a = [] := List.drop_eq_nil_of_le (by omega)
          rw [hda,List.map_nil] at hsa
          have := hsa.length_le
          simp at this
      ·have d5 : decide ((i : Int) < L.length) = false := decide_eq_false (by omega)
       have htl : L.take i = L := List.take_of_length_le (by omega)
       rw [htl]
       have e4 : ((S : Int) + (L.length : Int) + 9223372036854775808) % 18446744073709551616 - 9223372036854775808 = ((S + L.length : Nat) : Int) := by omega
       have hpm2 : ((Ls.take p).map fun L => (zbo L : Int)).length = p := by rw [List.length_map,List.length_take]; omega
       have hap : ((Ls.take p).map fun L => (zbo L : Int)) ++ [(zbo L : Int)] = (Ls.take (p + 1)).map fun L => (zbo L : Int) := by rw [htk,List.map_append]; rfl
       have hs4 : ((Ls.take (p + 1)).map List.length).sum = S + L.length := by rw [htk,List.map_append,List.sum_append,hS]; simp
       simp only [go_sem,zaq,↓reduceIte,lcT,ty,zes,roPl,hPm,hs1,hnl,d5,Int.toNat_natCast]
       repeat (first | refine And.intro (by omega) ?_ | refine And.intro ⟨by omega,by omega⟩ ?_)
       repeat (refine ⟨_,Weak.refl _,?_⟩; simp only [go_sem,zaq,↓reduceIte,lcT,ty,zes,roPl,hPm,hs1,hnl,e1,e4,hpm2,hap,ht,Int.toNat_natCast]; repeat (first | refine And.intro (by omega) ?_ | refine And.intro ⟨by omega,by omega⟩ ?_))
       refine ⟨Ls.length - (p + 1),_,by omega,zab [0,1,2,3,149] rfl rfl rfl ?_ ?_,p + 1,rfl,by omega,rfl⟩
       ·simp only [ssT,zad,zae,setSlot,gOf,AV.ren,renL,Blk.ren,Ax.look,Ax.put,reduceCtorEq,↓reduceIte,Nat.reduceEqDiff,Nat.reduceLT,Nat.reduceAdd,List.length_append,List.length_cons,List.length_nil,Option.some.injEq,hs4]; try simp
       ·simp only [ssT,zad,zae,setSlot,gOf,AV.ren,renL,Blk.ren,Ax.look,Ax.put,reduceCtorEq,↓reduceIte,Nat.reduceEqDiff,Nat.reduceLT,Nat.reduceAdd,List.length_append,List.length_cons,List.length_nil,Option.some.injEq]; try simp
    ·have d4 : decide ((p : Int) < Ls.length) = false := decide_eq_false (by omega)
     obtain rfl : p = Ls.length := by omega
     rw [List.take_length,b4]
     simp only [go_sem,zaq,↓reduceIte,lcT,ty,zes,roPl,hPm,d4]
     refine ⟨_,Weak.refl _,?_⟩
     simp only [go_sem,zaq,↓reduceIte,lcT,ty,zes,roPl]
     obtain ⟨ns,hns⟩ : ∃ ns,(Ls.map fun L => (zbo L : Int)) = ns := ⟨_,rfl⟩
     have hnsl : ns.length = Ls.length := by rw [← hns,List.length_map]
     have hnsg : ∀ (j : Nat) (h : j < Ls.length),ns.getD j 0 = (zbo Ls[j] : Int) := fun j h => by rw [← hns]; simp [h]
     rw [hns]
     refine zex ⟨fun m σ => ∃ q : Nat,m = Ls.length - q ∧ q ≤ Ls.length ∧
       σ = ⟨[.sg 6 (rs.map rv) f,.junk,.junk,.junk,.junk,.junk,.junk,.junk,.junk,.w (.int .i64 rs.length),.ms 4 1 0 Ls.length,.junk,.junk,.junk,.junk,.junk,.w (.int .i64 q),.junk,.junk,.junk,.junk,.junk,.junk,.junk,.junk,.junk,.junk,.junk,.junk,.junk,.junk,.junk,.junk,.junk,.junk,.junk,.junk,.junk,.junk,.junk,.junk,.junk,.junk,.junk,.junk,.junk,.junk,.junk,.junk,.junk,.junk,.junk,.junk,.junk,.junk,.junk,.junk,.junk,.junk,.junk,.junk,.junk,.junk,.junk,.junk,.junk,.junk,.junk,.junk,.junk,.junk,.junk,.junk,.junk,.junk,.junk,.junk,.junk,.junk,.junk,.junk,.junk,.junk,.junk,.junk,.junk,.junk,.junk,.junk,.junk,.junk,.junk,.junk,.junk,.junk,.junk,.junk,.junk,.junk,.junk,.junk,.junk,.junk,.junk,.junk,.junk,.junk,.junk,.junk,.junk,.junk,.junk,.junk,.junk,.junk,.junk,.junk,.junk,.junk,.junk,.junk,.junk,.junk,.junk,.junk,.junk,.junk,.junk,.junk,.junk,.junk,.junk,.junk],[(4,.i ns)],5⟩,?_,?_⟩
     ·refine ⟨_,_,zab [0,1,2,3,4] rfl rfl rfl ?_ ?_,0,rfl,by omega,rfl⟩
      ·simp only [ssT,zad,zae,setSlot,gOf,AV.ren,renL,Blk.ren,Ax.look,Ax.put,reduceCtorEq,↓reduceIte,Nat.reduceEqDiff,Nat.reduceLT,Nat.reduceAdd,List.length_append,List.length_cons,List.length_nil,Option.some.injEq]; try simp
      ·simp only [ssT,zad,zae,setSlot,gOf,AV.ren,renL,Blk.ren,Ax.look,Ax.put,reduceCtorEq,↓reduceIte,Nat.reduceEqDiff,Nat.reduceLT,Nat.reduceAdd,List.length_append,List.length_cons,List.length_nil,Option.some.injEq]; try simp
     ·rintro m σ ⟨q,rfl,hq,rfl⟩
      have f1 : ((q : Int) + 1 + 9223372036854775808) % 18446744073709551616 - 9223372036854775808 = ((q + 1 : Nat) : Int) := by omega
      by_cases hql : q < Ls.length
      ·have d8 : decide ((q : Int) < Ls.length) = true := decide_eq_true (by omega)
       have hq1 := hnsg q hql
       simp only [go_sem,zaq,↓reduceIte,lcT,ty,zes,roPl,d8]
       refine zex ⟨fun m σ => ∃ o : Nat,m = Ls.length - o ∧ o ≤ Ls.length ∧
         σ = ⟨[.sg 6 (rs.map rv) f,.junk,.junk,.junk,.junk,.junk,.junk,.junk,.junk,.w (.int .i64 rs.length),.ms 4 1 0 Ls.length,.junk,.junk,.junk,.junk,.junk,.w (.int .i64 q),.w (.int .i64 o),.junk,.junk,.junk,.junk,.junk,.junk,.junk,.junk,.junk,.junk,.junk,.junk,.junk,.junk,.junk,.junk,.junk,.junk,.junk,.junk,.junk,.junk,.junk,.junk,.junk,.junk,.junk,.junk,.junk,.junk,.junk,.junk,.junk,.junk,.junk,.junk,.junk,.junk,.junk,.junk,.junk,.junk,.junk,.junk,.junk,.junk,.junk,.junk,.junk,.junk,.junk,.junk,.junk,.junk,.junk,.junk,.junk,.junk,.junk,.junk,.junk,.junk,.junk,.junk,.junk,.junk,.junk,.junk,.junk,.junk,.junk,.junk,.junk,.junk,.junk,.junk,.junk,.junk,.junk,.junk,.junk,.junk,.junk,.junk,.junk,.junk,.junk,.junk,.junk,.junk,.junk,.junk,.junk,.junk,.junk,.junk,.junk,.junk,.junk,.junk,.junk,.junk,.junk,.junk,.junk,.junk,.junk,.junk,.junk,.junk,.junk,.junk,.junk,.junk,.junk],[(4,.i ns)],5⟩,?_,?_⟩
       ·refine ⟨_,_,zab [0,1,2,3,4] rfl rfl rfl ?_ ?_,0,rfl,by omega,rfl⟩
        ·simp only [ssT,zad,zae,setSlot,gOf,AV.ren,renL,Blk.ren,Ax.look,Ax.put,reduceCtorEq,↓reduceIte,Nat.reduceEqDiff,Nat.reduceLT,Nat.reduceAdd,List.length_append,List.length_cons,List.length_nil,Option.some.injEq]; try simp
        ·simp only [ssT,zad,zae,setSlot,gOf,AV.ren,renL,Blk.ren,Ax.look,Ax.put,reduceCtorEq,↓reduceIte,Nat.reduceEqDiff,Nat.reduceLT,Nat.reduceAdd,List.length_append,List.length_cons,List.length_nil,Option.some.injEq]; try simp
       ·rintro m σ ⟨o,rfl,ho,rfl⟩
        have f2 : ((o : Int) + 1 + 9223372036854775808) % 18446744073709551616 - 9223372036854775808 = ((o + 1 : Nat) : Int) := by omega
        by_cases hol : o < Ls.length
        ·have d9 : decide ((o : Int) < Ls.length) = true := decide_eq_true (by omega)
         have ho1 := hnsg o hol
         have hpo := hev q o hql hol
         have hA1 : zbo Ls[q] ≤ 100 := Nat.le_trans List.countP_le_length (hll q hql)
         have hB1 : zbo Ls[o] ≤ 100 := Nat.le_trans List.countP_le_length (hll o hol)
         obtain ⟨A,hA⟩ : ∃ A,zbo Ls[q] = A := ⟨_,rfl⟩
         obtain ⟨B,hB⟩ : ∃ B,zbo Ls[o] = B := ⟨_,rfl⟩
         rw [hA] at hq1 hpo hA1
         rw [hB] at ho1 hpo hB1
         have f3 : ((B : Int) + 1 + 9223372036854775808) % 18446744073709551616 - 9223372036854775808 = ((B + 1 : Nat) : Int) := by omega
         have d10 : decide (((B + 1 : Nat) : Int) < (A : Int)) = false := decide_eq_false (by omega)
         simp only [go_sem,zaq,↓reduceIte,lcT,ty,zes,roPl,d9,hnsl,hq1,ho1,f3,d10,f2,Int.toNat_natCast]
         repeat (first | refine And.intro (by omega) ?_ | refine And.intro ⟨by omega,by omega⟩ ?_)
         refine ⟨Ls.length - (o + 1),_,by omega,zab [0,1,2,3,4] rfl rfl rfl ?_ ?_,o + 1,rfl,by omega,rfl⟩
         ·simp only [ssT,zad,zae,setSlot,gOf,AV.ren,renL,Blk.ren,Ax.look,Ax.put,reduceCtorEq,↓reduceIte,Nat.reduceEqDiff,Nat.reduceLT,Nat.reduceAdd,List.length_append,List.length_cons,List.length_nil,Option.some.injEq]; try simp
         ·simp only [ssT,zad,zae,setSlot,gOf,AV.ren,renL,Blk.ren,Ax.look,Ax.put,reduceCtorEq,↓reduceIte,Nat.reduceEqDiff,Nat.reduceLT,Nat.reduceAdd,List.length_append,List.length_cons,List.length_nil,Option.some.injEq]; try simp
        ·have d9 : decide ((o : Int) < Ls.length) = false := decide_eq_false (by omega)
         simp only [go_sem,zaq,↓reduceIte,lcT,ty,zes,roPl,d9]
         repeat (refine ⟨_,Weak.refl _,?_⟩; simp only [go_sem,zaq,↓reduceIte,lcT,ty,zes,roPl,f1])
         refine ⟨Ls.length - (q + 1),_,by omega,zab [0,1,2,3,4] rfl rfl rfl ?_ ?_,q + 1,rfl,by omega,rfl⟩
         ·simp only [ssT,zad,zae,setSlot,gOf,AV.ren,renL,Blk.ren,Ax.look,Ax.put,reduceCtorEq,↓reduceIte,Nat.reduceEqDiff,Nat.reduceLT,Nat.reduceAdd,List.length_append,List.length_cons,List.length_nil,Option.some.injEq]; try simp
         ·simp only [ssT,zad,zae,setSlot,gOf,AV.ren,renL,Blk.ren,Ax.look,Ax.put,reduceCtorEq,↓reduceIte,Nat.reduceEqDiff,Nat.reduceLT,Nat.reduceAdd,List.length_append,List.length_cons,List.length_nil,Option.some.injEq]; try simp
      ·have d8 : decide ((q : Int) < Ls.length) = false := decide_eq_false (by omega)
       have hrr : decide ((rs.length : Int) = rs.length) = true := decide_eq_true rfl
       simp only [go_sem,zaq,↓reduceIte,lcT,ty,zes,roPl,d8]
       refine ⟨_,Weak.refl _,?_⟩
       simp only [go_sem,zaq,↓reduceIte,lcT,ty,zes,roPl,yesS,hlr,hrr]
       exact ztb 6 rfl
  ·have d1 : decide (rs.length ≤ 100 ∧ ∀ r ∈ rs,zpm r) = false := decide_eq_false h1
   simp only [go_sem,zaq,↓reduceIte,lcT,ty,zes,roPl,yesS,zks,hcr,hL,hlr,hxr,zaz,d1]
   exact ztb 6 rfl
 ·exact hp.elim
end
theorem yaz : ∀ (xs : List AV),(∀ x ∈ xs,∃ r : Rec,x = rv r) → ∃ rs : List Rec,xs = rs.map rv
 | [],_ => ⟨[],rfl⟩
 | x :: xs,h => by
  obtain ⟨r,rfl⟩ := h x (by simp)
  obtain ⟨rs,rfl⟩ := yaz xs (fun y hy => h y (by simp [hy]))
  exact ⟨r :: rs,rfl⟩
theorem ydk {j : Nat} {x : AV} (h : Arg ty (j + 7) 22 x) : ∃ (rs : List Rec) (f : Bool),x = .sg 6 (rs.map rv) f ∧ rs.length ≤ 9223372036854775807 := by
 obtain ⟨i,ls,hi,hs,rfl⟩ := h
 simp only [ty] at hi
 injection hi with hi
 subst hi
 simp only [zmo,ty,zpe,zjq] at hs
 obtain ⟨xs,f,rfl,hl,hx⟩ := hs
 obtain ⟨rs,rfl⟩ := yaz xs (fun x hxm => by
  obtain ⟨l,⟨l1,r1,rfl,⟨m1,rfl,w1⟩,l2,r2,rfl,⟨m2,rfl,w2⟩,l3,r3,rfl,⟨m3,rfl⟩,l4,r4,rfl,⟨m4,rfl,w4⟩,l5,r5,rfl,⟨m5,rfl⟩,l6,r6,rfl,⟨m6,rfl,w6⟩,rfl⟩,_,rfl⟩ := hx x hxm
  exact ⟨⟨m1,m2,m3,m4,m5,m6⟩,rfl⟩)
 rw [List.length_map] at hl
 have hm : maxLen = 9223372036854775807 := by decide
 exact ⟨rs,f,rfl,by omega⟩
theorem zwe {j : Nat} {x : AV} (h : Arg ty (j + 1) 3 x) : ∃ m : Int,x = .w (.int .i64 m) := by
 obtain ⟨i,ls,hi,hs,rfl⟩ := h
 simp only [ty] at hi
 injection hi with hi
 subst hi
 simp only [zmo,ty,zpe] at hs
 obtain ⟨m,rfl,w⟩ := hs
 exact ⟨m,rfl⟩
theorem ro_dom {x y z : AV} (hx : Arg ty 8 22 x) (hy : Arg ty 8 3 y) (hz : Arg ty 8 3 z) : (roS [x,y,z] []).p ∧ (roS [x,y,z] []).x = .w (.bool true) := by
 obtain ⟨rs,f,rfl,hL⟩ := ydk (j := 1) hx
 obtain ⟨a,rfl⟩ := zwe (j := 7) hy
 obtain ⟨b,rfl⟩ := zwe (j := 7) hz
 exact ⟨⟨by rw [List.length_map]; exact hL,rs,rfl⟩,rfl⟩
end Go.Proofs.Ytdfgfdcfcdgadaa
