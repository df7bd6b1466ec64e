/- What the proofs of this seat stand on; it asks nothing. -/
import Derived.Test.YtgpcnmajkcfgiaaYa11
set_option linter.unusedSimpArgs false
set_option linter.unusedVariables false
namespace Go.Proofs.Ytgpcnmajkcfgiaa
open Ax
def zdr (f : FuncId) : Option zay :=
 match f with
 | 43 => some plcS
 | 45 => some ptcS
 | 30 => some askcS
 | _ => none
theorem Ofst13_ok : FnsO Try.prog zdr := by
 intro f s h
 unfold zdr at h
 split at h
 · injection h with h; subst h; exact ⟨⟨_,Try.func43,by kernel_rfl,by kernel_rfl⟩,plc_sound⟩
 · injection h with h; subst h; exact ⟨⟨_,Try.func45,by kernel_rfl,by kernel_rfl⟩,ptc_sound⟩
 · injection h with h; subst h; exact ⟨⟨_,Try.func30,by kernel_rfl,by kernel_rfl⟩,askc_sound⟩
 · cases h
def fstES : zay
 | [.sg 3 xs g,.fn id [.rf 0 1 0 0]],[.g 1 [.w (.int .i64 v)]] => ⟨id = 43 ∧ xs.length ≤ 9223372036854775807 ∧ (∃ l : List En,xs = l.map enA),.w (.int .i64 ((xs.map uen).findIdx (isI v) : Nat)),[.g 1 [.w (.int .i64 v)]]⟩
 | [.ms 0 3 0 n,.fn id [.rf 1 1 0 0]],[.g 3 xs,.g 1 [.w (.int .i64 v)]] => ⟨id = 43 ∧ (n = xs.length ∧ 0 < n ∧ n ≤ 9223372036854775807) ∧ (∃ l : List En,xs = l.map enA),.w (.int .i64 ((xs.map uen).findIdx (isI v) : Nat)),[.g 3 xs,.g 1 [.w (.int .i64 v)]]⟩
 | [.sg 3 xs g,.fn id [.rf 0 6 0 0]],[.g 6 [.agg [.w (.int .i64 b),.w (.int .i64 c),.w (.int .i64 p),.w (.int .i64 o),.w (.int .i64 s),.sg 6 rs h]]] => ⟨id = 45 ∧ xs.length ≤ 9223372036854775807 ∧ closedL rs = true ∧ (∃ l : List En,xs = l.map enA),.w (.int .i64 ((xs.map uen).findIdx (pastI p) : Nat)),[.g 6 [.agg [.w (.int .i64 b),.w (.int .i64 c),.w (.int .i64 p),.w (.int .i64 o),.w (.int .i64 s),.sg 6 rs h]]]⟩
 | [.ms 0 3 0 n,.fn id [.rf 1 6 0 0]],[.g 3 xs,.g 6 [.agg [.w (.int .i64 b),.w (.int .i64 c),.w (.int .i64 p),.w (.int .i64 o),.w (.int .i64 s),.sg 6 rs h]]] => ⟨id = 45 ∧ (n = xs.length ∧ 0 < n ∧ n ≤ 9223372036854775807) ∧ closedL rs = true ∧ (∃ l : List En,xs = l.map enA),.w (.int .i64 ((xs.map uen).findIdx (pastI p) : Nat)),[.g 3 xs,.g 6 [.agg [.w (.int .i64 b),.w (.int .i64 c),.w (.int .i64 p),.w (.int .i64 o),.w (.int .i64 s),.sg 6 rs h]]]⟩
 | _,_ => zcr
def zbf : XPlan := fun id => match id with
 | 4 => .opn [] 2
 | _ => .std
section
set_option maxRecDepth 100000
set_option maxHeartbeats 4000000
theorem fstE_sound : SoundO Try.prog 42 fstES := by
 refine fn_soundO (S := noS) (SO := zdr) (T := ty) zcu ty_ok zdj Ofst13_ok Try.func42 (c := Try.f42.body.getD .skip) (by kernel_rfl) (fun xs pins hp => ?_)
 unfold fstES at hp ⊢
 split at hp
 · rename_i xs g id v
   obtain ⟨rfl,hL,l,rfl⟩ := hp
   rw [List.length_map] at hL
   have hle : (l.map enA).length = l.length := by simp
   have hcl := zab l
   rw [zak]
   refine ⟨by simp,zbf,by kernel_rfl,?_⟩
   unfold Try.f42
   simp only [go_sem,zaa,Nat.reduceAdd,Nat.reduceSub,Nat.reduceMul,Int.reduceToNat,reduceCtorEq,↓reduceIte,Int.reducePow,Nat.reducePow,Int.reduceMod,Nat.reduceLeDiff,Int.reduceLE,Int.reduceNe,Int.reduceEq,Nat.reduceEqDiff,Nat.reduceLT,Nat.reduceBEq,List.map_cons,List.map_nil,List.toList_toArray,Array.toList_append,Option.toArray_some,Option.toArray_none,Bool.and_self,ty,noS,zdr,zbf,hle,hcl,Int.toNat_natCast]
   refine zbq ⟨fun m σ => ∃ i : Nat,m = l.length - i ∧ i ≤ l.length ∧ (l.drop i).findIdx (isI v) + i = l.findIdx (isI v) ∧
       σ = ⟨[.sg 3 (l.map enA) g,.fn 43 [.rf 0 1 0 0],.junk,.junk,.junk,.junk,.junk,.sg 3 (l.map enA) g,.w (.int .i64 l.length),.w (.int .i64 i),.junk,.junk,.junk,.junk,.junk,.junk,.junk,.junk,.junk,.junk,.junk],[(0,.g 1 [.w (.int .i64 v)])],4⟩,?_,?_⟩
   · refine ⟨_,_,zal [0,1,2,3] rfl rfl rfl ?_ ?_,0,rfl,by omega,by rw [List.drop_zero]; rfl,rfl⟩
     · simp only [ssT,zaq,zar,setSlot,gOf,AV.ren,renL,Blk.ren,Ax.look,Ax.put,reduceCtorEq,↓reduceIte,Nat.reduceEqDiff,Nat.reduceLT,Nat.reduceAdd,List.length_append,List.length_cons,List.length_nil,Option.some.injEq,zai,zax]; try simp
     · simp only [ssT,zaq,zar,setSlot,gOf,AV.ren,renL,Blk.ren,Ax.look,Ax.put,reduceCtorEq,↓reduceIte,Nat.reduceEqDiff,Nat.reduceLT,Nat.reduceAdd,List.length_append,List.length_cons,List.length_nil,Option.some.injEq,zai,zax]; try simp
   · rintro m σ ⟨i,rfl,hi,hinv,rfl⟩
     by_cases hil : i < l.length
     · have e1 : ((i : Int) + 1 + 9223372036854775808) % 18446744073709551616 - 9223372036854775808 = ((i + 1 : Nat) : Int) := by omega
       have d1 : decide ((i : Int) < l.length) = true := decide_eq_true (by omega)
       have hs1 := zbw l i hil
       cases hv : (isI v) l[i] with
       | true =>
         have hfi := find_at _ l i hil hv hinv
         rw [hfi]
         obtain ⟨r,hr1⟩ : ∃ r,l[i] = r := ⟨_,rfl⟩
         rw [hr1] at hs1 hv
         obtain ⟨i1,e1x,l1⟩ := r
         have hs1 : slot (l.map enA) i = .agg [.w (.int .i64 i1),.w (.int .i64 e1x),.sg 3 (l1.map seA) false] := hs1
         have hcs := zac l1
         have hv : decide (i1 = v) = _ := hv
         simp only [go_sem,zaa,Nat.reduceAdd,Nat.reduceSub,Nat.reduceMul,Int.reduceToNat,reduceCtorEq,↓reduceIte,Int.reducePow,Nat.reducePow,Int.reduceMod,Nat.reduceLeDiff,Int.reduceLE,Int.reduceNe,Int.reduceEq,Nat.reduceEqDiff,Nat.reduceLT,Nat.reduceBEq,List.map_cons,List.map_nil,List.toList_toArray,Array.toList_append,Option.toArray_some,Option.toArray_none,Bool.and_self,ty,noS,zdr,zbf,plcS,hcs,zac,hle,hcl,d1,hs1,hv,Int.toNat_natCast,Bool.not_true,Bool.not_false]
         repeat (refine And.intro (by omega) ?_)
         refine ⟨_,Weak.refl _,?_⟩
         simp only [go_sem,zaa,Nat.reduceAdd,Nat.reduceSub,Nat.reduceMul,Int.reduceToNat,reduceCtorEq,↓reduceIte,Int.reducePow,Nat.reducePow,Int.reduceMod,Nat.reduceLeDiff,Int.reduceLE,Int.reduceNe,Int.reduceEq,Nat.reduceEqDiff,Nat.reduceLT,Nat.reduceBEq,List.map_cons,List.map_nil,List.toList_toArray,Array.toList_append,Option.toArray_some,Option.toArray_none,Bool.and_self,ty,noS,zbf,hcl,hle,cond_true]
         try (refine ⟨_,Weak.refl _,?_⟩)
         try simp only [go_sem,zaa,Nat.reduceAdd,Nat.reduceSub,Nat.reduceMul,Int.reduceToNat,reduceCtorEq,↓reduceIte,Int.reducePow,Nat.reducePow,Int.reduceMod,Nat.reduceLeDiff,Int.reduceLE,Int.reduceNe,Int.reduceEq,Nat.reduceEqDiff,Nat.reduceLT,Nat.reduceBEq,List.map_cons,List.map_nil,List.toList_toArray,Array.toList_append,Option.toArray_some,Option.toArray_none,Bool.and_self,ty,noS,zbf,hcl,hle,cond_true]
       | false =>
         have hfi := zep _ l i hil hv hinv
         obtain ⟨r,hr1⟩ : ∃ r,l[i] = r := ⟨_,rfl⟩
         rw [hr1] at hs1 hv
         obtain ⟨i1,e1x,l1⟩ := r
         have hs1 : slot (l.map enA) i = .agg [.w (.int .i64 i1),.w (.int .i64 e1x),.sg 3 (l1.map seA) false] := hs1
         have hcs := zac l1
         have hv : decide (i1 = v) = _ := hv
         simp only [go_sem,zaa,Nat.reduceAdd,Nat.reduceSub,Nat.reduceMul,Int.reduceToNat,reduceCtorEq,↓reduceIte,Int.reducePow,Nat.reducePow,Int.reduceMod,Nat.reduceLeDiff,Int.reduceLE,Int.reduceNe,Int.reduceEq,Nat.reduceEqDiff,Nat.reduceLT,Nat.reduceBEq,List.map_cons,List.map_nil,List.toList_toArray,Array.toList_append,Option.toArray_some,Option.toArray_none,Bool.and_self,ty,noS,zdr,zbf,plcS,hcs,zac,hle,hcl,d1,hs1,hv,e1,Int.toNat_natCast,Bool.not_true,Bool.not_false]
         repeat (refine And.intro (by omega) ?_)
         refine ⟨l.length - (i + 1),_,by omega,zal [0,1,2,3] rfl rfl rfl ?_ ?_,i + 1,rfl,by omega,hfi,rfl⟩
         · simp only [ssT,zaq,zar,setSlot,gOf,AV.ren,renL,Blk.ren,Ax.look,Ax.put,reduceCtorEq,↓reduceIte,Nat.reduceEqDiff,Nat.reduceLT,Nat.reduceAdd,List.length_append,List.length_cons,List.length_nil,Option.some.injEq,zai,zax]; try simp
         · simp only [ssT,zaq,zar,setSlot,gOf,AV.ren,renL,Blk.ren,Ax.look,Ax.put,reduceCtorEq,↓reduceIte,Nat.reduceEqDiff,Nat.reduceLT,Nat.reduceAdd,List.length_append,List.length_cons,List.length_nil,Option.some.injEq,zai,zax]; try simp
     · have d1 : decide ((i : Int) < l.length) = false := decide_eq_false (by omega)
       have hfi := find_end _ l i (by omega) hi hinv
       rw [hfi]
       simp only [go_sem,zaa,Nat.reduceAdd,Nat.reduceSub,Nat.reduceMul,Int.reduceToNat,reduceCtorEq,↓reduceIte,Int.reducePow,Nat.reducePow,Int.reduceMod,Nat.reduceLeDiff,Int.reduceLE,Int.reduceNe,Int.reduceEq,Nat.reduceEqDiff,Nat.reduceLT,Nat.reduceBEq,List.map_cons,List.map_nil,List.toList_toArray,Array.toList_append,Option.toArray_some,Option.toArray_none,Bool.and_self,ty,noS,zbf,hle,hcl,d1]
       refine ⟨_,Weak.refl _,?_⟩
       simp only [go_sem,zaa,Nat.reduceAdd,Nat.reduceSub,Nat.reduceMul,Int.reduceToNat,reduceCtorEq,↓reduceIte,Int.reducePow,Nat.reducePow,Int.reduceMod,Nat.reduceLeDiff,Int.reduceLE,Int.reduceNe,Int.reduceEq,Nat.reduceEqDiff,Nat.reduceLT,Nat.reduceBEq,List.map_cons,List.map_nil,List.toList_toArray,Array.toList_append,Option.toArray_some,Option.toArray_none,Bool.and_self,ty,noS,zbf,hcl,hle,cond_true]
       try (refine ⟨_,Weak.refl _,?_⟩)
       try simp only [go_sem,zaa,Nat.reduceAdd,Nat.reduceSub,Nat.reduceMul,Int.reduceToNat,reduceCtorEq,↓reduceIte,Int.reducePow,Nat.reducePow,Int.reduceMod,Nat.reduceLeDiff,Int.reduceLE,Int.reduceNe,Int.reduceEq,Nat.reduceEqDiff,Nat.reduceLT,Nat.reduceBEq,List.map_cons,List.map_nil,List.toList_toArray,Array.toList_append,Option.toArray_some,Option.toArray_none,Bool.and_self,ty,noS,zbf,hcl,hle,cond_true]
 · rename_i n id xs v
   obtain ⟨rfl,⟨rfl,h0,hL⟩,l,rfl⟩ := hp
   rw [List.length_map] at h0 hL
   have hle : (l.map enA).length = l.length := by simp
   have hcl := zab l
   rw [zak]
   refine ⟨by simp,zbf,by kernel_rfl,?_⟩
   unfold Try.f42
   simp only [go_sem,zaa,Nat.reduceAdd,Nat.reduceSub,Nat.reduceMul,Int.reduceToNat,reduceCtorEq,↓reduceIte,Int.reducePow,Nat.reducePow,Int.reduceMod,Nat.reduceLeDiff,Int.reduceLE,Int.reduceNe,Int.reduceEq,Nat.reduceEqDiff,Nat.reduceLT,Nat.reduceBEq,List.map_cons,List.map_nil,List.toList_toArray,Array.toList_append,Option.toArray_some,Option.toArray_none,Bool.and_self,ty,noS,zdr,zbf,hle,hcl,Int.toNat_natCast]
   refine zbq ⟨fun m σ => ∃ i : Nat,m = l.length - i ∧ i ≤ l.length ∧ (l.drop i).findIdx (isI v) + i = l.findIdx (isI v) ∧
       σ = ⟨[.ms 0 3 0 l.length,.fn 43 [.rf 1 1 0 0],.junk,.junk,.junk,.junk,.junk,.ms 0 3 0 l.length,.w (.int .i64 l.length),.w (.int .i64 i),.junk,.junk,.junk,.junk,.junk,.junk,.junk,.junk,.junk,.junk,.junk],[(0,.g 3 (l.map enA)),(1,.g 1 [.w (.int .i64 v)])],4⟩,?_,?_⟩
   · refine ⟨_,_,zal [0,1,2,3] rfl rfl rfl ?_ ?_,0,rfl,by omega,by rw [List.drop_zero]; rfl,rfl⟩
     · simp only [ssT,zaq,zar,setSlot,gOf,AV.ren,renL,Blk.ren,Ax.look,Ax.put,reduceCtorEq,↓reduceIte,Nat.reduceEqDiff,Nat.reduceLT,Nat.reduceAdd,List.length_append,List.length_cons,List.length_nil,Option.some.injEq,zai,zax]; try simp
     · simp only [ssT,zaq,zar,setSlot,gOf,AV.ren,renL,Blk.ren,Ax.look,Ax.put,reduceCtorEq,↓reduceIte,Nat.reduceEqDiff,Nat.reduceLT,Nat.reduceAdd,List.length_append,List.length_cons,List.length_nil,Option.some.injEq,zai,zax]; try simp
   · rintro m σ ⟨i,rfl,hi,hinv,rfl⟩
     by_cases hil : i < l.length
     · have e1 : ((i : Int) + 1 + 9223372036854775808) % 18446744073709551616 - 9223372036854775808 = ((i + 1 : Nat) : Int) := by omega
       have d1 : decide ((i : Int) < l.length) = true := decide_eq_true (by omega)
       have hs1 := zbw l i hil
       cases hv : (isI v) l[i] with
       | true =>
         have hfi := find_at _ l i hil hv hinv
         rw [hfi]
         obtain ⟨r,hr1⟩ : ∃ r,l[i] = r := ⟨_,rfl⟩
         rw [hr1] at hs1 hv
         obtain ⟨i1,e1x,l1⟩ := r
         have hs1 : slot (l.map enA) i = .agg [.w (.int .i64 i1),.w (.int .i64 e1x),.sg 3 (l1.map seA) false] := hs1
         have hcs := zac l1
         have hv : decide (i1 = v) = _ := hv
         simp only [go_sem,zaa,Nat.reduceAdd,Nat.reduceSub,Nat.reduceMul,Int.reduceToNat,reduceCtorEq,↓reduceIte,Int.reducePow,Nat.reducePow,Int.reduceMod,Nat.reduceLeDiff,Int.reduceLE,Int.reduceNe,Int.reduceEq,Nat.reduceEqDiff,Nat.reduceLT,Nat.reduceBEq,List.map_cons,List.map_nil,List.toList_toArray,Array.toList_append,Option.toArray_some,Option.toArray_none,Bool.and_self,ty,noS,zdr,zbf,plcS,hcs,zac,hle,hcl,d1,hs1,hv,Int.toNat_natCast,Bool.not_true,Bool.not_false]
         repeat (refine And.intro (by omega) ?_)
         refine ⟨_,Weak.refl _,?_⟩
         simp only [go_sem,zaa,Nat.reduceAdd,Nat.reduceSub,Nat.reduceMul,Int.reduceToNat,reduceCtorEq,↓reduceIte,Int.reducePow,Nat.reducePow,Int.reduceMod,Nat.reduceLeDiff,Int.reduceLE,Int.reduceNe,Int.reduceEq,Nat.reduceEqDiff,Nat.reduceLT,Nat.reduceBEq,List.map_cons,List.map_nil,List.toList_toArray,Array.toList_append,Option.toArray_some,Option.toArray_none,Bool.and_self,ty,noS,zbf,hcl,hle,cond_true]
         try (refine ⟨_,Weak.refl _,?_⟩)
         try simp only [go_sem,zaa,Nat.reduceAdd,Nat.reduceSub,Nat.reduceMul,Int.reduceToNat,reduceCtorEq,↓reduceIte,Int.reducePow,Nat.reducePow,Int.reduceMod,Nat.reduceLeDiff,Int.reduceLE,Int.reduceNe,Int.reduceEq,Nat.reduceEqDiff,Nat.reduceLT,Nat.reduceBEq,List.map_cons,List.map_nil,List.toList_toArray,Array.toList_append,Option.toArray_some,Option.toArray_none,Bool.and_self,ty,noS,zbf,hcl,hle,cond_true]
       | false =>
         have hfi := zep _ l i hil hv hinv
         obtain ⟨r,hr1⟩ : ∃ r,l[i] = r := ⟨_,rfl⟩
         rw [hr1] at hs1 hv
         obtain ⟨i1,e1x,l1⟩ := r
         have hs1 : slot (l.map enA) i = .agg [.w (.int .i64 i1),.w (.int .i64 e1x),.sg 3 (l1.map seA) false] := hs1
         have hcs := zac l1
         have hv : decide (i1 = v) = _ := hv
         simp only [go_sem,zaa,Nat.reduceAdd,Nat.reduceSub,Nat.reduceMul,Int.reduceToNat,reduceCtorEq,↓reduceIte,Int.reducePow,Nat.reducePow,Int.reduceMod,Nat.reduceLeDiff,Int.reduceLE,Int.reduceNe,Int.reduceEq,Nat.reduceEqDiff,Nat.reduceLT,Nat.reduceBEq,List.map_cons,List.map_nil,List.toList_toArray,Array.toList_append,Option.toArray_some,Option.toArray_none,Bool.and_self,ty,noS,zdr,zbf,plcS,hcs,zac,hle,hcl,d1,hs1,hv,e1,Int.toNat_natCast,Bool.not_true,Bool.not_false]
         repeat (refine And.intro (by omega) ?_)
         refine ⟨l.length - (i + 1),_,by omega,zal [0,1,2,3] rfl rfl rfl ?_ ?_,i + 1,rfl,by omega,hfi,rfl⟩
         · simp only [ssT,zaq,zar,setSlot,gOf,AV.ren,renL,Blk.ren,Ax.look,Ax.put,reduceCtorEq,↓reduceIte,Nat.reduceEqDiff,Nat.reduceLT,Nat.reduceAdd,List.length_append,List.length_cons,List.length_nil,Option.some.injEq,zai,zax]; try simp
         · simp only [ssT,zaq,zar,setSlot,gOf,AV.ren,renL,Blk.ren,Ax.look,Ax.put,reduceCtorEq,↓reduceIte,Nat.reduceEqDiff,Nat.reduceLT,Nat.reduceAdd,List.length_append,List.length_cons,List.length_nil,Option.some.injEq,zai,zax]; try simp
     · have d1 : decide ((i : Int) < l.length) = false := decide_eq_false (by omega)
       have hfi := find_end _ l i (by omega) hi hinv
       rw [hfi]
       simp only [go_sem,zaa,Nat.reduceAdd,Nat.reduceSub,Nat.reduceMul,Int.reduceToNat,reduceCtorEq,↓reduceIte,Int.reducePow,Nat.reducePow,Int.reduceMod,Nat.reduceLeDiff,Int.reduceLE,Int.reduceNe,Int.reduceEq,Nat.reduceEqDiff,Nat.reduceLT,Nat.reduceBEq,List.map_cons,List.map_nil,List.toList_toArray,Array.toList_append,Option.toArray_some,Option.toArray_none,Bool.and_self,ty,noS,zbf,hle,hcl,d1]
       refine ⟨_,Weak.refl _,?_⟩
       simp only [go_sem,zaa,Nat.reduceAdd,Nat.reduceSub,Nat.reduceMul,Int.reduceToNat,reduceCtorEq,↓reduceIte,Int.reducePow,Nat.reducePow,Int.reduceMod,Nat.reduceLeDiff,Int.reduceLE,Int.reduceNe,Int.reduceEq,Nat.reduceEqDiff,Nat.reduceLT,Nat.reduceBEq,List.map_cons,List.map_nil,List.toList_toArray,Array.toList_append,Option.toArray_some,Option.toArray_none,Bool.and_self,ty,noS,zbf,hcl,hle,cond_true]
       try (refine ⟨_,Weak.refl _,?_⟩)
       try simp only [go_sem,zaa,Nat.reduceAdd,Nat.reduceSub,Nat.reduceMul,Int.reduceToNat,reduceCtorEq,↓reduceIte,Int.reducePow,Nat.reducePow,Int.reduceMod,Nat.reduceLeDiff,Int.reduceLE,Int.reduceNe,Int.reduceEq,Nat.reduceEqDiff,Nat.reduceLT,Nat.reduceBEq,List.map_cons,List.map_nil,List.toList_toArray,Array.toList_append,Option.toArray_some,Option.toArray_none,Bool.and_self,ty,noS,zbf,hcl,hle,cond_true]
 · rename_i xs g id b c p o s rs h
   obtain ⟨rfl,hL,hr,l,rfl⟩ := hp
   rw [List.length_map] at hL
   have hle : (l.map enA).length = l.length := by simp
   have hcl := zab l
   rw [zak]
   refine ⟨by simp,zbf,by kernel_rfl,?_⟩
   unfold Try.f42
   simp only [go_sem,zaa,Nat.reduceAdd,Nat.reduceSub,Nat.reduceMul,Int.reduceToNat,reduceCtorEq,↓reduceIte,Int.reducePow,Nat.reducePow,Int.reduceMod,Nat.reduceLeDiff,Int.reduceLE,Int.reduceNe,Int.reduceEq,Nat.reduceEqDiff,Nat.reduceLT,Nat.reduceBEq,List.map_cons,List.map_nil,List.toList_toArray,Array.toList_append,Option.toArray_some,Option.toArray_none,Bool.and_self,ty,noS,zdr,zbf,hle,hcl,hr,Int.toNat_natCast]
   refine zbq ⟨fun m σ => ∃ i : Nat,m = l.length - i ∧ i ≤ l.length ∧ (l.drop i).findIdx (pastI p) + i = l.findIdx (pastI p) ∧
       σ = ⟨[.sg 3 (l.map enA) g,.fn 45 [.rf 0 6 0 0],.junk,.junk,.junk,.junk,.junk,.sg 3 (l.map enA) g,.w (.int .i64 l.length),.w (.int .i64 i),.junk,.junk,.junk,.junk,.junk,.junk,.junk,.junk,.junk,.junk,.junk],[(0,.g 6 [.agg [.w (.int .i64 b),.w (.int .i64 c),.w (.int .i64 p),.w (.int .i64 o),.w (.int .i64 s),.sg 6 rs h]])],4⟩,?_,?_⟩
   · refine ⟨_,_,zal [0,1,2,3] rfl rfl rfl ?_ ?_,0,rfl,by omega,by rw [List.drop_zero]; rfl,rfl⟩
     · simp only [ssT,zaq,zar,setSlot,gOf,AV.ren,renL,Blk.ren,Ax.look,Ax.put,reduceCtorEq,↓reduceIte,Nat.reduceEqDiff,Nat.reduceLT,Nat.reduceAdd,List.length_append,List.length_cons,List.length_nil,Option.some.injEq,zai,zax]; try simp
     · simp only [ssT,zaq,zar,setSlot,gOf,AV.ren,renL,Blk.ren,Ax.look,Ax.put,reduceCtorEq,↓reduceIte,Nat.reduceEqDiff,Nat.reduceLT,Nat.reduceAdd,List.length_append,List.length_cons,List.length_nil,Option.some.injEq,zai,zax]; try simp
   · rintro m σ ⟨i,rfl,hi,hinv,rfl⟩
     by_cases hil : i < l.length
     · have e1 : ((i : Int) + 1 + 9223372036854775808) % 18446744073709551616 - 9223372036854775808 = ((i + 1 : Nat) : Int) := by omega
       have d1 : decide ((i : Int) < l.length) = true := decide_eq_true (by omega)
       have hs1 := zbw l i hil
       cases hv : (pastI p) l[i] with
       | true =>
         have hfi := find_at _ l i hil hv hinv
         rw [hfi]
         obtain ⟨r,hr1⟩ : ∃ r,l[i] = r := ⟨_,rfl⟩
         rw [hr1] at hs1 hv
         obtain ⟨i1,e1x,l1⟩ := r
         have hs1 : slot (l.map enA) i = .agg [.w (.int .i64 i1),.w (.int .i64 e1x),.sg 3 (l1.map seA) false] := hs1
         have hcs := zac l1
         have hv : decide (p < i1) = _ := hv
         simp only [go_sem,zaa,Nat.reduceAdd,Nat.reduceSub,Nat.reduceMul,Int.reduceToNat,reduceCtorEq,↓reduceIte,Int.reducePow,Nat.reducePow,Int.reduceMod,Nat.reduceLeDiff,Int.reduceLE,Int.reduceNe,Int.reduceEq,Nat.reduceEqDiff,Nat.reduceLT,Nat.reduceBEq,List.map_cons,List.map_nil,List.toList_toArray,Array.toList_append,Option.toArray_some,Option.toArray_none,Bool.and_self,ty,noS,zdr,zbf,ptcS,hcs,zac,hle,hcl,hr,d1,hs1,hv,Int.toNat_natCast,Bool.not_true,Bool.not_false]
         repeat (refine And.intro (by omega) ?_)
         refine ⟨_,Weak.refl _,?_⟩
         simp only [go_sem,zaa,Nat.reduceAdd,Nat.reduceSub,Nat.reduceMul,Int.reduceToNat,reduceCtorEq,↓reduceIte,Int.reducePow,Nat.reducePow,Int.reduceMod,Nat.reduceLeDiff,Int.reduceLE,Int.reduceNe,Int.reduceEq,Nat.reduceEqDiff,Nat.reduceLT,Nat.reduceBEq,List.map_cons,List.map_nil,List.toList_toArray,Array.toList_append,Option.toArray_some,Option.toArray_none,Bool.and_self,ty,noS,zbf,hcl,hr,hle,cond_true]
         try (refine ⟨_,Weak.refl _,?_⟩)
         try simp only [go_sem,zaa,Nat.reduceAdd,Nat.reduceSub,Nat.reduceMul,Int.reduceToNat,reduceCtorEq,↓reduceIte,Int.reducePow,Nat.reducePow,Int.reduceMod,Nat.reduceLeDiff,Int.reduceLE,Int.reduceNe,Int.reduceEq,Nat.reduceEqDiff,Nat.reduceLT,Nat.reduceBEq,List.map_cons,List.map_nil,List.toList_toArray,Array.toList_append,Option.toArray_some,Option.toArray_none,Bool.and_self,ty,noS,zbf,hcl,hr,hle,cond_true]
       | false =>
         have hfi := zep _ l i hil hv hinv
         obtain ⟨r,hr1⟩ : ∃ r,l[i] = r := ⟨_,rfl⟩
         rw [hr1] at hs1 hv
         obtain ⟨i1,e1x,l1⟩ := r
         have hs1 : slot (l.map enA) i = .agg [.w (.int .i64 i1),.w (.int .i64 e1x),.sg 3 (l1.map seA) false] := hs1
         have hcs := zac l1
         have hv : decide (p < i1) = _ := hv
         simp only [go_sem,zaa,Nat.reduceAdd,Nat.reduceSub,Nat.reduceMul,Int.reduceToNat,reduceCtorEq,↓reduceIte,Int.reducePow,Nat.reducePow,Int.reduceMod,Nat.reduceLeDiff,Int.reduceLE,Int.reduceNe,Int.reduceEq,Nat.reduceEqDiff,Nat.reduceLT,Nat.reduceBEq,List.map_cons,List.map_nil,List.toList_toArray,Array.toList_append,Option.toArray_some,Option.toArray_none,Bool.and_self,ty,noS,zdr,zbf,ptcS,hcs,zac,hle,hcl,hr,d1,hs1,hv,e1,Int.toNat_natCast,Bool.not_true,Bool.not_false]
         repeat (refine And.intro (by omega) ?_)
         refine ⟨l.length - (i + 1),_,by omega,zal [0,1,2,3] rfl rfl rfl ?_ ?_,i + 1,rfl,by omega,hfi,rfl⟩
         · simp only [ssT,zaq,zar,setSlot,gOf,AV.ren,renL,Blk.ren,Ax.look,Ax.put,reduceCtorEq,↓reduceIte,Nat.reduceEqDiff,Nat.reduceLT,Nat.reduceAdd,List.length_append,List.length_cons,List.length_nil,Option.some.injEq,zai,zax]; try simp
         · simp only [ssT,zaq,zar,setSlot,gOf,AV.ren,renL,Blk.ren,Ax.look,Ax.put,reduceCtorEq,↓reduceIte,Nat.reduceEqDiff,Nat.reduceLT,Nat.reduceAdd,List.length_append,List.length_cons,List.length_nil,Option.some.injEq,zai,zax]; try simp
     · have d1 : decide ((i : Int) < l.length) = false := decide_eq_false (by omega)
       have hfi := find_end _ l i (by omega) hi hinv
       rw [hfi]
       simp only [go_sem,zaa,Nat.reduceAdd,Nat.reduceSub,Nat.reduceMul,Int.reduceToNat,reduceCtorEq,↓reduceIte,Int.reducePow,Nat.reducePow,Int.reduceMod,Nat.reduceLeDiff,Int.reduceLE,Int.reduceNe,Int.reduceEq,Nat.reduceEqDiff,Nat.reduceLT,Nat.reduceBEq,List.map_cons,List.map_nil,List.toList_toArray,Array.toList_append,Option.toArray_some,Option.toArray_none,Bool.and_self,ty,noS,zbf,hle,hcl,hr,d1]
       refine ⟨_,Weak.refl _,?_⟩
       simp only [go_sem,zaa,Nat.reduceAdd,Nat.reduceSub,Nat.reduceMul,Int.reduceToNat,reduceCtorEq,↓reduceIte,Int.reducePow,Nat.reducePow,Int.reduceMod,Nat.reduceLeDiff,Int.reduceLE,Int.reduceNe,Int.reduceEq,Nat.reduceEqDiff,Nat.reduceLT,Nat.reduceBEq,List.map_cons,List.map_nil,List.toList_toArray,Array.toList_append,Option.toArray_some,Option.toArray_none,Bool.and_self,ty,noS,zbf,hcl,hr,hle,cond_true]
       try (refine ⟨_,Weak.refl _,?_⟩)
       try simp only [go_sem,zaa,Nat.reduceAdd,Nat.reduceSub,Nat.reduceMul,Int.reduceToNat,reduceCtorEq,↓reduceIte,Int.reducePow,Nat.reducePow,Int.reduceMod,Nat.reduceLeDiff,Int.reduceLE,Int.reduceNe,Int.reduceEq,Nat.reduceEqDiff,Nat.reduceLT,Nat.reduceBEq,List.map_cons,List.map_nil,List.toList_toArray,Array.toList_append,Option.toArray_some,Option.toArray_none,Bool.and_self,ty,noS,zbf,hcl,hr,hle,cond_true]
 · rename_i n id xs b c p o s rs h
   obtain ⟨rfl,⟨rfl,h0,hL⟩,hr,l,rfl⟩ := hp
   rw [List.length_map] at h0 hL
   have hle : (l.map enA).length = l.length := by simp
   have hcl := zab l
   rw [zak]
   refine ⟨by simp,zbf,by kernel_rfl,?_⟩
   unfold Try.f42
   simp only [go_sem,zaa,Nat.reduceAdd,Nat.reduceSub,Nat.reduceMul,Int.reduceToNat,reduceCtorEq,↓reduceIte,Int.reducePow,Nat.reducePow,Int.reduceMod,Nat.reduceLeDiff,Int.reduceLE,Int.reduceNe,Int.reduceEq,Nat.reduceEqDiff,Nat.reduceLT,Nat.reduceBEq,List.map_cons,List.map_nil,List.toList_toArray,Array.toList_append,Option.toArray_some,Option.toArray_none,Bool.and_self,ty,noS,zdr,zbf,hle,hcl,hr,Int.toNat_natCast]
   refine zbq ⟨fun m σ => ∃ i : Nat,m = l.length - i ∧ i ≤ l.length ∧ (l.drop i).findIdx (pastI p) + i = l.findIdx (pastI p) ∧
       σ = ⟨[.ms 0 3 0 l.length,.fn 45 [.rf 1 6 0 0],.junk,.junk,.junk,.junk,.junk,.ms 0 3 0 l.length,.w (.int .i64 l.length),.w (.int .i64 i),.junk,.junk,.junk,.junk,.junk,.junk,.junk,.junk,.junk,.junk,.junk],[(0,.g 3 (l.map enA)),(1,.g 6 [.agg [.w (.int .i64 b),.w (.int .i64 c),.w (.int .i64 p),.w (.int .i64 o),.w (.int .i64 s),.sg 6 rs h]])],4⟩,?_,?_⟩
   · refine ⟨_,_,zal [0,1,2,3] rfl rfl rfl ?_ ?_,0,rfl,by omega,by rw [List.drop_zero]; rfl,rfl⟩
     · simp only [ssT,zaq,zar,setSlot,gOf,AV.ren,renL,Blk.ren,Ax.look,Ax.put,reduceCtorEq,↓reduceIte,Nat.reduceEqDiff,Nat.reduceLT,Nat.reduceAdd,List.length_append,List.length_cons,List.length_nil,Option.some.injEq,zai,zax]; try simp
     · simp only [ssT,zaq,zar,setSlot,gOf,AV.ren,renL,Blk.ren,Ax.look,Ax.put,reduceCtorEq,↓reduceIte,Nat.reduceEqDiff,Nat.reduceLT,Nat.reduceAdd,List.length_append,List.length_cons,List.length_nil,Option.some.injEq,zai,zax]; try simp
   · rintro m σ ⟨i,rfl,hi,hinv,rfl⟩
     by_cases hil : i < l.length
     · have e1 : ((i : Int) + 1 + 9223372036854775808) % 18446744073709551616 - 9223372036854775808 = ((i + 1 : Nat) : Int) := by omega
       have d1 : decide ((i : Int) < l.length) = true := decide_eq_true (by omega)
       have hs1 := zbw l i hil
       cases hv : (pastI p) l[i] with
       | true =>
         have hfi := find_at _ l i hil hv hinv
         rw [hfi]
         obtain ⟨r,hr1⟩ : ∃ r,l[i] = r := ⟨_,rfl⟩
         rw [hr1] at hs1 hv
         obtain ⟨i1,e1x,l1⟩ := r
         have hs1 : slot (l.map enA) i = .agg [.w (.int .i64 i1),.w (.int .i64 e1x),.sg 3 (l1.map seA) false] := hs1
         have hcs := zac l1
         have hv : decide (p < i1) = _ := hv
         simp only [go_sem,zaa,Nat.reduceAdd,Nat.reduceSub,Nat.reduceMul,Int.reduceToNat,reduceCtorEq,↓reduceIte,Int.reducePow,Nat.reducePow,Int.reduceMod,Nat.reduceLeDiff,Int.reduceLE,Int.reduceNe,Int.reduceEq,Nat.reduceEqDiff,Nat.reduceLT,Nat.reduceBEq,List.map_cons,List.map_nil,List.toList_toArray,Array.toList_append,Option.toArray_some,Option.toArray_none,Bool.and_self,ty,noS,zdr,zbf,ptcS,hcs,zac,hle,hcl,hr,d1,hs1,hv,Int.toNat_natCast,Bool.not_true,Bool.not_false]
         repeat (refine And.intro (by omega) ?_)
         refine ⟨_,Weak.refl _,?_⟩
         simp only [go_sem,zaa,Nat.reduceAdd,Nat.reduceSub,Nat.reduceMul,Int.reduceToNat,reduceCtorEq,↓reduceIte,Int.reducePow,Nat.reducePow,Int.reduceMod,Nat.reduceLeDiff,Int.reduceLE,Int.reduceNe,Int.reduceEq,Nat.reduceEqDiff,Nat.reduceLT,Nat.reduceBEq,List.map_cons,List.map_nil,List.toList_toArray,Array.toList_append,Option.toArray_some,Option.toArray_none,Bool.and_self,ty,noS,zbf,hcl,hr,hle,cond_true]
         try (refine ⟨_,Weak.refl _,?_⟩)
         try simp only [go_sem,zaa,Nat.reduceAdd,Nat.reduceSub,Nat.reduceMul,Int.reduceToNat,reduceCtorEq,↓reduceIte,Int.reducePow,Nat.reducePow,Int.reduceMod,Nat.reduceLeDiff,Int.reduceLE,Int.reduceNe,Int.reduceEq,Nat.reduceEqDiff,Nat.reduceLT,Nat.reduceBEq,List.map_cons,List.map_nil,List.toList_toArray,Array.toList_append,Option.toArray_some,Option.toArray_none,Bool.and_self,ty,noS,zbf,hcl,hr,hle,cond_true]
       | false =>
         have hfi := zep _ l i hil hv hinv
         obtain ⟨r,hr1⟩ : ∃ r,l[i] = r := ⟨_,rfl⟩
         rw [hr1] at hs1 hv
         obtain ⟨i1,e1x,l1⟩ := r
         have hs1 : slot (l.map enA) i = .agg [.w (.int .i64 i1),.w (.int .i64 e1x),.sg 3 (l1.map seA) false] := hs1
         have hcs := zac l1
         have hv : decide (p < i1) = _ := hv
         simp only [go_sem,zaa,Nat.reduceAdd,Nat.reduceSub,Nat.reduceMul,Int.reduceToNat,reduceCtorEq,↓reduceIte,Int.reducePow,Nat.reducePow,Int.reduceMod,Nat.reduceLeDiff,Int.reduceLE,Int.reduceNe,Int.reduceEq,Nat.reduceEqDiff,Nat.reduceLT,Nat.reduceBEq,List.map_cons,List.map_nil,List.toList_toArray,Array.toList_append,Option.toArray_some,Option.toArray_none,Bool.and_self,ty,noS,zdr,zbf,ptcS,hcs,zac,hle,hcl,hr,d1,hs1,hv,e1,Int.toNat_natCast,Bool.not_true,Bool.not_false]
         repeat (refine And.intro (by omega) ?_)
         refine ⟨l.length - (i + 1),_,by omega,zal [0,1,2,3] rfl rfl rfl ?_ ?_,i + 1,rfl,by omega,hfi,rfl⟩
         · simp only [ssT,zaq,zar,setSlot,gOf,AV.ren,renL,Blk.ren,Ax.look,Ax.put,reduceCtorEq,↓reduceIte,Nat.reduceEqDiff,Nat.reduceLT,Nat.reduceAdd,List.length_append,List.length_cons,List.length_nil,Option.some.injEq,zai,zax]; try simp
         · simp only [ssT,zaq,zar,setSlot,gOf,AV.ren,renL,Blk.ren,Ax.look,Ax.put,reduceCtorEq,↓reduceIte,Nat.reduceEqDiff,Nat.reduceLT,Nat.reduceAdd,List.length_append,List.length_cons,List.length_nil,Option.some.injEq,zai,zax]; try simp
     · have d1 : decide ((i : Int) < l.length) = false := decide_eq_false (by omega)
       have hfi := find_end _ l i (by omega) hi hinv
       rw [hfi]
       simp only [go_sem,zaa,Nat.reduceAdd,Nat.reduceSub,Nat.reduceMul,Int.reduceToNat,reduceCtorEq,↓reduceIte,Int.reducePow,Nat.reducePow,Int.reduceMod,Nat.reduceLeDiff,Int.reduceLE,Int.reduceNe,Int.reduceEq,Nat.reduceEqDiff,Nat.reduceLT,Nat.reduceBEq,List.map_cons,List.map_nil,List.toList_toArray,Array.toList_append,Option.toArray_some,Option.toArray_none,Bool.and_self,ty,noS,zbf,hle,hcl,hr,d1]
       refine ⟨_,Weak.refl _,?_⟩
       simp only [go_sem,zaa,Nat.reduceAdd,Nat.reduceSub,Nat.reduceMul,Int.reduceToNat,reduceCtorEq,↓reduceIte,Int.reducePow,Nat.reducePow,Int.reduceMod,Nat.reduceLeDiff,Int.reduceLE,Int.reduceNe,Int.reduceEq,Nat.reduceEqDiff,Nat.reduceLT,Nat.reduceBEq,List.map_cons,List.map_nil,List.toList_toArray,Array.toList_append,Option.toArray_some,Option.toArray_none,Bool.and_self,ty,noS,zbf,hcl,hr,hle,cond_true]
       try (refine ⟨_,Weak.refl _,?_⟩)
       try simp only [go_sem,zaa,Nat.reduceAdd,Nat.reduceSub,Nat.reduceMul,Int.reduceToNat,reduceCtorEq,↓reduceIte,Int.reducePow,Nat.reducePow,Int.reduceMod,Nat.reduceLeDiff,Int.reduceLE,Int.reduceNe,Int.reduceEq,Nat.reduceEqDiff,Nat.reduceLT,Nat.reduceBEq,List.map_cons,List.map_nil,List.toList_toArray,Array.toList_append,Option.toArray_some,Option.toArray_none,Bool.and_self,ty,noS,zbf,hcl,hr,hle,cond_true]
 · exact hp.elim
end
def fstSS : zay
 | [.sg 3 xs g,.fn id [.rf 0 6 0 0]],[.g 6 [.agg [.w (.int .i64 b),.w (.int .i64 c),.w (.int .i64 p),.w (.int .i64 o),.w (.int .i64 s),.sg 6 rs h]]] => ⟨id = 30 ∧ xs.length ≤ 9223372036854775807 ∧ closedL rs = true ∧ (∃ l : List Se,xs = l.map seA),.w (.int .i64 ((xs.map use1).findIdx (likeI s c) : Nat)),[.g 6 [.agg [.w (.int .i64 b),.w (.int .i64 c),.w (.int .i64 p),.w (.int .i64 o),.w (.int .i64 s),.sg 6 rs h]]]⟩
 | _,_ => zcr
def fstSPl : XPlan := fun id => match id with
 | 4 => .opn [] 2
 | _ => .std
section
set_option maxRecDepth 100000
set_option maxHeartbeats 4000000
theorem fstS_sound : SoundO Try.prog 29 fstSS := by
 refine fn_soundO (S := noS) (SO := zdr) (T := ty) zcu ty_ok zdj Ofst13_ok Try.func29 (c := Try.f29.body.getD .skip) (by kernel_rfl) (fun xs pins hp => ?_)
 unfold fstSS at hp ⊢
 split at hp
 · rename_i xs g id b c p o s rs h
   obtain ⟨rfl,hL,hr,l,rfl⟩ := hp
   rw [List.length_map] at hL
   have hle : (l.map seA).length = l.length := by simp
   have hcl := zac l
   rw [map_se]
   refine ⟨by simp,fstSPl,by kernel_rfl,?_⟩
   unfold Try.f29
   simp only [go_sem,zaa,Nat.reduceAdd,Nat.reduceSub,Nat.reduceMul,Int.reduceToNat,reduceCtorEq,↓reduceIte,Int.reducePow,Nat.reducePow,Int.reduceMod,Nat.reduceLeDiff,Int.reduceLE,Int.reduceNe,Int.reduceEq,Nat.reduceEqDiff,Nat.reduceLT,Nat.reduceBEq,List.map_cons,List.map_nil,List.toList_toArray,Array.toList_append,Option.toArray_some,Option.toArray_none,Bool.and_self,ty,noS,zdr,fstSPl,hle,hcl,hr,Int.toNat_natCast]
   refine zbq ⟨fun m σ => ∃ i : Nat,m = l.length - i ∧ i ≤ l.length ∧ (l.drop i).findIdx (likeI s c) + i = l.findIdx (likeI s c) ∧
       σ = ⟨[.sg 3 (l.map seA) g,.fn 30 [.rf 0 6 0 0],.junk,.junk,.junk,.junk,.junk,.sg 3 (l.map seA) g,.w (.int .i64 l.length),.w (.int .i64 i),.junk,.junk,.junk,.junk,.junk,.junk,.junk,.junk,.junk,.junk,.junk],[(0,.g 6 [.agg [.w (.int .i64 b),.w (.int .i64 c),.w (.int .i64 p),.w (.int .i64 o),.w (.int .i64 s),.sg 6 rs h]])],4⟩,?_,?_⟩
   · refine ⟨_,_,zal [0,1,2,3] rfl rfl rfl ?_ ?_,0,rfl,by omega,by rw [List.drop_zero]; rfl,rfl⟩
     · simp only [ssT,zaq,zar,setSlot,gOf,AV.ren,renL,Blk.ren,Ax.look,Ax.put,reduceCtorEq,↓reduceIte,Nat.reduceEqDiff,Nat.reduceLT,Nat.reduceAdd,List.length_append,List.length_cons,List.length_nil,Option.some.injEq,zai,zax]; try simp
     · simp only [ssT,zaq,zar,setSlot,gOf,AV.ren,renL,Blk.ren,Ax.look,Ax.put,reduceCtorEq,↓reduceIte,Nat.reduceEqDiff,Nat.reduceLT,Nat.reduceAdd,List.length_append,List.length_cons,List.length_nil,Option.some.injEq,zai,zax]; try simp
   · rintro m σ ⟨i,rfl,hi,hinv,rfl⟩
     by_cases hil : i < l.length
     · have e1 : ((i : Int) + 1 + 9223372036854775808) % 18446744073709551616 - 9223372036854775808 = ((i + 1 : Nat) : Int) := by omega
       have d1 : decide ((i : Int) < l.length) = true := decide_eq_true (by omega)
       have hs1 := zfm l i hil
       cases hv : (likeI s c) l[i] with
       | true =>
         have hfi := find_at _ l i hil hv hinv
         rw [hfi]
         obtain ⟨r,hr1⟩ : ∃ r,l[i] = r := ⟨_,rfl⟩
         rw [hr1] at hs1 hv
         obtain ⟨q1,c1,b1⟩ := r
         have hs1 : slot (l.map seA) i = .agg [.w (.int .i64 q1),.w (.int .i64 c1),.w (.int .i64 b1)] := hs1
         have hv : (decide (q1 = s) && decide (c1 = c)) = _ := hv
         simp only [go_sem,zaa,Nat.reduceAdd,Nat.reduceSub,Nat.reduceMul,Int.reduceToNat,reduceCtorEq,↓reduceIte,Int.reducePow,Nat.reducePow,Int.reduceMod,Nat.reduceLeDiff,Int.reduceLE,Int.reduceNe,Int.reduceEq,Nat.reduceEqDiff,Nat.reduceLT,Nat.reduceBEq,List.map_cons,List.map_nil,List.toList_toArray,Array.toList_append,Option.toArray_some,Option.toArray_none,Bool.and_self,ty,noS,zdr,fstSPl,askcS,hle,hcl,hr,d1,hs1,hv,Int.toNat_natCast,Bool.not_true,Bool.not_false]
         repeat (refine And.intro (by omega) ?_)
         refine ⟨_,Weak.refl _,?_⟩
         simp only [go_sem,zaa,Nat.reduceAdd,Nat.reduceSub,Nat.reduceMul,Int.reduceToNat,reduceCtorEq,↓reduceIte,Int.reducePow,Nat.reducePow,Int.reduceMod,Nat.reduceLeDiff,Int.reduceLE,Int.reduceNe,Int.reduceEq,Nat.reduceEqDiff,Nat.reduceLT,Nat.reduceBEq,List.map_cons,List.map_nil,List.toList_toArray,Array.toList_append,Option.toArray_some,Option.toArray_none,Bool.and_self,ty,noS,fstSPl,hcl,hr,hle,cond_true]
         try (refine ⟨_,Weak.refl _,?_⟩)
         try simp only [go_sem,zaa,Nat.reduceAdd,Nat.reduceSub,Nat.reduceMul,Int.reduceToNat,reduceCtorEq,↓reduceIte,Int.reducePow,Nat.reducePow,Int.reduceMod,Nat.reduceLeDiff,Int.reduceLE,Int.reduceNe,Int.reduceEq,Nat.reduceEqDiff,Nat.reduceLT,Nat.reduceBEq,List.map_cons,List.map_nil,List.toList_toArray,Array.toList_append,Option.toArray_some,Option.toArray_none,Bool.and_self,ty,noS,fstSPl,hcl,hr,hle,cond_true]
       | false =>
         have hfi := zep _ l i hil hv hinv
         obtain ⟨r,hr1⟩ : ∃ r,l[i] = r := ⟨_,rfl⟩
         rw [hr1] at hs1 hv
         obtain ⟨q1,c1,b1⟩ := r
         have hs1 : slot (l.map seA) i = .agg [.w (.int .i64 q1),.w (.int .i64 c1),.w (.int .i64 b1)] := hs1
         have hv : (decide (q1 = s) && decide (c1 = c)) = _ := hv
         simp only [go_sem,zaa,Nat.reduceAdd,Nat.reduceSub,Nat.reduceMul,Int.reduceToNat,reduceCtorEq,↓reduceIte,Int.reducePow,Nat.reducePow,Int.reduceMod,Nat.reduceLeDiff,Int.reduceLE,Int.reduceNe,Int.reduceEq,Nat.reduceEqDiff,Nat.reduceLT,Nat.reduceBEq,List.map_cons,List.map_nil,List.toList_toArray,Array.toList_append,Option.toArray_some,Option.toArray_none,Bool.and_self,ty,noS,zdr,fstSPl,askcS,hle,hcl,hr,d1,hs1,hv,e1,Int.toNat_natCast,Bool.not_true,Bool.not_false]
         repeat (refine And.intro (by omega) ?_)
         refine ⟨l.length - (i + 1),_,by omega,zal [0,1,2,3] rfl rfl rfl ?_ ?_,i + 1,rfl,by omega,hfi,rfl⟩
         · simp only [ssT,zaq,zar,setSlot,gOf,AV.ren,renL,Blk.ren,Ax.look,Ax.put,reduceCtorEq,↓reduceIte,Nat.reduceEqDiff,Nat.reduceLT,Nat.reduceAdd,List.length_append,List.length_cons,List.length_nil,Option.some.injEq,zai,zax]; try simp
         · simp only [ssT,zaq,zar,setSlot,gOf,AV.ren,renL,Blk.ren,Ax.look,Ax.put,reduceCtorEq,↓reduceIte,Nat.reduceEqDiff,Nat.reduceLT,Nat.reduceAdd,List.length_append,List.length_cons,List.length_nil,Option.some.injEq,zai,zax]; try simp
     · have d1 : decide ((i : Int) < l.length) = false := decide_eq_false (by omega)
       have hfi := find_end _ l i (by omega) hi hinv
       rw [hfi]
       simp only [go_sem,zaa,Nat.reduceAdd,Nat.reduceSub,Nat.reduceMul,Int.reduceToNat,reduceCtorEq,↓reduceIte,Int.reducePow,Nat.reducePow,Int.reduceMod,Nat.reduceLeDiff,Int.reduceLE,Int.reduceNe,Int.reduceEq,Nat.reduceEqDiff,Nat.reduceLT,Nat.reduceBEq,List.map_cons,List.map_nil,List.toList_toArray,Array.toList_append,Option.toArray_some,Option.toArray_none,Bool.and_self,ty,noS,fstSPl,hle,hcl,hr,d1]
       refine ⟨_,Weak.refl _,?_⟩
       simp only [go_sem,zaa,Nat.reduceAdd,Nat.reduceSub,Nat.reduceMul,Int.reduceToNat,reduceCtorEq,↓reduceIte,Int.reducePow,Nat.reducePow,Int.reduceMod,Nat.reduceLeDiff,Int.reduceLE,Int.reduceNe,Int.reduceEq,Nat.reduceEqDiff,Nat.reduceLT,Nat.reduceBEq,List.map_cons,List.map_nil,List.toList_toArray,Array.toList_append,Option.toArray_some,Option.toArray_none,Bool.and_self,ty,noS,fstSPl,hcl,hr,hle,cond_true]
       try (refine ⟨_,Weak.refl _,?_⟩)
       try simp only [go_sem,zaa,Nat.reduceAdd,Nat.reduceSub,Nat.reduceMul,Int.reduceToNat,reduceCtorEq,↓reduceIte,Int.reducePow,Nat.reducePow,Int.reduceMod,Nat.reduceLeDiff,Int.reduceLE,Int.reduceNe,Int.reduceEq,Nat.reduceEqDiff,Nat.reduceLT,Nat.reduceBEq,List.map_cons,List.map_nil,List.toList_toArray,Array.toList_append,Option.toArray_some,Option.toArray_none,Bool.and_self,ty,noS,fstSPl,hcl,hr,hle,cond_true]
 · exact hp.elim
end
def Oplc13 (f : FuncId) : Option zay :=
 match f with
 | 42 => some fstES
 | _ => none
theorem Oplc13_ok : FnsO Try.prog Oplc13 := by
 intro f s h
 unfold Oplc13 at h
 split at h
 · injection h with h; subst h; exact ⟨⟨_,Try.func42,by kernel_rfl,by kernel_rfl⟩,fstE_sound⟩
 · cases h
def plaS : zay
 | [.agg [.sg 3 xs g],.w (.int .i64 v)],[] => ⟨xs.length ≤ 9223372036854775807 ∧ ∃ l : List En,xs = l.map enA,.w (.int .i64 ((xs.map uen).findIdx (isI v) : Nat)),[]⟩
 | [.agg [.ms 0 3 0 n],.w (.int .i64 v)],[.g 3 xs] => ⟨(n = xs.length ∧ 0 < n ∧ n ≤ 9223372036854775807) ∧ ∃ l : List En,xs = l.map enA,.w (.int .i64 ((xs.map uen).findIdx (isI v) : Nat)),[.g 3 xs]⟩
 | _,_ => zcr
def plaPl : XPlan := fun id => match id with
 | 1 => .opn [] 3
 | _ => .std
section
set_option maxRecDepth 100000
set_option maxHeartbeats 4000000
theorem pla_sound : SoundO Try.prog 27 plaS := by
 refine fn_soundO (S := noS) (SO := Oplc13) (T := ty) zcu ty_ok zdj Oplc13_ok Try.func27 (c := Try.f27.body.getD .skip) (by kernel_rfl) (fun xs pins hp => ?_)
 unfold plaS at hp ⊢
 split at hp
 · rename_i xs g v
   obtain ⟨hL,l,rfl⟩ := hp
   rw [List.length_map] at hL
   have hle : (l.map enA).length = l.length := by simp
   have hcl := zab l
   have hex : ∃ k : List En,l.map enA = k.map enA := ⟨l,rfl⟩
   rw [zak]
   refine ⟨by simp,plaPl,by kernel_rfl,?_⟩
   unfold Try.f27
   simp only [go_sem,zaa,Nat.reduceAdd,Nat.reduceSub,Nat.reduceMul,Int.reduceToNat,reduceCtorEq,↓reduceIte,Int.reducePow,Nat.reducePow,Int.reduceMod,Nat.reduceLeDiff,Int.reduceLE,Int.reduceNe,Int.reduceEq,Nat.reduceEqDiff,Nat.reduceLT,Nat.reduceBEq,List.map_cons,List.map_nil,List.toList_toArray,Array.toList_append,Option.toArray_some,Option.toArray_none,Bool.and_self,ty,noS,Oplc13,plaPl,fstES,zcb,hle,hL,hcl,hex,zak]
   try (refine ⟨_,Weak.refl _,?_⟩)
   try simp only [go_sem,zaa,Nat.reduceAdd,Nat.reduceSub,Nat.reduceMul,Int.reduceToNat,reduceCtorEq,↓reduceIte,Int.reducePow,Nat.reducePow,Int.reduceMod,Nat.reduceLeDiff,Int.reduceLE,Int.reduceNe,Int.reduceEq,Nat.reduceEqDiff,Nat.reduceLT,Nat.reduceBEq,List.map_cons,List.map_nil,List.toList_toArray,Array.toList_append,Option.toArray_some,Option.toArray_none,Bool.and_self,ty,noS,hle,hcl]
 · rename_i n v xs
   obtain ⟨⟨rfl,h0,hL⟩,l,rfl⟩ := hp
   rw [List.length_map] at h0 hL
   have hle : (l.map enA).length = l.length := by simp
   have hcl := zab l
   have hex : ∃ k : List En,l.map enA = k.map enA := ⟨l,rfl⟩
   have d0 : decide (0 < l.length) = true := decide_eq_true h0
   rw [zak]
   refine ⟨by simp,plaPl,by kernel_rfl,?_⟩
   unfold Try.f27
   simp only [go_sem,zaa,Nat.reduceAdd,Nat.reduceSub,Nat.reduceMul,Int.reduceToNat,reduceCtorEq,↓reduceIte,Int.reducePow,Nat.reducePow,Int.reduceMod,Nat.reduceLeDiff,Int.reduceLE,Int.reduceNe,Int.reduceEq,Nat.reduceEqDiff,Nat.reduceLT,Nat.reduceBEq,List.map_cons,List.map_nil,List.toList_toArray,Array.toList_append,Option.toArray_some,Option.toArray_none,Bool.and_self,ty,noS,Oplc13,plaPl,fstES,hle,hL,h0,d0,hcl,hex,zak]
   try (refine ⟨_,Weak.refl _,?_⟩)
   try simp only [go_sem,zaa,Nat.reduceAdd,Nat.reduceSub,Nat.reduceMul,Int.reduceToNat,reduceCtorEq,↓reduceIte,Int.reducePow,Nat.reducePow,Int.reduceMod,Nat.reduceLeDiff,Int.reduceLE,Int.reduceNe,Int.reduceEq,Nat.reduceEqDiff,Nat.reduceLT,Nat.reduceBEq,List.map_cons,List.map_nil,List.toList_toArray,Array.toList_append,Option.toArray_some,Option.toArray_none,Bool.and_self,ty,noS,hle,hcl]
 · exact hp.elim
end
end Go.Proofs.Ytgpcnmajkcfgiaa
namespace Go.Proofs.Ytgpcnmajkcfgiaa
open Ax
def empP : List AV → Bool
 | [] => true
 | _ => false
def cloPl0 : XPlan := fun id => match id with
 | 1 => .tst [false,true]
 | 3 => .tst [true,false,true]
 | _ => .std
def cloPl : XPlan := fun id => match id with
 | 1 => .tst [false,true]
 | 3 => .tst [true]
 | _ => .std
theorem sg_trueP {w : World} {loc : Ax.Loc} {v : Value} {s : Nat} (s' : Nat) (h : R w loc (.sg s [] true) v) : R w loc (.sg s' [] true) v := by
 cases h with
 | sg _ _ _ a cap cs hd hs hc hl hx hh => exact .sg s' [] true a cap cs hd (by simp) hc hl hx hh
theorem sg_falseP {w : World} {loc : Ax.Loc} {v : Value} {s : Nat} (s' : Nat) (h : R w loc (.sg s [] true) v) : R w loc (.sg s' [] false) v := by
 cases h with
 | sg _ _ _ a cap cs hd hs hc hl hx hh => exact .sg s' [] false a cap cs ⟨hd.le,hd.top,fun h => by cases h⟩ (by simp) hc hl hx hh
section
set_option maxRecDepth 100000
set_option maxHeartbeats 4000000
def cloSeS : zay
 | [.sg 3 xs f],[] => ⟨xs.length ≤ 1000000 ∧ ∃ l : List Se,xs = l.map seA,.sg 3 xs false,[]⟩
 | _,_ => zcr
theorem cloSe_sound : zbx Try.prog 35 cloSeS := by
 refine zca (S := noS) (SO := noO) (T := ty) zcu ty_ok zdj noO_ok Try.func35 (c := Try.f35.body.getD .skip) (by kernel_rfl) (fun xs pins hp _ => ?_)
 unfold cloSeS at hp ⊢
 split at hp
 · rename_i xs f _
   obtain ⟨hL,l,rfl⟩ := hp
   rw [List.length_map] at hL
   have hl6 : (l.map seA).length = l.length := by simp
   cases l with
   | nil =>
     refine ⟨by simp,cloPl0,by kernel_rfl,?_⟩
     unfold Try.f35
     simp only [go_sem,zaa,Nat.reduceAdd,Nat.reduceSub,Nat.reduceMul,Int.reduceToNat,reduceCtorEq,↓reduceIte,Int.reducePow,Nat.reducePow,Int.reduceMod,Nat.reduceLeDiff,Int.reduceLE,Int.reduceNe,Int.reduceEq,Nat.reduceEqDiff,Nat.reduceLT,Nat.reduceBEq,List.map_cons,List.map_nil,List.toList_toArray,Array.toList_append,Option.toArray_some,Option.toArray_none,Bool.and_self,ty,noS,cloPl0,specOp,List.map_nil,List.length_nil,empP,cond_true]
     repeat (refine And.intro (by omega) ?_)
     intro b
     refine ⟨fun hb => ?_,fun hb => ?_⟩
     · refine ⟨_,zei 2 (.sg 3 [] false) (fun w loc v h => sg_falseP 3 h),?_⟩
       simp only [go_sem,zaa,Nat.reduceAdd,Nat.reduceSub,Nat.reduceMul,Int.reduceToNat,reduceCtorEq,↓reduceIte,Int.reducePow,Nat.reducePow,Int.reduceMod,Nat.reduceLeDiff,Int.reduceLE,Int.reduceNe,Int.reduceEq,Nat.reduceEqDiff,Nat.reduceLT,Nat.reduceBEq,List.map_cons,List.map_nil,List.toList_toArray,Array.toList_append,Option.toArray_some,Option.toArray_none,Bool.and_self,ty,noS,List.map_nil]
     · refine ⟨_,zei 2 (.sg 3 [] false) (fun w loc v h => sg_falseP 3 h),?_⟩
       simp only [go_sem,zaa,Nat.reduceAdd,Nat.reduceSub,Nat.reduceMul,Int.reduceToNat,reduceCtorEq,↓reduceIte,Int.reducePow,Nat.reducePow,Int.reduceMod,Nat.reduceLeDiff,Int.reduceLE,Int.reduceNe,Int.reduceEq,Nat.reduceEqDiff,Nat.reduceLT,Nat.reduceBEq,List.map_cons,List.map_nil,List.toList_toArray,Array.toList_append,Option.toArray_some,Option.toArray_none,Bool.and_self,ty,noS,List.map_nil]
   | cons c l =>
     refine ⟨by simp,cloPl,by kernel_rfl,?_⟩
     have hem : empP ((c :: l).map seA) = false := rfl
     have hz : (c :: l).length ≠ 0 := by simp
     generalize hls : c :: l = ls at *
     have htop : ls.length ≤ top := by unfold top; omega
     have hcl := zac ls
     have hdle : decide (0 + ls.length ≤ (ls.map seA).length) = true := decide_eq_true (by simp)
     have htk : (ls.map seA).take ls.length = ls.map seA := List.take_of_length_le (by simp)
     unfold Try.f35
     simp only [go_sem,zaa,Nat.reduceAdd,Nat.reduceSub,Nat.reduceMul,Int.reduceToNat,reduceCtorEq,↓reduceIte,Int.reducePow,Nat.reducePow,Int.reduceMod,Nat.reduceLeDiff,Int.reduceLE,Int.reduceNe,Int.reduceEq,Nat.reduceEqDiff,Nat.reduceLT,Nat.reduceBEq,List.map_cons,List.map_nil,List.toList_toArray,Array.toList_append,Option.toArray_some,Option.toArray_none,Bool.and_self,ty,noS,cloPl,specOp,hl6]
     repeat (refine And.intro (by omega) ?_)
     intro b hb
     obtain rfl : b = false := by cases b with | false => rfl | true => exact absurd (hb rfl) hz
     simp only [go_sem,zaa,Nat.reduceAdd,Nat.reduceSub,Nat.reduceMul,Int.reduceToNat,reduceCtorEq,↓reduceIte,Int.reducePow,Nat.reducePow,Int.reduceMod,Nat.reduceLeDiff,Int.reduceLE,Int.reduceNe,Int.reduceEq,Nat.reduceEqDiff,Nat.reduceLT,Nat.reduceBEq,List.map_cons,List.map_nil,List.toList_toArray,Array.toList_append,Option.toArray_some,Option.toArray_none,Bool.and_self,ty,noS,cloPl,specOp,hl6,hem,cond_false]
     refine ⟨htop,_,zbj 44 3 2 (ls.map seA) rfl hcl (by simp [slot,AV.ids]),?_⟩
     simp only [fgL,fgH,AV.fg,Blk.fg,Nat.reduceBEq,cond_true,cond_false,hdle,Bool.and_true,beq_self_eq_true,Bool.true_and,List.drop_zero,htk,hl6]
     simp only [go_sem,zaa,Nat.reduceAdd,Nat.reduceSub,Nat.reduceMul,Int.reduceToNat,reduceCtorEq,↓reduceIte,Int.reducePow,Nat.reducePow,Int.reduceMod,Nat.reduceLeDiff,Int.reduceLE,Int.reduceNe,Int.reduceEq,Nat.reduceEqDiff,Nat.reduceLT,Nat.reduceBEq,List.map_cons,List.map_nil,List.toList_toArray,Array.toList_append,Option.toArray_some,Option.toArray_none,Bool.and_self,ty,noS,hl6,hcl]
 · exact hp.elim
def cloEnS : zay
 | [.sg 3 xs f],[] => ⟨xs.length ≤ 1000000 ∧ ∃ l : List En,xs = l.map enA,bif empP xs then .sg 3 [] true else .ms 0 3 0 xs.length,bif empP xs then [] else [.g 3 xs]⟩
 | _,_ => zcr
theorem cloEn_sound : zbx Try.prog 44 cloEnS := by
 refine zca (S := noS) (SO := noO) (T := ty) zcu ty_ok zdj noO_ok Try.func44 (c := Try.f44.body.getD .skip) (by kernel_rfl) (fun xs pins hp _ => ?_)
 unfold cloEnS at hp ⊢
 split at hp
 · rename_i xs f _
   obtain ⟨hL,l,rfl⟩ := hp
   rw [List.length_map] at hL
   have hl6 : (l.map enA).length = l.length := by simp
   cases l with
   | nil =>
     refine ⟨by simp,cloPl0,by kernel_rfl,?_⟩
     unfold Try.f44
     simp only [go_sem,zaa,Nat.reduceAdd,Nat.reduceSub,Nat.reduceMul,Int.reduceToNat,reduceCtorEq,↓reduceIte,Int.reducePow,Nat.reducePow,Int.reduceMod,Nat.reduceLeDiff,Int.reduceLE,Int.reduceNe,Int.reduceEq,Nat.reduceEqDiff,Nat.reduceLT,Nat.reduceBEq,List.map_cons,List.map_nil,List.toList_toArray,Array.toList_append,Option.toArray_some,Option.toArray_none,Bool.and_self,ty,noS,cloPl0,specOp,List.map_nil,List.length_nil,empP,cond_true]
     repeat (refine And.intro (by omega) ?_)
     intro b
     refine ⟨fun hb => ?_,fun hb => ?_⟩
     · refine ⟨_,zei 2 (.sg 3 [] true) (fun w loc v h => sg_trueP 3 h),?_⟩
       simp only [go_sem,zaa,Nat.reduceAdd,Nat.reduceSub,Nat.reduceMul,Int.reduceToNat,reduceCtorEq,↓reduceIte,Int.reducePow,Nat.reducePow,Int.reduceMod,Nat.reduceLeDiff,Int.reduceLE,Int.reduceNe,Int.reduceEq,Nat.reduceEqDiff,Nat.reduceLT,Nat.reduceBEq,List.map_cons,List.map_nil,List.toList_toArray,Array.toList_append,Option.toArray_some,Option.toArray_none,Bool.and_self,ty,noS,List.map_nil]
     · refine ⟨_,zei 2 (.sg 3 [] true) (fun w loc v h => sg_trueP 3 h),?_⟩
       simp only [go_sem,zaa,Nat.reduceAdd,Nat.reduceSub,Nat.reduceMul,Int.reduceToNat,reduceCtorEq,↓reduceIte,Int.reducePow,Nat.reducePow,Int.reduceMod,Nat.reduceLeDiff,Int.reduceLE,Int.reduceNe,Int.reduceEq,Nat.reduceEqDiff,Nat.reduceLT,Nat.reduceBEq,List.map_cons,List.map_nil,List.toList_toArray,Array.toList_append,Option.toArray_some,Option.toArray_none,Bool.and_self,ty,noS,List.map_nil]
   | cons c l =>
     refine ⟨by simp,cloPl,by kernel_rfl,?_⟩
     have hem : empP ((c :: l).map enA) = false := rfl
     have hz : (c :: l).length ≠ 0 := by simp
     generalize hls : c :: l = ls at *
     have htop : ls.length ≤ top := by unfold top; omega
     have hcl := zab ls
     have hdle : decide (0 + ls.length ≤ (ls.map enA).length) = true := decide_eq_true (by simp)
     have htk : (ls.map enA).take ls.length = ls.map enA := List.take_of_length_le (by simp)
     unfold Try.f44
     simp only [go_sem,zaa,Nat.reduceAdd,Nat.reduceSub,Nat.reduceMul,Int.reduceToNat,reduceCtorEq,↓reduceIte,Int.reducePow,Nat.reducePow,Int.reduceMod,Nat.reduceLeDiff,Int.reduceLE,Int.reduceNe,Int.reduceEq,Nat.reduceEqDiff,Nat.reduceLT,Nat.reduceBEq,List.map_cons,List.map_nil,List.toList_toArray,Array.toList_append,Option.toArray_some,Option.toArray_none,Bool.and_self,ty,noS,cloPl,specOp,hl6]
     repeat (refine And.intro (by omega) ?_)
     intro b hb
     obtain rfl : b = false := by cases b with | false => rfl | true => exact absurd (hb rfl) hz
     simp only [go_sem,zaa,Nat.reduceAdd,Nat.reduceSub,Nat.reduceMul,Int.reduceToNat,reduceCtorEq,↓reduceIte,Int.reducePow,Nat.reducePow,Int.reduceMod,Nat.reduceLeDiff,Int.reduceLE,Int.reduceNe,Int.reduceEq,Nat.reduceEqDiff,Nat.reduceLT,Nat.reduceBEq,List.map_cons,List.map_nil,List.toList_toArray,Array.toList_append,Option.toArray_some,Option.toArray_none,Bool.and_self,ty,noS,cloPl,specOp,hl6,hem,cond_false]
     refine ⟨htop,_,Weak.refl _,?_⟩
     simp only [go_sem,zaa,Nat.reduceAdd,Nat.reduceSub,Nat.reduceMul,Int.reduceToNat,reduceCtorEq,↓reduceIte,Int.reducePow,Nat.reducePow,Int.reduceMod,Nat.reduceLeDiff,Int.reduceLE,Int.reduceNe,Int.reduceEq,Nat.reduceEqDiff,Nat.reduceLT,Nat.reduceBEq,List.map_cons,List.map_nil,List.toList_toArray,Array.toList_append,Option.toArray_some,Option.toArray_none,Bool.and_self,ty,noS,hl6,hem,cond_false,hcl]
 · exact hp.elim
def insNES : zay
 | [.sg 3 [] true,.w (.int .i64 0),.sg 3 [.agg [.w (.int .i64 i),.w (.int .i64 e),.sg 3 [] true]] f],[] => ⟨True,.ms 0 3 0 1,[.g 3 [.agg [.w (.int .i64 i),.w (.int .i64 e),.sg 3 [] true]]]⟩
 | _,_ => zcr
theorem eq00P : decide ((0:Int) = ((0:Nat):Int)) = true := rfl
theorem eq10P : decide (((1:Nat):Int) = (0:Int)) = false := rfl
theorem eq01P : decide ((0:Int) = ((1:Nat):Int)) = false := rfl
theorem insNE_sound : zbx Try.prog 46 insNES := by
 refine fn_sound (S := noS) (T := ty) zcu ty_ok zdj Try.func46 (c := Try.f46.body.getD .skip) (by kernel_rfl) (by kernel_rfl) (fun xs pins hp _ => ?_)
 unfold insNES at hp ⊢
 split at hp
 · rename_i i e f _
   refine ⟨by simp,?_⟩
   unfold Try.f46
   simp only [go_sem,coe,zaf,Nat.reduceAdd,Nat.reduceSub,Nat.reduceMul,Int.reduceToNat,reduceCtorEq,↓reduceIte,Int.reducePow,Nat.reducePow,Int.reduceMod,Nat.reduceLeDiff,Int.reduceLE,Int.reduceNe,Int.reduceEq,Nat.reduceEqDiff,Nat.reduceLT,Nat.reduceBEq,ty,noS,eq00P,eq01P,eq10P]
   decide
 · exact hp.elim
end
end Go.Proofs.Ytgpcnmajkcfgiaa
namespace Go.Proofs.Ytgpcnmajkcfgiaa
open Ax
section
set_option maxRecDepth 100000
set_option maxHeartbeats 2000000
def clo0ES : zay
 | [.sg 3 [] true],[] => ⟨True,.sg 3 [] true,[]⟩
 | _,_ => zcr
theorem clo0E_sound : zbx Try.prog 44 clo0ES := by
 refine zca (S := noS) (SO := noO) (T := ty) zcu ty_ok zdj noO_ok Try.func44 (c := Try.f44.body.getD .skip) (by kernel_rfl) (fun xs pins hp _ => ?_)
 unfold clo0ES at hp ⊢
 split at hp
 · refine ⟨by simp,cloPl0,by kernel_rfl,?_⟩
   unfold Try.f44
   simp only [go_sem,zaa,Nat.reduceAdd,Nat.reduceSub,Nat.reduceMul,Int.reduceToNat,reduceCtorEq,↓reduceIte,Int.reducePow,Nat.reducePow,Int.reduceMod,Nat.reduceLeDiff,Int.reduceLE,Int.reduceNe,Int.reduceEq,Nat.reduceEqDiff,Nat.reduceLT,Nat.reduceBEq,List.map_cons,List.map_nil,List.toList_toArray,Array.toList_append,Option.toArray_some,Option.toArray_none,Bool.and_self,ty,noS,cloPl0,specOp,List.length_nil]
   repeat (refine And.intro (by omega) ?_)
   intro b
   refine ⟨fun hb => ?_,fun hb => ?_⟩
   · refine ⟨_,zei 2 (.sg 3 [] true) (fun w loc v h => sg_trueP 3 h),?_⟩
     simp only [go_sem,zaa,Nat.reduceAdd,Nat.reduceSub,Nat.reduceMul,Int.reduceToNat,reduceCtorEq,↓reduceIte,Int.reducePow,Nat.reducePow,Int.reduceMod,Nat.reduceLeDiff,Int.reduceLE,Int.reduceNe,Int.reduceEq,Nat.reduceEqDiff,Nat.reduceLT,Nat.reduceBEq,List.map_cons,List.map_nil,List.toList_toArray,Array.toList_append,Option.toArray_some,Option.toArray_none,Bool.and_self,ty,noS]
   · refine ⟨_,zei 2 (.sg 3 [] true) (fun w loc v h => sg_trueP 3 h),?_⟩
     simp only [go_sem,zaa,Nat.reduceAdd,Nat.reduceSub,Nat.reduceMul,Int.reduceToNat,reduceCtorEq,↓reduceIte,Int.reducePow,Nat.reducePow,Int.reduceMod,Nat.reduceLeDiff,Int.reduceLE,Int.reduceNe,Int.reduceEq,Nat.reduceEqDiff,Nat.reduceLT,Nat.reduceBEq,List.map_cons,List.map_nil,List.toList_toArray,Array.toList_append,Option.toArray_some,Option.toArray_none,Bool.and_self,ty,noS]
 · exact hp.elim
def clo0SS : zay
 | [.sg 3 [] true],[] => ⟨True,.sg 3 [] true,[]⟩
 | _,_ => zcr
theorem clo0S_sound : zbx Try.prog 35 clo0SS := by
 refine zca (S := noS) (SO := noO) (T := ty) zcu ty_ok zdj noO_ok Try.func35 (c := Try.f35.body.getD .skip) (by kernel_rfl) (fun xs pins hp _ => ?_)
 unfold clo0SS at hp ⊢
 split at hp
 · refine ⟨by simp,cloPl0,by kernel_rfl,?_⟩
   unfold Try.f35
   simp only [go_sem,zaa,Nat.reduceAdd,Nat.reduceSub,Nat.reduceMul,Int.reduceToNat,reduceCtorEq,↓reduceIte,Int.reducePow,Nat.reducePow,Int.reduceMod,Nat.reduceLeDiff,Int.reduceLE,Int.reduceNe,Int.reduceEq,Nat.reduceEqDiff,Nat.reduceLT,Nat.reduceBEq,List.map_cons,List.map_nil,List.toList_toArray,Array.toList_append,Option.toArray_some,Option.toArray_none,Bool.and_self,ty,noS,cloPl0,specOp,List.length_nil]
   repeat (refine And.intro (by omega) ?_)
   intro b
   refine ⟨fun hb => ?_,fun hb => ?_⟩
   · refine ⟨_,zei 2 (.sg 3 [] true) (fun w loc v h => sg_trueP 3 h),?_⟩
     simp only [go_sem,zaa,Nat.reduceAdd,Nat.reduceSub,Nat.reduceMul,Int.reduceToNat,reduceCtorEq,↓reduceIte,Int.reducePow,Nat.reducePow,Int.reduceMod,Nat.reduceLeDiff,Int.reduceLE,Int.reduceNe,Int.reduceEq,Nat.reduceEqDiff,Nat.reduceLT,Nat.reduceBEq,List.map_cons,List.map_nil,List.toList_toArray,Array.toList_append,Option.toArray_some,Option.toArray_none,Bool.and_self,ty,noS]
   · refine ⟨_,zei 2 (.sg 3 [] true) (fun w loc v h => sg_trueP 3 h),?_⟩
     simp only [go_sem,zaa,Nat.reduceAdd,Nat.reduceSub,Nat.reduceMul,Int.reduceToNat,reduceCtorEq,↓reduceIte,Int.reducePow,Nat.reducePow,Int.reduceMod,Nat.reduceLeDiff,Int.reduceLE,Int.reduceNe,Int.reduceEq,Nat.reduceEqDiff,Nat.reduceLT,Nat.reduceBEq,List.map_cons,List.map_nil,List.toList_toArray,Array.toList_append,Option.toArray_some,Option.toArray_none,Bool.and_self,ty,noS]
 · exact hp.elim
end
def Sb13 (f : FuncId) : Option zay :=
 match f with
 | 44 => some clo0ES
 | 35 => some clo0SS
 | _ => none
theorem Sb13_ok : Fns Try.prog Sb13 := by
 intro f s h
 unfold Sb13 at h
 split at h
 · injection h with h; subst h; exact ⟨⟨_,Try.func44,by kernel_rfl,by kernel_rfl⟩,clo0E_sound⟩
 · injection h with h; subst h; exact ⟨⟨_,Try.func35,by kernel_rfl,by kernel_rfl⟩,clo0S_sound⟩
 · cases h
noncomputable def hCl130 (A : List AV) (lk : Nat → Option Blk) (nm : Nat) : Option (AV × Us) :=
 match A with
 | [.sg s [] f] => bif Nat.beq s 3 && f then some (.sg 3 [] true,[]) else none
 | _ => none
noncomputable def hCl131 (A : List AV) (lk : Nat → Option Blk) (nm : Nat) : Option (AV × Us) :=
 match A with
 | [.sg s [] f] => bif Nat.beq s 3 && f then some (.sg 3 [] true,[]) else none
 | _ => none
noncomputable def B13 : SpecB := fun g => bif Nat.beq g 44 then some hCl130 else bif Nat.beq g 35 then some hCl131 else none
theorem B13_ok : SpecBOk Try.prog Sb13 B13 := by
 intro g h e
 unfold B13 at e
 cases h0 : Nat.beq g 44 with
 | true =>
   rw [h0,cond_true] at e
   injection e with e
   subst e
   have hg := Nat.eq_of_beq_eq_true h0
   subst hg
   refine .inl fun A H lk nm hl x us hx => ?_
   unfold hCl130 at hx
   split at hx
   · rename_i s f
     cases hc : (Nat.beq s 3 && f) with
     | false => rw [hc] at hx; cases hx
     | true =>
       rw [hc,cond_true] at hx
       simp only [Bool.and_eq_true] at hc
       obtain ⟨b1,rfl⟩ := hc
       have b1 := Nat.eq_of_beq_eq_true b1
       subst b1
       injection hx with hx
       injection hx with hx1 hx2
       subst hx1 hx2
       have hS : Sb13 44 = some clo0ES := rfl
       unfold aUser
       rw [hS]
       simp [callOut,rootsL,AV.roots,lentIdsL,AV.lentIds,pinsOf,nodup,lendL,lend,clo0ES,AV.ren,back,givenUp,dropAll,closedB,upd,hl]
   · cases hx
 | false =>
   rw [h0,cond_false] at e
   cases h1 : Nat.beq g 35 with
   | true =>
     rw [h1,cond_true] at e
     injection e with e
     subst e
     have hg := Nat.eq_of_beq_eq_true h1
     subst hg
     refine .inl fun A H lk nm hl x us hx => ?_
     unfold hCl131 at hx
     split at hx
     · rename_i s f
       cases hc : (Nat.beq s 3 && f) with
       | false => rw [hc] at hx; cases hx
       | true =>
         rw [hc,cond_true] at hx
         simp only [Bool.and_eq_true] at hc
         obtain ⟨b1,rfl⟩ := hc
         have b1 := Nat.eq_of_beq_eq_true b1
         subst b1
         injection hx with hx
         injection hx with hx1 hx2
         subst hx1 hx2
         have hS : Sb13 35 = some clo0SS := rfl
         unfold aUser
         rw [hS]
         simp [callOut,rootsL,AV.roots,lentIdsL,AV.lentIds,pinsOf,nodup,lendL,lend,clo0SS,AV.ren,back,givenUp,dropAll,closedB,upd,hl]
     · cases hx
   | false =>
     rw [h1,cond_false] at e
     cases e
end Go.Proofs.Ytgpcnmajkcfgiaa
namespace Go.Proofs.Ytgpcnmajkcfgiaa
open Ax
section
set_option maxRecDepth 100000
theorem aw13_sound : zbx Try.prog 9 yesS := yes_with Sb13_ok B13_ok (by kernel_rfl)
end
end Go.Proofs.Ytgpcnmajkcfgiaa
namespace Go.Proofs.Ytgpcnmajkcfgiaa
open Ax
theorem setEn_same (l : List En) (j : Nat) (hj : j < l.length) (i e : Int) (ls : List Se) (h : l[j] = ⟨i,e,ls⟩) : setSlot (l.map enA) j (.agg [.w (.int .i64 i),.w (.int .i64 e),.sg 3 (ls.map seA) false]) = l.map enA := by
 have := zdu ⟨i,e,ls⟩ l j hj
 rw [← h,List.set_getElem_self] at this
 rw [h] at this
 exact this
def okL (l : List En) : Prop := l.length ≤ 900000 ∧ ∀ r ∈ l,r.l.length ≤ 900000
def cpyS : zay
 | [.agg [.sg 3 xs f]],[] => ⟨∃ l : List En,xs = l.map enA ∧ okL l,.agg [bif empP xs then .sg 3 [] true else .ms 0 3 0 xs.length],bif empP xs then [] else [.g 3 xs]⟩
 | _,_ => zcr
def Scpy13 (f : FuncId) : Option zay :=
 match f with
 | 35 => some cloSeS
 | 44 => some cloEnS
 | _ => none
theorem Scpy13_ok : Fns Try.prog Scpy13 := by
 intro f s h
 unfold Scpy13 at h
 split at h
 · injection h with h; subst h; exact ⟨⟨_,Try.func35,by kernel_rfl,by kernel_rfl⟩,cloSe_sound⟩
 · injection h with h; subst h; exact ⟨⟨_,Try.func44,by kernel_rfl,by kernel_rfl⟩,cloEn_sound⟩
 · cases h
section
set_option maxRecDepth 100000
set_option maxHeartbeats 4000000
theorem cpy_sound : zbx Try.prog 33 cpyS := by
 refine zca (S := Scpy13) (SO := noO) (T := ty) zcu ty_ok Scpy13_ok noO_ok Try.func33 (c := Try.f33.body.getD .skip) (by kernel_rfl) (fun xs pins hp _ => ?_)
 unfold cpyS at hp ⊢
 split at hp
 · rename_i xs f _
   obtain ⟨l,rfl,hL,hi⟩ := hp
   have hle : (l.map enA).length = l.length := by simp
   have hL6 : l.length ≤ 1000000 := by omega
   have hcl := zab l
   have hex : ∃ k : List En,l.map enA = k.map enA := ⟨l,rfl⟩
   refine ⟨by simp,zde,by kernel_rfl,?_⟩
   unfold Try.f33
   cases hz : empP (l.map enA) with
   | true =>
     obtain rfl : l = [] := by cases l with | nil => rfl | cons _ _ => cases hz
     have z0 : decide ((0 : Int) < ((0 : Nat) : Int)) = false := rfl
     have z1 : decide ((0 : Int) < 0) = false := rfl
     have c0 : coe ty 31 (.sg 3 [] f) = .sg 3 [] f := rfl
     have hex0 : ∃ k : List En,([] : List AV) = k.map enA := ⟨[],rfl⟩
     simp only [go_sem,zaa,Nat.reduceAdd,Nat.reduceSub,Nat.reduceMul,Int.reduceToNat,reduceCtorEq,↓reduceIte,Int.reducePow,Nat.reducePow,Int.reduceMod,Nat.reduceLeDiff,Int.reduceLE,Int.reduceNe,Int.reduceEq,Nat.reduceEqDiff,Nat.reduceLT,Nat.reduceBEq,List.map_cons,List.map_nil,List.toList_toArray,Array.toList_append,Option.toArray_some,Option.toArray_none,Bool.and_self,ty,Scpy13,zde,cloEnS,c0,hex0,empP,List.map_nil,List.length_nil,Nat.zero_le,cond_true]
     refine zbq ⟨fun m σ => m = 0 ∧ σ = ⟨[.junk,.junk,.rf 4 1 0 0,.sg 3 [] true,.junk,.junk,.junk,.junk,.junk,.w (.int .i64 0),.w (.int .i64 0),.junk,.junk,.junk,.junk,.junk,.junk,.junk,.junk,.junk,.junk,.junk,.junk,.junk,.junk,.junk],[(4,.g 1 [.agg [.sg 3 [] true]])],5⟩,?_,?_⟩
     · refine ⟨_,_,zal [0,1,2,3,12] rfl rfl rfl ?_ ?_,rfl,rfl⟩
       · simp only [ssT,zaq,zar,setSlot,gOf,AV.ren,renL,Blk.ren,Ax.look,Ax.put,reduceCtorEq,↓reduceIte,Nat.reduceEqDiff,Nat.reduceLT,Nat.reduceAdd,List.length_append,List.length_cons,List.length_nil,Option.some.injEq]; try simp
       · simp only [ssT,zaq,zar,setSlot,gOf,AV.ren,renL,Blk.ren,Ax.look,Ax.put,reduceCtorEq,↓reduceIte,Nat.reduceEqDiff,Nat.reduceLT,Nat.reduceAdd,List.length_append,List.length_cons,List.length_nil,Option.some.injEq]; try simp
     · rintro m σ ⟨rfl,rfl⟩
       simp only [go_sem,zaa,Nat.reduceAdd,Nat.reduceSub,Nat.reduceMul,Int.reduceToNat,reduceCtorEq,↓reduceIte,Int.reducePow,Nat.reducePow,Int.reduceMod,Nat.reduceLeDiff,Int.reduceLE,Int.reduceNe,Int.reduceEq,Nat.reduceEqDiff,Nat.reduceLT,Nat.reduceBEq,List.map_cons,List.map_nil,List.toList_toArray,Array.toList_append,Option.toArray_some,Option.toArray_none,Bool.and_self,ty,Scpy13,zde,z0,z1]
       refine ⟨_,Weak.refl _,?_⟩
       simp only [go_sem,zaa,Nat.reduceAdd,Nat.reduceSub,Nat.reduceMul,Int.reduceToNat,reduceCtorEq,↓reduceIte,Int.reducePow,Nat.reducePow,Int.reduceMod,Nat.reduceLeDiff,Int.reduceLE,Int.reduceNe,Int.reduceEq,Nat.reduceEqDiff,Nat.reduceLT,Nat.reduceBEq,List.map_cons,List.map_nil,List.toList_toArray,Array.toList_append,Option.toArray_some,Option.toArray_none,Bool.and_self,ty,Scpy13,zde]
       refine ⟨_,Weak.refl _,?_⟩
       simp only [go_sem,zaa,Nat.reduceAdd,Nat.reduceSub,Nat.reduceMul,Int.reduceToNat,reduceCtorEq,↓reduceIte,Int.reducePow,Nat.reducePow,Int.reduceMod,Nat.reduceLeDiff,Int.reduceLE,Int.reduceNe,Int.reduceEq,Nat.reduceEqDiff,Nat.reduceLT,Nat.reduceBEq,List.map_cons,List.map_nil,List.toList_toArray,Array.toList_append,Option.toArray_some,Option.toArray_none,Bool.and_self,ty,Scpy13]
   | false =>
     have hpos : 0 < l.length := by cases l with | nil => cases hz | cons _ _ => simp
     simp only [go_sem,zaa,Nat.reduceAdd,Nat.reduceSub,Nat.reduceMul,Int.reduceToNat,reduceCtorEq,↓reduceIte,Int.reducePow,Nat.reducePow,Int.reduceMod,Nat.reduceLeDiff,Int.reduceLE,Int.reduceNe,Int.reduceEq,Nat.reduceEqDiff,Nat.reduceLT,Nat.reduceBEq,List.map_cons,List.map_nil,List.toList_toArray,Array.toList_append,Option.toArray_some,Option.toArray_none,Bool.and_self,ty,Scpy13,zde,cloEnS,zcb,hle,hL6,hcl,hex,hz,cond_false]
     refine zbq ⟨fun m σ => ∃ j : Nat,m = l.length - j ∧ j ≤ l.length ∧ σ = ⟨[.junk,.junk,.rf 5 1 0 0,.ms 4 3 0 l.length,.junk,.junk,.junk,.junk,.junk,.w (.int .i64 l.length),.w (.int .i64 j),.junk,.junk,.junk,.junk,.junk,.junk,.junk,.junk,.junk,.junk,.junk,.junk,.junk,.junk,.junk],[(4,.g 3 (l.map enA)),(5,.g 1 [.agg [.sg 3 [] true]])],6⟩,?_,?_⟩
     · refine ⟨_,_,zal [0,1,2,3,36,12] rfl rfl rfl ?_ ?_,0,rfl,by omega,rfl⟩
       · simp only [ssT,zaq,zar,setSlot,gOf,AV.ren,renL,Blk.ren,Ax.look,Ax.put,reduceCtorEq,↓reduceIte,Nat.reduceEqDiff,Nat.reduceLT,Nat.reduceAdd,List.length_append,List.length_cons,List.length_nil,Option.some.injEq,zai]; try simp
       · simp only [ssT,zaq,zar,setSlot,gOf,AV.ren,renL,Blk.ren,Ax.look,Ax.put,reduceCtorEq,↓reduceIte,Nat.reduceEqDiff,Nat.reduceLT,Nat.reduceAdd,List.length_append,List.length_cons,List.length_nil,Option.some.injEq,zai]; try simp
     · rintro m σ ⟨j,rfl,hj,rfl⟩
       have e1 : ((j : Int) + 1 + 9223372036854775808) % 18446744073709551616 - 9223372036854775808 = ((j + 1 : Nat) : Int) := by omega
       by_cases hjl : j < l.length
       · have d1 : decide ((j : Int) < l.length) = true := decide_eq_true (by omega)
         have hs1 := zbw l j hjl
         obtain ⟨r,hr⟩ : ∃ r,l[j] = r := ⟨_,rfl⟩
         have hil := hi l[j] (List.getElem_mem hjl)
         rw [hr] at hs1 hil
         obtain ⟨i,e,ls⟩ := r
         have hst := setEn_same l j hjl i e ls hr
         have hs1 : slot (l.map enA) j = .agg [.w (.int .i64 i),.w (.int .i64 e),.sg 3 (ls.map seA) false] := hs1
         have hx2 : ∃ k : List Se,ls.map seA = k.map seA := ⟨ls,rfl⟩
         have hls : (ls.map seA).length = ls.length := by simp
         have hl6 : ls.length ≤ 1000000 := by simp only at hil; omega
         simp only [go_sem,zaa,Nat.reduceAdd,Nat.reduceSub,Nat.reduceMul,Int.reduceToNat,reduceCtorEq,↓reduceIte,Int.reducePow,Nat.reducePow,Int.reduceMod,Nat.reduceLeDiff,Int.reduceLE,Int.reduceNe,Int.reduceEq,Nat.reduceEqDiff,Nat.reduceLT,Nat.reduceBEq,List.map_cons,List.map_nil,List.toList_toArray,Array.toList_append,Option.toArray_some,Option.toArray_none,Bool.and_self,ty,Scpy13,zde,cloSeS,coe_se,hle,hls,hl6,hcl,hx2,d1,e1,hs1,hst,zam,Int.toNat_natCast]
         repeat (first | refine And.intro (by omega) ?_ | refine And.intro ⟨by omega,by omega⟩ ?_)
         refine ⟨l.length - (j + 1),_,by omega,zal [0,1,2,3,4,5] rfl rfl rfl ?_ ?_,j + 1,rfl,by omega,rfl⟩
         · simp only [ssT,zaq,zar,setSlot,gOf,AV.ren,renL,Blk.ren,Ax.look,Ax.put,reduceCtorEq,↓reduceIte,Nat.reduceEqDiff,Nat.reduceLT,Nat.reduceAdd,List.length_append,List.length_cons,List.length_nil,Option.some.injEq,zai]; try simp
         · simp only [ssT,zaq,zar,setSlot,gOf,AV.ren,renL,Blk.ren,Ax.look,Ax.put,reduceCtorEq,↓reduceIte,Nat.reduceEqDiff,Nat.reduceLT,Nat.reduceAdd,List.length_append,List.length_cons,List.length_nil,Option.some.injEq,zai]; try simp
       · have d1 : decide ((j : Int) < l.length) = false := decide_eq_false (by omega)
         simp only [go_sem,zaa,Nat.reduceAdd,Nat.reduceSub,Nat.reduceMul,Int.reduceToNat,reduceCtorEq,↓reduceIte,Int.reducePow,Nat.reducePow,Int.reduceMod,Nat.reduceLeDiff,Int.reduceLE,Int.reduceNe,Int.reduceEq,Nat.reduceEqDiff,Nat.reduceLT,Nat.reduceBEq,List.map_cons,List.map_nil,List.toList_toArray,Array.toList_append,Option.toArray_some,Option.toArray_none,Bool.and_self,ty,Scpy13,zde,hle,d1]
         refine ⟨_,Weak.refl _,?_⟩
         simp only [go_sem,zaa,Nat.reduceAdd,Nat.reduceSub,Nat.reduceMul,Int.reduceToNat,reduceCtorEq,↓reduceIte,Int.reducePow,Nat.reducePow,Int.reduceMod,Nat.reduceLeDiff,Int.reduceLE,Int.reduceNe,Int.reduceEq,Nat.reduceEqDiff,Nat.reduceLT,Nat.reduceBEq,List.map_cons,List.map_nil,List.toList_toArray,Array.toList_append,Option.toArray_some,Option.toArray_none,Bool.and_self,ty,Scpy13,zde,hcl]
         refine ⟨_,Weak.refl _,?_⟩
         simp only [go_sem,zaa,Nat.reduceAdd,Nat.reduceSub,Nat.reduceMul,Int.reduceToNat,reduceCtorEq,↓reduceIte,Int.reducePow,Nat.reducePow,Int.reduceMod,Nat.reduceLeDiff,Int.reduceLE,Int.reduceNe,Int.reduceEq,Nat.reduceEqDiff,Nat.reduceLT,Nat.reduceBEq,List.map_cons,List.map_nil,List.toList_toArray,Array.toList_append,Option.toArray_some,Option.toArray_none,Bool.and_self,ty,Scpy13,hcl,hle,zai,cond_false,cond_true]
 · exact hp.elim
end
end Go.Proofs.Ytgpcnmajkcfgiaa
namespace Go.Proofs.Ytgpcnmajkcfgiaa
open Ax
def lst5 (l : List Se) : List Se := l.drop (l.length - 5)
def newL (x : List Se) (s c b : Int) : List Se := lst5 (x ++ [⟨s,c,b⟩])
def oldL (r : En) (e : Int) : List Se := if r.e = e then r.l else []
def entI (l : List En) (i : Nat) : En := (l[i]?).getD ⟨0,0,[]⟩
def setF (l : List En) (b c p e s : Int) : List En := l.set (l.findIdx (isI p)) ⟨p,e,newL (oldL (entI l (l.findIdx (isI p))) e) s c b⟩
def addF (l : List En) (b c p e s : Int) : List En := l.take (l.findIdx (pastI p)) ++ ⟨p,e,newL [] s c b⟩ :: l.drop (l.findIdx (pastI p))
def putF (l : List En) (b c p e s : Int) : List En := if p = 0 then l else if l.findIdx (isI p) < l.length then setF l b c p e s else addF l b c p e s
def putA (l : List En) (b c p e s : Int) : List Blk := if p = 0 then [.g 1 [.agg [.ms 1 3 0 l.length]],.g 3 (l.map enA)] else
 if l.findIdx (isI p) < l.length then [.g 1 [.agg [.ms 1 3 0 l.length]],.g 3 ((setF l b c p e s).map enA)]
 else [.g 1 [.agg [.ms 2 3 0 (l.length + 1)]],gone,.g 3 ((addF l b c p e s).map enA)]
def putA0 (b c p e s : Int) : List Blk := if p = 0 then [.g 1 [.agg [.sg 3 [] true]]] else [.g 1 [.agg [.ms 1 3 0 1]],.g 3 ((addF [] b c p e s).map enA)]
def putS13 : zay
 | [.rf 0 1 0 0,.agg [.w (.int .i64 b),.w (.int .i64 c),.w (.int .i64 p),.w (.int .i64 e),.w (.int .i64 s),.sg 6 rs h]],[.g 1 [.agg [.sg 3 [] true]]] => ⟨closedL rs = true,.tup [],putA0 b c p e s⟩
 | [.rf 0 1 0 0,.agg [.w (.int .i64 b),.w (.int .i64 c),.w (.int .i64 p),.w (.int .i64 e),.w (.int .i64 s),.sg 6 rs h]],[.g 1 [.agg [.ms 1 3 0 n]],.g 3 xs] => ⟨closedL rs = true ∧ (n = xs.length ∧ 0 < n) ∧ ∃ l : List En,xs = l.map enA ∧ okL l,.tup [],putA (xs.map uen) b c p e s⟩
 | _,_ => zcr
theorem zbg (id s : Nat) (zs : List AV) : ∀ (l : List En),fgL id s zs (l.map enA) = l.map enA
 | [] => rfl
 | x :: r => by simp only [List.map_cons,fgL,zbg id s zs r]; rfl
theorem slot_mid13 : ∀ (P S : List AV) (z : AV) (K : Nat),P.length = K → slot (P ++ z :: S) K = z
 | [],_,_,0,_ => rfl
 | x :: P,S,z,K + 1,h => slot_mid13 P S z K (by simpa using h)
theorem setSlot_mid13 : ∀ (P S : List AV) (z y : AV) (K : Nat),P.length = K → setSlot (P ++ z :: S) K y = P ++ y :: S
 | [],_,_,_,0,_ => rfl
 | x :: P,S,z,y,K + 1,h => by
   show x :: setSlot (P ++ z :: S) K y = x :: (P ++ y :: S)
   rw [setSlot_mid13 P S z y K (by simpa using h)]
theorem closed_mid13 : ∀ (P S : List AV) (z : AV),closedL P = true → closedL S = true → closedL (P ++ z :: S) = z.closed
 | [],S,z,_,h => by show (z.closed && closedL S) = z.closed; rw [h,Bool.and_true]
 | x :: P,S,z,h,h2 => by
   have h3 : x.closed = true ∧ closedL P = true := by simpa [closedL] using h
   show (x.closed && closedL (P ++ z :: S)) = z.closed
   rw [closed_mid13 P S z h3.2 h2,h3.1,Bool.true_and]
theorem fg_mid13 (id s : Nat) (zs : List AV) : ∀ (P S : List AV) (z : AV),fgL id s zs P = P → fgL id s zs S = S → fgL id s zs (P ++ z :: S) = P ++ z.fg id s zs :: S
 | [],S,z,_,h => by show z.fg id s zs :: fgL id s zs S = _; rw [h]; rfl
 | x :: P,S,z,h,h2 => by
   have h3 : x.fg id s zs = x ∧ fgL id s zs P = P := by simpa [fgL] using h
   show x.fg id s zs :: fgL id s zs (P ++ z :: S) = x :: (P ++ z.fg id s zs :: S)
   rw [fg_mid13 id s zs P S z h3.2 h2,h3.1]
theorem ren_mid13 (g : Nat → Nat) : ∀ (P S : List AV) (z : AV),renL g P = P → renL g S = S → renL g (P ++ z :: S) = P ++ z.ren g :: S
 | [],S,z,_,h => by show z.ren g :: renL g S = _; rw [h]; rfl
 | x :: P,S,z,h,h2 => by
   have h3 : x.ren g = x ∧ renL g P = P := by simpa [renL] using h
   show x.ren g :: renL g (P ++ z :: S) = x :: (P ++ z.ren g :: S)
   rw [ren_mid13 g P S z h3.2 h2,h3.1]
def zbh (f : FuncId) : Option zay :=
 match f with
 | 46 => some insNES
 | _ => none
theorem Sput13_ok : Fns Try.prog zbh := by
 intro f s h
 unfold zbh at h
 split at h
 · injection h with h; subst h; exact ⟨⟨_,Try.func46,by kernel_rfl,by kernel_rfl⟩,insNE_sound⟩
 · cases h
def zbk (f : FuncId) : Option zay :=
 match f with
 | 27 => some plaS
 | 42 => some fstES
 | 46 => some (insS 3)
 | _ => none
theorem SOput13_ok : FnsO Try.prog zbk := by
 intro f s h
 unfold zbk at h
 split at h
 · injection h with h; subst h; exact ⟨⟨_,Try.func27,by kernel_rfl,by kernel_rfl⟩,pla_sound⟩
 · injection h with h; subst h; exact ⟨⟨_,Try.func42,by kernel_rfl,by kernel_rfl⟩,fstE_sound⟩
 · injection h with h; subst h; exact ⟨⟨_,Try.func46,by kernel_rfl,by kernel_rfl⟩,insGI13_sound⟩
 · cases h
def putPl0 : XPlan := fun id => match id with
 | 2 => .drs [] 5
 | 4 => .opn [] 5
 | 5 => .prs []
 | 8 => .prs []
 | 12 => .wks
 | _ => .std
def putPl : XPlan := fun id => match id with
 | 2 => .drs [] 5
 | 4 => .opn [] 5
 | 5 => .drf [] 12 0
 | 8 => .prs []
 | 12 => .wks
 | _ => .std
section
set_option maxRecDepth 100000
set_option maxHeartbeats 8000000
theorem put13_sound : SoundO Try.prog 34 putS13 := by
 refine fn_soundO (S := zbh) (SO := zbk) (T := ty) zcu ty_ok Sput13_ok SOput13_ok Try.func34 (c := Try.f34.body.getD .skip) (by kernel_rfl) (fun xs pins hp => ?_)
 unfold putS13 at hp ⊢
 split at hp
 · rename_i b c p e s rs h
   have hr := hp
   refine ⟨by simp,putPl0,by kernel_rfl,?_⟩
   unfold Try.f34
   unfold putA0
   by_cases hp0 : p = 0
   · have q0 : decide (p = 0) = true := decide_eq_true hp0
     rw [if_pos hp0]
     simp only [go_sem,zaa,Nat.reduceAdd,Nat.reduceSub,Nat.reduceMul,Int.reduceToNat,reduceCtorEq,↓reduceIte,Int.reducePow,Nat.reducePow,Int.reduceMod,Nat.reduceLeDiff,Int.reduceLE,Int.reduceNe,Int.reduceEq,Nat.reduceEqDiff,Nat.reduceLT,Nat.reduceBEq,List.map_cons,List.map_nil,List.toList_toArray,Array.toList_append,Option.toArray_some,Option.toArray_none,Bool.and_self,ty,zbh,putPl0,q0]
     refine ⟨_,Weak.refl _,?_⟩
     simp only [go_sem,zaa,Nat.reduceAdd,Nat.reduceSub,Nat.reduceMul,Int.reduceToNat,reduceCtorEq,↓reduceIte,Int.reducePow,Nat.reducePow,Int.reduceMod,Nat.reduceLeDiff,Int.reduceLE,Int.reduceNe,Int.reduceEq,Nat.reduceEqDiff,Nat.reduceLT,Nat.reduceBEq,List.map_cons,List.map_nil,List.toList_toArray,Array.toList_append,Option.toArray_some,Option.toArray_none,Bool.and_self,ty,zbh]
   · have q0 : decide (p = 0) = false := decide_eq_false hp0
     rw [if_neg hp0]
     have q1 : decide ((0 : Int) = 0) = true := rfl
     have q2 : decide (((0 : Nat) : Int) = ((0 : Nat) : Int)) = true := rfl
     have cst0 : ((0 : Nat) : Int) = 0 := rfl
     have c0 : ∀ f,coe ty 31 (.sg 3 [] f) = .sg 3 [] f := fun f => rfl
     have hex0 : ∃ k : List En,([] : List AV) = k.map enA := ⟨[],rfl⟩
     have hW : (if (((1 : Nat) : Int) - 5 + 9223372036854775808) % 18446744073709551616 - 9223372036854775808 > 0 then (((1 : Nat) : Int) - 5 + 9223372036854775808) % 18446744073709551616 - 9223372036854775808 else (0 : Int)) = ((0 : Nat) : Int) := by decide
     have hk1 : decide (0 + 1 ≤ [AV.agg [.w (.int .i64 s),.w (.int .i64 c),.w (.int .i64 b)]].length) = true := rfl
     have hk2 : List.take 1 [AV.agg [.w (.int .i64 s),.w (.int .i64 c),.w (.int .i64 b)]] = [AV.agg [.w (.int .i64 s),.w (.int .i64 c),.w (.int .i64 b)]] := rfl
     simp only [go_sem,zaa,Nat.reduceAdd,Nat.reduceSub,Nat.reduceMul,Int.reduceToNat,reduceCtorEq,↓reduceIte,Int.reducePow,Nat.reducePow,Int.reduceMod,Nat.reduceLeDiff,Int.reduceLE,Int.reduceNe,Int.reduceEq,Nat.reduceEqDiff,Nat.reduceLT,Nat.reduceBEq,List.map_cons,List.map_nil,List.toList_toArray,Array.toList_append,Option.toArray_some,Option.toArray_none,Bool.and_self,ty,zbh,zbk,putPl0,plaS,fstES,insNES,q0,q1,q2,c0,hr,hex0,Int.toNat_natCast,hW,decide_true,List.length_nil,List.map_nil,List.findIdx_nil,Nat.zero_le,cst0]
     refine ⟨_,_,Weak.refl _,?_⟩
     simp only [go_sem,zaa,Nat.reduceAdd,Nat.reduceSub,Nat.reduceMul,Int.reduceToNat,reduceCtorEq,↓reduceIte,Int.reducePow,Nat.reducePow,Int.reduceMod,Nat.reduceLeDiff,Int.reduceLE,Int.reduceNe,Int.reduceEq,Nat.reduceEqDiff,Nat.reduceLT,Nat.reduceBEq,List.map_cons,List.map_nil,List.toList_toArray,Array.toList_append,Option.toArray_some,Option.toArray_none,Bool.and_self,-zaa,ty,zbh,zbk,putPl0,plaS,fstES,insNES,q0,q1,q2,c0,hr,hex0,Int.toNat_natCast,hW,decide_true,List.length_nil,List.map_nil,List.findIdx_nil,Nat.zero_le,cst0]
     iterate 14
       try rw [zaa]
       try simp only [go_sem,zaa,Nat.reduceAdd,Nat.reduceSub,Nat.reduceMul,Int.reduceToNat,reduceCtorEq,↓reduceIte,Int.reducePow,Nat.reducePow,Int.reduceMod,Nat.reduceLeDiff,Int.reduceLE,Int.reduceNe,Int.reduceEq,Nat.reduceEqDiff,Nat.reduceLT,Nat.reduceBEq,List.map_cons,List.map_nil,List.toList_toArray,Array.toList_append,Option.toArray_some,Option.toArray_none,Bool.and_self,-zaa,ty,zbh,zbk,putPl0,plaS,fstES,insNES,q0,q1,q2,c0,hr,hex0,Int.toNat_natCast,hW,decide_true,List.length_nil,List.map_nil,List.findIdx_nil,Nat.zero_le,cst0]
       repeat (refine And.intro (by first | omega | exact ⟨by omega,by omega⟩ | (unfold top; omega)) ?_)
     refine ⟨fun y e => by rw [e]; rfl,by unfold top; omega,?_⟩
     unfold wsF
     refine ⟨_,_,zbj 580 3 6 ([AV.agg [.w (.int .i64 s),.w (.int .i64 c),.w (.int .i64 b)]]) rfl rfl (by simp [slot,AV.ids]),?_⟩
     simp only [fgL,fgH,AV.fg,Blk.fg,Nat.reduceBEq,cond_true,cond_false,Bool.and_true,beq_self_eq_true,Bool.true_and,List.drop_zero,hk1,hk2]
     have ha : (addF [] b c p e s).map enA = [.agg [.w (.int .i64 p),.w (.int .i64 e),.sg 3 [AV.agg [.w (.int .i64 s),.w (.int .i64 c),.w (.int .i64 b)]] false]] := rfl
     rw [ha]
     simp only [go_sem,zaa,Nat.reduceAdd,Nat.reduceSub,Nat.reduceMul,Int.reduceToNat,reduceCtorEq,↓reduceIte,Int.reducePow,Nat.reducePow,Int.reduceMod,Nat.reduceLeDiff,Int.reduceLE,Int.reduceNe,Int.reduceEq,Nat.reduceEqDiff,Nat.reduceLT,Nat.reduceBEq,List.map_cons,List.map_nil,List.toList_toArray,Array.toList_append,Option.toArray_some,Option.toArray_none,Bool.and_self,ty,zbh,putPl0,hr,Int.toNat_natCast]
     try (refine ⟨_,Weak.refl _,?_⟩)
     try simp only [go_sem,coe,zaa,Nat.reduceAdd,Nat.reduceSub,Nat.reduceMul,Int.reduceToNat,reduceCtorEq,↓reduceIte,Int.reducePow,Nat.reducePow,Int.reduceMod,Nat.reduceLeDiff,Int.reduceLE,Int.reduceNe,Int.reduceEq,Nat.reduceEqDiff,Nat.reduceLT,Nat.reduceBEq,List.map_cons,List.map_nil,List.toList_toArray,Array.toList_append,Option.toArray_some,Option.toArray_none,Bool.and_self,ty,zbh]
 · rename_i b c p e s rs h n xs
   obtain ⟨hr,⟨rfl,h0⟩,l,rfl,hL,hi⟩ := hp
   rw [List.length_map] at h0
   have hle : (l.map enA).length = l.length := by simp
   have hcl := zab l
   have hex : ∃ k : List En,l.map enA = k.map enA := ⟨l,rfl⟩
   have d0 : decide (0 < l.length) = true := decide_eq_true h0
   have hL9 : l.length ≤ 9223372036854775807 := by omega
   have htk : (l.map enA).take l.length = l.map enA := List.take_of_length_le (by simp)
   rw [zak]
   refine ⟨by simp,putPl,by kernel_rfl,?_⟩
   unfold Try.f34
   by_cases hp0 : p = 0
   · have q0 : decide (p = 0) = true := decide_eq_true hp0
     unfold putA
     rw [if_pos hp0]
     simp only [go_sem,zaa,Nat.reduceAdd,Nat.reduceSub,Nat.reduceMul,Int.reduceToNat,reduceCtorEq,↓reduceIte,Int.reducePow,Nat.reducePow,Int.reduceMod,Nat.reduceLeDiff,Int.reduceLE,Int.reduceNe,Int.reduceEq,Nat.reduceEqDiff,Nat.reduceLT,Nat.reduceBEq,List.map_cons,List.map_nil,List.toList_toArray,Array.toList_append,Option.toArray_some,Option.toArray_none,Bool.and_self,ty,zbh,putPl,q0]
     refine ⟨_,Weak.refl _,?_⟩
     simp only [go_sem,zaa,Nat.reduceAdd,Nat.reduceSub,Nat.reduceMul,Int.reduceToNat,reduceCtorEq,↓reduceIte,Int.reducePow,Nat.reducePow,Int.reduceMod,Nat.reduceLeDiff,Int.reduceLE,Int.reduceNe,Int.reduceEq,Nat.reduceEqDiff,Nat.reduceLT,Nat.reduceBEq,List.map_cons,List.map_nil,List.toList_toArray,Array.toList_append,Option.toArray_some,Option.toArray_none,Bool.and_self,ty,zbh,hcl,hle]
   · have q0 : decide (p = 0) = false := decide_eq_false hp0
     unfold putA
     rw [if_neg hp0]
     by_cases hf : l.findIdx (isI p) < l.length
     · rw [if_pos hf]
       obtain ⟨I,hI⟩ : ∃ I,l.findIdx (isI p) = I := ⟨_,rfl⟩
       rw [hI] at hf
       have q1 : decide ((I : Int) = (l.length : Int)) = false := decide_eq_false (by omega)
       have hs1 := zbw l I hf
       obtain ⟨r,hr1⟩ : ∃ r,l[I] = r := ⟨_,rfl⟩
       rw [hr1] at hs1
       obtain ⟨i1,e1,l1⟩ := r
       have hs1 : slot (l.map enA) I = .agg [.w (.int .i64 i1),.w (.int .i64 e1),.sg 3 (l1.map seA) false] := hs1
       have t1 : setSlot (l.map enA) I (.agg [.w (.int .i64 i1),.w (.int .i64 e),.sg 3 (l1.map seA) false]) = (l.set I ⟨i1,e,l1⟩).map enA := zdu ⟨i1,e,l1⟩ l I hf
       have t2 : ∀ k : List Se,setSlot ((l.set I ⟨i1,e,l1⟩).map enA) I (.agg [.w (.int .i64 i1),.w (.int .i64 e),.sg 3 (k.map seA) false]) = (l.set I ⟨i1,e,k⟩).map enA := fun k => by
         have := zdu ⟨i1,e,k⟩ (l.set I ⟨i1,e,l1⟩) I (by rw [List.length_set]; exact hf)
         rw [List.set_set] at this; exact this
       have u1 : ∀ x : En,slot ((l.set I x).map enA) I = .agg [.w (.int .i64 x.i),.w (.int .i64 x.e),.sg 3 (x.l.map seA) false] := fun x => by
         have := zbw (l.set I x) I (by rw [List.length_set]; exact hf)
         rw [List.getElem_set_self] at this; exact this
       have u2 : ∀ x : En,((l.set I x).map enA).length = l.length := fun x => by simp
       have hii : i1 = p := by
         have := List.findIdx_getElem (p := isI p) (xs := l) (w := by rw [hI]; exact hf)
         simp only [hI,hr1] at this
         exact of_decide_eq_true this
       have hent : entI l I = ⟨i1,e1,l1⟩ := by unfold entI; rw [List.getElem?_eq_getElem hf,hr1]; rfl
       have hset : ∀ ls,newL (oldL ⟨i1,e1,l1⟩ e) s c b = ls → setF l b c p e s = l.set I ⟨i1,e,ls⟩ := fun ls h => by unfold setF; rw [hI,hent,h,hii]
       by_cases he : e1 = e
       · have q2 : decide (e1 = e) = true := decide_eq_true he
         cases hl1 : l1 with
         | nil =>
           subst hl1
           simp only [List.map_nil] at t1 hs1
           have hnw : newL (oldL ⟨i1,e1,[]⟩ e) s c b = [⟨s,c,b⟩] := by unfold oldL; rw [if_pos he]; rfl
           rw [hset _ hnw]
           have hk1 : decide (0 + 1 ≤ [AV.agg [.w (.int .i64 s),.w (.int .i64 c),.w (.int .i64 b)]].length) = true := rfl
           have hk2 : List.take 1 [AV.agg [.w (.int .i64 s),.w (.int .i64 c),.w (.int .i64 b)]] = List.map seA [⟨s,c,b⟩] := rfl
           have hk3 : (1 - 5 : Nat) = 0 := rfl
           have hW : (if (((1 : Nat) : Int) - 5 + 9223372036854775808) % 18446744073709551616 - 9223372036854775808 > 0 then (((1 : Nat) : Int) - 5 + 9223372036854775808) % 18446744073709551616 - 9223372036854775808 else (0 : Int)) = ((1 - 5 : Nat) : Int) := by split <;> omega
           have t3 := t2 ([⟨s,c,b⟩])
           simp only [List.map_cons,List.map_nil] at t3
           simp only [go_sem,zaa,Nat.reduceAdd,Nat.reduceSub,Nat.reduceMul,Int.reduceToNat,reduceCtorEq,↓reduceIte,Int.reducePow,Nat.reducePow,Int.reduceMod,Nat.reduceLeDiff,Int.reduceLE,Int.reduceNe,Int.reduceEq,Nat.reduceEqDiff,Nat.reduceLT,Nat.reduceBEq,List.map_cons,List.map_nil,List.toList_toArray,Array.toList_append,Option.toArray_some,Option.toArray_none,Bool.and_self,ty,zbh,zbk,putPl,plaS,q0,q1,q2,hs1,zam,zap,zac,zbg,hI,hr,hle,h0,d0,hL9,hcl,hex,zak,htk,Int.toNat_natCast,hW,t1,t2,t3,u1,u2,zab]
           refine ⟨_,_,Weak.refl _,?_⟩
           simp only [go_sem,zaa,Nat.reduceAdd,Nat.reduceSub,Nat.reduceMul,Int.reduceToNat,reduceCtorEq,↓reduceIte,Int.reducePow,Nat.reducePow,Int.reduceMod,Nat.reduceLeDiff,Int.reduceLE,Int.reduceNe,Int.reduceEq,Nat.reduceEqDiff,Nat.reduceLT,Nat.reduceBEq,List.map_cons,List.map_nil,List.toList_toArray,Array.toList_append,Option.toArray_some,Option.toArray_none,Bool.and_self,-zaa,ty,zbh,zbk,putPl,plaS,q0,q1,q2,hs1,zam,zap,zac,zbg,hI,hr,hle,h0,d0,hL9,hcl,hex,zak,htk,Int.toNat_natCast,hW,t1,t2,t3,u1,u2,zab]
           iterate 10
             try rw [zaa]
             try simp only [go_sem,zaa,Nat.reduceAdd,Nat.reduceSub,Nat.reduceMul,Int.reduceToNat,reduceCtorEq,↓reduceIte,Int.reducePow,Nat.reducePow,Int.reduceMod,Nat.reduceLeDiff,Int.reduceLE,Int.reduceNe,Int.reduceEq,Nat.reduceEqDiff,Nat.reduceLT,Nat.reduceBEq,List.map_cons,List.map_nil,List.toList_toArray,Array.toList_append,Option.toArray_some,Option.toArray_none,Bool.and_self,-zaa,ty,zbh,zbk,putPl,plaS,q0,q1,q2,hs1,zam,zap,zac,zbg,hI,hr,hle,h0,d0,hL9,hcl,hex,zak,htk,Int.toNat_natCast,hW,t1,t2,t3,u1,u2,zab]
             repeat (refine And.intro (by first | omega | exact ⟨by omega,by omega⟩ | (unfold top; omega)) ?_)
           unfold wsF
           refine ⟨_,_,zbj 396 3 6 ([AV.agg [.w (.int .i64 s),.w (.int .i64 c),.w (.int .i64 b)]]) rfl rfl (by simp [slot,AV.ids]),?_⟩
           simp only [fgL,fgH,AV.fg,Blk.fg,Nat.reduceBEq,cond_true,cond_false,Bool.and_true,beq_self_eq_true,Bool.true_and,List.drop_zero,zbg,hk1,hk2,hk3]
           simp only [go_sem,zaa,Nat.reduceAdd,Nat.reduceSub,Nat.reduceMul,Int.reduceToNat,reduceCtorEq,↓reduceIte,Int.reducePow,Nat.reducePow,Int.reduceMod,Nat.reduceLeDiff,Int.reduceLE,Int.reduceNe,Int.reduceEq,Nat.reduceEqDiff,Nat.reduceLT,Nat.reduceBEq,List.map_cons,List.map_nil,List.toList_toArray,Array.toList_append,Option.toArray_some,Option.toArray_none,Bool.and_self,-zaa,ty,zbh,zbk,putPl,plaS,q0,q1,q2,hs1,zam,zap,zac,zbg,hI,hr,hle,h0,d0,hL9,hcl,hex,zak,htk,Int.toNat_natCast,hW,t1,t2,t3,u1,u2,zab]
           refine ⟨by omega,by omega,?_⟩
           refine ⟨_,Weak.refl _,?_⟩
           simp only [go_sem,coe,zaa,Nat.reduceAdd,Nat.reduceSub,Nat.reduceMul,Int.reduceToNat,reduceCtorEq,↓reduceIte,Int.reducePow,Nat.reducePow,Int.reduceMod,Nat.reduceLeDiff,Int.reduceLE,Int.reduceNe,Int.reduceEq,Nat.reduceEqDiff,Nat.reduceLT,Nat.reduceBEq,List.map_cons,List.map_nil,List.toList_toArray,Array.toList_append,Option.toArray_some,Option.toArray_none,Bool.and_self,ty,zbh,zab,u2,t3,hle,zai]
         | cons y l2 =>
           have hpos : 0 < l1.length := by rw [hl1]; simp
           have hnw : newL (oldL ⟨i1,e1,l1⟩ e) s c b = newL l1 s c b := by unfold oldL; rw [if_pos he]
           rw [hset _ hnw]
           clear hl1
           have hil := hi _ (List.getElem_mem hf)
           rw [hr1] at hil
           simp only at hil
           obtain ⟨m,hm⟩ : ∃ m,l1.length + 1 = m := ⟨_,rfl⟩
           have hm5 : m - 5 ≤ m := by omega
           have hll : (l1.map seA).length = l1.length := by simp
           have hnk : ((l1 ++ [(⟨s,c,b⟩ : Se)]).map seA).length = m := by simp; omega
           have happ : l1.map seA ++ [AV.agg [.w (.int .i64 s),.w (.int .i64 c),.w (.int .i64 b)]] = (l1 ++ [(⟨s,c,b⟩ : Se)]).map seA := by simp [seA]
           have hk1 : decide (m - 5 + (m - (m - 5)) ≤ ((l1 ++ [(⟨s,c,b⟩ : Se)]).map seA).length) = true := decide_eq_true (by omega)
           have hk2 : List.take (m - (m - 5)) (List.drop (m - 5) ((l1 ++ [(⟨s,c,b⟩ : Se)]).map seA)) = List.map seA (newL l1 s c b) := by
             rw [List.take_of_length_le (by rw [List.length_drop]; omega),← List.map_drop]
             unfold newL lst5
             rw [List.length_append,List.length_singleton,hm]
           have hk3 : True := trivial
           have hW : (if (((m : Nat) : Int) - 5 + 9223372036854775808) % 18446744073709551616 - 9223372036854775808 > 0 then (((m : Nat) : Int) - 5 + 9223372036854775808) % 18446744073709551616 - 9223372036854775808 else (0 : Int)) = ((m - 5 : Nat) : Int) := by split <;> omega
           have t3 := t2 (newL l1 s c b)
           simp only [go_sem,zaa,Nat.reduceAdd,Nat.reduceSub,Nat.reduceMul,Int.reduceToNat,reduceCtorEq,↓reduceIte,Int.reducePow,Nat.reducePow,Int.reduceMod,Nat.reduceLeDiff,Int.reduceLE,Int.reduceNe,Int.reduceEq,Nat.reduceEqDiff,Nat.reduceLT,Nat.reduceBEq,List.map_cons,List.map_nil,List.toList_toArray,Array.toList_append,Option.toArray_some,Option.toArray_none,Bool.and_self,ty,zbh,zbk,putPl,plaS,q0,q1,q2,hs1,zam,zap,zac,zbg,hI,hr,hle,h0,d0,hL9,hcl,hex,zak,htk,Int.toNat_natCast,hW,t1,t2,t3,u1,u2,zab,hll,happ,hm,hnk]
           refine ⟨_,_,Weak.refl _,?_⟩
           simp only [go_sem,zaa,Nat.reduceAdd,Nat.reduceSub,Nat.reduceMul,Int.reduceToNat,reduceCtorEq,↓reduceIte,Int.reducePow,Nat.reducePow,Int.reduceMod,Nat.reduceLeDiff,Int.reduceLE,Int.reduceNe,Int.reduceEq,Nat.reduceEqDiff,Nat.reduceLT,Nat.reduceBEq,List.map_cons,List.map_nil,List.toList_toArray,Array.toList_append,Option.toArray_some,Option.toArray_none,Bool.and_self,-zaa,ty,zbh,zbk,putPl,plaS,q0,q1,q2,hs1,zam,zap,zac,zbg,hI,hr,hle,h0,d0,hL9,hcl,hex,zak,htk,Int.toNat_natCast,hW,t1,t2,t3,u1,u2,zab,hll,happ,hm,hnk]
           iterate 10
             try rw [zaa]
             try simp only [go_sem,zaa,Nat.reduceAdd,Nat.reduceSub,Nat.reduceMul,Int.reduceToNat,reduceCtorEq,↓reduceIte,Int.reducePow,Nat.reducePow,Int.reduceMod,Nat.reduceLeDiff,Int.reduceLE,Int.reduceNe,Int.reduceEq,Nat.reduceEqDiff,Nat.reduceLT,Nat.reduceBEq,List.map_cons,List.map_nil,List.toList_toArray,Array.toList_append,Option.toArray_some,Option.toArray_none,Bool.and_self,-zaa,ty,zbh,zbk,putPl,plaS,q0,q1,q2,hs1,zam,zap,zac,zbg,hI,hr,hle,h0,d0,hL9,hcl,hex,zak,htk,Int.toNat_natCast,hW,t1,t2,t3,u1,u2,zab,hll,happ,hm,hnk]
             repeat (refine And.intro (by first | omega | exact ⟨by omega,by omega⟩ | (unfold top; omega)) ?_)
           unfold wsF
           refine ⟨_,_,zbj 396 3 6 ((l1 ++ [(⟨s,c,b⟩ : Se)]).map seA) rfl (zac _) (by simp [slot,AV.ids]),?_⟩
           simp only [fgL,fgH,AV.fg,Blk.fg,Nat.reduceBEq,cond_true,cond_false,Bool.and_true,beq_self_eq_true,Bool.true_and,List.drop_zero,zbg,hk1,hk2,hk3]
           simp only [go_sem,zaa,Nat.reduceAdd,Nat.reduceSub,Nat.reduceMul,Int.reduceToNat,reduceCtorEq,↓reduceIte,Int.reducePow,Nat.reducePow,Int.reduceMod,Nat.reduceLeDiff,Int.reduceLE,Int.reduceNe,Int.reduceEq,Nat.reduceEqDiff,Nat.reduceLT,Nat.reduceBEq,List.map_cons,List.map_nil,List.toList_toArray,Array.toList_append,Option.toArray_some,Option.toArray_none,Bool.and_self,-zaa,ty,zbh,zbk,putPl,plaS,q0,q1,q2,hs1,zam,zap,zac,zbg,hI,hr,hle,h0,d0,hL9,hcl,hex,zak,htk,Int.toNat_natCast,hW,t1,t2,t3,u1,u2,zab,hll,happ,hm,hnk]
           refine ⟨by omega,by omega,?_⟩
           refine ⟨_,Weak.refl _,?_⟩
           simp only [go_sem,coe,zaa,Nat.reduceAdd,Nat.reduceSub,Nat.reduceMul,Int.reduceToNat,reduceCtorEq,↓reduceIte,Int.reducePow,Nat.reducePow,Int.reduceMod,Nat.reduceLeDiff,Int.reduceLE,Int.reduceNe,Int.reduceEq,Nat.reduceEqDiff,Nat.reduceLT,Nat.reduceBEq,List.map_cons,List.map_nil,List.toList_toArray,Array.toList_append,Option.toArray_some,Option.toArray_none,Bool.and_self,ty,zbh,zab,u2,t3,hle,zai]
       · have q2 : decide (e1 = e) = false := decide_eq_false he
         have hnw : newL (oldL ⟨i1,e1,l1⟩ e) s c b = [⟨s,c,b⟩] := by unfold oldL; rw [if_neg he]; rfl
         rw [hset _ hnw]
         have hk1 : decide (0 + 1 ≤ [AV.agg [.w (.int .i64 s),.w (.int .i64 c),.w (.int .i64 b)]].length) = true := rfl
         have hk2 : List.take 1 [AV.agg [.w (.int .i64 s),.w (.int .i64 c),.w (.int .i64 b)]] = List.map seA [⟨s,c,b⟩] := rfl
         have hk3 : (1 - 5 : Nat) = 0 := rfl
         have hW : (if (((1 : Nat) : Int) - 5 + 9223372036854775808) % 18446744073709551616 - 9223372036854775808 > 0 then (((1 : Nat) : Int) - 5 + 9223372036854775808) % 18446744073709551616 - 9223372036854775808 else (0 : Int)) = ((1 - 5 : Nat) : Int) := by split <;> omega
         have t3 := t2 ([⟨s,c,b⟩])
         simp only [List.map_cons,List.map_nil] at t3
         simp only [go_sem,zaa,Nat.reduceAdd,Nat.reduceSub,Nat.reduceMul,Int.reduceToNat,reduceCtorEq,↓reduceIte,Int.reducePow,Nat.reducePow,Int.reduceMod,Nat.reduceLeDiff,Int.reduceLE,Int.reduceNe,Int.reduceEq,Nat.reduceEqDiff,Nat.reduceLT,Nat.reduceBEq,List.map_cons,List.map_nil,List.toList_toArray,Array.toList_append,Option.toArray_some,Option.toArray_none,Bool.and_self,ty,zbh,zbk,putPl,plaS,q0,q1,q2,hs1,zam,zap,zac,zbg,hI,hr,hle,h0,d0,hL9,hcl,hex,zak,htk,Int.toNat_natCast,hW,t1,t2,t3,u1,u2,zab]
         refine ⟨_,_,Weak.refl _,?_⟩
         simp only [go_sem,zaa,Nat.reduceAdd,Nat.reduceSub,Nat.reduceMul,Int.reduceToNat,reduceCtorEq,↓reduceIte,Int.reducePow,Nat.reducePow,Int.reduceMod,Nat.reduceLeDiff,Int.reduceLE,Int.reduceNe,Int.reduceEq,Nat.reduceEqDiff,Nat.reduceLT,Nat.reduceBEq,List.map_cons,List.map_nil,List.toList_toArray,Array.toList_append,Option.toArray_some,Option.toArray_none,Bool.and_self,-zaa,ty,zbh,zbk,putPl,plaS,q0,q1,q2,hs1,zam,zap,zac,zbg,hI,hr,hle,h0,d0,hL9,hcl,hex,zak,htk,Int.toNat_natCast,hW,t1,t2,t3,u1,u2,zab]
         iterate 10
           try rw [zaa]
           try simp only [go_sem,zaa,Nat.reduceAdd,Nat.reduceSub,Nat.reduceMul,Int.reduceToNat,reduceCtorEq,↓reduceIte,Int.reducePow,Nat.reducePow,Int.reduceMod,Nat.reduceLeDiff,Int.reduceLE,Int.reduceNe,Int.reduceEq,Nat.reduceEqDiff,Nat.reduceLT,Nat.reduceBEq,List.map_cons,List.map_nil,List.toList_toArray,Array.toList_append,Option.toArray_some,Option.toArray_none,Bool.and_self,-zaa,ty,zbh,zbk,putPl,plaS,q0,q1,q2,hs1,zam,zap,zac,zbg,hI,hr,hle,h0,d0,hL9,hcl,hex,zak,htk,Int.toNat_natCast,hW,t1,t2,t3,u1,u2,zab]
           repeat (refine And.intro (by first | omega | exact ⟨by omega,by omega⟩ | (unfold top; omega)) ?_)
         unfold wsF
         refine ⟨_,_,zbj 340 3 6 ([AV.agg [.w (.int .i64 s),.w (.int .i64 c),.w (.int .i64 b)]]) rfl rfl (by simp [slot,AV.ids]),?_⟩
         simp only [fgL,fgH,AV.fg,Blk.fg,Nat.reduceBEq,cond_true,cond_false,Bool.and_true,beq_self_eq_true,Bool.true_and,List.drop_zero,zbg,hk1,hk2,hk3]
         simp only [go_sem,zaa,Nat.reduceAdd,Nat.reduceSub,Nat.reduceMul,Int.reduceToNat,reduceCtorEq,↓reduceIte,Int.reducePow,Nat.reducePow,Int.reduceMod,Nat.reduceLeDiff,Int.reduceLE,Int.reduceNe,Int.reduceEq,Nat.reduceEqDiff,Nat.reduceLT,Nat.reduceBEq,List.map_cons,List.map_nil,List.toList_toArray,Array.toList_append,Option.toArray_some,Option.toArray_none,Bool.and_self,-zaa,ty,zbh,zbk,putPl,plaS,q0,q1,q2,hs1,zam,zap,zac,zbg,hI,hr,hle,h0,d0,hL9,hcl,hex,zak,htk,Int.toNat_natCast,hW,t1,t2,t3,u1,u2,zab]
         refine ⟨by omega,by omega,?_⟩
         refine ⟨_,Weak.refl _,?_⟩
         simp only [go_sem,coe,zaa,Nat.reduceAdd,Nat.reduceSub,Nat.reduceMul,Int.reduceToNat,reduceCtorEq,↓reduceIte,Int.reducePow,Nat.reducePow,Int.reduceMod,Nat.reduceLeDiff,Int.reduceLE,Int.reduceNe,Int.reduceEq,Nat.reduceEqDiff,Nat.reduceLT,Nat.reduceBEq,List.map_cons,List.map_nil,List.toList_toArray,Array.toList_append,Option.toArray_some,Option.toArray_none,Bool.and_self,ty,zbh,zab,u2,t3,hle,zai]
     · rw [if_neg hf]
       have hI : l.findIdx (isI p) = l.length := by have := List.findIdx_le_length (xs := l) (p := isI p); omega
       have q1 : decide ((l.length : Int) = (l.length : Int)) = true := decide_eq_true rfl
       obtain ⟨K,hK⟩ : ∃ K,l.findIdx (pastI p) = K := ⟨_,rfl⟩
       have hKl : K ≤ l.length := by rw [← hK]; exact List.findIdx_le_length
       have hL6 : l.length ≤ 1000000 := by omega
       have hins : ∀ x,insL (l.map enA) l.length K x = (l.take K).map enA ++ x :: (l.drop K).map enA := fun x => by unfold insL; rw [htk,List.map_take,List.map_drop]
       have hPl : ((l.take K).map enA).length = K := by simp; omega
       have hSl : ((l.drop K).map enA).length = l.length - K := by simp
       have hPi := zam (l.take K)
       have hSi := zam (l.drop K)
       have hPc := zab (l.take K)
       have hSc := zab (l.drop K)
       have hPf := fun id s zs => zbg id s zs (l.take K)
       have hSf := fun id s zs => zbg id s zs (l.drop K)
       have hPr := fun g => zai g (l.take K)
       have hSr := fun g => zai g (l.drop K)
       have hfin : (l.take K).map enA ++ .agg [.w (.int .i64 p),.w (.int .i64 e),.sg 3 [.agg [.w (.int .i64 s),.w (.int .i64 c),.w (.int .i64 b)]] false] :: (l.drop K).map enA = (addF l b c p e s).map enA := by
         unfold addF; rw [hK,List.map_append]; rfl
       rw [← hfin]
       generalize (l.take K).map enA = P at *
       generalize (l.drop K).map enA = S at *
       have hslot : ∀ z,slot (P ++ z :: S) K = z := fun z => slot_mid13 P S z K hPl
       have hset : ∀ z y,setSlot (P ++ z :: S) K y = P ++ y :: S := fun z y => setSlot_mid13 P S z y K hPl
       have hlen : ∀ z,(P ++ z :: S).length = l.length + 1 := fun z => by simp only [List.length_append,List.length_cons]; omega
       have hids : ∀ z,idsL (P ++ z :: S) = z.ids := fun z => by rw [idsL_append,hPi]; simp only [idsL,hSi,List.nil_append,List.append_nil]
       have hclo : ∀ z,closedL (P ++ z :: S) = z.closed := fun z => closed_mid13 P S z hPc hSc
       have hfg : ∀ id s zs z,fgL id s zs (P ++ z :: S) = P ++ z.fg id s zs :: S := fun id s zs z => fg_mid13 id s zs P S z (hPf id s zs) (hSf id s zs)
       have hren : ∀ g z,renL g (P ++ z :: S) = P ++ z.ren g :: S := fun g z => ren_mid13 g P S z (hPr g) (hSr g)
       have hW : (if (((1 : Nat) : Int) - 5 + 9223372036854775808) % 18446744073709551616 - 9223372036854775808 > 0 then (((1 : Nat) : Int) - 5 + 9223372036854775808) % 18446744073709551616 - 9223372036854775808 else (0 : Int)) = ((0 : Nat) : Int) := by decide
       have hk1 : decide (0 + 1 ≤ [AV.agg [.w (.int .i64 s),.w (.int .i64 c),.w (.int .i64 b)]].length) = true := rfl
       have hk2 : List.take 1 [AV.agg [.w (.int .i64 s),.w (.int .i64 c),.w (.int .i64 b)]] = [AV.agg [.w (.int .i64 s),.w (.int .i64 c),.w (.int .i64 b)]] := rfl
       simp only [go_sem,zaa,Nat.reduceAdd,Nat.reduceSub,Nat.reduceMul,Int.reduceToNat,reduceCtorEq,↓reduceIte,Int.reducePow,Nat.reducePow,Int.reduceMod,Nat.reduceLeDiff,Int.reduceLE,Int.reduceNe,Int.reduceEq,Nat.reduceEqDiff,Nat.reduceLT,Nat.reduceBEq,List.map_cons,List.map_nil,List.toList_toArray,Array.toList_append,Option.toArray_some,Option.toArray_none,Bool.and_self,ty,zbh,zbk,putPl,plaS,fstES,insS,q0,q1,zam,zac,zbg,hI,hK,hr,hle,h0,d0,hL9,hL6,hcl,hex,zak,htk,Int.toNat_natCast,hW,hins,hslot,hset,hlen,hids,hclo,hfg,hren,hKl,behindF,dstF,decide_true]
       refine ⟨_,_,Weak.refl _,?_⟩
       simp only [go_sem,zaa,Nat.reduceAdd,Nat.reduceSub,Nat.reduceMul,Int.reduceToNat,reduceCtorEq,↓reduceIte,Int.reducePow,Nat.reducePow,Int.reduceMod,Nat.reduceLeDiff,Int.reduceLE,Int.reduceNe,Int.reduceEq,Nat.reduceEqDiff,Nat.reduceLT,Nat.reduceBEq,List.map_cons,List.map_nil,List.toList_toArray,Array.toList_append,Option.toArray_some,Option.toArray_none,Bool.and_self,-zaa,ty,zbh,zbk,putPl,plaS,fstES,insS,q0,q1,zam,zac,zbg,hI,hK,hr,hle,h0,d0,hL9,hL6,hcl,hex,zak,htk,Int.toNat_natCast,hW,hins,hslot,hset,hlen,hids,hclo,hfg,hren,hKl,behindF,dstF,decide_true]
       iterate 4
         try rw [zaa]
         try simp only [go_sem,zaa,Nat.reduceAdd,Nat.reduceSub,Nat.reduceMul,Int.reduceToNat,reduceCtorEq,↓reduceIte,Int.reducePow,Nat.reducePow,Int.reduceMod,Nat.reduceLeDiff,Int.reduceLE,Int.reduceNe,Int.reduceEq,Nat.reduceEqDiff,Nat.reduceLT,Nat.reduceBEq,List.map_cons,List.map_nil,List.toList_toArray,Array.toList_append,Option.toArray_some,Option.toArray_none,Bool.and_self,-zaa,ty,zbh,zbk,putPl,plaS,fstES,insS,q0,q1,zam,zac,zbg,hI,hK,hr,hle,h0,d0,hL9,hL6,hcl,hex,zak,htk,Int.toNat_natCast,hW,hins,hslot,hset,hlen,hids,hclo,hfg,hren,hKl,behindF,dstF,decide_true]
         repeat (refine And.intro (by first | omega | exact ⟨by omega,by omega⟩ | (unfold top; omega)) ?_)
       refine ⟨_,_,Weak.refl _,?_⟩
       simp only [go_sem,zaa,Nat.reduceAdd,Nat.reduceSub,Nat.reduceMul,Int.reduceToNat,reduceCtorEq,↓reduceIte,Int.reducePow,Nat.reducePow,Int.reduceMod,Nat.reduceLeDiff,Int.reduceLE,Int.reduceNe,Int.reduceEq,Nat.reduceEqDiff,Nat.reduceLT,Nat.reduceBEq,List.map_cons,List.map_nil,List.toList_toArray,Array.toList_append,Option.toArray_some,Option.toArray_none,Bool.and_self,-zaa,ty,zbh,zbk,putPl,plaS,fstES,insS,q0,q1,zam,zac,zbg,hI,hK,hr,hle,h0,d0,hL9,hL6,hcl,hex,zak,htk,Int.toNat_natCast,hW,hins,hslot,hset,hlen,hids,hclo,hfg,hren,hKl,behindF,dstF,decide_true]
       repeat (refine And.intro (by first | omega | exact ⟨by omega,by omega⟩ | (unfold top; omega)) ?_)
       iterate 10
         try rw [zaa]
         try simp only [go_sem,zaa,Nat.reduceAdd,Nat.reduceSub,Nat.reduceMul,Int.reduceToNat,reduceCtorEq,↓reduceIte,Int.reducePow,Nat.reducePow,Int.reduceMod,Nat.reduceLeDiff,Int.reduceLE,Int.reduceNe,Int.reduceEq,Nat.reduceEqDiff,Nat.reduceLT,Nat.reduceBEq,List.map_cons,List.map_nil,List.toList_toArray,Array.toList_append,Option.toArray_some,Option.toArray_none,Bool.and_self,-zaa,ty,zbh,zbk,putPl,plaS,fstES,insS,q0,q1,zam,zac,zbg,hI,hK,hr,hle,h0,d0,hL9,hL6,hcl,hex,zak,htk,Int.toNat_natCast,hW,hins,hslot,hset,hlen,hids,hclo,hfg,hren,hKl,behindF,dstF,decide_true]
         repeat (refine And.intro (by first | omega | exact ⟨by omega,by omega⟩ | (unfold top; omega)) ?_)
       unfold wsF
       refine ⟨_,_,zbj 588 3 6 ([AV.agg [.w (.int .i64 s),.w (.int .i64 c),.w (.int .i64 b)]]) rfl rfl (by simp [slot,AV.ids]),?_⟩
       simp only [fgL,fgH,AV.fg,Blk.fg,Nat.reduceBEq,cond_true,cond_false,Bool.and_true,beq_self_eq_true,Bool.true_and,List.drop_zero,hfg,hk1,hk2]
       simp only [go_sem,zaa,Nat.reduceAdd,Nat.reduceSub,Nat.reduceMul,Int.reduceToNat,reduceCtorEq,↓reduceIte,Int.reducePow,Nat.reducePow,Int.reduceMod,Nat.reduceLeDiff,Int.reduceLE,Int.reduceNe,Int.reduceEq,Nat.reduceEqDiff,Nat.reduceLT,Nat.reduceBEq,List.map_cons,List.map_nil,List.toList_toArray,Array.toList_append,Option.toArray_some,Option.toArray_none,Bool.and_self,-zaa,ty,zbh,zbk,putPl,plaS,fstES,insS,q0,q1,zam,zac,zbg,hI,hK,hr,hle,h0,d0,hL9,hL6,hcl,hex,zak,htk,Int.toNat_natCast,hW,hins,hslot,hset,hlen,hids,hclo,hfg,hren,hKl,behindF,dstF,decide_true]
       refine ⟨by omega,by omega,?_⟩
       refine ⟨_,Weak.refl _,?_⟩
       simp only [go_sem,coe,zaa,Nat.reduceAdd,Nat.reduceSub,Nat.reduceMul,Int.reduceToNat,reduceCtorEq,↓reduceIte,Int.reducePow,Nat.reducePow,Int.reduceMod,Nat.reduceLeDiff,Int.reduceLE,Int.reduceNe,Int.reduceEq,Nat.reduceEqDiff,Nat.reduceLT,Nat.reduceBEq,List.map_cons,List.map_nil,List.toList_toArray,Array.toList_append,Option.toArray_some,Option.toArray_none,Bool.and_self,ty,zbh,zab,hclo,hlen,hren,hle]
 · exact hp.elim
end
end Go.Proofs.Ytgpcnmajkcfgiaa
