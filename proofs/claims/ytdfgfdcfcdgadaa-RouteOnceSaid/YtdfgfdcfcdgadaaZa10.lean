/- What the proofs of this seat stand on; it asks nothing. -/
import Derived.Test.YtdfgfdcfcdgadaaZa09
set_option linter.unusedSimpArgs false
set_option linter.unusedVariables false
namespace Go.Proofs.Ytdfgfdcfcdgadaa
open Ax
def zdd : zlh := fun id => match id with
 | 16 => .opn [] 4
 | _ => .std
section
set_option maxRecDepth 100000
set_option maxHeartbeats 32000000 in
theorem ybn : zfr Try.prog 12 (splS 5) := by
 refine zdg (S := zaf) (SO := zag) (T := ty) mixed ty_ok zei zej Try.func12 (c := Try.f12.body.getD .skip) (by kernel_rfl) (fun xs pins hp => ?_)
 unfold splS at hp ⊢
 split at hp
 · rename_i xs f parts turn id
   obtain ⟨rfl,hP,hL,rs,rfl,hk⟩ := hp
   rw [List.length_map] at hL
   have hlr : (rs.map rv).length = rs.length := by simp
   have ht : top = 4294967296 := rfl
   have hP2 : ((clP parts : Nat) : Int) = 5 := by rw [hP]; rfl
   rw [zaz]
   obtain ⟨T0,hT0⟩ : ∃ T,max turn 0 = ((T : Nat) : Int) := ⟨(max turn 0).toNat,by omega⟩
   have hT1 : (max turn 0).toNat = T0 := by omega
   have hmx : (if (0 : Int) > turn then (0 : Int) else turn) = ((T0 : Nat) : Int) := by rw [← hT0]; split <;> omega
   have hrm : Int.tmod ((T0 : Nat) : Int) 5 = ((T0 % 5 : Nat) : Int) := rfl
   rw [hT1]
   obtain ⟨X,hX⟩ : ∃ X,rs.foldl (stp 5) (T0 % 5,[[],[],[],[],[]]) = X := ⟨_,rfl⟩
   have hX0 : rs.foldl (stp 5) (T0 % 5,List.replicate 5 []) = X := hX
   rw [hX0]
   refine ⟨by simp,zdd,by kernel_rfl,?_⟩
   unfold Try.f12
   simp only [go_sem,zaa,↓reduceIte,lcT,ty,zaf,zag,zdd,zma,hP2,hlr,hmx,hrm]
   repeat (first | refine And.intro (by decide) ?_ | refine And.intro (by omega) ?_)
   refine zbe ⟨fun m σ => ∃ (i t : Nat) (L0 L1 L2 L3 L4 : List Rec),m = rs.length - i ∧ i ≤ rs.length ∧ t < 5 ∧ (L0.length ≤ i ∧ L1.length ≤ i ∧ L2.length ≤ i ∧ L3.length ≤ i ∧ L4.length ≤ i) ∧ (rs.drop i).foldl (stp 5) (t,[L0,L1,L2,L3,L4]) = X ∧
       σ = ⟨[.junk,.w (.int .i64 5),.w (.int .i64 t),.fn 13 [.rf 0 1 0 0],.junk,.junk,.junk,.junk,.junk,.ms 4 1 0 5,.junk,.junk,.junk,.junk,.junk,.junk,.junk,.junk,.junk,.junk,.junk,.junk,.junk,.sg 6 (rs.map rv) f,.w (.int .i64 rs.length),.w (.int .i64 i),.junk,.junk,.junk,.junk,.junk,.junk,.junk,.junk,.junk,.junk,.junk,.junk,.junk,.junk,.junk,.junk,.junk,.junk,.junk,.junk,.junk,.junk,.junk,.junk,.junk,.junk,.junk,.junk,.junk,.junk,.junk,.junk,.junk,.junk,.junk,.junk,.junk,.junk,.junk],[(0,.g 1 [.sg 1 [] true]),(4,.g 1 [.ms 5 6 0 L0.length,.ms 6 6 0 L1.length,.ms 7 6 0 L2.length,.ms 8 6 0 L3.length,.ms 9 6 0 L4.length]),(5,.g 6 (L0.map rv)),(6,.g 6 (L1.map rv)),(7,.g 6 (L2.map rv)),(8,.g 6 (L3.map rv)),(9,.g 6 (L4.map rv))],10⟩,?_,?_⟩
   · refine ⟨_,_,(zao 84 0 6 [.sg 6 [] true,.sg 6 [] true,.sg 6 [] true,.sg 6 [] true,.sg 6 [] true] rfl (by simp [AV.leaves]) (by decide) (by exact trivial) (by decide)).trans ((zao 84 1 6 [.ms 124 6 0 0,.sg 6 [] true,.sg 6 [] true,.sg 6 [] true,.sg 6 [] true] rfl (by simp [AV.leaves]) (by decide) (by exact trivial) (by decide)).trans ((zao 84 2 6 [.ms 124 6 0 0,.ms 125 6 0 0,.sg 6 [] true,.sg 6 [] true,.sg 6 [] true] rfl (by simp [AV.leaves]) (by decide) (by exact trivial) (by decide)).trans ((zao 84 3 6 [.ms 124 6 0 0,.ms 125 6 0 0,.ms 126 6 0 0,.sg 6 [] true,.sg 6 [] true] rfl (by simp [AV.leaves]) (by decide) (by exact trivial) (by decide)).trans ((zao 84 4 6 [.ms 124 6 0 0,.ms 125 6 0 0,.ms 126 6 0 0,.ms 127 6 0 0,.sg 6 [] true] rfl (by simp [AV.leaves]) (by decide) (by exact trivial) (by decide)).trans (zab [0,1,2,3,84,124,125,126,127,128] rfl rfl rfl ?_ ?_))))),0,T0 % 5,[],[],[],[],[],rfl,by omega,Nat.mod_lt _ (by omega),by simp,by rw [List.drop_zero]; exact hX,rfl⟩
     · simp only [ssT,zad,zae,setSlot,gOf,AV.ren,renL,Blk.ren,Ax.look,Ax.put,reduceCtorEq,↓reduceIte,Nat.reduceEqDiff,Nat.reduceLT,Nat.reduceAdd,List.length_append,List.length_cons,List.length_nil,Option.some.injEq]; try simp
     · simp only [ssT,zad,zae,setSlot,gOf,AV.ren,renL,Blk.ren,Ax.look,Ax.put,reduceCtorEq,↓reduceIte,Nat.reduceEqDiff,Nat.reduceLT,Nat.reduceAdd,List.length_append,List.length_cons,List.length_nil,Option.some.injEq]; try simp [renL]
   · rintro m σ ⟨i,t,L0,L1,L2,L3,L4,rfl,hi,ht3,hlen,hI,rfl⟩
     have e1 : ((i : Int) + 1 + 9223372036854775808) % 18446744073709551616 - 9223372036854775808 = ((i + 1 : Nat) : Int) := by omega
     by_cases hil : i < rs.length
     · have d4 : decide ((i : Int) < rs.length) = true := decide_eq_true (by omega)
       have hs1 := zba rv rs i hil
       have hkr := hk rs[i] (List.getElem_mem hil)
       have hdr : rs.drop i = rs[i] :: rs.drop (i + 1) := List.drop_eq_getElem_cons hil
       obtain ⟨r,hr⟩ : ∃ r,rs[i] = r := ⟨_,rfl⟩
       rw [hr] at hs1 hdr hkr
       rw [hdr,List.foldl_cons] at hI
       obtain ⟨d,tt,kd,key,dd,val⟩ := r
       simp only [rv] at hs1
       simp only at hkr
       cases kd with
       | true =>
         have hlt := zkl key 5
         have hcl : clP 5 = 5 := by decide
         rw [hcl] at hlt
         obtain ⟨to,hto⟩ : ∃ to,ofP key 5 = to := ⟨_,rfl⟩
         rw [hto] at hlt
         have hI : (rs.drop (i + 1)).foldl (stp 5) (t,([L0,L1,L2,L3,L4] : List (List Rec)).set to (([L0,L1,L2,L3,L4] : List (List Rec)).getD to [] ++ [⟨d,tt,true,key,dd,val⟩])) = X := by
           rw [← hI]; unfold stp; rw [if_pos rfl]; simp only; rw [show ofP key (((5 : Nat)) : Int) = to from hto]
         have hcs : to = 0 ∨ to = 1 ∨ to = 2 ∨ to = 3 ∨ to = 4 := by omega
         rcases hcs with rfl | rfl | rfl | rfl | rfl
         · have hat : L0.map rv ++ [.agg [.w (.int .i64 d),.w (.int .i64 tt),.w (.bool true),.str key,.w (.bool dd),.str val]] = (L0 ++ [(⟨d,tt,true,key,dd,val⟩ : Rec)]).map rv := by rw [List.map_append]; rfl
           have hlm : (L0.map rv).length = L0.length := by simp
           simp only [go_sem,zaa,↓reduceIte,lcT,ty,zaf,zag,zdd,zam,hlr,d4,hs1,e1,ht,Int.toNat_natCast,Bool.not_true,Bool.not_false,hat,hlm,hto,hkr]
           repeat (first | refine And.intro (by omega) ?_ | refine And.intro ⟨by omega,by omega⟩ ?_ | refine And.intro (by decide) ?_)
           refine ⟨rs.length - (i + 1),_,by omega,zab [0,1,2,3,4,186,6,7,8,9] rfl rfl rfl ?_ ?_,i + 1,t,L0 ++ [(⟨d,tt,true,key,dd,val⟩ : Rec)],L1,L2,L3,L4,rfl,by omega,by omega,by simp only [List.length_append,List.length_cons,List.length_nil]; omega,hI,rfl⟩
           · simp only [ssT,zad,zae,setSlot,gOf,AV.ren,renL,Blk.ren,Ax.look,Ax.put,reduceCtorEq,↓reduceIte,Nat.reduceEqDiff,Nat.reduceLT,Nat.reduceAdd,List.length_append,List.length_cons,List.length_nil,Option.some.injEq]; try simp
           · simp only [ssT,zad,zae,setSlot,gOf,AV.ren,renL,Blk.ren,Ax.look,Ax.put,reduceCtorEq,↓reduceIte,Nat.reduceEqDiff,Nat.reduceLT,Nat.reduceAdd,List.length_append,List.length_cons,List.length_nil,Option.some.injEq,zak]; try simp
         · have hat : L1.map rv ++ [.agg [.w (.int .i64 d),.w (.int .i64 tt),.w (.bool true),.str key,.w (.bool dd),.str val]] = (L1 ++ [(⟨d,tt,true,key,dd,val⟩ : Rec)]).map rv := by rw [List.map_append]; rfl
           have hlm : (L1.map rv).length = L1.length := by simp
           simp only [go_sem,zaa,↓reduceIte,lcT,ty,zaf,zag,zdd,zam,hlr,d4,hs1,e1,ht,Int.toNat_natCast,Bool.not_true,Bool.not_false,hat,hlm,hto,hkr]
           repeat (first | refine And.intro (by omega) ?_ | refine And.intro ⟨by omega,by omega⟩ ?_ | refine And.intro (by decide) ?_)
           refine ⟨rs.length - (i + 1),_,by omega,zab [0,1,2,3,4,5,186,7,8,9] rfl rfl rfl ?_ ?_,i + 1,t,L0,L1 ++ [(⟨d,tt,true,key,dd,val⟩ : Rec)],L2,L3,L4,rfl,by omega,by omega,by simp only [List.length_append,List.length_cons,List.length_nil]; omega,hI,rfl⟩
           · simp only [ssT,zad,zae,setSlot,gOf,AV.ren,renL,Blk.ren,Ax.look,Ax.put,reduceCtorEq,↓reduceIte,Nat.reduceEqDiff,Nat.reduceLT,Nat.reduceAdd,List.length_append,List.length_cons,List.length_nil,Option.some.injEq]; try simp
           · simp only [ssT,zad,zae,setSlot,gOf,AV.ren,renL,Blk.ren,Ax.look,Ax.put,reduceCtorEq,↓reduceIte,Nat.reduceEqDiff,Nat.reduceLT,Nat.reduceAdd,List.length_append,List.length_cons,List.length_nil,Option.some.injEq,zak]; try simp
         · have hat : L2.map rv ++ [.agg [.w (.int .i64 d),.w (.int .i64 tt),.w (.bool true),.str key,.w (.bool dd),.str val]] = (L2 ++ [(⟨d,tt,true,key,dd,val⟩ : Rec)]).map rv := by rw [List.map_append]; rfl
           have hlm : (L2.map rv).length = L2.length := by simp
           simp only [go_sem,zaa,↓reduceIte,lcT,ty,zaf,zag,zdd,zam,hlr,d4,hs1,e1,ht,Int.toNat_natCast,Bool.not_true,Bool.not_false,hat,hlm,hto,hkr]
           repeat (first | refine And.intro (by omega) ?_ | refine And.intro ⟨by omega,by omega⟩ ?_ | refine And.intro (by decide) ?_)
           refine ⟨rs.length - (i + 1),_,by omega,zab [0,1,2,3,4,5,6,186,8,9] rfl rfl rfl ?_ ?_,i + 1,t,L0,L1,L2 ++ [(⟨d,tt,true,key,dd,val⟩ : Rec)],L3,L4,rfl,by omega,by omega,by simp only [List.length_append,List.length_cons,List.length_nil]; omega,hI,rfl⟩
           · simp only [ssT,zad,zae,setSlot,gOf,AV.ren,renL,Blk.ren,Ax.look,Ax.put,reduceCtorEq,↓reduceIte,Nat.reduceEqDiff,Nat.reduceLT,Nat.reduceAdd,List.length_append,List.length_cons,List.length_nil,Option.some.injEq]; try simp
           · simp only [ssT,zad,zae,setSlot,gOf,AV.ren,renL,Blk.ren,Ax.look,Ax.put,reduceCtorEq,↓reduceIte,Nat.reduceEqDiff,Nat.reduceLT,Nat.reduceAdd,List.length_append,List.length_cons,List.length_nil,Option.some.injEq,zak]; try simp
         · have hat : L3.map rv ++ [.agg [.w (.int .i64 d),.w (.int .i64 tt),.w (.bool true),.str key,.w (.bool dd),.str val]] = (L3 ++ [(⟨d,tt,true,key,dd,val⟩ : Rec)]).map rv := by rw [List.map_append]; rfl
           have hlm : (L3.map rv).length = L3.length := by simp
           simp only [go_sem,zaa,↓reduceIte,lcT,ty,zaf,zag,zdd,zam,hlr,d4,hs1,e1,ht,Int.toNat_natCast,Bool.not_true,Bool.not_false,hat,hlm,hto,hkr]
           repeat (first | refine And.intro (by omega) ?_ | refine And.intro ⟨by omega,by omega⟩ ?_ | refine And.intro (by decide) ?_)
           refine ⟨rs.length - (i + 1),_,by omega,zab [0,1,2,3,4,5,6,7,186,9] rfl rfl rfl ?_ ?_,i + 1,t,L0,L1,L2,L3 ++ [(⟨d,tt,true,key,dd,val⟩ : Rec)],L4,rfl,by omega,by omega,by simp only [List.length_append,List.length_cons,List.length_nil]; omega,hI,rfl⟩
           · simp only [ssT,zad,zae,setSlot,gOf,AV.ren,renL,Blk.ren,Ax.look,Ax.put,reduceCtorEq,↓reduceIte,Nat.reduceEqDiff,Nat.reduceLT,Nat.reduceAdd,List.length_append,List.length_cons,List.length_nil,Option.some.injEq]; try simp
           · simp only [ssT,zad,zae,setSlot,gOf,AV.ren,renL,Blk.ren,Ax.look,Ax.put,reduceCtorEq,↓reduceIte,Nat.reduceEqDiff,Nat.reduceLT,Nat.reduceAdd,List.length_append,List.length_cons,List.length_nil,Option.some.injEq,zak]; try simp
         · have hat : L4.map rv ++ [.agg [.w (.int .i64 d),.w (.int .i64 tt),.w (.bool true),.str key,.w (.bool dd),.str val]] = (L4 ++ [(⟨d,tt,true,key,dd,val⟩ : Rec)]).map rv := by rw [List.map_append]; rfl
           have hlm : (L4.map rv).length = L4.length := by simp
           simp only [go_sem,zaa,↓reduceIte,lcT,ty,zaf,zag,zdd,zam,hlr,d4,hs1,e1,ht,Int.toNat_natCast,Bool.not_true,Bool.not_false,hat,hlm,hto,hkr]
           repeat (first | refine And.intro (by omega) ?_ | refine And.intro ⟨by omega,by omega⟩ ?_ | refine And.intro (by decide) ?_)
           refine ⟨rs.length - (i + 1),_,by omega,zab [0,1,2,3,4,5,6,7,8,186] rfl rfl rfl ?_ ?_,i + 1,t,L0,L1,L2,L3,L4 ++ [(⟨d,tt,true,key,dd,val⟩ : Rec)],rfl,by omega,by omega,by simp only [List.length_append,List.length_cons,List.length_nil]; omega,hI,rfl⟩
           · simp only [ssT,zad,zae,setSlot,gOf,AV.ren,renL,Blk.ren,Ax.look,Ax.put,reduceCtorEq,↓reduceIte,Nat.reduceEqDiff,Nat.reduceLT,Nat.reduceAdd,List.length_append,List.length_cons,List.length_nil,Option.some.injEq]; try simp
           · simp only [ssT,zad,zae,setSlot,gOf,AV.ren,renL,Blk.ren,Ax.look,Ax.put,reduceCtorEq,↓reduceIte,Nat.reduceEqDiff,Nat.reduceLT,Nat.reduceAdd,List.length_append,List.length_cons,List.length_nil,Option.some.injEq,zak]; try simp
       | false =>
         have hI : (rs.drop (i + 1)).foldl (stp 5) ((t + 1) % 5,([L0,L1,L2,L3,L4] : List (List Rec)).set t (([L0,L1,L2,L3,L4] : List (List Rec)).getD t [] ++ [⟨d,tt,false,key,dd,val⟩])) = X := hI
         have hcs : t = 0 ∨ t = 1 ∨ t = 2 ∨ t = 3 ∨ t = 4 := by omega
         rcases hcs with rfl | rfl | rfl | rfl | rfl
         · have hw : (((0 : Nat) : Int) + 1 + 9223372036854775808) % 18446744073709551616 - 9223372036854775808 = ((1 : Nat) : Int) := by omega
           have hrt : Int.tmod ((1 : Nat) : Int) 5 = ((1 : Nat) : Int) := rfl
           have hat : L0.map rv ++ [.agg [.w (.int .i64 d),.w (.int .i64 tt),.w (.bool false),.str key,.w (.bool dd),.str val]] = (L0 ++ [(⟨d,tt,false,key,dd,val⟩ : Rec)]).map rv := by rw [List.map_append]; rfl
           have hlm : (L0.map rv).length = L0.length := by simp
           simp only [go_sem,zaa,↓reduceIte,lcT,ty,zaf,zag,zdd,zam,hlr,d4,hs1,e1,ht,Int.toNat_natCast,Bool.not_true,Bool.not_false,hat,hlm,hw,hrt]
           repeat (first | refine And.intro (by omega) ?_ | refine And.intro ⟨by omega,by omega⟩ ?_ | refine And.intro (by decide) ?_)
           refine ⟨rs.length - (i + 1),_,by omega,zab [0,1,2,3,4,186,6,7,8,9] rfl rfl rfl ?_ ?_,i + 1,1,L0 ++ [(⟨d,tt,false,key,dd,val⟩ : Rec)],L1,L2,L3,L4,rfl,by omega,by omega,by simp only [List.length_append,List.length_cons,List.length_nil]; omega,hI,rfl⟩
           · simp only [ssT,zad,zae,setSlot,gOf,AV.ren,renL,Blk.ren,Ax.look,Ax.put,reduceCtorEq,↓reduceIte,Nat.reduceEqDiff,Nat.reduceLT,Nat.reduceAdd,List.length_append,List.length_cons,List.length_nil,Option.some.injEq]; try simp
           · simp only [ssT,zad,zae,setSlot,gOf,AV.ren,renL,Blk.ren,Ax.look,Ax.put,reduceCtorEq,↓reduceIte,Nat.reduceEqDiff,Nat.reduceLT,Nat.reduceAdd,List.length_append,List.length_cons,List.length_nil,Option.some.injEq,zak]; try simp
         · have hw : (((1 : Nat) : Int) + 1 + 9223372036854775808) % 18446744073709551616 - 9223372036854775808 = ((2 : Nat) : Int) := by omega
           have hrt : Int.tmod ((2 : Nat) : Int) 5 = ((2 : Nat) : Int) := rfl
           have hat : L1.map rv ++ [.agg [.w (.int .i64 d),.w (.int .i64 tt),.w (.bool false),.str key,.w (.bool dd),.str val]] = (L1 ++ [(⟨d,tt,false,key,dd,val⟩ : Rec)]).map rv := by rw [List.map_append]; rfl
           have hlm : (L1.map rv).length = L1.length := by simp
           simp only [go_sem,zaa,↓reduceIte,lcT,ty,zaf,zag,zdd,zam,hlr,d4,hs1,e1,ht,Int.toNat_natCast,Bool.not_true,Bool.not_false,hat,hlm,hw,hrt]
           repeat (first | refine And.intro (by omega) ?_ | refine And.intro ⟨by omega,by omega⟩ ?_ | refine And.intro (by decide) ?_)
           refine ⟨rs.length - (i + 1),_,by omega,zab [0,1,2,3,4,5,186,7,8,9] rfl rfl rfl ?_ ?_,i + 1,2,L0,L1 ++ [(⟨d,tt,false,key,dd,val⟩ : Rec)],L2,L3,L4,rfl,by omega,by omega,by simp only [List.length_append,List.length_cons,List.length_nil]; omega,hI,rfl⟩
           · simp only [ssT,zad,zae,setSlot,gOf,AV.ren,renL,Blk.ren,Ax.look,Ax.put,reduceCtorEq,↓reduceIte,Nat.reduceEqDiff,Nat.reduceLT,Nat.reduceAdd,List.length_append,List.length_cons,List.length_nil,Option.some.injEq]; try simp
           · simp only [ssT,zad,zae,setSlot,gOf,AV.ren,renL,Blk.ren,Ax.look,Ax.put,reduceCtorEq,↓reduceIte,Nat.reduceEqDiff,Nat.reduceLT,Nat.reduceAdd,List.length_append,List.length_cons,List.length_nil,Option.some.injEq,zak]; try simp
         · have hw : (((2 : Nat) : Int) + 1 + 9223372036854775808) % 18446744073709551616 - 9223372036854775808 = ((3 : Nat) : Int) := by omega
           have hrt : Int.tmod ((3 : Nat) : Int) 5 = ((3 : Nat) : Int) := rfl
           have hat : L2.map rv ++ [.agg [.w (.int .i64 d),.w (.int .i64 tt),.w (.bool false),.str key,.w (.bool dd),.str val]] = (L2 ++ [(⟨d,tt,false,key,dd,val⟩ : Rec)]).map rv := by rw [List.map_append]; rfl
           have hlm : (L2.map rv).length = L2.length := by simp
           simp only [go_sem,zaa,↓reduceIte,lcT,ty,zaf,zag,zdd,zam,hlr,d4,hs1,e1,ht,Int.toNat_natCast,Bool.not_true,Bool.not_false,hat,hlm,hw,hrt]
           repeat (first | refine And.intro (by omega) ?_ | refine And.intro ⟨by omega,by omega⟩ ?_ | refine And.intro (by decide) ?_)
           refine ⟨rs.length - (i + 1),_,by omega,zab [0,1,2,3,4,5,6,186,8,9] rfl rfl rfl ?_ ?_,i + 1,3,L0,L1,L2 ++ [(⟨d,tt,false,key,dd,val⟩ : Rec)],L3,L4,rfl,by omega,by omega,by simp only [List.length_append,List.length_cons,List.length_nil]; omega,hI,rfl⟩
           · simp only [ssT,zad,zae,setSlot,gOf,AV.ren,renL,Blk.ren,Ax.look,Ax.put,reduceCtorEq,↓reduceIte,Nat.reduceEqDiff,Nat.reduceLT,Nat.reduceAdd,List.length_append,List.length_cons,List.length_nil,Option.some.injEq]; try simp
           · simp only [ssT,zad,zae,setSlot,gOf,AV.ren,renL,Blk.ren,Ax.look,Ax.put,reduceCtorEq,↓reduceIte,Nat.reduceEqDiff,Nat.reduceLT,Nat.reduceAdd,List.length_append,List.length_cons,List.length_nil,Option.some.injEq,zak]; try simp
         · have hw : (((3 : Nat) : Int) + 1 + 9223372036854775808) % 18446744073709551616 - 9223372036854775808 = ((4 : Nat) : Int) := by omega
           have hrt : Int.tmod ((4 : Nat) : Int) 5 = ((4 : Nat) : Int) := rfl
           have hat : L3.map rv ++ [.agg [.w (.int .i64 d),.w (.int .i64 tt),.w (.bool false),.str key,.w (.bool dd),.str val]] = (L3 ++ [(⟨d,tt,false,key,dd,val⟩ : Rec)]).map rv := by rw [List.map_append]; rfl
           have hlm : (L3.map rv).length = L3.length := by simp
           simp only [go_sem,zaa,↓reduceIte,lcT,ty,zaf,zag,zdd,zam,hlr,d4,hs1,e1,ht,Int.toNat_natCast,Bool.not_true,Bool.not_false,hat,hlm,hw,hrt]
           repeat (first | refine And.intro (by omega) ?_ | refine And.intro ⟨by omega,by omega⟩ ?_ | refine And.intro (by decide) ?_)
           refine ⟨rs.length - (i + 1),_,by omega,zab [0,1,2,3,4,5,6,7,186,9] rfl rfl rfl ?_ ?_,i + 1,4,L0,L1,L2,L3 ++ [(⟨d,tt,false,key,dd,val⟩ : Rec)],L4,rfl,by omega,by omega,by simp only [List.length_append,List.length_cons,List.length_nil]; omega,hI,rfl⟩
           · simp only [ssT,zad,zae,setSlot,gOf,AV.ren,renL,Blk.ren,Ax.look,Ax.put,reduceCtorEq,↓reduceIte,Nat.reduceEqDiff,Nat.reduceLT,Nat.reduceAdd,List.length_append,List.length_cons,List.length_nil,Option.some.injEq]; try simp
           · simp only [ssT,zad,zae,setSlot,gOf,AV.ren,renL,Blk.ren,Ax.look,Ax.put,reduceCtorEq,↓reduceIte,Nat.reduceEqDiff,Nat.reduceLT,Nat.reduceAdd,List.length_append,List.length_cons,List.length_nil,Option.some.injEq,zak]; try simp
         · have hw : (((4 : Nat) : Int) + 1 + 9223372036854775808) % 18446744073709551616 - 9223372036854775808 = ((5 : Nat) : Int) := by omega
           have hrt : Int.tmod ((5 : Nat) : Int) 5 = ((0 : Nat) : Int) := rfl
           have hat : L4.map rv ++ [.agg [.w (.int .i64 d),.w (.int .i64 tt),.w (.bool false),.str key,.w (.bool dd),.str val]] = (L4 ++ [(⟨d,tt,false,key,dd,val⟩ : Rec)]).map rv := by rw [List.map_append]; rfl
           have hlm : (L4.map rv).length = L4.length := by simp
           simp only [go_sem,zaa,↓reduceIte,lcT,ty,zaf,zag,zdd,zam,hlr,d4,hs1,e1,ht,Int.toNat_natCast,Bool.not_true,Bool.not_false,hat,hlm,hw,hrt]
           repeat (first | refine And.intro (by omega) ?_ | refine And.intro ⟨by omega,by omega⟩ ?_ | refine And.intro (by decide) ?_)
           refine ⟨rs.length - (i + 1),_,by omega,zab [0,1,2,3,4,5,6,7,8,186] rfl rfl rfl ?_ ?_,i + 1,0,L0,L1,L2,L3,L4 ++ [(⟨d,tt,false,key,dd,val⟩ : Rec)],rfl,by omega,by omega,by simp only [List.length_append,List.length_cons,List.length_nil]; omega,hI,rfl⟩
           · simp only [ssT,zad,zae,setSlot,gOf,AV.ren,renL,Blk.ren,Ax.look,Ax.put,reduceCtorEq,↓reduceIte,Nat.reduceEqDiff,Nat.reduceLT,Nat.reduceAdd,List.length_append,List.length_cons,List.length_nil,Option.some.injEq]; try simp
           · simp only [ssT,zad,zae,setSlot,gOf,AV.ren,renL,Blk.ren,Ax.look,Ax.put,reduceCtorEq,↓reduceIte,Nat.reduceEqDiff,Nat.reduceLT,Nat.reduceAdd,List.length_append,List.length_cons,List.length_nil,Option.some.injEq,zak]; try simp
     · have d4 : decide ((i : Int) < rs.length) = false := decide_eq_false (by omega)
       have hdr : rs.drop i = [] := List.drop_eq_nil_of_le (by omega)
       rw [hdr,List.foldl_nil] at hI
       subst hI
       simp only [go_sem,zaa,↓reduceIte,lcT,ty,zaf,zag,zdd,hlr,d4]
       have hd0 : decide (0 + L0.length ≤ (L0.map rv).length) = true := decide_eq_true (by simp)
       have ht0 : (L0.map rv).take L0.length = L0.map rv := List.take_of_length_le (by simp)
       have hd1 : decide (0 + L1.length ≤ (L1.map rv).length) = true := decide_eq_true (by simp)
       have ht1 : (L1.map rv).take L1.length = L1.map rv := List.take_of_length_le (by simp)
       have hd2 : decide (0 + L2.length ≤ (L2.map rv).length) = true := decide_eq_true (by simp)
       have ht2 : (L2.map rv).take L2.length = L2.map rv := List.take_of_length_le (by simp)
       have hd3 : decide (0 + L3.length ≤ (L3.map rv).length) = true := decide_eq_true (by simp)
       have ht3 : (L3.map rv).take L3.length = L3.map rv := List.take_of_length_le (by simp)
       have hd4 : decide (0 + L4.length ≤ (L4.map rv).length) = true := decide_eq_true (by simp)
       have ht4 : (L4.map rv).take L4.length = L4.map rv := List.take_of_length_le (by simp)
       refine ⟨_,(zav 5 6 9 4 (L0.map rv) (.g 1 [.ms 5 6 0 L0.length,.ms 6 6 0 L1.length,.ms 7 6 0 L2.length,.ms 8 6 0 L3.length,.ms 9 6 0 L4.length]) rfl (zah _) rfl (by simp [slot,AV.ids]) (by simp [Blk.idsB,Blk.closed,closedL,AV.closed,idsL,AV.ids])).trans (by simp only [fgL,fgH,AV.fg,Blk.fg,fgLm,Nat.reduceBEq,cond_true,cond_false,hd0,ht0,Bool.and_true,beq_self_eq_true,Bool.true_and,List.drop_zero]; exact (zav 6 6 9 4 (L1.map rv) (.g 1 [.sg 6 (L0.map rv) false,.ms 6 6 0 L1.length,.ms 7 6 0 L2.length,.ms 8 6 0 L3.length,.ms 9 6 0 L4.length]) rfl (zah _) rfl (by simp [slot,AV.ids]) (by simp [Blk.idsB,Blk.closed,closedL,AV.closed,idsL,AV.ids])).trans (by simp only [fgL,fgH,AV.fg,Blk.fg,fgLm,Nat.reduceBEq,cond_true,cond_false,hd1,ht1,Bool.and_true,beq_self_eq_true,Bool.true_and,List.drop_zero]; exact (zav 7 6 9 4 (L2.map rv) (.g 1 [.sg 6 (L0.map rv) false,.sg 6 (L1.map rv) false,.ms 7 6 0 L2.length,.ms 8 6 0 L3.length,.ms 9 6 0 L4.length]) rfl (zah _) rfl (by simp [slot,AV.ids]) (by simp [Blk.idsB,Blk.closed,closedL,AV.closed,idsL,AV.ids])).trans (by simp only [fgL,fgH,AV.fg,Blk.fg,fgLm,Nat.reduceBEq,cond_true,cond_false,hd2,ht2,Bool.and_true,beq_self_eq_true,Bool.true_and,List.drop_zero]; exact (zav 8 6 9 4 (L3.map rv) (.g 1 [.sg 6 (L0.map rv) false,.sg 6 (L1.map rv) false,.sg 6 (L2.map rv) false,.ms 8 6 0 L3.length,.ms 9 6 0 L4.length]) rfl (zah _) rfl (by simp [slot,AV.ids]) (by simp [Blk.idsB,Blk.closed,closedL,AV.closed,idsL,AV.ids])).trans (by simp only [fgL,fgH,AV.fg,Blk.fg,fgLm,Nat.reduceBEq,cond_true,cond_false,hd3,ht3,Bool.and_true,beq_self_eq_true,Bool.true_and,List.drop_zero]; exact (zav 9 6 9 4 (L4.map rv) (.g 1 [.sg 6 (L0.map rv) false,.sg 6 (L1.map rv) false,.sg 6 (L2.map rv) false,.sg 6 (L3.map rv) false,.ms 9 6 0 L4.length]) rfl (zah _) rfl (by simp [slot,AV.ids]) (by simp [Blk.idsB,Blk.closed,closedL,AV.closed,idsL,AV.ids])).trans (by simp only [fgL,fgH,AV.fg,Blk.fg,fgLm,Nat.reduceBEq,cond_true,cond_false,hd4,ht4,Bool.and_true,beq_self_eq_true,Bool.true_and,List.drop_zero]; exact zez 4 1 9 [.sg 6 (L0.map rv) false,.sg 6 (L1.map rv) false,.sg 6 (L2.map rv) false,.sg 6 (L3.map rv) false,.sg 6 (L4.map rv) false] rfl (by simp only [closedL,AV.closed,zah,Bool.and_self]) (by simp [slot,AV.ids])))))),?_⟩
       simp only [fgL,fgH,AV.fg,Blk.fg,fgLm,Nat.reduceBEq,cond_true,cond_false,hd0,ht0,hd1,ht1,hd2,ht2,hd3,ht3,hd4,ht4,Bool.and_true,beq_self_eq_true,Bool.true_and,List.drop_zero,List.take_succ_cons,List.take_zero,List.length_cons,List.length_nil,Nat.reduceAdd,Nat.reduceLeDiff,decide_true]
       have hml : ∀ L ∈ [L0,L1,L2,L3,L4],L.length ≤ 1000 := by
         intro L hL
         simp only [List.mem_cons,List.not_mem_nil,or_false] at hL
         rcases hL with rfl | rfl | rfl | rfl | rfl <;> omega
       obtain ⟨Ls,hLs⟩ : ∃ Ls : List (List Rec),[L0,L1,L2,L3,L4] = Ls := ⟨_,rfl⟩
       have hsg : [.sg 6 (L0.map rv) false,.sg 6 (L1.map rv) false,.sg 6 (L2.map rv) false,.sg 6 (L3.map rv) false,.sg 6 (L4.map rv) false] = Ls.map sgR := by rw [← hLs]; rfl
       have hPl : Ls.length = 5 := by rw [← hLs]; rfl
       have hbl : [.sg 6 ((nbL 0 L0).map rv) false,.sg 6 ((nbL 0 L1).map rv) false,.sg 6 ((nbL 0 L2).map rv) false,.sg 6 ((nbL 0 L3).map rv) false,.sg 6 ((nbL 0 L4).map rv) false] = Ls.map nbR := by rw [← hLs]; rfl
       rw [hsg,hbl]
       rw [hLs] at hml
       clear hLs hsg hbl hlen
       have hPm : (Ls.map sgR).length = 5 := by rw [List.length_map]; exact hPl
       simp only [go_sem,zaa,↓reduceIte,lcT,ty,zaf,zag,zdd,hPm]
       refine zbe ⟨fun m σ => ∃ j : Nat,m = 5 - j ∧ j ≤ 5 ∧
           ((j = 0 ∧ σ = ⟨[.junk,.junk,.w (.int .i64 t),.fn 13 [.rf 0 1 0 0],.junk,.junk,.junk,.junk,.junk,.junk,.junk,.junk,.junk,.junk,.junk,.junk,.junk,.junk,.junk,.junk,.junk,.junk,.junk,.junk,.junk,.junk,.junk,.junk,.junk,.junk,.junk,.junk,.junk,.junk,.junk,.junk,.junk,.junk,.junk,.junk,.junk,.junk,.junk,.junk,.junk,.junk,.junk,.junk,.junk,.junk,.junk,.sg 1 (Ls.map sgR) false,.w (.int .i64 5),.w (.int .i64 j),.junk,.junk,.junk,.junk,.junk,.junk,.junk,.junk,.junk,.junk,.junk],[(0,.g 1 [.sg 1 [] true])],4⟩) ∨
            (0 < j ∧ σ = ⟨[.junk,.junk,.w (.int .i64 t),.fn 13 [.rf 0 1 0 0],.junk,.junk,.junk,.junk,.junk,.junk,.junk,.junk,.junk,.junk,.junk,.junk,.junk,.junk,.junk,.junk,.junk,.junk,.junk,.junk,.junk,.junk,.junk,.junk,.junk,.junk,.junk,.junk,.junk,.junk,.junk,.junk,.junk,.junk,.junk,.junk,.junk,.junk,.junk,.junk,.junk,.junk,.junk,.junk,.junk,.junk,.junk,.sg 1 (Ls.map sgR) false,.w (.int .i64 5),.w (.int .i64 j),.junk,.junk,.junk,.junk,.junk,.junk,.junk,.junk,.junk,.junk,.junk],[(0,.g 1 [.ms 4 1 0 j]),(4,.g 1 ((Ls.take j).map nbR))],5⟩)),?_,?_⟩
       · refine ⟨_,_,zab [0,1,2,3] rfl rfl rfl ?_ ?_,0,rfl,by omega,.inl ⟨rfl,rfl⟩⟩
         · simp only [ssT,zad,zae,setSlot,gOf,AV.ren,renL,Blk.ren,Ax.look,Ax.put,reduceCtorEq,↓reduceIte,Nat.reduceEqDiff,Nat.reduceLT,Nat.reduceAdd,List.length_append,List.length_cons,List.length_nil,Option.some.injEq,zbj]; try simp
         · simp only [ssT,zad,zae,setSlot,gOf,AV.ren,renL,Blk.ren,Ax.look,Ax.put,reduceCtorEq,↓reduceIte,Nat.reduceEqDiff,Nat.reduceLT,Nat.reduceAdd,List.length_append,List.length_cons,List.length_nil,Option.some.injEq]; try simp
       · rintro m σ ⟨j,rfl,hj,hσ⟩
         have e2 : ((j : Int) + 1 + 9223372036854775808) % 18446744073709551616 - 9223372036854775808 = ((j + 1 : Nat) : Int) := by omega
         by_cases hjl : j < 5
         · have d5 : decide ((j : Int) < 5) = true := decide_eq_true (by omega)
           have hjL : j < Ls.length := by omega
           have hs2 : slot (Ls.map sgR) j = sgR Ls[j] := zba sgR Ls j hjL
           have htk : Ls.take (j + 1) = Ls.take j ++ [Ls[j]] := List.take_succ_eq_append_getElem hjL
           have hm2 := hml Ls[j] (List.getElem_mem hjL)
           obtain ⟨L,hL2⟩ : ∃ L,Ls[j] = L := ⟨_,rfl⟩
           rw [hL2] at hs2 htk hm2
           have hs2 : slot (Ls.map sgR) j = .sg 6 (L.map rv) false := hs2
           have hlm : (L.map rv).length = L.length := by simp
           have hL6 : L.length ≤ 1000000 := by omega
           have hxL : ∃ q : List Rec,L.map rv = q.map rv := ⟨L,rfl⟩
           have hxN : ∃ q : List Rec,(nbL 0 L).map rv = q.map rv := ⟨_,rfl⟩
           have hcL : ∀ f,coe ty 22 (.sg 6 (L.map rv) f) = .sg 6 (L.map rv) f := fun f => by cases L <;> rfl
           have hcN : ∀ f,coe ty 22 (.sg 6 ((nbL 0 L).map rv) f) = .sg 6 ((nbL 0 L).map rv) f := fun f => by cases (nbL 0 L) <;> rfl
           have hat : (Ls.take j).map nbR ++ [.sg 6 ((nbL 0 L).map rv) false] = (Ls.take (j + 1)).map nbR := by rw [htk,List.map_append]; rfl
           have htl : ((Ls.take j).map nbR).length = j := by rw [List.length_map,List.length_take]; omega
           have hcb := zas (Ls.take j)
           have hcb1 := zas (Ls.take (j + 1))
           have hrb1 : ∀ g,renL g ((Ls.take (j + 1)).map nbR) = (Ls.take (j + 1)).map nbR := fun g => renL_closed g _ hcb1
           rcases hσ with ⟨rfl,rfl⟩ | ⟨hj0,rfl⟩
           · simp only [go_sem,zaa,↓reduceIte,lcT,ty,zaf,zag,zdd,hPm,d5,hs2,e2,nmbS,zgz,hlm,hL6,hxL,hxN,hcL,hcN,zaz,zah,Int.toNat_natCast]
             repeat (first | refine And.intro (by omega) ?_ | refine And.intro ⟨by omega,by omega⟩ ?_ | refine And.intro (by decide) ?_)
             have hat0 : (Ls.take (0 + 1)).map nbR = [.sg 6 ((nbL 0 L).map rv) false] := by rw [htk]; rfl
             refine ⟨5 - (0 + 1),_,by omega,zab [0,1,2,3,84] rfl rfl rfl ?_ ?_,0 + 1,rfl,by omega,.inr ⟨by omega,rfl⟩⟩
             · simp only [ssT,zad,zae,setSlot,gOf,AV.ren,renL,Blk.ren,Ax.look,Ax.put,reduceCtorEq,↓reduceIte,Nat.reduceEqDiff,Nat.reduceLT,Nat.reduceAdd,List.length_append,List.length_cons,List.length_nil,Option.some.injEq,zbj]; try simp
             · simp only [ssT,zad,zae,setSlot,gOf,AV.ren,renL,Blk.ren,Ax.look,Ax.put,reduceCtorEq,↓reduceIte,Nat.reduceEqDiff,Nat.reduceLT,Nat.reduceAdd,List.length_append,List.length_cons,List.length_nil,Option.some.injEq,zak,hat0]; try simp [renL,zak]
           · have dj : decide (0 < j) = true := decide_eq_true hj0
             have hj1 : j ≤ 1000 := by omega
             simp only [go_sem,zaa,↓reduceIte,lcT,ty,zaf,zag,zdd,hPm,d5,hs2,e2,nmbS,zgz,hlm,hL6,hxL,hxN,hcL,hcN,zaz,zah,htl,hcb,hcb1,hat,hj0,dj,hj1,cond_true,Int.toNat_natCast]
             repeat (first | refine And.intro (by omega) ?_ | refine And.intro ⟨by omega,by omega⟩ ?_ | refine And.intro (by decide) ?_)
             refine ⟨5 - (j + 1),_,by omega,zab [0,1,2,3,85] rfl rfl rfl ?_ ?_,j + 1,rfl,by omega,.inr ⟨by omega,rfl⟩⟩
             · simp only [ssT,zad,zae,setSlot,gOf,AV.ren,renL,Blk.ren,Ax.look,Ax.put,reduceCtorEq,↓reduceIte,Nat.reduceEqDiff,Nat.reduceLT,Nat.reduceAdd,List.length_append,List.length_cons,List.length_nil,Option.some.injEq,zbj]; try simp
             · simp only [ssT,zad,zae,setSlot,gOf,AV.ren,renL,Blk.ren,Ax.look,Ax.put,reduceCtorEq,↓reduceIte,Nat.reduceEqDiff,Nat.reduceLT,Nat.reduceAdd,List.length_append,List.length_cons,List.length_nil,Option.some.injEq,hrb1]; try simp
         · have d5 : decide ((j : Int) < 5) = false := decide_eq_false (by omega)
           obtain rfl : j = 5 := by omega
           have htk : Ls.take 5 = Ls := List.take_of_length_le (by omega)
           rcases hσ with ⟨h0,_⟩ | ⟨_,rfl⟩
           · omega
           · rw [htk]
             have hcb := zas Ls
             have hrb : ∀ g,renL g (Ls.map nbR) = Ls.map nbR := fun g => renL_closed g _ hcb
             simp only [go_sem,zaa,↓reduceIte,lcT,ty,zaf,zag,zdd,hPm,d5]
             refine ⟨_,Weak.refl _,?_⟩
             simp only [go_sem,zaa,↓reduceIte,lcT,ty,zaf,zag,zdd]
             refine ⟨_,Weak.refl _,?_⟩
             simp only [go_sem,zaa,↓reduceIte,lcT,ty,zaf,zag,zdd,hcb,hrb,cond_true]
 · exact hp.elim
end
end Go.Proofs.Ytdfgfdcfcdgadaa
namespace Go.Proofs.Ytdfgfdcfcdgadaa
open Ax
def zcs : zlh := fun id => match id with
 | 16 => .opn [] 4
 | _ => .std
section
set_option maxRecDepth 100000
set_option maxHeartbeats 32000000 in
theorem ybm : zfr Try.prog 12 (splS 6) := by
 refine zdg (S := zaf) (SO := zag) (T := ty) mixed ty_ok zei zej Try.func12 (c := Try.f12.body.getD .skip) (by kernel_rfl) (fun xs pins hp => ?_)
 unfold splS at hp ⊢
 split at hp
 · rename_i xs f parts turn id
   obtain ⟨rfl,hP,hL,rs,rfl,hk⟩ := hp
   rw [List.length_map] at hL
   have hlr : (rs.map rv).length = rs.length := by simp
   have ht : top = 4294967296 := rfl
   have hP2 : ((clP parts : Nat) : Int) = 6 := by rw [hP]; rfl
   rw [zaz]
   obtain ⟨T0,hT0⟩ : ∃ T,max turn 0 = ((T : Nat) : Int) := ⟨(max turn 0).toNat,by omega⟩
   have hT1 : (max turn 0).toNat = T0 := by omega
   have hmx : (if (0 : Int) > turn then (0 : Int) else turn) = ((T0 : Nat) : Int) := by rw [← hT0]; split <;> omega
   have hrm : Int.tmod ((T0 : Nat) : Int) 6 = ((T0 % 6 : Nat) : Int) := rfl
   rw [hT1]
   obtain ⟨X,hX⟩ : ∃ X,rs.foldl (stp 6) (T0 % 6,[[],[],[],[],[],[]]) = X := ⟨_,rfl⟩
   have hX0 : rs.foldl (stp 6) (T0 % 6,List.replicate 6 []) = X := hX
   rw [hX0]
   refine ⟨by simp,zcs,by kernel_rfl,?_⟩
   unfold Try.f12
   simp only [go_sem,zaa,↓reduceIte,lcT,ty,zaf,zag,zcs,zma,hP2,hlr,hmx,hrm]
   repeat (first | refine And.intro (by decide) ?_ | refine And.intro (by omega) ?_)
   refine zbe ⟨fun m σ => ∃ (i t : Nat) (L0 L1 L2 L3 L4 L5 : List Rec),m = rs.length - i ∧ i ≤ rs.length ∧ t < 6 ∧ (L0.length ≤ i ∧ L1.length ≤ i ∧ L2.length ≤ i ∧ L3.length ≤ i ∧ L4.length ≤ i ∧ L5.length ≤ i) ∧ (rs.drop i).foldl (stp 6) (t,[L0,L1,L2,L3,L4,L5]) = X ∧
       σ = ⟨[.junk,.w (.int .i64 6),.w (.int .i64 t),.fn 13 [.rf 0 1 0 0],.junk,.junk,.junk,.junk,.junk,.ms 4 1 0 6,.junk,.junk,.junk,.junk,.junk,.junk,.junk,.junk,.junk,.junk,.junk,.junk,.junk,.sg 6 (rs.map rv) f,.w (.int .i64 rs.length),.w (.int .i64 i),.junk,.junk,.junk,.junk,.junk,.junk,.junk,.junk,.junk,.junk,.junk,.junk,.junk,.junk,.junk,.junk,.junk,.junk,.junk,.junk,.junk,.junk,.junk,.junk,.junk,.junk,.junk,.junk,.junk,.junk,.junk,.junk,.junk,.junk,.junk,.junk,.junk,.junk,.junk],[(0,.g 1 [.sg 1 [] true]),(4,.g 1 [.ms 5 6 0 L0.length,.ms 6 6 0 L1.length,.ms 7 6 0 L2.length,.ms 8 6 0 L3.length,.ms 9 6 0 L4.length,.ms 10 6 0 L5.length]),(5,.g 6 (L0.map rv)),(6,.g 6 (L1.map rv)),(7,.g 6 (L2.map rv)),(8,.g 6 (L3.map rv)),(9,.g 6 (L4.map rv)),(10,.g 6 (L5.map rv))],11⟩,?_,?_⟩
   · refine ⟨_,_,(zao 84 0 6 [.sg 6 [] true,.sg 6 [] true,.sg 6 [] true,.sg 6 [] true,.sg 6 [] true,.sg 6 [] true] rfl (by simp [AV.leaves]) (by decide) (by exact trivial) (by decide)).trans ((zao 84 1 6 [.ms 124 6 0 0,.sg 6 [] true,.sg 6 [] true,.sg 6 [] true,.sg 6 [] true,.sg 6 [] true] rfl (by simp [AV.leaves]) (by decide) (by exact trivial) (by decide)).trans ((zao 84 2 6 [.ms 124 6 0 0,.ms 125 6 0 0,.sg 6 [] true,.sg 6 [] true,.sg 6 [] true,.sg 6 [] true] rfl (by simp [AV.leaves]) (by decide) (by exact trivial) (by decide)).trans ((zao 84 3 6 [.ms 124 6 0 0,.ms 125 6 0 0,.ms 126 6 0 0,.sg 6 [] true,.sg 6 [] true,.sg 6 [] true] rfl (by simp [AV.leaves]) (by decide) (by exact trivial) (by decide)).trans ((zao 84 4 6 [.ms 124 6 0 0,.ms 125 6 0 0,.ms 126 6 0 0,.ms 127 6 0 0,.sg 6 [] true,.sg 6 [] true] rfl (by simp [AV.leaves]) (by decide) (by exact trivial) (by decide)).trans ((zao 84 5 6 [.ms 124 6 0 0,.ms 125 6 0 0,.ms 126 6 0 0,.ms 127 6 0 0,.ms 128 6 0 0,.sg 6 [] true] rfl (by simp [AV.leaves]) (by decide) (by exact trivial) (by decide)).trans (zab [0,1,2,3,84,124,125,126,127,128,129] rfl rfl rfl ?_ ?_)))))),0,T0 % 6,[],[],[],[],[],[],rfl,by omega,Nat.mod_lt _ (by omega),by simp,by rw [List.drop_zero]; exact hX,rfl⟩
     · simp only [ssT,zad,zae,setSlot,gOf,AV.ren,renL,Blk.ren,Ax.look,Ax.put,reduceCtorEq,↓reduceIte,Nat.reduceEqDiff,Nat.reduceLT,Nat.reduceAdd,List.length_append,List.length_cons,List.length_nil,Option.some.injEq]; try simp
     · simp only [ssT,zad,zae,setSlot,gOf,AV.ren,renL,Blk.ren,Ax.look,Ax.put,reduceCtorEq,↓reduceIte,Nat.reduceEqDiff,Nat.reduceLT,Nat.reduceAdd,List.length_append,List.length_cons,List.length_nil,Option.some.injEq]; try simp [renL]
   · rintro m σ ⟨i,t,L0,L1,L2,L3,L4,L5,rfl,hi,ht3,hlen,hI,rfl⟩
     have e1 : ((i : Int) + 1 + 9223372036854775808) % 18446744073709551616 - 9223372036854775808 = ((i + 1 : Nat) : Int) := by omega
     by_cases hil : i < rs.length
     · have d4 : decide ((i : Int) < rs.length) = true := decide_eq_true (by omega)
       have hs1 := zba rv rs i hil
       have hkr := hk rs[i] (List.getElem_mem hil)
       have hdr : rs.drop i = rs[i] :: rs.drop (i + 1) := List.drop_eq_getElem_cons hil
       obtain ⟨r,hr⟩ : ∃ r,rs[i] = r := ⟨_,rfl⟩
       rw [hr] at hs1 hdr hkr
       rw [hdr,List.foldl_cons] at hI
       obtain ⟨d,tt,kd,key,dd,val⟩ := r
       simp only [rv] at hs1
       simp only at hkr
       cases kd with
       | true =>
         have hlt := zkl key 6
         have hcl : clP 6 = 6 := by decide
         rw [hcl] at hlt
         obtain ⟨to,hto⟩ : ∃ to,ofP key 6 = to := ⟨_,rfl⟩
         rw [hto] at hlt
         have hI : (rs.drop (i + 1)).foldl (stp 6) (t,([L0,L1,L2,L3,L4,L5] : List (List Rec)).set to (([L0,L1,L2,L3,L4,L5] : List (List Rec)).getD to [] ++ [⟨d,tt,true,key,dd,val⟩])) = X := by
           rw [← hI]; unfold stp; rw [if_pos rfl]; simp only; rw [show ofP key (((6 : Nat)) : Int) = to from hto]
         have hcs : to = 0 ∨ to = 1 ∨ to = 2 ∨ to = 3 ∨ to = 4 ∨ to = 5 := by omega
         rcases hcs with rfl | rfl | rfl | rfl | rfl | rfl
         · have hat : L0.map rv ++ [.agg [.w (.int .i64 d),.w (.int .i64 tt),.w (.bool true),.str key,.w (.bool dd),.str val]] = (L0 ++ [(⟨d,tt,true,key,dd,val⟩ : Rec)]).map rv := by rw [List.map_append]; rfl
           have hlm : (L0.map rv).length = L0.length := by simp
           simp only [go_sem,zaa,↓reduceIte,lcT,ty,zaf,zag,zcs,zam,hlr,d4,hs1,e1,ht,Int.toNat_natCast,Bool.not_true,Bool.not_false,hat,hlm,hto,hkr]
           repeat (first | refine And.intro (by omega) ?_ | refine And.intro ⟨by omega,by omega⟩ ?_ | refine And.intro (by decide) ?_)
           refine ⟨rs.length - (i + 1),_,by omega,zab [0,1,2,3,4,187,6,7,8,9,10] rfl rfl rfl ?_ ?_,i + 1,t,L0 ++ [(⟨d,tt,true,key,dd,val⟩ : Rec)],L1,L2,L3,L4,L5,rfl,by omega,by omega,by simp only [List.length_append,List.length_cons,List.length_nil]; omega,hI,rfl⟩
           · simp only [ssT,zad,zae,setSlot,gOf,AV.ren,renL,Blk.ren,Ax.look,Ax.put,reduceCtorEq,↓reduceIte,Nat.reduceEqDiff,Nat.reduceLT,Nat.reduceAdd,List.length_append,List.length_cons,List.length_nil,Option.some.injEq]; try simp
           · simp only [ssT,zad,zae,setSlot,gOf,AV.ren,renL,Blk.ren,Ax.look,Ax.put,reduceCtorEq,↓reduceIte,Nat.reduceEqDiff,Nat.reduceLT,Nat.reduceAdd,List.length_append,List.length_cons,List.length_nil,Option.some.injEq,zak]; try simp
         · have hat : L1.map rv ++ [.agg [.w (.int .i64 d),.w (.int .i64 tt),.w (.bool true),.str key,.w (.bool dd),.str val]] = (L1 ++ [(⟨d,tt,true,key,dd,val⟩ : Rec)]).map rv := by rw [List.map_append]; rfl
           have hlm : (L1.map rv).length = L1.length := by simp
           simp only [go_sem,zaa,↓reduceIte,lcT,ty,zaf,zag,zcs,zam,hlr,d4,hs1,e1,ht,Int.toNat_natCast,Bool.not_true,Bool.not_false,hat,hlm,hto,hkr]
           repeat (first | refine And.intro (by omega) ?_ | refine And.intro ⟨by omega,by omega⟩ ?_ | refine And.intro (by decide) ?_)
           refine ⟨rs.length - (i + 1),_,by omega,zab [0,1,2,3,4,5,187,7,8,9,10] rfl rfl rfl ?_ ?_,i + 1,t,L0,L1 ++ [(⟨d,tt,true,key,dd,val⟩ : Rec)],L2,L3,L4,L5,rfl,by omega,by omega,by simp only [List.length_append,List.length_cons,List.length_nil]; omega,hI,rfl⟩
           · simp only [ssT,zad,zae,setSlot,gOf,AV.ren,renL,Blk.ren,Ax.look,Ax.put,reduceCtorEq,↓reduceIte,Nat.reduceEqDiff,Nat.reduceLT,Nat.reduceAdd,List.length_append,List.length_cons,List.length_nil,Option.some.injEq]; try simp
           · simp only [ssT,zad,zae,setSlot,gOf,AV.ren,renL,Blk.ren,Ax.look,Ax.put,reduceCtorEq,↓reduceIte,Nat.reduceEqDiff,Nat.reduceLT,Nat.reduceAdd,List.length_append,List.length_cons,List.length_nil,Option.some.injEq,zak]; try simp
         · have hat : L2.map rv ++ [.agg [.w (.int .i64 d),.w (.int .i64 tt),.w (.bool true),.str key,.w (.bool dd),.str val]] = (L2 ++ [(⟨d,tt,true,key,dd,val⟩ : Rec)]).map rv := by rw [List.map_append]; rfl
           have hlm : (L2.map rv).length = L2.length := by simp
           simp only [go_sem,zaa,↓reduceIte,lcT,ty,zaf,zag,zcs,zam,hlr,d4,hs1,e1,ht,Int.toNat_natCast,Bool.not_true,Bool.not_false,hat,hlm,hto,hkr]
           repeat (first | refine And.intro (by omega) ?_ | refine And.intro ⟨by omega,by omega⟩ ?_ | refine And.intro (by decide) ?_)
           refine ⟨rs.length - (i + 1),_,by omega,zab [0,1,2,3,4,5,6,187,8,9,10] rfl rfl rfl ?_ ?_,i + 1,t,L0,L1,L2 ++ [(⟨d,tt,true,key,dd,val⟩ : Rec)],L3,L4,L5,rfl,by omega,by omega,by simp only [List.length_append,List.length_cons,List.length_nil]; omega,hI,rfl⟩
           · simp only [ssT,zad,zae,setSlot,gOf,AV.ren,renL,Blk.ren,Ax.look,Ax.put,reduceCtorEq,↓reduceIte,Nat.reduceEqDiff,Nat.reduceLT,Nat.reduceAdd,List.length_append,List.length_cons,List.length_nil,Option.some.injEq]; try simp
           · simp only [ssT,zad,zae,setSlot,gOf,AV.ren,renL,Blk.ren,Ax.look,Ax.put,reduceCtorEq,↓reduceIte,Nat.reduceEqDiff,Nat.reduceLT,Nat.reduceAdd,List.length_append,List.length_cons,List.length_nil,Option.some.injEq,zak]; try simp
         · have hat : L3.map rv ++ [.agg [.w (.int .i64 d),.w (.int .i64 tt),.w (.bool true),.str key,.w (.bool dd),.str val]] = (L3 ++ [(⟨d,tt,true,key,dd,val⟩ : Rec)]).map rv := by rw [List.map_append]; rfl
           have hlm : (L3.map rv).length = L3.length := by simp
           simp only [go_sem,zaa,↓reduceIte,lcT,ty,zaf,zag,zcs,zam,hlr,d4,hs1,e1,ht,Int.toNat_natCast,Bool.not_true,Bool.not_false,hat,hlm,hto,hkr]
           repeat (first | refine And.intro (by omega) ?_ | refine And.intro ⟨by omega,by omega⟩ ?_ | refine And.intro (by decide) ?_)
           refine ⟨rs.length - (i + 1),_,by omega,zab [0,1,2,3,4,5,6,7,187,9,10] rfl rfl rfl ?_ ?_,i + 1,t,L0,L1,L2,L3 ++ [(⟨d,tt,true,key,dd,val⟩ : Rec)],L4,L5,rfl,by omega,by omega,by simp only [List.length_append,List.length_cons,List.length_nil]; omega,hI,rfl⟩
           · simp only [ssT,zad,zae,setSlot,gOf,AV.ren,renL,Blk.ren,Ax.look,Ax.put,reduceCtorEq,↓reduceIte,Nat.reduceEqDiff,Nat.reduceLT,Nat.reduceAdd,List.length_append,List.length_cons,List.length_nil,Option.some.injEq]; try simp
           · simp only [ssT,zad,zae,setSlot,gOf,AV.ren,renL,Blk.ren,Ax.look,Ax.put,reduceCtorEq,↓reduceIte,Nat.reduceEqDiff,Nat.reduceLT,Nat.reduceAdd,List.length_append,List.length_cons,List.length_nil,Option.some.injEq,zak]; try simp
         · have hat : L4.map rv ++ [.agg [.w (.int .i64 d),.w (.int .i64 tt),.w (.bool true),.str key,.w (.bool dd),.str val]] = (L4 ++ [(⟨d,tt,true,key,dd,val⟩ : Rec)]).map rv := by rw [List.map_append]; rfl
           have hlm : (L4.map rv).length = L4.length := by simp
           simp only [go_sem,zaa,↓reduceIte,lcT,ty,zaf,zag,zcs,zam,hlr,d4,hs1,e1,ht,Int.toNat_natCast,Bool.not_true,Bool.not_false,hat,hlm,hto,hkr]
           repeat (first | refine And.intro (by omega) ?_ | refine And.intro ⟨by omega,by omega⟩ ?_ | refine And.intro (by decide) ?_)
           refine ⟨rs.length - (i + 1),_,by omega,zab [0,1,2,3,4,5,6,7,8,187,10] rfl rfl rfl ?_ ?_,i + 1,t,L0,L1,L2,L3,L4 ++ [(⟨d,tt,true,key,dd,val⟩ : Rec)],L5,rfl,by omega,by omega,by simp only [List.length_append,List.length_cons,List.length_nil]; omega,hI,rfl⟩
           · simp only [ssT,zad,zae,setSlot,gOf,AV.ren,renL,Blk.ren,Ax.look,Ax.put,reduceCtorEq,↓reduceIte,Nat.reduceEqDiff,Nat.reduceLT,Nat.reduceAdd,List.length_append,List.length_cons,List.length_nil,Option.some.injEq]; try simp
           · simp only [ssT,zad,zae,setSlot,gOf,AV.ren,renL,Blk.ren,Ax.look,Ax.put,reduceCtorEq,↓reduceIte,Nat.reduceEqDiff,Nat.reduceLT,Nat.reduceAdd,List.length_append,List.length_cons,List.length_nil,Option.some.injEq,zak]; try simp
         · have hat : L5.map rv ++ [.agg [.w (.int .i64 d),.w (.int .i64 tt),.w (.bool true),.str key,.w (.bool dd),.str val]] = (L5 ++ [(⟨d,tt,true,key,dd,val⟩ : Rec)]).map rv := by rw [List.map_append]; rfl
           have hlm : (L5.map rv).length = L5.length := by simp
           simp only [go_sem,zaa,↓reduceIte,lcT,ty,zaf,zag,zcs,zam,hlr,d4,hs1,e1,ht,Int.toNat_natCast,Bool.not_true,Bool.not_false,hat,hlm,hto,hkr]
           repeat (first | refine And.intro (by omega) ?_ | refine And.intro ⟨by omega,by omega⟩ ?_ | refine And.intro (by decide) ?_)
           refine ⟨rs.length - (i + 1),_,by omega,zab [0,1,2,3,4,5,6,7,8,9,187] rfl rfl rfl ?_ ?_,i + 1,t,L0,L1,L2,L3,L4,L5 ++ [(⟨d,tt,true,key,dd,val⟩ : Rec)],rfl,by omega,by omega,by simp only [List.length_append,List.length_cons,List.length_nil]; omega,hI,rfl⟩
           · simp only [ssT,zad,zae,setSlot,gOf,AV.ren,renL,Blk.ren,Ax.look,Ax.put,reduceCtorEq,↓reduceIte,Nat.reduceEqDiff,Nat.reduceLT,Nat.reduceAdd,List.length_append,List.length_cons,List.length_nil,Option.some.injEq]; try simp
           · simp only [ssT,zad,zae,setSlot,gOf,AV.ren,renL,Blk.ren,Ax.look,Ax.put,reduceCtorEq,↓reduceIte,Nat.reduceEqDiff,Nat.reduceLT,Nat.reduceAdd,List.length_append,List.length_cons,List.length_nil,Option.some.injEq,zak]; try simp
       | false =>
         have hI : (rs.drop (i + 1)).foldl (stp 6) ((t + 1) % 6,([L0,L1,L2,L3,L4,L5] : List (List Rec)).set t (([L0,L1,L2,L3,L4,L5] : List (List Rec)).getD t [] ++ [⟨d,tt,false,key,dd,val⟩])) = X := hI
         have hcs : t = 0 ∨ t = 1 ∨ t = 2 ∨ t = 3 ∨ t = 4 ∨ t = 5 := by omega
         rcases hcs with rfl | rfl | rfl | rfl | rfl | rfl
         · have hw : (((0 : Nat) : Int) + 1 + 9223372036854775808) % 18446744073709551616 - 9223372036854775808 = ((1 : Nat) : Int) := by omega
           have hrt : Int.tmod ((1 : Nat) : Int) 6 = ((1 : Nat) : Int) := rfl
           have hat : L0.map rv ++ [.agg [.w (.int .i64 d),.w (.int .i64 tt),.w (.bool false),.str key,.w (.bool dd),.str val]] = (L0 ++ [(⟨d,tt,false,key,dd,val⟩ : Rec)]).map rv := by rw [List.map_append]; rfl
           have hlm : (L0.map rv).length = L0.length := by simp
           simp only [go_sem,zaa,↓reduceIte,lcT,ty,zaf,zag,zcs,zam,hlr,d4,hs1,e1,ht,Int.toNat_natCast,Bool.not_true,Bool.not_false,hat,hlm,hw,hrt]
           repeat (first | refine And.intro (by omega) ?_ | refine And.intro ⟨by omega,by omega⟩ ?_ | refine And.intro (by decide) ?_)
           refine ⟨rs.length - (i + 1),_,by omega,zab [0,1,2,3,4,187,6,7,8,9,10] rfl rfl rfl ?_ ?_,i + 1,1,L0 ++ [(⟨d,tt,false,key,dd,val⟩ : Rec)],L1,L2,L3,L4,L5,rfl,by omega,by omega,by simp only [List.length_append,List.length_cons,List.length_nil]; omega,hI,rfl⟩
           · simp only [ssT,zad,zae,setSlot,gOf,AV.ren,renL,Blk.ren,Ax.look,Ax.put,reduceCtorEq,↓reduceIte,Nat.reduceEqDiff,Nat.reduceLT,Nat.reduceAdd,List.length_append,List.length_cons,List.length_nil,Option.some.injEq]; try simp
           · simp only [ssT,zad,zae,setSlot,gOf,AV.ren,renL,Blk.ren,Ax.look,Ax.put,reduceCtorEq,↓reduceIte,Nat.reduceEqDiff,Nat.reduceLT,Nat.reduceAdd,List.length_append,List.length_cons,List.length_nil,Option.some.injEq,zak]; try simp
         · have hw : (((1 : Nat) : Int) + 1 + 9223372036854775808) % 18446744073709551616 - 9223372036854775808 = ((2 : Nat) : Int) := by omega
           have hrt : Int.tmod ((2 : Nat) : Int) 6 = ((2 : Nat) : Int) := rfl
           have hat : L1.map rv ++ [.agg [.w (.int .i64 d),.w (.int .i64 tt),.w (.bool false),.str key,.w (.bool dd),.str val]] = (L1 ++ [(⟨d,tt,false,key,dd,val⟩ : Rec)]).map rv := by rw [List.map_append]; rfl
           have hlm : (L1.map rv).length = L1.length := by simp
           simp only [go_sem,zaa,↓reduceIte,lcT,ty,zaf,zag,zcs,zam,hlr,d4,hs1,e1,ht,Int.toNat_natCast,Bool.not_true,Bool.not_false,hat,hlm,hw,hrt]
           repeat (first | refine And.intro (by omega) ?_ | refine And.intro ⟨by omega,by omega⟩ ?_ | refine And.intro (by decide) ?_)
           refine ⟨rs.length - (i + 1),_,by omega,zab [0,1,2,3,4,5,187,7,8,9,10] rfl rfl rfl ?_ ?_,i + 1,2,L0,L1 ++ [(⟨d,tt,false,key,dd,val⟩ : Rec)],L2,L3,L4,L5,rfl,by omega,by omega,by simp only [List.length_append,List.length_cons,List.length_nil]; omega,hI,rfl⟩
           · simp only [ssT,zad,zae,setSlot,gOf,AV.ren,renL,Blk.ren,Ax.look,Ax.put,reduceCtorEq,↓reduceIte,Nat.reduceEqDiff,Nat.reduceLT,Nat.reduceAdd,List.length_append,List.length_cons,List.length_nil,Option.some.injEq]; try simp
           · simp only [ssT,zad,zae,setSlot,gOf,AV.ren,renL,Blk.ren,Ax.look,Ax.put,reduceCtorEq,↓reduceIte,Nat.reduceEqDiff,Nat.reduceLT,Nat.reduceAdd,List.length_append,List.length_cons,List.length_nil,Option.some.injEq,zak]; try simp
         · have hw : (((2 : Nat) : Int) + 1 + 9223372036854775808) % 18446744073709551616 - 9223372036854775808 = ((3 : Nat) : Int) := by omega
           have hrt : Int.tmod ((3 : Nat) : Int) 6 = ((3 : Nat) : Int) := rfl
           have hat : L2.map rv ++ [.agg [.w (.int .i64 d),.w (.int .i64 tt),.w (.bool false),.str key,.w (.bool dd),.str val]] = (L2 ++ [(⟨d,tt,false,key,dd,val⟩ : Rec)]).map rv := by rw [List.map_append]; rfl
           have hlm : (L2.map rv).length = L2.length := by simp
           simp only [go_sem,zaa,↓reduceIte,lcT,ty,zaf,zag,zcs,zam,hlr,d4,hs1,e1,ht,Int.toNat_natCast,Bool.not_true,Bool.not_false,hat,hlm,hw,hrt]
           repeat (first | refine And.intro (by omega) ?_ | refine And.intro ⟨by omega,by omega⟩ ?_ | refine And.intro (by decide) ?_)
           refine ⟨rs.length - (i + 1),_,by omega,zab [0,1,2,3,4,5,6,187,8,9,10] rfl rfl rfl ?_ ?_,i + 1,3,L0,L1,L2 ++ [(⟨d,tt,false,key,dd,val⟩ : Rec)],L3,L4,L5,rfl,by omega,by omega,by simp only [List.length_append,List.length_cons,List.length_nil]; omega,hI,rfl⟩
           · simp only [ssT,zad,zae,setSlot,gOf,AV.ren,renL,Blk.ren,Ax.look,Ax.put,reduceCtorEq,↓reduceIte,Nat.reduceEqDiff,Nat.reduceLT,Nat.reduceAdd,List.length_append,List.length_cons,List.length_nil,Option.some.injEq]; try simp
           · simp only [ssT,zad,zae,setSlot,gOf,AV.ren,renL,Blk.ren,Ax.look,Ax.put,reduceCtorEq,↓reduceIte,Nat.reduceEqDiff,Nat.reduceLT,Nat.reduceAdd,List.length_append,List.length_cons,List.length_nil,Option.some.injEq,zak]; try simp
         · have hw : (((3 : Nat) : Int) + 1 + 9223372036854775808) % 18446744073709551616 - 9223372036854775808 = ((4 : Nat) : Int) := by omega
           have hrt : Int.tmod ((4 : Nat) : Int) 6 = ((4 : Nat) : Int) := rfl
           have hat : L3.map rv ++ [.agg [.w (.int .i64 d),.w (.int .i64 tt),.w (.bool false),.str key,.w (.bool dd),.str val]] = (L3 ++ [(⟨d,tt,false,key,dd,val⟩ : Rec)]).map rv := by rw [List.map_append]; rfl
           have hlm : (L3.map rv).length = L3.length := by simp
           simp only [go_sem,zaa,↓reduceIte,lcT,ty,zaf,zag,zcs,zam,hlr,d4,hs1,e1,ht,Int.toNat_natCast,Bool.not_true,Bool.not_false,hat,hlm,hw,hrt]
           repeat (first | refine And.intro (by omega) ?_ | refine And.intro ⟨by omega,by omega⟩ ?_ | refine And.intro (by decide) ?_)
           refine ⟨rs.length - (i + 1),_,by omega,zab [0,1,2,3,4,5,6,7,187,9,10] rfl rfl rfl ?_ ?_,i + 1,4,L0,L1,L2,L3 ++ [(⟨d,tt,false,key,dd,val⟩ : Rec)],L4,L5,rfl,by omega,by omega,by simp only [List.length_append,List.length_cons,List.length_nil]; omega,hI,rfl⟩
           · simp only [ssT,zad,zae,setSlot,gOf,AV.ren,renL,Blk.ren,Ax.look,Ax.put,reduceCtorEq,↓reduceIte,Nat.reduceEqDiff,Nat.reduceLT,Nat.reduceAdd,List.length_append,List.length_cons,List.length_nil,Option.some.injEq]; try simp
           · simp only [ssT,zad,zae,setSlot,gOf,AV.ren,renL,Blk.ren,Ax.look,Ax.put,reduceCtorEq,↓reduceIte,Nat.reduceEqDiff,Nat.reduceLT,Nat.reduceAdd,List.length_append,List.length_cons,List.length_nil,Option.some.injEq,zak]; try simp
         · have hw : (((4 : Nat) : Int) + 1 + 9223372036854775808) % 18446744073709551616 - 9223372036854775808 = ((5 : Nat) : Int) := by omega
           have hrt : Int.tmod ((5 : Nat) : Int) 6 = ((5 : Nat) : Int) := rfl
           have hat : L4.map rv ++ [.agg [.w (.int .i64 d),.w (.int .i64 tt),.w (.bool false),.str key,.w (.bool dd),.str val]] = (L4 ++ [(⟨d,tt,false,key,dd,val⟩ : Rec)]).map rv := by rw [List.map_append]; rfl
           have hlm : (L4.map rv).length = L4.length := by simp
           simp only [go_sem,zaa,↓reduceIte,lcT,ty,zaf,zag,zcs,zam,hlr,d4,hs1,e1,ht,Int.toNat_natCast,Bool.not_true,Bool.not_false,hat,hlm,hw,hrt]
           repeat (first | refine And.intro (by omega) ?_ | refine And.intro ⟨by omega,by omega⟩ ?_ | refine And.intro (by decide) ?_)
           refine ⟨rs.length - (i + 1),_,by omega,zab [0,1,2,3,4,5,6,7,8,187,10] rfl rfl rfl ?_ ?_,i + 1,5,L0,L1,L2,L3,L4 ++ [(⟨d,tt,false,key,dd,val⟩ : Rec)],L5,rfl,by omega,by omega,by simp only [List.length_append,List.length_cons,List.length_nil]; omega,hI,rfl⟩
           · simp only [ssT,zad,zae,setSlot,gOf,AV.ren,renL,Blk.ren,Ax.look,Ax.put,reduceCtorEq,↓reduceIte,Nat.reduceEqDiff,Nat.reduceLT,Nat.reduceAdd,List.length_append,List.length_cons,List.length_nil,Option.some.injEq]; try simp
           · simp only [ssT,zad,zae,setSlot,gOf,AV.ren,renL,Blk.ren,Ax.look,Ax.put,reduceCtorEq,↓reduceIte,Nat.reduceEqDiff,Nat.reduceLT,Nat.reduceAdd,List.length_append,List.length_cons,List.length_nil,Option.some.injEq,zak]; try simp
         · have hw : (((5 : Nat) : Int) + 1 + 9223372036854775808) % 18446744073709551616 - 9223372036854775808 = ((6 : Nat) : Int) := by omega
           have hrt : Int.tmod ((6 : Nat) : Int) 6 = ((0 : Nat) : Int) := rfl
           have hat : L5.map rv ++ [.agg [.w (.int .i64 d),.w (.int .i64 tt),.w (.bool false),.str key,.w (.bool dd),.str val]] = (L5 ++ [(⟨d,tt,false,key,dd,val⟩ : Rec)]).map rv := by rw [List.map_append]; rfl
           have hlm : (L5.map rv).length = L5.length := by simp
           simp only [go_sem,zaa,↓reduceIte,lcT,ty,zaf,zag,zcs,zam,hlr,d4,hs1,e1,ht,Int.toNat_natCast,Bool.not_true,Bool.not_false,hat,hlm,hw,hrt]
           repeat (first | refine And.intro (by omega) ?_ | refine And.intro ⟨by omega,by omega⟩ ?_ | refine And.intro (by decide) ?_)
           refine ⟨rs.length - (i + 1),_,by omega,zab [0,1,2,3,4,5,6,7,8,9,187] rfl rfl rfl ?_ ?_,i + 1,0,L0,L1,L2,L3,L4,L5 ++ [(⟨d,tt,false,key,dd,val⟩ : Rec)],rfl,by omega,by omega,by simp only [List.length_append,List.length_cons,List.length_nil]; omega,hI,rfl⟩
           · simp only [ssT,zad,zae,setSlot,gOf,AV.ren,renL,Blk.ren,Ax.look,Ax.put,reduceCtorEq,↓reduceIte,Nat.reduceEqDiff,Nat.reduceLT,Nat.reduceAdd,List.length_append,List.length_cons,List.length_nil,Option.some.injEq]; try simp
           · simp only [ssT,zad,zae,setSlot,gOf,AV.ren,renL,Blk.ren,Ax.look,Ax.put,reduceCtorEq,↓reduceIte,Nat.reduceEqDiff,Nat.reduceLT,Nat.reduceAdd,List.length_append,List.length_cons,List.length_nil,Option.some.injEq,zak]; try simp
     · have d4 : decide ((i : Int) < rs.length) = false := decide_eq_false (by omega)
       have hdr : rs.drop i = [] := List.drop_eq_nil_of_le (by omega)
       rw [hdr,List.foldl_nil] at hI
       subst hI
       simp only [go_sem,zaa,↓reduceIte,lcT,ty,zaf,zag,zcs,hlr,d4]
       have hd0 : decide (0 + L0.length ≤ (L0.map rv).length) = true := decide_eq_true (by simp)
       have ht0 : (L0.map rv).take L0.length = L0.map rv := List.take_of_length_le (by simp)
       have hd1 : decide (0 + L1.length ≤ (L1.map rv).length) = true := decide_eq_true (by simp)
       have ht1 : (L1.map rv).take L1.length = L1.map rv := List.take_of_length_le (by simp)
       have hd2 : decide (0 + L2.length ≤ (L2.map rv).length) = true := decide_eq_true (by simp)
       have ht2 : (L2.map rv).take L2.length = L2.map rv := List.take_of_length_le (by simp)
       have hd3 : decide (0 + L3.length ≤ (L3.map rv).length) = true := decide_eq_true (by simp)
       have ht3 : (L3.map rv).take L3.length = L3.map rv := List.take_of_length_le (by simp)
       have hd4 : decide (0 + L4.length ≤ (L4.map rv).length) = true := decide_eq_true (by simp)
       have ht4 : (L4.map rv).take L4.length = L4.map rv := List.take_of_length_le (by simp)
       have hd5 : decide (0 + L5.length ≤ (L5.map rv).length) = true := decide_eq_true (by simp)
       have ht5 : (L5.map rv).take L5.length = L5.map rv := List.take_of_length_le (by simp)
       refine ⟨_,(zav 5 6 9 4 (L0.map rv) (.g 1 [.ms 5 6 0 L0.length,.ms 6 6 0 L1.length,.ms 7 6 0 L2.length,.ms 8 6 0 L3.length,.ms 9 6 0 L4.length,.ms 10 6 0 L5.length]) rfl (zah _) rfl (by simp [slot,AV.ids]) (by simp [Blk.idsB,Blk.closed,closedL,AV.closed,idsL,AV.ids])).trans (by simp only [fgL,fgH,AV.fg,Blk.fg,fgLm,Nat.reduceBEq,cond_true,cond_false,hd0,ht0,Bool.and_true,beq_self_eq_true,Bool.true_and,List.drop_zero]; exact (zav 6 6 9 4 (L1.map rv) (.g 1 [.sg 6 (L0.map rv) false,.ms 6 6 0 L1.length,.ms 7 6 0 L2.length,.ms 8 6 0 L3.length,.ms 9 6 0 L4.length,.ms 10 6 0 L5.length]) rfl (zah _) rfl (by simp [slot,AV.ids]) (by simp [Blk.idsB,Blk.closed,closedL,AV.closed,idsL,AV.ids])).trans (by simp only [fgL,fgH,AV.fg,Blk.fg,fgLm,Nat.reduceBEq,cond_true,cond_false,hd1,ht1,Bool.and_true,beq_self_eq_true,Bool.true_and,List.drop_zero]; exact (zav 7 6 9 4 (L2.map rv) (.g 1 [.sg 6 (L0.map rv) false,.sg 6 (L1.map rv) false,.ms 7 6 0 L2.length,.ms 8 6 0 L3.length,.ms 9 6 0 L4.length,.ms 10 6 0 L5.length]) rfl (zah _) rfl (by simp [slot,AV.ids]) (by simp [Blk.idsB,Blk.closed,closedL,AV.closed,idsL,AV.ids])).trans (by simp only [fgL,fgH,AV.fg,Blk.fg,fgLm,Nat.reduceBEq,cond_true,cond_false,hd2,ht2,Bool.and_true,beq_self_eq_true,Bool.true_and,List.drop_zero]; exact (zav 8 6 9 4 (L3.map rv) (.g 1 [.sg 6 (L0.map rv) false,.sg 6 (L1.map rv) false,.sg 6 (L2.map rv) false,.ms 8 6 0 L3.length,.ms 9 6 0 L4.length,.ms 10 6 0 L5.length]) rfl (zah _) rfl (by simp [slot,AV.ids]) (by simp [Blk.idsB,Blk.closed,closedL,AV.closed,idsL,AV.ids])).trans (by simp only [fgL,fgH,AV.fg,Blk.fg,fgLm,Nat.reduceBEq,cond_true,cond_false,hd3,ht3,Bool.and_true,beq_self_eq_true,Bool.true_and,List.drop_zero]; exact (zav 9 6 9 4 (L4.map rv) (.g 1 [.sg 6 (L0.map rv) false,.sg 6 (L1.map rv) false,.sg 6 (L2.map rv) false,.sg 6 (L3.map rv) false,.ms 9 6 0 L4.length,.ms 10 6 0 L5.length]) rfl (zah _) rfl (by simp [slot,AV.ids]) (by simp [Blk.idsB,Blk.closed,closedL,AV.closed,idsL,AV.ids])).trans (by simp only [fgL,fgH,AV.fg,Blk.fg,fgLm,Nat.reduceBEq,cond_true,cond_false,hd4,ht4,Bool.and_true,beq_self_eq_true,Bool.true_and,List.drop_zero]; exact (zav 10 6 9 4 (L5.map rv) (.g 1 [.sg 6 (L0.map rv) false,.sg 6 (L1.map rv) false,.sg 6 (L2.map rv) false,.sg 6 (L3.map rv) false,.sg 6 (L4.map rv) false,.ms 10 6 0 L5.length]) rfl (zah _) rfl (by simp [slot,AV.ids]) (by simp [Blk.idsB,Blk.closed,closedL,AV.closed,idsL,AV.ids])).trans (by simp only [fgL,fgH,AV.fg,Blk.fg,fgLm,Nat.reduceBEq,cond_true,cond_false,hd5,ht5,Bool.and_true,beq_self_eq_true,Bool.true_and,List.drop_zero]; exact zez 4 1 9 [.sg 6 (L0.map rv) false,.sg 6 (L1.map rv) false,.sg 6 (L2.map rv) false,.sg 6 (L3.map rv) false,.sg 6 (L4.map rv) false,.sg 6 (L5.map rv) false] rfl (by simp only [closedL,AV.closed,zah,Bool.and_self]) (by simp [slot,AV.ids]))))))),?_⟩
       simp only [fgL,fgH,AV.fg,Blk.fg,fgLm,Nat.reduceBEq,cond_true,cond_false,hd0,ht0,hd1,ht1,hd2,ht2,hd3,ht3,hd4,ht4,hd5,ht5,Bool.and_true,beq_self_eq_true,Bool.true_and,List.drop_zero,List.take_succ_cons,List.take_zero,List.length_cons,List.length_nil,Nat.reduceAdd,Nat.reduceLeDiff,decide_true]
       have hml : ∀ L ∈ [L0,L1,L2,L3,L4,L5],L.length ≤ 1000 := by
         intro L hL
         simp only [List.mem_cons,List.not_mem_nil,or_false] at hL
         rcases hL with rfl | rfl | rfl | rfl | rfl | rfl <;> omega
       obtain ⟨Ls,hLs⟩ : ∃ Ls : List (List Rec),[L0,L1,L2,L3,L4,L5] = Ls := ⟨_,rfl⟩
       have hsg : [.sg 6 (L0.map rv) false,.sg 6 (L1.map rv) false,.sg 6 (L2.map rv) false,.sg 6 (L3.map rv) false,.sg 6 (L4.map rv) false,.sg 6 (L5.map rv) false] = Ls.map sgR := by rw [← hLs]; rfl
       have hPl : Ls.length = 6 := by rw [← hLs]; rfl
       have hbl : [.sg 6 ((nbL 0 L0).map rv) false,.sg 6 ((nbL 0 L1).map rv) false,.sg 6 ((nbL 0 L2).map rv) false,.sg 6 ((nbL 0 L3).map rv) false,.sg 6 ((nbL 0 L4).map rv) false,.sg 6 ((nbL 0 L5).map rv) false] = Ls.map nbR := by rw [← hLs]; rfl
       rw [hsg,hbl]
       rw [hLs] at hml
       clear hLs hsg hbl hlen
       have hPm : (Ls.map sgR).length = 6 := by rw [List.length_map]; exact hPl
       simp only [go_sem,zaa,↓reduceIte,lcT,ty,zaf,zag,zcs,hPm]
       refine zbe ⟨fun m σ => ∃ j : Nat,m = 6 - j ∧ j ≤ 6 ∧
           ((j = 0 ∧ σ = ⟨[.junk,.junk,.w (.int .i64 t),.fn 13 [.rf 0 1 0 0],.junk,.junk,.junk,.junk,.junk,.junk,.junk,.junk,.junk,.junk,.junk,.junk,.junk,.junk,.junk,.junk,.junk,.junk,.junk,.junk,.junk,.junk,.junk,.junk,.junk,.junk,.junk,.junk,.junk,.junk,.junk,.junk,.junk,.junk,.junk,.junk,.junk,.junk,.junk,.junk,.junk,.junk,.junk,.junk,.junk,.junk,.junk,.sg 1 (Ls.map sgR) false,.w (.int .i64 6),.w (.int .i64 j),.junk,.junk,.junk,.junk,.junk,.junk,.junk,.junk,.junk,.junk,.junk],[(0,.g 1 [.sg 1 [] true])],4⟩) ∨
            (0 < j ∧ σ = ⟨[.junk,.junk,.w (.int .i64 t),.fn 13 [.rf 0 1 0 0],.junk,.junk,.junk,.junk,.junk,.junk,.junk,.junk,.junk,.junk,.junk,.junk,.junk,.junk,.junk,.junk,.junk,.junk,.junk,.junk,.junk,.junk,.junk,.junk,.junk,.junk,.junk,.junk,.junk,.junk,.junk,.junk,.junk,.junk,.junk,.junk,.junk,.junk,.junk,.junk,.junk,.junk,.junk,.junk,.junk,.junk,.junk,.sg 1 (Ls.map sgR) false,.w (.int .i64 6),.w (.int .i64 j),.junk,.junk,.junk,.junk,.junk,.junk,.junk,.junk,.junk,.junk,.junk],[(0,.g 1 [.ms 4 1 0 j]),(4,.g 1 ((Ls.take j).map nbR))],5⟩)),?_,?_⟩
       · refine ⟨_,_,zab [0,1,2,3] rfl rfl rfl ?_ ?_,0,rfl,by omega,.inl ⟨rfl,rfl⟩⟩
         · simp only [ssT,zad,zae,setSlot,gOf,AV.ren,renL,Blk.ren,Ax.look,Ax.put,reduceCtorEq,↓reduceIte,Nat.reduceEqDiff,Nat.reduceLT,Nat.reduceAdd,List.length_append,List.length_cons,List.length_nil,Option.some.injEq,zbj]; try simp
         · simp only [ssT,zad,zae,setSlot,gOf,AV.ren,renL,Blk.ren,Ax.look,Ax.put,reduceCtorEq,↓reduceIte,Nat.reduceEqDiff,Nat.reduceLT,Nat.reduceAdd,List.length_append,List.length_cons,List.length_nil,Option.some.injEq]; try simp
       · rintro m σ ⟨j,rfl,hj,hσ⟩
         have e2 : ((j : Int) + 1 + 9223372036854775808) % 18446744073709551616 - 9223372036854775808 = ((j + 1 : Nat) : Int) := by omega
         by_cases hjl : j < 6
         · have d5 : decide ((j : Int) < 6) = true := decide_eq_true (by omega)
           have hjL : j < Ls.length := by omega
           have hs2 : slot (Ls.map sgR) j = sgR Ls[j] := zba sgR Ls j hjL
           have htk : Ls.take (j + 1) = Ls.take j ++ [Ls[j]] := List.take_succ_eq_append_getElem hjL
           have hm2 := hml Ls[j] (List.getElem_mem hjL)
           obtain ⟨L,hL2⟩ : ∃ L,Ls[j] = L := ⟨_,rfl⟩
           rw [hL2] at hs2 htk hm2
           have hs2 : slot (Ls.map sgR) j = .sg 6 (L.map rv) false := hs2
           have hlm : (L.map rv).length = L.length := by simp
           have hL6 : L.length ≤ 1000000 := by omega
           have hxL : ∃ q : List Rec,L.map rv = q.map rv := ⟨L,rfl⟩
           have hxN : ∃ q : List Rec,(nbL 0 L).map rv = q.map rv := ⟨_,rfl⟩
           have hcL : ∀ f,coe ty 22 (.sg 6 (L.map rv) f) = .sg 6 (L.map rv) f := fun f => by cases L <;> rfl
           have hcN : ∀ f,coe ty 22 (.sg 6 ((nbL 0 L).map rv) f) = .sg 6 ((nbL 0 L).map rv) f := fun f => by cases (nbL 0 L) <;> rfl
           have hat : (Ls.take j).map nbR ++ [.sg 6 ((nbL 0 L).map rv) false] = (Ls.take (j + 1)).map nbR := by rw [htk,List.map_append]; rfl
           have htl : ((Ls.take j).map nbR).length = j := by rw [List.length_map,List.length_take]; omega
           have hcb := zas (Ls.take j)
           have hcb1 := zas (Ls.take (j + 1))
           have hrb1 : ∀ g,renL g ((Ls.take (j + 1)).map nbR) = (Ls.take (j + 1)).map nbR := fun g => renL_closed g _ hcb1
           rcases hσ with ⟨rfl,rfl⟩ | ⟨hj0,rfl⟩
           · simp only [go_sem,zaa,↓reduceIte,lcT,ty,zaf,zag,zcs,hPm,d5,hs2,e2,nmbS,zgz,hlm,hL6,hxL,hxN,hcL,hcN,zaz,zah,Int.toNat_natCast]
             repeat (first | refine And.intro (by omega) ?_ | refine And.intro ⟨by omega,by omega⟩ ?_ | refine And.intro (by decide) ?_)
             have hat0 : (Ls.take (0 + 1)).map nbR = [.sg 6 ((nbL 0 L).map rv) false] := by rw [htk]; rfl
             refine ⟨6 - (0 + 1),_,by omega,zab [0,1,2,3,84] rfl rfl rfl ?_ ?_,0 + 1,rfl,by omega,.inr ⟨by omega,rfl⟩⟩
             · simp only [ssT,zad,zae,setSlot,gOf,AV.ren,renL,Blk.ren,Ax.look,Ax.put,reduceCtorEq,↓reduceIte,Nat.reduceEqDiff,Nat.reduceLT,Nat.reduceAdd,List.length_append,List.length_cons,List.length_nil,Option.some.injEq,zbj]; try simp
             · simp only [ssT,zad,zae,setSlot,gOf,AV.ren,renL,Blk.ren,Ax.look,Ax.put,reduceCtorEq,↓reduceIte,Nat.reduceEqDiff,Nat.reduceLT,Nat.reduceAdd,List.length_append,List.length_cons,List.length_nil,Option.some.injEq,zak,hat0]; try simp [renL,zak]
           · have dj : decide (0 < j) = true := decide_eq_true hj0
             have hj1 : j ≤ 1000 := by omega
             simp only [go_sem,zaa,↓reduceIte,lcT,ty,zaf,zag,zcs,hPm,d5,hs2,e2,nmbS,zgz,hlm,hL6,hxL,hxN,hcL,hcN,zaz,zah,htl,hcb,hcb1,hat,hj0,dj,hj1,cond_true,Int.toNat_natCast]
             repeat (first | refine And.intro (by omega) ?_ | refine And.intro ⟨by omega,by omega⟩ ?_ | refine And.intro (by decide) ?_)
             refine ⟨6 - (j + 1),_,by omega,zab [0,1,2,3,85] rfl rfl rfl ?_ ?_,j + 1,rfl,by omega,.inr ⟨by omega,rfl⟩⟩
             · simp only [ssT,zad,zae,setSlot,gOf,AV.ren,renL,Blk.ren,Ax.look,Ax.put,reduceCtorEq,↓reduceIte,Nat.reduceEqDiff,Nat.reduceLT,Nat.reduceAdd,List.length_append,List.length_cons,List.length_nil,Option.some.injEq,zbj]; try simp
             · simp only [ssT,zad,zae,setSlot,gOf,AV.ren,renL,Blk.ren,Ax.look,Ax.put,reduceCtorEq,↓reduceIte,Nat.reduceEqDiff,Nat.reduceLT,Nat.reduceAdd,List.length_append,List.length_cons,List.length_nil,Option.some.injEq,hrb1]; try simp
         · have d5 : decide ((j : Int) < 6) = false := decide_eq_false (by omega)
           obtain rfl : j = 6 := by omega
           have htk : Ls.take 6 = Ls := List.take_of_length_le (by omega)
           rcases hσ with ⟨h0,_⟩ | ⟨_,rfl⟩
           · omega
           · rw [htk]
             have hcb := zas Ls
             have hrb : ∀ g,renL g (Ls.map nbR) = Ls.map nbR := fun g => renL_closed g _ hcb
             simp only [go_sem,zaa,↓reduceIte,lcT,ty,zaf,zag,zcs,hPm,d5]
             refine ⟨_,Weak.refl _,?_⟩
             simp only [go_sem,zaa,↓reduceIte,lcT,ty,zaf,zag,zcs]
             refine ⟨_,Weak.refl _,?_⟩
             simp only [go_sem,zaa,↓reduceIte,lcT,ty,zaf,zag,zcs,hcb,hrb,cond_true]
 · exact hp.elim
end
end Go.Proofs.Ytdfgfdcfcdgadaa
namespace Go.Proofs.Ytdfgfdcfcdgadaa
open Ax
def zce : zlh := fun id => match id with
 | 16 => .opn [] 4
 | _ => .std
section
set_option maxRecDepth 100000
set_option maxHeartbeats 32000000 in
theorem ybl : zfr Try.prog 12 (splS 7) := by
 refine zdg (S := zaf) (SO := zag) (T := ty) mixed ty_ok zei zej Try.func12 (c := Try.f12.body.getD .skip) (by kernel_rfl) (fun xs pins hp => ?_)
 unfold splS at hp ⊢
 split at hp
 · rename_i xs f parts turn id
   obtain ⟨rfl,hP,hL,rs,rfl,hk⟩ := hp
   rw [List.length_map] at hL
   have hlr : (rs.map rv).length = rs.length := by simp
   have ht : top = 4294967296 := rfl
   have hP2 : ((clP parts : Nat) : Int) = 7 := by rw [hP]; rfl
   rw [zaz]
   obtain ⟨T0,hT0⟩ : ∃ T,max turn 0 = ((T : Nat) : Int) := ⟨(max turn 0).toNat,by omega⟩
   have hT1 : (max turn 0).toNat = T0 := by omega
   have hmx : (if (0 : Int) > turn then (0 : Int) else turn) = ((T0 : Nat) : Int) := by rw [← hT0]; split <;> omega
   have hrm : Int.tmod ((T0 : Nat) : Int) 7 = ((T0 % 7 : Nat) : Int) := rfl
   rw [hT1]
   obtain ⟨X,hX⟩ : ∃ X,rs.foldl (stp 7) (T0 % 7,[[],[],[],[],[],[],[]]) = X := ⟨_,rfl⟩
   have hX0 : rs.foldl (stp 7) (T0 % 7,List.replicate 7 []) = X := hX
   rw [hX0]
   refine ⟨by simp,zce,by kernel_rfl,?_⟩
   unfold Try.f12
   simp only [go_sem,zaa,↓reduceIte,lcT,ty,zaf,zag,zce,zma,hP2,hlr,hmx,hrm]
   repeat (first | refine And.intro (by decide) ?_ | refine And.intro (by omega) ?_)
   refine zbe ⟨fun m σ => ∃ (i t : Nat) (L0 L1 L2 L3 L4 L5 L6 : List Rec),m = rs.length - i ∧ i ≤ rs.length ∧ t < 7 ∧ (L0.length ≤ i ∧ L1.length ≤ i ∧ L2.length ≤ i ∧ L3.length ≤ i ∧ L4.length ≤ i ∧ L5.length ≤ i ∧ L6.length ≤ i) ∧ (rs.drop i).foldl (stp 7) (t,[L0,L1,L2,L3,L4,L5,L6]) = X ∧
       σ = ⟨[.junk,.w (.int .i64 7),.w (.int .i64 t),.fn 13 [.rf 0 1 0 0],.junk,.junk,.junk,.junk,.junk,.ms 4 1 0 7,.junk,.junk,.junk,.junk,.junk,.junk,.junk,.junk,.junk,.junk,.junk,.junk,.junk,.sg 6 (rs.map rv) f,.w (.int .i64 rs.length),.w (.int .i64 i),.junk,.junk,.junk,.junk,.junk,.junk,.junk,.junk,.junk,.junk,.junk,.junk,.junk,.junk,.junk,.junk,.junk,.junk,.junk,.junk,.junk,.junk,.junk,.junk,.junk,.junk,.junk,.junk,.junk,.junk,.junk,.junk,.junk,.junk,.junk,.junk,.junk,.junk,.junk],[(0,.g 1 [.sg 1 [] true]),(4,.g 1 [.ms 5 6 0 L0.length,.ms 6 6 0 L1.length,.ms 7 6 0 L2.length,.ms 8 6 0 L3.length,.ms 9 6 0 L4.length,.ms 10 6 0 L5.length,.ms 11 6 0 L6.length]),(5,.g 6 (L0.map rv)),(6,.g 6 (L1.map rv)),(7,.g 6 (L2.map rv)),(8,.g 6 (L3.map rv)),(9,.g 6 (L4.map rv)),(10,.g 6 (L5.map rv)),(11,.g 6 (L6.map rv))],12⟩,?_,?_⟩
   · refine ⟨_,_,(zao 84 0 6 [.sg 6 [] true,.sg 6 [] true,.sg 6 [] true,.sg 6 [] true,.sg 6 [] true,.sg 6 [] true,.sg 6 [] true] rfl (by simp [AV.leaves]) (by decide) (by exact trivial) (by decide)).trans ((zao 84 1 6 [.ms 124 6 0 0,.sg 6 [] true,.sg 6 [] true,.sg 6 [] true,.sg 6 [] true,.sg 6 [] true,.sg 6 [] true] rfl (by simp [AV.leaves]) (by decide) (by exact trivial) (by decide)).trans ((zao 84 2 6 [.ms 124 6 0 0,.ms 125 6 0 0,.sg 6 [] true,.sg 6 [] true,.sg 6 [] true,.sg 6 [] true,.sg 6 [] true] rfl (by simp [AV.leaves]) (by decide) (by exact trivial) (by decide)).trans ((zao 84 3 6 [.ms 124 6 0 0,.ms 125 6 0 0,.ms 126 6 0 0,.sg 6 [] true,.sg 6 [] true,.sg 6 [] true,.sg 6 [] true] rfl (by simp [AV.leaves]) (by decide) (by exact trivial) (by decide)).trans ((zao 84 4 6 [.ms 124 6 0 0,.ms 125 6 0 0,.ms 126 6 0 0,.ms 127 6 0 0,.sg 6 [] true,.sg 6 [] true,.sg 6 [] true] rfl (by simp [AV.leaves]) (by decide) (by exact trivial) (by decide)).trans ((zao 84 5 6 [.ms 124 6 0 0,.ms 125 6 0 0,.ms 126 6 0 0,.ms 127 6 0 0,.ms 128 6 0 0,.sg 6 [] true,.sg 6 [] true] rfl (by simp [AV.leaves]) (by decide) (by exact trivial) (by decide)).trans ((zao 84 6 6 [.ms 124 6 0 0,.ms 125 6 0 0,.ms 126 6 0 0,.ms 127 6 0 0,.ms 128 6 0 0,.ms 129 6 0 0,.sg 6 [] true] rfl (by simp [AV.leaves]) (by decide) (by exact trivial) (by decide)).trans (zab [0,1,2,3,84,124,125,126,127,128,129,130] rfl rfl rfl ?_ ?_))))))),0,T0 % 7,[],[],[],[],[],[],[],rfl,by omega,Nat.mod_lt _ (by omega),by simp,by rw [List.drop_zero]; exact hX,rfl⟩
     · simp only [ssT,zad,zae,setSlot,gOf,AV.ren,renL,Blk.ren,Ax.look,Ax.put,reduceCtorEq,↓reduceIte,Nat.reduceEqDiff,Nat.reduceLT,Nat.reduceAdd,List.length_append,List.length_cons,List.length_nil,Option.some.injEq]; try simp
     · simp only [ssT,zad,zae,setSlot,gOf,AV.ren,renL,Blk.ren,Ax.look,Ax.put,reduceCtorEq,↓reduceIte,Nat.reduceEqDiff,Nat.reduceLT,Nat.reduceAdd,List.length_append,List.length_cons,List.length_nil,Option.some.injEq]; try simp [renL]
   · rintro m σ ⟨i,t,L0,L1,L2,L3,L4,L5,L6,rfl,hi,ht3,hlen,hI,rfl⟩
     have e1 : ((i : Int) + 1 + 9223372036854775808) % 18446744073709551616 - 9223372036854775808 = ((i + 1 : Nat) : Int) := by omega
     by_cases hil : i < rs.length
     · have d4 : decide ((i : Int) < rs.length) = true := decide_eq_true (by omega)
       have hs1 := zba rv rs i hil
       have hkr := hk rs[i] (List.getElem_mem hil)
       have hdr : rs.drop i = rs[i] :: rs.drop (i + 1) := List.drop_eq_getElem_cons hil
       obtain ⟨r,hr⟩ : ∃ r,rs[i] = r := ⟨_,rfl⟩
       rw [hr] at hs1 hdr hkr
       rw [hdr,List.foldl_cons] at hI
       obtain ⟨d,tt,kd,key,dd,val⟩ := r
       simp only [rv] at hs1
       simp only at hkr
       cases kd with
       | true =>
         have hlt := zkl key 7
         have hcl : clP 7 = 7 := by decide
         rw [hcl] at hlt
         obtain ⟨to,hto⟩ : ∃ to,ofP key 7 = to := ⟨_,rfl⟩
         rw [hto] at hlt
         have hI : (rs.drop (i + 1)).foldl (stp 7) (t,([L0,L1,L2,L3,L4,L5,L6] : List (List Rec)).set to (([L0,L1,L2,L3,L4,L5,L6] : List (List Rec)).getD to [] ++ [⟨d,tt,true,key,dd,val⟩])) = X := by
           rw [← hI]; unfold stp; rw [if_pos rfl]; simp only; rw [show ofP key (((7 : Nat)) : Int) = to from hto]
         have hcs : to = 0 ∨ to = 1 ∨ to = 2 ∨ to = 3 ∨ to = 4 ∨ to = 5 ∨ to = 6 := by omega
         rcases hcs with rfl | rfl | rfl | rfl | rfl | rfl | rfl
         · have hat : L0.map rv ++ [.agg [.w (.int .i64 d),.w (.int .i64 tt),.w (.bool true),.str key,.w (.bool dd),.str val]] = (L0 ++ [(⟨d,tt,true,key,dd,val⟩ : Rec)]).map rv := by rw [List.map_append]; rfl
           have hlm : (L0.map rv).length = L0.length := by simp
           simp only [go_sem,zaa,↓reduceIte,lcT,ty,zaf,zag,zce,zam,hlr,d4,hs1,e1,ht,Int.toNat_natCast,Bool.not_true,Bool.not_false,hat,hlm,hto,hkr]
           repeat (first | refine And.intro (by omega) ?_ | refine And.intro ⟨by omega,by omega⟩ ?_ | refine And.intro (by decide) ?_)
           refine ⟨rs.length - (i + 1),_,by omega,zab [0,1,2,3,4,188,6,7,8,9,10,11] rfl rfl rfl ?_ ?_,i + 1,t,L0 ++ [(⟨d,tt,true,key,dd,val⟩ : Rec)],L1,L2,L3,L4,L5,L6,rfl,by omega,by omega,by simp only [List.length_append,List.length_cons,List.length_nil]; omega,hI,rfl⟩
           · simp only [ssT,zad,zae,setSlot,gOf,AV.ren,renL,Blk.ren,Ax.look,Ax.put,reduceCtorEq,↓reduceIte,Nat.reduceEqDiff,Nat.reduceLT,Nat.reduceAdd,List.length_append,List.length_cons,List.length_nil,Option.some.injEq]; try simp
           · simp only [ssT,zad,zae,setSlot,gOf,AV.ren,renL,Blk.ren,Ax.look,Ax.put,reduceCtorEq,↓reduceIte,Nat.reduceEqDiff,Nat.reduceLT,Nat.reduceAdd,List.length_append,List.length_cons,List.length_nil,Option.some.injEq,zak]; try simp
         · have hat : L1.map rv ++ [.agg [.w (.int .i64 d),.w (.int .i64 tt),.w (.bool true),.str key,.w (.bool dd),.str val]] = (L1 ++ [(⟨d,tt,true,key,dd,val⟩ : Rec)]).map rv := by rw [List.map_append]; rfl
           have hlm : (L1.map rv).length = L1.length := by simp
           simp only [go_sem,zaa,↓reduceIte,lcT,ty,zaf,zag,zce,zam,hlr,d4,hs1,e1,ht,Int.toNat_natCast,Bool.not_true,Bool.not_false,hat,hlm,hto,hkr]
           repeat (first | refine And.intro (by omega) ?_ | refine And.intro ⟨by omega,by omega⟩ ?_ | refine And.intro (by decide) ?_)
           refine ⟨rs.length - (i + 1),_,by omega,zab [0,1,2,3,4,5,188,7,8,9,10,11] rfl rfl rfl ?_ ?_,i + 1,t,L0,L1 ++ [(⟨d,tt,true,key,dd,val⟩ : Rec)],L2,L3,L4,L5,L6,rfl,by omega,by omega,by simp only [List.length_append,List.length_cons,List.length_nil]; omega,hI,rfl⟩
           · simp only [ssT,zad,zae,setSlot,gOf,AV.ren,renL,Blk.ren,Ax.look,Ax.put,reduceCtorEq,↓reduceIte,Nat.reduceEqDiff,Nat.reduceLT,Nat.reduceAdd,List.length_append,List.length_cons,List.length_nil,Option.some.injEq]; try simp
           · simp only [ssT,zad,zae,setSlot,gOf,AV.ren,renL,Blk.ren,Ax.look,Ax.put,reduceCtorEq,↓reduceIte,Nat.reduceEqDiff,Nat.reduceLT,Nat.reduceAdd,List.length_append,List.length_cons,List.length_nil,Option.some.injEq,zak]; try simp
         · have hat : L2.map rv ++ [.agg [.w (.int .i64 d),.w (.int .i64 tt),.w (.bool true),.str key,.w (.bool dd),.str val]] = (L2 ++ [(⟨d,tt,true,key,dd,val⟩ : Rec)]).map rv := by rw [List.map_append]; rfl
           have hlm : (L2.map rv).length = L2.length := by simp
           simp only [go_sem,zaa,↓reduceIte,lcT,ty,zaf,zag,zce,zam,hlr,d4,hs1,e1,ht,Int.toNat_natCast,Bool.not_true,Bool.not_false,hat,hlm,hto,hkr]
           repeat (first | refine And.intro (by omega) ?_ | refine And.intro ⟨by omega,by omega⟩ ?_ | refine And.intro (by decide) ?_)
           refine ⟨rs.length - (i + 1),_,by omega,zab [0,1,2,3,4,5,6,188,8,9,10,11] rfl rfl rfl ?_ ?_,i + 1,t,L0,L1,L2 ++ [(⟨d,tt,true,key,dd,val⟩ : Rec)],L3,L4,L5,L6,rfl,by omega,by omega,by simp only [List.length_append,List.length_cons,List.length_nil]; omega,hI,rfl⟩
           · simp only [ssT,zad,zae,setSlot,gOf,AV.ren,renL,Blk.ren,Ax.look,Ax.put,reduceCtorEq,↓reduceIte,Nat.reduceEqDiff,Nat.reduceLT,Nat.reduceAdd,List.length_append,List.length_cons,List.length_nil,Option.some.injEq]; try simp
           · simp only [ssT,zad,zae,setSlot,gOf,AV.ren,renL,Blk.ren,Ax.look,Ax.put,reduceCtorEq,↓reduceIte,Nat.reduceEqDiff,Nat.reduceLT,Nat.reduceAdd,List.length_append,List.length_cons,List.length_nil,Option.some.injEq,zak]; try simp
         · have hat : L3.map rv ++ [.agg [.w (.int .i64 d),.w (.int .i64 tt),.w (.bool true),.str key,.w (.bool dd),.str val]] = (L3 ++ [(⟨d,tt,true,key,dd,val⟩ : Rec)]).map rv := by rw [List.map_append]; rfl
           have hlm : (L3.map rv).length = L3.length := by simp
           simp only [go_sem,zaa,↓reduceIte,lcT,ty,zaf,zag,zce,zam,hlr,d4,hs1,e1,ht,Int.toNat_natCast,Bool.not_true,Bool.not_false,hat,hlm,hto,hkr]
           repeat (first | refine And.intro (by omega) ?_ | refine And.intro ⟨by omega,by omega⟩ ?_ | refine And.intro (by decide) ?_)
           refine ⟨rs.length - (i + 1),_,by omega,zab [0,1,2,3,4,5,6,7,188,9,10,11] rfl rfl rfl ?_ ?_,i + 1,t,L0,L1,L2,L3 ++ [(⟨d,tt,true,key,dd,val⟩ : Rec)],L4,L5,L6,rfl,by omega,by omega,by simp only [List.length_append,List.length_cons,List.length_nil]; omega,hI,rfl⟩
           · simp only [ssT,zad,zae,setSlot,gOf,AV.ren,renL,Blk.ren,Ax.look,Ax.put,reduceCtorEq,↓reduceIte,Nat.reduceEqDiff,Nat.reduceLT,Nat.reduceAdd,List.length_append,List.length_cons,List.length_nil,Option.some.injEq]; try simp
           · simp only [ssT,zad,zae,setSlot,gOf,AV.ren,renL,Blk.ren,Ax.look,Ax.put,reduceCtorEq,↓reduceIte,Nat.reduceEqDiff,Nat.reduceLT,Nat.reduceAdd,List.length_append,List.length_cons,List.length_nil,Option.some.injEq,zak]; try simp
         · have hat : L4.map rv ++ [.agg [.w (.int .i64 d),.w (.int .i64 tt),.w (.bool true),.str key,.w (.bool dd),.str val]] = (L4 ++ [(⟨d,tt,true,key,dd,val⟩ : Rec)]).map rv := by rw [List.map_append]; rfl
           have hlm : (L4.map rv).length = L4.length := by simp
           simp only [go_sem,zaa,↓reduceIte,lcT,ty,zaf,zag,zce,zam,hlr,d4,hs1,e1,ht,Int.toNat_natCast,Bool.not_true,Bool.not_false,hat,hlm,hto,hkr]
           repeat (first | refine And.intro (by omega) ?_ | refine And.intro ⟨by omega,by omega⟩ ?_ | refine And.intro (by decide) ?_)
           refine ⟨rs.length - (i + 1),_,by omega,zab [0,1,2,3,4,5,6,7,8,188,10,11] rfl rfl rfl ?_ ?_,i + 1,t,L0,L1,L2,L3,L4 ++ [(⟨d,tt,true,key,dd,val⟩ : Rec)],L5,L6,rfl,by omega,by omega,by simp only [List.length_append,List.length_cons,List.length_nil]; omega,hI,rfl⟩
           · simp only [ssT,zad,zae,setSlot,gOf,AV.ren,renL,Blk.ren,Ax.look,Ax.put,reduceCtorEq,↓reduceIte,Nat.reduceEqDiff,Nat.reduceLT,Nat.reduceAdd,List.length_append,List.length_cons,List.length_nil,Option.some.injEq]; try simp
           · simp only [ssT,zad,zae,setSlot,gOf,AV.ren,renL,Blk.ren,Ax.look,Ax.put,reduceCtorEq,↓reduceIte,Nat.reduceEqDiff,Nat.reduceLT,Nat.reduceAdd,List.length_append,List.length_cons,List.length_nil,Option.some.injEq,zak]; try simp
         · have hat : L5.map rv ++ [.agg [.w (.int .i64 d),.w (.int .i64 tt),.w (.bool true),.str key,.w (.bool dd),.str val]] = (L5 ++ [(⟨d,tt,true,key,dd,val⟩ : Rec)]).map rv := by rw [List.map_append]; rfl
           have hlm : (L5.map rv).length = L5.length := by simp
           simp only [go_sem,zaa,↓reduceIte,lcT,ty,zaf,zag,zce,zam,hlr,d4,hs1,e1,ht,Int.toNat_natCast,Bool.not_true,Bool.not_false,hat,hlm,hto,hkr]
           repeat (first | refine And.intro (by omega) ?_ | refine And.intro ⟨by omega,by omega⟩ ?_ | refine And.intro (by decide) ?_)
           refine ⟨rs.length - (i + 1),_,by omega,zab [0,1,2,3,4,5,6,7,8,9,188,11] rfl rfl rfl ?_ ?_,i + 1,t,L0,L1,L2,L3,L4,L5 ++ [(⟨d,tt,true,key,dd,val⟩ : Rec)],L6,rfl,by omega,by omega,by simp only [List.length_append,List.length_cons,List.length_nil]; omega,hI,rfl⟩
           · simp only [ssT,zad,zae,setSlot,gOf,AV.ren,renL,Blk.ren,Ax.look,Ax.put,reduceCtorEq,↓reduceIte,Nat.reduceEqDiff,Nat.reduceLT,Nat.reduceAdd,List.length_append,List.length_cons,List.length_nil,Option.some.injEq]; try simp
           · simp only [ssT,zad,zae,setSlot,gOf,AV.ren,renL,Blk.ren,Ax.look,Ax.put,reduceCtorEq,↓reduceIte,Nat.reduceEqDiff,Nat.reduceLT,Nat.reduceAdd,List.length_append,List.length_cons,List.length_nil,Option.some.injEq,zak]; try simp
         · have hat : L6.map rv ++ [.agg [.w (.int .i64 d),.w (.int .i64 tt),.w (.bool true),.str key,.w (.bool dd),.str val]] = (L6 ++ [(⟨d,tt,true,key,dd,val⟩ : Rec)]).map rv := by rw [List.map_append]; rfl
           have hlm : (L6.map rv).length = L6.length := by simp
           simp only [go_sem,zaa,↓reduceIte,lcT,ty,zaf,zag,zce,zam,hlr,d4,hs1,e1,ht,Int.toNat_natCast,Bool.not_true,Bool.not_false,hat,hlm,hto,hkr]
           repeat (first | refine And.intro (by omega) ?_ | refine And.intro ⟨by omega,by omega⟩ ?_ | refine And.intro (by decide) ?_)
           refine ⟨rs.length - (i + 1),_,by omega,zab [0,1,2,3,4,5,6,7,8,9,10,188] rfl rfl rfl ?_ ?_,i + 1,t,L0,L1,L2,L3,L4,L5,L6 ++ [(⟨d,tt,true,key,dd,val⟩ : Rec)],rfl,by omega,by omega,by simp only [List.length_append,List.length_cons,List.length_nil]; omega,hI,rfl⟩
           · simp only [ssT,zad,zae,setSlot,gOf,AV.ren,renL,Blk.ren,Ax.look,Ax.put,reduceCtorEq,↓reduceIte,Nat.reduceEqDiff,Nat.reduceLT,Nat.reduceAdd,List.length_append,List.length_cons,List.length_nil,Option.some.injEq]; try simp
           · simp only [ssT,zad,zae,setSlot,gOf,AV.ren,renL,Blk.ren,Ax.look,Ax.put,reduceCtorEq,↓reduceIte,Nat.reduceEqDiff,Nat.reduceLT,Nat.reduceAdd,List.length_append,List.length_cons,List.length_nil,Option.some.injEq,zak]; try simp
       | false =>
         have hI : (rs.drop (i + 1)).foldl (stp 7) ((t + 1) % 7,([L0,L1,L2,L3,L4,L5,L6] : List (List Rec)).set t (([L0,L1,L2,L3,L4,L5,L6] : List (List Rec)).getD t [] ++ [⟨d,tt,false,key,dd,val⟩])) = X := hI
         have hcs : t = 0 ∨ t = 1 ∨ t = 2 ∨ t = 3 ∨ t = 4 ∨ t = 5 ∨ t = 6 := by omega
         rcases hcs with rfl | rfl | rfl | rfl | rfl | rfl | rfl
         · have hw : (((0 : Nat) : Int) + 1 + 9223372036854775808) % 18446744073709551616 - 9223372036854775808 = ((1 : Nat) : Int) := by omega
           have hrt : Int.tmod ((1 : Nat) : Int) 7 = ((1 : Nat) : Int) := rfl
           have hat : L0.map rv ++ [.agg [.w (.int .i64 d),.w (.int .i64 tt),.w (.bool false),.str key,.w (.bool dd),.str val]] = (L0 ++ [(⟨d,tt,false,key,dd,val⟩ : Rec)]).map rv := by rw [List.map_append]; rfl
           have hlm : (L0.map rv).length = L0.length := by simp
           simp only [go_sem,zaa,↓reduceIte,lcT,ty,zaf,zag,zce,zam,hlr,d4,hs1,e1,ht,Int.toNat_natCast,Bool.not_true,Bool.not_false,hat,hlm,hw,hrt]
           repeat (first | refine And.intro (by omega) ?_ | refine And.intro ⟨by omega,by omega⟩ ?_ | refine And.intro (by decide) ?_)
           refine ⟨rs.length - (i + 1),_,by omega,zab [0,1,2,3,4,188,6,7,8,9,10,11] rfl rfl rfl ?_ ?_,i + 1,1,L0 ++ [(⟨d,tt,false,key,dd,val⟩ : Rec)],L1,L2,L3,L4,L5,L6,rfl,by omega,by omega,by simp only [List.length_append,List.length_cons,List.length_nil]; omega,hI,rfl⟩
           · simp only [ssT,zad,zae,setSlot,gOf,AV.ren,renL,Blk.ren,Ax.look,Ax.put,reduceCtorEq,↓reduceIte,Nat.reduceEqDiff,Nat.reduceLT,Nat.reduceAdd,List.length_append,List.length_cons,List.length_nil,Option.some.injEq]; try simp
           · simp only [ssT,zad,zae,setSlot,gOf,AV.ren,renL,Blk.ren,Ax.look,Ax.put,reduceCtorEq,↓reduceIte,Nat.reduceEqDiff,Nat.reduceLT,Nat.reduceAdd,List.length_append,List.length_cons,List.length_nil,Option.some.injEq,zak]; try simp
         · have hw : (((1 : Nat) : Int) + 1 + 9223372036854775808) % 18446744073709551616 - 9223372036854775808 = ((2 : Nat) : Int) := by omega
           have hrt : Int.tmod ((2 : Nat) : Int) 7 = ((2 : Nat) : Int) := rfl
           have hat : L1.map rv ++ [.agg [.w (.int .i64 d),.w (.int .i64 tt),.w (.bool false),.str key,.w (.bool dd),.str val]] = (L1 ++ [(⟨d,tt,false,key,dd,val⟩ : Rec)]).map rv := by rw [List.map_append]; rfl
           have hlm : (L1.map rv).length = L1.length := by simp
           simp only [go_sem,zaa,↓reduceIte,lcT,ty,zaf,zag,zce,zam,hlr,d4,hs1,e1,ht,Int.toNat_natCast,Bool.not_true,Bool.not_false,hat,hlm,hw,hrt]
           repeat (first | refine And.intro (by omega) ?_ | refine And.intro ⟨by omega,by omega⟩ ?_ | refine And.intro (by decide) ?_)
           refine ⟨rs.length - (i + 1),_,by omega,zab [0,1,2,3,4,5,188,7,8,9,10,11] rfl rfl rfl ?_ ?_,i + 1,2,L0,L1 ++ [(⟨d,tt,false,key,dd,val⟩ : Rec)],L2,L3,L4,L5,L6,rfl,by omega,by omega,by simp only [List.length_append,List.length_cons,List.length_nil]; omega,hI,rfl⟩
           · simp only [ssT,zad,zae,setSlot,gOf,AV.ren,renL,Blk.ren,Ax.look,Ax.put,reduceCtorEq,↓reduceIte,Nat.reduceEqDiff,Nat.reduceLT,Nat.reduceAdd,List.length_append,List.length_cons,List.length_nil,Option.some.injEq]; try simp
           · simp only [ssT,zad,zae,setSlot,gOf,AV.ren,renL,Blk.ren,Ax.look,Ax.put,reduceCtorEq,↓reduceIte,Nat.reduceEqDiff,Nat.reduceLT,Nat.reduceAdd,List.length_append,List.length_cons,List.length_nil,Option.some.injEq,zak]; try simp
         · have hw : (((2 : Nat) : Int) + 1 + 9223372036854775808) % 18446744073709551616 - 9223372036854775808 = ((3 : Nat) : Int) := by omega
           have hrt : Int.tmod ((3 : Nat) : Int) 7 = ((3 : Nat) : Int) := rfl
           have hat : L2.map rv ++ [.agg [.w (.int .i64 d),.w (.int .i64 tt),.w (.bool false),.str key,.w (.bool dd),.str val]] = (L2 ++ [(⟨d,tt,false,key,dd,val⟩ : Rec)]).map rv := by rw [List.map_append]; rfl
           have hlm : (L2.map rv).length = L2.length := by simp
           simp only [go_sem,zaa,↓reduceIte,lcT,ty,zaf,zag,zce,zam,hlr,d4,hs1,e1,ht,Int.toNat_natCast,Bool.not_true,Bool.not_false,hat,hlm,hw,hrt]
           repeat (first | refine And.intro (by omega) ?_ | refine And.intro ⟨by omega,by omega⟩ ?_ | refine And.intro (by decide) ?_)
           refine ⟨rs.length - (i + 1),_,by omega,zab [0,1,2,3,4,5,6,188,8,9,10,11] rfl rfl rfl ?_ ?_,i + 1,3,L0,L1,L2 ++ [(⟨d,tt,false,key,dd,val⟩ : Rec)],L3,L4,L5,L6,rfl,by omega,by omega,by simp only [List.length_append,List.length_cons,List.length_nil]; omega,hI,rfl⟩
           · simp only [ssT,zad,zae,setSlot,gOf,AV.ren,renL,Blk.ren,Ax.look,Ax.put,reduceCtorEq,↓reduceIte,Nat.reduceEqDiff,Nat.reduceLT,Nat.reduceAdd,List.length_append,List.length_cons,List.length_nil,Option.some.injEq]; try simp
           · simp only [ssT,zad,zae,setSlot,gOf,AV.ren,renL,Blk.ren,Ax.look,Ax.put,reduceCtorEq,↓reduceIte,Nat.reduceEqDiff,Nat.reduceLT,Nat.reduceAdd,List.length_append,List.length_cons,List.length_nil,Option.some.injEq,zak]; try simp
         · have hw : (((3 : Nat) : Int) + 1 + 9223372036854775808) % 18446744073709551616 - 9223372036854775808 = ((4 : Nat) : Int) := by omega
           have hrt : Int.tmod ((4 : Nat) : Int) 7 = ((4 : Nat) : Int) := rfl
           have hat : L3.map rv ++ [.agg [.w (.int .i64 d),.w (.int .i64 tt),.w (.bool false),.str key,.w (.bool dd),.str val]] = (L3 ++ [(⟨d,tt,false,key,dd,val⟩ : Rec)]).map rv := by rw [List.map_append]; rfl
           have hlm : (L3.map rv).length = L3.length := by simp
           simp only [go_sem,zaa,↓reduceIte,lcT,ty,zaf,zag,zce,zam,hlr,d4,hs1,e1,ht,Int.toNat_natCast,Bool.not_true,Bool.not_false,hat,hlm,hw,hrt]
           repeat (first | refine And.intro (by omega) ?_ | refine And.intro ⟨by omega,by omega⟩ ?_ | refine And.intro (by decide) ?_)
           refine ⟨rs.length - (i + 1),_,by omega,zab [0,1,2,3,4,5,6,7,188,9,10,11] rfl rfl rfl ?_ ?_,i + 1,4,L0,L1,L2,L3 ++ [(⟨d,tt,false,key,dd,val⟩ : Rec)],L4,L5,L6,rfl,by omega,by omega,by simp only [List.length_append,List.length_cons,List.length_nil]; omega,hI,rfl⟩
           · simp only [ssT,zad,zae,setSlot,gOf,AV.ren,renL,Blk.ren,Ax.look,Ax.put,reduceCtorEq,↓reduceIte,Nat.reduceEqDiff,Nat.reduceLT,Nat.reduceAdd,List.length_append,List.length_cons,List.length_nil,Option.some.injEq]; try simp
           · simp only [ssT,zad,zae,setSlot,gOf,AV.ren,renL,Blk.ren,Ax.look,Ax.put,reduceCtorEq,↓reduceIte,Nat.reduceEqDiff,Nat.reduceLT,Nat.reduceAdd,List.length_append,List.length_cons,List.length_nil,Option.some.injEq,zak]; try simp
         · have hw : (((4 : Nat) : Int) + 1 + 9223372036854775808) % 18446744073709551616 - 9223372036854775808 = ((5 : Nat) : Int) := by omega
           have hrt : Int.tmod ((5 : Nat) : Int) 7 = ((5 : Nat) : Int) := rfl
           have hat : L4.map rv ++ [.agg [.w (.int .i64 d),.w (.int .i64 tt),.w (.bool false),.str key,.w (.bool dd),.str val]] = (L4 ++ [(⟨d,tt,false,key,dd,val⟩ : Rec)]).map rv := by rw [List.map_append]; rfl
           have hlm : (L4.map rv).length = L4.length := by simp
           simp only [go_sem,zaa,↓reduceIte,lcT,ty,zaf,zag,zce,zam,hlr,d4,hs1,e1,ht,Int.toNat_natCast,Bool.not_true,Bool.not_false,hat,hlm,hw,hrt]
           repeat (first | refine And.intro (by omega) ?_ | refine And.intro ⟨by omega,by omega⟩ ?_ | refine And.intro (by decide) ?_)
           refine ⟨rs.length - (i + 1),_,by omega,zab [0,1,2,3,4,5,6,7,8,188,10,11] rfl rfl rfl ?_ ?_,i + 1,5,L0,L1,L2,L3,L4 ++ [(⟨d,tt,false,key,dd,val⟩ : Rec)],L5,L6,rfl,by omega,by omega,by simp only [List.length_append,List.length_cons,List.length_nil]; omega,hI,rfl⟩
           · simp only [ssT,zad,zae,setSlot,gOf,AV.ren,renL,Blk.ren,Ax.look,Ax.put,reduceCtorEq,↓reduceIte,Nat.reduceEqDiff,Nat.reduceLT,Nat.reduceAdd,List.length_append,List.length_cons,List.length_nil,Option.some.injEq]; try simp
           · simp only [ssT,zad,zae,setSlot,gOf,AV.ren,renL,Blk.ren,Ax.look,Ax.put,reduceCtorEq,↓reduceIte,Nat.reduceEqDiff,Nat.reduceLT,Nat.reduceAdd,List.length_append,List.length_cons,List.length_nil,Option.some.injEq,zak]; try simp
         · have hw : (((5 : Nat) : Int) + 1 + 9223372036854775808) % 18446744073709551616 - 9223372036854775808 = ((6 : Nat) : Int) := by omega
           have hrt : Int.tmod ((6 : Nat) : Int) 7 = ((6 : Nat) : Int) := rfl
           have hat : L5.map rv ++ [.agg [.w (.int .i64 d),.w (.int .i64 tt),.w (.bool false),.str key,.w (.bool dd),.str val]] = (L5 ++ [(⟨d,tt,false,key,dd,val⟩ : Rec)]).map rv := by rw [List.map_append]; rfl
           have hlm : (L5.map rv).length = L5.length := by simp
           simp only [go_sem,zaa,↓reduceIte,lcT,ty,zaf,zag,zce,zam,hlr,d4,hs1,e1,ht,Int.toNat_natCast,Bool.not_true,Bool.not_false,hat,hlm,hw,hrt]
           repeat (first | refine And.intro (by omega) ?_ | refine And.intro ⟨by omega,by omega⟩ ?_ | refine And.intro (by decide) ?_)
           refine ⟨rs.length - (i + 1),_,by omega,zab [0,1,2,3,4,5,6,7,8,9,188,11] rfl rfl rfl ?_ ?_,i + 1,6,L0,L1,L2,L3,L4,L5 ++ [(⟨d,tt,false,key,dd,val⟩ : Rec)],L6,rfl,by omega,by omega,by simp only [List.length_append,List.length_cons,List.length_nil]; omega,hI,rfl⟩
           · simp only [ssT,zad,zae,setSlot,gOf,AV.ren,renL,Blk.ren,Ax.look,Ax.put,reduceCtorEq,↓reduceIte,Nat.reduceEqDiff,Nat.reduceLT,Nat.reduceAdd,List.length_append,List.length_cons,List.length_nil,Option.some.injEq]; try simp
           · simp only [ssT,zad,zae,setSlot,gOf,AV.ren,renL,Blk.ren,Ax.look,Ax.put,reduceCtorEq,↓reduceIte,Nat.reduceEqDiff,Nat.reduceLT,Nat.reduceAdd,List.length_append,List.length_cons,List.length_nil,Option.some.injEq,zak]; try simp
         · have hw : (((6 : Nat) : Int) + 1 + 9223372036854775808) % 18446744073709551616 - 9223372036854775808 = ((7 : Nat) : Int) := by omega
           have hrt : Int.tmod ((7 : Nat) : Int) 7 = ((0 : Nat) : Int) := rfl
           have hat : L6.map rv ++ [.agg [.w (.int .i64 d),.w (.int .i64 tt),.w (.bool false),.str key,.w (.bool dd),.str val]] = (L6 ++ [(⟨d,tt,false,key,dd,val⟩ : Rec)]).map rv := by rw [List.map_append]; rfl
           have hlm : (L6.map rv).length = L6.length := by simp
           simp only [go_sem,zaa,↓reduceIte,lcT,ty,zaf,zag,zce,zam,hlr,d4,hs1,e1,ht,Int.toNat_natCast,Bool.not_true,Bool.not_false,hat,hlm,hw,hrt]
           repeat (first | refine And.intro (by omega) ?_ | refine And.intro ⟨by omega,by omega⟩ ?_ | refine And.intro (by decide) ?_)
           refine ⟨rs.length - (i + 1),_,by omega,zab [0,1,2,3,4,5,6,7,8,9,10,188] rfl rfl rfl ?_ ?_,i + 1,0,L0,L1,L2,L3,L4,L5,L6 ++ [(⟨d,tt,false,key,dd,val⟩ : Rec)],rfl,by omega,by omega,by simp only [List.length_append,List.length_cons,List.length_nil]; omega,hI,rfl⟩
           · simp only [ssT,zad,zae,setSlot,gOf,AV.ren,renL,Blk.ren,Ax.look,Ax.put,reduceCtorEq,↓reduceIte,Nat.reduceEqDiff,Nat.reduceLT,Nat.reduceAdd,List.length_append,List.length_cons,List.length_nil,Option.some.injEq]; try simp
           · simp only [ssT,zad,zae,setSlot,gOf,AV.ren,renL,Blk.ren,Ax.look,Ax.put,reduceCtorEq,↓reduceIte,Nat.reduceEqDiff,Nat.reduceLT,Nat.reduceAdd,List.length_append,List.length_cons,List.length_nil,Option.some.injEq,zak]; try simp
     · have d4 : decide ((i : Int) < rs.length) = false := decide_eq_false (by omega)
       have hdr : rs.drop i = [] := List.drop_eq_nil_of_le (by omega)
       rw [hdr,List.foldl_nil] at hI
       subst hI
       simp only [go_sem,zaa,↓reduceIte,lcT,ty,zaf,zag,zce,hlr,d4]
       have hd0 : decide (0 + L0.length ≤ (L0.map rv).length) = true := decide_eq_true (by simp)
       have ht0 : (L0.map rv).take L0.length = L0.map rv := List.take_of_length_le (by simp)
       have hd1 : decide (0 + L1.length ≤ (L1.map rv).length) = true := decide_eq_true (by simp)
       have ht1 : (L1.map rv).take L1.length = L1.map rv := List.take_of_length_le (by simp)
       have hd2 : decide (0 + L2.length ≤ (L2.map rv).length) = true := decide_eq_true (by simp)
       have ht2 : (L2.map rv).take L2.length = L2.map rv := List.take_of_length_le (by simp)
       have hd3 : decide (0 + L3.length ≤ (L3.map rv).length) = true := decide_eq_true (by simp)
       have ht3 : (L3.map rv).take L3.length = L3.map rv := List.take_of_length_le (by simp)
       have hd4 : decide (0 + L4.length ≤ (L4.map rv).length) = true := decide_eq_true (by simp)
       have ht4 : (L4.map rv).take L4.length = L4.map rv := List.take_of_length_le (by simp)
       have hd5 : decide (0 + L5.length ≤ (L5.map rv).length) = true := decide_eq_true (by simp)
       have ht5 : (L5.map rv).take L5.length = L5.map rv := List.take_of_length_le (by simp)
       have hd6 : decide (0 + L6.length ≤ (L6.map rv).length) = true := decide_eq_true (by simp)
       have ht6 : (L6.map rv).take L6.length = L6.map rv := List.take_of_length_le (by simp)
       refine ⟨_,(zav 5 6 9 4 (L0.map rv) (.g 1 [.ms 5 6 0 L0.length,.ms 6 6 0 L1.length,.ms 7 6 0 L2.length,.ms 8 6 0 L3.length,.ms 9 6 0 L4.length,.ms 10 6 0 L5.length,.ms 11 6 0 L6.length]) rfl (zah _) rfl (by simp [slot,AV.ids]) (by simp [Blk.idsB,Blk.closed,closedL,AV.closed,idsL,AV.ids])).trans (by simp only [fgL,fgH,AV.fg,Blk.fg,fgLm,Nat.reduceBEq,cond_true,cond_false,hd0,ht0,Bool.and_true,beq_self_eq_true,Bool.true_and,List.drop_zero]; exact (zav 6 6 9 4 (L1.map rv) (.g 1 [.sg 6 (L0.map rv) false,.ms 6 6 0 L1.length,.ms 7 6 0 L2.length,.ms 8 6 0 L3.length,.ms 9 6 0 L4.length,.ms 10 6 0 L5.length,.ms 11 6 0 L6.length]) rfl (zah _) rfl (by simp [slot,AV.ids]) (by simp [Blk.idsB,Blk.closed,closedL,AV.closed,idsL,AV.ids])).trans (by simp only [fgL,fgH,AV.fg,Blk.fg,fgLm,Nat.reduceBEq,cond_true,cond_false,hd1,ht1,Bool.and_true,beq_self_eq_true,Bool.true_and,List.drop_zero]; exact (zav 7 6 9 4 (L2.map rv) (.g 1 [.sg 6 (L0.map rv) false,.sg 6 (L1.map rv) false,.ms 7 6 0 L2.length,.ms 8 6 0 L3.length,.ms 9 6 0 L4.length,.ms 10 6 0 L5.length,.ms 11 6 0 L6.length]) rfl (zah _) rfl (by simp [slot,AV.ids]) (by simp [Blk.idsB,Blk.closed,closedL,AV.closed,idsL,AV.ids])).trans (by simp only [fgL,fgH,AV.fg,Blk.fg,fgLm,Nat.reduceBEq,cond_true,cond_false,hd2,ht2,Bool.and_true,beq_self_eq_true,Bool.true_and,List.drop_zero]; exact (zav 8 6 9 4 (L3.map rv) (.g 1 [.sg 6 (L0.map rv) false,.sg 6 (L1.map rv) false,.sg 6 (L2.map rv) false,.ms 8 6 0 L3.length,.ms 9 6 0 L4.length,.ms 10 6 0 L5.length,.ms 11 6 0 L6.length]) rfl (zah _) rfl (by simp [slot,AV.ids]) (by simp [Blk.idsB,Blk.closed,closedL,AV.closed,idsL,AV.ids])).trans (by simp only [fgL,fgH,AV.fg,Blk.fg,fgLm,Nat.reduceBEq,cond_true,cond_false,hd3,ht3,Bool.and_true,beq_self_eq_true,Bool.true_and,List.drop_zero]; exact (zav 9 6 9 4 (L4.map rv) (.g 1 [.sg 6 (L0.map rv) false,.sg 6 (L1.map rv) false,.sg 6 (L2.map rv) false,.sg 6 (L3.map rv) false,.ms 9 6 0 L4.length,.ms 10 6 0 L5.length,.ms 11 6 0 L6.length]) rfl (zah _) rfl (by simp [slot,AV.ids]) (by simp [Blk.idsB,Blk.closed,closedL,AV.closed,idsL,AV.ids])).trans (by simp only [fgL,fgH,AV.fg,Blk.fg,fgLm,Nat.reduceBEq,cond_true,cond_false,hd4,ht4,Bool.and_true,beq_self_eq_true,Bool.true_and,List.drop_zero]; exact (zav 10 6 9 4 (L5.map rv) (.g 1 [.sg 6 (L0.map rv) false,.sg 6 (L1.map rv) false,.sg 6 (L2.map rv) false,.sg 6 (L3.map rv) false,.sg 6 (L4.map rv) false,.ms 10 6 0 L5.length,.ms 11 6 0 L6.length]) rfl (zah _) rfl (by simp [slot,AV.ids]) (by simp [Blk.idsB,Blk.closed,closedL,AV.closed,idsL,AV.ids])).trans (by simp only [fgL,fgH,AV.fg,Blk.fg,fgLm,Nat.reduceBEq,cond_true,cond_false,hd5,ht5,Bool.and_true,beq_self_eq_true,Bool.true_and,List.drop_zero]; exact (zav 11 6 9 4 (L6.map rv) (.g 1 [.sg 6 (L0.map rv) false,.sg 6 (L1.map rv) false,.sg 6 (L2.map rv) false,.sg 6 (L3.map rv) false,.sg 6 (L4.map rv) false,.sg 6 (L5.map rv) false,.ms 11 6 0 L6.length]) rfl (zah _) rfl (by simp [slot,AV.ids]) (by simp [Blk.idsB,Blk.closed,closedL,AV.closed,idsL,AV.ids])).trans (by simp only [fgL,fgH,AV.fg,Blk.fg,fgLm,Nat.reduceBEq,cond_true,cond_false,hd6,ht6,Bool.and_true,beq_self_eq_true,Bool.true_and,List.drop_zero]; exact zez 4 1 9 [.sg 6 (L0.map rv) false,.sg 6 (L1.map rv) false,.sg 6 (L2.map rv) false,.sg 6 (L3.map rv) false,.sg 6 (L4.map rv) false,.sg 6 (L5.map rv) false,.sg 6 (L6.map rv) false] rfl (by simp only [closedL,AV.closed,zah,Bool.and_self]) (by simp [slot,AV.ids])))))))),?_⟩
       simp only [fgL,fgH,AV.fg,Blk.fg,fgLm,Nat.reduceBEq,cond_true,cond_false,hd0,ht0,hd1,ht1,hd2,ht2,hd3,ht3,hd4,ht4,hd5,ht5,hd6,ht6,Bool.and_true,beq_self_eq_true,Bool.true_and,List.drop_zero,List.take_succ_cons,List.take_zero,List.length_cons,List.length_nil,Nat.reduceAdd,Nat.reduceLeDiff,decide_true]
       have hml : ∀ L ∈ [L0,L1,L2,L3,L4,L5,L6],L.length ≤ 1000 := by
         intro L hL
         simp only [List.mem_cons,List.not_mem_nil,or_false] at hL
         rcases hL with rfl | rfl | rfl | rfl | rfl | rfl | rfl <;> omega
       obtain ⟨Ls,hLs⟩ : ∃ Ls : List (List Rec),[L0,L1,L2,L3,L4,L5,L6] = Ls := ⟨_,rfl⟩
       have hsg : [.sg 6 (L0.map rv) false,.sg 6 (L1.map rv) false,.sg 6 (L2.map rv) false,.sg 6 (L3.map rv) false,.sg 6 (L4.map rv) false,.sg 6 (L5.map rv) false,.sg 6 (L6.map rv) false] = Ls.map sgR := by rw [← hLs]; rfl
       have hPl : Ls.length = 7 := by rw [← hLs]; rfl
       have hbl : [.sg 6 ((nbL 0 L0).map rv) false,.sg 6 ((nbL 0 L1).map rv) false,.sg 6 ((nbL 0 L2).map rv) false,.sg 6 ((nbL 0 L3).map rv) false,.sg 6 ((nbL 0 L4).map rv) false,.sg 6 ((nbL 0 L5).map rv) false,.sg 6 ((nbL 0 L6).map rv) false] = Ls.map nbR := by rw [← hLs]; rfl
       rw [hsg,hbl]
       rw [hLs] at hml
       clear hLs hsg hbl hlen
       have hPm : (Ls.map sgR).length = 7 := by rw [List.length_map]; exact hPl
       simp only [go_sem,zaa,↓reduceIte,lcT,ty,zaf,zag,zce,hPm]
       refine zbe ⟨fun m σ => ∃ j : Nat,m = 7 - j ∧ j ≤ 7 ∧
           ((j = 0 ∧ σ = ⟨[.junk,.junk,.w (.int .i64 t),.fn 13 [.rf 0 1 0 0],.junk,.junk,.junk,.junk,.junk,.junk,.junk,.junk,.junk,.junk,.junk,.junk,.junk,.junk,.junk,.junk,.junk,.junk,.junk,.junk,.junk,.junk,.junk,.junk,.junk,.junk,.junk,.junk,.junk,.junk,.junk,.junk,.junk,.junk,.junk,.junk,.junk,.junk,.junk,.junk,.junk,.junk,.junk,.junk,.junk,.junk,.junk,.sg 1 (Ls.map sgR) false,.w (.int .i64 7),.w (.int .i64 j),.junk,.junk,.junk,.junk,.junk,.junk,.junk,.junk,.junk,.junk,.junk],[(0,.g 1 [.sg 1 [] true])],4⟩) ∨
            (0 < j ∧ σ = ⟨[.junk,.junk,.w (.int .i64 t),.fn 13 [.rf 0 1 0 0],.junk,.junk,.junk,.junk,.junk,.junk,.junk,.junk,.junk,.junk,.junk,.junk,.junk,.junk,.junk,.junk,.junk,.junk,.junk,.junk,.junk,.junk,.junk,.junk,.junk,.junk,.junk,.junk,.junk,.junk,.junk,.junk,.junk,.junk,.junk,.junk,.junk,.junk,.junk,.junk,.junk,.junk,.junk,.junk,.junk,.junk,.junk,.sg 1 (Ls.map sgR) false,.w (.int .i64 7),.w (.int .i64 j),.junk,.junk,.junk,.junk,.junk,.junk,.junk,.junk,.junk,.junk,.junk],[(0,.g 1 [.ms 4 1 0 j]),(4,.g 1 ((Ls.take j).map nbR))],5⟩)),?_,?_⟩
       · refine ⟨_,_,zab [0,1,2,3] rfl rfl rfl ?_ ?_,0,rfl,by omega,.inl ⟨rfl,rfl⟩⟩
         · simp only [ssT,zad,zae,setSlot,gOf,AV.ren,renL,Blk.ren,Ax.look,Ax.put,reduceCtorEq,↓reduceIte,Nat.reduceEqDiff,Nat.reduceLT,Nat.reduceAdd,List.length_append,List.length_cons,List.length_nil,Option.some.injEq,zbj]; try simp
         · simp only [ssT,zad,zae,setSlot,gOf,AV.ren,renL,Blk.ren,Ax.look,Ax.put,reduceCtorEq,↓reduceIte,Nat.reduceEqDiff,Nat.reduceLT,Nat.reduceAdd,List.length_append,List.length_cons,List.length_nil,Option.some.injEq]; try simp
       · rintro m σ ⟨j,rfl,hj,hσ⟩
         have e2 : ((j : Int) + 1 + 9223372036854775808) % 18446744073709551616 - 9223372036854775808 = ((j + 1 : Nat) : Int) := by omega
         by_cases hjl : j < 7
         · have d5 : decide ((j : Int) < 7) = true := decide_eq_true (by omega)
           have hjL : j < Ls.length := by omega
           have hs2 : slot (Ls.map sgR) j = sgR Ls[j] := zba sgR Ls j hjL
           have htk : Ls.take (j + 1) = Ls.take j ++ [Ls[j]] := List.take_succ_eq_append_getElem hjL
           have hm2 := hml Ls[j] (List.getElem_mem hjL)
           obtain ⟨L,hL2⟩ : ∃ L,Ls[j] = L := ⟨_,rfl⟩
           rw [hL2] at hs2 htk hm2
           have hs2 : slot (Ls.map sgR) j = .sg 6 (L.map rv) false := hs2
           have hlm : (L.map rv).length = L.length := by simp
           have hL6 : L.length ≤ 1000000 := by omega
           have hxL : ∃ q : List Rec,L.map rv = q.map rv := ⟨L,rfl⟩
           have hxN : ∃ q : List Rec,(nbL 0 L).map rv = q.map rv := ⟨_,rfl⟩
           have hcL : ∀ f,coe ty 22 (.sg 6 (L.map rv) f) = .sg 6 (L.map rv) f := fun f => by cases L <;> rfl
           have hcN : ∀ f,coe ty 22 (.sg 6 ((nbL 0 L).map rv) f) = .sg 6 ((nbL 0 L).map rv) f := fun f => by cases (nbL 0 L) <;> rfl
           have hat : (Ls.take j).map nbR ++ [.sg 6 ((nbL 0 L).map rv) false] = (Ls.take (j + 1)).map nbR := by rw [htk,List.map_append]; rfl
           have htl : ((Ls.take j).map nbR).length = j := by rw [List.length_map,List.length_take]; omega
           have hcb := zas (Ls.take j)
           have hcb1 := zas (Ls.take (j + 1))
           have hrb1 : ∀ g,renL g ((Ls.take (j + 1)).map nbR) = (Ls.take (j + 1)).map nbR := fun g => renL_closed g _ hcb1
           rcases hσ with ⟨rfl,rfl⟩ | ⟨hj0,rfl⟩
           · simp only [go_sem,zaa,↓reduceIte,lcT,ty,zaf,zag,zce,hPm,d5,hs2,e2,nmbS,zgz,hlm,hL6,hxL,hxN,hcL,hcN,zaz,zah,Int.toNat_natCast]
             repeat (first | refine And.intro (by omega) ?_ | refine And.intro ⟨by omega,by omega⟩ ?_ | refine And.intro (by decide) ?_)
             have hat0 : (Ls.take (0 + 1)).map nbR = [.sg 6 ((nbL 0 L).map rv) false] := by rw [htk]; rfl
             refine ⟨7 - (0 + 1),_,by omega,zab [0,1,2,3,84] rfl rfl rfl ?_ ?_,0 + 1,rfl,by omega,.inr ⟨by omega,rfl⟩⟩
             · simp only [ssT,zad,zae,setSlot,gOf,AV.ren,renL,Blk.ren,Ax.look,Ax.put,reduceCtorEq,↓reduceIte,Nat.reduceEqDiff,Nat.reduceLT,Nat.reduceAdd,List.length_append,List.length_cons,List.length_nil,Option.some.injEq,zbj]; try simp
             · simp only [ssT,zad,zae,setSlot,gOf,AV.ren,renL,Blk.ren,Ax.look,Ax.put,reduceCtorEq,↓reduceIte,Nat.reduceEqDiff,Nat.reduceLT,Nat.reduceAdd,List.length_append,List.length_cons,List.length_nil,Option.some.injEq,zak,hat0]; try simp [renL,zak]
           · have dj : decide (0 < j) = true := decide_eq_true hj0
             have hj1 : j ≤ 1000 := by omega
             simp only [go_sem,zaa,↓reduceIte,lcT,ty,zaf,zag,zce,hPm,d5,hs2,e2,nmbS,zgz,hlm,hL6,hxL,hxN,hcL,hcN,zaz,zah,htl,hcb,hcb1,hat,hj0,dj,hj1,cond_true,Int.toNat_natCast]
             repeat (first | refine And.intro (by omega) ?_ | refine And.intro ⟨by omega,by omega⟩ ?_ | refine And.intro (by decide) ?_)
             refine ⟨7 - (j + 1),_,by omega,zab [0,1,2,3,85] rfl rfl rfl ?_ ?_,j + 1,rfl,by omega,.inr ⟨by omega,rfl⟩⟩
             · simp only [ssT,zad,zae,setSlot,gOf,AV.ren,renL,Blk.ren,Ax.look,Ax.put,reduceCtorEq,↓reduceIte,Nat.reduceEqDiff,Nat.reduceLT,Nat.reduceAdd,List.length_append,List.length_cons,List.length_nil,Option.some.injEq,zbj]; try simp
             · simp only [ssT,zad,zae,setSlot,gOf,AV.ren,renL,Blk.ren,Ax.look,Ax.put,reduceCtorEq,↓reduceIte,Nat.reduceEqDiff,Nat.reduceLT,Nat.reduceAdd,List.length_append,List.length_cons,List.length_nil,Option.some.injEq,hrb1]; try simp
         · have d5 : decide ((j : Int) < 7) = false := decide_eq_false (by omega)
           obtain rfl : j = 7 := by omega
           have htk : Ls.take 7 = Ls := List.take_of_length_le (by omega)
           rcases hσ with ⟨h0,_⟩ | ⟨_,rfl⟩
           · omega
           · rw [htk]
             have hcb := zas Ls
             have hrb : ∀ g,renL g (Ls.map nbR) = Ls.map nbR := fun g => renL_closed g _ hcb
             simp only [go_sem,zaa,↓reduceIte,lcT,ty,zaf,zag,zce,hPm,d5]
             refine ⟨_,Weak.refl _,?_⟩
             simp only [go_sem,zaa,↓reduceIte,lcT,ty,zaf,zag,zce]
             refine ⟨_,Weak.refl _,?_⟩
             simp only [go_sem,zaa,↓reduceIte,lcT,ty,zaf,zag,zce,hcb,hrb,cond_true]
 · exact hp.elim
end
end Go.Proofs.Ytdfgfdcfcdgadaa
