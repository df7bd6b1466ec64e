/- What the proofs of this seat stand on; it asks nothing. -/
import Derived.Test.YtdfgfdcfcdgadaaZa10
set_option linter.unusedSimpArgs false
set_option linter.unusedVariables false
namespace Go.Proofs.Ytdfgfdcfcdgadaa
open Ax
def zbu : zlh := fun id => match id with
 | 16 => .opn [] 4
 | _ => .std
section
set_option maxRecDepth 100000
set_option maxHeartbeats 32000000 in
theorem ybk : zfr Try.prog 12 (splS 8) := by
 refine zdg (S := zaf) (SO := zag) (T := ty) mixed ty_ok zei zej Try.func12 (c := Try.f12.body.getD .skip) (by kernel_rfl) (fun xs pins hp => ?_)
 unfold splS at hp ⊢
 split at hp
 · rename_i xs f parts turn id
   obtain ⟨rfl,hP,hL,rs,rfl,hk⟩ := hp
   rw [List.length_map] at hL
   have hlr : (rs.map rv).length = rs.length := by simp
   have ht : top = 4294967296 := rfl
   have hP2 : ((clP parts : Nat) : Int) = 8 := by rw [hP]; rfl
   rw [zaz]
   obtain ⟨T0,hT0⟩ : ∃ T,max turn 0 = ((T : Nat) : Int) := ⟨(max turn 0).toNat,by omega⟩
   have hT1 : (max turn 0).toNat = T0 := by omega
   have hmx : (if (0 : Int) > turn then (0 : Int) else turn) = ((T0 : Nat) : Int) := by rw [← hT0]; split <;> omega
   have hrm : Int.tmod ((T0 : Nat) : Int) 8 = ((T0 % 8 : Nat) : Int) := rfl
   rw [hT1]
   obtain ⟨X,hX⟩ : ∃ X,rs.foldl (stp 8) (T0 % 8,[[],[],[],[],[],[],[],[]]) = X := ⟨_,rfl⟩
   have hX0 : rs.foldl (stp 8) (T0 % 8,List.replicate 8 []) = X := hX
   rw [hX0]
   refine ⟨by simp,zbu,by kernel_rfl,?_⟩
   unfold Try.f12
   simp only [go_sem,zaa,↓reduceIte,lcT,ty,zaf,zag,zbu,zma,hP2,hlr,hmx,hrm]
   repeat (first | refine And.intro (by decide) ?_ | refine And.intro (by omega) ?_)
   refine zbe ⟨fun m σ => ∃ (i t : Nat) (L0 L1 L2 L3 L4 L5 L6 L7 : List Rec),m = rs.length - i ∧ i ≤ rs.length ∧ t < 8 ∧ (L0.length ≤ i ∧ L1.length ≤ i ∧ L2.length ≤ i ∧ L3.length ≤ i ∧ L4.length ≤ i ∧ L5.length ≤ i ∧ L6.length ≤ i ∧ L7.length ≤ i) ∧ (rs.drop i).foldl (stp 8) (t,[L0,L1,L2,L3,L4,L5,L6,L7]) = X ∧
       σ = ⟨[.junk,.w (.int .i64 8),.w (.int .i64 t),.fn 13 [.rf 0 1 0 0],.junk,.junk,.junk,.junk,.junk,.ms 4 1 0 8,.junk,.junk,.junk,.junk,.junk,.junk,.junk,.junk,.junk,.junk,.junk,.junk,.junk,.sg 6 (rs.map rv) f,.w (.int .i64 rs.length),.w (.int .i64 i),.junk,.junk,.junk,.junk,.junk,.junk,.junk,.junk,.junk,.junk,.junk,.junk,.junk,.junk,.junk,.junk,.junk,.junk,.junk,.junk,.junk,.junk,.junk,.junk,.junk,.junk,.junk,.junk,.junk,.junk,.junk,.junk,.junk,.junk,.junk,.junk,.junk,.junk,.junk],[(0,.g 1 [.sg 1 [] true]),(4,.g 1 [.ms 5 6 0 L0.length,.ms 6 6 0 L1.length,.ms 7 6 0 L2.length,.ms 8 6 0 L3.length,.ms 9 6 0 L4.length,.ms 10 6 0 L5.length,.ms 11 6 0 L6.length,.ms 12 6 0 L7.length]),(5,.g 6 (L0.map rv)),(6,.g 6 (L1.map rv)),(7,.g 6 (L2.map rv)),(8,.g 6 (L3.map rv)),(9,.g 6 (L4.map rv)),(10,.g 6 (L5.map rv)),(11,.g 6 (L6.map rv)),(12,.g 6 (L7.map rv))],13⟩,?_,?_⟩
   · refine ⟨_,_,(zao 84 0 6 [.sg 6 [] true,.sg 6 [] true,.sg 6 [] true,.sg 6 [] true,.sg 6 [] true,.sg 6 [] true,.sg 6 [] true,.sg 6 [] true] rfl (by simp [AV.leaves]) (by decide) (by exact trivial) (by decide)).trans ((zao 84 1 6 [.ms 124 6 0 0,.sg 6 [] true,.sg 6 [] true,.sg 6 [] true,.sg 6 [] true,.sg 6 [] true,.sg 6 [] true,.sg 6 [] true] rfl (by simp [AV.leaves]) (by decide) (by exact trivial) (by decide)).trans ((zao 84 2 6 [.ms 124 6 0 0,.ms 125 6 0 0,.sg 6 [] true,.sg 6 [] true,.sg 6 [] true,.sg 6 [] true,.sg 6 [] true,.sg 6 [] true] rfl (by simp [AV.leaves]) (by decide) (by exact trivial) (by decide)).trans ((zao 84 3 6 [.ms 124 6 0 0,.ms 125 6 0 0,.ms 126 6 0 0,.sg 6 [] true,.sg 6 [] true,.sg 6 [] true,.sg 6 [] true,.sg 6 [] true] rfl (by simp [AV.leaves]) (by decide) (by exact trivial) (by decide)).trans ((zao 84 4 6 [.ms 124 6 0 0,.ms 125 6 0 0,.ms 126 6 0 0,.ms 127 6 0 0,.sg 6 [] true,.sg 6 [] true,.sg 6 [] true,.sg 6 [] true] rfl (by simp [AV.leaves]) (by decide) (by exact trivial) (by decide)).trans ((zao 84 5 6 [.ms 124 6 0 0,.ms 125 6 0 0,.ms 126 6 0 0,.ms 127 6 0 0,.ms 128 6 0 0,.sg 6 [] true,.sg 6 [] true,.sg 6 [] true] rfl (by simp [AV.leaves]) (by decide) (by exact trivial) (by decide)).trans ((zao 84 6 6 [.ms 124 6 0 0,.ms 125 6 0 0,.ms 126 6 0 0,.ms 127 6 0 0,.ms 128 6 0 0,.ms 129 6 0 0,.sg 6 [] true,.sg 6 [] true] rfl (by simp [AV.leaves]) (by decide) (by exact trivial) (by decide)).trans ((zao 84 7 6 [.ms 124 6 0 0,.ms 125 6 0 0,.ms 126 6 0 0,.ms 127 6 0 0,.ms 128 6 0 0,.ms 129 6 0 0,.ms 130 6 0 0,.sg 6 [] true] rfl (by simp [AV.leaves]) (by decide) (by exact trivial) (by decide)).trans (zab [0,1,2,3,84,124,125,126,127,128,129,130,131] rfl rfl rfl ?_ ?_)))))))),0,T0 % 8,[],[],[],[],[],[],[],[],rfl,by omega,Nat.mod_lt _ (by omega),by simp,by rw [List.drop_zero]; exact hX,rfl⟩
     · simp only [ssT,zad,zae,setSlot,gOf,AV.ren,renL,Blk.ren,Ax.look,Ax.put,reduceCtorEq,↓reduceIte,Nat.reduceEqDiff,Nat.reduceLT,Nat.reduceAdd,List.length_append,List.length_cons,List.length_nil,Option.some.injEq]; try simp
     · simp only [ssT,zad,zae,setSlot,gOf,AV.ren,renL,Blk.ren,Ax.look,Ax.put,reduceCtorEq,↓reduceIte,Nat.reduceEqDiff,Nat.reduceLT,Nat.reduceAdd,List.length_append,List.length_cons,List.length_nil,Option.some.injEq]; try simp [renL]
   · rintro m σ ⟨i,t,L0,L1,L2,L3,L4,L5,L6,L7,rfl,hi,ht3,hlen,hI,rfl⟩
     have e1 : ((i : Int) + 1 + 9223372036854775808) % 18446744073709551616 - 9223372036854775808 = ((i + 1 : Nat) : Int) := by omega
     by_cases hil : i < rs.length
     · have d4 : decide ((i : Int) < rs.length) = true := decide_eq_true (by omega)
       have hs1 := zba rv rs i hil
       have hkr := hk rs[i] (List.getElem_mem hil)
       have hdr : rs.drop i = rs[i] :: rs.drop (i + 1) := List.drop_eq_getElem_cons hil
       obtain ⟨r,hr⟩ : ∃ r,rs[i] = r := ⟨_,rfl⟩
       rw [hr] at hs1 hdr hkr
       rw [hdr,List.foldl_cons] at hI
       obtain ⟨d,tt,kd,key,dd,val⟩ := r
       simp only [rv] at hs1
       simp only at hkr
       cases kd with
       | true =>
         have hlt := zkl key 8
         have hcl : clP 8 = 8 := by decide
         rw [hcl] at hlt
         obtain ⟨to,hto⟩ : ∃ to,ofP key 8 = to := ⟨_,rfl⟩
         rw [hto] at hlt
         have hI : (rs.drop (i + 1)).foldl (stp 8) (t,([L0,L1,L2,L3,L4,L5,L6,L7] : List (List Rec)).set to (([L0,L1,L2,L3,L4,L5,L6,L7] : List (List Rec)).getD to [] ++ [⟨d,tt,true,key,dd,val⟩])) = X := by
           rw [← hI]; unfold stp; rw [if_pos rfl]; simp only; rw [show ofP key (((8 : Nat)) : Int) = to from hto]
         have hcs : to = 0 ∨ to = 1 ∨ to = 2 ∨ to = 3 ∨ to = 4 ∨ to = 5 ∨ to = 6 ∨ to = 7 := by omega
         rcases hcs with rfl | rfl | rfl | rfl | rfl | rfl | rfl | rfl
         · have hat : L0.map rv ++ [.agg [.w (.int .i64 d),.w (.int .i64 tt),.w (.bool true),.str key,.w (.bool dd),.str val]] = (L0 ++ [(⟨d,tt,true,key,dd,val⟩ : Rec)]).map rv := by rw [List.map_append]; rfl
           have hlm : (L0.map rv).length = L0.length := by simp
           simp only [go_sem,zaa,↓reduceIte,lcT,ty,zaf,zag,zbu,zam,hlr,d4,hs1,e1,ht,Int.toNat_natCast,Bool.not_true,Bool.not_false,hat,hlm,hto,hkr]
           repeat (first | refine And.intro (by omega) ?_ | refine And.intro ⟨by omega,by omega⟩ ?_ | refine And.intro (by decide) ?_)
           refine ⟨rs.length - (i + 1),_,by omega,zab [0,1,2,3,4,189,6,7,8,9,10,11,12] rfl rfl rfl ?_ ?_,i + 1,t,L0 ++ [(⟨d,tt,true,key,dd,val⟩ : Rec)],L1,L2,L3,L4,L5,L6,L7,rfl,by omega,by omega,by simp only [List.length_append,List.length_cons,List.length_nil]; omega,hI,rfl⟩
           · simp only [ssT,zad,zae,setSlot,gOf,AV.ren,renL,Blk.ren,Ax.look,Ax.put,reduceCtorEq,↓reduceIte,Nat.reduceEqDiff,Nat.reduceLT,Nat.reduceAdd,List.length_append,List.length_cons,List.length_nil,Option.some.injEq]; try simp
           · simp only [ssT,zad,zae,setSlot,gOf,AV.ren,renL,Blk.ren,Ax.look,Ax.put,reduceCtorEq,↓reduceIte,Nat.reduceEqDiff,Nat.reduceLT,Nat.reduceAdd,List.length_append,List.length_cons,List.length_nil,Option.some.injEq,zak]; try simp
         · have hat : L1.map rv ++ [.agg [.w (.int .i64 d),.w (.int .i64 tt),.w (.bool true),.str key,.w (.bool dd),.str val]] = (L1 ++ [(⟨d,tt,true,key,dd,val⟩ : Rec)]).map rv := by rw [List.map_append]; rfl
           have hlm : (L1.map rv).length = L1.length := by simp
           simp only [go_sem,zaa,↓reduceIte,lcT,ty,zaf,zag,zbu,zam,hlr,d4,hs1,e1,ht,Int.toNat_natCast,Bool.not_true,Bool.not_false,hat,hlm,hto,hkr]
           repeat (first | refine And.intro (by omega) ?_ | refine And.intro ⟨by omega,by omega⟩ ?_ | refine And.intro (by decide) ?_)
           refine ⟨rs.length - (i + 1),_,by omega,zab [0,1,2,3,4,5,189,7,8,9,10,11,12] rfl rfl rfl ?_ ?_,i + 1,t,L0,L1 ++ [(⟨d,tt,true,key,dd,val⟩ : Rec)],L2,L3,L4,L5,L6,L7,rfl,by omega,by omega,by simp only [List.length_append,List.length_cons,List.length_nil]; omega,hI,rfl⟩
           · simp only [ssT,zad,zae,setSlot,gOf,AV.ren,renL,Blk.ren,Ax.look,Ax.put,reduceCtorEq,↓reduceIte,Nat.reduceEqDiff,Nat.reduceLT,Nat.reduceAdd,List.length_append,List.length_cons,List.length_nil,Option.some.injEq]; try simp
           · simp only [ssT,zad,zae,setSlot,gOf,AV.ren,renL,Blk.ren,Ax.look,Ax.put,reduceCtorEq,↓reduceIte,Nat.reduceEqDiff,Nat.reduceLT,Nat.reduceAdd,List.length_append,List.length_cons,List.length_nil,Option.some.injEq,zak]; try simp
         · have hat : L2.map rv ++ [.agg [.w (.int .i64 d),.w (.int .i64 tt),.w (.bool true),.str key,.w (.bool dd),.str val]] = (L2 ++ [(⟨d,tt,true,key,dd,val⟩ : Rec)]).map rv := by rw [List.map_append]; rfl
           have hlm : (L2.map rv).length = L2.length := by simp
           simp only [go_sem,zaa,↓reduceIte,lcT,ty,zaf,zag,zbu,zam,hlr,d4,hs1,e1,ht,Int.toNat_natCast,Bool.not_true,Bool.not_false,hat,hlm,hto,hkr]
           repeat (first | refine And.intro (by omega) ?_ | refine And.intro ⟨by omega,by omega⟩ ?_ | refine And.intro (by decide) ?_)
           refine ⟨rs.length - (i + 1),_,by omega,zab [0,1,2,3,4,5,6,189,8,9,10,11,12] rfl rfl rfl ?_ ?_,i + 1,t,L0,L1,L2 ++ [(⟨d,tt,true,key,dd,val⟩ : Rec)],L3,L4,L5,L6,L7,rfl,by omega,by omega,by simp only [List.length_append,List.length_cons,List.length_nil]; omega,hI,rfl⟩
           · simp only [ssT,zad,zae,setSlot,gOf,AV.ren,renL,Blk.ren,Ax.look,Ax.put,reduceCtorEq,↓reduceIte,Nat.reduceEqDiff,Nat.reduceLT,Nat.reduceAdd,List.length_append,List.length_cons,List.length_nil,Option.some.injEq]; try simp
           · simp only [ssT,zad,zae,setSlot,gOf,AV.ren,renL,Blk.ren,Ax.look,Ax.put,reduceCtorEq,↓reduceIte,Nat.reduceEqDiff,Nat.reduceLT,Nat.reduceAdd,List.length_append,List.length_cons,List.length_nil,Option.some.injEq,zak]; try simp
         · have hat : L3.map rv ++ [.agg [.w (.int .i64 d),.w (.int .i64 tt),.w (.bool true),.str key,.w (.bool dd),.str val]] = (L3 ++ [(⟨d,tt,true,key,dd,val⟩ : Rec)]).map rv := by rw [List.map_append]; rfl
           have hlm : (L3.map rv).length = L3.length := by simp
           simp only [go_sem,zaa,↓reduceIte,lcT,ty,zaf,zag,zbu,zam,hlr,d4,hs1,e1,ht,Int.toNat_natCast,Bool.not_true,Bool.not_false,hat,hlm,hto,hkr]
           repeat (first | refine And.intro (by omega) ?_ | refine And.intro ⟨by omega,by omega⟩ ?_ | refine And.intro (by decide) ?_)
           refine ⟨rs.length - (i + 1),_,by omega,zab [0,1,2,3,4,5,6,7,189,9,10,11,12] rfl rfl rfl ?_ ?_,i + 1,t,L0,L1,L2,L3 ++ [(⟨d,tt,true,key,dd,val⟩ : Rec)],L4,L5,L6,L7,rfl,by omega,by omega,by simp only [List.length_append,List.length_cons,List.length_nil]; omega,hI,rfl⟩
           · simp only [ssT,zad,zae,setSlot,gOf,AV.ren,renL,Blk.ren,Ax.look,Ax.put,reduceCtorEq,↓reduceIte,Nat.reduceEqDiff,Nat.reduceLT,Nat.reduceAdd,List.length_append,List.length_cons,List.length_nil,Option.some.injEq]; try simp
           · simp only [ssT,zad,zae,setSlot,gOf,AV.ren,renL,Blk.ren,Ax.look,Ax.put,reduceCtorEq,↓reduceIte,Nat.reduceEqDiff,Nat.reduceLT,Nat.reduceAdd,List.length_append,List.length_cons,List.length_nil,Option.some.injEq,zak]; try simp
         · have hat : L4.map rv ++ [.agg [.w (.int .i64 d),.w (.int .i64 tt),.w (.bool true),.str key,.w (.bool dd),.str val]] = (L4 ++ [(⟨d,tt,true,key,dd,val⟩ : Rec)]).map rv := by rw [List.map_append]; rfl
           have hlm : (L4.map rv).length = L4.length := by simp
           simp only [go_sem,zaa,↓reduceIte,lcT,ty,zaf,zag,zbu,zam,hlr,d4,hs1,e1,ht,Int.toNat_natCast,Bool.not_true,Bool.not_false,hat,hlm,hto,hkr]
           repeat (first | refine And.intro (by omega) ?_ | refine And.intro ⟨by omega,by omega⟩ ?_ | refine And.intro (by decide) ?_)
           refine ⟨rs.length - (i + 1),_,by omega,zab [0,1,2,3,4,5,6,7,8,189,10,11,12] rfl rfl rfl ?_ ?_,i + 1,t,L0,L1,L2,L3,L4 ++ [(⟨d,tt,true,key,dd,val⟩ : Rec)],L5,L6,L7,rfl,by omega,by omega,by simp only [List.length_append,List.length_cons,List.length_nil]; omega,hI,rfl⟩
           · simp only [ssT,zad,zae,setSlot,gOf,AV.ren,renL,Blk.ren,Ax.look,Ax.put,reduceCtorEq,↓reduceIte,Nat.reduceEqDiff,Nat.reduceLT,Nat.reduceAdd,List.length_append,List.length_cons,List.length_nil,Option.some.injEq]; try simp
           · simp only [ssT,zad,zae,setSlot,gOf,AV.ren,renL,Blk.ren,Ax.look,Ax.put,reduceCtorEq,↓reduceIte,Nat.reduceEqDiff,Nat.reduceLT,Nat.reduceAdd,List.length_append,List.length_cons,List.length_nil,Option.some.injEq,zak]; try simp
         · have hat : L5.map rv ++ [.agg [.w (.int .i64 d),.w (.int .i64 tt),.w (.bool true),.str key,.w (.bool dd),.str val]] = (L5 ++ [(⟨d,tt,true,key,dd,val⟩ : Rec)]).map rv := by rw [List.map_append]; rfl
           have hlm : (L5.map rv).length = L5.length := by simp
           simp only [go_sem,zaa,↓reduceIte,lcT,ty,zaf,zag,zbu,zam,hlr,d4,hs1,e1,ht,Int.toNat_natCast,Bool.not_true,Bool.not_false,hat,hlm,hto,hkr]
           repeat (first | refine And.intro (by omega) ?_ | refine And.intro ⟨by omega,by omega⟩ ?_ | refine And.intro (by decide) ?_)
           refine ⟨rs.length - (i + 1),_,by omega,zab [0,1,2,3,4,5,6,7,8,9,189,11,12] rfl rfl rfl ?_ ?_,i + 1,t,L0,L1,L2,L3,L4,L5 ++ [(⟨d,tt,true,key,dd,val⟩ : Rec)],L6,L7,rfl,by omega,by omega,by simp only [List.length_append,List.length_cons,List.length_nil]; omega,hI,rfl⟩
           · simp only [ssT,zad,zae,setSlot,gOf,AV.ren,renL,Blk.ren,Ax.look,Ax.put,reduceCtorEq,↓reduceIte,Nat.reduceEqDiff,Nat.reduceLT,Nat.reduceAdd,List.length_append,List.length_cons,List.length_nil,Option.some.injEq]; try simp
           · simp only [ssT,zad,zae,setSlot,gOf,AV.ren,renL,Blk.ren,Ax.look,Ax.put,reduceCtorEq,↓reduceIte,Nat.reduceEqDiff,Nat.reduceLT,Nat.reduceAdd,List.length_append,List.length_cons,List.length_nil,Option.some.injEq,zak]; try simp
         · have hat : L6.map rv ++ [.agg [.w (.int .i64 d),.w (.int .i64 tt),.w (.bool true),.str key,.w (.bool dd),.str val]] = (L6 ++ [(⟨d,tt,true,key,dd,val⟩ : Rec)]).map rv := by rw [List.map_append]; rfl
           have hlm : (L6.map rv).length = L6.length := by simp
           simp only [go_sem,zaa,↓reduceIte,lcT,ty,zaf,zag,zbu,zam,hlr,d4,hs1,e1,ht,Int.toNat_natCast,Bool.not_true,Bool.not_false,hat,hlm,hto,hkr]
           repeat (first | refine And.intro (by omega) ?_ | refine And.intro ⟨by omega,by omega⟩ ?_ | refine And.intro (by decide) ?_)
           refine ⟨rs.length - (i + 1),_,by omega,zab [0,1,2,3,4,5,6,7,8,9,10,189,12] rfl rfl rfl ?_ ?_,i + 1,t,L0,L1,L2,L3,L4,L5,L6 ++ [(⟨d,tt,true,key,dd,val⟩ : Rec)],L7,rfl,by omega,by omega,by simp only [List.length_append,List.length_cons,List.length_nil]; omega,hI,rfl⟩
           · simp only [ssT,zad,zae,setSlot,gOf,AV.ren,renL,Blk.ren,Ax.look,Ax.put,reduceCtorEq,↓reduceIte,Nat.reduceEqDiff,Nat.reduceLT,Nat.reduceAdd,List.length_append,List.length_cons,List.length_nil,Option.some.injEq]; try simp
           · simp only [ssT,zad,zae,setSlot,gOf,AV.ren,renL,Blk.ren,Ax.look,Ax.put,reduceCtorEq,↓reduceIte,Nat.reduceEqDiff,Nat.reduceLT,Nat.reduceAdd,List.length_append,List.length_cons,List.length_nil,Option.some.injEq,zak]; try simp
         · have hat : L7.map rv ++ [.agg [.w (.int .i64 d),.w (.int .i64 tt),.w (.bool true),.str key,.w (.bool dd),.str val]] = (L7 ++ [(⟨d,tt,true,key,dd,val⟩ : Rec)]).map rv := by rw [List.map_append]; rfl
           have hlm : (L7.map rv).length = L7.length := by simp
           simp only [go_sem,zaa,↓reduceIte,lcT,ty,zaf,zag,zbu,zam,hlr,d4,hs1,e1,ht,Int.toNat_natCast,Bool.not_true,Bool.not_false,hat,hlm,hto,hkr]
           repeat (first | refine And.intro (by omega) ?_ | refine And.intro ⟨by omega,by omega⟩ ?_ | refine And.intro (by decide) ?_)
           refine ⟨rs.length - (i + 1),_,by omega,zab [0,1,2,3,4,5,6,7,8,9,10,11,189] rfl rfl rfl ?_ ?_,i + 1,t,L0,L1,L2,L3,L4,L5,L6,L7 ++ [(⟨d,tt,true,key,dd,val⟩ : Rec)],rfl,by omega,by omega,by simp only [List.length_append,List.length_cons,List.length_nil]; omega,hI,rfl⟩
           · simp only [ssT,zad,zae,setSlot,gOf,AV.ren,renL,Blk.ren,Ax.look,Ax.put,reduceCtorEq,↓reduceIte,Nat.reduceEqDiff,Nat.reduceLT,Nat.reduceAdd,List.length_append,List.length_cons,List.length_nil,Option.some.injEq]; try simp
           · simp only [ssT,zad,zae,setSlot,gOf,AV.ren,renL,Blk.ren,Ax.look,Ax.put,reduceCtorEq,↓reduceIte,Nat.reduceEqDiff,Nat.reduceLT,Nat.reduceAdd,List.length_append,List.length_cons,List.length_nil,Option.some.injEq,zak]; try simp
       | false =>
         have hI : (rs.drop (i + 1)).foldl (stp 8) ((t + 1) % 8,([L0,L1,L2,L3,L4,L5,L6,L7] : List (List Rec)).set t (([L0,L1,L2,L3,L4,L5,L6,L7] : List (List Rec)).getD t [] ++ [⟨d,tt,false,key,dd,val⟩])) = X := hI
         have hcs : t = 0 ∨ t = 1 ∨ t = 2 ∨ t = 3 ∨ t = 4 ∨ t = 5 ∨ t = 6 ∨ t = 7 := by omega
         rcases hcs with rfl | rfl | rfl | rfl | rfl | rfl | rfl | rfl
         · have hw : (((0 : Nat) : Int) + 1 + 9223372036854775808) % 18446744073709551616 - 9223372036854775808 = ((1 : Nat) : Int) := by omega
           have hrt : Int.tmod ((1 : Nat) : Int) 8 = ((1 : Nat) : Int) := rfl
           have hat : L0.map rv ++ [.agg [.w (.int .i64 d),.w (.int .i64 tt),.w (.bool false),.str key,.w (.bool dd),.str val]] = (L0 ++ [(⟨d,tt,false,key,dd,val⟩ : Rec)]).map rv := by rw [List.map_append]; rfl
           have hlm : (L0.map rv).length = L0.length := by simp
           simp only [go_sem,zaa,↓reduceIte,lcT,ty,zaf,zag,zbu,zam,hlr,d4,hs1,e1,ht,Int.toNat_natCast,Bool.not_true,Bool.not_false,hat,hlm,hw,hrt]
           repeat (first | refine And.intro (by omega) ?_ | refine And.intro ⟨by omega,by omega⟩ ?_ | refine And.intro (by decide) ?_)
           refine ⟨rs.length - (i + 1),_,by omega,zab [0,1,2,3,4,189,6,7,8,9,10,11,12] rfl rfl rfl ?_ ?_,i + 1,1,L0 ++ [(⟨d,tt,false,key,dd,val⟩ : Rec)],L1,L2,L3,L4,L5,L6,L7,rfl,by omega,by omega,by simp only [List.length_append,List.length_cons,List.length_nil]; omega,hI,rfl⟩
           · simp only [ssT,zad,zae,setSlot,gOf,AV.ren,renL,Blk.ren,Ax.look,Ax.put,reduceCtorEq,↓reduceIte,Nat.reduceEqDiff,Nat.reduceLT,Nat.reduceAdd,List.length_append,List.length_cons,List.length_nil,Option.some.injEq]; try simp
           · simp only [ssT,zad,zae,setSlot,gOf,AV.ren,renL,Blk.ren,Ax.look,Ax.put,reduceCtorEq,↓reduceIte,Nat.reduceEqDiff,Nat.reduceLT,Nat.reduceAdd,List.length_append,List.length_cons,List.length_nil,Option.some.injEq,zak]; try simp
         · have hw : (((1 : Nat) : Int) + 1 + 9223372036854775808) % 18446744073709551616 - 9223372036854775808 = ((2 : Nat) : Int) := by omega
           have hrt : Int.tmod ((2 : Nat) : Int) 8 = ((2 : Nat) : Int) := rfl
           have hat : L1.map rv ++ [.agg [.w (.int .i64 d),.w (.int .i64 tt),.w (.bool false),.str key,.w (.bool dd),.str val]] = (L1 ++ [(⟨d,tt,false,key,dd,val⟩ : Rec)]).map rv := by rw [List.map_append]; rfl
           have hlm : (L1.map rv).length = L1.length := by simp
           simp only [go_sem,zaa,↓reduceIte,lcT,ty,zaf,zag,zbu,zam,hlr,d4,hs1,e1,ht,Int.toNat_natCast,Bool.not_true,Bool.not_false,hat,hlm,hw,hrt]
           repeat (first | refine And.intro (by omega) ?_ | refine And.intro ⟨by omega,by omega⟩ ?_ | refine And.intro (by decide) ?_)
           refine ⟨rs.length - (i + 1),_,by omega,zab [0,1,2,3,4,5,189,7,8,9,10,11,12] rfl rfl rfl ?_ ?_,i + 1,2,L0,L1 ++ [(⟨d,tt,false,key,dd,val⟩ : Rec)],L2,L3,L4,L5,L6,L7,rfl,by omega,by omega,by simp only [List.length_append,List.length_cons,List.length_nil]; omega,hI,rfl⟩
           · simp only [ssT,zad,zae,setSlot,gOf,AV.ren,renL,Blk.ren,Ax.look,Ax.put,reduceCtorEq,↓reduceIte,Nat.reduceEqDiff,Nat.reduceLT,Nat.reduceAdd,List.length_append,List.length_cons,List.length_nil,Option.some.injEq]; try simp
           · simp only [ssT,zad,zae,setSlot,gOf,AV.ren,renL,Blk.ren,Ax.look,Ax.put,reduceCtorEq,↓reduceIte,Nat.reduceEqDiff,Nat.reduceLT,Nat.reduceAdd,List.length_append,List.length_cons,List.length_nil,Option.some.injEq,zak]; try simp
         · have hw : (((2 : Nat) : Int) + 1 + 9223372036854775808) % 18446744073709551616 - 9223372036854775808 = ((3 : Nat) : Int) := by omega
           have hrt : Int.tmod ((3 : Nat) : Int) 8 = ((3 : Nat) : Int) := rfl
           have hat : L2.map rv ++ [.agg [.w (.int .i64 d),.w (.int .i64 tt),.w (.bool false),.str key,.w (.bool dd),.str val]] = (L2 ++ [(⟨d,tt,false,key,dd,val⟩ : Rec)]).map rv := by rw [List.map_append]; rfl
           have hlm : (L2.map rv).length = L2.length := by simp
           simp only [go_sem,zaa,↓reduceIte,lcT,ty,zaf,zag,zbu,zam,hlr,d4,hs1,e1,ht,Int.toNat_natCast,Bool.not_true,Bool.not_false,hat,hlm,hw,hrt]
           repeat (first | refine And.intro (by omega) ?_ | refine And.intro ⟨by omega,by omega⟩ ?_ | refine And.intro (by decide) ?_)
           refine ⟨rs.length - (i + 1),_,by omega,zab [0,1,2,3,4,5,6,189,8,9,10,11,12] rfl rfl rfl ?_ ?_,i + 1,3,L0,L1,L2 ++ [(⟨d,tt,false,key,dd,val⟩ : Rec)],L3,L4,L5,L6,L7,rfl,by omega,by omega,by simp only [List.length_append,List.length_cons,List.length_nil]; omega,hI,rfl⟩
           · simp only [ssT,zad,zae,setSlot,gOf,AV.ren,renL,Blk.ren,Ax.look,Ax.put,reduceCtorEq,↓reduceIte,Nat.reduceEqDiff,Nat.reduceLT,Nat.reduceAdd,List.length_append,List.length_cons,List.length_nil,Option.some.injEq]; try simp
           · simp only [ssT,zad,zae,setSlot,gOf,AV.ren,renL,Blk.ren,Ax.look,Ax.put,reduceCtorEq,↓reduceIte,Nat.reduceEqDiff,Nat.reduceLT,Nat.reduceAdd,List.length_append,List.length_cons,List.length_nil,Option.some.injEq,zak]; try simp
         · have hw : (((3 : Nat) : Int) + 1 + 9223372036854775808) % 18446744073709551616 - 9223372036854775808 = ((4 : Nat) : Int) := by omega
           have hrt : Int.tmod ((4 : Nat) : Int) 8 = ((4 : Nat) : Int) := rfl
           have hat : L3.map rv ++ [.agg [.w (.int .i64 d),.w (.int .i64 tt),.w (.bool false),.str key,.w (.bool dd),.str val]] = (L3 ++ [(⟨d,tt,false,key,dd,val⟩ : Rec)]).map rv := by rw [List.map_append]; rfl
           have hlm : (L3.map rv).length = L3.length := by simp
           simp only [go_sem,zaa,↓reduceIte,lcT,ty,zaf,zag,zbu,zam,hlr,d4,hs1,e1,ht,Int.toNat_natCast,Bool.not_true,Bool.not_false,hat,hlm,hw,hrt]
           repeat (first | refine And.intro (by omega) ?_ | refine And.intro ⟨by omega,by omega⟩ ?_ | refine And.intro (by decide) ?_)
           refine ⟨rs.length - (i + 1),_,by omega,zab [0,1,2,3,4,5,6,7,189,9,10,11,12] rfl rfl rfl ?_ ?_,i + 1,4,L0,L1,L2,L3 ++ [(⟨d,tt,false,key,dd,val⟩ : Rec)],L4,L5,L6,L7,rfl,by omega,by omega,by simp only [List.length_append,List.length_cons,List.length_nil]; omega,hI,rfl⟩
           · simp only [ssT,zad,zae,setSlot,gOf,AV.ren,renL,Blk.ren,Ax.look,Ax.put,reduceCtorEq,↓reduceIte,Nat.reduceEqDiff,Nat.reduceLT,Nat.reduceAdd,List.length_append,List.length_cons,List.length_nil,Option.some.injEq]; try simp
           · simp only [ssT,zad,zae,setSlot,gOf,AV.ren,renL,Blk.ren,Ax.look,Ax.put,reduceCtorEq,↓reduceIte,Nat.reduceEqDiff,Nat.reduceLT,Nat.reduceAdd,List.length_append,List.length_cons,List.length_nil,Option.some.injEq,zak]; try simp
         · have hw : (((4 : Nat) : Int) + 1 + 9223372036854775808) % 18446744073709551616 - 9223372036854775808 = ((5 : Nat) : Int) := by omega
           have hrt : Int.tmod ((5 : Nat) : Int) 8 = ((5 : Nat) : Int) := rfl
           have hat : L4.map rv ++ [.agg [.w (.int .i64 d),.w (.int .i64 tt),.w (.bool false),.str key,.w (.bool dd),.str val]] = (L4 ++ [(⟨d,tt,false,key,dd,val⟩ : Rec)]).map rv := by rw [List.map_append]; rfl
           have hlm : (L4.map rv).length = L4.length := by simp
           simp only [go_sem,zaa,↓reduceIte,lcT,ty,zaf,zag,zbu,zam,hlr,d4,hs1,e1,ht,Int.toNat_natCast,Bool.not_true,Bool.not_false,hat,hlm,hw,hrt]
           repeat (first | refine And.intro (by omega) ?_ | refine And.intro ⟨by omega,by omega⟩ ?_ | refine And.intro (by decide) ?_)
           refine ⟨rs.length - (i + 1),_,by omega,zab [0,1,2,3,4,5,6,7,8,189,10,11,12] rfl rfl rfl ?_ ?_,i + 1,5,L0,L1,L2,L3,L4 ++ [(⟨d,tt,false,key,dd,val⟩ : Rec)],L5,L6,L7,rfl,by omega,by omega,by simp only [List.length_append,List.length_cons,List.length_nil]; omega,hI,rfl⟩
           · simp only [ssT,zad,zae,setSlot,gOf,AV.ren,renL,Blk.ren,Ax.look,Ax.put,reduceCtorEq,↓reduceIte,Nat.reduceEqDiff,Nat.reduceLT,Nat.reduceAdd,List.length_append,List.length_cons,List.length_nil,Option.some.injEq]; try simp
           · simp only [ssT,zad,zae,setSlot,gOf,AV.ren,renL,Blk.ren,Ax.look,Ax.put,reduceCtorEq,↓reduceIte,Nat.reduceEqDiff,Nat.reduceLT,Nat.reduceAdd,List.length_append,List.length_cons,List.length_nil,Option.some.injEq,zak]; try simp
         · have hw : (((5 : Nat) : Int) + 1 + 9223372036854775808) % 18446744073709551616 - 9223372036854775808 = ((6 : Nat) : Int) := by omega
           have hrt : Int.tmod ((6 : Nat) : Int) 8 = ((6 : Nat) : Int) := rfl
           have hat : L5.map rv ++ [.agg [.w (.int .i64 d),.w (.int .i64 tt),.w (.bool false),.str key,.w (.bool dd),.str val]] = (L5 ++ [(⟨d,tt,false,key,dd,val⟩ : Rec)]).map rv := by rw [List.map_append]; rfl
           have hlm : (L5.map rv).length = L5.length := by simp
           simp only [go_sem,zaa,↓reduceIte,lcT,ty,zaf,zag,zbu,zam,hlr,d4,hs1,e1,ht,Int.toNat_natCast,Bool.not_true,Bool.not_false,hat,hlm,hw,hrt]
           repeat (first | refine And.intro (by omega) ?_ | refine And.intro ⟨by omega,by omega⟩ ?_ | refine And.intro (by decide) ?_)
           refine ⟨rs.length - (i + 1),_,by omega,zab [0,1,2,3,4,5,6,7,8,9,189,11,12] rfl rfl rfl ?_ ?_,i + 1,6,L0,L1,L2,L3,L4,L5 ++ [(⟨d,tt,false,key,dd,val⟩ : Rec)],L6,L7,rfl,by omega,by omega,by simp only [List.length_append,List.length_cons,List.length_nil]; omega,hI,rfl⟩
           · simp only [ssT,zad,zae,setSlot,gOf,AV.ren,renL,Blk.ren,Ax.look,Ax.put,reduceCtorEq,↓reduceIte,Nat.reduceEqDiff,Nat.reduceLT,Nat.reduceAdd,List.length_append,List.length_cons,List.length_nil,Option.some.injEq]; try simp
           · simp only [ssT,zad,zae,setSlot,gOf,AV.ren,renL,Blk.ren,Ax.look,Ax.put,reduceCtorEq,↓reduceIte,Nat.reduceEqDiff,Nat.reduceLT,Nat.reduceAdd,List.length_append,List.length_cons,List.length_nil,Option.some.injEq,zak]; try simp
         · have hw : (((6 : Nat) : Int) + 1 + 9223372036854775808) % 18446744073709551616 - 9223372036854775808 = ((7 : Nat) : Int) := by omega
           have hrt : Int.tmod ((7 : Nat) : Int) 8 = ((7 : Nat) : Int) := rfl
           have hat : L6.map rv ++ [.agg [.w (.int .i64 d),.w (.int .i64 tt),.w (.bool false),.str key,.w (.bool dd),.str val]] = (L6 ++ [(⟨d,tt,false,key,dd,val⟩ : Rec)]).map rv := by rw [List.map_append]; rfl
           have hlm : (L6.map rv).length = L6.length := by simp
           simp only [go_sem,zaa,↓reduceIte,lcT,ty,zaf,zag,zbu,zam,hlr,d4,hs1,e1,ht,Int.toNat_natCast,Bool.not_true,Bool.not_false,hat,hlm,hw,hrt]
           repeat (first | refine And.intro (by omega) ?_ | refine And.intro ⟨by omega,by omega⟩ ?_ | refine And.intro (by decide) ?_)
           refine ⟨rs.length - (i + 1),_,by omega,zab [0,1,2,3,4,5,6,7,8,9,10,189,12] rfl rfl rfl ?_ ?_,i + 1,7,L0,L1,L2,L3,L4,L5,L6 ++ [(⟨d,tt,false,key,dd,val⟩ : Rec)],L7,rfl,by omega,by omega,by simp only [List.length_append,List.length_cons,List.length_nil]; omega,hI,rfl⟩
           · simp only [ssT,zad,zae,setSlot,gOf,AV.ren,renL,Blk.ren,Ax.look,Ax.put,reduceCtorEq,↓reduceIte,Nat.reduceEqDiff,Nat.reduceLT,Nat.reduceAdd,List.length_append,List.length_cons,List.length_nil,Option.some.injEq]; try simp
           · simp only [ssT,zad,zae,setSlot,gOf,AV.ren,renL,Blk.ren,Ax.look,Ax.put,reduceCtorEq,↓reduceIte,Nat.reduceEqDiff,Nat.reduceLT,Nat.reduceAdd,List.length_append,List.length_cons,List.length_nil,Option.some.injEq,zak]; try simp
         · have hw : (((7 : Nat) : Int) + 1 + 9223372036854775808) % 18446744073709551616 - 9223372036854775808 = ((8 : Nat) : Int) := by omega
           have hrt : Int.tmod ((8 : Nat) : Int) 8 = ((0 : Nat) : Int) := rfl
           have hat : L7.map rv ++ [.agg [.w (.int .i64 d),.w (.int .i64 tt),.w (.bool false),.str key,.w (.bool dd),.str val]] = (L7 ++ [(⟨d,tt,false,key,dd,val⟩ : Rec)]).map rv := by rw [List.map_append]; rfl
           have hlm : (L7.map rv).length = L7.length := by simp
           simp only [go_sem,zaa,↓reduceIte,lcT,ty,zaf,zag,zbu,zam,hlr,d4,hs1,e1,ht,Int.toNat_natCast,Bool.not_true,Bool.not_false,hat,hlm,hw,hrt]
           repeat (first | refine And.intro (by omega) ?_ | refine And.intro ⟨by omega,by omega⟩ ?_ | refine And.intro (by decide) ?_)
           refine ⟨rs.length - (i + 1),_,by omega,zab [0,1,2,3,4,5,6,7,8,9,10,11,189] rfl rfl rfl ?_ ?_,i + 1,0,L0,L1,L2,L3,L4,L5,L6,L7 ++ [(⟨d,tt,false,key,dd,val⟩ : Rec)],rfl,by omega,by omega,by simp only [List.length_append,List.length_cons,List.length_nil]; omega,hI,rfl⟩
           · simp only [ssT,zad,zae,setSlot,gOf,AV.ren,renL,Blk.ren,Ax.look,Ax.put,reduceCtorEq,↓reduceIte,Nat.reduceEqDiff,Nat.reduceLT,Nat.reduceAdd,List.length_append,List.length_cons,List.length_nil,Option.some.injEq]; try simp
           · simp only [ssT,zad,zae,setSlot,gOf,AV.ren,renL,Blk.ren,Ax.look,Ax.put,reduceCtorEq,↓reduceIte,Nat.reduceEqDiff,Nat.reduceLT,Nat.reduceAdd,List.length_append,List.length_cons,List.length_nil,Option.some.injEq,zak]; try simp
     · have d4 : decide ((i : Int) < rs.length) = false := decide_eq_false (by omega)
       have hdr : rs.drop i = [] := List.drop_eq_nil_of_le (by omega)
       rw [hdr,List.foldl_nil] at hI
       subst hI
       simp only [go_sem,zaa,↓reduceIte,lcT,ty,zaf,zag,zbu,hlr,d4]
       have hd0 : decide (0 + L0.length ≤ (L0.map rv).length) = true := decide_eq_true (by simp)
       have ht0 : (L0.map rv).take L0.length = L0.map rv := List.take_of_length_le (by simp)
       have hd1 : decide (0 + L1.length ≤ (L1.map rv).length) = true := decide_eq_true (by simp)
       have ht1 : (L1.map rv).take L1.length = L1.map rv := List.take_of_length_le (by simp)
       have hd2 : decide (0 + L2.length ≤ (L2.map rv).length) = true := decide_eq_true (by simp)
       have ht2 : (L2.map rv).take L2.length = L2.map rv := List.take_of_length_le (by simp)
       have hd3 : decide (0 + L3.length ≤ (L3.map rv).length) = true := decide_eq_true (by simp)
       have ht3 : (L3.map rv).take L3.length = L3.map rv := List.take_of_length_le (by simp)
       have hd4 : decide (0 + L4.length ≤ (L4.map rv).length) = true := decide_eq_true (by simp)
       have ht4 : (L4.map rv).take L4.length = L4.map rv := List.take_of_length_le (by simp)
       have hd5 : decide (0 + L5.length ≤ (L5.map rv).length) = true := decide_eq_true (by simp)
       have ht5 : (L5.map rv).take L5.length = L5.map rv := List.take_of_length_le (by simp)
       have hd6 : decide (0 + L6.length ≤ (L6.map rv).length) = true := decide_eq_true (by simp)
       have ht6 : (L6.map rv).take L6.length = L6.map rv := List.take_of_length_le (by simp)
       have hd7 : decide (0 + L7.length ≤ (L7.map rv).length) = true := decide_eq_true (by simp)
       have ht7 : (L7.map rv).take L7.length = L7.map rv := List.take_of_length_le (by simp)
       refine ⟨_,(zav 5 6 9 4 (L0.map rv) (.g 1 [.ms 5 6 0 L0.length,.ms 6 6 0 L1.length,.ms 7 6 0 L2.length,.ms 8 6 0 L3.length,.ms 9 6 0 L4.length,.ms 10 6 0 L5.length,.ms 11 6 0 L6.length,.ms 12 6 0 L7.length]) rfl (zah _) rfl (by simp [slot,AV.ids]) (by simp [Blk.idsB,Blk.closed,closedL,AV.closed,idsL,AV.ids])).trans (by simp only [fgL,fgH,AV.fg,Blk.fg,fgLm,Nat.reduceBEq,cond_true,cond_false,hd0,ht0,Bool.and_true,beq_self_eq_true,Bool.true_and,List.drop_zero]; exact (zav 6 6 9 4 (L1.map rv) (.g 1 [.sg 6 (L0.map rv) false,.ms 6 6 0 L1.length,.ms 7 6 0 L2.length,.ms 8 6 0 L3.length,.ms 9 6 0 L4.length,.ms 10 6 0 L5.length,.ms 11 6 0 L6.length,.ms 12 6 0 L7.length]) rfl (zah _) rfl (by simp [slot,AV.ids]) (by simp [Blk.idsB,Blk.closed,closedL,AV.closed,idsL,AV.ids])).trans (by simp only [fgL,fgH,AV.fg,Blk.fg,fgLm,Nat.reduceBEq,cond_true,cond_false,hd1,ht1,Bool.and_true,beq_self_eq_true,Bool.true_and,List.drop_zero]; exact (zav 7 6 9 4 (L2.map rv) (.g 1 [.sg 6 (L0.map rv) false,.sg 6 (L1.map rv) false,.ms 7 6 0 L2.length,.ms 8 6 0 L3.length,.ms 9 6 0 L4.length,.ms 10 6 0 L5.length,.ms 11 6 0 L6.length,.ms 12 6 0 L7.length]) rfl (zah _) rfl (by simp [slot,AV.ids]) (by simp [Blk.idsB,Blk.closed,closedL,AV.closed,idsL,AV.ids])).trans (by simp only [fgL,fgH,AV.fg,Blk.fg,fgLm,Nat.reduceBEq,cond_true,cond_false,hd2,ht2,Bool.and_true,beq_self_eq_true,Bool.true_and,List.drop_zero]; exact (zav 8 6 9 4 (L3.map rv) (.g 1 [.sg 6 (L0.map rv) false,.sg 6 (L1.map rv) false,.sg 6 (L2.map rv) false,.ms 8 6 0 L3.length,.ms 9 6 0 L4.length,.ms 10 6 0 L5.length,.ms 11 6 0 L6.length,.ms 12 6 0 L7.length]) rfl (zah _) rfl (by simp [slot,AV.ids]) (by simp [Blk.idsB,Blk.closed,closedL,AV.closed,idsL,AV.ids])).trans (by simp only [fgL,fgH,AV.fg,Blk.fg,fgLm,Nat.reduceBEq,cond_true,cond_false,hd3,ht3,Bool.and_true,beq_self_eq_true,Bool.true_and,List.drop_zero]; exact (zav 9 6 9 4 (L4.map rv) (.g 1 [.sg 6 (L0.map rv) false,.sg 6 (L1.map rv) false,.sg 6 (L2.map rv) false,.sg 6 (L3.map rv) false,.ms 9 6 0 L4.length,.ms 10 6 0 L5.length,.ms 11 6 0 L6.length,.ms 12 6 0 L7.length]) rfl (zah _) rfl (by simp [slot,AV.ids]) (by simp [Blk.idsB,Blk.closed,closedL,AV.closed,idsL,AV.ids])).trans (by simp only [fgL,fgH,AV.fg,Blk.fg,fgLm,Nat.reduceBEq,cond_true,cond_false,hd4,ht4,Bool.and_true,beq_self_eq_true,Bool.true_and,List.drop_zero]; exact (zav 10 6 9 4 (L5.map rv) (.g 1 [.sg 6 (L0.map rv) false,.sg 6 (L1.map rv) false,.sg 6 (L2.map rv) false,.sg 6 (L3.map rv) false,.sg 6 (L4.map rv) false,.ms 10 6 0 L5.length,.ms 11 6 0 L6.length,.ms 12 6 0 L7.length]) rfl (zah _) rfl (by simp [slot,AV.ids]) (by simp [Blk.idsB,Blk.closed,closedL,AV.closed,idsL,AV.ids])).trans (by simp only [fgL,fgH,AV.fg,Blk.fg,fgLm,Nat.reduceBEq,cond_true,cond_false,hd5,ht5,Bool.and_true,beq_self_eq_true,Bool.true_and,List.drop_zero]; exact (zav 11 6 9 4 (L6.map rv) (.g 1 [.sg 6 (L0.map rv) false,.sg 6 (L1.map rv) false,.sg 6 (L2.map rv) false,.sg 6 (L3.map rv) false,.sg 6 (L4.map rv) false,.sg 6 (L5.map rv) false,.ms 11 6 0 L6.length,.ms 12 6 0 L7.length]) rfl (zah _) rfl (by simp [slot,AV.ids]) (by simp [Blk.idsB,Blk.closed,closedL,AV.closed,idsL,AV.ids])).trans (by simp only [fgL,fgH,AV.fg,Blk.fg,fgLm,Nat.reduceBEq,cond_true,cond_false,hd6,ht6,Bool.and_true,beq_self_eq_true,Bool.true_and,List.drop_zero]; exact (zav 12 6 9 4 (L7.map rv) (.g 1 [.sg 6 (L0.map rv) false,.sg 6 (L1.map rv) false,.sg 6 (L2.map rv) false,.sg 6 (L3.map rv) false,.sg 6 (L4.map rv) false,.sg 6 (L5.map rv) false,.sg 6 (L6.map rv) false,.ms 12 6 0 L7.length]) rfl (zah _) rfl (by simp [slot,AV.ids]) (by simp [Blk.idsB,Blk.closed,closedL,AV.closed,idsL,AV.ids])).trans (by simp only [fgL,fgH,AV.fg,Blk.fg,fgLm,Nat.reduceBEq,cond_true,cond_false,hd7,ht7,Bool.and_true,beq_self_eq_true,Bool.true_and,List.drop_zero]; exact zez 4 1 9 [.sg 6 (L0.map rv) false,.sg 6 (L1.map rv) false,.sg 6 (L2.map rv) false,.sg 6 (L3.map rv) false,.sg 6 (L4.map rv) false,.sg 6 (L5.map rv) false,.sg 6 (L6.map rv) false,.sg 6 (L7.map rv) false] rfl (by simp only [closedL,AV.closed,zah,Bool.and_self]) (by simp [slot,AV.ids]))))))))),?_⟩
       simp only [fgL,fgH,AV.fg,Blk.fg,fgLm,Nat.reduceBEq,cond_true,cond_false,hd0,ht0,hd1,ht1,hd2,ht2,hd3,ht3,hd4,ht4,hd5,ht5,hd6,ht6,hd7,ht7,Bool.and_true,beq_self_eq_true,Bool.true_and,List.drop_zero,List.take_succ_cons,List.take_zero,List.length_cons,List.length_nil,Nat.reduceAdd,Nat.reduceLeDiff,decide_true]
       have hml : ∀ L ∈ [L0,L1,L2,L3,L4,L5,L6,L7],L.length ≤ 1000 := by
         intro L hL
         simp only [List.mem_cons,List.not_mem_nil,or_false] at hL
         rcases hL with rfl | rfl | rfl | rfl | rfl | rfl | rfl | rfl <;> omega
       obtain ⟨Ls,hLs⟩ : ∃ Ls : List (List Rec),[L0,L1,L2,L3,L4,L5,L6,L7] = Ls := ⟨_,rfl⟩
       have hsg : [.sg 6 (L0.map rv) false,.sg 6 (L1.map rv) false,.sg 6 (L2.map rv) false,.sg 6 (L3.map rv) false,.sg 6 (L4.map rv) false,.sg 6 (L5.map rv) false,.sg 6 (L6.map rv) false,.sg 6 (L7.map rv) false] = Ls.map sgR := by rw [← hLs]; rfl
       have hPl : Ls.length = 8 := by rw [← hLs]; rfl
       have hbl : [.sg 6 ((nbL 0 L0).map rv) false,.sg 6 ((nbL 0 L1).map rv) false,.sg 6 ((nbL 0 L2).map rv) false,.sg 6 ((nbL 0 L3).map rv) false,.sg 6 ((nbL 0 L4).map rv) false,.sg 6 ((nbL 0 L5).map rv) false,.sg 6 ((nbL 0 L6).map rv) false,.sg 6 ((nbL 0 L7).map rv) false] = Ls.map nbR := by rw [← hLs]; rfl
       rw [hsg,hbl]
       rw [hLs] at hml
       clear hLs hsg hbl hlen
       have hPm : (Ls.map sgR).length = 8 := by rw [List.length_map]; exact hPl
       simp only [go_sem,zaa,↓reduceIte,lcT,ty,zaf,zag,zbu,hPm]
       refine zbe ⟨fun m σ => ∃ j : Nat,m = 8 - j ∧ j ≤ 8 ∧
           ((j = 0 ∧ σ = ⟨[.junk,.junk,.w (.int .i64 t),.fn 13 [.rf 0 1 0 0],.junk,.junk,.junk,.junk,.junk,.junk,.junk,.junk,.junk,.junk,.junk,.junk,.junk,.junk,.junk,.junk,.junk,.junk,.junk,.junk,.junk,.junk,.junk,.junk,.junk,.junk,.junk,.junk,.junk,.junk,.junk,.junk,.junk,.junk,.junk,.junk,.junk,.junk,.junk,.junk,.junk,.junk,.junk,.junk,.junk,.junk,.junk,.sg 1 (Ls.map sgR) false,.w (.int .i64 8),.w (.int .i64 j),.junk,.junk,.junk,.junk,.junk,.junk,.junk,.junk,.junk,.junk,.junk],[(0,.g 1 [.sg 1 [] true])],4⟩) ∨
            (0 < j ∧ σ = ⟨[.junk,.junk,.w (.int .i64 t),.fn 13 [.rf 0 1 0 0],.junk,.junk,.junk,.junk,.junk,.junk,.junk,.junk,.junk,.junk,.junk,.junk,.junk,.junk,.junk,.junk,.junk,.junk,.junk,.junk,.junk,.junk,.junk,.junk,.junk,.junk,.junk,.junk,.junk,.junk,.junk,.junk,.junk,.junk,.junk,.junk,.junk,.junk,.junk,.junk,.junk,.junk,.junk,.junk,.junk,.junk,.junk,.sg 1 (Ls.map sgR) false,.w (.int .i64 8),.w (.int .i64 j),.junk,.junk,.junk,.junk,.junk,.junk,.junk,.junk,.junk,.junk,.junk],[(0,.g 1 [.ms 4 1 0 j]),(4,.g 1 ((Ls.take j).map nbR))],5⟩)),?_,?_⟩
       · refine ⟨_,_,zab [0,1,2,3] rfl rfl rfl ?_ ?_,0,rfl,by omega,.inl ⟨rfl,rfl⟩⟩
         · simp only [ssT,zad,zae,setSlot,gOf,AV.ren,renL,Blk.ren,Ax.look,Ax.put,reduceCtorEq,↓reduceIte,Nat.reduceEqDiff,Nat.reduceLT,Nat.reduceAdd,List.length_append,List.length_cons,List.length_nil,Option.some.injEq,zbj]; try simp
         · simp only [ssT,zad,zae,setSlot,gOf,AV.ren,renL,Blk.ren,Ax.look,Ax.put,reduceCtorEq,↓reduceIte,Nat.reduceEqDiff,Nat.reduceLT,Nat.reduceAdd,List.length_append,List.length_cons,List.length_nil,Option.some.injEq]; try simp
       · rintro m σ ⟨j,rfl,hj,hσ⟩
         have e2 : ((j : Int) + 1 + 9223372036854775808) % 18446744073709551616 - 9223372036854775808 = ((j + 1 : Nat) : Int) := by omega
         by_cases hjl : j < 8
         · have d5 : decide ((j : Int) < 8) = true := decide_eq_true (by omega)
           have hjL : j < Ls.length := by omega
           have hs2 : slot (Ls.map sgR) j = sgR Ls[j] := zba sgR Ls j hjL
           have htk : Ls.take (j + 1) = Ls.take j ++ [Ls[j]] := List.take_succ_eq_append_getElem hjL
           have hm2 := hml Ls[j] (List.getElem_mem hjL)
           obtain ⟨L,hL2⟩ : ∃ L,Ls[j] = L := ⟨_,rfl⟩
           rw [hL2] at hs2 htk hm2
           have hs2 : slot (Ls.map sgR) j = .sg 6 (L.map rv) false := hs2
           have hlm : (L.map rv).length = L.length := by simp
           have hL6 : L.length ≤ 1000000 := by omega
           have hxL : ∃ q : List Rec,L.map rv = q.map rv := ⟨L,rfl⟩
           have hxN : ∃ q : List Rec,(nbL 0 L).map rv = q.map rv := ⟨_,rfl⟩
           have hcL : ∀ f,coe ty 22 (.sg 6 (L.map rv) f) = .sg 6 (L.map rv) f := fun f => by cases L <;> rfl
           have hcN : ∀ f,coe ty 22 (.sg 6 ((nbL 0 L).map rv) f) = .sg 6 ((nbL 0 L).map rv) f := fun f => by cases (nbL 0 L) <;> rfl
           have hat : (Ls.take j).map nbR ++ [.sg 6 ((nbL 0 L).map rv) false] = (Ls.take (j + 1)).map nbR := by rw [htk,List.map_append]; rfl
           have htl : ((Ls.take j).map nbR).length = j := by rw [List.length_map,List.length_take]; omega
           have hcb := zas (Ls.take j)
           have hcb1 := zas (Ls.take (j + 1))
           have hrb1 : ∀ g,renL g ((Ls.take (j + 1)).map nbR) = (Ls.take (j + 1)).map nbR := fun g => renL_closed g _ hcb1
           rcases hσ with ⟨rfl,rfl⟩ | ⟨hj0,rfl⟩
           · simp only [go_sem,zaa,↓reduceIte,lcT,ty,zaf,zag,zbu,hPm,d5,hs2,e2,nmbS,zgz,hlm,hL6,hxL,hxN,hcL,hcN,zaz,zah,Int.toNat_natCast]
             repeat (first | refine And.intro (by omega) ?_ | refine And.intro ⟨by omega,by omega⟩ ?_ | refine And.intro (by decide) ?_)
             have hat0 : (Ls.take (0 + 1)).map nbR = [.sg 6 ((nbL 0 L).map rv) false] := by rw [htk]; rfl
             refine ⟨8 - (0 + 1),_,by omega,zab [0,1,2,3,84] rfl rfl rfl ?_ ?_,0 + 1,rfl,by omega,.inr ⟨by omega,rfl⟩⟩
             · simp only [ssT,zad,zae,setSlot,gOf,AV.ren,renL,Blk.ren,Ax.look,Ax.put,reduceCtorEq,↓reduceIte,Nat.reduceEqDiff,Nat.reduceLT,Nat.reduceAdd,List.length_append,List.length_cons,List.length_nil,Option.some.injEq,zbj]; try simp
             · simp only [ssT,zad,zae,setSlot,gOf,AV.ren,renL,Blk.ren,Ax.look,Ax.put,reduceCtorEq,↓reduceIte,Nat.reduceEqDiff,Nat.reduceLT,Nat.reduceAdd,List.length_append,List.length_cons,List.length_nil,Option.some.injEq,zak,hat0]; try simp [renL,zak]
           · have dj : decide (0 < j) = true := decide_eq_true hj0
             have hj1 : j ≤ 1000 := by omega
             simp only [go_sem,zaa,↓reduceIte,lcT,ty,zaf,zag,zbu,hPm,d5,hs2,e2,nmbS,zgz,hlm,hL6,hxL,hxN,hcL,hcN,zaz,zah,htl,hcb,hcb1,hat,hj0,dj,hj1,cond_true,Int.toNat_natCast]
             repeat (first | refine And.intro (by omega) ?_ | refine And.intro ⟨by omega,by omega⟩ ?_ | refine And.intro (by decide) ?_)
             refine ⟨8 - (j + 1),_,by omega,zab [0,1,2,3,85] rfl rfl rfl ?_ ?_,j + 1,rfl,by omega,.inr ⟨by omega,rfl⟩⟩
             · simp only [ssT,zad,zae,setSlot,gOf,AV.ren,renL,Blk.ren,Ax.look,Ax.put,reduceCtorEq,↓reduceIte,Nat.reduceEqDiff,Nat.reduceLT,Nat.reduceAdd,List.length_append,List.length_cons,List.length_nil,Option.some.injEq,zbj]; try simp
             · simp only [ssT,zad,zae,setSlot,gOf,AV.ren,renL,Blk.ren,Ax.look,Ax.put,reduceCtorEq,↓reduceIte,Nat.reduceEqDiff,Nat.reduceLT,Nat.reduceAdd,List.length_append,List.length_cons,List.length_nil,Option.some.injEq,hrb1]; try simp
         · have d5 : decide ((j : Int) < 8) = false := decide_eq_false (by omega)
           obtain rfl : j = 8 := by omega
           have htk : Ls.take 8 = Ls := List.take_of_length_le (by omega)
           rcases hσ with ⟨h0,_⟩ | ⟨_,rfl⟩
           · omega
           · rw [htk]
             have hcb := zas Ls
             have hrb : ∀ g,renL g (Ls.map nbR) = Ls.map nbR := fun g => renL_closed g _ hcb
             simp only [go_sem,zaa,↓reduceIte,lcT,ty,zaf,zag,zbu,hPm,d5]
             refine ⟨_,Weak.refl _,?_⟩
             simp only [go_sem,zaa,↓reduceIte,lcT,ty,zaf,zag,zbu]
             refine ⟨_,Weak.refl _,?_⟩
             simp only [go_sem,zaa,↓reduceIte,lcT,ty,zaf,zag,zbu,hcb,hrb,cond_true]
 · exact hp.elim
end
end Go.Proofs.Ytdfgfdcfcdgadaa
namespace Go.Proofs.Ytdfgfdcfcdgadaa
open Ax
def runS (parts turn : Int) (rs : List Rec) : Nat × List (List Rec) := rs.foldl (stp (clP parts)) ((max turn 0).toNat % clP parts,List.replicate (clP parts) [])
def splA : zcc
 | [.sg 6 xs f,.w (.int .i64 parts),.w (.int .i64 turn),.fn id [.rf 0 1 0 0]],[.g 1 [.sg 1 [] true]] => ⟨id = 13 ∧ xs.length ≤ 1000 ∧ ∃ rs : List Rec,xs = rs.map rv ∧ ∀ r ∈ rs,r.key.length ≤ 1000000,
   .w (.int .i64 (runS parts turn (xs.map rrec)).1),[.g 1 [.ms 1 1 0 (clP parts)],.g 1 ((runS parts turn (xs.map rrec)).2.map nbR)]⟩
 | _,_ => zkn
theorem zhp {P : Nat} (hs : zfr Try.prog 12 (splS P)) {ys : List AV} {f : Bool} {parts turn : Int} {id : Nat} (hP : clP parts = P) (hp : (splA [.sg 6 ys f,.w (.int .i64 parts),.w (.int .i64 turn),.fn id [.rf 0 1 0 0]] [.g 1 [.sg 1 [] true]]).p)
  (w : World) (bad : Nat → Prop) (pb : List Nat) (vs : List Value) (h1 : pb.length = ([.g 1 [.sg 1 [] true]] : List Blk).length) (h2 : pb.Nodup) (h3 : ∀ b,bad b → b < w.heap.size ∧ ¬ b ∈ pb)
  (h4 : ∀ (k : Nat) (h : k < ([.g 1 [.sg 1 [] true]] : List Blk).length) (h' : k < pb.length),([.g 1 [.sg 1 [] true]] : List Blk)[k].ok ∧ Lies w (zbf pb bad) ([.g 1 [.sg 1 [] true]] : List Blk)[k] pb[k])
  (h5 : ([.sg 6 ys f,.w (.int .i64 parts),.w (.int .i64 turn),.fn id [.rf 0 1 0 0]] : List AV).length = vs.length)
  (h6 : ∀ (j : Nat) (h : j < ([.sg 6 ys f,.w (.int .i64 parts),.w (.int .i64 turn),.fn id [.rf 0 1 0 0]] : List AV).length) (h' : j < vs.length),R w (zbf pb bad) ([.sg 6 ys f,.w (.int .i64 parts),.w (.int .i64 turn),.fn id [.rf 0 1 0 0]] : List AV)[j] vs[j]) :
  Calls Try.prog 12 vs.toArray w fun e w' => ∃ v loc',e = .returned v ∧ yhy w bad pb (splA [.sg 6 ys f,.w (.int .i64 parts),.w (.int .i64 turn),.fn id [.rf 0 1 0 0]] [.g 1 [.sg 1 [] true]]) v w' loc' := by
 subst hP
 obtain ⟨a1,a2,rs,a3,a4⟩ := hp
 refine (hs [.sg 6 ys f,.w (.int .i64 parts),.w (.int .i64 turn),.fn id [.rf 0 1 0 0]] [.g 1 [.sg 1 [] true]] ⟨a1,rfl,a2,rs,a3,a4⟩ w bad pb vs h1 h2 h3 h4 h5 h6).mono ?_
 rintro e w' ⟨v,loc',he,hg⟩
 exact ⟨v,loc',he,hg.r,hg.bad,hg.bl,hg.old,hg.new,hg.none,hg.inj,hg.fram⟩
theorem ydw : zfr Try.prog 12 splA := by
 intro xs pins hp w bad pb vs h1 h2 h3 h4 h5 h6
 have hp0 := hp
 unfold splA at hp0
 split at hp0
 ·rename_i ys f parts turn id
  have hc := zqx parts
  have hcs : clP parts = 1 ∨ clP parts = 2 ∨ clP parts = 3 ∨ clP parts = 4 ∨ clP parts = 5 ∨ clP parts = 6 ∨ clP parts = 7 ∨ clP parts = 8 := by omega
  rcases hcs with h | h | h | h | h | h | h | h
  ·exact zhp ybr h hp w bad pb vs h1 h2 h3 h4 h5 h6
  ·exact zhp ybq h hp w bad pb vs h1 h2 h3 h4 h5 h6
  ·exact zhp ybp h hp w bad pb vs h1 h2 h3 h4 h5 h6
  ·exact zhp ybo h hp w bad pb vs h1 h2 h3 h4 h5 h6
  ·exact zhp ybn h hp w bad pb vs h1 h2 h3 h4 h5 h6
  ·exact zhp ybm h hp w bad pb vs h1 h2 h3 h4 h5 h6
  ·exact zhp ybl h hp w bad pb vs h1 h2 h3 h4 h5 h6
  ·exact zhp ybk h hp w bad pb vs h1 h2 h3 h4 h5 h6
 ·exact hp0.elim
def zmq : zcc
 | [.sg 6 xs f,.w (.int .i64 parts),.w (.int .i64 turn)],[] => ⟨xs.length ≤ 1000 ∧ ∃ rs : List Rec,xs = rs.map rv ∧ ∀ r ∈ rs,r.key.length ≤ 1000000,
   .tup [.sg 1 ((runS parts turn (xs.map rrec)).2.map nbR) false,.w (.int .i64 (runS parts turn (xs.map rrec)).1)],[]⟩
 | _,_ => zkn
def znc (f : FuncId) : Option zcc :=
 match f with
 | 12 => some splA
 | _ => none
theorem zyf : FnsO Try.prog znc := by
 intro f s h
 unfold znc at h
 split at h
 ·injection h with h; subst h; exact ⟨⟨_,Try.func12,by kernel_rfl,by kernel_rfl⟩,ydw⟩
 ·cases h
def ztc : zlh := fun id => match id with
 | 2 => .opn [] 4
 | _ => .std
theorem ydv (P : Nat) : ∀ (rs : List Rec) (s : Nat × List (List Rec)),(rs.foldl (stp P) s).2.length = s.2.length
 | [],s => rfl
 | r :: rs,s => by
  rw [List.foldl_cons,ydv P rs]
  unfold stp
  split <;> simp
theorem yig (parts turn : Int) (rs : List Rec) : (runS parts turn rs).2.length = clP parts := by
 unfold runS; rw [ydv]; simp
section
set_option maxRecDepth 100000
set_option maxHeartbeats 4000000 in
theorem zrs : zen Try.prog 6 zmq := by
 refine ycu (S := noS) (SO := znc) (T := ty) mixed ty_ok znp zyf Try.func6 (c := Try.f6.body.getD .skip) (by kernel_rfl) (fun xs pins hp _ => ?_)
 unfold zmq at hp ⊢
 split at hp
 ·rename_i xs f parts turn _
  obtain ⟨hL,rs,rfl,hk⟩ := hp
  have hx : ∃ q : List Rec,rs.map rv = q.map rv ∧ ∀ r ∈ q,r.key.length ≤ 1000000 := ⟨rs,rfl,hk⟩
  have hc1 : ∀ f,coe ty 22 (.sg 6 (rs.map rv) f) = .sg 6 (rs.map rv) f := fun f => by cases rs <;> rfl
  rw [zaz]
  have hrl := yig parts turn rs
  refine ⟨by simp,ztc,by kernel_rfl,?_⟩
  obtain ⟨X,hX⟩ : ∃ X,runS parts turn rs = X := ⟨_,rfl⟩
  rw [hX] at hrl ⊢
  obtain ⟨t,Ls⟩ := X
  simp only at hrl ⊢
  have hcb := zas Ls
  have hrb : ∀ g,renL g (Ls.map nbR) = Ls.map nbR := fun g => renL_closed g _ hcb
  unfold Try.f6
  simp only [go_sem,zaa,↓reduceIte,lcT,ty,noS,znc,ztc,splA,hc1,hL,hx,zaz,hX,zah,hcb,hrb,cond_true]
  have hdle : decide (0 + clP parts ≤ (Ls.map nbR).length) = true := decide_eq_true (by rw [List.length_map]; omega)
  have htk2 : (Ls.map nbR).take (clP parts) = Ls.map nbR := List.take_of_length_le (by rw [List.length_map]; omega)
  refine ⟨_,zez 60 1 6 _ rfl hcb (by simp [slot,AV.ids]),?_⟩
  simp only [fgL,fgH,AV.fg,Blk.fg,fgLm,Nat.reduceBEq,cond_true,cond_false,hdle,Bool.and_true,beq_self_eq_true,Bool.true_and,List.drop_zero,htk2]
  simp only [go_sem,zaa,↓reduceIte,lcT,ty,noS,hcb]
 ·exact hp.elim
end
end Go.Proofs.Ytdfgfdcfcdgadaa
namespace Go.Proofs.Ytdfgfdcfcdgadaa
open Ax
section
set_option maxRecDepth 100000
def yif (d t : Int) (k : Bool) (key : List UInt8) (dd : Bool) (val : List UInt8) (d' t' : Int) (k' : Bool) (key' : List UInt8) (dd' : Bool) (val' : List UInt8) : Bool :=
 decide (d = d') && (decide (t = t') && ((k == k') && (decide (key = key') && ((dd == dd') && (decide (val = val') && true)))))
def zty : zcc
 | [.agg [.w (.int .i64 d),.w (.int .i64 t),.w (.bool k),.str key,.w (.bool dd),.str val]],[] => ⟨True,.w (.bool (decide (key.length ≤ 200 ∧ val.length ≤ 700))),[]⟩
 | _,_ => zkn
theorem zwz : zen Try.prog 9 zty := by
 refine zir (S := noS) (T := ty) mixed ty_ok znp Try.func9 (c := Try.f9.body.getD .skip) (by kernel_rfl) (by kernel_rfl) (fun xs pins hp _ => ?_)
 unfold zty at hp ⊢
 split at hp
 ·rename_i d t k key dd val _
  refine ⟨by simp,?_⟩
  unfold Try.f9
  by_cases h1 : key.length ≤ 200
  ·have d1 : decide ((key.length : Int) ≤ 200) = true := decide_eq_true (by omega)
   by_cases h2 : val.length ≤ 700
   ·have d2 : decide ((val.length : Int) ≤ 700) = true := decide_eq_true (by omega)
    have d3 : decide (key.length ≤ 200 ∧ val.length ≤ 700) = true := decide_eq_true ⟨h1,h2⟩
    simp only [go_sem,coe,zar,↓reduceIte,ty,noS,d1,d2,d3]
   ·have d2 : decide ((val.length : Int) ≤ 700) = false := decide_eq_false (by omega)
    have d3 : decide (key.length ≤ 200 ∧ val.length ≤ 700) = false := decide_eq_false (fun h => h2 h.2)
    simp only [go_sem,coe,zar,↓reduceIte,ty,noS,d1,d2,d3]
  ·have d1 : decide ((key.length : Int) ≤ 200) = false := decide_eq_false (by omega)
   have d3 : decide (key.length ≤ 200 ∧ val.length ≤ 700) = false := decide_eq_false (fun h => h1 h.1)
   simp only [go_sem,coe,zar,↓reduceIte,ty,noS,d1,d3]
 ·exact hp.elim
end
end Go.Proofs.Ytdfgfdcfcdgadaa
namespace Go.Proofs.Ytdfgfdcfcdgadaa
open Ax
def zpm (r : Rec) : Prop := r.key.length ≤ 200 ∧ r.val.length ≤ 700
instance (r : Rec) : Decidable (zpm r) := by unfold zpm; infer_instance
def zks : zcc
 | [.sg 6 xs f],[] => ⟨xs.length ≤ 9223372036854775807 ∧ ∃ rs : List Rec,xs = rs.map rv,.w (.bool (decide (xs.length ≤ 100 ∧ ∀ r ∈ xs.map rrec,zpm r))),[]⟩
 | _,_ => zkn
def zhg : zcc
 | [.agg [.w (.int .i64 d),.w (.int .i64 t),.w (.bool k),.str key,.w (.bool dd),.str val],.agg [.w (.int .i64 d'),.w (.int .i64 t'),.w (.bool k'),.str key',.w (.bool dd'),.str val']],[] => ⟨True,.w (.bool (yif 0 t k key dd val 0 t' k' key' dd' val')),[]⟩
 | _,_ => zkn
def zga (f : FuncId) : Option zcc :=
 match f with
 | 9 => some zty
 | _ => none
theorem zye : Fns Try.prog zga := by
 intro f s h
 unfold zga at h
 split at h
 ·injection h with h; subst h; exact ⟨⟨_,Try.func9,by kernel_rfl,by kernel_rfl⟩,zwz⟩
 ·cases h
section
set_option maxRecDepth 100000
set_option maxHeartbeats 2000000 in
theorem zsy : zen Try.prog 8 zhg := by
 refine zuu (S := noS) (T := ty) mixed ty_ok znp Try.func8 (c := Try.f8.body.getD .skip) (by kernel_rfl) (by kernel_rfl) (fun xs pins hp _ => ?_)
 unfold zhg at hp ⊢
 split at hp
 ·rename_i d t k key dd val d' t' k' key' dd' val' _
  refine ⟨by simp,?_⟩
  unfold Try.f8
  simp only [go_sem,zar,↓reduceIte,ty,noS]
  refine ⟨_,Weak.refl _,?_⟩
  simp only [go_sem,zar,↓reduceIte,ty,noS,yif]
 ·exact hp.elim
set_option maxHeartbeats 2000000 in
theorem zsb : zen Try.prog 4 zks := by
 refine zir (S := zga) (T := ty) mixed ty_ok zye Try.func4 (c := Try.f4.body.getD .skip) (by kernel_rfl) (by kernel_rfl) (fun xs pins hp _ => ?_)
 unfold zks at hp ⊢
 split at hp
 ·rename_i xs f _
  obtain ⟨hL,rs,rfl⟩ := hp
  have hlr : (rs.map rv).length = rs.length := by simp
  rw [List.length_map] at hL
  rw [zaz,hlr]
  refine ⟨by simp,?_⟩
  unfold Try.f4
  by_cases hn : 100 < rs.length
  ·have d1 : decide ((100 : Int) < rs.length) = true := decide_eq_true (by omega)
   have hno : decide (rs.length ≤ 100 ∧ ∀ r ∈ rs,zpm r) = false := decide_eq_false (fun h => by omega)
   rw [hno]
   simp only [go_sem,zar,↓reduceIte,ty,zga,hlr,d1]
  ·have d1 : decide ((100 : Int) < rs.length) = false := decide_eq_false (by omega)
   simp only [go_sem,zar,↓reduceIte,ty,zga,hlr,d1]
   refine zsw ⟨fun m σ => ∃ i : Nat,m = rs.length - i ∧ i ≤ rs.length ∧ (∀ r ∈ rs.take i,zpm r) ∧
     σ = ⟨[.sg 6 (rs.map rv) f,.junk,.junk,.w (.int .i64 i),.junk,.junk,.junk,.junk,.junk,.junk,.junk,.junk,.junk,.junk,.junk,.junk,.junk,.junk,.junk],[],4⟩,?_,?_⟩
   ·refine ⟨_,_,zab [0,1,2,3] rfl rfl rfl ?_ ?_,0,rfl,by omega,by simp,rfl⟩
    ·simp only [ssT,zad,zae,setSlot,gOf,AV.ren,renL,Blk.ren,Ax.look,Ax.put,reduceCtorEq,↓reduceIte,Nat.reduceEqDiff,Nat.reduceLT,Nat.reduceAdd,List.length_append,List.length_cons,List.length_nil,Option.some.injEq]; try simp
    ·simp only [ssT,zad,zae,setSlot,gOf,AV.ren,renL,Blk.ren,Ax.look,Ax.put,reduceCtorEq,↓reduceIte,Nat.reduceEqDiff,Nat.reduceLT,Nat.reduceAdd,List.length_append,List.length_cons,List.length_nil,Option.some.injEq]
   ·rintro m σ ⟨i,rfl,hi,hall,rfl⟩
    by_cases hil : i < rs.length
    ·have d2 : decide ((i : Int) < rs.length) = true := decide_eq_true (by omega)
     have e1 : ((i : Int) + 1 + 9223372036854775808) % 18446744073709551616 - 9223372036854775808 = ((i + 1 : Nat) : Int) := by omega
     have hs1 := zba rv rs i hil
     have hmem : rs[i] ∈ rs := List.getElem_mem hil
     have htk : rs.take (i + 1) = rs.take i ++ [rs[i]] := List.take_succ_eq_append_getElem hil
     obtain ⟨r,hr⟩ : ∃ r,rs[i] = r := ⟨_,rfl⟩
     rw [hr] at hs1 hmem htk
     obtain ⟨d,t,kd,key,dd,val⟩ := r
     simp only [rv] at hs1
     by_cases h1 : key.length ≤ 200 ∧ val.length ≤ 700
     ·have d3 : decide (key.length ≤ 200 ∧ val.length ≤ 700) = true := decide_eq_true h1
      simp only [go_sem,zar,↓reduceIte,ty,zga,zty,hlr,d2,d3,hs1,e1,Int.toNat_natCast,Bool.not_true]
      repeat (refine And.intro (by omega) ?_)
      refine ⟨rs.length - (i + 1),_,by omega,zab [0,1,2,3] rfl rfl rfl ?_ ?_,i + 1,rfl,by omega,?_,rfl⟩
      ·simp only [ssT,zad,zae,setSlot,gOf,AV.ren,renL,Blk.ren,Ax.look,Ax.put,reduceCtorEq,↓reduceIte,Nat.reduceEqDiff,Nat.reduceLT,Nat.reduceAdd,List.length_append,List.length_cons,List.length_nil,Option.some.injEq]; try simp
      ·simp only [ssT,zad,zae,setSlot,gOf,AV.ren,renL,Blk.ren,Ax.look,Ax.put,reduceCtorEq,↓reduceIte,Nat.reduceEqDiff,Nat.reduceLT,Nat.reduceAdd,List.length_append,List.length_cons,List.length_nil,Option.some.injEq]
      ·rw [htk]
       intro q hq
       rcases List.mem_append.1 hq with h | h
       ·exact hall q h
       ·obtain rfl := List.mem_singleton.1 h
        exact h1
     ·have d3 : decide (key.length ≤ 200 ∧ val.length ≤ 700) = false := decide_eq_false h1
      have hno : decide (rs.length ≤ 100 ∧ ∀ r ∈ rs,zpm r) = false := decide_eq_false (fun h => h1 (h.2 _ hmem))
      rw [hno]
      simp only [go_sem,zar,↓reduceIte,ty,zga,zty,hlr,d2,d3,hs1,Int.toNat_natCast,Bool.not_false]
      omega
    ·have d2 : decide ((i : Int) < rs.length) = false := decide_eq_false (by omega)
     have hii : rs.take i = rs := List.take_of_length_le (by omega)
     rw [hii] at hall
     have hyes : decide (rs.length ≤ 100 ∧ ∀ r ∈ rs,zpm r) = true := decide_eq_true ⟨by omega,hall⟩
     rw [hyes]
     simp only [go_sem,zar,↓reduceIte,ty,zga,hlr,d2]
 ·exact hp.elim
end
end Go.Proofs.Ytdfgfdcfcdgadaa
namespace Go.Proofs.Ytdfgfdcfcdgadaa
open Ax
instance rec37Dec : DecidableEq Rec := fun a b => decidable_of_iff (a.d = b.d ∧ a.t = b.t ∧ a.k = b.k ∧ a.key = b.key ∧ a.dd = b.dd ∧ a.val = b.val) (by cases a; cases b; simp)
def fgt (r : Rec) : Rec := ⟨0,r.t,r.k,r.key,r.dd,r.val⟩
theorem zwj (a b : Rec) : yif 0 a.t a.k a.key a.dd a.val 0 b.t b.k b.key b.dd b.val = decide (fgt a = fgt b) := by
 cases a; cases b
 unfold yif fgt
 rw [Bool.eq_iff_iff]
 simp
theorem yet : ∀ (L : List Rec) (a i : Nat) (h : i < (nbL a L).length) (h' : i < L.length),(nbL a L)[i] = ⟨((a + i : Nat) : Int),L[i].t,L[i].k,L[i].key,L[i].dd,L[i].val⟩
 | r :: L,a,0,_,_ => rfl
 | r :: L,a,i + 1,h,h' => by
  have ih := yet L (a + 1) i (by simpa [nbL] using h) (by simpa using h')
  simp only [nbL,List.getElem_cons_succ]
  rw [ih,show a + 1 + i = a + (i + 1) by omega]
def zbo (L : List Rec) : Nat := L.countP fun r => !r.k
def posP (P t0 j : Nat) : Nat := (j + P - t0) % P
structure InvS (P t0 : Nat) (done : List Rec) (s : Nat × List (List Rec)) : Prop where
 len : s.2.length = P
 sub : ∀ (j : Nat) (h : j < s.2.length),(s.2[j]).Sublist done
 own : ∀ (j : Nat) (h : j < s.2.length),∀ r ∈ s.2[j],r.k = true → ofP r.key P = j
 sum : (s.2.map List.length).sum = done.length
 trn : ∃ N : Nat,s.1 = (t0 + N) % P ∧ ∀ (j : Nat) (h : j < s.2.length),zbo s.2[j] = (N + P - 1 - posP P t0 j) / P
theorem yds : ∀ (l : List (List Rec)) (j : Nat) (r : Rec) (h : j < l.length),((l.set j (l[j] ++ [r])).map List.length).sum = (l.map List.length).sum + 1
 | x :: l,0,r,_ => by simp; omega
 | x :: l,j + 1,r,h => by
  have ih := yds l j r (by simpa using h)
  simp only [List.set_cons_succ,List.map_cons,List.sum_cons,List.getElem_cons_succ] at ih ⊢
  omega
theorem yix {P t0 : Nat} (h1 : 1 ≤ P) (h8 : P ≤ 8) (ht0 : t0 < P) {done : List Rec} {s : Nat × List (List Rec)} (hi : InvS P t0 done s) (r : Rec) : InvS P t0 (done ++ [r]) (stp P s r) := by
 obtain ⟨t,ls⟩ := s
 obtain ⟨a1,a2,a3,a4,N,a5,a6⟩ := hi
 simp only at a1 a2 a3 a4 a5 a6
 have key : ∀ (j : Nat) (hj : j < ls.length) (t' : Nat) (hr : r.k = true → ofP r.key P = j),(∃ N' : Nat,t' = (t0 + N') % P ∧ ∀ (q : Nat) (h : q < ls.length),zbo (if j = q then ls[q] ++ [r] else ls[q]) = (N' + P - 1 - posP P t0 q) / P) → InvS P t0 (done ++ [r]) (t',ls.set j (ls.getD j [] ++ [r])) := by
  intro j hj t' hr ⟨N',b1,b2⟩
  have hg : ls.getD j [] = ls[j] := by simp [hj]
  rw [hg]
  refine ⟨by simpa using a1,?_,?_,?_,N',b1,?_⟩
  ·intro q hq
   have hq : q < ls.length := by simpa using hq
   rw [List.getElem_set]
   split
   ·rename_i e; subst e
    exact (a2 j hj).append (List.Sublist.refl _)
   ·exact (a2 q hq).trans (List.sublist_append_left _ _)
  ·intro q hq x hx hxk
   have hq : q < ls.length := by simpa using hq
   rw [List.getElem_set] at hx
   split at hx
   ·rename_i e; subst e
    rcases List.mem_append.1 hx with hx | hx
    ·exact a3 j hj x hx hxk
    ·obtain rfl := List.mem_singleton.1 hx
     exact hr hxk
   ·exact a3 q hq x hx hxk
  ·simp only
   rw [yds ls j r hj,a4,List.length_append]; rfl
  ·intro q hq
   have hq : q < ls.length := by simpa using hq
   simp only [List.getElem_set]
   have := b2 q hq
   split
   ·rename_i e; subst e; rw [if_pos rfl] at this; exact this
   ·rename_i e; rw [if_neg e] at this; exact this
 unfold stp
 by_cases hk : r.k = true
 ·rw [if_pos hk]
  have hP : clP (P : Int) = P := by unfold clP; omega
  have hlt := zkl r.key (P : Int)
  rw [hP] at hlt
  refine key _ (by omega) t (fun _ => rfl) ⟨N,a5,fun q hq => ?_⟩
  rw [← a6 q hq]
  split
  ·unfold zbo; rw [List.countP_append]; simp [hk]
  ·rfl
 ·rw [if_neg hk]
  have htl : t < P := by rw [a5]; exact Nat.mod_lt _ (by omega)
  refine key t (by omega) ((t + 1) % P) (fun h => absurd h hk) ⟨N + 1,?_,fun q hq => ?_⟩
  ·rw [a5,Nat.mod_add_mod]; rfl
  ·have hq0 := a6 q hq
   have hqP : q < P := by omega
   have hcs : P = 1 ∨ P = 2 ∨ P = 3 ∨ P = 4 ∨ P = 5 ∨ P = 6 ∨ P = 7 ∨ P = 8 := by omega
   unfold posP at hq0 ⊢
   split
   ·rename_i e
    have : zbo (ls[q] ++ [r]) = zbo ls[q] + 1 := by unfold zbo; rw [List.countP_append]; simp [hk]
    rw [this,hq0]
    rcases hcs with rfl | rfl | rfl | rfl | rfl | rfl | rfl | rfl <;> omega
   ·rename_i e
    rw [hq0]
    rcases hcs with rfl | rfl | rfl | rfl | rfl | rfl | rfl | rfl <;> omega
theorem zzi {P t0 : Nat} (h1 : 1 ≤ P) (h8 : P ≤ 8) (ht0 : t0 < P) : ∀ (rs done : List Rec) (s : Nat × List (List Rec)),InvS P t0 done s → InvS P t0 (done ++ rs) (rs.foldl (stp P) s)
 | [],done,s,h => by rw [List.append_nil]; exact h
 | r :: rs,done,s,h => by
  have := zzi h1 h8 ht0 rs (done ++ [r]) (stp P s r) (yix h1 h8 ht0 h r)
  rw [List.append_assoc] at this
  exact this
theorem zyt (parts turn : Int) (rs : List Rec) : InvS (clP parts) ((max turn 0).toNat % clP parts) rs (runS parts turn rs) := by
 have hc := zqx parts
 have ht0 : (max turn 0).toNat % clP parts < clP parts := Nat.mod_lt _ (by omega)
 have h0 : InvS (clP parts) ((max turn 0).toNat % clP parts) [] ((max turn 0).toNat % clP parts,List.replicate (clP parts) []) := by
  refine ⟨by simp,fun j h => ?_,fun j h r hr => ?_,?_,0,?_,fun j h => ?_⟩
  ·simp
  ·simp at hr
  ·simp
  ·simp
  ·have hj : j < clP parts := by simpa using h
   have hp : posP (clP parts) ((max turn 0).toNat % clP parts) j < clP parts := Nat.mod_lt _ (by omega)
   simp only [List.getElem_replicate]
   show 0 = _
   symm
   exact Nat.div_eq_of_lt (by omega)
 have := zzi hc.1 hc.2 ht0 rs [] _ h0
 rw [List.nil_append] at this
 exact this
theorem ycw (parts turn : Int) (rs : List Rec) (p o : Nat) (hp : p < (runS parts turn rs).2.length) (ho : o < (runS parts turn rs).2.length) : zbo (runS parts turn rs).2[p] ≤ zbo (runS parts turn rs).2[o] + 1 := by
 have hc := zqx parts
 obtain ⟨a1,_,_,_,N,_,a6⟩ := zyt parts turn rs
 rw [a6 p hp,a6 o ho]
 have hp2 : posP (clP parts) ((max turn 0).toNat % clP parts) p < clP parts := Nat.mod_lt _ (by omega)
 have ho2 : posP (clP parts) ((max turn 0).toNat % clP parts) o < clP parts := Nat.mod_lt _ (by omega)
 generalize posP (clP parts) ((max turn 0).toNat % clP parts) p = A at hp2 ⊢
 generalize posP (clP parts) ((max turn 0).toNat % clP parts) o = B at ho2 ⊢
 generalize clP parts = P at hc hp2 ho2 ⊢
 have hcs : P = 1 ∨ P = 2 ∨ P = 3 ∨ P = 4 ∨ P = 5 ∨ P = 6 ∨ P = 7 ∨ P = 8 := by omega
 rcases hcs with rfl | rfl | rfl | rfl | rfl | rfl | rfl | rfl <;> omega
theorem zyn {r x : Rec} {L l : List Rec} (h : ((r :: L).map fgt).Sublist ((x :: l).map fgt)) (hne : ¬ fgt x = fgt r) : ((r :: L).map fgt).Sublist (l.map fgt) := by
 simp only [List.map_cons] at h ⊢
 generalize fgt r = a at h hne ⊢
 generalize fgt x = b at h hne
 generalize L.map fgt = M at h ⊢
 generalize l.map fgt = K at h ⊢
 generalize hA : a :: M = A at h ⊢
 cases h with
 | cons _ h => exact h
 | cons_cons _ h => exact (hne (by injection hA with h1 _; exact h1.symm)).elim
theorem ydt {r x : Rec} {L l : List Rec} (h : ((r :: L).map fgt).Sublist ((x :: l).map fgt)) (he : fgt x = fgt r) : (L.map fgt).Sublist (l.map fgt) := by
 simp only [List.map_cons] at h
 rw [he] at h
 exact List.Sublist.of_cons_cons h
end Go.Proofs.Ytdfgfdcfcdgadaa
namespace Go.Proofs.Ytdfgfdcfcdgadaa
namespace Ax
abbrev Us := List (Nat × Option Blk)
def upd : Us → (Nat → Option Blk) → Nat → Option Blk
 | [],lk,id => lk id
 | (k,b) :: r,lk,id => if k = id then b else upd r lk id
def Told (o : Out) (lk : Nat → Option Blk) (r : Option (AV × Us)) : Prop := ∀ x us,r = some (x,us) → o.p ∧ o.x = x ∧ ∀ id,look o.H id = upd us lk id
section
variable {H : Heap} {lk : Nat → Option Blk} (hl : ∀ id,look H id = lk id)
def csub (ti : TyI) (ls : List AV) (f : Nat) : Option AV :=
 bif ti.d.aggr then (if f + ti.size ≤ ls.length then some (.agg ((ls.drop f).take ti.size)) else none) else (if f < ls.length then some (slot ls f) else none)
theorem zlz {ti : TyI} {ls : List AV} {f : Nat} {x : AV} (h : csub ti ls f = some x) : (subv ti ls f H).p ∧ (subv ti ls f H).x = x ∧ (subv ti ls f H).H = H := by
 unfold csub at h
 unfold subv
 cases ha : ti.d.aggr <;> simp only [ha,cond_true,cond_false] at h ⊢ <;> split at h <;> simp_all
def yhe (T : zac) (t : TypeId) (x : AV) (lk : Nat → Option Blk) : Option (AV × Us) :=
 match T t with
 | none => none
 | some ti => match x with
  | .cp ls => (csub ti ls 0).map fun y => (y,[])
  | .rf id s i f => match lk id with
   | some blk => bif zko ti blk then (if s = 1 ∧ f = 0 then (csub ti blk.flat i).map fun y => (y,[]) else none) else (if s = blk.size ∧ i < blk.len then (csub ti (zan blk i) f).map fun y => (y,[]) else none)
   | none => none
  | _ => none
include hl in
theorem yai {T : zac} {t : TypeId} {x : AV} : Told (aLoad T t x H) lk (yhe T t x lk) := by
 intro y us h
 unfold yhe at h
 unfold aLoad
 split at h
 ·cases h
 ·rename_i ti ht
  simp only [ht]
  split at h
  ·obtain ⟨z,hz,he⟩ := Option.map_eq_some_iff.1 h
   injection he with h1 h2; subst h1 h2
   obtain ⟨a,b,c⟩ := zlz (H := H) hz
   exact ⟨a,b,fun id => by rw [c]; exact hl id⟩
  ·rename_i id s i f
   simp only [hl id]
   split at h
   ·rename_i blk hb
    simp only [hb]
    cases hm : zko ti blk <;> simp only [hm,cond_true,cond_false] at h ⊢
    all_goals
     split at h
     ·rename_i hc
      obtain ⟨z,hz,he⟩ := Option.map_eq_some_iff.1 h
      injection he with h1 h2; subst h1 h2
      obtain ⟨a,b,c⟩ := zlz (H := H) hz
      exact ⟨⟨hc,a⟩,b,fun id => by simp only [Out.and]; rw [c]; exact hl id⟩
     ·cases h
   ·cases h
  ·cases h
def ygs (blk : Blk) (i f : Nat) (x : AV) : Option Blk :=
 match blk with
 | .b bs => match x with
  | .w (.int .u8 m) => if f = 0 ∧ 0 ≤ m ∧ m < 256 then some (.b (bs.set i (UInt8.ofNat m.toNat))) else none
  | _ => none
 | .i ns => match x with
  | .w (.int .i64 m) => if f = 0 then some (.i (ns.set i m)) else none
  | _ => none
 | .g s xs => match slot xs i with
  | .agg ls => if f + x.leaves.length ≤ ls.length then some (.g s (setSlot xs i (.agg (splice ls f x.leaves)))) else none
  | _ => if f = 0 ∧ x.leaf = true then some (.g s (setSlot xs i x)) else none
 | .o _ => none
theorem yjm {blk : Blk} {i f : Nat} {x : AV} {b : Blk} (h : ygs blk i f x = some b) : (setB blk i f x).1 ∧ (setB blk i f x).2 = b := by
 cases blk with
 | b bs =>
  simp only [ygs] at h
  simp only [setB]
  split at h
  ·split at h <;> simp_all
  ·cases h
 | i ns =>
  simp only [ygs] at h
  simp only [setB]
  split at h
  ·split at h <;> simp_all
  ·cases h
 | g s xs =>
  simp only [ygs] at h
  simp only [setB]
  cases hs : slot xs i <;> simp only [hs] at h ⊢ <;> split at h <;> simp_all
 | o x => cases h
def ylv (blk : Blk) (i : Nat) (x : AV) : Option Blk :=
 match blk with
 | .b bs => match zou x.leaves with
  | some ys => if i + ys.length ≤ bs.length ∧ 0 < ys.length then some (.b (bs.take i ++ (ys ++ bs.drop (i + ys.length)))) else none
  | none => none
 | _ => none
theorem yjp {blk : Blk} {i : Nat} {x : AV} {b : Blk} (h : ylv blk i x = some b) : (layB blk i x).1 ∧ (layB blk i x).2 = b := by
 unfold ylv at h
 unfold layB
 split at h
 ·split at h
  ·rename_i ys hy
   split at h
   ·rename_i hc
    injection h with h
    simp only [hy]
    exact ⟨hc,h⟩
   ·cases h
  ·cases h
 ·cases h
def yaf (T : zac) (t : TypeId) (p x : AV) (lk : Nat → Option Blk) : Option (AV × Us) :=
 match T t,p with
 | some ti,.rf id s i f => match lk id with
  | some blk => bif zko ti blk then (if s = 1 ∧ f = 0 ∧ x.leaves.length = ti.size ∧ x.okv = true then (ylv blk i x).map fun b => (.junk,[(id,some b)]) else none) else if s = blk.size ∧ i < blk.len ∧ x.leaves.length = ti.size ∧ x.okv = true then (ygs blk i f x).map fun b => (.junk,[(id,some b)]) else none
  | none => none
 | _,_ => none
theorem zau (hl : ∀ id,look H id = lk id) {nm : Nat} {b : Blk} (id : Nat) : look (put H nm b) id = upd [(nm,some b)] lk id := by
 rw [zax]; simp only [upd]; split <;> simp [hl]
include hl in
theorem yhb {T : zac} {t : TypeId} {p x : AV} : Told (zjb T t p x H) lk (yaf T t p x lk) := by
 intro y us h
 unfold yaf at h
 unfold zjb
 split at h
 ·rename_i ti id s i f ht
  simp only [ht,hl id]
  split at h
  ·rename_i blk hb
   simp only [hb]
   cases hm : zko ti blk <;> simp only [hm,cond_true,cond_false] at h ⊢
   case true =>
    split at h
    ·rename_i hc
     obtain ⟨z,hz,he⟩ := Option.map_eq_some_iff.1 h
     injection he with h1 h2; subst h1 h2
     obtain ⟨a,b⟩ := yjp hz
     refine ⟨⟨hc.1,hc.2.1,hc.2.2.1,hc.2.2.2,a⟩,rfl,fun k => ?_⟩
     rw [b]; exact zau hl k
    ·cases h
   split at h
   ·rename_i hc
    obtain ⟨z,hz,he⟩ := Option.map_eq_some_iff.1 h
    injection he with h1 h2; subst h1 h2
    obtain ⟨a,b⟩ := yjm hz
    refine ⟨⟨hc.1,hc.2.1,hc.2.2.1,hc.2.2.2,a⟩,rfl,fun k => ?_⟩
    rw [b]; exact zau hl k
   ·cases h
  ·cases h
 ·cases h
def yde (c a b : AV) : Option (AV × Us) :=
 match c with
 | .w (.bool t) => match a,b with
  | .w (.bool x),.w (.bool y) => some (.w (.bool (bif t then x else y)),[])
  | _,.w (.bool y) => if t = false then some (.w (.bool y),[]) else none
  | .w (.bool x),_ => if t = true then some (.w (.bool x),[]) else none
  | _,_ => none
 | _ => none
include hl in
theorem yjr {c a b : AV} : Told (zps c a b H) lk (yde c a b) := by
 intro y us h
 have key : ∀ t,yde (.w (.bool t)) a b = some (y,us) → (zps (.w (.bool t)) a b H).p ∧ (zps (.w (.bool t)) a b H).x = y ∧ ∀ id,look (zps (.w (.bool t)) a b H).H id = upd us lk id := by
  intro t h
  rcases hb : b with v | _ | _ | _ | _ | _ | _ | _ | _ | _ | _ | _ <;> subst hb <;> (try rcases hv : v with x | _ | _ | _ | _ | _ | _ | _ | _ | _ | _ | _ | _ | _ | _) <;> (try subst hv) <;>
   rcases ha : a with u | _ | _ | _ | _ | _ | _ | _ | _ | _ | _ | _ <;> subst ha <;> (try rcases hu : u with z | _ | _ | _ | _ | _ | _ | _ | _ | _ | _ | _ | _ | _ | _) <;> (try subst hu) <;>
   simp only [yde] at h <;> first | (cases h; done) | (split at h <;> first | (cases h; done) | (injection h with h; injection h with h1 h2; subst h1 h2; exact ⟨by assumption,rfl,hl⟩)) | (injection h with h; injection h with h1 h2; subst h1 h2; exact ⟨trivial,rfl,hl⟩)
 unfold yde at h
 split at h
 ·exact key _ h
 ·cases h
def yap (T : zac) (nm : Nat) (e : TypeId) : Option (AV × Us) :=
 match T e with
 | some ti => bif zjx ti then (if 0 < ti.size then some (.rf nm 1 0 0,[(nm,some (.b (List.replicate ti.size 0)))]) else none) else (if 0 < ti.size then some (.rf nm ti.size 0 0,[(nm,some (.g ti.size [asv ti ti.zero]))]) else none)
 | none => none
include hl in
theorem yhk {T : zac} {nm : Nat} {e : TypeId} : Told (aAlloc T nm e H) lk (yap T nm e) := by
 intro y us h
 unfold yap at h
 unfold aAlloc
 split at h
 ·rename_i ti ht
  simp only [ht]
  cases hm : zjx ti <;> simp only [hm,cond_true,cond_false] at h ⊢
  all_goals
   split at h
   ·injection h with h; injection h with h1 h2; subst h1 h2
    exact ⟨by assumption,rfl,fun id => zau hl id⟩
   ·cases h
 ·cases h
def cBox (T : zac) (nm : Nat) (e : TypeId) (x : AV) : Option (AV × Us) :=
 match T e with
 | some ti => if 0 < ti.size ∧ x.leaves.length = ti.size ∧ x.okv = true then some (.rf nm ti.size 0 0,[(nm,some (.g ti.size [x]))]) else none
 | none => none
include hl in
theorem yme {T : zac} {nm : Nat} {e : TypeId} {x : AV} : Told (aBox T nm e x H) lk (cBox T nm e x) := by
 intro y us h
 unfold cBox at h
 unfold aBox
 split at h
 ·rename_i ti ht
  simp only [ht]
  split at h
  ·injection h with h; injection h with h1 h2; subst h1 h2
   exact ⟨by assumption,rfl,fun id => zau hl id⟩
  ·cases h
 ·cases h
def zzx (T : zac) (fs : List (Nat × TypeId)) : List (Nat × AV) → List AV → Option (List AV)
 | [],ls => some ls
 | (i,x) :: r,ls => match fs[i]? with
  | some (off,ty) => match T ty with
   | some ti => if x.leaves.length = ti.size ∧ x.okv = true ∧ off + ti.size ≤ ls.length then zzx T fs r (splice ls off x.leaves) else none
   | none => none
  | none => none
theorem zvj {T : zac} {fs : List (Nat × TypeId)} : ∀ {ps : List (Nat × AV)} {ls zs : List AV},zzx T fs ps ls = some zs → (fillS T fs ps ls).1 ∧ (fillS T fs ps ls).2 = zs
 | [],ls,zs,h => by injection h with h; exact ⟨trivial,h⟩
 | (i,x) :: r,ls,zs,h => by
  unfold zzx at h
  unfold fillS
  split at h
  ·rename_i off ty hi
   simp only [hi]
   split at h
   ·rename_i ti ht
    simp only [ht]
    split at h
    ·rename_i hc
     obtain ⟨h1,h2⟩ := zvj h
     exact ⟨⟨hc.1,hc.2.1,hc.2.2,h1⟩,h2⟩
    ·cases h
   ·cases h
  ·cases h
def yab (s : Nat) : List (Nat × AV) → List AV → Option (List AV)
 | [],ls => some ls
 | (i,x) :: r,ls => if x.leaves.length = s ∧ x.okv = true ∧ i * s + s ≤ ls.length then yab s r (splice ls (i * s) x.leaves) else none
theorem zvn {s : Nat} : ∀ {ps : List (Nat × AV)} {ls zs : List AV},yab s ps ls = some zs → (zpp s ps ls).1 ∧ (zpp s ps ls).2 = zs
 | [],ls,zs,h => by injection h with h; exact ⟨trivial,h⟩
 | (i,x) :: r,ls,zs,h => by
  unfold yab at h
  unfold zpp
  split at h
  ·rename_i hc
   obtain ⟨h1,h2⟩ := zvn h
   exact ⟨⟨hc.1,hc.2.1,hc.2.2,h1⟩,h2⟩
  ·cases h
def zvq (T : zac) : List (Nat × TypeId) → Bool
 | [] => true
 | p :: r => match T p.2 with
  | some _ => zvq T r
  | none => false
theorem zvp {T : zac} : ∀ {l : List (Nat × TypeId)},zvq T l = true → allTy T l
 | [],_ => trivial
 | p :: r,h => by
  unfold zvq at h
  unfold allTy
  split at h
  ·rename_i x hx; simp only [hx]; exact zvp h
  ·cases h
def yao (T : zac) (t : TypeId) (ps : List (Nat × AV)) : Option (AV × Us) :=
 match T t with
 | some ti => match ti.d with
  | .struct fs => bif zvq T fs then (zzx T fs ps ti.zero).map fun l => (.agg l,[]) else none
  | .arr _ e => match T e with
   | some te => (yab te.size ps ti.zero).map fun l => (.agg l,[])
   | none => none
  | _ => none
 | none => none
include hl in
theorem yhj {T : zac} {t : TypeId} {ps : List (Nat × AV)} : Told (aBuild T t ps H) lk (yao T t ps) := by
 intro y us h
 unfold yao at h
 unfold aBuild
 split at h
 ·rename_i ti ht
  simp only [ht]
  split at h
  ·rename_i fs hd
   simp only [hd]
   cases hc : zvq T fs with
   | false => rw [hc] at h; cases h
   | true =>
    rw [hc] at h
    obtain ⟨z,hz,he⟩ := Option.map_eq_some_iff.1 h
    injection he with h1 h2; subst h1 h2
    obtain ⟨a,b⟩ := zvj hz
    exact ⟨⟨zvp hc,a⟩,by rw [b],hl⟩
  ·rename_i n e hd
   simp only [hd]
   split at h
   ·rename_i te hte
    simp only [hte]
    obtain ⟨z,hz,he⟩ := Option.map_eq_some_iff.1 h
    injection he with h1 h2; subst h1 h2
    obtain ⟨a,b⟩ := zvn hz
    exact ⟨a,by rw [b],hl⟩
   ·cases h
  ·cases h
 ·cases h
def yaa : List (Nat × AV) → List UInt8 → Option (List UInt8)
 | [],bs => some bs
 | (i,x) :: r,bs => match x with
  | .w (.int .u8 m) => if i < bs.length ∧ 0 ≤ m ∧ m < 256 then yaa r (bs.set i (UInt8.ofNat m.toNat)) else none
  | _ => none
theorem zvm : ∀ {ps : List (Nat × AV)} {ls zs : List UInt8},yaa ps ls = some zs → (fillB ps ls).1 ∧ (fillB ps ls).2 = zs
 | [],ls,zs,h => by injection h with h; exact ⟨trivial,h⟩
 | (i,x) :: r,ls,zs,h => by
  unfold yaa at h
  unfold fillB
  split at h
  ·split at h
   ·rename_i hc
    obtain ⟨h1,h2⟩ := zvm h
    exact ⟨⟨hc.1,hc.2.1,hc.2.2,h1⟩,h2⟩
   ·cases h
  ·cases h
def zzy : List (Nat × AV) → List Int → Option (List Int)
 | [],ns => some ns
 | (i,x) :: r,ns => match x with
  | .w (.int .i64 m) => if i < ns.length then zzy r (ns.set i m) else none
  | _ => none
theorem zvk : ∀ {ps : List (Nat × AV)} {ls zs : List Int},zzy ps ls = some zs → (fillI ps ls).1 ∧ (fillI ps ls).2 = zs
 | [],ls,zs,h => by injection h with h; exact ⟨trivial,h⟩
 | (i,x) :: r,ls,zs,h => by
  unfold zzy at h
  unfold fillI
  split at h
  ·split at h
   ·rename_i hc
    obtain ⟨h1,h2⟩ := zvk h
    exact ⟨⟨hc,h1⟩,h2⟩
   ·cases h
  ·cases h
def zzz (s : Nat) : List (Nat × AV) → List AV → Option (List AV)
 | [],xs => some xs
 | (i,x) :: r,xs => if i < xs.length ∧ x.leaves.length = s ∧ x.okv = true then zzz s r (setSlot xs i x) else none
theorem zvl {s : Nat} : ∀ {ps : List (Nat × AV)} {ls zs : List AV},zzz s ps ls = some zs → (fillG s ps ls).1 ∧ (fillG s ps ls).2 = zs
 | [],ls,zs,h => by injection h with h; exact ⟨trivial,h⟩
 | (i,x) :: r,ls,zs,h => by
  unfold zzz at h
  unfold fillG
  split at h
  ·rename_i hc
   obtain ⟨h1,h2⟩ := zvl h
   exact ⟨⟨hc.1,hc.2.1,hc.2.2,h1⟩,h2⟩
  ·cases h
def isZ (k : IntKind) : List AV → Bool
 | [.w (.int k' n)] => decide (k' = k) && decide (n = 0)
 | _ => false
theorem zug {k : IntKind} {l : List AV} (h : isZ k l = true) : l = [.w (.int k 0)] := by
 unfold isZ at h
 split at h
 ·simp only [Bool.and_eq_true,decide_eq_true_eq] at h
  obtain ⟨rfl,rfl⟩ := h; rfl
 ·cases h
def zhe (T : zac) (nm : Nat) (t : TypeId) (n : Nat) (ps : List (Nat × AV)) : Option (AV × Us) :=
 match T t with
 | some ti => match ti.d with
  | .slice e => match T e with
   | some te => match te.d with
    | .int .u8 => if te.size = 1 ∧ isZ .u8 te.zero = true ∧ n ≤ 16777216 then (yaa ps (List.replicate n 0)).map fun l => (.ms nm 1 0 n,[(nm,some (.b l))]) else none
    | .int .i64 => if te.size = 1 ∧ isZ .i64 te.zero = true ∧ n ≤ 16777216 then (zzy ps (List.replicate n 0)).map fun l => (.ms nm 1 0 n,[(nm,some (.i l))]) else none
    | _ => if 0 < te.size ∧ n * te.size ≤ 16777216 then (zzz te.size ps (List.replicate n (asv te te.zero))).map fun l => (.ms nm te.size 0 n,[(nm,some (.g te.size l))]) else none
   | none => none
  | _ => none
 | none => none
include hl in
theorem zpr {T : zac} {nm : Nat} {t : TypeId} {n : Nat} {ps : List (Nat × AV)} : Told (aBuildSlice T nm t n ps H) lk (zhe T nm t n ps) := by
 intro y us h
 unfold zhe at h
 unfold aBuildSlice
 split at h
 ·rename_i ti ht
  simp only [ht]
  split at h
  ·rename_i e hd
   simp only [hd]
   split at h
   ·rename_i te hte
    simp only [hte]
    split at h
    ·rename_i hk
     simp only [hk]
     split at h
     ·rename_i hc
      obtain ⟨z,hz,he⟩ := Option.map_eq_some_iff.1 h
      injection he with h1 h2; subst h1 h2
      obtain ⟨a,b⟩ := zvm hz
      exact ⟨⟨hc.1,zug hc.2.1,hc.2.2,a⟩,rfl,fun id => by rw [b]; exact zau hl id⟩
     ·cases h
    ·rename_i hk
     simp only [hk]
     split at h
     ·rename_i hc
      obtain ⟨z,hz,he⟩ := Option.map_eq_some_iff.1 h
      injection he with h1 h2; subst h1 h2
      obtain ⟨a,b⟩ := zvk hz
      exact ⟨⟨hc.1,zug hc.2.1,hc.2.2,a⟩,rfl,fun id => by rw [b]; exact zau hl id⟩
     ·cases h
    ·rename_i hk1 hk2
     split
     ·rename_i he; exact (hk1 he).elim
     ·rename_i he; exact (hk2 he).elim
     ·split at h
      ·rename_i hc
       obtain ⟨z,hz,he⟩ := Option.map_eq_some_iff.1 h
       injection he with h1 h2; subst h1 h2
       obtain ⟨a,b⟩ := zvl hz
       exact ⟨⟨hc.1,hc.2,a⟩,rfl,fun id => by rw [b]; exact zau hl id⟩
      ·cases h
   ·cases h
  ·cases h
 ·cases h
def cNil (x : AV) (lk : Nat → Option Blk) : Option (AV × Us) :=
 match x with
 | .rf id s i f => match lk id with
  | some _ => if s ≠ 0 then some (.rf id s i f,[]) else none
  | none => none
 | .cp ls => some (.cp ls,[])
 | .fn f cs => some (.fn f cs,[])
 | _ => none
include hl in
theorem ylz {x : AV} : Told (aNil x H) lk (cNil x lk) := by
 intro y us h
 unfold cNil at h
 unfold aNil
 split at h
 ·rename_i id s i f
  simp only [hl id]
  split at h
  ·rename_i b hb
   simp only [hb]
   split at h
   ·injection h with h; injection h with h1 h2; subst h1 h2
    exact ⟨by assumption,rfl,hl⟩
   ·cases h
  ·cases h
 ·injection h with h; injection h with h1 h2; subst h1 h2; exact ⟨trivial,rfl,hl⟩
 ·injection h with h; injection h with h1 h2; subst h1 h2; exact ⟨trivial,rfl,hl⟩
 ·cases h
def cInt (op : BinOp) (k : IntKind) (a : Int) (k' : IntKind) (b : Int) : Option Value :=
 match op with
 | .shl => if 0 ≤ b then some (.int k (k.wrap (a * 2 ^ min b.toNat k.bits))) else none
 | .shr => if 0 ≤ b then some (.int k (a / 2 ^ min b.toNat k.bits)) else none
 | .add => if k = k' then some (.int k (k.wrap (a + b))) else none
 | .sub => if k = k' then some (.int k (k.wrap (a - b))) else none
 | .mul => if k = k' then some (.int k (k.wrap (a * b))) else none
 | .quo => if k = k' ∧ b ≠ 0 then some (.int k (k.wrap (a.tdiv b))) else none
 | .rem => if k = k' ∧ b ≠ 0 then some (.int k (a.tmod b)) else none
 | .and => if k = k' then some (.int k (bits .and k a b)) else none
 | .or => if k = k' then some (.int k (bits .or k a b)) else none
 | .xor => if k = k' then some (.int k (bits .xor k a b)) else none
 | .andNot => if k = k' then some (.int k (bits .andNot k a b)) else none
 | .eql => if k = k' then some (.bool (decide (a = b))) else none
 | .neq => if k = k' then some (.bool (!decide (a = b))) else none
 | .lss => if k = k' then some (.bool (decide (a < b))) else none
 | .leq => if k = k' then some (.bool (decide (a ≤ b))) else none
 | .gtr => if k = k' then some (.bool (decide (b < a))) else none
 | .geq => if k = k' then some (.bool (decide (b ≤ a))) else none
theorem ymd {op : BinOp} {k k' : IntKind} {a b : Int} {v : Value} (h : cInt op k a k' b = some v) : (aInt op k a k' b).1 ∧ (aInt op k a k' b).2 = v := by
 cases op <;> simp only [cInt] at h <;> simp only [aInt] <;> split at h <;> first | (injection h with h; exact ⟨by assumption,h⟩) | cases h
def cStr (op : BinOp) (a b : List UInt8) : Option AV :=
 match op with
 | .add => if a.length + b.length ≤ 1099511627776 then some (.str (a ++ b)) else none
 | .eql => some (.w (.bool (decide (a = b))))
 | .neq => some (.w (.bool (!decide (a = b))))
 | .lss => some (.w (.bool (Op.bytesLess a b)))
 | .leq => some (.w (.bool (Op.bytesLess a b || decide (a = b))))
 | .gtr => some (.w (.bool (!(Op.bytesLess a b || decide (a = b)))))
 | .geq => some (.w (.bool (!(Op.bytesLess a b))))
 | _ => none
theorem yly {op : BinOp} {a b : List UInt8} {v : AV} (h : cStr op a b = some v) : (aStr op a b).1 ∧ (aStr op a b).2 = v := by
 cases op <;> simp only [cStr] at h <;> simp only [aStr] <;> first | cases h | (split at h <;> first | cases h | (injection h with h; exact ⟨by assumption,h⟩)) | (injection h with h; exact ⟨trivial,h⟩)
 all_goals first | exact ⟨trivial,rfl⟩ | trivial
def cEq (op : BinOp) (r : Bool) : Option (AV × Us) :=
 match op with
 | .eql => some (.w (.bool r),[])
 | .neq => some (.w (.bool (!r)),[])
 | _ => none
include hl in
theorem yal {op : BinOp} {r : Bool} : Told (aEq op r H) lk (cEq op r) := by
 intro y us h
 cases op <;> simp only [cEq] at h <;> first | cases h | skip
 all_goals (exact ⟨trivial,rfl,hl⟩)
def zzw (T : zac) (t : TypeId) : Bool :=
 match T t with
 | some ti => match ti.d with
  | .ptr => true
  | _ => false
 | none => false
theorem zvi {T : zac} {t : TypeId} (h : zzw T t = true) : isPtr T t := by
 unfold zzw at h; unfold isPtr; split at h
 ·rename_i ti ht; simp only [ht]; split at h
  ·rename_i hd; simp only [hd]
  ·cases h
 ·cases h
def zxs (T : zac) (t : TypeId) : Bool :=
 match T t with
 | some ti => match ti.d with
  | .bool => true
  | _ => false
 | none => false
theorem ydb {T : zac} {t : TypeId} (h : zxs T t = true) : isBool T t := by
 unfold zxs at h; unfold isBool; split at h
 ·rename_i ti ht; simp only [ht]; split at h
  ·rename_i hd; simp only [hd]
  ·cases h
 ·cases h
def zld (T : zac) (t : TypeId) : Bool :=
 match T t with
 | some ti => match ti.d with
  | .struct _ => true
  | _ => false
 | none => false
theorem zvh {T : zac} {t : TypeId} (h : zld T t = true) : isStruct T t := by
 unfold zld at h; unfold isStruct; split at h
 ·rename_i ti ht; simp only [ht]; split at h
  ·rename_i hd; simp only [hd]
  ·cases h
 ·cases h
def ceqF (S : TypeId → AV → AV → Option Bool) (T : zac) : List (Nat × TypeId) → List AV → List AV → Option Bool
 | [],_,_ => some true
 | p :: r,xs,ys => match T p.2 with
  | none => none
  | some te => match csub te xs p.1,csub te ys p.1 with
   | some a,some b => match S p.2 a b with
    | some u => match ceqF S T r xs ys with
     | some v => some (u && v)
     | none => none
    | none => none
   | _,_ => none
def ceqV (T : zac) : Nat → TypeId → AV → AV → Option Bool
 | 0,_,_,_ => none
 | n + 1,t,x,y => match T t with
  | none => none
  | some i => match i.d with
   | .int _ => match x,y with
    | .w (.int k1 a),.w (.int k2 b) => if k1 = k2 then some (decide (a = b)) else none
    | _,_ => none
   | .bool => match x,y with
    | .w (.bool a),.w (.bool b) => some (a == b)
    | _,_ => none
   | .str => match x,y with
    | .str a,.str b => some (decide (a = b))
    | _,_ => none
   | .struct fs => match x,y with
    | .agg xs,.agg ys => ceqF (ceqV T n) T fs xs ys
    | _,_ => none
   | _ => none
theorem ygy {T : zac} {S : TypeId → AV → AV → Prop × Bool} {S' : TypeId → AV → AV → Option Bool} (hS : ∀ t x y b,S' t x y = some b → (S t x y).1 ∧ (S t x y).2 = b) :
  ∀ {fs : List (Nat × TypeId)} {xs ys : List AV} {b : Bool},ceqF S' T fs xs ys = some b → (eqF S T fs xs ys).1 ∧ (eqF S T fs xs ys).2 = b
 | [],xs,ys,b,h => by injection h with h; exact ⟨trivial,h⟩
 | p :: r,xs,ys,b,h => by
  unfold ceqF at h
  unfold eqF
  split at h
  ·cases h
  ·rename_i te ht
   simp only [ht]
   split at h
   ·rename_i a c ha hc
    split at h
    ·rename_i u hu
     split at h
     ·rename_i v hv
      injection h with h
      obtain ⟨a1,a2,_⟩ := zlz (H := []) ha
      obtain ⟨b1,b2,_⟩ := zlz (H := []) hc
      obtain ⟨c1,c2⟩ := hS _ _ _ _ hu
      obtain ⟨d1,d2⟩ := ygy hS hv
      rw [a2,b2]
      exact ⟨⟨a1,b1,c1,d1⟩,by rw [c2,d2,h]⟩
     ·cases h
    ·cases h
   ·cases h
theorem zot {T : zac} : ∀ (n : Nat) (t : TypeId) (x y : AV) (b : Bool),ceqV T n t x y = some b → (eqV T n t x y).1 ∧ (eqV T n t x y).2 = b
 | 0,t,x,y,b,h => by cases h
 | n + 1,t,x,y,b,h => by
  unfold ceqV at h
  unfold eqV
  split at h
  ·cases h
  ·rename_i i hi
   simp only [hi]
   split at h
   ·rename_i hd
    simp only [hd]
    split at h
    ·split at h
     ·injection h with h; exact ⟨by assumption,h⟩
     ·cases h
    ·cases h
   ·rename_i hd
    simp only [hd]
    split at h
    ·injection h with h; exact ⟨trivial,h⟩
    ·cases h
   ·rename_i hd
    simp only [hd]
    split at h
    ·injection h with h; exact ⟨trivial,h⟩
    ·cases h
   ·rename_i hd
    simp only [hd]
    split at h
    ·exact ygy (zot n) h
    ·cases h
   ·cases h
def cBin (T : zac) (op : BinOp) (t : TypeId) (x y : AV) (lk : Nat → Option Blk) : Option (AV × Us) :=
 match x,y with
 | .w (.int k a),.w (.int k' b) => (cInt op k a k' b).map fun v => (.w v,[])
 | .str a,.str b => (cStr op a b).map fun v => (v,[])
 | .w (.bool a),.w (.bool b) => bif zxs T t then cEq op (a == b) else none
 | .rf id s _ _,.w (.pointer none) => match lk id with
  | some _ => bif decide (s ≠ 0) && zzw T t then cEq op false else none
  | none => none
 | .w (.pointer none),.w (.pointer none) => bif zzw T t then cEq op true else none
 | .agg xs,.agg ys => match ceqV T 4 t (.agg xs) (.agg ys) with
  | some r => bif zld T t then cEq op r else none
  | none => none
 | _,_ => none
theorem Told.and {q : Prop} {o : Out} {r : Option (AV × Us)} (h : Told o lk r) (hq : q) : Told (o.and q) lk r := fun x us e => let ⟨a,b,c⟩ := h x us e; ⟨⟨hq,a⟩,b,c⟩
theorem Told.cond {q : Prop} {b : Bool} {o : Out} {r : Option (AV × Us)} (h : Told o lk r) (hq : b = true → q) : Told (o.and q) lk (bif b then r else none) := by
 cases b with
 | true => exact h.and (hq rfl)
 | false => intro x us e; cases e
include hl in
theorem ymf {T : zac} {op : BinOp} {t : TypeId} {x y : AV} : Told (aBin T op t x y H) lk (cBin T op t x y lk) := by
 intro z us h
 unfold cBin at h
 split at h
 ·obtain ⟨v,hv,he⟩ := Option.map_eq_some_iff.1 h
  injection he with h1 h2; subst h1 h2
  obtain ⟨a,b⟩ := ymd hv
  exact ⟨a,by simp only [aBin,b],hl⟩
 ·obtain ⟨v,hv,he⟩ := Option.map_eq_some_iff.1 h
  injection he with h1 h2; subst h1 h2
  obtain ⟨a,b⟩ := yly hv
  exact ⟨a,b,hl⟩
 ·exact ((yal hl).cond (q := isBool T t) ydb) z us h
 ·rename_i id s _ _
  split at h
  ·rename_i bk hb
   have hb' : look H id = some bk := (hl id).trans hb
   have := ((yal hl).cond (q := s ≠ 0 ∧ isPtr T t) fun h => by
    simp only [Bool.and_eq_true,decide_eq_true_eq] at h
    exact ⟨h.1,zvi h.2⟩) z us h
   simp only [aBin,hb']
   exact this
  ·cases h
 ·exact ((yal hl).cond (q := isPtr T t) zvi) z us h
 ·rename_i xs ys
  split at h
  ·rename_i r hr
   obtain ⟨a,b⟩ := zot _ _ _ _ _ hr
   simp only [aBin]
   rw [b]
   cases hc : zld T t with
   | true =>
    rw [hc] at h
    exact (yal hl).and ⟨zvh hc,a⟩ z us h
   | false => rw [hc] at h; cases h
  ·cases h
 ·cases h
def cUn (op : UnOp) (x : AV) : Option (AV × Us) :=
 match op,x with
 | .not,.w (.bool b) => some (.w (.bool (!b)),[])
 | .neg,.w (.int k n) => some (.w (.int k (k.wrap (0 - n))),[])
 | .xor,.w (.int k n) => some (.w (.int k (bits .xor k (bif k.signed then -1 else k.max) n)),[])
 | _,_ => none
include hl in
theorem ynt {op : UnOp} {x : AV} : Told (aUn op x H) lk (cUn op x) := by
 intro y us h
 unfold cUn at h
 unfold aUn
 split at h <;> first | cases h | (injection h with h; injection h with h1 h2; subst h1 h2; exact ⟨trivial,rfl,hl⟩)
 all_goals exact ⟨trivial,rfl,hl⟩
def zvd (lk : Nat → Option Blk) (x : AV) : Option (List UInt8) :=
 match x with
 | .sb bs _ => some bs
 | .sg _ [] _ => some []
 | .ms id s off len => match lk id with
  | some (.b bs) => if s = 1 ∧ off + len ≤ bs.length then some ((bs.drop off).take len) else none
  | _ => none
 | _ => none
include hl in
theorem zon {x : AV} {l : List UInt8} (h : zvd lk x = some l) : (zfb H x).1 ∧ (zfb H x).2 = l := by
 unfold zvd at h
 unfold zfb
 split at h
 ·injection h with h; exact ⟨trivial,h⟩
 ·injection h with h; exact ⟨trivial,h⟩
 ·rename_i id s off len
  simp only [hl id]
  split at h
  ·rename_i bs hb
   simp only [hb]
   split at h
   ·injection h with h; exact ⟨by assumption,h⟩
   ·cases h
  ·cases h
 ·cases h
def ygp (lk : Nat → Option Blk) (x : AV) : Option (List Int) :=
 match x with
 | .si ns _ => some ns
 | .sg _ [] _ => some []
 | .ms id s off len => match lk id with
  | some (.i ns) => if s = 1 ∧ off + len ≤ ns.length then some ((ns.drop off).take len) else none
  | _ => none
 | _ => none
include hl in
theorem ygo {x : AV} {l : List Int} (h : ygp lk x = some l) : (zhl H x).1 ∧ (zhl H x).2 = l := by
 unfold ygp at h
 unfold zhl
 split at h
 ·injection h with h; exact ⟨trivial,h⟩
 ·injection h with h; exact ⟨trivial,h⟩
 ·rename_i id s off len
  simp only [hl id]
  split at h
  ·rename_i bs hb
   simp only [hb]
   split at h
   ·injection h with h; exact ⟨by assumption,h⟩
   ·cases h
  ·cases h
 ·cases h
def ygr (s : Nat) (lk : Nat → Option Blk) (x : AV) : Option (List AV) :=
 match x with
 | .sg s' xs _ => bif xs.isEmpty || decide (s' = s) then some xs else none
 | .ms id s' off len => match lk id with
  | some (.g s'' xs) => if s' = s ∧ s'' = s ∧ off + len ≤ xs.length then some ((xs.drop off).take len) else none
  | _ => none
 | _ => none
include hl in
theorem ygq {s : Nat} {x : AV} {l : List AV} (h : ygr s lk x = some l) : (zfa s H x).1 ∧ (zfa s H x).2 = l := by
 unfold ygr at h
 unfold zfa
 split at h
 ·rename_i s' xs f
  cases hc : xs.isEmpty || decide (s' = s) with
  | true =>
   rw [hc] at h
   injection h with h
   refine ⟨?_,h⟩
   simp only [Bool.or_eq_true,List.isEmpty_iff,decide_eq_true_eq] at hc
   exact hc
  | false => rw [hc] at h; cases h
 ·rename_i id s off len
  simp only [hl id]
  split at h
  ·rename_i bs hb
   simp only [hb]
   split at h
   ·injection h with h; exact ⟨by assumption,h⟩
   ·cases h
  ·cases h
 ·cases h
def zfz (T : zac) (t : TypeId) : Bool :=
 match T t with
 | some ti => match ti.d with
  | .slice e => match T e with
   | some te => match te.d with
    | .int .u8 => true
    | _ => false
   | none => false
  | _ => false
 | none => false
theorem zjv {T : zac} {t : TypeId} (h : zfz T t = true) : isBytes T t := by
 unfold zfz at h; unfold isBytes; split at h
 ·rename_i ti ht; simp only [ht]; split at h
  ·rename_i e hd; simp only [hd]; split at h
   ·rename_i te hte; simp only [hte]; split at h
    ·rename_i hk; simp only [hk]
    ·cases h
   ·cases h
  ·cases h
 ·cases h
def yjz (T : zac) (src dst : TypeId) (nm : Nat) (x : AV) (lk : Nat → Option Blk) : Option (AV × Us) :=
 match T src,T dst with
 | some _,some b => match b.d with
  | .int k => match x with
   | .w (.int _ n) => some (.w (.int k (k.wrap n)),[])
   | _ => none
  | .str => match x with
   | .str bs => some (.str bs,[])
   | _ => bif zfz T src then (zvd lk x).map fun l => (.str l,[]) else none
  | .slice _ => match x with
   | .str bs => bif zfz T dst && decide (bs.length ≤ 9223372036854775807) then some (.ms nm 1 0 bs.length,[(nm,some (.b bs))]) else none
   | .ms id s off len => match lk id with
    | some blk => bif zfz T dst && (decide (src = dst) && (decide (0 < blk.len) && decide (blk.size = 1))) then some (.ms id s off len,[(id,some blk)]) else none
    | none => none
   | _ => none
  | _ => none
 | _,_ => none
include hl in
theorem yjy {T : zac} {src dst : TypeId} {nm : Nat} {x : AV} : Told (zkb T src dst nm x H) lk (yjz T src dst nm x lk) := by
 intro y us h
 unfold yjz at h
 unfold zkb
 split at h
 ·rename_i a b ha hb
  simp only [ha,hb]
  split at h
  ·rename_i k hk
   simp only [hk]
   split at h
   ·injection h with h; injection h with h1 h2; subst h1 h2; exact ⟨trivial,rfl,hl⟩
   ·cases h
  ·rename_i hk
   simp only [hk]
   split at h
   ·injection h with h; injection h with h1 h2; subst h1 h2; exact ⟨trivial,rfl,hl⟩
   ·rename_i hx
    split
    ·rename_i bs; exact (hx bs rfl).elim
    ·cases hc : zfz T src with
     | true =>
      rw [hc] at h
      obtain ⟨v,hv,he⟩ := Option.map_eq_some_iff.1 h
      injection he with h1 h2; subst h1 h2
      obtain ⟨p,q⟩ := zon hl hv
      exact ⟨⟨zjv hc,p⟩,by simp only [q],hl⟩
     | false => rw [hc] at h; cases h
  ·rename_i e hk
   simp only [hk]
   split at h
   ·rename_i bs
    cases hc : (zfz T dst && decide (bs.length ≤ 9223372036854775807)) with
    | true =>
     rw [hc] at h
     injection h with h; injection h with h1 h2; subst h1 h2
     simp only [Bool.and_eq_true,decide_eq_true_eq] at hc
     exact ⟨⟨zjv hc.1,hc.2⟩,rfl,fun id => zau hl id⟩
    | false => rw [hc] at h; cases h
   ·rename_i id s off len
    simp only [hl id]
    split at h
    ·rename_i blk hbk
     simp only [hbk]
     cases hc : (zfz T dst && (decide (src = dst) && (decide (0 < blk.len) && decide (blk.size = 1)))) with
     | true =>
      rw [hc] at h
      injection h with h; injection h with h1 h2; subst h1 h2
      simp only [Bool.and_eq_true,decide_eq_true_eq] at hc
      exact ⟨⟨zjv hc.1,hc.2⟩,rfl,fun id => zau hl id⟩
     | false => rw [hc] at h; cases h
    ·cases h
   ·cases h
  ·cases h
 ·cases h
end
end Ax
end Go.Proofs.Ytdfgfdcfcdgadaa
