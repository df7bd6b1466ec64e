/- What the proofs of this seat stand on; it asks nothing. -/
import Derived.Test.YtmedjkjoannbmaaZa12
import Derived.Test.YtmedjkjoannbmaaZb00
import Derived.Test.YtmedjkjoannbmaaZc00
set_option linter.unusedSimpArgs false
set_option linter.unusedVariables false
namespace Go.Proofs.Ytmedjkjoannbmaa
open Ax
def lightB22 (x : Bat) : Prop := x.rs.length ≤ 40 ∧ ∀ r ∈ x.rs,lightR r
instance (x : Bat) : Decidable (lightB22 x) := by unfold lightB22; infer_instance
def zfa (l : List Bat) (n : Int) : Prop := ¬ n < l.length ∧ ∀ x ∈ l,lightB22 x
instance (l : List Bat) (n : Int) : Decidable (zfa l n) := by unfold zfa; infer_instance
def lallS22 : zai
 | [.sg 6 xs f,.w (.int .i64 n)],[] => ⟨xs.length ≤ 9223372036854775807 ∧ ∃ es : List (Bat × Bool),xs = es.map bvp ∧ ∀ p ∈ es,p.1.rs.length ≤ 9223372036854775807,.w (.bool (decide (zfa (xs.map ubat) n))),[]⟩
 | _,_ => zba
def Slall22 (f : FuncId) : Option zai :=
 match f with
 | 25 => some blightS4
 | _ => none
theorem Slall22_ok : Fns Try.prog Slall22 := by
 intro f s h
 unfold Slall22 at h
 split at h
 · injection h with h; subst h; exact ⟨⟨_,Try.func25,by kernel_rfl,by kernel_rfl⟩,blight4_sound⟩
 · cases h
section
set_option maxRecDepth 100000
set_option maxHeartbeats 4000000 in
theorem lall22_sound : zaq Try.prog 35 lallS22 := by
 refine zbo (S := Slall22) (T := ty) zas ty_ok Slall22_ok Try.func35 (c := Try.f35.body.getD .skip) (by kernel_rfl) (by kernel_rfl) (fun xs pins hp _ => ?_)
 unfold lallS22 at hp ⊢
 split at hp
 · rename_i xs f n _
   obtain ⟨hL,l,rfl,hrs⟩ := hp
   rw [List.length_map] at hL
   have hle : (l.map bvp).length = l.length := by simp
   have hlf : (l.map Prod.fst).length = l.length := by simp
   rw [zez]
   refine ⟨by simp,?_⟩
   unfold Try.f35
   by_cases hn : n < l.length
   · have d1 : decide (n < (l.length : Int)) = true := decide_eq_true hn
     have hno : decide (zfa (l.map Prod.fst) n) = false := decide_eq_false (fun h => h.1 (by rw [hlf]; exact hn))
     rw [hno]
     simp only [go_sem,coe,zaa,Nat.reduceAdd,Nat.reduceSub,Nat.reduceMul,Int.reduceToNat,reduceCtorEq,↓reduceIte,Int.reducePow,Nat.reducePow,Int.reduceMod,Nat.reduceLeDiff,Int.reduceLE,Int.reduceNe,Int.reduceEq,Nat.reduceEqDiff,Nat.reduceLT,Nat.reduceBEq,ty,Slall22,hle,d1]
     exact zao 4 rfl
   · have d1 : decide (n < (l.length : Int)) = false := decide_eq_false hn
     simp only [go_sem,coe,zaa,Nat.reduceAdd,Nat.reduceSub,Nat.reduceMul,Int.reduceToNat,reduceCtorEq,↓reduceIte,Int.reducePow,Nat.reducePow,Int.reduceMod,Nat.reduceLeDiff,Int.reduceLE,Int.reduceNe,Int.reduceEq,Nat.reduceEqDiff,Nat.reduceLT,Nat.reduceBEq,ty,Slall22,hle,d1]
     refine zca ⟨fun m σ => ∃ i : Nat,m = l.length - i ∧ i ≤ l.length ∧ (∀ p ∈ l.take i,lightB22 p.1) ∧
       σ = ⟨[.sg 6 (l.map bvp) f,.w (.int .i64 n),.junk,.junk,.junk,.w (.int .i64 i),.junk,.junk,.junk,.junk,.junk,.junk,.junk,.junk,.junk,.junk,.junk,.junk,.junk,.junk,.junk,.junk],[],4⟩,?_,?_⟩
     · refine ⟨_,_,zad [0,1,2,3] rfl rfl rfl ?_ ?_,0,rfl,by omega,by simp,rfl⟩
       · simp only [ssT,zae,zaf,setSlot,gOf,AV.ren,renL,Blk.ren,Ax.look,Ax.put,reduceCtorEq,↓reduceIte,Nat.reduceEqDiff,Nat.reduceLT,Nat.reduceAdd,List.length_append,List.length_cons,List.length_nil,Option.some.injEq]; try simp
       · simp only [ssT,zae,zaf,setSlot,gOf,AV.ren,renL,Blk.ren,Ax.look,Ax.put,reduceCtorEq,↓reduceIte,Nat.reduceEqDiff,Nat.reduceLT,Nat.reduceAdd,List.length_append,List.length_cons,List.length_nil,Option.some.injEq]
     · rintro m σ ⟨i,rfl,hi,hall,rfl⟩
       by_cases hil : i < l.length
       · have d2 : decide ((i : Int) < l.length) = true := decide_eq_true (by omega)
         have e1 : ((i : Int) + 1 + 9223372036854775808) % 18446744073709551616 - 9223372036854775808 = ((i + 1 : Nat) : Int) := by omega
         have hs1 := slot_bvp l i hil
         have hr1 := hrs l[i] (List.getElem_mem hil)
         have hmem : l[i].1 ∈ l.map Prod.fst := List.mem_map.2 ⟨l[i],List.getElem_mem hil,rfl⟩
         have htake : l.take (i + 1) = l.take i ++ [l[i]] := List.take_succ_eq_append_getElem hil
         obtain ⟨P,hP⟩ : ∃ P,l[i] = P := ⟨_,rfl⟩
         rw [hP] at hs1 hr1 hmem htake
         obtain ⟨⟨b,c,p,e,s,rs⟩,f'⟩ := P
         simp only at hr1 hmem
         have hs1 : slot (l.map bvp) i = .agg [.w (.int .i64 b),.w (.int .i64 c),.w (.int .i64 p),.w (.int .i64 e),.w (.int .i64 s),.sg 6 (rs.map rv) f'] := hs1
         have hrl : (rs.map rv).length = rs.length := by simp
         have hx1 : ∃ k : List Rec,rs.map rv = k.map rv := ⟨rs,rfl⟩
         have hc1 : coe ty 22 (.sg 6 (rs.map rv) f') = .sg 6 (rs.map rv) f' := by cases rs <;> rfl
         have hmr := zah rs
         by_cases hb : rs.length ≤ 40 ∧ ∀ r ∈ rs,lightR r
         · have d3 := decide_eq_true hb
           simp only [go_sem,zaa,Nat.reduceAdd,Nat.reduceSub,Nat.reduceMul,Int.reduceToNat,reduceCtorEq,↓reduceIte,Int.reducePow,Nat.reducePow,Int.reduceMod,Nat.reduceLeDiff,Int.reduceLE,Int.reduceNe,Int.reduceEq,Nat.reduceEqDiff,Nat.reduceLT,Nat.reduceBEq,ty,Slall22,blightS4,hle,d2,e1,hs1,hr1,hrl,hx1,hc1,hmr,d3,Int.toNat_natCast]
           repeat (refine And.intro (by omega) ?_)
           refine ⟨l.length - (i + 1),_,by omega,zad [0,1,2,3] rfl rfl rfl ?_ ?_,i + 1,rfl,by omega,?_,rfl⟩
           · simp only [ssT,zae,zaf,setSlot,gOf,AV.ren,renL,Blk.ren,Ax.look,Ax.put,reduceCtorEq,↓reduceIte,Nat.reduceEqDiff,Nat.reduceLT,Nat.reduceAdd,List.length_append,List.length_cons,List.length_nil,Option.some.injEq]
           · simp only [ssT,zae,zaf,setSlot,gOf,AV.ren,renL,Blk.ren,Ax.look,Ax.put,reduceCtorEq,↓reduceIte,Nat.reduceEqDiff,Nat.reduceLT,Nat.reduceAdd,List.length_append,List.length_cons,List.length_nil,Option.some.injEq]
           · intro q hq
             rw [htake,List.mem_append,List.mem_singleton] at hq
             rcases hq with hq | rfl
             · exact hall q hq
             · exact hb
         · have d3 := decide_eq_false hb
           have hno : decide (zfa (l.map Prod.fst) n) = false := decide_eq_false (fun h => hb (h.2 _ hmem))
           rw [hno]
           simp only [go_sem,zaa,Nat.reduceAdd,Nat.reduceSub,Nat.reduceMul,Int.reduceToNat,reduceCtorEq,↓reduceIte,Int.reducePow,Nat.reducePow,Int.reduceMod,Nat.reduceLeDiff,Int.reduceLE,Int.reduceNe,Int.reduceEq,Nat.reduceEqDiff,Nat.reduceLT,Nat.reduceBEq,ty,Slall22,blightS4,hle,d2,e1,hs1,hr1,hrl,hx1,hc1,hmr,d3,Int.toNat_natCast]
           repeat (refine And.intro (by omega) ?_)
           refine ⟨_,Weak.refl _,?_⟩
           simp only [go_sem,coe,zaa,Nat.reduceAdd,Nat.reduceSub,Nat.reduceMul,Int.reduceToNat,reduceCtorEq,↓reduceIte,Int.reducePow,Nat.reducePow,Int.reduceMod,Nat.reduceLeDiff,Int.reduceLE,Int.reduceNe,Int.reduceEq,Nat.reduceEqDiff,Nat.reduceLT,Nat.reduceBEq,ty,Slall22]
           exact zao 4 rfl
       · have d2 : decide ((i : Int) < l.length) = false := decide_eq_false (by omega)
         have hyes : decide (zfa (l.map Prod.fst) n) = true := decide_eq_true ⟨by rw [hlf]; exact hn,by
           intro x hx
           obtain ⟨p,hp,rfl⟩ := List.mem_map.1 hx
           exact hall p (by rw [List.take_of_length_le (by omega)]; exact hp)⟩
         rw [hyes]
         simp only [go_sem,coe,zaa,Nat.reduceAdd,Nat.reduceSub,Nat.reduceMul,Int.reduceToNat,reduceCtorEq,↓reduceIte,Int.reducePow,Nat.reducePow,Int.reduceMod,Nat.reduceLeDiff,Int.reduceLE,Int.reduceNe,Int.reduceEq,Nat.reduceEqDiff,Nat.reduceLT,Nat.reduceBEq,ty,Slall22,hle,d2]
         refine ⟨_,Weak.refl _,?_⟩
         simp only [go_sem,coe,zaa,Nat.reduceAdd,Nat.reduceSub,Nat.reduceMul,Int.reduceToNat,reduceCtorEq,↓reduceIte,Int.reducePow,Nat.reducePow,Int.reduceMod,Nat.reduceLeDiff,Int.reduceLE,Int.reduceNe,Int.reduceEq,Nat.reduceEqDiff,Nat.reduceLT,Nat.reduceBEq,ty,Slall22]
         exact zao 4 rfl
 · exact hp.elim
end
def lightA22 (bl : List Bat) (np : Nat) (ns : List (List UInt8)) : Prop := np ≤ 80 ∧ ns.length ≤ 80 ∧ zfa bl 70 ∧ ∀ s ∈ ns,s.length ≤ 400
instance (bl : List Bat) (np : Nat) (ns : List (List UInt8)) : Decidable (lightA22 bl np ns) := by unfold lightA22; infer_instance
def lrpS22 : zai
 | [.agg [.w (.int .u8 k),.w (.int .i64 er),.w (.int .i64 o),.w (.int .i64 x),.w (.bool d),.w (.int .i64 g),.sg 6 bs f1,.si ps f2,.sg 1 ns f3]],[] =>
     ⟨(bs.length ≤ 9223372036854775807 ∧ ∃ es : List (Bat × Bool),bs = es.map bvp ∧ ∀ p ∈ es,p.1.rs.length ≤ 9223372036854775807) ∧ ps.length ≤ 9223372036854775807 ∧ ns.length ≤ 9223372036854775807 ∧ ∃ ks : List (List UInt8),ns = ks.map AV.str ∧ ∀ s ∈ ks,s.length ≤ 9223372036854775807,
       .w (.bool (decide (lightA22 (bs.map ubat) ps.length (ns.map zel)))),[]⟩
 | _,_ => zba
def Slrp22 (f : FuncId) : Option zai :=
 match f with
 | 35 => some lallS22
 | _ => none
theorem Slrp22_ok : Fns Try.prog Slrp22 := by
 intro f s h
 unfold Slrp22 at h
 split at h
 · injection h with h; subst h; exact ⟨⟨_,Try.func35,by kernel_rfl,by kernel_rfl⟩,lall22_sound⟩
 · cases h
section
set_option maxRecDepth 100000
set_option maxHeartbeats 4000000 in
theorem lrp22_sound : zaq Try.prog 16 lrpS22 := by
 refine zbo (S := Slrp22) (T := ty) zas ty_ok Slrp22_ok Try.func16 (c := Try.f16.body.getD .skip) (by kernel_rfl) (by kernel_rfl) (fun xs pins hp _ => ?_)
 unfold lrpS22 at hp ⊢
 split at hp
 · rename_i k er o x d g bs f1 ps f2 ns f3 _
   obtain ⟨⟨h1,es,rfl,h2⟩,h3,h4,ks,rfl,h5⟩ := hp
   have hel : (es.map bvp).length = es.length := by simp
   have hkl : (ks.map AV.str).length = ks.length := by simp
   rw [hkl] at h4
   have hx1 : ∃ gs : List (Bat × Bool),es.map bvp = gs.map bvp ∧ ∀ p ∈ gs,p.1.rs.length ≤ 9223372036854775807 := ⟨es,rfl,h2⟩
   have hc1 := zex es f1
   rw [zbj]
   generalize es.map bvp = X at *
   obtain ⟨V,hV⟩ : ∃ V,X.map ubat = V := ⟨_,rfl⟩
   rw [hV]
   refine ⟨by simp,?_⟩
   unfold Try.f16
   by_cases g1 : ps.length ≤ 80
   case neg =>
     have d1 : decide ((80 : Int) < ps.length) = true := decide_eq_true (by omega)
     rw [decide_eq_false (fun h => g1 h.1)]
     simp only [go_sem,zaa,Nat.reduceAdd,Nat.reduceSub,Nat.reduceMul,Int.reduceToNat,reduceCtorEq,↓reduceIte,Int.reducePow,Nat.reducePow,Int.reduceMod,Nat.reduceLeDiff,Int.reduceLE,Int.reduceNe,Int.reduceEq,Nat.reduceEqDiff,Nat.reduceLT,Nat.reduceBEq,ty,Slrp22,d1]
     exact zao 2 rfl
   have d1 : decide ((80 : Int) < ps.length) = false := decide_eq_false (by omega)
   by_cases g2 : ks.length ≤ 80
   case neg =>
     have d2 : decide ((80 : Int) < ks.length) = true := decide_eq_true (by omega)
     rw [decide_eq_false (fun h => g2 h.2.1)]
     simp only [go_sem,zaa,Nat.reduceAdd,Nat.reduceSub,Nat.reduceMul,Int.reduceToNat,reduceCtorEq,↓reduceIte,Int.reducePow,Nat.reducePow,Int.reduceMod,Nat.reduceLeDiff,Int.reduceLE,Int.reduceNe,Int.reduceEq,Nat.reduceEqDiff,Nat.reduceLT,Nat.reduceBEq,ty,Slrp22,d1,hkl,d2]
     exact zao 2 rfl
   have d2 : decide ((80 : Int) < ks.length) = false := decide_eq_false (by omega)
   by_cases g3 : zfa V 70
   case neg =>
     have d3 : decide (zfa V 70) = false := decide_eq_false g3
     rw [decide_eq_false (fun h => g3 h.2.2.1)]
     simp only [go_sem,zaa,Nat.reduceAdd,Nat.reduceSub,Nat.reduceMul,Int.reduceToNat,reduceCtorEq,↓reduceIte,Int.reducePow,Nat.reducePow,Int.reduceMod,Nat.reduceLeDiff,Int.reduceLE,Int.reduceNe,Int.reduceEq,Nat.reduceEqDiff,Nat.reduceLT,Nat.reduceBEq,ty,Slrp22,lallS22,d1,hkl,d2,h1,hx1,hc1,hV,d3]
     exact zao 2 rfl
   have d3 : decide (zfa V 70) = true := decide_eq_true g3
   simp only [go_sem,zaa,Nat.reduceAdd,Nat.reduceSub,Nat.reduceMul,Int.reduceToNat,reduceCtorEq,↓reduceIte,Int.reducePow,Nat.reducePow,Int.reduceMod,Nat.reduceLeDiff,Int.reduceLE,Int.reduceNe,Int.reduceEq,Nat.reduceEqDiff,Nat.reduceLT,Nat.reduceBEq,ty,Slrp22,lallS22,d1,hkl,d2,h1,hx1,hc1,hV,d3]
   refine zca ⟨fun m σ => ∃ i : Nat,m = ks.length - i ∧ i ≤ ks.length ∧ (∀ s ∈ ks.take i,s.length ≤ 400) ∧
     σ = ⟨[(.agg [.w (.int .u8 k),.w (.int .i64 er),.w (.int .i64 o),.w (.int .i64 x),.w (.bool d),.w (.int .i64 g),.sg 6 X f1,.si ps f2,.sg 1 (ks.map AV.str) f3]),.rf 4 9 0 0,.junk,.w (.int .i64 i),.junk,.junk,.junk,.junk,.junk,.junk,.junk,.junk,.junk,.junk,.junk,.junk,.junk,.junk,.junk,.junk,.junk,.junk,.junk,.junk,.junk,.junk,.junk,.junk,.junk,.junk,.junk,.junk,.junk,.junk],[(4,.g 9 [(.agg [.w (.int .u8 k),.w (.int .i64 er),.w (.int .i64 o),.w (.int .i64 x),.w (.bool d),.w (.int .i64 g),.sg 6 X f1,.si ps f2,.sg 1 (ks.map AV.str) f3])])],5⟩,?_,?_⟩
   · refine ⟨_,_,zad [0,1,2,3,4] rfl rfl rfl ?_ ?_,0,rfl,by omega,by simp,rfl⟩
     · simp only [ssT,zae,zaf,setSlot,gOf,AV.ren,renL,Blk.ren,Ax.look,Ax.put,reduceCtorEq,↓reduceIte,Nat.reduceEqDiff,Nat.reduceLT,Nat.reduceAdd,List.length_append,List.length_cons,List.length_nil,Option.some.injEq]; try rfl
     · simp only [ssT,zae,zaf,setSlot,gOf,AV.ren,renL,Blk.ren,Ax.look,Ax.put,reduceCtorEq,↓reduceIte,Nat.reduceEqDiff,Nat.reduceLT,Nat.reduceAdd,List.length_append,List.length_cons,List.length_nil,Option.some.injEq]
   · rintro m σ ⟨i,rfl,hi,hall,rfl⟩
     by_cases hil : i < ks.length
     · have d4 : decide ((i : Int) < ks.length) = true := decide_eq_true (by omega)
       have e1 : ((i : Int) + 1 + 9223372036854775808) % 18446744073709551616 - 9223372036854775808 = ((i + 1 : Nat) : Int) := by omega
       have hs1 := zct ks i hil
       have hmem : ks[i] ∈ ks := List.getElem_mem hil
       have hsl := h5 _ hmem
       have htake : ks.take (i + 1) = ks.take i ++ [ks[i]] := List.take_succ_eq_append_getElem hil
       obtain ⟨P,hP⟩ : ∃ P,ks[i] = P := ⟨_,rfl⟩
       rw [hP] at hs1 hmem hsl htake
       have hs1 : slot (ks.map AV.str) i = .str P := hs1
       by_cases hb : P.length ≤ 400
       · have d5 : decide ((400 : Int) < P.length) = false := decide_eq_false (by omega)
         simp only [go_sem,zaa,Nat.reduceAdd,Nat.reduceSub,Nat.reduceMul,Int.reduceToNat,reduceCtorEq,↓reduceIte,Int.reducePow,Nat.reducePow,Int.reduceMod,Nat.reduceLeDiff,Int.reduceLE,Int.reduceNe,Int.reduceEq,Nat.reduceEqDiff,Nat.reduceLT,Nat.reduceBEq,ty,Slrp22,hkl,d4,e1,hs1,d5,Int.toNat_natCast]
         repeat (refine And.intro (by omega) ?_)
         refine ⟨ks.length - (i + 1),_,by omega,zad [0,1,2,3,4] rfl rfl rfl ?_ ?_,i + 1,rfl,by omega,?_,rfl⟩
         · simp only [ssT,zae,zaf,setSlot,gOf,AV.ren,renL,Blk.ren,Ax.look,Ax.put,reduceCtorEq,↓reduceIte,Nat.reduceEqDiff,Nat.reduceLT,Nat.reduceAdd,List.length_append,List.length_cons,List.length_nil,Option.some.injEq]
         · simp only [ssT,zae,zaf,setSlot,gOf,AV.ren,renL,Blk.ren,Ax.look,Ax.put,reduceCtorEq,↓reduceIte,Nat.reduceEqDiff,Nat.reduceLT,Nat.reduceAdd,List.length_append,List.length_cons,List.length_nil,Option.some.injEq]
         · intro q hq
           rw [htake,List.mem_append,List.mem_singleton] at hq
           rcases hq with hq | rfl
           · exact hall q hq
           · exact hb
       · have d5 : decide ((400 : Int) < P.length) = true := decide_eq_true (by omega)
         rw [decide_eq_false (fun h => hb (h.2.2.2 _ hmem))]
         simp only [go_sem,zaa,Nat.reduceAdd,Nat.reduceSub,Nat.reduceMul,Int.reduceToNat,reduceCtorEq,↓reduceIte,Int.reducePow,Nat.reducePow,Int.reduceMod,Nat.reduceLeDiff,Int.reduceLE,Int.reduceNe,Int.reduceEq,Nat.reduceEqDiff,Nat.reduceLT,Nat.reduceBEq,ty,Slrp22,hkl,d4,e1,hs1,d5,Int.toNat_natCast]
         repeat (refine And.intro (by omega) ?_)
         refine ⟨_,Weak.refl _,?_⟩
         simp only [go_sem,coe,zaa,Nat.reduceAdd,Nat.reduceSub,Nat.reduceMul,Int.reduceToNat,reduceCtorEq,↓reduceIte,Int.reducePow,Nat.reducePow,Int.reduceMod,Nat.reduceLeDiff,Int.reduceLE,Int.reduceNe,Int.reduceEq,Nat.reduceEqDiff,Nat.reduceLT,Nat.reduceBEq,ty,Slrp22]
         exact zao 2 rfl
     · have d4 : decide ((i : Int) < ks.length) = false := decide_eq_false (by omega)
       rw [decide_eq_true (show lightA22 V ps.length ks from ⟨g1,g2,g3,fun s hs => hall s (by rw [List.take_of_length_le (by omega)]; exact hs)⟩)]
       simp only [go_sem,zaa,Nat.reduceAdd,Nat.reduceSub,Nat.reduceMul,Int.reduceToNat,reduceCtorEq,↓reduceIte,Int.reducePow,Nat.reducePow,Int.reduceMod,Nat.reduceLeDiff,Int.reduceLE,Int.reduceNe,Int.reduceEq,Nat.reduceEqDiff,Nat.reduceLT,Nat.reduceBEq,ty,Slrp22,hkl,d4]
       refine ⟨_,Weak.refl _,?_⟩
       simp only [go_sem,coe,zaa,Nat.reduceAdd,Nat.reduceSub,Nat.reduceMul,Int.reduceToNat,reduceCtorEq,↓reduceIte,Int.reducePow,Nat.reducePow,Int.reduceMod,Nat.reduceLeDiff,Int.reduceLE,Int.reduceNe,Int.reduceEq,Nat.reduceEqDiff,Nat.reduceLT,Nat.reduceBEq,ty,Slrp22]
       exact zao 2 rfl
 · exact hp.elim
end
end Go.Proofs.Ytmedjkjoannbmaa
namespace Go.Proofs.Ytmedjkjoannbmaa
open Ax
set_option maxRecDepth 10000
set_option maxHeartbeats 2000000
theorem all_bvp22 : ∀ (xs : List AV),(∀ x ∈ xs,∃ p : Bat × Bool,x = bvp p ∧ p.1.rs.length ≤ 9223372036854775807) → ∃ es : List (Bat × Bool),xs = es.map bvp ∧ ∀ p ∈ es,p.1.rs.length ≤ 9223372036854775807
 | [],_ => ⟨[],rfl,by simp⟩
 | x :: xs,h => by
   obtain ⟨p,rfl,hp⟩ := h x (by simp)
   obtain ⟨es,rfl,he⟩ := all_bvp22 xs (fun y hy => h y (by simp [hy]))
   refine ⟨p :: es,rfl,?_⟩
   intro q hq
   rcases List.mem_cons.1 hq with rfl | hq
   · exact hp
   · exact he q hq
theorem all_str22 : ∀ (xs : List AV),(∀ x ∈ xs,∃ s : List UInt8,x = .str s ∧ s.length ≤ 9223372036854775807) → ∃ ks : List (List UInt8),xs = ks.map AV.str ∧ ∀ s ∈ ks,s.length ≤ 9223372036854775807
 | [],_ => ⟨[],rfl,by simp⟩
 | x :: xs,h => by
   obtain ⟨s,rfl,hs⟩ := h x (by simp)
   obtain ⟨ks,rfl,hk⟩ := all_str22 xs (fun y hy => h y (by simp [hy]))
   refine ⟨s :: ks,rfl,?_⟩
   intro q hq
   rcases List.mem_cons.1 hq with rfl | hq
   · exact hs
   · exact hk q hq
def rpV (k er o x : Int) (d : Bool) (g : Int) (es : List (Bat × Bool)) (f1 : Bool) (ps : List Int) (f2 : Bool) (ks : List (List UInt8)) (f3 : Bool) : AV :=
 .agg [.w (.int .u8 k),.w (.int .i64 er),.w (.int .i64 o),.w (.int .i64 x),.w (.bool d),.w (.int .i64 g),.sg 6 (es.map bvp) f1,.si ps f2,.sg 1 (ks.map AV.str) f3]
def rpP (k er o x g : Int) (es : List (Bat × Bool)) (ps : List Int) (ks : List (List UInt8)) : Prop :=
 (0 ≤ k ∧ k < 256) ∧ (okI er ∧ okI o ∧ okI x ∧ okI g) ∧ (es.length ≤ 9223372036854775807 ∧ ∀ p ∈ es,p.1.rs.length ≤ 9223372036854775807) ∧ (ps.length ≤ 9223372036854775807 ∧ ∀ n ∈ ps,okI n) ∧ ks.length ≤ 9223372036854775807 ∧ ∀ s ∈ ks,s.length ≤ 9223372036854775807
theorem shape_rp22 {n : Nat} {ls : List AV} (hs : Shape ty (n + 6) 42 ls) : ∃ k er o y d g es f1 ps f2 ks f3,ls = [.w (.int .u8 k),.w (.int .i64 er),.w (.int .i64 o),.w (.int .i64 y),.w (.bool d),.w (.int .i64 g),.sg 6 (es.map bvp) f1,.si ps f2,.sg 1 (ks.map AV.str) f3] ∧ rpP k er o y g es ps ks := by
 simp only [Shape,ty,ShapeF,isFlatI] at hs
 obtain ⟨l1,r1,rfl,⟨m1,rfl,w1⟩,l2,r2,rfl,⟨m2,rfl,w2⟩,l3,r3,rfl,⟨m3,rfl,w3⟩,l4,r4,rfl,⟨m4,rfl,w4⟩,l5,r5,rfl,⟨m5,rfl⟩,l6,r6,rfl,⟨m6,rfl,w6⟩,l7,r7,rfl,⟨xs,f1,rfl,hx,hxs⟩,l8,r8,rfl,⟨ps,f2,rfl,hpl,hps⟩,l9,r9,rfl,⟨zs,f3,rfl,hz,hzs⟩,rfl⟩ := hs
 have hm : maxLen = 9223372036854775807 := by decide
 obtain ⟨es,rfl,hes⟩ := all_bvp22 xs (fun x hxm => by
   obtain ⟨l,⟨k1,s1,rfl,⟨n1,rfl,v1⟩,k2,s2,rfl,⟨n2,rfl,v2⟩,k3,s3,rfl,⟨n3,rfl,v3⟩,k4,s4,rfl,⟨n4,rfl,v4⟩,k5,s5,rfl,⟨n5,rfl,v5⟩,k6,s6,rfl,⟨ys,f,rfl,hl,hy⟩,rfl⟩,_,rfl⟩ := hxs x hxm
   obtain ⟨rs,rfl⟩ := all_rv22 ys (fun y hym => by
     obtain ⟨l,⟨l1,r1,rfl,⟨m1,rfl,w1⟩,l2,r2,rfl,⟨m2,rfl,w2⟩,l3,r3,rfl,⟨m3,rfl⟩,l4,r4,rfl,⟨m4,rfl,w4⟩,l5,r5,rfl,⟨m5,rfl⟩,l6,r6,rfl,⟨m6,rfl,w6⟩,rfl⟩,_,rfl⟩ := hy y hym
     exact ⟨⟨m1,m2,m3,m4,m5,m6⟩,rfl⟩)
   rw [List.length_map] at hl
   exact ⟨⟨⟨n1,n2,n3,n4,n5,rs⟩,f⟩,rfl,by simp only; omega⟩)
 obtain ⟨ks,rfl,hks⟩ := all_str22 zs (fun x hxm => by
   obtain ⟨l,⟨bs,rfl,wb⟩,_,rfl⟩ := hzs x hxm
   exact ⟨bs,rfl,by omega⟩)
 rw [List.length_map] at hx hz
 exact ⟨m1,m2,m3,m4,m5,m6,es,f1,ps,f2,ks,f3,rfl,wf_u8 w1,⟨wf_i64 w2,wf_i64 w3,wf_i64 w4,wf_i64 w6⟩,⟨by omega,hes⟩,⟨by omega,hps⟩,by omega,hks⟩
theorem arg_rp22 {x : AV} (h : Arg ty 6 42 x) : ∃ k er o y d g es f1 ps f2 ks f3,x = rpV k er o y d g es f1 ps f2 ks f3 ∧ rpP k er o y g es ps ks := by
 obtain ⟨i,ls,hi,hs,rfl⟩ := h
 obtain ⟨k,er,o,y,d,g,es,f1,ps,f2,ks,f3,rfl,hp⟩ := shape_rp22 (n := 0) hs
 simp only [ty] at hi
 injection hi with hi
 subst hi
 exact ⟨k,er,o,y,d,g,es,f1,ps,f2,ks,f3,rfl,hp⟩
def isRp22 (x : AV) : Prop := ∃ k er o y d g es f1 ps f2 ks f3,x = rpV k er o y d g es f1 ps f2 ks f3 ∧ rpP k er o y g es ps ks
theorem is_rp22 {x : AV} (h : Arg ty 6 42 x) : isRp22 x := arg_rp22 h
end Go.Proofs.Ytmedjkjoannbmaa
namespace Go.Proofs.Ytmedjkjoannbmaa
open Ax
def Swans (f : FuncId) : Option zai :=
 match f with
 | 9 => some yesS
 | 16 => some lrpS22
 | 17 => some putAS
 | 18 => some putAS
 | 19 => some sresS
 | 20 => some sresS
 | _ => none
theorem Swans_ok : Fns Try.prog Swans := by
 intro f s h
 unfold Swans at h
 split at h
 · injection h with h; subst h; exact ⟨⟨_,Try.func9,by kernel_rfl,by kernel_rfl⟩,awake22_sound⟩
 · injection h with h; subst h; exact ⟨⟨_,Try.func16,by kernel_rfl,by kernel_rfl⟩,lrp22_sound⟩
 · injection h with h; subst h; exact ⟨⟨_,Try.func17,by kernel_rfl,by kernel_rfl⟩,putA_sound⟩
 · injection h with h; subst h; exact ⟨⟨_,Try.func18,by kernel_rfl,by kernel_rfl⟩,rputA_sound⟩
 · injection h with h; subst h; exact ⟨⟨_,Try.func19,by kernel_rfl,by kernel_rfl⟩,sres22_sound⟩
 · injection h with h; subst h; exact ⟨⟨_,Try.func20,by kernel_rfl,by kernel_rfl⟩,rsres22_sound⟩
 · cases h
def wansPl : XPlan := fun id => match id with
 | 5 => .prs [(13,14),(13,15)]
 | _ => .std
def wansS : zai
 | [x,y],[] => ⟨isRp22 x ∧ isRp22 y,.w (.bool true),[]⟩
 | _,_ => zba
section
set_option maxRecDepth 100000
set_option maxHeartbeats 8000000 in
theorem wans_law : zaq Try.prog 4 wansS := by
 refine zcj (S := Swans) (SO := noO) (T := ty) zas ty_ok Swans_ok noO_ok Try.func4 (c := Try.f4.body.getD .skip) (by kernel_rfl) (fun xs pins hp _ => ?_)
 unfold wansS at hp ⊢
 split at hp
 · rename_i x0 y0
   obtain ⟨⟨k,er,o,x,d,g,es,f1,ps,f2,ks,f3,rfl,hk,hi,hes,hps,hks⟩,⟨k',er',o',x',d',g',es',f1',ps',f2',ks',f3',rfl,hk',hi',hes',hps',hks'⟩⟩ := hp
   unfold rpV
   refine ⟨by simp,wansPl,by kernel_rfl,?_⟩
   have hel : (es.map bvp).length = es.length := by simp
   have hkl : (ks.map AV.str).length = ks.length := by simp
   have hmu := zez es
   have hms := zbj ks
   have hx9 : ∃ gs : List (Bat × Bool),es.map bvp = gs.map bvp ∧ ∀ p ∈ gs,p.1.rs.length ≤ 9223372036854775807 := ⟨es,rfl,hes.2⟩
   have hy9 : ∃ qs : List (List UInt8),ks.map AV.str = qs.map AV.str ∧ ∀ s ∈ qs,s.length ≤ 9223372036854775807 := ⟨ks,rfl,hks.2⟩
   have hcb := zex es f1
   have hcs := zdk ks f3
   have he9 := hes.1
   have hp9 := hps.1
   have hk9 := hks.1
   have hel' : (es'.map bvp).length = es'.length := by simp
   have hkl' : (ks'.map AV.str).length = ks'.length := by simp
   have hmu' := zez es'
   have hms' := zbj ks'
   have hx9' : ∃ gs : List (Bat × Bool),es'.map bvp = gs.map bvp ∧ ∀ p ∈ gs,p.1.rs.length ≤ 9223372036854775807 := ⟨es',rfl,hes'.2⟩
   have hy9' : ∃ qs : List (List UInt8),ks'.map AV.str = qs.map AV.str ∧ ∀ s ∈ qs,s.length ≤ 9223372036854775807 := ⟨ks',rfl,hks'.2⟩
   have hcb' := zex es' f1'
   have hcs' := zdk ks' f3'
   have he9' := hes'.1
   have hp9' := hps'.1
   have hk9' := hks'.1
   unfold Try.f4
   by_cases MA : lightA22 (es.map Prod.fst) ps.length ks
   case neg =>
     have DA := decide_eq_false MA
     simp only [go_sem,zab,Nat.reduceAdd,Nat.reduceSub,Nat.reduceMul,Int.reduceToNat,reduceCtorEq,↓reduceIte,Int.reducePow,Nat.reducePow,Int.reduceMod,Nat.reduceLeDiff,Int.reduceLE,Int.reduceNe,Int.reduceEq,Nat.reduceEqDiff,Nat.reduceLT,Nat.reduceBEq,List.map_cons,List.map_nil,List.toList_toArray,Array.toList_append,Option.toArray_some,Option.toArray_none,Bool.and_self,ty,Swans,wansPl,lrpS22,yesS,hel,hkl,hmu,hms,hx9,hy9,hcb,hcs,he9,hp9,hk9,DA]
     exact zao 4 rfl
   have DA := decide_eq_true MA
   by_cases MB : lightA22 (es'.map Prod.fst) ps'.length ks'
   case neg =>
     have DB := decide_eq_false MB
     simp only [go_sem,zab,Nat.reduceAdd,Nat.reduceSub,Nat.reduceMul,Int.reduceToNat,reduceCtorEq,↓reduceIte,Int.reducePow,Nat.reducePow,Int.reduceMod,Nat.reduceLeDiff,Int.reduceLE,Int.reduceNe,Int.reduceEq,Nat.reduceEqDiff,Nat.reduceLT,Nat.reduceBEq,List.map_cons,List.map_nil,List.toList_toArray,Array.toList_append,Option.toArray_some,Option.toArray_none,Bool.and_self,ty,Swans,wansPl,lrpS22,yesS,hel,hkl,hmu,hms,hx9,hy9,hcb,hcs,he9,hp9,hk9,hel',hkl',hmu',hms',hx9',hy9',hcb',hcs',he9',hp9',hk9',DA,DB]
     exact zao 4 rfl
   have DB := decide_eq_true MB
   have hle : es.length ≤ 1000000 := by have := MA.2.2.1.1; rw [List.length_map] at this; omega
   have hlp : ps.length ≤ 1000000 := by have := MA.1; omega
   have hlk : ks.length ≤ 1000000 := by have := MA.2.1; omega
   have hb4 : ∀ p ∈ es,p.1.rs.length ≤ 40 := fun p hp => (MA.2.2.1.2 p.1 (List.mem_map.2 ⟨p,hp,rfl⟩)).1
   have hx4 : ∃ gs : List (Bat × Bool),es.map bvp = gs.map bvp ∧ ∀ p ∈ gs,p.1.rs.length ≤ 40 := ⟨es,rfl,hb4⟩
   have hy4 : ∃ qs : List (List UInt8),ks.map AV.str = qs.map AV.str := ⟨ks,rfl⟩
   have hpi := hps.2
   have hle' : es'.length ≤ 1000000 := by have := MB.2.2.1.1; rw [List.length_map] at this; omega
   have hlp' : ps'.length ≤ 1000000 := by have := MB.1; omega
   have hlk' : ks'.length ≤ 1000000 := by have := MB.2.1; omega
   have hb4' : ∀ p ∈ es',p.1.rs.length ≤ 40 := fun p hp => (MB.2.2.1.2 p.1 (List.mem_map.2 ⟨p,hp,rfl⟩)).1
   have hx4' : ∃ gs : List (Bat × Bool),es'.map bvp = gs.map bvp ∧ ∀ p ∈ gs,p.1.rs.length ≤ 40 := ⟨es',rfl,hb4'⟩
   have hy4' : ∃ qs : List (List UInt8),ks'.map AV.str = qs.map AV.str := ⟨ks',rfl⟩
   have hpi' := hps'.2
   obtain ⟨W,hW⟩ : ∃ W,putA k er o x d g (es.map Prod.fst) ps ks = W := ⟨_,rfl⟩
   obtain ⟨C,hC⟩ : ∃ C,errA k (es.map Prod.fst) ps ks = C := ⟨_,rfl⟩
   obtain ⟨B,hB⟩ : ∃ B,eqA k er o x d g k' er' o' x' d' g' (decide (es.map Prod.fst = es'.map Prod.fst) && (decide (ps = ps') && decide (ks = ks'))) = B := ⟨_,rfl⟩
   have dW : decide (W = W) = true := decide_eq_true rfl
   have dC : decide (C = C) = true := decide_eq_true rfl
   have dB : (B == B) = true := beq_self_eq_true B
   have tk : ∀ l : List UInt8,List.take l.length l = l := fun l => List.take_length
   simp only [go_sem,zab,Nat.reduceAdd,Nat.reduceSub,Nat.reduceMul,Int.reduceToNat,reduceCtorEq,↓reduceIte,Int.reducePow,Nat.reducePow,Int.reduceMod,Nat.reduceLeDiff,Int.reduceLE,Int.reduceNe,Int.reduceEq,Nat.reduceEqDiff,Nat.reduceLT,Nat.reduceBEq,List.map_cons,List.map_nil,List.toList_toArray,Array.toList_append,Option.toArray_some,Option.toArray_none,Bool.and_self,ty,Swans,wansPl,lrpS22,putAS,sresS,yesS,hel,hkl,hmu,hms,hx9,hy9,hcb,hcs,he9,hp9,hk9,hel',hkl',hmu',hms',hx9',hy9',hcb',hcs',he9',hp9',hk9',DA,DB,hle,hlp,hlk,hx4,hy4,hpi,hk,hi,hle',hlp',hlk',hx4',hy4',hpi',hk',hi',hW,hC,hB,dW,dC,dB,tk]
   repeat (refine And.intro (by first | omega | assumption) ?_)
   exact zao 4 rfl
 · exact hp.elim
end
theorem wans_dom {x y : AV} (hx : Arg ty 6 42 x) (hy : Arg ty 6 42 y) : (wansS [x,y] []).p ∧ (wansS [x,y] []).x = .w (.bool true) :=
 ⟨⟨is_rp22 hx,is_rp22 hy⟩,rfl⟩
end Go.Proofs.Ytmedjkjoannbmaa
