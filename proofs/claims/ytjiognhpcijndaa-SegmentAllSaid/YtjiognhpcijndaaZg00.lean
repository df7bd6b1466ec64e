/- What the proofs of this seat stand on; it asks nothing. -/
import Derived.Test.YtjiognhpcijndaaZa10
import Derived.Test.YtjiognhpcijndaaZb00
import Derived.Test.YtjiognhpcijndaaZe00
set_option linter.unusedSimpArgs false
set_option linter.unusedVariables false
namespace Go.Proofs.Ytjiognhpcijndaa
open Ax
theorem layE_pos : ∀ (rs : List Rec) (c a : Int),layE c a rs = 0 → -1 ≤ a → ∀ r ∈ rs,0 ≤ r.d ∧ r.d < c
 | [],_,_,_,_ => by simp
 | r :: rs,c,a,h,ha => by
   rw [layE_cons] at h
   split at h
   · split at h
     · omega
     · rename_i h1 h2
       intro q hq
       rcases List.mem_cons.1 hq with rfl | hq
       · omega
       · exact layE_pos rs c r.d h (by omega) q hq
   · rename_i h1; exact (h1 h).elim
theorem bE_lay {x : Bat} (h : bE x = 0) : layE x.c (-1) x.rs = 0 := by
 unfold bE batE at h
 split at h
 · split at h
   · assumption
   · rename_i h2; exact h
 · rename_i h2; exact (h2 h).elim
theorem cutB_whole {x : Bat} {at' : Int} (h : bE x = 0) (ha : at' ≤ x.b) : cutB at' x = x := by
 have hn := bE_nx h
 have hl := layE_pos x.rs x.c (-1) (bE_lay h) (by omega)
 unfold cutB fromR
 rw [List.filter_eq_self.2]
 intro r hr
 have h1 := hl r hr
 unfold offI
 simp only [decide_eq_true_eq]
 omega
theorem sel_app (off : Int) (l m : List Bat) : selB off (l ++ m) = selB off l ++ selB off m := by
 unfold selB; rw [List.filter_append,List.map_append]
theorem fetch_next {B : Int} {l1 l2 : List Bat} {x : Bat} (h : okL B (l1 ++ x :: l2)) : zaq (zce B l1) 1 (l1 ++ x :: l2) = [x] := by
 obtain ⟨h1,h2,h3,h4⟩ := (okL_split _ _ _).1 h
 have hn := bE_nx h2
 unfold zaq
 rw [sel_app,sel_below (fun y hy => ((okL_last l1 B h1).2 y hy).2),List.nil_append]
 have : selB (zce B l1) (x :: l2) = cutB (zce B l1) x :: selB (zce B l1) l2 := by
   unfold selB
   rw [List.filter_cons,if_pos (by simp; omega),List.map_cons]
 rw [this,cutB_whole h2 h3]
 rfl
theorem fetch_all {B : Int} {l : List Bat} (h : okL B l) (hl : l.length ≤ 99) : (zaq B 99 l).length = l.length := by
 unfold zaq selB
 rw [List.filter_eq_self.2 (fun x hx => by have := (okL_last l B h).2 x hx; simp; omega),List.take_of_length_le (by simp; omega),List.length_map]
def lallGS : zal
 | [.agg [.w (.int .i64 B),.sg 6 xs f]],[] => ⟨xs.length ≤ 9223372036854775807 ∧ isBs xs,.w (.bool true),[]⟩
 | _,_ => zba
def Slall14 (f : FuncId) : Option zal :=
 match f with
 | 9 => some zbc
 | 28 => some schkS
 | 11 => some yesS
 | 13 => some sfetS
 | 32 => some zcx
 | 33 => some zcb
 | _ => none
theorem Slall14_ok : Fns Try.prog Slall14 := by
 intro f s h
 unfold Slall14 at h
 split at h
 · injection h with h; subst h; exact ⟨⟨_,Try.func9,by kernel_rfl,by kernel_rfl⟩,zdp⟩
 · injection h with h; subst h; exact ⟨⟨_,Try.func28,by kernel_rfl,by kernel_rfl⟩,zfo⟩
 · injection h with h; subst h; exact ⟨⟨_,Try.func11,by kernel_rfl,by kernel_rfl⟩,zda⟩
 · injection h with h; subst h; exact ⟨⟨_,Try.func13,by kernel_rfl,by kernel_rfl⟩,zfn⟩
 · injection h with h; subst h; exact ⟨⟨_,Try.func32,by kernel_rfl,by kernel_rfl⟩,bsame4_sound⟩
 · injection h with h; subst h; exact ⟨⟨_,Try.func33,by kernel_rfl,by kernel_rfl⟩,zeu⟩
 · cases h
section
set_option maxRecDepth 100000
set_option maxHeartbeats 4000000 in
theorem lall_law : zar Try.prog 6 lallGS := by
 refine zah (S := Slall14) (T := tyF) zat tyF_ok Slall14_ok Try.func6 (c := Try.f6.body.getD .skip) (by kernel_rfl) (by kernel_rfl) (fun xs pins hp _ => ?_)
 unfold lallGS at hp ⊢
 split at hp
 · rename_i B xs f _
   obtain ⟨hL,hb⟩ := hp
   refine ⟨by simp,?_⟩
   unfold Try.f6
   by_cases hg : zbs (xs.map ubat)
   · obtain ⟨h20,h4,hbl⟩ := zen hb hg
     have hL6 : xs.length ≤ 1000000 := by omega
     have hL7 : xs.length ≤ 9223372036854775806 := by omega
     have d0 : decide (zbs (xs.map ubat)) = true := decide_eq_true hg
     obtain ⟨es,rfl,he⟩ := h4
     have hlp : (es.map bvp).length = es.length := by simp
     have mu := zaz es
     rw [mu] at d0
     obtain ⟨l,hl⟩ : ∃ l,es.map Prod.fst = l := ⟨_,rfl⟩
     rw [hl] at mu d0
     have hlq : l.length = es.length := by subst hl; simp
     rw [hlp] at h20
     have hEv : ∀ E,chkG B l = E → E = chkG B l := fun E h => h.symm
     cases d1 : decide (chkG B l = 0) with
     | false => simp only [go_sem,zaa,Nat.reduceAdd,Nat.reduceSub,Nat.reduceMul,Int.reduceToNat,reduceCtorEq,↓reduceIte,Int.reducePow,Nat.reducePow,Int.reduceMod,Nat.reduceLeDiff,Int.reduceLE,Int.reduceNe,Int.reduceEq,Nat.reduceEqDiff,Nat.reduceLT,Nat.reduceBEq,tyF,zaj,ty,Slall14,zbc,schkS,yesS,hL,hL7,hb,mu,d0,d1,Bool.not_true,Bool.not_false]
     | true =>
       obtain ⟨hB0,hok⟩ := chkG_ok (of_decide_eq_true d1)
       simp only [go_sem,zaa,Nat.reduceAdd,Nat.reduceSub,Nat.reduceMul,Int.reduceToNat,reduceCtorEq,↓reduceIte,Int.reducePow,Nat.reducePow,Int.reduceMod,Nat.reduceLeDiff,Int.reduceLE,Int.reduceNe,Int.reduceEq,Nat.reduceEqDiff,Nat.reduceLT,Nat.reduceBEq,tyF,zaj,ty,Slall14,zbc,schkS,yesS,hL,hL7,hb,mu,d0,d1,Bool.not_true,Bool.not_false]
       refine zas ⟨fun m σ => ∃ (i : Nat),m = es.length - i ∧ i ≤ es.length ∧
           σ = ⟨[.agg [.w (.int .i64 B),.sg 6 (es.map bvp) f],.rf 4 2 0 0,.junk,.rf 5 2 0 0,.w (.int .i64 (zce B (l.take i))),.w (.int .i64 i),.junk,.junk,.junk,.junk,.junk,.junk,.junk,.junk,.junk,.junk,.junk,.junk,.junk,.junk,.junk,.junk,.junk,.junk,.junk,.junk,.junk,.junk,.junk,.junk,.junk,.junk,.junk,.junk,.junk,.junk,.junk,.junk,.junk,.junk,.junk,.junk,.junk,.junk,.junk,.junk,.junk,.junk,.junk,.junk,.junk,.junk,.junk,.junk,.junk,.junk,.junk,.junk,.junk,.junk,.junk,.junk,.junk,.junk,.junk,.junk,.junk],[(4,.g 2 [.agg [.w (.int .i64 B),.sg 6 (es.map bvp) f]]),(5,.g 2 [.agg [.w (.int .i64 B),.sg 6 (es.map bvp) f]])],6⟩,?_,?_⟩
       · refine ⟨_,_,zac [0,1,2,3,4,28] rfl rfl rfl ?_ ?_,0,rfl,by omega,rfl⟩
         · simp only [ssT,zaf,zag,setSlot,gOf,AV.ren,renL,Blk.ren,Ax.look,Ax.put,reduceCtorEq,↓reduceIte,Nat.reduceEqDiff,Nat.reduceLT,Nat.reduceAdd,List.length_append,List.length_cons,List.length_nil,Option.some.injEq,List.take_zero]; try simp [zce]
         · simp only [ssT,zaf,zag,setSlot,gOf,AV.ren,renL,Blk.ren,Ax.look,Ax.put,reduceCtorEq,↓reduceIte,Nat.reduceEqDiff,Nat.reduceLT,Nat.reduceAdd,List.length_append,List.length_cons,List.length_nil,Option.some.injEq]
       · rintro m σ ⟨i,rfl,hi,rfl⟩
         have e1 : ((i : Int) + 1 + 9223372036854775808) % 18446744073709551616 - 9223372036854775808 = ((i + 1 : Nat) : Int) := by omega
         by_cases hil : i < es.length
         · have d3 : decide ((i : Int) < es.length) = true := decide_eq_true (by omega)
           have hs1 := zbb es i hil
           have m1 := he es[i] (List.getElem_mem hil)
           have hli : l[i]'(by omega) = es[i].1 := by subst hl; simp
           have hnx : zce B (l.take (i + 1)) = nxB (l[i]'(by omega)) := by rw [List.take_succ_eq_append_getElem (by omega)]; exact lastN_snoc _ _ _
           have hfe : zaq (zce B (l.take i)) 1 l = [l[i]'(by omega)] := by
             have h1 : l.take i ++ l[i]'(by omega) :: l.drop (i + 1) = l := by rw [← List.drop_eq_getElem_cons (by omega)]; exact List.take_append_drop i l
             have h2 := fetch_next (B := B) (l1 := l.take i) (x := l[i]'(by omega)) (l2 := l.drop (i + 1)) (by rw [h1]; exact hok)
             rw [h1] at h2; exact h2
           rw [hli] at hnx hfe
           obtain ⟨P,hP⟩ : ∃ P,es[i] = P := ⟨_,rfl⟩
           rw [hP] at hs1 m1 hnx hfe
           obtain ⟨⟨b,c,p,e,s,rs⟩,f'⟩ := P
           have hs1 : slot (es.map bvp) i = .agg [.w (.int .i64 b),.w (.int .i64 c),.w (.int .i64 p),.w (.int .i64 e),.w (.int .i64 s),.sg 6 (rs.map rv) f'] := hs1
           simp only at m1 hnx hfe
           have n1 : (rs.map rv).length ≤ 9223372036854775807 := by rw [List.length_map]; omega
           have x1 : ∃ k : List Rec,rs.map rv = k.map rv := ⟨rs,rfl⟩
           have r1 := zae rs
           have hsl : slot (bfr [(⟨b,c,p,e,s,rs⟩ : Bat)]) 0 = .agg [.w (.int .i64 b),.w (.int .i64 c),.w (.int .i64 p),.w (.int .i64 e),.w (.int .i64 s),.sg 6 (rs.map rv) false] := rfl
           have hll : (bfr [(⟨b,c,p,e,s,rs⟩ : Bat)]).length = 1 := rfl
           have hsm : zcy b c p e s rs b c p e s rs = true := by rw [bsame_decJ]; exact decide_eq_true rfl
           have hnx : zce B (l.take (i + 1)) = (b + c + 9223372036854775808) % 18446744073709551616 - 9223372036854775808 := hnx
           obtain ⟨A,hA⟩ : ∃ A,zce B (l.take i) = A := ⟨_,rfl⟩
           rw [hA] at hfe
           rw [hA]
           have z1 : decide (((1 : Nat) : Int) = 1) = true := rfl
           have z2 : (0 : Int).toNat = 0 := rfl
           simp only [go_sem,zaa,Nat.reduceAdd,Nat.reduceSub,Nat.reduceMul,Int.reduceToNat,reduceCtorEq,↓reduceIte,Int.reducePow,Nat.reducePow,Int.reduceMod,Nat.reduceLeDiff,Int.reduceLE,Int.reduceNe,Int.reduceEq,Nat.reduceEqDiff,Nat.reduceLT,Nat.reduceBEq,tyF,zaj,ty,Slall14,sfetS,zcx,zcb,hL6,hbl,mu,hlp,d3,hs1,n1,x1,r1,hfe,hsl,hll,hsm,e1,z1,z2,← hnx,Int.toNat_natCast,Bool.not_true]
           repeat (refine And.intro (by first | decide | omega) ?_)
           refine ⟨es.length - (i + 1),_,by omega,zac [0,1,2,3,4,5] rfl rfl rfl ?_ ?_,i + 1,rfl,by omega,rfl⟩
           · simp only [ssT,zaf,zag,setSlot,gOf,AV.ren,renL,Blk.ren,Ax.look,Ax.put,reduceCtorEq,↓reduceIte,Nat.reduceEqDiff,Nat.reduceLT,Nat.reduceAdd,List.length_append,List.length_cons,List.length_nil,Option.some.injEq]
           · simp only [ssT,zaf,zag,setSlot,gOf,AV.ren,renL,Blk.ren,Ax.look,Ax.put,reduceCtorEq,↓reduceIte,Nat.reduceEqDiff,Nat.reduceLT,Nat.reduceAdd,List.length_append,List.length_cons,List.length_nil,Option.some.injEq]
         · have d3 : decide ((i : Int) < es.length) = false := decide_eq_false (by omega)
           have hii : l.take i = l := List.take_of_length_le (by omega)
           rw [hii]
           have hfe := fetch_end hok 1
           have hfa : (bfr (zaq B 99 l)).length = es.length := by rw [zck,fetch_all hok (by omega)]; exact hlq
           have hl0 : (bfr []).length = 0 := rfl
           have z0 : decide (((0 : Nat) : Int) = 0) = true := rfl
           have z1 : decide ((es.length : Int) = es.length) = true := decide_eq_true rfl
           simp only [go_sem,zaa,Nat.reduceAdd,Nat.reduceSub,Nat.reduceMul,Int.reduceToNat,reduceCtorEq,↓reduceIte,Int.reducePow,Nat.reducePow,Int.reduceMod,Nat.reduceLeDiff,Int.reduceLE,Int.reduceNe,Int.reduceEq,Nat.reduceEqDiff,Nat.reduceLT,Nat.reduceBEq,tyF,zaj,ty,Slall14,sfetS,yesS,hL6,hbl,mu,hlp,d3,hfe,hfa,hl0,z0,z1]
           omega
   · have d0 : decide (zbs (xs.map ubat)) = false := decide_eq_false hg
     simp only [go_sem,zaa,Nat.reduceAdd,Nat.reduceSub,Nat.reduceMul,Int.reduceToNat,reduceCtorEq,↓reduceIte,Int.reducePow,Nat.reducePow,Int.reduceMod,Nat.reduceLeDiff,Int.reduceLE,Int.reduceNe,Int.reduceEq,Nat.reduceEqDiff,Nat.reduceLT,Nat.reduceBEq,tyF,zaj,ty,Slall14,zbc,yesS,hL,hb,d0,Bool.not_false]
 · exact hp.elim
end
theorem lall_dom {x : AV} (hx : Arg ty 8 24 x) : (lallGS [x] []).p ∧ (lallGS [x] []).x = .w (.bool true) := by
 obtain ⟨B,xs,f,rfl,h1,h2⟩ := arg_segJ (j := 1) hx
 exact ⟨⟨h1,h2⟩,rfl⟩
end Go.Proofs.Ytjiognhpcijndaa
