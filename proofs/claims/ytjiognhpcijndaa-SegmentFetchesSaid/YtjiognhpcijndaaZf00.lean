/- What the proofs of this seat stand on; it asks nothing. -/
import Derived.Test.YtjiognhpcijndaaZa10
import Derived.Test.YtjiognhpcijndaaZc00
import Derived.Test.YtjiognhpcijndaaZd00
set_option linter.unusedSimpArgs false
set_option linter.unusedVariables false
namespace Go.Proofs.Ytjiognhpcijndaa
open Ax
section
set_option maxRecDepth 100000
theorem rrsame_sound : zar Try.prog 75 rsameS := by
 refine zah (S := noS) (T := ty) zat ty_ok zca Try.func75 (c := Try.f75.body.getD .skip) (by kernel_rfl) (by kernel_rfl) (fun xs pins hp _ => ?_)
 unfold rsameS at hp ⊢
 split at hp
 · rename_i d t k key dd val d' t' k' key' dd' val' _
   refine ⟨by simp,?_⟩
   unfold Try.f75
   unfold sameB
   by_cases h1 : d = d'
   · have d1 : decide (d = d') = true := decide_eq_true h1
     by_cases h2 : t = t'
     · have d2 : decide (t = t') = true := decide_eq_true h2
       cases hk : (k == k') with
       | false => simp only [go_sem,coe,zaa,Nat.reduceAdd,Nat.reduceSub,Nat.reduceMul,Int.reduceToNat,reduceCtorEq,↓reduceIte,Int.reducePow,Nat.reducePow,Int.reduceMod,Nat.reduceLeDiff,Int.reduceLE,Int.reduceNe,Int.reduceEq,Nat.reduceEqDiff,Nat.reduceLT,Nat.reduceBEq,ty,noS,d1,d2,hk]
       | true =>
         by_cases h4 : key = key'
         · have d4 : decide (key = key') = true := decide_eq_true h4
           cases hd : (dd == dd') with
           | false => simp only [go_sem,coe,zaa,Nat.reduceAdd,Nat.reduceSub,Nat.reduceMul,Int.reduceToNat,reduceCtorEq,↓reduceIte,Int.reducePow,Nat.reducePow,Int.reduceMod,Nat.reduceLeDiff,Int.reduceLE,Int.reduceNe,Int.reduceEq,Nat.reduceEqDiff,Nat.reduceLT,Nat.reduceBEq,ty,noS,d1,d2,hk,d4,hd]
           | true => simp only [go_sem,coe,zaa,Nat.reduceAdd,Nat.reduceSub,Nat.reduceMul,Int.reduceToNat,reduceCtorEq,↓reduceIte,Int.reducePow,Nat.reducePow,Int.reduceMod,Nat.reduceLeDiff,Int.reduceLE,Int.reduceNe,Int.reduceEq,Nat.reduceEqDiff,Nat.reduceLT,Nat.reduceBEq,ty,noS,d1,d2,hk,d4,hd]
         · have d4 : decide (key = key') = false := decide_eq_false h4
           simp only [go_sem,coe,zaa,Nat.reduceAdd,Nat.reduceSub,Nat.reduceMul,Int.reduceToNat,reduceCtorEq,↓reduceIte,Int.reducePow,Nat.reducePow,Int.reduceMod,Nat.reduceLeDiff,Int.reduceLE,Int.reduceNe,Int.reduceEq,Nat.reduceEqDiff,Nat.reduceLT,Nat.reduceBEq,ty,noS,d1,d2,hk,d4]
     · have d2 : decide (t = t') = false := decide_eq_false h2
       simp only [go_sem,coe,zaa,Nat.reduceAdd,Nat.reduceSub,Nat.reduceMul,Int.reduceToNat,reduceCtorEq,↓reduceIte,Int.reducePow,Nat.reducePow,Int.reduceMod,Nat.reduceLeDiff,Int.reduceLE,Int.reduceNe,Int.reduceEq,Nat.reduceEqDiff,Nat.reduceLT,Nat.reduceBEq,ty,noS,d1,d2]
   · have d1 : decide (d = d') = false := decide_eq_false h1
     simp only [go_sem,coe,zaa,Nat.reduceAdd,Nat.reduceSub,Nat.reduceMul,Int.reduceToNat,reduceCtorEq,↓reduceIte,Int.reducePow,Nat.reducePow,Int.reduceMod,Nat.reduceLeDiff,Int.reduceLE,Int.reduceNe,Int.reduceEq,Nat.reduceEqDiff,Nat.reduceLT,Nat.reduceBEq,ty,noS,d1]
 · exact hp.elim
end
end Go.Proofs.Ytjiognhpcijndaa
namespace Go.Proofs.Ytjiognhpcijndaa
open Ax
def sallS : zal
 | [.sg 6 xs f,.sg 6 ys g],[] => ⟨(xs.length ≤ 9223372036854775807 ∧ ∃ rs : List Rec,xs = rs.map rv) ∧ ys.length ≤ 9223372036854775807 ∧ ∃ qs : List Rec,ys = qs.map rv,
     .w (.bool (decide (xs.map rrec = ys.map rrec))),[]⟩
 | _,_ => zba
theorem same_cases (b c p e s : Int) (rs : List Rec) (b' c' p' e' s' : Int) (qs : List Rec) :
   (decide (b = b') = false ∧ zcy b c p e s rs b' c' p' e' s' qs = false) ∨
   (decide (b = b') = true ∧ decide (c = c') = false ∧ zcy b c p e s rs b' c' p' e' s' qs = false) ∨
   (decide (b = b') = true ∧ decide (c = c') = true ∧ decide (p = p') = false ∧ zcy b c p e s rs b' c' p' e' s' qs = false) ∨
   (decide (b = b') = true ∧ decide (c = c') = true ∧ decide (p = p') = true ∧ decide (e = e') = false ∧ zcy b c p e s rs b' c' p' e' s' qs = false) ∨
   (decide (b = b') = true ∧ decide (c = c') = true ∧ decide (p = p') = true ∧ decide (e = e') = true ∧ decide (s = s') = false ∧ zcy b c p e s rs b' c' p' e' s' qs = false) ∨
   (decide (b = b') = true ∧ decide (c = c') = true ∧ decide (p = p') = true ∧ decide (e = e') = true ∧ decide (s = s') = true ∧ zcy b c p e s rs b' c' p' e' s' qs = decide (rs = qs)) := by
 unfold zcy
 by_cases h1 : b = b' <;> by_cases h2 : c = c' <;> by_cases h3 : p = p' <;> by_cases h4 : e = e' <;> by_cases h5 : s = s' <;> simp [h1,h2,h3,h4,h5]
def Ssall (f : FuncId) : Option zal :=
 match f with
 | 75 => some rsameS
 | _ => none
theorem Ssall_ok : Fns Try.prog Ssall := by
 intro f s h
 unfold Ssall at h
 split at h
 · injection h with h; subst h; exact ⟨⟨_,Try.func75,by kernel_rfl,by kernel_rfl⟩,rrsame_sound⟩
 · cases h
section
set_option maxRecDepth 100000
set_option maxHeartbeats 1000000 in
theorem sall_sound : zar Try.prog 59 sallS := by
 refine zah (S := Ssall) (T := tyF) zat tyF_ok Ssall_ok Try.func59 (c := Try.f59.body.getD .skip) (by kernel_rfl) (by kernel_rfl) (fun xs pins hp _ => ?_)
 unfold sallS at hp ⊢
 split at hp
 · rename_i xs f ys g _
   obtain ⟨⟨hL1,rs,rfl⟩,hL2,qs,rfl⟩ := hp
   rw [List.length_map] at hL1 hL2
   refine ⟨by simp,?_⟩
   have hlp : (rs.map rv).length = rs.length := by simp
   have hlq : (qs.map rv).length = qs.length := by simp
   unfold Try.f59
   by_cases hl : rs.length = qs.length
   · have d0 : decide ((rs.length : Int) = qs.length) = true := decide_eq_true (by omega)
     have hk : rs = qs ↔ ∀ j (h : j < rs.length) (h' : j < qs.length),rs[j] = qs[j] := ⟨fun h => by subst h; intros; rfl,fun h => List.ext_getElem hl h⟩
     simp only [go_sem,zaa,Nat.reduceAdd,Nat.reduceSub,Nat.reduceMul,Int.reduceToNat,reduceCtorEq,↓reduceIte,Int.reducePow,Nat.reducePow,Int.reduceMod,Nat.reduceLeDiff,Int.reduceLE,Int.reduceNe,Int.reduceEq,Nat.reduceEqDiff,Nat.reduceLT,Nat.reduceBEq,tyF,zaj,ty,Ssall,hlp,hlq,d0,zae]
     refine zas ⟨fun m σ => ∃ i : Nat,m = rs.length - i ∧ i ≤ rs.length ∧ (∀ j (h : j < rs.length) (h' : j < qs.length),j < i → rs[j] = qs[j]) ∧
         σ = ⟨[.sg 6 (rs.map rv) f,.sg 6 (qs.map rv) g,.junk,.junk,.junk,.w (.int .i64 i),.junk,.junk,.junk,.junk,.junk,.junk,.junk,.junk,.junk,.junk,.junk,.junk,.junk,.junk,.junk,.junk,.junk,.junk,.junk,.junk,.junk],[],4⟩,?_,?_⟩
     · refine ⟨_,_,zac [0,1,2,3] rfl rfl rfl ?_ ?_,0,rfl,by omega,by intro j _ _ h; omega,rfl⟩
       · simp only [ssT,zaf,zag,setSlot,gOf,AV.ren,renL,Blk.ren,Ax.look,Ax.put,reduceCtorEq,↓reduceIte,Nat.reduceEqDiff,Nat.reduceLT,Nat.reduceAdd,List.length_append,List.length_cons,List.length_nil,Option.some.injEq]; simp
       · simp only [ssT,zaf,zag,setSlot,gOf,AV.ren,renL,Blk.ren,Ax.look,Ax.put,reduceCtorEq,↓reduceIte,Nat.reduceEqDiff,Nat.reduceLT,Nat.reduceAdd,List.length_append,List.length_cons,List.length_nil,Option.some.injEq]
     · rintro m σ ⟨i,rfl,hi,hall,rfl⟩
       by_cases hil : i < rs.length
       · have d1 : decide ((i : Int) < rs.length) = true := decide_eq_true (by omega)
         have e1 : ((i : Int) + 1 + 9223372036854775808) % 18446744073709551616 - 9223372036854775808 = ((i + 1 : Nat) : Int) := by omega
         have hiq : i < qs.length := by omega
         have hs1 := zbi rv rs i hil
         have hs2 := zbi rv qs i hiq
         obtain ⟨P,hP⟩ : ∃ P,rs[i] = P := ⟨_,rfl⟩
         obtain ⟨Q,hQ⟩ : ∃ Q,qs[i] = Q := ⟨_,rfl⟩
         rw [hP] at hs1
         rw [hQ] at hs2
         simp only [rv] at hs1 hs2
         have hsm := sameB_rec P Q
         by_cases ha : P = Q
         · rw [decide_eq_true ha] at hsm
           simp only [go_sem,zaa,Nat.reduceAdd,Nat.reduceSub,Nat.reduceMul,Int.reduceToNat,reduceCtorEq,↓reduceIte,Int.reducePow,Nat.reducePow,Int.reduceMod,Nat.reduceLeDiff,Int.reduceLE,Int.reduceNe,Int.reduceEq,Nat.reduceEqDiff,Nat.reduceLT,Nat.reduceBEq,tyF,zaj,ty,Ssall,rsameS,hlp,hlq,d1,hs1,hs2,e1,hsm,Int.toNat_natCast]
           repeat (refine And.intro (by omega) ?_)
           refine ⟨rs.length - (i + 1),_,by omega,zac [0,1,2,3] rfl rfl rfl ?_ ?_,i + 1,rfl,by omega,?_,rfl⟩
           · simp only [ssT,zaf,zag,setSlot,gOf,AV.ren,renL,Blk.ren,Ax.look,Ax.put,reduceCtorEq,↓reduceIte,Nat.reduceEqDiff,Nat.reduceLT,Nat.reduceAdd,List.length_append,List.length_cons,List.length_nil,Option.some.injEq]
           · simp only [ssT,zaf,zag,setSlot,gOf,AV.ren,renL,Blk.ren,Ax.look,Ax.put,reduceCtorEq,↓reduceIte,Nat.reduceEqDiff,Nat.reduceLT,Nat.reduceAdd,List.length_append,List.length_cons,List.length_nil,Option.some.injEq]
           · intro j h h' hj
             rcases Nat.lt_or_ge j i with h2 | h2
             · exact hall j h h' h2
             · have : j = i := by omega
               subst this
               rw [hP,hQ]; exact ha
         · rw [decide_eq_false ha] at hsm
           have dr : decide (rs = qs) = false := decide_eq_false (fun h => ha (by rw [← hP,← hQ]; exact hk.1 h i hil hiq))
           simp only [go_sem,zaa,Nat.reduceAdd,Nat.reduceSub,Nat.reduceMul,Int.reduceToNat,reduceCtorEq,↓reduceIte,Int.reducePow,Nat.reducePow,Int.reduceMod,Nat.reduceLeDiff,Int.reduceLE,Int.reduceNe,Int.reduceEq,Nat.reduceEqDiff,Nat.reduceLT,Nat.reduceBEq,tyF,zaj,ty,Ssall,rsameS,hlp,hlq,d1,hs1,hs2,e1,hsm,dr,zae,Int.toNat_natCast]
           omega
       · have d1 : decide ((i : Int) < rs.length) = false := decide_eq_false (by omega)
         have dr : decide (rs = qs) = true := decide_eq_true (hk.2 fun j h h' => hall j h h' (by omega))
         simp only [go_sem,zaa,Nat.reduceAdd,Nat.reduceSub,Nat.reduceMul,Int.reduceToNat,reduceCtorEq,↓reduceIte,Int.reducePow,Nat.reducePow,Int.reduceMod,Nat.reduceLeDiff,Int.reduceLE,Int.reduceNe,Int.reduceEq,Nat.reduceEqDiff,Nat.reduceLT,Nat.reduceBEq,tyF,zaj,ty,Ssall,hlp,hlq,d1,dr,zae]
   · have d0 : decide ((rs.length : Int) = qs.length) = false := decide_eq_false (by omega)
     have dr : decide (rs = qs) = false := decide_eq_false (fun h => hl (by rw [h]))
     simp only [go_sem,zaa,Nat.reduceAdd,Nat.reduceSub,Nat.reduceMul,Int.reduceToNat,reduceCtorEq,↓reduceIte,Int.reducePow,Nat.reducePow,Int.reduceMod,Nat.reduceLeDiff,Int.reduceLE,Int.reduceNe,Int.reduceEq,Nat.reduceEqDiff,Nat.reduceLT,Nat.reduceBEq,tyF,zaj,ty,Ssall,hlp,hlq,d0,dr,zae]
 · exact hp.elim
def Srsame4 (f : FuncId) : Option zal :=
 match f with
 | 59 => some sallS
 | _ => none
theorem Srsame4_ok : Fns Try.prog Srsame4 := by
 intro f s h
 unfold Srsame4 at h
 split at h
 · injection h with h; subst h; exact ⟨⟨_,Try.func59,by kernel_rfl,by kernel_rfl⟩,sall_sound⟩
 · cases h
set_option maxHeartbeats 1000000 in
theorem rsame4_sound : zar Try.prog 38 zcx := by
 refine zah (S := Srsame4) (T := ty) zat ty_ok Srsame4_ok Try.func38 (c := Try.f38.body.getD .skip) (by kernel_rfl) (by kernel_rfl) (fun xs pins hp _ => ?_)
 unfold zcx at hp ⊢
 split at hp
 · rename_i b c p e s xs f b' c' p' e' s' ys g _
   obtain ⟨⟨hL1,rs,rfl⟩,hL2,qs,rfl⟩ := hp
   rw [List.length_map] at hL1 hL2
   refine ⟨by simp,?_⟩
   have hlp : (rs.map rv).length = rs.length := by simp
   have hlq : (qs.map rv).length = qs.length := by simp
   have hx1 : ∃ qs_1 : List Rec,rs.map rv = qs_1.map rv := ⟨rs,rfl⟩
   have hx2 : ∃ qs_1 : List Rec,qs.map rv = qs_1.map rv := ⟨qs,rfl⟩
   have hc1 : coe ty 41 (.sg 6 (rs.map rv) f) = .sg 6 (rs.map rv) f := by cases rs <;> rfl
   have hc2 : coe ty 41 (.sg 6 (qs.map rv) g) = .sg 6 (qs.map rv) g := by cases qs <;> rfl
   unfold Try.f38
   rcases same_cases b c p e s rs b' c' p' e' s' qs with D | D | D | D | D | D
   all_goals simp only [go_sem,zaa,Nat.reduceAdd,Nat.reduceSub,Nat.reduceMul,Int.reduceToNat,reduceCtorEq,↓reduceIte,Int.reducePow,Nat.reducePow,Int.reduceMod,Nat.reduceLeDiff,Int.reduceLE,Int.reduceNe,Int.reduceEq,Nat.reduceEqDiff,Nat.reduceLT,Nat.reduceBEq,hc1,hc2,ty,Srsame4,sallS,hlp,hlq,hL1,hL2,hx1,hx2,zae,D]
 · exact hp.elim
end
end Go.Proofs.Ytjiognhpcijndaa
namespace Go.Proofs.Ytjiognhpcijndaa
open Ax
def eqBrS : zal
 | [.sg 6 xs f,.sg 6 ys g],[] => ⟨(xs.length ≤ 1000000 ∧ ∃ es : List (Bat × Bool),xs = es.map bvp ∧ ∀ p ∈ es,p.1.rs.length ≤ 40) ∧ ys.length ≤ 1000000 ∧ ∃ gs : List (Bat × Bool),ys = gs.map bvp ∧ ∀ p ∈ gs,p.1.rs.length ≤ 40,.w (.bool (decide (xs.map ubat = ys.map ubat))),[]⟩
 | _,_ => zba
def SeqBr (f : FuncId) : Option zal :=
 match f with
 | 38 => some zcx
 | _ => none
theorem SeqBr_ok : Fns Try.prog SeqBr := by
 intro f s h
 unfold SeqBr at h
 split at h
 · injection h with h; subst h; exact ⟨⟨_,Try.func38,by kernel_rfl,by kernel_rfl⟩,rsame4_sound⟩
 · cases h
section
set_option maxRecDepth 100000
set_option maxHeartbeats 2000000 in
theorem eqBr_sound : zar Try.prog 12 eqBrS := by
 refine zah (S := SeqBr) (T := tyF) zat tyF_ok SeqBr_ok Try.func12 (c := Try.f12.body.getD .skip) (by kernel_rfl) (by kernel_rfl) (fun xs pins hp _ => ?_)
 unfold eqBrS at hp ⊢
 split at hp
 · rename_i xs f ys g _
   obtain ⟨⟨hL1,es,rfl,he⟩,hL2,gs,rfl,hg⟩ := hp
   rw [List.length_map] at hL1 hL2
   rw [zaz,zaz]
   refine ⟨by simp,?_⟩
   have hlp : (es.map bvp).length = es.length := by simp
   have hlq : (gs.map bvp).length = gs.length := by simp
   have hla : (es.map Prod.fst).length = es.length := by simp
   have hlb : (gs.map Prod.fst).length = gs.length := by simp
   unfold Try.f12
   by_cases hl : es.length = gs.length
   · have d0 : decide ((es.length : Int) = gs.length) = true := decide_eq_true (by omega)
     have hk : es.map Prod.fst = gs.map Prod.fst ↔ ∀ j (h : j < es.length) (h' : j < gs.length),es[j].1 = gs[j].1 := by
       constructor
       · intro h j h1 h2
         have := List.getElem_of_eq h (i := j) (by omega)
         simpa using this
       · intro h
         refine List.ext_getElem (by omega) ?_
         intro j h1 h2
         simpa using h j (by omega) (by omega)
     simp only [go_sem,zaa,Nat.reduceAdd,Nat.reduceSub,Nat.reduceMul,Int.reduceToNat,reduceCtorEq,↓reduceIte,Int.reducePow,Nat.reducePow,Int.reduceMod,Nat.reduceLeDiff,Int.reduceLE,Int.reduceNe,Int.reduceEq,Nat.reduceEqDiff,Nat.reduceLT,Nat.reduceBEq,tyF,zaj,ty,SeqBr,hlp,hlq,d0]
     refine zas ⟨fun m σ => ∃ i : Nat,m = es.length - i ∧ i ≤ es.length ∧ (∀ j (h : j < es.length) (h' : j < gs.length),j < i → es[j].1 = gs[j].1) ∧
         σ = ⟨[.sg 6 (es.map bvp) f,.sg 6 (gs.map bvp) g,.junk,.junk,.junk,.w (.int .i64 i),.junk,.junk,.junk,.junk,.junk,.junk,.junk,.junk,.junk,.junk,.junk,.junk,.junk,.junk,.junk,.junk,.junk,.junk,.junk,.junk,.junk],[],4⟩,?_,?_⟩
     · refine ⟨_,_,zac [0,1,2,3] rfl rfl rfl ?_ ?_,0,rfl,by omega,by intro j _ _ h; omega,rfl⟩
       · simp only [ssT,zaf,zag,setSlot,gOf,AV.ren,renL,Blk.ren,Ax.look,Ax.put,reduceCtorEq,↓reduceIte,Nat.reduceEqDiff,Nat.reduceLT,Nat.reduceAdd,List.length_append,List.length_cons,List.length_nil,Option.some.injEq]; simp
       · simp only [ssT,zaf,zag,setSlot,gOf,AV.ren,renL,Blk.ren,Ax.look,Ax.put,reduceCtorEq,↓reduceIte,Nat.reduceEqDiff,Nat.reduceLT,Nat.reduceAdd,List.length_append,List.length_cons,List.length_nil,Option.some.injEq]
     · rintro m σ ⟨i,rfl,hi,hall,rfl⟩
       by_cases hil : i < es.length
       · have d1 : decide ((i : Int) < es.length) = true := decide_eq_true (by omega)
         have e1 : ((i : Int) + 1 + 9223372036854775808) % 18446744073709551616 - 9223372036854775808 = ((i + 1 : Nat) : Int) := by omega
         have hiq : i < gs.length := by omega
         have hs1 := zbb es i hil
         have hs2 := zbb gs i hiq
         have m1 := he es[i] (List.getElem_mem hil)
         have m2 := hg gs[i] (List.getElem_mem hiq)
         obtain ⟨P,hP⟩ : ∃ P,es[i] = P := ⟨_,rfl⟩
         obtain ⟨Q,hQ⟩ : ∃ Q,gs[i] = Q := ⟨_,rfl⟩
         rw [hP] at hs1 m1
         rw [hQ] at hs2 m2
         obtain ⟨⟨b,c,p,e,s,rs⟩,f'⟩ := P
         obtain ⟨⟨b',c',p',e',s',qs⟩,g'⟩ := Q
         have hs1 : slot (es.map bvp) i = .agg [.w (.int .i64 b),.w (.int .i64 c),.w (.int .i64 p),.w (.int .i64 e),.w (.int .i64 s),.sg 6 (rs.map rv) f'] := hs1
         have hs2 : slot (gs.map bvp) i = .agg [.w (.int .i64 b'),.w (.int .i64 c'),.w (.int .i64 p'),.w (.int .i64 e'),.w (.int .i64 s'),.sg 6 (qs.map rv) g'] := hs2
         have n1 : (rs.map rv).length ≤ 9223372036854775807 := by rw [List.length_map]; simp only at m1; omega
         have n2 : (qs.map rv).length ≤ 9223372036854775807 := by rw [List.length_map]; simp only at m2; omega
         have x1 : ∃ k : List Rec,rs.map rv = k.map rv := ⟨rs,rfl⟩
         have x2 : ∃ k : List Rec,qs.map rv = k.map rv := ⟨qs,rfl⟩
         have r1 := zae rs
         have r2 := zae qs
         have hbs := bsame_decJ b c p e s rs b' c' p' e' s' qs
         by_cases ha : (⟨b,c,p,e,s,rs⟩ : Bat) = ⟨b',c',p',e',s',qs⟩
         · rw [decide_eq_true ha] at hbs
           simp only [go_sem,zaa,Nat.reduceAdd,Nat.reduceSub,Nat.reduceMul,Int.reduceToNat,reduceCtorEq,↓reduceIte,Int.reducePow,Nat.reducePow,Int.reduceMod,Nat.reduceLeDiff,Int.reduceLE,Int.reduceNe,Int.reduceEq,Nat.reduceEqDiff,Nat.reduceLT,Nat.reduceBEq,tyF,zaj,ty,SeqBr,zcx,hlp,hlq,d1,hs1,hs2,e1,n1,n2,x1,x2,r1,r2,hbs,Int.toNat_natCast]
           repeat (refine And.intro (by omega) ?_)
           refine ⟨es.length - (i + 1),_,by omega,zac [0,1,2,3] rfl rfl rfl ?_ ?_,i + 1,rfl,by omega,?_,rfl⟩
           · simp only [ssT,zaf,zag,setSlot,gOf,AV.ren,renL,Blk.ren,Ax.look,Ax.put,reduceCtorEq,↓reduceIte,Nat.reduceEqDiff,Nat.reduceLT,Nat.reduceAdd,List.length_append,List.length_cons,List.length_nil,Option.some.injEq]
           · simp only [ssT,zaf,zag,setSlot,gOf,AV.ren,renL,Blk.ren,Ax.look,Ax.put,reduceCtorEq,↓reduceIte,Nat.reduceEqDiff,Nat.reduceLT,Nat.reduceAdd,List.length_append,List.length_cons,List.length_nil,Option.some.injEq]
           · intro j h h' hj
             rcases Nat.lt_or_ge j i with h2 | h2
             · exact hall j h h' h2
             · have : j = i := by omega
               subst this
               rw [hP,hQ]; exact ha
         · have dr : decide (es.map Prod.fst = gs.map Prod.fst) = false := decide_eq_false (fun h => ha (by have := hk.1 h i hil hiq; rw [hP,hQ] at this; exact this))
           rw [decide_eq_false ha] at hbs
           simp only [go_sem,zaa,Nat.reduceAdd,Nat.reduceSub,Nat.reduceMul,Int.reduceToNat,reduceCtorEq,↓reduceIte,Int.reducePow,Nat.reducePow,Int.reduceMod,Nat.reduceLeDiff,Int.reduceLE,Int.reduceNe,Int.reduceEq,Nat.reduceEqDiff,Nat.reduceLT,Nat.reduceBEq,tyF,zaj,ty,SeqBr,zcx,hlp,hlq,d1,hs1,hs2,e1,n1,n2,x1,x2,r1,r2,hbs,dr,Int.toNat_natCast]
           all_goals omega
       · have d1 : decide ((i : Int) < es.length) = false := decide_eq_false (by omega)
         have dr : decide (es.map Prod.fst = gs.map Prod.fst) = true := decide_eq_true (hk.2 fun j h h' => hall j h h' (by omega))
         simp only [go_sem,zaa,Nat.reduceAdd,Nat.reduceSub,Nat.reduceMul,Int.reduceToNat,reduceCtorEq,↓reduceIte,Int.reducePow,Nat.reducePow,Int.reduceMod,Nat.reduceLeDiff,Int.reduceLE,Int.reduceNe,Int.reduceEq,Nat.reduceEqDiff,Nat.reduceLT,Nat.reduceBEq,tyF,zaj,ty,SeqBr,hlp,hlq,d1,dr]
   · have d0 : decide ((es.length : Int) = gs.length) = false := decide_eq_false (by omega)
     have dr : decide (es.map Prod.fst = gs.map Prod.fst) = false := decide_eq_false (fun h => hl (by have := congrArg List.length h; simpa using this))
     simp only [go_sem,zaa,Nat.reduceAdd,Nat.reduceSub,Nat.reduceMul,Int.reduceToNat,reduceCtorEq,↓reduceIte,Int.reducePow,Nat.reducePow,Int.reduceMod,Nat.reduceLeDiff,Int.reduceLE,Int.reduceNe,Int.reduceEq,Nat.reduceEqDiff,Nat.reduceLT,Nat.reduceBEq,tyF,zaj,ty,SeqBr,hlp,hlq,d0,dr]
 · exact hp.elim
end
end Go.Proofs.Ytjiognhpcijndaa
namespace Go.Proofs.Ytjiognhpcijndaa
open Ax
set_option maxRecDepth 10000
theorem fromR_len (b off : Int) (rs : List Rec) : (fromR b off rs).length ≤ rs.length := List.length_filter_le _ _
theorem fetch_ok (off most : Int) {l : List Bat} (h : ∀ x ∈ l,x.rs.length ≤ 40) : ∃ es : List (Bat × Bool),bfr (zaq off most l) = es.map bvp ∧ ∀ p ∈ es,p.1.rs.length ≤ 40 := by
 refine ⟨(zaq off most l).map offB,rfl,fun p hp => ?_⟩
 obtain ⟨x,hx,rfl⟩ := List.mem_map.1 hp
 have h1 : x ∈ selB off l := List.mem_of_mem_take hx
 obtain ⟨y,hy,rfl⟩ := List.mem_map.1 h1
 have h2 := h y (List.mem_filter.1 hy).1
 exact Nat.le_trans (fromR_len _ _ _) h2
end Go.Proofs.Ytjiognhpcijndaa
