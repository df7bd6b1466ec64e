/- What the proofs of this seat stand on; it asks nothing. -/
import Derived.Test.YtmedjkjoannbmaaZa08
set_option linter.unusedSimpArgs false
set_option linter.unusedVariables false
namespace Go.Proofs.Ytmedjkjoannbmaa
open Ax
section
set_option maxRecDepth 100000
def sameB (d t : Int) (k : Bool) (key : List UInt8) (dd : Bool) (val : List UInt8) (d' t' : Int) (k' : Bool) (key' : List UInt8) (dd' : Bool) (val' : List UInt8) : Bool :=
 decide (d = d') && (decide (t = t') && ((k == k') && (decide (key = key') && ((dd == dd') && (decide (val = val') && true)))))
def rsameS : zai
 | [.agg [.w (.int .i64 d),.w (.int .i64 t),.w (.bool k),.str key,.w (.bool dd),.str val],.agg [.w (.int .i64 d'),.w (.int .i64 t'),.w (.bool k'),.str key',.w (.bool dd'),.str val']],[] => ⟨True,.w (.bool (sameB d t k key dd val d' t' k' key' dd' val')),[]⟩
 | _,_ => zba
theorem rsame_sound : zaq Try.prog 71 rsameS := by
 refine zak (S := noS) (T := ty) zas ty_ok zby Try.func71 (c := Try.f71.body.getD .skip) (by kernel_rfl) (by kernel_rfl) (fun xs pins hp _ => ?_)
 unfold rsameS at hp ⊢
 split at hp
 · rename_i d t k key dd val d' t' k' key' dd' val' _
   refine ⟨by simp,?_⟩
   unfold Try.f71
   simp only [go_sem,coe,zaa,Nat.reduceAdd,Nat.reduceSub,Nat.reduceMul,Int.reduceToNat,reduceCtorEq,↓reduceIte,Int.reducePow,Nat.reducePow,Int.reduceMod,Nat.reduceLeDiff,Int.reduceLE,Int.reduceNe,Int.reduceEq,Nat.reduceEqDiff,Nat.reduceLT,Nat.reduceBEq,ty,noS,sameB]
 · exact hp.elim
theorem rrsame_sound : zaq Try.prog 89 rsameS := by
 refine zak (S := noS) (T := ty) zas ty_ok zby Try.func89 (c := Try.f89.body.getD .skip) (by kernel_rfl) (by kernel_rfl) (fun xs pins hp _ => ?_)
 unfold rsameS at hp ⊢
 split at hp
 · rename_i d t k key dd val d' t' k' key' dd' val' _
   refine ⟨by simp,?_⟩
   unfold Try.f89
   unfold sameB
   by_cases h1 : d = d'
   · have d1 : decide (d = d') = true := decide_eq_true h1
     by_cases h2 : t = t'
     · have d2 : decide (t = t') = true := decide_eq_true h2
       cases hk : (k == k') with
       | false => simp only [go_sem,coe,zaa,Nat.reduceAdd,Nat.reduceSub,Nat.reduceMul,Int.reduceToNat,reduceCtorEq,↓reduceIte,Int.reducePow,Nat.reducePow,Int.reduceMod,Nat.reduceLeDiff,Int.reduceLE,Int.reduceNe,Int.reduceEq,Nat.reduceEqDiff,Nat.reduceLT,Nat.reduceBEq,ty,noS,d1,d2,hk]
       | true =>
         by_cases h4 : key = key'
         · have d4 : decide (key = key') = true := decide_eq_true h4
           cases hd : (dd == dd') with
           | false => simp only [go_sem,coe,zaa,Nat.reduceAdd,Nat.reduceSub,Nat.reduceMul,Int.reduceToNat,reduceCtorEq,↓reduceIte,Int.reducePow,Nat.reducePow,Int.reduceMod,Nat.reduceLeDiff,Int.reduceLE,Int.reduceNe,Int.reduceEq,Nat.reduceEqDiff,Nat.reduceLT,Nat.reduceBEq,ty,noS,d1,d2,hk,d4,hd]
           | true => simp only [go_sem,coe,zaa,Nat.reduceAdd,Nat.reduceSub,Nat.reduceMul,Int.reduceToNat,reduceCtorEq,↓reduceIte,Int.reducePow,Nat.reducePow,Int.reduceMod,Nat.reduceLeDiff,Int.reduceLE,Int.reduceNe,Int.reduceEq,Nat.reduceEqDiff,Nat.reduceLT,Nat.reduceBEq,ty,noS,d1,d2,hk,d4,hd]
         · have d4 : decide (key = key') = false := decide_eq_false h4
           simp only [go_sem,coe,zaa,Nat.reduceAdd,Nat.reduceSub,Nat.reduceMul,Int.reduceToNat,reduceCtorEq,↓reduceIte,Int.reducePow,Nat.reducePow,Int.reduceMod,Nat.reduceLeDiff,Int.reduceLE,Int.reduceNe,Int.reduceEq,Nat.reduceEqDiff,Nat.reduceLT,Nat.reduceBEq,ty,noS,d1,d2,hk,d4]
     · have d2 : decide (t = t') = false := decide_eq_false h2
       simp only [go_sem,coe,zaa,Nat.reduceAdd,Nat.reduceSub,Nat.reduceMul,Int.reduceToNat,reduceCtorEq,↓reduceIte,Int.reducePow,Nat.reducePow,Int.reduceMod,Nat.reduceLeDiff,Int.reduceLE,Int.reduceNe,Int.reduceEq,Nat.reduceEqDiff,Nat.reduceLT,Nat.reduceBEq,ty,noS,d1,d2]
   · have d1 : decide (d = d') = false := decide_eq_false h1
     simp only [go_sem,coe,zaa,Nat.reduceAdd,Nat.reduceSub,Nat.reduceMul,Int.reduceToNat,reduceCtorEq,↓reduceIte,Int.reducePow,Nat.reducePow,Int.reduceMod,Nat.reduceLeDiff,Int.reduceLE,Int.reduceNe,Int.reduceEq,Nat.reduceEqDiff,Nat.reduceLT,Nat.reduceBEq,ty,noS,d1]
 · exact hp.elim
end
end Go.Proofs.Ytmedjkjoannbmaa
namespace Go.Proofs.Ytmedjkjoannbmaa
open Ax
instance : DecidableEq Rec := fun a b => decidable_of_iff (a.d = b.d ∧ a.t = b.t ∧ a.k = b.k ∧ a.key = b.key ∧ a.dd = b.dd ∧ a.val = b.val) (by cases a; cases b; simp)
theorem sameB_rec (r q : Rec) : sameB r.d r.t r.k r.key r.dd r.val q.d q.t q.k q.key q.dd q.val = decide (r = q) := by
 cases r; cases q
 unfold sameB
 rw [Bool.eq_iff_iff]
 simp
def bchkS4 : zai
 | [.agg [.w (.int .i64 b),.w (.int .i64 c),.w (.int .i64 p),.w (.int .i64 e),.w (.int .i64 s),.sg 6 xs f]],[] => ⟨xs.length ≤ 9223372036854775807 ∧ ∃ rs : List Rec,xs = rs.map rv,
     .w (.int .i64 (batE b c p e s (xs.map rrec))),[]⟩
 | _,_ => zba
def eqfS : zai
 | [.sg 6 xs f,.sg 6 ys g,.fn id []],[] => ⟨id = 71 ∧ (xs.length ≤ 9223372036854775807 ∧ ∃ rs : List Rec,xs = rs.map rv) ∧ ys.length ≤ 9223372036854775807 ∧ ∃ qs : List Rec,ys = qs.map rv,
     .w (.bool (decide (xs.map rrec = ys.map rrec))),[]⟩
 | _,_ => zba
def Sbl3 (f : FuncId) : Option zai :=
 match f with
 | 76 => some zce
 | _ => none
theorem Sbl3_ok : Fns Try.prog Sbl3 := by
 intro f s h
 unfold Sbl3 at h
 split at h
 · injection h with h; subst h; exact ⟨⟨_,Try.func76,by kernel_rfl,by kernel_rfl⟩,blay4_sound⟩
 · cases h
def Seqf (f : FuncId) : Option zai :=
 match f with
 | 71 => some rsameS
 | _ => none
theorem Seqf_ok : Fns Try.prog Seqf := by
 intro f s h
 unfold Seqf at h
 split at h
 · injection h with h; subst h; exact ⟨⟨_,Try.func71,by kernel_rfl,by kernel_rfl⟩,rsame_sound⟩
 · cases h
section
set_option maxRecDepth 100000
set_option maxHeartbeats 1000000 in
theorem bput4_sound : zaq Try.prog 39 zce := by
 refine zak (S := Sbl3) (T := ty) zas ty_ok Sbl3_ok Try.func39 (c := Try.f39.body.getD .skip) (by kernel_rfl) (by kernel_rfl) (fun xs pins hp _ => ?_)
 unfold zce at hp ⊢
 split at hp
 · rename_i b c p e s xs f _
   obtain ⟨hL,rs,rfl⟩ := hp
   have hl4 : (rs.map rv).length = rs.length := by simp
   rw [hl4] at hL
   have hex : ∃ qs : List Rec,rs.map rv = qs.map rv := ⟨rs,rfl⟩
   refine ⟨by simp,?_⟩
   unfold Try.f39
   simp only [go_sem,zaa,Nat.reduceAdd,Nat.reduceSub,Nat.reduceMul,Int.reduceToNat,reduceCtorEq,↓reduceIte,Int.reducePow,Nat.reducePow,Int.reduceMod,Nat.reduceLeDiff,Int.reduceLE,Int.reduceNe,Int.reduceEq,Nat.reduceEqDiff,Nat.reduceLT,Nat.reduceBEq,ty,Sbl3,zce,hl4,hL,hex,zah]
 · exact hp.elim
set_option maxHeartbeats 1000000 in
theorem bchk4_sound : zaq Try.prog 61 bchkS4 := by
 refine zak (S := Sbl3) (T := ty) zas ty_ok Sbl3_ok Try.func61 (c := Try.f61.body.getD .skip) (by kernel_rfl) (by kernel_rfl) (fun xs pins hp _ => ?_)
 unfold bchkS4 at hp ⊢
 split at hp
 · rename_i b c p e s xs f _
   obtain ⟨hL,rs,rfl⟩ := hp
   have hl4 : (rs.map rv).length = rs.length := by simp
   rw [hl4] at hL
   have hex : ∃ qs : List Rec,rs.map rv = qs.map rv := ⟨rs,rfl⟩
   refine ⟨by simp,?_⟩
   unfold Try.f61
   simp only [go_sem,zaa,Nat.reduceAdd,Nat.reduceSub,Nat.reduceMul,Int.reduceToNat,reduceCtorEq,↓reduceIte,Int.reducePow,Nat.reducePow,Int.reduceMod,Nat.reduceLeDiff,Int.reduceLE,Int.reduceNe,Int.reduceEq,Nat.reduceEqDiff,Nat.reduceLT,Nat.reduceBEq,ty,Sbl3,zce,hl4,hL,hex,zah]
 · exact hp.elim
set_option maxHeartbeats 1000000 in
theorem eqf_sound : zaq Try.prog 70 eqfS := by
 refine zak (S := Seqf) (T := ty) zas ty_ok Seqf_ok Try.func70 (c := Try.f70.body.getD .skip) (by kernel_rfl) (by kernel_rfl) (fun xs pins hp _ => ?_)
 unfold eqfS at hp ⊢
 split at hp
 · rename_i xs f ys g id _
   obtain ⟨rfl,⟨hL1,rs,rfl⟩,hL2,qs,rfl⟩ := hp
   rw [List.length_map] at hL1 hL2
   refine ⟨by simp,?_⟩
   have hlp : (rs.map rv).length = rs.length := by simp
   have hlq : (qs.map rv).length = qs.length := by simp
   unfold Try.f70
   by_cases hl : rs.length = qs.length
   · have d0 : decide ((rs.length : Int) = qs.length) = true := decide_eq_true (by omega)
     have hk : rs = qs ↔ ∀ j (h : j < rs.length) (h' : j < qs.length),rs[j] = qs[j] := ⟨fun h => by subst h; intros; rfl,fun h => List.ext_getElem hl h⟩
     simp only [go_sem,zaa,Nat.reduceAdd,Nat.reduceSub,Nat.reduceMul,Int.reduceToNat,reduceCtorEq,↓reduceIte,Int.reducePow,Nat.reducePow,Int.reduceMod,Nat.reduceLeDiff,Int.reduceLE,Int.reduceNe,Int.reduceEq,Nat.reduceEqDiff,Nat.reduceLT,Nat.reduceBEq,ty,Seqf,hlp,hlq,d0,zah]
     refine zbr ⟨fun m σ => ∃ i : Nat,m = rs.length - i ∧ i ≤ rs.length ∧ (∀ j (h : j < rs.length) (h' : j < qs.length),j < i → rs[j] = qs[j]) ∧
         σ = ⟨[.sg 6 (rs.map rv) f,.sg 6 (qs.map rv) g,.fn 71 [],.junk,.junk,.junk,.junk,.junk,.junk,.junk,.junk,.junk,.junk,.junk,.junk,.sg 6 (rs.map rv) f,.w (.int .i64 rs.length),.w (.int .i64 i),.junk,.junk,.junk,.junk,.junk,.junk,.junk,.junk,.junk,.junk,.junk,.junk,.junk,.junk],[],4⟩,?_,?_⟩
     · refine ⟨_,_,zad [0,1,2,3] rfl rfl rfl ?_ ?_,0,rfl,by omega,by intro j _ _ h; omega,rfl⟩
       · simp only [ssT,zae,zaf,setSlot,gOf,AV.ren,renL,Blk.ren,Ax.look,Ax.put,reduceCtorEq,↓reduceIte,Nat.reduceEqDiff,Nat.reduceLT,Nat.reduceAdd,List.length_append,List.length_cons,List.length_nil,Option.some.injEq]; simp
       · simp only [ssT,zae,zaf,setSlot,gOf,AV.ren,renL,Blk.ren,Ax.look,Ax.put,reduceCtorEq,↓reduceIte,Nat.reduceEqDiff,Nat.reduceLT,Nat.reduceAdd,List.length_append,List.length_cons,List.length_nil,Option.some.injEq]
     · rintro m σ ⟨i,rfl,hi,hall,rfl⟩
       by_cases hil : i < rs.length
       · have d1 : decide ((i : Int) < rs.length) = true := decide_eq_true (by omega)
         have e1 : ((i : Int) + 1 + 9223372036854775808) % 18446744073709551616 - 9223372036854775808 = ((i + 1 : Nat) : Int) := by omega
         have hiq : i < qs.length := by omega
         have hs1 := zee rv rs i hil
         have hs2 := zee rv qs i hiq
         obtain ⟨P,hP⟩ : ∃ P,rs[i] = P := ⟨_,rfl⟩
         obtain ⟨Q,hQ⟩ : ∃ Q,qs[i] = Q := ⟨_,rfl⟩
         rw [hP] at hs1
         rw [hQ] at hs2
         simp only [rv] at hs1 hs2
         have hsm := sameB_rec P Q
         by_cases ha : P = Q
         · have hsm2 : sameB P.d P.t P.k P.key P.dd P.val Q.d Q.t Q.k Q.key Q.dd Q.val = true := by rw [hsm]; exact decide_eq_true ha
           simp only [go_sem,zaa,Nat.reduceAdd,Nat.reduceSub,Nat.reduceMul,Int.reduceToNat,reduceCtorEq,↓reduceIte,Int.reducePow,Nat.reducePow,Int.reduceMod,Nat.reduceLeDiff,Int.reduceLE,Int.reduceNe,Int.reduceEq,Nat.reduceEqDiff,Nat.reduceLT,Nat.reduceBEq,ty,Seqf,rsameS,hlp,hlq,d1,hs1,hs2,e1,hsm2,Int.toNat_natCast]
           repeat (refine And.intro (by omega) ?_)
           refine ⟨rs.length - (i + 1),_,by omega,zad [0,1,2,3] rfl rfl rfl ?_ ?_,i + 1,rfl,by omega,?_,rfl⟩
           · simp only [ssT,zae,zaf,setSlot,gOf,AV.ren,renL,Blk.ren,Ax.look,Ax.put,reduceCtorEq,↓reduceIte,Nat.reduceEqDiff,Nat.reduceLT,Nat.reduceAdd,List.length_append,List.length_cons,List.length_nil,Option.some.injEq]
           · simp only [ssT,zae,zaf,setSlot,gOf,AV.ren,renL,Blk.ren,Ax.look,Ax.put,reduceCtorEq,↓reduceIte,Nat.reduceEqDiff,Nat.reduceLT,Nat.reduceAdd,List.length_append,List.length_cons,List.length_nil,Option.some.injEq]
           · intro j h h' hj
             rcases Nat.lt_or_ge j i with h2 | h2
             · exact hall j h h' h2
             · have : j = i := by omega
               subst this
               rw [hP,hQ]; exact ha
         · have hsm2 : sameB P.d P.t P.k P.key P.dd P.val Q.d Q.t Q.k Q.key Q.dd Q.val = false := by rw [hsm]; exact decide_eq_false ha
           have dr : decide (rs = qs) = false := decide_eq_false (fun h => ha (by rw [← hP,← hQ]; exact hk.1 h i hil hiq))
           simp only [go_sem,zaa,Nat.reduceAdd,Nat.reduceSub,Nat.reduceMul,Int.reduceToNat,reduceCtorEq,↓reduceIte,Int.reducePow,Nat.reducePow,Int.reduceMod,Nat.reduceLeDiff,Int.reduceLE,Int.reduceNe,Int.reduceEq,Nat.reduceEqDiff,Nat.reduceLT,Nat.reduceBEq,ty,Seqf,rsameS,hlp,hlq,d1,hs1,hs2,e1,hsm2,dr,zah,Int.toNat_natCast]
           omega
       · have d1 : decide ((i : Int) < rs.length) = false := decide_eq_false (by omega)
         have dr : decide (rs = qs) = true := decide_eq_true (hk.2 fun j h h' => hall j h h' (by omega))
         simp only [go_sem,zaa,Nat.reduceAdd,Nat.reduceSub,Nat.reduceMul,Int.reduceToNat,reduceCtorEq,↓reduceIte,Int.reducePow,Nat.reducePow,Int.reduceMod,Nat.reduceLeDiff,Int.reduceLE,Int.reduceNe,Int.reduceEq,Nat.reduceEqDiff,Nat.reduceLT,Nat.reduceBEq,ty,Seqf,hlp,hlq,d1,dr,zah]
   · have d0 : decide ((rs.length : Int) = qs.length) = false := decide_eq_false (by omega)
     have dr : decide (rs = qs) = false := decide_eq_false (fun h => hl (by rw [h]))
     simp only [go_sem,zaa,Nat.reduceAdd,Nat.reduceSub,Nat.reduceMul,Int.reduceToNat,reduceCtorEq,↓reduceIte,Int.reducePow,Nat.reducePow,Int.reduceMod,Nat.reduceLeDiff,Int.reduceLE,Int.reduceNe,Int.reduceEq,Nat.reduceEqDiff,Nat.reduceLT,Nat.reduceBEq,ty,Seqf,hlp,hlq,d0,dr,zah]
 · exact hp.elim
end
end Go.Proofs.Ytmedjkjoannbmaa
namespace Go.Proofs.Ytmedjkjoannbmaa
open Ax
def zcl (b c p e s : Int) (rs : List Rec) (b' c' p' e' s' : Int) (qs : List Rec) : Bool := decide (b = b' ∧ c = c' ∧ p = p' ∧ e = e' ∧ s = s' ∧ rs = qs)
def zeg : zai
 | [.agg [.w (.int .i64 b),.w (.int .i64 c),.w (.int .i64 p),.w (.int .i64 e),.w (.int .i64 s),.sg 6 xs f],.agg [.w (.int .i64 b'),.w (.int .i64 c'),.w (.int .i64 p'),.w (.int .i64 e'),.w (.int .i64 s'),.sg 6 ys g]],[] =>
     ⟨(xs.length ≤ 9223372036854775807 ∧ ∃ rs : List Rec,xs = rs.map rv) ∧ ys.length ≤ 9223372036854775807 ∧ ∃ qs : List Rec,ys = qs.map rv,
     .w (.bool (zcl b c p e s (xs.map rrec) b' c' p' e' s' (ys.map rrec))),[]⟩
 | _,_ => zba
def Sbsame4 (f : FuncId) : Option zai :=
 match f with
 | 70 => some eqfS
 | _ => none
theorem Sbsame4_ok : Fns Try.prog Sbsame4 := by
 intro f s h
 unfold Sbsame4 at h
 split at h
 · injection h with h; subst h; exact ⟨⟨_,Try.func70,by kernel_rfl,by kernel_rfl⟩,eqf_sound⟩
 · cases h
section
set_option maxRecDepth 100000
set_option maxHeartbeats 1000000 in
theorem bsame4_sound : zaq Try.prog 33 zeg := by
 refine zak (S := Sbsame4) (T := ty) zas ty_ok Sbsame4_ok Try.func33 (c := Try.f33.body.getD .skip) (by kernel_rfl) (by kernel_rfl) (fun xs pins hp _ => ?_)
 unfold zeg at hp ⊢
 split at hp
 · rename_i b c p e s xs f b' c' p' e' s' ys g _
   obtain ⟨⟨hL1,rs,rfl⟩,hL2,qs,rfl⟩ := hp
   rw [List.length_map] at hL1 hL2
   refine ⟨by simp,?_⟩
   have hlp : (rs.map rv).length = rs.length := by simp
   have hlq : (qs.map rv).length = qs.length := by simp
   have hx1 : ∃ qs_1 : List Rec,rs.map rv = qs_1.map rv := ⟨rs,rfl⟩
   have hx2 : ∃ qs_1 : List Rec,qs.map rv = qs_1.map rv := ⟨qs,rfl⟩
   unfold Try.f33
   by_cases h1 : b = b'
   · have d1 : decide (b = b') = true := decide_eq_true h1
     by_cases h2 : c = c'
     · have d2 : decide (c = c') = true := decide_eq_true h2
       by_cases h3 : p = p'
       · have d3 : decide (p = p') = true := decide_eq_true h3
         by_cases h4 : e = e'
         · have d4 : decide (e = e') = true := decide_eq_true h4
           by_cases h5 : s = s'
           · have d5 : decide (s = s') = true := decide_eq_true h5
             have hc1 : coe ty 22 (.sg 6 (rs.map rv) f) = .sg 6 (rs.map rv) f := by cases rs <;> rfl
             have hc2 : coe ty 22 (.sg 6 (qs.map rv) g) = .sg 6 (qs.map rv) g := by cases qs <;> rfl
             have hv : zcl b c p e s rs b' c' p' e' s' qs = decide (rs = qs) := by unfold zcl; simp [h1,h2,h3,h4,h5]
             simp only [go_sem,zaa,Nat.reduceAdd,Nat.reduceSub,Nat.reduceMul,Int.reduceToNat,reduceCtorEq,↓reduceIte,Int.reducePow,Nat.reducePow,Int.reduceMod,Nat.reduceLeDiff,Int.reduceLE,Int.reduceNe,Int.reduceEq,Nat.reduceEqDiff,Nat.reduceLT,Nat.reduceBEq,hc1,hc2,ty,Sbsame4,eqfS,hlp,hlq,hL1,hL2,hx1,hx2,zah,d1,d2,d3,d4,d5,hv]
           · have d5 : decide (s = s') = false := decide_eq_false h5
             have hv : zcl b c p e s rs b' c' p' e' s' qs = false := decide_eq_false (fun h => h5 h.2.2.2.2.1)
             simp only [go_sem,zaa,Nat.reduceAdd,Nat.reduceSub,Nat.reduceMul,Int.reduceToNat,reduceCtorEq,↓reduceIte,Int.reducePow,Nat.reducePow,Int.reduceMod,Nat.reduceLeDiff,Int.reduceLE,Int.reduceNe,Int.reduceEq,Nat.reduceEqDiff,Nat.reduceLT,Nat.reduceBEq,ty,Sbsame4,zah,d1,d2,d3,d4,d5,hv]
         · have d4 : decide (e = e') = false := decide_eq_false h4
           have hv : zcl b c p e s rs b' c' p' e' s' qs = false := decide_eq_false (fun h => h4 h.2.2.2.1)
           simp only [go_sem,zaa,Nat.reduceAdd,Nat.reduceSub,Nat.reduceMul,Int.reduceToNat,reduceCtorEq,↓reduceIte,Int.reducePow,Nat.reducePow,Int.reduceMod,Nat.reduceLeDiff,Int.reduceLE,Int.reduceNe,Int.reduceEq,Nat.reduceEqDiff,Nat.reduceLT,Nat.reduceBEq,ty,Sbsame4,zah,d1,d2,d3,d4,hv]
       · have d3 : decide (p = p') = false := decide_eq_false h3
         have hv : zcl b c p e s rs b' c' p' e' s' qs = false := decide_eq_false (fun h => h3 h.2.2.1)
         simp only [go_sem,zaa,Nat.reduceAdd,Nat.reduceSub,Nat.reduceMul,Int.reduceToNat,reduceCtorEq,↓reduceIte,Int.reducePow,Nat.reducePow,Int.reduceMod,Nat.reduceLeDiff,Int.reduceLE,Int.reduceNe,Int.reduceEq,Nat.reduceEqDiff,Nat.reduceLT,Nat.reduceBEq,ty,Sbsame4,zah,d1,d2,d3,hv]
     · have d2 : decide (c = c') = false := decide_eq_false h2
       have hv : zcl b c p e s rs b' c' p' e' s' qs = false := decide_eq_false (fun h => h2 h.2.1)
       simp only [go_sem,zaa,Nat.reduceAdd,Nat.reduceSub,Nat.reduceMul,Int.reduceToNat,reduceCtorEq,↓reduceIte,Int.reducePow,Nat.reducePow,Int.reduceMod,Nat.reduceLeDiff,Int.reduceLE,Int.reduceNe,Int.reduceEq,Nat.reduceEqDiff,Nat.reduceLT,Nat.reduceBEq,ty,Sbsame4,zah,d1,d2,hv]
   · have d1 : decide (b = b') = false := decide_eq_false h1
     have hv : zcl b c p e s rs b' c' p' e' s' qs = false := decide_eq_false (fun h => h1 h.1)
     simp only [go_sem,zaa,Nat.reduceAdd,Nat.reduceSub,Nat.reduceMul,Int.reduceToNat,reduceCtorEq,↓reduceIte,Int.reducePow,Nat.reducePow,Int.reduceMod,Nat.reduceLeDiff,Int.reduceLE,Int.reduceNe,Int.reduceEq,Nat.reduceEqDiff,Nat.reduceLT,Nat.reduceBEq,ty,Sbsame4,zah,d1,hv]
 · exact hp.elim
end
end Go.Proofs.Ytmedjkjoannbmaa
namespace Go.Proofs.Ytmedjkjoannbmaa
open Ax
theorem zbz : ∀ (G : List Rec),closedL (G.map rv) = true
 | [] => rfl
 | x :: r => by simp only [List.map_cons,closedL,rv,AV.closed,Bool.true_and]; exact zbz r
theorem ren_rv (g : Nat → Nat) : ∀ (G : List Rec),renL g (G.map rv) = G.map rv
 | [] => rfl
 | x :: r => by simp only [List.map_cons,renL,ren_rv g r]; rfl
section
set_option maxRecDepth 100000
set_option maxHeartbeats 1000000 in
end
end Go.Proofs.Ytmedjkjoannbmaa
namespace Go.Proofs.Ytmedjkjoannbmaa
open Ax
theorem and1 : ∀ x : Fin 256,bits .and .u8 ((x.val : Nat) : Int) 1 = if x.val % 2 = 1 then 1 else 0 := by decide +kernel
theorem and2 : ∀ x : Fin 256,bits .and .u8 ((x.val : Nat) : Int) 2 = if x.val / 2 % 2 = 1 then 2 else 0 := by decide +kernel
def g0 (bs : List UInt8) (e : Int) : Nat := (zdz 1 bs e).toNat
def gb1 (bs : List UInt8) (e : Int) := zfj 1 bs e
def ge1 (bs : List UInt8) (e : Int) := rfixE 1 bs e
def gd (bs : List UInt8) (e : Int) : Int := numN (gb1 bs e) (ge1 bs e)
def gb2 (bs : List UInt8) (e : Int) := numL (gb1 bs e) (ge1 bs e)
def ge2 (bs : List UInt8) (e : Int) := numE (gb1 bs e) (ge1 bs e)
def gt (bs : List UInt8) (e : Int) : Int := numN (gb2 bs e) (ge2 bs e)
def gb3 (bs : List UInt8) (e : Int) := numL (gb2 bs e) (ge2 bs e)
def ge3 (bs : List UInt8) (e : Int) := numE (gb2 bs e) (ge2 bs e)
def gk (bs : List UInt8) (e : Int) : Bool := decide (g0 bs e % 2 = 1)
def gdd (bs : List UInt8) (e : Int) : Bool := decide (g0 bs e / 2 % 2 = 1)
def gkey (bs : List UInt8) (e : Int) : List UInt8 := if gk bs e then rtS' 64 (gb3 bs e) (ge3 bs e) else []
def gb4 (bs : List UInt8) (e : Int) : List UInt8 := if gk bs e then rtL 64 (gb3 bs e) (ge3 bs e) else gb3 bs e
def ge4 (bs : List UInt8) (e : Int) : Int := if gk bs e then rtE 64 (gb3 bs e) (ge3 bs e) else ge3 bs e
def gval (bs : List UInt8) (e : Int) : List UInt8 := if gdd bs e then [] else rtS' 512 (gb4 bs e) (ge4 bs e)
def gb5 (bs : List UInt8) (e : Int) : List UInt8 := if gdd bs e then gb4 bs e else rtL 512 (gb4 bs e) (ge4 bs e)
def ge5 (bs : List UInt8) (e : Int) : Int := if gdd bs e then ge4 bs e else rtE 512 (gb4 bs e) (ge4 bs e)
def gerr (bs : List UInt8) (e : Int) : Int :=
 if ge5 bs e ≠ 0 then ge5 bs e else if 4 ≤ g0 bs e ∨ rchk (gd bs e) (gt bs e) (gk bs e) (gkey bs e) (gdd bs e) (gval bs e) ≠ 0 then 4 else 0
def grec (bs : List UInt8) (e : Int) : AV := if gerr bs e = 0 then recV (gd bs e) (gt bs e) (gk bs e) (gkey bs e) (gdd bs e) (gval bs e) else recV 0 0 false [] false []
def rgetS : zai
 | [.rf 0 2 0 0],[.g 2 [.agg [.sb bs f,.w (.int .i64 e)]]] => ⟨bs.length ≤ 1000000,.tup [grec bs e,.w (.int .i64 (gerr bs e))],[rd (gb5 bs e) f (ge5 bs e)]⟩
 | [.w (.pointer none)],[] => ⟨True,.tup [recV 0 0 false [] false [],.w (.int .i64 1)],[]⟩
 | _,_ => zba
def Srget (f : FuncId) : Option zai :=
 match f with
 | 46 => some zff
 | 52 => some numS
 | 55 => some zbs
 | 80 => some errS
 | 94 => some zbh
 | _ => none
theorem Srget_ok : Fns Try.prog Srget := by
 intro f s h
 unfold Srget at h
 split at h
 · injection h with h; subst h; exact ⟨⟨_,Try.func46,by kernel_rfl,by kernel_rfl⟩,mfixed_sound⟩
 · injection h with h; subst h; exact ⟨⟨_,Try.func52,by kernel_rfl,by kernel_rfl⟩,num_sound⟩
 · injection h with h; subst h; exact ⟨⟨_,Try.func55,by kernel_rfl,by kernel_rfl⟩,mtext_sound⟩
 · injection h with h; subst h; exact ⟨⟨_,Try.func80,by kernel_rfl,by kernel_rfl⟩,err_sound⟩
 · injection h with h; subst h; exact ⟨⟨_,Try.func94,by kernel_rfl,by kernel_rfl⟩,rcheck_sound⟩
 · cases h
theorem tkL_length (n : Int) (bs : List UInt8) : (tkL n bs).length ≤ bs.length := by unfold tkL; split <;> simp
theorem zdi (m : Int) (bs : List UInt8) (e : Int) : (rtL m bs e).length ≤ bs.length := by
 unfold rtL
 have h1 := zan bs e
 split
 · have := tkL_length (numN bs e) (numL bs e); omega
 · exact h1
theorem zbp (n : Int) (bs : List UInt8) (e : Int) : (zfj n bs e).length ≤ bs.length := by
 unfold zfj; split
 · exact tkL_length _ _
 · exact Nat.le_refl _
theorem unf1 (bs : List UInt8) (h : bs.length ≤ 1) : unfL (zch bs) 0 < 256 := by
 have hl : zch bs = bs := by unfold zch; rw [show bs.length - 8 = 0 by omega,List.drop_zero]
 rw [hl]
 match bs,h with
 | [],_ => simp [unfL]
 | [c],_ =>
   have := c.toNat_lt
   simp only [unfL,List.foldl_cons,List.foldl_nil]
   omega
theorem rfix1 (bs : List UInt8) (e : Int) : 0 ≤ zdz 1 bs e ∧ zdz 1 bs e < 256 := by
 unfold zdz
 split
 · have h : (tkB (zfo 1) bs).length ≤ 1 := by
     have : zfo 1 = 1 := by decide
     rw [this]; unfold tkB; split
     · simp
     · simp; omega
   have := unf1 _ h
   omega
 · omega
section
set_option maxRecDepth 100000
set_option maxHeartbeats 2000000 in
theorem recget_sound : zaq Try.prog 84 rgetS := by
 refine zak (S := Srget) (T := ty) zas ty_ok Srget_ok Try.func84 (c := Try.f84.body.getD .skip) (by kernel_rfl) (by kernel_rfl) (fun xs pins hp _ => ?_)
 unfold rgetS at hp ⊢
 split at hp
 · rename_i bs f e _
   have hlen : bs.length ≤ 1000000 := hp
   refine ⟨by simp,?_⟩
   have hr := rfix1 bs e
   have hN : zdz 1 bs e = ((g0 bs e : Nat) : Int) := by unfold g0; omega
   have hN2 : g0 bs e < 256 := by omega
   have a1 := and1 ⟨g0 bs e,hN2⟩
   have a2 := and2 ⟨g0 bs e,hN2⟩
   simp only at a1 a2
   have hm1 : ((g0 bs e : Nat) : Int) % 256 = ((g0 bs e : Nat) : Int) := by omega
   have q1 : (gb1 bs e).length ≤ 1000000 := by have := zbp 1 bs e; unfold gb1; omega
   have q2 : (gb2 bs e).length ≤ 1000000 := by have := zan (gb1 bs e) (ge1 bs e); unfold gb2; omega
   have q3 : (gb3 bs e).length ≤ 1000000 := by have := zan (gb2 bs e) (ge2 bs e); unfold gb3; omega
   have q4 : (gb4 bs e).length ≤ 1000000 := by have := zdi 64 (gb3 bs e) (ge3 bs e); unfold gb4; split <;> omega
   have i1 : zfj 1 bs e = gb1 bs e := rfl
   have i2 : rfixE 1 bs e = ge1 bs e := rfl
   have i3 : numN (gb1 bs e) (ge1 bs e) = gd bs e := rfl
   have i4 : numL (gb1 bs e) (ge1 bs e) = gb2 bs e := rfl
   have i5 : numE (gb1 bs e) (ge1 bs e) = ge2 bs e := rfl
   have i6 : numN (gb2 bs e) (ge2 bs e) = gt bs e := rfl
   have i7 : numL (gb2 bs e) (ge2 bs e) = gb3 bs e := rfl
   have i8 : numE (gb2 bs e) (ge2 bs e) = ge3 bs e := rfl
   unfold Try.f84
   rcases Bool.eq_false_or_eq_true (gk bs e) with hk | hk <;> rcases Bool.eq_false_or_eq_true (gdd bs e) with hdd | hdd
   · have c1 : bits .and .u8 ((g0 bs e : Nat) : Int) 1 = 1 := by rw [a1]; unfold gk at hk; simpa using hk
     have c2 : bits .and .u8 ((g0 bs e : Nat) : Int) 2 = 2 := by rw [a2]; unfold gdd at hdd; simpa using hdd
     have x1 : rtL 64 (gb3 bs e) (ge3 bs e) = gb4 bs e := by unfold gb4; rw [hk]; rfl
     have x2 : rtE 64 (gb3 bs e) (ge3 bs e) = ge4 bs e := by unfold ge4; rw [hk]; rfl
     have x3 : rtS' 64 (gb3 bs e) (ge3 bs e) = gkey bs e := by unfold gkey; rw [hk]; rfl
     have x4 : gb5 bs e = gb4 bs e := by unfold gb5; rw [hdd]; rfl
     have x5 : ge5 bs e = ge4 bs e := by unfold ge5; rw [hdd]; rfl
     have x6 : gval bs e = [] := by unfold gval; rw [hdd]; rfl
     by_cases h5 : ge4 bs e = 0
     · have e5 : ge5 bs e = 0 := by first | exact h5 | (rw [x5]; exact h5)
       by_cases h4 : 4 ≤ g0 bs e
       · have d4 : decide ((4 : Int) ≤ ((g0 bs e : Nat) : Int)) = true := decide_eq_true (by omega)
         have hG : gerr bs e = 4 := by unfold gerr; rw [if_neg (by simpa using e5),if_pos (.inl h4)]
         have hV : grec bs e = recV 0 0 false [] false [] := by unfold grec; rw [hG]; rfl
         simp only [go_sem,coe,zaa,Nat.reduceAdd,Nat.reduceSub,Nat.reduceMul,Int.reduceToNat,reduceCtorEq,↓reduceIte,Int.reducePow,Nat.reducePow,Int.reduceMod,Nat.reduceLeDiff,Int.reduceLE,Int.reduceNe,Int.reduceEq,Nat.reduceEqDiff,Nat.reduceLT,Nat.reduceBEq,ty,Srget,zff,numS,zbs,errS,zbh,rd,fillS,recV,hN,hm1,c1,c2,i1,i2,i3,i4,i5,i6,i7,i8,x1,x2,x3,x4,x5,x6,hlen,q1,q2,q3,q4,h5,d4,hG,hV]
       · have d4 : decide ((4 : Int) ≤ ((g0 bs e : Nat) : Int)) = false := decide_eq_false (by omega)
         by_cases hc : rchk (gd bs e) (gt bs e) true (gkey bs e) true ([]) = 0
         · have hG : gerr bs e = 0 := by unfold gerr; rw [if_neg (by simpa using e5),hk,hdd,x6,if_neg (by rintro (h | h); exact h4 h; exact h hc)]
           have hV : grec bs e = recV (gd bs e) (gt bs e) true (gkey bs e) true ([]) := by unfold grec; rw [hG,if_pos rfl,hk,hdd,x6]
           simp only [go_sem,coe,zaa,Nat.reduceAdd,Nat.reduceSub,Nat.reduceMul,Int.reduceToNat,reduceCtorEq,↓reduceIte,Int.reducePow,Nat.reducePow,Int.reduceMod,Nat.reduceLeDiff,Int.reduceLE,Int.reduceNe,Int.reduceEq,Nat.reduceEqDiff,Nat.reduceLT,Nat.reduceBEq,ty,Srget,zff,numS,zbs,errS,zbh,rd,fillS,recV,hN,hm1,c1,c2,i1,i2,i3,i4,i5,i6,i7,i8,x1,x2,x3,x4,x5,x6,hlen,q1,q2,q3,q4,h5,d4,hG,hV,hc]
         · have hG : gerr bs e = 4 := by unfold gerr; rw [if_neg (by simpa using e5),hk,hdd,x6,if_pos (.inr hc)]
           have hV : grec bs e = recV 0 0 false [] false [] := by unfold grec; rw [hG]; rfl
           have d5 : decide (rchk (gd bs e) (gt bs e) true (gkey bs e) true ([]) = 0) = false := decide_eq_false hc
           simp only [go_sem,coe,zaa,Nat.reduceAdd,Nat.reduceSub,Nat.reduceMul,Int.reduceToNat,reduceCtorEq,↓reduceIte,Int.reducePow,Nat.reducePow,Int.reduceMod,Nat.reduceLeDiff,Int.reduceLE,Int.reduceNe,Int.reduceEq,Nat.reduceEqDiff,Nat.reduceLT,Nat.reduceBEq,ty,Srget,zff,numS,zbs,errS,zbh,rd,fillS,recV,hN,hm1,c1,c2,i1,i2,i3,i4,i5,i6,i7,i8,x1,x2,x3,x4,x5,x6,hlen,q1,q2,q3,q4,h5,d4,hG,hV,d5]
     · have e5 : ¬ ge5 bs e = 0 := by first | exact h5 | (rw [x5]; exact h5)
       have d5 : decide (ge4 bs e = 0) = false := decide_eq_false h5
       have hG : gerr bs e = ge4 bs e := by unfold gerr; rw [if_pos e5]; exact x5
       have hV : grec bs e = recV 0 0 false [] false [] := by unfold grec; rw [hG,if_neg h5]
       simp only [go_sem,coe,zaa,Nat.reduceAdd,Nat.reduceSub,Nat.reduceMul,Int.reduceToNat,reduceCtorEq,↓reduceIte,Int.reducePow,Nat.reducePow,Int.reduceMod,Nat.reduceLeDiff,Int.reduceLE,Int.reduceNe,Int.reduceEq,Nat.reduceEqDiff,Nat.reduceLT,Nat.reduceBEq,ty,Srget,zff,numS,zbs,errS,zbh,rd,fillS,recV,hN,hm1,c1,c2,i1,i2,i3,i4,i5,i6,i7,i8,x1,x2,x3,x4,x5,x6,hlen,q1,q2,q3,q4,d5,hG,hV]
   · have c1 : bits .and .u8 ((g0 bs e : Nat) : Int) 1 = 1 := by rw [a1]; unfold gk at hk; simpa using hk
     have c2 : bits .and .u8 ((g0 bs e : Nat) : Int) 2 = 0 := by rw [a2]; unfold gdd at hdd; simpa using hdd
     have x1 : rtL 64 (gb3 bs e) (ge3 bs e) = gb4 bs e := by unfold gb4; rw [hk]; rfl
     have x2 : rtE 64 (gb3 bs e) (ge3 bs e) = ge4 bs e := by unfold ge4; rw [hk]; rfl
     have x3 : rtS' 64 (gb3 bs e) (ge3 bs e) = gkey bs e := by unfold gkey; rw [hk]; rfl
     have x4 : rtL 512 (gb4 bs e) (ge4 bs e) = gb5 bs e := by unfold gb5; rw [hdd]; rfl
     have x5 : rtE 512 (gb4 bs e) (ge4 bs e) = ge5 bs e := by unfold ge5; rw [hdd]; rfl
     have x6 : rtS' 512 (gb4 bs e) (ge4 bs e) = gval bs e := by unfold gval; rw [hdd]; rfl
     by_cases h5 : ge5 bs e = 0
     · have e5 : ge5 bs e = 0 := by first | exact h5 | (rw [x5]; exact h5)
       by_cases h4 : 4 ≤ g0 bs e
       · have d4 : decide ((4 : Int) ≤ ((g0 bs e : Nat) : Int)) = true := decide_eq_true (by omega)
         have hG : gerr bs e = 4 := by unfold gerr; rw [if_neg (by simpa using e5),if_pos (.inl h4)]
         have hV : grec bs e = recV 0 0 false [] false [] := by unfold grec; rw [hG]; rfl
         simp only [go_sem,coe,zaa,Nat.reduceAdd,Nat.reduceSub,Nat.reduceMul,Int.reduceToNat,reduceCtorEq,↓reduceIte,Int.reducePow,Nat.reducePow,Int.reduceMod,Nat.reduceLeDiff,Int.reduceLE,Int.reduceNe,Int.reduceEq,Nat.reduceEqDiff,Nat.reduceLT,Nat.reduceBEq,ty,Srget,zff,numS,zbs,errS,zbh,rd,fillS,recV,hN,hm1,c1,c2,i1,i2,i3,i4,i5,i6,i7,i8,x1,x2,x3,x4,x5,x6,hlen,q1,q2,q3,q4,h5,d4,hG,hV]
       · have d4 : decide ((4 : Int) ≤ ((g0 bs e : Nat) : Int)) = false := decide_eq_false (by omega)
         by_cases hc : rchk (gd bs e) (gt bs e) true (gkey bs e) false (gval bs e) = 0
         · have hG : gerr bs e = 0 := by unfold gerr; rw [if_neg (by simpa using e5),hk,hdd,if_neg (by rintro (h | h); exact h4 h; exact h hc)]
           have hV : grec bs e = recV (gd bs e) (gt bs e) true (gkey bs e) false (gval bs e) := by unfold grec; rw [hG,if_pos rfl,hk,hdd]
           simp only [go_sem,coe,zaa,Nat.reduceAdd,Nat.reduceSub,Nat.reduceMul,Int.reduceToNat,reduceCtorEq,↓reduceIte,Int.reducePow,Nat.reducePow,Int.reduceMod,Nat.reduceLeDiff,Int.reduceLE,Int.reduceNe,Int.reduceEq,Nat.reduceEqDiff,Nat.reduceLT,Nat.reduceBEq,ty,Srget,zff,numS,zbs,errS,zbh,rd,fillS,recV,hN,hm1,c1,c2,i1,i2,i3,i4,i5,i6,i7,i8,x1,x2,x3,x4,x5,x6,hlen,q1,q2,q3,q4,h5,d4,hG,hV,hc]
         · have hG : gerr bs e = 4 := by unfold gerr; rw [if_neg (by simpa using e5),hk,hdd,if_pos (.inr hc)]
           have hV : grec bs e = recV 0 0 false [] false [] := by unfold grec; rw [hG]; rfl
           have d5 : decide (rchk (gd bs e) (gt bs e) true (gkey bs e) false (gval bs e) = 0) = false := decide_eq_false hc
           simp only [go_sem,coe,zaa,Nat.reduceAdd,Nat.reduceSub,Nat.reduceMul,Int.reduceToNat,reduceCtorEq,↓reduceIte,Int.reducePow,Nat.reducePow,Int.reduceMod,Nat.reduceLeDiff,Int.reduceLE,Int.reduceNe,Int.reduceEq,Nat.reduceEqDiff,Nat.reduceLT,Nat.reduceBEq,ty,Srget,zff,numS,zbs,errS,zbh,rd,fillS,recV,hN,hm1,c1,c2,i1,i2,i3,i4,i5,i6,i7,i8,x1,x2,x3,x4,x5,x6,hlen,q1,q2,q3,q4,h5,d4,hG,hV,d5]
     · have e5 : ¬ ge5 bs e = 0 := by first | exact h5 | (rw [x5]; exact h5)
       have d5 : decide (ge5 bs e = 0) = false := decide_eq_false h5
       have hG : gerr bs e = ge5 bs e := by unfold gerr; rw [if_pos e5]
       have hV : grec bs e = recV 0 0 false [] false [] := by unfold grec; rw [hG,if_neg h5]
       simp only [go_sem,coe,zaa,Nat.reduceAdd,Nat.reduceSub,Nat.reduceMul,Int.reduceToNat,reduceCtorEq,↓reduceIte,Int.reducePow,Nat.reducePow,Int.reduceMod,Nat.reduceLeDiff,Int.reduceLE,Int.reduceNe,Int.reduceEq,Nat.reduceEqDiff,Nat.reduceLT,Nat.reduceBEq,ty,Srget,zff,numS,zbs,errS,zbh,rd,fillS,recV,hN,hm1,c1,c2,i1,i2,i3,i4,i5,i6,i7,i8,x1,x2,x3,x4,x5,x6,hlen,q1,q2,q3,q4,d5,hG,hV]
   · have c1 : bits .and .u8 ((g0 bs e : Nat) : Int) 1 = 0 := by rw [a1]; unfold gk at hk; simpa using hk
     have c2 : bits .and .u8 ((g0 bs e : Nat) : Int) 2 = 2 := by rw [a2]; unfold gdd at hdd; simpa using hdd
     have x1 : gb3 bs e = gb4 bs e := by unfold gb4; rw [hk]; rfl
     have x2 : ge3 bs e = ge4 bs e := by unfold ge4; rw [hk]; rfl
     have x3 : gkey bs e = [] := by unfold gkey; rw [hk]; rfl
     have x4 : gb5 bs e = gb4 bs e := by unfold gb5; rw [hdd]; rfl
     have x5 : ge5 bs e = ge4 bs e := by unfold ge5; rw [hdd]; rfl
     have x6 : gval bs e = [] := by unfold gval; rw [hdd]; rfl
     by_cases h5 : ge4 bs e = 0
     · have e5 : ge5 bs e = 0 := by first | exact h5 | (rw [x5]; exact h5)
       by_cases h4 : 4 ≤ g0 bs e
       · have d4 : decide ((4 : Int) ≤ ((g0 bs e : Nat) : Int)) = true := decide_eq_true (by omega)
         have hG : gerr bs e = 4 := by unfold gerr; rw [if_neg (by simpa using e5),if_pos (.inl h4)]
         have hV : grec bs e = recV 0 0 false [] false [] := by unfold grec; rw [hG]; rfl
         simp only [go_sem,coe,zaa,Nat.reduceAdd,Nat.reduceSub,Nat.reduceMul,Int.reduceToNat,reduceCtorEq,↓reduceIte,Int.reducePow,Nat.reducePow,Int.reduceMod,Nat.reduceLeDiff,Int.reduceLE,Int.reduceNe,Int.reduceEq,Nat.reduceEqDiff,Nat.reduceLT,Nat.reduceBEq,ty,Srget,zff,numS,zbs,errS,zbh,rd,fillS,recV,hN,hm1,c1,c2,i1,i2,i3,i4,i5,i6,i7,i8,x1,x2,x3,x4,x5,x6,hlen,q1,q2,q3,q4,h5,d4,hG,hV]
       · have d4 : decide ((4 : Int) ≤ ((g0 bs e : Nat) : Int)) = false := decide_eq_false (by omega)
         by_cases hc : rchk (gd bs e) (gt bs e) false ([]) true ([]) = 0
         · have hG : gerr bs e = 0 := by unfold gerr; rw [if_neg (by simpa using e5),hk,hdd,x3,x6,if_neg (by rintro (h | h); exact h4 h; exact h hc)]
           have hV : grec bs e = recV (gd bs e) (gt bs e) false ([]) true ([]) := by unfold grec; rw [hG,if_pos rfl,hk,hdd,x3,x6]
           simp only [go_sem,coe,zaa,Nat.reduceAdd,Nat.reduceSub,Nat.reduceMul,Int.reduceToNat,reduceCtorEq,↓reduceIte,Int.reducePow,Nat.reducePow,Int.reduceMod,Nat.reduceLeDiff,Int.reduceLE,Int.reduceNe,Int.reduceEq,Nat.reduceEqDiff,Nat.reduceLT,Nat.reduceBEq,ty,Srget,zff,numS,zbs,errS,zbh,rd,fillS,recV,hN,hm1,c1,c2,i1,i2,i3,i4,i5,i6,i7,i8,x1,x2,x3,x4,x5,x6,hlen,q1,q2,q3,q4,h5,d4,hG,hV,hc]
         · have hG : gerr bs e = 4 := by unfold gerr; rw [if_neg (by simpa using e5),hk,hdd,x3,x6,if_pos (.inr hc)]
           have hV : grec bs e = recV 0 0 false [] false [] := by unfold grec; rw [hG]; rfl
           have d5 : decide (rchk (gd bs e) (gt bs e) false ([]) true ([]) = 0) = false := decide_eq_false hc
           simp only [go_sem,coe,zaa,Nat.reduceAdd,Nat.reduceSub,Nat.reduceMul,Int.reduceToNat,reduceCtorEq,↓reduceIte,Int.reducePow,Nat.reducePow,Int.reduceMod,Nat.reduceLeDiff,Int.reduceLE,Int.reduceNe,Int.reduceEq,Nat.reduceEqDiff,Nat.reduceLT,Nat.reduceBEq,ty,Srget,zff,numS,zbs,errS,zbh,rd,fillS,recV,hN,hm1,c1,c2,i1,i2,i3,i4,i5,i6,i7,i8,x1,x2,x3,x4,x5,x6,hlen,q1,q2,q3,q4,h5,d4,hG,hV,d5]
     · have e5 : ¬ ge5 bs e = 0 := by first | exact h5 | (rw [x5]; exact h5)
       have d5 : decide (ge4 bs e = 0) = false := decide_eq_false h5
       have hG : gerr bs e = ge4 bs e := by unfold gerr; rw [if_pos e5]; exact x5
       have hV : grec bs e = recV 0 0 false [] false [] := by unfold grec; rw [hG,if_neg h5]
       simp only [go_sem,coe,zaa,Nat.reduceAdd,Nat.reduceSub,Nat.reduceMul,Int.reduceToNat,reduceCtorEq,↓reduceIte,Int.reducePow,Nat.reducePow,Int.reduceMod,Nat.reduceLeDiff,Int.reduceLE,Int.reduceNe,Int.reduceEq,Nat.reduceEqDiff,Nat.reduceLT,Nat.reduceBEq,ty,Srget,zff,numS,zbs,errS,zbh,rd,fillS,recV,hN,hm1,c1,c2,i1,i2,i3,i4,i5,i6,i7,i8,x1,x2,x3,x4,x5,x6,hlen,q1,q2,q3,q4,d5,hG,hV]
   · have c1 : bits .and .u8 ((g0 bs e : Nat) : Int) 1 = 0 := by rw [a1]; unfold gk at hk; simpa using hk
     have c2 : bits .and .u8 ((g0 bs e : Nat) : Int) 2 = 0 := by rw [a2]; unfold gdd at hdd; simpa using hdd
     have x1 : gb3 bs e = gb4 bs e := by unfold gb4; rw [hk]; rfl
     have x2 : ge3 bs e = ge4 bs e := by unfold ge4; rw [hk]; rfl
     have x3 : gkey bs e = [] := by unfold gkey; rw [hk]; rfl
     have x4 : rtL 512 (gb4 bs e) (ge4 bs e) = gb5 bs e := by unfold gb5; rw [hdd]; rfl
     have x5 : rtE 512 (gb4 bs e) (ge4 bs e) = ge5 bs e := by unfold ge5; rw [hdd]; rfl
     have x6 : rtS' 512 (gb4 bs e) (ge4 bs e) = gval bs e := by unfold gval; rw [hdd]; rfl
     by_cases h5 : ge5 bs e = 0
     · have e5 : ge5 bs e = 0 := by first | exact h5 | (rw [x5]; exact h5)
       by_cases h4 : 4 ≤ g0 bs e
       · have d4 : decide ((4 : Int) ≤ ((g0 bs e : Nat) : Int)) = true := decide_eq_true (by omega)
         have hG : gerr bs e = 4 := by unfold gerr; rw [if_neg (by simpa using e5),if_pos (.inl h4)]
         have hV : grec bs e = recV 0 0 false [] false [] := by unfold grec; rw [hG]; rfl
         simp only [go_sem,coe,zaa,Nat.reduceAdd,Nat.reduceSub,Nat.reduceMul,Int.reduceToNat,reduceCtorEq,↓reduceIte,Int.reducePow,Nat.reducePow,Int.reduceMod,Nat.reduceLeDiff,Int.reduceLE,Int.reduceNe,Int.reduceEq,Nat.reduceEqDiff,Nat.reduceLT,Nat.reduceBEq,ty,Srget,zff,numS,zbs,errS,zbh,rd,fillS,recV,hN,hm1,c1,c2,i1,i2,i3,i4,i5,i6,i7,i8,x1,x2,x3,x4,x5,x6,hlen,q1,q2,q3,q4,h5,d4,hG,hV]
       · have d4 : decide ((4 : Int) ≤ ((g0 bs e : Nat) : Int)) = false := decide_eq_false (by omega)
         by_cases hc : rchk (gd bs e) (gt bs e) false ([]) false (gval bs e) = 0
         · have hG : gerr bs e = 0 := by unfold gerr; rw [if_neg (by simpa using e5),hk,hdd,x3,if_neg (by rintro (h | h); exact h4 h; exact h hc)]
           have hV : grec bs e = recV (gd bs e) (gt bs e) false ([]) false (gval bs e) := by unfold grec; rw [hG,if_pos rfl,hk,hdd,x3]
           simp only [go_sem,coe,zaa,Nat.reduceAdd,Nat.reduceSub,Nat.reduceMul,Int.reduceToNat,reduceCtorEq,↓reduceIte,Int.reducePow,Nat.reducePow,Int.reduceMod,Nat.reduceLeDiff,Int.reduceLE,Int.reduceNe,Int.reduceEq,Nat.reduceEqDiff,Nat.reduceLT,Nat.reduceBEq,ty,Srget,zff,numS,zbs,errS,zbh,rd,fillS,recV,hN,hm1,c1,c2,i1,i2,i3,i4,i5,i6,i7,i8,x1,x2,x3,x4,x5,x6,hlen,q1,q2,q3,q4,h5,d4,hG,hV,hc]
         · have hG : gerr bs e = 4 := by unfold gerr; rw [if_neg (by simpa using e5),hk,hdd,x3,if_pos (.inr hc)]
           have hV : grec bs e = recV 0 0 false [] false [] := by unfold grec; rw [hG]; rfl
           have d5 : decide (rchk (gd bs e) (gt bs e) false ([]) false (gval bs e) = 0) = false := decide_eq_false hc
           simp only [go_sem,coe,zaa,Nat.reduceAdd,Nat.reduceSub,Nat.reduceMul,Int.reduceToNat,reduceCtorEq,↓reduceIte,Int.reducePow,Nat.reducePow,Int.reduceMod,Nat.reduceLeDiff,Int.reduceLE,Int.reduceNe,Int.reduceEq,Nat.reduceEqDiff,Nat.reduceLT,Nat.reduceBEq,ty,Srget,zff,numS,zbs,errS,zbh,rd,fillS,recV,hN,hm1,c1,c2,i1,i2,i3,i4,i5,i6,i7,i8,x1,x2,x3,x4,x5,x6,hlen,q1,q2,q3,q4,h5,d4,hG,hV,d5]
     · have e5 : ¬ ge5 bs e = 0 := by first | exact h5 | (rw [x5]; exact h5)
       have d5 : decide (ge5 bs e = 0) = false := decide_eq_false h5
       have hG : gerr bs e = ge5 bs e := by unfold gerr; rw [if_pos e5]
       have hV : grec bs e = recV 0 0 false [] false [] := by unfold grec; rw [hG,if_neg h5]
       simp only [go_sem,coe,zaa,Nat.reduceAdd,Nat.reduceSub,Nat.reduceMul,Int.reduceToNat,reduceCtorEq,↓reduceIte,Int.reducePow,Nat.reducePow,Int.reduceMod,Nat.reduceLeDiff,Int.reduceLE,Int.reduceNe,Int.reduceEq,Nat.reduceEqDiff,Nat.reduceLT,Nat.reduceBEq,ty,Srget,zff,numS,zbs,errS,zbh,rd,fillS,recV,hN,hm1,c1,c2,i1,i2,i3,i4,i5,i6,i7,i8,x1,x2,x3,x4,x5,x6,hlen,q1,q2,q3,q4,d5,hG,hV]
 · refine ⟨by simp,?_⟩
   unfold Try.f84
   have b1 : bits .and .u8 0 1 = 0 := by decide
   have b2 : bits .and .u8 0 2 = 0 := by decide
   simp only [go_sem,coe,zaa,Nat.reduceAdd,Nat.reduceSub,Nat.reduceMul,Int.reduceToNat,reduceCtorEq,↓reduceIte,Int.reducePow,Nat.reducePow,Int.reduceMod,Nat.reduceLeDiff,Int.reduceLE,Int.reduceNe,Int.reduceEq,Nat.reduceEqDiff,Nat.reduceLT,Nat.reduceBEq,ty,Srget,zff,numS,zbs,errS,b1,b2,recV,fillS]
 · exact hp.elim
end
end Go.Proofs.Ytmedjkjoannbmaa
namespace Go.Proofs.Ytmedjkjoannbmaa
open Ax
def gR (bs : List UInt8) (e : Int) : Rec := ⟨gd bs e,gt bs e,gk bs e,gkey bs e,gdd bs e,gval bs e⟩
theorem grec_rv {bs : List UInt8} {e : Int} (h : gerr bs e = 0) : grec bs e = rv (gR bs e) := by unfold grec; rw [if_pos h]; rfl
def readN : Nat → List UInt8 → Int → Option (List Rec × List UInt8 × Int)
 | 0,bs,e => some ([],bs,e)
 | n + 1,bs,e => if gerr bs e = 0 then (readN n (gb5 bs e) (ge5 bs e)).map (fun x => (gR bs e :: x.1,x.2)) else none
theorem readN_succ (n : Nat) (bs : List UInt8) (e : Int) : readN (n + 1) bs e = if gerr bs e = 0 then (readN n (gb5 bs e) (ge5 bs e)).map (fun x => (gR bs e :: x.1,x.2)) else none := rfl
def hb : Nat → List UInt8 → List UInt8 × Int
 | 0,bs => (bs,0)
 | k + 1,bs => (numL (hb k bs).1 (hb k bs).2,numE (hb k bs).1 (hb k bs).2)
def hn (k : Nat) (bs : List UInt8) : Int := numN (hb k bs).1 (hb k bs).2
structure Bat where
 b : Int
 c : Int
 p : Int
 e : Int
 s : Int
 rs : List Rec
def bav (x : Bat) (f : Bool) : AV := .agg [.w (.int .i64 x.b),.w (.int .i64 x.c),.w (.int .i64 x.p),.w (.int .i64 x.e),.w (.int .i64 x.s),.sg 6 (x.rs.map rv) f]
def bE (x : Bat) : Int := batE x.b x.c x.p x.e x.s x.rs
def bB (x : Bat) : List UInt8 := batB x.b x.c x.p x.e x.s x.rs
def bget (bs : List UInt8) : Option Bat :=
 if 0 ≤ hn 5 bs ∧ hn 5 bs ≤ 32 then
   match readN (hn 5 bs).toNat (hb 6 bs).1 (hb 6 bs).2 with
   | some (rs,r,e) => if e = 0 ∧ r = [] ∧ bE ⟨hn 0 bs,hn 1 bs,hn 2 bs,hn 3 bs,hn 4 bs,rs⟩ = 0 ∧ bB ⟨hn 0 bs,hn 1 bs,hn 2 bs,hn 3 bs,hn 4 bs,rs⟩ = bs then some ⟨hn 0 bs,hn 1 bs,hn 2 bs,hn 3 bs,hn 4 bs,rs⟩ else none
   | none => none
 else none
def zbf (bs : List UInt8) : Bat := (bget bs).getD ⟨0,0,0,0,0,[]⟩
def zcm (bs : List UInt8) : Int := if (bget bs).isSome then 0 else 4
def emp (rs : List Rec) : Bool := rs.isEmpty
theorem zcy : emp [] = true := rfl
def bgetS : zai
 | [.sb bs f],[] => ⟨bs.length ≤ 1000000,.tup [bav (zbf bs) (emp (zbf bs).rs),.w (.int .i64 (zcm bs))],[]⟩
 | _,_ => zba
theorem zcd (bs : List UInt8) : ∀ k,(hb k bs).1.length ≤ bs.length
 | 0 => Nat.le_refl _
 | k + 1 => Nat.le_trans (zan _ _) (zcd bs k)
theorem readN_step {n : Nat} {b : List UInt8} {e : Int} (h : gerr b e = 0) (qs : List Rec) : (readN (n + 1) b e).map (fun x => (qs ++ x.1,x.2)) = (readN n (gb5 b e) (ge5 b e)).map (fun x => ((qs ++ [gR b e]) ++ x.1,x.2)) := by
 rw [readN_succ,if_pos h,Option.map_map]; congr 1; funext x; simp
theorem gb5_length (bs : List UInt8) (e : Int) : (gb5 bs e).length ≤ bs.length := by
 have q1 : (gb1 bs e).length ≤ bs.length := zbp 1 bs e
 have q2 : (gb2 bs e).length ≤ bs.length := Nat.le_trans (zan _ _) q1
 have q3 : (gb3 bs e).length ≤ bs.length := Nat.le_trans (zan _ _) q2
 have q4 : (gb4 bs e).length ≤ bs.length := by have := zdi 64 (gb3 bs e) (ge3 bs e); unfold gb4; split <;> omega
 have := zdi 512 (gb4 bs e) (ge4 bs e)
 unfold gb5; split <;> omega
def Sbget (f : FuncId) : Option zai :=
 match f with
 | 45 => some newS
 | 52 => some numS
 | 48 => some zew
 | 84 => some rgetS
 | 76 => some zce
 | 49 => some beqS
 | _ => none
theorem Sbget_ok : Fns Try.prog Sbget := by
 intro f s h
 unfold Sbget at h
 split at h
 · injection h with h; subst h; exact ⟨⟨_,Try.func45,by kernel_rfl,by kernel_rfl⟩,new_sound⟩
 · injection h with h; subst h; exact ⟨⟨_,Try.func52,by kernel_rfl,by kernel_rfl⟩,num_sound⟩
 · injection h with h; subst h; exact ⟨⟨_,Try.func48,by kernel_rfl,by kernel_rfl⟩,done_sound⟩
 · injection h with h; subst h; exact ⟨⟨_,Try.func84,by kernel_rfl,by kernel_rfl⟩,recget_sound⟩
 · injection h with h; subst h; exact ⟨⟨_,Try.func76,by kernel_rfl,by kernel_rfl⟩,blay4_sound⟩
 · injection h with h; subst h; exact ⟨⟨_,Try.func49,by kernel_rfl,by kernel_rfl⟩,beq_sound⟩
 · cases h
section
set_option maxRecDepth 100000
set_option maxHeartbeats 2000000 in
theorem bget_sound : zaq Try.prog 54 bgetS := by
 refine zak (S := Sbget) (T := ty) zas ty_ok Sbget_ok Try.func54 (c := Try.f54.body.getD .skip) (by kernel_rfl) (by kernel_rfl) (fun xs pins hp _ => ?_)
 unfold bgetS at hp ⊢
 split at hp
 · rename_i bs f _
   have hlen : bs.length ≤ 1000000 := hp
   refine ⟨by simp,?_⟩
   unfold Try.f54
   have L0 := zcd bs 0
   have L1 := zcd bs 1
   have L2 := zcd bs 2
   have L3 := zcd bs 3
   have L4 := zcd bs 4
   have L5 := zcd bs 5
   have L6 := zcd bs 6
   have q0 : bs.length ≤ 1000000 := hlen
   have q1 : (hb 1 bs).1.length ≤ 1000000 := by omega
   have q2 : (hb 2 bs).1.length ≤ 1000000 := by omega
   have q3 : (hb 3 bs).1.length ≤ 1000000 := by omega
   have q4 : (hb 4 bs).1.length ≤ 1000000 := by omega
   have q5 : (hb 5 bs).1.length ≤ 1000000 := by omega
   have q6 : (hb 6 bs).1.length ≤ 1000000 := by omega
   have n0 : numN bs 0 = hn 0 bs := rfl
   have l0 : numL bs 0 = (hb 1 bs).1 := rfl
   have e0 : numE bs 0 = (hb 1 bs).2 := rfl
   have n1 : numN (hb 1 bs).1 (hb 1 bs).2 = hn 1 bs := rfl
   have l1 : numL (hb 1 bs).1 (hb 1 bs).2 = (hb 2 bs).1 := rfl
   have e1 : numE (hb 1 bs).1 (hb 1 bs).2 = (hb 2 bs).2 := rfl
   have n2 : numN (hb 2 bs).1 (hb 2 bs).2 = hn 2 bs := rfl
   have l2 : numL (hb 2 bs).1 (hb 2 bs).2 = (hb 3 bs).1 := rfl
   have e2 : numE (hb 2 bs).1 (hb 2 bs).2 = (hb 3 bs).2 := rfl
   have n3 : numN (hb 3 bs).1 (hb 3 bs).2 = hn 3 bs := rfl
   have l3 : numL (hb 3 bs).1 (hb 3 bs).2 = (hb 4 bs).1 := rfl
   have e3 : numE (hb 3 bs).1 (hb 3 bs).2 = (hb 4 bs).2 := rfl
   have n4 : numN (hb 4 bs).1 (hb 4 bs).2 = hn 4 bs := rfl
   have l4 : numL (hb 4 bs).1 (hb 4 bs).2 = (hb 5 bs).1 := rfl
   have e4 : numE (hb 4 bs).1 (hb 4 bs).2 = (hb 5 bs).2 := rfl
   have n5 : numN (hb 5 bs).1 (hb 5 bs).2 = hn 5 bs := rfl
   have l5 : numL (hb 5 bs).1 (hb 5 bs).2 = (hb 6 bs).1 := rfl
   have e5 : numE (hb 5 bs).1 (hb 5 bs).2 = (hb 6 bs).2 := rfl
   obtain ⟨B,hB⟩ : ∃ B,hb 6 bs = B := ⟨_,rfl⟩
   simp only [hB] at q6 l5 e5
   have hget : bget bs = if 0 ≤ hn 5 bs ∧ hn 5 bs ≤ 32 then
       match readN (hn 5 bs).toNat B.1 B.2 with
       | some (rs,r,e) => if e = 0 ∧ r = [] ∧ bE ⟨hn 0 bs,hn 1 bs,hn 2 bs,hn 3 bs,hn 4 bs,rs⟩ = 0 ∧ bB ⟨hn 0 bs,hn 1 bs,hn 2 bs,hn 3 bs,hn 4 bs,rs⟩ = bs then some ⟨hn 0 bs,hn 1 bs,hn 2 bs,hn 3 bs,hn 4 bs,rs⟩ else none
       | none => none
     else none := by rw [← hB]; rfl
   generalize hn 0 bs = N0 at *
   generalize hn 1 bs = N1 at *
   generalize hn 2 bs = N2 at *
   generalize hn 3 bs = N3 at *
   generalize hn 4 bs = N4 at *
   generalize hn 5 bs = N5 at *
   by_cases h0 : N5 < 0
   · have d0 : decide (N5 < 0) = true := decide_eq_true h0
     have hg : bget bs = none := by rw [hget,if_neg (by omega)]
     have v1 : zbf bs = ⟨0,0,0,0,0,[]⟩ := by unfold zbf; rw [hg]; rfl
     have v2 : zcm bs = 4 := by unfold zcm; rw [hg]; rfl
     simp only [go_sem,zaa,Nat.reduceAdd,Nat.reduceSub,Nat.reduceMul,Int.reduceToNat,reduceCtorEq,↓reduceIte,Int.reducePow,Nat.reducePow,Int.reduceMod,Nat.reduceLeDiff,Int.reduceLE,Int.reduceNe,Int.reduceEq,Nat.reduceEqDiff,Nat.reduceLT,Nat.reduceBEq,ty,Sbget,newS,numS,rd,q0,q1,q2,q3,q4,q5,n0,n1,n2,n3,n4,n5,l0,l1,l2,l3,l4,l5,e0,e1,e2,e3,e4,e5,d0,v1,v2,bav,zcy,List.map_nil,fillS]
   · have d0 : decide (N5 < 0) = false := decide_eq_false h0
     by_cases h32 : 32 < N5
     · have d1 : decide (32 < N5) = true := decide_eq_true h32
       have hg : bget bs = none := by rw [hget,if_neg (by omega)]
       have v1 : zbf bs = ⟨0,0,0,0,0,[]⟩ := by unfold zbf; rw [hg]; rfl
       have v2 : zcm bs = 4 := by unfold zcm; rw [hg]; rfl
       simp only [go_sem,zaa,Nat.reduceAdd,Nat.reduceSub,Nat.reduceMul,Int.reduceToNat,reduceCtorEq,↓reduceIte,Int.reducePow,Nat.reducePow,Int.reduceMod,Nat.reduceLeDiff,Int.reduceLE,Int.reduceNe,Int.reduceEq,Nat.reduceEqDiff,Nat.reduceLT,Nat.reduceBEq,ty,Sbget,newS,numS,rd,q0,q1,q2,q3,q4,q5,n0,n1,n2,n3,n4,n5,l0,l1,l2,l3,l4,l5,e0,e1,e2,e3,e4,e5,d0,d1,v1,v2,bav,zcy,List.map_nil,fillS]
     · have d1 : decide (32 < N5) = false := decide_eq_false h32
       rw [if_pos (by omega)] at hget
       simp only [go_sem,zaa,Nat.reduceAdd,Nat.reduceSub,Nat.reduceMul,Int.reduceToNat,reduceCtorEq,↓reduceIte,Int.reducePow,Nat.reducePow,Int.reduceMod,Nat.reduceLeDiff,Int.reduceLE,Int.reduceNe,Int.reduceEq,Nat.reduceEqDiff,Nat.reduceLT,Nat.reduceBEq,ty,Sbget,newS,numS,rd,q0,q1,q2,q3,q4,q5,n0,n1,n2,n3,n4,n5,l0,l1,l2,l3,l4,l5,e0,e1,e2,e3,e4,e5,d0,d1]
       have closedZ := zbz
       have htop : top = 4294967296 := rfl
       refine zca ⟨fun m σ => ∃ (i : Nat) (b : List UInt8) (e : Int) (qs : List Rec),m = N5.toNat - i ∧ (i : Int) ≤ N5 ∧ b.length ≤ 1000000 ∧ readN N5.toNat B.1 B.2 = (readN (N5.toNat - i) b e).map (fun x => (qs ++ x.1,x.2)) ∧ qs.length = i ∧
           ((i = 0 ∧ σ = ⟨[.sb bs f,.junk,.rf 4 6 0 0,.w (.int .i64 0),.rf 5 2 0 0,.rf 6 6 0 0,.junk,.junk,.junk,.junk,.junk,.junk,.junk,.junk,.junk,.junk,.junk,.junk,.junk,.junk,.junk,.junk,.junk,.junk,.junk,.junk,.junk,.junk,.junk,.junk,.junk,.junk,.junk,.w (.int .i64 N5),.w (.int .i64 0),.junk,.junk,.junk,.junk,.junk,.junk,.junk,.junk,.junk,.junk,.junk,.junk,.junk,.junk,.junk,.junk,.junk,.junk,.junk,.junk,.junk,.junk,.junk,.junk,.junk,.junk,.junk,.junk,.junk,.junk,.junk,.junk,.junk,.junk,.junk],[(5,.g 2 [.agg [.sb b false,.w (.int .i64 e)]]),(6,.g 6 [.agg [.w (.int .i64 N0),.w (.int .i64 N1),.w (.int .i64 N2),.w (.int .i64 N3),.w (.int .i64 N4),.sg 6 [] true]]),(4,.g 6 [.agg [.w (.int .i64 0),.w (.int .i64 0),.w (.int .i64 0),.w (.int .i64 0),.w (.int .i64 0),.sg 6 [] true]])],7⟩) ∨
            (0 < i ∧ σ = ⟨[.sb bs f,.junk,.rf 4 6 0 0,.w (.int .i64 0),.rf 5 2 0 0,.rf 6 6 0 0,.junk,.junk,.junk,.junk,.junk,.junk,.junk,.junk,.junk,.junk,.junk,.junk,.junk,.junk,.junk,.junk,.junk,.junk,.junk,.junk,.junk,.junk,.junk,.junk,.junk,.junk,.junk,.w (.int .i64 N5),.w (.int .i64 i),.junk,.junk,.junk,.junk,.junk,.junk,.junk,.junk,.junk,.junk,.junk,.junk,.junk,.ms 7 6 0 i,.junk,.junk,.junk,.junk,.junk,.junk,.junk,.junk,.junk,.junk,.junk,.junk,.junk,.junk,.junk,.junk,.junk,.junk,.junk,.junk,.junk],[(5,.g 2 [.agg [.sb b false,.w (.int .i64 e)]]),(6,.g 6 [.agg [.w (.int .i64 N0),.w (.int .i64 N1),.w (.int .i64 N2),.w (.int .i64 N3),.w (.int .i64 N4),.ms 7 6 0 i]]),(4,.g 6 [.agg [.w (.int .i64 0),.w (.int .i64 0),.w (.int .i64 0),.w (.int .i64 0),.w (.int .i64 0),.sg 6 [] true]]),(7,.g 6 (qs.map rv))],8⟩)),?_,?_⟩
       · refine ⟨_,_,zad [0,1,2,3,4,28,132] rfl rfl rfl ?_ ?_,0,B.1,B.2,[],rfl,by omega,q6,?_,rfl,.inl ⟨rfl,rfl⟩⟩
         · simp only [ssT,zae,zaf,setSlot,gOf,AV.ren,renL,Blk.ren,Ax.look,Ax.put,reduceCtorEq,↓reduceIte,Nat.reduceEqDiff,Nat.reduceLT,Nat.reduceAdd,List.length_append,List.length_cons,List.length_nil,Option.some.injEq]
         · simp only [ssT,zae,zaf,setSlot,gOf,AV.ren,renL,Blk.ren,Ax.look,Ax.put,reduceCtorEq,↓reduceIte,Nat.reduceEqDiff,Nat.reduceLT,Nat.reduceAdd,List.length_append,List.length_cons,List.length_nil,Option.some.injEq]
         · cases readN N5.toNat B.1 B.2 <;> simp
       · rintro m σ ⟨i,b,e,qs,rfl,hi,hlb,hinv,hql,hσ⟩
         rcases hσ with ⟨hi0,rfl⟩ | ⟨hi0,rfl⟩
         · obtain rfl : i = 0 := hi0
           obtain rfl : qs = [] := List.eq_nil_of_length_eq_zero hql
           by_cases hil : (0 : Int) < N5
           · have d2 : decide ((0 : Int) < N5) = true := decide_eq_true (by omega)
             have es : ((0 : Int) + 1 + 9223372036854775808) % 18446744073709551616 - 9223372036854775808 = 1 := by omega
             have hsuc : N5.toNat - 0 = (N5.toNat - (0 + 1)) + 1 := by omega
             have hl5 := gb5_length b e
             by_cases hg0 : gerr b e = 0
             · have d3 : decide (gerr b e = 0) = true := decide_eq_true hg0
               have hgr := grec_rv hg0
               have hR : readN N5.toNat B.1 B.2 = (readN (N5.toNat - (0 + 1)) (gb5 b e) (ge5 b e)).map (fun x => ((([] : List Rec) ++ [gR b e]) ++ x.1,x.2)) := by
                 rw [hinv,hsuc,readN_step hg0]
               obtain ⟨G,hG⟩ : ∃ G,gR b e = G := ⟨_,rfl⟩
               rw [hG] at hgr hR
               simp only [rv] at hgr
               simp only [go_sem,zaa,Nat.reduceAdd,Nat.reduceSub,Nat.reduceMul,Int.reduceToNat,reduceCtorEq,↓reduceIte,Int.reducePow,Nat.reducePow,Int.reduceMod,Nat.reduceLeDiff,Int.reduceLE,Int.reduceNe,Int.reduceEq,Nat.reduceEqDiff,Nat.reduceLT,Nat.reduceBEq,ty,Sbget,newS,numS,rgetS,zew,zce,beqS,rd,d2,hlb,hgr,hg0,es]
               repeat (refine And.intro (by first | omega | (intro h; cases h)) ?_)
               refine ⟨N5.toNat - (0 + 1),_,by omega,zad [0,1,2,3,4,5,6,127] rfl rfl rfl ?_ ?_,0 + 1,gb5 b e,ge5 b e,([] : List Rec) ++ [G],rfl,by omega,by omega,hR,by simp [hql],.inr ⟨by omega,rfl⟩⟩
               · simp only [ssT,zae,zaf,setSlot,gOf,AV.ren,renL,Blk.ren,Ax.look,Ax.put,reduceCtorEq,↓reduceIte,Nat.reduceEqDiff,Nat.reduceLT,Nat.reduceAdd,List.length_append,List.length_cons,List.length_nil,Option.some.injEq]; try simp
               · simp only [ssT,zae,zaf,setSlot,gOf,AV.ren,renL,Blk.ren,Ax.look,Ax.put,reduceCtorEq,↓reduceIte,Nat.reduceEqDiff,Nat.reduceLT,Nat.reduceAdd,List.length_append,List.length_cons,List.length_nil,Option.some.injEq]; rw [ren_rv]; simp [rv]
             · have d3 : decide (gerr b e = 0) = false := decide_eq_false hg0
               have hR : readN N5.toNat B.1 B.2 = none := by rw [hinv,hsuc]; rw [readN_succ,if_neg hg0]; rfl
               have hg : bget bs = none := by rw [hget,hR]
               have v1 : zbf bs = ⟨0,0,0,0,0,[]⟩ := by unfold zbf; rw [hg]; rfl
               have v2 : zcm bs = 4 := by unfold zcm; rw [hg]; rfl
               have hgr : grec b e = recV 0 0 false [] false [] := if_neg hg0
               simp only [go_sem,zaa,Nat.reduceAdd,Nat.reduceSub,Nat.reduceMul,Int.reduceToNat,reduceCtorEq,↓reduceIte,Int.reducePow,Nat.reducePow,Int.reduceMod,Nat.reduceLeDiff,Int.reduceLE,Int.reduceNe,Int.reduceEq,Nat.reduceEqDiff,Nat.reduceLT,Nat.reduceBEq,ty,Sbget,newS,numS,rgetS,zew,zce,beqS,rd,d2,hlb,hgr,recV,d3,v1,v2,bav,zcy,List.map_nil,fillS]
               refine ⟨_,Weak.refl _,?_⟩
               simp only [go_sem,zaa,Nat.reduceAdd,Nat.reduceSub,Nat.reduceMul,Int.reduceToNat,reduceCtorEq,↓reduceIte,Int.reducePow,Nat.reducePow,Int.reduceMod,Nat.reduceLeDiff,Int.reduceLE,Int.reduceNe,Int.reduceEq,Nat.reduceEqDiff,Nat.reduceLT,Nat.reduceBEq,ty,Sbget,newS,numS,rgetS,zew,zce,beqS,rd,v1,v2,bav,zcy,List.map_nil,fillS]
           · have d2 : decide ((0 : Int) < N5) = false := decide_eq_false (by omega)
             have hz : N5.toNat - 0 = 0 := by omega
             have hR : readN N5.toNat B.1 B.2 = some (([] : List Rec),b,e) := by rw [hinv,hz]; simp [readN]
             rw [hR] at hget
             simp only at hget
             have hmL : (([] : List AV)).length = 0 := by simp [hql]
             have hmL2 : (([] : List AV)).length ≤ 9223372036854775807 := by omega
             have hex : ∃ rs : List Rec,([] : List AV) = rs.map rv := ⟨([] : List Rec),rfl⟩
             have hrr : (([] : List AV)).map rrec = ([] : List Rec) := rfl
             have hcl : closedL (([] : List AV)) = true := rfl
             have hbE : batE N0 N1 N2 N3 N4 ([] : List Rec) = bE ⟨N0,N1,N2,N3,N4,([] : List Rec)⟩ := rfl
             have hbB : batB N0 N1 N2 N3 N4 ([] : List Rec) = bB ⟨N0,N1,N2,N3,N4,([] : List Rec)⟩ := rfl
             generalize hX : (⟨N0,N1,N2,N3,N4,([] : List Rec)⟩ : Bat) = X at *
             simp only [go_sem,zaa,Nat.reduceAdd,Nat.reduceSub,Nat.reduceMul,Int.reduceToNat,reduceCtorEq,↓reduceIte,Int.reducePow,Nat.reducePow,Int.reduceMod,Nat.reduceLeDiff,Int.reduceLE,Int.reduceNe,Int.reduceEq,Nat.reduceEqDiff,Nat.reduceLT,Nat.reduceBEq,ty,Sbget,newS,numS,rgetS,zew,zce,beqS,rd,d2,hmL]
             refine ⟨_,Weak.refl _,?_⟩
             by_cases hd : e = 0 ∧ b = []
             · obtain ⟨rfl,rfl⟩ := hd
               have hdn : (if (0 : Int) = 0 ∧ 0 < ([] : List UInt8).length then (4 : Int) else 0) = 0 := by simp
               by_cases hE : bE X = 0
               · by_cases hBq : bB X = bs
                 · have hg : bget bs = some X := by rw [hget,if_pos ⟨rfl,rfl,hE,hBq⟩]
                   have v1 : zbf bs = X := by unfold zbf; rw [hg]; rfl
                   have v2 : zcm bs = 0 := by unfold zcm; rw [hg]; rfl
                   have dq : decide (bB X = bs) = true := decide_eq_true hBq
                   rw [← hX] at v1
                   simp only [go_sem,zaa,Nat.reduceAdd,Nat.reduceSub,Nat.reduceMul,Int.reduceToNat,reduceCtorEq,↓reduceIte,Int.reducePow,Nat.reducePow,Int.reduceMod,Nat.reduceLeDiff,Int.reduceLE,Int.reduceNe,Int.reduceEq,Nat.reduceEqDiff,Nat.reduceLT,Nat.reduceBEq,ty,Sbget,newS,numS,rgetS,zew,zce,beqS,rd,hdn,hmL,hmL2,hex,hrr,hcl,hbE,hbB,hE,dq,v1,v2,bav,List.map_nil,zcy]
                 · have hg : bget bs = none := by rw [hget,if_neg (fun h => hBq h.2.2.2)]
                   have v1 : zbf bs = ⟨0,0,0,0,0,[]⟩ := by unfold zbf; rw [hg]; rfl
                   have v2 : zcm bs = 4 := by unfold zcm; rw [hg]; rfl
                   have dq : decide (bB X = bs) = false := decide_eq_false hBq
                   simp only [go_sem,zaa,Nat.reduceAdd,Nat.reduceSub,Nat.reduceMul,Int.reduceToNat,reduceCtorEq,↓reduceIte,Int.reducePow,Nat.reducePow,Int.reduceMod,Nat.reduceLeDiff,Int.reduceLE,Int.reduceNe,Int.reduceEq,Nat.reduceEqDiff,Nat.reduceLT,Nat.reduceBEq,ty,Sbget,newS,numS,rgetS,zew,zce,beqS,rd,hdn,hmL,hmL2,hex,hrr,hcl,hbE,hbB,hE,dq,v1,v2,bav,zcy,List.map_nil,fillS]
               · have hg : bget bs = none := by rw [hget,if_neg (fun h => hE h.2.2.1)]
                 have v1 : zbf bs = ⟨0,0,0,0,0,[]⟩ := by unfold zbf; rw [hg]; rfl
                 have v2 : zcm bs = 4 := by unfold zcm; rw [hg]; rfl
                 have dE : decide (bE X = 0) = false := decide_eq_false hE
                 simp only [go_sem,zaa,Nat.reduceAdd,Nat.reduceSub,Nat.reduceMul,Int.reduceToNat,reduceCtorEq,↓reduceIte,Int.reducePow,Nat.reducePow,Int.reduceMod,Nat.reduceLeDiff,Int.reduceLE,Int.reduceNe,Int.reduceEq,Nat.reduceEqDiff,Nat.reduceLT,Nat.reduceBEq,ty,Sbget,newS,numS,rgetS,zew,zce,beqS,rd,hdn,hmL,hmL2,hex,hrr,hcl,hbE,hbB,dE,v1,v2,bav,zcy,List.map_nil,fillS]
             · have hg : bget bs = none := by rw [hget,if_neg (fun h => hd ⟨h.1,h.2.1⟩)]
               have v1 : zbf bs = ⟨0,0,0,0,0,[]⟩ := by unfold zbf; rw [hg]; rfl
               have v2 : zcm bs = 4 := by unfold zcm; rw [hg]; rfl
               have hdn0 : (if e = 0 ∧ 0 < b.length then (4 : Int) else e) ≠ 0 := by
                 split
                 · decide
                 · rename_i h
                   intro he
                   exact hd ⟨he,List.eq_nil_of_length_eq_zero (by by_cases hbl : b.length = 0; exact hbl; exact (h ⟨he,by omega⟩).elim)⟩
               obtain ⟨D,hD⟩ : ∃ D,(if e = 0 ∧ 0 < b.length then (4 : Int) else e) = D := ⟨_,rfl⟩
               rw [hD] at hdn0
               have dD : decide (D = 0) = false := decide_eq_false hdn0
               simp only [go_sem,zaa,Nat.reduceAdd,Nat.reduceSub,Nat.reduceMul,Int.reduceToNat,reduceCtorEq,↓reduceIte,Int.reducePow,Nat.reducePow,Int.reduceMod,Nat.reduceLeDiff,Int.reduceLE,Int.reduceNe,Int.reduceEq,Nat.reduceEqDiff,Nat.reduceLT,Nat.reduceBEq,ty,Sbget,newS,numS,rgetS,zew,zce,beqS,rd,hD,dD,v1,v2,bav,zcy,List.map_nil,fillS]
         · have hml : (qs.map rv).length = i := by simp [hql]
           have hdle : decide (0 + i ≤ (qs.map rv).length) = true := decide_eq_true (by omega)
           have htk : (qs.map rv).take i = qs.map rv := List.take_of_length_le (by omega)
           have hie : emp qs = false := by cases qs with | nil => simp at hql; omega | cons _ _ => rfl
           have hi2 : i ≤ 32 := by omega
           have hi3 : i ≤ 9223372036854775807 := by omega
           by_cases hil : (i : Int) < N5
           · have d2 : decide ((i : Int) < N5) = true := decide_eq_true (by omega)
             have es : ((i : Int) + 1 + 9223372036854775808) % 18446744073709551616 - 9223372036854775808 = ((i + 1 : Nat) : Int) := by omega
             have hsuc : N5.toNat - i = (N5.toNat - (i + 1)) + 1 := by omega
             have hl5 := gb5_length b e
             by_cases hg0 : gerr b e = 0
             · have d3 : decide (gerr b e = 0) = true := decide_eq_true hg0
               have hgr := grec_rv hg0
               have hR : readN N5.toNat B.1 B.2 = (readN (N5.toNat - (i + 1)) (gb5 b e) (ge5 b e)).map (fun x => ((qs ++ [gR b e]) ++ x.1,x.2)) := by
                 rw [hinv,hsuc,readN_step hg0]
               obtain ⟨G,hG⟩ : ∃ G,gR b e = G := ⟨_,rfl⟩
               rw [hG] at hgr hR
               simp only [rv] at hgr
               simp only [go_sem,zaa,Nat.reduceAdd,Nat.reduceSub,Nat.reduceMul,Int.reduceToNat,reduceCtorEq,↓reduceIte,Int.reducePow,Nat.reducePow,Int.reduceMod,Nat.reduceLeDiff,Int.reduceLE,Int.reduceNe,Int.reduceEq,Nat.reduceEqDiff,Nat.reduceLT,Nat.reduceBEq,ty,Sbget,newS,numS,rgetS,zew,zce,beqS,rd,d2,hlb,hgr,hg0,es,hql,hml]
               repeat (refine And.intro (by first | omega | (intro h; cases h)) ?_)
               refine ⟨N5.toNat - (i + 1),_,by omega,zad [0,1,2,3,4,5,6,128] rfl rfl rfl ?_ ?_,i + 1,gb5 b e,ge5 b e,qs ++ [G],rfl,by omega,by omega,hR,by simp [hql],.inr ⟨by omega,rfl⟩⟩
               · simp only [ssT,zae,zaf,setSlot,gOf,AV.ren,renL,Blk.ren,Ax.look,Ax.put,reduceCtorEq,↓reduceIte,Nat.reduceEqDiff,Nat.reduceLT,Nat.reduceAdd,List.length_append,List.length_cons,List.length_nil,Option.some.injEq]; try simp
               · simp only [ssT,zae,zaf,setSlot,gOf,AV.ren,renL,Blk.ren,Ax.look,Ax.put,reduceCtorEq,↓reduceIte,Nat.reduceEqDiff,Nat.reduceLT,Nat.reduceAdd,List.length_append,List.length_cons,List.length_nil,Option.some.injEq]; rw [ren_rv]; simp [rv]
             · have d3 : decide (gerr b e = 0) = false := decide_eq_false hg0
               have hR : readN N5.toNat B.1 B.2 = none := by rw [hinv,hsuc]; rw [readN_succ,if_neg hg0]; rfl
               have hg : bget bs = none := by rw [hget,hR]
               have v1 : zbf bs = ⟨0,0,0,0,0,[]⟩ := by unfold zbf; rw [hg]; rfl
               have v2 : zcm bs = 4 := by unfold zcm; rw [hg]; rfl
               have hgr : grec b e = recV 0 0 false [] false [] := if_neg hg0
               simp only [go_sem,zaa,Nat.reduceAdd,Nat.reduceSub,Nat.reduceMul,Int.reduceToNat,reduceCtorEq,↓reduceIte,Int.reducePow,Nat.reducePow,Int.reduceMod,Nat.reduceLeDiff,Int.reduceLE,Int.reduceNe,Int.reduceEq,Nat.reduceEqDiff,Nat.reduceLT,Nat.reduceBEq,ty,Sbget,newS,numS,rgetS,zew,zce,beqS,rd,d2,hlb,hgr,recV,d3,v1,v2,bav,zcy,List.map_nil,fillS]
               refine ⟨_,Weak.refl _,?_⟩
               simp only [go_sem,zaa,Nat.reduceAdd,Nat.reduceSub,Nat.reduceMul,Int.reduceToNat,reduceCtorEq,↓reduceIte,Int.reducePow,Nat.reducePow,Int.reduceMod,Nat.reduceLeDiff,Int.reduceLE,Int.reduceNe,Int.reduceEq,Nat.reduceEqDiff,Nat.reduceLT,Nat.reduceBEq,ty,Sbget,newS,numS,rgetS,zew,zce,beqS,rd,v1,v2,bav,zcy,List.map_nil,fillS]
           · have d2 : decide ((i : Int) < N5) = false := decide_eq_false (by omega)
             have hz : N5.toNat - i = 0 := by omega
             have hR : readN N5.toNat B.1 B.2 = some (qs,b,e) := by rw [hinv,hz]; simp [readN]
             rw [hR] at hget
             simp only at hget
             have hmL : (qs.map rv).length = i := by simp [hql]
             have hmL2 : (qs.map rv).length ≤ 9223372036854775807 := by omega
             have hex : ∃ rs : List Rec,qs.map rv = rs.map rv := ⟨qs,rfl⟩
             have hrr : (qs.map rv).map rrec = qs := zah qs
             have hcl : closedL (qs.map rv) = true := zbz qs
             have hbE : batE N0 N1 N2 N3 N4 qs = bE ⟨N0,N1,N2,N3,N4,qs⟩ := rfl
             have hbB : batB N0 N1 N2 N3 N4 qs = bB ⟨N0,N1,N2,N3,N4,qs⟩ := rfl
             generalize hX : (⟨N0,N1,N2,N3,N4,qs⟩ : Bat) = X at *
             simp only [go_sem,zaa,Nat.reduceAdd,Nat.reduceSub,Nat.reduceMul,Int.reduceToNat,reduceCtorEq,↓reduceIte,Int.reducePow,Nat.reducePow,Int.reduceMod,Nat.reduceLeDiff,Int.reduceLE,Int.reduceNe,Int.reduceEq,Nat.reduceEqDiff,Nat.reduceLT,Nat.reduceBEq,ty,Sbget,newS,numS,rgetS,zew,zce,beqS,rd,d2,hmL,hql]
             refine ⟨_,weak_fg 7 6 48 (qs.map rv) rfl (zbz qs) (by simp [slot,AV.ids]),?_⟩
             simp only [fgL,fgH,AV.fg,Blk.fg,Nat.reduceBEq,cond_true,cond_false,hdle,Bool.and_true,beq_self_eq_true,Bool.true_and,List.drop_zero,htk]
             by_cases hd : e = 0 ∧ b = []
             · obtain ⟨rfl,rfl⟩ := hd
               have hdn : (if (0 : Int) = 0 ∧ 0 < ([] : List UInt8).length then (4 : Int) else 0) = 0 := by simp
               by_cases hE : bE X = 0
               · by_cases hBq : bB X = bs
                 · have hg : bget bs = some X := by rw [hget,if_pos ⟨rfl,rfl,hE,hBq⟩]
                   have v1 : zbf bs = X := by unfold zbf; rw [hg]; rfl
                   have v2 : zcm bs = 0 := by unfold zcm; rw [hg]; rfl
                   have dq : decide (bB X = bs) = true := decide_eq_true hBq
                   rw [← hX] at v1
                   simp only [go_sem,zaa,Nat.reduceAdd,Nat.reduceSub,Nat.reduceMul,Int.reduceToNat,reduceCtorEq,↓reduceIte,Int.reducePow,Nat.reducePow,Int.reduceMod,Nat.reduceLeDiff,Int.reduceLE,Int.reduceNe,Int.reduceEq,Nat.reduceEqDiff,Nat.reduceLT,Nat.reduceBEq,ty,Sbget,newS,numS,rgetS,zew,zce,beqS,rd,hdn,hmL,hmL2,hex,hrr,hcl,hbE,hbB,hE,dq,v1,v2,bav,List.map_nil,hie,hi3]
                 · have hg : bget bs = none := by rw [hget,if_neg (fun h => hBq h.2.2.2)]
                   have v1 : zbf bs = ⟨0,0,0,0,0,[]⟩ := by unfold zbf; rw [hg]; rfl
                   have v2 : zcm bs = 4 := by unfold zcm; rw [hg]; rfl
                   have dq : decide (bB X = bs) = false := decide_eq_false hBq
                   simp only [go_sem,zaa,Nat.reduceAdd,Nat.reduceSub,Nat.reduceMul,Int.reduceToNat,reduceCtorEq,↓reduceIte,Int.reducePow,Nat.reducePow,Int.reduceMod,Nat.reduceLeDiff,Int.reduceLE,Int.reduceNe,Int.reduceEq,Nat.reduceEqDiff,Nat.reduceLT,Nat.reduceBEq,ty,Sbget,newS,numS,rgetS,zew,zce,beqS,rd,hdn,hmL,hmL2,hi3,hex,hrr,hcl,hbE,hbB,hE,dq,v1,v2,bav,zcy,List.map_nil,fillS]
               · have hg : bget bs = none := by rw [hget,if_neg (fun h => hE h.2.2.1)]
                 have v1 : zbf bs = ⟨0,0,0,0,0,[]⟩ := by unfold zbf; rw [hg]; rfl
                 have v2 : zcm bs = 4 := by unfold zcm; rw [hg]; rfl
                 have dE : decide (bE X = 0) = false := decide_eq_false hE
                 simp only [go_sem,zaa,Nat.reduceAdd,Nat.reduceSub,Nat.reduceMul,Int.reduceToNat,reduceCtorEq,↓reduceIte,Int.reducePow,Nat.reducePow,Int.reduceMod,Nat.reduceLeDiff,Int.reduceLE,Int.reduceNe,Int.reduceEq,Nat.reduceEqDiff,Nat.reduceLT,Nat.reduceBEq,ty,Sbget,newS,numS,rgetS,zew,zce,beqS,rd,hdn,hmL,hmL2,hi3,hex,hrr,hcl,hbE,hbB,dE,v1,v2,bav,zcy,List.map_nil,fillS]
             · have hg : bget bs = none := by rw [hget,if_neg (fun h => hd ⟨h.1,h.2.1⟩)]
               have v1 : zbf bs = ⟨0,0,0,0,0,[]⟩ := by unfold zbf; rw [hg]; rfl
               have v2 : zcm bs = 4 := by unfold zcm; rw [hg]; rfl
               have hdn0 : (if e = 0 ∧ 0 < b.length then (4 : Int) else e) ≠ 0 := by
                 split
                 · decide
                 · rename_i h
                   intro he
                   exact hd ⟨he,List.eq_nil_of_length_eq_zero (by by_cases hbl : b.length = 0; exact hbl; exact (h ⟨he,by omega⟩).elim)⟩
               obtain ⟨D,hD⟩ : ∃ D,(if e = 0 ∧ 0 < b.length then (4 : Int) else e) = D := ⟨_,rfl⟩
               rw [hD] at hdn0
               have dD : decide (D = 0) = false := decide_eq_false hdn0
               simp only [go_sem,zaa,Nat.reduceAdd,Nat.reduceSub,Nat.reduceMul,Int.reduceToNat,reduceCtorEq,↓reduceIte,Int.reducePow,Nat.reducePow,Int.reduceMod,Nat.reduceLeDiff,Int.reduceLE,Int.reduceNe,Int.reduceEq,Nat.reduceEqDiff,Nat.reduceLT,Nat.reduceBEq,ty,Sbget,newS,numS,rgetS,zew,zce,beqS,rd,hD,dD,v1,v2,bav,zcy,List.map_nil,fillS]
 · exact hp.elim
end
end Go.Proofs.Ytmedjkjoannbmaa
namespace Go.Proofs.Ytmedjkjoannbmaa
namespace Ax
theorem aopsF_mono {S : zal} {T : zag} {ops : List Oper} {pl : List (Nat × Nat)} {Q Q' : List AV → Heap → Prop} (hq : ∀ sl H,Q sl H → Q' sl H) : ∀ (l : List Oper) (nm : Nat) (acc : List (Nat × List Nat)) (sl : List AV) (H : Heap),aopsF S T ops pl nm acc l sl H Q → aopsF S T ops pl nm acc l sl H Q'
 | [],nm,acc,sl,H,h => ⟨h.1,hq sl H h.2⟩
 | o :: r,nm,acc,sl,H,h => by
   unfold aopsF at h ⊢
   cases hg : o.guard with
   | none => simp only [hg] at h ⊢; exact ⟨h.1,aopsF_mono hq r _ _ _ _ h.2⟩
   | some g =>
     obtain ⟨j,want⟩ := g
     simp only [hg] at h ⊢
     cases hs : guardSlot ops j with
     | none => simp [hs] at h
     | some d =>
       simp only [hs] at h ⊢
       split at h
       · exact ⟨fun e => ⟨(h.1 e).1,aopsF_mono hq r _ _ _ _ (h.1 e).2⟩,fun e => aopsF_mono hq r _ _ _ _ (h.2 e)⟩
       · exact aopsF_mono hq r _ _ _ _ h
       · exact h.elim
theorem aopsO_mono {S SO : zal} {T : zag} {ops : List Oper} {Q Q' : List AV → Heap → Prop} (hq : ∀ sl H,Q sl H → Q' sl H) : ∀ (k nm : Nat) (l : List Oper) (sl : List AV) (H : Heap),aopsO S SO T ops k nm l sl H Q → aopsO S SO T ops k nm l sl H Q'
 | k,nm,[],sl,H,h => by unfold aopsO at h ⊢; exact hq _ _ h
 | 0,nm,o :: r,sl,H,h => by unfold aopsO at h ⊢; exact ⟨h.1,h.2.1,zej hq _ _ _ _ h.2.2⟩
 | k + 1,nm,o :: r,sl,H,h => by unfold aopsO at h ⊢; exact ⟨h.1,h.2.1,aopsO_mono hq k _ r _ _ h.2.2⟩
theorem specOp_mono {T : zag} {sl : List AV} {op : Op} {K K' : AV → Prop} (hk : ∀ x,K x → K' x) (h : specOp T sl op K) : specOp T sl op K' := by
 unfold specOp at h ⊢
 repeat' split at h
 all_goals first
   | exact h.elim
   | simp_all
theorem aopsT_mono {S : zal} {T : zag} {ops : List Oper} {Q Q' : List AV → Heap → Prop} (hq : ∀ sl H,Q sl H → Q' sl H) : ∀ (k : List Bool) (nm : Nat) (l : List Oper) (sl : List AV) (H : Heap),aopsT S T ops k nm l sl H Q → aopsT S T ops k nm l sl H Q'
 | k,nm,[],sl,H,h => by unfold aopsT at h ⊢; exact hq _ _ h
 | [],nm,o :: r,sl,H,h => by unfold aopsT at h ⊢; exact zej hq _ _ _ _ h
 | true :: k,nm,o :: r,sl,H,h => by unfold aopsT at h ⊢; exact ⟨h.1,specOp_mono (fun x hx => aopsT_mono hq k _ r _ _ hx) h.2⟩
 | false :: k,nm,o :: r,sl,H,h => by unfold aopsT at h ⊢; exact ⟨h.1,h.2.1,aopsT_mono hq k _ r _ _ h.2.2⟩
theorem frzK_mono {l : List Nat} {sl : List AV} {H : Heap} {K K' : List AV → Heap → Prop} (hk : ∀ sl H,K sl H → K' sl H) (h : frzK l sl H K) : frzK l sl H K' := ⟨h.1,hk _ _ h.2⟩
theorem awpO_mono {S SO : zal} {T : zag} {pl : XPlan} : ∀ (c : Code) (Q Q' : Exit → ASt → Prop) (σ : ASt),(∀ e σ,Q e σ → Q' e σ) → awpO S SO T pl c Q σ → awpO S SO T pl c Q' σ := by
 intro c
 induction c with
 | skip => intro Q Q' σ hq h; exact hq _ _ h
 | label l => intro Q Q' σ hq h; exact hq _ _ h
 | region id ops draw =>
   intro Q Q' σ hq h
   simp only [awpO] at h ⊢
   split at h
   · exact zej (fun _ _ h => hq _ _ h) _ _ _ _ h
   · exact aopsF_mono (fun _ _ h => hq _ _ h) _ _ _ _ _ h
   · exact frzK_mono (fun _ _ h => zej (fun _ _ h => hq _ _ h) _ _ _ _ h) h
   · exact frzK_mono (fun _ _ h => aopsO_mono (fun _ _ h => hq _ _ h) _ _ _ _ _ h) h
   · exact aopsT_mono (fun _ _ h => hq _ _ h) _ _ _ _ _ h
 | seq a b iha ihb =>
   intro Q Q' σ hq h
   refine iha _ _ σ ?_ h
   intro e σ h
   cases e with
   | normal => exact ihb _ _ σ hq h
   | _ => exact hq _ _ h
 | cond c a b iha ihb =>
   intro Q Q' σ hq h
   simp only [awpO] at h ⊢
   split at h
   · exact ⟨fun e => iha _ _ σ hq (h.1 e),fun e => ihb _ _ σ hq (h.2 e)⟩
   · exact h.elim
 | block id c ih =>
   intro Q Q' σ hq h
   refine ih _ _ σ ?_ h
   intro e σ h
   cases e with
   | exit id' =>
     simp only [blockK] at h ⊢
     split at h
     · rename_i he; rw [if_pos he]; exact hq _ _ h
     · rename_i he; rw [if_neg he]; exact hq _ _ h
   | _ => exact hq _ _ h
 | loop c ih =>
   intro Q Q' σ hq h
   obtain ⟨I,hst,hr⟩ := h
   refine ⟨I,hst,fun n σ' hI => ih _ _ σ' ?_ (hr n σ' hI)⟩
   intro e σ h
   cases e with
   | normal => exact h
   | _ =>
     obtain ⟨σ2,hw,h⟩ := h
     exact ⟨σ2,hw,hq _ _ h⟩
 | exit id => intro Q Q' σ hq h; exact hq _ _ h
 | ret => intro Q Q' σ hq h; exact hq _ _ h
 | _ => intro Q Q' σ hq h; exact h.elim
def unK (A : ASt → Prop) (Q : Exit → ASt → Prop) (e : Exit) (σ : ASt) : Prop := match e with
 | .normal => A σ
 | e => Q e σ
def unr (f : (Exit → ASt → Prop) → ASt → Prop) (Q : Exit → ASt → Prop) : Nat → ASt → Prop
 | 0,_ => False
 | n + 1,σ => f (unK (unr f Q n) Q) σ
theorem aloop_unr {f : (Exit → ASt → Prop) → ASt → Prop} {Q : Exit → ASt → Prop} (mono : ∀ (Q Q' : Exit → ASt → Prop) (σ : ASt),(∀ e σ,Q e σ → Q' e σ) → f Q σ → f Q' σ) (n : Nat) (σ : ASt) (h : unr f Q n σ) : ALoop f Q σ := by
 refine ⟨fun k τ => unr f Q k τ,⟨n,σ,Weak.refl _,h⟩,?_⟩
 intro k τ hI
 cases k with
 | zero => exact hI.elim
 | succ k =>
   refine mono _ _ τ ?_ hI
   intro e σ1 h1
   cases e with
   | normal => exact ⟨k,σ1,Nat.lt_succ_self k,Weak.refl _,h1⟩
   | _ => exact ⟨σ1,Weak.refl _,h1⟩
theorem awp_unr {S : zal} {T : zag} {c : Code} {Q : Exit → ASt → Prop} {σ : ASt} (n : Nat) (h : unr (awp S T c) Q n σ) : awp S T (.loop c) Q σ :=
 zca (aloop_unr (fun Q Q' σ hq h => rawp_mono _ Q Q' σ hq h) n σ h)
theorem awpO_unr {S SO : zal} {T : zag} {pl : XPlan} {c : Code} {Q : Exit → ASt → Prop} {σ : ASt} (n : Nat) (h : unr (awpO S SO T pl c) Q n σ) : awpO S SO T pl (.loop c) Q σ :=
 zdl (aloop_unr (fun Q Q' σ hq h => awpO_mono _ Q Q' σ hq h) n σ h)
theorem unr_go {S : zal} {T : zag} {c : Code} {Q : Exit → ASt → Prop} {σ : ASt} {n : Nat} : unr (awp S T c) Q (n + 1) σ = awp S T c (unK (unr (awp S T c) Q n) Q) σ := rfl
theorem unrO_go {S SO : zal} {T : zag} {pl : XPlan} {c : Code} {Q : Exit → ASt → Prop} {σ : ASt} {n : Nat} : unr (awpO S SO T pl c) Q (n + 1) σ = awpO S SO T pl c (unK (unr (awpO S SO T pl c) Q n) Q) σ := rfl
theorem unK_normal {A : ASt → Prop} {Q : Exit → ASt → Prop} {σ : ASt} : unK A Q .normal σ = A σ := rfl
theorem unK_exit {A : ASt → Prop} {Q : Exit → ASt → Prop} {σ : ASt} {id : Nat} : unK A Q (.exit id) σ = Q (.exit id) σ := rfl
theorem unK_ret {A : ASt → Prop} {Q : Exit → ASt → Prop} {σ : ASt} : unK A Q .ret σ = Q .ret σ := rfl
end Ax
end Go.Proofs.Ytmedjkjoannbmaa
namespace Go.Proofs.Ytmedjkjoannbmaa
open Ax
structure Rq where
 k : Int
 t : List UInt8
 i : Int
 p : Int
 c : Bool
 f : Bool
 o : Int
 m : Int
 w : Int
 g : List UInt8
 mb : List UInt8
 n : Int
 b : Bat
def rqA (q : Rq) (fl : Bool) : AV := .agg [.w (.int .u8 q.k),.str q.t,.w (.int .i64 q.i),.w (.int .i64 q.p),.w (.bool q.c),.w (.bool q.f),.w (.int .i64 q.o),.w (.int .i64 q.m),.w (.int .i64 q.w),.str q.g,.str q.mb,.w (.int .i64 q.n),
 .w (.int .i64 q.b.b),.w (.int .i64 q.b.c),.w (.int .i64 q.b.p),.w (.int .i64 q.b.e),.w (.int .i64 q.b.s),.sg 6 (q.b.rs.map rv) fl]
def zB : Bat := ⟨0,0,0,0,0,[]⟩
def zcr (k : Int) : List UInt8 :=
 if k = 0 then [116,112,99]
 else if k = 1 then [116]
 else if k = 2 then [116]
 else if k = 3 then [116,105,102,98]
 else if k = 4 then [116,105,111,109]
 else if k = 5 then [116,105,119]
 else if k = 6 then [103,107]
 else if k = 7 then [116,103,107,110]
 else if k = 8 then [103,107,110]
 else if k = 9 then [103,107]
 else if k = 10 then [116,105,111,103,107,110]
 else if k = 11 then [116,105,103]
 else []
def usesS : zai
 | [.w (.int .u8 k)],[] => ⟨True,.str (zcr k),[]⟩
 | _,_ => zba
theorem knd_cases (k : Int) : (k ≠ 0 ∧ k ≠ 1 ∧ k ≠ 2 ∧ k ≠ 3 ∧ k ≠ 4 ∧ k ≠ 5 ∧ k ≠ 6 ∧ k ≠ 7 ∧ k ≠ 8 ∧ k ≠ 9 ∧ k ≠ 10 ∧ k ≠ 11) ∨ k = 0 ∨ k = 1 ∨ k = 2 ∨ k = 3 ∨ k = 4 ∨ k = 5 ∨ k = 6 ∨ k = 7 ∨ k = 8 ∨ k = 9 ∨ k = 10 ∨ k = 11 := by omega
theorem knd_le (k : Int) (h : 0 ≤ k ∧ k ≤ 11) : k = 0 ∨ k = 1 ∨ k = 2 ∨ k = 3 ∨ k = 4 ∨ k = 5 ∨ k = 6 ∨ k = 7 ∨ k = 8 ∨ k = 9 ∨ k = 10 ∨ k = 11 := by omega
def textF (c : Int) : Nat := if c = 116 then 1 else if c = 103 then 9 else if c = 107 then 10 else 0
def yesF (c : Int) : Nat := if c = 99 then 4 else if c = 102 then 5 else 0
def zfs (c : Int) : Nat := if c = 105 then 2 else if c = 112 then 3 else if c = 111 then 6 else if c = 109 then 7 else if c = 119 then 8 else if c = 110 then 11 else 0
def zds (n : Nat) : AV := if n = 0 then .w (.pointer none) else .rf 0 18 0 n
def textO : zai
 | [.rf 0 18 0 0,.w (.int .i32 c)],[.g 18 [x]] => ⟨x.closed = true,zds (textF c),[.g 18 [x]]⟩
 | _,_ => zba
def yesO : zai
 | [.rf 0 18 0 0,.w (.int .i32 c)],[.g 18 [x]] => ⟨x.closed = true,zds (yesF c),[.g 18 [x]]⟩
 | _,_ => zba
def numbO : zai
 | [.rf 0 18 0 0,.w (.int .i32 c)],[.g 18 [x]] => ⟨x.closed = true,zds (zfs c),[.g 18 [x]]⟩
 | _,_ => zba
section
set_option maxRecDepth 100000
set_option maxHeartbeats 4000000 in
theorem zfc : zaq Try.prog 14 usesS := by
 refine zak (S := noS) (T := ty) zas ty_ok zby Try.func14 (c := Try.f14.body.getD .skip) (by kernel_rfl) (by kernel_rfl) (fun xs pins hp _ => ?_)
 unfold usesS at hp ⊢
 split at hp
 · rename_i k _
   refine ⟨by simp,?_⟩
   unfold Try.f14
   rcases knd_cases k with ⟨h0,h1,h2,h3,h4,h5,h6,h7,h8,h9,h10,h11⟩ | rfl | rfl | rfl | rfl | rfl | rfl | rfl | rfl | rfl | rfl | rfl | rfl
   · have hu : zcr k = [] := by unfold zcr; simp only [h0,h1,h2,h3,h4,h5,h6,h7,h8,h9,h10,h11,if_false]
     have d0 := decide_eq_false h0
     have d1 := decide_eq_false h1
     have d2 := decide_eq_false h2
     have d3 := decide_eq_false h3
     have d4 := decide_eq_false h4
     have d5 := decide_eq_false h5
     have d6 := decide_eq_false h6
     have d7 := decide_eq_false h7
     have d8 := decide_eq_false h8
     have d9 := decide_eq_false h9
     have d10 := decide_eq_false h10
     have d11 := decide_eq_false h11
     simp only [go_sem,coe,zaa,Nat.reduceAdd,Nat.reduceSub,Nat.reduceMul,Int.reduceToNat,reduceCtorEq,↓reduceIte,Int.reducePow,Nat.reducePow,Int.reduceMod,Nat.reduceLeDiff,Int.reduceLE,Int.reduceNe,Int.reduceEq,Nat.reduceEqDiff,Nat.reduceLT,Nat.reduceBEq,ty,noS,hu,d0,d1,d2,d3,d4,d5,d6,d7,d8,d9,d10,d11]
   all_goals simp only [go_sem,coe,zaa,Nat.reduceAdd,Nat.reduceSub,Nat.reduceMul,Int.reduceToNat,reduceCtorEq,↓reduceIte,Int.reducePow,Nat.reducePow,Int.reduceMod,Nat.reduceLeDiff,Int.reduceLE,Int.reduceNe,Int.reduceEq,Nat.reduceEqDiff,Nat.reduceLT,Nat.reduceBEq,ty,noS,zcr,Int.reduceEq,decide_true,decide_false,if_true,if_false]
 · exact hp.elim
set_option maxHeartbeats 4000000 in
theorem text22_sound : SoundO Try.prog 62 textO := by
 refine fn_soundO (S := noS) (SO := noO) (T := ty) zas ty_ok zby noO_ok Try.func62 (c := Try.f62.body.getD .skip) (by kernel_rfl) (fun xs pins hp => ?_)
 unfold textO at hp ⊢
 split at hp
 · rename_i c x
   have hx : x.closed = true := hp
   refine ⟨by simp,fun _ => .std,by kernel_rfl,?_⟩
   unfold Try.f62
   by_cases h116 : c = 116
   · subst h116
     simp only [go_sem,coe,zab,Nat.reduceAdd,Nat.reduceSub,Nat.reduceMul,Int.reduceToNat,reduceCtorEq,↓reduceIte,Int.reducePow,Nat.reducePow,Int.reduceMod,Nat.reduceLeDiff,Int.reduceLE,Int.reduceNe,Int.reduceEq,Nat.reduceEqDiff,Nat.reduceLT,Nat.reduceBEq,List.map_cons,List.map_nil,List.toList_toArray,Array.toList_append,Option.toArray_some,Option.toArray_none,Bool.and_self,ty,noS,textF,zds,Int.reduceEq,Nat.reduceEqDiff,decide_true,decide_false,if_true,if_false]
     refine ⟨_,Weak.refl _,?_⟩
     simp only [go_sem,coe,zab,Nat.reduceAdd,Nat.reduceSub,Nat.reduceMul,Int.reduceToNat,reduceCtorEq,↓reduceIte,Int.reducePow,Nat.reducePow,Int.reduceMod,Nat.reduceLeDiff,Int.reduceLE,Int.reduceNe,Int.reduceEq,Nat.reduceEqDiff,Nat.reduceLT,Nat.reduceBEq,List.map_cons,List.map_nil,List.toList_toArray,Array.toList_append,Option.toArray_some,Option.toArray_none,Bool.and_self,ty,noS,hx]
   have d116 := decide_eq_false h116
   by_cases h103 : c = 103
   · subst h103
     simp only [go_sem,coe,zab,Nat.reduceAdd,Nat.reduceSub,Nat.reduceMul,Int.reduceToNat,reduceCtorEq,↓reduceIte,Int.reducePow,Nat.reducePow,Int.reduceMod,Nat.reduceLeDiff,Int.reduceLE,Int.reduceNe,Int.reduceEq,Nat.reduceEqDiff,Nat.reduceLT,Nat.reduceBEq,List.map_cons,List.map_nil,List.toList_toArray,Array.toList_append,Option.toArray_some,Option.toArray_none,Bool.and_self,ty,noS,textF,zds,Int.reduceEq,Nat.reduceEqDiff,decide_true,decide_false,if_true,if_false]
     refine ⟨_,Weak.refl _,?_⟩
     simp only [go_sem,coe,zab,Nat.reduceAdd,Nat.reduceSub,Nat.reduceMul,Int.reduceToNat,reduceCtorEq,↓reduceIte,Int.reducePow,Nat.reducePow,Int.reduceMod,Nat.reduceLeDiff,Int.reduceLE,Int.reduceNe,Int.reduceEq,Nat.reduceEqDiff,Nat.reduceLT,Nat.reduceBEq,List.map_cons,List.map_nil,List.toList_toArray,Array.toList_append,Option.toArray_some,Option.toArray_none,Bool.and_self,ty,noS,hx]
   have d103 := decide_eq_false h103
   by_cases h107 : c = 107
   · subst h107
     simp only [go_sem,coe,zab,Nat.reduceAdd,Nat.reduceSub,Nat.reduceMul,Int.reduceToNat,reduceCtorEq,↓reduceIte,Int.reducePow,Nat.reducePow,Int.reduceMod,Nat.reduceLeDiff,Int.reduceLE,Int.reduceNe,Int.reduceEq,Nat.reduceEqDiff,Nat.reduceLT,Nat.reduceBEq,List.map_cons,List.map_nil,List.toList_toArray,Array.toList_append,Option.toArray_some,Option.toArray_none,Bool.and_self,ty,noS,textF,zds,Int.reduceEq,Nat.reduceEqDiff,decide_true,decide_false,if_true,if_false]
     refine ⟨_,Weak.refl _,?_⟩
     simp only [go_sem,coe,zab,Nat.reduceAdd,Nat.reduceSub,Nat.reduceMul,Int.reduceToNat,reduceCtorEq,↓reduceIte,Int.reducePow,Nat.reducePow,Int.reduceMod,Nat.reduceLeDiff,Int.reduceLE,Int.reduceNe,Int.reduceEq,Nat.reduceEqDiff,Nat.reduceLT,Nat.reduceBEq,List.map_cons,List.map_nil,List.toList_toArray,Array.toList_append,Option.toArray_some,Option.toArray_none,Bool.and_self,ty,noS,hx]
   have d107 := decide_eq_false h107
   have hv : zds (textF c) = .w (.pointer none) := by unfold textF; simp only [h116,h103,h107,if_false]; rfl
   simp only [go_sem,coe,zab,Nat.reduceAdd,Nat.reduceSub,Nat.reduceMul,Int.reduceToNat,reduceCtorEq,↓reduceIte,Int.reducePow,Nat.reducePow,Int.reduceMod,Nat.reduceLeDiff,Int.reduceLE,Int.reduceNe,Int.reduceEq,Nat.reduceEqDiff,Nat.reduceLT,Nat.reduceBEq,List.map_cons,List.map_nil,List.toList_toArray,Array.toList_append,Option.toArray_some,Option.toArray_none,Bool.and_self,ty,noS,hv,d116,d103,d107]
   refine ⟨_,Weak.refl _,?_⟩
   simp only [go_sem,coe,zab,Nat.reduceAdd,Nat.reduceSub,Nat.reduceMul,Int.reduceToNat,reduceCtorEq,↓reduceIte,Int.reducePow,Nat.reducePow,Int.reduceMod,Nat.reduceLeDiff,Int.reduceLE,Int.reduceNe,Int.reduceEq,Nat.reduceEqDiff,Nat.reduceLT,Nat.reduceBEq,List.map_cons,List.map_nil,List.toList_toArray,Array.toList_append,Option.toArray_some,Option.toArray_none,Bool.and_self,ty,noS,hv,hx]
 · exact hp.elim
set_option maxHeartbeats 4000000 in
theorem yes22_sound : SoundO Try.prog 63 yesO := by
 refine fn_soundO (S := noS) (SO := noO) (T := ty) zas ty_ok zby noO_ok Try.func63 (c := Try.f63.body.getD .skip) (by kernel_rfl) (fun xs pins hp => ?_)
 unfold yesO at hp ⊢
 split at hp
 · rename_i c x
   have hx : x.closed = true := hp
   refine ⟨by simp,fun _ => .std,by kernel_rfl,?_⟩
   unfold Try.f63
   by_cases h99 : c = 99
   · subst h99
     simp only [go_sem,coe,zab,Nat.reduceAdd,Nat.reduceSub,Nat.reduceMul,Int.reduceToNat,reduceCtorEq,↓reduceIte,Int.reducePow,Nat.reducePow,Int.reduceMod,Nat.reduceLeDiff,Int.reduceLE,Int.reduceNe,Int.reduceEq,Nat.reduceEqDiff,Nat.reduceLT,Nat.reduceBEq,List.map_cons,List.map_nil,List.toList_toArray,Array.toList_append,Option.toArray_some,Option.toArray_none,Bool.and_self,ty,noS,yesF,zds,Int.reduceEq,Nat.reduceEqDiff,decide_true,decide_false,if_true,if_false]
     refine ⟨_,Weak.refl _,?_⟩
     simp only [go_sem,coe,zab,Nat.reduceAdd,Nat.reduceSub,Nat.reduceMul,Int.reduceToNat,reduceCtorEq,↓reduceIte,Int.reducePow,Nat.reducePow,Int.reduceMod,Nat.reduceLeDiff,Int.reduceLE,Int.reduceNe,Int.reduceEq,Nat.reduceEqDiff,Nat.reduceLT,Nat.reduceBEq,List.map_cons,List.map_nil,List.toList_toArray,Array.toList_append,Option.toArray_some,Option.toArray_none,Bool.and_self,ty,noS,hx]
   have d99 := decide_eq_false h99
   by_cases h102 : c = 102
   · subst h102
     simp only [go_sem,coe,zab,Nat.reduceAdd,Nat.reduceSub,Nat.reduceMul,Int.reduceToNat,reduceCtorEq,↓reduceIte,Int.reducePow,Nat.reducePow,Int.reduceMod,Nat.reduceLeDiff,Int.reduceLE,Int.reduceNe,Int.reduceEq,Nat.reduceEqDiff,Nat.reduceLT,Nat.reduceBEq,List.map_cons,List.map_nil,List.toList_toArray,Array.toList_append,Option.toArray_some,Option.toArray_none,Bool.and_self,ty,noS,yesF,zds,Int.reduceEq,Nat.reduceEqDiff,decide_true,decide_false,if_true,if_false]
     refine ⟨_,Weak.refl _,?_⟩
     simp only [go_sem,coe,zab,Nat.reduceAdd,Nat.reduceSub,Nat.reduceMul,Int.reduceToNat,reduceCtorEq,↓reduceIte,Int.reducePow,Nat.reducePow,Int.reduceMod,Nat.reduceLeDiff,Int.reduceLE,Int.reduceNe,Int.reduceEq,Nat.reduceEqDiff,Nat.reduceLT,Nat.reduceBEq,List.map_cons,List.map_nil,List.toList_toArray,Array.toList_append,Option.toArray_some,Option.toArray_none,Bool.and_self,ty,noS,hx]
   have d102 := decide_eq_false h102
   have hv : zds (yesF c) = .w (.pointer none) := by unfold yesF; simp only [h99,h102,if_false]; rfl
   simp only [go_sem,coe,zab,Nat.reduceAdd,Nat.reduceSub,Nat.reduceMul,Int.reduceToNat,reduceCtorEq,↓reduceIte,Int.reducePow,Nat.reducePow,Int.reduceMod,Nat.reduceLeDiff,Int.reduceLE,Int.reduceNe,Int.reduceEq,Nat.reduceEqDiff,Nat.reduceLT,Nat.reduceBEq,List.map_cons,List.map_nil,List.toList_toArray,Array.toList_append,Option.toArray_some,Option.toArray_none,Bool.and_self,ty,noS,hv,d99,d102]
   refine ⟨_,Weak.refl _,?_⟩
   simp only [go_sem,coe,zab,Nat.reduceAdd,Nat.reduceSub,Nat.reduceMul,Int.reduceToNat,reduceCtorEq,↓reduceIte,Int.reducePow,Nat.reducePow,Int.reduceMod,Nat.reduceLeDiff,Int.reduceLE,Int.reduceNe,Int.reduceEq,Nat.reduceEqDiff,Nat.reduceLT,Nat.reduceBEq,List.map_cons,List.map_nil,List.toList_toArray,Array.toList_append,Option.toArray_some,Option.toArray_none,Bool.and_self,ty,noS,hv,hx]
 · exact hp.elim
set_option maxHeartbeats 4000000 in
theorem numb22_sound : SoundO Try.prog 64 numbO := by
 refine fn_soundO (S := noS) (SO := noO) (T := ty) zas ty_ok zby noO_ok Try.func64 (c := Try.f64.body.getD .skip) (by kernel_rfl) (fun xs pins hp => ?_)
 unfold numbO at hp ⊢
 split at hp
 · rename_i c x
   have hx : x.closed = true := hp
   refine ⟨by simp,fun _ => .std,by kernel_rfl,?_⟩
   unfold Try.f64
   by_cases h105 : c = 105
   · subst h105
     simp only [go_sem,coe,zab,Nat.reduceAdd,Nat.reduceSub,Nat.reduceMul,Int.reduceToNat,reduceCtorEq,↓reduceIte,Int.reducePow,Nat.reducePow,Int.reduceMod,Nat.reduceLeDiff,Int.reduceLE,Int.reduceNe,Int.reduceEq,Nat.reduceEqDiff,Nat.reduceLT,Nat.reduceBEq,List.map_cons,List.map_nil,List.toList_toArray,Array.toList_append,Option.toArray_some,Option.toArray_none,Bool.and_self,ty,noS,zfs,zds,Int.reduceEq,Nat.reduceEqDiff,decide_true,decide_false,if_true,if_false]
     refine ⟨_,Weak.refl _,?_⟩
     simp only [go_sem,coe,zab,Nat.reduceAdd,Nat.reduceSub,Nat.reduceMul,Int.reduceToNat,reduceCtorEq,↓reduceIte,Int.reducePow,Nat.reducePow,Int.reduceMod,Nat.reduceLeDiff,Int.reduceLE,Int.reduceNe,Int.reduceEq,Nat.reduceEqDiff,Nat.reduceLT,Nat.reduceBEq,List.map_cons,List.map_nil,List.toList_toArray,Array.toList_append,Option.toArray_some,Option.toArray_none,Bool.and_self,ty,noS,hx]
   have d105 := decide_eq_false h105
   by_cases h112 : c = 112
   · subst h112
     simp only [go_sem,coe,zab,Nat.reduceAdd,Nat.reduceSub,Nat.reduceMul,Int.reduceToNat,reduceCtorEq,↓reduceIte,Int.reducePow,Nat.reducePow,Int.reduceMod,Nat.reduceLeDiff,Int.reduceLE,Int.reduceNe,Int.reduceEq,Nat.reduceEqDiff,Nat.reduceLT,Nat.reduceBEq,List.map_cons,List.map_nil,List.toList_toArray,Array.toList_append,Option.toArray_some,Option.toArray_none,Bool.and_self,ty,noS,zfs,zds,Int.reduceEq,Nat.reduceEqDiff,decide_true,decide_false,if_true,if_false]
     refine ⟨_,Weak.refl _,?_⟩
     simp only [go_sem,coe,zab,Nat.reduceAdd,Nat.reduceSub,Nat.reduceMul,Int.reduceToNat,reduceCtorEq,↓reduceIte,Int.reducePow,Nat.reducePow,Int.reduceMod,Nat.reduceLeDiff,Int.reduceLE,Int.reduceNe,Int.reduceEq,Nat.reduceEqDiff,Nat.reduceLT,Nat.reduceBEq,List.map_cons,List.map_nil,List.toList_toArray,Array.toList_append,Option.toArray_some,Option.toArray_none,Bool.and_self,ty,noS,hx]
   have d112 := decide_eq_false h112
   by_cases h111 : c = 111
   · subst h111
     simp only [go_sem,coe,zab,Nat.reduceAdd,Nat.reduceSub,Nat.reduceMul,Int.reduceToNat,reduceCtorEq,↓reduceIte,Int.reducePow,Nat.reducePow,Int.reduceMod,Nat.reduceLeDiff,Int.reduceLE,Int.reduceNe,Int.reduceEq,Nat.reduceEqDiff,Nat.reduceLT,Nat.reduceBEq,List.map_cons,List.map_nil,List.toList_toArray,Array.toList_append,Option.toArray_some,Option.toArray_none,Bool.and_self,ty,noS,zfs,zds,Int.reduceEq,Nat.reduceEqDiff,decide_true,decide_false,if_true,if_false]
     refine ⟨_,Weak.refl _,?_⟩
     simp only [go_sem,coe,zab,Nat.reduceAdd,Nat.reduceSub,Nat.reduceMul,Int.reduceToNat,reduceCtorEq,↓reduceIte,Int.reducePow,Nat.reducePow,Int.reduceMod,Nat.reduceLeDiff,Int.reduceLE,Int.reduceNe,Int.reduceEq,Nat.reduceEqDiff,Nat.reduceLT,Nat.reduceBEq,List.map_cons,List.map_nil,List.toList_toArray,Array.toList_append,Option.toArray_some,Option.toArray_none,Bool.and_self,ty,noS,hx]
   have d111 := decide_eq_false h111
   by_cases h109 : c = 109
   · subst h109
     simp only [go_sem,coe,zab,Nat.reduceAdd,Nat.reduceSub,Nat.reduceMul,Int.reduceToNat,reduceCtorEq,↓reduceIte,Int.reducePow,Nat.reducePow,Int.reduceMod,Nat.reduceLeDiff,Int.reduceLE,Int.reduceNe,Int.reduceEq,Nat.reduceEqDiff,Nat.reduceLT,Nat.reduceBEq,List.map_cons,List.map_nil,List.toList_toArray,Array.toList_append,Option.toArray_some,Option.toArray_none,Bool.and_self,ty,noS,zfs,zds,Int.reduceEq,Nat.reduceEqDiff,decide_true,decide_false,if_true,if_false]
     refine ⟨_,Weak.refl _,?_⟩
     simp only [go_sem,coe,zab,Nat.reduceAdd,Nat.reduceSub,Nat.reduceMul,Int.reduceToNat,reduceCtorEq,↓reduceIte,Int.reducePow,Nat.reducePow,Int.reduceMod,Nat.reduceLeDiff,Int.reduceLE,Int.reduceNe,Int.reduceEq,Nat.reduceEqDiff,Nat.reduceLT,Nat.reduceBEq,List.map_cons,List.map_nil,List.toList_toArray,Array.toList_append,Option.toArray_some,Option.toArray_none,Bool.and_self,ty,noS,hx]
   have d109 := decide_eq_false h109
   by_cases h119 : c = 119
   · subst h119
     simp only [go_sem,coe,zab,Nat.reduceAdd,Nat.reduceSub,Nat.reduceMul,Int.reduceToNat,reduceCtorEq,↓reduceIte,Int.reducePow,Nat.reducePow,Int.reduceMod,Nat.reduceLeDiff,Int.reduceLE,Int.reduceNe,Int.reduceEq,Nat.reduceEqDiff,Nat.reduceLT,Nat.reduceBEq,List.map_cons,List.map_nil,List.toList_toArray,Array.toList_append,Option.toArray_some,Option.toArray_none,Bool.and_self,ty,noS,zfs,zds,Int.reduceEq,Nat.reduceEqDiff,decide_true,decide_false,if_true,if_false]
     refine ⟨_,Weak.refl _,?_⟩
     simp only [go_sem,coe,zab,Nat.reduceAdd,Nat.reduceSub,Nat.reduceMul,Int.reduceToNat,reduceCtorEq,↓reduceIte,Int.reducePow,Nat.reducePow,Int.reduceMod,Nat.reduceLeDiff,Int.reduceLE,Int.reduceNe,Int.reduceEq,Nat.reduceEqDiff,Nat.reduceLT,Nat.reduceBEq,List.map_cons,List.map_nil,List.toList_toArray,Array.toList_append,Option.toArray_some,Option.toArray_none,Bool.and_self,ty,noS,hx]
   have d119 := decide_eq_false h119
   by_cases h110 : c = 110
   · subst h110
     simp only [go_sem,coe,zab,Nat.reduceAdd,Nat.reduceSub,Nat.reduceMul,Int.reduceToNat,reduceCtorEq,↓reduceIte,Int.reducePow,Nat.reducePow,Int.reduceMod,Nat.reduceLeDiff,Int.reduceLE,Int.reduceNe,Int.reduceEq,Nat.reduceEqDiff,Nat.reduceLT,Nat.reduceBEq,List.map_cons,List.map_nil,List.toList_toArray,Array.toList_append,Option.toArray_some,Option.toArray_none,Bool.and_self,ty,noS,zfs,zds,Int.reduceEq,Nat.reduceEqDiff,decide_true,decide_false,if_true,if_false]
     refine ⟨_,Weak.refl _,?_⟩
     simp only [go_sem,coe,zab,Nat.reduceAdd,Nat.reduceSub,Nat.reduceMul,Int.reduceToNat,reduceCtorEq,↓reduceIte,Int.reducePow,Nat.reducePow,Int.reduceMod,Nat.reduceLeDiff,Int.reduceLE,Int.reduceNe,Int.reduceEq,Nat.reduceEqDiff,Nat.reduceLT,Nat.reduceBEq,List.map_cons,List.map_nil,List.toList_toArray,Array.toList_append,Option.toArray_some,Option.toArray_none,Bool.and_self,ty,noS,hx]
   have d110 := decide_eq_false h110
   have hv : zds (zfs c) = .w (.pointer none) := by unfold zfs; simp only [h105,h112,h111,h109,h119,h110,if_false]; rfl
   simp only [go_sem,coe,zab,Nat.reduceAdd,Nat.reduceSub,Nat.reduceMul,Int.reduceToNat,reduceCtorEq,↓reduceIte,Int.reducePow,Nat.reducePow,Int.reduceMod,Nat.reduceLeDiff,Int.reduceLE,Int.reduceNe,Int.reduceEq,Nat.reduceEqDiff,Nat.reduceLT,Nat.reduceBEq,List.map_cons,List.map_nil,List.toList_toArray,Array.toList_append,Option.toArray_some,Option.toArray_none,Bool.and_self,ty,noS,hv,d105,d112,d111,d109,d119,d110]
   refine ⟨_,Weak.refl _,?_⟩
   simp only [go_sem,coe,zab,Nat.reduceAdd,Nat.reduceSub,Nat.reduceMul,Int.reduceToNat,reduceCtorEq,↓reduceIte,Int.reducePow,Nat.reducePow,Int.reduceMod,Nat.reduceLeDiff,Int.reduceLE,Int.reduceNe,Int.reduceEq,Nat.reduceEqDiff,Nat.reduceLT,Nat.reduceBEq,List.map_cons,List.map_nil,List.toList_toArray,Array.toList_append,Option.toArray_some,Option.toArray_none,Bool.and_self,ty,noS,hv,hx]
 · exact hp.elim
end
end Go.Proofs.Ytmedjkjoannbmaa
namespace Go.Proofs.Ytmedjkjoannbmaa
open Ax
theorem dc22_0 : (decR [116] 0 = 116 ∧ decW [116] 0 = 1) := by decide +kernel
theorem dc22_1 : (decR [103,107] 0 = 103 ∧ decW [103,107] 0 = 1) ∧ (decR [103,107] 1 = 107 ∧ decW [103,107] 1 = 1) := by decide +kernel
theorem dc22_2 : (decR [103,107,110] 0 = 103 ∧ decW [103,107,110] 0 = 1) ∧ (decR [103,107,110] 1 = 107 ∧ decW [103,107,110] 1 = 1) ∧ (decR [103,107,110] 2 = 110 ∧ decW [103,107,110] 2 = 1) := by decide +kernel
theorem dc22_3 : (decR [116,105,103] 0 = 116 ∧ decW [116,105,103] 0 = 1) ∧ (decR [116,105,103] 1 = 105 ∧ decW [116,105,103] 1 = 1) ∧ (decR [116,105,103] 2 = 103 ∧ decW [116,105,103] 2 = 1) := by decide +kernel
theorem dc22_4 : (decR [116,105,119] 0 = 116 ∧ decW [116,105,119] 0 = 1) ∧ (decR [116,105,119] 1 = 105 ∧ decW [116,105,119] 1 = 1) ∧ (decR [116,105,119] 2 = 119 ∧ decW [116,105,119] 2 = 1) := by decide +kernel
theorem dc22_5 : (decR [116,112,99] 0 = 116 ∧ decW [116,112,99] 0 = 1) ∧ (decR [116,112,99] 1 = 112 ∧ decW [116,112,99] 1 = 1) ∧ (decR [116,112,99] 2 = 99 ∧ decW [116,112,99] 2 = 1) := by decide +kernel
theorem dc22_6 : (decR [116,103,107,110] 0 = 116 ∧ decW [116,103,107,110] 0 = 1) ∧ (decR [116,103,107,110] 1 = 103 ∧ decW [116,103,107,110] 1 = 1) ∧ (decR [116,103,107,110] 2 = 107 ∧ decW [116,103,107,110] 2 = 1) ∧ (decR [116,103,107,110] 3 = 110 ∧ decW [116,103,107,110] 3 = 1) := by decide +kernel
theorem dc22_7 : (decR [116,105,102,98] 0 = 116 ∧ decW [116,105,102,98] 0 = 1) ∧ (decR [116,105,102,98] 1 = 105 ∧ decW [116,105,102,98] 1 = 1) ∧ (decR [116,105,102,98] 2 = 102 ∧ decW [116,105,102,98] 2 = 1) ∧ (decR [116,105,102,98] 3 = 98 ∧ decW [116,105,102,98] 3 = 1) := by decide +kernel
theorem dc22_8 : (decR [116,105,111,109] 0 = 116 ∧ decW [116,105,111,109] 0 = 1) ∧ (decR [116,105,111,109] 1 = 105 ∧ decW [116,105,111,109] 1 = 1) ∧ (decR [116,105,111,109] 2 = 111 ∧ decW [116,105,111,109] 2 = 1) ∧ (decR [116,105,111,109] 3 = 109 ∧ decW [116,105,111,109] 3 = 1) := by decide +kernel
theorem dc22_9 : (decR [116,105,111,103,107,110] 0 = 116 ∧ decW [116,105,111,103,107,110] 0 = 1) ∧ (decR [116,105,111,103,107,110] 1 = 105 ∧ decW [116,105,111,103,107,110] 1 = 1) ∧ (decR [116,105,111,103,107,110] 2 = 111 ∧ decW [116,105,111,103,107,110] 2 = 1) ∧ (decR [116,105,111,103,107,110] 3 = 103 ∧ decW [116,105,111,103,107,110] 3 = 1) ∧ (decR [116,105,111,103,107,110] 4 = 107 ∧ decW [116,105,111,103,107,110] 4 = 1) ∧ (decR [116,105,111,103,107,110] 5 = 110 ∧ decW [116,105,111,103,107,110] 5 = 1) := by decide +kernel
def onlyQ (k : Int) (t : List UInt8) (i p : Int) (c f : Bool) (o m w : Int) (g mb : List UInt8) (n b1 b2 b3 b4 b5 : Int) (xs : List AV) (fl : Bool) : AV :=
 .agg [.w (.int .u8 k),.str (if k = 0 ∨ k = 1 ∨ k = 2 ∨ k = 3 ∨ k = 4 ∨ k = 5 ∨ k = 7 ∨ k = 10 ∨ k = 11 then t else []),.w (.int .i64 (if k = 3 ∨ k = 4 ∨ k = 5 ∨ k = 10 ∨ k = 11 then i else 0)),.w (.int .i64 (if k = 0 then p else 0)),.w (.bool (if k = 0 then c else false)),.w (.bool (if k = 3 then f else false)),.w (.int .i64 (if k = 4 ∨ k = 10 then o else 0)),.w (.int .i64 (if k = 4 then m else 0)),.w (.int .i64 (if k = 5 then w else 0)),.str (if k = 6 ∨ k = 7 ∨ k = 8 ∨ k = 9 ∨ k = 10 ∨ k = 11 then g else []),.str (if k = 6 ∨ k = 7 ∨ k = 8 ∨ k = 9 ∨ k = 10 then mb else []),.w (.int .i64 (if k = 7 ∨ k = 8 ∨ k = 10 then n else 0)),
   .w (.int .i64 (if k = 3 then b1 else 0)),.w (.int .i64 (if k = 3 then b2 else 0)),.w (.int .i64 (if k = 3 then b3 else 0)),.w (.int .i64 (if k = 3 then b4 else 0)),.w (.int .i64 (if k = 3 then b5 else 0)),.sg 6 (if k = 3 then xs else []) (if k = 3 then fl else true)]
def zcw : zai
 | [.agg [.w (.int .u8 k),.str t,.w (.int .i64 i),.w (.int .i64 p),.w (.bool c),.w (.bool f),.w (.int .i64 o),.w (.int .i64 m),.w (.int .i64 w),.str g,.str mb,.w (.int .i64 n),.w (.int .i64 b1),.w (.int .i64 b2),.w (.int .i64 b3),.w (.int .i64 b4),.w (.int .i64 b5),.sg 6 xs fl]],[] => ⟨0 ≤ k ∧ k ≤ 11,onlyQ k t i p c f o m w g mb n b1 b2 b3 b4 b5 xs fl,[]⟩
 | _,_ => zba
def Sjust22 (f : FuncId) : Option zai :=
 match f with
 | 14 => some usesS
 | _ => none
theorem Sjust22_ok : Fns Try.prog Sjust22 := by
 intro f s h
 unfold Sjust22 at h
 split at h
 · injection h with h; subst h; exact ⟨⟨_,Try.func14,by kernel_rfl,by kernel_rfl⟩,zfc⟩
 · cases h
def zcn (f : FuncId) : Option zai :=
 match f with
 | 62 => some textO
 | 63 => some yesO
 | 64 => some numbO
 | _ => none
theorem Ojust22_ok : FnsO Try.prog zcn := by
 intro f s h
 unfold zcn at h
 split at h
 · injection h with h; subst h; exact ⟨⟨_,Try.func62,by kernel_rfl,by kernel_rfl⟩,text22_sound⟩
 · injection h with h; subst h; exact ⟨⟨_,Try.func63,by kernel_rfl,by kernel_rfl⟩,yes22_sound⟩
 · injection h with h; subst h; exact ⟨⟨_,Try.func64,by kernel_rfl,by kernel_rfl⟩,numb22_sound⟩
 · cases h
def just22Pl : XPlan := fun id => match id with
 | 5 => .opn [] 1
 | 7 => .opn [] 2
 | 8 => .opn [] 1
 | 10 => .opn [] 2
 | 11 => .opn [] 1
 | 13 => .opn [] 2
 | _ => .std
section
set_option maxRecDepth 100000
set_option maxHeartbeats 40000000 in
theorem just22_sound : zaq Try.prog 60 zcw := by
 refine zcj (S := Sjust22) (SO := zcn) (T := ty) zas ty_ok Sjust22_ok Ojust22_ok Try.func60 (c := Try.f60.body.getD .skip) (by kernel_rfl) (fun xs pins hp _ => ?_)
 unfold zcw at hp ⊢
 split at hp
 · rename_i k t i p c f o m w g mb n b1 b2 b3 b4 b5 xs fl _
   have hk : 0 ≤ k ∧ k ≤ 11 := hp
   refine ⟨by simp,just22Pl,by kernel_rfl,?_⟩
   rcases knd_le k hk with rfl | rfl | rfl | rfl | rfl | rfl | rfl | rfl | rfl | rfl | rfl | rfl
   all_goals
     unfold Try.f60
     simp only [go_sem,coe,zab,Nat.reduceAdd,Nat.reduceSub,Nat.reduceMul,Int.reduceToNat,reduceCtorEq,↓reduceIte,Int.reducePow,Nat.reducePow,Int.reduceMod,Nat.reduceLeDiff,Int.reduceLE,Int.reduceNe,Int.reduceEq,Nat.reduceEqDiff,Nat.reduceLT,Nat.reduceBEq,List.map_cons,List.map_nil,List.toList_toArray,Array.toList_append,Option.toArray_some,Option.toArray_none,Bool.and_self,ty,Sjust22,zcn,just22Pl,usesS,zcr,fillS,Int.reduceEq,Int.reduceLT,Int.reduceLE,or_self,or_false,false_or,or_true,true_or,if_true,if_false]
     refine awpO_unr 8 ?_
     simp only [go_sem,coe,zab,Nat.reduceAdd,Nat.reduceSub,Nat.reduceMul,Int.reduceToNat,reduceCtorEq,↓reduceIte,Int.reducePow,Nat.reducePow,Int.reduceMod,Nat.reduceLeDiff,Int.reduceLE,Int.reduceNe,Int.reduceEq,Nat.reduceEqDiff,Nat.reduceLT,Nat.reduceBEq,List.map_cons,List.map_nil,List.toList_toArray,Array.toList_append,Option.toArray_some,Option.toArray_none,Bool.and_self,ty,Sjust22,zcn,just22Pl,textO,yesO,numbO,textF,yesF,zfs,zds,unrO_go,unK_normal,unK_exit,unK_ret,Int.reduceAdd,Int.reduceSub,Int.cast_ofNat_Int,fillS,Int.reduceEq,Int.reduceLT,Int.reduceLE,or_self,or_false,false_or,or_true,true_or,if_true,if_false,dc22_0,dc22_1,dc22_2,dc22_3,dc22_4,dc22_5,dc22_6,dc22_7,dc22_8,dc22_9]
     refine ⟨_,Weak.refl _,?_⟩
     simp only [go_sem,coe,zab,Nat.reduceAdd,Nat.reduceSub,Nat.reduceMul,Int.reduceToNat,reduceCtorEq,↓reduceIte,Int.reducePow,Nat.reducePow,Int.reduceMod,Nat.reduceLeDiff,Int.reduceLE,Int.reduceNe,Int.reduceEq,Nat.reduceEqDiff,Nat.reduceLT,Nat.reduceBEq,List.map_cons,List.map_nil,List.toList_toArray,Array.toList_append,Option.toArray_some,Option.toArray_none,Bool.and_self,ty,onlyQ,Int.reduceEq,Int.reduceLT,Int.reduceLE,or_self,or_false,false_or,or_true,true_or,if_true,if_false]
 · exact hp.elim
end
end Go.Proofs.Ytmedjkjoannbmaa
namespace Go.Proofs.Ytmedjkjoannbmaa
open Ax
theorem zao {T : zag} {sl : List AV} {H : Heap} {nx : Nat} {v : Value} {q : Prop} (i : Nat) (h : slot sl i = .w v) : EndsW T [.tmp i] [] ⟨q,.w v,[]⟩ .ret ⟨sl,H,nx⟩ := by
 refine ⟨_,Weak.refl _,?_⟩
 simp only [Ax.Ends,Ax.rvals,EndsX,rone,h,AV.ids,idsL,newIds,upTo,nodup,pinsOf,List.nil_append,AV.ren,and_self]
end Go.Proofs.Ytmedjkjoannbmaa
namespace Go.Proofs.Ytmedjkjoannbmaa
open Ax
theorem w1 : rchk 1 5 true [107] false [118] = 0 := by decide
theorem w2 : rchk 1 5 true [107] true [] = 0 := by decide
section
set_option maxRecDepth 100000
set_option maxHeartbeats 1000000 in
end
end Go.Proofs.Ytmedjkjoannbmaa
namespace Go.Proofs.Ytmedjkjoannbmaa
open Ax
section
set_option maxRecDepth 100000
def rputPl : Plan := fun id => match id with
 | 9 => some [(5,6),(5,7)]
 | _ => none
set_option maxHeartbeats 1000000 in
theorem rrecput_sound : zaq Try.prog 88 rputS := by
 refine fn_soundF (S := Srrput) (T := ty) (pl := rputPl) zas ty_ok Srrput_ok Try.func88 (c := Try.f88.body.getD .skip) (by kernel_rfl) (by kernel_rfl) (fun xs pins hp _ => ?_)
 unfold rputS at hp ⊢
 split at hp
 · rename_i d t k key dd val _
   refine ⟨by simp,?_⟩
   unfold Try.f88
   by_cases h0 : rchk d t k key dd val = 0
   · have hc := rchk_cases d t k key dd val
     unfold rA rB at hc
     have hd : (-9223372036854775808 ≤ d ∧ d ≤ 9223372036854775807) ∧ (-9223372036854775808 ≤ t ∧ t ≤ 9223372036854775807) ∧ key.length ≤ 64 ∧ val.length ≤ 512 := by omega
     obtain ⟨hd1,hd2,hd3,hd4⟩ := hd
     clear hc
     have z1 := zcz d hd1.1 hd1.2
     have z2 := zcz t hd2.1 hd2.2
     have l1 := zay (zz d).toNat (by omega)
     have l2 := zay (zz t).toNat (by omega)
     have l3 := zdu key (by omega)
     have l4 := zdu val (by omega)
     have k3 : key.length ≤ 1000000 := by omega
     have k4 : val.length ≤ 1000000 := by omega
     generalize hP1 : putU (zz d).toNat = P1 at *
     generalize hP2 : putU (zz t).toNat = P2 at *
     generalize hP3 : zbc key = P3 at *
     generalize hP4 : zbc val = P4 at *
     cases k <;> cases dd
     all_goals
       have f0 : flagI false false = 0 := rfl
       have f1 : flagI true false = 1 := rfl
       have f2 : flagI false true = 2 := rfl
       have f3 : flagI true true = 3 := rfl
       simp only [go_sem,coe,zac,Nat.reduceAdd,Nat.reduceSub,Nat.reduceMul,Int.reduceToNat,reduceCtorEq,↓reduceIte,Int.reducePow,Nat.reducePow,Int.reduceMod,Nat.reduceLeDiff,Int.reduceLE,Int.reduceNe,Int.reduceEq,Nat.reduceEqDiff,Nat.reduceLT,Nat.reduceBEq,List.map_cons,List.map_nil,List.toList_toArray,Array.toList_append,Option.toArray_some,Option.toArray_none,Bool.and_self,ty,Srrput,rputPl,zbh,flagS,putS,zcg,h0,hd1,hd2,k3,k4,hP1,hP2,hP3,hP4,List.take_length,f0,f1,f2,f3,Int.reduceAdd]
       have ht : top = 4294967296 := rfl
       repeat (refine And.intro (by omega) ?_)
       exact put_ends rfl rfl rfl (by simp only [List.length_append,List.length_cons,List.length_nil]; omega) (by simp [recB,h0,recL,hP1,hP2,hP3,hP4,f0,f1,f2,f3]) rfl
   · have d0 : decide (rchk d t k key dd val = 0) = false := decide_eq_false h0
     simp only [go_sem,coe,zac,Nat.reduceAdd,Nat.reduceSub,Nat.reduceMul,Int.reduceToNat,reduceCtorEq,↓reduceIte,Int.reducePow,Nat.reducePow,Int.reduceMod,Nat.reduceLeDiff,Int.reduceLE,Int.reduceNe,Int.reduceEq,Nat.reduceEqDiff,Nat.reduceLT,Nat.reduceBEq,List.map_cons,List.map_nil,List.toList_toArray,Array.toList_append,Option.toArray_some,Option.toArray_none,Bool.and_self,ty,Srrput,rputPl,zbh,d0]
     refine ⟨_,zdn 2 (.sb [] false) (fun _ _ _ h => h.nilb),?_⟩
     simp only [go_sem,coe,zac,Nat.reduceAdd,Nat.reduceSub,Nat.reduceMul,Int.reduceToNat,reduceCtorEq,↓reduceIte,Int.reducePow,Nat.reducePow,Int.reduceMod,Nat.reduceLeDiff,Int.reduceLE,Int.reduceNe,Int.reduceEq,Nat.reduceEqDiff,Nat.reduceLT,Nat.reduceBEq,List.map_cons,List.map_nil,List.toList_toArray,Array.toList_append,Option.toArray_some,Option.toArray_none,Bool.and_self,ty,recB,if_neg h0]
 · exact hp.elim
end
end Go.Proofs.Ytmedjkjoannbmaa
