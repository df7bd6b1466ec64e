/- What the proofs of this seat stand on; it asks nothing. -/
import Derived.Test.YtlcijldkdpmknaaYa06
set_option linter.unusedSimpArgs false
set_option linter.unusedVariables false
namespace Go.Proofs.Ytlcijldkdpmknaa
open Ax
section
set_option maxRecDepth 100000
def sameB (d t : Int) (k : Bool) (key : List UInt8) (dd : Bool) (val : List UInt8) (d' t' : Int) (k' : Bool) (key' : List UInt8) (dd' : Bool) (val' : List UInt8) : Bool :=
 decide (d = d') && (decide (t = t') && ((k == k') && (decide (key = key') && ((dd == dd') && (decide (val = val') && true)))))
def rsameS : zam
 | [.agg [.w (.int .i64 d),.w (.int .i64 t),.w (.bool k),.str key,.w (.bool dd),.str val],.agg [.w (.int .i64 d'),.w (.int .i64 t'),.w (.bool k'),.str key',.w (.bool dd'),.str val']],[] => ⟨True,.w (.bool (sameB d t k key dd val d' t' k' key' dd' val')),[]⟩
 | _,_ => zay
theorem rsame_sound : zaq Try.prog 61 rsameS := by
 refine zak (S := noS) (T := ty) zat ty_ok zbo Try.func61 (c := Try.f61.body.getD .skip) (by kernel_rfl) (by kernel_rfl) (fun xs pins hp _ => ?_)
 unfold rsameS at hp ⊢
 split at hp
 · rename_i d t k key dd val d' t' k' key' dd' val' _
   refine ⟨by simp,?_⟩
   unfold Try.f61
   simp only [go_sem,coe,zaa,Nat.reduceAdd,Nat.reduceSub,Nat.reduceMul,Int.reduceToNat,reduceCtorEq,↓reduceIte,Int.reducePow,Nat.reducePow,Int.reduceMod,Nat.reduceLeDiff,Int.reduceLE,Int.reduceNe,Int.reduceEq,Nat.reduceEqDiff,Nat.reduceLT,Nat.reduceBEq,ty,noS,sameB]
 · exact hp.elim
def lightS : zam
 | [.agg [.w (.int .i64 d),.w (.int .i64 t),.w (.bool k),.str key,.w (.bool dd),.str val]],[] => ⟨True,.w (.bool (decide (key.length ≤ 200 ∧ val.length ≤ 700))),[]⟩
 | _,_ => zay
theorem light_sound : zaq Try.prog 55 lightS := by
 refine zak (S := noS) (T := ty) zat ty_ok zbo Try.func55 (c := Try.f55.body.getD .skip) (by kernel_rfl) (by kernel_rfl) (fun xs pins hp _ => ?_)
 unfold lightS at hp ⊢
 split at hp
 · rename_i d t k key dd val _
   refine ⟨by simp,?_⟩
   unfold Try.f55
   by_cases h1 : key.length ≤ 200
   · have d1 : decide ((key.length : Int) ≤ 200) = true := decide_eq_true (by omega)
     by_cases h2 : val.length ≤ 700
     · have d2 : decide ((val.length : Int) ≤ 700) = true := decide_eq_true (by omega)
       have d3 : decide (key.length ≤ 200 ∧ val.length ≤ 700) = true := decide_eq_true ⟨h1,h2⟩
       simp only [go_sem,coe,zaa,Nat.reduceAdd,Nat.reduceSub,Nat.reduceMul,Int.reduceToNat,reduceCtorEq,↓reduceIte,Int.reducePow,Nat.reducePow,Int.reduceMod,Nat.reduceLeDiff,Int.reduceLE,Int.reduceNe,Int.reduceEq,Nat.reduceEqDiff,Nat.reduceLT,Nat.reduceBEq,ty,noS,d1,d2,d3]
     · have d2 : decide ((val.length : Int) ≤ 700) = false := decide_eq_false (by omega)
       have d3 : decide (key.length ≤ 200 ∧ val.length ≤ 700) = false := decide_eq_false (fun h => h2 h.2)
       simp only [go_sem,coe,zaa,Nat.reduceAdd,Nat.reduceSub,Nat.reduceMul,Int.reduceToNat,reduceCtorEq,↓reduceIte,Int.reducePow,Nat.reducePow,Int.reduceMod,Nat.reduceLeDiff,Int.reduceLE,Int.reduceNe,Int.reduceEq,Nat.reduceEqDiff,Nat.reduceLT,Nat.reduceBEq,ty,noS,d1,d2,d3]
   · have d1 : decide ((key.length : Int) ≤ 200) = false := decide_eq_false (by omega)
     have d3 : decide (key.length ≤ 200 ∧ val.length ≤ 700) = false := decide_eq_false (fun h => h1 h.1)
     simp only [go_sem,coe,zaa,Nat.reduceAdd,Nat.reduceSub,Nat.reduceMul,Int.reduceToNat,reduceCtorEq,↓reduceIte,Int.reducePow,Nat.reducePow,Int.reduceMod,Nat.reduceLeDiff,Int.reduceLE,Int.reduceNe,Int.reduceEq,Nat.reduceEqDiff,Nat.reduceLT,Nat.reduceBEq,ty,noS,d1,d3]
 · exact hp.elim
end
end Go.Proofs.Ytlcijldkdpmknaa
namespace Go.Proofs.Ytlcijldkdpmknaa
open Ax
instance : DecidableEq Rec := fun a b => decidable_of_iff (a.d = b.d ∧ a.t = b.t ∧ a.k = b.k ∧ a.key = b.key ∧ a.dd = b.dd ∧ a.val = b.val) (by cases a; cases b; simp)
theorem sameB_rec (r q : Rec) : sameB r.d r.t r.k r.key r.dd r.val q.d q.t q.k q.key q.dd q.val = decide (r = q) := by
 cases r; cases q
 unfold sameB
 rw [Bool.eq_iff_iff]
 simp
def bchkS4 : zam
 | [.agg [.w (.int .i64 b),.w (.int .i64 c),.w (.int .i64 p),.w (.int .i64 e),.w (.int .i64 s),.sg 6 xs f]],[] => ⟨xs.length ≤ 9223372036854775807 ∧ ∃ rs : List Rec,xs = rs.map rv,
     .w (.int .i64 (batE b c p e s (xs.map rrec))),[]⟩
 | _,_ => zay
def zfc : zam
 | [.agg [.w (.int .i64 b),.w (.int .i64 c),.w (.int .i64 p),.w (.int .i64 e),.w (.int .i64 s),.sg 6 xs f]],[] => ⟨True,.w (.int .i64 ((b + c + 9223372036854775808) % 18446744073709551616 - 9223372036854775808)),[]⟩
 | _,_ => zay
def eqfS : zam
 | [.sg 6 xs f,.sg 6 ys g,.fn id []],[] => ⟨id = 61 ∧ (xs.length ≤ 9223372036854775807 ∧ ∃ rs : List Rec,xs = rs.map rv) ∧ ys.length ≤ 9223372036854775807 ∧ ∃ qs : List Rec,ys = qs.map rv,
     .w (.bool (decide (xs.map rrec = ys.map rrec))),[]⟩
 | _,_ => zay
def Sbl3 (f : FuncId) : Option zam :=
 match f with
 | 48 => some blayS4
 | _ => none
theorem Sbl3_ok : Fns Try.prog Sbl3 := by
 intro f s h
 unfold Sbl3 at h
 split at h
 · injection h with h; subst h; exact ⟨⟨_,Try.func48,by kernel_rfl,by kernel_rfl⟩,blay4_sound⟩
 · cases h
def Seqf (f : FuncId) : Option zam :=
 match f with
 | 61 => some rsameS
 | _ => none
theorem Seqf_ok : Fns Try.prog Seqf := by
 intro f s h
 unfold Seqf at h
 split at h
 · injection h with h; subst h; exact ⟨⟨_,Try.func61,by kernel_rfl,by kernel_rfl⟩,rsame_sound⟩
 · cases h
section
set_option maxRecDepth 100000
set_option maxHeartbeats 1000000 in
theorem bput4_sound : zaq Try.prog 30 blayS4 := by
 refine zak (S := Sbl3) (T := ty) zat ty_ok Sbl3_ok Try.func30 (c := Try.f30.body.getD .skip) (by kernel_rfl) (by kernel_rfl) (fun xs pins hp _ => ?_)
 unfold blayS4 at hp ⊢
 split at hp
 · rename_i b c p e s xs f _
   obtain ⟨hL,rs,rfl⟩ := hp
   have hl4 : (rs.map rv).length = rs.length := by simp
   rw [hl4] at hL
   have hex : ∃ qs : List Rec,rs.map rv = qs.map rv := ⟨rs,rfl⟩
   refine ⟨by simp,?_⟩
   unfold Try.f30
   simp only [go_sem,zaa,Nat.reduceAdd,Nat.reduceSub,Nat.reduceMul,Int.reduceToNat,reduceCtorEq,↓reduceIte,Int.reducePow,Nat.reducePow,Int.reduceMod,Nat.reduceLeDiff,Int.reduceLE,Int.reduceNe,Int.reduceEq,Nat.reduceEqDiff,Nat.reduceLT,Nat.reduceBEq,ty,Sbl3,blayS4,hl4,hL,hex,zaj]
 · exact hp.elim
set_option maxHeartbeats 1000000 in
theorem bchk4_sound : zaq Try.prog 40 bchkS4 := by
 refine zak (S := Sbl3) (T := ty) zat ty_ok Sbl3_ok Try.func40 (c := Try.f40.body.getD .skip) (by kernel_rfl) (by kernel_rfl) (fun xs pins hp _ => ?_)
 unfold bchkS4 at hp ⊢
 split at hp
 · rename_i b c p e s xs f _
   obtain ⟨hL,rs,rfl⟩ := hp
   have hl4 : (rs.map rv).length = rs.length := by simp
   rw [hl4] at hL
   have hex : ∃ qs : List Rec,rs.map rv = qs.map rv := ⟨rs,rfl⟩
   refine ⟨by simp,?_⟩
   unfold Try.f40
   simp only [go_sem,zaa,Nat.reduceAdd,Nat.reduceSub,Nat.reduceMul,Int.reduceToNat,reduceCtorEq,↓reduceIte,Int.reducePow,Nat.reducePow,Int.reduceMod,Nat.reduceLeDiff,Int.reduceLE,Int.reduceNe,Int.reduceEq,Nat.reduceEqDiff,Nat.reduceLT,Nat.reduceBEq,ty,Sbl3,blayS4,hl4,hL,hex,zaj]
 · exact hp.elim
theorem bnext_sound : zaq Try.prog 42 zfc := by
 refine zak (S := noS) (T := ty) zat ty_ok zbo Try.func42 (c := Try.f42.body.getD .skip) (by kernel_rfl) (by kernel_rfl) (fun xs pins hp _ => ?_)
 unfold zfc at hp ⊢
 split at hp
 · rename_i b c p e s xs f _
   refine ⟨by simp,?_⟩
   unfold Try.f42
   simp only [go_sem,zaa,Nat.reduceAdd,Nat.reduceSub,Nat.reduceMul,Int.reduceToNat,reduceCtorEq,↓reduceIte,Int.reducePow,Nat.reducePow,Int.reduceMod,Nat.reduceLeDiff,Int.reduceLE,Int.reduceNe,Int.reduceEq,Nat.reduceEqDiff,Nat.reduceLT,Nat.reduceBEq,ty,noS]
 · exact hp.elim
set_option maxHeartbeats 1000000 in
theorem eqf_sound : zaq Try.prog 60 eqfS := by
 refine zak (S := Seqf) (T := ty) zat ty_ok Seqf_ok Try.func60 (c := Try.f60.body.getD .skip) (by kernel_rfl) (by kernel_rfl) (fun xs pins hp _ => ?_)
 unfold eqfS at hp ⊢
 split at hp
 · rename_i xs f ys g id _
   obtain ⟨rfl,⟨hL1,rs,rfl⟩,hL2,qs,rfl⟩ := hp
   rw [List.length_map] at hL1 hL2
   refine ⟨by simp,?_⟩
   have hlp : (rs.map rv).length = rs.length := by simp
   have hlq : (qs.map rv).length = qs.length := by simp
   unfold Try.f60
   by_cases hl : rs.length = qs.length
   · have d0 : decide ((rs.length : Int) = qs.length) = true := decide_eq_true (by omega)
     have hk : rs = qs ↔ ∀ j (h : j < rs.length) (h' : j < qs.length),rs[j] = qs[j] := ⟨fun h => by subst h; intros; rfl,fun h => List.ext_getElem hl h⟩
     simp only [go_sem,zaa,Nat.reduceAdd,Nat.reduceSub,Nat.reduceMul,Int.reduceToNat,reduceCtorEq,↓reduceIte,Int.reducePow,Nat.reducePow,Int.reduceMod,Nat.reduceLeDiff,Int.reduceLE,Int.reduceNe,Int.reduceEq,Nat.reduceEqDiff,Nat.reduceLT,Nat.reduceBEq,ty,Seqf,hlp,hlq,d0,zaj]
     refine zas ⟨fun m σ => ∃ i : Nat,m = rs.length - i ∧ i ≤ rs.length ∧ (∀ j (h : j < rs.length) (h' : j < qs.length),j < i → rs[j] = qs[j]) ∧
         σ = ⟨[.sg 6 (rs.map rv) f,.sg 6 (qs.map rv) g,.fn 61 [],.junk,.junk,.junk,.junk,.junk,.junk,.junk,.junk,.junk,.junk,.junk,.junk,.sg 6 (rs.map rv) f,.w (.int .i64 rs.length),.w (.int .i64 i),.junk,.junk,.junk,.junk,.junk,.junk,.junk,.junk,.junk,.junk,.junk,.junk,.junk,.junk],[],4⟩,?_,?_⟩
     · refine ⟨_,_,zab [0,1,2,3] rfl rfl rfl ?_ ?_,0,rfl,by omega,by intro j _ _ h; omega,rfl⟩
       · simp only [ssT,zae,zaf,setSlot,gOf,AV.ren,renL,Blk.ren,Ax.look,Ax.put,reduceCtorEq,↓reduceIte,Nat.reduceEqDiff,Nat.reduceLT,Nat.reduceAdd,List.length_append,List.length_cons,List.length_nil,Option.some.injEq]; simp
       · simp only [ssT,zae,zaf,setSlot,gOf,AV.ren,renL,Blk.ren,Ax.look,Ax.put,reduceCtorEq,↓reduceIte,Nat.reduceEqDiff,Nat.reduceLT,Nat.reduceAdd,List.length_append,List.length_cons,List.length_nil,Option.some.injEq]
     · rintro m σ ⟨i,rfl,hi,hall,rfl⟩
       by_cases hil : i < rs.length
       · have d1 : decide ((i : Int) < rs.length) = true := decide_eq_true (by omega)
         have e1 : ((i : Int) + 1 + 9223372036854775808) % 18446744073709551616 - 9223372036854775808 = ((i + 1 : Nat) : Int) := by omega
         have hiq : i < qs.length := by omega
         have hs1 := zbe rv rs i hil
         have hs2 := zbe rv qs i hiq
         obtain ⟨P,hP⟩ : ∃ P,rs[i] = P := ⟨_,rfl⟩
         obtain ⟨Q,hQ⟩ : ∃ Q,qs[i] = Q := ⟨_,rfl⟩
         rw [hP] at hs1
         rw [hQ] at hs2
         simp only [rv] at hs1 hs2
         have hsm := sameB_rec P Q
         by_cases ha : P = Q
         · have hsm2 : sameB P.d P.t P.k P.key P.dd P.val Q.d Q.t Q.k Q.key Q.dd Q.val = true := by rw [hsm]; exact decide_eq_true ha
           simp only [go_sem,zaa,Nat.reduceAdd,Nat.reduceSub,Nat.reduceMul,Int.reduceToNat,reduceCtorEq,↓reduceIte,Int.reducePow,Nat.reducePow,Int.reduceMod,Nat.reduceLeDiff,Int.reduceLE,Int.reduceNe,Int.reduceEq,Nat.reduceEqDiff,Nat.reduceLT,Nat.reduceBEq,ty,Seqf,rsameS,hlp,hlq,d1,hs1,hs2,e1,hsm2,Int.toNat_natCast]
           repeat (refine And.intro (by omega) ?_)
           refine ⟨rs.length - (i + 1),_,by omega,zab [0,1,2,3] rfl rfl rfl ?_ ?_,i + 1,rfl,by omega,?_,rfl⟩
           · simp only [ssT,zae,zaf,setSlot,gOf,AV.ren,renL,Blk.ren,Ax.look,Ax.put,reduceCtorEq,↓reduceIte,Nat.reduceEqDiff,Nat.reduceLT,Nat.reduceAdd,List.length_append,List.length_cons,List.length_nil,Option.some.injEq]
           · simp only [ssT,zae,zaf,setSlot,gOf,AV.ren,renL,Blk.ren,Ax.look,Ax.put,reduceCtorEq,↓reduceIte,Nat.reduceEqDiff,Nat.reduceLT,Nat.reduceAdd,List.length_append,List.length_cons,List.length_nil,Option.some.injEq]
           · intro j h h' hj
             rcases Nat.lt_or_ge j i with h2 | h2
             · exact hall j h h' h2
             · have : j = i := by omega
               subst this
               rw [hP,hQ]; exact ha
         · have hsm2 : sameB P.d P.t P.k P.key P.dd P.val Q.d Q.t Q.k Q.key Q.dd Q.val = false := by rw [hsm]; exact decide_eq_false ha
           have dr : decide (rs = qs) = false := decide_eq_false (fun h => ha (by rw [← hP,← hQ]; exact hk.1 h i hil hiq))
           simp only [go_sem,zaa,Nat.reduceAdd,Nat.reduceSub,Nat.reduceMul,Int.reduceToNat,reduceCtorEq,↓reduceIte,Int.reducePow,Nat.reducePow,Int.reduceMod,Nat.reduceLeDiff,Int.reduceLE,Int.reduceNe,Int.reduceEq,Nat.reduceEqDiff,Nat.reduceLT,Nat.reduceBEq,ty,Seqf,rsameS,hlp,hlq,d1,hs1,hs2,e1,hsm2,dr,zaj,Int.toNat_natCast]
           omega
       · have d1 : decide ((i : Int) < rs.length) = false := decide_eq_false (by omega)
         have dr : decide (rs = qs) = true := decide_eq_true (hk.2 fun j h h' => hall j h h' (by omega))
         simp only [go_sem,zaa,Nat.reduceAdd,Nat.reduceSub,Nat.reduceMul,Int.reduceToNat,reduceCtorEq,↓reduceIte,Int.reducePow,Nat.reducePow,Int.reduceMod,Nat.reduceLeDiff,Int.reduceLE,Int.reduceNe,Int.reduceEq,Nat.reduceEqDiff,Nat.reduceLT,Nat.reduceBEq,ty,Seqf,hlp,hlq,d1,dr,zaj]
   · have d0 : decide ((rs.length : Int) = qs.length) = false := decide_eq_false (by omega)
     have dr : decide (rs = qs) = false := decide_eq_false (fun h => hl (by rw [h]))
     simp only [go_sem,zaa,Nat.reduceAdd,Nat.reduceSub,Nat.reduceMul,Int.reduceToNat,reduceCtorEq,↓reduceIte,Int.reducePow,Nat.reducePow,Int.reduceMod,Nat.reduceLeDiff,Int.reduceLE,Int.reduceNe,Int.reduceEq,Nat.reduceEqDiff,Nat.reduceLT,Nat.reduceBEq,ty,Seqf,hlp,hlq,d0,dr,zaj]
 · exact hp.elim
end
end Go.Proofs.Ytlcijldkdpmknaa
namespace Go.Proofs.Ytlcijldkdpmknaa
open Ax
def bsame4 (b c p e s : Int) (rs : List Rec) (b' c' p' e' s' : Int) (qs : List Rec) : Bool := decide (b = b' ∧ c = c' ∧ p = p' ∧ e = e' ∧ s = s' ∧ rs = qs)
def bsameS4 : zam
 | [.agg [.w (.int .i64 b),.w (.int .i64 c),.w (.int .i64 p),.w (.int .i64 e),.w (.int .i64 s),.sg 6 xs f],.agg [.w (.int .i64 b'),.w (.int .i64 c'),.w (.int .i64 p'),.w (.int .i64 e'),.w (.int .i64 s'),.sg 6 ys g]],[] =>
     ⟨(xs.length ≤ 9223372036854775807 ∧ ∃ rs : List Rec,xs = rs.map rv) ∧ ys.length ≤ 9223372036854775807 ∧ ∃ qs : List Rec,ys = qs.map rv,
     .w (.bool (bsame4 b c p e s (xs.map rrec) b' c' p' e' s' (ys.map rrec))),[]⟩
 | _,_ => zay
def lightR (r : Rec) : Prop := r.key.length ≤ 200 ∧ r.val.length ≤ 700
instance (r : Rec) : Decidable (lightR r) := by unfold lightR; infer_instance
def blightS4 : zam
 | [.agg [.w (.int .i64 b),.w (.int .i64 c),.w (.int .i64 p),.w (.int .i64 e),.w (.int .i64 s),.sg 6 xs f]],[] => ⟨xs.length ≤ 9223372036854775807 ∧ ∃ rs : List Rec,xs = rs.map rv,
     .w (.bool (decide (xs.length ≤ 40 ∧ ∀ r ∈ xs.map rrec,lightR r))),[]⟩
 | _,_ => zay
def Sbsame4 (f : FuncId) : Option zam :=
 match f with
 | 60 => some eqfS
 | _ => none
theorem Sbsame4_ok : Fns Try.prog Sbsame4 := by
 intro f s h
 unfold Sbsame4 at h
 split at h
 · injection h with h; subst h; exact ⟨⟨_,Try.func60,by kernel_rfl,by kernel_rfl⟩,eqf_sound⟩
 · cases h
def zfn (f : FuncId) : Option zam :=
 match f with
 | 55 => some lightS
 | _ => none
theorem Sblight4_ok : Fns Try.prog zfn := by
 intro f s h
 unfold zfn at h
 split at h
 · injection h with h; subst h; exact ⟨⟨_,Try.func55,by kernel_rfl,by kernel_rfl⟩,light_sound⟩
 · cases h
section
set_option maxRecDepth 100000
set_option maxHeartbeats 1000000 in
theorem bsame4_sound : zaq Try.prog 45 bsameS4 := by
 refine zak (S := Sbsame4) (T := ty) zat ty_ok Sbsame4_ok Try.func45 (c := Try.f45.body.getD .skip) (by kernel_rfl) (by kernel_rfl) (fun xs pins hp _ => ?_)
 unfold bsameS4 at hp ⊢
 split at hp
 · rename_i b c p e s xs f b' c' p' e' s' ys g _
   obtain ⟨⟨hL1,rs,rfl⟩,hL2,qs,rfl⟩ := hp
   rw [List.length_map] at hL1 hL2
   refine ⟨by simp,?_⟩
   have hlp : (rs.map rv).length = rs.length := by simp
   have hlq : (qs.map rv).length = qs.length := by simp
   have hx1 : ∃ qs_1 : List Rec,rs.map rv = qs_1.map rv := ⟨rs,rfl⟩
   have hx2 : ∃ qs_1 : List Rec,qs.map rv = qs_1.map rv := ⟨qs,rfl⟩
   unfold Try.f45
   by_cases h1 : b = b'
   · have d1 : decide (b = b') = true := decide_eq_true h1
     by_cases h2 : c = c'
     · have d2 : decide (c = c') = true := decide_eq_true h2
       by_cases h3 : p = p'
       · have d3 : decide (p = p') = true := decide_eq_true h3
         by_cases h4 : e = e'
         · have d4 : decide (e = e') = true := decide_eq_true h4
           by_cases h5 : s = s'
           · have d5 : decide (s = s') = true := decide_eq_true h5
             have hc1 : coe ty 37 (.sg 6 (rs.map rv) f) = .sg 6 (rs.map rv) f := by cases rs <;> rfl
             have hc2 : coe ty 37 (.sg 6 (qs.map rv) g) = .sg 6 (qs.map rv) g := by cases qs <;> rfl
             have hv : bsame4 b c p e s rs b' c' p' e' s' qs = decide (rs = qs) := by unfold bsame4; simp [h1,h2,h3,h4,h5]
             simp only [go_sem,zaa,Nat.reduceAdd,Nat.reduceSub,Nat.reduceMul,Int.reduceToNat,reduceCtorEq,↓reduceIte,Int.reducePow,Nat.reducePow,Int.reduceMod,Nat.reduceLeDiff,Int.reduceLE,Int.reduceNe,Int.reduceEq,Nat.reduceEqDiff,Nat.reduceLT,Nat.reduceBEq,hc1,hc2,ty,Sbsame4,eqfS,hlp,hlq,hL1,hL2,hx1,hx2,zaj,d1,d2,d3,d4,d5,hv]
           · have d5 : decide (s = s') = false := decide_eq_false h5
             have hv : bsame4 b c p e s rs b' c' p' e' s' qs = false := decide_eq_false (fun h => h5 h.2.2.2.2.1)
             simp only [go_sem,zaa,Nat.reduceAdd,Nat.reduceSub,Nat.reduceMul,Int.reduceToNat,reduceCtorEq,↓reduceIte,Int.reducePow,Nat.reducePow,Int.reduceMod,Nat.reduceLeDiff,Int.reduceLE,Int.reduceNe,Int.reduceEq,Nat.reduceEqDiff,Nat.reduceLT,Nat.reduceBEq,ty,Sbsame4,zaj,d1,d2,d3,d4,d5,hv]
         · have d4 : decide (e = e') = false := decide_eq_false h4
           have hv : bsame4 b c p e s rs b' c' p' e' s' qs = false := decide_eq_false (fun h => h4 h.2.2.2.1)
           simp only [go_sem,zaa,Nat.reduceAdd,Nat.reduceSub,Nat.reduceMul,Int.reduceToNat,reduceCtorEq,↓reduceIte,Int.reducePow,Nat.reducePow,Int.reduceMod,Nat.reduceLeDiff,Int.reduceLE,Int.reduceNe,Int.reduceEq,Nat.reduceEqDiff,Nat.reduceLT,Nat.reduceBEq,ty,Sbsame4,zaj,d1,d2,d3,d4,hv]
       · have d3 : decide (p = p') = false := decide_eq_false h3
         have hv : bsame4 b c p e s rs b' c' p' e' s' qs = false := decide_eq_false (fun h => h3 h.2.2.1)
         simp only [go_sem,zaa,Nat.reduceAdd,Nat.reduceSub,Nat.reduceMul,Int.reduceToNat,reduceCtorEq,↓reduceIte,Int.reducePow,Nat.reducePow,Int.reduceMod,Nat.reduceLeDiff,Int.reduceLE,Int.reduceNe,Int.reduceEq,Nat.reduceEqDiff,Nat.reduceLT,Nat.reduceBEq,ty,Sbsame4,zaj,d1,d2,d3,hv]
     · have d2 : decide (c = c') = false := decide_eq_false h2
       have hv : bsame4 b c p e s rs b' c' p' e' s' qs = false := decide_eq_false (fun h => h2 h.2.1)
       simp only [go_sem,zaa,Nat.reduceAdd,Nat.reduceSub,Nat.reduceMul,Int.reduceToNat,reduceCtorEq,↓reduceIte,Int.reducePow,Nat.reducePow,Int.reduceMod,Nat.reduceLeDiff,Int.reduceLE,Int.reduceNe,Int.reduceEq,Nat.reduceEqDiff,Nat.reduceLT,Nat.reduceBEq,ty,Sbsame4,zaj,d1,d2,hv]
   · have d1 : decide (b = b') = false := decide_eq_false h1
     have hv : bsame4 b c p e s rs b' c' p' e' s' qs = false := decide_eq_false (fun h => h1 h.1)
     simp only [go_sem,zaa,Nat.reduceAdd,Nat.reduceSub,Nat.reduceMul,Int.reduceToNat,reduceCtorEq,↓reduceIte,Int.reducePow,Nat.reducePow,Int.reduceMod,Nat.reduceLeDiff,Int.reduceLE,Int.reduceNe,Int.reduceEq,Nat.reduceEqDiff,Nat.reduceLT,Nat.reduceBEq,ty,Sbsame4,zaj,d1,hv]
 · exact hp.elim
set_option maxHeartbeats 1000000 in
theorem blight4_sound : zaq Try.prog 36 blightS4 := by
 refine zak (S := zfn) (T := ty) zat ty_ok Sblight4_ok Try.func36 (c := Try.f36.body.getD .skip) (by kernel_rfl) (by kernel_rfl) (fun xs pins hp _ => ?_)
 unfold blightS4 at hp ⊢
 split at hp
 · rename_i b c p e s xs f _
   obtain ⟨hL,rs,rfl⟩ := hp
   have hl4 : (rs.map rv).length = rs.length := by simp
   rw [hl4] at hL
   refine ⟨by simp,?_⟩
   unfold Try.f36
   by_cases h40 : rs.length ≤ 40
   · have d0 : decide ((40 : Int) < rs.length) = false := decide_eq_false (by omega)
     simp only [go_sem,zaa,Nat.reduceAdd,Nat.reduceSub,Nat.reduceMul,Int.reduceToNat,reduceCtorEq,↓reduceIte,Int.reducePow,Nat.reducePow,Int.reduceMod,Nat.reduceLeDiff,Int.reduceLE,Int.reduceNe,Int.reduceEq,Nat.reduceEqDiff,Nat.reduceLT,Nat.reduceBEq,ty,zfn,hl4,d0,zaj]
     refine zas ⟨fun m σ => ∃ i : Nat,m = rs.length - i ∧ i ≤ rs.length ∧ (∀ j (h : j < rs.length),j < i → lightR rs[j]) ∧
         σ = ⟨[.agg [.w (.int .i64 b),.w (.int .i64 c),.w (.int .i64 p),.w (.int .i64 e),.w (.int .i64 s),.sg 6 (rs.map rv) f],.rf 4 6 0 0,.junk,.w (.int .i64 i),.junk,.junk,.junk,.junk,.junk,.junk,.junk,.junk,.junk,.junk,.junk,.junk,.junk,.junk,.junk,.junk,.junk,.junk],[(4,.g 6 [.agg [.w (.int .i64 b),.w (.int .i64 c),.w (.int .i64 p),.w (.int .i64 e),.w (.int .i64 s),.sg 6 (rs.map rv) f]])],5⟩,?_,?_⟩
     · refine ⟨_,_,zab [0,1,2,3,4] rfl rfl rfl ?_ ?_,0,rfl,by omega,by intro j _ h; omega,rfl⟩
       · simp only [ssT,zae,zaf,setSlot,gOf,AV.ren,renL,Blk.ren,Ax.look,Ax.put,reduceCtorEq,↓reduceIte,Nat.reduceEqDiff,Nat.reduceLT,Nat.reduceAdd,List.length_append,List.length_cons,List.length_nil,Option.some.injEq]; rfl
       · simp only [ssT,zae,zaf,setSlot,gOf,AV.ren,renL,Blk.ren,Ax.look,Ax.put,reduceCtorEq,↓reduceIte,Nat.reduceEqDiff,Nat.reduceLT,Nat.reduceAdd,List.length_append,List.length_cons,List.length_nil,Option.some.injEq]
     · rintro m σ ⟨i,rfl,hi,hall,rfl⟩
       have e1 : ((i : Int) + 1 + 9223372036854775808) % 18446744073709551616 - 9223372036854775808 = ((i + 1 : Nat) : Int) := by omega
       by_cases hil : i < rs.length
       · have d1 : decide ((i : Int) < rs.length) = true := decide_eq_true (by omega)
         have hs1 := zbe rv rs i hil
         obtain ⟨P,hP⟩ : ∃ P,rs[i] = P := ⟨_,rfl⟩
         rw [hP] at hs1
         simp only [rv] at hs1
         by_cases ha : P.key.length ≤ 200 ∧ P.val.length ≤ 700
         · have d2 : decide (P.key.length ≤ 200 ∧ P.val.length ≤ 700) = true := decide_eq_true ha
           simp only [go_sem,zaa,Nat.reduceAdd,Nat.reduceSub,Nat.reduceMul,Int.reduceToNat,reduceCtorEq,↓reduceIte,Int.reducePow,Nat.reducePow,Int.reduceMod,Nat.reduceLeDiff,Int.reduceLE,Int.reduceNe,Int.reduceEq,Nat.reduceEqDiff,Nat.reduceLT,Nat.reduceBEq,ty,zfn,lightS,hl4,d1,d2,hs1,e1,Int.toNat_natCast]
           repeat (refine And.intro (by omega) ?_)
           refine ⟨rs.length - (i + 1),_,by omega,zab [0,1,2,3,4] rfl rfl rfl ?_ ?_,i + 1,rfl,by omega,?_,rfl⟩
           · simp only [ssT,zae,zaf,setSlot,gOf,AV.ren,renL,Blk.ren,Ax.look,Ax.put,reduceCtorEq,↓reduceIte,Nat.reduceEqDiff,Nat.reduceLT,Nat.reduceAdd,List.length_append,List.length_cons,List.length_nil,Option.some.injEq]
           · simp only [ssT,zae,zaf,setSlot,gOf,AV.ren,renL,Blk.ren,Ax.look,Ax.put,reduceCtorEq,↓reduceIte,Nat.reduceEqDiff,Nat.reduceLT,Nat.reduceAdd,List.length_append,List.length_cons,List.length_nil,Option.some.injEq]
           · intro j h hj
             rcases Nat.lt_or_ge j i with h2 | h2
             · exact hall j h h2
             · have : j = i := by omega
               subst this
               rw [hP]; exact ha
         · have d2 : decide (P.key.length ≤ 200 ∧ P.val.length ≤ 700) = false := decide_eq_false ha
           have dr : decide (rs.length ≤ 40 ∧ ∀ r ∈ rs,lightR r) = false := decide_eq_false (fun h => ha (h.2 P (hP ▸ List.getElem_mem hil)))
           simp only [go_sem,zaa,Nat.reduceAdd,Nat.reduceSub,Nat.reduceMul,Int.reduceToNat,reduceCtorEq,↓reduceIte,Int.reducePow,Nat.reducePow,Int.reduceMod,Nat.reduceLeDiff,Int.reduceLE,Int.reduceNe,Int.reduceEq,Nat.reduceEqDiff,Nat.reduceLT,Nat.reduceBEq,ty,zfn,lightS,hl4,d1,d2,hs1,e1,dr,zaj,Int.toNat_natCast]
           omega
       · have d1 : decide ((i : Int) < rs.length) = false := decide_eq_false (by omega)
         have dr : decide (rs.length ≤ 40 ∧ ∀ r ∈ rs,lightR r) = true := decide_eq_true ⟨h40,fun r hr => by
           obtain ⟨j,hj,rfl⟩ := List.getElem_of_mem hr
           exact hall j hj (by omega)⟩
         simp only [go_sem,zaa,Nat.reduceAdd,Nat.reduceSub,Nat.reduceMul,Int.reduceToNat,reduceCtorEq,↓reduceIte,Int.reducePow,Nat.reducePow,Int.reduceMod,Nat.reduceLeDiff,Int.reduceLE,Int.reduceNe,Int.reduceEq,Nat.reduceEqDiff,Nat.reduceLT,Nat.reduceBEq,ty,zfn,hl4,d1,dr,zaj]
   · have d0 : decide ((40 : Int) < rs.length) = true := decide_eq_true (by omega)
     have dr : decide (rs.length ≤ 40 ∧ ∀ r ∈ rs,lightR r) = false := decide_eq_false (fun h => h40 h.1)
     simp only [go_sem,zaa,Nat.reduceAdd,Nat.reduceSub,Nat.reduceMul,Int.reduceToNat,reduceCtorEq,↓reduceIte,Int.reducePow,Nat.reducePow,Int.reduceMod,Nat.reduceLeDiff,Int.reduceLE,Int.reduceNe,Int.reduceEq,Nat.reduceEqDiff,Nat.reduceLT,Nat.reduceBEq,ty,zfn,hl4,d0,dr,zaj]
 · exact hp.elim
end
end Go.Proofs.Ytlcijldkdpmknaa
namespace Go.Proofs.Ytlcijldkdpmknaa
open Ax
def bvp (p : Bat × Bool) : AV := bav p.1 p.2
def ubat : AV → Bat
 | .agg [.w (.int _ b),.w (.int _ c),.w (.int _ p),.w (.int _ e),.w (.int _ s),.sg 6 xs _] => ⟨b,c,p,e,s,xs.map rrec⟩
 | _ => ⟨0,0,0,0,0,[]⟩
theorem ubat_bvp (p : Bat × Bool) : ubat (bvp p) = p.1 := by
 obtain ⟨⟨b,c,q,e,s,rs⟩,f⟩ := p
 unfold bvp bav ubat
 simp only [zaj]
theorem zaz (l : List (Bat × Bool)) : (l.map bvp).map ubat = l.map Prod.fst := by
 rw [List.map_map]; exact List.map_congr_left (fun p _ => ubat_bvp p)
theorem zbb : ∀ (l : List (Bat × Bool)) (i : Nat) (h : i < l.length),slot (l.map bvp) i = bvp l[i]
 | _ :: _,0,_ => rfl
 | _ :: r,i + 1,h => by
   simp only [List.map_cons,slot,List.getElem_cons_succ]
   exact zbb r i (by simpa using h)
theorem closed_bvp : ∀ (G : List (Bat × Bool)),closedL (G.map bvp) = true
 | [] => rfl
 | x :: r => by simp only [List.map_cons,closedL,bvp,bav,AV.closed,Bool.true_and]; exact closed_bvp r
theorem ren_bvp (g : Nat → Nat) : ∀ (G : List (Bat × Bool)),renL g (G.map bvp) = G.map bvp
 | [] => rfl
 | x :: r => by simp only [List.map_cons,renL,ren_bvp g r]; rfl
def offB (x : Bat) : Bat × Bool := (x,false)
def bfr (l : List Bat) : List AV := (l.map offB).map bvp
theorem ren_bfr (g : Nat → Nat) (l : List Bat) : renL g (bfr l) = bfr l := ren_bvp g _
theorem closed_bfr (l : List Bat) : closedL (bfr l) = true := closed_bvp _
theorem len_bfr (l : List Bat) : (bfr l).length = l.length := by simp [bfr]
theorem bfr_snoc (l : List Bat) (x : Bat) : bfr (l ++ [x]) = bfr l ++ [bav x false] := by simp [bfr,offB,bvp]
theorem bfr_nil : bfr [] = [] := rfl
theorem ubat_bfr (l : List Bat) : (bfr l).map ubat = l := by
 unfold bfr; rw [zaz,List.map_map]; exact List.map_id _
instance batDec : DecidableEq Bat := fun a b => decidable_of_iff (a.b = b.b ∧ a.c = b.c ∧ a.p = b.p ∧ a.e = b.e ∧ a.s = b.s ∧ a.rs = b.rs) (by cases a; cases b; simp)
def lightB (b : Bat) : Prop := b.rs.length ≤ 40 ∧ ∀ r ∈ b.rs,lightR r
instance (b : Bat) : Decidable (lightB b) := by unfold lightB; infer_instance
def isBs (xs : List AV) : Prop := ∃ es : List (Bat × Bool),xs = es.map bvp ∧ ∀ p ∈ es,p.1.rs.length ≤ 9223372036854775807
def lallS : zam
 | [.sg 6 xs f,.w (.int .i64 n)],[] => ⟨xs.length ≤ 9223372036854775807 ∧ isBs xs,.w (.bool (decide ((xs.length : Int) ≤ n ∧ ∀ b ∈ xs.map ubat,lightB b))),[]⟩
 | _,_ => zay
def Slall (f : FuncId) : Option zam :=
 match f with
 | 36 => some blightS4
 | _ => none
theorem Slall_ok : Fns Try.prog Slall := by
 intro f s h
 unfold Slall at h
 split at h
 · injection h with h; subst h; exact ⟨⟨_,Try.func36,by kernel_rfl,by kernel_rfl⟩,blight4_sound⟩
 · cases h
section
set_option maxRecDepth 100000
set_option maxHeartbeats 2000000 in
theorem lall_sound : zaq Try.prog 19 lallS := by
 refine zak (S := Slall) (T := ty) zat ty_ok Slall_ok Try.func19 (c := Try.f19.body.getD .skip) (by kernel_rfl) (by kernel_rfl) (fun xs pins hp _ => ?_)
 unfold lallS at hp ⊢
 split at hp
 · rename_i xs f n _
   obtain ⟨hL,es,rfl,he⟩ := hp
   rw [List.length_map] at hL
   refine ⟨by simp,?_⟩
   have hlp : (es.map bvp).length = es.length := by simp
   rw [hlp,zaz]
   unfold Try.f19
   by_cases h40 : n < es.length
   · have d0 : decide (n < (es.length : Int)) = true := decide_eq_true h40
     have dr : decide ((es.length : Int) ≤ n ∧ ∀ b ∈ es.map Prod.fst,lightB b) = false := decide_eq_false (by rintro ⟨h1,_⟩; omega)
     simp only [go_sem,zaa,Nat.reduceAdd,Nat.reduceSub,Nat.reduceMul,Int.reduceToNat,reduceCtorEq,↓reduceIte,Int.reducePow,Nat.reducePow,Int.reduceMod,Nat.reduceLeDiff,Int.reduceLE,Int.reduceNe,Int.reduceEq,Nat.reduceEqDiff,Nat.reduceLT,Nat.reduceBEq,ty,Slall,hlp,d0,dr]
   · have d0 : decide (n < (es.length : Int)) = false := decide_eq_false h40
     simp only [go_sem,zaa,Nat.reduceAdd,Nat.reduceSub,Nat.reduceMul,Int.reduceToNat,reduceCtorEq,↓reduceIte,Int.reducePow,Nat.reducePow,Int.reduceMod,Nat.reduceLeDiff,Int.reduceLE,Int.reduceNe,Int.reduceEq,Nat.reduceEqDiff,Nat.reduceLT,Nat.reduceBEq,ty,Slall,hlp,d0]
     refine zas ⟨fun m σ => ∃ i : Nat,m = es.length - i ∧ i ≤ es.length ∧ (∀ j (h : j < es.length),j < i → lightB es[j].1) ∧
         σ = ⟨[.sg 6 (es.map bvp) f,.w (.int .i64 n),.junk,.junk,.junk,.w (.int .i64 i),.junk,.junk,.junk,.junk,.junk,.junk,.junk,.junk,.junk,.junk,.junk,.junk,.junk,.junk,.junk,.junk],[],4⟩,?_,?_⟩
     · refine ⟨_,_,zab [0,1,2,3] rfl rfl rfl ?_ ?_,0,rfl,by omega,by intro j _ h; omega,rfl⟩
       · simp only [ssT,zae,zaf,setSlot,gOf,AV.ren,renL,Blk.ren,Ax.look,Ax.put,reduceCtorEq,↓reduceIte,Nat.reduceEqDiff,Nat.reduceLT,Nat.reduceAdd,List.length_append,List.length_cons,List.length_nil,Option.some.injEq]; try simp
       · simp only [ssT,zae,zaf,setSlot,gOf,AV.ren,renL,Blk.ren,Ax.look,Ax.put,reduceCtorEq,↓reduceIte,Nat.reduceEqDiff,Nat.reduceLT,Nat.reduceAdd,List.length_append,List.length_cons,List.length_nil,Option.some.injEq]
     · rintro m σ ⟨i,rfl,hi,hall,rfl⟩
       by_cases hil : i < es.length
       · have e1 : ((i : Int) + 1 + 9223372036854775808) % 18446744073709551616 - 9223372036854775808 = ((i + 1 : Nat) : Int) := by omega
         have d1 : decide ((i : Int) < es.length) = true := decide_eq_true (by omega)
         have hs1 := zbb es i hil
         have m1 := he es[i] (List.getElem_mem hil)
         obtain ⟨P,hP⟩ : ∃ P,es[i] = P := ⟨_,rfl⟩
         rw [hP] at hs1 m1
         obtain ⟨⟨b,c,p,e,s,rs⟩,f'⟩ := P
         have hs1 : slot (es.map bvp) i = .agg [.w (.int .i64 b),.w (.int .i64 c),.w (.int .i64 p),.w (.int .i64 e),.w (.int .i64 s),.sg 6 (rs.map rv) f'] := hs1
         simp only at m1
         have n1 : (rs.map rv).length ≤ 9223372036854775807 := by rw [List.length_map]; exact m1
         have x1 : ∃ k : List Rec,rs.map rv = k.map rv := ⟨rs,rfl⟩
         have r1 := zaj rs
         have hlr : (rs.map rv).length = rs.length := by simp
         by_cases ha : rs.length ≤ 40 ∧ ∀ r ∈ rs,lightR r
         · have d2 : decide (rs.length ≤ 40 ∧ ∀ r ∈ rs,lightR r) = true := decide_eq_true ha
           simp only [go_sem,zaa,Nat.reduceAdd,Nat.reduceSub,Nat.reduceMul,Int.reduceToNat,reduceCtorEq,↓reduceIte,Int.reducePow,Nat.reducePow,Int.reduceMod,Nat.reduceLeDiff,Int.reduceLE,Int.reduceNe,Int.reduceEq,Nat.reduceEqDiff,Nat.reduceLT,Nat.reduceBEq,ty,Slall,blightS4,hlp,hlr,d1,d2,hs1,e1,m1,x1,r1,Int.toNat_natCast]
           repeat (refine And.intro (by omega) ?_)
           refine ⟨es.length - (i + 1),_,by omega,zab [0,1,2,3] rfl rfl rfl ?_ ?_,i + 1,rfl,by omega,?_,rfl⟩
           · simp only [ssT,zae,zaf,setSlot,gOf,AV.ren,renL,Blk.ren,Ax.look,Ax.put,reduceCtorEq,↓reduceIte,Nat.reduceEqDiff,Nat.reduceLT,Nat.reduceAdd,List.length_append,List.length_cons,List.length_nil,Option.some.injEq]
           · simp only [ssT,zae,zaf,setSlot,gOf,AV.ren,renL,Blk.ren,Ax.look,Ax.put,reduceCtorEq,↓reduceIte,Nat.reduceEqDiff,Nat.reduceLT,Nat.reduceAdd,List.length_append,List.length_cons,List.length_nil,Option.some.injEq]
           · intro j h hj
             rcases Nat.lt_or_ge j i with h2 | h2
             · exact hall j h h2
             · have : j = i := by omega
               subst this
               rw [hP]; exact ha
         · have d2 : decide (rs.length ≤ 40 ∧ ∀ r ∈ rs,lightR r) = false := decide_eq_false ha
           have dr : decide ((es.length : Int) ≤ n ∧ ∀ b ∈ es.map Prod.fst,lightB b) = false := decide_eq_false (by
             rintro ⟨_,h2⟩
             have := h2 es[i].1 (List.mem_map.2 ⟨_,List.getElem_mem hil,rfl⟩)
             rw [hP] at this; exact ha this)
           simp only [go_sem,zaa,Nat.reduceAdd,Nat.reduceSub,Nat.reduceMul,Int.reduceToNat,reduceCtorEq,↓reduceIte,Int.reducePow,Nat.reducePow,Int.reduceMod,Nat.reduceLeDiff,Int.reduceLE,Int.reduceNe,Int.reduceEq,Nat.reduceEqDiff,Nat.reduceLT,Nat.reduceBEq,ty,Slall,blightS4,hlp,hlr,d1,d2,dr,hs1,e1,m1,x1,r1,Int.toNat_natCast]
           try omega
       · have d1 : decide ((i : Int) < es.length) = false := decide_eq_false (by omega)
         have dr : decide ((es.length : Int) ≤ n ∧ ∀ b ∈ es.map Prod.fst,lightB b) = true := decide_eq_true ⟨by omega,fun b hb => by
           obtain ⟨p,hp,rfl⟩ := List.mem_map.1 hb
           obtain ⟨j,hj,rfl⟩ := List.getElem_of_mem hp
           exact hall j hj (by omega)⟩
         simp only [go_sem,zaa,Nat.reduceAdd,Nat.reduceSub,Nat.reduceMul,Int.reduceToNat,reduceCtorEq,↓reduceIte,Int.reducePow,Nat.reducePow,Int.reduceMod,Nat.reduceLeDiff,Int.reduceLE,Int.reduceNe,Int.reduceEq,Nat.reduceEqDiff,Nat.reduceLT,Nat.reduceBEq,ty,Slall,hlp,d1,dr]
 · exact hp.elim
end
end Go.Proofs.Ytlcijldkdpmknaa
namespace Go.Proofs.Ytlcijldkdpmknaa
open Ax
def gb1 (bs : List UInt8) (e : Int) := rfixL 1 bs e
def ge1 (bs : List UInt8) (e : Int) := rfixE 1 bs e
def gd (bs : List UInt8) (e : Int) : Int := numN (gb1 bs e) (ge1 bs e)
section
set_option maxRecDepth 100000
set_option maxHeartbeats 2000000 in
end
end Go.Proofs.Ytlcijldkdpmknaa
namespace Go.Proofs.Ytlcijldkdpmknaa
open Ax
theorem w1 : rchk 1 5 true [107] false [118] = 0 := by decide
theorem w2 : rchk 1 5 true [107] true [] = 0 := by decide
theorem w4 : recB 1 5 true [107] true [] = [3,2,10,2,107] := by
 simp [recB,w2,recL,flagI,textL,putU,zz]
theorem w6 : gd [1,2,10,2,107,2,118] 0 = 1 := by decide +kernel
section
set_option maxRecDepth 100000
set_option maxHeartbeats 1000000 in
end
end Go.Proofs.Ytlcijldkdpmknaa
namespace Go.Proofs.Ytlcijldkdpmknaa
namespace Ax
theorem idsL_get {xs : List AV} (j : Nat) (hj : j < xs.length) {id : Nat} (h : id ∈ xs[j].ids) : id ∈ idsL xs := by
 induction xs generalizing j with
 | nil => simp at hj
 | cons x r ih =>
   simp only [idsL,List.mem_append]
   cases j with
   | zero => exact .inl h
   | succ j => exact .inr (ih j (by simpa using hj) h)
def Loc.only (loc : Loc) (F : List Nat) : Loc :=
 { m := fun id => if id ∈ F then loc.m id else .free,bad := fun b => loc.bad b ∨ ∃ id,id ∉ F ∧ loc.m id = .here b }
theorem zfk {loc : Loc} {F : List Nat} {id : Nat} (h : id ∈ F) : (loc.only F).m id = loc.m id := by simp [Loc.only,h]
theorem only_n {loc : Loc} {F : List Nat} {id : Nat} (h : id ∉ F) : (loc.only F).m id = .free := by simp [Loc.only,h]
theorem only_mut {loc : Loc} {F : List Nat} {b : Nat} : Mut (loc.only F) b ↔ Mut loc b := by
 constructor
 · rintro ((h | ⟨id,_,h⟩) | ⟨id,h⟩)
   · exact .inl h
   · exact .inr ⟨id,h⟩
   · by_cases hF : id ∈ F
     · rw [zfk hF] at h; exact .inr ⟨id,h⟩
     · rw [only_n hF] at h; cases h
 · rintro (h | ⟨id,h⟩)
   · exact .inl (.inl h)
   · by_cases hF : id ∈ F
     · exact .inr ⟨id,by rw [zfk hF]; exact h⟩
     · exact .inl (.inr ⟨id,hF,h⟩)
theorem R.agree {w : World} {loc loc' : Loc} (hM : ∀ b,b < w.heap.size → Mut loc' b → Mut loc b) {x : AV} {v : Value} (h : R w loc x v) (hq : ∀ id ∈ x.ids,loc.m id ≠ .free → loc'.m id = loc.m id) : R w loc' x v := by
 induction h with
 | w v h => exact .w v h
 | str bs => exact .str bs
 | agg xs cs hl hx _ ih => exact .agg xs cs hl hx fun j h1 h2 => ih j h1 h2 fun id hid => hq id (by simp only [AV.ids]; exact idsL_get j h1 hid)
 | tup xs cs hl _ ih => exact .tup xs cs hl fun j h1 h2 => ih j h1 h2 fun id hid => hq id (by simp only [AV.ids]; exact idsL_get j h1 hid)
 | sb bs full a cap hd hc => exact .sb bs full a cap hd (hc.move hM)
 | si ns full a cap hd hc => exact .si ns full a cap hd (hc.move hM)
 | sg s xs full a cap cs hd hs hc hl hx h1 ih => exact .sg s xs full a cap cs hd hs (hc.move hM) hl hx fun j h2 h3 => (h1 j h2 h3).move hM (hx j h2).2
 | cp ls a cs hc hn hl hx h1 ih => exact .cp ls a cs (hc.move hM) hn hl hx fun j h2 h3 => (h1 j h2 h3).move hM (hx j h2).2
 | ms id s off len v h =>
   have hf : loc.m id ≠ .free := by intro e; simp [Owns,e] at h
   have e := hq id (by simp [AV.ids]) hf
   refine .ms id s off len v ?_
   unfold Owns at h ⊢
   rw [e]; exact h
 | rf id s i f v h =>
   have hf : loc.m id ≠ .free := by intro e; simp [Points,e] at h
   have e := hq id (by simp [AV.ids]) hf
   refine .rf id s i f v ?_
   unfold Points at h ⊢
   rw [e]; exact h
 | fn f caps cs hl _ ih => exact .fn f caps cs hl fun j h1 h2 => ih j h1 h2 fun id hid => hq id (by simp only [AV.ids]; exact idsL_get j h1 hid)
 | junk v => exact .junk v
theorem R.only {w : World} {loc : Loc} {F : List Nat} {x : AV} {v : Value} (h : R w loc x v) (hq : ∀ id ∈ x.ids,id ∈ F) : R w (loc.only F) x v :=
 h.agree (fun b _ hb => only_mut.1 hb) fun id hid _ => zfk (hq id hid)
theorem BlkR.only {w : World} {loc : Loc} {F : List Nat} {id : Nat} {blk : Blk} (h : BlkR w loc id blk) (hF : id ∈ F) (hq : ∀ k ∈ idsL blk.flat,k ∈ F) : BlkR w (loc.only F) id blk := by
 unfold BlkR at h ⊢
 rw [zfk hF]
 split
 · trivial
 · rename_i e; rw [e] at h; exact h
 · rename_i e; rw [e] at h; exact h
 · rename_i b e
   rw [e] at h
   obtain ⟨hok,hl⟩ := h
   rcases zbr blk with ⟨x,hx,rfl⟩ | hodd
   · exact ⟨hok,.mkO (Thing.move (fun b _ hb => only_mut.1 hb) (hl.is hx)) hx⟩
   obtain ⟨cur,el,fz,h1,h2,h3,h4,h5⟩ := hl.lies hodd
   exact ⟨hok,.mkC ⟨cur,el,fz,h1,h2,h3,h4,fun j hj hj' => ⟨(h5 j hj hj').1,(h5 j hj hj').2.only fun k hk => hq k (idsL_get j hj hk)⟩⟩ hodd⟩
def Loc.back (loc loc' : Loc) (F : List Nat) (nm : Nat) : Loc :=
 { m := fun id => if id ∈ F ∨ (nm ≤ id ∧ id < nm + 8) then loc'.m id else loc.m id,bad := loc.bad }
section
variable {w0 : World} {E : Nat → Prop} {w : World} {loc : Loc} {F : List Nat} {nm : Nat}
def InF (loc : Loc) (F : List Nat) (b : Nat) : Prop := ∃ id,id ∈ F ∧ loc.m id = .here b
theorem Env.only (he : Env w0 E w loc) : Env w (InF loc F) w (loc.only F) := by
 refine ⟨rfl,rfl,rfl,Nat.le_refl _,fun _ _ _ => rfl,?_,?_,?_⟩
 · intro i j b hi hj
   by_cases h1 : i ∈ F
   · by_cases h2 : j ∈ F
     · rw [zfk h1] at hi; rw [zfk h2] at hj
       exact he.inj i j b hi hj
     · rw [only_n h2] at hj; cases hj
   · rw [only_n h1] at hi; cases hi
 · intro i b hi
   by_cases h1 : i ∈ F
   · rw [zfk h1] at hi
     exact ⟨(he.lies i b hi).1,.inr ⟨i,h1,hi⟩⟩
   · rw [only_n h1] at hi; cases hi
 · rintro b (hb | ⟨id,hF,hb⟩)
   · obtain ⟨h1,h2⟩ := he.bad b hb
     refine ⟨Nat.lt_of_lt_of_le h1 he.size,?_⟩
     rintro ⟨id,_,hid⟩
     rcases (he.lies id b hid).2 with h3 | h3
     · omega
     · exact h2 h3
   · refine ⟨(he.lies id b hb).1,?_⟩
     rintro ⟨k,hk,hkb⟩
     exact hF (he.inj k id b hkb hb ▸ hk)
theorem Post.frame (he : Env w0 E w loc) (hfree : ∀ id,nm ≤ id → id < nm + 8 → loc.m id = .free) {wr : Bool} {x : AV} {H : Heap} {v : Value} {w' : World} {loc' : Loc}
   (hH : ∀ id b,look H id = some b → id ∈ F ∨ (nm ≤ id ∧ id < nm + 8)) (hp : Post w (InF loc F) w (loc.only F) wr nm x H v w' loc') :
   Post w0 E w loc wr nm x H v w' (loc.back loc' F nm) ∧ ∃ C : Nat → Prop,Ext C w loc w' (loc.back loc' F nm) ∧ (wr = false → ∀ id,¬ C id) ∧ ∀ id,C id → id ∈ F := by
 have hin : ∀ id,(id ∈ F ∨ (nm ≤ id ∧ id < nm + 8)) → (loc.back loc' F nm).m id = loc'.m id := fun id h => by simp [Loc.back,h]
 have hout : ∀ id,¬ (id ∈ F ∨ (nm ≤ id ∧ id < nm + 8)) → (loc.back loc' F nm).m id = loc.m id := fun id h => by simp only [Loc.back]; rw [if_neg h]
 have hnew : ∀ id,loc'.m id ≠ .free → id ∈ F ∨ (nm ≤ id ∧ id < nm + 8) := by
   intro id h
   by_cases hF : id ∈ F
   · exact .inl hF
   · exact .inr (hp.fresh id (only_n hF) h)
 have hseen : ∀ b,loc.bad b → ¬ InF loc F b := by
   rintro b hb ⟨id,_,hid⟩
   obtain ⟨h1,h2⟩ := he.bad b hb
   rcases (he.lies id b hid).2 with h3 | h3
   · omega
   · exact h2 h3
 have hmut : ∀ b,Mut (loc.back loc' F nm) b → Mut loc' b := by
   rintro b (hb | ⟨id,hid⟩)
   · refine .inl ?_
     rw [hp.bad]; exact .inl hb
   · by_cases h : id ∈ F ∨ (nm ≤ id ∧ id < nm + 8)
     · rw [hin id h] at hid; exact .inr ⟨id,hid⟩
     · rw [hout id h] at hid
       exact .inl (by rw [hp.bad]; exact .inr ⟨id,fun hF => h (.inl hF),hid⟩)
 have hr : ∀ {y : AV} {u : Value},R w' loc' y u → R w' (loc.back loc' F nm) y u := fun h => h.agree (fun b _ => hmut b) fun id _ hf => hin id (hnew id hf)
 have henv : Env w0 E w' (loc.back loc' F nm) := by
   refine ⟨hp.env.os.trans he.os,hp.env.tape.trans he.tape,hp.env.output.trans he.output,Nat.le_trans he.size hp.env.size,?_,?_,?_,?_⟩
   · intro b hb hE
     rw [hp.env.same b (Nat.lt_of_lt_of_le hb he.size) ?_]
     · exact he.same b hb hE
     · rintro ⟨id,_,hid⟩
       rcases (he.lies id b hid).2 with h3 | h3
       · omega
       · exact hE h3
   · have hcross : ∀ i j b,(i ∈ F ∨ (nm ≤ i ∧ i < nm + 8)) → ¬ (j ∈ F ∨ (nm ≤ j ∧ j < nm + 8)) → loc'.m i = .here b → loc.m j = .here b → False := by
       intro i j b _ hj h1 h2
       have hbad : loc'.bad b := by rw [hp.bad]; exact .inr ⟨j,fun hF => hj (.inl hF),h2⟩
       obtain ⟨h3,h4⟩ := hp.env.bad b hbad
       rcases (hp.env.lies i b h1).2 with h5 | h5
       · omega
       · exact h4 h5
     intro i j b hi hj
     by_cases h1 : i ∈ F ∨ (nm ≤ i ∧ i < nm + 8)
     · rw [hin i h1] at hi
       by_cases h2 : j ∈ F ∨ (nm ≤ j ∧ j < nm + 8)
       · rw [hin j h2] at hj
         exact hp.env.inj i j b hi hj
       · rw [hout j h2] at hj
         exact (hcross i j b h1 h2 hi hj).elim
     · rw [hout i h1] at hi
       by_cases h2 : j ∈ F ∨ (nm ≤ j ∧ j < nm + 8)
       · rw [hin j h2] at hj
         exact (hcross j i b h2 h1 hj hi).elim
       · rw [hout j h2] at hj
         exact he.inj i j b hi hj
   · intro i b hi
     by_cases h1 : i ∈ F ∨ (nm ≤ i ∧ i < nm + 8)
     · rw [hin i h1] at hi
       obtain ⟨h2,h3⟩ := hp.env.lies i b hi
       refine ⟨h2,?_⟩
       rcases h3 with h3 | ⟨k,_,hk⟩
       · exact .inl (Nat.le_trans he.size h3)
       · exact (he.lies k b hk).2
     · rw [hout i h1] at hi
       obtain ⟨h2,h3⟩ := he.lies i b hi
       exact ⟨Nat.lt_of_lt_of_le h2 hp.env.size,h3⟩
   · intro b hb; exact he.bad b hb
 have hext : ∃ C : Nat → Prop,Ext C w loc w' (loc.back loc' F nm) ∧ (wr = false → ∀ id,¬ C id) ∧ ∀ id,C id → id ∈ F := by
   obtain ⟨C,hE,hC⟩ := hp.ext
   have hnr : ∀ id,loc.m id ≠ .free → id ∉ F → ¬ (id ∈ F ∨ (nm ≤ id ∧ id < nm + 8)) := by
     rintro id h1 h2 (h3 | h3)
     · exact h2 h3
     · exact h1 (hfree id h3.1 h3.2)
   have hhid : ∀ id b,loc.m id = .here b → id ∉ F → w'.heap[b]? = w.heap[b]? := by
     intro id b h1 h2
     refine hp.env.same b (he.lies id b h1).1 ?_
     rintro ⟨k,hk,hkb⟩
     exact h2 (he.inj k id b hkb h1 ▸ hk)
   refine ⟨fun id => C id ∧ id ∈ F,⟨hE.size,?_,?_,?_,?_,?_⟩,fun h id hc => hC h id hc.1,fun id hc => hc.2⟩
   · intro id hf hc
     by_cases hF : id ∈ F
     · rw [hin id (.inl hF)]
       have := hE.keep id (by rw [zfk hF]; exact hf) (fun h => hc ⟨h,hF⟩)
       rw [this,zfk hF]
     · exact hout id (hnr id hf hF)
   · rintro id hf ⟨hc,hF⟩
     rw [hin id (.inl hF)]
     have := hE.gone id (by rw [zfk hF]; exact hf) hc
     rw [zfk hF] at this
     exact this
   · intro b hb hm
     obtain ⟨h1,h2⟩ := hE.imm b hb (fun h => hm (only_mut.1 h))
     exact ⟨h1,fun h => h2 (hmut b h)⟩
   · intro id b hb hc
     by_cases hF : id ∈ F
     · exact hE.own id b (by rw [zfk hF]; exact hb) (fun h => hc ⟨h,hF⟩)
     · exact hhid id b hb hF
   · intro b cur e fz hh
     exact hE.shape b cur e fz hh
 refine ⟨⟨hr hp.r,?_,henv,?_,?_,rfl⟩,hext⟩
 · intro id blk hl
   have h0 := hH id blk hl
   have h1 := hp.h id blk hl
   unfold BlkR at h1 ⊢
   rw [hin id h0]
   split
   · trivial
   · rename_i e; rw [e] at h1; exact h1
   · rename_i e; rw [e] at h1; exact h1
   · rename_i b e
     rw [e] at h1
     obtain ⟨hok,hl1⟩ := h1
     rcases zbr blk with ⟨x,hx,rfl⟩ | hodd
     · exact ⟨hok,.mkO (Thing.move (fun b _ hb => hmut b hb) (hl1.is hx)) hx⟩
     obtain ⟨cur,el,fz,a1,a2,a3,a4,a5⟩ := hl1.lies hodd
     exact ⟨hok,.mkC ⟨cur,el,fz,a1,a2,a3,a4,fun j hj hj' => ⟨(a5 j hj hj').1,hr (a5 j hj hj').2⟩⟩ hodd⟩
 · obtain ⟨C,h1,h2,_⟩ := hext
   exact ⟨C,h1,h2⟩
 · intro id hf hn
   by_cases h : id ∈ F ∨ (nm ≤ id ∧ id < nm + 8)
   · rcases h with h | h
     · rw [hin id (.inl h)] at hn
       exact hp.fresh id (by rw [zfk h]; exact hf) hn
     · exact h
   · rw [hout id h] at hn; exact (hn hf).elim
end
end Ax
end Go.Proofs.Ytlcijldkdpmknaa
namespace Go.Proofs.Ytlcijldkdpmknaa
namespace Ax
def Blk.ids : Blk → List Nat
 | .g _ xs => idsL xs
 | _ => []
def keepIn (F : List Nat) : Heap → Heap
 | [] => []
 | (k,b) :: r => bif F.contains k then (k,b) :: keepIn F r else keepIn F r
def dropIn (F : List Nat) : Heap → Heap
 | [] => []
 | (k,b) :: r => bif F.contains k then dropIn F r else (k,b) :: dropIn F r
def bids : Heap → List Nat
 | [] => []
 | (_,b) :: r => b.ids ++ bids r
def footA (sl : List AV) (op : Op) : List Nat := idsL (op.operands.toList.map (ev sl))
def foot (sl : List AV) (op : Op) (H : Heap) : List Nat := footA sl op ++ bids (keepIn (footA sl op) H)
def heldB (nm : Nat) (F : List Nat) (H : Heap) : Bool := F.all (fun id => bif (look H id).isSome then true else decide (id < nm)) && (bids (keepIn F H)).all F.contains
def aopF (S : zal) (T : zac) (nm : Nat) (sl : List AV) (op : Op) (H : Heap) : Out :=
 ⟨heldB nm (foot sl op H) H = true ∧ (aop S T nm sl op (keepIn (foot sl op H) H)).p,(aop S T nm sl op (keepIn (foot sl op H) H)).x,(aop S T nm sl op (keepIn (foot sl op H) H)).H ++ dropIn (foot sl op H) H⟩
theorem zev (A B : Heap) (id : Nat) : look (A ++ B) id = match look A id with | some b => some b | none => look B id := by
 induction A with
 | nil => rfl
 | cons p r ih =>
   obtain ⟨k,b⟩ := p
   simp only [List.cons_append,look]
   by_cases h : k = id
   · rw [if_pos h,if_pos h]
   · rw [if_neg h,if_neg h,ih]
theorem zdi (F : List Nat) (H : Heap) (id : Nat) : look (keepIn F H) id = if id ∈ F then look H id else none := by
 induction H with
 | nil => simp [keepIn,look]
 | cons p r ih =>
   obtain ⟨k,b⟩ := p
   by_cases hk : k ∈ F
   · simp only [keepIn,List.contains_iff_mem.2 hk,cond_true,look]
     by_cases h : k = id
     · subst h; simp [hk]
     · simp [h,ih]
   · have : F.contains k = false := by simpa using hk
     simp only [keepIn,this,cond_false,look,ih]
     by_cases h : k = id
     · subst h; simp [hk]
     · simp [h]
theorem zdj (F : List Nat) (H : Heap) (id : Nat) : look (dropIn F H) id = if id ∈ F then none else look H id := by
 induction H with
 | nil => simp [dropIn,look]
 | cons p r ih =>
   obtain ⟨k,b⟩ := p
   by_cases hk : k ∈ F
   · simp only [dropIn,List.contains_iff_mem.2 hk,cond_true,look,ih]
     by_cases h : k = id
     · subst h; simp [hk]
     · simp [h]
   · have : F.contains k = false := by simpa using hk
     simp only [dropIn,this,cond_false,look]
     by_cases h : k = id
     · subst h; simp [hk]
     · simp [h,ih]
theorem mem_bids {H : Heap} {id : Nat} {b : Blk} (h : look H id = some b) {k : Nat} (hk : k ∈ b.ids) : k ∈ bids H := by
 induction H with
 | nil => simp [look] at h
 | cons p r ih =>
   obtain ⟨q,c⟩ := p
   simp only [look] at h
   simp only [bids,List.mem_append]
   split at h
   · injection h with h; subst h; exact .inl hk
   · exact .inr (ih h)
theorem leaves_ids : ∀ (x : AV) (k : Nat),k ∈ idsL x.leaves → k ∈ x.ids := by
 intro x k h
 cases x <;> simp [AV.leaves,AV.ids,idsL] at h ⊢ <;> first | exact h | skip
theorem idsL_append (xs ys : List AV) : idsL (xs ++ ys) = idsL xs ++ idsL ys := by
 induction xs with
 | nil => rfl
 | cons x r ih => simp [idsL,ih]
theorem flat_ids {b : Blk} {k : Nat} (h : k ∈ idsL b.flat) : k ∈ b.ids := by
 cases b with
 | o x => simp [Blk.flat,idsL] at h
 | b bs =>
   exfalso
   simp only [Blk.flat] at h
   induction bs with
   | nil => simp [idsL] at h
   | cons x r ih => simp [idsL,AV.ids] at h; exact ih (by simpa using h)
 | i ns =>
   exfalso
   simp only [Blk.flat] at h
   induction ns with
   | nil => simp [idsL] at h
   | cons x r ih => simp [idsL,AV.ids] at h; exact ih (by simpa using h)
 | g s xs =>
   simp only [Blk.flat,Blk.ids] at h ⊢
   induction xs with
   | nil => simp [idsL] at h
   | cons x r ih =>
     simp only [List.flatMap_cons,idsL_append,List.mem_append,idsL] at h ⊢
     exact h.imp (leaves_ids x k) ih
section
variable {S : zal} {T : zac} {nm : Nat} {sl : List AV} {op : Op} {H : Heap}
theorem held_in (h : heldB nm (foot sl op H) H = true) {id : Nat} (hF : id ∈ foot sl op H) : look H id ≠ none ∨ id < nm := by
 simp only [heldB,Bool.and_eq_true,List.all_eq_true] at h
 have := h.1 id hF
 by_cases e : look H id = none
 · rw [e] at this; exact .inr (by simpa using this)
 · exact .inl e
theorem aopF_facts (hp : (aopF S T nm sl op H).p) :
   (∀ id b,look (aopF S T nm sl op H).H id = some b → look H id ≠ none ∨ (nm ≤ id ∧ id < nm + 8)) ∧
   (∀ id,(zah T op ≤ 1 ∨ id ∉ foot sl op H) → ¬ (nm ≤ id ∧ id < nm + 8) → look (aopF S T nm sl op H).H id = look H id) ∧
   (zah T op = 0 → ∀ id,look (aopF S T nm sl op H).H id = look H id) := by
 obtain ⟨hh,hp⟩ := hp
 have hn := hnew_aop hp
 have hk := fun (h : zah T op ≤ 1) => hok_aop h hp
 have hz : zah T op = 0 → (aop S T nm sl op (keepIn (foot sl op H) H)).H = keepIn (foot sl op H) H := fun h => (pu_aop (H := keepIn (foot sl op H) H) h hp).2.2
 simp only [aopF]
 generalize foot sl op H = F at hh hp hn hk hz ⊢
 generalize aop S T nm sl op (keepIn F H) = out at hp hn hk hz ⊢
 refine ⟨fun id b h => ?_,fun id h hr => ?_,fun h id => ?_⟩
 · rw [zev] at h
   cases h1 : look out.H id with
   | some c =>
     rcases hn id c h1 with h2 | h2
     · rw [zdi] at h2
       split at h2
       · exact .inl h2
       · exact (h2 rfl).elim
     · exact .inr h2
   | none =>
     simp only [h1,zdj] at h
     split at h
     · cases h
     · exact .inl (by rw [h]; simp)
 · rw [zev]
   by_cases hF : id ∈ F
   · have h := h.resolve_right (fun h => h hF)
     have h1 := hk h id hr
     rw [h1,zdi,if_pos hF,zdj,if_pos hF]
     cases look H id <;> rfl
   · have h1 : look out.H id = none := by
       cases h1 : look out.H id with
       | none => rfl
       | some c =>
         rcases hn id c h1 with h2 | h2
         · rw [zdi,if_neg hF] at h2; exact (h2 rfl).elim
         · exact (hr h2).elim
     simp [h1,zdj,hF]
 · rw [zev,hz h,zdi,zdj]
   by_cases hF : id ∈ F
   · rw [if_pos hF,if_pos hF]
     cases look H id <;> rfl
   · rw [if_neg hF,if_neg hF]
theorem operand_ids {x : Operand} (hx : x ∈ op.operands.toList) {id : Nat} (h : id ∈ (ev sl x).ids) : id ∈ foot sl op H := by
 unfold foot footA
 refine List.mem_append_left _ ?_
 obtain ⟨j,hj,e⟩ := List.mem_iff_getElem.1 hx
 exact idsL_get j (by simpa using hj) (by simpa [e] using h)
theorem aopF_sound {P : Program} {w0 : World} {E : Nat → Prop} {w : World} {loc : Loc} (hT : TOk P T) (hS : Fns P S) (he : Env w0 E w loc) (hh : ∀ id b,id ∈ foot sl op H → look H id = some b → BlkR w loc id b) (hfree : ∀ id,nm ≤ id → id < nm + 8 → loc.m id = .free) {a : Act} {o : Oper} (ho : o.op = op)
   (hev : ∀ x ∈ op.operands.toList,R w loc (ev sl x) (a.eval x)) (hp : (aopF S T nm sl op H).p) (next : Act → World → Prop) (Q : Exit → Act → World → Prop)
   (hn : ∀ v w' loc' wr,Post w0 E w loc wr nm (aopF S T nm sl op H).x (aop S T nm sl op (keepIn (foot sl op H) H)).H v w' loc' → (∃ C : Nat → Prop,Ext C w loc w' loc' ∧ (zah T op ≤ 1 → ∀ id,¬ C id) ∧ ∀ id,C id → id ∈ foot sl op H) → next (a.put o.dst v) w') : o.wp P a w next Q := by
 subst ho
 obtain ⟨hheld,hp⟩ := hp
 have hheld' : ∀ k,k ∈ bids (keepIn (foot sl o.op H) H) → k ∈ foot sl o.op H := by
   intro k hk
   simp only [heldB,Bool.and_eq_true,List.all_eq_true] at hheld
   exact List.contains_iff_mem.1 (hheld.2 k hk)
 have hHR : HR w (loc.only (foot sl o.op H)) (keepIn (foot sl o.op H) H) := by
   intro id b hl
   have hl' := hl
   rw [zdi] at hl
   split at hl
   · rename_i hF
     exact (hh id b hF hl).only hF fun k hk => hheld' k (mem_bids hl' (flat_ids hk))
   · cases hl
 refine zdx hT hS he.only hHR (fun id h1 h2 => ?_) o (fun x hx => (hev x hx).only fun id hid => operand_ids hx hid) hp next Q (fun v w' loc' hpost => ?_)
 · by_cases hF : id ∈ foot sl o.op H
   · rw [zfk hF]; exact hfree id h1 h2
   · exact only_n hF
 · have hids : ∀ id b,look (aop S T nm sl o.op (keepIn (foot sl o.op H) H)).H id = some b → id ∈ foot sl o.op H ∨ (nm ≤ id ∧ id < nm + 8) := by
     intro id b hl
     rcases hnew_aop hp id b hl with h | h
     · rw [zdi] at h
       split at h
       · rename_i hF; exact .inl hF
       · exact (h rfl).elim
     · exact .inr h
   obtain ⟨h1,C,h2,h3,h4⟩ := Post.frame he hfree hids hpost
   exact hn v w' _ _ h1 ⟨C,h2,fun hk => h3 (kind_wr hk hp),h4⟩
end
end Ax
end Go.Proofs.Ytlcijldkdpmknaa
namespace Go.Proofs.Ytlcijldkdpmknaa
namespace Ax
def clashS (ops : List Oper) (x y : Oper) : Bool :=
 (match x.dst with
  | some d => (y.looksAt ops.toArray).contains d || y.dst == some d
  | none => false) ||
 (match y.dst with
  | some d => (x.looksAt ops.toArray).contains d
  | none => false)
def clashM (T : zac) (x y : Oper) : Bool :=
 (decide (zah T x.op = 2) && !decide (zah T y.op = 0)) || (decide (zah T y.op = 2) && !decide (zah T x.op = 0))
def drawOkF (T : zac) (ops : List Oper) (pl : List (Nat × Nat)) : Bool :=
 let ms := masks [] ops
 (List.range ops.length).all fun j => match ops[j]? with
   | some y => backB j y.after.toList && (List.range j).all fun i => match ops[i]? with
     | some x => (!clashS ops x y || (ms.getD j 0).testBit i) && (!clashM T x y || ((ms.getD j 0).testBit i || pl.contains (i,j)))
     | none => true
   | none => true
def clearOf (a b : Nat × List Nat) : Bool := b.2.all fun id => !a.2.contains id && (decide (id < a.1) || decide (a.1 + 8 ≤ id))
def memOk (pl : List (Nat × Nat)) (acc : List (Nat × List Nat)) : Bool := pl.all fun p => match acc[p.1]?,acc[p.2]? with
 | some a,some b => clearOf a b
 | _,_ => false
def zdw (S : zal) (T : zac) (ops : List Oper) (pl : List (Nat × Nat)) (nm : Nat) (acc : List (Nat × List Nat)) : List Oper → List AV → Heap → (List AV → Heap → Prop) → Prop
 | [],sl,H,Q => memOk pl acc = true ∧ Q sl H
 | o :: r,sl,H,Q => match o.guard with
   | none => (aopF S T nm sl o.op H).p ∧ zdw S T ops pl (nm + 8) (acc ++ [(nm,foot sl o.op H)]) r (zan sl o.dst (aopF S T nm sl o.op H).x) (aopF S T nm sl o.op H).H Q
   | some (j,want) => match guardSlot ops j with
     | none => False
     | some d => match slot sl d with
       | .w (.bool b) =>
         (b = want → (aopF S T nm (setSlot sl d (.w (.bool want))) o.op H).p ∧
           zdw S T ops pl (nm + 8) (acc ++ [(nm,foot (setSlot sl d (.w (.bool want))) o.op H)]) r (zan (setSlot sl d (.w (.bool want))) o.dst (aopF S T nm (setSlot sl d (.w (.bool want))) o.op H).x) (aopF S T nm (setSlot sl d (.w (.bool want))) o.op H).H Q) ∧
         (b = !want → zdw S T ops pl (nm + 8) (acc ++ [(nm,[])]) r (zan (setSlot sl d (.w (.bool !want))) o.dst (.tup [])) H Q)
       | .tup [] => zdw S T ops pl (nm + 8) (acc ++ [(nm,[])]) r (zan sl o.dst (.tup [])) H Q
       | _ => False
def zbu (S : zal) (T : zac) (ops : List Oper) (nm : Nat) (o : Oper) (s : List AV × Heap) : Prop × (List AV × Heap) × List Nat :=
 match o.guard with
 | none => ((aopF S T nm s.1 o.op s.2).p,(zan s.1 o.dst (aopF S T nm s.1 o.op s.2).x,(aopF S T nm s.1 o.op s.2).H),foot s.1 o.op s.2)
 | some (j,want) => match guardSlot ops j with
   | none => (False,s,[])
   | some d => match slot s.1 d with
     | .w (.bool b) => if b = want then ((aopF S T nm s.1 o.op s.2).p,(zan s.1 o.dst (aopF S T nm s.1 o.op s.2).x,(aopF S T nm s.1 o.op s.2).H),foot s.1 o.op s.2) else (True,(zan s.1 o.dst (.tup []),s.2),[])
     | .tup [] => (True,(zan s.1 o.dst (.tup []),s.2),[])
     | _ => (False,s,[])
def zai (S : zal) (T : zac) (ops : List Oper) (nm : Nat) (s0 : List AV × Heap) : Nat → List AV × Heap
 | 0 => s0
 | k + 1 => match ops[k]? with
   | some o => (zbu S T ops (nm + 8 * k) o (zai S T ops nm s0 k)).2.1
   | none => zai S T ops nm s0 k
def ftF (S : zal) (T : zac) (ops : List Oper) (nm : Nat) (s0 : List AV × Heap) (j : Nat) : List Nat := match ops[j]? with
 | some o => (zbu S T ops (nm + 8 * j) o (zai S T ops nm s0 j)).2.2
 | none => []
theorem aopsF_trace {S : zal} {T : zac} {l : List Oper} {pl : List (Nat × Nat)} {nm : Nat} {s0 : List AV × Heap} {Q : List AV → Heap → Prop} : ∀ (r : List Oper) (k : Nat),(∀ j,r[j]? = l[k + j]?) → k + r.length = l.length →
   zdw S T l pl (nm + 8 * k) ((List.range k).map fun j => (nm + 8 * j,ftF S T l nm s0 j)) r (zai S T l nm s0 k).1 (zai S T l nm s0 k).2 Q →
   (Q (zai S T l nm s0 l.length).1 (zai S T l nm s0 l.length).2 ∧ memOk pl ((List.range l.length).map fun j => (nm + 8 * j,ftF S T l nm s0 j)) = true) ∧ ∀ j o,k ≤ j → l[j]? = some o → (zbu S T l (nm + 8 * j) o (zai S T l nm s0 j)).1
 | [],k,hr,hl,h => by
   simp at hl
   subst hl
   refine ⟨⟨h.2,h.1⟩,fun j o hj ho => ?_⟩
   rw [List.getElem?_eq_none hj] at ho; cases ho
 | o :: r,k,hr,hl,h => by
   have ho : l[k]? = some o := by simpa using (hr 0).symm
   have hr' : ∀ j,r[j]? = l[k + 1 + j]? := fun j => by have := hr (j + 1); simpa [Nat.add_assoc,Nat.add_comm 1 j] using this
   have hl' : k + 1 + r.length = l.length := by simp at hl; omega
   have hmain : (zbu S T l (nm + 8 * k) o (zai S T l nm s0 k)).1 ∧ zdw S T l pl (nm + 8 * (k + 1)) ((List.range (k + 1)).map fun j => (nm + 8 * j,ftF S T l nm s0 j)) r (zai S T l nm s0 (k + 1)).1 (zai S T l nm s0 (k + 1)).2 Q := by
     have e : zai S T l nm s0 (k + 1) = (zbu S T l (nm + 8 * k) o (zai S T l nm s0 k)).2.1 := by simp only [zai,ho]
     have e2 : ((List.range (k + 1)).map fun j => (nm + 8 * j,ftF S T l nm s0 j)) = ((List.range k).map fun j => (nm + 8 * j,ftF S T l nm s0 j)) ++ [(nm + 8 * k,(zbu S T l (nm + 8 * k) o (zai S T l nm s0 k)).2.2)] := by
       rw [List.range_succ,List.map_append]
       simp only [List.map_cons,List.map_nil,ftF,ho]
     rw [e,e2,show nm + 8 * (k + 1) = nm + 8 * k + 8 by omega]
     generalize ((List.range k).map fun j => (nm + 8 * j,ftF S T l nm s0 j)) = acc at h ⊢
     generalize zai S T l nm s0 k = s at h ⊢
     unfold zdw at h
     unfold zbu
     cases hg : o.guard with
     | none => simp only [hg] at h ⊢; exact h
     | some g =>
       obtain ⟨j,want⟩ := g
       simp only [hg] at h ⊢
       cases hgs : guardSlot l j with
       | none => simp only [hgs] at h
       | some d =>
         simp only [hgs] at h ⊢
         split at h
         · rename_i b hsd
           try simp only [hsd]
           have hsame : ∀ b',b = b' → setSlot s.1 d (.w (.bool b')) = s.1 := by
             rintro b' rfl
             have := zfh s.1 d
             rw [hsd] at this; exact this
           by_cases hbw : b = want
           · have h := h.1 hbw
             rw [hsame _ hbw] at h
             rw [if_pos hbw]; exact h
           · have hb2 : b = !want := by cases b <;> cases want <;> simp_all
             have h := h.2 hb2
             rw [hsame _ hb2] at h
             rw [if_neg hbw]; exact ⟨trivial,h⟩
         · rename_i hsd
           try simp only [hsd]
           exact ⟨trivial,h⟩
         · exact h.elim
   obtain ⟨h1,h2⟩ := aopsF_trace r (k + 1) hr' hl' hmain.2
   refine ⟨h1,fun j o' hj ho' => ?_⟩
   rcases Nat.lt_or_ge k j with h' | h'
   · exact h2 j o' h' ho'
   · obtain rfl : j = k := by omega
     rw [ho] at ho'; injection ho' with ho'; subst ho'
     exact hmain.1
section
variable {S : zal} {T : zac} {l : List Oper} {nm : Nat} {s0 : List AV × Heap}
theorem zcq {k : Nat} {o : Oper} {s : List AV × Heap} (hp : (zbu S T l (nm + 8 * k) o s).1) :
   (∃ x,(zbu S T l (nm + 8 * k) o s).2.1.1 = zan s.1 o.dst x) ∧
   (∀ id b,look (zbu S T l (nm + 8 * k) o s).2.1.2 id = some b → look s.2 id ≠ none ∨ (nm + 8 * k ≤ id ∧ id < nm + 8 * k + 8)) ∧
   (∀ id,(zah T o.op ≤ 1 ∨ id ∉ (zbu S T l (nm + 8 * k) o s).2.2) → ¬ (nm + 8 * k ≤ id ∧ id < nm + 8 * k + 8) → look (zbu S T l (nm + 8 * k) o s).2.1.2 id = look s.2 id) ∧
   (zah T o.op = 0 → ∀ id,look (zbu S T l (nm + 8 * k) o s).2.1.2 id = look s.2 id) ∧
   (∀ id,id ∈ (zbu S T l (nm + 8 * k) o s).2.2 → look s.2 id ≠ none ∨ id < nm + 8 * k) := by
 have hheld : (aopF S T (nm + 8 * k) s.1 o.op s.2).p → ∀ id,id ∈ foot s.1 o.op s.2 → look s.2 id ≠ none ∨ id < nm + 8 * k := fun hp id hid => held_in hp.1 hid
 have hskip : ∀ id b,look s.2 id = some b → look s.2 id ≠ none ∨ (nm + 8 * k ≤ id ∧ id < nm + 8 * k + 8) := fun id b h => .inl (by rw [h]; simp)
 unfold zbu at hp ⊢
 cases hg : o.guard with
 | none =>
   simp only [hg] at hp ⊢
   obtain ⟨h1,h2,h3⟩ := aopF_facts hp
   exact ⟨⟨_,rfl⟩,h1,h2,h3,hheld hp⟩
 | some g =>
   obtain ⟨j,want⟩ := g
   simp only [hg] at hp ⊢
   cases hgs : guardSlot l j with
   | none => simp [hgs] at hp
   | some d =>
     simp only [hgs] at hp ⊢
     cases hsd : slot s.1 d with
     | w v =>
       cases v with
       | bool b =>
         simp only [hsd] at hp ⊢
         by_cases hbw : b = want
         · rw [if_pos hbw] at hp ⊢
           obtain ⟨h1,h2,h3⟩ := aopF_facts hp
           exact ⟨⟨_,rfl⟩,h1,h2,h3,hheld hp⟩
         · rw [if_neg hbw] at hp ⊢
           exact ⟨⟨_,rfl⟩,hskip,fun _ _ _ => by first | rfl | trivial,fun _ _ => by first | rfl | trivial,fun id h => by simp at h⟩
       | _ => simp [hsd] at hp
     | tup xs =>
       cases xs with
       | nil =>
         simp only [hsd] at hp ⊢
         exact ⟨⟨_,rfl⟩,hskip,fun _ _ _ => by first | rfl | trivial,fun _ _ => by first | rfl | trivial,fun id h => by simp at h⟩
       | cons _ _ => simp [hsd] at hp
     | _ => simp [hsd] at hp
variable (hst : ∀ j o,l[j]? = some o → (zbu S T l (nm + 8 * j) o (zai S T l nm s0 j)).1)
include hst
theorem zcc (k : Nat) : (zai S T l nm s0 k).1.length = s0.1.length := by
 induction k with
 | zero => rfl
 | succ k ih =>
   simp only [zai]
   split
   · rename_i o ho
     obtain ⟨⟨x,hx⟩,_⟩ := zcq (hst k o ho)
     rw [hx,zdm,ih]
   · exact ih
theorem traceF_slot {t : Tmp} {i k : Nat} (hik : i ≤ k) (h : ∀ j o,i ≤ j → j < k → l[j]? = some o → o.dst ≠ some t) : slot (zai S T l nm s0 k).1 t = slot (zai S T l nm s0 i).1 t := by
 induction k with
 | zero => obtain rfl : i = 0 := by omega
           rfl
 | succ k ih =>
   by_cases hk : i = k + 1
   · rw [hk]
   · rw [← ih (by omega) (fun j o h1 h2 h3 => h j o h1 (by omega) h3)]
     simp only [zai]
     split
     · rename_i o ho
       obtain ⟨⟨x,hx⟩,_⟩ := zcq (hst k o ho)
       rw [hx]
       have := h k o (by omega) (by omega) ho
       cases hd : o.dst with
       | none => rfl
       | some d => exact zbt (fun e => this (by rw [hd,e]))
     · rfl
theorem zbs (h0 : ∀ id b,look s0.2 id = some b → id < nm) : ∀ k id b,look (zai S T l nm s0 k).2 id = some b → id < nm + 8 * k
 | 0,id,b,h => by simpa using h0 id b h
 | k + 1,id,b,h => by
   simp only [zai] at h
   split at h
   · rename_i o ho
     obtain ⟨_,hn,_⟩ := zcq (hst k o ho)
     rcases hn id b h with h' | h'
     · cases h2 : look (zai S T l nm s0 k).2 id with
       | none => exact (h' h2).elim
       | some c => have := zbs h0 k id c h2; omega
     · omega
   · have := zbs h0 k id b h; omega
theorem traceF_back {id i k : Nat} (hik : i ≤ k) {b : Blk} (hl : look (zai S T l nm s0 k).2 id = some b) :
   look (zai S T l nm s0 i).2 id ≠ none ∨ ∃ j o,i ≤ j ∧ j < k ∧ l[j]? = some o ∧ zah T o.op ≠ 0 ∧ nm + 8 * j ≤ id ∧ id < nm + 8 * j + 8 := by
 induction k generalizing b with
 | zero => obtain rfl : i = 0 := by omega
           exact .inl (by rw [hl]; simp)
 | succ k ih =>
   by_cases hk : i = k + 1
   · subst hk; exact .inl (by rw [hl]; simp)
   · simp only [zai] at hl
     split at hl
     · rename_i o ho
       obtain ⟨_,hn,_,h0,_⟩ := zcq (hst k o ho)
       by_cases hz : zah T o.op = 0
       · rw [h0 hz] at hl
         rcases ih (by omega) hl with h | ⟨j,o,h1,h2,h3⟩
         · exact .inl h
         · exact .inr ⟨j,o,h1,by omega,h3⟩
       rcases hn id b hl with h' | h'
       · cases h2 : look (zai S T l nm s0 k).2 id with
         | none => exact (h' h2).elim
         | some c =>
           rcases ih (by omega) h2 with h | ⟨j,o,h1,h2,h3⟩
           · exact .inl h
           · exact .inr ⟨j,o,h1,by omega,h3⟩
       · exact .inr ⟨k,o,by omega,by omega,ho,hz,h'⟩
     · rcases ih (by omega) hl with h | ⟨j,o,h1,h2,h3⟩
       · exact .inl h
       · exact .inr ⟨j,o,h1,by omega,h3⟩
theorem traceF_keep {id i k : Nat} (hik : i ≤ k) (hn : ∀ j o,i ≤ j → j < k → l[j]? = some o → (zah T o.op ≤ 1 ∨ id ∉ ftF S T l nm s0 j) ∧ (zah T o.op = 0 ∨ ¬ (nm + 8 * j ≤ id ∧ id < nm + 8 * j + 8))) :
   look (zai S T l nm s0 k).2 id = look (zai S T l nm s0 i).2 id := by
 induction k with
 | zero => obtain rfl : i = 0 := by omega
           rfl
 | succ k ih =>
   by_cases hk : i = k + 1
   · rw [hk]
   · rw [← ih (by omega) (fun j o h1 h2 h3 => hn j o h1 (by omega) h3)]
     simp only [zai]
     split
     · rename_i o ho
       obtain ⟨_,_,h1,h0,_⟩ := zcq (hst k o ho)
       obtain ⟨h2,h3⟩ := hn k o (by omega) (by omega) ho
       rcases h3 with h3 | h3
       · rw [h0 h3]
       · refine h1 id ?_ h3
         simpa only [ftF,ho] using h2
     · rfl
end
section
variable {P : Program} {S : zal} {T : zac} {l : List Oper} {nm : Nat} {s0 : List AV × Heap} {w0 : World} {E : Nat → Prop} {B : Bs}
structure InvF (S : zal) (T : zac) (l : List Oper) (nm : Nat) (s0 : List AV × Heap) (w0 : World) (E : Nat → Prop) (B : Bs) (listed : Array Bool) (a : Act) (w : World) (loc : Loc) : Prop where
 sizel : listed.size = l.length
 size : a.tmps.size = s0.1.length
 slots : ∀ t k,k ≤ l.length → (∀ i o,l[i]? = some o → o.dst = some t → (Ls listed i ↔ i < k)) → R w loc (slot (zai S T l nm s0 k).1 t) (a.tmps.getD t undef)
 heap : ∀ id k,k ≤ l.length → (∀ i o,l[i]? = some o → zah T o.op = 2 → id ∈ ftF S T l nm s0 i → (Ls listed i ↔ i < k)) → ∀ b,look (zai S T l nm s0 k).2 id = some b → BlkR w loc id b
 closed : ∀ j o,l[j]? = some o → Ls listed j → ∀ e ∈ o.after.toList,Region.binds .any e = true → Ls listed e.on
 fresh : ∀ i,¬ Ls listed i → i < l.length → ∀ id,nm + 8 * i ≤ id → id < nm + 8 * i + 8 → loc.m id = .free
 high : ∀ id,nm + 8 * l.length ≤ id → loc.m id = .free
 env : Env w0 E w loc
 base : Base w0 B w loc
 defers : a.defers = []
structure GoodF (S : zal) (T : zac) (l : List Oper) (nm : Nat) (s0 : List AV × Heap) : Prop where
 back : ∀ j o,l[j]? = some o → ∀ e ∈ o.after.toList,Region.binds .any e = true → e.on < j
 clash : ∀ i j x y,i < j → l[i]? = some x → l[j]? = some y → clashS l x y = true → ((masks [] l).getD j 0).testBit i = true
 mem : ∀ i j x y,i < j → l[i]? = some x → l[j]? = some y → clashM T x y = true → ∀ id,id ∈ ftF S T l nm s0 j → id ∈ ftF S T l nm s0 i ∨ (nm + 8 * i ≤ id ∧ id < nm + 8 * i + 8) → ((masks [] l).getD j 0).testBit i = true
theorem goodF_of {pl : List (Nat × Nat)} (h : drawOkF T l pl = true) (hm : memOk pl ((List.range l.length).map fun j => (nm + 8 * j,ftF S T l nm s0 j)) = true) : GoodF S T l nm s0 := by
 unfold drawOkF at h
 have h := List.all_eq_true.1 h
 have hlt : ∀ {j : Nat} {o : Oper},l[j]? = some o → j < l.length := fun h => (List.getElem?_eq_some_iff.1 h).1
 have hboth : ∀ i j x y,i < j → l[i]? = some x → l[j]? = some y → (clashS l x y = true → ((masks [] l).getD j 0).testBit i = true) ∧ (clashM T x y = true → ((masks [] l).getD j 0).testBit i = true ∨ (i,j) ∈ pl) := by
   intro i j x y hij hx hy
   have := h j (List.mem_range.2 (hlt hy))
   simp only [hy,Bool.and_eq_true] at this
   have := List.all_eq_true.1 this.2 i (List.mem_range.2 hij)
   simp only [hx,Bool.and_eq_true,Bool.or_eq_true,Bool.not_eq_true',List.contains_iff_mem] at this
   refine ⟨fun hc => this.1.resolve_left (by rw [hc]; simp),fun hc => this.2.resolve_left (by rw [hc]; simp)⟩
 refine ⟨fun j o ho => ?_,fun i j x y hij hx hy hc => (hboth i j x y hij hx hy).1 hc,fun i j x y hij hx hy hc id hid hor => ?_⟩
 · have := h j (List.mem_range.2 (hlt ho))
   simp only [ho,Bool.and_eq_true] at this
   exact backB_get this.1
 · rcases (hboth i j x y hij hx hy).2 hc with h1 | h1
   · exact h1
   · exfalso
     have := List.all_eq_true.1 hm (i,j) h1
     simp only [List.getElem?_map,List.getElem?_range (hlt hx),List.getElem?_range (hlt hy),Option.map_some] at this
     simp only [clearOf,List.all_eq_true,Bool.and_eq_true,Bool.not_eq_true',Bool.or_eq_true,decide_eq_true_eq] at this
     obtain ⟨h2,h3⟩ := this id hid
     rcases hor with h4 | h4
     · rw [List.contains_iff_mem.2 h4] at h2; cases h2
     · omega
theorem clashS_dst {x y : Oper} {d : Tmp} (hd : x.dst = some d) (h : d ∈ y.looksAt l.toArray ∨ y.dst = some d) : clashS l x y = true := by
 unfold clashS
 rw [hd]
 rcases h with h | h
 · simp [h]
 · simp [h]
theorem clashS_look {x y : Oper} {d : Tmp} (hd : y.dst = some d) (h : d ∈ x.looksAt l.toArray) : clashS l x y = true := by
 unfold clashS
 rw [hd]
 simp [h]
theorem clashM_kind {x y : Oper} (h : (zah T x.op = 2 ∧ zah T y.op ≠ 0) ∨ (zah T y.op = 2 ∧ zah T x.op ≠ 0)) : clashM T x y = true := by
 unfold clashM
 rcases h with ⟨h1,h2⟩ | ⟨h1,h2⟩
 · simp [h1,h2]
 · simp [h1,h2]
variable {listed : Array Bool} {a : Act} {w : World} {loc : Loc} {i : Nat} {o : Oper}
theorem lookF_now (hg : GoodF S T l nm s0) (inv : InvF S T l nm s0 w0 E B listed a w loc) (ho : l[i]? = some o) (hnl : ¬ Ls listed i) (hrd : ∀ e ∈ o.after.toList,Region.binds .any e = true → Ls listed e.on) {t : Tmp} (ht : t ∈ o.looksAt l.toArray) :
   R w loc (slot (zai S T l nm s0 i).1 t) (a.tmps.getD t undef) := by
 have hlt : i < l.length := (List.getElem?_eq_some_iff.1 ho).1
 refine inv.slots t i (by omega) (fun j x hx hd => ⟨fun hl => ?_,fun hji => ?_⟩)
 · rcases Nat.lt_trichotomy j i with h | h | h
   · exact h
   · subst h; exact (hnl hl).elim
   · exact (hnl (zbi hg.back inv.closed _ j i (Nat.lt_succ_self _) (hg.clash i j o x h ho hx (clashS_look hd ht)) x hx (inv.closed j x hx hl))).elim
 · exact zbi hg.back inv.closed _ i j (Nat.lt_succ_self _) (hg.clash j i x o hji hx ho (clashS_dst hd (.inl ht))) o ho hrd
theorem heapF_now (hg : GoodF S T l nm s0) (inv : InvF S T l nm s0 w0 E B listed a w loc) (ho : l[i]? = some o) (hnl : ¬ Ls listed i) (hrd : ∀ e ∈ o.after.toList,Region.binds .any e = true → Ls listed e.on) (hk : zah T o.op ≠ 0) {id : Nat} {b : Blk}
   (hid : id ∈ ftF S T l nm s0 i) (hb : look (zai S T l nm s0 i).2 id = some b) : BlkR w loc id b := by
 have hlt : i < l.length := (List.getElem?_eq_some_iff.1 ho).1
 refine inv.heap id i (by omega) (fun j x hx hd hf => ⟨fun hl => ?_,fun hji => ?_⟩) b hb
 · rcases Nat.lt_trichotomy j i with h | h | h
   · exact h
   · subst h; exact (hnl hl).elim
   · exact (hnl (zbi hg.back inv.closed _ j i (Nat.lt_succ_self _) (hg.mem i j o x h ho hx (clashM_kind (.inr ⟨hd,hk⟩)) id hf (.inl hid)) x hx (inv.closed j x hx hl))).elim
 · exact zbi hg.back inv.closed _ i j (Nat.lt_succ_self _) (hg.mem j i x o hji hx ho (clashM_kind (.inl ⟨hd,hk⟩)) id hid (.inl hf)) o ho hrd
theorem advanceF (hg : GoodF S T l nm s0) (hst : ∀ j o,l[j]? = some o → (zbu S T l (nm + 8 * j) o (zai S T l nm s0 j)).1) (h0 : ∀ id b,look s0.2 id = some b → id < nm) (inv : InvF S T l nm s0 w0 E B listed a w loc) (ho : l[i]? = some o) (hnl : ¬ Ls listed i)
   (hrd : ∀ e ∈ o.after.toList,Region.binds .any e = true → Ls listed e.on) {x : AV} {v : Value} {w' : World} {loc' : Loc} {C : Nat → Prop}
   (hv : (zbu S T l (nm + 8 * i) o (zai S T l nm s0 i)).2.1.1 = zan (zai S T l nm s0 i).1 o.dst x) (hx : R w' loc' x v) (hE : Ext C w loc w' loc') (hC : zah T o.op ≤ 1 → ∀ id,¬ C id) (hCF : ∀ id,C id → id ∈ ftF S T l nm s0 i)
   (hfr : ∀ id,loc.m id = .free → loc'.m id ≠ .free → nm + 8 * i ≤ id ∧ id < nm + 8 * i + 8) (he : Env w0 E w' loc') (hb : Base w0 B w' loc')
   (hh : zah T o.op ≠ 0 → ∀ id b,id ∈ ftF S T l nm s0 i ∨ (nm + 8 * i ≤ id ∧ id < nm + 8 * i + 8) → look (zbu S T l (nm + 8 * i) o (zai S T l nm s0 i)).2.1.2 id = some b → BlkR w' loc' id b) :
   InvF S T l nm s0 w0 E B (listed.setIfInBounds i true) (a.put o.dst v) w' loc' := by
 have hlt : i < l.length := (List.getElem?_eq_some_iff.1 ho).1
 have his : i < listed.size := by rw [inv.sizel]; exact hlt
 have hls : ∀ j,Ls (listed.setIfInBounds i true) j ↔ j = i ∨ Ls listed j := fun j => ls_set his
 have htr : zai S T l nm s0 (i + 1) = (zbu S T l (nm + 8 * i) o (zai S T l nm s0 i)).2.1 := by simp only [zai,ho]
 have hfi : ftF S T l nm s0 i = (zbu S T l (nm + 8 * i) o (zai S T l nm s0 i)).2.2 := by simp only [ftF,ho]
 have hanc : ∀ j y,l[j]? = some y → i < j → Ls listed j → ((masks [] l).getD j 0).testBit i = true → False := fun j y hy hij hl hc =>
   hnl (zbi hg.back inv.closed _ j i (Nat.lt_succ_self _) hc y hy (inv.closed j y hy hl))
 refine ⟨by simp [inv.sizel],?_,?_,?_,?_,?_,?_,he,hb,?_⟩
 · cases o.dst with
   | none => exact inv.size
   | some d => simp [Act.put,inv.size]
 · intro t k hk hq
   by_cases hd : o.dst = some t
   · have hik : i < k := (hq i o ho hd).1 ((hls i).2 (.inl rfl))
     have e1 : slot (zai S T l nm s0 k).1 t = slot (zai S T l nm s0 (i + 1)).1 t := by
       refine traceF_slot hst (by omega) (fun j y h1 h2 hy hyd => ?_)
       have := (hls j).1 ((hq j y hy hyd).2 h2)
       rcases this with h | h
       · omega
       · exact hanc j y hy (by omega) h (hg.clash i j o y (by omega) ho hy (clashS_dst hd (.inr hyd)))
     rw [e1,htr,hv,hd]
     simp only [zan]
     by_cases hts : t < (zai S T l nm s0 i).1.length
     · rw [zce hts]
       have : (a.put (some t) v).tmps.getD t undef = v := by
         rw [zcc hst] at hts
         simp [Act.put,inv.size,hts]
       rw [this]; exact hx
     · rw [zfp (by rw [zbd]; exact Nat.le_of_not_lt hts)]; exact .junk _
   · have h1 := inv.slots t k hk (fun j y hy hyd => by
       have hji : j ≠ i := by
         rintro rfl
         rw [ho] at hy; injection hy with hy; subst hy; exact hd hyd
       rw [← hq j y hy hyd,hls]
       simp [hji])
     have : (a.put o.dst v).tmps.getD t undef = a.tmps.getD t undef := by
       cases hdd : o.dst with
       | none => rfl
       | some d =>
         have hne : d ≠ t := fun e => hd (by rw [hdd,e])
         simp [Act.put,Array.getElem?_setIfInBounds_ne hne]
     rw [this]; exact h1.ext hE
 · intro id k hk hq b hl
   by_cases hf' : loc'.m id = .free
   · exact BlkR.free hf'
   by_cases h2 : zah T o.op = 2 ∧ id ∈ ftF S T l nm s0 i
   · have hik : i < k := (hq i o ho h2.1 h2.2).1 ((hls i).2 (.inl rfl))
     have hidl : id < nm + 8 * i := by
       have h3 := (zcq (hst i o ho)).2.2.2.2 id (by rw [← hfi]; exact h2.2)
       cases h4 : look (zai S T l nm s0 i).2 id with
       | none => exact h3.resolve_left (fun h => h h4)
       | some c => exact zbs hst h0 i id c h4
     have hno : ∀ j y,i + 1 ≤ j → j < k → l[j]? = some y → (zah T y.op ≤ 1 ∨ id ∉ ftF S T l nm s0 j) ∧ (zah T y.op = 0 ∨ ¬ (nm + 8 * j ≤ id ∧ id < nm + 8 * j + 8)) := by
       intro j y h3 h4 hy
       refine ⟨?_,.inr (by omega)⟩
       by_cases hyf : id ∈ ftF S T l nm s0 j
       · left
         have hle : zah T y.op ≤ 2 := kind_le T y.op
         have hne : zah T y.op ≠ 2 := by
           intro hy2
           rcases (hls j).1 ((hq j y hy hy2 hyf).2 h4) with h | h
           · omega
           · exact hanc j y hy (by omega) h (hg.mem i j o y (by omega) ho hy (clashM_kind (.inl ⟨h2.1,by omega⟩)) id hyf (.inl h2.2))
         omega
       · exact .inr hyf
     rw [traceF_keep hst (by omega) hno,htr] at hl
     exact hh (by omega) id b (.inl h2.2) hl
   · have hold : BlkR w loc id b := inv.heap id k hk (fun j y hy hy2 hyf => by
       have hji : j ≠ i := by
         rintro rfl
         rw [ho] at hy; injection hy with hy; subst hy; exact h2 ⟨hy2,hyf⟩
       rw [← hq j y hy hy2 hyf,hls]
       simp [hji]) b hl
     by_cases hf : loc.m id = .free
     · have hr := hfr id hf hf'
       have hik : i < k := by
         rcases Nat.lt_or_ge i k with h | h
         · exact h
         · have := zbs hst h0 k id b hl; omega
       by_cases hz : zah T o.op = 0
       · exfalso
         rcases traceF_back hst (i := i + 1) (by omega) hl with h | ⟨j,y,h3,_,_,_,h4,_⟩
         · rw [htr,(zcq (hst i o ho)).2.2.2.1 hz] at h
           cases h5 : look (zai S T l nm s0 i).2 id with
           | none => exact h h5
           | some c => have := zbs hst h0 i id c h5; omega
         · omega
       · have hno : ∀ j y,i + 1 ≤ j → j < k → l[j]? = some y → (zah T y.op ≤ 1 ∨ id ∉ ftF S T l nm s0 j) ∧ (zah T y.op = 0 ∨ ¬ (nm + 8 * j ≤ id ∧ id < nm + 8 * j + 8)) := by
           intro j y h3 h4 hy
           refine ⟨?_,.inr (by omega)⟩
           by_cases hyf : id ∈ ftF S T l nm s0 j
           · left
             have hle2 : zah T y.op ≤ 2 := kind_le T y.op
             have hne : zah T y.op ≠ 2 := by
               intro hy2
               rcases (hls j).1 ((hq j y hy hy2 hyf).2 h4) with h | h
               · omega
               · exact hanc j y hy (by omega) h (hg.mem i j o y (by omega) ho hy (clashM_kind (.inr ⟨hy2,hz⟩)) id hyf (.inr hr))
             omega
           · exact .inr hyf
         rw [traceF_keep hst (by omega) hno,htr] at hl
         exact hh hz id b (.inr hr) hl
     · refine hold.ext hE (fun hc => ?_) hf
       have hle : zah T o.op ≤ 2 := kind_le T o.op
       by_cases hk1 : zah T o.op ≤ 1
       · exact hC hk1 id hc
       · exact h2 ⟨by omega,hCF id hc⟩
 · intro j y hy hl e hee hbe
   rw [hls]
   rcases (hls j).1 hl with h | h
   · subst h
     rw [ho] at hy; injection hy with hy; subst hy
     exact .inr (hrd e hee hbe)
   · exact .inr (inv.closed j y hy h e hee hbe)
 · intro j hj hjl id h1 h2
   rw [hls] at hj
   have hji : j ≠ i := fun e => hj (.inl e)
   have hf := inv.fresh j (fun h => hj (.inr h)) hjl id h1 h2
   by_cases hf' : loc'.m id = .free
   · exact hf'
   · have := hfr id hf hf'; omega
 · intro id h1
   have hf := inv.high id h1
   by_cases hf' : loc'.m id = .free
   · exact hf'
   · have := hfr id hf hf'; omega
 · rw [← inv.defers]
   cases o.dst <;> rfl
end
end Ax
end Go.Proofs.Ytlcijldkdpmknaa
namespace Go.Proofs.Ytlcijldkdpmknaa
namespace Ax
section
variable {P : Program} {S : zal} {T : zac} {l : List Oper} {nm : Nat} {s0 : List AV × Heap} {w0 : World} {E : Nat → Prop} {B : Bs}
theorem all_listedF (hg : GoodF S T l nm s0) {listed : Array Bool} (hsz : listed.size = l.length) (hr : Region.ready .any l.toArray listed = []) : ∀ n j,j < n → j < l.length → Ls listed j := by
 intro n
 induction n with
 | zero => intro j h; omega
 | succ n ih =>
   intro j hj hjl
   by_cases hl : Ls listed j
   · exact hl
   · exfalso
     have : j ∈ Region.ready .any l.toArray listed := by
       refine mem_ready.2 ⟨getD_in (by rw [hsz]; exact hjl) (by unfold Ls at hl; simpa using hl),l[j],by simp [hjl],fun e he hb => ?_⟩
       have hlt := hg.back j l[j] (List.getElem?_eq_getElem hjl) e (by simpa using he) hb
       exact ih e.on (by omega) (by omega)
     rw [hr] at this
     simp at this
theorem inv_wpAnyF (hT : TOk P T) (hS : Fns P S) (hg : GoodF S T l nm s0) (hst : ∀ j o,l[j]? = some o → (zbu S T l (nm + 8 * j) o (zai S T l nm s0 j)).1) (h0 : ∀ id b,look s0.2 id = some b → id < nm) {K : Exit → Act → World → Prop}
   (hK : ∀ listed a w loc,InvF S T l nm s0 w0 E B listed a w loc → (∀ j,j < l.length → Ls listed j) → K .normal a w) :
   ∀ (fuel : Nat) (listed : Array Bool) (a : Act) (w : World) (loc : Loc),InvF S T l nm s0 w0 E B listed a w loc → listed.toList.count false ≤ fuel → wpAny P .any l.toArray K fuel listed a w := by
 intro fuel
 induction fuel with
 | zero =>
   intro listed a w loc inv hc
   have hall : ∀ j,j < l.length → Ls listed j := by
     intro j hj
     have hj' : j < listed.size := by rw [inv.sizel]; exact hj
     have h1 : false ∉ listed.toList := by
       intro hm
       have := List.count_pos_iff.2 hm
       omega
     unfold Ls
     have h2 : listed[j] ≠ false := fun e => h1 (by rw [← e]; simp)
     simpa [hj'] using h2
   refine ⟨?_,hK listed a w loc inv hall⟩
   cases hr : Region.ready .any l.toArray listed with
   | nil => rfl
   | cons j r =>
     exfalso
     have hm : j ∈ Region.ready .any l.toArray listed := by rw [hr]; simp
     obtain ⟨h1,o,ho,_⟩ := mem_ready.1 hm
     have hjl : j < l.length := by
       have := (Array.getElem?_eq_some_iff.1 ho).1
       simpa using this
     have := hall j hjl
     unfold Ls at this
     rw [getD_both h1] at this
     cases this
 | succ fuel ih =>
   intro listed a w loc inv hc
   refine ⟨fun hr => hK listed a w loc inv (fun j hj => all_listedF hg inv.sizel hr _ j (Nat.lt_succ_self _) hj),fun i hi => ?_⟩
   obtain ⟨hnl1,o,ho',hrd'⟩ := mem_ready.1 hi
   have ho : l[i]? = some o := by simpa using ho'
   have hnl : ¬ Ls listed i := by unfold Ls; rw [getD_both hnl1]; simp
   have hrd : ∀ e ∈ o.after.toList,Region.binds .any e = true → Ls listed e.on := fun e he hb => hrd' e (by simpa using he) hb
   have hlt : i < l.length := (List.getElem?_eq_some_iff.1 ho).1
   have hc' : (listed.setIfInBounds i true).toList.count false ≤ fuel := by
     have := count_set listed.toList i (by simpa using hnl1)
     rw [Array.toList_setIfInBounds]
     omega
   have hlook := fun t ht => lookF_now hg inv ho hnl hrd (t := t) ht
   have hlow := zbs hst h0 i
   have hev : ∀ x ∈ o.op.operands.toList,R w loc (ev (zai S T l nm s0 i).1 x) (a.eval x) := by
     intro x hx
     cases x with
     | tmp t => exact hlook t (by unfold Oper.looksAt; exact List.mem_append_left _ (List.mem_filterMap.2 ⟨.tmp t,hx,rfl⟩))
     | const v => exact ev_R (sl := []) (a := a) (fun t => .junk _) (.const v)
     | global g => exact .junk _
     | func f => exact ev_R (sl := []) (a := a) (fun t => .junk _) (.func f)
   have hstep := hst i o ho
   have hfi : ftF S T l nm s0 i = (zbu S T l (nm + 8 * i) o (zai S T l nm s0 i)).2.2 := by simp only [ftF,ho]
   have hadv := @advanceF S T l nm s0 w0 E B listed a w loc i o hg hst h0 inv ho hnl hrd
   have hheap := fun (hk : zah T o.op ≠ 0) id b => @heapF_now S T l nm s0 w0 E B listed a w loc i o hg inv ho hnl hrd hk id b
   rw [hfi] at hadv hheap
   -- the operation is done
   have hdo : (aopF S T (nm + 8 * i) (zai S T l nm s0 i).1 o.op (zai S T l nm s0 i).2).p →
       (zbu S T l (nm + 8 * i) o (zai S T l nm s0 i)).2.1 = (zan (zai S T l nm s0 i).1 o.dst (aopF S T (nm + 8 * i) (zai S T l nm s0 i).1 o.op (zai S T l nm s0 i).2).x,(aopF S T (nm + 8 * i) (zai S T l nm s0 i).1 o.op (zai S T l nm s0 i).2).H) →
       (zbu S T l (nm + 8 * i) o (zai S T l nm s0 i)).2.2 = foot (zai S T l nm s0 i).1 o.op (zai S T l nm s0 i).2 →
       o.wp P a w (wpAny P .any l.toArray K fuel (listed.setIfInBounds i true)) K := by
     intro hp hs hft
     have hfree : ∀ id,nm + 8 * i ≤ id → id < nm + 8 * i + 8 → loc.m id = .free := inv.fresh i hnl hlt
     rw [hft] at hadv hheap
     by_cases hk : zah T o.op = 0
     · obtain ⟨h1,h2,h3⟩ := pu_aop (H := keepIn (foot (zai S T l nm s0 i).1 o.op (zai S T l nm s0 i).2) (zai S T l nm s0 i).2) (S := S) (sl := (zai S T l nm s0 i).1) (nm := nm + 8 * i) hk hp.2
       refine zdx hT hS inv.env (H := []) (fun id b h => by simp [look] at h) hfree o hev h1 _ K (fun v w' loc' hpost => ?_)
       obtain ⟨C,hE,hC⟩ := hpost.ext
       have hC' := hC (kind_wr (H := []) (by omega) h1)
       refine ih _ _ _ loc' (hadv (x := _) (C := C) (by rw [hs]) ?_ hE (fun _ => hC') (fun id h => (hC' id h).elim) hpost.fresh hpost.env (inv.base.post hpost) (fun h => (h hk).elim)) hc'
       have := hpost.r
       rw [h2] at this; exact this
     · refine aopF_sound hT hS inv.env (fun id b hid hl => hheap hk id b hid hl) hfree rfl hev hp _ K (fun v w' loc' wr hpost hext => ?_)
       obtain ⟨C,hE,hC,hCF⟩ := hext
       refine ih _ _ _ loc' (hadv (x := _) (C := C) (by rw [hs]) hpost.r hE hC hCF hpost.fresh hpost.env (inv.base.post hpost) (fun _ id b hor hl => ?_)) hc'
       rw [hs] at hl
       simp only [aopF] at hl
       rw [zev] at hl
       cases h1 : look (aop S T (nm + 8 * i) (zai S T l nm s0 i).1 o.op (keepIn (foot (zai S T l nm s0 i).1 o.op (zai S T l nm s0 i).2) (zai S T l nm s0 i).2)).H id with
       | some c =>
         simp only [h1] at hl
         injection hl with hl
         subst hl
         exact hpost.h id c h1
       | none =>
         simp only [h1,zdj] at hl
         split at hl
         · cases hl
         · rename_i hn
           rcases hor with h2 | h2
           · exact (hn h2).elim
           · have := hlow id b hl; omega
   unfold wpOp
   rw [ho']
   simp only
   cases hgd : o.guard with
   | none =>
     rw [if_pos (by simp [Region.wanted,hgd])]
     left
     refine hdo ?_ ?_ ?_
     · simpa [zbu,hgd] using hstep
     · simp [zbu,hgd]
     · simp [zbu,hgd]
   | some g =>
     obtain ⟨j,want⟩ := g
     simp only [zbu,hgd] at hstep hdo hadv
     cases hgs : guardSlot l j with
     | none => simp [hgs] at hstep
     | some d =>
       simp only [hgs] at hstep hdo hadv
       have hdl : d ∈ o.looksAt l.toArray := by
         unfold Oper.looksAt
         refine List.mem_append_right _ ?_
         rw [hgd]
         unfold guardSlot at hgs
         cases hj : l[j]? with
         | none => rw [hj] at hgs; cases hgs
         | some oj =>
           rw [hj] at hgs
           simp only at hgs
           simp [hj,hgs]
       have hval := hlook d hdl
       cases hsd : slot (zai S T l nm s0 i).1 d with
       | w u =>
         cases u with
         | bool b =>
           simp only [hsd] at hstep hdo hadv
           rw [hsd] at hval
           have hval := hval.wv
           have hdlt : d < a.tmps.size := by
             rw [inv.size,← zcc hst i]
             rcases Nat.lt_or_ge d (zai S T l nm s0 i).1.length with h' | h'
             · exact h'
             · rw [zfp h'] at hsd; cases hsd
           have hy := yielded_of (ops := l.toArray) (by simpa using hgs) hdlt hval
           have hw : (Region.wanted o (yielded l.toArray a.tmps) = true) ↔ b = want := by simp [Region.wanted,hgd,hy]
           by_cases hbw : b = want
           · rw [if_pos (hw.2 hbw)]
             rw [if_pos hbw] at hstep hdo
             exact .inl (hdo hstep rfl rfl)
           · rw [if_neg (fun h => hbw (hw.1 h))]
             simp only [if_neg hbw] at hadv
             refine ih _ _ _ loc (hadv (x := .tup []) (C := fun _ => False) rfl undef_R (Ext.refl w loc) (fun _ _ h => h) (fun _ h => h.elim) (fun id h h' => (h' h).elim) inv.env inv.base (fun hk id b hor hl => ?_)) hc'
             rcases hor with h2 | h2
             · simp at h2
             · have := hlow id b hl; omega
         | _ => simp [hsd] at hstep
       | tup xs =>
         cases xs with
         | nil =>
           simp only [hsd] at hadv
           rw [hsd] at hval
           rw [if_neg (by simp [Region.wanted,hgd,zff (ops := l.toArray) (by simpa using hgs) (tup_R hval)])]
           refine ih _ _ _ loc (hadv (x := .tup []) (C := fun _ => False) rfl undef_R (Ext.refl w loc) (fun _ _ h => h) (fun _ h => h.elim) (fun id h h' => (h' h).elim) inv.env inv.base (fun hk id b hor hl => ?_)) hc'
           rcases hor with h2 | h2
           · simp at h2
           · have := hlow id b hl; omega
         | cons _ _ => simp [hsd] at hstep
       | _ => simp [hsd] at hstep
theorem drawF_sound (hT : TOk P T) (hS : Fns P S) (hm : P.follows .mixedOrders = true) {pl : List (Nat × Nat)} {K : Exit → Act → World → Prop} {Q : List AV → Heap → Prop} {sl : List AV} {H : Heap} {a : Act} {w : World} {loc : Loc} {id : Nat}
   (hd : drawOkF T l pl = true) (hK : ∀ sl H a w loc,Base w0 B w loc → Rel' w0 E loc ⟨sl,H,nm + 8 * l.length⟩ a w → Q sl H → K .normal a w) (hb : Base w0 B w loc)
   (hr : Rel' w0 E loc ⟨sl,H,nm⟩ a w) (h : zdw S T l pl nm [] l sl H Q) : (Code.region id l.toArray true).wp P K a w := by
 obtain ⟨⟨hQ,hmem⟩,hst⟩ := aopsF_trace (S := S) (T := T) (nm := nm) (pl := pl) (Q := Q) (l := l) (s0 := (sl,H)) l 0 (fun j => by rw [Nat.zero_add]) (Nat.zero_add _) (by simpa [zai] using h)
 have hst' := fun j o ho => hst j o (Nat.zero_le _) ho
 have hg := goodF_of hd hmem
 refine wp_region_any hm ?_
 have hL : ∀ i,¬ Ls (Array.replicate l.toArray.size false) i := fun i h => by
   unfold Ls at h
   rw [getD_replicate_false] at h; cases h
 refine inv_wpAnyF hT hS hg hst' hr.low (w0 := w0) (E := E) (B := B) ?_ _ _ _ _ loc ?_ ?_
 · intro listed a w loc inv hall
   have hq : ∀ (i : Nat),i < l.length → (Ls listed i ↔ i < l.length) := fun i hi => ⟨fun _ => hi,fun _ => hall i hi⟩
   have hlt : ∀ {j : Nat} {o : Oper},l[j]? = some o → j < l.length := fun h => (List.getElem?_eq_some_iff.1 h).1
   refine hK _ _ a w loc inv.base ⟨?_,?_,?_,inv.env,inv.high,inv.defers,?_⟩ hQ
   · simp only; rw [zcc hst']; exact inv.size
   · exact fun t => inv.slots t _ (Nat.le_refl _) (fun i o ho _ => hq i (hlt ho))
   · exact fun id b hl => inv.heap id _ (Nat.le_refl _) (fun i o ho _ _ => hq i (hlt ho)) b hl
   · exact zbs hst' hr.low l.length
 · have hbase : Base w0 B { w with drawn := w.drawn + 1 } loc := hb
   have hE : Ext (fun _ => False) w loc { w with drawn := w.drawn + 1 } loc := ⟨Nat.le_refl _,fun _ _ _ => rfl,fun _ _ _ => .inl rfl,fun _ _ h => ⟨rfl,h⟩,fun _ _ _ _ => rfl,fun _ cur _ fz h => ⟨cur,fz,h,rfl⟩⟩
   have hcl : ∀ {x v},R w loc x v → R { w with drawn := w.drawn + 1 } loc x v := fun h => h.ext hE
   refine ⟨by simp,hr.size,?_,?_,?_,?_,?_,⟨hr.env.os,hr.env.tape,hr.env.output,hr.env.size,hr.env.same,hr.env.inj,hr.env.lies,hr.env.bad⟩,hbase,hr.defers⟩
   · intro t k hk hq
     have e : slot (zai S T l nm (sl,H) k).1 t = slot sl t := by
       refine traceF_slot hst' (i := 0) (Nat.zero_le _) (fun j o _ hj ho hd => ?_)
       exact hL j ((hq j o ho hd).2 hj)
     rw [e]
     exact hcl (hr.slots t)
   · intro id k hk hq b hl
     by_cases hf : loc.m id = .free
     · exact BlkR.free hf
     · have hidn : id < nm := by
         rcases Nat.lt_or_ge id nm with h' | h'
         · exact h'
         · exact (hf (hr.fresh id h')).elim
       have e : look (zai S T l nm (sl,H) k).2 id = look H id := by
         refine traceF_keep hst' (i := 0) (Nat.zero_le _) (fun j o _ hj ho => ⟨?_,.inr (by omega)⟩)
         by_cases hid : id ∈ ftF S T l nm (sl,H) j
         · left
           have hle : zah T o.op ≤ 2 := kind_le T o.op
           have hne : zah T o.op ≠ 2 := fun h2 => hL j ((hq j o ho h2 hid).2 hj)
           omega
         · exact .inr hid
       rw [e] at hl
       exact (hr.heap id b hl).ext hE (fun h => h) hf
   · intro j o ho hl; exact (hL j hl).elim
   · intro i _ hi id h1 h2; exact hr.fresh id (by simp only; omega)
   · intro id h1; exact hr.fresh id (by simp only; omega)
 · simp
end
end Ax
end Go.Proofs.Ytlcijldkdpmknaa
namespace Go.Proofs.Ytlcijldkdpmknaa
namespace Ax
open Go.RowKit
abbrev Plan := Nat → Option (List (Nat × Nat))
def zcp (T : zac) (pl : Plan) : Code → Bool
 | .region id ops draw => match pl id with
   | none => !draw || drawOk T ops.toList
   | some p => draw && drawOkF T ops.toList p
 | .seq a b => zcp T pl a && zcp T pl b
 | .cond _ a b => zcp T pl a && zcp T pl b
 | .block _ c => zcp T pl c
 | .loop c => zcp T pl c
 | _ => true
def awpF (S : zal) (T : zac) (pl : Plan) : Code → (Exit → ASt → Prop) → ASt → Prop
 | .skip,Q,σ => Q .normal σ
 | .label _,Q,σ => Q .normal σ
 | .region id ops _,Q,σ => match pl id with
   | none => aops S T ops.toList σ.nx ops.toList σ.sl σ.H (regK (σ.nx + 8 * ops.toList.length) Q)
   | some p => zdw S T ops.toList p σ.nx [] ops.toList σ.sl σ.H (regK (σ.nx + 8 * ops.toList.length) Q)
 | .seq a b,Q,σ => awpF S T pl a (seqK (awpF S T pl b Q) Q) σ
 | .cond c a b,Q,σ => match ev σ.sl c with
     | .w (.bool t) => csplit t (awpF S T pl a Q σ) (awpF S T pl b Q σ)
     | _ => False
 | .block id c,Q,σ => awpF S T pl c (zfm id Q) σ
 | .loop c,Q,σ => ALoop (awpF S T pl c) Q σ
 | .exit id,Q,σ => Q (.exit id) σ
 | .ret,Q,σ => Q .ret σ
 | _,_,_ => False
open Classical in
theorem awpF_sound {P : Program} {w0 : World} {E : Nat → Prop} {T : zac} {S : zal} {pl : Plan} (hm : P.follows .mixedOrders = true) (hT : TOk P T) (hS : Fns P S) {B : Bs} : ∀ (c : Code) (Q : Exit → ASt → Prop) (σ : ASt) (a : Act) (w : World),
   zcp T pl c = true → awpF S T pl c Q σ → Rel w0 E B σ a w → c.wp P (Low w0 E B Q) a w := by
 intro c
 induction c with
 | skip => intro Q σ a w hdr h hr; exact wp_skip ⟨σ,hr,h⟩
 | label l => intro Q σ a w hdr h hr; exact wp_label ⟨σ,hr,h⟩
 | ret => intro Q σ a w hdr h hr; exact wp_ret ⟨σ,hr,h⟩
 | exit id => intro Q σ a w hdr h hr; exact wp_exit ⟨σ,hr,h⟩
 | region id ops draw =>
   intro Q σ a w hdr h hr
   obtain ⟨loc,hb,hr⟩ := hr
   obtain ⟨sl,H,nx⟩ := σ
   have hK : ∀ sl H a w loc,Base w0 B w loc → Rel' w0 E loc ⟨sl,H,nx + 8 * ops.toList.length⟩ a w → regK (nx + 8 * ops.toList.length) Q sl H → Low w0 E B Q .normal a w := fun sl H a w loc h1 h2 h3 => ⟨_,⟨loc,h1,h2⟩,h3⟩
   simp only [zcp] at hdr
   simp only [awpF] at h
   cases hp : pl id with
   | none =>
     simp only [hp] at hdr h
     cases draw with
     | false => exact wp_region_list (zcw hT hS hK ops.toList nx sl H a w loc rfl hb hr h)
     | true => exact zen hT hS hm w0 E ops.toList _ _ B nx sl H a w loc id (by simpa using hdr) hK hb hr h
   | some p =>
     simp only [hp,Bool.and_eq_true] at hdr h
     obtain ⟨hd1,hd2⟩ := hdr
     subst hd1
     exact drawF_sound hT hS hm hd2 hK hb hr h
 | seq x y ihx ihy =>
   intro Q σ a w hdr h hr
   refine wp_seq (wp_mono (ihx _ σ a w (by simp only [zcp,Bool.and_eq_true] at hdr; exact hdr.1) h hr) ?_)
   rintro e a' w' ⟨σ',hr',hq⟩
   cases e with
   | normal => exact ihy Q σ' a' w' (by simp only [zcp,Bool.and_eq_true] at hdr; exact hdr.2) hq hr'
   | _ => exact ⟨σ',hr',hq⟩
 | cond c x y ihx ihy =>
   intro Q σ a w hdr h hr
   simp only [awpF,csplit] at h
   simp only [zcp,Bool.and_eq_true] at hdr
   obtain ⟨loc,hb,hr⟩ := hr
   split at h
   · rename_i t hc
     have hv := ev_R hr.slots c
     rw [hc] at hv
     have hv := hv.wv
     cases t with
     | true => exact wp_cond_true hv (ihx Q σ a w hdr.1 (h.1 rfl) ⟨loc,hb,hr⟩)
     | false => exact wp_cond_false hv (ihy Q σ a w hdr.2 (h.2 rfl) ⟨loc,hb,hr⟩)
   · exact h.elim
 | block id c ih =>
   intro Q σ a w hdr h hr
   refine wp_block (wp_mono (ih _ σ a w hdr h hr) ?_)
   rintro e a' w' ⟨σ',hr',hq⟩
   cases e with
   | exit id' =>
     simp only [zfm,Exit.inBlock] at hq ⊢
     split at hq
     · rename_i he; rw [if_pos he]; exact ⟨σ',hr',hq⟩
     · rename_i he; rw [if_neg he]; exact ⟨σ',hr',hq⟩
   | _ => exact ⟨σ',hr',hq⟩
 | loop c ih =>
   intro Q σ a w hdr h hr
   obtain ⟨I,⟨n0,σ0,hw0,hI0⟩,hround⟩ := h
   let p : Act → World → Nat → Prop := fun a w n => ∃ σ,Rel w0 E B σ a w ∧ I n σ
   have hleast : ∀ a w,(∃ n,p a w n) → ∃ m,p a w m ∧ ∀ k,p a w k → m ≤ k := fun a w ⟨n,hn⟩ => let ⟨m,h1,_,h3⟩ := least n hn; ⟨m,h1,h3⟩
   let μ : Act → World → Nat := fun a w => if h : ∃ n,p a w n then Classical.choose (hleast a w h) else 0
   refine wp_loop (fun a w => ∃ n,p a w n) μ ⟨n0,σ0,hw0 w0 E B a w hr,hI0⟩ ?_
   intro a w hex
   have hμ : μ a w = Classical.choose (hleast a w hex) := dif_pos hex
   obtain ⟨⟨σ1,hr1,hI1⟩,hmin⟩ := Classical.choose_spec (hleast a w hex)
   rw [← hμ] at hI1
   refine wp_mono (ih _ σ1 a w hdr (hround _ σ1 hI1) hr1) ?_
   rintro e a' w' ⟨σ',hr',hq⟩
   cases e with
   | normal =>
     obtain ⟨m,σ2,hlt,hw2,hI2⟩ := hq
     have hp : p a' w' m := ⟨σ2,hw2 w0 E B a' w' hr',hI2⟩
     refine ⟨⟨m,hp⟩,?_⟩
     have hμ' : μ a' w' = Classical.choose (hleast a' w' ⟨m,hp⟩) := dif_pos ⟨m,hp⟩
     have := (Classical.choose_spec (hleast a' w' ⟨m,hp⟩)).2 m hp
     rw [← hμ'] at this
     exact Nat.lt_of_le_of_lt this hlt
   | _ =>
     obtain ⟨σ2,hw2,hq⟩ := hq
     exact ⟨σ2,hw2 w0 E B a' w' hr',hq⟩
 | _ => intro Q σ a w hdr h hr; exact h.elim
theorem sound_gen0 {P : Program} {T : zac} {S : zal} (hT : TOk P T) (hS : Fns P S) {f : FuncId} {fn : Func} {c : Code} (hf : P.funcs[f]? = some fn) (hb : fn.body = some c) {spec : zam} {Qp : List AV → List Blk → Exit → ASt → Prop}
   (hqp : ∀ xs pins e σ,Qp xs pins e σ → ∃ σ',Weak σ σ' ∧ Ends T fn.results.toList pins (spec xs pins) e σ')
   (h : ∀ xs pins,(spec xs pins).p → closedB pins = true → pins.length ≤ 4 ∧ ∀ w0 E B a w,Rel w0 E B ⟨xs ++ List.replicate (fn.ntmps - xs.length) .junk,pinHeap 0 pins,4⟩ a w → c.wp P (Low w0 E B (Qp xs pins)) a w) : zaq P f spec := by
 intro xs pins hp hcl w bad pb vs hlen hnd hbad hlies hxl hx
 obtain ⟨hp4,h⟩ := h xs pins hp hcl
 refine calls_of_wp hf hb ?_
 have hrel : Rel w (· ∈ pb) ⟨bad,pb⟩ ⟨xs ++ List.replicate (fn.ntmps - xs.length) .junk,pinHeap 0 pins,4⟩ { tmps := vs.toArray ++ Array.replicate (fn.ntmps - vs.toArray.size) undef,defers := [] } w := by
   refine ⟨zba pb bad,⟨⟨rfl,fun k hk cur e fz hh => ⟨cur,fz,hh,rfl⟩⟩,by simp only; omega,fun k hk => .inr ⟨by simp [zba,List.getElem?_eq_getElem hk],fun cur e fz hh => ⟨cur,fz,hh,rfl⟩⟩⟩,?_⟩
   refine ⟨by simp [hxl],fun t => ?_,?_,?_,?_,rfl,fun id b hl => ?_⟩
   · simp only
     rw [zcz]
     by_cases ht : t < xs.length
     · have e1 : (xs ++ List.replicate (fn.ntmps - xs.length) AV.junk).getD t .junk = xs[t] := by simp [List.getElem?_append_left,ht]
       have e2 : (vs.toArray ++ Array.replicate (fn.ntmps - vs.toArray.size) undef).getD t undef = vs[t]'(by omega) := by
         have : t < vs.length := by omega
         simp [Array.getD_eq_getD_getElem?,Array.getElem?_append,this]
       rw [e1,e2]
       exact hx t ht _
     · have e1 : (xs ++ List.replicate (fn.ntmps - xs.length) AV.junk).getD t .junk = .junk := by
         rw [List.getD_eq_getElem?_getD,List.getElem?_append_right (by omega),List.getElem?_replicate]
         split <;> rfl
       rw [e1]; exact .junk _
   · intro id b hl
     obtain ⟨j,hj,rfl,rfl⟩ := zbm pins 0 id b hl
     have hj' : j < pb.length := by omega
     unfold BlkR
     have : (zba pb bad).m (0 + j) = .here pb[j] := by simp [zba,List.getElem?_eq_getElem hj']
     rw [this]
     exact hlies j hj hj'
   · refine ⟨rfl,rfl,rfl,Nat.le_refl _,fun _ _ _ => rfl,?_,?_,?_⟩
     · intro i j b hi hj
       obtain ⟨h1,h2⟩ := zbv hi
       obtain ⟨h3,h4⟩ := zbv hj
       exact zby hnd (h2.trans h4.symm)
     · intro i b hi
       obtain ⟨h1,h2⟩ := zbv hi
       subst h2
       refine ⟨?_,.inr (List.getElem_mem h1)⟩
       obtain ⟨ob,hh⟩ := lies_live2 (hlies i (by omega) h1).2
       rcases Nat.lt_or_ge pb[i] w.heap.size with h' | h'
       · exact h'
       · rw [Array.getElem?_eq_none h'] at hh; cases hh
     · exact fun b hb => hbad b hb
   · intro id hid
     simp only at hid
     have : pb[id]? = none := List.getElem?_eq_none (by omega)
     simp [zba,this]
   · obtain ⟨j,hj,rfl,_⟩ := zbm pins 0 id b hl
     simp; omega
 refine wp_mono (h _ _ _ _ w hrel) ?_
 have main : ∀ a w' σ,Rel w (· ∈ pb) ⟨bad,pb⟩ σ a w' → (rvals T σ.H σ.sl fn.results.toList).1 ∧ EndsX pins (spec xs pins) (rone (rvals T σ.H σ.sl fn.results.toList).2) σ →
     a.defers = [] ∧ ∃ v,(results fn a.tmps).run P w' = .ok v w' ∧ ∃ v' loc',Ending.returned v = .returned v' ∧ Gives w bad pb (spec xs pins) v' w' loc' := by
   rintro a w' σ ⟨loc,hB,hr⟩ ⟨hrv,hnodup,hpin,hbl,hren⟩
   obtain ⟨v,hv,hR⟩ := results_R (P := P) (fn := fn) hT hr.heap hr.slots hrv
   refine ⟨hr.defers,v,hv,v,?_⟩
   generalize rone (rvals T σ.H σ.sl fn.results.toList).2 = x at hnodup hpin hbl hren hR
   have hnd' := zdu hnodup
   obtain ⟨hids1,hids2⟩ := newIds_mem x.ids (upTo 0 pins)
   obtain ⟨hu1,hu2⟩ := upTo_get pins 0
   generalize hids : newIds (upTo 0 pins) x.ids = ids at hnodup hpin hbl hren hnd' hids1 hids2
   obtain ⟨hpl,hpc,hpg⟩ := zem hpin
   rw [hbl] at hpl hpc hpg
   obtain ⟨t,rfl⟩ := hids1
   have hm : pins.length ≤ (upTo 0 pins ++ t).length := by simp [hu1]
   have hold : ∀ k,(hk : k < pins.length) → (upTo 0 pins ++ t)[k]'(by omega) = k := by
     intro k hk
     rw [List.getElem_append_left (by omega)]
     have := hu2 k (by omega)
     omega
   -- every one of the names is alive
   have hlive : ∀ (k : Nat) (hk : k < (upTo 0 pins ++ t).length),loc.m (upTo 0 pins ++ t)[k] ≠ .free := by
     intro k hk
     rcases hids2 _ (List.getElem_mem hk) with hi | hi
     · obtain ⟨j,hj,he⟩ := List.getElem_of_mem hi
       rw [← he,hu2 j hj]
       have hj' : j < pb.length := by omega
       rcases hB.2.2 j hj' with h1 | ⟨h1,_⟩
       · rw [Nat.zero_add,h1]; simp
       · rw [Nat.zero_add,h1]; simp
     · exact zdn x v hR hi
   have hblk : ∀ (k : Nat) (hk : k < (upTo 0 pins ++ t).length) (hk' : k < (spec xs pins).bl.length),BlkR w' loc (upTo 0 pins ++ t)[k] (spec xs pins).bl[k] := by
     intro k hk hk'
     refine hr.heap _ _ ?_
     rw [hpg k hk,List.getElem?_eq_getElem hk']
   have hdead : ∀ (k : Nat) (hk : k < (upTo 0 pins ++ t).length),loc.m (upTo 0 pins ++ t)[k] ≠ .dead := by
     intro k hk e
     have := hblk k hk (by omega)
     unfold BlkR at this
     rw [e] at this
     exact this
   let g : Nat → Nat := gOf (upTo 0 pins ++ t) σ.nx
   have hgo : ∀ k,(hk : k < (upTo 0 pins ++ t).length) → g k = (upTo 0 pins ++ t)[k] := fun k hk => zdz hk
   have hgn : ∀ k,(upTo 0 pins ++ t).length ≤ k → loc.m (g k) = .free := by
     intro k hk
     refine hr.fresh _ ?_
     show σ.nx ≤ gOf _ σ.nx k
     rw [zdk hk]; omega
   let loc' : Loc := { m := fun k => loc.m (g k),bad := loc.bad }
   have hlt : ∀ i b,loc'.m i = .here b → i < (upTo 0 pins ++ t).length := by
     intro i b hi
     rcases Nat.lt_or_ge i (upTo 0 pins ++ t).length with h' | h'
     · exact h'
     · have : loc'.m i = .free := hgn i h'
       rw [this] at hi; cases hi
   have hinj : ∀ i j b,loc'.m i = .here b → loc'.m j = .here b → i = j := by
     intro i j b hi hj
     have h1 := hlt i b hi
     have h2 := hlt j b hj
     have h3 : g i = g j := hr.env.inj (g i) (g j) b hi hj
     rw [hgo i h1,hgo j h2] at h3
     exact zby hnd' h3
   have hpb : ∀ (k : Nat) (hk : k < pb.length),loc'.m k = .here pb[k] ∧ ∀ cur e fz,w.heap[pb[k]]? = some (.cells cur e fz) → ∃ cur' fz',w'.heap[pb[k]]? = some (.cells cur' e fz') ∧ cur'.size = cur.size := by
     intro k hk
     have hk1 : k < pins.length := by omega
     have e : loc'.m k = loc.m k := by
       show loc.m (g k) = loc.m k
       rw [hgo k (by omega),hold k hk1]
     rcases hB.2.2 k hk with h1 | ⟨h1,h2⟩
     · have := hdead k (by omega)
       rw [hold k hk1] at this
       exact (this h1).elim
     · exact ⟨e.trans h1,h2⟩
   refine ⟨loc',rfl,?_⟩
   refine ⟨unren (loc2 := loc') (g := g) (fun _ => rfl) rfl hR _ hren,hB.1.1,?_,fun k hk => (hpb k hk).1,?_,?_,hinj,?_⟩
   · intro k hk
     have hk' : k < (upTo 0 pins ++ t).length := by omega
     have e : loc'.m k = loc.m (upTo 0 pins ++ t)[k] := by show loc.m (g k) = _; rw [hgo k hk']
     refine ⟨?_,by rw [e]; exact hlive k hk',by rw [e]; exact hdead k hk'⟩
     have hb := hblk k hk' hk
     unfold BlkR at hb ⊢
     rw [e]
     split
     · trivial
     · rename_i e'; rw [e'] at hb; exact hb
     · rename_i e'; rw [e'] at hb; exact hb
     · rename_i b e'
       rw [e'] at hb
       refine ⟨hb.1,zew hb.2 (zfb hpc k hk) (.inr ?_)⟩
       rintro c _ (h | ⟨i,h⟩)
       · exact .inl h
       · exact .inr ⟨g i,h⟩
   · intro k b hk hkb
     have := hr.env.lies (g k) b hkb
     refine ⟨?_,this.1⟩
     rcases this.2 with h' | h'
     · exact h'
     · obtain ⟨j,hj,he⟩ := List.getElem_of_mem h'
       have h1 := (hpb j hj).1
       rw [he] at h1
       have := hinj k j b hkb h1
       omega
   · intro k hk
     exact hgn k (by omega)
   · refine ⟨hr.env.os,hr.env.tape,hr.env.output,hr.env.size,hr.env.same,?_⟩
     rintro b cur e fz hb hh
     obtain ⟨j,hj,rfl⟩ := List.getElem_of_mem hb
     exact (hpb j hj).2 cur e fz hh
 rintro e a w' ⟨σ0,hr0,hq0⟩
 obtain ⟨σ,hwk,hq⟩ := hqp xs pins e σ0 hq0
 have hr := hwk _ _ _ _ _ hr0
 cases e with
 | normal => exact main a w' σ hr hq
 | ret => exact main a w' σ hr hq
 | _ => exact hq.elim
theorem fn_soundF {P : Program} {T : zac} {S : zal} {pl : Plan} (hm : P.follows .mixedOrders = true) (hT : TOk P T) (hS : Fns P S) {f : FuncId} {fn : Func} {c : Code} (hf : P.funcs[f]? = some fn) (hb : fn.body = some c) (hd : zcp T pl c = true) {spec : zam}
   (h : ∀ xs pins,(spec xs pins).p → closedB pins = true → pins.length ≤ 4 ∧ awpF S T pl c (EndsW T fn.results.toList pins (spec xs pins)) ⟨xs ++ List.replicate (fn.ntmps - xs.length) .junk,pinHeap 0 pins,4⟩) : zaq P f spec :=
 sound_gen0 hT hS hf hb (Qp := fun xs pins => EndsW T fn.results.toList pins (spec xs pins)) (fun _ _ _ _ h => h) (fun xs pins hp hc => ⟨(h xs pins hp hc).1,fun w0 E B a w hr => awpF_sound hm hT hS c _ _ _ _ hd (h xs pins hp hc).2 hr⟩)
def laterF (S : zal) (T : zac) (pl : Plan) (b : Code) (Q : Exit → ASt → Prop) : Exit → ASt → Prop := seqK (awpF S T pl b Q) Q
section rules
variable {S : zal} {T : zac} {pl : Plan} {Q : Exit → ASt → Prop} {σ : ASt}
theorem awpF_skip : awpF S T pl .skip Q σ = Q .normal σ := rfl
theorem awpF_label {l : Nat} : awpF S T pl (.label l) Q σ = Q .normal σ := rfl
theorem awpF_ret : awpF S T pl .ret Q σ = Q .ret σ := rfl
theorem awpF_exit {id : Nat} : awpF S T pl (.exit id) Q σ = Q (.exit id) σ := rfl
theorem awpF_region {id : Nat} {l : List Oper} {draw : Bool} : awpF S T pl (.region id l.toArray draw) Q σ = match pl id with
   | none => aops S T l σ.nx l σ.sl σ.H (regK (σ.nx + 8 * l.length) Q)
   | some p => zdw S T l p σ.nx [] l σ.sl σ.H (regK (σ.nx + 8 * l.length) Q) := by
 simp [awpF]
theorem awpF_seq {a b : Code} : awpF S T pl (.seq a b) Q σ = awpF S T pl a (laterF S T pl b Q) σ := rfl
theorem awpF_block {id : Nat} {c : Code} : awpF S T pl (.block id c) Q σ = awpF S T pl c (zfm id Q) σ := rfl
theorem awpF_cond {c : Operand} {a b : Code} : awpF S T pl (.cond c a b) Q σ = match ev σ.sl c with
     | .w (.bool t) => csplit t (awpF S T pl a Q σ) (awpF S T pl b Q σ)
     | _ => False := rfl
theorem awpF_loopW {c : Code} (h : ALoop (awpF S T pl c) Q σ) : awpF S T pl (.loop c) Q σ := h
theorem zag {b : Code} : laterF S T pl b Q .normal σ = awpF S T pl b Q σ := rfl
theorem laterF_exit {b : Code} {id : Nat} : laterF S T pl b Q (.exit id) σ = Q (.exit id) σ := rfl
theorem laterF_ret {b : Code} : laterF S T pl b Q .ret σ = Q .ret σ := rfl
variable {ops r : List Oper} {o : Oper} {nm : Nat} {sl : List AV} {H : Heap} {Q' : List AV → Heap → Prop} {pp : List (Nat × Nat)} {acc : List (Nat × List Nat)}
theorem aopsF_nil : zdw S T ops pp nm acc [] sl H Q' = (memOk pp acc = true ∧ Q' sl H) := rfl
theorem aopsF_plain {dst : Option Tmp} {op : Op} {type : TypeId} {pos : String} {after : Array Edge} : zdw S T ops pp nm acc (⟨dst,op,type,pos,after,none⟩ :: r) sl H Q' =
   ((aopF S T nm sl op H).p ∧ zdw S T ops pp (nm + 8) (acc ++ [(nm,foot sl op H)]) r (zan sl dst (aopF S T nm sl op H).x) (aopF S T nm sl op H).H Q') := rfl
theorem aopsF_guard {dst : Option Tmp} {op : Op} {type : TypeId} {pos : String} {after : Array Edge} {j : Nat} {want : Bool} : zdw S T ops pp nm acc (⟨dst,op,type,pos,after,some (j,want)⟩ :: r) sl H Q' =
   match guardSlot ops j with
     | none => False
     | some d => match slot sl d with
       | .w (.bool b) =>
         gsplit b want ((aopF S T nm (setSlot sl d (.w (.bool want))) op H).p ∧
           zdw S T ops pp (nm + 8) (acc ++ [(nm,foot (setSlot sl d (.w (.bool want))) op H)]) r (zan (setSlot sl d (.w (.bool want))) dst (aopF S T nm (setSlot sl d (.w (.bool want))) op H).x) (aopF S T nm (setSlot sl d (.w (.bool want))) op H).H Q')
         (zdw S T ops pp (nm + 8) (acc ++ [(nm,[])]) r (zan (setSlot sl d (.w (.bool !want))) dst (.tup [])) H Q')
       | .tup [] => zdw S T ops pp (nm + 8) (acc ++ [(nm,[])]) r (zan sl dst (.tup [])) H Q'
       | _ => False := rfl
end rules
end Ax
end Go.Proofs.Ytlcijldkdpmknaa
namespace Go.Proofs.Ytlcijldkdpmknaa
open Ax
theorem evTP : (type_of% @awpF_skip) ∧
   (type_of% @awpF_label) ∧
   (type_of% @awpF_ret) ∧
   (type_of% @awpF_exit) ∧
   (type_of% @awpF_region) ∧
   (type_of% @awpF_seq) ∧
   (type_of% @awpF_block) ∧
   (type_of% @awpF_cond) ∧
   (type_of% @laterF_exit) ∧
   (type_of% @laterF_ret) ∧
   (type_of% @aopsF_nil) ∧
   (type_of% @aopsF_plain) ∧
   (type_of% @aopsF_guard) :=
 ⟨@awpF_skip,@awpF_label,@awpF_ret,@awpF_exit,@awpF_region,@awpF_seq,@awpF_block,@awpF_cond,@laterF_exit,@laterF_ret,@aopsF_nil,@aopsF_plain,@aopsF_guard⟩
theorem evDP : (type_of% @Ax.aopF.eq_1) ∧
   (type_of% @Ax.foot.eq_1) ∧
   (type_of% @Ax.footA.eq_1) ∧
   (type_of% @Ax.keepIn.eq_1) ∧
   (type_of% @Ax.keepIn.eq_2) ∧
   (type_of% @Ax.dropIn.eq_1) ∧
   (type_of% @Ax.dropIn.eq_2) ∧
   (type_of% @Ax.bids.eq_1) ∧
   (type_of% @Ax.bids.eq_2) ∧
   (type_of% @Ax.heldB.eq_1) ∧
   (type_of% @Ax.memOk.eq_1) ∧
   (type_of% @Ax.clearOf.eq_1) :=
 ⟨@Ax.aopF.eq_1,@Ax.foot.eq_1,@Ax.footA.eq_1,@Ax.keepIn.eq_1,@Ax.keepIn.eq_2,@Ax.dropIn.eq_1,@Ax.dropIn.eq_2,@Ax.bids.eq_1,@Ax.bids.eq_2,@Ax.heldB.eq_1,@Ax.memOk.eq_1,@Ax.clearOf.eq_1⟩
open Ax
attribute [go_sem] evDP evTP Blk.ids Op.operands Call.operands
end Go.Proofs.Ytlcijldkdpmknaa
namespace Go.Proofs.Ytlcijldkdpmknaa
open Ax
section
set_option maxRecDepth 100000
def rputPl : Plan := fun id => match id with
 | 9 => some [(5,6),(5,7)]
 | _ => none
set_option maxHeartbeats 1000000 in
theorem rrecput_sound : zaq Try.prog 57 rputS := by
 refine fn_soundF (S := Srrput) (T := ty) (pl := rputPl) zat ty_ok Srrput_ok Try.func57 (c := Try.f57.body.getD .skip) (by kernel_rfl) (by kernel_rfl) (fun xs pins hp _ => ?_)
 unfold rputS at hp ⊢
 split at hp
 · rename_i d t k key dd val _
   refine ⟨by simp,?_⟩
   unfold Try.f57
   by_cases h0 : rchk d t k key dd val = 0
   · have hc := zel d t k key dd val
     unfold rA rB at hc
     have hd : (-9223372036854775808 ≤ d ∧ d ≤ 9223372036854775807) ∧ (-9223372036854775808 ≤ t ∧ t ≤ 9223372036854775807) ∧ key.length ≤ 64 ∧ val.length ≤ 512 := by omega
     obtain ⟨hd1,hd2,hd3,hd4⟩ := hd
     clear hc
     have z1 := zcn d hd1.1 hd1.2
     have z2 := zcn t hd2.1 hd2.2
     have l1 := zax (zz d).toNat (by omega)
     have l2 := zax (zz t).toNat (by omega)
     have l3 := zct key (by omega)
     have l4 := zct val (by omega)
     have k3 : key.length ≤ 1000000 := by omega
     have k4 : val.length ≤ 1000000 := by omega
     generalize hP1 : putU (zz d).toNat = P1 at *
     generalize hP2 : putU (zz t).toNat = P2 at *
     generalize hP3 : textL key = P3 at *
     generalize hP4 : textL val = P4 at *
     cases k <;> cases dd
     all_goals
       have f0 : flagI false false = 0 := rfl
       have f1 : flagI true false = 1 := rfl
       have f2 : flagI false true = 2 := rfl
       have f3 : flagI true true = 3 := rfl
       simp only [go_sem,coe,zag,Nat.reduceAdd,Nat.reduceSub,Nat.reduceMul,Int.reduceToNat,reduceCtorEq,↓reduceIte,Int.reducePow,Nat.reducePow,Int.reduceMod,Nat.reduceLeDiff,Int.reduceLE,Int.reduceNe,Int.reduceEq,Nat.reduceEqDiff,Nat.reduceLT,Nat.reduceBEq,List.map_cons,List.map_nil,List.toList_toArray,Array.toList_append,Option.toArray_some,Option.toArray_none,Bool.and_self,ty,Srrput,rputPl,rchkS,flagS,putS,textS,h0,hd1,hd2,k3,k4,hP1,hP2,hP3,hP4,List.take_length,f0,f1,f2,f3,Int.reduceAdd]
       have ht : top = 4294967296 := rfl
       repeat (refine And.intro (by omega) ?_)
       exact put_ends rfl rfl rfl (by simp only [List.length_append,List.length_cons,List.length_nil]; omega) (by simp [recB,h0,recL,hP1,hP2,hP3,hP4,f0,f1,f2,f3]) rfl
   · have d0 : decide (rchk d t k key dd val = 0) = false := decide_eq_false h0
     simp only [go_sem,coe,zag,Nat.reduceAdd,Nat.reduceSub,Nat.reduceMul,Int.reduceToNat,reduceCtorEq,↓reduceIte,Int.reducePow,Nat.reducePow,Int.reduceMod,Nat.reduceLeDiff,Int.reduceLE,Int.reduceNe,Int.reduceEq,Nat.reduceEqDiff,Nat.reduceLT,Nat.reduceBEq,List.map_cons,List.map_nil,List.toList_toArray,Array.toList_append,Option.toArray_some,Option.toArray_none,Bool.and_self,ty,Srrput,rputPl,rchkS,d0]
     refine ⟨_,zbl 2 (.sb [] false) (fun _ _ _ h => h.nilb),?_⟩
     simp only [go_sem,coe,zag,Nat.reduceAdd,Nat.reduceSub,Nat.reduceMul,Int.reduceToNat,reduceCtorEq,↓reduceIte,Int.reducePow,Nat.reducePow,Int.reduceMod,Nat.reduceLeDiff,Int.reduceLE,Int.reduceNe,Int.reduceEq,Nat.reduceEqDiff,Nat.reduceLT,Nat.reduceBEq,List.map_cons,List.map_nil,List.toList_toArray,Array.toList_append,Option.toArray_some,Option.toArray_none,Bool.and_self,ty,recB,if_neg h0]
 · exact hp.elim
end
end Go.Proofs.Ytlcijldkdpmknaa
