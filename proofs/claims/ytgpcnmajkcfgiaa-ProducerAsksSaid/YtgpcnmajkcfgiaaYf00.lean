/- What the proofs of this seat stand on; it asks nothing. -/
import Derived.Test.YtgpcnmajkcfgiaaYa13
import Derived.Test.YtgpcnmajkcfgiaaYb00
import Derived.Test.YtgpcnmajkcfgiaaYd00
set_option linter.unusedSimpArgs false
set_option linter.unusedVariables false
namespace Go.Proofs.Ytgpcnmajkcfgiaa
namespace Ax
def ALoop0 (body : (Exit → ASt → Prop) → ASt → Prop) (Q : Exit → ASt → Prop) (σ : ASt) : Prop :=
 ∃ I : Nat → ASt → Prop,(∃ n σ',Weak σ σ' ∧ I n σ') ∧
   ∀ n σ',I n σ' → body (fun e σ1 => match e with
     | .normal => ∃ m σ2,m < n ∧ Weak σ1 σ2 ∧ I m σ2
     | e => Q e σ1) σ'
end Ax
end Go.Proofs.Ytgpcnmajkcfgiaa
namespace Go.Proofs.Ytgpcnmajkcfgiaa
namespace Ax
open Go.RowKit
section rules
variable {S : zaj} {T : zae} {Q : Exit → ASt → Prop} {σ : ASt}
theorem awp_loopW {c : Code} (h : ALoop (awp S T c) Q σ) : awp S T (.loop c) Q σ := h
theorem awp_loop {c : Code} (h : ALoop0 (awp S T c) Q σ) : awp S T (.loop c) Q σ := by
 obtain ⟨I,hst,hr⟩ := h
 refine ⟨I,hst,fun n σ' hI => rawp_mono _ _ _ σ' ?_ (hr n σ' hI)⟩
 intro e σ h
 cases e with
 | normal => exact h
 | _ => exact ⟨σ,Weak.refl σ,h⟩
variable {ops r : List Oper} {o : Oper} {nm : Nat} {sl : List AV} {H : Heap} {Q' : List AV → Heap → Prop}
end rules
end Ax
end Go.Proofs.Ytgpcnmajkcfgiaa
namespace Go.Proofs.Ytgpcnmajkcfgiaa
open Ax
theorem kslot_map {α : Type} (g : α → AV) : ∀ (ps : List α) (i : Nat) (h : i < ps.length),slot (ps.map g) i = g ps[i]
 | p :: ps,0,h => rfl
 | p :: ps,i + 1,h => by
   simp only [List.map_cons,slot,List.getElem_cons_succ]
   exact kslot_map g ps i (by simpa using h)
end Go.Proofs.Ytgpcnmajkcfgiaa
namespace Go.Proofs.Ytgpcnmajkcfgiaa
open Ax
def rrec : AV → Rec
 | .agg [.w (.int _ d),.w (.int _ t),.w (.bool k),.str key,.w (.bool dd),.str val] => ⟨d,t,k,key,dd,val⟩
 | _ => ⟨0,0,false,[],false,[]⟩
theorem map_rrec (rs : List Rec) : (rs.map rv).map rrec = rs := by
 rw [List.map_map]; exact List.map_id _
section
set_option maxRecDepth 100000
set_option maxHeartbeats 2000000 in
end
end Go.Proofs.Ytgpcnmajkcfgiaa
namespace Go.Proofs.Ytgpcnmajkcfgiaa
open Ax
section
set_option maxRecDepth 100000
def lightS : zay
 | [.agg [.w (.int .i64 d),.w (.int .i64 t),.w (.bool k),.str key,.w (.bool dd),.str val]],[] => ⟨True,.w (.bool (decide (key.length ≤ 200 ∧ val.length ≤ 700))),[]⟩
 | _,_ => zcr
theorem light_sound : zbx Try.prog 25 lightS := by
 refine fn_sound (S := noS) (T := ty) zcu ty_ok zdj Try.func25 (c := Try.f25.body.getD .skip) (by kernel_rfl) (by kernel_rfl) (fun xs pins hp _ => ?_)
 unfold lightS at hp ⊢
 split at hp
 · rename_i d t k key dd val _
   refine ⟨by simp,?_⟩
   unfold Try.f25
   by_cases h1 : key.length ≤ 200
   · have d1 : decide ((key.length : Int) ≤ 200) = true := decide_eq_true (by omega)
     by_cases h2 : val.length ≤ 700
     · have d2 : decide ((val.length : Int) ≤ 700) = true := decide_eq_true (by omega)
       have d3 : decide (key.length ≤ 200 ∧ val.length ≤ 700) = true := decide_eq_true ⟨h1,h2⟩
       simp only [go_sem,coe,zaf,Nat.reduceAdd,Nat.reduceSub,Nat.reduceMul,Int.reduceToNat,reduceCtorEq,↓reduceIte,Int.reducePow,Nat.reducePow,Int.reduceMod,Nat.reduceLeDiff,Int.reduceLE,Int.reduceNe,Int.reduceEq,Nat.reduceEqDiff,Nat.reduceLT,Nat.reduceBEq,ty,noS,d1,d2,d3]
     · have d2 : decide ((val.length : Int) ≤ 700) = false := decide_eq_false (by omega)
       have d3 : decide (key.length ≤ 200 ∧ val.length ≤ 700) = false := decide_eq_false (fun h => h2 h.2)
       simp only [go_sem,coe,zaf,Nat.reduceAdd,Nat.reduceSub,Nat.reduceMul,Int.reduceToNat,reduceCtorEq,↓reduceIte,Int.reducePow,Nat.reducePow,Int.reduceMod,Nat.reduceLeDiff,Int.reduceLE,Int.reduceNe,Int.reduceEq,Nat.reduceEqDiff,Nat.reduceLT,Nat.reduceBEq,ty,noS,d1,d2,d3]
   · have d1 : decide ((key.length : Int) ≤ 200) = false := decide_eq_false (by omega)
     have d3 : decide (key.length ≤ 200 ∧ val.length ≤ 700) = false := decide_eq_false (fun h => h1 h.1)
     simp only [go_sem,coe,zaf,Nat.reduceAdd,Nat.reduceSub,Nat.reduceMul,Int.reduceToNat,reduceCtorEq,↓reduceIte,Int.reducePow,Nat.reducePow,Int.reduceMod,Nat.reduceLeDiff,Int.reduceLE,Int.reduceNe,Int.reduceEq,Nat.reduceEqDiff,Nat.reduceLT,Nat.reduceBEq,ty,noS,d1,d3]
 · exact hp.elim
end
end Go.Proofs.Ytgpcnmajkcfgiaa
namespace Go.Proofs.Ytgpcnmajkcfgiaa
open Ax
def lightR (r : Rec) : Prop := r.key.length ≤ 200 ∧ r.val.length ≤ 700
instance (r : Rec) : Decidable (lightR r) := by unfold lightR; infer_instance
def blightS4 : zay
 | [.agg [.w (.int .i64 b),.w (.int .i64 c),.w (.int .i64 p),.w (.int .i64 e),.w (.int .i64 s),.sg 6 xs f]],[] => ⟨xs.length ≤ 9223372036854775807 ∧ ∃ rs : List Rec,xs = rs.map rv,
     .w (.bool (decide (xs.length ≤ 40 ∧ ∀ r ∈ xs.map rrec,lightR r))),[]⟩
 | _,_ => zcr
def Sblight4 (f : FuncId) : Option zay :=
 match f with
 | 25 => some lightS
 | _ => none
theorem Sblight4_ok : Fns Try.prog Sblight4 := by
 intro f s h
 unfold Sblight4 at h
 split at h
 · injection h with h; subst h; exact ⟨⟨_,Try.func25,by kernel_rfl,by kernel_rfl⟩,light_sound⟩
 · cases h
section
set_option maxRecDepth 100000
set_option maxHeartbeats 1000000 in
set_option maxHeartbeats 1000000 in
theorem blight4_sound : zbx Try.prog 8 blightS4 := by
 refine fn_sound (S := Sblight4) (T := ty) zcu ty_ok Sblight4_ok Try.func8 (c := Try.f8.body.getD .skip) (by kernel_rfl) (by kernel_rfl) (fun xs pins hp _ => ?_)
 unfold blightS4 at hp ⊢
 split at hp
 · rename_i b c p e s xs f _
   obtain ⟨hL,rs,rfl⟩ := hp
   have hl4 : (rs.map rv).length = rs.length := by simp
   rw [hl4] at hL
   refine ⟨by simp,?_⟩
   unfold Try.f8
   by_cases h40 : rs.length ≤ 40
   · have d0 : decide ((40 : Int) < rs.length) = false := decide_eq_false (by omega)
     simp only [go_sem,zaf,Nat.reduceAdd,Nat.reduceSub,Nat.reduceMul,Int.reduceToNat,reduceCtorEq,↓reduceIte,Int.reducePow,Nat.reducePow,Int.reduceMod,Nat.reduceLeDiff,Int.reduceLE,Int.reduceNe,Int.reduceEq,Nat.reduceEqDiff,Nat.reduceLT,Nat.reduceBEq,ty,Sblight4,hl4,d0,map_rrec]
     refine awp_loop ⟨fun m σ => ∃ i : Nat,m = rs.length - i ∧ i ≤ rs.length ∧ (∀ j (h : j < rs.length),j < i → lightR rs[j]) ∧
         σ = ⟨[.agg [.w (.int .i64 b),.w (.int .i64 c),.w (.int .i64 p),.w (.int .i64 e),.w (.int .i64 s),.sg 6 (rs.map rv) f],.rf 4 6 0 0,.junk,.w (.int .i64 i),.junk,.junk,.junk,.junk,.junk,.junk,.junk,.junk,.junk,.junk,.junk,.junk,.junk,.junk,.junk,.junk,.junk,.junk],[(4,.g 6 [.agg [.w (.int .i64 b),.w (.int .i64 c),.w (.int .i64 p),.w (.int .i64 e),.w (.int .i64 s),.sg 6 (rs.map rv) f]])],5⟩,?_,?_⟩
     · refine ⟨_,_,zal [0,1,2,3,4] rfl rfl rfl ?_ ?_,0,rfl,by omega,by intro j _ h; omega,rfl⟩
       · simp only [ssT,zaq,zar,setSlot,gOf,AV.ren,renL,Blk.ren,Ax.look,Ax.put,reduceCtorEq,↓reduceIte,Nat.reduceEqDiff,Nat.reduceLT,Nat.reduceAdd,List.length_append,List.length_cons,List.length_nil,Option.some.injEq]; rfl
       · simp only [ssT,zaq,zar,setSlot,gOf,AV.ren,renL,Blk.ren,Ax.look,Ax.put,reduceCtorEq,↓reduceIte,Nat.reduceEqDiff,Nat.reduceLT,Nat.reduceAdd,List.length_append,List.length_cons,List.length_nil,Option.some.injEq]
     · rintro m σ ⟨i,rfl,hi,hall,rfl⟩
       have e1 : ((i : Int) + 1 + 9223372036854775808) % 18446744073709551616 - 9223372036854775808 = ((i + 1 : Nat) : Int) := by omega
       by_cases hil : i < rs.length
       · have d1 : decide ((i : Int) < rs.length) = true := decide_eq_true (by omega)
         have hs1 := kslot_map rv rs i hil
         obtain ⟨P,hP⟩ : ∃ P,rs[i] = P := ⟨_,rfl⟩
         rw [hP] at hs1
         simp only [rv] at hs1
         by_cases ha : P.key.length ≤ 200 ∧ P.val.length ≤ 700
         · have d2 : decide (P.key.length ≤ 200 ∧ P.val.length ≤ 700) = true := decide_eq_true ha
           simp only [go_sem,zaf,Nat.reduceAdd,Nat.reduceSub,Nat.reduceMul,Int.reduceToNat,reduceCtorEq,↓reduceIte,Int.reducePow,Nat.reducePow,Int.reduceMod,Nat.reduceLeDiff,Int.reduceLE,Int.reduceNe,Int.reduceEq,Nat.reduceEqDiff,Nat.reduceLT,Nat.reduceBEq,ty,Sblight4,lightS,hl4,d1,d2,hs1,e1,Int.toNat_natCast]
           repeat (refine And.intro (by omega) ?_)
           refine ⟨rs.length - (i + 1),_,by omega,zal [0,1,2,3,4] rfl rfl rfl ?_ ?_,i + 1,rfl,by omega,?_,rfl⟩
           · simp only [ssT,zaq,zar,setSlot,gOf,AV.ren,renL,Blk.ren,Ax.look,Ax.put,reduceCtorEq,↓reduceIte,Nat.reduceEqDiff,Nat.reduceLT,Nat.reduceAdd,List.length_append,List.length_cons,List.length_nil,Option.some.injEq]
           · simp only [ssT,zaq,zar,setSlot,gOf,AV.ren,renL,Blk.ren,Ax.look,Ax.put,reduceCtorEq,↓reduceIte,Nat.reduceEqDiff,Nat.reduceLT,Nat.reduceAdd,List.length_append,List.length_cons,List.length_nil,Option.some.injEq]
           · intro j h hj
             rcases Nat.lt_or_ge j i with h2 | h2
             · exact hall j h h2
             · have : j = i := by omega
               subst this
               rw [hP]; exact ha
         · have d2 : decide (P.key.length ≤ 200 ∧ P.val.length ≤ 700) = false := decide_eq_false ha
           have dr : decide (rs.length ≤ 40 ∧ ∀ r ∈ rs,lightR r) = false := decide_eq_false (fun h => ha (h.2 P (hP ▸ List.getElem_mem hil)))
           simp only [go_sem,zaf,Nat.reduceAdd,Nat.reduceSub,Nat.reduceMul,Int.reduceToNat,reduceCtorEq,↓reduceIte,Int.reducePow,Nat.reducePow,Int.reduceMod,Nat.reduceLeDiff,Int.reduceLE,Int.reduceNe,Int.reduceEq,Nat.reduceEqDiff,Nat.reduceLT,Nat.reduceBEq,ty,Sblight4,lightS,hl4,d1,d2,hs1,e1,dr,map_rrec,Int.toNat_natCast]
           omega
       · have d1 : decide ((i : Int) < rs.length) = false := decide_eq_false (by omega)
         have dr : decide (rs.length ≤ 40 ∧ ∀ r ∈ rs,lightR r) = true := decide_eq_true ⟨h40,fun r hr => by
           obtain ⟨j,hj,rfl⟩ := List.getElem_of_mem hr
           exact hall j hj (by omega)⟩
         simp only [go_sem,zaf,Nat.reduceAdd,Nat.reduceSub,Nat.reduceMul,Int.reduceToNat,reduceCtorEq,↓reduceIte,Int.reducePow,Nat.reducePow,Int.reduceMod,Nat.reduceLeDiff,Int.reduceLE,Int.reduceNe,Int.reduceEq,Nat.reduceEqDiff,Nat.reduceLT,Nat.reduceBEq,ty,Sblight4,hl4,d1,dr,map_rrec]
   · have d0 : decide ((40 : Int) < rs.length) = true := decide_eq_true (by omega)
     have dr : decide (rs.length ≤ 40 ∧ ∀ r ∈ rs,lightR r) = false := decide_eq_false (fun h => h40 h.1)
     simp only [go_sem,zaf,Nat.reduceAdd,Nat.reduceSub,Nat.reduceMul,Int.reduceToNat,reduceCtorEq,↓reduceIte,Int.reducePow,Nat.reducePow,Int.reduceMod,Nat.reduceLeDiff,Int.reduceLE,Int.reduceNe,Int.reduceEq,Nat.reduceEqDiff,Nat.reduceLT,Nat.reduceBEq,ty,Sblight4,hl4,d0,dr,map_rrec]
 · exact hp.elim
end
end Go.Proofs.Ytgpcnmajkcfgiaa
namespace Go.Proofs.Ytgpcnmajkcfgiaa
open Ax
def plR (l : List En) (v : Int) : Int := if l.findIdx (isI v) < l.length then (l.findIdx (isI v) : Nat) else -1
def rplcS : zay
 | [.agg [.sg 3 xs f],.w (.int .i64 v)],[] => ⟨xs.length ≤ 9223372036854775807 ∧ ∃ l : List En,xs = l.map enA,.w (.int .i64 (plR (xs.map uen) v)),[]⟩
 | _,_ => zcr
def zdv : zay
 | [.agg [.sg 3 xs f],.w (.int .i64 v)],[] => ⟨xs.length ≤ 9223372036854775807 ∧ ∃ l : List En,xs = l.map enA,fndA (xs.map uen) v,[]⟩
 | _,_ => zcr
def rbhS : zay
 | [.agg [.w (.int .i64 q),.w (.int .i64 c),.w (.int .i64 a)]],[] => ⟨(0 ≤ q ∧ q ≤ 1099511627776) ∧ 0 ≤ c ∧ c ≤ 1099511627776,.w (.int .i64 (bhI q c)),[]⟩
 | _,_ => zcr
def zea (x : Se) : Prop := (0 ≤ x.q ∧ x.q ≤ 1099511627776) ∧ (0 ≤ x.c ∧ x.c ≤ 1099511627776) ∧ 0 ≤ x.b ∧ x.b ≤ 2305843009213693952
instance (x : Se) : Decidable (zea x) := by unfold zea; infer_instance
def lightE (x : En) : Prop := x.l.length ≤ 20 ∧ ∀ y ∈ x.l,zea y
instance (x : En) : Decidable (lightE x) := by unfold lightE; infer_instance
def zda (l : List En) : Prop := l.length ≤ 20 ∧ ∀ x ∈ l,lightE x
instance (l : List En) : Decidable (zda l) := by unfold zda; infer_instance
def raskS : zay
 | [.agg [.sg 3 xs f],.agg [.w (.int .i64 b),.w (.int .i64 c),.w (.int .i64 p),.w (.int .i64 e),.w (.int .i64 s),.sg 6 rs h]],[] => ⟨closedL rs = true ∧ ∃ l : List En,xs = l.map enA ∧ zda l,anA (askF (xs.map uen) c p e s),[]⟩
 | _,_ => zcr
theorem zbu {T : zae} {sl : List AV} {H : Heap} {nx : Nat} {v : Value} {q : Prop} (i : Nat) (h : slot sl i = .w v) : EndsW T [.tmp i] [] ⟨q,.w v,[]⟩ .ret ⟨sl,H,nx⟩ := by
 refine ⟨_,Weak.refl _,?_⟩
 simp only [Ax.Ends,Ax.rvals,EndsX,rone,h,AV.ids,idsL,newIds,upTo,nodup,pinsOf,List.nil_append,AV.ren,and_self]
section
set_option maxRecDepth 100000
set_option maxHeartbeats 4000000 in
theorem rplc_sound : zbx Try.prog 36 rplcS := by
 refine fn_soundW (S := noS) (T := ty) zcu ty_ok zdj Try.func36 (c := Try.f36.body.getD .skip) (by kernel_rfl) (by kernel_rfl) (fun xs pins hp _ => ?_)
 unfold rplcS at hp ⊢
 split at hp
 · rename_i xs f v _
   obtain ⟨hL,l,rfl⟩ := hp
   rw [List.length_map] at hL
   have hle : (l.map enA).length = l.length := by simp
   rw [zak]
   unfold plR
   refine ⟨by simp,?_⟩
   unfold Try.f36
   simp only [go_sem,zaf,Nat.reduceAdd,Nat.reduceSub,Nat.reduceMul,Int.reduceToNat,reduceCtorEq,↓reduceIte,Int.reducePow,Nat.reducePow,Int.reduceMod,Nat.reduceLeDiff,Int.reduceLE,Int.reduceNe,Int.reduceEq,Nat.reduceEqDiff,Nat.reduceLT,Nat.reduceBEq,ty,noS,hle]
   refine awp_loopW ⟨fun m σ => ∃ i : Nat,m = l.length - i ∧ i ≤ l.length ∧ (l.drop i).findIdx (isI v) + i = l.findIdx (isI v) ∧
       σ = ⟨[.agg [.sg 3 (l.map enA) f],.w (.int .i64 v),.rf 4 1 0 0,.junk,.junk,.w (.int .i64 i),.junk,.junk,.junk,.junk,.junk,.junk,.junk,.junk,.junk,.junk,.junk,.junk,.junk,.junk,.junk,.junk],[(4,.g 1 [.agg [.sg 3 (l.map enA) f]])],5⟩,?_,?_⟩
   · refine ⟨_,_,zal [0,1,2,3,4] rfl rfl rfl ?_ ?_,0,rfl,by omega,by rw [List.drop_zero]; rfl,rfl⟩
     · simp only [ssT,zaq,zar,setSlot,gOf,AV.ren,renL,Blk.ren,Ax.look,Ax.put,reduceCtorEq,↓reduceIte,Nat.reduceEqDiff,Nat.reduceLT,Nat.reduceAdd,List.length_append,List.length_cons,List.length_nil,Option.some.injEq,zai]; try simp
     · simp only [ssT,zaq,zar,setSlot,gOf,AV.ren,renL,Blk.ren,Ax.look,Ax.put,reduceCtorEq,↓reduceIte,Nat.reduceEqDiff,Nat.reduceLT,Nat.reduceAdd,List.length_append,List.length_cons,List.length_nil,Option.some.injEq,zai]; try simp
   · rintro m σ ⟨i,rfl,hi,hinv,rfl⟩
     by_cases hil : i < l.length
     · have d1 : decide ((i : Int) < l.length) = true := decide_eq_true (by omega)
       have e1 : ((i : Int) + 1 + 9223372036854775808) % 18446744073709551616 - 9223372036854775808 = ((i + 1 : Nat) : Int) := by omega
       have hs1 := zbw l i hil
       cases hv : isI v l[i] with
       | true =>
         have hfi := find_at _ l i hil hv hinv
         rw [hfi,if_pos hil]
         obtain ⟨r,hr1⟩ : ∃ r,l[i] = r := ⟨_,rfl⟩
         rw [hr1] at hs1 hv
         obtain ⟨i1,e1x,l1⟩ := r
         have hs1 : slot (l.map enA) i = .agg [.w (.int .i64 i1),.w (.int .i64 e1x),.sg 3 (l1.map seA) false] := hs1
         have hv : decide (i1 = v) = true := hv
         simp only [go_sem,zaf,Nat.reduceAdd,Nat.reduceSub,Nat.reduceMul,Int.reduceToNat,reduceCtorEq,↓reduceIte,Int.reducePow,Nat.reducePow,Int.reduceMod,Nat.reduceLeDiff,Int.reduceLE,Int.reduceNe,Int.reduceEq,Nat.reduceEqDiff,Nat.reduceLT,Nat.reduceBEq,ty,noS,hle,d1,hs1,hv,Int.toNat_natCast]
         repeat (refine And.intro (by omega) ?_)
         refine ⟨_,Weak.refl _,?_⟩
         simp only [go_sem,zaf,Nat.reduceAdd,Nat.reduceSub,Nat.reduceMul,Int.reduceToNat,reduceCtorEq,↓reduceIte,Int.reducePow,Nat.reducePow,Int.reduceMod,Nat.reduceLeDiff,Int.reduceLE,Int.reduceNe,Int.reduceEq,Nat.reduceEqDiff,Nat.reduceLT,Nat.reduceBEq,ty,noS]
         exact zbu 4 rfl
       | false =>
         have hfi := zep _ l i hil hv hinv
         obtain ⟨r,hr1⟩ : ∃ r,l[i] = r := ⟨_,rfl⟩
         rw [hr1] at hs1 hv
         obtain ⟨i1,e1x,l1⟩ := r
         have hs1 : slot (l.map enA) i = .agg [.w (.int .i64 i1),.w (.int .i64 e1x),.sg 3 (l1.map seA) false] := hs1
         have hv : decide (i1 = v) = false := hv
         simp only [go_sem,zaf,Nat.reduceAdd,Nat.reduceSub,Nat.reduceMul,Int.reduceToNat,reduceCtorEq,↓reduceIte,Int.reducePow,Nat.reducePow,Int.reduceMod,Nat.reduceLeDiff,Int.reduceLE,Int.reduceNe,Int.reduceEq,Nat.reduceEqDiff,Nat.reduceLT,Nat.reduceBEq,ty,noS,hle,d1,hs1,hv,e1,Int.toNat_natCast]
         repeat (refine And.intro (by omega) ?_)
         refine ⟨l.length - (i + 1),_,by omega,zal [0,1,2,3,4] rfl rfl rfl ?_ ?_,i + 1,rfl,by omega,hfi,rfl⟩
         · simp only [ssT,zaq,zar,setSlot,gOf,AV.ren,renL,Blk.ren,Ax.look,Ax.put,reduceCtorEq,↓reduceIte,Nat.reduceEqDiff,Nat.reduceLT,Nat.reduceAdd,List.length_append,List.length_cons,List.length_nil,Option.some.injEq,zai]; try simp
         · simp only [ssT,zaq,zar,setSlot,gOf,AV.ren,renL,Blk.ren,Ax.look,Ax.put,reduceCtorEq,↓reduceIte,Nat.reduceEqDiff,Nat.reduceLT,Nat.reduceAdd,List.length_append,List.length_cons,List.length_nil,Option.some.injEq,zai]; try simp
     · have d1 : decide ((i : Int) < l.length) = false := decide_eq_false (by omega)
       have hfi := find_end _ l i (by omega) hi hinv
       rw [hfi,if_neg (by omega)]
       simp only [go_sem,zaf,Nat.reduceAdd,Nat.reduceSub,Nat.reduceMul,Int.reduceToNat,reduceCtorEq,↓reduceIte,Int.reducePow,Nat.reducePow,Int.reduceMod,Nat.reduceLeDiff,Int.reduceLE,Int.reduceNe,Int.reduceEq,Nat.reduceEqDiff,Nat.reduceLT,Nat.reduceBEq,ty,noS,hle,d1]
       refine ⟨_,Weak.refl _,?_⟩
       simp only [go_sem,zaf,Nat.reduceAdd,Nat.reduceSub,Nat.reduceMul,Int.reduceToNat,reduceCtorEq,↓reduceIte,Int.reducePow,Nat.reducePow,Int.reduceMod,Nat.reduceLeDiff,Int.reduceLE,Int.reduceNe,Int.reduceEq,Nat.reduceEqDiff,Nat.reduceLT,Nat.reduceBEq,ty,noS]
       exact zbu 4 rfl
 · exact hp.elim
def Srf13 (f : FuncId) : Option zay :=
 match f with
 | 36 => some rplcS
 | _ => none
theorem Srf13_ok : Fns Try.prog Srf13 := by
 intro f s h
 unfold Srf13 at h
 split at h
 · injection h with h; subst h; exact ⟨⟨_,Try.func36,by kernel_rfl,by kernel_rfl⟩,rplc_sound⟩
 · cases h
set_option maxHeartbeats 4000000 in
theorem rfnd_sound : zbx Try.prog 15 zdv := by
 refine fn_soundW (S := Srf13) (T := ty) zcu ty_ok Srf13_ok Try.func15 (c := Try.f15.body.getD .skip) (by kernel_rfl) (by kernel_rfl) (fun xs pins hp _ => ?_)
 unfold zdv at hp ⊢
 split at hp
 · rename_i xs f v _
   obtain ⟨hL,l,rfl⟩ := hp
   rw [List.length_map] at hL
   have hle : (l.map enA).length = l.length := by simp
   have hex : ∃ k : List En,l.map enA = k.map enA := ⟨l,rfl⟩
   have cR : ∀ (l : List En) f,coe ty 22 (.sg 3 (l.map enA) f) = .sg 3 (l.map enA) f := fun l f => by cases l <;> rfl
   rw [zak]
   obtain ⟨I,hI⟩ : ∃ I,l.findIdx (isI v) = I := ⟨_,rfl⟩
   unfold fndA
   refine ⟨by simp,?_⟩
   unfold Try.f15
   by_cases hf : I < l.length
   · have hpl : plR l v = (I : Nat) := by unfold plR; rw [hI,if_pos hf]
     have d1 : decide ((I : Int) < 0) = false := decide_eq_false (by omega)
     have hs1 := zbw l I hf
     have hent : entI l I = l[I] := by unfold entI; rw [List.getElem?_eq_getElem hf]; rfl
     rw [hI,if_pos hf,hent]
     obtain ⟨r,hr1⟩ : ∃ r,l[I] = r := ⟨_,rfl⟩
     rw [hr1] at hs1 ⊢
     obtain ⟨i1,e1,l1⟩ := r
     have hs1 : slot (l.map enA) I = .agg [.w (.int .i64 i1),.w (.int .i64 e1),.sg 3 (l1.map seA) false] := hs1
     have hcs := zac l1
     simp only [go_sem,zaf,Nat.reduceAdd,Nat.reduceSub,Nat.reduceMul,Int.reduceToNat,reduceCtorEq,↓reduceIte,Int.reducePow,Nat.reducePow,Int.reduceMod,Nat.reduceLeDiff,Int.reduceLE,Int.reduceNe,Int.reduceEq,Nat.reduceEqDiff,Nat.reduceLT,Nat.reduceBEq,ty,Srf13,rplcS,cR,hle,hL,hex,zak,hpl,d1,hs1,Int.toNat_natCast]
     repeat (first | refine And.intro (by omega) ?_ | refine And.intro ⟨by omega,by omega⟩ ?_)
     refine ⟨_,Weak.refl _,?_⟩
     simp only [go_sem,zaf,Nat.reduceAdd,Nat.reduceSub,Nat.reduceMul,Int.reduceToNat,reduceCtorEq,↓reduceIte,Int.reducePow,Nat.reducePow,Int.reduceMod,Nat.reduceLeDiff,Int.reduceLE,Int.reduceNe,Int.reduceEq,Nat.reduceEqDiff,Nat.reduceLT,Nat.reduceBEq,ty,Srf13,enA,hcs]
   · have hpl : plR l v = -1 := by unfold plR; rw [hI,if_neg hf]
     have d1 : decide ((-1 : Int) < 0) = true := rfl
     rw [hI,if_neg hf]
     simp only [go_sem,zaf,Nat.reduceAdd,Nat.reduceSub,Nat.reduceMul,Int.reduceToNat,reduceCtorEq,↓reduceIte,Int.reducePow,Nat.reducePow,Int.reduceMod,Nat.reduceLeDiff,Int.reduceLE,Int.reduceNe,Int.reduceEq,Nat.reduceEqDiff,Nat.reduceLT,Nat.reduceBEq,ty,Srf13,rplcS,cR,hle,hL,hex,zak,hpl,d1]
     refine ⟨_,Weak.refl _,?_⟩
     simp only [go_sem,zaf,Nat.reduceAdd,Nat.reduceSub,Nat.reduceMul,Int.reduceToNat,reduceCtorEq,↓reduceIte,Int.reducePow,Nat.reducePow,Int.reduceMod,Nat.reduceLeDiff,Int.reduceLE,Int.reduceNe,Int.reduceEq,Nat.reduceEqDiff,Nat.reduceLT,Nat.reduceBEq,ty,Srf13]
 · exact hp.elim
set_option maxHeartbeats 4000000 in
theorem rbh_sound : zbx Try.prog 32 rbhS := by
 refine fn_soundW (S := noS) (T := ty) zcu ty_ok zdj Try.func32 (c := Try.f32.body.getD .skip) (by kernel_rfl) (by kernel_rfl) (fun xs pins hp _ => ?_)
 unfold rbhS at hp ⊢
 split at hp
 · rename_i q c a _
   obtain ⟨⟨q0,q1⟩,c0,c1⟩ := hp
   have t1 : q.tmod 2147483648 = q % 2147483648 := Int.tmod_eq_emod_of_nonneg q0
   have t2 : c.tmod 2147483648 = c % 2147483648 := Int.tmod_eq_emod_of_nonneg c0
   have w1 : (q % 2147483648 + c % 2147483648 + 9223372036854775808) % 18446744073709551616 - 9223372036854775808 = q % 2147483648 + c % 2147483648 := by omega
   have t3 : (q % 2147483648 + c % 2147483648).tmod 2147483648 = bhI q c := by
     rw [Int.tmod_eq_emod_of_nonneg (by omega)]; unfold bhI; omega
   have d1 : decide (bhI q c < 0) = false := decide_eq_false (by unfold bhI; omega)
   have z1 : ¬ (2147483648 : Int) = 0 := by decide
   refine ⟨by simp,?_⟩
   unfold Try.f32
   simp only [go_sem,coe,zaf,Nat.reduceAdd,Nat.reduceSub,Nat.reduceMul,Int.reduceToNat,reduceCtorEq,↓reduceIte,Int.reducePow,Nat.reducePow,Int.reduceMod,Nat.reduceLeDiff,Int.reduceLE,Int.reduceNe,Int.reduceEq,Nat.reduceEqDiff,Nat.reduceLT,Nat.reduceBEq,ty,noS,t1,t2,w1,t3,d1,z1]
   try (refine ⟨_,Weak.refl _,?_⟩)
   try simp only [go_sem,coe,zaf,Nat.reduceAdd,Nat.reduceSub,Nat.reduceMul,Int.reduceToNat,reduceCtorEq,↓reduceIte,Int.reducePow,Nat.reducePow,Int.reduceMod,Nat.reduceLeDiff,Int.reduceLE,Int.reduceNe,Int.reduceEq,Nat.reduceEqDiff,Nat.reduceLT,Nat.reduceBEq,ty,noS]
 · exact hp.elim
end
end Go.Proofs.Ytgpcnmajkcfgiaa
namespace Go.Proofs.Ytgpcnmajkcfgiaa
open Ax
def zbn (f : FuncId) : Option zay :=
 match f with
 | 15 => some zdv
 | 32 => some rbhS
 | _ => none
theorem Srak13_ok : Fns Try.prog zbn := by
 intro f s h
 unfold zbn at h
 split at h
 · injection h with h; subst h; exact ⟨⟨_,Try.func15,by kernel_rfl,by kernel_rfl⟩,rfnd_sound⟩
 · injection h with h; subst h; exact ⟨⟨_,Try.func32,by kernel_rfl,by kernel_rfl⟩,rbh_sound⟩
 · cases h
def rakPl : Plan := fun id => match id with
 | 14 => some []
 | 16 => some [(0,8),(1,8)]
 | _ => none
section
set_option maxRecDepth 100000
set_option maxHeartbeats 16000000
theorem rask_sound : zbx Try.prog 12 raskS := by
 refine fn_soundF (S := zbn) (T := ty) (pl := rakPl) zcu ty_ok Srak13_ok Try.func12 (c := Try.f12.body.getD .skip) (by kernel_rfl) (by kernel_rfl) (fun xs pins hp _ => ?_)
 unfold raskS at hp ⊢
 split at hp
 · rename_i xs f b c p e s rs h _
   obtain ⟨hr,l,rfl,hLt,hi⟩ := hp
   have hle : (l.map enA).length = l.length := by simp
   have hex : ∃ k : List En,l.map enA = k.map enA := ⟨l,rfl⟩
   have hL9 : l.length ≤ 9223372036854775807 := by omega
   have cR : ∀ (l : List En) f,coe ty 22 (.sg 3 (l.map enA) f) = .sg 3 (l.map enA) f := fun l f => by cases l <;> rfl
   have cS : ∀ (l : List Se) f,coe ty 46 (.sg 3 (l.map seA) f) = .sg 3 (l.map seA) f := fun l f => by cases l <;> rfl
   obtain ⟨I,hI⟩ : ∃ I,l.findIdx (isI p) = I := ⟨_,rfl⟩
   rw [zak]
   unfold askF
   rw [hI]
   refine ⟨by simp,?_⟩
   unfold Try.f12
   by_cases hp0 : p = 0
   · have q0 : decide (p = 0) = true := decide_eq_true hp0
     have hfn : True := trivial
     rw [if_pos hp0]
     simp (config := { maxSteps := 3000000 }) only [go_sem,zad,Nat.reduceAdd,Nat.reduceSub,Nat.reduceMul,Int.reduceToNat,reduceCtorEq,↓reduceIte,Int.reducePow,Nat.reducePow,Int.reduceMod,Nat.reduceLeDiff,Int.reduceLE,Int.reduceNe,Int.reduceEq,Nat.reduceEqDiff,Nat.reduceLT,Nat.reduceBEq,List.map_cons,List.map_nil,List.toList_toArray,Array.toList_append,Option.toArray_some,Option.toArray_none,Bool.and_self,ty,zbn,rakPl,zdv,rbhS,cR,hr,hle,hL9,hex,zak,hfn,q0,Int.toNat_natCast,Bool.not_true,Bool.not_false]
     repeat (first | refine And.intro (by omega) ?_ | refine And.intro ⟨by omega,by omega⟩ ?_)
     try (refine ⟨_,Weak.refl _,?_⟩)
     try simp only [go_sem,zad,Nat.reduceAdd,Nat.reduceSub,Nat.reduceMul,Int.reduceToNat,reduceCtorEq,↓reduceIte,Int.reducePow,Nat.reducePow,Int.reduceMod,Nat.reduceLeDiff,Int.reduceLE,Int.reduceNe,Int.reduceEq,Nat.reduceEqDiff,Nat.reduceLT,Nat.reduceBEq,List.map_cons,List.map_nil,List.toList_toArray,Array.toList_append,Option.toArray_some,Option.toArray_none,Bool.and_self,ty,zbn,anA]
   · have q0 : decide (p = 0) = false := decide_eq_false hp0
     rw [if_neg hp0]
     by_cases hf : I < l.length
     · rw [if_pos hf]
       have hil := hi _ (List.getElem_mem hf)
       obtain ⟨r,hr1⟩ : ∃ r,l[I] = r := ⟨_,rfl⟩
       rw [hr1] at hil
       obtain ⟨i1,e1,l1⟩ := r
       obtain ⟨hl20,hls⟩ := hil
       simp only at hl20 hls
       have hent : entI l I = ⟨i1,e1,l1⟩ := by unfold entI; rw [List.getElem?_eq_getElem hf,hr1]; rfl
       have hfn : fndA l p = .tup [.agg [.w (.int .i64 i1),.w (.int .i64 e1),.sg 3 (l1.map seA) false],.w (.bool true)] := by unfold fndA; rw [hI,if_pos hf,hent]; rfl
       rw [hent]
       unfold askE
       have hle1 : (l1.map seA).length = l1.length := by simp
       by_cases h2 : e < e1
       · have q3 : decide (e < e1) = true := decide_eq_true h2
         rw [if_neg (show ¬ e1 < e by omega),if_pos h2]
         simp (config := { maxSteps := 3000000 }) only [go_sem,zad,Nat.reduceAdd,Nat.reduceSub,Nat.reduceMul,Int.reduceToNat,reduceCtorEq,↓reduceIte,Int.reducePow,Nat.reducePow,Int.reduceMod,Nat.reduceLeDiff,Int.reduceLE,Int.reduceNe,Int.reduceEq,Nat.reduceEqDiff,Nat.reduceLT,Nat.reduceBEq,List.map_cons,List.map_nil,List.toList_toArray,Array.toList_append,Option.toArray_some,Option.toArray_none,Bool.and_self,ty,zbn,rakPl,zdv,rbhS,cR,hr,hle,hL9,hex,zak,hfn,q0,Int.toNat_natCast,Bool.not_true,Bool.not_false,cS,hle1,q3]
         repeat (first | refine And.intro (by omega) ?_ | refine And.intro ⟨by omega,by omega⟩ ?_)
         try (refine ⟨_,Weak.refl _,?_⟩)
         try simp only [go_sem,zad,Nat.reduceAdd,Nat.reduceSub,Nat.reduceMul,Int.reduceToNat,reduceCtorEq,↓reduceIte,Int.reducePow,Nat.reducePow,Int.reduceMod,Nat.reduceLeDiff,Int.reduceLE,Int.reduceNe,Int.reduceEq,Nat.reduceEqDiff,Nat.reduceLT,Nat.reduceBEq,List.map_cons,List.map_nil,List.toList_toArray,Array.toList_append,Option.toArray_some,Option.toArray_none,Bool.and_self,ty,zbn,anA]
       · have q3 : decide (e < e1) = false := decide_eq_false h2
         by_cases h1 : e1 < e
         · have q2 : decide (e1 < e) = true := decide_eq_true h1
           rw [if_pos h1]
           unfold begF
           by_cases hs : s = 0
           · have q7 : decide (s = 0) = true := decide_eq_true hs
             rw [if_pos hs]
             simp (config := { maxSteps := 3000000 }) only [go_sem,zad,Nat.reduceAdd,Nat.reduceSub,Nat.reduceMul,Int.reduceToNat,reduceCtorEq,↓reduceIte,Int.reducePow,Nat.reducePow,Int.reduceMod,Nat.reduceLeDiff,Int.reduceLE,Int.reduceNe,Int.reduceEq,Nat.reduceEqDiff,Nat.reduceLT,Nat.reduceBEq,List.map_cons,List.map_nil,List.toList_toArray,Array.toList_append,Option.toArray_some,Option.toArray_none,Bool.and_self,ty,zbn,rakPl,zdv,rbhS,cR,hr,hle,hL9,hex,zak,hfn,q0,Int.toNat_natCast,Bool.not_true,Bool.not_false,cS,hle1,q2,q3,q7]
             repeat (first | refine And.intro (by omega) ?_ | refine And.intro ⟨by omega,by omega⟩ ?_)
             try (refine ⟨_,Weak.refl _,?_⟩)
             try simp only [go_sem,zad,Nat.reduceAdd,Nat.reduceSub,Nat.reduceMul,Int.reduceToNat,reduceCtorEq,↓reduceIte,Int.reducePow,Nat.reducePow,Int.reduceMod,Nat.reduceLeDiff,Int.reduceLE,Int.reduceNe,Int.reduceEq,Nat.reduceEqDiff,Nat.reduceLT,Nat.reduceBEq,List.map_cons,List.map_nil,List.toList_toArray,Array.toList_append,Option.toArray_some,Option.toArray_none,Bool.and_self,ty,zbn,anA]
           · have q7 : decide (s = 0) = false := decide_eq_false hs
             rw [if_neg hs]
             simp (config := { maxSteps := 3000000 }) only [go_sem,zad,Nat.reduceAdd,Nat.reduceSub,Nat.reduceMul,Int.reduceToNat,reduceCtorEq,↓reduceIte,Int.reducePow,Nat.reducePow,Int.reduceMod,Nat.reduceLeDiff,Int.reduceLE,Int.reduceNe,Int.reduceEq,Nat.reduceEqDiff,Nat.reduceLT,Nat.reduceBEq,List.map_cons,List.map_nil,List.toList_toArray,Array.toList_append,Option.toArray_some,Option.toArray_none,Bool.and_self,ty,zbn,rakPl,zdv,rbhS,cR,hr,hle,hL9,hex,zak,hfn,q0,Int.toNat_natCast,Bool.not_true,Bool.not_false,cS,hle1,q2,q3,q7]
             repeat (first | refine And.intro (by omega) ?_ | refine And.intro ⟨by omega,by omega⟩ ?_)
             try (refine ⟨_,Weak.refl _,?_⟩)
             try simp only [go_sem,zad,Nat.reduceAdd,Nat.reduceSub,Nat.reduceMul,Int.reduceToNat,reduceCtorEq,↓reduceIte,Int.reducePow,Nat.reducePow,Int.reduceMod,Nat.reduceLeDiff,Int.reduceLE,Int.reduceNe,Int.reduceEq,Nat.reduceEqDiff,Nat.reduceLT,Nat.reduceBEq,List.map_cons,List.map_nil,List.toList_toArray,Array.toList_append,Option.toArray_some,Option.toArray_none,Bool.and_self,ty,zbn,anA]
         · have q2 : decide (e1 < e) = false := decide_eq_false h1
           rw [if_neg h1,if_neg h2]
           by_cases h3 : l1.length = 0
           · have q4 : decide ((l1.length : Int) = 0) = true := decide_eq_true (by omega)
             rw [if_pos h3]
             unfold begF
             by_cases hs : s = 0
             · have q7 : decide (s = 0) = true := decide_eq_true hs
               rw [if_pos hs]
               simp (config := { maxSteps := 3000000 }) only [go_sem,zad,Nat.reduceAdd,Nat.reduceSub,Nat.reduceMul,Int.reduceToNat,reduceCtorEq,↓reduceIte,Int.reducePow,Nat.reducePow,Int.reduceMod,Nat.reduceLeDiff,Int.reduceLE,Int.reduceNe,Int.reduceEq,Nat.reduceEqDiff,Nat.reduceLT,Nat.reduceBEq,List.map_cons,List.map_nil,List.toList_toArray,Array.toList_append,Option.toArray_some,Option.toArray_none,Bool.and_self,ty,zbn,rakPl,zdv,rbhS,cR,hr,hle,hL9,hex,zak,hfn,q0,Int.toNat_natCast,Bool.not_true,Bool.not_false,cS,hle1,q2,q3,q4,q7]
               repeat (first | refine And.intro (by omega) ?_ | refine And.intro ⟨by omega,by omega⟩ ?_)
               try (refine ⟨_,Weak.refl _,?_⟩)
               try simp only [go_sem,zad,Nat.reduceAdd,Nat.reduceSub,Nat.reduceMul,Int.reduceToNat,reduceCtorEq,↓reduceIte,Int.reducePow,Nat.reducePow,Int.reduceMod,Nat.reduceLeDiff,Int.reduceLE,Int.reduceNe,Int.reduceEq,Nat.reduceEqDiff,Nat.reduceLT,Nat.reduceBEq,List.map_cons,List.map_nil,List.toList_toArray,Array.toList_append,Option.toArray_some,Option.toArray_none,Bool.and_self,ty,zbn,anA]
             · have q7 : decide (s = 0) = false := decide_eq_false hs
               rw [if_neg hs]
               simp (config := { maxSteps := 3000000 }) only [go_sem,zad,Nat.reduceAdd,Nat.reduceSub,Nat.reduceMul,Int.reduceToNat,reduceCtorEq,↓reduceIte,Int.reducePow,Nat.reducePow,Int.reduceMod,Nat.reduceLeDiff,Int.reduceLE,Int.reduceNe,Int.reduceEq,Nat.reduceEqDiff,Nat.reduceLT,Nat.reduceBEq,List.map_cons,List.map_nil,List.toList_toArray,Array.toList_append,Option.toArray_some,Option.toArray_none,Bool.and_self,ty,zbn,rakPl,zdv,rbhS,cR,hr,hle,hL9,hex,zak,hfn,q0,Int.toNat_natCast,Bool.not_true,Bool.not_false,cS,hle1,q2,q3,q4,q7]
               repeat (first | refine And.intro (by omega) ?_ | refine And.intro ⟨by omega,by omega⟩ ?_)
               try (refine ⟨_,Weak.refl _,?_⟩)
               try simp only [go_sem,zad,Nat.reduceAdd,Nat.reduceSub,Nat.reduceMul,Int.reduceToNat,reduceCtorEq,↓reduceIte,Int.reducePow,Nat.reducePow,Int.reduceMod,Nat.reduceLeDiff,Int.reduceLE,Int.reduceNe,Int.reduceEq,Nat.reduceEqDiff,Nat.reduceLT,Nat.reduceBEq,List.map_cons,List.map_nil,List.toList_toArray,Array.toList_append,Option.toArray_some,Option.toArray_none,Bool.and_self,ty,zbn,anA]
           · have q4 : decide ((l1.length : Int) = 0) = false := decide_eq_false (by omega)
             rw [if_neg h3]
             simp (config := { maxSteps := 3000000 }) only [go_sem,zad,Nat.reduceAdd,Nat.reduceSub,Nat.reduceMul,Int.reduceToNat,reduceCtorEq,↓reduceIte,Int.reducePow,Nat.reducePow,Int.reduceMod,Nat.reduceLeDiff,Int.reduceLE,Int.reduceNe,Int.reduceEq,Nat.reduceEqDiff,Nat.reduceLT,Nat.reduceBEq,List.map_cons,List.map_nil,List.toList_toArray,Array.toList_append,Option.toArray_some,Option.toArray_none,Bool.and_self,ty,zbn,rakPl,zdv,cR,cS,hr,hle,hL9,hex,zak,hfn,q0,q2,q3,q4,hle1,Int.toNat_natCast,Bool.not_true,Bool.not_false]
             refine zed ⟨fun m σ => ∃ i : Nat,m = l1.length - i ∧ i ≤ l1.length ∧ (l1.drop i).findIdx (likeI s c) + i = l1.findIdx (likeI s c) ∧
               σ = ⟨[.junk,.junk,.junk,.rf 4 6 0 0,.junk,.junk,.junk,.rf 5 3 0 0,.junk,.w (.int .i64 l1.length),.w (.int .i64 i),.junk,.junk,.junk,.junk,.junk,.junk,.junk,.junk,.junk,.junk,.junk,.junk,.junk,.junk,.junk,.junk,.junk,.junk,.junk,.junk,.junk,.junk,.junk,.junk,.junk,.junk,.junk,.junk,.junk,.junk,.junk,.junk,.junk,.junk,.junk,.junk,.junk,.junk,.junk,.junk,.junk,.junk,.junk,.junk,.junk,.junk,.junk,.junk,.junk,.junk,.junk,.junk,.junk,.junk,.junk,.junk,.junk,.junk,.junk,.junk,.junk,.junk,.junk,.junk,.junk,.junk,.junk,.junk,.junk,.junk,.junk,.junk,.junk,.junk,.junk,.junk,.junk,.junk],[(4,.g 6 [.agg [.w (.int .i64 b),.w (.int .i64 c),.w (.int .i64 p),.w (.int .i64 e),.w (.int .i64 s),.sg 6 rs h]]),(5,.g 3 [.agg [.w (.int .i64 i1),.w (.int .i64 e1),.sg 3 (l1.map seA) false]])],6⟩,?_,?_⟩
             · refine ⟨_,_,zal [0,1,2,3,12,124] rfl rfl rfl ?_ ?_,0,rfl,by omega,by rw [List.drop_zero]; rfl,rfl⟩
               · simp only [ssT,zaq,zar,setSlot,gOf,AV.ren,renL,Blk.ren,Ax.look,Ax.put,reduceCtorEq,↓reduceIte,Nat.reduceEqDiff,Nat.reduceLT,Nat.reduceAdd,List.length_append,List.length_cons,List.length_nil,Option.some.injEq,zax]; try simp
               · simp only [ssT,zaq,zar,setSlot,gOf,AV.ren,renL,Blk.ren,Ax.look,Ax.put,reduceCtorEq,↓reduceIte,Nat.reduceEqDiff,Nat.reduceLT,Nat.reduceAdd,List.length_append,List.length_cons,List.length_nil,Option.some.injEq,zax]; try simp
             · rintro m σ ⟨i,rfl,hi2,hinv,rfl⟩
               have e2 : ((i : Int) + 1 + 9223372036854775808) % 18446744073709551616 - 9223372036854775808 = ((i + 1 : Nat) : Int) := by omega
               by_cases hil : i < l1.length
               · have d1 : decide ((i : Int) < l1.length) = true := decide_eq_true (by omega)
                 have hs1 := zfm l1 i hil
                 cases hv : likeI s c l1[i] with
                 | true =>
                   have hfi := find_at _ l1 i hil hv hinv
                   rw [hfi,if_pos hil]
                   have hsee : seeI l1 i = l1[i] := by unfold seeI; rw [List.getElem?_eq_getElem hil]; rfl
                   rw [hsee]
                   obtain ⟨q,hq1⟩ : ∃ q,l1[i] = q := ⟨_,rfl⟩
                   rw [hq1] at hs1 hv ⊢
                   obtain ⟨sq,sc,sb⟩ := q
                   have hs1 : slot (l1.map seA) i = .agg [.w (.int .i64 sq),.w (.int .i64 sc),.w (.int .i64 sb)] := hs1
                   have hvv := like_q hv
                   have d2 : decide (sq = s) = true := decide_eq_true hvv.1
                   have d3 : decide (sc = c) = true := decide_eq_true hvv.2
                   simp (config := { maxSteps := 3000000 }) only [go_sem,zad,Nat.reduceAdd,Nat.reduceSub,Nat.reduceMul,Int.reduceToNat,reduceCtorEq,↓reduceIte,Int.reducePow,Nat.reducePow,Int.reduceMod,Nat.reduceLeDiff,Int.reduceLE,Int.reduceNe,Int.reduceEq,Nat.reduceEqDiff,Nat.reduceLT,Nat.reduceBEq,List.map_cons,List.map_nil,List.toList_toArray,Array.toList_append,Option.toArray_some,Option.toArray_none,Bool.and_self,ty,zbn,rakPl,hle1,d1,d2,d3,hs1,hr,zac,zap,Int.toNat_natCast,Bool.not_true,Bool.not_false]
                   repeat (first | refine And.intro (by omega) ?_ | refine And.intro ⟨by omega,by omega⟩ ?_)
                   refine ⟨_,Weak.refl _,?_⟩
                   simp (config := { maxSteps := 3000000 }) only [go_sem,zad,Nat.reduceAdd,Nat.reduceSub,Nat.reduceMul,Int.reduceToNat,reduceCtorEq,↓reduceIte,Int.reducePow,Nat.reducePow,Int.reduceMod,Nat.reduceLeDiff,Int.reduceLE,Int.reduceNe,Int.reduceEq,Nat.reduceEqDiff,Nat.reduceLT,Nat.reduceBEq,List.map_cons,List.map_nil,List.toList_toArray,Array.toList_append,Option.toArray_some,Option.toArray_none,Bool.and_self,ty,zbn,rakPl]
                   try (refine ⟨_,Weak.refl _,?_⟩)
                   try simp only [go_sem,zad,Nat.reduceAdd,Nat.reduceSub,Nat.reduceMul,Int.reduceToNat,reduceCtorEq,↓reduceIte,Int.reducePow,Nat.reducePow,Int.reduceMod,Nat.reduceLeDiff,Int.reduceLE,Int.reduceNe,Int.reduceEq,Nat.reduceEqDiff,Nat.reduceLT,Nat.reduceBEq,List.map_cons,List.map_nil,List.toList_toArray,Array.toList_append,Option.toArray_some,Option.toArray_none,Bool.and_self,ty,zbn,anA]
                 | false =>
                   have hfi := zep _ l1 i hil hv hinv
                   obtain ⟨q,hq1⟩ : ∃ q,l1[i] = q := ⟨_,rfl⟩
                   rw [hq1] at hs1 hv
                   obtain ⟨sq,sc,sb⟩ := q
                   have hs1 : slot (l1.map seA) i = .agg [.w (.int .i64 sq),.w (.int .i64 sc),.w (.int .i64 sb)] := hs1
                   have hv : (decide (sq = s) && decide (sc = c)) = false := hv
                   cases d2 : decide (sq = s) with
                   | true =>
                     have d3 : decide (sc = c) = false := by rw [d2] at hv; exact hv
                     simp (config := { maxSteps := 3000000 }) only [go_sem,zad,Nat.reduceAdd,Nat.reduceSub,Nat.reduceMul,Int.reduceToNat,reduceCtorEq,↓reduceIte,Int.reducePow,Nat.reducePow,Int.reduceMod,Nat.reduceLeDiff,Int.reduceLE,Int.reduceNe,Int.reduceEq,Nat.reduceEqDiff,Nat.reduceLT,Nat.reduceBEq,List.map_cons,List.map_nil,List.toList_toArray,Array.toList_append,Option.toArray_some,Option.toArray_none,Bool.and_self,ty,zbn,rakPl,hle1,d1,d2,d3,e2,hs1,hr,zac,zap,Int.toNat_natCast,Bool.not_true,Bool.not_false]
                     repeat (first | refine And.intro (by omega) ?_ | refine And.intro ⟨by omega,by omega⟩ ?_)
                     refine ⟨l1.length - (i + 1),_,by omega,zal [0,1,2,3,4,5] rfl rfl rfl ?_ ?_,i + 1,rfl,by omega,hfi,rfl⟩
                     · simp only [ssT,zaq,zar,setSlot,gOf,AV.ren,renL,Blk.ren,Ax.look,Ax.put,reduceCtorEq,↓reduceIte,Nat.reduceEqDiff,Nat.reduceLT,Nat.reduceAdd,List.length_append,List.length_cons,List.length_nil,Option.some.injEq,zax]; try simp
                     · simp only [ssT,zaq,zar,setSlot,gOf,AV.ren,renL,Blk.ren,Ax.look,Ax.put,reduceCtorEq,↓reduceIte,Nat.reduceEqDiff,Nat.reduceLT,Nat.reduceAdd,List.length_append,List.length_cons,List.length_nil,Option.some.injEq,zax]; try simp
                   | false =>
                     simp (config := { maxSteps := 3000000 }) only [go_sem,zad,Nat.reduceAdd,Nat.reduceSub,Nat.reduceMul,Int.reduceToNat,reduceCtorEq,↓reduceIte,Int.reducePow,Nat.reducePow,Int.reduceMod,Nat.reduceLeDiff,Int.reduceLE,Int.reduceNe,Int.reduceEq,Nat.reduceEqDiff,Nat.reduceLT,Nat.reduceBEq,List.map_cons,List.map_nil,List.toList_toArray,Array.toList_append,Option.toArray_some,Option.toArray_none,Bool.and_self,ty,zbn,rakPl,hle1,d1,d2,e2,hs1,hr,zac,zap,Int.toNat_natCast,Bool.not_true,Bool.not_false]
                     repeat (first | refine And.intro (by omega) ?_ | refine And.intro ⟨by omega,by omega⟩ ?_)
                     refine ⟨l1.length - (i + 1),_,by omega,zal [0,1,2,3,4,5] rfl rfl rfl ?_ ?_,i + 1,rfl,by omega,hfi,rfl⟩
                     · simp only [ssT,zaq,zar,setSlot,gOf,AV.ren,renL,Blk.ren,Ax.look,Ax.put,reduceCtorEq,↓reduceIte,Nat.reduceEqDiff,Nat.reduceLT,Nat.reduceAdd,List.length_append,List.length_cons,List.length_nil,Option.some.injEq,zax]; try simp
                     · simp only [ssT,zaq,zar,setSlot,gOf,AV.ren,renL,Blk.ren,Ax.look,Ax.put,reduceCtorEq,↓reduceIte,Nat.reduceEqDiff,Nat.reduceLT,Nat.reduceAdd,List.length_append,List.length_cons,List.length_nil,Option.some.injEq,zax]; try simp
               · have d1 : decide ((i : Int) < l1.length) = false := decide_eq_false (by omega)
                 have hfi := find_end _ l1 i (by omega) hi2 hinv
                 rw [hfi,if_neg (by omega)]
                 have hN : ((l1.length : Int) - 1 + 9223372036854775808) % 18446744073709551616 - 9223372036854775808 = ((l1.length - 1 : Nat) : Int) := by omega
                 have hs2 := zfm l1 (l1.length - 1) (by omega)
                 have hlv := hls _ (List.getElem_mem (show l1.length - 1 < l1.length by omega))
                 have hsee : seeI l1 (l1.length - 1) = l1[l1.length - 1] := by unfold seeI; rw [List.getElem?_eq_getElem (show l1.length - 1 < l1.length by omega)]; rfl
                 rw [hsee]
                 obtain ⟨q,hq1⟩ : ∃ q,l1[l1.length - 1]'(by omega) = q := ⟨_,rfl⟩
                 rw [hq1] at hs2 hlv ⊢
                 obtain ⟨sq,sc,sb⟩ := q
                 have hs2 : slot (l1.map seA) (l1.length - 1) = .agg [.w (.int .i64 sq),.w (.int .i64 sc),.w (.int .i64 sb)] := hs2
                 obtain ⟨⟨v1,v2⟩,⟨v3,v4⟩,v5⟩ := hlv
                 simp only at v1 v2 v3 v4
                 obtain ⟨M,hM⟩ : ∃ M,l1.length - 1 = M := ⟨_,rfl⟩
                 have hMl : M < l1.length := by omega
                 rw [hM] at hs2 hN
                 by_cases h5 : s = bhI sq sc
                 · have q6 : decide (s = bhI sq sc) = true := decide_eq_true h5
                   rw [if_pos h5]
                   simp (config := { maxSteps := 3000000 }) only [go_sem,zad,Nat.reduceAdd,Nat.reduceSub,Nat.reduceMul,Int.reduceToNat,reduceCtorEq,↓reduceIte,Int.reducePow,Nat.reducePow,Int.reduceMod,Nat.reduceLeDiff,Int.reduceLE,Int.reduceNe,Int.reduceEq,Nat.reduceEqDiff,Nat.reduceLT,Nat.reduceBEq,List.map_cons,List.map_nil,List.toList_toArray,Array.toList_append,Option.toArray_some,Option.toArray_none,Bool.and_self,ty,zbn,rakPl,rbhS,hle1,d1,hN,hs2,q6,hr,v1,v2,v3,v4,zac,zap,Int.toNat_natCast,Bool.not_true,Bool.not_false]
                   refine ⟨_,Weak.refl _,?_⟩
                   simp (config := { maxSteps := 3000000 }) only [go_sem,zad,Nat.reduceAdd,Nat.reduceSub,Nat.reduceMul,Int.reduceToNat,reduceCtorEq,↓reduceIte,Int.reducePow,Nat.reducePow,Int.reduceMod,Nat.reduceLeDiff,Int.reduceLE,Int.reduceNe,Int.reduceEq,Nat.reduceEqDiff,Nat.reduceLT,Nat.reduceBEq,List.map_cons,List.map_nil,List.toList_toArray,Array.toList_append,Option.toArray_some,Option.toArray_none,Bool.and_self,ty,zbn,rakPl,rbhS,hle1,d1,hN,hs2,q6,hr,v1,v2,v3,v4,zac,zap,Int.toNat_natCast,Bool.not_true,Bool.not_false]
                   repeat (first | refine And.intro (by omega) ?_ | refine And.intro ⟨by omega,by omega⟩ ?_)
                   try (refine ⟨_,Weak.refl _,?_⟩)
                   try simp only [go_sem,zad,Nat.reduceAdd,Nat.reduceSub,Nat.reduceMul,Int.reduceToNat,reduceCtorEq,↓reduceIte,Int.reducePow,Nat.reducePow,Int.reduceMod,Nat.reduceLeDiff,Int.reduceLE,Int.reduceNe,Int.reduceEq,Nat.reduceEqDiff,Nat.reduceLT,Nat.reduceBEq,List.map_cons,List.map_nil,List.toList_toArray,Array.toList_append,Option.toArray_some,Option.toArray_none,Bool.and_self,ty,zbn,anA]
                 · have q6 : decide (s = bhI sq sc) = false := decide_eq_false h5
                   rw [if_neg h5]
                   simp (config := { maxSteps := 3000000 }) only [go_sem,zad,Nat.reduceAdd,Nat.reduceSub,Nat.reduceMul,Int.reduceToNat,reduceCtorEq,↓reduceIte,Int.reducePow,Nat.reducePow,Int.reduceMod,Nat.reduceLeDiff,Int.reduceLE,Int.reduceNe,Int.reduceEq,Nat.reduceEqDiff,Nat.reduceLT,Nat.reduceBEq,List.map_cons,List.map_nil,List.toList_toArray,Array.toList_append,Option.toArray_some,Option.toArray_none,Bool.and_self,ty,zbn,rakPl,rbhS,hle1,d1,hN,hs2,q6,hr,v1,v2,v3,v4,zac,zap,Int.toNat_natCast,Bool.not_true,Bool.not_false]
                   refine ⟨_,Weak.refl _,?_⟩
                   simp (config := { maxSteps := 3000000 }) only [go_sem,zad,Nat.reduceAdd,Nat.reduceSub,Nat.reduceMul,Int.reduceToNat,reduceCtorEq,↓reduceIte,Int.reducePow,Nat.reducePow,Int.reduceMod,Nat.reduceLeDiff,Int.reduceLE,Int.reduceNe,Int.reduceEq,Nat.reduceEqDiff,Nat.reduceLT,Nat.reduceBEq,List.map_cons,List.map_nil,List.toList_toArray,Array.toList_append,Option.toArray_some,Option.toArray_none,Bool.and_self,ty,zbn,rakPl,rbhS,hle1,d1,hN,hs2,q6,hr,v1,v2,v3,v4,zac,zap,Int.toNat_natCast,Bool.not_true,Bool.not_false]
                   repeat (first | refine And.intro (by omega) ?_ | refine And.intro ⟨by omega,by omega⟩ ?_)
                   try (refine ⟨_,Weak.refl _,?_⟩)
                   try simp only [go_sem,zad,Nat.reduceAdd,Nat.reduceSub,Nat.reduceMul,Int.reduceToNat,reduceCtorEq,↓reduceIte,Int.reducePow,Nat.reducePow,Int.reduceMod,Nat.reduceLeDiff,Int.reduceLE,Int.reduceNe,Int.reduceEq,Nat.reduceEqDiff,Nat.reduceLT,Nat.reduceBEq,List.map_cons,List.map_nil,List.toList_toArray,Array.toList_append,Option.toArray_some,Option.toArray_none,Bool.and_self,ty,zbn,anA]
     · have hfn : fndA l p = .tup [.agg [.w (.int .i64 0),.w (.int .i64 0),.sg 3 [] true],.w (.bool false)] := by unfold fndA; rw [hI,if_neg hf]
       rw [if_neg hf]
       unfold begF
       by_cases hs : s = 0
       · have q7 : decide (s = 0) = true := decide_eq_true hs
         rw [if_pos hs]
         simp (config := { maxSteps := 3000000 }) only [go_sem,zad,Nat.reduceAdd,Nat.reduceSub,Nat.reduceMul,Int.reduceToNat,reduceCtorEq,↓reduceIte,Int.reducePow,Nat.reducePow,Int.reduceMod,Nat.reduceLeDiff,Int.reduceLE,Int.reduceNe,Int.reduceEq,Nat.reduceEqDiff,Nat.reduceLT,Nat.reduceBEq,List.map_cons,List.map_nil,List.toList_toArray,Array.toList_append,Option.toArray_some,Option.toArray_none,Bool.and_self,ty,zbn,rakPl,zdv,rbhS,cR,hr,hle,hL9,hex,zak,hfn,q0,Int.toNat_natCast,Bool.not_true,Bool.not_false,cS,q7]
         repeat (first | refine And.intro (by omega) ?_ | refine And.intro ⟨by omega,by omega⟩ ?_)
         try (refine ⟨_,Weak.refl _,?_⟩)
         try simp only [go_sem,zad,Nat.reduceAdd,Nat.reduceSub,Nat.reduceMul,Int.reduceToNat,reduceCtorEq,↓reduceIte,Int.reducePow,Nat.reducePow,Int.reduceMod,Nat.reduceLeDiff,Int.reduceLE,Int.reduceNe,Int.reduceEq,Nat.reduceEqDiff,Nat.reduceLT,Nat.reduceBEq,List.map_cons,List.map_nil,List.toList_toArray,Array.toList_append,Option.toArray_some,Option.toArray_none,Bool.and_self,ty,zbn,anA]
       · have q7 : decide (s = 0) = false := decide_eq_false hs
         rw [if_neg hs]
         simp (config := { maxSteps := 3000000 }) only [go_sem,zad,Nat.reduceAdd,Nat.reduceSub,Nat.reduceMul,Int.reduceToNat,reduceCtorEq,↓reduceIte,Int.reducePow,Nat.reducePow,Int.reduceMod,Nat.reduceLeDiff,Int.reduceLE,Int.reduceNe,Int.reduceEq,Nat.reduceEqDiff,Nat.reduceLT,Nat.reduceBEq,List.map_cons,List.map_nil,List.toList_toArray,Array.toList_append,Option.toArray_some,Option.toArray_none,Bool.and_self,ty,zbn,rakPl,zdv,rbhS,cR,hr,hle,hL9,hex,zak,hfn,q0,Int.toNat_natCast,Bool.not_true,Bool.not_false,cS,q7]
         repeat (first | refine And.intro (by omega) ?_ | refine And.intro ⟨by omega,by omega⟩ ?_)
         try (refine ⟨_,Weak.refl _,?_⟩)
         try simp only [go_sem,zad,Nat.reduceAdd,Nat.reduceSub,Nat.reduceMul,Int.reduceToNat,reduceCtorEq,↓reduceIte,Int.reducePow,Nat.reducePow,Int.reduceMod,Nat.reduceLeDiff,Int.reduceLE,Int.reduceNe,Int.reduceEq,Nat.reduceEqDiff,Nat.reduceLT,Nat.reduceBEq,List.map_cons,List.map_nil,List.toList_toArray,Array.toList_append,Option.toArray_some,Option.toArray_none,Bool.and_self,ty,zbn,anA]
 · exact hp.elim
end
end Go.Proofs.Ytgpcnmajkcfgiaa
namespace Go.Proofs.Ytgpcnmajkcfgiaa
open Ax
theorem zec (id s : Nat) (zs : List AV) : ∀ (l : List Se),fgL id s zs (l.map seA) = l.map seA
 | [] => rfl
 | x :: r => by simp only [List.map_cons,fgL,zec id s zs r]; rfl
def notLt (p : Int) : En → Bool := fun e => !decide (e.i < p)
theorem notLt_past (p : Int) : ∀ l : List En,(∀ e ∈ l,e.i ≠ p) → l.findIdx (notLt p) = l.findIdx (pastI p)
 | [],_ => rfl
 | x :: l,h => by
   have h1 := h x (by simp)
   have : notLt p x = pastI p x := by
     unfold notLt pastI
     by_cases h2 : x.i < p
     · rw [decide_eq_true h2,decide_eq_false (by omega)]; rfl
     · rw [decide_eq_false h2,decide_eq_true (by omega)]; rfl
   rw [List.findIdx_cons,List.findIdx_cons,this,notLt_past p l (fun e he => h e (by simp [he]))]
def rput13S : zay
 | [.agg [.sg 3 xs f],.agg [.w (.int .i64 b),.w (.int .i64 c),.w (.int .i64 p),.w (.int .i64 e),.w (.int .i64 s),.sg 6 rs h]],[] => ⟨closedL rs = true ∧ ∃ l : List En,xs = l.map enA ∧ okL l,.agg [.sg 3 ((putF (xs.map uen) b c p e s).map enA) (bif decide (p = 0) then f else false)],[]⟩
 | _,_ => zcr
def zeu (f : FuncId) : Option zay :=
 match f with
 | 15 => some zdv
 | 36 => some rplcS
 | _ => none
theorem Srp13_ok : Fns Try.prog zeu := by
 intro f s h
 unfold zeu at h
 split at h
 · injection h with h; subst h; exact ⟨⟨_,Try.func15,by kernel_rfl,by kernel_rfl⟩,rfnd_sound⟩
 · injection h with h; subst h; exact ⟨⟨_,Try.func36,by kernel_rfl,by kernel_rfl⟩,rplc_sound⟩
 · cases h
def rpPl : XPlan := fun id => match id with
 | 9 => .wks
 | 13 => .prs [(4,5)]
 | 16 => .prs []
 | 18 => .prs [(5,6),(5,7),(5,9),(8,9),(5,10),(8,10),(5,12),(8,12)]
 | _ => .std
section
set_option maxRecDepth 100000
set_option maxHeartbeats 16000000
theorem rput13_sound : zbx Try.prog 18 rput13S := by
 refine zca (S := zeu) (SO := noO) (T := ty) zcu ty_ok Srp13_ok noO_ok Try.func18 (c := Try.f18.body.getD .skip) (by kernel_rfl) (fun xs pins hp _ => ?_)
 unfold rput13S at hp ⊢
 split at hp
 · rename_i xs f b c p e s rs h _
   obtain ⟨hr,l,rfl,hLt,hi⟩ := hp
   have hle : (l.map enA).length = l.length := by simp
   have hex : ∃ k : List En,l.map enA = k.map enA := ⟨l,rfl⟩
   have hL9 : l.length ≤ 9223372036854775807 := by omega
   have cR : ∀ (l : List En) f,coe ty 22 (.sg 3 (l.map enA) f) = .sg 3 (l.map enA) f := fun l f => by cases l <;> rfl
   have cS : ∀ (l : List Se) f,coe ty 46 (.sg 3 (l.map seA) f) = .sg 3 (l.map seA) f := fun l f => by cases l <;> rfl
   obtain ⟨I,hI⟩ : ∃ I,l.findIdx (isI p) = I := ⟨_,rfl⟩
   rw [zak]
   unfold putF
   rw [hI]
   refine ⟨by simp,rpPl,by kernel_rfl,?_⟩
   unfold Try.f18
   by_cases hp0 : p = 0
   · have q0 : decide (p = 0) = true := decide_eq_true hp0
     have hfn : True := trivial
     rw [if_pos hp0]
     iterate 3
       try rw [zaa]
       try simp (config := { maxSteps := 3000000 }) only [go_sem,zaa,Nat.reduceAdd,Nat.reduceSub,Nat.reduceMul,Int.reduceToNat,reduceCtorEq,↓reduceIte,Int.reducePow,Nat.reducePow,Int.reduceMod,Nat.reduceLeDiff,Int.reduceLE,Int.reduceNe,Int.reduceEq,Nat.reduceEqDiff,Nat.reduceLT,Nat.reduceBEq,List.map_cons,List.map_nil,List.toList_toArray,Array.toList_append,Option.toArray_some,Option.toArray_none,Bool.and_self,-zaa,ty,zeu,rpPl,zdv,rplcS,cR,cS,hr,hle,hL9,hex,zak,hfn,q0,zac,zab,zap,zam,zbg,zec,Int.toNat_natCast,Bool.not_true,Bool.not_false]
       repeat (refine And.intro (by first | omega | exact ⟨by omega,by omega⟩ | (unfold top; omega)) ?_)
     try (refine ⟨_,Weak.refl _,?_⟩)
     try simp only [go_sem,zaa,Nat.reduceAdd,Nat.reduceSub,Nat.reduceMul,Int.reduceToNat,reduceCtorEq,↓reduceIte,Int.reducePow,Nat.reducePow,Int.reduceMod,Nat.reduceLeDiff,Int.reduceLE,Int.reduceNe,Int.reduceEq,Nat.reduceEqDiff,Nat.reduceLT,Nat.reduceBEq,List.map_cons,List.map_nil,List.toList_toArray,Array.toList_append,Option.toArray_some,Option.toArray_none,Bool.and_self,ty,zeu,zab,q0,cond_true]
   · have q0 : decide (p = 0) = false := decide_eq_false hp0
     rw [if_neg hp0]
     have hW : (if (((1 : Nat) : Int) - 5 + 9223372036854775808) % 18446744073709551616 - 9223372036854775808 > 0 then (((1 : Nat) : Int) - 5 + 9223372036854775808) % 18446744073709551616 - 9223372036854775808 else (0 : Int)) = ((0 : Nat) : Int) := by decide
     by_cases hf : I < l.length
     · rw [if_pos hf]
       have hil := hi _ (List.getElem_mem hf)
       obtain ⟨r,hr1⟩ : ∃ r,l[I] = r := ⟨_,rfl⟩
       rw [hr1] at hil
       obtain ⟨i1,e1,l1⟩ := r
       simp only at hil
       have hent : entI l I = ⟨i1,e1,l1⟩ := by unfold entI; rw [List.getElem?_eq_getElem hf,hr1]; rfl
       have hfn : fndA l p = .tup [.agg [.w (.int .i64 i1),.w (.int .i64 e1),.sg 3 (l1.map seA) false],.w (.bool true)] := by unfold fndA; rw [hI,if_pos hf,hent]; rfl
       have hpl : plR l p = (I : Nat) := by unfold plR; rw [hI,if_pos hf]
       have hpos : 0 < l.length := by omega
       have hset : ∀ ls,newL (oldL ⟨i1,e1,l1⟩ e) s c b = ls → setF l b c p e s = l.set I ⟨p,e,ls⟩ := fun ls h => by unfold setF; rw [hI,hent,h]
       have hle1 : (l1.map seA).length = l1.length := by simp
       have d0 : decide (0 < l.length) = true := decide_eq_true hpos
       have hs1 : slot (l.map enA) I = .agg [.w (.int .i64 i1),.w (.int .i64 e1),.sg 3 (l1.map seA) false] := by rw [zbw l I hf,hr1]; rfl
       have hd3 : List.drop 3 [AV.w (.int .i64 i1),.w (.int .i64 e1),.sg 3 (l1.map seA) false] = [] := rfl
       have hu : ∀ x : En,((l.set I x).map enA).length = l.length := fun x => by simp
       by_cases he : e1 = e
       · have q2 : decide (e1 = e) = true := decide_eq_true he
         cases hl1 : l1 with
         | nil =>
           subst hl1
           simp only [List.map_nil] at hfn hs1 hd3 hle1
           have hnw : newL (oldL ⟨i1,e1,[]⟩ e) s c b = [⟨s,c,b⟩] := by unfold oldL; rw [if_pos he]; rfl
           rw [hset _ hnw]
           have hk1 : decide (0 + 1 ≤ [AV.agg [.w (.int .i64 s),.w (.int .i64 c),.w (.int .i64 b)]].length) = true := rfl
           have hk2 : List.take 1 [AV.agg [.w (.int .i64 s),.w (.int .i64 c),.w (.int .i64 b)]] = [AV.agg [.w (.int .i64 s),.w (.int .i64 c),.w (.int .i64 b)]] := rfl
           have t3 : setSlot (l.map enA) I (.agg [.w (.int .i64 p),.w (.int .i64 e),.sg 3 ([AV.agg [.w (.int .i64 s),.w (.int .i64 c),.w (.int .i64 b)]]) false]) = (l.set I ⟨p,e,[⟨s,c,b⟩]⟩).map enA := zdu ⟨p,e,[⟨s,c,b⟩]⟩ l I hf
           have hk3 : decide (0 + l.length ≤ ((l.set I ⟨p,e,[⟨s,c,b⟩]⟩).map enA).length) = true := decide_eq_true (by simp)
           have hk4 : List.take l.length ((l.set I ⟨p,e,[⟨s,c,b⟩]⟩).map enA) = (l.set I ⟨p,e,[⟨s,c,b⟩]⟩).map enA := List.take_of_length_le (by simp)
           iterate 16
             try rw [zaa]
             try simp (config := { maxSteps := 3000000 }) only [go_sem,zaa,Nat.reduceAdd,Nat.reduceSub,Nat.reduceMul,Int.reduceToNat,reduceCtorEq,↓reduceIte,Int.reducePow,Nat.reducePow,Int.reduceMod,Nat.reduceLeDiff,Int.reduceLE,Int.reduceNe,Int.reduceEq,Nat.reduceEqDiff,Nat.reduceLT,Nat.reduceBEq,List.map_cons,List.map_nil,List.toList_toArray,Array.toList_append,Option.toArray_some,Option.toArray_none,Bool.and_self,-zaa,ty,zeu,rpPl,zdv,rplcS,cR,cS,hr,hle,hL9,hex,zak,hfn,q0,zac,zab,zap,zam,zbg,zec,Int.toNat_natCast,Bool.not_true,Bool.not_false,hW,q2,hle1]
             repeat (refine And.intro (by first | omega | exact ⟨by omega,by omega⟩ | (unfold top; omega)) ?_)
           unfold wsF
           refine ⟨_,_,zbj 316 3 7 ([AV.agg [.w (.int .i64 s),.w (.int .i64 c),.w (.int .i64 b)]]) rfl rfl (by simp [slot,AV.ids]),?_⟩
           simp only [fgL,fgH,AV.fg,Blk.fg,Nat.reduceBEq,cond_true,cond_false,Bool.and_true,beq_self_eq_true,Bool.true_and,List.drop_zero,zbg,zec,hk1,hk2]
           iterate 10
             try rw [zaa]
             try simp (config := { maxSteps := 3000000 }) only [go_sem,zaa,Nat.reduceAdd,Nat.reduceSub,Nat.reduceMul,Int.reduceToNat,reduceCtorEq,↓reduceIte,Int.reducePow,Nat.reducePow,Int.reduceMod,Nat.reduceLeDiff,Int.reduceLE,Int.reduceNe,Int.reduceEq,Nat.reduceEqDiff,Nat.reduceLT,Nat.reduceBEq,List.map_cons,List.map_nil,List.toList_toArray,Array.toList_append,Option.toArray_some,Option.toArray_none,Bool.and_self,-zaa,ty,zeu,rpPl,zdv,rplcS,cR,cS,hr,hle,hL9,hex,zak,hfn,q0,zac,zab,zap,zam,zbg,zec,Int.toNat_natCast,Bool.not_true,Bool.not_false,hW,q2,hle1,hpl,d0,t3,hu,hs1,hd3]
             repeat (refine And.intro (by first | omega | exact ⟨by omega,by omega⟩ | (unfold top; omega)) ?_)
           refine ⟨_,zbj 492 3 69 ((l.set I ⟨p,e,[⟨s,c,b⟩]⟩).map enA) rfl (zab _) (by simp [slot,AV.ids,idsL]),?_⟩
           simp only [fgL,fgH,AV.fg,Blk.fg,Nat.reduceBEq,cond_true,cond_false,Bool.and_true,beq_self_eq_true,Bool.true_and,List.drop_zero,zbg,zec,hk1,hk2,hk3,hk4]
           simp only [go_sem,zaa,Nat.reduceAdd,Nat.reduceSub,Nat.reduceMul,Int.reduceToNat,reduceCtorEq,↓reduceIte,Int.reducePow,Nat.reducePow,Int.reduceMod,Nat.reduceLeDiff,Int.reduceLE,Int.reduceNe,Int.reduceEq,Nat.reduceEqDiff,Nat.reduceLT,Nat.reduceBEq,List.map_cons,List.map_nil,List.toList_toArray,Array.toList_append,Option.toArray_some,Option.toArray_none,Bool.and_self,ty,zeu,zab,hr,zai,q0,cond_false]
         | cons y l2 =>
           have hp1 : 0 < l1.length := by rw [hl1]; simp
           have hnw : newL (oldL ⟨i1,e1,l1⟩ e) s c b = newL l1 s c b := by unfold oldL; rw [if_pos he]
           rw [hset _ hnw]
           clear hl1
           have dp1 : decide (0 < l1.length) = true := decide_eq_true hp1
           obtain ⟨m,hm⟩ : ∃ m,l1.length + 1 = m := ⟨_,rfl⟩
           have hm5 : m - 5 ≤ m := by omega
           have hnk : ((l1 ++ [(⟨s,c,b⟩ : Se)]).map seA).length = m := by simp; omega
           have happ : l1.map seA ++ [AV.agg [.w (.int .i64 s),.w (.int .i64 c),.w (.int .i64 b)]] = (l1 ++ [(⟨s,c,b⟩ : Se)]).map seA := by simp [seA]
           have hk1 : decide (m - 5 + (m - (m - 5)) ≤ ((l1 ++ [(⟨s,c,b⟩ : Se)]).map seA).length) = true := decide_eq_true (by omega)
           have hk2 : List.take (m - (m - 5)) (List.drop (m - 5) ((l1 ++ [(⟨s,c,b⟩ : Se)]).map seA)) = List.map seA (newL l1 s c b) := by
             rw [List.take_of_length_le (by rw [List.length_drop]; omega),← List.map_drop]
             unfold newL lst5
             rw [List.length_append,List.length_singleton,hm]
           have hW : (if (((m : Nat) : Int) - 5 + 9223372036854775808) % 18446744073709551616 - 9223372036854775808 > 0 then (((m : Nat) : Int) - 5 + 9223372036854775808) % 18446744073709551616 - 9223372036854775808 else (0 : Int)) = ((m - 5 : Nat) : Int) := by split <;> omega
           have t3 : setSlot (l.map enA) I (.agg [.w (.int .i64 p),.w (.int .i64 e),.sg 3 ((newL l1 s c b).map seA) false]) = (l.set I ⟨p,e,newL l1 s c b⟩).map enA := zdu ⟨p,e,newL l1 s c b⟩ l I hf
           have hk3 : decide (0 + l.length ≤ ((l.set I ⟨p,e,newL l1 s c b⟩).map enA).length) = true := decide_eq_true (by simp)
           have hk4 : List.take l.length ((l.set I ⟨p,e,newL l1 s c b⟩).map enA) = (l.set I ⟨p,e,newL l1 s c b⟩).map enA := List.take_of_length_le (by simp)
           iterate 16
             try rw [zaa]
             try simp (config := { maxSteps := 3000000 }) only [go_sem,zaa,Nat.reduceAdd,Nat.reduceSub,Nat.reduceMul,Int.reduceToNat,reduceCtorEq,↓reduceIte,Int.reducePow,Nat.reducePow,Int.reduceMod,Nat.reduceLeDiff,Int.reduceLE,Int.reduceNe,Int.reduceEq,Nat.reduceEqDiff,Nat.reduceLT,Nat.reduceBEq,List.map_cons,List.map_nil,List.toList_toArray,Array.toList_append,Option.toArray_some,Option.toArray_none,Bool.and_self,-zaa,ty,zeu,rpPl,zdv,rplcS,cR,cS,hr,hle,hL9,hex,zak,hfn,q0,zac,zab,zap,zam,zbg,zec,Int.toNat_natCast,Bool.not_true,Bool.not_false,hW,q2,hle1,happ,hm,hnk,dp1]
             repeat (refine And.intro (by first | omega | exact ⟨by omega,by omega⟩ | (unfold top; omega)) ?_)
           unfold wsF
           refine ⟨_,_,zbj 316 3 7 ((l1 ++ [(⟨s,c,b⟩ : Se)]).map seA) rfl (zac _) (by simp [slot,AV.ids]),?_⟩
           simp only [fgL,fgH,AV.fg,Blk.fg,Nat.reduceBEq,cond_true,cond_false,Bool.and_true,beq_self_eq_true,Bool.true_and,List.drop_zero,zbg,zec,hk1,hk2]
           iterate 10
             try rw [zaa]
             try simp (config := { maxSteps := 3000000 }) only [go_sem,zaa,Nat.reduceAdd,Nat.reduceSub,Nat.reduceMul,Int.reduceToNat,reduceCtorEq,↓reduceIte,Int.reducePow,Nat.reducePow,Int.reduceMod,Nat.reduceLeDiff,Int.reduceLE,Int.reduceNe,Int.reduceEq,Nat.reduceEqDiff,Nat.reduceLT,Nat.reduceBEq,List.map_cons,List.map_nil,List.toList_toArray,Array.toList_append,Option.toArray_some,Option.toArray_none,Bool.and_self,-zaa,ty,zeu,rpPl,zdv,rplcS,cR,cS,hr,hle,hL9,hex,zak,hfn,q0,zac,zab,zap,zam,zbg,zec,Int.toNat_natCast,Bool.not_true,Bool.not_false,hW,q2,hle1,hpl,d0,t3,hu,hs1,hd3]
             repeat (refine And.intro (by first | omega | exact ⟨by omega,by omega⟩ | (unfold top; omega)) ?_)
           refine ⟨_,zbj 492 3 69 ((l.set I ⟨p,e,newL l1 s c b⟩).map enA) rfl (zab _) (by simp [slot,AV.ids,idsL]),?_⟩
           simp only [fgL,fgH,AV.fg,Blk.fg,Nat.reduceBEq,cond_true,cond_false,Bool.and_true,beq_self_eq_true,Bool.true_and,List.drop_zero,zbg,zec,hk1,hk2,hk3,hk4]
           simp only [go_sem,zaa,Nat.reduceAdd,Nat.reduceSub,Nat.reduceMul,Int.reduceToNat,reduceCtorEq,↓reduceIte,Int.reducePow,Nat.reducePow,Int.reduceMod,Nat.reduceLeDiff,Int.reduceLE,Int.reduceNe,Int.reduceEq,Nat.reduceEqDiff,Nat.reduceLT,Nat.reduceBEq,List.map_cons,List.map_nil,List.toList_toArray,Array.toList_append,Option.toArray_some,Option.toArray_none,Bool.and_self,ty,zeu,zab,hr,zai,q0,cond_false]
       · have q2 : decide (e1 = e) = false := decide_eq_false he
         have hnw : newL (oldL ⟨i1,e1,l1⟩ e) s c b = [⟨s,c,b⟩] := by unfold oldL; rw [if_neg he]; rfl
         rw [hset _ hnw]
         have hk1 : decide (0 + 1 ≤ [AV.agg [.w (.int .i64 s),.w (.int .i64 c),.w (.int .i64 b)]].length) = true := rfl
         have hk2 : List.take 1 [AV.agg [.w (.int .i64 s),.w (.int .i64 c),.w (.int .i64 b)]] = [AV.agg [.w (.int .i64 s),.w (.int .i64 c),.w (.int .i64 b)]] := rfl
         have t3 : setSlot (l.map enA) I (.agg [.w (.int .i64 p),.w (.int .i64 e),.sg 3 ([AV.agg [.w (.int .i64 s),.w (.int .i64 c),.w (.int .i64 b)]]) false]) = (l.set I ⟨p,e,[⟨s,c,b⟩]⟩).map enA := zdu ⟨p,e,[⟨s,c,b⟩]⟩ l I hf
         have hk3 : decide (0 + l.length ≤ ((l.set I ⟨p,e,[⟨s,c,b⟩]⟩).map enA).length) = true := decide_eq_true (by simp)
         have hk4 : List.take l.length ((l.set I ⟨p,e,[⟨s,c,b⟩]⟩).map enA) = (l.set I ⟨p,e,[⟨s,c,b⟩]⟩).map enA := List.take_of_length_le (by simp)
         iterate 16
           try rw [zaa]
           try simp (config := { maxSteps := 3000000 }) only [go_sem,zaa,Nat.reduceAdd,Nat.reduceSub,Nat.reduceMul,Int.reduceToNat,reduceCtorEq,↓reduceIte,Int.reducePow,Nat.reducePow,Int.reduceMod,Nat.reduceLeDiff,Int.reduceLE,Int.reduceNe,Int.reduceEq,Nat.reduceEqDiff,Nat.reduceLT,Nat.reduceBEq,List.map_cons,List.map_nil,List.toList_toArray,Array.toList_append,Option.toArray_some,Option.toArray_none,Bool.and_self,-zaa,ty,zeu,rpPl,zdv,rplcS,cR,cS,hr,hle,hL9,hex,zak,hfn,q0,zac,zab,zap,zam,zbg,zec,Int.toNat_natCast,Bool.not_true,Bool.not_false,hW,q2,hle1]
           repeat (refine And.intro (by first | omega | exact ⟨by omega,by omega⟩ | (unfold top; omega)) ?_)
         unfold wsF
         refine ⟨_,_,zbj 276 3 7 ([AV.agg [.w (.int .i64 s),.w (.int .i64 c),.w (.int .i64 b)]]) rfl rfl (by simp [slot,AV.ids]),?_⟩
         simp only [fgL,fgH,AV.fg,Blk.fg,Nat.reduceBEq,cond_true,cond_false,Bool.and_true,beq_self_eq_true,Bool.true_and,List.drop_zero,zbg,zec,hk1,hk2]
         iterate 10
           try rw [zaa]
           try simp (config := { maxSteps := 3000000 }) only [go_sem,zaa,Nat.reduceAdd,Nat.reduceSub,Nat.reduceMul,Int.reduceToNat,reduceCtorEq,↓reduceIte,Int.reducePow,Nat.reducePow,Int.reduceMod,Nat.reduceLeDiff,Int.reduceLE,Int.reduceNe,Int.reduceEq,Nat.reduceEqDiff,Nat.reduceLT,Nat.reduceBEq,List.map_cons,List.map_nil,List.toList_toArray,Array.toList_append,Option.toArray_some,Option.toArray_none,Bool.and_self,-zaa,ty,zeu,rpPl,zdv,rplcS,cR,cS,hr,hle,hL9,hex,zak,hfn,q0,zac,zab,zap,zam,zbg,zec,Int.toNat_natCast,Bool.not_true,Bool.not_false,hW,q2,hle1,hpl,d0,t3,hu,hs1,hd3]
           repeat (refine And.intro (by first | omega | exact ⟨by omega,by omega⟩ | (unfold top; omega)) ?_)
         refine ⟨_,zbj 452 3 69 ((l.set I ⟨p,e,[⟨s,c,b⟩]⟩).map enA) rfl (zab _) (by simp [slot,AV.ids,idsL]),?_⟩
         simp only [fgL,fgH,AV.fg,Blk.fg,Nat.reduceBEq,cond_true,cond_false,Bool.and_true,beq_self_eq_true,Bool.true_and,List.drop_zero,zbg,zec,hk1,hk2,hk3,hk4]
         simp only [go_sem,zaa,Nat.reduceAdd,Nat.reduceSub,Nat.reduceMul,Int.reduceToNat,reduceCtorEq,↓reduceIte,Int.reducePow,Nat.reducePow,Int.reduceMod,Nat.reduceLeDiff,Int.reduceLE,Int.reduceNe,Int.reduceEq,Nat.reduceEqDiff,Nat.reduceLT,Nat.reduceBEq,List.map_cons,List.map_nil,List.toList_toArray,Array.toList_append,Option.toArray_some,Option.toArray_none,Bool.and_self,ty,zeu,zab,hr,zai,q0,cond_false]
     · rw [if_neg hf]
       have hfn : fndA l p = .tup [.agg [.w (.int .i64 0),.w (.int .i64 0),.sg 3 [] true],.w (.bool false)] := by unfold fndA; rw [hI,if_neg hf]
       have hk1 : decide (0 + 1 ≤ [AV.agg [.w (.int .i64 s),.w (.int .i64 c),.w (.int .i64 b)]].length) = true := rfl
       have hk2 : List.take 1 [AV.agg [.w (.int .i64 s),.w (.int .i64 c),.w (.int .i64 b)]] = [AV.agg [.w (.int .i64 s),.w (.int .i64 c),.w (.int .i64 b)]] := rfl
       have hno : ∀ r ∈ l,r.i ≠ p := fun r hr he => by
         have h1 : l.find? (isI p) = none := by rw [lk_eq,hI,if_neg hf]
         rw [List.find?_eq_none] at h1
         exact h1 r hr (decide_eq_true he)
       have hK := notLt_past p l hno
       have hKl : l.findIdx (pastI p) ≤ l.length := List.findIdx_le_length
       iterate 16
         try rw [zaa]
         try simp (config := { maxSteps := 3000000 }) only [go_sem,zaa,Nat.reduceAdd,Nat.reduceSub,Nat.reduceMul,Int.reduceToNat,reduceCtorEq,↓reduceIte,Int.reducePow,Nat.reducePow,Int.reduceMod,Nat.reduceLeDiff,Int.reduceLE,Int.reduceNe,Int.reduceEq,Nat.reduceEqDiff,Nat.reduceLT,Nat.reduceBEq,List.map_cons,List.map_nil,List.toList_toArray,Array.toList_append,Option.toArray_some,Option.toArray_none,Bool.and_self,-zaa,ty,zeu,rpPl,zdv,rplcS,cR,cS,hr,hle,hL9,hex,zak,hfn,q0,zac,zab,zap,zam,zbg,zec,Int.toNat_natCast,Bool.not_true,Bool.not_false,hW]
         repeat (refine And.intro (by first | omega | exact ⟨by omega,by omega⟩ | (unfold top; omega)) ?_)
       unfold wsF
       refine ⟨_,_,zbj 276 3 7 ([AV.agg [.w (.int .i64 s),.w (.int .i64 c),.w (.int .i64 b)]]) rfl rfl (by simp [slot,AV.ids]),?_⟩
       simp only [fgL,fgH,AV.fg,Blk.fg,Nat.reduceBEq,cond_true,cond_false,Bool.and_true,beq_self_eq_true,Bool.true_and,List.drop_zero,zbg,zec,hk1,hk2]
       iterate 6
         try rw [zaa]
         try simp (config := { maxSteps := 3000000 }) only [go_sem,zaa,Nat.reduceAdd,Nat.reduceSub,Nat.reduceMul,Int.reduceToNat,reduceCtorEq,↓reduceIte,Int.reducePow,Nat.reducePow,Int.reduceMod,Nat.reduceLeDiff,Int.reduceLE,Int.reduceNe,Int.reduceEq,Nat.reduceEqDiff,Nat.reduceLT,Nat.reduceBEq,List.map_cons,List.map_nil,List.toList_toArray,Array.toList_append,Option.toArray_some,Option.toArray_none,Bool.and_self,-zaa,ty,zeu,rpPl,zdv,rplcS,cR,cS,hr,hle,hL9,hex,zak,hfn,q0,zac,zab,zap,zam,zbg,zec,Int.toNat_natCast,Bool.not_true,Bool.not_false]
         repeat (refine And.intro (by first | omega | exact ⟨by omega,by omega⟩ | (unfold top; omega)) ?_)
       refine zbq ⟨fun m σ => ∃ i : Nat,m = l.length - i ∧ i ≤ l.length ∧ (l.drop i).findIdx (notLt p) + i = l.findIdx (notLt p) ∧
         σ = ⟨[.junk,.junk,.rf 4 1 0 0,.rf 5 6 0 0,.rf 6 1 0 0,.junk,.junk,.junk,.rf 7 3 0 0,.sg 1 [] true,.w (.int .i64 i),.junk,.junk,.junk,.junk,.junk,.junk,.junk,.junk,.junk,.junk,.junk,.junk,.junk,.junk,.junk,.junk,.junk,.junk,.junk,.junk,.junk,.junk,.junk,.junk,.junk,.junk,.junk,.junk,.junk,.junk,.junk,.junk,.junk,.junk,.junk,.junk,.junk,.junk,.junk,.junk,.junk,.junk,.junk,.junk,.junk,.junk,.junk,.junk,.junk,.junk,.junk,.junk,.junk,.junk,.junk,.junk,.junk,.junk,.junk,.junk,.junk,.junk,.junk,.junk,.junk,.junk,.junk,.junk,.junk,.junk,.junk,.junk,.junk,.junk,.junk,.junk,.junk,.junk,.junk,.junk,.junk,.junk,.junk,.junk,.junk,.junk,.junk,.junk,.junk,.junk,.junk,.junk],
           [(4,.g 1 [.agg [.sg 3 (l.map enA) f]]),(5,.g 6 [.agg [.w (.int .i64 b),.w (.int .i64 c),.w (.int .i64 p),.w (.int .i64 e),.w (.int .i64 s),.sg 6 rs h]]),(6,.g 1 [.agg [.sg 3 [] true]]),(7,.g 3 [.agg [.w (.int .i64 p),.w (.int .i64 e),.sg 3 [.agg [.w (.int .i64 s),.w (.int .i64 c),.w (.int .i64 b)]] false]])],8⟩,?_,?_⟩
       · refine ⟨_,_,zal [0,1,2,3,4,12,20,396] rfl rfl rfl ?_ ?_,0,rfl,by omega,by rw [List.drop_zero]; rfl,rfl⟩
         · simp only [ssT,zaq,zar,setSlot,gOf,AV.ren,renL,Blk.ren,Ax.look,Ax.put,reduceCtorEq,↓reduceIte,Nat.reduceEqDiff,Nat.reduceLT,Nat.reduceAdd,List.length_append,List.length_cons,List.length_nil,Option.some.injEq,zai]; try simp
         · simp only [ssT,zaq,zar,setSlot,gOf,AV.ren,renL,Blk.ren,Ax.look,Ax.put,reduceCtorEq,↓reduceIte,Nat.reduceEqDiff,Nat.reduceLT,Nat.reduceAdd,List.length_append,List.length_cons,List.length_nil,Option.some.injEq,zai]; try simp
       · rintro m σ ⟨i,rfl,hi2,hinv,rfl⟩
         have e2 : ((i : Int) + 1 + 9223372036854775808) % 18446744073709551616 - 9223372036854775808 = ((i + 1 : Nat) : Int) := by omega
         by_cases hil : i < l.length
         · have d1 : decide ((i : Int) < l.length) = true := decide_eq_true (by omega)
           have hs1 := zbw l i hil
           cases hv : notLt p l[i] with
           | true =>
             have hfi := find_at _ l i hil hv hinv
             rw [hK] at hfi
             obtain ⟨r,hr1⟩ : ∃ r,l[i] = r := ⟨_,rfl⟩
             rw [hr1] at hs1 hv
             obtain ⟨i1,e1,l1⟩ := r
             have hs1 : slot (l.map enA) i = .agg [.w (.int .i64 i1),.w (.int .i64 e1),.sg 3 (l1.map seA) false] := hs1
             have d2 : decide (i1 < p) = false := by unfold notLt at hv; simpa using hv
             simp (config := { maxSteps := 3000000 }) only [go_sem,zaa,Nat.reduceAdd,Nat.reduceSub,Nat.reduceMul,Int.reduceToNat,reduceCtorEq,↓reduceIte,Int.reducePow,Nat.reducePow,Int.reduceMod,Nat.reduceLeDiff,Int.reduceLE,Int.reduceNe,Int.reduceEq,Nat.reduceEqDiff,Nat.reduceLT,Nat.reduceBEq,List.map_cons,List.map_nil,List.toList_toArray,Array.toList_append,Option.toArray_some,Option.toArray_none,Bool.and_self,ty,zeu,rpPl,hle,d1,d2,hs1,Int.toNat_natCast,Bool.not_true,Bool.not_false]
             refine ⟨⟨by omega,by omega⟩,?_⟩
             refine ⟨_,Weak.refl _,?_⟩
             have hti : List.take i (l.map enA) = (l.take i).map enA := List.map_take.symm
             have htd : List.drop i (l.map enA) = (l.drop i).map enA := List.map_drop.symm
             have hlt : ((l.take i).map enA).length = i := by simp; omega
             have hld : ((l.drop i).map enA).length = l.length - i := by simp
             have ht1 : (l.take i).map enA ++ [.agg [.w (.int .i64 p),.w (.int .i64 e),.sg 3 [.agg [.w (.int .i64 s),.w (.int .i64 c),.w (.int .i64 b)]] false]] = (l.take i ++ [(⟨p,e,[⟨s,c,b⟩]⟩ : En)]).map enA := by rw [List.map_append]; rfl
             have ht2 : (l.take i ++ [(⟨p,e,[⟨s,c,b⟩]⟩ : En)]).map enA ++ (l.drop i).map enA = (addF l b c p e s).map enA := by
               rw [← List.map_append]; unfold addF; rw [hfi]; simp [newL,lst5]
             have ht3 : ((l.take i ++ [(⟨p,e,[⟨s,c,b⟩]⟩ : En)]).map enA).length = i + 1 := by simp; omega
             have hal : ((addF l b c p e s).map enA).length = l.length + 1 := by rw [List.length_map,addF_len]
             have hsum : i + 1 + (l.length - i) = l.length + 1 := by omega
             have hl1 : (l.take i).length = i := by rw [List.length_take]; omega
             have hl2 : (l.drop i).length = l.length - i := List.length_drop
             have htd2 : List.take (l.length - i) ((l.drop i).map enA) = (l.drop i).map enA := List.take_of_length_le (by rw [List.length_map,hl2]; omega)
             have hb1 : (i ≤ l.length) = True := eq_true (by omega)
             have hb2 : (0 ≤ (i : Int)) = True := eq_true (by omega)
             have hb3 : ((i : Int) ≤ (l.length : Int)) = True := eq_true (by omega)
             have htt : i + 1 ≤ top ∧ l.length + 1 ≤ top := by unfold top; omega
             simp (config := { maxSteps := 3000000 }) only [go_sem,zaa,Nat.reduceAdd,Nat.reduceSub,Nat.reduceMul,Int.reduceToNat,reduceCtorEq,↓reduceIte,Int.reducePow,Nat.reducePow,Int.reduceMod,Nat.reduceLeDiff,Int.reduceLE,Int.reduceNe,Int.reduceEq,Nat.reduceEqDiff,Nat.reduceLT,Nat.reduceBEq,List.map_cons,List.map_nil,List.toList_toArray,Array.toList_append,Option.toArray_some,Option.toArray_none,Bool.and_self,-zaa,ty,zeu,rpPl,cR,hr,hle,hL9,zac,zab,zap,zam,zbg,zec,hti,htd,ht1,ht2,ht3,hal,hsum,htt,hlt,hld,hl1,hl2,htd2,hb1,hb2,hb3,List.length_map,List.length_append,List.length_singleton,List.drop_zero,Nat.sub_zero,Int.toNat_natCast,Bool.not_true,Bool.not_false]
             iterate 4
               try rw [zaa]
               try simp (config := { maxSteps := 3000000 }) only [go_sem,zaa,Nat.reduceAdd,Nat.reduceSub,Nat.reduceMul,Int.reduceToNat,reduceCtorEq,↓reduceIte,Int.reducePow,Nat.reducePow,Int.reduceMod,Nat.reduceLeDiff,Int.reduceLE,Int.reduceNe,Int.reduceEq,Nat.reduceEqDiff,Nat.reduceLT,Nat.reduceBEq,List.map_cons,List.map_nil,List.toList_toArray,Array.toList_append,Option.toArray_some,Option.toArray_none,Bool.and_self,-zaa,ty,zeu,rpPl,cR,hr,hle,hL9,zac,zab,zap,zam,zbg,zec,hti,htd,ht1,ht2,ht3,hal,hsum,htt,hlt,hld,hl1,hl2,htd2,hb1,hb2,hb3,List.length_map,List.length_append,List.length_singleton,List.drop_zero,Nat.sub_zero,Int.toNat_natCast,Bool.not_true,Bool.not_false]
               repeat (first | refine And.intro (by omega) ?_ | refine And.intro ⟨by omega,by omega⟩ ?_ | refine And.intro (by unfold top; omega) ?_)
             have hk3 : decide (0 + (l.length + 1) ≤ ((addF l b c p e s).map enA).length) = true := decide_eq_true (by omega)
             have hk4 : List.take (l.length + 1) ((addF l b c p e s).map enA) = (addF l b c p e s).map enA := List.take_of_length_le (by omega)
             refine ⟨_,zbj 240 3 102 ((addF l b c p e s).map enA) rfl (zab _) (by simp [slot,AV.ids,idsL]),?_⟩
             simp only [fgL,fgH,AV.fg,Blk.fg,Nat.reduceBEq,cond_true,cond_false,Bool.and_true,beq_self_eq_true,Bool.true_and,List.drop_zero,zbg,zec,hk3,hk4]
             simp only [go_sem,zaa,Nat.reduceAdd,Nat.reduceSub,Nat.reduceMul,Int.reduceToNat,reduceCtorEq,↓reduceIte,Int.reducePow,Nat.reducePow,Int.reduceMod,Nat.reduceLeDiff,Int.reduceLE,Int.reduceNe,Int.reduceEq,Nat.reduceEqDiff,Nat.reduceLT,Nat.reduceBEq,List.map_cons,List.map_nil,List.toList_toArray,Array.toList_append,Option.toArray_some,Option.toArray_none,Bool.and_self,ty,zeu,zab,hr,zai,q0,cond_false]
           | false =>
             have hfi := zep _ l i hil hv hinv
             obtain ⟨r,hr1⟩ : ∃ r,l[i] = r := ⟨_,rfl⟩
             rw [hr1] at hs1 hv
             obtain ⟨i1,e1,l1⟩ := r
             have hs1 : slot (l.map enA) i = .agg [.w (.int .i64 i1),.w (.int .i64 e1),.sg 3 (l1.map seA) false] := hs1
             have d2 : decide (i1 < p) = true := by unfold notLt at hv; simpa using hv
             simp (config := { maxSteps := 3000000 }) only [go_sem,zaa,Nat.reduceAdd,Nat.reduceSub,Nat.reduceMul,Int.reduceToNat,reduceCtorEq,↓reduceIte,Int.reducePow,Nat.reducePow,Int.reduceMod,Nat.reduceLeDiff,Int.reduceLE,Int.reduceNe,Int.reduceEq,Nat.reduceEqDiff,Nat.reduceLT,Nat.reduceBEq,List.map_cons,List.map_nil,List.toList_toArray,Array.toList_append,Option.toArray_some,Option.toArray_none,Bool.and_self,ty,zeu,rpPl,hle,d1,d2,hs1,hr,zab,zac,zam,zap,e2,Int.toNat_natCast,Bool.not_true,Bool.not_false]
             repeat (first | refine And.intro (by omega) ?_ | refine And.intro ⟨by omega,by omega⟩ ?_)
             refine ⟨l.length - (i + 1),_,by omega,zal [0,1,2,3,4,5,6,7] rfl rfl rfl ?_ ?_,i + 1,rfl,by omega,hfi,rfl⟩
             · simp only [ssT,zaq,zar,setSlot,gOf,AV.ren,renL,Blk.ren,Ax.look,Ax.put,reduceCtorEq,↓reduceIte,Nat.reduceEqDiff,Nat.reduceLT,Nat.reduceAdd,List.length_append,List.length_cons,List.length_nil,Option.some.injEq,zai]; try simp
             · simp only [ssT,zaq,zar,setSlot,gOf,AV.ren,renL,Blk.ren,Ax.look,Ax.put,reduceCtorEq,↓reduceIte,Nat.reduceEqDiff,Nat.reduceLT,Nat.reduceAdd,List.length_append,List.length_cons,List.length_nil,Option.some.injEq,zai]; try simp
         · have d1 : decide ((i : Int) < l.length) = false := decide_eq_false (by omega)
           have hfi := find_end _ l i (by omega) hi2 hinv
           rw [hK] at hfi
           have hil2 : i = l.length := by omega
           have hfi := hfi.trans hil2.symm
           simp (config := { maxSteps := 3000000 }) only [go_sem,zaa,Nat.reduceAdd,Nat.reduceSub,Nat.reduceMul,Int.reduceToNat,reduceCtorEq,↓reduceIte,Int.reducePow,Nat.reducePow,Int.reduceMod,Nat.reduceLeDiff,Int.reduceLE,Int.reduceNe,Int.reduceEq,Nat.reduceEqDiff,Nat.reduceLT,Nat.reduceBEq,List.map_cons,List.map_nil,List.toList_toArray,Array.toList_append,Option.toArray_some,Option.toArray_none,Bool.and_self,ty,zeu,rpPl,hle,d1,Int.toNat_natCast,Bool.not_true,Bool.not_false]
           refine ⟨_,Weak.refl _,?_⟩
           have hti : List.take i (l.map enA) = (l.take i).map enA := List.map_take.symm
           have htd : List.drop i (l.map enA) = (l.drop i).map enA := List.map_drop.symm
           have hlt : ((l.take i).map enA).length = i := by simp; omega
           have hld : ((l.drop i).map enA).length = l.length - i := by simp
           have ht1 : (l.take i).map enA ++ [.agg [.w (.int .i64 p),.w (.int .i64 e),.sg 3 [.agg [.w (.int .i64 s),.w (.int .i64 c),.w (.int .i64 b)]] false]] = (l.take i ++ [(⟨p,e,[⟨s,c,b⟩]⟩ : En)]).map enA := by rw [List.map_append]; rfl
           have ht2 : (l.take i ++ [(⟨p,e,[⟨s,c,b⟩]⟩ : En)]).map enA ++ (l.drop i).map enA = (addF l b c p e s).map enA := by
             rw [← List.map_append]; unfold addF; rw [hfi]; simp [newL,lst5]
           have ht3 : ((l.take i ++ [(⟨p,e,[⟨s,c,b⟩]⟩ : En)]).map enA).length = i + 1 := by simp; omega
           have hal : ((addF l b c p e s).map enA).length = l.length + 1 := by rw [List.length_map,addF_len]
           have hsum : i + 1 + (l.length - i) = l.length + 1 := by omega
           have hl1 : (l.take i).length = i := by rw [List.length_take]; omega
           have hl2 : (l.drop i).length = l.length - i := List.length_drop
           have htd2 : List.take (l.length - i) ((l.drop i).map enA) = (l.drop i).map enA := List.take_of_length_le (by rw [List.length_map,hl2]; omega)
           have hb1 : (i ≤ l.length) = True := eq_true (by omega)
           have hb2 : (0 ≤ (i : Int)) = True := eq_true (by omega)
           have hb3 : ((i : Int) ≤ (l.length : Int)) = True := eq_true (by omega)
           have htt : i + 1 ≤ top ∧ l.length + 1 ≤ top := by unfold top; omega
           simp (config := { maxSteps := 3000000 }) only [go_sem,zaa,Nat.reduceAdd,Nat.reduceSub,Nat.reduceMul,Int.reduceToNat,reduceCtorEq,↓reduceIte,Int.reducePow,Nat.reducePow,Int.reduceMod,Nat.reduceLeDiff,Int.reduceLE,Int.reduceNe,Int.reduceEq,Nat.reduceEqDiff,Nat.reduceLT,Nat.reduceBEq,List.map_cons,List.map_nil,List.toList_toArray,Array.toList_append,Option.toArray_some,Option.toArray_none,Bool.and_self,-zaa,ty,zeu,rpPl,cR,hr,hle,hL9,zac,zab,zap,zam,zbg,zec,hti,htd,ht1,ht2,ht3,hal,hsum,htt,hlt,hld,hl1,hl2,htd2,hb1,hb2,hb3,List.length_map,List.length_append,List.length_singleton,List.drop_zero,Nat.sub_zero,Int.toNat_natCast,Bool.not_true,Bool.not_false]
           iterate 4
             try rw [zaa]
             try simp (config := { maxSteps := 3000000 }) only [go_sem,zaa,Nat.reduceAdd,Nat.reduceSub,Nat.reduceMul,Int.reduceToNat,reduceCtorEq,↓reduceIte,Int.reducePow,Nat.reducePow,Int.reduceMod,Nat.reduceLeDiff,Int.reduceLE,Int.reduceNe,Int.reduceEq,Nat.reduceEqDiff,Nat.reduceLT,Nat.reduceBEq,List.map_cons,List.map_nil,List.toList_toArray,Array.toList_append,Option.toArray_some,Option.toArray_none,Bool.and_self,-zaa,ty,zeu,rpPl,cR,hr,hle,hL9,zac,zab,zap,zam,zbg,zec,hti,htd,ht1,ht2,ht3,hal,hsum,htt,hlt,hld,hl1,hl2,htd2,hb1,hb2,hb3,List.length_map,List.length_append,List.length_singleton,List.drop_zero,Nat.sub_zero,Int.toNat_natCast,Bool.not_true,Bool.not_false]
             repeat (first | refine And.intro (by omega) ?_ | refine And.intro ⟨by omega,by omega⟩ ?_ | refine And.intro (by unfold top; omega) ?_)
           have hk3 : decide (0 + (l.length + 1) ≤ ((addF l b c p e s).map enA).length) = true := decide_eq_true (by omega)
           have hk4 : List.take (l.length + 1) ((addF l b c p e s).map enA) = (addF l b c p e s).map enA := List.take_of_length_le (by omega)
           refine ⟨_,zbj 240 3 102 ((addF l b c p e s).map enA) rfl (zab _) (by simp [slot,AV.ids,idsL]),?_⟩
           simp only [fgL,fgH,AV.fg,Blk.fg,Nat.reduceBEq,cond_true,cond_false,Bool.and_true,beq_self_eq_true,Bool.true_and,List.drop_zero,zbg,zec,hk3,hk4]
           simp only [go_sem,zaa,Nat.reduceAdd,Nat.reduceSub,Nat.reduceMul,Int.reduceToNat,reduceCtorEq,↓reduceIte,Int.reducePow,Nat.reducePow,Int.reduceMod,Nat.reduceLeDiff,Int.reduceLE,Int.reduceNe,Int.reduceEq,Nat.reduceEqDiff,Nat.reduceLT,Nat.reduceBEq,List.map_cons,List.map_nil,List.toList_toArray,Array.toList_append,Option.toArray_some,Option.toArray_none,Bool.and_self,ty,zeu,zab,hr,zai,q0,cond_false]
 · exact hp.elim
end
end Go.Proofs.Ytgpcnmajkcfgiaa
namespace Go.Proofs.Ytgpcnmajkcfgiaa
open Ax
def cpT13S : zay
 | [.agg [.sg 3 xs f]],[] => ⟨∃ l : List En,xs = l.map enA ∧ okL l,.agg [.sg 3 xs false],[]⟩
 | _,_ => zcr
def zck : XPlan := fun id => match id with
 | 10 => .wks
 | _ => .std
section
set_option maxRecDepth 100000
set_option maxHeartbeats 8000000 in
theorem own13_sound : zbx Try.prog 10 cpT13S := by
 refine zca (S := noS) (SO := noO) (T := ty) zcu ty_ok zdj noO_ok Try.func10 (c := Try.f10.body.getD .skip) (by kernel_rfl) (fun xs pins hp _ => ?_)
 unfold cpT13S at hp ⊢
 split at hp
 · rename_i xs f _
   obtain ⟨l,rfl,hL,hi⟩ := hp
   have hle : (l.map enA).length = l.length := by simp
   have ht : top = 4294967296 := rfl
   refine ⟨by simp,zck,by kernel_rfl,?_⟩
   unfold Try.f10
   simp only [go_sem,zaa,Nat.reduceAdd,Nat.reduceSub,Nat.reduceMul,Int.reduceToNat,reduceCtorEq,↓reduceIte,Int.reducePow,Nat.reducePow,Int.reduceMod,Nat.reduceLeDiff,Int.reduceLE,Int.reduceNe,Int.reduceEq,Nat.reduceEqDiff,Nat.reduceLT,Nat.reduceBEq,List.map_cons,List.map_nil,List.toList_toArray,Array.toList_append,Option.toArray_some,Option.toArray_none,Bool.and_self,ty,noS,zck,hle]
   refine zbq ⟨fun m σ => ∃ i : Nat,m = l.length - i ∧ i ≤ l.length ∧
       σ = ⟨[.junk,.rf 4 1 0 0,.rf 5 1 0 0,.ms 6 3 0 i,.w (.int .i64 i),.junk,.junk,.junk,.junk,.junk,.junk,.junk,.junk,.junk,.junk,.junk,.junk,.junk,.junk,.junk,.junk,.junk,.junk,.junk,.junk,.junk,.junk,.junk,.junk,.junk,.junk,.junk,.junk,.junk,.junk,.junk,.junk,.junk,.junk,.junk,.junk,.junk,.junk,.junk,.junk,.junk,.junk,.junk,.junk,.junk,.junk,.junk,.junk,.junk,.junk,.junk],[(4,.g 1 [.agg [.sg 3 (l.map enA) f]]),(5,.g 1 [.agg [.sg 3 [] true]]),(6,.g 3 ((l.take i).map enA))],7⟩,?_,?_⟩
   · refine ⟨_,_,(weak_nil 3 3 (.g 3 []) ⟨by decide,rfl⟩ (by exact trivial)).trans (zal [0,1,2,3,4,12,36] rfl rfl rfl ?_ ?_),0,rfl,by omega,rfl⟩
     · simp only [ssT,zaq,zar,setSlot,gOf,AV.ren,renL,Blk.ren,Ax.look,Ax.put,reduceCtorEq,↓reduceIte,Nat.reduceEqDiff,Nat.reduceLT,Nat.reduceAdd,List.length_append,List.length_cons,List.length_nil,Option.some.injEq,zai]; try simp
       try rfl
     · simp only [ssT,zaq,zar,setSlot,gOf,AV.ren,renL,Blk.ren,Ax.look,Ax.put,reduceCtorEq,↓reduceIte,Nat.reduceEqDiff,Nat.reduceLT,Nat.reduceAdd,List.length_append,List.length_cons,List.length_nil,Option.some.injEq,zai]; try simp [renL]
   · rintro m σ ⟨i,rfl,hi2,rfl⟩
     have e1 : ((i : Int) + 1 + 9223372036854775808) % 18446744073709551616 - 9223372036854775808 = ((i + 1 : Nat) : Int) := by omega
     have hml : ((l.take i).map enA).length = i := by simp; omega
     have hcl := zab (l.take i)
     by_cases hil : i < l.length
     · have d1 : decide ((i : Int) < l.length) = true := decide_eq_true (by omega)
       have hs1 := zbw l i hil
       have htk : l.take (i + 1) = l.take i ++ [l[i]] := List.take_succ_eq_append_getElem hil
       have hir := hi _ (List.getElem_mem hil)
       obtain ⟨r,hr⟩ : ∃ r,l[i] = r := ⟨_,rfl⟩
       rw [hr] at hs1 htk hir
       obtain ⟨a,b,ls⟩ := r
       simp only at hir
       have hs1 : slot (l.map enA) i = .agg [.w (.int .i64 a),.w (.int .i64 b),.sg 3 (ls.map seA) false] := hs1
       have hle2 : (ls.map seA).length = ls.length := by simp
       simp only [go_sem,zaa,Nat.reduceAdd,Nat.reduceSub,Nat.reduceMul,Int.reduceToNat,reduceCtorEq,↓reduceIte,Int.reducePow,Nat.reducePow,Int.reduceMod,Nat.reduceLeDiff,Int.reduceLE,Int.reduceNe,Int.reduceEq,Nat.reduceEqDiff,Nat.reduceLT,Nat.reduceBEq,List.map_cons,List.map_nil,List.toList_toArray,Array.toList_append,Option.toArray_some,Option.toArray_none,Bool.and_self,ty,noS,zck,hle,d1,Int.toNat_natCast]
       refine zbq ⟨fun m σ => ∃ k : Nat,m = ls.length - k ∧ k ≤ ls.length ∧
         σ = ⟨[.junk,.rf 4 1 0 0,.rf 5 1 0 0,.ms 6 3 0 i,.w (.int .i64 i),.ms 7 3 0 k,.w (.int .i64 k),.junk,.junk,.junk,.junk,.junk,.junk,.junk,.junk,.junk,.junk,.junk,.junk,.junk,.junk,.junk,.junk,.junk,.junk,.junk,.junk,.junk,.junk,.junk,.junk,.junk,.junk,.junk,.junk,.junk,.junk,.junk,.junk,.junk,.junk,.junk,.junk,.junk,.junk,.junk,.junk,.junk,.junk,.junk,.junk,.junk,.junk,.junk,.junk,.junk],[(4,.g 1 [.agg [.sg 3 (l.map enA) f]]),(5,.g 1 [.agg [.sg 3 [] true]]),(6,.g 3 ((l.take i).map enA)),(7,.g 3 ((ls.take k).map seA))],8⟩,?_,?_⟩
       · refine ⟨_,_,(weak_nil 5 3 (.g 3 []) ⟨by decide,rfl⟩ (by exact trivial)).trans (zal [0,1,2,3,4,5,6,63] rfl rfl rfl ?_ ?_),0,rfl,by omega,rfl⟩
         · simp only [ssT,zaq,zar,setSlot,gOf,AV.ren,renL,Blk.ren,Ax.look,Ax.put,reduceCtorEq,↓reduceIte,Nat.reduceEqDiff,Nat.reduceLT,Nat.reduceAdd,List.length_append,List.length_cons,List.length_nil,Option.some.injEq,zai]; try simp
           try rfl
         · simp only [ssT,zaq,zar,setSlot,gOf,AV.ren,renL,Blk.ren,Ax.look,Ax.put,reduceCtorEq,↓reduceIte,Nat.reduceEqDiff,Nat.reduceLT,Nat.reduceAdd,List.length_append,List.length_cons,List.length_nil,Option.some.injEq,zai]; try simp [renL]
       · rintro m σ ⟨k,rfl,hk,rfl⟩
         have e2 : ((k : Int) + 1 + 9223372036854775808) % 18446744073709551616 - 9223372036854775808 = ((k + 1 : Nat) : Int) := by omega
         have hml2 : ((ls.take k).map seA).length = k := by simp; omega
         by_cases hkl : k < ls.length
         · have d2 : decide ((k : Int) < ls.length) = true := decide_eq_true (by omega)
           have hs2 := zfm ls k hkl
           have htk2 : ls.take (k + 1) = ls.take k ++ [ls[k]] := List.take_succ_eq_append_getElem hkl
           obtain ⟨y,hy⟩ : ∃ y,ls[k] = y := ⟨_,rfl⟩
           rw [hy] at hs2 htk2
           obtain ⟨yq,yc,yb⟩ := y
           have hs2 : slot (ls.map seA) k = .agg [.w (.int .i64 yq),.w (.int .i64 yc),.w (.int .i64 yb)] := hs2
           have hat2 : (ls.take k).map seA ++ [.agg [.w (.int .i64 yq),.w (.int .i64 yc),.w (.int .i64 yb)]] = (ls.take (k + 1)).map seA := by rw [htk2,List.map_append]; rfl
           simp (config := { maxSteps := 3000000 }) only [go_sem,zaa,Nat.reduceAdd,Nat.reduceSub,Nat.reduceMul,Int.reduceToNat,reduceCtorEq,↓reduceIte,Int.reducePow,Nat.reducePow,Int.reduceMod,Nat.reduceLeDiff,Int.reduceLE,Int.reduceNe,Int.reduceEq,Nat.reduceEqDiff,Nat.reduceLT,Nat.reduceBEq,List.map_cons,List.map_nil,List.toList_toArray,Array.toList_append,Option.toArray_some,Option.toArray_none,Bool.and_self,ty,noS,zck,hle,hle2,hml2,d2,hs1,hs2,e2,hat2,hcl,zab,zac,zam,zap,Int.toNat_natCast]
           repeat (first | refine And.intro (by omega) ?_ | refine And.intro ⟨by omega,by omega⟩ ?_)
           refine ⟨ls.length - (k + 1),_,by omega,zal [0,1,2,3,4,5,6,168] rfl rfl rfl ?_ ?_,k + 1,rfl,by omega,rfl⟩
           · simp only [ssT,zaq,zar,setSlot,gOf,AV.ren,renL,Blk.ren,Ax.look,Ax.put,reduceCtorEq,↓reduceIte,Nat.reduceEqDiff,Nat.reduceLT,Nat.reduceAdd,List.length_append,List.length_cons,List.length_nil,Option.some.injEq,zai,zax]; try simp
           · simp only [ssT,zaq,zar,setSlot,gOf,AV.ren,renL,Blk.ren,Ax.look,Ax.put,reduceCtorEq,↓reduceIte,Nat.reduceEqDiff,Nat.reduceLT,Nat.reduceAdd,List.length_append,List.length_cons,List.length_nil,Option.some.injEq,zai,zax]; try simp
         · have d2 : decide ((k : Int) < ls.length) = false := decide_eq_false (by omega)
           obtain rfl : k = ls.length := by omega
           have htl : ls.take ls.length = ls := List.take_length
           rw [htl] at hml2 ⊢
           have hat : (l.take i).map enA ++ [.agg [.w (.int .i64 a),.w (.int .i64 b),.sg 3 (ls.map seA) false]] = (l.take (i + 1)).map enA := by rw [htk,List.map_append]; rfl
           have hk1 : decide (0 + ls.length ≤ (ls.map seA).length) = true := decide_eq_true (by simp)
           have hk2 : List.take ls.length (ls.map seA) = ls.map seA := List.take_of_length_le (by simp)
           simp (config := { maxSteps := 3000000 }) only [go_sem,zaa,Nat.reduceAdd,Nat.reduceSub,Nat.reduceMul,Int.reduceToNat,reduceCtorEq,↓reduceIte,Int.reducePow,Nat.reducePow,Int.reduceMod,Nat.reduceLeDiff,Int.reduceLE,Int.reduceNe,Int.reduceEq,Nat.reduceEqDiff,Nat.reduceLT,Nat.reduceBEq,List.map_cons,List.map_nil,List.toList_toArray,Array.toList_append,Option.toArray_some,Option.toArray_none,Bool.and_self,ty,noS,zck,hle,hle2,d2,hs1,hcl,zab,zac,zam,zap,Int.toNat_natCast]
           repeat (first | refine And.intro (by omega) ?_ | refine And.intro ⟨by omega,by omega⟩ ?_)
           refine ⟨_,Weak.refl _,?_⟩
           simp (config := { maxSteps := 3000000 }) only [go_sem,zaa,Nat.reduceAdd,Nat.reduceSub,Nat.reduceMul,Int.reduceToNat,reduceCtorEq,↓reduceIte,Int.reducePow,Nat.reducePow,Int.reduceMod,Nat.reduceLeDiff,Int.reduceLE,Int.reduceNe,Int.reduceEq,Nat.reduceEqDiff,Nat.reduceLT,Nat.reduceBEq,List.map_cons,List.map_nil,List.toList_toArray,Array.toList_append,Option.toArray_some,Option.toArray_none,Bool.and_self,ty,noS,zck,hle,hle2,d2,hs1,hcl,zab,zac,zam,zap,Int.toNat_natCast]
           unfold wsF
           refine ⟨_,_,zbj 7 3 5 (ls.map seA) rfl (zac ls) (by simp [slot,AV.ids]),?_⟩
           simp only [fgL,fgH,AV.fg,Blk.fg,Nat.reduceBEq,cond_true,cond_false,Bool.and_true,beq_self_eq_true,Bool.true_and,List.drop_zero,zbg,zec,hk1,hk2]
           simp (config := { maxSteps := 3000000 }) only [go_sem,zaa,Nat.reduceAdd,Nat.reduceSub,Nat.reduceMul,Int.reduceToNat,reduceCtorEq,↓reduceIte,Int.reducePow,Nat.reducePow,Int.reduceMod,Nat.reduceLeDiff,Int.reduceLE,Int.reduceNe,Int.reduceEq,Nat.reduceEqDiff,Nat.reduceLT,Nat.reduceBEq,List.map_cons,List.map_nil,List.toList_toArray,Array.toList_append,Option.toArray_some,Option.toArray_none,Bool.and_self,ty,noS,zck,hle,hle2,hml,hs1,e1,hat,hcl,zab,zac,zam,zap,Int.toNat_natCast]
           repeat (first | refine And.intro (by omega) ?_ | refine And.intro ⟨by omega,by omega⟩ ?_)
           refine ⟨l.length - (i + 1),_,by omega,zal [0,1,2,3,4,5,208] rfl rfl rfl ?_ ?_,i + 1,rfl,by omega,rfl⟩
           · simp only [ssT,zaq,zar,setSlot,gOf,AV.ren,renL,Blk.ren,Ax.look,Ax.put,reduceCtorEq,↓reduceIte,Nat.reduceEqDiff,Nat.reduceLT,Nat.reduceAdd,List.length_append,List.length_cons,List.length_nil,Option.some.injEq,zai,zax]; try simp
           · simp only [ssT,zaq,zar,setSlot,gOf,AV.ren,renL,Blk.ren,Ax.look,Ax.put,reduceCtorEq,↓reduceIte,Nat.reduceEqDiff,Nat.reduceLT,Nat.reduceAdd,List.length_append,List.length_cons,List.length_nil,Option.some.injEq,zai,zax]; try simp
     · have d1 : decide ((i : Int) < l.length) = false := decide_eq_false (by omega)
       obtain rfl : i = l.length := by omega
       have htl : l.take l.length = l := List.take_length
       rw [htl] at hml ⊢
       have hk1 : decide (0 + l.length ≤ (l.map enA).length) = true := decide_eq_true (by simp)
       have hk2 : List.take l.length (l.map enA) = l.map enA := List.take_of_length_le (by simp)
       simp only [go_sem,zaa,Nat.reduceAdd,Nat.reduceSub,Nat.reduceMul,Int.reduceToNat,reduceCtorEq,↓reduceIte,Int.reducePow,Nat.reducePow,Int.reduceMod,Nat.reduceLeDiff,Int.reduceLE,Int.reduceNe,Int.reduceEq,Nat.reduceEqDiff,Nat.reduceLT,Nat.reduceBEq,List.map_cons,List.map_nil,List.toList_toArray,Array.toList_append,Option.toArray_some,Option.toArray_none,Bool.and_self,ty,noS,zck,hle,d1]
       refine ⟨_,Weak.refl _,?_⟩
       simp only [go_sem,zaa,Nat.reduceAdd,Nat.reduceSub,Nat.reduceMul,Int.reduceToNat,reduceCtorEq,↓reduceIte,Int.reducePow,Nat.reducePow,Int.reduceMod,Nat.reduceLeDiff,Int.reduceLE,Int.reduceNe,Int.reduceEq,Nat.reduceEqDiff,Nat.reduceLT,Nat.reduceBEq,List.map_cons,List.map_nil,List.toList_toArray,Array.toList_append,Option.toArray_some,Option.toArray_none,Bool.and_self,ty,noS,zck]
       refine ⟨_,zbj 6 3 55 (l.map enA) rfl (zab _) (by simp [slot,AV.ids,idsL]),?_⟩
       simp only [fgL,fgH,AV.fg,Blk.fg,Nat.reduceBEq,cond_true,cond_false,Bool.and_true,beq_self_eq_true,Bool.true_and,List.drop_zero,zbg,zec,hk1,hk2]
       simp only [go_sem,zaa,Nat.reduceAdd,Nat.reduceSub,Nat.reduceMul,Int.reduceToNat,reduceCtorEq,↓reduceIte,Int.reducePow,Nat.reducePow,Int.reduceMod,Nat.reduceLeDiff,Int.reduceLE,Int.reduceNe,Int.reduceEq,Nat.reduceEqDiff,Nat.reduceLT,Nat.reduceBEq,List.map_cons,List.map_nil,List.toList_toArray,Array.toList_append,Option.toArray_some,Option.toArray_none,Bool.and_self,ty,noS,zab,zai]
 · exact hp.elim
set_option maxHeartbeats 8000000 in
theorem as13_sound : zbx Try.prog 17 cpT13S := by
 refine zca (S := noS) (SO := noO) (T := ty) zcu ty_ok zdj noO_ok Try.func17 (c := Try.f17.body.getD .skip) (by kernel_rfl) (fun xs pins hp _ => ?_)
 unfold cpT13S at hp ⊢
 split at hp
 · rename_i xs f _
   obtain ⟨l,rfl,hL,hi⟩ := hp
   have hle : (l.map enA).length = l.length := by simp
   have ht : top = 4294967296 := rfl
   refine ⟨by simp,zck,by kernel_rfl,?_⟩
   unfold Try.f17
   simp only [go_sem,zaa,Nat.reduceAdd,Nat.reduceSub,Nat.reduceMul,Int.reduceToNat,reduceCtorEq,↓reduceIte,Int.reducePow,Nat.reducePow,Int.reduceMod,Nat.reduceLeDiff,Int.reduceLE,Int.reduceNe,Int.reduceEq,Nat.reduceEqDiff,Nat.reduceLT,Nat.reduceBEq,List.map_cons,List.map_nil,List.toList_toArray,Array.toList_append,Option.toArray_some,Option.toArray_none,Bool.and_self,ty,noS,zck,hle]
   refine zbq ⟨fun m σ => ∃ i : Nat,m = l.length - i ∧ i ≤ l.length ∧
       σ = ⟨[.junk,.rf 4 1 0 0,.rf 5 1 0 0,.ms 6 3 0 i,.w (.int .i64 i),.junk,.junk,.junk,.junk,.junk,.junk,.junk,.junk,.junk,.junk,.junk,.junk,.junk,.junk,.junk,.junk,.junk,.junk,.junk,.junk,.junk,.junk,.junk,.junk,.junk,.junk,.junk,.junk,.junk,.junk,.junk,.junk,.junk,.junk,.junk,.junk,.junk,.junk,.junk,.junk,.junk,.junk,.junk,.junk,.junk,.junk,.junk,.junk,.junk,.junk,.junk],[(4,.g 1 [.agg [.sg 3 (l.map enA) f]]),(5,.g 1 [.agg [.sg 3 [] true]]),(6,.g 3 ((l.take i).map enA))],7⟩,?_,?_⟩
   · refine ⟨_,_,(weak_nil 3 3 (.g 3 []) ⟨by decide,rfl⟩ (by exact trivial)).trans (zal [0,1,2,3,4,12,36] rfl rfl rfl ?_ ?_),0,rfl,by omega,rfl⟩
     · simp only [ssT,zaq,zar,setSlot,gOf,AV.ren,renL,Blk.ren,Ax.look,Ax.put,reduceCtorEq,↓reduceIte,Nat.reduceEqDiff,Nat.reduceLT,Nat.reduceAdd,List.length_append,List.length_cons,List.length_nil,Option.some.injEq,zai]; try simp
       try rfl
     · simp only [ssT,zaq,zar,setSlot,gOf,AV.ren,renL,Blk.ren,Ax.look,Ax.put,reduceCtorEq,↓reduceIte,Nat.reduceEqDiff,Nat.reduceLT,Nat.reduceAdd,List.length_append,List.length_cons,List.length_nil,Option.some.injEq,zai]; try simp [renL]
   · rintro m σ ⟨i,rfl,hi2,rfl⟩
     have e1 : ((i : Int) + 1 + 9223372036854775808) % 18446744073709551616 - 9223372036854775808 = ((i + 1 : Nat) : Int) := by omega
     have hml : ((l.take i).map enA).length = i := by simp; omega
     have hcl := zab (l.take i)
     by_cases hil : i < l.length
     · have d1 : decide ((i : Int) < l.length) = true := decide_eq_true (by omega)
       have hs1 := zbw l i hil
       have htk : l.take (i + 1) = l.take i ++ [l[i]] := List.take_succ_eq_append_getElem hil
       have hir := hi _ (List.getElem_mem hil)
       obtain ⟨r,hr⟩ : ∃ r,l[i] = r := ⟨_,rfl⟩
       rw [hr] at hs1 htk hir
       obtain ⟨a,b,ls⟩ := r
       simp only at hir
       have hs1 : slot (l.map enA) i = .agg [.w (.int .i64 a),.w (.int .i64 b),.sg 3 (ls.map seA) false] := hs1
       have hle2 : (ls.map seA).length = ls.length := by simp
       simp only [go_sem,zaa,Nat.reduceAdd,Nat.reduceSub,Nat.reduceMul,Int.reduceToNat,reduceCtorEq,↓reduceIte,Int.reducePow,Nat.reducePow,Int.reduceMod,Nat.reduceLeDiff,Int.reduceLE,Int.reduceNe,Int.reduceEq,Nat.reduceEqDiff,Nat.reduceLT,Nat.reduceBEq,List.map_cons,List.map_nil,List.toList_toArray,Array.toList_append,Option.toArray_some,Option.toArray_none,Bool.and_self,ty,noS,zck,hle,d1,Int.toNat_natCast]
       refine zbq ⟨fun m σ => ∃ k : Nat,m = ls.length - k ∧ k ≤ ls.length ∧
         σ = ⟨[.junk,.rf 4 1 0 0,.rf 5 1 0 0,.ms 6 3 0 i,.w (.int .i64 i),.ms 7 3 0 k,.w (.int .i64 k),.junk,.junk,.junk,.junk,.junk,.junk,.junk,.junk,.junk,.junk,.junk,.junk,.junk,.junk,.junk,.junk,.junk,.junk,.junk,.junk,.junk,.junk,.junk,.junk,.junk,.junk,.junk,.junk,.junk,.junk,.junk,.junk,.junk,.junk,.junk,.junk,.junk,.junk,.junk,.junk,.junk,.junk,.junk,.junk,.junk,.junk,.junk,.junk,.junk],[(4,.g 1 [.agg [.sg 3 (l.map enA) f]]),(5,.g 1 [.agg [.sg 3 [] true]]),(6,.g 3 ((l.take i).map enA)),(7,.g 3 ((ls.take k).map seA))],8⟩,?_,?_⟩
       · refine ⟨_,_,(weak_nil 5 3 (.g 3 []) ⟨by decide,rfl⟩ (by exact trivial)).trans (zal [0,1,2,3,4,5,6,63] rfl rfl rfl ?_ ?_),0,rfl,by omega,rfl⟩
         · simp only [ssT,zaq,zar,setSlot,gOf,AV.ren,renL,Blk.ren,Ax.look,Ax.put,reduceCtorEq,↓reduceIte,Nat.reduceEqDiff,Nat.reduceLT,Nat.reduceAdd,List.length_append,List.length_cons,List.length_nil,Option.some.injEq,zai]; try simp
           try rfl
         · simp only [ssT,zaq,zar,setSlot,gOf,AV.ren,renL,Blk.ren,Ax.look,Ax.put,reduceCtorEq,↓reduceIte,Nat.reduceEqDiff,Nat.reduceLT,Nat.reduceAdd,List.length_append,List.length_cons,List.length_nil,Option.some.injEq,zai]; try simp [renL]
       · rintro m σ ⟨k,rfl,hk,rfl⟩
         have e2 : ((k : Int) + 1 + 9223372036854775808) % 18446744073709551616 - 9223372036854775808 = ((k + 1 : Nat) : Int) := by omega
         have hml2 : ((ls.take k).map seA).length = k := by simp; omega
         by_cases hkl : k < ls.length
         · have d2 : decide ((k : Int) < ls.length) = true := decide_eq_true (by omega)
           have hs2 := zfm ls k hkl
           have htk2 : ls.take (k + 1) = ls.take k ++ [ls[k]] := List.take_succ_eq_append_getElem hkl
           obtain ⟨y,hy⟩ : ∃ y,ls[k] = y := ⟨_,rfl⟩
           rw [hy] at hs2 htk2
           obtain ⟨yq,yc,yb⟩ := y
           have hs2 : slot (ls.map seA) k = .agg [.w (.int .i64 yq),.w (.int .i64 yc),.w (.int .i64 yb)] := hs2
           have hat2 : (ls.take k).map seA ++ [.agg [.w (.int .i64 yq),.w (.int .i64 yc),.w (.int .i64 yb)]] = (ls.take (k + 1)).map seA := by rw [htk2,List.map_append]; rfl
           simp (config := { maxSteps := 3000000 }) only [go_sem,zaa,Nat.reduceAdd,Nat.reduceSub,Nat.reduceMul,Int.reduceToNat,reduceCtorEq,↓reduceIte,Int.reducePow,Nat.reducePow,Int.reduceMod,Nat.reduceLeDiff,Int.reduceLE,Int.reduceNe,Int.reduceEq,Nat.reduceEqDiff,Nat.reduceLT,Nat.reduceBEq,List.map_cons,List.map_nil,List.toList_toArray,Array.toList_append,Option.toArray_some,Option.toArray_none,Bool.and_self,ty,noS,zck,hle,hle2,hml2,d2,hs1,hs2,e2,hat2,hcl,zab,zac,zam,zap,Int.toNat_natCast]
           repeat (first | refine And.intro (by omega) ?_ | refine And.intro ⟨by omega,by omega⟩ ?_)
           refine ⟨ls.length - (k + 1),_,by omega,zal [0,1,2,3,4,5,6,168] rfl rfl rfl ?_ ?_,k + 1,rfl,by omega,rfl⟩
           · simp only [ssT,zaq,zar,setSlot,gOf,AV.ren,renL,Blk.ren,Ax.look,Ax.put,reduceCtorEq,↓reduceIte,Nat.reduceEqDiff,Nat.reduceLT,Nat.reduceAdd,List.length_append,List.length_cons,List.length_nil,Option.some.injEq,zai,zax]; try simp
           · simp only [ssT,zaq,zar,setSlot,gOf,AV.ren,renL,Blk.ren,Ax.look,Ax.put,reduceCtorEq,↓reduceIte,Nat.reduceEqDiff,Nat.reduceLT,Nat.reduceAdd,List.length_append,List.length_cons,List.length_nil,Option.some.injEq,zai,zax]; try simp
         · have d2 : decide ((k : Int) < ls.length) = false := decide_eq_false (by omega)
           obtain rfl : k = ls.length := by omega
           have htl : ls.take ls.length = ls := List.take_length
           rw [htl] at hml2 ⊢
           have hat : (l.take i).map enA ++ [.agg [.w (.int .i64 a),.w (.int .i64 b),.sg 3 (ls.map seA) false]] = (l.take (i + 1)).map enA := by rw [htk,List.map_append]; rfl
           have hk1 : decide (0 + ls.length ≤ (ls.map seA).length) = true := decide_eq_true (by simp)
           have hk2 : List.take ls.length (ls.map seA) = ls.map seA := List.take_of_length_le (by simp)
           simp (config := { maxSteps := 3000000 }) only [go_sem,zaa,Nat.reduceAdd,Nat.reduceSub,Nat.reduceMul,Int.reduceToNat,reduceCtorEq,↓reduceIte,Int.reducePow,Nat.reducePow,Int.reduceMod,Nat.reduceLeDiff,Int.reduceLE,Int.reduceNe,Int.reduceEq,Nat.reduceEqDiff,Nat.reduceLT,Nat.reduceBEq,List.map_cons,List.map_nil,List.toList_toArray,Array.toList_append,Option.toArray_some,Option.toArray_none,Bool.and_self,ty,noS,zck,hle,hle2,d2,hs1,hcl,zab,zac,zam,zap,Int.toNat_natCast]
           repeat (first | refine And.intro (by omega) ?_ | refine And.intro ⟨by omega,by omega⟩ ?_)
           refine ⟨_,Weak.refl _,?_⟩
           simp (config := { maxSteps := 3000000 }) only [go_sem,zaa,Nat.reduceAdd,Nat.reduceSub,Nat.reduceMul,Int.reduceToNat,reduceCtorEq,↓reduceIte,Int.reducePow,Nat.reducePow,Int.reduceMod,Nat.reduceLeDiff,Int.reduceLE,Int.reduceNe,Int.reduceEq,Nat.reduceEqDiff,Nat.reduceLT,Nat.reduceBEq,List.map_cons,List.map_nil,List.toList_toArray,Array.toList_append,Option.toArray_some,Option.toArray_none,Bool.and_self,ty,noS,zck,hle,hle2,d2,hs1,hcl,zab,zac,zam,zap,Int.toNat_natCast]
           unfold wsF
           refine ⟨_,_,zbj 7 3 5 (ls.map seA) rfl (zac ls) (by simp [slot,AV.ids]),?_⟩
           simp only [fgL,fgH,AV.fg,Blk.fg,Nat.reduceBEq,cond_true,cond_false,Bool.and_true,beq_self_eq_true,Bool.true_and,List.drop_zero,zbg,zec,hk1,hk2]
           simp (config := { maxSteps := 3000000 }) only [go_sem,zaa,Nat.reduceAdd,Nat.reduceSub,Nat.reduceMul,Int.reduceToNat,reduceCtorEq,↓reduceIte,Int.reducePow,Nat.reducePow,Int.reduceMod,Nat.reduceLeDiff,Int.reduceLE,Int.reduceNe,Int.reduceEq,Nat.reduceEqDiff,Nat.reduceLT,Nat.reduceBEq,List.map_cons,List.map_nil,List.toList_toArray,Array.toList_append,Option.toArray_some,Option.toArray_none,Bool.and_self,ty,noS,zck,hle,hle2,hml,hs1,e1,hat,hcl,zab,zac,zam,zap,Int.toNat_natCast]
           repeat (first | refine And.intro (by omega) ?_ | refine And.intro ⟨by omega,by omega⟩ ?_)
           refine ⟨l.length - (i + 1),_,by omega,zal [0,1,2,3,4,5,208] rfl rfl rfl ?_ ?_,i + 1,rfl,by omega,rfl⟩
           · simp only [ssT,zaq,zar,setSlot,gOf,AV.ren,renL,Blk.ren,Ax.look,Ax.put,reduceCtorEq,↓reduceIte,Nat.reduceEqDiff,Nat.reduceLT,Nat.reduceAdd,List.length_append,List.length_cons,List.length_nil,Option.some.injEq,zai,zax]; try simp
           · simp only [ssT,zaq,zar,setSlot,gOf,AV.ren,renL,Blk.ren,Ax.look,Ax.put,reduceCtorEq,↓reduceIte,Nat.reduceEqDiff,Nat.reduceLT,Nat.reduceAdd,List.length_append,List.length_cons,List.length_nil,Option.some.injEq,zai,zax]; try simp
     · have d1 : decide ((i : Int) < l.length) = false := decide_eq_false (by omega)
       obtain rfl : i = l.length := by omega
       have htl : l.take l.length = l := List.take_length
       rw [htl] at hml ⊢
       have hk1 : decide (0 + l.length ≤ (l.map enA).length) = true := decide_eq_true (by simp)
       have hk2 : List.take l.length (l.map enA) = l.map enA := List.take_of_length_le (by simp)
       simp only [go_sem,zaa,Nat.reduceAdd,Nat.reduceSub,Nat.reduceMul,Int.reduceToNat,reduceCtorEq,↓reduceIte,Int.reducePow,Nat.reducePow,Int.reduceMod,Nat.reduceLeDiff,Int.reduceLE,Int.reduceNe,Int.reduceEq,Nat.reduceEqDiff,Nat.reduceLT,Nat.reduceBEq,List.map_cons,List.map_nil,List.toList_toArray,Array.toList_append,Option.toArray_some,Option.toArray_none,Bool.and_self,ty,noS,zck,hle,d1]
       refine ⟨_,Weak.refl _,?_⟩
       simp only [go_sem,zaa,Nat.reduceAdd,Nat.reduceSub,Nat.reduceMul,Int.reduceToNat,reduceCtorEq,↓reduceIte,Int.reducePow,Nat.reducePow,Int.reduceMod,Nat.reduceLeDiff,Int.reduceLE,Int.reduceNe,Int.reduceEq,Nat.reduceEqDiff,Nat.reduceLT,Nat.reduceBEq,List.map_cons,List.map_nil,List.toList_toArray,Array.toList_append,Option.toArray_some,Option.toArray_none,Bool.and_self,ty,noS,zck]
       refine ⟨_,zbj 6 3 55 (l.map enA) rfl (zab _) (by simp [slot,AV.ids,idsL]),?_⟩
       simp only [fgL,fgH,AV.fg,Blk.fg,Nat.reduceBEq,cond_true,cond_false,Bool.and_true,beq_self_eq_true,Bool.true_and,List.drop_zero,zbg,zec,hk1,hk2]
       simp only [go_sem,zaa,Nat.reduceAdd,Nat.reduceSub,Nat.reduceMul,Int.reduceToNat,reduceCtorEq,↓reduceIte,Int.reducePow,Nat.reducePow,Int.reduceMod,Nat.reduceLeDiff,Int.reduceLE,Int.reduceNe,Int.reduceEq,Nat.reduceEqDiff,Nat.reduceLT,Nat.reduceBEq,List.map_cons,List.map_nil,List.toList_toArray,Array.toList_append,Option.toArray_some,Option.toArray_none,Bool.and_self,ty,noS,zab,zai]
 · exact hp.elim
end
end Go.Proofs.Ytgpcnmajkcfgiaa
