/- What the proofs of this seat stand on; it asks nothing. -/
import Derived.Test.YtffdpbbbdmmdlaaYa11
set_option linter.unusedSimpArgs false
set_option linter.unusedVariables false
namespace Go.Proofs.Ytffdpbbbdmmdlaa
namespace Ax
open Go.RowKit
section rules
variable {S : zae} {T : zab} {Q : Exit → ASt → Prop} {σ : ASt}
variable {ops r : List Oper} {o : Oper} {nm : Nat} {sl : List AV} {H : Heap} {Q' : List AV → Heap → Prop}
end rules
theorem zvf {P : Program} {T : zab} {S : zae} (hm : P.follows .mixedOrders = true) (hT : TOk P T) (hS : Fns P S) {f : FuncId} {fn : Func} {c : Code} (hf : P.funcs[f]? = some fn) (hb : fn.body = some c) (hd : zee T c = true) {spec : zaz}
  (h : ∀ xs pins,(spec xs pins).p → closedB pins = true → pins.length ≤ 4 ∧ awp S T c (yeb T fn.results.toList pins (spec xs pins)) ⟨xs ++ List.replicate (fn.ntmps - xs.length) .junk,pinHeap 0 pins,4⟩) : zbk P f spec :=
 ztl hT hS (zen hT hS hm) hf hb (Qp := fun xs pins => yeb T fn.results.toList pins (spec xs pins)) (fun _ _ _ _ h => h) (fun xs pins hp hc => ⟨(h xs pins hp hc).1,znr _ _ _ hd (h xs pins hp hc).2⟩)
end Ax
end Go.Proofs.Ytffdpbbbdmmdlaa
namespace Go.Proofs.Ytffdpbbbdmmdlaa
open Ax
theorem zpw : ∀ (x y : List UInt8),Op.bytesLess x y = decide (x < y)
 | [],[] => by simp [Op.bytesLess]
 | _ :: _,[] => by simp [Op.bytesLess]
 | [],_ :: _ => by simp [Op.bytesLess]
 | a :: x,b :: y => by
  rw [Op.bytesLess,zpw x y]
  by_cases h : a < b
  ·simp [h,List.cons_lt_cons_iff]
  ·by_cases e : a = b <;> simp [h,e,List.cons_lt_cons_iff]
def naT (k x : List UInt8) : Bool := !Op.bytesLess x k
def plT (k : List UInt8) (l : List (List UInt8)) : Nat := l.findIdx (naT k)
def rowT (k : List UInt8) (l : List (List UInt8)) : List UInt8 := l.getD (plT k l) []
def thT (k : List UInt8) (l : List (List UInt8)) : Bool := decide (plT k l < l.length) && decide (rowT k l = k)
theorem zne {k : List UInt8} {l : List (List UInt8)} : ∀ x ∈ l.take (plT k l),x < k := by
 intro x hx
 obtain ⟨i,hi,rfl⟩ := List.mem_take_iff_getElem.1 hx
 have := List.not_of_lt_findIdx (p := naT k) (xs := l) (i := i) (by unfold plT at hi; omega)
 unfold naT at this
 rw [zpw] at this
 simpa using this
theorem zzn {k : List UInt8} {l : List (List UInt8)} (h : plT k l < l.length) : ¬ l[plT k l] < k := by
 have h2 : naT k l[plT k l] = true := List.findIdx_getElem (w := h)
 unfold naT at h2
 rw [zpw] at h2
 simpa using h2
theorem zxn {k : List UInt8} {l : List (List UInt8)} (h : plT k l < l.length) : rowT k l = l[plT k l] := by
 unfold rowT; rw [List.getD_eq_getElem?_getD,List.getElem?_eq_getElem h]; rfl
theorem ymk (k : List UInt8) (l : List (List UInt8)) : plT k l ≤ l.length := List.findIdx_le_length
theorem yoz {k : List UInt8} {l : List (List UInt8)} {i : Nat} (hi : i ≤ l.length) (h1 : ∀ x ∈ l.take i,Op.bytesLess x k = true) (h2 : ∀ x ∈ l.drop i,Op.bytesLess x k = false) : plT k l = i := by
 have a1 : ¬ plT k l < i := fun h => by
  have hl : plT k l < l.length := by omega
  have h3 := zzn hl
  have h4 := h1 l[plT k l] (List.mem_take_iff_getElem.2 ⟨_,by omega,rfl⟩)
  rw [zpw] at h4
  exact h3 (of_decide_eq_true h4)
 have a2 : ¬ i < plT k l := fun h => by
  have hl : i < l.length := Nat.lt_of_lt_of_le h (ymk k l)
  have h3 := zne (k := k) (l := l) l[i] (List.mem_take_iff_getElem.2 ⟨_,by omega,rfl⟩)
  have h4 := h2 l[i] (List.mem_iff_getElem.2 ⟨0,by rw [List.length_drop]; omega,by rw [List.getElem_drop]; rfl⟩)
  rw [zpw,decide_eq_true h3] at h4
  cases h4
 omega
theorem yen {l : List (List UInt8)} (h : srtT l) {i j : Nat} (hij : i < j) (hj : j < l.length) : l[i]'(by omega) < l[j] := List.pairwise_iff_getElem.1 h i j (by omega) hj hij
theorem yeo {k : List UInt8} {l : List (List UInt8)} (h : srtT l) {n : Nat} (hn : n < l.length) (hv : Op.bytesLess l[n] k = true) : ∀ x ∈ l.take (n + 1),Op.bytesLess x k = true := by
 intro x hx
 obtain ⟨i,hi,rfl⟩ := List.mem_take_iff_getElem.1 hx
 rw [zpw] at hv ⊢
 have hv := of_decide_eq_true hv
 refine decide_eq_true ?_
 by_cases e : i = n
 ·subst e; exact hv
 ·exact List.lt_trans (yen h (by omega) hn) hv
theorem yep {k : List UInt8} {l : List (List UInt8)} (h : srtT l) {n : Nat} (hn : n < l.length) (hv : Op.bytesLess l[n] k = false) : ∀ x ∈ l.drop n,Op.bytesLess x k = false := by
 intro x hx
 obtain ⟨i,hi,rfl⟩ := List.mem_iff_getElem.1 hx
 rw [List.length_drop] at hi
 rw [List.getElem_drop,zpw]
 rw [zpw] at hv
 have hv := of_decide_eq_false hv
 refine decide_eq_false fun h3 => hv ?_
 by_cases e : i = 0
 ·subst e; simpa using h3
 ·exact List.lt_trans (yen h (by omega) (by omega)) h3
theorem yej {k : List UInt8} {l : List (List UInt8)} (h : plT k l < l.length) : thT k l = decide (l[plT k l] = k) := by
 unfold thT
 rw [decide_eq_true h,zxn h,Bool.true_and]
theorem zrz {k : List UInt8} {l : List (List UInt8)} (h : ¬ plT k l < l.length) : thT k l = false := by
 unfold thT
 rw [decide_eq_false h,Bool.false_and]
end Go.Proofs.Ytffdpbbbdmmdlaa
namespace Go.Proofs.Ytffdpbbbdmmdlaa
open Ax
def zpq : zaz
 | [.str x],[] => ⟨True,.w (.bool false),[]⟩
 | _,_ => zeh
def yga : zaz
 | [.str x,.str y],[] => ⟨True,.w (.bool (Op.bytesLess x y)),[]⟩
 | _,_ => zeh
def bsTS : zaz
 | [.sg 1 xs f,.str t],[] => ⟨xs.length ≤ 1000000 ∧ ∃ l : List (List UInt8),xs = l.map AV.str ∧ srtT l,.tup [.w (.int .i64 ((plT t (xs.map strB) : Nat) : Int)),.w (.bool (thT t (xs.map strB)))],[]⟩
 | _,_ => zeh
section
set_option maxRecDepth 100000
set_option maxHeartbeats 4000000
theorem ycu : zbk Try.prog 39 zpq := by
 refine zbm (S := noS) (T := ty) mixed ty_ok zki Try.func39 (c := Try.f39.body.getD .skip) (by kernel_rfl) (by kernel_rfl) (fun xs pins hp _ => ?_)
 unfold zpq at hp ⊢
 split at hp
 ·rename_i x _
  refine ⟨by simp,?_⟩
  have d1 : decide (x = x) = true := decide_eq_true rfl
  unfold Try.f39
  simp only [go_sem,zaa,↓reduceIte,ty,noS,d1,Bool.not_true]
 ·exact hp.elim
theorem zxt : zbk Try.prog 28 zpq := by
 refine zbm (S := noS) (T := ty) mixed ty_ok zki Try.func28 (c := Try.f28.body.getD .skip) (by kernel_rfl) (by kernel_rfl) (fun xs pins hp _ => ?_)
 unfold zpq at hp ⊢
 split at hp
 ·rename_i x _
  refine ⟨by simp,?_⟩
  have d1 : decide (x = x) = true := decide_eq_true rfl
  unfold Try.f28
  simp only [go_sem,zaa,↓reduceIte,ty,noS,d1,Bool.not_true]
 ·exact hp.elim
end
def ybx (f : FuncId) : Option zaz :=
 match f with
 | 39 => some zpq
 | _ => none
theorem yji : Fns Try.prog ybx := by
 intro f s h
 unfold ybx at h
 split at h
 ·injection h with h; subst h; exact ⟨⟨_,Try.func39,by kernel_rfl,by kernel_rfl⟩,ycu⟩
 ·cases h
section
set_option maxRecDepth 100000
set_option maxHeartbeats 4000000
theorem ycx : zbk Try.prog 27 yga := by
 refine zbm (S := ybx) (T := ty) mixed ty_ok yji Try.func27 (c := Try.f27.body.getD .skip) (by kernel_rfl) (by kernel_rfl) (fun xs pins hp _ => ?_)
 unfold yga at hp ⊢
 split at hp
 ·rename_i x y _
  refine ⟨by simp,?_⟩
  unfold Try.f27
  cases hb : Op.bytesLess x y <;> simp only [go_sem,zaa,↓reduceIte,ty,ybx,zpq,hb,Bool.not_true,Bool.not_false]
 ·exact hp.elim
end
def zqa (f : FuncId) : Option zaz :=
 match f with
 | 27 => some yga
 | 28 => some zpq
 | _ => none
theorem ymb : Fns Try.prog zqa := by
 intro f s h
 unfold zqa at h
 split at h
 ·injection h with h; subst h; exact ⟨⟨_,Try.func27,by kernel_rfl,by kernel_rfl⟩,ycx⟩
 ·injection h with h; subst h; exact ⟨⟨_,Try.func28,by kernel_rfl,by kernel_rfl⟩,zxt⟩
 ·cases h
section
set_option maxRecDepth 100000
set_option maxHeartbeats 4000000
theorem yiw : zbk Try.prog 24 bsTS := by
 refine zbm (S := zqa) (T := ty) mixed ty_ok ymb Try.func24 (c := Try.f24.body.getD .skip) (by kernel_rfl) (by kernel_rfl) (fun xs pins hp _ => ?_)
 unfold bsTS at hp ⊢
 split at hp
 ·rename_i xs f t _
  obtain ⟨hL,l,rfl,hs⟩ := hp
  rw [List.length_map] at hL
  have hlp : (l.map AV.str).length = l.length := by simp
  rw [zba]
  obtain ⟨Q,hQ⟩ : ∃ Q,thT t l = Q := ⟨_,rfl⟩
  obtain ⟨P,hP⟩ : ∃ P,plT t l = P := ⟨_,rfl⟩
  rw [hQ,hP]
  refine ⟨by simp,?_⟩
  unfold Try.f24
  simp only [go_sem,zaa,↓reduceIte,ty,zqa,hlp]
  refine zas ⟨fun m σ => ∃ (i j : Nat),m = j - i ∧ i ≤ j ∧ j ≤ l.length ∧ (∀ x ∈ l.take i,Op.bytesLess x t = true) ∧ (∀ x ∈ l.drop j,Op.bytesLess x t = false) ∧
    σ = ⟨[.sg 1 (l.map .str) f,.str t,.junk,.junk,.w (.int .i64 0),.w (.bool false),.w (.int .i64 l.length),.w (.int .i64 i),.w (.int .i64 j),.junk,.junk,.junk,.junk,.junk,.junk,.junk,.junk,.junk,.junk,.junk,.junk,.junk,.junk,.junk,.junk,.junk,.junk,.junk,.junk,.junk,.junk,.junk,.junk,.junk,.junk,.junk,.junk,.junk,.junk,.junk,.junk,.junk,.junk,.junk,.junk,.junk,.junk,.junk,.junk,.junk,.junk,.junk,.junk,.junk],[],4⟩,?_,?_⟩
  ·refine ⟨_,_,zaf [0,1,2,3] rfl rfl rfl ?_ ?_,0,l.length,rfl,by omega,by omega,by simp,by simp,rfl⟩
   ·simp only [ssT,zai,zaj,setSlot,gOf,AV.ren,renL,Blk.ren,Ax.look,Ax.put,reduceCtorEq,↓reduceIte,Nat.reduceEqDiff,Nat.reduceLT,Nat.reduceAdd,List.length_append,List.length_cons,List.length_nil,Option.some.injEq]; try simp
   ·simp only [ssT,zai,zaj,setSlot,gOf,AV.ren,renL,Blk.ren,Ax.look,Ax.put,reduceCtorEq,↓reduceIte,Nat.reduceEqDiff,Nat.reduceLT,Nat.reduceAdd,List.length_append,List.length_cons,List.length_nil,Option.some.injEq]
  ·rintro m σ ⟨i,j,rfl,hij,hj,hlo,hhi,rfl⟩
   by_cases hlt : i < j
   ·have d3 : decide ((i : Int) < (j : Int)) = true := decide_eq_true (by omega)
    have e0 : ((i : Int) + (j : Int) + 9223372036854775808) % 18446744073709551616 - 9223372036854775808 = ((i + j : Nat) : Int) := by omega
    have e1 : (((i + j : Nat) : Int)) % 18446744073709551616 = ((i + j : Nat) : Int) := by omega
    obtain ⟨h,hh⟩ : ∃ h,(i + j) / 2 = h := ⟨_,rfl⟩
    have hb : i ≤ h ∧ h < j := by omega
    have hs1 := zbq l h (by omega)
    obtain ⟨X,hX⟩ : ∃ X,l[h]'(by omega) = X := ⟨_,rfl⟩
    rw [hX] at hs1
    have e2 : (((i + j : Nat) : Int) / 2 + 9223372036854775808) % 18446744073709551616 - 9223372036854775808 = (h : Int) := by omega
    have e3 : ((h : Int) + 1 + 9223372036854775808) % 18446744073709551616 - 9223372036854775808 = ((h + 1 : Nat) : Int) := by omega
    cases hv : Op.bytesLess X t with
    | true =>
     have hlo2 : ∀ x ∈ l.take (h + 1),Op.bytesLess x t = true := yeo hs (by omega) (by rw [hX]; exact hv)
     simp only [go_sem,zaa,↓reduceIte,ty,zqa,yga,hlp,d3,hs1,hv,e0,e1,e2,e3,Int.toNat_natCast]
     repeat (first | refine And.intro (by omega) ?_ | refine And.intro ⟨by omega,by omega⟩ ?_)
     refine ⟨j - (h + 1),_,by omega,zaf [0,1,2,3] rfl rfl rfl ?_ ?_,h + 1,j,rfl,by omega,by omega,hlo2,hhi,rfl⟩
     ·simp only [ssT,zai,zaj,setSlot,gOf,AV.ren,renL,Blk.ren,Ax.look,Ax.put,reduceCtorEq,↓reduceIte,Nat.reduceEqDiff,Nat.reduceLT,Nat.reduceAdd,List.length_append,List.length_cons,List.length_nil,Option.some.injEq]
     ·simp only [ssT,zai,zaj,setSlot,gOf,AV.ren,renL,Blk.ren,Ax.look,Ax.put,reduceCtorEq,↓reduceIte,Nat.reduceEqDiff,Nat.reduceLT,Nat.reduceAdd,List.length_append,List.length_cons,List.length_nil,Option.some.injEq]
    | false =>
     have hhi2 : ∀ x ∈ l.drop h,Op.bytesLess x t = false := yep hs (by omega) (by rw [hX]; exact hv)
     simp only [go_sem,zaa,↓reduceIte,ty,zqa,yga,hlp,d3,hs1,hv,e0,e1,e2,e3,Int.toNat_natCast]
     repeat (first | refine And.intro (by omega) ?_ | refine And.intro ⟨by omega,by omega⟩ ?_)
     refine ⟨h - i,_,by omega,zaf [0,1,2,3] rfl rfl rfl ?_ ?_,i,h,rfl,by omega,by omega,hlo,hhi2,rfl⟩
     ·simp only [ssT,zai,zaj,setSlot,gOf,AV.ren,renL,Blk.ren,Ax.look,Ax.put,reduceCtorEq,↓reduceIte,Nat.reduceEqDiff,Nat.reduceLT,Nat.reduceAdd,List.length_append,List.length_cons,List.length_nil,Option.some.injEq]
     ·simp only [ssT,zai,zaj,setSlot,gOf,AV.ren,renL,Blk.ren,Ax.look,Ax.put,reduceCtorEq,↓reduceIte,Nat.reduceEqDiff,Nat.reduceLT,Nat.reduceAdd,List.length_append,List.length_cons,List.length_nil,Option.some.injEq]
   ·have d3 : decide ((i : Int) < (j : Int)) = false := decide_eq_false (by omega)
    obtain rfl : i = j := by omega
    have hpl := yoz (k := t) (l := l) (i := i) (by omega) hlo hhi
    simp only [go_sem,zaa,↓reduceIte,ty,zqa,hlp,d3]
    refine ⟨_,Weak.refl _,?_⟩
    by_cases hil : i < l.length
    ·have d4 : decide ((i : Int) < l.length) = true := decide_eq_true (by omega)
     have hs1 := zbq l i hil
     obtain ⟨X,hX⟩ : ∃ X,l[i] = X := ⟨_,rfl⟩
     rw [hX] at hs1
     have hth : Q = decide (X = t) := by
            rw [← hQ,yej (by rw [hpl]; exact hil)]; simp only [hpl,hX]
     cases hd : decide (X = t) with
     | true =>
      rw [hd] at hth
      simp only [go_sem,zaa,↓reduceIte,ty,zqa,zpq,hlp,d4,hs1,hd,Int.toNat_natCast]
      repeat (first | refine And.intro (by omega) ?_ | refine And.intro ⟨by omega,by omega⟩ ?_)
      rw [hth,← hP,hpl]
     | false =>
      rw [hd] at hth
      simp only [go_sem,zaa,↓reduceIte,ty,zqa,zpq,hlp,d4,hs1,hd,Int.toNat_natCast]
      repeat (first | refine And.intro (by omega) ?_ | refine And.intro ⟨by omega,by omega⟩ ?_)
      rw [hth,← hP,hpl]
    ·have d4 : decide ((i : Int) < l.length) = false := decide_eq_false (by omega)
     have hth : Q = false := by
            rw [← hQ,zrz (by rw [hpl]; exact hil)]
     simp only [go_sem,zaa,↓reduceIte,ty,zqa,zpq,hlp,d4,Int.toNat_natCast]
     subst hpl hth
     rw [← hP]
 ·exact hp.elim
end
end Go.Proofs.Ytffdpbbbdmmdlaa
namespace Go.Proofs.Ytffdpbbbdmmdlaa
open Ax
theorem ymd {a b : List (List UInt8)} (ha : srtT a) (hb : srtT b) (h : ∀ x,x ∈ a ↔ x ∈ b) : a = b := by
 have nd : ∀ {l : List (List UInt8)},srtT l → l.Nodup := fun hl => hl.imp fun {x y} hxy e => by subst e; exact List.lt_irrefl _ hxy
 refine List.Perm.eq_of_pairwise (le := fun x y => x < y) (fun x y _ _ h1 h2 => (List.lt_irrefl _ (List.lt_trans h1 h2)).elim) ha hb ?_
 exact (List.perm_ext_iff_of_nodup (nd ha) (nd hb)).2 h
end Go.Proofs.Ytffdpbbbdmmdlaa
namespace Go.Proofs.Ytffdpbbbdmmdlaa
open Ax
theorem ymg {w : World} {loc : Ax.Loc} {v : Value} {s : Nat} (h : R w loc (.sg s [] true) v) : R w loc (.si [] true) v := by
 cases h with
 | sg _ _ _ a cap cs hd hs hc hl hx hh => exact .si [] true a cap hd ⟨.inl rfl⟩
def ofG (l : List (List UInt8)) (p : Int) (v : List UInt8) : List Int := if thT v (srtU l) = true then (rgF (srtU l).length p).getD (plT v (srtU l)) [] else []
def ofGS : zaz
 | [.sg 1 xs f,.w (.int .i64 p),.str v],[] => ⟨xs.length ≤ 1000000 ∧ ∃ l : List (List UInt8),xs = l.map AV.str,.si (ofG (xs.map strB) p v) (!thT v (srtU (xs.map strB))),[]⟩
 | _,_ => zeh
def SofG (f : FuncId) : Option zaz :=
 match f with
 | 8 => some sdGS
 | 11 => some rgGS
 | 24 => some bsTS
 | _ => none
theorem yok : Fns Try.prog SofG := by
 intro f s h
 unfold SofG at h
 split at h
 ·injection h with h; subst h; exact ⟨⟨_,Try.func8,by kernel_rfl,by kernel_rfl⟩,zhj⟩
 ·injection h with h; subst h; exact ⟨⟨_,Try.func11,by kernel_rfl,by kernel_rfl⟩,znp⟩
 ·injection h with h; subst h; exact ⟨⟨_,Try.func24,by kernel_rfl,by kernel_rfl⟩,yiw⟩
 ·cases h
section
set_option maxRecDepth 100000
set_option maxHeartbeats 4000000
theorem zud : zbk Try.prog 16 ofGS := by
 refine zvf (S := SofG) (T := ty) mixed ty_ok yok Try.func16 (c := Try.f16.body.getD .skip) (by kernel_rfl) (by kernel_rfl) (fun xs pins hp _ => ?_)
 unfold ofGS at hp ⊢
 split at hp
 ·rename_i xs f p v _
  obtain ⟨hL,l0,rfl⟩ := hp
  rw [List.length_map] at hL
  refine ⟨by simp,?_⟩
  have hl0 : (l0.map AV.str).length = l0.length := by simp
  have hex0 : ∃ es : List (List UInt8),l0.map AV.str = es.map AV.str := ⟨l0,rfl⟩
  have hst0 := zba l0
  have hUl := zcx l0
  have hUs := (zef l0).1
  rw [hst0]
  unfold ofG
  obtain ⟨E,hE⟩ : ∃ E,empT (l0.map AV.str) = E := ⟨_,rfl⟩
  obtain ⟨l,hl⟩ : ∃ l,srtU l0 = l := ⟨_,rfl⟩
  rw [hl] at hUl hUs ⊢
  have hlp : (l.map AV.str).length = l.length := by simp
  have hex2 : ∃ es : List (List UInt8),l.map AV.str = es.map AV.str ∧ srtT es := ⟨l,rfl,hUs⟩
  have hst := zba l
  have hL1 : l.length ≤ 1000000 := by omega
  unfold Try.f16
  cases ht : thT v l with
  | false =>
   rw [if_neg (by simp)]
   simp only [go_sem,zaa,↓reduceIte,ty,SofG,sdGS,rgGS,bsTS,hl0,hlp,hL,hL1,hex0,hex2,hst0,hst,hl,hE,ht,zbh,Bool.not_true,Bool.not_false]
   refine ⟨_,zjy 6 (.si [] true) (fun w loc v h => ymg h),?_⟩
   simp only [go_sem,zaa,↓reduceIte,ty]
  | true =>
   have hpl : plT v l < l.length := by
    rcases Nat.lt_or_ge (plT v l) l.length with h | h
    ·exact h
    ·rw [zrz (by omega)] at ht; cases ht
   have hrl : (rgF l.length p).length = l.length := zhl _ _ _
   have hsl := zgo (rgF l.length p) (plT v l) (by omega)
   have hof : (rgF l.length p).getD (plT v l) [] = (rgF l.length p)[plT v l]'(by omega) := by rw [List.getD_eq_getElem?_getD,List.getElem?_eq_getElem (by omega)]; rfl
   rw [if_pos rfl,hof]
   have hrm : ((rgF l.length p).map siA).length = l.length := by simp [hrl]
   obtain ⟨X,hX⟩ : ∃ X,(rgF l.length p)[plT v l]'(by omega) = X := ⟨_,rfl⟩
   rw [hX] at hsl ⊢
   clear hof hX
   obtain ⟨G,hG⟩ : ∃ G,rgF l.length p = G := ⟨_,rfl⟩
   obtain ⟨K,hK⟩ : ∃ K,plT v l = K := ⟨_,rfl⟩
   rw [hG,hK] at hsl
   rw [hG] at hrm
   rw [hK] at hpl
   have hcg : ∀ h,coe ty 27 (.sg 1 (G.map siA) h) = .sg 1 (G.map siA) h := fun h => by cases G <;> rfl
   simp only [go_sem,zaa,↓reduceIte,ty,SofG,sdGS,rgGS,bsTS,hl0,hlp,hL,hL1,hex0,hex2,hst0,hst,hl,hE,ht,hG,hK,hsl,hrm,hpl,zbh,hcg,Int.toNat_natCast,Bool.not_true]
   refine And.intro (by omega) ⟨_,Weak.refl _,?_⟩
   simp only [go_sem,zaa,↓reduceIte,ty]
 ·exact hp.elim
end
end Go.Proofs.Ytffdpbbbdmmdlaa
namespace Go.Proofs.Ytffdpbbbdmmdlaa
open Ax
def rsoS : zaz
 | [.si a f,.si b g],[] => ⟨a = b ∧ a.length ≤ 1000000,.w (.bool true),[]⟩
 | [.sg 1 [] f,.sg 1 [] g],[] => ⟨True,.w (.bool true),[]⟩
 | _,_ => zeh
def saaS : zaz
 | [.sg 1 xs f,.sg 1 ys g],[] => ⟨xs = ys ∧ xs.length ≤ 1000000 ∧ ∃ L : List (List Int),xs = L.map siA ∧ ∀ r ∈ L,r.length ≤ 1000000,.w (.bool true),[]⟩
 | _,_ => zeh
section
set_option maxRecDepth 100000
set_option maxHeartbeats 8000000
theorem znn : zbk Try.prog 15 rsoS := by
 refine zbm (S := noS) (T := ty) mixed ty_ok zki Try.func15 (c := Try.f15.body.getD .skip) (by kernel_rfl) (by kernel_rfl) (fun xs pins hp _ => ?_)
 unfold rsoS at hp ⊢
 split at hp
 ·rename_i a f b g _
  obtain ⟨rfl,hL⟩ := hp
  have di : ∀ k : Int,decide (k = k) = true := fun k => decide_eq_true rfl
  refine ⟨by simp,?_⟩
  unfold Try.f15
  simp only [go_sem,zaa,↓reduceIte,ty,noS,di,Bool.not_true]
  refine zas ⟨fun m σ => ∃ i : Nat,m = a.length - i ∧ i ≤ a.length ∧
   σ = ⟨[.si a f,.si a g,.junk,.junk,.w (.bool false),.w (.int .i64 i),.junk,.junk,.junk,.junk,.junk,.junk,.junk,.junk,.junk,.junk,.junk,.junk,.junk,.junk,.junk,.junk,.junk,.junk,.junk,.junk],[],4⟩,?_,?_⟩
  ·refine ⟨_,_,zaf [0,1,2,3] rfl rfl rfl ?_ ?_,0,rfl,by omega,rfl⟩
   ·simp only [ssT,zai,zaj,setSlot,gOf,AV.ren,renL,Blk.ren,Ax.look,Ax.put,reduceCtorEq,↓reduceIte,Nat.reduceEqDiff,Nat.reduceLT,Nat.reduceAdd,List.length_append,List.length_cons,List.length_nil,Option.some.injEq]; try simp
   ·simp only [ssT,zai,zaj,setSlot,gOf,AV.ren,renL,Blk.ren,Ax.look,Ax.put,reduceCtorEq,↓reduceIte,Nat.reduceEqDiff,Nat.reduceLT,Nat.reduceAdd,List.length_append,List.length_cons,List.length_nil,Option.some.injEq]
  ·rintro m σ ⟨i,rfl,hi,rfl⟩
   by_cases hil : i < a.length
   ·have d2 : decide ((i : Int) < a.length) = true := decide_eq_true (by omega)
    have e1 : ((i : Int) + 1 + 9223372036854775808) % 18446744073709551616 - 9223372036854775808 = ((i + 1 : Nat) : Int) := by omega
    simp only [go_sem,zaa,↓reduceIte,ty,noS,d2,e1,di,Int.toNat_natCast,Bool.not_true]
    repeat (first | refine And.intro (by omega) ?_ | refine And.intro ⟨by omega,by omega⟩ ?_)
    refine ⟨a.length - (i + 1),_,by omega,zaf [0,1,2,3] rfl rfl rfl ?_ ?_,i + 1,rfl,by omega,rfl⟩
    ·simp only [ssT,zai,zaj,setSlot,gOf,AV.ren,renL,Blk.ren,Ax.look,Ax.put,reduceCtorEq,↓reduceIte,Nat.reduceEqDiff,Nat.reduceLT,Nat.reduceAdd,List.length_append,List.length_cons,List.length_nil,Option.some.injEq]; try simp
    ·simp only [ssT,zai,zaj,setSlot,gOf,AV.ren,renL,Blk.ren,Ax.look,Ax.put,reduceCtorEq,↓reduceIte,Nat.reduceEqDiff,Nat.reduceLT,Nat.reduceAdd,List.length_append,List.length_cons,List.length_nil,Option.some.injEq]
   ·have d2 : decide ((i : Int) < a.length) = false := decide_eq_false (by omega)
    simp only [go_sem,zaa,↓reduceIte,ty,noS,d2]
    refine ⟨_,Weak.refl _,?_⟩
    simp only [go_sem,zaa,↓reduceIte,ty,noS]
 ·rename_i f g _
  have d0 : decide (((0 : Nat) : Int) = ((0 : Nat) : Int)) = true := rfl
  have d1 : decide ((0 : Int) < ((0 : Nat) : Int)) = false := rfl
  have d2 : decide (((0 : Nat) : Int) < ((0 : Nat) : Int)) = false := rfl
  refine ⟨by simp,?_⟩
  unfold Try.f15
  simp only [go_sem,zaa,↓reduceIte,ty,noS,d0,d1,d2,List.length_nil,Bool.not_true]
  refine zas ⟨fun m σ => m = 0 ∧ σ = ⟨[.sg 1 [] f,.sg 1 [] g,.junk,.junk,.w (.bool false),.w (.int .i64 0),.junk,.junk,.junk,.junk,.junk,.junk,.junk,.junk,.junk,.junk,.junk,.junk,.junk,.junk,.junk,.junk,.junk,.junk,.junk,.junk],[],4⟩,?_,?_⟩
  ·refine ⟨_,_,zaf [0,1,2,3] rfl rfl rfl ?_ ?_,rfl,rfl⟩
   ·simp only [ssT,zai,zaj,setSlot,gOf,AV.ren,renL,Blk.ren,Ax.look,Ax.put,reduceCtorEq,↓reduceIte,Nat.reduceEqDiff,Nat.reduceLT,Nat.reduceAdd,List.length_append,List.length_cons,List.length_nil,Option.some.injEq]; try simp
   ·simp only [ssT,zai,zaj,setSlot,gOf,AV.ren,renL,Blk.ren,Ax.look,Ax.put,reduceCtorEq,↓reduceIte,Nat.reduceEqDiff,Nat.reduceLT,Nat.reduceAdd,List.length_append,List.length_cons,List.length_nil,Option.some.injEq]
  ·rintro m σ ⟨rfl,rfl⟩
   simp only [go_sem,zaa,↓reduceIte,ty,noS,d0,d1,d2,List.length_nil,Bool.not_true]
   refine ⟨_,Weak.refl _,?_⟩
   simp only [go_sem,zaa,↓reduceIte,ty,noS]
 ·exact hp.elim
def Ssaa (f : FuncId) : Option zaz :=
 match f with
 | 15 => some rsoS
 | _ => none
theorem yoi : Fns Try.prog Ssaa := by
 intro f s h
 unfold Ssaa at h
 split at h
 ·injection h with h; subst h; exact ⟨⟨_,Try.func15,by kernel_rfl,by kernel_rfl⟩,znn⟩
 ·cases h
theorem ztp : zbk Try.prog 10 saaS := by
 refine zbm (S := Ssaa) (T := tyF) mixed yee yoi Try.func10 (c := Try.f10.body.getD .skip) (by kernel_rfl) (by kernel_rfl) (fun xs pins hp _ => ?_)
 unfold saaS at hp ⊢
 split at hp
 ·rename_i xs f ys g _
  obtain ⟨rfl,hL,L,rfl,hr⟩ := hp
  rw [List.length_map] at hL
  have hlp : (L.map siA).length = L.length := by simp
  have di : ∀ k : Int,decide (k = k) = true := fun k => decide_eq_true rfl
  have dn : ∀ k : Int,decide (k ≠ k) = false := fun k => decide_eq_false (fun h => h rfl)
  refine ⟨by simp,?_⟩
  unfold Try.f10
  simp only [go_sem,zaa,↓reduceIte,tyF,zat,ty,Ssaa,hlp,di,dn,Bool.not_true]
  refine zas ⟨fun m σ => ∃ i : Nat,m = L.length - i ∧ i ≤ L.length ∧
   σ = ⟨[.sg 1 (L.map siA) f,.sg 1 (L.map siA) g,.junk,.junk,.w (.bool false),.w (.int .i64 i),.junk,.junk,.junk,.junk,.junk,.junk,.junk,.junk,.junk,.junk,.junk,.junk,.junk,.junk,.junk,.junk,.junk,.junk,.junk,.junk,.junk],[],4⟩,?_,?_⟩
  ·refine ⟨_,_,zaf [0,1,2,3] rfl rfl rfl ?_ ?_,0,rfl,by omega,rfl⟩
   ·simp only [ssT,zai,zaj,setSlot,gOf,AV.ren,renL,Blk.ren,Ax.look,Ax.put,reduceCtorEq,↓reduceIte,Nat.reduceEqDiff,Nat.reduceLT,Nat.reduceAdd,List.length_append,List.length_cons,List.length_nil,Option.some.injEq,zbi]; try simp
   ·simp only [ssT,zai,zaj,setSlot,gOf,AV.ren,renL,Blk.ren,Ax.look,Ax.put,reduceCtorEq,↓reduceIte,Nat.reduceEqDiff,Nat.reduceLT,Nat.reduceAdd,List.length_append,List.length_cons,List.length_nil,Option.some.injEq]
  ·rintro m σ ⟨i,rfl,hi,rfl⟩
   by_cases hil : i < L.length
   ·have d2 : decide ((i : Int) < L.length) = true := decide_eq_true (by omega)
    have e1 : ((i : Int) + 1 + 9223372036854775808) % 18446744073709551616 - 9223372036854775808 = ((i + 1 : Nat) : Int) := by omega
    have hs1 := zgo L i hil
    have hrl := hr _ (List.getElem_mem hil)
    obtain ⟨X,hX⟩ : ∃ X,L[i] = X := ⟨_,rfl⟩
    rw [hX] at hs1 hrl
    have tr : ∀ k : List Int,(k = k) = True := fun k => eq_true rfl
    simp only [go_sem,zaa,↓reduceIte,tyF,zat,ty,Ssaa,rsoS,hlp,d2,e1,hs1,hrl,tr,Int.toNat_natCast,Bool.not_true]
    repeat (first | refine And.intro (by omega) ?_ | refine And.intro ⟨by omega,by omega⟩ ?_)
    refine ⟨L.length - (i + 1),_,by omega,zaf [0,1,2,3] rfl rfl rfl ?_ ?_,i + 1,rfl,by omega,rfl⟩
    ·simp only [ssT,zai,zaj,setSlot,gOf,AV.ren,renL,Blk.ren,Ax.look,Ax.put,reduceCtorEq,↓reduceIte,Nat.reduceEqDiff,Nat.reduceLT,Nat.reduceAdd,List.length_append,List.length_cons,List.length_nil,Option.some.injEq,zbi]; try simp
    ·simp only [ssT,zai,zaj,setSlot,gOf,AV.ren,renL,Blk.ren,Ax.look,Ax.put,reduceCtorEq,↓reduceIte,Nat.reduceEqDiff,Nat.reduceLT,Nat.reduceAdd,List.length_append,List.length_cons,List.length_nil,Option.some.injEq]
   ·have d2 : decide ((i : Int) < L.length) = false := decide_eq_false (by omega)
    simp only [go_sem,zaa,↓reduceIte,tyF,zat,ty,Ssaa,hlp,d2]
    refine ⟨_,Weak.refl _,?_⟩
    simp only [go_sem,zaa,↓reduceIte,tyF,zat,ty]
 ·exact hp.elim
end
end Go.Proofs.Ytffdpbbbdmmdlaa
namespace Go.Proofs.Ytffdpbbbdmmdlaa
open Ax
theorem yfb (P n : Nat) : ∀ k,∀ r ∈ (rgK P n k).1,r.length ≤ P + 1
 | 0 => by intro r hr; cases hr
 | k + 1 => by
  intro r hr
  simp only [rgK] at hr
  rcases List.mem_append.1 hr with h | h
  ·exact yfb P n k r h
  ·rw [List.mem_singleton] at h; subst h; rw [zkn]; exact zmt P n k
theorem yfc (n : Nat) (p : Int) : ∀ r ∈ rgF n p,r.length ≤ 1000000 := fun r hr => by
 have h1 := yfb (clpN p) n n r hr
 have h2 := zgt p
 omega
theorem yeh (n P : Nat) (hP : P ≤ 1000) : ∀ r ∈ tnL n P,r.length ≤ 1000000 := fun r hr => by
 obtain ⟨k,_,rfl⟩ := List.mem_map.1 hr
 have := zxc n P k
 omega
theorem yfq (l : List (List UInt8)) (p : Int) (v : List UInt8) : (ofG l p v).length ≤ 1000000 := by
 unfold ofG
 split
 ·rename_i ht
  rw [List.getD_eq_getElem?_getD]
  by_cases h : plT v (srtU l) < (rgF (srtU l).length p).length
  ·rw [List.getElem?_eq_getElem h]; exact yfc _ _ _ (List.getElem_mem h)
  ·rw [List.getElem?_eq_none (by omega)]; simp
 ·simp
end Go.Proofs.Ytffdpbbbdmmdlaa
