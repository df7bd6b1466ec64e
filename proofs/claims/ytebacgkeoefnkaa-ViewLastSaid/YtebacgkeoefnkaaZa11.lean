/- What the proofs of this seat stand on; it asks nothing. -/
import Derived.Test.YtebacgkeoefnkaaZa10
set_option linter.unusedSimpArgs false
set_option linter.unusedVariables false
namespace Go.Proofs.Ytebacgkeoefnkaa
open Ax
def clnB (M : KM) (now g : Int) (x : Bat) : Bat := ⟨x.b,x.c,x.p,x.e,x.s,x.rs.filter (fun r => zjw M x.b r now g)⟩
def empB (x : Bat) : Prop := x.rs.length = 0 ∧ x.p = 0
instance (x : Bat) : Decidable (empB x) := by unfold empB; infer_instance
def clnS (M : KM) (now g : Int) (a : List Bat) (x : Bat) : List Bat := if empB (clnB M now g x) then a else a ++ [clnB M now g x]
def clnM (M : KM) (now g : Int) (l : List Bat) : List Bat := l.foldl (clnS M now g) []
def clnL (l : List Bat) (now g : Int) : List Bat := clnM (zda l) now g l
theorem yez (M : KM) (now g : Int) : ∀ (l a : List Bat),(l.foldl (clnS M now g) a).length ≤ a.length + l.length
 | [],a => Nat.le_refl _
 | x :: l,a => by
  have h := yez M now g l (clnS M now g a x)
  have h2 : (clnS M now g a x).length ≤ a.length + 1 := by unfold clnS; split <;> simp
  simp only [List.foldl_cons,List.length_cons]; omega
def zqw : zas
 | [.agg [.w (.int .i64 b),.w (.int .i64 c),.w (.int .i64 p),.w (.int .i64 e),.w (.int .i64 s),.sg 6 xs f]],[] => ⟨xs.length ≤ 9223372036854775807,.w (.bool (decide (xs.length = 0 ∧ p = 0))),[]⟩
 | _,_ => zcj
def yfa : zas
 | [.sg 6 xs f,.w (.int .i64 now),.w (.int .i64 g)],[] => ⟨xs.length ≤ 1000000 ∧ ∃ es : List (Bat × Bool),xs = es.map bvp ∧ ∀ p ∈ es,p.1.rs.length ≤ 1000000,.sg 6 (bfr (clnL (xs.map ubat) now g)) false,[]⟩
 | _,_ => zcj
section
set_option maxRecDepth 100000
theorem yca : zbg Try.prog 43 zqw := by
 refine zbb (S := noS) (T := ty) mixed ty_ok zel Try.func43 (c := Try.f43.body.getD .skip) (by kernel_rfl) (by kernel_rfl) (fun xs pins hp _ => ?_)
 unfold zqw at hp ⊢
 split at hp
 ·rename_i b c p e s xs f _
  have hL : xs.length ≤ 9223372036854775807 := hp
  refine ⟨by simp,?_⟩
  unfold Try.f43
  by_cases h1 : xs.length = 0
  ·have d1 : decide ((xs.length : Int) = 0) = true := decide_eq_true (by omega)
   by_cases h2 : p = 0
   ·have d2 : decide (p = 0) = true := decide_eq_true h2
    have dv : decide (xs.length = 0 ∧ p = 0) = true := decide_eq_true ⟨h1,h2⟩
    simp only [go_sem,zaa,↓reduceIte,ty,noS,d1,d2,dv]
   ·have d2 : decide (p = 0) = false := decide_eq_false h2
    have dv : decide (xs.length = 0 ∧ p = 0) = false := decide_eq_false (fun h => h2 h.2)
    simp only [go_sem,zaa,↓reduceIte,ty,noS,d1,d2,dv]
  ·have d1 : decide ((xs.length : Int) = 0) = false := decide_eq_false (by omega)
   have dv : decide (xs.length = 0 ∧ p = 0) = false := decide_eq_false (fun h => h1 h.1)
   simp only [go_sem,zaa,↓reduceIte,ty,noS,d1,dv]
 ·exact hp.elim
def zkj (f : FuncId) : Option zas :=
 match f with
 | 20 => some zky
 | 43 => some zqw
 | 42 => some zlh
 | _ => none
theorem yos : Fns Try.prog zkj := by
 intro f s h
 unfold zkj at h
 split at h
 ·injection h with h; subst h; exact ⟨⟨_,Try.func20,by kernel_rfl,by kernel_rfl⟩,zof⟩
 ·injection h with h; subst h; exact ⟨⟨_,Try.func43,by kernel_rfl,by kernel_rfl⟩,yca⟩
 ·injection h with h; subst h; exact ⟨⟨_,Try.func42,by kernel_rfl,by kernel_rfl⟩,zzd⟩
 ·cases h
def zkl (f : FuncId) : Option zas :=
 match f with
 | 41 => some zqy
 | _ => none
theorem yox : FnsO Try.prog zkl := by
 intro f s h
 unfold zkl at h
 split at h
 ·injection h with h; subst h; exact ⟨⟨_,Try.func41,by kernel_rfl,by kernel_rfl⟩,ycc⟩
 ·cases h
def zjc : zlp := fun id => match id with
 | 7 => .opn [] 4
 | _ => .std
set_option maxHeartbeats 4000000 in
theorem yce : zbg Try.prog 19 yfa := by
 refine znv (S := zkj) (SO := zkl) (T := ty) mixed ty_ok yos yox Try.func19 (c := Try.f19.body.getD .skip) (by kernel_rfl) (fun xs pins hp _ => ?_)
 unfold yfa at hp ⊢
 split at hp
 ·rename_i xs f now g _
  obtain ⟨hL,es,rfl,he⟩ := hp
  simp only [List.length_map] at hL
  refine ⟨by simp,zjc,by kernel_rfl,?_⟩
  have hlp : (es.map bvp).length = es.length := by simp
  have hbs : isBs (es.map bvp) := ⟨es,rfl,fun p hp => by have := he p hp; omega⟩
  have mu := zcl es
  rw [mu]
  obtain ⟨l,hl⟩ : ∃ l,es.map Prod.fst = l := ⟨_,rfl⟩
  rw [hl] at mu ⊢
  have hlq : l.length = es.length := by subst hl; simp
  obtain ⟨M,hM⟩ : ∃ M,zda l = M := ⟨_,rfl⟩
  have hcl : clnL l now g = clnM M now g l := by rw [← hM]; rfl
  have hkv : (kvA M).map ukv = M := yjh M
  have hmx : ∃ m,kvA M = kvA m := ⟨M,rfl⟩
  rw [hcl]
  have ht : top = 4294967296 := rfl
  have hx0 : ∃ qs : List Rec,([] : List AV) = qs.map rv := ⟨[],rfl⟩
  have hcB : ∀ h,coe ty 28 (.sg 6 (es.map bvp) h) = .sg 6 (es.map bvp) h := fun h => by cases es <;> rfl
  unfold Try.f19
  simp only [go_sem,zac,↓reduceIte,lcT,ty,zkj,zkl,zjc,zky,hcB,hlp,hbs,mu,hM]
  repeat (refine And.intro (by omega) ?_)
  refine zfd ⟨fun m σ => ∃ (i : Nat) (a : List Bat),m = es.length - i ∧ i ≤ es.length ∧ clnM M now g l = (l.drop i).foldl (clnS M now g) a ∧ a.length ≤ i ∧
    σ = ⟨[.sg 6 (es.map bvp) f,.junk,.junk,.junk,.cp [.w (.int .i64 now)],.cp [.w (.int .i64 g)],.junk,.rf 5 1 0 0,.ms 6 6 0 a.length,.junk,.junk,.junk,.junk,.junk,.sg 6 (es.map bvp) f,.w (.int .i64 es.length),.w (.int .i64 i),.junk,.junk,.junk,.junk,.junk,.junk,.junk,.junk,.junk,.junk,.junk,.junk,.junk,.junk,.junk,.junk,.junk,.junk,.junk],
     [(4,.o (.mp (kvA M))),(5,.g 1 [.rf 4 0 0 0]),(6,.g 6 (bfr a))],7⟩,?_,?_⟩
  ·refine ⟨_,_,(yjg 4 4 (.int .i64 now) rfl (by simp [slot,AV.ids])).trans ((yjg 12 5 (.int .i64 g) rfl (by simp [slot,AV.ids,fpL,AV.fp])).trans ((zlq 8 6 (.g 6 []) ⟨by decide,rfl⟩ (by exact trivial)).trans (zaf [0,1,2,3,36,44,92] rfl rfl rfl ?_ ?_))),0,[],rfl,by omega,rfl,by simp,rfl⟩
   ·simp only [ssT,zai,zaj,setSlot,gOf,AV.ren,renL,Blk.ren,Ax.look,Ax.put,reduceCtorEq,↓reduceIte,Nat.reduceEqDiff,Nat.reduceLT,Nat.reduceAdd,List.length_append,List.length_cons,List.length_nil,Option.some.injEq,fpL,fpH,AV.fp,Blk.fp,Nat.reduceBEq,cond_true,cond_false,beq_self_eq_true,Bool.and_self]; try simp
   ·simp only [ssT,zai,zaj,setSlot,gOf,AV.ren,renL,Blk.ren,Ax.look,Ax.put,reduceCtorEq,↓reduceIte,Nat.reduceEqDiff,Nat.reduceLT,Nat.reduceAdd,List.length_append,List.length_cons,List.length_nil,Option.some.injEq,fpL,fpH,AV.fp,Blk.fp,Nat.reduceBEq,cond_true,cond_false,beq_self_eq_true,Bool.and_self,bfr_nil]; try simp
  ·rintro m σ ⟨i,a,rfl,hi,hinv,hal,rfl⟩
   have e1 : ((i : Int) + 1 + 9223372036854775808) % 18446744073709551616 - 9223372036854775808 = ((i + 1 : Nat) : Int) := by omega
   have hml := yla a
   by_cases hil : i < es.length
   ·have d3 : decide ((i : Int) < es.length) = true := decide_eq_true (by omega)
    have hs1 := zhk es i hil
    have m1 := he es[i] (List.getElem_mem hil)
    have hdr : l.drop i = es[i].1 :: l.drop (i + 1) := by
     rw [List.drop_eq_getElem_cons (by omega)]
     subst hl; simp
    obtain ⟨P,hP⟩ : ∃ P,es[i] = P := ⟨_,rfl⟩
    rw [hP] at hs1 m1 hdr
    rw [hdr,List.foldl_cons] at hinv
    obtain ⟨⟨b,c,p,e,s,rs⟩,f'⟩ := P
    have hs1 : slot (es.map bvp) i = .agg [.w (.int .i64 b),.w (.int .i64 c),.w (.int .i64 p),.w (.int .i64 e),.w (.int .i64 s),.sg 6 (rs.map rv) f'] := hs1
    simp only at m1
    have hlr : (rs.map rv).length = rs.length := by simp
    have hcR : ∀ h,coe ty 25 (.sg 6 (rs.map rv) h) = .sg 6 (rs.map rv) h := fun h => by cases rs <;> rfl
    have hx : ∃ qs : List Rec,rs.map rv = qs.map rv := ⟨rs,rfl⟩
    have hr1 := zam rs
    have hflt : rs.filter (fun r => !goB M b now g r) = rs.filter (fun r => zjw M b r now g) := by
     have hf : (fun r => !goB M b now g r) = fun r => zjw M b r now g := by funext r; unfold goB; exact Bool.not_not _
     rw [hf]
    obtain ⟨qs,hq⟩ : ∃ qs,rs.filter (fun r => zjw M b r now g) = qs := ⟨_,rfl⟩
    rw [hq] at hflt
    have hlqs : qs.length ≤ rs.length := by rw [← hq]; exact List.length_filter_le _ _
    have hlqv : (qs.map rv).length = qs.length := by simp
    have hB : clnB M now g ⟨b,c,p,e,s,rs⟩ = ⟨b,c,p,e,s,qs⟩ := by unfold clnB; rw [hq]
    unfold clnS at hinv
    rw [hB] at hinv
    have hst : (qs.length = 0 ∧ p = 0) = empB ⟨b,c,p,e,s,qs⟩ := rfl
    have hcN : ∀ h,coe ty 25 (.sg 6 [] h) = .sg 6 [] h := fun h => rfl
    have hbsn := yro a ⟨b,c,p,e,s,qs⟩
    simp only [bav] at hbsn
    by_cases hz : rs.length = 0
    ·obtain rfl : rs = [] := List.eq_nil_of_length_eq_zero hz
     have hq0 : qs = [] := by rw [← hq]; exact List.filter_nil
     clear hq hflt hB hlqs hlqv hcR hlr hx hr1
     subst hq0
     simp only [List.map_nil] at hs1 hbsn
     have l0 : ([] : List AV).length = 0 := rfl
     by_cases hE : empB ⟨b,c,p,e,s,[]⟩
     ·have dE : decide (p = 0) = true := decide_eq_true hE.2
      rw [if_pos hE] at hinv
      simp only [go_sem,zac,↓reduceIte,lcT,ty,zkj,zkl,zjc,zlh,zqy,zqw,hcN,hlp,hml,d3,hs1,hx0,zow,dE,e1,cond_true,cond_false,zau,zcc,Int.toNat_natCast,Bool.not_true,l0]
      repeat (refine And.intro (by omega) ?_)
      refine ⟨es.length - (i + 1),_,by omega,zaf [0,1,2,3,4,5,6] rfl rfl rfl ?_ ?_,i + 1,a,rfl,by omega,hinv,by omega,rfl⟩
      ·simp only [ssT,zai,zaj,setSlot,gOf,AV.ren,renL,Blk.ren,Ax.look,Ax.put,reduceCtorEq,↓reduceIte,Nat.reduceEqDiff,Nat.reduceLT,Nat.reduceAdd,List.length_append,List.length_cons,List.length_nil,Option.some.injEq]
      ·simp only [ssT,zai,zaj,setSlot,gOf,AV.ren,renL,Blk.ren,Ax.look,Ax.put,reduceCtorEq,↓reduceIte,Nat.reduceEqDiff,Nat.reduceLT,Nat.reduceAdd,List.length_append,List.length_cons,List.length_nil,Option.some.injEq,zks]
     ·have dE : decide (p = 0) = false := decide_eq_false (fun h => hE ⟨rfl,h⟩)
      rw [if_neg hE] at hinv
      simp only [go_sem,zac,↓reduceIte,lcT,ty,zkj,zkl,zjc,zlh,zqy,zqw,hcN,hlp,hml,d3,hs1,hx0,zow,dE,e1,cond_true,cond_false,zau,zcc,Int.toNat_natCast,Bool.not_false,l0]
      repeat (refine And.intro (by omega) ?_)
      refine ⟨es.length - (i + 1),_,by omega,zaf [0,1,2,3,4,5,167] rfl rfl rfl ?_ ?_,i + 1,_,rfl,by omega,hinv,by simp; omega,rfl⟩
      ·simp only [ssT,zai,zaj,setSlot,gOf,AV.ren,renL,Blk.ren,Ax.look,Ax.put,reduceCtorEq,↓reduceIte,Nat.reduceEqDiff,Nat.reduceLT,Nat.reduceAdd,List.length_append,List.length_cons,List.length_nil,Option.some.injEq,List.length_append,List.length_cons,List.length_nil]
      ·simp only [ssT,zai,zaj,setSlot,gOf,AV.ren,renL,Blk.ren,Ax.look,Ax.put,reduceCtorEq,↓reduceIte,Nat.reduceEqDiff,Nat.reduceLT,Nat.reduceAdd,List.length_append,List.length_cons,List.length_nil,Option.some.injEq,zks,hbsn]
       rw [← hbsn,zks]
    ·have hem : emp6 (rs.map rv) = false := by cases rs with | nil => simp at hz | cons _ _ => rfl
     have hpos : 0 < rs.length := by omega
     have dpos : decide (0 < rs.length) = true := decide_eq_true hpos
     by_cases hE : empB ⟨b,c,p,e,s,qs⟩
     ·have dE : decide (qs.length = 0 ∧ p = 0) = true := decide_eq_true hE
      rw [if_pos hE] at hinv
      simp only [go_sem,zac,↓reduceIte,lcT,ty,zkj,zkl,zjc,zlh,zqy,zqw,hcR,hlp,hml,hlr,hlqv,d3,hs1,hx,hr1,hem,hpos,dpos,hmx,hkv,hflt,dE,e1,cond_true,cond_false,zau,zcc,Int.toNat_natCast,Bool.not_true]
      repeat (refine And.intro (by omega) ?_)
      refine ⟨es.length - (i + 1),_,by omega,zaf [0,1,2,3,4,5,6] rfl rfl rfl ?_ ?_,i + 1,a,rfl,by omega,hinv,by omega,rfl⟩
      ·simp only [ssT,zai,zaj,setSlot,gOf,AV.ren,renL,Blk.ren,Ax.look,Ax.put,reduceCtorEq,↓reduceIte,Nat.reduceEqDiff,Nat.reduceLT,Nat.reduceAdd,List.length_append,List.length_cons,List.length_nil,Option.some.injEq]
      ·simp only [ssT,zai,zaj,setSlot,gOf,AV.ren,renL,Blk.ren,Ax.look,Ax.put,reduceCtorEq,↓reduceIte,Nat.reduceEqDiff,Nat.reduceLT,Nat.reduceAdd,List.length_append,List.length_cons,List.length_nil,Option.some.injEq,zks]
     ·have dE : decide (qs.length = 0 ∧ p = 0) = false := decide_eq_false hE
      rw [if_neg hE] at hinv
      simp only [go_sem,zac,↓reduceIte,lcT,ty,zkj,zkl,zjc,zlh,zqy,zqw,hcR,hlp,hml,hlr,hlqv,d3,hs1,hx,hr1,hem,hpos,dpos,hmx,hkv,hflt,dE,e1,cond_true,cond_false,zau,zcc,Int.toNat_natCast,Bool.not_false]
      repeat (refine And.intro (by omega) ?_)
      refine ⟨es.length - (i + 1),_,by omega,zaf [0,1,2,3,4,5,167] rfl rfl rfl ?_ ?_,i + 1,_,rfl,by omega,hinv,by simp; omega,rfl⟩
      ·simp only [ssT,zai,zaj,setSlot,gOf,AV.ren,renL,Blk.ren,Ax.look,Ax.put,reduceCtorEq,↓reduceIte,Nat.reduceEqDiff,Nat.reduceLT,Nat.reduceAdd,List.length_append,List.length_cons,List.length_nil,Option.some.injEq,List.length_append,List.length_cons,List.length_nil]
      ·simp only [ssT,zai,zaj,setSlot,gOf,AV.ren,renL,Blk.ren,Ax.look,Ax.put,reduceCtorEq,↓reduceIte,Nat.reduceEqDiff,Nat.reduceLT,Nat.reduceAdd,List.length_append,List.length_cons,List.length_nil,Option.some.injEq,zks,hbsn]
       rw [← hbsn,zks]
   ·have d3 : decide ((i : Int) < es.length) = false := decide_eq_false (by omega)
    have hdr : l.drop i = [] := List.drop_eq_nil_of_le (by omega)
    rw [hdr,List.foldl_nil] at hinv
    simp only [go_sem,zac,↓reduceIte,lcT,ty,zkj,zkl,zjc,hlp,hml,d3]
    refine ⟨_,Weak.refl _,?_⟩
    simp only [go_sem,zac,↓reduceIte,lcT,ty,zkj,zkl,zjc,hlp,hml,d3]
    have hdle : decide (0 + a.length ≤ (bfr a).length) = true := decide_eq_true (by omega)
    have htk : (bfr a).take a.length = bfr a := List.take_of_length_le (by omega)
    refine ⟨_,zpa 6 6 6 (bfr a) rfl (zny a) (by simp [slot,AV.ids]),?_⟩
    simp only [fgL,fgH,AV.fg,Blk.fg,Nat.reduceBEq,cond_true,cond_false,hdle,Bool.and_true,beq_self_eq_true,Bool.true_and,List.drop_zero,htk]
    rw [← hinv]
    simp only [go_sem,zac,↓reduceIte,lcT,ty,zny,zks,cond_true]
 ·exact hp.elim
end
end Go.Proofs.Ytebacgkeoefnkaa
namespace Go.Proofs.Ytebacgkeoefnkaa
open Ax
theorem yey (M : KM) (now g : Int) (Q : Bat → Prop) (hQ : ∀ x,Q x → Q (clnB M now g x)) : ∀ (l a : List Bat),(∀ x ∈ l,Q x) → (∀ x ∈ a,Q x) → ∀ x ∈ l.foldl (clnS M now g) a,Q x
 | [],a,_,ha => ha
 | y :: l,a,hl,ha => by
  refine yey M now g Q hQ l _ (fun x hx => hl x (List.mem_cons_of_mem _ hx)) ?_
  intro x hx
  unfold clnS at hx
  split at hx
  ·exact ha x hx
  ·rcases List.mem_append.1 hx with h | h
   ·exact ha x h
   ·simp at h; subst h; exact hQ _ (hl y (List.mem_cons_self ..))
theorem yrc (l : List Bat) (now g : Int) : (clnL l now g).length ≤ l.length := by
 have := yez (zda l) now g l []
 simpa [clnL,clnM] using this
section
set_option maxRecDepth 100000
set_option maxHeartbeats 2000000 in
end
end Go.Proofs.Ytebacgkeoefnkaa
namespace Go.Proofs.Ytebacgkeoefnkaa
open Ax
def dR17 (key : List UInt8) (b : Int) (s : Int × Bool) (r : Rec) : Int × Bool := if r.k = true ∧ r.key = key ∧ (s.2 = false ∨ s.1 < offI b r.d) then (offI b r.d,true) else s
def dB17 (key : List UInt8) (s : Int × Bool) (x : Bat) : Int × Bool := x.rs.foldl (dR17 key x.b) s
def dL17 (key : List UInt8) (l : List Bat) : Int × Bool := l.foldl (dB17 key) (0,false)
def zlu (s : Int × Bool) : Option Int := if s.2 then some s.1 else none
theorem gtK_stK (key : List UInt8) (b : Int) (m : KM) (s : Int × Bool) (r : Rec) (h : gtK m key = zlu s ∧ (s.2 = false → s.1 = 0)) : gtK (stK b m r) key = zlu (dR17 key b s r) ∧ ((dR17 key b s r).2 = false → (dR17 key b s r).1 = 0) := by
 obtain ⟨d,t,k,key',dd,val⟩ := r
 obtain ⟨a,hb⟩ := s
 obtain ⟨h1,h2⟩ := h
 unfold stK dR17
 simp only
 cases k with
 | false => simpa using ⟨h1,h2⟩
 | true =>
  simp only [if_true,true_and]
  by_cases hk : key' = key
  ·subst hk
   rw [h1]
   cases hb with
   | false =>
    simp [zlu,znt]
   | true =>
    by_cases c : a < offI b d
    ·simp [zlu,znt,c]
    ·simp only [zlu,if_true,c,if_false,true_and]
     refine ⟨?_,by simp⟩
     rw [h1]; simp [zlu,c]
  ·have hk2 : ¬ key = key' := fun h => hk h.symm
   simp only [hk,false_and,if_false]
   refine ⟨?_,h2⟩
   split
   ·split
    ·rw [znt,if_neg hk2]; exact h1
    ·exact h1
   ·rw [znt,if_neg hk2]; exact h1
theorem yei (key : List UInt8) (b : Int) : ∀ (rs : List Rec) (m : KM) (s : Int × Bool),gtK m key = zlu s ∧ (s.2 = false → s.1 = 0) → gtK (rs.foldl (stK b) m) key = zlu (rs.foldl (dR17 key b) s) ∧ ((rs.foldl (dR17 key b) s).2 = false → (rs.foldl (dR17 key b) s).1 = 0)
 | [],_,_,h => h
 | r :: rs,m,s,h => yei key b rs _ _ (gtK_stK key b m s r h)
theorem ylq (key : List UInt8) : ∀ (l : List Bat) (m : KM) (s : Int × Bool),gtK m key = zlu s ∧ (s.2 = false → s.1 = 0) → gtK (l.foldl stKB m) key = zlu (l.foldl (dB17 key) s) ∧ ((l.foldl (dB17 key) s).2 = false → (l.foldl (dB17 key) s).1 = 0)
 | [],_,_,h => h
 | x :: l,m,s,h => ylq key l _ _ (yei key x.b x.rs m s h)
theorem zvd (key : List UInt8) (l : List Bat) : gtK (zda l) key = zlu (dL17 key l) ∧ ((dL17 key l).2 = false → (dL17 key l).1 = 0) :=
 ylq key l [] (0,false) ⟨rfl,fun _ => rfl⟩
theorem yqh (key : List UInt8) (l : List Bat) : (gtK (zda l) key).getD 0 = (dL17 key l).1 := by
 obtain ⟨h1,h2⟩ := zvd key l
 rw [h1]
 unfold zlu
 cases hb : (dL17 key l).2 with
 | false => rw [h2 hb]; rfl
 | true => rfl
section
set_option maxRecDepth 100000
set_option maxHeartbeats 4000000 in
end
end Go.Proofs.Ytebacgkeoefnkaa
namespace Go.Proofs.Ytebacgkeoefnkaa
open Ax
theorem zso {s : Int × Bool} (h : s.2 = true) : zlu s = some s.1 := by
 obtain ⟨a,b⟩ := s
 obtain rfl : b = true := h
 rfl
instance recDecD : DecidableEq Rec := fun a b => decidable_of_iff (a.d = b.d ∧ a.t = b.t ∧ a.k = b.k ∧ a.key = b.key ∧ a.dd = b.dd ∧ a.val = b.val) (by cases a; cases b; simp)
theorem dR_mono (key : List UInt8) (b : Int) (s : Int × Bool) (r : Rec) (h : s.2 = true) : (dR17 key b s r).2 = true ∧ s.1 ≤ (dR17 key b s r).1 := by
 unfold dR17
 split
 ·rename_i c
  refine ⟨rfl,?_⟩
  rcases c.2.2 with h1 | h1
  ·rw [h] at h1; cases h1
  ·simp only; omega
 ·exact ⟨h,Int.le_refl _⟩
theorem dR_hit (b : Int) (s : Int × Bool) (r : Rec) (h : r.k = true) : (dR17 r.key b s r).2 = true ∧ offI b r.d ≤ (dR17 r.key b s r).1 := by
 unfold dR17
 split
 ·exact ⟨rfl,Int.le_refl _⟩
 ·rename_i c
  have h2 : s.2 = true := by cases h3 : s.2 with | true => rfl | false => exact absurd ⟨h,rfl,.inl h3⟩ c
  refine ⟨h2,?_⟩
  rcases Int.lt_or_le s.1 (offI b r.d) with h3 | h3
  ·exact absurd ⟨h,rfl,.inr h3⟩ c
  ·exact h3
theorem zvp (key : List UInt8) (b : Int) : ∀ (rs : List Rec) (s : Int × Bool),s.2 = true → (rs.foldl (dR17 key b) s).2 = true ∧ s.1 ≤ (rs.foldl (dR17 key b) s).1
 | [],s,h => ⟨h,Int.le_refl _⟩
 | r :: rs,s,h => by
  have h1 := dR_mono key b s r h
  have h2 := zvp key b rs _ h1.1
  exact ⟨h2.1,Int.le_trans h1.2 h2.2⟩
theorem ymw (b : Int) (r : Rec) (h : r.k = true) : ∀ (rs : List Rec) (s : Int × Bool),r ∈ rs → (rs.foldl (dR17 r.key b) s).2 = true ∧ offI b r.d ≤ (rs.foldl (dR17 r.key b) s).1
 | q :: rs,s,hm => by
  rcases List.mem_cons.1 hm with rfl | hm
  ·have h1 := dR_hit b s r h
   have h2 := zvp r.key b rs _ h1.1
   exact ⟨h2.1,Int.le_trans h1.2 h2.2⟩
  ·exact ymw b r h rs _ hm
theorem yev (key : List UInt8) : ∀ (l : List Bat) (s : Int × Bool),s.2 = true → (l.foldl (dB17 key) s).2 = true ∧ s.1 ≤ (l.foldl (dB17 key) s).1
 | [],s,h => ⟨h,Int.le_refl _⟩
 | x :: l,s,h => by
  have h1 := zvp key x.b x.rs s h
  have h2 := yev key l _ h1.1
  exact ⟨h2.1,Int.le_trans h1.2 h2.2⟩
theorem ycd (x : Bat) (r : Rec) (hr : r ∈ x.rs) (h : r.k = true) : ∀ (l : List Bat) (s : Int × Bool),x ∈ l → (l.foldl (dB17 r.key) s).2 = true ∧ offI x.b r.d ≤ (l.foldl (dB17 r.key) s).1
 | y :: l,s,hm => by
  rcases List.mem_cons.1 hm with rfl | hm
  ·have h1 := ymw x.b r h x.rs s hr
   have h2 := yev r.key l _ h1.1
   exact ⟨h2.1,Int.le_trans h1.2 h2.2⟩
  ·exact ycd x r hr h l _ hm
theorem last_ge {l : List Bat} {x : Bat} {r : Rec} (hx : x ∈ l) (hr : r ∈ x.rs) (h : r.k = true) : offI x.b r.d ≤ (gtK (zda l) r.key).getD 0 := by
 rw [yqh]
 exact (ycd x r hr h l _ hx).2
def cl1 (M : KM) (now g : Int) (x : Bat) : List Bat := if empB (clnB M now g x) then [] else [clnB M now g x]
theorem yex (M : KM) (now g : Int) : ∀ (l a : List Bat),l.foldl (clnS M now g) a = a ++ l.flatMap (cl1 M now g)
 | [],a => by simp
 | x :: l,a => by
  rw [List.foldl_cons,yex M now g l,List.flatMap_cons]
  unfold clnS cl1
  split <;> simp
theorem ycq {b c p e s n : Int} (h : bfld b c p e s n = 0) : 1 ≤ c ∧ c ≤ 32 ∧ 0 ≤ b ∧ b ≤ 4611686018427387903 - c := by
 unfold bfld at h
 split at h
 ·exact absurd h (by decide)
 ·rename_i h1; clear h; omega
theorem zfv {x : Bat} (h : bE x = 0) : (1 ≤ x.c ∧ x.c ≤ 32 ∧ 0 ≤ x.b ∧ x.b ≤ 4611686018427387903 - x.c) ∧ layE x.c (-1) x.rs = 0 := by
 have h1 : bfld x.b x.c x.p x.e x.s x.rs.length = 0 := by
  unfold bE batE at h
  split at h
  ·assumption
  ·exact h
 refine ⟨ycq h1,?_⟩
 unfold bE batE at h
 rw [if_pos h1] at h
 split at h
 ·assumption
 ·exact h
theorem yed (c : Int) : ∀ (rs : List Rec) (a : Int),layE c a rs = 0 → (∀ r ∈ rs,a < r.d ∧ r.d < c) ∧ rs.Pairwise (fun r q => r.d < q.d)
 | [],a,_ => ⟨fun r h => (by cases h),List.Pairwise.nil⟩
 | r :: rs,a,h => by
  rw [ziq] at h
  split at h
  ·split at h
   ·cases h
   ·rename_i h2
    obtain ⟨h3,h4⟩ := yed c rs r.d h
    refine ⟨fun q hq => ?_,List.Pairwise.cons (fun q hq => (h3 q hq).1) h4⟩
    rcases List.mem_cons.1 hq with rfl | hq
    ·omega
    ·have := h3 q hq; omega
  ·rename_i h2; exact absurd h h2
def nxD (x : Bat) : Int := wrI (x.b + x.c)
def zhl : Int → List Bat → Prop
 | _,[] => True
 | a,x :: l => bE x = 0 ∧ a ≤ x.b ∧ zhl (nxD x) l
def offL (x : Bat) : List (Int × Rec) := x.rs.map fun r => (offI x.b r.d,r)
def zbc (l : List Bat) : List (Int × Rec) := l.flatMap offL
theorem ytp {b d : Int} (hb : 0 ≤ b) (hb2 : b ≤ 4611686018427387903) (hd : 0 ≤ d) (hd2 : d ≤ 1000) : offI b d = b + d := by unfold offI; omega
theorem ydw {x : Bat} (h : bE x = 0) : nxD x = x.b + x.c := by
 have := (zfv h).1
 unfold nxD wrI; omega
theorem ykm {x : Bat} (h : bE x = 0) : (∀ p ∈ offL x,x.b ≤ p.1 ∧ p.1 < nxD x) ∧ (offL x).Pairwise (fun p q => p.1 < q.1) := by
 obtain ⟨h1,h2⟩ := zfv h
 obtain ⟨h3,h4⟩ := yed x.c x.rs (-1) h2
 have he : ∀ r ∈ x.rs,offI x.b r.d = x.b + r.d := fun r hr => by have := h3 r hr; exact ytp (by omega) (by omega) (by omega) (by omega)
 refine ⟨fun p hp => ?_,?_⟩
 ·obtain ⟨r,hr,rfl⟩ := List.mem_map.1 hp
  have := h3 r hr
  rw [ydw h]
  simp only [he r hr]
  omega
 ·unfold offL
  rw [List.pairwise_map]
  refine List.Pairwise.imp_of_mem ?_ h4
  intro r q hr hq hlt
  simp only [he r hr,he q hq]
  omega
theorem zjn : ∀ (l : List Bat) (a : Int),zhl a l → (∀ p ∈ zbc l,a ≤ p.1) ∧ (zbc l).Pairwise (fun p q => p.1 < q.1)
 | [],a,_ => ⟨fun p h => (by cases h),List.Pairwise.nil⟩
 | x :: l,a,⟨h1,h2,h3⟩ => by
  obtain ⟨h4,h5⟩ := ykm h1
  obtain ⟨h6,h7⟩ := zjn l (nxD x) h3
  have hnx := ydw h1
  have hf := (zfv h1).1
  have e : zbc (x :: l) = offL x ++ zbc l := by unfold zbc; rw [List.flatMap_cons]
  rw [e]
  refine ⟨fun p hp => ?_,List.pairwise_append.2 ⟨h5,h7,fun p hp q hq => ?_⟩⟩
  ·rcases List.mem_append.1 hp with h | h
   ·have := h4 p h; omega
   ·have := h6 p h; omega
  ·have := h4 p hp; have := h6 q hq; omega
theorem ypv {L : List (Int × Rec)} (h : L.Pairwise (fun p q => p.1 < q.1)) : ∀ p ∈ L,∀ q ∈ L,p.1 = q.1 → p = q := by
 induction h with
 | nil => intro p hp; cases hp
 | cons hx _ ih =>
  intro p hp q hq e
  rcases List.mem_cons.1 hp with hp1 | hp1
  ·rcases List.mem_cons.1 hq with hq1 | hq1
   ·rw [hp1,hq1]
   ·have := hx q hq1; rw [← hp1] at this; omega
  ·rcases List.mem_cons.1 hq with hq1 | hq1
   ·have := hx p hp1; rw [← hq1] at this; omega
   ·exact ih p hp1 q hq1 e
def kepL (M : KM) (now g : Int) (l : List Bat) : List (Int × Rec) := (zbc l).filter fun p => !p.2.k || (decide ((gtK M p.2.key).getD 0 = p.1) && !(p.2.dd && ybi p.2.t now g))
theorem yqd (M : KM) (now g : Int) (x : Bat) : offL (clnB M now g x) = (offL x).filter fun p => !p.2.k || (decide ((gtK M p.2.key).getD 0 = p.1) && !(p.2.dd && ybi p.2.t now g)) := by
 unfold offL clnB
 simp only
 rw [List.filter_map]
 rfl
theorem ylc (M : KM) (now g : Int) : ∀ (l : List Bat),zbc (l.flatMap (cl1 M now g)) = kepL M now g l
 | [] => rfl
 | x :: l => by
  have h := ylc M now g l
  unfold kepL at h ⊢
  have e : zbc (x :: l) = offL x ++ zbc l := by unfold zbc; rw [List.flatMap_cons]
  rw [e,List.filter_append,← h,← yqd,List.flatMap_cons]
  have e2 : ∀ a b : List Bat,zbc (a ++ b) = zbc a ++ zbc b := fun a b => by unfold zbc; rw [List.flatMap_append]
  rw [e2]
  congr 1
  unfold cl1
  split
  ·rename_i hE
   have : (clnB M now g x).rs = [] := List.eq_nil_of_length_eq_zero hE.1
   unfold offL
   rw [this]; rfl
  ·unfold zbc; simp
theorem ymx (key : List UInt8) (b : Int) (Q : Int → Prop) : ∀ (rs : List Rec) (s : Int × Bool),(∀ r ∈ rs,r.k = true → r.key = key → Q (offI b r.d)) → (s.2 = true → Q s.1) → (rs.foldl (dR17 key b) s).2 = true → Q (rs.foldl (dR17 key b) s).1
 | [],s,_,h => h
 | r :: rs,s,hr,h => ymx key b Q rs _ (fun q hq => hr q (List.mem_cons_of_mem _ hq)) (by
   unfold dR17
   split
   ·rename_i c; exact fun _ => hr r (List.mem_cons_self ..) c.1 c.2.1
   ·exact h)
theorem ymy (key : List UInt8) (Q : Int → Prop) : ∀ (l : List Bat) (s : Int × Bool),(∀ x ∈ l,∀ r ∈ x.rs,r.k = true → r.key = key → Q (offI x.b r.d)) → (s.2 = true → Q s.1) → (l.foldl (dB17 key) s).2 = true → Q (l.foldl (dB17 key) s).1
 | [],s,_,h => h
 | x :: l,s,hr,h => ymy key Q l _ (fun y hy => hr y (List.mem_cons_of_mem _ hy)) (ymx key x.b Q x.rs s (hr x (List.mem_cons_self ..)) h)
theorem ydy {l : List Bat} {x : Bat} {r : Rec} (hx : x ∈ l) (hr : r ∈ x.rs) : (offI x.b r.d,r) ∈ zbc l := List.mem_flatMap.2 ⟨x,hx,List.mem_map.2 ⟨r,hr,rfl⟩⟩
theorem zux {l : List Bat} {p : Int × Rec} (h : p ∈ zbc l) : ∃ x ∈ l,∃ r ∈ x.rs,p = (offI x.b r.d,r) := by
 obtain ⟨x,hx,hp⟩ := List.mem_flatMap.1 h
 obtain ⟨r,hr,rfl⟩ := List.mem_map.1 hp
 exact ⟨x,hx,r,hr,rfl⟩
theorem gtK_att {l : List Bat} {key : List UInt8} {v : Int} (h : gtK (zda l) key = some v) : ∃ p ∈ zbc l,p.1 = v ∧ p.2.k = true ∧ p.2.key = key := by
 have h1 := (zvd key l).1
 rw [h] at h1
 have h2 : (dL17 key l).2 = true := by
  cases hq : (dL17 key l).2 with
  | true => rfl
  | false => unfold zlu at h1; rw [hq] at h1; cases h1
 rw [zso h2] at h1
 have h3 : v = (dL17 key l).1 := Option.some.inj h1
 rw [h3]
 exact ymy key (fun v => ∃ p ∈ zbc l,p.1 = v ∧ p.2.k = true ∧ p.2.key = key) l (0,false) (fun x hx r hr hk hkey => ⟨_,ydy hx hr,rfl,hk,hkey⟩) (fun h => by cases h) h2
theorem gtK_has {l : List Bat} {p : Int × Rec} (h : p ∈ zbc l) (hk : p.2.k = true) : ∃ v,gtK (zda l) p.2.key = some v := by
 obtain ⟨x,hx,r,hr,rfl⟩ := zux h
 have h2 := (ycd x r hr hk l (0,false) hx).1
 exact ⟨_,by rw [(zvd r.key l).1]; exact zso h2⟩
end Go.Proofs.Ytebacgkeoefnkaa
namespace Go.Proofs.Ytebacgkeoefnkaa
open Ax
def rowP (p : Int × Rec) : VR := ⟨p.2.key,p.2.val,p.1,p.2.t⟩
def oneP (L : List VR) (p : Int × Rec) : List VR :=
 if p.2.k = true then (if p.2.dd = true then wiL p.2.key L else (wiL p.2.key L).take (wiN p.2.key L) ++ rowP p :: (wiL p.2.key L).drop (wiN p.2.key L)) else L
def zmc (l : List Bat) : List VR := (zbc l).foldl oneP []
theorem zvo (L : List VR) (x : Bat) : dcV L x.b x.rs = (offL x).foldl oneP L := by
 unfold dcV offL
 rw [List.foldl_map]
 rfl
def ybj (P : List (Int × Rec)) (p : Int × Rec) : Prop := ∀ q ∈ P,q.2.k = true → q.2.key = p.2.key → q.1 ≤ p.1
theorem zyr (P : List (Int × Rec)) (hP : P.Pairwise fun p q => p.1 < q.1) (hb : ∀ p ∈ P,∃ b,offI b p.2.d = p.1) : ∀ i,i ≤ P.length →
  srtR ((P.take i).foldl oneP []) ∧ ∀ x,x ∈ (P.take i).foldl oneP [] ↔ ∃ p ∈ P.take i,p.2.k = true ∧ p.2.dd = false ∧ x = rowP p ∧ ybj (P.take i) p
 | 0,_ => ⟨by rw [List.take_zero]; exact List.Pairwise.nil,fun x => by rw [List.take_zero]; simp⟩
 | i + 1,hi => by
  obtain ⟨i1,i2⟩ := zyr P hP hb i (by omega)
  have hil : i < P.length := by omega
  have htk : P.take (i + 1) = P.take i ++ [P[i]] := List.take_succ_eq_append_getElem hil
  have hlt : ∀ q ∈ P.take i,q.1 < P[i].1 := by
   intro q hq
   obtain ⟨j,hj,rfl⟩ := List.mem_take_iff_getElem.1 hq
   exact List.pairwise_iff_getElem.1 hP j i (by omega) hil (by omega)
  obtain ⟨b,hbb⟩ := hb P[i] (List.getElem_mem hil)
  rw [htk]
  obtain ⟨T,hT⟩ : ∃ T,P.take i = T := ⟨_,rfl⟩
  obtain ⟨p0,hp0⟩ : ∃ p,P[i] = p := ⟨_,rfl⟩
  rw [hT] at i1 i2 hlt ⊢
  rw [hp0] at hlt hbb ⊢
  rw [List.foldl_append]
  obtain ⟨L,hL⟩ : ∃ L,T.foldl oneP [] = L := ⟨_,rfl⟩
  rw [hL] at i1 i2 ⊢
  have e1 : List.foldl oneP L [p0] = oneP L p0 := rfl
  rw [e1]
  have hmem : ∀ q,q ∈ T ++ [p0] ↔ q ∈ T ∨ q = p0 := fun q => by rw [List.mem_append,List.mem_singleton]
  have hlast : ∀ p,ybj (T ++ [p0]) p ↔ ybj T p ∧ (p0.2.k = true → p0.2.key = p.2.key → p0.1 ≤ p.1) := fun p => by
   unfold ybj
   constructor
   ·intro h
    exact ⟨fun q hq => h q ((hmem q).2 (.inl hq)),h p0 ((hmem p0).2 (.inr rfl))⟩
   ·rintro ⟨h1,h2⟩ q hq
    rcases (hmem q).1 hq with h | rfl
    ·exact h1 q h
    ·exact h2
  by_cases hk : p0.2.k = true
  ·by_cases hd : p0.2.dd = true
   ·have a1 : oneP L p0 = wiL p0.2.key L := by unfold oneP; rw [if_pos hk,if_pos hd]
    rw [a1]
    refine ⟨i1.sublist List.filter_sublist,fun x => ?_⟩
    unfold wiL
    rw [List.mem_filter,decide_eq_true_eq,i2]
    constructor
    ·rintro ⟨⟨p,h1,h2,h3,rfl,h4⟩,h5⟩
     exact ⟨p,(hmem p).2 (.inl h1),h2,h3,rfl,(hlast p).2 ⟨h4,fun _ e => absurd e.symm h5⟩⟩
    ·rintro ⟨p,h1,h2,h3,rfl,h4⟩
     obtain ⟨h5,h6⟩ := (hlast p).1 h4
     rcases (hmem p).1 h1 with h | rfl
     ·refine ⟨⟨p,h,h2,h3,rfl,h5⟩,fun e => ?_⟩
      have := h6 hk e.symm
      have := hlt p h
      omega
     ·rw [hd] at h3; cases h3
   ·obtain ⟨o1,o2⟩ := zuv b p0.2 i1 hk hd
    have a1 : oneP L p0 = oneV b L p0.2 := by
     unfold oneP oneV
     rw [if_pos hk,if_neg hd,if_pos hk,if_neg hd]
     unfold rowP rowR
     rw [hbb]
    have er : rowR b p0.2 = rowP p0 := by unfold rowR rowP; rw [hbb]
    rw [a1]
    refine ⟨o1,fun x => ?_⟩
    rw [o2,i2,er]
    constructor
    ·rintro (⟨⟨p,h1,h2,h3,rfl,h4⟩,h5⟩ | rfl)
     ·exact ⟨p,(hmem p).2 (.inl h1),h2,h3,rfl,(hlast p).2 ⟨h4,fun _ e => absurd e.symm h5⟩⟩
     ·refine ⟨p0,(hmem p0).2 (.inr rfl),hk,by simpa using hd,rfl,(hlast p0).2 ⟨fun q hq _ _ => ?_,fun _ _ => Int.le_refl _⟩⟩
      have := hlt q hq; omega
    ·rintro ⟨p,h1,h2,h3,rfl,h4⟩
     obtain ⟨h5,h6⟩ := (hlast p).1 h4
     rcases (hmem p).1 h1 with h | rfl
     ·refine .inl ⟨⟨p,h,h2,h3,rfl,h5⟩,fun e => ?_⟩
      have := h6 hk e.symm
      have := hlt p h
      omega
     ·exact .inr rfl
  ·have a1 : oneP L p0 = L := by unfold oneP; rw [if_neg hk]
   rw [a1]
   refine ⟨i1,fun x => ?_⟩
   rw [i2]
   constructor
   ·rintro ⟨p,h1,h2,h3,rfl,h4⟩
    exact ⟨p,(hmem p).2 (.inl h1),h2,h3,rfl,(hlast p).2 ⟨h4,fun h => absurd h hk⟩⟩
   ·rintro ⟨p,h1,h2,h3,rfl,h4⟩
    obtain ⟨h5,h6⟩ := (hlast p).1 h4
    rcases (hmem p).1 h1 with h | rfl
    ·exact ⟨p,h,h2,h3,rfl,h5⟩
    ·exact absurd h2 hk
theorem offs_b {l : List Bat} : ∀ p ∈ zbc l,∃ b,offI b p.2.d = p.1 := fun p hp => by
 obtain ⟨x,_,r,_,rfl⟩ := zux hp
 exact ⟨x.b,rfl⟩
theorem zik {l : List Bat} {a : Int} (h : zhl a l) : srtR (zmc l) ∧ ∀ x,x ∈ zmc l ↔ ∃ p ∈ zbc l,p.2.k = true ∧ p.2.dd = false ∧ x = rowP p ∧ ybj (zbc l) p := by
 have := zyr (zbc l) (zjn l a h).2 offs_b (zbc l).length (Nat.le_refl _)
 rw [List.take_length] at this
 exact this
theorem znq {l : List Bat} {a : Int} (h : zhl a l) {p : Int × Rec} (hp : p ∈ zbc l) (hk : p.2.k = true) : (gtK (zda l) p.2.key).getD 0 = p.1 ↔ ybj (zbc l) p := by
 obtain ⟨v,hv⟩ := gtK_has hp hk
 rw [hv]
 obtain ⟨q,hq,hqv,hqk,hqe⟩ := gtK_att hv
 have hge : ∀ q ∈ zbc l,q.2.k = true → q.2.key = p.2.key → q.1 ≤ v := by
  intro q hq hqk hqe
  obtain ⟨x,hx,r,hr,rfl⟩ := zux hq
  have h1 := last_ge hx hr hqk
  have hqe : r.key = p.2.key := hqe
  rw [hqe,hv] at h1
  exact h1
 constructor
 ·intro e
  have e : v = p.1 := e
  intro q' h1 h2 h3
  have := hge q' h1 h2 h3
  omega
 ·intro hl
  have h1 := hl q hq hqk hqe
  have h2 := hge p hp hk rfl
  show v = p.1
  omega
def zca (l : List Bat) (p : Int × Rec) : Bool := p.2.k && decide ((gtK (zda l) p.2.key).getD 0 = p.1) && !p.2.dd
theorem zwt {l : List Bat} {a : Int} (h : zhl a l) {p : Int × Rec} (hp : p ∈ zbc l) : zca l p = true ↔ p.2.k = true ∧ p.2.dd = false ∧ ybj (zbc l) p := by
 unfold zca
 rw [Bool.and_eq_true,Bool.and_eq_true,decide_eq_true_eq,Bool.not_eq_true']
 constructor
 ·rintro ⟨⟨h1,h2⟩,h3⟩
  exact ⟨h1,h3,(znq h hp h1).1 h2⟩
 ·rintro ⟨h1,h2,h3⟩
  exact ⟨⟨h1,(znq h hp h1).2 h3⟩,h2⟩
theorem zne {l : List VR} (h : srtR l) : l.Nodup := h.imp fun {x y} hxy e => by rw [e] at hxy; exact List.lt_irrefl _ hxy
theorem yta {a b : List VR} (ha : srtR a) (hb : srtR b) (h : ∀ x,x ∈ a ↔ x ∈ b) : a = b := by
 refine List.Perm.eq_of_pairwise (le := fun x y : VR => x.k < y.k) (fun x y _ _ h1 h2 => (List.lt_irrefl _ (List.lt_trans h1 h2)).elim) ha hb ?_
 exact (List.perm_ext_iff_of_nodup (zne ha) (zne hb)).2 h
theorem yhe {l : List Bat} {a : Int} (h : zhl a l) : (zbc l).countP (zca l) = (zmc l).length := by
 obtain ⟨h1,h2⟩ := zik h
 have hpw := (zjn l a h).2
 rw [List.countP_eq_length_filter]
 have hn : ((zbc l).filter (zca l)).map rowP |>.Nodup := by
  rw [List.nodup_iff_pairwise_ne,List.pairwise_map]
  refine (hpw.sublist List.filter_sublist).imp ?_
  intro p q hlt e
  have : (rowP p).o = (rowP q).o := by rw [e]
  have e2 : p.1 = q.1 := this
  omega
 have hm : ∀ x,x ∈ ((zbc l).filter (zca l)).map rowP ↔ x ∈ zmc l := fun x => by
  rw [h2,List.mem_map]
  constructor
  ·rintro ⟨p,hp,rfl⟩
   obtain ⟨h3,h4⟩ := List.mem_filter.1 hp
   obtain ⟨h5,h6,h7⟩ := (zwt h h3).1 h4
   exact ⟨p,h3,h5,h6,rfl,h7⟩
  ·rintro ⟨p,h3,h4,h5,rfl,h6⟩
   exact ⟨p,List.mem_filter.2 ⟨h3,(zwt h h3).2 ⟨h4,h5,h6⟩⟩,rfl⟩
 have := ((List.perm_ext_iff_of_nodup hn (zne h1)).2 hm).length_eq
 rw [List.length_map] at this
 exact this
def getV (key : List UInt8) (l : List VR) : Option VR := l.find? fun r => decide (r.k = key)
theorem yqk {key : List UInt8} {L : List VR} (hs : srtR L) {x : VR} (hx : x ∈ L) (hk : x.k = key) : getV key L = some x := by
 unfold getV
 cases hf : L.find? fun r => decide (r.k = key) with
 | none =>
  have := List.find?_eq_none.1 hf x hx
  exact absurd (decide_eq_true hk) this
 | some y =>
  have h0 := List.find?_some hf
  have h1 : y.k = key := of_decide_eq_true h0
  have h2 := List.mem_of_find?_eq_some hf
  have hn := yka hs
  have hinj : ∀ (m : List VR),(zic m).Nodup → ∀ x ∈ m,∀ y ∈ m,x.k = y.k → x = y := by
   intro m
   induction m with
   | nil => intro _ x hx; cases hx
   | cons p m ih =>
    intro h x hx y hy e
    have h2 := List.nodup_cons.1 (show (p.k :: zic m).Nodup from h)
    rcases List.mem_cons.1 hx with hx1 | hx1
    ·rcases List.mem_cons.1 hy with hy1 | hy1
     ·rw [hx1,hy1]
     ·exact (h2.1 (List.mem_map.2 ⟨y,hy1,by rw [← e,hx1]⟩)).elim
    ·rcases List.mem_cons.1 hy with hy1 | hy1
     ·exact (h2.1 (List.mem_map.2 ⟨x,hx1,by rw [e,hy1]⟩)).elim
     ·exact ih h2.2 x hx1 y hy1 e
  rw [hinj L hn y h2 x hx (by rw [h1,hk])]
theorem yqj {l : List Bat} {a : Int} (h : zhl a l) {p : Int × Rec} (hp : p ∈ zbc l) (hk : p.2.k = true) (ha : (gtK (zda l) p.2.key).getD 0 = p.1) :
  getV p.2.key (zmc l) = if p.2.dd = true then none else some (rowP p) := by
 obtain ⟨h1,h2⟩ := zik h
 have hl := (znq h hp hk).1 ha
 by_cases hd : p.2.dd = true
 ·rw [if_pos hd]
  unfold getV
  rw [List.find?_eq_none]
  intro x hx hxk
  obtain ⟨q,hq,hqk,hqd,rfl,hql⟩ := (h2 x).1 hx
  have hke : q.2.key = p.2.key := of_decide_eq_true hxk
  have g1 := hl q hq hqk hke
  have g2 := hql p hp hk hke.symm
  have e := ypv (zjn l a h).2 q hq p hp (by omega)
  rw [e,hd] at hqd; cases hqd
 ·rw [if_neg hd]
  exact yqk h1 ((h2 _).2 ⟨p,hp,hk,by simpa using hd,rfl,hl⟩) rfl
theorem ypm {l : List Bat} {a : Int} (h : zhl a l) {x : VR} (hx : x ∈ zmc l) : (gtK (zda l) x.k).getD 0 = x.o := by
 obtain ⟨p,hp,hk,hd,rfl,hl⟩ := ((zik h).2 x).1 hx
 exact (znq h hp hk).2 hl
theorem yhf {a a' : Int} (h : a' ≤ a) : ∀ {l : List Bat},zhl a l → zhl a' l
 | [],_ => trivial
 | x :: l,⟨h1,h2,h3⟩ => ⟨h1,by omega,h3⟩
theorem zkx (c : Int) (f : Rec → Bool) : ∀ (rs : List Rec) (a a' : Int),a' ≤ a → layE c a rs = 0 → layE c a' (rs.filter f) = 0
 | [],_,_,_,_ => rfl
 | r :: rs,a,a',ha,h => by
  rw [ziq] at h
  by_cases h1 : rk r = 0
  ·rw [if_pos h1] at h
   by_cases h2 : r.d ≤ a ∨ c ≤ r.d
   ·rw [if_pos h2] at h; cases h
   ·rw [if_neg h2] at h
    by_cases hf : f r = true
    ·rw [List.filter_cons_of_pos hf,ziq,if_pos h1,if_neg (by omega)]
     exact zkx c f rs r.d r.d (Int.le_refl _) h
    ·rw [List.filter_cons_of_neg (by simpa using hf)]
     exact zkx c f rs r.d a' (by omega) h
  ·rw [if_neg h1] at h; exact absurd h h1
theorem zqj (f : Rec → Bool) : ∀ rs : List Rec,((rs.filter f).flatMap rb).length ≤ (rs.flatMap rb).length
 | [] => Nat.le_refl _
 | r :: rs => by
  have := zqj f rs
  by_cases hf : f r = true
  ·rw [List.filter_cons_of_pos hf,List.flatMap_cons,List.flatMap_cons,List.length_append,List.length_append]; omega
  ·rw [List.filter_cons_of_neg (by simpa using hf),List.flatMap_cons,List.length_append]; omega
theorem ykn {n : Nat} (h : n ≤ 32) : (putU (zz (n : Int)).toNat).length = 1 := by
 have : (zz (n : Int)).toNat = 2 * n := by unfold zz; rw [if_pos (by omega)]; omega
 rw [this,zgu (by omega)]; rfl
theorem ycs (b c p e s : Int) (f : Rec → Bool) (rs : List Rec) (h : rs.length ≤ 32) : (batL b c p e s (rs.filter f)).length ≤ (batL b c p e s rs).length := by
 have h1 := List.length_filter_le f rs
 have h2 := zqj f rs
 have h3 := ykn h
 have h4 := ykn (n := (rs.filter f).length) (by omega)
 unfold batL nums ziu
 simp only [List.flatMap_cons,List.flatMap_nil,List.length_append,List.append_nil,h3,h4]
 omega
theorem yob {b c p e s : Int} {n m : Nat} (hm : m ≤ n) (h : bfld b c p e s n = 0) : bfld b c p e s m = 0 ∧ (n : Int) ≤ c ∧ c ≤ 32 := by
 unfold bfld at h ⊢
 split at h
 ·cases h
 ·rename_i h1
  split at h
  ·cases h
  ·rename_i h2
   split at h
   ·cases h
   ·rename_i h3
    rw [if_neg h1,if_neg h2,if_neg (by omega)]
    exact ⟨rfl,by omega,by omega⟩
theorem bE_cln (M : KM) (now g : Int) {x : Bat} (h : bE x = 0) : bE (clnB M now g x) = 0 := by
 have h1 : bfld x.b x.c x.p x.e x.s x.rs.length = 0 := by
  unfold bE batE at h
  split at h
  ·assumption
  ·exact h
 have h2 := (zfv h).2
 have h3 : ¬ 8192 < (batL x.b x.c x.p x.e x.s x.rs).length := by
  unfold bE batE at h
  rw [if_pos h1,if_pos h2] at h
  intro hc
  rw [if_pos hc] at h; cases h
 obtain ⟨f,hf⟩ : ∃ f,(fun r => zjw M x.b r now g) = f := ⟨_,rfl⟩
 have hx : clnB M now g x = ⟨x.b,x.c,x.p,x.e,x.s,x.rs.filter f⟩ := by unfold clnB; rw [hf]
 obtain ⟨g1,g2,g3⟩ := yob (List.length_filter_le f x.rs) h1
 have g4 := ycs x.b x.c x.p x.e x.s f x.rs (by omega)
 rw [hx]
 unfold bE batE
 rw [if_pos g1,if_pos (zkx x.c f x.rs (-1) (-1) (Int.le_refl _) h2),if_neg (by simp only; omega)]
theorem zus (M : KM) (now g : Int) : ∀ (l : List Bat) (a : Int),zhl a l → zhl a (l.flatMap (cl1 M now g))
 | [],_,_ => trivial
 | x :: l,a,⟨h1,h2,h3⟩ => by
  have ih := zus M now g l (nxD x) h3
  rw [List.flatMap_cons]
  unfold cl1
  split
  ·have hf := (zfv h1).1
   have := ydw h1
   exact yhf (by omega) ih
  ·exact ⟨bE_cln M now g h1,h2,ih⟩
theorem zrc (l : List Bat) (now g : Int) : clnL l now g = l.flatMap (cl1 (zda l) now g) := by
 unfold clnL clnM; rw [yex]; rfl
theorem ypl {l : List Bat} {a : Int} (g : Int) (h : zhl a l) : zmc (clnL l (-1) g) = zmc l := by
 have hr : zhl a (clnL l (-1) g) := by rw [zrc]; exact zus _ _ _ l a h
 obtain ⟨a1,a2⟩ := zik h
 obtain ⟨b1,b2⟩ := zik hr
 have ho : zbc (clnL l (-1) g) = kepL (zda l) (-1) g l := by rw [zrc]; exact ylc _ _ _ _
 have hk : ∀ p,p ∈ zbc (clnL l (-1) g) ↔ p ∈ zbc l ∧ (p.2.k = true → (gtK (zda l) p.2.key).getD 0 = p.1) := fun p => by
  rw [ho]
  unfold kepL
  rw [List.mem_filter]
  have hz : ybi p.2.t (-1) g = false := rfl
  rw [hz]
  cases p.2.k <;> simp
 refine yta b1 a1 fun x => ?_
 rw [a2,b2]
 constructor
 ·rintro ⟨p,h1,h2,h3,rfl,h4⟩
  obtain ⟨h5,h6⟩ := (hk p).1 h1
  exact ⟨p,h5,h2,h3,rfl,(znq h h5 h2).1 (h6 h2)⟩
 ·rintro ⟨p,h1,h2,h3,rfl,h4⟩
  exact ⟨p,(hk p).2 ⟨h1,fun _ => (znq h h1 h2).2 h4⟩,h2,h3,rfl,fun q hq => h4 q ((hk q).1 hq).1⟩
theorem yoe (n : Int) : ∀ l : List VR,(∀ r ∈ l,okR n r) → badV n l = 0
 | [],_ => rfl
 | a :: l,h => by
  have h0 : rE n a = 0 := by
   obtain ⟨h1,h2,h3,h4,h5,h6⟩ := h a (List.mem_cons_self ..)
   unfold rE
   rw [if_neg (by omega),if_neg (by omega)]
  show (if rE n a = 0 then badV n l else rE n a) = 0
  rw [if_pos h0]
  exact yoe n l fun r hr => h r (List.mem_cons_of_mem _ hr)
theorem yse : ∀ l : List VR,srtR l → risV l = true
 | [],_ => rfl
 | [_],_ => rfl
 | a :: c :: l,h => by
  have h2 := List.pairwise_cons.1 h
  have hac := h2.1 c (List.mem_cons_self ..)
  show (Op.bytesLess a.k c.k && risV (c :: l)) = true
  rw [bytesLess_eq,decide_eq_true hac,yse (c :: l) h2.2]; rfl
theorem ysi (c : Int) : ∀ (rs : List Rec) (a : Int),layE c a rs = 0 → ∀ r ∈ rs,rk r = 0
 | [],_,_ => by simp
 | r :: rs,a,h => by
  rw [ziq] at h
  by_cases h1 : rk r = 0
  ·rw [if_pos h1] at h
   by_cases h2 : r.d ≤ a ∨ c ≤ r.d
   ·rw [if_pos h2] at h; cases h
   ·rw [if_neg h2] at h
    intro q hq
    rcases List.mem_cons.1 hq with rfl | hq
    ·exact h1
    ·exact ysi c rs r.d h q hq
  ·rw [if_neg h1] at h; exact absurd h h1
theorem ypn {r : Rec} (h : rk r = 0) : r.key.length ≤ 64 ∧ r.val.length ≤ 512 ∧ 0 ≤ r.t ∧ r.t ≤ 1099511627776 := by
 unfold rk rchk at h
 by_cases h1 : rA r.d r.t
 ·rw [if_pos h1] at h; cases h
 ·rw [if_neg h1] at h
  by_cases h2 : rB r.key r.val
  ·rw [if_pos h2] at h; cases h
  ·unfold rA at h1; unfold rB at h2; omega
theorem memF {f : VR → Bool} {l : List VR} {x : VR} (h : x ∈ l.filter f) : x ∈ l := (List.mem_filter.1 h).1
theorem ypu {L : List VR} {p : Int × Rec} {x : VR} (h : x ∈ oneP L p) : x ∈ L ∨ x = rowP p := by
 unfold oneP at h
 split at h
 ·split at h
  ·exact .inl (memF h)
  ·rcases List.mem_append.1 h with h | h
   ·exact .inl (memF (List.mem_of_mem_take h))
   ·rcases List.mem_cons.1 h with h | h
    ·exact .inr h
    ·exact .inl (memF (List.mem_of_mem_drop h))
 ·exact .inl h
theorem zyq {x : VR} : ∀ (P : List (Int × Rec)) (L : List VR),x ∈ P.foldl oneP L → x ∈ L ∨ ∃ p ∈ P,x = rowP p
 | [],L,h => .inl h
 | p :: P,L,h => by
  rcases zyq P (oneP L p) h with h1 | ⟨q,h1,h2⟩
  ·rcases ypu h1 with h2 | h2
   ·exact .inl h2
   ·exact .inr ⟨p,List.mem_cons_self ..,h2⟩
  ·exact .inr ⟨q,List.mem_cons_of_mem _ h1,h2⟩
theorem ymk (P : List (Int × Rec)) (hb : ∀ p ∈ P,∃ b,offI b p.2.d = p.1) : ∀ L,srtR L → srtR (P.foldl oneP L) := by
 induction P with
 | nil => exact fun L h => h
 | cons p P ih =>
  intro L h
  refine ih (fun q hq => hb q (List.mem_cons_of_mem _ hq)) _ ?_
  obtain ⟨b,hbb⟩ := hb p (List.mem_cons_self ..)
  by_cases hk : p.2.k = true
  ·by_cases hd : p.2.dd = true
   ·have a1 : oneP L p = wiL p.2.key L := by unfold oneP; rw [if_pos hk,if_pos hd]
    rw [a1]; exact h.sublist List.filter_sublist
   ·have a1 : oneP L p = oneV b L p.2 := by
     unfold oneP oneV
     rw [if_pos hk,if_neg hd,if_pos hk,if_neg hd]
     unfold rowP rowR
     rw [hbb]
    rw [a1]; exact (zuv b p.2 h hk hd).1
  ·have a1 : oneP L p = L := by unfold oneP; rw [if_neg hk]
   rw [a1]; exact h
theorem ysq : ∀ (xs : List Bat) (n : Int) (L : List VR) (f : Bool),zhl n xs → 0 ≤ n → n ≤ 4611686018427387903 → (∀ r ∈ L,okR n r) → srtR L → (∀ x ∈ xs,x.rs.length ≤ 40) → L.length + 40 * xs.length ≤ 4096 →
  ∃ m g,bldG dcE dcV xs n L f = vwA m ((zbc xs).foldl oneP L) g 0
 | [],n,L,f,_,_,_,_,_,_,_ => ⟨n,f,rfl⟩
 | x :: xs,n,L,f,⟨h1,h2,h3⟩,hn0,hn1,hok,hs,hr,hl => by
  have hf := (zfv h1).1
  have hnx := ydw h1
  have hnI : nxI x.b x.c = nxD x := rfl
  have hx40 := hr x (List.mem_cons_self ..)
  have hlen := ymv x.b x.rs L
  rw [List.length_cons] at hl
  have hch : chV n L = 0 := by
   unfold chV
   rw [if_neg (by omega),if_pos (yoe n L hok),if_pos (yse L hs)]
  have hE : dcE n L x = 0 := by
   unfold dcE dcV
   rw [if_pos hch,if_pos h1,if_neg (by omega),if_neg (by omega)]
  obtain ⟨o1,o2⟩ := ykm h1
  have hlay := (zfv h1).2
  have hL2 : ∀ r ∈ dcV L x.b x.rs,okR (nxD x) r := by
   intro r hrm
   rw [zvo] at hrm
   rcases zyq _ _ hrm with h | ⟨p,hp,rfl⟩
   ·obtain ⟨g1,g2,g3,g4,g5,g6⟩ := hok r h
    exact ⟨g1,g2,g3,by omega,g5,g6⟩
   ·have g1 := o1 p hp
    obtain ⟨q,hq,rfl⟩ := List.mem_map.1 hp
    obtain ⟨k1,k2,k3,k4⟩ := ypn (ysi x.c x.rs (-1) hlay q hq)
    exact ⟨k1,k2,by show 0 ≤ offI x.b q.d; simp only at g1; omega,by show offI x.b q.d < _; simp only at g1; omega,k3,k4⟩
  have hs2 : srtR (dcV L x.b x.rs) := by
   rw [zvo]
   exact ymk _ (fun p hp => by obtain ⟨q,_,rfl⟩ := List.mem_map.1 hp; exact ⟨x.b,rfl⟩) _ hs
  obtain ⟨m,g,hb⟩ := ysq xs (nxD x) (dcV L x.b x.rs) false h3 (by omega) (by omega) hL2 hs2 (fun y hy => hr y (List.mem_cons_of_mem _ hy)) (by unfold dcV; omega)
  refine ⟨m,g,?_⟩
  have e : zbc (x :: xs) = offL x ++ zbc xs := by unfold zbc; rw [List.flatMap_cons]
  rw [e,List.foldl_append,← zvo,← hb]
  show (if dcE n L x = 0 then bldG dcE dcV xs (nxI x.b x.c) (dcV L x.b x.rs) false else _) = _
  rw [if_pos hE,hnI]
theorem built {l : List Bat} (h : zhl 0 l) (hr : ∀ x ∈ l,x.rs.length ≤ 40) (hl : l.length ≤ 12) : ∃ m g,bldG apE srA l 0 [] true = vwA m (zmc l) g 0 := by
 obtain ⟨m,g,hb⟩ := ysq l 0 [] true h (Int.le_refl _) (by omega) (by simp) List.Pairwise.nil hr (by rw [List.length_nil]; omega)
 exact ⟨m,g,by rw [← yfy]; exact hb⟩
theorem yjt (l : List Bat) : (zmc l).length ≤ (zbc l).length := by
 unfold zmc
 have : ∀ (P : List (Int × Rec)) (L : List VR),(P.foldl oneP L).length ≤ L.length + P.length := by
  intro P
  induction P with
  | nil => intro L; simp
  | cons p P ih =>
   intro L
   have h1 := ih (oneP L p)
   have h2 : (oneP L p).length ≤ L.length + 1 := by
    unfold oneP
    have h1 := yje p.2.key L
    split
    ·split
     ·omega
     ·rw [List.length_append,List.length_cons,List.length_take,List.length_drop]; omega
    ·omega
   rw [List.foldl_cons,List.length_cons]; omega
 have := this (zbc l) []
 simpa using this
theorem zuy : ∀ (l : List Bat),(∀ x ∈ l,x.rs.length ≤ 40) → (zbc l).length ≤ 40 * l.length
 | [],_ => by simp [zbc]
 | x :: l,h => by
  have e : zbc (x :: l) = offL x ++ zbc l := by unfold zbc; rw [List.flatMap_cons]
  have h1 := zuy l fun y hy => h y (List.mem_cons_of_mem _ hy)
  have h2 := h x (List.mem_cons_self ..)
  rw [e,List.length_append,List.length_cons]
  unfold offL
  rw [List.length_map]; omega
end Go.Proofs.Ytebacgkeoefnkaa
namespace Go.Proofs.Ytebacgkeoefnkaa
open Ax
def ylx : zas
 | [.agg [.str k,.str v,.w (.int .i64 o),.w (.int .i64 t)],.rf 0 1 0 0],[.g 1 [.str key]] => ⟨True,.w (.bool (decide (k = key))),[.g 1 [.str key]]⟩
 | _,_ => zcj
def zmq (key : List UInt8) : List VR → Int → Int
 | [],_ => -1
 | r :: rs,i => if r.k = key then i else zmq key rs (i + 1)
def ylg : zas
 | [.sg 4 ys g,.fn id [.rf 0 1 0 0]],[.g 1 [.str key]] => ⟨id = 45 ∧ ys.length ≤ 9223372036854775807 ∧ ∃ l : List VR,ys = l.map vrA,.w (.int .i64 (zmq key (ys.map uvr) 0)),[.g 1 [.str key]]⟩
 | _,_ => zcj
def getA : Option VR → AV
 | some x => .tup [vrA x,.w (.bool true)]
 | none => .tup [.agg [.str [],.str [],.w (.int .i64 0),.w (.int .i64 0)],.w (.bool false)]
def yek : zas
 | [.agg [.w (.int .i64 n),.sg 4 xs f],.str key],[] => ⟨xs.length ≤ 1000000 ∧ ∃ l : List VR,xs = l.map vrA,getA (getV key (xs.map uvr)),[]⟩
 | _,_ => zcj
theorem zqm (key : List UInt8) : ∀ (l : List VR) (k : Int),(zmq key l k = -1 ∧ getV key l = none) ∨ ∃ (i : Nat) (h : i < l.length),zmq key l k = k + i ∧ getV key l = some l[i]
 | [],k => .inl ⟨rfl,rfl⟩
 | r :: l,k => by
  unfold zmq getV
  by_cases h : r.k = key
  ·exact .inr ⟨0,by simp,by rw [if_pos h]; simp,by rw [List.find?_cons_of_pos (by simp [h])]; rfl⟩
  ·rw [if_neg h,List.find?_cons_of_neg (by simp [h])]
   rcases zqm key l (k + 1) with ⟨h1,h2⟩ | ⟨i,hi,h1,h2⟩
   ·exact .inl ⟨h1,h2⟩
   ·exact .inr ⟨i + 1,by simp; omega,by rw [h1]; simp; omega,h2⟩
section
set_option maxRecDepth 100000
set_option maxHeartbeats 1000000 in
theorem yic : zbg Try.prog 45 ylx := by
 refine zbb (S := noS) (T := ty) mixed ty_ok zel Try.func45 (c := Try.f45.body.getD .skip) (by kernel_rfl) (by kernel_rfl) (fun xs pins hp _ => ?_)
 unfold ylx at hp ⊢
 split at hp
 ·rename_i k v o t key _
  refine ⟨by simp,?_⟩
  unfold Try.f45
  simp only [go_sem,zaa,↓reduceIte,ty,noS]
 ·exact hp.elim
def ycz (f : FuncId) : Option zas :=
 match f with
 | 45 => some ylx
 | _ => none
theorem yru : Fns Try.prog ycz := by
 intro f s h
 unfold ycz at h
 split at h
 ·injection h with h; subst h; exact ⟨⟨_,Try.func45,by kernel_rfl,by kernel_rfl⟩,yic⟩
 ·cases h
set_option maxHeartbeats 2000000 in
theorem yhv : zbg Try.prog 44 ylg := by
 refine zbb (S := ycz) (T := ty) mixed ty_ok yru Try.func44 (c := Try.f44.body.getD .skip) (by kernel_rfl) (by kernel_rfl) (fun xs pins hp _ => ?_)
 unfold ylg at hp ⊢
 split at hp
 ·rename_i ys g id key _
  obtain ⟨rfl,hL,l,rfl⟩ := hp
  rw [List.length_map] at hL
  refine ⟨by simp,?_⟩
  have hl4 : (l.map vrA).length = l.length := by simp
  rw [zdi]
  unfold Try.f44
  simp only [go_sem,zaa,↓reduceIte,ty,ycz,hl4]
  refine zef ⟨fun m σ => ∃ i : Nat,m = l.length - i ∧ i ≤ l.length ∧ zmq key l 0 = zmq key (l.drop i) i ∧
    σ = ⟨[.sg 4 (l.map vrA) g,.fn 45 [.rf 0 1 0 0],.junk,.junk,.junk,.junk,.junk,.w (.int .i64 l.length),.w (.int .i64 i),.junk,.junk,.junk,.junk,.junk,.junk,.junk,.junk,.junk,.junk],[(0,.g 1 [.str key])],4⟩,?_,?_⟩
  ·refine ⟨_,_,zaf [0,1,2,3] rfl rfl rfl ?_ ?_,0,rfl,by omega,by rw [List.drop_zero]; rfl,rfl⟩
   ·simp only [ssT,zai,zaj,setSlot,gOf,AV.ren,renL,Blk.ren,Ax.look,Ax.put,reduceCtorEq,↓reduceIte,Nat.reduceEqDiff,Nat.reduceLT,Nat.reduceAdd,List.length_append,List.length_cons,List.length_nil,Option.some.injEq]; simp
   ·simp only [ssT,zai,zaj,setSlot,gOf,AV.ren,renL,Blk.ren,Ax.look,Ax.put,reduceCtorEq,↓reduceIte,Nat.reduceEqDiff,Nat.reduceLT,Nat.reduceAdd,List.length_append,List.length_cons,List.length_nil,Option.some.injEq]
  ·rintro m σ ⟨i,rfl,hi,hinv,rfl⟩
   by_cases hil : i < l.length
   ·have e1 : ((i : Int) + 1 + 9223372036854775808) % 18446744073709551616 - 9223372036854775808 = ((i + 1 : Nat) : Int) := by omega
    have d1 : decide ((i : Int) < l.length) = true := decide_eq_true (by omega)
    have hs1 := zih l i hil
    have hdr : l.drop i = l[i] :: l.drop (i + 1) := List.drop_eq_getElem_cons hil
    obtain ⟨P,hP⟩ : ∃ P,l[i] = P := ⟨_,rfl⟩
    rw [hP] at hs1 hdr
    rw [hdr] at hinv
    obtain ⟨k,v,o,t⟩ := P
    have hs1 : slot (l.map vrA) i = .agg [.str k,.str v,.w (.int .i64 o),.w (.int .i64 t)] := hs1
    by_cases hk : k = key
    ·have hv : zmq key l 0 = i := by rw [hinv]; unfold zmq; rw [if_pos hk]
     have dk : decide (k = key) = true := decide_eq_true hk
     simp only [go_sem,zaa,↓reduceIte,ty,ycz,ylx,hl4,d1,hs1,dk,hv,Int.toNat_natCast]
     omega
    ·have hv : zmq key l 0 = zmq key (l.drop (i + 1)) ((i + 1 : Nat) : Int) := by
      rw [hinv]; rw [zmq,if_neg hk]; simp
     have dk : decide (k = key) = false := decide_eq_false hk
     simp only [go_sem,zaa,↓reduceIte,ty,ycz,ylx,hl4,d1,hs1,dk,e1,Int.toNat_natCast]
     repeat (refine And.intro (by omega) ?_)
     refine ⟨l.length - (i + 1),_,by omega,zaf [0,1,2,3] rfl rfl rfl ?_ ?_,i + 1,rfl,by omega,hv,rfl⟩
     ·simp only [ssT,zai,zaj,setSlot,gOf,AV.ren,renL,Blk.ren,Ax.look,Ax.put,reduceCtorEq,↓reduceIte,Nat.reduceEqDiff,Nat.reduceLT,Nat.reduceAdd,List.length_append,List.length_cons,List.length_nil,Option.some.injEq]
     ·simp only [ssT,zai,zaj,setSlot,gOf,AV.ren,renL,Blk.ren,Ax.look,Ax.put,reduceCtorEq,↓reduceIte,Nat.reduceEqDiff,Nat.reduceLT,Nat.reduceAdd,List.length_append,List.length_cons,List.length_nil,Option.some.injEq]
   ·have d1 : decide ((i : Int) < l.length) = false := decide_eq_false (by omega)
    have hdr : l.drop i = [] := List.drop_eq_nil_of_le (by omega)
    rw [hdr] at hinv
    have hv : zmq key l 0 = -1 := hinv
    simp only [go_sem,zaa,↓reduceIte,ty,ycz,hl4,d1,hv]
 ·exact hp.elim
def zrt (f : FuncId) : Option zas :=
 match f with
 | 44 => some ylg
 | _ => none
theorem yor : Fns Try.prog zrt := by
 intro f s h
 unfold zrt at h
 split at h
 ·injection h with h; subst h; exact ⟨⟨_,Try.func44,by kernel_rfl,by kernel_rfl⟩,yhv⟩
 ·cases h
set_option maxHeartbeats 2000000 in
theorem ybt : zbg Try.prog 21 yek := by
 refine zqh (S := zrt) (T := ty) mixed ty_ok yor Try.func21 (c := Try.f21.body.getD .skip) (by kernel_rfl) (by kernel_rfl) (fun xs pins hp _ => ?_)
 unfold yek at hp ⊢
 split at hp
 ·rename_i n xs f key _
  obtain ⟨hL,l,rfl⟩ := hp
  rw [List.length_map] at hL
  have hlp : (l.map vrA).length = l.length := by simp
  have hL9 : l.length ≤ 9223372036854775807 := by omega
  have hxl : ∃ q : List VR,l.map vrA = q.map vrA := ⟨l,rfl⟩
  have hc1 : ∀ f,coe ty 33 (.sg 4 (l.map vrA) f) = .sg 4 (l.map vrA) f := fun f => by cases l <;> rfl
  rw [zdi]
  refine ⟨by simp,?_⟩
  unfold Try.f21
  rcases zqm key l 0 with ⟨h1,h2⟩ | ⟨i,hi,h1,h2⟩
  ·rw [h2]
   have dn : decide ((-1 : Int) < 0) = true := by decide
   simp only [go_sem,zaa,↓reduceIte,ty,zrt,ylg,hlp,hL9,hxl,hc1,zdi,h1,dn,getA]
   refine ⟨_,Weak.refl _,?_⟩
   simp only [go_sem,zaa,↓reduceIte,ty,zrt]
  ·rw [h2]
   have hs1 := zih l i hi
   obtain ⟨P,hP⟩ : ∃ P,l[i] = P := ⟨_,rfl⟩
   rw [hP] at hs1 ⊢
   obtain ⟨k,v,o,t⟩ := P
   have hs1 : slot (l.map vrA) i = .agg [.str k,.str v,.w (.int .i64 o),.w (.int .i64 t)] := hs1
   have h1 : zmq key l 0 = (i : Int) := by rw [h1]; omega
   have dn : decide ((i : Int) < 0) = false := decide_eq_false (by omega)
   simp only [go_sem,zaa,↓reduceIte,ty,zrt,ylg,hlp,hL9,hxl,hc1,zdi,h1,dn,hs1,getA,vrA,Int.toNat_natCast]
   repeat (first | refine And.intro (by omega) ?_ | refine And.intro ⟨by omega,by omega⟩ ?_)
   refine ⟨_,Weak.refl _,?_⟩
   simp only [go_sem,zaa,↓reduceIte,ty,zrt]
 ·exact hp.elim
def zwx : Int → List Bat → Bool
 | _,[] => true
 | a,x :: l => decide (bE x = 0) && (!decide (x.b < a) && zwx (nxD x) l)
theorem zww : ∀ (l : List Bat) (a : Int),zwx a l = true ↔ zhl a l
 | [],a => ⟨fun _ => trivial,fun _ => rfl⟩
 | x :: l,a => by
  unfold zwx zhl
  rw [Bool.and_eq_true,Bool.and_eq_true,decide_eq_true_eq,Bool.not_eq_true',decide_eq_false_iff_not,zww l]
  constructor
  ·rintro ⟨h1,h2,h3⟩; exact ⟨h1,by omega,h3⟩
  ·rintro ⟨h1,h2,h3⟩; exact ⟨h1,by omega,h3⟩
def zpm : zas
 | [.sg 6 xs f],[] => ⟨xs.length ≤ 9223372036854775807 ∧ isBs xs,.w (.bool (zwx 0 (xs.map ubat))),[]⟩
 | _,_ => zcj
def zfx (f : FuncId) : Option zas :=
 match f with
 | 29 => some zke
 | 33 => some ztu
 | _ => none
theorem yja : Fns Try.prog zfx := by
 intro f s h
 unfold zfx at h
 split at h
 ·injection h with h; subst h; exact ⟨⟨_,Try.func29,by kernel_rfl,by kernel_rfl⟩,zrl⟩
 ·injection h with h; subst h; exact ⟨⟨_,Try.func33,by kernel_rfl,by kernel_rfl⟩,zrj⟩
 ·cases h
def zev : Plan := fun _ => none
set_option maxHeartbeats 4000000 in
theorem zwy : zbg Try.prog 18 zpm := by
 refine zmo (S := zfx) (T := ty) (pl := zev) mixed ty_ok yja Try.func18 (c := Try.f18.body.getD .skip) (by kernel_rfl) (by kernel_rfl) (fun xs pins hp _ => ?_)
 unfold zpm at hp ⊢
 split at hp
 ·rename_i xs f _
  obtain ⟨hL,es,rfl,he⟩ := hp
  rw [List.length_map] at hL
  have hlp : (es.map bvp).length = es.length := by simp
  rw [zcl]
  refine ⟨by simp,?_⟩
  obtain ⟨X,hX⟩ : ∃ X,zwx 0 (es.map Prod.fst) = X := ⟨_,rfl⟩
  rw [hX]
  unfold Try.f18
  simp only [go_sem,zad,↓reduceIte,lcT,ty,zfx,zev,hlp]
  refine zea ⟨fun m σ => ∃ (i : Nat) (a : Int),m = es.length - i ∧ i ≤ es.length ∧ zwx a ((es.drop i).map Prod.fst) = X ∧
    σ = ⟨[.sg 6 (es.map bvp) f,.junk,.junk,.w (.int .i64 a),.w (.int .i64 i),.junk,.junk,.junk,.junk,.junk,.junk,.junk,.junk,.junk,.junk,.junk,.junk,.junk,.junk,.junk,.junk,.junk,.junk,.junk,.junk,.junk,.junk,.junk,.junk,.junk,.junk],[],4⟩,?_,?_⟩
  ·refine ⟨_,_,zaf [0,1,2,3] rfl rfl rfl ?_ ?_,0,0,rfl,by omega,by rw [List.drop_zero]; exact hX,rfl⟩
   ·simp only [ssT,zai,zaj,setSlot,gOf,AV.ren,renL,Blk.ren,Ax.look,Ax.put,reduceCtorEq,↓reduceIte,Nat.reduceEqDiff,Nat.reduceLT,Nat.reduceAdd,List.length_append,List.length_cons,List.length_nil,Option.some.injEq]; try simp
   ·simp only [ssT,zai,zaj,setSlot,gOf,AV.ren,renL,Blk.ren,Ax.look,Ax.put,reduceCtorEq,↓reduceIte,Nat.reduceEqDiff,Nat.reduceLT,Nat.reduceAdd,List.length_append,List.length_cons,List.length_nil,Option.some.injEq]
  ·rintro m σ ⟨i,a,rfl,hi,hI,rfl⟩
   by_cases hil : i < es.length
   ·have d4 : decide ((i : Int) < es.length) = true := decide_eq_true (by omega)
    have e1 : ((i : Int) + 1 + 9223372036854775808) % 18446744073709551616 - 9223372036854775808 = ((i + 1 : Nat) : Int) := by omega
    have hs1 := zhk es i hil
    have m1 := he es[i] (List.getElem_mem hil)
    have hdr : es.drop i = es[i] :: es.drop (i + 1) := List.drop_eq_getElem_cons hil
    obtain ⟨P,hP⟩ : ∃ P,es[i] = P := ⟨_,rfl⟩
    rw [hP] at hs1 m1 hdr
    rw [hdr,List.map_cons] at hI
    obtain ⟨⟨b,c,p,e,s,rs⟩,f'⟩ := P
    have hs1 : slot (es.map bvp) i = .agg [.w (.int .i64 b),.w (.int .i64 c),.w (.int .i64 p),.w (.int .i64 e),.w (.int .i64 s),.sg 6 (rs.map rv) f'] := hs1
    simp only at m1
    have hlr : (rs.map rv).length = rs.length := by simp
    have hxr : ∃ q : List Rec,rs.map rv = q.map rv := ⟨rs,rfl⟩
    have hI : (decide (batE b c p e s rs = 0) && (!decide (b < a) && zwx (nxI b c) ((es.drop (i + 1)).map Prod.fst))) = X := hI
    have hn0 : ∀ b0 : Bool,ztu [.agg [.w (.int .i64 b),.w (.int .i64 c),.w (.int .i64 p),.w (.int .i64 e),.w (.int .i64 s),.sg 6 (rs.map rv) b0]] [] = ⟨True,.w (.int .i64 (nxI b c)),[]⟩ := fun _ => rfl
    obtain ⟨D,hD⟩ : ∃ D,batE b c p e s rs = D := ⟨_,rfl⟩
    rw [hD] at hI
    cases d1 : decide (D = 0) with
    | false =>
     rw [d1,Bool.false_and] at hI
     subst hI
     simp only [go_sem,zad,↓reduceIte,lcT,ty,zfx,zev,zke,hlp,hlr,m1,hxr,zam,hs1,d4,hD,d1,Bool.not_false,Int.toNat_natCast]
     repeat (first | refine And.intro (by omega) ?_ | refine And.intro ⟨by omega,by omega⟩ ?_)
     refine ⟨_,Weak.refl _,?_⟩
     simp only [go_sem,zad,↓reduceIte,lcT,ty,zfx,zev]
     exact zeq 2 rfl
    | true =>
     rw [d1,Bool.true_and] at hI
     cases d2 : decide (b < a) with
     | true =>
      rw [d2,Bool.not_true,Bool.false_and] at hI
      subst hI
      simp only [go_sem,zad,↓reduceIte,lcT,ty,zfx,zev,zke,hlp,hlr,m1,hxr,zam,hs1,d4,hD,d1,d2,Bool.not_true,Int.toNat_natCast]
      repeat (first | refine And.intro (by omega) ?_ | refine And.intro ⟨by omega,by omega⟩ ?_)
      refine ⟨_,Weak.refl _,?_⟩
      simp only [go_sem,zad,↓reduceIte,lcT,ty,zfx,zev]
      exact zeq 2 rfl
     | false =>
      rw [d2,Bool.not_false,Bool.true_and] at hI
      simp only [go_sem,zad,↓reduceIte,lcT,ty,zfx,zev,zke,hn0,hlp,hlr,m1,hxr,zam,hs1,d4,hD,d1,d2,e1,Bool.not_true,Int.toNat_natCast]
      repeat (first | refine And.intro (by omega) ?_ | refine And.intro ⟨by omega,by omega⟩ ?_)
      refine ⟨es.length - (i + 1),_,by omega,zaf [0,1,2,3] rfl rfl rfl ?_ ?_,i + 1,nxI b c,rfl,by omega,hI,rfl⟩
      ·simp only [ssT,zai,zaj,setSlot,gOf,AV.ren,renL,Blk.ren,Ax.look,Ax.put,reduceCtorEq,↓reduceIte,Nat.reduceEqDiff,Nat.reduceLT,Nat.reduceAdd,List.length_append,List.length_cons,List.length_nil,Option.some.injEq]; try simp
      ·simp only [ssT,zai,zaj,setSlot,gOf,AV.ren,renL,Blk.ren,Ax.look,Ax.put,reduceCtorEq,↓reduceIte,Nat.reduceEqDiff,Nat.reduceLT,Nat.reduceAdd,List.length_append,List.length_cons,List.length_nil,Option.some.injEq]
   ·have d4 : decide ((i : Int) < es.length) = false := decide_eq_false (by omega)
    have hdr : es.drop i = [] := List.drop_eq_nil_of_le (by omega)
    rw [hdr] at hI
    have hI : true = X := hI
    subst hI
    simp only [go_sem,zad,↓reduceIte,lcT,ty,zfx,zev,hlp,d4]
    refine ⟨_,Weak.refl _,?_⟩
    simp only [go_sem,zad,↓reduceIte,lcT,ty,zfx,zev]
    exact zeq 2 rfl
 ·exact hp.elim
end
end Go.Proofs.Ytebacgkeoefnkaa
namespace Go.Proofs.Ytebacgkeoefnkaa
namespace Ax
abbrev Us := List (Nat × Option Blk)
def upd : Us → (Nat → Option Blk) → Nat → Option Blk
 | [],lk,id => lk id
 | (k,b) :: r,lk,id => if k = id then b else upd r lk id
def Told (o : Out) (lk : Nat → Option Blk) (r : Option (AV × Us)) : Prop := ∀ x us,r = some (x,us) → o.p ∧ o.x = x ∧ ∀ id,look o.H id = upd us lk id
section
variable {H : Heap} {lk : Nat → Option Blk} (hl : ∀ id,look H id = lk id)
def csub (ti : TyI) (ls : List AV) (f : Nat) : Option AV :=
 bif ti.d.aggr then (if f + ti.size ≤ ls.length then some (.agg ((ls.drop f).take ti.size)) else none) else (if f < ls.length then some (slot ls f) else none)
theorem znx {ti : TyI} {ls : List AV} {f : Nat} {x : AV} (h : csub ti ls f = some x) : (subv ti ls f H).p ∧ (subv ti ls f H).x = x ∧ (subv ti ls f H).H = H := by
 unfold csub at h
 unfold subv
 cases ha : ti.d.aggr <;> simp only [ha,cond_true,cond_false] at h ⊢ <;> split at h <;> simp_all
def ynr (T : zab) (t : TypeId) (x : AV) (lk : Nat → Option Blk) : Option (AV × Us) :=
 match T t with
 | none => none
 | some ti => match x with
  | .cp ls => (csub ti ls 0).map fun y => (y,[])
  | .rf id s i f => match lk id with
   | some blk => bif zmd ti blk then (if s = 1 ∧ f = 0 then (csub ti blk.flat i).map fun y => (y,[]) else none) else (if s = blk.size ∧ i < blk.len then (csub ti (zak blk i) f).map fun y => (y,[]) else none)
   | none => none
  | _ => none
include hl in
theorem yfn {T : zab} {t : TypeId} {x : AV} : Told (aLoad T t x H) lk (ynr T t x lk) := by
 intro y us h
 unfold ynr at h
 unfold aLoad
 split at h
 ·cases h
 ·rename_i ti ht
  simp only [ht]
  split at h
  ·obtain ⟨z,hz,he⟩ := Option.map_eq_some_iff.1 h
   injection he with h1 h2; subst h1 h2
   obtain ⟨a,b,c⟩ := znx (H := H) hz
   exact ⟨a,b,fun id => by rw [c]; exact hl id⟩
  ·rename_i id s i f
   simp only [hl id]
   split at h
   ·rename_i blk hb
    simp only [hb]
    cases hm : zmd ti blk <;> simp only [hm,cond_true,cond_false] at h ⊢
    all_goals
     split at h
     ·rename_i hc
      obtain ⟨z,hz,he⟩ := Option.map_eq_some_iff.1 h
      injection he with h1 h2; subst h1 h2
      obtain ⟨a,b,c⟩ := znx (H := H) hz
      exact ⟨⟨hc,a⟩,b,fun id => by simp only [Out.and]; rw [c]; exact hl id⟩
     ·cases h
   ·cases h
  ·cases h
def ynd (blk : Blk) (i f : Nat) (x : AV) : Option Blk :=
 match blk with
 | .b bs => match x with
  | .w (.int .u8 m) => if f = 0 ∧ 0 ≤ m ∧ m < 256 then some (.b (bs.set i (UInt8.ofNat m.toNat))) else none
  | _ => none
 | .i ns => match x with
  | .w (.int .i64 m) => if f = 0 then some (.i (ns.set i m)) else none
  | _ => none
 | .g s xs => match slot xs i with
  | .agg ls => if f + x.leaves.length ≤ ls.length then some (.g s (setSlot xs i (.agg (splice ls f x.leaves)))) else none
  | _ => if f = 0 ∧ x.leaf = true then some (.g s (setSlot xs i x)) else none
 | .o _ => none
theorem yqz {blk : Blk} {i f : Nat} {x : AV} {b : Blk} (h : ynd blk i f x = some b) : (setB blk i f x).1 ∧ (setB blk i f x).2 = b := by
 cases blk with
 | b bs =>
  simp only [ynd] at h
  simp only [setB]
  split at h
  ·split at h <;> simp_all
  ·cases h
 | i ns =>
  simp only [ynd] at h
  simp only [setB]
  split at h
  ·split at h <;> simp_all
  ·cases h
 | g s xs =>
  simp only [ynd] at h
  simp only [setB]
  cases hs : slot xs i <;> simp only [hs] at h ⊢ <;> split at h <;> simp_all
 | o x => cases h
def clayB (blk : Blk) (i : Nat) (x : AV) : Option Blk :=
 match blk with
 | .b bs => match zrg x.leaves with
  | some ys => if i + ys.length ≤ bs.length ∧ 0 < ys.length then some (.b (bs.take i ++ (ys ++ bs.drop (i + ys.length)))) else none
  | none => none
 | _ => none
theorem yrd {blk : Blk} {i : Nat} {x : AV} {b : Blk} (h : clayB blk i x = some b) : (layB blk i x).1 ∧ (layB blk i x).2 = b := by
 unfold clayB at h
 unfold layB
 split at h
 ·split at h
  ·rename_i ys hy
   split at h
   ·rename_i hc
    injection h with h
    simp only [hy]
    exact ⟨hc,h⟩
   ·cases h
  ·cases h
 ·cases h
def yfk (T : zab) (t : TypeId) (p x : AV) (lk : Nat → Option Blk) : Option (AV × Us) :=
 match T t,p with
 | some ti,.rf id s i f => match lk id with
  | some blk => bif zmd ti blk then (if s = 1 ∧ f = 0 ∧ x.leaves.length = ti.size ∧ x.okv = true then (clayB blk i x).map fun b => (.junk,[(id,some b)]) else none) else if s = blk.size ∧ i < blk.len ∧ x.leaves.length = ti.size ∧ x.okv = true then (ynd blk i f x).map fun b => (.junk,[(id,some b)]) else none
  | none => none
 | _,_ => none
theorem zao (hl : ∀ id,look H id = lk id) {nm : Nat} {b : Blk} (id : Nat) : look (put H nm b) id = upd [(nm,some b)] lk id := by
 rw [zar]; simp only [upd]; split <;> simp [hl]
include hl in
theorem yno {T : zab} {t : TypeId} {p x : AV} : Told (zkf T t p x H) lk (yfk T t p x lk) := by
 intro y us h
 unfold yfk at h
 unfold zkf
 split at h
 ·rename_i ti id s i f ht
  simp only [ht,hl id]
  split at h
  ·rename_i blk hb
   simp only [hb]
   cases hm : zmd ti blk <;> simp only [hm,cond_true,cond_false] at h ⊢
   case true =>
    split at h
    ·rename_i hc
     obtain ⟨z,hz,he⟩ := Option.map_eq_some_iff.1 h
     injection he with h1 h2; subst h1 h2
     obtain ⟨a,b⟩ := yrd hz
     refine ⟨⟨hc.1,hc.2.1,hc.2.2.1,hc.2.2.2,a⟩,rfl,fun k => ?_⟩
     rw [b]; exact zao hl k
    ·cases h
   split at h
   ·rename_i hc
    obtain ⟨z,hz,he⟩ := Option.map_eq_some_iff.1 h
    injection he with h1 h2; subst h1 h2
    obtain ⟨a,b⟩ := yqz hz
    refine ⟨⟨hc.1,hc.2.1,hc.2.2.1,hc.2.2.2,a⟩,rfl,fun k => ?_⟩
    rw [b]; exact zao hl k
   ·cases h
  ·cases h
 ·cases h
def yip (c a b : AV) : Option (AV × Us) :=
 match c with
 | .w (.bool t) => match a,b with
  | .w (.bool x),.w (.bool y) => some (.w (.bool (bif t then x else y)),[])
  | _,.w (.bool y) => if t = false then some (.w (.bool y),[]) else none
  | .w (.bool x),_ => if t = true then some (.w (.bool x),[]) else none
  | _,_ => none
 | _ => none
include hl in
theorem yrf {c a b : AV} : Told (zsh c a b H) lk (yip c a b) := by
 intro y us h
 have key : ∀ t,yip (.w (.bool t)) a b = some (y,us) → (zsh (.w (.bool t)) a b H).p ∧ (zsh (.w (.bool t)) a b H).x = y ∧ ∀ id,look (zsh (.w (.bool t)) a b H).H id = upd us lk id := by
  intro t h
  rcases hb : b with v | _ | _ | _ | _ | _ | _ | _ | _ | _ | _ | _ <;> subst hb <;> (try rcases hv : v with x | _ | _ | _ | _ | _ | _ | _ | _ | _ | _ | _ | _ | _ | _) <;> (try subst hv) <;>
   rcases ha : a with u | _ | _ | _ | _ | _ | _ | _ | _ | _ | _ | _ <;> subst ha <;> (try rcases hu : u with z | _ | _ | _ | _ | _ | _ | _ | _ | _ | _ | _ | _ | _ | _) <;> (try subst hu) <;>
   simp only [yip] at h <;> first | (cases h; done) | (split at h <;> first | (cases h; done) | (injection h with h; injection h with h1 h2; subst h1 h2; exact ⟨by assumption,rfl,hl⟩)) | (injection h with h; injection h with h1 h2; subst h1 h2; exact ⟨trivial,rfl,hl⟩)
 unfold yip at h
 split at h
 ·exact key _ h
 ·cases h
def yfv (T : zab) (nm : Nat) (e : TypeId) : Option (AV × Us) :=
 match T e with
 | some ti => bif zlk ti then (if 0 < ti.size then some (.rf nm 1 0 0,[(nm,some (.b (List.replicate ti.size 0)))]) else none) else (if 0 < ti.size then some (.rf nm ti.size 0 0,[(nm,some (.g ti.size [asv ti ti.zero]))]) else none)
 | none => none
include hl in
theorem ynx {T : zab} {nm : Nat} {e : TypeId} : Told (aAlloc T nm e H) lk (yfv T nm e) := by
 intro y us h
 unfold yfv at h
 unfold aAlloc
 split at h
 ·rename_i ti ht
  simp only [ht]
  cases hm : zlk ti <;> simp only [hm,cond_true,cond_false] at h ⊢
  all_goals
   split at h
   ·injection h with h; injection h with h1 h2; subst h1 h2
    exact ⟨by assumption,rfl,fun id => zao hl id⟩
   ·cases h
 ·cases h
def cBox (T : zab) (nm : Nat) (e : TypeId) (x : AV) : Option (AV × Us) :=
 match T e with
 | some ti => if 0 < ti.size ∧ x.leaves.length = ti.size ∧ x.okv = true then some (.rf nm ti.size 0 0,[(nm,some (.g ti.size [x]))]) else none
 | none => none
include hl in
theorem cBox_ok {T : zab} {nm : Nat} {e : TypeId} {x : AV} : Told (aBox T nm e x H) lk (cBox T nm e x) := by
 intro y us h
 unfold cBox at h
 unfold aBox
 split at h
 ·rename_i ti ht
  simp only [ht]
  split at h
  ·injection h with h; injection h with h1 h2; subst h1 h2
   exact ⟨by assumption,rfl,fun id => zao hl id⟩
  ·cases h
 ·cases h
def yfc (T : zab) (fs : List (Nat × TypeId)) : List (Nat × AV) → List AV → Option (List AV)
 | [],ls => some ls
 | (i,x) :: r,ls => match fs[i]? with
  | some (off,ty) => match T ty with
   | some ti => if x.leaves.length = ti.size ∧ x.okv = true ∧ off + ti.size ≤ ls.length then yfc T fs r (splice ls off x.leaves) else none
   | none => none
  | none => none
theorem zzj {T : zab} {fs : List (Nat × TypeId)} : ∀ {ps : List (Nat × AV)} {ls zs : List AV},yfc T fs ps ls = some zs → (fillS T fs ps ls).1 ∧ (fillS T fs ps ls).2 = zs
 | [],ls,zs,h => by injection h with h; exact ⟨trivial,h⟩
 | (i,x) :: r,ls,zs,h => by
  unfold yfc at h
  unfold fillS
  split at h
  ·rename_i off ty hi
   simp only [hi]
   split at h
   ·rename_i ti ht
    simp only [ht]
    split at h
    ·rename_i hc
     obtain ⟨h1,h2⟩ := zzj h
     exact ⟨⟨hc.1,hc.2.1,hc.2.2,h1⟩,h2⟩
    ·cases h
   ·cases h
  ·cases h
def yfg (s : Nat) : List (Nat × AV) → List AV → Option (List AV)
 | [],ls => some ls
 | (i,x) :: r,ls => if x.leaves.length = s ∧ x.okv = true ∧ i * s + s ≤ ls.length then yfg s r (splice ls (i * s) x.leaves) else none
theorem zzn {s : Nat} : ∀ {ps : List (Nat × AV)} {ls zs : List AV},yfg s ps ls = some zs → (zse s ps ls).1 ∧ (zse s ps ls).2 = zs
 | [],ls,zs,h => by injection h with h; exact ⟨trivial,h⟩
 | (i,x) :: r,ls,zs,h => by
  unfold yfg at h
  unfold zse
  split at h
  ·rename_i hc
   obtain ⟨h1,h2⟩ := zzn h
   exact ⟨⟨hc.1,hc.2.1,hc.2.2,h1⟩,h2⟩
  ·cases h
def zzq (T : zab) : List (Nat × TypeId) → Bool
 | [] => true
 | p :: r => match T p.2 with
  | some _ => zzq T r
  | none => false
theorem zzp {T : zab} : ∀ {l : List (Nat × TypeId)},zzq T l = true → allTy T l
 | [],_ => trivial
 | p :: r,h => by
  unfold zzq at h
  unfold allTy
  split at h
  ·rename_i x hx; simp only [hx]; exact zzp h
  ·cases h
def yfu (T : zab) (t : TypeId) (ps : List (Nat × AV)) : Option (AV × Us) :=
 match T t with
 | some ti => match ti.d with
  | .struct fs => bif zzq T fs then (yfc T fs ps ti.zero).map fun l => (.agg l,[]) else none
  | .arr _ e => match T e with
   | some te => (yfg te.size ps ti.zero).map fun l => (.agg l,[])
   | none => none
  | _ => none
 | none => none
include hl in
theorem ynw {T : zab} {t : TypeId} {ps : List (Nat × AV)} : Told (aBuild T t ps H) lk (yfu T t ps) := by
 intro y us h
 unfold yfu at h
 unfold aBuild
 split at h
 ·rename_i ti ht
  simp only [ht]
  split at h
  ·rename_i fs hd
   simp only [hd]
   cases hc : zzq T fs with
   | false => rw [hc] at h; cases h
   | true =>
    rw [hc] at h
    obtain ⟨z,hz,he⟩ := Option.map_eq_some_iff.1 h
    injection he with h1 h2; subst h1 h2
    obtain ⟨a,b⟩ := zzj hz
    exact ⟨⟨zzp hc,a⟩,by rw [b],hl⟩
  ·rename_i n e hd
   simp only [hd]
   split at h
   ·rename_i te hte
    simp only [hte]
    obtain ⟨z,hz,he⟩ := Option.map_eq_some_iff.1 h
    injection he with h1 h2; subst h1 h2
    obtain ⟨a,b⟩ := zzn hz
    exact ⟨a,by rw [b],hl⟩
   ·cases h
  ·cases h
 ·cases h
def yff : List (Nat × AV) → List UInt8 → Option (List UInt8)
 | [],bs => some bs
 | (i,x) :: r,bs => match x with
  | .w (.int .u8 m) => if i < bs.length ∧ 0 ≤ m ∧ m < 256 then yff r (bs.set i (UInt8.ofNat m.toNat)) else none
  | _ => none
theorem zzm : ∀ {ps : List (Nat × AV)} {ls zs : List UInt8},yff ps ls = some zs → (fillB ps ls).1 ∧ (fillB ps ls).2 = zs
 | [],ls,zs,h => by injection h with h; exact ⟨trivial,h⟩
 | (i,x) :: r,ls,zs,h => by
  unfold yff at h
  unfold fillB
  split at h
  ·split at h
   ·rename_i hc
    obtain ⟨h1,h2⟩ := zzm h
    exact ⟨⟨hc.1,hc.2.1,hc.2.2,h1⟩,h2⟩
   ·cases h
  ·cases h
def yfd : List (Nat × AV) → List Int → Option (List Int)
 | [],ns => some ns
 | (i,x) :: r,ns => match x with
  | .w (.int .i64 m) => if i < ns.length then yfd r (ns.set i m) else none
  | _ => none
theorem zzk : ∀ {ps : List (Nat × AV)} {ls zs : List Int},yfd ps ls = some zs → (fillI ps ls).1 ∧ (fillI ps ls).2 = zs
 | [],ls,zs,h => by injection h with h; exact ⟨trivial,h⟩
 | (i,x) :: r,ls,zs,h => by
  unfold yfd at h
  unfold fillI
  split at h
  ·split at h
   ·rename_i hc
    obtain ⟨h1,h2⟩ := zzk h
    exact ⟨⟨hc,h1⟩,h2⟩
   ·cases h
  ·cases h
def yfe (s : Nat) : List (Nat × AV) → List AV → Option (List AV)
 | [],xs => some xs
 | (i,x) :: r,xs => if i < xs.length ∧ x.leaves.length = s ∧ x.okv = true then yfe s r (setSlot xs i x) else none
theorem zzl {s : Nat} : ∀ {ps : List (Nat × AV)} {ls zs : List AV},yfe s ps ls = some zs → (fillG s ps ls).1 ∧ (fillG s ps ls).2 = zs
 | [],ls,zs,h => by injection h with h; exact ⟨trivial,h⟩
 | (i,x) :: r,ls,zs,h => by
  unfold yfe at h
  unfold fillG
  split at h
  ·rename_i hc
   obtain ⟨h1,h2⟩ := zzl h
   exact ⟨⟨hc.1,hc.2.1,hc.2.2,h1⟩,h2⟩
  ·cases h
def isZ (k : IntKind) : List AV → Bool
 | [.w (.int k' n)] => decide (k' = k) && decide (n = 0)
 | _ => false
theorem zyb {k : IntKind} {l : List AV} (h : isZ k l = true) : l = [.w (.int k 0)] := by
 unfold isZ at h
 split at h
 ·simp only [Bool.and_eq_true,decide_eq_true_eq] at h
  obtain ⟨rfl,rfl⟩ := h; rfl
 ·cases h
def zht (T : zab) (nm : Nat) (t : TypeId) (n : Nat) (ps : List (Nat × AV)) : Option (AV × Us) :=
 match T t with
 | some ti => match ti.d with
  | .slice e => match T e with
   | some te => match te.d with
    | .int .u8 => if te.size = 1 ∧ isZ .u8 te.zero = true ∧ n ≤ 16777216 then (yff ps (List.replicate n 0)).map fun l => (.ms nm 1 0 n,[(nm,some (.b l))]) else none
    | .int .i64 => if te.size = 1 ∧ isZ .i64 te.zero = true ∧ n ≤ 16777216 then (yfd ps (List.replicate n 0)).map fun l => (.ms nm 1 0 n,[(nm,some (.i l))]) else none
    | _ => if 0 < te.size ∧ n * te.size ≤ 16777216 then (yfe te.size ps (List.replicate n (asv te te.zero))).map fun l => (.ms nm te.size 0 n,[(nm,some (.g te.size l))]) else none
   | none => none
  | _ => none
 | none => none
include hl in
theorem zsg {T : zab} {nm : Nat} {t : TypeId} {n : Nat} {ps : List (Nat × AV)} : Told (aBuildSlice T nm t n ps H) lk (zht T nm t n ps) := by
 intro y us h
 unfold zht at h
 unfold aBuildSlice
 split at h
 ·rename_i ti ht
  simp only [ht]
  split at h
  ·rename_i e hd
   simp only [hd]
   split at h
   ·rename_i te hte
    simp only [hte]
    split at h
    ·rename_i hk
     simp only [hk]
     split at h
     ·rename_i hc
      obtain ⟨z,hz,he⟩ := Option.map_eq_some_iff.1 h
      injection he with h1 h2; subst h1 h2
      obtain ⟨a,b⟩ := zzm hz
      exact ⟨⟨hc.1,zyb hc.2.1,hc.2.2,a⟩,rfl,fun id => by rw [b]; exact zao hl id⟩
     ·cases h
    ·rename_i hk
     simp only [hk]
     split at h
     ·rename_i hc
      obtain ⟨z,hz,he⟩ := Option.map_eq_some_iff.1 h
      injection he with h1 h2; subst h1 h2
      obtain ⟨a,b⟩ := zzk hz
      exact ⟨⟨hc.1,zyb hc.2.1,hc.2.2,a⟩,rfl,fun id => by rw [b]; exact zao hl id⟩
     ·cases h
    ·rename_i hk1 hk2
     split
     ·rename_i he; exact (hk1 he).elim
     ·rename_i he; exact (hk2 he).elim
     ·split at h
      ·rename_i hc
       obtain ⟨z,hz,he⟩ := Option.map_eq_some_iff.1 h
       injection he with h1 h2; subst h1 h2
       obtain ⟨a,b⟩ := zzl hz
       exact ⟨⟨hc.1,hc.2,a⟩,rfl,fun id => by rw [b]; exact zao hl id⟩
      ·cases h
   ·cases h
  ·cases h
 ·cases h
def cNil (x : AV) (lk : Nat → Option Blk) : Option (AV × Us) :=
 match x with
 | .rf id s i f => match lk id with
  | some _ => if s ≠ 0 then some (.rf id s i f,[]) else none
  | none => none
 | .cp ls => some (.cp ls,[])
 | .fn f cs => some (.fn f cs,[])
 | _ => none
include hl in
theorem cNil_ok {x : AV} : Told (aNil x H) lk (cNil x lk) := by
 intro y us h
 unfold cNil at h
 unfold aNil
 split at h
 ·rename_i id s i f
  simp only [hl id]
  split at h
  ·rename_i b hb
   simp only [hb]
   split at h
   ·injection h with h; injection h with h1 h2; subst h1 h2
    exact ⟨by assumption,rfl,hl⟩
   ·cases h
  ·cases h
 ·injection h with h; injection h with h1 h2; subst h1 h2; exact ⟨trivial,rfl,hl⟩
 ·injection h with h; injection h with h1 h2; subst h1 h2; exact ⟨trivial,rfl,hl⟩
 ·cases h
def cInt (op : BinOp) (k : IntKind) (a : Int) (k' : IntKind) (b : Int) : Option Value :=
 match op with
 | .shl => if 0 ≤ b then some (.int k (k.wrap (a * 2 ^ min b.toNat k.bits))) else none
 | .shr => if 0 ≤ b then some (.int k (a / 2 ^ min b.toNat k.bits)) else none
 | .add => if k = k' then some (.int k (k.wrap (a + b))) else none
 | .sub => if k = k' then some (.int k (k.wrap (a - b))) else none
 | .mul => if k = k' then some (.int k (k.wrap (a * b))) else none
 | .quo => if k = k' ∧ b ≠ 0 then some (.int k (k.wrap (a.tdiv b))) else none
 | .rem => if k = k' ∧ b ≠ 0 then some (.int k (a.tmod b)) else none
 | .and => if k = k' then some (.int k (bits .and k a b)) else none
 | .or => if k = k' then some (.int k (bits .or k a b)) else none
 | .xor => if k = k' then some (.int k (bits .xor k a b)) else none
 | .andNot => if k = k' then some (.int k (bits .andNot k a b)) else none
 | .eql => if k = k' then some (.bool (decide (a = b))) else none
 | .neq => if k = k' then some (.bool (!decide (a = b))) else none
 | .lss => if k = k' then some (.bool (decide (a < b))) else none
 | .leq => if k = k' then some (.bool (decide (a ≤ b))) else none
 | .gtr => if k = k' then some (.bool (decide (b < a))) else none
 | .geq => if k = k' then some (.bool (decide (b ≤ a))) else none
theorem cInt_ok {op : BinOp} {k k' : IntKind} {a b : Int} {v : Value} (h : cInt op k a k' b = some v) : (aInt op k a k' b).1 ∧ (aInt op k a k' b).2 = v := by
 cases op <;> simp only [cInt] at h <;> simp only [aInt] <;> split at h <;> first | (injection h with h; exact ⟨by assumption,h⟩) | cases h
def cStr (op : BinOp) (a b : List UInt8) : Option AV :=
 match op with
 | .add => if a.length + b.length ≤ 1099511627776 then some (.str (a ++ b)) else none
 | .eql => some (.w (.bool (decide (a = b))))
 | .neq => some (.w (.bool (!decide (a = b))))
 | .lss => some (.w (.bool (Op.bytesLess a b)))
 | .leq => some (.w (.bool (Op.bytesLess a b || decide (a = b))))
 | .gtr => some (.w (.bool (!(Op.bytesLess a b || decide (a = b)))))
 | .geq => some (.w (.bool (!(Op.bytesLess a b))))
 | _ => none
theorem cStr_ok {op : BinOp} {a b : List UInt8} {v : AV} (h : cStr op a b = some v) : (aStr op a b).1 ∧ (aStr op a b).2 = v := by
 cases op <;> simp only [cStr] at h <;> simp only [aStr] <;> first | cases h | (split at h <;> first | cases h | (injection h with h; exact ⟨by assumption,h⟩)) | (injection h with h; exact ⟨trivial,h⟩)
 all_goals first | exact ⟨trivial,rfl⟩ | trivial
def cEq (op : BinOp) (r : Bool) : Option (AV × Us) :=
 match op with
 | .eql => some (.w (.bool r),[])
 | .neq => some (.w (.bool (!r)),[])
 | _ => none
include hl in
theorem yfr {op : BinOp} {r : Bool} : Told (aEq op r H) lk (cEq op r) := by
 intro y us h
 cases op <;> simp only [cEq] at h <;> first | cases h | skip
 all_goals (exact ⟨trivial,rfl,hl⟩)
def yfb (T : zab) (t : TypeId) : Bool :=
 match T t with
 | some ti => match ti.d with
  | .ptr => true
  | _ => false
 | none => false
theorem zzi {T : zab} {t : TypeId} (h : yfb T t = true) : isPtr T t := by
 unfold yfb at h; unfold isPtr; split at h
 ·rename_i ti ht; simp only [ht]; split at h
  ·rename_i hd; simp only [hd]
  ·cases h
 ·cases h
def ycg (T : zab) (t : TypeId) : Bool :=
 match T t with
 | some ti => match ti.d with
  | .bool => true
  | _ => false
 | none => false
theorem yil {T : zab} {t : TypeId} (h : ycg T t = true) : isBool T t := by
 unfold ycg at h; unfold isBool; split at h
 ·rename_i ti ht; simp only [ht]; split at h
  ·rename_i hd; simp only [hd]
  ·cases h
 ·cases h
def zmv (T : zab) (t : TypeId) : Bool :=
 match T t with
 | some ti => match ti.d with
  | .struct _ => true
  | _ => false
 | none => false
theorem zzh {T : zab} {t : TypeId} (h : zmv T t = true) : isStruct T t := by
 unfold zmv at h; unfold isStruct; split at h
 ·rename_i ti ht; simp only [ht]; split at h
  ·rename_i hd; simp only [hd]
  ·cases h
 ·cases h
def ceqF (S : TypeId → AV → AV → Option Bool) (T : zab) : List (Nat × TypeId) → List AV → List AV → Option Bool
 | [],_,_ => some true
 | p :: r,xs,ys => match T p.2 with
  | none => none
  | some te => match csub te xs p.1,csub te ys p.1 with
   | some a,some b => match S p.2 a b with
    | some u => match ceqF S T r xs ys with
     | some v => some (u && v)
     | none => none
    | none => none
   | _,_ => none
def ceqV (T : zab) : Nat → TypeId → AV → AV → Option Bool
 | 0,_,_,_ => none
 | n + 1,t,x,y => match T t with
  | none => none
  | some i => match i.d with
   | .int _ => match x,y with
    | .w (.int k1 a),.w (.int k2 b) => if k1 = k2 then some (decide (a = b)) else none
    | _,_ => none
   | .bool => match x,y with
    | .w (.bool a),.w (.bool b) => some (a == b)
    | _,_ => none
   | .str => match x,y with
    | .str a,.str b => some (decide (a = b))
    | _,_ => none
   | .struct fs => match x,y with
    | .agg xs,.agg ys => ceqF (ceqV T n) T fs xs ys
    | _,_ => none
   | _ => none
theorem ynl {T : zab} {S : TypeId → AV → AV → Prop × Bool} {S' : TypeId → AV → AV → Option Bool} (hS : ∀ t x y b,S' t x y = some b → (S t x y).1 ∧ (S t x y).2 = b) :
  ∀ {fs : List (Nat × TypeId)} {xs ys : List AV} {b : Bool},ceqF S' T fs xs ys = some b → (eqF S T fs xs ys).1 ∧ (eqF S T fs xs ys).2 = b
 | [],xs,ys,b,h => by injection h with h; exact ⟨trivial,h⟩
 | p :: r,xs,ys,b,h => by
  unfold ceqF at h
  unfold eqF
  split at h
  ·cases h
  ·rename_i te ht
   simp only [ht]
   split at h
   ·rename_i a c ha hc
    split at h
    ·rename_i u hu
     split at h
     ·rename_i v hv
      injection h with h
      obtain ⟨a1,a2,_⟩ := znx (H := []) ha
      obtain ⟨b1,b2,_⟩ := znx (H := []) hc
      obtain ⟨c1,c2⟩ := hS _ _ _ _ hu
      obtain ⟨d1,d2⟩ := ynl hS hv
      rw [a2,b2]
      exact ⟨⟨a1,b1,c1,d1⟩,by rw [c2,d2,h]⟩
     ·cases h
    ·cases h
   ·cases h
theorem zrf {T : zab} : ∀ (n : Nat) (t : TypeId) (x y : AV) (b : Bool),ceqV T n t x y = some b → (eqV T n t x y).1 ∧ (eqV T n t x y).2 = b
 | 0,t,x,y,b,h => by cases h
 | n + 1,t,x,y,b,h => by
  unfold ceqV at h
  unfold eqV
  split at h
  ·cases h
  ·rename_i i hi
   simp only [hi]
   split at h
   ·rename_i hd
    simp only [hd]
    split at h
    ·split at h
     ·injection h with h; exact ⟨by assumption,h⟩
     ·cases h
    ·cases h
   ·rename_i hd
    simp only [hd]
    split at h
    ·injection h with h; exact ⟨trivial,h⟩
    ·cases h
   ·rename_i hd
    simp only [hd]
    split at h
    ·injection h with h; exact ⟨trivial,h⟩
    ·cases h
   ·rename_i hd
    simp only [hd]
    split at h
    ·exact ynl (zrf n) h
    ·cases h
   ·cases h
def cBin (T : zab) (op : BinOp) (t : TypeId) (x y : AV) (lk : Nat → Option Blk) : Option (AV × Us) :=
 match x,y with
 | .w (.int k a),.w (.int k' b) => (cInt op k a k' b).map fun v => (.w v,[])
 | .str a,.str b => (cStr op a b).map fun v => (v,[])
 | .w (.bool a),.w (.bool b) => bif ycg T t then cEq op (a == b) else none
 | .rf id s _ _,.w (.pointer none) => match lk id with
  | some _ => bif decide (s ≠ 0) && yfb T t then cEq op false else none
  | none => none
 | .w (.pointer none),.w (.pointer none) => bif yfb T t then cEq op true else none
 | .agg xs,.agg ys => match ceqV T 4 t (.agg xs) (.agg ys) with
  | some r => bif zmv T t then cEq op r else none
  | none => none
 | _,_ => none
theorem Told.and {q : Prop} {o : Out} {r : Option (AV × Us)} (h : Told o lk r) (hq : q) : Told (o.and q) lk r := fun x us e => let ⟨a,b,c⟩ := h x us e; ⟨⟨hq,a⟩,b,c⟩
theorem Told.cond {q : Prop} {b : Bool} {o : Out} {r : Option (AV × Us)} (h : Told o lk r) (hq : b = true → q) : Told (o.and q) lk (bif b then r else none) := by
 cases b with
 | true => exact h.and (hq rfl)
 | false => intro x us e; cases e
include hl in
theorem cBin_ok {T : zab} {op : BinOp} {t : TypeId} {x y : AV} : Told (aBin T op t x y H) lk (cBin T op t x y lk) := by
 intro z us h
 unfold cBin at h
 split at h
 ·obtain ⟨v,hv,he⟩ := Option.map_eq_some_iff.1 h
  injection he with h1 h2; subst h1 h2
  obtain ⟨a,b⟩ := cInt_ok hv
  exact ⟨a,by simp only [aBin,b],hl⟩
 ·obtain ⟨v,hv,he⟩ := Option.map_eq_some_iff.1 h
  injection he with h1 h2; subst h1 h2
  obtain ⟨a,b⟩ := cStr_ok hv
  exact ⟨a,b,hl⟩
 ·exact ((yfr hl).cond (q := isBool T t) yil) z us h
 ·rename_i id s _ _
  split at h
  ·rename_i bk hb
   have hb' : look H id = some bk := (hl id).trans hb
   have := ((yfr hl).cond (q := s ≠ 0 ∧ isPtr T t) fun h => by
    simp only [Bool.and_eq_true,decide_eq_true_eq] at h
    exact ⟨h.1,zzi h.2⟩) z us h
   simp only [aBin,hb']
   exact this
  ·cases h
 ·exact ((yfr hl).cond (q := isPtr T t) zzi) z us h
 ·rename_i xs ys
  split at h
  ·rename_i r hr
   obtain ⟨a,b⟩ := zrf _ _ _ _ _ hr
   simp only [aBin]
   rw [b]
   cases hc : zmv T t with
   | true =>
    rw [hc] at h
    exact (yfr hl).and ⟨zzh hc,a⟩ z us h
   | false => rw [hc] at h; cases h
  ·cases h
 ·cases h
def cUn (op : UnOp) (x : AV) : Option (AV × Us) :=
 match op,x with
 | .not,.w (.bool b) => some (.w (.bool (!b)),[])
 | .neg,.w (.int k n) => some (.w (.int k (k.wrap (0 - n))),[])
 | .xor,.w (.int k n) => some (.w (.int k (bits .xor k (bif k.signed then -1 else k.max) n)),[])
 | _,_ => none
include hl in
theorem cUn_ok {op : UnOp} {x : AV} : Told (aUn op x H) lk (cUn op x) := by
 intro y us h
 unfold cUn at h
 unfold aUn
 split at h <;> first | cases h | (injection h with h; injection h with h1 h2; subst h1 h2; exact ⟨trivial,rfl,hl⟩)
 all_goals exact ⟨trivial,rfl,hl⟩
def zza (lk : Nat → Option Blk) (x : AV) : Option (List UInt8) :=
 match x with
 | .sb bs _ => some bs
 | .sg _ [] _ => some []
 | .ms id s off len => match lk id with
  | some (.b bs) => if s = 1 ∧ off + len ≤ bs.length then some ((bs.drop off).take len) else none
  | _ => none
 | _ => none
include hl in
theorem zqz {x : AV} {l : List UInt8} (h : zza lk x = some l) : (zfg H x).1 ∧ (zfg H x).2 = l := by
 unfold zza at h
 unfold zfg
 split at h
 ·injection h with h; exact ⟨trivial,h⟩
 ·injection h with h; exact ⟨trivial,h⟩
 ·rename_i id s off len
  simp only [hl id]
  split at h
  ·rename_i bs hb
   simp only [hb]
   split at h
   ·injection h with h; exact ⟨by assumption,h⟩
   ·cases h
  ·cases h
 ·cases h
def yna (lk : Nat → Option Blk) (x : AV) : Option (List Int) :=
 match x with
 | .si ns _ => some ns
 | .sg _ [] _ => some []
 | .ms id s off len => match lk id with
  | some (.i ns) => if s = 1 ∧ off + len ≤ ns.length then some ((ns.drop off).take len) else none
  | _ => none
 | _ => none
include hl in
theorem ymz {x : AV} {l : List Int} (h : yna lk x = some l) : (zia H x).1 ∧ (zia H x).2 = l := by
 unfold yna at h
 unfold zia
 split at h
 ·injection h with h; exact ⟨trivial,h⟩
 ·injection h with h; exact ⟨trivial,h⟩
 ·rename_i id s off len
  simp only [hl id]
  split at h
  ·rename_i bs hb
   simp only [hb]
   split at h
   ·injection h with h; exact ⟨by assumption,h⟩
   ·cases h
  ·cases h
 ·cases h
def ync (s : Nat) (lk : Nat → Option Blk) (x : AV) : Option (List AV) :=
 match x with
 | .sg s' xs _ => bif xs.isEmpty || decide (s' = s) then some xs else none
 | .ms id s' off len => match lk id with
  | some (.g s'' xs) => if s' = s ∧ s'' = s ∧ off + len ≤ xs.length then some ((xs.drop off).take len) else none
  | _ => none
 | _ => none
include hl in
theorem ynb {s : Nat} {x : AV} {l : List AV} (h : ync s lk x = some l) : (zff s H x).1 ∧ (zff s H x).2 = l := by
 unfold ync at h
 unfold zff
 split at h
 ·rename_i s' xs f
  cases hc : xs.isEmpty || decide (s' = s) with
  | true =>
   rw [hc] at h
   injection h with h
   refine ⟨?_,h⟩
   simp only [Bool.or_eq_true,List.isEmpty_iff,decide_eq_true_eq] at hc
   exact hc
  | false => rw [hc] at h; cases h
 ·rename_i id s off len
  simp only [hl id]
  split at h
  ·rename_i bs hb
   simp only [hb]
   split at h
   ·injection h with h; exact ⟨by assumption,h⟩
   ·cases h
  ·cases h
 ·cases h
def zgj (T : zab) (t : TypeId) : Bool :=
 match T t with
 | some ti => match ti.d with
  | .slice e => match T e with
   | some te => match te.d with
    | .int .u8 => true
    | _ => false
   | none => false
  | _ => false
 | none => false
theorem zli {T : zab} {t : TypeId} (h : zgj T t = true) : isBytes T t := by
 unfold zgj at h; unfold isBytes; split at h
 ·rename_i ti ht; simp only [ht]; split at h
  ·rename_i e hd; simp only [hd]; split at h
   ·rename_i te hte; simp only [hte]; split at h
    ·rename_i hk; simp only [hk]
    ·cases h
   ·cases h
  ·cases h
 ·cases h
def yrn (T : zab) (src dst : TypeId) (nm : Nat) (x : AV) (lk : Nat → Option Blk) : Option (AV × Us) :=
 match T src,T dst with
 | some _,some b => match b.d with
  | .int k => match x with
   | .w (.int _ n) => some (.w (.int k (k.wrap n)),[])
   | _ => none
  | .str => match x with
   | .str bs => some (.str bs,[])
   | _ => bif zgj T src then (zza lk x).map fun l => (.str l,[]) else none
  | .slice _ => match x with
   | .str bs => bif zgj T dst && decide (bs.length ≤ 9223372036854775807) then some (.ms nm 1 0 bs.length,[(nm,some (.b bs))]) else none
   | .ms id s off len => match lk id with
    | some blk => bif zgj T dst && (decide (src = dst) && (decide (0 < blk.len) && decide (blk.size = 1))) then some (.ms id s off len,[(id,some blk)]) else none
    | none => none
   | _ => none
  | _ => none
 | _,_ => none
include hl in
theorem yrm {T : zab} {src dst : TypeId} {nm : Nat} {x : AV} : Told (zlo T src dst nm x H) lk (yrn T src dst nm x lk) := by
 intro y us h
 unfold yrn at h
 unfold zlo
 split at h
 ·rename_i a b ha hb
  simp only [ha,hb]
  split at h
  ·rename_i k hk
   simp only [hk]
   split at h
   ·injection h with h; injection h with h1 h2; subst h1 h2; exact ⟨trivial,rfl,hl⟩
   ·cases h
  ·rename_i hk
   simp only [hk]
   split at h
   ·injection h with h; injection h with h1 h2; subst h1 h2; exact ⟨trivial,rfl,hl⟩
   ·rename_i hx
    split
    ·rename_i bs; exact (hx bs rfl).elim
    ·cases hc : zgj T src with
     | true =>
      rw [hc] at h
      obtain ⟨v,hv,he⟩ := Option.map_eq_some_iff.1 h
      injection he with h1 h2; subst h1 h2
      obtain ⟨p,q⟩ := zqz hl hv
      exact ⟨⟨zli hc,p⟩,by simp only [q],hl⟩
     | false => rw [hc] at h; cases h
  ·rename_i e hk
   simp only [hk]
   split at h
   ·rename_i bs
    cases hc : (zgj T dst && decide (bs.length ≤ 9223372036854775807)) with
    | true =>
     rw [hc] at h
     injection h with h; injection h with h1 h2; subst h1 h2
     simp only [Bool.and_eq_true,decide_eq_true_eq] at hc
     exact ⟨⟨zli hc.1,hc.2⟩,rfl,fun id => zao hl id⟩
    | false => rw [hc] at h; cases h
   ·rename_i id s off len
    simp only [hl id]
    split at h
    ·rename_i blk hbk
     simp only [hbk]
     cases hc : (zgj T dst && (decide (src = dst) && (decide (0 < blk.len) && decide (blk.size = 1)))) with
     | true =>
      rw [hc] at h
      injection h with h; injection h with h1 h2; subst h1 h2
      simp only [Bool.and_eq_true,decide_eq_true_eq] at hc
      exact ⟨⟨zli hc.1,hc.2⟩,rfl,fun id => zao hl id⟩
     | false => rw [hc] at h; cases h
    ·cases h
   ·cases h
  ·cases h
 ·cases h
end
end Ax
end Go.Proofs.Ytebacgkeoefnkaa
