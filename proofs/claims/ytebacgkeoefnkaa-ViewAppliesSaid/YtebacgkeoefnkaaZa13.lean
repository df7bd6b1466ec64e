/- What the proofs of this seat stand on; it asks nothing. -/
import Derived.Test.YtebacgkeoefnkaaZa12
set_option linter.unusedSimpArgs false
set_option linter.unusedVariables false
namespace Go.Proofs.Ytebacgkeoefnkaa
open Ax
set_option maxRecDepth 100000 in
theorem ybf : zbb Try.prog 8 yesS := yri (by kernel_rfl)
def vapS : zaw
 | [.agg [.w (.int .i64 n),.sg 4 xs f],.agg [.w (.int .i64 b),.w (.int .i64 c),.w (.int .i64 p),.w (.int .i64 e),.w (.int .i64 s),.sg 6 ys g],.sg 6 zs h],[] =>
   ⟨xs.length ≤ 9223372036854775807 ∧ ys.length ≤ 9223372036854775807 ∧ zs.length ≤ 9223372036854775807 ∧ (∃ l : List VR,xs = l.map vrA) ∧ (∃ rs : List Rec,ys = rs.map rv) ∧ isBs zs,.w (.bool true),[]⟩
 | _,_ => zcm
def zyx (f : FuncId) : Option zaw :=
 match f with
 | 8 => some yesS
 | 5 => some zhz
 | 6 => some zdh
 | 7 => some zwr
 | 9 => some zvw
 | 10 => some zsu
 | 11 => some rapS
 | 12 => some (bldS apE srA)
 | 13 => some (bldS dcE dcV)
 | 15 => some zqf
 | 14 => some zoj
 | 16 => some zhs
 | 17 => some zhs
 | _ => none
theorem yoj : Fns Try.prog zyx := by
 intro f s h
 unfold zyx at h
 split at h
 ·injection h with h; subst h; exact ⟨⟨_,Try.func8,by kernel_rfl,by kernel_rfl⟩,ybf⟩
 ·injection h with h; subst h; exact ⟨⟨_,Try.func5,by kernel_rfl,by kernel_rfl⟩,zwg⟩
 ·injection h with h; subst h; exact ⟨⟨_,Try.func6,by kernel_rfl,by kernel_rfl⟩,zlt⟩
 ·injection h with h; subst h; exact ⟨⟨_,Try.func7,by kernel_rfl,by kernel_rfl⟩,yfl⟩
 ·injection h with h; subst h; exact ⟨⟨_,Try.func9,by kernel_rfl,by kernel_rfl⟩,zzr⟩
 ·injection h with h; subst h; exact ⟨⟨_,Try.func10,by kernel_rfl,by kernel_rfl⟩,zqj⟩
 ·injection h with h; subst h; exact ⟨⟨_,Try.func11,by kernel_rfl,by kernel_rfl⟩,zvr⟩
 ·injection h with h; subst h; exact ⟨⟨_,Try.func12,by kernel_rfl,by kernel_rfl⟩,ygj⟩
 ·injection h with h; subst h; exact ⟨⟨_,Try.func13,by kernel_rfl,by kernel_rfl⟩,ygk⟩
 ·injection h with h; subst h; exact ⟨⟨_,Try.func15,by kernel_rfl,by kernel_rfl⟩,zyj⟩
 ·injection h with h; subst h; exact ⟨⟨_,Try.func14,by kernel_rfl,by kernel_rfl⟩,zvi⟩
 ·injection h with h; subst h; exact ⟨⟨_,Try.func16,by kernel_rfl,by kernel_rfl⟩,zsi⟩
 ·injection h with h; subst h; exact ⟨⟨_,Try.func17,by kernel_rfl,by kernel_rfl⟩,zoo⟩
 ·cases h
def yek : Plan := fun id => match id with
 | 8 => some [(8,9),(15,16),(21,22),(32,33)]
 | _ => none
section
set_option maxRecDepth 100000
set_option maxHeartbeats 16000000 in
theorem vap_law : zbb Try.prog 3 vapS := by
 refine zcp (S := zyx) (T := ty) (pl := yek) mixed ty_ok yoj Try.func3 (c := Try.f3.body.getD .skip) (by kernel_rfl) (by kernel_rfl) (fun xs pins hp _ => ?_)
 unfold vapS at hp ⊢
 split at hp
 ·rename_i n xs f b c p e s ys g zs h _
  obtain ⟨hL,hR,hZ,⟨l,rfl⟩,⟨rs,rfl⟩,⟨es,rfl,he⟩⟩ := hp
  rw [List.length_map] at hL hR hZ
  have hlp : (l.map vrA).length = l.length := by simp
  have hlr : (rs.map rv).length = rs.length := by simp
  have hle : (es.map bvp).length = es.length := by simp
  have hxl : ∃ q : List VR,l.map vrA = q.map vrA := ⟨l,rfl⟩
  have hxr : ∃ q : List Rec,rs.map rv = q.map rv := ⟨rs,rfl⟩
  have hxe : isBs (es.map bvp) := ⟨es,rfl,he⟩
  have hc1 : ∀ f,coe ty 33 (.sg 4 (l.map vrA) f) = .sg 4 (l.map vrA) f := fun f => by cases l <;> rfl
  have hc2 : ∀ f,coe ty 22 (.sg 4 (l.map vrA) f) = .sg 4 (l.map vrA) f := fun f => by cases l <;> rfl
  have hc3 : ∀ f,coe ty 28 (.sg 6 (es.map bvp) f) = .sg 6 (es.map bvp) f := fun f => by cases es <;> rfl
  refine ⟨by simp,?_⟩
  unfold Try.f3
  by_cases h1 : zji l
  ·have d1 : decide (zji l) = true := decide_eq_true h1
   have hL6 : l.length ≤ 1000000 := by have := h1.1; omega
   by_cases h2 : rs.length ≤ 40 ∧ ∀ r ∈ rs,zff r
   ·have d2 : decide (rs.length ≤ 40 ∧ ∀ r ∈ rs,zff r) = true := decide_eq_true h2
    have hR4 : rs.length ≤ 40 := h2.1
    have d22 : decide (∀ r ∈ rs,zff r) = true := decide_eq_true h2.2
    by_cases h3 : (es.length : Int) ≤ 12 ∧ ∀ b ∈ es.map Prod.fst,zjj b
    ·have d3 : decide ((es.length : Int) ≤ 12 ∧ ∀ b ∈ es.map Prod.fst,zjj b) = true := decide_eq_true h3
     have hE12 : es.length ≤ 12 := by have := h3.1; omega
     have hE40 : ∀ p ∈ es,p.1.rs.length ≤ 40 := fun p hp => (h3.2 p.1 (List.mem_map.2 ⟨p,hp,rfl⟩)).1
     have hxb : ∃ q : List (Bat × Bool),es.map bvp = q.map bvp ∧ ∀ p ∈ q,p.1.rs.length ≤ 40 := ⟨es,rfl,hE40⟩
     obtain ⟨m,k,fl,E2,hB,hkl⟩ := ydw apE srA zzg (es.map Prod.fst) 0 [] true (fun x hx => by
      obtain ⟨q,hq,rfl⟩ := List.mem_map.1 hx
      exact hE40 q hq)
     rw [List.length_map,List.length_nil] at hkl
     have hk6 : k.length ≤ 1000000 := by omega
     have hk9 : k.length ≤ 9223372036854775807 := by omega
     have hke : (k.map vrA).length = k.length := by simp
     have hky : ∃ q : List VR,k.map vrA = q.map vrA := ⟨k,rfl⟩
     have hbP : ∀ h,bldS apE srA [.sg 6 (es.map bvp) h] [] = ⟨es.length ≤ 12 ∧ ∃ q : List (Bat × Bool),es.map bvp = q.map bvp ∧ ∀ p ∈ q,p.1.rs.length ≤ 40,.tup [.agg [.w (.int .i64 m),.sg 4 (k.map vrA) fl],.w (.int .i64 E2)],[]⟩ := fun h => by
      show (⟨(es.map bvp).length ≤ 12 ∧ ∃ q : List (Bat × Bool),es.map bvp = q.map bvp ∧ ∀ p ∈ q,p.1.rs.length ≤ 40,bldG apE srA ((es.map bvp).map ubat) 0 [] true,[]⟩ : Res) = _
      rw [zdx,hB,hle]; rfl
     have hbD : ∀ h,bldS dcE dcV [.sg 6 (es.map bvp) h] [] = ⟨es.length ≤ 12 ∧ ∃ q : List (Bat × Bool),es.map bvp = q.map bvp ∧ ∀ p ∈ q,p.1.rs.length ≤ 40,.tup [.agg [.w (.int .i64 m),.sg 4 (k.map vrA) fl],.w (.int .i64 E2)],[]⟩ := fun h => by
      show (⟨(es.map bvp).length ≤ 12 ∧ ∃ q : List (Bat × Bool),es.map bvp = q.map bvp ∧ ∀ p ∈ q,p.1.rs.length ≤ 40,bldG dcE dcV ((es.map bvp).map ubat) 0 [] true,[]⟩ : Res) = _
      rw [zdx,ydv,hB,hle]; rfl
     have z1 : ∀ f,coe ty 33 (.sg 4 (k.map vrA) f) = .sg 4 (k.map vrA) f := fun f => by cases k <;> rfl
     have z2 : ∀ f,coe ty 22 (.sg 4 (k.map vrA) f) = .sg 4 (k.map vrA) f := fun f => by cases k <;> rfl
     have hmm : decide (m = m) = true := decide_eq_true rfl
     have hkk : decide (k = k) = true := decide_eq_true rfl
     have hnn : decide (n = n) = true := decide_eq_true rfl
     have hll : decide (l = l) = true := decide_eq_true rfl
     have hee : decide (E2 = E2) = true := decide_eq_true rfl
     obtain ⟨C,hC⟩ : ∃ C,chV n l = C := ⟨_,rfl⟩
     have hCC : decide (C = C) = true := decide_eq_true rfl
     have h00 : decide ((0 : Int) = 0) = true := rfl
     have hap : ∀ f0 f1,zsu [.agg [.w (.int .i64 n),.sg 4 (l.map vrA) f1],.agg [.w (.int .i64 b),.w (.int .i64 c),.w (.int .i64 p),.w (.int .i64 e),.w (.int .i64 s),.sg 6 (rs.map rv) f0]] [] = ⟨l.length ≤ 1000000 ∧ rs.length ≤ 1000000 ∧ (∃ q : List VR,l.map vrA = q.map vrA) ∧ ∃ q : List Rec,rs.map rv = q.map rv,apA n l ⟨b,c,p,e,s,rs⟩,[]⟩ := fun f0 f1 => by
      show (⟨(l.map vrA).length ≤ 1000000 ∧ (rs.map rv).length ≤ 1000000 ∧ (∃ q : List VR,l.map vrA = q.map vrA) ∧ ∃ q : List Rec,rs.map rv = q.map rv,apA n ((l.map vrA).map uvr) ⟨b,c,p,e,s,(rs.map rv).map rrec⟩,[]⟩ : Res) = _
      rw [zau,zam,hlp,hlr]
     have hdp : ∀ f0 f1,rapS [.agg [.w (.int .i64 n),.sg 4 (l.map vrA) f1],.agg [.w (.int .i64 b),.w (.int .i64 c),.w (.int .i64 p),.w (.int .i64 e),.w (.int .i64 s),.sg 6 (rs.map rv) f0]] [] = ⟨l.length ≤ 900000 ∧ rs.length ≤ 40 ∧ (∃ q : List VR,l.map vrA = q.map vrA) ∧ ∃ q : List Rec,rs.map rv = q.map rv,dcA n l f1 ⟨b,c,p,e,s,rs⟩,[]⟩ := fun f0 f1 => by
      show (⟨(l.map vrA).length ≤ 900000 ∧ (rs.map rv).length ≤ 40 ∧ (∃ q : List VR,l.map vrA = q.map vrA) ∧ ∃ q : List Rec,rs.map rv = q.map rv,dcA n ((l.map vrA).map uvr) f1 ⟨b,c,p,e,s,(rs.map rv).map rrec⟩,[]⟩ : Res) = _
      rw [zau,zam,hlp,hlr]
     have hL95 : l.length ≤ 900000 := by have := h1.1; omega
     have hR6 : rs.length ≤ 1000000 := by omega
     by_cases hE : apE n l ⟨b,c,p,e,s,rs⟩ = 0
     ·have a1 : apA n l ⟨b,c,p,e,s,rs⟩ = vwA (nxI b c) (srA l b rs) false 0 := if_pos hE
      have a2 : ∀ f1,dcA n l f1 ⟨b,c,p,e,s,rs⟩ = vwA (nxI b c) (srA l b rs) false 0 := fun f1 => by
       rw [← yqi (ype hE)]; exact if_pos (by rw [yaq]; exact hE)
      have hq0 := zzg l b rs
      obtain ⟨q,hq⟩ : ∃ q,srA l b rs = q := ⟨_,rfl⟩
      simp only [hq] at a1 a2 hq0
      simp only [a1,vwA] at hap
      simp only [a2,vwA] at hdp
      have hq6 : q.length ≤ 1000000 := by have := h1.1; omega
      have hq9 : q.length ≤ 9223372036854775807 := by omega
      have hqe : (q.map vrA).length = q.length := by simp
      have hqy : ∃ r : List VR,q.map vrA = r.map vrA := ⟨q,rfl⟩
      have z3 : ∀ f,coe ty 33 (.sg 4 (q.map vrA) f) = .sg 4 (q.map vrA) f := fun f => by cases q <;> rfl
      have z4 : ∀ f,coe ty 22 (.sg 4 (q.map vrA) f) = .sg 4 (q.map vrA) f := fun f => by cases q <;> rfl
      have hqq : decide (q = q) = true := decide_eq_true rfl
      have hNN : decide (nxI b c = nxI b c) = true := decide_eq_true rfl
      simp only [go_sem,zab,↓reduceIte,lcT,ty,zyx,yek,yesS,zhz,zdh,zwr,zvw,zqf,zoj,zhs,hap,hdp,hbP,hbD,hL,hR,hZ,hL6,hR4,hR6,hL95,hE12,hk6,hk9,hq6,hq9,hlp,hlr,hle,hke,hqe,hxl,hxr,hxe,hxb,hky,hqy,zau,zam,zdx,hc1,hc2,hc3,z1,z2,z3,z4,d1,d2,d22,d3,hC,hCC,hmm,hkk,hnn,hll,hee,hqq,hNN,h00,zan,Bool.and_self]
      exact zbe 6 rfl
     ·have a1 : apA n l ⟨b,c,p,e,s,rs⟩ = vwA 0 [] true (apE n l ⟨b,c,p,e,s,rs⟩) := if_neg hE
      have a2 : ∀ f1,dcA n l f1 ⟨b,c,p,e,s,rs⟩ = vwA n l f1 (apE n l ⟨b,c,p,e,s,rs⟩) := fun f1 => by
       have h := yaq n l ⟨b,c,p,e,s,rs⟩
       unfold dcA
       rw [h,if_neg hE]
      obtain ⟨E,hEE⟩ : ∃ E,apE n l ⟨b,c,p,e,s,rs⟩ = E := ⟨_,rfl⟩
      simp only [hEE] at a1 a2 hE
      simp only [a1,vwA,List.map_nil] at hap
      simp only [a2,vwA] at hdp
      have dE : decide (E = 0) = false := decide_eq_false hE
      have hEq : decide (E = E) = true := decide_eq_true rfl
      simp only [go_sem,zab,↓reduceIte,lcT,ty,zyx,yek,yesS,zhz,zdh,zwr,zvw,zqf,zoj,zhs,hap,hdp,hbP,hbD,hL,hR,hZ,hL6,hR4,hR6,hL95,hE12,hk6,hk9,hlp,hlr,hle,hke,hxl,hxr,hxe,hxb,hky,zau,zam,zdx,hc1,hc2,hc3,z1,z2,d1,d2,d22,d3,dE,hEq,hC,hCC,hmm,hkk,hnn,hll,hee,h00,zan,Bool.and_self]
      exact zbe 6 rfl
    ·have d3 : decide ((es.length : Int) ≤ 12 ∧ ∀ b ∈ es.map Prod.fst,zjj b) = false := decide_eq_false h3
     simp only [go_sem,zab,↓reduceIte,lcT,ty,zyx,yek,yesS,zhz,zdh,zwr,hL,hR,hZ,hlp,hlr,hle,hxl,hxr,hxe,zau,zam,zdx,hc1,hc2,hc3,d1,d2,d3]
     exact zbe 6 rfl
   ·have d2 : decide (rs.length ≤ 40 ∧ ∀ r ∈ rs,zff r) = false := decide_eq_false h2
    simp only [go_sem,zab,↓reduceIte,lcT,ty,zyx,yek,yesS,zhz,zdh,zwr,hL,hR,hZ,hlp,hlr,hle,hxl,hxr,hxe,zau,zam,zdx,hc1,hc2,hc3,d1,d2]
    exact zbe 6 rfl
  ·have d1 : decide (zji l) = false := decide_eq_false h1
   simp only [go_sem,zab,↓reduceIte,lcT,ty,zyx,yek,yesS,zhz,zdh,zwr,hL,hR,hZ,hlp,hlr,hle,hxl,hxr,hxe,zau,zam,zdx,hc1,hc2,hc3,d1]
   exact zbe 6 rfl
 ·exact hp.elim
end
theorem yeg : ∀ xs : List AV,(∀ x ∈ xs,∃ r : VR,x = vrA r) → ∃ l : List VR,xs = l.map vrA
 | [],_ => ⟨[],rfl⟩
 | x :: xs,h => by
  obtain ⟨r,rfl⟩ := h x (List.mem_cons_self ..)
  obtain ⟨l,rfl⟩ := yeg xs (fun y hy => h y (List.mem_cons_of_mem _ hy))
  exact ⟨r :: l,rfl⟩
theorem ygp {j : Nat} {x : AV} (h : Arg ty (j + 7) 24 x) : ∃ (n : Int) (l : List VR) (f : Bool),x = .agg [.w (.int .i64 n),.sg 4 (l.map vrA) f] ∧ l.length ≤ 9223372036854775807 := by
 obtain ⟨i,ls,hi,hs,rfl⟩ := h
 simp only [ty] at hi
 injection hi with hi
 subst hi
 simp only [zmu,ty,znh,zhd] at hs
 obtain ⟨l1,r1,rfl,⟨m1,rfl,w1⟩,l6,r6,rfl,⟨xs,f,rfl,hl,hx⟩,rfl⟩ := hs
 obtain ⟨rs,rfl⟩ := yeg xs (fun x hxm => by
  obtain ⟨l,⟨l1,r1,rfl,⟨m1,rfl,w1⟩,l2,r2,rfl,⟨m2,rfl,w2⟩,l3,r3,rfl,⟨m3,rfl,w3⟩,l4,r4,rfl,⟨m4,rfl,w4⟩,rfl⟩,_,rfl⟩ := hx x hxm
  exact ⟨⟨m1,m2,m3,m4⟩,rfl⟩)
 refine ⟨m1,rs,f,rfl,?_⟩
 rw [List.length_map] at hl
 have : maxLen = 9223372036854775807 := by decide
 omega
theorem zur : ∀ (xs : List AV),(∀ x ∈ xs,∃ r : Rec,x = rv r) → ∃ rs : List Rec,xs = rs.map rv
 | [],_ => ⟨[],rfl⟩
 | x :: xs,h => by
  obtain ⟨r,rfl⟩ := h x (by simp)
  obtain ⟨rs,rfl⟩ := zur xs (fun y hy => h y (by simp [hy]))
  exact ⟨r :: rs,rfl⟩
theorem zyw : ∀ (xs : List AV),(∀ x ∈ xs,∃ p : Bat × Bool,x = bvp p ∧ p.1.rs.length ≤ 9223372036854775807) → ∃ es : List (Bat × Bool),xs = es.map bvp ∧ ∀ p ∈ es,p.1.rs.length ≤ 9223372036854775807
 | [],_ => ⟨[],rfl,by simp⟩
 | x :: xs,h => by
  obtain ⟨p,rfl,hp⟩ := h x (by simp)
  obtain ⟨es,rfl,he⟩ := zyw xs (fun y hy => h y (by simp [hy]))
  refine ⟨p :: es,rfl,?_⟩
  intro q hq
  rcases List.mem_cons.1 hq with rfl | hq
  ·exact hp
  ·exact he q hq
theorem ygq {j : Nat} {x : AV} (h : Arg ty (j + 7) 28 x) : ∃ (es : List (Bat × Bool)) (f : Bool),x = .sg 6 (es.map bvp) f ∧ es.length ≤ 9223372036854775807 ∧ ∀ p ∈ es,p.1.rs.length ≤ 9223372036854775807 := by
 obtain ⟨i,ls,hi,hs,rfl⟩ := h
 simp only [ty] at hi
 injection hi with hi
 subst hi
 simp only [zmu,ty,znh,zhd] at hs
 obtain ⟨xs,f1,rfl,hx,hxs⟩ := hs
 have hm : maxLen = 9223372036854775807 := by decide
 obtain ⟨es,rfl,hes⟩ := zyw xs (fun x hxm => by
  obtain ⟨l,⟨k1,s1,rfl,⟨n1,rfl,v1⟩,k2,s2,rfl,⟨n2,rfl,v2⟩,k3,s3,rfl,⟨n3,rfl,v3⟩,k4,s4,rfl,⟨n4,rfl,v4⟩,k5,s5,rfl,⟨n5,rfl,v5⟩,k6,s6,rfl,⟨ys,f,rfl,hl,hy⟩,rfl⟩,_,rfl⟩ := hxs x hxm
  obtain ⟨rs,rfl⟩ := zur ys (fun y hym => by
   obtain ⟨l,⟨l1,r1,rfl,⟨m1,rfl,w1⟩,l2,r2,rfl,⟨m2,rfl,w2⟩,l3,r3,rfl,⟨m3,rfl⟩,l4,r4,rfl,⟨m4,rfl,w4⟩,l5,r5,rfl,⟨m5,rfl⟩,l6,r6,rfl,⟨m6,rfl,w6⟩,rfl⟩,_,rfl⟩ := hy y hym
   exact ⟨⟨m1,m2,m3,m4,m5,m6⟩,rfl⟩)
  rw [List.length_map] at hl
  exact ⟨⟨⟨n1,n2,n3,n4,n5,rs⟩,f⟩,rfl,by simp only; omega⟩)
 rw [List.length_map] at hx
 exact ⟨es,f1,rfl,by omega,hes⟩
theorem ylo {j : Nat} {x : AV} (h : Arg ty (j + 7) 27 x) : ∃ (b : Bat) (f : Bool),x = bav b f ∧ b.rs.length ≤ 9223372036854775807 := by
 obtain ⟨i,ls,hi,hs,rfl⟩ := h
 simp only [ty] at hi
 injection hi with hi
 subst hi
 simp only [zmu,ty,znh,zhd] at hs
 obtain ⟨l1,r1,rfl,⟨m1,rfl,w1⟩,l2,r2,rfl,⟨m2,rfl,w2⟩,l3,r3,rfl,⟨m3,rfl,w3⟩,l4,r4,rfl,⟨m4,rfl,w4⟩,l5,r5,rfl,⟨m5,rfl,w5⟩,l6,r6,rfl,⟨xs,f,rfl,hl,hx⟩,rfl⟩ := hs
 obtain ⟨rs,rfl⟩ := zur xs (fun x hxm => by
  obtain ⟨l,⟨l1,r1,rfl,⟨m1,rfl,w1⟩,l2,r2,rfl,⟨m2,rfl,w2⟩,l3,r3,rfl,⟨m3,rfl⟩,l4,r4,rfl,⟨m4,rfl,w4⟩,l5,r5,rfl,⟨m5,rfl⟩,l6,r6,rfl,⟨m6,rfl,w6⟩,rfl⟩,_,rfl⟩ := hx x hxm
  exact ⟨⟨m1,m2,m3,m4,m5,m6⟩,rfl⟩)
 refine ⟨⟨m1,m2,m3,m4,m5,rs⟩,f,rfl,?_⟩
 rw [List.length_map] at hl
 have : maxLen = 9223372036854775807 := by decide
 show rs.length ≤ _
 omega
theorem vap_dom {x y z : AV} (hx : Arg ty 8 24 x) (hy : Arg ty 8 27 y) (hz : Arg ty 8 28 z) : (vapS [x,y,z] []).p ∧ (vapS [x,y,z] []).x = .w (.bool true) := by
 obtain ⟨n,l,f,rfl,hl⟩ := ygp (j := 1) hx
 obtain ⟨⟨b,c,p,e,s,rs⟩,g,rfl,h3⟩ := ylo (j := 1) hy
 obtain ⟨es,h,rfl,hL,hes⟩ := ygq (j := 1) hz
 exact ⟨⟨by rw [List.length_map]; exact hl,by rw [List.length_map]; exact h3,by rw [List.length_map]; exact hL,⟨l,rfl⟩,⟨rs,rfl⟩,es,rfl,hes⟩,rfl⟩
end Go.Proofs.Ytebacgkeoefnkaa
