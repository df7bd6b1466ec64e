/- What the proofs of this seat stand on; it asks nothing. -/
import Derived.Test.YtebacgkeoefnkaaZa13
set_option linter.unusedSimpArgs false
set_option linter.unusedVariables false
namespace Go.Proofs.Ytebacgkeoefnkaa
open Ax
def vlS : zas
 | [.sg 6 xs f,.w (.int .i64 g)],[] => ⟨xs.length ≤ 9223372036854775807 ∧ isBs xs,.w (.bool true),[]⟩
 | _,_ => zcj
def zfz (f : FuncId) : Option zas :=
 match f with
 | 8 => some yesS
 | 7 => some yhs
 | 18 => some zpm
 | 12 => some (bldS apE srA)
 | 19 => some yfa
 | 20 => some zky
 | 21 => some yek
 | _ => none
theorem yrq : Fns Try.prog zfz := by
 intro f s h
 unfold zfz at h
 split at h
 ·injection h with h; subst h; exact ⟨⟨_,Try.func8,by kernel_rfl,by kernel_rfl⟩,ycu⟩
 ·injection h with h; subst h; exact ⟨⟨_,Try.func7,by kernel_rfl,by kernel_rfl⟩,yhr⟩
 ·injection h with h; subst h; exact ⟨⟨_,Try.func18,by kernel_rfl,by kernel_rfl⟩,zwy⟩
 ·injection h with h; subst h; exact ⟨⟨_,Try.func12,by kernel_rfl,by kernel_rfl⟩,yit⟩
 ·injection h with h; subst h; exact ⟨⟨_,Try.func19,by kernel_rfl,by kernel_rfl⟩,yce⟩
 ·injection h with h; subst h; exact ⟨⟨_,Try.func20,by kernel_rfl,by kernel_rfl⟩,zof⟩
 ·injection h with h; subst h; exact ⟨⟨_,Try.func21,by kernel_rfl,by kernel_rfl⟩,ybt⟩
 ·cases h
def vlPl : Plan := fun id => match id with
 | 11 => some [(9,10),(9,11),(9,13),(9,14)]
 | 21 => some []
 | 22 => some [(5,6),(5,7)]
 | _ => none
theorem ysk (m : KM) (k : List UInt8) : (ixK k m 0 = none ∧ (gtK m k).getD 0 = 0) ∨ ∃ q,ixK k m 0 = some q ∧ (gtK m k).getD 0 = q.2 := by
 unfold gtK
 cases h : ixK k m 0 with
 | none => exact .inl ⟨rfl,rfl⟩
 | some q => exact .inr ⟨q,rfl,rfl⟩
theorem cntT (l : List Bat) (es : List (Bat × Bool)) (i : Nat) (h : i < es.length) : (zbc ((es.take (i + 1)).map Prod.fst)).countP (zca l) = (zbc ((es.take i).map Prod.fst)).countP (zca l) + (offL es[i].1).countP (zca l) := by
 rw [List.take_succ_eq_append_getElem h,List.map_append]
 unfold zbc
 rw [List.flatMap_append,List.countP_append]
 simp
theorem cntK (l : List Bat) (x : Bat) (k : Nat) (h : k < x.rs.length) : ((offL x).take (k + 1)).countP (zca l) = ((offL x).take k).countP (zca l) + if zca l (offI x.b x.rs[k].d,x.rs[k]) = true then 1 else 0 := by
 have h' : k < (offL x).length := by unfold offL; rw [List.length_map]; exact h
 have e : (offL x)[k] = (offI x.b x.rs[k].d,x.rs[k]) := by simp [offL]
 rw [List.take_succ_eq_append_getElem h',List.countP_append,List.countP_singleton,e]
section
set_option maxRecDepth 100000
set_option maxHeartbeats 32000000 in
theorem vl_law : zbg Try.prog 4 vlS := by
 refine zmo (S := zfz) (T := ty) (pl := vlPl) mixed ty_ok yrq Try.func4 (c := Try.f4.body.getD .skip) (by kernel_rfl) (by kernel_rfl) (fun xs pins hp _ => ?_)
 unfold vlS at hp ⊢
 split at hp
 ·rename_i xs f g _
  obtain ⟨hL,es,rfl,he⟩ := hp
  rw [List.length_map] at hL
  have hle : (es.map bvp).length = es.length := by simp
  have hxe : isBs (es.map bvp) := ⟨es,rfl,he⟩
  have hc3 : ∀ f,coe ty 28 (.sg 6 (es.map bvp) f) = .sg 6 (es.map bvp) f := fun f => by cases es <;> rfl
  refine ⟨by simp,?_⟩
  unfold Try.f4
  by_cases h3 : (es.length : Int) ≤ 12 ∧ ∀ b ∈ es.map Prod.fst,zkc b
  ·have d3 : decide ((es.length : Int) ≤ 12 ∧ ∀ b ∈ es.map Prod.fst,zkc b) = true := decide_eq_true h3
   have hE12 : es.length ≤ 12 := by have := h3.1; omega
   have hE40 : ∀ p ∈ es,p.1.rs.length ≤ 40 := fun p hp => (h3.2 p.1 (List.mem_map.2 ⟨p,hp,rfl⟩)).1
   cases hri : zwx 0 (es.map Prod.fst) with
   | false =>
    simp only [go_sem,zad,↓reduceIte,lcT,ty,zfz,vlPl,yesS,yhs,zpm,hL,hle,hxe,zcl,hc3,d3,hri]
    exact zeq 4 rfl
   | true =>
    have hrise := (zww _ _).1 hri
    obtain ⟨l,hl⟩ : ∃ l,es.map Prod.fst = l := ⟨_,rfl⟩
    have hl40 : ∀ x ∈ l,x.rs.length ≤ 40 := fun x hx => by
     rw [← hl] at hx
     obtain ⟨q,hq,rfl⟩ := List.mem_map.1 hx
     exact hE40 q hq
    have hll : l.length = es.length := by rw [← hl,List.length_map]
    rw [hl] at hrise
    obtain ⟨m,g1,hB⟩ := built hrise hl40 (by omega)
    have hrc : zhl 0 (clnL l (-1) g) := by rw [zrc]; exact zus _ _ _ l 0 hrise
    have hcl40 : ∀ x ∈ clnL l (-1) g,x.rs.length ≤ 40 := by
     refine yey (zda l) (-1) g (fun x => x.rs.length ≤ 40) (fun x hx => ?_) l [] hl40 (by simp)
     exact Nat.le_trans (List.length_filter_le _ _) hx
    have hcll := yrc l (-1) g
    obtain ⟨m2,g2,hB2⟩ := built hrc hcl40 (by omega)
    rw [ypl g hrise] at hB2
    have hcount := yhe hrise
    have hRl := yjt l
    have hol := zuy l hl40
    have hrl : ∀ x ∈ zmc l,(gtK (zda l) x.k).getD 0 = x.o := fun x hx => ypm hrise hx
    have hgs : ∀ x ∈ l,∀ r ∈ x.rs,r.k = true → (gtK (zda l) r.key).getD 0 = offI x.b r.d → getV r.key (zmc l) = if r.dd = true then none else some ⟨r.key,r.val,offI x.b r.d,r.t⟩ := fun x hx r hr hk ha => yqj hrise (ydy hx hr) hk ha
    obtain ⟨R,hR⟩ : ∃ R,zmc l = R := ⟨_,rfl⟩
    rw [hR] at hB hB2 hcount hRl hrl hgs
    have hR6 : R.length ≤ 1000000 := by omega
    have hRe : (R.map vrA).length = R.length := by simp
    have hRy : ∃ q : List VR,R.map vrA = q.map vrA := ⟨R,rfl⟩
    have hxb : ∃ q : List (Bat × Bool),es.map bvp = q.map bvp ∧ ∀ p ∈ q,p.1.rs.length ≤ 1000000 := ⟨es,rfl,fun p hp => by have := hE40 p hp; omega⟩
    have hE6 : es.length ≤ 1000000 := by omega
    obtain ⟨C,hC⟩ : ∃ C,clnL l (-1) g = C := ⟨_,rfl⟩
    rw [hC] at hB2 hcll hcl40
    have hbP : ∀ h,bldS apE srA [.sg 6 (es.map bvp) h] [] = ⟨True,.tup [.agg [.w (.int .i64 m),.sg 4 (R.map vrA) g1],.w (.int .i64 0)],[]⟩ := fun h => by
     show (⟨(es.map bvp).length ≤ 12 ∧ ∃ q : List (Bat × Bool),es.map bvp = q.map bvp ∧ ∀ p ∈ q,p.1.rs.length ≤ 40,bldG apE srA ((es.map bvp).map ubat) 0 [] true,[]⟩ : Res) = _
     rw [zcl,hl,hB,hle,eq_true (show es.length ≤ 12 ∧ ∃ q : List (Bat × Bool),es.map bvp = q.map bvp ∧ ∀ p ∈ q,p.1.rs.length ≤ 40 from ⟨hE12,es,rfl,hE40⟩)]; rfl
    have hbC : ∀ h,bldS apE srA [.sg 6 (bfr C) h] [] = ⟨True,.tup [.agg [.w (.int .i64 m2),.sg 4 (R.map vrA) g2],.w (.int .i64 0)],[]⟩ := fun h => by
     show (⟨(bfr C).length ≤ 12 ∧ ∃ q : List (Bat × Bool),bfr C = q.map bvp ∧ ∀ p ∈ q,p.1.rs.length ≤ 40,bldG apE srA ((bfr C).map ubat) 0 [] true,[]⟩ : Res) = _
     rw [ypf,hB2,yla,eq_true (show C.length ≤ 12 ∧ ∃ q : List (Bat × Bool),bfr C = q.map bvp ∧ ∀ p ∈ q,p.1.rs.length ≤ 40 from ⟨by omega,C.map offB,rfl,fun p hp => by
      obtain ⟨x,hx,rfl⟩ := List.mem_map.1 hp
      exact hcl40 x hx⟩)]; rfl
    have hcs : ∀ h,yfa [.sg 6 (es.map bvp) h,.w (.int .i64 (-1)),.w (.int .i64 g)] [] = ⟨True,.sg 6 (bfr C) false,[]⟩ := fun h => by
     show (⟨(es.map bvp).length ≤ 1000000 ∧ ∃ q : List (Bat × Bool),es.map bvp = q.map bvp ∧ ∀ p ∈ q,p.1.rs.length ≤ 1000000,.sg 6 (bfr (clnL ((es.map bvp).map ubat) (-1) g)) false,[]⟩ : Res) = _
     rw [zcl,hl,hC,hle,eq_true (show es.length ≤ 1000000 ∧ ∃ q : List (Bat × Bool),es.map bvp = q.map bvp ∧ ∀ p ∈ q,p.1.rs.length ≤ 1000000 from ⟨hE6,hxb⟩)]
    have hcC : ∀ h,coe ty 28 (.sg 6 (bfr C) h) = .sg 6 (bfr C) h := fun h => by cases C <;> rfl
    have hcR : ∀ f,coe ty 33 (.sg 4 (R.map vrA) f) = .sg 4 (R.map vrA) f := fun f => by cases R <;> rfl
    have hRR : decide ((R.length : Int) = R.length) = true := decide_eq_true rfl
    simp only [go_sem,zad,↓reduceIte,lcT,ty,zfz,vlPl,yesS,yhs,zpm,hL,hle,hxe,zcl,hc3,hcC,d3,hri,hbP,hbC,hcs,hRe,hRR,zdm,zny]
    refine zea ⟨fun mm σ => ∃ i : Nat,mm = R.length - i ∧ i ≤ R.length ∧
      σ = ⟨[.sg 6 (es.map bvp) f,.junk,.junk,.junk,.junk,.rf 4 2 0 0,.junk,.rf 5 2 0 0,.junk,.w (.int .i64 i),.junk,.junk,.junk,.junk,.junk,.junk,.junk,.junk,.junk,.junk,.junk,.junk,.junk,.junk,.junk,.junk,.junk,.junk,.junk,.junk,.junk,.junk,.junk,.junk,.junk,.junk,.junk,.junk,.junk,.junk,.junk,.junk,.junk,.junk,.junk,.junk,.junk,.junk,.junk,.junk,.junk,.junk,.junk,.junk,.junk,.junk,.junk,.junk,.junk,.junk,.junk,.junk,.junk,.junk,.junk,.junk,.junk,.junk,.junk,.junk,.junk,.junk,.junk,.junk,.junk,.junk,.junk,.junk,.junk,.junk,.junk,.junk,.junk,.junk,.junk,.junk,.junk,.junk,.junk,.junk,.junk,.junk,.junk,.junk,.junk,.junk,.junk,.junk,.junk,.junk,.junk,.junk,.junk,.junk,.junk,.junk,.junk,.junk,.junk,.junk,.junk,.junk,.junk,.junk,.junk,.junk,.junk,.junk,.junk,.junk,.junk,.junk,.junk,.junk,.junk,.junk,.junk,.junk,.junk,.junk,.junk,.junk,.junk,.junk,.junk,.junk,.junk,.junk,.junk,.junk,.junk,.junk,.junk,.junk,.junk,.junk,.junk,.junk,.junk,.junk,.junk,.junk,.junk,.junk,.junk,.junk,.junk,.junk,.junk,.junk,.junk,.junk,.junk,.junk,.junk,.junk,.junk,.junk,.junk,.junk,.junk,.junk],[(4,.g 2 [.agg [.w (.int .i64 m),.sg 4 (R.map vrA) g1]]),(5,.g 2 [.agg [.w (.int .i64 m2),.sg 4 (R.map vrA) g2]])],6⟩,?_,?_⟩
    ·refine ⟨_,_,zaf [0,1,2,3,116,196] rfl rfl rfl ?_ ?_,0,rfl,by omega,rfl⟩
     ·simp only [ssT,zai,zaj,setSlot,gOf,AV.ren,renL,Blk.ren,Ax.look,Ax.put,reduceCtorEq,↓reduceIte,Nat.reduceEqDiff,Nat.reduceLT,Nat.reduceAdd,List.length_append,List.length_cons,List.length_nil,Option.some.injEq]; try simp
     ·simp only [ssT,zai,zaj,setSlot,gOf,AV.ren,renL,Blk.ren,Ax.look,Ax.put,reduceCtorEq,↓reduceIte,Nat.reduceEqDiff,Nat.reduceLT,Nat.reduceAdd,List.length_append,List.length_cons,List.length_nil,Option.some.injEq,zdb]; try simp
    ·rintro mm σ ⟨i,rfl,hi,rfl⟩
     have e1 : ((i : Int) + 1 + 9223372036854775808) % 18446744073709551616 - 9223372036854775808 = ((i + 1 : Nat) : Int) := by omega
     by_cases hil : i < R.length
     ·have d4 : decide ((i : Int) < R.length) = true := decide_eq_true (by omega)
      have hs1 := zih R i hil
      have hm1 := hrl R[i] (List.getElem_mem hil)
      obtain ⟨P,hP⟩ : ∃ P,R[i] = P := ⟨_,rfl⟩
      rw [hP] at hs1 hm1
      obtain ⟨k,v,o,t⟩ := P
      have hs1 : slot (R.map vrA) i = .agg [.str k,.str v,.w (.int .i64 o),.w (.int .i64 t)] := hs1
      have hm1 : (gtK (zda l) k).getD 0 = o := hm1
      have q1 : decide (k = k) = true := decide_eq_true rfl
      have q2 : decide (v = v) = true := decide_eq_true rfl
      have q3 : decide (o = o) = true := decide_eq_true rfl
      have q4 : decide (t = t) = true := decide_eq_true rfl
      have hla : ∀ h,zky [.sg 6 (es.map bvp) h] [] = ⟨True,.rf 0 0 0 0,[.o (.mp (kvA (zda l)))]⟩ := fun h => by
       show (⟨(es.map bvp).length ≤ 1000000 ∧ isBs (es.map bvp),.rf 0 0 0 0,[.o (.mp (kvA (zda ((es.map bvp).map ubat))))]⟩ : Res) = _
       rw [zcl,hl,hle,eq_true (show es.length ≤ 1000000 ∧ isBs (es.map bvp) from ⟨hE6,hxe⟩)]
      rcases ysk (zda l) k with ⟨hx,hv⟩ | ⟨q,hx,hv⟩
      ·have dv : decide ((0 : Int) = o) = true := decide_eq_true (by omega)
       simp only [go_sem,zad,↓reduceIte,lcT,ty,zfz,vlPl,hla,hc3,hRe,d4,hs1,e1,q1,q2,q3,q4,zaz,hx,zdh,dv,Bool.and_self,Bool.not_true,Int.toNat_natCast]
       repeat (first | refine And.intro (by omega) ?_ | refine And.intro ⟨by omega,by omega⟩ ?_)
       refine ⟨R.length - (i + 1),_,by omega,zaf [0,1,2,3,4,5] rfl rfl rfl ?_ ?_,i + 1,rfl,by omega,rfl⟩
       ·simp only [ssT,zai,zaj,setSlot,gOf,AV.ren,renL,Blk.ren,Ax.look,Ax.put,reduceCtorEq,↓reduceIte,Nat.reduceEqDiff,Nat.reduceLT,Nat.reduceAdd,List.length_append,List.length_cons,List.length_nil,Option.some.injEq]; try simp
       ·simp only [ssT,zai,zaj,setSlot,gOf,AV.ren,renL,Blk.ren,Ax.look,Ax.put,reduceCtorEq,↓reduceIte,Nat.reduceEqDiff,Nat.reduceLT,Nat.reduceAdd,List.length_append,List.length_cons,List.length_nil,Option.some.injEq,zdb]; try simp
      ·have dv : decide (q.2 = o) = true := decide_eq_true (by omega)
       simp only [go_sem,zad,↓reduceIte,lcT,ty,zfz,vlPl,hla,hc3,hRe,d4,hs1,e1,q1,q2,q3,q4,zaz,hx,zck,dv,Bool.and_self,Bool.not_true,Int.toNat_natCast]
       repeat (first | refine And.intro (by omega) ?_ | refine And.intro ⟨by omega,by omega⟩ ?_)
       refine ⟨R.length - (i + 1),_,by omega,zaf [0,1,2,3,4,5] rfl rfl rfl ?_ ?_,i + 1,rfl,by omega,rfl⟩
       ·simp only [ssT,zai,zaj,setSlot,gOf,AV.ren,renL,Blk.ren,Ax.look,Ax.put,reduceCtorEq,↓reduceIte,Nat.reduceEqDiff,Nat.reduceLT,Nat.reduceAdd,List.length_append,List.length_cons,List.length_nil,Option.some.injEq]; try simp
       ·simp only [ssT,zai,zaj,setSlot,gOf,AV.ren,renL,Blk.ren,Ax.look,Ax.put,reduceCtorEq,↓reduceIte,Nat.reduceEqDiff,Nat.reduceLT,Nat.reduceAdd,List.length_append,List.length_cons,List.length_nil,Option.some.injEq,zdb]; try simp
     ·have d4 : decide ((i : Int) < R.length) = false := decide_eq_false (by omega)
      simp only [go_sem,zad,↓reduceIte,lcT,ty,zfz,vlPl,hRe,d4]
      refine ⟨_,Weak.refl _,?_⟩
      simp only [go_sem,zad,↓reduceIte,lcT,ty,zfz,vlPl,hle]
      clear d4 hil hi e1
      refine zea ⟨fun mm σ => ∃ (i N : Nat),mm = es.length - i ∧ i ≤ es.length ∧ N = (zbc ((es.take i).map Prod.fst)).countP (zca l) ∧
        σ = ⟨[.sg 6 (es.map bvp) f,.junk,.junk,.junk,.junk,.rf 4 2 0 0,.junk,.junk,.junk,.junk,.junk,.w (.int .i64 N),.w (.int .i64 i),.junk,.junk,.junk,.junk,.junk,.junk,.junk,.junk,.junk,.junk,.junk,.junk,.junk,.junk,.junk,.junk,.junk,.junk,.junk,.junk,.junk,.junk,.junk,.junk,.junk,.junk,.junk,.junk,.junk,.junk,.junk,.junk,.junk,.junk,.junk,.junk,.junk,.junk,.junk,.junk,.junk,.junk,.junk,.junk,.junk,.junk,.junk,.junk,.junk,.junk,.junk,.junk,.junk,.junk,.junk,.junk,.junk,.junk,.junk,.junk,.junk,.junk,.junk,.junk,.junk,.junk,.junk,.junk,.junk,.junk,.junk,.junk,.junk,.junk,.junk,.junk,.junk,.junk,.junk,.junk,.junk,.junk,.junk,.junk,.junk,.junk,.junk,.junk,.junk,.junk,.junk,.junk,.junk,.junk,.junk,.junk,.junk,.junk,.junk,.junk,.junk,.junk,.junk,.junk,.junk,.junk,.junk,.junk,.junk,.junk,.junk,.junk,.junk,.junk,.junk,.junk,.junk,.junk,.junk,.junk,.junk,.junk,.junk,.junk,.junk,.junk,.junk,.junk,.junk,.junk,.junk,.junk,.junk,.junk,.junk,.junk,.junk,.junk,.junk,.junk,.junk,.junk,.junk,.junk,.junk,.junk,.junk,.junk,.junk,.junk,.junk,.junk,.junk,.junk,.junk,.junk,.junk,.junk,.junk],[(4,.g 2 [.agg [.w (.int .i64 m),.sg 4 (R.map vrA) g1]])],5⟩,?_,?_⟩
      ·refine ⟨_,_,zaf [0,1,2,3,4] rfl rfl rfl ?_ ?_,0,0,rfl,by omega,rfl,rfl⟩
       ·simp only [ssT,zai,zaj,setSlot,gOf,AV.ren,renL,Blk.ren,Ax.look,Ax.put,reduceCtorEq,↓reduceIte,Nat.reduceEqDiff,Nat.reduceLT,Nat.reduceAdd,List.length_append,List.length_cons,List.length_nil,Option.some.injEq]; try simp
       ·simp only [ssT,zai,zaj,setSlot,gOf,AV.ren,renL,Blk.ren,Ax.look,Ax.put,reduceCtorEq,↓reduceIte,Nat.reduceEqDiff,Nat.reduceLT,Nat.reduceAdd,List.length_append,List.length_cons,List.length_nil,Option.some.injEq,zdb]; try simp
      ·rintro mm σ ⟨i,N0,rfl,hi,hN0,rfl⟩
       have e1 : ((i : Int) + 1 + 9223372036854775808) % 18446744073709551616 - 9223372036854775808 = ((i + 1 : Nat) : Int) := by omega
       by_cases hil : i < es.length
       ·have d4 : decide ((i : Int) < es.length) = true := decide_eq_true (by omega)
        have hs1 := zhk es i hil
        have hct := cntT l es i hil
        have hN40 : N0 ≤ 480 := by
         rw [hN0]
         refine Nat.le_trans List.countP_le_length (Nat.le_trans (zuy _ fun x hx => ?_) ?_)
         ·obtain ⟨q,hq,rfl⟩ := List.mem_map.1 hx
          exact hE40 q (List.mem_of_mem_take hq)
         ·rw [List.length_map,List.length_take]; omega
        have m1 := hE40 es[i] (List.getElem_mem hil)
        have hxm : es[i].1 ∈ l := by rw [← hl]; exact List.mem_map.2 ⟨es[i],List.getElem_mem hil,rfl⟩
        obtain ⟨P,hP⟩ : ∃ P,es[i] = P := ⟨_,rfl⟩
        rw [hP] at hs1 m1 hct hxm
        obtain ⟨⟨b,c,p,e,s,rs⟩,f'⟩ := P
        have hs1 : slot (es.map bvp) i = .agg [.w (.int .i64 b),.w (.int .i64 c),.w (.int .i64 p),.w (.int .i64 e),.w (.int .i64 s),.sg 6 (rs.map rv) f'] := hs1
        simp only at m1 hct hxm
        rw [← hN0] at hct
        have hlr : (rs.map rv).length = rs.length := by simp
        simp only [go_sem,zad,↓reduceIte,lcT,ty,zfz,vlPl,hle,d4]
        repeat (refine And.intro (by omega) ?_)
        refine zea ⟨fun mm σ => ∃ (k N' : Nat),mm = rs.length - k ∧ k ≤ rs.length ∧ N' = N0 + ((offL ⟨b,c,p,e,s,rs⟩).take k).countP (zca l) ∧
          σ = ⟨[.sg 6 (es.map bvp) f,.junk,.junk,.junk,.junk,.rf 4 2 0 0,.junk,.junk,.junk,.junk,.junk,.w (.int .i64 N'),.w (.int .i64 i),.w (.int .i64 k),.junk,.junk,.junk,.junk,.junk,.junk,.junk,.junk,.junk,.junk,.junk,.junk,.junk,.junk,.junk,.junk,.junk,.junk,.junk,.junk,.junk,.junk,.junk,.junk,.junk,.junk,.junk,.junk,.junk,.junk,.junk,.junk,.junk,.junk,.junk,.junk,.junk,.junk,.junk,.junk,.junk,.junk,.junk,.junk,.junk,.junk,.junk,.junk,.junk,.junk,.junk,.junk,.junk,.junk,.junk,.junk,.junk,.junk,.junk,.junk,.junk,.junk,.junk,.junk,.junk,.junk,.junk,.junk,.junk,.junk,.junk,.junk,.junk,.junk,.junk,.junk,.junk,.junk,.junk,.junk,.junk,.junk,.junk,.junk,.junk,.junk,.junk,.junk,.junk,.junk,.junk,.junk,.junk,.junk,.junk,.junk,.junk,.junk,.junk,.junk,.junk,.junk,.junk,.junk,.junk,.junk,.junk,.junk,.junk,.junk,.junk,.junk,.junk,.junk,.junk,.junk,.junk,.junk,.junk,.junk,.junk,.junk,.junk,.junk,.junk,.junk,.junk,.junk,.junk,.junk,.junk,.junk,.junk,.junk,.junk,.junk,.junk,.junk,.junk,.junk,.junk,.junk,.junk,.junk,.junk,.junk,.junk,.junk,.junk,.junk,.junk,.junk,.junk,.junk,.junk,.junk,.junk,.junk],[(4,.g 2 [.agg [.w (.int .i64 m),.sg 4 (R.map vrA) g1]])],5⟩,?_,?_⟩
        ·refine ⟨_,_,zaf [0,1,2,3,4] rfl rfl rfl ?_ ?_,0,N0,rfl,by omega,by simp,rfl⟩
         ·simp only [ssT,zai,zaj,setSlot,gOf,AV.ren,renL,Blk.ren,Ax.look,Ax.put,reduceCtorEq,↓reduceIte,Nat.reduceEqDiff,Nat.reduceLT,Nat.reduceAdd,List.length_append,List.length_cons,List.length_nil,Option.some.injEq]; try simp
         ·simp only [ssT,zai,zaj,setSlot,gOf,AV.ren,renL,Blk.ren,Ax.look,Ax.put,reduceCtorEq,↓reduceIte,Nat.reduceEqDiff,Nat.reduceLT,Nat.reduceAdd,List.length_append,List.length_cons,List.length_nil,Option.some.injEq,zdb]; try simp
        ·rintro mm σ ⟨k,N,rfl,hk,hN,rfl⟩
         have e2 : ((k : Int) + 1 + 9223372036854775808) % 18446744073709551616 - 9223372036854775808 = ((k + 1 : Nat) : Int) := by omega
         by_cases hkl : k < rs.length
         ·have d5 : decide ((k : Int) < rs.length) = true := decide_eq_true (by omega)
          have hNle : N ≤ 1000 := by
           rw [hN]
           have h1 : ((offL ⟨b,c,p,e,s,rs⟩).take k).countP (zca l) ≤ ((offL ⟨b,c,p,e,s,rs⟩).take k).length := List.countP_le_length
           rw [List.length_take] at h1
           omega
          have e3 : ((N : Int) + 1 + 9223372036854775808) % 18446744073709551616 - 9223372036854775808 = ((N + 1 : Nat) : Int) := by omega
          have hs2 := zdj rv rs k hkl
          have hck := cntK l ⟨b,c,p,e,s,rs⟩ k hkl
          have hgx := hgs _ hxm rs[k] (List.getElem_mem hkl)
          simp only at hck
          obtain ⟨r,hr⟩ : ∃ r,rs[k] = r := ⟨_,rfl⟩
          rw [hr] at hs2 hck hgx
          obtain ⟨d,t,kd,key,dd,val⟩ := r
          simp only [rv] at hs2
          have hof : (b + d + 9223372036854775808) % 18446744073709551616 - 9223372036854775808 = offI b d := rfl
          simp only at hck hgx
          obtain ⟨O,hO⟩ : ∃ O,offI b d = O := ⟨_,rfl⟩
          rw [hO] at hof hck hgx
          have bt1 : (false == true) = false := rfl
          have bt2 : (true == false) = false := rfl
          have w1 : decide (val = val) = true := decide_eq_true rfl
          have w2 : decide (O = O) = true := decide_eq_true rfl
          have w3 : decide (t = t) = true := decide_eq_true rfl
          have hla : ∀ h,zky [.sg 6 (es.map bvp) h] [] = ⟨True,.rf 0 0 0 0,[.o (.mp (kvA (zda l)))]⟩ := fun h => by
           show (⟨(es.map bvp).length ≤ 1000000 ∧ isBs (es.map bvp),.rf 0 0 0 0,[.o (.mp (kvA (zda ((es.map bvp).map ubat))))]⟩ : Res) = _
           rw [zcl,hl,hle,eq_true (show es.length ≤ 1000000 ∧ isBs (es.map bvp) from ⟨hE6,hxe⟩)]
          have hgS : ∀ h,yek [.agg [.w (.int .i64 m),.sg 4 (R.map vrA) h],.str key] [] = ⟨True,getA (getV key R),[]⟩ := fun h => by
           show (⟨(R.map vrA).length ≤ 1000000 ∧ ∃ q : List VR,R.map vrA = q.map vrA,getA (getV key ((R.map vrA).map uvr)),[]⟩ : Res) = _
           rw [zdi,hRe,eq_true (show R.length ≤ 1000000 ∧ ∃ q : List VR,R.map vrA = q.map vrA from ⟨hR6,hRy⟩)]
          have hcR : ∀ f,coe ty 33 (.sg 4 (R.map vrA) f) = .sg 4 (R.map vrA) f := fun f => by cases R <;> rfl
          cases kd with
          | false =>
           have hs0 : zca l (O,⟨d,t,false,key,dd,val⟩) = false := by unfold zca; simp
           rw [hs0] at hck
           have hck2 : N = N0 + ((offL ⟨b,c,p,e,s,rs⟩).take (k + 1)).countP (zca l) := by rw [hck,hN]; simp
           simp only [go_sem,zad,↓reduceIte,lcT,ty,zfz,vlPl,hla,hgS,hc3,hle,hlr,hRe,d4,d5,hs1,hs2,e1,e2,e3,hof,zaz,Int.toNat_natCast,Bool.not_true,Bool.not_false,bt1,bt2,hcR]
           repeat (first | refine And.intro (by omega) ?_ | refine And.intro ⟨by omega,by omega⟩ ?_)
           refine ⟨rs.length - (k + 1),_,by omega,zaf [0,1,2,3,4] rfl rfl rfl ?_ ?_,k + 1,N,rfl,by omega,hck2,rfl⟩
           ·simp only [ssT,zai,zaj,setSlot,gOf,AV.ren,renL,Blk.ren,Ax.look,Ax.put,reduceCtorEq,↓reduceIte,Nat.reduceEqDiff,Nat.reduceLT,Nat.reduceAdd,List.length_append,List.length_cons,List.length_nil,Option.some.injEq]; try simp
           ·simp only [ssT,zai,zaj,setSlot,gOf,AV.ren,renL,Blk.ren,Ax.look,Ax.put,reduceCtorEq,↓reduceIte,Nat.reduceEqDiff,Nat.reduceLT,Nat.reduceAdd,List.length_append,List.length_cons,List.length_nil,Option.some.injEq,zdb]; try simp
          | true =>
           rcases ysk (zda l) key with ⟨hx,hv⟩ | ⟨q,hx,hv⟩
           ·rw [hv] at hgx
            by_cases ha : (0 : Int) = O
            ·have da : decide ((0 : Int) = O) = true := decide_eq_true ha
             have hg := hgx rfl (by omega)
             cases dd with
             | true =>
              have hg : getV key R = none := hg
              have hs0 : zca l (O,⟨d,t,true,key,true,val⟩) = false := by unfold zca; simp
              rw [hs0] at hck
              have hck2 : N = N0 + ((offL ⟨b,c,p,e,s,rs⟩).take (k + 1)).countP (zca l) := by rw [hck,hN]; simp
              simp only [go_sem,zad,↓reduceIte,lcT,ty,zfz,vlPl,hla,hgS,hc3,hle,hlr,hRe,d4,d5,hs1,hs2,e1,e2,e3,hof,zaz,Int.toNat_natCast,Bool.not_true,Bool.not_false,bt1,bt2,hcR,hx,zdh,da,hg,getA]
              repeat (first | refine And.intro (by omega) ?_ | refine And.intro ⟨by omega,by omega⟩ ?_)
              refine ⟨rs.length - (k + 1),_,by omega,zaf [0,1,2,3,4] rfl rfl rfl ?_ ?_,k + 1,N,rfl,by omega,hck2,rfl⟩
              ·simp only [ssT,zai,zaj,setSlot,gOf,AV.ren,renL,Blk.ren,Ax.look,Ax.put,reduceCtorEq,↓reduceIte,Nat.reduceEqDiff,Nat.reduceLT,Nat.reduceAdd,List.length_append,List.length_cons,List.length_nil,Option.some.injEq]; try simp
              ·simp only [ssT,zai,zaj,setSlot,gOf,AV.ren,renL,Blk.ren,Ax.look,Ax.put,reduceCtorEq,↓reduceIte,Nat.reduceEqDiff,Nat.reduceLT,Nat.reduceAdd,List.length_append,List.length_cons,List.length_nil,Option.some.injEq,zdb]; try simp
             | false =>
              have hg : getV key R = some ⟨key,val,O,t⟩ := hg
              have hs0 : zca l (O,⟨d,t,true,key,false,val⟩) = true := by unfold zca; simp; omega
              rw [hs0] at hck
              have hck2 : N + 1 = N0 + ((offL ⟨b,c,p,e,s,rs⟩).take (k + 1)).countP (zca l) := by rw [hck,hN]; simp; omega
              simp only [go_sem,zad,↓reduceIte,lcT,ty,zfz,vlPl,hla,hgS,hc3,hle,hlr,hRe,d4,d5,hs1,hs2,e1,e2,e3,hof,zaz,Int.toNat_natCast,Bool.not_true,Bool.not_false,bt1,bt2,hcR,hx,zdh,da,hg,getA,vrA,w1,w2,w3]
              repeat (first | refine And.intro (by omega) ?_ | refine And.intro ⟨by omega,by omega⟩ ?_)
              refine ⟨rs.length - (k + 1),_,by omega,zaf [0,1,2,3,4] rfl rfl rfl ?_ ?_,k + 1,N + 1,rfl,by omega,hck2,rfl⟩
              ·simp only [ssT,zai,zaj,setSlot,gOf,AV.ren,renL,Blk.ren,Ax.look,Ax.put,reduceCtorEq,↓reduceIte,Nat.reduceEqDiff,Nat.reduceLT,Nat.reduceAdd,List.length_append,List.length_cons,List.length_nil,Option.some.injEq]; try simp
              ·simp only [ssT,zai,zaj,setSlot,gOf,AV.ren,renL,Blk.ren,Ax.look,Ax.put,reduceCtorEq,↓reduceIte,Nat.reduceEqDiff,Nat.reduceLT,Nat.reduceAdd,List.length_append,List.length_cons,List.length_nil,Option.some.injEq,zdb]; try simp
            ·have da : decide ((0 : Int) = O) = false := decide_eq_false ha
             have hs0 : zca l (O,⟨d,t,true,key,dd,val⟩) = false := by unfold zca; simp; omega
             rw [hs0] at hck
             have hck2 : N = N0 + ((offL ⟨b,c,p,e,s,rs⟩).take (k + 1)).countP (zca l) := by rw [hck,hN]; simp
             simp only [go_sem,zad,↓reduceIte,lcT,ty,zfz,vlPl,hla,hgS,hc3,hle,hlr,hRe,d4,d5,hs1,hs2,e1,e2,e3,hof,zaz,Int.toNat_natCast,Bool.not_true,Bool.not_false,bt1,bt2,hcR,hx,zdh,da]
             repeat (first | refine And.intro (by omega) ?_ | refine And.intro ⟨by omega,by omega⟩ ?_)
             refine ⟨rs.length - (k + 1),_,by omega,zaf [0,1,2,3,4] rfl rfl rfl ?_ ?_,k + 1,N,rfl,by omega,hck2,rfl⟩
             ·simp only [ssT,zai,zaj,setSlot,gOf,AV.ren,renL,Blk.ren,Ax.look,Ax.put,reduceCtorEq,↓reduceIte,Nat.reduceEqDiff,Nat.reduceLT,Nat.reduceAdd,List.length_append,List.length_cons,List.length_nil,Option.some.injEq]; try simp
             ·simp only [ssT,zai,zaj,setSlot,gOf,AV.ren,renL,Blk.ren,Ax.look,Ax.put,reduceCtorEq,↓reduceIte,Nat.reduceEqDiff,Nat.reduceLT,Nat.reduceAdd,List.length_append,List.length_cons,List.length_nil,Option.some.injEq,zdb]; try simp
           ·rw [hv] at hgx
            by_cases ha : q.2 = O
            ·have da : decide (q.2 = O) = true := decide_eq_true ha
             have hg := hgx rfl (by omega)
             cases dd with
             | true =>
              have hg : getV key R = none := hg
              have hs0 : zca l (O,⟨d,t,true,key,true,val⟩) = false := by unfold zca; simp
              rw [hs0] at hck
              have hck2 : N = N0 + ((offL ⟨b,c,p,e,s,rs⟩).take (k + 1)).countP (zca l) := by rw [hck,hN]; simp
              simp only [go_sem,zad,↓reduceIte,lcT,ty,zfz,vlPl,hla,hgS,hc3,hle,hlr,hRe,d4,d5,hs1,hs2,e1,e2,e3,hof,zaz,Int.toNat_natCast,Bool.not_true,Bool.not_false,bt1,bt2,hcR,hx,zck,da,hg,getA]
              repeat (first | refine And.intro (by omega) ?_ | refine And.intro ⟨by omega,by omega⟩ ?_)
              refine ⟨rs.length - (k + 1),_,by omega,zaf [0,1,2,3,4] rfl rfl rfl ?_ ?_,k + 1,N,rfl,by omega,hck2,rfl⟩
              ·simp only [ssT,zai,zaj,setSlot,gOf,AV.ren,renL,Blk.ren,Ax.look,Ax.put,reduceCtorEq,↓reduceIte,Nat.reduceEqDiff,Nat.reduceLT,Nat.reduceAdd,List.length_append,List.length_cons,List.length_nil,Option.some.injEq]; try simp
              ·simp only [ssT,zai,zaj,setSlot,gOf,AV.ren,renL,Blk.ren,Ax.look,Ax.put,reduceCtorEq,↓reduceIte,Nat.reduceEqDiff,Nat.reduceLT,Nat.reduceAdd,List.length_append,List.length_cons,List.length_nil,Option.some.injEq,zdb]; try simp
             | false =>
              have hg : getV key R = some ⟨key,val,O,t⟩ := hg
              have hs0 : zca l (O,⟨d,t,true,key,false,val⟩) = true := by unfold zca; simp; omega
              rw [hs0] at hck
              have hck2 : N + 1 = N0 + ((offL ⟨b,c,p,e,s,rs⟩).take (k + 1)).countP (zca l) := by rw [hck,hN]; simp; omega
              simp only [go_sem,zad,↓reduceIte,lcT,ty,zfz,vlPl,hla,hgS,hc3,hle,hlr,hRe,d4,d5,hs1,hs2,e1,e2,e3,hof,zaz,Int.toNat_natCast,Bool.not_true,Bool.not_false,bt1,bt2,hcR,hx,zck,da,hg,getA,vrA,w1,w2,w3]
              repeat (first | refine And.intro (by omega) ?_ | refine And.intro ⟨by omega,by omega⟩ ?_)
              refine ⟨rs.length - (k + 1),_,by omega,zaf [0,1,2,3,4] rfl rfl rfl ?_ ?_,k + 1,N + 1,rfl,by omega,hck2,rfl⟩
              ·simp only [ssT,zai,zaj,setSlot,gOf,AV.ren,renL,Blk.ren,Ax.look,Ax.put,reduceCtorEq,↓reduceIte,Nat.reduceEqDiff,Nat.reduceLT,Nat.reduceAdd,List.length_append,List.length_cons,List.length_nil,Option.some.injEq]; try simp
              ·simp only [ssT,zai,zaj,setSlot,gOf,AV.ren,renL,Blk.ren,Ax.look,Ax.put,reduceCtorEq,↓reduceIte,Nat.reduceEqDiff,Nat.reduceLT,Nat.reduceAdd,List.length_append,List.length_cons,List.length_nil,Option.some.injEq,zdb]; try simp
            ·have da : decide (q.2 = O) = false := decide_eq_false ha
             have hs0 : zca l (O,⟨d,t,true,key,dd,val⟩) = false := by unfold zca; simp; omega
             rw [hs0] at hck
             have hck2 : N = N0 + ((offL ⟨b,c,p,e,s,rs⟩).take (k + 1)).countP (zca l) := by rw [hck,hN]; simp
             simp only [go_sem,zad,↓reduceIte,lcT,ty,zfz,vlPl,hla,hgS,hc3,hle,hlr,hRe,d4,d5,hs1,hs2,e1,e2,e3,hof,zaz,Int.toNat_natCast,Bool.not_true,Bool.not_false,bt1,bt2,hcR,hx,zck,da]
             repeat (first | refine And.intro (by omega) ?_ | refine And.intro ⟨by omega,by omega⟩ ?_)
             refine ⟨rs.length - (k + 1),_,by omega,zaf [0,1,2,3,4] rfl rfl rfl ?_ ?_,k + 1,N,rfl,by omega,hck2,rfl⟩
             ·simp only [ssT,zai,zaj,setSlot,gOf,AV.ren,renL,Blk.ren,Ax.look,Ax.put,reduceCtorEq,↓reduceIte,Nat.reduceEqDiff,Nat.reduceLT,Nat.reduceAdd,List.length_append,List.length_cons,List.length_nil,Option.some.injEq]; try simp
             ·simp only [ssT,zai,zaj,setSlot,gOf,AV.ren,renL,Blk.ren,Ax.look,Ax.put,reduceCtorEq,↓reduceIte,Nat.reduceEqDiff,Nat.reduceLT,Nat.reduceAdd,List.length_append,List.length_cons,List.length_nil,Option.some.injEq,zdb]; try simp
         ·have d5 : decide ((k : Int) < rs.length) = false := decide_eq_false (by omega)
          have htk : (offL ⟨b,c,p,e,s,rs⟩).take k = offL ⟨b,c,p,e,s,rs⟩ := List.take_of_length_le (by unfold offL; rw [List.length_map]; simp only; omega)
          rw [htk,← hct] at hN
          simp only [go_sem,zad,↓reduceIte,lcT,ty,zfz,vlPl,hle,hlr,d4,d5,hs1,e1,Int.toNat_natCast]
          repeat (first | refine And.intro (by omega) ?_ | refine And.intro ⟨by omega,by omega⟩ ?_)
          repeat (refine ⟨_,Weak.refl _,?_⟩; simp only [go_sem,zad,↓reduceIte,lcT,ty,zfz,vlPl,hle,e1])
          refine ⟨es.length - (i + 1),_,by omega,zaf [0,1,2,3,4] rfl rfl rfl ?_ ?_,i + 1,N,rfl,by omega,hN,rfl⟩
          ·simp only [ssT,zai,zaj,setSlot,gOf,AV.ren,renL,Blk.ren,Ax.look,Ax.put,reduceCtorEq,↓reduceIte,Nat.reduceEqDiff,Nat.reduceLT,Nat.reduceAdd,List.length_append,List.length_cons,List.length_nil,Option.some.injEq]; try simp
          ·simp only [ssT,zai,zaj,setSlot,gOf,AV.ren,renL,Blk.ren,Ax.look,Ax.put,reduceCtorEq,↓reduceIte,Nat.reduceEqDiff,Nat.reduceLT,Nat.reduceAdd,List.length_append,List.length_cons,List.length_nil,Option.some.injEq,zdb]; try simp
       ·have d4 : decide ((i : Int) < es.length) = false := decide_eq_false (by omega)
        have htk : es.take i = es := List.take_of_length_le (by omega)
        rw [htk,hl,hcount] at hN0
        subst hN0
        simp only [go_sem,zad,↓reduceIte,lcT,ty,zfz,vlPl,hle,d4]
        refine ⟨_,Weak.refl _,?_⟩
        simp only [go_sem,zad,↓reduceIte,lcT,ty,zfz,vlPl,yesS,hRe,hRR]
        exact zeq 4 rfl
  ·have d3 : decide ((es.length : Int) ≤ 12 ∧ ∀ b ∈ es.map Prod.fst,zkc b) = false := decide_eq_false h3
   simp only [go_sem,zad,↓reduceIte,lcT,ty,zfz,vlPl,yesS,yhs,hL,hle,hxe,zcl,hc3,d3]
   exact zeq 4 rfl
 ·exact hp.elim
end
theorem yoj {j : Nat} {x : AV} (h : Arg ty (j + 1) 3 x) : ∃ m : Int,x = .w (.int .i64 m) := by
 obtain ⟨i,ls,hi,hs,rfl⟩ := h
 simp only [ty] at hi
 injection hi with hi
 subst hi
 simp only [zon,ty,zrs] at hs
 obtain ⟨m,rfl,w⟩ := hs
 exact ⟨m,rfl⟩
theorem vl_dom {x y : AV} (hx : Arg ty 8 28 x) (hy : Arg ty 8 3 y) : (vlS [x,y] []).p ∧ (vlS [x,y] []).x = .w (.bool true) := by
 obtain ⟨es,h,rfl,hL,hes⟩ := yiw (j := 1) hx
 obtain ⟨g,rfl⟩ := yoj (j := 7) hy
 exact ⟨⟨by rw [List.length_map]; exact hL,es,rfl,hes⟩,rfl⟩
end Go.Proofs.Ytebacgkeoefnkaa
