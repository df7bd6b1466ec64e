/- What the proofs of this seat stand on; it asks nothing. -/
import Derived.Test.YtioldmhhefhelaaYa10
set_option linter.unusedSimpArgs false
set_option linter.unusedVariables false
namespace Go.Proofs.Ytioldmhhefhelaa
open Ax
theorem zya (A : Mb → Bool) : ∀ (l : List Mb),(l.findIdx A = l.length ∧ l.filter (fun r => !A r) = l) ∨ ∃ (i : Nat) (h : i < l.length),l.findIdx A = i ∧ (l.take i).filter (fun r => !A r) = l.take i ∧ A l[i] = true
 | [] => .inl ⟨rfl,rfl⟩
 | r :: rs => by
  rw [List.findIdx_cons]
  cases h : A r with
  | true => exact .inr ⟨0,by simp,by simp,by simp,h⟩
  | false =>
   rcases zya A rs with ⟨h1,h2⟩ | ⟨i,hi,h1,h2,h3⟩
   ·refine .inl ⟨by simp [h1],?_⟩
    rw [List.filter_cons,h]
    simp only [Bool.not_false,if_true,h2]
   ·refine .inr ⟨i + 1,by simp; omega,by simp [h1],?_,by simpa using h3⟩
    rw [List.take_succ_cons,List.filter_cons,h]
    simp only [Bool.not_false,if_true,h2]
def zdz (now pat : Int) (l : List Mb) : List Mb := l.filter (fun m => !tkP now pat m)
def dfTS : zan
 | [.ms 0 3 0 n,.fn id [.rf 1 1 0 0,.rf 2 1 0 0]],[.g 3 xs,.g 1 [.w (.int .i64 now)],.g 1 [.w (.int .i64 pat)]] => ⟨id = 40 ∧ (n = xs.length ∧ 0 < n ∧ n ≤ 1000000) ∧ (∃ l : List Mb,xs = l.map mbA),.ms 0 3 0 (zdz now pat (xs.map umb)).length,[.g 3 ((zdz now pat (xs.map umb) ++ List.replicate (n - (zdz now pat (xs.map umb)).length) zMb).map mbA),.g 1 [.w (.int .i64 now)],.g 1 [.w (.int .i64 pat)]]⟩
 | [.sg 3 [] f0,.fn id [.rf 0 1 0 0,.rf 1 1 0 0]],[.g 1 [.w (.int .i64 now)],.g 1 [.w (.int .i64 pat)]] => ⟨id = 40,.sg 3 [] f0,[.g 1 [.w (.int .i64 now)],.g 1 [.w (.int .i64 pat)]]⟩
 | _,_ => zbg
def zoz (f : FuncId) : Option zan :=
 match f with
 | 40 => some tkS
 | 31 => some ixTS
 | _ => none
theorem ysz : FnsO Try.prog zoz := by
 intro f s h
 unfold zoz at h
 split at h
 ·injection h with h; subst h; exact ⟨⟨_,Try.func40,by kernel_rfl,by kernel_rfl⟩,ycy⟩
 ·injection h with h; subst h; exact ⟨⟨_,Try.func31,by kernel_rfl,by kernel_rfl⟩,ylc⟩
 ·cases h
def ziq : zfi := fun id => match id with
 | 1 => .opn [] 2
 | 8 => .opn [] 2
 | _ => .std
section
set_option maxRecDepth 100000
set_option maxHeartbeats 8000000
theorem ymq : zcx Try.prog 41 dfTS := by
 refine zci (S := noS) (SO := zoz) (T := ty) mixed ty_ok zbh ysz Try.func41 (c := Try.f41.body.getD .skip) (by kernel_rfl) (fun xs pins hp => ?_)
 unfold dfTS at hp ⊢
 split at hp
 ·rename_i n id xs now pat
  obtain ⟨rfl,⟨rfl,hn,hL⟩,l,rfl⟩ := hp
  rw [List.length_map] at hL hn
  have hle : (l.map mbA).length = l.length := by simp
  have hcl := zad l
  have hex : ∃ k : List Mb,l.map mbA = k.map mbA := ⟨l,rfl⟩
  have dpos : decide (0 < l.length) = true := decide_eq_true hn
  rw [zaj,hle]
  unfold zdz
  have hA2 : ∀ r,tkP now pat r = tkP now pat r := fun r => rfl
  obtain ⟨K,hK⟩ : ∃ K,(fun r => !tkP now pat r) = K := ⟨_,rfl⟩
  have hKA : ∀ r,K r = !tkP now pat r := fun r => by rw [← hK]
  have D := zya (tkP now pat) l
  rw [hK] at D ⊢
  refine ⟨by simp,ziq,by kernel_rfl,?_⟩
  unfold Try.f41
  rcases D with ⟨hF,hfl⟩ | ⟨i,hi,hF,htk,hAi⟩
  ·have hx : ixG (tkP now pat) l = -1 := by unfold ixG; rw [hF,if_neg (Nat.lt_irrefl _)]
   have dF : decide ((-1 : Int) = -1) = true := rfl
   have hz : (l ++ List.replicate (l.length - l.length) zMb).map mbA = l.map mbA := by rw [Nat.sub_self,List.replicate_zero,List.append_nil]
   rw [hfl,hz]
   simp (config := { maxSteps := 3000000 }) only [go_sem,zaa,↓reduceIte,lcT,ty,noS,zoz,ziq,tkS,ixTS,hle,hcl,dpos,hn,hL,hex,zaj,zaf,zad,zaq,Int.toNat_natCast,Bool.not_true,Bool.not_false,hx,dF]
   repeat (refine And.intro (by omega) ?_)
   refine ⟨_,Weak.refl _,?_⟩
   simp (config := { maxSteps := 3000000 }) only [go_sem,zaa,↓reduceIte,lcT,ty,noS,zoz,ziq,tkS,ixTS,hle,hcl,dpos,hn,hL,hex,zaj,zaf,zad,zaq,Int.toNat_natCast,Bool.not_true,Bool.not_false]
  ·have hx : ixG (tkP now pat) l = (i : Nat) := by unfold ixG; rw [hF,if_pos hi]
   have dF : decide ((i : Int) = -1) = false := decide_eq_false (by omega)
   have e0 : ((i : Int) + 1 + 9223372036854775808) % 18446744073709551616 - 9223372036854775808 = ((i + 1 : Nat) : Int) := by omega
   simp (config := { maxSteps := 3000000 }) only [go_sem,zaa,↓reduceIte,lcT,ty,noS,zoz,ziq,tkS,ixTS,hle,hcl,dpos,hn,hL,hex,zaj,zaf,zad,zaq,Int.toNat_natCast,Bool.not_true,Bool.not_false,hx,dF,e0]
   repeat (refine And.intro (by omega) ?_)
   refine zco ⟨fun m σ => ∃ (j w : Nat) (cs : List Mb),m = l.length - j ∧ (w < j ∧ j ≤ l.length) ∧ cs.length = l.length ∧ cs.take w = (l.take j).filter K ∧ cs.drop j = l.drop j ∧
     σ = ⟨[.ms 0 3 0 l.length,.fn 40 [.rf 1 1 0 0,.rf 2 1 0 0],.junk,.junk,.junk,.w (.int .i64 w),.w (.int .i64 j),.junk,.junk,.junk,.junk,.junk,.junk,.junk,.junk,.junk,.junk,.junk,.junk,.junk,.junk,.junk,.junk,.junk,.junk,.junk,.junk,.junk,.junk,.junk,.junk,.junk,.junk,.junk,.junk,.junk,.junk,.junk,.junk,.junk,.junk,.junk],[(0,.g 3 (cs.map mbA)),(1,.g 1 [.w (.int .i64 now)]),(2,.g 1 [.w (.int .i64 pat)])],4⟩,?_,?_⟩
   ·refine ⟨_,_,zag [0,1,2,3] rfl rfl rfl ?_ ?_,i + 1,i,l,rfl,by omega,rfl,?_,rfl,rfl⟩
    ·simp only [ssT,zal,zam,setSlot,gOf,AV.ren,renL,Blk.ren,Ax.look,Ax.put,reduceCtorEq,↓reduceIte,Nat.reduceEqDiff,Nat.reduceLT,Nat.reduceAdd,List.length_append,List.length_cons,List.length_nil,Option.some.injEq,zaf]; try simp
    ·simp only [ssT,zal,zam,setSlot,gOf,AV.ren,renL,Blk.ren,Ax.look,Ax.put,reduceCtorEq,↓reduceIte,Nat.reduceEqDiff,Nat.reduceLT,Nat.reduceAdd,List.length_append,List.length_cons,List.length_nil,Option.some.injEq,zaf]; try simp
    ·rw [List.take_succ_eq_append_getElem hi,List.filter_append,htk]
     simp [hKA,hAi]
   ·rintro m σ ⟨j,w,cs,rfl,⟨hwj,hj⟩,hcl2,htw,hdj,rfl⟩
    have hl5 : (cs.map mbA).length = l.length := by simp [hcl2]
    by_cases hjl : j < l.length
    ·have e1 : ((j : Int) + 1 + 9223372036854775808) % 18446744073709551616 - 9223372036854775808 = ((j + 1 : Nat) : Int) := by omega
     have e2 : ((w : Int) + 1 + 9223372036854775808) % 18446744073709551616 - 9223372036854775808 = ((w + 1 : Nat) : Int) := by omega
     have d1 : decide ((j : Int) < l.length) = true := decide_eq_true (by omega)
     have hjc : j < cs.length := by omega
     have hcj : cs[j] = l[j] := by
      have h1 : cs.drop j = cs[j] :: cs.drop (j + 1) := List.drop_eq_getElem_cons hjc
      have h2 : l.drop j = l[j] :: l.drop (j + 1) := List.drop_eq_getElem_cons hjl
      rw [h1,h2] at hdj
      injection hdj
     have hs1 := zbe cs j hjc
     rw [hcj] at hs1
     have htk1 : (l.take (j + 1)).filter K = (l.take j).filter K ++ [l[j]].filter K := by rw [List.take_succ_eq_append_getElem hjl,List.filter_append]
     have hdj1 : cs.drop (j + 1) = l.drop (j + 1) := by
      have := congrArg (List.drop 1) hdj
      simpa [List.drop_drop,Nat.add_comm] using this
     obtain ⟨P,hP⟩ : ∃ P,l[j] = P := ⟨_,rfl⟩
     rw [hP] at hs1 htk1
     obtain ⟨pd,pt,py⟩ := P
     have hs1 : slot (cs.map mbA) j = .agg [.str pd,.w (.int .i64 pt),.w (.bool py)] := hs1
     have hKP := hKA ⟨pd,pt,py⟩
     cases hap : tkP now pat ⟨pd,pt,py⟩ with
     | true =>
      rw [hap] at hKP
      have hf0 : (l.take (j + 1)).filter K = (l.take j).filter K := by rw [htk1]; simp [hKP]
      simp (config := { maxSteps := 3000000 }) only [go_sem,zaa,↓reduceIte,lcT,ty,noS,zoz,ziq,tkS,ixTS,hle,hcl,dpos,hn,hL,hex,zaj,zaf,zad,zaq,Int.toNat_natCast,Bool.not_true,Bool.not_false,hl5,d1,hs1,hap,e1,e2]
      repeat (refine And.intro (by omega) ?_)
      refine ⟨l.length - (j + 1),_,by omega,zag [0,1,2,3] rfl rfl rfl ?_ ?_,j + 1,w,cs,rfl,by omega,hcl2,by rw [hf0]; exact htw,hdj1,rfl⟩
      ·simp only [ssT,zal,zam,setSlot,gOf,AV.ren,renL,Blk.ren,Ax.look,Ax.put,reduceCtorEq,↓reduceIte,Nat.reduceEqDiff,Nat.reduceLT,Nat.reduceAdd,List.length_append,List.length_cons,List.length_nil,Option.some.injEq,zaf]; try simp
      ·simp only [ssT,zal,zam,setSlot,gOf,AV.ren,renL,Blk.ren,Ax.look,Ax.put,reduceCtorEq,↓reduceIte,Nat.reduceEqDiff,Nat.reduceLT,Nat.reduceAdd,List.length_append,List.length_cons,List.length_nil,Option.some.injEq,zaf]; try simp
     | false =>
      rw [hap] at hKP
      have hwc : w < cs.length := by omega
      have hs2 := zbe cs w hwc
      obtain ⟨q,hq⟩ : ∃ q,cs[w] = q := ⟨_,rfl⟩
      rw [hq] at hs2
      obtain ⟨qd,qt,qy⟩ := q
      have hs2 : slot (cs.map mbA) w = .agg [.str qd,.w (.int .i64 qt),.w (.bool qy)] := hs2
      have hss := zfs ⟨pd,pt,py⟩ cs w hwc
      have hss : setSlot (cs.map mbA) w (.agg [.str pd,.w (.int .i64 pt),.w (.bool py)]) = (cs.set w ⟨pd,pt,py⟩).map mbA := hss
      have hd6 : ∀ a b c : AV,List.drop 3 [a,b,c] = [] := fun _ _ _ => rfl
      have hl6 : ∀ a b c : AV,[a,b,c].length = 3 := fun _ _ _ => rfl
      have hf0 : (cs.set w ⟨pd,pt,py⟩).take (w + 1) = (l.take (j + 1)).filter K := by
       rw [htk1,← htw,List.take_succ_eq_append_getElem (by simp; exact hwc),List.take_set_of_le (Nat.le_refl _)]
       simp [hKP]
      have hd0 : (cs.set w ⟨pd,pt,py⟩).drop (j + 1) = l.drop (j + 1) := by
       rw [List.drop_set_of_lt (by omega)]; exact hdj1
      simp (config := { maxSteps := 3000000 }) only [go_sem,zaa,↓reduceIte,lcT,ty,noS,zoz,ziq,tkS,ixTS,hle,hcl,dpos,hn,hL,hex,zaj,zaf,zad,zaq,Int.toNat_natCast,Bool.not_true,Bool.not_false,hl5,d1,hs1,hs2,hss,hd6,hl6,hap,e1,e2]
      repeat (refine And.intro (by omega) ?_)
      refine ⟨l.length - (j + 1),_,by omega,zag [0,1,2,3] rfl rfl rfl ?_ ?_,j + 1,w + 1,cs.set w ⟨pd,pt,py⟩,rfl,by omega,by simp [hcl2],hf0,hd0,rfl⟩
      ·simp only [ssT,zal,zam,setSlot,gOf,AV.ren,renL,Blk.ren,Ax.look,Ax.put,reduceCtorEq,↓reduceIte,Nat.reduceEqDiff,Nat.reduceLT,Nat.reduceAdd,List.length_append,List.length_cons,List.length_nil,Option.some.injEq,zaf]; try simp
      ·simp only [ssT,zal,zam,setSlot,gOf,AV.ren,renL,Blk.ren,Ax.look,Ax.put,reduceCtorEq,↓reduceIte,Nat.reduceEqDiff,Nat.reduceLT,Nat.reduceAdd,List.length_append,List.length_cons,List.length_nil,Option.some.injEq,zaf]; try simp
    ·have d1 : decide ((j : Int) < l.length) = false := decide_eq_false (by omega)
     have htj : l.take j = l := List.take_of_length_le (by omega)
     rw [htj] at htw
     have hwl : (cs.take w).length = w := by rw [List.length_take]; omega
     have hfw : (l.filter K).length = w := by rw [← htw,hwl]
     rw [hfw,← htw]
     have hz : List.take w (cs.map mbA) ++ (List.replicate (l.length - w) (.agg [.str [],.w (.int .i64 0),.w (.bool false)]) ++ List.drop (w + (l.length - w)) (cs.map mbA)) = (cs.take w ++ List.replicate (l.length - w) zMb).map mbA := by
      have h1 : List.drop (w + (l.length - w)) (cs.map mbA) = [] := List.drop_eq_nil_of_le (by simp; omega)
      rw [h1,List.append_nil,List.map_append,List.map_take,List.map_replicate]; rfl
     simp (config := { maxSteps := 3000000 }) only [go_sem,zaa,↓reduceIte,lcT,ty,noS,zoz,ziq,tkS,ixTS,hle,hcl,dpos,hn,hL,hex,zaj,zaf,zad,zaq,Int.toNat_natCast,Bool.not_true,Bool.not_false,hl5,d1]
     refine ⟨_,Weak.refl _,?_⟩
     simp (config := { maxSteps := 3000000 }) only [go_sem,zaa,↓reduceIte,lcT,ty,noS,zoz,ziq,tkS,ixTS,hle,hcl,dpos,hn,hL,hex,zaj,zaf,zad,zaq,Int.toNat_natCast,Bool.not_true,Bool.not_false,hl5,d1]
     repeat (refine And.intro (by omega) ?_)
     try rw [hz]
     try (refine ⟨_,Weak.refl _,?_⟩)
     try simp (config := { maxSteps := 3000000 }) only [go_sem,zaa,↓reduceIte,lcT,ty,noS,zoz,ziq,tkS,ixTS,hle,hcl,dpos,hn,hL,hex,zaj,zaf,zad,zaq,Int.toNat_natCast,Bool.not_true,Bool.not_false,hl5,hz,Nat.sub_zero]
 ·rename_i f0 id now pat
  obtain rfl := hp
  refine ⟨by simp,ziq,by kernel_rfl,?_⟩
  have z0 : decide ((-1 : Int) = -1) = true := rfl
  unfold Try.f41
  simp only [go_sem,coe,zaa,↓reduceIte,lcT,ty,noS,zoz,ziq,ixTS,z0]
  refine ⟨_,Weak.refl _,?_⟩
  simp only [go_sem,coe,zaa,↓reduceIte,lcT,ty,noS,ziq]
 ·exact hp.elim
end
end Go.Proofs.Ytioldmhhefhelaa
namespace Go.Proofs.Ytioldmhhefhelaa
open Ax
structure TR20 where
 g : Int
 p : Int
 l : List Mb
def tiF (gn ph : Int) (l : List Mb) (now pat : Int) : TR20 :=
 if chG gn ph l = 0 ∧ gn ≠ 1099511627776 ∧ (zdz now pat l).length ≠ l.length then ⟨gn + 1,if (zdz now pat l).length = 0 then 0 else 1,(zdz now pat l).map clrM⟩ else ⟨gn,ph,l⟩
def tiA (r : TR20) (f : Bool) : AV := .agg [.w (.int .i64 r.g),.w (.int .u8 r.p),.sg 3 (r.l.map mbA) f]
def tiS : zan
 | [.agg [.w (.int .i64 gn),.w (.int .u8 ph),.sg 3 xs f],.w (.int .i64 now),.w (.int .i64 pat)],[] => ⟨xs.length ≤ 900000 ∧ ∃ l : List Mb,xs = l.map mbA ∧ ∀ r ∈ l,r.d.length ≤ 9223372036854775807,tiA (tiF gn ph (xs.map umb) now pat) (empP xs),[]⟩
 | _,_ => zbg
def zjw (f : FuncId) : Option zan :=
 match f with
 | 17 => some chGS
 | 30 => some zdv
 | _ => none
theorem ysb : Fns Try.prog zjw := by
 intro f s h
 unfold zjw at h
 split at h
 ·injection h with h; subst h; exact ⟨⟨_,Try.func17,by kernel_rfl,by kernel_rfl⟩,znc⟩
 ·injection h with h; subst h; exact ⟨⟨_,Try.func30,by kernel_rfl,by kernel_rfl⟩,zkh⟩
 ·cases h
def zsz (f : FuncId) : Option zan :=
 match f with
 | 41 => some dfTS
 | 34 => some turS
 | _ => none
theorem yss : FnsO Try.prog zsz := by
 intro f s h
 unfold zsz at h
 split at h
 ·injection h with h; subst h; exact ⟨⟨_,Try.func41,by kernel_rfl,by kernel_rfl⟩,ymq⟩
 ·injection h with h; subst h; exact ⟨⟨_,Try.func34,by kernel_rfl,by kernel_rfl⟩,zpn⟩
 ·cases h
def tiPl : zfi := fun id => match id with
 | 5 => .opn [] 3
 | 8 => .opn [] 1
 | _ => .std
def ygj : zfi := fun id => match id with
 | 5 => .opn [] 3
 | _ => .std
theorem ypo {now pat : Int} {l : List Mb} (h : (zdz now pat l).length = l.length) : zdz now pat l = l := by
 unfold zdz at h ⊢
 exact List.filter_eq_self.2 (List.length_filter_eq_length_iff.1 h)
theorem yjb (now pat : Int) (l : List Mb) : (zdz now pat l).length ≤ l.length := List.length_filter_le _ _
section
set_option maxRecDepth 100000
set_option maxHeartbeats 16000000
theorem ypj : zaz Try.prog 14 tiS := by
 refine zbo (S := zjw) (SO := zsz) (T := ty) mixed ty_ok ysb yss Try.func14 (c := Try.f14.body.getD .skip) (by kernel_rfl) (fun xs pins hp _ => ?_)
 unfold tiS at hp ⊢
 split at hp
 ·rename_i gn ph xs f now pat _
  obtain ⟨hL0,l,rfl,hd⟩ := hp
  rw [List.length_map] at hL0
  have hle : (l.map mbA).length = l.length := by simp
  have hL : l.length ≤ 1000000 := by omega
  have hL9 : l.length ≤ 9223372036854775807 := by omega
  have hLj : l.length ≤ 900000 := by omega
  have hex : ∃ k : List Mb,l.map mbA = k.map mbA := ⟨l,rfl⟩
  have hxd : ∃ k : List Mb,l.map mbA = k.map mbA ∧ ∀ r ∈ k,r.d.length ≤ 9223372036854775807 := ⟨l,rfl,hd⟩
  have coeN : ∀ f,coe ty 29 (.sg 3 [] f) = .sg 3 [] f := fun f => rfl
  rw [zaj]
  obtain ⟨C,hC⟩ : ∃ C,chG gn ph l = C := ⟨_,rfl⟩
  unfold tiF
  rw [hC]
  by_cases hz : l.length = 0
  ·obtain rfl : l = [] := List.eq_nil_of_length_eq_zero hz
   have hs0 : zdz now pat [] = [] := rfl
   have hem : empP ([].map mbA) = true := rfl
   have hx0 : ∃ k : List Mb,([] : List AV) = k.map mbA := ⟨[],rfl⟩
   have hxd0 : ∃ k : List Mb,([] : List AV) = k.map mbA ∧ ∀ r ∈ k,r.d.length ≤ 9223372036854775807 := ⟨[],rfl,hd⟩
   have hem0 : empP [] = true := rfl
   have hu0 : ([] : List AV).map umb = [] := rfl
   have q6 : decide (((0 : Nat) : Int) = ((0 : Nat) : Int)) = true := rfl
   rw [if_neg (by rw [hs0]; simp),hem]
   by_cases hc : C = 0
   ·have q0 : decide (C = 0) = true := decide_eq_true hc
    by_cases hg : gn = 1099511627776
    ·have q1 : decide (gn = 1099511627776) = true := decide_eq_true hg
     refine ⟨by simp,ygj,by kernel_rfl,?_⟩
     unfold Try.f14
     iterate 8
      try rw [zaa]
      try simp (config := { maxSteps := 300000 }) only [go_sem,zaa,↓reduceIte,lcT,-zaa,ty,zjw,zsz,ygj,chGS,zdv,dfTS,coeN,Bool.not_true,Bool.not_false,q0,q1,hC,hx0,hxd0,hem0,hu0,List.map_nil,List.length_nil,Nat.zero_le,cond_true]
      repeat (refine And.intro (by first | omega | exact zbi | exact ⟨by omega,by omega⟩ | exact ⟨rfl,rfl⟩ | (unfold top; omega)) ?_)
     try (refine ⟨_,Weak.refl _,?_⟩)
     try simp only [go_sem,zaa,↓reduceIte,lcT,ty,zjw,tiA,List.map_nil]
    ·have q1 : decide (gn = 1099511627776) = false := decide_eq_false hg
     refine ⟨by simp,ygj,by kernel_rfl,?_⟩
     unfold Try.f14
     iterate 14
      try rw [zaa]
      try simp (config := { maxSteps := 300000 }) only [go_sem,zaa,↓reduceIte,lcT,-zaa,ty,zjw,zsz,ygj,chGS,zdv,dfTS,coeN,Bool.not_true,Bool.not_false,q0,q1,q6,hC,hx0,hxd0,hem0,hu0,List.map_nil,List.length_nil,Nat.zero_le,cond_true]
      repeat (refine And.intro (by first | omega | exact zbi | exact ⟨by omega,by omega⟩ | exact ⟨rfl,rfl⟩ | (unfold top; omega)) ?_)
     try (refine ⟨_,Weak.refl _,?_⟩)
     try simp only [go_sem,zaa,↓reduceIte,lcT,ty,zjw,tiA,List.map_nil]
   ·have q0 : decide (C = 0) = false := decide_eq_false hc
    refine ⟨by simp,ygj,by kernel_rfl,?_⟩
    unfold Try.f14
    iterate 8
     try rw [zaa]
     try simp (config := { maxSteps := 300000 }) only [go_sem,zaa,↓reduceIte,lcT,-zaa,ty,zjw,zsz,ygj,chGS,zdv,dfTS,coeN,Bool.not_true,Bool.not_false,q0,hC,hx0,hxd0,hem0,hu0,List.map_nil,List.length_nil,Nat.zero_le,cond_true]
     repeat (refine And.intro (by first | omega | exact zbi | exact ⟨by omega,by omega⟩ | exact ⟨rfl,rfl⟩ | (unfold top; omega)) ?_)
    try (refine ⟨_,Weak.refl _,?_⟩)
    try simp only [go_sem,zaa,↓reduceIte,lcT,ty,zjw,tiA,List.map_nil]
  ·have hpos : 0 < l.length := by omega
   have dpos : decide (0 < l.length) = true := decide_eq_true hpos
   have hem : empP (l.map mbA) = false := by cases l with | nil => simp at hz | cons _ _ => rfl
   rw [hem]
   have hl1 : decide (0 + l.length ≤ (l.map mbA).length) = true := decide_eq_true (by simp)
   have hl2 : List.take l.length (l.map mbA) = l.map mbA := List.take_of_length_le (by simp)
   by_cases hc : C = 0
   ·have q0 : decide (C = 0) = true := decide_eq_true hc
    by_cases hg : gn = 1099511627776
    ·have q1 : decide (gn = 1099511627776) = true := decide_eq_true hg
     rw [if_neg (by simp [hg])]
     have hk1 := hl1
     have hk2 := hl2
     refine ⟨by simp,tiPl,by kernel_rfl,?_⟩
     unfold Try.f14
     iterate 8
      try rw [zaa]
      try simp (config := { maxSteps := 3000000 }) only [go_sem,zaa,↓reduceIte,lcT,-zaa,ty,zjw,zsz,tiPl,chGS,zdv,dfTS,turS,zav,coeN,hle,hL,hL9,hLj,hex,hxd,zaj,zad,zaq,zaf,zcc,Int.toNat_natCast,Bool.not_true,Bool.not_false,decide_true,true_or,or_true,q0,q1,hC,hem,hpos,dpos,cond_false]
      repeat (refine And.intro (by first | omega | exact zbi | exact ⟨by omega,by omega⟩ | exact ⟨rfl,rfl⟩ | (unfold top; omega)) ?_)
     refine ⟨_,zby 44 3 10 (l.map mbA) rfl (zad _) (by simp [slot,AV.ids,idsL]),?_⟩
     simp only [fgL,fgH,AV.fg,Blk.fg,Nat.reduceBEq,cond_true,cond_false,Bool.and_true,beq_self_eq_true,Bool.true_and,List.drop_zero,zcc,hk1,hk2]
     simp only [go_sem,zaa,↓reduceIte,lcT,ty,zjw,tiA,zad,zaf]
    ·have q1 : decide (gn = 1099511627776) = false := decide_eq_false hg
     obtain ⟨L,hLs⟩ : ∃ L,zdz now pat l = L := ⟨_,rfl⟩
     have hLl : L.length ≤ l.length := by rw [← hLs]; exact yjb _ _ _
     rw [hLs]
     by_cases hq : L.length = l.length
     ·rw [if_neg (by simp [hq])]
      obtain rfl : L = l := by rw [← hLs]; exact ypo (by rw [hLs]; exact hq)
      have hz0 : (L ++ List.replicate (L.length - L.length) zMb) = L := by rw [Nat.sub_self,List.replicate_zero,List.append_nil]
      have q2 : decide ((L.length : Int) = (L.length : Int)) = true := decide_eq_true rfl
      have hk1 := hl1
      have hk2 := hl2
      refine ⟨by simp,tiPl,by kernel_rfl,?_⟩
      unfold Try.f14
      iterate 14
       try rw [zaa]
       try simp (config := { maxSteps := 3000000 }) only [go_sem,zaa,↓reduceIte,lcT,-zaa,ty,zjw,zsz,tiPl,chGS,zdv,dfTS,turS,zav,coeN,hle,hL,hL9,hLj,hex,hxd,zaj,zad,zaq,zaf,zcc,Int.toNat_natCast,Bool.not_true,Bool.not_false,decide_true,true_or,or_true,q0,q1,q2,hC,hem,hpos,dpos,hLs,hz0,cond_false]
       repeat (refine And.intro (by first | omega | exact zbi | exact ⟨by omega,by omega⟩ | exact ⟨rfl,rfl⟩ | (unfold top; omega)) ?_)
      refine ⟨_,zby 44 3 10 (L.map mbA) rfl (zad _) (by simp [slot,AV.ids,idsL]),?_⟩
      simp only [fgL,fgH,AV.fg,Blk.fg,Nat.reduceBEq,cond_true,cond_false,Bool.and_true,beq_self_eq_true,Bool.true_and,List.drop_zero,zcc,hk1,hk2]
      simp only [go_sem,zaa,↓reduceIte,lcT,ty,zjw,tiA,zad,zaf]
     ·rw [if_pos ⟨hc,hg,hq⟩]
      obtain ⟨_,⟨g0,g1⟩,_,_⟩ := ycg (hC.trans hc)
      have hgb : (-4611686018427387904 ≤ gn ∧ gn ≤ 4611686018427387904) := by omega
      have q2 : decide ((L.length : Int) = (l.length : Int)) = false := decide_eq_false (by omega)
      obtain ⟨R,hR⟩ : ∃ R,List.replicate (l.length - L.length) zMb = R := ⟨_,rfl⟩
      have hRl : R.length = l.length - L.length := by rw [← hR,List.length_replicate]
      have hNe : ((L ++ R).map mbA).length = l.length := by rw [List.length_map,List.length_append,hRl]; omega
      have hNx : ∃ k : List Mb,(L ++ R).map mbA = k.map mbA := ⟨_,rfl⟩
      have hNt : (List.take L.length (L ++ R)).map clrM ++ List.drop L.length (L ++ R) = L.map clrM ++ R := by
       rw [List.take_left' rfl,List.drop_left' rfl]
      have hk1 : decide (0 + L.length ≤ ((L.map clrM ++ R).map mbA).length) = true := decide_eq_true (by simp)
      have hk2 : List.take L.length ((L.map clrM ++ R).map mbA) = (L.map clrM).map mbA := by
       rw [List.map_append,List.take_left' (by simp)]
      generalize hN : L ++ R = N at *
      refine ⟨by simp,tiPl,by kernel_rfl,?_⟩
      unfold Try.f14
      iterate 16
       try rw [zaa]
       try simp (config := { maxSteps := 3000000 }) only [go_sem,zaa,↓reduceIte,lcT,-zaa,ty,zjw,zsz,tiPl,chGS,zdv,dfTS,turS,zav,coeN,hle,hL,hL9,hLj,hex,hxd,zaj,zad,zaq,zaf,zcc,Int.toNat_natCast,Bool.not_true,Bool.not_false,decide_true,true_or,or_true,q0,q1,q2,hC,hem,hpos,dpos,hLs,hR,hN,hNe,hNx,hNt,cond_false]
       repeat (refine And.intro (by first | omega | exact zbi | exact ⟨by omega,by omega⟩ | exact ⟨rfl,rfl⟩ | (unfold top; omega)) ?_)
      refine ⟨⟨by cases decide (0 < L.length) <;> rfl,⟨by omega,by omega⟩,hgb⟩,?_⟩
      refine ⟨_,zby 44 3 35 ((L.map clrM ++ R).map mbA) rfl (zad _) (by simp [slot,AV.ids,idsL]),?_⟩
      simp only [fgL,fgH,AV.fg,Blk.fg,Nat.reduceBEq,cond_true,cond_false,Bool.and_true,beq_self_eq_true,Bool.true_and,List.drop_zero,zcc,hk1,hk2]
      simp only [go_sem,zaa,↓reduceIte,lcT,ty,zjw,tiA,zad,zaf]
   ·have q0 : decide (C = 0) = false := decide_eq_false hc
    rw [if_neg (fun h => hc h.1)]
    have hk1 := hl1
    have hk2 := hl2
    refine ⟨by simp,tiPl,by kernel_rfl,?_⟩
    unfold Try.f14
    iterate 8
     try rw [zaa]
     try simp (config := { maxSteps := 3000000 }) only [go_sem,zaa,↓reduceIte,lcT,-zaa,ty,zjw,zsz,tiPl,chGS,zdv,dfTS,turS,zav,coeN,hle,hL,hL9,hLj,hex,hxd,zaj,zad,zaq,zaf,zcc,Int.toNat_natCast,Bool.not_true,Bool.not_false,decide_true,true_or,or_true,q0,hC,hem,hpos,dpos,cond_false]
     repeat (refine And.intro (by first | omega | exact zbi | exact ⟨by omega,by omega⟩ | exact ⟨rfl,rfl⟩ | (unfold top; omega)) ?_)
    refine ⟨_,zby 44 3 10 (l.map mbA) rfl (zad _) (by simp [slot,AV.ids,idsL]),?_⟩
    simp only [fgL,fgH,AV.fg,Blk.fg,Nat.reduceBEq,cond_true,cond_false,Bool.and_true,beq_self_eq_true,Bool.true_and,List.drop_zero,zcc,hk1,hk2]
    simp only [go_sem,zaa,↓reduceIte,lcT,ty,zjw,tiA,zad,zaf]
 ·exact hp.elim
end
end Go.Proofs.Ytioldmhhefhelaa
namespace Go.Proofs.Ytioldmhhefhelaa
open Ax
theorem yes : ∀ (l : List Mb),cleanL (l.map mbA) = true
 | [] => rfl
 | x :: r => by simp only [List.map_cons,cleanL,yes r]; rfl
def yesM (m : Mb) : Mb := ⟨m.d,m.t,true⟩
def sy1S : zan
 | [.rf 0 3 i 0],[.g 3 xs] => ⟨i < xs.length ∧ (∃ l : List Mb,xs = l.map mbA),.tup [],[.g 3 (((xs.map umb).set i (yesM (mbI (xs.map umb) i))).map mbA)]⟩
 | _,_ => zbg
def yng : zan
 | [.agg [.w (.int .i64 gn),.w (.int .u8 ph),.ms 0 3 0 n],.w (.int .i64 i),.fn id []],[.g 3 xs] => ⟨id = 36 ∧ (0 ≤ i ∧ i < n) ∧ (n = xs.length ∧ 0 < n ∧ n ≤ 1000000) ∧ (∃ l : List Mb,xs = l.map mbA),
   .agg [.w (.int .i64 gn),.w (.int .u8 ph),.ms 1 3 0 n],[.g 3 xs,.g 3 (((xs.map umb).set i.toNat (yesM (mbI (xs.map umb) i.toNat))).map mbA)]⟩
 | _,_ => zbg
section
set_option maxRecDepth 100000
set_option maxHeartbeats 4000000
theorem yiy : zcx Try.prog 36 sy1S := by
 refine zci (S := noS) (SO := noO) (T := ty) mixed ty_ok zbh zhl Try.func36 (c := Try.f36.body.getD .skip) (by kernel_rfl) (fun xs pins hp => ?_)
 unfold sy1S at hp ⊢
 split at hp
 ·rename_i i xs
  obtain ⟨hi,l,rfl⟩ := hp
  rw [List.length_map] at hi
  have hle : (l.map mbA).length = l.length := by simp
  rw [zaj]
  have hs1 := zbe l i hi
  have hmb : mbI l i = l[i] := by unfold mbI; rw [List.getElem?_eq_getElem hi]; rfl
  have hst : ∀ x : Mb,setSlot (l.map mbA) i (.agg [.str x.d,.w (.int .i64 x.t),.w (.bool x.y)]) = (l.set i x).map mbA := fun x => zfs x l i hi
  rw [hmb]
  obtain ⟨r,hr⟩ : ∃ r,l[i] = r := ⟨_,rfl⟩
  rw [hr] at hs1 ⊢
  obtain ⟨rd,rt,ry⟩ := r
  have hs1 : slot (l.map mbA) i = .agg [.str rd,.w (.int .i64 rt),.w (.bool ry)] := hs1
  have hst1 := hst (yesM ⟨rd,rt,ry⟩)
  unfold yesM at hst1 ⊢
  simp only at hst1
  refine ⟨by simp,zbn,by kernel_rfl,?_⟩
  unfold Try.f36
  simp only [go_sem,zaa,↓reduceIte,lcT,ty,noS,zbn,hle,hs1,hst1,zad,zaq,Int.toNat_natCast]
  repeat (refine And.intro (by omega) ?_)
  try (refine ⟨_,Weak.refl _,?_⟩)
  try simp only [go_sem,zaa,↓reduceIte,lcT,ty,noS,zad,zaf]
 ·exact hp.elim
end
def zwk (f : FuncId) : Option zan :=
 match f with
 | 36 => some sy1S
 | _ => none
theorem yio : FnsO Try.prog zwk := by
 intro f s h
 unfold zwk at h
 split at h
 ·injection h with h; subst h; exact ⟨⟨_,Try.func36,by kernel_rfl,by kernel_rfl⟩,yiy⟩
 ·cases h
section
set_option maxRecDepth 100000
set_option maxHeartbeats 8000000
theorem yhz : zcx Try.prog 28 yng := by
 refine zci (S := zot) (SO := zwk) (T := ty) mixed ty_ok yad yio Try.func28 (c := Try.f28.body.getD .skip) (by kernel_rfl) (fun xs pins hp => ?_)
 unfold yng at hp ⊢
 split at hp
 ·rename_i gn ph n i id xs
  obtain ⟨rfl,⟨i0,i1⟩,⟨rfl,hn,hL⟩,l,rfl⟩ := hp
  rw [List.length_map] at hL i1 hn
  have dpos : decide (0 < l.length) = true := decide_eq_true hn
  have hdle : decide (0 + l.length ≤ (l.map mbA).length) = true := decide_eq_true (by simp)
  have htk : List.take l.length (l.map mbA) = l.map mbA := List.take_of_length_le (by simp)
  have hle : (l.map mbA).length = l.length := by simp
  have hcl := zad l
  have hex : ∃ k : List Mb,l.map mbA = k.map mbA := ⟨l,rfl⟩
  obtain ⟨I,rfl⟩ : ∃ I : Nat,i = I := ⟨i.toNat,by omega⟩
  have hI : I < l.length := by omega
  have hem : empP (l.map mbA) = false := by cases l with | nil => simp at hI | cons _ _ => rfl
  rw [zaj,hle]
  generalize hQ : l.set I (yesM (mbI l I)) = Q
  have hQl : Q.length = l.length := by rw [← hQ,List.length_set]
  have hQQ : l.set ((I : Int).toNat) (yesM (mbI l ((I : Int).toNat))) = Q := by rw [← hQ]; simp
  rw [hQQ]
  refine ⟨by simp,yrm,by kernel_rfl,?_⟩
  unfold Try.f28
  simp only [go_sem,zaa,↓reduceIte,lcT,ty,zot,zwk,yrm,zdv,sy1S,zav,hle,hL,hn,dpos,hdle,htk,yes,List.drop_zero,hex,hem,hcl,hI,hQ,zad,zaq,zaj,zaf,Int.toNat_natCast,cond_false,cond_true]
  repeat (first | refine And.intro (by omega) ?_ | refine And.intro (fun y hy => zbi y hy) ?_ | refine And.intro ⟨by omega,by omega⟩ ?_)
  try (refine ⟨_,Weak.refl _,?_⟩)
  try simp only [go_sem,zaa,↓reduceIte,lcT,ty,zot,zad,zaf,hle]
 ·exact hp.elim
end
end Go.Proofs.Ytioldmhhefhelaa
namespace Go.Proofs.Ytioldmhhefhelaa
open Ax
def nmL (l : List Mb) : List (List UInt8) := l.map fun m => m.d
theorem ytn (l : List Mb) : (l.map fun m => AV.str m.d) = (nmL l).map AV.str := by unfold nmL; rw [List.map_map]; rfl
theorem leD_lt {a q : List UInt8} (h : leD a q = false) : q < a := by
 unfold leD at h
 simp only [Bool.or_eq_false_iff,decide_eq_false_iff_not] at h
 have h1 := ynz h.2 h.1
 rw [zov] at h1
 exact of_decide_eq_true h1
theorem zvh : ∀ (l : List Mb) (p : Option (List UInt8)),zbl p l = true → srtT (nmL l) ∧ ∀ q,p = some q → ∀ m ∈ l,q < m.d
 | [],p,_ => ⟨List.Pairwise.nil,by simp⟩
 | a :: r,p,h => by
  rw [zey] at h
  obtain ⟨_,h2,h3⟩ := h
  obtain ⟨i1,i2⟩ := zvh r (some a.d) h3
  refine ⟨List.pairwise_cons.2 ⟨fun x hx => ?_,i1⟩,fun q hq m hm => ?_⟩
  ·obtain ⟨m,hm,rfl⟩ := List.mem_map.1 hx
   exact i2 _ rfl m hm
  ·have hqa := leD_lt (h2 q hq)
   rcases List.mem_cons.1 hm with rfl | hm
   ·exact hqa
   ·exact List.lt_trans hqa (i2 _ rfl m hm)
theorem ynh {gn ph : Int} {l : List Mb} (h : chG gn ph l = 0) : srtT (nmL l) := by
 unfold chG at h
 split at h
 ·rename_i hb
  unfold chB at hb
  simp only [Bool.and_eq_true] at hb
  exact (zvh l none hb.2.2.2).1
 ·omega
theorem zxm (l : List Mb) (I : Nat) (x : Mb) (hI : I < l.length) (hx : x.d = (mbI l I).d) : nmL (l.set I x) = nmL l := by
 unfold nmL
 refine List.ext_getElem (by simp) fun i h1 h2 => ?_
 simp only [List.getElem_map,List.getElem_set]
 split
 ·rename_i e
  subst e
  rw [hx]
  unfold mbI
  rw [List.getElem?_eq_getElem hI]; rfl
 ·rfl
theorem ydq {v : List UInt8} {l : List Mb} (hs : srtT (nmL l)) (h : l.findIdx (isD v) < l.length) : thT v (nmL l) = true := by
 refine (thT_mem hs).2 ?_
 have h1 : isD v l[l.findIdx (isD v)] = true := List.findIdx_getElem (w := h)
 unfold isD at h1
 have h2 : l[l.findIdx (isD v)].d = v := of_decide_eq_true h1
 rw [← h2]
 exact List.mem_map.2 ⟨_,List.getElem_mem h,rfl⟩
structure SR where
 r : JR
 o : AV
def yix (l : List Mb) (I : Nat) (now : Int) : List Mb := (l.set I (zdt now (mbI l I))).set I (yesM (mbI (l.set I (zdt now (mbI l I))) I))
def syF (gn ph : Int) (l : List Mb) (v : List UInt8) (gen parts now : Int) : SR :=
 if (fiF gn ph l v gen now).2 = 0 then
  ⟨⟨gn,if allY (yix l (l.findIdx (isD v)) now) = true then 2 else ph,yix l (l.findIdx (isD v)) now,false,0⟩,.si (ofF (nmL l) parts v) false⟩
 else ⟨errJ (fiF gn ph l v gen now).2,.sg 1 [] true⟩
def syA (x : SR) : AV := .tup [.agg [.w (.int .i64 x.r.g),.w (.int .u8 x.r.p),.sg 3 (x.r.l.map mbA) x.r.f],x.o,.w (.int .i64 x.r.e)]
def syS : zan
 | [.agg [.w (.int .i64 gn),.w (.int .u8 ph),.sg 3 xs f],.str v,.w (.int .i64 gen),.w (.int .i64 parts),.w (.int .i64 now)],[] => ⟨xs.length ≤ 900000 ∧ ∃ l : List Mb,xs = l.map mbA ∧ ∀ r ∈ l,r.d.length ≤ 9223372036854775807,syA (syF gn ph (xs.map umb) v gen parts now),[]⟩
 | _,_ => zbg
def yib : zan
 | [.agg [.w (.int .i64 gn),.w (.int .u8 ph),.sg 3 xs f],.w (.int .i64 i),.fn id [.rf 0 1 0 0]],[.g 1 [.w (.int .i64 now)]] => chaS [.agg [.w (.int .i64 gn),.w (.int .u8 ph),.sg 3 xs f],.w (.int .i64 i),.fn id [.rf 0 1 0 0]] [.g 1 [.w (.int .i64 now)]]
 | [.agg [.w (.int .i64 gn),.w (.int .u8 ph),.ms 0 3 0 n],.w (.int .i64 i),.fn id []],[.g 3 xs] => yng [.agg [.w (.int .i64 gn),.w (.int .u8 ph),.ms 0 3 0 n],.w (.int .i64 i),.fn id []] [.g 3 xs]
 | _,_ => zbg
theorem yia : zcx Try.prog 28 yib := by
 intro xs pins hp
 unfold yib at hp ⊢
 split at hp
 ·exact zrn _ _ hp
 ·exact yhz _ _ hp
 ·exact hp.elim
def zow (f : FuncId) : Option zan :=
 match f with
 | 35 => some zrd
 | 29 => some zgo
 | 37 => some alyS
 | 16 => some namS
 | 38 => some ofS
 | _ => none
theorem ysc : Fns Try.prog zow := by
 intro f s h
 unfold zow at h
 split at h
 ·injection h with h; subst h; exact ⟨⟨_,Try.func35,by kernel_rfl,by kernel_rfl⟩,yem⟩
 ·injection h with h; subst h; exact ⟨⟨_,Try.func29,by kernel_rfl,by kernel_rfl⟩,znn⟩
 ·injection h with h; subst h; exact ⟨⟨_,Try.func37,by kernel_rfl,by kernel_rfl⟩,yab⟩
 ·injection h with h; subst h; exact ⟨⟨_,Try.func16,by kernel_rfl,by kernel_rfl⟩,yks⟩
 ·injection h with h; subst h; exact ⟨⟨_,Try.func38,by kernel_rfl,by kernel_rfl⟩,yqa⟩
 ·cases h
def zwj (f : FuncId) : Option zan :=
 match f with
 | 28 => some yib
 | _ => none
theorem yst : FnsO Try.prog zwj := by
 intro f s h
 unfold zwj at h
 split at h
 ·injection h with h; subst h; exact ⟨⟨_,Try.func28,by kernel_rfl,by kernel_rfl⟩,yia⟩
 ·cases h
def syPl : zfi := fun id => match id with
 | 4 => .drs [] 4
 | 5 => .opn [] 2
 | 8 => .wkp [(0,2),(0,5)]
 | _ => .std
section
set_option maxRecDepth 100000
set_option maxHeartbeats 16000000
theorem ypk : zaz Try.prog 11 syS := by
 refine zbo (S := zow) (SO := zwj) (T := ty) mixed ty_ok ysc yst Try.func11 (c := Try.f11.body.getD .skip) (by kernel_rfl) (fun xs pins hp _ => ?_)
 unfold syS at hp ⊢
 split at hp
 ·rename_i gn ph xs f v gen parts now _
  obtain ⟨hL0,l,rfl,hd⟩ := hp
  rw [List.length_map] at hL0
  have hle : (l.map mbA).length = l.length := by simp
  have hL : l.length ≤ 1000000 := by omega
  have hL9 : l.length ≤ 9223372036854775807 := by omega
  have hLj : l.length ≤ 900000 := by omega
  have hex : ∃ k : List Mb,l.map mbA = k.map mbA := ⟨l,rfl⟩
  have hxd : ∃ k : List Mb,l.map mbA = k.map mbA ∧ ∀ r ∈ k,r.d.length ≤ 9223372036854775807 := ⟨l,rfl,hd⟩
  have coeN : ∀ f,coe ty 29 (.sg 3 [] f) = .sg 3 [] f := fun f => rfl
  rw [zaj]
  unfold syF
  by_cases he : (fiF gn ph l v gen now).2 = 0
  ·rw [if_pos he]
   obtain ⟨hc,hT,hf,rfl,hfi⟩ := zrc he
   rw [hfi] at he
   have hsr := ynh hc
   have hth := ydq hsr hf
   obtain ⟨I,hI2⟩ : ∃ I,l.findIdx (isD v) = I := ⟨_,rfl⟩
   rw [hI2] at hf hfi ⊢
   have q0 : decide ((0 : Int) = 0) = true := rfl
   unfold yix
   have hn1 : nmL (l.set I (zdt now (mbI l I))) = nmL l := zxm _ _ _ hf rfl
   generalize hQ : l.set I (zdt now (mbI l I)) = Q at *
   have hQl : Q.length = l.length := by rw [← hQ,List.length_set]
   have hn2 : nmL (Q.set I (yesM (mbI Q I))) = nmL l := (zxm Q I (yesM (mbI Q I)) (by omega) rfl).trans hn1
   generalize hW : Q.set I (yesM (mbI Q I)) = W at *
   have hWl : W.length = l.length := by rw [← hW,List.length_set]; exact hQl
   have hwm : (W.map mbA).length = l.length := by simp [hWl]
   have hqm : (Q.map mbA).length = l.length := by simp [hQl]
   have hk1 : decide (0 + l.length ≤ (W.map mbA).length) = true := decide_eq_true (by simp; omega)
   have hk2 : List.take l.length (W.map mbA) = W.map mbA := List.take_of_length_le (by simp; omega)
   have hIn : ((I : Int) < (l.length : Int)) = True := eq_true (by omega)
   have hI0 : ((0 : Int) ≤ (I : Int)) = True := eq_true (by omega)
   have hl0 : (0 < l.length) = True := eq_true (by omega)
   have hld : decide (0 < l.length) = true := decide_eq_true (by omega)
   have hexQ : ∃ k : List Mb,Q.map mbA = k.map mbA := ⟨Q,rfl⟩
   have hexW : ∃ k : List Mb,W.map mbA = k.map mbA := ⟨W,rfl⟩
   have hnm : (W.map fun m => AV.str m.d) = (nmL l).map AV.str := by rw [ytn,hn2]
   refine ⟨by simp,syPl,by kernel_rfl,?_⟩
   unfold Try.f11
   iterate 8
    try rw [zaa]
    try simp (config := { maxSteps := 3000000 }) only [go_sem,zaa,↓reduceIte,lcT,-zaa,ty,zow,zwj,syPl,zrd,zgo,yib,chaS,zav,coeN,hle,hL,hL9,hLj,hex,hxd,zaj,zad,zaq,zaf,zcc,Int.toNat_natCast,Bool.not_true,Bool.not_false,decide_true,true_or,or_true,hfi,q0]
    repeat (refine And.intro (by first | omega | exact zbi | exact ⟨by omega,by omega⟩ | exact ⟨rfl,rfl⟩ | (unfold top; omega)) ?_)
   refine ⟨_,_,Weak.refl _,?_⟩
   have hmW := zaj W
   have hclW : (∀ y ∈ W.map mbA,y.closed = true) := fun y hy => zbi y hy
   have hclT : (∀ y ∈ W.map mbA,y.closed = true) = True := eq_true hclW
   have hnl : ((nmL l).map AV.str).length = l.length := by simp [nmL]
   have hexN : ∃ k : List (List UInt8),(nmL l).map AV.str = k.map AV.str ∧ srtT k ∧ thT v k = true := ⟨_,rfl,hsr,hth⟩
   have hmN := zid (nmL l)
   cases hA : allY W with
   | true =>
    iterate 6
     try rw [zaa]
     try simp (config := { maxSteps := 3000000 }) only [go_sem,zaa,↓reduceIte,lcT,-zaa,ty,zow,zwj,syPl,zrd,zgo,yib,chaS,yng,alyS,zav,coeN,hle,hL,hL9,hLj,hex,hxd,zaj,zad,zaq,zaf,zcc,Int.toNat_natCast,Bool.not_true,Bool.not_false,decide_true,true_or,or_true,hfi,q0,hQ,hIn,hI0,hW,hqm,hwm,hl0,hld,hexQ,hexW,hA,hk2,hclT]
     repeat (refine And.intro (by first | omega | exact zbi | exact ⟨by omega,by omega⟩ | exact ⟨rfl,rfl⟩ | (unfold top; omega)) ?_)
    unfold wkF
    refine ⟨_,_,zby 196 3 34 (W.map mbA) rfl (zad _) (by simp [slot,AV.ids,idsL]),?_⟩
    simp only [fgL,fgH,AV.fg,Blk.fg,Nat.reduceBEq,cond_true,cond_false,Bool.and_true,beq_self_eq_true,Bool.true_and,List.drop_zero,zcc,hk1,hk2]
    simp (config := { maxSteps := 3000000 }) only [go_sem,zaa,↓reduceIte,lcT,ty,zow,zwj,syPl,namS,ofS,zav,zet,hL,hwm,hexW,hnm,hnl,hexN,hmN,hmW,zad,zaq,zaf]
    refine ⟨_,Weak.refl _,?_⟩
    simp only [go_sem,zaa,↓reduceIte,lcT,ty,zow,syA,zad,zaf]
   | false =>
    iterate 6
     try rw [zaa]
     try simp (config := { maxSteps := 3000000 }) only [go_sem,zaa,↓reduceIte,lcT,-zaa,ty,zow,zwj,syPl,zrd,zgo,yib,chaS,yng,alyS,zav,coeN,hle,hL,hL9,hLj,hex,hxd,zaj,zad,zaq,zaf,zcc,Int.toNat_natCast,Bool.not_true,Bool.not_false,decide_true,true_or,or_true,hfi,q0,hQ,hIn,hI0,hW,hqm,hwm,hl0,hld,hexQ,hexW,hA,hk2,hclT]
     repeat (refine And.intro (by first | omega | exact zbi | exact ⟨by omega,by omega⟩ | exact ⟨rfl,rfl⟩ | (unfold top; omega)) ?_)
    unfold wkF
    refine ⟨_,_,zby 196 3 34 (W.map mbA) rfl (zad _) (by simp [slot,AV.ids,idsL]),?_⟩
    simp only [fgL,fgH,AV.fg,Blk.fg,Nat.reduceBEq,cond_true,cond_false,Bool.and_true,beq_self_eq_true,Bool.true_and,List.drop_zero,zcc,hk1,hk2]
    simp (config := { maxSteps := 3000000 }) only [go_sem,zaa,↓reduceIte,lcT,ty,zow,zwj,syPl,namS,ofS,zav,zet,hL,hwm,hexW,hnm,hnl,hexN,hmN,hmW,zad,zaq,zaf]
    refine ⟨_,Weak.refl _,?_⟩
    simp only [go_sem,zaa,↓reduceIte,lcT,ty,zow,syA,zad,zaf]
  ·rw [if_neg he]
   obtain ⟨⟨a,b⟩,hX⟩ : ∃ X,fiF gn ph l v gen now = X := ⟨_,rfl⟩
   rw [hX] at he ⊢
   have he : b ≠ 0 := he
   have q0 : decide (b = 0) = false := decide_eq_false he
   refine ⟨by simp,syPl,by kernel_rfl,?_⟩
   unfold Try.f11
   iterate 8
    try rw [zaa]
    try simp (config := { maxSteps := 3000000 }) only [go_sem,zaa,↓reduceIte,lcT,-zaa,ty,zow,zwj,syPl,zrd,zgo,chaS,zav,coeN,hle,hL,hL9,hLj,hex,hxd,zaj,zad,zaq,zaf,zcc,Int.toNat_natCast,Bool.not_true,Bool.not_false,decide_true,true_or,or_true,hX,q0]
    repeat (refine And.intro (by first | omega | exact zbi | exact ⟨by omega,by omega⟩ | exact ⟨rfl,rfl⟩ | (unfold top; omega)) ?_)
   try (refine ⟨_,Weak.refl _,?_⟩)
   try simp only [go_sem,zaa,↓reduceIte,lcT,ty,zow,syA,errJ,List.map_nil]
 ·exact hp.elim
end
end Go.Proofs.Ytioldmhhefhelaa
namespace Go.Proofs.Ytioldmhhefhelaa
open Ax
theorem ytp {a q : List UInt8} (h : q < a) : leD a q = false := by
 unfold leD
 rw [zov]
 simp only [Bool.or_eq_false_iff,decide_eq_false_iff_not]
 refine ⟨fun h2 => List.lt_irrefl _ (List.lt_trans h h2),fun e => ?_⟩
 rw [e] at h
 exact List.lt_irrefl _ h
theorem zpz : ∀ (l : List Mb) (p : Option (List UInt8)),zbl p l = true ↔ (∀ m ∈ l,rowB m = true) ∧ srtT (nmL l) ∧ ∀ q,p = some q → ∀ m ∈ l,q < m.d
 | [],p => by
  constructor
  ·intro _; exact ⟨by simp,List.Pairwise.nil,by simp⟩
  ·intro _; cases p <;> rfl
 | a :: r,p => by
  constructor
  ·intro h
   have h0 := zvh (a :: r) p h
   refine ⟨?_,h0⟩
   rw [zey] at h
   intro m hm
   rcases List.mem_cons.1 hm with rfl | hm
   ·exact h.1
   ·exact ((zpz r _).1 h.2.2).1 m hm
  ·rintro ⟨h1,h2,h3⟩
   rw [zey]
   have h2 : srtT (a.d :: nmL r) := h2
   obtain ⟨i1,i2⟩ := List.pairwise_cons.1 h2
   refine ⟨h1 a (by simp),fun q hq => ytp (h3 q hq a (by simp)),(zpz r _).2 ⟨fun m hm => h1 m (by simp [hm]),i2,fun q hq m hm => ?_⟩⟩
   injection hq with hq
   subst hq
   exact i1 _ (List.mem_map.2 ⟨m,hm,rfl⟩)
theorem zke (l : List Mb) : zbl none l = true ↔ (∀ m ∈ l,rowB m = true) ∧ srtT (nmL l) := by
 rw [zpz]
 constructor
 ·rintro ⟨a,b,_⟩; exact ⟨a,b⟩
 ·rintro ⟨a,b⟩; exact ⟨a,b,by simp⟩
theorem ch_iff {gn ph : Int} {l : List Mb} : chG gn ph l = 0 ↔ l.length ≤ 16 ∧ timB gn = true ∧ phB ph l = true ∧ zbl none l = true := by
 unfold chG
 constructor
 ·intro h
  split at h
  ·rename_i hb
   unfold chB at hb
   simp only [Bool.and_eq_true,decide_eq_true_eq] at hb
   exact hb
  ·omega
 ·rintro ⟨a,b,c,d⟩
  rw [if_pos]
  unfold chB
  simp only [Bool.and_eq_true,decide_eq_true_eq]
  exact ⟨a,b,c,d⟩
theorem zpl (l : List Mb) : allY l = true ↔ 0 < l.length ∧ ∀ m ∈ l,m.y = true := by
 unfold allY
 simp only [Bool.and_eq_true,decide_eq_true_eq,Bool.not_eq_true',decide_eq_false_iff_not,List.findIdx_lt_length]
 constructor
 ·rintro ⟨h1,h2⟩
  refine ⟨h1,fun m hm => ?_⟩
  cases hy : m.y with
  | true => rfl
  | false => exact (h2 ⟨m,hm,by unfold offY; rw [hy]; rfl⟩).elim
 ·rintro ⟨h1,h2⟩
  refine ⟨h1,?_⟩
  rintro ⟨m,hm,h3⟩
  have := h2 m hm
  unfold offY at h3
  rw [this] at h3
  cases h3
theorem zli {l : List Mb} {i : Nat} (h : i < l.length) : mbI l i = l[i] := by
 unfold mbI; rw [List.getElem?_eq_getElem h]; rfl
theorem ydg {l : List Mb} {i : Nat} (x : Mb) (hi : i < l.length) (hd : x.d = (mbI l i).d) (hx : rowB x = true) (h : zbl none l = true) : zbl none (l.set i x) = true := by
 obtain ⟨h1,h2⟩ := (zke l).1 h
 refine (zke _).2 ⟨fun m hm => ?_,?_⟩
 ·rcases List.mem_or_eq_of_mem_set hm with hm | rfl
  ·exact h1 m hm
  ·exact hx
 ·rw [zxm l i x hi hd]; exact h2
theorem ypr {l k : List Mb} (hs : k.Sublist l) (h : zbl none l = true) : zbl none k = true := by
 obtain ⟨h1,h2⟩ := (zke l).1 h
 exact (zke _).2 ⟨fun m hm => h1 m (hs.subset hm),List.Pairwise.sublist (hs.map _) h2⟩
theorem yju {l : List Mb} {i : Nat} (hi : i < l.length) (h : zbl none l = true) : rowB (mbI l i) = true := by
 rw [zli hi]
 exact ((zke l).1 h).1 _ (List.getElem_mem hi)
theorem yjt {m : Mb} {now : Int} (hT : timB now = true) (h : rowB m = true) : rowB (zdt now m) = true := by
 unfold rowB at *
 simp only [Bool.and_eq_true] at *
 refine ⟨h.1,?_⟩
 show timB (mxT m.t now) = true
 unfold mxT
 split
 ·exact hT
 ·exact h.2
theorem yac {l : List Mb} {i : Nat} (hi : i < l.length) (now : Int) : allY (l.set i (zdt now (mbI l i))) = allY l := by
 have e : (l.set i (zdt now (mbI l i))).map Mb.y = l.map Mb.y := by
  refine List.ext_getElem (by simp) fun j h1 h2 => ?_
  simp only [List.getElem_map,List.getElem_set]
  split
  ·rename_i e; subst e
   rw [zli hi]; rfl
  ·rfl
 have key : ∀ k : List Mb,allY k = true ↔ 0 < (k.map Mb.y).length ∧ ∀ b ∈ k.map Mb.y,b = true := fun k => by
  rw [zpl]; simp
 have : allY (l.set i (zdt now (mbI l i))) = true ↔ allY l = true := by rw [key,key,e]
 cases h1 : allY (l.set i (zdt now (mbI l i))) <;> cases h2 : allY l <;> simp_all
theorem ph_seen {l : List Mb} {i : Nat} {ph : Int} (hi : i < l.length) (now : Int) : phB ph (l.set i (zdt now (mbI l i))) = phB ph l := by
 unfold phB
 rw [yac hi,List.length_set]
theorem ycf {gn ph : Int} {l : List Mb} {i : Nat} {now : Int} (hi : i < l.length) (hT : timB now = true) (h : chG gn ph l = 0) : chG gn ph (l.set i (zdt now (mbI l i))) = 0 := by
 obtain ⟨h1,h2,h3,h4⟩ := ch_iff.1 h
 exact ch_iff.2 ⟨by rw [List.length_set]; exact h1,h2,by rw [ph_seen hi]; exact h3,ydg _ hi rfl (yjt hT (yju hi h4)) h4⟩
structure zsx (gn : Int) (l : List Mb) (g p : Int) (k : List Mb) : Prop where
 ch : chG g p k = 0
 ge : gn ≤ g
 same : k.length = l.length ↔ g = gn
 off : k.length ≠ l.length → ∀ m ∈ k,m.y = false
theorem zvc {gn ph p : Int} {l k : List Mb} (hk : k.length = l.length) (h : chG gn p k = 0) : zsx gn l gn p k :=
 ⟨h,Int.le_refl _,⟨fun _ => rfl,fun _ => hk⟩,fun h => (h hk).elim⟩
theorem clr_off (k : List Mb) : ∀ m ∈ k.map clrM,m.y = false := by
 intro m hm
 obtain ⟨x,_,rfl⟩ := List.mem_map.1 hm
 rfl
theorem ypi {gn : Int} (h : timB gn = true) (hne : gn ≠ 1099511627776) : timB (gn + 1) = true := by
 unfold timB at *
 simp only [Bool.and_eq_true,decide_eq_true_eq] at *
 omega
theorem ph_clr (k : List Mb) : phB (if k.length = 0 then 0 else 1) (k.map clrM) = true := by
 unfold phB
 rw [List.length_map]
 split
 ·rfl
 ·rename_i h
  have : allY (k.map clrM) = false := by
   cases ha : allY (k.map clrM) with
   | false => rfl
   | true =>
    obtain ⟨h1,h2⟩ := (zpl _).1 ha
    cases k with
    | nil => simp at h
    | cons a r =>
     have := h2 (clrM a) (by simp)
     cases this
  rw [this]; rfl
theorem yda {gn ph : Int} {l k : List Mb} (hc : chG gn ph l = 0) (hne : gn ≠ 1099511627776) (hk : k.length ≠ l.length) (hl : k.length ≤ 16) (hr : zbl none k = true) : zsx gn l (gn + 1) (if k.length = 0 then 0 else 1) (k.map clrM) := by
 obtain ⟨h1,h2,h3,h4⟩ := ch_iff.1 hc
 refine ⟨ch_iff.2 ⟨by rw [List.length_map]; exact hl,ypi h2 hne,ph_clr k,by rw [zvi]; exact hr⟩,by omega,⟨fun h => ?_,fun h => by omega⟩,fun _ => clr_off k⟩
 rw [List.length_map] at h
 exact (hk h).elim
theorem step_jo {gn ph : Int} {l : List Mb} {v : List UInt8} {now : Int} (h : (joF gn ph l v now).e = 0) : zsx gn l (joF gn ph l v now).g (joF gn ph l v now).p (joF gn ph l v now).l := by
 obtain ⟨hc,hI,hT,h2 | h2⟩ := jo_ok20 h
 ·rw [h2.2]
  exact zvc (ph := ph) (by simp) (ycf h2.1 hT hc)
 ·have hne : gn ≠ 1099511627776 := fun e => by
   have h9 : ¬ 16 ≤ l.length := by omega
   unfold joF at h
   rw [if_pos hc,if_pos hI,if_pos hT,if_neg h2.1,if_neg h9,if_pos e] at h
   exact absurd h (by decide)
  obtain ⟨h1,_,_,hr⟩ := ch_iff.1 hc
  have hri := ydh hI hT l none hr (fun q e => by cases e) (zxk h2.1) (now := now)
  have hlen := zlp v now l
  rw [List.length_map] at hlen
  have := yda (k := insM v now l) hc hne (by omega) (by omega) hri
  rw [if_neg (by omega)] at this
  rw [h2.2.2]
  exact this
theorem step_be {gn ph : Int} {l : List Mb} {v : List UInt8} {gen now : Int} (h : (beF gn ph l v gen now).e = 0) : zsx gn l (beF gn ph l v gen now).g (beF gn ph l v gen now).p (beF gn ph l v gen now).l := by
 unfold beF at h ⊢
 by_cases he : (fiF gn ph l v gen now).2 = 0
 ·rw [if_pos he] at h ⊢
  obtain ⟨hc,hT,hf,_,_⟩ := zrc he
  exact zvc (ph := ph) (by simp) (ycf hf hT hc)
 ·rw [if_neg he] at h
  exact absurd h he
theorem step_sy {gn ph : Int} {l : List Mb} {v : List UInt8} {gen parts now : Int} (h : (syF gn ph l v gen parts now).r.e = 0) : zsx gn l (syF gn ph l v gen parts now).r.g (syF gn ph l v gen parts now).r.p (syF gn ph l v gen parts now).r.l := by
 unfold syF at h ⊢
 by_cases he : (fiF gn ph l v gen now).2 = 0
 ·rw [if_pos he] at h ⊢
  obtain ⟨hc,hT,hf,_,_⟩ := zrc he
  have hc2 := ycf hf hT hc
  have hal := yac hf now
  unfold yix
  have hlen : (l.set (l.findIdx (isD v)) (zdt now (mbI l (l.findIdx (isD v))))).length = l.length := List.length_set
  obtain ⟨I,hI⟩ : ∃ I,l.findIdx (isD v) = I := ⟨_,rfl⟩
  rw [hI] at hc2 hal hf hlen ⊢
  obtain ⟨Q,hQ⟩ : ∃ Q,l.set I (zdt now (mbI l I)) = Q := ⟨_,rfl⟩
  rw [hQ] at hc2 hal hlen ⊢
  obtain ⟨h1,h2,h3,h4⟩ := ch_iff.1 hc2
  have hfQ : I < Q.length := by omega
  have hwl : (Q.set I (yesM (mbI Q I))).length = Q.length := List.length_set
  have hrW : zbl none (Q.set I (yesM (mbI Q I))) = true := ydg _ hfQ rfl (yju (l := Q) hfQ h4) h4
  refine zvc (ph := ph) (by show (Q.set I _).length = _; omega) (ch_iff.2 ⟨by show (Q.set I _).length ≤ _; omega,h2,?_,hrW⟩)
  show phB (if allY (Q.set I (yesM (mbI Q I))) = true then 2 else ph) (Q.set I (yesM (mbI Q I))) = true
  unfold phB at h3 ⊢
  rw [hwl,if_neg (by omega)]
  rw [if_neg (by omega)] at h3
  cases hW : allY (Q.set I (yesM (mbI Q I))) with
  | true => simp
  | false =>
   have hQf : allY Q = false := by
    cases hq : allY Q with
    | false => rfl
    | true =>
     obtain ⟨a1,a2⟩ := (zpl Q).1 hq
     have : allY (Q.set I (yesM (mbI Q I))) = true := (zpl _).2 ⟨by omega,fun m hm => by
      rcases List.mem_or_eq_of_mem_set hm with hm | rfl
      ·exact a2 m hm
      ·rfl⟩
     rw [hW] at this
     cases this
   rw [hQf] at h3
   simpa using h3
 ·rw [if_neg he] at h
  exact absurd h he
theorem step_le {gn ph : Int} {l : List Mb} {v : List UInt8} (h : (leF gn ph l v).e = 0) : zsx gn l (leF gn ph l v).g (leF gn ph l v).p (leF gn ph l v).l := by
 unfold leF at h ⊢
 by_cases hc : chG gn ph l = 0
 ·rw [if_pos hc] at h ⊢
  by_cases hf : l.findIdx (isD v) < l.length
  ·rw [if_pos hf] at h ⊢
   by_cases hg : gn = 1099511627776
   ·rw [if_pos hg] at h; exact absurd h (by decide)
   ·rw [if_neg hg]
    obtain ⟨h1,_,_,hr⟩ := ch_iff.1 hc
    have hel : (l.eraseIdx (l.findIdx (isD v))).length = l.length - 1 := List.length_eraseIdx_of_lt hf
    exact yda hc hg (by omega) (by omega) (ypr (List.eraseIdx_sublist _ _) hr)
  ·rw [if_neg hf] at h; exact absurd h (by decide)
 ·rw [if_neg hc] at h; exact absurd h hc
end Go.Proofs.Ytioldmhhefhelaa
namespace Go.Proofs.Ytioldmhhefhelaa
open Ax
theorem zch (l : List Mb) (f : Bool) : coe ty 22 (.sg 3 (l.map mbA) f) = .sg 3 (l.map mbA) f := by cases l <;> rfl
section
set_option maxRecDepth 100000
set_option maxHeartbeats 4000000
theorem zno : zaz Try.prog 47 timS := by
 refine zbc (S := noS) (T := ty) mixed ty_ok zbh Try.func47 (c := Try.f47.body.getD .skip) (by kernel_rfl) (by kernel_rfl) (fun xs pins hp _ => ?_)
 unfold timS at hp ⊢
 split at hp
 ·rename_i n _
  refine ⟨by simp,?_⟩
  unfold Try.f47 timB
  cases d1 : decide (0 ≤ n) <;> cases d2 : decide (n ≤ 1099511627776) <;> simp only [go_sem,zab,↓reduceIte,ty,noS,d1,d2,Bool.and_true,Bool.and_false,Bool.not_true,Bool.not_false]
 ·exact hp.elim
theorem zti : zaz Try.prog 46 zce := by
 refine zbc (S := noS) (T := ty) mixed ty_ok zbh Try.func46 (c := Try.f46.body.getD .skip) (by kernel_rfl) (by kernel_rfl) (fun xs pins hp _ => ?_)
 unfold zce at hp ⊢
 split at hp
 ·rename_i d _
  refine ⟨by simp,?_⟩
  unfold Try.f46 idB
  cases d1 : decide ((1 : Int) ≤ (d.length : Int)) <;> cases d2 : decide ((d.length : Int) ≤ 32) <;> simp only [go_sem,zab,↓reduceIte,ty,noS,d1,d2,Bool.and_true,Bool.and_false,Bool.not_true,Bool.not_false]
 ·exact hp.elim
theorem zkd : zaz Try.prog 44 zbq := by
 refine zbc (S := noS) (T := ty) mixed ty_ok zbh Try.func44 (c := Try.f44.body.getD .skip) (by kernel_rfl) (by kernel_rfl) (fun xs pins hp _ => ?_)
 unfold zbq at hp ⊢
 split at hp
 ·rename_i gn ph xs f v _
  obtain ⟨hL,l,rfl⟩ := hp
  rw [List.length_map] at hL
  have hle : (l.map mbA).length = l.length := by simp
  rw [zaj]
  unfold ixG
  refine ⟨by simp,?_⟩
  unfold Try.f44
  simp only [go_sem,zab,↓reduceIte,ty,noS,hle,zch]
  refine zbf ⟨fun m σ => ∃ (i : Nat),m = l.length - i ∧ i ≤ l.length ∧ (l.drop i).findIdx (isD v) + i = l.findIdx (isD v) ∧
    σ = ⟨[.agg [.w (.int .i64 gn),.w (.int .u8 ph),.sg 3 (l.map mbA) f],.str v,.rf 4 3 0 0,.junk,.w (.int .i64 0),.w (.int .i64 i),.junk,.junk,.junk,.junk,.junk,.junk,.junk,.junk,.junk,.junk,.junk,.junk,.junk,.junk,.junk,.junk],[(4,.g 3 [.agg [.w (.int .i64 gn),.w (.int .u8 ph),.sg 3 (l.map mbA) f]])],5⟩,?_,?_⟩
  ·refine ⟨_,_,zag [0,1,2,3,4] rfl rfl rfl ?_ ?_,0,rfl,by omega,by rw [List.drop_zero]; rfl,rfl⟩
   all_goals (simp only [ssT,zal,zam,setSlot,gOf,AV.ren,renL,Blk.ren,Ax.look,Ax.put,reduceCtorEq,↓reduceIte,Nat.reduceEqDiff,Nat.reduceLT,Nat.reduceAdd,List.length_append,List.length_cons,List.length_nil,Option.some.injEq,zaf]; try simp)
  ·rintro m σ ⟨i,rfl,hi,hinv,rfl⟩
   by_cases hil : i < l.length
   ·have d1x : decide ((i : Int) < l.length) = true := decide_eq_true (by omega)
    have e1 : ((i : Int) + 1 + 9223372036854775808) % 18446744073709551616 - 9223372036854775808 = ((i + 1 : Nat) : Int) := by omega
    have hs1 := zbe l i hil
    cases hv : (isD v) l[i] with
    | true =>
     have hfi := zha _ l i hil hv hinv
     rw [hfi,if_pos hil]
     obtain ⟨r,hr1⟩ : ∃ r,l[i] = r := ⟨_,rfl⟩
     rw [hr1] at hs1 hv
     obtain ⟨d1,t1,y1⟩ := r
     have hs1 : slot (l.map mbA) i = .agg [.str d1,.w (.int .i64 t1),.w (.bool y1)] := hs1
     have hv : decide (d1 = v) = _ := hv
     simp only [go_sem,zab,↓reduceIte,ty,noS,hle,d1x,hs1,hv,Int.toNat_natCast,Bool.not_true,Bool.not_false]
     repeat (first | refine And.intro (by omega) ?_ | refine And.intro ⟨by omega,by omega⟩ ?_)
     try (refine ⟨_,Weak.refl _,?_⟩)
     try simp only [go_sem,zab,↓reduceIte,ty,noS]
    | false =>
     have hfi := zdi _ l i hil hv hinv
     obtain ⟨r,hr1⟩ : ∃ r,l[i] = r := ⟨_,rfl⟩
     rw [hr1] at hs1 hv
     obtain ⟨d1,t1,y1⟩ := r
     have hs1 : slot (l.map mbA) i = .agg [.str d1,.w (.int .i64 t1),.w (.bool y1)] := hs1
     have hv : decide (d1 = v) = _ := hv
     simp only [go_sem,zab,↓reduceIte,ty,noS,hle,d1x,hs1,hv,e1,Int.toNat_natCast,Bool.not_true,Bool.not_false]
     repeat (first | refine And.intro (by omega) ?_ | refine And.intro ⟨by omega,by omega⟩ ?_)
     refine ⟨l.length - (i + 1),_,by omega,zag [0,1,2,3,4] rfl rfl rfl ?_ ?_,i + 1,rfl,by omega,hfi,rfl⟩
     all_goals (simp only [ssT,zal,zam,setSlot,gOf,AV.ren,renL,Blk.ren,Ax.look,Ax.put,reduceCtorEq,↓reduceIte,Nat.reduceEqDiff,Nat.reduceLT,Nat.reduceAdd,List.length_append,List.length_cons,List.length_nil,Option.some.injEq,zaf]; try simp)
   ·have d1x : decide ((i : Int) < l.length) = false := decide_eq_false (by omega)
    have hfi := zes _ l i (by omega) hi hinv
    rw [hfi,if_neg (Nat.lt_irrefl _)]
    simp only [go_sem,zab,↓reduceIte,ty,noS,hle,d1x]
    refine ⟨_,Weak.refl _,?_⟩
    simp only [go_sem,zab,↓reduceIte,ty,noS]
 ·exact hp.elim
theorem zth : zaz Try.prog 50 alyS := by
 refine zbc (S := noS) (T := ty) mixed ty_ok zbh Try.func50 (c := Try.f50.body.getD .skip) (by kernel_rfl) (by kernel_rfl) (fun xs pins hp _ => ?_)
 unfold alyS at hp ⊢
 split at hp
 ·rename_i gn ph xs f _
  obtain ⟨hL,l,rfl⟩ := hp
  rw [List.length_map] at hL
  have hle : (l.map mbA).length = l.length := by simp
  rw [zaj]
  unfold allY
  refine ⟨by simp,?_⟩
  unfold Try.f50
  simp only [go_sem,zab,↓reduceIte,ty,noS,hle,zch]
  refine zbf ⟨fun m σ => ∃ (i : Nat),m = l.length - i ∧ i ≤ l.length ∧ (l.drop i).findIdx offY + i = l.findIdx offY ∧
    σ = ⟨[.agg [.w (.int .i64 gn),.w (.int .u8 ph),.sg 3 (l.map mbA) f],.rf 4 3 0 0,.w (.bool false),.w (.int .i64 i),.junk,.junk,.junk,.junk,.junk,.junk,.junk,.junk,.junk,.junk,.junk,.junk,.junk,.junk,.junk,.junk,.junk,.junk],[(4,.g 3 [.agg [.w (.int .i64 gn),.w (.int .u8 ph),.sg 3 (l.map mbA) f]])],5⟩,?_,?_⟩
  ·refine ⟨_,_,zag [0,1,2,3,4] rfl rfl rfl ?_ ?_,0,rfl,by omega,by rw [List.drop_zero]; rfl,rfl⟩
   all_goals (simp only [ssT,zal,zam,setSlot,gOf,AV.ren,renL,Blk.ren,Ax.look,Ax.put,reduceCtorEq,↓reduceIte,Nat.reduceEqDiff,Nat.reduceLT,Nat.reduceAdd,List.length_append,List.length_cons,List.length_nil,Option.some.injEq,zaf]; try simp)
  ·rintro m σ ⟨i,rfl,hi,hinv,rfl⟩
   by_cases hil : i < l.length
   ·have d1x : decide ((i : Int) < l.length) = true := decide_eq_true (by omega)
    have e1 : ((i : Int) + 1 + 9223372036854775808) % 18446744073709551616 - 9223372036854775808 = ((i + 1 : Nat) : Int) := by omega
    have hs1 := zbe l i hil
    cases hv : offY l[i] with
    | true =>
     have hfi := zha _ l i hil hv hinv
     rw [hfi,decide_eq_true hil,Bool.not_true,Bool.and_false]
     obtain ⟨r,hr1⟩ : ∃ r,l[i] = r := ⟨_,rfl⟩
     rw [hr1] at hs1 hv
     obtain ⟨d1,t1,y1⟩ := r
     have hs1 : slot (l.map mbA) i = .agg [.str d1,.w (.int .i64 t1),.w (.bool y1)] := hs1
     have hv : (!y1) = true := hv
     simp only [go_sem,zab,↓reduceIte,ty,noS,hle,d1x,hs1,hv,Int.toNat_natCast,Bool.not_true,Bool.not_false]
     repeat (first | refine And.intro (by omega) ?_ | refine And.intro ⟨by omega,by omega⟩ ?_)
     try (refine ⟨_,Weak.refl _,?_⟩)
     try simp only [go_sem,zab,↓reduceIte,ty,noS]
    | false =>
     have hfi := zdi _ l i hil hv hinv
     obtain ⟨r,hr1⟩ : ∃ r,l[i] = r := ⟨_,rfl⟩
     rw [hr1] at hs1 hv
     obtain ⟨d1,t1,y1⟩ := r
     have hs1 : slot (l.map mbA) i = .agg [.str d1,.w (.int .i64 t1),.w (.bool y1)] := hs1
     have hv : (!y1) = false := hv
     simp only [go_sem,zab,↓reduceIte,ty,noS,hle,d1x,hs1,hv,e1,Int.toNat_natCast,Bool.not_true,Bool.not_false]
     repeat (first | refine And.intro (by omega) ?_ | refine And.intro ⟨by omega,by omega⟩ ?_)
     refine ⟨l.length - (i + 1),_,by omega,zag [0,1,2,3,4] rfl rfl rfl ?_ ?_,i + 1,rfl,by omega,hfi,rfl⟩
     all_goals (simp only [ssT,zal,zam,setSlot,gOf,AV.ren,renL,Blk.ren,Ax.look,Ax.put,reduceCtorEq,↓reduceIte,Nat.reduceEqDiff,Nat.reduceLT,Nat.reduceAdd,List.length_append,List.length_cons,List.length_nil,Option.some.injEq,zaf]; try simp)
   ·have d1x : decide ((i : Int) < l.length) = false := decide_eq_false (by omega)
    have hfi := zes _ l i (by omega) hi hinv
    have hnn : decide (l.length < l.length) = false := decide_eq_false (Nat.lt_irrefl _)
    rw [hfi,hnn,Bool.not_false,Bool.and_true]
    have hdd : decide ((0 : Int) < (l.length : Int)) = decide (0 < l.length) := by
     by_cases h : 0 < l.length
     ·rw [decide_eq_true h,decide_eq_true (by omega)]
     ·rw [decide_eq_false h,decide_eq_false (by omega)]
    simp only [go_sem,zab,↓reduceIte,ty,noS,hle,d1x]
    refine ⟨_,Weak.refl _,?_⟩
    simp only [go_sem,zab,↓reduceIte,ty,noS,hle,hdd]
 ·exact hp.elim
end
end Go.Proofs.Ytioldmhhefhelaa
namespace Go.Proofs.Ytioldmhhefhelaa
open Ax
def zcf : zan
 | [.agg [.w (.int .i64 gn),.w (.int .u8 ph),.sg 3 xs f]],[] => ⟨0 ≤ ph ∧ xs.length ≤ 900000 ∧ ∃ l : List Mb,xs = l.map mbA ∧ ∀ r ∈ l,r.d.length ≤ 9223372036854775807,.w (.int .i64 (chG gn ph (xs.map umb))),[]⟩
 | _,_ => zbg
theorem leD_ge (a q : List UInt8) : leD a q = !(Op.bytesLess q a) := by
 cases h : Op.bytesLess q a with
 | true => rw [zov] at h; exact ytp (of_decide_eq_true h)
 | false =>
  unfold leD
  by_cases e : a = q
  ·rw [decide_eq_true e,Bool.or_true]; rfl
  ·rw [ynz (fun x => e x.symm) h]; rfl
def zsk (l : List Mb) : Nat → Option (List UInt8)
 | 0 => none
 | i + 1 => some (mbI l i).d
def zfj (f : FuncId) : Option zan :=
 match f with
 | 47 => some timS
 | 46 => some zce
 | 50 => some alyS
 | _ => none
theorem yos : Fns Try.prog zfj := by
 intro f s h
 unfold zfj at h
 split at h
 ·injection h with h; subst h; exact ⟨⟨_,Try.func47,by kernel_rfl,by kernel_rfl⟩,zno⟩
 ·injection h with h; subst h; exact ⟨⟨_,Try.func46,by kernel_rfl,by kernel_rfl⟩,zti⟩
 ·injection h with h; subst h; exact ⟨⟨_,Try.func50,by kernel_rfl,by kernel_rfl⟩,zth⟩
 ·cases h
def zle : Plan := fun id => match id with
 | 7 => some []
 | 9 => some [(9,13),(10,13),(11,13)]
 | _ => none
section
set_option maxRecDepth 100000
set_option maxHeartbeats 16000000
theorem zmk : zaz Try.prog 45 zcf := by
 refine zfg (S := zfj) (T := ty) (pl := zle) mixed ty_ok yos Try.func45 (c := Try.f45.body.getD .skip) (by kernel_rfl) (by kernel_rfl) (fun xs pins hp _ => ?_)
 unfold zcf at hp ⊢
 split at hp
 ·rename_i gn ph xs f _
  obtain ⟨hph,hL,l,rfl,hd⟩ := hp
  rw [List.length_map] at hL
  have hle : (l.map mbA).length = l.length := by simp
  have hL9 : l.length ≤ 9223372036854775807 := by omega
  have hex : ∃ k : List Mb,l.map mbA = k.map mbA := ⟨l,rfl⟩
  rw [zaj]
  unfold chG
  refine ⟨by simp,?_⟩
  unfold Try.f45
  have hF := And.intro hle <| And.intro hL9 <| And.intro hex <| And.intro zch <| And.intro zaj <| And.intro zad zaq
  by_cases h16 : l.length ≤ 16
  ·have q1 : decide ((16 : Int) < (l.length : Int)) = false := decide_eq_false (by omega)
   cases hT : timB gn with
   | false =>
    have hb : chB gn ph l = false := by unfold chB; rw [hT]; simp
    rw [hb]
    simp only [go_sem,zac,↓reduceIte,lcT,ty,zfj,zle,timS,hF,q1,hT,Bool.not_true,Bool.not_false]
    exact zbu 2 rfl
   | true =>
    by_cases hp2 : 2 < ph
    ·have q2 : decide (2 < ph) = true := decide_eq_true hp2
     have hb : chB gn ph l = false := by
      unfold chB phB
      have h0 : decide (ph = 0) = false := decide_eq_false (by omega)
      have h1 : decide (ph = 1) = false := decide_eq_false (by omega)
      have h2 : decide (ph = 2) = false := decide_eq_false (by omega)
      rw [h0,h1,h2]; simp
     rw [hb]
     simp only [go_sem,zac,↓reduceIte,lcT,ty,zfj,zle,timS,hF,q1,q2,hT,Bool.not_true,Bool.not_false]
     exact zbu 2 rfl
    ·have q2 : decide (2 < ph) = false := decide_eq_false hp2
     simp only [go_sem,zac,↓reduceIte,lcT,ty,zfj,zle,timS,hF,q1,q2,hT,Bool.not_true,Bool.not_false]
     refine zhu ⟨fun m σ => ∃ (i : Nat),m = l.length - i ∧ i ≤ l.length ∧ zbl none l = zbl (zsk l i) (l.drop i) ∧
       σ = ⟨[.agg [.w (.int .i64 gn),.w (.int .u8 ph),.sg 3 (l.map mbA) f],.rf 4 3 0 0,.w (.int .i64 0),.w (.int .i64 i),.junk,.junk,.junk,.junk,.junk,.junk,.junk,.junk,.junk,.junk,.junk,.junk,.junk,.junk,.junk,.junk,.junk,.junk,.junk,.junk,.junk,.junk,.junk,.junk,.junk,.junk,.junk,.junk,.junk,.junk,.junk,.junk,.junk,.junk,.junk,.junk,.junk,.junk,.junk,.junk,.junk,.junk,.junk,.junk,.junk,.junk,.junk,.junk,.junk,.junk,.junk,.junk,.junk,.junk,.junk,.junk,.junk,.junk,.junk,.junk,.junk,.junk,.junk,.junk,.junk,.junk,.junk,.junk,.junk,.junk],[(4,.g 3 [.agg [.w (.int .i64 gn),.w (.int .u8 ph),.sg 3 (l.map mbA) f]])],5⟩,?_,?_⟩
     ·refine ⟨_,_,zag [0,1,2,3,4] rfl rfl rfl ?_ ?_,0,rfl,by omega,by rw [List.drop_zero]; rfl,rfl⟩
      all_goals (simp only [ssT,zal,zam,setSlot,gOf,AV.ren,renL,Blk.ren,Ax.look,Ax.put,reduceCtorEq,↓reduceIte,Nat.reduceEqDiff,Nat.reduceLT,Nat.reduceAdd,List.length_append,List.length_cons,List.length_nil,Option.some.injEq,zaf]; try simp)
     ·rintro m σ ⟨i,rfl,hi,hinv,rfl⟩
      have e1 : ((i : Int) + 1 + 9223372036854775808) % 18446744073709551616 - 9223372036854775808 = ((i + 1 : Nat) : Int) := by omega
      by_cases hil : i < l.length
      ·have d1x : decide ((i : Int) < l.length) = true := decide_eq_true (by omega)
       have hs1 := zbe l i hil
       have hdl := hd l[i] (List.getElem_mem hil)
       have hmi := zli hil
       have hdr : l.drop i = l[i] :: l.drop (i + 1) := List.drop_eq_getElem_cons hil
       rw [hdr] at hinv
       obtain ⟨r,hr1⟩ : ∃ r,l[i] = r := ⟨_,rfl⟩
       rw [hr1] at hs1 hdl hinv hmi
       obtain ⟨d1,t1,y1⟩ := r
       have hs1 : slot (l.map mbA) i = .agg [.str d1,.w (.int .i64 t1),.w (.bool y1)] := hs1
       have hdl : d1.length ≤ 9223372036854775807 := hdl
       have hbad : ∀ x,zbl (zsk l i) (⟨d1,t1,y1⟩ :: x) = false → chB gn ph l = false → True := fun _ _ _ => trivial
       have hfin : zbl none l = false → (if chB gn ph l = true then (0 : Int) else 4) = 4 := fun h => by unfold chB; rw [h]; simp
       cases hI : idB d1 with
       | false =>
        have hrf : zbl none l = false := by rw [hinv]; cases zsk l i <;> simp [zbl,rowB,hI]
        rw [hfin hrf]
        simp only [go_sem,zac,↓reduceIte,lcT,ty,zfj,zle,timS,zce,hF,d1x,hs1,hdl,hI,Int.toNat_natCast,Bool.not_true,Bool.not_false]
        repeat (first | refine And.intro (by omega) ?_ | refine And.intro ⟨by omega,by omega⟩ ?_)
        refine ⟨_,Weak.refl _,?_⟩
        simp only [go_sem,zac,↓reduceIte,lcT,ty,zfj,zle]
        exact zbu 2 rfl
       | true =>
        cases hT1 : timB t1 with
        | false =>
         have hrf : zbl none l = false := by rw [hinv]; cases zsk l i <;> simp [zbl,rowB,hT1]
         rw [hfin hrf]
         simp only [go_sem,zac,↓reduceIte,lcT,ty,zfj,zle,timS,zce,hF,d1x,hs1,hdl,hI,hT1,Int.toNat_natCast,Bool.not_true,Bool.not_false]
         repeat (first | refine And.intro (by omega) ?_ | refine And.intro ⟨by omega,by omega⟩ ?_)
         refine ⟨_,Weak.refl _,?_⟩
         simp only [go_sem,zac,↓reduceIte,lcT,ty,zfj,zle]
         exact zbu 2 rfl
        | true =>
         cases i with
         | zero =>
          have d0 : decide ((0 : Int) < ((0 : Nat) : Int)) = false := rfl
          have hnx : zbl none l = zbl (zsk l (0 + 1)) (l.drop (0 + 1)) := by
           rw [hinv]; simp [zbl,rowB,zsk,hI,hT1,hmi]
          simp only [go_sem,zac,↓reduceIte,lcT,ty,zfj,zle,timS,zce,hF,d1x,hs1,hdl,hI,hT1,d0,e1,Int.toNat_natCast,Bool.not_true,Bool.not_false]
          repeat (first | refine And.intro (by omega) ?_ | refine And.intro ⟨by omega,by omega⟩ ?_)
          refine ⟨l.length - (0 + 1),_,by omega,zag [0,1,2,3,4] rfl rfl rfl ?_ ?_,0 + 1,rfl,by omega,hnx,rfl⟩
          all_goals (simp only [ssT,zal,zam,setSlot,gOf,AV.ren,renL,Blk.ren,Ax.look,Ax.put,reduceCtorEq,↓reduceIte,Nat.reduceEqDiff,Nat.reduceLT,Nat.reduceAdd,List.length_append,List.length_cons,List.length_nil,Option.some.injEq,zaf]; try simp)
         | succ j =>
          have d0 : decide ((0 : Int) < ((j + 1 : Nat) : Int)) = true := decide_eq_true (by omega)
          have e2 : (((j + 1 : Nat) : Int) - 1 + 9223372036854775808) % 18446744073709551616 - 9223372036854775808 = ((j : Nat) : Int) := by omega
          have hs2 := zbe l j (by omega)
          have hmj := zli (l := l) (i := j) (by omega)
          obtain ⟨r,hr2⟩ : ∃ r,l[j]'(by omega) = r := ⟨_,rfl⟩
          rw [hr2] at hs2 hmj
          obtain ⟨d2,t2,y2⟩ := r
          have hs2 : slot (l.map mbA) j = .agg [.str d2,.w (.int .i64 t2),.w (.bool y2)] := hs2
          have hlg := leD_ge d1 d2
          cases hv : Op.bytesLess d2 d1 with
          | false =>
           rw [hv] at hlg
           have hrf : zbl none l = false := by rw [hinv]; simp [zbl,rowB,zsk,hI,hT1,hmj,hlg]
           rw [hfin hrf]
           simp only [go_sem,zac,↓reduceIte,lcT,ty,zfj,zle,timS,zce,hF,d1x,hs1,hs2,hdl,hI,hT1,d0,e2,hv,Int.toNat_natCast,Bool.not_true,Bool.not_false]
           repeat (first | refine And.intro (by omega) ?_ | refine And.intro ⟨by omega,by omega⟩ ?_)
           refine ⟨_,Weak.refl _,?_⟩
           simp only [go_sem,zac,↓reduceIte,lcT,ty,zfj,zle]
           exact zbu 2 rfl
          | true =>
           rw [hv] at hlg
           have hnx : zbl none l = zbl (zsk l (j + 1 + 1)) (l.drop (j + 1 + 1)) := by
            rw [hinv]; simp [zbl,rowB,zsk,hI,hT1,hmi,hmj,hlg]
           simp only [go_sem,zac,↓reduceIte,lcT,ty,zfj,zle,timS,zce,hF,d1x,hs1,hs2,hdl,hI,hT1,d0,e1,e2,hv,Int.toNat_natCast,Bool.not_true,Bool.not_false]
           repeat (first | refine And.intro (by omega) ?_ | refine And.intro ⟨by omega,by omega⟩ ?_)
           refine ⟨l.length - (j + 1 + 1),_,by omega,zag [0,1,2,3,4] rfl rfl rfl ?_ ?_,j + 1 + 1,rfl,by omega,hnx,rfl⟩
           all_goals (simp only [ssT,zal,zam,setSlot,gOf,AV.ren,renL,Blk.ren,Ax.look,Ax.put,reduceCtorEq,↓reduceIte,Nat.reduceEqDiff,Nat.reduceLT,Nat.reduceAdd,List.length_append,List.length_cons,List.length_nil,Option.some.injEq,zaf]; try simp)
      ·have d1x : decide ((i : Int) < l.length) = false := decide_eq_false (by omega)
       have hdr : l.drop i = [] := List.drop_eq_nil_of_le (by omega)
       have hrt : zbl none l = true := by rw [hinv,hdr]; cases zsk l i <;> rfl
       obtain ⟨A,hA⟩ : ∃ A,allY l = A := ⟨_,rfl⟩
       have hA0 : l.length = 0 → A = false := fun h => by rw [← hA]; unfold allY; rw [decide_eq_false (by omega)]; rfl
       obtain ⟨z0,hz0⟩ : ∃ z,decide (ph = 0) = z := ⟨_,rfl⟩
       obtain ⟨z2,hz2⟩ : ∃ z,decide (ph = 2) = z := ⟨_,rfl⟩
       obtain ⟨zl,hzl⟩ : ∃ z,decide ((l.length : Int) = 0) = z := ⟨_,rfl⟩
       have hch : (if chB gn ph l = true then (0 : Int) else 4) = (if z0 = zl then (if z2 = A then 0 else 4) else 4) := by
        unfold chB phB
        rw [hT,hrt,decide_eq_true h16,← hz0,← hz2,← hzl,hA]
        by_cases hl : l.length = 0
        ·rw [if_pos hl,decide_eq_true (by omega : (l.length : Int) = 0),hA0 hl]
         by_cases h0 : ph = 0
         ·rw [decide_eq_true h0,decide_eq_false (by omega : ¬ ph = 2)]; simp
         ·rw [decide_eq_false h0]; simp
        ·rw [if_neg hl,decide_eq_false (by omega : ¬ (l.length : Int) = 0)]
         cases A with
         | true =>
          by_cases h2 : ph = 2
          ·rw [decide_eq_true h2,decide_eq_false (by omega : ¬ ph = 0)]; simp
          ·rw [decide_eq_false h2]; simp
         | false =>
          by_cases h1 : ph = 1
          ·rw [decide_eq_true h1,decide_eq_false (by omega : ¬ ph = 0),decide_eq_false (by omega : ¬ ph = 2)]; simp
          ·rw [decide_eq_false h1]
           by_cases h0 : ph = 0
           ·rw [decide_eq_true h0]; simp
           ·rw [decide_eq_false h0,decide_eq_true (by omega : ph = 2)]; simp
       rw [hch]
       have bt : (true == true) = true := rfl
       have bf : (false == false) = true := rfl
       have b1 : (true == false) = false := rfl
       have b2 : (false == true) = false := rfl
       simp only [go_sem,zac,↓reduceIte,lcT,ty,zfj,zle,hF,d1x]
       refine ⟨_,Weak.refl _,?_⟩
       cases z0 <;> cases zl <;> cases z2 <;> cases A <;> (simp only [go_sem,zac,↓reduceIte,lcT,ty,zfj,zle,alyS,hF,hA,hz0,hz2,hzl,bt,bf,b1,b2,Bool.not_true,Bool.not_false]; exact zbu 2 rfl)
  ·have q1 : decide ((16 : Int) < (l.length : Int)) = true := decide_eq_true (by omega)
   have hb : chB gn ph l = false := by unfold chB; rw [decide_eq_false h16]; rfl
   rw [hb]
   simp only [go_sem,zac,↓reduceIte,lcT,ty,zfj,zle,hF,q1,Bool.not_true,Bool.not_false]
   exact zbu 2 rfl
 ·exact hp.elim
end
end Go.Proofs.Ytioldmhhefhelaa
namespace Go.Proofs.Ytioldmhhefhelaa
open Ax
def rwiS : zan
 | [.agg [.w (.int .i64 gn),.w (.int .u8 ph),.sg 3 xs f],.w (.int .i64 i),.agg [.str d,.w (.int .i64 t),.w (.bool y)]],[] => ⟨(0 ≤ i ∧ i < xs.length) ∧ xs.length ≤ 900000 ∧ ∃ l : List Mb,xs = l.map mbA,.agg [.w (.int .i64 gn),.w (.int .u8 ph),.sg 3 (((xs.map umb).set i.toNat ⟨d,t,y⟩).map mbA) false],[]⟩
 | _,_ => zbg
def rtuS : zan
 | [.agg [.w (.int .i64 gn),.w (.int .u8 ph),.sg 3 xs f],.sg 3 ys h],[] => ⟨(0 ≤ gn ∧ gn ≤ 1099511627776) ∧ (∃ k : List Mb,xs = k.map mbA) ∧ ys.length ≤ 900000 ∧ ∃ l : List Mb,ys = l.map mbA,.agg [.w (.int .i64 (gn + 1)),.w (.int .u8 (if ys.length = 0 then 0 else 1)),.sg 3 (((ys.map umb).map clrM).map mbA) false],[]⟩
 | _,_ => zbg
section
set_option maxRecDepth 100000
set_option maxHeartbeats 4000000
theorem zpv : zaz Try.prog 48 rwiS := by
 refine zgi (S := noS) (T := ty) mixed ty_ok zbh Try.func48 (c := Try.f48.body.getD .skip) (by kernel_rfl) (by kernel_rfl) (fun xs pins hp _ => ?_)
 unfold rwiS at hp ⊢
 split at hp
 ·rename_i gn ph xs f i d t y _
  obtain ⟨⟨i0,i1⟩,hL,l,rfl⟩ := hp
  rw [List.length_map] at hL i1
  have hle : (l.map mbA).length = l.length := by simp
  obtain ⟨I,rfl⟩ : ∃ I : Nat,i = I := ⟨i.toNat,by omega⟩
  have hI : I < l.length := by omega
  rw [zaj,Int.toNat_natCast]
  have hst : setSlot (l.map mbA) I (.agg [.str d,.w (.int .i64 t),.w (.bool y)]) = (l.set I ⟨d,t,y⟩).map mbA := zfs ⟨d,t,y⟩ l I hI
  obtain ⟨Q,hQ⟩ : ∃ Q,l.set I ⟨d,t,y⟩ = Q := ⟨_,rfl⟩
  have hQl : Q.length = l.length := by rw [← hQ,List.length_set]
  rw [hQ] at hst ⊢
  refine ⟨by simp,?_⟩
  unfold Try.f48
  have hs1 := zbe l I hI
  obtain ⟨r,hr⟩ : ∃ r,l[I] = r := ⟨_,rfl⟩
  rw [hr] at hs1
  obtain ⟨d0,t0,y0⟩ := r
  have hs1 : slot (l.map mbA) I = .agg [.str d0,.w (.int .i64 t0),.w (.bool y0)] := hs1
  have hdr3 : List.drop 3 [AV.str d0,.w (.int .i64 t0),.w (.bool y0)] = [] := rfl
  have hk1 : decide (0 + l.length ≤ (Q.map mbA).length) = true := decide_eq_true (by simp; omega)
  have hk2 : List.take l.length (Q.map mbA) = Q.map mbA := List.take_of_length_le (by simp; omega)
  simp only [go_sem,zab,↓reduceIte,ty,noS,hle,zch,hs1,hdr3,hst,hI,zad,zaq,Int.toNat_natCast]
  repeat (first | refine And.intro (by omega) ?_ | refine And.intro ⟨by omega,by omega⟩ ?_ | refine And.intro (by unfold top; omega) ?_)
  refine ⟨_,zby 60 3 18 (Q.map mbA) rfl (zad _) (by simp [slot,AV.ids,idsL]),?_⟩
  simp only [fgL,fgH,AV.fg,Blk.fg,Nat.reduceBEq,cond_true,cond_false,Bool.and_true,beq_self_eq_true,Bool.true_and,List.drop_zero,zcc,hk1,hk2]
  simp only [go_sem,zab,↓reduceIte,ty,noS,zad,zaf]
 ·exact hp.elim
theorem yaz : zaz Try.prog 52 namS := by
 refine zbc (S := noS) (T := ty) mixed ty_ok zbh Try.func52 (c := Try.f52.body.getD .skip) (by kernel_rfl) (by kernel_rfl) (fun xs pins hp _ => ?_)
 unfold namS at hp ⊢
 split at hp
 ·rename_i gn ph xs f _
  obtain ⟨hL,l,rfl⟩ := hp
  rw [List.length_map] at hL
  have hlp : (l.map mbA).length = l.length := by simp
  rw [zaj]
  refine ⟨by simp,?_⟩
  unfold Try.f52
  simp only [go_sem,zab,↓reduceIte,ty,noS,hlp,zch]
  refine zbf ⟨fun m σ => ∃ (k : Nat),m = l.length - k ∧ k ≤ l.length ∧
    σ = ⟨[.agg [.w (.int .i64 gn),.w (.int .u8 ph),.sg 3 (l.map mbA) f],.rf 4 3 0 0,.sg 1 [] true,.ms 5 1 0 k,.w (.int .i64 k),.junk,.junk,.junk,.junk,.junk,.junk,.junk,.junk,.junk,.junk,.junk,.junk,.junk,.junk,.junk,.junk,.junk],[(4,.g 3 [.agg [.w (.int .i64 gn),.w (.int .u8 ph),.sg 3 (l.map mbA) f]]),(5,.g 1 ((l.take k).map fun m => .str m.d))],6⟩,?_,?_⟩
  ·refine ⟨_,_,(zen 3 1 (.g 1 []) ⟨by decide,rfl⟩ (by exact trivial)).trans (zag [0,1,2,3,4,36] rfl rfl rfl ?_ ?_),0,rfl,by omega,rfl⟩
   ·simp only [ssT,zal,zam,setSlot,gOf,AV.ren,renL,Blk.ren,Ax.look,Ax.put,reduceCtorEq,↓reduceIte,Nat.reduceEqDiff,Nat.reduceLT,Nat.reduceAdd,List.length_append,List.length_cons,List.length_nil,Option.some.injEq,zaf]; try simp
   ·simp only [ssT,zal,zam,setSlot,gOf,AV.ren,renL,Blk.ren,Ax.look,Ax.put,reduceCtorEq,↓reduceIte,Nat.reduceEqDiff,Nat.reduceLT,Nat.reduceAdd,List.length_append,List.length_cons,List.length_nil,Option.some.injEq,zaf]; try simp [renL]
  ·rintro m σ ⟨k,rfl,hk,rfl⟩
   have e1 : ((k : Int) + 1 + 9223372036854775808) % 18446744073709551616 - 9223372036854775808 = ((k + 1 : Nat) : Int) := by omega
   have hrn : (((l.take k).map fun m => AV.str m.d)).length = k := by simp; omega
   by_cases hkl : k < l.length
   ·have d3 : decide ((k : Int) < (l.length : Int)) = true := decide_eq_true (by omega)
    have hs1 := zbe l k hkl
    have hap : ((l.take k).map fun m => AV.str m.d) ++ [.str (l[k]).d] = (l.take (k + 1)).map fun m => AV.str m.d := by
     rw [List.take_succ_eq_append_getElem hkl,List.map_append]; rfl
    obtain ⟨X,hX⟩ : ∃ X,l[k] = X := ⟨_,rfl⟩
    rw [hX] at hs1 hap
    obtain ⟨xd,xt,xy⟩ := X
    have hs1 : slot (l.map mbA) k = .agg [.str xd,.w (.int .i64 xt),.w (.bool xy)] := hs1
    simp only at hap
    simp only [go_sem,zab,↓reduceIte,ty,noS,hlp,d3,hs1,e1,hrn,hap,Int.toNat_natCast]
    repeat (first | refine And.intro (by omega) ?_ | refine And.intro ⟨by omega,by omega⟩ ?_ | refine And.intro (by unfold top; omega) ?_)
    refine ⟨l.length - (k + 1),_,by omega,zag [0,1,2,3,4,110] rfl rfl rfl ?_ ?_,k + 1,rfl,by omega,rfl⟩
    ·simp only [ssT,zal,zam,setSlot,gOf,AV.ren,renL,Blk.ren,Ax.look,Ax.put,reduceCtorEq,↓reduceIte,Nat.reduceEqDiff,Nat.reduceLT,Nat.reduceAdd,List.length_append,List.length_cons,List.length_nil,Option.some.injEq,zaf]; try simp
    ·simp only [ssT,zal,zam,setSlot,gOf,AV.ren,renL,Blk.ren,Ax.look,Ax.put,reduceCtorEq,↓reduceIte,Nat.reduceEqDiff,Nat.reduceLT,Nat.reduceAdd,List.length_append,List.length_cons,List.length_nil,Option.some.injEq,zaf,zmj]; try simp [zaf]
     try rw [zmj]
   ·have d3 : decide ((k : Int) < (l.length : Int)) = false := decide_eq_false (by omega)
    obtain rfl : k = l.length := by omega
    have hcl : closedL (l.map fun m => AV.str m.d) = true := by
     have := zdp (l.map fun m => m.d)
     rw [List.map_map] at this; exact this
    have htt : l.take l.length = l := List.take_length
    rw [htt] at hrn ⊢
    simp only [go_sem,zab,↓reduceIte,ty,noS,hlp,d3]
    have hdle : decide (0 + l.length ≤ (l.map fun m => AV.str m.d).length) = true := decide_eq_true (by rw [hrn]; omega)
    have htk : List.take l.length (l.map fun m => AV.str m.d) = l.map fun m => AV.str m.d := List.take_of_length_le (by rw [hrn]; omega)
    refine ⟨_,zby 5 1 3 (l.map fun m => AV.str m.d) rfl hcl (by simp [slot,AV.ids]),?_⟩
    simp only [fgL,fgH,AV.fg,Blk.fg,zcc,Nat.reduceBEq,cond_true,cond_false,hdle,Bool.and_true,beq_self_eq_true,Bool.true_and,List.drop_zero,htk]
    simp only [go_sem,zab,↓reduceIte,ty,noS]
 ·exact hp.elim
theorem zpy : zaz Try.prog 49 rtuS := by
 refine zgi (S := noS) (T := ty) mixed ty_ok zbh Try.func49 (c := Try.f49.body.getD .skip) (by kernel_rfl) (by kernel_rfl) (fun xs pins hp _ => ?_)
 unfold rtuS at hp ⊢
 split at hp
 ·rename_i gn ph xs f ys h _
  obtain ⟨⟨g0,g1⟩,⟨k,rfl⟩,hL,l,rfl⟩ := hp
  rw [List.length_map] at hL
  have hle : (l.map mbA).length = l.length := by simp
  have eg : (gn + 1 + 9223372036854775808) % 18446744073709551616 - 9223372036854775808 = gn + 1 := by omega
  rw [zaj,hle]
  refine ⟨by simp,?_⟩
  unfold Try.f49
  simp only [go_sem,zab,↓reduceIte,ty,noS,hle,zch,eg]
  refine zbf ⟨fun m σ => ∃ i : Nat,m = l.length - i ∧ i ≤ l.length ∧
   σ = ⟨[.agg [.w (.int .i64 gn),.w (.int .u8 ph),.sg 3 (k.map mbA) f],.sg 3 (l.map mbA) h,.junk,.junk,.rf 4 3 0 0,.rf 5 3 0 0,.w (.int .i64 i),.junk,.junk,.junk,.junk,.junk,.junk,.junk,.junk,.junk,.junk,.junk,.junk,.junk,.junk,.junk,.junk,.junk,.junk,.junk,.junk,.junk,.junk,.junk,.junk],[(4,.g 3 [.agg [.w (.int .i64 0),.w (.int .u8 0),.sg 3 [] true]]),(5,.g 3 [.agg [.w (.int .i64 (gn + 1)),.w (.int .u8 (if i = 0 then 0 else 1)),.ms 6 3 0 i]]),(6,.g 3 (((l.take i).map clrM).map mbA))],7⟩,?_,?_⟩
  ·refine ⟨_,_,(yis 52 3 2 3 [.w (.int .i64 (gn + 1)),.w (.int .u8 0),.sg 3 [] true] rfl (by simp) (by exact trivial) (by decide)).trans (zag [0,1,2,3,12,52,76] rfl rfl rfl ?_ ?_),0,rfl,by omega,rfl⟩
   ·simp only [ssT,zal,zam,setSlot,gOf,AV.ren,renL,Blk.ren,Ax.look,Ax.put,reduceCtorEq,↓reduceIte,Nat.reduceEqDiff,Nat.reduceLT,Nat.reduceAdd,List.length_append,List.length_cons,List.length_nil,Option.some.injEq,zaf]; try simp
   ·simp only [ssT,zal,zam,setSlot,gOf,AV.ren,renL,Blk.ren,Ax.look,Ax.put,reduceCtorEq,↓reduceIte,Nat.reduceEqDiff,Nat.reduceLT,Nat.reduceAdd,List.length_append,List.length_cons,List.length_nil,Option.some.injEq,zaf]; try simp [renL]
  ·rintro m σ ⟨i,rfl,hi,rfl⟩
   have hml : (((l.take i).map clrM).map mbA).length = i := by simp; omega
   by_cases hil : i < l.length
   ·have d2 : decide ((i : Int) < l.length) = true := decide_eq_true (by omega)
    have e1 : ((i : Int) + 1 + 9223372036854775808) % 18446744073709551616 - 9223372036854775808 = ((i + 1 : Nat) : Int) := by omega
    have hs1 := zbe l i hil
    have htk : l.take (i + 1) = l.take i ++ [l[i]] := List.take_succ_eq_append_getElem hil
    obtain ⟨r,hr⟩ : ∃ r,l[i] = r := ⟨_,rfl⟩
    rw [hr] at hs1 htk
    obtain ⟨d,t,y⟩ := r
    have hs1 : slot (l.map mbA) i = .agg [.str d,.w (.int .i64 t),.w (.bool y)] := hs1
    have hat : ((l.take i).map clrM).map mbA ++ [.agg [.str d,.w (.int .i64 t),.w (.bool false)]] = ((l.take (i + 1)).map clrM).map mbA := by rw [htk,List.map_append,List.map_append]; rfl
    simp only [go_sem,zab,↓reduceIte,ty,noS,hle,hml,d2,hs1,e1,Int.toNat_natCast,zaq,hat]
    repeat (first | refine And.intro (by omega) ?_ | refine And.intro ⟨by omega,by omega⟩ ?_ | refine And.intro (by unfold top; omega) ?_)
    refine ⟨l.length - (i + 1),_,by omega,zag [0,1,2,3,4,5,135] rfl rfl rfl ?_ ?_,i + 1,rfl,by omega,rfl⟩
    ·simp only [ssT,zal,zam,setSlot,gOf,AV.ren,renL,Blk.ren,Ax.look,Ax.put,reduceCtorEq,↓reduceIte,Nat.reduceEqDiff,Nat.reduceLT,Nat.reduceAdd,List.length_append,List.length_cons,List.length_nil,Option.some.injEq,zaf]; try simp
    ·simp only [ssT,zal,zam,setSlot,gOf,AV.ren,renL,Blk.ren,Ax.look,Ax.put,reduceCtorEq,↓reduceIte,Nat.reduceEqDiff,Nat.reduceLT,Nat.reduceAdd,List.length_append,List.length_cons,List.length_nil,Option.some.injEq,zaf]; try simp [zaf]
     try rw [zaf]
   ·have d2 : decide ((i : Int) < l.length) = false := decide_eq_false (by omega)
    obtain rfl : i = l.length := by omega
    have hii : l.take l.length = l := List.take_length
    rw [hii] at hml ⊢
    have hdle : decide (0 + l.length ≤ ((l.map clrM).map mbA).length) = true := decide_eq_true (by omega)
    have htk : ((l.map clrM).map mbA).take l.length = (l.map clrM).map mbA := List.take_of_length_le (by omega)
    simp only [go_sem,zab,↓reduceIte,ty,noS,hle,d2]
    refine ⟨_,ype 6 3 5 5 ((l.map clrM).map mbA) _ rfl (zad _) rfl (by simp [slot,AV.ids]) (by simp [Blk.idsB,Blk.closed,closedL,AV.closed,idsL,AV.ids]),?_⟩
    simp only [fgL,fgH,AV.fg,Blk.fg,zcc,Nat.reduceBEq,cond_true,cond_false,hdle,Bool.and_true,beq_self_eq_true,Bool.true_and,List.drop_zero,htk]
    simp only [go_sem,zab,↓reduceIte,ty,noS]
    refine ⟨_,Weak.refl _,?_⟩
    simp only [go_sem,zab,↓reduceIte,ty,noS,zad,zaf]
 ·exact hp.elim
end
end Go.Proofs.Ytioldmhhefhelaa
namespace Go.Proofs.Ytioldmhhefhelaa
open Ax
def rbeF (gn ph : Int) (l : List Mb) (f : Bool) (v : List UInt8) (gen now : Int) : JR :=
 if (fiF gn ph l v gen now).2 = 0 then ⟨gn,ph,l.set (l.findIdx (isD v)) (zdt now (mbI l (l.findIdx (isD v)))),false,0⟩
 else ⟨gn,ph,l,f,(fiF gn ph l v gen now).2⟩
def rbeS : zan
 | [.agg [.w (.int .i64 gn),.w (.int .u8 ph),.sg 3 xs f],.str v,.w (.int .i64 gen),.w (.int .i64 now)],[] => ⟨0 ≤ ph ∧ xs.length ≤ 900000 ∧ ∃ l : List Mb,xs = l.map mbA ∧ ∀ r ∈ l,r.d.length ≤ 9223372036854775807,jrA (rbeF gn ph (xs.map umb) f v gen now),[]⟩
 | _,_ => zbg
def zos (f : FuncId) : Option zan :=
 match f with
 | 44 => some zbq
 | 45 => some zcf
 | 47 => some timS
 | 48 => some rwiS
 | _ => none
theorem yot : Fns Try.prog zos := by
 intro f s h
 unfold zos at h
 split at h
 ·injection h with h; subst h; exact ⟨⟨_,Try.func44,by kernel_rfl,by kernel_rfl⟩,zkd⟩
 ·injection h with h; subst h; exact ⟨⟨_,Try.func45,by kernel_rfl,by kernel_rfl⟩,zmk⟩
 ·injection h with h; subst h; exact ⟨⟨_,Try.func47,by kernel_rfl,by kernel_rfl⟩,zno⟩
 ·injection h with h; subst h; exact ⟨⟨_,Try.func48,by kernel_rfl,by kernel_rfl⟩,zpv⟩
 ·cases h
theorem yrn (gn ph : Int) (l : List Mb) : chG gn ph l = 0 ∨ chG gn ph l = 4 := by unfold chG; split <;> simp
section
set_option maxRecDepth 100000
set_option maxHeartbeats 8000000
theorem zxb : zaz Try.prog 22 rbeS := by
 refine zbc (S := zos) (T := ty) mixed ty_ok yot Try.func22 (c := Try.f22.body.getD .skip) (by kernel_rfl) (by kernel_rfl) (fun xs pins hp _ => ?_)
 unfold rbeS at hp ⊢
 split at hp
 ·rename_i gn ph xs f v gen now _
  obtain ⟨hph,hL,l,rfl,hd⟩ := hp
  rw [List.length_map] at hL
  have hle : (l.map mbA).length = l.length := by simp
  have hL9 : l.length ≤ 9223372036854775807 := by omega
  have hex : ∃ k : List Mb,l.map mbA = k.map mbA := ⟨l,rfl⟩
  have hxd : ∃ k : List Mb,l.map mbA = k.map mbA ∧ ∀ r ∈ k,r.d.length ≤ 9223372036854775807 := ⟨l,rfl,hd⟩
  have hF := And.intro hle <| And.intro hph <| And.intro hL <| And.intro hL9 <| And.intro hex <| And.intro hxd <| And.intro zch <| And.intro zaj <| And.intro zad zaq
  rw [zaj]
  unfold rbeF fiF
  refine ⟨by simp,?_⟩
  unfold Try.f22
  have d00 : decide ((0 : Int) = 0) = true := rfl
  have d40 : decide ((4 : Int) = 0) = false := rfl
  rcases yrn gn ph l with hc | hc
  ·rw [hc,if_pos rfl]
   cases hT : timB now with
   | false =>
    rw [if_neg (by simp),if_neg (by decide)]
    simp only [go_sem,zab,↓reduceIte,ty,zos,zbq,zcf,timS,jrA,hF,hc,hT,d00,Bool.not_true,Bool.not_false]
   | true =>
    rw [if_pos rfl]
    by_cases hf : l.findIdx (isD v) < l.length
    ·obtain ⟨I,hI⟩ : ∃ I,l.findIdx (isD v) = I := ⟨_,rfl⟩
     have hix : ixG (isD v) l = ((I : Nat) : Int) := by unfold ixG; rw [if_pos hf,hI]
     rw [if_pos hf]
     rw [hI] at hf ⊢
     have dI : decide ((I : Int) < 0) = false := decide_eq_false (by omega)
     by_cases hg : gen = gn
     ·rw [if_pos hg,if_pos rfl]
      have dg : decide (gen = gn) = true := decide_eq_true hg
      have hs1 := zbe l I hf
      have hmi := zli hf
      rw [hmi]
      obtain ⟨r,hr⟩ : ∃ r,l[I] = r := ⟨_,rfl⟩
      rw [hr] at hs1 ⊢
      obtain ⟨d,t,y⟩ := r
      have hs1 : slot (l.map mbA) I = .agg [.str d,.w (.int .i64 t),.w (.bool y)] := hs1
      have hI0 : ((0 : Int) ≤ (I : Int)) = True := eq_true (by omega)
      have hIn : ((I : Int) < (l.length : Int)) = True := eq_true (by omega)
      unfold zdt mxT
      simp only [go_sem,zab,↓reduceIte,ty,zos,zbq,zcf,timS,rwiS,jrA,hF,hc,hT,hix,dI,dg,hs1,hf,hI0,hIn,d00,Int.toNat_natCast,Bool.not_true,Bool.not_false]
     ·rw [if_neg hg,if_neg (by decide)]
      have dg : decide (gen = gn) = false := decide_eq_false hg
      simp only [go_sem,zab,↓reduceIte,ty,zos,zbq,zcf,timS,jrA,hF,hc,hT,hix,dI,dg,d00,Bool.not_true,Bool.not_false]
    ·have hix : ixG (isD v) l = -1 := by unfold ixG; rw [if_neg hf]
     have dI : decide ((-1 : Int) < 0) = true := rfl
     rw [if_neg hf,if_neg (by decide)]
     simp only [go_sem,zab,↓reduceIte,ty,zos,zbq,zcf,timS,jrA,hF,hc,hT,hix,dI,d00,Bool.not_true,Bool.not_false]
  ·rw [hc,if_neg (show ¬ (4 : Int) = 0 by decide),if_neg (show ¬ ((0 : Int),(4 : Int)).2 = 0 by decide)]
   simp only [go_sem,zab,↓reduceIte,ty,zos,zbq,zcf,timS,jrA,hF,hc,d40,Bool.not_true,Bool.not_false]
 ·exact hp.elim
end
end Go.Proofs.Ytioldmhhefhelaa
namespace Go.Proofs.Ytioldmhhefhelaa
open Ax
def rtiF (gn ph : Int) (l : List Mb) (f : Bool) (now pat : Int) : JR :=
 if chG gn ph l = 0 ∧ gn ≠ 1099511627776 ∧ (zdz now pat l).length ≠ l.length then ⟨gn + 1,if (zdz now pat l).length = 0 then 0 else 1,(zdz now pat l).map clrM,false,0⟩ else ⟨gn,ph,l,f,0⟩
def rtiS : zan
 | [.agg [.w (.int .i64 gn),.w (.int .u8 ph),.sg 3 xs f],.w (.int .i64 now),.w (.int .i64 pat)],[] => ⟨(0 ≤ ph ∧ now ≤ 9223372036854775807) ∧ xs.length ≤ 900000 ∧ ∃ l : List Mb,xs = l.map mbA ∧ ∀ r ∈ l,r.d.length ≤ 9223372036854775807,
   .agg [.w (.int .i64 (rtiF gn ph (xs.map umb) f now pat).g),.w (.int .u8 (rtiF gn ph (xs.map umb) f now pat).p),.sg 3 ((rtiF gn ph (xs.map umb) f now pat).l.map mbA) (rtiF gn ph (xs.map umb) f now pat).f],[]⟩
 | _,_ => zbg
def zit (f : FuncId) : Option zan :=
 match f with
 | 45 => some zcf
 | 49 => some rtuS
 | _ => none
theorem yom : Fns Try.prog zit := by
 intro f s h
 unfold zit at h
 split at h
 ·injection h with h; subst h; exact ⟨⟨_,Try.func45,by kernel_rfl,by kernel_rfl⟩,zmk⟩
 ·injection h with h; subst h; exact ⟨⟨_,Try.func49,by kernel_rfl,by kernel_rfl⟩,zpy⟩
 ·cases h
theorem yja (now pat : Int) (l : List Mb) (i : Nat) (h : i < l.length) : zdz now pat (l.take (i + 1)) = zdz now pat (l.take i) ++ (if tkP now pat l[i] = true then [] else [l[i]]) := by
 unfold zdz
 rw [List.take_succ_eq_append_getElem h,List.filter_append]
 cases hk : tkP now pat l[i] <;> simp [hk]
section
set_option maxRecDepth 100000
set_option maxHeartbeats 8000000
theorem yjn : zaz Try.prog 24 rtiS := by
 refine zbc (S := zit) (T := ty) mixed ty_ok yom Try.func24 (c := Try.f24.body.getD .skip) (by kernel_rfl) (by kernel_rfl) (fun xs pins hp _ => ?_)
 unfold rtiS at hp ⊢
 split at hp
 ·rename_i gn ph xs f now pat _
  obtain ⟨⟨hph,hnow⟩,hL,l,rfl,hd⟩ := hp
  rw [List.length_map] at hL
  have hle : (l.map mbA).length = l.length := by simp
  have hex : ∃ k : List Mb,l.map mbA = k.map mbA := ⟨l,rfl⟩
  have hxd : ∃ k : List Mb,l.map mbA = k.map mbA ∧ ∀ r ∈ k,r.d.length ≤ 9223372036854775807 := ⟨l,rfl,hd⟩
  have hF := And.intro hle <| And.intro hph <| And.intro hL <| And.intro hex <| And.intro hxd <| And.intro zch <| And.intro zaj <| And.intro zad zaq
  rw [zaj]
  generalize hX : rtiF gn ph l f now pat = X
  refine ⟨by simp,?_⟩
  unfold Try.f24
  have d00 : decide ((0 : Int) = 0) = true := rfl
  have d40 : decide ((4 : Int) = 0) = false := rfl
  rcases yrn gn ph l with hc | hc
  ·obtain ⟨hl16,htg,_,hro⟩ := ch_iff.1 hc
   have hg2 : 0 ≤ gn ∧ gn ≤ 1099511627776 := by unfold timB at htg; simp only [Bool.and_eq_true,decide_eq_true_eq] at htg; exact htg
   by_cases hg : gn = 1099511627776
   ·have dg : decide ((1099511627776 : Int) ≤ gn) = true := decide_eq_true (by omega)
    obtain rfl : (⟨gn,ph,l,f,0⟩ : JR) = X := by rw [← hX]; unfold rtiF; rw [if_neg (by rintro ⟨_,h,_⟩; exact h hg)]
    simp only [go_sem,zab,↓reduceIte,ty,zit,zcf,hF,hc,dg,d00,Bool.not_true,Bool.not_false]
   ·have dg : decide ((1099511627776 : Int) ≤ gn) = false := decide_eq_false (by omega)
    simp only [go_sem,zab,↓reduceIte,ty,zit,zcf,hF,hc,dg,d00,Bool.not_true,Bool.not_false]
    refine zbf ⟨fun m σ => ∃ i : Nat,m = l.length - i ∧ i ≤ l.length ∧
     σ = ⟨[.agg [.w (.int .i64 gn),.w (.int .u8 ph),.sg 3 (l.map mbA) f],.w (.int .i64 now),.w (.int .i64 pat),.rf 4 3 0 0,.junk,.junk,.rf 5 3 0 0,.ms 6 3 0 (zdz now pat (l.take i)).length,.w (.int .i64 i),.junk,.junk,.junk,.junk,.junk,.junk,.junk,.junk,.junk,.junk,.junk,.junk,.junk,.junk,.junk,.junk,.junk,.junk,.junk,.junk,.junk,.junk,.junk,.junk,.junk,.junk,.junk,.junk,.junk,.junk,.junk,.junk,.junk,.junk,.junk,.junk,.junk,.junk,.junk,.junk,.junk,.junk,.junk,.junk,.junk,.junk,.junk,.junk,.junk],[(4,.g 3 [.agg [.w (.int .i64 gn),.w (.int .u8 ph),.sg 3 (l.map mbA) f]]),(5,.g 3 [.agg [.w (.int .i64 0),.w (.int .u8 0),.sg 3 [] true]]),(6,.g 3 ((zdz now pat (l.take i)).map mbA))],7⟩,?_,?_⟩
    ·refine ⟨_,_,(zen 7 3 (.g 3 []) ⟨by decide,rfl⟩ (by exact trivial)).trans (zag [0,1,2,3,4,12,100] rfl rfl rfl ?_ ?_),0,rfl,by omega,rfl⟩
     ·simp only [ssT,zal,zam,setSlot,gOf,AV.ren,renL,Blk.ren,Ax.look,Ax.put,reduceCtorEq,↓reduceIte,Nat.reduceEqDiff,Nat.reduceLT,Nat.reduceAdd,List.length_append,List.length_cons,List.length_nil,Option.some.injEq,zaf]; try simp [zdz]
     ·simp only [ssT,zal,zam,setSlot,gOf,AV.ren,renL,Blk.ren,Ax.look,Ax.put,reduceCtorEq,↓reduceIte,Nat.reduceEqDiff,Nat.reduceLT,Nat.reduceAdd,List.length_append,List.length_cons,List.length_nil,Option.some.injEq,zaf]; try simp [renL,zdz]
    ·rintro m σ ⟨i,rfl,hi,rfl⟩
     have hsl := yjb now pat (l.take i)
     rw [List.length_take] at hsl
     obtain ⟨Q,hQ⟩ : ∃ Q,zdz now pat (l.take i) = Q := ⟨_,rfl⟩
     rw [hQ] at hsl ⊢
     have hqm : (Q.map mbA).length = Q.length := by simp
     by_cases hil : i < l.length
     ·have d2 : decide ((i : Int) < l.length) = true := decide_eq_true (by omega)
      have e1 : ((i : Int) + 1 + 9223372036854775808) % 18446744073709551616 - 9223372036854775808 = ((i + 1 : Nat) : Int) := by omega
      have hs1 := zbe l i hil
      have hst := yja now pat l i hil
      rw [hQ] at hst
      have hrb := ((zke l).1 hro).1 l[i] (List.getElem_mem hil)
      obtain ⟨r,hr⟩ : ∃ r,l[i] = r := ⟨_,rfl⟩
      rw [hr] at hs1 hst hrb
      obtain ⟨d,t,y⟩ := r
      have hs1 : slot (l.map mbA) i = .agg [.str d,.w (.int .i64 t),.w (.bool y)] := hs1
      have ht2 : 0 ≤ t ∧ t ≤ 1099511627776 := by unfold rowB timB at hrb; simp only [Bool.and_eq_true,decide_eq_true_eq] at hrb; exact hrb.2
      by_cases hk : tkP now pat ⟨d,t,y⟩ = true
      ·rw [if_pos hk,List.append_nil] at hst
       unfold tkP tkW at hk
       simp only [Bool.and_eq_true,decide_eq_true_eq] at hk
       have d3 : decide (now < 0) = false := decide_eq_false (by omega)
       have e4 : (now - t + 9223372036854775808) % 18446744073709551616 - 9223372036854775808 = now - t := by omega
       rw [e4] at hk
       have d4 : decide (now - t ≤ (if (0 : Int) < pat then pat else 0)) = false := decide_eq_false (by split at hk <;> split <;> omega)
       simp only [go_sem,zab,↓reduceIte,ty,zit,hF,hqm,d2,d3,d4,hs1,e1,e4,Int.toNat_natCast,Bool.not_true,Bool.not_false]
       repeat (first | refine And.intro (by omega) ?_ | refine And.intro ⟨by omega,by omega⟩ ?_ | refine And.intro (by unfold top; omega) ?_)
       refine ⟨l.length - (i + 1),_,by omega,zag [0,1,2,3,4,5,6] rfl rfl rfl ?_ ?_,i + 1,rfl,by omega,rfl⟩
       all_goals (simp only [ssT,zal,zam,setSlot,gOf,AV.ren,renL,Blk.ren,Ax.look,Ax.put,reduceCtorEq,↓reduceIte,Nat.reduceEqDiff,Nat.reduceLT,Nat.reduceAdd,List.length_append,List.length_cons,List.length_nil,Option.some.injEq,zaf,hst]; try simp)
      ·rw [if_neg hk] at hst
       have hat : Q.map mbA ++ [.agg [.str d,.w (.int .i64 t),.w (.bool y)]] = (zdz now pat (l.take (i + 1))).map mbA := by rw [hst,List.map_append]; rfl
       have hsn : (zdz now pat (l.take (i + 1))).length = Q.length + 1 := by rw [hst]; simp
       have hkf : ¬ (t < now ∧ (if 0 > pat then 0 else pat) < (now - t + 9223372036854775808) % 18446744073709551616 - 9223372036854775808) := by
        intro h; apply hk; unfold tkP tkW; rw [decide_eq_true h.1,decide_eq_true h.2]; rfl
       by_cases hn0 : now < 0
       ·have d3 : decide (now < 0) = true := decide_eq_true hn0
        simp only [go_sem,zab,↓reduceIte,ty,zit,hF,hqm,d2,d3,hs1,e1,hat,Int.toNat_natCast,Bool.not_true,Bool.not_false]
        repeat (first | refine And.intro (by omega) ?_ | refine And.intro ⟨by omega,by omega⟩ ?_ | refine And.intro (by unfold top; omega) ?_)
        refine ⟨l.length - (i + 1),_,by omega,zag [0,1,2,3,4,5,223] rfl rfl rfl ?_ ?_,i + 1,rfl,by omega,rfl⟩
        all_goals (simp only [ssT,zal,zam,setSlot,gOf,AV.ren,renL,Blk.ren,Ax.look,Ax.put,reduceCtorEq,↓reduceIte,Nat.reduceEqDiff,Nat.reduceLT,Nat.reduceAdd,List.length_append,List.length_cons,List.length_nil,Option.some.injEq,zaf,hsn]; try simp)
       ·have d3 : decide (now < 0) = false := decide_eq_false hn0
        have e4 : (now - t + 9223372036854775808) % 18446744073709551616 - 9223372036854775808 = now - t := by omega
        rw [e4] at hkf
        have d4 : decide (now - t ≤ (if (0 : Int) < pat then pat else 0)) = true := decide_eq_true (by split at hkf <;> split <;> omega)
        simp only [go_sem,zab,↓reduceIte,ty,zit,hF,hqm,d2,d3,d4,hs1,e1,e4,hat,Int.toNat_natCast,Bool.not_true,Bool.not_false]
        repeat (first | refine And.intro (by omega) ?_ | refine And.intro ⟨by omega,by omega⟩ ?_ | refine And.intro (by unfold top; omega) ?_)
        refine ⟨l.length - (i + 1),_,by omega,zag [0,1,2,3,4,5,223] rfl rfl rfl ?_ ?_,i + 1,rfl,by omega,rfl⟩
        all_goals (simp only [ssT,zal,zam,setSlot,gOf,AV.ren,renL,Blk.ren,Ax.look,Ax.put,reduceCtorEq,↓reduceIte,Nat.reduceEqDiff,Nat.reduceLT,Nat.reduceAdd,List.length_append,List.length_cons,List.length_nil,Option.some.injEq,zaf,hsn]; try simp)
     ·have d2 : decide ((i : Int) < l.length) = false := decide_eq_false (by omega)
      obtain rfl : i = l.length := by omega
      rw [List.take_length] at hQ
      simp only [go_sem,zab,↓reduceIte,ty,zit,hF,d2]
      have hk1 : decide (0 + Q.length ≤ (Q.map mbA).length) = true := decide_eq_true (by simp)
      have hk2 : List.take Q.length (Q.map mbA) = Q.map mbA := List.take_of_length_le (by simp)
      have hgg : ((0 : Int) ≤ gn ∧ gn ≤ 1099511627776) = True := eq_true hg2
      have hQ9 : (Q.length ≤ 900000) = True := eq_true (by omega)
      have hexQ : ∃ k : List Mb,Q.map mbA = k.map mbA := ⟨Q,rfl⟩
      refine ⟨_,zby 6 3 7 (Q.map mbA) rfl (zad _) (by simp [slot,AV.ids]),?_⟩
      simp only [fgL,fgH,AV.fg,Blk.fg,zcc,Nat.reduceBEq,cond_true,cond_false,Bool.and_true,beq_self_eq_true,Bool.true_and,List.drop_zero,hk1,hk2]
      by_cases hql : Q.length = l.length
      ·have d5 : decide ((Q.length : Int) = (l.length : Int)) = true := decide_eq_true (by omega)
       obtain rfl : (⟨gn,ph,l,f,0⟩ : JR) = X := by rw [← hX]; unfold rtiF; rw [hQ,if_neg (by rintro ⟨_,_,h⟩; exact h hql)]
       simp only [go_sem,zab,↓reduceIte,ty,zit,hF,hqm,d5,Bool.not_true,Bool.not_false]
      ·have d5 : decide ((Q.length : Int) = (l.length : Int)) = false := decide_eq_false (by omega)
       obtain rfl : (⟨gn + 1,if Q.length = 0 then 0 else 1,Q.map clrM,false,0⟩ : JR) = X := by rw [← hX]; unfold rtiF; rw [hQ]; exact (if_pos ⟨hc,hg,hql⟩).symm
       simp only [go_sem,zab,↓reduceIte,ty,zit,rtuS,hF,hqm,d5,hgg,hg2,hQ9,hexQ,Bool.not_true,Bool.not_false]
  ·obtain rfl : (⟨gn,ph,l,f,0⟩ : JR) = X := by rw [← hX]; unfold rtiF; rw [if_neg (by rintro ⟨h,_⟩; omega)]
   simp only [go_sem,zab,↓reduceIte,ty,zit,zcf,hF,hc,d40,Bool.not_true,Bool.not_false]
 ·exact hp.elim
end
end Go.Proofs.Ytioldmhhefhelaa
namespace Go.Proofs.Ytioldmhhefhelaa
open Ax
def rleF (gn ph : Int) (l : List Mb) (f : Bool) (v : List UInt8) : JR :=
 if (leF gn ph l v).e = 0 then leF gn ph l v else ⟨gn,ph,l,f,(leF gn ph l v).e⟩
def rleS : zan
 | [.agg [.w (.int .i64 gn),.w (.int .u8 ph),.sg 3 xs f],.str v],[] => ⟨0 ≤ ph ∧ xs.length ≤ 900000 ∧ ∃ l : List Mb,xs = l.map mbA ∧ ∀ r ∈ l,r.d.length ≤ 9223372036854775807,jrA (rleF gn ph (xs.map umb) f v),[]⟩
 | _,_ => zbg
def zjx (f : FuncId) : Option zan :=
 match f with
 | 44 => some zbq
 | 45 => some zcf
 | 49 => some rtuS
 | _ => none
theorem yoq : Fns Try.prog zjx := by
 intro f s h
 unfold zjx at h
 split at h
 ·injection h with h; subst h; exact ⟨⟨_,Try.func44,by kernel_rfl,by kernel_rfl⟩,zkd⟩
 ·injection h with h; subst h; exact ⟨⟨_,Try.func45,by kernel_rfl,by kernel_rfl⟩,zmk⟩
 ·injection h with h; subst h; exact ⟨⟨_,Try.func49,by kernel_rfl,by kernel_rfl⟩,zpy⟩
 ·cases h
def yjz : Plan := fun id => match id with
 | 9 => some [(0,6),(6,7),(6,8),(6,11),(0,12)]
 | _ => none
section
set_option maxRecDepth 100000
set_option maxHeartbeats 8000000
theorem yjy : zaz Try.prog 23 rleS := by
 refine zfg (S := zjx) (T := ty) (pl := yjz) mixed ty_ok yoq Try.func23 (c := Try.f23.body.getD .skip) (by kernel_rfl) (by kernel_rfl) (fun xs pins hp _ => ?_)
 unfold rleS at hp ⊢
 split at hp
 ·rename_i gn ph xs f v _
  obtain ⟨hph,hL,l,rfl,hd⟩ := hp
  rw [List.length_map] at hL
  have hle : (l.map mbA).length = l.length := by simp
  have hL9 : l.length ≤ 9223372036854775807 := by omega
  have hex : ∃ k : List Mb,l.map mbA = k.map mbA := ⟨l,rfl⟩
  have hxd : ∃ k : List Mb,l.map mbA = k.map mbA ∧ ∀ r ∈ k,r.d.length ≤ 9223372036854775807 := ⟨l,rfl,hd⟩
  have hF := And.intro hle <| And.intro hph <| And.intro hL <| And.intro hL9 <| And.intro hex <| And.intro hxd <| And.intro zch <| And.intro zaj <| And.intro zad zaq
  rw [zaj]
  generalize hX : rleF gn ph l f v = X
  unfold rleF leF at hX
  refine ⟨by simp,?_⟩
  unfold Try.f23
  have d00 : decide ((0 : Int) = 0) = true := rfl
  have d40 : decide ((4 : Int) = 0) = false := rfl
  rcases yrn gn ph l with hc | hc
  ·obtain ⟨hl16,htg,_,hro⟩ := ch_iff.1 hc
   have hg2 : 0 ≤ gn ∧ gn ≤ 1099511627776 := by unfold timB at htg; simp only [Bool.and_eq_true,decide_eq_true_eq] at htg; exact htg
   rw [if_pos hc] at hX
   by_cases hf : l.findIdx (isD v) < l.length
   ·rw [if_pos hf] at hX
    obtain ⟨I,hI⟩ : ∃ I,l.findIdx (isD v) = I := ⟨_,rfl⟩
    have hix : ixG (isD v) l = ((I : Nat) : Int) := by unfold ixG; rw [if_pos hf,hI]
    rw [hI] at hf hX
    have dI : decide ((I : Int) < 0) = false := decide_eq_false (by omega)
    by_cases hg : gn = 1099511627776
    ·have dg : decide ((1099511627776 : Int) ≤ gn) = true := decide_eq_true (by omega)
     rw [if_pos hg,if_neg (show ¬ (errJ 11).e = 0 by decide)] at hX
     subst hX
     simp only [go_sem,zac,↓reduceIte,lcT,ty,zjx,yjz,zbq,zcf,jrA,errJ,hF,hc,hix,dI,dg,d00,Bool.not_true,Bool.not_false]
     try (refine ⟨_,Weak.refl _,?_⟩)
     try simp only [go_sem,zac,↓reduceIte,lcT,ty,zjx,zad,zaf]
    ·have dg : decide ((1099511627776 : Int) ≤ gn) = false := decide_eq_false (by omega)
     rw [if_neg hg,if_pos (show (0 : Int) = 0 from rfl)] at hX
     have eI : ((I : Int) + 1 + 9223372036854775808) % 18446744073709551616 - 9223372036854775808 = ((I + 1 : Nat) : Int) := by omega
     have hlt : (l.take I).length = I := by rw [List.length_take]; omega
     have hld : (l.drop (I + 1)).length = l.length - (I + 1) := List.length_drop
     have htk1 : ∀ n,List.take n (l.map mbA) = (l.take n).map mbA := fun n => (List.map_take (f := mbA) (l := l) (i := n)).symm
     have hdr1 : ∀ n,List.drop n (l.map mbA) = (l.drop n).map mbA := fun n => (List.map_drop (f := mbA) (l := l) (i := n)).symm
     have htkd : List.take (l.length - (I + 1)) ((l.drop (I + 1)).map mbA) = (l.drop (I + 1)).map mbA := List.take_of_length_le (by rw [List.length_map,hld]; omega)
     have hap : (l.take I).map mbA ++ (l.drop (I + 1)).map mbA = (l.eraseIdx I).map mbA := by rw [← List.map_append,List.eraseIdx_eq_take_drop_succ]
     have hel : (l.eraseIdx I).length = l.length - 1 := List.length_eraseIdx_of_lt hf
     have hgg : ((0 : Int) ≤ gn ∧ gn ≤ 1099511627776) = True := eq_true hg2
     obtain ⟨Q,hQ⟩ : ∃ Q,l.eraseIdx I = Q := ⟨_,rfl⟩
     rw [hQ] at hX hap hel
     have hqm : (Q.map mbA).length = Q.length := by simp
     have hQ9 : (Q.length ≤ 900000) = True := eq_true (by omega)
     have hexQ : ∃ k : List Mb,Q.map mbA = k.map mbA := ⟨Q,rfl⟩
     have htkQ : List.take (I + (l.length - (I + 1))) (Q.map mbA) = Q.map mbA := List.take_of_length_le (by rw [hqm]; omega)
     subst hX
     simp only [go_sem,zac,↓reduceIte,lcT,ty,zjx,yjz,zbq,zcf,rtuS,jrA,hF,hc,hix,dI,dg,d00,eI,hlt,hld,htk1,hdr1,htkd,hap,htkQ,hgg,hg2,hqm,hQ9,hexQ,List.length_map,Nat.sub_zero,Int.toNat_natCast,Bool.not_true,Bool.not_false]
     refine ⟨⟨by omega,by omega⟩,by unfold top; omega,⟨by omega,by omega⟩,by unfold top; omega,⟨by omega,fun y hy => zbi y hy⟩,_,Weak.refl _,?_⟩
     simp only [go_sem,zac,↓reduceIte,lcT,ty,zjx,zad,zaf]
   ·have hix : ixG (isD v) l = -1 := by unfold ixG; rw [if_neg hf]
    have dI : decide ((-1 : Int) < 0) = true := rfl
    rw [if_neg hf,if_neg (show ¬ (errJ 20).e = 0 by decide)] at hX
    subst hX
    simp only [go_sem,zac,↓reduceIte,lcT,ty,zjx,yjz,zbq,zcf,jrA,errJ,hF,hc,hix,dI,d00,Bool.not_true,Bool.not_false]
    try (refine ⟨_,Weak.refl _,?_⟩)
    try simp only [go_sem,zac,↓reduceIte,lcT,ty,zjx,zad,zaf]
  ·rw [hc,if_neg (show ¬ (4 : Int) = 0 by decide),if_neg (show ¬ (errJ 4).e = 0 by decide)] at hX
   subst hX
   simp only [go_sem,zac,↓reduceIte,lcT,ty,zjx,yjz,zbq,zcf,jrA,errJ,hF,hc,d40,Bool.not_true,Bool.not_false]
   try (refine ⟨_,Weak.refl _,?_⟩)
   try simp only [go_sem,zac,↓reduceIte,lcT,ty,zjx,zad,zaf]
 ·exact hp.elim
end
end Go.Proofs.Ytioldmhhefhelaa
