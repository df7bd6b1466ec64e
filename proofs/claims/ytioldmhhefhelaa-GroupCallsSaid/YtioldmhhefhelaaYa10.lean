/- What the proofs of this seat stand on; it asks nothing. -/
import Derived.Test.YtioldmhhefhelaaYa09
set_option linter.unusedSimpArgs false
set_option linter.unusedVariables false
namespace Go.Proofs.Ytioldmhhefhelaa
open Ax
theorem zmj (g : Nat → Nat) : ∀ (l : List Mb),renL g (l.map fun m => AV.str m.d) = l.map fun m => AV.str m.d
 | [] => rfl
 | x :: r => by simp only [List.map_cons,renL,zmj g r]; rfl
theorem yaq : ∀ (l : List (List Int)) (i : Nat) (h : i < l.length),slot (l.map siA) i = .si l[i] false
 | _ :: _,0,_ => rfl
 | _ :: r,i + 1,h => by
  simp only [List.map_cons,slot,List.getElem_cons_succ]
  exact yaq r i (by simpa using h)
def ofF (l : List (List UInt8)) (p : Int) (v : List UInt8) : List Int := (rgF l.length p).getD (plT v l) []
def ofS : zan
 | [.sg 1 xs f,.w (.int .i64 p),.str v],[] => ⟨xs.length ≤ 1000000 ∧ ∃ l : List (List UInt8),xs = l.map AV.str ∧ srtT l ∧ thT v l = true,.si (ofF (xs.map strB) p v) false,[]⟩
 | _,_ => zbg
def ysi (f : FuncId) : Option zan :=
 match f with
 | 61 => some sdTS
 | 62 => some rgS
 | 60 => some bsTS
 | _ => none
theorem ysh : Fns Try.prog ysi := by
 intro f s h
 unfold ysi at h
 split at h
 ·injection h with h; subst h; exact ⟨⟨_,Try.func61,by kernel_rfl,by kernel_rfl⟩,zwr⟩
 ·injection h with h; subst h; exact ⟨⟨_,Try.func62,by kernel_rfl,by kernel_rfl⟩,yps⟩
 ·injection h with h; subst h; exact ⟨⟨_,Try.func60,by kernel_rfl,by kernel_rfl⟩,yny⟩
 ·cases h
section
set_option maxRecDepth 100000
set_option maxHeartbeats 4000000
theorem yqa : zaz Try.prog 38 ofS := by
 refine zbc (S := ysi) (T := ty) mixed ty_ok ysh Try.func38 (c := Try.f38.body.getD .skip) (by kernel_rfl) (by kernel_rfl) (fun xs pins hp _ => ?_)
 unfold ofS at hp ⊢
 split at hp
 ·rename_i xs f p v _
  obtain ⟨hL,l,rfl,hs,ht⟩ := hp
  rw [List.length_map] at hL
  refine ⟨by simp,?_⟩
  have hlp : (l.map AV.str).length = l.length := by simp
  have hex2 : ∃ es : List (List UInt8),l.map AV.str = es.map AV.str ∧ srtT es := ⟨l,rfl,hs⟩
  have hst := zid l
  have hpl : plT v l < l.length := by
   rcases Nat.lt_or_ge (plT v l) l.length with h | h
   ·exact h
   ·rw [yak (by omega)] at ht; cases ht
  have h0 : 0 < l.length := by omega
  have hrl : (rgF l.length p).length = l.length := zqb _ _ _
  have hsl := yaq (rgF l.length p) (plT v l) (by omega)
  have hof : ofF l p v = (rgF l.length p)[plT v l]'(by omega) := by unfold ofF; rw [List.getD_eq_getElem?_getD,List.getElem?_eq_getElem (by omega)]; rfl
  rw [hst,hof]
  have hrm : ((rgF l.length p).map siA).length = l.length := by simp [hrl]
  obtain ⟨X,hX⟩ : ∃ X,(rgF l.length p)[plT v l]'(by omega) = X := ⟨_,rfl⟩
  rw [hX] at hsl ⊢
  clear hof hX
  obtain ⟨G,hG⟩ : ∃ G,rgF l.length p = G := ⟨_,rfl⟩
  obtain ⟨K,hK⟩ : ∃ K,plT v l = K := ⟨_,rfl⟩
  rw [hG,hK] at hsl
  rw [hG] at hrm
  rw [hK] at hpl
  have hcg : ∀ h,coe ty 93 (.sg 1 (G.map siA) h) = .sg 1 (G.map siA) h := fun h => by cases G <;> rfl
  unfold Try.f38
  simp only [go_sem,zab,↓reduceIte,ty,ysi,sdTS,rgS,bsTS,hlp,h0,hL,hex2,hst,ht,hG,hK,hsl,hrm,hpl,zet,hcg,Int.toNat_natCast,Bool.not_true]
  omega
 ·exact hp.elim
end
def namS : zan
 | [.agg [.w (.int .i64 gn),.w (.int .u8 ph),.sg 3 xs f]],[] => ⟨xs.length ≤ 1000000 ∧ ∃ l : List Mb,xs = l.map mbA,.sg 1 ((xs.map umb).map fun m => .str m.d) false,[]⟩
 | _,_ => zbg
section
set_option maxRecDepth 100000
set_option maxHeartbeats 4000000
theorem yks : zaz Try.prog 16 namS := by
 refine zbc (S := noS) (T := ty) mixed ty_ok zbh Try.func16 (c := Try.f16.body.getD .skip) (by kernel_rfl) (by kernel_rfl) (fun xs pins hp _ => ?_)
 unfold namS at hp ⊢
 split at hp
 ·rename_i gn ph xs f _
  obtain ⟨hL,l,rfl⟩ := hp
  rw [List.length_map] at hL
  have hlp : (l.map mbA).length = l.length := by simp
  have hmm := zaj l
  rw [hmm]
  refine ⟨by simp,?_⟩
  unfold Try.f16
  simp only [go_sem,zab,↓reduceIte,ty,noS,hlp]
  refine zbf ⟨fun m σ => ∃ (k : Nat),m = l.length - k ∧ k ≤ l.length ∧
    σ = ⟨[.agg [.w (.int .i64 gn),.w (.int .u8 ph),.sg 3 (l.map mbA) f],.junk,.sg 1 [] true,.ms 4 1 0 k,.junk,.junk,.junk,.sg 3 (l.map mbA) f,.w (.int .i64 l.length),.w (.int .i64 k),.junk,.junk,.junk,.junk,.junk,.junk,.junk,.junk,.junk,.junk],[(4,.g 1 ((l.take k).map fun m => .str m.d))],5⟩,?_,?_⟩
  ·refine ⟨_,_,(zen 3 1 (.g 1 []) ⟨by decide,rfl⟩ (by exact trivial)).trans (zag [0,1,2,3,60] rfl rfl rfl ?_ ?_),0,rfl,by omega,rfl⟩
   ·simp only [ssT,zal,zam,setSlot,gOf,AV.ren,renL,Blk.ren,Ax.look,Ax.put,reduceCtorEq,↓reduceIte,Nat.reduceEqDiff,Nat.reduceLT,Nat.reduceAdd,List.length_append,List.length_cons,List.length_nil,Option.some.injEq]; try simp
   ·simp only [ssT,zal,zam,setSlot,gOf,AV.ren,renL,Blk.ren,Ax.look,Ax.put,reduceCtorEq,↓reduceIte,Nat.reduceEqDiff,Nat.reduceLT,Nat.reduceAdd,List.length_append,List.length_cons,List.length_nil,Option.some.injEq]; try simp [renL]
  ·rintro m σ ⟨k,rfl,hk,rfl⟩
   have e1 : ((k : Int) + 1 + 9223372036854775808) % 18446744073709551616 - 9223372036854775808 = ((k + 1 : Nat) : Int) := by omega
   have hrn : (((l.take k).map fun m => AV.str m.d)).length = k := by simp; omega
   by_cases hkl : k < l.length
   ·have d3 : decide ((k : Int) < (l.length : Int)) = true := decide_eq_true (by omega)
    have hs1 := zbe l k hkl
    have hap : ((l.take k).map fun m => AV.str m.d) ++ [.str (l[k]).d] = (l.take (k + 1)).map fun m => AV.str m.d := by
     rw [List.take_succ_eq_append_getElem hkl,List.map_append]; rfl
    obtain ⟨X,hX⟩ : ∃ X,l[k] = X := ⟨_,rfl⟩
    rw [hX] at hs1 hap
    obtain ⟨xd,xt,xy⟩ := X
    have hs1 : slot (l.map mbA) k = .agg [.str xd,.w (.int .i64 xt),.w (.bool xy)] := hs1
    simp only at hap
    simp only [go_sem,zab,↓reduceIte,ty,noS,hlp,d3,hs1,e1,hrn,hap,Int.toNat_natCast]
    refine ⟨⟨by omega,hkl⟩,by unfold top; omega,l.length - (k + 1),_,by omega,zag [0,1,2,3,77] rfl rfl rfl ?_ ?_,k + 1,rfl,by omega,rfl⟩
    ·simp only [ssT,zal,zam,setSlot,gOf,AV.ren,renL,Blk.ren,Ax.look,Ax.put,reduceCtorEq,↓reduceIte,Nat.reduceEqDiff,Nat.reduceLT,Nat.reduceAdd,List.length_append,List.length_cons,List.length_nil,Option.some.injEq,zaf]; try simp
    ·simp only [ssT,zal,zam,setSlot,gOf,AV.ren,renL,Blk.ren,Ax.look,Ax.put,reduceCtorEq,↓reduceIte,Nat.reduceEqDiff,Nat.reduceLT,Nat.reduceAdd,List.length_append,List.length_cons,List.length_nil,Option.some.injEq,zmj]; try rw [zmj]
   ·have d3 : decide ((k : Int) < (l.length : Int)) = false := decide_eq_false (by omega)
    obtain rfl : k = l.length := by omega
    have hcl : closedL (l.map fun m => AV.str m.d) = true := by
     have := zdp (l.map fun m => m.d)
     rw [List.map_map] at this; exact this
    have htt : l.take l.length = l := List.take_length
    rw [htt] at hrn ⊢
    simp only [go_sem,zab,↓reduceIte,ty,noS,d3]
    have hdle : decide (0 + l.length ≤ (l.map fun m => AV.str m.d).length) = true := decide_eq_true (by rw [hrn]; omega)
    have htk : List.take l.length (l.map fun m => AV.str m.d) = l.map fun m => AV.str m.d := List.take_of_length_le (by rw [hrn]; omega)
    refine ⟨_,zby 4 1 3 (l.map fun m => AV.str m.d) rfl hcl (by simp [slot,AV.ids]),?_⟩
    simp only [fgL,fgH,AV.fg,Blk.fg,Nat.reduceBEq,cond_true,cond_false,hdle,Bool.and_true,beq_self_eq_true,Bool.true_and,List.drop_zero,htk]
    simp only [go_sem,zab,↓reduceIte,ty,noS]
 ·exact hp.elim
end
end Go.Proofs.Ytioldmhhefhelaa
namespace Go.Proofs.Ytioldmhhefhelaa
open Ax
theorem zbu {T : zae} {sl : List AV} {H : Heap} {nx : Nat} {v : Value} {q : Prop} (i : Nat) (h : slot sl i = .w v) : ycu T [.tmp i] [] ⟨q,.w v,[]⟩ .ret ⟨sl,H,nx⟩ := by
 refine ⟨_,Weak.refl _,?_⟩
 simp only [Ax.Ends,Ax.rvals,EndsX,rone,h,AV.ids,idsL,newIds,upTo,nodup,pinsOf,List.nil_append,AV.ren,and_self]
def timB (n : Int) : Bool := decide (0 ≤ n) && decide (n ≤ 1099511627776)
def idB (d : List UInt8) : Bool := decide ((1 : Int) ≤ (d.length : Int)) && decide ((d.length : Int) ≤ 32)
def allY (l : List Mb) : Bool := decide (0 < l.length) && !decide (l.findIdx offY < l.length)
def phB (ph : Int) (l : List Mb) : Bool := if l.length = 0 then decide (ph = 0) else if allY l = true then decide (ph = 2) else decide (ph = 1)
def rowB (m : Mb) : Bool := idB m.d && timB m.t
def zbl : Option (List UInt8) → List Mb → Bool
 | _,[] => true
 | none,a :: r => rowB a && zbl (some a.d) r
 | some p,a :: r => rowB a && (!(leD a.d p) && zbl (some a.d) r)
def chB (gn ph : Int) (l : List Mb) : Bool := decide (l.length ≤ 16) && (timB gn && (phB ph l && zbl none l))
def chG (gn ph : Int) (l : List Mb) : Int := if chB gn ph l = true then 0 else 4
def timS : zan
 | [.w (.int .i64 n)],[] => ⟨True,.w (.bool (timB n)),[]⟩
 | _,_ => zbg
def zce : zan
 | [.str d],[] => ⟨d.length ≤ 9223372036854775807,.w (.bool (idB d)),[]⟩
 | _,_ => zbg
def cfGS : zan
 | [.sg 3 xs g,.fn id []],[] => ⟨id = 59 ∧ xs.length ≤ 9223372036854775807 ∧ (∃ l : List Mb,xs = l.map mbA),.w (.bool (decide ((xs.map umb).findIdx offY < xs.length))),[]⟩
 | _,_ => zbg
def alyS : zan
 | [.agg [.w (.int .i64 gn),.w (.int .u8 ph),.sg 3 xs f]],[] => ⟨xs.length ≤ 9223372036854775807 ∧ (∃ l : List Mb,xs = l.map mbA),.w (.bool (allY (xs.map umb))),[]⟩
 | _,_ => zbg
def phS : zan
 | [.agg [.w (.int .i64 gn),.w (.int .u8 ph),.sg 3 xs f]],[] => ⟨xs.length ≤ 9223372036854775807 ∧ (∃ l : List Mb,xs = l.map mbA),.w (.bool (phB ph (xs.map umb))),[]⟩
 | _,_ => zbg
def chGS : zan
 | [.agg [.w (.int .i64 gn),.w (.int .u8 ph),.sg 3 xs f]],[] => ⟨xs.length ≤ 9223372036854775807 ∧ (∃ l : List Mb,xs = l.map mbA ∧ ∀ r ∈ l,r.d.length ≤ 9223372036854775807),.w (.int .i64 (chG gn ph (xs.map umb))),[]⟩
 | _,_ => zbg
section
set_option maxRecDepth 100000
set_option maxHeartbeats 4000000
theorem zpp : zaz Try.prog 26 timS := by
 refine zgi (S := noS) (T := ty) mixed ty_ok zbh Try.func26 (c := Try.f26.body.getD .skip) (by kernel_rfl) (by kernel_rfl) (fun xs pins hp _ => ?_)
 unfold timS at hp ⊢
 split at hp
 ·rename_i n _
  refine ⟨by simp,?_⟩
  unfold timB
  unfold Try.f26
  cases h1 : decide (0 ≤ n) with
  | true =>
   simp only [go_sem,zab,↓reduceIte,ty,noS,h1,Bool.true_and]
   exact zbu 2 rfl
  | false =>
   simp only [go_sem,zab,↓reduceIte,ty,noS,h1,Bool.false_and]
   exact zbu 2 rfl
 ·exact hp.elim
theorem ztv : zaz Try.prog 25 zce := by
 refine zgi (S := noS) (T := ty) mixed ty_ok zbh Try.func25 (c := Try.f25.body.getD .skip) (by kernel_rfl) (by kernel_rfl) (fun xs pins hp _ => ?_)
 unfold zce at hp ⊢
 split at hp
 ·rename_i d _
  refine ⟨by simp,?_⟩
  unfold idB
  unfold Try.f25
  cases h1 : decide ((1 : Int) ≤ (d.length : Int)) with
  | true =>
   simp only [go_sem,zab,↓reduceIte,ty,noS,h1,Bool.true_and]
   exact zbu 2 rfl
  | false =>
   simp only [go_sem,zab,↓reduceIte,ty,noS,h1,Bool.false_and]
   exact zbu 2 rfl
 ·exact hp.elim
def ytb (f : FuncId) : Option zan :=
 match f with
 | 31 => some ixGS
 | _ => none
theorem yta : FnsO Try.prog ytb := by
 intro f s h
 unfold ytb at h
 split at h
 ·injection h with h; subst h; exact ⟨⟨_,Try.func31,by kernel_rfl,by kernel_rfl⟩,zqo⟩
 ·cases h
def cfPl20 : zfi := fun id => match id with
 | 1 => .opn [] 2
 | _ => .std
theorem yni : zaz Try.prog 58 cfGS := by
 refine zbo (S := noS) (SO := ytb) (T := ty) mixed ty_ok zbh yta Try.func58 (c := Try.f58.body.getD .skip) (by kernel_rfl) (fun xs pins hp _ => ?_)
 unfold cfGS at hp ⊢
 split at hp
 ·rename_i xs g id _
  obtain ⟨rfl,hL,l,rfl⟩ := hp
  rw [List.length_map] at hL
  have hle : (l.map mbA).length = l.length := by simp
  have hex : ∃ k : List Mb,l.map mbA = k.map mbA := ⟨l,rfl⟩
  have hv : decide (0 ≤ ixG offY l) = decide (l.findIdx offY < l.length) := by
   unfold ixG
   by_cases h : l.findIdx offY < l.length
   ·rw [if_pos h,decide_eq_true h]; exact decide_eq_true (by omega)
   ·rw [if_neg h,decide_eq_false h]; rfl
  rw [zaj,hle]
  generalize decide (l.findIdx offY < l.length) = V at *
  refine ⟨by simp,cfPl20,by kernel_rfl,?_⟩
  unfold Try.f58
  simp only [go_sem,zaa,↓reduceIte,lcT,ty,noS,ytb,cfPl20,ixGS,zav,hle,hL,hex,zaj,hv]
  try (refine ⟨_,Weak.refl _,?_⟩)
  try simp only [go_sem,zaa,↓reduceIte,lcT,ty,noS]
 ·exact hp.elim
def yaf (f : FuncId) : Option zan :=
 match f with
 | 58 => some cfGS
 | _ => none
theorem yow : Fns Try.prog yaf := by
 intro f s h
 unfold yaf at h
 split at h
 ·injection h with h; subst h; exact ⟨⟨_,Try.func58,by kernel_rfl,by kernel_rfl⟩,yni⟩
 ·cases h
theorem yab : zaz Try.prog 37 alyS := by
 refine zgi (S := yaf) (T := ty) mixed ty_ok yow Try.func37 (c := Try.f37.body.getD .skip) (by kernel_rfl) (by kernel_rfl) (fun xs pins hp _ => ?_)
 unfold alyS at hp ⊢
 split at hp
 ·rename_i gn ph xs f _
  obtain ⟨hL,l,rfl⟩ := hp
  rw [List.length_map] at hL
  have hle : (l.map mbA).length = l.length := by simp
  have hex : ∃ k : List Mb,l.map mbA = k.map mbA := ⟨l,rfl⟩
  rw [zaj]
  unfold allY
  generalize hV : decide (l.findIdx offY < l.length) = V
  refine ⟨by simp,?_⟩
  unfold Try.f37
  by_cases h0 : 0 < l.length
  ·have d0 : decide ((0 : Int) < (l.length : Int)) = true := decide_eq_true (by omega)
   rw [decide_eq_true h0,Bool.true_and]
   simp only [go_sem,zab,↓reduceIte,ty,yaf,cfGS,zav,hle,hL,hex,zaj,hV,d0]
   exact zbu 2 rfl
  ·have d0 : decide ((0 : Int) < (l.length : Int)) = false := decide_eq_false (by omega)
   rw [decide_eq_false h0,Bool.false_and]
   simp only [go_sem,zab,↓reduceIte,ty,yaf,cfGS,hle,d0]
   exact zbu 2 rfl
 ·exact hp.elim
def yim (f : FuncId) : Option zan :=
 match f with
 | 37 => some alyS
 | _ => none
theorem ysg : Fns Try.prog yim := by
 intro f s h
 unfold yim at h
 split at h
 ·injection h with h; subst h; exact ⟨⟨_,Try.func37,by kernel_rfl,by kernel_rfl⟩,yab⟩
 ·cases h
theorem ypy : zaz Try.prog 42 phS := by
 refine zgi (S := yim) (T := ty) mixed ty_ok ysg Try.func42 (c := Try.f42.body.getD .skip) (by kernel_rfl) (by kernel_rfl) (fun xs pins hp _ => ?_)
 unfold phS at hp ⊢
 split at hp
 ·rename_i gn ph xs f _
  obtain ⟨hL,l,rfl⟩ := hp
  rw [List.length_map] at hL
  have hle : (l.map mbA).length = l.length := by simp
  have hex : ∃ k : List Mb,l.map mbA = k.map mbA := ⟨l,rfl⟩
  rw [zaj]
  unfold phB
  refine ⟨by simp,?_⟩
  unfold Try.f42
  by_cases h0 : l.length = 0
  ·have d0 : decide ((l.length : Int) = 0) = true := decide_eq_true (by omega)
   rw [if_pos h0]
   simp only [go_sem,zab,↓reduceIte,ty,yim,alyS,hle,d0]
   exact zbu 2 rfl
  ·have d0 : decide ((l.length : Int) = 0) = false := decide_eq_false (by omega)
   rw [if_neg h0]
   cases hA : allY l with
   | true =>
    rw [if_pos rfl]
    simp only [go_sem,zab,↓reduceIte,ty,yim,alyS,zav,hle,hL,hex,zaj,hA,d0]
    exact zbu 2 rfl
   | false =>
    rw [if_neg (by simp)]
    simp only [go_sem,zab,↓reduceIte,ty,yim,alyS,zav,hle,hL,hex,zaj,hA,d0]
    exact zbu 2 rfl
 ·exact hp.elim
end
end Go.Proofs.Ytioldmhhefhelaa
namespace Go.Proofs.Ytioldmhhefhelaa
open Ax
def zjy (f : FuncId) : Option zan :=
 match f with
 | 26 => some timS
 | 25 => some zce
 | 42 => some phS
 | _ => none
theorem ysn : Fns Try.prog zjy := by
 intro f s h
 unfold zjy at h
 split at h
 ·injection h with h; subst h; exact ⟨⟨_,Try.func26,by kernel_rfl,by kernel_rfl⟩,zpp⟩
 ·injection h with h; subst h; exact ⟨⟨_,Try.func25,by kernel_rfl,by kernel_rfl⟩,ztv⟩
 ·injection h with h; subst h; exact ⟨⟨_,Try.func42,by kernel_rfl,by kernel_rfl⟩,ypy⟩
 ·cases h
def zgm : Plan := fun id => match id with
 | 6 => some []
 | _ => none
def prvD (l : List Mb) (i : Nat) : Option (List UInt8) := match i with
 | 0 => none
 | j + 1 => some ((l[j]?).getD ⟨[],0,false⟩).d
theorem zug {gn ph : Int} {l : List Mb} (h : chB gn ph l = false) : chG gn ph l = 4 := by unfold chG; rw [h]; rfl
section
set_option maxRecDepth 100000
set_option maxHeartbeats 16000000
theorem znc : zaz Try.prog 17 chGS := by
 refine zfg (S := zjy) (T := ty) (pl := zgm) mixed ty_ok ysn Try.func17 (c := Try.f17.body.getD .skip) (by kernel_rfl) (by kernel_rfl) (fun xs pins hp _ => ?_)
 unfold chGS at hp ⊢
 split at hp
 ·rename_i gn ph xs f _
  obtain ⟨hL,l,rfl,hd⟩ := hp
  rw [List.length_map] at hL
  have hle : (l.map mbA).length = l.length := by simp
  have hex : ∃ k : List Mb,l.map mbA = k.map mbA := ⟨l,rfl⟩
  rw [zaj]
  refine ⟨by simp,?_⟩
  unfold Try.f17
  by_cases h16 : 16 < l.length
  ·have d0 : decide ((16 : Int) < (l.length : Int)) = true := decide_eq_true (by omega)
   have hb : chB gn ph l = false := by unfold chB; rw [decide_eq_false (by omega),Bool.false_and]
   have hv : chG gn ph l = 4 := zug hb
   rw [hv]
   simp (config := { maxSteps := 3000000 }) only [go_sem,zac,↓reduceIte,lcT,ty,zjy,zgm,timS,zce,phS,zav,hle,hL,hex,zaj,zad,zaq,Int.toNat_natCast,Bool.not_true,Bool.not_false,d0]
   exact zbu 2 rfl
  ·have d0 : decide ((16 : Int) < (l.length : Int)) = false := decide_eq_false (by omega)
   cases hT : timB gn with
   | false =>
    have hb : chB gn ph l = false := by unfold chB; rw [hT,Bool.false_and,Bool.and_false]
    have hv : chG gn ph l = 4 := zug hb
    rw [hv]
    simp (config := { maxSteps := 3000000 }) only [go_sem,zac,↓reduceIte,lcT,ty,zjy,zgm,timS,zce,phS,zav,hle,hL,hex,zaj,zad,zaq,Int.toNat_natCast,Bool.not_true,Bool.not_false,d0,hT]
    exact zbu 2 rfl
   | true =>
    cases hP : phB ph l with
    | false =>
     have hb : chB gn ph l = false := by unfold chB; rw [hT,hP,Bool.false_and,Bool.and_false,Bool.and_false]
     have hv : chG gn ph l = 4 := zug hb
     rw [hv]
     simp (config := { maxSteps := 3000000 }) only [go_sem,zac,↓reduceIte,lcT,ty,zjy,zgm,timS,zce,phS,zav,hle,hL,hex,zaj,zad,zaq,Int.toNat_natCast,Bool.not_true,Bool.not_false,d0,hT,hP]
     exact zbu 2 rfl
    | true =>
     have hb : chB gn ph l = zbl none l := by unfold chB; rw [hT,hP,decide_eq_true (by omega),Bool.true_and,Bool.true_and,Bool.true_and]
     have hch : chG gn ph l = if zbl none l = true then 0 else 4 := by unfold chG; rw [hb]
     simp (config := { maxSteps := 3000000 }) only [go_sem,zac,↓reduceIte,lcT,ty,zjy,zgm,timS,zce,phS,zav,hle,hL,hex,zaj,zad,zaq,Int.toNat_natCast,Bool.not_true,Bool.not_false,d0,hT,hP]
     refine zhu ⟨fun m σ => ∃ i : Nat,m = l.length - i ∧ i ≤ l.length ∧ zbl (prvD l i) (l.drop i) = zbl none l ∧
      σ = ⟨[.junk,.rf 4 3 0 0,.junk,.junk,.junk,.junk,.junk,.junk,.junk,.junk,.junk,.junk,.junk,.junk,.junk,.junk,.junk,.junk,.junk,.junk,.junk,.sg 3 (l.map mbA) f,.w (.int .i64 l.length),.w (.int .i64 i),.junk,.junk,.junk,.junk,.junk,.junk,.junk,.junk,.junk,.junk,.junk,.junk,.junk,.junk,.junk,.junk,.junk,.junk,.junk,.junk,.junk,.junk,.junk,.junk,.junk,.junk,.junk,.junk,.junk,.junk,.junk],[(4,.g 3 [.agg [.w (.int .i64 gn),.w (.int .u8 ph),.sg 3 (l.map mbA) f]])],5⟩,?_,?_⟩
     ·refine ⟨_,_,zag [0,1,2,3,4] rfl rfl rfl ?_ ?_,0,rfl,by omega,rfl,rfl⟩
      ·simp only [ssT,zal,zam,setSlot,gOf,AV.ren,renL,Blk.ren,Ax.look,Ax.put,reduceCtorEq,↓reduceIte,Nat.reduceEqDiff,Nat.reduceLT,Nat.reduceAdd,List.length_append,List.length_cons,List.length_nil,Option.some.injEq,zaf]; try simp
      ·simp only [ssT,zal,zam,setSlot,gOf,AV.ren,renL,Blk.ren,Ax.look,Ax.put,reduceCtorEq,↓reduceIte,Nat.reduceEqDiff,Nat.reduceLT,Nat.reduceAdd,List.length_append,List.length_cons,List.length_nil,Option.some.injEq,zaf]; try simp
     ·rintro m σ ⟨i,rfl,hi2,hinv,rfl⟩
      by_cases hil : i < l.length
      ·have d1x : decide ((i : Int) < l.length) = true := decide_eq_true (by omega)
       have e1 : ((i : Int) + 1 + 9223372036854775808) % 18446744073709551616 - 9223372036854775808 = ((i + 1 : Nat) : Int) := by omega
       have hs1 := zbe l i hil
       have hdr : l.drop i = l[i] :: l.drop (i + 1) := List.drop_eq_getElem_cons hil
       have hprv : prvD l (i + 1) = some l[i].d := by show some ((l[i]?).getD ⟨[],0,false⟩).d = _; rw [List.getElem?_eq_getElem hil]; rfl
       have hdl := hd _ (List.getElem_mem hil)
       obtain ⟨r,hr⟩ : ∃ r,l[i] = r := ⟨_,rfl⟩
       rw [hr] at hs1 hdr hprv hdl
       rw [hdr] at hinv
       obtain ⟨rd,rt,ry⟩ := r
       simp only at hprv hdl
       have hs1 : slot (l.map mbA) i = .agg [.str rd,.w (.int .i64 rt),.w (.bool ry)] := hs1
       cases hI : idB rd with
       | false =>
        have hv : chG gn ph l = 4 := by
         refine zug ?_
         rw [hb,← hinv]
         cases hq : prvD l i <;> simp [zbl,rowB,hI]
        rw [hv]
        simp (config := { maxSteps := 3000000 }) only [go_sem,zac,↓reduceIte,lcT,ty,zjy,zgm,timS,zce,phS,zav,hle,hL,hex,zaj,zad,zaq,Int.toNat_natCast,Bool.not_true,Bool.not_false,d1x,hs1,hI,hdl]
        repeat (first | refine And.intro (by omega) ?_ | refine And.intro ⟨by omega,by omega⟩ ?_)
        refine ⟨_,Weak.refl _,?_⟩
        simp (config := { maxSteps := 3000000 }) only [go_sem,zac,↓reduceIte,lcT,ty,zjy,zgm]
        exact zbu 2 rfl
       | true =>
        cases hR : timB rt with
        | false =>
         have hv : chG gn ph l = 4 := by
          refine zug ?_
          rw [hb,← hinv]
          cases hq : prvD l i <;> simp [zbl,rowB,hR]
         rw [hv]
         simp (config := { maxSteps := 3000000 }) only [go_sem,zac,↓reduceIte,lcT,ty,zjy,zgm,timS,zce,phS,zav,hle,hL,hex,zaj,zad,zaq,Int.toNat_natCast,Bool.not_true,Bool.not_false,d1x,hs1,hI,hR,hdl]
         repeat (first | refine And.intro (by omega) ?_ | refine And.intro ⟨by omega,by omega⟩ ?_)
         refine ⟨_,Weak.refl _,?_⟩
         simp (config := { maxSteps := 3000000 }) only [go_sem,zac,↓reduceIte,lcT,ty,zjy,zgm]
         exact zbu 2 rfl
        | true =>
         by_cases h0 : i = 0
         ·have d0x : decide ((0 : Int) < (i : Int)) = false := decide_eq_false (by omega)
          have hinv2 : zbl (prvD l (i + 1)) (l.drop (i + 1)) = zbl none l := by
           rw [← hinv,hprv]
           subst h0
           simp [prvD,zbl,rowB,hI,hR]
          simp (config := { maxSteps := 3000000 }) only [go_sem,zac,↓reduceIte,lcT,ty,zjy,zgm,timS,zce,phS,zav,hle,hL,hex,zaj,zad,zaq,Int.toNat_natCast,Bool.not_true,Bool.not_false,d1x,hs1,hI,hR,d0x,e1,hdl]
          repeat (first | refine And.intro (by omega) ?_ | refine And.intro ⟨by omega,by omega⟩ ?_)
          refine ⟨l.length - (i + 1),_,by omega,zag [0,1,2,3,4] rfl rfl rfl ?_ ?_,i + 1,rfl,by omega,hinv2,rfl⟩
          ·simp only [ssT,zal,zam,setSlot,gOf,AV.ren,renL,Blk.ren,Ax.look,Ax.put,reduceCtorEq,↓reduceIte,Nat.reduceEqDiff,Nat.reduceLT,Nat.reduceAdd,List.length_append,List.length_cons,List.length_nil,Option.some.injEq,zaf]; try simp
          ·simp only [ssT,zal,zam,setSlot,gOf,AV.ren,renL,Blk.ren,Ax.look,Ax.put,reduceCtorEq,↓reduceIte,Nat.reduceEqDiff,Nat.reduceLT,Nat.reduceAdd,List.length_append,List.length_cons,List.length_nil,Option.some.injEq,zaf]; try simp
         ·have d0x : decide ((0 : Int) < (i : Int)) = true := decide_eq_true (by omega)
          obtain ⟨j,rfl⟩ : ∃ j,i = j + 1 := ⟨i - 1,by omega⟩
          have hN : (((j + 1 : Nat) : Int) - 1 + 9223372036854775808) % 18446744073709551616 - 9223372036854775808 = (j : Int) := by omega
          have hs2 := zbe l j (by omega)
          have hp2 : prvD l (j + 1) = some (l[j]'(by omega)).d := by show some ((l[j]?).getD ⟨[],0,false⟩).d = _; rw [List.getElem?_eq_getElem (show j < l.length by omega)]; rfl
          obtain ⟨q,hq⟩ : ∃ q,l[j]'(by omega) = q := ⟨_,rfl⟩
          rw [hq] at hs2 hp2
          obtain ⟨qd,qt,qy⟩ := q
          have hs2 : slot (l.map mbA) j = .agg [.str qd,.w (.int .i64 qt),.w (.bool qy)] := hs2
          rw [hp2] at hinv
          cases hO : leD rd qd with
          | true =>
           have hO2 : (Op.bytesLess rd qd || decide (rd = qd)) = true := hO
           have hv : chG gn ph l = 4 := by
            refine zug ?_
            rw [hb,← hinv]
            simp [zbl,hO]
           rw [hv]
           simp (config := { maxSteps := 3000000 }) only [go_sem,zac,↓reduceIte,lcT,ty,zjy,zgm,timS,zce,phS,zav,hle,hL,hex,zaj,zad,zaq,Int.toNat_natCast,Bool.not_true,Bool.not_false,d1x,hs1,hs2,hI,hR,d0x,hN,hO2,hdl]
           repeat (first | refine And.intro (by omega) ?_ | refine And.intro ⟨by omega,by omega⟩ ?_)
           refine ⟨_,Weak.refl _,?_⟩
           simp (config := { maxSteps := 3000000 }) only [go_sem,zac,↓reduceIte,lcT,ty,zjy,zgm]
           exact zbu 2 rfl
          | false =>
           have hO2 : (Op.bytesLess rd qd || decide (rd = qd)) = false := hO
           have hinv2 : zbl (prvD l (j + 1 + 1)) (l.drop (j + 1 + 1)) = zbl none l := by
            rw [← hinv,hprv]
            simp [zbl,rowB,hI,hR,hO]
           simp (config := { maxSteps := 3000000 }) only [go_sem,zac,↓reduceIte,lcT,ty,zjy,zgm,timS,zce,phS,zav,hle,hL,hex,zaj,zad,zaq,Int.toNat_natCast,Bool.not_true,Bool.not_false,d1x,hs1,hs2,hI,hR,d0x,hN,hO2,e1,hdl]
           repeat (first | refine And.intro (by omega) ?_ | refine And.intro ⟨by omega,by omega⟩ ?_)
           refine ⟨l.length - (j + 1 + 1),_,by omega,zag [0,1,2,3,4] rfl rfl rfl ?_ ?_,j + 1 + 1,rfl,by omega,hinv2,rfl⟩
           ·simp only [ssT,zal,zam,setSlot,gOf,AV.ren,renL,Blk.ren,Ax.look,Ax.put,reduceCtorEq,↓reduceIte,Nat.reduceEqDiff,Nat.reduceLT,Nat.reduceAdd,List.length_append,List.length_cons,List.length_nil,Option.some.injEq,zaf]; try simp
           ·simp only [ssT,zal,zam,setSlot,gOf,AV.ren,renL,Blk.ren,Ax.look,Ax.put,reduceCtorEq,↓reduceIte,Nat.reduceEqDiff,Nat.reduceLT,Nat.reduceAdd,List.length_append,List.length_cons,List.length_nil,Option.some.injEq,zaf]; try simp
      ·have d1x : decide ((i : Int) < l.length) = false := decide_eq_false (by omega)
       have hv : chG gn ph l = 0 := by
        rw [hch,← hinv,List.drop_eq_nil_of_le (by omega)]
        cases prvD l i <;> rfl
       rw [hv]
       simp (config := { maxSteps := 3000000 }) only [go_sem,zac,↓reduceIte,lcT,ty,zjy,zgm,timS,zce,phS,zav,hle,hL,hex,zaj,zad,zaq,Int.toNat_natCast,Bool.not_true,Bool.not_false,d1x]
       refine ⟨_,Weak.refl _,?_⟩
       simp (config := { maxSteps := 3000000 }) only [go_sem,zac,↓reduceIte,lcT,ty,zjy,zgm]
       exact zbu 2 rfl
 ·exact hp.elim
end
end Go.Proofs.Ytioldmhhefhelaa
namespace Go.Proofs.Ytioldmhhefhelaa
open Ax
def zdv : zan
 | [.agg [.w (.int .i64 gn),.w (.int .u8 ph),.sg 3 xs f]],[] => ⟨xs.length ≤ 1000000 ∧ (∃ l : List Mb,xs = l.map mbA),.agg [.w (.int .i64 gn),.w (.int .u8 ph),bif empP xs then .sg 3 [] true else .ms 0 3 0 xs.length],bif empP xs then [] else [.g 3 xs]⟩
 | _,_ => zbg
def zbq : zan
 | [.agg [.w (.int .i64 gn),.w (.int .u8 ph),.sg 3 xs f],.str v],[] => ⟨xs.length ≤ 9223372036854775807 ∧ (∃ l : List Mb,xs = l.map mbA),.w (.int .i64 (ixG (isD v) (xs.map umb))),[]⟩
 | _,_ => zbg
def zMb : Mb := ⟨[],0,false⟩
def mbI (l : List Mb) (i : Nat) : Mb := (l[i]?).getD zMb
def zgo : zan
 | [.w (.int .i64 n)],[] => ⟨True,.fn 54 [.rf 0 1 0 0],[.g 1 [.w (.int .i64 n)]]⟩
 | _,_ => zbg
def mxT (a b : Int) : Int := if a < b then b else a
def zdt (now : Int) (m : Mb) : Mb := ⟨m.d,mxT m.t now,m.y⟩
def se1S : zan
 | [.rf 0 3 i 0,.rf 1 1 0 0],[.g 3 xs,.g 1 [.w (.int .i64 now)]] => ⟨i < xs.length ∧ (∃ l : List Mb,xs = l.map mbA),.tup [],[.g 3 (((xs.map umb).set i (zdt now (mbI (xs.map umb) i))).map mbA),.g 1 [.w (.int .i64 now)]]⟩
 | _,_ => zbg
def chaS : zan
 | [.agg [.w (.int .i64 gn),.w (.int .u8 ph),.sg 3 xs f],.w (.int .i64 i),.fn id [.rf 0 1 0 0]],[.g 1 [.w (.int .i64 now)]] => ⟨id = 54 ∧ (0 ≤ i ∧ i < xs.length) ∧ xs.length ≤ 1000000 ∧ (∃ l : List Mb,xs = l.map mbA),
   .agg [.w (.int .i64 gn),.w (.int .u8 ph),.ms 1 3 0 xs.length],[.g 1 [.w (.int .i64 now)],.g 3 (((xs.map umb).set i.toNat (zdt now (mbI (xs.map umb) i.toNat))).map mbA)]⟩
 | _,_ => zbg
def clrM (m : Mb) : Mb := ⟨m.d,m.t,false⟩
def turS : zan
 | [.agg [.w (.int .i64 gn),.w (.int .u8 ph),.ms 0 3 0 n]],[.g 3 xs] => ⟨(n ≤ xs.length ∧ 0 < xs.length ∧ n ≤ 1000000) ∧ (-4611686018427387904 ≤ gn ∧ gn ≤ 4611686018427387904) ∧ (∃ l : List Mb,xs = l.map mbA),
   .agg [.w (.int .i64 (gn + 1)),.w (.int .u8 (if n = 0 then 0 else 1)),.ms 0 3 0 n],[.g 3 ((((xs.map umb).take n).map clrM ++ (xs.map umb).drop n).map mbA)]⟩
 | _,_ => zbg
def zsa (f : FuncId) : Option zan :=
 match f with
 | 55 => some zyx
 | _ => none
theorem you : Fns Try.prog zsa := by
 intro f s h
 unfold zsa at h
 split at h
 ·injection h with h; subst h; exact ⟨⟨_,Try.func55,by kernel_rfl,by kernel_rfl⟩,yca⟩
 ·cases h
def yga (f : FuncId) : Option zan :=
 match f with
 | 31 => some ixGS
 | _ => none
theorem yoz : FnsO Try.prog yga := by
 intro f s h
 unfold yga at h
 split at h
 ·injection h with h; subst h; exact ⟨⟨_,Try.func31,by kernel_rfl,by kernel_rfl⟩,zqo⟩
 ·cases h
def yki : zfi := fun id => match id with
 | 1 => .opn [] 3
 | _ => .std
section
set_option maxRecDepth 100000
set_option maxHeartbeats 4000000
theorem zkh : zaz Try.prog 30 zdv := by
 refine zbo (S := zsa) (SO := noO) (T := ty) mixed ty_ok you zhl Try.func30 (c := Try.f30.body.getD .skip) (by kernel_rfl) (fun xs pins hp _ => ?_)
 unfold zdv at hp ⊢
 split at hp
 ·rename_i gn ph xs f _
  obtain ⟨hL,l,rfl⟩ := hp
  rw [List.length_map] at hL
  have hle : (l.map mbA).length = l.length := by simp
  have hcl := zad l
  have hex : ∃ k : List Mb,l.map mbA = k.map mbA := ⟨l,rfl⟩
  refine ⟨by simp,zbn,by kernel_rfl,?_⟩
  unfold Try.f30
  cases hz : empP (l.map mbA) with
  | true =>
   simp only [go_sem,zaa,↓reduceIte,lcT,ty,zsa,zbn,zyx,zav,hle,hL,hex,hz,cond_true]
   try (refine ⟨_,Weak.refl _,?_⟩)
   try simp only [go_sem,zaa,↓reduceIte,lcT,ty,zsa]
  | false =>
   simp only [go_sem,zaa,↓reduceIte,lcT,ty,zsa,zbn,zyx,zav,hle,hL,hex,hz,hcl,zaf,cond_false]
   try (refine ⟨_,Weak.refl _,?_⟩)
   try simp only [go_sem,zaa,↓reduceIte,lcT,ty,zsa,hcl,zaf,cond_false,cond_true]
 ·exact hp.elim
theorem zns : zaz Try.prog 27 zbq := by
 refine zbo (S := noS) (SO := yga) (T := ty) mixed ty_ok zbh yoz Try.func27 (c := Try.f27.body.getD .skip) (by kernel_rfl) (fun xs pins hp _ => ?_)
 unfold zbq at hp ⊢
 split at hp
 ·rename_i gn ph xs f v _
  obtain ⟨hL,l,rfl⟩ := hp
  rw [List.length_map] at hL
  have hle : (l.map mbA).length = l.length := by simp
  have hex : ∃ k : List Mb,l.map mbA = k.map mbA := ⟨l,rfl⟩
  have hP : ixP 53 v = isD v := if_pos rfl
  rw [zaj]
  refine ⟨by simp,yki,by kernel_rfl,?_⟩
  unfold Try.f27
  simp only [go_sem,zaa,↓reduceIte,lcT,ty,noS,yga,yki,ixGS,zav,hle,hL,hex,zaj,hP,true_or,or_true]
  try (refine ⟨_,Weak.refl _,?_⟩)
  try simp only [go_sem,zaa,↓reduceIte,lcT,ty,noS]
 ·exact hp.elim
theorem znn : zaz Try.prog 29 zgo := by
 refine zbo (S := noS) (SO := noO) (T := ty) mixed ty_ok zbh zhl Try.func29 (c := Try.f29.body.getD .skip) (by kernel_rfl) (fun xs pins hp _ => ?_)
 unfold zgo at hp ⊢
 split at hp
 ·rename_i n _
  refine ⟨by simp,zbn,by kernel_rfl,?_⟩
  unfold Try.f29
  simp only [go_sem,zaa,↓reduceIte,lcT,ty,noS,zbn]
  try (refine ⟨_,Weak.refl _,?_⟩)
  try simp only [go_sem,zaa,↓reduceIte,lcT,ty,noS]
 ·exact hp.elim
theorem yji : zcx Try.prog 54 se1S := by
 refine zci (S := noS) (SO := noO) (T := ty) mixed ty_ok zbh zhl Try.func54 (c := Try.f54.body.getD .skip) (by kernel_rfl) (fun xs pins hp => ?_)
 unfold se1S at hp ⊢
 split at hp
 ·rename_i i xs now
  obtain ⟨hi,l,rfl⟩ := hp
  rw [List.length_map] at hi
  have hle : (l.map mbA).length = l.length := by simp
  rw [zaj]
  have hs1 := zbe l i hi
  have hmb : mbI l i = l[i] := by unfold mbI; rw [List.getElem?_eq_getElem hi]; rfl
  have hst : ∀ x : Mb,setSlot (l.map mbA) i (.agg [.str x.d,.w (.int .i64 x.t),.w (.bool x.y)]) = (l.set i x).map mbA := fun x => zfs x l i hi
  rw [hmb]
  obtain ⟨r,hr⟩ : ∃ r,l[i] = r := ⟨_,rfl⟩
  rw [hr] at hs1 ⊢
  obtain ⟨rd,rt,ry⟩ := r
  have hs1 : slot (l.map mbA) i = .agg [.str rd,.w (.int .i64 rt),.w (.bool ry)] := hs1
  have hst1 := hst (zdt now ⟨rd,rt,ry⟩)
  unfold zdt mxT at hst1 ⊢
  simp only at hst1
  refine ⟨by simp,fun id => match id with
   | 0 => .prs []
   | _ => .std,by kernel_rfl,?_⟩
  unfold Try.f54
  simp only [go_sem,zaa,↓reduceIte,lcT,ty,noS,hle,hs1,hst1,zad,zaq,Int.toNat_natCast]
  repeat (refine And.intro (by omega) ?_)
  try (refine ⟨_,Weak.refl _,?_⟩)
  try simp only [go_sem,zaa,↓reduceIte,lcT,ty,noS,zad,zaf]
 ·exact hp.elim
end
end Go.Proofs.Ytioldmhhefhelaa
namespace Go.Proofs.Ytioldmhhefhelaa
open Ax
def zot (f : FuncId) : Option zan :=
 match f with
 | 30 => some zdv
 | _ => none
theorem yad : Fns Try.prog zot := by
 intro f s h
 unfold zot at h
 split at h
 ·injection h with h; subst h; exact ⟨⟨_,Try.func30,by kernel_rfl,by kernel_rfl⟩,zkh⟩
 ·cases h
def ygb (f : FuncId) : Option zan :=
 match f with
 | 54 => some se1S
 | _ => none
theorem ypa : FnsO Try.prog ygb := by
 intro f s h
 unfold ygb at h
 split at h
 ·injection h with h; subst h; exact ⟨⟨_,Try.func54,by kernel_rfl,by kernel_rfl⟩,yji⟩
 ·cases h
def yrm : zfi := fun id => match id with
 | 2 => .opn [] 5
 | _ => .std
def zgz (l : List Mb) (j : Nat) : List Mb := (l.take j).map clrM ++ l.drop j
theorem zqa (l : List Mb) (j : Nat) : (zgz l j).length = l.length := by
 unfold zgz
 simp only [List.length_append,List.length_map,List.length_take,List.length_drop]
 omega
theorem yjs (l : List Mb) (j : Nat) (h : j < l.length) (h' : j < (zgz l j).length) : (zgz l j)[j] = l[j] := by
 have h2 : (zgz l j)[j]? = some l[j] := by
  unfold zgz
  rw [List.getElem?_append_right (by simp; omega)]
  simp only [List.length_map,List.length_take]
  rw [List.getElem?_drop,show j + (j - min j l.length) = j by omega,List.getElem?_eq_getElem h]
 rw [List.getElem?_eq_getElem h'] at h2
 injection h2
theorem yjr (l : List Mb) (j : Nat) (h : j < l.length) : (zgz l j).set j (clrM l[j]) = zgz l (j + 1) := by
 unfold zgz
 have h1 : ((l.take j).map clrM).length = j := by simp; omega
 rw [List.set_append_right _ _ (by omega),h1,Nat.sub_self,List.drop_eq_getElem_cons h,List.set_cons_zero,List.take_succ_eq_append_getElem h,List.map_append]
 simp
section
set_option maxRecDepth 100000
set_option maxHeartbeats 8000000
theorem zrn : zcx Try.prog 28 chaS := by
 refine zci (S := zot) (SO := ygb) (T := ty) mixed ty_ok yad ypa Try.func28 (c := Try.f28.body.getD .skip) (by kernel_rfl) (fun xs pins hp => ?_)
 unfold chaS at hp ⊢
 split at hp
 ·rename_i gn ph xs f i id now
  obtain ⟨rfl,⟨i0,i1⟩,hL,l,rfl⟩ := hp
  rw [List.length_map] at hL i1
  have hle : (l.map mbA).length = l.length := by simp
  have hcl := zad l
  have hex : ∃ k : List Mb,l.map mbA = k.map mbA := ⟨l,rfl⟩
  obtain ⟨I,rfl⟩ : ∃ I : Nat,i = I := ⟨i.toNat,by omega⟩
  have hI : I < l.length := by omega
  have hem : empP (l.map mbA) = false := by cases l with | nil => simp at hI | cons _ _ => rfl
  rw [zaj,hle]
  generalize hQ : l.set I (zdt now (mbI l I)) = Q
  have hQl : Q.length = l.length := by rw [← hQ,List.length_set]
  have hQQ : l.set ((I : Int).toNat) (zdt now (mbI l ((I : Int).toNat))) = Q := by rw [← hQ]; simp
  rw [hQQ]
  refine ⟨by simp,yrm,by kernel_rfl,?_⟩
  unfold Try.f28
  simp only [go_sem,zaa,↓reduceIte,lcT,ty,zot,ygb,yrm,zdv,se1S,zav,hle,hL,hex,hem,hcl,hI,hQ,zad,zaq,zaj,zaf,Int.toNat_natCast,cond_false,cond_true]
  repeat (first | refine And.intro (by omega) ?_ | refine And.intro ⟨by omega,by omega⟩ ?_)
  try (refine ⟨_,Weak.refl _,?_⟩)
  try simp only [go_sem,zaa,↓reduceIte,lcT,ty,zot,zad,zaf,hle]
 ·exact hp.elim
theorem zpn : zcx Try.prog 34 turS := by
 refine zci (S := noS) (SO := noO) (T := ty) mixed ty_ok zbh zhl Try.func34 (c := Try.f34.body.getD .skip) (by kernel_rfl) (fun xs pins hp => ?_)
 unfold turS at hp ⊢
 split at hp
 ·rename_i gn ph n xs
  obtain ⟨⟨hn,h0,hn6⟩,⟨g0,g1⟩,l,rfl⟩ := hp
  rw [List.length_map] at hn h0
  have hle : (l.map mbA).length = l.length := by simp
  have hcl := zad l
  have wg : (gn + 1 + 9223372036854775808) % 18446744073709551616 - 9223372036854775808 = gn + 1 := by omega
  rw [zaj]
  show _ ∧ _
  have hfin : (l.take n).map clrM ++ l.drop n = zgz l n := rfl
  rw [hfin]
  refine ⟨by simp,zbn,by kernel_rfl,?_⟩
  unfold Try.f34
  by_cases hz : n = 0
  ·subst hz
   have d0 : decide (((0 : Nat) : Int) = 0) = true := rfl
   have d1 : decide ((0 : Int) < ((0 : Nat) : Int)) = false := rfl
   have hr0 : zgz l 0 = l := by unfold zgz; simp
   rw [hr0]
   simp only [go_sem,zaa,↓reduceIte,lcT,ty,noS,zbn,wg,d0,hcl]
   refine zco ⟨fun m σ => m = 0 ∧ σ = ⟨[.junk,.rf 4 3 0 0,.rf 5 3 0 0,.junk,.junk,.junk,.junk,.junk,.junk,.junk,.junk,.junk,.junk,.junk,.junk,.junk,.w (.int .i64 ((0 : Nat) : Int)),.w (.int .i64 0),.junk,.junk,.junk,.junk,.junk,.junk,.junk,.junk,.junk],[(0,.g 3 (l.map mbA)),(4,.g 3 [.agg [.w (.int .i64 (gn + 1)),.w (.int .u8 0),.ms 0 3 0 0]]),(5,.g 3 [.agg [.w (.int .i64 0),.w (.int .u8 0),.sg 3 [] true]])],6⟩,?_,?_⟩
   ·refine ⟨_,_,zag [0,1,2,3,4,12] rfl rfl rfl ?_ ?_,rfl,rfl⟩
    ·simp only [ssT,zal,zam,setSlot,gOf,AV.ren,renL,Blk.ren,Ax.look,Ax.put,reduceCtorEq,↓reduceIte,Nat.reduceEqDiff,Nat.reduceLT,Nat.reduceAdd,List.length_append,List.length_cons,List.length_nil,Option.some.injEq,zaf]; try simp
    ·simp only [ssT,zal,zam,setSlot,gOf,AV.ren,renL,Blk.ren,Ax.look,Ax.put,reduceCtorEq,↓reduceIte,Nat.reduceEqDiff,Nat.reduceLT,Nat.reduceAdd,List.length_append,List.length_cons,List.length_nil,Option.some.injEq,zaf]; try simp
   ·rintro m σ ⟨rfl,rfl⟩
    simp only [go_sem,zaa,↓reduceIte,lcT,ty,noS,zbn,d1,hcl]
    refine ⟨_,Weak.refl _,?_⟩
    simp only [go_sem,zaa,↓reduceIte,lcT,ty,noS,zbn,hcl]
    try (refine ⟨_,Weak.refl _,?_⟩)
    try simp only [go_sem,zaa,↓reduceIte,lcT,ty,noS,zbn,hcl,hle,zaf,cond_true,cond_false]
  ·have d0 : decide ((n : Int) = 0) = false := decide_eq_false (by omega)
   have hif : (if n = 0 then (0 : Int) else 1) = 1 := if_neg hz
   rw [hif]
   simp only [go_sem,zaa,↓reduceIte,lcT,ty,noS,zbn,wg,d0,hcl]
   refine zco ⟨fun m σ => ∃ j : Nat,m = n - j ∧ j ≤ n ∧ σ = ⟨[.junk,.rf 4 3 0 0,.rf 5 3 0 0,.junk,.junk,.junk,.junk,.junk,.junk,.junk,.junk,.junk,.junk,.junk,.junk,.junk,.w (.int .i64 n),.w (.int .i64 j),.junk,.junk,.junk,.junk,.junk,.junk,.junk,.junk,.junk],[(0,.g 3 ((zgz l j).map mbA)),(4,.g 3 [.agg [.w (.int .i64 (gn + 1)),.w (.int .u8 1),.ms 0 3 0 n]]),(5,.g 3 [.agg [.w (.int .i64 0),.w (.int .u8 0),.sg 3 [] true]])],6⟩,?_,?_⟩
   ·refine ⟨_,_,zag [0,1,2,3,4,12] rfl rfl rfl ?_ ?_,0,rfl,by omega,rfl⟩
    ·simp only [ssT,zal,zam,setSlot,gOf,AV.ren,renL,Blk.ren,Ax.look,Ax.put,reduceCtorEq,↓reduceIte,Nat.reduceEqDiff,Nat.reduceLT,Nat.reduceAdd,List.length_append,List.length_cons,List.length_nil,Option.some.injEq,zaf]; try simp
    ·simp only [ssT,zal,zam,setSlot,gOf,AV.ren,renL,Blk.ren,Ax.look,Ax.put,reduceCtorEq,↓reduceIte,Nat.reduceEqDiff,Nat.reduceLT,Nat.reduceAdd,List.length_append,List.length_cons,List.length_nil,Option.some.injEq,zaf,zgz,List.take_zero,List.drop_zero,List.map_nil,List.nil_append]; try simp
   ·rintro m σ ⟨j,rfl,hj,rfl⟩
    have hlj : ((zgz l j).map mbA).length = l.length := by rw [List.length_map,zqa]
    have hcj := zad (zgz l j)
    by_cases hjn : j < n
    ·have d2 : decide ((j : Int) < n) = true := decide_eq_true (by omega)
     have e1 : ((j : Int) + 1 + 9223372036854775808) % 18446744073709551616 - 9223372036854775808 = ((j + 1 : Nat) : Int) := by omega
     have hs1 := zbe (zgz l j) j (by rw [zqa]; omega)
     rw [yjs l j (by omega)] at hs1
     have hset := yjr l j (by omega)
     have hst := zfs (clrM (l[j]'(by omega))) (zgz l j) j (by rw [zqa]; omega)
     rw [hset] at hst
     obtain ⟨r,hr⟩ : ∃ r,l[j]'(by omega) = r := ⟨_,rfl⟩
     rw [hr] at hs1 hst
     obtain ⟨rd,rt,ry⟩ := r
     have hs1 : slot ((zgz l j).map mbA) j = .agg [.str rd,.w (.int .i64 rt),.w (.bool ry)] := hs1
     have hst : setSlot ((zgz l j).map mbA) j (.agg [.str rd,.w (.int .i64 rt),.w (.bool false)]) = (zgz l (j + 1)).map mbA := hst
     simp only [go_sem,zaa,↓reduceIte,lcT,ty,noS,zbn,d2,e1,hs1,hst,hlj,hcj,zad,zaq,Int.toNat_natCast]
     repeat (first | refine And.intro (by omega) ?_ | refine And.intro ⟨by omega,by omega⟩ ?_)
     refine ⟨n - (j + 1),_,by omega,zag [0,1,2,3,4,5] rfl rfl rfl ?_ ?_,j + 1,rfl,by omega,rfl⟩
     ·simp only [ssT,zal,zam,setSlot,gOf,AV.ren,renL,Blk.ren,Ax.look,Ax.put,reduceCtorEq,↓reduceIte,Nat.reduceEqDiff,Nat.reduceLT,Nat.reduceAdd,List.length_append,List.length_cons,List.length_nil,Option.some.injEq,zaf]; try simp
     ·simp only [ssT,zal,zam,setSlot,gOf,AV.ren,renL,Blk.ren,Ax.look,Ax.put,reduceCtorEq,↓reduceIte,Nat.reduceEqDiff,Nat.reduceLT,Nat.reduceAdd,List.length_append,List.length_cons,List.length_nil,Option.some.injEq,zaf]; try simp
    ·have d2 : decide ((j : Int) < n) = false := decide_eq_false (by omega)
     obtain rfl : j = n := by omega
     simp only [go_sem,zaa,↓reduceIte,lcT,ty,noS,zbn,d2,hcj]
     refine ⟨_,Weak.refl _,?_⟩
     simp only [go_sem,zaa,↓reduceIte,lcT,ty,noS,zbn,hcj]
     try (refine ⟨_,Weak.refl _,?_⟩)
     try simp only [go_sem,zaa,↓reduceIte,lcT,ty,noS,zbn,hcj,hlj,hle,zaf,cond_true,cond_false]
 ·exact hp.elim
end
end Go.Proofs.Ytioldmhhefhelaa
namespace Go.Proofs.Ytioldmhhefhelaa
open Ax
structure JR where
 g : Int
 p : Int
 l : List Mb
 f : Bool
 e : Int
def jrA (r : JR) : AV := .tup [.agg [.w (.int .i64 r.g),.w (.int .u8 r.p),.sg 3 (r.l.map mbA) r.f],.w (.int .i64 r.e)]
def errJ (e : Int) : JR := ⟨0,0,[],true,e⟩
def insM (v : List UInt8) (now : Int) (l : List Mb) : List Mb := l.take (l.findIdx (zea v)) ++ ⟨v,now,false⟩ :: l.drop (l.findIdx (zea v))
def joF (gn ph : Int) (l : List Mb) (v : List UInt8) (now : Int) : JR :=
 if chG gn ph l = 0 then
  if idB v = true then
   if timB now = true then
    if l.findIdx (isD v) < l.length then ⟨gn,ph,l.set (l.findIdx (isD v)) (zdt now (mbI l (l.findIdx (isD v)))),false,0⟩
    else if 16 ≤ l.length then errJ 9
    else if gn = 1099511627776 then errJ 11
    else ⟨gn + 1,1,(insM v now l).map clrM,false,0⟩
   else errJ 11
  else errJ 6
 else errJ (chG gn ph l)
def joS : zan
 | [.agg [.w (.int .i64 gn),.w (.int .u8 ph),.sg 3 xs f],.str v,.w (.int .i64 now)],[] => ⟨xs.length ≤ 900000 ∧ v.length ≤ 9223372036854775807 ∧ ∃ l : List Mb,xs = l.map mbA ∧ ∀ r ∈ l,r.d.length ≤ 9223372036854775807,jrA (joF gn ph (xs.map umb) v now),[]⟩
 | _,_ => zbg
def zhn : zan
 | [.sg 3 [] true,.w (.int .i64 0),.sg 3 [.agg [.str d,.w (.int .i64 t),.w (.bool y)]] f],[] => ⟨True,.ms 0 3 0 1,[.g 3 [.agg [.str d,.w (.int .i64 t),.w (.bool y)]]]⟩
 | _,_ => zbg
theorem eq00G : decide ((0:Int) = ((0:Nat):Int)) = true := rfl
theorem eq10G : decide (((1:Nat):Int) = (0:Int)) = false := rfl
theorem eq01G : decide ((0:Int) = ((1:Nat):Int)) = false := rfl
section
set_option maxRecDepth 100000
set_option maxHeartbeats 4000000
theorem ybj : zaz Try.prog 33 zhn := by
 refine zbc (S := noS) (T := ty) mixed ty_ok zbh Try.func33 (c := Try.f33.body.getD .skip) (by kernel_rfl) (by kernel_rfl) (fun xs pins hp _ => ?_)
 unfold zhn at hp ⊢
 split at hp
 ·rename_i d t y f _
  refine ⟨by simp,?_⟩
  unfold Try.f33
  simp only [go_sem,coe,zab,↓reduceIte,ty,noS,eq00G,eq01G,eq10G]
  decide
 ·exact hp.elim
end
def zgp (f : FuncId) : Option zan :=
 match f with
 | 17 => some chGS
 | 25 => some zce
 | 26 => some timS
 | 27 => some zbq
 | 29 => some zgo
 | 30 => some zdv
 | 33 => some zhn
 | _ => none
theorem ysk : Fns Try.prog zgp := by
 intro f s h
 unfold zgp at h
 split at h
 ·injection h with h; subst h; exact ⟨⟨_,Try.func17,by kernel_rfl,by kernel_rfl⟩,znc⟩
 ·injection h with h; subst h; exact ⟨⟨_,Try.func25,by kernel_rfl,by kernel_rfl⟩,ztv⟩
 ·injection h with h; subst h; exact ⟨⟨_,Try.func26,by kernel_rfl,by kernel_rfl⟩,zpp⟩
 ·injection h with h; subst h; exact ⟨⟨_,Try.func27,by kernel_rfl,by kernel_rfl⟩,zns⟩
 ·injection h with h; subst h; exact ⟨⟨_,Try.func29,by kernel_rfl,by kernel_rfl⟩,znn⟩
 ·injection h with h; subst h; exact ⟨⟨_,Try.func30,by kernel_rfl,by kernel_rfl⟩,zkh⟩
 ·injection h with h; subst h; exact ⟨⟨_,Try.func33,by kernel_rfl,by kernel_rfl⟩,ybj⟩
 ·cases h
def zoi (f : FuncId) : Option zan :=
 match f with
 | 28 => some chaS
 | 31 => some ixGS
 | 33 => some (insS 3)
 | 34 => some turS
 | _ => none
theorem ysx : FnsO Try.prog zoi := by
 intro f s h
 unfold zoi at h
 split at h
 ·injection h with h; subst h; exact ⟨⟨_,Try.func28,by kernel_rfl,by kernel_rfl⟩,zrn⟩
 ·injection h with h; subst h; exact ⟨⟨_,Try.func31,by kernel_rfl,by kernel_rfl⟩,zqo⟩
 ·injection h with h; subst h; exact ⟨⟨_,Try.func33,by kernel_rfl,by kernel_rfl⟩,zvo⟩
 ·injection h with h; subst h; exact ⟨⟨_,Try.func34,by kernel_rfl,by kernel_rfl⟩,zpn⟩
 ·cases h
def joPl : zfi := fun id => match id with
 | 10 => .drs [] 4
 | 17 => .opn [] 3
 | 20 => .opn [] 7
 | 21 => .opn [] 1
 | _ => .std
def zqn : zfi := fun id => match id with
 | 10 => .drs [] 4
 | 17 => .opn [] 3
 | 21 => .opn [] 1
 | _ => .std
theorem ycg {gn ph : Int} {l : List Mb} (h : chG gn ph l = 0) : l.length ≤ 16 ∧ (0 ≤ gn ∧ gn ≤ 1099511627776) ∧ phB ph l = true ∧ zbl none l = true := by
 unfold chG at h
 split at h
 ·rename_i hb
  unfold chB timB at hb
  simp only [Bool.and_eq_true,decide_eq_true_eq] at hb
  exact ⟨hb.1,hb.2.1,hb.2.2.1,hb.2.2.2⟩
 ·cases h
section
set_option maxRecDepth 100000
set_option maxHeartbeats 16000000
theorem yqk : zaz Try.prog 10 joS := by
 refine zbo (S := zgp) (SO := zoi) (T := ty) mixed ty_ok ysk ysx Try.func10 (c := Try.f10.body.getD .skip) (by kernel_rfl) (fun xs pins hp _ => ?_)
 unfold joS at hp ⊢
 split at hp
 ·rename_i gn ph xs f v now _
  obtain ⟨hL0,hv9,l,rfl,hd⟩ := hp
  rw [List.length_map] at hL0
  have hle : (l.map mbA).length = l.length := by simp
  have hL : l.length ≤ 1000000 := by omega
  have hL9 : l.length ≤ 9223372036854775807 := by omega
  have hex : ∃ k : List Mb,l.map mbA = k.map mbA := ⟨l,rfl⟩
  have hxd : ∃ k : List Mb,l.map mbA = k.map mbA ∧ ∀ r ∈ k,r.d.length ≤ 9223372036854775807 := ⟨l,rfl,hd⟩
  have coeN : ∀ f,coe ty 29 (.sg 3 [] f) = .sg 3 [] f := fun f => rfl
  have hP1 : ixP 53 v = isD v := if_pos rfl
  have hP2 : ixP 32 v = zea v := if_neg (by decide)
  rw [zaj]
  unfold joF
  by_cases hch : chG gn ph l = 0
  ·have q0 : decide (chG gn ph l = 0) = true := decide_eq_true hch
   obtain ⟨h16,⟨g0,g1⟩,_,_⟩ := ycg hch
   rw [if_pos hch]
   cases hI : idB v with
   | false =>
    rw [if_neg (by simp)]
    refine ⟨by simp,joPl,by kernel_rfl,?_⟩
    unfold Try.f10
    iterate 8
     try rw [zaa]
     try simp (config := { maxSteps := 3000000 }) only [go_sem,zaa,↓reduceIte,lcT,-zaa,ty,zgp,zoi,joPl,zqn,chGS,zce,timS,zbq,zgo,chaS,zdv,ixGS,insS,zhn,turS,zav,coeN,hle,hL,hL9,hex,hxd,hv9,zaj,zad,zaq,zaf,zcc,hch,Int.toNat_natCast,Bool.not_true,Bool.not_false,decide_true,hP1,hP2,true_or,or_true,hI]
     repeat (refine And.intro (by first | omega | exact zbi | exact ⟨by omega,by omega⟩ | (unfold top; omega)) ?_)
    try (refine ⟨_,Weak.refl _,?_⟩)
    try simp only [go_sem,zaa,↓reduceIte,lcT,ty,zgp,jrA,errJ,List.map_nil]
   | true =>
    rw [if_pos rfl]
    cases hT : timB now with
    | false =>
     rw [if_neg (by simp)]
     refine ⟨by simp,joPl,by kernel_rfl,?_⟩
     unfold Try.f10
     iterate 8
      try rw [zaa]
      try simp (config := { maxSteps := 3000000 }) only [go_sem,zaa,↓reduceIte,lcT,-zaa,ty,zgp,zoi,joPl,zqn,chGS,zce,timS,zbq,zgo,chaS,zdv,ixGS,insS,zhn,turS,zav,coeN,hle,hL,hL9,hex,hxd,hv9,zaj,zad,zaq,zaf,zcc,hch,Int.toNat_natCast,Bool.not_true,Bool.not_false,decide_true,hP1,hP2,true_or,or_true,hI,hT]
      repeat (refine And.intro (by first | omega | exact zbi | exact ⟨by omega,by omega⟩ | (unfold top; omega)) ?_)
     try (refine ⟨_,Weak.refl _,?_⟩)
     try simp only [go_sem,zaa,↓reduceIte,lcT,ty,zgp,jrA,errJ,List.map_nil]
    | true =>
     rw [if_pos rfl]
     obtain ⟨I,hI2⟩ : ∃ I,l.findIdx (isD v) = I := ⟨_,rfl⟩
     rw [hI2]
     by_cases hf : I < l.length
     ·rw [if_pos hf]
      have hpl : ixG (isD v) l = (I : Nat) := by unfold ixG; rw [hI2,if_pos hf]
      have q1 : decide ((0 : Int) ≤ (I : Int)) = true := decide_eq_true (by omega)
      generalize hQ : l.set I (zdt now (mbI l I)) = Q
      have hQl : Q.length = l.length := by rw [← hQ,List.length_set]
      have hk1 : decide (0 + l.length ≤ (Q.map mbA).length) = true := decide_eq_true (by simp; omega)
      have hk2 : List.take l.length (Q.map mbA) = Q.map mbA := List.take_of_length_le (by simp; omega)
      have hIn : ((I : Int) < (l.length : Int)) = True := eq_true (by omega)
      have hI0 : ((0 : Int) ≤ (I : Int)) = True := eq_true (by omega)
      refine ⟨by simp,joPl,by kernel_rfl,?_⟩
      unfold Try.f10
      iterate 12
       try rw [zaa]
       try simp (config := { maxSteps := 3000000 }) only [go_sem,zaa,↓reduceIte,lcT,-zaa,ty,zgp,zoi,joPl,zqn,chGS,zce,timS,zbq,zgo,chaS,zdv,ixGS,insS,zhn,turS,zav,coeN,hle,hL,hL9,hex,hxd,hv9,zaj,zad,zaq,zaf,zcc,hch,Int.toNat_natCast,Bool.not_true,Bool.not_false,decide_true,hP1,hP2,true_or,or_true,hI,hT,hpl,q1]
       repeat (refine And.intro (by first | omega | exact zbi | exact ⟨by omega,by omega⟩ | (unfold top; omega)) ?_)
      refine ⟨_,_,Weak.refl _,?_⟩
      iterate 4
       try rw [zaa]
       try simp (config := { maxSteps := 3000000 }) only [go_sem,zaa,↓reduceIte,lcT,-zaa,ty,zgp,zoi,joPl,zqn,chGS,zce,timS,zbq,zgo,chaS,zdv,ixGS,insS,zhn,turS,zav,coeN,hle,hL,hL9,hex,hxd,hv9,zaj,zad,zaq,zaf,zcc,hch,Int.toNat_natCast,Bool.not_true,Bool.not_false,decide_true,hP1,hP2,true_or,or_true,hI,hT,hpl,q1,hQ,hIn,hI0]
       repeat (refine And.intro (by first | omega | exact zbi | exact ⟨by omega,by omega⟩ | (unfold top; omega)) ?_)
      refine ⟨_,zby 204 3 35 (Q.map mbA) rfl (zad _) (by simp [slot,AV.ids,idsL]),?_⟩
      simp only [fgL,fgH,AV.fg,Blk.fg,Nat.reduceBEq,cond_true,cond_false,Bool.and_true,beq_self_eq_true,Bool.true_and,List.drop_zero,zcc,hk1,hk2]
      simp only [go_sem,zaa,↓reduceIte,lcT,ty,zgp,jrA,zad,zaf]
     ·rw [if_neg hf]
      have hpl : ixG (isD v) l = -1 := by unfold ixG; rw [hI2,if_neg hf]
      have q1 : decide ((0 : Int) ≤ -1) = false := rfl
      by_cases h9 : 16 ≤ l.length
      ·rw [if_pos h9]
       have q2 : decide ((16 : Int) ≤ (l.length : Int)) = true := decide_eq_true (by omega)
       refine ⟨by simp,joPl,by kernel_rfl,?_⟩
       unfold Try.f10
       iterate 18
        try rw [zaa]
        try simp (config := { maxSteps := 3000000 }) only [go_sem,zaa,↓reduceIte,lcT,-zaa,ty,zgp,zoi,joPl,zqn,chGS,zce,timS,zbq,zgo,chaS,zdv,ixGS,insS,zhn,turS,zav,coeN,hle,hL,hL9,hex,hxd,hv9,zaj,zad,zaq,zaf,zcc,hch,Int.toNat_natCast,Bool.not_true,Bool.not_false,decide_true,hP1,hP2,true_or,or_true,hI,hT,hpl,q1,q2]
        repeat (refine And.intro (by first | omega | exact zbi | exact ⟨by omega,by omega⟩ | (unfold top; omega)) ?_)
       try (refine ⟨_,Weak.refl _,?_⟩)
       try simp only [go_sem,zaa,↓reduceIte,lcT,ty,zgp,jrA,errJ,List.map_nil]
      ·rw [if_neg h9]
       have q2 : decide ((16 : Int) ≤ (l.length : Int)) = false := decide_eq_false (by omega)
       by_cases hg : gn = 1099511627776
       ·rw [if_pos hg]
        have q3 : decide (gn = 1099511627776) = true := decide_eq_true hg
        refine ⟨by simp,joPl,by kernel_rfl,?_⟩
        unfold Try.f10
        iterate 20
         try rw [zaa]
         try simp (config := { maxSteps := 3000000 }) only [go_sem,zaa,↓reduceIte,lcT,-zaa,ty,zgp,zoi,joPl,zqn,chGS,zce,timS,zbq,zgo,chaS,zdv,ixGS,insS,zhn,turS,zav,coeN,hle,hL,hL9,hex,hxd,hv9,zaj,zad,zaq,zaf,zcc,hch,Int.toNat_natCast,Bool.not_true,Bool.not_false,decide_true,hP1,hP2,true_or,or_true,hI,hT,hpl,q1,q2,q3]
         repeat (refine And.intro (by first | omega | exact zbi | exact ⟨by omega,by omega⟩ | (unfold top; omega)) ?_)
        try (refine ⟨_,Weak.refl _,?_⟩)
        try simp only [go_sem,zaa,↓reduceIte,lcT,ty,zgp,jrA,errJ,List.map_nil]
       ·rw [if_neg hg]
        have q3 : decide (gn = 1099511627776) = false := decide_eq_false hg
        have hgb : (-4611686018427387904 ≤ gn ∧ gn ≤ 4611686018427387904) := by omega
        cases hz : empP (l.map mbA) with
        | true =>
         obtain rfl : l = [] := by cases l with | nil => rfl | cons _ _ => cases hz
         have hx0 : ∃ k : List Mb,([] : List AV) = k.map mbA := ⟨[],rfl⟩
         have hxd0 : ∃ k : List Mb,([] : List AV) = k.map mbA ∧ ∀ r ∈ k,r.d.length ≤ 9223372036854775807 := ⟨[],rfl,hd⟩
         have hpp : ixG (zea v) [] = -1 := rfl
         have q4 : decide ((0 : Int) ≤ -1) = false := rfl
         have q5 : decide ((16 : Int) ≤ 0) = false := rfl
         have q6 : decide ((16 : Int) ≤ ((0 : Nat) : Int)) = false := rfl
         have hM1 : (insM v now []).map clrM = [⟨v,now,false⟩] := rfl
         have hmc : ([AV.agg [.str v,.w (.int .i64 now),.w (.bool false)]].map umb) = [⟨v,now,false⟩] := rfl
         have hxM : ∃ k : List Mb,[AV.agg [.str v,.w (.int .i64 now),.w (.bool false)]] = k.map mbA := ⟨[⟨v,now,false⟩],rfl⟩
         have hMc : (List.take 1 [(⟨v,now,false⟩ : Mb)]).map clrM ++ List.drop 1 [(⟨v,now,false⟩ : Mb)] = [⟨v,now,false⟩] := rfl
         have hmz : (if (1 : Nat) = 0 then (0 : Int) else 1) = 1 := rfl
         have hk1 : decide (0 + 1 ≤ (([⟨v,now,false⟩] : List Mb).map mbA).length) = true := rfl
         have hk2 : List.take 1 (([⟨v,now,false⟩] : List Mb).map mbA) = ([⟨v,now,false⟩] : List Mb).map mbA := rfl
         have h00 : ((0 : Nat) : Int) = 0 := rfl
         have hcm : mbA (clrM ⟨v,now,false⟩) = .agg [.str v,.w (.int .i64 now),.w (.bool false)] := rfl
         have hk3 : decide (0 + 1 ≤ [AV.agg [.str v,.w (.int .i64 now),.w (.bool false)]].length) = true := rfl
         have hk4 : List.take 1 [AV.agg [.str v,.w (.int .i64 now),.w (.bool false)]] = [AV.agg [.str v,.w (.int .i64 now),.w (.bool false)]] := rfl
         rw [hM1]
         refine ⟨by simp,zqn,by kernel_rfl,?_⟩
         unfold Try.f10
         iterate 26
          try rw [zaa]
          try simp (config := { maxSteps := 3000000 }) only [go_sem,zaa,↓reduceIte,lcT,-zaa,ty,zgp,zoi,joPl,zqn,chGS,zce,timS,zbq,zgo,chaS,zdv,ixGS,insS,zhn,turS,zav,coeN,hle,hL,hL9,hex,hxd,hv9,zaj,zad,zaq,zaf,zcc,hch,Int.toNat_natCast,Bool.not_true,Bool.not_false,decide_true,hP1,hP2,true_or,or_true,hI,hT,hpl,q1,q3,hpp,q4,q5,q6,hx0,hxd0,hmc,hxM,hMc,hmz,empP,h00,hcm,List.map_nil,List.length_nil,Nat.zero_le,cond_true]
          repeat (refine And.intro (by first | omega | exact zbi | exact ⟨by omega,by omega⟩ | (unfold top; omega)) ?_)
         refine ⟨fun y e => by rw [e]; rfl,hgb,?_⟩
         refine ⟨_,zby 396 3 67 [AV.agg [.str v,.w (.int .i64 now),.w (.bool false)]] rfl rfl (by simp [slot,AV.ids,idsL]),?_⟩
         simp only [fgL,fgH,AV.fg,Blk.fg,Nat.reduceBEq,cond_true,cond_false,Bool.and_true,beq_self_eq_true,Bool.true_and,List.drop_zero,hk3,hk4]
         simp only [go_sem,zaa,↓reduceIte,lcT,ty,zgp,jrA,mbA,List.map_cons,List.map_nil]
        | false =>
         have hpos : 0 < l.length := by cases l with | nil => cases hz | cons _ _ => simp
         have dpos : decide (0 < l.length) = true := decide_eq_true hpos
         refine ⟨by simp,joPl,by kernel_rfl,?_⟩
         unfold Try.f10
         obtain ⟨K,hK⟩ : ∃ K,l.findIdx (zea v) = K := ⟨_,rfl⟩
         have hKl : K ≤ l.length := by rw [← hK]; exact List.findIdx_le_length
         have hins : insL (l.map mbA) l.length K (.agg [.str v,.w (.int .i64 now),.w (.bool false)]) = (insM v now l).map mbA := by
          have htk : (l.map mbA).take l.length = l.map mbA := List.take_of_length_le (by simp)
          unfold insL insM
          rw [hK,htk,List.map_append,List.map_take,List.map_cons,List.map_drop]
          rfl
         have hMl : (insM v now l).length = l.length + 1 := by
          unfold insM
          simp only [List.length_append,List.length_take,List.length_cons,List.length_drop]
          omega
         generalize insM v now l = M at *
         have hMe : (M.map mbA).length = l.length + 1 := by rw [List.length_map,hMl]
         have hMc : (M.take (l.length + 1)).map clrM ++ M.drop (l.length + 1) = M.map clrM := by
          rw [List.take_of_length_le (by omega),List.drop_eq_nil_of_le (by omega),List.append_nil]
         have hMx : ∃ k : List Mb,M.map mbA = k.map mbA := ⟨M,rfl⟩
         have hMz : (if l.length + 1 = 0 then (0 : Int) else 1) = 1 := if_neg (by omega)
         have hM6 : (l.length + 1 ≤ 1000000) = True := eq_true (by omega)
         have hk1 : decide (0 + (l.length + 1) ≤ ((M.map clrM).map mbA).length) = true := decide_eq_true (by simp; omega)
         have hk2 : List.take (l.length + 1) ((M.map clrM).map mbA) = (M.map clrM).map mbA := List.take_of_length_le (by simp; omega)
         have htk : (l.map mbA).take l.length = l.map mbA := List.take_of_length_le (by simp)
         by_cases hk : K < l.length
         ·have hpp : ixG (zea v) l = (K : Nat) := by unfold ixG; rw [hK,if_pos hk]
          have q4 : decide ((0 : Int) ≤ (K : Int)) = true := decide_eq_true (by omega)
          iterate 26
           try rw [zaa]
           try simp (config := { maxSteps := 3000000 }) only [go_sem,zaa,↓reduceIte,lcT,-zaa,ty,zgp,zoi,joPl,zqn,chGS,zce,timS,zbq,zgo,chaS,zdv,ixGS,insS,zhn,turS,zav,coeN,hle,hL,hL9,hex,hxd,hv9,zaj,zad,zaq,zaf,zcc,hch,Int.toNat_natCast,Bool.not_true,Bool.not_false,decide_true,hP1,hP2,true_or,or_true,hI,hT,hpl,q1,q2,q3,hz,hpos,dpos,hpp,q4,hins,hMe,hMc,hMx,hMz,hM6,htk,cond_false]
           repeat (refine And.intro (by first | omega | exact zbi | exact ⟨by omega,by omega⟩ | (unfold top; omega)) ?_)
          refine ⟨_,zby 412 3 67 ((M.map clrM).map mbA) rfl (zad _) (by simp [slot,AV.ids,idsL]),?_⟩
          simp only [fgL,fgH,AV.fg,Blk.fg,Nat.reduceBEq,cond_true,cond_false,Bool.and_true,beq_self_eq_true,Bool.true_and,List.drop_zero,zcc,hk1,hk2]
          simp only [go_sem,zaa,↓reduceIte,lcT,ty,zgp,jrA,zad,zaf]
         ·have hpp : ixG (zea v) l = -1 := by unfold ixG; rw [hK,if_neg hk]
          have q4 : decide ((0 : Int) ≤ -1) = false := rfl
          obtain rfl : K = l.length := by omega
          iterate 26
           try rw [zaa]
           try simp (config := { maxSteps := 3000000 }) only [go_sem,zaa,↓reduceIte,lcT,-zaa,ty,zgp,zoi,joPl,zqn,chGS,zce,timS,zbq,zgo,chaS,zdv,ixGS,insS,zhn,turS,zav,coeN,hle,hL,hL9,hex,hxd,hv9,zaj,zad,zaq,zaf,zcc,hch,Int.toNat_natCast,Bool.not_true,Bool.not_false,decide_true,hP1,hP2,true_or,or_true,hI,hT,hpl,q1,q2,q3,hz,hpos,dpos,hpp,q4,hins,hMe,hMc,hMx,hMz,hM6,htk,cond_false]
           repeat (refine And.intro (by first | omega | exact zbi | exact ⟨by omega,by omega⟩ | (unfold top; omega)) ?_)
          refine ⟨_,zby 396 3 67 ((M.map clrM).map mbA) rfl (zad _) (by simp [slot,AV.ids,idsL]),?_⟩
          simp only [fgL,fgH,AV.fg,Blk.fg,Nat.reduceBEq,cond_true,cond_false,Bool.and_true,beq_self_eq_true,Bool.true_and,List.drop_zero,zcc,hk1,hk2]
          simp only [go_sem,zaa,↓reduceIte,lcT,ty,zgp,jrA,zad,zaf]
  ·have q0 : decide (chG gn ph l = 0) = false := decide_eq_false hch
   rw [if_neg hch]
   have hch : True := trivial
   refine ⟨by simp,joPl,by kernel_rfl,?_⟩
   unfold Try.f10
   iterate 6
    try rw [zaa]
    try simp (config := { maxSteps := 3000000 }) only [go_sem,zaa,↓reduceIte,lcT,-zaa,ty,zgp,zoi,joPl,zqn,chGS,zce,timS,zbq,zgo,chaS,zdv,ixGS,insS,zhn,turS,zav,coeN,hle,hL,hL9,hex,hxd,hv9,zaj,zad,zaq,zaf,zcc,hch,Int.toNat_natCast,Bool.not_true,Bool.not_false,decide_true,hP1,hP2,true_or,or_true,q0]
    repeat (refine And.intro (by first | omega | exact zbi | exact ⟨by omega,by omega⟩ | (unfold top; omega)) ?_)
   try (refine ⟨_,Weak.refl _,?_⟩)
   try simp only [go_sem,zaa,↓reduceIte,lcT,ty,zgp,jrA,errJ,List.map_nil]
 ·exact hp.elim
end
end Go.Proofs.Ytioldmhhefhelaa
namespace Go.Proofs.Ytioldmhhefhelaa
open Ax
def leF (gn ph : Int) (l : List Mb) (v : List UInt8) : JR :=
 if chG gn ph l = 0 then
  if l.findIdx (isD v) < l.length then
   if gn = 1099511627776 then errJ 11
   else ⟨gn + 1,if (l.eraseIdx (l.findIdx (isD v))).length = 0 then 0 else 1,(l.eraseIdx (l.findIdx (isD v))).map clrM,false,0⟩
  else errJ 20
 else errJ (chG gn ph l)
def leS : zan
 | [.agg [.w (.int .i64 gn),.w (.int .u8 ph),.sg 3 xs f],.str v],[] => ⟨xs.length ≤ 900000 ∧ ∃ l : List Mb,xs = l.map mbA ∧ ∀ r ∈ l,r.d.length ≤ 9223372036854775807,jrA (leF gn ph (xs.map umb) v),[]⟩
 | _,_ => zbg
def zsb (f : FuncId) : Option zan :=
 match f with
 | 17 => some chGS
 | 27 => some zbq
 | 30 => some zdv
 | _ => none
theorem ysj : Fns Try.prog zsb := by
 intro f s h
 unfold zsb at h
 split at h
 ·injection h with h; subst h; exact ⟨⟨_,Try.func17,by kernel_rfl,by kernel_rfl⟩,znc⟩
 ·injection h with h; subst h; exact ⟨⟨_,Try.func27,by kernel_rfl,by kernel_rfl⟩,zns⟩
 ·injection h with h; subst h; exact ⟨⟨_,Try.func30,by kernel_rfl,by kernel_rfl⟩,zkh⟩
 ·cases h
def ycr (f : FuncId) : Option zan :=
 match f with
 | 39 => some (delS 3 zaI20)
 | 34 => some turS
 | _ => none
theorem ysw : FnsO Try.prog ycr := by
 intro f s h
 unfold ycr at h
 split at h
 ·injection h with h; subst h; exact ⟨⟨_,Try.func39,by kernel_rfl,by kernel_rfl⟩,zmz⟩
 ·injection h with h; subst h; exact ⟨⟨_,Try.func34,by kernel_rfl,by kernel_rfl⟩,zpn⟩
 ·cases h
def lePl : zfi := fun id => match id with
 | 10 => .opn [] 5
 | 11 => .opn [] 1
 | _ => .std
section
set_option maxRecDepth 100000
set_option maxHeartbeats 16000000
theorem yqf : zaz Try.prog 13 leS := by
 refine zbo (S := zsb) (SO := ycr) (T := ty) mixed ty_ok ysj ysw Try.func13 (c := Try.f13.body.getD .skip) (by kernel_rfl) (fun xs pins hp _ => ?_)
 unfold leS at hp ⊢
 split at hp
 ·rename_i gn ph xs f v _
  obtain ⟨hL0,l,rfl,hd⟩ := hp
  rw [List.length_map] at hL0
  have hle : (l.map mbA).length = l.length := by simp
  have hL : l.length ≤ 1000000 := by omega
  have hL9 : l.length ≤ 9223372036854775807 := by omega
  have hex : ∃ k : List Mb,l.map mbA = k.map mbA := ⟨l,rfl⟩
  have hxd : ∃ k : List Mb,l.map mbA = k.map mbA ∧ ∀ r ∈ k,r.d.length ≤ 9223372036854775807 := ⟨l,rfl,hd⟩
  have coeN : ∀ f,coe ty 29 (.sg 3 [] f) = .sg 3 [] f := fun f => rfl
  have hP1 : ixP 53 v = isD v := if_pos rfl
  rw [zaj]
  unfold leF
  by_cases hch : chG gn ph l = 0
  ·have q0 : decide (chG gn ph l = 0) = true := decide_eq_true hch
   obtain ⟨h16,⟨g0,g1⟩,_,_⟩ := ycg hch
   rw [if_pos hch]
   obtain ⟨I,hI2⟩ : ∃ I,l.findIdx (isD v) = I := ⟨_,rfl⟩
   rw [hI2]
   by_cases hf : I < l.length
   ·rw [if_pos hf]
    have hpl : ixG (isD v) l = (I : Nat) := by unfold ixG; rw [hI2,if_pos hf]
    have q1 : decide ((I : Int) < 0) = false := decide_eq_false (by omega)
    by_cases hg : gn = 1099511627776
    ·rw [if_pos hg]
     have q3 : decide (gn = 1099511627776) = true := decide_eq_true hg
     refine ⟨by simp,lePl,by kernel_rfl,?_⟩
     unfold Try.f13
     iterate 14
      try rw [zaa]
      try simp (config := { maxSteps := 3000000 }) only [go_sem,zaa,↓reduceIte,lcT,-zaa,ty,zsb,ycr,lePl,chGS,zbq,zdv,delS,turS,zav,coeN,hle,hL,hL9,hex,hxd,zaj,zad,zaq,zaf,zcc,hch,Int.toNat_natCast,Bool.not_true,Bool.not_false,decide_true,hP1,true_or,or_true,hpl,q1,q3]
      repeat (refine And.intro (by first | omega | exact zbi | exact ⟨by omega,by omega⟩ | exact ⟨rfl,rfl⟩ | (unfold top; omega)) ?_)
     try (refine ⟨_,Weak.refl _,?_⟩)
     try simp only [go_sem,zaa,↓reduceIte,lcT,ty,zsb,jrA,errJ,List.map_nil]
    ·rw [if_neg hg]
     have q3 : decide (gn = 1099511627776) = false := decide_eq_false hg
     have hgb : (-4611686018427387904 ≤ gn ∧ gn ≤ 4611686018427387904) := by omega
     obtain ⟨M,hM⟩ : ∃ M,l.eraseIdx I = M := ⟨_,rfl⟩
     rw [hM]
     have hMl : l.length - 1 = M.length := by rw [← hM,List.length_eraseIdx_of_lt hf]
     have hMp : M.length < l.length := by omega
     have hem : empP (l.map mbA) = false := by cases l with | nil => simp at hf | cons _ _ => rfl
     have hpos : 0 < l.length := by omega
     have dpos : decide (0 < l.length) = true := decide_eq_true hpos
     have hn0 : 0 < M.length + 1 := by omega
     have dn0 : decide (0 < M.length + 1) = true := decide_eq_true hn0
     have e1 : ((I : Int) + 1 + 9223372036854775808) % 18446744073709551616 - 9223372036854775808 = (I : Int) + 1 := by omega
     have hdel : delL (l.map mbA) l.length I zaI20 = (M ++ [zMb]).map mbA := by
      have htk : (l.map mbA).take l.length = l.map mbA := List.take_of_length_le (by simp)
      unfold delL
      rw [htk,← hM,List.eraseIdx_eq_take_drop_succ,List.append_assoc,List.map_append,List.map_append,List.map_take,List.map_drop]
      rfl
     have hNe : ((M ++ [zMb]).map mbA).length = M.length + 1 := by simp
     have hMx : ∃ k : List Mb,(M ++ [zMb]).map mbA = k.map mbA := ⟨_,rfl⟩
     have hMt : (List.take M.length (M ++ [zMb])).map clrM ++ List.drop M.length (M ++ [zMb]) = M.map clrM ++ [zMb] := by
      rw [List.take_left' rfl,List.drop_left' rfl]
     have hIl : ((I : Int) < (l.length : Int)) := by omega
     generalize hN : (M ++ [zMb]) = N at *
     have hk1 : decide (0 + M.length ≤ ((M.map clrM ++ [zMb]).map mbA).length) = true := decide_eq_true (by simp)
     have hk2 : List.take M.length ((M.map clrM ++ [zMb]).map mbA) = (M.map clrM).map mbA := by
      rw [List.map_append,List.take_left' (by simp)]
     refine ⟨by simp,lePl,by kernel_rfl,?_⟩
     unfold Try.f13
     iterate 20
      try rw [zaa]
      try simp (config := { maxSteps := 3000000 }) only [go_sem,zaa,↓reduceIte,lcT,-zaa,ty,zsb,ycr,lePl,chGS,zbq,zdv,delS,turS,zav,coeN,hle,hL,hL9,hex,hxd,zaj,zad,zaq,zaf,zcc,hch,Int.toNat_natCast,Bool.not_true,Bool.not_false,decide_true,hP1,true_or,or_true,hpl,q1,q3,hem,hpos,dpos,hn0,dn0,e1,hdel,hNe,hMx,hMt,hMl,cond_false]
      repeat (refine And.intro (by first | omega | exact zbi | exact ⟨by omega,by omega⟩ | exact ⟨rfl,rfl⟩ | (unfold top; omega)) ?_)
     refine ⟨⟨by cases decide (0 < M.length) <;> rfl,⟨by omega,by omega⟩,hgb⟩,?_⟩
     refine ⟨_,zby 148 3 34 ((M.map clrM ++ [zMb]).map mbA) rfl (zad _) (by simp [slot,AV.ids,idsL]),?_⟩
     simp only [fgL,fgH,AV.fg,Blk.fg,Nat.reduceBEq,cond_true,cond_false,Bool.and_true,beq_self_eq_true,Bool.true_and,List.drop_zero,zcc,hk1,hk2]
     simp only [go_sem,zaa,↓reduceIte,lcT,ty,zsb,jrA,zad,zaf]
   ·rw [if_neg hf]
    have hpl : ixG (isD v) l = -1 := by unfold ixG; rw [hI2,if_neg hf]
    have q1 : decide ((-1 : Int) < 0) = true := rfl
    refine ⟨by simp,lePl,by kernel_rfl,?_⟩
    unfold Try.f13
    iterate 12
     try rw [zaa]
     try simp (config := { maxSteps := 3000000 }) only [go_sem,zaa,↓reduceIte,lcT,-zaa,ty,zsb,ycr,lePl,chGS,zbq,zdv,delS,turS,zav,coeN,hle,hL,hL9,hex,hxd,zaj,zad,zaq,zaf,zcc,hch,Int.toNat_natCast,Bool.not_true,Bool.not_false,decide_true,hP1,true_or,or_true,hpl,q1]
     repeat (refine And.intro (by first | omega | exact zbi | exact ⟨by omega,by omega⟩ | exact ⟨rfl,rfl⟩ | (unfold top; omega)) ?_)
    try (refine ⟨_,Weak.refl _,?_⟩)
    try simp only [go_sem,zaa,↓reduceIte,lcT,ty,zsb,jrA,errJ,List.map_nil]
  ·have q0 : decide (chG gn ph l = 0) = false := decide_eq_false hch
   rw [if_neg hch]
   have hch : True := trivial
   refine ⟨by simp,lePl,by kernel_rfl,?_⟩
   unfold Try.f13
   iterate 6
    try rw [zaa]
    try simp (config := { maxSteps := 3000000 }) only [go_sem,zaa,↓reduceIte,lcT,-zaa,ty,zsb,ycr,lePl,chGS,zbq,zdv,delS,turS,zav,coeN,hle,hL,hL9,hex,hxd,zaj,zad,zaq,zaf,zcc,hch,Int.toNat_natCast,Bool.not_true,Bool.not_false,decide_true,hP1,true_or,or_true,q0]
    repeat (refine And.intro (by first | omega | exact zbi | exact ⟨by omega,by omega⟩ | exact ⟨rfl,rfl⟩ | (unfold top; omega)) ?_)
   try (refine ⟨_,Weak.refl _,?_⟩)
   try simp only [go_sem,zaa,↓reduceIte,lcT,ty,zsb,jrA,errJ,List.map_nil]
 ·exact hp.elim
end
end Go.Proofs.Ytioldmhhefhelaa
namespace Go.Proofs.Ytioldmhhefhelaa
open Ax
theorem bl_irr : ∀ g : List UInt8,Op.bytesLess g g = false
 | [] => rfl
 | a :: r => by
  have h1 : ¬ a < a := by simp
  simp [Op.bytesLess,bl_irr r,h1]
theorem yfo : ∀ {x y z : List UInt8},Op.bytesLess x y = true → Op.bytesLess y z = true → Op.bytesLess x z = true
 | [],[],_,h1,_ => by simp [Op.bytesLess] at h1
 | _ :: _,[],_,h1,_ => by simp [Op.bytesLess] at h1
 | _,_ :: _,[],_,h2 => by simp [Op.bytesLess] at h2
 | [],_ :: _,_ :: _,_,_ => rfl
 | a :: x,b :: y,c :: z,h1,h2 => by
  simp only [Op.bytesLess,Bool.or_eq_true,decide_eq_true_eq,Bool.and_eq_true,beq_iff_eq] at *
  rcases h1 with h1 | ⟨rfl,h1⟩
  ·rcases h2 with h2 | ⟨rfl,h2⟩
   ·rw [UInt8.lt_iff_toNat_lt] at *
    exact .inl (by omega)
   ·exact .inl h1
  ·rcases h2 with h2 | ⟨rfl,h2⟩
   ·exact .inl h2
   ·exact .inr ⟨rfl,yfo h1 h2⟩
theorem ynz : ∀ {x y : List UInt8},x ≠ y → Op.bytesLess x y = false → Op.bytesLess y x = true
 | [],[],h,_ => absurd rfl h
 | [],_ :: _,_,h1 => by simp [Op.bytesLess] at h1
 | _ :: _,[],_,_ => rfl
 | a :: x,b :: y,h,h1 => by
  simp only [Op.bytesLess,Bool.or_eq_true,Bool.or_eq_false_iff,decide_eq_true_eq,decide_eq_false_iff_not,Bool.and_eq_true,beq_iff_eq] at *
  by_cases hab : a = b
  ·subst hab
   refine .inr ⟨rfl,ynz (fun e => h (by rw [e])) ?_⟩
   have := h1.2
   simpa using this
  ·left
   rw [UInt8.lt_iff_toNat_lt] at *
   have : a.toNat ≠ b.toNat := fun e => hab (UInt8.toNat_inj.1 e)
   have := h1.1
   omega
theorem yqg {a v : List UInt8} (h : leD a v = true) (hn : a ≠ v) : leD v a = false := by
 unfold leD at h ⊢
 simp only [Bool.or_eq_true,decide_eq_true_eq,Bool.or_eq_false_iff,decide_eq_false_iff_not] at h ⊢
 have h1 : Op.bytesLess a v = true := by
  rcases h with h | h
  ·exact h
  ·exact absurd h hn
 refine ⟨?_,fun e => hn e.symm⟩
 cases hb : Op.bytesLess v a with
 | false => rfl
 | true =>
  have := yfo h1 hb
  rw [bl_irr] at this
  cases this
theorem yqn (v : List UInt8) (now : Int) (a : Mb) (r : List Mb) : insM v now (a :: r) = if zea v a = true then ⟨v,now,false⟩ :: a :: r else a :: insM v now r := by
 unfold insM
 rw [List.findIdx_cons]
 cases h : zea v a with
 | true => simp
 | false => simp
theorem ins_nil (v : List UInt8) (now : Int) : insM v now [] = [⟨v,now,false⟩] := rfl
def aft (p : Option (List UInt8)) (v : List UInt8) : Prop := ∀ q,p = some q → leD v q = false
theorem zey (p : Option (List UInt8)) (a : Mb) (r : List Mb) : zbl p (a :: r) = true ↔ rowB a = true ∧ aft p a.d ∧ zbl (some a.d) r = true := by
 cases p with
 | none => simp [zbl,aft]
 | some q => simp [zbl,aft]
theorem ydh {v : List UInt8} {now : Int} (hI : idB v = true) (hT : timB now = true) : ∀ (l : List Mb) (p : Option (List UInt8)),zbl p l = true → aft p v → (∀ m ∈ l,m.d ≠ v) → zbl p (insM v now l) = true
 | [],p,_,ha,_ => by
  rw [ins_nil,zey]
  refine ⟨?_,ha,?_⟩
  ·unfold rowB; rw [hI,hT]; rfl
  ·rfl
 | a :: r,p,h,ha,hn => by
  rw [zey] at h
  obtain ⟨h1,h2,h3⟩ := h
  rw [yqn]
  cases hp : zea v a with
  | true =>
   rw [if_pos rfl,zey,zey]
   refine ⟨?_,ha,h1,?_,h3⟩
   ·unfold rowB; rw [hI,hT]; rfl
   ·intro q e
    injection e with e
    subst e
    unfold zea at hp
    simpa using hp
  | false =>
   rw [if_neg (by simp),zey]
   refine ⟨h1,h2,ydh hI hT r _ h3 ?_ (fun m hm => hn m (List.mem_cons_of_mem _ hm))⟩
   intro q e
   injection e with e
   subst e
   unfold zea at hp
   exact yqg (by simpa using hp) (hn a (by simp))
theorem zvi : ∀ (l : List Mb) (p : Option (List UInt8)),zbl p (l.map clrM) = zbl p l
 | [],none => rfl
 | [],some _ => rfl
 | a :: r,none => by
  show (rowB (clrM a) && zbl (some (clrM a).d) (r.map clrM)) = _
  rw [zvi r]; rfl
 | a :: r,some q => by
  show (rowB (clrM a) && (!(leD (clrM a).d q) && zbl (some (clrM a).d) (r.map clrM))) = _
  rw [zvi r]; rfl
theorem zxk {v : List UInt8} {l : List Mb} (h : ¬ l.findIdx (isD v) < l.length) : ∀ m ∈ l,m.d ≠ v := by
 intro m hm e
 refine h (List.findIdx_lt_length_of_exists ⟨m,hm,?_⟩)
 unfold isD
 rw [e]
 exact decide_eq_true rfl
theorem zlp (v : List UInt8) (now : Int) (l : List Mb) : ((insM v now l).map clrM).length = l.length + 1 := by
 have := List.findIdx_le_length (p := zea v) (xs := l)
 unfold insM
 simp only [List.length_map,List.length_append,List.length_take,List.length_cons,List.length_drop]
 omega
theorem jo_ok20 {gn ph : Int} {l : List Mb} {v : List UInt8} {now : Int} (h : (joF gn ph l v now).e = 0) :
   chG gn ph l = 0 ∧ idB v = true ∧ timB now = true ∧
   ((l.findIdx (isD v) < l.length ∧ joF gn ph l v now = ⟨gn,ph,l.set (l.findIdx (isD v)) (zdt now (mbI l (l.findIdx (isD v)))),false,0⟩) ∨
    (¬ l.findIdx (isD v) < l.length ∧ l.length < 16 ∧ joF gn ph l v now = ⟨gn + 1,1,(insM v now l).map clrM,false,0⟩)) := by
 unfold joF at h ⊢
 by_cases hc : chG gn ph l = 0
 · rw [if_pos hc] at h ⊢
   by_cases hI : idB v = true
   · rw [if_pos hI] at h ⊢
     by_cases hT : timB now = true
     · rw [if_pos hT] at h ⊢
       refine ⟨hc,hI,hT,?_⟩
       by_cases hf : l.findIdx (isD v) < l.length
       · rw [if_pos hf]
         exact .inl ⟨hf,rfl⟩
       · rw [if_neg hf] at h ⊢
         by_cases h9 : 16 ≤ l.length
         · rw [if_pos h9] at h
           exact absurd h (by decide)
         · rw [if_neg h9] at h ⊢
           by_cases hg : gn = 1099511627776
           · rw [if_pos hg] at h
             exact absurd h (by decide)
           · rw [if_neg hg]
             exact .inr ⟨hf,by omega,rfl⟩
     · rw [if_neg hT] at h
       exact absurd h (by decide)
   · rw [if_neg hI] at h
     exact absurd h (by decide)
 · rw [if_neg hc] at h
   exact absurd h hc
end Go.Proofs.Ytioldmhhefhelaa
namespace Go.Proofs.Ytioldmhhefhelaa
open Ax
def fiF (gn ph : Int) (l : List Mb) (v : List UInt8) (gen now : Int) : Int × Int :=
 if chG gn ph l = 0 then
  if timB now = true then
   if l.findIdx (isD v) < l.length then
    if gen = gn then ((l.findIdx (isD v) : Nat),0) else (0,19)
   else (0,20)
  else (0,11)
 else (0,chG gn ph l)
def zrd : zan
 | [.agg [.w (.int .i64 gn),.w (.int .u8 ph),.sg 3 xs f],.str v,.w (.int .i64 gen),.w (.int .i64 now)],[] => ⟨xs.length ≤ 900000 ∧ ∃ l : List Mb,xs = l.map mbA ∧ ∀ r ∈ l,r.d.length ≤ 9223372036854775807,.tup [.w (.int .i64 (fiF gn ph (xs.map umb) v gen now).1),.w (.int .i64 (fiF gn ph (xs.map umb) v gen now).2)],[]⟩
 | _,_ => zbg
def beF (gn ph : Int) (l : List Mb) (v : List UInt8) (gen now : Int) : JR :=
 if (fiF gn ph l v gen now).2 = 0 then ⟨gn,ph,l.set (l.findIdx (isD v)) (zdt now (mbI l (l.findIdx (isD v)))),false,0⟩
 else errJ (fiF gn ph l v gen now).2
def beS : zan
 | [.agg [.w (.int .i64 gn),.w (.int .u8 ph),.sg 3 xs f],.str v,.w (.int .i64 gen),.w (.int .i64 now)],[] => ⟨xs.length ≤ 900000 ∧ ∃ l : List Mb,xs = l.map mbA ∧ ∀ r ∈ l,r.d.length ≤ 9223372036854775807,jrA (beF gn ph (xs.map umb) v gen now),[]⟩
 | _,_ => zbg
def zog (f : FuncId) : Option zan :=
 match f with
 | 17 => some chGS
 | 26 => some timS
 | 27 => some zbq
 | _ => none
theorem ysl : Fns Try.prog zog := by
 intro f s h
 unfold zog at h
 split at h
 ·injection h with h; subst h; exact ⟨⟨_,Try.func17,by kernel_rfl,by kernel_rfl⟩,znc⟩
 ·injection h with h; subst h; exact ⟨⟨_,Try.func26,by kernel_rfl,by kernel_rfl⟩,zpp⟩
 ·injection h with h; subst h; exact ⟨⟨_,Try.func27,by kernel_rfl,by kernel_rfl⟩,zns⟩
 ·cases h
section
set_option maxRecDepth 100000
set_option maxHeartbeats 8000000
theorem yem : zaz Try.prog 35 zrd := by
 refine zgi (S := zog) (T := ty) mixed ty_ok ysl Try.func35 (c := Try.f35.body.getD .skip) (by kernel_rfl) (by kernel_rfl) (fun xs pins hp _ => ?_)
 unfold zrd at hp ⊢
 split at hp
 ·rename_i gn ph xs f v gen now _
  obtain ⟨hL0,l,rfl,hd⟩ := hp
  rw [List.length_map] at hL0
  have hle : (l.map mbA).length = l.length := by simp
  have hL : l.length ≤ 1000000 := by omega
  have hL9 : l.length ≤ 9223372036854775807 := by omega
  have hLj : l.length ≤ 900000 := by omega
  have hex : ∃ k : List Mb,l.map mbA = k.map mbA := ⟨l,rfl⟩
  have hxd : ∃ k : List Mb,l.map mbA = k.map mbA ∧ ∀ r ∈ k,r.d.length ≤ 9223372036854775807 := ⟨l,rfl,hd⟩
  have coeN : ∀ f,coe ty 29 (.sg 3 [] f) = .sg 3 [] f := fun f => rfl
  rw [zaj]
  unfold fiF
  refine ⟨by simp,?_⟩
  unfold Try.f35
  by_cases hch : chG gn ph l = 0
  ·have q0 : decide (chG gn ph l = 0) = true := decide_eq_true hch
   rw [if_pos hch]
   cases hT : timB now with
   | false =>
    rw [if_neg (by simp)]
    simp (config := { maxSteps := 3000000 }) only [go_sem,zab,↓reduceIte,ty,zog,chGS,timS,zbq,zav,coeN,hle,hL,hL9,hLj,hex,hxd,zaj,zad,hch,Int.toNat_natCast,Bool.not_true,Bool.not_false,decide_true,q0,hT]
    repeat (refine And.intro (by first | omega | exact zbi | exact ⟨by omega,by omega⟩ | exact ⟨rfl,rfl⟩ | (unfold top; omega)) ?_)
    refine ⟨_,Weak.refl _,?_⟩
    simp only [go_sem,zab,↓reduceIte,ty,zog]
   | true =>
    rw [if_pos rfl]
    by_cases hf : l.findIdx (isD v) < l.length
    ·rw [if_pos hf]
     have hpl : ixG (isD v) l = (l.findIdx (isD v) : Nat) := by unfold ixG; rw [if_pos hf]
     generalize l.findIdx (isD v) = I at *
     have q1 : decide ((I : Int) < 0) = false := decide_eq_false (by omega)
     by_cases hg : gen = gn
     ·rw [if_pos hg]
      have q2 : decide (gen = gn) = true := decide_eq_true hg
      simp (config := { maxSteps := 3000000 }) only [go_sem,zab,↓reduceIte,ty,zog,chGS,timS,zbq,zav,coeN,hle,hL,hL9,hLj,hex,hxd,zaj,zad,hch,Int.toNat_natCast,Bool.not_true,Bool.not_false,decide_true,q0,hT,hpl,q1,q2]
      repeat (refine And.intro (by first | omega | exact zbi | exact ⟨by omega,by omega⟩ | exact ⟨rfl,rfl⟩ | (unfold top; omega)) ?_)
      refine ⟨_,Weak.refl _,?_⟩
      simp only [go_sem,zab,↓reduceIte,ty,zog]
     ·rw [if_neg hg]
      have q2 : decide (gen = gn) = false := decide_eq_false hg
      simp (config := { maxSteps := 3000000 }) only [go_sem,zab,↓reduceIte,ty,zog,chGS,timS,zbq,zav,coeN,hle,hL,hL9,hLj,hex,hxd,zaj,zad,hch,Int.toNat_natCast,Bool.not_true,Bool.not_false,decide_true,q0,hT,hpl,q1,q2]
      repeat (refine And.intro (by first | omega | exact zbi | exact ⟨by omega,by omega⟩ | exact ⟨rfl,rfl⟩ | (unfold top; omega)) ?_)
      refine ⟨_,Weak.refl _,?_⟩
      simp only [go_sem,zab,↓reduceIte,ty,zog]
    ·rw [if_neg hf]
     have hpl : ixG (isD v) l = -1 := by unfold ixG; rw [if_neg hf]
     have q1 : decide ((-1 : Int) < 0) = true := rfl
     simp (config := { maxSteps := 3000000 }) only [go_sem,zab,↓reduceIte,ty,zog,chGS,timS,zbq,zav,coeN,hle,hL,hL9,hLj,hex,hxd,zaj,zad,hch,Int.toNat_natCast,Bool.not_true,Bool.not_false,decide_true,q0,hT,hpl,q1]
     repeat (refine And.intro (by first | omega | exact zbi | exact ⟨by omega,by omega⟩ | exact ⟨rfl,rfl⟩ | (unfold top; omega)) ?_)
     refine ⟨_,Weak.refl _,?_⟩
     simp only [go_sem,zab,↓reduceIte,ty,zog]
  ·have q0 : decide (chG gn ph l = 0) = false := decide_eq_false hch
   rw [if_neg hch]
   have hch : True := trivial
   simp (config := { maxSteps := 3000000 }) only [go_sem,zab,↓reduceIte,ty,zog,chGS,timS,zbq,zav,coeN,hle,hL,hL9,hLj,hex,hxd,zaj,zad,hch,Int.toNat_natCast,Bool.not_true,Bool.not_false,decide_true,q0]
   repeat (refine And.intro (by first | omega | exact zbi | exact ⟨by omega,by omega⟩ | exact ⟨rfl,rfl⟩ | (unfold top; omega)) ?_)
   refine ⟨_,Weak.refl _,?_⟩
   simp only [go_sem,zab,↓reduceIte,ty,zog]
 ·exact hp.elim
end
def yae (f : FuncId) : Option zan :=
 match f with
 | 35 => some zrd
 | 29 => some zgo
 | _ => none
theorem ysq : Fns Try.prog yae := by
 intro f s h
 unfold yae at h
 split at h
 ·injection h with h; subst h; exact ⟨⟨_,Try.func35,by kernel_rfl,by kernel_rfl⟩,yem⟩
 ·injection h with h; subst h; exact ⟨⟨_,Try.func29,by kernel_rfl,by kernel_rfl⟩,znn⟩
 ·cases h
def yip (f : FuncId) : Option zan :=
 match f with
 | 28 => some chaS
 | _ => none
theorem ytc : FnsO Try.prog yip := by
 intro f s h
 unfold yip at h
 split at h
 ·injection h with h; subst h; exact ⟨⟨_,Try.func28,by kernel_rfl,by kernel_rfl⟩,zrn⟩
 ·cases h
def bePl : zfi := fun id => match id with
 | 4 => .drs [] 4
 | _ => .std
theorem zrc {gn ph : Int} {l : List Mb} {v : List UInt8} {gen now : Int} (h : (fiF gn ph l v gen now).2 = 0) : chG gn ph l = 0 ∧ timB now = true ∧ l.findIdx (isD v) < l.length ∧ gen = gn ∧ fiF gn ph l v gen now = (((l.findIdx (isD v) : Nat) : Int),(0 : Int)) := by
 unfold fiF at h ⊢
 by_cases hc : chG gn ph l = 0
 ·rw [if_pos hc] at h ⊢
  by_cases hT : timB now = true
  ·rw [if_pos hT] at h ⊢
   by_cases hf : l.findIdx (isD v) < l.length
   ·rw [if_pos hf] at h ⊢
    by_cases hg : gen = gn
    ·rw [if_pos hg]; exact ⟨hc,hT,hf,hg,rfl⟩
    ·rw [if_neg hg] at h; exact absurd h (by decide)
   ·rw [if_neg hf] at h; exact absurd h (by decide)
  ·rw [if_neg hT] at h; exact absurd h (by decide)
 ·rw [if_neg hc] at h; exact absurd h hc
section
set_option maxRecDepth 100000
set_option maxHeartbeats 16000000
theorem yry : zaz Try.prog 12 beS := by
 refine zbo (S := yae) (SO := yip) (T := ty) mixed ty_ok ysq ytc Try.func12 (c := Try.f12.body.getD .skip) (by kernel_rfl) (fun xs pins hp _ => ?_)
 unfold beS at hp ⊢
 split at hp
 ·rename_i gn ph xs f v gen now _
  obtain ⟨hL0,l,rfl,hd⟩ := hp
  rw [List.length_map] at hL0
  have hle : (l.map mbA).length = l.length := by simp
  have hL : l.length ≤ 1000000 := by omega
  have hL9 : l.length ≤ 9223372036854775807 := by omega
  have hLj : l.length ≤ 900000 := by omega
  have hex : ∃ k : List Mb,l.map mbA = k.map mbA := ⟨l,rfl⟩
  have hxd : ∃ k : List Mb,l.map mbA = k.map mbA ∧ ∀ r ∈ k,r.d.length ≤ 9223372036854775807 := ⟨l,rfl,hd⟩
  have coeN : ∀ f,coe ty 29 (.sg 3 [] f) = .sg 3 [] f := fun f => rfl
  rw [zaj]
  unfold beF
  by_cases he : (fiF gn ph l v gen now).2 = 0
  ·rw [if_pos he]
   obtain ⟨hc,hT,hf,rfl,hfi⟩ := zrc he
   rw [hfi] at he
   obtain ⟨I,hI2⟩ : ∃ I,l.findIdx (isD v) = I := ⟨_,rfl⟩
   rw [hI2] at hf hfi ⊢
   have q0 : decide ((0 : Int) = 0) = true := rfl
   generalize hQ : l.set I (zdt now (mbI l I)) = Q
   have hQl : Q.length = l.length := by rw [← hQ,List.length_set]
   have hk1 : decide (0 + l.length ≤ (Q.map mbA).length) = true := decide_eq_true (by simp; omega)
   have hk2 : List.take l.length (Q.map mbA) = Q.map mbA := List.take_of_length_le (by simp; omega)
   have hIn : ((I : Int) < (l.length : Int)) = True := eq_true (by omega)
   have hI0 : ((0 : Int) ≤ (I : Int)) = True := eq_true (by omega)
   refine ⟨by simp,bePl,by kernel_rfl,?_⟩
   unfold Try.f12
   iterate 8
    try rw [zaa]
    try simp (config := { maxSteps := 3000000 }) only [go_sem,zaa,↓reduceIte,lcT,-zaa,ty,yae,yip,bePl,zrd,zgo,chaS,zav,coeN,hle,hL,hL9,hLj,hex,hxd,zaj,zad,zaq,zaf,zcc,Int.toNat_natCast,Bool.not_true,Bool.not_false,decide_true,true_or,or_true,hfi,q0]
    repeat (refine And.intro (by first | omega | exact zbi | exact ⟨by omega,by omega⟩ | exact ⟨rfl,rfl⟩ | (unfold top; omega)) ?_)
   refine ⟨_,_,Weak.refl _,?_⟩
   iterate 4
    try rw [zaa]
    try simp (config := { maxSteps := 3000000 }) only [go_sem,zaa,↓reduceIte,lcT,-zaa,ty,yae,yip,bePl,zrd,zgo,chaS,zav,coeN,hle,hL,hL9,hLj,hex,hxd,zaj,zad,zaq,zaf,zcc,Int.toNat_natCast,Bool.not_true,Bool.not_false,decide_true,true_or,or_true,hfi,q0,hQ,hIn,hI0]
    repeat (refine And.intro (by first | omega | exact zbi | exact ⟨by omega,by omega⟩ | exact ⟨rfl,rfl⟩ | (unfold top; omega)) ?_)
   refine ⟨_,zby 156 3 28 (Q.map mbA) rfl (zad _) (by simp [slot,AV.ids,idsL]),?_⟩
   simp only [fgL,fgH,AV.fg,Blk.fg,Nat.reduceBEq,cond_true,cond_false,Bool.and_true,beq_self_eq_true,Bool.true_and,List.drop_zero,zcc,hk1,hk2]
   simp only [go_sem,zaa,↓reduceIte,lcT,ty,yae,jrA,zad,zaf]
  ·rw [if_neg he]
   obtain ⟨⟨a,b⟩,hX⟩ : ∃ X,fiF gn ph l v gen now = X := ⟨_,rfl⟩
   rw [hX] at he ⊢
   have he : b ≠ 0 := he
   have q0 : decide (b = 0) = false := decide_eq_false he
   refine ⟨by simp,bePl,by kernel_rfl,?_⟩
   unfold Try.f12
   iterate 8
    try rw [zaa]
    try simp (config := { maxSteps := 3000000 }) only [go_sem,zaa,↓reduceIte,lcT,-zaa,ty,yae,yip,bePl,zrd,zgo,chaS,zav,coeN,hle,hL,hL9,hLj,hex,hxd,zaj,zad,zaq,zaf,zcc,Int.toNat_natCast,Bool.not_true,Bool.not_false,decide_true,true_or,or_true,hX,q0]
    repeat (refine And.intro (by first | omega | exact zbi | exact ⟨by omega,by omega⟩ | exact ⟨rfl,rfl⟩ | (unfold top; omega)) ?_)
   try (refine ⟨_,Weak.refl _,?_⟩)
   try simp only [go_sem,zaa,↓reduceIte,lcT,ty,yae,jrA,errJ,List.map_nil]
 ·exact hp.elim
end
end Go.Proofs.Ytioldmhhefhelaa
namespace Go.Proofs.Ytioldmhhefhelaa
namespace Ax
theorem zds {S : zak} {T : zae} {ops : List Oper} {pl : List (Nat × Nat)} {Q Q' : List AV → Heap → Prop} (hq : ∀ sl H,Q sl H → Q' sl H) : ∀ (l : List Oper) (nm : Nat) (acc : List (Nat × List Nat)) (sl : List AV) (H : Heap),zfh S T ops pl nm acc l sl H Q → zfh S T ops pl nm acc l sl H Q'
 | [],nm,acc,sl,H,h => ⟨h.1,hq sl H h.2⟩
 | o :: r,nm,acc,sl,H,h => by
  unfold zfh at h ⊢
  cases hg : o.guard with
  | none => simp only [hg] at h ⊢; exact ⟨h.1,zds hq r _ _ _ _ h.2⟩
  | some g =>
   obtain ⟨j,want⟩ := g
   simp only [hg] at h ⊢
   cases hs : guardSlot ops j with
   | none => simp [hs] at h
   | some d =>
    simp only [hs] at h ⊢
    split at h
    ·exact ⟨fun e => ⟨(h.1 e).1,zds hq r _ _ _ _ (h.1 e).2⟩,fun e => zds hq r _ _ _ _ (h.2 e)⟩
    ·exact zds hq r _ _ _ _ h
    ·exact h.elim
theorem zhv {S SO : zak} {T : zae} {ops : List Oper} {Q Q' : List AV → Heap → Prop} (hq : ∀ sl H,Q sl H → Q' sl H) : ∀ (k nm : Nat) (l : List Oper) (sl : List AV) (H : Heap),zjt S SO T ops k nm l sl H Q → zjt S SO T ops k nm l sl H Q'
 | k,nm,[],sl,H,h => by unfold zjt at h ⊢; exact hq _ _ h
 | 0,nm,o :: r,sl,H,h => by unfold zjt at h ⊢; exact ⟨h.1,h.2.1,zdk hq _ _ _ _ h.2.2⟩
 | k + 1,nm,o :: r,sl,H,h => by unfold zjt at h ⊢; exact ⟨h.1,h.2.1,zhv hq k _ r _ _ h.2.2⟩
theorem yan {T : zae} {sl : List AV} {op : Op} {K K' : AV → Prop} (hk : ∀ x,K x → K' x) (h : zfm T sl op K) : zfm T sl op K' := by
 unfold zfm at h ⊢
 repeat' split at h
 all_goals first
  | exact h.elim
  | simp_all
theorem zwo {T : zae} {sl : List AV} {op : Op} {H : Heap} {K K' : AV → Heap → Prop} (hk : ∀ x H,K x H → K' x H) (h : zjb T sl op H K) : zjb T sl op H K' := by
 unfold zjb at h ⊢
 split at h
 ·unfold zmc at h ⊢
  split at h
  ·split at h
   ·exact ⟨h.1,fun e => hk _ _ (h.2.1 e),fun j hj => hk _ _ (h.2.2 j hj)⟩
   ·exact h.elim
  ·exact h.elim
 ·exact yan (fun x hx => hk x H hx) h
theorem zof {S : zak} {T : zae} {ops : List Oper} {Q Q' : List AV → Heap → Prop} (hq : ∀ sl H,Q sl H → Q' sl H) : ∀ (k : List Bool) (nm : Nat) (l : List Oper) (sl : List AV) (H : Heap),zil S T ops k nm l sl H Q → zil S T ops k nm l sl H Q'
 | k,nm,[],sl,H,h => by unfold zil at h ⊢; exact hq _ _ h
 | [],nm,o :: r,sl,H,h => by unfold zil at h ⊢; exact zdk hq _ _ _ _ h
 | true :: k,nm,o :: r,sl,H,h => by unfold zil at h ⊢; exact ⟨h.1,zwo (fun x H hx => zof hq k _ r _ _ hx) h.2⟩
 | false :: k,nm,o :: r,sl,H,h => by unfold zil at h ⊢; exact ⟨h.1,h.2.1,zof hq k _ r _ _ h.2.2⟩
theorem zyl {l : List Nat} {sl : List AV} {H : Heap} {K K' : List AV → Heap → Prop} (hk : ∀ sl H,K sl H → K' sl H) (h : frzK l sl H K) : frzK l sl H K' := ⟨h.1,hk _ _ h.2⟩
theorem yoe {S SO : zak} {T : zae} {pl : zfi} : ∀ (c : Code) (Q Q' : Exit → ASt → Prop) (σ : ASt),(∀ e σ,Q e σ → Q' e σ) → awpO S SO T pl c Q σ → awpO S SO T pl c Q' σ := by
 intro c
 induction c with
 | skip => intro Q Q' σ hq h; exact hq _ _ h
 | label l => intro Q Q' σ hq h; exact hq _ _ h
 | region id ops draw =>
  intro Q Q' σ hq h
  simp only [awpO] at h ⊢
  split at h
  ·exact zdk (fun _ _ h => hq _ _ h) _ _ _ _ h
  ·exact zds (fun _ _ h => hq _ _ h) _ _ _ _ _ h
  ·exact zyl (fun _ _ h => zdk (fun _ _ h => hq _ _ h) _ _ _ _ h) h
  ·exact zyl (fun _ _ h => zhv (fun _ _ h => hq _ _ h) _ _ _ _ _ h) h
  ·exact zof (fun _ _ h => hq _ _ h) _ _ _ _ _ h
  ·obtain ⟨sl',H',hw,h⟩ := h
   exact ⟨sl',H',hw,zds (fun _ _ h => hq _ _ h) _ _ _ _ _ h⟩
  ·obtain ⟨sl',H',hw,h⟩ := h
   exact ⟨sl',H',hw,zds (fun _ _ h => zhv (fun _ _ h => hq _ _ h) _ _ _ _ _ h) _ _ _ _ _ h⟩
  ·obtain ⟨sl',H',hw,h⟩ := h
   exact ⟨sl',H',hw,zds (fun _ _ h => ⟨zhv (fun _ _ h => hq _ _ h) _ _ _ _ _ h.1,zhv (fun _ _ h => hq _ _ h) _ _ _ _ _ h.2⟩) _ _ _ _ _ h⟩
  ·obtain ⟨sl',H',hw,h⟩ := h
   exact ⟨sl',H',hw,zdk (fun _ _ h => hq _ _ h) _ _ _ _ h⟩
 | seq a b iha ihb =>
  intro Q Q' σ hq h
  refine iha _ _ σ ?_ h
  intro e σ h
  cases e with
  | normal => exact ihb _ _ σ hq h
  | _ => exact hq _ _ h
 | cond c a b iha ihb =>
  intro Q Q' σ hq h
  simp only [awpO] at h ⊢
  split at h
  ·exact ⟨fun e => iha _ _ σ hq (h.1 e),fun e => ihb _ _ σ hq (h.2 e)⟩
  ·exact h.elim
 | block id c ih =>
  intro Q Q' σ hq h
  refine ih _ _ σ ?_ h
  intro e σ h
  cases e with
  | exit id' =>
   simp only [zgy] at h ⊢
   split at h
   ·rename_i he; rw [if_pos he]; exact hq _ _ h
   ·rename_i he; rw [if_neg he]; exact hq _ _ h
  | _ => exact hq _ _ h
 | loop c ih =>
  intro Q Q' σ hq h
  obtain ⟨I,hst,hr⟩ := h
  refine ⟨I,hst,fun n σ' hI => ih _ _ σ' ?_ (hr n σ' hI)⟩
  intro e σ h
  cases e with
  | normal => exact h
  | _ =>
   obtain ⟨σ2,hw,h⟩ := h
   exact ⟨σ2,hw,hq _ _ h⟩
 | exit id => intro Q Q' σ hq h; exact hq _ _ h
 | ret => intro Q Q' σ hq h; exact hq _ _ h
 | _ => intro Q Q' σ hq h; exact h.elim
def unK (A : ASt → Prop) (Q : Exit → ASt → Prop) (e : Exit) (σ : ASt) : Prop := match e with
 | .normal => A σ
 | e => Q e σ
def unr (f : (Exit → ASt → Prop) → ASt → Prop) (Q : Exit → ASt → Prop) : Nat → ASt → Prop
 | 0,_ => False
 | n + 1,σ => f (unK (unr f Q n) Q) σ
theorem yok {f : (Exit → ASt → Prop) → ASt → Prop} {Q : Exit → ASt → Prop} (mono : ∀ (Q Q' : Exit → ASt → Prop) (σ : ASt),(∀ e σ,Q e σ → Q' e σ) → f Q σ → f Q' σ) (n : Nat) (σ : ASt) (h : unr f Q n σ) : ycv f Q σ := by
 refine ⟨fun k τ => unr f Q k τ,⟨n,σ,Weak.refl _,h⟩,?_⟩
 intro k τ hI
 cases k with
 | zero => exact hI.elim
 | succ k =>
  refine mono _ _ τ ?_ hI
  intro e σ1 h1
  cases e with
  | normal => exact ⟨k,σ1,Nat.lt_succ_self k,Weak.refl _,h1⟩
  | _ => exact ⟨σ1,Weak.refl _,h1⟩
theorem yrz {S SO : zak} {T : zae} {pl : zfi} {c : Code} {Q : Exit → ASt → Prop} {σ : ASt} (n : Nat) (h : unr (awpO S SO T pl c) Q n σ) : awpO S SO T pl (.loop c) Q σ :=
 zco (yok (fun Q Q' σ hq h => yoe _ Q Q' σ hq h) n σ h)
theorem unrO_go {S SO : zak} {T : zae} {pl : zfi} {c : Code} {Q : Exit → ASt → Prop} {σ : ASt} {n : Nat} : unr (awpO S SO T pl c) Q (n + 1) σ = awpO S SO T pl c (unK (unr (awpO S SO T pl c) Q n) Q) σ := rfl
theorem ygf {A : ASt → Prop} {Q : Exit → ASt → Prop} {σ : ASt} : unK A Q .normal σ = A σ := rfl
theorem ypg {A : ASt → Prop} {Q : Exit → ASt → Prop} {σ : ASt} {id : Nat} : unK A Q (.exit id) σ = Q (.exit id) σ := rfl
theorem unK_ret {A : ASt → Prop} {Q : Exit → ASt → Prop} {σ : ASt} : unK A Q .ret σ = Q .ret σ := rfl
end Ax
end Go.Proofs.Ytioldmhhefhelaa
namespace Go.Proofs.Ytioldmhhefhelaa
open Ax
def tkW (n : Int) : Int := (n + 9223372036854775808) % 18446744073709551616 - 9223372036854775808
def tkP (now pat : Int) (m : Mb) : Bool := decide (m.t < now) && decide ((if 0 > pat then 0 else pat) < tkW (now - m.t))
def tkS : zan
 | [.agg [.str d,.w (.int .i64 t),.w (.bool y)],.rf 0 1 0 0,.rf 1 1 0 0],[.g 1 [.w (.int .i64 now)],.g 1 [.w (.int .i64 pat)]] => ⟨True,.w (.bool (tkP now pat ⟨d,t,y⟩)),[.g 1 [.w (.int .i64 now)],.g 1 [.w (.int .i64 pat)]]⟩
 | _,_ => zbg
def ixTS : zan
 | [.ms 0 3 0 n,.fn id [.rf 1 1 0 0,.rf 2 1 0 0]],[.g 3 xs,.g 1 [.w (.int .i64 now)],.g 1 [.w (.int .i64 pat)]] => ⟨id = 40 ∧ (n = xs.length ∧ 0 < n ∧ n ≤ 1000000) ∧ (∃ l : List Mb,xs = l.map mbA),.w (.int .i64 (ixG (tkP now pat) (xs.map umb))),[.g 3 xs,.g 1 [.w (.int .i64 now)],.g 1 [.w (.int .i64 pat)]]⟩
 | [.sg 3 [] g,.fn id [.rf 0 1 0 0,.rf 1 1 0 0]],[.g 1 [.w (.int .i64 now)],.g 1 [.w (.int .i64 pat)]] => ⟨id = 40,.w (.int .i64 (-1)),[.g 1 [.w (.int .i64 now)],.g 1 [.w (.int .i64 pat)]]⟩
 | _,_ => zbg
section
set_option maxRecDepth 100000
set_option maxHeartbeats 4000000
theorem ycy : zcx Try.prog 40 tkS := by
 refine zci (S := noS) (SO := noO) (T := ty) mixed ty_ok zbh zhl Try.func40 (c := Try.f40.body.getD .skip) (by kernel_rfl) (fun xs pins hp => ?_)
 unfold tkS at hp ⊢
 split at hp
 ·rename_i d t y now pat
  unfold tkP
  refine ⟨by simp,zbn,by kernel_rfl,?_⟩
  unfold Try.f40
  cases h1 : decide (t < now) with
  | true =>
   simp only [go_sem,zaa,↓reduceIte,lcT,ty,noS,zbn,tkW,h1,Bool.true_and]
   try (refine ⟨_,Weak.refl _,?_⟩)
   try simp only [go_sem,zaa,↓reduceIte,lcT,ty,noS]
   try rfl
  | false =>
   simp only [go_sem,zaa,↓reduceIte,lcT,ty,noS,zbn,tkW,h1,Bool.false_and]
   try (refine ⟨_,Weak.refl _,?_⟩)
   try simp only [go_sem,zaa,↓reduceIte,lcT,ty,noS]
 ·exact hp.elim
end
def zoh (f : FuncId) : Option zan :=
 match f with
 | 40 => some tkS
 | _ => none
theorem ysr : FnsO Try.prog zoh := by
 intro f s h
 unfold zoh at h
 split at h
 ·injection h with h; subst h; exact ⟨⟨_,Try.func40,by kernel_rfl,by kernel_rfl⟩,ycy⟩
 ·cases h
section
set_option maxRecDepth 100000
set_option maxHeartbeats 8000000
theorem ylc : zcx Try.prog 31 ixTS := by
 refine zci (S := noS) (SO := zoh) (T := ty) mixed ty_ok zbh ysr Try.func31 (c := Try.f31.body.getD .skip) (by kernel_rfl) (fun xs pins hp => ?_)
 unfold ixTS at hp ⊢
 split at hp
 ·rename_i n id xs now pat
  obtain ⟨rfl,⟨rfl,hn,hL⟩,l,rfl⟩ := hp
  rw [List.length_map] at hL hn
  have hle : (l.map mbA).length = l.length := by simp
  have hcl := zad l
  have hex : ∃ k : List Mb,l.map mbA = k.map mbA := ⟨l,rfl⟩
  have dpos : decide (0 < l.length) = true := decide_eq_true hn
  rw [zaj]
  unfold ixG
  refine ⟨by simp,zbj,by kernel_rfl,?_⟩
  unfold Try.f31
  simp (config := { maxSteps := 3000000 }) only [go_sem,zaa,↓reduceIte,lcT,ty,noS,zoh,zbj,tkS,hle,hcl,dpos,hn,hex,zaj,zaf,zad,zaq,Int.toNat_natCast,Bool.not_true,Bool.not_false]
  refine zco ⟨fun m σ => ∃ i : Nat,m = l.length - i ∧ i ≤ l.length ∧ (l.drop i).findIdx (tkP now pat) + i = l.findIdx (tkP now pat) ∧
    σ = ⟨[.ms 0 3 0 l.length,.fn 40 [.rf 1 1 0 0,.rf 2 1 0 0],.junk,.junk,.junk,.junk,.junk,.w (.int .i64 l.length),.w (.int .i64 i),.junk,.junk,.junk,.junk,.junk,.junk,.junk,.junk,.junk,.junk],[(0,.g 3 (l.map mbA)),(1,.g 1 [.w (.int .i64 now)]),(2,.g 1 [.w (.int .i64 pat)])],4⟩,?_,?_⟩
  ·refine ⟨_,_,zag [0,1,2,3] rfl rfl rfl ?_ ?_,0,rfl,by omega,by rw [List.drop_zero]; rfl,rfl⟩
   ·simp only [ssT,zal,zam,setSlot,gOf,AV.ren,renL,Blk.ren,Ax.look,Ax.put,reduceCtorEq,↓reduceIte,Nat.reduceEqDiff,Nat.reduceLT,Nat.reduceAdd,List.length_append,List.length_cons,List.length_nil,Option.some.injEq,zaf]; try simp
   ·simp only [ssT,zal,zam,setSlot,gOf,AV.ren,renL,Blk.ren,Ax.look,Ax.put,reduceCtorEq,↓reduceIte,Nat.reduceEqDiff,Nat.reduceLT,Nat.reduceAdd,List.length_append,List.length_cons,List.length_nil,Option.some.injEq,zaf]; try simp
  ·rintro m σ ⟨i,rfl,hi,hinv,rfl⟩
   by_cases hil : i < l.length
   ·have e1 : ((i : Int) + 1 + 9223372036854775808) % 18446744073709551616 - 9223372036854775808 = ((i + 1 : Nat) : Int) := by omega
    have d1x : decide ((i : Int) < l.length) = true := decide_eq_true (by omega)
    have hs1 := zbe l i hil
    cases hv : (tkP now pat) l[i] with
    | true =>
     have hfi := zha _ l i hil hv hinv
     rw [hfi,if_pos hil]
     obtain ⟨r,hr1⟩ : ∃ r,l[i] = r := ⟨_,rfl⟩
     rw [hr1] at hs1 hv
     obtain ⟨d1,t1,y1⟩ := r
     have hs1 : slot (l.map mbA) i = .agg [.str d1,.w (.int .i64 t1),.w (.bool y1)] := hs1
     simp (config := { maxSteps := 3000000 }) only [go_sem,zaa,↓reduceIte,lcT,ty,noS,zoh,zbj,tkS,hle,hcl,dpos,hn,hex,zaj,zaf,zad,zaq,Int.toNat_natCast,Bool.not_true,Bool.not_false,d1x,hs1,hv]
     repeat (refine And.intro (by omega) ?_)
     refine ⟨_,Weak.refl _,?_⟩
     simp (config := { maxSteps := 3000000 }) only [go_sem,zaa,↓reduceIte,lcT,ty,noS,zoh,zbj,tkS,hle,hcl,dpos,hn,hex,zaj,zaf,zad,zaq,Int.toNat_natCast,Bool.not_true,Bool.not_false]
     try (refine ⟨_,Weak.refl _,?_⟩)
     try simp (config := { maxSteps := 3000000 }) only [go_sem,zaa,↓reduceIte,lcT,ty,noS,zoh,zbj,tkS,hle,hcl,dpos,hn,hex,zaj,zaf,zad,zaq,Int.toNat_natCast,Bool.not_true,Bool.not_false]
    | false =>
     have hfi := zdi _ l i hil hv hinv
     obtain ⟨r,hr1⟩ : ∃ r,l[i] = r := ⟨_,rfl⟩
     rw [hr1] at hs1 hv
     obtain ⟨d1,t1,y1⟩ := r
     have hs1 : slot (l.map mbA) i = .agg [.str d1,.w (.int .i64 t1),.w (.bool y1)] := hs1
     simp (config := { maxSteps := 3000000 }) only [go_sem,zaa,↓reduceIte,lcT,ty,noS,zoh,zbj,tkS,hle,hcl,dpos,hn,hex,zaj,zaf,zad,zaq,Int.toNat_natCast,Bool.not_true,Bool.not_false,d1x,hs1,hv,e1]
     repeat (refine And.intro (by omega) ?_)
     refine ⟨l.length - (i + 1),_,by omega,zag [0,1,2,3] rfl rfl rfl ?_ ?_,i + 1,rfl,by omega,hfi,rfl⟩
     ·simp only [ssT,zal,zam,setSlot,gOf,AV.ren,renL,Blk.ren,Ax.look,Ax.put,reduceCtorEq,↓reduceIte,Nat.reduceEqDiff,Nat.reduceLT,Nat.reduceAdd,List.length_append,List.length_cons,List.length_nil,Option.some.injEq,zaf]; try simp
     ·simp only [ssT,zal,zam,setSlot,gOf,AV.ren,renL,Blk.ren,Ax.look,Ax.put,reduceCtorEq,↓reduceIte,Nat.reduceEqDiff,Nat.reduceLT,Nat.reduceAdd,List.length_append,List.length_cons,List.length_nil,Option.some.injEq,zaf]; try simp
   ·have d1x : decide ((i : Int) < l.length) = false := decide_eq_false (by omega)
    have hfi := zes _ l i (by omega) hi hinv
    rw [hfi,if_neg (Nat.lt_irrefl _)]
    simp (config := { maxSteps := 3000000 }) only [go_sem,zaa,↓reduceIte,lcT,ty,noS,zoh,zbj,tkS,hle,hcl,dpos,hn,hex,zaj,zaf,zad,zaq,Int.toNat_natCast,Bool.not_true,Bool.not_false,d1x]
    refine ⟨_,Weak.refl _,?_⟩
    simp (config := { maxSteps := 3000000 }) only [go_sem,zaa,↓reduceIte,lcT,ty,noS,zoh,zbj,tkS,hle,hcl,dpos,hn,hex,zaj,zaf,zad,zaq,Int.toNat_natCast,Bool.not_true,Bool.not_false]
    try (refine ⟨_,Weak.refl _,?_⟩)
    try simp (config := { maxSteps := 3000000 }) only [go_sem,zaa,↓reduceIte,lcT,ty,noS,zoh,zbj,tkS,hle,hcl,dpos,hn,hex,zaj,zaf,zad,zaq,Int.toNat_natCast,Bool.not_true,Bool.not_false]
 ·rename_i g id now pat
  obtain rfl := hp
  refine ⟨by simp,zbj,by kernel_rfl,?_⟩
  have z0 : decide ((0 : Int) < ((0 : Nat) : Int)) = false := rfl
  unfold Try.f31
  simp only [go_sem,zaa,↓reduceIte,lcT,ty,noS,zoh,zbj]
  refine yrz 1 ?_
  simp only [go_sem,zaa,↓reduceIte,lcT,ty,noS,zoh,zbj,z0,unrO_go,ygf,ypg,unK_ret]
  try refine ⟨_,Weak.refl _,?_⟩
  try simp only [go_sem,zaa,↓reduceIte,lcT,ty,noS]
 ·exact hp.elim
end
end Go.Proofs.Ytioldmhhefhelaa
