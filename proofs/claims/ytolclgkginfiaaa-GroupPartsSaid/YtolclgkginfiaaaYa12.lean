/- What the proofs of this seat stand on; it asks nothing. -/
import Derived.Test.YtolclgkginfiaaaYa11
set_option linter.unusedSimpArgs false
set_option linter.unusedVariables false
namespace Go.Proofs.Ytolclgkginfiaaa
open Ax
structure Mb where
 d : List UInt8
 t : Int
 y : Bool
deriving DecidableEq
def mbA (r : Mb) : AV := .agg [.str r.d,.w (.int .i64 r.t),.w (.bool r.y)]
def umb : AV → Mb
 | .agg [.str d,.w (.int _ t),.w (.bool y)] => ⟨d,t,y⟩
 | _ => ⟨[],0,false⟩
theorem zap (l : List Mb) : (l.map mbA).map umb = l := by
 rw [List.map_map]; exact List.map_id _
theorem zad : ∀ (l : List Mb),closedL (l.map mbA) = true
 | [] => rfl
 | x :: r => by simp only [List.map_cons,closedL,mbA,AV.closed,Bool.true_and]; exact zad r
theorem zak (g : Nat → Nat) : ∀ (l : List Mb),renL g (l.map mbA) = l.map mbA
 | [] => rfl
 | x :: r => by simp only [List.map_cons,renL,zak g r]; rfl
theorem zbb : ∀ (l : List Mb),idsL (l.map mbA) = []
 | [] => rfl
 | x :: r => by simp only [List.map_cons,idsL,zbb r]; rfl
theorem zeh : ∀ (l : List Mb) (i : Nat) (h : i < l.length),slot (l.map mbA) i = mbA l[i]
 | p :: ps,0,h => rfl
 | p :: ps,i + 1,h => by
   simp only [List.map_cons,slot,List.getElem_cons_succ]
   exact zeh ps i (by simpa using h)
theorem zje (r : Mb) : ∀ (cs : List Mb) (w : Nat),w < cs.length → setSlot (cs.map mbA) w (mbA r) = (cs.set w r).map mbA
 | x :: cs,0,_ => rfl
 | x :: cs,w + 1,h => by
   show mbA x :: setSlot (cs.map mbA) w (mbA r) = mbA x :: (cs.set w r).map mbA
   rw [zje r cs w (by simpa using h)]
theorem zcr {l : List Mb} : ∀ y,y ∈ l.map mbA → y.closed = true := by
 intro y hy
 obtain ⟨c,_,rfl⟩ := List.mem_map.1 hy
 rfl
theorem zay (l : List Mb) (f : Bool) : coe ty 22 (.sg 3 (l.map mbA) f) = .sg 3 (l.map mbA) f := by cases l <;> rfl
theorem zgp (id s : Nat) (zs : List AV) : ∀ (l : List Mb),fgL id s zs (l.map mbA) = l.map mbA
 | [] => rfl
 | x :: r => by simp only [List.map_cons,fgL,zgp id s zs r]; rfl
theorem zpg {α : Type} (p : α → Bool) (l : List α) (i : Nat) (h : i < l.length) (hp : p l[i] = true) (hno : (l.drop i).findIdx p + i = l.findIdx p) : l.findIdx p = i := by
 rw [List.drop_eq_getElem_cons h,List.findIdx_cons,hp] at hno
 simpa using hno.symm
theorem zis {α : Type} (p : α → Bool) (l : List α) (i : Nat) (h : i < l.length) (hp : p l[i] = false) (hno : (l.drop i).findIdx p + i = l.findIdx p) : (l.drop (i + 1)).findIdx p + (i + 1) = l.findIdx p := by
 rw [List.drop_eq_getElem_cons h,List.findIdx_cons,hp] at hno
 simp at hno
 omega
theorem zlu {α : Type} (p : α → Bool) (l : List α) (i : Nat) (h : l.length ≤ i) (hi : i ≤ l.length) (hno : (l.drop i).findIdx p + i = l.findIdx p) : l.findIdx p = l.length := by
 rw [List.drop_eq_nil_of_le h] at hno
 simp at hno
 omega
def zbi : zhx := fun _ => .std
def isD (v : List UInt8) : Mb → Bool := fun m => decide (m.d = v)
def leD (a b : List UInt8) : Bool := Op.bytesLess a b || decide (a = b)
def zjp (v : List UInt8) : Mb → Bool := fun m => !(leD m.d v)
def offY : Mb → Bool := fun m => !m.y
def ixG (p : Mb → Bool) (l : List Mb) : Int := if l.findIdx p < l.length then (l.findIdx p : Nat) else -1
def plgS : zar
 | [.agg [.str d,.w (.int .i64 t),.w (.bool y)],.rf 0 1 0 0],[.g 1 [.str v]] => ⟨True,.w (.bool (decide (d = v))),[.g 1 [.str v]]⟩
 | _,_ => zbq
def jngS : zar
 | [.agg [.str d,.w (.int .i64 t),.w (.bool y)],.rf 0 1 0 0],[.g 1 [.str v]] => ⟨True,.w (.bool (!(leD d v))),[.g 1 [.str v]]⟩
 | _,_ => zbq
def asgS : zar
 | [.agg [.str d,.w (.int .i64 t),.w (.bool y)]],[] => ⟨True,.w (.bool (!y)),[]⟩
 | _,_ => zbq
section
set_option maxRecDepth 100000
theorem plg_sound : zdb Try.prog 29 plgS := by
 refine zdf (S := noS) (SO := noO) (T := ty) mixed ty_ok zcm zhp Try.func29 (c := Try.f29.body.getD .skip) (by kernel_rfl) (fun xs pins hp => ?_)
 unfold plgS at hp ⊢
 split at hp
 · rename_i d t y v
   refine ⟨by simp,zbi,by kernel_rfl,?_⟩
   unfold Try.f29
   simp only [go_sem,coe,zaa,Nat.reduceAdd,Nat.reduceSub,Nat.reduceMul,Int.reduceToNat,reduceCtorEq,↓reduceIte,Int.reducePow,Nat.reducePow,Int.reduceMod,Nat.reduceLeDiff,Int.reduceLE,Int.reduceNe,Int.reduceEq,Nat.reduceEqDiff,Nat.reduceLT,Nat.reduceBEq,List.map_cons,List.map_nil,List.toList_toArray,Array.toList_append,Option.toArray_some,Option.toArray_none,Bool.and_self,ty,noS,zbi,leD]
   try (refine ⟨_,Weak.refl _,?_⟩)
   try simp only [go_sem,coe,zaa,Nat.reduceAdd,Nat.reduceSub,Nat.reduceMul,Int.reduceToNat,reduceCtorEq,↓reduceIte,Int.reducePow,Nat.reducePow,Int.reduceMod,Nat.reduceLeDiff,Int.reduceLE,Int.reduceNe,Int.reduceEq,Nat.reduceEqDiff,Nat.reduceLT,Nat.reduceBEq,List.map_cons,List.map_nil,List.toList_toArray,Array.toList_append,Option.toArray_some,Option.toArray_none,Bool.and_self,ty,noS]
 · exact hp.elim
theorem jng_sound : zdb Try.prog 16 jngS := by
 refine zdf (S := noS) (SO := noO) (T := ty) mixed ty_ok zcm zhp Try.func16 (c := Try.f16.body.getD .skip) (by kernel_rfl) (fun xs pins hp => ?_)
 unfold jngS at hp ⊢
 split at hp
 · rename_i d t y v
   refine ⟨by simp,zbi,by kernel_rfl,?_⟩
   unfold Try.f16
   simp only [go_sem,coe,zaa,Nat.reduceAdd,Nat.reduceSub,Nat.reduceMul,Int.reduceToNat,reduceCtorEq,↓reduceIte,Int.reducePow,Nat.reducePow,Int.reduceMod,Nat.reduceLeDiff,Int.reduceLE,Int.reduceNe,Int.reduceEq,Nat.reduceEqDiff,Nat.reduceLT,Nat.reduceBEq,List.map_cons,List.map_nil,List.toList_toArray,Array.toList_append,Option.toArray_some,Option.toArray_none,Bool.and_self,ty,noS,zbi,leD]
   try (refine ⟨_,Weak.refl _,?_⟩)
   try simp only [go_sem,coe,zaa,Nat.reduceAdd,Nat.reduceSub,Nat.reduceMul,Int.reduceToNat,reduceCtorEq,↓reduceIte,Int.reducePow,Nat.reducePow,Int.reduceMod,Nat.reduceLeDiff,Int.reduceLE,Int.reduceNe,Int.reduceEq,Nat.reduceEqDiff,Nat.reduceLT,Nat.reduceBEq,List.map_cons,List.map_nil,List.toList_toArray,Array.toList_append,Option.toArray_some,Option.toArray_none,Bool.and_self,ty,noS]
 · exact hp.elim
theorem asg_sound : zdb Try.prog 35 asgS := by
 refine zdf (S := noS) (SO := noO) (T := ty) mixed ty_ok zcm zhp Try.func35 (c := Try.f35.body.getD .skip) (by kernel_rfl) (fun xs pins hp => ?_)
 unfold asgS at hp ⊢
 split at hp
 · rename_i d t y
   refine ⟨by simp,zbi,by kernel_rfl,?_⟩
   unfold Try.f35
   simp only [go_sem,coe,zaa,Nat.reduceAdd,Nat.reduceSub,Nat.reduceMul,Int.reduceToNat,reduceCtorEq,↓reduceIte,Int.reducePow,Nat.reducePow,Int.reduceMod,Nat.reduceLeDiff,Int.reduceLE,Int.reduceNe,Int.reduceEq,Nat.reduceEqDiff,Nat.reduceLT,Nat.reduceBEq,List.map_cons,List.map_nil,List.toList_toArray,Array.toList_append,Option.toArray_some,Option.toArray_none,Bool.and_self,ty,noS,zbi,leD]
   try (refine ⟨_,Weak.refl _,?_⟩)
   try simp only [go_sem,coe,zaa,Nat.reduceAdd,Nat.reduceSub,Nat.reduceMul,Int.reduceToNat,reduceCtorEq,↓reduceIte,Int.reducePow,Nat.reducePow,Int.reduceMod,Nat.reduceLeDiff,Int.reduceLE,Int.reduceNe,Int.reduceEq,Nat.reduceEqDiff,Nat.reduceLT,Nat.reduceBEq,List.map_cons,List.map_nil,List.toList_toArray,Array.toList_append,Option.toArray_some,Option.toArray_none,Bool.and_self,ty,noS]
 · exact hp.elim
end
def empP : List AV → Bool
 | [] => true
 | _ => false
def cloPl0 : zhx := fun id => match id with
 | 1 => .tst [false,true]
 | 3 => .tst [true,false,true]
 | _ => .std
def cloPl : zhx := fun id => match id with
 | 1 => .tst [false,true]
 | 3 => .tst [true]
 | _ => .std
theorem znu {w : World} {loc : Ax.Loc} {v : Value} {s : Nat} (s' : Nat) (h : R w loc (.sg s [] true) v) : R w loc (.sg s' [] true) v := by
 cases h with
 | sg _ _ _ a cap cs hd hs hc hl hx hh => exact .sg s' [] true a cap cs hd (by simp) hc hl hx hh
section
set_option maxRecDepth 100000
set_option maxHeartbeats 4000000
def zwu : zar
 | [.sg 3 xs f],[] => ⟨xs.length ≤ 1000000 ∧ ∃ l : List Mb,xs = l.map mbA,bif empP xs then .sg 3 [] true else .ms 0 3 0 xs.length,bif empP xs then [] else [.g 3 xs]⟩
 | _,_ => zbq
theorem cloMb_sound : zbn Try.prog 31 zwu := by
 refine zbs (S := noS) (SO := noO) (T := ty) mixed ty_ok zcm zhp Try.func31 (c := Try.f31.body.getD .skip) (by kernel_rfl) (fun xs pins hp _ => ?_)
 unfold zwu at hp ⊢
 split at hp
 · rename_i xs f _
   obtain ⟨hL,l,rfl⟩ := hp
   rw [List.length_map] at hL
   have hl6 : (l.map mbA).length = l.length := by simp
   cases l with
   | nil =>
     refine ⟨by simp,cloPl0,by kernel_rfl,?_⟩
     unfold Try.f31
     simp only [go_sem,zaa,Nat.reduceAdd,Nat.reduceSub,Nat.reduceMul,Int.reduceToNat,reduceCtorEq,↓reduceIte,Int.reducePow,Nat.reducePow,Int.reduceMod,Nat.reduceLeDiff,Int.reduceLE,Int.reduceNe,Int.reduceEq,Nat.reduceEqDiff,Nat.reduceLT,Nat.reduceBEq,List.map_cons,List.map_nil,List.toList_toArray,Array.toList_append,Option.toArray_some,Option.toArray_none,Bool.and_self,ty,noS,cloPl0,zgg,List.map_nil,List.length_nil,empP,cond_true]
     repeat (refine And.intro (by omega) ?_)
     intro b
     refine ⟨fun hb => ?_,fun hb => ?_⟩
     · refine ⟨_,zia 2 (.sg 3 [] true) (fun w loc v h => znu 3 h),?_⟩
       simp only [go_sem,zaa,Nat.reduceAdd,Nat.reduceSub,Nat.reduceMul,Int.reduceToNat,reduceCtorEq,↓reduceIte,Int.reducePow,Nat.reducePow,Int.reduceMod,Nat.reduceLeDiff,Int.reduceLE,Int.reduceNe,Int.reduceEq,Nat.reduceEqDiff,Nat.reduceLT,Nat.reduceBEq,List.map_cons,List.map_nil,List.toList_toArray,Array.toList_append,Option.toArray_some,Option.toArray_none,Bool.and_self,ty,noS,List.map_nil]
     · refine ⟨_,zia 2 (.sg 3 [] true) (fun w loc v h => znu 3 h),?_⟩
       simp only [go_sem,zaa,Nat.reduceAdd,Nat.reduceSub,Nat.reduceMul,Int.reduceToNat,reduceCtorEq,↓reduceIte,Int.reducePow,Nat.reducePow,Int.reduceMod,Nat.reduceLeDiff,Int.reduceLE,Int.reduceNe,Int.reduceEq,Nat.reduceEqDiff,Nat.reduceLT,Nat.reduceBEq,List.map_cons,List.map_nil,List.toList_toArray,Array.toList_append,Option.toArray_some,Option.toArray_none,Bool.and_self,ty,noS,List.map_nil]
   | cons c l =>
     refine ⟨by simp,cloPl,by kernel_rfl,?_⟩
     have hem : empP ((c :: l).map mbA) = false := rfl
     have hz : (c :: l).length ≠ 0 := by simp
     generalize hls : c :: l = ls at *
     have htop : ls.length ≤ top := by unfold top; omega
     have hcl := zad ls
     have hdle : decide (0 + ls.length ≤ (ls.map mbA).length) = true := decide_eq_true (by simp)
     have htk : (ls.map mbA).take ls.length = ls.map mbA := List.take_of_length_le (by simp)
     unfold Try.f31
     simp only [go_sem,zaa,Nat.reduceAdd,Nat.reduceSub,Nat.reduceMul,Int.reduceToNat,reduceCtorEq,↓reduceIte,Int.reducePow,Nat.reducePow,Int.reduceMod,Nat.reduceLeDiff,Int.reduceLE,Int.reduceNe,Int.reduceEq,Nat.reduceEqDiff,Nat.reduceLT,Nat.reduceBEq,List.map_cons,List.map_nil,List.toList_toArray,Array.toList_append,Option.toArray_some,Option.toArray_none,Bool.and_self,ty,noS,cloPl,zgg,hl6]
     repeat (refine And.intro (by omega) ?_)
     intro b hb
     obtain rfl : b = false := by cases b with | false => rfl | true => exact absurd (hb rfl) hz
     simp only [go_sem,zaa,Nat.reduceAdd,Nat.reduceSub,Nat.reduceMul,Int.reduceToNat,reduceCtorEq,↓reduceIte,Int.reducePow,Nat.reducePow,Int.reduceMod,Nat.reduceLeDiff,Int.reduceLE,Int.reduceNe,Int.reduceEq,Nat.reduceEqDiff,Nat.reduceLT,Nat.reduceBEq,List.map_cons,List.map_nil,List.toList_toArray,Array.toList_append,Option.toArray_some,Option.toArray_none,Bool.and_self,ty,noS,cloPl,zgg,hl6,hem,cond_false]
     refine ⟨htop,_,Weak.refl _,?_⟩
     simp only [go_sem,zaa,Nat.reduceAdd,Nat.reduceSub,Nat.reduceMul,Int.reduceToNat,reduceCtorEq,↓reduceIte,Int.reducePow,Nat.reducePow,Int.reduceMod,Nat.reduceLeDiff,Int.reduceLE,Int.reduceNe,Int.reduceEq,Nat.reduceEqDiff,Nat.reduceLT,Nat.reduceBEq,List.map_cons,List.map_nil,List.toList_toArray,Array.toList_append,Option.toArray_some,Option.toArray_none,Bool.and_self,ty,noS,hl6,hem,cond_false,hcl]
 · exact hp.elim
end
def ixP (id : FuncId) (v : List UInt8) : Mb → Bool := if id = 29 then isD v else zjp v
def ixGS : zar
 | [.sg 3 xs g,.fn id [.rf 0 1 0 0]],[.g 1 [.str v]] => ⟨(id = 29 ∨ id = 16) ∧ xs.length ≤ 9223372036854775807 ∧ (∃ l : List Mb,xs = l.map mbA),.w (.int .i64 (ixG (ixP id v) (xs.map umb))),[.g 1 [.str v]]⟩
 | [.ms 0 3 0 n,.fn id [.rf 1 1 0 0]],[.g 3 xs,.g 1 [.str v]] => ⟨(id = 29 ∨ id = 16) ∧ (n = xs.length ∧ 0 < n ∧ n ≤ 9223372036854775807) ∧ (∃ l : List Mb,xs = l.map mbA),.w (.int .i64 (ixG (ixP id v) (xs.map umb))),[.g 3 xs,.g 1 [.str v]]⟩
 | [.sg 3 xs g,.fn id []],[] => ⟨id = 35 ∧ xs.length ≤ 9223372036854775807 ∧ (∃ l : List Mb,xs = l.map mbA),.w (.int .i64 (ixG offY (xs.map umb))),[]⟩
 | _,_ => zbq
def zbm : zhx := fun id => match id with
 | 4 => .opn [] 5
 | _ => .std
def zhy (f : FuncId) : Option zar :=
 match f with
 | 29 => some plgS
 | 16 => some jngS
 | 35 => some asgS
 | _ => none
theorem Oix20_ok : FnsO Try.prog zhy := by
 intro f s h
 unfold zhy at h
 split at h
 · injection h with h; subst h; exact ⟨⟨_,Try.func29,by kernel_rfl,by kernel_rfl⟩,plg_sound⟩
 · injection h with h; subst h; exact ⟨⟨_,Try.func16,by kernel_rfl,by kernel_rfl⟩,jng_sound⟩
 · injection h with h; subst h; exact ⟨⟨_,Try.func35,by kernel_rfl,by kernel_rfl⟩,asg_sound⟩
 · cases h
section
set_option maxRecDepth 100000
set_option maxHeartbeats 8000000
theorem zpa : zdb Try.prog 15 ixGS := by
 refine zdf (S := noS) (SO := zhy) (T := ty) mixed ty_ok zcm Oix20_ok Try.func15 (c := Try.f15.body.getD .skip) (by kernel_rfl) (fun xs pins hp => ?_)
 unfold ixGS at hp ⊢
 split at hp
 · rename_i xs g id v
   obtain ⟨hid,hL,l,rfl⟩ := hp
   rw [List.length_map] at hL
   have hle : (l.map mbA).length = l.length := by simp
   have hcl := zad l
   rw [zap]
   unfold ixG
   rcases hid with rfl | rfl
   · have hP : ixP 29 v = isD v := if_pos rfl
     rw [hP]
     refine ⟨by simp,zbm,by kernel_rfl,?_⟩
     unfold Try.f15
     simp only [go_sem,zaa,Nat.reduceAdd,Nat.reduceSub,Nat.reduceMul,Int.reduceToNat,reduceCtorEq,↓reduceIte,Int.reducePow,Nat.reducePow,Int.reduceMod,Nat.reduceLeDiff,Int.reduceLE,Int.reduceNe,Int.reduceEq,Nat.reduceEqDiff,Nat.reduceLT,Nat.reduceBEq,List.map_cons,List.map_nil,List.toList_toArray,Array.toList_append,Option.toArray_some,Option.toArray_none,Bool.and_self,ty,noS,zhy,zbm,hle,hcl,Int.toNat_natCast]
     refine zdt ⟨fun m σ => ∃ i : Nat,m = l.length - i ∧ i ≤ l.length ∧ (l.drop i).findIdx (isD v) + i = l.findIdx (isD v) ∧
         σ = ⟨[.sg 3 (l.map mbA) g,.fn 29 [.rf 0 1 0 0],.junk,.junk,.junk,.junk,.sg 3 (l.map mbA) g,.w (.int .i64 l.length),.w (.int .i64 i),.junk,.junk,.junk,.junk,.junk,.junk,.junk,.junk,.junk,.junk],[(0,.g 1 [.str v])],4⟩,?_,?_⟩
     · refine ⟨_,_,zal [0,1,2,3] rfl rfl rfl ?_ ?_,0,rfl,by omega,by rw [List.drop_zero]; rfl,rfl⟩
       · simp only [ssT,zau,zav,setSlot,gOf,AV.ren,renL,Blk.ren,Ax.look,Ax.put,reduceCtorEq,↓reduceIte,Nat.reduceEqDiff,Nat.reduceLT,Nat.reduceAdd,List.length_append,List.length_cons,List.length_nil,Option.some.injEq,zak]; try simp
       · simp only [ssT,zau,zav,setSlot,gOf,AV.ren,renL,Blk.ren,Ax.look,Ax.put,reduceCtorEq,↓reduceIte,Nat.reduceEqDiff,Nat.reduceLT,Nat.reduceAdd,List.length_append,List.length_cons,List.length_nil,Option.some.injEq,zak]; try simp
     · rintro m σ ⟨i,rfl,hi,hinv,rfl⟩
       by_cases hil : i < l.length
       · have e1 : ((i : Int) + 1 + 9223372036854775808) % 18446744073709551616 - 9223372036854775808 = ((i + 1 : Nat) : Int) := by omega
         have d1x : decide ((i : Int) < l.length) = true := decide_eq_true (by omega)
         have hs1 := zeh l i hil
         cases hv : (isD v) l[i] with
         | true =>
           have hfi := zpg _ l i hil hv hinv
           rw [hfi,if_pos hil]
           obtain ⟨r,hr1⟩ : ∃ r,l[i] = r := ⟨_,rfl⟩
           rw [hr1] at hs1 hv
           obtain ⟨d1,t1,y1⟩ := r
           have hs1 : slot (l.map mbA) i = .agg [.str d1,.w (.int .i64 t1),.w (.bool y1)] := hs1
           have hv : decide (d1 = v) = _ := hv
           simp only [go_sem,zaa,Nat.reduceAdd,Nat.reduceSub,Nat.reduceMul,Int.reduceToNat,reduceCtorEq,↓reduceIte,Int.reducePow,Nat.reducePow,Int.reduceMod,Nat.reduceLeDiff,Int.reduceLE,Int.reduceNe,Int.reduceEq,Nat.reduceEqDiff,Nat.reduceLT,Nat.reduceBEq,List.map_cons,List.map_nil,List.toList_toArray,Array.toList_append,Option.toArray_some,Option.toArray_none,Bool.and_self,ty,noS,zhy,zbm,plgS,hle,hcl,d1x,hs1,hv,Int.toNat_natCast,Bool.not_true,Bool.not_false]
           repeat (refine And.intro (by omega) ?_)
           refine ⟨_,Weak.refl _,?_⟩
           simp only [go_sem,zaa,Nat.reduceAdd,Nat.reduceSub,Nat.reduceMul,Int.reduceToNat,reduceCtorEq,↓reduceIte,Int.reducePow,Nat.reducePow,Int.reduceMod,Nat.reduceLeDiff,Int.reduceLE,Int.reduceNe,Int.reduceEq,Nat.reduceEqDiff,Nat.reduceLT,Nat.reduceBEq,List.map_cons,List.map_nil,List.toList_toArray,Array.toList_append,Option.toArray_some,Option.toArray_none,Bool.and_self,ty,noS,zbm,hcl,hle,cond_true]
           try (refine ⟨_,Weak.refl _,?_⟩)
           try simp only [go_sem,zaa,Nat.reduceAdd,Nat.reduceSub,Nat.reduceMul,Int.reduceToNat,reduceCtorEq,↓reduceIte,Int.reducePow,Nat.reducePow,Int.reduceMod,Nat.reduceLeDiff,Int.reduceLE,Int.reduceNe,Int.reduceEq,Nat.reduceEqDiff,Nat.reduceLT,Nat.reduceBEq,List.map_cons,List.map_nil,List.toList_toArray,Array.toList_append,Option.toArray_some,Option.toArray_none,Bool.and_self,ty,noS,zbm,hcl,hle,cond_true]
         | false =>
           have hfi := zis _ l i hil hv hinv
           obtain ⟨r,hr1⟩ : ∃ r,l[i] = r := ⟨_,rfl⟩
           rw [hr1] at hs1 hv
           obtain ⟨d1,t1,y1⟩ := r
           have hs1 : slot (l.map mbA) i = .agg [.str d1,.w (.int .i64 t1),.w (.bool y1)] := hs1
           have hv : decide (d1 = v) = _ := hv
           simp only [go_sem,zaa,Nat.reduceAdd,Nat.reduceSub,Nat.reduceMul,Int.reduceToNat,reduceCtorEq,↓reduceIte,Int.reducePow,Nat.reducePow,Int.reduceMod,Nat.reduceLeDiff,Int.reduceLE,Int.reduceNe,Int.reduceEq,Nat.reduceEqDiff,Nat.reduceLT,Nat.reduceBEq,List.map_cons,List.map_nil,List.toList_toArray,Array.toList_append,Option.toArray_some,Option.toArray_none,Bool.and_self,ty,noS,zhy,zbm,plgS,hle,hcl,d1x,hs1,hv,e1,Int.toNat_natCast,Bool.not_true,Bool.not_false]
           repeat (refine And.intro (by omega) ?_)
           refine ⟨l.length - (i + 1),_,by omega,zal [0,1,2,3] rfl rfl rfl ?_ ?_,i + 1,rfl,by omega,hfi,rfl⟩
           · simp only [ssT,zau,zav,setSlot,gOf,AV.ren,renL,Blk.ren,Ax.look,Ax.put,reduceCtorEq,↓reduceIte,Nat.reduceEqDiff,Nat.reduceLT,Nat.reduceAdd,List.length_append,List.length_cons,List.length_nil,Option.some.injEq,zak]; try simp
           · simp only [ssT,zau,zav,setSlot,gOf,AV.ren,renL,Blk.ren,Ax.look,Ax.put,reduceCtorEq,↓reduceIte,Nat.reduceEqDiff,Nat.reduceLT,Nat.reduceAdd,List.length_append,List.length_cons,List.length_nil,Option.some.injEq,zak]; try simp
       · have d1x : decide ((i : Int) < l.length) = false := decide_eq_false (by omega)
         have hfi := zlu _ l i (by omega) hi hinv
         rw [hfi,if_neg (Nat.lt_irrefl _)]
         simp only [go_sem,zaa,Nat.reduceAdd,Nat.reduceSub,Nat.reduceMul,Int.reduceToNat,reduceCtorEq,↓reduceIte,Int.reducePow,Nat.reducePow,Int.reduceMod,Nat.reduceLeDiff,Int.reduceLE,Int.reduceNe,Int.reduceEq,Nat.reduceEqDiff,Nat.reduceLT,Nat.reduceBEq,List.map_cons,List.map_nil,List.toList_toArray,Array.toList_append,Option.toArray_some,Option.toArray_none,Bool.and_self,ty,noS,zbm,hle,hcl,d1x]
         refine ⟨_,Weak.refl _,?_⟩
         simp only [go_sem,zaa,Nat.reduceAdd,Nat.reduceSub,Nat.reduceMul,Int.reduceToNat,reduceCtorEq,↓reduceIte,Int.reducePow,Nat.reducePow,Int.reduceMod,Nat.reduceLeDiff,Int.reduceLE,Int.reduceNe,Int.reduceEq,Nat.reduceEqDiff,Nat.reduceLT,Nat.reduceBEq,List.map_cons,List.map_nil,List.toList_toArray,Array.toList_append,Option.toArray_some,Option.toArray_none,Bool.and_self,ty,noS,zbm,hcl,hle,cond_true]
         try (refine ⟨_,Weak.refl _,?_⟩)
         try simp only [go_sem,zaa,Nat.reduceAdd,Nat.reduceSub,Nat.reduceMul,Int.reduceToNat,reduceCtorEq,↓reduceIte,Int.reducePow,Nat.reducePow,Int.reduceMod,Nat.reduceLeDiff,Int.reduceLE,Int.reduceNe,Int.reduceEq,Nat.reduceEqDiff,Nat.reduceLT,Nat.reduceBEq,List.map_cons,List.map_nil,List.toList_toArray,Array.toList_append,Option.toArray_some,Option.toArray_none,Bool.and_self,ty,noS,zbm,hcl,hle,cond_true]
   · have hP : ixP 16 v = zjp v := if_neg (by decide)
     rw [hP]
     refine ⟨by simp,zbm,by kernel_rfl,?_⟩
     unfold Try.f15
     simp only [go_sem,zaa,Nat.reduceAdd,Nat.reduceSub,Nat.reduceMul,Int.reduceToNat,reduceCtorEq,↓reduceIte,Int.reducePow,Nat.reducePow,Int.reduceMod,Nat.reduceLeDiff,Int.reduceLE,Int.reduceNe,Int.reduceEq,Nat.reduceEqDiff,Nat.reduceLT,Nat.reduceBEq,List.map_cons,List.map_nil,List.toList_toArray,Array.toList_append,Option.toArray_some,Option.toArray_none,Bool.and_self,ty,noS,zhy,zbm,hle,hcl,Int.toNat_natCast]
     refine zdt ⟨fun m σ => ∃ i : Nat,m = l.length - i ∧ i ≤ l.length ∧ (l.drop i).findIdx (zjp v) + i = l.findIdx (zjp v) ∧
         σ = ⟨[.sg 3 (l.map mbA) g,.fn 16 [.rf 0 1 0 0],.junk,.junk,.junk,.junk,.sg 3 (l.map mbA) g,.w (.int .i64 l.length),.w (.int .i64 i),.junk,.junk,.junk,.junk,.junk,.junk,.junk,.junk,.junk,.junk],[(0,.g 1 [.str v])],4⟩,?_,?_⟩
     · refine ⟨_,_,zal [0,1,2,3] rfl rfl rfl ?_ ?_,0,rfl,by omega,by rw [List.drop_zero]; rfl,rfl⟩
       · simp only [ssT,zau,zav,setSlot,gOf,AV.ren,renL,Blk.ren,Ax.look,Ax.put,reduceCtorEq,↓reduceIte,Nat.reduceEqDiff,Nat.reduceLT,Nat.reduceAdd,List.length_append,List.length_cons,List.length_nil,Option.some.injEq,zak]; try simp
       · simp only [ssT,zau,zav,setSlot,gOf,AV.ren,renL,Blk.ren,Ax.look,Ax.put,reduceCtorEq,↓reduceIte,Nat.reduceEqDiff,Nat.reduceLT,Nat.reduceAdd,List.length_append,List.length_cons,List.length_nil,Option.some.injEq,zak]; try simp
     · rintro m σ ⟨i,rfl,hi,hinv,rfl⟩
       by_cases hil : i < l.length
       · have e1 : ((i : Int) + 1 + 9223372036854775808) % 18446744073709551616 - 9223372036854775808 = ((i + 1 : Nat) : Int) := by omega
         have d1x : decide ((i : Int) < l.length) = true := decide_eq_true (by omega)
         have hs1 := zeh l i hil
         cases hv : (zjp v) l[i] with
         | true =>
           have hfi := zpg _ l i hil hv hinv
           rw [hfi,if_pos hil]
           obtain ⟨r,hr1⟩ : ∃ r,l[i] = r := ⟨_,rfl⟩
           rw [hr1] at hs1 hv
           obtain ⟨d1,t1,y1⟩ := r
           have hs1 : slot (l.map mbA) i = .agg [.str d1,.w (.int .i64 t1),.w (.bool y1)] := hs1
           have hv : (!(leD d1 v)) = _ := hv
           simp only [go_sem,zaa,Nat.reduceAdd,Nat.reduceSub,Nat.reduceMul,Int.reduceToNat,reduceCtorEq,↓reduceIte,Int.reducePow,Nat.reducePow,Int.reduceMod,Nat.reduceLeDiff,Int.reduceLE,Int.reduceNe,Int.reduceEq,Nat.reduceEqDiff,Nat.reduceLT,Nat.reduceBEq,List.map_cons,List.map_nil,List.toList_toArray,Array.toList_append,Option.toArray_some,Option.toArray_none,Bool.and_self,ty,noS,zhy,zbm,jngS,hle,hcl,d1x,hs1,hv,Int.toNat_natCast,Bool.not_true,Bool.not_false]
           repeat (refine And.intro (by omega) ?_)
           refine ⟨_,Weak.refl _,?_⟩
           simp only [go_sem,zaa,Nat.reduceAdd,Nat.reduceSub,Nat.reduceMul,Int.reduceToNat,reduceCtorEq,↓reduceIte,Int.reducePow,Nat.reducePow,Int.reduceMod,Nat.reduceLeDiff,Int.reduceLE,Int.reduceNe,Int.reduceEq,Nat.reduceEqDiff,Nat.reduceLT,Nat.reduceBEq,List.map_cons,List.map_nil,List.toList_toArray,Array.toList_append,Option.toArray_some,Option.toArray_none,Bool.and_self,ty,noS,zbm,hcl,hle,cond_true]
           try (refine ⟨_,Weak.refl _,?_⟩)
           try simp only [go_sem,zaa,Nat.reduceAdd,Nat.reduceSub,Nat.reduceMul,Int.reduceToNat,reduceCtorEq,↓reduceIte,Int.reducePow,Nat.reducePow,Int.reduceMod,Nat.reduceLeDiff,Int.reduceLE,Int.reduceNe,Int.reduceEq,Nat.reduceEqDiff,Nat.reduceLT,Nat.reduceBEq,List.map_cons,List.map_nil,List.toList_toArray,Array.toList_append,Option.toArray_some,Option.toArray_none,Bool.and_self,ty,noS,zbm,hcl,hle,cond_true]
         | false =>
           have hfi := zis _ l i hil hv hinv
           obtain ⟨r,hr1⟩ : ∃ r,l[i] = r := ⟨_,rfl⟩
           rw [hr1] at hs1 hv
           obtain ⟨d1,t1,y1⟩ := r
           have hs1 : slot (l.map mbA) i = .agg [.str d1,.w (.int .i64 t1),.w (.bool y1)] := hs1
           have hv : (!(leD d1 v)) = _ := hv
           simp only [go_sem,zaa,Nat.reduceAdd,Nat.reduceSub,Nat.reduceMul,Int.reduceToNat,reduceCtorEq,↓reduceIte,Int.reducePow,Nat.reducePow,Int.reduceMod,Nat.reduceLeDiff,Int.reduceLE,Int.reduceNe,Int.reduceEq,Nat.reduceEqDiff,Nat.reduceLT,Nat.reduceBEq,List.map_cons,List.map_nil,List.toList_toArray,Array.toList_append,Option.toArray_some,Option.toArray_none,Bool.and_self,ty,noS,zhy,zbm,jngS,hle,hcl,d1x,hs1,hv,e1,Int.toNat_natCast,Bool.not_true,Bool.not_false]
           repeat (refine And.intro (by omega) ?_)
           refine ⟨l.length - (i + 1),_,by omega,zal [0,1,2,3] rfl rfl rfl ?_ ?_,i + 1,rfl,by omega,hfi,rfl⟩
           · simp only [ssT,zau,zav,setSlot,gOf,AV.ren,renL,Blk.ren,Ax.look,Ax.put,reduceCtorEq,↓reduceIte,Nat.reduceEqDiff,Nat.reduceLT,Nat.reduceAdd,List.length_append,List.length_cons,List.length_nil,Option.some.injEq,zak]; try simp
           · simp only [ssT,zau,zav,setSlot,gOf,AV.ren,renL,Blk.ren,Ax.look,Ax.put,reduceCtorEq,↓reduceIte,Nat.reduceEqDiff,Nat.reduceLT,Nat.reduceAdd,List.length_append,List.length_cons,List.length_nil,Option.some.injEq,zak]; try simp
       · have d1x : decide ((i : Int) < l.length) = false := decide_eq_false (by omega)
         have hfi := zlu _ l i (by omega) hi hinv
         rw [hfi,if_neg (Nat.lt_irrefl _)]
         simp only [go_sem,zaa,Nat.reduceAdd,Nat.reduceSub,Nat.reduceMul,Int.reduceToNat,reduceCtorEq,↓reduceIte,Int.reducePow,Nat.reducePow,Int.reduceMod,Nat.reduceLeDiff,Int.reduceLE,Int.reduceNe,Int.reduceEq,Nat.reduceEqDiff,Nat.reduceLT,Nat.reduceBEq,List.map_cons,List.map_nil,List.toList_toArray,Array.toList_append,Option.toArray_some,Option.toArray_none,Bool.and_self,ty,noS,zbm,hle,hcl,d1x]
         refine ⟨_,Weak.refl _,?_⟩
         simp only [go_sem,zaa,Nat.reduceAdd,Nat.reduceSub,Nat.reduceMul,Int.reduceToNat,reduceCtorEq,↓reduceIte,Int.reducePow,Nat.reducePow,Int.reduceMod,Nat.reduceLeDiff,Int.reduceLE,Int.reduceNe,Int.reduceEq,Nat.reduceEqDiff,Nat.reduceLT,Nat.reduceBEq,List.map_cons,List.map_nil,List.toList_toArray,Array.toList_append,Option.toArray_some,Option.toArray_none,Bool.and_self,ty,noS,zbm,hcl,hle,cond_true]
         try (refine ⟨_,Weak.refl _,?_⟩)
         try simp only [go_sem,zaa,Nat.reduceAdd,Nat.reduceSub,Nat.reduceMul,Int.reduceToNat,reduceCtorEq,↓reduceIte,Int.reducePow,Nat.reducePow,Int.reduceMod,Nat.reduceLeDiff,Int.reduceLE,Int.reduceNe,Int.reduceEq,Nat.reduceEqDiff,Nat.reduceLT,Nat.reduceBEq,List.map_cons,List.map_nil,List.toList_toArray,Array.toList_append,Option.toArray_some,Option.toArray_none,Bool.and_self,ty,noS,zbm,hcl,hle,cond_true]
 · rename_i n id xs v
   obtain ⟨hid,⟨rfl,h0,hL⟩,l,rfl⟩ := hp
   rw [List.length_map] at h0 hL
   have hle : (l.map mbA).length = l.length := by simp
   have hcl := zad l
   rw [zap]
   unfold ixG
   rcases hid with rfl | rfl
   · have hP : ixP 29 v = isD v := if_pos rfl
     rw [hP]
     refine ⟨by simp,zbm,by kernel_rfl,?_⟩
     unfold Try.f15
     simp only [go_sem,zaa,Nat.reduceAdd,Nat.reduceSub,Nat.reduceMul,Int.reduceToNat,reduceCtorEq,↓reduceIte,Int.reducePow,Nat.reducePow,Int.reduceMod,Nat.reduceLeDiff,Int.reduceLE,Int.reduceNe,Int.reduceEq,Nat.reduceEqDiff,Nat.reduceLT,Nat.reduceBEq,List.map_cons,List.map_nil,List.toList_toArray,Array.toList_append,Option.toArray_some,Option.toArray_none,Bool.and_self,ty,noS,zhy,zbm,hle,hcl,Int.toNat_natCast]
     refine zdt ⟨fun m σ => ∃ i : Nat,m = l.length - i ∧ i ≤ l.length ∧ (l.drop i).findIdx (isD v) + i = l.findIdx (isD v) ∧
         σ = ⟨[.ms 0 3 0 l.length,.fn 29 [.rf 1 1 0 0],.junk,.junk,.junk,.junk,.ms 0 3 0 l.length,.w (.int .i64 l.length),.w (.int .i64 i),.junk,.junk,.junk,.junk,.junk,.junk,.junk,.junk,.junk,.junk],[(0,.g 3 (l.map mbA)),(1,.g 1 [.str v])],4⟩,?_,?_⟩
     · refine ⟨_,_,zal [0,1,2,3] rfl rfl rfl ?_ ?_,0,rfl,by omega,by rw [List.drop_zero]; rfl,rfl⟩
       · simp only [ssT,zau,zav,setSlot,gOf,AV.ren,renL,Blk.ren,Ax.look,Ax.put,reduceCtorEq,↓reduceIte,Nat.reduceEqDiff,Nat.reduceLT,Nat.reduceAdd,List.length_append,List.length_cons,List.length_nil,Option.some.injEq,zak]; try simp
       · simp only [ssT,zau,zav,setSlot,gOf,AV.ren,renL,Blk.ren,Ax.look,Ax.put,reduceCtorEq,↓reduceIte,Nat.reduceEqDiff,Nat.reduceLT,Nat.reduceAdd,List.length_append,List.length_cons,List.length_nil,Option.some.injEq,zak]; try simp
     · rintro m σ ⟨i,rfl,hi,hinv,rfl⟩
       by_cases hil : i < l.length
       · have e1 : ((i : Int) + 1 + 9223372036854775808) % 18446744073709551616 - 9223372036854775808 = ((i + 1 : Nat) : Int) := by omega
         have d1x : decide ((i : Int) < l.length) = true := decide_eq_true (by omega)
         have hs1 := zeh l i hil
         cases hv : (isD v) l[i] with
         | true =>
           have hfi := zpg _ l i hil hv hinv
           rw [hfi,if_pos hil]
           obtain ⟨r,hr1⟩ : ∃ r,l[i] = r := ⟨_,rfl⟩
           rw [hr1] at hs1 hv
           obtain ⟨d1,t1,y1⟩ := r
           have hs1 : slot (l.map mbA) i = .agg [.str d1,.w (.int .i64 t1),.w (.bool y1)] := hs1
           have hv : decide (d1 = v) = _ := hv
           simp only [go_sem,zaa,Nat.reduceAdd,Nat.reduceSub,Nat.reduceMul,Int.reduceToNat,reduceCtorEq,↓reduceIte,Int.reducePow,Nat.reducePow,Int.reduceMod,Nat.reduceLeDiff,Int.reduceLE,Int.reduceNe,Int.reduceEq,Nat.reduceEqDiff,Nat.reduceLT,Nat.reduceBEq,List.map_cons,List.map_nil,List.toList_toArray,Array.toList_append,Option.toArray_some,Option.toArray_none,Bool.and_self,ty,noS,zhy,zbm,plgS,hle,hcl,d1x,hs1,hv,Int.toNat_natCast,Bool.not_true,Bool.not_false]
           repeat (refine And.intro (by omega) ?_)
           refine ⟨_,Weak.refl _,?_⟩
           simp only [go_sem,zaa,Nat.reduceAdd,Nat.reduceSub,Nat.reduceMul,Int.reduceToNat,reduceCtorEq,↓reduceIte,Int.reducePow,Nat.reducePow,Int.reduceMod,Nat.reduceLeDiff,Int.reduceLE,Int.reduceNe,Int.reduceEq,Nat.reduceEqDiff,Nat.reduceLT,Nat.reduceBEq,List.map_cons,List.map_nil,List.toList_toArray,Array.toList_append,Option.toArray_some,Option.toArray_none,Bool.and_self,ty,noS,zbm,hcl,hle,cond_true]
           try (refine ⟨_,Weak.refl _,?_⟩)
           try simp only [go_sem,zaa,Nat.reduceAdd,Nat.reduceSub,Nat.reduceMul,Int.reduceToNat,reduceCtorEq,↓reduceIte,Int.reducePow,Nat.reducePow,Int.reduceMod,Nat.reduceLeDiff,Int.reduceLE,Int.reduceNe,Int.reduceEq,Nat.reduceEqDiff,Nat.reduceLT,Nat.reduceBEq,List.map_cons,List.map_nil,List.toList_toArray,Array.toList_append,Option.toArray_some,Option.toArray_none,Bool.and_self,ty,noS,zbm,hcl,hle,cond_true]
         | false =>
           have hfi := zis _ l i hil hv hinv
           obtain ⟨r,hr1⟩ : ∃ r,l[i] = r := ⟨_,rfl⟩
           rw [hr1] at hs1 hv
           obtain ⟨d1,t1,y1⟩ := r
           have hs1 : slot (l.map mbA) i = .agg [.str d1,.w (.int .i64 t1),.w (.bool y1)] := hs1
           have hv : decide (d1 = v) = _ := hv
           simp only [go_sem,zaa,Nat.reduceAdd,Nat.reduceSub,Nat.reduceMul,Int.reduceToNat,reduceCtorEq,↓reduceIte,Int.reducePow,Nat.reducePow,Int.reduceMod,Nat.reduceLeDiff,Int.reduceLE,Int.reduceNe,Int.reduceEq,Nat.reduceEqDiff,Nat.reduceLT,Nat.reduceBEq,List.map_cons,List.map_nil,List.toList_toArray,Array.toList_append,Option.toArray_some,Option.toArray_none,Bool.and_self,ty,noS,zhy,zbm,plgS,hle,hcl,d1x,hs1,hv,e1,Int.toNat_natCast,Bool.not_true,Bool.not_false]
           repeat (refine And.intro (by omega) ?_)
           refine ⟨l.length - (i + 1),_,by omega,zal [0,1,2,3] rfl rfl rfl ?_ ?_,i + 1,rfl,by omega,hfi,rfl⟩
           · simp only [ssT,zau,zav,setSlot,gOf,AV.ren,renL,Blk.ren,Ax.look,Ax.put,reduceCtorEq,↓reduceIte,Nat.reduceEqDiff,Nat.reduceLT,Nat.reduceAdd,List.length_append,List.length_cons,List.length_nil,Option.some.injEq,zak]; try simp
           · simp only [ssT,zau,zav,setSlot,gOf,AV.ren,renL,Blk.ren,Ax.look,Ax.put,reduceCtorEq,↓reduceIte,Nat.reduceEqDiff,Nat.reduceLT,Nat.reduceAdd,List.length_append,List.length_cons,List.length_nil,Option.some.injEq,zak]; try simp
       · have d1x : decide ((i : Int) < l.length) = false := decide_eq_false (by omega)
         have hfi := zlu _ l i (by omega) hi hinv
         rw [hfi,if_neg (Nat.lt_irrefl _)]
         simp only [go_sem,zaa,Nat.reduceAdd,Nat.reduceSub,Nat.reduceMul,Int.reduceToNat,reduceCtorEq,↓reduceIte,Int.reducePow,Nat.reducePow,Int.reduceMod,Nat.reduceLeDiff,Int.reduceLE,Int.reduceNe,Int.reduceEq,Nat.reduceEqDiff,Nat.reduceLT,Nat.reduceBEq,List.map_cons,List.map_nil,List.toList_toArray,Array.toList_append,Option.toArray_some,Option.toArray_none,Bool.and_self,ty,noS,zbm,hle,hcl,d1x]
         refine ⟨_,Weak.refl _,?_⟩
         simp only [go_sem,zaa,Nat.reduceAdd,Nat.reduceSub,Nat.reduceMul,Int.reduceToNat,reduceCtorEq,↓reduceIte,Int.reducePow,Nat.reducePow,Int.reduceMod,Nat.reduceLeDiff,Int.reduceLE,Int.reduceNe,Int.reduceEq,Nat.reduceEqDiff,Nat.reduceLT,Nat.reduceBEq,List.map_cons,List.map_nil,List.toList_toArray,Array.toList_append,Option.toArray_some,Option.toArray_none,Bool.and_self,ty,noS,zbm,hcl,hle,cond_true]
         try (refine ⟨_,Weak.refl _,?_⟩)
         try simp only [go_sem,zaa,Nat.reduceAdd,Nat.reduceSub,Nat.reduceMul,Int.reduceToNat,reduceCtorEq,↓reduceIte,Int.reducePow,Nat.reducePow,Int.reduceMod,Nat.reduceLeDiff,Int.reduceLE,Int.reduceNe,Int.reduceEq,Nat.reduceEqDiff,Nat.reduceLT,Nat.reduceBEq,List.map_cons,List.map_nil,List.toList_toArray,Array.toList_append,Option.toArray_some,Option.toArray_none,Bool.and_self,ty,noS,zbm,hcl,hle,cond_true]
   · have hP : ixP 16 v = zjp v := if_neg (by decide)
     rw [hP]
     refine ⟨by simp,zbm,by kernel_rfl,?_⟩
     unfold Try.f15
     simp only [go_sem,zaa,Nat.reduceAdd,Nat.reduceSub,Nat.reduceMul,Int.reduceToNat,reduceCtorEq,↓reduceIte,Int.reducePow,Nat.reducePow,Int.reduceMod,Nat.reduceLeDiff,Int.reduceLE,Int.reduceNe,Int.reduceEq,Nat.reduceEqDiff,Nat.reduceLT,Nat.reduceBEq,List.map_cons,List.map_nil,List.toList_toArray,Array.toList_append,Option.toArray_some,Option.toArray_none,Bool.and_self,ty,noS,zhy,zbm,hle,hcl,Int.toNat_natCast]
     refine zdt ⟨fun m σ => ∃ i : Nat,m = l.length - i ∧ i ≤ l.length ∧ (l.drop i).findIdx (zjp v) + i = l.findIdx (zjp v) ∧
         σ = ⟨[.ms 0 3 0 l.length,.fn 16 [.rf 1 1 0 0],.junk,.junk,.junk,.junk,.ms 0 3 0 l.length,.w (.int .i64 l.length),.w (.int .i64 i),.junk,.junk,.junk,.junk,.junk,.junk,.junk,.junk,.junk,.junk],[(0,.g 3 (l.map mbA)),(1,.g 1 [.str v])],4⟩,?_,?_⟩
     · refine ⟨_,_,zal [0,1,2,3] rfl rfl rfl ?_ ?_,0,rfl,by omega,by rw [List.drop_zero]; rfl,rfl⟩
       · simp only [ssT,zau,zav,setSlot,gOf,AV.ren,renL,Blk.ren,Ax.look,Ax.put,reduceCtorEq,↓reduceIte,Nat.reduceEqDiff,Nat.reduceLT,Nat.reduceAdd,List.length_append,List.length_cons,List.length_nil,Option.some.injEq,zak]; try simp
       · simp only [ssT,zau,zav,setSlot,gOf,AV.ren,renL,Blk.ren,Ax.look,Ax.put,reduceCtorEq,↓reduceIte,Nat.reduceEqDiff,Nat.reduceLT,Nat.reduceAdd,List.length_append,List.length_cons,List.length_nil,Option.some.injEq,zak]; try simp
     · rintro m σ ⟨i,rfl,hi,hinv,rfl⟩
       by_cases hil : i < l.length
       · have e1 : ((i : Int) + 1 + 9223372036854775808) % 18446744073709551616 - 9223372036854775808 = ((i + 1 : Nat) : Int) := by omega
         have d1x : decide ((i : Int) < l.length) = true := decide_eq_true (by omega)
         have hs1 := zeh l i hil
         cases hv : (zjp v) l[i] with
         | true =>
           have hfi := zpg _ l i hil hv hinv
           rw [hfi,if_pos hil]
           obtain ⟨r,hr1⟩ : ∃ r,l[i] = r := ⟨_,rfl⟩
           rw [hr1] at hs1 hv
           obtain ⟨d1,t1,y1⟩ := r
           have hs1 : slot (l.map mbA) i = .agg [.str d1,.w (.int .i64 t1),.w (.bool y1)] := hs1
           have hv : (!(leD d1 v)) = _ := hv
           simp only [go_sem,zaa,Nat.reduceAdd,Nat.reduceSub,Nat.reduceMul,Int.reduceToNat,reduceCtorEq,↓reduceIte,Int.reducePow,Nat.reducePow,Int.reduceMod,Nat.reduceLeDiff,Int.reduceLE,Int.reduceNe,Int.reduceEq,Nat.reduceEqDiff,Nat.reduceLT,Nat.reduceBEq,List.map_cons,List.map_nil,List.toList_toArray,Array.toList_append,Option.toArray_some,Option.toArray_none,Bool.and_self,ty,noS,zhy,zbm,jngS,hle,hcl,d1x,hs1,hv,Int.toNat_natCast,Bool.not_true,Bool.not_false]
           repeat (refine And.intro (by omega) ?_)
           refine ⟨_,Weak.refl _,?_⟩
           simp only [go_sem,zaa,Nat.reduceAdd,Nat.reduceSub,Nat.reduceMul,Int.reduceToNat,reduceCtorEq,↓reduceIte,Int.reducePow,Nat.reducePow,Int.reduceMod,Nat.reduceLeDiff,Int.reduceLE,Int.reduceNe,Int.reduceEq,Nat.reduceEqDiff,Nat.reduceLT,Nat.reduceBEq,List.map_cons,List.map_nil,List.toList_toArray,Array.toList_append,Option.toArray_some,Option.toArray_none,Bool.and_self,ty,noS,zbm,hcl,hle,cond_true]
           try (refine ⟨_,Weak.refl _,?_⟩)
           try simp only [go_sem,zaa,Nat.reduceAdd,Nat.reduceSub,Nat.reduceMul,Int.reduceToNat,reduceCtorEq,↓reduceIte,Int.reducePow,Nat.reducePow,Int.reduceMod,Nat.reduceLeDiff,Int.reduceLE,Int.reduceNe,Int.reduceEq,Nat.reduceEqDiff,Nat.reduceLT,Nat.reduceBEq,List.map_cons,List.map_nil,List.toList_toArray,Array.toList_append,Option.toArray_some,Option.toArray_none,Bool.and_self,ty,noS,zbm,hcl,hle,cond_true]
         | false =>
           have hfi := zis _ l i hil hv hinv
           obtain ⟨r,hr1⟩ : ∃ r,l[i] = r := ⟨_,rfl⟩
           rw [hr1] at hs1 hv
           obtain ⟨d1,t1,y1⟩ := r
           have hs1 : slot (l.map mbA) i = .agg [.str d1,.w (.int .i64 t1),.w (.bool y1)] := hs1
           have hv : (!(leD d1 v)) = _ := hv
           simp only [go_sem,zaa,Nat.reduceAdd,Nat.reduceSub,Nat.reduceMul,Int.reduceToNat,reduceCtorEq,↓reduceIte,Int.reducePow,Nat.reducePow,Int.reduceMod,Nat.reduceLeDiff,Int.reduceLE,Int.reduceNe,Int.reduceEq,Nat.reduceEqDiff,Nat.reduceLT,Nat.reduceBEq,List.map_cons,List.map_nil,List.toList_toArray,Array.toList_append,Option.toArray_some,Option.toArray_none,Bool.and_self,ty,noS,zhy,zbm,jngS,hle,hcl,d1x,hs1,hv,e1,Int.toNat_natCast,Bool.not_true,Bool.not_false]
           repeat (refine And.intro (by omega) ?_)
           refine ⟨l.length - (i + 1),_,by omega,zal [0,1,2,3] rfl rfl rfl ?_ ?_,i + 1,rfl,by omega,hfi,rfl⟩
           · simp only [ssT,zau,zav,setSlot,gOf,AV.ren,renL,Blk.ren,Ax.look,Ax.put,reduceCtorEq,↓reduceIte,Nat.reduceEqDiff,Nat.reduceLT,Nat.reduceAdd,List.length_append,List.length_cons,List.length_nil,Option.some.injEq,zak]; try simp
           · simp only [ssT,zau,zav,setSlot,gOf,AV.ren,renL,Blk.ren,Ax.look,Ax.put,reduceCtorEq,↓reduceIte,Nat.reduceEqDiff,Nat.reduceLT,Nat.reduceAdd,List.length_append,List.length_cons,List.length_nil,Option.some.injEq,zak]; try simp
       · have d1x : decide ((i : Int) < l.length) = false := decide_eq_false (by omega)
         have hfi := zlu _ l i (by omega) hi hinv
         rw [hfi,if_neg (Nat.lt_irrefl _)]
         simp only [go_sem,zaa,Nat.reduceAdd,Nat.reduceSub,Nat.reduceMul,Int.reduceToNat,reduceCtorEq,↓reduceIte,Int.reducePow,Nat.reducePow,Int.reduceMod,Nat.reduceLeDiff,Int.reduceLE,Int.reduceNe,Int.reduceEq,Nat.reduceEqDiff,Nat.reduceLT,Nat.reduceBEq,List.map_cons,List.map_nil,List.toList_toArray,Array.toList_append,Option.toArray_some,Option.toArray_none,Bool.and_self,ty,noS,zbm,hle,hcl,d1x]
         refine ⟨_,Weak.refl _,?_⟩
         simp only [go_sem,zaa,Nat.reduceAdd,Nat.reduceSub,Nat.reduceMul,Int.reduceToNat,reduceCtorEq,↓reduceIte,Int.reducePow,Nat.reducePow,Int.reduceMod,Nat.reduceLeDiff,Int.reduceLE,Int.reduceNe,Int.reduceEq,Nat.reduceEqDiff,Nat.reduceLT,Nat.reduceBEq,List.map_cons,List.map_nil,List.toList_toArray,Array.toList_append,Option.toArray_some,Option.toArray_none,Bool.and_self,ty,noS,zbm,hcl,hle,cond_true]
         try (refine ⟨_,Weak.refl _,?_⟩)
         try simp only [go_sem,zaa,Nat.reduceAdd,Nat.reduceSub,Nat.reduceMul,Int.reduceToNat,reduceCtorEq,↓reduceIte,Int.reducePow,Nat.reducePow,Int.reduceMod,Nat.reduceLeDiff,Int.reduceLE,Int.reduceNe,Int.reduceEq,Nat.reduceEqDiff,Nat.reduceLT,Nat.reduceBEq,List.map_cons,List.map_nil,List.toList_toArray,Array.toList_append,Option.toArray_some,Option.toArray_none,Bool.and_self,ty,noS,zbm,hcl,hle,cond_true]
 · rename_i xs g id
   obtain ⟨rfl,hL,l,rfl⟩ := hp
   rw [List.length_map] at hL
   have hle : (l.map mbA).length = l.length := by simp
   have hcl := zad l
   rw [zap]
   unfold ixG
   refine ⟨by simp,zbm,by kernel_rfl,?_⟩
   unfold Try.f15
   simp only [go_sem,zaa,Nat.reduceAdd,Nat.reduceSub,Nat.reduceMul,Int.reduceToNat,reduceCtorEq,↓reduceIte,Int.reducePow,Nat.reducePow,Int.reduceMod,Nat.reduceLeDiff,Int.reduceLE,Int.reduceNe,Int.reduceEq,Nat.reduceEqDiff,Nat.reduceLT,Nat.reduceBEq,List.map_cons,List.map_nil,List.toList_toArray,Array.toList_append,Option.toArray_some,Option.toArray_none,Bool.and_self,ty,noS,zhy,zbm,hle,hcl,Int.toNat_natCast]
   refine zdt ⟨fun m σ => ∃ i : Nat,m = l.length - i ∧ i ≤ l.length ∧ (l.drop i).findIdx (offY) + i = l.findIdx (offY) ∧
       σ = ⟨[.sg 3 (l.map mbA) g,.fn 35 [],.junk,.junk,.junk,.junk,.sg 3 (l.map mbA) g,.w (.int .i64 l.length),.w (.int .i64 i),.junk,.junk,.junk,.junk,.junk,.junk,.junk,.junk,.junk,.junk],[],4⟩,?_,?_⟩
   · refine ⟨_,_,zal [0,1,2,3] rfl rfl rfl ?_ ?_,0,rfl,by omega,by rw [List.drop_zero]; rfl,rfl⟩
     · simp only [ssT,zau,zav,setSlot,gOf,AV.ren,renL,Blk.ren,Ax.look,Ax.put,reduceCtorEq,↓reduceIte,Nat.reduceEqDiff,Nat.reduceLT,Nat.reduceAdd,List.length_append,List.length_cons,List.length_nil,Option.some.injEq,zak]; try simp
     · simp only [ssT,zau,zav,setSlot,gOf,AV.ren,renL,Blk.ren,Ax.look,Ax.put,reduceCtorEq,↓reduceIte,Nat.reduceEqDiff,Nat.reduceLT,Nat.reduceAdd,List.length_append,List.length_cons,List.length_nil,Option.some.injEq,zak]; try simp
   · rintro m σ ⟨i,rfl,hi,hinv,rfl⟩
     by_cases hil : i < l.length
     · have e1 : ((i : Int) + 1 + 9223372036854775808) % 18446744073709551616 - 9223372036854775808 = ((i + 1 : Nat) : Int) := by omega
       have d1x : decide ((i : Int) < l.length) = true := decide_eq_true (by omega)
       have hs1 := zeh l i hil
       cases hv : (offY) l[i] with
       | true =>
         have hfi := zpg _ l i hil hv hinv
         rw [hfi,if_pos hil]
         obtain ⟨r,hr1⟩ : ∃ r,l[i] = r := ⟨_,rfl⟩
         rw [hr1] at hs1 hv
         obtain ⟨d1,t1,y1⟩ := r
         have hs1 : slot (l.map mbA) i = .agg [.str d1,.w (.int .i64 t1),.w (.bool y1)] := hs1
         have hv : (!y1) = _ := hv
         simp only [go_sem,zaa,Nat.reduceAdd,Nat.reduceSub,Nat.reduceMul,Int.reduceToNat,reduceCtorEq,↓reduceIte,Int.reducePow,Nat.reducePow,Int.reduceMod,Nat.reduceLeDiff,Int.reduceLE,Int.reduceNe,Int.reduceEq,Nat.reduceEqDiff,Nat.reduceLT,Nat.reduceBEq,List.map_cons,List.map_nil,List.toList_toArray,Array.toList_append,Option.toArray_some,Option.toArray_none,Bool.and_self,ty,noS,zhy,zbm,asgS,hle,hcl,d1x,hs1,hv,Int.toNat_natCast,Bool.not_true,Bool.not_false]
         repeat (refine And.intro (by omega) ?_)
         refine ⟨_,Weak.refl _,?_⟩
         simp only [go_sem,zaa,Nat.reduceAdd,Nat.reduceSub,Nat.reduceMul,Int.reduceToNat,reduceCtorEq,↓reduceIte,Int.reducePow,Nat.reducePow,Int.reduceMod,Nat.reduceLeDiff,Int.reduceLE,Int.reduceNe,Int.reduceEq,Nat.reduceEqDiff,Nat.reduceLT,Nat.reduceBEq,List.map_cons,List.map_nil,List.toList_toArray,Array.toList_append,Option.toArray_some,Option.toArray_none,Bool.and_self,ty,noS,zbm,hcl,hle,cond_true]
         try (refine ⟨_,Weak.refl _,?_⟩)
         try simp only [go_sem,zaa,Nat.reduceAdd,Nat.reduceSub,Nat.reduceMul,Int.reduceToNat,reduceCtorEq,↓reduceIte,Int.reducePow,Nat.reducePow,Int.reduceMod,Nat.reduceLeDiff,Int.reduceLE,Int.reduceNe,Int.reduceEq,Nat.reduceEqDiff,Nat.reduceLT,Nat.reduceBEq,List.map_cons,List.map_nil,List.toList_toArray,Array.toList_append,Option.toArray_some,Option.toArray_none,Bool.and_self,ty,noS,zbm,hcl,hle,cond_true]
       | false =>
         have hfi := zis _ l i hil hv hinv
         obtain ⟨r,hr1⟩ : ∃ r,l[i] = r := ⟨_,rfl⟩
         rw [hr1] at hs1 hv
         obtain ⟨d1,t1,y1⟩ := r
         have hs1 : slot (l.map mbA) i = .agg [.str d1,.w (.int .i64 t1),.w (.bool y1)] := hs1
         have hv : (!y1) = _ := hv
         simp only [go_sem,zaa,Nat.reduceAdd,Nat.reduceSub,Nat.reduceMul,Int.reduceToNat,reduceCtorEq,↓reduceIte,Int.reducePow,Nat.reducePow,Int.reduceMod,Nat.reduceLeDiff,Int.reduceLE,Int.reduceNe,Int.reduceEq,Nat.reduceEqDiff,Nat.reduceLT,Nat.reduceBEq,List.map_cons,List.map_nil,List.toList_toArray,Array.toList_append,Option.toArray_some,Option.toArray_none,Bool.and_self,ty,noS,zhy,zbm,asgS,hle,hcl,d1x,hs1,hv,e1,Int.toNat_natCast,Bool.not_true,Bool.not_false]
         repeat (refine And.intro (by omega) ?_)
         refine ⟨l.length - (i + 1),_,by omega,zal [0,1,2,3] rfl rfl rfl ?_ ?_,i + 1,rfl,by omega,hfi,rfl⟩
         · simp only [ssT,zau,zav,setSlot,gOf,AV.ren,renL,Blk.ren,Ax.look,Ax.put,reduceCtorEq,↓reduceIte,Nat.reduceEqDiff,Nat.reduceLT,Nat.reduceAdd,List.length_append,List.length_cons,List.length_nil,Option.some.injEq,zak]; try simp
         · simp only [ssT,zau,zav,setSlot,gOf,AV.ren,renL,Blk.ren,Ax.look,Ax.put,reduceCtorEq,↓reduceIte,Nat.reduceEqDiff,Nat.reduceLT,Nat.reduceAdd,List.length_append,List.length_cons,List.length_nil,Option.some.injEq,zak]; try simp
     · have d1x : decide ((i : Int) < l.length) = false := decide_eq_false (by omega)
       have hfi := zlu _ l i (by omega) hi hinv
       rw [hfi,if_neg (Nat.lt_irrefl _)]
       simp only [go_sem,zaa,Nat.reduceAdd,Nat.reduceSub,Nat.reduceMul,Int.reduceToNat,reduceCtorEq,↓reduceIte,Int.reducePow,Nat.reducePow,Int.reduceMod,Nat.reduceLeDiff,Int.reduceLE,Int.reduceNe,Int.reduceEq,Nat.reduceEqDiff,Nat.reduceLT,Nat.reduceBEq,List.map_cons,List.map_nil,List.toList_toArray,Array.toList_append,Option.toArray_some,Option.toArray_none,Bool.and_self,ty,noS,zbm,hle,hcl,d1x]
       refine ⟨_,Weak.refl _,?_⟩
       simp only [go_sem,zaa,Nat.reduceAdd,Nat.reduceSub,Nat.reduceMul,Int.reduceToNat,reduceCtorEq,↓reduceIte,Int.reducePow,Nat.reducePow,Int.reduceMod,Nat.reduceLeDiff,Int.reduceLE,Int.reduceNe,Int.reduceEq,Nat.reduceEqDiff,Nat.reduceLT,Nat.reduceBEq,List.map_cons,List.map_nil,List.toList_toArray,Array.toList_append,Option.toArray_some,Option.toArray_none,Bool.and_self,ty,noS,zbm,hcl,hle,cond_true]
       try (refine ⟨_,Weak.refl _,?_⟩)
       try simp only [go_sem,zaa,Nat.reduceAdd,Nat.reduceSub,Nat.reduceMul,Int.reduceToNat,reduceCtorEq,↓reduceIte,Int.reducePow,Nat.reducePow,Int.reduceMod,Nat.reduceLeDiff,Int.reduceLE,Int.reduceNe,Int.reduceEq,Nat.reduceEqDiff,Nat.reduceLT,Nat.reduceBEq,List.map_cons,List.map_nil,List.toList_toArray,Array.toList_append,Option.toArray_some,Option.toArray_none,Bool.and_self,ty,noS,zbm,hcl,hle,cond_true]
 · exact hp.elim
end
end Go.Proofs.Ytolclgkginfiaaa
namespace Go.Proofs.Ytolclgkginfiaaa
open Ax
theorem zcb {T : zab} {sl : List AV} {H : Heap} {nx : Nat} {v : Value} {q : Prop} (i : Nat) (h : slot sl i = .w v) : EndsW T [.tmp i] [] ⟨q,.w v,[]⟩ .ret ⟨sl,H,nx⟩ := by
 refine ⟨_,Weak.refl _,?_⟩
 simp only [Ax.Ends,Ax.rvals,EndsX,rone,h,AV.ids,idsL,newIds,upTo,nodup,pinsOf,List.nil_append,AV.ren,and_self]
def timB (n : Int) : Bool := decide (0 ≤ n) && decide (n ≤ 1099511627776)
def idB (d : List UInt8) : Bool := decide ((1 : Int) ≤ (d.length : Int)) && decide ((d.length : Int) ≤ 32)
def allY (l : List Mb) : Bool := decide (0 < l.length) && !decide (l.findIdx offY < l.length)
def phB (ph : Int) (l : List Mb) : Bool := if l.length = 0 then decide (ph = 0) else if allY l = true then decide (ph = 2) else decide (ph = 1)
def rowB (m : Mb) : Bool := idB m.d && timB m.t
def zei : Option (List UInt8) → List Mb → Bool
 | _,[] => true
 | none,a :: r => rowB a && zei (some a.d) r
 | some p,a :: r => rowB a && (!(leD a.d p) && zei (some a.d) r)
def chB (gn ph : Int) (l : List Mb) : Bool := decide (l.length ≤ 16) && (timB gn && (phB ph l && zei none l))
def chG (gn ph : Int) (l : List Mb) : Int := if chB gn ph l = true then 0 else 4
def timS : zar
 | [.w (.int .i64 n)],[] => ⟨True,.w (.bool (timB n)),[]⟩
 | _,_ => zbq
def zen : zar
 | [.str d],[] => ⟨d.length ≤ 9223372036854775807,.w (.bool (idB d)),[]⟩
 | _,_ => zbq
def cfGS : zar
 | [.sg 3 xs g,.fn id []],[] => ⟨id = 35 ∧ xs.length ≤ 9223372036854775807 ∧ (∃ l : List Mb,xs = l.map mbA),.w (.bool (decide ((xs.map umb).findIdx offY < xs.length))),[]⟩
 | _,_ => zbq
def alyS : zar
 | [.agg [.w (.int .i64 gn),.w (.int .u8 ph),.sg 3 xs f]],[] => ⟨xs.length ≤ 9223372036854775807 ∧ (∃ l : List Mb,xs = l.map mbA),.w (.bool (allY (xs.map umb))),[]⟩
 | _,_ => zbq
def phS : zar
 | [.agg [.w (.int .i64 gn),.w (.int .u8 ph),.sg 3 xs f]],[] => ⟨xs.length ≤ 9223372036854775807 ∧ (∃ l : List Mb,xs = l.map mbA),.w (.bool (phB ph (xs.map umb))),[]⟩
 | _,_ => zbq
def chGS : zar
 | [.agg [.w (.int .i64 gn),.w (.int .u8 ph),.sg 3 xs f]],[] => ⟨xs.length ≤ 9223372036854775807 ∧ (∃ l : List Mb,xs = l.map mbA ∧ ∀ r ∈ l,r.d.length ≤ 9223372036854775807),.w (.int .i64 (chG gn ph (xs.map umb))),[]⟩
 | _,_ => zbq
section
set_option maxRecDepth 100000
set_option maxHeartbeats 4000000
theorem zod : zbn Try.prog 10 timS := by
 refine zir (S := noS) (T := ty) mixed ty_ok zcm Try.func10 (c := Try.f10.body.getD .skip) (by kernel_rfl) (by kernel_rfl) (fun xs pins hp _ => ?_)
 unfold timS at hp ⊢
 split at hp
 · rename_i n _
   refine ⟨by simp,?_⟩
   unfold timB
   unfold Try.f10
   cases h1 : decide (0 ≤ n) with
   | true =>
     simp only [go_sem,zac,Nat.reduceAdd,Nat.reduceSub,Nat.reduceMul,Int.reduceToNat,reduceCtorEq,↓reduceIte,Int.reducePow,Nat.reducePow,Int.reduceMod,Nat.reduceLeDiff,Int.reduceLE,Int.reduceNe,Int.reduceEq,Nat.reduceEqDiff,Nat.reduceLT,Nat.reduceBEq,ty,noS,h1,Bool.true_and]
     exact zcb 2 rfl
   | false =>
     simp only [go_sem,zac,Nat.reduceAdd,Nat.reduceSub,Nat.reduceMul,Int.reduceToNat,reduceCtorEq,↓reduceIte,Int.reducePow,Nat.reducePow,Int.reduceMod,Nat.reduceLeDiff,Int.reduceLE,Int.reduceNe,Int.reduceEq,Nat.reduceEqDiff,Nat.reduceLT,Nat.reduceBEq,ty,noS,h1,Bool.false_and]
     exact zcb 2 rfl
 · exact hp.elim
theorem zrz : zbn Try.prog 9 zen := by
 refine zir (S := noS) (T := ty) mixed ty_ok zcm Try.func9 (c := Try.f9.body.getD .skip) (by kernel_rfl) (by kernel_rfl) (fun xs pins hp _ => ?_)
 unfold zen at hp ⊢
 split at hp
 · rename_i d _
   refine ⟨by simp,?_⟩
   unfold idB
   unfold Try.f9
   cases h1 : decide ((1 : Int) ≤ (d.length : Int)) with
   | true =>
     simp only [go_sem,zac,Nat.reduceAdd,Nat.reduceSub,Nat.reduceMul,Int.reduceToNat,reduceCtorEq,↓reduceIte,Int.reducePow,Nat.reducePow,Int.reduceMod,Nat.reduceLeDiff,Int.reduceLE,Int.reduceNe,Int.reduceEq,Nat.reduceEqDiff,Nat.reduceLT,Nat.reduceBEq,ty,noS,h1,Bool.true_and]
     exact zcb 2 rfl
   | false =>
     simp only [go_sem,zac,Nat.reduceAdd,Nat.reduceSub,Nat.reduceMul,Int.reduceToNat,reduceCtorEq,↓reduceIte,Int.reducePow,Nat.reducePow,Int.reduceMod,Nat.reduceLeDiff,Int.reduceLE,Int.reduceNe,Int.reduceEq,Nat.reduceEqDiff,Nat.reduceLT,Nat.reduceBEq,ty,noS,h1,Bool.false_and]
     exact zcb 2 rfl
 · exact hp.elim
def Ocf20 (f : FuncId) : Option zar :=
 match f with
 | 15 => some ixGS
 | _ => none
theorem Ocf20_ok : FnsO Try.prog Ocf20 := by
 intro f s h
 unfold Ocf20 at h
 split at h
 · injection h with h; subst h; exact ⟨⟨_,Try.func15,by kernel_rfl,by kernel_rfl⟩,zpa⟩
 · cases h
def cfPl20 : zhx := fun id => match id with
 | 1 => .opn [] 2
 | _ => .std
theorem cfG_sound : zbn Try.prog 34 cfGS := by
 refine zbs (S := noS) (SO := Ocf20) (T := ty) mixed ty_ok zcm Ocf20_ok Try.func34 (c := Try.f34.body.getD .skip) (by kernel_rfl) (fun xs pins hp _ => ?_)
 unfold cfGS at hp ⊢
 split at hp
 · rename_i xs g id _
   obtain ⟨rfl,hL,l,rfl⟩ := hp
   rw [List.length_map] at hL
   have hle : (l.map mbA).length = l.length := by simp
   have hex : ∃ k : List Mb,l.map mbA = k.map mbA := ⟨l,rfl⟩
   have hv : decide (0 ≤ ixG offY l) = decide (l.findIdx offY < l.length) := by
     unfold ixG
     by_cases h : l.findIdx offY < l.length
     · rw [if_pos h,decide_eq_true h]; exact decide_eq_true (by omega)
     · rw [if_neg h,decide_eq_false h]; rfl
   rw [zap,hle]
   generalize decide (l.findIdx offY < l.length) = V at *
   refine ⟨by simp,cfPl20,by kernel_rfl,?_⟩
   unfold Try.f34
   simp only [go_sem,zaa,Nat.reduceAdd,Nat.reduceSub,Nat.reduceMul,Int.reduceToNat,reduceCtorEq,↓reduceIte,Int.reducePow,Nat.reducePow,Int.reduceMod,Nat.reduceLeDiff,Int.reduceLE,Int.reduceNe,Int.reduceEq,Nat.reduceEqDiff,Nat.reduceLT,Nat.reduceBEq,List.map_cons,List.map_nil,List.toList_toArray,Array.toList_append,Option.toArray_some,Option.toArray_none,Bool.and_self,ty,noS,Ocf20,cfPl20,ixGS,zay,hle,hL,hex,zap,hv]
   try (refine ⟨_,Weak.refl _,?_⟩)
   try simp only [go_sem,zaa,Nat.reduceAdd,Nat.reduceSub,Nat.reduceMul,Int.reduceToNat,reduceCtorEq,↓reduceIte,Int.reducePow,Nat.reducePow,Int.reduceMod,Nat.reduceLeDiff,Int.reduceLE,Int.reduceNe,Int.reduceEq,Nat.reduceEqDiff,Nat.reduceLT,Nat.reduceBEq,List.map_cons,List.map_nil,List.toList_toArray,Array.toList_append,Option.toArray_some,Option.toArray_none,Bool.and_self,ty,noS]
 · exact hp.elim
def zyd (f : FuncId) : Option zar :=
 match f with
 | 34 => some cfGS
 | _ => none
theorem Saly20_ok : Fns Try.prog zyd := by
 intro f s h
 unfold zyd at h
 split at h
 · injection h with h; subst h; exact ⟨⟨_,Try.func34,by kernel_rfl,by kernel_rfl⟩,cfG_sound⟩
 · cases h
theorem zyb : zbn Try.prog 21 alyS := by
 refine zir (S := zyd) (T := ty) mixed ty_ok Saly20_ok Try.func21 (c := Try.f21.body.getD .skip) (by kernel_rfl) (by kernel_rfl) (fun xs pins hp _ => ?_)
 unfold alyS at hp ⊢
 split at hp
 · rename_i gn ph xs f _
   obtain ⟨hL,l,rfl⟩ := hp
   rw [List.length_map] at hL
   have hle : (l.map mbA).length = l.length := by simp
   have hex : ∃ k : List Mb,l.map mbA = k.map mbA := ⟨l,rfl⟩
   rw [zap]
   unfold allY
   generalize hV : decide (l.findIdx offY < l.length) = V
   refine ⟨by simp,?_⟩
   unfold Try.f21
   by_cases h0 : 0 < l.length
   · have d0 : decide ((0 : Int) < (l.length : Int)) = true := decide_eq_true (by omega)
     rw [decide_eq_true h0,Bool.true_and]
     simp only [go_sem,zac,Nat.reduceAdd,Nat.reduceSub,Nat.reduceMul,Int.reduceToNat,reduceCtorEq,↓reduceIte,Int.reducePow,Nat.reducePow,Int.reduceMod,Nat.reduceLeDiff,Int.reduceLE,Int.reduceNe,Int.reduceEq,Nat.reduceEqDiff,Nat.reduceLT,Nat.reduceBEq,ty,zyd,cfGS,zay,hle,hL,hex,zap,hV,d0]
     exact zcb 2 rfl
   · have d0 : decide ((0 : Int) < (l.length : Int)) = false := decide_eq_false (by omega)
     rw [decide_eq_false h0,Bool.false_and]
     simp only [go_sem,zac,Nat.reduceAdd,Nat.reduceSub,Nat.reduceMul,Int.reduceToNat,reduceCtorEq,↓reduceIte,Int.reducePow,Nat.reducePow,Int.reduceMod,Nat.reduceLeDiff,Int.reduceLE,Int.reduceNe,Int.reduceEq,Nat.reduceEqDiff,Nat.reduceLT,Nat.reduceBEq,ty,zyd,cfGS,hle,d0]
     exact zcb 2 rfl
 · exact hp.elim
def Sph20 (f : FuncId) : Option zar :=
 match f with
 | 21 => some alyS
 | _ => none
theorem Sph20_ok : Fns Try.prog Sph20 := by
 intro f s h
 unfold Sph20 at h
 split at h
 · injection h with h; subst h; exact ⟨⟨_,Try.func21,by kernel_rfl,by kernel_rfl⟩,zyb⟩
 · cases h
theorem ph_sound : zbn Try.prog 28 phS := by
 refine zir (S := Sph20) (T := ty) mixed ty_ok Sph20_ok Try.func28 (c := Try.f28.body.getD .skip) (by kernel_rfl) (by kernel_rfl) (fun xs pins hp _ => ?_)
 unfold phS at hp ⊢
 split at hp
 · rename_i gn ph xs f _
   obtain ⟨hL,l,rfl⟩ := hp
   rw [List.length_map] at hL
   have hle : (l.map mbA).length = l.length := by simp
   have hex : ∃ k : List Mb,l.map mbA = k.map mbA := ⟨l,rfl⟩
   rw [zap]
   unfold phB
   refine ⟨by simp,?_⟩
   unfold Try.f28
   by_cases h0 : l.length = 0
   · have d0 : decide ((l.length : Int) = 0) = true := decide_eq_true (by omega)
     rw [if_pos h0]
     simp only [go_sem,zac,Nat.reduceAdd,Nat.reduceSub,Nat.reduceMul,Int.reduceToNat,reduceCtorEq,↓reduceIte,Int.reducePow,Nat.reducePow,Int.reduceMod,Nat.reduceLeDiff,Int.reduceLE,Int.reduceNe,Int.reduceEq,Nat.reduceEqDiff,Nat.reduceLT,Nat.reduceBEq,ty,Sph20,alyS,hle,d0]
     exact zcb 2 rfl
   · have d0 : decide ((l.length : Int) = 0) = false := decide_eq_false (by omega)
     rw [if_neg h0]
     cases hA : allY l with
     | true =>
       rw [if_pos rfl]
       simp only [go_sem,zac,Nat.reduceAdd,Nat.reduceSub,Nat.reduceMul,Int.reduceToNat,reduceCtorEq,↓reduceIte,Int.reducePow,Nat.reducePow,Int.reduceMod,Nat.reduceLeDiff,Int.reduceLE,Int.reduceNe,Int.reduceEq,Nat.reduceEqDiff,Nat.reduceLT,Nat.reduceBEq,ty,Sph20,alyS,zay,hle,hL,hex,zap,hA,d0]
       exact zcb 2 rfl
     | false =>
       rw [if_neg (by simp)]
       simp only [go_sem,zac,Nat.reduceAdd,Nat.reduceSub,Nat.reduceMul,Int.reduceToNat,reduceCtorEq,↓reduceIte,Int.reducePow,Nat.reducePow,Int.reduceMod,Nat.reduceLeDiff,Int.reduceLE,Int.reduceNe,Int.reduceEq,Nat.reduceEqDiff,Nat.reduceLT,Nat.reduceBEq,ty,Sph20,alyS,zay,hle,hL,hex,zap,hA,d0]
       exact zcb 2 rfl
 · exact hp.elim
end
end Go.Proofs.Ytolclgkginfiaaa
namespace Go.Proofs.Ytolclgkginfiaaa
open Ax
def zjb (f : FuncId) : Option zar :=
 match f with
 | 10 => some timS
 | 9 => some zen
 | 28 => some phS
 | _ => none
theorem Sck20_ok : Fns Try.prog zjb := by
 intro f s h
 unfold zjb at h
 split at h
 · injection h with h; subst h; exact ⟨⟨_,Try.func10,by kernel_rfl,by kernel_rfl⟩,zod⟩
 · injection h with h; subst h; exact ⟨⟨_,Try.func9,by kernel_rfl,by kernel_rfl⟩,zrz⟩
 · injection h with h; subst h; exact ⟨⟨_,Try.func28,by kernel_rfl,by kernel_rfl⟩,ph_sound⟩
 · cases h
def zfl : Plan := fun id => match id with
 | 6 => some []
 | _ => none
def prvD (l : List Mb) (i : Nat) : Option (List UInt8) := match i with
 | 0 => none
 | j + 1 => some ((l[j]?).getD ⟨[],0,false⟩).d
theorem zsk {gn ph : Int} {l : List Mb} (h : chB gn ph l = false) : chG gn ph l = 4 := by unfold chG; rw [h]; rfl
section
set_option maxRecDepth 100000
set_option maxHeartbeats 16000000
theorem zxc : zbn Try.prog 8 chGS := by
 refine zwj (S := zjb) (T := ty) (pl := zfl) mixed ty_ok Sck20_ok Try.func8 (c := Try.f8.body.getD .skip) (by kernel_rfl) (by kernel_rfl) (fun xs pins hp _ => ?_)
 unfold chGS at hp ⊢
 split at hp
 · rename_i gn ph xs f _
   obtain ⟨hL,l,rfl,hd⟩ := hp
   rw [List.length_map] at hL
   have hle : (l.map mbA).length = l.length := by simp
   have hex : ∃ k : List Mb,l.map mbA = k.map mbA := ⟨l,rfl⟩
   rw [zap]
   refine ⟨by simp,?_⟩
   unfold Try.f8
   by_cases h16 : 16 < l.length
   · have d0 : decide ((16 : Int) < (l.length : Int)) = true := decide_eq_true (by omega)
     have hb : chB gn ph l = false := by unfold chB; rw [decide_eq_false (by omega),Bool.false_and]
     have hv : chG gn ph l = 4 := zsk hb
     rw [hv]
     simp (config := { maxSteps := 3000000 }) only [go_sem,zag,Nat.reduceAdd,Nat.reduceSub,Nat.reduceMul,Int.reduceToNat,reduceCtorEq,↓reduceIte,Int.reducePow,Nat.reducePow,Int.reduceMod,Nat.reduceLeDiff,Int.reduceLE,Int.reduceNe,Int.reduceEq,Nat.reduceEqDiff,Nat.reduceLT,Nat.reduceBEq,List.map_cons,List.map_nil,List.toList_toArray,Array.toList_append,Option.toArray_some,Option.toArray_none,Bool.and_self,ty,zjb,zfl,timS,zen,phS,zay,hle,hL,hex,zap,zad,zbb,Int.toNat_natCast,Bool.not_true,Bool.not_false,d0]
     exact zcb 2 rfl
   · have d0 : decide ((16 : Int) < (l.length : Int)) = false := decide_eq_false (by omega)
     cases hT : timB gn with
     | false =>
       have hb : chB gn ph l = false := by unfold chB; rw [hT,Bool.false_and,Bool.and_false]
       have hv : chG gn ph l = 4 := zsk hb
       rw [hv]
       simp (config := { maxSteps := 3000000 }) only [go_sem,zag,Nat.reduceAdd,Nat.reduceSub,Nat.reduceMul,Int.reduceToNat,reduceCtorEq,↓reduceIte,Int.reducePow,Nat.reducePow,Int.reduceMod,Nat.reduceLeDiff,Int.reduceLE,Int.reduceNe,Int.reduceEq,Nat.reduceEqDiff,Nat.reduceLT,Nat.reduceBEq,List.map_cons,List.map_nil,List.toList_toArray,Array.toList_append,Option.toArray_some,Option.toArray_none,Bool.and_self,ty,zjb,zfl,timS,zen,phS,zay,hle,hL,hex,zap,zad,zbb,Int.toNat_natCast,Bool.not_true,Bool.not_false,d0,hT]
       exact zcb 2 rfl
     | true =>
       cases hP : phB ph l with
       | false =>
         have hb : chB gn ph l = false := by unfold chB; rw [hT,hP,Bool.false_and,Bool.and_false,Bool.and_false]
         have hv : chG gn ph l = 4 := zsk hb
         rw [hv]
         simp (config := { maxSteps := 3000000 }) only [go_sem,zag,Nat.reduceAdd,Nat.reduceSub,Nat.reduceMul,Int.reduceToNat,reduceCtorEq,↓reduceIte,Int.reducePow,Nat.reducePow,Int.reduceMod,Nat.reduceLeDiff,Int.reduceLE,Int.reduceNe,Int.reduceEq,Nat.reduceEqDiff,Nat.reduceLT,Nat.reduceBEq,List.map_cons,List.map_nil,List.toList_toArray,Array.toList_append,Option.toArray_some,Option.toArray_none,Bool.and_self,ty,zjb,zfl,timS,zen,phS,zay,hle,hL,hex,zap,zad,zbb,Int.toNat_natCast,Bool.not_true,Bool.not_false,d0,hT,hP]
         exact zcb 2 rfl
       | true =>
         have hb : chB gn ph l = zei none l := by unfold chB; rw [hT,hP,decide_eq_true (by omega),Bool.true_and,Bool.true_and,Bool.true_and]
         have hch : chG gn ph l = if zei none l = true then 0 else 4 := by unfold chG; rw [hb]
         simp (config := { maxSteps := 3000000 }) only [go_sem,zag,Nat.reduceAdd,Nat.reduceSub,Nat.reduceMul,Int.reduceToNat,reduceCtorEq,↓reduceIte,Int.reducePow,Nat.reducePow,Int.reduceMod,Nat.reduceLeDiff,Int.reduceLE,Int.reduceNe,Int.reduceEq,Nat.reduceEqDiff,Nat.reduceLT,Nat.reduceBEq,List.map_cons,List.map_nil,List.toList_toArray,Array.toList_append,Option.toArray_some,Option.toArray_none,Bool.and_self,ty,zjb,zfl,timS,zen,phS,zay,hle,hL,hex,zap,zad,zbb,Int.toNat_natCast,Bool.not_true,Bool.not_false,d0,hT,hP]
         refine zgw ⟨fun m σ => ∃ i : Nat,m = l.length - i ∧ i ≤ l.length ∧ zei (prvD l i) (l.drop i) = zei none l ∧
           σ = ⟨[.junk,.rf 4 3 0 0,.junk,.junk,.junk,.junk,.junk,.junk,.junk,.junk,.junk,.junk,.junk,.junk,.junk,.junk,.junk,.junk,.junk,.junk,.junk,.sg 3 (l.map mbA) f,.w (.int .i64 l.length),.w (.int .i64 i),.junk,.junk,.junk,.junk,.junk,.junk,.junk,.junk,.junk,.junk,.junk,.junk,.junk,.junk,.junk,.junk,.junk,.junk,.junk,.junk,.junk,.junk,.junk,.junk,.junk,.junk,.junk,.junk,.junk,.junk,.junk],[(4,.g 3 [.agg [.w (.int .i64 gn),.w (.int .u8 ph),.sg 3 (l.map mbA) f]])],5⟩,?_,?_⟩
         · refine ⟨_,_,zal [0,1,2,3,4] rfl rfl rfl ?_ ?_,0,rfl,by omega,rfl,rfl⟩
           · simp only [ssT,zau,zav,setSlot,gOf,AV.ren,renL,Blk.ren,Ax.look,Ax.put,reduceCtorEq,↓reduceIte,Nat.reduceEqDiff,Nat.reduceLT,Nat.reduceAdd,List.length_append,List.length_cons,List.length_nil,Option.some.injEq,zak]; try simp
           · simp only [ssT,zau,zav,setSlot,gOf,AV.ren,renL,Blk.ren,Ax.look,Ax.put,reduceCtorEq,↓reduceIte,Nat.reduceEqDiff,Nat.reduceLT,Nat.reduceAdd,List.length_append,List.length_cons,List.length_nil,Option.some.injEq,zak]; try simp
         · rintro m σ ⟨i,rfl,hi2,hinv,rfl⟩
           by_cases hil : i < l.length
           · have d1x : decide ((i : Int) < l.length) = true := decide_eq_true (by omega)
             have e1 : ((i : Int) + 1 + 9223372036854775808) % 18446744073709551616 - 9223372036854775808 = ((i + 1 : Nat) : Int) := by omega
             have hs1 := zeh l i hil
             have hdr : l.drop i = l[i] :: l.drop (i + 1) := List.drop_eq_getElem_cons hil
             have hprv : prvD l (i + 1) = some l[i].d := by show some ((l[i]?).getD ⟨[],0,false⟩).d = _; rw [List.getElem?_eq_getElem hil]; rfl
             have hdl := hd _ (List.getElem_mem hil)
             obtain ⟨r,hr⟩ : ∃ r,l[i] = r := ⟨_,rfl⟩
             rw [hr] at hs1 hdr hprv hdl
             rw [hdr] at hinv
             obtain ⟨rd,rt,ry⟩ := r
             simp only at hprv hdl
             have hs1 : slot (l.map mbA) i = .agg [.str rd,.w (.int .i64 rt),.w (.bool ry)] := hs1
             cases hI : idB rd with
             | false =>
               have hv : chG gn ph l = 4 := by
                 refine zsk ?_
                 rw [hb,← hinv]
                 cases hq : prvD l i <;> simp [zei,rowB,hI]
               rw [hv]
               simp (config := { maxSteps := 3000000 }) only [go_sem,zag,Nat.reduceAdd,Nat.reduceSub,Nat.reduceMul,Int.reduceToNat,reduceCtorEq,↓reduceIte,Int.reducePow,Nat.reducePow,Int.reduceMod,Nat.reduceLeDiff,Int.reduceLE,Int.reduceNe,Int.reduceEq,Nat.reduceEqDiff,Nat.reduceLT,Nat.reduceBEq,List.map_cons,List.map_nil,List.toList_toArray,Array.toList_append,Option.toArray_some,Option.toArray_none,Bool.and_self,ty,zjb,zfl,timS,zen,phS,zay,hle,hL,hex,zap,zad,zbb,Int.toNat_natCast,Bool.not_true,Bool.not_false,d1x,hs1,hI,hdl]
               repeat (first | refine And.intro (by omega) ?_ | refine And.intro ⟨by omega,by omega⟩ ?_)
               refine ⟨_,Weak.refl _,?_⟩
               simp (config := { maxSteps := 3000000 }) only [go_sem,zag,Nat.reduceAdd,Nat.reduceSub,Nat.reduceMul,Int.reduceToNat,reduceCtorEq,↓reduceIte,Int.reducePow,Nat.reducePow,Int.reduceMod,Nat.reduceLeDiff,Int.reduceLE,Int.reduceNe,Int.reduceEq,Nat.reduceEqDiff,Nat.reduceLT,Nat.reduceBEq,List.map_cons,List.map_nil,List.toList_toArray,Array.toList_append,Option.toArray_some,Option.toArray_none,Bool.and_self,ty,zjb,zfl]
               exact zcb 2 rfl
             | true =>
               cases hR : timB rt with
               | false =>
                 have hv : chG gn ph l = 4 := by
                   refine zsk ?_
                   rw [hb,← hinv]
                   cases hq : prvD l i <;> simp [zei,rowB,hR]
                 rw [hv]
                 simp (config := { maxSteps := 3000000 }) only [go_sem,zag,Nat.reduceAdd,Nat.reduceSub,Nat.reduceMul,Int.reduceToNat,reduceCtorEq,↓reduceIte,Int.reducePow,Nat.reducePow,Int.reduceMod,Nat.reduceLeDiff,Int.reduceLE,Int.reduceNe,Int.reduceEq,Nat.reduceEqDiff,Nat.reduceLT,Nat.reduceBEq,List.map_cons,List.map_nil,List.toList_toArray,Array.toList_append,Option.toArray_some,Option.toArray_none,Bool.and_self,ty,zjb,zfl,timS,zen,phS,zay,hle,hL,hex,zap,zad,zbb,Int.toNat_natCast,Bool.not_true,Bool.not_false,d1x,hs1,hI,hR,hdl]
                 repeat (first | refine And.intro (by omega) ?_ | refine And.intro ⟨by omega,by omega⟩ ?_)
                 refine ⟨_,Weak.refl _,?_⟩
                 simp (config := { maxSteps := 3000000 }) only [go_sem,zag,Nat.reduceAdd,Nat.reduceSub,Nat.reduceMul,Int.reduceToNat,reduceCtorEq,↓reduceIte,Int.reducePow,Nat.reducePow,Int.reduceMod,Nat.reduceLeDiff,Int.reduceLE,Int.reduceNe,Int.reduceEq,Nat.reduceEqDiff,Nat.reduceLT,Nat.reduceBEq,List.map_cons,List.map_nil,List.toList_toArray,Array.toList_append,Option.toArray_some,Option.toArray_none,Bool.and_self,ty,zjb,zfl]
                 exact zcb 2 rfl
               | true =>
                 by_cases h0 : i = 0
                 · have d0x : decide ((0 : Int) < (i : Int)) = false := decide_eq_false (by omega)
                   have hinv2 : zei (prvD l (i + 1)) (l.drop (i + 1)) = zei none l := by
                     rw [← hinv,hprv]
                     subst h0
                     simp [prvD,zei,rowB,hI,hR]
                   simp (config := { maxSteps := 3000000 }) only [go_sem,zag,Nat.reduceAdd,Nat.reduceSub,Nat.reduceMul,Int.reduceToNat,reduceCtorEq,↓reduceIte,Int.reducePow,Nat.reducePow,Int.reduceMod,Nat.reduceLeDiff,Int.reduceLE,Int.reduceNe,Int.reduceEq,Nat.reduceEqDiff,Nat.reduceLT,Nat.reduceBEq,List.map_cons,List.map_nil,List.toList_toArray,Array.toList_append,Option.toArray_some,Option.toArray_none,Bool.and_self,ty,zjb,zfl,timS,zen,phS,zay,hle,hL,hex,zap,zad,zbb,Int.toNat_natCast,Bool.not_true,Bool.not_false,d1x,hs1,hI,hR,d0x,e1,hdl]
                   repeat (first | refine And.intro (by omega) ?_ | refine And.intro ⟨by omega,by omega⟩ ?_)
                   refine ⟨l.length - (i + 1),_,by omega,zal [0,1,2,3,4] rfl rfl rfl ?_ ?_,i + 1,rfl,by omega,hinv2,rfl⟩
                   · simp only [ssT,zau,zav,setSlot,gOf,AV.ren,renL,Blk.ren,Ax.look,Ax.put,reduceCtorEq,↓reduceIte,Nat.reduceEqDiff,Nat.reduceLT,Nat.reduceAdd,List.length_append,List.length_cons,List.length_nil,Option.some.injEq,zak]; try simp
                   · simp only [ssT,zau,zav,setSlot,gOf,AV.ren,renL,Blk.ren,Ax.look,Ax.put,reduceCtorEq,↓reduceIte,Nat.reduceEqDiff,Nat.reduceLT,Nat.reduceAdd,List.length_append,List.length_cons,List.length_nil,Option.some.injEq,zak]; try simp
                 · have d0x : decide ((0 : Int) < (i : Int)) = true := decide_eq_true (by omega)
                   obtain ⟨j,rfl⟩ : ∃ j,i = j + 1 := ⟨i - 1,by omega⟩
                   have hN : (((j + 1 : Nat) : Int) - 1 + 9223372036854775808) % 18446744073709551616 - 9223372036854775808 = (j : Int) := by omega
                   have hs2 := zeh l j (by omega)
                   have hp2 : prvD l (j + 1) = some (l[j]'(by omega)).d := by show some ((l[j]?).getD ⟨[],0,false⟩).d = _; rw [List.getElem?_eq_getElem (show j < l.length by omega)]; rfl
                   obtain ⟨q,hq⟩ : ∃ q,l[j]'(by omega) = q := ⟨_,rfl⟩
                   rw [hq] at hs2 hp2
                   obtain ⟨qd,qt,qy⟩ := q
                   have hs2 : slot (l.map mbA) j = .agg [.str qd,.w (.int .i64 qt),.w (.bool qy)] := hs2
                   rw [hp2] at hinv
                   cases hO : leD rd qd with
                   | true =>
                     have hO2 : (Op.bytesLess rd qd || decide (rd = qd)) = true := hO
                     have hv : chG gn ph l = 4 := by
                       refine zsk ?_
                       rw [hb,← hinv]
                       simp [zei,hO]
                     rw [hv]
                     simp (config := { maxSteps := 3000000 }) only [go_sem,zag,Nat.reduceAdd,Nat.reduceSub,Nat.reduceMul,Int.reduceToNat,reduceCtorEq,↓reduceIte,Int.reducePow,Nat.reducePow,Int.reduceMod,Nat.reduceLeDiff,Int.reduceLE,Int.reduceNe,Int.reduceEq,Nat.reduceEqDiff,Nat.reduceLT,Nat.reduceBEq,List.map_cons,List.map_nil,List.toList_toArray,Array.toList_append,Option.toArray_some,Option.toArray_none,Bool.and_self,ty,zjb,zfl,timS,zen,phS,zay,hle,hL,hex,zap,zad,zbb,Int.toNat_natCast,Bool.not_true,Bool.not_false,d1x,hs1,hs2,hI,hR,d0x,hN,hO2,hdl]
                     repeat (first | refine And.intro (by omega) ?_ | refine And.intro ⟨by omega,by omega⟩ ?_)
                     refine ⟨_,Weak.refl _,?_⟩
                     simp (config := { maxSteps := 3000000 }) only [go_sem,zag,Nat.reduceAdd,Nat.reduceSub,Nat.reduceMul,Int.reduceToNat,reduceCtorEq,↓reduceIte,Int.reducePow,Nat.reducePow,Int.reduceMod,Nat.reduceLeDiff,Int.reduceLE,Int.reduceNe,Int.reduceEq,Nat.reduceEqDiff,Nat.reduceLT,Nat.reduceBEq,List.map_cons,List.map_nil,List.toList_toArray,Array.toList_append,Option.toArray_some,Option.toArray_none,Bool.and_self,ty,zjb,zfl]
                     exact zcb 2 rfl
                   | false =>
                     have hO2 : (Op.bytesLess rd qd || decide (rd = qd)) = false := hO
                     have hinv2 : zei (prvD l (j + 1 + 1)) (l.drop (j + 1 + 1)) = zei none l := by
                       rw [← hinv,hprv]
                       simp [zei,rowB,hI,hR,hO]
                     simp (config := { maxSteps := 3000000 }) only [go_sem,zag,Nat.reduceAdd,Nat.reduceSub,Nat.reduceMul,Int.reduceToNat,reduceCtorEq,↓reduceIte,Int.reducePow,Nat.reducePow,Int.reduceMod,Nat.reduceLeDiff,Int.reduceLE,Int.reduceNe,Int.reduceEq,Nat.reduceEqDiff,Nat.reduceLT,Nat.reduceBEq,List.map_cons,List.map_nil,List.toList_toArray,Array.toList_append,Option.toArray_some,Option.toArray_none,Bool.and_self,ty,zjb,zfl,timS,zen,phS,zay,hle,hL,hex,zap,zad,zbb,Int.toNat_natCast,Bool.not_true,Bool.not_false,d1x,hs1,hs2,hI,hR,d0x,hN,hO2,e1,hdl]
                     repeat (first | refine And.intro (by omega) ?_ | refine And.intro ⟨by omega,by omega⟩ ?_)
                     refine ⟨l.length - (j + 1 + 1),_,by omega,zal [0,1,2,3,4] rfl rfl rfl ?_ ?_,j + 1 + 1,rfl,by omega,hinv2,rfl⟩
                     · simp only [ssT,zau,zav,setSlot,gOf,AV.ren,renL,Blk.ren,Ax.look,Ax.put,reduceCtorEq,↓reduceIte,Nat.reduceEqDiff,Nat.reduceLT,Nat.reduceAdd,List.length_append,List.length_cons,List.length_nil,Option.some.injEq,zak]; try simp
                     · simp only [ssT,zau,zav,setSlot,gOf,AV.ren,renL,Blk.ren,Ax.look,Ax.put,reduceCtorEq,↓reduceIte,Nat.reduceEqDiff,Nat.reduceLT,Nat.reduceAdd,List.length_append,List.length_cons,List.length_nil,Option.some.injEq,zak]; try simp
           · have d1x : decide ((i : Int) < l.length) = false := decide_eq_false (by omega)
             have hv : chG gn ph l = 0 := by
               rw [hch,← hinv,List.drop_eq_nil_of_le (by omega)]
               cases prvD l i <;> rfl
             rw [hv]
             simp (config := { maxSteps := 3000000 }) only [go_sem,zag,Nat.reduceAdd,Nat.reduceSub,Nat.reduceMul,Int.reduceToNat,reduceCtorEq,↓reduceIte,Int.reducePow,Nat.reducePow,Int.reduceMod,Nat.reduceLeDiff,Int.reduceLE,Int.reduceNe,Int.reduceEq,Nat.reduceEqDiff,Nat.reduceLT,Nat.reduceBEq,List.map_cons,List.map_nil,List.toList_toArray,Array.toList_append,Option.toArray_some,Option.toArray_none,Bool.and_self,ty,zjb,zfl,timS,zen,phS,zay,hle,hL,hex,zap,zad,zbb,Int.toNat_natCast,Bool.not_true,Bool.not_false,d1x]
             refine ⟨_,Weak.refl _,?_⟩
             simp (config := { maxSteps := 3000000 }) only [go_sem,zag,Nat.reduceAdd,Nat.reduceSub,Nat.reduceMul,Int.reduceToNat,reduceCtorEq,↓reduceIte,Int.reducePow,Nat.reducePow,Int.reduceMod,Nat.reduceLeDiff,Int.reduceLE,Int.reduceNe,Int.reduceEq,Nat.reduceEqDiff,Nat.reduceLT,Nat.reduceBEq,List.map_cons,List.map_nil,List.toList_toArray,Array.toList_append,Option.toArray_some,Option.toArray_none,Bool.and_self,ty,zjb,zfl]
             exact zcb 2 rfl
 · exact hp.elim
end
end Go.Proofs.Ytolclgkginfiaaa
namespace Go.Proofs.Ytolclgkginfiaaa
open Ax
def zjq : zar
 | [.agg [.w (.int .i64 gn),.w (.int .u8 ph),.sg 3 xs f]],[] => ⟨xs.length ≤ 1000000 ∧ (∃ l : List Mb,xs = l.map mbA),.agg [.w (.int .i64 gn),.w (.int .u8 ph),bif empP xs then .sg 3 [] true else .ms 0 3 0 xs.length],bif empP xs then [] else [.g 3 xs]⟩
 | _,_ => zbq
def zhd : zar
 | [.agg [.w (.int .i64 gn),.w (.int .u8 ph),.sg 3 xs f],.str v],[] => ⟨xs.length ≤ 9223372036854775807 ∧ (∃ l : List Mb,xs = l.map mbA),.w (.int .i64 (ixG (isD v) (xs.map umb))),[]⟩
 | _,_ => zbq
def zMb : Mb := ⟨[],0,false⟩
def mbI (l : List Mb) (i : Nat) : Mb := (l[i]?).getD zMb
def zhw : zar
 | [.w (.int .i64 n)],[] => ⟨True,.fn 30 [.rf 0 1 0 0],[.g 1 [.w (.int .i64 n)]]⟩
 | _,_ => zbq
def mxT (a b : Int) : Int := if a < b then b else a
def znl (now : Int) (m : Mb) : Mb := ⟨m.d,mxT m.t now,m.y⟩
def se1S : zar
 | [.rf 0 3 i 0,.rf 1 1 0 0],[.g 3 xs,.g 1 [.w (.int .i64 now)]] => ⟨i < xs.length ∧ (∃ l : List Mb,xs = l.map mbA),.tup [],[.g 3 (((xs.map umb).set i (znl now (mbI (xs.map umb) i))).map mbA),.g 1 [.w (.int .i64 now)]]⟩
 | _,_ => zbq
def chaS : zar
 | [.agg [.w (.int .i64 gn),.w (.int .u8 ph),.sg 3 xs f],.w (.int .i64 i),.fn id [.rf 0 1 0 0]],[.g 1 [.w (.int .i64 now)]] => ⟨id = 30 ∧ (0 ≤ i ∧ i < xs.length) ∧ xs.length ≤ 1000000 ∧ (∃ l : List Mb,xs = l.map mbA),
     .agg [.w (.int .i64 gn),.w (.int .u8 ph),.ms 1 3 0 xs.length],[.g 1 [.w (.int .i64 now)],.g 3 (((xs.map umb).set i.toNat (znl now (mbI (xs.map umb) i.toNat))).map mbA)]⟩
 | _,_ => zbq
def clrM (m : Mb) : Mb := ⟨m.d,m.t,false⟩
def turS : zar
 | [.agg [.w (.int .i64 gn),.w (.int .u8 ph),.ms 0 3 0 n]],[.g 3 xs] => ⟨(n ≤ xs.length ∧ 0 < xs.length ∧ n ≤ 1000000) ∧ (-4611686018427387904 ≤ gn ∧ gn ≤ 4611686018427387904) ∧ (∃ l : List Mb,xs = l.map mbA),
     .agg [.w (.int .i64 (gn + 1)),.w (.int .u8 (if n = 0 then 0 else 1)),.ms 0 3 0 n],[.g 3 ((((xs.map umb).take n).map clrM ++ (xs.map umb).drop n).map mbA)]⟩
 | _,_ => zbq
def zqh (f : FuncId) : Option zar :=
 match f with
 | 31 => some zwu
 | _ => none
theorem Sown20_ok : Fns Try.prog zqh := by
 intro f s h
 unfold zqh at h
 split at h
 · injection h with h; subst h; exact ⟨⟨_,Try.func31,by kernel_rfl,by kernel_rfl⟩,cloMb_sound⟩
 · cases h
def Opla20 (f : FuncId) : Option zar :=
 match f with
 | 15 => some ixGS
 | _ => none
theorem Opla20_ok : FnsO Try.prog Opla20 := by
 intro f s h
 unfold Opla20 at h
 split at h
 · injection h with h; subst h; exact ⟨⟨_,Try.func15,by kernel_rfl,by kernel_rfl⟩,zpa⟩
 · cases h
def plaPl20 : zhx := fun id => match id with
 | 1 => .opn [] 3
 | _ => .std
section
set_option maxRecDepth 100000
set_option maxHeartbeats 4000000
theorem zro : zbn Try.prog 14 zjq := by
 refine zbs (S := zqh) (SO := noO) (T := ty) mixed ty_ok Sown20_ok zhp Try.func14 (c := Try.f14.body.getD .skip) (by kernel_rfl) (fun xs pins hp _ => ?_)
 unfold zjq at hp ⊢
 split at hp
 · rename_i gn ph xs f _
   obtain ⟨hL,l,rfl⟩ := hp
   rw [List.length_map] at hL
   have hle : (l.map mbA).length = l.length := by simp
   have hcl := zad l
   have hex : ∃ k : List Mb,l.map mbA = k.map mbA := ⟨l,rfl⟩
   refine ⟨by simp,zbi,by kernel_rfl,?_⟩
   unfold Try.f14
   cases hz : empP (l.map mbA) with
   | true =>
     simp only [go_sem,zaa,Nat.reduceAdd,Nat.reduceSub,Nat.reduceMul,Int.reduceToNat,reduceCtorEq,↓reduceIte,Int.reducePow,Nat.reducePow,Int.reduceMod,Nat.reduceLeDiff,Int.reduceLE,Int.reduceNe,Int.reduceEq,Nat.reduceEqDiff,Nat.reduceLT,Nat.reduceBEq,List.map_cons,List.map_nil,List.toList_toArray,Array.toList_append,Option.toArray_some,Option.toArray_none,Bool.and_self,ty,zqh,zbi,zwu,zay,hle,hL,hex,hz,cond_true]
     try (refine ⟨_,Weak.refl _,?_⟩)
     try simp only [go_sem,zaa,Nat.reduceAdd,Nat.reduceSub,Nat.reduceMul,Int.reduceToNat,reduceCtorEq,↓reduceIte,Int.reducePow,Nat.reducePow,Int.reduceMod,Nat.reduceLeDiff,Int.reduceLE,Int.reduceNe,Int.reduceEq,Nat.reduceEqDiff,Nat.reduceLT,Nat.reduceBEq,List.map_cons,List.map_nil,List.toList_toArray,Array.toList_append,Option.toArray_some,Option.toArray_none,Bool.and_self,ty,zqh]
   | false =>
     simp only [go_sem,zaa,Nat.reduceAdd,Nat.reduceSub,Nat.reduceMul,Int.reduceToNat,reduceCtorEq,↓reduceIte,Int.reducePow,Nat.reducePow,Int.reduceMod,Nat.reduceLeDiff,Int.reduceLE,Int.reduceNe,Int.reduceEq,Nat.reduceEqDiff,Nat.reduceLT,Nat.reduceBEq,List.map_cons,List.map_nil,List.toList_toArray,Array.toList_append,Option.toArray_some,Option.toArray_none,Bool.and_self,ty,zqh,zbi,zwu,zay,hle,hL,hex,hz,hcl,zak,cond_false]
     try (refine ⟨_,Weak.refl _,?_⟩)
     try simp only [go_sem,zaa,Nat.reduceAdd,Nat.reduceSub,Nat.reduceMul,Int.reduceToNat,reduceCtorEq,↓reduceIte,Int.reducePow,Nat.reducePow,Int.reduceMod,Nat.reduceLeDiff,Int.reduceLE,Int.reduceNe,Int.reduceEq,Nat.reduceEqDiff,Nat.reduceLT,Nat.reduceBEq,List.map_cons,List.map_nil,List.toList_toArray,Array.toList_append,Option.toArray_some,Option.toArray_none,Bool.and_self,ty,zqh,hcl,zak,cond_false,cond_true]
 · exact hp.elim
theorem zrm : zbn Try.prog 11 zhd := by
 refine zbs (S := noS) (SO := Opla20) (T := ty) mixed ty_ok zcm Opla20_ok Try.func11 (c := Try.f11.body.getD .skip) (by kernel_rfl) (fun xs pins hp _ => ?_)
 unfold zhd at hp ⊢
 split at hp
 · rename_i gn ph xs f v _
   obtain ⟨hL,l,rfl⟩ := hp
   rw [List.length_map] at hL
   have hle : (l.map mbA).length = l.length := by simp
   have hex : ∃ k : List Mb,l.map mbA = k.map mbA := ⟨l,rfl⟩
   have hP : ixP 29 v = isD v := if_pos rfl
   rw [zap]
   refine ⟨by simp,plaPl20,by kernel_rfl,?_⟩
   unfold Try.f11
   simp only [go_sem,zaa,Nat.reduceAdd,Nat.reduceSub,Nat.reduceMul,Int.reduceToNat,reduceCtorEq,↓reduceIte,Int.reducePow,Nat.reducePow,Int.reduceMod,Nat.reduceLeDiff,Int.reduceLE,Int.reduceNe,Int.reduceEq,Nat.reduceEqDiff,Nat.reduceLT,Nat.reduceBEq,List.map_cons,List.map_nil,List.toList_toArray,Array.toList_append,Option.toArray_some,Option.toArray_none,Bool.and_self,ty,noS,Opla20,plaPl20,ixGS,zay,hle,hL,hex,zap,hP,true_or,or_true]
   try (refine ⟨_,Weak.refl _,?_⟩)
   try simp only [go_sem,zaa,Nat.reduceAdd,Nat.reduceSub,Nat.reduceMul,Int.reduceToNat,reduceCtorEq,↓reduceIte,Int.reducePow,Nat.reducePow,Int.reduceMod,Nat.reduceLeDiff,Int.reduceLE,Int.reduceNe,Int.reduceEq,Nat.reduceEqDiff,Nat.reduceLT,Nat.reduceBEq,List.map_cons,List.map_nil,List.toList_toArray,Array.toList_append,Option.toArray_some,Option.toArray_none,Bool.and_self,ty,noS]
 · exact hp.elim
theorem zri : zbn Try.prog 13 zhw := by
 refine zbs (S := noS) (SO := noO) (T := ty) mixed ty_ok zcm zhp Try.func13 (c := Try.f13.body.getD .skip) (by kernel_rfl) (fun xs pins hp _ => ?_)
 unfold zhw at hp ⊢
 split at hp
 · rename_i n _
   refine ⟨by simp,zbi,by kernel_rfl,?_⟩
   unfold Try.f13
   simp only [go_sem,zaa,Nat.reduceAdd,Nat.reduceSub,Nat.reduceMul,Int.reduceToNat,reduceCtorEq,↓reduceIte,Int.reducePow,Nat.reducePow,Int.reduceMod,Nat.reduceLeDiff,Int.reduceLE,Int.reduceNe,Int.reduceEq,Nat.reduceEqDiff,Nat.reduceLT,Nat.reduceBEq,List.map_cons,List.map_nil,List.toList_toArray,Array.toList_append,Option.toArray_some,Option.toArray_none,Bool.and_self,ty,noS,zbi]
   try (refine ⟨_,Weak.refl _,?_⟩)
   try simp only [go_sem,zaa,Nat.reduceAdd,Nat.reduceSub,Nat.reduceMul,Int.reduceToNat,reduceCtorEq,↓reduceIte,Int.reducePow,Nat.reducePow,Int.reduceMod,Nat.reduceLeDiff,Int.reduceLE,Int.reduceNe,Int.reduceEq,Nat.reduceEqDiff,Nat.reduceLT,Nat.reduceBEq,List.map_cons,List.map_nil,List.toList_toArray,Array.toList_append,Option.toArray_some,Option.toArray_none,Bool.and_self,ty,noS]
 · exact hp.elim
theorem se1_sound : zdb Try.prog 30 se1S := by
 refine zdf (S := noS) (SO := noO) (T := ty) mixed ty_ok zcm zhp Try.func30 (c := Try.f30.body.getD .skip) (by kernel_rfl) (fun xs pins hp => ?_)
 unfold se1S at hp ⊢
 split at hp
 · rename_i i xs now
   obtain ⟨hi,l,rfl⟩ := hp
   rw [List.length_map] at hi
   have hle : (l.map mbA).length = l.length := by simp
   rw [zap]
   have hs1 := zeh l i hi
   have hmb : mbI l i = l[i] := by unfold mbI; rw [List.getElem?_eq_getElem hi]; rfl
   have hst : ∀ x : Mb,setSlot (l.map mbA) i (.agg [.str x.d,.w (.int .i64 x.t),.w (.bool x.y)]) = (l.set i x).map mbA := fun x => zje x l i hi
   rw [hmb]
   obtain ⟨r,hr⟩ : ∃ r,l[i] = r := ⟨_,rfl⟩
   rw [hr] at hs1 ⊢
   obtain ⟨rd,rt,ry⟩ := r
   have hs1 : slot (l.map mbA) i = .agg [.str rd,.w (.int .i64 rt),.w (.bool ry)] := hs1
   have hst1 := hst (znl now ⟨rd,rt,ry⟩)
   unfold znl mxT at hst1 ⊢
   simp only at hst1
   refine ⟨by simp,fun id => match id with
     | 0 => .prs []
     | _ => .std,by kernel_rfl,?_⟩
   unfold Try.f30
   simp only [go_sem,zaa,Nat.reduceAdd,Nat.reduceSub,Nat.reduceMul,Int.reduceToNat,reduceCtorEq,↓reduceIte,Int.reducePow,Nat.reducePow,Int.reduceMod,Nat.reduceLeDiff,Int.reduceLE,Int.reduceNe,Int.reduceEq,Nat.reduceEqDiff,Nat.reduceLT,Nat.reduceBEq,List.map_cons,List.map_nil,List.toList_toArray,Array.toList_append,Option.toArray_some,Option.toArray_none,Bool.and_self,ty,noS,hle,hs1,hst1,zad,zbb,Int.toNat_natCast]
   repeat (refine And.intro (by omega) ?_)
   try (refine ⟨_,Weak.refl _,?_⟩)
   try simp only [go_sem,zaa,Nat.reduceAdd,Nat.reduceSub,Nat.reduceMul,Int.reduceToNat,reduceCtorEq,↓reduceIte,Int.reducePow,Nat.reducePow,Int.reduceMod,Nat.reduceLeDiff,Int.reduceLE,Int.reduceNe,Int.reduceEq,Nat.reduceEqDiff,Nat.reduceLT,Nat.reduceBEq,List.map_cons,List.map_nil,List.toList_toArray,Array.toList_append,Option.toArray_some,Option.toArray_none,Bool.and_self,ty,noS,zad,zak]
 · exact hp.elim
end
end Go.Proofs.Ytolclgkginfiaaa
namespace Go.Proofs.Ytolclgkginfiaaa
open Ax
def znk (f : FuncId) : Option zar :=
 match f with
 | 14 => some zjq
 | _ => none
theorem zyc : Fns Try.prog znk := by
 intro f s h
 unfold znk at h
 split at h
 · injection h with h; subst h; exact ⟨⟨_,Try.func14,by kernel_rfl,by kernel_rfl⟩,zro⟩
 · cases h
def Ocha20 (f : FuncId) : Option zar :=
 match f with
 | 30 => some se1S
 | _ => none
theorem Ocha20_ok : FnsO Try.prog Ocha20 := by
 intro f s h
 unfold Ocha20 at h
 split at h
 · injection h with h; subst h; exact ⟨⟨_,Try.func30,by kernel_rfl,by kernel_rfl⟩,se1_sound⟩
 · cases h
def chaPl : zhx := fun id => match id with
 | 2 => .opn [] 5
 | _ => .std
def zfy (l : List Mb) (j : Nat) : List Mb := (l.take j).map clrM ++ l.drop j
theorem zoo (l : List Mb) (j : Nat) : (zfy l j).length = l.length := by
 unfold zfy
 simp only [List.length_append,List.length_map,List.length_take,List.length_drop]
 omega
theorem rowsC_get (l : List Mb) (j : Nat) (h : j < l.length) (h' : j < (zfy l j).length) : (zfy l j)[j] = l[j] := by
 have h2 : (zfy l j)[j]? = some l[j] := by
   unfold zfy
   rw [List.getElem?_append_right (by simp; omega)]
   simp only [List.length_map,List.length_take]
   rw [List.getElem?_drop,show j + (j - min j l.length) = j by omega,List.getElem?_eq_getElem h]
 rw [List.getElem?_eq_getElem h'] at h2
 injection h2
theorem rowsC_set (l : List Mb) (j : Nat) (h : j < l.length) : (zfy l j).set j (clrM l[j]) = zfy l (j + 1) := by
 unfold zfy
 have h1 : ((l.take j).map clrM).length = j := by simp; omega
 rw [List.set_append_right _ _ (by omega),h1,Nat.sub_self,List.drop_eq_getElem_cons h,List.set_cons_zero,List.take_succ_eq_append_getElem h,List.map_append]
 simp
section
set_option maxRecDepth 100000
set_option maxHeartbeats 8000000
theorem zxa : zdb Try.prog 12 chaS := by
 refine zdf (S := znk) (SO := Ocha20) (T := ty) mixed ty_ok zyc Ocha20_ok Try.func12 (c := Try.f12.body.getD .skip) (by kernel_rfl) (fun xs pins hp => ?_)
 unfold chaS at hp ⊢
 split at hp
 · rename_i gn ph xs f i id now
   obtain ⟨rfl,⟨i0,i1⟩,hL,l,rfl⟩ := hp
   rw [List.length_map] at hL i1
   have hle : (l.map mbA).length = l.length := by simp
   have hcl := zad l
   have hex : ∃ k : List Mb,l.map mbA = k.map mbA := ⟨l,rfl⟩
   obtain ⟨I,rfl⟩ : ∃ I : Nat,i = I := ⟨i.toNat,by omega⟩
   have hI : I < l.length := by omega
   have hem : empP (l.map mbA) = false := by cases l with | nil => simp at hI | cons _ _ => rfl
   rw [zap,hle]
   generalize hQ : l.set I (znl now (mbI l I)) = Q
   have hQl : Q.length = l.length := by rw [← hQ,List.length_set]
   have hQQ : l.set ((I : Int).toNat) (znl now (mbI l ((I : Int).toNat))) = Q := by rw [← hQ]; simp
   rw [hQQ]
   refine ⟨by simp,chaPl,by kernel_rfl,?_⟩
   unfold Try.f12
   simp only [go_sem,zaa,Nat.reduceAdd,Nat.reduceSub,Nat.reduceMul,Int.reduceToNat,reduceCtorEq,↓reduceIte,Int.reducePow,Nat.reducePow,Int.reduceMod,Nat.reduceLeDiff,Int.reduceLE,Int.reduceNe,Int.reduceEq,Nat.reduceEqDiff,Nat.reduceLT,Nat.reduceBEq,List.map_cons,List.map_nil,List.toList_toArray,Array.toList_append,Option.toArray_some,Option.toArray_none,Bool.and_self,ty,znk,Ocha20,chaPl,zjq,se1S,zay,hle,hL,hex,hem,hcl,hI,hQ,zad,zbb,zap,zak,Int.toNat_natCast,cond_false,cond_true]
   repeat (first | refine And.intro (by omega) ?_ | refine And.intro ⟨by omega,by omega⟩ ?_)
   try (refine ⟨_,Weak.refl _,?_⟩)
   try simp only [go_sem,zaa,Nat.reduceAdd,Nat.reduceSub,Nat.reduceMul,Int.reduceToNat,reduceCtorEq,↓reduceIte,Int.reducePow,Nat.reducePow,Int.reduceMod,Nat.reduceLeDiff,Int.reduceLE,Int.reduceNe,Int.reduceEq,Nat.reduceEqDiff,Nat.reduceLT,Nat.reduceBEq,List.map_cons,List.map_nil,List.toList_toArray,Array.toList_append,Option.toArray_some,Option.toArray_none,Bool.and_self,ty,znk,zad,zak,hle]
 · exact hp.elim
theorem tur_sound : zdb Try.prog 18 turS := by
 refine zdf (S := noS) (SO := noO) (T := ty) mixed ty_ok zcm zhp Try.func18 (c := Try.f18.body.getD .skip) (by kernel_rfl) (fun xs pins hp => ?_)
 unfold turS at hp ⊢
 split at hp
 · rename_i gn ph n xs
   obtain ⟨⟨hn,h0,hn6⟩,⟨g0,g1⟩,l,rfl⟩ := hp
   rw [List.length_map] at hn h0
   have hle : (l.map mbA).length = l.length := by simp
   have hcl := zad l
   have wg : (gn + 1 + 9223372036854775808) % 18446744073709551616 - 9223372036854775808 = gn + 1 := by omega
   rw [zap]
   show _ ∧ _
   have hfin : (l.take n).map clrM ++ l.drop n = zfy l n := rfl
   rw [hfin]
   refine ⟨by simp,zbi,by kernel_rfl,?_⟩
   unfold Try.f18
   by_cases hz : n = 0
   · subst hz
     have d0 : decide (((0 : Nat) : Int) = 0) = true := rfl
     have d1 : decide ((0 : Int) < ((0 : Nat) : Int)) = false := rfl
     have hr0 : zfy l 0 = l := by unfold zfy; simp
     rw [hr0]
     simp only [go_sem,zaa,Nat.reduceAdd,Nat.reduceSub,Nat.reduceMul,Int.reduceToNat,reduceCtorEq,↓reduceIte,Int.reducePow,Nat.reducePow,Int.reduceMod,Nat.reduceLeDiff,Int.reduceLE,Int.reduceNe,Int.reduceEq,Nat.reduceEqDiff,Nat.reduceLT,Nat.reduceBEq,List.map_cons,List.map_nil,List.toList_toArray,Array.toList_append,Option.toArray_some,Option.toArray_none,Bool.and_self,ty,noS,zbi,wg,d0,hcl]
     refine zdt ⟨fun m σ => m = 0 ∧ σ = ⟨[.junk,.rf 4 3 0 0,.rf 5 3 0 0,.junk,.junk,.junk,.junk,.junk,.junk,.junk,.junk,.junk,.junk,.junk,.junk,.junk,.w (.int .i64 ((0 : Nat) : Int)),.w (.int .i64 0),.junk,.junk,.junk,.junk,.junk,.junk,.junk,.junk,.junk],[(0,.g 3 (l.map mbA)),(4,.g 3 [.agg [.w (.int .i64 (gn + 1)),.w (.int .u8 0),.ms 0 3 0 0]]),(5,.g 3 [.agg [.w (.int .i64 0),.w (.int .u8 0),.sg 3 [] true]])],6⟩,?_,?_⟩
     · refine ⟨_,_,zal [0,1,2,3,4,12] rfl rfl rfl ?_ ?_,rfl,rfl⟩
       · simp only [ssT,zau,zav,setSlot,gOf,AV.ren,renL,Blk.ren,Ax.look,Ax.put,reduceCtorEq,↓reduceIte,Nat.reduceEqDiff,Nat.reduceLT,Nat.reduceAdd,List.length_append,List.length_cons,List.length_nil,Option.some.injEq,zak]; try simp
       · simp only [ssT,zau,zav,setSlot,gOf,AV.ren,renL,Blk.ren,Ax.look,Ax.put,reduceCtorEq,↓reduceIte,Nat.reduceEqDiff,Nat.reduceLT,Nat.reduceAdd,List.length_append,List.length_cons,List.length_nil,Option.some.injEq,zak]; try simp
     · rintro m σ ⟨rfl,rfl⟩
       simp only [go_sem,zaa,Nat.reduceAdd,Nat.reduceSub,Nat.reduceMul,Int.reduceToNat,reduceCtorEq,↓reduceIte,Int.reducePow,Nat.reducePow,Int.reduceMod,Nat.reduceLeDiff,Int.reduceLE,Int.reduceNe,Int.reduceEq,Nat.reduceEqDiff,Nat.reduceLT,Nat.reduceBEq,List.map_cons,List.map_nil,List.toList_toArray,Array.toList_append,Option.toArray_some,Option.toArray_none,Bool.and_self,ty,noS,zbi,d1,hcl]
       refine ⟨_,Weak.refl _,?_⟩
       simp only [go_sem,zaa,Nat.reduceAdd,Nat.reduceSub,Nat.reduceMul,Int.reduceToNat,reduceCtorEq,↓reduceIte,Int.reducePow,Nat.reducePow,Int.reduceMod,Nat.reduceLeDiff,Int.reduceLE,Int.reduceNe,Int.reduceEq,Nat.reduceEqDiff,Nat.reduceLT,Nat.reduceBEq,List.map_cons,List.map_nil,List.toList_toArray,Array.toList_append,Option.toArray_some,Option.toArray_none,Bool.and_self,ty,noS,zbi,hcl]
       try (refine ⟨_,Weak.refl _,?_⟩)
       try simp only [go_sem,zaa,Nat.reduceAdd,Nat.reduceSub,Nat.reduceMul,Int.reduceToNat,reduceCtorEq,↓reduceIte,Int.reducePow,Nat.reducePow,Int.reduceMod,Nat.reduceLeDiff,Int.reduceLE,Int.reduceNe,Int.reduceEq,Nat.reduceEqDiff,Nat.reduceLT,Nat.reduceBEq,List.map_cons,List.map_nil,List.toList_toArray,Array.toList_append,Option.toArray_some,Option.toArray_none,Bool.and_self,ty,noS,zbi,hcl,hle,zak,cond_true,cond_false]
   · have d0 : decide ((n : Int) = 0) = false := decide_eq_false (by omega)
     have hif : (if n = 0 then (0 : Int) else 1) = 1 := if_neg hz
     rw [hif]
     simp only [go_sem,zaa,Nat.reduceAdd,Nat.reduceSub,Nat.reduceMul,Int.reduceToNat,reduceCtorEq,↓reduceIte,Int.reducePow,Nat.reducePow,Int.reduceMod,Nat.reduceLeDiff,Int.reduceLE,Int.reduceNe,Int.reduceEq,Nat.reduceEqDiff,Nat.reduceLT,Nat.reduceBEq,List.map_cons,List.map_nil,List.toList_toArray,Array.toList_append,Option.toArray_some,Option.toArray_none,Bool.and_self,ty,noS,zbi,wg,d0,hcl]
     refine zdt ⟨fun m σ => ∃ j : Nat,m = n - j ∧ j ≤ n ∧ σ = ⟨[.junk,.rf 4 3 0 0,.rf 5 3 0 0,.junk,.junk,.junk,.junk,.junk,.junk,.junk,.junk,.junk,.junk,.junk,.junk,.junk,.w (.int .i64 n),.w (.int .i64 j),.junk,.junk,.junk,.junk,.junk,.junk,.junk,.junk,.junk],[(0,.g 3 ((zfy l j).map mbA)),(4,.g 3 [.agg [.w (.int .i64 (gn + 1)),.w (.int .u8 1),.ms 0 3 0 n]]),(5,.g 3 [.agg [.w (.int .i64 0),.w (.int .u8 0),.sg 3 [] true]])],6⟩,?_,?_⟩
     · refine ⟨_,_,zal [0,1,2,3,4,12] rfl rfl rfl ?_ ?_,0,rfl,by omega,rfl⟩
       · simp only [ssT,zau,zav,setSlot,gOf,AV.ren,renL,Blk.ren,Ax.look,Ax.put,reduceCtorEq,↓reduceIte,Nat.reduceEqDiff,Nat.reduceLT,Nat.reduceAdd,List.length_append,List.length_cons,List.length_nil,Option.some.injEq,zak]; try simp
       · simp only [ssT,zau,zav,setSlot,gOf,AV.ren,renL,Blk.ren,Ax.look,Ax.put,reduceCtorEq,↓reduceIte,Nat.reduceEqDiff,Nat.reduceLT,Nat.reduceAdd,List.length_append,List.length_cons,List.length_nil,Option.some.injEq,zak,zfy,List.take_zero,List.drop_zero,List.map_nil,List.nil_append]; try simp
     · rintro m σ ⟨j,rfl,hj,rfl⟩
       have hlj : ((zfy l j).map mbA).length = l.length := by rw [List.length_map,zoo]
       have hcj := zad (zfy l j)
       by_cases hjn : j < n
       · have d2 : decide ((j : Int) < n) = true := decide_eq_true (by omega)
         have e1 : ((j : Int) + 1 + 9223372036854775808) % 18446744073709551616 - 9223372036854775808 = ((j + 1 : Nat) : Int) := by omega
         have hs1 := zeh (zfy l j) j (by rw [zoo]; omega)
         rw [rowsC_get l j (by omega)] at hs1
         have hset := rowsC_set l j (by omega)
         have hst := zje (clrM (l[j]'(by omega))) (zfy l j) j (by rw [zoo]; omega)
         rw [hset] at hst
         obtain ⟨r,hr⟩ : ∃ r,l[j]'(by omega) = r := ⟨_,rfl⟩
         rw [hr] at hs1 hst
         obtain ⟨rd,rt,ry⟩ := r
         have hs1 : slot ((zfy l j).map mbA) j = .agg [.str rd,.w (.int .i64 rt),.w (.bool ry)] := hs1
         have hst : setSlot ((zfy l j).map mbA) j (.agg [.str rd,.w (.int .i64 rt),.w (.bool false)]) = (zfy l (j + 1)).map mbA := hst
         simp only [go_sem,zaa,Nat.reduceAdd,Nat.reduceSub,Nat.reduceMul,Int.reduceToNat,reduceCtorEq,↓reduceIte,Int.reducePow,Nat.reducePow,Int.reduceMod,Nat.reduceLeDiff,Int.reduceLE,Int.reduceNe,Int.reduceEq,Nat.reduceEqDiff,Nat.reduceLT,Nat.reduceBEq,List.map_cons,List.map_nil,List.toList_toArray,Array.toList_append,Option.toArray_some,Option.toArray_none,Bool.and_self,ty,noS,zbi,d2,e1,hs1,hst,hlj,hcj,zad,zbb,Int.toNat_natCast]
         repeat (first | refine And.intro (by omega) ?_ | refine And.intro ⟨by omega,by omega⟩ ?_)
         refine ⟨n - (j + 1),_,by omega,zal [0,1,2,3,4,5] rfl rfl rfl ?_ ?_,j + 1,rfl,by omega,rfl⟩
         · simp only [ssT,zau,zav,setSlot,gOf,AV.ren,renL,Blk.ren,Ax.look,Ax.put,reduceCtorEq,↓reduceIte,Nat.reduceEqDiff,Nat.reduceLT,Nat.reduceAdd,List.length_append,List.length_cons,List.length_nil,Option.some.injEq,zak]; try simp
         · simp only [ssT,zau,zav,setSlot,gOf,AV.ren,renL,Blk.ren,Ax.look,Ax.put,reduceCtorEq,↓reduceIte,Nat.reduceEqDiff,Nat.reduceLT,Nat.reduceAdd,List.length_append,List.length_cons,List.length_nil,Option.some.injEq,zak]; try simp
       · have d2 : decide ((j : Int) < n) = false := decide_eq_false (by omega)
         obtain rfl : j = n := by omega
         simp only [go_sem,zaa,Nat.reduceAdd,Nat.reduceSub,Nat.reduceMul,Int.reduceToNat,reduceCtorEq,↓reduceIte,Int.reducePow,Nat.reducePow,Int.reduceMod,Nat.reduceLeDiff,Int.reduceLE,Int.reduceNe,Int.reduceEq,Nat.reduceEqDiff,Nat.reduceLT,Nat.reduceBEq,List.map_cons,List.map_nil,List.toList_toArray,Array.toList_append,Option.toArray_some,Option.toArray_none,Bool.and_self,ty,noS,zbi,d2,hcj]
         refine ⟨_,Weak.refl _,?_⟩
         simp only [go_sem,zaa,Nat.reduceAdd,Nat.reduceSub,Nat.reduceMul,Int.reduceToNat,reduceCtorEq,↓reduceIte,Int.reducePow,Nat.reducePow,Int.reduceMod,Nat.reduceLeDiff,Int.reduceLE,Int.reduceNe,Int.reduceEq,Nat.reduceEqDiff,Nat.reduceLT,Nat.reduceBEq,List.map_cons,List.map_nil,List.toList_toArray,Array.toList_append,Option.toArray_some,Option.toArray_none,Bool.and_self,ty,noS,zbi,hcj]
         try (refine ⟨_,Weak.refl _,?_⟩)
         try simp only [go_sem,zaa,Nat.reduceAdd,Nat.reduceSub,Nat.reduceMul,Int.reduceToNat,reduceCtorEq,↓reduceIte,Int.reducePow,Nat.reducePow,Int.reduceMod,Nat.reduceLeDiff,Int.reduceLE,Int.reduceNe,Int.reduceEq,Nat.reduceEqDiff,Nat.reduceLT,Nat.reduceBEq,List.map_cons,List.map_nil,List.toList_toArray,Array.toList_append,Option.toArray_some,Option.toArray_none,Bool.and_self,ty,noS,zbi,hcj,hlj,hle,zak,cond_true,cond_false]
 · exact hp.elim
end
end Go.Proofs.Ytolclgkginfiaaa
