/- What the proofs of this seat stand on; it asks nothing. -/
import Derived.Test.YtolclgkginfiaaaYa13
set_option linter.unusedSimpArgs false
set_option linter.unusedVariables false
namespace Go.Proofs.Ytolclgkginfiaaa
open Ax
def fiF (gn ph : Int) (l : List Mb) (v : List UInt8) (gen now : Int) : Int × Int :=
 if chG gn ph l = 0 then
   if timB now = true then
     if l.findIdx (isD v) < l.length then
       if gen = gn then ((l.findIdx (isD v) : Nat),0) else (0,19)
     else (0,20)
   else (0,11)
 else (0,chG gn ph l)
def fiS20 : zar
 | [.agg [.w (.int .i64 gn),.w (.int .u8 ph),.sg 3 xs f],.str v,.w (.int .i64 gen),.w (.int .i64 now)],[] => ⟨xs.length ≤ 900000 ∧ ∃ l : List Mb,xs = l.map mbA ∧ ∀ r ∈ l,r.d.length ≤ 9223372036854775807,.tup [.w (.int .i64 (fiF gn ph (xs.map umb) v gen now).1),.w (.int .i64 (fiF gn ph (xs.map umb) v gen now).2)],[]⟩
 | _,_ => zbq
def znb (f : FuncId) : Option zar :=
 match f with
 | 8 => some chGS
 | 10 => some timS
 | 11 => some zhd
 | _ => none
theorem Sfi20_ok : Fns Try.prog znb := by
 intro f s h
 unfold znb at h
 split at h
 · injection h with h; subst h; exact ⟨⟨_,Try.func8,by kernel_rfl,by kernel_rfl⟩,zxc⟩
 · injection h with h; subst h; exact ⟨⟨_,Try.func10,by kernel_rfl,by kernel_rfl⟩,zod⟩
 · injection h with h; subst h; exact ⟨⟨_,Try.func11,by kernel_rfl,by kernel_rfl⟩,zrm⟩
 · cases h
section
set_option maxRecDepth 100000
set_option maxHeartbeats 8000000
theorem fi_sound : zbn Try.prog 19 fiS20 := by
 refine zir (S := znb) (T := ty) mixed ty_ok Sfi20_ok Try.func19 (c := Try.f19.body.getD .skip) (by kernel_rfl) (by kernel_rfl) (fun xs pins hp _ => ?_)
 unfold fiS20 at hp ⊢
 split at hp
 · rename_i gn ph xs f v gen now _
   obtain ⟨hL0,l,rfl,hd⟩ := hp
   rw [List.length_map] at hL0
   have hle : (l.map mbA).length = l.length := by simp
   have hL : l.length ≤ 1000000 := by omega
   have hL9 : l.length ≤ 9223372036854775807 := by omega
   have hLj : l.length ≤ 900000 := by omega
   have hex : ∃ k : List Mb,l.map mbA = k.map mbA := ⟨l,rfl⟩
   have hxd : ∃ k : List Mb,l.map mbA = k.map mbA ∧ ∀ r ∈ k,r.d.length ≤ 9223372036854775807 := ⟨l,rfl,hd⟩
   have coeN : ∀ f,coe ty 22 (.sg 3 [] f) = .sg 3 [] f := fun f => rfl
   rw [zap]
   unfold fiF
   refine ⟨by simp,?_⟩
   unfold Try.f19
   by_cases hch : chG gn ph l = 0
   · have q0 : decide (chG gn ph l = 0) = true := decide_eq_true hch
     rw [if_pos hch]
     cases hT : timB now with
     | false =>
       rw [if_neg (by simp)]
       simp (config := { maxSteps := 3000000 }) only [go_sem,zac,Nat.reduceAdd,Nat.reduceSub,Nat.reduceMul,Int.reduceToNat,reduceCtorEq,↓reduceIte,Int.reducePow,Nat.reducePow,Int.reduceMod,Nat.reduceLeDiff,Int.reduceLE,Int.reduceNe,Int.reduceEq,Nat.reduceEqDiff,Nat.reduceLT,Nat.reduceBEq,ty,znb,chGS,timS,zhd,zay,coeN,hle,hL,hL9,hLj,hex,hxd,zap,zad,hch,Int.toNat_natCast,Bool.not_true,Bool.not_false,decide_true,q0,hT]
       repeat (refine And.intro (by first | omega | exact zcr | exact ⟨by omega,by omega⟩ | exact ⟨rfl,rfl⟩ | (unfold top; omega)) ?_)
       refine ⟨_,Weak.refl _,?_⟩
       simp only [go_sem,zac,Nat.reduceAdd,Nat.reduceSub,Nat.reduceMul,Int.reduceToNat,reduceCtorEq,↓reduceIte,Int.reducePow,Nat.reducePow,Int.reduceMod,Nat.reduceLeDiff,Int.reduceLE,Int.reduceNe,Int.reduceEq,Nat.reduceEqDiff,Nat.reduceLT,Nat.reduceBEq,ty,znb]
     | true =>
       rw [if_pos rfl]
       by_cases hf : l.findIdx (isD v) < l.length
       · rw [if_pos hf]
         have hpl : ixG (isD v) l = (l.findIdx (isD v) : Nat) := by unfold ixG; rw [if_pos hf]
         generalize l.findIdx (isD v) = I at *
         have q1 : decide ((I : Int) < 0) = false := decide_eq_false (by omega)
         by_cases hg : gen = gn
         · rw [if_pos hg]
           have q2 : decide (gen = gn) = true := decide_eq_true hg
           simp (config := { maxSteps := 3000000 }) only [go_sem,zac,Nat.reduceAdd,Nat.reduceSub,Nat.reduceMul,Int.reduceToNat,reduceCtorEq,↓reduceIte,Int.reducePow,Nat.reducePow,Int.reduceMod,Nat.reduceLeDiff,Int.reduceLE,Int.reduceNe,Int.reduceEq,Nat.reduceEqDiff,Nat.reduceLT,Nat.reduceBEq,ty,znb,chGS,timS,zhd,zay,coeN,hle,hL,hL9,hLj,hex,hxd,zap,zad,hch,Int.toNat_natCast,Bool.not_true,Bool.not_false,decide_true,q0,hT,hpl,q1,q2]
           repeat (refine And.intro (by first | omega | exact zcr | exact ⟨by omega,by omega⟩ | exact ⟨rfl,rfl⟩ | (unfold top; omega)) ?_)
           refine ⟨_,Weak.refl _,?_⟩
           simp only [go_sem,zac,Nat.reduceAdd,Nat.reduceSub,Nat.reduceMul,Int.reduceToNat,reduceCtorEq,↓reduceIte,Int.reducePow,Nat.reducePow,Int.reduceMod,Nat.reduceLeDiff,Int.reduceLE,Int.reduceNe,Int.reduceEq,Nat.reduceEqDiff,Nat.reduceLT,Nat.reduceBEq,ty,znb]
         · rw [if_neg hg]
           have q2 : decide (gen = gn) = false := decide_eq_false hg
           simp (config := { maxSteps := 3000000 }) only [go_sem,zac,Nat.reduceAdd,Nat.reduceSub,Nat.reduceMul,Int.reduceToNat,reduceCtorEq,↓reduceIte,Int.reducePow,Nat.reducePow,Int.reduceMod,Nat.reduceLeDiff,Int.reduceLE,Int.reduceNe,Int.reduceEq,Nat.reduceEqDiff,Nat.reduceLT,Nat.reduceBEq,ty,znb,chGS,timS,zhd,zay,coeN,hle,hL,hL9,hLj,hex,hxd,zap,zad,hch,Int.toNat_natCast,Bool.not_true,Bool.not_false,decide_true,q0,hT,hpl,q1,q2]
           repeat (refine And.intro (by first | omega | exact zcr | exact ⟨by omega,by omega⟩ | exact ⟨rfl,rfl⟩ | (unfold top; omega)) ?_)
           refine ⟨_,Weak.refl _,?_⟩
           simp only [go_sem,zac,Nat.reduceAdd,Nat.reduceSub,Nat.reduceMul,Int.reduceToNat,reduceCtorEq,↓reduceIte,Int.reducePow,Nat.reducePow,Int.reduceMod,Nat.reduceLeDiff,Int.reduceLE,Int.reduceNe,Int.reduceEq,Nat.reduceEqDiff,Nat.reduceLT,Nat.reduceBEq,ty,znb]
       · rw [if_neg hf]
         have hpl : ixG (isD v) l = -1 := by unfold ixG; rw [if_neg hf]
         have q1 : decide ((-1 : Int) < 0) = true := rfl
         simp (config := { maxSteps := 3000000 }) only [go_sem,zac,Nat.reduceAdd,Nat.reduceSub,Nat.reduceMul,Int.reduceToNat,reduceCtorEq,↓reduceIte,Int.reducePow,Nat.reducePow,Int.reduceMod,Nat.reduceLeDiff,Int.reduceLE,Int.reduceNe,Int.reduceEq,Nat.reduceEqDiff,Nat.reduceLT,Nat.reduceBEq,ty,znb,chGS,timS,zhd,zay,coeN,hle,hL,hL9,hLj,hex,hxd,zap,zad,hch,Int.toNat_natCast,Bool.not_true,Bool.not_false,decide_true,q0,hT,hpl,q1]
         repeat (refine And.intro (by first | omega | exact zcr | exact ⟨by omega,by omega⟩ | exact ⟨rfl,rfl⟩ | (unfold top; omega)) ?_)
         refine ⟨_,Weak.refl _,?_⟩
         simp only [go_sem,zac,Nat.reduceAdd,Nat.reduceSub,Nat.reduceMul,Int.reduceToNat,reduceCtorEq,↓reduceIte,Int.reducePow,Nat.reducePow,Int.reduceMod,Nat.reduceLeDiff,Int.reduceLE,Int.reduceNe,Int.reduceEq,Nat.reduceEqDiff,Nat.reduceLT,Nat.reduceBEq,ty,znb]
   · have q0 : decide (chG gn ph l = 0) = false := decide_eq_false hch
     rw [if_neg hch]
     have hch : True := trivial
     simp (config := { maxSteps := 3000000 }) only [go_sem,zac,Nat.reduceAdd,Nat.reduceSub,Nat.reduceMul,Int.reduceToNat,reduceCtorEq,↓reduceIte,Int.reducePow,Nat.reducePow,Int.reduceMod,Nat.reduceLeDiff,Int.reduceLE,Int.reduceNe,Int.reduceEq,Nat.reduceEqDiff,Nat.reduceLT,Nat.reduceBEq,ty,znb,chGS,timS,zhd,zay,coeN,hle,hL,hL9,hLj,hex,hxd,zap,zad,hch,Int.toNat_natCast,Bool.not_true,Bool.not_false,decide_true,q0]
     repeat (refine And.intro (by first | omega | exact zcr | exact ⟨by omega,by omega⟩ | exact ⟨rfl,rfl⟩ | (unfold top; omega)) ?_)
     refine ⟨_,Weak.refl _,?_⟩
     simp only [go_sem,zac,Nat.reduceAdd,Nat.reduceSub,Nat.reduceMul,Int.reduceToNat,reduceCtorEq,↓reduceIte,Int.reducePow,Nat.reducePow,Int.reduceMod,Nat.reduceLeDiff,Int.reduceLE,Int.reduceNe,Int.reduceEq,Nat.reduceEqDiff,Nat.reduceLT,Nat.reduceBEq,ty,znb]
 · exact hp.elim
end
theorem fi_ok20 {gn ph : Int} {l : List Mb} {v : List UInt8} {gen now : Int} (h : (fiF gn ph l v gen now).2 = 0) : chG gn ph l = 0 ∧ timB now = true ∧ l.findIdx (isD v) < l.length ∧ gen = gn ∧ fiF gn ph l v gen now = (((l.findIdx (isD v) : Nat) : Int),(0 : Int)) := by
 unfold fiF at h ⊢
 by_cases hc : chG gn ph l = 0
 · rw [if_pos hc] at h ⊢
   by_cases hT : timB now = true
   · rw [if_pos hT] at h ⊢
     by_cases hf : l.findIdx (isD v) < l.length
     · rw [if_pos hf] at h ⊢
       by_cases hg : gen = gn
       · rw [if_pos hg]; exact ⟨hc,hT,hf,hg,rfl⟩
       · rw [if_neg hg] at h; exact absurd h (by decide)
     · rw [if_neg hf] at h; exact absurd h (by decide)
   · rw [if_neg hT] at h; exact absurd h (by decide)
 · rw [if_neg hc] at h; exact absurd h hc
end Go.Proofs.Ytolclgkginfiaaa
namespace Go.Proofs.Ytolclgkginfiaaa
open Ax
theorem clean_mb : ∀ (l : List Mb),cleanL (l.map mbA) = true
 | [] => rfl
 | x :: r => by simp only [List.map_cons,cleanL,clean_mb r]; rfl
def yesM (m : Mb) : Mb := ⟨m.d,m.t,true⟩
def sy1S : zar
 | [.rf 0 3 i 0],[.g 3 xs] => ⟨i < xs.length ∧ (∃ l : List Mb,xs = l.map mbA),.tup [],[.g 3 (((xs.map umb).set i (yesM (mbI (xs.map umb) i))).map mbA)]⟩
 | _,_ => zbq
def chaYS : zar
 | [.agg [.w (.int .i64 gn),.w (.int .u8 ph),.ms 0 3 0 n],.w (.int .i64 i),.fn id []],[.g 3 xs] => ⟨id = 20 ∧ (0 ≤ i ∧ i < n) ∧ (n = xs.length ∧ 0 < n ∧ n ≤ 1000000) ∧ (∃ l : List Mb,xs = l.map mbA),
     .agg [.w (.int .i64 gn),.w (.int .u8 ph),.ms 1 3 0 n],[.g 3 xs,.g 3 (((xs.map umb).set i.toNat (yesM (mbI (xs.map umb) i.toNat))).map mbA)]⟩
 | _,_ => zbq
section
set_option maxRecDepth 100000
set_option maxHeartbeats 4000000
theorem sy1_sound : zdb Try.prog 20 sy1S := by
 refine zdf (S := noS) (SO := noO) (T := ty) mixed ty_ok zcm zhp Try.func20 (c := Try.f20.body.getD .skip) (by kernel_rfl) (fun xs pins hp => ?_)
 unfold sy1S at hp ⊢
 split at hp
 · rename_i i xs
   obtain ⟨hi,l,rfl⟩ := hp
   rw [List.length_map] at hi
   have hle : (l.map mbA).length = l.length := by simp
   rw [zap]
   have hs1 := zeh l i hi
   have hmb : mbI l i = l[i] := by unfold mbI; rw [List.getElem?_eq_getElem hi]; rfl
   have hst : ∀ x : Mb,setSlot (l.map mbA) i (.agg [.str x.d,.w (.int .i64 x.t),.w (.bool x.y)]) = (l.set i x).map mbA := fun x => zje x l i hi
   rw [hmb]
   obtain ⟨r,hr⟩ : ∃ r,l[i] = r := ⟨_,rfl⟩
   rw [hr] at hs1 ⊢
   obtain ⟨rd,rt,ry⟩ := r
   have hs1 : slot (l.map mbA) i = .agg [.str rd,.w (.int .i64 rt),.w (.bool ry)] := hs1
   have hst1 := hst (yesM ⟨rd,rt,ry⟩)
   unfold yesM at hst1 ⊢
   simp only at hst1
   refine ⟨by simp,zbi,by kernel_rfl,?_⟩
   unfold Try.f20
   simp only [go_sem,zaa,Nat.reduceAdd,Nat.reduceSub,Nat.reduceMul,Int.reduceToNat,reduceCtorEq,↓reduceIte,Int.reducePow,Nat.reducePow,Int.reduceMod,Nat.reduceLeDiff,Int.reduceLE,Int.reduceNe,Int.reduceEq,Nat.reduceEqDiff,Nat.reduceLT,Nat.reduceBEq,List.map_cons,List.map_nil,List.toList_toArray,Array.toList_append,Option.toArray_some,Option.toArray_none,Bool.and_self,ty,noS,zbi,hle,hs1,hst1,zad,zbb,Int.toNat_natCast]
   repeat (refine And.intro (by omega) ?_)
   try (refine ⟨_,Weak.refl _,?_⟩)
   try simp only [go_sem,zaa,Nat.reduceAdd,Nat.reduceSub,Nat.reduceMul,Int.reduceToNat,reduceCtorEq,↓reduceIte,Int.reducePow,Nat.reducePow,Int.reduceMod,Nat.reduceLeDiff,Int.reduceLE,Int.reduceNe,Int.reduceEq,Nat.reduceEqDiff,Nat.reduceLT,Nat.reduceBEq,List.map_cons,List.map_nil,List.toList_toArray,Array.toList_append,Option.toArray_some,Option.toArray_none,Bool.and_self,ty,noS,zad,zak]
 · exact hp.elim
end
def zum (f : FuncId) : Option zar :=
 match f with
 | 20 => some sy1S
 | _ => none
theorem OchaY20_ok : FnsO Try.prog zum := by
 intro f s h
 unfold zum at h
 split at h
 · injection h with h; subst h; exact ⟨⟨_,Try.func20,by kernel_rfl,by kernel_rfl⟩,sy1_sound⟩
 · cases h
section
set_option maxRecDepth 100000
set_option maxHeartbeats 8000000
theorem chaY_sound : zdb Try.prog 12 chaYS := by
 refine zdf (S := znk) (SO := zum) (T := ty) mixed ty_ok zyc OchaY20_ok Try.func12 (c := Try.f12.body.getD .skip) (by kernel_rfl) (fun xs pins hp => ?_)
 unfold chaYS at hp ⊢
 split at hp
 · rename_i gn ph n i id xs
   obtain ⟨rfl,⟨i0,i1⟩,⟨rfl,hn,hL⟩,l,rfl⟩ := hp
   rw [List.length_map] at hL i1 hn
   have dpos : decide (0 < l.length) = true := decide_eq_true hn
   have hdle : decide (0 + l.length ≤ (l.map mbA).length) = true := decide_eq_true (by simp)
   have htk : List.take l.length (l.map mbA) = l.map mbA := List.take_of_length_le (by simp)
   have hle : (l.map mbA).length = l.length := by simp
   have hcl := zad l
   have hex : ∃ k : List Mb,l.map mbA = k.map mbA := ⟨l,rfl⟩
   obtain ⟨I,rfl⟩ : ∃ I : Nat,i = I := ⟨i.toNat,by omega⟩
   have hI : I < l.length := by omega
   have hem : empP (l.map mbA) = false := by cases l with | nil => simp at hI | cons _ _ => rfl
   rw [zap,hle]
   generalize hQ : l.set I (yesM (mbI l I)) = Q
   have hQl : Q.length = l.length := by rw [← hQ,List.length_set]
   have hQQ : l.set ((I : Int).toNat) (yesM (mbI l ((I : Int).toNat))) = Q := by rw [← hQ]; simp
   rw [hQQ]
   refine ⟨by simp,chaPl,by kernel_rfl,?_⟩
   unfold Try.f12
   simp only [go_sem,zaa,Nat.reduceAdd,Nat.reduceSub,Nat.reduceMul,Int.reduceToNat,reduceCtorEq,↓reduceIte,Int.reducePow,Nat.reducePow,Int.reduceMod,Nat.reduceLeDiff,Int.reduceLE,Int.reduceNe,Int.reduceEq,Nat.reduceEqDiff,Nat.reduceLT,Nat.reduceBEq,List.map_cons,List.map_nil,List.toList_toArray,Array.toList_append,Option.toArray_some,Option.toArray_none,Bool.and_self,ty,znk,zum,chaPl,zjq,sy1S,zay,hle,hL,hn,dpos,hdle,htk,clean_mb,List.drop_zero,hex,hem,hcl,hI,hQ,zad,zbb,zap,zak,Int.toNat_natCast,cond_false,cond_true]
   repeat (first | refine And.intro (by omega) ?_ | refine And.intro (fun y hy => zcr y hy) ?_ | refine And.intro ⟨by omega,by omega⟩ ?_)
   try (refine ⟨_,Weak.refl _,?_⟩)
   try simp only [go_sem,zaa,Nat.reduceAdd,Nat.reduceSub,Nat.reduceMul,Int.reduceToNat,reduceCtorEq,↓reduceIte,Int.reducePow,Nat.reducePow,Int.reduceMod,Nat.reduceLeDiff,Int.reduceLE,Int.reduceNe,Int.reduceEq,Nat.reduceEqDiff,Nat.reduceLT,Nat.reduceBEq,List.map_cons,List.map_nil,List.toList_toArray,Array.toList_append,Option.toArray_some,Option.toArray_none,Bool.and_self,ty,znk,zad,zak,hle]
 · exact hp.elim
end
end Go.Proofs.Ytolclgkginfiaaa
namespace Go.Proofs.Ytolclgkginfiaaa
open Ax
def nmL (l : List Mb) : List (List UInt8) := l.map fun m => m.d
theorem nm_str (l : List Mb) : (l.map fun m => AV.str m.d) = (nmL l).map AV.str := by unfold nmL; rw [List.map_map]; rfl
theorem leD_lt {a q : List UInt8} (h : leD a q = false) : q < a := by
 unfold leD at h
 simp only [Bool.or_eq_false_iff,decide_eq_false_iff_not] at h
 have h1 := bl_tot h.2 h.1
 rw [zqy] at h1
 exact of_decide_eq_true h1
theorem ztj : ∀ (l : List Mb) (p : Option (List UInt8)),zei p l = true → srtT (nmL l) ∧ ∀ q,p = some q → ∀ m ∈ l,q < m.d
 | [],p,_ => ⟨List.Pairwise.nil,by simp⟩
 | a :: r,p,h => by
   rw [zon] at h
   obtain ⟨_,h2,h3⟩ := h
   obtain ⟨i1,i2⟩ := ztj r (some a.d) h3
   refine ⟨List.pairwise_cons.2 ⟨fun x hx => ?_,i1⟩,fun q hq m hm => ?_⟩
   · obtain ⟨m,hm,rfl⟩ := List.mem_map.1 hx
     exact i2 _ rfl m hm
   · have hqa := leD_lt (h2 q hq)
     rcases List.mem_cons.1 hm with rfl | hm
     · exact hqa
     · exact List.lt_trans hqa (i2 _ rfl m hm)
theorem chG_srt {gn ph : Int} {l : List Mb} (h : chG gn ph l = 0) : srtT (nmL l) := by
 unfold chG at h
 split at h
 · rename_i hb
   unfold chB at hb
   simp only [Bool.and_eq_true] at hb
   exact (ztj l none hb.2.2.2).1
 · omega
theorem nm_set (l : List Mb) (I : Nat) (x : Mb) (hI : I < l.length) (hx : x.d = (mbI l I).d) : nmL (l.set I x) = nmL l := by
 unfold nmL
 refine List.ext_getElem (by simp) fun i h1 h2 => ?_
 simp only [List.getElem_map,List.getElem_set]
 split
 · rename_i e
   subst e
   rw [hx]
   unfold mbI
   rw [List.getElem?_eq_getElem hI]; rfl
 · rfl
theorem nm_there {v : List UInt8} {l : List Mb} (hs : srtT (nmL l)) (h : l.findIdx (isD v) < l.length) : thT v (nmL l) = true := by
 refine (thT_mem hs).2 ?_
 have h1 : isD v l[l.findIdx (isD v)] = true := List.findIdx_getElem (w := h)
 unfold isD at h1
 have h2 : l[l.findIdx (isD v)].d = v := of_decide_eq_true h1
 rw [← h2]
 exact List.mem_map.2 ⟨_,List.getElem_mem h,rfl⟩
structure SR where
 r : JR
 o : AV
def sySet (l : List Mb) (I : Nat) (now : Int) : List Mb := (l.set I (znl now (mbI l I))).set I (yesM (mbI (l.set I (znl now (mbI l I))) I))
def syF (gn ph : Int) (l : List Mb) (v : List UInt8) (gen parts now : Int) : SR :=
 if (fiF gn ph l v gen now).2 = 0 then
   ⟨⟨gn,if allY (sySet l (l.findIdx (isD v)) now) = true then 2 else ph,sySet l (l.findIdx (isD v)) now,false,0⟩,.si (ofF (nmL l) parts v) false⟩
 else ⟨errJ (fiF gn ph l v gen now).2,.sg 1 [] true⟩
def syA (x : SR) : AV := .tup [.agg [.w (.int .i64 x.r.g),.w (.int .u8 x.r.p),.sg 3 (x.r.l.map mbA) x.r.f],x.o,.w (.int .i64 x.r.e)]
def syS : zar
 | [.agg [.w (.int .i64 gn),.w (.int .u8 ph),.sg 3 xs f],.str v,.w (.int .i64 gen),.w (.int .i64 parts),.w (.int .i64 now)],[] => ⟨xs.length ≤ 900000 ∧ ∃ l : List Mb,xs = l.map mbA ∧ ∀ r ∈ l,r.d.length ≤ 9223372036854775807,syA (syF gn ph (xs.map umb) v gen parts now),[]⟩
 | _,_ => zbq
def chaUS : zar
 | [.agg [.w (.int .i64 gn),.w (.int .u8 ph),.sg 3 xs f],.w (.int .i64 i),.fn id [.rf 0 1 0 0]],[.g 1 [.w (.int .i64 now)]] => chaS [.agg [.w (.int .i64 gn),.w (.int .u8 ph),.sg 3 xs f],.w (.int .i64 i),.fn id [.rf 0 1 0 0]] [.g 1 [.w (.int .i64 now)]]
 | [.agg [.w (.int .i64 gn),.w (.int .u8 ph),.ms 0 3 0 n],.w (.int .i64 i),.fn id []],[.g 3 xs] => chaYS [.agg [.w (.int .i64 gn),.w (.int .u8 ph),.ms 0 3 0 n],.w (.int .i64 i),.fn id []] [.g 3 xs]
 | _,_ => zbq
theorem chaU_sound : zdb Try.prog 12 chaUS := by
 intro xs pins hp
 unfold chaUS at hp ⊢
 split at hp
 · exact zxa _ _ hp
 · exact chaY_sound _ _ hp
 · exact hp.elim
def zno (f : FuncId) : Option zar :=
 match f with
 | 19 => some fiS20
 | 13 => some zhw
 | 21 => some alyS
 | 5 => some namS
 | 22 => some ofS
 | _ => none
theorem Ssy20_ok : Fns Try.prog zno := by
 intro f s h
 unfold zno at h
 split at h
 · injection h with h; subst h; exact ⟨⟨_,Try.func19,by kernel_rfl,by kernel_rfl⟩,fi_sound⟩
 · injection h with h; subst h; exact ⟨⟨_,Try.func13,by kernel_rfl,by kernel_rfl⟩,zri⟩
 · injection h with h; subst h; exact ⟨⟨_,Try.func21,by kernel_rfl,by kernel_rfl⟩,zyb⟩
 · injection h with h; subst h; exact ⟨⟨_,Try.func5,by kernel_rfl,by kernel_rfl⟩,zvh⟩
 · injection h with h; subst h; exact ⟨⟨_,Try.func22,by kernel_rfl,by kernel_rfl⟩,of_sound⟩
 · cases h
def zul (f : FuncId) : Option zar :=
 match f with
 | 12 => some chaUS
 | _ => none
theorem Osy20_ok : FnsO Try.prog zul := by
 intro f s h
 unfold zul at h
 split at h
 · injection h with h; subst h; exact ⟨⟨_,Try.func12,by kernel_rfl,by kernel_rfl⟩,chaU_sound⟩
 · cases h
def syPl : zhx := fun id => match id with
 | 4 => .drs [] 4
 | 5 => .opn [] 2
 | 8 => .wkp [(0,2),(0,5)]
 | _ => .std
section
set_option maxRecDepth 100000
set_option maxHeartbeats 16000000
theorem sy_sound : zbn Try.prog 6 syS := by
 refine zbs (S := zno) (SO := zul) (T := ty) mixed ty_ok Ssy20_ok Osy20_ok Try.func6 (c := Try.f6.body.getD .skip) (by kernel_rfl) (fun xs pins hp _ => ?_)
 unfold syS at hp ⊢
 split at hp
 · rename_i gn ph xs f v gen parts now _
   obtain ⟨hL0,l,rfl,hd⟩ := hp
   rw [List.length_map] at hL0
   have hle : (l.map mbA).length = l.length := by simp
   have hL : l.length ≤ 1000000 := by omega
   have hL9 : l.length ≤ 9223372036854775807 := by omega
   have hLj : l.length ≤ 900000 := by omega
   have hex : ∃ k : List Mb,l.map mbA = k.map mbA := ⟨l,rfl⟩
   have hxd : ∃ k : List Mb,l.map mbA = k.map mbA ∧ ∀ r ∈ k,r.d.length ≤ 9223372036854775807 := ⟨l,rfl,hd⟩
   have coeN : ∀ f,coe ty 22 (.sg 3 [] f) = .sg 3 [] f := fun f => rfl
   rw [zap]
   unfold syF
   by_cases he : (fiF gn ph l v gen now).2 = 0
   · rw [if_pos he]
     obtain ⟨hc,hT,hf,rfl,hfi⟩ := fi_ok20 he
     rw [hfi] at he
     have hsr := chG_srt hc
     have hth := nm_there hsr hf
     obtain ⟨I,hI2⟩ : ∃ I,l.findIdx (isD v) = I := ⟨_,rfl⟩
     rw [hI2] at hf hfi ⊢
     have q0 : decide ((0 : Int) = 0) = true := rfl
     unfold sySet
     have hn1 : nmL (l.set I (znl now (mbI l I))) = nmL l := nm_set _ _ _ hf rfl
     generalize hQ : l.set I (znl now (mbI l I)) = Q at *
     have hQl : Q.length = l.length := by rw [← hQ,List.length_set]
     have hn2 : nmL (Q.set I (yesM (mbI Q I))) = nmL l := (nm_set Q I (yesM (mbI Q I)) (by omega) rfl).trans hn1
     generalize hW : Q.set I (yesM (mbI Q I)) = W at *
     have hWl : W.length = l.length := by rw [← hW,List.length_set]; exact hQl
     have hwm : (W.map mbA).length = l.length := by simp [hWl]
     have hqm : (Q.map mbA).length = l.length := by simp [hQl]
     have hk1 : decide (0 + l.length ≤ (W.map mbA).length) = true := decide_eq_true (by simp; omega)
     have hk2 : List.take l.length (W.map mbA) = W.map mbA := List.take_of_length_le (by simp; omega)
     have hIn : ((I : Int) < (l.length : Int)) = True := eq_true (by omega)
     have hI0 : ((0 : Int) ≤ (I : Int)) = True := eq_true (by omega)
     have hl0 : (0 < l.length) = True := eq_true (by omega)
     have hld : decide (0 < l.length) = true := decide_eq_true (by omega)
     have hexQ : ∃ k : List Mb,Q.map mbA = k.map mbA := ⟨Q,rfl⟩
     have hexW : ∃ k : List Mb,W.map mbA = k.map mbA := ⟨W,rfl⟩
     have hnm : (W.map fun m => AV.str m.d) = (nmL l).map AV.str := by rw [nm_str,hn2]
     refine ⟨by simp,syPl,by kernel_rfl,?_⟩
     unfold Try.f6
     iterate 8
       try rw [zaa]
       try simp (config := { maxSteps := 3000000 }) only [go_sem,zaa,Nat.reduceAdd,Nat.reduceSub,Nat.reduceMul,Int.reduceToNat,reduceCtorEq,↓reduceIte,Int.reducePow,Nat.reducePow,Int.reduceMod,Nat.reduceLeDiff,Int.reduceLE,Int.reduceNe,Int.reduceEq,Nat.reduceEqDiff,Nat.reduceLT,Nat.reduceBEq,List.map_cons,List.map_nil,List.toList_toArray,Array.toList_append,Option.toArray_some,Option.toArray_none,Bool.and_self,-zaa,ty,zno,zul,syPl,fiS20,zhw,chaUS,chaS,zay,coeN,hle,hL,hL9,hLj,hex,hxd,zap,zad,zbb,zak,zgp,Int.toNat_natCast,Bool.not_true,Bool.not_false,decide_true,true_or,or_true,hfi,q0]
       repeat (refine And.intro (by first | omega | exact zcr | exact ⟨by omega,by omega⟩ | exact ⟨rfl,rfl⟩ | (unfold top; omega)) ?_)
     refine ⟨_,_,Weak.refl _,?_⟩
     have hmW := zap W
     have hclW : (∀ y ∈ W.map mbA,y.closed = true) := fun y hy => zcr y hy
     have hclT : (∀ y ∈ W.map mbA,y.closed = true) = True := eq_true hclW
     have hnl : ((nmL l).map AV.str).length = l.length := by simp [nmL]
     have hexN : ∃ k : List (List UInt8),(nmL l).map AV.str = k.map AV.str ∧ srtT k ∧ thT v k = true := ⟨_,rfl,hsr,hth⟩
     have hmN := zlk (nmL l)
     cases hA : allY W with
     | true =>
       iterate 6
         try rw [zaa]
         try simp (config := { maxSteps := 3000000 }) only [go_sem,zaa,Nat.reduceAdd,Nat.reduceSub,Nat.reduceMul,Int.reduceToNat,reduceCtorEq,↓reduceIte,Int.reducePow,Nat.reducePow,Int.reduceMod,Nat.reduceLeDiff,Int.reduceLE,Int.reduceNe,Int.reduceEq,Nat.reduceEqDiff,Nat.reduceLT,Nat.reduceBEq,List.map_cons,List.map_nil,List.toList_toArray,Array.toList_append,Option.toArray_some,Option.toArray_none,Bool.and_self,-zaa,ty,zno,zul,syPl,fiS20,zhw,chaUS,chaS,chaYS,alyS,zay,coeN,hle,hL,hL9,hLj,hex,hxd,zap,zad,zbb,zak,zgp,Int.toNat_natCast,Bool.not_true,Bool.not_false,decide_true,true_or,or_true,hfi,q0,hQ,hIn,hI0,hW,hqm,hwm,hl0,hld,hexQ,hexW,hA,hk2,hclT]
         repeat (refine And.intro (by first | omega | exact zcr | exact ⟨by omega,by omega⟩ | exact ⟨rfl,rfl⟩ | (unfold top; omega)) ?_)
       unfold wkF
       refine ⟨_,_,zgz 196 3 34 (W.map mbA) rfl (zad _) (by simp [slot,AV.ids,idsL]),?_⟩
       simp only [fgL,fgH,AV.fg,Blk.fg,Nat.reduceBEq,cond_true,cond_false,Bool.and_true,beq_self_eq_true,Bool.true_and,List.drop_zero,zgp,hk1,hk2]
       simp (config := { maxSteps := 3000000 }) only [go_sem,zaa,Nat.reduceAdd,Nat.reduceSub,Nat.reduceMul,Int.reduceToNat,reduceCtorEq,↓reduceIte,Int.reducePow,Nat.reducePow,Int.reduceMod,Nat.reduceLeDiff,Int.reduceLE,Int.reduceNe,Int.reduceEq,Nat.reduceEqDiff,Nat.reduceLT,Nat.reduceBEq,List.map_cons,List.map_nil,List.toList_toArray,Array.toList_append,Option.toArray_some,Option.toArray_none,Bool.and_self,ty,zno,zul,syPl,namS,ofS,zay,zfw,hL,hwm,hexW,hnm,hnl,hexN,hmN,hmW,zad,zbb,zak]
       refine ⟨_,Weak.refl _,?_⟩
       simp only [go_sem,zaa,Nat.reduceAdd,Nat.reduceSub,Nat.reduceMul,Int.reduceToNat,reduceCtorEq,↓reduceIte,Int.reducePow,Nat.reducePow,Int.reduceMod,Nat.reduceLeDiff,Int.reduceLE,Int.reduceNe,Int.reduceEq,Nat.reduceEqDiff,Nat.reduceLT,Nat.reduceBEq,List.map_cons,List.map_nil,List.toList_toArray,Array.toList_append,Option.toArray_some,Option.toArray_none,Bool.and_self,ty,zno,syA,zad,zak]
     | false =>
       iterate 6
         try rw [zaa]
         try simp (config := { maxSteps := 3000000 }) only [go_sem,zaa,Nat.reduceAdd,Nat.reduceSub,Nat.reduceMul,Int.reduceToNat,reduceCtorEq,↓reduceIte,Int.reducePow,Nat.reducePow,Int.reduceMod,Nat.reduceLeDiff,Int.reduceLE,Int.reduceNe,Int.reduceEq,Nat.reduceEqDiff,Nat.reduceLT,Nat.reduceBEq,List.map_cons,List.map_nil,List.toList_toArray,Array.toList_append,Option.toArray_some,Option.toArray_none,Bool.and_self,-zaa,ty,zno,zul,syPl,fiS20,zhw,chaUS,chaS,chaYS,alyS,zay,coeN,hle,hL,hL9,hLj,hex,hxd,zap,zad,zbb,zak,zgp,Int.toNat_natCast,Bool.not_true,Bool.not_false,decide_true,true_or,or_true,hfi,q0,hQ,hIn,hI0,hW,hqm,hwm,hl0,hld,hexQ,hexW,hA,hk2,hclT]
         repeat (refine And.intro (by first | omega | exact zcr | exact ⟨by omega,by omega⟩ | exact ⟨rfl,rfl⟩ | (unfold top; omega)) ?_)
       unfold wkF
       refine ⟨_,_,zgz 196 3 34 (W.map mbA) rfl (zad _) (by simp [slot,AV.ids,idsL]),?_⟩
       simp only [fgL,fgH,AV.fg,Blk.fg,Nat.reduceBEq,cond_true,cond_false,Bool.and_true,beq_self_eq_true,Bool.true_and,List.drop_zero,zgp,hk1,hk2]
       simp (config := { maxSteps := 3000000 }) only [go_sem,zaa,Nat.reduceAdd,Nat.reduceSub,Nat.reduceMul,Int.reduceToNat,reduceCtorEq,↓reduceIte,Int.reducePow,Nat.reducePow,Int.reduceMod,Nat.reduceLeDiff,Int.reduceLE,Int.reduceNe,Int.reduceEq,Nat.reduceEqDiff,Nat.reduceLT,Nat.reduceBEq,List.map_cons,List.map_nil,List.toList_toArray,Array.toList_append,Option.toArray_some,Option.toArray_none,Bool.and_self,ty,zno,zul,syPl,namS,ofS,zay,zfw,hL,hwm,hexW,hnm,hnl,hexN,hmN,hmW,zad,zbb,zak]
       refine ⟨_,Weak.refl _,?_⟩
       simp only [go_sem,zaa,Nat.reduceAdd,Nat.reduceSub,Nat.reduceMul,Int.reduceToNat,reduceCtorEq,↓reduceIte,Int.reducePow,Nat.reducePow,Int.reduceMod,Nat.reduceLeDiff,Int.reduceLE,Int.reduceNe,Int.reduceEq,Nat.reduceEqDiff,Nat.reduceLT,Nat.reduceBEq,List.map_cons,List.map_nil,List.toList_toArray,Array.toList_append,Option.toArray_some,Option.toArray_none,Bool.and_self,ty,zno,syA,zad,zak]
   · rw [if_neg he]
     obtain ⟨⟨a,b⟩,hX⟩ : ∃ X,fiF gn ph l v gen now = X := ⟨_,rfl⟩
     rw [hX] at he ⊢
     have he : b ≠ 0 := he
     have q0 : decide (b = 0) = false := decide_eq_false he
     refine ⟨by simp,syPl,by kernel_rfl,?_⟩
     unfold Try.f6
     iterate 8
       try rw [zaa]
       try simp (config := { maxSteps := 3000000 }) only [go_sem,zaa,Nat.reduceAdd,Nat.reduceSub,Nat.reduceMul,Int.reduceToNat,reduceCtorEq,↓reduceIte,Int.reducePow,Nat.reducePow,Int.reduceMod,Nat.reduceLeDiff,Int.reduceLE,Int.reduceNe,Int.reduceEq,Nat.reduceEqDiff,Nat.reduceLT,Nat.reduceBEq,List.map_cons,List.map_nil,List.toList_toArray,Array.toList_append,Option.toArray_some,Option.toArray_none,Bool.and_self,-zaa,ty,zno,zul,syPl,fiS20,zhw,chaS,zay,coeN,hle,hL,hL9,hLj,hex,hxd,zap,zad,zbb,zak,zgp,Int.toNat_natCast,Bool.not_true,Bool.not_false,decide_true,true_or,or_true,hX,q0]
       repeat (refine And.intro (by first | omega | exact zcr | exact ⟨by omega,by omega⟩ | exact ⟨rfl,rfl⟩ | (unfold top; omega)) ?_)
     try (refine ⟨_,Weak.refl _,?_⟩)
     try simp only [go_sem,zaa,Nat.reduceAdd,Nat.reduceSub,Nat.reduceMul,Int.reduceToNat,reduceCtorEq,↓reduceIte,Int.reducePow,Nat.reducePow,Int.reduceMod,Nat.reduceLeDiff,Int.reduceLE,Int.reduceNe,Int.reduceEq,Nat.reduceEqDiff,Nat.reduceLT,Nat.reduceBEq,List.map_cons,List.map_nil,List.toList_toArray,Array.toList_append,Option.toArray_some,Option.toArray_none,Bool.and_self,ty,zno,syA,errJ,List.map_nil]
 · exact hp.elim
end
end Go.Proofs.Ytolclgkginfiaaa
namespace Go.Proofs.Ytolclgkginfiaaa
open Ax
theorem lt_leD {a q : List UInt8} (h : q < a) : leD a q = false := by
 unfold leD
 rw [zqy]
 simp only [Bool.or_eq_false_iff,decide_eq_false_iff_not]
 refine ⟨fun h2 => List.lt_irrefl _ (List.lt_trans h h2),fun e => ?_⟩
 rw [e] at h
 exact List.lt_irrefl _ h
theorem zom : ∀ (l : List Mb) (p : Option (List UInt8)),zei p l = true ↔ (∀ m ∈ l,rowB m = true) ∧ srtT (nmL l) ∧ ∀ q,p = some q → ∀ m ∈ l,q < m.d
 | [],p => by
   constructor
   · intro _; exact ⟨by simp,List.Pairwise.nil,by simp⟩
   · intro _; cases p <;> rfl
 | a :: r,p => by
   constructor
   · intro h
     have h0 := ztj (a :: r) p h
     refine ⟨?_,h0⟩
     rw [zon] at h
     intro m hm
     rcases List.mem_cons.1 hm with rfl | hm
     · exact h.1
     · exact ((zom r _).1 h.2.2).1 m hm
   · rintro ⟨h1,h2,h3⟩
     rw [zon]
     have h2 : srtT (a.d :: nmL r) := h2
     obtain ⟨i1,i2⟩ := List.pairwise_cons.1 h2
     refine ⟨h1 a (by simp),fun q hq => lt_leD (h3 q hq a (by simp)),(zom r _).2 ⟨fun m hm => h1 m (by simp [hm]),i2,fun q hq m hm => ?_⟩⟩
     injection hq with hq
     subst hq
     exact i1 _ (List.mem_map.2 ⟨m,hm,rfl⟩)
theorem rows_iff (l : List Mb) : zei none l = true ↔ (∀ m ∈ l,rowB m = true) ∧ srtT (nmL l) := by
 rw [zom]
 constructor
 · rintro ⟨a,b,_⟩; exact ⟨a,b⟩
 · rintro ⟨a,b⟩; exact ⟨a,b,by simp⟩
theorem ch_iff {gn ph : Int} {l : List Mb} : chG gn ph l = 0 ↔ l.length ≤ 16 ∧ timB gn = true ∧ phB ph l = true ∧ zei none l = true := by
 unfold chG
 constructor
 · intro h
   split at h
   · rename_i hb
     unfold chB at hb
     simp only [Bool.and_eq_true,decide_eq_true_eq] at hb
     exact hb
   · omega
 · rintro ⟨a,b,c,d⟩
   rw [if_pos]
   unfold chB
   simp only [Bool.and_eq_true,decide_eq_true_eq]
   exact ⟨a,b,c,d⟩
end Go.Proofs.Ytolclgkginfiaaa
namespace Go.Proofs.Ytolclgkginfiaaa
open Ax
def idP (i : Nat) : List UInt8 := [109,UInt8.ofNat (97 + i)]
def mbP (n i : Nat) : List Mb := (List.range n).map fun j => if j < i then ⟨idP j,99,true⟩ else ⟨idP j,(j : Nat),false⟩
def phP (n i : Nat) : Int := if n = 0 then 0 else if i = n then 2 else 1
theorem mbP_len (n i : Nat) : (mbP n i).length = n := by unfold mbP; simp
theorem jo_PA : ∀ i < 7,(joF (i : Nat) (phP i 0) (mbP i 0) (idP i) (i : Nat)).g = ((i + 1 : Nat) : Int) ∧ (joF (i : Nat) (phP i 0) (mbP i 0) (idP i) (i : Nat)).p = phP (i + 1) 0 ∧ (joF (i : Nat) (phP i 0) (mbP i 0) (idP i) (i : Nat)).l = mbP (i + 1) 0 ∧ (joF (i : Nat) (phP i 0) (mbP i 0) (idP i) (i : Nat)).f = false ∧ (joF (i : Nat) (phP i 0) (mbP i 0) (idP i) (i : Nat)).e = 0 := by decide +kernel
theorem jo_P (i : Nat) (h : i < 7) : joF (i : Nat) (phP i 0) (mbP i 0) (idP i) (i : Nat) = ⟨((i + 1 : Nat) : Int),phP (i + 1) 0,mbP (i + 1) 0,false,0⟩ := by
 obtain ⟨h1,h2,h3,h4,h5⟩ := jo_PA i h
 rw [← h1,← h2,← h3,← h4,← h5]
theorem ch_P : ∀ n < 8,∀ i ≤ n,chG (n : Nat) (phP n i) (mbP n i) = 0 := by decide +kernel
theorem fi_P : ∀ n < 8,∀ i < n,fiF (n : Nat) (phP n i) (mbP n i) (idP i) (n : Nat) 99 = (((i : Nat) : Int),(0 : Int)) ∧ (mbP n i).findIdx (isD (idP i)) = i := by decide +kernel
theorem fe_P : ∀ n < 8,∀ i < n,(fiF (n : Nat) (phP n i) (mbP n i) (idP i) ((n : Nat) - 1) 99).2 = 19 := by decide +kernel
theorem set_P : ∀ n < 8,∀ i < n,sySet (mbP n i) i 99 = mbP n (i + 1) ∧ (if allY (mbP n (i + 1)) = true then 2 else phP n i) = phP n (i + 1) := by decide +kernel
theorem nm_P (n i : Nat) : nmL (mbP n i) = (List.range n).map idP := by
 unfold nmL mbP
 rw [List.map_map]
 refine List.map_congr_left fun j _ => ?_
 simp only [Function.comp]
 split <;> rfl
theorem pl_P : ∀ n < 8,∀ i < n,plT (idP i) ((List.range n).map idP) = i := by decide +kernel
theorem rgK_rowA (P n : Nat) : ∀ (k i : Nat),i < k → (rgK P n k).1.getD i [] = iotI (rgK P n i).2 (zjr P n i)
 | 0,_,h => by omega
 | k + 1,i,h => by
   simp only [rgK]
   by_cases hi : i < k
   · rw [List.getD_eq_getElem?_getD,List.getElem?_append_left (by rw [zmj]; exact hi),← List.getD_eq_getElem?_getD]
     exact rgK_rowA P n k i hi
   · obtain rfl : i = k := by omega
     rw [List.getD_eq_getElem?_getD,List.getElem?_append_right (by rw [zmj]; omega),zmj,Nat.sub_self]; rfl
theorem rgK_row (P n k i : Nat) (h : i < k) : (rgK P n k).1.getD i [] = iotI (rgK P n i).2 (zjr P n i) := rgK_rowA P n k i h
theorem sy_P (n i : Nat) (P : Int) (hn : n < 8) (hi : i < n) : syF (n : Nat) (phP n i) (mbP n i) (idP i) (n : Nat) P 99 = ⟨⟨(n : Nat),phP n (i + 1),mbP n (i + 1),false,0⟩,.si (iotI (rgK (clpN P) n i).2 (zjr (clpN P) n i)) false⟩ := by
 obtain ⟨h1,h2⟩ := fi_P n hn i hi
 obtain ⟨h3,h4⟩ := set_P n hn i hi
 unfold syF
 rw [if_pos (by rw [h1]),h2,h3,h4,nm_P]
 have hl : ((List.range n).map idP).length = n := by simp
 have hr : ofF ((List.range n).map idP) P (idP i) = iotI (rgK (clpN P) n i).2 (zjr (clpN P) n i) := by
   unfold ofF rgF
   rw [hl,pl_P n hn i hi]
   exact rgK_row _ _ _ _ hi
 rw [hr]
theorem se_P (n i : Nat) (P : Int) (hn : n < 8) (hi : i < n) : syF (n : Nat) (phP n i) (mbP n i) (idP i) ((n : Nat) - 1) P 99 = ⟨errJ 19,.sg 1 [] true⟩ := by
 have h1 := fe_P n hn i hi
 unfold syF
 rw [if_neg (by rw [h1]; decide),h1]
theorem rgK_sum (P n : Nat) : ∀ k,(rgK P n k).2 = k * (P / n) + min k (P % n)
 | 0 => by simp [rgK]
 | k + 1 => by
   have := rgK_sum P n k
   simp only [rgK,zjr]
   rw [this,Nat.add_mul,Nat.one_mul]
   generalize k * (P / n) = A
   generalize P / n = Q
   generalize P % n = R
   split <;> omega
theorem rgK_all (P n : Nat) (h : 0 < n) : (rgK P n n).2 = P := by
 rw [rgK_sum]
 have h1 := Nat.div_add_mod P n
 have h2 := Nat.mod_lt P h
 rw [Nat.min_eq_right (Nat.le_of_lt h2)]
 exact h1
theorem rgK_mono (P n : Nat) : ∀ (d k : Nat),(rgK P n k).2 ≤ (rgK P n (k + d)).2
 | 0,k => Nat.le_refl _
 | d + 1,k => Nat.le_trans (rgK_mono P n d k) (Nat.le_add_right (rgK P n (k + d)).2 (zjr P n (k + d)))
def zmm (a P : Nat) : List Int := (List.range P).map fun j => if j < a then 1 else 0
theorem zdd (a P : Nat) : (zmm a P).length = P := by unfold zmm; simp
theorem zii (a P j : Nat) (h : j < P) : (zmm a P)[j]'(by rw [zdd]; exact h) = if j < a then 1 else 0 := by unfold zmm; simp
theorem onesP_set (a P : Nat) (h : a < P) : (zmm a P).set a 1 = zmm (a + 1) P := by
 refine List.ext_getElem (by rw [List.length_set,zdd,zdd]) fun j h1 h2 => ?_
 rw [List.length_set,zdd] at h1
 rw [List.getElem_set,zii _ _ _ h1,zii _ _ _ h1]
 split
 · rename_i e; subst e; rw [if_pos (by omega)]
 · rename_i e
   by_cases hj : j < a
   · rw [if_pos hj,if_pos (by omega)]
   · rw [if_neg hj,if_neg (by omega)]
end Go.Proofs.Ytolclgkginfiaaa
namespace Go.Proofs.Ytolclgkginfiaaa
open Ax
def ptS : zar
 | [.w (.int .u8 n),.w (.int .u8 q)],[] => ⟨(0 ≤ n ∧ n < 256) ∧ 0 ≤ q ∧ q < 256,.w (.bool true),[]⟩
 | _,_ => zbq
def zjs (f : FuncId) : Option zar :=
 match f with
 | 7 => some yesS
 | 4 => some joS
 | 6 => some syS
 | 5 => some namS
 | _ => none
theorem Spt20_ok : Fns Try.prog zjs := by
 intro f s h
 unfold zjs at h
 split at h
 · injection h with h; subst h; exact ⟨⟨_,Try.func7,by kernel_rfl,by kernel_rfl⟩,aw20_sound⟩
 · injection h with h; subst h; exact ⟨⟨_,Try.func4,by kernel_rfl,by kernel_rfl⟩,jo_sound⟩
 · injection h with h; subst h; exact ⟨⟨_,Try.func6,by kernel_rfl,by kernel_rfl⟩,sy_sound⟩
 · injection h with h; subst h; exact ⟨⟨_,Try.func5,by kernel_rfl,by kernel_rfl⟩,zvh⟩
 · cases h
def ptPl : Plan := fun id => match id with
 | 15 => some [(9,14)]
 | 16 => some [(8,13)]
 | _ => none
theorem zxb {g p : Int} {l : List Mb} (h : chG g p l = 0) : ∀ r ∈ l,r.d.length ≤ 9223372036854775807 := by
 intro r hr
 obtain ⟨_,_,_,h4⟩ := ch_iff.1 h
 have h5 := ((rows_iff l).1 h4).1 r hr
 unfold rowB idB at h5
 simp only [Bool.and_eq_true,decide_eq_true_eq] at h5
 omega
theorem onesP_zero (P : Nat) : List.replicate P (0 : Int) = zmm 0 P := by
 refine List.ext_getElem (by rw [List.length_replicate,zdd]) fun j h1 h2 => ?_
 rw [List.length_replicate] at h1
 rw [zii _ _ _ h1,List.getElem_replicate]; rfl
section
set_option maxRecDepth 100000
set_option maxHeartbeats 64000000
theorem pt_law : zbn Try.prog 3 ptS := by
 refine zwj (S := zjs) (T := ty) (pl := ptPl) mixed ty_ok Spt20_ok Try.func3 (c := Try.f3.body.getD .skip) (by kernel_rfl) (by kernel_rfl) (fun xs pins hp _ => ?_)
 unfold ptS at hp ⊢
 split at hp
 · rename_i n q _
   obtain ⟨⟨n0,n1⟩,q0,q1⟩ := hp
   refine ⟨by simp,?_⟩
   obtain ⟨N,hN⟩ : ∃ N : Nat,Int.tmod n 8 = (N : Int) := ⟨(n.tmod 8).toNat,by rw [Int.tmod_eq_emod_of_nonneg n0]; omega⟩
   have hN8 : N < 8 := by rw [Int.tmod_eq_emod_of_nonneg n0] at hN; omega
   obtain ⟨P,hP⟩ : ∃ P : Nat,Int.tmod q 40 = (P : Int) := ⟨(q.tmod 40).toNat,by rw [Int.tmod_eq_emod_of_nonneg q0]; omega⟩
   have hP40 : P < 40 := by rw [Int.tmod_eq_emod_of_nonneg q0] at hP; omega
   have hNw : ((N : Int) + 9223372036854775808) % 18446744073709551616 - 9223372036854775808 = (N : Int) := by omega
   have hPw : ((P : Int) + 9223372036854775808) % 18446744073709551616 - 9223372036854775808 = (P : Int) := by omega
   have hcP : clpN (P : Int) = P := by unfold clpN; omega
   unfold Try.f3
   simp only [go_sem,zag,Nat.reduceAdd,Nat.reduceSub,Nat.reduceMul,Int.reduceToNat,reduceCtorEq,↓reduceIte,Int.reducePow,Nat.reducePow,Int.reduceMod,Nat.reduceLeDiff,Int.reduceLE,Int.reduceNe,Int.reduceEq,Nat.reduceEqDiff,Nat.reduceLT,Nat.reduceBEq,List.map_cons,List.map_nil,List.toList_toArray,Array.toList_append,Option.toArray_some,Option.toArray_none,Bool.and_self,ty,zjs,ptPl]
   refine zgw ⟨fun m σ => ∃ (i : Nat) (f : Bool),m = N - i ∧ i ≤ N ∧
     σ = ⟨[.w (.int .u8 n),.w (.int .u8 q),.junk,.junk,.w (.bool false),.rf 4 3 0 0,.w (.int .i64 i),.junk,.junk,.junk,.junk,.junk,.junk,.junk,.junk,.junk,.junk,.junk,.junk,.junk,.junk,.junk,.junk,.junk,.junk,.junk,.junk,.junk,.junk,.junk,.junk,.junk,.junk,.junk,.junk,.junk,.junk,.junk,.junk,.junk,.junk,.junk,.junk,.junk,.junk,.junk,.junk,.junk,.junk,.junk,.junk,.junk,.junk,.junk,.junk,.junk,.junk,.junk,.junk,.junk,.junk,.junk,.junk,.junk,.junk,.junk,.junk,.junk,.junk,.junk,.junk,.junk,.junk,.junk,.junk,.junk,.junk,.junk,.junk,.junk,.junk,.junk,.junk,.junk,.junk,.junk,.junk,.junk,.junk,.junk,.junk,.junk,.junk,.junk,.junk,.junk,.junk,.junk,.junk,.junk,.junk,.junk,.junk,.junk,.junk,.junk,.junk,.junk,.junk,.junk,.junk,.junk,.junk,.junk,.junk,.junk,.junk,.junk,.junk,.junk,.junk,.junk,.junk,.junk,.junk,.junk,.junk,.junk,.junk,.junk,.junk,.junk,.junk,.junk,.junk,.junk,.junk,.junk,.junk,.junk,.junk,.junk,.junk,.junk,.junk,.junk,.junk,.junk],[(4,.g 3 [.agg [.w (.int .i64 i),.w (.int .u8 (phP i 0)),.sg 3 ((mbP i 0).map mbA) f]])],5⟩,?_,?_⟩
   · refine ⟨_,_,zal [0,1,2,3,12] rfl rfl rfl ?_ ?_,0,true,rfl,by omega,rfl⟩
     · simp only [ssT,zau,zav,setSlot,gOf,AV.ren,renL,Blk.ren,Ax.look,Ax.put,reduceCtorEq,↓reduceIte,Nat.reduceEqDiff,Nat.reduceLT,Nat.reduceAdd,List.length_append,List.length_cons,List.length_nil,Option.some.injEq]; try simp
     · simp only [ssT,zau,zav,setSlot,gOf,AV.ren,renL,Blk.ren,Ax.look,Ax.put,reduceCtorEq,↓reduceIte,Nat.reduceEqDiff,Nat.reduceLT,Nat.reduceAdd,List.length_append,List.length_cons,List.length_nil,Option.some.injEq]; try simp
       try exact ⟨rfl,rfl⟩
   · rintro m σ ⟨i,f,rfl,hi,rfl⟩
     have hc := ch_P i (by omega) 0 (by omega)
     have e1 : ((i : Int) + 1 + 9223372036854775808) % 18446744073709551616 - 9223372036854775808 = ((i + 1 : Nat) : Int) := by omega
     have hmn : ((mbP i 0).map mbA).length = i := by rw [List.length_map,mbP_len]
     have hml : i ≤ 900000 := by omega
     have hml1 : i ≤ 1000000 := by omega
     have hmx : ∃ k : List Mb,(mbP i 0).map mbA = k.map mbA ∧ ∀ r ∈ k,r.d.length ≤ 9223372036854775807 := ⟨_,rfl,zxb hc⟩
     have hmy : ∃ k : List Mb,(mbP i 0).map mbA = k.map mbA := ⟨_,rfl⟩
     by_cases hil : i < N
     · have d1 : decide ((i : Int) < (N : Int)) = true := decide_eq_true (by omega)
       have hjo := jo_P i (by omega)
       have ea : (97 + (i : Int) + 9223372036854775808) % 18446744073709551616 - 9223372036854775808 = ((97 + i : Nat) : Int) := by omega
       have em : ((97 + i : Nat) : Int) % 256 = ((97 + i : Nat) : Int) := by omega
       have eb : (0 ≤ ((97 + i : Nat) : Int)) = True := eq_true (by omega)
       have ec : (((97 + i : Nat) : Int) < 256) = True := eq_true (by omega)
       have hid : [UInt8.ofNat 109,UInt8.ofNat (97 + i)] = idP i := rfl
       have htk : List.take 2 (idP i) = idP i := rfl
       have hi2 : (idP i).length = 2 := rfl
       have d00 : decide ((0 : Int) = 0) = true := rfl
       simp only [go_sem,zag,Nat.reduceAdd,Nat.reduceSub,Nat.reduceMul,Int.reduceToNat,reduceCtorEq,↓reduceIte,Int.reducePow,Nat.reducePow,Int.reduceMod,Nat.reduceLeDiff,Int.reduceLE,Int.reduceNe,Int.reduceEq,Nat.reduceEqDiff,Nat.reduceLT,Nat.reduceBEq,List.map_cons,List.map_nil,List.toList_toArray,Array.toList_append,Option.toArray_some,Option.toArray_none,Bool.and_self,ty,zjs,ptPl,joS,jrA,zay,hN,hNw,d1,hmn,hml,hmx,zap,zad,zbb,hjo,ea,em,eb,ec,hid,htk,hi2,d00,e1,Int.toNat_natCast,Bool.not_true]
       refine ⟨by omega,N - (i + 1),_,by omega,zal [0,1,2,3,4] rfl rfl rfl ?_ ?_,i + 1,false,rfl,by omega,rfl⟩
       all_goals (simp only [ssT,zau,zav,setSlot,gOf,AV.ren,renL,Blk.ren,Ax.look,Ax.put,reduceCtorEq,↓reduceIte,Nat.reduceEqDiff,Nat.reduceLT,Nat.reduceAdd,List.length_append,List.length_cons,List.length_nil,Option.some.injEq,zak]; try simp)
     · have d1 : decide ((i : Int) < (N : Int)) = false := decide_eq_false (by omega)
       obtain rfl : i = N := by omega
       have hnm : ((mbP i 0).map fun m => AV.str m.d) = ((List.range i).map idP).map AV.str := by rw [nm_str,nm_P]
       have hnl : (((List.range i).map idP).map AV.str).length = i := by simp
       simp only [go_sem,zag,Nat.reduceAdd,Nat.reduceSub,Nat.reduceMul,Int.reduceToNat,reduceCtorEq,↓reduceIte,Int.reducePow,Nat.reducePow,Int.reduceMod,Nat.reduceLeDiff,Int.reduceLE,Int.reduceNe,Int.reduceEq,Nat.reduceEqDiff,Nat.reduceLT,Nat.reduceBEq,List.map_cons,List.map_nil,List.toList_toArray,Array.toList_append,Option.toArray_some,Option.toArray_none,Bool.and_self,ty,zjs,ptPl,namS,zay,zfw,hN,hNw,hP,hPw,d1,hmn,hml1,hmy,zap,zad,zbb,hnm,hnl]
       have hr0 : List.replicate P (0 : Int) = zmm (rgK P i 0).2 P := onesP_zero P
       refine ⟨_,Weak.refl _,?_⟩
       simp only [go_sem,zag,Nat.reduceAdd,Nat.reduceSub,Nat.reduceMul,Int.reduceToNat,reduceCtorEq,↓reduceIte,Int.reducePow,Nat.reducePow,Int.reduceMod,Nat.reduceLeDiff,Int.reduceLE,Int.reduceNe,Int.reduceEq,Nat.reduceEqDiff,Nat.reduceLT,Nat.reduceBEq,List.map_cons,List.map_nil,List.toList_toArray,Array.toList_append,Option.toArray_some,Option.toArray_none,Bool.and_self,ty,zjs,ptPl,namS,zay,zfw,hP,hPw,hmn,hml1,hmy,zap,zad,zbb,hnm,hnl,hr0,Int.toNat_natCast]
       obtain ⟨W,hW⟩ : ∃ W,(List.range i).map idP = W := ⟨_,rfl⟩
       rw [hW] at hnl ⊢
       have hWl : W.length = i := by rw [← hW]; simp
       have hWi : ∀ (j : Nat) (h : j < W.length),W[j] = idP j := fun j h => by subst hW; simp
       refine ⟨⟨by omega,by omega,by omega⟩,?_⟩
       refine zgw ⟨fun m σ => ∃ (j : Nat) (f : Bool),m = i - j ∧ j ≤ i ∧
         σ = ⟨[.w (.int .u8 n),.w (.int .u8 q),.junk,.junk,.w (.bool false),.rf 4 3 0 0,.junk,.junk,.junk,.w (.int .i64 P),.ms 5 1 0 P,.sg 1 (W.map .str) false,.w (.int .i64 j),.junk,.junk,.junk,.junk,.junk,.junk,.junk,.junk,.junk,.junk,.junk,.junk,.junk,.junk,.junk,.junk,.junk,.junk,.junk,.junk,.junk,.junk,.junk,.junk,.junk,.junk,.junk,.junk,.junk,.junk,.junk,.junk,.junk,.junk,.junk,.junk,.junk,.junk,.junk,.junk,.junk,.junk,.junk,.junk,.junk,.junk,.junk,.junk,.junk,.junk,.junk,.junk,.junk,.junk,.junk,.junk,.junk,.junk,.junk,.junk,.junk,.junk,.junk,.junk,.junk,.junk,.junk,.junk,.junk,.junk,.junk,.junk,.junk,.junk,.junk,.junk,.junk,.junk,.junk,.junk,.junk,.junk,.junk,.junk,.junk,.junk,.junk,.junk,.junk,.junk,.junk,.junk,.junk,.junk,.junk,.junk,.junk,.junk,.junk,.junk,.junk,.junk,.junk,.junk,.junk,.junk,.junk,.junk,.junk,.junk,.junk,.junk,.junk,.junk,.junk,.junk,.junk,.junk,.junk,.junk,.junk,.junk,.junk,.junk,.junk,.junk,.junk,.junk,.junk,.junk,.junk,.junk,.junk,.junk,.junk],[(4,.g 3 [.agg [.w (.int .i64 i),.w (.int .u8 (phP i j)),.sg 3 ((mbP i j).map mbA) f]]),(5,.i (zmm (rgK P i j).2 P))],6⟩,?_,?_⟩
       · refine ⟨_,_,zal [0,1,2,3,4,85] rfl rfl rfl ?_ ?_,0,f,rfl,by omega,rfl⟩
         all_goals (simp only [ssT,zau,zav,setSlot,gOf,AV.ren,renL,Blk.ren,Ax.look,Ax.put,reduceCtorEq,↓reduceIte,Nat.reduceEqDiff,Nat.reduceLT,Nat.reduceAdd,List.length_append,List.length_cons,List.length_nil,Option.some.injEq,zak]; try simp)
       · clear d1 e1 hc hmn hml hml1 hmx hmy hnm hr0 f hi
         rintro m σ ⟨j,f,rfl,hj,rfl⟩
         have e1 : ((j : Int) + 1 + 9223372036854775808) % 18446744073709551616 - 9223372036854775808 = ((j + 1 : Nat) : Int) := by omega
         by_cases hjl : j < i
         · have d1 : decide ((j : Int) < (i : Int)) = true := decide_eq_true (by omega)
           have hc := ch_P i hN8 j (by omega)
           have hmn : ((mbP i j).map mbA).length = i := by rw [List.length_map,mbP_len]
           have hml : i ≤ 900000 := by omega
           have hmx : ∃ k : List Mb,(mbP i j).map mbA = k.map mbA ∧ ∀ r ∈ k,r.d.length ≤ 9223372036854775807 := ⟨_,rfl,zxb hc⟩
           have hse := se_P i j (P : Int) hN8 hjl
           have hsy := sy_P i j (P : Int) hN8 hjl
           rw [hcP] at hsy
           have hs1 := zgh W j (by omega)
           rw [hWi j (by omega)] at hs1
           have e3 : ((i : Int) - 1 + 9223372036854775808) % 18446744073709551616 - 9223372036854775808 = (i : Int) - 1 := by omega
           have hst : (rgK P i (j + 1)).2 = (rgK P i j).2 + zjr P i j := rfl
           have hsl : (rgK P i (j + 1)).2 ≤ P := by
             have h1 := rgK_mono P i (i - (j + 1)) (j + 1)
             rw [show j + 1 + (i - (j + 1)) = i by omega,rgK_all P i (by omega)] at h1
             exact h1
           obtain ⟨s,hs⟩ : ∃ s,(rgK P i j).2 = s := ⟨_,rfl⟩
           obtain ⟨M,hM⟩ : ∃ M,zjr P i j = M := ⟨_,rfl⟩
           rw [hs,hM] at hst hsy
           rw [hst] at hsl
           have hil := znx s M
           have d00 : decide ((0 : Int) = 0) = true := rfl
           have d19 : decide ((19 : Int) = 19) = true := rfl
           rw [hs]
           simp only [go_sem,zag,Nat.reduceAdd,Nat.reduceSub,Nat.reduceMul,Int.reduceToNat,reduceCtorEq,↓reduceIte,Int.reducePow,Nat.reducePow,Int.reduceMod,Nat.reduceLeDiff,Int.reduceLE,Int.reduceNe,Int.reduceEq,Nat.reduceEqDiff,Nat.reduceLT,Nat.reduceBEq,List.map_cons,List.map_nil,List.toList_toArray,Array.toList_append,Option.toArray_some,Option.toArray_none,Bool.and_self,ty,zjs,ptPl,syS,syA,errJ,zay,zfw,hnl,d1,hmn,hml,hmx,zap,zad,zbb,hs1,e3,hse,hsy,hil,d00,d19,List.map_nil,Int.toNat_natCast,Bool.not_true,Bool.not_false]
           refine ⟨⟨by omega,hjl⟩,⟨by omega,hjl⟩,?_⟩
           refine zgw ⟨fun m σ => ∃ (k : Nat),m = M - k ∧ k ≤ M ∧
             σ = ⟨[.w (.int .u8 n),.w (.int .u8 q),.junk,.junk,.w (.bool false),.rf 4 3 0 0,.junk,.junk,.junk,.w (.int .i64 P),.ms 5 1 0 P,.sg 1 (W.map .str) false,.w (.int .i64 j),.junk,.junk,.junk,.junk,.si (iotI s M) false,.junk,.w (.int .i64 k),.junk,.junk,.junk,.junk,.junk,.junk,.junk,.junk,.junk,.junk,.junk,.junk,.junk,.junk,.junk,.junk,.junk,.junk,.junk,.junk,.junk,.junk,.junk,.junk,.junk,.junk,.junk,.junk,.junk,.junk,.junk,.junk,.junk,.junk,.junk,.junk,.junk,.junk,.junk,.junk,.junk,.junk,.junk,.junk,.junk,.junk,.junk,.junk,.junk,.junk,.junk,.junk,.junk,.junk,.junk,.junk,.junk,.junk,.junk,.junk,.junk,.junk,.junk,.junk,.junk,.junk,.junk,.junk,.junk,.junk,.junk,.junk,.junk,.junk,.junk,.junk,.junk,.junk,.junk,.junk,.junk,.junk,.junk,.junk,.junk,.junk,.junk,.junk,.junk,.junk,.junk,.junk,.junk,.junk,.junk,.junk,.junk,.junk,.junk,.junk,.junk,.junk,.junk,.junk,.junk,.junk,.junk,.junk,.junk,.junk,.junk,.junk,.junk,.junk,.junk,.junk,.junk,.junk,.junk,.junk,.junk,.junk,.junk,.junk,.junk,.junk,.junk,.junk],[(4,.g 3 [.agg [.w (.int .i64 i),.w (.int .u8 (phP i (j + 1))),.sg 3 ((mbP i (j + 1)).map mbA) false]]),(5,.i (zmm (s + k) P))],6⟩,?_,?_⟩
           · refine ⟨_,_,zal [0,1,2,3,4,5] rfl rfl rfl ?_ ?_,0,rfl,by omega,rfl⟩
             all_goals (simp only [ssT,zau,zav,setSlot,gOf,AV.ren,renL,Blk.ren,Ax.look,Ax.put,reduceCtorEq,↓reduceIte,Nat.reduceEqDiff,Nat.reduceLT,Nat.reduceAdd,List.length_append,List.length_cons,List.length_nil,Option.some.injEq,zak]; try simp)
           · clear hse hsy hmn hml hmx hc d1 hs1
             rintro m σ ⟨k,rfl,hk,rfl⟩
             have e4 : ((k : Int) + 1 + 9223372036854775808) % 18446744073709551616 - 9223372036854775808 = ((k + 1 : Nat) : Int) := by omega
             by_cases hkl : k < M
             · have d1 : decide ((k : Int) < (M : Int)) = true := decide_eq_true (by omega)
               have d2 : decide (((s + k : Nat) : Int) < 0) = false := decide_eq_false (by omega)
               have d3 : decide ((P : Int) ≤ ((s + k : Nat) : Int)) = false := decide_eq_false (by omega)
               have hol := zdd (s + k) P
               have hig : (iotI s M).getD k 0 = ((s + k : Nat) : Int) := by
                 rw [List.getD_eq_getElem?_getD,List.getElem?_eq_getElem (by rw [znx]; exact hkl)]; unfold iotI; simp
               have hog : (zmm (s + k) P).getD (s + k) 0 = 0 := by
                 rw [List.getD_eq_getElem?_getD,List.getElem?_eq_getElem (by rw [zdd]; omega),Option.getD_some,zii _ _ _ (by omega),if_neg (by omega)]
               have e01 : ((0 : Int) + 1 + 9223372036854775808) % 18446744073709551616 - 9223372036854775808 = 1 := rfl
               have hos := onesP_set (s + k) P (by omega)
               simp only [go_sem,zag,Nat.reduceAdd,Nat.reduceSub,Nat.reduceMul,Int.reduceToNat,reduceCtorEq,↓reduceIte,Int.reducePow,Nat.reducePow,Int.reduceMod,Nat.reduceLeDiff,Int.reduceLE,Int.reduceNe,Int.reduceEq,Nat.reduceEqDiff,Nat.reduceLT,Nat.reduceBEq,List.map_cons,List.map_nil,List.toList_toArray,Array.toList_append,Option.toArray_some,Option.toArray_none,Bool.and_self,ty,zjs,ptPl,hil,d1,d2,d3,hol,hig,hog,e01,hos,e4,Int.toNat_natCast,Bool.not_true,Bool.not_false]
               repeat (first | refine And.intro (by omega) ?_ | refine And.intro ⟨by omega,by omega⟩ ?_)
               refine ⟨M - (k + 1),_,by omega,zal [0,1,2,3,4,5] rfl rfl rfl ?_ ?_,k + 1,rfl,by omega,rfl⟩
               all_goals (simp only [ssT,zau,zav,setSlot,gOf,AV.ren,renL,Blk.ren,Ax.look,Ax.put,reduceCtorEq,↓reduceIte,Nat.reduceEqDiff,Nat.reduceLT,Nat.reduceAdd,List.length_append,List.length_cons,List.length_nil,Option.some.injEq,zak,Nat.add_assoc]; try simp)
             · have d1 : decide ((k : Int) < (M : Int)) = false := decide_eq_false (by omega)
               obtain rfl : k = M := by omega
               simp only [go_sem,zag,Nat.reduceAdd,Nat.reduceSub,Nat.reduceMul,Int.reduceToNat,reduceCtorEq,↓reduceIte,Int.reducePow,Nat.reducePow,Int.reduceMod,Nat.reduceLeDiff,Int.reduceLE,Int.reduceNe,Int.reduceEq,Nat.reduceEqDiff,Nat.reduceLT,Nat.reduceBEq,List.map_cons,List.map_nil,List.toList_toArray,Array.toList_append,Option.toArray_some,Option.toArray_none,Bool.and_self,ty,zjs,ptPl,hil,d1]
               refine ⟨_,Weak.refl _,?_⟩
               simp only [go_sem,zag,Nat.reduceAdd,Nat.reduceSub,Nat.reduceMul,Int.reduceToNat,reduceCtorEq,↓reduceIte,Int.reducePow,Nat.reducePow,Int.reduceMod,Nat.reduceLeDiff,Int.reduceLE,Int.reduceNe,Int.reduceEq,Nat.reduceEqDiff,Nat.reduceLT,Nat.reduceBEq,List.map_cons,List.map_nil,List.toList_toArray,Array.toList_append,Option.toArray_some,Option.toArray_none,Bool.and_self,ty,zjs,ptPl,e1]
               refine ⟨i - (j + 1),_,by omega,zal [0,1,2,3,4,5] rfl rfl rfl ?_ ?_,j + 1,false,rfl,by omega,rfl⟩
               all_goals (simp only [ssT,zau,zav,setSlot,gOf,AV.ren,renL,Blk.ren,Ax.look,Ax.put,reduceCtorEq,↓reduceIte,Nat.reduceEqDiff,Nat.reduceLT,Nat.reduceAdd,List.length_append,List.length_cons,List.length_nil,Option.some.injEq,zak,hst]; try simp)
         · have d1 : decide ((j : Int) < (i : Int)) = false := decide_eq_false (by omega)
           obtain rfl : j = i := by omega
           simp only [go_sem,zag,Nat.reduceAdd,Nat.reduceSub,Nat.reduceMul,Int.reduceToNat,reduceCtorEq,↓reduceIte,Int.reducePow,Nat.reducePow,Int.reduceMod,Nat.reduceLeDiff,Int.reduceLE,Int.reduceNe,Int.reduceEq,Nat.reduceEqDiff,Nat.reduceLT,Nat.reduceBEq,List.map_cons,List.map_nil,List.toList_toArray,Array.toList_append,Option.toArray_some,Option.toArray_none,Bool.and_self,ty,zjs,ptPl,hnl,d1]
           refine ⟨_,Weak.refl _,?_⟩
           simp only [go_sem,zag,Nat.reduceAdd,Nat.reduceSub,Nat.reduceMul,Int.reduceToNat,reduceCtorEq,↓reduceIte,Int.reducePow,Nat.reducePow,Int.reduceMod,Nat.reduceLeDiff,Int.reduceLE,Int.reduceNe,Int.reduceEq,Nat.reduceEqDiff,Nat.reduceLT,Nat.reduceBEq,List.map_cons,List.map_nil,List.toList_toArray,Array.toList_append,Option.toArray_some,Option.toArray_none,Bool.and_self,ty,zjs,ptPl]
           obtain ⟨S,hS⟩ : ∃ S,(rgK P j j).2 = S := ⟨_,rfl⟩
           have hSP : (0 < j → S = P) ∧ (j = 0 → S = 0) := ⟨fun h => by rw [← hS,rgK_all P j h],fun h => by rw [← hS,h]; rfl⟩
           rw [hS]
           refine zgw ⟨fun m σ => ∃ (k : Nat),m = P - k ∧ k ≤ P ∧
             σ = ⟨[.w (.int .u8 n),.w (.int .u8 q),.junk,.junk,.w (.bool false),.rf 4 3 0 0,.junk,.junk,.junk,.w (.int .i64 P),.ms 5 1 0 P,.sg 1 (W.map .str) false,.junk,.junk,.junk,.junk,.junk,.junk,.junk,.junk,.w (.int .i64 k),.junk,.junk,.junk,.junk,.junk,.junk,.junk,.junk,.junk,.junk,.junk,.junk,.junk,.junk,.junk,.junk,.junk,.junk,.junk,.junk,.junk,.junk,.junk,.junk,.junk,.junk,.junk,.junk,.junk,.junk,.junk,.junk,.junk,.junk,.junk,.junk,.junk,.junk,.junk,.junk,.junk,.junk,.junk,.junk,.junk,.junk,.junk,.junk,.junk,.junk,.junk,.junk,.junk,.junk,.junk,.junk,.junk,.junk,.junk,.junk,.junk,.junk,.junk,.junk,.junk,.junk,.junk,.junk,.junk,.junk,.junk,.junk,.junk,.junk,.junk,.junk,.junk,.junk,.junk,.junk,.junk,.junk,.junk,.junk,.junk,.junk,.junk,.junk,.junk,.junk,.junk,.junk,.junk,.junk,.junk,.junk,.junk,.junk,.junk,.junk,.junk,.junk,.junk,.junk,.junk,.junk,.junk,.junk,.junk,.junk,.junk,.junk,.junk,.junk,.junk,.junk,.junk,.junk,.junk,.junk,.junk,.junk,.junk,.junk,.junk,.junk,.junk],[(4,.g 3 [.agg [.w (.int .i64 j),.w (.int .u8 (phP j j)),.sg 3 ((mbP j j).map mbA) f]]),(5,.i (zmm S P))],6⟩,?_,?_⟩
           · refine ⟨_,_,zal [0,1,2,3,4,5] rfl rfl rfl ?_ ?_,0,rfl,by omega,rfl⟩
             all_goals (simp only [ssT,zau,zav,setSlot,gOf,AV.ren,renL,Blk.ren,Ax.look,Ax.put,reduceCtorEq,↓reduceIte,Nat.reduceEqDiff,Nat.reduceLT,Nat.reduceAdd,List.length_append,List.length_cons,List.length_nil,Option.some.injEq,zak]; try simp)
           · rintro m σ ⟨k,rfl,hk,rfl⟩
             have e4 : ((k : Int) + 1 + 9223372036854775808) % 18446744073709551616 - 9223372036854775808 = ((k + 1 : Nat) : Int) := by omega
             have hol := zdd S P
             by_cases hkl : k < P
             · have d2 : decide ((k : Int) < (P : Int)) = true := decide_eq_true (by omega)
               have hog : (zmm S P).getD k 0 = (if (j : Int) < 1 then (j : Int) else 1) := by
                 rw [List.getD_eq_getElem?_getD,List.getElem?_eq_getElem (by rw [zdd]; omega),Option.getD_some,zii _ _ _ hkl]
                 by_cases h0 : 0 < j
                 · rw [hSP.1 h0,if_pos hkl,if_neg (by omega)]
                 · rw [hSP.2 (by omega),if_neg (by omega),if_pos (by omega)]; omega
               have dme : decide ((if (j : Int) < 1 then (j : Int) else 1) = (if (j : Int) < 1 then (j : Int) else 1)) = true := decide_eq_true rfl
               simp only [go_sem,zag,Nat.reduceAdd,Nat.reduceSub,Nat.reduceMul,Int.reduceToNat,reduceCtorEq,↓reduceIte,Int.reducePow,Nat.reducePow,Int.reduceMod,Nat.reduceLeDiff,Int.reduceLE,Int.reduceNe,Int.reduceEq,Nat.reduceEqDiff,Nat.reduceLT,Nat.reduceBEq,List.map_cons,List.map_nil,List.toList_toArray,Array.toList_append,Option.toArray_some,Option.toArray_none,Bool.and_self,ty,zjs,ptPl,hnl,d2,hol,hog,dme,e4,Int.toNat_natCast,Bool.not_true,Bool.not_false]
               repeat (first | refine And.intro (by omega) ?_ | refine And.intro ⟨by omega,by omega⟩ ?_)
               refine ⟨P - (k + 1),_,by omega,zal [0,1,2,3,4,5] rfl rfl rfl ?_ ?_,k + 1,rfl,by omega,rfl⟩
               all_goals (simp only [ssT,zau,zav,setSlot,gOf,AV.ren,renL,Blk.ren,Ax.look,Ax.put,reduceCtorEq,↓reduceIte,Nat.reduceEqDiff,Nat.reduceLT,Nat.reduceAdd,List.length_append,List.length_cons,List.length_nil,Option.some.injEq,zak]; try simp)
             · have d2 : decide ((k : Int) < (P : Int)) = false := decide_eq_false (by omega)
               have dnn : decide ((j : Int) = (j : Int)) = true := decide_eq_true rfl
               obtain ⟨b,hb⟩ : ∃ b,decide ((0 : Int) < (j : Int)) = b := ⟨_,rfl⟩
               have hpb : decide (phP j j = 2) = b := by
                 rw [← hb]; unfold phP
                 by_cases h0 : j = 0
                 · rw [if_pos h0,h0]; rfl
                 · rw [if_neg h0,if_pos rfl,decide_eq_true (by omega : (0 : Int) < (j : Int))]; rfl
               have dbb : decide (b = b) = true := decide_eq_true rfl
               simp only [go_sem,zag,Nat.reduceAdd,Nat.reduceSub,Nat.reduceMul,Int.reduceToNat,reduceCtorEq,↓reduceIte,Int.reducePow,Nat.reducePow,Int.reduceMod,Nat.reduceLeDiff,Int.reduceLE,Int.reduceNe,Int.reduceEq,Nat.reduceEqDiff,Nat.reduceLT,Nat.reduceBEq,List.map_cons,List.map_nil,List.toList_toArray,Array.toList_append,Option.toArray_some,Option.toArray_none,Bool.and_self,ty,zjs,ptPl,hnl,d2]
               refine ⟨_,Weak.refl _,?_⟩
               simp only [go_sem,zag,Nat.reduceAdd,Nat.reduceSub,Nat.reduceMul,Int.reduceToNat,reduceCtorEq,↓reduceIte,Int.reducePow,Nat.reducePow,Int.reduceMod,Nat.reduceLeDiff,Int.reduceLE,Int.reduceNe,Int.reduceEq,Nat.reduceEqDiff,Nat.reduceLT,Nat.reduceBEq,List.map_cons,List.map_nil,List.toList_toArray,Array.toList_append,Option.toArray_some,Option.toArray_none,Bool.and_self,ty,zjs,ptPl,yesS,hnl,hN,hNw,dnn,hb,hpb,dbb]
               exact zcb 4 rfl
 · exact hp.elim
end
theorem arg_u8P {n : Nat} {x : AV} (h : Arg ty (n + 1) 5 x) : ∃ m : Int,x = .w (.int .u8 m) ∧ 0 ≤ m ∧ m < 256 := by
 obtain ⟨i,ls,hi,hs,rfl⟩ := h
 simp only [ty] at hi
 injection hi with hi
 subst hi
 simp only [zqi,ty,ztd] at hs
 obtain ⟨m,rfl,w⟩ := hs
 exact ⟨m,rfl,wf_u8 w⟩
theorem pt_dom {x y : AV} (hx : Arg ty 6 5 x) (hy : Arg ty 6 5 y) : (ptS [x,y] []).p ∧ (ptS [x,y] []).x = .w (.bool true) := by
 obtain ⟨a,rfl,ha⟩ := arg_u8P hx
 obtain ⟨b,rfl,hb⟩ := arg_u8P hy
 exact ⟨⟨ha,hb⟩,rfl⟩
end Go.Proofs.Ytolclgkginfiaaa
