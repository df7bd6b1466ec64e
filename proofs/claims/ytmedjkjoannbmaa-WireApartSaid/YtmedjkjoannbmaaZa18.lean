/- What the proofs of this seat stand on; it asks nothing. -/
import Derived.Test.YtmedjkjoannbmaaZa17
set_option linter.unusedSimpArgs false
set_option linter.unusedVariables false
namespace Go.Proofs.Ytmedjkjoannbmaa
open Ax
instance decBat22 : DecidableEq Bat := fun x y =>
 if h : x.b = y.b ∧ x.c = y.c ∧ x.p = y.p ∧ x.e = y.e ∧ x.s = y.s ∧ x.rs = y.rs then
   .isTrue (by cases x; cases y; obtain ⟨h1,h2,h3,h4,h5,h6⟩ := h; simp only at h1 h2 h3 h4 h5 h6; subst h1 h2 h3 h4 h5 h6; rfl)
 else .isFalse (fun e => h (by subst e; exact ⟨rfl,rfl,rfl,rfl,rfl,rfl⟩))
def eqB22S : zaq
 | [.sg 6 xs f,.sg 6 ys g,.fn 33 []],[] => ⟨(xs.length ≤ 1000000 ∧ ∃ es : List (Bat × Bool),xs = es.map bvp ∧ ∀ p ∈ es,p.1.rs.length ≤ 40) ∧ ys.length ≤ 1000000 ∧ ∃ gs : List (Bat × Bool),ys = gs.map bvp ∧ ∀ p ∈ gs,p.1.rs.length ≤ 40,.w (.bool (decide (xs.map ubat = ys.map ubat))),[]⟩
 | _,_ => zbv
theorem bsame_dec (b c p e s : Int) (rs : List Rec) (b' c' p' e' s' : Int) (qs : List Rec) : zdh b c p e s rs b' c' p' e' s' qs = decide ((⟨b,c,p,e,s,rs⟩ : Bat) = ⟨b',c',p',e',s',qs⟩) := by
 unfold zdh
 refine decide_eq_decide.mpr ?_
 constructor
 · rintro ⟨rfl,rfl,rfl,rfl,rfl,rfl⟩; rfl
 · intro h; injection h; exact ⟨by assumption,by assumption,by assumption,by assumption,by assumption,by assumption⟩
def SeqB22 (f : FuncId) : Option zaq :=
 match f with
 | 33 => some zfk
 | _ => none
theorem SeqB22_ok : Fns Try.prog SeqB22 := by
 intro f s h
 unfold SeqB22 at h
 split at h
 · injection h with h; subst h; exact ⟨⟨_,Try.func33,by kernel_rfl,by kernel_rfl⟩,bsame4_sound⟩
 · cases h
section
set_option maxRecDepth 100000
set_option maxHeartbeats 2000000 in
theorem eqBs22_sound : zbf Try.prog 41 eqB22S := by
 refine zau (S := SeqB22) (T := ty) zbj ty_ok SeqB22_ok Try.func41 (c := Try.f41.body.getD .skip) (by kernel_rfl) (by kernel_rfl) (fun xs pins hp _ => ?_)
 unfold eqB22S at hp ⊢
 split at hp
 · rename_i xs f ys g _
   obtain ⟨⟨hL1,es,rfl,he⟩,hL2,gs,rfl,hg⟩ := hp
   rw [List.length_map] at hL1 hL2
   rw [zej,zej]
   refine ⟨by simp,?_⟩
   have hlp : (es.map bvp).length = es.length := by simp
   have hlq : (gs.map bvp).length = gs.length := by simp
   have hla : (es.map Prod.fst).length = es.length := by simp
   have hlb : (gs.map Prod.fst).length = gs.length := by simp
   unfold Try.f41
   by_cases hl : es.length = gs.length
   · have d0 : decide ((es.length : Int) = gs.length) = true := decide_eq_true (by omega)
     have hk : es.map Prod.fst = gs.map Prod.fst ↔ ∀ j (h : j < es.length) (h' : j < gs.length),es[j].1 = gs[j].1 := by
       constructor
       · intro h j h1 h2
         have := List.getElem_of_eq h (i := j) (by omega)
         simpa using this
       · intro h
         refine List.ext_getElem (by omega) ?_
         intro j h1 h2
         simpa using h j (by omega) (by omega)
     simp only [go_sem,zaa,Nat.reduceAdd,Nat.reduceSub,Nat.reduceMul,Int.reduceToNat,reduceCtorEq,↓reduceIte,Int.reducePow,Nat.reducePow,Int.reduceMod,Nat.reduceLeDiff,Int.reduceLE,Int.reduceNe,Int.reduceEq,Nat.reduceEqDiff,Nat.reduceLT,Nat.reduceBEq,ty,SeqB22,hlp,hlq,d0]
     refine zde ⟨fun m σ => ∃ i : Nat,m = es.length - i ∧ i ≤ es.length ∧ (∀ j (h : j < es.length) (h' : j < gs.length),j < i → es[j].1 = gs[j].1) ∧
         σ = ⟨[.sg 6 (es.map bvp) f,.sg 6 (gs.map bvp) g,.fn 33 [],.junk,.junk,.junk,.junk,.junk,.junk,.junk,.junk,.junk,.junk,.junk,.junk,.sg 6 (es.map bvp) f,.w (.int .i64 es.length),.w (.int .i64 i),.junk,.junk,.junk,.junk,.junk,.junk,.junk,.junk,.junk,.junk,.junk,.junk,.junk,.junk],[],4⟩,?_,?_⟩
     · refine ⟨_,_,zai [0,1,2,3] rfl rfl rfl ?_ ?_,0,rfl,by omega,by intro j _ _ h; omega,rfl⟩
       · simp only [ssT,zao,zap,setSlot,gOf,AV.ren,renL,Blk.ren,Ax.look,Ax.put,reduceCtorEq,↓reduceIte,Nat.reduceEqDiff,Nat.reduceLT,Nat.reduceAdd,List.length_append,List.length_cons,List.length_nil,Option.some.injEq]; simp
       · simp only [ssT,zao,zap,setSlot,gOf,AV.ren,renL,Blk.ren,Ax.look,Ax.put,reduceCtorEq,↓reduceIte,Nat.reduceEqDiff,Nat.reduceLT,Nat.reduceAdd,List.length_append,List.length_cons,List.length_nil,Option.some.injEq]
     · rintro m σ ⟨i,rfl,hi,hall,rfl⟩
       by_cases hil : i < es.length
       · have d1 : decide ((i : Int) < es.length) = true := decide_eq_true (by omega)
         have e1 : ((i : Int) + 1 + 9223372036854775808) % 18446744073709551616 - 9223372036854775808 = ((i + 1 : Nat) : Int) := by omega
         have hiq : i < gs.length := by omega
         have hs1 := slot_bvp es i hil
         have hs2 := slot_bvp gs i hiq
         have m1 := he es[i] (List.getElem_mem hil)
         have m2 := hg gs[i] (List.getElem_mem hiq)
         obtain ⟨P,hP⟩ : ∃ P,es[i] = P := ⟨_,rfl⟩
         obtain ⟨Q,hQ⟩ : ∃ Q,gs[i] = Q := ⟨_,rfl⟩
         rw [hP] at hs1 m1
         rw [hQ] at hs2 m2
         obtain ⟨⟨b,c,p,e,s,rs⟩,f'⟩ := P
         obtain ⟨⟨b',c',p',e',s',qs⟩,g'⟩ := Q
         have hs1 : slot (es.map bvp) i = .agg [.w (.int .i64 b),.w (.int .i64 c),.w (.int .i64 p),.w (.int .i64 e),.w (.int .i64 s),.sg 6 (rs.map rv) f'] := hs1
         have hs2 : slot (gs.map bvp) i = .agg [.w (.int .i64 b'),.w (.int .i64 c'),.w (.int .i64 p'),.w (.int .i64 e'),.w (.int .i64 s'),.sg 6 (qs.map rv) g'] := hs2
         have n1 : (rs.map rv).length ≤ 9223372036854775807 := by rw [List.length_map]; simp only at m1; omega
         have n2 : (qs.map rv).length ≤ 9223372036854775807 := by rw [List.length_map]; simp only at m2; omega
         have x1 : ∃ k : List Rec,rs.map rv = k.map rv := ⟨rs,rfl⟩
         have x2 : ∃ k : List Rec,qs.map rv = k.map rv := ⟨qs,rfl⟩
         have r1 := zag rs
         have r2 := zag qs
         have hbs := bsame_dec b c p e s rs b' c' p' e' s' qs
         by_cases ha : (⟨b,c,p,e,s,rs⟩ : Bat) = ⟨b',c',p',e',s',qs⟩
         · rw [decide_eq_true ha] at hbs
           simp only [go_sem,zaa,Nat.reduceAdd,Nat.reduceSub,Nat.reduceMul,Int.reduceToNat,reduceCtorEq,↓reduceIte,Int.reducePow,Nat.reducePow,Int.reduceMod,Nat.reduceLeDiff,Int.reduceLE,Int.reduceNe,Int.reduceEq,Nat.reduceEqDiff,Nat.reduceLT,Nat.reduceBEq,ty,SeqB22,zfk,hlp,hlq,d1,hs1,hs2,e1,n1,n2,x1,x2,r1,r2,hbs,Int.toNat_natCast]
           repeat (refine And.intro (by omega) ?_)
           refine ⟨es.length - (i + 1),_,by omega,zai [0,1,2,3] rfl rfl rfl ?_ ?_,i + 1,rfl,by omega,?_,rfl⟩
           · simp only [ssT,zao,zap,setSlot,gOf,AV.ren,renL,Blk.ren,Ax.look,Ax.put,reduceCtorEq,↓reduceIte,Nat.reduceEqDiff,Nat.reduceLT,Nat.reduceAdd,List.length_append,List.length_cons,List.length_nil,Option.some.injEq]
           · simp only [ssT,zao,zap,setSlot,gOf,AV.ren,renL,Blk.ren,Ax.look,Ax.put,reduceCtorEq,↓reduceIte,Nat.reduceEqDiff,Nat.reduceLT,Nat.reduceAdd,List.length_append,List.length_cons,List.length_nil,Option.some.injEq]
           · intro j h h' hj
             rcases Nat.lt_or_ge j i with h2 | h2
             · exact hall j h h' h2
             · have : j = i := by omega
               subst this
               rw [hP,hQ]; exact ha
         · have dr : decide (es.map Prod.fst = gs.map Prod.fst) = false := decide_eq_false (fun h => ha (by have := hk.1 h i hil hiq; rw [hP,hQ] at this; exact this))
           rw [decide_eq_false ha] at hbs
           simp only [go_sem,zaa,Nat.reduceAdd,Nat.reduceSub,Nat.reduceMul,Int.reduceToNat,reduceCtorEq,↓reduceIte,Int.reducePow,Nat.reducePow,Int.reduceMod,Nat.reduceLeDiff,Int.reduceLE,Int.reduceNe,Int.reduceEq,Nat.reduceEqDiff,Nat.reduceLT,Nat.reduceBEq,ty,SeqB22,zfk,hlp,hlq,d1,hs1,hs2,e1,n1,n2,x1,x2,r1,r2,hbs,dr,Int.toNat_natCast]
           all_goals omega
       · have d1 : decide ((i : Int) < es.length) = false := decide_eq_false (by omega)
         have dr : decide (es.map Prod.fst = gs.map Prod.fst) = true := decide_eq_true (hk.2 fun j h h' => hall j h h' (by omega))
         simp only [go_sem,zaa,Nat.reduceAdd,Nat.reduceSub,Nat.reduceMul,Int.reduceToNat,reduceCtorEq,↓reduceIte,Int.reducePow,Nat.reducePow,Int.reduceMod,Nat.reduceLeDiff,Int.reduceLE,Int.reduceNe,Int.reduceEq,Nat.reduceEqDiff,Nat.reduceLT,Nat.reduceBEq,ty,SeqB22,hlp,hlq,d1,dr]
   · have d0 : decide ((es.length : Int) = gs.length) = false := decide_eq_false (by omega)
     have dr : decide (es.map Prod.fst = gs.map Prod.fst) = false := decide_eq_false (fun h => hl (by have := congrArg List.length h; simpa using this))
     simp only [go_sem,zaa,Nat.reduceAdd,Nat.reduceSub,Nat.reduceMul,Int.reduceToNat,reduceCtorEq,↓reduceIte,Int.reducePow,Nat.reducePow,Int.reduceMod,Nat.reduceLeDiff,Int.reduceLE,Int.reduceNe,Int.reduceEq,Nat.reduceEqDiff,Nat.reduceLT,Nat.reduceBEq,ty,SeqB22,hlp,hlq,d0,dr]
 · exact hp.elim
end
end Go.Proofs.Ytmedjkjoannbmaa
namespace Go.Proofs.Ytmedjkjoannbmaa
open Ax
def eqA (k er o x : Int) (d : Bool) (g : Int) (k' er' o' x' : Int) (d' : Bool) (g' : Int) (B : Bool) : Bool := decide (k = k' ∧ er = er' ∧ o = o' ∧ x = x' ∧ d = d' ∧ g = g') && B
theorem eqA_cases (k er o x : Int) (d : Bool) (g : Int) (k' er' o' x' : Int) (d' : Bool) (g' : Int) :
   ((∀ B,eqA k er o x d g k' er' o' x' d' g' B = false) ∧ decide (k = k') = false) ∨
   ((∀ B,eqA k er o x d g k' er' o' x' d' g' B = false) ∧ decide (k = k') = true ∧ decide (er = er') = false) ∨
   ((∀ B,eqA k er o x d g k' er' o' x' d' g' B = false) ∧ decide (k = k') = true ∧ decide (er = er') = true ∧ decide (o = o') = false) ∨
   ((∀ B,eqA k er o x d g k' er' o' x' d' g' B = false) ∧ decide (k = k') = true ∧ decide (er = er') = true ∧ decide (o = o') = true ∧ decide (x = x') = false) ∨
   ((∀ B,eqA k er o x d g k' er' o' x' d' g' B = false) ∧ decide (k = k') = true ∧ decide (er = er') = true ∧ decide (o = o') = true ∧ decide (x = x') = true ∧ (d == d') = false) ∨
   ((∀ B,eqA k er o x d g k' er' o' x' d' g' B = false) ∧ decide (k = k') = true ∧ decide (er = er') = true ∧ decide (o = o') = true ∧ decide (x = x') = true ∧ (d == d') = true ∧ decide (g = g') = false) ∨
   ((∀ B,eqA k er o x d g k' er' o' x' d' g' B = B) ∧ decide (k = k') = true ∧ decide (er = er') = true ∧ decide (o = o') = true ∧ decide (x = x') = true ∧ (d == d') = true ∧ decide (g = g') = true) := by
 by_cases h0 : k = k'
 case neg =>
   exact .inl ⟨fun B => by unfold eqA; rw [decide_eq_false (fun h => h0 h.1)]; rfl,decide_eq_false h0⟩
 by_cases h1 : er = er'
 case neg =>
   exact .inr (.inl ⟨fun B => by unfold eqA; rw [decide_eq_false (fun h => h1 h.2.1)]; rfl,decide_eq_true h0,decide_eq_false h1⟩)
 by_cases h2 : o = o'
 case neg =>
   exact .inr (.inr (.inl ⟨fun B => by unfold eqA; rw [decide_eq_false (fun h => h2 h.2.2.1)]; rfl,decide_eq_true h0,decide_eq_true h1,decide_eq_false h2⟩))
 by_cases h3 : x = x'
 case neg =>
   exact .inr (.inr (.inr (.inl ⟨fun B => by unfold eqA; rw [decide_eq_false (fun h => h3 h.2.2.2.1)]; rfl,decide_eq_true h0,decide_eq_true h1,decide_eq_true h2,decide_eq_false h3⟩)))
 by_cases h4 : d = d'
 case neg =>
   exact .inr (.inr (.inr (.inr (.inl ⟨fun B => by unfold eqA; rw [decide_eq_false (fun h => h4 h.2.2.2.2.1)]; rfl,decide_eq_true h0,decide_eq_true h1,decide_eq_true h2,decide_eq_true h3,(beq_false_of_ne h4)⟩))))
 by_cases h5 : g = g'
 case neg =>
   exact .inr (.inr (.inr (.inr (.inr (.inl ⟨fun B => by unfold eqA; rw [decide_eq_false (fun h => h5 h.2.2.2.2.2)]; rfl,decide_eq_true h0,decide_eq_true h1,decide_eq_true h2,decide_eq_true h3,(by rw [h4]; exact beq_self_eq_true _),decide_eq_false h5⟩)))))
 exact .inr (.inr (.inr (.inr (.inr (.inr (⟨fun B => by unfold eqA; rw [decide_eq_true ⟨h0,h1,h2,h3,h4,h5⟩]; rfl,decide_eq_true h0,decide_eq_true h1,decide_eq_true h2,decide_eq_true h3,(by rw [h4]; exact beq_self_eq_true _),decide_eq_true h5⟩))))))
def sresS : zaq
 | [.agg [.w (.int .u8 k),.w (.int .i64 er),.w (.int .i64 o),.w (.int .i64 x),.w (.bool d),.w (.int .i64 g),.sg 6 bs f1,.si ps f2,.sg 1 ns f3],.agg [.w (.int .u8 k'),.w (.int .i64 er'),.w (.int .i64 o'),.w (.int .i64 x'),.w (.bool d'),.w (.int .i64 g'),.sg 6 bs' f1',.si ps' f2',.sg 1 ns' f3']],[] =>
     ⟨((bs.length ≤ 1000000 ∧ ∃ es : List (Bat × Bool),bs = es.map bvp ∧ ∀ p ∈ es,p.1.rs.length ≤ 40) ∧ bs'.length ≤ 1000000 ∧ ∃ es : List (Bat × Bool),bs' = es.map bvp ∧ ∀ p ∈ es,p.1.rs.length ≤ 40) ∧
       (ps.length ≤ 1000000 ∧ ps'.length ≤ 1000000) ∧
       ((ns.length ≤ 1000000 ∧ ∃ es : List (List UInt8),ns = es.map AV.str) ∧ ns'.length ≤ 1000000 ∧ ∃ es : List (List UInt8),ns' = es.map AV.str),
       .w (.bool (eqA k er o x d g k' er' o' x' d' g' (decide (bs.map ubat = bs'.map ubat) && (decide (ps = ps') && decide (ns.map ustr22 = ns'.map ustr22))))),[]⟩
 | _,_ => zbv
def Ssres22 (f : FuncId) : Option zaq :=
 match f with
 | 41 => some eqB22S
 | 42 => some eqI22S
 | 43 => some eqN22S
 | _ => none
theorem Ssres22_ok : Fns Try.prog Ssres22 := by
 intro f s h
 unfold Ssres22 at h
 split at h
 · injection h with h; subst h; exact ⟨⟨_,Try.func41,by kernel_rfl,by kernel_rfl⟩,eqBs22_sound⟩
 · injection h with h; subst h; exact ⟨⟨_,Try.func42,by kernel_rfl,by kernel_rfl⟩,eqI22_sound⟩
 · injection h with h; subst h; exact ⟨⟨_,Try.func43,by kernel_rfl,by kernel_rfl⟩,eqN22_sound⟩
 · cases h
theorem zdy (l : List (Bat × Bool)) (f : Bool) : coe ty 38 (.sg 6 (l.map bvp) f) = .sg 6 (l.map bvp) f := by cases l <;> rfl
section
set_option maxRecDepth 100000
set_option maxHeartbeats 8000000 in
theorem sres22_sound : zbf Try.prog 19 sresS := by
 refine zcm (S := Ssres22) (T := ty) zbj ty_ok Ssres22_ok Try.func19 (c := Try.f19.body.getD .skip) (by kernel_rfl) (by kernel_rfl) (fun xs pins hp _ => ?_)
 unfold sresS at hp ⊢
 split at hp
 · rename_i k er o x d g bs f1 ps f2 ns f3 k' er' o' x' d' g' bs' f1' ps' f2' ns' f3' _
   obtain ⟨⟨⟨a1,es,rfl,ha⟩,a2,es',rfl,ha'⟩,⟨a3,a4⟩,⟨a5,ss,rfl⟩,a6,ss',rfl⟩ := hp
   have p1 : ∃ gs : List (Bat × Bool),es.map bvp = gs.map bvp ∧ ∀ p ∈ gs,p.1.rs.length ≤ 40 := ⟨es,rfl,ha⟩
   have p2 : ∃ gs : List (Bat × Bool),es'.map bvp = gs.map bvp ∧ ∀ p ∈ gs,p.1.rs.length ≤ 40 := ⟨es',rfl,ha'⟩
   have p5 : ∃ gs : List (List UInt8),ss.map AV.str = gs.map AV.str := ⟨ss,rfl⟩
   have p6 : ∃ gs : List (List UInt8),ss'.map AV.str = gs.map AV.str := ⟨ss',rfl⟩
   have c1 := zdy es f1
   have c2 := zdy es' f1'
   have c5 := zcz ss f3
   have c6 := zcz ss' f3'
   generalize es.map bvp = X1 at *
   generalize es'.map bvp = X2 at *
   generalize ss.map AV.str = X5 at *
   generalize ss'.map AV.str = X6 at *
   refine ⟨by simp,?_⟩
   unfold Try.f19
   obtain ⟨B1,h1⟩ : ∃ v,decide (X1.map ubat = X2.map ubat) = v := ⟨_,rfl⟩
   obtain ⟨B2,h2⟩ : ∃ v,decide (ps = ps') = v := ⟨_,rfl⟩
   obtain ⟨B3,h3⟩ : ∃ v,decide (X5.map ustr22 = X6.map ustr22) = v := ⟨_,rfl⟩
   rw [h1,h2,h3]
   rcases eqA_cases k er o x d g k' er' o' x' d' g' with D | D | D | D | D | D | D
   rotate_right 1
   · cases B1 <;> cases B2 <;> cases B3
     all_goals
       simp only [go_sem,zaa,Nat.reduceAdd,Nat.reduceSub,Nat.reduceMul,Int.reduceToNat,reduceCtorEq,↓reduceIte,Int.reducePow,Nat.reducePow,Int.reduceMod,Nat.reduceLeDiff,Int.reduceLE,Int.reduceNe,Int.reduceEq,Nat.reduceEqDiff,Nat.reduceLT,Nat.reduceBEq,ty,Ssres22,eqB22S,eqI22S,eqN22S,a1,a2,a3,a4,a5,a6,p1,p2,p5,p6,c1,c2,c5,c6,h1,h2,h3,D,Bool.and_true,Bool.true_and,Bool.and_false,Bool.false_and]
       exact zas 4 rfl
   all_goals
     simp only [go_sem,zaa,Nat.reduceAdd,Nat.reduceSub,Nat.reduceMul,Int.reduceToNat,reduceCtorEq,↓reduceIte,Int.reducePow,Nat.reducePow,Int.reduceMod,Nat.reduceLeDiff,Int.reduceLE,Int.reduceNe,Int.reduceEq,Nat.reduceEqDiff,Nat.reduceLT,Nat.reduceBEq,ty,Ssres22,D]
     exact zas 4 rfl
 · exact hp.elim
end
end Go.Proofs.Ytmedjkjoannbmaa
namespace Go.Proofs.Ytmedjkjoannbmaa
open Ax
def Saw22 (f : FuncId) : Option zaq :=
 match f with
 | 14 => some zbh
 | 10 => some zbx
 | 21 => some zbr
 | 17 => some putAS
 | 23 => some getAS22
 | 12 => some zdp
 | 19 => some sresS
 | _ => none
theorem Saw22_ok : Fns Try.prog Saw22 := by
 intro f s h
 unfold Saw22 at h
 split at h
 · injection h with h; subst h; exact ⟨⟨_,Try.func14,by kernel_rfl,by kernel_rfl⟩,uses22_sound⟩
 · injection h with h; subst h; exact ⟨⟨_,Try.func10,by kernel_rfl,by kernel_rfl⟩,putQ_sound⟩
 · injection h with h; subst h; exact ⟨⟨_,Try.func21,by kernel_rfl,by kernel_rfl⟩,getQ_sound⟩
 · injection h with h; subst h; exact ⟨⟨_,Try.func17,by kernel_rfl,by kernel_rfl⟩,putA_sound⟩
 · injection h with h; subst h; exact ⟨⟨_,Try.func23,by kernel_rfl,by kernel_rfl⟩,getA22_sound⟩
 · injection h with h; subst h; exact ⟨⟨_,Try.func12,by kernel_rfl,by kernel_rfl⟩,sreq22_sound⟩
 · injection h with h; subst h; exact ⟨⟨_,Try.func19,by kernel_rfl,by kernel_rfl⟩,sres22_sound⟩
 · cases h
def aw22Pl : XPlan := fun id => match id with
 | 3 => .frz [2]
 | 5 => .frz [22]
 | 6 => .frz [7]
 | _ => .std
def w22q : List UInt8 := [8,2,103,2,97,4]
def w22r : List UInt8 := [255,8,0,0,0,0,0,2,6,0]
theorem aw22a : putQ 8 [] 0 0 false false 0 0 0 [103] [97] 2 0 0 0 0 0 [] = [8,2,103,2,97,4] := by decide +kernel
theorem aw22b : chkQ 8 [] 0 0 false false 0 0 0 [103] [97] 2 0 0 0 0 0 [] = 0 := by decide +kernel
theorem aw22c : putA 255 4 0 0 false 0 [] [3] [] = [255,8,0,0,0,0,0,2,6,0] := by decide +kernel
theorem aw22d : errA 255 [] [3] [] = 0 := by decide +kernel
theorem aw22e : gqOk w22q := by
 have h1 := rd_lay22 ⟨8,[],0,0,false,false,0,0,0,[103],[97],2,zB⟩ aw22b ⟨by decide,by unfold lenQ; decide,by unfold intQ okI; decide,by decide⟩ []
 have h2 : layR ⟨8,[],0,0,false,false,0,0,0,[103],[97],2,zB⟩ = w22q := by decide +kernel
 rw [List.append_nil,h2] at h1
 unfold gqOk
 rw [h1.1]
 exact ⟨aw22b,h2⟩
theorem aw22f : gqA w22q = .agg [.w (.int .u8 8),.str [],.w (.int .i64 0),.w (.int .i64 0),.w (.bool false),.w (.bool false),.w (.int .i64 0),.w (.int .i64 0),.w (.int .i64 0),.str [103],.str [97],.w (.int .i64 2),.w (.int .i64 0),.w (.int .i64 0),.w (.int .i64 0),.w (.int .i64 0),.w (.int .i64 0),.sg 6 [] true] := by
 have h1 := rd_lay22 ⟨8,[],0,0,false,false,0,0,0,[103],[97],2,zB⟩ aw22b ⟨by decide,by unfold lenQ; decide,by unfold intQ okI; decide,by decide⟩ []
 have h2 : layR ⟨8,[],0,0,false,false,0,0,0,[103],[97],2,zB⟩ = w22q := by decide +kernel
 rw [List.append_nil,h2] at h1
 unfold gqA gqR
 rw [if_pos aw22e,h1.1]; rfl
theorem aw22g : (if gqOk [8,2,103,2,97,4] then (0 : Int) else 4) = 0 := if_pos aw22e
theorem aw22h : okA c64 8192 w22r := by
 have h1 := rd_layA c64 c64_good 8192 (by decide) ⟨255,4,0,0,false,0,[],[3],[]⟩ aw22d ⟨by decide,by unfold okI; decide,by unfold okI; decide,by unfold okI; decide,by unfold okI; decide,by unfold okI; decide⟩ []
 have h2 : zfb ⟨255,4,0,0,false,0,[],[3],[]⟩ = w22r := by decide +kernel
 rw [List.append_nil,h2] at h1
 unfold okA
 rw [h1.1]
 exact ⟨aw22d,h2⟩
theorem aw22i : gaR w22r = .tup [.agg [.w (.int .u8 255),.w (.int .i64 4),.w (.int .i64 0),.w (.int .i64 0),.w (.bool false),.w (.int .i64 0),.sg 6 [] false,.si [3] false,.sg 1 [] false],.w (.int .i64 0)] := by
 have h1 := rd_layA c64 c64_good 8192 (by decide) ⟨255,4,0,0,false,0,[],[3],[]⟩ aw22d ⟨by decide,by unfold okI; decide,by unfold okI; decide,by unfold okI; decide,by unfold okI; decide,by unfold okI; decide⟩ []
 have h2 : zfb ⟨255,4,0,0,false,0,[],[3],[]⟩ = w22r := by decide +kernel
 rw [List.append_nil,h2] at h1
 unfold gaR
 rw [if_pos aw22h,h1.1]; rfl
section
set_option maxRecDepth 100000
set_option maxHeartbeats 8000000 in
theorem awake22_sound : zbf Try.prog 9 yesS := by
 refine zdx (S := Saw22) (SO := noO) (T := ty) zbj ty_ok Saw22_ok noO_ok Try.func9 (c := Try.f9.body.getD .skip) (by kernel_rfl) (fun xs pins hp _ => ?_)
 unfold yesS at hp ⊢
 split at hp
 · refine ⟨by simp,aw22Pl,by kernel_rfl,?_⟩
   have tk : ∀ l : List UInt8,List.take l.length l = l := fun l => List.take_length
   have t6 : List.take 6 ([8,2,103,2,97,4] : List UInt8) = [8,2,103,2,97,4] := rfl
   have t10 : List.take 10 ([255,8,0,0,0,0,0,2,6,0] : List UInt8) = [255,8,0,0,0,0,0,2,6,0] := rfl
   have q1 : lenQ [] [103] [97] := by unfold lenQ; decide
   have q2 : intQ 0 0 0 0 0 2 := by unfold intQ okI; decide
   have q3 : ∃ rs : List Rec,([] : List AV) = rs.map rv := ⟨[],rfl⟩
   have q4 : List.map rrec ([] : List AV) = [] := rfl
   have q5 : ∃ l : List (Bat × Bool),([] : List AV) = l.map bvp ∧ ∀ p ∈ l,p.1.rs.length ≤ 40 := ⟨[],rfl,by simp⟩
   have q6 : ∀ n ∈ ([3] : List Int),okI n := by unfold okI; decide
   have q7 : ∃ ks : List (List UInt8),([] : List AV) = ks.map AV.str := ⟨[],rfl⟩
   have q8 : List.map ubat ([] : List AV) = [] := rfl
   have q9 : List.map ustr22 ([] : List AV) = [] := rfl
   have e1 : eqQ 8 [] 0 0 false false 0 0 0 [103] [97] 2 8 [] 0 0 false false 0 0 0 [103] [97] 2 (zdh 0 0 0 0 0 [] 0 0 0 0 0 []) = true := by decide +kernel
   have e2 : eqQ 8 [] 0 0 false false 0 0 0 [103] [97] 2 0 [] 0 0 false false 0 0 0 [] [] 0 (zdh 0 0 0 0 0 [] 0 0 0 0 0 []) = false := by decide +kernel
   have e3 : eqA 255 4 0 0 false 0 255 4 0 0 false 0 true = true := by decide +kernel
   have e4 : eqA 255 4 0 0 false 0 0 0 0 0 false 0 false = false := by decide +kernel
   have e5 : decide (((1 : Nat) : Int) = 1) = true := by decide
   have e7 : decide (([3] : List Int).getD 0 0 = 3) = true := by decide
   have e8 : decide (zat 3 = [116,105,102,98]) = true := by decide +kernel
   have e6 : ∀ n : Int,n = 3 → okI n := by rintro n rfl; unfold okI; decide
   have i0 : okI 0 := by unfold okI; decide
   have i4 : okI 4 := by unfold okI; decide
   have f2 : gqA [8,2,103,2,97,4] = _ := aw22f
   have f3 : gaR [255,8,0,0,0,0,0,2,6,0] = _ := aw22i
   unfold Try.f9
   simp (config := { maxSteps := 1000000 }) only [go_sem,zab,Nat.reduceAdd,Nat.reduceSub,Nat.reduceMul,Int.reduceToNat,reduceCtorEq,↓reduceIte,Int.reducePow,Nat.reducePow,Int.reduceMod,Nat.reduceLeDiff,Int.reduceLE,Int.reduceNe,Int.reduceEq,Nat.reduceEqDiff,Nat.reduceLT,Nat.reduceBEq,List.map_cons,List.map_nil,List.toList_toArray,Array.toList_append,Option.toArray_some,Option.toArray_none,Bool.and_self,ty,Saw22,aw22Pl,zbx,zbr,putAS,getAS22,zdp,sresS,zbh,fillS,tk,t6,t10,q1,q2,q3,q4,q5,q6,q7,q8,q9,i0,i4,aw22a,aw22b,aw22c,aw22d,f2,aw22g,f3,e1,e2,e3,e4,e5,e7,e8,Bool.not_true,Bool.not_false,Int.reduceLE,Int.reduceLT,Nat.zero_le,List.length_nil]
   refine ⟨e6,?_⟩
   exact zas 0 rfl
 · exact hp.elim
end
end Go.Proofs.Ytmedjkjoannbmaa
namespace Go.Proofs.Ytmedjkjoannbmaa
open Ax
set_option maxRecDepth 10000
set_option maxHeartbeats 2000000
theorem all_rv22 : ∀ (xs : List AV),(∀ x ∈ xs,∃ r : Rec,x = rv r) → ∃ rs : List Rec,xs = rs.map rv
 | [],_ => ⟨[],rfl⟩
 | x :: xs,h => by
   obtain ⟨r,rfl⟩ := h x (by simp)
   obtain ⟨rs,rfl⟩ := all_rv22 xs (fun y hy => h y (by simp [hy]))
   exact ⟨r :: rs,rfl⟩
end Go.Proofs.Ytmedjkjoannbmaa
