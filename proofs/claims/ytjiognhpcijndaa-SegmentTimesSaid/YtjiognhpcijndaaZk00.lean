/- What the proofs of this seat stand on; it asks nothing. -/
import Derived.Test.YtjiognhpcijndaaZa10
import Derived.Test.YtjiognhpcijndaaZd00
set_option linter.unusedSimpArgs false
set_option linter.unusedVariables false
namespace Go.Proofs.Ytjiognhpcijndaa
open Ax
def stJ (t : Int) (s : Int × Bool) (p : Int × Int) : Int × Bool := if t ≤ p.2 ∧ (s.2 = false ∨ p.1 < s.1) then (p.1,true) else s
def allJ (l : List Bat) : List (Int × Int) := l.flatMap fun x => x.rs.map fun r => (offI x.b r.d,r.t)
theorem btB_all (t : Int) (x : Bat) (s : Int × Bool) : btB t s x = (x.rs.map fun r => (offI x.b r.d,r.t)).foldl (stJ t) s := by
 unfold btB; rw [List.foldl_map]; rfl
theorem bt_all (t : Int) : ∀ (l : List Bat) (s : Int × Bool),l.foldl (btB t) s = (allJ l).foldl (stJ t) s
 | [],s => rfl
 | x :: r,s => by
   unfold allJ
   rw [List.foldl_cons,List.flatMap_cons,List.foldl_append,← btB_all,bt_all t r]; rfl
theorem st_facts (t : Int) : ∀ (ps : List (Int × Int)) (s : Int × Bool),
   (∀ p ∈ ps,t ≤ p.2 → (ps.foldl (stJ t) s).2 = true ∧ (ps.foldl (stJ t) s).1 ≤ p.1) ∧
   (s.2 = true → (ps.foldl (stJ t) s).2 = true ∧ (ps.foldl (stJ t) s).1 ≤ s.1) ∧
   ((ps.foldl (stJ t) s).2 = true → s.2 = true ∧ (ps.foldl (stJ t) s).1 = s.1 ∨ ∃ p ∈ ps,t ≤ p.2 ∧ p.1 = (ps.foldl (stJ t) s).1)
 | [],s => by
   refine ⟨by simp,fun h => ⟨h,Int.le_refl _⟩,fun h => .inl ⟨h,rfl⟩⟩
 | p :: ps,s => by
   obtain ⟨h1,h2,h3⟩ := st_facts t ps (stJ t s p)
   rw [List.foldl_cons]
   refine ⟨fun q hq hq2 => ?_,fun hs => ?_,fun hs => ?_⟩
   · rcases List.mem_cons.1 hq with rfl | hq
     · have hn : (stJ t s q).2 = true ∧ (stJ t s q).1 ≤ q.1 := by
         unfold stJ
         split
         · exact ⟨rfl,Int.le_refl _⟩
         · rename_i hc
           cases hs : s.2 with
           | false => exact (hc ⟨hq2,.inl hs⟩).elim
           | true =>
             refine ⟨rfl,?_⟩
             by_cases h : q.1 < s.1
             · exact (hc ⟨hq2,.inr h⟩).elim
             · omega
       have := h2 hn.1
       exact ⟨this.1,by omega⟩
     · exact h1 q hq hq2
   · have hn : (stJ t s p).2 = true ∧ (stJ t s p).1 ≤ s.1 := by
       unfold stJ
       split
       · rename_i hc
         refine ⟨rfl,?_⟩
         rcases hc.2 with h | h
         · rw [hs] at h; cases h
         · exact Int.le_of_lt h
       · exact ⟨hs,Int.le_refl _⟩
     have := h2 hn.1
     exact ⟨this.1,by omega⟩
   · rcases h3 hs with ⟨a,b⟩ | ⟨q,hq,hq2⟩
     · by_cases hc : t ≤ p.2 ∧ (s.2 = false ∨ p.1 < s.1)
       · have he : stJ t s p = (p.1,true) := by unfold stJ; rw [if_pos hc]
         exact .inr ⟨p,by simp,hc.1,by rw [b,he]⟩
       · have he : stJ t s p = s := by unfold stJ; rw [if_neg hc]
         rw [he] at a b
         left; rw [he]; exact ⟨a,b⟩
     · exact .inr ⟨q,by simp [hq],hq2⟩
theorem mem_allJ {l : List Bat} {p : Int × Int} : p ∈ allJ l ↔ ∃ x ∈ l,∃ r ∈ x.rs,p = (offI x.b r.d,r.t) := by
 unfold allJ
 simp only [List.mem_flatMap,List.mem_map]
 constructor
 · rintro ⟨x,hx,r,hr,rfl⟩; exact ⟨x,hx,r,hr,rfl⟩
 · rintro ⟨x,hx,r,hr,rfl⟩; exact ⟨x,hx,r,hr,rfl⟩
theorem btG_facts (t : Int) (l : List Bat) : (∀ x ∈ l,∀ r ∈ x.rs,t ≤ r.t → (btG t l).2 = true ∧ (btG t l).1 ≤ offI x.b r.d) ∧
   ((btG t l).2 = true → ∃ x ∈ l,∃ r ∈ x.rs,t ≤ r.t ∧ offI x.b r.d = (btG t l).1) := by
 have he : btG t l = (allJ l).foldl (stJ t) (0,false) := bt_all t l _
 obtain ⟨h1,h2,h3⟩ := st_facts t (allJ l) (0,false)
 rw [← he] at h1 h3
 refine ⟨fun x hx r hr ht => h1 (offI x.b r.d,r.t) (mem_allJ.2 ⟨x,hx,r,hr,rfl⟩) ht,fun h => ?_⟩
 rcases h3 h with ⟨a,_⟩ | ⟨p,hp,h4,h5⟩
 · cases a
 · obtain ⟨x,hx,r,hr,rfl⟩ := mem_allJ.1 hp
   exact ⟨x,hx,r,hr,h4,h5⟩
theorem newI_le (t : Int) : ∀ (rs : List Rec) (a : Int),t ≤ newI rs a ↔ t ≤ a ∨ ∃ r ∈ rs,t ≤ r.t
 | [],a => by simp [newI]
 | r :: rs,a => by
   have h := newI_le t rs (max a r.t)
   have h0 : newI (r :: rs) a = newI rs (max a r.t) := rfl
   rw [h0,h]
   constructor
   · rintro (h | ⟨q,hq,h⟩)
     · rcases Int.le_total a r.t with h1 | h1
       · exact .inr ⟨r,by simp,by omega⟩
       · exact .inl (by omega)
     · exact .inr ⟨q,by simp [hq],h⟩
   · rintro (h | ⟨q,hq,h⟩)
     · exact .inl (by omega)
     · rcases List.mem_cons.1 hq with rfl | hq
       · exact .inl (by omega)
       · exact .inr ⟨q,hq,h⟩
theorem newL_le {t : Int} (ht : 0 ≤ t) (rs : List Rec) : t ≤ newL rs ↔ ∃ r ∈ rs,t ≤ r.t := by
 cases rs with
 | nil => simp [newL]; omega
 | cons r rs =>
   have h0 : newL (r :: rs) = newI (r :: rs) r.t := rfl
   rw [h0,newI_le]
   exact ⟨fun h => h.elim (fun h => ⟨r,by simp,h⟩) id,.inr⟩
theorem nwI_le (t : Int) : ∀ (l : List Bat) (a : Int),t ≤ nwI l a ↔ t ≤ a ∨ ∃ x ∈ l,t ≤ newL x.rs
 | [],a => by simp [nwI]
 | x :: r,a => by
   have h := nwI_le t r (max a (newL x.rs))
   have h0 : nwI (x :: r) a = nwI r (max a (newL x.rs)) := rfl
   rw [h0,h]
   constructor
   · rintro (h | ⟨q,hq,h⟩)
     · rcases Int.le_total a (newL x.rs) with h1 | h1
       · exact .inr ⟨x,by simp,by omega⟩
       · exact .inl (by omega)
     · exact .inr ⟨q,by simp [hq],h⟩
   · rintro (h | ⟨q,hq,h⟩)
     · exact .inl (by omega)
     · rcases List.mem_cons.1 hq with rfl | hq
       · exact .inl (by omega)
       · exact .inr ⟨q,hq,h⟩
theorem nwG_bt {t : Int} (ht : 0 ≤ t) (l : List Bat) : (btG t l).2 = decide (t ≤ nwG l) := by
 have hn : t ≤ nwG l ↔ ∃ x ∈ l,∃ r ∈ x.rs,t ≤ r.t := by
   cases l with
   | nil => simp [nwG]; omega
   | cons x r =>
     have h0 : nwG (x :: r) = nwI (x :: r) (newL x.rs) := rfl
     rw [h0,nwI_le]
     constructor
     · rintro (h | ⟨y,hy,h⟩)
       · exact ⟨x,by simp,(newL_le ht _).1 h⟩
       · exact ⟨y,hy,(newL_le ht _).1 h⟩
     · rintro ⟨y,hy,h⟩
       exact .inr ⟨y,hy,(newL_le ht _).2 h⟩
 obtain ⟨h1,h2⟩ := btG_facts t l
 by_cases h : t ≤ nwG l
 · rw [decide_eq_true h]
   obtain ⟨x,hx,r,hr,h3⟩ := hn.1 h
   exact (h1 x hx r hr h3).1
 · rw [decide_eq_false h]
   cases hb : (btG t l).2 with
   | false => rfl
   | true =>
     obtain ⟨x,hx,r,hr,h3,_⟩ := h2 hb
     exact (h (hn.2 ⟨x,hx,r,hr,h3⟩)).elim
def hitR (t a b : Int) (r : Rec) : Bool := decide (offI b r.d = a) && decide (t ≤ r.t)
def hitB (t a : Int) (x : Bat) : Bool := x.rs.any (hitR t a x.b)
theorem any_snoc {α : Type} (f : α → Bool) (l : List α) (i : Nat) (h : i < l.length) : (l.take (i + 1)).any f = ((l.take i).any f || f l[i]) := by
 rw [List.take_succ_eq_append_getElem h,List.any_append]; simp
def ltimS : zal
 | [.agg [.w (.int .i64 B),.sg 6 xs f],.w (.int .i64 t)],[] => ⟨xs.length ≤ 9223372036854775807 ∧ isBs xs,.w (.bool true),[]⟩
 | _,_ => zba
def zdv (f : FuncId) : Option zal :=
 match f with
 | 9 => some zbc
 | 28 => some schkS
 | 11 => some yesS
 | 15 => some sbtS
 | 19 => some snewS
 | _ => none
theorem Sltim14_ok : Fns Try.prog zdv := by
 intro f s h
 unfold zdv at h
 split at h
 · injection h with h; subst h; exact ⟨⟨_,Try.func9,by kernel_rfl,by kernel_rfl⟩,zdp⟩
 · injection h with h; subst h; exact ⟨⟨_,Try.func28,by kernel_rfl,by kernel_rfl⟩,zfo⟩
 · injection h with h; subst h; exact ⟨⟨_,Try.func11,by kernel_rfl,by kernel_rfl⟩,zda⟩
 · injection h with h; subst h; exact ⟨⟨_,Try.func15,by kernel_rfl,by kernel_rfl⟩,sbt_sound⟩
 · injection h with h; subst h; exact ⟨⟨_,Try.func19,by kernel_rfl,by kernel_rfl⟩,snew_sound⟩
 · cases h
section
set_option maxRecDepth 100000
set_option maxHeartbeats 8000000 in
theorem ltim_law : zar Try.prog 7 ltimS := by
 refine zah (S := zdv) (T := tyF) zat tyF_ok Sltim14_ok Try.func7 (c := Try.f7.body.getD .skip) (by kernel_rfl) (by kernel_rfl) (fun xs pins hp _ => ?_)
 unfold ltimS at hp ⊢
 split at hp
 · rename_i B xs f t _
   obtain ⟨hL,hb⟩ := hp
   refine ⟨by simp,?_⟩
   unfold Try.f7
   by_cases hg : zbs (xs.map ubat)
   · obtain ⟨h20,h4,hbl⟩ := zen hb hg
     have hL6 : xs.length ≤ 1000000 := by omega
     have hL7 : xs.length ≤ 9223372036854775806 := by omega
     have d0 : decide (zbs (xs.map ubat)) = true := decide_eq_true hg
     obtain ⟨es,rfl,he⟩ := h4
     have hlp : (es.map bvp).length = es.length := by simp
     have mu := zaz es
     rw [mu] at d0
     obtain ⟨l,hl⟩ : ∃ l,es.map Prod.fst = l := ⟨_,rfl⟩
     rw [hl] at mu d0
     have hlq : l.length = es.length := by subst hl; simp
     rw [hlp] at h20
     cases d1 : decide (chkG B l = 0) with
     | false => simp only [go_sem,zaa,Nat.reduceAdd,Nat.reduceSub,Nat.reduceMul,Int.reduceToNat,reduceCtorEq,↓reduceIte,Int.reducePow,Nat.reducePow,Int.reduceMod,Nat.reduceLeDiff,Int.reduceLE,Int.reduceNe,Int.reduceEq,Nat.reduceEqDiff,Nat.reduceLT,Nat.reduceBEq,tyF,zaj,ty,zdv,zbc,schkS,yesS,hL,hL7,hb,mu,d0,d1,Bool.not_true,Bool.not_false]
     | true =>
       obtain ⟨F1,F2⟩ := btG_facts t l
       have F3 := fun h : 0 ≤ t => nwG_bt h l
       obtain ⟨a,ha⟩ : ∃ a,(btG t l).1 = a := ⟨_,rfl⟩
       obtain ⟨h,hh⟩ : ∃ h,(btG t l).2 = h := ⟨_,rfl⟩
       rw [ha,hh] at F1 F2
       rw [hh] at F3
       simp only [go_sem,zaa,Nat.reduceAdd,Nat.reduceSub,Nat.reduceMul,Int.reduceToNat,reduceCtorEq,↓reduceIte,Int.reducePow,Nat.reducePow,Int.reduceMod,Nat.reduceLeDiff,Int.reduceLE,Int.reduceNe,Int.reduceEq,Nat.reduceEqDiff,Nat.reduceLT,Nat.reduceBEq,tyF,zaj,ty,zdv,zbc,schkS,sbtS,yesS,hL,hL7,hb,mu,d0,d1,ha,hh,Bool.not_true,Bool.not_false]
       refine zas ⟨fun m σ => ∃ (i : Nat) (F : Bool),m = es.length - i ∧ i ≤ es.length ∧ F = (h && (l.take i).any (hitB t a)) ∧
           σ = ⟨[.agg [.w (.int .i64 B),.sg 6 (es.map bvp) f],.w (.int .i64 t),.rf 4 2 0 0,.junk,.junk,.rf 5 2 0 0,.w (.int .i64 a),.w (.bool h),.w (.bool F),.w (.int .i64 i),.junk,.junk,.junk,.junk,.junk,.junk,.junk,.junk,.junk,.junk,.junk,.junk,.junk,.junk,.junk,.junk,.junk,.junk,.junk,.junk,.junk,.junk,.junk,.junk,.junk,.junk,.junk,.junk,.junk,.junk,.junk,.junk,.junk,.junk,.junk,.junk,.junk,.junk,.junk,.junk,.junk,.junk,.junk,.junk,.junk,.junk,.junk,.junk,.junk,.junk,.junk,.junk,.junk,.junk,.junk,.junk,.junk,.junk,.junk,.junk,.junk,.junk,.junk,.junk,.junk,.junk,.junk,.junk,.junk,.junk,.junk,.junk,.junk,.junk,.junk,.junk,.junk,.junk,.junk,.junk,.junk,.junk,.junk,.junk,.junk,.junk,.junk,.junk,.junk,.junk,.junk,.junk,.junk,.junk,.junk,.junk,.junk,.junk,.junk,.junk,.junk],[(4,.g 2 [.agg [.w (.int .i64 B),.sg 6 (es.map bvp) f]]),(5,.g 2 [.agg [.w (.int .i64 B),.sg 6 (es.map bvp) f]])],6⟩,?_,?_⟩
       · refine ⟨_,_,zac [0,1,2,3,4,28] rfl rfl rfl ?_ ?_,0,false,rfl,by omega,by simp,rfl⟩
         · simp only [ssT,zaf,zag,setSlot,gOf,AV.ren,renL,Blk.ren,Ax.look,Ax.put,reduceCtorEq,↓reduceIte,Nat.reduceEqDiff,Nat.reduceLT,Nat.reduceAdd,List.length_append,List.length_cons,List.length_nil,Option.some.injEq]; try simp
         · simp only [ssT,zaf,zag,setSlot,gOf,AV.ren,renL,Blk.ren,Ax.look,Ax.put,reduceCtorEq,↓reduceIte,Nat.reduceEqDiff,Nat.reduceLT,Nat.reduceAdd,List.length_append,List.length_cons,List.length_nil,Option.some.injEq]
       · rintro m σ ⟨i,F,rfl,hi,hF,rfl⟩
         have e1 : ((i : Int) + 1 + 9223372036854775808) % 18446744073709551616 - 9223372036854775808 = ((i + 1 : Nat) : Int) := by omega
         by_cases hil : i < es.length
         · have d3 : decide ((i : Int) < es.length) = true := decide_eq_true (by omega)
           have hs1 := zbb es i hil
           have m1 := he es[i] (List.getElem_mem hil)
           have hli : l[i]'(by omega) = es[i].1 := by subst hl; simp
           have hmem : l[i]'(by omega) ∈ l := List.getElem_mem _
           have hany := any_snoc (hitB t a) l i (by omega)
           rw [hli] at hmem hany
           obtain ⟨P,hP⟩ : ∃ P,es[i] = P := ⟨_,rfl⟩
           rw [hP] at hs1 m1 hmem hany
           obtain ⟨⟨b,c,p,e,s,rs⟩,f'⟩ := P
           have hs1 : slot (es.map bvp) i = .agg [.w (.int .i64 b),.w (.int .i64 c),.w (.int .i64 p),.w (.int .i64 e),.w (.int .i64 s),.sg 6 (rs.map rv) f'] := hs1
           simp only at m1 hmem hany
           have hlr : (rs.map rv).length = rs.length := by simp
           have G1 := fun r hr => F1 _ hmem r hr
           simp only at G1
           have hany : (l.take (i + 1)).any (hitB t a) = ((l.take i).any (hitB t a) || rs.any (hitR t a b)) := hany
           obtain ⟨A,hA⟩ : ∃ A,(l.take i).any (hitB t a) = A := ⟨_,rfl⟩
           rw [hA] at hF hany
           have di : 0 ≤ (i : Int) := by omega
           simp only [go_sem,zaa,Nat.reduceAdd,Nat.reduceSub,Nat.reduceMul,Int.reduceToNat,reduceCtorEq,↓reduceIte,Int.reducePow,Nat.reducePow,Int.reduceMod,Nat.reduceLeDiff,Int.reduceLE,Int.reduceNe,Int.reduceEq,Nat.reduceEqDiff,Nat.reduceLT,Nat.reduceBEq,tyF,zaj,ty,zdv,hlp,d3]
           refine zas ⟨fun m σ => ∃ (k : Nat) (F : Bool),m = rs.length - k ∧ k ≤ rs.length ∧ F = (h && (A || (rs.take k).any (hitR t a b))) ∧
               σ = ⟨[.agg [.w (.int .i64 B),.sg 6 (es.map bvp) f],.w (.int .i64 t),.rf 4 2 0 0,.junk,.junk,.rf 5 2 0 0,.w (.int .i64 a),.w (.bool h),.w (.bool F),.w (.int .i64 i),.w (.int .i64 k),.junk,.junk,.junk,.junk,.junk,.junk,.junk,.junk,.junk,.junk,.junk,.junk,.junk,.junk,.junk,.junk,.junk,.junk,.junk,.junk,.junk,.junk,.junk,.junk,.junk,.junk,.junk,.junk,.junk,.junk,.junk,.junk,.junk,.junk,.junk,.junk,.junk,.junk,.junk,.junk,.junk,.junk,.junk,.junk,.junk,.junk,.junk,.junk,.junk,.junk,.junk,.junk,.junk,.junk,.junk,.junk,.junk,.junk,.junk,.junk,.junk,.junk,.junk,.junk,.junk,.junk,.junk,.junk,.junk,.junk,.junk,.junk,.junk,.junk,.junk,.junk,.junk,.junk,.junk,.junk,.junk,.junk,.junk,.junk,.junk,.junk,.junk,.junk,.junk,.junk,.junk,.junk,.junk,.junk,.junk,.junk,.junk,.junk,.junk,.junk],[(4,.g 2 [.agg [.w (.int .i64 B),.sg 6 (es.map bvp) f]]),(5,.g 2 [.agg [.w (.int .i64 B),.sg 6 (es.map bvp) f]])],6⟩,?_,?_⟩
           · refine ⟨_,_,zac [0,1,2,3,4,5] rfl rfl rfl ?_ ?_,0,F,rfl,by omega,by simp [hF],rfl⟩
             · simp only [ssT,zaf,zag,setSlot,gOf,AV.ren,renL,Blk.ren,Ax.look,Ax.put,reduceCtorEq,↓reduceIte,Nat.reduceEqDiff,Nat.reduceLT,Nat.reduceAdd,List.length_append,List.length_cons,List.length_nil,Option.some.injEq]; try simp
             · simp only [ssT,zaf,zag,setSlot,gOf,AV.ren,renL,Blk.ren,Ax.look,Ax.put,reduceCtorEq,↓reduceIte,Nat.reduceEqDiff,Nat.reduceLT,Nat.reduceAdd,List.length_append,List.length_cons,List.length_nil,Option.some.injEq]
           · rintro m σ ⟨k,F',rfl,hk,hF',rfl⟩
             by_cases hkl : k < rs.length
             · have e2 : ((k : Int) + 1 + 9223372036854775808) % 18446744073709551616 - 9223372036854775808 = ((k + 1 : Nat) : Int) := by omega
               have d4 : decide ((k : Int) < rs.length) = true := decide_eq_true (by omega)
               have hs2 := zbi rv rs k hkl
               have G2 := G1 rs[k] (List.getElem_mem hkl)
               have hk1 := any_snoc (hitR t a b) rs k hkl
               obtain ⟨R,hR⟩ : ∃ R,rs[k] = R := ⟨_,rfl⟩
               rw [hR] at hs2 G2 hk1
               simp only [rv] at hs2
               have hof : (b + R.d + 9223372036854775808) % 18446744073709551616 - 9223372036854775808 = offI b R.d := rfl
               obtain ⟨O,hO⟩ : ∃ O,offI b R.d = O := ⟨_,rfl⟩
               have hkk : (rs.take (k + 1)).any (hitR t a b) = ((rs.take k).any (hitR t a b) || (decide (O = a) && decide (t ≤ R.t))) := by rw [hk1,← hO]; rfl
               rw [hO] at hof G2
               obtain ⟨dO,hdO⟩ : ∃ dO,decide (O = a) = dO := ⟨_,rfl⟩
               obtain ⟨dT,hdT⟩ : ∃ dT,decide (t ≤ R.t) = dT := ⟨_,rfl⟩
               rw [hdO,hdT] at hkk
               have hG : dT = true → h = true ∧ decide (O < a) = false := by
                 intro hh; rw [hh] at hdT
                 have := G2 (of_decide_eq_true hdT)
                 exact ⟨this.1,decide_eq_false (by omega)⟩
               have hFn : (F' || (h && (dO && dT))) = (h && (A || (rs.take (k + 1)).any (hitR t a b))) := by
                 rw [hkk,hF']
                 cases h <;> cases A <;> cases (rs.take k).any (hitR t a b) <;> cases dO <;> cases dT <;> rfl
               cases dT with
               | true =>
                 obtain ⟨rfl,d6⟩ := hG rfl
                 cases F' <;> cases dO
                 all_goals simp only [go_sem,zaa,Nat.reduceAdd,Nat.reduceSub,Nat.reduceMul,Int.reduceToNat,reduceCtorEq,↓reduceIte,Int.reducePow,Nat.reducePow,Int.reduceMod,Nat.reduceLeDiff,Int.reduceLE,Int.reduceNe,Int.reduceEq,Nat.reduceEqDiff,Nat.reduceLT,Nat.reduceBEq,tyF,zaj,ty,zdv,hlp,hlr,d4,d6,hs1,hs2,hof,hdO,hdT,e2,Int.toNat_natCast,Bool.not_true,Bool.not_false]
                 all_goals repeat (refine And.intro (by omega) ?_)
                 all_goals refine ⟨rs.length - (k + 1),_,by omega,zac [0,1,2,3,4,5] rfl rfl rfl ?_ ?_,k + 1,_,rfl,by omega,hFn,rfl⟩
                 all_goals simp only [ssT,zaf,zag,setSlot,gOf,AV.ren,renL,Blk.ren,Ax.look,Ax.put,reduceCtorEq,↓reduceIte,Nat.reduceEqDiff,Nat.reduceLT,Nat.reduceAdd,List.length_append,List.length_cons,List.length_nil,Option.some.injEq,Bool.true_or,Bool.false_or,Bool.true_and,Bool.false_and,Bool.or_true,Bool.or_false,Bool.and_true,Bool.and_false]
               | false =>
                 cases F' <;> cases h <;> cases dO
                 all_goals simp only [go_sem,zaa,Nat.reduceAdd,Nat.reduceSub,Nat.reduceMul,Int.reduceToNat,reduceCtorEq,↓reduceIte,Int.reducePow,Nat.reducePow,Int.reduceMod,Nat.reduceLeDiff,Int.reduceLE,Int.reduceNe,Int.reduceEq,Nat.reduceEqDiff,Nat.reduceLT,Nat.reduceBEq,tyF,zaj,ty,zdv,hlp,hlr,d4,hs1,hs2,hof,hdO,hdT,e2,Int.toNat_natCast,Bool.not_true,Bool.not_false]
                 all_goals repeat (refine And.intro (by omega) ?_)
                 all_goals refine ⟨rs.length - (k + 1),_,by omega,zac [0,1,2,3,4,5] rfl rfl rfl ?_ ?_,k + 1,_,rfl,by omega,hFn,rfl⟩
                 all_goals simp only [ssT,zaf,zag,setSlot,gOf,AV.ren,renL,Blk.ren,Ax.look,Ax.put,reduceCtorEq,↓reduceIte,Nat.reduceEqDiff,Nat.reduceLT,Nat.reduceAdd,List.length_append,List.length_cons,List.length_nil,Option.some.injEq,Bool.true_or,Bool.false_or,Bool.true_and,Bool.false_and,Bool.or_true,Bool.or_false,Bool.and_true,Bool.and_false]
             · have d4 : decide ((k : Int) < rs.length) = false := decide_eq_false (by omega)
               have hii : rs.take k = rs := List.take_of_length_le (by omega)
               rw [hii,← hany] at hF'
               simp only [go_sem,zaa,Nat.reduceAdd,Nat.reduceSub,Nat.reduceMul,Int.reduceToNat,reduceCtorEq,↓reduceIte,Int.reducePow,Nat.reducePow,Int.reduceMod,Nat.reduceLeDiff,Int.reduceLE,Int.reduceNe,Int.reduceEq,Nat.reduceEqDiff,Nat.reduceLT,Nat.reduceBEq,tyF,zaj,ty,zdv,hlp,hlr,d4,hs1,e1,Int.toNat_natCast]
               repeat (refine And.intro (by omega) ?_)
               refine ⟨es.length - (i + 1),_,by omega,zac [0,1,2,3,4,5] rfl rfl rfl ?_ ?_,i + 1,F',rfl,by omega,hF',rfl⟩
               · simp only [ssT,zaf,zag,setSlot,gOf,AV.ren,renL,Blk.ren,Ax.look,Ax.put,reduceCtorEq,↓reduceIte,Nat.reduceEqDiff,Nat.reduceLT,Nat.reduceAdd,List.length_append,List.length_cons,List.length_nil,Option.some.injEq]
               · simp only [ssT,zaf,zag,setSlot,gOf,AV.ren,renL,Blk.ren,Ax.look,Ax.put,reduceCtorEq,↓reduceIte,Nat.reduceEqDiff,Nat.reduceLT,Nat.reduceAdd,List.length_append,List.length_cons,List.length_nil,Option.some.injEq]
         · have d3 : decide ((i : Int) < es.length) = false := decide_eq_false (by omega)
           have hii : l.take i = l := List.take_of_length_le (by omega)
           have hFh : F = h := by
             rw [hF,hii]
             cases h with
             | false => rfl
             | true =>
               obtain ⟨x,hx,r,hr,h1,h2⟩ := F2 rfl
               have : l.any (hitB t a) = true := List.any_eq_true.2 ⟨x,hx,List.any_eq_true.2 ⟨r,hr,by unfold hitR; rw [decide_eq_true h2,decide_eq_true h1]; rfl⟩⟩
               rw [this]; rfl
           subst hFh
           have bb : (F == F) = true := by cases F <;> rfl
           obtain ⟨W,hW⟩ : ∃ W,nwG l = W := ⟨_,rfl⟩
           rw [hW] at F3
           by_cases ht : t < 0
           · have dt : decide (t < 0) = true := decide_eq_true ht
             simp only [go_sem,zaa,Nat.reduceAdd,Nat.reduceSub,Nat.reduceMul,Int.reduceToNat,reduceCtorEq,↓reduceIte,Int.reducePow,Nat.reducePow,Int.reduceMod,Nat.reduceLeDiff,Int.reduceLE,Int.reduceNe,Int.reduceEq,Nat.reduceEqDiff,Nat.reduceLT,Nat.reduceBEq,tyF,zaj,ty,zdv,snewS,yesS,hL7,hb,mu,hlp,d3,bb,dt,hW]
           · have dt : decide (t < 0) = false := decide_eq_false ht
             have F4 := F3 (by omega)
             have bb2 : (F == decide (t ≤ W)) = true := by rw [← F4]; exact bb
             simp only [go_sem,zaa,Nat.reduceAdd,Nat.reduceSub,Nat.reduceMul,Int.reduceToNat,reduceCtorEq,↓reduceIte,Int.reducePow,Nat.reducePow,Int.reduceMod,Nat.reduceLeDiff,Int.reduceLE,Int.reduceNe,Int.reduceEq,Nat.reduceEqDiff,Nat.reduceLT,Nat.reduceBEq,tyF,zaj,ty,zdv,snewS,yesS,hL7,hb,mu,hlp,d3,bb,bb2,dt,hW]
             omega
   · have d0 : decide (zbs (xs.map ubat)) = false := decide_eq_false hg
     simp only [go_sem,zaa,Nat.reduceAdd,Nat.reduceSub,Nat.reduceMul,Int.reduceToNat,reduceCtorEq,↓reduceIte,Int.reducePow,Nat.reducePow,Int.reduceMod,Nat.reduceLeDiff,Int.reduceLE,Int.reduceNe,Int.reduceEq,Nat.reduceEqDiff,Nat.reduceLT,Nat.reduceBEq,tyF,zaj,ty,zdv,zbc,yesS,hL,hb,d0,Bool.not_false]
 · exact hp.elim
end
theorem ltim_dom {x y : AV} (hx : Arg ty 8 24 x) (hy : Arg ty 8 3 y) : (ltimS [x,y] []).p ∧ (ltimS [x,y] []).x = .w (.bool true) := by
 obtain ⟨B,xs,f,rfl,h1,h2⟩ := arg_segJ (j := 1) hx
 obtain ⟨o,rfl⟩ := arg_intJ hy
 exact ⟨⟨h1,h2⟩,rfl⟩
end Go.Proofs.Ytjiognhpcijndaa
