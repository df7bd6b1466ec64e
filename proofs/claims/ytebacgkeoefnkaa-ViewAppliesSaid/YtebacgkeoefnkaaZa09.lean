/- What the proofs of this seat stand on; it asks nothing. -/
import Derived.Test.YtebacgkeoefnkaaZa08
set_option linter.unusedSimpArgs false
set_option linter.unusedVariables false
namespace Go.Proofs.Ytebacgkeoefnkaa
open Ax
structure VR where
 k : List UInt8
 v : List UInt8
 o : Int
 t : Int
deriving DecidableEq
def vrA (r : VR) : AV := .agg [.str r.k,.str r.v,.w (.int .i64 r.o),.w (.int .i64 r.t)]
def uvr : AV → VR
 | .agg [.str k,.str v,.w (.int _ o),.w (.int _ t)] => ⟨k,v,o,t⟩
 | _ => ⟨[],[],0,0⟩
theorem zau (es : List VR) : (es.map vrA).map uvr = es := by
 rw [List.map_map]; exact List.map_id _
theorem zan : ∀ (G : List VR),closedL (G.map vrA) = true
 | [] => rfl
 | x :: r => by simp only [List.map_cons,closedL,vrA,AV.closed,Bool.true_and]; exact zan r
theorem zfc (g : Nat → Nat) : ∀ (G : List VR),renL g (G.map vrA) = G.map vrA
 | [] => rfl
 | x :: r => by simp only [List.map_cons,renL,zfc g r]; rfl
theorem yix : ∀ (G : List VR),idsL (G.map vrA) = []
 | [] => rfl
 | x :: r => by simp only [List.map_cons,idsL,yix r]; rfl
theorem zdb : ∀ (es : List VR) (i : Nat) (h : i < es.length),slot (es.map vrA) i = vrA es[i]
 | p :: ps,0,h => rfl
 | p :: ps,i + 1,h => by
  simp only [List.map_cons,slot,List.getElem_cons_succ]
  exact zdb ps i (by simpa using h)
theorem zbe {T : zac} {sl : List AV} {H : Heap} {nx : Nat} {v : Value} {q : Prop} (i : Nat) (h : slot sl i = .w v) : zrh T [.tmp i] [] ⟨q,.w v,[]⟩ .ret ⟨sl,H,nx⟩ := by
 refine ⟨_,Weak.refl _,?_⟩
 simp only [Ax.Ends,Ax.rvals,EndsX,rone,h,AV.ids,idsL,newIds,upTo,nodup,pinsOf,List.nil_append,AV.ren,and_self]
def ztu (r : VR) : Prop := r.k.length ≤ 200 ∧ r.v.length ≤ 700
instance (r : VR) : Decidable (ztu r) := by unfold ztu; infer_instance
def zji (l : List VR) : Prop := l.length ≤ 60 ∧ ∀ r ∈ l,ztu r
instance (l : List VR) : Decidable (zji l) := by unfold zji; infer_instance
def zhz : zaw
 | [.agg [.w (.int .i64 n),.sg 4 xs f]],[] => ⟨xs.length ≤ 9223372036854775807 ∧ ∃ l : List VR,xs = l.map vrA,.w (.bool (decide (zji (xs.map uvr)))),[]⟩
 | _,_ => zcm
section
set_option maxRecDepth 100000
set_option maxHeartbeats 4000000 in
theorem zwg : zbb Try.prog 5 zhz := by
 refine zfl (S := noS) (T := ty) mixed ty_ok zdk Try.func5 (c := Try.f5.body.getD .skip) (by kernel_rfl) (by kernel_rfl) (fun xs pins hp _ => ?_)
 unfold zhz at hp ⊢
 split at hp
 ·rename_i n xs f _
  obtain ⟨hL,l,rfl⟩ := hp
  rw [List.length_map] at hL
  have hle : (l.map vrA).length = l.length := by simp
  rw [zau]
  refine ⟨by simp,?_⟩
  unfold Try.f5
  by_cases hn : 60 < l.length
  ·have d1 : decide ((60 : Int) < (l.length : Int)) = true := decide_eq_true (by omega)
   have hno : decide (zji l) = false := decide_eq_false (fun h => by have := h.1; omega)
   rw [hno]
   simp only [go_sem,coe,zaa,↓reduceIte,ty,noS,hle,d1]
   exact zbe 2 rfl
  ·have d1 : decide ((60 : Int) < (l.length : Int)) = false := decide_eq_false (by omega)
   simp only [go_sem,coe,zaa,↓reduceIte,ty,noS,hle,d1]
   refine zqg ⟨fun m σ => ∃ i : Nat,m = l.length - i ∧ i ≤ l.length ∧ (∀ r ∈ l.take i,ztu r) ∧
    σ = ⟨[.agg [.w (.int .i64 n),.sg 4 (l.map vrA) f],.rf 4 2 0 0,.w (.bool false),.w (.int .i64 i),.junk,.junk,.junk,.junk,.junk,.junk,.junk,.junk,.junk,.junk,.junk,.junk,.junk,.junk,.junk,.junk,.junk,.junk,.junk,.junk,.junk,.junk,.junk,.junk,.junk,.junk,.junk,.junk,.junk],[(4,.g 2 [.agg [.w (.int .i64 n),.sg 4 (l.map vrA) f]])],5⟩,?_,?_⟩
   ·refine ⟨_,_,zaf [0,1,2,3,4] rfl rfl rfl ?_ ?_,0,rfl,by omega,by simp,rfl⟩
    ·simp only [ssT,zah,zai,setSlot,gOf,AV.ren,renL,Blk.ren,Ax.look,Ax.put,reduceCtorEq,↓reduceIte,Nat.reduceEqDiff,Nat.reduceLT,Nat.reduceAdd,List.length_append,List.length_cons,List.length_nil,Option.some.injEq]; try simp
    ·simp only [ssT,zah,zai,setSlot,gOf,AV.ren,renL,Blk.ren,Ax.look,Ax.put,reduceCtorEq,↓reduceIte,Nat.reduceEqDiff,Nat.reduceLT,Nat.reduceAdd,List.length_append,List.length_cons,List.length_nil,Option.some.injEq]; try simp
   ·rintro m σ ⟨i,rfl,hi,hall,rfl⟩
    by_cases hil : i < l.length
    ·have d2 : decide ((i : Int) < l.length) = true := decide_eq_true (by omega)
     have e1 : ((i : Int) + 1 + 9223372036854775808) % 18446744073709551616 - 9223372036854775808 = ((i + 1 : Nat) : Int) := by omega
     have hs1 := zdb l i hil
     have hmem : l[i] ∈ l := List.getElem_mem hil
     have htk : l.take (i + 1) = l.take i ++ [l[i]] := List.take_succ_eq_append_getElem hil
     obtain ⟨r,hr⟩ : ∃ r,l[i] = r := ⟨_,rfl⟩
     rw [hr] at hs1 hmem htk
     obtain ⟨k,v,o,t⟩ := r
     have hs1 : slot (l.map vrA) i = .agg [.str k,.str v,.w (.int .i64 o),.w (.int .i64 t)] := hs1
     by_cases h1 : 200 < k.length
     ·have d3 : decide ((200 : Int) < (k.length : Int)) = true := decide_eq_true (by omega)
      have hno : decide (zji l) = false := decide_eq_false (fun h => by have := (h.2 _ hmem).1; simp at this; omega)
      rw [hno]
      simp only [go_sem,coe,zaa,↓reduceIte,ty,noS,hle,d2,hs1,d3,Int.toNat_natCast]
      repeat (refine And.intro (by omega) ?_)
      refine ⟨_,Weak.refl _,?_⟩
      simp only [go_sem,coe,zaa,↓reduceIte,ty]
      exact zbe 2 rfl
     ·have d3 : decide ((200 : Int) < (k.length : Int)) = false := decide_eq_false (by omega)
      by_cases h2 : 700 < v.length
      ·have d4 : decide ((700 : Int) < (v.length : Int)) = true := decide_eq_true (by omega)
       have hno : decide (zji l) = false := decide_eq_false (fun h => by have := (h.2 _ hmem).2; simp at this; omega)
       rw [hno]
       simp only [go_sem,coe,zaa,↓reduceIte,ty,noS,hle,d2,hs1,d3,d4,Int.toNat_natCast]
       repeat (refine And.intro (by omega) ?_)
       refine ⟨_,Weak.refl _,?_⟩
       simp only [go_sem,coe,zaa,↓reduceIte,ty]
       exact zbe 2 rfl
      ·have d4 : decide ((700 : Int) < (v.length : Int)) = false := decide_eq_false (by omega)
       simp only [go_sem,coe,zaa,↓reduceIte,ty,noS,hle,d2,hs1,d3,d4,e1,Int.toNat_natCast]
       repeat (refine And.intro (by omega) ?_)
       refine ⟨l.length - (i + 1),_,by omega,zaf [0,1,2,3,4] rfl rfl rfl ?_ ?_,i + 1,rfl,by omega,?_,rfl⟩
       ·simp only [ssT,zah,zai,setSlot,gOf,AV.ren,renL,Blk.ren,Ax.look,Ax.put,reduceCtorEq,↓reduceIte,Nat.reduceEqDiff,Nat.reduceLT,Nat.reduceAdd,List.length_append,List.length_cons,List.length_nil,Option.some.injEq]; try simp
       ·simp only [ssT,zah,zai,setSlot,gOf,AV.ren,renL,Blk.ren,Ax.look,Ax.put,reduceCtorEq,↓reduceIte,Nat.reduceEqDiff,Nat.reduceLT,Nat.reduceAdd,List.length_append,List.length_cons,List.length_nil,Option.some.injEq]; try simp
       ·rw [htk]
        intro r hr
        rcases List.mem_append.1 hr with h | h
        ·exact hall r h
        ·obtain rfl := List.mem_singleton.1 h
         exact ⟨by simp; omega,by simp; omega⟩
    ·have d2 : decide ((i : Int) < l.length) = false := decide_eq_false (by omega)
     have hii : l.take i = l := List.take_of_length_le (by omega)
     rw [hii] at hall
     have hyes : decide (zji l) = true := decide_eq_true ⟨by omega,hall⟩
     rw [hyes]
     simp only [go_sem,coe,zaa,↓reduceIte,ty,noS,hle,d2]
     refine ⟨_,Weak.refl _,?_⟩
     simp only [go_sem,coe,zaa,↓reduceIte,ty]
     exact zbe 2 rfl
 ·exact hp.elim
end
end Go.Proofs.Ytebacgkeoefnkaa
namespace Go.Proofs.Ytebacgkeoefnkaa
open Ax
def kvR (r : VR) : AV × AV := (.str r.k,vrA r)
def kvM (m : List VR) : List (AV × AV) := m.map kvR
def ixR (k : List UInt8) : List VR → Nat → Option (Nat × VR)
 | [],_ => none
 | p :: r,i => if k = p.k then some (i,p) else ixR k r (i + 1)
def ptR (m : List VR) (r : VR) : List VR :=
 match ixR r.k m 0 with
 | some p => m.set p.1 r
 | none => m ++ [r]
def ctR (m : List VR) (k : List UInt8) : List VR :=
 match ixR k m 0 with
 | some p => m.eraseIdx p.1
 | none => m
def mpR (o : Option (Nat × VR)) : Option (Nat × AV) := o.map fun p => (p.1,vrA p.2)
theorem zlk (k : List UInt8) : ∀ (m : List VR) (i : Nat),zbs ty 9 (.str k) (kvM m) i = (True,mpR (ixR k m i))
 | [],i => rfl
 | p :: r,i => by
  have h := zlk k r (i + 1)
  have he : eqV ty 4 9 (.str k) (.str p.k) = (True,decide (k = p.k)) := rfl
  show zbs ty 9 (.str k) (kvR p :: kvM r) i = _
  unfold zbs
  simp only [kvR,he,h,ixR]
  by_cases hk : k = p.k
  ·subst hk; simp [mpR]
  ·simp [hk,mpR]
theorem ypr (m : List VR) (r : VR) : putM (kvM m) (.str r.k) (vrA r) (mpR (ixR r.k m 0)) = kvM (ptR m r) := by
 unfold ptR
 cases ixR r.k m 0 with
 | none => simp [mpR,putM,kvM,kvR]
 | some p => simp [mpR,putM,kvM,kvR,List.map_set]
theorem zuc {α β : Type} (f : α → β) : ∀ (l : List α) (i : Nat),(l.map f).eraseIdx i = (l.eraseIdx i).map f
 | [],i => by simp
 | x :: r,0 => rfl
 | x :: r,i + 1 => by simp [zuc f r i]
theorem yqj (m : List VR) (k : List UInt8) : cutM (kvM m) (mpR (ixR k m 0)) = kvM (ctR m k) := by
 unfold ctR
 cases ixR k m 0 with
 | none => rfl
 | some p => simp [mpR,cutM,kvM,zuc]
theorem zpc (k : List UInt8) : ∀ (m : List VR) (i : Nat),ixR k m (i + 1) = (ixR k m i).map fun p => (p.1 + 1,p.2)
 | [],i => rfl
 | p :: r,i => by
  unfold ixR
  split
  ·rfl
  ·exact zpc k r (i + 1)
theorem ymm (p : VR) (m : List VR) (r : VR) : ptR (p :: m) r = if r.k = p.k then r :: m else p :: ptR m r := by
 unfold ptR
 by_cases h : r.k = p.k
 ·rw [ixR,if_pos h,if_pos h]; rfl
 ·rw [ixR,if_neg h,if_neg h,zpc]
  cases ixR r.k m 0 <;> rfl
theorem ynq (p : VR) (m : List VR) (k : List UInt8) : ctR (p :: m) k = if k = p.k then m else p :: ctR m k := by
 unfold ctR
 by_cases h : k = p.k
 ·rw [ixR,if_pos h,if_pos h]; rfl
 ·rw [ixR,if_neg h,if_neg h,zpc]
  cases ixR k m 0 <;> rfl
def ztq (m : List VR) : Prop := (m.map fun r => r.k).Nodup
theorem zue : ∀ (m : List VR) (k : List UInt8),ztq m → (ztq (ctR m k) ∧ ∀ x,x ∈ ctR m k ↔ x ∈ m ∧ x.k ≠ k)
 | [],k,h => ⟨h,fun x => by simp [ctR,ixR]⟩
 | p :: m,k,h => by
  have h2 := List.nodup_cons.1 (show ((p :: m).map fun r => r.k).Nodup from h)
  obtain ⟨i1,i2⟩ := zue m k h2.2
  rw [ynq]
  by_cases e : k = p.k
  ·rw [if_pos e]
   refine ⟨h2.2,fun x => ⟨fun hx => ⟨List.mem_cons_of_mem _ hx,fun e2 => h2.1 ?_⟩,fun hx => ?_⟩⟩
   ·exact List.mem_map.2 ⟨x,hx,by rw [e2,e]⟩
   ·rcases List.mem_cons.1 hx.1 with rfl | h3
    ·exact (hx.2 e.symm).elim
    ·exact h3
  ·rw [if_neg e]
   refine ⟨List.nodup_cons.2 ⟨fun hm => ?_,i1⟩,fun x => ?_⟩
   ·obtain ⟨x,hx,e2⟩ := List.mem_map.1 hm
    exact h2.1 (List.mem_map.2 ⟨x,((i2 x).1 hx).1,e2⟩)
   ·rw [List.mem_cons,List.mem_cons,i2 x]
    constructor
    ·rintro (rfl | ⟨h3,h4⟩)
     ·exact ⟨.inl rfl,fun e2 => e e2.symm⟩
     ·exact ⟨.inr h3,h4⟩
    ·rintro ⟨rfl | h3,h4⟩
     ·exact .inl rfl
     ·exact .inr ⟨h3,h4⟩
theorem ztp : ∀ (m : List VR) (r : VR),ztq m → (ztq (ptR m r) ∧ ∀ x,x ∈ ptR m r ↔ (x ∈ m ∧ x.k ≠ r.k) ∨ x = r)
 | [],r,h => ⟨by unfold ztq; simp [ptR,ixR],fun x => by simp [ptR,ixR]⟩
 | p :: m,r,h => by
  have h2 := List.nodup_cons.1 (show ((p :: m).map fun r => r.k).Nodup from h)
  obtain ⟨i1,i2⟩ := ztp m r h2.2
  rw [ymm]
  by_cases e : r.k = p.k
  ·rw [if_pos e]
   have hnm : ∀ x ∈ m,x.k ≠ r.k := fun x hx e2 => h2.1 (List.mem_map.2 ⟨x,hx,by rw [e2,e]⟩)
   refine ⟨List.nodup_cons.2 ⟨fun hm => ?_,h2.2⟩,fun x => ?_⟩
   ·obtain ⟨x,hx,e2⟩ := List.mem_map.1 hm
    exact hnm x hx e2
   ·rw [List.mem_cons,List.mem_cons]
    constructor
    ·rintro (rfl | h3)
     ·exact .inr rfl
     ·exact .inl ⟨.inr h3,hnm x h3⟩
    ·rintro (⟨rfl | h3,h4⟩ | rfl)
     ·exact (h4 e.symm).elim
     ·exact .inr h3
     ·exact .inl rfl
  ·rw [if_neg e]
   refine ⟨List.nodup_cons.2 ⟨fun hm => ?_,i1⟩,fun x => ?_⟩
   ·obtain ⟨x,hx,e2⟩ := List.mem_map.1 hm
    rcases (i2 x).1 hx with ⟨h3,_⟩ | rfl
    ·exact h2.1 (List.mem_map.2 ⟨x,h3,e2⟩)
    ·exact e e2
   ·rw [List.mem_cons,List.mem_cons,i2 x]
    constructor
    ·rintro (rfl | ⟨h3,h4⟩ | rfl)
     ·exact .inl ⟨.inl rfl,fun e2 => e e2.symm⟩
     ·exact .inl ⟨.inr h3,h4⟩
     ·exact .inr rfl
    ·rintro (⟨rfl | h3,h4⟩ | rfl)
     ·exact .inl rfl
     ·exact .inr (.inl ⟨h3,h4⟩)
     ·exact .inr (.inr rfl)
def rowR (b : Int) (r : Rec) : VR := ⟨r.key,r.val,offI b r.d,r.t⟩
def mdK (b : Int) (m : List VR) (r : Rec) : List VR := if r.k = true then (if r.dd = true then ctR m r.key else ptR m (rowR b r)) else m
def spK (m : KM) (r : Rec) : KM := if r.k = true then ptK m r.key ((gtK m r.key).getD 0 + 1) else m
def zhr (k : List UInt8) (r : Rec) : Bool := r.k && decide (r.key = k)
theorem zod (k : List UInt8) : ∀ (rs : List Rec) (m : KM),(gtK (rs.foldl spK m) k).getD 0 = (gtK m k).getD 0 + ((rs.countP (zhr k) : Nat) : Int)
 | [],m => by simp
 | r :: rs,m => by
  rw [List.foldl_cons,zod k rs (spK m r),List.countP_cons]
  unfold spK zhr
  cases hk : r.k with
  | false => simp
  | true =>
   simp only [if_true,Bool.true_and,decide_eq_true_eq]
   rw [yjf]
   by_cases e : k = r.key
   ·rw [if_pos e,if_pos e.symm,← e]
    simp; omega
   ·rw [if_neg e,if_neg (fun h => e h.symm)]
    simp
def chgS : zaw
 | [.agg [.w (.int .i64 b),.w (.int .i64 c),.w (.int .i64 p),.w (.int .i64 e),.w (.int .i64 s),.sg 6 xs f]],[] => ⟨xs.length ≤ 1000000 ∧ ∃ rs : List Rec,xs = rs.map rv,
   .tup [.rf 0 0 0 0,.rf 1 0 0 0],[.o (.mp (kvM ((xs.map rrec).foldl (mdK b) []))),.o (.mp (kvA ((xs.map rrec).foldl spK [])))]⟩
 | _,_ => zcm
section
set_option maxRecDepth 100000
set_option maxHeartbeats 8000000
theorem yku : zbb Try.prog 30 chgS := by
 refine zbd (S := noS) (T := ty) mixed ty_ok zdk Try.func30 (c := Try.f30.body.getD .skip) (by kernel_rfl) (by kernel_rfl) (fun xs pins hp _ => ?_)
 unfold chgS at hp ⊢
 split at hp
 ·rename_i b c p e s xs f _
  obtain ⟨hL,rs,rfl⟩ := hp
  rw [List.length_map] at hL
  have hlp : (rs.map rv).length = rs.length := by simp
  rw [zam]
  obtain ⟨A,hA⟩ : ∃ A,kvM (rs.foldl (mdK b) []) = A := ⟨_,rfl⟩
  obtain ⟨B,hB⟩ : ∃ B,kvA (rs.foldl spK []) = B := ⟨_,rfl⟩
  rw [hA,hB]
  refine ⟨by simp,?_⟩
  unfold Try.f30
  simp only [go_sem,zaa,↓reduceIte,ty,noS,hlp]
  refine zea ⟨fun m σ => ∃ (i : Nat),m = rs.length - i ∧ i ≤ rs.length ∧
    σ = ⟨[.agg [.w (.int .i64 b),.w (.int .i64 c),.w (.int .i64 p),.w (.int .i64 e),.w (.int .i64 s),.sg 6 (rs.map rv) f],.rf 4 6 0 0,.junk,.junk,.rf 5 0 0 0,.rf 6 0 0 0,.junk,.junk,.junk,.junk,.junk,.sg 6 (rs.map rv) f,.w (.int .i64 rs.length),.w (.int .i64 i),.junk,.junk,.junk,.junk,.junk,.junk,.junk,.junk,.junk,.junk,.junk,.junk,.junk,.junk,.junk,.junk,.junk,.junk,.junk,.junk,.junk,.junk,.junk,.junk,.junk,.junk,.junk,.junk,.junk,.junk,.junk,.junk,.junk,.junk],
     [(4,.g 6 [.agg [.w (.int .i64 b),.w (.int .i64 c),.w (.int .i64 p),.w (.int .i64 e),.w (.int .i64 s),.sg 6 (rs.map rv) f]]),(5,.o (.mp (kvM ((rs.take i).foldl (mdK b) [])))),(6,.o (.mp (kvA ((rs.take i).foldl spK []))))],7⟩,?_,?_⟩
  ·refine ⟨_,_,zaf [0,1,2,3,4,28,36] rfl rfl rfl ?_ ?_,0,rfl,by omega,rfl⟩
   ·simp only [ssT,zah,zai,setSlot,gOf,AV.ren,renL,Blk.ren,Ax.look,Ax.put,reduceCtorEq,↓reduceIte,Nat.reduceEqDiff,Nat.reduceLT,Nat.reduceAdd,List.length_append,List.length_cons,List.length_nil,Option.some.injEq]; try simp
   ·simp only [ssT,zah,zai,setSlot,gOf,AV.ren,renL,Blk.ren,Ax.look,Ax.put,reduceCtorEq,↓reduceIte,Nat.reduceEqDiff,Nat.reduceLT,Nat.reduceAdd,List.length_append,List.length_cons,List.length_nil,Option.some.injEq]; try simp [kvM,kvA]
  ·rintro m σ ⟨i,rfl,hi,rfl⟩
   have e1 : ((i : Int) + 1 + 9223372036854775808) % 18446744073709551616 - 9223372036854775808 = ((i + 1 : Nat) : Int) := by omega
   by_cases hil : i < rs.length
   ·have d3 : decide ((i : Int) < rs.length) = true := decide_eq_true (by omega)
    have hs2 := zfg rv rs i hil
    have hdk : rs.take (i + 1) = rs.take i ++ [rs[i]] := List.take_succ_eq_append_getElem hil
    have hcn := fun k => zod k (rs.take i) []
    have hcl : ∀ k,(rs.take i).countP (zhr k) ≤ i := fun k => Nat.le_trans List.countP_le_length (by rw [List.length_take]; omega)
    obtain ⟨R,hR⟩ : ∃ R,rs[i] = R := ⟨_,rfl⟩
    rw [hR] at hs2 hdk
    have hm1 : (rs.take (i + 1)).foldl (mdK b) [] = mdK b ((rs.take i).foldl (mdK b) []) R := by rw [hdk,List.foldl_append]; rfl
    have hm2 : (rs.take (i + 1)).foldl spK [] = spK ((rs.take i).foldl spK []) R := by rw [hdk,List.foldl_append]; rfl
    obtain ⟨M1,hM1⟩ : ∃ M1,(rs.take i).foldl (mdK b) [] = M1 := ⟨_,rfl⟩
    obtain ⟨M2,hM2⟩ : ∃ M2,(rs.take i).foldl spK [] = M2 := ⟨_,rfl⟩
    rw [hM1] at hm1
    rw [hM2] at hm2
    simp only [hM2] at hcn
    rw [hM1,hM2]
    obtain ⟨d,t,kd,key,dd,val⟩ := R
    simp only [rv] at hs2
    have hof : (b + d + 9223372036854775808) % 18446744073709551616 - 9223372036854775808 = offI b d := rfl
    have hcv := hcn key
    have hck := hcl key
    obtain ⟨O,hO⟩ : ∃ O,offI b d = O := ⟨_,rfl⟩
    rw [hO] at hof
    cases kd with
    | false =>
     have hm1 : (rs.take (i + 1)).foldl (mdK b) [] = M1 := hm1
     have hm2 : (rs.take (i + 1)).foldl spK [] = M2 := hm2
     simp only [go_sem,zaa,↓reduceIte,ty,noS,hlp,d3,hs2,e1,Int.toNat_natCast,Bool.not_false]
     repeat (refine And.intro (by omega) ?_)
     refine ⟨rs.length - (i + 1),_,by omega,zaf [0,1,2,3,4,5,6] rfl rfl rfl ?_ ?_,i + 1,rfl,by omega,rfl⟩
     ·simp only [ssT,zah,zai,setSlot,gOf,AV.ren,renL,Blk.ren,Ax.look,Ax.put,reduceCtorEq,↓reduceIte,Nat.reduceEqDiff,Nat.reduceLT,Nat.reduceAdd,List.length_append,List.length_cons,List.length_nil,Option.some.injEq]
     ·simp only [ssT,zah,zai,setSlot,gOf,AV.ren,renL,Blk.ren,Ax.look,Ax.put,reduceCtorEq,↓reduceIte,Nat.reduceEqDiff,Nat.reduceLT,Nat.reduceAdd,List.length_append,List.length_cons,List.length_nil,Option.some.injEq,hm1,hm2]
    | true =>
     have hm2 : (rs.take (i + 1)).foldl spK [] = ptK M2 key ((gtK M2 key).getD 0 + 1) := hm2
     obtain ⟨C,hC⟩ : ∃ C,(gtK M2 key).getD 0 = C := ⟨_,rfl⟩
     rw [hC] at hcv hm2
     have hg0 : (gtK ([] : KM) key).getD 0 = 0 := rfl
     rw [hg0] at hcv
     have e3 : (C + 1 + 9223372036854775808) % 18446744073709551616 - 9223372036854775808 = C + 1 := by omega
     have hfx : ∀ x : Option (Nat × Int),ixK key M2 0 = x → (x.map Prod.snd).getD 0 = C := fun x hx => by rw [← hC]; unfold gtK; rw [hx]
     have hpp : putM (kvA M2) (.str key) (.w (.int .i64 (C + 1))) (mpI (ixK key M2 0)) = kvA (ptK M2 key (C + 1)) := yps M2 key (C + 1)
     have hcc := yqj M1 key
     have hpr := ypr M1 ⟨key,val,O,t⟩
     simp only [vrA] at hpr
     cases dd with
     | true =>
      have hm1 : (rs.take (i + 1)).foldl (mdK b) [] = ctR M1 key := hm1
      cases hx : ixK key M2 0 with
      | none =>
       have hc0 : 0 = C := hfx _ hx
       subst hc0
       rw [hx,zkz] at hpp
       have e3 : ((0 : Int) + 1 + 9223372036854775808) % 18446744073709551616 - 9223372036854775808 = 0 + 1 := by omega
       simp only [go_sem,zaa,↓reduceIte,ty,noS,hlp,d3,hs2,e1,e3,hof,zfy,zlk,hx,zkz,hpp,hcc,Int.toNat_natCast,Bool.not_true,Bool.not_false]
       repeat (refine And.intro (by omega) ?_)
       refine ⟨rs.length - (i + 1),_,by omega,zaf [0,1,2,3,4,5,6] rfl rfl rfl ?_ ?_,i + 1,rfl,by omega,rfl⟩
       ·simp only [ssT,zah,zai,setSlot,gOf,AV.ren,renL,Blk.ren,Ax.look,Ax.put,reduceCtorEq,↓reduceIte,Nat.reduceEqDiff,Nat.reduceLT,Nat.reduceAdd,List.length_append,List.length_cons,List.length_nil,Option.some.injEq]
       ·simp only [ssT,zah,zai,setSlot,gOf,AV.ren,renL,Blk.ren,Ax.look,Ax.put,reduceCtorEq,↓reduceIte,Nat.reduceEqDiff,Nat.reduceLT,Nat.reduceAdd,List.length_append,List.length_cons,List.length_nil,Option.some.injEq,hm1,hm2]
        exact ⟨congrArg (fun z => Blk.o (.mp z)) hcc,congrArg (fun z => Blk.o (.mp z)) (hpp.trans (by first | rfl | (rw [← hC]; rfl)))⟩
      | some q =>
       have hc0 : q.2 = C := hfx _ hx
       rw [hx,zix] at hpp
       simp only [go_sem,zaa,↓reduceIte,ty,noS,hlp,d3,hs2,e1,e3,hof,zfy,zlk,hx,zix,hc0,hpp,hcc,Int.toNat_natCast,Bool.not_true,Bool.not_false]
       repeat (refine And.intro (by omega) ?_)
       refine ⟨rs.length - (i + 1),_,by omega,zaf [0,1,2,3,4,5,6] rfl rfl rfl ?_ ?_,i + 1,rfl,by omega,rfl⟩
       ·simp only [ssT,zah,zai,setSlot,gOf,AV.ren,renL,Blk.ren,Ax.look,Ax.put,reduceCtorEq,↓reduceIte,Nat.reduceEqDiff,Nat.reduceLT,Nat.reduceAdd,List.length_append,List.length_cons,List.length_nil,Option.some.injEq]
       ·simp only [ssT,zah,zai,setSlot,gOf,AV.ren,renL,Blk.ren,Ax.look,Ax.put,reduceCtorEq,↓reduceIte,Nat.reduceEqDiff,Nat.reduceLT,Nat.reduceAdd,List.length_append,List.length_cons,List.length_nil,Option.some.injEq,hm1,hm2]
        exact ⟨congrArg (fun z => Blk.o (.mp z)) hcc,congrArg (fun z => Blk.o (.mp z)) (hpp.trans (by first | rfl | (rw [← hC]; rfl)))⟩
     | false =>
      have hm1 : (rs.take (i + 1)).foldl (mdK b) [] = ptR M1 ⟨key,val,O,t⟩ := by rw [hm1]; unfold mdK rowR; rw [if_pos rfl,if_neg (by simp),hO]
      cases hx : ixK key M2 0 with
      | none =>
       have hc0 : 0 = C := hfx _ hx
       subst hc0
       rw [hx,zkz] at hpp
       have e3 : ((0 : Int) + 1 + 9223372036854775808) % 18446744073709551616 - 9223372036854775808 = 0 + 1 := by omega
       simp only [go_sem,zaa,↓reduceIte,ty,noS,hlp,d3,hs2,e1,e3,hof,zfy,zlk,hx,zkz,hpp,hpr,Int.toNat_natCast,Bool.not_true,Bool.not_false]
       repeat (refine And.intro (by omega) ?_)
       refine ⟨rs.length - (i + 1),_,by omega,zaf [0,1,2,3,4,5,6] rfl rfl rfl ?_ ?_,i + 1,rfl,by omega,rfl⟩
       ·simp only [ssT,zah,zai,setSlot,gOf,AV.ren,renL,Blk.ren,Ax.look,Ax.put,reduceCtorEq,↓reduceIte,Nat.reduceEqDiff,Nat.reduceLT,Nat.reduceAdd,List.length_append,List.length_cons,List.length_nil,Option.some.injEq]
       ·simp only [ssT,zah,zai,setSlot,gOf,AV.ren,renL,Blk.ren,Ax.look,Ax.put,reduceCtorEq,↓reduceIte,Nat.reduceEqDiff,Nat.reduceLT,Nat.reduceAdd,List.length_append,List.length_cons,List.length_nil,Option.some.injEq,hm1,hm2]
        exact ⟨congrArg (fun z => Blk.o (.mp z)) hpr,congrArg (fun z => Blk.o (.mp z)) (hpp.trans (by first | rfl | (rw [← hC]; rfl)))⟩
      | some q =>
       have hc0 : q.2 = C := hfx _ hx
       rw [hx,zix] at hpp
       simp only [go_sem,zaa,↓reduceIte,ty,noS,hlp,d3,hs2,e1,e3,hof,zfy,zlk,hx,zix,hc0,hpp,hpr,Int.toNat_natCast,Bool.not_true,Bool.not_false]
       repeat (refine And.intro (by omega) ?_)
       refine ⟨rs.length - (i + 1),_,by omega,zaf [0,1,2,3,4,5,6] rfl rfl rfl ?_ ?_,i + 1,rfl,by omega,rfl⟩
       ·simp only [ssT,zah,zai,setSlot,gOf,AV.ren,renL,Blk.ren,Ax.look,Ax.put,reduceCtorEq,↓reduceIte,Nat.reduceEqDiff,Nat.reduceLT,Nat.reduceAdd,List.length_append,List.length_cons,List.length_nil,Option.some.injEq]
       ·simp only [ssT,zah,zai,setSlot,gOf,AV.ren,renL,Blk.ren,Ax.look,Ax.put,reduceCtorEq,↓reduceIte,Nat.reduceEqDiff,Nat.reduceLT,Nat.reduceAdd,List.length_append,List.length_cons,List.length_nil,Option.some.injEq,hm1,hm2]
        exact ⟨congrArg (fun z => Blk.o (.mp z)) hpr,congrArg (fun z => Blk.o (.mp z)) (hpp.trans (by first | rfl | (rw [← hC]; rfl)))⟩
   ·have d3 : decide ((i : Int) < rs.length) = false := decide_eq_false (by omega)
    have htk : rs.take i = rs := List.take_of_length_le (by omega)
    rw [htk,hA,hB]
    simp only [go_sem,zaa,↓reduceIte,ty,noS,hlp,d3]
 ·exact hp.elim
end
end Go.Proofs.Ytebacgkeoefnkaa
namespace Go.Proofs.Ytebacgkeoefnkaa
open Ax
def rE (n : Int) (r : VR) : Int := if 64 < r.k.length ∨ 512 < r.v.length then 5 else if r.o < 0 ∨ n ≤ r.o ∨ r.t < 0 ∨ 1099511627776 < r.t then 11 else 0
def badV (n : Int) : List VR → Int
 | [] => 0
 | r :: rs => if rE n r = 0 then badV n rs else rE n r
def risV : List VR → Bool
 | [] => true
 | [_] => true
 | a :: b :: rs => Op.bytesLess a.k b.k && risV (b :: rs)
def chV (n : Int) (l : List VR) : Int := if n < 0 ∨ 4611686018427387903 < n ∨ 4096 < l.length then 11 else if badV n l = 0 then (if risV l = true then 0 else 16) else badV n l
theorem znr (n : Int) (k v : List UInt8) (o t : Int) :
  (decide ((64 : Int) < k.length) = true ∧ rE n ⟨k,v,o,t⟩ = 5) ∨
  (decide ((64 : Int) < k.length) = false ∧ decide ((512 : Int) < v.length) = true ∧ rE n ⟨k,v,o,t⟩ = 5) ∨
  (decide ((64 : Int) < k.length) = false ∧ decide ((512 : Int) < v.length) = false ∧ decide (o < 0) = true ∧ rE n ⟨k,v,o,t⟩ = 11) ∨
  (decide ((64 : Int) < k.length) = false ∧ decide ((512 : Int) < v.length) = false ∧ decide (o < 0) = false ∧ decide (n ≤ o) = true ∧ rE n ⟨k,v,o,t⟩ = 11) ∨
  (decide ((64 : Int) < k.length) = false ∧ decide ((512 : Int) < v.length) = false ∧ decide (o < 0) = false ∧ decide (n ≤ o) = false ∧ decide (t < 0) = true ∧ rE n ⟨k,v,o,t⟩ = 11) ∨
  (decide ((64 : Int) < k.length) = false ∧ decide ((512 : Int) < v.length) = false ∧ decide (o < 0) = false ∧ decide (n ≤ o) = false ∧ decide (t < 0) = false ∧ decide (1099511627776 < t) = true ∧ rE n ⟨k,v,o,t⟩ = 11) ∨
  (decide ((64 : Int) < k.length) = false ∧ decide ((512 : Int) < v.length) = false ∧ decide (o < 0) = false ∧ decide (n ≤ o) = false ∧ decide (t < 0) = false ∧ decide (1099511627776 < t) = false ∧ rE n ⟨k,v,o,t⟩ = 0) := by
 unfold rE
 simp only [decide_eq_true_eq,decide_eq_false_iff_not]
 by_cases h1 : 64 < k.length
 ·exact .inl ⟨by omega,if_pos (.inl h1)⟩
 by_cases h2 : 512 < v.length
 ·exact .inr (.inl ⟨by omega,by omega,if_pos (.inr h2)⟩)
 rw [if_neg (by omega)]
 by_cases h3 : o < 0
 ·exact .inr (.inr (.inl ⟨by omega,by omega,by omega,if_pos (by omega)⟩))
 by_cases h4 : n ≤ o
 ·exact .inr (.inr (.inr (.inl ⟨by omega,by omega,by omega,by omega,if_pos (by omega)⟩)))
 by_cases h5 : t < 0
 ·exact .inr (.inr (.inr (.inr (.inl ⟨by omega,by omega,by omega,by omega,by omega,if_pos (by omega)⟩))))
 by_cases h6 : 1099511627776 < t
 ·exact .inr (.inr (.inr (.inr (.inr (.inl ⟨by omega,by omega,by omega,by omega,by omega,by omega,if_pos (by omega)⟩)))))
 ·exact .inr (.inr (.inr (.inr (.inr (.inr ⟨by omega,by omega,by omega,by omega,by omega,by omega,if_neg (by omega)⟩)))))
theorem yii (n : Int) (L : Nat) :
  (decide (n < 0) = true ∧ (n < 0 ∨ 4611686018427387903 < n ∨ 4096 < L)) ∨
  (decide (n < 0) = false ∧ decide (4611686018427387903 < n) = true ∧ (n < 0 ∨ 4611686018427387903 < n ∨ 4096 < L)) ∨
  (decide (n < 0) = false ∧ decide (4611686018427387903 < n) = false ∧ decide ((4096 : Int) < L) = true ∧ (n < 0 ∨ 4611686018427387903 < n ∨ 4096 < L)) ∨
  (decide (n < 0) = false ∧ decide (4611686018427387903 < n) = false ∧ decide ((4096 : Int) < L) = false ∧ ¬ (n < 0 ∨ 4611686018427387903 < n ∨ 4096 < L)) := by
 simp only [decide_eq_true_eq,decide_eq_false_iff_not]
 omega
theorem zyi (n : Int) (l : List VR) (i : Nat) (h : i < l.length) : badV n (l.drop i) = if rE n l[i] = 0 then badV n (l.drop (i + 1)) else rE n l[i] := by
 rw [List.drop_eq_getElem_cons h]; rfl
theorem zvm (l : List VR) (i : Nat) (h : i + 1 < l.length) : risV (l.drop i) = (Op.bytesLess l[i].k l[i + 1].k && risV (l.drop (i + 1))) := by
 rw [List.drop_eq_getElem_cons (show i < l.length by omega),List.drop_eq_getElem_cons h]; rfl
theorem zvl (l : List VR) (i : Nat) (h : l.length ≤ i + 1) : risV (l.drop i) = true := by
 have hl : (l.drop i).length ≤ 1 := by rw [List.length_drop]; omega
 match h2 : l.drop i,hl with
 | [],_ => rfl
 | [_],_ => rfl
def zhs : zaw
 | [.agg [.w (.int .i64 n),.sg 4 xs f]],[] => ⟨xs.length ≤ 9223372036854775807 ∧ ∃ l : List VR,xs = l.map vrA,.w (.int .i64 (chV n (xs.map uvr))),[]⟩
 | _,_ => zcm
def zbk : Plan := fun id => match id with
 | 14 => some []
 | _ => none
section
set_option maxRecDepth 100000
set_option maxHeartbeats 16000000 in
theorem zsi : zbb Try.prog 16 zhs := by
 refine zcp (S := noS) (T := ty) (pl := zbk) mixed ty_ok zdk Try.func16 (c := Try.f16.body.getD .skip) (by kernel_rfl) (by kernel_rfl) (fun xs pins hp _ => ?_)
 unfold zhs at hp ⊢
 split at hp
 · rename_i n xs f _
   obtain ⟨hL,l,rfl⟩ := hp
   rw [List.length_map] at hL
   have hle : (l.map vrA).length = l.length := by simp
   rw [zau]
   refine ⟨by simp,?_⟩
   unfold Try.f16
   rcases yii n l.length with D | D | D | D
   · have hch : chV n l = 11 := if_pos D.2
     rw [hch]
     simp only [go_sem,zab,↓reduceIte,lcT,ty,noS,zbk,hle,D.1]
     exact zbe 2 rfl
   · have hch : chV n l = 11 := if_pos D.2.2
     rw [hch]
     simp only [go_sem,zab,↓reduceIte,lcT,ty,noS,zbk,hle,D.1,D.2.1]
     exact zbe 2 rfl
   · have hch : chV n l = 11 := if_pos D.2.2.2
     rw [hch]
     simp only [go_sem,zab,↓reduceIte,lcT,ty,noS,zbk,hle,D.1,D.2.1,D.2.2.1]
     exact zbe 2 rfl
   obtain ⟨D1,D2,D3,D4⟩ := D
   have hch : chV n l = if badV n l = 0 then (if risV l = true then 0 else 16) else badV n l := if_neg D4
   simp only [go_sem,zab,↓reduceIte,lcT,ty,noS,zbk,hle,D1,D2,D3]
   refine zcg ⟨fun m σ => ∃ i : Nat,m = l.length - i ∧ i ≤ l.length ∧ badV n (l.drop i) = badV n l ∧
     σ = ⟨[.agg [.w (.int .i64 n),.sg 4 (l.map vrA) f],.rf 4 2 0 0,.w (.int .i64 0),.junk,.junk,.junk,.junk,.junk,.junk,.junk,.junk,.junk,.junk,.junk,.junk,.junk,.junk,.junk,.junk,.junk,.junk,.sg 4 (l.map vrA) f,.w (.int .i64 l.length),.w (.int .i64 i),.junk,.junk,.junk,.junk,.junk,.junk,.junk,.junk,.junk,.junk,.junk,.junk,.junk,.junk,.junk,.junk,.junk,.junk,.junk,.junk,.junk,.junk,.junk,.junk,.junk,.junk,.junk,.junk,.junk,.junk,.junk,.junk,.junk,.junk,.junk,.junk,.junk,.junk,.junk,.junk,.junk,.junk,.junk,.junk,.junk,.junk,.junk,.junk,.junk,.junk,.junk,.junk,.junk,.junk,.junk],[(4,.g 2 [.agg [.w (.int .i64 n),.sg 4 (l.map vrA) f]])],5⟩,?_,?_⟩
   · refine ⟨_,_,zaf [0,1,2,3,4] rfl rfl rfl ?_ ?_,0,rfl,by omega,rfl,rfl⟩
     · simp only [ssT,zah,zai,setSlot,gOf,AV.ren,renL,Blk.ren,Ax.look,Ax.put,reduceCtorEq,↓reduceIte,Nat.reduceEqDiff,Nat.reduceLT,Nat.reduceAdd,List.length_append,List.length_cons,List.length_nil,Option.some.injEq]; try simp
     · simp only [ssT,zah,zai,setSlot,gOf,AV.ren,renL,Blk.ren,Ax.look,Ax.put,reduceCtorEq,↓reduceIte,Nat.reduceEqDiff,Nat.reduceLT,Nat.reduceAdd,List.length_append,List.length_cons,List.length_nil,Option.some.injEq]; try simp
   · rintro m σ ⟨i,rfl,hi,hb,rfl⟩
     by_cases hil : i < l.length
     · have d2 : decide ((i : Int) < l.length) = true := decide_eq_true (by omega)
       have e1 : ((i : Int) + 1 + 9223372036854775808) % 18446744073709551616 - 9223372036854775808 = ((i + 1 : Nat) : Int) := by omega
       have hs1 := zdb l i hil
       have hd := zyi n l i hil
       rw [hb] at hd
       obtain ⟨r,hr⟩ : ∃ r,l[i] = r := ⟨_,rfl⟩
       rw [hr] at hs1 hd
       obtain ⟨k,v,o,t⟩ := r
       have hs1 : slot (l.map vrA) i = .agg [.str k,.str v,.w (.int .i64 o),.w (.int .i64 t)] := hs1
       by_cases hz : rE n ⟨k,v,o,t⟩ = 0
       · rw [if_pos hz] at hd
         rcases znr n k v o t with D | D | D | D | D | D | D
         · exact absurd (D.2 ▸ hz) (by decide)
         · exact absurd (D.2.2 ▸ hz) (by decide)
         · exact absurd (D.2.2.2 ▸ hz) (by decide)
         · exact absurd (D.2.2.2.2 ▸ hz) (by decide)
         · exact absurd (D.2.2.2.2.2 ▸ hz) (by decide)
         · exact absurd (D.2.2.2.2.2.2 ▸ hz) (by decide)
         obtain ⟨f1,f2,f3,f4,f5,f6,_⟩ := D
         simp only [go_sem,zab,↓reduceIte,lcT,ty,noS,zbk,hle,d2,hs1,e1,f1,f2,f3,f4,f5,f6,Int.toNat_natCast]
         repeat (refine And.intro (by omega) ?_)
         refine ⟨l.length - (i + 1),_,by omega,zaf [0,1,2,3,4] rfl rfl rfl ?_ ?_,i + 1,rfl,by omega,hd.symm,rfl⟩
         · simp only [ssT,zah,zai,setSlot,gOf,AV.ren,renL,Blk.ren,Ax.look,Ax.put,reduceCtorEq,↓reduceIte,Nat.reduceEqDiff,Nat.reduceLT,Nat.reduceAdd,List.length_append,List.length_cons,List.length_nil,Option.some.injEq]; try simp
         · simp only [ssT,zah,zai,setSlot,gOf,AV.ren,renL,Blk.ren,Ax.look,Ax.put,reduceCtorEq,↓reduceIte,Nat.reduceEqDiff,Nat.reduceLT,Nat.reduceAdd,List.length_append,List.length_cons,List.length_nil,Option.some.injEq]; try simp
       · rw [if_neg hz] at hd
         have hb0 : ¬ badV n l = 0 := by rw [hd]; exact hz
         rw [hch,if_neg hb0,hd]
         rcases znr n k v o t with D | D | D | D | D | D | D
         all_goals first
           | exact absurd D.2.2.2.2.2.2 hz
           | (simp only [go_sem,zab,↓reduceIte,lcT,ty,noS,zbk,hle,d2,hs1,D,Int.toNat_natCast]
              repeat (refine And.intro (by omega) ?_)
              refine ⟨_,Weak.refl _,?_⟩
              simp only [go_sem,zab,↓reduceIte,lcT,ty,noS,zbk]
              exact zbe 2 rfl)
     · have d2 : decide ((i : Int) < l.length) = false := decide_eq_false (by omega)
       have hb0 : badV n l = 0 := by rw [← hb,List.drop_of_length_le (by omega)]; rfl
       rw [hch,if_pos hb0]
       simp only [go_sem,zab,↓reduceIte,lcT,ty,noS,zbk,hle,d2]
       refine ⟨_,Weak.refl _,?_⟩
       simp only [go_sem,zab,↓reduceIte,lcT,ty,noS,zbk,hle]
       refine zcg ⟨fun m σ => ∃ i : Nat,m = l.length - i ∧ 1 ≤ i ∧ (i ≤ l.length ∨ i = 1) ∧ risV (l.drop (i - 1)) = risV l ∧
         σ = ⟨[.agg [.w (.int .i64 n),.sg 4 (l.map vrA) f],.rf 4 2 0 0,.w (.int .i64 0),.junk,.junk,.w (.int .i64 i),.junk,.junk,.junk,.junk,.junk,.junk,.junk,.junk,.junk,.junk,.junk,.junk,.junk,.junk,.junk,.junk,.junk,.junk,.junk,.junk,.junk,.junk,.junk,.junk,.junk,.junk,.junk,.junk,.junk,.junk,.junk,.junk,.junk,.junk,.junk,.junk,.junk,.junk,.junk,.junk,.junk,.junk,.junk,.junk,.junk,.junk,.junk,.junk,.junk,.junk,.junk,.junk,.junk,.junk,.junk,.junk,.junk,.junk,.junk,.junk,.junk,.junk,.junk,.junk,.junk,.junk,.junk,.junk,.junk,.junk,.junk,.junk,.junk],[(4,.g 2 [.agg [.w (.int .i64 n),.sg 4 (l.map vrA) f]])],5⟩,?_,?_⟩
       · refine ⟨_,_,zaf [0,1,2,3,4] rfl rfl rfl ?_ ?_,1,rfl,by omega,by omega,rfl,rfl⟩
         · simp only [ssT,zah,zai,setSlot,gOf,AV.ren,renL,Blk.ren,Ax.look,Ax.put,reduceCtorEq,↓reduceIte,Nat.reduceEqDiff,Nat.reduceLT,Nat.reduceAdd,List.length_append,List.length_cons,List.length_nil,Option.some.injEq]; try simp
         · simp only [ssT,zah,zai,setSlot,gOf,AV.ren,renL,Blk.ren,Ax.look,Ax.put,reduceCtorEq,↓reduceIte,Nat.reduceEqDiff,Nat.reduceLT,Nat.reduceAdd,List.length_append,List.length_cons,List.length_nil,Option.some.injEq]; try simp
       · rintro m σ ⟨i,rfl,hi1,hi,hb,rfl⟩
         by_cases hil : i < l.length
         · have d2 : decide ((i : Int) < l.length) = true := decide_eq_true (by omega)
           have e1 : ((i : Int) + 1 + 9223372036854775808) % 18446744073709551616 - 9223372036854775808 = ((i + 1 : Nat) : Int) := by omega
           have e2 : ((i : Int) - 1 + 9223372036854775808) % 18446744073709551616 - 9223372036854775808 = ((i - 1 : Nat) : Int) := by omega
           have hs1 := zdb l i hil
           have hs2 := zdb l (i - 1) (by omega)
           have hd := zvm l (i - 1) (by omega)
           rw [hb] at hd
           have hi11 : i - 1 + 1 = i := by omega
           simp only [hi11] at hd
           obtain ⟨a,ha⟩ : ∃ x,l[i] = x := ⟨_,rfl⟩
           obtain ⟨b,hb2⟩ : ∃ x,l[i - 1]'(by omega) = x := ⟨_,rfl⟩
           rw [ha] at hs1
           rw [hb2] at hs2
           rw [ha,hb2] at hd
           obtain ⟨k1,v1,o1,t1⟩ := a
           obtain ⟨k2,v2,o2,t2⟩ := b
           have hs1 : slot (l.map vrA) i = .agg [.str k1,.str v1,.w (.int .i64 o1),.w (.int .i64 t1)] := hs1
           have hs2 : slot (l.map vrA) (i - 1) = .agg [.str k2,.str v2,.w (.int .i64 o2),.w (.int .i64 t2)] := hs2
           cases hB : Op.bytesLess k2 k1 with
           | true =>
             rw [show (⟨k2,v2,o2,t2⟩ : VR).k = k2 from rfl,show (⟨k1,v1,o1,t1⟩ : VR).k = k1 from rfl,hB,Bool.true_and] at hd
             simp only [go_sem,zab,↓reduceIte,lcT,ty,noS,zbk,hle,d2,hs1,hs2,e1,e2,hB,Bool.not_true,Bool.not_false,Int.toNat_natCast]
             repeat (refine And.intro (by omega) ?_)
             refine ⟨l.length - (i + 1),_,by omega,zaf [0,1,2,3,4] rfl rfl rfl ?_ ?_,i + 1,rfl,by omega,by omega,?_,rfl⟩
             · simp only [ssT,zah,zai,setSlot,gOf,AV.ren,renL,Blk.ren,Ax.look,Ax.put,reduceCtorEq,↓reduceIte,Nat.reduceEqDiff,Nat.reduceLT,Nat.reduceAdd,List.length_append,List.length_cons,List.length_nil,Option.some.injEq]; try simp
             · simp only [ssT,zah,zai,setSlot,gOf,AV.ren,renL,Blk.ren,Ax.look,Ax.put,reduceCtorEq,↓reduceIte,Nat.reduceEqDiff,Nat.reduceLT,Nat.reduceAdd,List.length_append,List.length_cons,List.length_nil,Option.some.injEq]; try simp
             · show risV (l.drop i) = _
               exact hd.symm
           | false =>
             rw [show (⟨k2,v2,o2,t2⟩ : VR).k = k2 from rfl,show (⟨k1,v1,o1,t1⟩ : VR).k = k1 from rfl,hB,Bool.false_and] at hd
             rw [if_neg (by rw [hd]; simp)]
             simp only [go_sem,zab,↓reduceIte,lcT,ty,noS,zbk,hle,d2,hs1,hs2,e1,e2,hB,Bool.not_true,Bool.not_false,Int.toNat_natCast]
             repeat (refine And.intro (by omega) ?_)
             refine ⟨_,Weak.refl _,?_⟩
             simp only [go_sem,zab,↓reduceIte,lcT,ty,noS,zbk]
             exact zbe 2 rfl
         · have d2 : decide ((i : Int) < l.length) = false := decide_eq_false (by omega)
           have hr : risV l = true := by rw [← hb]; exact zvl l _ (by omega)
           rw [if_pos hr]
           simp only [go_sem,zab,↓reduceIte,lcT,ty,noS,zbk,hle,d2]
           refine ⟨_,Weak.refl _,?_⟩
           simp only [go_sem,zab,↓reduceIte,lcT,ty,noS,zbk]
           exact zbe 2 rfl
 · exact hp.elim
set_option maxHeartbeats 16000000 in
theorem zoo : zbb Try.prog 17 zhs := by
 refine zcp (S := noS) (T := ty) (pl := zbk) mixed ty_ok zdk Try.func17 (c := Try.f17.body.getD .skip) (by kernel_rfl) (by kernel_rfl) (fun xs pins hp _ => ?_)
 unfold zhs at hp ⊢
 split at hp
 · rename_i n xs f _
   obtain ⟨hL,l,rfl⟩ := hp
   rw [List.length_map] at hL
   have hle : (l.map vrA).length = l.length := by simp
   rw [zau]
   refine ⟨by simp,?_⟩
   unfold Try.f17
   rcases yii n l.length with D | D | D | D
   · have hch : chV n l = 11 := if_pos D.2
     rw [hch]
     simp only [go_sem,zab,↓reduceIte,lcT,ty,noS,zbk,hle,D.1]
     exact zbe 2 rfl
   · have hch : chV n l = 11 := if_pos D.2.2
     rw [hch]
     simp only [go_sem,zab,↓reduceIte,lcT,ty,noS,zbk,hle,D.1,D.2.1]
     exact zbe 2 rfl
   · have hch : chV n l = 11 := if_pos D.2.2.2
     rw [hch]
     simp only [go_sem,zab,↓reduceIte,lcT,ty,noS,zbk,hle,D.1,D.2.1,D.2.2.1]
     exact zbe 2 rfl
   obtain ⟨D1,D2,D3,D4⟩ := D
   have hch : chV n l = if badV n l = 0 then (if risV l = true then 0 else 16) else badV n l := if_neg D4
   simp only [go_sem,zab,↓reduceIte,lcT,ty,noS,zbk,hle,D1,D2,D3]
   refine zcg ⟨fun m σ => ∃ i : Nat,m = l.length - i ∧ i ≤ l.length ∧ badV n (l.drop i) = badV n l ∧
     σ = ⟨[.agg [.w (.int .i64 n),.sg 4 (l.map vrA) f],.rf 4 2 0 0,.w (.int .i64 0),.w (.int .i64 i),.junk,.junk,.junk,.junk,.junk,.junk,.junk,.junk,.junk,.junk,.junk,.junk,.junk,.junk,.junk,.junk,.junk,.junk,.junk,.junk,.junk,.junk,.junk,.junk,.junk,.junk,.junk,.junk,.junk,.junk,.junk,.junk,.junk,.junk,.junk,.junk,.junk,.junk,.junk,.junk,.junk,.junk,.junk,.junk,.junk,.junk,.junk,.junk,.junk,.junk,.junk,.junk,.junk,.junk,.junk,.junk,.junk,.junk,.junk,.junk,.junk,.junk,.junk,.junk,.junk,.junk,.junk,.junk,.junk,.junk,.junk,.junk,.junk,.junk,.junk,.junk,.junk,.junk,.junk,.junk,.junk],[(4,.g 2 [.agg [.w (.int .i64 n),.sg 4 (l.map vrA) f]])],5⟩,?_,?_⟩
   · refine ⟨_,_,zaf [0,1,2,3,4] rfl rfl rfl ?_ ?_,0,rfl,by omega,rfl,rfl⟩
     · simp only [ssT,zah,zai,setSlot,gOf,AV.ren,renL,Blk.ren,Ax.look,Ax.put,reduceCtorEq,↓reduceIte,Nat.reduceEqDiff,Nat.reduceLT,Nat.reduceAdd,List.length_append,List.length_cons,List.length_nil,Option.some.injEq]; try simp
     · simp only [ssT,zah,zai,setSlot,gOf,AV.ren,renL,Blk.ren,Ax.look,Ax.put,reduceCtorEq,↓reduceIte,Nat.reduceEqDiff,Nat.reduceLT,Nat.reduceAdd,List.length_append,List.length_cons,List.length_nil,Option.some.injEq]; try simp
   · rintro m σ ⟨i,rfl,hi,hb,rfl⟩
     by_cases hil : i < l.length
     · have d2 : decide ((i : Int) < l.length) = true := decide_eq_true (by omega)
       have e1 : ((i : Int) + 1 + 9223372036854775808) % 18446744073709551616 - 9223372036854775808 = ((i + 1 : Nat) : Int) := by omega
       have hs1 := zdb l i hil
       have hd := zyi n l i hil
       rw [hb] at hd
       obtain ⟨r,hr⟩ : ∃ r,l[i] = r := ⟨_,rfl⟩
       rw [hr] at hs1 hd
       obtain ⟨k,v,o,t⟩ := r
       have hs1 : slot (l.map vrA) i = .agg [.str k,.str v,.w (.int .i64 o),.w (.int .i64 t)] := hs1
       by_cases hz : rE n ⟨k,v,o,t⟩ = 0
       · rw [if_pos hz] at hd
         rcases znr n k v o t with D | D | D | D | D | D | D
         · exact absurd (D.2 ▸ hz) (by decide)
         · exact absurd (D.2.2 ▸ hz) (by decide)
         · exact absurd (D.2.2.2 ▸ hz) (by decide)
         · exact absurd (D.2.2.2.2 ▸ hz) (by decide)
         · exact absurd (D.2.2.2.2.2 ▸ hz) (by decide)
         · exact absurd (D.2.2.2.2.2.2 ▸ hz) (by decide)
         obtain ⟨f1,f2,f3,f4,f5,f6,_⟩ := D
         simp only [go_sem,zab,↓reduceIte,lcT,ty,noS,zbk,hle,d2,hs1,e1,f1,f2,f3,f4,f5,f6,Int.toNat_natCast]
         repeat (refine And.intro (by omega) ?_)
         refine ⟨l.length - (i + 1),_,by omega,zaf [0,1,2,3,4] rfl rfl rfl ?_ ?_,i + 1,rfl,by omega,hd.symm,rfl⟩
         · simp only [ssT,zah,zai,setSlot,gOf,AV.ren,renL,Blk.ren,Ax.look,Ax.put,reduceCtorEq,↓reduceIte,Nat.reduceEqDiff,Nat.reduceLT,Nat.reduceAdd,List.length_append,List.length_cons,List.length_nil,Option.some.injEq]; try simp
         · simp only [ssT,zah,zai,setSlot,gOf,AV.ren,renL,Blk.ren,Ax.look,Ax.put,reduceCtorEq,↓reduceIte,Nat.reduceEqDiff,Nat.reduceLT,Nat.reduceAdd,List.length_append,List.length_cons,List.length_nil,Option.some.injEq]; try simp
       · rw [if_neg hz] at hd
         have hb0 : ¬ badV n l = 0 := by rw [hd]; exact hz
         rw [hch,if_neg hb0,hd]
         rcases znr n k v o t with D | D | D | D | D | D | D
         all_goals first
           | exact absurd D.2.2.2.2.2.2 hz
           | (simp only [go_sem,zab,↓reduceIte,lcT,ty,noS,zbk,hle,d2,hs1,D,Int.toNat_natCast]
              repeat (refine And.intro (by omega) ?_)
              refine ⟨_,Weak.refl _,?_⟩
              simp only [go_sem,zab,↓reduceIte,lcT,ty,noS,zbk]
              exact zbe 2 rfl)
     · have d2 : decide ((i : Int) < l.length) = false := decide_eq_false (by omega)
       have hb0 : badV n l = 0 := by rw [← hb,List.drop_of_length_le (by omega)]; rfl
       rw [hch,if_pos hb0]
       simp only [go_sem,zab,↓reduceIte,lcT,ty,noS,zbk,hle,d2]
       refine ⟨_,Weak.refl _,?_⟩
       simp only [go_sem,zab,↓reduceIte,lcT,ty,noS,zbk,hle]
       refine zcg ⟨fun m σ => ∃ i : Nat,m = l.length - i ∧ 1 ≤ i ∧ (i ≤ l.length ∨ i = 1) ∧ risV (l.drop (i - 1)) = risV l ∧
         σ = ⟨[.agg [.w (.int .i64 n),.sg 4 (l.map vrA) f],.rf 4 2 0 0,.w (.int .i64 0),.junk,.junk,.w (.int .i64 i),.junk,.junk,.junk,.junk,.junk,.junk,.junk,.junk,.junk,.junk,.junk,.junk,.junk,.junk,.junk,.junk,.junk,.junk,.junk,.junk,.junk,.junk,.junk,.junk,.junk,.junk,.junk,.junk,.junk,.junk,.junk,.junk,.junk,.junk,.junk,.junk,.junk,.junk,.junk,.junk,.junk,.junk,.junk,.junk,.junk,.junk,.junk,.junk,.junk,.junk,.junk,.junk,.junk,.junk,.junk,.junk,.junk,.junk,.junk,.junk,.junk,.junk,.junk,.junk,.junk,.junk,.junk,.junk,.junk,.junk,.junk,.junk,.junk,.junk,.junk,.junk,.junk,.junk,.junk],[(4,.g 2 [.agg [.w (.int .i64 n),.sg 4 (l.map vrA) f]])],5⟩,?_,?_⟩
       · refine ⟨_,_,zaf [0,1,2,3,4] rfl rfl rfl ?_ ?_,1,rfl,by omega,by omega,rfl,rfl⟩
         · simp only [ssT,zah,zai,setSlot,gOf,AV.ren,renL,Blk.ren,Ax.look,Ax.put,reduceCtorEq,↓reduceIte,Nat.reduceEqDiff,Nat.reduceLT,Nat.reduceAdd,List.length_append,List.length_cons,List.length_nil,Option.some.injEq]; try simp
         · simp only [ssT,zah,zai,setSlot,gOf,AV.ren,renL,Blk.ren,Ax.look,Ax.put,reduceCtorEq,↓reduceIte,Nat.reduceEqDiff,Nat.reduceLT,Nat.reduceAdd,List.length_append,List.length_cons,List.length_nil,Option.some.injEq]; try simp
       · rintro m σ ⟨i,rfl,hi1,hi,hb,rfl⟩
         by_cases hil : i < l.length
         · have d2 : decide ((i : Int) < l.length) = true := decide_eq_true (by omega)
           have e1 : ((i : Int) + 1 + 9223372036854775808) % 18446744073709551616 - 9223372036854775808 = ((i + 1 : Nat) : Int) := by omega
           have e2 : ((i : Int) - 1 + 9223372036854775808) % 18446744073709551616 - 9223372036854775808 = ((i - 1 : Nat) : Int) := by omega
           have hs1 := zdb l i hil
           have hs2 := zdb l (i - 1) (by omega)
           have hd := zvm l (i - 1) (by omega)
           rw [hb] at hd
           have hi11 : i - 1 + 1 = i := by omega
           simp only [hi11] at hd
           obtain ⟨a,ha⟩ : ∃ x,l[i] = x := ⟨_,rfl⟩
           obtain ⟨b,hb2⟩ : ∃ x,l[i - 1]'(by omega) = x := ⟨_,rfl⟩
           rw [ha] at hs1
           rw [hb2] at hs2
           rw [ha,hb2] at hd
           obtain ⟨k1,v1,o1,t1⟩ := a
           obtain ⟨k2,v2,o2,t2⟩ := b
           have hs1 : slot (l.map vrA) i = .agg [.str k1,.str v1,.w (.int .i64 o1),.w (.int .i64 t1)] := hs1
           have hs2 : slot (l.map vrA) (i - 1) = .agg [.str k2,.str v2,.w (.int .i64 o2),.w (.int .i64 t2)] := hs2
           cases hB : Op.bytesLess k2 k1 with
           | true =>
             rw [show (⟨k2,v2,o2,t2⟩ : VR).k = k2 from rfl,show (⟨k1,v1,o1,t1⟩ : VR).k = k1 from rfl,hB,Bool.true_and] at hd
             simp only [go_sem,zab,↓reduceIte,lcT,ty,noS,zbk,hle,d2,hs1,hs2,e1,e2,hB,Bool.not_true,Bool.not_false,Int.toNat_natCast]
             repeat (refine And.intro (by omega) ?_)
             refine ⟨l.length - (i + 1),_,by omega,zaf [0,1,2,3,4] rfl rfl rfl ?_ ?_,i + 1,rfl,by omega,by omega,?_,rfl⟩
             · simp only [ssT,zah,zai,setSlot,gOf,AV.ren,renL,Blk.ren,Ax.look,Ax.put,reduceCtorEq,↓reduceIte,Nat.reduceEqDiff,Nat.reduceLT,Nat.reduceAdd,List.length_append,List.length_cons,List.length_nil,Option.some.injEq]; try simp
             · simp only [ssT,zah,zai,setSlot,gOf,AV.ren,renL,Blk.ren,Ax.look,Ax.put,reduceCtorEq,↓reduceIte,Nat.reduceEqDiff,Nat.reduceLT,Nat.reduceAdd,List.length_append,List.length_cons,List.length_nil,Option.some.injEq]; try simp
             · show risV (l.drop i) = _
               exact hd.symm
           | false =>
             rw [show (⟨k2,v2,o2,t2⟩ : VR).k = k2 from rfl,show (⟨k1,v1,o1,t1⟩ : VR).k = k1 from rfl,hB,Bool.false_and] at hd
             rw [if_neg (by rw [hd]; simp)]
             simp only [go_sem,zab,↓reduceIte,lcT,ty,noS,zbk,hle,d2,hs1,hs2,e1,e2,hB,Bool.not_true,Bool.not_false,Int.toNat_natCast]
             repeat (refine And.intro (by omega) ?_)
             refine ⟨_,Weak.refl _,?_⟩
             simp only [go_sem,zab,↓reduceIte,lcT,ty,noS,zbk]
             exact zbe 2 rfl
         · have d2 : decide ((i : Int) < l.length) = false := decide_eq_false (by omega)
           have hr : risV l = true := by rw [← hb]; exact zvl l _ (by omega)
           rw [if_pos hr]
           simp only [go_sem,zab,↓reduceIte,lcT,ty,noS,zbk,hle,d2]
           refine ⟨_,Weak.refl _,?_⟩
           simp only [go_sem,zab,↓reduceIte,lcT,ty,noS,zbk]
           exact zbe 2 rfl
 · exact hp.elim
end
end Go.Proofs.Ytebacgkeoefnkaa
namespace Go.Proofs.Ytebacgkeoefnkaa
namespace Ax
theorem zna (ys : List AV) (j : Nat) (h : j < ys.length) : ys[j] = slot ys j := by
 rw [zcl]; simp [h]
theorem yha {sl : List AV} {H : Heap} {nx : Nat} (id0 k j s : Nat) (ys : List AV) (hl0 : look H id0 = some (.g k [.agg ys])) (hj : j < ys.length) (hn : nilV (slot ys j)) (hs : 0 < s) : Weak ⟨sl,H,nx⟩ ⟨sl,put (put H id0 (.g k [.agg (setSlot ys j (.ms nx s 0 0))])) nx (.g s []),nx + 1⟩ := by
 rintro w0 E B a w ⟨loc,hB,hr⟩
 have hf : loc.m nx = .free := hr.fresh nx (Nat.le_refl _)
 have hlow : id0 < nx := hr.low id0 _ hl0
 have hM : ∀ c,Mut (loc.set nx .nil) c → Mut loc c := by
  rintro c (h | ⟨k,h⟩)
  ·exact .inl h
  ·by_cases hk : k = nx
   ·subst hk; rw [Loc.set_same] at h; cases h
   ·rw [Loc.set_other _ _ hk] at h; exact .inr ⟨k,h⟩
 have hE : Ext (fun _ => False) w loc w (loc.set nx .nil) :=
  ⟨Nat.le_refl _,fun id h _ => Loc.set_other _ _ (fun e => h (e ▸ hf)),fun _ _ h => h.elim,fun c _ hm => ⟨rfl,fun h => hm (hM c h)⟩,fun _ _ _ _ => rfl,fun _ cur _ fz h => ⟨cur,fz,h,rfl⟩⟩
 have hset : ∀ {k c},(loc.set nx .nil).m k = .here c → loc.m k = .here c := by
  intro k c h
  by_cases hk : k = nx
  ·subst hk; rw [Loc.set_same] at h; cases h
  ·rwa [Loc.set_other _ _ hk] at h
 refine ⟨loc.set nx .nil,⟨hB.1,hB.2.1,fun k hk => ?_⟩,⟨hr.size,fun t => (hr.slots t).ext hE,?_,⟨hr.env.os,hr.env.tape,hr.env.output,hr.env.size,hr.env.same,fun i j b h1 h2 => hr.env.inj i j b (hset h1) (hset h2),fun i b h1 => hr.env.lies i b (hset h1),hr.env.bad⟩,?_,hr.defers,?_⟩⟩
 ·have hne : k ≠ nx := by
   rintro rfl
   rcases hB.2.2 k hk with h | ⟨h,_⟩ <;> rw [hf] at h <;> cases h
  rw [Loc.set_other _ _ hne]; exact hB.2.2 k hk
 ·intro id c hl
  simp only at hl
  rw [zar] at hl
  split at hl
  ·rename_i e; subst e
   injection hl with hl; subst hl
   unfold BlkR
   rw [Loc.set_same]; exact ⟨⟨hs,by simp⟩,rfl⟩
  ·rename_i e
   rw [zar] at hl
   split at hl
   ·rename_i e0; subst e0
    injection hl with hl; subst hl
    have h0 := hr.heap _ _ hl0
    unfold BlkR at h0 ⊢
    rw [Loc.set_other _ _ (Ne.symm e)]
    split at h0
    ·trivial
    ·exact h0.elim
    ·exact absurd h0.2 (by simp [Blk.len])
    ·obtain ⟨⟨hk0,hok⟩,hL⟩ := h0
     obtain ⟨cur,e1,fz,hc,hfz,hone,hfl,hcells⟩ := hL.lies rfl
     have e3 : (Blk.g k [AV.agg ys]).flat = ys := by simp [Blk.flat,AV.leaves]
     have e4 : (Blk.g k [AV.agg (setSlot ys j (.ms nx s 0 0))]).flat = setSlot ys j (.ms nx s 0 0) := by simp [Blk.flat,AV.leaves]
     rw [e3] at hfl
     have hcell : ∀ (t : Nat) (h : t < ys.length) (h' : t < cur.size),(slot ys t).leaf = true ∧ R w loc (slot ys t) cur[t] := by
      intro t h h'
      have := hcells t (by rw [e3]; exact h) h'
      have e5 : (Blk.g k [AV.agg ys]).flat[t]'(by rw [e3]; exact h) = slot ys t := by
       rw [← zna ys t h]; simp [e3]
      rw [e5] at this; exact this
     refine ⟨⟨hk0,?_⟩,Lies.mkC ⟨cur,e1,fz,hc,hfz,hone,by rw [e4,zat]; exact hfl,?_⟩⟩
     ·intro x hx
      obtain rfl := List.mem_singleton.1 hx
      have := hok (.agg ys) (List.mem_singleton.2 rfl)
      simpa [AV.leaves,zat] using this
     ·intro t h h'
      have ht : t < ys.length := by rw [e4,zat] at h; exact h
      have e5 : (Blk.g k [AV.agg (setSlot ys j (.ms nx s 0 0))]).flat[t] = slot (setSlot ys j (.ms nx s 0 0)) t := by
       rw [← zna _ t (by rw [zat]; exact ht)]; simp [e4]
      rw [e5]
      by_cases htj : j = t
      ·subst htj
       rw [zbr hj]
       obtain ⟨a',he⟩ := yox hn (hcell j hj h').2
       refine ⟨rfl,?_⟩
       rw [he]
       refine .ms _ _ _ _ _ ?_
       unfold Owns
       rw [Loc.set_same]
       exact ⟨rfl,a',rfl⟩
      ·rw [zbm htj]
       exact ⟨(hcell t ht h').1,(hcell t ht h').2.ext hE⟩
   ·rename_i e2
    by_cases hfr : loc.m id = .free
    ·exact BlkR.free (by rw [Loc.set_other _ _ (Ne.symm e)]; exact hfr)
    ·exact (hr.heap id c hl).ext hE (fun h => h) hfr
 ·intro id hid
  simp only at hid
  rw [Loc.set_other _ _ (by omega)]; exact hr.fresh id (by simp only; omega)
 ·intro id c hl
  simp only at hl
  rw [zar] at hl
  split at hl
  ·simp only; omega
  ·rw [zar] at hl
   split at hl
   ·simp only; omega
   ·have := hr.low id c hl
    simp only at this ⊢; omega
theorem ztd {sl : List AV} {H : Heap} {nx : Nat} (id s i id0 : Nat) (zs : List AV) (b0 : Blk) (hl : look H id = some (.g s zs)) (hcl : closedL zs = true) (h0 : look H id0 = some b0) (hi0 : id0 ∈ (slot sl i).ids) (hin : id ∈ b0.idsB) : Weak ⟨sl,H,nx⟩ ⟨fgL id s zs sl,fgH id s zs H,nx⟩ := by
 rintro w0 E B a w ⟨loc,hB,hr⟩
 have h1 := zeo _ _ (hr.slots i) hi0
 have h2 : loc.m id ≠ .free := by
  obtain ⟨hok,⟨_,e⟩ | ⟨c,hc,hlies⟩⟩ := hr.heap.get h0 h1
  ·rw [ynd e] at hin; simp at hin
  ·exact zwj hlies id hin
 obtain ⟨h3,h4⟩ := yov hB hr h2 (hr.heap id _ hl) hcl
 exact ⟨_,h3,h4⟩
end Ax
end Go.Proofs.Ytebacgkeoefnkaa
namespace Go.Proofs.Ytebacgkeoefnkaa
open Ax
def wiL (k : List UInt8) (l : List VR) : List VR := l.filter fun r => decide (¬ r.k = k)
def wiN (k : List UInt8) (l : List VR) : Nat := l.countP fun r => Op.bytesLess r.k k
def oneV (b : Int) (l : List VR) (r : Rec) : List VR :=
 if r.k = true then (if r.dd = true then wiL r.key l else (wiL r.key l).take (wiN r.key l) ++ rowR b r :: (wiL r.key l).drop (wiN r.key l)) else l
theorem yrj (k : List UInt8) (l : List VR) : wiN k l ≤ (wiL k l).length := by
 unfold wiN wiL
 rw [← List.countP_eq_length_filter]
 refine List.countP_mono_left fun r _ h => ?_
 refine decide_eq_true fun e => ?_
 rw [e,bytesLess_eq] at h
 exact List.lt_irrefl _ (of_decide_eq_true h)
theorem zza (k : List UInt8) (l : List VR) : (wiL k l).length ≤ l.length := List.length_filter_le _ _
def witS : zaw
 | [.sg 4 xs f,.str k],[] => ⟨xs.length ≤ 1000000 ∧ ∃ l : List VR,xs = l.map vrA,.tup [.sg 4 ((wiL k (xs.map uvr)).map vrA) false,.w (.int .i64 (wiN k (xs.map uvr)))],[]⟩
 | _,_ => zcm
def oneS : zaw
 | [.sg 4 xs false,.agg [.w (.int .i64 d),.w (.int .i64 t),.w (.bool kd),.str key,.w (.bool dd),.str val],.w (.int .i64 o)],[] => ⟨xs.length ≤ 1000000 ∧ ∃ l : List VR,xs = l.map vrA,
   .sg 4 (((if kd = true then (if dd = true then wiL key (xs.map uvr) else (wiL key (xs.map uvr)).take (wiN key (xs.map uvr)) ++ ⟨key,val,o,t⟩ :: (wiL key (xs.map uvr)).drop (wiN key (xs.map uvr))) else xs.map uvr)).map vrA) false,[]⟩
 | _,_ => zcm
section
set_option maxRecDepth 100000
set_option maxHeartbeats 8000000 in
theorem ygz : zbb Try.prog 66 witS := by
 refine zfl (S := noS) (T := ty) mixed ty_ok zdk Try.func66 (c := Try.f66.body.getD .skip) (by kernel_rfl) (by kernel_rfl) (fun xs pins hp _ => ?_)
 unfold witS at hp ⊢
 split at hp
 ·rename_i xs f k _
  obtain ⟨hL,l,rfl⟩ := hp
  rw [List.length_map] at hL
  have hlp : (l.map vrA).length = l.length := by simp
  have ht : top = 4294967296 := rfl
  rw [zau]
  refine ⟨by simp,?_⟩
  unfold Try.f66
  simp only [go_sem,zaa,↓reduceIte,ty,noS,hlp]
  refine zqg ⟨fun m σ => ∃ (i : Nat) (K : List VR) (A : Nat),m = l.length - i ∧ i ≤ l.length ∧ K = wiL k (l.take i) ∧ A = wiN k (l.take i) ∧
    σ = ⟨[.sg 4 (l.map vrA) f,.str k,.junk,.junk,.junk,.junk,.ms 4 4 0 K.length,.w (.int .i64 A),.w (.int .i64 i),.junk,.junk,.junk,.junk,.junk,.junk,.junk,.junk,.junk,.junk,.junk,.junk,.junk,.junk,.junk,.junk,.junk,.junk,.junk,.junk,.junk,.junk,.junk,.junk,.junk,.junk,.junk,.junk,.junk,.junk,.junk],[(4,.g 4 (K.map vrA))],5⟩,?_,?_⟩
  ·refine ⟨_,_,(zgx 6 4 (.g 4 []) ⟨by decide,rfl⟩ (by exact trivial)).trans (zaf [0,1,2,3,44] rfl rfl rfl ?_ ?_),0,[],0,rfl,by omega,rfl,rfl,rfl⟩
   ·simp only [ssT,zah,zai,setSlot,gOf,AV.ren,renL,Blk.ren,Ax.look,Ax.put,reduceCtorEq,↓reduceIte,Nat.reduceEqDiff,Nat.reduceLT,Nat.reduceAdd,List.length_append,List.length_cons,List.length_nil,Option.some.injEq]; try simp
   ·simp only [ssT,zah,zai,setSlot,gOf,AV.ren,renL,Blk.ren,Ax.look,Ax.put,reduceCtorEq,↓reduceIte,Nat.reduceEqDiff,Nat.reduceLT,Nat.reduceAdd,List.length_append,List.length_cons,List.length_nil,Option.some.injEq]; try simp [renL]
  ·rintro m σ ⟨i,K,A,rfl,hi,hK,hA,rfl⟩
   have e1 : ((i : Int) + 1 + 9223372036854775808) % 18446744073709551616 - 9223372036854775808 = ((i + 1 : Nat) : Int) := by omega
   have hKm : (K.map vrA).length = K.length := by simp
   have hKl : K.length ≤ i := by rw [hK]; exact Nat.le_trans (zza _ _) (by rw [List.length_take]; omega)
   have hAl : A ≤ i := by rw [hA]; exact Nat.le_trans List.countP_le_length (by rw [List.length_take]; omega)
   have e2 : ((A : Int) + 1 + 9223372036854775808) % 18446744073709551616 - 9223372036854775808 = ((A + 1 : Nat) : Int) := by omega
   by_cases hil : i < l.length
   ·have d4 : decide ((i : Int) < l.length) = true := decide_eq_true (by omega)
    have hs1 := zdb l i hil
    have htk : l.take (i + 1) = l.take i ++ [l[i]] := List.take_succ_eq_append_getElem hil
    obtain ⟨r,hr⟩ : ∃ r,l[i] = r := ⟨_,rfl⟩
    rw [hr] at hs1 htk
    obtain ⟨k1,v,o,t⟩ := r
    have hs1 : slot (l.map vrA) i = .agg [.str k1,.str v,.w (.int .i64 o),.w (.int .i64 t)] := hs1
    have hat : K.map vrA ++ [.agg [.str k1,.str v,.w (.int .i64 o),.w (.int .i64 t)]] = (K ++ [(⟨k1,v,o,t⟩ : VR)]).map vrA := by rw [List.map_append]; rfl
    have hyes : ¬ k1 = k → K ++ [(⟨k1,v,o,t⟩ : VR)] = wiL k (l.take (i + 1)) := fun h => by rw [htk,hK]; unfold wiL; rw [List.filter_append]; simp [h]
    have hno : k1 = k → K = wiL k (l.take (i + 1)) := fun h => by rw [htk,hK]; unfold wiL; rw [List.filter_append]; simp [h]
    have hA1 : Op.bytesLess k1 k = true → A + 1 = wiN k (l.take (i + 1)) := fun h => by rw [htk,hA]; unfold wiN; rw [List.countP_append]; simp [h]
    have hA0 : Op.bytesLess k1 k = false → A = wiN k (l.take (i + 1)) := fun h => by rw [htk,hA]; unfold wiN; rw [List.countP_append]; simp [h]
    cases hb : Op.bytesLess k1 k with
    | true =>
     have hne : ¬ k1 = k := fun e => by rw [e,bytesLess_eq] at hb; exact List.lt_irrefl _ (of_decide_eq_true hb)
     have dn : decide (k1 = k) = false := decide_eq_false hne
     simp only [go_sem,zaa,↓reduceIte,ty,noS,hlp,d4,hs1,e1,e2,hb,dn,hat,hKm,ht,Int.toNat_natCast,Bool.not_false,Bool.not_true]
     repeat (first | refine And.intro (by omega) ?_ | refine And.intro ⟨trivial,by omega⟩ ?_)
     refine ⟨l.length - (i + 1),_,by omega,zaf [0,1,2,3,221] rfl rfl rfl ?_ ?_,i + 1,K ++ [(⟨k1,v,o,t⟩ : VR)],A + 1,rfl,by omega,hyes hne,hA1 hb,rfl⟩
     ·simp only [ssT,zah,zai,setSlot,gOf,AV.ren,renL,Blk.ren,Ax.look,Ax.put,reduceCtorEq,↓reduceIte,Nat.reduceEqDiff,Nat.reduceLT,Nat.reduceAdd,List.length_append,List.length_cons,List.length_nil,Option.some.injEq]; try simp
     ·simp only [ssT,zah,zai,setSlot,gOf,AV.ren,renL,Blk.ren,Ax.look,Ax.put,reduceCtorEq,↓reduceIte,Nat.reduceEqDiff,Nat.reduceLT,Nat.reduceAdd,List.length_append,List.length_cons,List.length_nil,Option.some.injEq,zfc]; try simp
    | false =>
     by_cases hne : k1 = k
     ·have dn : decide (k1 = k) = true := decide_eq_true hne
      simp only [go_sem,zaa,↓reduceIte,ty,noS,hlp,d4,hs1,e1,e2,hb,dn,hat,hKm,ht,Int.toNat_natCast,Bool.not_false,Bool.not_true]
      repeat (first | refine And.intro (by omega) ?_ | refine And.intro ⟨trivial,by omega⟩ ?_)
      refine ⟨l.length - (i + 1),_,by omega,zaf [0,1,2,3,4] rfl rfl rfl ?_ ?_,i + 1,K,A,rfl,by omega,hno hne,hA0 hb,rfl⟩
      ·simp only [ssT,zah,zai,setSlot,gOf,AV.ren,renL,Blk.ren,Ax.look,Ax.put,reduceCtorEq,↓reduceIte,Nat.reduceEqDiff,Nat.reduceLT,Nat.reduceAdd,List.length_append,List.length_cons,List.length_nil,Option.some.injEq]; try simp
      ·simp only [ssT,zah,zai,setSlot,gOf,AV.ren,renL,Blk.ren,Ax.look,Ax.put,reduceCtorEq,↓reduceIte,Nat.reduceEqDiff,Nat.reduceLT,Nat.reduceAdd,List.length_append,List.length_cons,List.length_nil,Option.some.injEq,zfc]; try simp
     ·have dn : decide (k1 = k) = false := decide_eq_false hne
      simp only [go_sem,zaa,↓reduceIte,ty,noS,hlp,d4,hs1,e1,e2,hb,dn,hat,hKm,ht,Int.toNat_natCast,Bool.not_false,Bool.not_true]
      repeat (first | refine And.intro (by omega) ?_ | refine And.intro ⟨trivial,by omega⟩ ?_)
      refine ⟨l.length - (i + 1),_,by omega,zaf [0,1,2,3,197] rfl rfl rfl ?_ ?_,i + 1,K ++ [(⟨k1,v,o,t⟩ : VR)],A,rfl,by omega,hyes hne,hA0 hb,rfl⟩
      ·simp only [ssT,zah,zai,setSlot,gOf,AV.ren,renL,Blk.ren,Ax.look,Ax.put,reduceCtorEq,↓reduceIte,Nat.reduceEqDiff,Nat.reduceLT,Nat.reduceAdd,List.length_append,List.length_cons,List.length_nil,Option.some.injEq]; try simp
      ·simp only [ssT,zah,zai,setSlot,gOf,AV.ren,renL,Blk.ren,Ax.look,Ax.put,reduceCtorEq,↓reduceIte,Nat.reduceEqDiff,Nat.reduceLT,Nat.reduceAdd,List.length_append,List.length_cons,List.length_nil,Option.some.injEq,zfc]; try simp
   ·have d4 : decide ((i : Int) < l.length) = false := decide_eq_false (by omega)
    have htk : l.take i = l := List.take_of_length_le (by omega)
    rw [htk] at hK hA
    subst hK hA
    obtain ⟨Z,hZ⟩ : ∃ Z,wiL k l = Z := ⟨_,rfl⟩
    rw [hZ] at hKl ⊢
    simp only [go_sem,zaa,↓reduceIte,ty,noS,hlp,d4]
    have hdle : decide (0 + Z.length ≤ (Z.map vrA).length) = true := decide_eq_true (by rw [List.length_map]; omega)
    have htk2 : (Z.map vrA).take Z.length = Z.map vrA := List.take_of_length_le (by rw [List.length_map]; omega)
    refine ⟨_,znz 4 4 6 _ rfl (zan _) (by simp [slot,AV.ids]),?_⟩
    simp only [fgL,fgH,AV.fg,Blk.fg,Nat.reduceBEq,cond_true,cond_false,hdle,Bool.and_true,beq_self_eq_true,Bool.true_and,List.drop_zero,htk2]
    simp only [go_sem,zaa,↓reduceIte,ty,noS,hlp]
    refine ⟨_,Weak.refl _,?_⟩
    simp only [go_sem,zaa,↓reduceIte,ty,noS,zan]
 ·exact hp.elim
def zlu (f : FuncId) : Option zaw :=
 match f with
 | 66 => some witS
 | _ => none
theorem ylz : Fns Try.prog zlu := by
 intro f s h
 unfold zlu at h
 split at h
 ·injection h with h; subst h; exact ⟨⟨_,Try.func66,by kernel_rfl,by kernel_rfl⟩,ygz⟩
 ·cases h
def yms : Plan := fun id => match id with
 | 7 => some [(4,5),(4,6),(4,7),(4,8),(4,10),(4,11),(4,13),(4,17),(14,17)]
 | _ => none
set_option maxHeartbeats 8000000 in
theorem yia : zbb Try.prog 36 oneS := by
 refine zcp (S := zlu) (T := ty) (pl := yms) mixed ty_ok ylz Try.func36 (c := Try.f36.body.getD .skip) (by kernel_rfl) (by kernel_rfl) (fun xs pins hp _ => ?_)
 unfold oneS at hp ⊢
 split at hp
 ·rename_i xs d t kd key dd val o _
  obtain ⟨hL,l,rfl⟩ := hp
  rw [List.length_map] at hL
  have hlp : (l.map vrA).length = l.length := by simp
  have hxl : ∃ q : List VR,l.map vrA = q.map vrA := ⟨l,rfl⟩
  have ht : top = 4294967296 := rfl
  rw [zau]
  refine ⟨by simp,?_⟩
  have hc1 : ∀ f,coe ty 22 (.sg 4 (l.map vrA) f) = .sg 4 (l.map vrA) f := fun f => by cases l <;> rfl
  unfold Try.f36
  cases kd with
  | false =>
   simp only [go_sem,zab,↓reduceIte,lcT,ty,zlu,yms,Bool.not_false]
   refine ⟨_,Weak.refl _,?_⟩
   simp only [go_sem,zab,↓reduceIte,lcT,ty,zlu,zan]
  | true =>
   have hl0 := yrj key l
   have hl1 := zza key l
   obtain ⟨K,hK⟩ : ∃ K,wiL key l = K := ⟨_,rfl⟩
   obtain ⟨n,hn⟩ : ∃ n,wiN key l = n := ⟨_,rfl⟩
   rw [hK] at hl1
   rw [hK,hn] at hl0
   rw [hK,hn]
   have hqm : (K.map vrA).length = K.length := by simp
   cases dd with
   | true =>
    simp only [go_sem,zab,↓reduceIte,lcT,ty,zlu,yms,witS,hc1,hL,hlp,hxl,zau,hK,hn,zan,Bool.not_true]
    refine ⟨_,Weak.refl _,?_⟩
    simp only [go_sem,zab,↓reduceIte,lcT,ty,zlu,zan]
   | false =>
    have hl2 : (K.take n).length = n := by rw [List.length_take]; omega
    have hl3 : (K.drop n).length = K.length - n := by rw [List.length_drop]
    have htd : List.take (K.length - n) ((K.drop n).map vrA) = (K.drop n).map vrA := List.take_of_length_le (by rw [List.length_map,hl3]; omega)
    have htk1 : ∀ n,List.take n (K.map vrA) = (K.take n).map vrA := fun n => (List.map_take (f := vrA) (l := K) (i := n)).symm
    have hdr1 : ∀ n,List.drop n (K.map vrA) = (K.drop n).map vrA := fun n => (List.map_drop (f := vrA) (l := K) (i := n)).symm
    have hap1 : (K.take n).map vrA ++ [.agg [.str key,.str val,.w (.int .i64 o),.w (.int .i64 t)]] = (K.take n ++ [(⟨key,val,o,t⟩ : VR)]).map vrA := by rw [List.map_append]; rfl
    obtain ⟨N,hN⟩ : ∃ N,K.take n ++ ⟨key,val,o,t⟩ :: K.drop n = N := ⟨_,rfl⟩
    have hap2 : (K.take n ++ [(⟨key,val,o,t⟩ : VR)]).map vrA ++ (K.drop n).map vrA = N.map vrA := by rw [← hN]; simp
    have hl4 : (K.take n ++ [(⟨key,val,o,t⟩ : VR)]).length = n + 1 := by simp; omega
    have hl5 : (N.map vrA).length = K.length + 1 := by rw [← hN,List.length_map]; simp; omega
    rw [hN]
    simp only [go_sem,zab,↓reduceIte,lcT,ty,zlu,yms,witS,hc1,hL,hlp,hxl,zau,hK,hn,zan,hqm,htk1,hdr1,htd,ht,hap1,hap2,hl2,hl3,hl4,hl5,yix,List.length_map,Nat.sub_zero,Int.toNat_natCast,Bool.not_true]
    repeat (first | refine And.intro (by omega) ?_ | refine And.intro ⟨by omega,by omega⟩ ?_)
    have hdle : decide (0 + (n + 1 + (K.length - n)) ≤ (N.map vrA).length) = true := decide_eq_true (by rw [hl5]; omega)
    have htkE : List.take (n + 1 + (K.length - n)) (N.map vrA) = N.map vrA := List.take_of_length_le (by rw [hl5]; omega)
    refine ⟨_,znz 284 4 6 _ rfl (zan _) (by simp [slot,AV.ids]),?_⟩
    simp only [fgL,fgH,AV.fg,Blk.fg,Nat.reduceBEq,cond_true,cond_false,hdle,Bool.and_true,beq_self_eq_true,Bool.true_and,List.drop_zero,htkE]
    simp only [go_sem,zab,↓reduceIte,lcT,ty,zlu,zan]
 ·exact hp.elim
end
end Go.Proofs.Ytebacgkeoefnkaa
namespace Go.Proofs.Ytebacgkeoefnkaa
open Ax
instance : Inhabited VR := ⟨⟨[],[],0,0⟩⟩
def encV (r : VR) : List Value := [.string ⟨r.k.toArray⟩,.string ⟨r.v.toArray⟩,.int .i64 r.o,.int .i64 r.t]
def valO : AV → Value
 | .str bs => .string ⟨bs.toArray⟩
 | .w v => v
 | _ => .tuple #[]
def flV (l : List VR) : List AV := (l.map vrA).flatMap AV.leaves
theorem zty (x : VR) (l : List VR) : flV (x :: l) = [.str x.k,.str x.v,.w (.int .i64 x.o),.w (.int .i64 x.t)] ++ flV l := rfl
theorem zkd : ∀ l : List VR,(flV l).length = l.length * 4
 | [] => rfl
 | x :: l => by rw [zty,List.length_append,zkd l]; simp; omega
theorem zpk : ∀ l : List VR,(flV l).map valO = l.flatMap encV
 | [] => rfl
 | x :: l => by rw [zty,List.map_append,zpk l,List.flatMap_cons]; rfl
theorem znv : ∀ l : List VR,∀ x ∈ flV l,(∃ bs,x = .str bs) ∨ ∃ v,x = .w v ∧ Ax.one v = true
 | [],x,h => by cases h
 | y :: l,x,h => by
  rw [zty] at h
  rcases List.mem_append.1 h with h | h
  ·simp only [List.mem_cons,List.not_mem_nil,or_false] at h
   rcases h with rfl | rfl | rfl | rfl
   ·exact .inl ⟨_,rfl⟩
   ·exact .inl ⟨_,rfl⟩
   ·exact .inr ⟨_,rfl,rfl⟩
   ·exact .inr ⟨_,rfl,rfl⟩
  ·exact znv l x h
theorem zhf (l : List VR) : (l.flatMap encV).length = l.length * 4 := by rw [← zpk,List.length_map,zkd]
theorem ycw : ∀ (l : List VR) (t : Nat),t < l.length * 4 → (l.flatMap encV)[t]! = (encV l.toArray[t / 4]!)[t % 4]!
 | [],t,h => by simp at h
 | x :: l,t,h => by
  rw [List.flatMap_cons]
  by_cases h4 : t < 4
  ·have h0 : t / 4 = 0 := by omega
   have h1 : t % 4 = t := by omega
   rw [h0,h1,List.getElem!_eq_getElem?_getD,List.getElem?_append_left (by exact h4),← List.getElem!_eq_getElem?_getD]
   simp
  ·have ih := ycw l (t - 4) (by simp at h; omega)
   have h0 : t / 4 = (t - 4) / 4 + 1 := by omega
   have h1 : t % 4 = (t - 4) % 4 := by omega
   rw [List.getElem!_eq_getElem?_getD,List.getElem?_append_right (by show 4 ≤ t; omega),← List.getElem!_eq_getElem?_getD]
   have e : t - (encV x).length = t - 4 := rfl
   rw [e,ih,h0,h1]
   simp
theorem zxh (l : List VR) : Go.Sort.flatK encV 4 l.toArray = (l.flatMap encV).toArray := by
 refine Go.Sort.ext_get! (by rw [Go.Sort.size_flatK,List.size_toArray,List.size_toArray,zhf]) fun t ht => ?_
 have ht' : t < l.length * 4 := by rw [Go.Sort.size_flatK] at ht; simpa using ht
 rw [Go.Sort.get_flatK _ _ _ t (by simpa using ht')]
 have := ycw l t ht'
 simp only [List.getElem!_toArray] at this ⊢
 exact this.symm
def srtV (l : List VR) : List VR := l.mergeSort fun x y => decide (x.k ≤ y.k)
theorem zbq (l : List VR) : (srtV l).length = l.length := List.length_mergeSort ..
def zjd (l : List VR) : List (List UInt8) := l.map fun r => r.k
def zmw (g : FuncId) : zaw
 | [.ms 0 4 0 n,.fn id []],[.g 4 xs] => ⟨id = g ∧ n = xs.length ∧ n < 4611686018427387904 ∧ ∃ l : List VR,xs = l.map vrA ∧ (zjd l).Nodup,.tup [],[.g 4 ((srtV (xs.map uvr)).map vrA)]⟩
 | [.sg s [] fl,.fn id []],[] => ⟨id = g,.tup [],[]⟩
 | _,_ => zcm
theorem yeo {P : Program} {f g : FuncId}
  (hC : ∀ (blk off cap : Nat) (l : List VR) (w : World),(zjd l).Nodup → Go.Sort.Holds id w blk off (l.flatMap encV).toArray → blk < w.heap.size → l.length < 4611686018427387904 →
   Calls P f #[.slice (some ⟨blk,off,none⟩) l.length cap,.func (.func g) #[] #[]] w fun e w' =>
    e = .returned (.tuple #[]) ∧ ∃ n os,w' = Go.Sort.grow (Go.Sort.putRow id (Go.Sort.ahead w n) blk off ((srtV l).flatMap encV).toArray) os)
  (hN : ∀ (p : Option Addr) (cap : Nat) (v : Value) (w : World),Calls P f #[.slice p 0 cap,v] w fun e w' => e = .returned (.tuple #[]) ∧ w' = w) : zbb P f (zmw g) := by
 intro xs pins hp hcl w bad pb vs hpb hnd hbad hpins hlen hxs
 unfold zmw at hp ⊢
 split at hp
 ·rename_i n id0 ys
  obtain ⟨rfl,rfl,hn,l,rfl,hk⟩ := hp
  rw [zau]
  obtain ⟨b,rfl⟩ : ∃ b,pb = [b] := by
   cases pb with
   | nil => simp at hpb
   | cons b r => cases r with
    | nil => exact ⟨b,rfl⟩
    | cons c r => simp at hpb
  obtain ⟨v,v1,rfl⟩ : ∃ v v1,vs = [v,v1] := by
   match vs,hlen with
   | [v,v1],_ => exact ⟨v,v1,rfl⟩
  have hv : R w (zaz [b] bad) (.ms 0 4 0 (l.map vrA).length) v := hxs 0 (by simp) (by simp)
  have hv1 : R w (zaz [b] bad) (.fn id0 []) v1 := hxs 1 (by simp) (by simp)
  obtain rfl : v1 = .func (.func id0) #[] #[] := by
   cases hv1 with
   | fn _ _ cs hl h =>
    obtain rfl : cs = [] := by cases cs with
     | nil => rfl
     | cons c r => simp at hl
    rfl
  have hm : (zaz [b] bad).m 0 = .here b := rfl
  cases hv with
  | ms _ _ _ _ _ h =>
   unfold Owns at h
   rw [hm] at h
   simp only at h
   obtain ⟨o,cap,cur,e,fz,rfl,ho,hcur,hsz,hle,hcap⟩ := h
   have hL := (hpins 0 (by simp) (by simp)).2
   obtain ⟨cur',e',fz',hcur',hfz,hone,hfl,hcells⟩ := hL.lies rfl
   have hb0 : ([b] : List Nat)[0] = b := rfl
   rw [hb0,hcur] at hcur'
   injection hcur' with hcur'
   injection hcur' with h1 h2 h3
   subst h1 h2 h3
   have hflat : (Blk.g 4 (l.map vrA)).flat = flV l := rfl
   have hbs : b < w.heap.size := by
    rcases Nat.lt_or_ge b w.heap.size with h | h
    ·exact h
    ·rw [Array.getElem?_eq_none h] at hcur; cases hcur
   rw [List.length_map] at hle hn
   have hlenc : l.length * 4 ≤ cur.size := by
    have := hfl
    rw [show ([Blk.g 4 (l.map vrA)] : List Blk)[0] = Blk.g 4 (l.map vrA) from rfl,hflat,zkd] at this
    exact this
   have ho0 : 0 < l.length → o = 0 := fun h => by have := ho (by omega); omega
   have hcj : ∀ j (hj : j < l.length * 4),cur[j]'(by omega) = (l.flatMap encV)[j]'(by rw [zhf]; exact hj) := by
    intro j hj
    have hjf : j < (flV l).length := by rw [zkd]; exact hj
    have hx : R w (zaz [b] bad) (flV l)[j] (cur[j]'(by omega)) := (hcells j (by show j < (Blk.g 4 (l.map vrA)).flat.length; rw [hflat]; exact hjf) (by omega)).2
    have e1 : (l.flatMap encV)[j]'(by rw [zhf]; exact hj) = valO (flV l)[j] := by
     simp only [← zpk,List.getElem_map]
    rw [e1]
    generalize cur[j]'(by omega) = u at hx
    rcases znv l _ (List.getElem_mem hjf) with ⟨bs,hbs⟩ | ⟨z,hz,_⟩
    ·rw [hbs] at hx ⊢
     cases hx with
     | str _ => rfl
    ·rw [hz] at hx ⊢
     exact hx.wv
   have hH : Go.Sort.Holds id w b o (l.flatMap encV).toArray := by
    intro j hj
    have hj : j < l.length * 4 := by rw [List.size_toArray,zhf] at hj; exact hj
    have h0 := ho0 (by omega)
    subst h0
    have hjc : j < cur.size := by omega
    refine ⟨?_,?_⟩
    ·simp only [World.cell?,hcur,Nat.zero_add,Array.getElem?_eq_getElem hjc]
     rw [hcj j hj]
     have hq : j < (l.flatMap encV).length := by rw [zhf]; exact hj
     simp only [id,List.getElem!_toArray,List.getElem!_eq_getElem?_getD,List.getElem?_eq_getElem hq,Option.getD_some]
     rfl
    ·have := zmp hfz j hjc
     simp only [World.frozen?,hcur,Nat.zero_add]
     simpa using this
   have hc := hC b o cap l w hk hH hbs hn
   rw [List.length_map]
   refine Calls.mono hc ?_
   rintro e1 w' ⟨rfl,k,os,rfl⟩
   refine ⟨_,zaz [b] bad,rfl,?_⟩
   have hhp : (Go.Sort.grow (Go.Sort.putRow id (Go.Sort.ahead w k) b o ((srtV l).flatMap encV).toArray) os).heap[b]? = some (.cells (Go.Sort.putCells id o ((srtV l).flatMap encV).toArray cur) e fz) := by
    rw [Go.Sort.heap_grow_old _ _ (by simp [Go.Sort.putRow,Go.Sort.mapBlock,Go.Sort.ahead]; exact hbs)]
    simp [Go.Sort.putRow,Go.Sort.mapBlock,Go.Sort.ahead,Array.getElem?_modify,hcur,Go.Sort.onCells]
   obtain ⟨D,hD⟩ : ∃ D,((srtV l).flatMap encV).toArray = D := ⟨_,rfl⟩
   have hDs : D.size = l.length * 4 := by rw [← hD,List.size_toArray,zhf,zbq]
   rw [hD] at hhp ⊢
   obtain ⟨cu,hcu⟩ : ∃ cu,Go.Sort.putCells id o D cur = cu := ⟨_,rfl⟩
   have hcs : cu.size = cur.size := by rw [← hcu]; simp [Go.Sort.putCells]
   have hget : ∀ (j : Nat) (hj : j < cu.size),cu[j] = if o ≤ j ∧ j < o + D.size then id D[j - o]! else cur[j]'(by omega) := by
    intro j hj
    subst hcu
    simp [Go.Sort.putCells]
   rw [hcu] at hhp
   have hflat2 : (Blk.g 4 ((srtV l).map vrA)).flat = flV (srtV l) := rfl
   have hDone : ∀ j,j < D.size → Ax.one D[j]! = true := by
    intro j hj
    have hj2 : j < (flV (srtV l)).length := by rw [zkd,zbq]; omega
    have e1 : D[j]! = valO (flV (srtV l))[j] := by
     subst hD
     have hj3 : j < ((srtV l).flatMap encV).length := by simpa using hj
     simp only [List.getElem!_toArray,List.getElem!_eq_getElem?_getD,List.getElem?_eq_getElem hj3,Option.getD_some]
     simp only [← zpk,List.getElem_map]
    rw [e1]
    rcases znv (srtV l) _ (List.getElem_mem hj2) with ⟨bs,hbs⟩ | ⟨z,hz,h1⟩
    ·rw [hbs]; rfl
    ·rw [hz]; exact h1
   refine ⟨R.tup [] [] rfl (by simp),rfl,?_,?_,?_,?_,?_,?_⟩
   ·intro k' hk'
    have hk0 : k' = 0 := by simp at hk'; omega
    subst hk0
    refine ⟨?_,by rw [hm]; simp,by rw [hm]; simp⟩
    unfold BlkR
    rw [hm]
    refine ⟨⟨by decide,?_⟩,Lies.mkC ⟨cu,e,fz,hhp,by rw [hcs]; exact hfz,?_,?_,?_⟩⟩
    ·intro x hx
     obtain ⟨y,_,rfl⟩ := List.mem_map.1 hx
     rfl
    ·intro j hj
     rw [hget j hj]
     split
     ·exact hDone _ (by omega)
     ·exact hone j (by omega)
    ·show (Blk.g 4 ((srtV l).map vrA)).flat.length ≤ cu.size
     rw [hflat2,zkd,zbq,hcs]; exact hlenc
    ·intro j hj hj'
     have hjl : j < (flV (srtV l)).length := hj
     have hjs : j < l.length * 4 := by rw [zkd,zbq] at hjl; exact hjl
     have h0 := ho0 (by omega)
     subst h0
     show (flV (srtV l))[j].leaf = true ∧ R _ _ (flV (srtV l))[j] cu[j]
     rw [hget j hj',if_pos ⟨Nat.zero_le _,by omega⟩]
     have e1 : id D[j - 0]! = valO (flV (srtV l))[j] := by
      subst hD
      have hj3 : j < ((srtV l).flatMap encV).length := by rw [zhf,zbq]; exact hjs
      simp only [Nat.sub_zero,id,List.getElem!_toArray,List.getElem!_eq_getElem?_getD,List.getElem?_eq_getElem hj3,Option.getD_some]
      simp only [← zpk,List.getElem_map]
     rw [e1]
     rcases znv (srtV l) _ (List.getElem_mem hjl) with ⟨bs,hbs⟩ | ⟨z,hz,h1⟩
     ·rw [hbs]; exact ⟨rfl,R.str _⟩
     ·rw [hz]; exact ⟨h1,R.w _ h1⟩
   ·intro k' hk'
    have hk0 : k' = 0 := by simp at hk'; omega
    subst hk0; rfl
   ·intro k' b' h1 h2
    have h1 : 1 ≤ k' := h1
    have h3 : (zaz [b] bad).m k' = .free := by
     show (match ([b] : List Nat)[k']? with | some b => L.here b | none => L.free) = _
     rw [List.getElem?_eq_none (by simpa using h1)]
    rw [h3] at h2; cases h2
   ·intro k' h1
    have h1 : 1 ≤ k' := h1
    show (match ([b] : List Nat)[k']? with | some b => L.here b | none => L.free) = _
    rw [List.getElem?_eq_none (by simpa using h1)]
   ·intro i j b' h1 h2
    obtain ⟨g1,_⟩ := zde h1
    obtain ⟨g2,_⟩ := zde h2
    simp at g1 g2
    omega
   ·refine ⟨rfl,rfl,rfl,?_,?_,?_⟩
    ·simp [Go.Sort.grow,Go.Sort.putRow,Go.Sort.mapBlock,Go.Sort.ahead]
    ·intro b' hb' hne
     have hne : b' ≠ b := by simpa using hne
     rw [Go.Sort.heap_grow_old _ _ (by simp [Go.Sort.putRow,Go.Sort.mapBlock,Go.Sort.ahead]; exact hb')]
     simp [Go.Sort.putRow,Go.Sort.mapBlock,Go.Sort.ahead,Array.getElem?_modify]
     intro h; exact (hne h.symm).elim
    ·intro b' c' e' f' hE hc'
     have hE : b' = b := by simpa using hE
     subst hE
     rw [hcur] at hc'
     injection hc' with hc'
     injection hc' with h1 h2 h3
     subst h1 h2 h3
     exact ⟨cu,fz,hhp,hcs⟩
 ·rename_i s fl id0
  obtain rfl := hp
  obtain rfl : pb = [] := by cases pb with
   | nil => rfl
   | cons b r => simp at hpb
  obtain ⟨v,v1,rfl⟩ : ∃ v v1,vs = [v,v1] := by
   match vs,hlen with
   | [v,v1],_ => exact ⟨v,v1,rfl⟩
  have hv : R w (zaz [] bad) (.sg s [] fl) v := hxs 0 (by simp) (by simp)
  cases hv with
  | sg _ _ _ a cap cs hd hs hc hl hx h =>
   refine Calls.mono (hN a cap v1 w) ?_
   rintro e1 w' ⟨rfl,rfl⟩
   refine ⟨_,zaz [] bad,rfl,?_⟩
   have hf : ∀ k,(zaz [] bad).m k = .free := fun k => by
    show (match ([] : List Nat)[k]? with | some b => L.here b | none => L.free) = _
    rw [List.getElem?_eq_none (by simp)]
   refine ⟨R.tup [] [] rfl (by simp),rfl,?_,?_,?_,fun k _ => hf k,?_,?_⟩
   ·intro k hk; simp at hk
   ·intro k hk; simp at hk
   ·intro k b' _ h2; rw [hf k] at h2; cases h2
   ·intro i j b' h1 _; rw [hf i] at h1; cases h1
   ·exact ⟨rfl,rfl,rfl,Nat.le_refl _,fun _ _ _ => rfl,fun b' c' e' f' hE _ => by simp at hE⟩
 ·exact hp.elim
end Go.Proofs.Ytebacgkeoefnkaa
namespace Go.Proofs.Ytebacgkeoefnkaa
open Go.Shelf
open Ax
def yrp : Go.Shelf.Ren := ⟨fun | 6 => 31 | 15 => 62 | 14 => 61 | 28 => 87 | 29 => 88 | 20 => 79 | 21 => 80 | 22 => 81 | 23 => 82 | 24 => 83 | 25 => 84 | 26 => 85 | 27 => 86 | 46 => 97 | 47 => 98 | 48 => 99 | 49 => 100 | 50 => 101 | 57 => 106 | n => n,fun | 22 => 33 | 24 => 52 | 25 => 74 | 3 => 3 | 39 => 100 | 0 => 0 | 53 => 125 | 55 => 108 | 4 => 4 | 46 => 119 | 45 => 118 | 50 => 82 | 5 => 5 | 9 => 9 | 66 => 135 | 70 => 139 | 76 => 142 | 77 => 143 | n => n,fun | n => n⟩
theorem yos : Go.Proofs.SlLaysF0.n6 Try.prog yrp := {
 mixed := by kernel_rfl
 f6 := ⟨Try.f31.name,by decide,Try.func31.trans (congrArg some (by kernel_rfl))⟩
 f14 := ⟨Try.f61.name,by decide,Try.func61.trans (congrArg some (by kernel_rfl))⟩
 f15 := Try.func62.trans (congrArg some (by kernel_rfl))
 f20 := ⟨Try.f79.name,by decide,Try.func79.trans (congrArg some (by kernel_rfl))⟩
 f21 := ⟨Try.f80.name,by decide,Try.func80.trans (congrArg some (by kernel_rfl))⟩
 f22 := ⟨Try.f81.name,by decide,Try.func81.trans (congrArg some (by kernel_rfl))⟩
 f23 := ⟨Try.f82.name,by decide,Try.func82.trans (congrArg some (by kernel_rfl))⟩
 f24 := ⟨Try.f83.name,by decide,Try.func83.trans (congrArg some (by kernel_rfl))⟩
 f25 := ⟨Try.f84.name,by decide,Try.func84.trans (congrArg some (by kernel_rfl))⟩
 f26 := ⟨Try.f85.name,by decide,Try.func85.trans (congrArg some (by kernel_rfl))⟩
 f27 := ⟨Try.f86.name,by decide,Try.func86.trans (congrArg some (by kernel_rfl))⟩
 f28 := Try.func87.trans (congrArg some (by kernel_rfl))
 f29 := Try.func88.trans (congrArg some (by kernel_rfl))
 f46 := ⟨Try.f97.name,by decide,Try.func97.trans (congrArg some (by kernel_rfl))⟩
 f47 := Try.func98.trans (congrArg some (by kernel_rfl))
 f48 := Try.func99.trans (congrArg some (by kernel_rfl))
 f49 := ⟨Try.f100.name,by decide,Try.func100.trans (congrArg some (by kernel_rfl))⟩
 f50 := ⟨Try.f101.name,by decide,Try.func101.trans (congrArg some (by kernel_rfl))⟩
 f57 := ⟨Try.f106.name,by decide,Try.func106.trans (congrArg some (by kernel_rfl))⟩
 t0 := Try.underlying0
 a0 := Try.isAgg0
 z0 := Try.sizeOf0
 v0 := Try.zeroValue0
 t3 := Try.underlying3
 a3 := Try.isAgg3
 z3 := Try.sizeOf3
 v3 := Try.zeroValue3
 t4 := Try.underlying4
 a4 := Try.isAgg4
 z4 := Try.sizeOf4
 v4 := Try.zeroValue4
 t5 := Try.underlying5
 a5 := Try.isAgg5
 z5 := Try.sizeOf5
 v5 := Try.zeroValue5
 t9 := Try.underlying9
 a9 := Try.isAgg9
 z9 := Try.sizeOf9
 v9 := Try.zeroValue9
 t22 := Try.underlying33
 a22 := Try.isAgg33
 z22 := Try.sizeOf33
 v22 := Try.zeroValue33
 t25 := Try.underlying74
 a25 := Try.isAgg74
 z25 := Try.sizeOf74
 v25 := Try.zeroValue74
 t39 := Try.underlying100
 a39 := Try.isAgg100
 z39 := Try.sizeOf100
 v39 := Try.zeroValue100
 t45 := Try.underlying118
 a45 := Try.isAgg118
 z45 := Try.sizeOf118
 v45 := Try.zeroValue118
 t46 := Try.underlying119
 a46 := Try.isAgg119
 z46 := Try.sizeOf119
 v46 := Try.zeroValue119
 t50 := Try.underlying82
 a50 := Try.isAgg82
 z50 := Try.sizeOf82
 v50 := Try.zeroValue82
 t53 := Try.underlying125
 a53 := Try.isAgg125
 z53 := Try.sizeOf125
 v53 := Try.zeroValue125
 t55 := Try.underlying108
 a55 := Try.isAgg108
 z55 := Try.sizeOf108
 v55 := Try.zeroValue108
 t66 := Try.underlying135
 a66 := Try.isAgg135
 z66 := Try.sizeOf135
 v66 := Try.zeroValue135
 t70 := Try.underlying139
 a70 := Try.isAgg139
 z70 := Try.sizeOf139
 v70 := Try.zeroValue139
 t76 := Try.underlying142
 a76 := Try.isAgg142
 z76 := Try.sizeOf142
 v76 := Try.zeroValue142
 t77 := Try.underlying143
 a77 := Try.isAgg143
 z77 := Try.sizeOf143
 v77 := Try.zeroValue143 }
open Go.RowKit Go.Lib Go.Sort
def cK (a b : List UInt8) : Int := if a < b then -1 else if b < a then 1 else 0
def cR (x y : VR) : Int := cK x.k y.k
set_option maxHeartbeats 4000000 in
theorem yih (x : List UInt8) (W : World) : Calls Try.prog 89 #[.string ⟨x.toArray⟩] W fun e w' => e = .returned (.bool false) ∧ w' = W := by
 go_enter Try.func89,Try.ntmps89
 go_wp2
 go_ret
 exact ⟨by simp,rfl⟩
set_option maxHeartbeats 4000000 in
theorem ykr (x y : List UInt8) (W : World) : Calls Try.prog 63 #[.string ⟨x.toArray⟩,.string ⟨y.toArray⟩] W fun e w' => e = .returned (.int .i64 (cK x y)) ∧ w' = W := by
 have hcon := fun x W' => yih x W'
 go_enter Try.func63,Try.ntmps63
 go_wp2_with (go_at_call 89; refine (hcon _ _).mono ?_; rintro e w' ⟨rfl,rfl⟩)
 all_goals (go_ret; refine ⟨?_,rfl⟩; unfold cK; (repeat' split) <;> first | rfl | (exfalso; simp_all [bytesLess_eq]; done) | (exfalso; simp_all [bytesLess_eq]; first | exact List.lt_irrefl _ ‹_› | (rename_i hne hle1 hle2; exact hne (List.le_antisymm (List.not_lt.1 hle2) (List.not_lt.1 hle1))) | trace_state))
set_option maxHeartbeats 4000000 in
theorem yay (x y : VR) (W : World) : Calls Try.prog 32 #[.agg (encV x).toArray,.agg (encV y).toArray] W fun e w' => e = .returned (.int .i64 (cR x y)) ∧ ∃ q os',w' = grow (W.drewN q) os' := by
 have hcon := fun W' => ykr x.k y.k W'
 unfold cR
 generalize cK x.k y.k = r at hcon ⊢
 obtain ⟨k1,v1,o1,t1⟩ := x
 obtain ⟨k2,v2,o2,t2⟩ := y
 simp only [encV] at hcon ⊢
 go_enter Try.func32,Try.ntmps32
 go_wp2_with (go_at_call 63; refine (hcon _).mono ?_; rintro e w' ⟨rfl,rfl⟩)
 go_ret
 exact ⟨rfl,0,_,by rw [alloc_eq_grow,alloc_eq_grow,grow_grow]; rfl⟩
theorem ydl (a b : List UInt8) : cK a b < 0 ↔ a < b := by
 unfold cK
 by_cases h : a < b
 ·simp [h]
 ·rw [if_neg h]
  split <;> simp [h]
theorem swoR : SWO (ltOf cR) where
 irrefl x := by unfold ltOf cR; rw [decide_eq_false_iff_not,ydl]; exact List.lt_irrefl _
 trans x y z h1 h2 := by
  unfold ltOf cR at *
  rw [decide_eq_true_eq,ydl] at *
  exact List.lt_trans h1 h2
 ntrans x y z h1 h2 := by
  unfold ltOf cR at *
  rw [decide_eq_false_iff_not,ydl] at *
  exact List.not_lt.2 (List.le_trans (List.not_lt.1 h2) (List.not_lt.1 h1))
theorem zob {l l2 : List VR} (hn : (zjd l).Nodup) (hp : l2.Perm l) (hs : l2.Pairwise fun x y => ¬ y.k < x.k) : l2 = srtV l := by
 have htr : ∀ x y z : VR,decide (x.k ≤ y.k) = true → decide (y.k ≤ z.k) = true → decide (x.k ≤ z.k) = true := fun x y z h1 h2 => decide_eq_true (List.le_trans (of_decide_eq_true h1) (of_decide_eq_true h2))
 have hto : ∀ x y : VR,(decide (x.k ≤ y.k) || decide (y.k ≤ x.k)) = true := fun x y => by
  rcases List.le_total x.k y.k with h | h <;> simp [h]
 have hinj : ∀ (m : List VR),(zjd m).Nodup → ∀ x ∈ m,∀ y ∈ m,x.k = y.k → x = y := by
  intro m
  induction m with
  | nil => intro _ x hx; cases hx
  | cons p m ih =>
   intro h x hx y hy e
   have h2 := List.nodup_cons.1 (show (p.k :: zjd m).Nodup from h)
   rcases List.mem_cons.1 hx with hx1 | hx1
   ·rcases List.mem_cons.1 hy with hy1 | hy1
    ·rw [hx1,hy1]
    ·exact (h2.1 (List.mem_map.2 ⟨y,hy1,by rw [← e,hx1]⟩)).elim
   ·rcases List.mem_cons.1 hy with hy1 | hy1
    ·exact (h2.1 (List.mem_map.2 ⟨x,hx1,by rw [e,hy1]⟩)).elim
    ·exact ih h2.2 x hx1 y hy1 e
 unfold srtV
 refine List.Perm.eq_of_pairwise (le := fun x y => decide (x.k ≤ y.k) = true) (fun x y h1 h2 h3 h4 => ?_) (hs.imp fun {x y} h => decide_eq_true (List.not_lt.1 h)) (List.pairwise_mergeSort htr hto l) (hp.trans (List.mergeSort_perm l _).symm)
 exact hinj l hn x (hp.mem_iff.1 h1) y ((List.mergeSort_perm l _).mem_iff.1 h2) (List.le_antisymm (of_decide_eq_true h3) (of_decide_eq_true h4))
theorem zzi (blk off cap : Nat) (l : List VR) (w : World) (hk : (zjd l).Nodup) (hH : Go.Sort.Holds id w blk off (l.flatMap encV).toArray) (hb : blk < w.heap.size) (hs : l.length < 4611686018427387904) :
  Calls Try.prog 31 #[.slice (some ⟨blk,off,none⟩) l.length cap,.func (.func 32) #[] #[]] w fun e w' =>
   e = .returned (.tuple #[]) ∧ ∃ n os,w' = Go.Sort.grow (Go.Sort.putRow id (Go.Sort.ahead w n) blk off ((srtV l).flatMap encV).toArray) os := by
 have eg : ∀ args w,(callFunc 32 args).run Try.prog w = .ok (.enter 32 args) w := enters_of Try.func32 (by kernel_rfl) rfl
 have hH' : HoldsK encV 4 w blk off l.toArray := by unfold HoldsK; rw [zxh]; exact hH
 have hcon := AnyQ.slices_SortFunc yos 4 Try.isAgg52 Try.sizeOf52 encV (fun _ => rfl) (fun x v hv => by simp [encV] at hv; rcases hv with rfl | rfl | rfl | rfl <;> rfl) cR swoR 32 #[] blk off cap l.toArray w eg (fun _ _ _ _ x y => yay x y _) hH' hb hs
 refine Calls.mono hcon ?_
 rintro e w' ⟨rfl,d',n,os,hp,hso,rfl⟩
 refine ⟨rfl,n,os,?_⟩
 have hsz : d'.size = l.length := by have := hp.1; simpa using this
 have hpm : d'.toList.Perm l := by
  have := hp.2.2
  rw [show (d'.extract 0 l.toArray.size) = d' from by rw [List.size_toArray,← hsz,Array.extract_size],Array.extract_size] at this
  simpa using this
 have hpw : d'.toList.Pairwise fun x y => ¬ y.k < x.k := by
  rw [List.pairwise_iff_getElem]
  intro i j hi hj hij
  have h := hso i j (Nat.zero_le _) hij (by rw [List.size_toArray,← hsz]; simpa using hj)
  have hi2 : i < d'.size := by simpa using hi
  have hj2 : j < d'.size := by simpa using hj
  rw [getElem!_pos d' i hi2,getElem!_pos d' j hj2] at h
  unfold ltOf cR at h
  rw [decide_eq_false_iff_not,ydl] at h
  simpa using h
 have e := zob hk hpm hpw
 unfold sortWorldK putRowK
 rw [show d' = (srtV l).toArray from by rw [← e],zxh]
theorem zzh : zbb Try.prog 31 (zmw 32) :=
 yeo zzi fun p cap v w => AnyF.slices_SortFunc_none yos p cap v w
end Go.Proofs.Ytebacgkeoefnkaa
namespace Go.Proofs.Ytebacgkeoefnkaa
open Ax
theorem zve : yly Try.prog 31 (zmw 32) := by
 intro xs pins hp w bad pb vs h1 h2 h3 h4 h5 h6
 have hc : closedB pins = true := by
  unfold zmw at hp
  split at hp
  ·obtain ⟨_,_,_,l,rfl,_⟩ := hp
   simp only [closedB,Blk.closed,zan,Bool.and_self]
  ·rfl
  ·exact hp.elim
 refine (zzh xs pins hp hc w bad pb vs h1 h2 h3 h4 h5 h6).mono ?_
 rintro e w' ⟨v,loc',he,hg⟩
 exact ⟨v,loc',he,hg.r,hg.bad,fun k hk => .inr (hg.bl k hk),fun k hk => .inl (hg.old k hk),fun k b hk hb => ⟨.inl (hg.new k b hk hb).1,(hg.new k b hk hb).2⟩,hg.none,hg.inj,hg.fram⟩
def cnt (rs : List Rec) (k : List UInt8) : Int := (gtK (rs.foldl spK []) k).getD 0
theorem zxq (rs : List Rec) (k : List UInt8) : cnt rs k = (rs.countP (zhr k) : Nat) := by
 have h := zod k rs []
 have h0 : (gtK ([] : KM) k).getD 0 = 0 := rfl
 rw [h0] at h
 unfold cnt; omega
def kpV (l : List VR) (rs : List Rec) : List VR := l.filter fun r => decide (cnt rs r.k = 0)
def mdV (b : Int) (rs : List Rec) : List VR := rs.foldl (mdK b) []
def allV (l : List VR) (b : Int) (rs : List Rec) : List VR := kpV l rs ++ mdV b rs
def apE (n : Int) (l : List VR) (x : Bat) : Int := if chV n l = 0 then (if bE x = 0 then (if x.b < n then 16 else if 4096 < (allV l x.b x.rs).length then 9 else 0) else bE x) else chV n l
def nxI (b c : Int) : Int := (b + c + 9223372036854775808) % 18446744073709551616 - 9223372036854775808
def vwA (n : Int) (l : List VR) (f : Bool) (e : Int) : AV := .tup [.agg [.w (.int .i64 n),.sg 4 (l.map vrA) f],.w (.int .i64 e)]
def apA (n : Int) (l : List VR) (x : Bat) : AV := if apE n l x = 0 then vwA (nxI x.b x.c) (srtV (allV l x.b x.rs)) false 0 else vwA 0 [] true (apE n l x)
def zsu : zaw
 | [.agg [.w (.int .i64 n),.sg 4 xs f],.agg [.w (.int .i64 b),.w (.int .i64 c),.w (.int .i64 p),.w (.int .i64 e),.w (.int .i64 s),.sg 6 ys g]],[] =>
   ⟨xs.length ≤ 1000000 ∧ ys.length ≤ 1000000 ∧ (∃ l : List VR,xs = l.map vrA) ∧ ∃ rs : List Rec,ys = rs.map rv,apA n (xs.map uvr) ⟨b,c,p,e,s,ys.map rrec⟩,[]⟩
 | _,_ => zcm
def zfr (f : FuncId) : Option zaw :=
 match f with
 | 16 => some zhs
 | 29 => some zsm
 | 33 => some znf
 | 30 => some chgS
 | _ => none
theorem yoo : Fns Try.prog zfr := by
 intro f s h
 unfold zfr at h
 split at h
 ·injection h with h; subst h; exact ⟨⟨_,Try.func16,by kernel_rfl,by kernel_rfl⟩,zsi⟩
 ·injection h with h; subst h; exact ⟨⟨_,Try.func29,by kernel_rfl,by kernel_rfl⟩,ybd⟩
 ·injection h with h; subst h; exact ⟨⟨_,Try.func33,by kernel_rfl,by kernel_rfl⟩,yba⟩
 ·injection h with h; subst h; exact ⟨⟨_,Try.func30,by kernel_rfl,by kernel_rfl⟩,yku⟩
 ·cases h
def ziq (f : FuncId) : Option zaw :=
 match f with
 | 31 => some (zmw 32)
 | _ => none
theorem yop : FnsO Try.prog ziq := by
 intro f s h
 unfold ziq at h
 split at h
 ·injection h with h; subst h; exact ⟨⟨_,Try.func31,by kernel_rfl,by kernel_rfl⟩,zve⟩
 ·cases h
def zcq : ygt := fun id => match id with
 | 18 => .tst [true,false]
 | 23 => .opn [] 1
 | _ => .std
theorem yhr : ∀ (l : List VR),risV l = true → l.Pairwise fun x y => x.k < y.k
 | [],_ => List.Pairwise.nil
 | [_],_ => List.pairwise_singleton _ _
 | a :: c :: l,h => by
  have h' : Op.bytesLess a.k c.k = true ∧ risV (c :: l) = true := by simpa [risV] using h
  have ih := yhr (c :: l) h'.2
  have hac : a.k < c.k := by have := h'.1; rw [bytesLess_eq] at this; exact of_decide_eq_true this
  refine List.pairwise_cons.2 ⟨fun x hx => ?_,ih⟩
  rcases List.mem_cons.1 hx with rfl | hx
  ·exact hac
  ·exact List.lt_trans hac ((List.pairwise_cons.1 ih).1 x hx)
theorem ypq {l : List VR} (h : l.Pairwise fun x y => x.k < y.k) : (zjd l).Nodup := by
 unfold zjd
 rw [List.nodup_iff_pairwise_ne]
 exact (List.pairwise_map.2 (h.imp fun {x y} hxy e => by rw [e] at hxy; exact List.lt_irrefl _ hxy))
theorem zzw (b : Int) : ∀ (rs : List Rec) (m : List VR),ztq m → ztq (rs.foldl (mdK b) m) ∧ ∀ x ∈ rs.foldl (mdK b) m,x ∈ m ∨ 0 < rs.countP (zhr x.k)
 | [],m,h => ⟨h,fun x hx => .inl hx⟩
 | r :: rs,m,h => by
  rw [List.foldl_cons]
  have h2 : ztq (mdK b m r) ∧ ∀ x ∈ mdK b m r,x ∈ m ∨ zhr x.k r = true := by
   unfold mdK
   by_cases hk : r.k = true
   ·rw [if_pos hk]
    by_cases hd : r.dd = true
    ·rw [if_pos hd]
     exact ⟨(zue m r.key h).1,fun x hx => .inl (((zue m r.key h).2 x).1 hx).1⟩
    ·rw [if_neg hd]
     refine ⟨(ztp m (rowR b r) h).1,fun x hx => ?_⟩
     rcases ((ztp m (rowR b r) h).2 x).1 hx with h3 | rfl
     ·exact .inl h3.1
     ·exact .inr (by unfold zhr rowR; simp [hk])
   ·rw [if_neg hk]; exact ⟨h,fun x hx => .inl hx⟩
  obtain ⟨i1,i2⟩ := zzw b rs (mdK b m r) h2.1
  refine ⟨i1,fun x hx => ?_⟩
  rw [List.countP_cons]
  rcases i2 x hx with h3 | h3
  ·rcases h2.2 x h3 with h4 | h4
   ·exact .inl h4
   ·exact .inr (by rw [if_pos h4]; omega)
  ·exact .inr (by omega)
theorem ycd {n : Int} {l : List VR} {b : Int} {rs : List Rec} (h : chV n l = 0) : (zjd (allV l b rs)).Nodup := by
 have hr : risV l = true := by
  unfold chV at h
  split at h
  ·cases h
  ·split at h
   ·split at h
    ·assumption
    ·cases h
   ·contradiction
 have h1 : (zjd (kpV l rs)).Nodup := (ypq (yhr l hr)).sublist (List.filter_sublist.map _)
 obtain ⟨h2,h3⟩ := zzw b rs [] List.nodup_nil
 unfold allV zjd
 rw [List.map_append,List.nodup_append]
 refine ⟨h1,h2,fun a ha c hc e => ?_⟩
 subst e
 obtain ⟨x,hx,rfl⟩ := List.mem_map.1 ha
 obtain ⟨y,hy,hyx⟩ := List.mem_map.1 hc
 have h4 := of_decide_eq_true (List.mem_filter.1 hx).2
 rw [zxq] at h4
 rcases h3 y hy with h5 | h5
 ·cases h5
 ·rw [hyx] at h5; omega
theorem ypx (b : Int) (m : List VR) (r : Rec) : (mdK b m r).length ≤ m.length + 1 := by
 unfold mdK ctR ptR
 split
 ·split
  ·split
   ·have := List.length_eraseIdx_le m ‹Nat × VR›.1; omega
   ·omega
  ·split
   ·rw [List.length_set]; omega
   ·rw [List.length_append]; simp
 ·omega
theorem yil (b : Int) : ∀ (rs : List Rec) (m : List VR),(rs.foldl (mdK b) m).length ≤ m.length + rs.length
 | [],m => by simp
 | r :: rs,m => by
  rw [List.foldl_cons]
  have h1 := yil b rs (mdK b m r)
  have h2 := ypx b m r
  rw [List.length_cons]; omega
theorem yeh (l : List VR) (b : Int) (rs : List Rec) : (allV l b rs).length ≤ l.length + rs.length := by
 unfold allV kpV mdV
 rw [List.length_append]
 have h1 := List.length_filter_le (fun r : VR => decide (cnt rs r.k = 0)) l
 have h2 := yil b rs []
 rw [List.length_nil] at h2
 omega
theorem yic {a b : List VR} (h : a.Perm b) (hb : (zjd b).Nodup) : (zjd a).Nodup := (h.map _).nodup_iff.2 hb
theorem yhh {a b : List VR} (h : a.Perm b) (hb : (zjd b).Nodup) : srtV a = srtV b := by
 refine zob hb ((List.mergeSort_perm _ _).trans h) ?_
 refine (List.pairwise_mergeSort (le := fun x y : VR => decide (x.k ≤ y.k)) (fun x y z h1 h2 => decide_eq_true (List.le_trans (of_decide_eq_true h1) (of_decide_eq_true h2))) (fun x y => by rcases List.le_total x.k y.k with h | h <;> simp [h]) a).imp fun {x y} hxy => List.not_lt.2 (of_decide_eq_true hxy)
theorem ypz (m : List VR) : (kvM m).length = m.length := by simp [kvM]
theorem yqa (m : List VR) (j : Nat) (h : j < (kvM m).length) (h' : j < m.length) : (kvM m)[j] = (.str m[j].k,vrA m[j]) := by
 simp only [kvM,List.getElem_map]; rfl
theorem yir (m : List VR) (j : Nat) : (kvM m).eraseIdx j = kvM (m.eraseIdx j) := zuc kvR m j
theorem zpt : ∀ (l : List VR) (j : Nat) (h : j < l.length),l.Perm (l[j] :: l.eraseIdx j)
 | x :: r,0,h => List.Perm.refl _
 | x :: r,j + 1,h => by
  have h' : j < r.length := by simpa using h
  exact ((zpt r j h').cons x).trans (List.Perm.swap _ _ _)
section
set_option maxRecDepth 100000
set_option maxHeartbeats 16000000 in
theorem zqj : zbb Try.prog 10 zsu := by
 refine yfw (S := zfr) (SO := ziq) (T := ty) mixed ty_ok yoo yop Try.func10 (c := Try.f10.body.getD .skip) (by kernel_rfl) (fun xs pins hp _ => ?_)
 unfold zsu at hp ⊢
 split at hp
 ·rename_i n xs f b c p e s ys g _
  obtain ⟨hL,hR,⟨l,rfl⟩,rs,rfl⟩ := hp
  rw [List.length_map] at hL hR
  have hlp : (l.map vrA).length = l.length := by simp
  have hlr : (rs.map rv).length = rs.length := by simp
  have hL9 : l.length ≤ 9223372036854775807 := by omega
  have hR9 : rs.length ≤ 9223372036854775807 := by omega
  have hxl : ∃ q : List VR,l.map vrA = q.map vrA := ⟨l,rfl⟩
  have hxr : ∃ q : List Rec,rs.map rv = q.map rv := ⟨rs,rfl⟩
  have ht : top = 4294967296 := rfl
  rw [zau,zam]
  refine ⟨by simp,zcq,by kernel_rfl,?_⟩
  obtain ⟨E,hE⟩ : ∃ E,apE n l ⟨b,c,p,e,s,rs⟩ = E := ⟨_,rfl⟩
  unfold apA
  rw [hE]
  unfold apE at hE
  obtain ⟨C,hC⟩ : ∃ C,chV n l = C := ⟨_,rfl⟩
  obtain ⟨D,hD⟩ : ∃ D,batE b c p e s rs = D := ⟨_,rfl⟩
  have hD2 : bE ⟨b,c,p,e,s,rs⟩ = D := hD
  rw [hC,hD2] at hE
  unfold Try.f10
  by_cases h1 : C = 0
  ·have d1 : decide (C = 0) = true := decide_eq_true h1
   by_cases h2 : D = 0
   ·have d2 : decide (D = 0) = true := decide_eq_true h2
    by_cases h3 : b < n
    ·have d3 : decide (b < n) = true := decide_eq_true h3
     rw [if_pos h1,if_pos h2,if_pos h3] at hE
     subst hE
     simp only [go_sem,zal,↓reduceIte,lcT,ty,zfr,ziq,zcq,zhs,zsm,hlp,hlr,hL9,hR9,hxl,hxr,zau,zam,hC,hD,d1,d2,d3,vwA,List.map_nil]
     refine ⟨_,Weak.refl _,?_⟩
     simp only [go_sem,zal,↓reduceIte,lcT,ty,zfr,ziq,zcq,List.map_nil]
    ·have d3 : decide (b < n) = false := decide_eq_false h3
     rw [if_pos h1,if_pos h2,if_neg h3] at hE
     simp only at hE
     have hna := ycd (b := b) (rs := rs) (hC.trans h1)
     obtain ⟨G,hG⟩ : ∃ G,rs.foldl (mdK b) [] = G := ⟨_,rfl⟩
     obtain ⟨M2,hM2⟩ : ∃ M2,rs.foldl spK [] = M2 := ⟨_,rfl⟩
     have hAG : allV l b rs = kpV l rs ++ G := by unfold allV mdV; rw [hG]
     have hcnt : ∀ k,(gtK M2 k).getD 0 = cnt rs k := fun k => by unfold cnt; rw [hM2]
     simp only [go_sem,zal,↓reduceIte,lcT,ty,zfr,zcq,zhs,zsm,chgS,hlp,hlr,hL9,hR9,hR,hxl,hxr,zau,zam,hC,hD,d1,d2,d3,hG,hM2]
     refine zsp ⟨fun m σ => ∃ (i : Nat) (K : List VR),m = l.length - i ∧ i ≤ l.length ∧ K = kpV (l.take i) rs ∧
       σ = ⟨[.junk,.junk,.junk,.rf 4 6 0 0,.rf 5 2 0 0,.junk,.junk,.junk,.rf 6 0 0 0,.rf 7 0 0 0,.ms 8 4 0 K.length,.junk,.junk,.junk,.junk,.junk,.junk,.junk,.junk,.junk,.junk,.junk,.junk,.junk,.junk,.junk,.junk,.junk,.junk,.junk,.junk,.junk,.junk,.junk,.junk,.junk,.junk,.junk,.junk,.sg 4 (l.map vrA) f,.w (.int .i64 l.length),.w (.int .i64 i),.junk,.junk,.junk,.junk,.junk,.junk,.junk,.junk,.junk,.junk,.junk,.junk,.junk,.junk,.junk,.junk,.junk,.junk,.junk,.junk,.junk,.junk,.junk,.junk,.junk,.junk,.junk,.junk,.junk,.junk,.junk,.junk,.junk],
        [(4,.g 6 [.agg [.w (.int .i64 b),.w (.int .i64 c),.w (.int .i64 p),.w (.int .i64 e),.w (.int .i64 s),.sg 6 (rs.map rv) g]]),(5,.g 2 [.agg [.w (.int .i64 0),.sg 4 [] true]]),(6,.o (.mp (kvM G))),(7,.o (.mp (kvA M2))),(8,.g 4 (K.map vrA))],9⟩,?_,?_⟩
     ·refine ⟨_,_,(zgx 10 4 (.g 4 []) ⟨by decide,rfl⟩ (by exact trivial)).trans (zaf [0,1,2,3,12,20,164,165,252] rfl rfl rfl ?_ ?_),0,[],rfl,by omega,rfl,rfl⟩
      ·simp only [ssT,zah,zai,setSlot,gOf,AV.ren,renL,Blk.ren,Ax.look,Ax.put,reduceCtorEq,↓reduceIte,Nat.reduceEqDiff,Nat.reduceLT,Nat.reduceAdd,List.length_append,List.length_cons,List.length_nil,Option.some.injEq]; try simp
      ·simp only [ssT,zah,zai,setSlot,gOf,AV.ren,renL,Blk.ren,Ax.look,Ax.put,reduceCtorEq,↓reduceIte,Nat.reduceEqDiff,Nat.reduceLT,Nat.reduceAdd,List.length_append,List.length_cons,List.length_nil,Option.some.injEq]; try simp [renL]
     ·rintro m σ ⟨i,K,rfl,hi,hK,rfl⟩
      have e1 : ((i : Int) + 1 + 9223372036854775808) % 18446744073709551616 - 9223372036854775808 = ((i + 1 : Nat) : Int) := by omega
      have hKm : (K.map vrA).length = K.length := by simp
      have hKl : K.length ≤ i := by rw [hK]; exact Nat.le_trans (List.length_filter_le _ _) (by rw [List.length_take]; omega)
      by_cases hil : i < l.length
      ·have d4 : decide ((i : Int) < l.length) = true := decide_eq_true (by omega)
       have hs1 := zdb l i hil
       have htk : l.take (i + 1) = l.take i ++ [l[i]] := List.take_succ_eq_append_getElem hil
       obtain ⟨r,hr⟩ : ∃ r,l[i] = r := ⟨_,rfl⟩
       rw [hr] at hs1 htk
       obtain ⟨k,v,o,t⟩ := r
       have hs1 : slot (l.map vrA) i = .agg [.str k,.str v,.w (.int .i64 o),.w (.int .i64 t)] := hs1
       have hck := hcnt k
       have hat : K.map vrA ++ [.agg [.str k,.str v,.w (.int .i64 o),.w (.int .i64 t)]] = (K ++ [(⟨k,v,o,t⟩ : VR)]).map vrA := by rw [List.map_append]; rfl
       have hyes : cnt rs k = 0 → K ++ [(⟨k,v,o,t⟩ : VR)] = kpV (l.take (i + 1)) rs := fun h => by rw [htk,hK]; unfold kpV; rw [List.filter_append]; simp [h]
       have hno : ¬ cnt rs k = 0 → K = kpV (l.take (i + 1)) rs := fun h => by rw [htk,hK]; unfold kpV; rw [List.filter_append]; simp [h]
       have hfin : ∀ (K' : List VR),K' = kpV (l.take (i + 1)) rs → K'.length ≤ i + 1 := fun K' h => by rw [h]; exact Nat.le_trans (List.length_filter_le _ _) (by rw [List.length_take]; omega)
       rcases hx : ixK k M2 0 with _ | ⟨j,a⟩
       ·have hz : cnt rs k = 0 := by rw [← hck]; unfold gtK; rw [hx]; rfl
        simp only [go_sem,zal,↓reduceIte,lcT,ty,zfr,zcq,hlp,d4,hs1,e1,zfy,hx,zkz,hat,hKm,Int.toNat_natCast]
        repeat (refine And.intro (by first | omega | decide) ?_)
        refine ⟨l.length - (i + 1),_,by omega,zaf [0,1,2,3,4,5,6,7,113] rfl rfl rfl ?_ ?_,i + 1,K ++ [(⟨k,v,o,t⟩ : VR)],rfl,by omega,hyes hz,rfl⟩
        ·simp only [ssT,zah,zai,setSlot,gOf,AV.ren,renL,Blk.ren,Ax.look,Ax.put,reduceCtorEq,↓reduceIte,Nat.reduceEqDiff,Nat.reduceLT,Nat.reduceAdd,List.length_append,List.length_cons,List.length_nil,Option.some.injEq]; try simp
        ·simp only [ssT,zah,zai,setSlot,gOf,AV.ren,renL,Blk.ren,Ax.look,Ax.put,reduceCtorEq,↓reduceIte,Nat.reduceEqDiff,Nat.reduceLT,Nat.reduceAdd,List.length_append,List.length_cons,List.length_nil,Option.some.injEq,zfc]; try simp
       ·by_cases ha : a = 0
        ·have hz : cnt rs k = 0 := by rw [← hck]; unfold gtK; rw [hx]; exact ha
         have d5 : decide (a = 0) = true := decide_eq_true ha
         simp only [go_sem,zal,↓reduceIte,lcT,ty,zfr,zcq,hlp,d4,d5,hs1,e1,zfy,hx,zix,hat,hKm,Int.toNat_natCast]
         repeat (refine And.intro (by first | omega | decide) ?_)
         refine ⟨l.length - (i + 1),_,by omega,zaf [0,1,2,3,4,5,6,7,113] rfl rfl rfl ?_ ?_,i + 1,K ++ [(⟨k,v,o,t⟩ : VR)],rfl,by omega,hyes hz,rfl⟩
         ·simp only [ssT,zah,zai,setSlot,gOf,AV.ren,renL,Blk.ren,Ax.look,Ax.put,reduceCtorEq,↓reduceIte,Nat.reduceEqDiff,Nat.reduceLT,Nat.reduceAdd,List.length_append,List.length_cons,List.length_nil,Option.some.injEq]; try simp
         ·simp only [ssT,zah,zai,setSlot,gOf,AV.ren,renL,Blk.ren,Ax.look,Ax.put,reduceCtorEq,↓reduceIte,Nat.reduceEqDiff,Nat.reduceLT,Nat.reduceAdd,List.length_append,List.length_cons,List.length_nil,Option.some.injEq,zfc]; try simp
        ·have hz : ¬ cnt rs k = 0 := by rw [← hck]; unfold gtK; rw [hx]; exact ha
         have d5 : decide (a = 0) = false := decide_eq_false ha
         simp only [go_sem,zal,↓reduceIte,lcT,ty,zfr,zcq,hlp,d4,d5,hs1,e1,zfy,hx,zix,hat,hKm,Int.toNat_natCast]
         repeat (refine And.intro (by first | omega | decide) ?_)
         refine ⟨l.length - (i + 1),_,by omega,zaf [0,1,2,3,4,5,6,7,8] rfl rfl rfl ?_ ?_,i + 1,K,rfl,by omega,hno hz,rfl⟩
         ·simp only [ssT,zah,zai,setSlot,gOf,AV.ren,renL,Blk.ren,Ax.look,Ax.put,reduceCtorEq,↓reduceIte,Nat.reduceEqDiff,Nat.reduceLT,Nat.reduceAdd,List.length_append,List.length_cons,List.length_nil,Option.some.injEq]; try simp
         ·simp only [ssT,zah,zai,setSlot,gOf,AV.ren,renL,Blk.ren,Ax.look,Ax.put,reduceCtorEq,↓reduceIte,Nat.reduceEqDiff,Nat.reduceLT,Nat.reduceAdd,List.length_append,List.length_cons,List.length_nil,Option.some.injEq,zfc]; try simp
      ·have d4 : decide ((i : Int) < l.length) = false := decide_eq_false (by omega)
       have htk : l.take i = l := List.take_of_length_le (by omega)
       rw [htk] at hK
       simp only [go_sem,zal,↓reduceIte,lcT,ty,zfr,zcq,hlp,d4]
       refine ⟨_,Weak.refl _,?_⟩
       simp only [go_sem,zal,↓reduceIte,lcT,ty,zfr,zcq,hlp]
       have hpK : K = kpV l rs := hK
       have hGp : (G ++ K).Perm (allV l b rs) := by rw [hAG,hpK]; exact List.perm_append_comm
       refine zsp ⟨fun m σ => ∃ (M : List VR) (now : Option (AV × AV)) (vs : List VR),m = M.length ∧ (M ++ vs).Perm (allV l b rs) ∧
         σ = ⟨[.junk,.junk,.junk,.rf 4 6 0 0,.rf 5 2 0 0,.junk,.junk,.junk,.junk,.junk,.ms 6 4 0 vs.length,.junk,.junk,.junk,.junk,.junk,.junk,.junk,.junk,.junk,.junk,.junk,.junk,.junk,.junk,.junk,.junk,.junk,.junk,.junk,.junk,.junk,.junk,.junk,.junk,.junk,.junk,.junk,.junk,.junk,.junk,.junk,.junk,.junk,.junk,.junk,.junk,.junk,.junk,.junk,.junk,.junk,.junk,.junk,.junk,.junk,.rf 7 1 0 0,.junk,.junk,.junk,.junk,.junk,.junk,.junk,.junk,.junk,.junk,.junk,.junk,.junk,.junk,.junk,.junk,.junk,.junk],
          [(4,.g 6 [.agg [.w (.int .i64 b),.w (.int .i64 c),.w (.int .i64 p),.w (.int .i64 e),.w (.int .i64 s),.sg 6 (rs.map rv) g]]),(5,.g 2 [.agg [.w (.int .i64 0),.sg 4 [] true]]),(6,.g 4 (vs.map vrA)),(7,.o (.mi (kvM M) now))],8⟩,?_,?_⟩
       ·refine ⟨_,_,zaf [0,1,2,3,4,5,8,25] rfl rfl rfl ?_ ?_,G,none,K,rfl,hGp,rfl⟩
        ·simp only [ssT,zah,zai,setSlot,gOf,AV.ren,renL,Blk.ren,Ax.look,Ax.put,reduceCtorEq,↓reduceIte,Nat.reduceEqDiff,Nat.reduceLT,Nat.reduceAdd,List.length_append,List.length_cons,List.length_nil,Option.some.injEq]; try simp
        ·simp only [ssT,zah,zai,setSlot,gOf,AV.ren,renL,Blk.ren,Ax.look,Ax.put,reduceCtorEq,↓reduceIte,Nat.reduceEqDiff,Nat.reduceLT,Nat.reduceAdd,List.length_append,List.length_cons,List.length_nil,Option.some.injEq,zfc]; try simp
       ·rintro m σ ⟨M,now,vs,rfl,hpm,rfl⟩
        have hlv : (vs.map vrA).length = vs.length := by simp
        have hln : (allV l b rs).length ≤ 2000000 := by have := yeh l b rs; omega
        have hvl : M.length + vs.length = (allV l b rs).length := by have := hpm.length_eq; rwa [List.length_append] at this
        simp only [go_sem,zal,↓reduceIte,lcT,ty,zfr,ziq,zcq]
        refine ⟨fun he0 => ?_,fun j hj => ?_⟩
        ·have hM : M = [] := by cases M with
          | nil => rfl
          | cons p r => cases he0
         subst hM
         have hpv : vs.Perm (allV l b rs) := hpm
         have hlen := hpv.length_eq
         have hn0 : ∀ b0 : Bool,znf [.agg [.w (.int .i64 b),.w (.int .i64 c),.w (.int .i64 p),.w (.int .i64 e),.w (.int .i64 s),.sg 6 (rs.map rv) b0]] [] = ⟨True,.w (.int .i64 (nxI b c)),[]⟩ := fun _ => rfl
         by_cases h6 : vs.length = 0
         ·obtain rfl : vs = [] := List.eq_nil_of_length_eq_zero h6
          have hE0 : E = 0 := by rw [← hE,if_neg (by omega)]
          subst hE0
          have hs0 : srtV (allV l b rs) = [] := List.eq_nil_of_length_eq_zero (by rw [zbq]; omega)
          have d0 : decide ((4096 : Int) < ((0 : Nat) : Int)) = false := by decide
          have hc0 : coe ty 33 (.sg 4 [] false) = .sg 4 [] false := rfl
          refine ⟨_,znz 6 4 10 [] rfl rfl (by simp [slot,AV.ids]),?_⟩
          simp only [fgL,fgH,AV.fg,Blk.fg,Nat.reduceBEq,cond_true,cond_false,beq_self_eq_true,Bool.true_and,Bool.and_true,List.drop_zero,List.take_zero,List.length_nil,List.take_nil,List.drop_nil]
          simp only [go_sem,zal,↓reduceIte,lcT,ty,zfr,ziq,zcq,vwA,zmw,hn0,hs0,hc0,d0,List.map_nil]
          refine ⟨_,Weak.refl _,?_⟩
          simp only [go_sem,zal,↓reduceIte,lcT,ty,zfr,ziq,zcq,List.map_nil]
         ·refine ⟨_,Weak.refl _,?_⟩
          by_cases h5 : 4096 < vs.length
          ·have d5 : decide ((4096 : Int) < vs.length) = true := decide_eq_true (by omega)
           have hE9 : E = 9 := by rw [← hE,if_pos (by omega)]
           subst hE9
           simp only [go_sem,zal,↓reduceIte,lcT,ty,zfr,ziq,zcq,hlv,d5,vwA]
           refine ⟨_,Weak.refl _,?_⟩
           simp only [go_sem,zal,↓reduceIte,lcT,ty,zfr,ziq,zcq,List.map_nil]
          ·have d5 : decide ((4096 : Int) < vs.length) = false := decide_eq_false (by omega)
           have hE0 : E = 0 := by rw [← hE,if_neg (by omega)]
           subst hE0
           have hkv := yic hpv hna
           have hsv : srtV vs = srtV (allV l b rs) := yhh hpv hna
           have hv0 : 0 < vs.length := by omega
           have dv : decide (0 < vs.length) = true := decide_eq_true hv0
           have hxv : ∃ q : List VR,vs.map vrA = q.map vrA ∧ (zjd q).Nodup := ⟨vs,rfl,hkv⟩
           have hv6 : vs.length < 4611686018427387904 := by omega
           have hsl : ((srtV (allV l b rs)).map vrA).length = vs.length := by rw [List.length_map,zbq]; omega
           obtain ⟨Z,hZ⟩ : ∃ Z,srtV (allV l b rs) = Z := ⟨_,rfl⟩
           rw [hZ] at hsv hsl ⊢
           have hdle : decide (0 + vs.length ≤ (Z.map vrA).length) = true := decide_eq_true (by omega)
           have htk : (Z.map vrA).take vs.length = Z.map vrA := List.take_of_length_le (by omega)
           simp only [go_sem,zal,↓reduceIte,lcT,ty,zfr,ziq,zcq,hlv,d5,vwA,zmw,hv0,dv,hxv,hv6,zau,hsv,zan,hn0]
           refine ⟨_,ztd 6 4 4 5 (Z.map vrA) _ rfl (zan Z) rfl (by simp [slot,AV.ids]) (by simp [Blk.idsB,Blk.closed,closedL,AV.closed,idsL,AV.ids]),?_⟩
           simp only [fgL,fgH,AV.fg,Blk.fg,Nat.reduceBEq,cond_true,cond_false,hdle,Bool.and_true,beq_self_eq_true,Bool.true_and,List.drop_zero,htk]
           simp only [go_sem,zal,↓reduceIte,lcT,ty,zfr,ziq,zcq]
        ·have hj' : j < M.length := by rw [ypz] at hj; exact hj
         have hg := yqa M j hj hj'
         have hEr := yir M j
         have h9 := zpt M j hj'
         obtain ⟨q,hq⟩ : ∃ q,M[j] = q := ⟨_,rfl⟩
         rw [hq] at hg h9
         have hpm2 : (M.eraseIdx j ++ (vs ++ [q])).Perm (allV l b rs) := by
          have h4 : (M.eraseIdx j ++ (vs ++ [q])).Perm (q :: (M.eraseIdx j ++ vs)) := by
           rw [← List.append_assoc]; exact List.perm_append_singleton _ _
          exact h4.trans ((h9.symm.append_right vs).trans hpm)
         have hsh : (M.eraseIdx j).length < M.length := by rw [List.length_eraseIdx,if_pos hj']; omega
         obtain ⟨k,v,o,t⟩ := q
         have hg : (kvM M)[j] = (.str k,.agg [.str k,.str v,.w (.int .i64 o),.w (.int .i64 t)]) := hg
         have hat : vs.map vrA ++ [.agg [.str k,.str v,.w (.int .i64 o),.w (.int .i64 t)]] = (vs ++ [(⟨k,v,o,t⟩ : VR)]).map vrA := by rw [List.map_append]; rfl
         simp only [go_sem,zal,↓reduceIte,lcT,ty,zfr,ziq,zcq,hg,hEr,ht,hlv,hat]
         repeat (refine And.intro (by first | omega | decide) ?_)
         refine ⟨(M.eraseIdx j).length,_,hsh,zaf [0,1,2,3,4,5,80,7] rfl rfl rfl ?_ ?_,M.eraseIdx j,some (.str k,.agg [.str k,.str v,.w (.int .i64 o),.w (.int .i64 t)]),vs ++ [(⟨k,v,o,t⟩ : VR)],rfl,hpm2,rfl⟩
         ·simp only [ssT,zah,zai,setSlot,gOf,AV.ren,renL,Blk.ren,Ax.look,Ax.put,reduceCtorEq,↓reduceIte,Nat.reduceEqDiff,Nat.reduceLT,Nat.reduceAdd,List.length_append,List.length_cons,List.length_nil,Option.some.injEq]; try simp
         ·simp only [ssT,zah,zai,setSlot,gOf,AV.ren,renL,Blk.ren,Ax.look,Ax.put,reduceCtorEq,↓reduceIte,Nat.reduceEqDiff,Nat.reduceLT,Nat.reduceAdd,List.length_append,List.length_cons,List.length_nil,Option.some.injEq,zfc]; try simp
   ·have d2 : decide (D = 0) = false := decide_eq_false h2
    rw [if_pos h1,if_neg h2] at hE
    subst hE
    simp only [go_sem,zal,↓reduceIte,lcT,ty,zfr,ziq,zcq,zhs,zsm,hlp,hlr,hL9,hR9,hxl,hxr,zau,zam,hC,hD,d1,d2,vwA,if_neg h2,List.map_nil]
    refine ⟨_,Weak.refl _,?_⟩
    simp only [go_sem,zal,↓reduceIte,lcT,ty,zfr,ziq,zcq,List.map_nil]
  ·have d1 : decide (C = 0) = false := decide_eq_false h1
   rw [if_neg h1] at hE
   subst hE
   simp only [go_sem,zal,↓reduceIte,lcT,ty,zfr,ziq,zcq,zhs,hlp,hL9,hxl,zau,hC,d1,vwA,if_neg h1,List.map_nil]
   refine ⟨_,Weak.refl _,?_⟩
   simp only [go_sem,zal,↓reduceIte,lcT,ty,zfr,ziq,zcq,List.map_nil]
 ·exact hp.elim
end
end Go.Proofs.Ytebacgkeoefnkaa
namespace Go.Proofs.Ytebacgkeoefnkaa
open Ax
def g0 (bs : List UInt8) (e : Int) : Nat := (yta 1 bs e).toNat
def gb1 (bs : List UInt8) (e : Int) := ytb 1 bs e
def ge1 (bs : List UInt8) (e : Int) := ytc 1 bs e
def gd (bs : List UInt8) (e : Int) : Int := numN (gb1 bs e) (ge1 bs e)
def gb2 (bs : List UInt8) (e : Int) := numL (gb1 bs e) (ge1 bs e)
def ge2 (bs : List UInt8) (e : Int) := numE (gb1 bs e) (ge1 bs e)
def gt (bs : List UInt8) (e : Int) : Int := numN (gb2 bs e) (ge2 bs e)
def gb3 (bs : List UInt8) (e : Int) := numL (gb2 bs e) (ge2 bs e)
def ge3 (bs : List UInt8) (e : Int) := numE (gb2 bs e) (ge2 bs e)
def gk (bs : List UInt8) (e : Int) : Bool := decide (g0 bs e % 2 = 1)
def gdd (bs : List UInt8) (e : Int) : Bool := decide (g0 bs e / 2 % 2 = 1)
def gkey (bs : List UInt8) (e : Int) : List UInt8 := if gk bs e then rtS' 64 (gb3 bs e) (ge3 bs e) else []
def gb4 (bs : List UInt8) (e : Int) : List UInt8 := if gk bs e then rtL 64 (gb3 bs e) (ge3 bs e) else gb3 bs e
def ge4 (bs : List UInt8) (e : Int) : Int := if gk bs e then rtE 64 (gb3 bs e) (ge3 bs e) else ge3 bs e
def gval (bs : List UInt8) (e : Int) : List UInt8 := if gdd bs e then [] else rtS' 512 (gb4 bs e) (ge4 bs e)
def ge5 (bs : List UInt8) (e : Int) : Int := if gdd bs e then ge4 bs e else rtE 512 (gb4 bs e) (ge4 bs e)
def gerr (bs : List UInt8) (e : Int) : Int :=
 if ge5 bs e ≠ 0 then ge5 bs e else if 4 ≤ g0 bs e ∨ rchk (gd bs e) (gt bs e) (gk bs e) (gkey bs e) (gdd bs e) (gval bs e) ≠ 0 then 4 else 0
section
set_option maxRecDepth 100000
set_option maxHeartbeats 2000000 in
end
end Go.Proofs.Ytebacgkeoefnkaa
