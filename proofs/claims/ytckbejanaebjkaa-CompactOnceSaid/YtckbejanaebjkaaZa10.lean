/- What the proofs of this seat stand on; it asks nothing. -/
import Derived.Test.YtckbejanaebjkaaZa09
set_option linter.unusedSimpArgs false
set_option linter.unusedVariables false
namespace Go.Proofs.Ytckbejanaebjkaa
open Ax
def rA17 : Rec := ⟨0,0,true,[97],false,[118]⟩
def rB17 : Rec := ⟨1,0,true,[98],false,[118]⟩
def b1D : Bat := ⟨0,2,0,0,0,[rA17,rB17]⟩
def b2D : Bat := ⟨2,1,0,0,0,[rA17]⟩
def c1D : Bat := ⟨0,2,0,0,0,[rB17]⟩
def lD : List Bat := [b1D,b2D]
def cD : List Bat := [c1D,b2D]
theorem qD1 : clnL lD 9 3 = cD := by rfl
theorem qD2 : cntL cD = 2 := by rfl
theorem qD3 : zbb lD = [([97],2),([98],1)] := by rfl
theorem qD4 : dirL lD 9 3 = true := by rfl
theorem qD5 : dirL cD 9 3 = false := by rfl
theorem qD6 : kpB lD 0 1 9 3 = true := by rfl
theorem qD7 : kpB lD 0 0 9 3 = false := by rfl
theorem kD1 : isBk (bfr lD) := isBk_bfr (by decide)
theorem kD2 : isBk (bfr cD) := isBk_bfr (by decide)
theorem vD1 : [AV.agg [.w (.int .i64 0),.w (.int .i64 2),.w (.int .i64 0),.w (.int .i64 0),.w (.int .i64 0),.sg 6 [.agg [.w (.int .i64 0),.w (.int .i64 0),.w (.bool true),.str [97],.w (.bool false),.str [118]],.agg [.w (.int .i64 1),.w (.int .i64 0),.w (.bool true),.str [98],.w (.bool false),.str [118]]] false],
   .agg [.w (.int .i64 2),.w (.int .i64 1),.w (.int .i64 0),.w (.int .i64 0),.w (.int .i64 0),.sg 6 [.agg [.w (.int .i64 0),.w (.int .i64 0),.w (.bool true),.str [97],.w (.bool false),.str [118]]] false]] = bfr lD := rfl
def Saw17 (f : FuncId) : Option zar :=
 match f with
 | 18 => some of17S
 | 12 => some cln17S
 | 19 => some cnt17S
 | 16 => some dir17S
 | 10 => some kps17S
 | 8 => some zdt
 | _ => none
theorem Saw17_ok : Fns Try.prog Saw17 := by
 intro f s h
 unfold Saw17 at h
 split at h
 · injection h with h; subst h; exact ⟨⟨_,Try.func18,by kernel_rfl,by kernel_rfl⟩,of17_sound⟩
 · injection h with h; subst h; exact ⟨⟨_,Try.func12,by kernel_rfl,by kernel_rfl⟩,cln17_sound⟩
 · injection h with h; subst h; exact ⟨⟨_,Try.func19,by kernel_rfl,by kernel_rfl⟩,cnt17_sound⟩
 · injection h with h; subst h; exact ⟨⟨_,Try.func16,by kernel_rfl,by kernel_rfl⟩,dir17_sound⟩
 · injection h with h; subst h; exact ⟨⟨_,Try.func10,by kernel_rfl,by kernel_rfl⟩,kps17_sound⟩
 · injection h with h; subst h; exact ⟨⟨_,Try.func8,by kernel_rfl,by kernel_rfl⟩,zei⟩
 · cases h
def aw17Pl : XPlan := fun id => match id with
 | 2 => .frz [5,8,1]
 | _ => .std
section
set_option maxRecDepth 100000
set_option maxHeartbeats 8000000 in
theorem awake17_sound : zbm Try.prog 7 yesS := by
 refine fn_soundOK (S := Saw17) (SO := noO) (T := ty) zcj ty_ok Saw17_ok noO_ok Try.func7 (c := Try.f7.body.getD .skip) (by kernel_rfl) (fun xs pins hp _ => ?_)
 unfold yesS at hp ⊢
 split at hp
 · refine ⟨by simp,aw17Pl,by kernel_rfl,?_⟩
   have l1 : (bfr lD).length = 2 := rfl
   have l2 : (bfr cD).length = 2 := rfl
   have u1 := ubat_bfr lD
   have u2 := ubat_bfr cD
   have b1 := isBk_isBs kD1
   have k1 : ∃ es : List (Bat × Bool),bfr lD = es.map bvp ∧ ∀ p ∈ es,p.1.rs.length ≤ 1000000 := kD1
   have kd1 := kD1
   have kd2 := kD2
   have s1 : slot (bfr cD) 0 = .agg [.w (.int .i64 0),.w (.int .i64 2),.w (.int .i64 0),.w (.int .i64 0),.w (.int .i64 0),.sg 6 [.agg [.w (.int .i64 1),.w (.int .i64 0),.w (.bool true),.str [98],.w (.bool false),.str [118]]] false] := rfl
   have c1 : ∀ h,coe ty 22 (.sg 6 (bfr lD) h) = .sg 6 (bfr lD) h := fun h => rfl
   have c2 : ∀ h,coe ty 22 (.sg 6 (bfr cD) h) = .sg 6 (bfr cD) h := fun h => rfl
   have ix : ixK [97] [([97],2),([98],1)] 0 = some (0,2) := rfl
   have dd : ∀ n : Int,decide (n = n) = true := fun n => decide_eq_true rfl
   have ds : ∀ n : List UInt8,decide (n = n) = true := fun n => decide_eq_true rfl
   have tk : List.take 2 (bfr lD) = bfr lD := rfl
   have cl := closed_bfr lD
   have z1 : decide (((2 : Nat) : Int) = 2) = true := rfl
   have z2 : decide (((1 : Nat) : Int) = 1) = true := rfl
   have t0 : (0 : Int).toNat = 0 := rfl
   unfold Try.f7
   simp (config := { maxSteps := 3000000 }) only [go_sem,zac,Nat.reduceAdd,Nat.reduceSub,Nat.reduceMul,Int.reduceToNat,reduceCtorEq,↓reduceIte,Int.reducePow,Nat.reducePow,Int.reduceMod,Nat.reduceLeDiff,Int.reduceLE,Int.reduceNe,Int.reduceEq,Nat.reduceEqDiff,Nat.reduceLT,Nat.reduceBEq,List.map_cons,List.map_nil,List.toList_toArray,Array.toList_append,Option.toArray_some,Option.toArray_none,Bool.and_self,ty,Saw17,aw17Pl,of17S,cln17S,cnt17S,dir17S,kps17S,zdt,l1,l2,u1,u2,b1,k1,kd1,kd2,s1,c1,c2,tk,cl,ix,dd,ds,z1,z2,t0,vD1,qD1,qD2,qD3,qD4,qD5,qD6,qD7,zfm,mpI_some,fillS,fillG,fillI]
   refine ⟨_,Weak.refl _,?_⟩
   simp only [go_sem,zac,Nat.reduceAdd,Nat.reduceSub,Nat.reduceMul,Int.reduceToNat,reduceCtorEq,↓reduceIte,Int.reducePow,Nat.reducePow,Int.reduceMod,Nat.reduceLeDiff,Int.reduceLE,Int.reduceNe,Int.reduceEq,Nat.reduceEqDiff,Nat.reduceLT,Nat.reduceBEq,List.map_cons,List.map_nil,List.toList_toArray,Array.toList_append,Option.toArray_some,Option.toArray_none,Bool.and_self,ty]
 · exact hp.elim
end
end Go.Proofs.Ytckbejanaebjkaa
namespace Go.Proofs.Ytckbejanaebjkaa
open Ax
def dR17 (key : List UInt8) (b : Int) (s : Int × Bool) (r : Rec) : Int × Bool := if r.k = true ∧ r.key = key ∧ (s.2 = false ∨ s.1 < offI b r.d) then (offI b r.d,true) else s
def dB17 (key : List UInt8) (s : Int × Bool) (x : Bat) : Int × Bool := x.rs.foldl (dR17 key x.b) s
def dL17 (key : List UInt8) (l : List Bat) : Int × Bool := l.foldl (dB17 key) (0,false)
def tellO (s : Int × Bool) : Option Int := if s.2 then some s.1 else none
theorem gtK_stK (key : List UInt8) (b : Int) (m : KM) (s : Int × Bool) (r : Rec) (h : gtK m key = tellO s ∧ (s.2 = false → s.1 = 0)) : gtK (stK b m r) key = tellO (dR17 key b s r) ∧ ((dR17 key b s r).2 = false → (dR17 key b s r).1 = 0) := by
 obtain ⟨d,t,k,key',dd,val⟩ := r
 obtain ⟨a,hb⟩ := s
 obtain ⟨h1,h2⟩ := h
 unfold stK dR17
 simp only
 cases k with
 | false => simpa using ⟨h1,h2⟩
 | true =>
   simp only [if_true,true_and]
   by_cases hk : key' = key
   · subst hk
     rw [h1]
     cases hb with
     | false =>
       simp [tellO,gtK_ptK]
     | true =>
       by_cases c : a < offI b d
       · simp [tellO,gtK_ptK,c]
       · simp only [tellO,if_true,c,if_false,true_and]
         refine ⟨?_,by simp⟩
         rw [h1]; simp [tellO,c]
   · have hk2 : ¬ key = key' := fun h => hk h.symm
     simp only [hk,false_and,if_false]
     refine ⟨?_,h2⟩
     split
     · split
       · rw [gtK_ptK,if_neg hk2]; exact h1
       · exact h1
     · rw [gtK_ptK,if_neg hk2]; exact h1
theorem gtK_stKB (key : List UInt8) (b : Int) : ∀ (rs : List Rec) (m : KM) (s : Int × Bool),gtK m key = tellO s ∧ (s.2 = false → s.1 = 0) → gtK (rs.foldl (stK b) m) key = tellO (rs.foldl (dR17 key b) s) ∧ ((rs.foldl (dR17 key b) s).2 = false → (rs.foldl (dR17 key b) s).1 = 0)
 | [],_,_,h => h
 | r :: rs,m,s,h => gtK_stKB key b rs _ _ (gtK_stK key b m s r h)
theorem gtK_all (key : List UInt8) : ∀ (l : List Bat) (m : KM) (s : Int × Bool),gtK m key = tellO s ∧ (s.2 = false → s.1 = 0) → gtK (l.foldl stKB m) key = tellO (l.foldl (dB17 key) s) ∧ ((l.foldl (dB17 key) s).2 = false → (l.foldl (dB17 key) s).1 = 0)
 | [],_,_,h => h
 | x :: l,m,s,h => gtK_all key l _ _ (gtK_stKB key x.b x.rs m s h)
theorem gtK_last (key : List UInt8) (l : List Bat) : gtK (zbb l) key = tellO (dL17 key l) ∧ ((dL17 key l).2 = false → (dL17 key l).1 = 0) :=
 gtK_all key l [] (0,false) ⟨rfl,fun _ => rfl⟩
end Go.Proofs.Ytckbejanaebjkaa
namespace Go.Proofs.Ytckbejanaebjkaa
open Ax
theorem all_rvJ : ∀ (xs : List AV),(∀ x ∈ xs,∃ r : Rec,x = rv r) → ∃ rs : List Rec,xs = rs.map rv
 | [],_ => ⟨[],rfl⟩
 | x :: xs,h => by
   obtain ⟨r,rfl⟩ := h x (by simp)
   obtain ⟨rs,rfl⟩ := all_rvJ xs (fun y hy => h y (by simp [hy]))
   exact ⟨r :: rs,rfl⟩
theorem all_bvpJ : ∀ (xs : List AV),(∀ x ∈ xs,∃ p : Bat × Bool,x = bvp p ∧ p.1.rs.length ≤ 9223372036854775807) → ∃ es : List (Bat × Bool),xs = es.map bvp ∧ ∀ p ∈ es,p.1.rs.length ≤ 9223372036854775807
 | [],_ => ⟨[],rfl,by simp⟩
 | x :: xs,h => by
   obtain ⟨p,rfl,hp⟩ := h x (by simp)
   obtain ⟨es,rfl,he⟩ := all_bvpJ xs (fun y hy => h y (by simp [hy]))
   refine ⟨p :: es,rfl,?_⟩
   intro q hq
   rcases List.mem_cons.1 hq with rfl | hq
   · exact hp
   · exact he q hq
theorem arg_batsD {j : Nat} {x : AV} (h : Arg ty (j + 6) 22 x) : ∃ (xs : List AV) (f : Bool),x = .sg 6 xs f ∧ xs.length ≤ 9223372036854775807 ∧ isBs xs := by
 obtain ⟨i,ls,hi,hs,rfl⟩ := h
 simp only [ty] at hi
 injection hi with hi
 subst hi
 simp only [Shape,ty,ShapeF,isFlatI] at hs
 obtain ⟨xs,f1,rfl,hx,hxs⟩ := hs
 have hm : maxLen = 9223372036854775807 := by decide
 obtain ⟨es,rfl,hes⟩ := all_bvpJ xs (fun x hxm => by
   obtain ⟨l,⟨k1,s1,rfl,⟨n1,rfl,v1⟩,k2,s2,rfl,⟨n2,rfl,v2⟩,k3,s3,rfl,⟨n3,rfl,v3⟩,k4,s4,rfl,⟨n4,rfl,v4⟩,k5,s5,rfl,⟨n5,rfl,v5⟩,k6,s6,rfl,⟨ys,f,rfl,hl,hy⟩,rfl⟩,_,rfl⟩ := hxs x hxm
   obtain ⟨rs,rfl⟩ := all_rvJ ys (fun y hym => by
     obtain ⟨l,⟨l1,r1,rfl,⟨m1,rfl,w1⟩,l2,r2,rfl,⟨m2,rfl,w2⟩,l3,r3,rfl,⟨m3,rfl⟩,l4,r4,rfl,⟨m4,rfl,w4⟩,l5,r5,rfl,⟨m5,rfl⟩,l6,r6,rfl,⟨m6,rfl,w6⟩,rfl⟩,_,rfl⟩ := hy y hym
     exact ⟨⟨m1,m2,m3,m4,m5,m6⟩,rfl⟩)
   rw [List.length_map] at hl
   exact ⟨⟨⟨n1,n2,n3,n4,n5,rs⟩,f⟩,rfl,by simp only; omega⟩)
 exact ⟨es.map bvp,f1,rfl,by omega,es,rfl,hes⟩
theorem arg_intD {n : Nat} {x : AV} (h : Arg ty (n + 1) 3 x) : ∃ m : Int,x = .w (.int .i64 m) := by
 obtain ⟨i,ls,hi,hs,rfl⟩ := h
 simp only [ty] at hi
 injection hi with hi
 subst hi
 simp only [Shape,ty,ShapeF] at hs
 obtain ⟨m,rfl,_⟩ := hs
 exact ⟨m,rfl⟩
theorem tellO_true {s : Int × Bool} (h : s.2 = true) : tellO s = some s.1 := by
 obtain ⟨a,b⟩ := s
 obtain rfl : b = true := h
 rfl
theorem lgt_facts {xs : List AV} (hb : isBs xs) (h : lgt17 (xs.map ubat)) : xs.length ≤ 16 ∧ ∃ es : List (Bat × Bool),xs = es.map bvp ∧ (∀ p ∈ es,p.1.rs.length ≤ 40) ∧ ∀ p ∈ es,okB17 p.1 := by
 obtain ⟨es,rfl,he⟩ := hb
 unfold lgt17 at h
 rw [zct] at h
 refine ⟨by have := h.1.1; simp at this ⊢; omega,es,rfl,fun p hp => (h.1.2 p.1 (List.mem_map.2 ⟨p,hp,rfl⟩)).1,fun p hp => h.2 p.1 (List.mem_map.2 ⟨p,hp,rfl⟩)⟩
end Go.Proofs.Ytckbejanaebjkaa
namespace Go.Proofs.Ytckbejanaebjkaa
open Ax
instance recDecD : DecidableEq Rec := fun a b => decidable_of_iff (a.d = b.d ∧ a.t = b.t ∧ a.k = b.k ∧ a.key = b.key ∧ a.dd = b.dd ∧ a.val = b.val) (by cases a; cases b; simp)
theorem dR_mono (key : List UInt8) (b : Int) (s : Int × Bool) (r : Rec) (h : s.2 = true) : (dR17 key b s r).2 = true ∧ s.1 ≤ (dR17 key b s r).1 := by
 unfold dR17
 split
 · rename_i c
   refine ⟨rfl,?_⟩
   rcases c.2.2 with h1 | h1
   · rw [h] at h1; cases h1
   · simp only; omega
 · exact ⟨h,Int.le_refl _⟩
theorem dR_hit (b : Int) (s : Int × Bool) (r : Rec) (h : r.k = true) : (dR17 r.key b s r).2 = true ∧ offI b r.d ≤ (dR17 r.key b s r).1 := by
 unfold dR17
 split
 · exact ⟨rfl,Int.le_refl _⟩
 · rename_i c
   have h2 : s.2 = true := by cases h3 : s.2 with | true => rfl | false => exact absurd ⟨h,rfl,.inl h3⟩ c
   refine ⟨h2,?_⟩
   rcases Int.lt_or_le s.1 (offI b r.d) with h3 | h3
   · exact absurd ⟨h,rfl,.inr h3⟩ c
   · exact h3
theorem dRs_mono (key : List UInt8) (b : Int) : ∀ (rs : List Rec) (s : Int × Bool),s.2 = true → (rs.foldl (dR17 key b) s).2 = true ∧ s.1 ≤ (rs.foldl (dR17 key b) s).1
 | [],s,h => ⟨h,Int.le_refl _⟩
 | r :: rs,s,h => by
   have h1 := dR_mono key b s r h
   have h2 := dRs_mono key b rs _ h1.1
   exact ⟨h2.1,Int.le_trans h1.2 h2.2⟩
theorem dRs_hit (b : Int) (r : Rec) (h : r.k = true) : ∀ (rs : List Rec) (s : Int × Bool),r ∈ rs → (rs.foldl (dR17 r.key b) s).2 = true ∧ offI b r.d ≤ (rs.foldl (dR17 r.key b) s).1
 | q :: rs,s,hm => by
   rcases List.mem_cons.1 hm with rfl | hm
   · have h1 := dR_hit b s r h
     have h2 := dRs_mono r.key b rs _ h1.1
     exact ⟨h2.1,Int.le_trans h1.2 h2.2⟩
   · exact dRs_hit b r h rs _ hm
theorem dBs_mono (key : List UInt8) : ∀ (l : List Bat) (s : Int × Bool),s.2 = true → (l.foldl (dB17 key) s).2 = true ∧ s.1 ≤ (l.foldl (dB17 key) s).1
 | [],s,h => ⟨h,Int.le_refl _⟩
 | x :: l,s,h => by
   have h1 := dRs_mono key x.b x.rs s h
   have h2 := dBs_mono key l _ h1.1
   exact ⟨h2.1,Int.le_trans h1.2 h2.2⟩
theorem dBs_hit (x : Bat) (r : Rec) (hr : r ∈ x.rs) (h : r.k = true) : ∀ (l : List Bat) (s : Int × Bool),x ∈ l → (l.foldl (dB17 r.key) s).2 = true ∧ offI x.b r.d ≤ (l.foldl (dB17 r.key) s).1
 | y :: l,s,hm => by
   rcases List.mem_cons.1 hm with rfl | hm
   · have h1 := dRs_hit x.b r h x.rs s hr
     have h2 := dBs_mono r.key l _ h1.1
     exact ⟨h2.1,Int.le_trans h1.2 h2.2⟩
   · exact dBs_hit x r hr h l _ hm
def cl1 (M : KM) (now g : Int) (x : Bat) : List Bat := if empB (clnB M now g x) then [] else [clnB M now g x]
theorem cln_flat (M : KM) (now g : Int) : ∀ (l a : List Bat),l.foldl (clnS M now g) a = a ++ l.flatMap (cl1 M now g)
 | [],a => by simp
 | x :: l,a => by
   rw [List.foldl_cons,cln_flat M now g l,List.flatMap_cons]
   unfold clnS cl1
   split <;> simp
end Go.Proofs.Ytckbejanaebjkaa
namespace Go.Proofs.Ytckbejanaebjkaa
open Ax
theorem bfld_factsD {b c p e s n : Int} (h : bfld b c p e s n = 0) : 1 ≤ c ∧ c ≤ 32 ∧ 0 ≤ b ∧ b ≤ 4611686018427387903 - c := by
 unfold bfld at h
 split at h
 · exact absurd h (by decide)
 · rename_i h1; clear h; omega
theorem bE_factsD {x : Bat} (h : bE x = 0) : (1 ≤ x.c ∧ x.c ≤ 32 ∧ 0 ≤ x.b ∧ x.b ≤ 4611686018427387903 - x.c) ∧ layE x.c (-1) x.rs = 0 := by
 have h1 : bfld x.b x.c x.p x.e x.s x.rs.length = 0 := by
   unfold bE batE at h
   split at h
   · assumption
   · exact h
 refine ⟨bfld_factsD h1,?_⟩
 unfold bE batE at h
 rw [if_pos h1] at h
 split at h
 · assumption
 · exact h
theorem lay_rise (c : Int) : ∀ (rs : List Rec) (a : Int),layE c a rs = 0 → (∀ r ∈ rs,a < r.d ∧ r.d < c) ∧ rs.Pairwise (fun r q => r.d < q.d)
 | [],a,_ => ⟨fun r h => (by cases h),List.Pairwise.nil⟩
 | r :: rs,a,h => by
   rw [layE_cons] at h
   split at h
   · split at h
     · cases h
     · rename_i h2
       obtain ⟨h3,h4⟩ := lay_rise c rs r.d h
       refine ⟨fun q hq => ?_,List.Pairwise.cons (fun q hq => (h3 q hq).1) h4⟩
       rcases List.mem_cons.1 hq with rfl | hq
       · omega
       · have := h3 q hq; omega
   · rename_i h2; exact absurd h h2
def nxD (x : Bat) : Int := wrI (x.b + x.c)
def riseL : Int → List Bat → Prop
 | _,[] => True
 | a,x :: l => bE x = 0 ∧ a ≤ x.b ∧ riseL (nxD x) l
def offL (x : Bat) : List (Int × Rec) := x.rs.map fun r => (offI x.b r.d,r)
def zaw (l : List Bat) : List (Int × Rec) := l.flatMap offL
theorem offI_of {b d : Int} (hb : 0 ≤ b) (hb2 : b ≤ 4611686018427387903) (hd : 0 ≤ d) (hd2 : d ≤ 1000) : offI b d = b + d := by unfold offI; omega
theorem nxD_of {x : Bat} (h : bE x = 0) : nxD x = x.b + x.c := by
 have := (bE_factsD h).1
 unfold nxD wrI; omega
theorem offL_of {x : Bat} (h : bE x = 0) : (∀ p ∈ offL x,x.b ≤ p.1 ∧ p.1 < nxD x) ∧ (offL x).Pairwise (fun p q => p.1 < q.1) := by
 obtain ⟨h1,h2⟩ := bE_factsD h
 obtain ⟨h3,h4⟩ := lay_rise x.c x.rs (-1) h2
 have he : ∀ r ∈ x.rs,offI x.b r.d = x.b + r.d := fun r hr => by have := h3 r hr; exact offI_of (by omega) (by omega) (by omega) (by omega)
 refine ⟨fun p hp => ?_,?_⟩
 · obtain ⟨r,hr,rfl⟩ := List.mem_map.1 hp
   have := h3 r hr
   rw [nxD_of h]
   simp only [he r hr]
   omega
 · unfold offL
   rw [List.pairwise_map]
   refine List.Pairwise.imp_of_mem ?_ h4
   intro r q hr hq hlt
   simp only [he r hr,he q hq]
   omega
theorem riseL_offs : ∀ (l : List Bat) (a : Int),riseL a l → (∀ p ∈ zaw l,a ≤ p.1) ∧ (zaw l).Pairwise (fun p q => p.1 < q.1)
 | [],a,_ => ⟨fun p h => (by cases h),List.Pairwise.nil⟩
 | x :: l,a,⟨h1,h2,h3⟩ => by
   obtain ⟨h4,h5⟩ := offL_of h1
   obtain ⟨h6,h7⟩ := riseL_offs l (nxD x) h3
   have hnx := nxD_of h1
   have hf := (bE_factsD h1).1
   have e : zaw (x :: l) = offL x ++ zaw l := by unfold zaw; rw [List.flatMap_cons]
   rw [e]
   refine ⟨fun p hp => ?_,List.pairwise_append.2 ⟨h5,h7,fun p hp q hq => ?_⟩⟩
   · rcases List.mem_append.1 hp with h | h
     · have := h4 p h; omega
     · have := h6 p h; omega
   · have := h4 p hp; have := h6 q hq; omega
def kepL (M : KM) (now g : Int) (l : List Bat) : List (Int × Rec) := (zaw l).filter fun p => !p.2.k || (decide ((gtK M p.2.key).getD 0 = p.1) && !(p.2.dd && lateB p.2.t now g))
theorem kepB_off (M : KM) (now g : Int) (x : Bat) : offL (clnB M now g x) = (offL x).filter fun p => !p.2.k || (decide ((gtK M p.2.key).getD 0 = p.1) && !(p.2.dd && lateB p.2.t now g)) := by
 unfold offL clnB
 simp only
 rw [List.filter_map]
 rfl
theorem kep_off (M : KM) (now g : Int) : ∀ (l : List Bat),zaw (l.flatMap (cl1 M now g)) = kepL M now g l
 | [] => rfl
 | x :: l => by
   have h := kep_off M now g l
   unfold kepL at h ⊢
   have e : zaw (x :: l) = offL x ++ zaw l := by unfold zaw; rw [List.flatMap_cons]
   rw [e,List.filter_append,← h,← kepB_off,List.flatMap_cons]
   have e2 : ∀ a b : List Bat,zaw (a ++ b) = zaw a ++ zaw b := fun a b => by unfold zaw; rw [List.flatMap_append]
   rw [e2]
   congr 1
   unfold cl1
   split
   · rename_i hE
     have : (clnB M now g x).rs = [] := List.eq_nil_of_length_eq_zero hE.1
     unfold offL
     rw [this]; rfl
   · unfold zaw; simp
theorem kep_keys {l : List Bat} {a now g : Int} (h : riseL a l) : ((kepL (zbb l) now g l).filter (fun p => p.2.k)).Pairwise (fun p q => p.2.key ≠ q.2.key) := by
 have hp := (riseL_offs l a h).2
 have h2 : ((kepL (zbb l) now g l).filter (fun p => p.2.k)).Pairwise (fun p q => p.1 < q.1) := (hp.filter _).filter _
 refine List.Pairwise.imp_of_mem ?_ h2
 intro p q hpm hqm hlt he
 have tell : ∀ p ∈ (kepL (zbb l) now g l).filter (fun p => p.2.k),(gtK (zbb l) p.2.key).getD 0 = p.1 := by
   intro p hp
   obtain ⟨h3,h4⟩ := List.mem_filter.1 hp
   have h5 := (List.mem_filter.1 h3).2
   rw [h4] at h5
   simp only [Bool.not_true,Bool.false_or,Bool.and_eq_true,decide_eq_true_eq] at h5
   exact h5.1
 have h3 := tell p hpm
 have h4 := tell q hqm
 rw [he] at h3
 omega
end Go.Proofs.Ytckbejanaebjkaa
namespace Go.Proofs.Ytckbejanaebjkaa
open Ax
theorem nodup_len {α : Type} [DecidableEq α] : ∀ (xs ys : List α),xs.Nodup → (∀ x ∈ xs,x ∈ ys) → xs.length ≤ ys.length
 | [],ys,_,_ => Nat.zero_le _
 | x :: xs,ys,hn,h => by
   have hx := h x (List.mem_cons_self ..)
   rw [List.nodup_cons] at hn
   have h1 := nodup_len xs (ys.erase x) hn.2 (fun y hy => (List.mem_erase_of_ne (by rintro rfl; exact hn.1 hy)).2 (h y (List.mem_cons_of_mem _ hy)))
   rw [List.length_erase_of_mem hx] at h1
   have := List.length_pos_of_mem hx
   simp only [List.length_cons]; omega
theorem gtK_none : ∀ (m : KM) (k : List UInt8),gtK m k = none ↔ k ∉ m.map Prod.fst
 | [],k => by simp [gtK,ixK]
 | p :: m,k => by
   rw [gtK_cons]
   by_cases h : k = p.1
   · simp [h]
   · rw [if_neg h,gtK_none m k]; simp [h]
theorem ptK_keys : ∀ (m : KM) (k : List UInt8) (v : Int),(ptK m k v).map Prod.fst = if k ∈ m.map Prod.fst then m.map Prod.fst else m.map Prod.fst ++ [k]
 | [],k,v => by simp [ptK,ixK]
 | p :: m,k,v => by
   rw [ptK_cons]
   by_cases h : k = p.1
   · rw [if_pos h,if_pos (by simp [h])]; simp [h]
   · have := ptK_keys m k v
     rw [if_neg h,List.map_cons,this]
     by_cases h2 : k ∈ m.map Prod.fst
     · rw [if_pos h2,if_pos (by rw [List.map_cons]; exact List.mem_cons_of_mem _ h2)]; rfl
     · rw [if_neg h2,if_neg (by rw [List.map_cons]; intro h3; rcases List.mem_cons.1 h3 with h4 | h4; exact h h4; exact h2 h4)]; rfl
theorem ptK_nodup {m : KM} (k : List UInt8) (v : Int) (h : (m.map Prod.fst).Nodup) : ((ptK m k v).map Prod.fst).Nodup := by
 rw [ptK_keys]
 split
 · exact h
 · rename_i h2
   rw [List.nodup_append]
   refine ⟨h,by simp,?_⟩
   intro a ha b hb
   simp at hb; subst hb
   rintro rfl; exact h2 ha
theorem stK_nodup {m : KM} (b : Int) (r : Rec) (h : (m.map Prod.fst).Nodup) : ((stK b m r).map Prod.fst).Nodup := by
 unfold stK
 split
 · split
   · split
     · exact ptK_nodup _ _ h
     · exact h
   · exact ptK_nodup _ _ h
 · exact h
theorem stKs_nodup (b : Int) : ∀ (rs : List Rec) (m : KM),(m.map Prod.fst).Nodup → ((rs.foldl (stK b) m).map Prod.fst).Nodup
 | [],_,h => h
 | r :: rs,m,h => stKs_nodup b rs _ (stK_nodup b r h)
theorem stKB_nodup : ∀ (l : List Bat) (m : KM),(m.map Prod.fst).Nodup → ((l.foldl stKB m).map Prod.fst).Nodup
 | [],_,h => h
 | x :: l,m,h => stKB_nodup l _ (stKs_nodup x.b x.rs m h)
theorem lastK_nodup (l : List Bat) : ((zbb l).map Prod.fst).Nodup := stKB_nodup l [] .nil
theorem dRs_att (key : List UInt8) (b : Int) (Q : Int → Prop) : ∀ (rs : List Rec) (s : Int × Bool),(∀ r ∈ rs,r.k = true → r.key = key → Q (offI b r.d)) → (s.2 = true → Q s.1) → (rs.foldl (dR17 key b) s).2 = true → Q (rs.foldl (dR17 key b) s).1
 | [],s,_,h => h
 | r :: rs,s,hr,h => dRs_att key b Q rs _ (fun q hq => hr q (List.mem_cons_of_mem _ hq)) (by
     unfold dR17
     split
     · rename_i c; exact fun _ => hr r (List.mem_cons_self ..) c.1 c.2.1
     · exact h)
theorem dBs_att (key : List UInt8) (Q : Int → Prop) : ∀ (l : List Bat) (s : Int × Bool),(∀ x ∈ l,∀ r ∈ x.rs,r.k = true → r.key = key → Q (offI x.b r.d)) → (s.2 = true → Q s.1) → (l.foldl (dB17 key) s).2 = true → Q (l.foldl (dB17 key) s).1
 | [],s,_,h => h
 | x :: l,s,hr,h => dBs_att key Q l _ (fun y hy => hr y (List.mem_cons_of_mem _ hy)) (dRs_att key x.b Q x.rs s (hr x (List.mem_cons_self ..)) h)
theorem mem_offs {l : List Bat} {x : Bat} {r : Rec} (hx : x ∈ l) (hr : r ∈ x.rs) : (offI x.b r.d,r) ∈ zaw l := List.mem_flatMap.2 ⟨x,hx,List.mem_map.2 ⟨r,hr,rfl⟩⟩
theorem offs_mem {l : List Bat} {p : Int × Rec} (h : p ∈ zaw l) : ∃ x ∈ l,∃ r ∈ x.rs,p = (offI x.b r.d,r) := by
 obtain ⟨x,hx,hp⟩ := List.mem_flatMap.1 h
 obtain ⟨r,hr,rfl⟩ := List.mem_map.1 hp
 exact ⟨x,hx,r,hr,rfl⟩
theorem gtK_att {l : List Bat} {key : List UInt8} {v : Int} (h : gtK (zbb l) key = some v) : ∃ p ∈ zaw l,p.1 = v ∧ p.2.k = true ∧ p.2.key = key := by
 have h1 := (gtK_last key l).1
 rw [h] at h1
 have h2 : (dL17 key l).2 = true := by
   cases hq : (dL17 key l).2 with
   | true => rfl
   | false => unfold tellO at h1; rw [hq] at h1; cases h1
 rw [tellO_true h2] at h1
 have h3 : v = (dL17 key l).1 := Option.some.inj h1
 rw [h3]
 exact dBs_att key (fun v => ∃ p ∈ zaw l,p.1 = v ∧ p.2.k = true ∧ p.2.key = key) l (0,false) (fun x hx r hr hk hkey => ⟨_,mem_offs hx hr,rfl,hk,hkey⟩) (fun h => by cases h) h2
theorem gtK_has {l : List Bat} {p : Int × Rec} (h : p ∈ zaw l) (hk : p.2.k = true) : ∃ v,gtK (zbb l) p.2.key = some v := by
 obtain ⟨x,hx,r,hr,rfl⟩ := offs_mem h
 have h2 := (dBs_hit x r hr hk l (0,false) hx).1
 exact ⟨_,by rw [(gtK_last r.key l).1]; exact tellO_true h2⟩
def keyL (L : List (Int × Rec)) : List (List UInt8) := (L.filter fun p => p.2.k).map fun p => p.2.key
theorem key_mem {L : List (Int × Rec)} {k : List UInt8} : k ∈ keyL L ↔ ∃ p ∈ L,p.2.k = true ∧ p.2.key = k := by
 unfold keyL
 rw [List.mem_map]
 constructor
 · rintro ⟨p,hp,rfl⟩
   obtain ⟨h1,h2⟩ := List.mem_filter.1 hp
   exact ⟨p,h1,h2,rfl⟩
 · rintro ⟨p,hp,h1,rfl⟩
   exact ⟨p,List.mem_filter.2 ⟨hp,h1⟩,rfl⟩
theorem key_nodup {l : List Bat} {a now g : Int} (h : riseL a l) : (keyL (kepL (zbb l) now g l)).Nodup := by
 unfold keyL List.Nodup
 rw [List.pairwise_map]
 exact kep_keys h
theorem key_le {l : List Bat} {a now g : Int} (h : riseL a l) : (keyL (kepL (zbb l) now g l)).length ≤ (zbb l).length := by
 have h1 := nodup_len _ ((zbb l).map Prod.fst) (key_nodup (now := now) (g := g) h) (fun k hk => by
   obtain ⟨p,hp,hpk,rfl⟩ := key_mem.1 hk
   obtain ⟨v,hv⟩ := gtK_has (List.mem_filter.1 hp).1 hpk
   rcases Classical.em (p.2.key ∈ (zbb l).map Prod.fst) with h | h
   · exact h
   · rw [(gtK_none _ _).2 h] at hv; cases hv)
 simpa using h1
theorem kep_mem {l : List Bat} {now g : Int} {p : Int × Rec} (hp : p ∈ zaw l) (hd : p.2.dd = false) (h : p.2.k = true → gtK (zbb l) p.2.key = some p.1) : p ∈ kepL (zbb l) now g l := by
 refine List.mem_filter.2 ⟨hp,?_⟩
 cases hk : p.2.k with
 | false => rfl
 | true => rw [h hk,hd]; simp
theorem key_eq {l : List Bat} {a now g : Int} (h : riseL a l) (hd : ∀ p ∈ zaw l,p.2.dd = false) : (keyL (kepL (zbb l) now g l)).length = (zbb l).length := by
 refine Nat.le_antisymm (key_le h) ?_
 have h1 := nodup_len ((zbb l).map Prod.fst) (keyL (kepL (zbb l) now g l)) (lastK_nodup l) (fun k hk => by
   rcases hv : gtK (zbb l) k with _ | v
   · exact absurd hk ((gtK_none _ _).1 hv)
   · obtain ⟨p,hp,rfl,hpk,rfl⟩ := gtK_att hv
     exact key_mem.2 ⟨p,kep_mem hp (hd p hp) (fun _ => hv),hpk,rfl⟩)
 simpa using h1
theorem cln_again {l : List Bat} {a now g : Int} (h : riseL a l) (hd : ∀ p ∈ zaw l,p.2.dd = false) : clnL (clnL l now g) now g = clnL l now g := by
 obtain ⟨C,hC⟩ : ∃ C,clnL l now g = C := ⟨_,rfl⟩
 have hCf : C = l.flatMap (cl1 (zbb l) now g) := by rw [← hC]; unfold clnL clnM; rw [cln_flat]; rfl
 have hoff : zaw C = kepL (zbb l) now g l := by rw [hCf]; exact kep_off _ _ _ _
 rw [hC]
 have hpw := kep_keys (now := now) (g := g) h
 rw [← hoff] at hpw
 have huniq : ∀ p ∈ zaw C,∀ q ∈ zaw C,p.2.k = true → q.2.k = true → p.2.key = q.2.key → p = q := by
   intro p hp q hq h1 h2 he
   have hp2 : p ∈ (zaw C).filter (fun p => p.2.k) := List.mem_filter.2 ⟨hp,h1⟩
   have hq2 : q ∈ (zaw C).filter (fun p => p.2.k) := List.mem_filter.2 ⟨hq,h2⟩
   clear hp hq
   revert hpw hp2 hq2
   generalize (zaw C).filter (fun p => p.2.k) = L
   intro hpw hp2 hq2
   induction hpw with
   | nil => cases hp2
   | cons hx _ ih =>
     rcases List.mem_cons.1 hp2 with hp1 | hp1
     · rcases List.mem_cons.1 hq2 with hq1 | hq1
       · rw [hp1,hq1]
       · have := hx q hq1; rw [← hp1] at this; exact absurd he this
     · rcases List.mem_cons.1 hq2 with hq1 | hq1
       · have := hx p hp1; rw [← hq1] at this; exact absurd he.symm this
       · exact ih hp1 hq1
 have hkept : ∀ x ∈ C,∀ r ∈ x.rs,zex (zbb C) x.b r now g = true := by
   intro x hx r hr
   have hp := mem_offs hx hr
   have hdd : r.dd = false := by
     have h1 : (offI x.b r.d,r) ∈ kepL (zbb l) now g l := by rw [← hoff]; exact hp
     exact hd _ (List.mem_filter.1 h1).1
   unfold zex
   cases hk : r.k with
   | false => rfl
   | true =>
     obtain ⟨v,hv⟩ := gtK_has hp hk
     obtain ⟨q,hq,hq1,hq2,hq3⟩ := gtK_att hv
     have := huniq _ hq _ hp hq2 hk hq3
     subst this
     simp only at hv hq1
     rw [hv,hdd]
     simp [hq1]
 have hcl : ∀ x ∈ C,cl1 (zbb C) now g x = [x] := by
   intro x hx
   have hb : clnB (zbb C) now g x = x := by
     unfold clnB
     have : x.rs.filter (fun r => zex (zbb C) x.b r now g) = x.rs := List.filter_eq_self.2 (fun r hr => hkept x hx r hr)
     rw [this]
   unfold cl1
   rw [hb]
   have hne : ¬ empB x := by
     rw [hCf] at hx
     obtain ⟨y,_,hy⟩ := List.mem_flatMap.1 hx
     unfold cl1 at hy
     split at hy
     · cases hy
     · rename_i hn; simp at hy; subst hy; exact hn
   rw [if_neg hne]
 unfold clnL clnM
 rw [cln_flat,List.nil_append]
 have : ∀ L : List Bat,(∀ x ∈ L,cl1 (zbb C) now g x = [x]) → L.flatMap (cl1 (zbb C) now g) = L := by
   intro L
   induction L with
   | nil => intro _; rfl
   | cons x L ih =>
     intro hL
     rw [List.flatMap_cons,hL x (List.mem_cons_self ..),ih (fun y hy => hL y (List.mem_cons_of_mem _ hy))]; rfl
 exact this C hcl
theorem dir_again {l : List Bat} {a now g : Int} (h : riseL a l) (hd : ∀ p ∈ zaw l,p.2.dd = false) : dirL (clnL l now g) now g = false := by
 unfold dirL
 rw [cln_again h hd]
 simp
end Go.Proofs.Ytckbejanaebjkaa
namespace Go.Proofs.Ytckbejanaebjkaa
open Ax
def deadB (l : List Bat) : Bool := l.any fun x => x.rs.any fun r => r.dd
theorem len_kvA (m : KM) : (kvA m).length = m.length := by simp [kvA]
theorem deadB_offs {l : List Bat} (h : deadB l = false) : ∀ p ∈ zaw l,p.2.dd = false := by
 intro p hp
 obtain ⟨x,hx,r,hr,rfl⟩ := offs_mem hp
 have h1 := List.any_eq_false.1 h x hx
 have h2 : (x.rs.any fun r => r.dd) = false := by simpa using h1
 have h3 := List.any_eq_false.1 h2 r hr
 simpa using h3
theorem keyL_snoc (P : List (Int × Rec)) (p : Int × Rec) : keyL (P ++ [p]) = keyL P ++ (if p.2.k = true then [p.2.key] else []) := by
 unfold keyL
 rw [List.filter_append,List.map_append]
 congr 1
 by_cases h : p.2.k = true <;> simp [h]
theorem key_fresh {P Q : List (Int × Rec)} {p : Int × Rec} (h : (keyL (P ++ p :: Q)).Nodup) (hk : p.2.k = true) : p.2.key ∉ keyL P := by
 unfold keyL at h
 rw [List.filter_append,List.map_append,List.filter_cons,if_pos hk,List.map_cons] at h
 rw [List.nodup_append] at h
 intro hm
 exact h.2.2 _ hm _ (List.mem_cons_self ..) rfl
theorem slot_strs (ks : List (List UInt8)) (i : Nat) (h : i < ks.length) : slot (ks.map AV.str) i = .str ks[i] := zbk AV.str ks i h
theorem zfh (g : Nat → Nat) : ∀ (ks : List (List UInt8)),renL g (ks.map AV.str) = ks.map AV.str
 | [] => rfl
 | x :: r => by simp only [List.map_cons,renL,zfh g r]; rfl
theorem offL_drop {b c p e s : Int} {rs : List Rec} {k : Nat} (h : k < rs.length) : (offL ⟨b,c,p,e,s,rs⟩).drop k = (offI b rs[k].d,rs[k]) :: (offL ⟨b,c,p,e,s,rs⟩).drop (k + 1) := by
 unfold offL
 simp only
 rw [← List.map_drop,List.drop_eq_getElem_cons h,List.map_cons,List.map_drop]
theorem offs_len : ∀ (l : List Bat),(∀ x ∈ l,x.rs.length ≤ 40) → (zaw l).length ≤ 40 * l.length
 | [],_ => Nat.le_refl _
 | x :: l,h => by
   have h1 := offs_len l (fun y hy => h y (List.mem_cons_of_mem _ hy))
   have h2 := h x (List.mem_cons_self ..)
   have e : zaw (x :: l) = offL x ++ zaw l := by unfold zaw; rw [List.flatMap_cons]
   have e2 : (offL x).length = x.rs.length := by simp [offL]
   rw [e,List.length_append,List.length_cons,e2]; omega
theorem keyL_len (P : List (Int × Rec)) : (keyL P).length ≤ P.length := by unfold keyL; rw [List.length_map]; exact List.length_filter_le _ _
theorem slot_bfr (l : List Bat) (n : Nat) (h : n < l.length) : slot (bfr l) n = bav l[n] false := by
 unfold bfr
 rw [zdc _ n (by simp; exact h)]
 simp [offB,bvp]
def lonceS : zar
 | [.sg 6 xs f,.w (.int .i64 now),.w (.int .i64 g)],[] => ⟨xs.length ≤ 9223372036854775807 ∧ isBs xs,.w (.bool true),[]⟩
 | _,_ => zci
def zax (f : FuncId) : Option zar :=
 match f with
 | 6 => some lgt17S
 | 7 => some yesS
 | 14 => some bchkS4
 | 15 => some bnextS
 | 12 => some cln17S
 | 8 => some zdt
 | 16 => some dir17S
 | _ => none
theorem Slonce17_ok : Fns Try.prog zax := by
 intro f s h
 unfold zax at h
 split at h
 · injection h with h; subst h; exact ⟨⟨_,Try.func6,by kernel_rfl,by kernel_rfl⟩,lgt17_sound⟩
 · injection h with h; subst h; exact ⟨⟨_,Try.func7,by kernel_rfl,by kernel_rfl⟩,awake17_sound⟩
 · injection h with h; subst h; exact ⟨⟨_,Try.func14,by kernel_rfl,by kernel_rfl⟩,bchk4_sound⟩
 · injection h with h; subst h; exact ⟨⟨_,Try.func15,by kernel_rfl,by kernel_rfl⟩,bnext_sound⟩
 · injection h with h; subst h; exact ⟨⟨_,Try.func12,by kernel_rfl,by kernel_rfl⟩,cln17_sound⟩
 · injection h with h; subst h; exact ⟨⟨_,Try.func8,by kernel_rfl,by kernel_rfl⟩,zei⟩
 · injection h with h; subst h; exact ⟨⟨_,Try.func16,by kernel_rfl,by kernel_rfl⟩,dir17_sound⟩
 · cases h
section
set_option maxRecDepth 100000
set_option maxHeartbeats 8000000 in
theorem lonce_law : zbm Try.prog 5 lonceS := by
 refine zau (S := zax) (T := tyF) zcj tyF_ok Slonce17_ok Try.func5 (c := Try.f5.body.getD .skip) (by kernel_rfl) (by kernel_rfl) (fun xs pins hp _ => ?_)
 unfold lonceS at hp ⊢
 split at hp
 · rename_i xs f now g _
   obtain ⟨hL,hb⟩ := hp
   refine ⟨by simp,?_⟩
   unfold Try.f5
   by_cases hg : lgt17 (xs.map ubat)
   · obtain ⟨h16,es,rfl,h40,hok⟩ := lgt_facts hb hg
     have d0 : decide (lgt17 ((es.map bvp).map ubat)) = true := decide_eq_true hg
     have hlp : (es.map bvp).length = es.length := by simp
     have hbk : ∃ gs : List (Bat × Bool),es.map bvp = gs.map bvp ∧ ∀ p ∈ gs,p.1.rs.length ≤ 1000000 := ⟨es,rfl,fun p hp => by have := h40 p hp; omega⟩
     have hcz : ∀ h,coe (zba ty) 22 (.sg 6 (es.map bvp) h) = .sg 6 (es.map bvp) h := fun h => by cases es <;> rfl
     have mu := zct es
     obtain ⟨l,hl⟩ : ∃ l,es.map Prod.fst = l := ⟨_,rfl⟩
     rw [hl] at mu
     rw [mu] at d0
     have hlq : l.length = es.length := by subst hl; simp
     have hel : ∀ x ∈ l,x.rs.length ≤ 1000000 := by
       intro x hx
       rw [← hl] at hx
       obtain ⟨p,hp,rfl⟩ := List.mem_map.1 hx
       have := h40 p hp; omega
     rw [hlp] at h16 hL
     have hL6 : es.length ≤ 1000000 := by omega
     simp only [go_sem,zaa,Nat.reduceAdd,Nat.reduceSub,Nat.reduceMul,Int.reduceToNat,reduceCtorEq,↓reduceIte,Int.reducePow,Nat.reducePow,Int.reduceMod,Nat.reduceLeDiff,Int.reduceLE,Int.reduceNe,Int.reduceEq,Nat.reduceEqDiff,Nat.reduceLT,Nat.reduceBEq,tyF,zba,ty,zax,lgt17S,hL,hL6,hb,hcz,hlp,mu,d0,Bool.not_true]
     try repeat (refine And.intro (by omega) ?_)
     refine zbj ⟨fun m σ => ∃ (i : Nat) (nx : Int) (dd : Bool),m = es.length - i ∧ i ≤ es.length ∧ (riseL nx (l.drop i) → riseL 0 l) ∧ deadB l = (dd || deadB (l.drop i)) ∧
         σ = ⟨[.sg 6 (es.map bvp) f,.w (.int .i64 now),.w (.int .i64 g),.junk,.junk,.junk,.junk,.w (.int .i64 nx),.w (.bool dd),.w (.int .i64 i),.junk,.junk,.junk,.junk,.junk,.junk,.junk,.junk,.junk,.junk,.junk,.junk,.junk,.junk,.junk,.junk,.junk,.junk,.junk,.junk,.junk,.junk,.junk,.junk,.junk,.junk,.junk,.junk,.junk,.junk,.junk,.junk,.junk,.junk,.junk,.junk,.junk,.junk,.junk,.junk,.junk,.junk,.junk,.junk,.junk,.junk,.junk,.junk,.junk,.junk,.junk,.junk,.junk,.junk,.junk,.junk,.junk,.junk,.junk,.junk,.junk,.junk,.junk,.junk,.junk,.junk,.junk,.junk,.junk,.junk,.junk,.junk,.junk,.junk,.junk,.junk,.junk,.junk,.junk,.junk,.junk,.junk,.junk,.junk,.junk,.junk,.junk,.junk,.junk,.junk,.junk,.junk,.junk,.junk,.junk,.junk,.junk,.junk,.junk,.junk,.junk,.junk,.junk,.junk,.junk,.junk,.junk,.junk,.junk,.junk,.junk,.junk,.junk,.junk,.junk,.junk,.junk,.junk,.junk,.junk,.junk,.junk,.junk,.junk,.junk,.junk,.junk,.junk,.junk,.junk,.junk,.junk,.junk,.junk,.junk,.junk,.junk,.junk,.junk],[],4⟩,?_,?_⟩
     · refine ⟨_,_,zag [0,1,2,3] rfl rfl rfl ?_ ?_,0,0,false,rfl,by omega,fun h => h,rfl,rfl⟩
       · simp only [ssT,zaj,zak,setSlot,gOf,AV.ren,renL,Blk.ren,Ax.look,Ax.put,reduceCtorEq,↓reduceIte,Nat.reduceEqDiff,Nat.reduceLT,Nat.reduceAdd,List.length_append,List.length_cons,List.length_nil,Option.some.injEq]; try simp
       · simp only [ssT,zaj,zak,setSlot,gOf,AV.ren,renL,Blk.ren,Ax.look,Ax.put,reduceCtorEq,↓reduceIte,Nat.reduceEqDiff,Nat.reduceLT,Nat.reduceAdd,List.length_append,List.length_cons,List.length_nil,Option.some.injEq]
     · rintro m σ ⟨i,nx,dd,rfl,hi,hrise,hdead,rfl⟩
       have e1 : ((i : Int) + 1 + 9223372036854775808) % 18446744073709551616 - 9223372036854775808 = ((i + 1 : Nat) : Int) := by omega
       by_cases hil : i < es.length
       · have d3 : decide ((i : Int) < es.length) = true := decide_eq_true (by omega)
         have hs1 := zdc es i hil
         have m1 := h40 es[i] (List.getElem_mem hil)
         have hdr : l.drop i = es[i].1 :: l.drop (i + 1) := by
           rw [List.drop_eq_getElem_cons (by omega)]
           subst hl; simp
         obtain ⟨P,hP⟩ : ∃ P,es[i] = P := ⟨_,rfl⟩
         rw [hP] at hs1 m1 hdr
         rw [hdr] at hrise hdead
         obtain ⟨⟨b,c,p,e,s,rs⟩,f'⟩ := P
         have hs1 : slot (es.map bvp) i = .agg [.w (.int .i64 b),.w (.int .i64 c),.w (.int .i64 p),.w (.int .i64 e),.w (.int .i64 s),.sg 6 (rs.map rv) f'] := hs1
         simp only at m1 hrise hdead
         have hlr : (rs.map rv).length = rs.length := by simp
         have n1 : (rs.map rv).length ≤ 9223372036854775807 := by rw [hlr]; omega
         have x1 : ∃ k : List Rec,rs.map rv = k.map rv := ⟨rs,rfl⟩
         have r1 := zam rs
         obtain ⟨E,hE⟩ : ∃ E,batE b c p e s rs = E := ⟨_,rfl⟩
         have hdead : deadB l = (dd || ((rs.any fun r => r.dd) || deadB (l.drop (i + 1)))) := hdead
         by_cases g1 : E = 0
         · have d4 : decide (E = 0) = true := decide_eq_true g1
           by_cases g2 : b < nx
           · have d5 : decide (b < nx) = true := decide_eq_true g2
             simp only [go_sem,zaa,Nat.reduceAdd,Nat.reduceSub,Nat.reduceMul,Int.reduceToNat,reduceCtorEq,↓reduceIte,Int.reducePow,Nat.reducePow,Int.reduceMod,Nat.reduceLeDiff,Int.reduceLE,Int.reduceNe,Int.reduceEq,Nat.reduceEqDiff,Nat.reduceLT,Nat.reduceBEq,tyF,zba,ty,zax,bchkS4,bnextS,yesS,hlp,n1,x1,r1,d3,d4,d5,hs1,hE,Int.toNat_natCast,Bool.not_true,Bool.not_false]
             try omega
           · have d5 : decide (b < nx) = false := decide_eq_false g2
             obtain ⟨N,hN⟩ : ∃ N,(b + c + 9223372036854775808) % 18446744073709551616 - 9223372036854775808 = N := ⟨_,rfl⟩
             have hr2 : riseL N (l.drop (i + 1)) → riseL 0 l := fun h => hrise ⟨by show bE _ = 0; unfold bE; simp only; rw [hE]; exact g1,by simp only; omega,by rw [show nxD ⟨b,c,p,e,s,rs⟩ = N from hN]; exact h⟩
             simp only [go_sem,zaa,Nat.reduceAdd,Nat.reduceSub,Nat.reduceMul,Int.reduceToNat,reduceCtorEq,↓reduceIte,Int.reducePow,Nat.reducePow,Int.reduceMod,Nat.reduceLeDiff,Int.reduceLE,Int.reduceNe,Int.reduceEq,Nat.reduceEqDiff,Nat.reduceLT,Nat.reduceBEq,tyF,zba,ty,zax,bchkS4,bnextS,yesS,hlp,n1,x1,r1,d3,d4,d5,hs1,hE,hN,Int.toNat_natCast,Bool.not_true,Bool.not_false]
             try repeat (refine And.intro (by omega) ?_)
             refine zbj ⟨fun m σ => ∃ (k : Nat) (dd : Bool),m = rs.length - k ∧ k ≤ rs.length ∧ deadB l = (dd || (((rs.drop k).any fun r => r.dd) || deadB (l.drop (i + 1)))) ∧
                 σ = ⟨[.sg 6 (es.map bvp) f,.w (.int .i64 now),.w (.int .i64 g),.junk,.junk,.junk,.junk,.w (.int .i64 N),.w (.bool dd),.w (.int .i64 i),.w (.int .i64 k),.junk,.junk,.junk,.junk,.junk,.junk,.junk,.junk,.junk,.junk,.junk,.junk,.junk,.junk,.junk,.junk,.junk,.junk,.junk,.junk,.junk,.junk,.junk,.junk,.junk,.junk,.junk,.junk,.junk,.junk,.junk,.junk,.junk,.junk,.junk,.junk,.junk,.junk,.junk,.junk,.junk,.junk,.junk,.junk,.junk,.junk,.junk,.junk,.junk,.junk,.junk,.junk,.junk,.junk,.junk,.junk,.junk,.junk,.junk,.junk,.junk,.junk,.junk,.junk,.junk,.junk,.junk,.junk,.junk,.junk,.junk,.junk,.junk,.junk,.junk,.junk,.junk,.junk,.junk,.junk,.junk,.junk,.junk,.junk,.junk,.junk,.junk,.junk,.junk,.junk,.junk,.junk,.junk,.junk,.junk,.junk,.junk,.junk,.junk,.junk,.junk,.junk,.junk,.junk,.junk,.junk,.junk,.junk,.junk,.junk,.junk,.junk,.junk,.junk,.junk,.junk,.junk,.junk,.junk,.junk,.junk,.junk,.junk,.junk,.junk,.junk,.junk,.junk,.junk,.junk,.junk,.junk,.junk,.junk,.junk,.junk,.junk,.junk],[],4⟩,?_,?_⟩
             · refine ⟨_,_,zag [0,1,2,3] rfl rfl rfl ?_ ?_,0,dd,rfl,by omega,hdead,rfl⟩
               · simp only [ssT,zaj,zak,setSlot,gOf,AV.ren,renL,Blk.ren,Ax.look,Ax.put,reduceCtorEq,↓reduceIte,Nat.reduceEqDiff,Nat.reduceLT,Nat.reduceAdd,List.length_append,List.length_cons,List.length_nil,Option.some.injEq]; try simp
               · simp only [ssT,zaj,zak,setSlot,gOf,AV.ren,renL,Blk.ren,Ax.look,Ax.put,reduceCtorEq,↓reduceIte,Nat.reduceEqDiff,Nat.reduceLT,Nat.reduceAdd,List.length_append,List.length_cons,List.length_nil,Option.some.injEq]
             · rintro m σ ⟨k,dd,rfl,hk,hdd,rfl⟩
               by_cases hkl : k < rs.length
               · have e2 : ((k : Int) + 1 + 9223372036854775808) % 18446744073709551616 - 9223372036854775808 = ((k + 1 : Nat) : Int) := by omega
                 have d6 : decide ((k : Int) < rs.length) = true := decide_eq_true (by omega)
                 have hs2 := zbk rv rs k hkl
                 have hdk : rs.drop k = rs[k] :: rs.drop (k + 1) := List.drop_eq_getElem_cons hkl
                 obtain ⟨R,hR⟩ : ∃ R,rs[k] = R := ⟨_,rfl⟩
                 rw [hR] at hs2 hdk
                 rw [hdk,List.any_cons] at hdd
                 obtain ⟨d,t,kd,key,rd,val⟩ := R
                 simp only [rv] at hs2
                 simp only at hdd
                 have hdd2 : deadB l = ((dd || rd) || (((rs.drop (k + 1)).any fun r => r.dd) || deadB (l.drop (i + 1)))) := by rw [hdd]; cases dd <;> cases rd <;> simp
                 cases dd <;> cases rd
                 all_goals
                   simp only [go_sem,zaa,Nat.reduceAdd,Nat.reduceSub,Nat.reduceMul,Int.reduceToNat,reduceCtorEq,↓reduceIte,Int.reducePow,Nat.reducePow,Int.reduceMod,Nat.reduceLeDiff,Int.reduceLE,Int.reduceNe,Int.reduceEq,Nat.reduceEqDiff,Nat.reduceLT,Nat.reduceBEq,tyF,zba,ty,zax,hlp,hlr,d6,hs1,hs2,e2,Int.toNat_natCast]
                   try repeat (refine And.intro (by omega) ?_)
                   refine ⟨rs.length - (k + 1),_,by omega,zag [0,1,2,3] rfl rfl rfl ?_ ?_,k + 1,_,rfl,by omega,hdd2,rfl⟩
                   · simp only [ssT,zaj,zak,setSlot,gOf,AV.ren,renL,Blk.ren,Ax.look,Ax.put,reduceCtorEq,↓reduceIte,Nat.reduceEqDiff,Nat.reduceLT,Nat.reduceAdd,List.length_append,List.length_cons,List.length_nil,Option.some.injEq]; try simp
                   · simp only [ssT,zaj,zak,setSlot,gOf,AV.ren,renL,Blk.ren,Ax.look,Ax.put,reduceCtorEq,↓reduceIte,Nat.reduceEqDiff,Nat.reduceLT,Nat.reduceAdd,List.length_append,List.length_cons,List.length_nil,Option.some.injEq]
               · have d6 : decide ((k : Int) < rs.length) = false := decide_eq_false (by omega)
                 have hdk : rs.drop k = [] := List.drop_eq_nil_of_le (by omega)
                 rw [hdk] at hdd
                 have hdd : deadB l = (dd || deadB (l.drop (i + 1))) := by rw [hdd]; rfl
                 simp only [go_sem,zaa,Nat.reduceAdd,Nat.reduceSub,Nat.reduceMul,Int.reduceToNat,reduceCtorEq,↓reduceIte,Int.reducePow,Nat.reducePow,Int.reduceMod,Nat.reduceLeDiff,Int.reduceLE,Int.reduceNe,Int.reduceEq,Nat.reduceEqDiff,Nat.reduceLT,Nat.reduceBEq,tyF,zba,ty,zax,hlp,hlr,d6,hs1,e1,Int.toNat_natCast]
                 try repeat (refine And.intro (by omega) ?_)
                 refine ⟨es.length - (i + 1),_,by omega,zag [0,1,2,3] rfl rfl rfl ?_ ?_,i + 1,N,dd,rfl,by omega,hr2,hdd,rfl⟩
                 · simp only [ssT,zaj,zak,setSlot,gOf,AV.ren,renL,Blk.ren,Ax.look,Ax.put,reduceCtorEq,↓reduceIte,Nat.reduceEqDiff,Nat.reduceLT,Nat.reduceAdd,List.length_append,List.length_cons,List.length_nil,Option.some.injEq]
                 · simp only [ssT,zaj,zak,setSlot,gOf,AV.ren,renL,Blk.ren,Ax.look,Ax.put,reduceCtorEq,↓reduceIte,Nat.reduceEqDiff,Nat.reduceLT,Nat.reduceAdd,List.length_append,List.length_cons,List.length_nil,Option.some.injEq]
         · have d4 : decide (E = 0) = false := decide_eq_false g1
           simp only [go_sem,zaa,Nat.reduceAdd,Nat.reduceSub,Nat.reduceMul,Int.reduceToNat,reduceCtorEq,↓reduceIte,Int.reducePow,Nat.reducePow,Int.reduceMod,Nat.reduceLeDiff,Int.reduceLE,Int.reduceNe,Int.reduceEq,Nat.reduceEqDiff,Nat.reduceLT,Nat.reduceBEq,tyF,zba,ty,zax,bchkS4,bnextS,yesS,hlp,n1,x1,r1,d3,d4,hs1,hE,Int.toNat_natCast,Bool.not_true,Bool.not_false]
           try omega
       · have d3 : decide ((i : Int) < es.length) = false := decide_eq_false (by omega)
         have hdr : l.drop i = [] := List.drop_eq_nil_of_le (by omega)
         rw [hdr] at hrise hdead
         have hR : riseL 0 l := hrise trivial
         have hdead : deadB l = dd := by rw [hdead]; cases dd <;> rfl
         obtain ⟨M,hM⟩ : ∃ M,zbb l = M := ⟨_,rfl⟩
         have hCf : clnL l now g = l.flatMap (cl1 (zbb l) now g) := by unfold clnL clnM; rw [cln_flat]; rfl
         have hoff : zaw (clnL l now g) = kepL (zbb l) now g l := by rw [hCf]; exact kep_off _ _ _ _
         have hkn := key_nodup (now := now) (g := g) hR
         have hkle := key_le (now := now) (g := g) hR
         have hkeq := fun h => key_eq (now := now) (g := g) hR (deadB_offs h)
         have hdir := fun h => dir_again (now := now) (g := g) hR (deadB_offs h)
         have hcn := clnL_len l now g
         have hsm := isBk_bfr (clnL_small (now := now) (g := g) hel)
         have hsm2 := clnL_small (now := now) (g := g) hel
         have hlen : (zaw (clnL l now g)).length ≤ 640 := by
           rw [hoff]
           have h1 : (kepL (zbb l) now g l).length ≤ (zaw l).length := List.length_filter_le _ _
           have h2 := offs_len l (by
             intro x hx
             rw [← hl] at hx
             obtain ⟨p,hp,rfl⟩ := List.mem_map.1 hx
             exact h40 p hp)
           omega
         rw [← hoff] at hkn hkle hkeq
         rw [hdead] at hkeq hdir
         rw [hM] at hkle hkeq
         obtain ⟨C,hC⟩ : ∃ C,clnL l now g = C := ⟨_,rfl⟩
         rw [hC] at hcn hsm hsm2 hlen hkn hkle hkeq hdir
         have hlc := len_bfr C
         have huc := ubat_bfr C
         have hlk := len_kvA M
         have ht : top = 4294967296 := rfl
         have hcC : ∀ h,coe (zba ty) 22 (.sg 6 (bfr C) h) = .sg 6 (bfr C) h := fun h => by cases C <;> rfl
         simp only [go_sem,zaa,Nat.reduceAdd,Nat.reduceSub,Nat.reduceMul,Int.reduceToNat,reduceCtorEq,↓reduceIte,Int.reducePow,Nat.reducePow,Int.reduceMod,Nat.reduceLeDiff,Int.reduceLE,Int.reduceNe,Int.reduceEq,Nat.reduceEqDiff,Nat.reduceLT,Nat.reduceBEq,tyF,zba,ty,zax,cln17S,hL6,hbk,hcz,hlp,mu,d3,hC]
         try repeat (refine And.intro (by omega) ?_)
         refine zbj ⟨fun m σ => ∃ (i : Nat) (ks : List (List UInt8)),m = C.length - i ∧ i ≤ C.length ∧ (∃ P,zaw C = P ++ zaw (C.drop i) ∧ ks = keyL P) ∧
             σ = ⟨[.sg 6 (es.map bvp) f,.w (.int .i64 now),.w (.int .i64 g),.junk,.junk,.junk,.junk,.junk,.w (.bool dd),.junk,.junk,.sg 6 (bfr C) false,.ms 4 1 0 ks.length,.w (.int .i64 i),.junk,.junk,.junk,.junk,.junk,.junk,.junk,.junk,.junk,.junk,.junk,.junk,.junk,.junk,.junk,.junk,.junk,.junk,.junk,.junk,.junk,.junk,.junk,.junk,.junk,.junk,.junk,.junk,.junk,.junk,.junk,.junk,.junk,.junk,.junk,.junk,.junk,.junk,.junk,.junk,.junk,.junk,.junk,.junk,.junk,.junk,.junk,.junk,.junk,.junk,.junk,.junk,.junk,.junk,.junk,.junk,.junk,.junk,.junk,.junk,.junk,.junk,.junk,.junk,.junk,.junk,.junk,.junk,.junk,.junk,.junk,.junk,.junk,.junk,.junk,.junk,.junk,.junk,.junk,.junk,.junk,.junk,.junk,.junk,.junk,.junk,.junk,.junk,.junk,.junk,.junk,.junk,.junk,.junk,.junk,.junk,.junk,.junk,.junk,.junk,.junk,.junk,.junk,.junk,.junk,.junk,.junk,.junk,.junk,.junk,.junk,.junk,.junk,.junk,.junk,.junk,.junk,.junk,.junk,.junk,.junk,.junk,.junk,.junk,.junk,.junk,.junk,.junk,.junk,.junk,.junk,.junk,.junk,.junk,.junk],[(4,.g 1 (ks.map AV.str))],5⟩,?_,?_⟩
         · refine ⟨_,_,(weak_nil 12 1 (.g 1 []) ⟨by decide,rfl⟩ (by exact trivial)).trans (zag [0,1,2,3,92] rfl rfl rfl ?_ ?_),0,[],rfl,by omega,⟨[],rfl,rfl⟩,rfl⟩
           · simp only [ssT,zaj,zak,setSlot,gOf,AV.ren,renL,Blk.ren,Ax.look,Ax.put,reduceCtorEq,↓reduceIte,Nat.reduceEqDiff,Nat.reduceLT,Nat.reduceAdd,List.length_append,List.length_cons,List.length_nil,Option.some.injEq]; try simp
           · simp only [ssT,zaj,zak,setSlot,gOf,AV.ren,renL,Blk.ren,Ax.look,Ax.put,reduceCtorEq,↓reduceIte,Nat.reduceEqDiff,Nat.reduceLT,Nat.reduceAdd,List.length_append,List.length_cons,List.length_nil,Option.some.injEq]; try simp [renL]
         · rintro m σ ⟨i,ks,rfl,hi,⟨P0,hP0,hks⟩,rfl⟩
           have e1 : ((i : Int) + 1 + 9223372036854775808) % 18446744073709551616 - 9223372036854775808 = ((i + 1 : Nat) : Int) := by omega
           by_cases hil : i < C.length
           · have d3 : decide ((i : Int) < C.length) = true := decide_eq_true (by omega)
             have hs1 := slot_bfr C i hil
             have hdr : C.drop i = C[i] :: C.drop (i + 1) := List.drop_eq_getElem_cons hil
             have hrl := hsm2 C[i] (List.getElem_mem hil)
             obtain ⟨X,hX⟩ : ∃ X,C[i] = X := ⟨_,rfl⟩
             rw [hX] at hs1 hdr hrl
             obtain ⟨b,c,p,e,s,rs⟩ := X
             simp only at hrl
             have hs1 : slot (bfr C) i = .agg [.w (.int .i64 b),.w (.int .i64 c),.w (.int .i64 p),.w (.int .i64 e),.w (.int .i64 s),.sg 6 (rs.map rv) false] := hs1
             have hlr : (rs.map rv).length = rs.length := by simp
             have hP0 : zaw C = P0 ++ ((offL ⟨b,c,p,e,s,rs⟩).drop 0 ++ zaw (C.drop (i + 1))) := by
               rw [hP0,hdr,List.drop_zero]; congr 1
             simp only [go_sem,zaa,Nat.reduceAdd,Nat.reduceSub,Nat.reduceMul,Int.reduceToNat,reduceCtorEq,↓reduceIte,Int.reducePow,Nat.reducePow,Int.reduceMod,Nat.reduceLeDiff,Int.reduceLE,Int.reduceNe,Int.reduceEq,Nat.reduceEqDiff,Nat.reduceLT,Nat.reduceBEq,tyF,zba,ty,zax,hlc,d3,Int.toNat_natCast]
             try repeat (refine And.intro (by omega) ?_)
             refine zbj ⟨fun m σ => ∃ (k : Nat) (ks : List (List UInt8)),m = rs.length - k ∧ k ≤ rs.length ∧ (∃ P,zaw C = P ++ ((offL ⟨b,c,p,e,s,rs⟩).drop k ++ zaw (C.drop (i + 1))) ∧ ks = keyL P) ∧
                 σ = ⟨[.sg 6 (es.map bvp) f,.w (.int .i64 now),.w (.int .i64 g),.junk,.junk,.junk,.junk,.junk,.w (.bool dd),.junk,.junk,.sg 6 (bfr C) false,.ms 4 1 0 ks.length,.w (.int .i64 i),.w (.int .i64 k),.junk,.junk,.junk,.junk,.junk,.junk,.junk,.junk,.junk,.junk,.junk,.junk,.junk,.junk,.junk,.junk,.junk,.junk,.junk,.junk,.junk,.junk,.junk,.junk,.junk,.junk,.junk,.junk,.junk,.junk,.junk,.junk,.junk,.junk,.junk,.junk,.junk,.junk,.junk,.junk,.junk,.junk,.junk,.junk,.junk,.junk,.junk,.junk,.junk,.junk,.junk,.junk,.junk,.junk,.junk,.junk,.junk,.junk,.junk,.junk,.junk,.junk,.junk,.junk,.junk,.junk,.junk,.junk,.junk,.junk,.junk,.junk,.junk,.junk,.junk,.junk,.junk,.junk,.junk,.junk,.junk,.junk,.junk,.junk,.junk,.junk,.junk,.junk,.junk,.junk,.junk,.junk,.junk,.junk,.junk,.junk,.junk,.junk,.junk,.junk,.junk,.junk,.junk,.junk,.junk,.junk,.junk,.junk,.junk,.junk,.junk,.junk,.junk,.junk,.junk,.junk,.junk,.junk,.junk,.junk,.junk,.junk,.junk,.junk,.junk,.junk,.junk,.junk,.junk,.junk,.junk,.junk,.junk,.junk],[(4,.g 1 (ks.map AV.str))],5⟩,?_,?_⟩
             · refine ⟨_,_,zag [0,1,2,3,4] rfl rfl rfl ?_ ?_,0,ks,rfl,by omega,⟨P0,hP0,hks⟩,rfl⟩
               · simp only [ssT,zaj,zak,setSlot,gOf,AV.ren,renL,Blk.ren,Ax.look,Ax.put,reduceCtorEq,↓reduceIte,Nat.reduceEqDiff,Nat.reduceLT,Nat.reduceAdd,List.length_append,List.length_cons,List.length_nil,Option.some.injEq]; try simp
               · simp only [ssT,zaj,zak,setSlot,gOf,AV.ren,renL,Blk.ren,Ax.look,Ax.put,reduceCtorEq,↓reduceIte,Nat.reduceEqDiff,Nat.reduceLT,Nat.reduceAdd,List.length_append,List.length_cons,List.length_nil,Option.some.injEq,zfh]
             · rintro m σ ⟨k,ks,rfl,hk,⟨P,hPk,hks⟩,rfl⟩
               have hkl2 : (ks.map AV.str).length = ks.length := by simp
               by_cases hkl : k < rs.length
               · have e2 : ((k : Int) + 1 + 9223372036854775808) % 18446744073709551616 - 9223372036854775808 = ((k + 1 : Nat) : Int) := by omega
                 have d4 : decide ((k : Int) < rs.length) = true := decide_eq_true (by omega)
                 have hs2 := zbk rv rs k hkl
                 have hod := offL_drop (b := b) (c := c) (p := p) (e := e) (s := s) hkl
                 obtain ⟨R,hR⟩ : ∃ R,rs[k] = R := ⟨_,rfl⟩
                 rw [hR] at hs2 hod
                 rw [hod,List.cons_append] at hPk
                 have hsn := keyL_snoc P (offI b R.d,R)
                 have hfr := fun h : R.k = true => key_fresh (P := P) (Q := (offL ⟨b,c,p,e,s,rs⟩).drop (k + 1) ++ zaw (C.drop (i + 1))) (p := (offI b R.d,R)) (by rw [← hPk]; exact hkn) h
                 have hnx : zaw C = (P ++ [(offI b R.d,R)]) ++ ((offL ⟨b,c,p,e,s,rs⟩).drop (k + 1) ++ zaw (C.drop (i + 1))) := by rw [hPk]; simp
                 have hPl : ks.length ≤ 640 := by
                   have h1 := keyL_len P
                   have h2 := congrArg List.length hPk
                   rw [List.length_append] at h2
                   rw [hks]; omega
                 obtain ⟨d,t,kd,key,rd,val⟩ := R
                 simp only [rv] at hs2
                 simp only [← hks] at hsn hfr
                 simp only [go_sem,zaa,Nat.reduceAdd,Nat.reduceSub,Nat.reduceMul,Int.reduceToNat,reduceCtorEq,↓reduceIte,Int.reducePow,Nat.reducePow,Int.reduceMod,Nat.reduceLeDiff,Int.reduceLE,Int.reduceNe,Int.reduceEq,Nat.reduceEqDiff,Nat.reduceLT,Nat.reduceBEq,tyF,zba,ty,zax,hlc,hlr,d4,hs1,hs2,hkl2,Int.toNat_natCast]
                 try repeat (refine And.intro (by omega) ?_)
                 refine zbj ⟨fun m σ => ∃ q : Nat,m = ks.length - q ∧ q ≤ ks.length ∧
                     σ = ⟨[.sg 6 (es.map bvp) f,.w (.int .i64 now),.w (.int .i64 g),.junk,.junk,.junk,.junk,.junk,.w (.bool dd),.junk,.junk,.sg 6 (bfr C) false,.ms 4 1 0 ks.length,.w (.int .i64 i),.w (.int .i64 k),.rf 5 6 0 0,.w (.int .i64 q),.junk,.junk,.junk,.junk,.junk,.junk,.junk,.junk,.junk,.junk,.junk,.junk,.junk,.junk,.junk,.junk,.junk,.junk,.junk,.junk,.junk,.junk,.junk,.junk,.junk,.junk,.junk,.junk,.junk,.junk,.junk,.junk,.junk,.junk,.junk,.junk,.junk,.junk,.junk,.junk,.junk,.junk,.junk,.junk,.junk,.junk,.junk,.junk,.junk,.junk,.junk,.junk,.junk,.junk,.junk,.junk,.junk,.junk,.junk,.junk,.junk,.junk,.junk,.junk,.junk,.junk,.junk,.junk,.junk,.junk,.junk,.junk,.junk,.junk,.junk,.junk,.junk,.junk,.junk,.junk,.junk,.junk,.junk,.junk,.junk,.junk,.junk,.junk,.junk,.junk,.junk,.junk,.junk,.junk,.junk,.junk,.junk,.junk,.junk,.junk,.junk,.junk,.junk,.junk,.junk,.junk,.junk,.junk,.junk,.junk,.junk,.junk,.junk,.junk,.junk,.junk,.junk,.junk,.junk,.junk,.junk,.junk,.junk,.junk,.junk,.junk,.junk,.junk,.junk,.junk,.junk,.junk],[(4,.g 1 (ks.map AV.str)),(5,.g 6 [.agg [.w (.int .i64 d),.w (.int .i64 t),.w (.bool kd),.str key,.w (.bool rd),.str val]])],6⟩,?_,?_⟩
                 · refine ⟨_,_,zag [0,1,2,3,4,133] rfl rfl rfl ?_ ?_,0,rfl,by omega,rfl⟩
                   · simp only [ssT,zaj,zak,setSlot,gOf,AV.ren,renL,Blk.ren,Ax.look,Ax.put,reduceCtorEq,↓reduceIte,Nat.reduceEqDiff,Nat.reduceLT,Nat.reduceAdd,List.length_append,List.length_cons,List.length_nil,Option.some.injEq]; try simp
                   · simp only [ssT,zaj,zak,setSlot,gOf,AV.ren,renL,Blk.ren,Ax.look,Ax.put,reduceCtorEq,↓reduceIte,Nat.reduceEqDiff,Nat.reduceLT,Nat.reduceAdd,List.length_append,List.length_cons,List.length_nil,Option.some.injEq,zfh]; try simp
                 · rintro m σ ⟨q,rfl,hq,rfl⟩
                   have e3 : ((q : Int) + 1 + 9223372036854775808) % 18446744073709551616 - 9223372036854775808 = ((q + 1 : Nat) : Int) := by omega
                   cases kd with
                   | false =>
                     have hsn : keyL (P ++ [(offI b d,⟨d,t,false,key,rd,val⟩)]) = ks := by rw [hsn]; simp
                     cases dq : decide ((q : Int) < ks.length)
                     all_goals
                       simp only [go_sem,zaa,Nat.reduceAdd,Nat.reduceSub,Nat.reduceMul,Int.reduceToNat,reduceCtorEq,↓reduceIte,Int.reducePow,Nat.reducePow,Int.reduceMod,Nat.reduceLeDiff,Int.reduceLE,Int.reduceNe,Int.reduceEq,Nat.reduceEqDiff,Nat.reduceLT,Nat.reduceBEq,tyF,zba,ty,zax,hlc,hlr,hkl2,dq,e2,Int.toNat_natCast]
                       try repeat (refine And.intro (by omega) ?_)
                       refine ⟨rs.length - (k + 1),_,by omega,zag [0,1,2,3,4] rfl rfl rfl ?_ ?_,k + 1,ks,rfl,by omega,⟨_,hnx,hsn.symm⟩,rfl⟩
                       · simp only [ssT,zaj,zak,setSlot,gOf,AV.ren,renL,Blk.ren,Ax.look,Ax.put,reduceCtorEq,↓reduceIte,Nat.reduceEqDiff,Nat.reduceLT,Nat.reduceAdd,List.length_append,List.length_cons,List.length_nil,Option.some.injEq]
                       · simp only [ssT,zaj,zak,setSlot,gOf,AV.ren,renL,Blk.ren,Ax.look,Ax.put,reduceCtorEq,↓reduceIte,Nat.reduceEqDiff,Nat.reduceLT,Nat.reduceAdd,List.length_append,List.length_cons,List.length_nil,Option.some.injEq,zfh]
                   | true =>
                     have hfr := hfr rfl
                     have hsn : keyL (P ++ [(offI b d,⟨d,t,true,key,rd,val⟩)]) = ks ++ [key] := by rw [hsn]; simp
                     by_cases hql : q < ks.length
                     · have dq : decide ((q : Int) < ks.length) = true := decide_eq_true (by omega)
                       have hsq := slot_strs ks q hql
                       have hne : decide (ks[q] = key) = false := decide_eq_false (fun h => hfr (h ▸ List.getElem_mem hql))
                       simp only [go_sem,zaa,Nat.reduceAdd,Nat.reduceSub,Nat.reduceMul,Int.reduceToNat,reduceCtorEq,↓reduceIte,Int.reducePow,Nat.reducePow,Int.reduceMod,Nat.reduceLeDiff,Int.reduceLE,Int.reduceNe,Int.reduceEq,Nat.reduceEqDiff,Nat.reduceLT,Nat.reduceBEq,tyF,zba,ty,zax,hlc,hlr,hkl2,dq,hsq,hne,e3,Int.toNat_natCast]
                       try repeat (refine And.intro (by omega) ?_)
                       refine ⟨ks.length - (q + 1),_,by omega,zag [0,1,2,3,4,5] rfl rfl rfl ?_ ?_,q + 1,rfl,by omega,rfl⟩
                       · simp only [ssT,zaj,zak,setSlot,gOf,AV.ren,renL,Blk.ren,Ax.look,Ax.put,reduceCtorEq,↓reduceIte,Nat.reduceEqDiff,Nat.reduceLT,Nat.reduceAdd,List.length_append,List.length_cons,List.length_nil,Option.some.injEq]
                       · simp only [ssT,zaj,zak,setSlot,gOf,AV.ren,renL,Blk.ren,Ax.look,Ax.put,reduceCtorEq,↓reduceIte,Nat.reduceEqDiff,Nat.reduceLT,Nat.reduceAdd,List.length_append,List.length_cons,List.length_nil,Option.some.injEq,zfh]
                     · have dq : decide ((q : Int) < ks.length) = false := decide_eq_false (by omega)
                       have hms : (ks ++ [key]).map AV.str = ks.map AV.str ++ [AV.str key] := by simp
                       simp only [go_sem,zaa,Nat.reduceAdd,Nat.reduceSub,Nat.reduceMul,Int.reduceToNat,reduceCtorEq,↓reduceIte,Int.reducePow,Nat.reducePow,Int.reduceMod,Nat.reduceLeDiff,Int.reduceLE,Int.reduceNe,Int.reduceEq,Nat.reduceEqDiff,Nat.reduceLT,Nat.reduceBEq,tyF,zba,ty,zax,hlc,hlr,hkl2,dq,e2,fillG,fillI,fillS,Int.toNat_natCast]
                       try repeat (refine And.intro (by omega) ?_)
                       refine ⟨rs.length - (k + 1),_,by omega,zag [0,1,2,3,118] rfl rfl rfl ?_ ?_,k + 1,ks ++ [key],rfl,by omega,⟨_,hnx,hsn.symm⟩,rfl⟩
                       · simp only [ssT,zaj,zak,setSlot,gOf,AV.ren,renL,Blk.ren,Ax.look,Ax.put,reduceCtorEq,↓reduceIte,Nat.reduceEqDiff,Nat.reduceLT,Nat.reduceAdd,List.length_append,List.length_cons,List.length_nil,Option.some.injEq]; try simp
                       · simp only [ssT,zaj,zak,setSlot,gOf,AV.ren,renL,Blk.ren,Ax.look,Ax.put,reduceCtorEq,↓reduceIte,Nat.reduceEqDiff,Nat.reduceLT,Nat.reduceAdd,List.length_append,List.length_cons,List.length_nil,Option.some.injEq,hms]
                         rw [← hms,zfh]
               · have d4 : decide ((k : Int) < rs.length) = false := decide_eq_false (by omega)
                 have hdk : (offL ⟨b,c,p,e,s,rs⟩).drop k = [] := List.drop_eq_nil_of_le (by simp [offL]; omega)
                 rw [hdk,List.nil_append] at hPk
                 simp only [go_sem,zaa,Nat.reduceAdd,Nat.reduceSub,Nat.reduceMul,Int.reduceToNat,reduceCtorEq,↓reduceIte,Int.reducePow,Nat.reducePow,Int.reduceMod,Nat.reduceLeDiff,Int.reduceLE,Int.reduceNe,Int.reduceEq,Nat.reduceEqDiff,Nat.reduceLT,Nat.reduceBEq,tyF,zba,ty,zax,hlc,hlr,d4,hs1,e1,Int.toNat_natCast]
                 try repeat (refine And.intro (by omega) ?_)
                 refine ⟨C.length - (i + 1),_,by omega,zag [0,1,2,3,4] rfl rfl rfl ?_ ?_,i + 1,ks,rfl,by omega,⟨P,hPk,hks⟩,rfl⟩
                 · simp only [ssT,zaj,zak,setSlot,gOf,AV.ren,renL,Blk.ren,Ax.look,Ax.put,reduceCtorEq,↓reduceIte,Nat.reduceEqDiff,Nat.reduceLT,Nat.reduceAdd,List.length_append,List.length_cons,List.length_nil,Option.some.injEq]
                 · simp only [ssT,zaj,zak,setSlot,gOf,AV.ren,renL,Blk.ren,Ax.look,Ax.put,reduceCtorEq,↓reduceIte,Nat.reduceEqDiff,Nat.reduceLT,Nat.reduceAdd,List.length_append,List.length_cons,List.length_nil,Option.some.injEq,zfh]
           · have d3 : decide ((i : Int) < C.length) = false := decide_eq_false (by omega)
             have hdr : C.drop i = [] := List.drop_eq_nil_of_le (by omega)
             rw [hdr] at hP0
             have hks : ks = keyL (zaw C) := by rw [hks,hP0]; simp [zaw]
             rw [← hks] at hkle hkeq
             have hkl2 : (ks.map AV.str).length = ks.length := by simp
             have dle : decide ((ks.length : Int) ≤ M.length) = true := decide_eq_true (by omega)
             have hCL : C.length ≤ 1000000 := by omega
             cases dd with
             | true =>
               simp only [go_sem,zaa,Nat.reduceAdd,Nat.reduceSub,Nat.reduceMul,Int.reduceToNat,reduceCtorEq,↓reduceIte,Int.reducePow,Nat.reducePow,Int.reduceMod,Nat.reduceLeDiff,Int.reduceLE,Int.reduceNe,Int.reduceEq,Nat.reduceEqDiff,Nat.reduceLT,Nat.reduceBEq,tyF,zba,ty,zax,zdt,yesS,hL6,hb,hcz,hlp,mu,hM,hlc,hlk,hkl2,d3,dle]
               try omega
             | false =>
               have deq : decide ((ks.length : Int) = M.length) = true := decide_eq_true (by have := hkeq rfl; omega)
               have hdf := hdir rfl
               simp only [go_sem,zaa,Nat.reduceAdd,Nat.reduceSub,Nat.reduceMul,Int.reduceToNat,reduceCtorEq,↓reduceIte,Int.reducePow,Nat.reducePow,Int.reduceMod,Nat.reduceLeDiff,Int.reduceLE,Int.reduceNe,Int.reduceEq,Nat.reduceEqDiff,Nat.reduceLT,Nat.reduceBEq,tyF,zba,ty,zax,zdt,dir17S,yesS,hL6,hb,hcz,hcC,hlp,mu,hM,hlc,hlk,huc,hsm,hCL,hkl2,d3,dle,deq,hdf,Bool.not_false]
               try omega
   · have d0 : decide (lgt17 (xs.map ubat)) = false := decide_eq_false hg
     have hcz : ∀ h,coe (zba ty) 22 (.sg 6 xs h) = .sg 6 xs h := fun h => by cases xs <;> rfl
     simp only [go_sem,zaa,Nat.reduceAdd,Nat.reduceSub,Nat.reduceMul,Int.reduceToNat,reduceCtorEq,↓reduceIte,Int.reducePow,Nat.reducePow,Int.reduceMod,Nat.reduceLeDiff,Int.reduceLE,Int.reduceNe,Int.reduceEq,Nat.reduceEqDiff,Nat.reduceLT,Nat.reduceBEq,tyF,zba,ty,zax,lgt17S,yesS,hL,hb,hcz,d0,Bool.not_false]
 · exact hp.elim
end
theorem lonce_dom {x y z : AV} (hx : Arg ty 8 22 x) (hy : Arg ty 8 3 y) (hz : Arg ty 8 3 z) : (lonceS [x,y,z] []).p ∧ (lonceS [x,y,z] []).x = .w (.bool true) := by
 obtain ⟨xs,f,rfl,h1,h2⟩ := arg_batsD (j := 2) hx
 obtain ⟨o,rfl⟩ := arg_intD hy
 obtain ⟨m,rfl⟩ := arg_intD hz
 exact ⟨⟨h1,h2⟩,rfl⟩
end Go.Proofs.Ytckbejanaebjkaa
