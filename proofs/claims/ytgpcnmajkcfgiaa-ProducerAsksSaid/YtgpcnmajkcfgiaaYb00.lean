/- What the proofs of this seat stand on; it asks nothing. -/
import Derived.Test.YtgpcnmajkcfgiaaYa13
set_option linter.unusedSimpArgs false
set_option linter.unusedVariables false
namespace Go.Proofs.Ytgpcnmajkcfgiaa
open Ax
structure Rec where
 d : Int
 t : Int
 k : Bool
 key : List UInt8
 dd : Bool
 val : List UInt8
def rv (r : Rec) : AV := .agg [.w (.int .i64 r.d),.w (.int .i64 r.t),.w (.bool r.k),.str r.key,.w (.bool r.dd),.str r.val]
section
set_option maxRecDepth 100000
set_option maxHeartbeats 2000000 in
end
end Go.Proofs.Ytgpcnmajkcfgiaa
namespace Go.Proofs.Ytgpcnmajkcfgiaa
open Ax
theorem closed_rv : ∀ (G : List Rec),closedL (G.map rv) = true
 | [] => rfl
 | x :: r => by simp only [List.map_cons,closedL,rv,AV.closed,Bool.true_and]; exact closed_rv r
structure Bat where
 b : Int
 c : Int
 p : Int
 e : Int
 s : Int
 rs : List Rec
def bav (x : Bat) (f : Bool) : AV := .agg [.w (.int .i64 x.b),.w (.int .i64 x.c),.w (.int .i64 x.p),.w (.int .i64 x.e),.w (.int .i64 x.s),.sg 6 (x.rs.map rv) f]
end Go.Proofs.Ytgpcnmajkcfgiaa
namespace Go.Proofs.Ytgpcnmajkcfgiaa
open Ax
instance : DecidableEq Rec := fun a b => decidable_of_iff (a.d = b.d ∧ a.t = b.t ∧ a.k = b.k ∧ a.key = b.key ∧ a.dd = b.dd ∧ a.val = b.val) (by cases a; cases b; simp)
section
set_option maxRecDepth 100000
set_option maxHeartbeats 1000000 in
set_option maxHeartbeats 1000000 in
set_option maxHeartbeats 1000000 in
end
end Go.Proofs.Ytgpcnmajkcfgiaa
namespace Go.Proofs.Ytgpcnmajkcfgiaa
open Ax
instance batDec : DecidableEq Bat := fun a b => decidable_of_iff (a.b = b.b ∧ a.c = b.c ∧ a.p = b.p ∧ a.e = b.e ∧ a.s = b.s ∧ a.rs = b.rs) (by cases a; cases b; simp)
end Go.Proofs.Ytgpcnmajkcfgiaa
namespace Go.Proofs.Ytgpcnmajkcfgiaa
open Ax
theorem ins_mem (l : List En) (x : En) (K : Nat) : ∀ y,y ∈ l.take K ++ x :: l.drop K → y = x ∨ y ∈ l := by
 intro y hy
 rcases List.mem_append.1 hy with h | h
 · exact .inr (List.mem_of_mem_take h)
 · rcases List.mem_cons.1 h with h | h
   · exact .inl h
   · exact .inr (List.mem_of_mem_drop h)
theorem newL_len (x : List Se) (s c b : Int) : (newL x s c b).length ≤ 5 ∧ (newL x s c b).length ≤ x.length + 1 := by
 unfold newL lst5
 rw [List.length_drop,List.length_append,List.length_singleton]
 omega
def okN (n : Nat) (l : List En) : Prop := l.length ≤ n ∧ ∀ r ∈ l,r.l.length ≤ 900000
theorem okN_ok {n : Nat} {l : List En} (h : okN n l) (hn : n ≤ 900000) : okL l := ⟨Nat.le_trans h.1 hn,h.2⟩
theorem okN_put {n : Nat} {l : List En} (h : okN n l) (b c p e s : Int) : okN (n + 1) (putF l b c p e s) := by
 unfold putF
 by_cases hp : p = 0
 · rw [if_pos hp]; exact ⟨Nat.le_succ_of_le h.1,h.2⟩
 · rw [if_neg hp]
   by_cases h1 : l.findIdx (isI p) < l.length
   · rw [if_pos h1]
     refine ⟨by rw [setF_len]; exact Nat.le_succ_of_le h.1,fun r hr => ?_⟩
     unfold setF at hr
     rcases List.mem_or_eq_of_mem_set hr with h2 | rfl
     · exact h.2 r h2
     · have := (newL_len (oldL (entI l (l.findIdx (isI p))) e) s c b).1
       simp only; omega
   · rw [if_neg h1]
     refine ⟨by rw [addF_len]; have := h.1; omega,fun r hr => ?_⟩
     unfold addF at hr
     rcases ins_mem l _ _ r hr with rfl | h2
     · have := (newL_len [] s c b).1
       simp only; omega
     · exact h.2 r h2
end Go.Proofs.Ytgpcnmajkcfgiaa
namespace Go.Proofs.Ytgpcnmajkcfgiaa
open Ax
theorem all_rv13 : ∀ (xs : List AV),(∀ x ∈ xs,∃ r : Rec,x = rv r) → ∃ rs : List Rec,xs = rs.map rv
 | [],_ => ⟨[],rfl⟩
 | x :: xs,h => by
   obtain ⟨r,rfl⟩ := h x (by simp)
   obtain ⟨rs,rfl⟩ := all_rv13 xs (fun y hy => h y (by simp [hy]))
   exact ⟨r :: rs,rfl⟩
theorem arg_bat13 {j : Nat} {x : AV} (h : Arg ty (j + 6) 27 x) : ∃ (b : Bat) (f : Bool),x = bav b f ∧ b.rs.length ≤ 9223372036854775807 := by
 obtain ⟨i,ls,hi,hs,rfl⟩ := h
 simp only [ty] at hi
 injection hi with hi
 subst hi
 simp only [Shape,ty,ShapeF,isFlatI] at hs
 obtain ⟨l1,r1,rfl,⟨m1,rfl,w1⟩,l2,r2,rfl,⟨m2,rfl,w2⟩,l3,r3,rfl,⟨m3,rfl,w3⟩,l4,r4,rfl,⟨m4,rfl,w4⟩,l5,r5,rfl,⟨m5,rfl,w5⟩,l6,r6,rfl,⟨xs,f,rfl,hl,hx⟩,rfl⟩ := hs
 obtain ⟨rs,rfl⟩ := all_rv13 xs (fun x hxm => by
   obtain ⟨l,⟨l1,r1,rfl,⟨m1,rfl,w1⟩,l2,r2,rfl,⟨m2,rfl,w2⟩,l3,r3,rfl,⟨m3,rfl⟩,l4,r4,rfl,⟨m4,rfl,w4⟩,l5,r5,rfl,⟨m5,rfl⟩,l6,r6,rfl,⟨m6,rfl,w6⟩,rfl⟩,_,rfl⟩ := hx x hxm
   exact ⟨⟨m1,m2,m3,m4,m5,m6⟩,rfl⟩)
 refine ⟨⟨m1,m2,m3,m4,m5,rs⟩,f,rfl,?_⟩
 rw [List.length_map] at hl
 have : maxLen = 9223372036854775807 := by decide
 show rs.length ≤ _
 omega
end Go.Proofs.Ytgpcnmajkcfgiaa
