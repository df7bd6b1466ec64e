/- What the proofs of this seat stand on; it asks nothing. -/
import Derived.Test.YtjiognhpcijndaaZa10
import Derived.Test.YtjiognhpcijndaaZb00
set_option linter.unusedSimpArgs false
set_option linter.unusedVariables false
namespace Go.Proofs.Ytjiognhpcijndaa
open Ax
def okL : Int → List Bat → Prop
 | _,[] => True
 | a,x :: r => bE x = 0 ∧ a ≤ x.b ∧ okL (nxB x) r
theorem chkL_ok : ∀ (l : List Bat) (a : Int),chkL a l = 0 ↔ okL a l
 | [],a => by simp [chkL,okL]
 | x :: r,a => by
   unfold chkL okL
   by_cases h1 : bE x = 0
   · rw [if_pos h1]
     by_cases h2 : x.b < a
     · rw [if_pos h2]; constructor
       · intro h; omega
       · rintro ⟨_,h,_⟩; omega
     · rw [if_neg h2,chkL_ok r]
       exact ⟨fun h => ⟨h1,by omega,h⟩,fun h => h.2.2⟩
   · rw [if_neg h1]
     exact ⟨fun h => (h1 h).elim,fun h => (h1 h.1).elim⟩
theorem chkG_ok {B : Int} {l : List Bat} (h : chkG B l = 0) : 0 ≤ B ∧ okL B l := by
 unfold chkG at h
 split at h
 · omega
 · rename_i h1
   exact ⟨by omega,(chkL_ok l B).1 h⟩
theorem lastN_cons (B : Int) (x : Bat) (l : List Bat) : zce B (x :: l) = zce (nxB x) l := rfl
theorem okL_last : ∀ (l : List Bat) (a : Int),okL a l → a ≤ zce a l ∧ ∀ x ∈ l,a < nxB x ∧ nxB x ≤ zce a l
 | [],a,_ => ⟨Int.le_refl _,by simp⟩
 | x :: r,a,h => by
   obtain ⟨h1,h2,h3⟩ := h
   have hn := bE_nx h1
   obtain ⟨h4,h5⟩ := okL_last r (nxB x) h3
   rw [lastN_cons]
   refine ⟨by omega,fun y hy => ?_⟩
   rcases List.mem_cons.1 hy with rfl | hy
   · exact ⟨by omega,h4⟩
   · have := h5 y hy; exact ⟨by omega,this.2⟩
theorem okL_cons (a : Int) (x : Bat) (r : List Bat) : okL a (x :: r) = (bE x = 0 ∧ a ≤ x.b ∧ okL (nxB x) r) := rfl
theorem okL_split : ∀ (l1 : List Bat) (a : Int) (l2 : List Bat),okL a (l1 ++ l2) ↔ okL a l1 ∧ okL (zce a l1) l2
 | [],a,l2 => by simp [okL,zce]
 | x :: r,a,l2 => by
   rw [List.cons_append,lastN_cons,okL_cons,okL_cons,okL_split r]
   constructor
   · rintro ⟨a,b,c,d⟩; exact ⟨⟨a,b,c⟩,d⟩
   · rintro ⟨⟨a,b,c⟩,d⟩; exact ⟨a,b,c,d⟩
theorem sel_below {off : Int} {l : List Bat} (h : ∀ x ∈ l,nxB x ≤ off) : selB off l = [] := by
 unfold selB
 rw [List.filter_eq_nil_iff.2 (fun x hx => by have := h x hx; simp; omega)]
 rfl
theorem fetch_end {B : Int} {l : List Bat} (h : okL B l) (n : Int) : zaq (zce B l) n l = [] := by
 unfold zaq
 rw [sel_below (fun y hy => ((okL_last l B h).2 y hy).2)]
 simp
end Go.Proofs.Ytjiognhpcijndaa
