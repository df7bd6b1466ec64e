/- What the proofs of this seat stand on; it asks nothing. -/
import Derived.Test.YtmedjkjoannbmaaZa18
import Derived.Test.YtmedjkjoannbmaaZb00
set_option linter.unusedSimpArgs false
set_option linter.unusedVariables false
namespace Go.Proofs.Ytmedjkjoannbmaa
open Ax
set_option maxRecDepth 10000
set_option maxHeartbeats 2000000
def rpV (k er o x : Int) (d : Bool) (g : Int) (es : List (Bat × Bool)) (f1 : Bool) (ps : List Int) (f2 : Bool) (ks : List (List UInt8)) (f3 : Bool) : AV :=
 .agg [.w (.int .u8 k),.w (.int .i64 er),.w (.int .i64 o),.w (.int .i64 x),.w (.bool d),.w (.int .i64 g),.sg 6 (es.map bvp) f1,.si ps f2,.sg 1 (ks.map AV.str) f3]
theorem arg_rp22 {x : AV} (h : Arg ty 6 42 x) : ∃ k er o y d g es f1 ps f2 ks f3,x = rpV k er o y d g es f1 ps f2 ks f3 ∧ rpP k er o y g es ps ks := by
 obtain ⟨i,ls,hi,hs,rfl⟩ := h
 obtain ⟨k,er,o,y,d,g,es,f1,ps,f2,ks,f3,rfl,hp⟩ := shape_rp22 (n := 0) hs
 simp only [ty] at hi
 injection hi with hi
 subst hi
 exact ⟨k,er,o,y,d,g,es,f1,ps,f2,ks,f3,rfl,hp⟩
def isRp22 (x : AV) : Prop := ∃ k er o y d g es f1 ps f2 ks f3,x = rpV k er o y d g es f1 ps f2 ks f3 ∧ rpP k er o y g es ps ks
theorem is_rp22 {x : AV} (h : Arg ty 6 42 x) : isRp22 x := arg_rp22 h
end Go.Proofs.Ytmedjkjoannbmaa
