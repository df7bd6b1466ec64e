/- What the proofs of this seat stand on; it asks nothing. -/
import Derived.Test.YtmedjkjoannbmaaZa18
import Derived.Test.YtmedjkjoannbmaaZb00
import Derived.Test.YtmedjkjoannbmaaZc00
set_option linter.unusedSimpArgs false
set_option linter.unusedVariables false
namespace Go.Proofs.Ytmedjkjoannbmaa
open Ax
theorem eqQ_iff (q r : Rq) : eqQ q.k q.t q.i q.p q.c q.f q.o q.m q.w q.g q.mb q.n r.k r.t r.i r.p r.c r.f r.o r.m r.w r.g r.mb r.n (zdh q.b.b q.b.c q.b.p q.b.e q.b.s q.b.rs r.b.b r.b.c r.b.p r.b.e r.b.s r.b.rs) = true ↔ q = r := by
 obtain ⟨k,t,i,p,c,f,o,m,w,g,mb,n,⟨b1,b2,b3,b4,b5,rs⟩⟩ := q
 obtain ⟨k',t',i',p',c',f',o',m',w',g',mb',n',⟨b1',b2',b3',b4',b5',rs'⟩⟩ := r
 constructor
 · intro h
   obtain ⟨⟨h1,h2,h3,h4,h5,h6,h7,h8,h9,h10,h11,h12⟩,hB⟩ := eqQ_eq h
   obtain ⟨g1,g2,g3,g4,g5,g6⟩ := zdo hB
   simp only at h1 h2 h3 h4 h5 h6 h7 h8 h9 h10 h11 h12 g1 g2 g3 g4 g5 g6
   subst h1 h2 h3 h4 h5 h6 h7 h8 h9 h10 h11 h12 g1 g2 g3 g4 g5 g6
   rfl
 · intro h
   injection h with h1 h2 h3 h4 h5 h6 h7 h8 h9 h10 h11 h12 hb
   injection hb with g1 g2 g3 g4 g5 g6
   subst h1 h2 h3 h4 h5 h6 h7 h8 h9 h10 h11 h12 g1 g2 g3 g4 g5 g6
   unfold eqQ zdh
   simp
theorem eqA_iff (a b : Rs) : eqA a.k a.er a.o a.x a.d a.g b.k b.er b.o b.x b.d b.g (decide (a.bl = b.bl) && (decide (a.pl = b.pl) && decide (a.nl = b.nl))) = true ↔ a = b := by
 obtain ⟨k,er,o,x,d,g,bl,pl,nl⟩ := a
 obtain ⟨k',er',o',x',d',g',bl',pl',nl'⟩ := b
 unfold eqA
 simp only [Bool.and_eq_true,decide_eq_true_iff]
 constructor
 · rintro ⟨⟨rfl,rfl,rfl,rfl,rfl,rfl⟩,rfl,rfl,rfl⟩; rfl
 · intro h
   injection h with h1 h2 h3 h4 h5 h6 h7 h8 h9
   exact ⟨⟨h1,h2,h3,h4,h5,h6⟩,h7,h8,h9⟩
theorem rsp_rd {a : Rs} (h : errR a = 0) (hf : fitA a) (z : List UInt8) : rdA c64 8192 (zfb a ++ z) = a := (rd_layA c64 c64_good 8192 (Int.le_refl _) a h hf z).1
end Go.Proofs.Ytmedjkjoannbmaa
