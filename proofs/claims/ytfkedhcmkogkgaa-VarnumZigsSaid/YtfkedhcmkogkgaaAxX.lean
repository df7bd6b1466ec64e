/- From what is said of a function to what a law's shell asks. -/
import Derived.Test.YtfkedhcmkogkgaaAxZ
import Derived.Below
namespace Go.Proofs.Ytfkedhcmkogkgaa
namespace Ax
open Go.RowKit
set_option linter.unusedSimpArgs false
set_option linter.unusedVariables false

theorem fn_sound {P : Program} {T : Types} {S : FSpecs} (hm : P.follows .mixedOrders = true) (hT : TOk P T) (hS : Fns P S) {f : FuncId} {fn : Func} {c : Code} (hf : P.funcs[f]? = some fn) (hb : fn.body = some c) {spec : FSpec}
    (h : ∀ xs pins, (spec xs pins).p → closedB pins = true → pins.length ≤ 4 ∧ awp S T c (Ends T fn.results.toList pins (spec xs pins)) ⟨xs ++ List.replicate (fn.ntmps - xs.length) .junk, pinHeap 0 pins, 4⟩) : Sound P f spec :=
  sound_gen hT hS (draw_sound hT hS hm) hf hb (Qp := fun xs pins => Ends T fn.results.toList pins (spec xs pins)) (fun _ _ _ σ h => ⟨σ, Weak.refl σ, h⟩) h

theorem fn_soundW {P : Program} {T : Types} {S : FSpecs} (hm : P.follows .mixedOrders = true) (hT : TOk P T) (hS : Fns P S) {f : FuncId} {fn : Func} {c : Code} (hf : P.funcs[f]? = some fn) (hb : fn.body = some c) {spec : FSpec}
    (h : ∀ xs pins, (spec xs pins).p → closedB pins = true → pins.length ≤ 4 ∧ awp S T c (EndsW T fn.results.toList pins (spec xs pins)) ⟨xs ++ List.replicate (fn.ntmps - xs.length) .junk, pinHeap 0 pins, 4⟩) : Sound P f spec :=
  sound_gen hT hS (draw_sound hT hS hm) hf hb (Qp := fun xs pins => EndsW T fn.results.toList pins (spec xs pins)) (fun _ _ _ _ h => h) h

theorem awp_drawn {S : FSpecs} {T : Types} {Q : Exit → ASt → Prop} {σ : ASt} {id : Nat} {l : List Oper} (h : drawOk T l = true) : awp S T (.region id l.toArray true) Q σ = aops S T l σ.nx l σ.sl σ.H (regK (σ.nx + 8 * l.length) Q) := by
  simp [awp, h]

def none0 : Nat → Prop := fun _ => False
def loc0 : Loc := locOf [] none0

theorem law_run {P : Program} {f : FuncId} {spec : FSpec} (h : Sound P f spec) {xs : List AV} {vs : List Value} {w : World} (hp : (spec xs []).p) (hx : (spec xs []).x = .w (.bool true)) (hl : xs.length = vs.length)
    (hR : ∀ (j : Nat) (h : j < xs.length) (h' : j < vs.length), R w loc0 xs[j] vs[j]) : Calls P f vs.toArray w fun e w' => e = .returned (.bool true) ∧ Below w.heap.size w w' := by
  refine (h xs [] hp rfl w none0 [] vs rfl (by simp) (fun _ h => h.elim) (fun k h => by simp at h) hl hR).mono ?_
  rintro e w' ⟨v, loc', rfl, hg⟩
  have hr := hg.r
  rw [hx] at hr
  rw [hr.wv]
  refine ⟨rfl, hg.fram.os, hg.fram.tape, hg.fram.output, hg.fram.size, fun k hk => hg.fram.same k hk (by simp)⟩

end Ax
end Go.Proofs.Ytfkedhcmkogkgaa
