/- What the proofs of this seat stand on; it asks nothing. -/
import Derived.Test.YtlpjdgkpapjldaaYa12
set_option linter.unusedSimpArgs false
set_option linter.unusedVariables false
namespace Go.Proofs.Ytlpjdgkpapjldaa
namespace Ax
open Go.RowKit
theorem loopN_pure {f : CS → Option (Exit × CS)} (hf : ∀ τ e τ',f τ = some (e,τ') → PureOk τ τ') : ∀ (k : Nat) (τ : CS) (e : Exit) (τ' : CS),loopN f k τ = some (e,τ') → PureOk τ τ'
 | 0,τ,e,τ',h => by cases h
 | k + 1,τ,e,τ',h => by
   unfold loopN at h
   split at h
   · rename_i τ1 h1; exact (hf _ _ _ h1).trans (loopN_pure hf k τ1 e τ' h)
   · rename_i id τ1 h1; injection h with h; injection h with h2 h3; subst h3; exact hf _ _ _ h1
   · rename_i τ1 h1; injection h with h; injection h with h2 h3; subst h3; exact hf _ _ _ h1
   · cases h
section
variable {P : Program} {T : zab} (hT : TOk P T) {S : zag} {SB : SpecB} (hS : Fns P S) (hSB : SpecBOk P S SB) {call : zcz} (hcall : CallOk P call)
include hT hS hSB hcall
theorem runC_pure : ∀ (c : Code) (τ : CS) (e : Exit) (τ' : CS),runC T SB call c τ = some (e,τ') → PureOk τ τ' := by
 intro c
 induction c with
 | skip => intro τ e τ' h; injection h with h; injection h with h1 h2; subst h2; exact .refl _
 | label l => intro τ e τ' h; injection h with h; injection h with h1 h2; subst h2; exact .refl _
 | exit id => intro τ e τ' h; injection h with h; injection h with h1 h2; subst h2; exact .refl _
 | ret => intro τ e τ' h; injection h with h; injection h with h1 h2; subst h2; exact .refl _
 | region id ops draw =>
   intro τ e τ' h
   have key : ∀ q,(match zfr T SB call ops.toList q 0 ops.toList τ with | some τ => some (Exit.normal,τ) | none => none) = some (e,τ') → PureOk τ τ' := by
     intro q h
     split at h
     · rename_i τ1 h1; injection h with h; injection h with h2 h3; subst h3; exact runOps_pure hT hS hSB hcall _ _ _ _ h1
     · cases h
   unfold runC at h
   cases draw with
   | false => exact key _ h
   | true =>
     simp only [cond_true] at h
     cases h1 : drawOkX (fun i => zcv T ((quietL T ops.toList).getD i false)) ops.toList with
     | true => rw [h1] at h; exact key _ h
     | false => rw [h1] at h; cases h
 | seq a b iha ihb =>
   intro τ e τ' h
   unfold runC at h
   split at h
   · rename_i τ1 h1; exact (iha _ _ _ h1).trans (ihb _ _ _ h)
   · rename_i id τ1 h1; injection h with h; injection h with h2 h3; subst h3; exact iha _ _ _ h1
   · rename_i τ1 h1; injection h with h; injection h with h2 h3; subst h3; exact iha _ _ _ h1
   · cases h
 | cond c a b iha ihb =>
   intro τ e τ' h
   unfold runC at h
   split at h
   · exact iha _ _ _ h
   · exact ihb _ _ _ h
   · cases h
 | block id c ih =>
   intro τ e τ' h
   unfold runC at h
   split at h
   · rename_i id' τ1 h1
     split at h
     · injection h with h; injection h with h2 h3; subst h3; exact ih _ _ _ h1
     · injection h with h; injection h with h2 h3; subst h3; exact ih _ _ _ h1
   · rename_i τ1 h1; injection h with h; injection h with h2 h3; subst h3; exact ih _ _ _ h1
   · rename_i τ1 h1; injection h with h; injection h with h2 h3; subst h3; exact ih _ _ _ h1
   · cases h
 | loop c ih =>
   intro τ e τ' h
   unfold runC at h
   exact loopN_pure ih _ _ _ _ h
 | _ => intro τ e τ' h; cases h
def After (Z : Nat) (w0 : World) (E : Nat → Prop) (w : World) (loc : Loc) (nm : Nat) (e : Exit) (τ' : CS) : Exit → Act → World → Prop :=
 fun e' a' w' => e' = e ∧ ∃ loc',RelT Z w0 E loc' τ' a' w' ∧ Tn w loc nm τ'.nx w' loc'
theorem runC_ok (hm : P.follows .mixedOrders = true) {Z : Nat} {w0 : World} {E : Nat → Prop} : ∀ (c : Code) (τ : CS) (e : Exit) (τ' : CS) (a : Act) (w : World) (loc : Loc),runC T SB call c τ = some (e,τ') → LowC τ.H τ.nx → τ'.nx ≤ Z → RelT Z w0 E loc τ a w →
   c.wp P (After Z w0 E w loc τ.nx e τ') a w := by
 intro c
 induction c with
 | skip => intro τ e τ' a w loc h hl hz hr; injection h with h; injection h with h1 h2; subst h1 h2; exact wp_skip ⟨rfl,loc,hr,Tn.refl _ _ _ _⟩
 | label l => intro τ e τ' a w loc h hl hz hr; injection h with h; injection h with h1 h2; subst h1 h2; exact wp_label ⟨rfl,loc,hr,Tn.refl _ _ _ _⟩
 | exit id => intro τ e τ' a w loc h hl hz hr; injection h with h; injection h with h1 h2; subst h1 h2; exact wp_exit ⟨rfl,loc,hr,Tn.refl _ _ _ _⟩
 | ret => intro τ e τ' a w loc h hl hz hr; injection h with h; injection h with h1 h2; subst h1 h2; exact wp_ret ⟨rfl,loc,hr,Tn.refl _ _ _ _⟩
 | region id ops draw =>
   intro τ e τ' a w loc h hl hz hr
   unfold runC at h
   cases draw with
   | false =>
     simp only [cond_false] at h
     split at h
     · rename_i τ1 h1
       injection h with h; injection h with h2 h3; subst h2 h3
       exact wp_region_list (runOps_seq hT hS hSB hcall _ _ _ _ a w loc h1 hl hz hr fun a' w' loc' h4 h5 => ⟨rfl,loc',h4,h5⟩)
     · cases h
   | true =>
     simp only [cond_true] at h
     cases hd : drawOkX (fun i => zcv T ((quietL T ops.toList).getD i false)) ops.toList with
     | false => rw [hd] at h; cases h
     | true =>
       rw [hd,cond_true] at h
       split at h
       · rename_i τ1 h1
         injection h with h; injection h with h2 h3; subst h2 h3
         have := runOps_draw (id := id) hm hT hS hSB hcall (q := fun i => (quietL T ops.toList).getD i false) hd h1 hl hz hr
         exact this
       · cases h
 | seq x y ihx ihy =>
   intro τ e τ' a w loc h hl hz hr
   unfold runC at h
   split at h
   · rename_i τ1 h1
     have hp1 := runC_pure hT hS hSB hcall _ _ _ _ h1
     have hp2 := runC_pure hT hS hSB hcall _ _ _ _ h
     refine wp_seq (wp_mono (ihx _ _ _ a w loc h1 hl (Nat.le_trans hp2.mono hz) hr) ?_)
     rintro e' a' w' ⟨rfl,loc',h2,h3⟩
     refine wp_mono (ihy _ _ _ a' w' loc' h (hp1.low hl) hz h2) ?_
     rintro e' a2 w2 ⟨rfl,loc2,h4,h5⟩
     exact ⟨rfl,loc2,h4,h3.trans h5 hp1.mono hp2.mono⟩
   · rename_i id τ1 h1
     injection h with h; injection h with h2 h3; subst h2 h3
     refine wp_seq (wp_mono (ihx _ _ _ a w loc h1 hl hz hr) ?_)
     rintro e' a' w' ⟨rfl,loc',h2,h3⟩
     exact ⟨rfl,loc',h2,h3⟩
   · rename_i τ1 h1
     injection h with h; injection h with h2 h3; subst h2 h3
     refine wp_seq (wp_mono (ihx _ _ _ a w loc h1 hl hz hr) ?_)
     rintro e' a' w' ⟨rfl,loc',h2,h3⟩
     exact ⟨rfl,loc',h2,h3⟩
   · cases h
 | cond c x y ihx ihy =>
   intro τ e τ' a w loc h hl hz hr
   have hv := ev_R hr.slots c
   rw [evC_ok] at hv
   unfold runC at h
   split at h
   · rename_i hc
     rw [hc] at hv
     exact wp_cond_true hv.wv (ihx _ _ _ a w loc h hl hz hr)
   · rename_i hc
     rw [hc] at hv
     exact wp_cond_false hv.wv (ihy _ _ _ a w loc h hl hz hr)
   · cases h
 | block id c ih =>
   intro τ e τ' a w loc h hl hz hr
   unfold runC at h
   split at h
   · rename_i id' τ1 h1
     split at h
     · rename_i he
       injection h with h; injection h with h2 h3; subst h2 h3
       refine wp_block (wp_mono (ih _ _ _ a w loc h1 hl hz hr) ?_)
       rintro e' a' w' ⟨rfl,loc',h2,h3⟩
       simp only [Exit.inBlock]
       rw [if_pos he]
       exact ⟨rfl,loc',h2,h3⟩
     · rename_i he
       injection h with h; injection h with h2 h3; subst h2 h3
       refine wp_block (wp_mono (ih _ _ _ a w loc h1 hl hz hr) ?_)
       rintro e' a' w' ⟨rfl,loc',h2,h3⟩
       simp only [Exit.inBlock]
       rw [if_neg he]
       exact ⟨rfl,loc',h2,h3⟩
   · rename_i τ1 h1
     injection h with h; injection h with h2 h3; subst h2 h3
     refine wp_block (wp_mono (ih _ _ _ a w loc h1 hl hz hr) ?_)
     rintro e' a' w' ⟨rfl,loc',h2,h3⟩
     exact ⟨rfl,loc',h2,h3⟩
   · rename_i τ1 h1
     injection h with h; injection h with h2 h3; subst h2 h3
     refine wp_block (wp_mono (ih _ _ _ a w loc h1 hl hz hr) ?_)
     rintro e' a' w' ⟨rfl,loc',h2,h3⟩
     exact ⟨rfl,loc',h2,h3⟩
   · cases h
 | loop c ih =>
   intro τ e τ' a w loc h hl hz hr
   unfold runC at h
   have hcp := runC_pure hT hS hSB hcall c
   let p : Act → World → Nat → Prop := fun a1 w1 k => ∃ τ1 loc1,loopN (runC T SB call c) k τ1 = some (e,τ') ∧ LowC τ1.H τ1.nx ∧ RelT Z w0 E loc1 τ1 a1 w1 ∧ Tn w loc τ.nx τ1.nx w1 loc1 ∧ τ.nx ≤ τ1.nx
   have hleast : ∀ a w,(∃ n,p a w n) → ∃ m,p a w m ∧ ∀ k,p a w k → m ≤ k := fun a w ⟨n,hn⟩ => let ⟨m,h1,_,h3⟩ := least n hn; ⟨m,h1,h3⟩
   open Classical in
   let μ : Act → World → Nat := fun a w => if h : ∃ n,p a w n then Classical.choose (hleast a w h) else 0
   refine wp_loop (fun a w => ∃ n,p a w n) μ ⟨_,τ,loc,h,hl,hr,Tn.refl _ _ _ _,Nat.le_refl _⟩ ?_
   intro a1 w1 hex
   have hμ : μ a1 w1 = Classical.choose (hleast a1 w1 hex) := dif_pos hex
   obtain ⟨hp,hmin⟩ := Classical.choose_spec (hleast a1 w1 hex)
   rw [← hμ] at hp hmin
   obtain ⟨τ1,loc1,h1,h2,h3,h4,h5⟩ := hp
   obtain ⟨k,hk⟩ : ∃ k,μ a1 w1 = k := ⟨_,rfl⟩
   rw [hk] at h1 hmin ⊢
   cases k with
   | zero => cases h1
   | succ k =>
     unfold loopN at h1
     split at h1
     · rename_i τ2 h6
       have hp1 := hcp _ _ _ h6
       have hp2 := loopN_pure hcp _ _ _ _ h1
       refine wp_mono (ih _ _ _ a1 w1 loc1 h6 h2 (Nat.le_trans hp2.mono hz) h3) ?_
       rintro e' a2 w2 ⟨rfl,loc2,h7,h8⟩
       have hp' : p a2 w2 k := ⟨τ2,loc2,h1,hp1.low h2,h7,h4.trans h8 h5 hp1.mono,Nat.le_trans h5 hp1.mono⟩
       refine ⟨⟨k,hp'⟩,?_⟩
       have hμ' : μ a2 w2 = Classical.choose (hleast a2 w2 ⟨k,hp'⟩) := dif_pos ⟨k,hp'⟩
       have := (Classical.choose_spec (hleast a2 w2 ⟨k,hp'⟩)).2 k hp'
       rw [← hμ'] at this
       omega
     · rename_i id τ2 h6
       injection h1 with h1; injection h1 with h9 h10; subst h9 h10
       refine wp_mono (ih _ _ _ a1 w1 loc1 h6 h2 hz h3) ?_
       rintro e' a2 w2 ⟨rfl,loc2,h7,h8⟩
       exact ⟨rfl,loc2,h7,h4.trans h8 h5 (hcp _ _ _ h6).mono⟩
     · rename_i τ2 h6
       injection h1 with h1; injection h1 with h9 h10; subst h9 h10
       refine wp_mono (ih _ _ _ a1 w1 loc1 h6 h2 hz h3) ?_
       rintro e' a2 w2 ⟨rfl,loc2,h7,h8⟩
       exact ⟨rfl,loc2,h7,h4.trans h8 h5 (hcp _ _ _ h6).mono⟩
     · cases h1
 | _ => intro τ e τ' a w loc h hl hz hr; cases h
end
theorem crvals_ok {T : zab} {τ : CS} : ∀ {rs : List ResultVar} {l : List AV},crvals T τ rs = some l → (rvals T (toH τ.H) (toS τ.n τ.sl) rs).1 ∧ (rvals T (toH τ.H) (toS τ.n τ.sl) rs).2 = l
 | [],l,h => by injection h with h; exact ⟨trivial,h⟩
 | .tmp t :: r,l,h => by
   unfold crvals at h
   split at h
   · rename_i l' h1
     injection h with h; subst h
     obtain ⟨a,b⟩ := crvals_ok h1
     refine ⟨a,?_⟩
     have := evC_ok τ.n τ.sl (.tmp t)
     simp only [rvals,b]
     rw [← this]; rfl
   · cases h
 | .cell x t :: r,l,h => by
   unfold crvals at h
   split at h
   · rename_i l' h1
     split at h
     · rename_i y us h2
       injection h with h; subst h
       obtain ⟨a,b⟩ := crvals_ok h1
       obtain ⟨c,d,_⟩ := cLoad_ok (zap τ.H) _ _ h2
       have := evC_ok τ.n τ.sl (.tmp x)
       simp only [ev] at this
       rw [← this] at c d
       exact ⟨⟨c,a⟩,by simp only [rvals,b,d]⟩
     · cases h
   · cases h
theorem initK_ok {β : Type} : ∀ {xs : List AV} {k : Nat} {t : Tr AV} {κ : Tr AV → Option β} {z : β},initK xs k t κ = some z → ∃ t',κ t' = some z ∧ ∀ i,sget t' i = if k ≤ i ∧ i < k + xs.length then xs.getD (i - k) .junk else sget t i
 | [],k,t,κ,z,h => ⟨t,h,fun i => by rw [if_neg (by simp only [List.length_nil]; omega)]⟩
 | x :: r,k,t,κ,z,h => by
   unfold initK at h
   rw [force1_eq] at h
   cases hk : Nat.blt k most with
   | false => rw [hk] at h; cases h
   | true =>
     rw [hk,cond_true,zfc] at h
     obtain ⟨t',h1,h2⟩ := initK_ok (xs := r) h
     refine ⟨t',h1,fun i => ?_⟩
     rw [h2 i]
     have hm := most_ok hk
     by_cases h3 : k + 1 ≤ i ∧ i < k + 1 + r.length
     · rw [if_pos h3,if_pos ⟨by omega,by simp only [List.length_cons]; omega⟩]
       have : i - k = (i - (k + 1)) + 1 := by omega
       rw [this]; simp
     · rw [if_neg h3]
       by_cases h4 : i = k
       · subst h4
         rw [if_pos ⟨Nat.le_refl _,by simp only [List.length_cons]; omega⟩]
         simp only [Nat.sub_self,sget]
         rw [get_set _ _ _ _ hm,if_pos rfl]
         simp
       · rw [if_neg (by simp only [List.length_cons]; omega)]
         simp only [sget]
         rw [get_set _ _ _ _ hm,if_neg h4]
theorem callN_ok {P : Program} {T : zab} (hm : P.follows .mixedOrders = true) (hT : TOk P T) {S : zag} {SB : SpecB} (hS : Fns P S) (hSB : SpecBOk P S SB) : ∀ k,CallOk P (callN P T SB k)
 | 0 => by intro g args H nx x H' nz h; cases h
 | k + 1 => by
   intro g args H nx x H' nz h
   have ih := callN_ok hm hT hS hSB k
   unfold callN at h
   split at h
   · rename_i fn hfn
     split at h
     · rename_i c hbody
       cases hname : (fn.name == "runtime.NumGoroutine") with
       | true => rw [hname] at h; cases h
       | false =>
         rw [hname,cond_false] at h
         cases hle : Nat.ble args.length fn.ntmps with
         | false => rw [hle] at h; cases h
         | true =>
           rw [hle,cond_true] at h
           have hle := Nat.le_of_ble_eq_true hle
           obtain ⟨sl,h1,hsl⟩ := initK_ok h
           split at h1
           · rename_i e τ hrun
             cases he : isEnd e with
             | false => rw [he] at h1; cases h1
             | true =>
               rw [he,cond_true] at h1
               split at h1
               · rename_i l hl
                 injection h1 with h1; injection h1 with hx h1; injection h1 with hH hnz
                 subst hx hH hnz
                 have hp := runC_pure hT hS hSB ih c _ _ _ hrun
                 refine ⟨hp.mono,hp.new,⟨fn,hfn,by rw [hbody]; rfl,hname⟩,?_⟩
                 intro hlow w0 E w loc vs hlen hR hh henv hfree
                 refine calls_of_wp hfn hbody ?_
                 have hvs : vs.length ≤ fn.ntmps := by omega
                 have hrel : RelT τ.nx w0 E loc ⟨sl,fn.ntmps,H,nx⟩ { tmps := vs.toArray ++ Array.replicate (fn.ntmps - vs.toArray.size) undef,defers := [] } w := by
                   refine ⟨by rw [zbs]; simp; omega,fun t => ?_,hh,henv,hfree,rfl⟩
                   rw [slot_toS]
                   by_cases ht : t < fn.ntmps
                   · rw [if_pos ht,hsl t]
                     by_cases ht2 : t < args.length
                     · rw [if_pos ⟨Nat.zero_le _,by omega⟩]
                       have e1 : args.getD (t - 0) .junk = args[t] := by simp [ht2]
                       have e2 : (vs.toArray ++ Array.replicate (fn.ntmps - vs.toArray.size) undef).getD t undef = vs[t]'(by omega) := by
                         have : t < vs.length := by omega
                         simp [Array.getD_eq_getD_getElem?,Array.getElem?_append,this]
                       rw [e1,e2]
                       exact hR t ht2 _
                     · rw [if_neg (by omega)]
                       exact .junk _
                   · rw [if_neg ht]; exact .junk _
                 refine wp_mono (runC_ok hT hS hSB ih hm c _ _ _ _ w loc hrun hlow (Nat.le_refl _) hrel) ?_
                 rintro e' a' w' ⟨rfl,loc',h3,h4⟩
                 obtain ⟨hr1,hr2⟩ := crvals_ok hl
                 have hn := hp.n
                 obtain ⟨v,hv,hvR⟩ := results_R (P := P) (fn := fn) hT h3.heap h3.slots hr1
                 rw [hr2] at hvR
                 have hpost : PostW w0 E w loc nx τ.nx (rone l) (toH τ.H) v w' loc' := ⟨hvR,h3.heap,h3.env,h4⟩
                 cases e' with
                 | normal => exact ⟨h3.defers,v,hv,v,loc',rfl,hpost⟩
                 | ret => exact ⟨h3.defers,v,hv,v,loc',rfl,hpost⟩
                 | _ => cases he
               · cases h1
           · cases h1
     · cases h
   · cases h
end Ax
end Go.Proofs.Ytlpjdgkpapjldaa
namespace Go.Proofs.Ytlpjdgkpapjldaa
namespace Ax
structure Wr (α : Type) where
 v : α
abbrev CopF := Nat → (Operand → AV) → (Nat → Option Blk) → Option (AV × Us)
def cBuiltinS (T : zab) (b : Builtin) (args : List Operand) (ts : List TypeId) : Wr CopF :=
 match b with
 | .len => match args,ts with
   | [x],[t] => ⟨fun _ e lk => cLen T t (e x) lk⟩
   | _,_ => ⟨fun _ _ _ => none⟩
 | .min => ⟨fun _ e _ => cMin (args.map e)⟩
 | .max => ⟨fun _ e _ => cMax (args.map e)⟩
 | .append => match args with
   | [d,x] => ⟨fun nm e lk => cAppend T nm ts (e d) (e x) lk⟩
   | _ => ⟨fun _ _ _ => none⟩
 | .delete => match args,ts with
   | [d,x],t :: _ => ⟨fun _ e lk => cDelete T t (e d) (e x) lk⟩
   | _,_ => ⟨fun _ _ _ => none⟩
 | .clear => match args,ts with
   | [x],[t] => ⟨fun _ e lk => cClear T t (e x) lk⟩
   | _,_ => ⟨fun _ _ _ => none⟩
 | .copy => match args with
   | [d,x] => ⟨fun _ e lk => cCopy T ts (e d) (e x) lk⟩
   | _ => ⟨fun _ _ _ => none⟩
 | _ => ⟨fun _ _ _ => none⟩
theorem cBuiltinS_eq (T : zab) (nm : Nat) (sl : List AV) (b : Builtin) (args : List Operand) (ts : List TypeId) (e : Operand → AV) (lk : Nat → Option Blk) : (cBuiltinS T b args ts).v nm e lk = cBuiltin T nm sl b args ts e lk := by
 cases b <;> first | rfl | (rcases args with _ | ⟨x,_ | ⟨y,_ | ⟨z,r⟩⟩⟩ <;> rcases ts with _ | ⟨t,_ | ⟨u,v⟩⟩ <;> rfl)
def copS (T : zab) (op : Op) : Wr CopF :=
 match op with
 | .move x => ⟨fun _ e _ => some (e x,[])⟩
 | .assign x => ⟨fun _ e _ => some (e x,[])⟩
 | .pick c a b => ⟨fun _ e _ => cPick (e c) (e a) (e b)⟩
 | .alloc t => ⟨fun nm _ _ => cAlloc T nm t⟩
 | .box t x => ⟨fun nm e _ => cBox T nm t (e x)⟩
 | .build t ps => ⟨fun _ e _ => cBuild T t (ps.toList.map fun p => (p.1,e p.2))⟩
 | .buildSlice t n ps => ⟨fun nm e _ => cBuildSlice T nm t n (ps.toList.map fun p => (p.1,e p.2))⟩
 | .load t a => ⟨fun _ e lk => cLoad T t (e a) lk⟩
 | .store t a x => ⟨fun _ e lk => cStore T t (e a) (e x) lk⟩
 | .nilCheck x => ⟨fun _ e lk => cNil (e x) lk⟩
 | .binOp op t x y _ => ⟨fun _ e lk => cBin T op t (e x) (e y) lk⟩
 | .unOp op _ x => ⟨fun _ e _ => cUn op (e x)⟩
 | .convert s d x => ⟨fun nm e lk => bif coldStr T d && isMsB (e x) then none else cConv T s d nm (e x) lk⟩
 | .makeSlice t l c => ⟨fun nm e _ => cMake T nm t (e l) (e c)⟩
 | .slice t x lo hi mx => ⟨fun _ e lk => bif mx.isSome && hi.isNone then none else cSlice T t (e x) (lo.map e) (hi.map e) (mx.map e) lk⟩
 | .fieldAddr s x f => ⟨fun _ e lk => cFieldAddr T s (e x) f lk⟩
 | .field t x f => ⟨fun _ e _ => cField T t (e x) f⟩
 | .indexAddr t x i => ⟨fun _ e lk => cIndexAddr T t (e x) (e i) lk⟩
 | .index t x i => ⟨fun _ e _ => cIndex T t (e x) (e i)⟩
 | .extract x i => ⟨fun _ e _ => cExtract (e x) i⟩
 | .makeFunc fn first caps => ⟨fun _ e _ => cFn fn first.toList (caps.toList.map e)⟩
 | .range t x => ⟨fun nm e lk => cRange T nm t (e x) lk⟩
 | .next x b => ⟨fun _ e lk => cNext (e x) b lk⟩
 | .makeMap _ r => ⟨fun nm _ _ => cMakeMap nm r⟩
 | .lookup t x k ok => ⟨fun _ e lk => cLookup T t (e x) (e k) ok lk⟩
 | .mapUpdate t x k v => ⟨fun _ e lk => cUpdate T t (e x) (e k) (e v) lk⟩
 | .entry x => ⟨fun _ e lk => cEntry (e x) lk⟩
 | .call c => match c.callee with
   | .builtin b => cBuiltinS T b c.args.toList c.argTypes.toList
   | _ => ⟨fun _ _ _ => none⟩
 | _ => ⟨fun _ _ _ => none⟩
theorem copS_eq (T : zab) (nm : Nat) (e : Operand → AV) (lk : Nat → Option Blk) (op : Op) : (copS T op).v nm e lk = cop T nm e lk op := by
 cases op with
 | call c =>
   simp only [copS,cop]
   cases c.callee with
   | builtin b => exact cBuiltinS_eq T nm [] b _ _ e lk
   | _ => rfl
 | _ => rfl
def spS (op : Op) : Bool :=
 match op with
 | .binOp _ _ _ (.const (.slice none 0 0)) _ => true
 | .call c => match c.callee with
   | .builtin .append => true
   | _ => false
 | _ => false
theorem spS_no {T : zab} {e : Operand → AV} {lk : Nat → Option Blk} {op : Op} (h : spS op = false) : cSp T e lk op = none ∧ truncOf e lk op = none := by
 constructor
 · unfold cSp
   split
   · rename_i b t x yt; simp [spS] at h
   · rfl
 · unfold truncOf
   split
   · rename_i c
     split
     · rename_i hc; simp [spS,hc] at h
     · rfl
   · rfl
def forceF {β : Type} (x : AV) (κ : AV → β) : β := match x with
 | .w v => forceW v fun v => κ (.w v)
 | .ms id s off len => zdz off fun off => zdz len fun len => κ (.ms id s off len)
 | .rf id s i f => zdz i fun i => zdz f fun f => κ (.rf id s i f)
 | .agg xs => forceM force0 xs fun xs => κ (.agg xs)
 | .str bs => forceL bs fun bs => κ (.str bs)
 | .tup xs => forceM force1 xs fun xs => κ (.tup xs)
 | .fn f xs => forceM force0 xs fun xs => κ (.fn f xs)
 | x => forceV x κ
theorem forceF_eq {β : Type} (x : AV) (κ : AV → β) : forceF x κ = κ x := by cases x <;> simp only [forceF,forceW_eq,zdy,forceL_eq,forceV_eq,zea force0_eq,zea force1_eq]
section
variable (T : zab) (SB : SpecB)
abbrev ValF := zcz → CS → Option (AV × Tr Blk × Nat)
noncomputable def plainS (op : Op) : Wr ValF :=
 match copS T op with
 | ⟨f⟩ => match spS op with
   | true => ⟨fun _ τ => opPlain T τ op⟩
   | false => ⟨fun _ τ => match f τ.nx (evC τ.n τ.sl) τ.H.get with
     | some (x,us) => appK us τ.H fun H => zdz (τ.nx + 8) fun nz => some (x,H,nz)
     | none => none⟩
noncomputable def valS (q : Bool) (op : Op) : Wr ValF :=
 match op with
 | .call c => match c.callee with
   | .value f => ⟨fun call τ => opVal T SB call τ q (.call c)⟩
   | _ => plainS T (.call c)
 | op => plainS T op
theorem plainS_eq (call : zcz) (τ : CS) (op : Op) : (plainS T op).v call τ = opPlain T τ op := by
 unfold plainS
 have hc := copS_eq T τ.nx (evC τ.n τ.sl) τ.H.get op
 cases hf : copS T op with
 | mk f =>
   rw [hf] at hc
   cases hs : spS op with
   | true => rfl
   | false =>
     simp only
     unfold opPlain
     rw [(spS_no (T := T) hs).1,(spS_no (T := T) hs).2,← hc]
     try rfl
theorem valS_eq (call : zcz) (q : Bool) (τ : CS) (op : Op) : (valS T SB q op).v call τ = opVal T SB call τ q op := by
 cases op with
 | call c =>
   simp only [valS]
   cases hc : c.callee with
   | value f => rfl
   | _ => simp only [opVal,hc]; exact plainS_eq T call τ (.call c)
 | _ => simp only [valS,opVal]; exact plainS_eq T call τ _
abbrev StepF := zcz → CS → Option CS
noncomputable def opRunS (q : Bool) (o : Oper) : Wr StepF :=
 match valS T SB q o.op with
 | ⟨f⟩ => match o.dst with
   | none => ⟨fun call τ => match f call τ with
     | some (x,H,nz) => some ⟨τ.sl,τ.n,H,nz⟩
     | none => none⟩
   | some d => ⟨fun call τ => match f call τ with
     | some (x,H,nz) => forceF x fun x => bif Nat.blt d τ.n && Nat.blt d most then Tr.setK τ.sl d (some x) fun sl => some ⟨sl,τ.n,H,nz⟩ else none
     | none => none⟩
theorem opRunS_eq (call : zcz) (q : Bool) (τ : CS) (o : Oper) : (opRunS T SB q o).v call τ = opRun T SB call τ q o := by
 unfold opRunS opRun
 have hv := valS_eq T SB call q τ o.op
 cases hf : valS T SB q o.op with
 | mk f =>
   rw [hf] at hv
   simp only at hv
   rw [← hv]
   cases hd : o.dst with
   | none =>
     simp only
     cases f call τ with
     | none => rfl
     | some r => obtain ⟨x,H,nz⟩ := r; simp only [forceV_eq,putK]
   | some d =>
     simp only
     cases f call τ with
     | none => rfl
     | some r => obtain ⟨x,H,nz⟩ := r; simp only [forceV_eq,forceF_eq,putK]
noncomputable def stepS (ops : List Oper) (q : Bool) (o : Oper) : Wr StepF :=
 match o.guard with
 | none => opRunS T SB q o
 | some (j,want) => match guardSlot ops j with
   | none => ⟨fun _ _ => none⟩
   | some d => match opRunS T SB q o with
     | ⟨f⟩ => ⟨fun call τ => match evC τ.n τ.sl (.tmp d) with
       | .w (.bool b) => bif b == want then f call τ else opSkip τ o
       | .tup [] => opSkip τ o
       | _ => none⟩
theorem stepS_eq (call : zcz) (ops : List Oper) (q : Bool) (τ : CS) (o : Oper) : (stepS T SB ops q o).v call τ = stepC T SB call ops q τ o := by
 unfold stepS stepC
 cases hg : o.guard with
 | none => exact opRunS_eq T SB call q τ o
 | some g =>
   obtain ⟨j,want⟩ := g
   simp only
   cases hs : guardSlot ops j with
   | none => rfl
   | some d =>
     simp only
     have hv := opRunS_eq T SB call q τ o
     cases hf : opRunS T SB q o with
     | mk f =>
       rw [hf] at hv
       simp only at hv ⊢
       rw [← hv]
       try rfl
noncomputable def runOpsS (ops : List Oper) (q : Nat → Bool) : Nat → List Oper → Wr StepF
 | _,[] => ⟨fun _ τ => some τ⟩
 | k,o :: r => match stepS T SB ops (q k) o,runOpsS ops q (k + 1) r with
   | ⟨f⟩,⟨g⟩ => ⟨fun call τ => match f call τ with
     | some τ => g call τ
     | none => none⟩
theorem runOpsS_eq (call : zcz) (ops : List Oper) (q : Nat → Bool) : ∀ (k : Nat) (l : List Oper) (τ : CS),(runOpsS T SB ops q k l).v call τ = zfr T SB call ops q k l τ
 | _,[],τ => rfl
 | k,o :: r,τ => by
   unfold runOpsS zfr
   have h1 := fun τ => stepS_eq T SB call ops (q k) τ o
   have h2 := fun τ => runOpsS_eq call ops q (k + 1) r τ
   cases hf : stepS T SB ops (q k) o with
   | mk f =>
     cases hg : runOpsS T SB ops q (k + 1) r with
     | mk g =>
       rw [hf] at h1
       rw [hg] at h2
       simp only at h1 h2 ⊢
       rw [← h1]
       cases f call τ with
       | none => rfl
       | some τ => exact h2 τ
abbrev CodeF := zcz → CS → Option (Exit × CS)
noncomputable def codeS : Code → Wr CodeF
 | .skip => ⟨fun _ τ => some (.normal,τ)⟩
 | .label _ => ⟨fun _ τ => some (.normal,τ)⟩
 | .region _ ops draw => match draw with
   | true => match drawOkX (fun i => zcv T ((quietL T ops.toList).getD i false)) ops.toList with
     | true => match runOpsS T SB ops.toList (fun i => (quietL T ops.toList).getD i false) 0 ops.toList with
       | ⟨f⟩ => ⟨fun call τ => match f call τ with | some τ => some (.normal,τ) | none => none⟩
     | false => ⟨fun _ _ => none⟩
   | false => match runOpsS T SB ops.toList (fun _ => false) 0 ops.toList with
     | ⟨f⟩ => ⟨fun call τ => match f call τ with | some τ => some (.normal,τ) | none => none⟩
 | .seq a b => match codeS a,codeS b with
   | ⟨f⟩,⟨g⟩ => ⟨fun call τ => match f call τ with
     | some (.normal,τ) => g call τ
     | some (.exit id,τ) => some (.exit id,τ)
     | some (.ret,τ) => some (.ret,τ)
     | _ => none⟩
 | .cond c a b => match codeS a,codeS b with
   | ⟨f⟩,⟨g⟩ => ⟨fun call τ => match evC τ.n τ.sl c with
     | .w (.bool true) => f call τ
     | .w (.bool false) => g call τ
     | _ => none⟩
 | .block id c => match codeS c with
   | ⟨f⟩ => ⟨fun call τ => match f call τ with
     | some (.exit id',τ) => if id' = id then some (.normal,τ) else some (.exit id',τ)
     | some (.normal,τ) => some (.normal,τ)
     | some (.ret,τ) => some (.ret,τ)
     | _ => none⟩
 | .loop c => match codeS c with
   | ⟨f⟩ => ⟨fun call τ => loopN (f call) 1000000 τ⟩
 | .exit id => ⟨fun _ τ => some (.exit id,τ)⟩
 | .ret => ⟨fun _ τ => some (.ret,τ)⟩
 | _ => ⟨fun _ _ => none⟩
theorem codeS_eq (call : zcz) : ∀ (c : Code) (τ : CS),(codeS T SB c).v call τ = runC T SB call c τ := by
 intro c
 induction c with
 | region id ops draw =>
   intro τ
   have key : ∀ q,(match runOpsS T SB ops.toList q 0 ops.toList with | ⟨f⟩ => (⟨fun call τ => match f call τ with | some τ => some (.normal,τ) | none => none⟩ : Wr CodeF)).v call τ = (match zfr T SB call ops.toList q 0 ops.toList τ with | some τ => some (.normal,τ) | none => none) := by
     intro q
     have h := runOpsS_eq T SB call ops.toList q 0 ops.toList τ
     cases hf : runOpsS T SB ops.toList q 0 ops.toList with
     | mk f =>
       rw [hf] at h
       simp only at h ⊢
       rw [h]
   unfold codeS runC
   cases draw with
   | false => exact key _
   | true =>
     simp only [cond_true]
     cases drawOkX (fun i => zcv T ((quietL T ops.toList).getD i false)) ops.toList with
     | true => exact key _
     | false => rfl
 | seq a b iha ihb =>
   intro τ
   unfold codeS runC
   cases hf : codeS T SB a with
   | mk f =>
     cases hg : codeS T SB b with
     | mk g =>
       rw [hf] at iha
       rw [hg] at ihb
       simp only at iha ihb ⊢
       rw [← iha]
       cases f call τ with
       | none => rfl
       | some r =>
         obtain ⟨e,τ'⟩ := r
         cases e <;> first | rfl | exact ihb τ'
 | cond c a b iha ihb =>
   intro τ
   unfold codeS runC
   cases hf : codeS T SB a with
   | mk f =>
     cases hg : codeS T SB b with
     | mk g =>
       rw [hf] at iha
       rw [hg] at ihb
       simp only at iha ihb ⊢
       rw [← iha,← ihb]
       try rfl
 | block id c ih =>
   intro τ
   unfold codeS runC
   cases hf : codeS T SB c with
   | mk f =>
     rw [hf] at ih
     simp only at ih ⊢
     rw [← ih]
     try rfl
 | loop c ih =>
   intro τ
   unfold codeS runC
   cases hf : codeS T SB c with
   | mk f =>
     rw [hf] at ih
     simp only at ih ⊢
     have : f call = runC T SB call c := funext ih
     rw [this]
 | _ => intro τ; rfl
end
structure FnS where
 n : Nat
 f : CodeF
 rs : List ResultVar
noncomputable def funS (P : Program) (T : zab) (SB : SpecB) (g : FuncId) : Option FnS :=
 match P.funcs[g]? with
 | some fn => match fn.body with
   | some c => match fn.name == "runtime.NumGoroutine" with
     | true => none
     | false => match codeS T SB c with
       | ⟨f⟩ => some ⟨fn.ntmps,f,fn.results.toList⟩
   | none => none
 | none => none
noncomputable def callS (P : Program) (T : zab) (SB : SpecB) : Nat → zcz
 | 0,_,_,_,_ => none
 | k + 1,g,args,H,nx => match funS P T SB g with
   | some ⟨n,f,rs⟩ => bif Nat.ble args.length n then
       initK args 0 .leaf fun sl => match f (callS P T SB k) ⟨sl,n,H,nx⟩ with
         | some (e,τ) => bif isEnd e then (match crvals T τ rs with
             | some l => some (rone l,τ.H,τ.nx)
             | none => none) else none
         | none => none
       else none
   | none => none
theorem callS_eq (P : Program) (T : zab) (SB : SpecB) : ∀ k,callS P T SB k = callN P T SB k
 | 0 => by funext g args H nx; rfl
 | k + 1 => by
   funext g args H nx
   unfold callS callN funS
   rw [callS_eq P T SB k]
   cases P.funcs[g]? with
   | none => rfl
   | some fn =>
     simp only
     cases fn.body with
     | none => rfl
     | some c =>
       simp only
       cases (fn.name == "runtime.NumGoroutine") with
       | true => rfl
       | false =>
         have h := codeS_eq T SB (callN P T SB k) c
         cases hf : codeS T SB c with
         | mk f =>
           rw [hf] at h
           simp only at h ⊢
           simp only [cond_false,h]
           try rfl
end Ax
end Go.Proofs.Ytlpjdgkpapjldaa
namespace Go.Proofs.Ytlpjdgkpapjldaa
namespace Ax
def opq : AV := .ms 0 1 0 0
def locD (bad : Nat → Prop) : Loc := { m := fun id => if id = 0 then .dead else .free,bad }
theorem opq_R {w : World} {bad : Nat → Prop} {x v : Value} (h : R w (zat [] bad) (.w x) v) : R w (locD bad) opq v := by
 have hv := h.wv
 subst hv
 cases h with
 | w _ h1 => exact .ms 0 1 0 0 _ (by unfold Owns locD; simpa using h1)
noncomputable def runTrue (P : Program) (T : zab) (SB : SpecB) (k : Nat) (g : FuncId) (args : List AV) : Bool :=
 match callS P T SB k g args .leaf 8 with
 | some (.w (.bool true),_,_) => true
 | _ => false
theorem sound_of_run {P : Program} {T : zab} (hm : P.follows .mixedOrders = true) (hT : TOk P T) {S : zag} {SB : SpecB} (hS : Fns P S) (hSB : SpecBOk P S SB) {k : Nat} {g : FuncId} {args : List AV} {spec : zay}
   (hs : ∀ xs pins,(spec xs pins).p → pins = [] ∧ xs.length = args.length ∧ (spec xs pins).x = .w (.bool true) ∧ (spec xs pins).bl = [] ∧ ∀ (w : World) (bad : Nat → Prop) (j : Nat) (h : j < xs.length) (h' : j < args.length) (v : Value),R w (zat [] bad) xs[j] v → R w (locD bad) args[j] v)
   (h : runTrue P T SB k g args = true) : zbz P g spec := by
 unfold runTrue at h
 rw [callS_eq] at h
 split at h
 · rename_i H nz hc
   obtain ⟨_,_,_,h3⟩ := callN_ok hm hT hS hSB k _ _ _ _ _ _ _ hc
   intro xs pins hp _ w bad pb vs hlen hnd hbad hlies hxl hx
   obtain ⟨rfl,hxa,hx1,hbl,hR⟩ := hs xs pins hp
   obtain rfl : pb = [] := List.eq_nil_of_length_eq_zero hlen
   have hfree : ∀ id,(zat [] bad).m id = .free := fun id => by simp [zat]
   have hno : ∀ i b,(locD bad).m i ≠ .here b := fun i b h => by unfold locD at h; simp only at h; split at h <;> cases h
   have henv : Env w (· ∈ ([] : List Nat)) w (locD bad) := ⟨rfl,rfl,rfl,Nat.le_refl _,fun _ _ _ => rfl,fun i j b hi => (hno i b hi).elim,fun i b hi => (hno i b hi).elim,fun b hb => hbad b hb⟩
   refine (h3 (fun id b hb => by rw [zem] at hb; cases hb) w _ w (locD bad) vs (by omega) (fun j hj hj' => hR w bad j (by omega) hj _ (hx j (by omega) hj')) (fun id b hb => by rw [zap,zem] at hb; cases hb) henv (fun id h1 _ => by unfold locD; simp only; rw [if_neg (by omega)])).mono ?_
   rintro e w' ⟨v,loc',rfl,hq⟩
   have hv := hq.r.wv
   subst hv
   refine ⟨_,zat [] bad,rfl,?_⟩
   refine ⟨by rw [hx1]; exact .w _ rfl,rfl,(fun k hk => by rw [hbl] at hk; simp at hk),(fun k hk => by simp at hk),(fun k b _ hb => by rw [hfree] at hb; cases hb),fun k _ => hfree k,(fun i j b hi => by rw [hfree] at hi; cases hi),?_⟩
   exact ⟨hq.env.os,hq.env.tape,hq.env.output,hq.env.size,hq.env.same,fun b cur e fz hE => by simp at hE⟩
 · cases h
end Ax
open Ax
theorem yes_with {S : zag} {SB : SpecB} (hS : Fns Try.prog S) (hSB : SpecBOk Try.prog S SB) {g : FuncId} (h : runTrue Try.prog ty SB 60 g [] = true) : zbz Try.prog g yesS :=
 sound_of_run zdc ty_ok hS hSB (fun xs pins hp => by
   unfold yesS at hp ⊢
   split at hp
   · exact ⟨rfl,rfl,rfl,rfl,fun w bad j h => by simp at h⟩
   · exact hp.elim) h
end Go.Proofs.Ytlpjdgkpapjldaa
namespace Go.Proofs.Ytlpjdgkpapjldaa
open Ax
def cloneS35 : zay
 | [.sg 6 [] true],[] => ⟨True,.sg 6 [] true,[]⟩
 | _,_ => zdj
theorem sg_true35 {w : World} {loc : Ax.Loc} {v : Value} {s : Nat} (s' : Nat) (h : R w loc (.sg s [] true) v) : R w loc (.sg s' [] true) v := by
 cases h with
 | sg _ _ _ a cap cs hd hs hc hl hx hh => exact .sg s' [] true a cap cs hd (by simp) hc hl hx hh
def clonePl35 : XPlan := fun id => match id with
 | 1 => .tst [false,true]
 | 3 => .tst [true,false,true]
 | _ => .std
set_option maxRecDepth 100000 in
set_option maxHeartbeats 1000000 in
theorem clone35_sound : zbz Try.prog 49 cloneS35 := by
 refine zdq (S := noS) (SO := noO) (T := ty) zdc ty_ok noS_ok noO_ok Try.func49 (c := Try.f49.body.getD .skip) (by kernel_rfl) (fun xs pins hp _ => ?_)
 unfold cloneS35 at hp ⊢
 split at hp
 · refine ⟨by simp,clonePl35,by kernel_rfl,?_⟩
   unfold Try.f49
   simp only [go_sem,zaa,Nat.reduceAdd,Nat.reduceSub,Nat.reduceMul,Int.reduceToNat,reduceCtorEq,↓reduceIte,Int.reducePow,Nat.reducePow,Int.reduceMod,Nat.reduceLeDiff,Int.reduceLE,Int.reduceNe,Int.reduceEq,Nat.reduceEqDiff,Nat.reduceLT,Nat.reduceBEq,List.map_cons,List.map_nil,List.toList_toArray,Array.toList_append,Option.toArray_some,Option.toArray_none,Bool.and_self,ty,noS,clonePl35,specOp,List.length_nil]
   repeat (refine And.intro (by omega) ?_)
   intro b
   refine ⟨fun hb => ?_,fun hb => ?_⟩
   · refine ⟨_,zbg 2 (.sg 6 [] true) (fun w loc v h => sg_true35 6 h),?_⟩
     simp only [go_sem,zaa,Nat.reduceAdd,Nat.reduceSub,Nat.reduceMul,Int.reduceToNat,reduceCtorEq,↓reduceIte,Int.reducePow,Nat.reducePow,Int.reduceMod,Nat.reduceLeDiff,Int.reduceLE,Int.reduceNe,Int.reduceEq,Nat.reduceEqDiff,Nat.reduceLT,Nat.reduceBEq,List.map_cons,List.map_nil,List.toList_toArray,Array.toList_append,Option.toArray_some,Option.toArray_none,Bool.and_self,ty,noS]
   · refine ⟨_,zbg 2 (.sg 6 [] true) (fun w loc v h => sg_true35 6 h),?_⟩
     simp only [go_sem,zaa,Nat.reduceAdd,Nat.reduceSub,Nat.reduceMul,Int.reduceToNat,reduceCtorEq,↓reduceIte,Int.reducePow,Nat.reducePow,Int.reduceMod,Nat.reduceLeDiff,Int.reduceLE,Int.reduceNe,Int.reduceEq,Nat.reduceEqDiff,Nat.reduceLT,Nat.reduceBEq,List.map_cons,List.map_nil,List.toList_toArray,Array.toList_append,Option.toArray_some,Option.toArray_none,Bool.and_self,ty,noS]
 · exact hp.elim
def Sb35 (f : FuncId) : Option zay :=
 match f with
 | 49 => some cloneS35
 | _ => none
theorem Sb35_ok : Fns Try.prog Sb35 := by
 intro f s h
 unfold Sb35 at h
 split at h
 · injection h with h; subst h; exact ⟨⟨_,Try.func49,by kernel_rfl,by kernel_rfl⟩,clone35_sound⟩
 · cases h
noncomputable def hCl35 (A : List AV) (lk : Nat → Option Blk) (nm : Nat) : Option (AV × Us) :=
 match A with
 | [.sg s [] f] => bif Nat.beq s 6 && f then some (.sg 6 [] true,[]) else none
 | _ => none
noncomputable def B35 : SpecB := fun g => bif Nat.beq g 49 then some hCl35 else none
theorem B35_ok : SpecBOk Try.prog Sb35 B35 := by
 intro g h e
 unfold B35 at e
 cases h2 : Nat.beq g 49 with
 | true =>
   rw [h2,cond_true] at e
   injection e with e
   subst e
   have hg := Nat.eq_of_beq_eq_true h2
   subst hg
   refine .inl fun A H lk nm hl x us hx => ?_
   unfold hCl35 at hx
   split at hx
   · rename_i s f
     cases hc : (Nat.beq s 6 && f) with
     | false => rw [hc] at hx; cases hx
     | true =>
       rw [hc,cond_true] at hx
       simp only [Bool.and_eq_true] at hc
       obtain ⟨b1,rfl⟩ := hc
       have b1 := Nat.eq_of_beq_eq_true b1
       subst b1
       injection hx with hx
       injection hx with hx1 hx2
       subst hx1 hx2
       have hS : Sb35 49 = some cloneS35 := rfl
       unfold aUser
       rw [hS]
       simp [callOut,rootsL,AV.roots,lentIdsL,AV.lentIds,pinsOf,nodup,lendL,lend,cloneS35,AV.ren,back,givenUp,dropAll,closedB,upd,hl]
   · cases hx
 | false =>
   rw [h2,cond_false] at e
   cases e
end Go.Proofs.Ytlpjdgkpapjldaa
namespace Go.Proofs.Ytlpjdgkpapjldaa
open Ax
set_option maxRecDepth 100000 in
theorem aw35_sound : zbz Try.prog 7 yesS := yes_with Sb35_ok B35_ok (by kernel_rfl)
def fedA (x : List UInt8 × Int × Int) : AV := .agg [.str x.1,.w (.int .i64 x.2.1),.w (.int .i64 x.2.2)]
theorem slot_fed : ∀ (ps : List (List UInt8 × Int × Int)) (i : Nat) (h : i < ps.length),slot (ps.map fedA) i = fedA ps[i]
 | p :: ps,0,h => rfl
 | p :: ps,i + 1,h => by
   simp only [List.map_cons,slot,List.getElem_cons_succ]
   exact slot_fed ps i (by simpa using h)
theorem new_ok {z y : Int} (h0 : 0 ≤ z) (h1 : z < 256) (h2 : 0 ≤ y) (h3 : y < 256) : chW (1 + z) y (-1) 0 [] = 0 :=
 ch_iff.2 ⟨⟨by omega,by omega,by omega,by omega,by simp⟩,by simp,rfl⟩
structure OnceI (Z L M D : Int) (o T : List WS) (C S : Int) (i : Nat) : Prop where
 ch : chW Z L M D o = 0
 dr : D ≤ i
 op : ∀ r ∈ o,ltW Z L r.s M = false
 tl : ∀ r ∈ T,ltW Z L r.s M = true ∧ okP Z r
 ap : T.Pairwise apart
 sc : sm WS.c T + sm WS.c o = C
 st : sm WS.t T + sm WS.t o = S
 bc : 0 ≤ C ∧ C ≤ i
 bs : -1073741824 * (i : Int) ≤ S ∧ S ≤ 1073741824 * (i : Int)
theorem once_start {z y : Int} (h0 : 0 ≤ z) (h1 : z < 256) (h2 : 0 ≤ y) (h3 : y < 256) : OnceI (1 + z) y (-1) 0 [] [] 0 0 0 :=
 ⟨new_ok h0 h1 h2 h3,by simp,by simp,by simp,List.Pairwise.nil,rfl,rfl,by simp,by simp⟩
theorem once_skip {Z L M D : Int} {o T : List WS} {C S : Int} {i : Nat} (h : OnceI Z L M D o T C S i) : OnceI Z L M D o T C S (i + 1) := by
 obtain ⟨a,b,c,d,e,f,g,⟨h1,h2⟩,k1,k2⟩ := h
 exact ⟨a,by omega,c,d,e,f,g,⟨h1,by omega⟩,by omega,by omega⟩
theorem feed_n {Z L M D : Int} {o : List WS} {k : List UInt8} {t n : Int} (hch : chW Z L M D o = 0) (he : (fdW Z L M D o k t n).e = 0) : -1073741824 ≤ n ∧ n ≤ 1073741824 := by
 unfold fdW at he
 rw [if_pos hch] at he
 by_cases hk : 64 < k.length
 · rw [if_pos hk] at he; cases he
 rw [if_neg hk] at he
 by_cases ho : (outB t 0 1099511627776 || outB n (-1073741824) 1073741824) = true
 · rw [if_pos ho] at he; cases he
 have ho2 : outB t 0 1099511627776 = false ∧ outB n (-1073741824) 1073741824 = false := by
   rw [← Bool.or_eq_false_iff]; simpa using ho
 exact outB_iff.1 ho2.2
theorem once_step {Z L M D : Int} {o T : List WS} {C S : Int} {i : Nat} {k : List UInt8} {t n : Int} {A : FR} (h : OnceI Z L M D o T C S i) (hi : i < 60) (hA : fdW Z L M D o k t n = A) (he : A.e = 0) :
   A.Z = Z ∧ A.L = L ∧ M ≤ A.M ∧ D ≤ A.D ∧
   ((A.D ≠ D ∧ OnceI Z L A.M A.D A.o (T ++ A.c) C S (i + 1)) ∨ (A.D = D ∧ OnceI Z L A.M A.D A.o (T ++ A.c) (C + 1) (S + n) (i + 1))) := by
 obtain ⟨hch,hdr,hop,htl,hap,hsc,hst,⟨b1,b2⟩,b3,b4⟩ := h
 have he0 := he
 rw [← hA] at he0
 have hok := fed_ok hch he0
 have hon := feed_n hch he0
 obtain ⟨⟨eZ,eL,eM⟩,hop',hcl,hca,hor⟩ := feed_once hch he0 (by omega) hop
 rw [hA] at hok eZ eL eM hop' hcl hca hor
 rw [eZ,eL] at hok
 have tl' : ∀ r ∈ T ++ A.c,ltW Z L r.s A.M = true ∧ okP Z r := fun r hr => by
   rcases List.mem_append.1 hr with h1 | h1
   · exact ⟨lt_mono eM (htl r h1).1,(htl r h1).2⟩
   · exact ⟨(hcl r h1).1,(hcl r h1).2.2⟩
 have ap' : (T ++ A.c).Pairwise apart := by
   refine List.pairwise_append.2 ⟨hap,hca,fun a ha b hb he => ?_⟩
   have h1 := (htl a ha).1
   have h2 := (hcl b hb).2.1
   rw [he.1,h2] at h1
   cases h1
 refine ⟨eZ,eL,eM,?_,?_⟩
 · rcases hor with ⟨hd,_⟩ | ⟨hd,_⟩ <;> omega
 · rcases hor with ⟨hd,h1,h2⟩ | ⟨hd,h1,h2⟩
   · exact .inl ⟨by omega,⟨hok,by omega,hop',tl',ap',by rw [sm_app]; omega,by rw [sm_app]; omega,by omega,by omega⟩⟩
   · exact .inr ⟨hd,⟨hok,by omega,hop',tl',ap',by rw [sm_app]; omega,by rw [sm_app]; omega,by omega,by omega⟩⟩
theorem once_end {Z L M D : Int} {o T : List WS} {C S : Int} {i : Nat} (h : OnceI Z L M D o T C S i) : (T ++ o).Pairwise apart ∧ sm WS.c (T ++ o) = C ∧ sm WS.t (T ++ o) = S ∧ ∀ r ∈ T ++ o,okP Z r := by
 obtain ⟨hch,hdr,hop,htl,hap,hsc,hst,hbc,hbs⟩ := h
 obtain ⟨_,hrow,hris⟩ := ch_iff.1 hch
 refine ⟨List.pairwise_append.2 ⟨hap,ris_apart hris,fun a ha b hb he => ?_⟩,by rw [sm_app]; exact hsc,by rw [sm_app]; exact hst,fun r hr => ?_⟩
 · have h1 := (htl a ha).1
   rw [he.1,hop b hb] at h1
   cases h1
 · rcases List.mem_append.1 hr with h1 | h1
   · exact (htl r h1).2
   · exact hrow r h1
theorem sm_len : ∀ (l : List WS) (Z : Int),(∀ r ∈ l,okP Z r) → (l.length : Int) ≤ sm WS.c l
 | [],_,_ => by simp [sm]
 | x :: l,Z,h => by
   have ih := sm_len l Z (fun r hr => h r (by simp [hr]))
   have := (h x (by simp)).2.2.2.1.1
   simp only [sm,List.length_cons]
   omega
theorem once_len {Z L M D : Int} {o T : List WS} {C S : Int} {i : Nat} (h : OnceI Z L M D o T C S i) : T.length ≤ i := by
 obtain ⟨hch,hdr,hop,htl,hap,hsc,hst,hbc,hbs⟩ := h
 have h1 := sm_len T Z (fun r hr => (htl r hr).2)
 have h2 := sm_len o Z (ch_iff.1 hch).2.1
 omega
end Go.Proofs.Ytlpjdgkpapjldaa
namespace Go.Proofs.Ytlpjdgkpapjldaa
open Ax
theorem okP_t {Z : Int} {r : WS} (h : okP Z r) : -1125899906842624 ≤ r.t ∧ r.t ≤ 1125899906842624 := by
 obtain ⟨_,_,_,⟨c1,c2⟩,⟨a1,a2⟩,⟨b1,b2⟩,_,t1,t2⟩ := h
 have h1 : r.c * (-1073741824) ≤ r.c * r.a := Int.mul_le_mul_of_nonneg_left a1 (by omega)
 have h2 : r.c * r.b ≤ r.c * 1073741824 := Int.mul_le_mul_of_nonneg_left b2 (by omega)
 omega
theorem sm_bound {Z : Int} : ∀ (l : List WS),(∀ r ∈ l,okP Z r) → (0 ≤ sm WS.c l ∧ sm WS.c l ≤ 1048576 * (l.length : Int)) ∧ -1125899906842624 * (l.length : Int) ≤ sm WS.t l ∧ sm WS.t l ≤ 1125899906842624 * (l.length : Int)
 | [],_ => by simp [sm]
 | x :: l,h => by
   have ih := sm_bound l (fun r hr => h r (by simp [hr]))
   have h1 := okP_t (h x (by simp))
   have h2 := (h x (by simp)).2.2.2.1
   simp only [sm,List.length_cons]
   omega
theorem sm_take {Z : Int} {l : List WS} (h : ∀ r ∈ l,okP Z r) (hl : l.length ≤ 60) (j : Nat) : smlW (sm WS.c (l.take j)) ∧ smlW (sm WS.t (l.take j)) := by
 have h1 := sm_bound (l.take j) (fun r hr => h r (List.mem_of_mem_take hr))
 have h2 : (l.take j).length ≤ 60 := by rw [List.length_take]; omega
 unfold smlW
 omega
def wonceS : zay
 | [.w (.int .u8 z),.w (.int .u8 y),.sg 3 xs f],[] => ⟨(xs.length ≤ 9223372036854775807 ∧ ∃ l : List (List UInt8 × Int × Int),xs = l.map fedA) ∧ (0 ≤ z ∧ z < 256) ∧ 0 ≤ y ∧ y < 256,.w (.bool true),[]⟩
 | _,_ => zdj
def zeg (f : FuncId) : Option zay :=
 match f with
 | 7 => some yesS
 | 13 => some newS35
 | 9 => some feedS35
 | 19 => some zdf
 | 11 => some closeS35
 | 21 => some totS35
 | _ => none
theorem Swo35_ok : Fns Try.prog zeg := by
 intro f s h
 unfold zeg at h
 split at h
 · injection h with h; subst h; exact ⟨⟨_,Try.func7,by kernel_rfl,by kernel_rfl⟩,aw35_sound⟩
 · injection h with h; subst h; exact ⟨⟨_,Try.func13,by kernel_rfl,by kernel_rfl⟩,new35_sound⟩
 · injection h with h; subst h; exact ⟨⟨_,Try.func9,by kernel_rfl,by kernel_rfl⟩,feed35_sound⟩
 · injection h with h; subst h; exact ⟨⟨_,Try.func19,by kernel_rfl,by kernel_rfl⟩,chkW_sound⟩
 · injection h with h; subst h; exact ⟨⟨_,Try.func11,by kernel_rfl,by kernel_rfl⟩,close35_sound⟩
 · injection h with h; subst h; exact ⟨⟨_,Try.func21,by kernel_rfl,by kernel_rfl⟩,tot35_sound⟩
 · cases h
def zbf : Plan := fun id => match id with
 | 13 => some [(16,21)]
 | 21 => some []
 | 36 => some []
 | _ => none
section
set_option maxRecDepth 100000
set_option maxHeartbeats 32000000 in
theorem wonce_law : zbz Try.prog 4 wonceS := by
 refine fn_soundF (S := zeg) (T := ty) (pl := zbf) zdc ty_ok Swo35_ok Try.func4 (c := Try.f4.body.getD .skip) (by kernel_rfl) (by kernel_rfl) (fun xs pins hp _ => ?_)
 unfold wonceS at hp ⊢
 split at hp
 · rename_i z y xs f _
   obtain ⟨⟨hL,l,rfl⟩,⟨z0,z1⟩,y0,y1⟩ := hp
   rw [List.length_map] at hL
   have hle : (l.map fedA).length = l.length := by simp
   have wz : (z + 9223372036854775808) % 18446744073709551616 - 9223372036854775808 = z := by omega
   have wy : (y + 9223372036854775808) % 18446744073709551616 - 9223372036854775808 = y := by omega
   have wz1 : (1 + z + 9223372036854775808) % 18446744073709551616 - 9223372036854775808 = 1 + z := by omega
   have ht : top = 4294967296 := rfl
   refine ⟨by simp,?_⟩
   unfold Try.f4
   by_cases h60 : 60 < l.length
   · have d60 : decide ((60 : Int) < (l.length : Int)) = true := decide_eq_true (by omega)
     simp only [go_sem,zad,Nat.reduceAdd,Nat.reduceSub,Nat.reduceMul,Int.reduceToNat,reduceCtorEq,↓reduceIte,Int.reducePow,Nat.reducePow,Int.reduceMod,Nat.reduceLeDiff,Int.reduceLE,Int.reduceNe,Int.reduceEq,Nat.reduceEqDiff,Nat.reduceLT,Nat.reduceBEq,List.map_cons,List.map_nil,List.toList_toArray,Array.toList_append,Option.toArray_some,Option.toArray_none,Bool.and_self,ty,zeg,zbf,yesS,hle,d60,Bool.not_true,Bool.not_false]
     exact zbq 6 rfl
   · have d60 : decide ((60 : Int) < (l.length : Int)) = false := decide_eq_false (by omega)
     have hnw : newV (1 + z) y = .tup [.agg [.w (.int .i64 (1 + z)),.w (.int .i64 y),.w (.int .i64 (-1)),.w (.int .i64 0),.sg 6 [] true],.w (.int .i64 0)] := by
       unfold newV; rw [if_pos (new_ok z0 z1 y0 y1)]
     simp only [go_sem,zad,Nat.reduceAdd,Nat.reduceSub,Nat.reduceMul,Int.reduceToNat,reduceCtorEq,↓reduceIte,Int.reducePow,Nat.reducePow,Int.reduceMod,Nat.reduceLeDiff,Int.reduceLE,Int.reduceNe,Int.reduceEq,Nat.reduceEqDiff,Nat.reduceLT,Nat.reduceBEq,List.map_cons,List.map_nil,List.toList_toArray,Array.toList_append,Option.toArray_some,Option.toArray_none,Bool.and_self,ty,zeg,zbf,yesS,newS35,hnw,hle,d60,wz,wy,wz1,decide_true,Bool.not_true,Bool.not_false]
     refine zdr ⟨fun m σ => ∃ (i n : Nat) (M D C S : Int) (o T : List WS) (g : Bool),m = l.length - i ∧ i ≤ l.length ∧ n = T.length ∧ OnceI (1 + z) y M D o T C S i ∧
       σ = ⟨[.w (.int .u8 z),.w (.int .u8 y),.sg 3 (l.map fedA) f,.junk,.junk,.junk,.w (.bool false),.rf 4 5 0 0,.junk,.ms 5 6 0 n,.w (.int .i64 C),.w (.int .i64 S),.w (.int .i64 i),.junk,.junk,.junk,.junk,.junk,.junk,.junk,.junk,.junk,.junk,.junk,.junk,.junk,.junk,.junk,.junk,.junk,.junk,.junk,.junk,.junk,.junk,.junk,.junk,.junk,.junk,.junk,.junk,.junk,.junk,.junk,.junk,.junk,.junk,.junk,.junk,.junk,.junk,.junk,.junk,.junk,.junk,.junk,.junk,.junk,.junk,.junk,.junk,.junk,.junk,.junk,.junk,.junk,.junk,.junk,.junk,.junk,.junk,.junk,.junk,.junk,.junk,.junk,.junk,.junk,.junk,.junk,.junk,.junk,.junk,.junk,.junk,.junk,.junk,.junk,.junk,.junk,.junk,.junk,.junk,.junk,.junk,.junk,.junk,.junk,.junk,.junk,.junk,.junk,.junk,.junk,.junk,.junk,.junk,.junk,.junk,.junk,.junk,.junk,.junk,.junk,.junk,.junk,.junk,.junk,.junk,.junk,.junk,.junk,.junk,.junk,.junk,.junk,.junk,.junk,.junk,.junk,.junk,.junk,.junk,.junk,.junk,.junk,.junk,.junk,.junk,.junk,.junk,.junk,.junk,.junk,.junk,.junk,.junk,.junk,.junk,.junk,.junk,.junk,.junk,.junk,.junk,.junk,.junk,.junk,.junk,.junk,.junk,.junk,.junk,.junk,.junk,.junk,.junk,.junk,.junk,.junk,.junk,.junk,.junk,.junk,.junk,.junk,.junk,.junk,.junk,.junk,.junk,.junk,.junk,.junk,.junk,.junk,.junk,.junk,.junk,.junk,.junk,.junk,.junk,.junk,.junk,.junk,.junk,.junk,.junk,.junk],
         [(4,.g 5 [.agg [.w (.int .i64 (1 + z)),.w (.int .i64 y),.w (.int .i64 M),.w (.int .i64 D),.sg 6 (o.map wsA) g]]),(5,.g 6 (T.map wsA))],6⟩,?_,?_⟩
     · refine ⟨_,_,(weak_nil 9 6 (.g 6 []) ⟨by decide,rfl⟩ (by exact trivial)).trans (zao [0,1,2,3,108,180] rfl rfl rfl ?_ ?_),0,0,-1,0,0,0,[],[],true,rfl,by omega,rfl,once_start z0 z1 y0 y1,rfl⟩
       · simp only [ssT,zav,zaw,setSlot,gOf,AV.ren,renL,Blk.ren,Ax.look,Ax.put,reduceCtorEq,↓reduceIte,Nat.reduceEqDiff,Nat.reduceLT,Nat.reduceAdd,List.length_append,List.length_cons,List.length_nil,Option.some.injEq]; try simp
       · simp only [ssT,zav,zaw,setSlot,gOf,AV.ren,renL,Blk.ren,Ax.look,Ax.put,reduceCtorEq,↓reduceIte,Nat.reduceEqDiff,Nat.reduceLT,Nat.reduceAdd,List.length_append,List.length_cons,List.length_nil,Option.some.injEq]; try simp [renL]
         try rfl
     · rintro m σ ⟨i,n,M,D,C,S,o,T,g,rfl,hi,rfl,hI,rfl⟩
       have e1 : ((i : Int) + 1 + 9223372036854775808) % 18446744073709551616 - 9223372036854775808 = ((i + 1 : Nat) : Int) := by omega
       have hte : (T.map wsA).length = T.length := by simp
       by_cases hil : i < l.length
       · have d1 : decide ((i : Int) < l.length) = true := decide_eq_true (by omega)
         have hs1 := slot_fed l i hil
         obtain ⟨r,hr⟩ : ∃ r,l[i] = r := ⟨_,rfl⟩
         rw [hr] at hs1
         obtain ⟨k,t,v⟩ := r
         have hs1 : slot (l.map fedA) i = .agg [.str k,.w (.int .i64 t),.w (.int .i64 v)] := hs1
         by_cases hk : 100 < k.length
         · have dk : decide ((100 : Int) < (k.length : Int)) = true := decide_eq_true (by omega)
           simp only [go_sem,zad,Nat.reduceAdd,Nat.reduceSub,Nat.reduceMul,Int.reduceToNat,reduceCtorEq,↓reduceIte,Int.reducePow,Nat.reducePow,Int.reduceMod,Nat.reduceLeDiff,Int.reduceLE,Int.reduceNe,Int.reduceEq,Nat.reduceEqDiff,Nat.reduceLT,Nat.reduceBEq,List.map_cons,List.map_nil,List.toList_toArray,Array.toList_append,Option.toArray_some,Option.toArray_none,Bool.and_self,ty,zeg,zbf,yesS,hle,d1,hs1,dk,Int.toNat_natCast,Bool.not_true,Bool.not_false]
           repeat (refine And.intro (by omega) ?_)
           refine ⟨_,Weak.refl _,?_⟩
           simp only [go_sem,zad,Nat.reduceAdd,Nat.reduceSub,Nat.reduceMul,Int.reduceToNat,reduceCtorEq,↓reduceIte,Int.reducePow,Nat.reducePow,Int.reduceMod,Nat.reduceLeDiff,Int.reduceLE,Int.reduceNe,Int.reduceEq,Nat.reduceEqDiff,Nat.reduceLT,Nat.reduceBEq,List.map_cons,List.map_nil,List.toList_toArray,Array.toList_append,Option.toArray_some,Option.toArray_none,Bool.and_self,ty,zeg,zbf,yesS]
           exact zbq 6 rfl
         · have dk : decide ((100 : Int) < (k.length : Int)) = false := decide_eq_false (by omega)
           have hoe : (o.map wsA).length = o.length := by simp
           have ho6 : o.length ≤ 1000000 := by have := (ch_ok hI.ch).2.2.2.2.1; omega
           have xo : ∃ q : List WS,o.map wsA = q.map wsA := ⟨o,rfl⟩
           have cs : ∀ (l : List WS) f,coe ty 29 (.sg 6 (l.map wsA) f) = .sg 6 (l.map wsA) f := fun l f => by cases l <;> rfl
           obtain ⟨A,hA⟩ : ∃ A,fdW (1 + z) y M D o k t v = A := ⟨_,rfl⟩
           have hstep := once_step (k := k) (t := t) (n := v) hI (by omega) hA
           obtain ⟨aZ,aL,aM,aD,ao,af,ac,ae⟩ := A
           simp only at hstep
           by_cases he : ae = 0
           · have de : decide (ae = 0) = true := decide_eq_true he
             obtain ⟨rfl,rfl,hM,hD,hor⟩ := hstep he
             by_cases hd : aD = D
             · have dd : decide (aD = D) = true := decide_eq_true hd
               have wC : (C + 1 + 9223372036854775808) % 18446744073709551616 - 9223372036854775808 = C + 1 := by have := hI.bc; omega
               have wS : (S + v + 9223372036854775808) % 18446744073709551616 - 9223372036854775808 = S + v := by have := hI.bs; have := feed_n hI.ch (by rw [hA]; exact he); omega
               simp (config := { maxSteps := 3000000 }) only [go_sem,zad,Nat.reduceAdd,Nat.reduceSub,Nat.reduceMul,Int.reduceToNat,reduceCtorEq,↓reduceIte,Int.reducePow,Nat.reducePow,Int.reduceMod,Nat.reduceLeDiff,Int.reduceLE,Int.reduceNe,Int.reduceEq,Nat.reduceEqDiff,Nat.reduceLT,Nat.reduceBEq,List.map_cons,List.map_nil,List.toList_toArray,Array.toList_append,Option.toArray_some,Option.toArray_none,Bool.and_self,ty,zeg,zbf,yesS,feedS35,frA,hA,cs,hoe,ho6,xo,hle,d1,hs1,dk,de,dd,wC,wS,e1,zam,zal,decide_true,Int.toNat_natCast,Bool.not_true,Bool.not_false]
               have hI2 := (hor.resolve_left (fun h => h.1 hd)).2
               have hla : (ac.map wsA).length = ac.length := by simp
               have hTA := once_len hI2
               have hca : chW (1 + z) aL aM aD ao = 0 := hI2.ch
               have hao : (ao.map wsA).length = ao.length := by simp
               have hao9 : ao.length ≤ 9223372036854775807 := by have := (ch_ok hca).2.2.2.2.1; omega
               have xao : ∃ q : List WS,ao.map wsA = q.map wsA := ⟨ao,rfl⟩
               have v1 : decide (aM < M) = false := decide_eq_false (by omega)
               have v2 : decide (aD < D) = false := decide_eq_false (by omega)
               have hatt : T.map wsA ++ ac.map wsA = (T ++ ac).map wsA := by rw [List.map_append]
               have htk : (ac.map wsA).take ac.length = ac.map wsA := List.take_of_length_le (by simp)
               rw [List.length_append] at hTA
               have hin := (hI2).tl
               have oZ2 := (ch_ok (hI2).ch)
               repeat (refine And.intro (by omega) ?_)
               refine zdr ⟨fun m σ => ∃ j : Nat,m = ac.length - j ∧ j ≤ ac.length ∧
                 σ = ⟨[.w (.int .u8 z),.w (.int .u8 aL),.sg 3 (l.map fedA) f,.junk,.junk,.junk,.w (.bool false),.rf 4 5 0 0,.junk,.ms 5 6 0 T.length,.w (.int .i64 (C + 1)),.w (.int .i64 (S + v)),.w (.int .i64 i),.rf 6 5 0 0,.sg 6 (ac.map wsA) false,.junk,.w (.int .i64 j),.junk,.junk,.junk,.junk,.junk,.junk,.junk,.junk,.junk,.junk,.junk,.junk,.junk,.junk,.junk,.junk,.junk,.junk,.junk,.junk,.junk,.junk,.junk,.junk,.junk,.junk,.junk,.junk,.junk,.junk,.junk,.junk,.junk,.junk,.junk,.junk,.junk,.junk,.junk,.junk,.junk,.junk,.junk,.junk,.junk,.junk,.junk,.junk,.junk,.junk,.junk,.junk,.junk,.junk,.junk,.junk,.junk,.junk,.junk,.junk,.junk,.junk,.junk,.junk,.junk,.junk,.junk,.junk,.junk,.junk,.junk,.junk,.junk,.junk,.junk,.junk,.junk,.junk,.junk,.junk,.junk,.junk,.junk,.junk,.junk,.junk,.junk,.junk,.junk,.junk,.junk,.junk,.junk,.junk,.junk,.junk,.junk,.junk,.junk,.junk,.junk,.junk,.junk,.junk,.junk,.junk,.junk,.junk,.junk,.junk,.junk,.junk,.junk,.junk,.junk,.junk,.junk,.junk,.junk,.junk,.junk,.junk,.junk,.junk,.junk,.junk,.junk,.junk,.junk,.junk,.junk,.junk,.junk,.junk,.junk,.junk,.junk,.junk,.junk,.junk,.junk,.junk,.junk,.junk,.junk,.junk,.junk,.junk,.junk,.junk,.junk,.junk,.junk,.junk,.junk,.junk,.junk,.junk,.junk,.junk,.junk,.junk,.junk,.junk,.junk,.junk,.junk,.junk,.junk,.junk,.junk,.junk,.junk,.junk,.junk,.junk,.junk,.junk,.junk,.junk,.junk,.junk,.junk],
                   [(4,.g 5 [.agg [.w (.int .i64 (1 + z)),.w (.int .i64 aL),.w (.int .i64 M),.w (.int .i64 D),.sg 6 (o.map wsA) g]]),(5,.g 6 (T.map wsA)),(6,.g 5 [.agg [.w (.int .i64 (1 + z)),.w (.int .i64 aL),.w (.int .i64 aM),.w (.int .i64 aD),.sg 6 (ao.map wsA) af]])],7⟩,?_,?_⟩
               · refine ⟨_,_,zao [0,1,2,3,4,5,262] rfl rfl rfl ?_ ?_,0,rfl,by omega,rfl⟩
                 · simp only [ssT,zav,zaw,setSlot,gOf,AV.ren,renL,Blk.ren,Ax.look,Ax.put,reduceCtorEq,↓reduceIte,Nat.reduceEqDiff,Nat.reduceLT,Nat.reduceAdd,List.length_append,List.length_cons,List.length_nil,Option.some.injEq,zaz]; try simp
                 · simp only [ssT,zav,zaw,setSlot,gOf,AV.ren,renL,Blk.ren,Ax.look,Ax.put,reduceCtorEq,↓reduceIte,Nat.reduceEqDiff,Nat.reduceLT,Nat.reduceAdd,List.length_append,List.length_cons,List.length_nil,Option.some.injEq,zaz]; try simp
               · rintro m σ ⟨j,rfl,hj,rfl⟩
                 have e2 : ((j : Int) + 1 + 9223372036854775808) % 18446744073709551616 - 9223372036854775808 = ((j + 1 : Nat) : Int) := by omega
                 by_cases hjl : j < ac.length
                 · have d3 : decide ((j : Int) < ac.length) = true := decide_eq_true (by omega)
                   have hs2 := zcb ac j hjl
                   have hr2 := hin ac[j] (List.mem_append.2 (.inr (List.getElem_mem hjl)))
                   obtain ⟨q,hq⟩ : ∃ q,ac[j] = q := ⟨_,rfl⟩
                   rw [hq] at hs2 hr2
                   obtain ⟨s1,k1,c1,t1,a1,b1⟩ := q
                   have hs2 : slot (ac.map wsA) j = .agg [.w (.int .i64 s1),.str k1,.w (.int .i64 c1),.w (.int .i64 t1),.w (.int .i64 a1),.w (.int .i64 b1)] := hs2
                   obtain ⟨r1,⟨r2,r3⟩,r4,_⟩ := hr2
                   simp only at r1 r2 r3 r4
                   have r1 := of_decide_eq_true r1
                   have u1 : (s1 + (1 + z) + 9223372036854775808) % 18446744073709551616 - 9223372036854775808 = s1 + (1 + z) := by omega
                   have u2 : (s1 + (1 + z) + aL + 9223372036854775808) % 18446744073709551616 - 9223372036854775808 = s1 + (1 + z) + aL := by omega
                   have u3 : decide (aM < s1 + (1 + z) + aL) = false := decide_eq_false (by omega)
                   have u4 : ¬ 1 + z = 0 := by omega
                   have u5 : decide (s1.tmod (1 + z) = 0) = true := decide_eq_true r4
                   simp (config := { maxSteps := 3000000 }) only [go_sem,zad,Nat.reduceAdd,Nat.reduceSub,Nat.reduceMul,Int.reduceToNat,reduceCtorEq,↓reduceIte,Int.reducePow,Nat.reducePow,Int.reduceMod,Nat.reduceLeDiff,Int.reduceLE,Int.reduceNe,Int.reduceEq,Nat.reduceEqDiff,Nat.reduceLT,Nat.reduceBEq,List.map_cons,List.map_nil,List.toList_toArray,Array.toList_append,Option.toArray_some,Option.toArray_none,Bool.and_self,ty,zeg,zbf,hla,d3,e2,hs2,u1,u2,u3,u4,u5,r4,decide_true,Int.toNat_natCast,Bool.not_true,Bool.not_false]
                   refine ⟨⟨by omega,by omega⟩,⟨by omega,by omega⟩,ac.length - (j + 1),_,by omega,zao [0,1,2,3,4,5,6] rfl rfl rfl ?_ ?_,j + 1,rfl,by omega,rfl⟩
                   · simp only [ssT,zav,zaw,setSlot,gOf,AV.ren,renL,Blk.ren,Ax.look,Ax.put,reduceCtorEq,↓reduceIte,Nat.reduceEqDiff,Nat.reduceLT,Nat.reduceAdd,List.length_append,List.length_cons,List.length_nil,Option.some.injEq,zaz]; try simp
                   · simp only [ssT,zav,zaw,setSlot,gOf,AV.ren,renL,Blk.ren,Ax.look,Ax.put,reduceCtorEq,↓reduceIte,Nat.reduceEqDiff,Nat.reduceLT,Nat.reduceAdd,List.length_append,List.length_cons,List.length_nil,Option.some.injEq,zaz]; try simp
                 · have d3 : decide ((j : Int) < ac.length) = false := decide_eq_false (by omega)
                   simp (config := { maxSteps := 3000000 }) only [go_sem,zad,Nat.reduceAdd,Nat.reduceSub,Nat.reduceMul,Int.reduceToNat,reduceCtorEq,↓reduceIte,Int.reducePow,Nat.reducePow,Int.reduceMod,Nat.reduceLeDiff,Int.reduceLE,Int.reduceNe,Int.reduceEq,Nat.reduceEqDiff,Nat.reduceLT,Nat.reduceBEq,List.map_cons,List.map_nil,List.toList_toArray,Array.toList_append,Option.toArray_some,Option.toArray_none,Bool.and_self,ty,zeg,zbf,zdf,cs,hao,hao9,xao,hca,v1,v2,hla,hte,d3,e1,hatt,htk,zdd,zal,zam,decide_true,List.drop_zero,Nat.sub_zero,Int.toNat_natCast,Bool.not_true,Bool.not_false]
                   refine ⟨_,Weak.refl _,?_⟩
                   simp (config := { maxSteps := 3000000 }) only [go_sem,zad,Nat.reduceAdd,Nat.reduceSub,Nat.reduceMul,Int.reduceToNat,reduceCtorEq,↓reduceIte,Int.reducePow,Nat.reducePow,Int.reduceMod,Nat.reduceLeDiff,Int.reduceLE,Int.reduceNe,Int.reduceEq,Nat.reduceEqDiff,Nat.reduceLT,Nat.reduceBEq,List.map_cons,List.map_nil,List.toList_toArray,Array.toList_append,Option.toArray_some,Option.toArray_none,Bool.and_self,ty,zeg,zbf,zdf,cs,hao,hao9,xao,hca,v1,v2,hla,hte,d3,e1,hatt,htk,zdd,zal,zam,decide_true,List.drop_zero,Nat.sub_zero,Int.toNat_natCast,Bool.not_true,Bool.not_false]
                   refine ⟨by omega,l.length - (i + 1),_,by omega,zao [0,1,2,3,4,191] rfl rfl rfl ?_ ?_,i + 1,T.length + ac.length,aM,aD,C + 1,S + v,ao,T ++ ac,af,rfl,by omega,by rw [List.length_append],hI2,rfl⟩
                   · simp only [ssT,zav,zaw,setSlot,gOf,AV.ren,renL,Blk.ren,Ax.look,Ax.put,reduceCtorEq,↓reduceIte,Nat.reduceEqDiff,Nat.reduceLT,Nat.reduceAdd,List.length_append,List.length_cons,List.length_nil,Option.some.injEq,zaz]; try simp
                   · simp only [ssT,zav,zaw,setSlot,gOf,AV.ren,renL,Blk.ren,Ax.look,Ax.put,reduceCtorEq,↓reduceIte,Nat.reduceEqDiff,Nat.reduceLT,Nat.reduceAdd,List.length_append,List.length_cons,List.length_nil,Option.some.injEq,zaz]; try simp
             · have dd : decide (aD = D) = false := decide_eq_false hd
               simp (config := { maxSteps := 3000000 }) only [go_sem,zad,Nat.reduceAdd,Nat.reduceSub,Nat.reduceMul,Int.reduceToNat,reduceCtorEq,↓reduceIte,Int.reducePow,Nat.reducePow,Int.reduceMod,Nat.reduceLeDiff,Int.reduceLE,Int.reduceNe,Int.reduceEq,Nat.reduceEqDiff,Nat.reduceLT,Nat.reduceBEq,List.map_cons,List.map_nil,List.toList_toArray,Array.toList_append,Option.toArray_some,Option.toArray_none,Bool.and_self,ty,zeg,zbf,yesS,feedS35,frA,hA,cs,hoe,ho6,xo,hle,d1,hs1,dk,de,dd,e1,zam,zal,decide_true,Int.toNat_natCast,Bool.not_true,Bool.not_false]
               have hI2 := (hor.resolve_right (fun h => hd h.1)).2
               have hla : (ac.map wsA).length = ac.length := by simp
               have hTA := once_len hI2
               have hca : chW (1 + z) aL aM aD ao = 0 := hI2.ch
               have hao : (ao.map wsA).length = ao.length := by simp
               have hao9 : ao.length ≤ 9223372036854775807 := by have := (ch_ok hca).2.2.2.2.1; omega
               have xao : ∃ q : List WS,ao.map wsA = q.map wsA := ⟨ao,rfl⟩
               have v1 : decide (aM < M) = false := decide_eq_false (by omega)
               have v2 : decide (aD < D) = false := decide_eq_false (by omega)
               have hatt : T.map wsA ++ ac.map wsA = (T ++ ac).map wsA := by rw [List.map_append]
               have htk : (ac.map wsA).take ac.length = ac.map wsA := List.take_of_length_le (by simp)
               rw [List.length_append] at hTA
               have hin := (hI2).tl
               have oZ2 := (ch_ok (hI2).ch)
               repeat (refine And.intro (by omega) ?_)
               refine zdr ⟨fun m σ => ∃ j : Nat,m = ac.length - j ∧ j ≤ ac.length ∧
                 σ = ⟨[.w (.int .u8 z),.w (.int .u8 aL),.sg 3 (l.map fedA) f,.junk,.junk,.junk,.w (.bool false),.rf 4 5 0 0,.junk,.ms 5 6 0 T.length,.w (.int .i64 C),.w (.int .i64 S),.w (.int .i64 i),.rf 6 5 0 0,.sg 6 (ac.map wsA) false,.junk,.w (.int .i64 j),.junk,.junk,.junk,.junk,.junk,.junk,.junk,.junk,.junk,.junk,.junk,.junk,.junk,.junk,.junk,.junk,.junk,.junk,.junk,.junk,.junk,.junk,.junk,.junk,.junk,.junk,.junk,.junk,.junk,.junk,.junk,.junk,.junk,.junk,.junk,.junk,.junk,.junk,.junk,.junk,.junk,.junk,.junk,.junk,.junk,.junk,.junk,.junk,.junk,.junk,.junk,.junk,.junk,.junk,.junk,.junk,.junk,.junk,.junk,.junk,.junk,.junk,.junk,.junk,.junk,.junk,.junk,.junk,.junk,.junk,.junk,.junk,.junk,.junk,.junk,.junk,.junk,.junk,.junk,.junk,.junk,.junk,.junk,.junk,.junk,.junk,.junk,.junk,.junk,.junk,.junk,.junk,.junk,.junk,.junk,.junk,.junk,.junk,.junk,.junk,.junk,.junk,.junk,.junk,.junk,.junk,.junk,.junk,.junk,.junk,.junk,.junk,.junk,.junk,.junk,.junk,.junk,.junk,.junk,.junk,.junk,.junk,.junk,.junk,.junk,.junk,.junk,.junk,.junk,.junk,.junk,.junk,.junk,.junk,.junk,.junk,.junk,.junk,.junk,.junk,.junk,.junk,.junk,.junk,.junk,.junk,.junk,.junk,.junk,.junk,.junk,.junk,.junk,.junk,.junk,.junk,.junk,.junk,.junk,.junk,.junk,.junk,.junk,.junk,.junk,.junk,.junk,.junk,.junk,.junk,.junk,.junk,.junk,.junk,.junk,.junk,.junk,.junk,.junk,.junk,.junk,.junk,.junk],
                   [(4,.g 5 [.agg [.w (.int .i64 (1 + z)),.w (.int .i64 aL),.w (.int .i64 M),.w (.int .i64 D),.sg 6 (o.map wsA) g]]),(5,.g 6 (T.map wsA)),(6,.g 5 [.agg [.w (.int .i64 (1 + z)),.w (.int .i64 aL),.w (.int .i64 aM),.w (.int .i64 aD),.sg 6 (ao.map wsA) af]])],7⟩,?_,?_⟩
               · refine ⟨_,_,zao [0,1,2,3,4,5,262] rfl rfl rfl ?_ ?_,0,rfl,by omega,rfl⟩
                 · simp only [ssT,zav,zaw,setSlot,gOf,AV.ren,renL,Blk.ren,Ax.look,Ax.put,reduceCtorEq,↓reduceIte,Nat.reduceEqDiff,Nat.reduceLT,Nat.reduceAdd,List.length_append,List.length_cons,List.length_nil,Option.some.injEq,zaz]; try simp
                 · simp only [ssT,zav,zaw,setSlot,gOf,AV.ren,renL,Blk.ren,Ax.look,Ax.put,reduceCtorEq,↓reduceIte,Nat.reduceEqDiff,Nat.reduceLT,Nat.reduceAdd,List.length_append,List.length_cons,List.length_nil,Option.some.injEq,zaz]; try simp
               · rintro m σ ⟨j,rfl,hj,rfl⟩
                 have e2 : ((j : Int) + 1 + 9223372036854775808) % 18446744073709551616 - 9223372036854775808 = ((j + 1 : Nat) : Int) := by omega
                 by_cases hjl : j < ac.length
                 · have d3 : decide ((j : Int) < ac.length) = true := decide_eq_true (by omega)
                   have hs2 := zcb ac j hjl
                   have hr2 := hin ac[j] (List.mem_append.2 (.inr (List.getElem_mem hjl)))
                   obtain ⟨q,hq⟩ : ∃ q,ac[j] = q := ⟨_,rfl⟩
                   rw [hq] at hs2 hr2
                   obtain ⟨s1,k1,c1,t1,a1,b1⟩ := q
                   have hs2 : slot (ac.map wsA) j = .agg [.w (.int .i64 s1),.str k1,.w (.int .i64 c1),.w (.int .i64 t1),.w (.int .i64 a1),.w (.int .i64 b1)] := hs2
                   obtain ⟨r1,⟨r2,r3⟩,r4,_⟩ := hr2
                   simp only at r1 r2 r3 r4
                   have r1 := of_decide_eq_true r1
                   have u1 : (s1 + (1 + z) + 9223372036854775808) % 18446744073709551616 - 9223372036854775808 = s1 + (1 + z) := by omega
                   have u2 : (s1 + (1 + z) + aL + 9223372036854775808) % 18446744073709551616 - 9223372036854775808 = s1 + (1 + z) + aL := by omega
                   have u3 : decide (aM < s1 + (1 + z) + aL) = false := decide_eq_false (by omega)
                   have u4 : ¬ 1 + z = 0 := by omega
                   have u5 : decide (s1.tmod (1 + z) = 0) = true := decide_eq_true r4
                   simp (config := { maxSteps := 3000000 }) only [go_sem,zad,Nat.reduceAdd,Nat.reduceSub,Nat.reduceMul,Int.reduceToNat,reduceCtorEq,↓reduceIte,Int.reducePow,Nat.reducePow,Int.reduceMod,Nat.reduceLeDiff,Int.reduceLE,Int.reduceNe,Int.reduceEq,Nat.reduceEqDiff,Nat.reduceLT,Nat.reduceBEq,List.map_cons,List.map_nil,List.toList_toArray,Array.toList_append,Option.toArray_some,Option.toArray_none,Bool.and_self,ty,zeg,zbf,hla,d3,e2,hs2,u1,u2,u3,u4,u5,r4,decide_true,Int.toNat_natCast,Bool.not_true,Bool.not_false]
                   refine ⟨⟨by omega,by omega⟩,⟨by omega,by omega⟩,ac.length - (j + 1),_,by omega,zao [0,1,2,3,4,5,6] rfl rfl rfl ?_ ?_,j + 1,rfl,by omega,rfl⟩
                   · simp only [ssT,zav,zaw,setSlot,gOf,AV.ren,renL,Blk.ren,Ax.look,Ax.put,reduceCtorEq,↓reduceIte,Nat.reduceEqDiff,Nat.reduceLT,Nat.reduceAdd,List.length_append,List.length_cons,List.length_nil,Option.some.injEq,zaz]; try simp
                   · simp only [ssT,zav,zaw,setSlot,gOf,AV.ren,renL,Blk.ren,Ax.look,Ax.put,reduceCtorEq,↓reduceIte,Nat.reduceEqDiff,Nat.reduceLT,Nat.reduceAdd,List.length_append,List.length_cons,List.length_nil,Option.some.injEq,zaz]; try simp
                 · have d3 : decide ((j : Int) < ac.length) = false := decide_eq_false (by omega)
                   simp (config := { maxSteps := 3000000 }) only [go_sem,zad,Nat.reduceAdd,Nat.reduceSub,Nat.reduceMul,Int.reduceToNat,reduceCtorEq,↓reduceIte,Int.reducePow,Nat.reducePow,Int.reduceMod,Nat.reduceLeDiff,Int.reduceLE,Int.reduceNe,Int.reduceEq,Nat.reduceEqDiff,Nat.reduceLT,Nat.reduceBEq,List.map_cons,List.map_nil,List.toList_toArray,Array.toList_append,Option.toArray_some,Option.toArray_none,Bool.and_self,ty,zeg,zbf,zdf,cs,hao,hao9,xao,hca,v1,v2,hla,hte,d3,e1,hatt,htk,zdd,zal,zam,decide_true,List.drop_zero,Nat.sub_zero,Int.toNat_natCast,Bool.not_true,Bool.not_false]
                   refine ⟨_,Weak.refl _,?_⟩
                   simp (config := { maxSteps := 3000000 }) only [go_sem,zad,Nat.reduceAdd,Nat.reduceSub,Nat.reduceMul,Int.reduceToNat,reduceCtorEq,↓reduceIte,Int.reducePow,Nat.reducePow,Int.reduceMod,Nat.reduceLeDiff,Int.reduceLE,Int.reduceNe,Int.reduceEq,Nat.reduceEqDiff,Nat.reduceLT,Nat.reduceBEq,List.map_cons,List.map_nil,List.toList_toArray,Array.toList_append,Option.toArray_some,Option.toArray_none,Bool.and_self,ty,zeg,zbf,zdf,cs,hao,hao9,xao,hca,v1,v2,hla,hte,d3,e1,hatt,htk,zdd,zal,zam,decide_true,List.drop_zero,Nat.sub_zero,Int.toNat_natCast,Bool.not_true,Bool.not_false]
                   refine ⟨by omega,l.length - (i + 1),_,by omega,zao [0,1,2,3,4,191] rfl rfl rfl ?_ ?_,i + 1,T.length + ac.length,aM,aD,C,S,ao,T ++ ac,af,rfl,by omega,by rw [List.length_append],hI2,rfl⟩
                   · simp only [ssT,zav,zaw,setSlot,gOf,AV.ren,renL,Blk.ren,Ax.look,Ax.put,reduceCtorEq,↓reduceIte,Nat.reduceEqDiff,Nat.reduceLT,Nat.reduceAdd,List.length_append,List.length_cons,List.length_nil,Option.some.injEq,zaz]; try simp
                   · simp only [ssT,zav,zaw,setSlot,gOf,AV.ren,renL,Blk.ren,Ax.look,Ax.put,reduceCtorEq,↓reduceIte,Nat.reduceEqDiff,Nat.reduceLT,Nat.reduceAdd,List.length_append,List.length_cons,List.length_nil,Option.some.injEq,zaz]; try simp
           · have de : decide (ae = 0) = false := decide_eq_false he
             simp (config := { maxSteps := 3000000 }) only [go_sem,zad,Nat.reduceAdd,Nat.reduceSub,Nat.reduceMul,Int.reduceToNat,reduceCtorEq,↓reduceIte,Int.reducePow,Nat.reducePow,Int.reduceMod,Nat.reduceLeDiff,Int.reduceLE,Int.reduceNe,Int.reduceEq,Nat.reduceEqDiff,Nat.reduceLT,Nat.reduceBEq,List.map_cons,List.map_nil,List.toList_toArray,Array.toList_append,Option.toArray_some,Option.toArray_none,Bool.and_self,ty,zeg,zbf,yesS,feedS35,frA,hA,cs,hoe,ho6,xo,hle,d1,hs1,dk,de,e1,zam,zal,decide_true,Int.toNat_natCast,Bool.not_true,Bool.not_false]
             repeat (refine And.intro (by omega) ?_)
             refine ⟨l.length - (i + 1),_,by omega,zao [0,1,2,3,4,5] rfl rfl rfl ?_ ?_,i + 1,T.length,M,D,C,S,o,T,g,rfl,by omega,rfl,once_skip hI,rfl⟩
             · simp only [ssT,zav,zaw,setSlot,gOf,AV.ren,renL,Blk.ren,Ax.look,Ax.put,reduceCtorEq,↓reduceIte,Nat.reduceEqDiff,Nat.reduceLT,Nat.reduceAdd,List.length_append,List.length_cons,List.length_nil,Option.some.injEq,zaz]; try simp
             · simp only [ssT,zav,zaw,setSlot,gOf,AV.ren,renL,Blk.ren,Ax.look,Ax.put,reduceCtorEq,↓reduceIte,Nat.reduceEqDiff,Nat.reduceLT,Nat.reduceAdd,List.length_append,List.length_cons,List.length_nil,Option.some.injEq,zaz]; try simp
       · have d1 : decide ((i : Int) < l.length) = false := decide_eq_false (by omega)
         simp only [go_sem,zad,Nat.reduceAdd,Nat.reduceSub,Nat.reduceMul,Int.reduceToNat,reduceCtorEq,↓reduceIte,Int.reducePow,Nat.reducePow,Int.reduceMod,Nat.reduceLeDiff,Int.reduceLE,Int.reduceNe,Int.reduceEq,Nat.reduceEqDiff,Nat.reduceLT,Nat.reduceBEq,List.map_cons,List.map_nil,List.toList_toArray,Array.toList_append,Option.toArray_some,Option.toArray_none,Bool.and_self,ty,zeg,zbf,yesS,hle,hte,d1,Bool.not_true,Bool.not_false]
         obtain ⟨hap,hsc,hst,hok⟩ := once_end hI
         have hch := hI.ch
         have hln : (T ++ o).length ≤ 60 := by have h1 := sm_len (T ++ o) _ hok; rw [hsc] at h1; have := hI.bc; omega
         have hcv : ∀ g,closeV (1 + z) y M D o g = .tup [.agg [.w (.int .i64 (1 + z)),.w (.int .i64 y),.w (.int .i64 M),.w (.int .i64 D),.sg 6 [] false],.sg 6 (o.map wsA) false] := fun g => by unfold closeV; rw [if_pos hch]
         have hoe : (o.map wsA).length = o.length := by simp
         have ho6 : o.length ≤ 1000000 := by rw [List.length_append] at hln; omega
         have xo : ∃ q : List WS,o.map wsA = q.map wsA := ⟨o,rfl⟩
         have cs : ∀ (l : List WS) f,coe ty 29 (.sg 6 (l.map wsA) f) = .sg 6 (l.map wsA) f := fun l f => by cases l <;> rfl
         have hatt : T.map wsA ++ o.map wsA = (T ++ o).map wsA := by rw [List.map_append]
         have htk : (o.map wsA).take o.length = o.map wsA := List.take_of_length_le (by simp)
         have hTo : T.length + o.length = (T ++ o).length := by rw [List.length_append]
         obtain ⟨U,hU⟩ : ∃ U,T ++ o = U := ⟨_,rfl⟩
         rw [hU] at hap hsc hst hok hln hatt hTo
         have hUe : (U.map wsA).length = U.length := by simp
         have htU : (U.map wsA).take U.length = U.map wsA := List.take_of_length_le (by simp)
         have hU9 : U.length ≤ 9223372036854775807 := by omega
         have xu : ∃ l : List WS,U.map wsA = l.map wsA ∧ ∀ j,j ≤ l.length → smlW (sm WS.c (l.take j)) ∧ smlW (sm WS.t (l.take j)) := ⟨U,rfl,fun j _ => sm_take hok hln j⟩
         refine ⟨_,Weak.refl _,?_⟩
         simp (config := { maxSteps := 3000000 }) only [go_sem,zad,Nat.reduceAdd,Nat.reduceSub,Nat.reduceMul,Int.reduceToNat,reduceCtorEq,↓reduceIte,Int.reducePow,Nat.reducePow,Int.reduceMod,Nat.reduceLeDiff,Int.reduceLE,Int.reduceNe,Int.reduceEq,Nat.reduceEqDiff,Nat.reduceLT,Nat.reduceBEq,List.map_cons,List.map_nil,List.toList_toArray,Array.toList_append,Option.toArray_some,Option.toArray_none,Bool.and_self,ty,zeg,zbf,closeS35,totS35,hcv,hoe,ho6,xo,cs,hatt,htk,hTo,hUe,htU,hU9,xu,hsc,hst,hle,hte,d1,zdd,zal,zam,decide_true,List.drop_zero,Nat.sub_zero,Int.toNat_natCast,Bool.not_true,Bool.not_false]
         refine ⟨by
             have ht : top = 4294967296 := rfl
             omega,mem_ws,?_⟩
         refine zdr ⟨fun m σ => ∃ j : Nat,m = U.length - j ∧ j ≤ U.length ∧
           σ = ⟨[.w (.int .u8 z),.w (.int .u8 y),.sg 3 (l.map fedA) f,.junk,.junk,.junk,.w (.bool false),.junk,.junk,.ms 4 6 0 U.length,.w (.int .i64 C),.w (.int .i64 S),.junk,.junk,.junk,.junk,.junk,.junk,.junk,.w (.int .i64 C),.w (.int .i64 S),.w (.int .i64 j),.junk,.junk,.junk,.junk,.junk,.junk,.junk,.junk,.junk,.junk,.junk,.junk,.junk,.junk,.junk,.junk,.junk,.junk,.junk,.junk,.junk,.junk,.junk,.junk,.junk,.junk,.junk,.junk,.junk,.junk,.junk,.junk,.junk,.junk,.junk,.junk,.junk,.junk,.junk,.junk,.junk,.junk,.junk,.junk,.junk,.junk,.junk,.junk,.junk,.junk,.junk,.junk,.junk,.junk,.junk,.junk,.junk,.junk,.junk,.junk,.junk,.junk,.junk,.junk,.junk,.junk,.junk,.junk,.junk,.junk,.junk,.junk,.junk,.junk,.junk,.junk,.junk,.junk,.junk,.junk,.junk,.junk,.junk,.junk,.junk,.junk,.junk,.junk,.junk,.junk,.junk,.junk,.junk,.junk,.junk,.junk,.junk,.junk,.junk,.junk,.junk,.junk,.junk,.junk,.junk,.junk,.junk,.junk,.junk,.junk,.junk,.junk,.junk,.junk,.junk,.junk,.junk,.junk,.junk,.junk,.junk,.junk,.junk,.junk,.junk,.junk,.junk,.junk,.junk,.junk,.junk,.junk,.junk,.junk,.junk,.junk,.junk,.junk,.junk,.junk,.junk,.junk,.junk,.junk,.junk,.junk,.junk,.junk,.junk,.junk,.junk,.junk,.junk,.junk,.junk,.junk,.junk,.junk,.junk,.junk,.junk,.junk,.junk,.junk,.junk,.junk,.junk,.junk,.junk,.junk,.junk,.junk,.junk,.junk,.junk,.junk,.junk,.junk],[(4,.g 6 (U.map wsA))],5⟩,?_,?_⟩
         · refine ⟨_,_,zao [0,1,2,3,118] rfl rfl rfl ?_ ?_,0,rfl,by omega,rfl⟩
           · simp only [ssT,zav,zaw,setSlot,gOf,AV.ren,renL,Blk.ren,Ax.look,Ax.put,reduceCtorEq,↓reduceIte,Nat.reduceEqDiff,Nat.reduceLT,Nat.reduceAdd,List.length_append,List.length_cons,List.length_nil,Option.some.injEq]; try simp
           · simp only [ssT,zav,zaw,setSlot,gOf,AV.ren,renL,Blk.ren,Ax.look,Ax.put,reduceCtorEq,↓reduceIte,Nat.reduceEqDiff,Nat.reduceLT,Nat.reduceAdd,List.length_append,List.length_cons,List.length_nil,Option.some.injEq,zaz]; try simp
         · rintro m σ ⟨j,rfl,hj,rfl⟩
           have e2 : ((j : Int) + 1 + 9223372036854775808) % 18446744073709551616 - 9223372036854775808 = ((j + 1 : Nat) : Int) := by omega
           by_cases hjl : j < U.length
           · have d3 : decide ((j : Int) < U.length) = true := decide_eq_true (by omega)
             simp (config := { maxSteps := 3000000 }) only [go_sem,zad,Nat.reduceAdd,Nat.reduceSub,Nat.reduceMul,Int.reduceToNat,reduceCtorEq,↓reduceIte,Int.reducePow,Nat.reducePow,Int.reduceMod,Nat.reduceLeDiff,Int.reduceLE,Int.reduceNe,Int.reduceEq,Nat.reduceEqDiff,Nat.reduceLT,Nat.reduceBEq,List.map_cons,List.map_nil,List.toList_toArray,Array.toList_append,Option.toArray_some,Option.toArray_none,Bool.and_self,ty,zeg,zbf,hUe,d3,Int.toNat_natCast,Bool.not_true,Bool.not_false]
             refine zdr ⟨fun m σ => ∃ k : Nat,m = j - k ∧ k ≤ j ∧
               σ = ⟨[.w (.int .u8 z),.w (.int .u8 y),.sg 3 (l.map fedA) f,.junk,.junk,.junk,.w (.bool false),.junk,.junk,.ms 4 6 0 U.length,.w (.int .i64 C),.w (.int .i64 S),.junk,.junk,.junk,.junk,.junk,.junk,.junk,.w (.int .i64 C),.w (.int .i64 S),.w (.int .i64 j),.w (.int .i64 k),.junk,.junk,.junk,.junk,.junk,.junk,.junk,.junk,.junk,.junk,.junk,.junk,.junk,.junk,.junk,.junk,.junk,.junk,.junk,.junk,.junk,.junk,.junk,.junk,.junk,.junk,.junk,.junk,.junk,.junk,.junk,.junk,.junk,.junk,.junk,.junk,.junk,.junk,.junk,.junk,.junk,.junk,.junk,.junk,.junk,.junk,.junk,.junk,.junk,.junk,.junk,.junk,.junk,.junk,.junk,.junk,.junk,.junk,.junk,.junk,.junk,.junk,.junk,.junk,.junk,.junk,.junk,.junk,.junk,.junk,.junk,.junk,.junk,.junk,.junk,.junk,.junk,.junk,.junk,.junk,.junk,.junk,.junk,.junk,.junk,.junk,.junk,.junk,.junk,.junk,.junk,.junk,.junk,.junk,.junk,.junk,.junk,.junk,.junk,.junk,.junk,.junk,.junk,.junk,.junk,.junk,.junk,.junk,.junk,.junk,.junk,.junk,.junk,.junk,.junk,.junk,.junk,.junk,.junk,.junk,.junk,.junk,.junk,.junk,.junk,.junk,.junk,.junk,.junk,.junk,.junk,.junk,.junk,.junk,.junk,.junk,.junk,.junk,.junk,.junk,.junk,.junk,.junk,.junk,.junk,.junk,.junk,.junk,.junk,.junk,.junk,.junk,.junk,.junk,.junk,.junk,.junk,.junk,.junk,.junk,.junk,.junk,.junk,.junk,.junk,.junk,.junk,.junk,.junk,.junk,.junk,.junk,.junk,.junk,.junk,.junk,.junk],[(4,.g 6 (U.map wsA))],5⟩,?_,?_⟩
             · refine ⟨_,_,zao [0,1,2,3,4] rfl rfl rfl ?_ ?_,0,rfl,by omega,rfl⟩
               · simp only [ssT,zav,zaw,setSlot,gOf,AV.ren,renL,Blk.ren,Ax.look,Ax.put,reduceCtorEq,↓reduceIte,Nat.reduceEqDiff,Nat.reduceLT,Nat.reduceAdd,List.length_append,List.length_cons,List.length_nil,Option.some.injEq,zaz]; try simp
               · simp only [ssT,zav,zaw,setSlot,gOf,AV.ren,renL,Blk.ren,Ax.look,Ax.put,reduceCtorEq,↓reduceIte,Nat.reduceEqDiff,Nat.reduceLT,Nat.reduceAdd,List.length_append,List.length_cons,List.length_nil,Option.some.injEq,zaz]; try simp
             · rintro m σ ⟨k,rfl,hk,rfl⟩
               have e3 : ((k : Int) + 1 + 9223372036854775808) % 18446744073709551616 - 9223372036854775808 = ((k + 1 : Nat) : Int) := by omega
               by_cases hkj : k < j
               · have d4 : decide ((k : Int) < j) = true := decide_eq_true (by omega)
                 have hap1 := List.pairwise_iff_getElem.1 hap k j (by omega) hjl hkj
                 have hs3 := zcb U k (by omega)
                 have hs2 := zcb U j hjl
                 obtain ⟨q,hq⟩ : ∃ q,U[j] = q := ⟨_,rfl⟩
                 obtain ⟨r,hr⟩ : ∃ r,U[k]'(by omega) = r := ⟨_,rfl⟩
                 rw [hq] at hs2 hap1
                 rw [hr] at hs3 hap1
                 obtain ⟨s1,k1,c1,t1,a1,b1⟩ := q
                 obtain ⟨s2,k2,c2,t2,a2,b2⟩ := r
                 have hs2 : slot (U.map wsA) j = .agg [.w (.int .i64 s1),.str k1,.w (.int .i64 c1),.w (.int .i64 t1),.w (.int .i64 a1),.w (.int .i64 b1)] := hs2
                 have hs3 : slot (U.map wsA) k = .agg [.w (.int .i64 s2),.str k2,.w (.int .i64 c2),.w (.int .i64 t2),.w (.int .i64 a2),.w (.int .i64 b2)] := hs3
                 by_cases hss : s2 = s1
                 · have d5 : decide (s2 = s1) = true := decide_eq_true hss
                   have d6 : decide (k2 = k1) = false := decide_eq_false (fun h => hap1 ⟨hss,h⟩)
                   simp (config := { maxSteps := 3000000 }) only [go_sem,zad,Nat.reduceAdd,Nat.reduceSub,Nat.reduceMul,Int.reduceToNat,reduceCtorEq,↓reduceIte,Int.reducePow,Nat.reducePow,Int.reduceMod,Nat.reduceLeDiff,Int.reduceLE,Int.reduceNe,Int.reduceEq,Nat.reduceEqDiff,Nat.reduceLT,Nat.reduceBEq,List.map_cons,List.map_nil,List.toList_toArray,Array.toList_append,Option.toArray_some,Option.toArray_none,Bool.and_self,ty,zeg,zbf,hUe,zdd,d4,hs2,hs3,d5,d6,e3,Int.toNat_natCast,Bool.not_true,Bool.not_false]
                   repeat (first | refine And.intro (by omega) ?_ | refine And.intro ⟨by omega,by omega⟩ ?_)
                   refine ⟨j - (k + 1),_,by omega,zao [0,1,2,3,4] rfl rfl rfl ?_ ?_,k + 1,rfl,by omega,rfl⟩
                   · simp only [ssT,zav,zaw,setSlot,gOf,AV.ren,renL,Blk.ren,Ax.look,Ax.put,reduceCtorEq,↓reduceIte,Nat.reduceEqDiff,Nat.reduceLT,Nat.reduceAdd,List.length_append,List.length_cons,List.length_nil,Option.some.injEq,zaz]; try simp
                   · simp only [ssT,zav,zaw,setSlot,gOf,AV.ren,renL,Blk.ren,Ax.look,Ax.put,reduceCtorEq,↓reduceIte,Nat.reduceEqDiff,Nat.reduceLT,Nat.reduceAdd,List.length_append,List.length_cons,List.length_nil,Option.some.injEq,zaz]; try simp
                 · have d5 : decide (s2 = s1) = false := decide_eq_false hss
                   simp (config := { maxSteps := 3000000 }) only [go_sem,zad,Nat.reduceAdd,Nat.reduceSub,Nat.reduceMul,Int.reduceToNat,reduceCtorEq,↓reduceIte,Int.reducePow,Nat.reducePow,Int.reduceMod,Nat.reduceLeDiff,Int.reduceLE,Int.reduceNe,Int.reduceEq,Nat.reduceEqDiff,Nat.reduceLT,Nat.reduceBEq,List.map_cons,List.map_nil,List.toList_toArray,Array.toList_append,Option.toArray_some,Option.toArray_none,Bool.and_self,ty,zeg,zbf,hUe,zdd,d4,hs2,hs3,d5,e3,Int.toNat_natCast,Bool.not_true,Bool.not_false]
                   repeat (first | refine And.intro (by omega) ?_ | refine And.intro ⟨by omega,by omega⟩ ?_)
                   refine ⟨j - (k + 1),_,by omega,zao [0,1,2,3,4] rfl rfl rfl ?_ ?_,k + 1,rfl,by omega,rfl⟩
                   · simp only [ssT,zav,zaw,setSlot,gOf,AV.ren,renL,Blk.ren,Ax.look,Ax.put,reduceCtorEq,↓reduceIte,Nat.reduceEqDiff,Nat.reduceLT,Nat.reduceAdd,List.length_append,List.length_cons,List.length_nil,Option.some.injEq,zaz]; try simp
                   · simp only [ssT,zav,zaw,setSlot,gOf,AV.ren,renL,Blk.ren,Ax.look,Ax.put,reduceCtorEq,↓reduceIte,Nat.reduceEqDiff,Nat.reduceLT,Nat.reduceAdd,List.length_append,List.length_cons,List.length_nil,Option.some.injEq,zaz]; try simp
               · have d4 : decide ((k : Int) < j) = false := decide_eq_false (by omega)
                 simp (config := { maxSteps := 3000000 }) only [go_sem,zad,Nat.reduceAdd,Nat.reduceSub,Nat.reduceMul,Int.reduceToNat,reduceCtorEq,↓reduceIte,Int.reducePow,Nat.reducePow,Int.reduceMod,Nat.reduceLeDiff,Int.reduceLE,Int.reduceNe,Int.reduceEq,Nat.reduceEqDiff,Nat.reduceLT,Nat.reduceBEq,List.map_cons,List.map_nil,List.toList_toArray,Array.toList_append,Option.toArray_some,Option.toArray_none,Bool.and_self,ty,zeg,zbf,hUe,d4,e2,Int.toNat_natCast,Bool.not_true,Bool.not_false]
                 refine ⟨_,Weak.refl _,?_⟩
                 simp (config := { maxSteps := 3000000 }) only [go_sem,zad,Nat.reduceAdd,Nat.reduceSub,Nat.reduceMul,Int.reduceToNat,reduceCtorEq,↓reduceIte,Int.reducePow,Nat.reducePow,Int.reduceMod,Nat.reduceLeDiff,Int.reduceLE,Int.reduceNe,Int.reduceEq,Nat.reduceEqDiff,Nat.reduceLT,Nat.reduceBEq,List.map_cons,List.map_nil,List.toList_toArray,Array.toList_append,Option.toArray_some,Option.toArray_none,Bool.and_self,ty,zeg,zbf,hUe,d4,e2,Int.toNat_natCast,Bool.not_true,Bool.not_false]
                 refine ⟨U.length - (j + 1),_,by omega,zao [0,1,2,3,4] rfl rfl rfl ?_ ?_,j + 1,rfl,by omega,rfl⟩
                 · simp only [ssT,zav,zaw,setSlot,gOf,AV.ren,renL,Blk.ren,Ax.look,Ax.put,reduceCtorEq,↓reduceIte,Nat.reduceEqDiff,Nat.reduceLT,Nat.reduceAdd,List.length_append,List.length_cons,List.length_nil,Option.some.injEq,zaz]; try simp
                 · simp only [ssT,zav,zaw,setSlot,gOf,AV.ren,renL,Blk.ren,Ax.look,Ax.put,reduceCtorEq,↓reduceIte,Nat.reduceEqDiff,Nat.reduceLT,Nat.reduceAdd,List.length_append,List.length_cons,List.length_nil,Option.some.injEq,zaz]; try simp
           · have d3 : decide ((j : Int) < U.length) = false := decide_eq_false (by omega)
             have dC : decide (C = C) = true := decide_eq_true rfl
             have dS : decide (S = S) = true := decide_eq_true rfl
             simp (config := { maxSteps := 3000000 }) only [go_sem,zad,Nat.reduceAdd,Nat.reduceSub,Nat.reduceMul,Int.reduceToNat,reduceCtorEq,↓reduceIte,Int.reducePow,Nat.reducePow,Int.reduceMod,Nat.reduceLeDiff,Int.reduceLE,Int.reduceNe,Int.reduceEq,Nat.reduceEqDiff,Nat.reduceLT,Nat.reduceBEq,List.map_cons,List.map_nil,List.toList_toArray,Array.toList_append,Option.toArray_some,Option.toArray_none,Bool.and_self,ty,zeg,zbf,yesS,hUe,d3,dC,dS,Int.toNat_natCast,Bool.not_true,Bool.not_false]
             refine ⟨_,Weak.refl _,?_⟩
             simp (config := { maxSteps := 3000000 }) only [go_sem,zad,Nat.reduceAdd,Nat.reduceSub,Nat.reduceMul,Int.reduceToNat,reduceCtorEq,↓reduceIte,Int.reducePow,Nat.reducePow,Int.reduceMod,Nat.reduceLeDiff,Int.reduceLE,Int.reduceNe,Int.reduceEq,Nat.reduceEqDiff,Nat.reduceLT,Nat.reduceBEq,List.map_cons,List.map_nil,List.toList_toArray,Array.toList_append,Option.toArray_some,Option.toArray_none,Bool.and_self,ty,zeg,zbf,yesS,hUe,d3,dC,dS,Int.toNat_natCast,Bool.not_true,Bool.not_false]
             exact zbq 6 rfl
 · exact hp.elim
end
theorem all_fedO : ∀ xs : List AV,(∀ x ∈ xs,∃ r : List UInt8 × Int × Int,x = fedA r) → ∃ l : List (List UInt8 × Int × Int),xs = l.map fedA
 | [],_ => ⟨[],rfl⟩
 | x :: xs,h => by
   obtain ⟨r,rfl⟩ := h x (List.mem_cons_self ..)
   obtain ⟨l,rfl⟩ := all_fedO xs (fun y hy => h y (List.mem_cons_of_mem _ hy))
   exact ⟨r :: l,rfl⟩
theorem arg_fedsO {x : AV} (h : Arg ty 6 53 x) : ∃ (l : List (List UInt8 × Int × Int)) (f : Bool),x = .sg 3 (l.map fedA) f ∧ l.length ≤ 9223372036854775807 := by
 obtain ⟨i,ls,hi,hs,rfl⟩ := h
 simp only [ty] at hi
 injection hi with hi
 subst hi
 simp only [Shape,ty,ShapeF,isFlatI] at hs
 obtain ⟨xs,f1,rfl,hx,hxs⟩ := hs
 have hm : maxLen = 9223372036854775807 := by decide
 obtain ⟨es,rfl⟩ := all_fedO xs (fun x hxm => by
   obtain ⟨l,⟨l0,r0,rfl,⟨m0,rfl,w0⟩,l1,r1,rfl,⟨m1,rfl,w1⟩,l2,r2,rfl,⟨m2,rfl,w2⟩,rfl⟩,_,rfl⟩ := hxs x hxm
   exact ⟨⟨m0,m1,m2⟩,rfl⟩)
 rw [List.length_map] at hx
 exact ⟨es,f1,rfl,by omega⟩
theorem arg_u8O {x : AV} (h : Arg ty 6 5 x) : ∃ n : Int,x = .w (.int .u8 n) ∧ 0 ≤ n ∧ n < 256 := by
 obtain ⟨i,ls,hi,hs,rfl⟩ := h
 simp only [ty] at hi
 injection hi with hi
 subst hi
 simp only [Shape,ty] at hs
 obtain ⟨m,rfl,hw⟩ := hs
 exact ⟨m,rfl,wf_u8 hw⟩
theorem wonce_dom {x y z : AV} (hx : Arg ty 6 5 x) (hy : Arg ty 6 5 y) (hz : Arg ty 6 53 z) : (wonceS [x,y,z] []).p ∧ (wonceS [x,y,z] []).x = .w (.bool true) := by
 obtain ⟨a,rfl,a0,a1⟩ := arg_u8O hx
 obtain ⟨c,rfl,c0,c1⟩ := arg_u8O hy
 obtain ⟨l,f,rfl,hl⟩ := arg_fedsO hz
 exact ⟨⟨⟨by rw [List.length_map]; exact hl,l,rfl⟩,⟨a0,a1⟩,c0,c1⟩,rfl⟩
end Go.Proofs.Ytlpjdgkpapjldaa
