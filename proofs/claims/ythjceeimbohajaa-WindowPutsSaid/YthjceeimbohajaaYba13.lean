/- What the proofs of this seat stand on; it asks nothing. -/
import Derived.Test.YthjceeimbohajaaYba12
set_option linter.unusedSimpArgs false
set_option linter.unusedVariables false
namespace Go.Proofs.Ythjceeimbohajaa
namespace Ax
open Go.RowKit
theorem loopN_pure {f : CS → Option (Exit × CS)} (hf : ∀ τ e τ',f τ = some (e,τ') → PureOk τ τ') : ∀ (k : Nat) (τ : CS) (e : Exit) (τ' : CS),loopN f k τ = some (e,τ') → PureOk τ τ'
 | 0,τ,e,τ',h => by cases h
 | k + 1,τ,e,τ',h => by
   unfold loopN at h
   split at h
   · rename_i τ1 h1; exact (hf _ _ _ h1).trans (loopN_pure hf k τ1 e τ' h)
   · rename_i id τ1 h1; injection h with h; injection h with h2 h3; subst h3; exact hf _ _ _ h1
   · rename_i τ1 h1; injection h with h; injection h with h2 h3; subst h3; exact hf _ _ _ h1
   · cases h
section
variable {P : Program} {T : zab} (hT : TOk P T) {S : zaf} {SB : SpecB} (hS : Fns P S) (hSB : SpecBOk P S SB) {call : zda} (hcall : CallOk P call)
include hT hS hSB hcall
theorem runC_pure : ∀ (c : Code) (τ : CS) (e : Exit) (τ' : CS),runC T SB call c τ = some (e,τ') → PureOk τ τ' := by
 intro c
 induction c with
 | skip => intro τ e τ' h; injection h with h; injection h with h1 h2; subst h2; exact .refl _
 | label l => intro τ e τ' h; injection h with h; injection h with h1 h2; subst h2; exact .refl _
 | exit id => intro τ e τ' h; injection h with h; injection h with h1 h2; subst h2; exact .refl _
 | ret => intro τ e τ' h; injection h with h; injection h with h1 h2; subst h2; exact .refl _
 | region id ops draw =>
   intro τ e τ' h
   have key : ∀ q,(match zfm T SB call ops.toList q 0 ops.toList τ with | some τ => some (Exit.normal,τ) | none => none) = some (e,τ') → PureOk τ τ' := by
     intro q h
     split at h
     · rename_i τ1 h1; injection h with h; injection h with h2 h3; subst h3; exact runOps_pure hT hS hSB hcall _ _ _ _ h1
     · cases h
   unfold runC at h
   cases draw with
   | false => exact key _ h
   | true =>
     simp only [cond_true] at h
     cases h1 : drawOkX (fun i => zcx T ((quietL T ops.toList).getD i false)) ops.toList with
     | true => rw [h1] at h; exact key _ h
     | false => rw [h1] at h; cases h
 | seq a b iha ihb =>
   intro τ e τ' h
   unfold runC at h
   split at h
   · rename_i τ1 h1; exact (iha _ _ _ h1).trans (ihb _ _ _ h)
   · rename_i id τ1 h1; injection h with h; injection h with h2 h3; subst h3; exact iha _ _ _ h1
   · rename_i τ1 h1; injection h with h; injection h with h2 h3; subst h3; exact iha _ _ _ h1
   · cases h
 | cond c a b iha ihb =>
   intro τ e τ' h
   unfold runC at h
   split at h
   · exact iha _ _ _ h
   · exact ihb _ _ _ h
   · cases h
 | block id c ih =>
   intro τ e τ' h
   unfold runC at h
   split at h
   · rename_i id' τ1 h1
     split at h
     · injection h with h; injection h with h2 h3; subst h3; exact ih _ _ _ h1
     · injection h with h; injection h with h2 h3; subst h3; exact ih _ _ _ h1
   · rename_i τ1 h1; injection h with h; injection h with h2 h3; subst h3; exact ih _ _ _ h1
   · rename_i τ1 h1; injection h with h; injection h with h2 h3; subst h3; exact ih _ _ _ h1
   · cases h
 | loop c ih =>
   intro τ e τ' h
   unfold runC at h
   exact loopN_pure ih _ _ _ _ h
 | _ => intro τ e τ' h; cases h
def After (Z : Nat) (w0 : World) (E : Nat → Prop) (w : World) (loc : Loc) (nm : Nat) (e : Exit) (τ' : CS) : Exit → Act → World → Prop :=
 fun e' a' w' => e' = e ∧ ∃ loc',RelT Z w0 E loc' τ' a' w' ∧ Tn w loc nm τ'.nx w' loc'
theorem runC_ok (hm : P.follows .mixedOrders = true) {Z : Nat} {w0 : World} {E : Nat → Prop} : ∀ (c : Code) (τ : CS) (e : Exit) (τ' : CS) (a : Act) (w : World) (loc : Loc),runC T SB call c τ = some (e,τ') → LowC τ.H τ.nx → τ'.nx ≤ Z → RelT Z w0 E loc τ a w →
   c.wp P (After Z w0 E w loc τ.nx e τ') a w := by
 intro c
 induction c with
 | skip => intro τ e τ' a w loc h hl hz hr; injection h with h; injection h with h1 h2; subst h1 h2; exact wp_skip ⟨rfl,loc,hr,Tn.refl _ _ _ _⟩
 | label l => intro τ e τ' a w loc h hl hz hr; injection h with h; injection h with h1 h2; subst h1 h2; exact wp_label ⟨rfl,loc,hr,Tn.refl _ _ _ _⟩
 | exit id => intro τ e τ' a w loc h hl hz hr; injection h with h; injection h with h1 h2; subst h1 h2; exact wp_exit ⟨rfl,loc,hr,Tn.refl _ _ _ _⟩
 | ret => intro τ e τ' a w loc h hl hz hr; injection h with h; injection h with h1 h2; subst h1 h2; exact wp_ret ⟨rfl,loc,hr,Tn.refl _ _ _ _⟩
 | region id ops draw =>
   intro τ e τ' a w loc h hl hz hr
   unfold runC at h
   cases draw with
   | false =>
     simp only [cond_false] at h
     split at h
     · rename_i τ1 h1
       injection h with h; injection h with h2 h3; subst h2 h3
       exact wp_region_list (runOps_seq hT hS hSB hcall _ _ _ _ a w loc h1 hl hz hr fun a' w' loc' h4 h5 => ⟨rfl,loc',h4,h5⟩)
     · cases h
   | true =>
     simp only [cond_true] at h
     cases hd : drawOkX (fun i => zcx T ((quietL T ops.toList).getD i false)) ops.toList with
     | false => rw [hd] at h; cases h
     | true =>
       rw [hd,cond_true] at h
       split at h
       · rename_i τ1 h1
         injection h with h; injection h with h2 h3; subst h2 h3
         have := runOps_draw (id := id) hm hT hS hSB hcall (q := fun i => (quietL T ops.toList).getD i false) hd h1 hl hz hr
         exact this
       · cases h
 | seq x y ihx ihy =>
   intro τ e τ' a w loc h hl hz hr
   unfold runC at h
   split at h
   · rename_i τ1 h1
     have hp1 := runC_pure hT hS hSB hcall _ _ _ _ h1
     have hp2 := runC_pure hT hS hSB hcall _ _ _ _ h
     refine wp_seq (wp_mono (ihx _ _ _ a w loc h1 hl (Nat.le_trans hp2.mono hz) hr) ?_)
     rintro e' a' w' ⟨rfl,loc',h2,h3⟩
     refine wp_mono (ihy _ _ _ a' w' loc' h (hp1.low hl) hz h2) ?_
     rintro e' a2 w2 ⟨rfl,loc2,h4,h5⟩
     exact ⟨rfl,loc2,h4,h3.trans h5 hp1.mono hp2.mono⟩
   · rename_i id τ1 h1
     injection h with h; injection h with h2 h3; subst h2 h3
     refine wp_seq (wp_mono (ihx _ _ _ a w loc h1 hl hz hr) ?_)
     rintro e' a' w' ⟨rfl,loc',h2,h3⟩
     exact ⟨rfl,loc',h2,h3⟩
   · rename_i τ1 h1
     injection h with h; injection h with h2 h3; subst h2 h3
     refine wp_seq (wp_mono (ihx _ _ _ a w loc h1 hl hz hr) ?_)
     rintro e' a' w' ⟨rfl,loc',h2,h3⟩
     exact ⟨rfl,loc',h2,h3⟩
   · cases h
 | cond c x y ihx ihy =>
   intro τ e τ' a w loc h hl hz hr
   have hv := ev_R hr.slots c
   rw [zfq] at hv
   unfold runC at h
   split at h
   · rename_i hc
     rw [hc] at hv
     exact wp_cond_true hv.wv (ihx _ _ _ a w loc h hl hz hr)
   · rename_i hc
     rw [hc] at hv
     exact wp_cond_false hv.wv (ihy _ _ _ a w loc h hl hz hr)
   · cases h
 | block id c ih =>
   intro τ e τ' a w loc h hl hz hr
   unfold runC at h
   split at h
   · rename_i id' τ1 h1
     split at h
     · rename_i he
       injection h with h; injection h with h2 h3; subst h2 h3
       refine wp_block (wp_mono (ih _ _ _ a w loc h1 hl hz hr) ?_)
       rintro e' a' w' ⟨rfl,loc',h2,h3⟩
       simp only [Exit.inBlock]
       rw [if_pos he]
       exact ⟨rfl,loc',h2,h3⟩
     · rename_i he
       injection h with h; injection h with h2 h3; subst h2 h3
       refine wp_block (wp_mono (ih _ _ _ a w loc h1 hl hz hr) ?_)
       rintro e' a' w' ⟨rfl,loc',h2,h3⟩
       simp only [Exit.inBlock]
       rw [if_neg he]
       exact ⟨rfl,loc',h2,h3⟩
   · rename_i τ1 h1
     injection h with h; injection h with h2 h3; subst h2 h3
     refine wp_block (wp_mono (ih _ _ _ a w loc h1 hl hz hr) ?_)
     rintro e' a' w' ⟨rfl,loc',h2,h3⟩
     exact ⟨rfl,loc',h2,h3⟩
   · rename_i τ1 h1
     injection h with h; injection h with h2 h3; subst h2 h3
     refine wp_block (wp_mono (ih _ _ _ a w loc h1 hl hz hr) ?_)
     rintro e' a' w' ⟨rfl,loc',h2,h3⟩
     exact ⟨rfl,loc',h2,h3⟩
   · cases h
 | loop c ih =>
   intro τ e τ' a w loc h hl hz hr
   unfold runC at h
   have hcp := runC_pure hT hS hSB hcall c
   let p : Act → World → Nat → Prop := fun a1 w1 k => ∃ τ1 loc1,loopN (runC T SB call c) k τ1 = some (e,τ') ∧ LowC τ1.H τ1.nx ∧ RelT Z w0 E loc1 τ1 a1 w1 ∧ Tn w loc τ.nx τ1.nx w1 loc1 ∧ τ.nx ≤ τ1.nx
   have hleast : ∀ a w,(∃ n,p a w n) → ∃ m,p a w m ∧ ∀ k,p a w k → m ≤ k := fun a w ⟨n,hn⟩ => let ⟨m,h1,_,h3⟩ := least n hn; ⟨m,h1,h3⟩
   open Classical in
   let μ : Act → World → Nat := fun a w => if h : ∃ n,p a w n then Classical.choose (hleast a w h) else 0
   refine wp_loop (fun a w => ∃ n,p a w n) μ ⟨_,τ,loc,h,hl,hr,Tn.refl _ _ _ _,Nat.le_refl _⟩ ?_
   intro a1 w1 hex
   have hμ : μ a1 w1 = Classical.choose (hleast a1 w1 hex) := dif_pos hex
   obtain ⟨hp,hmin⟩ := Classical.choose_spec (hleast a1 w1 hex)
   rw [← hμ] at hp hmin
   obtain ⟨τ1,loc1,h1,h2,h3,h4,h5⟩ := hp
   obtain ⟨k,hk⟩ : ∃ k,μ a1 w1 = k := ⟨_,rfl⟩
   rw [hk] at h1 hmin ⊢
   cases k with
   | zero => cases h1
   | succ k =>
     unfold loopN at h1
     split at h1
     · rename_i τ2 h6
       have hp1 := hcp _ _ _ h6
       have hp2 := loopN_pure hcp _ _ _ _ h1
       refine wp_mono (ih _ _ _ a1 w1 loc1 h6 h2 (Nat.le_trans hp2.mono hz) h3) ?_
       rintro e' a2 w2 ⟨rfl,loc2,h7,h8⟩
       have hp' : p a2 w2 k := ⟨τ2,loc2,h1,hp1.low h2,h7,h4.trans h8 h5 hp1.mono,Nat.le_trans h5 hp1.mono⟩
       refine ⟨⟨k,hp'⟩,?_⟩
       have hμ' : μ a2 w2 = Classical.choose (hleast a2 w2 ⟨k,hp'⟩) := dif_pos ⟨k,hp'⟩
       have := (Classical.choose_spec (hleast a2 w2 ⟨k,hp'⟩)).2 k hp'
       rw [← hμ'] at this
       omega
     · rename_i id τ2 h6
       injection h1 with h1; injection h1 with h9 h10; subst h9 h10
       refine wp_mono (ih _ _ _ a1 w1 loc1 h6 h2 hz h3) ?_
       rintro e' a2 w2 ⟨rfl,loc2,h7,h8⟩
       exact ⟨rfl,loc2,h7,h4.trans h8 h5 (hcp _ _ _ h6).mono⟩
     · rename_i τ2 h6
       injection h1 with h1; injection h1 with h9 h10; subst h9 h10
       refine wp_mono (ih _ _ _ a1 w1 loc1 h6 h2 hz h3) ?_
       rintro e' a2 w2 ⟨rfl,loc2,h7,h8⟩
       exact ⟨rfl,loc2,h7,h4.trans h8 h5 (hcp _ _ _ h6).mono⟩
     · cases h1
 | _ => intro τ e τ' a w loc h hl hz hr; cases h
end
theorem crvals_ok {T : zab} {τ : CS} : ∀ {rs : List ResultVar} {l : List AV},crvals T τ rs = some l → (rvals T (toH τ.H) (toS τ.n τ.sl) rs).1 ∧ (rvals T (toH τ.H) (toS τ.n τ.sl) rs).2 = l
 | [],l,h => by injection h with h; exact ⟨trivial,h⟩
 | .tmp t :: r,l,h => by
   unfold crvals at h
   split at h
   · rename_i l' h1
     injection h with h; subst h
     obtain ⟨a,b⟩ := crvals_ok h1
     refine ⟨a,?_⟩
     have := zfq τ.n τ.sl (.tmp t)
     simp only [rvals,b]
     rw [← this]; rfl
   · cases h
 | .cell x t :: r,l,h => by
   unfold crvals at h
   split at h
   · rename_i l' h1
     split at h
     · rename_i y us h2
       injection h with h; subst h
       obtain ⟨a,b⟩ := crvals_ok h1
       obtain ⟨c,d,_⟩ := cLoad_ok (zaq τ.H) _ _ h2
       have := zfq τ.n τ.sl (.tmp x)
       simp only [ev] at this
       rw [← this] at c d
       exact ⟨⟨c,a⟩,by simp only [rvals,b,d]⟩
     · cases h
   · cases h
theorem initK_ok {β : Type} : ∀ {xs : List AV} {k : Nat} {t : Tr AV} {κ : Tr AV → Option β} {z : β},initK xs k t κ = some z → ∃ t',κ t' = some z ∧ ∀ i,sget t' i = if k ≤ i ∧ i < k + xs.length then xs.getD (i - k) .junk else sget t i
 | [],k,t,κ,z,h => ⟨t,h,fun i => by rw [if_neg (by simp only [List.length_nil]; omega)]⟩
 | x :: r,k,t,κ,z,h => by
   unfold initK at h
   rw [force1_eq] at h
   cases hk : Nat.blt k most with
   | false => rw [hk] at h; cases h
   | true =>
     rw [hk,cond_true,zet] at h
     obtain ⟨t',h1,h2⟩ := initK_ok (xs := r) h
     refine ⟨t',h1,fun i => ?_⟩
     rw [h2 i]
     have hm := most_ok hk
     by_cases h3 : k + 1 ≤ i ∧ i < k + 1 + r.length
     · rw [if_pos h3,if_pos ⟨by omega,by simp only [List.length_cons]; omega⟩]
       have : i - k = (i - (k + 1)) + 1 := by omega
       rw [this]; simp
     · rw [if_neg h3]
       by_cases h4 : i = k
       · subst h4
         rw [if_pos ⟨Nat.le_refl _,by simp only [List.length_cons]; omega⟩]
         simp only [Nat.sub_self,sget]
         rw [get_set _ _ _ _ hm,if_pos rfl]
         simp
       · rw [if_neg (by simp only [List.length_cons]; omega)]
         simp only [sget]
         rw [get_set _ _ _ _ hm,if_neg h4]
theorem callN_ok {P : Program} {T : zab} (hm : P.follows .mixedOrders = true) (hT : TOk P T) {S : zaf} {SB : SpecB} (hS : Fns P S) (hSB : SpecBOk P S SB) : ∀ k,CallOk P (callN P T SB k)
 | 0 => by intro g args H nx x H' nz h; cases h
 | k + 1 => by
   intro g args H nx x H' nz h
   have ih := callN_ok hm hT hS hSB k
   unfold callN at h
   split at h
   · rename_i fn hfn
     split at h
     · rename_i c hbody
       cases hname : (fn.name == "runtime.NumGoroutine") with
       | true => rw [hname] at h; cases h
       | false =>
         rw [hname,cond_false] at h
         cases hle : Nat.ble args.length fn.ntmps with
         | false => rw [hle] at h; cases h
         | true =>
           rw [hle,cond_true] at h
           have hle := Nat.le_of_ble_eq_true hle
           obtain ⟨sl,h1,hsl⟩ := initK_ok h
           split at h1
           · rename_i e τ hrun
             cases he : isEnd e with
             | false => rw [he] at h1; cases h1
             | true =>
               rw [he,cond_true] at h1
               split at h1
               · rename_i l hl
                 injection h1 with h1; injection h1 with hx h1; injection h1 with hH hnz
                 subst hx hH hnz
                 have hp := runC_pure hT hS hSB ih c _ _ _ hrun
                 refine ⟨hp.mono,hp.new,⟨fn,hfn,by rw [hbody]; rfl,hname⟩,?_⟩
                 intro hlow w0 E w loc vs hlen hR hh henv hfree
                 refine calls_of_wp hfn hbody ?_
                 have hvs : vs.length ≤ fn.ntmps := by omega
                 have hrel : RelT τ.nx w0 E loc ⟨sl,fn.ntmps,H,nx⟩ { tmps := vs.toArray ++ Array.replicate (fn.ntmps - vs.toArray.size) undef,defers := [] } w := by
                   refine ⟨by rw [zbx]; simp; omega,fun t => ?_,hh,henv,hfree,rfl⟩
                   rw [slot_toS]
                   by_cases ht : t < fn.ntmps
                   · rw [if_pos ht,hsl t]
                     by_cases ht2 : t < args.length
                     · rw [if_pos ⟨Nat.zero_le _,by omega⟩]
                       have e1 : args.getD (t - 0) .junk = args[t] := by simp [ht2]
                       have e2 : (vs.toArray ++ Array.replicate (fn.ntmps - vs.toArray.size) undef).getD t undef = vs[t]'(by omega) := by
                         have : t < vs.length := by omega
                         simp [Array.getD_eq_getD_getElem?,Array.getElem?_append,this]
                       rw [e1,e2]
                       exact hR t ht2 _
                     · rw [if_neg (by omega)]
                       exact .junk _
                   · rw [if_neg ht]; exact .junk _
                 refine wp_mono (runC_ok hT hS hSB ih hm c _ _ _ _ w loc hrun hlow (Nat.le_refl _) hrel) ?_
                 rintro e' a' w' ⟨rfl,loc',h3,h4⟩
                 obtain ⟨hr1,hr2⟩ := crvals_ok hl
                 have hn := hp.n
                 obtain ⟨v,hv,hvR⟩ := results_R (P := P) (fn := fn) hT h3.heap h3.slots hr1
                 rw [hr2] at hvR
                 have hpost : PostW w0 E w loc nx τ.nx (rone l) (toH τ.H) v w' loc' := ⟨hvR,h3.heap,h3.env,h4⟩
                 cases e' with
                 | normal => exact ⟨h3.defers,v,hv,v,loc',rfl,hpost⟩
                 | ret => exact ⟨h3.defers,v,hv,v,loc',rfl,hpost⟩
                 | _ => cases he
               · cases h1
           · cases h1
     · cases h
   · cases h
end Ax
end Go.Proofs.Ythjceeimbohajaa
namespace Go.Proofs.Ythjceeimbohajaa
namespace Ax
structure Wr (α : Type) where
 v : α
abbrev CopF := Nat → (Operand → AV) → (Nat → Option Blk) → Option (AV × Us)
def cBuiltinS (T : zab) (b : Builtin) (args : List Operand) (ts : List TypeId) : Wr CopF :=
 match b with
 | .len => match args,ts with
   | [x],[t] => ⟨fun _ e lk => cLen T t (e x) lk⟩
   | _,_ => ⟨fun _ _ _ => none⟩
 | .min => ⟨fun _ e _ => cMin (args.map e)⟩
 | .max => ⟨fun _ e _ => cMax (args.map e)⟩
 | .append => match args with
   | [d,x] => ⟨fun nm e lk => cAppend T nm ts (e d) (e x) lk⟩
   | _ => ⟨fun _ _ _ => none⟩
 | .delete => match args,ts with
   | [d,x],t :: _ => ⟨fun _ e lk => cDelete T t (e d) (e x) lk⟩
   | _,_ => ⟨fun _ _ _ => none⟩
 | .clear => match args,ts with
   | [x],[t] => ⟨fun _ e lk => cClear T t (e x) lk⟩
   | _,_ => ⟨fun _ _ _ => none⟩
 | .copy => match args with
   | [d,x] => ⟨fun _ e lk => cCopy T ts (e d) (e x) lk⟩
   | _ => ⟨fun _ _ _ => none⟩
 | _ => ⟨fun _ _ _ => none⟩
theorem cBuiltinS_eq (T : zab) (nm : Nat) (sl : List AV) (b : Builtin) (args : List Operand) (ts : List TypeId) (e : Operand → AV) (lk : Nat → Option Blk) : (cBuiltinS T b args ts).v nm e lk = cBuiltin T nm sl b args ts e lk := by
 cases b <;> first | rfl | (rcases args with _ | ⟨x,_ | ⟨y,_ | ⟨z,r⟩⟩⟩ <;> rcases ts with _ | ⟨t,_ | ⟨u,v⟩⟩ <;> rfl)
def copS (T : zab) (op : Op) : Wr CopF :=
 match op with
 | .move x => ⟨fun _ e _ => some (e x,[])⟩
 | .assign x => ⟨fun _ e _ => some (e x,[])⟩
 | .pick c a b => ⟨fun _ e _ => cPick (e c) (e a) (e b)⟩
 | .alloc t => ⟨fun nm _ _ => cAlloc T nm t⟩
 | .box t x => ⟨fun nm e _ => cBox T nm t (e x)⟩
 | .build t ps => ⟨fun _ e _ => cBuild T t (ps.toList.map fun p => (p.1,e p.2))⟩
 | .buildSlice t n ps => ⟨fun nm e _ => cBuildSlice T nm t n (ps.toList.map fun p => (p.1,e p.2))⟩
 | .load t a => ⟨fun _ e lk => cLoad T t (e a) lk⟩
 | .store t a x => ⟨fun _ e lk => cStore T t (e a) (e x) lk⟩
 | .nilCheck x => ⟨fun _ e lk => cNil (e x) lk⟩
 | .binOp op t x y _ => ⟨fun _ e lk => cBin T op t (e x) (e y) lk⟩
 | .unOp op _ x => ⟨fun _ e _ => cUn op (e x)⟩
 | .convert s d x => ⟨fun nm e lk => bif coldStr T d && isMsB (e x) then none else cConv T s d nm (e x) lk⟩
 | .makeSlice t l c => ⟨fun nm e _ => cMake T nm t (e l) (e c)⟩
 | .slice t x lo hi mx => ⟨fun _ e lk => bif mx.isSome && hi.isNone then none else cSlice T t (e x) (lo.map e) (hi.map e) (mx.map e) lk⟩
 | .fieldAddr s x f => ⟨fun _ e lk => cFieldAddr T s (e x) f lk⟩
 | .field t x f => ⟨fun _ e _ => cField T t (e x) f⟩
 | .indexAddr t x i => ⟨fun _ e lk => cIndexAddr T t (e x) (e i) lk⟩
 | .index t x i => ⟨fun _ e _ => cIndex T t (e x) (e i)⟩
 | .extract x i => ⟨fun _ e _ => cExtract (e x) i⟩
 | .makeFunc fn first caps => ⟨fun _ e _ => cFn fn first.toList (caps.toList.map e)⟩
 | .range t x => ⟨fun nm e lk => cRange T nm t (e x) lk⟩
 | .next x b => ⟨fun _ e lk => cNext (e x) b lk⟩
 | .makeMap _ r => ⟨fun nm _ _ => cMakeMap nm r⟩
 | .lookup t x k ok => ⟨fun _ e lk => cLookup T t (e x) (e k) ok lk⟩
 | .mapUpdate t x k v => ⟨fun _ e lk => cUpdate T t (e x) (e k) (e v) lk⟩
 | .entry x => ⟨fun _ e lk => cEntry (e x) lk⟩
 | .call c => match c.callee with
   | .builtin b => cBuiltinS T b c.args.toList c.argTypes.toList
   | _ => ⟨fun _ _ _ => none⟩
 | _ => ⟨fun _ _ _ => none⟩
theorem copS_eq (T : zab) (nm : Nat) (e : Operand → AV) (lk : Nat → Option Blk) (op : Op) : (copS T op).v nm e lk = cop T nm e lk op := by
 cases op with
 | call c =>
   simp only [copS,cop]
   cases c.callee with
   | builtin b => exact cBuiltinS_eq T nm [] b _ _ e lk
   | _ => rfl
 | _ => rfl
def spS (op : Op) : Bool :=
 match op with
 | .binOp _ _ _ (.const (.slice none 0 0)) _ => true
 | .call c => match c.callee with
   | .builtin .append => true
   | _ => false
 | _ => false
theorem spS_no {T : zab} {e : Operand → AV} {lk : Nat → Option Blk} {op : Op} (h : spS op = false) : cSp T e lk op = none ∧ truncOf e lk op = none := by
 constructor
 · unfold cSp
   split
   · rename_i b t x yt; simp [spS] at h
   · rfl
 · unfold truncOf
   split
   · rename_i c
     split
     · rename_i hc; simp [spS,hc] at h
     · rfl
   · rfl
def forceF {β : Type} (x : AV) (κ : AV → β) : β := match x with
 | .w v => forceW v fun v => κ (.w v)
 | .ms id s off len => zdw off fun off => zdw len fun len => κ (.ms id s off len)
 | .rf id s i f => zdw i fun i => zdw f fun f => κ (.rf id s i f)
 | .agg xs => forceM force0 xs fun xs => κ (.agg xs)
 | .str bs => forceL bs fun bs => κ (.str bs)
 | .tup xs => forceM force1 xs fun xs => κ (.tup xs)
 | .fn f xs => forceM force0 xs fun xs => κ (.fn f xs)
 | x => forceV x κ
theorem forceF_eq {β : Type} (x : AV) (κ : AV → β) : forceF x κ = κ x := by cases x <;> simp only [forceF,forceW_eq,zdv,forceL_eq,forceV_eq,zdx force0_eq,zdx force1_eq]
section
variable (T : zab) (SB : SpecB)
abbrev ValF := zda → CS → Option (AV × Tr Blk × Nat)
noncomputable def plainS (op : Op) : Wr ValF :=
 match copS T op with
 | ⟨f⟩ => match spS op with
   | true => ⟨fun _ τ => opPlain T τ op⟩
   | false => ⟨fun _ τ => match f τ.nx (evC τ.n τ.sl) τ.H.get with
     | some (x,us) => appK us τ.H fun H => zdw (τ.nx + 8) fun nz => some (x,H,nz)
     | none => none⟩
noncomputable def valS (q : Bool) (op : Op) : Wr ValF :=
 match op with
 | .call c => match c.callee with
   | .value f => ⟨fun call τ => opVal T SB call τ q (.call c)⟩
   | _ => plainS T (.call c)
 | op => plainS T op
theorem plainS_eq (call : zda) (τ : CS) (op : Op) : (plainS T op).v call τ = opPlain T τ op := by
 unfold plainS
 have hc := copS_eq T τ.nx (evC τ.n τ.sl) τ.H.get op
 cases hf : copS T op with
 | mk f =>
   rw [hf] at hc
   cases hs : spS op with
   | true => rfl
   | false =>
     simp only
     unfold opPlain
     rw [(spS_no (T := T) hs).1,(spS_no (T := T) hs).2,← hc]
     rfl
theorem valS_eq (call : zda) (q : Bool) (τ : CS) (op : Op) : (valS T SB q op).v call τ = opVal T SB call τ q op := by
 cases op with
 | call c =>
   simp only [valS]
   cases hc : c.callee with
   | value f => rfl
   | _ => simp only [opVal,hc]; exact plainS_eq T call τ (.call c)
 | _ => simp only [valS,opVal]; exact plainS_eq T call τ _
abbrev StepF := zda → CS → Option CS
noncomputable def opRunS (q : Bool) (o : Oper) : Wr StepF :=
 match valS T SB q o.op with
 | ⟨f⟩ => match o.dst with
   | none => ⟨fun call τ => match f call τ with
     | some (x,H,nz) => some ⟨τ.sl,τ.n,H,nz⟩
     | none => none⟩
   | some d => ⟨fun call τ => match f call τ with
     | some (x,H,nz) => forceF x fun x => bif Nat.blt d τ.n && Nat.blt d most then Tr.setK τ.sl d (some x) fun sl => some ⟨sl,τ.n,H,nz⟩ else none
     | none => none⟩
theorem opRunS_eq (call : zda) (q : Bool) (τ : CS) (o : Oper) : (opRunS T SB q o).v call τ = opRun T SB call τ q o := by
 unfold opRunS opRun
 have hv := valS_eq T SB call q τ o.op
 cases hf : valS T SB q o.op with
 | mk f =>
   rw [hf] at hv
   simp only at hv
   rw [← hv]
   cases hd : o.dst with
   | none =>
     simp only
     cases f call τ with
     | none => rfl
     | some r => obtain ⟨x,H,nz⟩ := r; simp only [forceV_eq,putK]
   | some d =>
     simp only
     cases f call τ with
     | none => rfl
     | some r => obtain ⟨x,H,nz⟩ := r; simp only [forceV_eq,forceF_eq,putK]
noncomputable def stepS (ops : List Oper) (q : Bool) (o : Oper) : Wr StepF :=
 match o.guard with
 | none => opRunS T SB q o
 | some (j,want) => match guardSlot ops j with
   | none => ⟨fun _ _ => none⟩
   | some d => match opRunS T SB q o with
     | ⟨f⟩ => ⟨fun call τ => match evC τ.n τ.sl (.tmp d) with
       | .w (.bool b) => bif b == want then f call τ else opSkip τ o
       | .tup [] => opSkip τ o
       | _ => none⟩
theorem stepS_eq (call : zda) (ops : List Oper) (q : Bool) (τ : CS) (o : Oper) : (stepS T SB ops q o).v call τ = stepC T SB call ops q τ o := by
 unfold stepS stepC
 cases hg : o.guard with
 | none => exact opRunS_eq T SB call q τ o
 | some g =>
   obtain ⟨j,want⟩ := g
   simp only
   cases hs : guardSlot ops j with
   | none => rfl
   | some d =>
     simp only
     have hv := opRunS_eq T SB call q τ o
     cases hf : opRunS T SB q o with
     | mk f =>
       rw [hf] at hv
       simp only at hv ⊢
       rw [← hv]
       rfl
noncomputable def runOpsS (ops : List Oper) (q : Nat → Bool) : Nat → List Oper → Wr StepF
 | _,[] => ⟨fun _ τ => some τ⟩
 | k,o :: r => match stepS T SB ops (q k) o,runOpsS ops q (k + 1) r with
   | ⟨f⟩,⟨g⟩ => ⟨fun call τ => match f call τ with
     | some τ => g call τ
     | none => none⟩
theorem runOpsS_eq (call : zda) (ops : List Oper) (q : Nat → Bool) : ∀ (k : Nat) (l : List Oper) (τ : CS),(runOpsS T SB ops q k l).v call τ = zfm T SB call ops q k l τ
 | _,[],τ => rfl
 | k,o :: r,τ => by
   unfold runOpsS zfm
   have h1 := fun τ => stepS_eq T SB call ops (q k) τ o
   have h2 := fun τ => runOpsS_eq call ops q (k + 1) r τ
   cases hf : stepS T SB ops (q k) o with
   | mk f =>
     cases hg : runOpsS T SB ops q (k + 1) r with
     | mk g =>
       rw [hf] at h1
       rw [hg] at h2
       simp only at h1 h2 ⊢
       rw [← h1]
       cases f call τ with
       | none => rfl
       | some τ => exact h2 τ
abbrev CodeF := zda → CS → Option (Exit × CS)
noncomputable def codeS : Code → Wr CodeF
 | .skip => ⟨fun _ τ => some (.normal,τ)⟩
 | .label _ => ⟨fun _ τ => some (.normal,τ)⟩
 | .region _ ops draw => match draw with
   | true => match drawOkX (fun i => zcx T ((quietL T ops.toList).getD i false)) ops.toList with
     | true => match runOpsS T SB ops.toList (fun i => (quietL T ops.toList).getD i false) 0 ops.toList with
       | ⟨f⟩ => ⟨fun call τ => match f call τ with | some τ => some (.normal,τ) | none => none⟩
     | false => ⟨fun _ _ => none⟩
   | false => match runOpsS T SB ops.toList (fun _ => false) 0 ops.toList with
     | ⟨f⟩ => ⟨fun call τ => match f call τ with | some τ => some (.normal,τ) | none => none⟩
 | .seq a b => match codeS a,codeS b with
   | ⟨f⟩,⟨g⟩ => ⟨fun call τ => match f call τ with
     | some (.normal,τ) => g call τ
     | some (.exit id,τ) => some (.exit id,τ)
     | some (.ret,τ) => some (.ret,τ)
     | _ => none⟩
 | .cond c a b => match codeS a,codeS b with
   | ⟨f⟩,⟨g⟩ => ⟨fun call τ => match evC τ.n τ.sl c with
     | .w (.bool true) => f call τ
     | .w (.bool false) => g call τ
     | _ => none⟩
 | .block id c => match codeS c with
   | ⟨f⟩ => ⟨fun call τ => match f call τ with
     | some (.exit id',τ) => if id' = id then some (.normal,τ) else some (.exit id',τ)
     | some (.normal,τ) => some (.normal,τ)
     | some (.ret,τ) => some (.ret,τ)
     | _ => none⟩
 | .loop c => match codeS c with
   | ⟨f⟩ => ⟨fun call τ => loopN (f call) 1000000 τ⟩
 | .exit id => ⟨fun _ τ => some (.exit id,τ)⟩
 | .ret => ⟨fun _ τ => some (.ret,τ)⟩
 | _ => ⟨fun _ _ => none⟩
theorem codeS_eq (call : zda) : ∀ (c : Code) (τ : CS),(codeS T SB c).v call τ = runC T SB call c τ := by
 intro c
 induction c with
 | region id ops draw =>
   intro τ
   have key : ∀ q,(match runOpsS T SB ops.toList q 0 ops.toList with | ⟨f⟩ => (⟨fun call τ => match f call τ with | some τ => some (.normal,τ) | none => none⟩ : Wr CodeF)).v call τ = (match zfm T SB call ops.toList q 0 ops.toList τ with | some τ => some (.normal,τ) | none => none) := by
     intro q
     have h := runOpsS_eq T SB call ops.toList q 0 ops.toList τ
     cases hf : runOpsS T SB ops.toList q 0 ops.toList with
     | mk f =>
       rw [hf] at h
       simp only at h ⊢
       rw [h]
   unfold codeS runC
   cases draw with
   | false => exact key _
   | true =>
     simp only [cond_true]
     cases drawOkX (fun i => zcx T ((quietL T ops.toList).getD i false)) ops.toList with
     | true => exact key _
     | false => rfl
 | seq a b iha ihb =>
   intro τ
   unfold codeS runC
   cases hf : codeS T SB a with
   | mk f =>
     cases hg : codeS T SB b with
     | mk g =>
       rw [hf] at iha
       rw [hg] at ihb
       simp only at iha ihb ⊢
       rw [← iha]
       cases f call τ with
       | none => rfl
       | some r =>
         obtain ⟨e,τ'⟩ := r
         cases e <;> first | rfl | exact ihb τ'
 | cond c a b iha ihb =>
   intro τ
   unfold codeS runC
   cases hf : codeS T SB a with
   | mk f =>
     cases hg : codeS T SB b with
     | mk g =>
       rw [hf] at iha
       rw [hg] at ihb
       simp only at iha ihb ⊢
       rw [← iha,← ihb]
       rfl
 | block id c ih =>
   intro τ
   unfold codeS runC
   cases hf : codeS T SB c with
   | mk f =>
     rw [hf] at ih
     simp only at ih ⊢
     rw [← ih]
     rfl
 | loop c ih =>
   intro τ
   unfold codeS runC
   cases hf : codeS T SB c with
   | mk f =>
     rw [hf] at ih
     simp only at ih ⊢
     have : f call = runC T SB call c := funext ih
     rw [this]
 | _ => intro τ; rfl
end
structure FnS where
 n : Nat
 f : CodeF
 rs : List ResultVar
noncomputable def funS (P : Program) (T : zab) (SB : SpecB) (g : FuncId) : Option FnS :=
 match P.funcs[g]? with
 | some fn => match fn.body with
   | some c => match fn.name == "runtime.NumGoroutine" with
     | true => none
     | false => match codeS T SB c with
       | ⟨f⟩ => some ⟨fn.ntmps,f,fn.results.toList⟩
   | none => none
 | none => none
noncomputable def callS (P : Program) (T : zab) (SB : SpecB) : Nat → zda
 | 0,_,_,_,_ => none
 | k + 1,g,args,H,nx => match funS P T SB g with
   | some ⟨n,f,rs⟩ => bif Nat.ble args.length n then
       initK args 0 .leaf fun sl => match f (callS P T SB k) ⟨sl,n,H,nx⟩ with
         | some (e,τ) => bif isEnd e then (match crvals T τ rs with
             | some l => some (rone l,τ.H,τ.nx)
             | none => none) else none
         | none => none
       else none
   | none => none
theorem callS_eq (P : Program) (T : zab) (SB : SpecB) : ∀ k,callS P T SB k = callN P T SB k
 | 0 => by funext g args H nx; rfl
 | k + 1 => by
   funext g args H nx
   unfold callS callN funS
   rw [callS_eq P T SB k]
   cases P.funcs[g]? with
   | none => rfl
   | some fn =>
     simp only
     cases fn.body with
     | none => rfl
     | some c =>
       simp only
       cases (fn.name == "runtime.NumGoroutine") with
       | true => rfl
       | false =>
         have h := codeS_eq T SB (callN P T SB k) c
         cases hf : codeS T SB c with
         | mk f =>
           rw [hf] at h
           simp only at h ⊢
           simp only [cond_false,h]
           rfl
end Ax
end Go.Proofs.Ythjceeimbohajaa
namespace Go.Proofs.Ythjceeimbohajaa
namespace Ax
def opq : AV := .ms 0 1 0 0
def locD (bad : Nat → Prop) : Loc := { m := fun id => if id = 0 then .dead else .free,bad }
theorem opq_R {w : World} {bad : Nat → Prop} {x v : Value} (h : R w (zbb [] bad) (.w x) v) : R w (locD bad) opq v := by
 have hv := h.wv
 subst hv
 cases h with
 | w _ h1 => exact .ms 0 1 0 0 _ (by unfold Owns locD; simpa using h1)
noncomputable def runTrue (P : Program) (T : zab) (SB : SpecB) (k : Nat) (g : FuncId) (args : List AV) : Bool :=
 match callS P T SB k g args .leaf 8 with
 | some (.w (.bool true),_,_) => true
 | _ => false
theorem sound_of_run {P : Program} {T : zab} (hm : P.follows .mixedOrders = true) (hT : TOk P T) {S : zaf} {SB : SpecB} (hS : Fns P S) (hSB : SpecBOk P S SB) {k : Nat} {g : FuncId} {args : List AV} {spec : zap}
   (hs : ∀ xs pins,(spec xs pins).p → pins = [] ∧ xs.length = args.length ∧ (spec xs pins).x = .w (.bool true) ∧ (spec xs pins).bl = [] ∧ ∀ (w : World) (bad : Nat → Prop) (j : Nat) (h : j < xs.length) (h' : j < args.length) (v : Value),R w (zbb [] bad) xs[j] v → R w (locD bad) args[j] v)
   (h : runTrue P T SB k g args = true) : zaz P g spec := by
 unfold runTrue at h
 rw [callS_eq] at h
 split at h
 · rename_i H nz hc
   obtain ⟨_,_,_,h3⟩ := callN_ok hm hT hS hSB k _ _ _ _ _ _ _ hc
   intro xs pins hp _ w bad pb vs hlen hnd hbad hlies hxl hx
   obtain ⟨rfl,hxa,hx1,hbl,hR⟩ := hs xs pins hp
   obtain rfl : pb = [] := List.eq_nil_of_length_eq_zero hlen
   have hfree : ∀ id,(zbb [] bad).m id = .free := fun id => by simp [zbb]
   have hno : ∀ i b,(locD bad).m i ≠ .here b := fun i b h => by unfold locD at h; simp only at h; split at h <;> cases h
   have henv : Env w (· ∈ ([] : List Nat)) w (locD bad) := ⟨rfl,rfl,rfl,Nat.le_refl _,fun _ _ _ => rfl,fun i j b hi => (hno i b hi).elim,fun i b hi => (hno i b hi).elim,fun b hb => hbad b hb⟩
   refine (h3 (fun id b hb => by rw [zeg] at hb; cases hb) w _ w (locD bad) vs (by omega) (fun j hj hj' => hR w bad j (by omega) hj _ (hx j (by omega) hj')) (fun id b hb => by rw [zaq,zeg] at hb; cases hb) henv (fun id h1 _ => by unfold locD; simp only; rw [if_neg (by omega)])).mono ?_
   rintro e w' ⟨v,loc',rfl,hq⟩
   have hv := hq.r.wv
   subst hv
   refine ⟨_,zbb [] bad,rfl,?_⟩
   refine ⟨by rw [hx1]; exact .w _ rfl,rfl,(fun k hk => by rw [hbl] at hk; simp at hk),(fun k hk => by simp at hk),(fun k b _ hb => by rw [hfree] at hb; cases hb),fun k _ => hfree k,(fun i j b hi => by rw [hfree] at hi; cases hi),?_⟩
   exact ⟨hq.env.os,hq.env.tape,hq.env.output,hq.env.size,hq.env.same,fun b cur e fz hE => by simp at hE⟩
 · cases h
end Ax
open Ax
theorem yes_with {S : zaf} {SB : SpecB} (hS : Fns Try.prog S) (hSB : SpecBOk Try.prog S SB) {g : FuncId} (h : runTrue Try.prog ty SB 60 g [] = true) : zaz Try.prog g yesS :=
 sound_of_run zbi ty_ok hS hSB (fun xs pins hp => by
   unfold yesS at hp ⊢
   split at hp
   · exact ⟨rfl,rfl,rfl,rfl,fun w bad j h => by simp at h⟩
   · exact hp.elim) h
end Go.Proofs.Ythjceeimbohajaa
namespace Go.Proofs.Ythjceeimbohajaa
open Ax
def cloneS35 : zap
 | [.sg 6 [] true],[] => ⟨True,.sg 6 [] true,[]⟩
 | _,_ => zbv
theorem sg_true35 {w : World} {loc : Ax.Loc} {v : Value} {s : Nat} (s' : Nat) (h : R w loc (.sg s [] true) v) : R w loc (.sg s' [] true) v := by
 cases h with
 | sg _ _ _ a cap cs hd hs hc hl hx hh => exact .sg s' [] true a cap cs hd (by simp) hc hl hx hh
def clonePl35 : XPlan := fun id => match id with
 | 1 => .tst [false,true]
 | 3 => .tst [true,false,true]
 | _ => .std
set_option maxRecDepth 100000 in
set_option maxHeartbeats 1000000 in
theorem clone35_sound : zaz Try.prog 90 cloneS35 := by
 refine fn_soundOK (S := noS) (SO := noO) (T := ty) zbi ty_ok zcf noO_ok Try.func90 (c := Try.f90.body.getD .skip) (by kernel_rfl) (fun xs pins hp _ => ?_)
 unfold cloneS35 at hp ⊢
 split at hp
 · refine ⟨by simp,clonePl35,by kernel_rfl,?_⟩
   unfold Try.f90
   simp only [go_sem,zae,Nat.reduceAdd,Nat.reduceSub,Nat.reduceMul,Int.reduceToNat,reduceCtorEq,↓reduceIte,Int.reducePow,Nat.reducePow,Int.reduceMod,Nat.reduceLeDiff,Int.reduceLE,Int.reduceNe,Int.reduceEq,Nat.reduceEqDiff,Nat.reduceLT,Nat.reduceBEq,List.map_cons,List.map_nil,List.toList_toArray,Array.toList_append,Option.toArray_some,Option.toArray_none,Bool.and_self,ty,noS,clonePl35,specOp,List.length_nil]
   repeat (refine And.intro (by omega) ?_)
   intro b
   refine ⟨fun hb => ?_,fun hb => ?_⟩
   · refine ⟨_,weak_slot 2 (.sg 6 [] true) (fun w loc v h => sg_true35 6 h),?_⟩
     simp only [go_sem,zae,Nat.reduceAdd,Nat.reduceSub,Nat.reduceMul,Int.reduceToNat,reduceCtorEq,↓reduceIte,Int.reducePow,Nat.reducePow,Int.reduceMod,Nat.reduceLeDiff,Int.reduceLE,Int.reduceNe,Int.reduceEq,Nat.reduceEqDiff,Nat.reduceLT,Nat.reduceBEq,List.map_cons,List.map_nil,List.toList_toArray,Array.toList_append,Option.toArray_some,Option.toArray_none,Bool.and_self,ty,noS]
   · refine ⟨_,weak_slot 2 (.sg 6 [] true) (fun w loc v h => sg_true35 6 h),?_⟩
     simp only [go_sem,zae,Nat.reduceAdd,Nat.reduceSub,Nat.reduceMul,Int.reduceToNat,reduceCtorEq,↓reduceIte,Int.reducePow,Nat.reducePow,Int.reduceMod,Nat.reduceLeDiff,Int.reduceLE,Int.reduceNe,Int.reduceEq,Nat.reduceEqDiff,Nat.reduceLT,Nat.reduceBEq,List.map_cons,List.map_nil,List.toList_toArray,Array.toList_append,Option.toArray_some,Option.toArray_none,Bool.and_self,ty,noS]
 · exact hp.elim
def Sb35 (f : FuncId) : Option zap :=
 match f with
 | 90 => some cloneS35
 | _ => none
theorem Sb35_ok : Fns Try.prog Sb35 := by
 intro f s h
 unfold Sb35 at h
 split at h
 · injection h with h; subst h; exact ⟨⟨_,Try.func90,by kernel_rfl,by kernel_rfl⟩,clone35_sound⟩
 · cases h
noncomputable def hCl35 (A : List AV) (lk : Nat → Option Blk) (nm : Nat) : Option (AV × Us) :=
 match A with
 | [.sg s [] f] => bif Nat.beq s 6 && f then some (.sg 6 [] true,[]) else none
 | _ => none
noncomputable def B35 : SpecB := fun g => bif Nat.beq g 90 then some hCl35 else none
theorem B35_ok : SpecBOk Try.prog Sb35 B35 := by
 intro g h e
 unfold B35 at e
 cases h2 : Nat.beq g 90 with
 | true =>
   rw [h2,cond_true] at e
   injection e with e
   subst e
   have hg := Nat.eq_of_beq_eq_true h2
   subst hg
   refine .inl fun A H lk nm hl x us hx => ?_
   unfold hCl35 at hx
   split at hx
   · rename_i s f
     cases hc : (Nat.beq s 6 && f) with
     | false => rw [hc] at hx; cases hx
     | true =>
       rw [hc,cond_true] at hx
       simp only [Bool.and_eq_true] at hc
       obtain ⟨b1,rfl⟩ := hc
       have b1 := Nat.eq_of_beq_eq_true b1
       subst b1
       injection hx with hx
       injection hx with hx1 hx2
       subst hx1 hx2
       have hS : Sb35 90 = some cloneS35 := rfl
       unfold aUser
       rw [hS]
       simp [callOut,rootsL,AV.roots,lentIdsL,AV.lentIds,pinsOf,nodup,lendL,lend,cloneS35,AV.ren,back,givenUp,dropAll,closedB,upd,hl]
   · cases hx
 | false =>
   rw [h2,cond_false] at e
   cases e
end Go.Proofs.Ythjceeimbohajaa
namespace Go.Proofs.Ythjceeimbohajaa
open Ax
theorem w1 : rchk 1 5 true [107] false [118] = 0 := by decide
theorem w2 : rchk 1 5 true [107] true [] = 0 := by decide
theorem w3 : recB 1 5 true [107] false [118] = [1,2,10,2,107,2,118] := by
 simp [recB,w1,recL,flagI,zfh,putU,zz]
theorem w4 : recB 1 5 true [107] true [] = [3,2,10,2,107] := by
 simp [recB,w2,recL,flagI,zfh,putU,zz]
theorem w5 : gerr [1,2,10,2,107,2,118] 0 = 0 := by decide +kernel
theorem w6 : gd [1,2,10,2,107,2,118] 0 = 1 := by decide +kernel
section
set_option maxRecDepth 100000
set_option maxHeartbeats 1000000 in
end
end Go.Proofs.Ythjceeimbohajaa
namespace Go.Proofs.Ythjceeimbohajaa
open Ax
theorem zew (n : Int) (h1 : -9223372036854775808 ≤ n) (h2 : n ≤ 9223372036854775807) (r : List UInt8) :
   numN (putU (zz n).toNat ++ r) 0 = n ∧ numL (putU (zz n).toNat ++ r) 0 = r ∧ numE (putU (zz n).toNat ++ r) 0 = 0 := by
 have hz := zz_range n h1 h2
 have hg := getL_put (zz n).toNat (by omega) r
 have hc : (((zz n).toNat : Nat) : Int) = zz n := by omega
 rw [hc,zg_zz] at hg
 unfold numN numL numE
 rw [if_pos rfl,if_pos rfl,if_pos rfl,hg]
 exact ⟨rfl,by simp,rfl⟩
theorem zz_len (n : Nat) : (zz (n : Int)).toNat = 2 * n := by unfold zz; rw [if_pos (by omega)]; omega
theorem text_put (m : Int) (s r : List UInt8) (hm : (s.length : Int) ≤ m) (hs : s.length ≤ 1000000) :
   rtS' m (zfh s ++ r) 0 = s ∧ rtL m (zfh s ++ r) 0 = r ∧ rtE m (zfh s ++ r) 0 = 0 := by
 obtain ⟨h1,h2,h3⟩ := zew (s.length : Int) (by omega) (by omega) (s ++ r)
 rw [zz_len] at h1 h2 h3
 have e : zfh s ++ r = putU (2 * s.length) ++ (s ++ r) := by unfold zfh; rw [List.append_assoc]
 have hok : rtOk m (zfh s ++ r) 0 := by unfold rtOk; rw [e,h1,h3]; omega
 have hl : ¬ (((s ++ r).length : Int) < (s.length : Int)) := by simp; omega
 unfold rtS' rtL rtE
 rw [if_pos hok,if_pos hok,if_pos hok,e,h1,h2,h3]
 unfold tkB tkL tkE
 rw [if_neg hl,if_neg hl,if_neg hl]
 simp
end Go.Proofs.Ythjceeimbohajaa
namespace Go.Proofs.Ythjceeimbohajaa
open Ax
theorem wrow_back {a : WS} (h : okW a) (r : List UInt8) : wrV (zay a ++ r) 0 = a ∧ wrL6 (zay a ++ r) 0 = r ∧ wrE6 (zay a ++ r) 0 = 0 := by
 obtain ⟨h1,h2,h3,h4,h5,h6⟩ := h
 have e : zay a ++ r = zfh a.k ++ (pqW a.s ++ (pqW a.c ++ (pqW a.t ++ (pqW a.a ++ (pqW a.b ++ r))))) := by unfold zay; simp only [List.append_assoc]
 obtain ⟨a1,a2,a3⟩ := text_put 64 a.k (pqW a.s ++ (pqW a.c ++ (pqW a.t ++ (pqW a.a ++ (pqW a.b ++ r))))) (by omega) (by omega)
 obtain ⟨b1,b2,b3⟩ := zew a.s (by omega) (by omega) (pqW a.c ++ (pqW a.t ++ (pqW a.a ++ (pqW a.b ++ r))))
 obtain ⟨c1,c2,c3⟩ := zew a.c (by omega) (by omega) (pqW a.t ++ (pqW a.a ++ (pqW a.b ++ r)))
 obtain ⟨d1,d2,d3⟩ := zew a.t (by omega) (by omega) (pqW a.a ++ (pqW a.b ++ r))
 obtain ⟨f1,f2,f3⟩ := zew a.a (by omega) (by omega) (pqW a.b ++ r)
 obtain ⟨g1,g2,g3⟩ := zew a.b (by omega) (by omega) r
 have x1 : wrL1 (zay a ++ r) 0 = pqW a.s ++ (pqW a.c ++ (pqW a.t ++ (pqW a.a ++ (pqW a.b ++ r)))) := by unfold wrL1; rw [e]; exact a2
 have y1 : wrE1 (zay a ++ r) 0 = 0 := by unfold wrE1; rw [e]; exact a3
 have x2 : wrL2 (zay a ++ r) 0 = pqW a.c ++ (pqW a.t ++ (pqW a.a ++ (pqW a.b ++ r))) := by unfold wrL2; rw [x1,y1]; exact b2
 have y2 : wrE2 (zay a ++ r) 0 = 0 := by unfold wrE2; rw [x1,y1]; exact b3
 have x3 : wrL3 (zay a ++ r) 0 = pqW a.t ++ (pqW a.a ++ (pqW a.b ++ r)) := by unfold wrL3; rw [x2,y2]; exact c2
 have y3 : wrE3 (zay a ++ r) 0 = 0 := by unfold wrE3; rw [x2,y2]; exact c3
 have x4 : wrL4 (zay a ++ r) 0 = pqW a.a ++ (pqW a.b ++ r) := by unfold wrL4; rw [x3,y3]; exact d2
 have y4 : wrE4 (zay a ++ r) 0 = 0 := by unfold wrE4; rw [x3,y3]; exact d3
 have x5 : wrL5 (zay a ++ r) 0 = pqW a.b ++ r := by unfold wrL5; rw [x4,y4]; exact f2
 have y5 : wrE5 (zay a ++ r) 0 = 0 := by unfold wrE5; rw [x4,y4]; exact f3
 have x6 : wrL6 (zay a ++ r) 0 = r := by unfold wrL6; rw [x5,y5]; exact g2
 have y6 : wrE6 (zay a ++ r) 0 = 0 := by unfold wrE6; rw [x5,y5]; exact g3
 refine ⟨?_,x6,y6⟩
 have z1 : rtS' 64 (zay a ++ r) 0 = a.k := by rw [e]; exact a1
 have z2 : numN (wrL1 (zay a ++ r) 0) (wrE1 (zay a ++ r) 0) = a.s := by rw [x1,y1]; exact b1
 have z3 : numN (wrL2 (zay a ++ r) 0) (wrE2 (zay a ++ r) 0) = a.c := by rw [x2,y2]; exact c1
 have z4 : numN (wrL3 (zay a ++ r) 0) (wrE3 (zay a ++ r) 0) = a.t := by rw [x3,y3]; exact d1
 have z5 : numN (wrL4 (zay a ++ r) 0) (wrE4 (zay a ++ r) 0) = a.a := by rw [x4,y4]; exact f1
 have z6 : numN (wrL5 (zay a ++ r) 0) (wrE5 (zay a ++ r) 0) = a.b := by rw [x5,y5]; exact g1
 unfold wrV
 rw [z1,z2,z3,z4,z5,z6]
theorem wrows_back : ∀ l : List WS,(∀ r ∈ l,okW r) → rdW l.length (l.flatMap zay) 0 = l ∧ rdWL l.length (l.flatMap zay) 0 = [] ∧ rdWE l.length (l.flatMap zay) 0 = 0 ∧ rgW l.length (l.flatMap zay) 0 = l
 | [],_ => ⟨rfl,rfl,rfl,rfl⟩
 | a :: l,h => by
   obtain ⟨h1,h2,h3⟩ := wrow_back (h a (List.mem_cons_self ..)) (l.flatMap zay)
   obtain ⟨i1,i2,i3,i4⟩ := wrows_back l (fun r hr => h r (List.mem_cons_of_mem _ hr))
   rw [List.flatMap_cons,List.length_cons]
   refine ⟨?_,?_,?_,?_⟩
   · unfold rdW; rw [h1,h2,h3,i1]
   · unfold rdWL; rw [h2,h3,i2]
   · unfold rdWE; rw [h2,h3,i3]
   · unfold rgW; rw [if_pos rfl,h1,h2,h3,i4]
theorem layw_read {x : WT} (h : chW x.z x.l x.m x.d x.rs = 0) : prW (layW x.z x.l x.m x.d x.rs) = some x ∧ rrW (layW x.z x.l x.m x.d x.rs) = some x := by
 obtain ⟨Z,L,M,D,l⟩ := x
 have h : chW Z L M D l = 0 := h
 show prW (layW Z L M D l) = some ⟨Z,L,M,D,l⟩ ∧ rrW (layW Z L M D l) = some ⟨Z,L,M,D,l⟩
 obtain ⟨b1,b2,b3,b4,b5,b6⟩ := chW_ok h
 have e : layW Z L M D l = pqW Z ++ (pqW L ++ (pqW M ++ (pqW D ++ (pqW (l.length : Int) ++ l.flatMap zay)))) := by unfold layW layWH; simp only [List.append_assoc]
 obtain ⟨i1,i2,i3,i4⟩ := wrows_back l b6
 have hp : putW Z L M D l = layW Z L M D l := if_pos h
 obtain ⟨a1,a2,a3⟩ := zew Z (by omega) (by omega) (pqW L ++ (pqW M ++ (pqW D ++ (pqW (l.length : Int) ++ l.flatMap zay))))
 obtain ⟨c1,c2,c3⟩ := zew L (by omega) (by omega) (pqW M ++ (pqW D ++ (pqW (l.length : Int) ++ l.flatMap zay)))
 obtain ⟨d1,d2,d3⟩ := zew M (by omega) (by omega) (pqW D ++ (pqW (l.length : Int) ++ l.flatMap zay))
 obtain ⟨f1,f2,f3⟩ := zew D (by omega) (by omega) (pqW (l.length : Int) ++ l.flatMap zay)
 obtain ⟨g1,g2,g3⟩ := zew (l.length : Int) (by omega) (by omega) (l.flatMap zay)
 generalize layW Z L M D l = bb at *
 have x1 : hwL1 bb = pqW L ++ (pqW M ++ (pqW D ++ (pqW (l.length : Int) ++ l.flatMap zay))) := by unfold hwL1; rw [e]; exact a2
 have y1 : hwE1 bb = 0 := by unfold hwE1; rw [e]; exact a3
 have x2 : hwL2 bb = pqW M ++ (pqW D ++ (pqW (l.length : Int) ++ l.flatMap zay)) := by unfold hwL2; rw [x1,y1]; exact c2
 have y2 : hwE2 bb = 0 := by unfold hwE2; rw [x1,y1]; exact c3
 have x3 : hwL3 bb = pqW D ++ (pqW (l.length : Int) ++ l.flatMap zay) := by unfold hwL3; rw [x2,y2]; exact d2
 have y3 : hwE3 bb = 0 := by unfold hwE3; rw [x2,y2]; exact d3
 have x4 : hwL4 bb = pqW (l.length : Int) ++ l.flatMap zay := by unfold hwL4; rw [x3,y3]; exact f2
 have y4 : hwE4 bb = 0 := by unfold hwE4; rw [x3,y3]; exact f3
 have x5 : hwL5 bb = l.flatMap zay := by unfold hwL5; rw [x4,y4]; exact g2
 have y5 : hwE5 bb = 0 := by unfold hwE5; rw [x4,y4]; exact g3
 have z1 : hwZ bb = Z := by unfold hwZ; rw [e]; exact a1
 have z2 : hwL bb = L := by unfold hwL; rw [x1,y1]; exact c1
 have z3 : hwM bb = M := by unfold hwM; rw [x2,y2]; exact d1
 have z4 : hwD bb = D := by unfold hwD; rw [x3,y3]; exact f1
 have z5 : hwN bb = l.length := by unfold hwN; rw [x4,y4]; exact g1
 have ho : outB (l.length : Int) 0 256 = false := by
   unfold outB
   rw [Bool.or_eq_false_iff,decide_eq_false_iff_not,decide_eq_false_iff_not]
   omega
 constructor
 · unfold prW
   rw [z1,z2,z3,z4,z5,x5,y5,ho,if_neg (by simp),Int.toNat_natCast,i1,i2,i3]
   unfold pwK
   rw [if_pos ⟨by simp,h,hp⟩]
 · unfold rrW
   rw [z1,z2,z3,z4,z5,x5,y5,show min (l.length : Int) 257 = (l.length : Int) by omega,Int.toNat_natCast,i4]
   unfold rwK
   rw [if_pos ⟨h,hp⟩]
theorem pwK_some {b : List UInt8} {x : WT} {Z L M D : Int} {l : List WS} {R : List UInt8} {E : Int} (h : pwK Z L M D l R E b = some x) : chW x.z x.l x.m x.d x.rs = 0 ∧ layW x.z x.l x.m x.d x.rs = b := by
 unfold pwK at h
 by_cases hc : (if E = 0 ∧ 0 < R.length then (4 : Int) else E) = 0 ∧ chW Z L M D l = 0 ∧ putW Z L M D l = b
 · rw [if_pos hc] at h
   injection h with h
   subst h
   refine ⟨hc.2.1,?_⟩
   have e : putW Z L M D l = layW Z L M D l := if_pos hc.2.1
   show layW Z L M D l = b
   rw [← e]; exact hc.2.2
 · rw [if_neg hc] at h; cases h
theorem rwK_some {b : List UInt8} {x : WT} {Z L M D : Int} {l : List WS} (h : rwK Z L M D l b = some x) : chW x.z x.l x.m x.d x.rs = 0 ∧ layW x.z x.l x.m x.d x.rs = b := by
 unfold rwK at h
 by_cases hc : chW Z L M D l = 0 ∧ putW Z L M D l = b
 · rw [if_pos hc] at h
   injection h with h
   subst h
   refine ⟨hc.1,?_⟩
   have e : putW Z L M D l = layW Z L M D l := if_pos hc.1
   show layW Z L M D l = b
   rw [← e]; exact hc.2
 · rw [if_neg hc] at h; cases h
theorem prW_some {b : List UInt8} {x : WT} (h : prW b = some x) : chW x.z x.l x.m x.d x.rs = 0 ∧ layW x.z x.l x.m x.d x.rs = b := by
 unfold prW at h
 by_cases hc : outB (hwN b) 0 256 = true
 · rw [if_pos hc] at h; cases h
 · rw [if_neg hc] at h; exact pwK_some h
theorem bothW_read (b : List UInt8) : rrW b = prW b := by
 cases h : prW b with
 | some x =>
   obtain ⟨h1,rfl⟩ := prW_some h
   exact (layw_read h1).2
 | none =>
   cases h2 : rrW b with
   | none => rfl
   | some x =>
     obtain ⟨h3,rfl⟩ := rwK_some h2
     rw [(layw_read h3).1] at h; cases h
set_option maxRecDepth 100000 in
theorem aw35_sound : zaz Try.prog 6 yesS := yes_with Sb35_ok B35_ok (by kernel_rfl)
def wputsS : zap
 | [.agg [.w (.int .i64 Z),.w (.int .i64 L),.w (.int .i64 M),.w (.int .i64 D),.sg 6 xs f],.agg [.w (.int .i64 Z'),.w (.int .i64 L'),.w (.int .i64 M'),.w (.int .i64 D'),.sg 6 ys g],.sb b fb],[] => ⟨(xs.length ≤ 9223372036854775807 ∧ ∃ l : List WS,xs = l.map wsA) ∧ ys.length ≤ 9223372036854775807 ∧ ∃ l : List WS,ys = l.map wsA,.w (.bool true),[]⟩
 | _,_ => zbv
def Swp35 (f : FuncId) : Option zap :=
 match f with
 | 6 => some yesS
 | 5 => some lightWS
 | 8 => some own35S
 | 7 => some putWS
 | 9 => some putWS
 | 10 => some getWS
 | 11 => some rgetWS
 | 13 => some back35S
 | 12 => some same35S
 | 14 => some same35S
 | _ => none
theorem Swp35_ok : Fns Try.prog Swp35 := by
 intro f s h
 unfold Swp35 at h
 split at h
 · injection h with h; subst h; exact ⟨⟨_,Try.func6,by kernel_rfl,by kernel_rfl⟩,aw35_sound⟩
 · injection h with h; subst h; exact ⟨⟨_,Try.func5,by kernel_rfl,by kernel_rfl⟩,lightW_sound⟩
 · injection h with h; subst h; exact ⟨⟨_,Try.func8,by kernel_rfl,by kernel_rfl⟩,own35_sound⟩
 · injection h with h; subst h; exact ⟨⟨_,Try.func7,by kernel_rfl,by kernel_rfl⟩,putW_sound⟩
 · injection h with h; subst h; exact ⟨⟨_,Try.func9,by kernel_rfl,by kernel_rfl⟩,rputW_sound⟩
 · injection h with h; subst h; exact ⟨⟨_,Try.func10,by kernel_rfl,by kernel_rfl⟩,getW_sound⟩
 · injection h with h; subst h; exact ⟨⟨_,Try.func11,by kernel_rfl,by kernel_rfl⟩,rgetW_sound⟩
 · injection h with h; subst h; exact ⟨⟨_,Try.func13,by kernel_rfl,by kernel_rfl⟩,back35_sound⟩
 · injection h with h; subst h; exact ⟨⟨_,Try.func12,by kernel_rfl,by kernel_rfl⟩,rsame35_sound⟩
 · injection h with h; subst h; exact ⟨⟨_,Try.func14,by kernel_rfl,by kernel_rfl⟩,wsame35_sound⟩
 · cases h
def wputsPl : Plan := fun id => match id with
 | 7 => some [(12,13),(23,24),(23,27),(25,27),(26,27),(23,28),(25,28),(26,28)]
 | _ => none
section
set_option maxRecDepth 100000
set_option maxHeartbeats 32000000 in
theorem wputs_law : zaz Try.prog 3 wputsS := by
 refine fn_soundF (S := Swp35) (T := ty) (pl := wputsPl) zbi ty_ok Swp35_ok Try.func3 (c := Try.f3.body.getD .skip) (by kernel_rfl) (by kernel_rfl) (fun xs pins hp _ => ?_)
 unfold wputsS at hp ⊢
 split at hp
 · rename_i Z L M D xs f Z' L' M' D' ys g b fb _
   obtain ⟨⟨hL,l,rfl⟩,hK,k,rfl⟩ := hp
   have hle : (l.map wsA).length = l.length := by simp
   have hke : (k.map wsA).length = k.length := by simp
   have hx : ∃ q : List WS,l.map wsA = q.map wsA := ⟨l,rfl⟩
   have hy : ∃ q : List WS,k.map wsA = q.map wsA := ⟨k,rfl⟩
   rw [hle] at hL
   rw [hke] at hK
   refine ⟨by simp,?_⟩
   have hc1 : ∀ f,coe ty 31 (.sg 6 (l.map wsA) f) = .sg 6 (l.map wsA) f := fun f => by cases l <;> rfl
   have hc2 : ∀ f,coe ty 22 (.sg 6 (l.map wsA) f) = .sg 6 (l.map wsA) f := fun f => by cases l <;> rfl
   have hd1 : ∀ f,coe ty 31 (.sg 6 (k.map wsA) f) = .sg 6 (k.map wsA) f := fun f => by cases k <;> rfl
   have hd2 : ∀ f,coe ty 22 (.sg 6 (k.map wsA) f) = .sg 6 (k.map wsA) f := fun f => by cases k <;> rfl
   unfold Try.f3
   by_cases h1 : lightW l
   · have d1 : decide (lightW l) = true := decide_eq_true h1
     have hL6 : l.length ≤ 1000000 := by have := h1.1; omega
     by_cases h3 : lightW k
     · have d3 : decide (lightW k) = true := decide_eq_true h3
       have hK6 : k.length ≤ 1000000 := by have := h3.1; omega
       by_cases h2 : 1000 < b.length
       · have d2 : decide ((1000 : Int) < (b.length : Int)) = true := decide_eq_true (by omega)
         simp only [go_sem,zac,Nat.reduceAdd,Nat.reduceSub,Nat.reduceMul,Int.reduceToNat,reduceCtorEq,↓reduceIte,Int.reducePow,Nat.reducePow,Int.reduceMod,Nat.reduceLeDiff,Int.reduceLE,Int.reduceNe,Int.reduceEq,Nat.reduceEqDiff,Nat.reduceLT,Nat.reduceBEq,List.map_cons,List.map_nil,List.toList_toArray,Array.toList_append,Option.toArray_some,Option.toArray_none,Bool.and_self,ty,Swp35,wputsPl,yesS,lightWS,hL,hle,hx,hK,hke,hy,zax,hc1,hc2,hd1,hd2,d1,d2,d3]
         exact zav 6 rfl
       · have d2 : decide ((1000 : Int) < (b.length : Int)) = false := decide_eq_false (by omega)
         have hb6 : b.length ≤ 1000000 := by omega
         obtain ⟨C,hC⟩ : ∃ C,chW Z L M D l = C := ⟨_,rfl⟩
         obtain ⟨W,hW⟩ : ∃ W,putW Z L M D l = W := ⟨_,rfl⟩
         have hCC : decide (C = C) = true := decide_eq_true rfl
         have hWW : decide (W = W) = true := decide_eq_true rfl
         obtain ⟨V,hV⟩ : ∃ V,(decide (Z = Z') && (decide (L = L') && (decide (M = M') && (decide (D = D') && decide (l = k))))) = V := ⟨_,rfl⟩
         have hVV : (V == V) = true := by cases V <;> rfl
         cases hR : prW b with
         | none =>
           have z1 : coe ty 31 (.sg 6 [] true) = .sg 6 [] true := rfl
           have z2 : coe ty 22 (.sg 6 [] false) = .sg 6 [] false := rfl
           have z3 : coe ty 22 (.sg 6 [] true) = .sg 6 [] true := rfl
           have z4 : ∃ q : List WS,([] : List AV) = q.map wsA := ⟨[],rfl⟩
           have z5 : decide (([] : List WS) = []) = true := rfl
           simp (config := { maxSteps := 3000000 }) only [go_sem,zac,Nat.reduceAdd,Nat.reduceSub,Nat.reduceMul,Int.reduceToNat,reduceCtorEq,↓reduceIte,Int.reducePow,Nat.reducePow,Int.reduceMod,Nat.reduceLeDiff,Int.reduceLE,Int.reduceNe,Int.reduceEq,Nat.reduceEqDiff,Nat.reduceLT,Nat.reduceBEq,List.map_cons,List.map_nil,List.toList_toArray,Array.toList_append,Option.toArray_some,Option.toArray_none,Bool.and_self,ty,Swp35,wputsPl,yesS,lightWS,own35S,putWS,getWS,rgetWS,back35S,same35S,bothW_read,hR,wtX,hL,hL6,hb6,hle,hx,hK,hK6,hke,hy,zax,hc1,hc2,hd1,hd2,d1,d2,d3,hC,hW,hCC,hWW,hV,hVV,z1,z2,z3,z4,z5]
           exact zav 6 rfl
         | some x =>
           obtain ⟨hk,_⟩ := prW_some hR
           obtain ⟨z,xl,xm,xd,j⟩ := x
           have hk4 := (chW_ok hk).2.2.2.2.1
           simp only at hk4
           have hje : (j.map wsA).length = j.length := by simp
           have hjy : ∃ q : List WS,j.map wsA = q.map wsA := ⟨j,rfl⟩
           have hj6 : j.length ≤ 1000000 := by omega
           have hj9 : j.length ≤ 9223372036854775807 := by omega
           have z1 : ∀ f,coe ty 31 (.sg 6 (j.map wsA) f) = .sg 6 (j.map wsA) f := fun f => by cases j <;> rfl
           have z2 : ∀ f,coe ty 22 (.sg 6 (j.map wsA) f) = .sg 6 (j.map wsA) f := fun f => by cases j <;> rfl
           have hmm : ∀ m : Int,decide (m = m) = true := fun m => decide_eq_true rfl
           have hkk : decide (j = j) = true := decide_eq_true rfl
           have hcl := zbm j
           simp (config := { maxSteps := 3000000 }) only [go_sem,zac,Nat.reduceAdd,Nat.reduceSub,Nat.reduceMul,Int.reduceToNat,reduceCtorEq,↓reduceIte,Int.reducePow,Nat.reducePow,Int.reduceMod,Nat.reduceLeDiff,Int.reduceLE,Int.reduceNe,Int.reduceEq,Nat.reduceEqDiff,Nat.reduceLT,Nat.reduceBEq,List.map_cons,List.map_nil,List.toList_toArray,Array.toList_append,Option.toArray_some,Option.toArray_none,Bool.and_self,ty,Swp35,wputsPl,yesS,lightWS,own35S,putWS,getWS,rgetWS,back35S,same35S,bothW_read,hR,wtX,hL,hL6,hb6,hle,hx,hK,hK6,hke,hy,zax,hc1,hc2,hd1,hd2,d1,d2,d3,hC,hW,hCC,hWW,hV,hVV,z1,z2,hje,hjy,hj6,hj9,hmm,hkk,hcl,Bool.and_self]
           exact zav 6 rfl
     · have d3 : decide (lightW k) = false := decide_eq_false h3
       simp only [go_sem,zac,Nat.reduceAdd,Nat.reduceSub,Nat.reduceMul,Int.reduceToNat,reduceCtorEq,↓reduceIte,Int.reducePow,Nat.reducePow,Int.reduceMod,Nat.reduceLeDiff,Int.reduceLE,Int.reduceNe,Int.reduceEq,Nat.reduceEqDiff,Nat.reduceLT,Nat.reduceBEq,List.map_cons,List.map_nil,List.toList_toArray,Array.toList_append,Option.toArray_some,Option.toArray_none,Bool.and_self,ty,Swp35,wputsPl,yesS,lightWS,hL,hle,hx,hK,hke,hy,zax,hc1,hc2,hd1,hd2,d1,d3]
       exact zav 6 rfl
   · have d1 : decide (lightW l) = false := decide_eq_false h1
     simp only [go_sem,zac,Nat.reduceAdd,Nat.reduceSub,Nat.reduceMul,Int.reduceToNat,reduceCtorEq,↓reduceIte,Int.reducePow,Nat.reducePow,Int.reduceMod,Nat.reduceLeDiff,Int.reduceLE,Int.reduceNe,Int.reduceEq,Nat.reduceEqDiff,Nat.reduceLT,Nat.reduceBEq,List.map_cons,List.map_nil,List.toList_toArray,Array.toList_append,Option.toArray_some,Option.toArray_none,Bool.and_self,ty,Swp35,wputsPl,yesS,lightWS,hL,hle,hx,zax,hc1,hc2,d1]
     exact zav 6 rfl
 · exact hp.elim
end
theorem all_ws : ∀ xs : List AV,(∀ x ∈ xs,∃ r : WS,x = wsA r) → ∃ l : List WS,xs = l.map wsA
 | [],_ => ⟨[],rfl⟩
 | x :: xs,h => by
   obtain ⟨r,rfl⟩ := h x (List.mem_cons_self ..)
   obtain ⟨l,rfl⟩ := all_ws xs (fun y hy => h y (List.mem_cons_of_mem _ hy))
   exact ⟨r :: l,rfl⟩
theorem arg_state35 {x : AV} (h : Arg ty 6 24 x) : ∃ (Z L M D : Int) (l : List WS) (f : Bool),x = .agg [.w (.int .i64 Z),.w (.int .i64 L),.w (.int .i64 M),.w (.int .i64 D),.sg 6 (l.map wsA) f] ∧ l.length ≤ 9223372036854775807 := by
 obtain ⟨i,ls,hi,hs,rfl⟩ := h
 simp only [ty] at hi
 injection hi with hi
 subst hi
 simp only [Shape,ty,ShapeF,isFlatI] at hs
 obtain ⟨l1,r1,rfl,⟨m1,rfl,w1⟩,l2,r2,rfl,⟨m2,rfl,w2⟩,l3,r3,rfl,⟨m3,rfl,w3⟩,l4,r4,rfl,⟨m4,rfl,w4⟩,l6,r6,rfl,⟨xs,f,rfl,hl,hx⟩,rfl⟩ := hs
 obtain ⟨rs,rfl⟩ := all_ws xs (fun x hxm => by
   obtain ⟨l,⟨l1,r1,rfl,⟨m1,rfl,w1⟩,l2,r2,rfl,⟨m2,rfl,w2⟩,l3,r3,rfl,⟨m3,rfl,w3⟩,l4,r4,rfl,⟨m4,rfl,w4⟩,l5,r5,rfl,⟨m5,rfl,w5⟩,l6,r6,rfl,⟨m6,rfl,w6⟩,rfl⟩,_,rfl⟩ := hx x hxm
   exact ⟨⟨m1,m2,m3,m4,m5,m6⟩,rfl⟩)
 refine ⟨m1,m2,m3,m4,rs,f,rfl,?_⟩
 rw [List.length_map] at hl
 have : maxLen = 9223372036854775807 := by decide
 omega
theorem arg_bytesW {x : AV} (h : Arg ty 6 25 x) : ∃ (bs : List UInt8) (f : Bool),x = .sb bs f := by
 obtain ⟨i,ls,hi,hs,rfl⟩ := h
 simp only [ty] at hi
 injection hi with hi
 subst hi
 simp only [Shape,ty,ShapeF] at hs
 obtain ⟨bs,f,rfl,hl⟩ := hs
 exact ⟨bs,f,rfl⟩
theorem wputs_dom {x y z : AV} (hx : Arg ty 6 24 x) (hy : Arg ty 6 24 y) (hz : Arg ty 6 25 z) : (wputsS [x,y,z] []).p ∧ (wputsS [x,y,z] []).x = .w (.bool true) := by
 obtain ⟨Z,L,M,D,l,f,rfl,hl⟩ := arg_state35 hx
 obtain ⟨Z',L',M',D',k,g,rfl,hk⟩ := arg_state35 hy
 obtain ⟨b,fb,rfl⟩ := arg_bytesW hz
 exact ⟨⟨⟨by rw [List.length_map]; exact hl,l,rfl⟩,by rw [List.length_map]; exact hk,k,rfl⟩,rfl⟩
end Go.Proofs.Ythjceeimbohajaa
