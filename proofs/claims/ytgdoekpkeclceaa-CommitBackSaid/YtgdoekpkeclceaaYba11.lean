/- What the proofs of this seat stand on; it asks nothing. -/
import Derived.Test.YtgdoekpkeclceaaYba10
set_option linter.unusedSimpArgs false
set_option linter.unusedVariables false
namespace Go.Proofs.Ytgdoekpkeclceaa
namespace Ax
open Go.RowKit
theorem loopN_pure {f : CS → Option (Exit × CS)} (hf : ∀ τ e τ',f τ = some (e,τ') → PureOk τ τ') : ∀ (k : Nat) (τ : CS) (e : Exit) (τ' : CS),loopN f k τ = some (e,τ') → PureOk τ τ'
 | 0,τ,e,τ',h => by cases h
 | k + 1,τ,e,τ',h => by
   unfold loopN at h
   split at h
   · rename_i τ1 h1; exact (hf _ _ _ h1).trans (loopN_pure hf k τ1 e τ' h)
   · rename_i id τ1 h1; injection h with h; injection h with h2 h3; subst h3; exact hf _ _ _ h1
   · rename_i τ1 h1; injection h with h; injection h with h2 h3; subst h3; exact hf _ _ _ h1
   · cases h
section
variable {P : Program} {T : zaa} (hT : TOk P T) {S : zae} {SB : SpecB} (hS : Fns P S) (hSB : SpecBOk P S SB) {call : zcn} (hcall : CallOk P call)
include hT hS hSB hcall
theorem runC_pure : ∀ (c : Code) (τ : CS) (e : Exit) (τ' : CS),runC T SB call c τ = some (e,τ') → PureOk τ τ' := by
 intro c
 induction c with
 | skip => intro τ e τ' h; injection h with h; injection h with h1 h2; subst h2; exact .refl _
 | label l => intro τ e τ' h; injection h with h; injection h with h1 h2; subst h2; exact .refl _
 | exit id => intro τ e τ' h; injection h with h; injection h with h1 h2; subst h2; exact .refl _
 | ret => intro τ e τ' h; injection h with h; injection h with h1 h2; subst h2; exact .refl _
 | region id ops draw =>
   intro τ e τ' h
   have key : ∀ q,(match zfh T SB call ops.toList q 0 ops.toList τ with | some τ => some (Exit.normal,τ) | none => none) = some (e,τ') → PureOk τ τ' := by
     intro q h
     split at h
     · rename_i τ1 h1; injection h with h; injection h with h2 h3; subst h3; exact runOps_pure hT hS hSB hcall _ _ _ _ h1
     · cases h
   unfold runC at h
   cases draw with
   | false => exact key _ h
   | true =>
     simp only [cond_true] at h
     cases h1 : drawOkX (fun i => zck T ((quietL T ops.toList).getD i false)) ops.toList with
     | true => rw [h1] at h; exact key _ h
     | false => rw [h1] at h; cases h
 | seq a b iha ihb =>
   intro τ e τ' h
   unfold runC at h
   split at h
   · rename_i τ1 h1; exact (iha _ _ _ h1).trans (ihb _ _ _ h)
   · rename_i id τ1 h1; injection h with h; injection h with h2 h3; subst h3; exact iha _ _ _ h1
   · rename_i τ1 h1; injection h with h; injection h with h2 h3; subst h3; exact iha _ _ _ h1
   · cases h
 | cond c a b iha ihb =>
   intro τ e τ' h
   unfold runC at h
   split at h
   · exact iha _ _ _ h
   · exact ihb _ _ _ h
   · cases h
 | block id c ih =>
   intro τ e τ' h
   unfold runC at h
   split at h
   · rename_i id' τ1 h1
     split at h
     · injection h with h; injection h with h2 h3; subst h3; exact ih _ _ _ h1
     · injection h with h; injection h with h2 h3; subst h3; exact ih _ _ _ h1
   · rename_i τ1 h1; injection h with h; injection h with h2 h3; subst h3; exact ih _ _ _ h1
   · rename_i τ1 h1; injection h with h; injection h with h2 h3; subst h3; exact ih _ _ _ h1
   · cases h
 | loop c ih =>
   intro τ e τ' h
   unfold runC at h
   exact loopN_pure ih _ _ _ _ h
 | _ => intro τ e τ' h; cases h
def After (Z : Nat) (w0 : World) (E : Nat → Prop) (w : World) (loc : Loc) (nm : Nat) (e : Exit) (τ' : CS) : Exit → Act → World → Prop :=
 fun e' a' w' => e' = e ∧ ∃ loc',RelT Z w0 E loc' τ' a' w' ∧ Tn w loc nm τ'.nx w' loc'
theorem runC_ok (hm : P.follows .mixedOrders = true) {Z : Nat} {w0 : World} {E : Nat → Prop} : ∀ (c : Code) (τ : CS) (e : Exit) (τ' : CS) (a : Act) (w : World) (loc : Loc),runC T SB call c τ = some (e,τ') → LowC τ.H τ.nx → τ'.nx ≤ Z → RelT Z w0 E loc τ a w →
   c.wp P (After Z w0 E w loc τ.nx e τ') a w := by
 intro c
 induction c with
 | skip => intro τ e τ' a w loc h hl hz hr; injection h with h; injection h with h1 h2; subst h1 h2; exact wp_skip ⟨rfl,loc,hr,Tn.refl _ _ _ _⟩
 | label l => intro τ e τ' a w loc h hl hz hr; injection h with h; injection h with h1 h2; subst h1 h2; exact wp_label ⟨rfl,loc,hr,Tn.refl _ _ _ _⟩
 | exit id => intro τ e τ' a w loc h hl hz hr; injection h with h; injection h with h1 h2; subst h1 h2; exact wp_exit ⟨rfl,loc,hr,Tn.refl _ _ _ _⟩
 | ret => intro τ e τ' a w loc h hl hz hr; injection h with h; injection h with h1 h2; subst h1 h2; exact wp_ret ⟨rfl,loc,hr,Tn.refl _ _ _ _⟩
 | region id ops draw =>
   intro τ e τ' a w loc h hl hz hr
   unfold runC at h
   cases draw with
   | false =>
     simp only [cond_false] at h
     split at h
     · rename_i τ1 h1
       injection h with h; injection h with h2 h3; subst h2 h3
       exact wp_region_list (runOps_seq hT hS hSB hcall _ _ _ _ a w loc h1 hl hz hr fun a' w' loc' h4 h5 => ⟨rfl,loc',h4,h5⟩)
     · cases h
   | true =>
     simp only [cond_true] at h
     cases hd : drawOkX (fun i => zck T ((quietL T ops.toList).getD i false)) ops.toList with
     | false => rw [hd] at h; cases h
     | true =>
       rw [hd,cond_true] at h
       split at h
       · rename_i τ1 h1
         injection h with h; injection h with h2 h3; subst h2 h3
         have := runOps_draw (id := id) hm hT hS hSB hcall (q := fun i => (quietL T ops.toList).getD i false) hd h1 hl hz hr
         exact this
       · cases h
 | seq x y ihx ihy =>
   intro τ e τ' a w loc h hl hz hr
   unfold runC at h
   split at h
   · rename_i τ1 h1
     have hp1 := runC_pure hT hS hSB hcall _ _ _ _ h1
     have hp2 := runC_pure hT hS hSB hcall _ _ _ _ h
     refine wp_seq (wp_mono (ihx _ _ _ a w loc h1 hl (Nat.le_trans hp2.mono hz) hr) ?_)
     rintro e' a' w' ⟨rfl,loc',h2,h3⟩
     refine wp_mono (ihy _ _ _ a' w' loc' h (hp1.low hl) hz h2) ?_
     rintro e' a2 w2 ⟨rfl,loc2,h4,h5⟩
     exact ⟨rfl,loc2,h4,h3.trans h5 hp1.mono hp2.mono⟩
   · rename_i id τ1 h1
     injection h with h; injection h with h2 h3; subst h2 h3
     refine wp_seq (wp_mono (ihx _ _ _ a w loc h1 hl hz hr) ?_)
     rintro e' a' w' ⟨rfl,loc',h2,h3⟩
     exact ⟨rfl,loc',h2,h3⟩
   · rename_i τ1 h1
     injection h with h; injection h with h2 h3; subst h2 h3
     refine wp_seq (wp_mono (ihx _ _ _ a w loc h1 hl hz hr) ?_)
     rintro e' a' w' ⟨rfl,loc',h2,h3⟩
     exact ⟨rfl,loc',h2,h3⟩
   · cases h
 | cond c x y ihx ihy =>
   intro τ e τ' a w loc h hl hz hr
   have hv := ev_R hr.slots c
   rw [zfm] at hv
   unfold runC at h
   split at h
   · rename_i hc
     rw [hc] at hv
     exact wp_cond_true hv.wv (ihx _ _ _ a w loc h hl hz hr)
   · rename_i hc
     rw [hc] at hv
     exact wp_cond_false hv.wv (ihy _ _ _ a w loc h hl hz hr)
   · cases h
 | block id c ih =>
   intro τ e τ' a w loc h hl hz hr
   unfold runC at h
   split at h
   · rename_i id' τ1 h1
     split at h
     · rename_i he
       injection h with h; injection h with h2 h3; subst h2 h3
       refine wp_block (wp_mono (ih _ _ _ a w loc h1 hl hz hr) ?_)
       rintro e' a' w' ⟨rfl,loc',h2,h3⟩
       simp only [Exit.inBlock]
       rw [if_pos he]
       exact ⟨rfl,loc',h2,h3⟩
     · rename_i he
       injection h with h; injection h with h2 h3; subst h2 h3
       refine wp_block (wp_mono (ih _ _ _ a w loc h1 hl hz hr) ?_)
       rintro e' a' w' ⟨rfl,loc',h2,h3⟩
       simp only [Exit.inBlock]
       rw [if_neg he]
       exact ⟨rfl,loc',h2,h3⟩
   · rename_i τ1 h1
     injection h with h; injection h with h2 h3; subst h2 h3
     refine wp_block (wp_mono (ih _ _ _ a w loc h1 hl hz hr) ?_)
     rintro e' a' w' ⟨rfl,loc',h2,h3⟩
     exact ⟨rfl,loc',h2,h3⟩
   · rename_i τ1 h1
     injection h with h; injection h with h2 h3; subst h2 h3
     refine wp_block (wp_mono (ih _ _ _ a w loc h1 hl hz hr) ?_)
     rintro e' a' w' ⟨rfl,loc',h2,h3⟩
     exact ⟨rfl,loc',h2,h3⟩
   · cases h
 | loop c ih =>
   intro τ e τ' a w loc h hl hz hr
   unfold runC at h
   have hcp := runC_pure hT hS hSB hcall c
   let p : Act → World → Nat → Prop := fun a1 w1 k => ∃ τ1 loc1,loopN (runC T SB call c) k τ1 = some (e,τ') ∧ LowC τ1.H τ1.nx ∧ RelT Z w0 E loc1 τ1 a1 w1 ∧ Tn w loc τ.nx τ1.nx w1 loc1 ∧ τ.nx ≤ τ1.nx
   have hleast : ∀ a w,(∃ n,p a w n) → ∃ m,p a w m ∧ ∀ k,p a w k → m ≤ k := fun a w ⟨n,hn⟩ => let ⟨m,h1,_,h3⟩ := least n hn; ⟨m,h1,h3⟩
   open Classical in
   let μ : Act → World → Nat := fun a w => if h : ∃ n,p a w n then Classical.choose (hleast a w h) else 0
   refine wp_loop (fun a w => ∃ n,p a w n) μ ⟨_,τ,loc,h,hl,hr,Tn.refl _ _ _ _,Nat.le_refl _⟩ ?_
   intro a1 w1 hex
   have hμ : μ a1 w1 = Classical.choose (hleast a1 w1 hex) := dif_pos hex
   obtain ⟨hp,hmin⟩ := Classical.choose_spec (hleast a1 w1 hex)
   rw [← hμ] at hp hmin
   obtain ⟨τ1,loc1,h1,h2,h3,h4,h5⟩ := hp
   obtain ⟨k,hk⟩ : ∃ k,μ a1 w1 = k := ⟨_,rfl⟩
   rw [hk] at h1 hmin ⊢
   cases k with
   | zero => cases h1
   | succ k =>
     unfold loopN at h1
     split at h1
     · rename_i τ2 h6
       have hp1 := hcp _ _ _ h6
       have hp2 := loopN_pure hcp _ _ _ _ h1
       refine wp_mono (ih _ _ _ a1 w1 loc1 h6 h2 (Nat.le_trans hp2.mono hz) h3) ?_
       rintro e' a2 w2 ⟨rfl,loc2,h7,h8⟩
       have hp' : p a2 w2 k := ⟨τ2,loc2,h1,hp1.low h2,h7,h4.trans h8 h5 hp1.mono,Nat.le_trans h5 hp1.mono⟩
       refine ⟨⟨k,hp'⟩,?_⟩
       have hμ' : μ a2 w2 = Classical.choose (hleast a2 w2 ⟨k,hp'⟩) := dif_pos ⟨k,hp'⟩
       have := (Classical.choose_spec (hleast a2 w2 ⟨k,hp'⟩)).2 k hp'
       rw [← hμ'] at this
       omega
     · rename_i id τ2 h6
       injection h1 with h1; injection h1 with h9 h10; subst h9 h10
       refine wp_mono (ih _ _ _ a1 w1 loc1 h6 h2 hz h3) ?_
       rintro e' a2 w2 ⟨rfl,loc2,h7,h8⟩
       exact ⟨rfl,loc2,h7,h4.trans h8 h5 (hcp _ _ _ h6).mono⟩
     · rename_i τ2 h6
       injection h1 with h1; injection h1 with h9 h10; subst h9 h10
       refine wp_mono (ih _ _ _ a1 w1 loc1 h6 h2 hz h3) ?_
       rintro e' a2 w2 ⟨rfl,loc2,h7,h8⟩
       exact ⟨rfl,loc2,h7,h4.trans h8 h5 (hcp _ _ _ h6).mono⟩
     · cases h1
 | _ => intro τ e τ' a w loc h hl hz hr; cases h
end
theorem crvals_ok {T : zaa} {τ : CS} : ∀ {rs : List ResultVar} {l : List AV},crvals T τ rs = some l → (rvals T (toH τ.H) (toS τ.n τ.sl) rs).1 ∧ (rvals T (toH τ.H) (toS τ.n τ.sl) rs).2 = l
 | [],l,h => by injection h with h; exact ⟨trivial,h⟩
 | .tmp t :: r,l,h => by
   unfold crvals at h
   split at h
   · rename_i l' h1
     injection h with h; subst h
     obtain ⟨a,b⟩ := crvals_ok h1
     refine ⟨a,?_⟩
     have := zfm τ.n τ.sl (.tmp t)
     simp only [rvals,b]
     rw [← this]; rfl
   · cases h
 | .cell x t :: r,l,h => by
   unfold crvals at h
   split at h
   · rename_i l' h1
     split at h
     · rename_i y us h2
       injection h with h; subst h
       obtain ⟨a,b⟩ := crvals_ok h1
       obtain ⟨c,d,_⟩ := cLoad_ok (zal τ.H) _ _ h2
       have := zfm τ.n τ.sl (.tmp x)
       simp only [ev] at this
       rw [← this] at c d
       exact ⟨⟨c,a⟩,by simp only [rvals,b,d]⟩
     · cases h
   · cases h
theorem initK_ok {β : Type} : ∀ {xs : List AV} {k : Nat} {t : Tr AV} {κ : Tr AV → Option β} {z : β},initK xs k t κ = some z → ∃ t',κ t' = some z ∧ ∀ i,sget t' i = if k ≤ i ∧ i < k + xs.length then xs.getD (i - k) .junk else sget t i
 | [],k,t,κ,z,h => ⟨t,h,fun i => by rw [if_neg (by simp only [List.length_nil]; omega)]⟩
 | x :: r,k,t,κ,z,h => by
   unfold initK at h
   rw [force1_eq] at h
   cases hk : Nat.blt k most with
   | false => rw [hk] at h; cases h
   | true =>
     rw [hk,cond_true,zem] at h
     obtain ⟨t',h1,h2⟩ := initK_ok (xs := r) h
     refine ⟨t',h1,fun i => ?_⟩
     rw [h2 i]
     have hm := most_ok hk
     by_cases h3 : k + 1 ≤ i ∧ i < k + 1 + r.length
     · rw [if_pos h3,if_pos ⟨by omega,by simp only [List.length_cons]; omega⟩]
       have : i - k = (i - (k + 1)) + 1 := by omega
       rw [this]; simp
     · rw [if_neg h3]
       by_cases h4 : i = k
       · subst h4
         rw [if_pos ⟨Nat.le_refl _,by simp only [List.length_cons]; omega⟩]
         simp only [Nat.sub_self,sget]
         rw [get_set _ _ _ _ hm,if_pos rfl]
         simp
       · rw [if_neg (by simp only [List.length_cons]; omega)]
         simp only [sget]
         rw [get_set _ _ _ _ hm,if_neg h4]
theorem callN_ok {P : Program} {T : zaa} (hm : P.follows .mixedOrders = true) (hT : TOk P T) {S : zae} {SB : SpecB} (hS : Fns P S) (hSB : SpecBOk P S SB) : ∀ k,CallOk P (callN P T SB k)
 | 0 => by intro g args H nx x H' nz h; cases h
 | k + 1 => by
   intro g args H nx x H' nz h
   have ih := callN_ok hm hT hS hSB k
   unfold callN at h
   split at h
   · rename_i fn hfn
     split at h
     · rename_i c hbody
       cases hname : (fn.name == "runtime.NumGoroutine") with
       | true => rw [hname] at h; cases h
       | false =>
         rw [hname,cond_false] at h
         cases hle : Nat.ble args.length fn.ntmps with
         | false => rw [hle] at h; cases h
         | true =>
           rw [hle,cond_true] at h
           have hle := Nat.le_of_ble_eq_true hle
           obtain ⟨sl,h1,hsl⟩ := initK_ok h
           split at h1
           · rename_i e τ hrun
             cases he : isEnd e with
             | false => rw [he] at h1; cases h1
             | true =>
               rw [he,cond_true] at h1
               split at h1
               · rename_i l hl
                 injection h1 with h1; injection h1 with hx h1; injection h1 with hH hnz
                 subst hx hH hnz
                 have hp := runC_pure hT hS hSB ih c _ _ _ hrun
                 refine ⟨hp.mono,hp.new,⟨fn,hfn,by rw [hbody]; rfl,hname⟩,?_⟩
                 intro hlow w0 E w loc vs hlen hR hh henv hfree
                 refine calls_of_wp hfn hbody ?_
                 have hvs : vs.length ≤ fn.ntmps := by omega
                 have hrel : RelT τ.nx w0 E loc ⟨sl,fn.ntmps,H,nx⟩ { tmps := vs.toArray ++ Array.replicate (fn.ntmps - vs.toArray.size) undef,defers := [] } w := by
                   refine ⟨by rw [zbj]; simp; omega,fun t => ?_,hh,henv,hfree,rfl⟩
                   rw [slot_toS]
                   by_cases ht : t < fn.ntmps
                   · rw [if_pos ht,hsl t]
                     by_cases ht2 : t < args.length
                     · rw [if_pos ⟨Nat.zero_le _,by omega⟩]
                       have e1 : args.getD (t - 0) .junk = args[t] := by simp [ht2]
                       have e2 : (vs.toArray ++ Array.replicate (fn.ntmps - vs.toArray.size) undef).getD t undef = vs[t]'(by omega) := by
                         have : t < vs.length := by omega
                         simp [Array.getD_eq_getD_getElem?,Array.getElem?_append,this]
                       rw [e1,e2]
                       exact hR t ht2 _
                     · rw [if_neg (by omega)]
                       exact .junk _
                   · rw [if_neg ht]; exact .junk _
                 refine wp_mono (runC_ok hT hS hSB ih hm c _ _ _ _ w loc hrun hlow (Nat.le_refl _) hrel) ?_
                 rintro e' a' w' ⟨rfl,loc',h3,h4⟩
                 obtain ⟨hr1,hr2⟩ := crvals_ok hl
                 have hn := hp.n
                 obtain ⟨v,hv,hvR⟩ := results_R (P := P) (fn := fn) hT h3.heap h3.slots hr1
                 rw [hr2] at hvR
                 have hpost : PostW w0 E w loc nx τ.nx (rone l) (toH τ.H) v w' loc' := ⟨hvR,h3.heap,h3.env,h4⟩
                 cases e' with
                 | normal => exact ⟨h3.defers,v,hv,v,loc',rfl,hpost⟩
                 | ret => exact ⟨h3.defers,v,hv,v,loc',rfl,hpost⟩
                 | _ => cases he
               · cases h1
           · cases h1
     · cases h
   · cases h
end Ax
end Go.Proofs.Ytgdoekpkeclceaa
namespace Go.Proofs.Ytgdoekpkeclceaa
namespace Ax
structure Wr (α : Type) where
 v : α
abbrev CopF := Nat → (Operand → AV) → (Nat → Option Blk) → Option (AV × Us)
def cBuiltinS (T : zaa) (b : Builtin) (args : List Operand) (ts : List TypeId) : Wr CopF :=
 match b with
 | .len => match args,ts with
   | [x],[t] => ⟨fun _ e lk => cLen T t (e x) lk⟩
   | _,_ => ⟨fun _ _ _ => none⟩
 | .min => ⟨fun _ e _ => cMin (args.map e)⟩
 | .max => ⟨fun _ e _ => cMax (args.map e)⟩
 | .append => match args with
   | [d,x] => ⟨fun nm e lk => cAppend T nm ts (e d) (e x) lk⟩
   | _ => ⟨fun _ _ _ => none⟩
 | .delete => match args,ts with
   | [d,x],t :: _ => ⟨fun _ e lk => cDelete T t (e d) (e x) lk⟩
   | _,_ => ⟨fun _ _ _ => none⟩
 | .clear => match args,ts with
   | [x],[t] => ⟨fun _ e lk => cClear T t (e x) lk⟩
   | _,_ => ⟨fun _ _ _ => none⟩
 | .copy => match args with
   | [d,x] => ⟨fun _ e lk => cCopy T ts (e d) (e x) lk⟩
   | _ => ⟨fun _ _ _ => none⟩
 | _ => ⟨fun _ _ _ => none⟩
theorem cBuiltinS_eq (T : zaa) (nm : Nat) (sl : List AV) (b : Builtin) (args : List Operand) (ts : List TypeId) (e : Operand → AV) (lk : Nat → Option Blk) : (cBuiltinS T b args ts).v nm e lk = cBuiltin T nm sl b args ts e lk := by
 cases b <;> first | rfl | (rcases args with _ | ⟨x,_ | ⟨y,_ | ⟨z,r⟩⟩⟩ <;> rcases ts with _ | ⟨t,_ | ⟨u,v⟩⟩ <;> rfl)
def copS (T : zaa) (op : Op) : Wr CopF :=
 match op with
 | .move x => ⟨fun _ e _ => some (e x,[])⟩
 | .assign x => ⟨fun _ e _ => some (e x,[])⟩
 | .pick c a b => ⟨fun _ e _ => cPick (e c) (e a) (e b)⟩
 | .alloc t => ⟨fun nm _ _ => cAlloc T nm t⟩
 | .box t x => ⟨fun nm e _ => cBox T nm t (e x)⟩
 | .build t ps => ⟨fun _ e _ => cBuild T t (ps.toList.map fun p => (p.1,e p.2))⟩
 | .buildSlice t n ps => ⟨fun nm e _ => cBuildSlice T nm t n (ps.toList.map fun p => (p.1,e p.2))⟩
 | .load t a => ⟨fun _ e lk => cLoad T t (e a) lk⟩
 | .store t a x => ⟨fun _ e lk => cStore T t (e a) (e x) lk⟩
 | .nilCheck x => ⟨fun _ e lk => cNil (e x) lk⟩
 | .binOp op t x y _ => ⟨fun _ e lk => cBin T op t (e x) (e y) lk⟩
 | .unOp op _ x => ⟨fun _ e _ => cUn op (e x)⟩
 | .convert s d x => ⟨fun nm e lk => bif coldStr T d && isMsB (e x) then none else cConv T s d nm (e x) lk⟩
 | .makeSlice t l c => ⟨fun nm e _ => cMake T nm t (e l) (e c)⟩
 | .slice t x lo hi mx => ⟨fun _ e lk => bif mx.isSome && hi.isNone then none else cSlice T t (e x) (lo.map e) (hi.map e) (mx.map e) lk⟩
 | .fieldAddr s x f => ⟨fun _ e lk => cFieldAddr T s (e x) f lk⟩
 | .field t x f => ⟨fun _ e _ => cField T t (e x) f⟩
 | .indexAddr t x i => ⟨fun _ e lk => cIndexAddr T t (e x) (e i) lk⟩
 | .index t x i => ⟨fun _ e _ => cIndex T t (e x) (e i)⟩
 | .extract x i => ⟨fun _ e _ => cExtract (e x) i⟩
 | .makeFunc fn first caps => ⟨fun _ e _ => cFn fn first.toList (caps.toList.map e)⟩
 | .range t x => ⟨fun nm e lk => cRange T nm t (e x) lk⟩
 | .next x b => ⟨fun _ e lk => cNext (e x) b lk⟩
 | .makeMap _ r => ⟨fun nm _ _ => cMakeMap nm r⟩
 | .lookup t x k ok => ⟨fun _ e lk => cLookup T t (e x) (e k) ok lk⟩
 | .mapUpdate t x k v => ⟨fun _ e lk => cUpdate T t (e x) (e k) (e v) lk⟩
 | .entry x => ⟨fun _ e lk => cEntry (e x) lk⟩
 | .call c => match c.callee with
   | .builtin b => cBuiltinS T b c.args.toList c.argTypes.toList
   | _ => ⟨fun _ _ _ => none⟩
 | _ => ⟨fun _ _ _ => none⟩
theorem copS_eq (T : zaa) (nm : Nat) (e : Operand → AV) (lk : Nat → Option Blk) (op : Op) : (copS T op).v nm e lk = cop T nm e lk op := by
 cases op with
 | call c =>
   simp only [copS,cop]
   cases c.callee with
   | builtin b => exact cBuiltinS_eq T nm [] b _ _ e lk
   | _ => rfl
 | _ => rfl
def spS (op : Op) : Bool :=
 match op with
 | .binOp _ _ _ (.const (.slice none 0 0)) _ => true
 | .call c => match c.callee with
   | .builtin .append => true
   | _ => false
 | _ => false
theorem spS_no {T : zaa} {e : Operand → AV} {lk : Nat → Option Blk} {op : Op} (h : spS op = false) : cSp T e lk op = none ∧ truncOf e lk op = none := by
 constructor
 · unfold cSp
   split
   · rename_i b t x yt; simp [spS] at h
   · rfl
 · unfold truncOf
   split
   · rename_i c
     split
     · rename_i hc; simp [spS,hc] at h
     · rfl
   · rfl
def forceF {β : Type} (x : AV) (κ : AV → β) : β := match x with
 | .w v => forceW v fun v => κ (.w v)
 | .ms id s off len => zdk off fun off => zdk len fun len => κ (.ms id s off len)
 | .rf id s i f => zdk i fun i => zdk f fun f => κ (.rf id s i f)
 | .agg xs => forceM force0 xs fun xs => κ (.agg xs)
 | .str bs => forceL bs fun bs => κ (.str bs)
 | .tup xs => forceM force1 xs fun xs => κ (.tup xs)
 | .fn f xs => forceM force0 xs fun xs => κ (.fn f xs)
 | x => forceV x κ
theorem forceF_eq {β : Type} (x : AV) (κ : AV → β) : forceF x κ = κ x := by cases x <;> simp only [forceF,forceW_eq,zdj,forceL_eq,forceV_eq,zdl force0_eq,zdl force1_eq]
section
variable (T : zaa) (SB : SpecB)
abbrev ValF := zcn → CS → Option (AV × Tr Blk × Nat)
noncomputable def plainS (op : Op) : Wr ValF :=
 match copS T op with
 | ⟨f⟩ => match spS op with
   | true => ⟨fun _ τ => opPlain T τ op⟩
   | false => ⟨fun _ τ => match f τ.nx (evC τ.n τ.sl) τ.H.get with
     | some (x,us) => appK us τ.H fun H => zdk (τ.nx + 8) fun nz => some (x,H,nz)
     | none => none⟩
noncomputable def valS (q : Bool) (op : Op) : Wr ValF :=
 match op with
 | .call c => match c.callee with
   | .value f => ⟨fun call τ => opVal T SB call τ q (.call c)⟩
   | _ => plainS T (.call c)
 | op => plainS T op
theorem plainS_eq (call : zcn) (τ : CS) (op : Op) : (plainS T op).v call τ = opPlain T τ op := by
 unfold plainS
 have hc := copS_eq T τ.nx (evC τ.n τ.sl) τ.H.get op
 cases hf : copS T op with
 | mk f =>
   rw [hf] at hc
   cases hs : spS op with
   | true => rfl
   | false =>
     simp only
     unfold opPlain
     rw [(spS_no (T := T) hs).1,(spS_no (T := T) hs).2,← hc]
     rfl
theorem valS_eq (call : zcn) (q : Bool) (τ : CS) (op : Op) : (valS T SB q op).v call τ = opVal T SB call τ q op := by
 cases op with
 | call c =>
   simp only [valS]
   cases hc : c.callee with
   | value f => rfl
   | _ => simp only [opVal,hc]; exact plainS_eq T call τ (.call c)
 | _ => simp only [valS,opVal]; exact plainS_eq T call τ _
abbrev StepF := zcn → CS → Option CS
noncomputable def opRunS (q : Bool) (o : Oper) : Wr StepF :=
 match valS T SB q o.op with
 | ⟨f⟩ => match o.dst with
   | none => ⟨fun call τ => match f call τ with
     | some (x,H,nz) => some ⟨τ.sl,τ.n,H,nz⟩
     | none => none⟩
   | some d => ⟨fun call τ => match f call τ with
     | some (x,H,nz) => forceF x fun x => bif Nat.blt d τ.n && Nat.blt d most then Tr.setK τ.sl d (some x) fun sl => some ⟨sl,τ.n,H,nz⟩ else none
     | none => none⟩
theorem opRunS_eq (call : zcn) (q : Bool) (τ : CS) (o : Oper) : (opRunS T SB q o).v call τ = opRun T SB call τ q o := by
 unfold opRunS opRun
 have hv := valS_eq T SB call q τ o.op
 cases hf : valS T SB q o.op with
 | mk f =>
   rw [hf] at hv
   simp only at hv
   rw [← hv]
   cases hd : o.dst with
   | none =>
     simp only
     cases f call τ with
     | none => rfl
     | some r => obtain ⟨x,H,nz⟩ := r; simp only [forceV_eq,putK]
   | some d =>
     simp only
     cases f call τ with
     | none => rfl
     | some r => obtain ⟨x,H,nz⟩ := r; simp only [forceV_eq,forceF_eq,putK]
noncomputable def stepS (ops : List Oper) (q : Bool) (o : Oper) : Wr StepF :=
 match o.guard with
 | none => opRunS T SB q o
 | some (j,want) => match guardSlot ops j with
   | none => ⟨fun _ _ => none⟩
   | some d => match opRunS T SB q o with
     | ⟨f⟩ => ⟨fun call τ => match evC τ.n τ.sl (.tmp d) with
       | .w (.bool b) => bif b == want then f call τ else opSkip τ o
       | .tup [] => opSkip τ o
       | _ => none⟩
theorem stepS_eq (call : zcn) (ops : List Oper) (q : Bool) (τ : CS) (o : Oper) : (stepS T SB ops q o).v call τ = stepC T SB call ops q τ o := by
 unfold stepS stepC
 cases hg : o.guard with
 | none => exact opRunS_eq T SB call q τ o
 | some g =>
   obtain ⟨j,want⟩ := g
   simp only
   cases hs : guardSlot ops j with
   | none => rfl
   | some d =>
     simp only
     have hv := opRunS_eq T SB call q τ o
     cases hf : opRunS T SB q o with
     | mk f =>
       rw [hf] at hv
       simp only at hv ⊢
       rw [← hv]
       rfl
noncomputable def runOpsS (ops : List Oper) (q : Nat → Bool) : Nat → List Oper → Wr StepF
 | _,[] => ⟨fun _ τ => some τ⟩
 | k,o :: r => match stepS T SB ops (q k) o,runOpsS ops q (k + 1) r with
   | ⟨f⟩,⟨g⟩ => ⟨fun call τ => match f call τ with
     | some τ => g call τ
     | none => none⟩
theorem runOpsS_eq (call : zcn) (ops : List Oper) (q : Nat → Bool) : ∀ (k : Nat) (l : List Oper) (τ : CS),(runOpsS T SB ops q k l).v call τ = zfh T SB call ops q k l τ
 | _,[],τ => rfl
 | k,o :: r,τ => by
   unfold runOpsS zfh
   have h1 := fun τ => stepS_eq T SB call ops (q k) τ o
   have h2 := fun τ => runOpsS_eq call ops q (k + 1) r τ
   cases hf : stepS T SB ops (q k) o with
   | mk f =>
     cases hg : runOpsS T SB ops q (k + 1) r with
     | mk g =>
       rw [hf] at h1
       rw [hg] at h2
       simp only at h1 h2 ⊢
       rw [← h1]
       cases f call τ with
       | none => rfl
       | some τ => exact h2 τ
abbrev CodeF := zcn → CS → Option (Exit × CS)
noncomputable def codeS : Code → Wr CodeF
 | .skip => ⟨fun _ τ => some (.normal,τ)⟩
 | .label _ => ⟨fun _ τ => some (.normal,τ)⟩
 | .region _ ops draw => match draw with
   | true => match drawOkX (fun i => zck T ((quietL T ops.toList).getD i false)) ops.toList with
     | true => match runOpsS T SB ops.toList (fun i => (quietL T ops.toList).getD i false) 0 ops.toList with
       | ⟨f⟩ => ⟨fun call τ => match f call τ with | some τ => some (.normal,τ) | none => none⟩
     | false => ⟨fun _ _ => none⟩
   | false => match runOpsS T SB ops.toList (fun _ => false) 0 ops.toList with
     | ⟨f⟩ => ⟨fun call τ => match f call τ with | some τ => some (.normal,τ) | none => none⟩
 | .seq a b => match codeS a,codeS b with
   | ⟨f⟩,⟨g⟩ => ⟨fun call τ => match f call τ with
     | some (.normal,τ) => g call τ
     | some (.exit id,τ) => some (.exit id,τ)
     | some (.ret,τ) => some (.ret,τ)
     | _ => none⟩
 | .cond c a b => match codeS a,codeS b with
   | ⟨f⟩,⟨g⟩ => ⟨fun call τ => match evC τ.n τ.sl c with
     | .w (.bool true) => f call τ
     | .w (.bool false) => g call τ
     | _ => none⟩
 | .block id c => match codeS c with
   | ⟨f⟩ => ⟨fun call τ => match f call τ with
     | some (.exit id',τ) => if id' = id then some (.normal,τ) else some (.exit id',τ)
     | some (.normal,τ) => some (.normal,τ)
     | some (.ret,τ) => some (.ret,τ)
     | _ => none⟩
 | .loop c => match codeS c with
   | ⟨f⟩ => ⟨fun call τ => loopN (f call) 1000000 τ⟩
 | .exit id => ⟨fun _ τ => some (.exit id,τ)⟩
 | .ret => ⟨fun _ τ => some (.ret,τ)⟩
 | _ => ⟨fun _ _ => none⟩
theorem codeS_eq (call : zcn) : ∀ (c : Code) (τ : CS),(codeS T SB c).v call τ = runC T SB call c τ := by
 intro c
 induction c with
 | region id ops draw =>
   intro τ
   have key : ∀ q,(match runOpsS T SB ops.toList q 0 ops.toList with | ⟨f⟩ => (⟨fun call τ => match f call τ with | some τ => some (.normal,τ) | none => none⟩ : Wr CodeF)).v call τ = (match zfh T SB call ops.toList q 0 ops.toList τ with | some τ => some (.normal,τ) | none => none) := by
     intro q
     have h := runOpsS_eq T SB call ops.toList q 0 ops.toList τ
     cases hf : runOpsS T SB ops.toList q 0 ops.toList with
     | mk f =>
       rw [hf] at h
       simp only at h ⊢
       rw [h]
   unfold codeS runC
   cases draw with
   | false => exact key _
   | true =>
     simp only [cond_true]
     cases drawOkX (fun i => zck T ((quietL T ops.toList).getD i false)) ops.toList with
     | true => exact key _
     | false => rfl
 | seq a b iha ihb =>
   intro τ
   unfold codeS runC
   cases hf : codeS T SB a with
   | mk f =>
     cases hg : codeS T SB b with
     | mk g =>
       rw [hf] at iha
       rw [hg] at ihb
       simp only at iha ihb ⊢
       rw [← iha]
       cases f call τ with
       | none => rfl
       | some r =>
         obtain ⟨e,τ'⟩ := r
         cases e <;> first | rfl | exact ihb τ'
 | cond c a b iha ihb =>
   intro τ
   unfold codeS runC
   cases hf : codeS T SB a with
   | mk f =>
     cases hg : codeS T SB b with
     | mk g =>
       rw [hf] at iha
       rw [hg] at ihb
       simp only at iha ihb ⊢
       rw [← iha,← ihb]
       rfl
 | block id c ih =>
   intro τ
   unfold codeS runC
   cases hf : codeS T SB c with
   | mk f =>
     rw [hf] at ih
     simp only at ih ⊢
     rw [← ih]
     rfl
 | loop c ih =>
   intro τ
   unfold codeS runC
   cases hf : codeS T SB c with
   | mk f =>
     rw [hf] at ih
     simp only at ih ⊢
     have : f call = runC T SB call c := funext ih
     rw [this]
 | _ => intro τ; rfl
end
structure FnS where
 n : Nat
 f : CodeF
 rs : List ResultVar
noncomputable def funS (P : Program) (T : zaa) (SB : SpecB) (g : FuncId) : Option FnS :=
 match P.funcs[g]? with
 | some fn => match fn.body with
   | some c => match fn.name == "runtime.NumGoroutine" with
     | true => none
     | false => match codeS T SB c with
       | ⟨f⟩ => some ⟨fn.ntmps,f,fn.results.toList⟩
   | none => none
 | none => none
noncomputable def callS (P : Program) (T : zaa) (SB : SpecB) : Nat → zcn
 | 0,_,_,_,_ => none
 | k + 1,g,args,H,nx => match funS P T SB g with
   | some ⟨n,f,rs⟩ => bif Nat.ble args.length n then
       initK args 0 .leaf fun sl => match f (callS P T SB k) ⟨sl,n,H,nx⟩ with
         | some (e,τ) => bif isEnd e then (match crvals T τ rs with
             | some l => some (rone l,τ.H,τ.nx)
             | none => none) else none
         | none => none
       else none
   | none => none
theorem callS_eq (P : Program) (T : zaa) (SB : SpecB) : ∀ k,callS P T SB k = callN P T SB k
 | 0 => by funext g args H nx; rfl
 | k + 1 => by
   funext g args H nx
   unfold callS callN funS
   rw [callS_eq P T SB k]
   cases P.funcs[g]? with
   | none => rfl
   | some fn =>
     simp only
     cases fn.body with
     | none => rfl
     | some c =>
       simp only
       cases (fn.name == "runtime.NumGoroutine") with
       | true => rfl
       | false =>
         have h := codeS_eq T SB (callN P T SB k) c
         cases hf : codeS T SB c with
         | mk f =>
           rw [hf] at h
           simp only at h ⊢
           simp only [cond_false,h]
           rfl
end Ax
end Go.Proofs.Ytgdoekpkeclceaa
namespace Go.Proofs.Ytgdoekpkeclceaa
namespace Ax
def opq : AV := .ms 0 1 0 0
def locD (bad : Nat → Prop) : Loc := { m := fun id => if id = 0 then .dead else .free,bad }
theorem opq_R {w : World} {bad : Nat → Prop} {x v : Value} (h : R w (zaq [] bad) (.w x) v) : R w (locD bad) opq v := by
 have hv := h.wv
 subst hv
 cases h with
 | w _ h1 => exact .ms 0 1 0 0 _ (by unfold Owns locD; simpa using h1)
noncomputable def runTrue (P : Program) (T : zaa) (SB : SpecB) (k : Nat) (g : FuncId) (args : List AV) : Bool :=
 match callS P T SB k g args .leaf 8 with
 | some (.w (.bool true),_,_) => true
 | _ => false
theorem sound_of_run {P : Program} {T : zaa} (hm : P.follows .mixedOrders = true) (hT : TOk P T) {S : zae} {SB : SpecB} (hS : Fns P S) (hSB : SpecBOk P S SB) {k : Nat} {g : FuncId} {args : List AV} {spec : zam}
   (hs : ∀ xs pins,(spec xs pins).p → pins = [] ∧ xs.length = args.length ∧ (spec xs pins).x = .w (.bool true) ∧ (spec xs pins).bl = [] ∧ ∀ (w : World) (bad : Nat → Prop) (j : Nat) (h : j < xs.length) (h' : j < args.length) (v : Value),R w (zaq [] bad) xs[j] v → R w (locD bad) args[j] v)
   (h : runTrue P T SB k g args = true) : zbe P g spec := by
 unfold runTrue at h
 rw [callS_eq] at h
 split at h
 · rename_i H nz hc
   obtain ⟨_,_,_,h3⟩ := callN_ok hm hT hS hSB k _ _ _ _ _ _ _ hc
   intro xs pins hp _ w bad pb vs hlen hnd hbad hlies hxl hx
   obtain ⟨rfl,hxa,hx1,hbl,hR⟩ := hs xs pins hp
   obtain rfl : pb = [] := List.eq_nil_of_length_eq_zero hlen
   have hfree : ∀ id,(zaq [] bad).m id = .free := fun id => by simp [zaq]
   have hno : ∀ i b,(locD bad).m i ≠ .here b := fun i b h => by unfold locD at h; simp only at h; split at h <;> cases h
   have henv : Env w (· ∈ ([] : List Nat)) w (locD bad) := ⟨rfl,rfl,rfl,Nat.le_refl _,fun _ _ _ => rfl,fun i j b hi => (hno i b hi).elim,fun i b hi => (hno i b hi).elim,fun b hb => hbad b hb⟩
   refine (h3 (fun id b hb => by rw [zdw] at hb; cases hb) w _ w (locD bad) vs (by omega) (fun j hj hj' => hR w bad j (by omega) hj _ (hx j (by omega) hj')) (fun id b hb => by rw [zal,zdw] at hb; cases hb) henv (fun id h1 _ => by unfold locD; simp only; rw [if_neg (by omega)])).mono ?_
   rintro e w' ⟨v,loc',rfl,hq⟩
   have hv := hq.r.wv
   subst hv
   refine ⟨_,zaq [] bad,rfl,?_⟩
   refine ⟨by rw [hx1]; exact .w _ rfl,rfl,(fun k hk => by rw [hbl] at hk; simp at hk),(fun k hk => by simp at hk),(fun k b _ hb => by rw [hfree] at hb; cases hb),fun k _ => hfree k,(fun i j b hi => by rw [hfree] at hi; cases hi),?_⟩
   exact ⟨hq.env.os,hq.env.tape,hq.env.output,hq.env.size,hq.env.same,fun b cur e fz hE => by simp at hE⟩
 · cases h
end Ax
open Ax
theorem yes_with {S : zae} {SB : SpecB} (hS : Fns Try.prog S) (hSB : SpecBOk Try.prog S SB) {g : FuncId} (h : runTrue Try.prog ty SB 60 g [] = true) : zbe Try.prog g yesS :=
 sound_of_run zbs ty_ok hS hSB (fun xs pins hp => by
   unfold yesS at hp ⊢
   split at hp
   · exact ⟨rfl,rfl,rfl,rfl,fun w bad j h => by simp at h⟩
   · exact hp.elim) h
end Go.Proofs.Ytgdoekpkeclceaa
namespace Go.Proofs.Ytgdoekpkeclceaa
open Ax
def delS21 : zam
 | [.ms 0 4 0 n,.w (.int .i64 i),.w (.int .i64 j)],[.g 4 xs] => ⟨n = 1 ∧ xs.length = 1 ∧ i = 0 ∧ j = 1,.ms 0 4 0 0,[.g 4 []]⟩
 | _,_ => zbx
theorem z21_one : ∀ v ∈ z21,one v = true := by
 intro v hv
 simp only [z21,List.mem_cons,List.not_mem_nil,or_false] at hv
 rcases hv with rfl | rfl | rfl | rfl <;> rfl
theorem del21_sound : SoundO Try.prog 48 delS21 := by
 intro xs pins hp w bad pb vs hpb hnd hbad hpins hlen hxs
 unfold delS21 at hp ⊢
 split at hp
 · rename_i n i j ys
   obtain ⟨rfl,hy,rfl,rfl⟩ := hp
   obtain ⟨b,rfl⟩ : ∃ b,pb = [b] := by
     cases pb with
     | nil => simp at hpb
     | cons b r => cases r with
       | nil => exact ⟨b,rfl⟩
       | cons c r => simp at hpb
   obtain ⟨v,v1,v2,rfl⟩ : ∃ v v1 v2,vs = [v,v1,v2] := by
     match vs,hlen with
     | [v,v1,v2],_ => exact ⟨v,v1,v2,rfl⟩
   have hv : R w (zaq [b] bad) (.ms 0 4 0 1) v := hxs 0 (by simp) (by simp)
   have hv1 : R w (zaq [b] bad) (.w (.int .i64 0)) v1 := hxs 1 (by simp) (by simp)
   have hv2 : R w (zaq [b] bad) (.w (.int .i64 1)) v2 := hxs 2 (by simp) (by simp)
   obtain rfl := hv1.wv
   obtain rfl := hv2.wv
   have hm : (zaq [b] bad).m 0 = .here b := rfl
   cases hv with
   | ms _ _ _ _ _ h =>
     unfold Owns at h
     rw [hm] at h
     simp only at h
     obtain ⟨o,cap,cur,e,fz,rfl,ho,hcur,hsz,hle,hcap⟩ := h
     obtain rfl : o = 0 := by have := ho (by omega); omega
     have hok := (hpins 0 (by simp) (by simp)).1
     have hL := (hpins 0 (by simp) (by simp)).2
     obtain ⟨cur',e',fz',hcur',hfz,hone,hfl,hcells⟩ := hL.lies rfl
     have hb0 : ([b] : List Nat)[0] = b := rfl
     rw [hb0,hcur] at hcur'
     injection hcur' with hcur'
     injection hcur' with h1 h2 h3
     subst h1 h2 h3
     have h4 : 4 ≤ cur.size := by omega
     have hbs : b < w.heap.size := by
       rcases Nat.lt_or_ge b w.heap.size with h | h
       · exact h
       · rw [Array.getElem?_eq_none h] at hcur; cases hcur
     have hc := del1 w b cap (fun j hj => by simp [World.cell?,hcur,Array.getElem?_eq_getElem (show j < cur.size by omega)])
       (fun j hj => by
         have := fz_free hfz j (by omega)
         simp only [World.frozen?,hcur]
         simpa using this) hle hcap
     obtain ⟨w2,cu,r1,r2,r3,r4,r5,r6,r7,r8,r9⟩ := zbf (P := Try.prog) b 0 e fz z21 0 cur w.drew hcur (fz_free hfz) (by simp [z21]; omega) z21_one
     have hst := run_storeCells_cells (P := Try.prog) b 0 z21 0 w.drew (fun j hj => by
         have hj : j < 4 := hj
         show (w.cell? ⟨b,0 + 0 + j,none⟩).isSome = true
         simp [World.cell?,hcur,Array.getElem?_eq_getElem (show j < cur.size by omega)]) (fun j hj => by
         have hj : j < 4 := hj
         show w.frozen? ⟨b,0 + 0 + j,none⟩ = false
         have := fz_free hfz j (by omega)
         simp only [World.frozen?,hcur,Nat.zero_add]
         simpa using this) (fun v hv => z21_one v hv)
     rw [r1] at hst
     have hw2 : w2 = w.drew.setCells b 0 z21 := by injection hst
     refine Calls.mono hc ?_
     rintro e1 w' ⟨rfl,rfl⟩
     rw [← hw2]
     refine ⟨_,zaq [b] bad,rfl,?_⟩
     refine ⟨?_,rfl,?_,?_,?_,?_,?_,?_⟩
     · refine .ms _ _ _ _ _ ?_
       unfold Owns
       rw [hm]
       exact ⟨0,cap,cu,e,fz,rfl,fun _ => rfl,r2,by rw [r3]; exact hsz,Nat.zero_le _,hcap⟩
     · intro k' hk'
       have hk0 : k' = 0 := by simp at hk'; omega
       subst hk0
       refine .inr ⟨?_,by rw [hm]; simp,by rw [hm]; simp⟩
       unfold BlkR
       rw [hm]
       refine ⟨⟨by decide,by simp⟩,Lies.mkC ⟨cu,e,fz,r2,by rw [r3]; exact hfz,?_,?_,?_⟩⟩
       · intro j hj
         have hj' : j < cur.size := by omega
         have h9 := r9 j hj'
         rw [Array.getElem?_eq_getElem hj] at h9
         split at h9
         · rename_i hin
           obtain ⟨hlt,h10⟩ := List.getElem?_eq_some_iff.1 h9.symm
           rw [← h10]
           exact z21_one _ (List.getElem_mem hlt)
         · rw [Array.getElem?_eq_getElem hj'] at h9
           injection h9 with h9
           rw [h9]
           exact hone j hj'
       · show ([] : List AV).length ≤ cu.size
         simp
       · intro j hj hj'
         exact absurd hj (by show ¬ j < ([] : List AV).length; simp)
     · intro k' hk'
       have hk0 : k' = 0 := by simp at hk'; omega
       subst hk0; exact .inl rfl
     · intro k' b' h1 h2
       have h1 : 1 ≤ k' := h1
       have h3 : (zaq [b] bad).m k' = .free := by
         show (match ([b] : List Nat)[k']? with | some b => L.here b | none => L.free) = _
         rw [List.getElem?_eq_none (by simpa using h1)]
       rw [h3] at h2; cases h2
     · intro k' h1
       have h1 : 1 ≤ k' := h1
       show (match ([b] : List Nat)[k']? with | some b => L.here b | none => L.free) = _
       rw [List.getElem?_eq_none (by simpa using h1)]
     · intro i j b' h1 h2
       obtain ⟨g1,_⟩ := zbp h1
       obtain ⟨g2,_⟩ := zbp h2
       simp at g1 g2
       omega
     · refine ⟨r6,r7,r8,by rw [r5]; exact Nat.le_refl _,?_,?_⟩
       · intro b' hb' hne
         have hne : b' ≠ b := by simpa using hne
         exact r4 b' hne
       · intro b' c' e' f' hE hc'
         have hE : b' = b := by simpa using hE
         subst hE
         rw [hcur] at hc'
         injection hc' with hc'
         injection hc' with h1 h2 h3
         subst h1 h2 h3
         exact ⟨cu,fz,r2,r3⟩
 · exact hp.elim
def cloneS21 : zam
 | [.sg 4 [] true],[] => ⟨True,.sg 4 [] true,[]⟩
 | _,_ => zbx
theorem sg_true {w : World} {loc : Ax.Loc} {v : Value} {s : Nat} (s' : Nat) (h : R w loc (.sg s [] true) v) : R w loc (.sg s' [] true) v := by
 cases h with
 | sg _ _ _ a cap cs hd hs hc hl hx hh => exact .sg s' [] true a cap cs hd (by simp) hc hl hx hh
def clonePl21 : XPlan := fun id => match id with
 | 1 => .tst [false,true]
 | 3 => .tst [true,false,true]
 | _ => .std
set_option maxRecDepth 100000 in
set_option maxHeartbeats 1000000 in
theorem clone21_sound : zbe Try.prog 30 cloneS21 := by
 refine zed (S := noS) (SO := noO) (T := ty) zbs ty_ok zeq noO_ok Try.func30 (c := Try.f30.body.getD .skip) (by kernel_rfl) (fun xs pins hp _ => ?_)
 unfold cloneS21 at hp ⊢
 split at hp
 · refine ⟨by simp,clonePl21,by kernel_rfl,?_⟩
   unfold Try.f30
   simp only [go_sem,zac,Nat.reduceAdd,Nat.reduceSub,Nat.reduceMul,Int.reduceToNat,reduceCtorEq,↓reduceIte,Int.reducePow,Nat.reducePow,Int.reduceMod,Nat.reduceLeDiff,Int.reduceLE,Int.reduceNe,Int.reduceEq,Nat.reduceEqDiff,Nat.reduceLT,Nat.reduceBEq,List.map_cons,List.map_nil,List.toList_toArray,Array.toList_append,Option.toArray_some,Option.toArray_none,Bool.and_self,ty,noS,clonePl21,specOp,List.length_nil]
   repeat (refine And.intro (by omega) ?_)
   intro b
   refine ⟨fun hb => ?_,fun hb => ?_⟩
   · refine ⟨_,weak_slot 2 (.sg 4 [] true) (fun w loc v h => sg_true 4 h),?_⟩
     simp only [go_sem,zac,Nat.reduceAdd,Nat.reduceSub,Nat.reduceMul,Int.reduceToNat,reduceCtorEq,↓reduceIte,Int.reducePow,Nat.reducePow,Int.reduceMod,Nat.reduceLeDiff,Int.reduceLE,Int.reduceNe,Int.reduceEq,Nat.reduceEqDiff,Nat.reduceLT,Nat.reduceBEq,List.map_cons,List.map_nil,List.toList_toArray,Array.toList_append,Option.toArray_some,Option.toArray_none,Bool.and_self,ty,noS]
   · refine ⟨_,weak_slot 2 (.sg 4 [] true) (fun w loc v h => sg_true 4 h),?_⟩
     simp only [go_sem,zac,Nat.reduceAdd,Nat.reduceSub,Nat.reduceMul,Int.reduceToNat,reduceCtorEq,↓reduceIte,Int.reducePow,Nat.reducePow,Int.reduceMod,Nat.reduceLeDiff,Int.reduceLE,Int.reduceNe,Int.reduceEq,Nat.reduceEqDiff,Nat.reduceLT,Nat.reduceBEq,List.map_cons,List.map_nil,List.toList_toArray,Array.toList_append,Option.toArray_some,Option.toArray_none,Bool.and_self,ty,noS]
 · exact hp.elim
end Go.Proofs.Ytgdoekpkeclceaa
namespace Go.Proofs.Ytgdoekpkeclceaa
open Ax
def Sb21 (f : FuncId) : Option zam :=
 match f with
 | 30 => some cloneS21
 | _ => none
theorem Sb21_ok : Fns Try.prog Sb21 := by
 intro f s h
 unfold Sb21 at h
 split at h
 · injection h with h; subst h; exact ⟨⟨_,Try.func30,by kernel_rfl,by kernel_rfl⟩,clone21_sound⟩
 · cases h
def So21 (f : FuncId) : Option zam :=
 match f with
 | 48 => some delS21
 | _ => none
theorem So21_ok : FnsO Try.prog So21 := by
 intro f s h
 unfold So21 at h
 split at h
 · injection h with h; subst h; exact ⟨⟨_,Try.func48,by kernel_rfl,by kernel_rfl⟩,del21_sound⟩
 · cases h
noncomputable def hCl21 (A : List AV) (lk : Nat → Option Blk) (nm : Nat) : Option (AV × Us) :=
 match A with
 | [.sg s [] f] => bif Nat.beq s 4 && f then some (.sg 4 [] true,[]) else none
 | _ => none
noncomputable def hDe21 (A : List AV) (lk : Nat → Option Blk) (nm : Nat) : Option (AV × Us) :=
 match A with
 | [.ms id s off len,.w (.int .i64 (.ofNat i)),.w (.int .i64 (.ofNat j))] => bif Nat.beq s 4 && (Nat.beq off 0 && (Nat.beq len 1 && (Nat.beq i 0 && Nat.beq j 1))) then (match lk id with
     | some (.g t [x]) => bif Nat.beq t 4 && x.closed then some (.ms id 4 0 0,[(id,some (.g 4 []))]) else none
     | _ => none) else none
 | _ => none
noncomputable def B21 : SpecB := fun g => bif Nat.beq g 48 then some hDe21 else bif Nat.beq g 30 then some hCl21 else none
theorem B21_ok : SpecBOk Try.prog Sb21 B21 := by
 intro g h e
 unfold B21 at e
 cases h1 : Nat.beq g 48 with
 | true =>
   rw [h1,cond_true] at e
   injection e with e
   subst e
   have hg := Nat.eq_of_beq_eq_true h1
   subst hg
   refine .inr ⟨So21,So21_ok,fun A H lk nm hl x us hx => ?_⟩
   unfold hDe21 at hx
   split at hx
   · rename_i id s off len i j
     cases hc : (Nat.beq s 4 && (Nat.beq off 0 && (Nat.beq len 1 && (Nat.beq i 0 && Nat.beq j 1)))) with
     | false => rw [hc] at hx; cases hx
     | true =>
       rw [hc,cond_true] at hx
       simp only [Bool.and_eq_true] at hc
       obtain ⟨a1,a2,a3,a4,a5⟩ := hc
       have a1 := Nat.eq_of_beq_eq_true a1
       have a2 := Nat.eq_of_beq_eq_true a2
       have a3 := Nat.eq_of_beq_eq_true a3
       have a4 := Nat.eq_of_beq_eq_true a4
       have a5 := Nat.eq_of_beq_eq_true a5
       subst a1 a2 a3 a4 a5
       split at hx
       · rename_i t x0 hk
         cases hc : (Nat.beq t 4 && x0.closed) with
         | false => rw [hc] at hx; cases hx
         | true =>
           rw [hc,cond_true] at hx
           simp only [Bool.and_eq_true] at hc
           obtain ⟨b1,b2⟩ := hc
           have b1 := Nat.eq_of_beq_eq_true b1
           subst b1
           injection hx with hx
           injection hx with hx1 hx2
           subst hx1 hx2
           have hH : Ax.look H id = some (.g 4 [x0]) := by rw [hl]; exact hk
           have hi := closed_ids x0 b2
           have hS : So21 48 = some delS21 := rfl
           have hk : (Blk.g 4 [x0]).closed = true := by simp [Blk.closed,closedL,b2]
           have hr : reach H 12 [] [id] = [id] := by simp [reach,hH,Blk.idsB,hk]
           have hA : idsL [AV.ms id 4 0 1,AV.w (Value.int IntKind.i64 (Int.ofNat 0)),AV.w (Value.int IntKind.i64 (Int.ofNat 1))] = [id] := rfl
           unfold aOpen
           rw [hS,hA,hr]
           have hp : pinsR H (idxOf [id]) [id] = [.g 4 [x0]] := by simp [pinsR,hH,Blk.renB,hk]
           have hn : renL (idxOf [id]) [AV.ms id 4 0 1,AV.w (Value.int IntKind.i64 (Int.ofNat 0)),AV.w (Value.int IntKind.i64 (Int.ofNat 1))] = [AV.ms 0 4 0 1,AV.w (Value.int IntKind.i64 0),AV.w (Value.int IntKind.i64 1)] := by simp [renL,AV.ren,idxOf,idx]
           simp only [hp,hn,delS21,openOut]
           refine ⟨⟨⟨by simp [nodup],?_,by simp [allIn,idsL,AV.ids],?_⟩,by simp,by simp,by simp⟩,rfl,fun k => ?_⟩
           · simp [walk,sidsL,AV.sids,hH]
           · simp [pinsIn,hH,allIn,Blk.idsB,hk]
           · simp [backO,Blk.isGone,gOf,Blk.renB,Blk.closed,closedL,upd,zak,hl,eq_comm]
       · cases hx
   · cases hx
 | false =>
   rw [h1,cond_false] at e
   cases h2 : Nat.beq g 30 with
   | true =>
     rw [h2,cond_true] at e
     injection e with e
     subst e
     have hg := Nat.eq_of_beq_eq_true h2
     subst hg
     refine .inl fun A H lk nm hl x us hx => ?_
     unfold hCl21 at hx
     split at hx
     · rename_i s f
       cases hc : (Nat.beq s 4 && f) with
       | false => rw [hc] at hx; cases hx
       | true =>
         rw [hc,cond_true] at hx
         simp only [Bool.and_eq_true] at hc
         obtain ⟨b1,rfl⟩ := hc
         have b1 := Nat.eq_of_beq_eq_true b1
         subst b1
         injection hx with hx
         injection hx with hx1 hx2
         subst hx1 hx2
         have hS : Sb21 30 = some cloneS21 := rfl
         unfold aUser
         rw [hS]
         simp [callOut,rootsL,AV.roots,lentIdsL,AV.lentIds,pinsOf,nodup,lendL,lend,cloneS21,AV.ren,back,givenUp,dropAll,closedB,upd,hl]
     · cases hx
   | false =>
     rw [h2,cond_false] at e
     cases e
set_option maxRecDepth 100000 in
theorem aw21_sound : zbe Try.prog 7 yesS := yes_with Sb21_ok B21_ok (by kernel_rfl)
end Go.Proofs.Ytgdoekpkeclceaa
namespace Go.Proofs.Ytgdoekpkeclceaa
namespace Ax
theorem zeg {S : zae} {T : zaa} {ops : List Oper} {pl : List (Nat × Nat)} {Q Q' : List AV → Heap → Prop} (hq : ∀ sl H,Q sl H → Q' sl H) : ∀ (l : List Oper) (nm : Nat) (acc : List (Nat × List Nat)) (sl : List AV) (H : Heap),zfb S T ops pl nm acc l sl H Q → zfb S T ops pl nm acc l sl H Q'
 | [],nm,acc,sl,H,h => ⟨h.1,hq sl H h.2⟩
 | o :: r,nm,acc,sl,H,h => by
   unfold zfb at h ⊢
   cases hg : o.guard with
   | none => simp only [hg] at h ⊢; exact ⟨h.1,zeg hq r _ _ _ _ h.2⟩
   | some g =>
     obtain ⟨j,want⟩ := g
     simp only [hg] at h ⊢
     cases hs : guardSlot ops j with
     | none => simp [hs] at h
     | some d =>
       simp only [hs] at h ⊢
       split at h
       · exact ⟨fun e => ⟨(h.1 e).1,zeg hq r _ _ _ _ (h.1 e).2⟩,fun e => zeg hq r _ _ _ _ (h.2 e)⟩
       · exact zeg hq r _ _ _ _ h
       · exact h.elim
theorem aopsO_mono {S SO : zae} {T : zaa} {ops : List Oper} {Q Q' : List AV → Heap → Prop} (hq : ∀ sl H,Q sl H → Q' sl H) : ∀ (k nm : Nat) (l : List Oper) (sl : List AV) (H : Heap),aopsO S SO T ops k nm l sl H Q → aopsO S SO T ops k nm l sl H Q'
 | k,nm,[],sl,H,h => by unfold aopsO at h ⊢; exact hq _ _ h
 | 0,nm,o :: r,sl,H,h => by unfold aopsO at h ⊢; exact ⟨h.1,h.2.1,zcs hq _ _ _ _ h.2.2⟩
 | k + 1,nm,o :: r,sl,H,h => by unfold aopsO at h ⊢; exact ⟨h.1,h.2.1,aopsO_mono hq k _ r _ _ h.2.2⟩
theorem specOp_mono {T : zaa} {sl : List AV} {op : Op} {K K' : AV → Prop} (hk : ∀ x,K x → K' x) (h : specOp T sl op K) : specOp T sl op K' := by
 unfold specOp at h ⊢
 repeat' split at h
 all_goals first
   | exact h.elim
   | simp_all
theorem aopsT_mono {S : zae} {T : zaa} {ops : List Oper} {Q Q' : List AV → Heap → Prop} (hq : ∀ sl H,Q sl H → Q' sl H) : ∀ (k : List Bool) (nm : Nat) (l : List Oper) (sl : List AV) (H : Heap),aopsT S T ops k nm l sl H Q → aopsT S T ops k nm l sl H Q'
 | k,nm,[],sl,H,h => by unfold aopsT at h ⊢; exact hq _ _ h
 | [],nm,o :: r,sl,H,h => by unfold aopsT at h ⊢; exact zcs hq _ _ _ _ h
 | true :: k,nm,o :: r,sl,H,h => by unfold aopsT at h ⊢; exact ⟨h.1,specOp_mono (fun x hx => aopsT_mono hq k _ r _ _ hx) h.2⟩
 | false :: k,nm,o :: r,sl,H,h => by unfold aopsT at h ⊢; exact ⟨h.1,h.2.1,aopsT_mono hq k _ r _ _ h.2.2⟩
theorem frzK_mono {l : List Nat} {sl : List AV} {H : Heap} {K K' : List AV → Heap → Prop} (hk : ∀ sl H,K sl H → K' sl H) (h : frzK l sl H K) : frzK l sl H K' := ⟨h.1,hk _ _ h.2⟩
theorem awpO_mono {S SO : zae} {T : zaa} {pl : XPlan} : ∀ (c : Code) (Q Q' : Exit → ASt → Prop) (σ : ASt),(∀ e σ,Q e σ → Q' e σ) → awpO S SO T pl c Q σ → awpO S SO T pl c Q' σ := by
 intro c
 induction c with
 | skip => intro Q Q' σ hq h; exact hq _ _ h
 | label l => intro Q Q' σ hq h; exact hq _ _ h
 | region id ops draw =>
   intro Q Q' σ hq h
   simp only [awpO] at h ⊢
   split at h
   · exact zcs (fun _ _ h => hq _ _ h) _ _ _ _ h
   · exact zeg (fun _ _ h => hq _ _ h) _ _ _ _ _ h
   · exact frzK_mono (fun _ _ h => zcs (fun _ _ h => hq _ _ h) _ _ _ _ h) h
   · exact frzK_mono (fun _ _ h => aopsO_mono (fun _ _ h => hq _ _ h) _ _ _ _ _ h) h
   · exact aopsT_mono (fun _ _ h => hq _ _ h) _ _ _ _ _ h
   · obtain ⟨sl',H',hw,h⟩ := h
     exact ⟨sl',H',hw,zeg (fun _ _ h => hq _ _ h) _ _ _ _ _ h⟩
 | seq a b iha ihb =>
   intro Q Q' σ hq h
   refine iha _ _ σ ?_ h
   intro e σ h
   cases e with
   | normal => exact ihb _ _ σ hq h
   | _ => exact hq _ _ h
 | cond c a b iha ihb =>
   intro Q Q' σ hq h
   simp only [awpO] at h ⊢
   split at h
   · exact ⟨fun e => iha _ _ σ hq (h.1 e),fun e => ihb _ _ σ hq (h.2 e)⟩
   · exact h.elim
 | block id c ih =>
   intro Q Q' σ hq h
   refine ih _ _ σ ?_ h
   intro e σ h
   cases e with
   | exit id' =>
     simp only [zfo] at h ⊢
     split at h
     · rename_i he; rw [if_pos he]; exact hq _ _ h
     · rename_i he; rw [if_neg he]; exact hq _ _ h
   | _ => exact hq _ _ h
 | loop c ih =>
   intro Q Q' σ hq h
   obtain ⟨I,hst,hr⟩ := h
   refine ⟨I,hst,fun n σ' hI => ih _ _ σ' ?_ (hr n σ' hI)⟩
   intro e σ h
   cases e with
   | normal => exact h
   | _ =>
     obtain ⟨σ2,hw,h⟩ := h
     exact ⟨σ2,hw,hq _ _ h⟩
 | exit id => intro Q Q' σ hq h; exact hq _ _ h
 | ret => intro Q Q' σ hq h; exact hq _ _ h
 | _ => intro Q Q' σ hq h; exact h.elim
def unK (A : ASt → Prop) (Q : Exit → ASt → Prop) (e : Exit) (σ : ASt) : Prop := match e with
 | .normal => A σ
 | e => Q e σ
def unr (f : (Exit → ASt → Prop) → ASt → Prop) (Q : Exit → ASt → Prop) : Nat → ASt → Prop
 | 0,_ => False
 | n + 1,σ => f (unK (unr f Q n) Q) σ
theorem aloop_unr {f : (Exit → ASt → Prop) → ASt → Prop} {Q : Exit → ASt → Prop} (mono : ∀ (Q Q' : Exit → ASt → Prop) (σ : ASt),(∀ e σ,Q e σ → Q' e σ) → f Q σ → f Q' σ) (n : Nat) (σ : ASt) (h : unr f Q n σ) : ALoop f Q σ := by
 refine ⟨fun k τ => unr f Q k τ,⟨n,σ,Weak.refl _,h⟩,?_⟩
 intro k τ hI
 cases k with
 | zero => exact hI.elim
 | succ k =>
   refine mono _ _ τ ?_ hI
   intro e σ1 h1
   cases e with
   | normal => exact ⟨k,σ1,Nat.lt_succ_self k,Weak.refl _,h1⟩
   | _ => exact ⟨σ1,Weak.refl _,h1⟩
theorem awp_unr {S : zae} {T : zaa} {c : Code} {Q : Exit → ASt → Prop} {σ : ASt} (n : Nat) (h : unr (awp S T c) Q n σ) : awp S T (.loop c) Q σ :=
 awp_loopW (aloop_unr (fun Q Q' σ hq h => rawp_mono _ Q Q' σ hq h) n σ h)
theorem awpO_unr {S SO : zae} {T : zaa} {pl : XPlan} {c : Code} {Q : Exit → ASt → Prop} {σ : ASt} (n : Nat) (h : unr (awpO S SO T pl c) Q n σ) : awpO S SO T pl (.loop c) Q σ :=
 awpO_loopW (aloop_unr (fun Q Q' σ hq h => awpO_mono _ Q Q' σ hq h) n σ h)
theorem unr_go {S : zae} {T : zaa} {c : Code} {Q : Exit → ASt → Prop} {σ : ASt} {n : Nat} : unr (awp S T c) Q (n + 1) σ = awp S T c (unK (unr (awp S T c) Q n) Q) σ := rfl
theorem zcg {S SO : zae} {T : zaa} {pl : XPlan} {c : Code} {Q : Exit → ASt → Prop} {σ : ASt} {n : Nat} : unr (awpO S SO T pl c) Q (n + 1) σ = awpO S SO T pl c (unK (unr (awpO S SO T pl c) Q n) Q) σ := rfl
theorem zao {A : ASt → Prop} {Q : Exit → ASt → Prop} {σ : ASt} : unK A Q .normal σ = A σ := rfl
theorem zaz {A : ASt → Prop} {Q : Exit → ASt → Prop} {σ : ASt} {id : Nat} : unK A Q (.exit id) σ = Q (.exit id) σ := rfl
theorem zbo {A : ASt → Prop} {Q : Exit → ASt → Prop} {σ : ASt} : unK A Q .ret σ = Q .ret σ := rfl
end Ax
end Go.Proofs.Ytgdoekpkeclceaa
namespace Go.Proofs.Ytgdoekpkeclceaa
open Ax
def zfk (g t : List UInt8) : Bool := decide (g.length ≤ 60) && decide (t.length ≤ 60)
def light21S : zam
 | [.sg 4 [.agg [.str g,.str t,.w (.int .i64 i),.w (.int .i64 o)]] f],[] => ⟨True,.w (.bool (zfk g t)),[]⟩
 | _,_ => zbx
theorem w21_ends {T : zaa} {sl : List AV} {H : Heap} {nx : Nat} {v : Value} {q : Prop} (i : Nat) (h : slot sl i = .w v) : EndsW T [.tmp i] [] ⟨q,.w v,[]⟩ .ret ⟨sl,H,nx⟩ := by
 refine ⟨_,Weak.refl _,?_⟩
 simp only [Ax.Ends,Ax.rvals,EndsX,rone,h,AV.ids,idsL,newIds,upTo,nodup,pinsOf,List.nil_append,AV.ren,and_self]
section
set_option maxRecDepth 100000
set_option maxHeartbeats 4000000 in
theorem light21_sound : zbe Try.prog 5 light21S := by
 refine zav (S := noS) (T := ty) zbs ty_ok zeq Try.func5 (c := Try.f5.body.getD .skip) (by kernel_rfl) (by kernel_rfl) (fun xs pins hp _ => ?_)
 unfold light21S at hp ⊢
 split at hp
 · rename_i g t i o f _
   refine ⟨by simp,?_⟩
   unfold Try.f5
   have q1 : decide ((0 : Int) < ((1 : Nat) : Int)) = true := rfl
   have q2 : decide ((1 : Int) < ((1 : Nat) : Int)) = false := rfl
   have q3 : decide ((30 : Int) < ((1 : Nat) : Int)) = false := rfl
   have t0 : (0 : Int).toNat = 0 := rfl
   by_cases h1 : g.length ≤ 60
   · have d1 : decide ((60 : Int) < (g.length : Int)) = false := decide_eq_false (by omega)
     by_cases h2 : t.length ≤ 60
     · have d2 : decide ((60 : Int) < (t.length : Int)) = false := decide_eq_false (by omega)
       have hl : zfk g t = true := by unfold zfk; rw [decide_eq_true h1,decide_eq_true h2]; rfl
       simp only [go_sem,zab,Nat.reduceAdd,Nat.reduceSub,Nat.reduceMul,Int.reduceToNat,reduceCtorEq,↓reduceIte,Int.reducePow,Nat.reducePow,Int.reduceMod,Nat.reduceLeDiff,Int.reduceLE,Int.reduceNe,Int.reduceEq,Nat.reduceEqDiff,Nat.reduceLT,Nat.reduceBEq,ty,noS,q1,q2,q3,t0,List.length_cons,List.length_nil,Nat.zero_add]
       refine awp_unr 2 ?_
       simp only [go_sem,zab,Nat.reduceAdd,Nat.reduceSub,Nat.reduceMul,Int.reduceToNat,reduceCtorEq,↓reduceIte,Int.reducePow,Nat.reducePow,Int.reduceMod,Nat.reduceLeDiff,Int.reduceLE,Int.reduceNe,Int.reduceEq,Nat.reduceEqDiff,Nat.reduceLT,Nat.reduceBEq,ty,noS,unr_go,zao,zaz,zbo,q1,q2,q3,t0,d1,d2,hl,slot,Int.reduceAdd,Int.reduceSub,List.length_cons,List.length_nil,Nat.zero_add]
     · have d2 : decide ((60 : Int) < (t.length : Int)) = true := decide_eq_true (by omega)
       have hl : zfk g t = false := by unfold zfk; rw [decide_eq_true h1,decide_eq_false h2]; rfl
       simp only [go_sem,zab,Nat.reduceAdd,Nat.reduceSub,Nat.reduceMul,Int.reduceToNat,reduceCtorEq,↓reduceIte,Int.reducePow,Nat.reducePow,Int.reduceMod,Nat.reduceLeDiff,Int.reduceLE,Int.reduceNe,Int.reduceEq,Nat.reduceEqDiff,Nat.reduceLT,Nat.reduceBEq,ty,noS,q1,q2,q3,t0,List.length_cons,List.length_nil,Nat.zero_add]
       refine awp_unr 2 ?_
       simp only [go_sem,zab,Nat.reduceAdd,Nat.reduceSub,Nat.reduceMul,Int.reduceToNat,reduceCtorEq,↓reduceIte,Int.reducePow,Nat.reducePow,Int.reduceMod,Nat.reduceLeDiff,Int.reduceLE,Int.reduceNe,Int.reduceEq,Nat.reduceEqDiff,Nat.reduceLT,Nat.reduceBEq,ty,noS,unr_go,zao,zaz,zbo,q1,q2,q3,t0,d1,d2,hl,slot,Int.reduceAdd,Int.reduceSub,List.length_cons,List.length_nil,Nat.zero_add]
   · have d1 : decide ((60 : Int) < (g.length : Int)) = true := decide_eq_true (by omega)
     have hl : zfk g t = false := by unfold zfk; rw [decide_eq_false h1]; rfl
     simp only [go_sem,zab,Nat.reduceAdd,Nat.reduceSub,Nat.reduceMul,Int.reduceToNat,reduceCtorEq,↓reduceIte,Int.reducePow,Nat.reducePow,Int.reduceMod,Nat.reduceLeDiff,Int.reduceLE,Int.reduceNe,Int.reduceEq,Nat.reduceEqDiff,Nat.reduceLT,Nat.reduceBEq,ty,noS,q1,q2,q3,t0,List.length_cons,List.length_nil,Nat.zero_add]
     refine awp_unr 2 ?_
     simp only [go_sem,zab,Nat.reduceAdd,Nat.reduceSub,Nat.reduceMul,Int.reduceToNat,reduceCtorEq,↓reduceIte,Int.reducePow,Nat.reducePow,Int.reduceMod,Nat.reduceLeDiff,Int.reduceLE,Int.reduceNe,Int.reduceEq,Nat.reduceEqDiff,Nat.reduceLT,Nat.reduceBEq,ty,noS,unr_go,zao,zaz,zbo,q1,q2,q3,t0,d1,hl,slot,Int.reduceAdd,Int.reduceSub,List.length_cons,List.length_nil,Nat.zero_add]
 · exact hp.elim
end
theorem arg_com {x : AV} (h : Arg ty 6 23 x) : ∃ (g t : List UInt8) (i o : Int),x = .agg [.str g,.str t,.w (.int .i64 i),.w (.int .i64 o)] := by
 obtain ⟨i,ls,hi,hs,rfl⟩ := h
 simp only [ty] at hi
 injection hi with hi
 subst hi
 simp only [Shape,ty,ShapeF] at hs
 obtain ⟨l1,r1,rfl,⟨m1,rfl,w1⟩,l2,r2,rfl,⟨m2,rfl,w2⟩,l3,r3,rfl,⟨m3,rfl,w3⟩,l4,r4,rfl,⟨m4,rfl,w4⟩,rfl⟩ := hs
 exact ⟨m1,m2,m3,m4,rfl⟩
theorem arg_int21 {x : AV} (h : Arg ty 6 3 x) : ∃ m : Int,x = .w (.int .i64 m) := by
 obtain ⟨i,ls,hi,hs,rfl⟩ := h
 simp only [ty] at hi
 injection hi with hi
 subst hi
 simp only [Shape,ty,ShapeF] at hs
 obtain ⟨m,rfl,_⟩ := hs
 exact ⟨m,rfl⟩
end Go.Proofs.Ytgdoekpkeclceaa
namespace Go.Proofs.Ytgdoekpkeclceaa
namespace Ax
mutual
def AV.fq (id : Nat) (s0 : Nat) (ls : List AV) : AV → AV
 | .agg xs => .agg (fqL id s0 ls xs)
 | .tup xs => .tup (fqL id s0 ls xs)
 | .fn f cs => .fn f (fqL id s0 ls cs)
 | .rf k s i f => bif k == id then (bif s == s0 && (i == 0 && f == 0) then .cp ls else .rf k s i f) else .rf k s i f
 | x => x
def fqL (id : Nat) (s0 : Nat) (ls : List AV) : List AV → List AV
 | [] => []
 | x :: xs => x.fq id s0 ls :: fqL id s0 ls xs
end
theorem zex (id : Nat) (s0 : Nat) (ls : List AV) : ∀ (xs : List AV),(fqL id s0 ls xs).length = xs.length ∧ ∀ (j : Nat) (h : j < (fqL id s0 ls xs).length) (h' : j < xs.length),(fqL id s0 ls xs)[j] = xs[j].fq id s0 ls
 | [] => ⟨rfl,fun j h => by simp [fqL] at h⟩
 | x :: xs => by
   obtain ⟨h1,h2⟩ := zex id s0 ls xs
   refine ⟨by simp [fqL,h1],fun j h h' => ?_⟩
   cases j with
   | zero => rfl
   | succ j => exact h2 j (by simpa [fqL] using h) (by simpa using h')
theorem fq_leaf {id : Nat} {s0 : Nat} {ls : List AV} {x : AV} (h : x.leaf = true) : (x.fq id s0 ls).leaf = true := by
 cases x <;> first | exact h | (simp [AV.leaf] at h; done) | skip
 simp only [AV.fq]
 cases (_ == id) with
 | false => rfl
 | true =>
   simp only [cond_true]
   cases (_ && _ : Bool) <;> rfl
theorem fq_R {w : World} {loc : Loc} {id : Nat} {s0 : Nat} {ls : List AV} {y0 : AV} (hs0 : 0 < s0) (hy0 : y0.leaves = ls) (hn0 : ls ≠ []) (hcl : closedL ls = true) (hor : ∃ b,loc.m id = .here b ∧ b < w.heap.size ∧ Lies w loc (.g s0 [y0]) b ∧ (∀ k,loc.m k = .here b → k = id) ∧ ¬ loc.bad b) {x : AV} {v : Value} (h : R w loc x v) : R w (loc.set id .dead) (x.fq id s0 ls) v := by
 have hM : ∀ c,Mut (loc.set id .dead) c → Mut loc c := by
   rintro c (h | ⟨k,h⟩)
   · exact .inl h
   · by_cases hk : k = id
     · subst hk; rw [Loc.set_same] at h; cases h
     · rw [Loc.set_other _ _ hk] at h; exact .inr ⟨k,h⟩
 have hC : ∀ {a cs},Cells w loc a cs → Cells w (loc.set id .dead) a cs := fun h => h.move (fun b _ hm => hM b hm)
 induction h with
 | w v h => exact .w v h
 | str bs => exact .str bs
 | agg xs cs hl hx _ ih =>
   obtain ⟨h1,h2⟩ := zex id s0 ls xs
   refine .agg _ cs (by rw [h1,hl]) (fun j hj => ?_) (fun j a b => ?_)
   · rw [h2 j hj (by rw [← h1]; exact hj)]; exact fq_leaf (hx j _)
   · rw [h2 j a (by rw [← h1]; exact a)]; exact ih j _ b
 | tup xs cs hl _ ih =>
   obtain ⟨h1,h2⟩ := zex id s0 ls xs
   refine .tup _ cs (by rw [h1,hl]) (fun j a b => ?_)
   rw [h2 j a (by rw [← h1]; exact a)]; exact ih j _ b
 | sb bs full a cap hd hc => exact .sb bs full a cap hd (hC hc)
 | si ns full a cap hd hc => exact .si ns full a cap hd (hC hc)
 | sg s xs full a cap cs hd hs hc hl hx h _ => exact .sg s xs full a cap cs hd hs (hC hc) hl hx (fun j a b => (h j a b).move (fun b _ hm => hM b hm) (hx j a).2)
 | cp ls a cs hc hn hl hx h _ => exact .cp ls a cs (hC hc) hn hl hx (fun j a b => (h j a b).move (fun b _ hm => hM b hm) (hx j a).2)
 | ms k s off len v h =>
   refine .ms _ _ _ _ _ ?_
   by_cases hk : k = id
   · subst hk; unfold Owns; rw [Loc.set_same]; exact h.one
   · unfold Owns at h ⊢; rw [Loc.set_other _ _ hk]; exact h
 | rf k s i f v h =>
   have hkeep : R w (loc.set id .dead) (.rf k s i f) v := by
     refine .rf _ _ _ _ _ ?_
     by_cases hk : k = id
     · subst hk; unfold Points; rw [Loc.set_same]; exact h.one
     · unfold Points at h ⊢; rw [Loc.set_other _ _ hk]; exact h
   simp only [AV.fq]
   by_cases hk : k = id
   · subst hk
     simp only [beq_self_eq_true,cond_true]
     cases hc : (s == s0 && (i == 0 && f == 0)) with
     | false => exact hkeep
     | true =>
       simp only [cond_true]
       simp only [Bool.and_eq_true,beq_iff_eq] at hc
       obtain ⟨rfl,rfl,rfl⟩ := hc
       obtain ⟨b,hb,hlt,hl,hinj,hnb⟩ := hor
       unfold Points at h
       rw [hb] at h
       subst h
       rw [zbb (by omega)]
       obtain ⟨cur,e,fz,hh,hf,hone,hfl,hr⟩ := hl.lies
       have hF : (Blk.g s [y0]).flat = ls := by simp [Blk.flat,hy0]
       have hr' : ∀ (j : Nat) (hj : j < ls.length) (hj' : j < cur.size),ls[j].leaf = true ∧ R w loc ls[j] cur[j] := by
         intro j hj hj'
         have hx := hr j (by rw [hF]; exact hj) hj'
         have e1 : (Blk.g s [y0]).flat[j]'(by rw [hF]; exact hj) = ls[j] := by simp only [hF]
         rw [e1] at hx
         exact hx
       rw [hF] at hfl
       have hlen : (cur.toList.take ls.length).length = ls.length := by simp; omega
       refine .cp ls ⟨b,0 * s + 0,none⟩ (cur.toList.take ls.length) ⟨.inr ⟨b,0 * s + 0,rfl,?_,hlt,fun j hj => ?_⟩⟩ ?_ hlen.symm (fun j hj => ⟨(hr' j hj (by omega)).1,zat hcl j hj⟩) (fun j x y => ?_)
       · rintro (hq | ⟨i,hq⟩)
         · exact hnb hq
         · by_cases hk : i = k
           · subst hk; rw [Loc.set_same] at hq; cases hq
           · rw [Loc.set_other _ _ hk] at hq; exact hk (hinj i hq)
       · have hj0 : j < cur.size := by omega
         simp only [World.cell?,hh,Nat.zero_mul,Nat.zero_add,Array.getElem?_eq_getElem hj0,List.getElem_take,Array.getElem_toList]
         rfl
       · intro e
         rw [e] at hlen
         exact hn0 (List.eq_nil_of_length_eq_zero hlen.symm)
       · rw [List.getElem_take,Array.getElem_toList]
         exact (hr' j x (by omega)).2.move (fun b _ hm => hM b hm) (zat hcl j x)
   · have : (k == id) = false := by simpa using hk
     rw [this]; exact hkeep
 | fn f caps cs hl _ ih =>
   obtain ⟨h1,h2⟩ := zex id s0 ls caps
   refine .fn f _ cs (by rw [h1,hl]) (fun j a b => ?_)
   rw [h2 j a (by rw [← h1]; exact a)]; exact ih j _ b
 | junk v => exact .junk v
def Blk.fq (id : Nat) (s0 : Nat) (ls : List AV) : Blk → Blk
 | .g s xs => .g s (fqL id s0 ls xs)
 | .b cs => .b cs
 | .i ns => .i ns
 | .o x => .o x
theorem odd_fq {id : Nat} {s0 : Nat} {ls : List AV} {b : Blk} : (b.fq id s0 ls).odd = b.odd := by cases b <;> rfl
def fqH (id : Nat) (s0 : Nat) (ls : List AV) : Heap → Heap
 | [] => []
 | p :: r => bif p.1 == id then fqH id s0 ls r else (p.1,p.2.fq id s0 ls) :: fqH id s0 ls r
theorem leaves_fq (id : Nat) (s0 : Nat) (ls : List AV) (x : AV) : (x.fq id s0 ls).leaves = fqL id s0 ls x.leaves := by
 cases x <;> first | rfl | skip
 simp only [AV.fq,AV.leaves,fqL]
 cases (_ == id) with
 | false => rfl
 | true =>
   simp only [cond_true]
   cases (_ && _ : Bool) <;> rfl
theorem fqL_append (id : Nat) (s0 : Nat) (ls : List AV) : ∀ (xs ys : List AV),fqL id s0 ls (xs ++ ys) = fqL id s0 ls xs ++ fqL id s0 ls ys
 | [],_ => rfl
 | x :: xs,ys => by simp [fqL,fqL_append id s0 ls xs ys]
theorem flat_fq (id : Nat) (s0 : Nat) (ls : List AV) (b : Blk) : (b.fq id s0 ls).flat = fqL id s0 ls b.flat := by
 cases b with
 | b cs =>
   simp only [Blk.fq,Blk.flat]
   induction cs with
   | nil => rfl
   | cons c r ih => simp only [List.map_cons,fqL,AV.fq]; rw [← ih]
 | o x => rfl
 | i ns =>
   simp only [Blk.fq,Blk.flat]
   induction ns with
   | nil => rfl
   | cons c r ih => simp only [List.map_cons,fqL,AV.fq]; rw [← ih]
 | g s xs =>
   simp only [Blk.fq,Blk.flat]
   induction xs with
   | nil => rfl
   | cons c r ih => simp only [fqL,List.flatMap_cons,fqL_append]; rw [ih,leaves_fq]
theorem ok_fq {id : Nat} {s0 : Nat} {ls : List AV} {b : Blk} (h : b.ok) : (b.fq id s0 ls).ok := by
 cases b with
 | g s xs =>
   obtain ⟨h1,h2⟩ := h
   refine ⟨h1,fun x hx => ?_⟩
   obtain ⟨j,hj,rfl⟩ := List.getElem_of_mem hx
   obtain ⟨h3,h4⟩ := zex id s0 ls xs
   rw [h4 j hj (by rw [← h3]; exact hj),leaves_fq,(zex id s0 ls _).1]
   exact h2 _ (List.getElem_mem _)
 | _ => trivial
theorem len_fq {id : Nat} {s0 : Nat} {ls : List AV} {b : Blk} : (b.fq id s0 ls).len = b.len := by
 cases b with
 | g s xs => exact (zex id s0 ls xs).1
 | _ => rfl
theorem fqH_get {id : Nat} {s0 : Nat} {ls : List AV} : ∀ {H : Heap} {k : Nat} {b : Blk},look (fqH id s0 ls H) k = some b → k ≠ id ∧ ∃ c,look H k = some c ∧ b = c.fq id s0 ls
 | [],k,b,h => by simp [fqH,look] at h
 | p :: r,k,b,h => by
   have e : look (p :: r) k = if p.1 = k then some p.2 else look r k := zak r p.1 k p.2
   unfold fqH at h
   by_cases hp : p.1 = id
   · have : (p.1 == id) = true := by simpa using hp
     rw [this] at h
     obtain ⟨h1,c,h2,h3⟩ := fqH_get h
     exact ⟨h1,c,by rw [e,if_neg (by omega)]; exact h2,h3⟩
   · have : (p.1 == id) = false := by simpa using hp
     rw [this] at h
     have e2 : look ((p.1,p.2.fq id s0 ls) :: fqH id s0 ls r) k = if p.1 = k then some (p.2.fq id s0 ls) else look (fqH id s0 ls r) k := zak (fqH id s0 ls r) p.1 k _
     simp only [cond_false] at h
     rw [e2] at h
     split at h
     · rename_i hk
       injection h with h
       exact ⟨by omega,p.2,by rw [e,if_pos hk],h.symm⟩
     · rename_i hk
       obtain ⟨h1,c,h2,h3⟩ := fqH_get h
       exact ⟨h1,c,by rw [e,if_neg hk]; exact h2,h3⟩
theorem slot_fqL {id : Nat} {s0 : Nat} {ls : List AV} : ∀ (sl : List AV) (t : Nat),slot (fqL id s0 ls sl) t = (slot sl t).fq id s0 ls
 | [],t => rfl
 | x :: xs,0 => rfl
 | x :: xs,t + 1 => slot_fqL xs t
theorem rel_fq {w0 : World} {E : Nat → Prop} {B : Bs} {w : World} {loc : Loc} {a : Act} {sl : List AV} {H : Heap} {nx : Nat} (id : Nat) (s0 : Nat) (ls : List AV) {y0 : AV} (hl : look H id = some (.g s0 [y0])) (hs0 : 0 < s0) (hy0 : y0.leaves = ls) (hn0 : ls ≠ []) (hcl : closedL ls = true) (hB : Base w0 B w loc) (hr : Rel' w0 E loc ⟨sl,H,nx⟩ a w) (hlive : loc.m id ≠ .free) : Rel w0 E B ⟨fqL id s0 ls sl,fqH id s0 ls H,nx⟩ a w := by
 have hblk := hr.heap id _ hl
 have hor : ∃ b,loc.m id = .here b ∧ b < w.heap.size ∧ Lies w loc (.g s0 [y0]) b ∧ (∀ k,loc.m k = .here b → k = id) ∧ ¬ loc.bad b := by
   unfold BlkR at hblk
   cases e : loc.m id with
   | free => exact (hlive e).elim
   | dead => rw [e] at hblk; exact hblk.elim
   | nil => rw [e] at hblk; exact absurd hblk.2 (by simp [Blk.len])
   | here b =>
     rw [e] at hblk
     have h1 := hr.env.lies id b e
     refine ⟨b,rfl,h1.1,hblk.2,fun k hk => hr.env.inj k id b hk e,fun hb => ?_⟩
     have h2 := hr.env.bad b hb
     rcases h1.2 with h3 | h3
     · omega
     · exact h2.2 h3
 have hset : ∀ {k c},(loc.set id .dead).m k = .here c → loc.m k = .here c := by
   intro k c h
   by_cases hk : k = id
   · subst hk; rw [Loc.set_same] at h; cases h
   · rwa [Loc.set_other _ _ hk] at h
 refine ⟨loc.set id .dead,⟨hB.1,hB.2.1,fun k hk => ?_⟩,⟨?_,fun t => ?_,?_,⟨hr.env.os,hr.env.tape,hr.env.output,hr.env.size,hr.env.same,fun i j b h1 h2 => hr.env.inj i j b (hset h1) (hset h2),fun i b h1 => hr.env.lies i b (hset h1),hr.env.bad⟩,?_,hr.defers,?_⟩⟩
 · by_cases hne : k = id
   · subst hne; left; rw [Loc.set_same]
   · rw [Loc.set_other _ _ hne]; exact hB.2.2 k hk
 · rw [hr.size]; exact ((zex id s0 ls sl).1).symm
 · simp only; rw [slot_fqL]; exact fq_R hs0 hy0 hn0 hcl hor (hr.slots t)
 · intro k b hk
   obtain ⟨h1,c,h2,rfl⟩ := fqH_get hk
   have h3 := hr.heap k c h2
   unfold BlkR at h3 ⊢
   rw [Loc.set_other _ _ h1]
   split
   · trivial
   · rename_i e; rw [e] at h3; exact h3
   · rename_i e; rw [e] at h3; exact ⟨ok_fq h3.1,by rw [len_fq]; exact h3.2⟩
   · rename_i d e
     rw [e] at h3
     rcases zaw c with ⟨x,hx,rfl⟩ | hodd
     · exact ⟨ok_fq h3.1,.mkO (Thing.move (loc := loc) (fun c _ hM => hM.imp (fun h => h) (fun ⟨k,h⟩ => ⟨k,hset h⟩)) (h3.2.is hx)) rfl⟩
     obtain ⟨cur,el,fi,g1,g2,g3,g4,g5⟩ := h3.2.lies hodd
     have hlen : (c.fq id s0 ls).flat.length = c.flat.length := by rw [flat_fq,(zex id s0 ls _).1]
     refine ⟨ok_fq h3.1,.mkC ⟨cur,el,fi,g1,g2,g3,by omega,fun j x y => ?_⟩ (odd_fq.trans hodd)⟩
     have h6 := g5 j (by omega) y
     have e : (c.fq id s0 ls).flat[j] = (c.flat[j]'(by omega)).fq id s0 ls := by
       have := (zex id s0 ls c.flat).2 j (by rw [(zex id s0 ls _).1]; omega) (by omega)
       rw [← this]
       congr 1
       exact flat_fq id s0 ls c
     rw [e]
     exact ⟨fq_leaf h6.1,fq_R hs0 hy0 hn0 hcl hor h6.2⟩
 · intro k hk
   by_cases hne : k = id
   · exact (hlive (hne ▸ hr.fresh k hk)).elim
   · rw [Loc.set_other _ _ hne]; exact hr.fresh k hk
 · intro k b hk
   obtain ⟨h1,c,h2,rfl⟩ := fqH_get hk
   exact hr.low k c h2
theorem weak_fq {sl : List AV} {H : Heap} {nx : Nat} (id i : Nat) (s0 : Nat) (ls : List AV) {y0 : AV} (hl : look H id = some (.g s0 [y0])) (hs0 : 0 < s0) (hy0 : y0.leaves = ls) (hn0 : ls ≠ []) (hcl : closedL ls = true) (hi : id ∈ (slot sl i).ids) : Weak ⟨sl,H,nx⟩ ⟨fqL id s0 ls sl,fqH id s0 ls H,nx⟩ := by
 rintro w0 E B a w ⟨loc,hB,hr⟩
 exact rel_fq id s0 ls hl hs0 hy0 hn0 hcl hB hr (zdf _ _ (hr.slots i) hi)
end Ax
end Go.Proofs.Ytgdoekpkeclceaa
namespace Go.Proofs.Ytgdoekpkeclceaa
open Ax
theorem lt00 : decide ((0:Int) < ((0:Nat):Int)) = false := rfl
theorem lt01 : decide ((0:Int) < ((1:Nat):Int)) = true := rfl
def sameK (g t : List UInt8) (i : Int) (g2 t2 : List UInt8) (i2 : Int) : Bool := decide (g = g2) && (decide (t = t2) && decide (i = i2))
def smkS : zam
 | [.agg [.str g,.str t,.w (.int .i64 i),.w (.int .i64 o)],.agg [.str g2,.str t2,.w (.int .i64 i2),.w (.int .i64 o2)]],[] => ⟨True,.w (.bool (sameK g t i g2 t2 i2)),[]⟩
 | _,_ => zbx
section
set_option maxRecDepth 100000
set_option maxHeartbeats 2000000
theorem smk_sound : zbe Try.prog 34 smkS := by
 refine zav (S := noS) (T := ty) zbs ty_ok zeq Try.func34 (c := Try.f34.body.getD .skip) (by kernel_rfl) (by kernel_rfl) (fun xs pins hp _ => ?_)
 unfold smkS at hp ⊢
 split at hp
 · rename_i g t i o g2 t2 i2 o2 _
   refine ⟨by simp,?_⟩
   unfold Try.f34
   unfold sameK
   by_cases h1 : g = g2 <;> by_cases h2 : t = t2 <;> by_cases h3 : i = i2
   all_goals simp only [go_sem,coe,zab,Nat.reduceAdd,Nat.reduceSub,Nat.reduceMul,Int.reduceToNat,reduceCtorEq,↓reduceIte,Int.reducePow,Nat.reducePow,Int.reduceMod,Nat.reduceLeDiff,Int.reduceLE,Int.reduceNe,Int.reduceEq,Nat.reduceEqDiff,Nat.reduceLT,Nat.reduceBEq,ty,noS,h1,h2,h3,decide_true,decide_false,Bool.true_and,Bool.false_and,Bool.and_true,Bool.and_false,Bool.and_self]
 · exact hp.elim
def zdn (f : FuncId) : Option zam :=
 match f with
 | 34 => some smkS
 | _ => none
theorem Ssk21_ok : Fns Try.prog zdn := by
 intro f s h
 unfold zdn at h
 split at h
 · injection h with h; subst h; exact ⟨⟨_,Try.func34,by kernel_rfl,by kernel_rfl⟩,smk_sound⟩
 · cases h
def clo21S : zam
 | [.agg [.str g,.str t,.w (.int .i64 i),.w (.int .i64 o)],.rf 0 4 0 0],[.g 4 [.agg [.str g2,.str t2,.w (.int .i64 i2),.w (.int .i64 o2)]]] => ⟨True,.w (.bool (sameK g t i g2 t2 i2)),[.g 4 [.agg [.str g2,.str t2,.w (.int .i64 i2),.w (.int .i64 o2)]]]⟩
 | _,_ => zbx
def zcp : XPlan := fun _ => .std
theorem clo21_sound : SoundO Try.prog 47 clo21S := by
 refine fn_soundO (S := zdn) (SO := noO) (T := ty) zbs ty_ok Ssk21_ok noO_ok Try.func47 (c := Try.f47.body.getD .skip) (by kernel_rfl) (fun xs pins hp => ?_)
 unfold clo21S at hp ⊢
 split at hp
 · rename_i g t i o g2 t2 i2 o2
   refine ⟨by simp,zcp,by kernel_rfl,?_⟩
   unfold Try.f47
   simp only [go_sem,zac,Nat.reduceAdd,Nat.reduceSub,Nat.reduceMul,Int.reduceToNat,reduceCtorEq,↓reduceIte,Int.reducePow,Nat.reducePow,Int.reduceMod,Nat.reduceLeDiff,Int.reduceLE,Int.reduceNe,Int.reduceEq,Nat.reduceEqDiff,Nat.reduceLT,Nat.reduceBEq,List.map_cons,List.map_nil,List.toList_toArray,Array.toList_append,Option.toArray_some,Option.toArray_none,Bool.and_self,ty,zdn,smkS,zcp]
   try (refine ⟨_,Weak.refl _,?_⟩)
   try (simp only [go_sem,zac,Nat.reduceAdd,Nat.reduceSub,Nat.reduceMul,Int.reduceToNat,reduceCtorEq,↓reduceIte,Int.reducePow,Nat.reducePow,Int.reduceMod,Nat.reduceLeDiff,Int.reduceLE,Int.reduceNe,Int.reduceEq,Nat.reduceEqDiff,Nat.reduceLT,Nat.reduceBEq,List.map_cons,List.map_nil,List.toList_toArray,Array.toList_append,Option.toArray_some,Option.toArray_none,Bool.and_self,ty,zdn,smkS,zcp])
 · exact hp.elim
theorem clf21_sound : SoundO Try.prog 33 clo21S := by
 refine fn_soundO (S := zdn) (SO := noO) (T := ty) zbs ty_ok Ssk21_ok noO_ok Try.func33 (c := Try.f33.body.getD .skip) (by kernel_rfl) (fun xs pins hp => ?_)
 unfold clo21S at hp ⊢
 split at hp
 · rename_i g t i o g2 t2 i2 o2
   refine ⟨by simp,zcp,by kernel_rfl,?_⟩
   unfold Try.f33
   simp only [go_sem,zac,Nat.reduceAdd,Nat.reduceSub,Nat.reduceMul,Int.reduceToNat,reduceCtorEq,↓reduceIte,Int.reducePow,Nat.reducePow,Int.reduceMod,Nat.reduceLeDiff,Int.reduceLE,Int.reduceNe,Int.reduceEq,Nat.reduceEqDiff,Nat.reduceLT,Nat.reduceBEq,List.map_cons,List.map_nil,List.toList_toArray,Array.toList_append,Option.toArray_some,Option.toArray_none,Bool.and_self,ty,zdn,smkS,zcp]
   try (refine ⟨_,Weak.refl _,?_⟩)
   try (simp only [go_sem,zac,Nat.reduceAdd,Nat.reduceSub,Nat.reduceMul,Int.reduceToNat,reduceCtorEq,↓reduceIte,Int.reducePow,Nat.reducePow,Int.reduceMod,Nat.reduceLeDiff,Int.reduceLE,Int.reduceNe,Int.reduceEq,Nat.reduceEqDiff,Nat.reduceLT,Nat.reduceBEq,List.map_cons,List.map_nil,List.toList_toArray,Array.toList_append,Option.toArray_some,Option.toArray_none,Bool.and_self,ty,zdn,smkS,zcp])
 · exact hp.elim
def Sclo21 (f : FuncId) : Option zam :=
 match f with
 | 47 => some clo21S
 | 33 => some clo21S
 | _ => none
theorem Sclo21_ok : FnsO Try.prog Sclo21 := by
 intro f s h
 unfold Sclo21 at h
 split at h
 · injection h with h; subst h; exact ⟨⟨_,Try.func47,by kernel_rfl,by kernel_rfl⟩,clo21_sound⟩
 · injection h with h; subst h; exact ⟨⟨_,Try.func33,by kernel_rfl,by kernel_rfl⟩,clf21_sound⟩
 · cases h
def zeo : zam
 | [.sg 4 [] f,.fn F [.rf 0 4 0 0]],[.g 4 [.agg [.str g2,.str t2,.w (.int .i64 i2),.w (.int .i64 o2)]]] => ⟨True,.w (.int .i64 0),[.g 4 [.agg [.str g2,.str t2,.w (.int .i64 i2),.w (.int .i64 o2)]]]⟩
 | [.sg 4 [.agg [.str g,.str t,.w (.int .i64 i),.w (.int .i64 o)]] f,.fn F [.rf 0 4 0 0]],[.g 4 [.agg [.str g2,.str t2,.w (.int .i64 i2),.w (.int .i64 o2)]]] => ⟨F = 33 ∧ sameK g t i g2 t2 i2 = true,.w (.int .i64 0),[.g 4 [.agg [.str g2,.str t2,.w (.int .i64 i2),.w (.int .i64 o2)]]]⟩
 | [.ms 0 4 0 n,.fn F [.rf 1 4 0 0]],[.g 4 [.agg [.str g,.str t,.w (.int .i64 i),.w (.int .i64 o)]],.g 4 [.agg [.str g2,.str t2,.w (.int .i64 i2),.w (.int .i64 o2)]]] => ⟨n = 1 ∧ F = 47 ∧ sameK g t i g2 t2 i2 = true,.w (.int .i64 0),[.g 4 [.agg [.str g,.str t,.w (.int .i64 i),.w (.int .i64 o)]],.g 4 [.agg [.str g2,.str t2,.w (.int .i64 i2),.w (.int .i64 o2)]]]⟩
 | _,_ => zbx
def zbh : XPlan := fun id => match id with
 | 4 => .opn [] 2
 | _ => .std
theorem seek21_sound : SoundO Try.prog 32 zeo := by
 refine fn_soundO (S := zdn) (SO := Sclo21) (T := ty) zbs ty_ok Ssk21_ok Sclo21_ok Try.func32 (c := Try.f32.body.getD .skip) (by kernel_rfl) (fun xs pins hp => ?_)
 unfold zeo at hp ⊢
 split at hp
 · refine ⟨by simp,zbh,by kernel_rfl,?_⟩
   unfold Try.f32
   simp only [go_sem,zac,Nat.reduceAdd,Nat.reduceSub,Nat.reduceMul,Int.reduceToNat,reduceCtorEq,↓reduceIte,Int.reducePow,Nat.reducePow,Int.reduceMod,Nat.reduceLeDiff,Int.reduceLE,Int.reduceNe,Int.reduceEq,Nat.reduceEqDiff,Nat.reduceLT,Nat.reduceBEq,List.map_cons,List.map_nil,List.toList_toArray,Array.toList_append,Option.toArray_some,Option.toArray_none,Bool.and_self,ty,zdn,zbh]
   refine awpO_unr 1 ?_
   simp only [go_sem,zac,Nat.reduceAdd,Nat.reduceSub,Nat.reduceMul,Int.reduceToNat,reduceCtorEq,↓reduceIte,Int.reducePow,Nat.reducePow,Int.reduceMod,Nat.reduceLeDiff,Int.reduceLE,Int.reduceNe,Int.reduceEq,Nat.reduceEqDiff,Nat.reduceLT,Nat.reduceBEq,List.map_cons,List.map_nil,List.toList_toArray,Array.toList_append,Option.toArray_some,Option.toArray_none,Bool.and_self,ty,zdn,zbh,zcg,zao,zaz,zbo,lt00,lt01]
   try (refine ⟨_,Weak.refl _,?_⟩)
   try (simp only [go_sem,zac,Nat.reduceAdd,Nat.reduceSub,Nat.reduceMul,Int.reduceToNat,reduceCtorEq,↓reduceIte,Int.reducePow,Nat.reducePow,Int.reduceMod,Nat.reduceLeDiff,Int.reduceLE,Int.reduceNe,Int.reduceEq,Nat.reduceEqDiff,Nat.reduceLT,Nat.reduceBEq,List.map_cons,List.map_nil,List.toList_toArray,Array.toList_append,Option.toArray_some,Option.toArray_none,Bool.and_self,ty,zdn,zbh,zcg,zao,zaz,zbo])
   try (refine ⟨_,Weak.refl _,?_⟩)
   try (simp only [go_sem,zac,Nat.reduceAdd,Nat.reduceSub,Nat.reduceMul,Int.reduceToNat,reduceCtorEq,↓reduceIte,Int.reducePow,Nat.reducePow,Int.reduceMod,Nat.reduceLeDiff,Int.reduceLE,Int.reduceNe,Int.reduceEq,Nat.reduceEqDiff,Nat.reduceLT,Nat.reduceBEq,List.map_cons,List.map_nil,List.toList_toArray,Array.toList_append,Option.toArray_some,Option.toArray_none,Bool.and_self,ty,zdn,zbh,zcg,zao,zaz,zbo])
   rfl
 · rename_i g t i o f F g2 t2 i2 o2
   obtain ⟨rfl,hs⟩ := hp
   refine ⟨by simp,zbh,by kernel_rfl,?_⟩
   unfold Try.f32
   simp only [go_sem,zac,Nat.reduceAdd,Nat.reduceSub,Nat.reduceMul,Int.reduceToNat,reduceCtorEq,↓reduceIte,Int.reducePow,Nat.reducePow,Int.reduceMod,Nat.reduceLeDiff,Int.reduceLE,Int.reduceNe,Int.reduceEq,Nat.reduceEqDiff,Nat.reduceLT,Nat.reduceBEq,List.map_cons,List.map_nil,List.toList_toArray,Array.toList_append,Option.toArray_some,Option.toArray_none,Bool.and_self,ty,zdn,zbh]
   refine awpO_unr 1 ?_
   simp only [go_sem,zac,Nat.reduceAdd,Nat.reduceSub,Nat.reduceMul,Int.reduceToNat,reduceCtorEq,↓reduceIte,Int.reducePow,Nat.reducePow,Int.reduceMod,Nat.reduceLeDiff,Int.reduceLE,Int.reduceNe,Int.reduceEq,Nat.reduceEqDiff,Nat.reduceLT,Nat.reduceBEq,List.map_cons,List.map_nil,List.toList_toArray,Array.toList_append,Option.toArray_some,Option.toArray_none,Bool.and_self,ty,zdn,Sclo21,clo21S,hs,zbh,zcg,zao,zaz,zbo,lt00,lt01]
   try (refine ⟨_,Weak.refl _,?_⟩)
   try (simp only [go_sem,zac,Nat.reduceAdd,Nat.reduceSub,Nat.reduceMul,Int.reduceToNat,reduceCtorEq,↓reduceIte,Int.reducePow,Nat.reducePow,Int.reduceMod,Nat.reduceLeDiff,Int.reduceLE,Int.reduceNe,Int.reduceEq,Nat.reduceEqDiff,Nat.reduceLT,Nat.reduceBEq,List.map_cons,List.map_nil,List.toList_toArray,Array.toList_append,Option.toArray_some,Option.toArray_none,Bool.and_self,ty,zdn,zbh,zcg,zao,zaz,zbo])
   try (refine ⟨_,Weak.refl _,?_⟩)
   try (simp only [go_sem,zac,Nat.reduceAdd,Nat.reduceSub,Nat.reduceMul,Int.reduceToNat,reduceCtorEq,↓reduceIte,Int.reducePow,Nat.reducePow,Int.reduceMod,Nat.reduceLeDiff,Int.reduceLE,Int.reduceNe,Int.reduceEq,Nat.reduceEqDiff,Nat.reduceLT,Nat.reduceBEq,List.map_cons,List.map_nil,List.toList_toArray,Array.toList_append,Option.toArray_some,Option.toArray_none,Bool.and_self,ty,zdn,zbh,zcg,zao,zaz,zbo])
 · rename_i n F g t i o g2 t2 i2 o2
   obtain ⟨rfl,rfl,hs⟩ := hp
   refine ⟨by simp,zbh,by kernel_rfl,?_⟩
   unfold Try.f32
   simp only [go_sem,zac,Nat.reduceAdd,Nat.reduceSub,Nat.reduceMul,Int.reduceToNat,reduceCtorEq,↓reduceIte,Int.reducePow,Nat.reducePow,Int.reduceMod,Nat.reduceLeDiff,Int.reduceLE,Int.reduceNe,Int.reduceEq,Nat.reduceEqDiff,Nat.reduceLT,Nat.reduceBEq,List.map_cons,List.map_nil,List.toList_toArray,Array.toList_append,Option.toArray_some,Option.toArray_none,Bool.and_self,ty,zdn,zbh]
   refine awpO_unr 1 ?_
   simp only [go_sem,zac,Nat.reduceAdd,Nat.reduceSub,Nat.reduceMul,Int.reduceToNat,reduceCtorEq,↓reduceIte,Int.reducePow,Nat.reducePow,Int.reduceMod,Nat.reduceLeDiff,Int.reduceLE,Int.reduceNe,Int.reduceEq,Nat.reduceEqDiff,Nat.reduceLT,Nat.reduceBEq,List.map_cons,List.map_nil,List.toList_toArray,Array.toList_append,Option.toArray_some,Option.toArray_none,Bool.and_self,ty,zdn,Sclo21,clo21S,hs,zbh,zcg,zao,zaz,zbo,lt00,lt01]
   try (refine ⟨_,Weak.refl _,?_⟩)
   try (simp only [go_sem,zac,Nat.reduceAdd,Nat.reduceSub,Nat.reduceMul,Int.reduceToNat,reduceCtorEq,↓reduceIte,Int.reducePow,Nat.reducePow,Int.reduceMod,Nat.reduceLeDiff,Int.reduceLE,Int.reduceNe,Int.reduceEq,Nat.reduceEqDiff,Nat.reduceLT,Nat.reduceBEq,List.map_cons,List.map_nil,List.toList_toArray,Array.toList_append,Option.toArray_some,Option.toArray_none,Bool.and_self,ty,zdn,zbh,zcg,zao,zaz,zbo])
   try (refine ⟨_,Weak.refl _,?_⟩)
   try (simp only [go_sem,zac,Nat.reduceAdd,Nat.reduceSub,Nat.reduceMul,Int.reduceToNat,reduceCtorEq,↓reduceIte,Int.reducePow,Nat.reducePow,Int.reduceMod,Nat.reduceLeDiff,Int.reduceLE,Int.reduceNe,Int.reduceEq,Nat.reduceEqDiff,Nat.reduceLT,Nat.reduceBEq,List.map_cons,List.map_nil,List.toList_toArray,Array.toList_append,Option.toArray_some,Option.toArray_none,Bool.and_self,ty,zdn,zbh,zcg,zao,zaz,zbo])
 · exact hp.elim
def seekq21S : zam
 | [.sg 4 [] f,.fn F [.cp ls]],[] => ⟨True,.w (.int .i64 0),[]⟩
 | _,_ => zbx
theorem seekq21_sound : zbe Try.prog 32 seekq21S := by
 refine zed (S := zdn) (SO := noO) (T := ty) zbs ty_ok Ssk21_ok noO_ok Try.func32 (c := Try.f32.body.getD .skip) (by kernel_rfl) (fun xs pins hp _ => ?_)
 unfold seekq21S at hp ⊢
 split at hp
 · refine ⟨by simp,zcp,by kernel_rfl,?_⟩
   unfold Try.f32
   simp only [go_sem,zac,Nat.reduceAdd,Nat.reduceSub,Nat.reduceMul,Int.reduceToNat,reduceCtorEq,↓reduceIte,Int.reducePow,Nat.reducePow,Int.reduceMod,Nat.reduceLeDiff,Int.reduceLE,Int.reduceNe,Int.reduceEq,Nat.reduceEqDiff,Nat.reduceLT,Nat.reduceBEq,List.map_cons,List.map_nil,List.toList_toArray,Array.toList_append,Option.toArray_some,Option.toArray_none,Bool.and_self,ty,zdn,zcp]
   refine awpO_unr 1 ?_
   simp only [go_sem,zac,Nat.reduceAdd,Nat.reduceSub,Nat.reduceMul,Int.reduceToNat,reduceCtorEq,↓reduceIte,Int.reducePow,Nat.reducePow,Int.reduceMod,Nat.reduceLeDiff,Int.reduceLE,Int.reduceNe,Int.reduceEq,Nat.reduceEqDiff,Nat.reduceLT,Nat.reduceBEq,List.map_cons,List.map_nil,List.toList_toArray,Array.toList_append,Option.toArray_some,Option.toArray_none,Bool.and_self,ty,zdn,zcp,zcg,zao,zaz,zbo,lt00,lt01]
   try (refine ⟨_,Weak.refl _,?_⟩)
   try (simp only [go_sem,zac,Nat.reduceAdd,Nat.reduceSub,Nat.reduceMul,Int.reduceToNat,reduceCtorEq,↓reduceIte,Int.reducePow,Nat.reducePow,Int.reduceMod,Nat.reduceLeDiff,Int.reduceLE,Int.reduceNe,Int.reduceEq,Nat.reduceEqDiff,Nat.reduceLT,Nat.reduceBEq,List.map_cons,List.map_nil,List.toList_toArray,Array.toList_append,Option.toArray_some,Option.toArray_none,Bool.and_self,ty,zdn,zcp,zcg,zao,zaz,zbo])
   try (refine ⟨_,Weak.refl _,?_⟩)
   try (simp only [go_sem,zac,Nat.reduceAdd,Nat.reduceSub,Nat.reduceMul,Int.reduceToNat,reduceCtorEq,↓reduceIte,Int.reducePow,Nat.reducePow,Int.reduceMod,Nat.reduceLeDiff,Int.reduceLE,Int.reduceNe,Int.reduceEq,Nat.reduceEqDiff,Nat.reduceLT,Nat.reduceBEq,List.map_cons,List.map_nil,List.toList_toArray,Array.toList_append,Option.toArray_some,Option.toArray_none,Bool.and_self,ty,zdn,zcp,zcg,zao,zaz,zbo])
   rfl
 · exact hp.elim
end
end Go.Proofs.Ytgdoekpkeclceaa
namespace Go.Proofs.Ytgdoekpkeclceaa
open Ax
def Sseek21 (f : FuncId) : Option zam :=
 match f with
 | 32 => some zeo
 | _ => none
theorem Sseek21_ok : FnsO Try.prog Sseek21 := by
 intro f s h
 unfold Sseek21 at h
 split at h
 · injection h with h; subst h; exact ⟨⟨_,Try.func32,by kernel_rfl,by kernel_rfl⟩,seek21_sound⟩
 · cases h
def find21S : zam
 | [.sg 4 [] f,.str g,.str t,.w (.int .i64 i)],[] => ⟨True,.tup [.w (.int .i64 0),.w (.bool false)],[]⟩
 | [.sg 4 [.agg [.str g,.str t,.w (.int .i64 i),.w (.int .i64 o)]] f,.str g2,.str t2,.w (.int .i64 i2)],[] => ⟨sameK g t i g2 t2 i2 = true,.tup [.w (.int .i64 o),.w (.bool true)],[]⟩
 | _,_ => zbx
def findPl21 : XPlan := fun id => match id with
 | 2 => .opn [] 2
 | _ => .std
theorem eq00 : decide ((0:Int) = ((0:Nat):Int)) = true := rfl
theorem eq10 : decide (((1:Nat):Int) = (0:Int)) = false := rfl
theorem coe0 (f : Bool) : coe ty 44 (.sg 4 [] f) = .sg 4 [] f := rfl
theorem coe1 (g t : List UInt8) (i o : Int) (f : Bool) : coe ty 44 (.sg 4 [.agg [.str g,.str t,.w (.int .i64 i),.w (.int .i64 o)]] f) = .sg 4 [.agg [.str g,.str t,.w (.int .i64 i),.w (.int .i64 o)]] f := rfl
theorem eq01 : decide ((0:Int) = ((1:Nat):Int)) = false := rfl
section
set_option maxRecDepth 100000
set_option maxHeartbeats 2000000
theorem find21_sound : zbe Try.prog 18 find21S := by
 refine zed (S := noS) (SO := Sseek21) (T := ty) zbs ty_ok zeq Sseek21_ok Try.func18 (c := Try.f18.body.getD .skip) (by kernel_rfl) (fun xs pins hp _ => ?_)
 unfold find21S at hp ⊢
 split at hp
 · refine ⟨by simp,findPl21,by kernel_rfl,?_⟩
   unfold Try.f18
   simp only [go_sem,zac,Nat.reduceAdd,Nat.reduceSub,Nat.reduceMul,Int.reduceToNat,reduceCtorEq,↓reduceIte,Int.reducePow,Nat.reducePow,Int.reduceMod,Nat.reduceLeDiff,Int.reduceLE,Int.reduceNe,Int.reduceEq,Nat.reduceEqDiff,Nat.reduceLT,Nat.reduceBEq,List.map_cons,List.map_nil,List.toList_toArray,Array.toList_append,Option.toArray_some,Option.toArray_none,Bool.and_self,ty,noS,Sseek21,zeo,findPl21,eq00,coe0]
   try (refine ⟨_,Weak.refl _,?_⟩)
   try (simp only [go_sem,zac,Nat.reduceAdd,Nat.reduceSub,Nat.reduceMul,Int.reduceToNat,reduceCtorEq,↓reduceIte,Int.reducePow,Nat.reducePow,Int.reduceMod,Nat.reduceLeDiff,Int.reduceLE,Int.reduceNe,Int.reduceEq,Nat.reduceEqDiff,Nat.reduceLT,Nat.reduceBEq,List.map_cons,List.map_nil,List.toList_toArray,Array.toList_append,Option.toArray_some,Option.toArray_none,Bool.and_self,ty,noS,Sseek21,zeo,findPl21,eq00,coe0])
 · rename_i g t i o f g2 t2 i2 _
   have hp : sameK g t i g2 t2 i2 = true := hp
   refine ⟨by simp,findPl21,by kernel_rfl,?_⟩
   unfold Try.f18
   simp only [go_sem,zac,Nat.reduceAdd,Nat.reduceSub,Nat.reduceMul,Int.reduceToNat,reduceCtorEq,↓reduceIte,Int.reducePow,Nat.reducePow,Int.reduceMod,Nat.reduceLeDiff,Int.reduceLE,Int.reduceNe,Int.reduceEq,Nat.reduceEqDiff,Nat.reduceLT,Nat.reduceBEq,List.map_cons,List.map_nil,List.toList_toArray,Array.toList_append,Option.toArray_some,Option.toArray_none,Bool.and_self,ty,noS,Sseek21,zeo,findPl21,eq01,hp,coe1]
   try (refine ⟨_,Weak.refl _,?_⟩)
   try (simp only [go_sem,zac,Nat.reduceAdd,Nat.reduceSub,Nat.reduceMul,Int.reduceToNat,reduceCtorEq,↓reduceIte,Int.reducePow,Nat.reducePow,Int.reduceMod,Nat.reduceLeDiff,Int.reduceLE,Int.reduceNe,Int.reduceEq,Nat.reduceEqDiff,Nat.reduceLT,Nat.reduceBEq,List.map_cons,List.map_nil,List.toList_toArray,Array.toList_append,Option.toArray_some,Option.toArray_none,Bool.and_self,ty,noS,Sseek21,zeo,findPl21,eq01])
 · exact hp.elim
def ins21S : zam
 | [.sg 4 [] true,.w (.int .i64 0),.sg 4 [.agg [.str g,.str t,.w (.int .i64 i),.w (.int .i64 o)]] f],[] => ⟨True,.ms 0 4 0 1,[.g 4 [.agg [.str g,.str t,.w (.int .i64 i),.w (.int .i64 o)]]]⟩
 | _,_ => zbx
theorem ins21_sound : zbe Try.prog 49 ins21S := by
 refine zav (S := noS) (T := ty) zbs ty_ok zeq Try.func49 (c := Try.f49.body.getD .skip) (by kernel_rfl) (by kernel_rfl) (fun xs pins hp _ => ?_)
 unfold ins21S at hp ⊢
 split at hp
 · rename_i g t i o f _
   refine ⟨by simp,?_⟩
   unfold Try.f49
   simp only [go_sem,coe,zab,Nat.reduceAdd,Nat.reduceSub,Nat.reduceMul,Int.reduceToNat,reduceCtorEq,↓reduceIte,Int.reducePow,Nat.reducePow,Int.reduceMod,Nat.reduceLeDiff,Int.reduceLE,Int.reduceNe,Int.reduceEq,Nat.reduceEqDiff,Nat.reduceLT,Nat.reduceBEq,ty,noS,eq00,eq01,eq10]
   decide
 · exact hp.elim
end
end Go.Proofs.Ytgdoekpkeclceaa
namespace Go.Proofs.Ytgdoekpkeclceaa
open Ax
def Spl21 (f : FuncId) : Option zam :=
 match f with
 | 32 => some seekq21S
 | 49 => some ins21S
 | _ => none
theorem Spl21_ok : Fns Try.prog Spl21 := by
 intro f s h
 unfold Spl21 at h
 split at h
 · injection h with h; subst h; exact ⟨⟨_,Try.func32,by kernel_rfl,by kernel_rfl⟩,seekq21_sound⟩
 · injection h with h; subst h; exact ⟨⟨_,Try.func49,by kernel_rfl,by kernel_rfl⟩,ins21_sound⟩
 · cases h
def SOpl21 (f : FuncId) : Option zam :=
 match f with
 | 32 => some zeo
 | 48 => some delS21
 | _ => none
theorem SOpl21_ok : FnsO Try.prog SOpl21 := by
 intro f s h
 unfold SOpl21 at h
 split at h
 · injection h with h; subst h; exact ⟨⟨_,Try.func32,by kernel_rfl,by kernel_rfl⟩,seek21_sound⟩
 · injection h with h; subst h; exact ⟨⟨_,Try.func48,by kernel_rfl,by kernel_rfl⟩,del21_sound⟩
 · cases h
theorem slot_fgL21 (id s : Nat) (zs : List AV) : ∀ (sl : List AV) (i : Nat),slot (fgL id s zs sl) i = (slot sl i).fg id s zs
 | [],i => rfl
 | x :: sl,0 => rfl
 | x :: sl,i + 1 => slot_fgL21 id s zs sl i
theorem g21_ends {T : zaa} {sl : List AV} {H : Heap} {nx id n s : Nat} {ws rs : List AV} {q : Prop} (i : Nat) (h2 : slot sl i = .ms id s 0 n) (hl : Ax.look H id = some (.g s ws)) (hc : closedL ws = true) (hn : n = ws.length) (hr : rs = ws) :
   EndsW T [.tmp i] [] ⟨q,.sg s rs false,[]⟩ .ret ⟨sl,H,nx⟩ := by
 subst hn hr
 have hs : slot (fgL id s rs sl) i = .sg s rs false := by
   rw [slot_fgL21,h2]
   simp [AV.fg]
 refine ⟨_,weak_fg id s i rs hl hc (by rw [h2]; simp [AV.ids]),?_⟩
 simp only [Ax.Ends,Ax.rvals,EndsX,rone,hs,AV.ids,idsL,newIds,upTo,nodup,pinsOf,List.nil_append,AV.ren,renL,and_self]
def play21S : zam
 | [.sg 4 [] true,.agg [.str g,.str t,.w (.int .i64 i),.w (.int .i64 o)],.w (.bool false)],[] => ⟨True,.sg 4 [.agg [.str g,.str t,.w (.int .i64 i),.w (.int .i64 o)]] false,[]⟩
 | _,_ => zbx
def playd21S : zam
 | [.ms 0 4 0 n,.agg [.str g2,.str t2,.w (.int .i64 i2),.w (.int .i64 o2)],.w (.bool true)],[.g 4 [.agg [.str g,.str t,.w (.int .i64 i),.w (.int .i64 o)]]] => ⟨n = 1 ∧ sameK g t i g2 t2 i2 = true,.ms 0 4 0 0,[.g 4 []]⟩
 | _,_ => zbx
def playPl21 : XPlan := fun id => match id with
 | 1 => .opn [] 2
 | 4 => .opn [] 4
 | 10 => .wkp [(3,4),(3,5)]
 | _ => .std
theorem lt11 : decide ((1:Int) < ((1:Nat):Int)) = false := rfl
section
set_option maxRecDepth 100000
set_option maxHeartbeats 4000000
theorem play21_sound : zbe Try.prog 31 play21S := by
 refine zed (S := Spl21) (SO := SOpl21) (T := ty) zbs ty_ok Spl21_ok SOpl21_ok Try.func31 (c := Try.f31.body.getD .skip) (by kernel_rfl) (fun xs pins hp _ => ?_)
 unfold play21S at hp ⊢
 split at hp
 · rename_i g t i o _
   refine ⟨by simp,playPl21,by kernel_rfl,?_⟩
   unfold Try.f31
   simp only [go_sem,coe,zac,Nat.reduceAdd,Nat.reduceSub,Nat.reduceMul,Int.reduceToNat,reduceCtorEq,↓reduceIte,Int.reducePow,Nat.reducePow,Int.reduceMod,Nat.reduceLeDiff,Int.reduceLE,Int.reduceNe,Int.reduceEq,Nat.reduceEqDiff,Nat.reduceLT,Nat.reduceBEq,List.map_cons,List.map_nil,List.toList_toArray,Array.toList_append,Option.toArray_some,Option.toArray_none,Bool.and_self,ty,Spl21,SOpl21,zeo,seekq21S,ins21S,playPl21,coe0,lt00,lt01,wkF]
   refine ⟨_,_,weak_fq 4 4 4 [.str g,.str t,.w (.int .i64 i),.w (.int .i64 o)] rfl (by decide) rfl (by simp) rfl (List.mem_cons_self),?_⟩
   simp only [go_sem,coe,zac,Nat.reduceAdd,Nat.reduceSub,Nat.reduceMul,Int.reduceToNat,reduceCtorEq,↓reduceIte,Int.reducePow,Nat.reducePow,Int.reduceMod,Nat.reduceLeDiff,Int.reduceLE,Int.reduceNe,Int.reduceEq,Nat.reduceEqDiff,Nat.reduceLT,Nat.reduceBEq,List.map_cons,List.map_nil,List.toList_toArray,Array.toList_append,Option.toArray_some,Option.toArray_none,Bool.and_self,ty,Spl21,SOpl21,zeo,seekq21S,ins21S,playPl21,coe0,lt00,lt01,wkF,fqL,fqH,AV.fq,Blk.fq]
   exact ⟨fun y e => by rw [e]; rfl,g21_ends 6 rfl rfl rfl rfl rfl⟩
 · exact hp.elim
theorem playd21_sound : SoundO Try.prog 31 playd21S := by
 refine fn_soundO (S := Spl21) (SO := SOpl21) (T := ty) zbs ty_ok Spl21_ok SOpl21_ok Try.func31 (c := Try.f31.body.getD .skip) (by kernel_rfl) (fun xs pins hp => ?_)
 unfold playd21S at hp ⊢
 split at hp
 · rename_i n g2 t2 i2 o2 g t i o
   obtain ⟨rfl,hs⟩ := hp
   refine ⟨by simp,playPl21,by kernel_rfl,?_⟩
   unfold Try.f31
   simp only [go_sem,coe,zac,Nat.reduceAdd,Nat.reduceSub,Nat.reduceMul,Int.reduceToNat,reduceCtorEq,↓reduceIte,Int.reducePow,Nat.reducePow,Int.reduceMod,Nat.reduceLeDiff,Int.reduceLE,Int.reduceNe,Int.reduceEq,Nat.reduceEqDiff,Nat.reduceLT,Nat.reduceBEq,List.map_cons,List.map_nil,List.toList_toArray,Array.toList_append,Option.toArray_some,Option.toArray_none,Bool.and_self,ty,Spl21,SOpl21,zeo,seekq21S,ins21S,delS21,playPl21,coe0,lt00,lt01,wkF,hs]
   refine ⟨by omega,_,Weak.refl _,?_⟩
   simp only [go_sem,zac,Nat.reduceAdd,Nat.reduceSub,Nat.reduceMul,Int.reduceToNat,reduceCtorEq,↓reduceIte,Int.reducePow,Nat.reducePow,Int.reduceMod,Nat.reduceLeDiff,Int.reduceLE,Int.reduceNe,Int.reduceEq,Nat.reduceEqDiff,Nat.reduceLT,Nat.reduceBEq,List.map_cons,List.map_nil,List.toList_toArray,Array.toList_append,Option.toArray_some,Option.toArray_none,Bool.and_self,ty,Spl21,SOpl21]
 · exact hp.elim
end
end Go.Proofs.Ytgdoekpkeclceaa
namespace Go.Proofs.Ytgdoekpkeclceaa
open Ax
def cloneP21S : zam
 | [.sg 4 [] true],[] => ⟨True,.sg 4 [] true,[]⟩
 | [.sg 4 [.agg [.str g,.str t,.w (.int .i64 i),.w (.int .i64 o)]] f],[] => ⟨True,.ms 0 4 0 1,[.g 4 [.agg [.str g,.str t,.w (.int .i64 i),.w (.int .i64 o)]]]⟩
 | _,_ => zbx
def clone1Pl21 : XPlan := fun id => match id with
 | 1 => .tst [false,true]
 | 3 => .tst [true]
 | _ => .std
section
set_option maxRecDepth 100000
set_option maxHeartbeats 4000000
theorem cloneP21_sound : zbe Try.prog 30 cloneP21S := by
 refine zed (S := noS) (SO := noO) (T := ty) zbs ty_ok zeq noO_ok Try.func30 (c := Try.f30.body.getD .skip) (by kernel_rfl) (fun xs pins hp _ => ?_)
 unfold cloneP21S at hp ⊢
 split at hp
 · refine ⟨by simp,clonePl21,by kernel_rfl,?_⟩
   unfold Try.f30
   simp only [go_sem,zac,Nat.reduceAdd,Nat.reduceSub,Nat.reduceMul,Int.reduceToNat,reduceCtorEq,↓reduceIte,Int.reducePow,Nat.reducePow,Int.reduceMod,Nat.reduceLeDiff,Int.reduceLE,Int.reduceNe,Int.reduceEq,Nat.reduceEqDiff,Nat.reduceLT,Nat.reduceBEq,List.map_cons,List.map_nil,List.toList_toArray,Array.toList_append,Option.toArray_some,Option.toArray_none,Bool.and_self,ty,noS,clonePl21,specOp,List.length_nil]
   repeat (refine And.intro (by omega) ?_)
   intro b
   refine ⟨fun hb => ?_,fun hb => ?_⟩
   · refine ⟨_,weak_slot 2 (.sg 4 [] true) (fun w loc v h => sg_true 4 h),?_⟩
     simp only [go_sem,zac,Nat.reduceAdd,Nat.reduceSub,Nat.reduceMul,Int.reduceToNat,reduceCtorEq,↓reduceIte,Int.reducePow,Nat.reducePow,Int.reduceMod,Nat.reduceLeDiff,Int.reduceLE,Int.reduceNe,Int.reduceEq,Nat.reduceEqDiff,Nat.reduceLT,Nat.reduceBEq,List.map_cons,List.map_nil,List.toList_toArray,Array.toList_append,Option.toArray_some,Option.toArray_none,Bool.and_self,ty,noS]
   · refine ⟨_,weak_slot 2 (.sg 4 [] true) (fun w loc v h => sg_true 4 h),?_⟩
     simp only [go_sem,zac,Nat.reduceAdd,Nat.reduceSub,Nat.reduceMul,Int.reduceToNat,reduceCtorEq,↓reduceIte,Int.reducePow,Nat.reducePow,Int.reduceMod,Nat.reduceLeDiff,Int.reduceLE,Int.reduceNe,Int.reduceEq,Nat.reduceEqDiff,Nat.reduceLT,Nat.reduceBEq,List.map_cons,List.map_nil,List.toList_toArray,Array.toList_append,Option.toArray_some,Option.toArray_none,Bool.and_self,ty,noS]
 · rename_i g t i o f _
   refine ⟨by simp,clone1Pl21,by kernel_rfl,?_⟩
   unfold Try.f30
   simp only [go_sem,zac,Nat.reduceAdd,Nat.reduceSub,Nat.reduceMul,Int.reduceToNat,reduceCtorEq,↓reduceIte,Int.reducePow,Nat.reducePow,Int.reduceMod,Nat.reduceLeDiff,Int.reduceLE,Int.reduceNe,Int.reduceEq,Nat.reduceEqDiff,Nat.reduceLT,Nat.reduceBEq,List.map_cons,List.map_nil,List.toList_toArray,Array.toList_append,Option.toArray_some,Option.toArray_none,Bool.and_self,ty,noS,clone1Pl21,specOp]
   repeat (refine And.intro (by omega) ?_)
   intro b hb
   obtain rfl : b = false := by cases b with | false => rfl | true => exact absurd (hb rfl) (by decide)
   simp only [go_sem,zac,Nat.reduceAdd,Nat.reduceSub,Nat.reduceMul,Int.reduceToNat,reduceCtorEq,↓reduceIte,Int.reducePow,Nat.reducePow,Int.reduceMod,Nat.reduceLeDiff,Int.reduceLE,Int.reduceNe,Int.reduceEq,Nat.reduceEqDiff,Nat.reduceLT,Nat.reduceBEq,List.map_cons,List.map_nil,List.toList_toArray,Array.toList_append,Option.toArray_some,Option.toArray_none,Bool.and_self,ty,noS,clone1Pl21,specOp,cond_false]
   try (refine ⟨by decide,_,Weak.refl _,?_⟩)
   try (simp only [go_sem,zac,Nat.reduceAdd,Nat.reduceSub,Nat.reduceMul,Int.reduceToNat,reduceCtorEq,↓reduceIte,Int.reducePow,Nat.reducePow,Int.reduceMod,Nat.reduceLeDiff,Int.reduceLE,Int.reduceNe,Int.reduceEq,Nat.reduceEqDiff,Nat.reduceLT,Nat.reduceBEq,List.map_cons,List.map_nil,List.toList_toArray,Array.toList_append,Option.toArray_some,Option.toArray_none,Bool.and_self,ty,noS])
 · exact hp.elim
end
end Go.Proofs.Ytgdoekpkeclceaa
namespace Go.Proofs.Ytgdoekpkeclceaa
open Ax
def SPl21 (f : FuncId) : Option zam :=
 match f with
 | 30 => some cloneP21S
 | 12 => some get21S
 | 31 => some play21S
 | _ => none
theorem SPl21_ok : Fns Try.prog SPl21 := by
 intro f s h
 unfold SPl21 at h
 split at h
 · injection h with h; subst h; exact ⟨⟨_,Try.func30,by kernel_rfl,by kernel_rfl⟩,cloneP21_sound⟩
 · injection h with h; subst h; exact ⟨⟨_,Try.func12,by kernel_rfl,by kernel_rfl⟩,get21_sound⟩
 · injection h with h; subst h; exact ⟨⟨_,Try.func31,by kernel_rfl,by kernel_rfl⟩,play21_sound⟩
 · cases h
def SOPl21 (f : FuncId) : Option zam :=
 match f with
 | 31 => some playd21S
 | _ => none
theorem SOPl21_ok : FnsO Try.prog SOPl21 := by
 intro f s h
 unfold SOPl21 at h
 split at h
 · injection h with h; subst h; exact ⟨⟨_,Try.func31,by kernel_rfl,by kernel_rfl⟩,playd21_sound⟩
 · cases h
def Play21S : zam
 | [.sg 4 [] true,.agg [.w (.int .i64 b),.w (.int .i64 c),.w (.int .i64 p),.w (.int .i64 e),.w (.int .i64 s),.sg 6 [.agg [.w (.int .i64 d),.w (.int .i64 t),.w (.bool k),.str key,.w (.bool dd),.str val]] f]],[] =>
     ⟨key.length ≤ 1000000 ∧ val.length ≤ 1000000 ∧ dd = false ∧ gtK k key false val = true,.sg 4 [.agg [.str (cG key),.str (cT key),.w (.int .i64 (cI key)),.w (.int .i64 (cO false val))]] false,[]⟩
 | [.sg 4 [.agg [.str g0,.str t0,.w (.int .i64 i0),.w (.int .i64 o0)]] f0,.agg [.w (.int .i64 b),.w (.int .i64 c),.w (.int .i64 p),.w (.int .i64 e),.w (.int .i64 s),.sg 6 [.agg [.w (.int .i64 d),.w (.int .i64 t),.w (.bool k),.str key,.w (.bool dd),.str val]] f]],[] =>
     ⟨key.length ≤ 1000000 ∧ val.length ≤ 1000000 ∧ dd = true ∧ gtK k key true val = true ∧ sameK g0 t0 i0 (cG key) (cT key) (cI key) = true,.sg 4 [] false,[]⟩
 | _,_ => zbx
def PlayPl21 : XPlan := fun id => match id with
 | 7 => .opn [] 4
 | _ => .std
section
set_option maxRecDepth 100000
set_option maxHeartbeats 4000000
theorem Play21_sound : zbe Try.prog 17 Play21S := by
 refine zed (S := SPl21) (SO := SOPl21) (T := ty) zbs ty_ok SPl21_ok SOPl21_ok Try.func17 (c := Try.f17.body.getD .skip) (by kernel_rfl) (fun xs pins hp _ => ?_)
 unfold Play21S at hp ⊢
 split at hp
 · rename_i b c p e s d t k key dd val f _
   obtain ⟨hk,hv,rfl,hg⟩ := hp
   have hga : gtCA k key false val = .agg [.str (cG key),.str (cT key),.w (.int .i64 (cI key)),.w (.int .i64 (cO false val))] := by unfold gtCA; rw [hg]; rfl
   refine ⟨by simp,zcp,by kernel_rfl,?_⟩
   unfold Try.f17
   simp only [go_sem,zac,Nat.reduceAdd,Nat.reduceSub,Nat.reduceMul,Int.reduceToNat,reduceCtorEq,↓reduceIte,Int.reducePow,Nat.reducePow,Int.reduceMod,Nat.reduceLeDiff,Int.reduceLE,Int.reduceNe,Int.reduceEq,Nat.reduceEqDiff,Nat.reduceLT,Nat.reduceBEq,List.map_cons,List.map_nil,List.toList_toArray,Array.toList_append,Option.toArray_some,Option.toArray_none,Bool.and_self,ty,SPl21,SOPl21,cloneP21S,coe0,zcp]
   refine awpO_unr 2 ?_
   simp only [go_sem,zac,Nat.reduceAdd,Nat.reduceSub,Nat.reduceMul,Int.reduceToNat,reduceCtorEq,↓reduceIte,Int.reducePow,Nat.reducePow,Int.reduceMod,Nat.reduceLeDiff,Int.reduceLE,Int.reduceNe,Int.reduceEq,Nat.reduceEqDiff,Nat.reduceLT,Nat.reduceBEq,List.map_cons,List.map_nil,List.toList_toArray,Array.toList_append,Option.toArray_some,Option.toArray_none,Bool.and_self,ty,SPl21,SOPl21,get21S,play21S,coe0,hk,hv,hg,hga,zcp,zcg,zao,zaz,zbo,lt00,lt01,lt11,cond_true,Int.reduceAdd,Int.reduceMod,Int.reduceSub]
   try (refine ⟨_,Weak.refl _,?_⟩)
   try (simp only [go_sem,zac,Nat.reduceAdd,Nat.reduceSub,Nat.reduceMul,Int.reduceToNat,reduceCtorEq,↓reduceIte,Int.reducePow,Nat.reducePow,Int.reduceMod,Nat.reduceLeDiff,Int.reduceLE,Int.reduceNe,Int.reduceEq,Nat.reduceEqDiff,Nat.reduceLT,Nat.reduceBEq,List.map_cons,List.map_nil,List.toList_toArray,Array.toList_append,Option.toArray_some,Option.toArray_none,Bool.and_self,ty,SPl21,zcg,zao,zaz,zbo])
 · rename_i g0 t0 i0 o0 f0 b c p e s d t k key dd val f _
   obtain ⟨hk,hv,rfl,hg,hs⟩ := hp
   have hga : gtCA k key true val = .agg [.str (cG key),.str (cT key),.w (.int .i64 (cI key)),.w (.int .i64 (cO true val))] := by unfold gtCA; rw [hg]; rfl
   refine ⟨by simp,PlayPl21,by kernel_rfl,?_⟩
   unfold Try.f17
   simp only [go_sem,zac,Nat.reduceAdd,Nat.reduceSub,Nat.reduceMul,Int.reduceToNat,reduceCtorEq,↓reduceIte,Int.reducePow,Nat.reducePow,Int.reduceMod,Nat.reduceLeDiff,Int.reduceLE,Int.reduceNe,Int.reduceEq,Nat.reduceEqDiff,Nat.reduceLT,Nat.reduceBEq,List.map_cons,List.map_nil,List.toList_toArray,Array.toList_append,Option.toArray_some,Option.toArray_none,Bool.and_self,ty,SPl21,SOPl21,cloneP21S,coe1,PlayPl21]
   refine awpO_unr 2 ?_
   simp only [go_sem,zac,Nat.reduceAdd,Nat.reduceSub,Nat.reduceMul,Int.reduceToNat,reduceCtorEq,↓reduceIte,Int.reducePow,Nat.reducePow,Int.reduceMod,Nat.reduceLeDiff,Int.reduceLE,Int.reduceNe,Int.reduceEq,Nat.reduceEqDiff,Nat.reduceLT,Nat.reduceBEq,List.map_cons,List.map_nil,List.toList_toArray,Array.toList_append,Option.toArray_some,Option.toArray_none,Bool.and_self,ty,SPl21,SOPl21,get21S,playd21S,hk,hv,hg,hga,hs,PlayPl21,zcg,zao,zaz,zbo,lt00,lt01,lt11,cond_true,Int.reduceAdd,Int.reduceMod,Int.reduceSub]
   exact g21_ends 4 rfl rfl rfl rfl rfl
 · exact hp.elim
end
end Go.Proofs.Ytgdoekpkeclceaa
namespace Go.Proofs.Ytgdoekpkeclceaa
open Ax
theorem fix1_cons (c : UInt8) (r : List UInt8) : rfixN 1 (c :: r) 0 = c.toNat ∧ rfixL 1 (c :: r) 0 = r ∧ rfixE 1 (c :: r) 0 = 0 := by
 have h1 : clampI 1 = 1 := by decide
 have h2 : ¬ (((c :: r).length : Int) < 1) := by simp; omega
 refine ⟨?_,?_,?_⟩
 · unfold rfixN tkB
   rw [if_pos rfl,h1,if_neg h2]
   simp [zda,unfL]
 · unfold rfixL tkL
   rw [if_pos rfl,h1,if_neg h2]
   simp
 · unfold rfixE tkE
   rw [if_pos rfl,h1,if_neg h2]
theorem num_put (n : Int) (h1 : -9223372036854775808 ≤ n) (h2 : n ≤ 9223372036854775807) (r : List UInt8) :
   numN (putU (zz n).toNat ++ r) 0 = n ∧ numL (putU (zz n).toNat ++ r) 0 = r ∧ numE (putU (zz n).toNat ++ r) 0 = 0 := by
 have hz := zz_range n h1 h2
 have hg := getL_put (zz n).toNat (by omega) r
 have hc : (((zz n).toNat : Nat) : Int) = zz n := by omega
 rw [hc,zg_zz] at hg
 unfold numN numL numE
 rw [if_pos rfl,if_pos rfl,if_pos rfl,hg]
 exact ⟨rfl,by simp,rfl⟩
theorem zz_len (n : Nat) : (zz (n : Int)).toNat = 2 * n := by unfold zz; rw [if_pos (by omega)]; omega
theorem text_put (m : Int) (s r : List UInt8) (hm : (s.length : Int) ≤ m) (hs : s.length ≤ 1000000) :
   rtS' m (zek s ++ r) 0 = s ∧ rtL m (zek s ++ r) 0 = r ∧ rtE m (zek s ++ r) 0 = 0 := by
 obtain ⟨h1,h2,h3⟩ := num_put (s.length : Int) (by omega) (by omega) (s ++ r)
 rw [zz_len] at h1 h2 h3
 have e : zek s ++ r = putU (2 * s.length) ++ (s ++ r) := by unfold zek; rw [List.append_assoc]
 have hok : rtOk m (zek s ++ r) 0 := by unfold rtOk; rw [e,h1,h3]; omega
 have hl : ¬ (((s ++ r).length : Int) < (s.length : Int)) := by simp; omega
 unfold rtS' rtL rtE
 rw [if_pos hok,if_pos hok,if_pos hok,e,h1,h2,h3]
 unfold tkB tkL tkE
 rw [if_neg hl,if_neg hl,if_neg hl]
 simp
end Go.Proofs.Ytgdoekpkeclceaa
namespace Go.Proofs.Ytgdoekpkeclceaa
open Ax
theorem key_back (g t : List UInt8) (i : Int) (hg : g.length ≤ 20) (ht : t.length ≤ 32) (hi : 0 ≤ i) (hi8 : i < 8) :
   cG (kyL g t i) = g ∧ cT (kyL g t i) = t ∧ cI (kyL g t i) = i := by
 obtain ⟨a1,a2,a3⟩ := text_put 20 g (zek t ++ [UInt8.ofNat i.toNat]) (by omega) (by omega)
 obtain ⟨b1,b2,b3⟩ := text_put 32 t [UInt8.ofNat i.toNat] (by omega) (by omega)
 have e : kyL g t i = zek g ++ (zek t ++ [UInt8.ofNat i.toNat]) := by unfold kyL; rw [List.append_assoc]
 have c1 : cG (kyL g t i) = g := by unfold cG; rw [e]; exact a1
 have c2 : cL1 (kyL g t i) = zek t ++ [UInt8.ofNat i.toNat] := by unfold cL1; rw [e]; exact a2
 have c3 : cE1 (kyL g t i) = 0 := by unfold cE1; rw [e]; exact a3
 refine ⟨c1,?_,?_⟩
 · unfold cT; rw [c2,c3]; exact b1
 · unfold cI
   have d2 : cL2 (kyL g t i) = [UInt8.ofNat i.toNat] := by unfold cL2; rw [c2,c3]; exact b2
   have d3 : cE2 (kyL g t i) = 0 := by unfold cE2; rw [c2,c3]; exact b3
   rw [d2,d3,(fix1_cons _ []).1]
   simp only [UInt8.toNat_ofNat']
   omega
theorem val_back (o : Int) (h0 : 0 ≤ o) (h1 : o ≤ 4611686018427387903) : cO false (putU (zz o).toNat) = o := by
 have hz := zz_range o (by omega) (by omega)
 have hg := getL_put (zz o).toNat (by omega) []
 have hc : (((zz o).toNat : Nat) : Int) = zz o := by omega
 rw [hc,zg_zz,List.append_nil] at hg
 unfold cO
 rw [hg]; rfl
theorem chkC_off {g t : List UInt8} {i o : Int} (h : chkC g t i o = 0) : chkC g t i 0 = 0 := by
 have h1 := zdc g t i o
 have h2 := zdc g t i 0
 omega
theorem kyE_zero {g t : List UInt8} {i o T : Int} (h : kyE g t i o T = 0) : chkC g t i o = 0 := by
 unfold kyE at h
 by_cases h0 : chkC g t i o = 0
 · exact h0
 · rw [if_neg h0] at h; exact h
theorem kyE_now {g t : List UInt8} {i o : Int} (h : chkC g t i o = 0) : kyE g t i o 0 = 0 := by
 unfold kyE; rw [if_pos h,if_neg (by omega)]
theorem gt_back {g t : List UInt8} {i o T : Int} (h : kyE g t i o T = 0) (dd : Bool) :
   gtK true (kyL g t i) dd (if dd then [] else putU (zz o).toNat) = true ∧ gtCA true (kyL g t i) dd (if dd then [] else putU (zz o).toNat) = .agg [.str g,.str t,.w (.int .i64 i),.w (.int .i64 (if dd then 0 else o))] := by
 have h0 := kyE_zero h
 have h1 := zdc g t i o
 obtain ⟨b1,b2,b3⟩ := key_back g t i (by omega) (by omega) (by omega) (by omega)
 have b4 := val_back o (by omega) (by omega)
 have hk : gtK true (kyL g t i) dd (if dd then [] else putU (zz o).toNat) = true := by
   unfold gtK
   cases dd with
   | false =>
     simp only [b1,b2,b3,b4,cV,Bool.false_eq_true,if_false,decide_true,Bool.and_true,Bool.true_and]
     exact decide_eq_true (kyE_now h0)
   | true =>
     have : cO true [] = 0 := rfl
     simp only [b1,b2,b3,cV,this,if_true,decide_true,Bool.and_true,Bool.true_and]
     exact decide_eq_true (kyE_now (chkC_off h0))
 refine ⟨hk,?_⟩
 unfold gtCA
 rw [hk]
 cases dd with
 | false => simp only [cond_true,b1,b2,b3,b4,Bool.false_eq_true,if_false]
 | true => simp only [cond_true,b1,b2,b3,if_true]; rfl
theorem coe1n : coe ty 44 (.sg 1 [] true) = .sg 4 [] true := rfl
theorem sameK_self (g t : List UInt8) (i : Int) : sameK g t i g t i = true := by unfold sameK; simp
theorem kyE_off {g t : List UInt8} {i o T : Int} (h : kyE g t i o T ≠ 0) : (chkC g t i o = kyE g t i o T ∨ kyE g t i o T = 11) := by
 unfold kyE at h ⊢
 by_cases h0 : chkC g t i o = 0
 · rw [if_pos h0] at h ⊢
   by_cases h2 : T < 0 ∨ 1099511627776 < T
   · rw [if_pos h2]; exact .inr rfl
   · rw [if_neg h2] at h; exact absurd rfl h
 · rw [if_neg h0]; exact .inl rfl
def cbackS : zam
 | [.agg [.str g,.str t,.w (.int .i64 i),.w (.int .i64 o)],.w (.int .i64 T),.w (.int .i64 D)],[] => ⟨True,.w (.bool true),[]⟩
 | _,_ => zbx
def Scb21 (f : FuncId) : Option zam :=
 match f with
 | 7 => some yesS
 | 5 => some light21S
 | 8 => some put21S
 | 10 => some gone21S
 | 12 => some get21S
 | 15 => some chkCS
 | 17 => some Play21S
 | 18 => some find21S
 | _ => none
theorem Scb21_ok : Fns Try.prog Scb21 := by
 intro f s h
 unfold Scb21 at h
 split at h
 · injection h with h; subst h; exact ⟨⟨_,Try.func7,by kernel_rfl,by kernel_rfl⟩,aw21_sound⟩
 · injection h with h; subst h; exact ⟨⟨_,Try.func5,by kernel_rfl,by kernel_rfl⟩,light21_sound⟩
 · injection h with h; subst h; exact ⟨⟨_,Try.func8,by kernel_rfl,by kernel_rfl⟩,put21_sound⟩
 · injection h with h; subst h; exact ⟨⟨_,Try.func10,by kernel_rfl,by kernel_rfl⟩,gone21_sound⟩
 · injection h with h; subst h; exact ⟨⟨_,Try.func12,by kernel_rfl,by kernel_rfl⟩,get21_sound⟩
 · injection h with h; subst h; exact ⟨⟨_,Try.func15,by kernel_rfl,by kernel_rfl⟩,check21_sound⟩
 · injection h with h; subst h; exact ⟨⟨_,Try.func17,by kernel_rfl,by kernel_rfl⟩,Play21_sound⟩
 · injection h with h; subst h; exact ⟨⟨_,Try.func18,by kernel_rfl,by kernel_rfl⟩,find21_sound⟩
 · cases h
def cbackPl : Plan := fun _ => none
section
set_option maxRecDepth 100000
set_option maxHeartbeats 8000000 in
theorem cback_law : zbe Try.prog 4 cbackS := by
 refine fn_soundF (S := Scb21) (T := ty) (pl := cbackPl) zbs ty_ok Scb21_ok Try.func4 (c := Try.f4.body.getD .skip) (by kernel_rfl) (by kernel_rfl) (fun xs pins hp _ => ?_)
 unfold cbackS at hp ⊢
 split at hp
 · rename_i g t i o T D _
   refine ⟨by simp,?_⟩
   unfold Try.f4
   cases hL : zfk g t with
   | false =>
     simp only [go_sem,zdt,Nat.reduceAdd,Nat.reduceSub,Nat.reduceMul,Int.reduceToNat,reduceCtorEq,↓reduceIte,Int.reducePow,Nat.reducePow,Int.reduceMod,Nat.reduceLeDiff,Int.reduceLE,Int.reduceNe,Int.reduceEq,Nat.reduceEqDiff,Nat.reduceLT,Nat.reduceBEq,List.map_cons,List.map_nil,List.toList_toArray,Array.toList_append,Option.toArray_some,Option.toArray_none,Bool.and_self,ty,Scb21,cbackPl,yesS,light21S,hL]
     exact ⟨fun y hy => by subst hy; rfl,w21_ends 6 rfl⟩
   | true =>
     by_cases h0 : kyE g t i o T = 0
     · have h1 := kyE_zero h0
       have h2 := zdc g t i o
       obtain ⟨b1,b2,b3⟩ := key_back g t i (by omega) (by omega) (by omega) (by omega)
       have b4 := val_back o (by omega) (by omega)
       have b5 : kyE g t i o T = 0 := h0
       have g1 := (gt_back h0 false).1
       have g2 := (gt_back h0 false).2
       have g3 := (gt_back h0 true).1
       have g4 := (gt_back h0 true).2
       simp only [Bool.false_eq_true,if_false,if_true] at g1 g2 g3 g4
       have l1 : (kyL g t i).length ≤ 1000000 := by
         have := zfe g (by omega)
         have := zfe t (by omega)
         unfold kyL; simp only [List.length_append,List.length_cons,List.length_nil]; omega
       have l2 : (putU (zz o).toNat).length ≤ 1000000 := by
         have hz := zz_range o (by omega) (by omega)
         have := zcj (zz o).toNat (by omega)
         omega
       have s1 := sameK_self g t i
       have ka := kyA_pos (d := false) (v := putU (zz o).toNat) h0
       have kb := kyA_pos (d := true) (v := []) h0
       generalize hK : kyL g t i = K at *
       generalize hV : putU (zz o).toNat = V at *
       generalize hE : kyE g t i o T = E at *
       subst h0
       have e1 : decide (o = o) = true := decide_eq_true rfl
       simp (config := { maxSteps := 3000000 }) only [go_sem,zdt,Nat.reduceAdd,Nat.reduceSub,Nat.reduceMul,Int.reduceToNat,reduceCtorEq,↓reduceIte,Int.reducePow,Nat.reducePow,Int.reduceMod,Nat.reduceLeDiff,Int.reduceLE,Int.reduceNe,Int.reduceEq,Nat.reduceEqDiff,Nat.reduceLT,Nat.reduceBEq,List.map_cons,List.map_nil,List.toList_toArray,Array.toList_append,Option.toArray_some,Option.toArray_none,Bool.and_self,ty,Scb21,cbackPl,yesS,light21S,put21S,gone21S,get21S,Play21S,find21S,hL,l1,l2,b1,b2,b3,b4,g1,g2,g3,g4,s1,ka,kb,hK,hV,hE,e1,coe1n,coe0]
       exact ⟨fun y hy => by subst hy; rfl,fun y hy => by subst hy; rfl,fun y hy => by subst hy; rfl,w21_ends 6 rfl⟩
     · have h1 := kyE_off h0
       have ka := kyA_neg (d := false) (v := putU (zz o).toNat) h0
       generalize hV : putU (zz o).toNat = V at *
       obtain ⟨C,hC⟩ : ∃ C,chkC g t i o = C := ⟨_,rfl⟩
       rw [hC] at h1
       generalize hE : kyE g t i o T = E at *
       have d0 : decide (E = 0) = false := decide_eq_false h0
       by_cases h2 : C = E
       · have d2 : decide (C = E) = true := decide_eq_true h2
         simp only [go_sem,zdt,Nat.reduceAdd,Nat.reduceSub,Nat.reduceMul,Int.reduceToNat,reduceCtorEq,↓reduceIte,Int.reducePow,Nat.reducePow,Int.reduceMod,Nat.reduceLeDiff,Int.reduceLE,Int.reduceNe,Int.reduceEq,Nat.reduceEqDiff,Nat.reduceLT,Nat.reduceBEq,List.map_cons,List.map_nil,List.toList_toArray,Array.toList_append,Option.toArray_some,Option.toArray_none,Bool.and_self,ty,Scb21,cbackPl,yesS,light21S,put21S,chkCS,hL,ka,zR,hV,hE,hC,d0,d2]
         exact ⟨fun y hy => by subst hy; rfl,w21_ends 6 rfl⟩
       · have d2 : decide (C = E) = false := decide_eq_false h2
         obtain rfl : E = 11 := h1.resolve_left h2
         simp only [go_sem,zdt,Nat.reduceAdd,Nat.reduceSub,Nat.reduceMul,Int.reduceToNat,reduceCtorEq,↓reduceIte,Int.reducePow,Nat.reducePow,Int.reduceMod,Nat.reduceLeDiff,Int.reduceLE,Int.reduceNe,Int.reduceEq,Nat.reduceEqDiff,Nat.reduceLT,Nat.reduceBEq,List.map_cons,List.map_nil,List.toList_toArray,Array.toList_append,Option.toArray_some,Option.toArray_none,Bool.and_self,ty,Scb21,cbackPl,yesS,light21S,put21S,chkCS,hL,ka,zR,hV,hE,hC,d0,d2]
         exact ⟨fun y hy => by subst hy; rfl,w21_ends 6 rfl⟩
 · exact hp.elim
end
theorem cback_dom {x y z : AV} (hx : Arg ty 6 23 x) (hy : Arg ty 6 3 y) (hz : Arg ty 6 3 z) : (cbackS [x,y,z] []).p ∧ (cbackS [x,y,z] []).x = .w (.bool true) := by
 obtain ⟨g,t,i,o,rfl⟩ := arg_com hx
 obtain ⟨m,rfl⟩ := arg_int21 hy
 obtain ⟨d,rfl⟩ := arg_int21 hz
 exact ⟨trivial,rfl⟩
end Go.Proofs.Ytgdoekpkeclceaa
