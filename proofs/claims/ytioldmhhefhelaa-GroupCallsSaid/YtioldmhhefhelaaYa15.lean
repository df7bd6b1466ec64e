/- What the proofs of this seat stand on; it asks nothing. -/
import Derived.Test.YtioldmhhefhelaaYa14
set_option linter.unusedSimpArgs false
set_option linter.unusedVariables false
namespace Go.Proofs.Ytioldmhhefhelaa
namespace Ax
open Go.RowKit
theorem znw {f : CS → Option (Exit × CS)} (hf : ∀ τ e τ',f τ = some (e,τ') → PureOk τ τ') : ∀ (k : Nat) (τ : CS) (e : Exit) (τ' : CS),ybf f k τ = some (e,τ') → PureOk τ τ'
 | 0,τ,e,τ',h => by cases h
 | k + 1,τ,e,τ',h => by
  unfold ybf at h
  split at h
  ·rename_i τ1 h1; exact (hf _ _ _ h1).trans (znw hf k τ1 e τ' h)
  ·rename_i id τ1 h1; injection h with h; injection h with h2 h3; subst h3; exact hf _ _ _ h1
  ·rename_i τ1 h1; injection h with h; injection h with h2 h3; subst h3; exact hf _ _ _ h1
  ·cases h
section
variable {P : Program} {T : zae} (hT : TOk P T) {S : zak} {SB : zhw} (hS : Fns P S) (hSB : zhg P S SB) {call : zdl} (hcall : zsf P call)
include hT hS hSB hcall
theorem zmh : ∀ (c : Code) (τ : CS) (e : Exit) (τ' : CS),runC T SB call c τ = some (e,τ') → PureOk τ τ' := by
 intro c
 induction c with
 | skip => intro τ e τ' h; injection h with h; injection h with h1 h2; subst h2; exact .refl _
 | label l => intro τ e τ' h; injection h with h; injection h with h1 h2; subst h2; exact .refl _
 | exit id => intro τ e τ' h; injection h with h; injection h with h1 h2; subst h2; exact .refl _
 | ret => intro τ e τ' h; injection h with h; injection h with h1 h2; subst h2; exact .refl _
 | region id ops draw =>
  intro τ e τ' h
  have key : ∀ q,(match zgs T SB call ops.toList q 0 ops.toList τ with | some τ => some (Exit.normal,τ) | none => none) = some (e,τ') → PureOk τ τ' := by
   intro q h
   split at h
   ·rename_i τ1 h1; injection h with h; injection h with h2 h3; subst h3; exact zlc hT hS hSB hcall _ _ _ _ h1
   ·cases h
  unfold runC at h
  cases draw with
  | false => exact key _ h
  | true =>
   simp only [cond_true] at h
   cases h1 : zjp (fun i => zdg T ((zol T ops.toList).getD i false)) ops.toList with
   | true => rw [h1] at h; exact key _ h
   | false => rw [h1] at h; cases h
 | seq a b iha ihb =>
  intro τ e τ' h
  unfold runC at h
  split at h
  ·rename_i τ1 h1; exact (iha _ _ _ h1).trans (ihb _ _ _ h)
  ·rename_i id τ1 h1; injection h with h; injection h with h2 h3; subst h3; exact iha _ _ _ h1
  ·rename_i τ1 h1; injection h with h; injection h with h2 h3; subst h3; exact iha _ _ _ h1
  ·cases h
 | cond c a b iha ihb =>
  intro τ e τ' h
  unfold runC at h
  split at h
  ·exact iha _ _ _ h
  ·exact ihb _ _ _ h
  ·cases h
 | block id c ih =>
  intro τ e τ' h
  unfold runC at h
  split at h
  ·rename_i id' τ1 h1
   split at h
   ·injection h with h; injection h with h2 h3; subst h3; exact ih _ _ _ h1
   ·injection h with h; injection h with h2 h3; subst h3; exact ih _ _ _ h1
  ·rename_i τ1 h1; injection h with h; injection h with h2 h3; subst h3; exact ih _ _ _ h1
  ·rename_i τ1 h1; injection h with h; injection h with h2 h3; subst h3; exact ih _ _ _ h1
  ·cases h
 | loop c ih =>
  intro τ e τ' h
  unfold runC at h
  exact znw ih _ _ _ _ h
 | _ => intro τ e τ' h; cases h
def After (Z : Nat) (w0 : World) (E : Nat → Prop) (w : World) (loc : Loc) (nm : Nat) (e : Exit) (τ' : CS) : Exit → Act → World → Prop :=
 fun e' a' w' => e' = e ∧ ∃ loc',RelT Z w0 E loc' τ' a' w' ∧ Tn w loc nm τ'.nx w' loc'
theorem runC_ok (hm : P.follows .mixedOrders = true) {Z : Nat} {w0 : World} {E : Nat → Prop} : ∀ (c : Code) (τ : CS) (e : Exit) (τ' : CS) (a : Act) (w : World) (loc : Loc),runC T SB call c τ = some (e,τ') → LowC τ.H τ.nx → τ'.nx ≤ Z → RelT Z w0 E loc τ a w →
  c.wp P (After Z w0 E w loc τ.nx e τ') a w := by
 intro c
 induction c with
 | skip => intro τ e τ' a w loc h hl hz hr; injection h with h; injection h with h1 h2; subst h1 h2; exact wp_skip ⟨rfl,loc,hr,Tn.refl _ _ _ _⟩
 | label l => intro τ e τ' a w loc h hl hz hr; injection h with h; injection h with h1 h2; subst h1 h2; exact wp_label ⟨rfl,loc,hr,Tn.refl _ _ _ _⟩
 | exit id => intro τ e τ' a w loc h hl hz hr; injection h with h; injection h with h1 h2; subst h1 h2; exact wp_exit ⟨rfl,loc,hr,Tn.refl _ _ _ _⟩
 | ret => intro τ e τ' a w loc h hl hz hr; injection h with h; injection h with h1 h2; subst h1 h2; exact wp_ret ⟨rfl,loc,hr,Tn.refl _ _ _ _⟩
 | region id ops draw =>
  intro τ e τ' a w loc h hl hz hr
  unfold runC at h
  cases draw with
  | false =>
   simp only [cond_false] at h
   split at h
   ·rename_i τ1 h1
    injection h with h; injection h with h2 h3; subst h2 h3
    exact wp_region_list (ztf hT hS hSB hcall _ _ _ _ a w loc h1 hl hz hr fun a' w' loc' h4 h5 => ⟨rfl,loc',h4,h5⟩)
   ·cases h
  | true =>
   simp only [cond_true] at h
   cases hd : zjp (fun i => zdg T ((zol T ops.toList).getD i false)) ops.toList with
   | false => rw [hd] at h; cases h
   | true =>
    rw [hd,cond_true] at h
    split at h
    ·rename_i τ1 h1
     injection h with h; injection h with h2 h3; subst h2 h3
     have := yaw (id := id) hm hT hS hSB hcall (q := fun i => (zol T ops.toList).getD i false) hd h1 hl hz hr
     exact this
    ·cases h
 | seq x y ihx ihy =>
  intro τ e τ' a w loc h hl hz hr
  unfold runC at h
  split at h
  ·rename_i τ1 h1
   have hp1 := zmh hT hS hSB hcall _ _ _ _ h1
   have hp2 := zmh hT hS hSB hcall _ _ _ _ h
   refine wp_seq (wp_mono (ihx _ _ _ a w loc h1 hl (Nat.le_trans hp2.mono hz) hr) ?_)
   rintro e' a' w' ⟨rfl,loc',h2,h3⟩
   refine wp_mono (ihy _ _ _ a' w' loc' h (hp1.low hl) hz h2) ?_
   rintro e' a2 w2 ⟨rfl,loc2,h4,h5⟩
   exact ⟨rfl,loc2,h4,h3.trans h5 hp1.mono hp2.mono⟩
  ·rename_i id τ1 h1
   injection h with h; injection h with h2 h3; subst h2 h3
   refine wp_seq (wp_mono (ihx _ _ _ a w loc h1 hl hz hr) ?_)
   rintro e' a' w' ⟨rfl,loc',h2,h3⟩
   exact ⟨rfl,loc',h2,h3⟩
  ·rename_i τ1 h1
   injection h with h; injection h with h2 h3; subst h2 h3
   refine wp_seq (wp_mono (ihx _ _ _ a w loc h1 hl hz hr) ?_)
   rintro e' a' w' ⟨rfl,loc',h2,h3⟩
   exact ⟨rfl,loc',h2,h3⟩
  ·cases h
 | cond c x y ihx ihy =>
  intro τ e τ' a w loc h hl hz hr
  have hv := ev_R hr.slots c
  rw [zgw] at hv
  unfold runC at h
  split at h
  ·rename_i hc
   rw [hc] at hv
   exact wp_cond_true hv.wv (ihx _ _ _ a w loc h hl hz hr)
  ·rename_i hc
   rw [hc] at hv
   exact wp_cond_false hv.wv (ihy _ _ _ a w loc h hl hz hr)
  ·cases h
 | block id c ih =>
  intro τ e τ' a w loc h hl hz hr
  unfold runC at h
  split at h
  ·rename_i id' τ1 h1
   split at h
   ·rename_i he
    injection h with h; injection h with h2 h3; subst h2 h3
    refine wp_block (wp_mono (ih _ _ _ a w loc h1 hl hz hr) ?_)
    rintro e' a' w' ⟨rfl,loc',h2,h3⟩
    simp only [Exit.inBlock]
    rw [if_pos he]
    exact ⟨rfl,loc',h2,h3⟩
   ·rename_i he
    injection h with h; injection h with h2 h3; subst h2 h3
    refine wp_block (wp_mono (ih _ _ _ a w loc h1 hl hz hr) ?_)
    rintro e' a' w' ⟨rfl,loc',h2,h3⟩
    simp only [Exit.inBlock]
    rw [if_neg he]
    exact ⟨rfl,loc',h2,h3⟩
  ·rename_i τ1 h1
   injection h with h; injection h with h2 h3; subst h2 h3
   refine wp_block (wp_mono (ih _ _ _ a w loc h1 hl hz hr) ?_)
   rintro e' a' w' ⟨rfl,loc',h2,h3⟩
   exact ⟨rfl,loc',h2,h3⟩
  ·rename_i τ1 h1
   injection h with h; injection h with h2 h3; subst h2 h3
   refine wp_block (wp_mono (ih _ _ _ a w loc h1 hl hz hr) ?_)
   rintro e' a' w' ⟨rfl,loc',h2,h3⟩
   exact ⟨rfl,loc',h2,h3⟩
  ·cases h
 | loop c ih =>
  intro τ e τ' a w loc h hl hz hr
  unfold runC at h
  have hcp := zmh hT hS hSB hcall c
  let p : Act → World → Nat → Prop := fun a1 w1 k => ∃ τ1 loc1,ybf (runC T SB call c) k τ1 = some (e,τ') ∧ LowC τ1.H τ1.nx ∧ RelT Z w0 E loc1 τ1 a1 w1 ∧ Tn w loc τ.nx τ1.nx w1 loc1 ∧ τ.nx ≤ τ1.nx
  have hleast : ∀ a w,(∃ n,p a w n) → ∃ m,p a w m ∧ ∀ k,p a w k → m ≤ k := fun a w ⟨n,hn⟩ => let ⟨m,h1,_,h3⟩ := yqe n hn; ⟨m,h1,h3⟩
  open Classical in
  let μ : Act → World → Nat := fun a w => if h : ∃ n,p a w n then Classical.choose (hleast a w h) else 0
  refine wp_loop (fun a w => ∃ n,p a w n) μ ⟨_,τ,loc,h,hl,hr,Tn.refl _ _ _ _,Nat.le_refl _⟩ ?_
  intro a1 w1 hex
  have hμ : μ a1 w1 = Classical.choose (hleast a1 w1 hex) := dif_pos hex
  obtain ⟨hp,hmin⟩ := Classical.choose_spec (hleast a1 w1 hex)
  rw [← hμ] at hp hmin
  obtain ⟨τ1,loc1,h1,h2,h3,h4,h5⟩ := hp
  obtain ⟨k,hk⟩ : ∃ k,μ a1 w1 = k := ⟨_,rfl⟩
  rw [hk] at h1 hmin ⊢
  cases k with
  | zero => cases h1
  | succ k =>
   unfold ybf at h1
   split at h1
   ·rename_i τ2 h6
    have hp1 := hcp _ _ _ h6
    have hp2 := znw hcp _ _ _ _ h1
    refine wp_mono (ih _ _ _ a1 w1 loc1 h6 h2 (Nat.le_trans hp2.mono hz) h3) ?_
    rintro e' a2 w2 ⟨rfl,loc2,h7,h8⟩
    have hp' : p a2 w2 k := ⟨τ2,loc2,h1,hp1.low h2,h7,h4.trans h8 h5 hp1.mono,Nat.le_trans h5 hp1.mono⟩
    refine ⟨⟨k,hp'⟩,?_⟩
    have hμ' : μ a2 w2 = Classical.choose (hleast a2 w2 ⟨k,hp'⟩) := dif_pos ⟨k,hp'⟩
    have := (Classical.choose_spec (hleast a2 w2 ⟨k,hp'⟩)).2 k hp'
    rw [← hμ'] at this
    omega
   ·rename_i id τ2 h6
    injection h1 with h1; injection h1 with h9 h10; subst h9 h10
    refine wp_mono (ih _ _ _ a1 w1 loc1 h6 h2 hz h3) ?_
    rintro e' a2 w2 ⟨rfl,loc2,h7,h8⟩
    exact ⟨rfl,loc2,h7,h4.trans h8 h5 (hcp _ _ _ h6).mono⟩
   ·rename_i τ2 h6
    injection h1 with h1; injection h1 with h9 h10; subst h9 h10
    refine wp_mono (ih _ _ _ a1 w1 loc1 h6 h2 hz h3) ?_
    rintro e' a2 w2 ⟨rfl,loc2,h7,h8⟩
    exact ⟨rfl,loc2,h7,h4.trans h8 h5 (hcp _ _ _ h6).mono⟩
   ·cases h1
 | _ => intro τ e τ' a w loc h hl hz hr; cases h
end
theorem zrh {T : zae} {τ : CS} : ∀ {rs : List ResultVar} {l : List AV},zri T τ rs = some l → (rvals T (toH τ.H) (toS τ.n τ.sl) rs).1 ∧ (rvals T (toH τ.H) (toS τ.n τ.sl) rs).2 = l
 | [],l,h => by injection h with h; exact ⟨trivial,h⟩
 | .tmp t :: r,l,h => by
  unfold zri at h
  split at h
  ·rename_i l' h1
   injection h with h; subst h
   obtain ⟨a,b⟩ := zrh h1
   refine ⟨a,?_⟩
   have := zgw τ.n τ.sl (.tmp t)
   simp only [rvals,b]
   rw [← this]; rfl
  ·cases h
 | .cell x t :: r,l,h => by
  unfold zri at h
  split at h
  ·rename_i l' h1
   split at h
   ·rename_i y us h2
    injection h with h; subst h
    obtain ⟨a,b⟩ := zrh h1
    obtain ⟨c,d,_⟩ := yff (zar τ.H) _ _ h2
    have := zgw τ.n τ.sl (.tmp x)
    simp only [ev] at this
    rw [← this] at c d
    exact ⟨⟨c,a⟩,by simp only [rvals,b,d]⟩
   ·cases h
  ·cases h
theorem ydz {β : Type} : ∀ {xs : List AV} {k : Nat} {t : Tr AV} {κ : Tr AV → Option β} {z : β},ylg xs k t κ = some z → ∃ t',κ t' = some z ∧ ∀ i,sget t' i = if k ≤ i ∧ i < k + xs.length then xs.getD (i - k) .junk else sget t i
 | [],k,t,κ,z,h => ⟨t,h,fun i => by rw [if_neg (by simp only [List.length_nil]; omega)]⟩
 | x :: r,k,t,κ,z,h => by
  unfold ylg at h
  rw [zho] at h
  cases hk : Nat.blt k most with
  | false => rw [hk] at h; cases h
  | true =>
   rw [hk,cond_true,zga] at h
   obtain ⟨t',h1,h2⟩ := ydz (xs := r) h
   refine ⟨t',h1,fun i => ?_⟩
   rw [h2 i]
   have hm := zvl hk
   by_cases h3 : k + 1 ≤ i ∧ i < k + 1 + r.length
   ·rw [if_pos h3,if_pos ⟨by omega,by simp only [List.length_cons]; omega⟩]
    have : i - k = (i - (k + 1)) + 1 := by omega
    rw [this]; simp
   ·rw [if_neg h3]
    by_cases h4 : i = k
    ·subst h4
     rw [if_pos ⟨Nat.le_refl _,by simp only [List.length_cons]; omega⟩]
     simp only [Nat.sub_self,sget]
     rw [zjm _ _ _ _ hm,if_pos rfl]
     simp
    ·rw [if_neg (by simp only [List.length_cons]; omega)]
     simp only [sget]
     rw [zjm _ _ _ _ hm,if_neg h4]
theorem yfb {P : Program} {T : zae} (hm : P.follows .mixedOrders = true) (hT : TOk P T) {S : zak} {SB : zhw} (hS : Fns P S) (hSB : zhg P S SB) : ∀ k,zsf P (yic P T SB k)
 | 0 => by intro g args H nx fl x H' nz h; cases h
 | k + 1 => by
  intro g args H nx fl x H' nz h
  have ih := yfb hm hT hS hSB k
  unfold yic at h
  split at h
  ·rename_i fn hfn
   split at h
   ·rename_i c hbody
    cases hname : (fn.name == "runtime.NumGoroutine") with
    | true => rw [hname] at h; cases h
    | false =>
     rw [hname,cond_false] at h
     cases hle : Nat.ble args.length fn.ntmps with
     | false => rw [hle] at h; cases h
     | true =>
      rw [hle,cond_true] at h
      have hle := Nat.le_of_ble_eq_true hle
      obtain ⟨sl,h1,hsl⟩ := ydz h
      split at h1
      ·rename_i e τ hrun
       cases he : isEnd e with
       | false => rw [he] at h1; cases h1
       | true =>
        rw [he,cond_true] at h1
        split at h1
        ·rename_i l hl
         injection h1 with h1; injection h1 with hx h1; injection h1 with hH hnz
         subst hx hH hnz
         have hp := zmh hT hS hSB ih c _ _ _ hrun
         refine ⟨hp.mono,hp.new,⟨fn,hfn,by rw [hbody]; rfl,hname⟩,hp.old,?_⟩
         intro hlow w0 E w loc vs hlen hR hh henv hfree
         refine calls_of_wp hfn hbody ?_
         have hvs : vs.length ≤ fn.ntmps := by omega
         have hrel : RelT τ.nx w0 E loc ⟨sl,fn.ntmps,H,nx,fl⟩ { tmps := vs.toArray ++ Array.replicate (fn.ntmps - vs.toArray.size) undef,defers := [] } w := by
          refine ⟨by rw [zcl]; simp; omega,fun t => ?_,hh,henv,hfree,rfl⟩
          rw [zpb]
          by_cases ht : t < fn.ntmps
          ·rw [if_pos ht,hsl t]
           by_cases ht2 : t < args.length
           ·rw [if_pos ⟨Nat.zero_le _,by omega⟩]
            have e1 : args.getD (t - 0) .junk = args[t] := by simp [ht2]
            have e2 : (vs.toArray ++ Array.replicate (fn.ntmps - vs.toArray.size) undef).getD t undef = vs[t]'(by omega) := by
             have : t < vs.length := by omega
             simp [Array.getD_eq_getD_getElem?,Array.getElem?_append,this]
            rw [e1,e2]
            exact hR t ht2 _
           ·rw [if_neg (by omega)]
            exact .junk _
          ·rw [if_neg ht]; exact .junk _
         refine wp_mono (runC_ok hT hS hSB ih hm c _ _ _ _ w loc hrun hlow (Nat.le_refl _) hrel) ?_
         rintro e' a' w' ⟨rfl,loc',h3,h4⟩
         obtain ⟨hr1,hr2⟩ := zrh hl
         have hn := hp.n
         obtain ⟨v,hv,hvR⟩ := zjf (P := P) (fn := fn) hT h3.heap h3.slots hr1
         rw [hr2] at hvR
         have hpost : PostW w0 E w loc nx τ.nx (rone l) (toH τ.H) v w' loc' := ⟨hvR,h3.heap,h3.env,h4⟩
         cases e' with
         | normal => exact ⟨h3.defers,v,hv,v,loc',rfl,hpost⟩
         | ret => exact ⟨h3.defers,v,hv,v,loc',rfl,hpost⟩
         | _ => cases he
        ·cases h1
      ·cases h1
   ·cases h
  ·cases h
end Ax
end Go.Proofs.Ytioldmhhefhelaa
namespace Go.Proofs.Ytioldmhhefhelaa
namespace Ax
structure Wr (α : Type) where
 v : α
abbrev CopF := Nat → (Operand → AV) → (Nat → Option Blk) → Option (AV × Us)
def zzm (T : zae) (b : Builtin) (args : List Operand) (ts : List TypeId) : Wr CopF :=
 match b with
 | .len => match args,ts with
  | [x],[t] => ⟨fun _ e lk => cLen T t (e x) lk⟩
  | _,_ => ⟨fun _ _ _ => none⟩
 | .min => ⟨fun _ e _ => cMin (args.map e)⟩
 | .max => ⟨fun _ e _ => cMax (args.map e)⟩
 | .append => match args with
  | [d,x] => ⟨fun nm e lk => zwg T nm ts (e d) (e x) lk⟩
  | _ => ⟨fun _ _ _ => none⟩
 | .delete => match args,ts with
  | [d,x],t :: _ => ⟨fun _ e lk => zwe T t (e d) (e x) lk⟩
  | _,_ => ⟨fun _ _ _ => none⟩
 | .clear => match args,ts with
  | [x],[t] => ⟨fun _ e lk => yfk T t (e x) lk⟩
  | _,_ => ⟨fun _ _ _ => none⟩
 | .copy => match args with
  | [d,x] => ⟨fun _ e lk => yrv T ts (e d) (e x) lk⟩
  | _ => ⟨fun _ _ _ => none⟩
 | _ => ⟨fun _ _ _ => none⟩
theorem zzl (T : zae) (nm : Nat) (sl : List AV) (b : Builtin) (args : List Operand) (ts : List TypeId) (e : Operand → AV) (lk : Nat → Option Blk) : (zzm T b args ts).v nm e lk = zwf T nm sl b args ts e lk := by
 cases b <;> first | rfl | (rcases args with _ | ⟨x,_ | ⟨y,_ | ⟨z,r⟩⟩⟩ <;> rcases ts with _ | ⟨t,_ | ⟨u,v⟩⟩ <;> rfl)
def copS (T : zae) (op : Op) : Wr CopF :=
 match op with
 | .move x => ⟨fun _ e _ => some (e x,[])⟩
 | .assign x => ⟨fun _ e _ => some (e x,[])⟩
 | .pick c a b => ⟨fun _ e _ => yie (e c) (e a) (e b)⟩
 | .alloc t => ⟨fun nm _ _ => yfm T nm t⟩
 | .box t x => ⟨fun nm e _ => cBox T nm t (e x)⟩
 | .build t ps => ⟨fun _ e _ => yfl T t (ps.toList.map fun p => (p.1,e p.2))⟩
 | .buildSlice t n ps => ⟨fun nm e _ => zik T nm t n (ps.toList.map fun p => (p.1,e p.2))⟩
 | .load t a => ⟨fun _ e lk => ynp T t (e a) lk⟩
 | .store t a x => ⟨fun _ e lk => yfc T t (e a) (e x) lk⟩
 | .nilCheck x => ⟨fun _ e lk => cNil (e x) lk⟩
 | .binOp op t x y _ => ⟨fun _ e lk => cBin T op t (e x) (e y) lk⟩
 | .unOp op _ x => ⟨fun _ e _ => cUn op (e x)⟩
 | .convert s d x => ⟨fun nm e lk => bif coldStr T d && yqm (e x) then none else yrx T s d nm (e x) lk⟩
 | .makeSlice t l c => ⟨fun nm e _ => yrt T nm t (e l) (e c)⟩
 | .slice t x lo hi mx => ⟨fun _ e lk => bif mx.isSome && hi.isNone then none else yfd T t (e x) (lo.map e) (hi.map e) (mx.map e) lk⟩
 | .fieldAddr s x f => ⟨fun _ e lk => zkm T s (e x) f lk⟩
 | .field t x f => ⟨fun _ e _ => yfh T t (e x) f⟩
 | .indexAddr t x i => ⟨fun _ e lk => zkl T t (e x) (e i) lk⟩
 | .index t x i => ⟨fun _ e _ => yfg T t (e x) (e i)⟩
 | .extract x i => ⟨fun _ e _ => zpj (e x) i⟩
 | .makeFunc fn first caps => ⟨fun _ e _ => cFn fn first.toList (caps.toList.map e)⟩
 | .range t x => ⟨fun nm e lk => yfe T nm t (e x) lk⟩
 | .next x b => ⟨fun _ e lk => yrr (e x) b lk⟩
 | .makeMap _ r => ⟨fun nm _ _ => zwa nm r⟩
 | .lookup t x k ok => ⟨fun _ e lk => zwb T t (e x) (e k) ok lk⟩
 | .mapUpdate t x k v => ⟨fun _ e lk => zvz T t (e x) (e k) (e v) lk⟩
 | .entry x => ⟨fun _ e lk => yfj (e x) lk⟩
 | .call c => match c.callee with
  | .builtin b => zzm T b c.args.toList c.argTypes.toList
  | _ => ⟨fun _ _ _ => none⟩
 | _ => ⟨fun _ _ _ => none⟩
theorem copS_eq (T : zae) (nm : Nat) (e : Operand → AV) (lk : Nat → Option Blk) (op : Op) : (copS T op).v nm e lk = cop T nm e lk op := by
 cases op with
 | call c =>
  simp only [copS,cop]
  cases c.callee with
  | builtin b => exact zzl T nm [] b _ _ e lk
  | _ => rfl
 | _ => rfl
def spS (op : Op) : Bool :=
 match op with
 | .binOp _ _ _ (.const (.slice none 0 0)) _ => true
 | .call c => match c.callee with
  | .builtin .append => true
  | _ => false
 | _ => false
theorem ytg {T : zae} {e : Operand → AV} {lk : Nat → Option Blk} {op : Op} (h : spS op = false) : cSp T e lk op = none ∧ zpo e lk op = none := by
 constructor
 ·unfold cSp
  split
  ·rename_i b t x yt; simp [spS] at h
  ·rfl
 ·unfold zpo
  split
  ·rename_i c
   split
   ·rename_i hc; simp [spS,hc] at h
   ·rfl
  ·rfl
def ymf {β : Type} (x : AV) (κ : AV → β) : β := match x with
 | .w v => yed v fun v => κ (.w v)
 | .ms id s off len => zfe off fun off => zfe len fun len => κ (.ms id s off len)
 | .rf id s i f => zfe i fun i => zfe f fun f => κ (.rf id s i f)
 | .agg xs => zio zqu xs fun xs => κ (.agg xs)
 | .str bs => zkt bs fun bs => κ (.str bs)
 | .tup xs => zio zmv xs fun xs => κ (.tup xs)
 | .fn f xs => zio zqu xs fun xs => κ (.fn f xs)
 | x => yee x κ
theorem yme {β : Type} (x : AV) (κ : AV → β) : ymf x κ = κ x := by cases x <;> simp only [ymf,zym,zfd,zjn,zmu,zff zqt,zff zho]
section
variable (T : zae) (SB : zhw)
abbrev ValF := zdl → CS → Option (AV × Tr Blk × Nat)
noncomputable def ydn (op : Op) : Wr ValF :=
 match copS T op with
 | ⟨f⟩ => match spS op with
  | true => ⟨fun _ τ => zlf T τ op⟩
  | false => ⟨fun _ τ => match f τ.nx (evC τ.n τ.sl) τ.H.get with
   | some (x,us) => appF τ.fl us τ.H fun H => zfe (τ.nx + 8) fun nz => some (x,H,nz)
   | none => none⟩
noncomputable def valS (q : Bool) (op : Op) : Wr ValF :=
 match op with
 | .call c => match c.callee with
  | .value f => ⟨fun call τ => zxg T SB call τ q (.call c)⟩
  | _ => ydn T (.call c)
 | op => ydn T op
theorem zxd (call : zdl) (τ : CS) (op : Op) : (ydn T op).v call τ = zlf T τ op := by
 unfold ydn
 have hc := copS_eq T τ.nx (evC τ.n τ.sl) τ.H.get op
 cases hf : copS T op with
 | mk f =>
  rw [hf] at hc
  cases hs : spS op with
  | true => rfl
  | false =>
   simp only
   unfold zlf
   rw [(ytg (T := T) hs).1,(ytg (T := T) hs).2,← hc]
   try rfl
theorem valS_eq (call : zdl) (q : Bool) (τ : CS) (op : Op) : (valS T SB q op).v call τ = zxg T SB call τ q op := by
 cases op with
 | call c =>
  simp only [valS]
  cases hc : c.callee with
  | value f => rfl
  | _ => simp only [zxg,hc]; exact zxd T call τ (.call c)
 | _ => simp only [valS,zxg]; exact zxd T call τ _
abbrev StepF := zdl → CS → Option CS
noncomputable def zxi (q : Bool) (o : Oper) : Wr StepF :=
 match valS T SB q o.op with
 | ⟨f⟩ => match o.dst with
  | none => ⟨fun call τ => match f call τ with
   | some (x,H,nz) => some ⟨τ.sl,τ.n,H,nz,τ.fl⟩
   | none => none⟩
  | some d => ⟨fun call τ => match f call τ with
   | some (x,H,nz) => ymf x fun x => bif Nat.blt d τ.n && Nat.blt d most then Tr.setK τ.sl d (some x) fun sl => some ⟨sl,τ.n,H,nz,τ.fl⟩ else none
   | none => none⟩
theorem zxh (call : zdl) (q : Bool) (τ : CS) (o : Oper) : (zxi T SB q o).v call τ = ygz T SB call τ q o := by
 unfold zxi ygz
 have hv := valS_eq T SB call q τ o.op
 cases hf : valS T SB q o.op with
 | mk f =>
  rw [hf] at hv
  simp only at hv
  rw [← hv]
  cases hd : o.dst with
  | none =>
   simp only
   cases f call τ with
   | none => rfl
   | some r => obtain ⟨x,H,nz⟩ := r; simp only [zmu,putK]
  | some d =>
   simp only
   cases f call τ with
   | none => rfl
   | some r => obtain ⟨x,H,nz⟩ := r; simp only [zmu,yme,putK]
noncomputable def ypm (ops : List Oper) (q : Bool) (o : Oper) : Wr StepF :=
 match o.guard with
 | none => zxi T SB q o
 | some (j,want) => match guardSlot ops j with
  | none => ⟨fun _ _ => none⟩
  | some d => match zxi T SB q o with
   | ⟨f⟩ => ⟨fun call τ => match evC τ.n τ.sl (.tmp d) with
    | .w (.bool b) => bif b == want then f call τ else ztl τ o
    | .tup [] => ztl τ o
    | _ => none⟩
theorem ypl (call : zdl) (ops : List Oper) (q : Bool) (τ : CS) (o : Oper) : (ypm T SB ops q o).v call τ = znl T SB call ops q τ o := by
 unfold ypm znl
 cases hg : o.guard with
 | none => exact zxh T SB call q τ o
 | some g =>
  obtain ⟨j,want⟩ := g
  simp only
  cases hs : guardSlot ops j with
  | none => rfl
  | some d =>
   simp only
   have hv := zxh T SB call q τ o
   cases hf : zxi T SB q o with
   | mk f =>
    rw [hf] at hv
    simp only at hv ⊢
    rw [← hv]
    try rfl
noncomputable def zje (ops : List Oper) (q : Nat → Bool) : Nat → List Oper → Wr StepF
 | _,[] => ⟨fun _ τ => some τ⟩
 | k,o :: r => match ypm T SB ops (q k) o,zje ops q (k + 1) r with
  | ⟨f⟩,⟨g⟩ => ⟨fun call τ => match f call τ with
   | some τ => g call τ
   | none => none⟩
theorem ztg (call : zdl) (ops : List Oper) (q : Nat → Bool) : ∀ (k : Nat) (l : List Oper) (τ : CS),(zje T SB ops q k l).v call τ = zgs T SB call ops q k l τ
 | _,[],τ => rfl
 | k,o :: r,τ => by
  unfold zje zgs
  have h1 := fun τ => ypl T SB call ops (q k) τ o
  have h2 := fun τ => ztg call ops q (k + 1) r τ
  cases hf : ypm T SB ops (q k) o with
  | mk f =>
   cases hg : zje T SB ops q (k + 1) r with
   | mk g =>
    rw [hf] at h1
    rw [hg] at h2
    simp only at h1 h2 ⊢
    rw [← h1]
    cases f call τ with
    | none => rfl
    | some τ => exact h2 τ
abbrev CodeF := zdl → CS → Option (Exit × CS)
noncomputable def zhq : Code → Wr CodeF
 | .skip => ⟨fun _ τ => some (.normal,τ)⟩
 | .label _ => ⟨fun _ τ => some (.normal,τ)⟩
 | .region _ ops draw => match draw with
  | true => match zjp (fun i => zdg T ((zol T ops.toList).getD i false)) ops.toList with
   | true => match zje T SB ops.toList (fun i => (zol T ops.toList).getD i false) 0 ops.toList with
    | ⟨f⟩ => ⟨fun call τ => match f call τ with | some τ => some (.normal,τ) | none => none⟩
   | false => ⟨fun _ _ => none⟩
  | false => match zje T SB ops.toList (fun _ => false) 0 ops.toList with
   | ⟨f⟩ => ⟨fun call τ => match f call τ with | some τ => some (.normal,τ) | none => none⟩
 | .seq a b => match zhq a,zhq b with
  | ⟨f⟩,⟨g⟩ => ⟨fun call τ => match f call τ with
   | some (.normal,τ) => g call τ
   | some (.exit id,τ) => some (.exit id,τ)
   | some (.ret,τ) => some (.ret,τ)
   | _ => none⟩
 | .cond c a b => match zhq a,zhq b with
  | ⟨f⟩,⟨g⟩ => ⟨fun call τ => match evC τ.n τ.sl c with
   | .w (.bool true) => f call τ
   | .w (.bool false) => g call τ
   | _ => none⟩
 | .block id c => match zhq c with
  | ⟨f⟩ => ⟨fun call τ => match f call τ with
   | some (.exit id',τ) => if id' = id then some (.normal,τ) else some (.exit id',τ)
   | some (.normal,τ) => some (.normal,τ)
   | some (.ret,τ) => some (.ret,τ)
   | _ => none⟩
 | .loop c => match zhq c with
  | ⟨f⟩ => ⟨fun call τ => ybf (f call) 1000000 τ⟩
 | .exit id => ⟨fun _ τ => some (.exit id,τ)⟩
 | .ret => ⟨fun _ τ => some (.ret,τ)⟩
 | _ => ⟨fun _ _ => none⟩
theorem yri (call : zdl) : ∀ (c : Code) (τ : CS),(zhq T SB c).v call τ = runC T SB call c τ := by
 intro c
 induction c with
 | region id ops draw =>
  intro τ
  have key : ∀ q,(match zje T SB ops.toList q 0 ops.toList with | ⟨f⟩ => (⟨fun call τ => match f call τ with | some τ => some (.normal,τ) | none => none⟩ : Wr CodeF)).v call τ = (match zgs T SB call ops.toList q 0 ops.toList τ with | some τ => some (.normal,τ) | none => none) := by
   intro q
   have h := ztg T SB call ops.toList q 0 ops.toList τ
   cases hf : zje T SB ops.toList q 0 ops.toList with
   | mk f =>
    rw [hf] at h
    simp only at h ⊢
    rw [h]
  unfold zhq runC
  cases draw with
  | false => exact key _
  | true =>
   simp only [cond_true]
   cases zjp (fun i => zdg T ((zol T ops.toList).getD i false)) ops.toList with
   | true => exact key _
   | false => rfl
 | seq a b iha ihb =>
  intro τ
  unfold zhq runC
  cases hf : zhq T SB a with
  | mk f =>
   cases hg : zhq T SB b with
   | mk g =>
    rw [hf] at iha
    rw [hg] at ihb
    simp only at iha ihb ⊢
    rw [← iha]
    cases f call τ with
    | none => rfl
    | some r =>
     obtain ⟨e,τ'⟩ := r
     cases e <;> first | rfl | exact ihb τ'
 | cond c a b iha ihb =>
  intro τ
  unfold zhq runC
  cases hf : zhq T SB a with
  | mk f =>
   cases hg : zhq T SB b with
   | mk g =>
    rw [hf] at iha
    rw [hg] at ihb
    simp only at iha ihb ⊢
    rw [← iha,← ihb]
    try rfl
 | block id c ih =>
  intro τ
  unfold zhq runC
  cases hf : zhq T SB c with
  | mk f =>
   rw [hf] at ih
   simp only at ih ⊢
   rw [← ih]
   try rfl
 | loop c ih =>
  intro τ
  unfold zhq runC
  cases hf : zhq T SB c with
  | mk f =>
   rw [hf] at ih
   simp only at ih ⊢
   have : f call = runC T SB call c := funext ih
   rw [this]
 | _ => intro τ; rfl
end
structure FnS where
 n : Nat
 f : CodeF
 rs : List ResultVar
noncomputable def funS (P : Program) (T : zae) (SB : zhw) (g : FuncId) : Option FnS :=
 match P.funcs[g]? with
 | some fn => match fn.body with
  | some c => match fn.name == "runtime.NumGoroutine" with
   | true => none
   | false => match zhq T SB c with
    | ⟨f⟩ => some ⟨fn.ntmps,f,fn.results.toList⟩
  | none => none
 | none => none
noncomputable def yro (P : Program) (T : zae) (SB : zhw) : Nat → zdl
 | 0,_,_,_,_,_ => none
 | k + 1,g,args,H,nx,fl => match funS P T SB g with
  | some ⟨n,f,rs⟩ => bif Nat.ble args.length n then
    ylg args 0 .leaf fun sl => match f (yro P T SB k) ⟨sl,n,H,nx,fl⟩ with
     | some (e,τ) => bif isEnd e then (match zri T τ rs with
       | some l => some (rone l,τ.H,τ.nx)
       | none => none) else none
     | none => none
    else none
  | none => none
theorem yfa (P : Program) (T : zae) (SB : zhw) : ∀ k,yro P T SB k = yic P T SB k
 | 0 => by funext g args H nx fl; rfl
 | k + 1 => by
  funext g args H nx fl
  unfold yro yic funS
  rw [yfa P T SB k]
  cases P.funcs[g]? with
  | none => rfl
  | some fn =>
   simp only
   cases fn.body with
   | none => rfl
   | some c =>
    simp only
    cases (fn.name == "runtime.NumGoroutine") with
    | true => rfl
    | false =>
     have h := yri T SB (yic P T SB k) c
     cases hf : zhq T SB c with
     | mk f =>
      rw [hf] at h
      simp only at h ⊢
      simp only [cond_false,h]
      try rfl
end Ax
end Go.Proofs.Ytioldmhhefhelaa
namespace Go.Proofs.Ytioldmhhefhelaa
namespace Ax
def opq : AV := .ms 0 1 0 0
def locD (bad : Nat → Prop) : Loc := { m := fun id => if id = 0 then .dead else .free,bad }
theorem opq_R {w : World} {bad : Nat → Prop} {x v : Value} (h : R w (zaw [] bad) (.w x) v) : R w (locD bad) opq v := by
 have hv := h.wv
 subst hv
 cases h with
 | w _ h1 => exact .ms 0 1 0 0 _ (by unfold Owns locD; simpa using h1)
noncomputable def yav (P : Program) (T : zae) (SB : zhw) (k : Nat) (g : FuncId) (args : List AV) : Bool :=
 match yro P T SB k g args .leaf 8 0 with
 | some (.w (.bool true),_,_) => true
 | _ => false
theorem zwp {P : Program} {T : zae} (hm : P.follows .mixedOrders = true) (hT : TOk P T) {S : zak} {SB : zhw} (hS : Fns P S) (hSB : zhg P S SB) {k : Nat} {g : FuncId} {args : List AV} {spec : zan}
  (hs : ∀ xs pins,(spec xs pins).p → pins = [] ∧ xs.length = args.length ∧ (spec xs pins).x = .w (.bool true) ∧ (spec xs pins).bl = [] ∧ ∀ (w : World) (bad : Nat → Prop) (j : Nat) (h : j < xs.length) (h' : j < args.length) (v : Value),R w (zaw [] bad) xs[j] v → R w (locD bad) args[j] v)
  (h : yav P T SB k g args = true) : zaz P g spec := by
 unfold yav at h
 rw [yfa] at h
 split at h
 ·rename_i H nz hc
  obtain ⟨_,_,_,_,h3⟩ := yfb hm hT hS hSB k _ _ _ _ _ _ _ _ hc
  intro xs pins hp _ w bad pb vs hlen hnd hbad hlies hxl hx
  obtain ⟨rfl,hxa,hx1,hbl,hR⟩ := hs xs pins hp
  obtain rfl : pb = [] := List.eq_nil_of_length_eq_zero hlen
  have hfree : ∀ id,(zaw [] bad).m id = .free := fun id => by simp [zaw]
  have hno : ∀ i b,(locD bad).m i ≠ .here b := fun i b h => by unfold locD at h; simp only at h; split at h <;> cases h
  have henv : Env w (· ∈ ([] : List Nat)) w (locD bad) := ⟨rfl,rfl,rfl,Nat.le_refl _,fun _ _ _ => rfl,fun i j b hi => (hno i b hi).elim,fun i b hi => (hno i b hi).elim,fun b hb => hbad b hb⟩
  refine (h3 (fun id b hb => by rw [zer] at hb; cases hb) w _ w (locD bad) vs (by omega) (fun j hj hj' => hR w bad j (by omega) hj _ (hx j (by omega) hj')) (fun id b hb => by rw [zar,zer] at hb; cases hb) henv (fun id h1 _ => by unfold locD; simp only; rw [if_neg (by omega)])).mono ?_
  rintro e w' ⟨v,loc',rfl,hq⟩
  have hv := hq.r.wv
  subst hv
  refine ⟨_,zaw [] bad,rfl,?_⟩
  refine ⟨by rw [hx1]; exact .w _ rfl,rfl,(fun k hk => by rw [hbl] at hk; simp at hk),(fun k hk => by simp at hk),(fun k b _ hb => by rw [hfree] at hb; cases hb),fun k _ => hfree k,(fun i j b hi => by rw [hfree] at hi; cases hi),?_⟩
  exact ⟨hq.env.os,hq.env.tape,hq.env.output,hq.env.size,hq.env.same,fun b cur e fz hE => by simp at hE⟩
 ·cases h
end Ax
open Ax
theorem ypd {S : zak} {SB : zhw} (hS : Fns Try.prog S) (hSB : zhg Try.prog S SB) {g : FuncId} (h : yav Try.prog ty SB 60 g [] = true) : zaz Try.prog g yesS :=
 zwp mixed ty_ok hS hSB (fun xs pins hp => by
  unfold yesS at hp ⊢
  split at hp
  ·exact ⟨rfl,rfl,rfl,rfl,fun w bad j h => by simp at h⟩
  ·exact hp.elim) h
end Go.Proofs.Ytioldmhhefhelaa
namespace Go.Proofs.Ytioldmhhefhelaa
open Ax
section
set_option maxRecDepth 100000
set_option maxHeartbeats 2000000
def zyy : zan
 | [.sg 3 [] true],[] => ⟨True,.sg 3 [] true,[]⟩
 | _,_ => zbg
theorem ycc : zaz Try.prog 55 zyy := by
 refine zbo (S := noS) (SO := noO) (T := ty) mixed ty_ok zbh zhl Try.func55 (c := Try.f55.body.getD .skip) (by kernel_rfl) (fun xs pins hp _ => ?_)
 unfold zyy at hp ⊢
 split at hp
 ·refine ⟨by simp,yer,by kernel_rfl,?_⟩
  unfold Try.f55
  simp only [go_sem,zaa,↓reduceIte,lcT,ty,noS,yer,zfm,List.length_nil]
  repeat (refine And.intro (by omega) ?_)
  intro b
  refine ⟨fun hb => ?_,fun hb => ?_⟩
  ·refine ⟨_,zhi 2 (.sg 3 [] true) (fun w loc v h => zpd 3 h),?_⟩
   simp only [go_sem,zaa,↓reduceIte,lcT,ty,noS]
  ·refine ⟨_,zhi 2 (.sg 3 [] true) (fun w loc v h => zpd 3 h),?_⟩
   simp only [go_sem,zaa,↓reduceIte,lcT,ty,noS]
 ·exact hp.elim
def zrk : zan
 | [.sg 1 [.str a,.str b] f],[] => ⟨True,.ms 0 1 0 2,[.g 1 [.str a,.str b]]⟩
 | _,_ => zbg
theorem ycb : zaz Try.prog 68 zrk := by
 refine zbo (S := noS) (SO := noO) (T := ty) mixed ty_ok zbh zhl Try.func68 (c := Try.f68.body.getD .skip) (by kernel_rfl) (fun xs pins hp _ => ?_)
 unfold zrk at hp ⊢
 split at hp
 ·rename_i a b f _
  refine ⟨by simp,yhv,by kernel_rfl,?_⟩
  unfold Try.f68
  have h2 : ([AV.str a,AV.str b] : List AV).length = 2 := rfl
  have htop : 2 ≤ top := by unfold top; omega
  simp only [go_sem,zaa,↓reduceIte,lcT,ty,noS,yhv,zfm,h2]
  repeat (refine And.intro (by omega) ?_)
  intro b hb
  obtain rfl : b = false := by cases b with | false => rfl | true => exact absurd (hb rfl) (by decide)
  simp only [go_sem,zaa,↓reduceIte,lcT,ty,noS,yhv,zfm,h2,cond_false]
  repeat (refine And.intro (by first | exact htop | omega) ?_)
  refine ⟨_,Weak.refl _,?_⟩
  simp only [go_sem,zaa,↓reduceIte,lcT,ty,noS,h2,cond_false]
 ·exact hp.elim
end
def Sb20 (f : FuncId) : Option zan :=
 match f with
 | 68 => some zrk
 | 55 => some zyy
 | _ => none
theorem Sb20_ok : Fns Try.prog Sb20 := by
 intro f s h
 unfold Sb20 at h
 split at h
 ·injection h with h; subst h; exact ⟨⟨_,Try.func68,by kernel_rfl,by kernel_rfl⟩,ycb⟩
 ·injection h with h; subst h; exact ⟨⟨_,Try.func55,by kernel_rfl,by kernel_rfl⟩,ycc⟩
 ·cases h
noncomputable def ytr (A : List AV) (lk : Nat → Option Blk) (nm : Nat) : Option (AV × Us) :=
 match A with
 | [.sg s [] f] => bif Nat.beq s 3 && f then some (.sg 3 [] true,[]) else none
 | _ => none
noncomputable def hSt20 (A : List AV) (lk : Nat → Option Blk) (nm : Nat) : Option (AV × Us) :=
 match A with
 | [.sg s [.str a,.str b] f] => bif Nat.beq s 1 then some (.ms nm 1 0 2,[(nm,some (.g 1 [.str a,.str b]))]) else none
 | _ => none
def So20 (f : FuncId) : Option zan :=
 match f with
 | 39 => some (delS 3 zaI20)
 | _ => none
theorem So20_ok : FnsO Try.prog So20 := by
 intro f s h
 unfold So20 at h
 split at h
 ·injection h with h; subst h; exact ⟨⟨_,Try.func39,by kernel_rfl,by kernel_rfl⟩,zmz⟩
 ·cases h
noncomputable def hDe20 (A : List AV) (lk : Nat → Option Blk) (nm : Nat) : Option (AV × Us) :=
 match A with
 | [.ms id s off len,.w (.int .i64 (.ofNat i)),.w (.int .i64 (.ofNat j))] => bif Nat.beq s 3 && (Nat.beq off 0 && (Nat.beq len 2 && (Nat.beq i 0 && Nat.beq j 1))) then (match lk id with
   | some (.g t [x,y]) => bif Nat.beq t 3 && (x.closed && y.closed) then some (.ms id 3 0 1,[(id,some (.g 3 [y,zaI20]))]) else none
   | _ => none) else none
 | _ => none
noncomputable def B20 : zhw := fun g => bif Nat.beq g 39 then some hDe20 else bif Nat.beq g 68 then some hSt20 else bif Nat.beq g 55 then some ytr else none
theorem B20_ok : zhg Try.prog Sb20 B20 := by
 intro g h e
 unfold B20 at e
 cases hd0 : Nat.beq g 39 with
 | true =>
  rw [hd0,cond_true] at e
  injection e with e
  subst e
  have hg := Nat.eq_of_beq_eq_true hd0
  subst hg
  refine .inr ⟨So20,So20_ok,fun A H lk nm hl x us hx => ?_⟩
  unfold hDe20 at hx
  split at hx
  ·rename_i id s off len i j
   cases hc : (Nat.beq s 3 && (Nat.beq off 0 && (Nat.beq len 2 && (Nat.beq i 0 && Nat.beq j 1)))) with
   | false => rw [hc] at hx; cases hx
   | true =>
    rw [hc,cond_true] at hx
    simp only [Bool.and_eq_true] at hc
    obtain ⟨a1,a2,a3,a4,a5⟩ := hc
    have a1 := Nat.eq_of_beq_eq_true a1
    have a2 := Nat.eq_of_beq_eq_true a2
    have a3 := Nat.eq_of_beq_eq_true a3
    have a4 := Nat.eq_of_beq_eq_true a4
    have a5 := Nat.eq_of_beq_eq_true a5
    subst a1 a2 a3 a4 a5
    split at hx
    ·rename_i t x0 y0 hk
     cases hc : (Nat.beq t 3 && (x0.closed && y0.closed)) with
     | false => rw [hc] at hx; cases hx
     | true =>
      rw [hc,cond_true] at hx
      simp only [Bool.and_eq_true] at hc
      obtain ⟨b1,b2,b3⟩ := hc
      have b1 := Nat.eq_of_beq_eq_true b1
      subst b1
      injection hx with hx
      injection hx with hx1 hx2
      subst hx1 hx2
      have hH : Ax.look H id = some (.g 3 [x0,y0]) := by rw [hl]; exact hk
      have hi := zoe x0 b2
      have hi2 := zoe y0 b3
      have hS : So20 39 = some (delS 3 zaI20) := rfl
      have hk : (Blk.g 3 [x0,y0]).closed = true := by simp [Blk.closed,closedL,b2,b3]
      have hr : reach H 12 [] [id] = [id] := by simp [reach,hH,Blk.idsB,hk]
      have hA : idsL [AV.ms id 3 0 2,AV.w (Value.int IntKind.i64 (Int.ofNat 0)),AV.w (Value.int IntKind.i64 (Int.ofNat 1))] = [id] := rfl
      unfold aOpen
      rw [hS,hA,hr]
      have hp : pinsR H (idxOf [id]) [id] = [.g 3 [x0,y0]] := by simp [pinsR,hH,Blk.renB,hk]
      have hn : renL (idxOf [id]) [AV.ms id 3 0 2,AV.w (Value.int IntKind.i64 (Int.ofNat 0)),AV.w (Value.int IntKind.i64 (Int.ofNat 1))] = [AV.ms 0 3 0 2,AV.w (Value.int IntKind.i64 0),AV.w (Value.int IntKind.i64 1)] := by simp [renL,AV.ren,idxOf,idx]
      have hd : delL [x0,y0] 2 (Int.toNat 0) zaI20 = [y0,zaI20] := rfl
      have hz : zaI20.closed = true := rfl
      have hzi : zaI20.ids = [] := rfl
      have hzr : ∀ g,zaI20.ren g = zaI20 := fun g => rfl
      simp only [hp,hn,delS,openOut,hd]
      refine ⟨⟨⟨by simp [nodup],?_,by simp [allIn,idsL,AV.ids],?_⟩,by simp,by simp,by simp⟩,rfl,fun k => ?_⟩
      ·simp [walk,sidsLH,AV.sidsH,hH]
      ·simp [pinsIn,hH,allIn,Blk.idsB,hk]
      ·simp [backO,Blk.isGone,gOf,Blk.renB,Blk.closed,closedL,upd,zau,hl,b3,hz,eq_comm]
    ·cases hx
  ·cases hx
 | false =>
  rw [hd0,cond_false] at e
  cases hs0 : Nat.beq g 68 with
  | true =>
   rw [hs0,cond_true] at e
   injection e with e
   subst e
   have hg := Nat.eq_of_beq_eq_true hs0
   subst hg
   refine .inl fun A H lk nm hl x us hx => ?_
   unfold hSt20 at hx
   split at hx
   ·rename_i s a b f
    cases hc : Nat.beq s 1 with
    | false => rw [hc] at hx; cases hx
    | true =>
     rw [hc,cond_true] at hx
     have b1 := Nat.eq_of_beq_eq_true hc
     subst b1
     injection hx with hx
     injection hx with hx1 hx2
     subst hx1 hx2
     have hS : Sb20 68 = some zrk := rfl
     unfold aUser
     rw [hS]
     refine ⟨?_,?_,fun k => ?_⟩
     ·simp [callOut,rootsL,AV.roots,lentIdsL,AV.lentIds,pinsOf,nodup,lendL,lend,zrk,closedB,Blk.closed,closedL,AV.closed]
     ·simp [callOut,rootsL,AV.roots,lentIdsL,AV.lentIds,pinsOf,nodup,lendL,lend,zrk,AV.ren,gOf]
     ·simp [callOut,rootsL,AV.roots,lentIdsL,AV.lentIds,pinsOf,nodup,lendL,lend,zrk,back,zif,dropAll,closedB,upd,hl,gOf,zau,eq_comm (a := nm) (b := k)]
   ·cases hx
  | false =>
   rw [hs0,cond_false] at e
   cases h0 : Nat.beq g 55 with
   | true =>
    rw [h0,cond_true] at e
    injection e with e
    subst e
    have hg := Nat.eq_of_beq_eq_true h0
    subst hg
    refine .inl fun A H lk nm hl x us hx => ?_
    unfold ytr at hx
    split at hx
    ·rename_i s f
     cases hc : (Nat.beq s 3 && f) with
     | false => rw [hc] at hx; cases hx
     | true =>
      rw [hc,cond_true] at hx
      simp only [Bool.and_eq_true] at hc
      obtain ⟨b1,rfl⟩ := hc
      have b1 := Nat.eq_of_beq_eq_true b1
      subst b1
      injection hx with hx
      injection hx with hx1 hx2
      subst hx1 hx2
      have hS : Sb20 55 = some zyy := rfl
      unfold aUser
      rw [hS]
      simp [callOut,rootsL,AV.roots,lentIdsL,AV.lentIds,pinsOf,nodup,lendL,lend,zyy,AV.ren,back,zif,dropAll,closedB,upd,hl]
    ·cases hx
   | false =>
    rw [h0,cond_false] at e
    cases e
end Go.Proofs.Ytioldmhhefhelaa
namespace Go.Proofs.Ytioldmhhefhelaa
open Ax
section
set_option maxRecDepth 100000
theorem yij : zaz Try.prog 5 yesS := ypd Sb20_ok B20_ok (by kernel_rfl)
end
end Go.Proofs.Ytioldmhhefhelaa
namespace Go.Proofs.Ytioldmhhefhelaa
open Ax
def caS : zan
 | [.agg [.w (.int .i64 gn),.w (.int .u8 ph),.sg 3 xs f],.agg [.w (.int .u8 k),.str d,.w (.int .i64 g),.w (.int .i64 p),.w (.int .i64 n)]],[] =>
  ⟨(0 ≤ ph ∧ n ≤ 9223372036854775807 ∧ d.length ≤ 9223372036854775807) ∧ xs.length ≤ 9223372036854775807 ∧ ∃ l : List Mb,xs = l.map mbA ∧ ∀ r ∈ l,r.d.length ≤ 9223372036854775807,.w (.bool true),[]⟩
 | _,_ => zbg
def yin (f : FuncId) : Option zan :=
 match f with
 | 5 => some yesS
 | 4 => some rliS
 | 6 => some ooS
 | 9 => some ooS
 | 7 => some doS
 | 8 => some rsaS
 | _ => none
theorem yso : Fns Try.prog yin := by
 intro f s h
 unfold yin at h
 split at h
 ·injection h with h; subst h; exact ⟨⟨_,Try.func5,by kernel_rfl,by kernel_rfl⟩,yij⟩
 ·injection h with h; subst h; exact ⟨⟨_,Try.func4,by kernel_rfl,by kernel_rfl⟩,yjx⟩
 ·injection h with h; subst h; exact ⟨⟨_,Try.func6,by kernel_rfl,by kernel_rfl⟩,ypz⟩
 ·injection h with h; subst h; exact ⟨⟨_,Try.func9,by kernel_rfl,by kernel_rfl⟩,ydo⟩
 ·injection h with h; subst h; exact ⟨⟨_,Try.func7,by kernel_rfl,by kernel_rfl⟩,yrb⟩
 ·injection h with h; subst h; exact ⟨⟨_,Try.func8,by kernel_rfl,by kernel_rfl⟩,zwy⟩
 ·cases h
theorem do_ok (gn ph : Int) (l : List Mb) (f1 f2 : Bool) (k : Int) (d : List UInt8) (g p n : Int) : ∃ (g1 p1 g2 p2 : Int) (l1 l2 : List Mb) (h1 h2 : Bool),doA gn ph l f1 f2 k d g p n = .tup [grA g1 p1 l1 h1,grA g2 p2 l2 h2,.w (.bool true)] := by
 have hb : ∀ x : JR,∃ (g1 p1 g2 p2 : Int) (l1 l2 : List Mb) (h1 h2 : Bool),zst gn ph l f1 f2 x = .tup [grA g1 p1 l1 h1,grA g2 p2 l2 h2,.w (.bool true)] := by
  intro x; unfold zst; split <;> exact ⟨_,_,_,_,_,_,_,_,rfl⟩
 unfold doA
 split
 ·exact hb _
 ·split
  ·exact hb _
  ·split
   ·exact hb _
   ·split
    ·exact hb _
    ·exact ⟨_,_,_,_,_,_,_,_,rfl⟩
def caPl : Plan := fun id => match id with
 | 5 => some [(3,4)]
 | _ => none
section
set_option maxRecDepth 100000
set_option maxHeartbeats 16000000
theorem ca_law : zaz Try.prog 3 caS := by
 refine zfg (S := yin) (T := ty) (pl := caPl) mixed ty_ok yso Try.func3 (c := Try.f3.body.getD .skip) (by kernel_rfl) (by kernel_rfl) (fun xs pins hp _ => ?_)
 unfold caS at hp ⊢
 split at hp
 ·rename_i gn ph xs f k d g p n _
  obtain ⟨⟨hph,hn9,hd9⟩,hL9,l,rfl,hd⟩ := hp
  rw [List.length_map] at hL9
  have hle : (l.map mbA).length = l.length := by simp
  have hex : ∃ k : List Mb,l.map mbA = k.map mbA := ⟨l,rfl⟩
  have hxd : ∃ k : List Mb,l.map mbA = k.map mbA ∧ ∀ r ∈ k,r.d.length ≤ 9223372036854775807 := ⟨l,rfl,hd⟩
  have tr : ∀ k : Int,(k = k) = True := fun k => eq_true rfl
  have trl : ∀ k : List AV,(k = k) = True := fun k => eq_true rfl
  have hF := And.intro hle <| And.intro hph <| And.intro hn9 <| And.intro hd9 <| And.intro hL9 <| And.intro hxd <| And.intro hex <| And.intro zav <| And.intro zch <| And.intro zaj <| And.intro zad <| And.intro zaq <| And.intro tr trl
  refine ⟨by simp,?_⟩
  unfold Try.f3
  cases hB : zvj l with
  | false => 
   simp only [go_sem,zac,↓reduceIte,lcT,ty,yin,caPl,yesS,rliS,hF,hB,Bool.not_true,Bool.not_false]
   try (refine ⟨_,Weak.refl _,?_⟩)
   try simp only [go_sem,zac,↓reduceIte,lcT,ty,hF]
  | true =>
   have hl30 : l.length ≤ 30 := by unfold zvj at hB; simp only [Bool.and_eq_true,decide_eq_true_eq] at hB; exact hB.1
   have hL : l.length ≤ 900000 := by omega
   by_cases h6 : 60 < d.length
   ·have d3 : decide ((60 : Int) < (d.length : Int)) = true := decide_eq_true (by omega)
    simp only [go_sem,zac,↓reduceIte,lcT,ty,yin,caPl,yesS,rliS,hF,hB,d3,Bool.not_true,Bool.not_false]
    try (refine ⟨_,Weak.refl _,?_⟩)
    try simp only [go_sem,zac,↓reduceIte,lcT,ty,hF]
   ·have d3 : decide ((60 : Int) < (d.length : Int)) = false := decide_eq_false (by omega)
    obtain ⟨g1,p1,g2,p2,l1,l2,h1,h2,hdo⟩ := do_ok gn ph l false f k d g p n
    unfold grA at hdo
    simp (config := { maxSteps := 3000000 }) only [go_sem,zac,↓reduceIte,lcT,ty,yin,caPl,yesS,rliS,ooS,doS,rsaS,hF,hB,hL,d3,hdo,Bool.not_true,Bool.not_false]
    try (refine ⟨_,Weak.refl _,?_⟩)
    try simp only [go_sem,zac,↓reduceIte,lcT,ty,hF]
 ·exact hp.elim
end
theorem yfx : ∀ (xs : List AV),(∀ x ∈ xs,∃ r : Mb,x = mbA r ∧ r.d.length ≤ 9223372036854775807) → ∃ rs : List Mb,xs = rs.map mbA ∧ ∀ r ∈ rs,r.d.length ≤ 9223372036854775807
 | [],_ => ⟨[],rfl,by simp⟩
 | x :: xs,h => by
  obtain ⟨r,rfl,hr⟩ := h x (by simp)
  obtain ⟨rs,rfl,hrs⟩ := yfx xs (fun y hy => h y (by simp [hy]))
  refine ⟨r :: rs,rfl,fun q hq => ?_⟩
  rcases List.mem_cons.1 hq with rfl | hq
  ·exact hr
  ·exact hrs q hq
theorem ysa {x : AV} (h : Arg ty 6 24 x) : ∃ (gn ph : Int) (l : List Mb) (f : Bool),x = .agg [.w (.int .i64 gn),.w (.int .u8 ph),.sg 3 (l.map mbA) f] ∧ 0 ≤ ph ∧ l.length ≤ 9223372036854775807 ∧ ∀ r ∈ l,r.d.length ≤ 9223372036854775807 := by
 obtain ⟨i,ls,hi,hs,rfl⟩ := h
 simp only [ty] at hi
 injection hi with hi
 subst hi
 simp only [zox,ty,zsc,zjj] at hs
 have hm : maxLen = 9223372036854775807 := by decide
 obtain ⟨l0,r0,rfl,⟨m0,rfl,w0⟩,l1,r1,rfl,⟨m1,rfl,w1⟩,l2,r2,rfl,⟨xs,f1,rfl,hx,hxs⟩,rfl⟩ := hs
 obtain ⟨es,rfl,he⟩ := yfx xs (fun x hxm => by
  obtain ⟨l,⟨l0,r0,rfl,⟨m0,rfl,w0⟩,l1,r1,rfl,⟨m1,rfl,w1⟩,l2,r2,rfl,⟨m2,rfl⟩,rfl⟩,_,rfl⟩ := hxs x hxm
  exact ⟨⟨m0,m1,m2⟩,rfl,by simp only; omega⟩)
 rw [List.length_map] at hx
 exact ⟨m0,m1,es,f1,rfl,(wf_u8 w1).1,by omega,he⟩
theorem yog {x : AV} (h : Arg ty 6 26 x) : ∃ r : Ac,x = acA r ∧ r.n ≤ 9223372036854775807 ∧ r.d.length ≤ 9223372036854775807 := by
 obtain ⟨i,ls,hi,hs,rfl⟩ := h
 simp only [ty] at hi
 injection hi with hi
 subst hi
 simp only [zox,ty,zsc,zjj] at hs
 have hm : maxLen = 9223372036854775807 := by decide
 obtain ⟨l0,r0,rfl,⟨m0,rfl,w0⟩,l1,r1,rfl,⟨m1,rfl,w1⟩,l2,r2,rfl,⟨m2,rfl,w2⟩,l3,r3,rfl,⟨m3,rfl,w3⟩,l4,r4,rfl,⟨m4,rfl,w4⟩,rfl⟩ := hs
 exact ⟨⟨m0,m1,m2,m3,m4⟩,rfl,(yte w4).2,by simp only; omega⟩
theorem ca_dom {x y : AV} (hx : Arg ty 6 24 x) (hy : Arg ty 6 26 y) : (caS [x,y] []).p ∧ (caS [x,y] []).x = .w (.bool true) := by
 obtain ⟨gn,ph,l,f,rfl,hph,hL,hl⟩ := ysa hx
 obtain ⟨⟨k,d,g,p,n⟩,rfl,hn,hd⟩ := yog hy
 exact ⟨⟨⟨hph,hn,hd⟩,by rw [List.length_map]; exact hL,l,rfl,hl⟩,rfl⟩
end Go.Proofs.Ytioldmhhefhelaa
