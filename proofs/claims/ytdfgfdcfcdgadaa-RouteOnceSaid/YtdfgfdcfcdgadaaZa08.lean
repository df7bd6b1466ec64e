/- What the proofs of this seat stand on; it asks nothing. -/
import Derived.Test.YtdfgfdcfcdgadaaZa07
set_option linter.unusedSimpArgs false
set_option linter.unusedVariables false
namespace Go.Proofs.Ytdfgfdcfcdgadaa
namespace Ax
open Go.RowKit
abbrev Plan := Nat → Option (List (Nat × Nat))
def zcz (T : zac) (pl : Plan) : Code → Bool
 | .region id ops draw => match pl id with
  | none => !draw || zlb T ops.toList
  | some p => draw && zha T ops.toList p
 | .seq a b => zcz T pl a && zcz T pl b
 | .cond _ a b => zcz T pl a && zcz T pl b
 | .block _ c => zcz T pl c
 | .loop c => zcz T pl c
 | _ => true
def awpF (S : zal) (T : zac) (pl : Plan) : Code → (Exit → ASt → Prop) → ASt → Prop
 | .skip,Q,σ => Q .normal σ
 | .label _,Q,σ => Q .normal σ
 | .region id ops _,Q,σ => match pl id with
  | none => aops S T ops.toList σ.nx ops.toList σ.sl σ.H (regK (σ.nx + 8 * ops.toList.length) Q)
  | some p => zfq S T ops.toList p σ.nx [] ops.toList σ.sl σ.H (regK (σ.nx + 8 * ops.toList.length) Q)
 | .seq a b,Q,σ => awpF S T pl a (seqK (awpF S T pl b Q) Q) σ
 | .cond c a b,Q,σ => match ev σ.sl c with
   | .w (.bool t) => zhj t (awpF S T pl a Q σ) (awpF S T pl b Q σ)
   | _ => False
 | .block id c,Q,σ => awpF S T pl c (zgq id Q) σ
 | .loop c,Q,σ => ydn (awpF S T pl c) Q σ
 | .exit id,Q,σ => Q (.exit id) σ
 | .ret,Q,σ => Q .ret σ
 | _,_,_ => False
open Classical in
theorem ydi {P : Program} {w0 : World} {E : Nat → Prop} {T : zac} {S : zal} {pl : Plan} (hm : P.follows .mixedOrders = true) (hT : TOk P T) (hS : Fns P S) {B : Bs} : ∀ (c : Code) (Q : Exit → ASt → Prop) (σ : ASt) (a : Act) (w : World),
  zcz T pl c = true → awpF S T pl c Q σ → Rel w0 E B σ a w → c.wp P (Low w0 E B Q) a w := by
 intro c
 induction c with
 | skip => intro Q σ a w hdr h hr; exact wp_skip ⟨σ,hr,h⟩
 | label l => intro Q σ a w hdr h hr; exact wp_label ⟨σ,hr,h⟩
 | ret => intro Q σ a w hdr h hr; exact wp_ret ⟨σ,hr,h⟩
 | exit id => intro Q σ a w hdr h hr; exact wp_exit ⟨σ,hr,h⟩
 | region id ops draw =>
  intro Q σ a w hdr h hr
  obtain ⟨loc,hb,hr⟩ := hr
  obtain ⟨sl,H,nx⟩ := σ
  have hK : ∀ sl H a w loc,Base w0 B w loc → Rel' w0 E loc ⟨sl,H,nx + 8 * ops.toList.length⟩ a w → regK (nx + 8 * ops.toList.length) Q sl H → Low w0 E B Q .normal a w := fun sl H a w loc h1 h2 h3 => ⟨_,⟨loc,h1,h2⟩,h3⟩
  simp only [zcz] at hdr
  simp only [awpF] at h
  cases hp : pl id with
  | none =>
   simp only [hp] at hdr h
   cases draw with
   | false => exact wp_region_list (zdc hT hS hK ops.toList nx sl H a w loc rfl hb hr h)
   | true => exact zev hT hS hm w0 E ops.toList _ _ B nx sl H a w loc id (by simpa using hdr) hK hb hr h
  | some p =>
   simp only [hp,Bool.and_eq_true] at hdr h
   obtain ⟨hd1,hd2⟩ := hdr
   subst hd1
   exact zjt hT hS hm hd2 hK hb hr h
 | seq x y ihx ihy =>
  intro Q σ a w hdr h hr
  refine wp_seq (wp_mono (ihx _ σ a w (by simp only [zcz,Bool.and_eq_true] at hdr; exact hdr.1) h hr) ?_)
  rintro e a' w' ⟨σ',hr',hq⟩
  cases e with
  | normal => exact ihy Q σ' a' w' (by simp only [zcz,Bool.and_eq_true] at hdr; exact hdr.2) hq hr'
  | _ => exact ⟨σ',hr',hq⟩
 | cond c x y ihx ihy =>
  intro Q σ a w hdr h hr
  simp only [awpF,zhj] at h
  simp only [zcz,Bool.and_eq_true] at hdr
  obtain ⟨loc,hb,hr⟩ := hr
  split at h
  ·rename_i t hc
   have hv := ev_R hr.slots c
   rw [hc] at hv
   have hv := hv.wv
   cases t with
   | true => exact wp_cond_true hv (ihx Q σ a w hdr.1 (h.1 rfl) ⟨loc,hb,hr⟩)
   | false => exact wp_cond_false hv (ihy Q σ a w hdr.2 (h.2 rfl) ⟨loc,hb,hr⟩)
  ·exact h.elim
 | block id c ih =>
  intro Q σ a w hdr h hr
  refine wp_block (wp_mono (ih _ σ a w hdr h hr) ?_)
  rintro e a' w' ⟨σ',hr',hq⟩
  cases e with
  | exit id' =>
   simp only [zgq,Exit.inBlock] at hq ⊢
   split at hq
   ·rename_i he; rw [if_pos he]; exact ⟨σ',hr',hq⟩
   ·rename_i he; rw [if_neg he]; exact ⟨σ',hr',hq⟩
  | _ => exact ⟨σ',hr',hq⟩
 | loop c ih =>
  intro Q σ a w hdr h hr
  obtain ⟨I,⟨n0,σ0,hw0,hI0⟩,hround⟩ := h
  let p : Act → World → Nat → Prop := fun a w n => ∃ σ,Rel w0 E B σ a w ∧ I n σ
  have hleast : ∀ a w,(∃ n,p a w n) → ∃ m,p a w m ∧ ∀ k,p a w k → m ≤ k := fun a w ⟨n,hn⟩ => let ⟨m,h1,_,h3⟩ := yir n hn; ⟨m,h1,h3⟩
  let μ : Act → World → Nat := fun a w => if h : ∃ n,p a w n then Classical.choose (hleast a w h) else 0
  refine wp_loop (fun a w => ∃ n,p a w n) μ ⟨n0,σ0,hw0 w0 E B a w hr,hI0⟩ ?_
  intro a w hex
  have hμ : μ a w = Classical.choose (hleast a w hex) := dif_pos hex
  obtain ⟨⟨σ1,hr1,hI1⟩,hmin⟩ := Classical.choose_spec (hleast a w hex)
  rw [← hμ] at hI1
  refine wp_mono (ih _ σ1 a w hdr (hround _ σ1 hI1) hr1) ?_
  rintro e a' w' ⟨σ',hr',hq⟩
  cases e with
  | normal =>
   obtain ⟨m,σ2,hlt,hw2,hI2⟩ := hq
   have hp : p a' w' m := ⟨σ2,hw2 w0 E B a' w' hr',hI2⟩
   refine ⟨⟨m,hp⟩,?_⟩
   have hμ' : μ a' w' = Classical.choose (hleast a' w' ⟨m,hp⟩) := dif_pos ⟨m,hp⟩
   have := (Classical.choose_spec (hleast a' w' ⟨m,hp⟩)).2 m hp
   rw [← hμ'] at this
   exact Nat.lt_of_le_of_lt this hlt
  | _ =>
   obtain ⟨σ2,hw2,hq⟩ := hq
   exact ⟨σ2,hw2 w0 E B a' w' hr',hq⟩
 | _ => intro Q σ a w hdr h hr; exact h.elim
theorem ybu {P : Program} {T : zac} {S : zal} (hT : TOk P T) (hS : Fns P S) {f : FuncId} {fn : Func} {c : Code} (hf : P.funcs[f]? = some fn) (hb : fn.body = some c) {spec : zcc} {Qp : List AV → List Blk → Exit → ASt → Prop}
  (hqp : ∀ xs pins e σ,Qp xs pins e σ → ∃ σ',Weak σ σ' ∧ Ends T fn.results.toList pins (spec xs pins) e σ')
  (h : ∀ xs pins,(spec xs pins).p → closedB pins = true → pins.length ≤ 4 ∧ ∀ w0 E B a w,Rel w0 E B ⟨xs ++ List.replicate (fn.ntmps - xs.length) .junk,pinHeap 0 pins,4⟩ a w → c.wp P (Low w0 E B (Qp xs pins)) a w) : zen P f spec := by
 intro xs pins hp hcl w bad pb vs hlen hnd hbad hlies hxl hx
 obtain ⟨hp4,h⟩ := h xs pins hp hcl
 refine calls_of_wp hf hb ?_
 have hrel : Rel w (· ∈ pb) ⟨bad,pb⟩ ⟨xs ++ List.replicate (fn.ntmps - xs.length) .junk,pinHeap 0 pins,4⟩ { tmps := vs.toArray ++ Array.replicate (fn.ntmps - vs.toArray.size) undef,defers := [] } w := by
  refine ⟨zbf pb bad,⟨⟨rfl,fun k hk cur e fz hh => ⟨cur,fz,hh,rfl⟩⟩,by simp only; omega,fun k hk => .inr ⟨by simp [zbf,List.getElem?_eq_getElem hk],fun cur e fz hh => ⟨cur,fz,hh,rfl⟩⟩⟩,?_⟩
  refine ⟨by simp [hxl],fun t => ?_,?_,?_,?_,rfl,fun id b hl => ?_⟩
  ·simp only
   rw [zcf]
   by_cases ht : t < xs.length
   ·have e1 : (xs ++ List.replicate (fn.ntmps - xs.length) AV.junk).getD t .junk = xs[t] := by simp [List.getElem?_append_left,ht]
    have e2 : (vs.toArray ++ Array.replicate (fn.ntmps - vs.toArray.size) undef).getD t undef = vs[t]'(by omega) := by
     have : t < vs.length := by omega
     simp [Array.getD_eq_getD_getElem?,Array.getElem?_append,this]
    rw [e1,e2]
    exact hx t ht _
   ·have e1 : (xs ++ List.replicate (fn.ntmps - xs.length) AV.junk).getD t .junk = .junk := by
     rw [List.getD_eq_getElem?_getD,List.getElem?_append_right (by omega),List.getElem?_replicate]
     split <;> rfl
    rw [e1]; exact .junk _
  ·intro id b hl
   obtain ⟨j,hj,rfl,rfl⟩ := zbq pins 0 id b hl
   have hj' : j < pb.length := by omega
   unfold BlkR
   have : (zbf pb bad).m (0 + j) = .here pb[j] := by simp [zbf,List.getElem?_eq_getElem hj']
   rw [this]
   exact hlies j hj hj'
  ·refine ⟨rfl,rfl,rfl,Nat.le_refl _,fun _ _ _ => rfl,?_,?_,?_⟩
   ·intro i j b hi hj
    obtain ⟨h1,h2⟩ := zcx hi
    obtain ⟨h3,h4⟩ := zcx hj
    exact zch hnd (h2.trans h4.symm)
   ·intro i b hi
    obtain ⟨h1,h2⟩ := zcx hi
    subst h2
    refine ⟨?_,.inr (List.getElem_mem h1)⟩
    obtain ⟨ob,hh⟩ := zio (hlies i (by omega) h1).2
    rcases Nat.lt_or_ge pb[i] w.heap.size with h' | h'
    ·exact h'
    ·rw [Array.getElem?_eq_none h'] at hh; cases hh
   ·exact fun b hb => hbad b hb
  ·intro id hid
   simp only at hid
   have : pb[id]? = none := List.getElem?_eq_none (by omega)
   simp [zbf,this]
  ·obtain ⟨j,hj,rfl,_⟩ := zbq pins 0 id b hl
   simp; omega
 refine wp_mono (h _ _ _ _ w hrel) ?_
 have main : ∀ a w' σ,Rel w (· ∈ pb) ⟨bad,pb⟩ σ a w' → (rvals T σ.H σ.sl fn.results.toList).1 ∧ EndsX pins (spec xs pins) (rone (rvals T σ.H σ.sl fn.results.toList).2) σ →
   a.defers = [] ∧ ∃ v,(results fn a.tmps).run P w' = .ok v w' ∧ ∃ v' loc',Ending.returned v = .returned v' ∧ ykf w bad pb (spec xs pins) v' w' loc' := by
  rintro a w' σ ⟨loc,hB,hr⟩ ⟨hrv,hnodup,hpin,hbl,hren⟩
  obtain ⟨v,hv,hR⟩ := zht (P := P) (fn := fn) hT hr.heap hr.slots hrv
  refine ⟨hr.defers,v,hv,v,?_⟩
  generalize rone (rvals T σ.H σ.sl fn.results.toList).2 = x at hnodup hpin hbl hren hR
  have hnd' := zee hnodup
  obtain ⟨hids1,hids2⟩ := zgk x.ids (upTo 0 pins)
  obtain ⟨hu1,hu2⟩ := zkc pins 0
  generalize hids : newIds (upTo 0 pins) x.ids = ids at hnodup hpin hbl hren hnd' hids1 hids2
  obtain ⟨hpl,hpc,hpg⟩ := zeu hpin
  rw [hbl] at hpl hpc hpg
  obtain ⟨t,rfl⟩ := hids1
  have hm : pins.length ≤ (upTo 0 pins ++ t).length := by simp [hu1]
  have hold : ∀ k,(hk : k < pins.length) → (upTo 0 pins ++ t)[k]'(by omega) = k := by
   intro k hk
   rw [List.getElem_append_left (by omega)]
   have := hu2 k (by omega)
   omega
  -- every one of the names is alive
  have hlive : ∀ (k : Nat) (hk : k < (upTo 0 pins ++ t).length),loc.m (upTo 0 pins ++ t)[k] ≠ .free := by
   intro k hk
   rcases hids2 _ (List.getElem_mem hk) with hi | hi
   ·obtain ⟨j,hj,he⟩ := List.getElem_of_mem hi
    rw [← he,hu2 j hj]
    have hj' : j < pb.length := by omega
    rcases hB.2.2 j hj' with h1 | ⟨h1,_⟩
    ·rw [Nat.zero_add,h1]; simp
    ·rw [Nat.zero_add,h1]; simp
   ·exact zdv x v hR hi
  have hblk : ∀ (k : Nat) (hk : k < (upTo 0 pins ++ t).length) (hk' : k < (spec xs pins).bl.length),BlkR w' loc (upTo 0 pins ++ t)[k] (spec xs pins).bl[k] := by
   intro k hk hk'
   refine hr.heap _ _ ?_
   rw [hpg k hk,List.getElem?_eq_getElem hk']
  have hdead : ∀ (k : Nat) (hk : k < (upTo 0 pins ++ t).length),loc.m (upTo 0 pins ++ t)[k] ≠ .dead := by
   intro k hk e
   have := hblk k hk (by omega)
   unfold BlkR at this
   rw [e] at this
   exact this
  let g : Nat → Nat := gOf (upTo 0 pins ++ t) σ.nx
  have hgo : ∀ k,(hk : k < (upTo 0 pins ++ t).length) → g k = (upTo 0 pins ++ t)[k] := fun k hk => zel hk
  have hgn : ∀ k,(upTo 0 pins ++ t).length ≤ k → loc.m (g k) = .free := by
   intro k hk
   refine hr.fresh _ ?_
   show σ.nx ≤ gOf _ σ.nx k
   rw [zdr hk]; omega
  let loc' : Loc := { m := fun k => loc.m (g k),bad := loc.bad }
  have hlt : ∀ i b,loc'.m i = .here b → i < (upTo 0 pins ++ t).length := by
   intro i b hi
   rcases Nat.lt_or_ge i (upTo 0 pins ++ t).length with h' | h'
   ·exact h'
   ·have : loc'.m i = .free := hgn i h'
    rw [this] at hi; cases hi
  have hinj : ∀ i j b,loc'.m i = .here b → loc'.m j = .here b → i = j := by
   intro i j b hi hj
   have h1 := hlt i b hi
   have h2 := hlt j b hj
   have h3 : g i = g j := hr.env.inj (g i) (g j) b hi hj
   rw [hgo i h1,hgo j h2] at h3
   exact zch hnd' h3
  have hpb : ∀ (k : Nat) (hk : k < pb.length),loc'.m k = .here pb[k] ∧ ∀ cur e fz,w.heap[pb[k]]? = some (.cells cur e fz) → ∃ cur' fz',w'.heap[pb[k]]? = some (.cells cur' e fz') ∧ cur'.size = cur.size := by
   intro k hk
   have hk1 : k < pins.length := by omega
   have e : loc'.m k = loc.m k := by
    show loc.m (g k) = loc.m k
    rw [hgo k (by omega),hold k hk1]
   rcases hB.2.2 k hk with h1 | ⟨h1,h2⟩
   ·have := hdead k (by omega)
    rw [hold k hk1] at this
    exact (this h1).elim
   ·exact ⟨e.trans h1,h2⟩
  refine ⟨loc',rfl,?_⟩
  refine ⟨ybc (loc2 := loc') (g := g) (fun _ => rfl) rfl hR _ hren,hB.1.1,?_,fun k hk => (hpb k hk).1,?_,?_,hinj,?_⟩
  ·intro k hk
   have hk' : k < (upTo 0 pins ++ t).length := by omega
   have e : loc'.m k = loc.m (upTo 0 pins ++ t)[k] := by show loc.m (g k) = _; rw [hgo k hk']
   refine ⟨?_,by rw [e]; exact hlive k hk',by rw [e]; exact hdead k hk'⟩
   have hb := hblk k hk' hk
   unfold BlkR at hb ⊢
   rw [e]
   split
   ·trivial
   ·rename_i e'; rw [e'] at hb; exact hb
   ·rename_i e'; rw [e'] at hb; exact hb
   ·rename_i b e'
    rw [e'] at hb
    refine ⟨hb.1,zfi hb.2 (zfo hpc k hk) (.inr ?_)⟩
    rintro c _ (h | ⟨i,h⟩)
    ·exact .inl h
    ·exact .inr ⟨g i,h⟩
  ·intro k b hk hkb
   have := hr.env.lies (g k) b hkb
   refine ⟨?_,this.1⟩
   rcases this.2 with h' | h'
   ·exact h'
   ·obtain ⟨j,hj,he⟩ := List.getElem_of_mem h'
    have h1 := (hpb j hj).1
    rw [he] at h1
    have := hinj k j b hkb h1
    omega
  ·intro k hk
   exact hgn k (by omega)
  ·refine ⟨hr.env.os,hr.env.tape,hr.env.output,hr.env.size,hr.env.same,?_⟩
   rintro b cur e fz hb hh
   obtain ⟨j,hj,rfl⟩ := List.getElem_of_mem hb
   exact (hpb j hj).2 cur e fz hh
 rintro e a w' ⟨σ0,hr0,hq0⟩
 obtain ⟨σ,hwk,hq⟩ := hqp xs pins e σ0 hq0
 have hr := hwk _ _ _ _ _ hr0
 cases e with
 | normal => exact main a w' σ hr hq
 | ret => exact main a w' σ hr hq
 | _ => exact hq.elim
theorem yge {P : Program} {T : zac} {S : zal} {pl : Plan} (hm : P.follows .mixedOrders = true) (hT : TOk P T) (hS : Fns P S) {f : FuncId} {fn : Func} {c : Code} (hf : P.funcs[f]? = some fn) (hb : fn.body = some c) (hd : zcz T pl c = true) {spec : zcc}
  (h : ∀ xs pins,(spec xs pins).p → closedB pins = true → pins.length ≤ 4 ∧ awpF S T pl c (zyi T fn.results.toList pins (spec xs pins)) ⟨xs ++ List.replicate (fn.ntmps - xs.length) .junk,pinHeap 0 pins,4⟩) : zen P f spec :=
 ybu hT hS hf hb (Qp := fun xs pins => zyi T fn.results.toList pins (spec xs pins)) (fun _ _ _ _ h => h) (fun xs pins hp hc => ⟨(h xs pins hp hc).1,fun w0 E B a w hr => ydi hm hT hS c _ _ _ _ hd (h xs pins hp hc).2 hr⟩)
def zzh (S : zal) (T : zac) (pl : Plan) (b : Code) (Q : Exit → ASt → Prop) : Exit → ASt → Prop := seqK (awpF S T pl b Q) Q
section rules
variable {S : zal} {T : zac} {pl : Plan} {Q : Exit → ASt → Prop} {σ : ASt}
theorem zwb : awpF S T pl .skip Q σ = Q .normal σ := rfl
theorem zrg {l : Nat} : awpF S T pl (.label l) Q σ = Q .normal σ := rfl
theorem yax : awpF S T pl .ret Q σ = Q .ret σ := rfl
theorem zwc {id : Nat} : awpF S T pl (.exit id) Q σ = Q (.exit id) σ := rfl
theorem zoz {id : Nat} {l : List Oper} {draw : Bool} : awpF S T pl (.region id l.toArray draw) Q σ = match pl id with
  | none => aops S T l σ.nx l σ.sl σ.H (regK (σ.nx + 8 * l.length) Q)
  | some p => zfq S T l p σ.nx [] l σ.sl σ.H (regK (σ.nx + 8 * l.length) Q) := by
 simp [awpF]
theorem yaw {a b : Code} : awpF S T pl (.seq a b) Q σ = awpF S T pl a (zzh S T pl b Q) σ := rfl
theorem zrh {id : Nat} {c : Code} : awpF S T pl (.block id c) Q σ = awpF S T pl c (zgq id Q) σ := rfl
theorem zwd {c : Operand} {a b : Code} : awpF S T pl (.cond c a b) Q σ = match ev σ.sl c with
   | .w (.bool t) => zhj t (awpF S T pl a Q σ) (awpF S T pl b Q σ)
   | _ => False := rfl
theorem zex {c : Code} (h : ydn (awpF S T pl c) Q σ) : awpF S T pl (.loop c) Q σ := h
theorem zaq {b : Code} : zzh S T pl b Q .normal σ = awpF S T pl b Q σ := rfl
theorem znw {b : Code} {id : Nat} : zzh S T pl b Q (.exit id) σ = Q (.exit id) σ := rfl
theorem zqm {b : Code} : zzh S T pl b Q .ret σ = Q .ret σ := rfl
variable {ops r : List Oper} {o : Oper} {nm : Nat} {sl : List AV} {H : Heap} {Q' : List AV → Heap → Prop} {pp : List (Nat × Nat)} {acc : List (Nat × List Nat)}
theorem zwi : zfq S T ops pp nm acc [] sl H Q' = (memOk pp acc = true ∧ Q' sl H) := rfl
theorem zpa {dst : Option Tmp} {op : Op} {type : TypeId} {pos : String} {after : Array Edge} : zfq S T ops pp nm acc (⟨dst,op,type,pos,after,none⟩ :: r) sl H Q' =
  ((aopF S T nm sl op H).p ∧ zfq S T ops pp (nm + 8) (acc ++ [(nm,foot sl op H)]) r (zap sl dst (aopF S T nm sl op H).x) (aopF S T nm sl op H).H Q') := rfl
theorem zpb {dst : Option Tmp} {op : Op} {type : TypeId} {pos : String} {after : Array Edge} {j : Nat} {want : Bool} : zfq S T ops pp nm acc (⟨dst,op,type,pos,after,some (j,want)⟩ :: r) sl H Q' =
  match guardSlot ops j with
   | none => False
   | some d => match slot sl d with
    | .w (.bool b) =>
     zhh b want ((aopF S T nm (setSlot sl d (.w (.bool want))) op H).p ∧
      zfq S T ops pp (nm + 8) (acc ++ [(nm,foot (setSlot sl d (.w (.bool want))) op H)]) r (zap (setSlot sl d (.w (.bool want))) dst (aopF S T nm (setSlot sl d (.w (.bool want))) op H).x) (aopF S T nm (setSlot sl d (.w (.bool want))) op H).H Q')
     (zfq S T ops pp (nm + 8) (acc ++ [(nm,[])]) r (zap (setSlot sl d (.w (.bool !want))) dst (.tup [])) H Q')
    | .tup [] => zfq S T ops pp (nm + 8) (acc ++ [(nm,[])]) r (zap sl dst (.tup [])) H Q'
    | _ => False := rfl
end rules
end Ax
end Go.Proofs.Ytdfgfdcfcdgadaa
namespace Go.Proofs.Ytdfgfdcfcdgadaa
open Ax
theorem evTP : (type_of% @zwb) ∧
  (type_of% @zrg) ∧
  (type_of% @yax) ∧
  (type_of% @zwc) ∧
  (type_of% @zoz) ∧
  (type_of% @yaw) ∧
  (type_of% @zrh) ∧
  (type_of% @zwd) ∧
  (type_of% @znw) ∧
  (type_of% @zqm) ∧
  (type_of% @zwi) ∧
  (type_of% @zpa) ∧
  (type_of% @zpb) :=
 ⟨@zwb,@zrg,@yax,@zwc,@zoz,@yaw,@zrh,@zwd,@znw,@zqm,@zwi,@zpa,@zpb⟩
theorem evDP : (type_of% @Ax.aopF.eq_1) ∧
  (type_of% @Ax.foot.eq_1) ∧
  (type_of% @Ax.footA.eq_1) ∧
  (type_of% @Ax.keepIn.eq_1) ∧
  (type_of% @Ax.keepIn.eq_2) ∧
  (type_of% @Ax.dropIn.eq_1) ∧
  (type_of% @Ax.dropIn.eq_2) ∧
  (type_of% @Ax.bids.eq_1) ∧
  (type_of% @Ax.bids.eq_2) ∧
  (type_of% @Ax.heldB.eq_1) ∧
  (type_of% @Ax.memOk.eq_1) ∧
  (type_of% @Ax.clearOf.eq_1) :=
 ⟨@Ax.aopF.eq_1,@Ax.foot.eq_1,@Ax.footA.eq_1,@Ax.keepIn.eq_1,@Ax.keepIn.eq_2,@Ax.dropIn.eq_1,@Ax.dropIn.eq_2,@Ax.bids.eq_1,@Ax.bids.eq_2,@Ax.heldB.eq_1,@Ax.memOk.eq_1,@Ax.clearOf.eq_1⟩
open Ax
attribute [go_sem] evDP evTP Blk.ids Op.operands Call.operands
end Go.Proofs.Ytdfgfdcfcdgadaa
namespace Go.Proofs.Ytdfgfdcfcdgadaa
namespace Ax
def zmc (f k : Nat) (ops : List Oper) : Bool :=
 let ms := zgx [] ops
 (List.range ops.length).all fun j => match ops[j]? with
  | some y => zxz j y.after.toList && (decide (j < k) || (List.range j).all fun i => (ms.getD j 0).testBit i || (decide (j = k) && decide (i = f)))
  | none => true
def yoa (k : Nat) (ops : List Oper) : Bool := zmc k k ops
theorem zeb {f k : Nat} {ops : List Oper} (h : zmc f k ops = true) {j : Nat} {y : Oper} (hy : ops[j]? = some y) :
  (∀ e ∈ y.after.toList,Region.binds .any e = true → e.on < j) ∧ (k ≤ j → ∀ i,i < j → (k < j ∨ i ≠ f) → ((zgx [] ops).getD j 0).testBit i = true) := by
 unfold zmc at h
 have := List.all_eq_true.1 h j (List.mem_range.2 (List.getElem?_eq_some_iff.1 hy).1)
 simp only [hy,Bool.and_eq_true,Bool.or_eq_true,decide_eq_true_eq] at this
 refine ⟨zie this.1,fun hk i hi hif => ?_⟩
 rcases this.2 with h1 | h1
 ·omega
 ·have := List.all_eq_true.1 h1 i (List.mem_range.2 hi)
  simp only [Bool.or_eq_true,Bool.and_eq_true,decide_eq_true_eq] at this
  rcases this with h2 | ⟨h2,h3⟩
  ·exact h2
  ·omega
def zqs (T : zac) (o : Oper) : Bool := o.after.toList.isEmpty && decide (zai T o.op = 0)
theorem zkv {l : List Oper} (suf : List Oper) {j : Nat} {d : Tmp} (h : guardSlot l j = some d) : guardSlot (l ++ suf) j = some d := by
 unfold guardSlot at h ⊢
 cases hj : l[j]? with
 | none => rw [hj] at h; cases h
 | some o =>
  rw [hj] at h
  rw [List.getElem?_append_left (List.getElem?_eq_some_iff.1 hj).1,hj]
  exact h
section
variable {P : Program} {S : zal} {T : zac} {l suf : List Oper} {nm fl : Nat} {s0 : List AV × Heap} {w0 : World} {E : Nat → Prop} {B : Bs}
theorem zym (ht : zmc fl l.length (l ++ suf) = true) {K : Exit → Act → World → Prop} : ∀ (fuel t : Nat) (listed : Array Bool) (a : Act) (w : World),listed.size = l.length + suf.length → t ≤ suf.length → (∀ j,Ls listed j ↔ j < l.length + t) → suf.length - t ≤ fuel →
  wpList P (l ++ suf).toArray K (suf.drop t) a w → wpAny P .any (l ++ suf).toArray K fuel listed a w := by
 intro fuel
 have hnl : ∀ {listed : Array Bool} {j : Nat},listed.getD j true = false → ¬ Ls listed j := fun h h' => by unfold Ls at h'; rw [getD_both h] at h'; cases h'
 induction fuel with
 | zero =>
  intro t listed a w hs ht1 hL hf h
  obtain rfl : t = suf.length := by omega
  rw [List.drop_length] at h
  refine ⟨?_,h⟩
  cases hr : Region.ready .any (l ++ suf).toArray listed with
  | nil => rfl
  | cons j r =>
   exfalso
   obtain ⟨h1,o,ho,_⟩ := mem_ready.1 (show j ∈ Region.ready .any (l ++ suf).toArray listed by rw [hr]; simp)
   have := (Array.getElem?_eq_some_iff.1 ho).1
   simp only [List.size_toArray,List.length_append] at this
   exact hnl h1 ((hL j).2 this)
 | succ fuel ih =>
  intro t listed a w hs ht1 hL hf h
  by_cases hte : t = suf.length
  ·subst hte
   rw [List.drop_length] at h
   refine ⟨fun _ => h,fun i hi => ?_⟩
   exfalso
   obtain ⟨h1,o,ho,_⟩ := mem_ready.1 hi
   have := (Array.getElem?_eq_some_iff.1 ho).1
   simp only [List.size_toArray,List.length_append] at this
   exact hnl h1 ((hL i).2 this)
  ·have hlt : t < suf.length := by omega
   have hoL : (l ++ suf)[l.length + t]? = some suf[t] := by rw [List.getElem?_append_right (by omega)]; simp
   have hin : l.length + t ∈ Region.ready .any (l ++ suf).toArray listed := by
    refine mem_ready.2 ⟨getD_in (by omega) ?_,suf[t],by simpa using hoL,fun e he hb => ?_⟩
    ·have : ¬ Ls listed (l.length + t) := fun h => by have := (hL _).1 h; omega
     unfold Ls at this
     simpa using this
    ·have := (zeb ht hoL).1 e (by simpa using he) hb
     exact (hL e.on).2 this
   refine ⟨fun hr => ?_,fun i hi => ?_⟩
   ·rw [hr] at hin; simp at hin
   ·obtain ⟨h1,o,ho,hrd⟩ := mem_ready.1 hi
    have hil : i < l.length + suf.length := by
     have := (Array.getElem?_eq_some_iff.1 ho).1
     simpa using this
    have hge : l.length + t ≤ i := by
     rcases Nat.lt_or_ge i (l.length + t) with h' | h'
     ·exact (hnl h1 ((hL i).2 h')).elim
     ·exact h'
    have ho' : (l ++ suf)[i]? = some o := by simpa using ho
    obtain rfl : i = l.length + t := by
     rcases Nat.lt_or_ge (l.length + t) i with h' | h'
     ·exfalso
      have hb := (zeb ht ho').2 (by omega) _ h' (.inl (by omega))
      have := zbb (l := l ++ suf) (L := fun j => Ls listed j) (fun j o hj => (zeb ht hj).1) (fun j o hj hj2 e he hb => by
       have := (zeb ht hj).1 e he hb
       have := (hL j).1 hj2
       exact (hL e.on).2 (by omega)) (i + 1) i _ (Nat.lt_succ_self _) hb o ho' (fun e he hb => hrd e (by simpa using he) hb)
      have := (hL _).1 this
      omega
     ·omega
    rw [hoL] at ho'; injection ho' with ho'; subst ho'
    have hd : suf.drop t = suf[t] :: suf.drop (t + 1) := List.drop_eq_getElem_cons hlt
    rw [hd] at h
    have h9 : wpOp P (l ++ suf).toArray K (l.length + t) (wpList P (l ++ suf).toArray K (suf.drop (t + 1))) a w := by
     unfold wpOp
     rw [ho]
     exact h
    refine wpOp_mono (fun a' w' h' => ih (t + 1) _ a' w' (by simpa using hs) hlt (fun j => ?_) (by omega) h') h9
    rw [zkp (by omega),hL]
    omega
theorem ydr (ht : zmc fl l.length (l ++ suf) = true) (hfl : fl < l.length) {of : Oper} (hof : l[fl]? = some of) (hfb : zqs T of = true) (hne : 0 < suf.length) {K : Exit → Act → World → Prop} (fuel : Nat) (listed : Array Bool) (a : Act) (w : World) (hs : listed.size = l.length + suf.length) (hL : ∀ j,Ls listed j ↔ j < l.length + 1 ∧ j ≠ fl) (hf : suf.length ≤ fuel)
  (hcl : ∀ j o,(l ++ suf)[j]? = some o → Ls listed j → ∀ e ∈ o.after.toList,Region.binds .any e = true → Ls listed e.on)
  (h : wpList P (l ++ suf).toArray K (of :: suf.drop 1) a w) : wpAny P .any (l ++ suf).toArray K fuel listed a w := by
 have hnl : ∀ {listed : Array Bool} {j : Nat},listed.getD j true = false → ¬ Ls listed j := fun h h' => by unfold Ls at h'; rw [getD_both h] at h'; cases h'
 obtain ⟨fu,rfl⟩ : ∃ fu,fuel = fu + 1 := ⟨fuel - 1,by omega⟩
 have hfoL : (l ++ suf)[fl]? = some of := by rw [List.getElem?_append_left hfl]; exact hof
 unfold zqs at hfb
 simp only [Bool.and_eq_true,decide_eq_true_eq,List.isEmpty_iff] at hfb
 have hin : fl ∈ Region.ready .any (l ++ suf).toArray listed := by
  refine mem_ready.2 ⟨getD_in (by omega) ?_,of,by simpa using hfoL,fun e he hb => ?_⟩
  ·have : ¬ Ls listed fl := fun h => ((hL _).1 h).2 rfl
   unfold Ls at this
   simpa using this
  ·have he' : e ∈ of.after.toList := by simpa using he
   rw [hfb.1] at he'; cases he'
 refine ⟨fun hr => ?_,fun i hi => ?_⟩
 ·rw [hr] at hin; simp at hin
 ·obtain ⟨h1,o,ho,hrd⟩ := mem_ready.1 hi
  have hil : i < l.length + suf.length := by
   have := (Array.getElem?_eq_some_iff.1 ho).1
   simpa using this
  have ho' : (l ++ suf)[i]? = some o := by simpa using ho
  have hni := hnl h1
  obtain rfl : i = fl := by
   rcases Nat.decEq i fl with h' | h'
   ·exfalso
    have hk : l.length < i := by
     rcases Nat.lt_or_ge l.length i with h2 | h2
     ·exact h2
     ·exact (hni ((hL i).2 ⟨by omega,h'⟩)).elim
    have hb := (zeb ht ho').2 (by omega) fl (by omega) (.inl hk)
    have := zbb (l := l ++ suf) (L := fun j => Ls listed j) (fun j o hj => (zeb ht hj).1) hcl (i + 1) i _ (Nat.lt_succ_self _) hb o ho' (fun e he hb => hrd e (by simpa using he) hb)
    exact ((hL fl).1 this).2 rfl
   ·exact h'
  rw [hfoL] at ho'; injection ho' with ho'; subst ho'
  have h9 : wpOp P (l ++ suf).toArray K i (wpList P (l ++ suf).toArray K (suf.drop 1)) a w := by
   unfold wpOp
   rw [ho]
   exact h
  refine wpOp_mono (fun a' w' h' => zym ht fu 1 _ a' w' (by simpa using hs) (by omega) (fun j => ?_) (by omega) h') h9
  rw [zkp (by omega),hL]
  omega
theorem yck (hT : TOk P T) (hS : Fns P S) (htl : zmc fl l.length (l ++ suf) = true) (hg : zyh S T l nm s0) (hst : ∀ j o,l[j]? = some o → (zcb S T l (nm + 8 * j) o (zaj S T l nm s0 j)).1) (h0 : ∀ id b,look s0.2 id = some b → id < nm) {K : Exit → Act → World → Prop}
  (hK : ∀ listed a w loc,InvF S T l nm s0 w0 E B listed a w loc → (∀ j,j < l.length → Ls listed j) → wpList P (l ++ suf).toArray K suf a w)
  (hK2 : ∀ of c,l[fl]? = some of → suf[0]? = some c → zqs T of = true ∧ ∀ listed a w loc,InvF S T l nm s0 w0 E B listed a w loc → (∀ j,j < l.length → (Ls listed j ↔ j ≠ fl)) → wpList P (l ++ suf).toArray K (c :: of :: suf.drop 1) a w) :
  ∀ (fuel : Nat) (listedL listed : Array Bool) (a : Act) (w : World) (loc : Loc),(listedL.size = l.length + suf.length ∧ ∀ j,Ls listedL j ↔ j < l.length ∧ Ls listed j) → InvF S T l nm s0 w0 E B listed a w loc → listedL.toList.count false ≤ fuel → wpAny P .any (l ++ suf).toArray K fuel listedL a w := by
 have hnl' : ∀ {listed : Array Bool} {j : Nat},listed.getD j true = false → ¬ Ls listed j := fun h h' => by unfold Ls at h'; rw [getD_both h] at h'; cases h'
 have hall : ∀ (fuel : Nat) (listedL listed : Array Bool) (a : Act) (w : World) (loc : Loc),(listedL.size = l.length + suf.length ∧ ∀ j,Ls listedL j ↔ j < l.length ∧ Ls listed j) → InvF S T l nm s0 w0 E B listed a w loc → listedL.toList.count false ≤ fuel →
   (∀ j,j < l.length → Ls listed j) → wpAny P .any (l ++ suf).toArray K fuel listedL a w := by
  intro fuel listedL listed a w loc hrel inv hc hj
  refine zym htl fuel 0 listedL a w hrel.1 (Nat.zero_le _) (fun j => by rw [hrel.2]; exact ⟨fun h => by omega,fun h => ⟨by omega,hj j (by omega)⟩⟩) ?_ (hK listed a w loc inv hj)
  have h1 : (listedL.toList.drop l.length).count false = suf.length := by
   rw [List.count_eq_length.2]
   ·rw [List.length_drop,Array.length_toList,hrel.1]; omega
   ·intro b hb
    obtain ⟨i,hi,rfl⟩ := List.getElem_of_mem hb
    rw [List.getElem_drop,Array.getElem_toList]
    have hi' : l.length + i < listedL.size := by rw [List.length_drop,Array.length_toList] at hi; omega
    have h2 : ¬ Ls listedL (l.length + i) := fun h => by have := (hrel.2 _).1 h; omega
    unfold Ls at h2
    simpa [hi'] using (Eq.symm (by simpa [hi'] using h2 : listedL[l.length + i] = false))
  have h2 := List.count_append (a := false) (l₁ := listedL.toList.take l.length) (l₂ := listedL.toList.drop l.length)
  rw [List.take_append_drop] at h2
  omega
 intro fuel
 induction fuel with
 | zero =>
  intro listedL listed a w loc hrel inv hc
  refine hall 0 listedL listed a w loc hrel inv hc (fun j hj => ?_)
  have hj' : j < listedL.size := by rw [hrel.1]; omega
  have h1 : false ∉ listedL.toList := by
   intro hm
   have := List.count_pos_iff.2 hm
   omega
  have h2 : listedL[j] ≠ false := fun e => h1 (by rw [← e]; simp)
  exact ((hrel.2 j).1 (by unfold Ls; simpa [hj'] using h2)).2
 | succ fuel ih =>
  intro listedL listed a w loc hrel inv hc
  by_cases hA : ∀ j,j < l.length → Ls listed j
  ·exact hall (fuel + 1) listedL listed a w loc hrel inv hc hA
  have hsub : ∀ i,i < l.length → (i ∈ Region.ready .any l.toArray listed ↔ i ∈ Region.ready .any (l ++ suf).toArray listedL) := by
   intro i hi
   have hnn : listed.getD i true = false ↔ listedL.getD i true = false := by
    constructor
    ·intro h
     have h1 := hnl' h
     refine getD_in (by rw [hrel.1]; omega) ?_
     have : ¬ Ls listedL i := fun h' => h1 ((hrel.2 i).1 h').2
     unfold Ls at this; simpa using this
    ·intro h
     have h1 := hnl' h
     refine getD_in (by rw [inv.sizel]; exact hi) ?_
     have : ¬ Ls listed i := fun h' => h1 ((hrel.2 i).2 ⟨hi,h'⟩)
     unfold Ls at this; simpa using this
   rw [mem_ready,mem_ready,hnn]
   have hL : (l ++ suf)[i]? = l[i]? := List.getElem?_append_left hi
   simp only [List.getElem?_toArray,hL]
   refine and_congr_right fun _ => exists_congr fun o => and_congr_right fun ho => forall_congr' fun e => forall_congr' fun he => forall_congr' fun hb => ?_
   have := hg.back i o ho e (by simpa using he) hb
   have := hrel.2 e.on
   unfold Ls at this
   rw [this]
   exact ⟨fun h => ⟨by omega,h⟩,fun h => h.2⟩
  refine ⟨fun hr => ?_,fun i hi => ?_⟩
  ·exfalso
   refine hA (fun j hj => zpc hg inv.sizel ?_ _ j (Nat.lt_succ_self _) hj)
   cases hr2 : Region.ready .any l.toArray listed with
   | nil => rfl
   | cons j r =>
    exfalso
    have hm : j ∈ Region.ready .any l.toArray listed := by rw [hr2]; simp
    obtain ⟨_,o,ho,_⟩ := mem_ready.1 hm
    have hjl : j < l.length := by have := (Array.getElem?_eq_some_iff.1 ho).1; simpa using this
    have := (hsub j hjl).1 hm
    rw [hr] at this; simp at this
  by_cases hlt : i < l.length
  case neg =>
   obtain ⟨h1,o,ho,hrd⟩ := mem_ready.1 hi
   have ho' : (l ++ suf)[i]? = some o := by simpa using ho
   have hanc : ∀ j,j < l.length → (l.length < i ∨ j ≠ fl) → Ls listed j := fun j hj hor => by
    have hb := (zeb htl ho').2 (by omega) j (by omega) hor
    have := zbb (l := l ++ suf) (L := fun j => Ls listedL j) (fun j o hj => (zeb htl hj).1) (fun j o hj hj2 e he hb => by
     have h3 := (hrel.2 j).1 hj2
     rw [List.getElem?_append_left h3.1] at hj
     have h4 := inv.closed j o hj h3.2 e he hb
     have := hg.back j o hj e he hb
     exact (hrel.2 e.on).2 ⟨by omega,h4⟩) (i + 1) i _ (Nat.lt_succ_self _) hb o ho' (fun e he hb => hrd e (by simpa using he) hb)
    exact ((hrel.2 j).1 this).2
   have hie : i = l.length := by
    rcases Nat.decEq i l.length with h' | h'
    ·exact (hA (fun j hj => hanc j hj (.inl (by omega)))).elim
    ·exact h'
   subst hie
   have hfl : fl < l.length ∧ ¬ Ls listed fl := by
    refine Classical.byContradiction fun hc => hA (fun j hj => ?_)
    by_cases hjf : j = fl
    ·subst hjf
     exact Classical.byContradiction fun h2 => hc ⟨hj,h2⟩
    ·exact hanc j hj (.inr hjf)
   have hall2 : ∀ j,j < l.length → (Ls listed j ↔ j ≠ fl) := fun j hj => ⟨fun h e => hfl.2 (e ▸ h),fun h => hanc j hj (.inr h)⟩
   have hs0 : 0 < suf.length := by
    have := (Array.getElem?_eq_some_iff.1 ho).1
    simp only [List.size_toArray,List.length_append] at this
    omega
   obtain ⟨of,hof⟩ : ∃ of,l[fl]? = some of := ⟨_,List.getElem?_eq_getElem hfl.1⟩
   have ho2 : suf[0]? = some o := by rw [List.getElem?_append_right (Nat.le_refl _)] at ho'; simpa using ho'
   obtain ⟨hfb,hk2⟩ := hK2 of o hof ho2
   have hw := hk2 listed a w loc inv hall2
   have h9 : wpOp P (l ++ suf).toArray K l.length (wpList P (l ++ suf).toArray K (of :: suf.drop 1)) a w := by
    unfold wpOp
    rw [ho]
    exact hw
   have hnlL : ∀ j,l.length ≤ j → ¬ Ls listedL j := fun j hj h => by have := (hrel.2 j).1 h; omega
   refine wpOp_mono (fun a' w' h' => ydr htl hfl.1 hof hfb hs0 fuel _ a' w' (by simpa using hrel.1) (fun j => ?_) ?_ ?_ h') h9
   ·rw [zkp (by rw [hrel.1]; omega),hrel.2]
    constructor
    ·rintro (rfl | ⟨h2,h3⟩)
     ·exact ⟨by omega,by omega⟩
     ·exact ⟨by omega,fun e => hfl.2 (e ▸ h3)⟩
    ·rintro ⟨h2,h3⟩
     by_cases hj : j = l.length
     ·exact .inl hj
     ·exact .inr ⟨by omega,hanc j (by omega) (.inr h3)⟩
   ·have h1 : (listedL.toList.drop l.length).count false = suf.length := by
     rw [List.count_eq_length.2]
     ·rw [List.length_drop,Array.length_toList,hrel.1]; omega
     ·intro b hb
      obtain ⟨i,hi,rfl⟩ := List.getElem_of_mem hb
      rw [List.getElem_drop,Array.getElem_toList]
      have hi' : l.length + i < listedL.size := by rw [List.length_drop,Array.length_toList] at hi; omega
      have h2 := hnlL (l.length + i) (by omega)
      unfold Ls at h2
      simpa [hi'] using (Eq.symm (by simpa [hi'] using h2 : listedL[l.length + i] = false))
    have h2 := List.count_append (a := false) (l₁ := listedL.toList.take l.length) (l₂ := listedL.toList.drop l.length)
    rw [List.take_append_drop] at h2
    have h3 : 0 < (listedL.toList.take l.length).count false := by
     refine List.count_pos_iff.2 ?_
     have hi' : fl < listedL.size := by rw [hrel.1]; omega
     have h4 : ¬ Ls listedL fl := fun h => hfl.2 ((hrel.2 fl).1 h).2
     unfold Ls at h4
     have h5 : listedL[fl] = false := by simpa [hi'] using h4
     rw [← h5]
     have h6 := hfl.1
     have h7 := hrel.1
     refine List.mem_take_iff_getElem.2 ⟨fl,by simp only [Array.length_toList,List.size_toArray,h7]; omega,by simp⟩
    omega
   ·intro j oj hj hj2 e he hb
    rw [zkp (by rw [hrel.1]; omega)] at hj2 ⊢
    rcases hj2 with rfl | hj2
    ·rw [ho'] at hj; injection hj with hj; subst hj
     exact .inr (hrd e (by simpa using he) hb)
    ·have h3 := (hrel.2 j).1 hj2
     rw [List.getElem?_append_left h3.1] at hj
     have h4 := inv.closed j oj hj h3.2 e he hb
     have := hg.back j oj hj e he hb
     exact .inr ((hrel.2 e.on).2 ⟨by omega,h4⟩)
  obtain ⟨hnl1L,_,hoL,_⟩ := mem_ready.1 hi
  obtain ⟨hnl1,o,ho',hrd'⟩ := mem_ready.1 ((hsub i hlt).2 hi)
  have ho : l[i]? = some o := by simpa using ho'
  have hoL : (l ++ suf).toArray[i]? = some o := by rw [List.getElem?_toArray,List.getElem?_append_left hlt]; exact ho
  have hnl : ¬ Ls listed i := hnl' hnl1
  have hrd : ∀ e ∈ o.after.toList,Region.binds .any e = true → Ls listed e.on := fun e he hb => hrd' e (by simpa using he) hb
  have hrel' : (listedL.setIfInBounds i true).size = l.length + suf.length ∧ ∀ j,Ls (listedL.setIfInBounds i true) j ↔ j < l.length ∧ Ls (listed.setIfInBounds i true) j := by
   refine ⟨by simpa using hrel.1,fun j => ?_⟩
   rw [zkp (by rw [hrel.1]; omega),zkp (by rw [inv.sizel]; exact hlt),hrel.2]
   constructor
   ·rintro (rfl | h)
    ·exact ⟨hlt,.inl rfl⟩
    ·exact ⟨h.1,.inr h.2⟩
   ·rintro ⟨h1,h | h⟩
    ·exact .inl h
    ·exact .inr ⟨h1,h⟩
  have hc' : (listedL.setIfInBounds i true).toList.count false ≤ fuel := by
   have := zid listedL.toList i (by simpa using hnl1L)
   rw [Array.toList_setIfInBounds]
   omega
  have hlook := fun t ht => ztx hg inv ho hnl hrd (t := t) ht
  have hlow := zbv hst h0 i
  have hev : ∀ x ∈ o.op.operands.toList,R w loc (ev (zaj S T l nm s0 i).1 x) (a.eval x) := by
   intro x hx
   cases x with
   | tmp t => exact hlook t (by unfold Oper.looksAt; exact List.mem_append_left _ (List.mem_filterMap.2 ⟨.tmp t,hx,rfl⟩))
   | const v => exact ev_R (sl := []) (a := a) (fun t => .junk _) (.const v)
   | global g => exact .junk _
   | func f => exact ev_R (sl := []) (a := a) (fun t => .junk _) (.func f)
  have hstep := hst i o ho
  have hfi : ftF S T l nm s0 i = (zcb S T l (nm + 8 * i) o (zaj S T l nm s0 i)).2.2 := by simp only [ftF,ho]
  have hadv := @yba S T l nm s0 w0 E B listed a w loc i o hg hst h0 inv ho hnl hrd
  have hheap := fun (hk : zai T o.op ≠ 0) id b => @zun S T l nm s0 w0 E B listed a w loc i o hg inv ho hnl hrd hk id b
  rw [hfi] at hadv hheap
  -- the operation is done
  have hdo : (aopF S T (nm + 8 * i) (zaj S T l nm s0 i).1 o.op (zaj S T l nm s0 i).2).p →
    (zcb S T l (nm + 8 * i) o (zaj S T l nm s0 i)).2.1 = (zap (zaj S T l nm s0 i).1 o.dst (aopF S T (nm + 8 * i) (zaj S T l nm s0 i).1 o.op (zaj S T l nm s0 i).2).x,(aopF S T (nm + 8 * i) (zaj S T l nm s0 i).1 o.op (zaj S T l nm s0 i).2).H) →
    (zcb S T l (nm + 8 * i) o (zaj S T l nm s0 i)).2.2 = foot (zaj S T l nm s0 i).1 o.op (zaj S T l nm s0 i).2 →
    o.wp P a w (wpAny P .any (l ++ suf).toArray K fuel (listedL.setIfInBounds i true)) K := by
   intro hp hs hft
   have hfree : ∀ id,nm + 8 * i ≤ id → id < nm + 8 * i + 8 → loc.m id = .free := inv.fresh i hnl hlt
   rw [hft] at hadv hheap
   by_cases hk : zai T o.op = 0
   ·obtain ⟨h1,h2,h3⟩ := zno (H := keepIn (foot (zaj S T l nm s0 i).1 o.op (zaj S T l nm s0 i).2) (zaj S T l nm s0 i).2) (S := S) (sl := (zaj S T l nm s0 i).1) (nm := nm + 8 * i) hk hp.2
    refine zci hT hS inv.env (H := []) (fun id b h => by simp [look] at h) hfree o hev h1 _ K (fun v w' loc' hpost => ?_)
    obtain ⟨C,hE,hC⟩ := hpost.ext
    have hC' := hC (zjp (H := []) (by omega) h1)
    refine ih _ _ _ _ loc' hrel' (hadv (x := _) (C := C) (by rw [hs]) ?_ hE (fun _ => hC') (fun id h => (hC' id h).elim) hpost.fresh hpost.env (inv.base.post hpost) (fun h => (h hk).elim) ) hc'
    have := hpost.r
    rw [h2] at this; exact this
   ·refine zro hT hS inv.env (fun id b hid hl => hheap hk id b hid hl) hfree rfl hev hp _ K (fun v w' loc' wr hpost hext => ?_)
    obtain ⟨C,hE,hC,hCF⟩ := hext
    refine ih _ _ _ _ loc' hrel' (hadv (x := _) (C := C) (by rw [hs]) hpost.r hE hC hCF hpost.fresh hpost.env (inv.base.post hpost) (fun _ id b hor hl => ?_) ) hc'
    rw [hs] at hl
    simp only [aopF] at hl
    rw [zdq] at hl
    cases h1 : look (aop S T (nm + 8 * i) (zaj S T l nm s0 i).1 o.op (keepIn (foot (zaj S T l nm s0 i).1 o.op (zaj S T l nm s0 i).2) (zaj S T l nm s0 i).2)).H id with
    | some c =>
     simp only [h1] at hl
     injection hl with hl
     subst hl
     exact hpost.h id c h1
    | none =>
     simp only [h1,zdp] at hl
     split at hl
     ·cases hl
     ·rename_i hn
      rcases hor with h2 | h2
      ·exact (hn h2).elim
      ·have := hlow id b hl; omega
  unfold wpOp
  rw [hoL]
  simp only
  cases hgd : o.guard with
  | none =>
   rw [if_pos (by simp [Region.wanted,hgd])]
   left
   refine hdo ?_ ?_ ?_
   ·simpa [zcb,hgd] using hstep
   ·simp [zcb,hgd]
   ·simp [zcb,hgd]
  | some g =>
   obtain ⟨j,want⟩ := g
   simp only [zcb,hgd] at hstep hdo hadv
   cases hgs : guardSlot l j with
   | none => simp [hgs] at hstep
   | some d =>
    simp only [hgs] at hstep hdo hadv
    have hdl : d ∈ o.looksAt l.toArray := by
     unfold Oper.looksAt
     refine List.mem_append_right _ ?_
     rw [hgd]
     unfold guardSlot at hgs
     cases hj : l[j]? with
     | none => rw [hj] at hgs; cases hgs
     | some oj =>
      rw [hj] at hgs
      simp only at hgs
      simp [hj,hgs]
    have hval := hlook d hdl
    cases hsd : slot (zaj S T l nm s0 i).1 d with
    | w u =>
     cases u with
     | bool b =>
      simp only [hsd] at hstep hdo hadv
      rw [hsd] at hval
      have hval := hval.wv
      have hdlt : d < a.tmps.size := by
       rw [inv.size,← zcj hst i]
       rcases Nat.lt_or_ge d (zaj S T l nm s0 i).1.length with h' | h'
       ·exact h'
       ·rw [zek h'] at hsd; cases hsd
      have hy := zgh (ops := (l ++ suf).toArray) (by simpa using zkv suf hgs) hdlt hval
      have hw : (Region.wanted o (yielded (l ++ suf).toArray a.tmps) = true) ↔ b = want := by simp [Region.wanted,hgd,hy]
      by_cases hbw : b = want
      ·rw [if_pos (hw.2 hbw)]
       rw [if_pos hbw] at hstep hdo
       exact .inl (hdo hstep rfl rfl)
      ·rw [if_neg (fun h => hbw (hw.1 h))]
       simp only [if_neg hbw] at hadv
       refine ih _ _ _ _ loc hrel' (hadv (x := .tup []) (C := fun _ => False) rfl zgu (Ext.refl w loc) (fun _ _ h => h) (fun _ h => h.elim) (fun id h h' => (h' h).elim) inv.env inv.base (fun hk id b hor hl => ?_) ) hc'
       rcases hor with h2 | h2
       ·simp at h2
       ·have := hlow id b hl; omega
     | _ => simp [hsd] at hstep
    | tup xs =>
     cases xs with
     | nil =>
      simp only [hsd] at hadv
      rw [hsd] at hval
      rw [if_neg (by simp [Region.wanted,hgd,zdz (ops := (l ++ suf).toArray) (by simpa using zkv suf hgs) (ydp hval)])]
      refine ih _ _ _ _ loc hrel' (hadv (x := .tup []) (C := fun _ => False) rfl zgu (Ext.refl w loc) (fun _ _ h => h) (fun _ h => h.elim) (fun id h h' => (h' h).elim) inv.env inv.base (fun hk id b hor hl => ?_) ) hc'
      rcases hor with h2 | h2
      ·simp at h2
      ·have := hlow id b hl; omega
     | cons _ _ => simp [hsd] at hstep
    | _ => simp [hsd] at hstep
theorem zom (hT : TOk P T) (hS : Fns P S) (hm : P.follows .mixedOrders = true) {pl : List (Nat × Nat)} {K : Exit → Act → World → Prop} {Q : List AV → Heap → Prop} {sl : List AV} {H : Heap} {a : Act} {w : World} {loc : Loc} {id : Nat}
  (hd : zha T l pl = true) (htl : zmc fl l.length (l ++ suf) = true) (hK : ∀ sl H a w loc,Base w0 B w loc → Rel' w0 E loc ⟨sl,H,nm + 8 * l.length⟩ a w → Q sl H → wpList P (l ++ suf).toArray K suf a w)
  (hK2 : ∀ of c,l[fl]? = some of → suf[0]? = some c → zqs T of = true ∧ ∀ sl H a w loc,Base w0 B w loc → Rel' w0 E loc ⟨zap sl of.dst .junk,H,nm + 8 * l.length⟩ a w → Q sl H → wpList P (l ++ suf).toArray K (c :: of :: suf.drop 1) a w) (hb : Base w0 B w loc)
  (hr : Rel' w0 E loc ⟨sl,H,nm⟩ a w) (h : zfq S T l pl nm [] l sl H Q) : (Code.region id (l ++ suf).toArray true).wp P K a w := by
 obtain ⟨⟨hQ,hmem⟩,hst⟩ := zka (S := S) (T := T) (nm := nm) (pl := pl) (Q := Q) (l := l) (s0 := (sl,H)) l 0 (fun j => by rw [Nat.zero_add]) (Nat.zero_add _) (by simpa [zaj] using h)
 have hst' := fun j o ho => hst j o (Nat.zero_le _) ho
 have hg := zzl hd hmem
 refine wp_region_any hm ?_
 have hL : ∀ i,¬ Ls (Array.replicate l.length false) i := fun i h => by
  unfold Ls at h
  rw [getD_replicate_false] at h; cases h
 have hL' : ∀ i,¬ Ls (Array.replicate (l ++ suf).toArray.size false) i := fun i h => by
  unfold Ls at h
  rw [getD_replicate_false] at h; cases h
 refine yck hT hS htl hg hst' hr.low (w0 := w0) (E := E) (B := B) ?_ ?_ _ _ (Array.replicate l.length false) _ _ loc ⟨by simp,fun j => ⟨fun h => (hL' j h).elim,fun h => (hL j h.2).elim⟩⟩ ?_ ?_
 ·intro listed a w loc inv hall
  have hq : ∀ (i : Nat),i < l.length → (Ls listed i ↔ i < l.length) := fun i hi => ⟨fun _ => hi,fun _ => hall i hi⟩
  have hlt : ∀ {j : Nat} {o : Oper},l[j]? = some o → j < l.length := fun h => (List.getElem?_eq_some_iff.1 h).1
  refine hK _ _ a w loc inv.base ⟨?_,?_,?_,inv.env,inv.high,inv.defers,?_⟩ hQ
  ·simp only; rw [zcj hst']; exact inv.size
  ·exact fun t => inv.slots t _ (Nat.le_refl _) (fun i o ho _ => hq i (hlt ho))
  ·exact fun id b hl => inv.heap id _ (Nat.le_refl _) (fun i o ho _ _ => hq i (hlt ho)) b hl
  ·exact zbv hst' hr.low l.length
 ·intro of c hof hc
  obtain ⟨hfb,hk⟩ := hK2 of c hof hc
  refine ⟨hfb,fun listed a w loc inv hall => ?_⟩
  have hlt : ∀ {j : Nat} {o : Oper},l[j]? = some o → j < l.length := fun h => (List.getElem?_eq_some_iff.1 h).1
  unfold zqs at hfb
  simp only [Bool.and_eq_true,decide_eq_true_eq] at hfb
  refine hk _ _ a w loc inv.base ⟨?_,?_,?_,inv.env,inv.high,inv.defers,?_⟩ hQ
  ·simp only; rw [zdu,zcj hst']; exact inv.size
  ·intro t
   by_cases ht : of.dst = some t
   ·rw [ht]
    have : slot (zap (zaj S T l nm (sl,H) l.length).1 (some t) .junk) t = .junk := by
     show slot (setSlot _ t .junk) t = .junk
     rcases Nat.lt_or_ge t (zaj S T l nm (sl,H) l.length).1.length with h' | h'
     ·exact zcl h'
     ·exact zek (by rw [zbd]; exact h')
    rw [this]; exact .junk _
   ·have : slot (zap (zaj S T l nm (sl,H) l.length).1 of.dst .junk) t = slot (zaj S T l nm (sl,H) l.length).1 t := by
     cases hd : of.dst with
     | none => rfl
     | some d => exact zbx (fun e => ht (by rw [hd,e]))
    rw [this]
    refine inv.slots t _ (Nat.le_refl _) (fun i o ho hd => ⟨fun _ => hlt ho,fun _ => (hall i (hlt ho)).2 (fun e => ?_)⟩)
    subst e
    rw [hof] at ho; injection ho with ho; subst ho; exact ht hd
  ·refine fun id b hl => inv.heap id _ (Nat.le_refl _) (fun i o ho h2 _ => ⟨fun _ => hlt ho,fun _ => (hall i (hlt ho)).2 (fun e => ?_)⟩) b hl
   subst e
   rw [hof] at ho; injection ho with ho; subst ho
   omega
  ·exact zbv hst' hr.low l.length
 ·have hbase : Base w0 B { w with drawn := w.drawn + 1 } loc := hb
  have hE : Ext (fun _ => False) w loc { w with drawn := w.drawn + 1 } loc := ⟨Nat.le_refl _,fun _ _ _ => rfl,fun _ _ _ => .inl rfl,fun _ _ h => ⟨rfl,h⟩,fun _ _ _ _ => rfl,fun _ cur _ fz h => ⟨cur,fz,h,rfl⟩⟩
  have hcl : ∀ {x v},R w loc x v → R { w with drawn := w.drawn + 1 } loc x v := fun h => h.ext hE
  refine ⟨by simp,hr.size,?_,?_,?_,?_,?_,⟨hr.env.os,hr.env.tape,hr.env.output,hr.env.size,hr.env.same,hr.env.inj,hr.env.lies,hr.env.bad⟩,hbase,hr.defers⟩
  ·intro t k hk hq
   have e : slot (zaj S T l nm (sl,H) k).1 t = slot sl t := by
    refine zjg hst' (i := 0) (Nat.zero_le _) (fun j o _ hj ho hd => ?_)
    exact hL j ((hq j o ho hd).2 hj)
   rw [e]
   exact hcl (hr.slots t)
  ·intro id k hk hq b hl
   by_cases hf : loc.m id = .free
   ·exact BlkR.free hf
   ·have hidn : id < nm := by
     rcases Nat.lt_or_ge id nm with h' | h'
     ·exact h'
     ·exact (hf (hr.fresh id h')).elim
    have e : look (zaj S T l nm (sl,H) k).2 id = look H id := by
     refine zgv hst' (i := 0) (Nat.zero_le _) (fun j o _ hj ho => ⟨?_,.inr (by omega)⟩)
     by_cases hid : id ∈ ftF S T l nm (sl,H) j
     ·left
      have hle : zai T o.op ≤ 2 := zfj T o.op
      have hne : zai T o.op ≠ 2 := fun h2 => hL j ((hq j o ho h2 hid).2 hj)
      omega
     ·exact .inr hid
    rw [e] at hl
    exact (hr.heap id b hl).ext hE (fun h => h) hf
  ·intro j o ho hl; exact (hL j hl).elim
  ·intro i _ hi id h1 h2; exact hr.fresh id (by simp only; omega)
  ·intro id h1; exact hr.fresh id (by simp only; omega)
 ·simp
end
end Ax
end Go.Proofs.Ytdfgfdcfcdgadaa
namespace Go.Proofs.Ytdfgfdcfcdgadaa
namespace Ax
open Go.RowKit
def FnsO (P : Program) (S : zal) : Prop := ∀ f s,S f = some s → zpf P f ∧ zfr P f s
def noO : zal := fun _ => none
theorem ymz {P : Program} : FnsO P noO := fun f s h => by cases h
def zco (SO : zal) (T : zac) (nm : Nat) (sl : List AV) (op : Op) (H : Heap) : Out :=
 match op with
 | .call c => match c.callee with
  | .value f => match ev sl f with
   | .fn f caps => aOpen SO nm f (coes T c.argTypes.toList (evs sl c.args.toList) ++ caps) H
   | _ => bad
  | _ => bad
 | _ => bad
theorem ycb {P : Program} {w0 : World} {E : Nat → Prop} {w : World} {loc : Loc} {H : Heap} {T : zac} {SO : zal} (hS : FnsO P SO) (he : Env w0 E w loc) (hh : HR w loc H) {nm : Nat} (hfree : ∀ id,nm ≤ id → id < nm + 8 → loc.m id = .free) {sl : List AV} {a : Act} (o : Oper)
  (hev : ∀ x,R w loc (ev sl x) (a.eval x)) (hp : (zco SO T nm sl o.op H).p) : Sd P w0 E w loc true nm (zco SO T nm sl o.op H) o a := by
 cases ho : o.op with
 | call c =>
  obtain ⟨callee,args,argTypes⟩ := c
  cases callee with
  | value f =>
   have hfv := hev f
   simp only [zco,ho] at hp ⊢
   generalize ev sl f = xf at hfv hp ⊢
   split at hp
   ·rename_i g caps
    cases hv : a.eval f with
    | func fn first captured =>
     rw [hv] at hfv
     cases hfv with
     | fn _ _ cs hlc hc =>
      obtain ⟨e1,e2⟩ := zvb (w := w) (loc := loc) (sl := sl) (a := a) args.toList (fun x _ => hev x)
      obtain ⟨c1,c2⟩ := zve (T := T) (w := w) (loc := loc) argTypes.toList (evs sl args.toList)
      have c2 := c2 (args.toList.map a.eval) e2
      have c3 : ∀ (j : Nat) (h : j < (coes T argTypes.toList (evs sl args.toList) ++ caps).length) (h' : j < (args.toList.map a.eval ++ cs).length),R w loc (coes T argTypes.toList (evs sl args.toList) ++ caps)[j] (args.toList.map a.eval ++ cs)[j] := by
       intro j h h'
       have hl : (coes T argTypes.toList (evs sl args.toList)).length = (args.toList.map a.eval).length := by rw [c1,e1]; simp
       by_cases hj : j < (coes T argTypes.toList (evs sl args.toList)).length
       ·rw [List.getElem_append_left hj,List.getElem_append_left (by omega)]
        exact c2 j hj (by omega)
       ·rw [List.getElem_append_right (by omega),List.getElem_append_right (by omega)]
        have := hc (j - (coes T argTypes.toList (evs sl args.toList)).length) (by rw [List.length_append] at h; omega) (by rw [List.length_append] at h'; omega)
        simpa only [hl] using this
      cases hsg : SO g with
      | none => simp [aOpen,hsg,bad] at hp
      | some sp =>
       obtain ⟨⟨fn,hfn,hbody,hname⟩,hsound⟩ := hS g sp hsg
       have hcall := zqz (P := P) he hh hfree (SO := SO) (fun f s h => (hS f s h).2) (f := g) (by rw [List.length_append,List.length_append,c1,e1,hlc]; simp) c3 hp
       have hrun : (execOp a.eval o).run P w = .ok (.enter g (args.toList.map a.eval ++ cs).toArray) w := by
        have h1 : fn.name ≠ "runtime.NumGoroutine" := by simpa using hname
        have hb' : fn.body ≠ none := by intro e; rw [e] at hbody; simp at hbody
        have h9 : Array.map a.eval args = (args.toList.map a.eval).toArray := by rw [← Array.toList_inj]; simp
        simp [execOp,ho,resolve,hv,Deferred.ofValue,invoke,callFunc,hfn,h1,hb',h9]
       intro next Q hn
       unfold Oper.wp
       rw [hrun]
       refine hcall.mono ?_
       rintro e w' ⟨v,loc',rfl,h1⟩
       exact hn v w' loc' h1
    | _ => rw [hv] at hfv; cases hfv
   ·exact hp.elim
  | _ => simp [zco,ho,bad] at hp
 | _ => simp [zco,ho,bad] at hp
theorem zsz {H : Heap} : ∀ (ids good : List Nat),walk H good ids = true → ∀ id ∈ ids,look H id ≠ none
 | [],_,_,id,hid => by simp at hid
 | k :: r,good,hw,id,hid => by
  simp only [walk,Bool.and_eq_true] at hw
  cases hl : look H k with
  | none => simp [hl] at hw
  | some blk =>
   simp only [hl] at hw
   rcases List.mem_cons.1 hid with rfl | hid
   ·rw [hl]; simp
   ·exact zsz r _ hw.2 id hid
theorem zuj {SO : zal} {T : zac} {sl : List AV} {op : Op} {nm : Nat} {H : Heap} : Hnew nm H (zco SO T nm sl op H) := by
 unfold zco
 split
 ·split
  ·split
   ·unfold aOpen
    split
    ·rename_i f _ spec hs
     intro hp id b hl
     simp only [openOut] at hp hl
     generalize reach H 12 [] (idsL _) = ids at *
     obtain ⟨⟨hnd,hwalk,hain,hpin⟩,hsp,hb1,hb2⟩ := hp
     rcases zlu _ _ _ hl with ⟨j,hj,h1,h2⟩ | ⟨h1,h2⟩
     ·rw [Nat.zero_add] at h1
      by_cases hjl : j < ids.length
      ·rw [zel hjl] at h1
       left
       rw [← h1]
       exact zsz ids _ hwalk _ (List.getElem_mem hjl)
      ·rw [zdr (by omega)] at h1
       right; omega
     ·exact .inl (by rw [h1]; simp)
    ·exact hok_bad.new
   ·exact hok_bad.new
  ·exact hok_bad.new
 ·exact hok_bad.new
def zmn (S SO : zal) (T : zac) (ops : List Oper) : Nat → Nat → List Oper → List AV → Heap → (List AV → Heap → Prop) → Prop
 | _,_,[],sl,H,Q => Q sl H
 | 0,nm,o :: r,sl,H,Q => o.guard = none ∧ (zco SO T nm sl o.op H).p ∧ aops S T ops (nm + 8) r (zap sl o.dst (zco SO T nm sl o.op H).x) (zco SO T nm sl o.op H).H Q
 | k + 1,nm,o :: r,sl,H,Q => o.guard = none ∧ (aop S T nm sl o.op H).p ∧ zmn S SO T ops k (nm + 8) r (zap sl o.dst (aop S T nm sl o.op H).x) (aop S T nm sl o.op H).H Q
theorem zfp {P : Program} {w0 : World} {E : Nat → Prop} {T : zac} {S SO : zal} (hT : TOk P T) (hS : Fns P S) (hSO : FnsO P SO) {ops : Array Oper} {K : Exit → Act → World → Prop} {Q : List AV → Heap → Prop} {B : Bs} {nz : Nat}
  (hK : ∀ sl H a w loc,Base w0 B w loc → Rel' w0 E loc ⟨sl,H,nz⟩ a w → Q sl H → K .normal a w) : ∀ (k : Nat) (r : List Oper) (nm : Nat) (sl : List AV) (H : Heap) (a : Act) (w : World) (loc : Loc),nz = nm + 8 * r.length → Base w0 B w loc →
  Rel' w0 E loc ⟨sl,H,nm⟩ a w → zmn S SO T ops.toList k nm r sl H Q → wpList P ops K r a w
 | k,[],nm,sl,H,a,w,loc,hz,hb,hr,h => by
  simp only [List.length_nil,Nat.mul_zero,Nat.add_zero] at hz
  subst hz
  exact wpList_nil (hK sl H a w loc hb hr (by cases k <;> exact h))
 | 0,o :: r,nm,sl,H,a,w,loc,hz,hb,hr,h => by
  have hz' : nz = nm + 8 + 8 * r.length := by simp at hz; omega
  obtain ⟨hg,hp,hrest⟩ := h
  refine wpList_step fun Kn hKn => ?_
  rw [if_pos (by simp [Region.wanted,hg])]
  have hop := ycb (T := T) hSO hr.env hr.heap (fun id h1 _ => hr.fresh id h1) o (fun x => ev_R hr.slots x) hp
  exact hop Kn K (fun v w' loc' hpost => hKn _ _ (zdc (ops := ops) hT hS hK r (nm + 8) _ _ _ w' loc' hz' (hb.post hpost) (zfv hr hpost (zuj hp) o.dst) hrest))
 | k + 1,o :: r,nm,sl,H,a,w,loc,hz,hb,hr,h => by
  have hz' : nz = nm + 8 + 8 * r.length := by simp at hz; omega
  obtain ⟨hg,hp,hrest⟩ := h
  refine wpList_step fun Kn hKn => ?_
  rw [if_pos (by simp [Region.wanted,hg])]
  have hop := zci hT hS hr.env hr.heap (fun id h1 _ => hr.fresh id h1) o (fun x _ => ev_R hr.slots x) hp
  exact hop Kn K (fun v w' loc' hpost => hKn _ _ (zfp hT hS hSO hK k r (nm + 8) _ _ _ w' loc' hz' (hb.post hpost) (zfv hr hpost (zep hp) o.dst) hrest))
def zyo (T : zac) (sl : List AV) (op : Op) (K : AV → Prop) : Prop :=
 match op with
 | .binOp .eql t x (.const (.slice none 0 0)) _ => match T t with
  | some ti => match ti.d with
   | .slice _ => match ev sl x with
    | .sg s xs _ => 0 < s ∧ ∀ b,(b = true → xs.length = 0) → K (.w (.bool b))
    | .sb xs _ => ∀ b,(b = true → xs.length = 0) → K (.w (.bool b))
    | .si xs _ => ∀ b,(b = true → xs.length = 0) → K (.w (.bool b))
    | _ => False
   | _ => False
  | none => False
 | .buildSlice t 0 ps => match T t with
  | some ti => match ti.d with
   | .slice e => match T e with
    | some te => ps = #[] ∧ 0 < te.size ∧ K (.sg te.size [] true)
    | none => False
   | _ => False
  | none => False
 | .call c => match c.callee with
  | .builtin .append => match c.args.toList,c.argTypes.toList with
   | [x,y],[t,u] => match T t,T u with
    | some ti,some tu => match ti.d,tu.d with
     | .slice e,.slice _ => match T e with
      | some te => match ev sl x,ev sl y with
       | .sg s [] true,.sg _ [] _ => 0 < te.size ∧ K (.sg s [] true)
       | .sg s [] true,.sb [] _ => 0 < te.size ∧ K (.sg s [] true)
       | .sg s [] true,.si [] _ => 0 < te.size ∧ K (.sg s [] true)
       | _,_ => False
      | none => False
     | _,_ => False
    | _,_ => False
   | _,_ => False
  | _ => False
 | _ => False
theorem zjy {P : Program} {t u ty e e' : TypeId} {te : TyI} (hd : P.underlying t = some (.slice e)) (hu : P.underlying u = some (.slice e')) (hty : TyR P e te) (a a' : Option Addr) (c : Nat) (w : World) :
  (Builtin.append_ #[t,u] ty #[.slice a 0 0,.slice a' 0 c]).run P w = .ok (.slice a 0 0) w := by
 have hsz := fun W => zay (P := P) hty W
 have hlc : ∀ (b : Addr) W,(loadCells b 0).run P W = .ok #[] W := fun b W => by simp [loadCells,loadCellsFrom]
 have hst : ∀ (b : Addr) W,(storeCells b []).run P W = .ok () W := fun b W => by simp [storeCells]
 unfold Builtin.append_
 cases a <;> cases a' <;> simp [run_underlying hd,run_underlying hu,hsz,Builtin.lenOf,Builtin.firstCells,hlc,hst]
theorem ztd {P : Program} {w0 : World} {E : Nat → Prop} {T : zac} (hT : TOk P T) {w : World} {loc : Loc} {H : Heap} (he : Env w0 E w loc) (hh : HR w loc H) {nm : Nat} {sl : List AV} {a : Act} {op : Op} {K : AV → Prop} (hev : ∀ x,R w loc (ev sl x) (a.eval x)) (h : zyo T sl op K) :
  ∃ x v w',K x ∧ Post w0 E w loc true nm x H v w' loc ∧ ∀ o : Oper,o.op = op → (execOp a.eval o).run P w = .ok (.value v) w' := by
 unfold zyo at h
 split at h
 ·rename_i t x yt
  cases ht : T t with
  | none => simp [ht] at h
  | some ti =>
   simp only [ht] at h
   split at h
   ·rename_i e hd
    have hu : ∃ e,P.underlying t = some (.slice e) := by
     have := (hT t ti ht).d
     rw [hd] at this
     exact ⟨_,this⟩
    obtain ⟨e,hu⟩ := hu
    have hx := hev x
    generalize ev sl x = xv at hx h
    split at h
    ·rename_i s xs f
     obtain ⟨hs,h⟩ := h
     generalize hv : a.eval x = v at hx
     cases hx with
     | sg _ _ _ ad cap cs hd hs' hc hl hx' _ =>
      refine ⟨_,.bool ad.isNone,w,h ad.isNone fun hn => ?_,Post.pure (.w _ rfl) hh he,fun o ho => ?_⟩
      ·cases xs with
       | nil => rfl
       | cons y ys =>
        exfalso
        obtain rfl : ad = none := by simpa using hn
        rcases hc.lies with rfl | ⟨b,o,he,_⟩
        ·have := hs' y (by simp)
         rw [List.flatMap_cons,List.length_append,List.length_nil] at hl
         omega
        ·cases he
      ·have heq : ∀ d,(Op.equalIn (d + 1) t (.slice ad xs.length cap) (.slice none 0 0)).run P w = .ok ad.isNone w := fun d => by cases ad <;> simp [Op.equalIn,run_underlying hu]
       have heq := heq 9999
       have h2 : (Op.equal t (.slice ad xs.length cap) (.slice none 0 0)).run P w = .ok ad.isNone w := heq
       simp only [execOp,ho,hv]
       simp [zbz (u := .slice ad xs.length cap) rfl (by simp),binOp,h2,Act.eval]
    ·rename_i xs f
     generalize hv : a.eval x = v at hx
     cases hx with
     | sb _ _ ad cap hd hc =>
      refine ⟨_,.bool ad.isNone,w,h ad.isNone fun hn => ?_,Post.pure (.w _ rfl) hh he,fun o ho => ?_⟩
      ·cases xs with
       | nil => rfl
       | cons y ys =>
        exfalso
        obtain rfl : ad = none := by simpa using hn
        rcases hc.lies with hcs | ⟨b,o,he,_⟩
        ·simp at hcs
        ·cases he
      ·have heq : ∀ d,(Op.equalIn (d + 1) t (.slice ad xs.length cap) (.slice none 0 0)).run P w = .ok ad.isNone w := fun d => by cases ad <;> simp [Op.equalIn,run_underlying hu]
       have heq := heq 9999
       have h2 : (Op.equal t (.slice ad xs.length cap) (.slice none 0 0)).run P w = .ok ad.isNone w := heq
       simp only [execOp,ho,hv]
       simp [zbz (u := .slice ad xs.length cap) rfl (by simp),binOp,h2,Act.eval]
    ·rename_i xs f
     generalize hv : a.eval x = v at hx
     cases hx with
     | si _ _ ad cap hd hc =>
      refine ⟨_,.bool ad.isNone,w,h ad.isNone fun hn => ?_,Post.pure (.w _ rfl) hh he,fun o ho => ?_⟩
      ·cases xs with
       | nil => rfl
       | cons y ys =>
        exfalso
        obtain rfl : ad = none := by simpa using hn
        rcases hc.lies with hcs | ⟨b,o,he,_⟩
        ·simp at hcs
        ·cases he
      ·have heq : ∀ d,(Op.equalIn (d + 1) t (.slice ad xs.length cap) (.slice none 0 0)).run P w = .ok ad.isNone w := fun d => by cases ad <;> simp [Op.equalIn,run_underlying hu]
       have heq := heq 9999
       have h2 : (Op.equal t (.slice ad xs.length cap) (.slice none 0 0)).run P w = .ok ad.isNone w := heq
       simp only [execOp,ho,hv]
       simp [zbz (u := .slice ad xs.length cap) rfl (by simp),binOp,h2,Act.eval]
    ·exact h.elim
   ·exact h.elim
 ·rename_i t ps
  cases ht : T t with
  | none => simp [ht] at h
  | some ti =>
   simp only [ht] at h
   split at h
   ·rename_i e hd
    have hu : P.underlying t = some (.slice e) := by
     have := (hT t ti ht).d
     rw [hd] at this
     exact this
    cases hte : T e with
    | none => simp [hte] at h
    | some te =>
     simp only [hte] at h
     obtain ⟨rfl,hs,hK⟩ := h
     have hty := hT _ te hte
     obtain ⟨z,z1,z2,z3⟩ := zbk hty w
     have hrun := zde (P := P) (t := t) (n := 0) (pv := #[]) (cs := #[]) hu hty z1 hs (by omega) (by simp [Instr.fill])
     refine ⟨_,.slice (some ⟨w.heap.size,0,none⟩) 0 0,{ w with heap := w.heap.push (.cells #[] e) },hK,yei (o := .cells #[] e) he hh ⟨rfl,rfl,rfl,rfl⟩ (fun _ => .sg _ [] true _ 0 [] ⟨Nat.le_refl _,Nat.zero_le _,fun _ => rfl⟩ (by simp) ⟨.inl rfl⟩ rfl (by simp) (by simp)),fun o ho => ?_⟩
     simp [execOp,ho,hrun]
   ·exact h.elim
 ·rename_i c
  obtain ⟨callee,args,argTypes⟩ := c
  simp only at h
  split at h
  ·split at h
   ·rename_i d x t u ha hb
    cases ht : T t with
    | none => simp [ht] at h
    | some ti =>
     cases htu : T u with
     | none => simp [ht,htu] at h
     | some tu =>
      simp only [ht,htu] at h
      have hd := (hT t ti ht).d
      have hud := (hT u tu htu).d
      split at h
      ·rename_i e e' hdd hdu
       rw [hdd] at hd
       rw [hdu] at hud
       have hd : P.underlying t = some (.slice e) := hd
       have hud : P.underlying u = some (.slice e') := hud
       cases hte : T e with
       | none => simp [hte] at h
       | some te =>
        simp only [hte] at h
        have hty := hT _ te hte
        have hdv := hev d
        have hxv := hev x
        generalize ev sl d = dv at hdv h
        generalize ev sl x = xv at hxv h
        split at h
        ·rename_i s s' f'
         obtain ⟨hs,hK⟩ := h
         obtain rfl : args = #[d,x] := by rw [← Array.toList_inj]; exact ha
         obtain rfl : argTypes = #[t,u] := by rw [← Array.toList_inj]; exact hb
         generalize hv1 : a.eval d = v1 at hdv
         generalize hv2 : a.eval x = v2 at hxv
         cases hdv with
         | sg _ _ _ ad cap cs hdm hs' hc hl hx' hh' =>
          obtain rfl : cap = 0 := hdm.full rfl
          cases hxv with
          | sg _ _ _ ad2 cap2 cs2 hdm2 hs2 hc2 hl2 hx2 hh2 =>
           refine ⟨_,.slice ad 0 0,w,hK,Post.pure (.sg _ [] true ad 0 cs hdm hs' hc hl hx' hh') hh he,fun o ho => ?_⟩
           have h1 := zjy (P := P) (ty := o.type) hd hud hty ad ad2 cap2 w
           simp only [execOp,ho,resolve,invoke,builtin,Sem.run_bind,Sem.run_pure,Result.andThen_ok]
           simp [hv1,hv2,h1]
        ·rename_i s f'
         obtain ⟨hs,hK⟩ := h
         obtain rfl : args = #[d,x] := by rw [← Array.toList_inj]; exact ha
         obtain rfl : argTypes = #[t,u] := by rw [← Array.toList_inj]; exact hb
         generalize hv1 : a.eval d = v1 at hdv
         generalize hv2 : a.eval x = v2 at hxv
         cases hdv with
         | sg _ _ _ ad cap cs hdm hs' hc hl hx' hh' =>
          obtain rfl : cap = 0 := hdm.full rfl
          cases hxv with
          | sb _ _ ad2 cap2 hdm2 hc2 =>
           refine ⟨_,.slice ad 0 0,w,hK,Post.pure (.sg _ [] true ad 0 cs hdm hs' hc hl hx' hh') hh he,fun o ho => ?_⟩
           have h1 := zjy (P := P) (ty := o.type) hd hud hty ad ad2 cap2 w
           simp only [execOp,ho,resolve,invoke,builtin,Sem.run_bind,Sem.run_pure,Result.andThen_ok]
           simp [hv1,hv2,h1]
        ·rename_i s f'
         obtain ⟨hs,hK⟩ := h
         obtain rfl : args = #[d,x] := by rw [← Array.toList_inj]; exact ha
         obtain rfl : argTypes = #[t,u] := by rw [← Array.toList_inj]; exact hb
         generalize hv1 : a.eval d = v1 at hdv
         generalize hv2 : a.eval x = v2 at hxv
         cases hdv with
         | sg _ _ _ ad cap cs hdm hs' hc hl hx' hh' =>
          obtain rfl : cap = 0 := hdm.full rfl
          cases hxv with
          | si _ _ ad2 cap2 hdm2 hc2 =>
           refine ⟨_,.slice ad 0 0,w,hK,Post.pure (.sg _ [] true ad 0 cs hdm hs' hc hl hx' hh') hh he,fun o ho => ?_⟩
           have h1 := zjy (P := P) (ty := o.type) hd hud hty ad ad2 cap2 w
           simp only [execOp,ho,resolve,invoke,builtin,Sem.run_bind,Sem.run_pure,Result.andThen_ok]
           simp [hv1,hv2,h1]
        ·exact h.elim
      ·exact h.elim
   ·exact h.elim
  ·exact h.elim
 ·exact h.elim
theorem zls {α β : Type} (f : α → β) : ∀ (l : List α) (j : Nat),(l.eraseIdx j).map f = (l.map f).eraseIdx j
 | [],j => by simp
 | x :: r,0 => by simp
 | x :: r,j + 1 => by simp [zls f r j]
theorem zmh {α β : Type} [BEq β] [LawfulBEq β] (f : α → β) : ∀ (l : List α) (j : Nat) (hj : j < l.length),(l.map f).Nodup → (l.filter fun x => !(f x == f l[j])) = l.eraseIdx j
 | [],j,hj,_ => by simp at hj
 | x :: r,0,hj,hn => by
  rw [List.map_cons,List.nodup_cons] at hn
  have h1 : ((fun y => !(f y == f (x :: r)[0])) : α → Bool) x = false := by simp
  rw [List.filter_cons_of_neg (by simp),List.eraseIdx_cons_zero]
  refine List.filter_eq_self.2 fun y hy => ?_
  have : f y ≠ f x := fun e => hn.1 (e ▸ List.mem_map_of_mem hy)
  simpa using this
 | x :: r,j + 1,hj,hn => by
  rw [List.map_cons,List.nodup_cons] at hn
  have hj' : j < r.length := by simpa using hj
  have hne : f x ≠ f r[j] := fun e => hn.1 (e ▸ List.mem_map_of_mem (List.getElem_mem hj'))
  simp only [List.getElem_cons_succ,List.eraseIdx_cons_succ]
  rw [List.filter_cons_of_pos (by simpa using hne),zmh f r j hj' hn.2]
def zmr (x : AV) (H : Heap) (K : AV → Heap → Prop) : Prop :=
 match x with
 | .rf id s i f => match look H id with
  | some (.o (.mi es _)) => ((i = 0 ∧ f = 0) ∧ s ≠ 0) ∧ (es = [] → K (.tup [.w (.bool false)]) H) ∧ ∀ (j : Nat) (h : j < es.length),K (.tup [.w (.bool true),es[j].1,es[j].2]) (put H id (.o (.mi (es.eraseIdx j) (some es[j]))))
  | _ => False
 | _ => False
theorem zpi {P : Program} {w0 : World} {E : Nat → Prop} {w : World} {loc : Loc} {H : Heap} (he : Env w0 E w loc) (hh : HR w loc H) {nm : Nat} {ty : TypeId} {x : AV} {v : Value} {K : AV → Heap → Prop} (hx : R w loc x v) (h : zmr x H K) :
  ∃ y H' u w',K y H' ∧ Post w0 E w loc true nm y H' u w' loc ∧ (∀ id b,look H' id = some b → look H id ≠ none) ∧ (Instr.next v false ty).run P w = .ok u w' := by
 unfold zmr at h
 split at h
 ·rename_i id s i f
  split at h
  ·rename_i es now hl
   obtain ⟨⟨⟨rfl,rfl⟩,hs⟩,hz,hK⟩ := h
   cases hx with
   | rf _ _ _ _ _ h =>
    obtain ⟨c,hc,rfl,m,ms,clk,seen,h1,h2,h3,h4⟩ := zer hh h hl
    rw [zbh hs,show 0 * s + 0 = 0 from by simp]
    have g1 := zcg (P := P) h1
    have g2 := zcg (P := P) h2
    have hLl : (ms.filter fun e => !seen.contains e.born).toList = ms.toList.filter fun e => !seen.contains e.born := by rw [Array.toList_filter]
    have hlen : (ms.filter fun e => !seen.contains e.born).size = es.length := by
     have := congrArg List.length h4.kv
     rw [List.length_map,List.length_map] at this
     rw [← this,← hLl]; rfl
    generalize hL : (ms.filter fun e => !seen.contains e.born) = L at hLl hlen
    have hLm : ∀ e ∈ L,e ∈ ms.toList := fun e he => by
     have : e ∈ L.toList := by simpa using he
     rw [hLl] at this
     exact (List.mem_filter.1 this).1
    have hold : L.filter (fun e => decide (e.born < clk)) = L := by
     rw [← Array.toList_inj,Array.toList_filter]
     exact List.filter_eq_self.2 fun e he => by simpa using h4.old e (hLm e (by simpa using he))
    have hnew : L.filter (fun e => decide (e.born ≥ clk)) = #[] := by
     rw [← Array.toList_inj,Array.toList_filter]
     refine List.filter_eq_nil_iff.2 fun e he => ?_
     have := h4.old e (hLm e (by simpa using he))
     simp; omega
    by_cases h0 : es.length = 0
    ·have he0 : es = [] := List.eq_nil_of_length_eq_zero h0
     have hL0 : L = #[] := by rw [h0] at hlen; exact Array.eq_empty_of_size_eq_zero hlen
     refine ⟨_,H,.tuple #[.bool false],w,hz he0,Post.pure ?_ hh he,fun id b hb => by rw [hb]; simp,?_⟩
     ·exact .tup [.w (.bool false)] [.bool false] rfl (fun j h5 h6 => by
       have : j = 0 := by simp at h5; omega
       subst this; exact .w _ rfl)
     ·simp only [Instr.next,Sem.run_bind,g1,g2,Result.andThen_ok,next_test_false seen ms clk clk h4.old (Nat.le_refl _),Bool.false_eq_true,if_false,hL,hL0]
      simp [choose,Sem.run,Question.forced]
    ·obtain ⟨j,w1,hj,hw1,hch⟩ : ∃ j w1,j < L.size ∧ (w1 = w ∨ w1 = { w with drawn := w.drawn + 1 }) ∧ (choose (.mapNext L.size)).run P w = .ok j w1 := by
      by_cases hn : L.size ≤ 1
      ·exact ⟨0,w,by omega,.inl rfl,by simp [choose,Sem.run,Question.forced,hn]⟩
      ·refine ⟨(Question.mapNext L.size).cut (w.tape w.drawn (.mapNext L.size)),{ w with drawn := w.drawn + 1 },?_,.inr rfl,by simp [choose,Sem.run,Question.forced,hn]⟩
       simp only [Question.cut]
       exact Nat.mod_lt _ (by omega)
     have hje : j < es.length := by omega
     have hjt : j < (ms.toList.filter fun e => !seen.contains e.born).length := by rw [← hLl]; simpa using hj
     have hke : kvOf L[j] = pp es[j] := by
      have e1 : (ms.toList.filter fun e => !seen.contains e.born)[j]'hjt = L[j] := by simp only [← hLl]; simp
      have e2 := congrArg (fun l : List (Value × Value) => l[j]?) h4.kv
      simp only [List.getElem?_map] at e2
      rw [List.getElem?_eq_getElem hjt,List.getElem?_eq_getElem hje,e1] at e2
      simpa using e2
     generalize hee : L[j] = e at hke
     have hem : e ∈ ms.toList := hLm e (by rw [← hee]; simp)
     have heb := h4.old e hem
     have hcm : m ≠ c := by rintro rfl; exact h3 (.inr ⟨id,hc⟩)
     have hE : Ext (fun _ => False) w loc w1 loc := by rcases hw1 with rfl | rfl <;> exact ⟨Nat.le_refl _,fun _ _ _ => rfl,fun _ _ _ => .inl rfl,fun _ _ h => ⟨rfl,h⟩,fun _ _ _ _ => rfl,fun _ cur _ fz h => ⟨cur,fz,h,rfl⟩⟩
     have hh1 : HR w1 loc H := fun k b hb => by
      by_cases hf : loc.m k = .free
      ·exact BlkR.free hf
      ·exact (hh k b hb).ext hE (fun h => h) hf
     have he1 : Env w0 E w1 loc := by rcases hw1 with rfl | rfl <;> exact ⟨he.os,he.tape,he.output,he.size,he.same,he.inj,he.lies,he.bad⟩
     have h11 : w1.heap[c]? = some (.mapIter (some m) clk seen clk) := by rcases hw1 with rfl | rfl <;> exact h1
     have h21 : w1.heap[m]? = some (.map ms clk) := by rcases hw1 with rfl | rfl <;> exact h2
     have h6 := h4.pure es[j] (List.getElem_mem hje)
     have hpost := zfg (y := .mi (es.eraseIdx j) (some es[j])) (nm := nm) (ob' := .mapIter (some m) clk (seen.push e.born) clk) (u := .tup [.w (.bool true),es[j].1,es[j].2]) (v := .tuple #[.bool true,e.key,e.val]) he1 hh1 hc h11 rfl ⟨m,ms,clk,_,zmd h11,by
       simp only
       rw [Array.getElem?_setIfInBounds,if_neg (Ne.symm hcm)]; exact h21,h3,by
       refine ⟨?_,fun q hq => h4.pure q (List.mem_of_mem_eraseIdx hq),h4.nd,h4.old,fun q hq => ?_⟩
       ·have h5 : (ms.toList.filter fun x => !(seen.push e.born).contains x.born) = (ms.toList.filter fun x => !seen.contains x.born).filter fun x => !(x.born == e.born) := by
         rw [List.filter_filter]
         refine List.filter_congr fun x _ => ?_
         rw [contains_push,Bool.not_or,Bool.and_comm]
        have h7 : e = (ms.toList.filter fun x => !seen.contains x.born)[j]'hjt := by rw [← hee]; simp only [← hLl]; simp
        rw [h5]
        have h8 := zmh (fun x : MapEntry => x.born) (ms.toList.filter fun x => !seen.contains x.born) j hjt (h4.nd.sublist (List.Sublist.map _ List.filter_sublist))
        rw [← h7] at h8
        rw [h8,zls,h4.kv,← zls]
       ·injection hq with hq; subst hq
        exact ⟨h6,e,hem,by simp,hke⟩⟩ (by
       have e1 : e.key = pv es[j].1 := congrArg Prod.fst hke
       have e2 : e.val = pv es[j].2 := congrArg Prod.snd hke
       intro w2 loc2
       rw [e1,e2]
       exact .tup [.w (.bool true),es[j].1,es[j].2] [.bool true,pv es[j].1,pv es[j].2] rfl (fun k h7 h8 => by
        have : k = 0 ∨ k = 1 ∨ k = 2 := by simp at h7; omega
        rcases this with rfl | rfl | rfl
        ·exact .w _ rfl
        ·exact zix (zdm h6.1)
        ·exact zix h6.2))
     have hpost' : Post w0 E w loc true nm (.tup [.w (.bool true),es[j].1,es[j].2]) (put H id (.o (.mi (es.eraseIdx j) (some es[j])))) (.tuple #[.bool true,e.key,e.val]) { w1 with heap := w1.heap.setIfInBounds c (.mapIter (some m) clk (seen.push e.born) clk) } loc := by
      rcases hw1 with rfl | rfl
      ·exact hpost
      ·exact ⟨hpost.r,hpost.h,hpost.env,by obtain ⟨C,h,h'⟩ := hpost.ext; exact ⟨C,⟨h.size,h.keep,h.gone,h.imm,h.own,h.shape⟩,h'⟩,hpost.fresh,hpost.bad⟩
     refine ⟨_,_,_,_,hK j hje,hpost',fun k b hb => ?_,?_⟩
     ·rw [zax] at hb
      split at hb
      ·rename_i e; subst e; rw [hl]; simp
      ·rw [hb]; simp
     ·have hne : L.isEmpty = false := by
       cases hi : L.isEmpty with
       | false => rfl
       | true => have := Array.isEmpty_iff.1 hi; subst this; simp at hj
      simp only [Instr.next,Sem.run_bind,g1,g2,Result.andThen_ok,next_test_false seen ms clk clk h4.old (Nat.le_refl _),Bool.false_eq_true,if_false,hL,hold,hnew]
      have hca : ((if L.isEmpty then #[none] else #[]) ++ (L ++ #[]).map some : Array (Option MapEntry)) = L.map some := by rw [hne]; simp
      rw [hca]
      simp only [Array.size_map,hch,Result.andThen_ok]
      simp [hj,hee,zdl h11]
  ·exact h.elim
 ·exact h.elim
def znf (T : zac) (sl : List AV) (op : Op) (H : Heap) (K : AV → Heap → Prop) : Prop :=
 match op with
 | .next x false => zmr (ev sl x) H K
 | op => zyo T sl op (fun x => K x H)
theorem zrt {P : Program} {w0 : World} {E : Nat → Prop} {T : zac} (hT : TOk P T) {w : World} {loc : Loc} {H : Heap} (he : Env w0 E w loc) (hh : HR w loc H) {nm : Nat} {sl : List AV} {a : Act} {op : Op} {K : AV → Heap → Prop} (hev : ∀ x,R w loc (ev sl x) (a.eval x)) (h : znf T sl op H K) :
  ∃ x H' v w',K x H' ∧ Post w0 E w loc true nm x H' v w' loc ∧ (∀ id b,look H' id = some b → look H id ≠ none) ∧ ∀ o : Oper,o.op = op → (execOp a.eval o).run P w = .ok (.value v) w' := by
 have key : zyo T sl op (fun x => K x H) → ∃ x H' v w',K x H' ∧ Post w0 E w loc true nm x H' v w' loc ∧ (∀ id b,look H' id = some b → look H id ≠ none) ∧ ∀ o : Oper,o.op = op → (execOp a.eval o).run P w = .ok (.value v) w' := fun h => by
  obtain ⟨x,v,w',h1,h2,h3⟩ := ztd (P := P) (nm := nm) hT he hh hev h
  exact ⟨x,H,v,w',h1,h2,fun id b hb => by rw [hb]; simp,h3⟩
 unfold znf at h
 split at h
 ·rename_i x
  obtain ⟨y,H',u,w',h1,h2,h3,h4⟩ := zpi (P := P) (nm := nm) (ty := 0) he hh (hev x) h
  refine ⟨y,H',u,w',h1,h2,h3,fun o ho => ?_⟩
  have h5 : (Instr.next (a.eval x) false o.type).run P w = .ok u w' := h4
  simp [execOp,ho,h5]
 ·exact key h
def zmb (S : zal) (T : zac) (ops : List Oper) : List Bool → Nat → List Oper → List AV → Heap → (List AV → Heap → Prop) → Prop
 | _,_,[],sl,H,Q => Q sl H
 | [],nm,r,sl,H,Q => aops S T ops nm r sl H Q
 | true :: l,nm,o :: r,sl,H,Q => o.guard = none ∧ znf T sl o.op H (fun x H => zmb S T ops l (nm + 8) r (zap sl o.dst x) H Q)
 | false :: l,nm,o :: r,sl,H,Q => o.guard = none ∧ (aop S T nm sl o.op H).p ∧ zmb S T ops l (nm + 8) r (zap sl o.dst (aop S T nm sl o.op H).x) (aop S T nm sl o.op H).H Q
theorem zjz {P : Program} {w0 : World} {E : Nat → Prop} {T : zac} {S : zal} (hT : TOk P T) (hS : Fns P S) {ops : Array Oper} {K : Exit → Act → World → Prop} {Q : List AV → Heap → Prop} {B : Bs} {nz : Nat}
  (hK : ∀ sl H a w loc,Base w0 B w loc → Rel' w0 E loc ⟨sl,H,nz⟩ a w → Q sl H → K .normal a w) : ∀ (k : List Bool) (r : List Oper) (nm : Nat) (sl : List AV) (H : Heap) (a : Act) (w : World) (loc : Loc),nz = nm + 8 * r.length → Base w0 B w loc →
  Rel' w0 E loc ⟨sl,H,nm⟩ a w → zmb S T ops.toList k nm r sl H Q → wpList P ops K r a w
 | k,[],nm,sl,H,a,w,loc,hz,hb,hr,h => by
  simp only [List.length_nil,Nat.mul_zero,Nat.add_zero] at hz
  subst hz
  exact wpList_nil (hK sl H a w loc hb hr (by cases k with | nil => exact h | cons b _ => cases b <;> exact h))
 | [],o :: r,nm,sl,H,a,w,loc,hz,hb,hr,h => zdc (ops := ops) hT hS hK (o :: r) nm sl H a w loc hz hb hr h
 | true :: l,o :: r,nm,sl,H,a,w,loc,hz,hb,hr,h => by
  have hz' : nz = nm + 8 + 8 * r.length := by simp at hz; omega
  obtain ⟨hg,hp⟩ := h
  refine wpList_step fun Kn hKn => ?_
  rw [if_pos (by simp [Region.wanted,hg])]
  obtain ⟨x,H',v,w',hrest,hpost,hin,hrun⟩ := zrt (P := P) (nm := nm) hT hr.env hr.heap (fun x => ev_R hr.slots x) hp
  exact (zaw (w' := w') (loc' := loc) (out := ⟨True,x,H'⟩) (hrun o rfl) hpost) Kn K (fun v w' loc' hpost => hKn _ _ (zjz hT hS hK l r (nm + 8) _ _ _ w' loc' hz' (hb.post hpost) (zfv hr hpost (fun id b hl => Or.inl (hin id b hl)) o.dst) hrest))
 | false :: l,o :: r,nm,sl,H,a,w,loc,hz,hb,hr,h => by
  have hz' : nz = nm + 8 + 8 * r.length := by simp at hz; omega
  obtain ⟨hg,hp,hrest⟩ := h
  refine wpList_step fun Kn hKn => ?_
  rw [if_pos (by simp [Region.wanted,hg])]
  have hop := zci hT hS hr.env hr.heap (fun id h1 _ => hr.fresh id h1) o (fun x _ => ev_R hr.slots x) hp
  exact hop Kn K (fun v w' loc' hpost => hKn _ _ (zjz hT hS hK l r (nm + 8) _ _ _ w' loc' hz' (hb.post hpost) (zfv hr hpost (zep hp) o.dst) hrest))
inductive RP where
 | std
 | frz (fs : List Nat)
 | opn (fs : List Nat) (k : Nat)
 | prs (l : List (Nat × Nat))
 | tst (k : List Bool)
 | wkp (l : List (Nat × Nat))
 | drs (l : List (Nat × Nat)) (k : Nat)
 | drf (l : List (Nat × Nat)) (k f : Nat)
 | wks
abbrev zlh := Nat → RP
def ygf (T : zac) (f : Nat) (ops : List Oper) : Bool := match ops[f]? with
 | some o => zqs T o
 | none => false
def zcn (T : zac) (pl : zlh) : Code → Bool
 | .region id ops draw => match pl id with
  | .std => !draw || zlb T ops.toList
  | .frz _ => !draw || zlb T ops.toList
  | .opn _ _ => !draw
  | .tst _ => !draw
  | .prs p => draw && zha T ops.toList p
  | .wkp p => draw && zha T ops.toList p
  | .wks => !draw || zlb T ops.toList
  | .drs p k => draw && (decide (k ≤ ops.toList.length) && (zha T (ops.toList.take k) p && yoa k ops.toList))
  | .drf p k f => draw && (decide (k < ops.toList.length ∧ f < k) && (zha T (ops.toList.take k) p && (zmc f k ops.toList && ygf T f ops.toList)))
 | .seq a b => zcn T pl a && zcn T pl b
 | .cond _ a b => zcn T pl a && zcn T pl b
 | .block _ c => zcn T pl c
 | .loop c => zcn T pl c
 | _ => true
def wkF (S : zal) (T : zac) (l : List Oper) (p : List (Nat × Nat)) (nx : Nat) (sl : List AV) (H : Heap) (Q : Exit → ASt → Prop) : Prop := ∃ sl' H',Weak ⟨sl,H,nx⟩ ⟨sl',H',nx⟩ ∧ zfq S T l p nx [] l sl' H' (regK (nx + 8 * l.length) Q)
def drF (S SO : zal) (T : zac) (l : List Oper) (p : List (Nat × Nat)) (k nx : Nat) (sl : List AV) (H : Heap) (Q : Exit → ASt → Prop) : Prop :=
 ∃ sl' H',Weak ⟨sl,H,nx⟩ ⟨sl',H',nx⟩ ∧ zfq S T (l.take k) p nx [] (l.take k) sl' H' (fun sl H => zmn S SO T l 0 (nx + 8 * k) (l.drop k) sl H (regK (nx + 8 * l.length) Q))
def zxy (l : List Oper) (k f : Nat) : List Oper := match l.drop k,l[f]? with
 | c :: r,some o => c :: o :: r
 | _,_ => []
def dstF (l : List Oper) (f : Nat) : Option Tmp := match l[f]? with
 | some o => o.dst
 | none => none
def dfF (S SO : zal) (T : zac) (l : List Oper) (p : List (Nat × Nat)) (k f nx : Nat) (sl : List AV) (H : Heap) (Q : Exit → ASt → Prop) : Prop :=
 ∃ sl' H',Weak ⟨sl,H,nx⟩ ⟨sl',H',nx⟩ ∧ zfq S T (l.take k) p nx [] (l.take k) sl' H' (fun sl H => zmn S SO T l 0 (nx + 8 * k) (l.drop k) sl H (regK (nx + 8 * (l.length + 1)) Q) ∧ zmn S SO T l 0 (nx + 8 * k) (zxy l k f) (zap sl (dstF l f) .junk) H (regK (nx + 8 * (l.length + 1)) Q))
def wsF (S : zal) (T : zac) (l : List Oper) (nx : Nat) (sl : List AV) (H : Heap) (Q : Exit → ASt → Prop) : Prop := ∃ sl' H',Weak ⟨sl,H,nx⟩ ⟨sl',H',nx⟩ ∧ aops S T l nx l sl' H' (regK (nx + 8 * l.length) Q)
def awpO (S SO : zal) (T : zac) (pl : zlh) : Code → (Exit → ASt → Prop) → ASt → Prop
 | .skip,Q,σ => Q .normal σ
 | .label _,Q,σ => Q .normal σ
 | .region id ops _,Q,σ => match pl id with
  | .std => aops S T ops.toList σ.nx ops.toList σ.sl σ.H (regK (σ.nx + 8 * ops.toList.length) Q)
  | .prs p => zfq S T ops.toList p σ.nx [] ops.toList σ.sl σ.H (regK (σ.nx + 8 * ops.toList.length) Q)
  | .frz fs => frzK fs σ.sl σ.H (fun sl H => aops S T ops.toList σ.nx ops.toList sl H (regK (σ.nx + 8 * ops.toList.length) Q))
  | .opn fs k => frzK fs σ.sl σ.H (fun sl H => zmn S SO T ops.toList k σ.nx ops.toList sl H (regK (σ.nx + 8 * ops.toList.length) Q))
  | .tst k => zmb S T ops.toList k σ.nx ops.toList σ.sl σ.H (regK (σ.nx + 8 * ops.toList.length) Q)
  | .wkp p => wkF S T ops.toList p σ.nx σ.sl σ.H Q
  | .drs p k => drF S SO T ops.toList p k σ.nx σ.sl σ.H Q
  | .drf p k f => dfF S SO T ops.toList p k f σ.nx σ.sl σ.H Q
  | .wks => wsF S T ops.toList σ.nx σ.sl σ.H Q
 | .seq a b,Q,σ => awpO S SO T pl a (seqK (awpO S SO T pl b Q) Q) σ
 | .cond c a b,Q,σ => match ev σ.sl c with
   | .w (.bool t) => zhj t (awpO S SO T pl a Q σ) (awpO S SO T pl b Q σ)
   | _ => False
 | .block id c,Q,σ => awpO S SO T pl c (zgq id Q) σ
 | .loop c,Q,σ => ydn (awpO S SO T pl c) Q σ
 | .exit id,Q,σ => Q (.exit id) σ
 | .ret,Q,σ => Q .ret σ
 | _,_,_ => False
open Classical in
theorem zrd {P : Program} {w0 : World} {E : Nat → Prop} {T : zac} {S SO : zal} {pl : zlh} (hm : P.follows .mixedOrders = true) (hT : TOk P T) (hS : Fns P S) (hSO : FnsO P SO) {B : Bs} : ∀ (c : Code) (Q : Exit → ASt → Prop) (σ : ASt) (a : Act) (w : World),
  zcn T pl c = true → awpO S SO T pl c Q σ → Rel w0 E B σ a w → c.wp P (Low w0 E B Q) a w := by
 intro c
 induction c with
 | skip => intro Q σ a w hdr h hr; exact wp_skip ⟨σ,hr,h⟩
 | label l => intro Q σ a w hdr h hr; exact wp_label ⟨σ,hr,h⟩
 | ret => intro Q σ a w hdr h hr; exact wp_ret ⟨σ,hr,h⟩
 | exit id => intro Q σ a w hdr h hr; exact wp_exit ⟨σ,hr,h⟩
 | region id ops draw =>
  intro Q σ a w hdr h hr
  obtain ⟨loc,hb,hr⟩ := hr
  obtain ⟨sl,H,nx⟩ := σ
  have hK : ∀ sl H a w loc,Base w0 B w loc → Rel' w0 E loc ⟨sl,H,nx + 8 * ops.toList.length⟩ a w → regK (nx + 8 * ops.toList.length) Q sl H → Low w0 E B Q .normal a w := fun sl H a w loc h1 h2 h3 => ⟨_,⟨loc,h1,h2⟩,h3⟩
  simp only [zcn] at hdr
  simp only [awpO] at h
  cases hp : pl id with
  | std =>
   simp only [hp] at hdr h
   cases draw with
   | false => exact wp_region_list (zdc hT hS hK ops.toList nx sl H a w loc rfl hb hr h)
   | true => exact zev hT hS hm w0 E ops.toList _ _ B nx sl H a w loc id (by simpa using hdr) hK hb hr h
  | prs p =>
   simp only [hp] at hdr h
   simp only [Bool.and_eq_true] at hdr
   obtain ⟨hd1,hd2⟩ := hdr
   subst hd1
   exact zjt hT hS hm hd2 hK hb hr h
  | frz fs =>
   simp only [hp] at hdr h
   obtain ⟨sl',H',hw,h⟩ := zqq (nx := nx) _ _ _ _ h
   obtain ⟨loc',hb',hr'⟩ := hw _ _ _ _ _ ⟨loc,hb,hr⟩
   cases draw with
   | false => exact wp_region_list (zdc hT hS hK ops.toList nx sl' H' a w loc' rfl hb' hr' h)
   | true => exact zev hT hS hm w0 E ops.toList _ _ B nx sl' H' a w loc' id (by simpa using hdr) hK hb' hr' h
  | opn fs k =>
   simp only [hp] at hdr h
   obtain ⟨sl',H',hw,h⟩ := zqq (nx := nx) _ _ _ _ h
   obtain ⟨loc',hb',hr'⟩ := hw _ _ _ _ _ ⟨loc,hb,hr⟩
   cases draw with
   | false => exact wp_region_list (zfp hT hS hSO hK k ops.toList nx sl' H' a w loc' rfl hb' hr' h)
   | true => simp at hdr
  | tst k =>
   simp only [hp] at hdr h
   cases draw with
   | false => exact wp_region_list (zjz hT hS hK k ops.toList nx sl H a w loc rfl hb hr h)
   | true => simp at hdr
  | wkp p =>
   simp only [hp] at hdr h
   simp only [Bool.and_eq_true] at hdr
   obtain ⟨hd1,hd2⟩ := hdr
   subst hd1
   obtain ⟨sl',H',hw,h⟩ := h
   obtain ⟨loc',hb',hr'⟩ := hw _ _ _ _ _ ⟨loc,hb,hr⟩
   exact zjt hT hS hm hd2 hK hb' hr' h
  | wks =>
   simp only [hp] at hdr h
   obtain ⟨sl',H',hw,h⟩ := h
   obtain ⟨loc',hb',hr'⟩ := hw _ _ _ _ _ ⟨loc,hb,hr⟩
   cases draw with
   | false => exact wp_region_list (zdc hT hS hK ops.toList nx sl' H' a w loc' rfl hb' hr' h)
   | true => exact zev hT hS hm w0 E ops.toList _ _ B nx sl' H' a w loc' id (by simpa using hdr) hK hb' hr' h
  | drs p k =>
   simp only [hp] at hdr h
   simp only [Bool.and_eq_true,decide_eq_true_eq] at hdr
   obtain ⟨hd1,hd0,hd2,hd3⟩ := hdr
   subst hd1
   obtain ⟨sl',H',hw,h⟩ := h
   obtain ⟨loc',hb',hr'⟩ := hw _ _ _ _ _ ⟨loc,hb,hr⟩
   have hlk : (ops.toList.take k).length = k := by rw [List.length_take]; omega
   have e : ops = (ops.toList.take k ++ ops.toList.drop k).toArray := by rw [List.take_append_drop]
   have e2 : ops.toList.take k ++ ops.toList.drop k = ops.toList := List.take_append_drop _ _
   have hz : nx + 8 * ops.toList.length = nx + 8 * k + 8 * (ops.toList.drop k).length := by rw [List.length_drop]; omega
   rw [e]
   refine zom (l := ops.toList.take k) (suf := ops.toList.drop k) (fl := k) hT hS hm hd2 (by rw [hlk,e2]; exact hd3) (fun sl2 H2 a2 w2 loc2 hb2 hr2 hq => ?_) (fun of c hof => by rw [List.getElem?_eq_none (by omega)] at hof; cases hof) hb' hr' h
   rw [hlk] at hr2
   refine zfp (ops := (ops.toList.take k ++ ops.toList.drop k).toArray) hT hS hSO hK 0 (ops.toList.drop k) (nx + 8 * k) sl2 H2 a2 w2 loc2 hz hb2 hr2 ?_
   rw [← e]; exact hq
  | drf p k f =>
   simp only [hp] at hdr h
   simp only [Bool.and_eq_true,decide_eq_true_eq] at hdr
   obtain ⟨hd1,⟨hd0,hdf⟩,hd2,hd3,hd4⟩ := hdr
   subst hd1
   obtain ⟨sl',H',hw,h⟩ := h
   obtain ⟨loc',hb',hr'⟩ := hw _ _ _ _ _ ⟨loc,hb,hr⟩
   have hlk : (ops.toList.take k).length = k := by rw [List.length_take]; omega
   have e : ops = (ops.toList.take k ++ ops.toList.drop k).toArray := by rw [List.take_append_drop]
   have e2 : ops.toList.take k ++ ops.toList.drop k = ops.toList := List.take_append_drop _ _
   have hdl : (ops.toList.drop k).length = ops.toList.length - k := List.length_drop
   have hK1 : ∀ sl H a w loc,Base w0 B w loc → Rel' w0 E loc ⟨sl,H,nx + 8 * ops.toList.length⟩ a w → regK (nx + 8 * (ops.toList.length + 1)) Q sl H → Low w0 E B Q .normal a w := fun sl H a w loc h1 h2 h3 =>
    ⟨⟨sl,H,nx + 8 * (ops.toList.length + 1)⟩,⟨loc,h1,⟨h2.size,h2.slots,h2.heap,h2.env,fun id hid => h2.fresh id (by simp only at hid ⊢; omega),h2.defers,fun id b hl => by have := h2.low id b hl; simp only at this ⊢; omega⟩⟩,h3⟩
   have hK3 : ∀ sl H a w loc,Base w0 B w loc → Rel' w0 E loc ⟨sl,H,nx + 8 * (ops.toList.length + 1)⟩ a w → regK (nx + 8 * (ops.toList.length + 1)) Q sl H → Low w0 E B Q .normal a w := fun sl H a w loc h1 h2 h3 => ⟨_,⟨loc,h1,h2⟩,h3⟩
   rw [e]
   refine zom (l := ops.toList.take k) (suf := ops.toList.drop k) (fl := f) hT hS hm hd2 (by rw [hlk,e2]; exact hd3) (fun sl2 H2 a2 w2 loc2 hb2 hr2 hq => ?_) (fun of c hof hc => ?_) hb' hr' h
   ·rw [hlk] at hr2
    refine zfp (ops := (ops.toList.take k ++ ops.toList.drop k).toArray) hT hS hSO hK1 0 (ops.toList.drop k) (nx + 8 * k) sl2 H2 a2 w2 loc2 (by omega) hb2 hr2 ?_
    rw [← e]; exact hq.1
   ·have hof2 : ops.toList[f]? = some of := by
     rw [List.getElem?_take] at hof
     rw [if_pos hdf] at hof
     exact hof
    unfold ygf at hd4
    rw [hof2] at hd4
    refine ⟨hd4,fun sl2 H2 a2 w2 loc2 hb2 hr2 hq => ?_⟩
    rw [hlk] at hr2
    have hdr : ops.toList.drop k = c :: (ops.toList.drop k).drop 1 := by
     cases hdd : ops.toList.drop k with
     | nil => rw [hdd] at hc; cases hc
     | cons x r => rw [hdd] at hc; injection hc with hc; subst hc; rfl
    have hq2 := hq.2
    have hbe : zxy ops.toList k f = c :: of :: (ops.toList.drop k).drop 1 := by
     unfold zxy
     rw [hof2]
     cases hdd : ops.toList.drop k with
     | nil => rw [hdd] at hc; cases hc
     | cons x r => rw [hdd] at hc; injection hc with hc; subst hc; rfl
    have hdst : dstF ops.toList f = of.dst := by unfold dstF; rw [hof2]
    rw [hbe,hdst] at hq2
    refine zfp (ops := (ops.toList.take k ++ ops.toList.drop k).toArray) hT hS hSO hK3 0 _ (nx + 8 * k) _ H2 a2 w2 loc2 (by simp only [List.length_cons,List.length_drop]; omega) hb2 hr2 ?_
    rw [← e]; exact hq2
 | seq x y ihx ihy =>
  intro Q σ a w hdr h hr
  refine wp_seq (wp_mono (ihx _ σ a w (by simp only [zcn,Bool.and_eq_true] at hdr; exact hdr.1) h hr) ?_)
  rintro e a' w' ⟨σ',hr',hq⟩
  cases e with
  | normal => exact ihy Q σ' a' w' (by simp only [zcn,Bool.and_eq_true] at hdr; exact hdr.2) hq hr'
  | _ => exact ⟨σ',hr',hq⟩
 | cond c x y ihx ihy =>
  intro Q σ a w hdr h hr
  simp only [awpO,zhj] at h
  simp only [zcn,Bool.and_eq_true] at hdr
  obtain ⟨loc,hb,hr⟩ := hr
  split at h
  ·rename_i t hc
   have hv := ev_R hr.slots c
   rw [hc] at hv
   have hv := hv.wv
   cases t with
   | true => exact wp_cond_true hv (ihx Q σ a w hdr.1 (h.1 rfl) ⟨loc,hb,hr⟩)
   | false => exact wp_cond_false hv (ihy Q σ a w hdr.2 (h.2 rfl) ⟨loc,hb,hr⟩)
  ·exact h.elim
 | block id c ih =>
  intro Q σ a w hdr h hr
  refine wp_block (wp_mono (ih _ σ a w hdr h hr) ?_)
  rintro e a' w' ⟨σ',hr',hq⟩
  cases e with
  | exit id' =>
   simp only [zgq,Exit.inBlock] at hq ⊢
   split at hq
   ·rename_i he; rw [if_pos he]; exact ⟨σ',hr',hq⟩
   ·rename_i he; rw [if_neg he]; exact ⟨σ',hr',hq⟩
  | _ => exact ⟨σ',hr',hq⟩
 | loop c ih =>
  intro Q σ a w hdr h hr
  obtain ⟨I,⟨n0,σ0,hw0,hI0⟩,hround⟩ := h
  let p : Act → World → Nat → Prop := fun a w n => ∃ σ,Rel w0 E B σ a w ∧ I n σ
  have hleast : ∀ a w,(∃ n,p a w n) → ∃ m,p a w m ∧ ∀ k,p a w k → m ≤ k := fun a w ⟨n,hn⟩ => let ⟨m,h1,_,h3⟩ := yir n hn; ⟨m,h1,h3⟩
  let μ : Act → World → Nat := fun a w => if h : ∃ n,p a w n then Classical.choose (hleast a w h) else 0
  refine wp_loop (fun a w => ∃ n,p a w n) μ ⟨n0,σ0,hw0 w0 E B a w hr,hI0⟩ ?_
  intro a w hex
  have hμ : μ a w = Classical.choose (hleast a w hex) := dif_pos hex
  obtain ⟨⟨σ1,hr1,hI1⟩,hmin⟩ := Classical.choose_spec (hleast a w hex)
  rw [← hμ] at hI1
  refine wp_mono (ih _ σ1 a w hdr (hround _ σ1 hI1) hr1) ?_
  rintro e a' w' ⟨σ',hr',hq⟩
  cases e with
  | normal =>
   obtain ⟨m,σ2,hlt,hw2,hI2⟩ := hq
   have hp : p a' w' m := ⟨σ2,hw2 w0 E B a' w' hr',hI2⟩
   refine ⟨⟨m,hp⟩,?_⟩
   have hμ' : μ a' w' = Classical.choose (hleast a' w' ⟨m,hp⟩) := dif_pos ⟨m,hp⟩
   have := (Classical.choose_spec (hleast a' w' ⟨m,hp⟩)).2 m hp
   rw [← hμ'] at this
   exact Nat.lt_of_le_of_lt this hlt
  | _ =>
   obtain ⟨σ2,hw2,hq⟩ := hq
   exact ⟨σ2,hw2 w0 E B a' w' hr',hq⟩
 | _ => intro Q σ a w hdr h hr; exact h.elim
theorem zdg {P : Program} {T : zac} {S SO : zal} (hm : P.follows .mixedOrders = true) (hT : TOk P T) (hS : Fns P S) (hSO : FnsO P SO) {f : FuncId} {fn : Func} {c : Code} (hf : P.funcs[f]? = some fn) (hb : fn.body = some c) {spec : zcc}
  (h : ∀ xs pins,(spec xs pins).p → pins.length ≤ 4 ∧ ∃ pl,zcn T pl c = true ∧ awpO S SO T pl c (ykr T fn.results.toList pins (spec xs pins)) ⟨xs ++ List.replicate (fn.ntmps - xs.length) .junk,pinHeap 0 pins,4⟩) : zfr P f spec :=
 ybs hT hf hb (Qp := fun xs pins => ykr T fn.results.toList pins (spec xs pins)) (fun _ _ _ _ h => h) (fun xs pins hp => ⟨(h xs pins hp).1,fun w0 E B a w hr => (h xs pins hp).2.elim fun pl hh => zrd hm hT hS hSO c _ _ _ _ hh.1 hh.2 hr⟩)
theorem ycu {P : Program} {T : zac} {S SO : zal} (hm : P.follows .mixedOrders = true) (hT : TOk P T) (hS : Fns P S) (hSO : FnsO P SO) {f : FuncId} {fn : Func} {c : Code} (hf : P.funcs[f]? = some fn) (hb : fn.body = some c) {spec : zcc}
  (h : ∀ xs pins,(spec xs pins).p → closedB pins = true → pins.length ≤ 4 ∧ ∃ pl,zcn T pl c = true ∧ awpO S SO T pl c (zyi T fn.results.toList pins (spec xs pins)) ⟨xs ++ List.replicate (fn.ntmps - xs.length) .junk,pinHeap 0 pins,4⟩) : zen P f spec :=
 ybt (S := S) hT hS hf hb (Qp := fun xs pins => zyi T fn.results.toList pins (spec xs pins)) (fun _ _ _ _ h => h) (fun xs pins hp hc => ⟨(h xs pins hp hc).1,fun w0 E B a w hr => (h xs pins hp hc).2.elim fun pl hh => zrd hm hT hS hSO c _ _ _ _ hh.1 hh.2 hr⟩)
def zzg (S SO : zal) (T : zac) (pl : zlh) (b : Code) (Q : Exit → ASt → Prop) : Exit → ASt → Prop := seqK (awpO S SO T pl b Q) Q
section rules
variable {S SO : zal} {T : zac} {pl : zlh} {Q : Exit → ASt → Prop} {σ : ASt}
theorem zvy : awpO S SO T pl .skip Q σ = Q .normal σ := rfl
theorem zre {l : Nat} : awpO S SO T pl (.label l) Q σ = Q .normal σ := rfl
theorem yav : awpO S SO T pl .ret Q σ = Q .ret σ := rfl
theorem zvz {id : Nat} : awpO S SO T pl (.exit id) Q σ = Q (.exit id) σ := rfl
theorem zoy {id : Nat} {l : List Oper} {draw : Bool} : awpO S SO T pl (.region id l.toArray draw) Q σ = match pl id with
  | .std => aops S T l σ.nx l σ.sl σ.H (regK (σ.nx + 8 * l.length) Q)
  | .prs p => zfq S T l p σ.nx [] l σ.sl σ.H (regK (σ.nx + 8 * l.length) Q)
  | .frz fs => frzK fs σ.sl σ.H (fun sl H => aops S T l σ.nx l sl H (regK (σ.nx + 8 * l.length) Q))
  | .opn fs k => frzK fs σ.sl σ.H (fun sl H => zmn S SO T l k σ.nx l sl H (regK (σ.nx + 8 * l.length) Q))
  | .tst k => zmb S T l k σ.nx l σ.sl σ.H (regK (σ.nx + 8 * l.length) Q)
  | .wkp p => wkF S T l p σ.nx σ.sl σ.H Q
  | .drs p k => drF S SO T l p k σ.nx σ.sl σ.H Q
  | .drf p k f => dfF S SO T l p k f σ.nx σ.sl σ.H Q
  | .wks => wsF S T l σ.nx σ.sl σ.H Q := by
 unfold awpO; cases pl id <;> rfl
theorem yau {a b : Code} : awpO S SO T pl (.seq a b) Q σ = awpO S SO T pl a (zzg S SO T pl b Q) σ := rfl
theorem zrf {id : Nat} {c : Code} : awpO S SO T pl (.block id c) Q σ = awpO S SO T pl c (zgq id Q) σ := rfl
theorem zwa {c : Operand} {a b : Code} : awpO S SO T pl (.cond c a b) Q σ = match ev σ.sl c with
   | .w (.bool t) => zhj t (awpO S SO T pl a Q σ) (awpO S SO T pl b Q σ)
   | _ => False := rfl
theorem zbe {c : Code} (h : ydn (awpO S SO T pl c) Q σ) : awpO S SO T pl (.loop c) Q σ := h
theorem zaa {b : Code} : zzg S SO T pl b Q .normal σ = awpO S SO T pl b Q σ := rfl
theorem znv {b : Code} {id : Nat} : zzg S SO T pl b Q (.exit id) σ = Q (.exit id) σ := rfl
theorem zql {b : Code} : zzg S SO T pl b Q .ret σ = Q .ret σ := rfl
variable {ops r : List Oper} {o : Oper} {nm k : Nat} {sl : List AV} {H : Heap} {Q' : List AV → Heap → Prop}
def yej (q : Out) (sl : List AV) (dst : Option Tmp) (K : List AV → Heap → Prop) : Prop := q.p ∧ K (zap sl dst q.x) q.H
theorem ycc {q : Out} {dst : Option Tmp} {K : List AV → Heap → Prop} : yej q sl dst K = (q.p ∧ K (zap sl dst q.x) q.H) := rfl
theorem zrm {dst : Option Tmp} {op : Op} {type : TypeId} {pos : String} {after : Array Edge} : zmn S SO T ops 0 nm (⟨dst,op,type,pos,after,none⟩ :: r) sl H Q' =
  yej (zco SO T nm sl op H) sl dst (fun sl' H' => aops S T ops (nm + 8) r sl' H' Q') := by
 simp [zmn,yej]
theorem zrn {dst : Option Tmp} {op : Op} {type : TypeId} {pos : String} {after : Array Edge} : zmn S SO T ops (k + 1) nm (⟨dst,op,type,pos,after,none⟩ :: r) sl H Q' =
  ((aop S T nm sl op H).p ∧ zmn S SO T ops k (nm + 8) r (zap sl dst (aop S T nm sl op H).x) (aop S T nm sl op H).H Q') := by
 simp [zmn]
theorem zwh : zmb S T ops [] nm r sl H Q' = aops S T ops nm r sl H Q' := by
 cases r <;> rfl
theorem zrl {l : List Bool} : zmb S T ops l nm [] sl H Q' = Q' sl H := by
 cases l with
 | nil => rfl
 | cons b _ => cases b <;> rfl
theorem yhs {l : List Bool} {dst : Option Tmp} {op : Op} {type : TypeId} {pos : String} {after : Array Edge} : zmb S T ops (true :: l) nm (⟨dst,op,type,pos,after,none⟩ :: r) sl H Q' =
  (znf T sl op H (fun x H => zmb S T ops l (nm + 8) r (zap sl dst x) H Q')) := by
 simp [zmb]
theorem yht {l : List Bool} {dst : Option Tmp} {op : Op} {type : TypeId} {pos : String} {after : Array Edge} : zmb S T ops (false :: l) nm (⟨dst,op,type,pos,after,none⟩ :: r) sl H Q' =
  ((aop S T nm sl op H).p ∧ zmb S T ops l (nm + 8) r (zap sl dst (aop S T nm sl op H).x) (aop S T nm sl op H).H Q') := by
 simp [zmb]
end rules
end Ax
end Go.Proofs.Ytdfgfdcfcdgadaa
namespace Go.Proofs.Ytdfgfdcfcdgadaa
open Ax
theorem evTO : (type_of% @zvy) ∧
  (type_of% @zre) ∧
  (type_of% @yav) ∧
  (type_of% @zvz) ∧
  (type_of% @zoy) ∧
  (type_of% @yau) ∧
  (type_of% @zrf) ∧
  (type_of% @zwa) ∧
  (type_of% @znv) ∧
  (type_of% @zql) ∧
  (type_of% @zrm) ∧
  (type_of% @zrn) ∧
  (type_of% @zwh) ∧
  (type_of% @zrl) ∧
  (type_of% @yhs) ∧
  (type_of% @yht) :=
 ⟨@zvy,@zre,@yav,@zvz,@zoy,@yau,@zrf,@zwa,@znv,@zql,@zrm,@zrn,@zwh,@zrl,@yhs,@yht⟩
theorem evDO : (type_of% @Ax.frzS.eq_1) ∧
  (type_of% @Ax.frzL.eq_1) ∧
  (type_of% @Ax.frzL.eq_2) ∧
  (type_of% @Ax.fzL.eq_1) ∧
  (type_of% @Ax.fzL.eq_2) ∧
  (type_of% @Ax.fzH.eq_1) ∧
  (type_of% @Ax.fzH.eq_2) ∧
  (type_of% @Ax.AV.fz.eq_1) ∧
  (type_of% @Ax.AV.fz.eq_2) ∧
  (type_of% @Ax.AV.fz.eq_3) ∧
  (type_of% @Ax.AV.fz.eq_4) ∧
  (type_of% @Ax.AV.fz.eq_5) ∧
  (type_of% @Ax.fiL.eq_1) ∧
  (type_of% @Ax.fiL.eq_2) ∧
  (type_of% @Ax.fiH.eq_1) ∧
  (type_of% @Ax.fiH.eq_2) ∧
  (type_of% @Ax.AV.fi.eq_1) ∧
  (type_of% @Ax.AV.fi.eq_2) ∧
  (type_of% @Ax.AV.fi.eq_3) ∧
  (type_of% @Ax.AV.fi.eq_4) ∧
  (type_of% @Ax.AV.fi.eq_5) ∧
  (type_of% @Ax.fgL.eq_1) ∧
  (type_of% @Ax.fgL.eq_2) ∧
  (type_of% @Ax.fgH.eq_1) ∧
  (type_of% @Ax.fgH.eq_2) ∧
  (type_of% @Ax.AV.fg.eq_1) ∧
  (type_of% @Ax.AV.fg.eq_2) ∧
  (type_of% @Ax.AV.fg.eq_3) ∧
  (type_of% @Ax.AV.fg.eq_4) ∧
  (type_of% @Ax.AV.fg.eq_5) ∧
  (type_of% @Ax.aOpen.eq_1) ∧
  (type_of% @Ax.openOut.eq_1) ∧
  (type_of% @Ax.reach.eq_1) ∧
  (type_of% @Ax.reach.eq_2) ∧
  (type_of% @Ax.reach.eq_3) ∧
  (type_of% @Ax.walk.eq_1) ∧
  (type_of% @Ax.walk.eq_2) ∧
  (type_of% @Ax.allIn.eq_1) ∧
  (type_of% @Ax.allIn.eq_2) ∧
  (type_of% @Ax.pinsIn.eq_1) ∧
  (type_of% @Ax.pinsIn.eq_2) ∧
  (type_of% @Ax.pinsR.eq_1) ∧
  (type_of% @Ax.pinsR.eq_2) ∧
  (type_of% @Ax.backO.eq_1) ∧
  (type_of% @Ax.backO.eq_2) ∧
  (type_of% @Ax.gone.eq_1) ∧
  (type_of% @Ax.AV.sids.eq_1) ∧
  (type_of% @Ax.AV.sids.eq_2) ∧
  (type_of% @Ax.AV.sids.eq_3) ∧
  (type_of% @Ax.AV.sids.eq_4) ∧
  (type_of% @Ax.AV.sids.eq_5) ∧
  (type_of% @Ax.AV.sids.eq_6) ∧
  (type_of% @Ax.sidsL.eq_1) ∧
  (type_of% @Ax.sidsL.eq_2) ∧
  (type_of% @Ax.AV.sidsH.eq_1) ∧
  (type_of% @Ax.AV.sidsH.eq_2) ∧
  (type_of% @Ax.AV.sidsH.eq_3) ∧
  (type_of% @Ax.AV.sidsH.eq_4) ∧
  (type_of% @Ax.AV.sidsH.eq_5) ∧
  (type_of% @Ax.AV.sidsH.eq_6) ∧
  (type_of% @Ax.sidsLH.eq_1) ∧
  (type_of% @Ax.sidsLH.eq_2) ∧
  (type_of% @Ax.Blk.renB.eq_1) ∧
  (type_of% @Ax.idxOf.eq_1) ∧
  (type_of% @Ax.EndsXO.eq_1) ∧
  (type_of% @Ax.endIds.eq_1) ∧
  (type_of% @Ax.reachE.eq_1) ∧
  (type_of% @Ax.reachE.eq_2) ∧
  (type_of% @Ax.reachE.eq_3) ∧
  (type_of% @Ax.idsAt.eq_1) ∧
  (type_of% @Ax.idsAtL.eq_1) ∧
  (type_of% @Ax.idsAtL.eq_2) ∧
  (type_of% @Ax.walkI.eq_1) ∧
  (type_of% @Ax.walkI.eq_2) ∧
  (type_of% @Ax.matchE.eq_1) ∧
  (type_of% @Ax.matchE.eq_2) ∧
  (type_of% @Ax.matchE.eq_3) ∧
  (type_of% @Ax.aopF.eq_1) ∧
  (type_of% @Ax.foot.eq_1) ∧
  (type_of% @Ax.footA.eq_1) ∧
  (type_of% @Ax.keepIn.eq_1) ∧
  (type_of% @Ax.keepIn.eq_2) ∧
  (type_of% @Ax.dropIn.eq_1) ∧
  (type_of% @Ax.dropIn.eq_2) ∧
  (type_of% @Ax.bids.eq_1) ∧
  (type_of% @Ax.bids.eq_2) ∧
  (type_of% @Ax.heldB.eq_1) ∧
  (type_of% @Ax.memOk.eq_1) ∧
  (type_of% @Ax.clearOf.eq_1) :=
 ⟨@Ax.frzS.eq_1,@Ax.frzL.eq_1,@Ax.frzL.eq_2,@Ax.fzL.eq_1,@Ax.fzL.eq_2,@Ax.fzH.eq_1,@Ax.fzH.eq_2,@Ax.AV.fz.eq_1,@Ax.AV.fz.eq_2,@Ax.AV.fz.eq_3,@Ax.AV.fz.eq_4,@Ax.AV.fz.eq_5,@Ax.fiL.eq_1,@Ax.fiL.eq_2,@Ax.fiH.eq_1,@Ax.fiH.eq_2,@Ax.AV.fi.eq_1,@Ax.AV.fi.eq_2,@Ax.AV.fi.eq_3,@Ax.AV.fi.eq_4,@Ax.AV.fi.eq_5,@Ax.fgL.eq_1,@Ax.fgL.eq_2,@Ax.fgH.eq_1,@Ax.fgH.eq_2,@Ax.AV.fg.eq_1,@Ax.AV.fg.eq_2,@Ax.AV.fg.eq_3,@Ax.AV.fg.eq_4,@Ax.AV.fg.eq_5,@Ax.aOpen.eq_1,@Ax.openOut.eq_1,@Ax.reach.eq_1,@Ax.reach.eq_2,@Ax.reach.eq_3,@Ax.walk.eq_1,@Ax.walk.eq_2,@Ax.allIn.eq_1,@Ax.allIn.eq_2,@Ax.pinsIn.eq_1,@Ax.pinsIn.eq_2,@Ax.pinsR.eq_1,@Ax.pinsR.eq_2,@Ax.backO.eq_1,@Ax.backO.eq_2,@Ax.gone.eq_1,@Ax.AV.sids.eq_1,@Ax.AV.sids.eq_2,@Ax.AV.sids.eq_3,@Ax.AV.sids.eq_4,@Ax.AV.sids.eq_5,@Ax.AV.sids.eq_6,@Ax.sidsL.eq_1,@Ax.sidsL.eq_2,@Ax.AV.sidsH.eq_1,@Ax.AV.sidsH.eq_2,@Ax.AV.sidsH.eq_3,@Ax.AV.sidsH.eq_4,@Ax.AV.sidsH.eq_5,@Ax.AV.sidsH.eq_6,@Ax.sidsLH.eq_1,@Ax.sidsLH.eq_2,@Ax.Blk.renB.eq_1,@Ax.idxOf.eq_1,@Ax.EndsXO.eq_1,@Ax.endIds.eq_1,@Ax.reachE.eq_1,@Ax.reachE.eq_2,@Ax.reachE.eq_3,@Ax.idsAt.eq_1,@Ax.idsAtL.eq_1,@Ax.idsAtL.eq_2,@Ax.walkI.eq_1,@Ax.walkI.eq_2,@Ax.matchE.eq_1,@Ax.matchE.eq_2,@Ax.matchE.eq_3,@Ax.aopF.eq_1,@Ax.foot.eq_1,@Ax.footA.eq_1,@Ax.keepIn.eq_1,@Ax.keepIn.eq_2,@Ax.dropIn.eq_1,@Ax.dropIn.eq_2,@Ax.bids.eq_1,@Ax.bids.eq_2,@Ax.heldB.eq_1,@Ax.memOk.eq_1,@Ax.clearOf.eq_1⟩
open Ax
attribute [go_sem] evDO evTO znf zmr zco yjf Blk.isGone Blk.idsB Blk.sidsB Blk.ren ymm
attribute [go_sem ↓] ycc
end Go.Proofs.Ytdfgfdcfcdgadaa
namespace Go.Proofs.Ytdfgfdcfcdgadaa
namespace Ax
theorem zmg (ys : List AV) (j : Nat) (h : j < ys.length) : ys[j] = slot ys j := by
 rw [zcf]; simp [h]
theorem zav {sl : List AV} {H : Heap} {nx : Nat} (id s i id0 : Nat) (zs : List AV) (b0 : Blk) (hl : look H id = some (.g s zs)) (hcl : closedL zs = true) (h0 : look H id0 = some b0) (hi0 : id0 ∈ (slot sl i).ids) (hin : id ∈ b0.idsB) : Weak ⟨sl,H,nx⟩ ⟨fgL id s zs sl,fgH id s zs H,nx⟩ := by
 rintro w0 E B a w ⟨loc,hB,hr⟩
 have h1 := zdv _ _ (hr.slots i) hi0
 have h2 : loc.m id ≠ .free := by
  obtain ⟨hok,⟨_,e⟩ | ⟨c,hc,hlies⟩⟩ := hr.heap.get h0 h1
  ·rw [zzk e] at hin; simp at hin
  ·exact znt hlies id hin
 obtain ⟨h3,h4⟩ := ykj hB hr h2 (hr.heap id _ hl) hcl
 exact ⟨_,h3,h4⟩
end Ax
end Go.Proofs.Ytdfgfdcfcdgadaa
namespace Go.Proofs.Ytdfgfdcfcdgadaa
open Ax
def clP (p : Int) : Nat := (min (max p 1) 8).toNat
theorem zqx (p : Int) : 1 ≤ clP p ∧ clP p ≤ 8 := by unfold clP; omega
theorem ylw (p : Int) : ((clP p : Nat) : Int) = min (max p 1) 8 := by unfold clP; omega
def ofP (key : List UInt8) (p : Int) : Nat := (ri (crcL key)).toNat % clP p
theorem zkl (key : List UInt8) (p : Int) : ofP key p < clP p := Nat.mod_lt _ (by have := zqx p; omega)
def zma : zcc
 | [.w (.int .i64 p)],[] => ⟨True,.w (.int .i64 (clP p)),[]⟩
 | _,_ => zkn
def zam : zcc
 | [.str key,.w (.int .i64 p)],[] => ⟨key.length ≤ 1000000,.w (.int .i64 (ofP key p)),[]⟩
 | _,_ => zkn
section
set_option maxRecDepth 100000
set_option maxHeartbeats 1000000 in
theorem zos : zen Try.prog 15 zma := by
 refine zir (S := noS) (T := ty) mixed ty_ok znp Try.func15 (c := Try.f15.body.getD .skip) (by kernel_rfl) (by kernel_rfl) (fun xs pins hp _ => ?_)
 unfold zma at hp ⊢
 split at hp
 ·rename_i p _
  refine ⟨by simp,?_⟩
  rw [ylw]
  unfold Try.f15
  simp only [go_sem,zar,↓reduceIte,ty,noS]
  (repeat' split) <;> omega
 ·exact hp.elim
def yke (f : FuncId) : Option zcc :=
 match f with
 | 14 => some ofS
 | 15 => some zma
 | _ => none
theorem ykd : Fns Try.prog yke := by
 intro f s h
 unfold yke at h
 split at h
 ·injection h with h; subst h; exact ⟨⟨_,Try.func14,by kernel_rfl,by kernel_rfl⟩,yim⟩
 ·injection h with h; subst h; exact ⟨⟨_,Try.func15,by kernel_rfl,by kernel_rfl⟩,zos⟩
 ·cases h
set_option maxHeartbeats 1000000 in
theorem znl : zen Try.prog 7 zam := by
 refine zir (S := yke) (T := ty) mixed ty_ok ykd Try.func7 (c := Try.f7.body.getD .skip) (by kernel_rfl) (by kernel_rfl) (fun xs pins hp _ => ?_)
 unfold zam at hp ⊢
 split at hp
 ·rename_i key p _
  have hk : key.length ≤ 1000000 := hp
  have hc := zqx p
  refine ⟨by simp,?_⟩
  unfold Try.f7
  have t0 : List.take key.length key = key := List.take_length
  have e1 : ((clP p : Nat) : Int) % 18446744073709551616 = (clP p : Int) := by omega
  have hr : ∃ N : Nat,ri (crcL key) = (N : Int) ∧ N < 18446744073709551616 ∧ (ri (crcL key)).toNat = N := by
   refine ⟨(crcL key).toNat,rfl,(crcL key).isLt,rfl⟩
  obtain ⟨N,h1,h2,h3⟩ := hr
  have e2 : Int.tmod (N : Int) (clP p : Int) = ((N % clP p : Nat) : Int) := rfl
  have h4 : N % clP p < clP p := Nat.mod_lt _ (by omega)
  have e3 : (((N % clP p : Nat) : Int) + 9223372036854775808) % 18446744073709551616 - 9223372036854775808 = ((N % clP p : Nat) : Int) := by omega
  have hof : ofP key p = N % clP p := by unfold ofP; rw [h3]
  have e4 : ¬ ((clP p : Nat) : Int) = 0 := by omega
  have hk9 : key.length ≤ 9223372036854775807 := by omega
  rw [hof]
  simp only [go_sem,zar,↓reduceIte,ty,yke,ofS,zma,t0,hk,hk9,e1,h1,e2,e3,e4,not_false_eq_true]
 ·exact hp.elim
def nbL (a : Nat) : List Rec → List Rec
 | [] => []
 | r :: rs => ⟨a,r.t,r.k,r.key,r.dd,r.val⟩ :: nbL (a + 1) rs
theorem zrx : ∀ (rs : List Rec) (a : Nat),(nbL a rs).length = rs.length
 | [],_ => rfl
 | r :: rs,a => by simp [nbL,zrx rs]
theorem zza (r : Rec) : ∀ (rs : List Rec) (a : Nat),nbL a (rs ++ [r]) = nbL a rs ++ [⟨((a + rs.length : Nat) : Int),r.t,r.k,r.key,r.dd,r.val⟩]
 | [],a => by simp [nbL]
 | q :: rs,a => by
  rw [List.cons_append,nbL,zza r rs,nbL]
  simp only [List.cons_append,List.length_cons]
  rw [show a + 1 + rs.length = a + (rs.length + 1) by omega]
def nmbS : zcc
 | [.sg 6 xs f],[] => ⟨xs.length ≤ 1000000 ∧ ∃ rs : List Rec,xs = rs.map rv,.sg 6 ((nbL 0 (xs.map rrec)).map rv) false,[]⟩
 | _,_ => zkn
set_option maxHeartbeats 4000000 in
theorem yep : zen Try.prog 17 nmbS := by
 refine zuu (S := noS) (T := ty) mixed ty_ok znp Try.func17 (c := Try.f17.body.getD .skip) (by kernel_rfl) (by kernel_rfl) (fun xs pins hp _ => ?_)
 unfold nmbS at hp ⊢
 split at hp
 ·rename_i xs f _
  obtain ⟨hL,rs,rfl⟩ := hp
  rw [List.length_map] at hL
  have hlr : (rs.map rv).length = rs.length := by simp
  have ht : top = 4294967296 := rfl
  rw [zaz]
  refine ⟨by simp,?_⟩
  unfold Try.f17
  simp only [go_sem,zar,↓reduceIte,ty,noS,hlr]
  refine And.intro ⟨by omega,by omega⟩ ?_
  refine yhq ⟨fun m σ => ∃ i : Nat,m = rs.length - i ∧ i ≤ rs.length ∧
    σ = ⟨[.junk,.junk,.junk,.ms 4 6 0 i,.junk,.junk,.junk,.junk,.junk,.sg 6 (rs.map rv) f,.w (.int .i64 rs.length),.w (.int .i64 i),.junk,.junk,.junk,.junk,.junk,.junk,.junk,.junk,.junk,.junk,.junk,.junk],[(4,.g 6 ((nbL 0 (rs.take i)).map rv))],5⟩,?_,?_⟩
  ·refine ⟨_,_,zab [0,1,2,3,28] rfl rfl rfl ?_ ?_,0,rfl,by omega,rfl⟩
   ·simp only [ssT,zad,zae,setSlot,gOf,AV.ren,renL,Blk.ren,Ax.look,Ax.put,reduceCtorEq,↓reduceIte,Nat.reduceEqDiff,Nat.reduceLT,Nat.reduceAdd,List.length_append,List.length_cons,List.length_nil,Option.some.injEq]; try simp
   ·simp only [ssT,zad,zae,setSlot,gOf,AV.ren,renL,Blk.ren,Ax.look,Ax.put,reduceCtorEq,↓reduceIte,Nat.reduceEqDiff,Nat.reduceLT,Nat.reduceAdd,List.length_append,List.length_cons,List.length_nil,Option.some.injEq]; try simp [nbL,renL]
  ·rintro m σ ⟨i,rfl,hi,rfl⟩
   have e1 : ((i : Int) + 1 + 9223372036854775808) % 18446744073709551616 - 9223372036854775808 = ((i + 1 : Nat) : Int) := by omega
   have hKl := zrx (rs.take i) 0
   rw [List.length_take] at hKl
   obtain ⟨K,hK⟩ : ∃ K,nbL 0 (rs.take i) = K := ⟨_,rfl⟩
   have hKm : (K.map rv).length = i := by rw [List.length_map,← hK]; omega
   by_cases hil : i < rs.length
   ·have d4 : decide ((i : Int) < rs.length) = true := decide_eq_true (by omega)
    have hs1 := zba rv rs i hil
    have htk : rs.take (i + 1) = rs.take i ++ [rs[i]] := List.take_succ_eq_append_getElem hil
    obtain ⟨r,hr⟩ : ∃ r,rs[i] = r := ⟨_,rfl⟩
    rw [hr] at hs1 htk
    obtain ⟨d,t,kd,key,dd,val⟩ := r
    simp only [rv] at hs1
    have hti : (rs.take i).length = i := by rw [List.length_take]; omega
    have hat : K.map rv ++ [.agg [.w (.int .i64 (i : Int)),.w (.int .i64 t),.w (.bool kd),.str key,.w (.bool dd),.str val]] = (nbL 0 (rs.take (i + 1))).map rv := by
     rw [htk,zza,List.map_append,hK,hti,Nat.zero_add]; rfl
    rw [hK]
    simp only [go_sem,zar,↓reduceIte,ty,noS,hlr,d4,hs1,e1,hKm,ht,hat,Int.toNat_natCast]
    repeat (first | refine And.intro (by omega) ?_ | refine And.intro ⟨by omega,by omega⟩ ?_ | refine And.intro (by decide) ?_)
    refine ⟨rs.length - (i + 1),_,by omega,zab [0,1,2,3,109] rfl rfl rfl ?_ ?_,i + 1,rfl,by omega,rfl⟩
    ·simp only [ssT,zad,zae,setSlot,gOf,AV.ren,renL,Blk.ren,Ax.look,Ax.put,reduceCtorEq,↓reduceIte,Nat.reduceEqDiff,Nat.reduceLT,Nat.reduceAdd,List.length_append,List.length_cons,List.length_nil,Option.some.injEq]; try simp
    ·simp only [ssT,zad,zae,setSlot,gOf,AV.ren,renL,Blk.ren,Ax.look,Ax.put,reduceCtorEq,↓reduceIte,Nat.reduceEqDiff,Nat.reduceLT,Nat.reduceAdd,List.length_append,List.length_cons,List.length_nil,Option.some.injEq,zak]; try simp
   ·have d4 : decide ((i : Int) < rs.length) = false := decide_eq_false (by omega)
    obtain rfl : i = rs.length := by omega
    rw [List.take_length] at hK ⊢
    rw [hK]
    have hdle : decide (0 + rs.length ≤ (K.map rv).length) = true := decide_eq_true (by omega)
    have htk2 : (K.map rv).take rs.length = K.map rv := List.take_of_length_le (by omega)
    simp only [go_sem,zar,↓reduceIte,ty,noS,hlr,d4]
    refine ⟨_,zez 4 6 3 _ rfl (zah _) (by simp [slot,AV.ids]),?_⟩
    simp only [fgL,fgH,AV.fg,Blk.fg,Nat.reduceBEq,cond_true,cond_false,hdle,Bool.and_true,beq_self_eq_true,Bool.true_and,List.drop_zero,htk2]
    simp only [go_sem,zar,↓reduceIte,ty,noS]
    refine ⟨_,Weak.refl _,?_⟩
    simp only [go_sem,zar,↓reduceIte,ty,noS,zah]
 ·exact hp.elim
end
end Go.Proofs.Ytdfgfdcfcdgadaa
namespace Go.Proofs.Ytdfgfdcfcdgadaa
namespace Ax
theorem zuv (ys : List AV) (h : ∀ y ∈ ys,AV.leaves y = [y]) : (Blk.g 1 ys).flat = ys := by
 show ys.flatMap AV.leaves = ys
 induction ys with
 | nil => rfl
 | cons y r ih => rw [List.flatMap_cons,h y (List.mem_cons_self ..),ih fun x hx => h x (List.mem_cons_of_mem _ hx)]; rfl
theorem zzd : ∀ (ys : List AV) (j : Nat) (v : AV),(∀ y ∈ ys,AV.leaves y = [y]) → AV.leaves v = [v] → ∀ y ∈ setSlot ys j v,AV.leaves y = [y]
 | [],j,v,_,_ => by intro y hy; cases j <;> cases hy
 | x :: r,0,v,h,hv => by
  intro y hy
  rcases List.mem_cons.1 (show y ∈ v :: r from hy) with rfl | hy
  ·exact hv
  ·exact h y (List.mem_cons_of_mem _ hy)
 | x :: r,j + 1,v,h,hv => by
  intro y hy
  rcases List.mem_cons.1 (show y ∈ x :: setSlot r j v from hy) with rfl | hy
  ·exact h y (List.mem_cons_self ..)
  ·exact zzd r j v (fun z hz => h z (List.mem_cons_of_mem _ hz)) hv y hy
theorem zao {sl : List AV} {H : Heap} {nx : Nat} (id0 j s : Nat) (ys : List AV) (hl0 : look H id0 = some (.g 1 ys)) (hlf : ∀ y ∈ ys,AV.leaves y = [y]) (hj : j < ys.length) (hn : nilV (slot ys j)) (hs : 0 < s) : Weak ⟨sl,H,nx⟩ ⟨sl,put (put H id0 (.g 1 (setSlot ys j (.ms nx s 0 0)))) nx (.g s []),nx + 1⟩ := by
 rintro w0 E B a w ⟨loc,hB,hr⟩
 have hf : loc.m nx = .free := hr.fresh nx (Nat.le_refl _)
 have hlow : id0 < nx := hr.low id0 _ hl0
 have hM : ∀ c,Mut (loc.set nx .nil) c → Mut loc c := by
  rintro c (h | ⟨k,h⟩)
  ·exact .inl h
  ·by_cases hk : k = nx
   ·subst hk; rw [Loc.set_same] at h; cases h
   ·rw [Loc.set_other _ _ hk] at h; exact .inr ⟨k,h⟩
 have hE : Ext (fun _ => False) w loc w (loc.set nx .nil) :=
  ⟨Nat.le_refl _,fun id h _ => Loc.set_other _ _ (fun e => h (e ▸ hf)),fun _ _ h => h.elim,fun c _ hm => ⟨rfl,fun h => hm (hM c h)⟩,fun _ _ _ _ => rfl,fun _ cur _ fz h => ⟨cur,fz,h,rfl⟩⟩
 have hset : ∀ {k c},(loc.set nx .nil).m k = .here c → loc.m k = .here c := by
  intro k c h
  by_cases hk : k = nx
  ·subst hk; rw [Loc.set_same] at h; cases h
  ·rwa [Loc.set_other _ _ hk] at h
 refine ⟨loc.set nx .nil,⟨hB.1,hB.2.1,fun k hk => ?_⟩,⟨hr.size,fun t => (hr.slots t).ext hE,?_,⟨hr.env.os,hr.env.tape,hr.env.output,hr.env.size,hr.env.same,fun i j b h1 h2 => hr.env.inj i j b (hset h1) (hset h2),fun i b h1 => hr.env.lies i b (hset h1),hr.env.bad⟩,?_,hr.defers,?_⟩⟩
 ·have hne : k ≠ nx := by
   rintro rfl
   rcases hB.2.2 k hk with h | ⟨h,_⟩ <;> rw [hf] at h <;> cases h
  rw [Loc.set_other _ _ hne]; exact hB.2.2 k hk
 ·intro id c hl
  simp only at hl
  rw [zax] at hl
  split at hl
  ·rename_i e; subst e
   injection hl with hl; subst hl
   unfold BlkR
   rw [Loc.set_same]; exact ⟨⟨hs,by simp⟩,rfl⟩
  ·rename_i e
   rw [zax] at hl
   split at hl
   ·rename_i e0; subst e0
    injection hl with hl; subst hl
    have h0 := hr.heap _ _ hl0
    unfold BlkR at h0 ⊢
    rw [Loc.set_other _ _ (Ne.symm e)]
    split at h0
    ·trivial
    ·exact h0.elim
    ·exact absurd h0.2 (fun (hz : ys.length = 0) => by omega)
    ·obtain ⟨⟨hk0,hok⟩,hL⟩ := h0
     obtain ⟨cur,e1,fz,hc,hfz,hone,hfl,hcells⟩ := hL.lies rfl
     have e3 : (Blk.g 1 ys).flat = ys := zuv ys hlf
     have hlf2 : ∀ y ∈ setSlot ys j (.ms nx s 0 0),AV.leaves y = [y] := zzd ys j _ hlf rfl
     have e4 : (Blk.g 1 (setSlot ys j (.ms nx s 0 0))).flat = setSlot ys j (.ms nx s 0 0) := zuv _ hlf2
     rw [e3] at hfl
     have hcell : ∀ (t : Nat) (h : t < ys.length) (h' : t < cur.size),(slot ys t).leaf = true ∧ R w loc (slot ys t) cur[t] := by
      intro t h h'
      have := hcells t (by rw [e3]; exact h) h'
      have e5 : (Blk.g 1 ys).flat[t]'(by rw [e3]; exact h) = slot ys t := by
       rw [← zmg ys t h]; simp [e3]
      rw [e5] at this; exact this
     refine ⟨⟨hk0,?_⟩,Lies.mkC ⟨cur,e1,fz,hc,hfz,hone,by rw [e4,zbd]; exact hfl,?_⟩⟩
     ·intro x hx
      rw [hlf2 x hx]; rfl
     ·intro t h h'
      have ht : t < ys.length := by rw [e4,zbd] at h; exact h
      have e5 : (Blk.g 1 (setSlot ys j (.ms nx s 0 0))).flat[t] = slot (setSlot ys j (.ms nx s 0 0)) t := by
       rw [← zmg _ t (by rw [zbd]; exact ht)]; simp [e4]
      rw [e5]
      by_cases htj : j = t
      ·subst htj
       rw [zcl hj]
       obtain ⟨a',he⟩ := ykk hn (hcell j hj h').2
       refine ⟨rfl,?_⟩
       rw [he]
       refine .ms _ _ _ _ _ ?_
       unfold Owns
       rw [Loc.set_same]
       exact ⟨rfl,a',rfl⟩
      ·rw [zbx htj]
       exact ⟨(hcell t ht h').1,(hcell t ht h').2.ext hE⟩
   ·rename_i e2
    by_cases hfr : loc.m id = .free
    ·exact BlkR.free (by rw [Loc.set_other _ _ (Ne.symm e)]; exact hfr)
    ·exact (hr.heap id c hl).ext hE (fun h => h) hfr
 ·intro id hid
  simp only at hid
  rw [Loc.set_other _ _ (by omega)]; exact hr.fresh id (by simp only; omega)
 ·intro id c hl
  simp only at hl
  rw [zax] at hl
  split at hl
  ·simp only; omega
  ·rw [zax] at hl
   split at hl
   ·simp only; omega
   ·have := hr.low id c hl
    simp only at this ⊢; omega
end Ax
end Go.Proofs.Ytdfgfdcfcdgadaa
