/- What the proofs of this seat stand on; it asks nothing. -/
import Derived.Test.YtioldmhhefhelaaYa13
set_option linter.unusedSimpArgs false
set_option linter.unusedVariables false
namespace Go.Proofs.Ytioldmhhefhelaa
namespace Ax
structure Calm (k : Nat) (C : Nat → Prop) (nx : Nat) (lk : Nat → Option Blk) (w' : World) (loc' : Loc) : Prop where
 zero : k = 0 → ∀ id,¬ C id
 one : k = 1 → ∀ id,C id → id < nx ∧ ∀ b,lk id = some b → BlkR w' loc' id b
theorem Calm.of {k : Nat} {C : Nat → Prop} {nx : Nat} {lk : Nat → Option Blk} {w' : World} {loc' : Loc} (h : k ≤ 1 → ∀ id,¬ C id) : Calm k C nx lk w' loc' :=
 ⟨fun e => h (by omega),fun e id hc => (h (by omega) id hc).elim⟩
def OpSem (P : Program) (l : List Oper) (N : Nat → Nat) (st : Nat → List AV × Heap) (val : Nat → AV) (kd : Nat → Nat) (i : Nat) (o : Oper) : Prop :=
 ∀ (w0 : World) (E : Nat → Prop) (w : World) (loc : Loc) (a : Act) (next : Act → World → Prop) (Q : Exit → Act → World → Prop),a.tmps.size = (st 0).1.length →
  (∀ t ∈ o.looksAt l.toArray,R w loc (slot (st i).1 t) (a.tmps.getD t undef)) → (kd i ≠ 0 → HR w loc (st i).2) → Env w0 E w loc → (∀ id,N i ≤ id → id < N (i + 1) → loc.m id = .free) →
  (∀ v w' loc',R w' loc' (val i) v → (∃ C : Nat → Prop,Ext C w loc w' loc' ∧ Calm (kd i) C (N i) (look (st i).2) w' loc') → (∀ id,loc.m id = .free → loc'.m id ≠ .free → N i ≤ id ∧ id < N (i + 1)) → Env w0 E w' loc' →
   (kd i ≠ 0 → HR w' loc' (st (i + 1)).2) → loc'.bad = loc.bad → next (a.put o.dst v) w') → wpOp P l.toArray Q i next a w
structure Text1 (P : Program) (l : List Oper) (N : Nat → Nat) (st : Nat → List AV × Heap) (val : Nat → AV) (kd : Nat → Nat) : Prop where
 mono : ∀ i,i < l.length → N i ≤ N (i + 1)
 size : ∀ i,i ≤ l.length → (st i).1.length = (st 0).1.length
 slot : ∀ i o,l[i]? = some o → ∀ t,slot (st (i + 1)).1 t = if o.dst = some t ∧ t < (st 0).1.length then val i else slot (st i).1 t
 new : ∀ i o,l[i]? = some o → ∀ id b,look (st (i + 1)).2 id = some b → look (st i).2 id ≠ none ∨ (N i ≤ id ∧ id < N (i + 1))
 keep : ∀ i o,l[i]? = some o → kd i ≤ 1 → ∀ id,¬ (N i ≤ id ∧ id < N (i + 1)) → look (st (i + 1)).2 id = look (st i).2 id
 same : ∀ i o,l[i]? = some o → kd i = 0 → ∀ id,look (st (i + 1)).2 id = look (st i).2 id
 kle : ∀ i,kd i ≤ 2
 low : ∀ id b,look (st 0).2 id = some b → id < N 0
 op : ∀ i o,l[i]? = some o → OpSem P l N st val kd i o
structure RelL (Z : Nat) (w0 : World) (E : Nat → Prop) (loc : Loc) (sl : List AV) (H : Heap) (nx : Nat) (a : Act) (w : World) : Prop where
 size : a.tmps.size = sl.length
 slots : ∀ t,R w loc (slot sl t) (a.tmps.getD t undef)
 heap : HR w loc H
 env : Env w0 E w loc
 fresh : ∀ id,nx ≤ id → id < Z → loc.m id = .free
 defers : a.defers = []
structure ycs (l : List Oper) (kd : Nat → Nat) : Prop where
 back : ∀ j o,l[j]? = some o → ∀ e ∈ o.after.toList,Region.binds .any e = true → e.on < j
 clash : ∀ i j x y,i < j → l[i]? = some x → l[j]? = some y →
  ((∃ d,x.dst = some d ∧ (d ∈ y.looksAt l.toArray ∨ y.dst = some d)) ∨ (∃ d,y.dst = some d ∧ d ∈ x.looksAt l.toArray) ∨ (kd i = 2 ∧ kd j ≠ 0) ∨ (kd j = 2 ∧ kd i ≠ 0)) →
  ((zic [] l).getD j 0).testBit i = true
section
variable {P : Program} {l : List Oper} {N : Nat → Nat} {st : Nat → List AV × Heap} {val : Nat → AV} {kd : Nat → Nat} {w0 : World} {E : Nat → Prop} {ws : World} {ls : Loc} {Z : Nat}
theorem Text1.le (ht : Text1 P l N st val kd) {i j : Nat} (hij : i ≤ j) (hj : j ≤ l.length) : N i ≤ N j := by
 induction j with
 | zero => obtain rfl : i = 0 := by omega
           exact Nat.le_refl _
 | succ j ih =>
   by_cases h : i = j + 1
   · subst h; exact Nat.le_refl _
   · exact Nat.le_trans (ih (by omega) (by omega)) (ht.mono j (by omega))
theorem zcd {i : Nat} {o : Oper} (h : l[i]? = some o) : i < l.length := (List.getElem?_eq_some_iff.1 h).1
theorem zgg {i : Nat} (h : i < l.length) : l[i]? = some l[i] := List.getElem?_eq_getElem h
theorem g_slot (ht : Text1 P l N st val kd) {t : Tmp} {i k : Nat} (hik : i ≤ k) (hk : k ≤ l.length) (h : ∀ j o,i ≤ j → j < k → l[j]? = some o → o.dst ≠ some t) : slot (st k).1 t = slot (st i).1 t := by
 induction k with
 | zero => obtain rfl : i = 0 := by omega
           rfl
 | succ k ih =>
   by_cases hk' : i = k + 1
   · rw [hk']
   · rw [← ih (by omega) (by omega) (fun j o h1 h2 h3 => h j o h1 (by omega) h3),ht.slot k _ (zgg (by omega)),if_neg (fun e => h k _ (by omega) (by omega) (zgg (by omega)) e.1)]
theorem yqr (ht : Text1 P l N st val kd) : ∀ k,k ≤ l.length → ∀ id b,look (st k).2 id = some b → id < N k
 | 0,_,id,b,h => ht.low id b h
 | k + 1,hk,id,b,h => by
  rcases ht.new k _ (zgg (by omega)) id b h with h' | h'
  ·cases h2 : look (st k).2 id with
   | none => exact (h' h2).elim
   | some c => have := yqr ht k (by omega) id c h2; have := ht.mono k (by omega); omega
  ·exact h'.2
theorem g_back (ht : Text1 P l N st val kd) {id i k : Nat} (hik : i ≤ k) (hk : k ≤ l.length) {b : Blk} (hl : look (st k).2 id = some b) :
   look (st i).2 id ≠ none ∨ ∃ j o,i ≤ j ∧ j < k ∧ l[j]? = some o ∧ kd j ≠ 0 ∧ N j ≤ id ∧ id < N (j + 1) := by
 induction k generalizing b with
 | zero => obtain rfl : i = 0 := by omega
           exact .inl (by rw [hl]; simp)
 | succ k ih =>
   by_cases hk' : i = k + 1
   · subst hk'; exact .inl (by rw [hl]; simp)
   · have ho := zgg (l := l) (i := k) (by omega)
     by_cases hz : kd k = 0
     · rw [ht.same k _ ho hz] at hl
       rcases ih (by omega) (by omega) hl with h | ⟨j,o,h1,h2,h3⟩
       · exact .inl h
       · exact .inr ⟨j,o,h1,by omega,h3⟩
     rcases ht.new k _ ho id b hl with h' | h'
     · cases h2 : look (st k).2 id with
       | none => exact (h' h2).elim
       | some c =>
         rcases ih (by omega) (by omega) h2 with h | ⟨j,o,h1,h2,h3⟩
         · exact .inl h
         · exact .inr ⟨j,o,h1,by omega,h3⟩
     · exact .inr ⟨k,_,by omega,by omega,ho,hz,h'⟩
theorem zyk (ht : Text1 P l N st val kd) {id i k : Nat} (hik : i ≤ k) (hk : k ≤ l.length) (hn : ∀ j o,i ≤ j → j < k → l[j]? = some o → kd j ≤ 1 ∧ (kd j = 0 ∨ ¬ (N j ≤ id ∧ id < N (j + 1)))) :
   look (st k).2 id = look (st i).2 id := by
 induction k with
 | zero => obtain rfl : i = 0 := by omega
           rfl
 | succ k ih =>
   by_cases hk' : i = k + 1
   · rw [hk']
   · rw [← ih (by omega) (by omega) (fun j o h1 h2 h3 => hn j o h1 (by omega) h3)]
     have ho := zgg (l := l) (i := k) (by omega)
     obtain ⟨h2,h3⟩ := hn k _ (by omega) (by omega) ho
     rcases h3 with h3 | h3
     · exact ht.same k _ ho h3 id
     · exact ht.keep k _ ho h2 id h3
structure InvG (P : Program) (l : List Oper) (N : Nat → Nat) (st : Nat → List AV × Heap) (kd : Nat → Nat) (Z : Nat) (w0 : World) (E : Nat → Prop) (ws : World) (ls : Loc) (listed : Array Bool) (a : Act) (w : World) (loc : Loc) : Prop where
 sizel : listed.size = l.length
 size : a.tmps.size = (st 0).1.length
 slots : ∀ t k,k ≤ l.length → (∀ i o,l[i]? = some o → o.dst = some t → (Ls listed i ↔ i < k)) → R w loc (slot (st k).1 t) (a.tmps.getD t undef)
 heap : ∀ k,k ≤ l.length → (∀ i o,l[i]? = some o → kd i = 2 → (Ls listed i ↔ i < k)) → HR w loc (st k).2
 closed : ∀ j o,l[j]? = some o → Ls listed j → ∀ e ∈ o.after.toList,Region.binds .any e = true → Ls listed e.on
 fresh : ∀ i,¬ Ls listed i → i < l.length → ∀ id,N i ≤ id → id < N (i + 1) → loc.m id = .free
 high : ∀ id,N l.length ≤ id → id < Z → loc.m id = .free
 env : Env w0 E w loc
 defers : a.defers = []
 tn : Tn ws ls (N 0) (N l.length) w loc
variable {listed : Array Bool} {a : Act} {w : World} {loc : Loc} {i : Nat} {o : Oper}
theorem yho (hg : ycs l kd) (inv : InvG P l N st kd Z w0 E ws ls listed a w loc) (ho : l[i]? = some o) (hnl : ¬ Ls listed i) (hrd : ∀ e ∈ o.after.toList,Region.binds .any e = true → Ls listed e.on) {t : Tmp} (ht : t ∈ o.looksAt l.toArray) :
  R w loc (slot (st i).1 t) (a.tmps.getD t undef) := by
 have hlt : i < l.length := zcd ho
 refine inv.slots t i (by omega) (fun j x hx hd => ⟨fun hl => ?_,fun hji => ?_⟩)
 ·rcases Nat.lt_trichotomy j i with h | h | h
  ·exact h
  ·subst h; exact (hnl hl).elim
  ·exact (hnl (zba hg.back inv.closed _ j i (Nat.lt_succ_self _) (hg.clash i j o x h ho hx (.inr (.inl ⟨t,hd,ht⟩))) x hx (inv.closed j x hx hl))).elim
 ·exact zba hg.back inv.closed _ i j (Nat.lt_succ_self _) (hg.clash j i x o hji hx ho (.inl ⟨t,hd,.inl ht⟩)) o ho hrd
theorem yhp (hg : ycs l kd) (inv : InvG P l N st kd Z w0 E ws ls listed a w loc) (ho : l[i]? = some o) (hnl : ¬ Ls listed i) (hrd : ∀ e ∈ o.after.toList,Region.binds .any e = true → Ls listed e.on) (hk : kd i ≠ 0) :
  HR w loc (st i).2 := by
 have hlt : i < l.length := zcd ho
 refine inv.heap i (by omega) (fun j x hx hd => ⟨fun hl => ?_,fun hji => ?_⟩)
 ·rcases Nat.lt_trichotomy j i with h | h | h
  ·exact h
  ·subst h; exact (hnl hl).elim
  ·exact (hnl (zba hg.back inv.closed _ j i (Nat.lt_succ_self _) (hg.clash i j o x h ho hx (.inr (.inr (.inr ⟨hd,hk⟩)))) x hx (inv.closed j x hx hl))).elim
 ·exact zba hg.back inv.closed _ i j (Nat.lt_succ_self _) (hg.clash j i x o hji hx ho (.inr (.inr (.inl ⟨hd,hk⟩)))) o ho hrd
theorem ylx (hg : ycs l kd) (ht : Text1 P l N st val kd) (inv : InvG P l N st kd Z w0 E ws ls listed a w loc) (ho : l[i]? = some o) (hnl : ¬ Ls listed i)
  (hrd : ∀ e ∈ o.after.toList,Region.binds .any e = true → Ls listed e.on) {v : Value} {w' : World} {loc' : Loc} {C : Nat → Prop}
  (hx : R w' loc' (val i) v) (hE : Ext C w loc w' loc') (hC : Calm (kd i) C (N i) (look (st i).2) w' loc')
  (hfr : ∀ id,loc.m id = .free → loc'.m id ≠ .free → N i ≤ id ∧ id < N (i + 1)) (he : Env w0 E w' loc') (hbad : loc'.bad = loc.bad) (hh : kd i ≠ 0 → HR w' loc' (st (i + 1)).2) :
  InvG P l N st kd Z w0 E ws ls (listed.setIfInBounds i true) (a.put o.dst v) w' loc' := by
 have hlt : i < l.length := zcd ho
 have his : i < listed.size := by rw [inv.sizel]; exact hlt
 have hls : ∀ j,Ls (listed.setIfInBounds i true) j ↔ j = i ∨ Ls listed j := fun j => zmn his
 have hanc : ∀ j y,l[j]? = some y → i < j → Ls listed j → ((∃ d,o.dst = some d ∧ (d ∈ y.looksAt l.toArray ∨ y.dst = some d)) ∨ (∃ d,y.dst = some d ∧ d ∈ o.looksAt l.toArray) ∨ (kd i = 2 ∧ kd j ≠ 0) ∨ (kd j = 2 ∧ kd i ≠ 0)) → False := fun j y hy hij hl hc =>
  hnl (zba hg.back inv.closed _ j i (Nat.lt_succ_self _) (hg.clash i j o y hij ho hy hc) y hy (inv.closed j y hy hl))
 refine ⟨by simp [inv.sizel],?_,?_,?_,?_,?_,?_,he,?_,?_⟩
 ·cases o.dst with
  | none => exact inv.size
  | some d => simp [Act.put,inv.size]
 ·intro t k hk hq
  by_cases hd : o.dst = some t
  ·have hik : i < k := (hq i o ho hd).1 ((hls i).2 (.inl rfl))
   have e1 : slot (st k).1 t = slot (st (i + 1)).1 t := by
    refine g_slot ht (by omega) hk (fun j y h1 h2 hy hyd => ?_)
    have := (hls j).1 ((hq j y hy hyd).2 h2)
    rcases this with h | h
    ·omega
    ·exact hanc j y hy (by omega) h (.inl ⟨t,hd,.inr hyd⟩)
   rw [e1,ht.slot i o ho t]
   by_cases hts : t < (st 0).1.length
   ·rw [if_pos ⟨hd,hts⟩,hd]
    have : (a.put (some t) v).tmps.getD t undef = v := by
     have := inv.size
     simp [Act.put,this,hts]
    rw [this]; exact hx
   ·rw [if_neg (fun e => hts e.2),zec (by rw [ht.size i (by omega)]; exact Nat.le_of_not_lt hts)]
    exact .junk _
  ·have h1 := inv.slots t k hk (fun j y hy hyd => by
    have hji : j ≠ i := by
     rintro rfl
     rw [ho] at hy; injection hy with hy; subst hy; exact hd hyd
    rw [← hq j y hy hyd,hls]
    simp [hji])
   have : (a.put o.dst v).tmps.getD t undef = a.tmps.getD t undef := by
    cases hdd : o.dst with
    | none => rfl
    | some d =>
     have hne : d ≠ t := fun e => hd (by rw [hdd,e])
     simp [Act.put,Array.getElem?_setIfInBounds_ne hne]
   rw [this]; exact h1.ext hE
 ·intro k hk hq id b hl
  by_cases hf' : loc'.m id = .free
  ·exact BlkR.free hf'
  by_cases h2 : kd i = 2
  ·have hik : i < k := (hq i o ho h2).1 ((hls i).2 (.inl rfl))
   have hno : ∀ j y,i + 1 ≤ j → j < k → l[j]? = some y → kd j ≤ 1 ∧ (kd j = 0 ∨ ¬ (N j ≤ id ∧ id < N (j + 1))) := by
    intro j y h3 h4 hy
    have hle : kd j ≤ 2 := ht.kle j
    have hne : kd j ≠ 2 := by
     intro hy2
     rcases (hls j).1 ((hq j y hy hy2).2 h4) with h | h
     ·omega
     ·exact hanc j y hy (by omega) h (.inr (.inr (.inl ⟨h2,by omega⟩)))
    refine ⟨by omega,?_⟩
    by_cases hy0 : kd j = 0
    ·exact .inl hy0
    ·right
     intro hr
     have hjl : ¬ Ls listed j := fun hl => hanc j y hy (by omega) hl (.inr (.inr (.inl ⟨h2,hy0⟩)))
     have hfree := inv.fresh j hjl (by omega) id hr.1 hr.2
     have h6 := hfr id hfree hf'
     have := ht.le (i := i + 1) (j := j) (by omega) (by omega)
     omega
   rw [zyk ht (by omega) hk hno] at hl
   exact hh (by omega) id b hl
  ·have hold : HR w loc (st k).2 := inv.heap k hk (fun j y hy hy2 => by
    have hji : j ≠ i := by
     rintro rfl
     exact h2 hy2
    rw [← hq j y hy hy2,hls]
    simp [hji])
   have hle : kd i ≤ 1 := by
    have : kd i ≤ 2 := ht.kle i
    omega
   by_cases hf : loc.m id = .free
   ·have hr := hfr id hf hf'
    have hik : i < k := by
     rcases Nat.lt_or_ge i k with h | h
     ·exact h
     ·have := yqr ht k hk id b hl
      have := ht.le h (by omega : i ≤ l.length)
      omega
    by_cases hz : kd i = 0
    ·exfalso
     rcases g_back ht (i := i + 1) (by omega) hk hl with h | ⟨j,y,h3,h3',_,_,h4,_⟩
     ·rw [ht.same i o ho hz] at h
      cases h5 : look (st i).2 id with
      | none => exact h h5
      | some c => have := yqr ht i (by omega) id c h5; omega
     ·have := ht.le h3 (by omega : j ≤ l.length); omega
    ·have hno : ∀ j y,i + 1 ≤ j → j < k → l[j]? = some y → kd j ≤ 1 ∧ (kd j = 0 ∨ ¬ (N j ≤ id ∧ id < N (j + 1))) := by
      intro j y h3 h4 hy
      have hle2 : kd j ≤ 2 := ht.kle j
      have hne : kd j ≠ 2 := by
       intro hy2
       rcases (hls j).1 ((hq j y hy hy2).2 h4) with h | h
       ·omega
       ·exact hanc j y hy (by omega) h (.inr (.inr (.inr ⟨hy2,hz⟩)))
      have := ht.le h3 (by omega : j ≤ l.length)
      exact ⟨by omega,.inr (by omega)⟩
     rw [zyk ht (by omega) hk hno] at hl
     exact hh hz id b hl
   ·by_cases hCi : C id
    ·have h1k : kd i = 1 := by
      rcases (by omega : kd i = 0 ∨ kd i = 1) with e | e
      ·exact (hC.zero e id hCi).elim
      ·exact e
     obtain ⟨hlow,hB⟩ := hC.one h1k id hCi
     have heq : look (st k).2 id = look (st i).2 id := by
      rcases Nat.le_total i k with hik | hik
      ·refine zyk ht hik hk (fun j y h3 h4 hy => ?_)
       have hle2 : kd j ≤ 2 := ht.kle j
       have hne : kd j ≠ 2 := by
        intro hy2
        have hji : j ≠ i := by rintro rfl; omega
        rcases (hls j).1 ((hq j y hy hy2).2 h4) with h | h
        ·omega
        ·exact hanc j y hy (by omega) h (.inr (.inr (.inr ⟨hy2,by omega⟩)))
       have := ht.le h3 (by omega : j ≤ l.length)
       exact ⟨by omega,.inr (by omega)⟩
      ·have hlow2 := yqr ht k hk id b hl
       refine (zyk ht hik (by omega) (fun j y h3 h4 hy => ?_)).symm
       have hle2 : kd j ≤ 2 := ht.kle j
       have hne : kd j ≠ 2 := by
        intro hy2
        have hjl : Ls listed j := zba hg.back inv.closed _ i j (Nat.lt_succ_self _) (hg.clash j i y o h4 hy ho (.inr (.inr (.inl ⟨hy2,by omega⟩)))) o ho hrd
        have := (hq j y hy hy2).1 ((hls j).2 (.inr hjl))
        omega
       have := ht.le h3 (by omega : j ≤ l.length)
       exact ⟨by omega,.inr (by omega)⟩
     exact hB b (heq ▸ hl)
    ·exact (hold id b hl).ext hE hCi hf
 ·intro j y hy hl e hee hbe
  rw [hls]
  rcases (hls j).1 hl with h | h
  ·subst h
   rw [ho] at hy; injection hy with hy; subst hy
   exact .inr (hrd e hee hbe)
  ·exact .inr (inv.closed j y hy h e hee hbe)
 ·intro j hj hjl id h1 h2
  rw [hls] at hj
  have hji : j ≠ i := fun e => hj (.inl e)
  have hf := inv.fresh j (fun h => hj (.inr h)) hjl id h1 h2
  by_cases hf' : loc'.m id = .free
  ·exact hf'
  ·have h6 := hfr id hf hf'
   rcases Nat.lt_or_ge j i with h | h
   ·have := ht.le (i := j + 1) (j := i) (by omega) (by omega); omega
   ·have := ht.le (i := i + 1) (j := j) (by omega) (by omega); omega
 ·intro id h1 hz
  have hf := inv.high id h1 hz
  by_cases hf' : loc'.m id = .free
  ·exact hf'
  ·have h6 := hfr id hf hf'
   have := ht.le (i := i + 1) (j := l.length) (by omega) (by omega); omega
 ·rw [← inv.defers]
  cases o.dst <;> rfl
 ·obtain ⟨⟨D,hD⟩,hf1,hb1⟩ := inv.tn
  refine ⟨⟨_,hD.trans hE⟩,fun id hf hn => ?_,hbad.trans hb1⟩
  by_cases h1 : loc.m id = .free
  ·have h6 := hfr id h1 hn
   have := ht.le (Nat.zero_le i) (by omega : i ≤ l.length)
   have := ht.le (i := i + 1) (j := l.length) (by omega) (by omega)
   omega
  ·exact hf1 id hf h1
theorem g_all (hg : ycs l kd) {listed : Array Bool} (hsz : listed.size = l.length) (hr : Region.ready .any l.toArray listed = []) : ∀ n j,j < n → j < l.length → Ls listed j := by
 intro n
 induction n with
 | zero => intro j h; omega
 | succ n ih =>
  intro j hj hjl
  by_cases hl : Ls listed j
  ·exact hl
  ·exfalso
   have : j ∈ Region.ready .any l.toArray listed := by
    refine mem_ready.2 ⟨getD_in (by rw [hsz]; exact hjl) (by unfold Ls at hl; simpa using hl),l[j],by simp [hjl],fun e he hb => ?_⟩
    have hlt := hg.back j l[j] (List.getElem?_eq_getElem hjl) e (by simpa using he) hb
    exact ih e.on (by omega) (by omega)
   rw [hr] at this
   simp at this
theorem g_wpAny (hg : ycs l kd) (ht : Text1 P l N st val kd) {K : Exit → Act → World → Prop}
  (hK : ∀ listed a w loc,InvG P l N st kd Z w0 E ws ls listed a w loc → (∀ j,j < l.length → Ls listed j) → K .normal a w) :
  ∀ (fuel : Nat) (listed : Array Bool) (a : Act) (w : World) (loc : Loc),InvG P l N st kd Z w0 E ws ls listed a w loc → listed.toList.count false ≤ fuel → wpAny P .any l.toArray K fuel listed a w := by
 intro fuel
 induction fuel with
 | zero =>
  intro listed a w loc inv hc
  have hall : ∀ j,j < l.length → Ls listed j := by
   intro j hj
   have hj' : j < listed.size := by rw [inv.sizel]; exact hj
   have h1 : false ∉ listed.toList := by
    intro hm
    have := List.count_pos_iff.2 hm
    omega
   unfold Ls
   have h2 : listed[j] ≠ false := fun e => h1 (by rw [← e]; simp)
   simpa [hj'] using h2
  refine ⟨?_,hK listed a w loc inv hall⟩
  cases hr : Region.ready .any l.toArray listed with
  | nil => rfl
  | cons j r =>
   exfalso
   have hm : j ∈ Region.ready .any l.toArray listed := by rw [hr]; simp
   obtain ⟨h1,o,ho,_⟩ := mem_ready.1 hm
   have hjl : j < l.length := by
    have := (Array.getElem?_eq_some_iff.1 ho).1
    simpa using this
   have := hall j hjl
   unfold Ls at this
   rw [getD_both h1] at this
   cases this
 | succ fuel ih =>
  intro listed a w loc inv hc
  refine ⟨fun hr => hK listed a w loc inv (fun j hj => g_all hg inv.sizel hr _ j (Nat.lt_succ_self _) hj),fun i hi => ?_⟩
  obtain ⟨hnl1,o,ho',hrd'⟩ := mem_ready.1 hi
  have ho : l[i]? = some o := by simpa using ho'
  have hnl : ¬ Ls listed i := by unfold Ls; rw [getD_both hnl1]; simp
  have hrd : ∀ e ∈ o.after.toList,Region.binds .any e = true → Ls listed e.on := fun e he hb => hrd' e (by simpa using he) hb
  have hlt : i < l.length := zcd ho
  have hc' : (listed.setIfInBounds i true).toList.count false ≤ fuel := by
   have := zjq listed.toList i (by simpa using hnl1)
   rw [Array.toList_setIfInBounds]
   omega
  refine ht.op i o ho w0 E w loc a _ K inv.size (fun t h => yho hg inv ho hnl hrd h) (fun hk => yhp hg inv ho hnl hrd hk) inv.env (inv.fresh i hnl hlt) ?_
  rintro v w' loc' hr ⟨C,hE,hC⟩ hfr he hh hb
  exact ih _ _ _ loc' (ylx hg ht inv ho hnl hrd hr hE hC hfr he hb hh) hc'
theorem g_draw (hm : P.follows .mixedOrders = true) (hg : ycs l kd) (ht : Text1 P l N st val kd) {id : Nat} {a : Act} {w : World} {loc : Loc} (hZ : N l.length ≤ Z) (hr : RelL Z w0 E loc (st 0).1 (st 0).2 (N 0) a w) :
  (Code.region id l.toArray true).wp P (fun e a' w' => e = .normal ∧ ∃ loc',RelL Z w0 E loc' (st l.length).1 (st l.length).2 (N l.length) a' w' ∧ Tn w loc (N 0) (N l.length) w' loc') a w := by
 refine wp_region_any hm ?_
 have hL : ∀ i,¬ Ls (Array.replicate l.toArray.size false) i := fun i h => by
  unfold Ls at h
  rw [getD_replicate_false] at h; cases h
 have hE : Ext (fun _ => False) w loc { w with drawn := w.drawn + 1 } loc := ⟨Nat.le_refl _,fun _ _ _ => rfl,fun _ _ _ => .inl rfl,fun _ _ h => ⟨rfl,h⟩,fun _ _ _ _ => rfl,fun _ cur _ fz h => ⟨cur,fz,h,rfl⟩⟩
 refine g_wpAny hg ht (Z := Z) (w0 := w0) (E := E) (ws := w) (ls := loc) ?_ _ _ _ _ loc ?_ ?_
 ·intro listed a w' loc' inv hall
  have hq : ∀ (i : Nat),i < l.length → (Ls listed i ↔ i < l.length) := fun i hi => ⟨fun _ => hi,fun _ => hall i hi⟩
  refine ⟨rfl,loc',⟨?_,?_,?_,inv.env,inv.high,inv.defers⟩,inv.tn⟩
  ·rw [ht.size _ (Nat.le_refl _)]; exact inv.size
  ·exact fun t => inv.slots t _ (Nat.le_refl _) (fun i o ho _ => hq i (zcd ho))
  ·exact inv.heap _ (Nat.le_refl _) (fun i o ho _ => hq i (zcd ho))
 ·have hcl : ∀ {x v},R w loc x v → R { w with drawn := w.drawn + 1 } loc x v := fun h => h.ext hE
  refine ⟨by simp,hr.size,?_,?_,?_,?_,?_,⟨hr.env.os,hr.env.tape,hr.env.output,hr.env.size,hr.env.same,hr.env.inj,hr.env.lies,hr.env.bad⟩,hr.defers,⟨⟨_,hE⟩,fun id h h' => (h' h).elim,rfl⟩⟩
  ·intro t k hk hq
   have e : slot (st k).1 t = slot (st 0).1 t := by
    refine g_slot ht (i := 0) (Nat.zero_le _) hk (fun j o _ hj ho hd => ?_)
    exact hL j ((hq j o ho hd).2 hj)
   rw [e]
   exact hcl (hr.slots t)
  ·intro k hk hq id b hl
   by_cases hf : loc.m id = .free
   ·exact BlkR.free hf
   ·have hidn : id < N 0 ∨ Z ≤ id := by
     rcases Nat.lt_or_ge id (N 0) with h' | h'
     ·exact .inl h'
     ·rcases Nat.lt_or_ge id Z with h2 | h2
      ·exact (hf (hr.fresh id h' h2)).elim
      ·exact .inr h2
    have e : look (st k).2 id = look (st 0).2 id := by
     refine zyk ht (i := 0) (Nat.zero_le _) hk (fun j o _ hj ho => ?_)
     have hle : kd j ≤ 2 := ht.kle j
     have hne : kd j ≠ 2 := fun h2 => hL j ((hq j o ho h2).2 hj)
     have := ht.le (Nat.zero_le j) (by omega : j ≤ l.length)
     have := ht.le (by omega : j + 1 ≤ l.length) (Nat.le_refl _)
     exact ⟨by omega,.inr (by omega)⟩
    rw [e] at hl
    exact (hr.heap id b hl).ext hE (fun h => h) hf
  ·intro j o ho hl; exact (hL j hl).elim
  ·intro i _ hi id h1 h2
   have := ht.le (Nat.zero_le i) (by omega : i ≤ l.length)
   have := ht.le (i := i + 1) (j := l.length) (by omega) (Nat.le_refl _)
   exact hr.fresh id (by omega) (by omega)
  ·intro id h1 h2
   have := ht.le (Nat.zero_le l.length) (Nat.le_refl _)
   exact hr.fresh id (by omega) h2
 ·simp
end
end Ax
end Go.Proofs.Ytioldmhhefhelaa
namespace Go.Proofs.Ytioldmhhefhelaa
namespace Ax
theorem R.agreeN {w : World} {loc loc' : Loc} {x : AV} {v : Value} (h : R w loc x v) (hn : x.noimm = true) (hq : ∀ id ∈ x.ids,loc.m id ≠ .free → loc'.m id = loc.m id) : R w loc' x v := by
 induction h with
 | w v h => exact .w v h
 | str bs => exact .str bs
 | agg xs cs hl hx _ ih => exact .agg xs cs hl hx fun j h1 h2 => ih j h1 h2 (zdq (by simpa [AV.noimm] using hn) j h1) fun id hid => hq id (by simp only [AV.ids]; exact zeq j h1 hid)
 | tup xs cs hl _ ih => exact .tup xs cs hl fun j h1 h2 => ih j h1 h2 (zdq (by simpa [AV.noimm] using hn) j h1) fun id hid => hq id (by simp only [AV.ids]; exact zeq j h1 hid)
 | sb bs full a cap hd hc =>
  obtain rfl : bs = [] := by simpa [AV.noimm] using hn
  exact .sb [] full a cap hd ⟨.inl rfl⟩
 | si ns full a cap hd hc =>
  obtain rfl : ns = [] := by simpa [AV.noimm] using hn
  exact .si [] full a cap hd ⟨.inl rfl⟩
 | sg s xs full a cap cs hd hs hc hl hx h1 ih =>
  obtain rfl : xs = [] := by simpa [AV.noimm] using hn
  obtain rfl : cs = [] := by simpa using hl.symm
  exact .sg s [] full a cap [] hd hs ⟨.inl rfl⟩ rfl (by simp) (by simp)
 | cp ls a cs hc hn' hl hx h1 ih => simp [AV.noimm] at hn
 | ms id s off len v h =>
  have hf : loc.m id ≠ .free := by intro e; simp [Owns,e] at h
  have e := hq id (by simp [AV.ids]) hf
  refine .ms id s off len v ?_
  unfold Owns at h ⊢
  rw [e]; exact h
 | rf id s i f v h =>
  have hf : loc.m id ≠ .free := by intro e; simp [Points,e] at h
  have e := hq id (by simp [AV.ids]) hf
  refine .rf id s i f v ?_
  unfold Points at h ⊢
  rw [e]; exact h
 | fn f caps cs hl _ ih => exact .fn f caps cs hl fun j h1 h2 => ih j h1 h2 (zdq (by simpa [AV.noimm] using hn) j h1) fun id hid => hq id (by simp only [AV.ids]; exact zeq j h1 hid)
 | junk v => exact .junk v
def frqE (f : AV → AV) : AV → AV
 | .agg ls => .agg (ls.map f)
 | .tup xs => .tup xs
 | x => f x
def zju : List AV → Bool
 | [] => true
 | x :: r => closedL x.leaves && zju r
noncomputable def frqL (H : Tr Blk) : Nat → AV → AV
 | 0,x => x
 | n + 1,x => match x with
  | .ms id s off len => match H.get id with
   | some (.b bs) => bif decide (s = 1) && decide (off + len ≤ bs.length) then .sb ((bs.drop off).take len) false else .ms id s off len
   | some (.i ns) => bif decide (s = 1) && decide (off + len ≤ ns.length) then .si ((ns.drop off).take len) false else .ms id s off len
   | some (.g s' xs) => bif (decide (s' = s) && decide (off + len ≤ xs.length)) && zju (((xs.drop off).take len).map (frqE (frqL H n))) then .sg s (((xs.drop off).take len).map (frqE (frqL H n))) false else .ms id s off len
   | _ => .ms id s off len
  | .rf id s i f => match H.get id with
   | some (.g s' xs) => bif (decide (0 < s) && (decide (i = 0) && decide (f = 0))) && (!(xs.flatMap AV.leaves).isEmpty && closedL ((xs.flatMap AV.leaves).map (frqL H n))) then .cp ((xs.flatMap AV.leaves).map (frqL H n)) else .rf id s i f
   | _ => .rf id s i f
  | .fn f cs => .fn f (cs.map (frqL H n))
  | x => x
noncomputable def frqV (H : Tr Blk) (x : AV) : AV := frqE (frqL H 6) x
theorem zim : ∀ {xs : List AV},zju xs = true → ∀ x ∈ xs,closedL x.leaves = true
 | [],_,x,h => by simp at h
 | y :: r,h,x,hx => by
  simp only [zju,Bool.and_eq_true] at h
  rcases List.mem_cons.1 hx with rfl | hx
  ·exact h.1
  ·exact zim h.2 x hx
def isAgg : AV → Bool
 | .agg _ => true
 | .tup _ => true
 | _ => false
theorem zna {b : Bool} {x y : AV} (hx : x.leaf = true) (hy : y.leaf = true) : (bif b then x else y).leaf = true := by cases b <;> assumption
theorem zmt {H : Tr Blk} (n : Nat) {x : AV} (h : x.leaf = true) : (frqL H n x).leaf = true := by
 cases n with
 | zero => exact h
 | succ n =>
  unfold frqL
  split
  ·split
   ·exact zna rfl rfl
   ·exact zna rfl rfl
   ·exact zna rfl rfl
   ·rfl
  ·split
   ·exact zna rfl rfl
   ·rfl
  ·rfl
  ·exact h
theorem zxu {x : AV} (h : x.leaf = true) : x.leaves = [x] := by cases x <;> first | rfl | simp [AV.leaf] at h
theorem zqs {H : Tr Blk} {n : Nat} {x : AV} (h : ∀ y ∈ x.leaves,y.leaf = true) : (frqE (frqL H n) x).leaves = x.leaves.map (frqL H n) := by
 cases x with
 | agg ls => rfl
 | tup xs => have := h (.tup xs) (by simp [AV.leaves]); simp [AV.leaf] at this
 | _ =>
  have hx := h _ (by simp [AV.leaves]; rfl)
  simp only [frqE,AV.leaves,List.map_cons,List.map_nil]
  exact zxu (zmt n hx)
def Loc.bare (loc : Loc) : Loc := { m := fun _ => .free,bad := loc.bad }
theorem bare_mut {loc : Loc} {b : Nat} : Mut loc.bare b ↔ loc.bad b := by
 constructor
 ·rintro (h | ⟨id,h⟩)
  ·exact h
  ·cases h
 ·exact .inl
section
variable {w0 : World} {E : Nat → Prop} {w : World} {loc : Loc} {H : Tr Blk}
theorem ylz (he : Env w0 E w loc) (hh : HR w loc (toH H)) : ∀ (n : Nat) (x : AV) (v : Value),R w loc x v → (frqL H n x).closed = true → R w loc.bare (frqL H n x) v := by
 have hM : ∀ b,b < w.heap.size → Mut loc.bare b → Mut loc b := fun b _ h => .inl (bare_mut.1 h)
 have nomut : ∀ id b,loc.m id = .here b → ¬ Mut loc.bare b := by
  intro id b hb hM
  obtain ⟨h1,h2⟩ := he.bad b (bare_mut.1 hM)
  rcases (he.lies id b hb).2 with h3 | h3
  ·omega
  ·exact h2 h3
 intro n
 induction n with
 | zero => intro x v hx hc; exact hx.move hM hc
 | succ n ih =>
  intro x v hx hc
  unfold frqL at hc ⊢
  split at hc
  ·rename_i id s off len
   cases hx with
   | ms _ _ _ _ _ h =>
    have cells : ∀ (n : Nat) (fl : List AV) {blk : Blk},Ax.look (toH H) id = some blk → Seen w loc v n s fl → ∃ a cap cs,v = .slice a n cap ∧ n ≤ cap ∧ cap ≤ maxLen ∧ (n = 0 ∨ (cs.length = n * s ∧ CellsOf w loc fl cs ∧ ∃ b o,a = some ⟨b,o,none⟩ ∧ b < w.heap.size ∧ (∀ (j : Nat) (hj : j < cs.length),w.cell? ⟨b,o + j,none⟩ = some cs[j]) ∧ loc.m id = .here b)) := by
     intro n fl blk hlk hs
     obtain ⟨a,cap,rfl,h1,h2,h3⟩ := hs.seen
     have hfr : loc.m id ≠ .free := by intro e; simp [Owns,e] at h
     rcases h3 with h3 | ⟨b,o,cs,rfl,h4,h5,h6,h7⟩
     ·exact ⟨a,cap,[],rfl,h1,h2,.inl h3⟩
     ·refine ⟨_,cap,cs,rfl,h1,h2,?_⟩
      obtain ⟨hok,hn | ⟨b',hb',_⟩⟩ := hh.get hlk hfr
      ·unfold Owns at h; rw [hn.1] at h
       left
       obtain ⟨hl0,a,ha⟩ := h
       injection ha with _ hq _
      ·unfold Owns at h; rw [hb'] at h
       obtain ⟨o',cap',cur0,e0,fz0,hv,_⟩ := h
       injection hv with hv _ _
       injection hv with hv
       injection hv with hv1 hv2
       subst hv1
       exact .inr ⟨h5,h7,b,o,rfl,h4,h6,hb'⟩
    split at hc
    ·rename_i bs hlk0
     have hlk : Ax.look (toH H) id = some (.b bs) := by rw [zar]; exact hlk0
     try dsimp only
     try simp only [hlk0]
     cases hq : (decide (s = 1) && decide (off + len ≤ bs.length)) with
     | false => rw [hq] at hc; cases hc
     | true =>
      simp only [hq,cond_true]
      simp only [Bool.and_eq_true,decide_eq_true_eq] at hq
      obtain ⟨rfl,hle⟩ := hq
      have hs := zgb hh h hlk rfl hle
      have e : ((bs.drop off).take len).length = len := by simp; omega
      have hfl : (Blk.flat (.b bs) |>.drop (off * 1) |>.take (len * 1)) = ((bs.drop off).take len).map fun b => .w (byte b) := by
       simp [Blk.flat,List.map_take,List.map_drop]
      rw [hfl] at hs
      obtain ⟨a,cap,cs,rfl,h1,h2,h3⟩ := cells len _ hlk hs
      have key : Cells w loc.bare a (((bs.drop off).take len).map byte) := by
       rcases h3 with h3 | ⟨h4,h5,b,o,rfl,h6,h7,h8⟩
       ·subst h3; exact ⟨.inl (by simp)⟩
       ·have hcs := zkb h5
        subst hcs
        exact ⟨.inr ⟨b,o,rfl,nomut id b h8,h6,h7⟩⟩
      have := R.sb (w := w) (loc := loc.bare) ((bs.drop off).take len) false a cap ⟨by omega,h2,by simp⟩ key
      rw [e] at this
      exact this
    ·rename_i ns hlk0
     have hlk : Ax.look (toH H) id = some (.i ns) := by rw [zar]; exact hlk0
     try dsimp only
     try simp only [hlk0]
     cases hq : (decide (s = 1) && decide (off + len ≤ ns.length)) with
     | false => rw [hq] at hc; cases hc
     | true =>
      simp only [hq,cond_true]
      simp only [Bool.and_eq_true,decide_eq_true_eq] at hq
      obtain ⟨rfl,hle⟩ := hq
      have hs := zgb hh h hlk rfl hle
      have e : ((ns.drop off).take len).length = len := by simp; omega
      have hfl : (Blk.flat (.i ns) |>.drop (off * 1) |>.take (len * 1)) = ((ns.drop off).take len).map fun b => .w (word b) := by
       simp [Blk.flat,List.map_take,List.map_drop]
      rw [hfl] at hs
      obtain ⟨a,cap,cs,rfl,h1,h2,h3⟩ := cells len _ hlk hs
      have key : Cells w loc.bare a (((ns.drop off).take len).map word) := by
       rcases h3 with h3 | ⟨h4,h5,b,o,rfl,h6,h7,h8⟩
       ·subst h3; exact ⟨.inl (by simp)⟩
       ·have hcs : cs = ((ns.drop off).take len).map word := by
         refine List.ext_getElem (by have := h5.len; simpa using this.symm) fun j a b => ?_
         have := h5.r j (by simpa using b) a
         simp only [List.getElem_map] at this ⊢
         exact this.wv
        subst hcs
        exact ⟨.inr ⟨b,o,rfl,nomut id b h8,h6,h7⟩⟩
      have := R.si (w := w) (loc := loc.bare) ((ns.drop off).take len) false a cap ⟨by omega,h2,by simp⟩ key
      rw [e] at this
      exact this
    ·rename_i s' xs hlk0
     have hlk : Ax.look (toH H) id = some (.g s' xs) := by rw [zar]; exact hlk0
     try dsimp only
     try simp only [hlk0]
     cases hq : ((decide (s' = s) && decide (off + len ≤ xs.length)) && zju (((xs.drop off).take len).map (frqE (frqL H n)))) with
     | false => rw [hq] at hc; cases hc
     | true =>
      simp only [hq,cond_true]
      simp only [Bool.and_eq_true,decide_eq_true_eq] at hq
      obtain ⟨⟨rfl,hle⟩,hcl⟩ := hq
      have hfr : loc.m id ≠ .free := by intro e; simp [Owns,e] at h
      obtain ⟨hok,_⟩ := hh.get hlk hfr
      have hs := zgb hh h hlk rfl hle
      have e : ((xs.drop off).take len).length = len := by simp; omega
      have hls : ∀ y ∈ (xs.drop off).take len,y.leaves.length = s' := fun y hy => hok.2 y (List.mem_of_mem_drop (List.mem_of_mem_take hy))
      have hfl : (Blk.flat (.g s' xs) |>.drop (off * s') |>.take (len * s')) = ((xs.drop off).take len).flatMap AV.leaves := by
       rw [zbb _ _ (fun y hy => hok.2 y (List.mem_of_mem_drop hy)),zbt _ _ hok.2]; rfl
      rw [hfl] at hs
      obtain ⟨a,cap,cs,rfl,h1,h2,h3⟩ := cells len _ hlk hs
      generalize hys : (xs.drop off).take len = ys at e hls hcl hs h3 ⊢
      by_cases h0 : len = 0
      ·subst h0
       obtain rfl : ys = [] := List.eq_nil_of_length_eq_zero e
       exact .sg s' [] false a cap [] ⟨by simp,h2,by simp⟩ (by simp) ⟨.inl rfl⟩ rfl (by simp) (by simp)
      ·rcases h3 with h3 | ⟨h4,h5,b,o,rfl,h6,h7,h8⟩
       ·exact (h0 h3).elim
       ·have hlf : ∀ y ∈ ys,∀ z ∈ y.leaves,z.leaf = true := by
         intro y hy z hz
         obtain ⟨j,hj,e1⟩ := List.mem_iff_getElem.1 (List.mem_flatMap.2 ⟨y,hy,hz⟩ : z ∈ ys.flatMap AV.leaves)
         rw [← e1]; exact h5.leaf j hj
        have hmap : (ys.map (frqE (frqL H n))).flatMap AV.leaves = (ys.flatMap AV.leaves).map (frqL H n) := by
         clear hcl h5 h4 hs h2 h1 e hls hys
         induction ys with
         | nil => rfl
         | cons y r ihr =>
          simp only [List.map_cons,List.flatMap_cons,List.map_append]
          rw [zqs (hlf y (by simp)),ihr (fun y hy => hlf y (by simp [hy]))]
        have hl5 := h5.len
        have := R.sg (w := w) (loc := loc.bare) s' (ys.map (frqE (frqL H n))) false (some ⟨b,o,none⟩) cap cs ⟨by simp [e]; exact h1,h2,by simp⟩
         (fun y hy => by
          obtain ⟨z,hz,rfl⟩ := List.mem_map.1 hy
          rw [zqs (hlf z hz),List.length_map]; exact hls z hz)
         ⟨.inr ⟨b,o,rfl,nomut id b h8,h6,h7⟩⟩ (by rw [hmap,List.length_map]; exact hl5)
         (fun j hj => by
          have hm := List.getElem_mem hj
          obtain ⟨y,hy,hyl⟩ := List.mem_flatMap.1 hm
          have hc1 := zim hcl y hy
          obtain ⟨k,hk,e1⟩ := List.mem_iff_getElem.1 hyl
          refine ⟨?_,by rw [← e1]; exact zbw hc1 k hk⟩
          simp only [hmap] at hj ⊢
          rw [List.getElem_map]
          exact zmt n (h5.leaf j (by simpa using hj)))
         (fun j hj hj' => by
          have hm := List.getElem_mem hj
          obtain ⟨y,hy,hyl⟩ := List.mem_flatMap.1 hm
          have hc1 := zim hcl y hy
          obtain ⟨k,hk,e1⟩ := List.mem_iff_getElem.1 hyl
          have hc2 := zbw hc1 k hk
          rw [e1] at hc2
          simp only [hmap] at hj hc2 ⊢
          rw [List.getElem_map] at hc2 ⊢
          exact ih _ _ (h5.r j (by simpa using hj) hj') hc2)
        rw [List.length_map,e] at this
        exact this
    ·cases hc
  ·rename_i id s i f
   cases hx with
   | rf _ _ _ _ _ h =>
    split at hc
    ·rename_i s' xs hlk0
     have hlk : Ax.look (toH H) id = some (.g s' xs) := by rw [zar]; exact hlk0
     try dsimp only
     try simp only [hlk0]
     cases hq : ((decide (0 < s) && (decide (i = 0) && decide (f = 0))) && (!(xs.flatMap AV.leaves).isEmpty && closedL ((xs.flatMap AV.leaves).map (frqL H n)))) with
     | false => rw [hq] at hc; cases hc
     | true =>
      simp only [hq,cond_true]
      simp only [Bool.and_eq_true,decide_eq_true_eq,Bool.not_eq_true'] at hq
      obtain ⟨⟨hs0,rfl,rfl⟩,hne,hcl⟩ := hq
      have hfr : loc.m id ≠ .free := by intro e; simp [Points,e] at h
      obtain ⟨hok,hn | ⟨b,hb,hl⟩⟩ := hh.get hlk hfr
      ·unfold Points at h; rw [hn.1] at h; exact h.elim
      ·obtain ⟨cur,el,fz,a1,a2,a3,a4,a5⟩ := hl.lies rfl
       unfold Points at h; rw [hb] at h
       simp only at h
       subst h
       rw [zbm (by omega)]
       have hF : (Blk.g s' xs).flat = xs.flatMap AV.leaves := rfl
       rw [hF] at a4
       have a5' : ∀ (j : Nat) (hj : j < (xs.flatMap AV.leaves).length) (hj' : j < cur.size),(xs.flatMap AV.leaves)[j].leaf = true ∧ R w loc (xs.flatMap AV.leaves)[j] cur[j] := a5
       generalize xs.flatMap AV.leaves = F at hne hcl a4 a5' ⊢
       have hlen : (cur.toList.take F.length).length = F.length := by simp; omega
       have hFn : F ≠ [] := by intro e; subst e; simp at hne
       have hFp : 0 < F.length := List.length_pos_iff.2 hFn
       refine R.cp _ _ (cur.toList.take F.length) ⟨.inr ⟨b,0 * s + 0,rfl,nomut id b hb,(he.lies id b hb).1,fun j hj => ?_⟩⟩ ?_ ?_ ?_ ?_
       ·have hj0 : j < cur.size := by omega
        simp only [World.cell?,a1,Nat.zero_mul,Nat.zero_add,Array.getElem?_eq_getElem hj0,List.getElem_take,Array.getElem_toList]
        rfl
       ·intro e
        rw [e] at hlen
        simp at hlen; omega
       ·rw [List.length_map,hlen]
       ·intro j hj
        have hj0 : j < F.length := by simpa using hj
        refine ⟨?_,zbw hcl j hj⟩
        rw [List.getElem_map]
        exact zmt n (a5' j hj0 (by omega)).1
       ·intro j hj hj'
        have hj0 : j < F.length := by simpa using hj
        have hc2 := zbw hcl j hj
        rw [List.getElem_map] at hc2 ⊢
        have hr := (a5' j hj0 (by omega)).2
        rw [List.getElem_take,Array.getElem_toList]
        exact ih _ _ hr hc2
    ·cases hc
  ·rename_i f cs
   cases hx with
   | fn _ _ vs hl h =>
    simp only [AV.closed] at hc
    exact .fn f _ vs (by simp [hl]) fun j hj hj' => by
     have hj0 : j < cs.length := by simpa using hj
     have hc2 := zbw hc j hj
     rw [List.getElem_map] at hc2 ⊢
     exact ih _ _ (h j hj0 hj') hc2
  ·exact hx.move hM hc
theorem frqV_ok (he : Env w0 E w loc) (hh : HR w loc (toH H)) {x : AV} {v : Value} (hx : R w loc x v) (hc : (frqV H x).closed = true) : R w loc.bare (frqV H x) v := by
 unfold frqV at hc ⊢
 unfold frqE at hc ⊢
 split at hc
 ·rename_i ls
  cases hx with
  | agg _ cs hl hlf h =>
   simp only [AV.closed] at hc
   exact .agg _ cs (by simp [hl]) (fun j hj => by rw [List.getElem_map]; exact zmt _ (hlf j (by simpa using hj))) fun j hj hj' => by
    have hc2 := zbw hc j hj
    rw [List.getElem_map] at hc2 ⊢
    exact ylz he hh _ _ _ (h j (by simpa using hj) hj') hc2
 ·exact hx.move (fun b _ h => .inl (bare_mut.1 h)) hc
 ·exact ylz he hh _ _ _ hx hc
end
def allT (p : Blk → Bool) : Tr Blk → Bool
 | .leaf => true
 | .node l a r => (match a with | some b => p b | none => true) && (allT p l && allT p r)
theorem zpm {p : Blk → Bool} : ∀ {t : Tr Blk},allT p t = true → ∀ id b,t.get id = some b → p b = true
 | .leaf,_,id,b,h => by cases h
 | .node l a r,ht,id,b,h => by
  simp only [allT,Bool.and_eq_true] at ht
  cases id with
  | zero =>
   rw [zdw] at h
   subst h
   exact ht.1
  | succ id =>
   rw [zdm] at h
   cases hk : Nat.beq (id % 2) 0 with
   | true => rw [hk] at h; exact zpm ht.2.1 _ b h
   | false => rw [hk] at h; exact zpm ht.2.2 _ b h
def Loc.with (loc loc' : Loc) (nm nz : Nat) : Loc := { m := fun id => if nm ≤ id ∧ id < nz then loc'.m id else loc.m id,bad := loc.bad }
theorem ygw {w0 : World} {E : Nat → Prop} {w : World} {loc : Loc} {nm nz : Nat} (he : Env w0 E w loc) (hfree : ∀ id,nm ≤ id → id < nz → loc.m id = .free) {x : AV} {H : Tr Blk} {v : Value} {w' : World} {loc' : Loc}
  (hx : x.noimm = true) (hN : allT Blk.noimm H = true) (hH : ∀ id b,H.get id = some b → nm ≤ id ∧ id < nz) (hp : PostW w (fun _ => False) w loc.bare nm nz x (toH H) v w' loc') :
  R w' (loc.with loc' nm nz) x v ∧ HR w' (loc.with loc' nm nz) (toH H) ∧ Env w0 E w' (loc.with loc' nm nz) ∧ Ext (fun _ => False) w loc w' (loc.with loc' nm nz) ∧
   (∀ id,loc.m id = .free → (loc.with loc' nm nz).m id ≠ .free → nm ≤ id ∧ id < nz) ∧ (loc.with loc' nm nz).bad = loc.bad := by
 have hin : ∀ id,(nm ≤ id ∧ id < nz) → (loc.with loc' nm nz).m id = loc'.m id := fun id h => by simp [Loc.with,h]
 have hout : ∀ id,¬ (nm ≤ id ∧ id < nz) → (loc.with loc' nm nz).m id = loc.m id := fun id h => by simp only [Loc.with]; rw [if_neg h]
 have hnew : ∀ id,loc'.m id ≠ .free → nm ≤ id ∧ id < nz := fun id h => hp.tn.fresh id rfl h
 have hold : ∀ b,b < w.heap.size → w'.heap[b]? = w.heap[b]? := fun b hb => hp.env.same b hb (fun h => h)
 have hq : ∀ {y : AV} {u : Value},R w' loc' y u → y.noimm = true → R w' (loc.with loc' nm nz) y u := fun h hn => h.agreeN hn fun id _ hf => hin id (hnew id hf)
 have hext : Ext (fun _ => False) w loc w' (loc.with loc' nm nz) := by
  obtain ⟨C,hE⟩ := hp.tn.ext
  refine ⟨hE.size,fun id hf _ => ?_,fun _ _ h => h.elim,fun b hb hm => ⟨hold b hb,?_⟩,fun id b hb _ => hold b (he.lies id b hb).1,hE.shape⟩
  ·exact hout id fun h => hf (hfree id h.1 h.2)
  ·rintro (h | ⟨id,h⟩)
   ·exact hm (.inl h)
   ·by_cases hw : nm ≤ id ∧ id < nz
    ·rw [hin id hw] at h
     rcases (hp.env.lies id b h).2 with h1 | h1
     ·omega
     ·exact h1
    ·rw [hout id hw] at h; exact hm (.inr ⟨id,h⟩)
 refine ⟨hq hp.r hx,fun id blk hl => ?_,?_,hext,fun id hf hn => ?_,rfl⟩
 ·rw [zar] at hl
  have hw := hH id blk hl
  have h1 := hp.h id blk (by rw [zar]; exact hl)
  have hnb := zpm hN id blk hl
  unfold BlkR at h1 ⊢
  rw [hin id hw]
  split
  ·trivial
  ·rename_i e; rw [e] at h1; exact h1
  ·rename_i e; rw [e] at h1; exact h1
  ·rename_i b e
   rw [e] at h1
   obtain ⟨hok,hl1⟩ := h1
   rcases zbp blk with ⟨y,hy,rfl⟩ | hodd
   ·have hlone : y.lone = true := hnb
    exact ⟨hok,.mkO (Thing.far hlone (hl1.is hy)) hy⟩
   obtain ⟨cur,el,fz,a1,a2,a3,a4,a5⟩ := hl1.lies hodd
   exact ⟨hok,.mkC ⟨cur,el,fz,a1,a2,a3,a4,fun j hj hj' => ⟨(a5 j hj hj').1,hq (a5 j hj hj').2 (zuc hnb _ (List.getElem_mem hj))⟩⟩ hodd⟩
 ·refine ⟨hp.env.os.trans he.os,hp.env.tape.trans he.tape,hp.env.output.trans he.output,Nat.le_trans he.size hp.env.size,?_,?_,?_,he.bad⟩
  ·intro b hb hE
   rw [hold b (Nat.lt_of_lt_of_le hb he.size)]
   exact he.same b hb hE
  ·have hcross : ∀ i j b,(nm ≤ i ∧ i < nz) → ¬ (nm ≤ j ∧ j < nz) → loc'.m i = .here b → loc.m j = .here b → False := by
    intro i j b _ _ h1 h2
    have h3 := (he.lies j b h2).1
    rcases (hp.env.lies i b h1).2 with h5 | h5
    ·omega
    ·exact h5
   intro i j b hi hj
   by_cases h1 : nm ≤ i ∧ i < nz
   ·rw [hin i h1] at hi
    by_cases h2 : nm ≤ j ∧ j < nz
    ·rw [hin j h2] at hj
     exact hp.env.inj i j b hi hj
    ·rw [hout j h2] at hj
     exact (hcross i j b h1 h2 hi hj).elim
   ·rw [hout i h1] at hi
    by_cases h2 : nm ≤ j ∧ j < nz
    ·rw [hin j h2] at hj
     exact (hcross j i b h2 h1 hj hi).elim
    ·rw [hout j h2] at hj
     exact he.inj i j b hi hj
  ·intro i b hi
   by_cases h1 : nm ≤ i ∧ i < nz
   ·rw [hin i h1] at hi
    obtain ⟨h2,h3⟩ := hp.env.lies i b hi
    refine ⟨h2,?_⟩
    rcases h3 with h3 | h3
    ·exact .inl (Nat.le_trans he.size h3)
    ·exact h3.elim
   ·rw [hout i h1] at hi
    obtain ⟨h2,h3⟩ := he.lies i b hi
    exact ⟨Nat.lt_of_lt_of_le h2 hp.env.size,h3⟩
 ·by_cases h : nm ≤ id ∧ id < nz
  ·exact h
  ·rw [hout id h] at hn; exact (hn hf).elim
theorem yqz {w0 : World} {E : Nat → Prop} {w : World} {loc : Loc} (he : Env w0 E w loc) : Env w (fun _ => False) w loc.bare :=
 ⟨rfl,rfl,rfl,Nat.le_refl _,fun _ _ _ => rfl,(fun i j b h => by cases h),(fun i b h => by cases h),fun b hb => ⟨Nat.lt_of_lt_of_le (he.bad b hb).1 he.size,fun h => h⟩⟩
end Ax
end Go.Proofs.Ytioldmhhefhelaa
namespace Go.Proofs.Ytioldmhhefhelaa
namespace Ax
structure CS where
 sl : Tr AV
 n : Nat
 H : Tr Blk
 nx : Nat
 fl : Nat
noncomputable def evC (n : Nat) (sl : Tr AV) : Operand → AV
 | .tmp t => bif Nat.blt t n then sget sl t else .junk
 | .const v => cv v
 | .func f => .fn f []
 | .global _ => .junk
theorem zgw (n : Nat) (sl : Tr AV) (x : Operand) : ev (toS n sl) x = evC n sl x := by
 cases x with
 | tmp t =>
  simp only [ev,evC,zpb]
  by_cases h : t < n
  ·have : Nat.blt t n = true := by rw [Nat.blt_eq]; exact h
   simp [h,this]
  ·have : Nat.blt t n = false := by
    cases hb : Nat.blt t n with
    | false => rfl
    | true => rw [Nat.blt_eq] at hb; exact (h hb).elim
   simp [h,this]
 | _ => rfl
def most : Nat := 1152921504606846975
theorem zvl {k : Nat} (h : Nat.blt k most = true) : k + 1 < 2 ^ 60 := by
 rw [Nat.blt_eq] at h; unfold most at h; omega
section
variable {β : Type}
noncomputable def appK : Us → Tr Blk → (Tr Blk → Option β) → Option β
 | [],H,κ => κ H
 | (k,b) :: r,H,κ => appK r H fun H => bif Nat.blt k most then (match b with
   | some b => yef b fun b => Tr.setK H k (some b) κ
   | none => Tr.setK H k none κ) else none
theorem yoh : ∀ {us : Us} {H : Tr Blk} {κ : Tr Blk → Option β} {z : β},appK us H κ = some z → ∃ H',κ H' = some z ∧ ∀ id,H'.get id = upd us H.get id
 | [],H,κ,z,h => ⟨H,h,fun _ => rfl⟩
 | (k,b) :: r,H,κ,z,h => by
  obtain ⟨H1,h1,h2⟩ := yoh (us := r) h
  cases hk : Nat.blt k most with
  | false => rw [hk] at h1; cases h1
  | true =>
   rw [hk,cond_true] at h1
   have hm := zvl hk
   cases b with
   | none =>
    simp only [zga] at h1
    exact ⟨_,h1,fun id => by rw [zjm _ _ _ _ hm]; simp only [upd,eq_comm,h2]⟩
   | some b =>
    simp only [ymd,zga] at h1
    exact ⟨_,h1,fun id => by rw [zjm _ _ _ _ hm]; simp only [upd,eq_comm,h2]⟩
def geU (fl : Nat) : Us → Bool
 | [] => true
 | p :: r => Nat.ble fl p.1 && geU fl r
theorem yts {fl : Nat} : ∀ {us : Us},geU fl us = true → ∀ (lk : Nat → Option Blk) (id : Nat),id < fl → upd us lk id = lk id
 | [],_,lk,id,_ => rfl
 | (k,b) :: r,h,lk,id,hi => by
  simp only [geU,Bool.and_eq_true] at h
  have h1 := Nat.le_of_ble_eq_true h.1
  simp only [upd]
  rw [if_neg (by omega)]
  exact yts h.2 lk id hi
noncomputable def appF (fl : Nat) (us : Us) (H : Tr Blk) (κ : Tr Blk → Option β) : Option β := bif geU fl us then appK us H κ else none
theorem ycq {fl : Nat} {us : Us} {H : Tr Blk} {κ : Tr Blk → Option β} {z : β} (h : appF fl us H κ = some z) : ∃ H',κ H' = some z ∧ (∀ id,H'.get id = upd us H.get id) ∧ ∀ id,id < fl → H'.get id = H.get id := by
 unfold appF at h
 cases hg : geU fl us with
 | false => rw [hg] at h; cases h
 | true =>
  rw [hg,cond_true] at h
  obtain ⟨H',h1,h2⟩ := yoh h
  exact ⟨H',h1,h2,fun id hi => by rw [h2,yts hg _ id hi]⟩
noncomputable def putK (n : Nat) (sl : Tr AV) (d : Option Tmp) (x : AV) (κ : Tr AV → Option β) : Option β :=
 match d with
 | none => κ sl
 | some d => bif Nat.blt d n && Nat.blt d most then Tr.setK sl d (some x) κ else none
theorem ykd {n : Nat} {sl : Tr AV} {d : Option Tmp} {x : AV} {κ : Tr AV → Option β} {z : β} (h : putK n sl d x κ = some z) :
  ∃ sl',κ sl' = some z ∧ ∀ t,slot (toS n sl') t = if d = some t ∧ t < n then x else slot (toS n sl) t := by
 cases d with
 | none => exact ⟨sl,h,fun t => by simp⟩
 | some d =>
  simp only [putK] at h
  cases hc : (Nat.blt d n && Nat.blt d most) with
  | false => rw [hc] at h; cases h
  | true =>
   rw [hc,cond_true,zga] at h
   simp only [Bool.and_eq_true] at hc
   have hm := zvl hc.2
   refine ⟨_,h,fun t => ?_⟩
   rw [zpb,zpb]
   by_cases ht : t < n
   ·rw [if_pos ht,if_pos ht]
    unfold sget
    rw [zjm _ _ _ _ hm]
    by_cases e : t = d
    ·subst e; simp [ht]
    ·have : ¬ (some d = some t ∧ t < n) := fun h => e (by injection h.1 with h; exact h.symm)
     rw [if_neg e,if_neg this]
   ·rw [if_neg ht,if_neg ht,if_neg (fun h => ht h.2)]
end
def Tr.union {α : Type} : Tr α → Tr α → Tr α
 | t,.leaf => t
 | .leaf,.node l a r => .node l a r
 | .node l a r,.node l' a' r' => .node (l.union l') (match a' with | some x => some x | none => a) (r.union r')
theorem zdh {α : Type} : ∀ (t s : Tr α) (n : Nat),(t.union s).get n = match s.get n with | some b => some b | none => t.get n
 | t,.leaf,n => by cases t <;> rfl
 | .leaf,.node l a r,n => by
  simp only [Tr.union,zer]
  try (cases (Tr.node l a r).get n <;> rfl)
 | .node l a r,.node l' a' r',n => by
  cases n with
  | zero => cases a' <;> simp [Tr.union,zdw]
  | succ n =>
   simp only [Tr.union,zdm,zdh l l',zdh r r']
   try (cases Nat.beq (n % 2) 0 <;> rfl)
def Tr.unionK {α β : Type} : Tr α → Tr α → (Tr α → β) → β
 | t,.leaf,κ => κ t
 | .leaf,.node l a r,κ => κ (.node l a r)
 | .node l a r,.node l' a' r',κ => l.unionK l' fun l2 => r.unionK r' fun r2 => match a' with
  | some x => κ (.node l2 (some x) r2)
  | none => κ (.node l2 a r2)
theorem zlz {α β : Type} : ∀ (t s : Tr α) (κ : Tr α → β),t.unionK s κ = κ (t.union s)
 | t,.leaf,κ => by cases t <;> rfl
 | .leaf,.node l a r,κ => rfl
 | .node l a r,.node l' a' r',κ => by
  simp only [Tr.unionK,zlz l l',zlz r r',Tr.union]
  cases a' <;> rfl
noncomputable def gcK {β : Type} (src : Tr Blk) : Nat → List Nat → Tr Blk → (Tr Blk → β) → β
 | 0,_,acc,κ => κ acc
 | _ + 1,[],acc,κ => κ acc
 | n + 1,id :: r,acc,κ => match acc.get id with
  | some _ => gcK src n r acc κ
  | none => match src.get id with
   | some b => bif Nat.blt id most then Tr.setK acc id (some b) fun acc => gcK src n (b.ids ++ r) acc κ else gcK src n r acc κ
   | none => gcK src n r acc κ
theorem ztw {β : Type} {src : Tr Blk} : ∀ (n : Nat) (l : List Nat) (acc : Tr Blk) (κ : Tr Blk → β),∃ t,gcK src n l acc κ = κ t ∧ ∀ id b,t.get id = some b → acc.get id = some b ∨ src.get id = some b
 | 0,l,acc,κ => ⟨acc,rfl,fun id b h => .inl h⟩
 | n + 1,[],acc,κ => ⟨acc,rfl,fun id b h => .inl h⟩
 | n + 1,k :: r,acc,κ => by
  unfold gcK
  split
  ·exact ztw n r acc κ
  ·split
   ·rename_i b hb
    cases hk : Nat.blt k most with
    | false => exact ztw n r acc κ
    | true =>
     simp only [cond_true,zga]
     obtain ⟨t,h1,h2⟩ := ztw (src := src) n (b.ids ++ r) (Tr.set acc k (some b)) κ
     refine ⟨t,h1,fun id c h => ?_⟩
     rcases h2 id c h with h | h
     ·rw [zjm _ _ _ _ (zvl hk)] at h
      by_cases e : id = k
      ·rw [if_pos e] at h; subst e; exact .inr (hb.trans h)
      ·rw [if_neg e] at h; exact .inl h
     ·exact .inr h
   ·exact ztw n r acc κ
abbrev zdl := FuncId → List AV → Tr Blk → Nat → Nat → Option (AV × Tr Blk × Nat)
noncomputable def ytq (H Hr : Tr Blk) (nx id : Nat) : Bool := match Hr.get id with
 | some _ => true
 | none => match H.get id with
  | some _ => false
  | none => Nat.blt id nx
noncomputable def allN (H Hr : Tr Blk) (nx : Nat) : List Nat → Bool
 | [] => true
 | id :: r => ytq H Hr nx id && allN H Hr nx r
theorem zwi {H Hr : Tr Blk} {nx : Nat} : ∀ {l : List Nat},allN H Hr nx l = true → ∀ id ∈ l,Hr.get id ≠ none ∨ (H.get id = none ∧ id < nx)
 | [],_,id,h => by cases h
 | k :: r,h,id,hm => by
  simp only [allN,Bool.and_eq_true] at h
  rcases List.mem_cons.1 hm with e | e
  ·subst e
   have h1 := h.1
   unfold ytq at h1
   split at h1
   ·rename_i b hb; exact .inl (by rw [hb]; simp)
   ·split at h1
    ·cases h1
    ·rename_i hn; exact .inr ⟨hn,by rwa [Nat.blt_eq] at h1⟩
  ·exact zwi h.2 id e
def zdg (T : zae) (q : Bool) : Op → Nat
 | .call c => match c.callee with
  | .value _ => bif q then 1 else 2
  | _ => zah T (.call c)
 | op => zah T op
abbrev zhw := FuncId → Option (List AV → (Nat → Option Blk) → Nat → Option (AV × Us))
def zhg (P : Program) (S : zak) (SB : zhw) : Prop := ∀ g h,SB g = some h → (∀ (A : List AV) (H : Heap) (lk : Nat → Option Blk) (nm : Nat),(∀ id,look H id = lk id) → Told (aUser S nm g A H) lk (h A lk nm)) ∨
 ∃ SO : zak,FnsO P SO ∧ ∀ (A : List AV) (H : Heap) (lk : Nat → Option Blk) (nm : Nat),(∀ id,look H id = lk id) → Told (aOpen SO nm g A H) lk (h A lk nm)
def cSp (T : zae) (e : Operand → AV) (lk : Nat → Option Blk) (op : Op) : Option AV :=
 match op with
 | .binOp b t x (.const (.slice none 0 0)) _ => match T t with
  | some ti => match ti.d with
   | .slice _ => match e x with
    | .ms id _ _ len => match lk id with
     | some _ => bif decide (0 < len) then (match b with
       | .eql => some (.w (.bool false))
       | .neq => some (.w (.bool true))
       | _ => none) else none
     | none => none
    | _ => none
   | _ => none
  | none => none
 | _ => none
def ziz (n : Nat) : Blk → Blk
 | .b bs => .b (bs.take n)
 | .i ns => .i (ns.take n)
 | .g s xs => .g s (xs.take n)
 | .o x => .o x
def zpo (e : Operand → AV) (lk : Nat → Option Blk) (op : Op) : Option (Nat × Blk) :=
 match op with
 | .call c => match c.callee with
  | .builtin .append => match c.args.toList with
   | [d,_] => match e d with
    | .ms id _ 0 len => match lk id with
     | some blk => bif Nat.blt len blk.len then some (id,ziz len blk) else none
     | none => none
    | _ => none
   | _ => none
  | _ => none
 | _ => none
def lkT (lk : Nat → Option Blk) (id : Nat) (b : Blk) (k : Nat) : Option Blk := if k = id then some b else lk k
def ylp (id : Nat) : Us → Bool
 | [] => false
 | p :: r => Nat.beq p.1 id || ylp id r
section
variable (T : zae) (SB : zhw) (call : zdl)
noncomputable def ykl (τ : CS) (q : Bool) (c : Call) (g : FuncId) (A : List AV) : Option (AV × Tr Blk × Nat) :=
 match SB g with
 | some h => match h A τ.H.get τ.nx with
  | some (x,us) => bif !quietC T c && !q then
    (appF τ.fl us τ.H fun H => zfe (τ.nx + 8) fun nz => some (x,H,nz)) else none
  | none => none
 | none => none
noncomputable def zlf (τ : CS) (op : Op) : Option (AV × Tr Blk × Nat) :=
 match cSp T (evC τ.n τ.sl) τ.H.get op with
 | some x => zfe (τ.nx + 8) fun nz => some (x,τ.H,nz)
 | none => match zpo (evC τ.n τ.sl) τ.H.get op with
  | some (id,b) => match cop T τ.nx (evC τ.n τ.sl) (lkT τ.H.get id b) op with
   | some (x,us) => bif ylp id us then (appF τ.fl us τ.H fun H => zfe (τ.nx + 8) fun nz => some (x,H,nz)) else none
   | none => none
  | none => match cop T τ.nx (evC τ.n τ.sl) τ.H.get op with
   | some (x,us) => appF τ.fl us τ.H fun H => zfe (τ.nx + 8) fun nz => some (x,H,nz)
   | none => none
noncomputable def yjw (τ : CS) (g : FuncId) (A : List AV) (Hr : Tr Blk) : Option (AV × Tr Blk × Nat) :=
 bif allN τ.H Hr τ.nx (idsL A) && allT (fun b => allN τ.H Hr τ.nx b.ids) Hr then
  (match call g A Hr τ.nx τ.nx with
   | some (x,H,nz) => τ.H.unionK H fun H => some (x,H,nz)
   | none => none)
  else none
noncomputable def roVal (τ : CS) (g : FuncId) (A : List AV) : Option (AV × Tr Blk × Nat) := gcK τ.H 100000 (idsL A) .leaf (yjw call τ g A)
noncomputable def zxg (τ : CS) (q : Bool) (op : Op) : Option (AV × Tr Blk × Nat) :=
 match op with
 | .call c => match c.callee with
  | .value f => match evC τ.n τ.sl f with
   | .fn g caps => match ykl T SB τ q c g (coes T c.argTypes.toList (c.args.toList.map (evC τ.n τ.sl)) ++ caps) with
    | some r => some r
    | none => bif q then
     (bif closedL ((coes T c.argTypes.toList (c.args.toList.map (evC τ.n τ.sl)) ++ caps).map (frqV τ.H)) then
      (match call g ((coes T c.argTypes.toList (c.args.toList.map (evC τ.n τ.sl)) ++ caps).map (frqV τ.H)) .leaf τ.nx 0 with
       | some (x,H,nz) => gcK H 100000 x.ids .leaf fun H => bif x.noimm && allT Blk.noimm H then (τ.H.unionK H fun H => some (x,H,nz)) else none
       | none => none)
      else roVal call τ g (coes T c.argTypes.toList (c.args.toList.map (evC τ.n τ.sl)) ++ caps))
     else call g (coes T c.argTypes.toList (c.args.toList.map (evC τ.n τ.sl)) ++ caps) τ.H τ.nx τ.fl
   | _ => none
  | _ => zlf T τ op
 | _ => zlf T τ op
noncomputable def ygz (τ : CS) (q : Bool) (o : Oper) : Option CS :=
 match zxg T SB call τ q o.op with
 | some (x,H,nz) => yee x fun x => putK τ.n τ.sl o.dst x fun sl => some ⟨sl,τ.n,H,nz,τ.fl⟩
 | none => none
noncomputable def ztl (τ : CS) (o : Oper) : Option CS := putK τ.n τ.sl o.dst (.tup []) fun sl => some ⟨sl,τ.n,τ.H,τ.nx,τ.fl⟩
noncomputable def znl (ops : List Oper) (q : Bool) (τ : CS) (o : Oper) : Option CS :=
 match o.guard with
 | none => ygz T SB call τ q o
 | some (j,want) => match guardSlot ops j with
  | none => none
  | some d => match evC τ.n τ.sl (.tmp d) with
   | .w (.bool b) => bif b == want then ygz T SB call τ q o else ztl τ o
   | .tup [] => ztl τ o
   | _ => none
noncomputable def zgs (ops : List Oper) (q : Nat → Bool) : Nat → List Oper → CS → Option CS
 | _,[],τ => some τ
 | k,o :: r,τ => match znl T SB call ops (q k) τ o with
  | some τ => zgs ops q (k + 1) r τ
  | none => none
end
def ynf (kx ky : Nat) (ops : List Oper) (x y : Oper) : Bool :=
 (match x.dst with
  | some d => (y.looksAt ops.toArray).contains d || y.dst == some d
  | none => false) ||
 (match y.dst with
  | some d => (x.looksAt ops.toArray).contains d
  | none => false) ||
 (decide (kx = 2) && !decide (ky = 0)) || (decide (ky = 2) && !decide (kx = 0))
def zjp (k : Nat → Op → Nat) (ops : List Oper) : Bool :=
 (List.range ops.length).all fun j => match ops[j]? with
  | some y => ycn j y.after.toList && (List.range j).all fun i => match ops[i]? with
   | some x => !ynf (k i x.op) (k j y.op) ops x y || ((zic [] ops).getD j 0).testBit i
   | none => true
  | none => true
theorem yqq {k : Nat → Op → Nat} {l : List Oper} (h : zjp k l = true) : ycs l (fun i => match l[i]? with | some o => k i o.op | none => 0) := by
 unfold zjp at h
 have h := List.all_eq_true.1 h
 refine ⟨fun j o ho => ?_,fun i j x y hij hx hy hc => ?_⟩
 ·have := h j (List.mem_range.2 (zcd ho))
  simp only [ho,Bool.and_eq_true] at this
  exact zjr this.1
 ·have := h j (List.mem_range.2 (zcd hy))
  simp only [hy,Bool.and_eq_true] at this
  have := List.all_eq_true.1 this.2 i (List.mem_range.2 hij)
  simp only [hx] at this
  simp only [hx,hy] at hc
  have hcl : ynf (k i x.op) (k j y.op) l x y = true := by
   unfold ynf
   rcases hc with ⟨d,h1,h2⟩ | ⟨d,h1,h2⟩ | ⟨h1,h2⟩ | ⟨h1,h2⟩
   ·rw [h1]; rcases h2 with h2 | h2 <;> simp [h2]
   ·rw [h1]; simp [h2]
   ·simp [h1,h2]
   ·simp [h1,h2]
  simp only [hcl,Bool.not_true,Bool.false_or] at this
  exact this
def isUser : Op → Bool
 | .call c => match c.callee with
  | .value _ => true
  | _ => false
 | _ => false
def zol (T : zae) (ops : List Oper) : List Bool :=
 (List.range ops.length).map fun i => match ops[i]? with
  | some x => isUser x.op && (List.range ops.length).any fun j => match ops[j]? with
   | some y => !(i == j) && (!(((zic [] ops).getD j 0).testBit i || ((zic [] ops).getD i 0).testBit j) && !(zdg T false y.op == 0))
   | none => false
  | none => false
section
variable (T : zae) (SB : zhw) (call : zdl)
noncomputable def ybf (f : CS → Option (Exit × CS)) : Nat → CS → Option (Exit × CS)
 | 0,_ => none
 | k + 1,τ => match f τ with
  | some (.normal,τ) => ybf f k τ
  | some (.exit id,τ) => some (.exit id,τ)
  | some (.ret,τ) => some (.ret,τ)
  | _ => none
noncomputable def runC : Code → CS → Option (Exit × CS)
 | .skip,τ => some (.normal,τ)
 | .label _,τ => some (.normal,τ)
 | .region _ ops draw,τ => bif draw then
     (bif zjp (fun i => zdg T ((zol T ops.toList).getD i false)) ops.toList then (match zgs T SB call ops.toList (fun i => (zol T ops.toList).getD i false) 0 ops.toList τ with | some τ => some (.normal,τ) | none => none)
      else none)
     else (match zgs T SB call ops.toList (fun _ => false) 0 ops.toList τ with | some τ => some (.normal,τ) | none => none)
 | .seq a b,τ => match runC a τ with
   | some (.normal,τ) => runC b τ
   | some (.exit id,τ) => some (.exit id,τ)
   | some (.ret,τ) => some (.ret,τ)
   | _ => none
 | .cond c a b,τ => match evC τ.n τ.sl c with
   | .w (.bool true) => runC a τ
   | .w (.bool false) => runC b τ
   | _ => none
 | .block id c,τ => match runC c τ with
   | some (.exit id',τ) => if id' = id then some (.normal,τ) else some (.exit id',τ)
   | some (.normal,τ) => some (.normal,τ)
   | some (.ret,τ) => some (.ret,τ)
   | _ => none
 | .loop c,τ => ybf (runC c) 1000000 τ
 | .exit id,τ => some (.exit id,τ)
 | .ret,τ => some (.ret,τ)
 | _,_ => none
noncomputable def zri (τ : CS) : List ResultVar → Option (List AV)
 | [] => some []
 | .tmp t :: r => match zri τ r with
  | some l => some (evC τ.n τ.sl (.tmp t) :: l)
  | none => none
 | .cell a t :: r => match zri τ r with
  | some l => match ynp T t (evC τ.n τ.sl (.tmp a)) τ.H.get with
   | some (x,_) => some (x :: l)
   | none => none
  | none => none
noncomputable def ylg {β : Type} : List AV → Nat → Tr AV → (Tr AV → Option β) → Option β
 | [],_,t,κ => κ t
 | x :: r,k,t,κ => zmv x fun x => bif Nat.blt k most then Tr.setK t k (some x) fun t => ylg r (k + 1) t κ else none
end
def isEnd : Exit → Bool
 | .normal => true
 | .ret => true
 | _ => false
noncomputable def yic (P : Program) (T : zae) (SB : zhw) : Nat → zdl
 | 0,_,_,_,_,_ => none
 | k + 1,g,args,H,nx,fl => match P.funcs[g]? with
  | some fn => match fn.body with
   | some c => bif fn.name == "runtime.NumGoroutine" then none else
    bif Nat.ble args.length fn.ntmps then
     ylg args 0 .leaf fun sl => match runC T SB (yic P T SB k) c ⟨sl,fn.ntmps,H,nx,fl⟩ with
      | some (e,τ) => bif isEnd e then (match zri T τ fn.results.toList with
        | some l => some (rone l,τ.H,τ.nx)
        | none => none) else none
      | none => none
    else none
   | none => none
  | none => none
end Ax
end Go.Proofs.Ytioldmhhefhelaa
namespace Go.Proofs.Ytioldmhhefhelaa
namespace Ax
open Go.RowKit
def LowC (H : Tr Blk) (nx : Nat) : Prop := ∀ id b,H.get id = some b → id < nx
def zsf (P : Program) (call : zdl) : Prop :=
 ∀ g args H nx fl x H' nz,call g args H nx fl = some (x,H',nz) →
  nx ≤ nz ∧ (∀ id b,H'.get id = some b → H.get id ≠ none ∨ (nx ≤ id ∧ id < nz)) ∧ zsd P g ∧ (fl ≤ nx → ∀ id,id < fl → H'.get id = H.get id) ∧
  (LowC H nx → ∀ (w0 : World) (E : Nat → Prop) (w : World) (loc : Loc) (vs : List Value),args.length = vs.length → (∀ (j : Nat) (h : j < args.length) (h' : j < vs.length),R w loc args[j] vs[j]) →
   HR w loc (toH H) → Env w0 E w loc → (∀ id,nx ≤ id → id < nz → loc.m id = .free) →
   Calls P g vs.toArray w fun e w' => ∃ v loc',e = .returned v ∧ PostW w0 E w loc nx nz x (toH H') v w' loc')
theorem HR.congr {w : World} {loc : Loc} {A B : Heap} (h : HR w loc A) (e : ∀ id,look B id = look A id) : HR w loc B := fun id b hb => h id b ((e id).symm.trans hb)
theorem ztn (P : Program) : Fns P (fun _ => none) := fun f s h => by cases h
structure yol (P : Program) (T : zae) (q : Bool) (τ : CS) (op : Op) (x : AV) (H : Tr Blk) (nz : Nat) : Prop where
 mono : τ.nx ≤ nz
 new : ∀ id b,H.get id = some b → τ.H.get id ≠ none ∨ (τ.nx ≤ id ∧ id < nz)
 keep : LowC τ.H τ.nx → zdg T q op ≤ 1 → ∀ id,¬ (τ.nx ≤ id ∧ id < nz) → H.get id = τ.H.get id
 same : zdg T q op = 0 → ∀ id,H.get id = τ.H.get id
 old : τ.fl ≤ τ.nx → ∀ id,id < τ.fl → H.get id = τ.H.get id
 sem : LowC τ.H τ.nx → ∀ (w0 : World) (E : Nat → Prop) (w : World) (loc : Loc) (a : Act) (o : Oper),o.op = op → ∀ (next : Act → World → Prop) (Q : Exit → Act → World → Prop),
  (∀ y ∈ op.operands.toList,R w loc (evC τ.n τ.sl y) (a.eval y)) → (zdg T q op ≠ 0 → HR w loc (toH τ.H)) → Env w0 E w loc → (∀ id,τ.nx ≤ id → id < nz → loc.m id = .free) →
  (∀ v w' loc',R w' loc' x v → (∃ C : Nat → Prop,Ext C w loc w' loc' ∧ Calm (zdg T q op) C τ.nx (look (toH τ.H)) w' loc') → (∀ id,loc.m id = .free → loc'.m id ≠ .free → τ.nx ≤ id ∧ id < nz) → Env w0 E w' loc' →
   (zdg T q op ≠ 0 → HR w' loc' (toH H)) → loc'.bad = loc.bad → next (a.put o.dst v) w') → o.wp P a w next Q
theorem zqm {T : zae} {q : Bool} {op : Op} (h : ∀ c f,op = .call c → c.callee ≠ .value f) : zdg T q op = zah T op := by
 cases op with
 | call c =>
  simp only [zdg]
  cases hc : c.callee with
  | value f => exact (h c f rfl hc).elim
  | _ => rfl
 | _ => rfl
theorem sp_ok {P : Program} {T : zae} (hT : TOk P T) {n : Nat} {sl : Tr AV} {H : Tr Blk} {op : Op} {x : AV} (h : cSp T (evC n sl) H.get op = some x) {w : World} {loc : Loc} {a : Act} (hev : ∀ y ∈ op.operands.toList,R w loc (evC n sl y) (a.eval y)) (hh : zah T op ≠ 0 → HR w loc (toH H)) :
  ∃ v,R w loc x v ∧ ∀ o : Oper,o.op = op → (execOp a.eval o).run P w = .ok (.value v) w := by
 unfold cSp at h
 split at h
 ·rename_i b t y yt
  split at h
  ·rename_i ti ht
   split at h
   ·rename_i e hd
    have hu : P.underlying t = some (.slice e) := by
     have := (hT t ti ht).d
     rw [hd] at this
     exact this
    have hy := hev y (by simp [Op.operands])
    generalize evC n sl y = yv at hy h
    split at h
    ·rename_i id s off len
     split at h
     ·rename_i blk hb
      cases hlen : decide (0 < len) with
      | false => rw [hlen] at h; cases h
      | true =>
       have hl0 : 0 < len := of_decide_eq_true hlen
       rw [hlen,cond_true] at h
       have key : ∀ (ad : Addr) (k c : Nat),(Op.equal t (.slice (some ad) k c) (.slice none 0 0)).run P w = .ok false w := by
        intro ad k c
        have heq : ∀ d,(Op.equalIn (d + 1) t (.slice (some ad) k c) (.slice none 0 0)).run P w = .ok false w := fun d => by simp [Op.equalIn,run_underlying hu]
        exact heq 9999
       have hop : b = .eql ∨ b = .neq := by cases b <;> first | exact .inl rfl | exact .inr rfl | cases h
       have hk : zah T (.binOp b t y (.const (.slice none 0 0)) yt) ≠ 0 := by rcases hop with rfl | rfl <;> simp [zah]
       have hbr := hh hk id blk (by rw [zar]; exact hb)
       generalize hv : a.eval y = v at hy
       cases hy with
       | ms _ _ _ _ _ ho =>
        unfold Owns at ho
        unfold BlkR at hbr
        cases hm : loc.m id with
        | free => rw [hm] at ho; exact ho.elim
        | dead => rw [hm] at hbr; exact hbr.elim
        | nil => rw [hm] at ho; omega
        | here bb =>
         rw [hm] at ho
         obtain ⟨o',cap,cur,el,fz,rfl,_⟩ := ho
         rcases hop with rfl | rfl
         ·injection h with h; subst h
          refine ⟨.bool false,.w _ rfl,fun o ho => ?_⟩
          simp only [execOp,ho,hv]
          simp [zcn (u := .slice (some ⟨bb,o',none⟩) len cap) rfl (by simp),binOp,key,Act.eval]
         ·injection h with h; subst h
          refine ⟨.bool true,.w _ rfl,fun o ho => ?_⟩
          simp only [execOp,ho,hv]
          simp [zcn (u := .slice (some ⟨bb,o',none⟩) len cap) rfl (by simp),binOp,key,Act.eval]
     ·cases h
    ·cases h
   ·cases h
  ·cases h
 ·cases h
theorem yph {w : World} {loc : Loc} {id n : Nat} {blk : Blk} (h : BlkR w loc id blk) : BlkR w loc id (ziz n blk) := by
 unfold BlkR at h ⊢
 have hok : blk.ok → (ziz n blk).ok := by
  intro hk
  cases blk with
  | g s xs => exact ⟨hk.1,fun x hx => hk.2 x (List.mem_of_mem_take hx)⟩
  | _ => trivial
 split
 ·trivial
 ·rename_i e; rw [e] at h; exact h
 ·rename_i e
  rw [e] at h
  refine ⟨hok h.1,?_⟩
  have := h.2
  cases blk <;> simp_all [ziz,Blk.len]
 ·rename_i b e
  rw [e] at h
  obtain ⟨hk,hl⟩ := h
  refine ⟨hok hk,?_⟩
  rcases zbp blk with ⟨x,hx,rfl⟩ | hodd
  ·exact hl
  obtain ⟨cur,el,fz,h1,h2,h3,h4,h5⟩ := hl.lies hodd
  have hpre : ∃ m,(ziz n blk).flat = blk.flat.take m := by
   cases blk with
   | b bs => exact ⟨n,by simp [ziz,Blk.flat,List.map_take]⟩
   | i ns => exact ⟨n,by simp [ziz,Blk.flat,List.map_take]⟩
   | g s xs => exact ⟨n * s,zbb xs n hk.2⟩
   | o x => cases hodd
  obtain ⟨m,hm⟩ := hpre
  refine .mkC ⟨cur,el,fz,h1,by cases blk <;> exact h2,h3,by rw [hm,List.length_take]; omega,fun j hj hj' => ?_⟩ (by cases blk <;> first | rfl | cases hodd)
  have hj0 : j < blk.flat.length := by rw [hm,List.length_take] at hj; omega
  have e1 : (ziz n blk).flat[j] = blk.flat[j] := by simp only [hm]; rw [List.getElem_take]
  rw [e1]
  exact h5 j hj0 hj'
theorem ygh {e : Operand → AV} {lk : Nat → Option Blk} {op : Op} {id : Nat} {b : Blk} (h : zpo e lk op = some (id,b)) : (∃ blk n,lk id = some blk ∧ b = ziz n blk) ∧ ∃ c,op = .call c ∧ c.callee = .builtin .append := by
 unfold zpo at h
 split at h
 ·rename_i c
  split at h
  ·rename_i hc
   split at h
   ·split at h
    ·rename_i id' s len hd
     split at h
     ·rename_i blk hb
      cases hl : Nat.blt len blk.len with
      | false => rw [hl] at h; cases h
      | true =>
       rw [hl,cond_true] at h
       injection h with h
       injection h with h1 h2
       subst h1 h2
       exact ⟨⟨blk,len,hb,rfl⟩,c,rfl,hc⟩
     ·cases h
    ·cases h
   ·cases h
  ·cases h
 ·cases h
theorem zyh {id : Nat} {lk lk' : Nat → Option Blk} (hk : ∀ k,k ≠ id → lk k = lk' k) : ∀ {us : Us},ylp id us = true → ∀ k,upd us lk k = upd us lk' k
 | [],h,k => by cases h
 | p :: r,h,k => by
  simp only [ylp,Bool.or_eq_true] at h
  simp only [upd]
  by_cases e : p.1 = k
  ·rw [if_pos e,if_pos e]
  ·rw [if_neg e,if_neg e]
   rcases h with h | h
   ·have := Nat.eq_of_beq_eq_true h
    have hk2 : ∀ (us : Us),upd us lk k = upd us lk' k := by
     intro us
     induction us with
     | nil => exact hk k (fun e' => e (this.trans e'.symm))
     | cons q r ih => simp only [upd]; rw [ih]
    exact hk2 r
   ·exact zyh hk h k
theorem yna {P : Program} {T : zae} (hT : TOk P T) {q : Bool} {τ : CS} {op : Op} {x : AV} {us : Us} {H1 : Tr Blk} {A : Heap} {lk : Nat → Option Blk} (hA : ∀ id,Ax.look A id = lk id) (hdom : ∀ id,lk id ≠ none → τ.H.get id ≠ none) (hk : zdg T q op = zah T op)
  (hHR : ∀ (w : World) (loc : Loc),HR w loc (toH τ.H) → HR w loc A) (hsame : zah T op ≤ 1 → ∀ id,lk id = τ.H.get id) (hc : cop T τ.nx (evC τ.n τ.sl) lk op = some (x,us)) (h2 : ∀ id,H1.get id = upd us lk id) (hold : ∀ id,id < τ.fl → H1.get id = τ.H.get id) : yol P T q τ op x H1 (τ.nx + 8) := by
  obtain ⟨hp,hx,hH⟩ := cop_ok (S := fun _ => none) hA (zgw τ.n τ.sl) _ _ hc
  have hH' : ∀ id,H1.get id = look (aop (fun _ => none) T τ.nx (toS τ.n τ.sl) op A).H id := fun id => by rw [hH,h2]
  refine ⟨by omega,fun id b hb => ?_,fun _ hk1 id hid => ?_,fun hk0 id => ?_,fun _ => hold,?_⟩
  ·rw [hH'] at hb
   rcases zfo hp id b hb with h | h
   ·rw [hA] at h; exact .inl (hdom id h)
   ·exact .inr h
  ·rw [hk] at hk1
   rw [hH',ybn hk1 hp id hid,hA,hsame hk1]
  ·rw [hk] at hk0
   rw [hH',(zqe (H := A) hk0 hp).2.2,hA,hsame (by omega)]
  ·intro hlow w0 E w loc a o ho next Q hev hh he hfree hn
   subst ho
   have hev' : ∀ y ∈ o.op.operands.toList,R w loc (ev (toS τ.n τ.sl) y) (a.eval y) := fun y hy => by rw [zgw]; exact hev y hy
   rw [hk] at hh hn
   by_cases hk0 : zah T o.op = 0
   ·obtain ⟨p1,p2,p3⟩ := zqe (H := A) hk0 hp
    refine zcw hT (ztn P) he (H := []) (fun id b h => by simp [look] at h) hfree o hev' p1 next Q (fun v w' loc' hpost => ?_)
    obtain ⟨C,hE,hC⟩ := hpost.ext
    have hr := hpost.r
    rw [p2,hx] at hr
    exact hn v w' loc' hr ⟨C,hE,.of fun _ => hC (zll (H := []) (by omega) p1)⟩ hpost.fresh hpost.env (fun h => (h hk0).elim) hpost.bad
   ·refine zcw hT (ztn P) he (hHR w loc (hh hk0)) hfree o hev' hp next Q (fun v w' loc' hpost => ?_)
    obtain ⟨C,hE,hC⟩ := hpost.ext
    have hr := hpost.r
    rw [hx] at hr
    exact hn v w' loc' hr ⟨C,hE,.of fun h => hC (zll h hp)⟩ hpost.fresh hpost.env (fun _ => hpost.h.congr fun id => by rw [zar,hH']) hpost.bad
theorem ypx {P : Program} {T : zae} (hT : TOk P T) {q : Bool} {τ : CS} {op : Op} {x : AV} {H : Tr Blk} {nz : Nat} (hpl : ∀ c f,op = .call c → c.callee ≠ .value f) (h : zlf T τ op = some (x,H,nz)) : yol P T q τ op x H nz := by
 unfold zlf at h
 split at h
 ·rename_i y hc
  rw [zfd] at h
  injection h with h
  injection h with h3 h
  injection h with h4 h5
  subst h3 h4 h5
  have hk : zdg T q op = zah T op := zqm hpl
  refine ⟨by omega,fun id b hb => .inl (by rw [hb]; simp),fun _ _ id _ => rfl,fun _ id => rfl,fun _ _ _ => rfl,?_⟩
  intro hlow w0 E w loc a o ho next Q hev hh he hfree hn
  rw [hk] at hh
  obtain ⟨v,hr,hrun⟩ := sp_ok (P := P) hT hc hev hh
  unfold Oper.wp
  rw [hrun o ho]
  exact hn v w loc hr ⟨_,Ext.refl w loc,.of fun _ _ h => h⟩ (fun id h h' => (h' h).elim) he (fun hk' => hh (by rw [← hk]; exact hk')) rfl
 rename_i hno
 clear hno
 have hk : zdg T q op = zah T op := zqm hpl
 split at h
 ·rename_i id b htr
  obtain ⟨⟨blk,n,hb,rfl⟩,c,rfl,hcal⟩ := ygh htr
  split at h
  ·rename_i y us hc
   cases hi : ylp id us with
   | false => rw [hi] at h; cases h
   | true =>
    rw [hi,cond_true] at h
    obtain ⟨H1,h1,h2,hfl⟩ := ycq h
    rw [zfd] at h1
    injection h1 with h1
    injection h1 with h3 h1
    injection h1 with h4 h5
    subst h3 h4 h5
    have hne : ∀ k,k ≠ id → τ.H.get k = lkT τ.H.get id (ziz n blk) k := fun k hk => by unfold lkT; rw [if_neg hk]
    refine yna hT (A := put (toH τ.H) id (ziz n blk)) (fun k => ?_) (fun k hk2 => ?_) hk (fun w loc hHR k b hl => ?_) (fun h1 => ?_) hc (fun k => by rw [h2]; exact zyh hne hi k) hfl
    ·rw [zau,zar]; unfold lkT
     by_cases e : k = id
     ·subst e; simp
     ·rw [if_neg e,if_neg (fun e' => e e'.symm)]
    ·unfold lkT at hk2
     by_cases e : k = id
     ·subst e; rw [hb]; simp
     ·rw [if_neg e] at hk2; exact hk2
    ·rw [zau] at hl
     split at hl
     ·rename_i e
      subst e
      injection hl with hl
      subst hl
      exact yph (hHR id blk (by rw [zar]; exact hb))
     ·exact hHR k b hl
    ·exfalso
     obtain ⟨callee,args,ats⟩ := c
     simp only at hcal
     subst hcal
     simp [zah] at h1
  ·cases h
 ·split at h
  ·rename_i y us hc
   obtain ⟨H1,h1,h2,hfl⟩ := ycq h
   rw [zfd] at h1
   injection h1 with h1
   injection h1 with h3 h1
   injection h1 with h4 h5
   subst h3 h4 h5
   exact yna hT (zar τ.H) (fun _ h => h) hk (fun _ _ h => h) (fun _ _ => rfl) hc h2 hfl
  ·cases h
theorem ybb {P : Program} {w0 : World} {E : Nat → Prop} {w : World} {loc : Loc} {H : Heap} {T : zae} {SO : zak} (hS : FnsO P SO) (he : Env w0 E w loc) (hh : HR w loc H) {nm : Nat} (hfree : ∀ id,nm ≤ id → id < nm + 8 → loc.m id = .free) {sl : List AV} {a : Act} (o : Oper)
  (hev : ∀ x ∈ o.op.operands.toList,R w loc (ev sl x) (a.eval x)) (hp : (zdc SO T nm sl o.op H).p) : Sd P w0 E w loc true nm (zdc SO T nm sl o.op H) o a := by
 cases ho : o.op with
 | call c =>
  obtain ⟨callee,args,argTypes⟩ := c
  cases callee with
  | value f =>
   have hfv := hev f (by rw [ho]; simp [Op.operands,Call.operands])
   simp only [zdc,ho] at hp ⊢
   generalize ev sl f = xf at hfv hp ⊢
   split at hp
   ·rename_i g caps
    cases hv : a.eval f with
    | func fn first captured =>
     rw [hv] at hfv
     cases hfv with
     | fn _ _ cs hlc hc =>
      obtain ⟨e1,e2⟩ := zyt (w := w) (loc := loc) (sl := sl) (a := a) args.toList (fun x hx => hev x (by rw [ho]; simp [Op.operands,Call.operands]; right; simpa using hx))
      obtain ⟨c1,c2⟩ := zyw (T := T) (w := w) (loc := loc) argTypes.toList (evs sl args.toList)
      have c2 := c2 (args.toList.map a.eval) e2
      have c3 : ∀ (j : Nat) (h : j < (coes T argTypes.toList (evs sl args.toList) ++ caps).length) (h' : j < (args.toList.map a.eval ++ cs).length),R w loc (coes T argTypes.toList (evs sl args.toList) ++ caps)[j] (args.toList.map a.eval ++ cs)[j] := by
       intro j h h'
       have hl : (coes T argTypes.toList (evs sl args.toList)).length = (args.toList.map a.eval).length := by rw [c1,e1]; simp
       by_cases hj : j < (coes T argTypes.toList (evs sl args.toList)).length
       ·rw [List.getElem_append_left hj,List.getElem_append_left (by omega)]
        exact c2 j hj (by omega)
       ·rw [List.getElem_append_right (by omega),List.getElem_append_right (by omega)]
        have := hc (j - (coes T argTypes.toList (evs sl args.toList)).length) (by rw [List.length_append] at h; omega) (by rw [List.length_append] at h'; omega)
        simpa only [hl] using this
      cases hsg : SO g with
      | none => simp [aOpen,hsg,bad] at hp
      | some sp =>
       obtain ⟨⟨fn,hfn,hbody,hname⟩,hsound⟩ := hS g sp hsg
       have hcall := zui (P := P) he hh hfree (SO := SO) (fun f s h => (hS f s h).2) (f := g) (by rw [List.length_append,List.length_append,c1,e1,hlc]; simp) c3 hp
       have hrun : (execOp a.eval o).run P w = .ok (.enter g (args.toList.map a.eval ++ cs).toArray) w := by
        have h1 : fn.name ≠ "runtime.NumGoroutine" := by simpa using hname
        have hb' : fn.body ≠ none := by intro e; rw [e] at hbody; simp at hbody
        have h9 : Array.map a.eval args = (args.toList.map a.eval).toArray := by rw [← Array.toList_inj]; simp
        simp [execOp,ho,resolve,hv,Deferred.ofValue,invoke,callFunc,hfn,h1,hb',h9]
       intro next Q hn
       unfold Oper.wp
       rw [hrun]
       refine hcall.mono ?_
       rintro e w' ⟨v,loc',rfl,h1⟩
       exact hn v w' loc' h1
    | _ => rw [hv] at hfv; cases hfv
   ·exact hp.elim
  | _ => simp [zdc,ho,bad] at hp
 | _ => simp [zdc,ho,bad] at hp
theorem spec_ok {P : Program} {T : zae} (hT : TOk P T) {S : zak} {SB : zhw} (hS : Fns P S) (hSB : zhg P S SB) {q : Bool} {τ : CS} {f : Operand} {args : Array Operand} {argTypes : Array TypeId} {g : FuncId} {caps : List AV} (hf : evC τ.n τ.sl f = .fn g caps) {x : AV} {H : Tr Blk} {nz : Nat}
  (h : ykl T SB τ q ⟨.value f,args,argTypes⟩ g (coes T argTypes.toList (args.toList.map (evC τ.n τ.sl)) ++ caps) = some (x,H,nz)) : yol P T q τ (.call ⟨.value f,args,argTypes⟩) x H nz := by
 have em : evs (toS τ.n τ.sl) args.toList = args.toList.map (evC τ.n τ.sl) := by rw [zre]; exact List.map_congr_left fun x _ => zgw _ _ x
 generalize hA : coes T argTypes.toList (args.toList.map (evC τ.n τ.sl)) ++ caps = A at h
 unfold ykl at h
 split at h
 ·rename_i h0 hsb
  split at h
  ·rename_i y us hc
   cases hq : (!quietC T ⟨.value f,args,argTypes⟩ && !q) with
   | false => rw [hq] at h; cases h
   | true =>
    rw [hq,cond_true] at h
    obtain ⟨H1,h1,h2,hfl⟩ := ycq h
    rw [zfd] at h1
    injection h1 with h1
    injection h1 with h3 h1
    injection h1 with h4 h5
    subst h3 h4 h5
    simp only [Bool.and_eq_true,Bool.not_eq_true'] at hq
    obtain ⟨hq1,rfl⟩ := hq
    have hk : zdg T false (.call ⟨.value f,args,argTypes⟩) ≠ 0 := by simp [zdg]
    have hk1 : ¬ zdg T false (.call ⟨.value f,args,argTypes⟩) ≤ 1 := by simp [zdg]
    rcases hSB g h0 hsb with hS1 | ⟨SO,hSO,hS1⟩
    ·obtain ⟨hp0,hx,hH⟩ := hS1 A (toH τ.H) τ.H.get τ.nx (zar τ.H) _ _ hc
     have hop : aop S T τ.nx (toS τ.n τ.sl) (.call ⟨.value f,args,argTypes⟩) (toH τ.H) = (aUser S τ.nx g A (toH τ.H)).and (quietC T ⟨.value f,args,argTypes⟩ = true → rootsL A = [] ∧ lentIdsL A = []) := by
      simp only [aop,aCall,zgw,hf,em,hA]
     have hp : (aop S T τ.nx (toS τ.n τ.sl) (.call ⟨.value f,args,argTypes⟩) (toH τ.H)).p := by rw [hop]; exact ⟨(fun e => by rw [hq1] at e; cases e),hp0⟩
     have hx' : (aop S T τ.nx (toS τ.n τ.sl) (.call ⟨.value f,args,argTypes⟩) (toH τ.H)).x = y := by rw [hop]; exact hx
     have hH' : ∀ id,H1.get id = look (aop S T τ.nx (toS τ.n τ.sl) (.call ⟨.value f,args,argTypes⟩) (toH τ.H)).H id := fun id => by rw [h2,hop]; exact (hH id).symm
     refine ⟨by omega,fun id b hb => ?_,fun _ hk' => (hk1 hk').elim,fun hk' => (hk hk').elim,fun _ => hfl,?_⟩
     ·rw [hH'] at hb
      rcases zfo hp id b hb with h | h
      ·rw [zar] at h; exact .inl h
      ·exact .inr h
     ·intro hlow w0 E w loc a o ho next Q hev hh he hfree hn
      have hev' : ∀ y ∈ o.op.operands.toList,R w loc (ev (toS τ.n τ.sl) y) (a.eval y) := fun y hy => by rw [zgw]; exact hev y (by rw [← ho]; exact hy)
      have hs := zcw hT hS he (hh hk) hfree o hev' (by rw [ho]; exact hp)
      rw [ho] at hs
      refine hs next Q (fun v w' loc' hpost => ?_)
      obtain ⟨C,hE,hC⟩ := hpost.ext
      have hr := hpost.r
      rw [hx'] at hr
      exact hn v w' loc' hr ⟨C,hE,.of fun hk' => (hk1 hk').elim⟩ hpost.fresh hpost.env (fun _ => hpost.h.congr fun id => by rw [zar,hH']) hpost.bad
    ·obtain ⟨hp0,hx,hH⟩ := hS1 A (toH τ.H) τ.H.get τ.nx (zar τ.H) _ _ hc
     have hop : zdc SO T τ.nx (toS τ.n τ.sl) (.call ⟨.value f,args,argTypes⟩) (toH τ.H) = aOpen SO τ.nx g A (toH τ.H) := by
      simp only [zdc,zgw,hf,em,hA]
     have hp : (zdc SO T τ.nx (toS τ.n τ.sl) (.call ⟨.value f,args,argTypes⟩) (toH τ.H)).p := by rw [hop]; exact hp0
     have hx' : (zdc SO T τ.nx (toS τ.n τ.sl) (.call ⟨.value f,args,argTypes⟩) (toH τ.H)).x = y := by rw [hop]; exact hx
     have hH' : ∀ id,H1.get id = look (zdc SO T τ.nx (toS τ.n τ.sl) (.call ⟨.value f,args,argTypes⟩) (toH τ.H)).H id := fun id => by rw [h2,hop]; exact (hH id).symm
     refine ⟨by omega,fun id b hb => ?_,fun _ hk' => (hk1 hk').elim,fun hk' => (hk hk').elim,fun _ => hfl,?_⟩
     ·rw [hH'] at hb
      rcases zyc hp id b hb with h | h
      ·rw [zar] at h; exact .inl h
      ·exact .inr h
     ·intro hlow w0 E w loc a o ho next Q hev hh he hfree hn
      have hev' : ∀ y ∈ o.op.operands.toList,R w loc (ev (toS τ.n τ.sl) y) (a.eval y) := fun y hy => by rw [zgw]; exact hev y (by rw [← ho]; exact hy)
      have hs := ybb hSO he (hh hk) hfree o hev' (by rw [ho]; exact hp)
      rw [ho] at hs
      refine hs next Q (fun v w' loc' hpost => ?_)
      obtain ⟨C,hE,hC⟩ := hpost.ext
      have hr := hpost.r
      rw [hx'] at hr
      exact hn v w' loc' hr ⟨C,hE,.of fun hk' => (hk1 hk').elim⟩ hpost.fresh hpost.env (fun _ => hpost.h.congr fun id => by rw [zar,hH']) hpost.bad
  ·cases h
 ·cases h
theorem ro_ok {P : Program} {T : zae} {call : zdl} (hcall : zsf P call) {τ : CS} {f : Operand} {args : Array Operand} {argTypes : Array TypeId} {g : FuncId} {A : List AV}
  (hexec : zsd P g → ∀ (w : World) (loc : Loc) (a : Act) (o : Oper),o.op = .call ⟨.value f,args,argTypes⟩ → (∀ y ∈ (Op.call ⟨.value f,args,argTypes⟩).operands.toList,R w loc (evC τ.n τ.sl y) (a.eval y)) →
     ∃ cs : List Value,A.length = (args.toList.map a.eval ++ cs).length ∧ (∀ (j : Nat) (h : j < A.length) (h' : j < (args.toList.map a.eval ++ cs).length),R w loc A[j] (args.toList.map a.eval ++ cs)[j]) ∧
      (execOp a.eval o).run P w = .ok (.enter g (args.toList.map a.eval ++ cs).toArray) w)
  {x : AV} {H : Tr Blk} {nz : Nat} (h : roVal call τ g A = some (x,H,nz)) : yol P T true τ (.call ⟨.value f,args,argTypes⟩) x H nz := by
 unfold roVal at h
 obtain ⟨Hr,hgc,hsub⟩ := ztw (src := τ.H) 100000 (idsL A) .leaf (yjw call τ g A)
 rw [hgc] at h
 unfold yjw at h
 have hsub : ∀ id b,Hr.get id = some b → τ.H.get id = some b := fun id b hb => (hsub id b hb).resolve_left (fun h => by rw [zer] at h; cases h)
 cases hno : (allN τ.H Hr τ.nx (idsL A) && allT (fun b => allN τ.H Hr τ.nx b.ids) Hr) with
 | false => rw [hno] at h; cases h
 | true =>
  rw [hno,cond_true] at h
  simp only [Bool.and_eq_true] at hno
  split at h
  ·rename_i y H0 nz1 hc1
   rw [zlz] at h
   injection h with h
   injection h with h4 h
   injection h with h5 h6
   subst h4 h5 h6
   obtain ⟨h1,h2,hent,hol,h3⟩ := hcall _ _ _ _ _ _ _ _ hc1
   have hol := hol (Nat.le_refl _)
   have hk : zdg T true (.call ⟨.value f,args,argTypes⟩) = 1 := rfl
   refine ⟨h1,fun id b hb => ?_,fun hlow _ id hid => ?_,(fun hk0 => by rw [hk] at hk0; cases hk0),fun hfn id hid => ?_,?_⟩
   ·rw [zdh] at hb
    cases hg : H0.get id with
    | none => rw [hg] at hb; simp only at hb; exact .inl (by rw [hb]; simp)
    | some c =>
     rcases h2 id c hg with h | h
     ·cases hr : Hr.get id with
      | none => exact (h hr).elim
      | some c' => exact .inl (by rw [hsub id c' hr]; simp)
     ·exact .inr h
   ·rw [zdh]
    cases hg : H0.get id with
    | none => rfl
    | some c =>
     have hlt : id < τ.nx := by
      rcases h2 id c hg with h | h
      ·cases hr : Hr.get id with
       | none => exact (h hr).elim
       | some c' => exact hlow id c' (hsub id c' hr)
      ·exact (hid h).elim
     have := hol id hlt
     rw [hg] at this
     exact (hsub id c this.symm).symm
   ·rw [zdh]
    cases hg : H0.get id with
    | none => rfl
    | some c =>
     have := hol id (by omega)
     rw [hg] at this
     exact (hsub id c this.symm).symm
   ·intro hlow w0 E w loc a o ho next Q hev hh he hfree hn
    obtain ⟨cs,hlen,hR,hrun⟩ := hexec hent w loc a o ho hev
    unfold Oper.wp
    rw [hrun]
    have hold := hh (by rw [hk]; simp)
    let F : Nat → Prop := fun id => Hr.get id ≠ none ∨ (τ.H.get id = none ∧ id < τ.nx)
    have hlowr : LowC Hr τ.nx := fun id b hb => hlow id b (hsub id b hb)
    have hFlt : ∀ id,F id → id < τ.nx := by
     rintro id (h | h)
     ·cases hr : Hr.get id with
      | none => exact (h hr).elim
      | some c => exact hlowr id c hr
     ·exact h.2
    have hR' : ∀ (j : Nat) (h : j < A.length) (h' : j < (args.toList.map a.eval ++ cs).length),R w (loc.onlyP F) A[j] (args.toList.map a.eval ++ cs)[j] := fun j p q =>
     (hR j p q).onlyP fun id hid _ => zwi hno.1 id (zeq j p hid)
    have hHr : HR w (loc.onlyP F) (toH Hr) := fun id b hb => by
     rw [zar] at hb
     refine (hold id b (by rw [zar]; exact hsub id b hb)).onlyP fun k hkm _ => ?_
     exact zwi (zpm hno.2 id b hb) k (yei hkm)
    refine (h3 hlowr w (InP loc F) w (loc.onlyP F) _ hlen hR' hHr (Env.onlyP he) (fun id hi1 hi2 => zlg fun hF => by have := hFlt id hF; omega)).mono ?_
    rintro e w' ⟨v,loc',rfl,hp⟩
    obtain ⟨p1,p2,p3,⟨C,p4,p5⟩,p6,p7⟩ := PostW.frame he hfree (fun id b hb => by
     rw [zar] at hb
     rcases h2 id b hb with h | h
     ·exact .inl (.inl h)
     ·exact .inr h) hp
    have hrec : ∀ id b,Hr.get id = some b → BlkR w' (loc.backP loc' F τ.nx nz1) id b := fun id b hb => p2 id b (by rw [zar,hol id (hlowr id b hb)]; exact hb)
    refine hn v w' _ p1 ⟨C,p4,⟨(fun h => by rw [hk] at h; cases h),fun _ id hc => ⟨hFlt id (p5 id hc),fun b hb => ?_⟩⟩⟩ p6 p3 (fun _ => ?_) p7
    ·rw [zar] at hb
     rcases p5 id hc with h | h
     ·cases hr : Hr.get id with
      | none => exact (h hr).elim
      | some c =>
       have := hsub id c hr
       rw [hb] at this; injection this with this; subst this
       exact hrec id b hr
     ·rw [h.1] at hb; cases hb
    ·intro id b hb
     rw [zar,zdh] at hb
     cases hg : H0.get id with
     | some c =>
      rw [hg] at hb
      injection hb with hb
      subst hb
      exact p2 id c (by rw [zar]; exact hg)
     | none =>
      rw [hg] at hb
      simp only at hb
      have hlt := hlow id b hb
      have hrn : Hr.get id = none := by rw [← hol id hlt]; exact hg
      have h0 := hold id b (by rw [zar]; exact hb)
      have hnC : ¬ C id := fun hc => by
       rcases p5 id hc with h | h
       ·exact h hrn
       ·rw [h.1] at hb; cases hb
      by_cases hf : loc.m id = .free
      ·by_cases hn' : (loc.backP loc' F τ.nx nz1).m id = .free
       ·exact BlkR.free hn'
       ·have h6 := p6 id hf hn'
        omega
      ·exact h0.ext p4 hnC hf
  ·cases h
theorem val_ok {P : Program} {T : zae} (hT : TOk P T) {S : zak} {SB : zhw} (hS : Fns P S) (hSB : zhg P S SB) {call : zdl} (hcall : zsf P call) {q : Bool} {τ : CS} {op : Op} {x : AV} {H : Tr Blk} {nz : Nat} (h : zxg T SB call τ q op = some (x,H,nz)) : yol P T q τ op x H nz := by
 by_cases hpl : ∀ c f,op = .call c → c.callee ≠ .value f
 ·refine ypx hT hpl ?_
  cases op with
  | call c =>
   simp only [zxg] at h
   cases hc : c.callee with
   | value f => exact (hpl c f rfl hc).elim
   | _ => simp only [hc] at h; exact h
  | _ => exact h
 ·obtain ⟨c,f,rfl,hc⟩ : ∃ c f,op = .call c ∧ c.callee = .value f := by
   rcases Classical.not_forall.1 hpl with ⟨c,h1⟩
   rcases Classical.not_forall.1 h1 with ⟨f,h2⟩
   refine ⟨c,f,?_,?_⟩
   ·exact Classical.byContradiction fun e => h2 fun e' => (e e').elim
   ·exact Classical.byContradiction fun e => h2 fun _ => e
  obtain ⟨callee,args,argTypes⟩ := c
  simp only at hc
  subst hc
  simp only [zxg] at h
  cases hf : evC τ.n τ.sl f with
  | fn g caps =>
   rw [hf] at h
   simp only at h
   split at h
   ·rename_i r hr
    injection h with h; subst h
    exact spec_ok hT hS hSB hf hr
   rename_i hno
   clear hno
   generalize hA : coes T argTypes.toList (args.toList.map (evC τ.n τ.sl)) ++ caps = A at h
   -- the call itself
   have hexec : zsd P g → ∀ (w : World) (loc : Loc) (a : Act) (o : Oper),o.op = .call ⟨.value f,args,argTypes⟩ → (∀ y ∈ (Op.call ⟨.value f,args,argTypes⟩).operands.toList,R w loc (evC τ.n τ.sl y) (a.eval y)) →
     ∃ cs : List Value,A.length = (args.toList.map a.eval ++ cs).length ∧ (∀ (j : Nat) (h : j < A.length) (h' : j < (args.toList.map a.eval ++ cs).length),R w loc A[j] (args.toList.map a.eval ++ cs)[j]) ∧
      (execOp a.eval o).run P w = .ok (.enter g (args.toList.map a.eval ++ cs).toArray) w := by
    intro ⟨fn,hfn,hbody,hname⟩ w loc a o ho hev
    have hfv := hev f (by simp [Op.operands,Call.operands])
    rw [hf] at hfv
    have hargs : ∀ x ∈ args.toList,R w loc (evC τ.n τ.sl x) (a.eval x) := fun x hx => hev x (by simp [Op.operands,Call.operands]; right; simpa using hx)
    cases hv : a.eval f with
    | func fn' first captured =>
     rw [hv] at hfv
     cases hfv with
     | fn _ _ cs hlc hcR =>
      obtain ⟨e1,e2⟩ := zyt (sl := toS τ.n τ.sl) args.toList (fun x hx => by rw [zgw]; exact hargs x hx)
      have em : evs (toS τ.n τ.sl) args.toList = args.toList.map (evC τ.n τ.sl) := by rw [zre]; exact List.map_congr_left fun x _ => zgw _ _ x
      rw [em] at e1 e2
      obtain ⟨c1,c2⟩ := zyw (T := T) (w := w) (loc := loc) argTypes.toList (args.toList.map (evC τ.n τ.sl))
      have c2 := c2 (args.toList.map a.eval) e2
      refine ⟨cs,by rw [← hA]; simp [c1,hlc],?_,?_⟩
      ·subst hA
       intro j p q
       by_cases hj : j < (coes T argTypes.toList (args.toList.map (evC τ.n τ.sl))).length
       ·rw [List.getElem_append_left hj,List.getElem_append_left (by rw [c1] at hj; simpa using hj)]
        exact c2 j hj _
       ·have hl : (coes T argTypes.toList (args.toList.map (evC τ.n τ.sl))).length = (args.toList.map a.eval).length := by simp [c1]
        rw [List.getElem_append_right (by omega),List.getElem_append_right (by omega)]
        have := hcR (j - (coes T argTypes.toList (args.toList.map (evC τ.n τ.sl))).length) (by rw [List.length_append] at p; omega) (by rw [List.length_append] at q; omega)
        simpa [hl] using this
      ·have h1 : fn.name ≠ "runtime.NumGoroutine" := by simpa using hname
       have hb' : fn.body ≠ none := by intro e; rw [e] at hbody; simp at hbody
       simp [execOp,ho,resolve,hv,Deferred.ofValue,invoke,callFunc,hfn,h1,hb']
    | _ => rw [hv] at hfv; cases hfv
   cases q with
   | false =>
    simp only [cond_false] at h
    obtain ⟨h1,h2,hent,hol,h3⟩ := hcall _ _ _ _ _ _ _ _ h
    have hk : zdg T false (.call ⟨.value f,args,argTypes⟩) = 2 := rfl
    refine ⟨h1,h2,(fun _ hk1 => by rw [hk] at hk1; omega),(fun hk0 => by rw [hk] at hk0; cases hk0),hol,?_⟩
    intro hlow w0 E w loc a o ho next Q hev hh he hfree hn
    obtain ⟨cs,hlen,hR,hrun⟩ := hexec hent w loc a o ho hev
    unfold Oper.wp
    rw [hrun]
    refine (h3 hlow w0 E w loc _ hlen hR (hh (by rw [hk]; simp)) he hfree).mono ?_
    rintro e w' ⟨v,loc',rfl,hp⟩
    obtain ⟨C,hC⟩ := hp.tn.ext
    exact hn v w' loc' hp.r ⟨C,hC,.of fun hk1 => by rw [hk] at hk1; omega⟩ hp.tn.fresh hp.env (fun _ => hp.h) hp.tn.bad
   | true =>
    simp only [cond_true] at h
    cases hi : closedL (A.map (frqV τ.H)) with
    | false =>
     rw [hi,cond_false] at h
     exact ro_ok hcall hexec h
    | true =>
     rw [hi,cond_true] at h
     split at h
     ·rename_i y H0 nz1 hc1
      obtain ⟨H1,hgc,hsub⟩ := ztw (src := H0) 100000 y.ids .leaf (fun H => bif y.noimm && allT Blk.noimm H then (τ.H.unionK H fun H => some (y,H,nz1)) else none)
      rw [hgc] at h
      have hsub : ∀ id b,H1.get id = some b → H0.get id = some b := fun id b hb => (hsub id b hb).resolve_left (fun h => by rw [zer] at h; cases h)
      cases hno : (y.noimm && allT Blk.noimm H1) with
      | false => rw [hno] at h; cases h
      | true =>
       rw [hno,cond_true,zlz] at h
       injection h with h
       injection h with h4 h
       injection h with h5 h6
       subst h4 h5 h6
       simp only [Bool.and_eq_true] at hno
       obtain ⟨h1,h2,hent,_,h3⟩ := hcall _ _ _ _ _ _ _ _ hc1
       have hwin : ∀ id b,H1.get id = some b → τ.nx ≤ id ∧ id < nz1 := fun id b hb => by
        rcases h2 id b (hsub id b hb) with h | h
        ·exact (h rfl).elim
        ·exact h
       have hk : zdg T true (.call ⟨.value f,args,argTypes⟩) = 1 := rfl
       refine ⟨h1,fun id b hb => ?_,fun _ _ id hid => ?_,(fun hk0 => by rw [hk] at hk0; cases hk0),fun hfn id hid => ?_,?_⟩
       ·rw [zdh] at hb
        cases hg : H1.get id with
        | none => rw [hg] at hb; simp only at hb; exact .inl (by rw [hb]; simp)
        | some c => exact .inr (hwin id c hg)
       ·rw [zdh]
        cases hg : H1.get id with
        | none => rfl
        | some c => exact (hid (hwin id c hg)).elim
       ·rw [zdh]
        cases hg : H1.get id with
        | none => rfl
        | some c => have := hwin id c hg; omega
       ·intro hlow w0 E w loc a o ho next Q hev hh he hfree hn
        obtain ⟨cs,hlen,hR,hrun⟩ := hexec hent w loc a o ho hev
        unfold Oper.wp
        rw [hrun]
        have hold := hh (by rw [hk]; simp)
        have hR' : ∀ (j : Nat) (h : j < (A.map (frqV τ.H)).length) (h' : j < (args.toList.map a.eval ++ cs).length),R w loc.bare (A.map (frqV τ.H))[j] (args.toList.map a.eval ++ cs)[j] := fun j p q => by
         have hj : j < A.length := by simpa using p
         have hcl := zbw hi j p
         rw [List.getElem_map] at hcl ⊢
         exact frqV_ok he hold (hR j hj q) hcl
        refine (h3 (fun id b hb => by rw [zer] at hb; cases hb) w (fun _ => False) w loc.bare _ (by rw [List.length_map]; exact hlen) hR' (fun id b hb => by rw [zar,zer] at hb; cases hb) (yqz he) (fun id _ _ => rfl)).mono ?_
        rintro e w' ⟨v,loc',rfl,hp⟩
        have hp : PostW w (fun _ => False) w loc.bare τ.nx nz1 y (toH H1) v w' loc' := ⟨hp.r,fun id b hb => hp.h id b (by rw [zar] at hb ⊢; exact hsub id b hb),hp.env,hp.tn⟩
        obtain ⟨p1,p2,p3,p4,p6,p7⟩ := ygw he hfree hno.1 hno.2 hwin hp
        refine hn v w' _ p1 ⟨_,p4,.of fun _ id hc => hc⟩ p6 p3 (fun _ => ?_) p7
        intro id b hb
        rw [zar,zdh] at hb
        cases hg : H1.get id with
        | none =>
         rw [hg] at hb
         simp only at hb
         have h0 := hold id b (by rw [zar]; exact hb)
         by_cases hf : loc.m id = .free
         ·by_cases hn' : (loc.with loc' τ.nx nz1).m id = .free
          ·exact BlkR.free hn'
          ·have h6 := p6 id hf hn'
           have := hlow id b hb
           omega
         ·exact h0.ext p4 (fun hc => hc) hf
        | some c =>
         rw [hg] at hb
         injection hb with hb
         subst hb
         exact p2 id c (by rw [zar]; exact hg)
     ·cases h
  | _ => rw [hf] at h; cases h
structure StepOk (P : Program) (T : zae) (ops : List Oper) (q : Bool) (τ : CS) (o : Oper) (x : AV) (τ' : CS) : Prop where
 n : τ'.n = τ.n
 mono : τ.nx ≤ τ'.nx
 slot : ∀ t,slot (toS τ'.n τ'.sl) t = if o.dst = some t ∧ t < τ.n then x else slot (toS τ.n τ.sl) t
 new : ∀ id b,τ'.H.get id = some b → τ.H.get id ≠ none ∨ (τ.nx ≤ id ∧ id < τ'.nx)
 keep : LowC τ.H τ.nx → zdg T q o.op ≤ 1 → ∀ id,¬ (τ.nx ≤ id ∧ id < τ'.nx) → τ'.H.get id = τ.H.get id
 same : zdg T q o.op = 0 → ∀ id,τ'.H.get id = τ.H.get id
 fl : τ'.fl = τ.fl
 old : τ.fl ≤ τ.nx → ∀ id,id < τ.fl → τ'.H.get id = τ.H.get id
 sem : LowC τ.H τ.nx → ∀ (w0 : World) (E : Nat → Prop) (w : World) (loc : Loc) (a : Act) (next : Act → World → Prop) (Q : Exit → Act → World → Prop),a.tmps.size = τ.n →
  (∀ t ∈ o.looksAt ops.toArray,R w loc (Ax.slot (toS τ.n τ.sl) t) (a.tmps.getD t undef)) → (zdg T q o.op ≠ 0 → HR w loc (toH τ.H)) → Env w0 E w loc → (∀ id,τ.nx ≤ id → id < τ'.nx → loc.m id = .free) →
  (∀ v w' loc',R w' loc' x v → (∃ C : Nat → Prop,Ext C w loc w' loc' ∧ Calm (zdg T q o.op) C τ.nx (look (toH τ.H)) w' loc') → (∀ id,loc.m id = .free → loc'.m id ≠ .free → τ.nx ≤ id ∧ id < τ'.nx) → Env w0 E w' loc' →
   (zdg T q o.op ≠ 0 → HR w' loc' (toH τ'.H)) → loc'.bad = loc.bad → next (a.put o.dst v) w') →
  if Region.wanted o (yielded ops.toArray a.tmps) then o.wp P a w next Q else next (a.put o.dst undef) w
theorem yam {P : Program} {T : zae} (hT : TOk P T) {S : zak} {SB : zhw} (hS : Fns P S) (hSB : zhg P S SB) {call : zdl} (hcall : zsf P call) {ops : List Oper} {q : Bool} {τ : CS} {o : Oper} {τ' : CS} (h : znl T SB call ops q τ o = some τ') : ∃ x,StepOk P T ops q τ o x τ' := by
 -- the operation is wanted
 have hrun : ∀ (τ' : CS),ygz T SB call τ q o = some τ' → (∀ (a : Act) (w : World) (loc : Loc),a.tmps.size = τ.n → (∀ t ∈ o.looksAt ops.toArray,R w loc (Ax.slot (toS τ.n τ.sl) t) (a.tmps.getD t undef)) → Region.wanted o (yielded ops.toArray a.tmps) = true) → ∃ x,StepOk P T ops q τ o x τ' := by
  intro τ' h hw
  unfold ygz at h
  split at h
  ·rename_i x H nz hv
   rw [zmu] at h
   obtain ⟨sl',h1,h2⟩ := ykd h
   injection h1 with h1
   subst h1
   have hok := val_ok hT hS hSB hcall hv
   refine ⟨x,rfl,hok.mono,h2,hok.new,hok.keep,hok.same,rfl,hok.old,?_⟩
   intro hlow w0 E w loc a next Q hsz hlook hh he hfree hn
   rw [if_pos (hw a w loc hsz hlook)]
   refine hok.sem hlow w0 E w loc a o rfl next Q (fun y hy => ?_) hh he hfree hn
   rw [← zgw]
   cases y with
   | tmp t => exact hlook t (by unfold Oper.looksAt; exact List.mem_append_left _ (List.mem_filterMap.2 ⟨.tmp t,hy,rfl⟩))
   | const v => exact ev_R (sl := []) (a := a) (fun t => .junk _) (.const v)
   | global g => exact .junk _
   | func f => exact ev_R (sl := []) (a := a) (fun t => .junk _) (.func f)
  ·cases h
 -- it is not
 have hskip : ∀ (τ' : CS),ztl τ o = some τ' → (∀ (a : Act) (w : World) (loc : Loc),a.tmps.size = τ.n → (∀ t ∈ o.looksAt ops.toArray,R w loc (Ax.slot (toS τ.n τ.sl) t) (a.tmps.getD t undef)) → ¬ Region.wanted o (yielded ops.toArray a.tmps) = true) → ∃ x,StepOk P T ops q τ o x τ' := by
  intro τ' h hw
  unfold ztl at h
  obtain ⟨sl',h1,h2⟩ := ykd h
  injection h1 with h1
  subst h1
  refine ⟨.tup [],rfl,Nat.le_refl _,h2,fun id b hb => .inl (by simp only at hb; rw [hb]; simp),fun _ _ _ _ => rfl,fun _ _ => rfl,rfl,fun _ _ _ => rfl,?_⟩
  intro hlow w0 E w loc a next Q hsz hlook hh he hfree hn
  rw [if_neg (hw a w loc hsz hlook)]
  exact hn undef w loc zhy ⟨_,Ext.refl w loc,.of fun _ _ h => h⟩ (fun id h h' => (h' h).elim) he hh rfl
 unfold znl at h
 cases hgd : o.guard with
 | none =>
  rw [hgd] at h
  exact hrun τ' h fun a w loc _ _ => by simp [Region.wanted,hgd]
 | some g =>
  obtain ⟨j,want⟩ := g
  rw [hgd] at h
  simp only at h
  cases hgs : guardSlot ops j with
  | none => rw [hgs] at h; cases h
  | some d =>
   rw [hgs] at h
   simp only at h
   have hdl : d ∈ o.looksAt ops.toArray := by
    unfold Oper.looksAt
    refine List.mem_append_right _ ?_
    rw [hgd]
    unfold guardSlot at hgs
    cases hj : ops[j]? with
    | none => rw [hj] at hgs; cases hgs
    | some oj =>
     rw [hj] at hgs
     simp only at hgs
     simp [hj,hgs]
   have hsl : evC τ.n τ.sl (.tmp d) = Ax.slot (toS τ.n τ.sl) d := (zgw τ.n τ.sl (.tmp d)).symm
   split at h
   ·rename_i b hsd
    rw [hsl] at hsd
    have hlt : d < τ.n := by
     rcases Nat.lt_or_ge d τ.n with h' | h'
     ·exact h'
     ·rw [zec (by rw [zcl]; exact h')] at hsd; cases hsd
    have hy : ∀ (a : Act) (w : World) (loc : Loc),a.tmps.size = τ.n → (∀ t ∈ o.looksAt ops.toArray,R w loc (Ax.slot (toS τ.n τ.sl) t) (a.tmps.getD t undef)) → (Region.wanted o (yielded ops.toArray a.tmps) = true ↔ b = want) := by
     intro a w loc hsz hlook
     have hval := hlook d hdl
     rw [hsd] at hval
     have hy := zhh (ops := ops.toArray) (by simpa using hgs) (by rw [hsz]; exact hlt) hval.wv
     simp [Region.wanted,hgd,hy]
    by_cases hbw : b = want
    ·have : (b == want) = true := by simp [hbw]
     rw [this] at h
     exact hrun τ' h fun a w loc h1 h2 => (hy a w loc h1 h2).2 hbw
    ·have : (b == want) = false := by simp [hbw]
     rw [this] at h
     exact hskip τ' h fun a w loc h1 h2 hw => hbw ((hy a w loc h1 h2).1 hw)
   ·rename_i hsd
    rw [hsl] at hsd
    exact hskip τ' h fun a w loc h1 h2 hw => by
     have hval := h2 d hdl
     rw [hsd] at hval
     simp [Region.wanted,hgd,zeu (ops := ops.toArray) (by simpa using hgs) (yit hval)] at hw
   ·cases h
abbrev RelT (Z : Nat) (w0 : World) (E : Nat → Prop) (loc : Loc) (τ : CS) (a : Act) (w : World) : Prop := RelL Z w0 E loc (toS τ.n τ.sl) (toH τ.H) τ.nx a w
structure PureOk (τ τ' : CS) : Prop where
 n : τ'.n = τ.n
 mono : τ.nx ≤ τ'.nx
 new : ∀ id b,τ'.H.get id = some b → τ.H.get id ≠ none ∨ (τ.nx ≤ id ∧ id < τ'.nx)
 fl : τ'.fl = τ.fl
 old : τ.fl ≤ τ.nx → ∀ id,id < τ.fl → τ'.H.get id = τ.H.get id
theorem PureOk.refl (τ : CS) : PureOk τ τ := ⟨rfl,Nat.le_refl _,fun id b h => .inl (by rw [h]; simp),rfl,fun _ _ _ => rfl⟩
theorem PureOk.trans {a b c : CS} (h : PureOk a b) (k : PureOk b c) : PureOk a c := by
 refine ⟨k.n.trans h.n,Nat.le_trans h.mono k.mono,fun id x hx => ?_,k.fl.trans h.fl,fun hf id hi => ?_⟩
 rotate_left
 ·have h1 := h.mono
  have h2 := h.fl
  rw [k.old (by omega) id (by omega),h.old hf id hi]
 have h1 := h.mono
 have h2 := k.mono
 rcases k.new id x hx with h' | h'
 ·cases hb : b.H.get id with
  | none => exact (h' hb).elim
  | some y =>
   rcases h.new id y hb with h3 | h3
   ·exact .inl h3
   ·exact .inr ⟨h3.1,by omega⟩
 ·exact .inr ⟨by omega,h'.2⟩
theorem PureOk.low {τ τ' : CS} (h : PureOk τ τ') (hl : LowC τ.H τ.nx) : LowC τ'.H τ'.nx := by
 intro id b hb
 have h1 := h.mono
 rcases h.new id b hb with h' | h'
 ·cases hc : τ.H.get id with
  | none => exact (h' hc).elim
  | some y => have := hl id y hc; omega
 ·exact h'.2
theorem StepOk.pureOk {P : Program} {T : zae} {ops : List Oper} {q : Bool} {τ : CS} {o : Oper} {x : AV} {τ' : CS} (h : StepOk P T ops q τ o x τ') : PureOk τ τ' := ⟨h.n,h.mono,h.new,h.fl,h.old⟩
section
variable {P : Program} {T : zae} (hT : TOk P T) {S : zak} {SB : zhw} (hS : Fns P S) (hSB : zhg P S SB) {call : zdl} (hcall : zsf P call) {ops : List Oper} {q : Nat → Bool}
include hT hS hSB hcall
theorem zlc : ∀ (r : List Oper) (k : Nat) (τ τ' : CS),zgs T SB call ops q k r τ = some τ' → PureOk τ τ'
 | [],k,τ,τ',h => by injection h with h; subst h; exact .refl _
 | o :: r,k,τ,τ',h => by
  unfold zgs at h
  split at h
  ·rename_i τ1 h1
   obtain ⟨x,hs⟩ := yam hT hS hSB hcall h1
   exact hs.pureOk.trans (zlc r (k + 1) τ1 τ' h)
  ·cases h
theorem ztf {Z : Nat} {w0 : World} {E : Nat → Prop} {K : Exit → Act → World → Prop} : ∀ (r : List Oper) (k : Nat) (τ τ' : CS) (a : Act) (w : World) (loc : Loc),zgs T SB call ops q k r τ = some τ' → LowC τ.H τ.nx → τ'.nx ≤ Z → RelT Z w0 E loc τ a w →
  (∀ a' w' loc',RelT Z w0 E loc' τ' a' w' → Tn w loc τ.nx τ'.nx w' loc' → K .normal a' w') → wpList P ops.toArray K r a w
 | [],k,τ,τ',a,w,loc,h,hl,hz,hr,hK => by
  injection h with h; subst h
  exact wpList_nil (hK a w loc hr (Tn.refl _ _ _ _))
 | o :: r,k,τ,τ',a,w,loc,h,hl,hz,hr,hK => by
  unfold zgs at h
  split at h
  ·rename_i τ1 h1
   obtain ⟨x,hs⟩ := yam hT hS hSB hcall h1
   have hp1 := hs.pureOk
   have hp2 := zlc hT hS hSB hcall r (k + 1) τ1 τ' h
   refine wpList_step fun Kn hKn => ?_
   refine hs.sem hl w0 E w loc a Kn K (by rw [hr.size,zcl]) (fun t _ => hr.slots t) (fun _ => hr.heap) hr.env (fun id h1 h2 => hr.fresh id h1 (by have := hp2.mono; omega)) ?_
   rintro v w' loc' hrx ⟨C,hE,hC⟩ hfr he hh hb
   have htn : Tn w loc τ.nx τ1.nx w' loc' := ⟨⟨C,hE⟩,hfr,hb⟩
   refine hKn _ _ (ztf r (k + 1) τ1 τ' _ w' loc' h (hp1.low hl) hz ?_ fun a2 w2 loc2 h2 h3 => hK a2 w2 loc2 h2 (htn.trans h3 hp1.mono hp2.mono))
   refine ⟨?_,fun t => ?_,?_,he,fun id h1 h2 => ?_,?_⟩
   ·rw [zcl,hp1.n]
    cases o.dst <;> simp [Act.put,hr.size,zcl]
   ·rw [hs.slot t]
    by_cases hd : o.dst = some t ∧ t < τ.n
    ·rw [if_pos hd,hd.1]
     have : (a.put (some t) v).tmps.getD t undef = v := by
      have := hr.size
      rw [zcl] at this
      simp [Act.put,this,hd.2]
     rw [this]; exact hrx
    ·rw [if_neg hd]
     have hold := (hr.slots t).ext hE
     cases hdd : o.dst with
     | none => exact hold
     | some d =>
      by_cases hdt : d = t
      ·subst hdt
       have hge : τ.n ≤ d := Nat.le_of_not_lt fun h => hd ⟨hdd,h⟩
       rw [zec (by rw [zcl]; exact hge)]
       exact .junk _
      ·have : (a.put (some d) v).tmps.getD t undef = a.tmps.getD t undef := by simp [Act.put,Array.getElem?_setIfInBounds_ne hdt]
       rw [this]; exact hold
   ·by_cases hk : zdg T (q k) o.op = 0
    ·intro id b hb
     rw [zar,hs.same hk id] at hb
     have h0 := hr.heap id b (by rw [zar]; exact hb)
     by_cases hf : loc.m id = .free
     ·by_cases hn : loc'.m id = .free
      ·exact BlkR.free hn
      ·have := hfr id hf hn
       have := hl id b hb
       omega
     ·exact h0.ext hE (hC.zero hk id) hf
    ·exact hh hk
   ·have hf := hr.fresh id (by have := hp1.mono; omega) h2
    by_cases hn : loc'.m id = .free
    ·exact hn
    ·have := hfr id hf hn; omega
   ·rw [← hr.defers]; cases o.dst <;> rfl
  ·cases h
end
def zsm (f : Nat → CS → Oper → Option CS) (l : List Oper) (τ : CS) : Nat → CS
 | 0 => τ
 | k + 1 => match l[k]? with
  | some o => (f k (zsm f l τ k) o).getD (zsm f l τ k)
  | none => zsm f l τ k
theorem zpx {T : zae} {SB : zhw} {call : zdl} {ops l : List Oper} {q : Nat → Bool} {τ0 : CS} : ∀ (r : List Oper) (k : Nat) (τ' : CS),(∀ j,r[j]? = l[k + j]?) → k + r.length = l.length → zgs T SB call ops q k r (zsm (fun i => znl T SB call ops (q i)) l τ0 k) = some τ' →
  zsm (fun i => znl T SB call ops (q i)) l τ0 l.length = τ' ∧ ∀ j o,k ≤ j → l[j]? = some o → znl T SB call ops (q j) (zsm (fun i => znl T SB call ops (q i)) l τ0 j) o = some (zsm (fun i => znl T SB call ops (q i)) l τ0 (j + 1))
 | [],k,τ',hr,hl,h => by
  simp at hl
  subst hl
  injection h with h
  refine ⟨h,fun j o hj ho => ?_⟩
  rw [List.getElem?_eq_none hj] at ho; cases ho
 | o :: r,k,τ',hr,hl,h => by
  have ho : l[k]? = some o := by simpa using (hr 0).symm
  have hr' : ∀ j,r[j]? = l[k + 1 + j]? := fun j => by have := hr (j + 1); simpa [Nat.add_assoc,Nat.add_comm 1 j] using this
  have hl' : k + 1 + r.length = l.length := by simp at hl; omega
  unfold zgs at h
  split at h
  ·rename_i τ1 h1
   have e : zsm (fun i => znl T SB call ops (q i)) l τ0 (k + 1) = τ1 := by simp only [zsm,ho,h1,Option.getD_some]
   rw [← e] at h
   obtain ⟨h2,h3⟩ := zpx r (k + 1) τ' hr' hl' h
   refine ⟨h2,fun j o' hj ho' => ?_⟩
   rcases Nat.lt_or_ge k j with h' | h'
   ·exact h3 j o' h' ho'
   ·obtain rfl : j = k := by omega
    rw [ho] at ho'; injection ho' with ho'; subst ho'
    rw [h1,e]
  ·cases h
theorem yaw {P : Program} {T : zae} (hm : P.follows .mixedOrders = true) (hT : TOk P T) {S : zak} {SB : zhw} (hS : Fns P S) (hSB : zhg P S SB) {call : zdl} (hcall : zsf P call) {q : Nat → Bool} {l : List Oper} (hd : zjp (fun i => zdg T (q i)) l = true) {Z : Nat} {w0 : World} {E : Nat → Prop} {τ τ' : CS} {a : Act} {w : World} {loc : Loc} {id : Nat}
  (h : zgs T SB call l q 0 l τ = some τ') (hl : LowC τ.H τ.nx) (hz : τ'.nx ≤ Z) (hr : RelT Z w0 E loc τ a w) :
  (Code.region id l.toArray true).wp P (fun e a' w' => e = .normal ∧ ∃ loc',RelT Z w0 E loc' τ' a' w' ∧ Tn w loc τ.nx τ'.nx w' loc') a w := by
 obtain ⟨hend,hst⟩ := zpx (T := T) (SB := SB) (call := call) (ops := l) (q := q) (τ0 := τ) l 0 τ' (fun j => by rw [Nat.zero_add]) (Nat.zero_add _) h
 generalize hc : zsm (fun i => znl T SB call l (q i)) l τ = c at hend hst
 have h0 : c 0 = τ := by rw [← hc]; rfl
 have hst : ∀ j o,l[j]? = some o → znl T SB call l (q j) (c j) o = some (c (j + 1)) := fun j o ho => hst j o (Nat.zero_le _) ho
 have hsteps : ∀ j : Nat,∃ x,∀ o,l[j]? = some o → StepOk P T l (q j) (c j) o x (c (j + 1)) := by
  intro j
  cases hj : l[j]? with
  | none => exact ⟨.junk,fun o ho => by cases ho⟩
  | some o =>
   obtain ⟨x,hx⟩ := yam hT hS hSB hcall (hst j o hj)
   exact ⟨x,fun o' ho' => by injection ho' with ho'; subst ho'; exact hx⟩
 obtain ⟨val,hval⟩ : ∃ val : Nat → AV,∀ j o,l[j]? = some o → StepOk P T l (q j) (c j) o (val j) (c (j + 1)) := ⟨fun j => Classical.choose (hsteps j),fun j o ho => Classical.choose_spec (hsteps j) o ho⟩
 have hpure : ∀ j,j ≤ l.length → PureOk τ (c j) := by
  intro j
  induction j with
  | zero => intro _; rw [h0]; exact .refl _
  | succ j ih => intro hj; exact (ih (by omega)).trans (hval j _ (zgg (by omega))).pureOk
 have hn : ∀ j,j ≤ l.length → (c j).n = τ.n := fun j hj => (hpure j hj).n
 have ht : Text1 P l (fun j => (c j).nx) (fun j => (toS (c j).n (c j).sl,toH (c j).H)) val (fun i => match l[i]? with | some o => zdg T (q i) o.op | none => 0) := by
  refine ⟨fun i hi => (hval i _ (zgg hi)).mono,fun i hi => by simp only [zcl]; rw [hn i hi,hn 0 (Nat.zero_le _)],fun i o ho t => ?_,fun i o ho id b hb => ?_,fun i o ho hk id hid => ?_,fun i o ho hk id => ?_,fun i => ?_,fun id b hb => ?_,fun i o ho => ?_⟩
  ·have := (hval i o ho).slot t
   rw [hn i (Nat.le_of_lt (zcd ho))] at this
   simp only [zcl]
   rw [hn 0 (Nat.zero_le _)]
   rw [this]
   split
   ·rfl
   ·rw [hn i (Nat.le_of_lt (zcd ho))]
  ·simp only [zar] at hb ⊢
   exact (hval i o ho).new id b hb
  ·simp only [ho] at hk
   simp only [zar]
   exact (hval i o ho).keep ((hpure i (Nat.le_of_lt (zcd ho))).low hl) hk id hid
  ·simp only [ho] at hk
   simp only [zar]
   exact (hval i o ho).same hk id
  ·cases hi : l[i]? with
   | none => simp
   | some o =>
    simp only
    unfold zdg
    split
    ·split
     ·cases q i <;> simp
     ·exact zgf T _
    ·exact zgf T _
  ·simp only [zar] at hb
   rw [h0] at hb ⊢
   exact hl id b hb
  ·intro w0 E w loc a next Q hsz hlook hh he hfree hcb
   simp only [ho] at hh hcb
   have hs := hval i o ho
   have hlow := (hpure i (Nat.le_of_lt (zcd ho))).low hl
   unfold wpOp
   have : l.toArray[i]? = some o := by simpa using ho
   rw [this]
   simp only
   have hsz' : a.tmps.size = (c i).n := by
    rw [hn i (Nat.le_of_lt (zcd ho)),hsz]; simp only [zcl]; rw [hn 0 (Nat.zero_le _)]
   have := hs.sem hlow w0 E w loc a next Q hsz' hlook hh he hfree hcb
   split
   ·rename_i hw; rw [if_pos hw] at this; exact .inl this
   ·rename_i hw; rw [if_neg hw] at this; exact this
 have := g_draw (P := P) (N := fun j => (c j).nx) (id := id) hm (yqq hd) ht (Z := Z) (w0 := w0) (E := E) (a := a) (w := w) (loc := loc) (by rw [hend]; exact hz) (by rw [h0]; exact hr)
 refine wp_mono this ?_
 rintro e a' w' ⟨he,loc',h1,h2⟩
 simp only [hend,h0] at h1 h2
 exact ⟨he,loc',h1,h2⟩
end Ax
end Go.Proofs.Ytioldmhhefhelaa
