/- What the proofs of this seat stand on; it asks nothing. -/
import Derived.Test.YtffdpbbbdmmdlaaYa07
set_option linter.unusedSimpArgs false
set_option linter.unusedVariables false
namespace Go.Proofs.Ytffdpbbbdmmdlaa
namespace Ax
def zmd (f k : Nat) (ops : List Oper) : Bool :=
 let ms := zgp [] ops
 (List.range ops.length).all fun j => match ops[j]? with
  | some y => zyw j y.after.toList && (decide (j < k) || (List.range j).all fun i => (ms.getD j 0).testBit i || (decide (j = k) && decide (i = f)))
  | none => true
def yqi (k : Nat) (ops : List Oper) : Bool := zmd k k ops
theorem zdw {f k : Nat} {ops : List Oper} (h : zmd f k ops = true) {j : Nat} {y : Oper} (hy : ops[j]? = some y) :
  (∀ e ∈ y.after.toList,Region.binds .any e = true → e.on < j) ∧ (k ≤ j → ∀ i,i < j → (k < j ∨ i ≠ f) → ((zgp [] ops).getD j 0).testBit i = true) := by
 unfold zmd at h
 have := List.all_eq_true.1 h j (List.mem_range.2 (List.getElem?_eq_some_iff.1 hy).1)
 simp only [hy,Bool.and_eq_true,Bool.or_eq_true,decide_eq_true_eq] at this
 refine ⟨zhx this.1,fun hk i hi hif => ?_⟩
 rcases this.2 with h1 | h1
 ·omega
 ·have := List.all_eq_true.1 h1 i (List.mem_range.2 hi)
  simp only [Bool.or_eq_true,Bool.and_eq_true,decide_eq_true_eq] at this
  rcases this with h2 | ⟨h2,h3⟩
  ·exact h2
  ·omega
def zqz (T : zab) (o : Oper) : Bool := o.after.toList.isEmpty && decide (zac T o.op = 0)
theorem zkr {l : List Oper} (suf : List Oper) {j : Nat} {d : Tmp} (h : guardSlot l j = some d) : guardSlot (l ++ suf) j = some d := by
 unfold guardSlot at h ⊢
 cases hj : l[j]? with
 | none => rw [hj] at h; cases h
 | some o =>
  rw [hj] at h
  rw [List.getElem?_append_left (List.getElem?_eq_some_iff.1 hj).1,hj]
  exact h
section
variable {P : Program} {S : zae} {T : zab} {l suf : List Oper} {nm fl : Nat} {s0 : List AV × Heap} {w0 : World} {E : Nat → Prop} {B : Bs}
theorem zzh (ht : zmd fl l.length (l ++ suf) = true) {K : Exit → Act → World → Prop} : ∀ (fuel t : Nat) (listed : Array Bool) (a : Act) (w : World),listed.size = l.length + suf.length → t ≤ suf.length → (∀ j,Ls listed j ↔ j < l.length + t) → suf.length - t ≤ fuel →
  wpList P (l ++ suf).toArray K (suf.drop t) a w → wpAny P .any (l ++ suf).toArray K fuel listed a w := by
 intro fuel
 have hnl : ∀ {listed : Array Bool} {j : Nat},listed.getD j true = false → ¬ Ls listed j := fun h h' => by unfold Ls at h'; rw [getD_both h] at h'; cases h'
 induction fuel with
 | zero =>
  intro t listed a w hs ht1 hL hf h
  obtain rfl : t = suf.length := by omega
  rw [List.drop_length] at h
  refine ⟨?_,h⟩
  cases hr : Region.ready .any (l ++ suf).toArray listed with
  | nil => rfl
  | cons j r =>
   exfalso
   obtain ⟨h1,o,ho,_⟩ := mem_ready.1 (show j ∈ Region.ready .any (l ++ suf).toArray listed by rw [hr]; simp)
   have := (Array.getElem?_eq_some_iff.1 ho).1
   simp only [List.size_toArray,List.length_append] at this
   exact hnl h1 ((hL j).2 this)
 | succ fuel ih =>
  intro t listed a w hs ht1 hL hf h
  by_cases hte : t = suf.length
  ·subst hte
   rw [List.drop_length] at h
   refine ⟨fun _ => h,fun i hi => ?_⟩
   exfalso
   obtain ⟨h1,o,ho,_⟩ := mem_ready.1 hi
   have := (Array.getElem?_eq_some_iff.1 ho).1
   simp only [List.size_toArray,List.length_append] at this
   exact hnl h1 ((hL i).2 this)
  ·have hlt : t < suf.length := by omega
   have hoL : (l ++ suf)[l.length + t]? = some suf[t] := by rw [List.getElem?_append_right (by omega)]; simp
   have hin : l.length + t ∈ Region.ready .any (l ++ suf).toArray listed := by
    refine mem_ready.2 ⟨getD_in (by omega) ?_,suf[t],by simpa using hoL,fun e he hb => ?_⟩
    ·have : ¬ Ls listed (l.length + t) := fun h => by have := (hL _).1 h; omega
     unfold Ls at this
     simpa using this
    ·have := (zdw ht hoL).1 e (by simpa using he) hb
     exact (hL e.on).2 this
   refine ⟨fun hr => ?_,fun i hi => ?_⟩
   ·rw [hr] at hin; simp at hin
   ·obtain ⟨h1,o,ho,hrd⟩ := mem_ready.1 hi
    have hil : i < l.length + suf.length := by
     have := (Array.getElem?_eq_some_iff.1 ho).1
     simpa using this
    have hge : l.length + t ≤ i := by
     rcases Nat.lt_or_ge i (l.length + t) with h' | h'
     ·exact (hnl h1 ((hL i).2 h')).elim
     ·exact h'
    have ho' : (l ++ suf)[i]? = some o := by simpa using ho
    obtain rfl : i = l.length + t := by
     rcases Nat.lt_or_ge (l.length + t) i with h' | h'
     ·exfalso
      have hb := (zdw ht ho').2 (by omega) _ h' (.inl (by omega))
      have := zaq (l := l ++ suf) (L := fun j => Ls listed j) (fun j o hj => (zdw ht hj).1) (fun j o hj hj2 e he hb => by
       have := (zdw ht hj).1 e he hb
       have := (hL j).1 hj2
       exact (hL e.on).2 (by omega)) (i + 1) i _ (Nat.lt_succ_self _) hb o ho' (fun e he hb => hrd e (by simpa using he) hb)
      have := (hL _).1 this
      omega
     ·omega
    rw [hoL] at ho'; injection ho' with ho'; subst ho'
    have hd : suf.drop t = suf[t] :: suf.drop (t + 1) := List.drop_eq_getElem_cons hlt
    rw [hd] at h
    have h9 : wpOp P (l ++ suf).toArray K (l.length + t) (wpList P (l ++ suf).toArray K (suf.drop (t + 1))) a w := by
     unfold wpOp
     rw [ho]
     exact h
    refine wpOp_mono (fun a' w' h' => ih (t + 1) _ a' w' (by simpa using hs) hlt (fun j => ?_) (by omega) h') h9
    rw [zkk (by omega),hL]
    omega
theorem yek (ht : zmd fl l.length (l ++ suf) = true) (hfl : fl < l.length) {of : Oper} (hof : l[fl]? = some of) (hfb : zqz T of = true) (hne : 0 < suf.length) {K : Exit → Act → World → Prop} (fuel : Nat) (listed : Array Bool) (a : Act) (w : World) (hs : listed.size = l.length + suf.length) (hL : ∀ j,Ls listed j ↔ j < l.length + 1 ∧ j ≠ fl) (hf : suf.length ≤ fuel)
  (hcl : ∀ j o,(l ++ suf)[j]? = some o → Ls listed j → ∀ e ∈ o.after.toList,Region.binds .any e = true → Ls listed e.on)
  (h : wpList P (l ++ suf).toArray K (of :: suf.drop 1) a w) : wpAny P .any (l ++ suf).toArray K fuel listed a w := by
 have hnl : ∀ {listed : Array Bool} {j : Nat},listed.getD j true = false → ¬ Ls listed j := fun h h' => by unfold Ls at h'; rw [getD_both h] at h'; cases h'
 obtain ⟨fu,rfl⟩ : ∃ fu,fuel = fu + 1 := ⟨fuel - 1,by omega⟩
 have hfoL : (l ++ suf)[fl]? = some of := by rw [List.getElem?_append_left hfl]; exact hof
 unfold zqz at hfb
 simp only [Bool.and_eq_true,decide_eq_true_eq,List.isEmpty_iff] at hfb
 have hin : fl ∈ Region.ready .any (l ++ suf).toArray listed := by
  refine mem_ready.2 ⟨getD_in (by omega) ?_,of,by simpa using hfoL,fun e he hb => ?_⟩
  ·have : ¬ Ls listed fl := fun h => ((hL _).1 h).2 rfl
   unfold Ls at this
   simpa using this
  ·have he' : e ∈ of.after.toList := by simpa using he
   rw [hfb.1] at he'; cases he'
 refine ⟨fun hr => ?_,fun i hi => ?_⟩
 ·rw [hr] at hin; simp at hin
 ·obtain ⟨h1,o,ho,hrd⟩ := mem_ready.1 hi
  have hil : i < l.length + suf.length := by
   have := (Array.getElem?_eq_some_iff.1 ho).1
   simpa using this
  have ho' : (l ++ suf)[i]? = some o := by simpa using ho
  have hni := hnl h1
  obtain rfl : i = fl := by
   rcases Nat.decEq i fl with h' | h'
   ·exfalso
    have hk : l.length < i := by
     rcases Nat.lt_or_ge l.length i with h2 | h2
     ·exact h2
     ·exact (hni ((hL i).2 ⟨by omega,h'⟩)).elim
    have hb := (zdw ht ho').2 (by omega) fl (by omega) (.inl hk)
    have := zaq (l := l ++ suf) (L := fun j => Ls listed j) (fun j o hj => (zdw ht hj).1) hcl (i + 1) i _ (Nat.lt_succ_self _) hb o ho' (fun e he hb => hrd e (by simpa using he) hb)
    exact ((hL fl).1 this).2 rfl
   ·exact h'
  rw [hfoL] at ho'; injection ho' with ho'; subst ho'
  have h9 : wpOp P (l ++ suf).toArray K i (wpList P (l ++ suf).toArray K (suf.drop 1)) a w := by
   unfold wpOp
   rw [ho]
   exact h
  refine wpOp_mono (fun a' w' h' => zzh ht fu 1 _ a' w' (by simpa using hs) (by omega) (fun j => ?_) (by omega) h') h9
  rw [zkk (by omega),hL]
  omega
theorem yda (hT : TOk P T) (hS : Fns P S) (htl : zmd fl l.length (l ++ suf) = true) (hg : zzd S T l nm s0) (hst : ∀ j o,l[j]? = some o → (zbx S T l (nm + 8 * j) o (zad S T l nm s0 j)).1) (h0 : ∀ id b,look s0.2 id = some b → id < nm) {K : Exit → Act → World → Prop}
  (hK : ∀ listed a w loc,InvF S T l nm s0 w0 E B listed a w loc → (∀ j,j < l.length → Ls listed j) → wpList P (l ++ suf).toArray K suf a w)
  (hK2 : ∀ of c,l[fl]? = some of → suf[0]? = some c → zqz T of = true ∧ ∀ listed a w loc,InvF S T l nm s0 w0 E B listed a w loc → (∀ j,j < l.length → (Ls listed j ↔ j ≠ fl)) → wpList P (l ++ suf).toArray K (c :: of :: suf.drop 1) a w) :
  ∀ (fuel : Nat) (listedL listed : Array Bool) (a : Act) (w : World) (loc : Loc),(listedL.size = l.length + suf.length ∧ ∀ j,Ls listedL j ↔ j < l.length ∧ Ls listed j) → InvF S T l nm s0 w0 E B listed a w loc → listedL.toList.count false ≤ fuel → wpAny P .any (l ++ suf).toArray K fuel listedL a w := by
 have hnl' : ∀ {listed : Array Bool} {j : Nat},listed.getD j true = false → ¬ Ls listed j := fun h h' => by unfold Ls at h'; rw [getD_both h] at h'; cases h'
 have hall : ∀ (fuel : Nat) (listedL listed : Array Bool) (a : Act) (w : World) (loc : Loc),(listedL.size = l.length + suf.length ∧ ∀ j,Ls listedL j ↔ j < l.length ∧ Ls listed j) → InvF S T l nm s0 w0 E B listed a w loc → listedL.toList.count false ≤ fuel →
   (∀ j,j < l.length → Ls listed j) → wpAny P .any (l ++ suf).toArray K fuel listedL a w := by
  intro fuel listedL listed a w loc hrel inv hc hj
  refine zzh htl fuel 0 listedL a w hrel.1 (Nat.zero_le _) (fun j => by rw [hrel.2]; exact ⟨fun h => by omega,fun h => ⟨by omega,hj j (by omega)⟩⟩) ?_ (hK listed a w loc inv hj)
  have h1 : (listedL.toList.drop l.length).count false = suf.length := by
   rw [List.count_eq_length.2]
   ·rw [List.length_drop,Array.length_toList,hrel.1]; omega
   ·intro b hb
    obtain ⟨i,hi,rfl⟩ := List.getElem_of_mem hb
    rw [List.getElem_drop,Array.getElem_toList]
    have hi' : l.length + i < listedL.size := by rw [List.length_drop,Array.length_toList] at hi; omega
    have h2 : ¬ Ls listedL (l.length + i) := fun h => by have := (hrel.2 _).1 h; omega
    unfold Ls at h2
    simpa [hi'] using (Eq.symm (by simpa [hi'] using h2 : listedL[l.length + i] = false))
  have h2 := List.count_append (a := false) (l₁ := listedL.toList.take l.length) (l₂ := listedL.toList.drop l.length)
  rw [List.take_append_drop] at h2
  omega
 intro fuel
 induction fuel with
 | zero =>
  intro listedL listed a w loc hrel inv hc
  refine hall 0 listedL listed a w loc hrel inv hc (fun j hj => ?_)
  have hj' : j < listedL.size := by rw [hrel.1]; omega
  have h1 : false ∉ listedL.toList := by
   intro hm
   have := List.count_pos_iff.2 hm
   omega
  have h2 : listedL[j] ≠ false := fun e => h1 (by rw [← e]; simp)
  exact ((hrel.2 j).1 (by unfold Ls; simpa [hj'] using h2)).2
 | succ fuel ih =>
  intro listedL listed a w loc hrel inv hc
  by_cases hA : ∀ j,j < l.length → Ls listed j
  ·exact hall (fuel + 1) listedL listed a w loc hrel inv hc hA
  have hsub : ∀ i,i < l.length → (i ∈ Region.ready .any l.toArray listed ↔ i ∈ Region.ready .any (l ++ suf).toArray listedL) := by
   intro i hi
   have hnn : listed.getD i true = false ↔ listedL.getD i true = false := by
    constructor
    ·intro h
     have h1 := hnl' h
     refine getD_in (by rw [hrel.1]; omega) ?_
     have : ¬ Ls listedL i := fun h' => h1 ((hrel.2 i).1 h').2
     unfold Ls at this; simpa using this
    ·intro h
     have h1 := hnl' h
     refine getD_in (by rw [inv.sizel]; exact hi) ?_
     have : ¬ Ls listed i := fun h' => h1 ((hrel.2 i).2 ⟨hi,h'⟩)
     unfold Ls at this; simpa using this
   rw [mem_ready,mem_ready,hnn]
   have hL : (l ++ suf)[i]? = l[i]? := List.getElem?_append_left hi
   simp only [List.getElem?_toArray,hL]
   refine and_congr_right fun _ => exists_congr fun o => and_congr_right fun ho => forall_congr' fun e => forall_congr' fun he => forall_congr' fun hb => ?_
   have := hg.back i o ho e (by simpa using he) hb
   have := hrel.2 e.on
   unfold Ls at this
   rw [this]
   exact ⟨fun h => ⟨by omega,h⟩,fun h => h.2⟩
  refine ⟨fun hr => ?_,fun i hi => ?_⟩
  ·exfalso
   refine hA (fun j hj => zpf hg inv.sizel ?_ _ j (Nat.lt_succ_self _) hj)
   cases hr2 : Region.ready .any l.toArray listed with
   | nil => rfl
   | cons j r =>
    exfalso
    have hm : j ∈ Region.ready .any l.toArray listed := by rw [hr2]; simp
    obtain ⟨_,o,ho,_⟩ := mem_ready.1 hm
    have hjl : j < l.length := by have := (Array.getElem?_eq_some_iff.1 ho).1; simpa using this
    have := (hsub j hjl).1 hm
    rw [hr] at this; simp at this
  by_cases hlt : i < l.length
  case neg =>
   obtain ⟨h1,o,ho,hrd⟩ := mem_ready.1 hi
   have ho' : (l ++ suf)[i]? = some o := by simpa using ho
   have hanc : ∀ j,j < l.length → (l.length < i ∨ j ≠ fl) → Ls listed j := fun j hj hor => by
    have hb := (zdw htl ho').2 (by omega) j (by omega) hor
    have := zaq (l := l ++ suf) (L := fun j => Ls listedL j) (fun j o hj => (zdw htl hj).1) (fun j o hj hj2 e he hb => by
     have h3 := (hrel.2 j).1 hj2
     rw [List.getElem?_append_left h3.1] at hj
     have h4 := inv.closed j o hj h3.2 e he hb
     have := hg.back j o hj e he hb
     exact (hrel.2 e.on).2 ⟨by omega,h4⟩) (i + 1) i _ (Nat.lt_succ_self _) hb o ho' (fun e he hb => hrd e (by simpa using he) hb)
    exact ((hrel.2 j).1 this).2
   have hie : i = l.length := by
    rcases Nat.decEq i l.length with h' | h'
    ·exact (hA (fun j hj => hanc j hj (.inl (by omega)))).elim
    ·exact h'
   subst hie
   have hfl : fl < l.length ∧ ¬ Ls listed fl := by
    refine Classical.byContradiction fun hc => hA (fun j hj => ?_)
    by_cases hjf : j = fl
    ·subst hjf
     exact Classical.byContradiction fun h2 => hc ⟨hj,h2⟩
    ·exact hanc j hj (.inr hjf)
   have hall2 : ∀ j,j < l.length → (Ls listed j ↔ j ≠ fl) := fun j hj => ⟨fun h e => hfl.2 (e ▸ h),fun h => hanc j hj (.inr h)⟩
   have hs0 : 0 < suf.length := by
    have := (Array.getElem?_eq_some_iff.1 ho).1
    simp only [List.size_toArray,List.length_append] at this
    omega
   obtain ⟨of,hof⟩ : ∃ of,l[fl]? = some of := ⟨_,List.getElem?_eq_getElem hfl.1⟩
   have ho2 : suf[0]? = some o := by rw [List.getElem?_append_right (Nat.le_refl _)] at ho'; simpa using ho'
   obtain ⟨hfb,hk2⟩ := hK2 of o hof ho2
   have hw := hk2 listed a w loc inv hall2
   have h9 : wpOp P (l ++ suf).toArray K l.length (wpList P (l ++ suf).toArray K (of :: suf.drop 1)) a w := by
    unfold wpOp
    rw [ho]
    exact hw
   have hnlL : ∀ j,l.length ≤ j → ¬ Ls listedL j := fun j hj h => by have := (hrel.2 j).1 h; omega
   refine wpOp_mono (fun a' w' h' => yek htl hfl.1 hof hfb hs0 fuel _ a' w' (by simpa using hrel.1) (fun j => ?_) ?_ ?_ h') h9
   ·rw [zkk (by rw [hrel.1]; omega),hrel.2]
    constructor
    ·rintro (rfl | ⟨h2,h3⟩)
     ·exact ⟨by omega,by omega⟩
     ·exact ⟨by omega,fun e => hfl.2 (e ▸ h3)⟩
    ·rintro ⟨h2,h3⟩
     by_cases hj : j = l.length
     ·exact .inl hj
     ·exact .inr ⟨by omega,hanc j (by omega) (.inr h3)⟩
   ·have h1 : (listedL.toList.drop l.length).count false = suf.length := by
     rw [List.count_eq_length.2]
     ·rw [List.length_drop,Array.length_toList,hrel.1]; omega
     ·intro b hb
      obtain ⟨i,hi,rfl⟩ := List.getElem_of_mem hb
      rw [List.getElem_drop,Array.getElem_toList]
      have hi' : l.length + i < listedL.size := by rw [List.length_drop,Array.length_toList] at hi; omega
      have h2 := hnlL (l.length + i) (by omega)
      unfold Ls at h2
      simpa [hi'] using (Eq.symm (by simpa [hi'] using h2 : listedL[l.length + i] = false))
    have h2 := List.count_append (a := false) (l₁ := listedL.toList.take l.length) (l₂ := listedL.toList.drop l.length)
    rw [List.take_append_drop] at h2
    have h3 : 0 < (listedL.toList.take l.length).count false := by
     refine List.count_pos_iff.2 ?_
     have hi' : fl < listedL.size := by rw [hrel.1]; omega
     have h4 : ¬ Ls listedL fl := fun h => hfl.2 ((hrel.2 fl).1 h).2
     unfold Ls at h4
     have h5 : listedL[fl] = false := by simpa [hi'] using h4
     rw [← h5]
     have h6 := hfl.1
     have h7 := hrel.1
     refine List.mem_take_iff_getElem.2 ⟨fl,by simp only [Array.length_toList,List.size_toArray,h7]; omega,by simp⟩
    omega
   ·intro j oj hj hj2 e he hb
    rw [zkk (by rw [hrel.1]; omega)] at hj2 ⊢
    rcases hj2 with rfl | hj2
    ·rw [ho'] at hj; injection hj with hj; subst hj
     exact .inr (hrd e (by simpa using he) hb)
    ·have h3 := (hrel.2 j).1 hj2
     rw [List.getElem?_append_left h3.1] at hj
     have h4 := inv.closed j oj hj h3.2 e he hb
     have := hg.back j oj hj e he hb
     exact .inr ((hrel.2 e.on).2 ⟨by omega,h4⟩)
  obtain ⟨hnl1L,_,hoL,_⟩ := mem_ready.1 hi
  obtain ⟨hnl1,o,ho',hrd'⟩ := mem_ready.1 ((hsub i hlt).2 hi)
  have ho : l[i]? = some o := by simpa using ho'
  have hoL : (l ++ suf).toArray[i]? = some o := by rw [List.getElem?_toArray,List.getElem?_append_left hlt]; exact ho
  have hnl : ¬ Ls listed i := hnl' hnl1
  have hrd : ∀ e ∈ o.after.toList,Region.binds .any e = true → Ls listed e.on := fun e he hb => hrd' e (by simpa using he) hb
  have hrel' : (listedL.setIfInBounds i true).size = l.length + suf.length ∧ ∀ j,Ls (listedL.setIfInBounds i true) j ↔ j < l.length ∧ Ls (listed.setIfInBounds i true) j := by
   refine ⟨by simpa using hrel.1,fun j => ?_⟩
   rw [zkk (by rw [hrel.1]; omega),zkk (by rw [inv.sizel]; exact hlt),hrel.2]
   constructor
   ·rintro (rfl | h)
    ·exact ⟨hlt,.inl rfl⟩
    ·exact ⟨h.1,.inr h.2⟩
   ·rintro ⟨h1,h | h⟩
    ·exact .inl h
    ·exact .inr ⟨h1,h⟩
  have hc' : (listedL.setIfInBounds i true).toList.count false ≤ fuel := by
   have := zhv listedL.toList i (by simpa using hnl1L)
   rw [Array.toList_setIfInBounds]
   omega
  have hlook := fun t ht => zuh hg inv ho hnl hrd (t := t) ht
  have hlow := zbr hst h0 i
  have hev : ∀ x ∈ o.op.operands.toList,R w loc (ev (zad S T l nm s0 i).1 x) (a.eval x) := by
   intro x hx
   cases x with
   | tmp t => exact hlook t (by unfold Oper.looksAt; exact List.mem_append_left _ (List.mem_filterMap.2 ⟨.tmp t,hx,rfl⟩))
   | const v => exact ev_R (sl := []) (a := a) (fun t => .junk _) (.const v)
   | global g => exact .junk _
   | func f => exact ev_R (sl := []) (a := a) (fun t => .junk _) (.func f)
  have hstep := hst i o ho
  have hfi : ftF S T l nm s0 i = (zbx S T l (nm + 8 * i) o (zad S T l nm s0 i)).2.2 := by simp only [ftF,ho]
  have hadv := @ybw S T l nm s0 w0 E B listed a w loc i o hg hst h0 inv ho hnl hrd
  have hheap := fun (hk : zac T o.op ≠ 0) id b => @zux S T l nm s0 w0 E B listed a w loc i o hg inv ho hnl hrd hk id b
  rw [hfi] at hadv hheap
  -- the operation is done
  have hdo : (aopF S T (nm + 8 * i) (zad S T l nm s0 i).1 o.op (zad S T l nm s0 i).2).p →
    (zbx S T l (nm + 8 * i) o (zad S T l nm s0 i)).2.1 = (zah (zad S T l nm s0 i).1 o.dst (aopF S T (nm + 8 * i) (zad S T l nm s0 i).1 o.op (zad S T l nm s0 i).2).x,(aopF S T (nm + 8 * i) (zad S T l nm s0 i).1 o.op (zad S T l nm s0 i).2).H) →
    (zbx S T l (nm + 8 * i) o (zad S T l nm s0 i)).2.2 = foot (zad S T l nm s0 i).1 o.op (zad S T l nm s0 i).2 →
    o.wp P a w (wpAny P .any (l ++ suf).toArray K fuel (listedL.setIfInBounds i true)) K := by
   intro hp hs hft
   have hfree : ∀ id,nm + 8 * i ≤ id → id < nm + 8 * i + 8 → loc.m id = .free := inv.fresh i hnl hlt
   rw [hft] at hadv hheap
   by_cases hk : zac T o.op = 0
   ·obtain ⟨h1,h2,h3⟩ := zns (H := keepIn (foot (zad S T l nm s0 i).1 o.op (zad S T l nm s0 i).2) (zad S T l nm s0 i).2) (S := S) (sl := (zad S T l nm s0 i).1) (nm := nm + 8 * i) hk hp.2
    refine zcb hT hS inv.env (H := []) (fun id b h => by simp [look] at h) hfree o hev h1 _ K (fun v w' loc' hpost => ?_)
    obtain ⟨C,hE,hC⟩ := hpost.ext
    have hC' := hC (zji (H := []) (by omega) h1)
    refine ih _ _ _ _ loc' hrel' (hadv (x := _) (C := C) (by rw [hs]) ?_ hE (fun _ => hC') (fun id h => (hC' id h).elim) hpost.fresh hpost.env (inv.base.post hpost) (fun h => (h hk).elim) ) hc'
    have := hpost.r
    rw [h2] at this; exact this
   ·refine zru hT hS inv.env (fun id b hid hl => hheap hk id b hid hl) hfree rfl hev hp _ K (fun v w' loc' wr hpost hext => ?_)
    obtain ⟨C,hE,hC,hCF⟩ := hext
    refine ih _ _ _ _ loc' hrel' (hadv (x := _) (C := C) (by rw [hs]) hpost.r hE hC hCF hpost.fresh hpost.env (inv.base.post hpost) (fun _ id b hor hl => ?_) ) hc'
    rw [hs] at hl
    simp only [aopF] at hl
    rw [zdn] at hl
    cases h1 : look (aop S T (nm + 8 * i) (zad S T l nm s0 i).1 o.op (keepIn (foot (zad S T l nm s0 i).1 o.op (zad S T l nm s0 i).2) (zad S T l nm s0 i).2)).H id with
    | some c =>
     simp only [h1] at hl
     injection hl with hl
     subst hl
     exact hpost.h id c h1
    | none =>
     simp only [h1,zdm] at hl
     split at hl
     ·cases hl
     ·rename_i hn
      rcases hor with h2 | h2
      ·exact (hn h2).elim
      ·have := hlow id b hl; omega
  unfold wpOp
  rw [hoL]
  simp only
  cases hgd : o.guard with
  | none =>
   rw [if_pos (by simp [Region.wanted,hgd])]
   left
   refine hdo ?_ ?_ ?_
   ·simpa [zbx,hgd] using hstep
   ·simp [zbx,hgd]
   ·simp [zbx,hgd]
  | some g =>
   obtain ⟨j,want⟩ := g
   simp only [zbx,hgd] at hstep hdo hadv
   cases hgs : guardSlot l j with
   | none => simp [hgs] at hstep
   | some d =>
    simp only [hgs] at hstep hdo hadv
    have hdl : d ∈ o.looksAt l.toArray := by
     unfold Oper.looksAt
     refine List.mem_append_right _ ?_
     rw [hgd]
     unfold guardSlot at hgs
     cases hj : l[j]? with
     | none => rw [hj] at hgs; cases hgs
     | some oj =>
      rw [hj] at hgs
      simp only at hgs
      simp [hj,hgs]
    have hval := hlook d hdl
    cases hsd : slot (zad S T l nm s0 i).1 d with
    | w u =>
     cases u with
     | bool b =>
      simp only [hsd] at hstep hdo hadv
      rw [hsd] at hval
      have hval := hval.wv
      have hdlt : d < a.tmps.size := by
       rw [inv.size,← zcc hst i]
       rcases Nat.lt_or_ge d (zad S T l nm s0 i).1.length with h' | h'
       ·exact h'
       ·rw [zdg h'] at hsd; cases hsd
      have hy := zfx (ops := (l ++ suf).toArray) (by simpa using zkr suf hgs) hdlt hval
      have hw : (Region.wanted o (yielded (l ++ suf).toArray a.tmps) = true) ↔ b = want := by simp [Region.wanted,hgd,hy]
      by_cases hbw : b = want
      ·rw [if_pos (hw.2 hbw)]
       rw [if_pos hbw] at hstep hdo
       exact .inl (hdo hstep rfl rfl)
      ·rw [if_neg (fun h => hbw (hw.1 h))]
       simp only [if_neg hbw] at hadv
       refine ih _ _ _ _ loc hrel' (hadv (x := .tup []) (C := fun _ => False) rfl zgl (Ext.refl w loc) (fun _ _ h => h) (fun _ h => h.elim) (fun id h h' => (h' h).elim) inv.env inv.base (fun hk id b hor hl => ?_) ) hc'
       rcases hor with h2 | h2
       ·simp at h2
       ·have := hlow id b hl; omega
     | _ => simp [hsd] at hstep
    | tup xs =>
     cases xs with
     | nil =>
      simp only [hsd] at hadv
      rw [hsd] at hval
      rw [if_neg (by simp [Region.wanted,hgd,zdu (ops := (l ++ suf).toArray) (by simpa using zkr suf hgs) (yef hval)])]
      refine ih _ _ _ _ loc hrel' (hadv (x := .tup []) (C := fun _ => False) rfl zgl (Ext.refl w loc) (fun _ _ h => h) (fun _ h => h.elim) (fun id h h' => (h' h).elim) inv.env inv.base (fun hk id b hor hl => ?_) ) hc'
      rcases hor with h2 | h2
      ·simp at h2
      ·have := hlow id b hl; omega
     | cons _ _ => simp [hsd] at hstep
    | _ => simp [hsd] at hstep
theorem zop (hT : TOk P T) (hS : Fns P S) (hm : P.follows .mixedOrders = true) {pl : List (Nat × Nat)} {K : Exit → Act → World → Prop} {Q : List AV → Heap → Prop} {sl : List AV} {H : Heap} {a : Act} {w : World} {loc : Loc} {id : Nat}
  (hd : zgr T l pl = true) (htl : zmd fl l.length (l ++ suf) = true) (hK : ∀ sl H a w loc,Base w0 B w loc → Rel' w0 E loc ⟨sl,H,nm + 8 * l.length⟩ a w → Q sl H → wpList P (l ++ suf).toArray K suf a w)
  (hK2 : ∀ of c,l[fl]? = some of → suf[0]? = some c → zqz T of = true ∧ ∀ sl H a w loc,Base w0 B w loc → Rel' w0 E loc ⟨zah sl of.dst .junk,H,nm + 8 * l.length⟩ a w → Q sl H → wpList P (l ++ suf).toArray K (c :: of :: suf.drop 1) a w) (hb : Base w0 B w loc)
  (hr : Rel' w0 E loc ⟨sl,H,nm⟩ a w) (h : zfg S T l pl nm [] l sl H Q) : (Code.region id (l ++ suf).toArray true).wp P K a w := by
 obtain ⟨⟨hQ,hmem⟩,hst⟩ := zjv (S := S) (T := T) (nm := nm) (pl := pl) (Q := Q) (l := l) (s0 := (sl,H)) l 0 (fun j => by rw [Nat.zero_add]) (Nat.zero_add _) (by simpa [zad] using h)
 have hst' := fun j o ho => hst j o (Nat.zero_le _) ho
 have hg := yaf hd hmem
 refine wp_region_any hm ?_
 have hL : ∀ i,¬ Ls (Array.replicate l.length false) i := fun i h => by
  unfold Ls at h
  rw [getD_replicate_false] at h; cases h
 have hL' : ∀ i,¬ Ls (Array.replicate (l ++ suf).toArray.size false) i := fun i h => by
  unfold Ls at h
  rw [getD_replicate_false] at h; cases h
 refine yda hT hS htl hg hst' hr.low (w0 := w0) (E := E) (B := B) ?_ ?_ _ _ (Array.replicate l.length false) _ _ loc ⟨by simp,fun j => ⟨fun h => (hL' j h).elim,fun h => (hL j h.2).elim⟩⟩ ?_ ?_
 ·intro listed a w loc inv hall
  have hq : ∀ (i : Nat),i < l.length → (Ls listed i ↔ i < l.length) := fun i hi => ⟨fun _ => hi,fun _ => hall i hi⟩
  have hlt : ∀ {j : Nat} {o : Oper},l[j]? = some o → j < l.length := fun h => (List.getElem?_eq_some_iff.1 h).1
  refine hK _ _ a w loc inv.base ⟨?_,?_,?_,inv.env,inv.high,inv.defers,?_⟩ hQ
  ·simp only; rw [zcc hst']; exact inv.size
  ·exact fun t => inv.slots t _ (Nat.le_refl _) (fun i o ho _ => hq i (hlt ho))
  ·exact fun id b hl => inv.heap id _ (Nat.le_refl _) (fun i o ho _ _ => hq i (hlt ho)) b hl
  ·exact zbr hst' hr.low l.length
 ·intro of c hof hc
  obtain ⟨hfb,hk⟩ := hK2 of c hof hc
  refine ⟨hfb,fun listed a w loc inv hall => ?_⟩
  have hlt : ∀ {j : Nat} {o : Oper},l[j]? = some o → j < l.length := fun h => (List.getElem?_eq_some_iff.1 h).1
  unfold zqz at hfb
  simp only [Bool.and_eq_true,decide_eq_true_eq] at hfb
  refine hk _ _ a w loc inv.base ⟨?_,?_,?_,inv.env,inv.high,inv.defers,?_⟩ hQ
  ·simp only; rw [zdq,zcc hst']; exact inv.size
  ·intro t
   by_cases ht : of.dst = some t
   ·rw [ht]
    have : slot (zah (zad S T l nm (sl,H) l.length).1 (some t) .junk) t = .junk := by
     show slot (setSlot _ t .junk) t = .junk
     rcases Nat.lt_or_ge t (zad S T l nm (sl,H) l.length).1.length with h' | h'
     ·exact zcf h'
     ·exact zdg (by rw [zaw]; exact h')
    rw [this]; exact .junk _
   ·have : slot (zah (zad S T l nm (sl,H) l.length).1 of.dst .junk) t = slot (zad S T l nm (sl,H) l.length).1 t := by
     cases hd : of.dst with
     | none => rfl
     | some d => exact zbt (fun e => ht (by rw [hd,e]))
    rw [this]
    refine inv.slots t _ (Nat.le_refl _) (fun i o ho hd => ⟨fun _ => hlt ho,fun _ => (hall i (hlt ho)).2 (fun e => ?_)⟩)
    subst e
    rw [hof] at ho; injection ho with ho; subst ho; exact ht hd
  ·refine fun id b hl => inv.heap id _ (Nat.le_refl _) (fun i o ho h2 _ => ⟨fun _ => hlt ho,fun _ => (hall i (hlt ho)).2 (fun e => ?_)⟩) b hl
   subst e
   rw [hof] at ho; injection ho with ho; subst ho
   omega
  ·exact zbr hst' hr.low l.length
 ·have hbase : Base w0 B { w with drawn := w.drawn + 1 } loc := hb
  have hE : Ext (fun _ => False) w loc { w with drawn := w.drawn + 1 } loc := ⟨Nat.le_refl _,fun _ _ _ => rfl,fun _ _ _ => .inl rfl,fun _ _ h => ⟨rfl,h⟩,fun _ _ _ _ => rfl,fun _ cur _ fz h => ⟨cur,fz,h,rfl⟩⟩
  have hcl : ∀ {x v},R w loc x v → R { w with drawn := w.drawn + 1 } loc x v := fun h => h.ext hE
  refine ⟨by simp,hr.size,?_,?_,?_,?_,?_,⟨hr.env.os,hr.env.tape,hr.env.output,hr.env.size,hr.env.same,hr.env.inj,hr.env.lies,hr.env.bad⟩,hbase,hr.defers⟩
  ·intro t k hk hq
   have e : slot (zad S T l nm (sl,H) k).1 t = slot sl t := by
    refine ziz hst' (i := 0) (Nat.zero_le _) (fun j o _ hj ho hd => ?_)
    exact hL j ((hq j o ho hd).2 hj)
   rw [e]
   exact hcl (hr.slots t)
  ·intro id k hk hq b hl
   by_cases hf : loc.m id = .free
   ·exact BlkR.free hf
   ·have hidn : id < nm := by
     rcases Nat.lt_or_ge id nm with h' | h'
     ·exact h'
     ·exact (hf (hr.fresh id h')).elim
    have e : look (zad S T l nm (sl,H) k).2 id = look H id := by
     refine zgm hst' (i := 0) (Nat.zero_le _) (fun j o _ hj ho => ⟨?_,.inr (by omega)⟩)
     by_cases hid : id ∈ ftF S T l nm (sl,H) j
     ·left
      have hle : zac T o.op ≤ 2 := zey T o.op
      have hne : zac T o.op ≠ 2 := fun h2 => hL j ((hq j o ho h2 hid).2 hj)
      omega
     ·exact .inr hid
    rw [e] at hl
    exact (hr.heap id b hl).ext hE (fun h => h) hf
  ·intro j o ho hl; exact (hL j hl).elim
  ·intro i _ hi id h1 h2; exact hr.fresh id (by simp only; omega)
  ·intro id h1; exact hr.fresh id (by simp only; omega)
 ·simp
end
end Ax
end Go.Proofs.Ytffdpbbbdmmdlaa
namespace Go.Proofs.Ytffdpbbbdmmdlaa
namespace Ax
open Go.RowKit
def FnsO (P : Program) (S : zae) : Prop := ∀ f s,S f = some s → zpi P f ∧ zrw P f s
def noO : zae := fun _ => none
theorem ypb {P : Program} : FnsO P noO := fun f s h => by cases h
def zci (SO : zae) (T : zab) (nm : Nat) (sl : List AV) (op : Op) (H : Heap) : Out :=
 match op with
 | .call c => match c.callee with
  | .value f => match ev sl f with
   | .fn f caps => aOpen SO nm f (coes T c.argTypes.toList (evs sl c.args.toList) ++ caps) H
   | _ => bad
  | _ => bad
 | _ => bad
theorem ycp {P : Program} {w0 : World} {E : Nat → Prop} {w : World} {loc : Loc} {H : Heap} {T : zab} {SO : zae} (hS : FnsO P SO) (he : Env w0 E w loc) (hh : HR w loc H) {nm : Nat} (hfree : ∀ id,nm ≤ id → id < nm + 8 → loc.m id = .free) {sl : List AV} {a : Act} (o : Oper)
  (hev : ∀ x,R w loc (ev sl x) (a.eval x)) (hp : (zci SO T nm sl o.op H).p) : Sd P w0 E w loc true nm (zci SO T nm sl o.op H) o a := by
 cases ho : o.op with
 | call c =>
  obtain ⟨callee,args,argTypes⟩ := c
  cases callee with
  | value f =>
   have hfv := hev f
   simp only [zci,ho] at hp ⊢
   generalize ev sl f = xf at hfv hp ⊢
   split at hp
   ·rename_i g caps
    cases hv : a.eval f with
    | func fn first captured =>
     rw [hv] at hfv
     cases hfv with
     | fn _ _ cs hlc hc =>
      obtain ⟨e1,e2⟩ := zvm (w := w) (loc := loc) (sl := sl) (a := a) args.toList (fun x _ => hev x)
      obtain ⟨c1,c2⟩ := zvq (T := T) (w := w) (loc := loc) argTypes.toList (evs sl args.toList)
      have c2 := c2 (args.toList.map a.eval) e2
      have c3 : ∀ (j : Nat) (h : j < (coes T argTypes.toList (evs sl args.toList) ++ caps).length) (h' : j < (args.toList.map a.eval ++ cs).length),R w loc (coes T argTypes.toList (evs sl args.toList) ++ caps)[j] (args.toList.map a.eval ++ cs)[j] := by
       intro j h h'
       have hl : (coes T argTypes.toList (evs sl args.toList)).length = (args.toList.map a.eval).length := by rw [c1,e1]; simp
       by_cases hj : j < (coes T argTypes.toList (evs sl args.toList)).length
       ·rw [List.getElem_append_left hj,List.getElem_append_left (by omega)]
        exact c2 j hj (by omega)
       ·rw [List.getElem_append_right (by omega),List.getElem_append_right (by omega)]
        have := hc (j - (coes T argTypes.toList (evs sl args.toList)).length) (by rw [List.length_append] at h; omega) (by rw [List.length_append] at h'; omega)
        simpa only [hl] using this
      cases hsg : SO g with
      | none => simp [aOpen,hsg,bad] at hp
      | some sp =>
       obtain ⟨⟨fn,hfn,hbody,hname⟩,hsound⟩ := hS g sp hsg
       have hcall := zrf (P := P) he hh hfree (SO := SO) (fun f s h => (hS f s h).2) (f := g) (by rw [List.length_append,List.length_append,c1,e1,hlc]; simp) c3 hp
       have hrun : (execOp a.eval o).run P w = .ok (.enter g (args.toList.map a.eval ++ cs).toArray) w := by
        have h1 : fn.name ≠ "runtime.NumGoroutine" := by simpa using hname
        have hb' : fn.body ≠ none := by intro e; rw [e] at hbody; simp at hbody
        have h9 : Array.map a.eval args = (args.toList.map a.eval).toArray := by rw [← Array.toList_inj]; simp
        simp [execOp,ho,resolve,hv,Deferred.ofValue,invoke,callFunc,hfn,h1,hb',h9]
       intro next Q hn
       unfold Oper.wp
       rw [hrun]
       refine hcall.mono ?_
       rintro e w' ⟨v,loc',rfl,h1⟩
       exact hn v w' loc' h1
    | _ => rw [hv] at hfv; cases hfv
   ·exact hp.elim
  | _ => simp [zci,ho,bad] at hp
 | _ => simp [zci,ho,bad] at hp
theorem ztg {H : Heap} : ∀ (ids good : List Nat),walk H good ids = true → ∀ id ∈ ids,look H id ≠ none
 | [],_,_,id,hid => by simp at hid
 | k :: r,good,hw,id,hid => by
  simp only [walk,Bool.and_eq_true] at hw
  cases hl : look H k with
  | none => simp [hl] at hw
  | some blk =>
   simp only [hl] at hw
   rcases List.mem_cons.1 hid with rfl | hid
   ·rw [hl]; simp
   ·exact ztg r _ hw.2 id hid
theorem zut {SO : zae} {T : zab} {sl : List AV} {op : Op} {nm : Nat} {H : Heap} : Hnew nm H (zci SO T nm sl op H) := by
 unfold zci
 split
 ·split
  ·split
   ·unfold aOpen
    split
    ·rename_i f _ spec hs
     intro hp id b hl
     simp only [openOut] at hp hl
     generalize reach H 12 [] (idsL _) = ids at *
     obtain ⟨⟨hnd,hwalk,hain,hpin⟩,hsp,hb1,hb2⟩ := hp
     rcases zls _ _ _ hl with ⟨j,hj,h1,h2⟩ | ⟨h1,h2⟩
     ·rw [Nat.zero_add] at h1
      by_cases hjl : j < ids.length
      ·rw [zfa hjl] at h1
       left
       rw [← h1]
       exact ztg ids _ hwalk _ (List.getElem_mem hjl)
      ·rw [zed (by omega)] at h1
       right; omega
     ·exact .inl (by rw [h1]; simp)
    ·exact hok_bad.new
   ·exact hok_bad.new
  ·exact hok_bad.new
 ·exact hok_bad.new
def zmm (S SO : zae) (T : zab) (ops : List Oper) : Nat → Nat → List Oper → List AV → Heap → (List AV → Heap → Prop) → Prop
 | _,_,[],sl,H,Q => Q sl H
 | 0,nm,o :: r,sl,H,Q => o.guard = none ∧ (zci SO T nm sl o.op H).p ∧ aops S T ops (nm + 8) r (zah sl o.dst (zci SO T nm sl o.op H).x) (zci SO T nm sl o.op H).H Q
 | k + 1,nm,o :: r,sl,H,Q => o.guard = none ∧ (aop S T nm sl o.op H).p ∧ zmm S SO T ops k (nm + 8) r (zah sl o.dst (aop S T nm sl o.op H).x) (aop S T nm sl o.op H).H Q
theorem zff {P : Program} {w0 : World} {E : Nat → Prop} {T : zab} {S SO : zae} (hT : TOk P T) (hS : Fns P S) (hSO : FnsO P SO) {ops : Array Oper} {K : Exit → Act → World → Prop} {Q : List AV → Heap → Prop} {B : Bs} {nz : Nat}
  (hK : ∀ sl H a w loc,Base w0 B w loc → Rel' w0 E loc ⟨sl,H,nz⟩ a w → Q sl H → K .normal a w) : ∀ (k : Nat) (r : List Oper) (nm : Nat) (sl : List AV) (H : Heap) (a : Act) (w : World) (loc : Loc),nz = nm + 8 * r.length → Base w0 B w loc →
  Rel' w0 E loc ⟨sl,H,nm⟩ a w → zmm S SO T ops.toList k nm r sl H Q → wpList P ops K r a w
 | k,[],nm,sl,H,a,w,loc,hz,hb,hr,h => by
  simp only [List.length_nil,Nat.mul_zero,Nat.add_zero] at hz
  subst hz
  exact wpList_nil (hK sl H a w loc hb hr (by cases k <;> exact h))
 | 0,o :: r,nm,sl,H,a,w,loc,hz,hb,hr,h => by
  have hz' : nz = nm + 8 + 8 * r.length := by simp at hz; omega
  obtain ⟨hg,hp,hrest⟩ := h
  refine wpList_step fun Kn hKn => ?_
  rw [if_pos (by simp [Region.wanted,hg])]
  have hop := ycp (T := T) hSO hr.env hr.heap (fun id h1 _ => hr.fresh id h1) o (fun x => ev_R hr.slots x) hp
  exact hop Kn K (fun v w' loc' hpost => hKn _ _ (zcw (ops := ops) hT hS hK r (nm + 8) _ _ _ w' loc' hz' (hb.post hpost) (zfk hr hpost (zut hp) o.dst) hrest))
 | k + 1,o :: r,nm,sl,H,a,w,loc,hz,hb,hr,h => by
  have hz' : nz = nm + 8 + 8 * r.length := by simp at hz; omega
  obtain ⟨hg,hp,hrest⟩ := h
  refine wpList_step fun Kn hKn => ?_
  rw [if_pos (by simp [Region.wanted,hg])]
  have hop := zcb hT hS hr.env hr.heap (fun id h1 _ => hr.fresh id h1) o (fun x _ => ev_R hr.slots x) hp
  exact hop Kn K (fun v w' loc' hpost => hKn _ _ (zff hT hS hSO hK k r (nm + 8) _ _ _ w' loc' hz' (hb.post hpost) (zfk hr hpost (zei hp) o.dst) hrest))
def zng (T : zab) (sl : List AV) (op : Op) (K : AV → Prop) : Prop :=
 match op with
 | .binOp .eql t x (.const (.slice none 0 0)) _ => match T t with
  | some ti => match ti.d with
   | .slice _ => match ev sl x with
    | .sg s xs _ => 0 < s ∧ ∀ b,(b = true → xs.length = 0) → K (.w (.bool b))
    | .sb xs _ => ∀ b,(b = true → xs.length = 0) → K (.w (.bool b))
    | .si xs _ => ∀ b,(b = true → xs.length = 0) → K (.w (.bool b))
    | _ => False
   | _ => False
  | none => False
 | .buildSlice t 0 ps => match T t with
  | some ti => match ti.d with
   | .slice e => match T e with
    | some te => ps = #[] ∧ 0 < te.size ∧ K (.sg te.size [] true)
    | none => False
   | _ => False
  | none => False
 | .call c => match c.callee with
  | .builtin .append => match c.args.toList,c.argTypes.toList with
   | [x,y],[t,u] => match T t,T u with
    | some ti,some tu => match ti.d,tu.d with
     | .slice e,.slice _ => match T e with
      | some te => match ev sl x,ev sl y with
       | .sg s [] true,.sg _ [] _ => 0 < te.size ∧ K (.sg s [] true)
       | .sg s [] true,.sb [] _ => 0 < te.size ∧ K (.sg s [] true)
       | .sg s [] true,.si [] _ => 0 < te.size ∧ K (.sg s [] true)
       | _,_ => False
      | none => False
     | _,_ => False
    | _,_ => False
   | _,_ => False
  | _ => False
 | _ => False
theorem zjt {P : Program} {t u ty e e' : TypeId} {te : TyI} (hd : P.underlying t = some (.slice e)) (hu : P.underlying u = some (.slice e')) (hty : TyR P e te) (a a' : Option Addr) (c : Nat) (w : World) :
  (Builtin.append_ #[t,u] ty #[.slice a 0 0,.slice a' 0 c]).run P w = .ok (.slice a 0 0) w := by
 have hsz := fun W => zan (P := P) hty W
 have hlc : ∀ (b : Addr) W,(loadCells b 0).run P W = .ok #[] W := fun b W => by simp [loadCells,loadCellsFrom]
 have hst : ∀ (b : Addr) W,(storeCells b []).run P W = .ok () W := fun b W => by simp [storeCells]
 unfold Builtin.append_
 cases a <;> cases a' <;> simp [run_underlying hd,run_underlying hu,hsz,Builtin.lenOf,Builtin.firstCells,hlc,hst]
theorem ztj {P : Program} {w0 : World} {E : Nat → Prop} {T : zab} (hT : TOk P T) {w : World} {loc : Loc} {H : Heap} (he : Env w0 E w loc) (hh : HR w loc H) {nm : Nat} {sl : List AV} {a : Act} {op : Op} {K : AV → Prop} (hev : ∀ x,R w loc (ev sl x) (a.eval x)) (h : zng T sl op K) :
  ∃ x v w',K x ∧ Post w0 E w loc true nm x H v w' loc ∧ ∀ o : Oper,o.op = op → (execOp a.eval o).run P w = .ok (.value v) w' := by
 unfold zng at h
 split at h
 ·rename_i t x yt
  cases ht : T t with
  | none => simp [ht] at h
  | some ti =>
   simp only [ht] at h
   split at h
   ·rename_i e hd
    have hu : ∃ e,P.underlying t = some (.slice e) := by
     have := (hT t ti ht).d
     rw [hd] at this
     exact ⟨_,this⟩
    obtain ⟨e,hu⟩ := hu
    have hx := hev x
    generalize ev sl x = xv at hx h
    split at h
    ·rename_i s xs f
     obtain ⟨hs,h⟩ := h
     generalize hv : a.eval x = v at hx
     cases hx with
     | sg _ _ _ ad cap cs hd hs' hc hl hx' _ =>
      refine ⟨_,.bool ad.isNone,w,h ad.isNone fun hn => ?_,Post.pure (.w _ rfl) hh he,fun o ho => ?_⟩
      ·cases xs with
       | nil => rfl
       | cons y ys =>
        exfalso
        obtain rfl : ad = none := by simpa using hn
        rcases hc.lies with rfl | ⟨b,o,he,_⟩
        ·have := hs' y (by simp)
         rw [List.flatMap_cons,List.length_append,List.length_nil] at hl
         omega
        ·cases he
      ·have heq : ∀ d,(Op.equalIn (d + 1) t (.slice ad xs.length cap) (.slice none 0 0)).run P w = .ok ad.isNone w := fun d => by cases ad <;> simp [Op.equalIn,run_underlying hu]
       have heq := heq 9999
       have h2 : (Op.equal t (.slice ad xs.length cap) (.slice none 0 0)).run P w = .ok ad.isNone w := heq
       simp only [execOp,ho,hv]
       simp [zbv (u := .slice ad xs.length cap) rfl (by simp),binOp,h2,Act.eval]
    ·rename_i xs f
     generalize hv : a.eval x = v at hx
     cases hx with
     | sb _ _ ad cap hd hc =>
      refine ⟨_,.bool ad.isNone,w,h ad.isNone fun hn => ?_,Post.pure (.w _ rfl) hh he,fun o ho => ?_⟩
      ·cases xs with
       | nil => rfl
       | cons y ys =>
        exfalso
        obtain rfl : ad = none := by simpa using hn
        rcases hc.lies with hcs | ⟨b,o,he,_⟩
        ·simp at hcs
        ·cases he
      ·have heq : ∀ d,(Op.equalIn (d + 1) t (.slice ad xs.length cap) (.slice none 0 0)).run P w = .ok ad.isNone w := fun d => by cases ad <;> simp [Op.equalIn,run_underlying hu]
       have heq := heq 9999
       have h2 : (Op.equal t (.slice ad xs.length cap) (.slice none 0 0)).run P w = .ok ad.isNone w := heq
       simp only [execOp,ho,hv]
       simp [zbv (u := .slice ad xs.length cap) rfl (by simp),binOp,h2,Act.eval]
    ·rename_i xs f
     generalize hv : a.eval x = v at hx
     cases hx with
     | si _ _ ad cap hd hc =>
      refine ⟨_,.bool ad.isNone,w,h ad.isNone fun hn => ?_,Post.pure (.w _ rfl) hh he,fun o ho => ?_⟩
      ·cases xs with
       | nil => rfl
       | cons y ys =>
        exfalso
        obtain rfl : ad = none := by simpa using hn
        rcases hc.lies with hcs | ⟨b,o,he,_⟩
        ·simp at hcs
        ·cases he
      ·have heq : ∀ d,(Op.equalIn (d + 1) t (.slice ad xs.length cap) (.slice none 0 0)).run P w = .ok ad.isNone w := fun d => by cases ad <;> simp [Op.equalIn,run_underlying hu]
       have heq := heq 9999
       have h2 : (Op.equal t (.slice ad xs.length cap) (.slice none 0 0)).run P w = .ok ad.isNone w := heq
       simp only [execOp,ho,hv]
       simp [zbv (u := .slice ad xs.length cap) rfl (by simp),binOp,h2,Act.eval]
    ·exact h.elim
   ·exact h.elim
 ·rename_i t ps
  cases ht : T t with
  | none => simp [ht] at h
  | some ti =>
   simp only [ht] at h
   split at h
   ·rename_i e hd
    have hu : P.underlying t = some (.slice e) := by
     have := (hT t ti ht).d
     rw [hd] at this
     exact this
    cases hte : T e with
    | none => simp [hte] at h
    | some te =>
     simp only [hte] at h
     obtain ⟨rfl,hs,hK⟩ := h
     have hty := hT _ te hte
     obtain ⟨z,z1,z2,z3⟩ := zbd hty w
     have hrun := zcz (P := P) (t := t) (n := 0) (pv := #[]) (cs := #[]) hu hty z1 hs (by omega) (by simp [Instr.fill])
     refine ⟨_,.slice (some ⟨w.heap.size,0,none⟩) 0 0,{ w with heap := w.heap.push (.cells #[] e) },hK,yfl (o := .cells #[] e) he hh ⟨rfl,rfl,rfl,rfl⟩ (fun _ => .sg _ [] true _ 0 [] ⟨Nat.le_refl _,Nat.zero_le _,fun _ => rfl⟩ (by simp) ⟨.inl rfl⟩ rfl (by simp) (by simp)),fun o ho => ?_⟩
     simp [execOp,ho,hrun]
   ·exact h.elim
 ·rename_i c
  obtain ⟨callee,args,argTypes⟩ := c
  simp only at h
  split at h
  ·split at h
   ·rename_i d x t u ha hb
    cases ht : T t with
    | none => simp [ht] at h
    | some ti =>
     cases htu : T u with
     | none => simp [ht,htu] at h
     | some tu =>
      simp only [ht,htu] at h
      have hd := (hT t ti ht).d
      have hud := (hT u tu htu).d
      split at h
      ·rename_i e e' hdd hdu
       rw [hdd] at hd
       rw [hdu] at hud
       have hd : P.underlying t = some (.slice e) := hd
       have hud : P.underlying u = some (.slice e') := hud
       cases hte : T e with
       | none => simp [hte] at h
       | some te =>
        simp only [hte] at h
        have hty := hT _ te hte
        have hdv := hev d
        have hxv := hev x
        generalize ev sl d = dv at hdv h
        generalize ev sl x = xv at hxv h
        split at h
        ·rename_i s s' f'
         obtain ⟨hs,hK⟩ := h
         obtain rfl : args = #[d,x] := by rw [← Array.toList_inj]; exact ha
         obtain rfl : argTypes = #[t,u] := by rw [← Array.toList_inj]; exact hb
         generalize hv1 : a.eval d = v1 at hdv
         generalize hv2 : a.eval x = v2 at hxv
         cases hdv with
         | sg _ _ _ ad cap cs hdm hs' hc hl hx' hh' =>
          obtain rfl : cap = 0 := hdm.full rfl
          cases hxv with
          | sg _ _ _ ad2 cap2 cs2 hdm2 hs2 hc2 hl2 hx2 hh2 =>
           refine ⟨_,.slice ad 0 0,w,hK,Post.pure (.sg _ [] true ad 0 cs hdm hs' hc hl hx' hh') hh he,fun o ho => ?_⟩
           have h1 := zjt (P := P) (ty := o.type) hd hud hty ad ad2 cap2 w
           simp only [execOp,ho,resolve,invoke,builtin,Sem.run_bind,Sem.run_pure,Result.andThen_ok]
           simp [hv1,hv2,h1]
        ·rename_i s f'
         obtain ⟨hs,hK⟩ := h
         obtain rfl : args = #[d,x] := by rw [← Array.toList_inj]; exact ha
         obtain rfl : argTypes = #[t,u] := by rw [← Array.toList_inj]; exact hb
         generalize hv1 : a.eval d = v1 at hdv
         generalize hv2 : a.eval x = v2 at hxv
         cases hdv with
         | sg _ _ _ ad cap cs hdm hs' hc hl hx' hh' =>
          obtain rfl : cap = 0 := hdm.full rfl
          cases hxv with
          | sb _ _ ad2 cap2 hdm2 hc2 =>
           refine ⟨_,.slice ad 0 0,w,hK,Post.pure (.sg _ [] true ad 0 cs hdm hs' hc hl hx' hh') hh he,fun o ho => ?_⟩
           have h1 := zjt (P := P) (ty := o.type) hd hud hty ad ad2 cap2 w
           simp only [execOp,ho,resolve,invoke,builtin,Sem.run_bind,Sem.run_pure,Result.andThen_ok]
           simp [hv1,hv2,h1]
        ·rename_i s f'
         obtain ⟨hs,hK⟩ := h
         obtain rfl : args = #[d,x] := by rw [← Array.toList_inj]; exact ha
         obtain rfl : argTypes = #[t,u] := by rw [← Array.toList_inj]; exact hb
         generalize hv1 : a.eval d = v1 at hdv
         generalize hv2 : a.eval x = v2 at hxv
         cases hdv with
         | sg _ _ _ ad cap cs hdm hs' hc hl hx' hh' =>
          obtain rfl : cap = 0 := hdm.full rfl
          cases hxv with
          | si _ _ ad2 cap2 hdm2 hc2 =>
           refine ⟨_,.slice ad 0 0,w,hK,Post.pure (.sg _ [] true ad 0 cs hdm hs' hc hl hx' hh') hh he,fun o ho => ?_⟩
           have h1 := zjt (P := P) (ty := o.type) hd hud hty ad ad2 cap2 w
           simp only [execOp,ho,resolve,invoke,builtin,Sem.run_bind,Sem.run_pure,Result.andThen_ok]
           simp [hv1,hv2,h1]
        ·exact h.elim
      ·exact h.elim
   ·exact h.elim
  ·exact h.elim
 ·exact h.elim
theorem zlq {α β : Type} (f : α → β) : ∀ (l : List α) (j : Nat),(l.eraseIdx j).map f = (l.map f).eraseIdx j
 | [],j => by simp
 | x :: r,0 => by simp
 | x :: r,j + 1 => by simp [zlq f r j]
theorem zmh {α β : Type} [BEq β] [LawfulBEq β] (f : α → β) : ∀ (l : List α) (j : Nat) (hj : j < l.length),(l.map f).Nodup → (l.filter fun x => !(f x == f l[j])) = l.eraseIdx j
 | [],j,hj,_ => by simp at hj
 | x :: r,0,hj,hn => by
  rw [List.map_cons,List.nodup_cons] at hn
  have h1 : ((fun y => !(f y == f (x :: r)[0])) : α → Bool) x = false := by simp
  rw [List.filter_cons_of_neg (by simp),List.eraseIdx_cons_zero]
  refine List.filter_eq_self.2 fun y hy => ?_
  have : f y ≠ f x := fun e => hn.1 (e ▸ List.mem_map_of_mem hy)
  simpa using this
 | x :: r,j + 1,hj,hn => by
  rw [List.map_cons,List.nodup_cons] at hn
  have hj' : j < r.length := by simpa using hj
  have hne : f x ≠ f r[j] := fun e => hn.1 (e ▸ List.mem_map_of_mem (List.getElem_mem hj'))
  simp only [List.getElem_cons_succ,List.eraseIdx_cons_succ]
  rw [List.filter_cons_of_pos (by simpa using hne),zmh f r j hj' hn.2]
def zmp (x : AV) (H : Heap) (K : AV → Heap → Prop) : Prop :=
 match x with
 | .rf id s i f => match look H id with
  | some (.o (.mi es _)) => ((i = 0 ∧ f = 0) ∧ s ≠ 0) ∧ (es = [] → K (.tup [.w (.bool false)]) H) ∧ ∀ (j : Nat) (h : j < es.length),K (.tup [.w (.bool true),es[j].1,es[j].2]) (put H id (.o (.mi (es.eraseIdx j) (some es[j]))))
  | _ => False
 | _ => False
theorem zpl {P : Program} {w0 : World} {E : Nat → Prop} {w : World} {loc : Loc} {H : Heap} (he : Env w0 E w loc) (hh : HR w loc H) {nm : Nat} {ty : TypeId} {x : AV} {v : Value} {K : AV → Heap → Prop} (hx : R w loc x v) (h : zmp x H K) :
  ∃ y H' u w',K y H' ∧ Post w0 E w loc true nm y H' u w' loc ∧ (∀ id b,look H' id = some b → look H id ≠ none) ∧ (Instr.next v false ty).run P w = .ok u w' := by
 unfold zmp at h
 split at h
 ·rename_i id s i f
  split at h
  ·rename_i es now hl
   obtain ⟨⟨⟨rfl,rfl⟩,hs⟩,hz,hK⟩ := h
   cases hx with
   | rf _ _ _ _ _ h =>
    obtain ⟨c,hc,rfl,m,ms,clk,seen,h1,h2,h3,h4⟩ := zek hh h hl
    rw [zax hs,show 0 * s + 0 = 0 from by simp]
    have g1 := zbz (P := P) h1
    have g2 := zbz (P := P) h2
    have hLl : (ms.filter fun e => !seen.contains e.born).toList = ms.toList.filter fun e => !seen.contains e.born := by rw [Array.toList_filter]
    have hlen : (ms.filter fun e => !seen.contains e.born).size = es.length := by
     have := congrArg List.length h4.kv
     rw [List.length_map,List.length_map] at this
     rw [← this,← hLl]; rfl
    generalize hL : (ms.filter fun e => !seen.contains e.born) = L at hLl hlen
    have hLm : ∀ e ∈ L,e ∈ ms.toList := fun e he => by
     have : e ∈ L.toList := by simpa using he
     rw [hLl] at this
     exact (List.mem_filter.1 this).1
    have hold : L.filter (fun e => decide (e.born < clk)) = L := by
     rw [← Array.toList_inj,Array.toList_filter]
     exact List.filter_eq_self.2 fun e he => by simpa using h4.old e (hLm e (by simpa using he))
    have hnew : L.filter (fun e => decide (e.born ≥ clk)) = #[] := by
     rw [← Array.toList_inj,Array.toList_filter]
     refine List.filter_eq_nil_iff.2 fun e he => ?_
     have := h4.old e (hLm e (by simpa using he))
     simp; omega
    by_cases h0 : es.length = 0
    ·have he0 : es = [] := List.eq_nil_of_length_eq_zero h0
     have hL0 : L = #[] := by rw [h0] at hlen; exact Array.eq_empty_of_size_eq_zero hlen
     refine ⟨_,H,.tuple #[.bool false],w,hz he0,Post.pure ?_ hh he,fun id b hb => by rw [hb]; simp,?_⟩
     ·exact .tup [.w (.bool false)] [.bool false] rfl (fun j h5 h6 => by
       have : j = 0 := by simp at h5; omega
       subst this; exact .w _ rfl)
     ·simp only [Instr.next,Sem.run_bind,g1,g2,Result.andThen_ok,next_test_false seen ms clk clk h4.old (Nat.le_refl _),Bool.false_eq_true,if_false,hL,hL0]
      simp [choose,Sem.run,Question.forced]
    ·obtain ⟨j,w1,hj,hw1,hch⟩ : ∃ j w1,j < L.size ∧ (w1 = w ∨ w1 = { w with drawn := w.drawn + 1 }) ∧ (choose (.mapNext L.size)).run P w = .ok j w1 := by
      by_cases hn : L.size ≤ 1
      ·exact ⟨0,w,by omega,.inl rfl,by simp [choose,Sem.run,Question.forced,hn]⟩
      ·refine ⟨(Question.mapNext L.size).cut (w.tape w.drawn (.mapNext L.size)),{ w with drawn := w.drawn + 1 },?_,.inr rfl,by simp [choose,Sem.run,Question.forced,hn]⟩
       simp only [Question.cut]
       exact Nat.mod_lt _ (by omega)
     have hje : j < es.length := by omega
     have hjt : j < (ms.toList.filter fun e => !seen.contains e.born).length := by rw [← hLl]; simpa using hj
     have hke : kvOf L[j] = pp es[j] := by
      have e1 : (ms.toList.filter fun e => !seen.contains e.born)[j]'hjt = L[j] := by simp only [← hLl]; simp
      have e2 := congrArg (fun l : List (Value × Value) => l[j]?) h4.kv
      simp only [List.getElem?_map] at e2
      rw [List.getElem?_eq_getElem hjt,List.getElem?_eq_getElem hje,e1] at e2
      simpa using e2
     generalize hee : L[j] = e at hke
     have hem : e ∈ ms.toList := hLm e (by rw [← hee]; simp)
     have heb := h4.old e hem
     have hcm : m ≠ c := by rintro rfl; exact h3 (.inr ⟨id,hc⟩)
     have hE : Ext (fun _ => False) w loc w1 loc := by rcases hw1 with rfl | rfl <;> exact ⟨Nat.le_refl _,fun _ _ _ => rfl,fun _ _ _ => .inl rfl,fun _ _ h => ⟨rfl,h⟩,fun _ _ _ _ => rfl,fun _ cur _ fz h => ⟨cur,fz,h,rfl⟩⟩
     have hh1 : HR w1 loc H := fun k b hb => by
      by_cases hf : loc.m k = .free
      ·exact BlkR.free hf
      ·exact (hh k b hb).ext hE (fun h => h) hf
     have he1 : Env w0 E w1 loc := by rcases hw1 with rfl | rfl <;> exact ⟨he.os,he.tape,he.output,he.size,he.same,he.inj,he.lies,he.bad⟩
     have h11 : w1.heap[c]? = some (.mapIter (some m) clk seen clk) := by rcases hw1 with rfl | rfl <;> exact h1
     have h21 : w1.heap[m]? = some (.map ms clk) := by rcases hw1 with rfl | rfl <;> exact h2
     have h6 := h4.pure es[j] (List.getElem_mem hje)
     have hpost := zev (y := .mi (es.eraseIdx j) (some es[j])) (nm := nm) (ob' := .mapIter (some m) clk (seen.push e.born) clk) (u := .tup [.w (.bool true),es[j].1,es[j].2]) (v := .tuple #[.bool true,e.key,e.val]) he1 hh1 hc h11 rfl ⟨m,ms,clk,_,znh h11,by
       simp only
       rw [Array.getElem?_setIfInBounds,if_neg (Ne.symm hcm)]; exact h21,h3,by
       refine ⟨?_,fun q hq => h4.pure q (List.mem_of_mem_eraseIdx hq),h4.nd,h4.old,fun q hq => ?_⟩
       ·have h5 : (ms.toList.filter fun x => !(seen.push e.born).contains x.born) = (ms.toList.filter fun x => !seen.contains x.born).filter fun x => !(x.born == e.born) := by
         rw [List.filter_filter]
         refine List.filter_congr fun x _ => ?_
         rw [contains_push,Bool.not_or,Bool.and_comm]
        have h7 : e = (ms.toList.filter fun x => !seen.contains x.born)[j]'hjt := by rw [← hee]; simp only [← hLl]; simp
        rw [h5]
        have h8 := zmh (fun x : MapEntry => x.born) (ms.toList.filter fun x => !seen.contains x.born) j hjt (h4.nd.sublist (List.Sublist.map _ List.filter_sublist))
        rw [← h7] at h8
        rw [h8,zlq,h4.kv,← zlq]
       ·injection hq with hq; subst hq
        exact ⟨h6,e,hem,by simp,hke⟩⟩ (by
       have e1 : e.key = pv es[j].1 := congrArg Prod.fst hke
       have e2 : e.val = pv es[j].2 := congrArg Prod.snd hke
       intro w2 loc2
       rw [e1,e2]
       exact .tup [.w (.bool true),es[j].1,es[j].2] [.bool true,pv es[j].1,pv es[j].2] rfl (fun k h7 h8 => by
        have : k = 0 ∨ k = 1 ∨ k = 2 := by simp at h7; omega
        rcases this with rfl | rfl | rfl
        ·exact .w _ rfl
        ·exact zio (zdj h6.1)
        ·exact zio h6.2))
     have hpost' : Post w0 E w loc true nm (.tup [.w (.bool true),es[j].1,es[j].2]) (put H id (.o (.mi (es.eraseIdx j) (some es[j])))) (.tuple #[.bool true,e.key,e.val]) { w1 with heap := w1.heap.setIfInBounds c (.mapIter (some m) clk (seen.push e.born) clk) } loc := by
      rcases hw1 with rfl | rfl
      ·exact hpost
      ·exact ⟨hpost.r,hpost.h,hpost.env,by obtain ⟨C,h,h'⟩ := hpost.ext; exact ⟨C,⟨h.size,h.keep,h.gone,h.imm,h.own,h.shape⟩,h'⟩,hpost.fresh,hpost.bad⟩
     refine ⟨_,_,_,_,hK j hje,hpost',fun k b hb => ?_,?_⟩
     ·rw [zao] at hb
      split at hb
      ·rename_i e; subst e; rw [hl]; simp
      ·rw [hb]; simp
     ·have hne : L.isEmpty = false := by
       cases hi : L.isEmpty with
       | false => rfl
       | true => have := Array.isEmpty_iff.1 hi; subst this; simp at hj
      simp only [Instr.next,Sem.run_bind,g1,g2,Result.andThen_ok,next_test_false seen ms clk clk h4.old (Nat.le_refl _),Bool.false_eq_true,if_false,hL,hold,hnew]
      have hca : ((if L.isEmpty then #[none] else #[]) ++ (L ++ #[]).map some : Array (Option MapEntry)) = L.map some := by rw [hne]; simp
      rw [hca]
      simp only [Array.size_map,hch,Result.andThen_ok]
      simp [hj,hee,zdi h11]
  ·exact h.elim
 ·exact h.elim
def znf (T : zab) (sl : List AV) (op : Op) (H : Heap) (K : AV → Heap → Prop) : Prop :=
 match op with
 | .next x false => zmp (ev sl x) H K
 | op => zng T sl op (fun x => K x H)
theorem zsb {P : Program} {w0 : World} {E : Nat → Prop} {T : zab} (hT : TOk P T) {w : World} {loc : Loc} {H : Heap} (he : Env w0 E w loc) (hh : HR w loc H) {nm : Nat} {sl : List AV} {a : Act} {op : Op} {K : AV → Heap → Prop} (hev : ∀ x,R w loc (ev sl x) (a.eval x)) (h : znf T sl op H K) :
  ∃ x H' v w',K x H' ∧ Post w0 E w loc true nm x H' v w' loc ∧ (∀ id b,look H' id = some b → look H id ≠ none) ∧ ∀ o : Oper,o.op = op → (execOp a.eval o).run P w = .ok (.value v) w' := by
 have key : zng T sl op (fun x => K x H) → ∃ x H' v w',K x H' ∧ Post w0 E w loc true nm x H' v w' loc ∧ (∀ id b,look H' id = some b → look H id ≠ none) ∧ ∀ o : Oper,o.op = op → (execOp a.eval o).run P w = .ok (.value v) w' := fun h => by
  obtain ⟨x,v,w',h1,h2,h3⟩ := ztj (P := P) (nm := nm) hT he hh hev h
  exact ⟨x,H,v,w',h1,h2,fun id b hb => by rw [hb]; simp,h3⟩
 unfold znf at h
 split at h
 ·rename_i x
  obtain ⟨y,H',u,w',h1,h2,h3,h4⟩ := zpl (P := P) (nm := nm) (ty := 0) he hh (hev x) h
  refine ⟨y,H',u,w',h1,h2,h3,fun o ho => ?_⟩
  have h5 : (Instr.next (a.eval x) false o.type).run P w = .ok u w' := h4
  simp [execOp,ho,h5]
 ·exact key h
def zmc (S : zae) (T : zab) (ops : List Oper) : List Bool → Nat → List Oper → List AV → Heap → (List AV → Heap → Prop) → Prop
 | _,_,[],sl,H,Q => Q sl H
 | [],nm,r,sl,H,Q => aops S T ops nm r sl H Q
 | true :: l,nm,o :: r,sl,H,Q => o.guard = none ∧ znf T sl o.op H (fun x H => zmc S T ops l (nm + 8) r (zah sl o.dst x) H Q)
 | false :: l,nm,o :: r,sl,H,Q => o.guard = none ∧ (aop S T nm sl o.op H).p ∧ zmc S T ops l (nm + 8) r (zah sl o.dst (aop S T nm sl o.op H).x) (aop S T nm sl o.op H).H Q
theorem zju {P : Program} {w0 : World} {E : Nat → Prop} {T : zab} {S : zae} (hT : TOk P T) (hS : Fns P S) {ops : Array Oper} {K : Exit → Act → World → Prop} {Q : List AV → Heap → Prop} {B : Bs} {nz : Nat}
  (hK : ∀ sl H a w loc,Base w0 B w loc → Rel' w0 E loc ⟨sl,H,nz⟩ a w → Q sl H → K .normal a w) : ∀ (k : List Bool) (r : List Oper) (nm : Nat) (sl : List AV) (H : Heap) (a : Act) (w : World) (loc : Loc),nz = nm + 8 * r.length → Base w0 B w loc →
  Rel' w0 E loc ⟨sl,H,nm⟩ a w → zmc S T ops.toList k nm r sl H Q → wpList P ops K r a w
 | k,[],nm,sl,H,a,w,loc,hz,hb,hr,h => by
  simp only [List.length_nil,Nat.mul_zero,Nat.add_zero] at hz
  subst hz
  exact wpList_nil (hK sl H a w loc hb hr (by cases k with | nil => exact h | cons b _ => cases b <;> exact h))
 | [],o :: r,nm,sl,H,a,w,loc,hz,hb,hr,h => zcw (ops := ops) hT hS hK (o :: r) nm sl H a w loc hz hb hr h
 | true :: l,o :: r,nm,sl,H,a,w,loc,hz,hb,hr,h => by
  have hz' : nz = nm + 8 + 8 * r.length := by simp at hz; omega
  obtain ⟨hg,hp⟩ := h
  refine wpList_step fun Kn hKn => ?_
  rw [if_pos (by simp [Region.wanted,hg])]
  obtain ⟨x,H',v,w',hrest,hpost,hin,hrun⟩ := zsb (P := P) (nm := nm) hT hr.env hr.heap (fun x => ev_R hr.slots x) hp
  exact (zam (w' := w') (loc' := loc) (out := ⟨True,x,H'⟩) (hrun o rfl) hpost) Kn K (fun v w' loc' hpost => hKn _ _ (zju hT hS hK l r (nm + 8) _ _ _ w' loc' hz' (hb.post hpost) (zfk hr hpost (fun id b hl => Or.inl (hin id b hl)) o.dst) hrest))
 | false :: l,o :: r,nm,sl,H,a,w,loc,hz,hb,hr,h => by
  have hz' : nz = nm + 8 + 8 * r.length := by simp at hz; omega
  obtain ⟨hg,hp,hrest⟩ := h
  refine wpList_step fun Kn hKn => ?_
  rw [if_pos (by simp [Region.wanted,hg])]
  have hop := zcb hT hS hr.env hr.heap (fun id h1 _ => hr.fresh id h1) o (fun x _ => ev_R hr.slots x) hp
  exact hop Kn K (fun v w' loc' hpost => hKn _ _ (zju hT hS hK l r (nm + 8) _ _ _ w' loc' hz' (hb.post hpost) (zfk hr hpost (zei hp) o.dst) hrest))
inductive RP where
 | std
 | frz (fs : List Nat)
 | opn (fs : List Nat) (k : Nat)
 | prs (l : List (Nat × Nat))
 | tst (k : List Bool)
 | wkp (l : List (Nat × Nat))
 | drs (l : List (Nat × Nat)) (k : Nat)
 | drf (l : List (Nat × Nat)) (k f : Nat)
 | wks
abbrev zwv := Nat → RP
def yhj (T : zab) (f : Nat) (ops : List Oper) : Bool := match ops[f]? with
 | some o => zqz T o
 | none => false
def zcr (T : zab) (pl : zwv) : Code → Bool
 | .region id ops draw => match pl id with
  | .std => !draw || zkx T ops.toList
  | .frz _ => !draw || zkx T ops.toList
  | .opn _ _ => !draw
  | .tst _ => !draw
  | .prs p => draw && zgr T ops.toList p
  | .wkp p => draw && zgr T ops.toList p
  | .wks => !draw || zkx T ops.toList
  | .drs p k => draw && (decide (k ≤ ops.toList.length) && (zgr T (ops.toList.take k) p && yqi k ops.toList))
  | .drf p k f => draw && (decide (k < ops.toList.length ∧ f < k) && (zgr T (ops.toList.take k) p && (zmd f k ops.toList && yhj T f ops.toList)))
 | .seq a b => zcr T pl a && zcr T pl b
 | .cond _ a b => zcr T pl a && zcr T pl b
 | .block _ c => zcr T pl c
 | .loop c => zcr T pl c
 | _ => true
def wkF (S : zae) (T : zab) (l : List Oper) (p : List (Nat × Nat)) (nx : Nat) (sl : List AV) (H : Heap) (Q : Exit → ASt → Prop) : Prop := ∃ sl' H',Weak ⟨sl,H,nx⟩ ⟨sl',H',nx⟩ ∧ zfg S T l p nx [] l sl' H' (regK (nx + 8 * l.length) Q)
def drF (S SO : zae) (T : zab) (l : List Oper) (p : List (Nat × Nat)) (k nx : Nat) (sl : List AV) (H : Heap) (Q : Exit → ASt → Prop) : Prop :=
 ∃ sl' H',Weak ⟨sl,H,nx⟩ ⟨sl',H',nx⟩ ∧ zfg S T (l.take k) p nx [] (l.take k) sl' H' (fun sl H => zmm S SO T l 0 (nx + 8 * k) (l.drop k) sl H (regK (nx + 8 * l.length) Q))
def zyv (l : List Oper) (k f : Nat) : List Oper := match l.drop k,l[f]? with
 | c :: r,some o => c :: o :: r
 | _,_ => []
def dstF (l : List Oper) (f : Nat) : Option Tmp := match l[f]? with
 | some o => o.dst
 | none => none
def dfF (S SO : zae) (T : zab) (l : List Oper) (p : List (Nat × Nat)) (k f nx : Nat) (sl : List AV) (H : Heap) (Q : Exit → ASt → Prop) : Prop :=
 ∃ sl' H',Weak ⟨sl,H,nx⟩ ⟨sl',H',nx⟩ ∧ zfg S T (l.take k) p nx [] (l.take k) sl' H' (fun sl H => zmm S SO T l 0 (nx + 8 * k) (l.drop k) sl H (regK (nx + 8 * (l.length + 1)) Q) ∧ zmm S SO T l 0 (nx + 8 * k) (zyv l k f) (zah sl (dstF l f) .junk) H (regK (nx + 8 * (l.length + 1)) Q))
def wsF (S : zae) (T : zab) (l : List Oper) (nx : Nat) (sl : List AV) (H : Heap) (Q : Exit → ASt → Prop) : Prop := ∃ sl' H',Weak ⟨sl,H,nx⟩ ⟨sl',H',nx⟩ ∧ aops S T l nx l sl' H' (regK (nx + 8 * l.length) Q)
def awpO (S SO : zae) (T : zab) (pl : zwv) : Code → (Exit → ASt → Prop) → ASt → Prop
 | .skip,Q,σ => Q .normal σ
 | .label _,Q,σ => Q .normal σ
 | .region id ops _,Q,σ => match pl id with
  | .std => aops S T ops.toList σ.nx ops.toList σ.sl σ.H (regK (σ.nx + 8 * ops.toList.length) Q)
  | .prs p => zfg S T ops.toList p σ.nx [] ops.toList σ.sl σ.H (regK (σ.nx + 8 * ops.toList.length) Q)
  | .frz fs => frzK fs σ.sl σ.H (fun sl H => aops S T ops.toList σ.nx ops.toList sl H (regK (σ.nx + 8 * ops.toList.length) Q))
  | .opn fs k => frzK fs σ.sl σ.H (fun sl H => zmm S SO T ops.toList k σ.nx ops.toList sl H (regK (σ.nx + 8 * ops.toList.length) Q))
  | .tst k => zmc S T ops.toList k σ.nx ops.toList σ.sl σ.H (regK (σ.nx + 8 * ops.toList.length) Q)
  | .wkp p => wkF S T ops.toList p σ.nx σ.sl σ.H Q
  | .drs p k => drF S SO T ops.toList p k σ.nx σ.sl σ.H Q
  | .drf p k f => dfF S SO T ops.toList p k f σ.nx σ.sl σ.H Q
  | .wks => wsF S T ops.toList σ.nx σ.sl σ.H Q
 | .seq a b,Q,σ => awpO S SO T pl a (seqK (awpO S SO T pl b Q) Q) σ
 | .cond c a b,Q,σ => match ev σ.sl c with
   | .w (.bool t) => zhb t (awpO S SO T pl a Q σ) (awpO S SO T pl b Q σ)
   | _ => False
 | .block id c,Q,σ => awpO S SO T pl c (zgg id Q) σ
 | .loop c,Q,σ => yjo (awpO S SO T pl c) Q σ
 | .exit id,Q,σ => Q (.exit id) σ
 | .ret,Q,σ => Q .ret σ
 | _,_,_ => False
open Classical in
theorem ydx {P : Program} {w0 : World} {E : Nat → Prop} {T : zab} {S SO : zae} {pl : zwv} (hm : P.follows .mixedOrders = true) (hT : TOk P T) (hS : Fns P S) (hSO : FnsO P SO) {B : Bs} : ∀ (c : Code) (Q : Exit → ASt → Prop) (σ : ASt) (a : Act) (w : World),
  zcr T pl c = true → awpO S SO T pl c Q σ → Rel w0 E B σ a w → c.wp P (Low w0 E B Q) a w := by
 intro c
 induction c with
 | skip => intro Q σ a w hdr h hr; exact wp_skip ⟨σ,hr,h⟩
 | label l => intro Q σ a w hdr h hr; exact wp_label ⟨σ,hr,h⟩
 | ret => intro Q σ a w hdr h hr; exact wp_ret ⟨σ,hr,h⟩
 | exit id => intro Q σ a w hdr h hr; exact wp_exit ⟨σ,hr,h⟩
 | region id ops draw =>
  intro Q σ a w hdr h hr
  obtain ⟨loc,hb,hr⟩ := hr
  obtain ⟨sl,H,nx⟩ := σ
  have hK : ∀ sl H a w loc,Base w0 B w loc → Rel' w0 E loc ⟨sl,H,nx + 8 * ops.toList.length⟩ a w → regK (nx + 8 * ops.toList.length) Q sl H → Low w0 E B Q .normal a w := fun sl H a w loc h1 h2 h3 => ⟨_,⟨loc,h1,h2⟩,h3⟩
  simp only [zcr] at hdr
  simp only [awpO] at h
  cases hp : pl id with
  | std =>
   simp only [hp] at hdr h
   cases draw with
   | false => exact wp_region_list (zcw hT hS hK ops.toList nx sl H a w loc rfl hb hr h)
   | true => exact zen hT hS hm w0 E ops.toList _ _ B nx sl H a w loc id (by simpa using hdr) hK hb hr h
  | prs p =>
   simp only [hp] at hdr h
   simp only [Bool.and_eq_true] at hdr
   obtain ⟨hd1,hd2⟩ := hdr
   subst hd1
   exact zjn hT hS hm hd2 hK hb hr h
  | frz fs =>
   simp only [hp] at hdr h
   obtain ⟨sl',H',hw,h⟩ := zqv (nx := nx) _ _ _ _ h
   obtain ⟨loc',hb',hr'⟩ := hw _ _ _ _ _ ⟨loc,hb,hr⟩
   cases draw with
   | false => exact wp_region_list (zcw hT hS hK ops.toList nx sl' H' a w loc' rfl hb' hr' h)
   | true => exact zen hT hS hm w0 E ops.toList _ _ B nx sl' H' a w loc' id (by simpa using hdr) hK hb' hr' h
  | opn fs k =>
   simp only [hp] at hdr h
   obtain ⟨sl',H',hw,h⟩ := zqv (nx := nx) _ _ _ _ h
   obtain ⟨loc',hb',hr'⟩ := hw _ _ _ _ _ ⟨loc,hb,hr⟩
   cases draw with
   | false => exact wp_region_list (zff hT hS hSO hK k ops.toList nx sl' H' a w loc' rfl hb' hr' h)
   | true => simp at hdr
  | tst k =>
   simp only [hp] at hdr h
   cases draw with
   | false => exact wp_region_list (zju hT hS hK k ops.toList nx sl H a w loc rfl hb hr h)
   | true => simp at hdr
  | wkp p =>
   simp only [hp] at hdr h
   simp only [Bool.and_eq_true] at hdr
   obtain ⟨hd1,hd2⟩ := hdr
   subst hd1
   obtain ⟨sl',H',hw,h⟩ := h
   obtain ⟨loc',hb',hr'⟩ := hw _ _ _ _ _ ⟨loc,hb,hr⟩
   exact zjn hT hS hm hd2 hK hb' hr' h
  | wks =>
   simp only [hp] at hdr h
   obtain ⟨sl',H',hw,h⟩ := h
   obtain ⟨loc',hb',hr'⟩ := hw _ _ _ _ _ ⟨loc,hb,hr⟩
   cases draw with
   | false => exact wp_region_list (zcw hT hS hK ops.toList nx sl' H' a w loc' rfl hb' hr' h)
   | true => exact zen hT hS hm w0 E ops.toList _ _ B nx sl' H' a w loc' id (by simpa using hdr) hK hb' hr' h
  | drs p k =>
   simp only [hp] at hdr h
   simp only [Bool.and_eq_true,decide_eq_true_eq] at hdr
   obtain ⟨hd1,hd0,hd2,hd3⟩ := hdr
   subst hd1
   obtain ⟨sl',H',hw,h⟩ := h
   obtain ⟨loc',hb',hr'⟩ := hw _ _ _ _ _ ⟨loc,hb,hr⟩
   have hlk : (ops.toList.take k).length = k := by rw [List.length_take]; omega
   have e : ops = (ops.toList.take k ++ ops.toList.drop k).toArray := by rw [List.take_append_drop]
   have e2 : ops.toList.take k ++ ops.toList.drop k = ops.toList := List.take_append_drop _ _
   have hz : nx + 8 * ops.toList.length = nx + 8 * k + 8 * (ops.toList.drop k).length := by rw [List.length_drop]; omega
   rw [e]
   refine zop (l := ops.toList.take k) (suf := ops.toList.drop k) (fl := k) hT hS hm hd2 (by rw [hlk,e2]; exact hd3) (fun sl2 H2 a2 w2 loc2 hb2 hr2 hq => ?_) (fun of c hof => by rw [List.getElem?_eq_none (by omega)] at hof; cases hof) hb' hr' h
   rw [hlk] at hr2
   refine zff (ops := (ops.toList.take k ++ ops.toList.drop k).toArray) hT hS hSO hK 0 (ops.toList.drop k) (nx + 8 * k) sl2 H2 a2 w2 loc2 hz hb2 hr2 ?_
   rw [← e]; exact hq
  | drf p k f =>
   simp only [hp] at hdr h
   simp only [Bool.and_eq_true,decide_eq_true_eq] at hdr
   obtain ⟨hd1,⟨hd0,hdf⟩,hd2,hd3,hd4⟩ := hdr
   subst hd1
   obtain ⟨sl',H',hw,h⟩ := h
   obtain ⟨loc',hb',hr'⟩ := hw _ _ _ _ _ ⟨loc,hb,hr⟩
   have hlk : (ops.toList.take k).length = k := by rw [List.length_take]; omega
   have e : ops = (ops.toList.take k ++ ops.toList.drop k).toArray := by rw [List.take_append_drop]
   have e2 : ops.toList.take k ++ ops.toList.drop k = ops.toList := List.take_append_drop _ _
   have hdl : (ops.toList.drop k).length = ops.toList.length - k := List.length_drop
   have hK1 : ∀ sl H a w loc,Base w0 B w loc → Rel' w0 E loc ⟨sl,H,nx + 8 * ops.toList.length⟩ a w → regK (nx + 8 * (ops.toList.length + 1)) Q sl H → Low w0 E B Q .normal a w := fun sl H a w loc h1 h2 h3 =>
    ⟨⟨sl,H,nx + 8 * (ops.toList.length + 1)⟩,⟨loc,h1,⟨h2.size,h2.slots,h2.heap,h2.env,fun id hid => h2.fresh id (by simp only at hid ⊢; omega),h2.defers,fun id b hl => by have := h2.low id b hl; simp only at this ⊢; omega⟩⟩,h3⟩
   have hK3 : ∀ sl H a w loc,Base w0 B w loc → Rel' w0 E loc ⟨sl,H,nx + 8 * (ops.toList.length + 1)⟩ a w → regK (nx + 8 * (ops.toList.length + 1)) Q sl H → Low w0 E B Q .normal a w := fun sl H a w loc h1 h2 h3 => ⟨_,⟨loc,h1,h2⟩,h3⟩
   rw [e]
   refine zop (l := ops.toList.take k) (suf := ops.toList.drop k) (fl := f) hT hS hm hd2 (by rw [hlk,e2]; exact hd3) (fun sl2 H2 a2 w2 loc2 hb2 hr2 hq => ?_) (fun of c hof hc => ?_) hb' hr' h
   ·rw [hlk] at hr2
    refine zff (ops := (ops.toList.take k ++ ops.toList.drop k).toArray) hT hS hSO hK1 0 (ops.toList.drop k) (nx + 8 * k) sl2 H2 a2 w2 loc2 (by omega) hb2 hr2 ?_
    rw [← e]; exact hq.1
   ·have hof2 : ops.toList[f]? = some of := by
     rw [List.getElem?_take] at hof
     rw [if_pos hdf] at hof
     exact hof
    unfold yhj at hd4
    rw [hof2] at hd4
    refine ⟨hd4,fun sl2 H2 a2 w2 loc2 hb2 hr2 hq => ?_⟩
    rw [hlk] at hr2
    have hdr : ops.toList.drop k = c :: (ops.toList.drop k).drop 1 := by
     cases hdd : ops.toList.drop k with
     | nil => rw [hdd] at hc; cases hc
     | cons x r => rw [hdd] at hc; injection hc with hc; subst hc; rfl
    have hq2 := hq.2
    have hbe : zyv ops.toList k f = c :: of :: (ops.toList.drop k).drop 1 := by
     unfold zyv
     rw [hof2]
     cases hdd : ops.toList.drop k with
     | nil => rw [hdd] at hc; cases hc
     | cons x r => rw [hdd] at hc; injection hc with hc; subst hc; rfl
    have hdst : dstF ops.toList f = of.dst := by unfold dstF; rw [hof2]
    rw [hbe,hdst] at hq2
    refine zff (ops := (ops.toList.take k ++ ops.toList.drop k).toArray) hT hS hSO hK3 0 _ (nx + 8 * k) _ H2 a2 w2 loc2 (by simp only [List.length_cons,List.length_drop]; omega) hb2 hr2 ?_
    rw [← e]; exact hq2
 | seq x y ihx ihy =>
  intro Q σ a w hdr h hr
  refine wp_seq (wp_mono (ihx _ σ a w (by simp only [zcr,Bool.and_eq_true] at hdr; exact hdr.1) h hr) ?_)
  rintro e a' w' ⟨σ',hr',hq⟩
  cases e with
  | normal => exact ihy Q σ' a' w' (by simp only [zcr,Bool.and_eq_true] at hdr; exact hdr.2) hq hr'
  | _ => exact ⟨σ',hr',hq⟩
 | cond c x y ihx ihy =>
  intro Q σ a w hdr h hr
  simp only [awpO,zhb] at h
  simp only [zcr,Bool.and_eq_true] at hdr
  obtain ⟨loc,hb,hr⟩ := hr
  split at h
  ·rename_i t hc
   have hv := ev_R hr.slots c
   rw [hc] at hv
   have hv := hv.wv
   cases t with
   | true => exact wp_cond_true hv (ihx Q σ a w hdr.1 (h.1 rfl) ⟨loc,hb,hr⟩)
   | false => exact wp_cond_false hv (ihy Q σ a w hdr.2 (h.2 rfl) ⟨loc,hb,hr⟩)
  ·exact h.elim
 | block id c ih =>
  intro Q σ a w hdr h hr
  refine wp_block (wp_mono (ih _ σ a w hdr h hr) ?_)
  rintro e a' w' ⟨σ',hr',hq⟩
  cases e with
  | exit id' =>
   simp only [zgg,Exit.inBlock] at hq ⊢
   split at hq
   ·rename_i he; rw [if_pos he]; exact ⟨σ',hr',hq⟩
   ·rename_i he; rw [if_neg he]; exact ⟨σ',hr',hq⟩
  | _ => exact ⟨σ',hr',hq⟩
 | loop c ih =>
  intro Q σ a w hdr h hr
  obtain ⟨I,⟨n0,σ0,hw0,hI0⟩,hround⟩ := h
  let p : Act → World → Nat → Prop := fun a w n => ∃ σ,Rel w0 E B σ a w ∧ I n σ
  have hleast : ∀ a w,(∃ n,p a w n) → ∃ m,p a w m ∧ ∀ k,p a w k → m ≤ k := fun a w ⟨n,hn⟩ => let ⟨m,h1,_,h3⟩ := ykl n hn; ⟨m,h1,h3⟩
  let μ : Act → World → Nat := fun a w => if h : ∃ n,p a w n then Classical.choose (hleast a w h) else 0
  refine wp_loop (fun a w => ∃ n,p a w n) μ ⟨n0,σ0,hw0 w0 E B a w hr,hI0⟩ ?_
  intro a w hex
  have hμ : μ a w = Classical.choose (hleast a w hex) := dif_pos hex
  obtain ⟨⟨σ1,hr1,hI1⟩,hmin⟩ := Classical.choose_spec (hleast a w hex)
  rw [← hμ] at hI1
  refine wp_mono (ih _ σ1 a w hdr (hround _ σ1 hI1) hr1) ?_
  rintro e a' w' ⟨σ',hr',hq⟩
  cases e with
  | normal =>
   obtain ⟨m,σ2,hlt,hw2,hI2⟩ := hq
   have hp : p a' w' m := ⟨σ2,hw2 w0 E B a' w' hr',hI2⟩
   refine ⟨⟨m,hp⟩,?_⟩
   have hμ' : μ a' w' = Classical.choose (hleast a' w' ⟨m,hp⟩) := dif_pos ⟨m,hp⟩
   have := (Classical.choose_spec (hleast a' w' ⟨m,hp⟩)).2 m hp
   rw [← hμ'] at this
   exact Nat.lt_of_le_of_lt this hlt
  | _ =>
   obtain ⟨σ2,hw2,hq⟩ := hq
   exact ⟨σ2,hw2 w0 E B a' w' hr',hq⟩
 | _ => intro Q σ a w hdr h hr; exact h.elim
theorem zqy {P : Program} {T : zab} {S SO : zae} (hm : P.follows .mixedOrders = true) (hT : TOk P T) (hS : Fns P S) (hSO : FnsO P SO) {f : FuncId} {fn : Func} {c : Code} (hf : P.funcs[f]? = some fn) (hb : fn.body = some c) {spec : zaz}
  (h : ∀ xs pins,(spec xs pins).p → closedB pins = true → pins.length ≤ 4 ∧ ∃ pl,zcr T pl c = true ∧ awpO S SO T pl c (yeb T fn.results.toList pins (spec xs pins)) ⟨xs ++ List.replicate (fn.ntmps - xs.length) .junk,pinHeap 0 pins,4⟩) : zbk P f spec :=
 ycg (S := S) hT hS hf hb (Qp := fun xs pins => yeb T fn.results.toList pins (spec xs pins)) (fun _ _ _ _ h => h) (fun xs pins hp hc => ⟨(h xs pins hp hc).1,fun w0 E B a w hr => (h xs pins hp hc).2.elim fun pl hh => ydx hm hT hS hSO c _ _ _ _ hh.1 hh.2 hr⟩)
def yac (S SO : zae) (T : zab) (pl : zwv) (b : Code) (Q : Exit → ASt → Prop) : Exit → ASt → Prop := seqK (awpO S SO T pl b Q) Q
section rules
variable {S SO : zae} {T : zab} {pl : zwv} {Q : Exit → ASt → Prop} {σ : ASt}
theorem zwk : awpO S SO T pl .skip Q σ = Q .normal σ := rfl
theorem zrj {l : Nat} : awpO S SO T pl (.label l) Q σ = Q .normal σ := rfl
theorem ybr : awpO S SO T pl .ret Q σ = Q .ret σ := rfl
theorem zwl {id : Nat} : awpO S SO T pl (.exit id) Q σ = Q (.exit id) σ := rfl
theorem zpb {id : Nat} {l : List Oper} {draw : Bool} : awpO S SO T pl (.region id l.toArray draw) Q σ = match pl id with
  | .std => aops S T l σ.nx l σ.sl σ.H (regK (σ.nx + 8 * l.length) Q)
  | .prs p => zfg S T l p σ.nx [] l σ.sl σ.H (regK (σ.nx + 8 * l.length) Q)
  | .frz fs => frzK fs σ.sl σ.H (fun sl H => aops S T l σ.nx l sl H (regK (σ.nx + 8 * l.length) Q))
  | .opn fs k => frzK fs σ.sl σ.H (fun sl H => zmm S SO T l k σ.nx l sl H (regK (σ.nx + 8 * l.length) Q))
  | .tst k => zmc S T l k σ.nx l σ.sl σ.H (regK (σ.nx + 8 * l.length) Q)
  | .wkp p => wkF S T l p σ.nx σ.sl σ.H Q
  | .drs p k => drF S SO T l p k σ.nx σ.sl σ.H Q
  | .drf p k f => dfF S SO T l p k f σ.nx σ.sl σ.H Q
  | .wks => wsF S T l σ.nx σ.sl σ.H Q := by
 unfold awpO; cases pl id <;> rfl
theorem ybq {a b : Code} : awpO S SO T pl (.seq a b) Q σ = awpO S SO T pl a (yac S SO T pl b Q) σ := rfl
theorem zrk {id : Nat} {c : Code} : awpO S SO T pl (.block id c) Q σ = awpO S SO T pl c (zgg id Q) σ := rfl
theorem zwm {c : Operand} {a b : Code} : awpO S SO T pl (.cond c a b) Q σ = match ev σ.sl c with
   | .w (.bool t) => zhb t (awpO S SO T pl a Q σ) (awpO S SO T pl b Q σ)
   | _ => False := rfl
theorem zay {b : Code} : yac S SO T pl b Q .normal σ = awpO S SO T pl b Q σ := rfl
theorem znz {b : Code} {id : Nat} : yac S SO T pl b Q (.exit id) σ = Q (.exit id) σ := rfl
theorem zqq {b : Code} : yac S SO T pl b Q .ret σ = Q .ret σ := rfl
variable {ops r : List Oper} {o : Oper} {nm k : Nat} {sl : List AV} {H : Heap} {Q' : List AV → Heap → Prop}
def yfm (q : Out) (sl : List AV) (dst : Option Tmp) (K : List AV → Heap → Prop) : Prop := q.p ∧ K (zah sl dst q.x) q.H
theorem ycq {q : Out} {dst : Option Tmp} {K : List AV → Heap → Prop} : yfm q sl dst K = (q.p ∧ K (zah sl dst q.x) q.H) := rfl
theorem zrs {dst : Option Tmp} {op : Op} {type : TypeId} {pos : String} {after : Array Edge} : zmm S SO T ops 0 nm (⟨dst,op,type,pos,after,none⟩ :: r) sl H Q' =
  yfm (zci SO T nm sl op H) sl dst (fun sl' H' => aops S T ops (nm + 8) r sl' H' Q') := by
 simp [zmm,yfm]
theorem zrt {dst : Option Tmp} {op : Op} {type : TypeId} {pos : String} {after : Array Edge} : zmm S SO T ops (k + 1) nm (⟨dst,op,type,pos,after,none⟩ :: r) sl H Q' =
  ((aop S T nm sl op H).p ∧ zmm S SO T ops k (nm + 8) r (zah sl dst (aop S T nm sl op H).x) (aop S T nm sl op H).H Q') := by
 simp [zmm]
theorem zws : zmc S T ops [] nm r sl H Q' = aops S T ops nm r sl H Q' := by
 cases r <;> rfl
theorem zrr {l : List Bool} : zmc S T ops l nm [] sl H Q' = Q' sl H := by
 cases l with
 | nil => rfl
 | cons b _ => cases b <;> rfl
theorem yjf {l : List Bool} {dst : Option Tmp} {op : Op} {type : TypeId} {pos : String} {after : Array Edge} : zmc S T ops (true :: l) nm (⟨dst,op,type,pos,after,none⟩ :: r) sl H Q' =
  (znf T sl op H (fun x H => zmc S T ops l (nm + 8) r (zah sl dst x) H Q')) := by
 simp [zmc]
theorem yjg {l : List Bool} {dst : Option Tmp} {op : Op} {type : TypeId} {pos : String} {after : Array Edge} : zmc S T ops (false :: l) nm (⟨dst,op,type,pos,after,none⟩ :: r) sl H Q' =
  ((aop S T nm sl op H).p ∧ zmc S T ops l (nm + 8) r (zah sl dst (aop S T nm sl op H).x) (aop S T nm sl op H).H Q') := by
 simp [zmc]
end rules
end Ax
end Go.Proofs.Ytffdpbbbdmmdlaa
namespace Go.Proofs.Ytffdpbbbdmmdlaa
open Ax
theorem evTO : (type_of% @zwk) ∧
  (type_of% @zrj) ∧
  (type_of% @ybr) ∧
  (type_of% @zwl) ∧
  (type_of% @zpb) ∧
  (type_of% @ybq) ∧
  (type_of% @zrk) ∧
  (type_of% @zwm) ∧
  (type_of% @znz) ∧
  (type_of% @zqq) ∧
  (type_of% @zrs) ∧
  (type_of% @zrt) ∧
  (type_of% @zws) ∧
  (type_of% @zrr) ∧
  (type_of% @yjf) ∧
  (type_of% @yjg) :=
 ⟨@zwk,@zrj,@ybr,@zwl,@zpb,@ybq,@zrk,@zwm,@znz,@zqq,@zrs,@zrt,@zws,@zrr,@yjf,@yjg⟩
theorem evDO : (type_of% @Ax.frzS.eq_1) ∧
  (type_of% @Ax.frzL.eq_1) ∧
  (type_of% @Ax.frzL.eq_2) ∧
  (type_of% @Ax.fzL.eq_1) ∧
  (type_of% @Ax.fzL.eq_2) ∧
  (type_of% @Ax.fzH.eq_1) ∧
  (type_of% @Ax.fzH.eq_2) ∧
  (type_of% @Ax.AV.fz.eq_1) ∧
  (type_of% @Ax.AV.fz.eq_2) ∧
  (type_of% @Ax.AV.fz.eq_3) ∧
  (type_of% @Ax.AV.fz.eq_4) ∧
  (type_of% @Ax.AV.fz.eq_5) ∧
  (type_of% @Ax.fiL.eq_1) ∧
  (type_of% @Ax.fiL.eq_2) ∧
  (type_of% @Ax.fiH.eq_1) ∧
  (type_of% @Ax.fiH.eq_2) ∧
  (type_of% @Ax.AV.fi.eq_1) ∧
  (type_of% @Ax.AV.fi.eq_2) ∧
  (type_of% @Ax.AV.fi.eq_3) ∧
  (type_of% @Ax.AV.fi.eq_4) ∧
  (type_of% @Ax.AV.fi.eq_5) ∧
  (type_of% @Ax.fgL.eq_1) ∧
  (type_of% @Ax.fgL.eq_2) ∧
  (type_of% @Ax.fgH.eq_1) ∧
  (type_of% @Ax.fgH.eq_2) ∧
  (type_of% @Ax.AV.fg.eq_1) ∧
  (type_of% @Ax.AV.fg.eq_2) ∧
  (type_of% @Ax.AV.fg.eq_3) ∧
  (type_of% @Ax.AV.fg.eq_4) ∧
  (type_of% @Ax.AV.fg.eq_5) ∧
  (type_of% @Ax.aOpen.eq_1) ∧
  (type_of% @Ax.openOut.eq_1) ∧
  (type_of% @Ax.reach.eq_1) ∧
  (type_of% @Ax.reach.eq_2) ∧
  (type_of% @Ax.reach.eq_3) ∧
  (type_of% @Ax.walk.eq_1) ∧
  (type_of% @Ax.walk.eq_2) ∧
  (type_of% @Ax.allIn.eq_1) ∧
  (type_of% @Ax.allIn.eq_2) ∧
  (type_of% @Ax.pinsIn.eq_1) ∧
  (type_of% @Ax.pinsIn.eq_2) ∧
  (type_of% @Ax.pinsR.eq_1) ∧
  (type_of% @Ax.pinsR.eq_2) ∧
  (type_of% @Ax.backO.eq_1) ∧
  (type_of% @Ax.backO.eq_2) ∧
  (type_of% @Ax.gone.eq_1) ∧
  (type_of% @Ax.AV.sids.eq_1) ∧
  (type_of% @Ax.AV.sids.eq_2) ∧
  (type_of% @Ax.AV.sids.eq_3) ∧
  (type_of% @Ax.AV.sids.eq_4) ∧
  (type_of% @Ax.AV.sids.eq_5) ∧
  (type_of% @Ax.AV.sids.eq_6) ∧
  (type_of% @Ax.sidsL.eq_1) ∧
  (type_of% @Ax.sidsL.eq_2) ∧
  (type_of% @Ax.AV.sidsH.eq_1) ∧
  (type_of% @Ax.AV.sidsH.eq_2) ∧
  (type_of% @Ax.AV.sidsH.eq_3) ∧
  (type_of% @Ax.AV.sidsH.eq_4) ∧
  (type_of% @Ax.AV.sidsH.eq_5) ∧
  (type_of% @Ax.AV.sidsH.eq_6) ∧
  (type_of% @Ax.sidsLH.eq_1) ∧
  (type_of% @Ax.sidsLH.eq_2) ∧
  (type_of% @Ax.Blk.renB.eq_1) ∧
  (type_of% @Ax.idxOf.eq_1) ∧
  (type_of% @Ax.EndsXO.eq_1) ∧
  (type_of% @Ax.endIds.eq_1) ∧
  (type_of% @Ax.reachE.eq_1) ∧
  (type_of% @Ax.reachE.eq_2) ∧
  (type_of% @Ax.reachE.eq_3) ∧
  (type_of% @Ax.idsAt.eq_1) ∧
  (type_of% @Ax.idsAtL.eq_1) ∧
  (type_of% @Ax.idsAtL.eq_2) ∧
  (type_of% @Ax.walkI.eq_1) ∧
  (type_of% @Ax.walkI.eq_2) ∧
  (type_of% @Ax.matchE.eq_1) ∧
  (type_of% @Ax.matchE.eq_2) ∧
  (type_of% @Ax.matchE.eq_3) ∧
  (type_of% @Ax.aopF.eq_1) ∧
  (type_of% @Ax.foot.eq_1) ∧
  (type_of% @Ax.footA.eq_1) ∧
  (type_of% @Ax.keepIn.eq_1) ∧
  (type_of% @Ax.keepIn.eq_2) ∧
  (type_of% @Ax.dropIn.eq_1) ∧
  (type_of% @Ax.dropIn.eq_2) ∧
  (type_of% @Ax.bids.eq_1) ∧
  (type_of% @Ax.bids.eq_2) ∧
  (type_of% @Ax.heldB.eq_1) ∧
  (type_of% @Ax.memOk.eq_1) ∧
  (type_of% @Ax.clearOf.eq_1) :=
 ⟨@Ax.frzS.eq_1,@Ax.frzL.eq_1,@Ax.frzL.eq_2,@Ax.fzL.eq_1,@Ax.fzL.eq_2,@Ax.fzH.eq_1,@Ax.fzH.eq_2,@Ax.AV.fz.eq_1,@Ax.AV.fz.eq_2,@Ax.AV.fz.eq_3,@Ax.AV.fz.eq_4,@Ax.AV.fz.eq_5,@Ax.fiL.eq_1,@Ax.fiL.eq_2,@Ax.fiH.eq_1,@Ax.fiH.eq_2,@Ax.AV.fi.eq_1,@Ax.AV.fi.eq_2,@Ax.AV.fi.eq_3,@Ax.AV.fi.eq_4,@Ax.AV.fi.eq_5,@Ax.fgL.eq_1,@Ax.fgL.eq_2,@Ax.fgH.eq_1,@Ax.fgH.eq_2,@Ax.AV.fg.eq_1,@Ax.AV.fg.eq_2,@Ax.AV.fg.eq_3,@Ax.AV.fg.eq_4,@Ax.AV.fg.eq_5,@Ax.aOpen.eq_1,@Ax.openOut.eq_1,@Ax.reach.eq_1,@Ax.reach.eq_2,@Ax.reach.eq_3,@Ax.walk.eq_1,@Ax.walk.eq_2,@Ax.allIn.eq_1,@Ax.allIn.eq_2,@Ax.pinsIn.eq_1,@Ax.pinsIn.eq_2,@Ax.pinsR.eq_1,@Ax.pinsR.eq_2,@Ax.backO.eq_1,@Ax.backO.eq_2,@Ax.gone.eq_1,@Ax.AV.sids.eq_1,@Ax.AV.sids.eq_2,@Ax.AV.sids.eq_3,@Ax.AV.sids.eq_4,@Ax.AV.sids.eq_5,@Ax.AV.sids.eq_6,@Ax.sidsL.eq_1,@Ax.sidsL.eq_2,@Ax.AV.sidsH.eq_1,@Ax.AV.sidsH.eq_2,@Ax.AV.sidsH.eq_3,@Ax.AV.sidsH.eq_4,@Ax.AV.sidsH.eq_5,@Ax.AV.sidsH.eq_6,@Ax.sidsLH.eq_1,@Ax.sidsLH.eq_2,@Ax.Blk.renB.eq_1,@Ax.idxOf.eq_1,@Ax.EndsXO.eq_1,@Ax.endIds.eq_1,@Ax.reachE.eq_1,@Ax.reachE.eq_2,@Ax.reachE.eq_3,@Ax.idsAt.eq_1,@Ax.idsAtL.eq_1,@Ax.idsAtL.eq_2,@Ax.walkI.eq_1,@Ax.walkI.eq_2,@Ax.matchE.eq_1,@Ax.matchE.eq_2,@Ax.matchE.eq_3,@Ax.aopF.eq_1,@Ax.foot.eq_1,@Ax.footA.eq_1,@Ax.keepIn.eq_1,@Ax.keepIn.eq_2,@Ax.dropIn.eq_1,@Ax.dropIn.eq_2,@Ax.bids.eq_1,@Ax.bids.eq_2,@Ax.heldB.eq_1,@Ax.memOk.eq_1,@Ax.clearOf.eq_1⟩
open Ax
attribute [go_sem] evDO evTO znf zmp zci ylb Blk.isGone Blk.idsB Blk.sidsB Blk.ren yqx
attribute [go_sem ↓] ycq
end Go.Proofs.Ytffdpbbbdmmdlaa
namespace Go.Proofs.Ytffdpbbbdmmdlaa
open Go.Shelf
open Ax
def you : Go.Shelf.Ren := ⟨fun | 54 => 20 | 64 => 26 | 65 => 25 | 78 => 37 | 79 => 38 | 80 => 29 | 81 => 30 | 82 => 31 | 83 => 32 | 84 => 33 | 85 => 34 | 61 => 27 | 86 => 35 | 87 => 36 | 93 => 40 | 89 => 41 | 90 => 42 | 94 => 43 | 95 => 44 | 69 => 39 | 97 => 45 | n => n,fun | 25 => 22 | 26 => 9 | 3 => 3 | 51 => 42 | 0 => 0 | 67 => 53 | 69 => 55 | 4 => 4 | 61 => 47 | 60 => 46 | 44 => 38 | 5 => 5 | 9 => 9 | 75 => 56 | 79 => 60 | 83 => 62 | 84 => 63 | n => n,fun | n => n⟩
theorem ymf : Go.Proofs.SlLaysN.n54 Try.prog you := {
 mixed := by kernel_rfl
 f54 := ⟨Try.f20.name,by decide,Try.func20.trans (congrArg some (by kernel_rfl))⟩
 f61 := ⟨Try.f27.name,by decide,Try.func27.trans (congrArg some (by kernel_rfl))⟩
 f64 := Try.func26.trans (congrArg some (by kernel_rfl))
 f65 := ⟨Try.f25.name,by decide,Try.func25.trans (congrArg some (by kernel_rfl))⟩
 f69 := ⟨Try.f39.name,by decide,Try.func39.trans (congrArg some (by kernel_rfl))⟩
 f78 := Try.func37.trans (congrArg some (by kernel_rfl))
 f79 := Try.func38.trans (congrArg some (by kernel_rfl))
 f80 := ⟨Try.f29.name,by decide,Try.func29.trans (congrArg some (by kernel_rfl))⟩
 f81 := ⟨Try.f30.name,by decide,Try.func30.trans (congrArg some (by kernel_rfl))⟩
 f82 := ⟨Try.f31.name,by decide,Try.func31.trans (congrArg some (by kernel_rfl))⟩
 f83 := ⟨Try.f32.name,by decide,Try.func32.trans (congrArg some (by kernel_rfl))⟩
 f84 := ⟨Try.f33.name,by decide,Try.func33.trans (congrArg some (by kernel_rfl))⟩
 f85 := ⟨Try.f34.name,by decide,Try.func34.trans (congrArg some (by kernel_rfl))⟩
 f86 := ⟨Try.f35.name,by decide,Try.func35.trans (congrArg some (by kernel_rfl))⟩
 f87 := ⟨Try.f36.name,by decide,Try.func36.trans (congrArg some (by kernel_rfl))⟩
 f89 := Try.func41.trans (congrArg some (by kernel_rfl))
 f90 := Try.func42.trans (congrArg some (by kernel_rfl))
 f93 := ⟨Try.f40.name,by decide,Try.func40.trans (congrArg some (by kernel_rfl))⟩
 f94 := ⟨Try.f43.name,by decide,Try.func43.trans (congrArg some (by kernel_rfl))⟩
 f95 := ⟨Try.f44.name,by decide,Try.func44.trans (congrArg some (by kernel_rfl))⟩
 f97 := ⟨Try.f45.name,by decide,Try.func45.trans (congrArg some (by kernel_rfl))⟩
 t0 := Try.underlying0
 a0 := Try.isAgg0
 z0 := Try.sizeOf0
 v0 := Try.zeroValue0
 t3 := Try.underlying3
 a3 := Try.isAgg3
 z3 := Try.sizeOf3
 v3 := Try.zeroValue3
 t4 := Try.underlying4
 a4 := Try.isAgg4
 z4 := Try.sizeOf4
 v4 := Try.zeroValue4
 t5 := Try.underlying5
 a5 := Try.isAgg5
 z5 := Try.sizeOf5
 v5 := Try.zeroValue5
 t9 := Try.underlying9
 a9 := Try.isAgg9
 z9 := Try.sizeOf9
 v9 := Try.zeroValue9
 t25 := Try.underlying22
 a25 := Try.isAgg22
 z25 := Try.sizeOf22
 v25 := Try.zeroValue22
 t26 := Try.underlying9
 a26 := Try.isAgg9
 z26 := Try.sizeOf9
 v26 := Try.zeroValue9
 t44 := Try.underlying38
 a44 := Try.isAgg38
 z44 := Try.sizeOf38
 v44 := Try.zeroValue38
 t51 := Try.underlying42
 a51 := Try.isAgg42
 z51 := Try.sizeOf42
 v51 := Try.zeroValue42
 t60 := Try.underlying46
 a60 := Try.isAgg46
 z60 := Try.sizeOf46
 v60 := Try.zeroValue46
 t61 := Try.underlying47
 a61 := Try.isAgg47
 z61 := Try.sizeOf47
 v61 := Try.zeroValue47
 t67 := Try.underlying53
 a67 := Try.isAgg53
 z67 := Try.sizeOf53
 v67 := Try.zeroValue53
 t69 := Try.underlying55
 a69 := Try.isAgg55
 z69 := Try.sizeOf55
 v69 := Try.zeroValue55
 t75 := Try.underlying56
 a75 := Try.isAgg56
 z75 := Try.sizeOf56
 v75 := Try.zeroValue56
 t79 := Try.underlying60
 a79 := Try.isAgg60
 z79 := Try.sizeOf60
 v79 := Try.zeroValue60
 t83 := Try.underlying62
 a83 := Try.isAgg62
 z83 := Try.sizeOf62
 v83 := Try.zeroValue62
 t84 := Try.underlying63
 a84 := Try.isAgg63
 z84 := Try.sizeOf63
 v84 := Try.zeroValue63 }
theorem zxg : zbk Try.prog 20 zme :=
 yeg (fun blk off cap ss w hH hb hs => AnyG.slices_Sort_string ymf blk off cap ss w hH hb hs) (fun p cap w => AnyG.slices_Sort_string_none ymf p cap w)
theorem yeq {P : Program} {f : FuncId} {spec : zaz} (h : zbk P f spec) (hc : ∀ xs pins,(spec xs pins).p → closedB pins = true) : zrw P f spec := by
 intro xs pins hp w bad pb vs h1 h2 h3 h4 h5 h6
 refine (h xs pins hp (hc xs pins hp) w bad pb vs h1 h2 h3 h4 h5 h6).mono ?_
 rintro e w' ⟨v,loc',he,hg⟩
 exact ⟨v,loc',he,hg.r,hg.bad,fun k hk => .inr (hg.bl k hk),fun k hk => .inl (hg.old k hk),fun k b hk hb => ⟨.inl (hg.new k b hk hb).1,(hg.new k b hk hb).2⟩,hg.none,hg.inj,hg.fram⟩
theorem zbl (l : List (List UInt8)) : closedL (l.map AV.str) = true := by
 induction l with
 | nil => rfl
 | cons x r ih => simp only [List.map_cons,closedL,AV.closed,ih,Bool.and_self]
theorem zxh : zrw Try.prog 20 zme := by
 refine yeq zxg fun xs pins hp => ?_
 unfold zme at hp
 split at hp
 ·obtain ⟨_,_,ss,rfl⟩ := hp
  simp only [closedB,Blk.closed,zbl,Bool.and_self]
 ·rfl
 ·exact hp.elim
end Go.Proofs.Ytffdpbbbdmmdlaa
namespace Go.Proofs.Ytffdpbbbdmmdlaa
open Ax
def srtT (l : List (List UInt8)) : Prop := l.Pairwise (· < ·)
end Go.Proofs.Ytffdpbbbdmmdlaa
namespace Go.Proofs.Ytffdpbbbdmmdlaa
open Ax
def empT (xs : List AV) : Bool := xs.isEmpty
theorem zsr : empT [] = true := rfl
theorem yjx {w : World} {loc : Ax.Loc} {v : Value} {s : Nat} (s' : Nat) {f : Bool} (h : R w loc (.sg s [] f) v) : R w loc (.sg s' [] f) v := by
 cases h with
 | sg _ _ _ a cap cs hd hs hc hl hx hh => exact .sg s' [] f a cap cs hd (by simp) hc hl hx hh
theorem zko (l : List (List UInt8)) : idsL (l.map AV.str) = [] := by
 induction l with
 | nil => rfl
 | cons x r ih => simp only [List.map_cons,idsL,AV.ids,ih,List.nil_append]
theorem zbq : ∀ (l : List (List UInt8)) (i : Nat) (h : i < l.length),slot (l.map AV.str) i = .str l[i]
 | _ :: _,0,_ => rfl
 | _ :: r,i + 1,h => by
  simp only [List.map_cons,slot,List.getElem_cons_succ]
  exact zbq r i (by simpa using h)
def yie : zaz
 | [.sg 1 xs f],[] => ⟨xs.length ≤ 1000000 ∧ ∃ es : List (List UInt8),xs = es.map AV.str,bif empT xs then .sg 1 [] true else .ms 0 1 0 xs.length,bif empT xs then [] else [.g 1 xs]⟩
 | _,_ => zeh
def yig : zwv := fun id => match id with
 | 1 => .tst [false,true]
 | _ => .std
def yif : zwv := fun id => match id with
 | 1 => .tst [false,true]
 | 3 => .tst [true,false,true]
 | _ => .std
section
set_option maxRecDepth 100000
set_option maxHeartbeats 1000000 in
theorem ydn : zbk Try.prog 19 yie := by
 refine zqy (S := noS) (SO := noO) (T := ty) mixed ty_ok zki ypb Try.func19 (c := Try.f19.body.getD .skip) (by kernel_rfl) (fun xs pins hp _ => ?_)
 unfold yie at hp ⊢
 split at hp
 ·rename_i xs f _
  obtain ⟨hL,es,rfl⟩ := hp
  rw [List.length_map] at hL
  have hl4 : (es.map AV.str).length = es.length := by simp
  by_cases hz : es.length = 0
  ·obtain rfl : es = [] := List.eq_nil_of_length_eq_zero hz
   refine ⟨by simp,yif,by kernel_rfl,?_⟩
   unfold Try.f19
   simp only [go_sem,zay,↓reduceIte,lcT,ty,noS,yif,zng,hl4]
   repeat (refine And.intro (by omega) ?_)
   intro b
   refine ⟨fun hb => ?_,fun hb => ?_⟩
   ·refine ⟨_,zjy 2 (.sg 1 [] true) (fun w loc v h => yjx 1 h),?_⟩
    simp only [go_sem,zay,↓reduceIte,lcT,ty,noS,zsr,cond_true,cond_false]
   ·refine ⟨_,Weak.refl _,?_⟩
    simp only [go_sem,zay,↓reduceIte,lcT,ty,noS,zsr,cond_true,cond_false]
  ·refine ⟨by simp,yig,by kernel_rfl,?_⟩
   have hem : empT (es.map AV.str) = false := by cases es with | nil => simp at hz | cons _ _ => rfl
   have htop : es.length ≤ top := by unfold top; omega
   unfold Try.f19
   simp only [go_sem,zay,↓reduceIte,lcT,ty,noS,yig,zng,hl4]
   repeat (refine And.intro (by omega) ?_)
   intro b hb
   obtain rfl : b = false := by cases b with | false => rfl | true => exact absurd (hb rfl) hz
   simp only [go_sem,zay,↓reduceIte,lcT,ty,noS,yig,zng,hl4,hem,cond_false]
   refine ⟨htop,_,Weak.refl _,?_⟩
   simp only [go_sem,zay,↓reduceIte,lcT,ty,noS,hl4,hem,cond_false,zbl]
 ·exact hp.elim
end
end Go.Proofs.Ytffdpbbbdmmdlaa
namespace Go.Proofs.Ytffdpbbbdmmdlaa
open Ax
def clpN (p : Int) : Nat := (min (max p 0) 1000).toNat
theorem zgt (p : Int) : clpN p ≤ 1000 := by unfold clpN; omega
def clpS : zaz
 | [.w (.int .i64 p)],[] => ⟨True,.w (.int .i64 ((clpN p : Nat) : Int)),[]⟩
 | _,_ => zeh
theorem zbh (l : List (List UInt8)) (h : Bool) : coe ty 22 (.sg 1 (l.map AV.str) h) = .sg 1 (l.map AV.str) h := by cases l <;> rfl
section
set_option maxRecDepth 100000
set_option maxHeartbeats 4000000
theorem zvr : zbk Try.prog 22 clpS := by
 refine zbm (S := noS) (T := ty) mixed ty_ok zki Try.func22 (c := Try.f22.body.getD .skip) (by kernel_rfl) (by kernel_rfl) (fun xs pins hp _ => ?_)
 unfold clpS at hp ⊢
 split at hp
 ·rename_i p _
  refine ⟨by simp,?_⟩
  obtain ⟨C,hC⟩ : ∃ C,clpN p = C := ⟨_,rfl⟩
  have hc : (C : Int) = (if 1000 < (if p < 0 then 0 else p) then 1000 else (if p < 0 then 0 else p)) := by
   rw [← hC]; unfold clpN
   split <;> split <;> omega
  rw [hC]
  unfold Try.f22
  simp only [go_sem,zaa,↓reduceIte,ty,noS,hc]
 ·exact hp.elim
end
end Go.Proofs.Ytffdpbbbdmmdlaa
namespace Go.Proofs.Ytffdpbbbdmmdlaa
open Ax
def iotI (s m : Nat) : List Int := (List.range m).map fun j => ((s + j : Nat) : Int)
def zcu (P n k : Nat) : Nat := P / n + (if k < P % n then 1 else 0)
def rgK (P n : Nat) : Nat → List (List Int) × Nat
 | 0 => ([],0)
 | k + 1 => ((rgK P n k).1 ++ [iotI (rgK P n k).2 (zcu P n k)],(rgK P n k).2 + zcu P n k)
def siA (l : List Int) : AV := .si l false
theorem zkn (s m : Nat) : (iotI s m).length = m := by unfold iotI; simp
theorem zur (s m : Nat) : iotI s m ++ [((s + m : Nat) : Int)] = iotI s (m + 1) := by
 unfold iotI; rw [List.range_succ,List.map_append]; rfl
theorem zmt (P n k : Nat) : zcu P n k ≤ P + 1 := by
 have := Nat.div_le_self P n
 unfold zcu; split <;> omega
theorem zhl (P n : Nat) : ∀ k,(rgK P n k).1.length = k
 | 0 => rfl
 | k + 1 => by simp only [rgK,List.length_append,List.length_cons,List.length_nil,zhl P n k]
theorem ymi (P n : Nat) : ∀ k,(rgK P n k).2 ≤ k * (P + 1)
 | 0 => by simp [rgK]
 | k + 1 => by
  have h1 := ymi P n k
  have h2 := zmt P n k
  have h3 : (k + 1) * (P + 1) = k * (P + 1) + (P + 1) := by rw [Nat.add_mul,Nat.one_mul]
  simp only [rgK]; omega
theorem zkz : ∀ (l : List (List Int)),closedL (l.map siA) = true
 | [] => rfl
 | x :: r => by simp only [List.map_cons,closedL,siA,AV.closed,Bool.true_and]; exact zkz r
theorem zde : ∀ (l : List (List Int)),idsL (l.map siA) = []
 | [] => rfl
 | x :: r => by simp only [List.map_cons,idsL,siA,AV.ids,List.nil_append]; exact zde r
theorem yho (id : Nat) (bs : List Int) : ∀ (l : List (List Int)),fiL id bs (l.map siA) = l.map siA
 | [] => rfl
 | x :: r => by
  simp only [List.map_cons,fiL,yho id bs r]; rfl
theorem zbi (g : Nat → Nat) : ∀ (l : List (List Int)),renL g (l.map siA) = l.map siA
 | [] => rfl
 | x :: r => by simp only [List.map_cons,renL,zbi g r]; rfl
def rgF (n : Nat) (p : Int) : List (List Int) := (rgK (clpN p) n n).1
end Go.Proofs.Ytffdpbbbdmmdlaa
namespace Go.Proofs.Ytffdpbbbdmmdlaa
open Ax
def cmpL (ss : List (List UInt8)) : List (List UInt8) := Go.Lib.compact ss
def cmpZ (ss : List (List UInt8)) : List (List UInt8) := cmpL ss ++ List.replicate (ss.length - (cmpL ss).length) []
theorem zyn (ss : List (List UInt8)) : (cmpL ss).length ≤ ss.length := by
 unfold cmpL Go.Lib.compact Go.Lib.compactUpTo
 rw [List.length_map]
 exact Nat.le_trans (List.length_filter_le _ _) (by simp)
theorem zjo (ss : List (List UInt8)) : (cmpZ ss).length = ss.length := by
 unfold cmpZ
 have := zyn ss
 simp; omega
def ydm : zaz
 | [.ms 0 1 0 n],[.g 1 xs] => ⟨n = xs.length ∧ n < 4611686018427387904 ∧ ∃ ss : List (List UInt8),xs = ss.map AV.str,.ms 0 1 0 (cmpL (xs.map strB)).length,[.g 1 ((cmpZ (xs.map strB)).map AV.str)]⟩
 | [.sg s [] fl],[] => ⟨True,.sg s [] fl,[]⟩
 | _,_ => zeh
theorem zti {P : Program} {f : FuncId}
  (hC : ∀ (blk off cap : Nat) (ss : List (List UInt8)) (w : World),Go.Sort.Holds Go.Proofs.encStr w blk off ss.toArray → ss.length ≤ 9223372036854775807 → ss.length ≤ cap →
   Calls P f #[.slice (some ⟨blk,off,none⟩) ss.length cap] w fun e w' =>
    e = .returned (.slice (some ⟨blk,off,none⟩) (cmpL ss).length cap) ∧ ∃ n,w' = Go.Sort.putRow Go.Proofs.encStr (Go.Sort.ahead w n) blk off (cmpZ ss).toArray)
  (hN : ∀ (p : Option Addr) (cap : Nat) (w : World),Calls P f #[.slice p 0 cap] w fun e w' => e = .returned (.slice p 0 cap) ∧ w' = w) : zrw P f ydm := by
 intro xs pins hp w bad pb vs hpb hnd hbad hpins hlen hxs
 unfold ydm at hp ⊢
 split at hp
 ·rename_i n ys
  obtain ⟨rfl,hn,ss,rfl⟩ := hp
  rw [zba]
  obtain ⟨b,rfl⟩ : ∃ b,pb = [b] := by
   cases pb with
   | nil => simp at hpb
   | cons b r => cases r with
    | nil => exact ⟨b,rfl⟩
    | cons c r => simp at hpb
  obtain ⟨v,rfl⟩ : ∃ v,vs = [v] := by
   cases vs with
   | nil => simp at hlen
   | cons v r => cases r with
    | nil => exact ⟨v,rfl⟩
    | cons c r => simp at hlen
  have hv : R w (zap [b] bad) (.ms 0 1 0 (ss.map AV.str).length) v := hxs 0 (by simp) (by simp)
  have hm : (zap [b] bad).m 0 = .here b := rfl
  cases hv with
  | ms _ _ _ _ _ h =>
   unfold Owns at h
   rw [hm] at h
   simp only at h
   obtain ⟨o,cap,cur,e,fz,rfl,ho,hcur,hsz,hle,hcap⟩ := h
   have hL := (hpins 0 (by simp) (by simp)).2
   obtain ⟨cur',e',fz',hcur',hfz,hone,hfl,hcells⟩ := hL.lies rfl
   have hb0 : ([b] : List Nat)[0] = b := rfl
   rw [hb0,hcur] at hcur'
   injection hcur' with hcur'
   injection hcur' with h1 h2 h3
   subst h1 h2 h3
   have hflat : (Blk.g 1 (ss.map AV.str)).flat = ss.map AV.str := zmv ss
   have hbs : b < w.heap.size := by
    rcases Nat.lt_or_ge b w.heap.size with h | h
    ·exact h
    ·rw [Array.getElem?_eq_none h] at hcur; cases hcur
   rw [List.length_map] at hle hn
   have hlenc : ss.length ≤ cur.size := by
    have := hfl
    rw [show ([Blk.g 1 (ss.map AV.str)] : List Blk)[0] = Blk.g 1 (ss.map AV.str) from rfl,hflat,List.length_map] at this
    exact this
   have ho0 : 0 < ss.length → o = 0 := fun h => by have := ho (by omega); omega
   have hcj : ∀ j (hj : j < ss.length),cur[j]'(by omega) = Value.string ⟨ss[j].toArray⟩ := by
    intro j hj
    have hx := (hcells j (by show j < (Blk.g 1 (ss.map AV.str)).flat.length; rw [hflat]; simpa using hj) (by omega)).2
    have hx' : (Blk.g 1 (ss.map AV.str)).flat[j]'(by rw [hflat]; simpa using hj) = AV.str ss[j] := by
     simp only [hflat,List.getElem_map]
    rw [show (([Blk.g 1 (ss.map AV.str)] : List Blk)[0]).flat[j]'(by show j < (Blk.g 1 (ss.map AV.str)).flat.length; rw [hflat]; simpa using hj) = AV.str ss[j] from hx'] at hx
    generalize cur[j]'(by omega) = u at hx
    cases hx with
    | str _ => rfl
   have hH : Go.Sort.Holds Go.Proofs.encStr w b o ss.toArray := by
    intro j hj
    have hj : j < ss.length := by simpa using hj
    have h0 := ho0 (by omega)
    subst h0
    have hjc : j < cur.size := by omega
    refine ⟨?_,?_⟩
    ·simp only [World.cell?,hcur,Nat.zero_add,Array.getElem?_eq_getElem hjc]
     rw [hcj j hj]
     simp [hj]
    ·have := zjm hfz j hjc
     simp only [World.frozen?,hcur,Nat.zero_add]
     simpa using this
   have hc := hC b o cap ss w hH (by omega) (by omega)
   rw [List.length_map]
   refine Calls.mono hc ?_
   rintro e1 w' ⟨rfl,k,rfl⟩
   refine ⟨_,zap [b] bad,rfl,?_⟩
   have hhp : (Go.Sort.putRow Go.Proofs.encStr (Go.Sort.ahead w k) b o (cmpZ ss).toArray).heap[b]? = some (.cells (Go.Sort.putCells Go.Proofs.encStr o (cmpZ ss).toArray cur) e fz) := by
    simp [Go.Sort.putRow,Go.Sort.mapBlock,Go.Sort.ahead,Array.getElem?_modify,hcur,Go.Sort.onCells]
   obtain ⟨D,hD⟩ : ∃ D,(cmpZ ss).toArray = D := ⟨_,rfl⟩
   have hDs : D.size = ss.length := by rw [← hD]; simp [zjo]
   rw [hD] at hhp ⊢
   obtain ⟨cu,hcu⟩ : ∃ cu,Go.Sort.putCells Go.Proofs.encStr o D cur = cu := ⟨_,rfl⟩
   have hcs : cu.size = cur.size := by rw [← hcu]; simp [Go.Sort.putCells]
   have hget : ∀ (j : Nat) (hj : j < cu.size),cu[j] = if o ≤ j ∧ j < o + D.size then Go.Proofs.encStr D[j - o]! else cur[j]'(by omega) := by
    intro j hj
    subst hcu
    simp [Go.Sort.putCells]
   rw [hcu] at hhp
   have hflat2 : (Blk.g 1 ((cmpZ ss).map AV.str)).flat = (cmpZ ss).map AV.str := zmv _
   refine ⟨?_,rfl,?_,?_,?_,?_,?_,?_⟩
   ·refine .ms _ _ _ _ _ ?_
    unfold Owns
    rw [hm]
    have hcl2 := zyn ss
    exact ⟨o,cap,cu,e,fz,rfl,ho,hhp,by rw [hcs]; exact hsz,by omega,hcap⟩
   ·intro k' hk'
    have hk0 : k' = 0 := by simp at hk'; omega
    subst hk0
    refine .inr ⟨?_,by rw [hm]; simp,by rw [hm]; simp⟩
    unfold BlkR
    rw [hm]
    refine ⟨⟨by decide,?_⟩,Lies.mkC ⟨cu,e,fz,hhp,by rw [hcs]; exact hfz,?_,?_,?_⟩⟩
    ·intro x hx
     obtain ⟨y,_,rfl⟩ := List.mem_map.1 hx
     rfl
    ·intro j hj
     rw [hget j hj]
     split
     ·rfl
     ·exact hone j (by omega)
    ·show (Blk.g 1 ((cmpZ ss).map AV.str)).flat.length ≤ cu.size
     rw [hflat2,List.length_map,zjo,hcs]; exact hlenc
    ·intro j hj hj'
     have hjl : j < (cmpZ ss).length := by
      have : j < (Blk.g 1 ((cmpZ ss).map AV.str)).flat.length := hj
      rw [hflat2,List.length_map] at this; exact this
     have hjs : j < ss.length := by rw [← zjo ss]; exact hjl
     have h0 := ho0 (by omega)
     subst h0
     have hx' : (Blk.g 1 ((cmpZ ss).map AV.str)).flat[j]'hj = AV.str (cmpZ ss)[j] := by
      simp only [hflat2,List.getElem_map]
     show (Blk.g 1 ((cmpZ ss).map AV.str)).flat[j].leaf = true ∧ R _ _ ((Blk.g 1 ((cmpZ ss).map AV.str)).flat[j]) cu[j]
     rw [hx',hget j hj',if_pos ⟨Nat.zero_le _,by omega⟩]
     refine ⟨rfl,?_⟩
     have hDj : D[j - 0]! = (cmpZ ss)[j] := by
      subst hD
      simp [hjl]
     rw [hDj]
     exact R.str _
   ·intro k' hk'
    have hk0 : k' = 0 := by simp at hk'; omega
    subst hk0; exact .inl rfl
   ·intro k' b' h1 h2
    have h1 : 1 ≤ k' := h1
    have h3 : (zap [b] bad).m k' = .free := by
     show (match ([b] : List Nat)[k']? with | some b => L.here b | none => L.free) = _
     rw [List.getElem?_eq_none (by simpa using h1)]
    rw [h3] at h2; cases h2
   ·intro k' h1
    have h1 : 1 ≤ k' := h1
    show (match ([b] : List Nat)[k']? with | some b => L.here b | none => L.free) = _
    rw [List.getElem?_eq_none (by simpa using h1)]
   ·intro i j b' h1 h2
    obtain ⟨g1,_⟩ := zch h1
    obtain ⟨g2,_⟩ := zch h2
    simp at g1 g2
    omega
   ·refine ⟨rfl,rfl,rfl,?_,?_,?_⟩
    ·simp [Go.Sort.putRow,Go.Sort.mapBlock,Go.Sort.ahead]
    ·intro b' hb' hne
     have hne : b' ≠ b := by simpa using hne
     simp [Go.Sort.putRow,Go.Sort.mapBlock,Go.Sort.ahead,Array.getElem?_modify]
     intro h; exact (hne h.symm).elim
    ·intro b' c' e' f' hE hc'
     have hE : b' = b := by simpa using hE
     subst hE
     rw [hcur] at hc'
     injection hc' with hc'
     injection hc' with h1 h2 h3
     subst h1 h2 h3
     exact ⟨cu,fz,hhp,hcs⟩
 ·rename_i s fl
  obtain rfl : pb = [] := by cases pb with
   | nil => rfl
   | cons b r => simp at hpb
  obtain ⟨v,rfl⟩ : ∃ v,vs = [v] := by
   cases vs with
   | nil => simp at hlen
   | cons v r => cases r with
    | nil => exact ⟨v,rfl⟩
    | cons c r => simp at hlen
  have hv : R w (zap [] bad) (.sg s [] fl) v := hxs 0 (by simp) (by simp)
  cases hv with
  | sg _ _ _ a cap cs hd hs hc hl hx h =>
   refine Calls.mono (hN a cap w) ?_
   rintro e1 w' ⟨rfl,rfl⟩
   refine ⟨_,zap [] bad,rfl,?_⟩
   have hf : ∀ k,(zap [] bad).m k = .free := fun k => by
    show (match ([] : List Nat)[k]? with | some b => L.here b | none => L.free) = _
    rw [List.getElem?_eq_none (by simp)]
   refine ⟨.sg _ _ _ _ _ _ hd hs hc hl hx h,rfl,?_,?_,?_,fun k _ => hf k,?_,?_⟩
   ·intro k hk; simp at hk
   ·intro k hk; simp at hk
   ·intro k b' _ h2; rw [hf k] at h2; cases h2
   ·intro i j b' h1 _; rw [hf i] at h1; cases h1
   ·exact ⟨rfl,rfl,rfl,Nat.le_refl _,fun _ _ _ => rfl,fun b' c' e' f' hE _ => by simp at hE⟩
 ·exact hp.elim
end Go.Proofs.Ytffdpbbbdmmdlaa
namespace Go.Proofs.Ytffdpbbbdmmdlaa
open Ax
def srtU (l : List (List UInt8)) : List (List UInt8) := cmpL (zce l)
theorem yjw (l : List (List UInt8)) : (zce l).Pairwise (fun x y => decide (x ≤ y) = true) := by
 have ht : ∀ (x y z : List UInt8),decide (x ≤ y) = true → decide (y ≤ z) = true → decide (x ≤ z) = true := fun x y z p q => by
  simp only [decide_eq_true_eq] at *
  exact List.le_trans p q
 have hc : ∀ (x y : List UInt8),(decide (x ≤ y) || decide (y ≤ x)) = true := fun x y => by
  simp only [Bool.or_eq_true,decide_eq_true_eq]
  exact List.le_total x y
 exact List.pairwise_mergeSort ht hc l
theorem sortL_mem {l : List (List UInt8)} {x : List UInt8} : x ∈ zce l ↔ x ∈ l := (List.mergeSort_perm _ _).mem_iff
theorem zzy {x y : List UInt8} (h : x ≤ y) (hne : x ≠ y) : x < y := by
 rcases Classical.em (x < y) with h1 | h1
 ·exact h1
 ·exact (hne (List.le_antisymm h (List.not_lt.1 h1))).elim
theorem yhy (d : Array (List UInt8)) (hs : ∀ i j,i < j → j < d.size → d[i]! ≤ d[j]!) : ∀ m,m ≤ d.size →
  (Go.Lib.compactUpTo d m).Pairwise (· < ·) ∧ (∀ x ∈ Go.Lib.compactUpTo d m,∃ j,j < m ∧ d[j]! = x) ∧ (∀ j,j < m → d[j]! ∈ Go.Lib.compactUpTo d m)
 | 0,_ => by simp [Go.Lib.compactUpTo]
 | m + 1,hm => by
  obtain ⟨i1,i2,i3⟩ := yhy d hs m (by omega)
  rw [Go.Lib.compactUpTo_succ]
  by_cases hk : Go.Lib.keeps d m = true
  ·rw [if_pos hk]
   have hlt : ∀ x ∈ Go.Lib.compactUpTo d m,x < d[m]! := by
    intro x hx
    obtain ⟨j,hj,rfl⟩ := i2 x hx
    have hk' : m = 0 ∨ d[m]! ≠ d[m - 1]! := by simpa [Go.Lib.keeps] using hk
    have hne : d[m]! ≠ d[m - 1]! := by
     rcases hk' with h | h
     ·omega
     ·exact h
    have h3 : d[m - 1]! < d[m]! := zzy (hs (m - 1) m (by omega) (by omega)) (Ne.symm hne)
    by_cases e : j = m - 1
    ·subst e; exact h3
    ·exact List.lt_of_le_of_lt (hs j (m - 1) (by omega) (by omega)) h3
   refine ⟨List.pairwise_append.2 ⟨i1,by simp,fun x hx y hy => ?_⟩,fun x hx => ?_,fun j hj => ?_⟩
   ·rw [List.mem_singleton] at hy; subst hy; exact hlt x hx
   ·rcases List.mem_append.1 hx with h | h
    ·obtain ⟨j,hj,e⟩ := i2 x h; exact ⟨j,by omega,e⟩
    ·rw [List.mem_singleton] at h; exact ⟨m,by omega,h.symm⟩
   ·by_cases e : j = m
    ·subst e; simp
    ·exact List.mem_append.2 (.inl (i3 j (by omega)))
  ·rw [if_neg hk,List.append_nil]
   have hk' : m ≠ 0 ∧ d[m]! = d[m - 1]! := by simpa [Go.Lib.keeps] using hk
   refine ⟨i1,fun x hx => ?_,fun j hj => ?_⟩
   ·obtain ⟨j,hj,e⟩ := i2 x hx; exact ⟨j,by omega,e⟩
   ·by_cases e : j = m
    ·subst e; rw [hk'.2]; exact i3 _ (by omega)
    ·exact i3 j (by omega)
theorem zef (l : List (List UInt8)) : srtT (srtU l) ∧ ∀ x,x ∈ srtU l ↔ x ∈ l := by
 have hs : ∀ i j,i < j → j < (zce l).toArray.size → (zce l).toArray[i]! ≤ (zce l).toArray[j]! := by
  intro i j hij hj
  have hj' : j < (zce l).length := by simpa using hj
  have := List.pairwise_iff_getElem.1 (yjw l) i j (by omega) hj' hij
  simpa [hj',show i < (zce l).length by omega] using this
 obtain ⟨h1,h2,h3⟩ := yhy (zce l).toArray hs (zce l).length (by simp)
 refine ⟨h1,fun x => ⟨fun h => ?_,fun h => ?_⟩⟩
 ·obtain ⟨j,hj,rfl⟩ := h2 x h
  have : (zce l).toArray[j]! = (zce l)[j] := by simp [hj]
  rw [this]
  exact sortL_mem.1 (List.getElem_mem hj)
 ·obtain ⟨j,hj,e⟩ := List.getElem_of_mem (sortL_mem.2 h)
  have := h3 j hj
  have e2 : (zce l).toArray[j]! = (zce l)[j] := by simp [hj]
  rw [e2,e] at this
  exact this
theorem zcx (l : List (List UInt8)) : (srtU l).length ≤ l.length := by
 have := zyn (zce l)
 rw [zdx] at this
 exact this
theorem srtU_zero {l : List (List UInt8)} : (srtU l).length = 0 ↔ l.length = 0 := by
 have h := (zef l).2
 rw [List.length_eq_zero_iff,List.length_eq_zero_iff]
 constructor
 ·intro e; rw [e] at h
  cases l with
  | nil => rfl
  | cons x r => exact absurd ((h x).2 (by simp)) (by simp)
 ·rintro rfl
  cases hc : srtU [] with
  | nil => rfl
  | cons x r => exact absurd ((h x).1 (by rw [hc]; simp)) (by simp)
end Go.Proofs.Ytffdpbbbdmmdlaa
namespace Go.Proofs.Ytffdpbbbdmmdlaa
open Go.Shelf
open Ax
def ypr : Go.Shelf.Ren := ⟨fun | 44 => 21 | n => n,fun | 25 => 22 | 26 => 9 | 3 => 3 | 4 => 4 | 0 => 0 | n => n,fun | n => n⟩
theorem ymq : Go.Proofs.SlLaysN.n44 Try.prog ypr := {
 mixed := by kernel_rfl
 f44 := ⟨Try.f21.name,by decide,Try.func21.trans (congrArg some (by kernel_rfl))⟩
 t0 := Try.underlying0
 a0 := Try.isAgg0
 z0 := Try.sizeOf0
 v0 := Try.zeroValue0
 t3 := Try.underlying3
 a3 := Try.isAgg3
 z3 := Try.sizeOf3
 v3 := Try.zeroValue3
 t4 := Try.underlying4
 a4 := Try.isAgg4
 z4 := Try.sizeOf4
 v4 := Try.zeroValue4
 t25 := Try.underlying22
 a25 := Try.isAgg22
 z25 := Try.sizeOf22
 v25 := Try.zeroValue22
 t26 := Try.underlying9
 a26 := Try.isAgg9
 z26 := Try.sizeOf9
 v26 := Try.zeroValue9
 i26 := by kernel_rfl }
theorem zym : zrw Try.prog 21 ydm :=
 zti (fun blk off cap ss w hH hb hs => AnyG.slices_Compact_string ymq blk off cap ss w hH hb hs) (fun p cap w => AnyG.slices_Compact_string_empty ymq p cap w)
end Go.Proofs.Ytffdpbbbdmmdlaa
namespace Go.Proofs.Ytffdpbbbdmmdlaa
open Ax
def sdGS : zaz
 | [.sg 1 xs f],[] => ⟨xs.length ≤ 1000000 ∧ ∃ l : List (List UInt8),xs = l.map AV.str,.sg 1 ((srtU (xs.map strB)).map AV.str) (empT xs),[]⟩
 | _,_ => zeh
def SsdG (f : FuncId) : Option zaz :=
 match f with
 | 19 => some yie
 | _ => none
theorem yoh : Fns Try.prog SsdG := by
 intro f s h
 unfold SsdG at h
 split at h
 ·injection h with h; subst h; exact ⟨⟨_,Try.func19,by kernel_rfl,by kernel_rfl⟩,ydn⟩
 ·cases h
def OsdG (f : FuncId) : Option zaz :=
 match f with
 | 20 => some zme
 | 21 => some ydm
 | _ => none
theorem yol : FnsO Try.prog OsdG := by
 intro f s h
 unfold OsdG at h
 split at h
 ·injection h with h; subst h; exact ⟨⟨_,Try.func20,by kernel_rfl,by kernel_rfl⟩,zxh⟩
 ·injection h with h; subst h; exact ⟨⟨_,Try.func21,by kernel_rfl,by kernel_rfl⟩,zym⟩
 ·cases h
def yjy : zwv := fun id => match id with
 | 2 => .opn [] 1
 | 3 => .opn [] 1
 | _ => .std
theorem zvl (id s : Nat) (zs : List AV) : ∀ (l : List (List UInt8)),fgL id s zs (l.map AV.str) = l.map AV.str
 | [] => rfl
 | x :: r => by simp only [List.map_cons,fgL,zvl id s zs r]; rfl
section
set_option maxRecDepth 100000
set_option maxHeartbeats 4000000
theorem zhj : zbk Try.prog 8 sdGS := by
 refine zqy (S := SsdG) (SO := OsdG) (T := ty) mixed ty_ok yoh yol Try.func8 (c := Try.f8.body.getD .skip) (by kernel_rfl) (fun xs pins hp _ => ?_)
 unfold sdGS at hp ⊢
 split at hp
 ·rename_i xs f _
  obtain ⟨hL,l,rfl⟩ := hp
  rw [List.length_map] at hL
  rw [zba]
  have hlp : (l.map AV.str).length = l.length := by simp
  have hex : ∃ es : List (List UInt8),l.map AV.str = es.map AV.str := ⟨l,rfl⟩
  have hst := zba l
  by_cases hz : l.length = 0
  ·obtain rfl : l = [] := List.eq_nil_of_length_eq_zero hz
   have hU : srtU [] = [] := List.eq_nil_of_length_eq_zero (srtU_zero.2 rfl)
   rw [hU]
   have hex0 : ∃ es : List (List UInt8),([] : List AV) = es.map AV.str := ⟨[],rfl⟩
   refine ⟨by simp,yjy,by kernel_rfl,?_⟩
   unfold Try.f8
   simp only [go_sem,coe,zay,↓reduceIte,lcT,ty,SsdG,OsdG,yjy,yie,ydm,zme,hex0,zsr,cond_true]
   repeat (first | refine And.intro (by omega) ?_)
   refine ⟨_,Weak.refl _,?_⟩
   simp only [go_sem,coe,zay,↓reduceIte,lcT,ty]
  ·have h0 : 0 < l.length := by omega
   have hem : empT (l.map AV.str) = false := by cases l with | nil => simp at h0 | cons _ _ => rfl
   have d1 : decide (0 < l.length) = true := decide_eq_true h0
   have hl4 : l.length < 4611686018427387904 := by omega
   have hsl := zdx l
   have hUl : (srtU l).length ≤ l.length := zcx l
   have hU0 : 0 < (srtU l).length := by have := srtU_zero (l := l); omega
   have hcz : cmpZ (zce l) = srtU l ++ List.replicate (l.length - (srtU l).length) [] := by unfold cmpZ srtU; rw [hsl]
   have hcl : cmpL (zce l) = srtU l := rfl
   obtain ⟨S,hS⟩ : ∃ S,zce l = S := ⟨_,rfl⟩
   obtain ⟨U,hU⟩ : ∃ U,srtU l = U := ⟨_,rfl⟩
   rw [hS] at hsl hcz hcl
   rw [hU] at hUl hU0 hcz hcl ⊢
   have hsm : (S.map AV.str).length = l.length := by simp [hsl]
   have hexS : ∃ es : List (List UInt8),S.map AV.str = es.map AV.str := ⟨S,rfl⟩
   have hstS := zba S
   obtain ⟨Z,hZ⟩ : ∃ Z,U ++ List.replicate (l.length - U.length) [] = Z := ⟨_,rfl⟩
   rw [hZ] at hcz
   have hZl : (Z.map AV.str).length = l.length := by rw [← hZ]; simp; omega
   refine ⟨by simp,yjy,by kernel_rfl,?_⟩
   unfold Try.f8
   simp only [go_sem,zay,↓reduceIte,lcT,ty,SsdG,OsdG,yjy,yie,ydm,zme,hlp,hL,hem,hex,hst,hS,hsm,hexS,hstS,hcz,hcl,d1,h0,hl4,zko,zbl,zbh,cond_false]
   have hk1 : decide (0 + U.length ≤ (Z.map AV.str).length) = true := decide_eq_true (by omega)
   have hk2 : List.take U.length (Z.map AV.str) = U.map AV.str := by rw [← hZ,← List.map_take,List.take_left]
   have hk3 : decide (0 + l.length ≤ (Z.map AV.str).length) = true := decide_eq_true (by omega)
   refine ⟨_,zhf 20 1 2 (Z.map AV.str) rfl (zbl _) (by simp [slot,AV.ids,idsL]),?_⟩
   simp only [fgL,fgH,AV.fg,Blk.fg,zvl,Nat.reduceBEq,cond_true,cond_false,hk1,hk3,Bool.and_true,beq_self_eq_true,Bool.true_and,List.drop_zero,hk2]
   simp only [go_sem,coe,zay,↓reduceIte,lcT,ty]
 ·exact hp.elim
end
end Go.Proofs.Ytffdpbbbdmmdlaa
