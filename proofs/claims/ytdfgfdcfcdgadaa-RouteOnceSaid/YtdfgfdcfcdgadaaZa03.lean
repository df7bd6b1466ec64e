/- What the proofs of this seat stand on; it asks nothing. -/
import Derived.Test.YtdfgfdcfcdgadaaZa02
set_option linter.unusedSimpArgs false
set_option linter.unusedVariables false
namespace Go.Proofs.Ytdfgfdcfcdgadaa
namespace Ax
section ops
variable {P : Program}
structure Src (P : Program) (w : World) (loc : Loc) (v : Value) (m s : Nat) (fl : List AV) : Prop where
 src : ∃ cs : List Value,cs.length = m * s ∧ CellsOf w loc fl cs ∧ (∀ w,(Builtin.lenOf v).run P w = .ok m w) ∧ (∀ w',w'.heap = w.heap → (Builtin.firstCells s m v).run P w' = .ok cs.toArray w')
theorem zti {w : World} {b o : Nat} {cs : List Value} (hc : ∀ (j : Nat) (hj : j < cs.length),w.cell? ⟨b,o + j,none⟩ = some cs[j]) : (loadCells ⟨b,o,none⟩ cs.length).run P w = .ok cs.toArray w := by
 refine run_loadCells_list (P := P) w ⟨b,o,none⟩ cs fun j v hv => ?_
 obtain ⟨hj,rfl⟩ := List.getElem?_eq_some_iff.1 hv
 rw [zdy]; exact hc j hj
theorem ygz {w w' : World} (h : w'.heap = w.heap) (a : Addr) : w'.cell? a = w.cell? a := by simp [World.cell?,h]
theorem zmp {w : World} {loc : Loc} {v : Value} {m s : Nat} {fl : List AV} (h : Seen w loc v m s fl) : Src P w loc v m s fl := by
 obtain ⟨a,cap,rfl,_,_,h0 | ⟨b,o,cs,rfl,_,hcl,hc,hco⟩⟩ := h.seen
 ·subst h0
  have hfl : fl = [] := by have := h.len; simp at this; exact this
  subst hfl
  refine ⟨[],by simp,⟨rfl,by simp,by simp⟩,fun w => by simp [Builtin.lenOf],fun w' _ => ?_⟩
  cases a <;> simp [Builtin.firstCells,loadCells,loadCellsFrom]
 ·refine ⟨cs,hcl,hco,fun w => by simp [Builtin.lenOf],fun w' hw => ?_⟩
  simp only [Builtin.firstCells]
  rw [← hcl]
  exact zti fun j hj => (ygz hw _).trans (hc j hj)
theorem zpz {w : World} {loc : Loc} (bs : List UInt8) : Src P w loc (.string ⟨bs.toArray⟩) bs.length 1 (bs.map fun b => .w (byte b)) := by
 refine ⟨bs.map byte,by simp,zeq bs,fun w => by simp [Builtin.lenOf,ByteArray.size],fun w' _ => ?_⟩
 simp only [Builtin.firstCells,Sem.run_pure]
 congr 1
 rw [ByteArray.extract_mk]
 simp [byte]
theorem yfr : ∀ (r c L newLen : Nat),c ≤ L → Builtin.growBy newLen r c ≤ (L + 768) * 2 ^ r
 | 0,c,L,n,h => by simp [Builtin.growBy]; omega
 | r + 1,c,L,n,h => by
  unfold Builtin.growBy
  split
  ·have : 1 ≤ 2 ^ (r + 1) := Nat.one_le_two_pow
   have := Nat.mul_le_mul_left (L + 768) this
   omega
  ·have h1 := yfr r (c + (c + 768) / 4) (L + (L + 768) / 4) n (by omega)
   have h2 : L + (L + 768) / 4 + 768 ≤ (L + 768) * 2 := by omega
   have h3 := Nat.mul_le_mul_right (2 ^ r) h2
   rw [Nat.pow_succ]
   have h4 : (L + 768) * 2 * 2 ^ r = (L + 768) * (2 ^ r * 2) := by rw [Nat.mul_assoc,Nat.mul_comm 2 (2 ^ r)]
   omega
theorem yes {need cap : Nat} (h : need ≤ 4294967296) (hc : cap ≤ need) : Builtin.nextslicecap need cap ≤ (4294967296 + 768) * 16 := by
 unfold Builtin.nextslicecap
 split
 ·omega
 ·split
  ·omega
  ·exact yfr 4 cap 4294967296 need (by omega)
theorem zpl {t u : TypeId} {ty : TypeId} {e : TypeId} {te : TyI} {du : TypeDesc} (hd : P.underlying t = some (.slice e)) (hty : TyR P e te) (hu : P.underlying u = some du) (hdu : ∀ k,du ≠ .int k) {w : World} {loc : Loc} {a : Option Addr} {n cap m : Nat} {vx : Value} {fx : List AV} {cd : List Value}
  (hb : te.bytes ≤ 1024) (hx : Src P w loc vx m te.size fx) (hcd : cd.length = n * te.size) (hold : ∀ w',w'.heap = w.heap → (Builtin.firstCells te.size n (.slice a n cap)).run P w' = .ok cd.toArray w') (hn : n + m ≤ 4294967296) (hcap : n ≤ cap) (hno : cap < n + m) :
  ∃ (cs : List Value) (newCap : Nat) (rest : Array Value) (w' : World),CellsOf w loc fx cs ∧ cs.length = m * te.size ∧ n + m ≤ newCap ∧ newCap ≤ maxLen ∧ (∀ (j : Nat) (h : j < rest.size),one rest[j] = true) ∧ (cd.toArray ++ cs.toArray ++ rest).size = newCap * te.size ∧
   zli w w' (.cells (cd.toArray ++ cs.toArray ++ rest) e) ∧ (Builtin.append_ #[t,u] ty #[.slice a n cap,vx]).run P w = .ok (.slice (some ⟨w.heap.size,0,none⟩) (n + m) newCap) w' := by
 obtain ⟨cs,h1,h2,h3,h4⟩ := hx.src
 obtain ⟨inf,zz,i1,i2,i3,i4,_⟩ := hty.info
 obtain ⟨z,z1,z2,z3⟩ := zbk hty { w with drawn := w.drawn + 1 }
 have hsz := zay hty w
 have hlim : ¬ Builtin.nextslicecap (n + m) cap * te.bytes > 2 ^ 48 := by
  have a1 := yes hn (by omega : cap ≤ n + m)
  have a2 : Builtin.nextslicecap (n + m) cap * te.bytes ≤ (4294967296 + 768) * 16 * 1024 := Nat.mul_le_mul a1 hb
  omega
 have hmatch : (match du with | .int _ => true | _ => false) = false := by
  cases du <;> first | rfl | exact (hdu _ rfl).elim
 obtain ⟨newCap,hc1,hc2,hrun⟩ : ∃ c,n + m ≤ c ∧ c ≤ maxLen ∧ (choose (.appendCap (n + m) cap e)).run P w = .ok c { w with drawn := w.drawn + 1 } := by
  refine ⟨n + m + w.tape w.drawn (.appendCap (n + m) cap e) % (2 ^ 63 - (n + m)),by omega,?_,by simp [choose,Sem.run,Question.forced,Question.cut]⟩
  have := Nat.mod_lt (w.tape w.drawn (.appendCap (n + m) cap e)) (show 0 < 2 ^ 63 - (n + m) by omega)
  unfold maxLen; omega
 have hzs : z.cells.size = te.size := by simpa using z2
 have hroom : ∀ (k : Nat) (W : World),(askRoom k).run P W = .ok () W := fun k W => by
  unfold askRoom; split <;> rfl
 refine ⟨cs,newCap,Builtin.zeroCells z.cells (newCap - (n + m)),{ w with drawn := w.drawn + 1,heap := w.heap.push (.cells (cd.toArray ++ cs.toArray ++ Builtin.zeroCells z.cells (newCap - (n + m))) e) },h2,h1,hc1,hc2,?_,?_,⟨rfl,rfl,rfl,rfl⟩,?_⟩
 ·intro j hj
  have hz0 : 0 < z.cells.size := by
   rcases Nat.eq_zero_or_pos z.cells.size with h | h
   ·simp [Builtin.zeroCells,h] at hj
   ·exact h
  simp only [Builtin.zeroCells,Array.getElem_map,Array.getElem_range]
  rw [getElem!_pos z.cells _ (Nat.mod_lt _ hz0)]
  exact zsj (z3 w loc).1 _ (Nat.mod_lt _ hz0)
 ·have hsub : newCap * te.size = n * te.size + m * te.size + (newCap - (n + m)) * te.size := by
   rw [← Nat.add_mul,← Nat.add_mul]; congr 1; omega
  simp [Builtin.zeroCells,hcd,h1,hzs]; omega
 ·have hno' : ¬ n + m ≤ cap := by omega
  have h63 : ¬ (((n + m : Nat) : Int) > IntKind.i64.max ∧ te.bytes = 0) := by
   have : IntKind.i64.max = 9223372036854775807 := by decide
   rw [this]; omega
  unfold Builtin.append_
  simp only [List.getElem?_toArray,List.getElem?_cons_zero,List.getElem?_cons_succ,Sem.run_bind,run_underlying hd,run_underlying hu,Result.andThen_ok,hsz,Sem.run_pure,hmatch,Bool.false_eq_true,if_false,h3,if_neg hno',zcm i1,i3,false_or,if_neg h63,if_neg hlim,hrun,hroom,hold _ rfl,h4 _ rfl,z1,Bool.not_false,if_true,not_false_eq_true]
  rw [hold { w with drawn := w.drawn + 1 } rfl]
  simp only [Result.andThen_ok,h4 { w with drawn := w.drawn + 1 } rfl,z1]
  rfl
theorem zeo {t u : TypeId} {ty : TypeId} {e : TypeId} {te : TyI} {du : TypeDesc} (hd : P.underlying t = some (.slice e)) (hty : TyR P e te) (hu : P.underlying u = some du) (hdu : ∀ k,du ≠ .int k) {w w' : World} {a : Option Addr} {n cap m : Nat} {vx : Value} {cs : List Value}
  (h3 : (Builtin.lenOf vx).run P w = .ok m w) (h4 : (Builtin.firstCells te.size m vx).run P w = .ok cs.toArray w) (hroom : n + m ≤ cap)
  (hst : match a with | some a => (storeCells (a.add (n * te.size)) cs).run P w = .ok () w' | none => w' = w) :
  (Builtin.append_ #[t,u] ty #[.slice a n cap,vx]).run P w = .ok (.slice a (n + m) cap) w' := by
 have hsz := zay hty w
 have hmatch : (match du with | .int _ => true | _ => false) = false := by
  cases du <;> first | rfl | exact (hdu _ rfl).elim
 unfold Builtin.append_
 simp only [List.getElem?_toArray,List.getElem?_cons_zero,List.getElem?_cons_succ,Sem.run_bind,run_underlying hd,run_underlying hu,Result.andThen_ok,hsz,Sem.run_pure,hmatch,Bool.false_eq_true,if_false,h3,if_pos hroom,h4,Bool.not_false,if_true]
 cases a with
 | none => simp only at hst; subst hst; simp
 | some a => simp only at hst; simp [hst]
theorem zsd {w0 : World} {E : Nat → Prop} {w : World} {loc : Loc} {H : Heap} (he : Env w0 E w loc) (hh : HR w loc H) {nm : Nat} (hf : loc.m nm = .free)
  {t u : TypeId} {ty : TypeId} {e : TypeId} {te : TyI} {du : TypeDesc} (hd : P.underlying t = some (.slice e)) (hty : TyR P e te) (hu : P.underlying u = some du) (hdu : ∀ k,du ≠ .int k) {a : Option Addr} {n cap m : Nat} {vx : Value} {fd fx : List AV}
  (hb : te.bytes ≤ 1024) (hx : Src P w loc vx m te.size fx) (hv : Seen w loc (.slice a n cap) n te.size fd) (hn : n + m ≤ 4294967296) (hno : cap < n + m) {blk : Blk} (hok : blk.ok) (hflat : blk.flat = fd ++ fx) (hs : blk.size = te.size) (hlen : blk.len = n + m) (wr : Bool) (hodd : blk.odd = none := by rfl) :
  ∃ u' w' loc',(Builtin.append_ #[t,u] ty #[.slice a n cap,vx]).run P w = .ok u' w' ∧ Post w0 E w loc wr nm (.ms nm te.size 0 (n + m)) (put H nm blk) u' w' loc' := by
 have hvs := zmp (P := P) hv
 obtain ⟨cd,d1,d2,d3,d4⟩ := hvs.src
 obtain ⟨a',cap',hae,hnc,hct,_⟩ := hv.seen
 injection hae with _ _ hcc; subst hcc
 obtain ⟨cs,newCap,rest,w',c1,c2,c3,c4,c5,c6,c7,c8⟩ := zpl (P := P) (ty := ty) hd hty hu hdu hb hx d1 d4 hn hnc hno
 have hfl := zbn hok
 have hco : CellsOf w loc (fd ++ fx) (cd ++ cs) := by
  refine ⟨by simp [d2.len,c1.len],fun j hj => ?_,fun j h1 h2 => ?_⟩
  ·by_cases hc : j < fd.length
   ·rw [List.getElem_append_left hc]; exact d2.leaf j hc
   ·rw [List.getElem_append_right (by omega)]; exact c1.leaf _ _
  ·have hl := d2.len
   by_cases hc : j < fd.length
   ·rw [List.getElem_append_left hc,List.getElem_append_left (by omega)]; exact d2.r j hc _
   ·rw [List.getElem_append_right (by omega),List.getElem_append_right (by omega)]
    have := c1.r (j - fd.length) (by simp at h1; omega) (by simp at h2; omega)
    simpa [hl] using this
 rw [← hflat] at hco
 have hcl := hco.len
 have hpost : Post w0 E w loc wr nm (.ms nm te.size 0 (n + m)) (put H nm blk) (.slice (some ⟨w.heap.size,0,none⟩) (n + m) newCap) w' (loc.set nm (.here w.heap.size)) := by
  refine zgj (e := e) (fz := (0,0)) he hh hf c7 hok (.inl rfl) (fun j hj => ?_) ?_ (fun j h1 h2 => ?_) (fun w' loc' h6 h7 => zmv h6 h7 (by rw [c6]; exact Nat.le_refl _) c3 c4) hodd
  ·by_cases hc : j < (cd.toArray ++ cs.toArray).size
   ·rw [Array.getElem_append_left hc]
    have : (cd.toArray ++ cs.toArray)[j] = (cd ++ cs)[j]'(by simpa using hc) := by simp [List.append_toArray]
    rw [this]; exact hco.one _ (List.getElem_mem _)
   ·rw [Array.getElem_append_right (by omega)]; exact c5 _ _
  ·simp at hcl ⊢; omega
  ·have hc : j < (cd.toArray ++ cs.toArray).size := by simp at hcl ⊢; omega
   rw [Array.getElem_append_left hc]
   have : (cd.toArray ++ cs.toArray)[j] = (cd ++ cs)[j]'(by simpa using hc) := by simp [List.append_toArray]
   rw [this]
   exact ⟨hco.leaf j h1,hco.r j h1 _⟩
 exact ⟨_,w',_,c8,hpost⟩
theorem zyw {w0 : World} {E : Nat → Prop} {w : World} {loc : Loc} {H : Heap} (he : Env w0 E w loc) (hh : HR w loc H) {nm s : Nat} (hf : loc.m nm = .free) {blk : Blk} (hok : blk.ok) (hl : blk.len = 0) (a : Option Addr) (wr : Bool) :
  Post w0 E w loc wr nm (.ms nm s 0 0) (put H nm blk) (.slice a 0 0) w (loc.set nm .nil) := by
 have hm : ∀ b,Mut (loc.set nm .nil) b → Mut loc b := by
  rintro b (h | ⟨k,h⟩)
  ·exact .inl h
  ·by_cases hk : k = nm
   ·subst hk; rw [Loc.set_same] at h; cases h
   ·rw [Loc.set_other _ _ hk] at h; exact .inr ⟨k,h⟩
 have hext : Ext (fun _ => False) w loc w (loc.set nm .nil) :=
  ⟨Nat.le_refl _,fun id h1 _ => Loc.set_other _ _ (fun e => h1 (e ▸ hf)),fun _ _ h => h.elim,fun b _ h => ⟨rfl,fun h' => h (hm b h')⟩,fun _ _ _ _ => rfl,fun _ cur _ fz h => ⟨cur,fz,h,rfl⟩⟩
 refine ⟨.ms _ _ _ _ _ ?_,?_,⟨he.os,he.tape,he.output,he.size,he.same,?_,?_,he.bad⟩,⟨_,hext,fun _ _ h => h⟩,?_,rfl⟩
 ·unfold Owns; rw [Loc.set_same]; exact ⟨rfl,a,rfl⟩
 ·intro id b hb
  rw [zax] at hb
  split at hb
  ·rename_i hi; subst hi
   injection hb with hb; subst hb
   unfold BlkR
   rw [Loc.set_same]
   exact ⟨hok,hl⟩
  ·rename_i hi
   by_cases hfr : loc.m id = .free
   ·exact BlkR.free (by rw [Loc.set_other _ _ (Ne.symm hi)]; exact hfr)
   ·exact (hh id b hb).ext hext (fun h => h) hfr
 ·intro i j b hi hj
  by_cases h1 : i = nm
  ·subst h1; rw [Loc.set_same] at hi; cases hi
  ·by_cases h2 : j = nm
   ·subst h2; rw [Loc.set_same] at hj; cases hj
   ·rw [Loc.set_other _ _ h1] at hi; rw [Loc.set_other _ _ h2] at hj; exact he.inj i j b hi hj
 ·intro i b hi
  by_cases h1 : i = nm
  ·subst h1; rw [Loc.set_same] at hi; cases hi
  ·rw [Loc.set_other _ _ h1] at hi; exact he.lies i b hi
 ·intro id h1 h2
  by_cases hi : id = nm
  ·omega
  ·rw [Loc.set_other _ _ hi] at h2; exact (h2 h1).elim
theorem zxe {w : World} {loc : Loc} {H : Heap} (hh : HR w loc H) (id : Nat) : HR w loc (drop H id) := by
 intro k b hk
 rw [zfh] at hk
 split at hk
 ·cases hk
 ·exact hh k b hk
theorem yfs {w0 : World} {E : Nat → Prop} {w w' : World} {loc : Loc} {H : Heap} (he : Env w0 E w loc) (hh : HR w loc H) {nm id : Nat} (hf : loc.m nm = .free) {b s n m cap o : Nat} {blk blk' : Blk} {cur cur' : Array Value} {e : TypeId} {fz : Nat × Nat} {fx : List AV} {cs : List Value}
  (hb : loc.m id = .here b) (hw : w.heap[b]? = some (.cells cur e fz)) (hlies : Lies w loc blk b) (hok : blk'.ok) (hflat : blk'.flat = blk.flat ++ fx) (hfn : blk.flat.length = n * s) (hco : CellsOf w loc fx cs) (hcm : cs.length = m * s)
  (hw' : w'.heap[b]? = some (.cells cur' e fz)) (hsz : cur'.size = cur.size) (hoth : ∀ c,c ≠ b → w'.heap[c]? = w.heap[c]?) (hsize : w'.heap.size = w.heap.size) (h1 : w'.os = w.os) (h2 : w'.tape = w.tape) (h3 : w'.output = w.output)
  (hcell : ∀ j,j < cur.size → cur'[j]? = if n * s ≤ j ∧ j < n * s + cs.length then cs[j - n * s]? else cur[j]?) (hroom : n * s + m * s ≤ cur.size)
  (ho : 0 < cap → o = 0) (hcap : cap * s ≤ cur.size) (hn : n + m ≤ cap) (ht : cap ≤ maxLen) (hodd : blk'.odd = none) (hsb : blk'.size = blk.size) :
  Post w0 E w loc true nm (.ms nm s 0 (n + m)) (put (drop H id) nm blk') (.slice (some ⟨b,o,none⟩) (n + m) cap) w' ((loc.set id .dead).set nm (.here b)) := by
 have hne : nm ≠ id := by intro h; subst h; rw [hf] at hb; cases hb
 have hl' : ∀ k,k ≠ nm → k ≠ id → ((loc.set id .dead).set nm (.here b)).m k = loc.m k := fun k a c => by rw [Loc.set_other _ _ a,Loc.set_other _ _ c]
 have hld : ((loc.set id .dead).set nm (.here b)).m id = .dead := by rw [Loc.set_other _ _ (Ne.symm hne),Loc.set_same]
 have hln : ((loc.set id .dead).set nm (.here b)).m nm = .here b := Loc.set_same _ _ _
 generalize hloc' : (loc.set id .dead).set nm (.here b) = loc' at *
 have hbad : loc'.bad = loc.bad := by rw [← hloc']; rfl
 have hM : ∀ c,Mut loc' c → Mut loc c := by
  rintro c (h | ⟨k,h⟩)
  ·exact .inl (by rw [hbad] at h; exact h)
  ·by_cases a1 : k = nm
   ·subst a1; rw [hln] at h; injection h with h; subst h; exact .inr ⟨id,hb⟩
   ·by_cases a2 : k = id
    ·subst a2; rw [hld] at h; cases h
    ·rw [hl' k a1 a2] at h; exact .inr ⟨k,h⟩
 have hext : Ext (fun k => k = id) w loc w' loc' := by
  refine ⟨by omega,fun k hk hC => ?_,fun k hk hC => ?_,fun c hc hm => ⟨hoth c ?_,fun h => hm (hM c h)⟩,fun k c hk hC => hoth c ?_,fun c cur1 e1 fz1 hc1 => ?_⟩
  ·exact hl' k (fun h => hk (h ▸ hf)) hC
  ·subst hC; exact .inr hld
  ·intro hcb; subst hcb; exact hm (.inr ⟨id,hb⟩)
  ·intro hcb; subst hcb; exact hC (he.inj k id c hk hb)
  ·by_cases hcb : c = b
   ·subst hcb
    rw [hw] at hc1; injection hc1 with hc1; injection hc1 with h4 h5 h6; subst h4 h5 h6
    exact ⟨cur',fz,hw',hsz⟩
   ·exact ⟨cur1,fz1,(hoth c hcb).trans hc1,rfl⟩
 obtain ⟨cur0,e0,fz0,hh0,hfz,hone,hlen,hr⟩ := hlies.lies (zqj hlies hw)
 rw [hw] at hh0; injection hh0 with hh0; injection hh0 with q1 q2 q3; subst q1 q2 q3
 have hxl := hco.len
 refine ⟨.ms _ _ _ _ _ ?_,?_,⟨h1.trans he.os,h2.trans he.tape,h3.trans he.output,by have := he.size; omega,fun c hc hE => ?_,?_,?_,by rw [hbad]; exact he.bad⟩,⟨_,hext,fun h => by cases h⟩,?_,hbad⟩
 ·unfold Owns; rw [hln]
  exact ⟨o,cap,cur',e,fz,rfl,fun h => by rw [ho h]; simp,hw',by rw [hsz]; simpa using hcap,hn,ht⟩
 ·intro k bl hk
  rw [zax] at hk
  split at hk
  ·rename_i hi; subst hi
   injection hk with hk; subst hk
   unfold BlkR
   rw [hln]
   refine ⟨hok,.mkC ⟨cur',e,fz,hw',by rw [hsz,hsb]; exact hfz,fun j hj => ?_,by rw [hflat,hsz]; simp; omega,fun j a c => ?_⟩ hodd⟩
   ·have h9 := hcell j (by omega)
    rw [Array.getElem?_eq_getElem hj] at h9
    split at h9
    ·rw [List.getElem?_eq_getElem (by omega)] at h9
     injection h9 with h9; rw [h9]; exact hco.one _ (List.getElem_mem _)
    ·rw [Array.getElem?_eq_getElem (by omega)] at h9
     injection h9 with h9; rw [h9]; exact hone j _
   ·have h9 := hcell j (by omega)
    rw [Array.getElem?_eq_getElem c] at h9
    have hg : blk'.flat[j] = (blk.flat ++ fx)[j]'(by rw [← hflat]; exact a) := by congr 1
    rw [hg]
    rw [hflat] at a; simp at a
    by_cases hc : j < blk.flat.length
    ·rw [if_neg (by omega),Array.getElem?_eq_getElem (by omega)] at h9
     injection h9 with h9
     rw [List.getElem_append_left hc,h9]
     exact ⟨(hr j hc (by omega)).1,(hr j hc (by omega)).2.ext hext⟩
    ·rw [if_pos (by omega),List.getElem?_eq_getElem (by omega)] at h9
     injection h9 with h9
     rw [List.getElem_append_right (by omega),h9]
     refine ⟨hco.leaf _ (by omega),?_⟩
     have := (hco.r (j - blk.flat.length) (by omega) (by omega)).ext hext
     simpa [hfn] using this
  ·rename_i hi
   rw [zfh] at hk
   split at hk
   ·cases hk
   ·rename_i hi2
    by_cases hfr : loc.m k = .free
    ·exact BlkR.free (by rw [hl' k (Ne.symm hi) (Ne.symm hi2)]; exact hfr)
    ·exact (hh k bl hk).ext hext (Ne.symm hi2) hfr
 ·rw [hoth c ?_]
  ·exact he.same c hc hE
  ·intro hcb; subst hcb
   rcases (he.lies id c hb).2 with h | h
   ·omega
   ·exact hE h
 ·intro i j c hi hj
  by_cases a1 : i = nm
  ·by_cases a2 : j = nm
   ·rw [a1,a2]
   ·subst a1
    rw [hln] at hi; injection hi with hi; subst hi
    by_cases a3 : j = id
    ·subst a3; rw [hld] at hj; cases hj
    ·rw [hl' j a2 a3] at hj; exact (a3 (he.inj j id b hj hb)).elim
  ·by_cases a2 : j = nm
   ·subst a2
    rw [hln] at hj; injection hj with hj; subst hj
    by_cases a3 : i = id
    ·subst a3; rw [hld] at hi; cases hi
    ·rw [hl' i a1 a3] at hi; exact (a3 (he.inj i id b hi hb)).elim
   ·by_cases a3 : i = id
    ·subst a3; rw [hld] at hi; cases hi
    ·by_cases a4 : j = id
     ·subst a4; rw [hld] at hj; cases hj
     ·rw [hl' i a1 a3] at hi; rw [hl' j a2 a4] at hj; exact he.inj i j c hi hj
 ·intro i c hi
  by_cases a1 : i = nm
  ·subst a1; rw [hln] at hi; injection hi with hi; subst hi
   have := he.lies id b hb; exact ⟨by omega,this.2⟩
  ·by_cases a2 : i = id
   ·subst a2; rw [hld] at hi; cases hi
   ·rw [hl' i a1 a2] at hi; have := he.lies i c hi; exact ⟨by omega,this.2⟩
 ·intro k a1 a2
  by_cases a3 : k = nm
  ·omega
  ·by_cases a4 : k = id
   ·subst a4; rw [hb] at a1; cases a1
   ·rw [hl' k a3 a4] at a2; exact (a2 a1).elim
theorem zxj {w0 : World} {E : Nat → Prop} {w : World} {loc : Loc} {H : Heap} (he : Env w0 E w loc) (hh : HR w loc H) {nm id : Nat} (hf : loc.m nm = .free)
  {t u : TypeId} {ty : TypeId} {e : TypeId} {te : TyI} {du : TypeDesc} (hd : P.underlying t = some (.slice e)) (hty : TyR P e te) (hu : P.underlying u = some du) (hdu : ∀ k,du ≠ .int k) {n m : Nat} {v vx : Value} {fx : List AV}
  (hb : te.bytes ≤ 1024) (hx : Src P w loc vx m te.size fx) {blk blk' : Blk} (hl : look H id = some blk) (hv : Owns w loc id te.size 0 n v) (hnl : n = blk.len) (hs : blk.size = te.size) (hn : n + m ≤ 4294967296)
  (hok : blk'.ok) (hflat : blk'.flat = blk.flat ++ fx) (hs' : blk'.size = te.size) (hlen : blk'.len = n + m) (hodd : blk'.odd = none := by rfl) :
  ∃ u' w' loc',(Builtin.append_ #[t,u] ty #[v,vx]).run P w = .ok u' w' ∧ Post w0 E w loc true nm (.ms nm te.size 0 (n + m)) (put (drop H id) nm blk') u' w' loc' := by
 have hfr : loc.m id ≠ .free := by intro e; simp [Owns,e] at hv
 have hseen := zff hh hv hl hs (by omega)
 obtain ⟨hbok,hnil | ⟨b,hbb,hlies⟩⟩ := hh.get hl hfr
 ·have hfl : blk.flat = [] := List.length_eq_zero_iff.1 (by rw [zbn hbok,hnil.2]; simp)
  have h0 : n = 0 := by omega
  subst h0
  unfold Owns at hv; rw [hnil.1] at hv
  obtain ⟨_,a,rfl⟩ := hv
  by_cases hm : m = 0
  ·subst hm
   obtain ⟨cs,c1,c2,c3,c4⟩ := hx.src
   have hcs : cs = [] := List.length_eq_zero_iff.1 (by rw [c1]; simp)
   subst hcs
   refine ⟨_,w,_,zeo (P := P) (ty := ty) hd hty hu hdu (a := a) (n := 0) (cap := 0) (c3 w) (c4 w rfl) (Nat.le_refl _) ?_,zyw he (zxe hh id) hf hok (by omega) a true⟩
   cases a <;> rfl
  ·rw [hfl,List.nil_append] at hflat
   refine zsd (P := P) (fd := []) he (zxe hh id) hf hd hty hu hdu hb hx ⟨⟨a,0,rfl,Nat.le_refl _,Nat.zero_le _,.inl rfl⟩,by simp⟩ hn (by omega) hok (by simpa using hflat) hs' hlen true hodd
 ·have hv2 := hv
  unfold Owns at hv; rw [hbb] at hv
  obtain ⟨o,cap,cur,e0,fz,rfl,ho,hheap,hsz,hnc,htop⟩ := hv
  have hfull : (blk.flat.drop (0 * te.size)).take (n * te.size) = blk.flat := by
   rw [Nat.zero_mul,List.drop_zero,List.take_of_length_le (by rw [zbn hbok,hs,hnl]; exact Nat.le_refl _)]
  rw [hfull] at hseen
  by_cases hroom : n + m ≤ cap
  ·obtain ⟨cs,c1,c2,c3,c4⟩ := hx.src
   obtain ⟨cur0,e1,fz0,hh0,hfz,hone,hlen0,hr⟩ := hlies.lies (zqj hlies hheap)
   have hh1 := hh0
   rw [hheap] at hh0; injection hh0 with hh0; injection hh0 with q1 q2 q3; subst q1 q2 q3
   have hmul : n * te.size + m * te.size ≤ cap * te.size := by rw [← Nat.add_mul]; exact Nat.mul_le_mul_right _ hroom
   by_cases hc0 : cap = 0
   ·have hn0 : n = 0 := by omega
    have hm0 : m = 0 := by omega
    subst hn0 hm0 hc0
    have hcs : cs = [] := List.length_eq_zero_iff.1 (by rw [c1]; simp)
    subst hcs
    refine ⟨_,w,_,zeo (P := P) (ty := ty) hd hty hu hdu (a := some ⟨b,o,none⟩) (n := 0) (cap := 0) (c3 w) (c4 w rfl) (Nat.le_refl _) rfl,yfs he hh hf hbb hheap hlies hok hflat (by rw [zbn hbok,hs,← hnl]) c2 c1 hheap rfl (fun _ _ => rfl) rfl rfl rfl rfl (fun j _ => by rw [if_neg (by simp)]) (by simp) (by simp) (by simp) (Nat.le_refl _) htop hodd (hs'.trans hs.symm)⟩
   ·have ho := ho (by omega)
    rw [Nat.zero_mul] at ho
    subst ho
    rw [Nat.zero_add] at hsz
    obtain ⟨w',cur',r1,r2,r3,r4,r5,r6,r7,r8,r9⟩ := zbr (P := P) b (n * te.size) e0 fz cs 0 cur w hheap (zoa hfz) (by omega) c2.one
    refine ⟨_,w',_,zeo (P := P) (ty := ty) hd hty hu hdu (a := some ⟨b,0,none⟩) (n := n) (cap := cap) (c3 w) (c4 w rfl) hroom (by simp only [zdy,Nat.zero_add]; exact r1),yfs he hh hf hbb hheap hlies hok hflat (by rw [zbn hbok,hs,← hnl]) c2 c1 r2 r3 r4 r5 r6 r7 r8 (by simpa using r9) (by omega) (fun _ => rfl) hsz hroom htop hodd (hs'.trans hs.symm)⟩
  ·exact zsd (P := P) he (zxe hh id) hf hd hty hu hdu hb hx hseen hn (by omega) hok hflat hs' hlen true hodd
theorem zhy {w0 : World} {E : Nat → Prop} {w : World} {loc : Loc} {H : Heap} (he : Env w0 E w loc) (hh : HR w loc H) {nm : Nat} (hf : loc.m nm = .free)
  {t u : TypeId} {ty : TypeId} {e : TypeId} {te : TyI} {du : TypeDesc} (hd : P.underlying t = some (.slice e)) (hty : TyR P e te) (hu : P.underlying u = some du) (hdu : ∀ k,du ≠ .int k) {a : Option Addr} {n m : Nat} {vx : Value} {fd fx : List AV}
  (hb : te.bytes ≤ 1024) (hx : Src P w loc vx m te.size fx) (hv : Seen w loc (.slice a n n) n te.size fd) (hnm : n = 0 ∨ 0 < m) (hn : n + m ≤ 4294967296) {blk : Blk} (hok : blk.ok) (hflat : blk.flat = fd ++ fx) (hs : blk.size = te.size) (hlen : blk.len = n + m) (hodd : blk.odd = none := by rfl) :
  ∃ u' w' loc',(Builtin.append_ #[t,u] ty #[.slice a n n,vx]).run P w = .ok u' w' ∧ Post w0 E w loc true nm (.ms nm te.size 0 (n + m)) (put H nm blk) u' w' loc' := by
 by_cases hm : m = 0
 ·have h0 : n = 0 := by omega
  subst h0 hm
  obtain ⟨cs,c1,c2,c3,c4⟩ := hx.src
  have hcs : cs = [] := List.length_eq_zero_iff.1 (by rw [c1]; simp)
  subst hcs
  refine ⟨_,w,_,zeo (P := P) (ty := ty) hd hty hu hdu (a := a) (n := 0) (cap := 0) (c3 w) (c4 w rfl) (Nat.le_refl _) ?_,zyw he hh hf hok hlen a true⟩
  cases a <;> rfl
 ·exact zsd (P := P) he hh hf hd hty hu hdu hb hx hv hn (by omega) hok hflat hs hlen true hodd
end ops
end Ax
end Go.Proofs.Ytdfgfdcfcdgadaa
namespace Go.Proofs.Ytdfgfdcfcdgadaa
namespace Ax
section ops
variable {P : Program}
theorem zlm {w : World} {loc : Loc} {a : Option Addr} {cap s : Nat} (hc : cap ≤ maxLen) : Seen w loc (.slice a 0 cap) 0 s [] := ⟨⟨a,cap,rfl,Nat.zero_le _,hc,.inl rfl⟩,by simp⟩
theorem zif {w0 : World} {E : Nat → Prop} {w : World} {loc : Loc} {H : Heap} (he : Env w0 E w loc) (hh : HR w loc H) {nm : Nat} (hf : loc.m nm = .free)
  {t u : TypeId} {ty : TypeId} {e : TypeId} {te : TyI} {du : TypeDesc} (hd : P.underlying t = some (.slice e)) (hty : TyR P e te) (hu : P.underlying u = some du) (hdu : ∀ k,du ≠ .int k) {v vx : Value} {d : AV} {ys : List UInt8}
  (hs : te.size = 1) (hb : te.bytes ≤ 1024) (hv : R w loc d v) (hx : Src P w loc vx ys.length te.size (ys.map fun b => .w (byte b))) (hp : (zcr nm d ys H).p) :
  ∃ u' w' loc',(Builtin.append_ #[t,u] ty #[v,vx]).run P w = .ok u' w' ∧ Post w0 E w loc true nm (zcr nm d ys H).x (zcr nm d ys H).H u' w' loc' := by
 unfold zcr at hp ⊢
 unfold top at hp
 cases hv with
 | sb bs full a cap hdm hc =>
  simp only at hp ⊢
  obtain ⟨h1,h2,h3⟩ := hp
  have hcap := hdm.full h1
  subst hcap
  have := zhy (P := P) (ty := ty) he hh hf hd hty hu hdu hb hx (a := a) (n := bs.length) (zew hdm hc (zeq bs) (by rw [hs]; simp) (by omega)) (by
   rcases h2 with h | h
   ·left; rw [h]; rfl
   ·right; exact List.length_pos_iff.2 h) h3 (blk := .b (bs ++ ys)) trivial (by simp [Blk.flat]) hs.symm (by simp [Blk.len])
  rw [hs] at this
  exact this
 | sg s xs full a cap cs hdm hls hc hl hxs h =>
  cases xs with
  | nil =>
   simp only at hp ⊢
   obtain ⟨h1,h3⟩ := hp
   have hcap := hdm.full h1
   simp at hcap
   subst hcap
   have := zhy (P := P) (ty := ty) he hh hf hd hty hu hdu hb hx (a := a) (n := 0) (fd := []) (zlm (Nat.zero_le _)) (.inl rfl) (by omega) (blk := .b ys) trivial (by simp [Blk.flat]) hs.symm (by simp [Blk.len])
   rw [hs] at this
   simpa using this
  | cons => simp [bad] at hp
 | ms id s off len v h =>
  simp only at hp ⊢
  cases hl : look H id with
  | none => simp [hl,bad] at hp
  | some blk =>
   cases blk with
   | o x => simp [hl,bad] at hp
   | b bs =>
    simp only [hl] at hp ⊢
    obtain ⟨rfl,rfl,rfl,h3⟩ := hp
    have := zxj (P := P) (ty := ty) he hh hf hd hty hu hdu hb hx hl (n := bs.length) (by rw [hs]; exact h) rfl (by rw [hs]; rfl) h3 (blk' := .b (bs ++ ys)) trivial (by simp [Blk.flat]) hs.symm (by simp [Blk.len])
    rw [hs] at this
    exact this
   | i ns => simp [hl,bad] at hp
   | g s xs => simp [hl,bad] at hp
 | _ => simp [bad] at hp
theorem zwf {w0 : World} {E : Nat → Prop} {w : World} {loc : Loc} {H : Heap} (he : Env w0 E w loc) (hh : HR w loc H) {nm : Nat} (hf : loc.m nm = .free)
  {t u : TypeId} {ty : TypeId} {e : TypeId} {te : TyI} {du : TypeDesc} (hd : P.underlying t = some (.slice e)) (hty : TyR P e te) (hu : P.underlying u = some du) (hdu : ∀ k,du ≠ .int k) {v vx : Value} {d : AV} {ys : List Int}
  (hs : te.size = 1) (hb : te.bytes ≤ 1024) (hv : R w loc d v) (hx : Src P w loc vx ys.length te.size (ys.map fun b => .w (word b))) (hp : (zdt nm d ys H).p) :
  ∃ u' w' loc',(Builtin.append_ #[t,u] ty #[v,vx]).run P w = .ok u' w' ∧ Post w0 E w loc true nm (zdt nm d ys H).x (zdt nm d ys H).H u' w' loc' := by
 unfold zdt at hp ⊢
 unfold top at hp
 cases hv with
 | si bs full a cap hdm hc =>
  simp only at hp ⊢
  obtain ⟨h1,h2,h3⟩ := hp
  have hcap := hdm.full h1
  subst hcap
  have := zhy (P := P) (ty := ty) he hh hf hd hty hu hdu hb hx (a := a) (n := bs.length) (zew hdm hc (zgt bs) (by rw [hs]; simp) (by omega)) (by
   rcases h2 with h | h
   ·left; rw [h]; rfl
   ·right; exact List.length_pos_iff.2 h) h3 (blk := .i (bs ++ ys)) trivial (by simp [Blk.flat]) hs.symm (by simp [Blk.len])
  rw [hs] at this
  exact this
 | sg s xs full a cap cs hdm hls hc hl hxs h =>
  cases xs with
  | nil =>
   simp only at hp ⊢
   obtain ⟨h1,h3⟩ := hp
   have hcap := hdm.full h1
   simp at hcap
   subst hcap
   have := zhy (P := P) (ty := ty) he hh hf hd hty hu hdu hb hx (a := a) (n := 0) (fd := []) (zlm (Nat.zero_le _)) (.inl rfl) (by omega) (blk := .i ys) trivial (by simp [Blk.flat]) hs.symm (by simp [Blk.len])
   rw [hs] at this
   simpa using this
  | cons => simp [bad] at hp
 | ms id s off len v h =>
  simp only at hp ⊢
  cases hl : look H id with
  | none => simp [hl,bad] at hp
  | some blk =>
   cases blk with
   | o x => simp [hl,bad] at hp
   | i bs =>
    simp only [hl] at hp ⊢
    obtain ⟨rfl,rfl,rfl,h3⟩ := hp
    have := zxj (P := P) (ty := ty) he hh hf hd hty hu hdu hb hx hl (n := bs.length) (by rw [hs]; exact h) rfl (by rw [hs]; rfl) h3 (blk' := .i (bs ++ ys)) trivial (by simp [Blk.flat]) hs.symm (by simp [Blk.len])
    rw [hs] at this
    exact this
   | b ns => simp [hl,bad] at hp
   | g s xs => simp [hl,bad] at hp
 | _ => simp [bad] at hp
theorem zwg {w0 : World} {E : Nat → Prop} {w : World} {loc : Loc} {H : Heap} (he : Env w0 E w loc) (hh : HR w loc H) {nm : Nat} (hf : loc.m nm = .free)
  {t u : TypeId} {ty : TypeId} {e : TypeId} {te : TyI} {du : TypeDesc} (hd : P.underlying t = some (.slice e)) (hty : TyR P e te) (hu : P.underlying u = some du) (hdu : ∀ k,du ≠ .int k) {v vx : Value} {d : AV} {ys : List AV}
  (hs : 0 < te.size) (hb : te.bytes ≤ 1024) (hv : R w loc d v) (hx : Src P w loc vx ys.length te.size (ys.flatMap AV.leaves)) (hyl : ∀ y ∈ ys,y.leaves.length = te.size) (hp : (zcq te.size nm d ys H).p) :
  ∃ u' w' loc',(Builtin.append_ #[t,u] ty #[v,vx]).run P w = .ok u' w' ∧ Post w0 E w loc true nm (zcq te.size nm d ys H).x (zcq te.size nm d ys H).H u' w' loc' := by
 unfold zcq at hp ⊢
 unfold top at hp
 cases hv with
 | sg s xs full a cap cs hdm hls hc hl hxs h =>
  simp only at hp ⊢
  obtain ⟨h1,h2,h3⟩ := hp
  have hcap := hdm.full h1
  subst hcap
  have hlx : ∀ y ∈ xs ++ ys,y.leaves.length = te.size := by
   intro y hy
   rcases List.mem_append.1 hy with hy | hy
   ·rcases h2 with rfl | ⟨rfl,_⟩
    ·simp at hy
    ·exact hls y hy
   ·exact hyl y hy
  have hseen : Seen w loc (.slice a xs.length xs.length) xs.length te.size (xs.flatMap AV.leaves) := by
   rcases h2 with rfl | ⟨rfl,_⟩
   ·exact zlm hdm.top
   ·refine zew hdm hc ⟨hl,fun j hj => (hxs j hj).1,h⟩ ?_ hs
    have := zbn (blk := .g te.size xs) ⟨hs,hls⟩
    simp only [Blk.flat,Blk.len,Blk.size] at this
    rw [← hl,this]
  exact zhy (P := P) (ty := ty) he hh hf hd hty hu hdu hb hx hseen (by
   rcases h2 with h | h
   ·left; rw [h]; rfl
   ·right; exact List.length_pos_iff.2 h.2) h3 (blk := .g te.size (xs ++ ys)) ⟨hs,hlx⟩ (by simp [Blk.flat]) rfl (by simp [Blk.len])
 | ms id s off len v h =>
  simp only at hp ⊢
  cases hl : look H id with
  | none => simp [hl,bad] at hp
  | some blk =>
   cases blk with
   | o x => simp [hl,bad] at hp
   | g s'' xs =>
    simp only [hl] at hp ⊢
    obtain ⟨rfl,rfl,rfl,rfl,h3⟩ := hp
    have hfr : loc.m id ≠ .free := by intro e; simp [Owns,e] at h
    obtain ⟨hok,_⟩ := hh.get hl hfr
    exact zxj (P := P) (ty := ty) he hh hf hd hty hu hdu hb hx hl (n := xs.length) h rfl rfl h3 (blk' := .g te.size (xs ++ ys)) ⟨hs,fun y hy => by
     rcases List.mem_append.1 hy with hy | hy
     ·exact hok.2 y hy
     ·exact hyl y hy⟩ (by simp [Blk.flat]) rfl (by simp [Blk.len])
   | i ns => simp [hl,bad] at hp
   | b xs => simp [hl,bad] at hp
 | _ => simp [bad] at hp
theorem yeb {e : TypeId} {te : TyI} (hty : TyR P e te) (hz : te.zero = [.w (.int .u8 0)]) (hs : te.size = 1) (w : World) : ∃ z,(zeroValue e).run P w = .ok z w ∧ z.cells = #[.int .u8 0] := by
 obtain ⟨z,h1,h2,h3⟩ := zbk hty w
 refine ⟨z,h1,?_⟩
 have hc := (h3 w ⟨fun _ => .free,fun _ => False⟩).1
 rw [hz] at hc
 have hl := hc.len
 have := (hc.r 0 (by simp) (by rw [← hl]; simp)).wv
 rw [← Array.toList_inj]
 refine List.ext_getElem (by rw [← hl]; rfl) fun j a b => ?_
 have : j = 0 := by simp at b; omega
 subst this
 simpa using ‹_ = _›
theorem ybb (n : Nat) : Builtin.zeroCells #[.int .u8 0] n = Array.replicate n (.int .u8 0) := by
 apply Array.ext
 ·simp [Builtin.zeroCells]
 ·intro j h1 h2
  simp [Builtin.zeroCells,Nat.mod_one]
theorem zxn (m n : Nat) (h : m ≤ n) (w : World) : (Builtin.firstCells 1 m (.string ⟨(List.replicate n (0 : UInt8)).toArray⟩)).run P w = .ok (Array.replicate m (.int .u8 0)) w := by
 simp only [Builtin.firstCells,Sem.run_pure]
 congr 1
 rw [ByteArray.extract_mk]
 apply Array.ext
 ·simp; omega
 ·intro j h1 h2
  simp
theorem zmm {t u : TypeId} {ty : TypeId} {e : TypeId} {te : TyI} {ku : IntKind} (hd : P.underlying t = some (.slice e)) (hty : TyR P e te) (hu : P.underlying u = some (.int ku)) (hz : te.zero = [.w (.int .u8 0)]) (hs : te.size = 1) (hb : te.bytes ≤ 1024) {w : World} {v : Value} {n : Nat} {kk : IntKind}
  (hn : n ≤ 4294967296) (hv : ∀ a l c,v = .slice a l c → l ≤ c ∧ l + n ≤ 4294967296) :
  (Builtin.append_ #[t,u] ty #[v,.int kk n]).run P w = (Builtin.append_ #[t,t] ty #[v,.string ⟨(List.replicate n (0 : UInt8)).toArray⟩]).run P w := by
 cases v with
 | slice a l c =>
  obtain ⟨hlc,hln⟩ := hv a l c rfl
  obtain ⟨inf,zz,i1,i2,i3,i4,_⟩ := hty.info
  have hsz : ∀ W,(sizeOf e).run P W = .ok te.size W := fun W => zay hty W
  have hti : ∀ W,(typeInfo e).run P W = .ok inf W := fun W => zcm i1 W
  have hw : IntKind.i64.wrap (n : Int) = n := by rw [IntKind.wrap_i64]; omega
  have h48 : ¬ ((n : Int) * (te.bytes : Int) > 2 ^ 48) := by
   have : n * te.bytes ≤ 4294967296 * 1024 := Nat.mul_le_mul hn hb
   have h2 : ((n * te.bytes : Nat) : Int) = (n : Int) * (te.bytes : Int) := by simp
   omega
  have h0 : ¬ ((n : Int) < 0) := by omega
  have hsb : (ByteArray.mk (List.replicate n (0 : UInt8)).toArray).size = n := by simp [ByteArray.size]
  have hmax : IntKind.i64.max = 9223372036854775807 := by decide
  have h63 : ¬ (((l + n : Nat) : Int) > IntKind.i64.max) := by rw [hmax]; omega
  have hfirst := fun W => zxn (P := P) n n (Nat.le_refl _) W
  have happ : ∀ W,(if n * te.size = 0 then pure #[] else do let z ← zeroValue e; pure (Builtin.zeroCells z.cells n) : Sem (Array Value)).run P W = .ok (Array.replicate n (.int .u8 0)) W := by
   intro W
   by_cases hn0 : n = 0
   ·subst hn0; simp
   ·obtain ⟨z,z1,z2⟩ := yeb (P := P) hty hz hs W
    rw [if_neg (by rw [hs]; omega)]
    simp only [Sem.run_bind,z1,Result.andThen_ok,Sem.run_pure,z2,ybb]
  rw [hs] at happ hsz
  by_cases hroom : l + n ≤ c
  ·unfold Builtin.append_
   simp only [List.getElem?_toArray,List.getElem?_cons_zero,List.getElem?_cons_succ,Sem.run_bind,run_underlying hd,run_underlying hu,Result.andThen_ok,hsz,Sem.run_pure,if_true,asInt,asIntOf,hw,if_neg h0,hti,i3,if_neg h48,Int.toNat_natCast,Bool.false_eq_true,if_false,Builtin.lenOf,hsb,if_pos hroom,Bool.not_true,Bool.not_false,happ,hs,hfirst]
  ·have hlim : ¬ Builtin.nextslicecap (l + n) c * te.bytes > 2 ^ 48 := by
    have a1 := yes hln (by omega : c ≤ l + n)
    have a2 : Builtin.nextslicecap (l + n) c * te.bytes ≤ (4294967296 + 768) * 16 * 1024 := Nat.mul_le_mul a1 hb
    omega
   unfold Builtin.append_
   simp only [List.getElem?_toArray,List.getElem?_cons_zero,List.getElem?_cons_succ,Sem.run_bind,run_underlying hd,run_underlying hu,Result.andThen_ok,hsz,Sem.run_pure,if_true,asInt,asIntOf,hw,if_neg h0,hti,i3,if_neg h48,Int.toNat_natCast,Bool.false_eq_true,if_false,Builtin.lenOf,hsb,if_neg hroom,Bool.not_true,Bool.not_false,happ,hs,hfirst,h63,false_and,if_neg hlim]
 | _ => rfl
theorem zyb {w0 : World} {E : Nat → Prop} {w : World} {loc : Loc} {H : Heap} {T : zac} (hT : TOk P T) (he : Env w0 E w loc) (hh : HR w loc H) {nm : Nat} (hf : loc.m nm = .free) {ts : List TypeId} {ty : TypeId} {d x : AV} {v vx : Value} (hv : R w loc d v) (hx : R w loc x vx) (hp : (zgf T nm ts d x H).p) :
  ∃ u' w' loc',(Builtin.append_ ts.toArray ty #[v,vx]).run P w = .ok u' w' ∧ Post w0 E w loc true nm (zgf T nm ts d x H).x (zgf T nm ts d x H).H u' w' loc' := by
 unfold zgf at hp ⊢
 split at hp
 ·rename_i t u
  cases ht : T t with
  | none => simp [ht,bad] at hp
  | some ti =>
   cases htu : T u with
   | none => simp [ht,htu,bad] at hp
   | some tu =>
    simp only [ht,htu] at hp ⊢
    have hd := (hT t ti ht).d
    have hud := (hT u tu htu).d
    cases hdd : ti.d with
    | slice e =>
     simp only [hdd] at hp ⊢
     rw [hdd] at hd
     have hd : P.underlying t = some (.slice e) := hd
     cases hte : T e with
     | none => simp [hte,bad] at hp
     | some te =>
      simp only [hte] at hp ⊢
      have hty := hT _ te hte
      have slice_u : ∀ e',tu.d = .slice e' → P.underlying u = some (.slice e') := fun e' h => by rw [h] at hud; exact hud
      have caseB : (∀ e',tu.d = .slice e' → ((zcr nm d (zfb H x).2 H).and (te.size = 1 ∧ te.bytes ≤ 1024 ∧ (zfb H x).1)).p → ∃ u' w' loc',(Builtin.append_ #[t,u] ty #[v,vx]).run P w = .ok u' w' ∧ Post w0 E w loc true nm (zcr nm d (zfb H x).2 H).x (zcr nm d (zfb H x).2 H).H u' w' loc') := by
       intro e' h1 ⟨⟨h2,h3,h4⟩,h5⟩
       have := zmp (P := P) (zjf hh hx h4)
       rw [← h2] at this
       exact zif (P := P) he hh hf hd hty (slice_u e' h1) (by simp) h2 h3 hv this h5
      have caseI : (∀ e',tu.d = .slice e' → ((zdt nm d (zhl H x).2 H).and (te.size = 1 ∧ te.bytes ≤ 1024 ∧ (zhl H x).1)).p → ∃ u' w' loc',(Builtin.append_ #[t,u] ty #[v,vx]).run P w = .ok u' w' ∧ Post w0 E w loc true nm (zdt nm d (zhl H x).2 H).x (zdt nm d (zhl H x).2 H).H u' w' loc') := by
       intro e' h1 ⟨⟨h2,h3,h4⟩,h5⟩
       have := zmp (P := P) (zwk hh hx h4)
       rw [← h2] at this
       exact zwf (P := P) he hh hf hd hty (slice_u e' h1) (by simp) h2 h3 hv this h5
      have caseG : (∀ e',tu.d = .slice e' → ((zcq te.size nm d (zfa te.size H x).2 H).and (0 < te.size ∧ te.bytes ≤ 1024 ∧ (zfa te.size H x).1)).p → ∃ u' w' loc',(Builtin.append_ #[t,u] ty #[v,vx]).run P w = .ok u' w' ∧ Post w0 E w loc true nm (zcq te.size nm d (zfa te.size H x).2 H).x (zcq te.size nm d (zfa te.size H x).2 H).H u' w' loc') := by
       intro e' h1 ⟨⟨h2,h3,h4⟩,h5⟩
       obtain ⟨s1,s2⟩ := zwl h2 hh hx h4
       exact zwg (P := P) he hh hf hd hty (slice_u e' h1) (by simp) h2 h3 hv (zmp (P := P) s1) s2 h5
      have gen : (match tu.d with | .slice _ => (zcq te.size nm d (zfa te.size H x).2 H).and (0 < te.size ∧ te.bytes ≤ 1024 ∧ (zfa te.size H x).1) | _ => bad).p → ∃ u' w' loc',(Builtin.append_ #[t,u] ty #[v,vx]).run P w = .ok u' w' ∧ Post w0 E w loc true nm (match tu.d with | .slice _ => (zcq te.size nm d (zfa te.size H x).2 H).and (0 < te.size ∧ te.bytes ≤ 1024 ∧ (zfa te.size H x).1) | _ => bad).x (match tu.d with | .slice _ => (zcq te.size nm d (zfa te.size H x).2 H).and (0 < te.size ∧ te.bytes ≤ 1024 ∧ (zfa te.size H x).1) | _ => bad).H u' w' loc' := by
       cases htd : tu.d with
       | slice e' => exact fun h => caseG e' htd h
       | _ => exact fun h => h.elim
      obtain ⟨d8,hd8⟩ : ∃ d,te.d = d := ⟨_,rfl⟩
      rw [hd8] at hp ⊢
      cases d8 with
      | int kk =>
       cases kk with
       | u8 =>
        simp only at hp ⊢
        cases htd : tu.d with
        | slice e' => rw [htd] at hp; exact caseB e' htd hp
        | str =>
         rw [htd] at hp hud
         have hud : P.underlying u = some .string := hud
         simp only at hp ⊢
         cases hx with
         | str bs =>
          simp only at hp ⊢
          obtain ⟨⟨h2,h3⟩,h5⟩ := hp
          exact zif (P := P) he hh hf hd hty hud (by simp) h2 h3 hv (by rw [h2]; exact zpz bs) h5
         | _ => exact hp.elim
        | int ku =>
         rw [htd] at hp hud
         have hud : P.underlying u = some (.int ku) := hud
         simp only at hp ⊢
         cases hx with
         | w _ h0 =>
          cases vx with
          | int kk n =>
           simp only at hp ⊢
           obtain ⟨⟨h2,h3,h6,h7⟩,h5⟩ := hp
           obtain ⟨m,rfl⟩ := Int.eq_ofNat_of_zero_le h7
           rw [Int.toNat_natCast] at h5 ⊢
           have hlen : (List.replicate m (0 : UInt8)).length = m := List.length_replicate
           have hsrc := zpz (P := P) (w := w) (loc := loc) (List.replicate m (0 : UInt8))
           obtain ⟨u',w',loc',r1,r2⟩ := zif (P := P) (ty := ty) (u := t) he hh hf hd hty hd (by simp) h2 h3 hv (by rw [h2]; exact hsrc) h5
           refine ⟨u',w',loc',?_,r2⟩
           rw [← r1]
           have hbd : m ≤ 4294967296 ∧ ∀ a l c,v = .slice a l c → l ≤ c ∧ l + m ≤ 4294967296 := by
            unfold zcr top at h5
            cases hv with
            | sb bs full a cap hdm hc =>
             simp only [hlen] at h5
             refine ⟨by omega,fun a l c e => ?_⟩
             injection e with _ e1 e2
             subst e1 e2
             exact ⟨hdm.le,h5.2.2⟩
            | sg s xs full a cap cs hdm hls hc hl hxs h =>
             cases xs with
             | nil =>
              simp only [hlen] at h5
              refine ⟨by omega,fun a l c e => ?_⟩
              injection e with _ e1 e2
              subst e1 e2
              exact ⟨hdm.le,by simp; omega⟩
             | cons => simp [bad] at h5
            | ms id s off len v h =>
             simp only at h5
             cases hlk : look H id with
             | none => simp [hlk,bad] at h5
             | some blk =>
              cases blk with
              | o x => simp [hlk,bad] at h5
              | b bs =>
               simp only [hlk,hlen] at h5
               refine ⟨by omega,fun a l c e => ?_⟩
               have hfr : loc.m id ≠ .free := by intro e; simp [Owns,e] at h
               obtain ⟨_,hn | ⟨b,hb,_⟩⟩ := hh.get hlk hfr
               ·unfold Owns at h; rw [hn.1] at h
                obtain ⟨h8,a',h9⟩ := h
                rw [e] at h9; injection h9 with _ e1 e2
                omega
               ·unfold Owns at h; rw [hb] at h
                obtain ⟨o,cap,cur,el,fz,h8,h9,h10,h11,h12,h13⟩ := h
                rw [e] at h8; injection h8 with _ e1 e2
                omega
              | i ns => simp [hlk,bad] at h5
              | g s xs => simp [hlk,bad] at h5
            | _ => simp [bad] at h5
           exact zmm (P := P) hd hty hud h6 h2 h3 hbd.1 hbd.2
          | _ => exact hp.elim
         | _ => exact hp.elim
        | _ => rw [htd] at hp; exact hp.elim
       | i64 =>
        simp only at hp ⊢
        cases htd : tu.d with
        | slice e' => rw [htd] at hp; exact caseI e' htd hp
        | _ => rw [htd] at hp; exact hp.elim
       | _ => exact gen hp
      | _ => exact gen hp
    | _ => simp [hdd,bad] at hp
 ·exact hp.elim
structure SrcN (P : Program) (w : World) (v : Value) (bs : List UInt8) : Prop where
 len : (Builtin.lenOf v).run P w = .ok bs.length w
 first : ∀ n,n ≤ bs.length → (Builtin.firstCells 1 n v).run P w = .ok ((bs.take n).map byte).toArray w
theorem ybi {w : World} {loc : Loc} {H : Heap} (hh : HR w loc H) {x : AV} {v : Value} (hx : R w loc x v) (hp : (srcB H x).1) : SrcN P w v (srcB H x).2 := by
 have gen : ∀ bs : List UInt8,Seen w loc v bs.length 1 (bs.map fun b => .w (byte b)) → SrcN P w v bs := by
  intro bs h
  obtain ⟨a,cap,rfl,_,_,h0 | ⟨b,o,cs,rfl,_,hcl,hc,hco⟩⟩ := h.seen
  ·have : bs = [] := List.length_eq_zero_iff.1 h0
   subst this
   refine ⟨by simp [Builtin.lenOf],fun n hn => ?_⟩
   have : n = 0 := by simpa using hn
   subst this
   cases a <;> simp [Builtin.firstCells,loadCells,loadCellsFrom]
  ·have hcs := zil hco
   subst hcs
   refine ⟨by simp [Builtin.lenOf],fun n hn => ?_⟩
   simp only [Builtin.firstCells,Nat.mul_one]
   have := zti (P := P) (w := w) (b := b) (o := o) (cs := (bs.take n).map byte) (fun j hj => by
    have := hc j (by simp at hj ⊢; omega)
    simpa using this)
   rw [show ((bs.take n).map byte).length = n by simp; omega] at this
   exact this
 unfold srcB at hp ⊢
 split at hp
 ·rename_i bs
  cases hx
  refine ⟨by simp [Builtin.lenOf,ByteArray.size],fun n hn => ?_⟩
  simp only [Builtin.firstCells,Sem.run_pure]
  congr 1
  rw [ByteArray.extract_mk]
  apply Array.ext
  ·simp
  ·intro j h1 h2
   simp [byte]
 ·exact gen _ (zjf hh hx hp)
theorem zjr {w : World} {loc : Loc} {H : Heap} (hh : HR w loc H) {id : Nat} {blk : Blk} (hl : look H id = some blk) : HR w loc (put H id blk) := by
 intro k b hk
 rw [zax] at hk
 split at hk
 ·rename_i hi; subst hi
  injection hk with hk; subst hk
  exact hh id blk hl
 ·exact hh k b hk
theorem zmi (bs ys : List UInt8) {off len n : Nat} (hn : min ys.length len = n) (hle : off + n ≤ bs.length) : (bs.take off ++ (ys.take len ++ bs.drop (off + n))).length = bs.length := by
 simp; omega
theorem ygu (bs ys : List UInt8) {off len n : Nat} (hn : min ys.length len = n) (hle : off + n ≤ bs.length) (j : Nat) (hjb : j < bs.length) (hj : j < (bs.take off ++ (ys.take len ++ bs.drop (off + n))).length) :
  (bs.take off ++ (ys.take len ++ bs.drop (off + n)))[j] = if h : off ≤ j ∧ j < off + n then ys[j - off]'(by omega) else bs[j] := by
 have hl := zmi bs ys hn hle
 have h1 : (bs.take off).length = off := by simp; omega
 have h2 : (ys.take len).length = n := by simp; omega
 by_cases ha : j < off
 ·rw [List.getElem_append_left (by omega),dif_neg (by omega)]; simp
 ·rw [List.getElem_append_right (by omega)]
  by_cases hb : j < off + n
  ·rw [List.getElem_append_left (by omega),dif_pos (by omega)]; simp [h1]
  ·rw [List.getElem_append_right (by omega),dif_neg (by omega)]
   simp only [List.getElem_drop]
   congr 1
   omega
theorem ycz {w0 : World} {E : Nat → Prop} {w : World} {loc : Loc} {H : Heap} {T : zac} (hT : TOk P T) (he : Env w0 E w loc) (hh : HR w loc H) {nm : Nat} {t ty : TypeId} {x : AV} {v : Value} (hv : R w loc x v) (hp : (zje T t x H).p) :
  ∃ u' w',(Builtin.clear_ #[t] ty #[v]).run P w = .ok u' w' ∧ Post w0 E w loc true nm (zje T t x H).x (zje T t x H).H u' w' loc := by
 unfold zje at hp ⊢
 cases ht : T t with
 | none => simp [ht,bad] at hp
 | some ti =>
  simp only [ht] at hp ⊢
  have hd := (hT t ti ht).d
  cases hdd : ti.d with
  | slice e =>
   simp only [hdd] at hp ⊢
   rw [hdd] at hd
   have hd : P.underlying t = some (.slice e) := hd
   cases hte : T e with
   | none => simp [hte,bad] at hp
   | some te =>
    simp only [hte] at hp ⊢
    have hty := hT _ te hte
    cases hv with
    | ms id s off len v h =>
     simp only at hp ⊢
     cases hl : look H id with
     | none => simp [hl,bad] at hp
     | some blk =>
      cases blk with
      | g s' xs =>
       simp only [hl] at hp ⊢
       obtain ⟨hs1,rfl,hle⟩ := hp
       have hfr : loc.m id ≠ .free := by intro e; simp [Owns,e] at h
       obtain ⟨hok,hor⟩ := hh.get hl hfr
       have hss := hok.2
       by_cases hlen0 : len = 0
       ·subst hlen0
        have hxs : xs.take off ++ (List.replicate 0 (asv te te.zero) ++ xs.drop (off + 0)) = xs := by simp
        refine ⟨.tuple #[],w,?_,?_⟩
        ·unfold Owns at h
         rcases hor with hn | ⟨b,hb,_⟩
         ·rw [hn.1] at h
          obtain ⟨_,a,rfl⟩ := h
          unfold Builtin.clear_
          cases a <;> simp [run_underlying hd]
         ·rw [hb] at h
          obtain ⟨o,cap,cur,e9,fz,rfl,_⟩ := h
          unfold Builtin.clear_
          simp [run_underlying hd]
        ·rw [hxs]
         exact Post.pure (.junk _) (zjr hh hl) he
       ·rcases hor with hn | ⟨b,hb,hlies⟩
        ·unfold Owns at h; rw [hn.1] at h
         exact (hlen0 h.1).elim
        ·obtain ⟨cur,e1,fz,hheap,hfz,hone,hlen,hr⟩ := hlies.lies
         unfold Owns at h; rw [hb] at h
         obtain ⟨o,cap,cur0,e0,fz0,rfl,ho,hh0,hsz0,hlc,htp⟩ := h
         have ho := ho (by omega)
         obtain ⟨z,z1,z2,z3⟩ := zbk (P := P) hty w
         have hs0 : 0 < te.size := by rw [hs1]; exact hok.1
         obtain ⟨hokz,hcz⟩ := zey (z3 w loc).1 z2 hs0 hty len
         have hzl := hcz.len
         have hfl := zbn hok
         simp only [Blk.len,Blk.size] at hfl
         have hzf : (Blk.flat (.g te.size (List.replicate len (asv te te.zero)))).length = len * te.size := by
          have := zbn hokz
          simpa [Blk.len,Blk.size] using this
         have hmul : off * s' + len * s' ≤ xs.length * s' := by rw [← Nat.add_mul]; exact Nat.mul_le_mul_right s' hle
         have hzeq : (Builtin.zeroCells z.cells len).toList = ((Array.range (len * te.size)).map (z.cells[· % z.cells.size]!)).toList := by
          unfold Builtin.zeroCells
          have : z.cells.size = te.size := by simpa using z2
          rw [this]
         generalize hZs : ((Array.range (len * te.size)).map (z.cells[· % z.cells.size]!)).toList = Zs at hcz hzl hzeq
         have hZl : Zs.length = len * s' := by rw [← hzl,hzf,hs1]
         obtain ⟨w',cur',r1,r2,r3,r4,r5,r6,r7,r8,r9⟩ := zbr (P := P) b o e1 fz Zs 0 cur w hheap (zoa hfz) (by rw [ho,hZl]; omega) hcz.one
         refine ⟨.tuple #[],w',?_,?_⟩
         ·unfold Builtin.clear_
          have hn0 : len ≠ 0 := hlen0
          obtain ⟨m,rfl⟩ : ∃ m,len = m + 1 := ⟨len - 1,by omega⟩
          simp only [List.getElem?_toArray,List.getElem?_cons_zero,Sem.run_bind,run_underlying hd,Result.andThen_ok]
          simp [z1,hzeq,r1]
         ·have hflat : (Blk.g s' (xs.take off ++ (List.replicate len (asv te te.zero) ++ xs.drop (off + len)))).flat = splice (Blk.g s' xs).flat (off * s') (Blk.flat (.g te.size (List.replicate len (asv te te.zero)))) := by
           unfold splice
           rw [hzf,hs1,← Nat.add_mul]
           simp only [Blk.flat,List.flatMap_append]
           rw [zbl xs off hss,zbt xs (off + len) hss]
          have hzf' : (Blk.flat (.g te.size (List.replicate len (asv te te.zero)))).length = len * s' := by rw [hzf,hs1]
          generalize Blk.flat (.g te.size (List.replicate len (asv te te.zero))) = Zf at hcz hzl hflat hzf'
          have f2 : off * s' + Zf.length ≤ (Blk.g s' xs).flat.length := by rw [hzf',hfl]; exact hmul
          have hokn : Blk.ok (.g s' (xs.take off ++ (List.replicate len (asv te te.zero) ++ xs.drop (off + len)))) := by
           refine ⟨hok.1,fun x hx => ?_⟩
           rcases List.mem_append.1 hx with h1 | h1
           ·exact hss x (List.mem_of_mem_take h1)
           ·rcases List.mem_append.1 h1 with h2 | h2
            ·rw [← hs1]; exact hokz.2 x h2
            ·exact hss x (List.mem_of_mem_drop h2)
          have hfl2 : (Blk.g s' (xs.take off ++ (List.replicate len (asv te te.zero) ++ xs.drop (off + len)))).flat.length = (Blk.g s' xs).flat.length := by rw [hflat,zck f2]
          refine zin he hh hb hheap r2 r3 r4 r5 r6 r7 r8 hokn hfz ?_ (by rw [hfl2,r3]; exact hlen) ?_ (fun _ _ => .junk _)
          ·intro j hj
           have := r9 j (by rw [← r3]; exact hj)
           rw [Array.getElem?_eq_getElem hj] at this
           split at this
           ·rw [List.getElem?_eq_getElem (by omega)] at this
            injection this with this
            rw [this]; exact hcz.one _ (List.getElem_mem _)
           ·rw [Array.getElem?_eq_getElem (by rw [← r3]; exact hj)] at this
            injection this with this
            rw [this]; exact hone j _
          ·intro j hj hj'
           have h9 := r9 j (by rw [← r3]; exact hj')
           rw [Array.getElem?_eq_getElem hj'] at h9
           have hg : (Blk.g s' (xs.take off ++ (List.replicate len (asv te te.zero) ++ xs.drop (off + len)))).flat[j] = (splice (Blk.g s' xs).flat (off * s') Zf)[j]'(by rw [← hflat]; exact hj) := by congr 1
           rw [hg,zdj f2 (by rw [← hfl2]; exact hj)]
           by_cases hc : off * s' ≤ j ∧ j < off * s' + Zf.length
           ·rw [if_pos (by omega),List.getElem?_eq_getElem (by omega)] at h9
            injection h9 with h9
            rw [dif_pos hc,h9]
            have e2 : j - (o + 0) = j - off * s' := by omega
            simp only [e2]
            exact ⟨hcz.leaf _ (by omega),hcz.r _ (by omega) (by omega)⟩
           ·rw [if_neg (by omega),Array.getElem?_eq_getElem (by rw [← r3]; exact hj')] at h9
            injection h9 with h9
            rw [dif_neg hc,h9]
            exact hr j (by rw [← hfl2]; exact hj) _
      | _ => simp [hl,bad] at hp
    | _ => simp [bad] at hp
  | _ => simp [hdd,bad] at hp
theorem ygt {w0 : World} {E : Nat → Prop} {w : World} {loc : Loc} {H : Heap} {T : zac} (hT : TOk P T) (he : Env w0 E w loc) (hh : HR w loc H) {nm : Nat} {ts : List TypeId} {ty : TypeId} {d x : AV} {v vx : Value} (hv : R w loc d v) (hx : R w loc x vx) (hp : (zpu T ts d x H).p) :
  ∃ u' w',(Builtin.copy_ ts.toArray ty #[v,vx]).run P w = .ok u' w' ∧ Post w0 E w loc true nm (zpu T ts d x H).x (zpu T ts d x H).H u' w' loc := by
 unfold zpu at hp ⊢
 cases ts with
 | nil => exact hp.elim
 | cons t ts =>
  cases ht : T t with
  | none => simp [ht,bad] at hp
  | some ti =>
   simp only [ht] at hp ⊢
   have hd := (hT t ti ht).d
   cases hdd : ti.d with
   | slice e =>
    simp only [hdd] at hp ⊢
    rw [hdd] at hd
    have hd : P.underlying t = some (.slice e) := hd
    cases hte : T e with
    | none => simp [hte,bad] at hp
    | some te =>
     simp only [hte] at hp ⊢
     have hty := hT _ te hte
     cases hv with
     | ms id s off len v h =>
      simp only at hp ⊢
      cases hl : look H id with
      | none => simp [hl,bad] at hp
      | some blk =>
       cases blk with
       | o x => simp [hl,bad] at hp
       | b bs =>
        simp only [hl] at hp ⊢
        obtain ⟨hs1,rfl,hle,htop,hsrc⟩ := hp
        obtain ⟨l1,l2⟩ := ybi (P := P) hh hx hsrc
        generalize (srcB H x).2 = ys at l1 l2 ⊢
        simp only [Out.and]
        have hfr : loc.m id ≠ .free := by intro e; simp [Owns,e] at h
        obtain ⟨hok,hn | ⟨b,hb,hlies⟩⟩ := hh.get hl hfr
        ·unfold Owns at h; rw [hn.1] at h
         obtain ⟨h1,a,rfl⟩ := h
         subst h1
         have hbs : bs = [] := List.length_eq_zero_iff.1 hn.2
         subst hbs
         have h0 := l2 0 (Nat.zero_le _)
         refine ⟨goInt 0,w,?_,?_⟩
         ·unfold Builtin.copy_
          have hm : Nat.min ys.length 0 = 0 := Nat.min_zero _
          simp only [List.getElem?_toArray,List.getElem?_cons_zero,List.getElem?_cons_succ,Sem.run_bind,run_underlying hd,Result.andThen_ok,l1,zay hty,hs1,hm,h0,Sem.run_pure]
          cases a <;> simp [storeCells]
         ·have := Post.pure (w0 := w0) (E := E) (wr := true) (nm := nm) (x := .w (word 0)) (v := goInt 0) (.w _ rfl) (zjr hh hl) he
          simpa using this
        ·obtain ⟨cur,e1,fz,hheap,hfz,hone,hlen,hr⟩ := hlies.lies
         unfold Owns at h; rw [hb] at h
         obtain ⟨o,cap,cur0,e0,fz0,rfl,ho,hh0,hsz0,hlc,htp⟩ := h
         obtain ⟨n,hn⟩ : ∃ n,min ys.length len = n := ⟨_,rfl⟩
         have hm : Nat.min ys.length len = n := hn
         have h0 := l2 n (by omega)
         rw [hn]
         have hrun : ∀ w',(storeCells ⟨b,o,none⟩ ((ys.take n).map byte)).run P w = .ok () w' → (Builtin.copy_ (t :: ts).toArray ty #[.slice (some ⟨b,o,none⟩) len cap,vx]).run P w = .ok (goInt n) w' := by
          intro w' hst
          unfold Builtin.copy_
          simp only [List.getElem?_toArray,List.getElem?_cons_zero,List.getElem?_cons_succ,Sem.run_bind,run_underlying hd,Result.andThen_ok,l1,zay hty,hs1,hm,h0,Sem.run_pure,hst]
         by_cases hn0 : n = 0
         ·subst hn0
          have e1 : ys.take len = [] := by
           rcases Nat.eq_zero_or_pos len with h | h
           ·rw [h]; rfl
           ·have : ys = [] := List.length_eq_zero_iff.1 (by omega)
            rw [this]; simp
          refine ⟨goInt 0,w,hrun w rfl,?_⟩
          have := Post.pure (w0 := w0) (E := E) (wr := true) (nm := nm) (x := .w (word 0)) (v := goInt 0) (.w _ rfl) (zjr hh hl) he
          simpa [e1] using this
         ·have ho := ho (by omega)
          rw [Nat.mul_one] at ho
          subst ho
          have hfl : (Blk.b bs).flat.length = bs.length := by simp [Blk.flat]
          obtain ⟨w',cur',r1,r2,r3,r4,r5,r6,r7,r8,r9⟩ := zbr (P := P) b o e1 fz ((ys.take n).map byte) 0 cur w hheap (zoa hfz) (by simp; omega) (by intro v hv; obtain ⟨c,_,rfl⟩ := List.mem_map.1 hv; rfl)
          refine ⟨goInt n,w',hrun w' r1,?_⟩
          have hcl := zmi bs ys (off := o) (len := len) (n := n) hn (by omega)
          have hcg := ygu bs ys (off := o) (len := len) (n := n) hn (by omega)
          generalize bs.take o ++ (ys.take len ++ bs.drop (o + n)) = B at hcl hcg ⊢
          have hBf : (Blk.b B).flat.length = bs.length := by simp [Blk.flat,hcl]
          refine zin he hh hb hheap r2 r3 r4 r5 r6 r7 r8 trivial hfz ?_ (by rw [hBf,r3,← hfl]; exact hlen) ?_ (fun _ _ => .w _ rfl)
          ·intro j hj
           have := r9 j (by rw [← r3]; exact hj)
           rw [Array.getElem?_eq_getElem hj] at this
           split at this
           ·rw [List.getElem?_eq_getElem (by omega)] at this
            injection this with this
            rw [this]; simp [byte,one]
           ·rw [Array.getElem?_eq_getElem (by rw [← r3]; exact hj)] at this
            injection this with this
            rw [this]; exact hone j _
          ·intro j hj hj'
           have h9 := r9 j (by rw [← r3]; exact hj')
           rw [Array.getElem?_eq_getElem hj'] at h9
           have hjb : j < bs.length := by rw [hBf] at hj; exact hj
           simp only [Blk.flat,List.getElem_map]
           refine ⟨rfl,?_⟩
           rw [hcg j hjb (by rw [hcl]; exact hjb)]
           have hyl : ((ys.take n).map byte).length = n := by simp; omega
           by_cases hc : o ≤ j ∧ j < o + n
           ·rw [dif_pos hc]
            rw [if_pos (by omega),List.getElem?_eq_getElem (by omega)] at h9
            injection h9 with h9
            rw [h9]
            simp only [List.getElem_map,List.getElem_take,Nat.add_zero]
            exact .w _ rfl
           ·rw [dif_neg hc]
            rw [if_neg (by omega),Array.getElem?_eq_getElem (by rw [← r3]; exact hj')] at h9
            injection h9 with h9
            rw [h9]
            have := (hr j (by rw [hfl]; exact hjb) (by rw [← r3]; exact hj')).2
            simpa [Blk.flat] using this
       | i ns => simp [hl,bad] at hp
       | g s xs => simp [hl,bad] at hp
     | _ => exact hp.elim
   | _ => simp [hdd,bad] at hp
end ops
end Ax
end Go.Proofs.Ytdfgfdcfcdgadaa
namespace Go.Proofs.Ytdfgfdcfcdgadaa
namespace Ax
structure Fram (w w' : World) (E : Nat → Prop) : Prop where
 os : w'.os = w.os
 tape : w'.tape = w.tape
 output : w'.output = w.output
 size : w.heap.size ≤ w'.heap.size
 same : ∀ b,b < w.heap.size → ¬ E b → w'.heap[b]? = w.heap[b]?
 shape : ∀ b cur e fz,E b → w.heap[b]? = some (.cells cur e fz) → ∃ cur' fz',w'.heap[b]? = some (.cells cur' e fz') ∧ cur'.size = cur.size
def zbf (pb : List Nat) (bad : Nat → Prop) : Loc := { m := fun id => match pb[id]? with | some b => .here b | none => .free,bad }
structure ykf (w : World) (bad : Nat → Prop) (pb : List Nat) (q : Res) (v : Value) (w' : World) (loc' : Loc) : Prop where
 r : R w' loc' q.x v
 bad : loc'.bad = bad
 bl : ∀ (k : Nat) (h : k < q.bl.length),BlkR w' loc' k q.bl[k] ∧ loc'.m k ≠ .free ∧ loc'.m k ≠ .dead
 old : ∀ (k : Nat) (h : k < pb.length),loc'.m k = .here pb[k]
 new : ∀ k b,pb.length ≤ k → loc'.m k = .here b → w.heap.size ≤ b ∧ b < w'.heap.size
 none : ∀ k,q.bl.length ≤ k → loc'.m k = .free
 inj : ∀ i j b,loc'.m i = .here b → loc'.m j = .here b → i = j
 fram : Fram w w' (· ∈ pb)
def zen (P : Program) (f : FuncId) (spec : zcc) : Prop :=
 ∀ (xs : List AV) (pins : List Blk),(spec xs pins).p → closedB pins = true →
 ∀ (w : World) (bad : Nat → Prop) (pb : List Nat) (vs : List Value),pb.length = pins.length → pb.Nodup → (∀ b,bad b → b < w.heap.size ∧ ¬ b ∈ pb) →
  (∀ (k : Nat) (h : k < pins.length) (h' : k < pb.length),pins[k].ok ∧ Lies w (zbf pb bad) pins[k] pb[k]) →
  xs.length = vs.length → (∀ (j : Nat) (h : j < xs.length) (h' : j < vs.length),R w (zbf pb bad) xs[j] vs[j]) →
  Calls P f vs.toArray w fun e w' => ∃ v loc',e = .returned v ∧ ykf w bad pb (spec xs pins) v w' loc'
theorem mut_locOf {pb : List Nat} {bad : Nat → Prop} {b : Nat} : Mut (zbf pb bad) b ↔ bad b ∨ b ∈ pb := by
 constructor
 ·rintro (h | ⟨k,h⟩)
  ·exact .inl h
  ·right
   simp only [zbf] at h
   split at h
   ·rename_i c hc; injection h with h; subst h; exact List.mem_of_getElem? hc
   ·cases h
 ·rintro (h | h)
  ·exact .inl h
  ·obtain ⟨k,hk,rfl⟩ := List.getElem_of_mem h
   exact .inr ⟨k,by simp [zbf,List.getElem?_eq_getElem hk]⟩
theorem zcx {pb : List Nat} {bad : Nat → Prop} {k b : Nat} (h : (zbf pb bad).m k = .here b) : ∃ hk : k < pb.length,pb[k] = b := by
 simp only [zbf] at h
 split at h
 ·rename_i c hc
  injection h with h; subst h
  obtain ⟨hk,he⟩ := List.getElem?_eq_some_iff.1 hc
  exact ⟨hk,he⟩
 ·cases h
theorem yfe {id : Nat} : ∀ {l : List Nat},id ∈ l → idx id l < l.length ∧ l[idx id l]? = some id
 | [],h => by simp at h
 | k :: r,h => by
  unfold idx
  by_cases hk : k = id
  ·subst hk; simp
  ·have : (k == id) = false := by simpa using hk
   rw [this]
   have hm : id ∈ r := by
    rcases List.mem_cons.1 h with h | h
    ·exact (hk h.symm).elim
    ·exact h
   obtain ⟨h1,h2⟩ := yfe hm
   simp only [cond_false]
   exact ⟨by simp; exact h1,by simpa using h2⟩
structure PB (loc : Loc) (ids pb : List Nat) : Prop where
 len : pb.length = ids.length
 at_ : ∀ (k : Nat) (h : k < ids.length) (h' : k < pb.length),loc.m ids[k] = .here pb[k]
theorem PB.mem {loc : Loc} {ids pb : List Nat} (h : PB loc ids pb) {b : Nat} (hb : b ∈ pb) : ∃ id ∈ ids,loc.m id = .here b := by
 obtain ⟨k,hk,rfl⟩ := List.getElem_of_mem hb
 have hk2 : k < ids.length := by rw [← h.len]; exact hk
 exact ⟨ids[k],List.getElem_mem _,h.at_ k hk2 hk⟩
theorem zju {xs : List AV} (h : closedL xs = true) {x : AV} (hx : x ∈ xs) : x.closed = true := by
 obtain ⟨j,hj,rfl⟩ := List.getElem_of_mem hx
 exact zbm h j hj
theorem zhb {x : AV} (h : x.closed = true) : ∀ y ∈ x.leaves,y.closed = true := by
 intro y hy
 cases x with
 | agg xs => exact zju (by simpa [AV.closed] using h) (by simpa [AV.leaves] using hy)
 | _ => simp only [AV.leaves,List.mem_singleton] at hy; subst hy; exact h
mutual
theorem yci {w0 : World} {E : Nat → Prop} {w : World} {loc : Loc} {H : Heap} (he : Env w0 E w loc) (hh : HR w loc H) {ids pb : List Nat} (hpb : PB loc ids pb) {bad' : Nat → Prop} (hbad : ∀ b,bad' b → Mut loc b) :
  ∀ (x : AV) (v : Value),R w loc x v → (lend H ids x).1 → (∀ id ∈ x.roots,id ∈ ids) → (∀ id ∈ x.lentIds,∀ b,loc.m id = .here b → ¬ bad' b) → R w (zbf pb bad') (lend H ids x).2 v ∧ (x.leaf = true → (lend H ids x).2.leaf = true)
 | .agg xs,v,hx,hp,hr,hl => by
  simp only [lend] at hp ⊢
  obtain ⟨cs,rfl,hc⟩ := zdh hx
  have hlf := hc.leaf
  obtain ⟨h1,h2,h3⟩ := lendL_sound he hh hpb hbad xs cs.toList hc.len hc.r hp (by simpa [AV.roots] using hr) (by simpa [AV.lentIds] using hl)
  refine ⟨?_,by simp [AV.leaf]⟩
  have := R.agg (w := w) (loc := zbf pb bad') (lendL H ids xs).2 cs.toList (by rw [h1,hc.len]) (fun j hj => (h3 j hj (by rw [← h1]; exact hj)) (hlf j (by rw [← h1]; exact hj))) h2
  rw [Array.toArray_toList] at this
  exact this
 | .fn f xs,v,hx,hp,hr,hl => by
  simp only [lend] at hp ⊢
  cases hx with
  | fn _ _ cs hlen h =>
   obtain ⟨h1,h2,h3⟩ := lendL_sound he hh hpb hbad xs cs hlen h hp (by simpa [AV.roots] using hr) (by simpa [AV.lentIds] using hl)
   exact ⟨.fn f _ cs (by rw [h1,hlen]) h2,fun _ => rfl⟩
 | .tup xs,v,hx,hp,hr,hl => by simp [lend] at hp
 | .rf id s i f,v,hx,hp,hr,hl => by
  simp only [lend] at hp ⊢
  cases hx with
  | rf _ _ _ _ _ h =>
   have hid : id ∈ ids := hr id (by simp [AV.roots])
   obtain ⟨k1,k2⟩ := yfe hid
   obtain ⟨k3,k4⟩ := List.getElem?_eq_some_iff.1 k2
   have k5 := hpb.at_ _ k1 (by rw [hpb.len]; exact k1)
   rw [k4] at k5
   refine ⟨.rf _ _ _ _ _ ?_,fun _ => rfl⟩
   unfold Points at h ⊢
   rw [k5] at h
   have : (zbf pb bad').m (idx id ids) = .here (pb[idx id ids]'(by rw [hpb.len]; exact k1)) := by
    simp only [zbf]
    rw [List.getElem?_eq_getElem (by rw [hpb.len]; exact k1)]
   rw [this]
   exact h
 | .ms id s off len,v,hx,hp,hr,hl => by
  have hb0 := hl id (by simp [AV.lentIds])
  cases hx with
  | ms _ _ _ _ _ h =>
   simp only [lend] at hp ⊢
   cases hlk : look H id with
   | none => simp [hlk] at hp
   | some blk =>
    -- the block is not among those that are handed on
    have nomut : ¬ id ∈ ids → ∀ b,loc.m id = .here b → ¬ Mut (zbf pb bad') b := by
     intro hid b hb hM
     rcases mut_locOf.1 hM with h1 | h1
     ·exact hb0 b hb h1
     ·obtain ⟨id',hi,hb'⟩ := hpb.mem h1
      have := he.inj id id' b hb hb'
      subst this; exact hid hi
    have cells : ∀ (n : Nat) (fl : List AV),¬ id ∈ ids → Seen w loc v n s fl → ∃ a cap cs,v = .slice a n cap ∧ n ≤ cap ∧ cap ≤ maxLen ∧ (n = 0 ∨ (cs.length = n * s ∧ CellsOf w loc fl cs ∧ ∃ b o,a = some ⟨b,o,none⟩ ∧ b < w.heap.size ∧ (∀ (j : Nat) (hj : j < cs.length),w.cell? ⟨b,o + j,none⟩ = some cs[j]) ∧ loc.m id = .here b)) := by
     intro n fl hid hs
     obtain ⟨a,cap,rfl,h1,h2,h3⟩ := hs.seen
     have hfr : loc.m id ≠ .free := by intro e; simp [Owns,e] at h
     rcases h3 with h3 | ⟨b,o,cs,rfl,h4,h5,h6,h7⟩
     ·exact ⟨a,cap,[],rfl,h1,h2,.inl h3⟩
     ·refine ⟨_,cap,cs,rfl,h1,h2,?_⟩
      obtain ⟨hok,hn | ⟨b',hb',_⟩⟩ := hh.get hlk hfr
      ·unfold Owns at h; rw [hn.1] at h
       left
       obtain ⟨hl0,a,ha⟩ := h
       injection ha with _ hq _
      ·unfold Owns at h; rw [hb'] at h
       obtain ⟨o',cap',cur0,e0,fz0,hv,_⟩ := h
       injection hv with hv _ _
       injection hv with hv
       injection hv with hv1 hv2
       subst hv1
       exact .inr ⟨h5,h7,b,o,rfl,h4,h6,hb'⟩
    cases blk with
    | o x => simp [hlk] at hp
    | b bs =>
     simp only [hlk] at hp ⊢
     obtain ⟨rfl,hle,hid⟩ := hp
     have hs := zff hh h hlk rfl hle
     have e : ((bs.drop off).take len).length = len := by simp; omega
     have hfl : (Blk.flat (.b bs) |>.drop (off * 1) |>.take (len * 1)) = ((bs.drop off).take len).map fun b => .w (byte b) := by
      simp [Blk.flat,List.map_take,List.map_drop]
     rw [hfl] at hs
     obtain ⟨a,cap,cs,rfl,h1,h2,h3⟩ := cells len _ hid hs
     refine ⟨?_,fun _ => rfl⟩
     have key : Cells w (zbf pb bad') a (((bs.drop off).take len).map byte) := by
      rcases h3 with h3 | ⟨h4,h5,b,o,rfl,h6,h7,h8⟩
      ·subst h3; exact ⟨.inl (by simp)⟩
      ·have hcs := zil h5
       subst hcs
       exact ⟨.inr ⟨b,o,rfl,nomut hid b h8,h6,h7⟩⟩
     have := R.sb (w := w) (loc := zbf pb bad') ((bs.drop off).take len) false a cap ⟨by omega,h2,by simp⟩ key
     rw [e] at this
     exact this
    | i ns =>
     simp only [hlk] at hp ⊢
     obtain ⟨rfl,hle,hid⟩ := hp
     have hs := zff hh h hlk rfl hle
     have e : ((ns.drop off).take len).length = len := by simp; omega
     have hfl : (Blk.flat (.i ns) |>.drop (off * 1) |>.take (len * 1)) = ((ns.drop off).take len).map fun b => .w (word b) := by
      simp [Blk.flat,List.map_take,List.map_drop]
     rw [hfl] at hs
     obtain ⟨a,cap,cs,rfl,h1,h2,h3⟩ := cells len _ hid hs
     refine ⟨?_,fun _ => rfl⟩
     have key : Cells w (zbf pb bad') a (((ns.drop off).take len).map word) := by
      rcases h3 with h3 | ⟨h4,h5,b,o,rfl,h6,h7,h8⟩
      ·subst h3; exact ⟨.inl (by simp)⟩
      ·have hcs : cs = ((ns.drop off).take len).map word := by
        refine List.ext_getElem (by have := h5.len; simpa using this.symm) fun j a b => ?_
        have := h5.r j (by simpa using b) a
        simp only [List.getElem_map] at this ⊢
        exact this.wv
       subst hcs
       exact ⟨.inr ⟨b,o,rfl,nomut hid b h8,h6,h7⟩⟩
     have := R.si (w := w) (loc := zbf pb bad') ((ns.drop off).take len) false a cap ⟨by omega,h2,by simp⟩ key
     rw [e] at this
     exact this
    | g s' xs =>
     simp only [hlk] at hp ⊢
     obtain ⟨rfl,hle,hid,hcl⟩ := hp
     have hfr : loc.m id ≠ .free := by intro e; simp [Owns,e] at h
     obtain ⟨hok,_⟩ := hh.get hlk hfr
     have hs := zff hh h hlk rfl hle
     have e : ((xs.drop off).take len).length = len := by simp; omega
     have hls : ∀ y ∈ (xs.drop off).take len,y.leaves.length = s' := fun y hy => hok.2 y (List.mem_of_mem_drop (List.mem_of_mem_take hy))
     have hfl : (Blk.flat (.g s' xs) |>.drop (off * s') |>.take (len * s')) = ((xs.drop off).take len).flatMap AV.leaves := by
      rw [zbl _ _ (fun y hy => hok.2 y (List.mem_of_mem_drop hy)),zbt _ _ hok.2]; rfl
     rw [hfl] at hs
     obtain ⟨a,cap,cs,rfl,h1,h2,h3⟩ := cells len _ hid hs
     refine ⟨?_,fun _ => rfl⟩
     have hclosed : ∀ (j : Nat) (hj : j < (((xs.drop off).take len).flatMap AV.leaves).length),(((xs.drop off).take len).flatMap AV.leaves)[j].closed = true := by
      intro j hj
      have hm := List.getElem_mem hj
      obtain ⟨y,hy,hyl⟩ := List.mem_flatMap.1 hm
      exact zhb (hcl y hy) _ hyl
     have hM : ∀ b,b < w.heap.size → Mut (zbf pb bad') b → Mut loc b := by
      intro b _ hb
      rcases mut_locOf.1 hb with hb | hb
      ·exact hbad b hb
      ·obtain ⟨id',_,hb'⟩ := hpb.mem hb; exact .inr ⟨id',hb'⟩
     have := R.sg (w := w) (loc := zbf pb bad') s' ((xs.drop off).take len) false a cap (if len = 0 then [] else cs) ⟨by omega,h2,by simp⟩ hls
      (by
       rcases h3 with h3 | ⟨h4,h5,b,o,rfl,h6,h7,h8⟩
       ·rw [if_pos h3]; exact ⟨.inl rfl⟩
       ·by_cases h0 : len = 0
        ·rw [if_pos h0]; exact ⟨.inl rfl⟩
        ·rw [if_neg h0]; exact ⟨.inr ⟨b,o,rfl,nomut hid b h8,h6,h7⟩⟩)
      (by
       by_cases h0 : len = 0
       ·subst h0; simp
       ·rw [if_neg h0]
        rcases h3 with h3 | ⟨h4,h5,_⟩
        ·exact (h0 h3).elim
        ·exact h5.len)
      (fun j hj => by
       refine ⟨?_,hclosed j hj⟩
       rcases h3 with h3 | ⟨h4,h5,_⟩
       ·subst h3; simp at hj
       ·exact h5.leaf j hj)
      (fun j a b => by
       rcases h3 with h3 | ⟨h4,h5,_⟩
       ·subst h3; simp at a
       ·have hl0 : len ≠ 0 := by intro h0; subst h0; simp at a
        have hq : (if len = 0 then ([] : List Value) else cs) = cs := if_neg hl0
        simp only [hq] at b ⊢
        exact (h5.r j a b).move hM (hclosed j a))
     rw [e] at this
     exact this
 | .w u,v,hx,hp,hr,hl => by
  simp only [lend] at hp ⊢
  obtain rfl := hx.wv
  cases hx with
  | w _ h => exact ⟨.w _ h,fun h => h⟩
 | .str bs,v,hx,hp,hr,hl => by cases hx; exact ⟨.str bs,fun h => h⟩
 | .sb bs f,v,hx,hp,hr,hl => by
  refine ⟨hx.move (fun b _ hb => ?_) rfl,fun h => h⟩
  rcases mut_locOf.1 hb with hb | hb
  ·exact hbad b hb
  ·obtain ⟨id',_,hb'⟩ := hpb.mem hb; exact .inr ⟨id',hb'⟩
 | .si bs f,v,hx,hp,hr,hl => by
  refine ⟨hx.move (fun b _ hb => ?_) rfl,fun h => h⟩
  rcases mut_locOf.1 hb with hb | hb
  ·exact hbad b hb
  ·obtain ⟨id',_,hb'⟩ := hpb.mem hb; exact .inr ⟨id',hb'⟩
 | .sg s xs f,v,hx,hp,hr,hl => by
  refine ⟨hx.move (fun b _ hb => ?_) rfl,fun h => h⟩
  rcases mut_locOf.1 hb with hb | hb
  ·exact hbad b hb
  ·obtain ⟨id',_,hb'⟩ := hpb.mem hb; exact .inr ⟨id',hb'⟩
 | .cp ls,v,hx,hp,hr,hl => by
  refine ⟨hx.move (fun b _ hb => ?_) rfl,fun h => h⟩
  rcases mut_locOf.1 hb with hb | hb
  ·exact hbad b hb
  ·obtain ⟨id',_,hb'⟩ := hpb.mem hb; exact .inr ⟨id',hb'⟩
 | .junk,v,hx,hp,hr,hl => ⟨.junk v,fun h => h⟩
theorem lendL_sound {w0 : World} {E : Nat → Prop} {w : World} {loc : Loc} {H : Heap} (he : Env w0 E w loc) (hh : HR w loc H) {ids pb : List Nat} (hpb : PB loc ids pb) {bad' : Nat → Prop} (hbad : ∀ b,bad' b → Mut loc b) :
  ∀ (xs : List AV) (vs : List Value),xs.length = vs.length → (∀ (j : Nat) (h : j < xs.length) (h' : j < vs.length),R w loc xs[j] vs[j]) → (lendL H ids xs).1 → (∀ id ∈ rootsL xs,id ∈ ids) → (∀ id ∈ lentIdsL xs,∀ b,loc.m id = .here b → ¬ bad' b) →
   (lendL H ids xs).2.length = xs.length ∧ (∀ (j : Nat) (h : j < (lendL H ids xs).2.length) (h' : j < vs.length),R w (zbf pb bad') (lendL H ids xs).2[j] vs[j]) ∧ (∀ (j : Nat) (h : j < (lendL H ids xs).2.length) (h' : j < xs.length),xs[j].leaf = true → (lendL H ids xs).2[j].leaf = true)
 | [],vs,hlen,hx,hp,hr,hl => ⟨rfl,fun j h => by simp [lendL] at h,fun j h => by simp [lendL] at h⟩
 | x :: xs,[],hlen,_,_,_,_ => by simp at hlen
 | x :: xs,v :: vs,hlen,hx,hp,hr,hl => by
  simp only [lendL] at hp ⊢
  obtain ⟨a1,a2⟩ := yci he hh hpb hbad x v (hx 0 (by simp) (by simp)) hp.1 (fun id h => hr id (by simp [rootsL,h])) (fun id h => hl id (by simp [lentIdsL,h]))
  obtain ⟨b1,b2,b3⟩ := lendL_sound he hh hpb hbad xs vs (by simpa using hlen) (fun j h h' => hx (j + 1) (by simpa using h) (by simpa using h')) hp.2 (fun id h => hr id (by simp [rootsL,h])) (fun id h => hl id (by simp [lentIdsL,h]))
  refine ⟨by simp [b1],fun j h h' => ?_,fun j h h' => ?_⟩
  ·cases j with
   | zero => exact a1
   | succ j => exact b2 j (by simpa using h) (by simpa using h')
  ·cases j with
   | zero => exact a2
   | succ j => exact b3 j (by simpa using h) (by simpa using h')
end
end Ax
end Go.Proofs.Ytdfgfdcfcdgadaa
