/- What the proofs of this seat stand on; it asks nothing. -/
import Derived.Test.YtdfgfdcfcdgadaaZa01
set_option linter.unusedSimpArgs false
set_option linter.unusedVariables false
namespace Go.Proofs.Ytdfgfdcfcdgadaa
namespace Ax
section ops
variable {P : Program}
theorem zgb {α : Type} [DecidableEq α] [BEq α] [LawfulBEq α] (a b : α) : (a == b) = decide (a = b) := by
 rw [Bool.eq_iff_iff]; simp
theorem zsv (k : IntKind) (x y : Int) (w : World) : (Op.intBits .and k x y).run P w = .ok (.int k (bits .and k x y)) w := by rw [intBits_and]; rfl
theorem yfc (op : BinOp) (t : TypeId) (k k' : IntKind) (a b : Int) (w : World) (hp : (aInt op k a k' b).1) :
  (binOp op t (.int k a) (.int k' b)).run P w = .ok (aInt op k a k' b).2 w ∧ one (aInt op k a k' b).2 = true := by
 cases op with
 | shl =>
  have h0 : ¬ b < 0 := by simp [aInt] at hp; omega
  refine ⟨?_,rfl⟩
  simp [binOp,Op.shift,h0,aInt]
 | shr =>
  have h0 : ¬ b < 0 := by simp [aInt] at hp; omega
  refine ⟨?_,rfl⟩
  have hpw : (0 : Int) ≤ 2 ^ min b.toNat k.bits := Int.pow_nonneg (by decide)
  simp [binOp,Op.shift,h0,aInt,Int.fdiv_eq_ediv_of_nonneg _ hpw]
 | quo =>
  obtain ⟨rfl,h0⟩ := hp
  refine ⟨?_,rfl⟩
  simp [binOp,Op.intDiv,h0,aInt]
 | rem =>
  obtain ⟨rfl,h0⟩ := hp
  refine ⟨?_,rfl⟩
  simp [binOp,Op.intDiv,h0,aInt]
 | and => obtain rfl := hp; refine ⟨?_,rfl⟩; rw [binOp_and,intBits_and]; rfl
 | or => obtain rfl := hp; refine ⟨?_,rfl⟩; rw [binOp_or,intBits_or]; rfl
 | xor => obtain rfl := hp; refine ⟨?_,rfl⟩; rw [binOp_xor,intBits_xor]; rfl
 | andNot => obtain rfl := hp; refine ⟨?_,rfl⟩; rw [binOp_andNot,intBits_andNot]; rfl
 | add => obtain rfl := hp; refine ⟨?_,rfl⟩; simp [binOp,Op.intArith,aInt]
 | sub => obtain rfl := hp; refine ⟨?_,rfl⟩; simp [binOp,Op.intArith,aInt]
 | mul => obtain rfl := hp; refine ⟨?_,rfl⟩; simp [binOp,Op.intArith,aInt]
 | eql => obtain rfl := hp; refine ⟨?_,rfl⟩; simp [binOp,Op.intCmp,aInt,zgb]
 | neq => obtain rfl := hp; refine ⟨?_,rfl⟩; simp [binOp,Op.intCmp,aInt,bne,zgb]
 | lss => obtain rfl := hp; refine ⟨?_,rfl⟩; simp [binOp,Op.intCmp,aInt]
 | leq => obtain rfl := hp; refine ⟨?_,rfl⟩; simp [binOp,Op.intCmp,aInt]
 | gtr => obtain rfl := hp; refine ⟨?_,rfl⟩; simp [binOp,Op.intCmp,aInt]
 | geq => obtain rfl := hp; refine ⟨?_,rfl⟩; simp [binOp,Op.intCmp,aInt]
theorem ydu (op : BinOp) (t : TypeId) (a b : List UInt8) (w : World) (loc : Loc) (hp : (aStr op a b).1) :
  ∃ v,(binOp op t (.string ⟨a.toArray⟩) (.string ⟨b.toArray⟩)).run P w = .ok v w ∧ R w loc (aStr op a b).2 v := by
 have hl : ∀ l : List UInt8,(ByteArray.mk l.toArray).toList = l := fun l => ByteArray.toList_mk l
 cases op with
 | add =>
  simp only [aStr] at hp ⊢
  have hm : IntKind.i64.max = 9223372036854775807 := by decide
  refine ⟨_,?_,.str (a ++ b)⟩
  have h1 : ¬ (((ByteArray.mk a.toArray).size + (ByteArray.mk b.toArray).size : Nat) : Int) > IntKind.i64.max := by
   rw [hm]; simp [ByteArray.size]; omega
  simp only [binOp,Op.stringOp]
  rw [if_neg h1]
  simp [ByteArray.append,ByteArray.ext_iff]
 | eql => exact ⟨_,by simp [binOp,Op.stringOp,hl,zgb]; (try rfl),.w _ rfl⟩
 | neq => exact ⟨_,by simp [binOp,Op.stringOp,hl,zgb]; (try rfl),.w _ rfl⟩
 | lss => exact ⟨_,by simp [binOp,Op.stringOp,hl,zgb]; (try rfl),.w _ rfl⟩
 | leq => exact ⟨_,by simp [binOp,Op.stringOp,hl,zgb]; (try rfl),.w _ rfl⟩
 | gtr => exact ⟨_,by simp [binOp,Op.stringOp,hl,zgb]; (try rfl),.w _ rfl⟩
 | geq => exact ⟨_,by simp [binOp,Op.stringOp,hl,zgb]; (try rfl),.w _ rfl⟩
 | _ => exact hp.elim
theorem zny {T : zac} (hT : TOk P T) {t : TypeId} (h : isPtr T t) : ∃ e,P.underlying t = some (.pointer e) := by
 unfold isPtr at h
 split at h
 ·rename_i ti ht
  split at h
  ·rename_i hd
   have := (hT t ti ht).d
   rw [hd] at this; exact this
  ·exact h.elim
 ·exact h.elim
theorem zuh {T : zac} (hT : TOk P T) {t : TypeId} (h : isBool T t) : P.underlying t = some .bool := by
 unfold isBool at h
 split at h
 ·rename_i ti ht
  split at h
  ·rename_i hd
   have := (hT t ti ht).d
   rw [hd] at this; exact this
  ·exact h.elim
 ·exact h.elim
theorem zgy {T : zac} (hT : TOk P T) {t : TypeId} (h : isBytes T t) : ∃ e,P.underlying t = some (.slice e) ∧ P.underlying e = some (.int .u8) := by
 unfold isBytes at h
 split at h
 ·rename_i ti ht
  split at h
  ·rename_i e hd
   split at h
   ·rename_i te hte
    split at h
    ·rename_i hd2
     have h1 := (hT t ti ht).d
     have h2 := (hT _ te hte).d
     rw [hd] at h1; rw [hd2] at h2
     exact ⟨_,h1,h2⟩
    ·exact h.elim
   ·exact h.elim
  ·exact h.elim
 ·exact h.elim
theorem zpk {t : TypeId} (h : P.underlying t = some .bool) (a b : Bool) (w : World) : (Op.equal t (.bool a) (.bool b)).run P w = .ok (a == b) w := by
 have : ∀ d,(Op.equalIn (d + 1) t (.bool a) (.bool b)).run P w = .ok (a == b) w := fun d => by simp [Op.equalIn,run_underlying h]
 exact this 9999
theorem zkj {t e : TypeId} (h : P.underlying t = some (.pointer e)) (a : Option Addr) (w : World) : (Op.equal t (.pointer a) (.pointer none)).run P w = .ok a.isNone w := by
 have : ∀ d,(Op.equalIn (d + 1) t (.pointer a) (.pointer none)).run P w = .ok a.isNone w := fun d => by cases a <;> simp [Op.equalIn,run_underlying h]
 exact this 9999
theorem ztj {t : TypeId} {x y : Value} {r : Bool} {w : World} (h : (Op.equalIn 10000 t x y).run P w = .ok r w) : (Op.equal t x y).run P w = .ok r w := h
theorem zsi {op : BinOp} {t : TypeId} {r : Bool} {x y : Value} {w : World} {H : Heap} (hx : (Op.equal t x y).run P w = .ok r w) (hb : ∀ op',(op' = .eql ∨ op' = .neq) → binOp op' t x y = (match op' with | .eql => do pure (.bool (← Op.equal t x y)) | _ => do pure (.bool (!(← Op.equal t x y)))))
  (hp : (aEq op r H).p) (loc : Loc) : ∃ v,(binOp op t x y).run P w = .ok v w ∧ R w loc (aEq op r H).x v ∧ (aEq op r H).H = H := by
 cases op with
 | eql => exact ⟨.bool r,by rw [hb .eql (.inl rfl)]; simp [hx],.w _ rfl,rfl⟩
 | neq => exact ⟨.bool (!r),by rw [hb .neq (.inr rfl)]; simp [hx],.w _ rfl,rfl⟩
 | _ => exact hp.elim
theorem zbz {op : BinOp} {t : TypeId} {x y : Operand} {u v : Value} (h : one u = true) (hn : u ≠ .nilIface) : eqGuard op t x y u v = pure () := by
 cases u <;> first | (simp [one] at h; done) | exact (hn rfl).elim | (cases op <;> rfl)
theorem zkf {t : TypeId} {i : TyI} (h : TyR P t i) {w : World} {loc : Loc} {f : Nat} {ls : List AV} {cs : Array Value} {H : Heap}
  (hl : CellsOf w loc ls cs.toList) (hp : (subv i ls f H).p) : ∃ v,(part t cs f).run P w = .ok v w ∧ R w loc (subv i ls f H).x v ∧ (subv i ls f H).H = H := by
 unfold subv at hp ⊢
 have hlen := hl.len
 simp at hlen
 have h1 := znj h.d w
 cases ha : i.d.aggr with
 | true =>
  simp only [ha,cond_true] at hp ⊢
  rw [ha] at h1
  have h2 := zay h w
  refine ⟨.agg (cs.extract f (f + i.size)),by simp [part,h1,h2],?_,by simp⟩
  have := R.agg (w := w) (loc := loc) ((ls.drop f).take i.size) (cs.extract f (f + i.size)).toList (by simp; omega) (fun j hj => by
   have := hl.leaf (f + j) (by simp at hj; omega)
   simpa using this) (fun j a c => by
   have := hl.r (f + j) (by simp at a; omega) (by simp at a ⊢; omega)
   simpa using this)
  rw [Array.toArray_toList] at this
  exact this
 | false =>
  simp only [ha,cond_false] at hp ⊢
  rw [ha] at h1
  have hf : f < cs.size := by omega
  refine ⟨cs[f],by simp [part,h1,Array.getElem?_eq_getElem hf],?_,by simp⟩
  rw [zfd hp]
  exact hl.r f hp (by simpa using hf)
theorem zdh {w : World} {loc : Loc} {ls : List AV} {v : Value} (h : R w loc (.agg ls) v) : ∃ cs : Array Value,v = .agg cs ∧ CellsOf w loc ls cs.toList := by
 cases h with
 | agg xs cs hl hx h => exact ⟨cs.toArray,rfl,by simpa using hl,hx,fun j h1 h2 => h j h1 (by simpa using h2)⟩
theorem yec (d : Nat) (t : TypeId) (a b : List UInt8) (w : World) (h : P.underlying t = some .string) : (Op.equalIn (d + 1) t (.string ⟨a.toArray⟩) (.string ⟨b.toArray⟩)).run P w = .ok (decide (a = b)) w := by
 rw [run_equalIn_string w d t _ _ h,ByteArray.toList_eq,ByteArray.toList_eq,zgb]
theorem zvc {T : zac} (hT : TOk P T) {w : World} {loc : Loc} {S : TypeId → AV → AV → Prop × Bool} {d : Nat}
  (ih : ∀ t x y vx vy,R w loc x vx → R w loc y vy → (S t x y).1 → (Op.equalIn d t vx vy).run P w = .ok (S t x y).2 w) {xs ys : List AV} {cs ds : Array Value} (hx : CellsOf w loc xs cs.toList) (hy : CellsOf w loc ys ds.toList) :
  ∀ (gs : List Field),(∀ g ∈ gs,g.name ≠ "_") → (eqF S T (gs.map fun f => (f.offset,f.type)) xs ys).1 → (Op.eqFields d cs ds gs).run P w = .ok (eqF S T (gs.map fun f => (f.offset,f.type)) xs ys).2 w
 | [],_,_ => by simp [Op.eqFields,eqF]
 | g :: gs,hn,hp => by
  simp only [List.map_cons,eqF] at hp ⊢
  cases ht : T g.type with
  | none => simp [ht] at hp
  | some te =>
   simp only [ht] at hp ⊢
   obtain ⟨h1,h2,h3,h4⟩ := hp
   obtain ⟨u,hu,hur,_⟩ := zkf (hT _ _ ht) hx h1
   obtain ⟨v,hv,hvr,_⟩ := zkf (hT _ _ ht) hy h2
   have he := ih _ _ _ _ _ hur hvr h3
   have hr := zvc hT ih hx hy gs (fun k hk => hn k (by simp [hk])) h4
   simp only [Op.eqFields,if_pos (hn g (by simp)),Sem.run_bind,hu,hv,he,Result.andThen_ok]
   cases (S g.type (subv te xs g.offset []).x (subv te ys g.offset []).x).2 with
   | true => simp only [Bool.not_true,Bool.false_eq_true,if_false,Bool.true_and]; exact hr
   | false => simp
theorem zla {T : zac} (hT : TOk P T) {w : World} {loc : Loc} : ∀ (n d : Nat),n ≤ d → ∀ (t : TypeId) (x y : AV) (vx vy : Value),R w loc x vx → R w loc y vy → (eqV T n t x y).1 → (Op.equalIn d t vx vy).run P w = .ok (eqV T n t x y).2 w
 | 0,_,_,_,_,_,_,_,_,_,hp => by simp [eqV] at hp
 | n + 1,0,hd,_,_,_,_,_,_,_,_ => by omega
 | n + 1,d + 1,hd,t,x,y,vx,vy,hx,hy,hp => by
  unfold eqV at hp ⊢
  cases ht : T t with
  | none => simp [ht] at hp
  | some i =>
   simp only [ht] at hp ⊢
   have h1 := (hT t i ht).d
   cases hi : i.d with
   | int k =>
    rw [hi] at h1
    have h1 : P.underlying t = some (.int k) := h1
    simp only [hi] at hp ⊢
    split at hp
    ·obtain rfl := hx.wv
     obtain rfl := hy.wv
     subst hp
     rw [run_equalIn_int w d t _ k _ _ h1,zgb]
    ·exact hp.elim
   | bool =>
    rw [hi] at h1
    have h1 : P.underlying t = some .bool := h1
    simp only [hi] at hp ⊢
    split at hp
    ·obtain rfl := hx.wv
     obtain rfl := hy.wv
     rw [run_equalIn_bool' w d t _ _ h1]
    ·exact hp.elim
   | str =>
    rw [hi] at h1
    have h1 : P.underlying t = some .string := h1
    simp only [hi] at hp ⊢
    split at hp
    ·cases hx
     cases hy
     exact yec d t _ _ w h1
    ·exact hp.elim
   | struct fs =>
    rw [hi] at h1
    obtain ⟨gs,hu,rfl⟩ := h1
    simp only [hi] at hp ⊢
    split at hp
    ·rename_i xs ys
     obtain ⟨cs,rfl,hc⟩ := zdh hx
     obtain ⟨ds,rfl,hd2⟩ := zdh hy
     obtain ⟨q1,q2,q3⟩ := (hT t i ht).eqs gs hu
     have hf : P.fieldsOf t = gs := by simp [Program.fieldsOf,hu]
     rw [run_equalIn_struct w d t cs ds (by rw [hf]; exact hu) q2,hf]
     exact zvc hT (fun t x y vx vy a b c => zla hT n d (by omega) t x y vx vy a b c) hc hd2 gs.toList q1 hp
    ·exact hp.elim
   | slice e => simp [hi] at hp
   | ptr => simp [hi] at hp
   | arr n e => simp [hi] at hp
   | func => simp [hi] at hp
   | map k e => simp [hi] at hp
   | other => simp [hi] at hp
theorem yhm {T : zac} (hT : TOk P T) {w : World} {loc : Loc} {H : Heap} (hh : HR w loc H) {op : BinOp} {t : TypeId} {x y : AV} {vx vy : Value} (ox oy : Operand) (hx : R w loc x vx) (hy : R w loc y vy) (hp : (aBin T op t x y H).p) :
  ∃ u,(do eqGuard op t ox oy vx vy; binOp op t vx vy : Sem Value).run P w = .ok u w ∧ R w loc (aBin T op t x y H).x u ∧ (aBin T op t x y H).H = H := by
 unfold aBin at hp ⊢
 split at hp
 ·rename_i k a k' b
  obtain rfl := hx.wv
  obtain rfl := hy.wv
  obtain ⟨h1,h2⟩ := yfc (P := P) op t k k' a b w hp
  exact ⟨_,by simp [zbz (u := .int k a) rfl (by simp),h1],.w _ h2,rfl⟩
 ·rename_i a b
  cases hx
  cases hy
  obtain ⟨v,h1,h2⟩ := ydu (P := P) op t a b w loc hp
  exact ⟨v,by simp [zbz (u := .string _) rfl (by simp),h1],h2,rfl⟩
 ·rename_i a b
  obtain rfl := hx.wv
  obtain rfl := hy.wv
  obtain ⟨h1,h2⟩ := hp
  obtain ⟨v,h3,h4,h5⟩ := zsi (P := P) (zpk (zuh hT h1) a b w) (fun op' ho => by rcases ho with rfl | rfl <;> simp [binOp]) h2 loc
  exact ⟨v,by simp [zbz (u := .bool _) rfl (by simp),h3],h4,h5⟩
 ·rename_i id s i f
  obtain rfl := hy.wv
  cases hx with
  | rf _ _ _ _ _ h =>
   cases hl : look H id with
   | none => simp [hl,bad] at hp
   | some blk =>
    simp only [hl,Out.and] at hp ⊢
    have hf : loc.m id ≠ .free := by intro e; simp [Points,e] at h
    obtain ⟨hok,hn | ⟨b,hb,hlies⟩⟩ := hh.get hl hf
    ·simp [Points,hn.1] at h
    ·simp only [Points,hb] at h
     obtain ⟨⟨hs0,hp1⟩,hp⟩ := hp
     rw [zbh hs0] at h
     subst h
     obtain ⟨e,he⟩ := zny hT hp1
     obtain ⟨v,h3,h4,h5⟩ := zsi (P := P) (op := op) (t := t) (r := false) (x := .pointer (some ⟨b,i * s + f,none⟩)) (y := .pointer none) (w := w) (H := H) (zkj he _ w) (fun op' ho => by rcases ho with rfl | rfl <;> simp [binOp]) hp loc
     exact ⟨v,by simp [zbz (u := .pointer _) rfl (by simp),h3],h4,h5⟩
 ·obtain rfl := hx.wv
  obtain rfl := hy.wv
  simp only [Out.and] at hp ⊢
  obtain ⟨e,he⟩ := zny hT hp.1
  obtain ⟨v,h3,h4,h5⟩ := zsi (P := P) (op := op) (t := t) (r := true) (x := .pointer none) (y := .pointer none) (w := w) (H := H) (zkj he _ w) (fun op' ho => by rcases ho with rfl | rfl <;> simp [binOp]) hp.2 loc
  exact ⟨v,by simp [zbz (u := .pointer _) rfl (by simp),h3],h4,h5⟩
 ·rename_i xs ys
  simp only [Out.and] at hp ⊢
  obtain ⟨⟨hst,hq⟩,hp⟩ := hp
  obtain ⟨gs,hu⟩ : ∃ gs,P.underlying t = some (.struct gs) := by
   unfold isStruct at hst
   cases ht : T t with
   | none => simp [ht] at hst
   | some i =>
    simp only [ht] at hst
    have h1 := (hT t i ht).d
    split at hst
    ·rename_i hi; rw [hi] at h1; obtain ⟨gs,hu,_⟩ := h1; exact ⟨gs,hu⟩
    ·exact hst.elim
  have hg : P.eqGuardType P.depth t = false := by
   unfold isStruct at hst
   cases ht : T t with
   | none => simp [ht] at hst
   | some i => exact ((hT t i ht).eqs gs hu).2.2
  have he := zla hT 4 10000 (by omega) t _ _ _ _ hx hy hq
  obtain ⟨cs,rfl,_⟩ := zdh hx
  obtain ⟨ds,rfl,_⟩ := zdh hy
  obtain ⟨v,h3,h4,h5⟩ := zsi (P := P) (op := op) (t := t) (w := w) (H := H) (ztj he) (fun op' ho => by rcases ho with rfl | rfl <;> simp [binOp]) hp loc
  refine ⟨v,?_,h4,h5⟩
  rw [Sem.run_bind,run_eqGuard_agg w op t ox oy cs ds hg]
  simpa using h3
 ·exact hp.elim
theorem yib {w : World} {loc : Loc} {H : Heap} {op : UnOp} {x : AV} {v : Value} (hx : R w loc x v) (hp : (aUn op x H).p) :
  ∃ u,(Op.unary op v).run P w = .ok u w ∧ R w loc (aUn op x H).x u ∧ (aUn op x H).H = H := by
 unfold aUn at hp ⊢
 split at hp
 ·obtain rfl := hx.wv; exact ⟨_,by simp [Op.unary],.w _ rfl,rfl⟩
 ·obtain rfl := hx.wv; exact ⟨_,by simp [Op.unary,Op.intArith],.w _ rfl,rfl⟩
 ·rename_i k n
  obtain rfl := hx.wv
  refine ⟨.int k (bits .xor k (if k.signed then -1 else k.max) n),by simp only [Op.unary]; rw [intBits_xor]; rfl,?_,rfl⟩
  rw [cond_eq_ite]
  exact .w _ rfl
 ·exact hp.elim
theorem yeq {w : World} {loc : Loc} {H : Heap} (hh : HR w loc H) {x : AV} {v : Value} (hx : R w loc x v) (hp : (aNil x H).p) :
  ((v = .pointer none ∨ v = .nilIface ∨ v = .nilFunc ∨ (∃ n a b,v = .func (.method n) a b)) → False) ∧ (aNil x H).x = x ∧ (aNil x H).H = H := by
 unfold aNil at hp ⊢
 cases hx with
 | rf id s i f v h =>
  simp only at hp ⊢
  cases hl : look H id with
  | none => simp [hl,bad] at hp
  | some blk =>
   have hf : loc.m id ≠ .free := by intro e; simp [Points,e] at h
   obtain ⟨hok,hn | ⟨b,hb,hlies⟩⟩ := hh.get hl hf
   ·simp [Points,hn.1] at h
   ·simp only [Points,hb] at h
    simp only [hl] at hp
    rw [zbh hp] at h
    subst h
    exact ⟨by simp,by simp⟩
 | cp ls a cs => exact ⟨by simp,rfl,rfl⟩
 | fn f caps cs => exact ⟨by simp,rfl,rfl⟩
 | _ => simp [bad] at hp
end ops
end Ax
end Go.Proofs.Ytdfgfdcfcdgadaa
namespace Go.Proofs.Ytdfgfdcfcdgadaa
namespace Ax
section ops
variable {P : Program}
theorem zva {gs : Array Field} {f off : Nat} {ty : TypeId} (h : (gs.toList.map fun g => (g.offset,g.type))[f]? = some (off,ty)) : ∃ g,gs[f]? = some g ∧ g.offset = off ∧ g.type = ty := by
 simp only [List.getElem?_map,Option.map_eq_some_iff,Prod.mk.injEq] at h
 obtain ⟨g,h1,h2,h3⟩ := h
 exact ⟨g,by simpa using h1,h2,h3⟩
theorem zdy (b o n : Nat) : Addr.add ⟨b,o,none⟩ n = ⟨b,o + n,none⟩ := by
 by_cases h0 : n = 0
 ·subst h0; simp [Addr.add]
 ·simp [Addr.add,h0]
theorem zxo {T : zac} (hT : TOk P T) {w : World} {loc : Loc} {H : Heap} {t : TypeId} {x : AV} {f : Nat} {v : Value} (hx : R w loc x v) (hp : (aField T t x f H).p) :
  ∃ u,(Instr.field t v f).run P w = .ok u w ∧ R w loc (aField T t x f H).x u ∧ (aField T t x f H).H = H := by
 unfold aField at hp ⊢
 cases ht : T t with
 | none => simp [ht,bad] at hp
 | some ti =>
  simp only [ht] at hp ⊢
  have hd := (hT t ti ht).d
  cases hdd : ti.d with
  | struct fs =>
   simp only [hdd] at hp ⊢
   rw [hdd] at hd
   obtain ⟨gs,g1,rfl⟩ := hd
   split at hp
   ·rename_i ls
    obtain ⟨cs,rfl,hc⟩ := zdh hx
    cases hf : (gs.toList.map fun g => (g.offset,g.type))[f]? with
    | none => simp [hf,bad] at hp
    | some q =>
     obtain ⟨off,ty⟩ := q
     simp only [hf] at hp ⊢
     obtain ⟨g,g2,rfl,rfl⟩ := zva hf
     cases hty : T g.type with
     | none => simp [hty,bad] at hp
     | some te =>
      simp only [hty] at hp ⊢
      obtain ⟨u,u1,u2,u3⟩ := zkf (hT _ te hty) hc hp
      exact ⟨u,by simp [Instr.field,run_underlying g1,g2,asAgg,u1],u2,u3⟩
   ·exact hp.elim
  | _ => simp [hdd,bad] at hp
theorem zok {T : zac} (hT : TOk P T) {w : World} {loc : Loc} {H : Heap} (hh : HR w loc H) {t : TypeId} {x : AV} {f : Nat} {v : Value} (hx : R w loc x v) (hp : (aFieldAddr T t x f H).p) :
  ∃ u,(Instr.fieldAt t v f).run P w = .ok u w ∧ R w loc (aFieldAddr T t x f H).x u ∧ (aFieldAddr T t x f H).H = H := by
 unfold aFieldAddr at hp ⊢
 cases ht : T t with
 | none => simp [ht,bad] at hp
 | some ti =>
  simp only [ht] at hp ⊢
  have hd := (hT t ti ht).d
  cases hdd : ti.d with
  | struct fs =>
   simp only [hdd] at hp ⊢
   rw [hdd] at hd
   obtain ⟨gs,g1,rfl⟩ := hd
   cases hf : (gs.toList.map fun g => (g.offset,g.type))[f]? with
   | none => simp [hf,bad] at hp
   | some q =>
    obtain ⟨off,ty⟩ := q
    simp only [hf] at hp ⊢
    obtain ⟨g,g2,rfl,rfl⟩ := zva hf
    cases hty : T g.type with
    | none => simp [hty,bad] at hp
    | some te =>
     simp only [hty] at hp ⊢
     have hsz := zay (hT _ te hty) w
     split at hp
     ·rename_i id z i k
      cases hl : look H id with
      | none => simp [hl,bad] at hp
      | some blk =>
       simp only [hl] at hp ⊢
       cases hx with
       | rf _ _ _ _ _ h =>
        have hfr : loc.m id ≠ .free := by intro e; simp [Points,e] at h
        obtain ⟨hok,hn | ⟨b,hb,hlies⟩⟩ := hh.get hl hfr
        ·simp [Points,hn.1] at h
        ·simp only [Points,hb] at h
         obtain ⟨hz0,hp⟩ := hp
         rw [zbh hz0] at h
         subst h
         refine ⟨.pointer (some ⟨b,i * z + k + g.offset,none⟩),?_,.rf _ _ _ _ _ (by simp [Points,hb,Nat.add_assoc,zbh hz0]),by simp⟩
         simp [Instr.fieldAt,run_underlying g1,g2,Instr.sureAddr,fieldPlace,hsz,Nat.ne_of_gt hp,zdy]
     ·rename_i ls
      cases hx with
      | cp _ a cs hc hn hl hle h =>
       obtain h0 | ⟨b,o,ha,hm,hb,hcc⟩ := hc.lies
       ·exact (hn h0).elim
       ·injection ha with ha; subst ha
        refine ⟨.pointer (some ⟨b,o + g.offset,none⟩),?_,?_,by simp⟩
        ·simp [Instr.fieldAt,run_underlying g1,g2,Instr.sureAddr,fieldPlace,hsz,Nat.ne_of_gt hp.1,zdy]
        ·refine .cp _ _ (cs.drop g.offset) ⟨.inr ⟨b,o + g.offset,rfl,hm,hb,fun j hj => ?_⟩⟩ ?_ (by simp [hl]) (fun j hj => ?_) (fun j h1 h2 => ?_)
         ·rw [Nat.add_assoc,hcc (g.offset + j) (by simp at hj; omega)]; simp
         ·intro h0
          have : (cs.drop g.offset).length = 0 := by rw [h0]; rfl
          simp at this; omega
         ·have := hle (g.offset + j) (by simp at hj; omega)
          simpa using this
         ·have := h (g.offset + j) (by simp at h1; omega) (by simp at h2; omega)
          simpa using this
     ·exact hp.elim
  | _ => simp [hdd,bad] at hp
theorem znz {T : zac} (hT : TOk P T) {w : World} {loc : Loc} {H : Heap} (hh : HR w loc H) {t : TypeId} {x i : AV} {v vi : Value} (hx : R w loc x v) (hi : R w loc i vi) (hp : (zca T t x i H).p) :
  ∃ u,(Instr.indexAt t v vi).run P w = .ok u w ∧ R w loc (zca T t x i H).x u ∧ (zca T t x i H).H = H := by
 unfold zca at hp ⊢
 cases ht : T t with
 | none => simp [ht,bad] at hp
 | some ti =>
 simp only [ht] at hp ⊢
 split at hp
 ·rename_i ti' k n he
  injection he with he; subst he
  obtain rfl := hi.wv
  have hd := (hT t ti ht).d
  cases hdd : ti.d with
  | slice e =>
   simp only [hdd] at hp ⊢
   rw [hdd] at hd
   have hd : P.underlying t = some (.slice e) := hd
   cases hte : T e with
   | none => simp [hte,bad] at hp
   | some te =>
    simp only [hte] at hp ⊢
    have hsz := zay (hT _ te hte) w
    -- a slice that nobody writes
    have imm : ∀ (a : Option Addr) (len cap : Nat) (cs : List Value) (ls : List AV) (s : Nat),Cells w loc a cs → CellsOf w loc ls cs → (∀ (j : Nat) (h : j < ls.length),ls[j].closed = true) → te.size = s → 0 < s → 0 ≤ n → n.toNat < len → cs.length = len * s →
      ∃ u,(Instr.indexAt t (.slice a len cap) (.int k n)).run P w = .ok u w ∧ R w loc (.cp ((ls.drop (n.toNat * s)).take s)) u := by
     intro a len cap cs ls s hc hl hcl hs h0 hn hlt hlen
     have hmul := Nat.mul_le_mul_right s (show n.toNat + 1 ≤ len from hlt)
     rw [Nat.succ_mul] at hmul
     have hll := hl.len
     obtain h1 | ⟨b,o,rfl,hm,hb,hcc⟩ := hc.lies
     ·subst h1; simp at hlen; omega
     ·refine ⟨.pointer (some ⟨b,o + n.toNat * s,none⟩),?_,?_⟩
      ·have hnl : n < len := by omega
       simp [Instr.indexAt,asIntOf,run_underlying hd,hn,hnl,hsz,hs,zdy]
      ·refine .cp _ _ ((cs.drop (n.toNat * s)).take s) ⟨.inr ⟨b,o + n.toNat * s,rfl,hm,hb,fun j hj => ?_⟩⟩ ?_ (by simp; omega) (fun j hj => ?_) (fun j h1 h2 => ?_)
       ·rw [Nat.add_assoc,hcc (n.toNat * s + j) (by simp at hj; omega)]; simp
       ·intro h1
        have : ((cs.drop (n.toNat * s)).take s).length = 0 := by rw [h1]; rfl
        simp at this; omega
       ·have h3 := hl.leaf (n.toNat * s + j) (by simp at hj; omega)
        have h4 := hcl (n.toNat * s + j) (by simp at hj; omega)
        exact ⟨by simpa using h3,by simpa using h4⟩
       ·have := hl.r (n.toNat * s + j) (by simp at h1; omega) (by simp at h2; omega)
        simpa using this
    split at hp
    ·rename_i bs full
     obtain ⟨hn,hs,hlt⟩ := hp
     cases hx with
     | sb _ _ a cap hdim hc =>
      obtain ⟨u,u1,u2⟩ := imm a bs.length cap (bs.map byte) _ 1 hc (zeq bs) (fun j hj => by simp [AV.closed]) hs Nat.one_pos hn hlt (by simp)
      refine ⟨u,u1,?_,rfl⟩
      have e : ((bs.map fun b => AV.w (byte b)).drop (n.toNat * 1)).take 1 = [.w (byte (bs.getD n.toNat 0))] := by
       rw [Nat.mul_one,List.drop_eq_getElem_cons (by simpa using hlt)]
       simp [List.getD,List.getElem?_eq_getElem hlt]
      rw [← e]; exact u2
    ·rename_i ns full
     obtain ⟨hn,hs,hlt⟩ := hp
     cases hx with
     | si _ _ a cap hdim hc =>
      obtain ⟨u,u1,u2⟩ := imm a ns.length cap (ns.map word) _ 1 hc (zgt ns) (fun j hj => by simp [AV.closed]) hs Nat.one_pos hn hlt (by simp)
      refine ⟨u,u1,?_,rfl⟩
      have e : ((ns.map fun b => AV.w (word b)).drop (n.toNat * 1)).take 1 = [.w (word (ns.getD n.toNat 0))] := by
       rw [Nat.mul_one,List.drop_eq_getElem_cons (by simpa using hlt)]
       simp [List.getD,List.getElem?_eq_getElem hlt]
      rw [← e]; exact u2
    ·rename_i s xs full
     obtain ⟨hn,hs,h0,hlt⟩ := hp
     cases hx with
     | sg _ _ _ a cap cs hdim hls hc hl hxs h =>
      have hok : Blk.ok (.g s xs) := ⟨h0,hls⟩
      have hfl := zbn hok
      simp only [Blk.flat,Blk.len,Blk.size] at hfl
      obtain ⟨u,u1,u2⟩ := imm a xs.length cap cs _ s hc ⟨hl,fun j hj => (hxs j hj).1,h⟩ (fun j hj => (hxs j hj).2) hs h0 hn hlt (by rw [← hl,hfl])
      refine ⟨u,u1,?_,rfl⟩
      obtain ⟨e1,e2,e3⟩ := zgm hok (i := n.toNat) hlt
      simp only [zan,Blk.size,Blk.flat] at e1 e2 e3
      have e : ((xs.flatMap AV.leaves).drop (n.toNat * s)).take s = (slot xs n.toNat).leaves := by
       refine List.ext_getElem (by rw [e1,List.length_take,List.length_drop]; omega) fun j h1 h2 => ?_
       have := e3 j h2 (by omega)
       simpa using this
      rw [← e]; exact u2
    ·rename_i id s off len
     cases hl : look H id with
     | none => simp [hl,bad] at hp
     | some blk =>
      simp only [hl] at hp ⊢
      obtain ⟨hs0,hn,hs,hlt⟩ := hp
      cases hx with
      | ms _ _ _ _ _ h =>
       have hfr : loc.m id ≠ .free := by intro e; simp [Owns,e] at h
       obtain ⟨hok,hnl | ⟨b,hb,hlies⟩⟩ := hh.get hl hfr
       ·unfold Owns at h; rw [hnl.1] at h; omega
       ·unfold Owns at h; rw [hb] at h
        obtain ⟨o,cap,cur0,e0,fz0,rfl,ho,hh0,hsz0,hlc,htop⟩ := h
        have ho := ho (by omega)
        subst ho
        refine ⟨.pointer (some ⟨b,(off + n.toNat) * s,none⟩),?_,.rf _ _ _ _ _ (by simp [Points,hb,zbh hs0]),by simp⟩
        have hnl : n < len := by omega
        simp [Instr.indexAt,asIntOf,run_underlying hd,hn,hnl,hsz,hs,zdy,Nat.add_mul]
    ·exact hp.elim
  | arr m e =>
   simp only [hdd] at hp ⊢
   rw [hdd] at hd
   have hd : P.underlying t = some (.array m e) := hd
   cases hte : T e with
   | none => simp [hte,bad] at hp
   | some te =>
    simp only [hte] at hp ⊢
    have hsz := zay (hT _ te hte) w
    split at hp
    ·rename_i id s j f
     cases hl : look H id with
     | none => simp [hl,bad] at hp
     | some blk =>
      simp only [hl] at hp ⊢
      obtain ⟨hs0,hn,hlt⟩ := hp
      cases hx with
      | rf _ _ _ _ _ h =>
       have hfr : loc.m id ≠ .free := by intro e; simp [Points,e] at h
       obtain ⟨hok,hnl | ⟨b,hb,hlies⟩⟩ := hh.get hl hfr
       ·simp [Points,hnl.1] at h
       ·simp only [Points,hb] at h
        rw [zbh hs0] at h
        subst h
        refine ⟨.pointer (some ⟨b,j * s + f + n.toNat * te.size,none⟩),?_,.rf _ _ _ _ _ (by simp [Points,hb,Nat.add_assoc,zbh hs0]),by simp⟩
        simp [Instr.indexAt,asIntOf,run_underlying hd,hn,hlt,hsz,zdy,Instr.sureAddr]
    ·rename_i ls
     obtain ⟨hn,hlt,hlen⟩ := hp
     cases hx with
     | cp _ a cs hc hne hl hle h =>
      obtain h0 | ⟨b,o,ha,hm,hb,hcc⟩ := hc.lies
      ·exact (hne h0).elim
      ·injection ha with ha; subst ha
       refine ⟨.pointer (some ⟨b,o + n.toNat * te.size,none⟩),?_,?_,rfl⟩
       ·simp [Instr.indexAt,asIntOf,run_underlying hd,hn,hlt,hsz,zdy,Instr.sureAddr]
       ·refine .cp _ _ (cs.drop (n.toNat * te.size)) ⟨.inr ⟨b,o + n.toNat * te.size,rfl,hm,hb,fun j hj => ?_⟩⟩ ?_ (by simp [hl]) (fun j hj => ?_) (fun j h1 h2 => ?_)
        ·rw [Nat.add_assoc,hcc (n.toNat * te.size + j) (by simp at hj; omega)]; simp
        ·intro h0
         have : (cs.drop (n.toNat * te.size)).length = 0 := by rw [h0]; rfl
         simp at this; omega
        ·have := hle (n.toNat * te.size + j) (by simp at hj; omega)
         simpa using this
        ·have := h (n.toNat * te.size + j) (by simp at h1; omega) (by simp at h2; omega)
         simpa using this
    ·exact hp.elim
  | _ => simp [hdd,bad] at hp
 ·exact hp.elim
theorem zxc {T : zac} (hT : TOk P T) {w : World} {loc : Loc} {H : Heap} {t : TypeId} {x i : AV} {v vi : Value} (hx : R w loc x v) (hi : R w loc i vi) (hp : (zii T t x i H).p) :
  ∃ u,(Instr.index t v vi).run P w = .ok u w ∧ R w loc (zii T t x i H).x u ∧ (zii T t x i H).H = H := by
 unfold zii at hp ⊢
 cases ht : T t with
 | none => simp [ht,bad] at hp
 | some ti =>
 simp only [ht] at hp ⊢
 split at hp
 ·rename_i ti' k n he
  injection he with he; subst he
  obtain rfl := hi.wv
  have hd := (hT t ti ht).d
  cases hdd : ti.d with
  | str =>
   simp only [hdd] at hp ⊢
   rw [hdd] at hd
   have hd : P.underlying t = some .string := hd
   split at hp
   ·rename_i bs
    obtain ⟨hn,hlt⟩ := hp
    cases hx
    refine ⟨byte (bs.getD n.toNat 0),?_,.w _ rfl,rfl⟩
    have hs : n.toNat < (ByteArray.mk bs.toArray).size := by simpa [ByteArray.size] using hlt
    have hg : (ByteArray.mk bs.toArray)[n.toNat]? = some (bs.getD n.toNat 0) := by
     rw [ByteArray.getElem?_lt' _ _ hs]
     simp [List.getD,List.getElem?_eq_getElem hlt,ByteArray.getElem_eq_getElem_data]
    simp [Instr.index,asIntOf,run_underlying hd,hn,hg,byte]
   ·exact hp.elim
  | arr m e =>
   simp only [hdd] at hp ⊢
   rw [hdd] at hd
   have hd : P.underlying t = some (.array m e) := hd
   split at hp
   ·rename_i ls
    obtain ⟨cs,rfl,hc⟩ := zdh hx
    cases hte : T e with
    | none => simp [hte,bad] at hp
    | some te =>
     simp only [hte,Out.and] at hp ⊢
     obtain ⟨⟨hn,hlt⟩,hp⟩ := hp
     have hsz := zay (hT _ te hte) w
     obtain ⟨u,u1,u2,u3⟩ := zkf (hT _ te hte) hc hp
     exact ⟨u,by simp [Instr.index,asIntOf,run_underlying hd,hn,hlt,hsz,u1],u2,u3⟩
   ·exact hp.elim
  | _ => simp [hdd,bad] at hp
 ·exact hp.elim
theorem zsh {w : World} {loc : Loc} {H : Heap} {x : AV} {i : Nat} {v : Value} (hx : R w loc x v) (hp : (zdi x i H).p) :
  ∃ u,(Instr.extract v i).run P w = .ok u w ∧ R w loc (zdi x i H).x u ∧ (zdi x i H).H = H := by
 unfold zdi at hp ⊢
 cases hx with
 | tup xs cs hl h =>
  simp only at hp ⊢
  have hi : i < cs.length := by omega
  refine ⟨cs[i],by simp [Instr.extract,List.getElem?_eq_getElem hi],?_,by simp⟩
  rw [zfd hp]; exact h i hp hi
 | _ => simp [bad] at hp
theorem yez {T : zac} (hT : TOk P T) {w : World} {loc : Loc} {H : Heap} (hh : HR w loc H) {t u : TypeId} {x : AV} {v : Value} (hx : R w loc x v) (hp : (aLen T t x H).p) :
  ∃ u',(Builtin.len_ #[t] u #[v]).run P w = .ok u' w ∧ R w loc (aLen T t x H).x u' ∧ (aLen T t x H).H = H := by
 unfold aLen at hp ⊢
 cases ht : T t with
 | none => simp [ht,bad] at hp
 | some ti =>
  simp only [ht] at hp ⊢
  have hd := (hT t ti ht).d
  cases hdd : ti.d with
  | str =>
   simp only [hdd] at hp ⊢
   rw [hdd] at hd
   have hd : P.underlying t = some .string := hd
   split at hp
   ·rename_i bs
    cases hx
    exact ⟨word bs.length,by rw [run_len_string w t u _ hd]; rfl,.w _ rfl,rfl⟩
   ·exact hp.elim
  | slice e =>
   simp only [hdd] at hp ⊢
   rw [hdd] at hd
   have hd : P.underlying t = some (.slice e) := hd
   have sl : ∀ (a : Option Addr) (n c : Nat),(Builtin.len_ #[t] u #[.slice a n c]).run P w = .ok (word n) w := fun a n c => by simp [Builtin.len_,run_underlying hd,goInt,word]
   split at hp
   ·cases hx; exact ⟨_,sl _ _ _,.w _ rfl,rfl⟩
   ·cases hx; exact ⟨_,sl _ _ _,.w _ rfl,rfl⟩
   ·cases hx; exact ⟨_,sl _ _ _,.w _ rfl,rfl⟩
   ·rename_i id s off len
    cases hl : look H id with
    | none => simp [hl,bad] at hp
    | some blk =>
     simp only [hl] at hp ⊢
     cases hx with
     | ms _ _ _ _ _ h =>
      have hfr : loc.m id ≠ .free := by intro e; simp [Owns,e] at h
      obtain ⟨hok,hnl | ⟨b,hb,hlies⟩⟩ := hh.get hl hfr
      ·unfold Owns at h; rw [hnl.1] at h
       obtain ⟨rfl,a,rfl⟩ := h
       exact ⟨_,sl _ _ _,.w _ rfl,by simp⟩
      ·unfold Owns at h; rw [hb] at h
       obtain ⟨o,cap,cur0,e0,fz0,rfl,_⟩ := h
       exact ⟨_,sl _ _ _,.w _ rfl,by simp⟩
   ·exact hp.elim
  | arr n e =>
   simp only [hdd] at hp ⊢
   rw [hdd] at hd
   have hd : P.underlying t = some (.array n e) := hd
   exact ⟨_,by simp [Builtin.len_,run_underlying hd,goInt]; rfl,.w _ rfl,by simp⟩
  | map k e =>
   simp only [hdd] at hp ⊢
   rw [hdd] at hd
   have hd : P.underlying t = some (.map k e) := hd
   split at hp
   ·rename_i id s i f
    split at hp
    ·rename_i es hl
     cases hx with
     | rf _ _ _ _ _ h =>
      have hfr : loc.m id ≠ .free := by intro e; simp [Points,e] at h
      obtain ⟨hok,hn | ⟨b,hb,hlies⟩⟩ := hh.get hl hfr
      ·simp [Points,hn.1] at h
      ·unfold Points at h; rw [hb] at h
       obtain rfl := hp
       obtain ⟨ms,clk,h1,h2⟩ := hlies.is rfl
       subst h
       have hlen : ms.size = es.length := by have := congrArg List.length h2.kv; simpa using this
       refine ⟨word es.length,?_,.w _ rfl,rfl⟩
       simp [Builtin.len_,run_underlying hd,refV,getObj,Sem.run,h1,goInt,word,hlen]
    ·exact hp.elim
   ·exact hp.elim
  | _ => simp [hdd,bad] at hp
theorem yev {w : World} {loc : Loc} {H : Heap} {k k' : IntKind} {x y : Int} (ts : Array TypeId) (u : TypeId) :
  (Builtin.min_ ts u #[.int k x,.int k' y]).run P w = .ok (.int k (if y < x then y else x)) w := by
 simp [Builtin.min_,Builtin.min2]
theorem yew {w : World} {loc : Loc} {H : Heap} {k k' : IntKind} {x y : Int} (ts : Array TypeId) (u : TypeId) :
  (Builtin.max_ ts u #[.int k x,.int k' y]).run P w = .ok (.int k (if y > x then y else x)) w := by
 simp [Builtin.max_,Builtin.max2]
end ops
end Ax
end Go.Proofs.Ytdfgfdcfcdgadaa
namespace Go.Proofs.Ytdfgfdcfcdgadaa
namespace Ax
section ops
variable {P : Program}
theorem zmz (d : Nat) : bnd none d = (True,d) := rfl
theorem zgp {w : World} {loc : Loc} {o : Option AV} {vo : Option Value} {d y : Nat} {code : BoundsCode} (hr : match o,vo with | none,none => True | some x,some v => R w loc x v | _,_ => False) (hp : (bnd o d).1) (hle : (bnd o d).2 ≤ y) :
  (vo = none ∧ o = none ∧ (bnd o d).2 = d) ∨ ∃ v,vo = some v ∧ o.isSome = true ∧ (Instr.sliceBound v y code).run P w = .ok (bnd o d).2 w := by
 cases o with
 | none => cases vo with
  | none => exact .inl ⟨rfl,rfl,rfl⟩
  | some v => exact hr.elim
 | some x => cases vo with
  | none => exact hr.elim
  | some v =>
   right
   refine ⟨v,rfl,rfl,?_⟩
   unfold bnd at hp hle ⊢
   split at hp
   ·rename_i h; cases h
   ·rename_i k n h
    injection h with h; subst h
    simp only at hle ⊢
    obtain rfl := hr.wv
    have hp : 0 ≤ n := hp
    have hle2 : n ≤ y := by omega
    simp [Instr.sliceBound,asIntOf,hp,hle2]
   ·exact hp.elim
def OR (w : World) (loc : Loc) (o : Option AV) (vo : Option Value) : Prop := match o,vo with | none,none => True | some x,some v => R w loc x v | _,_ => False
theorem zds {w : World} {loc : Loc} {lo hi mx : Option AV} {vl vh vm : Option Value} {n cap : Nat} (isS : Bool) (hl : OR w loc lo vl) (hh : OR w loc hi vh) (hm : OR w loc mx vm) (hp : bnds lo hi mx n) (hc : n ≤ cap) (hhm : mx.isSome = true → hi.isSome = true) :
  (Instr.sliceBounds isS n cap vl vh vm).run P w = .ok ((bnd lo 0).2,(bnd hi n).2,if mx.isSome = true then (bnd mx n).2 else cap) w := by
 obtain ⟨p1,p2,p3,q1,q2,q3⟩ := hp
 unfold Instr.sliceBounds
 rcases zgp (P := P) (y := cap) (code := if isS then .slice3Acap else .slice3Alen) hm p3 (by omega) with ⟨rfl,rfl,e3⟩ | ⟨v3,rfl,e3,r3⟩
 ·rcases zgp (P := P) (y := cap) (code := if isS then .sliceAcap else .sliceAlen) hh p2 (by omega) with ⟨rfl,rfl,e2⟩ | ⟨v2,rfl,e2,r2⟩
  ·rcases zgp (P := P) (y := n) (code := .sliceB) hl p1 (by rw [← e2]; exact q1) with ⟨rfl,rfl,e1⟩ | ⟨v1,rfl,e1,r1⟩
   ·simp [zmz]
   ·simp [zmz] at r1 ⊢; simp [r1]
  ·rcases zgp (P := P) (y := (bnd hi n).2) (code := .sliceB) hl p1 q1 with ⟨rfl,rfl,e1⟩ | ⟨v1,rfl,e1,r1⟩
   ·simp [r2,zmz]
   ·simp [r2,r1]
 ·rcases zgp (P := P) (y := (bnd mx n).2) (code := .slice3B) hh p2 q2 with ⟨rfl,rfl,e2⟩ | ⟨v2,rfl,e2,r2⟩
  ·have := hhm e3; simp at this
  ·rcases zgp (P := P) (y := (bnd hi n).2) (code := .slice3C) hl p1 q1 with ⟨rfl,rfl,e1⟩ | ⟨v1,rfl,e1,r1⟩
   ·simp [r3,r2,e3,zmz]
   ·simp [r3,r2,r1,e3]
theorem zhr {t e : TypeId} {te : TyI} (hd : P.underlying t = some (.slice e)) (hte : TyR P e te) {w : World} {a : Option Addr} {n cap l h m : Nat} {vl vh vm : Option Value} (hb : (Instr.sliceBounds true n cap vl vh vm).run P w = .ok (l,h,m) w) :
  (Instr.sliceAt t (.slice a n cap) vl vh vm).run P w = .ok (.slice (if m = l then a else a.map (·.add (l * te.size))) (h - l) (m - l)) w := by
 simp [Instr.sliceAt,run_underlying hd,Instr.slice,hb,zay hte w]
theorem Cells.piece {w : World} {loc : Loc} {a : Option Addr} {cs : List Value} (h : Cells w loc a cs) (i k : Nat) (c : Prop) [Decidable c] (hcc : c → (cs.drop i).take k = []) : Cells w loc (if c then a else a.map (·.add i)) ((cs.drop i).take k) := by
 by_cases h0 : (cs.drop i).take k = []
 ·exact ⟨.inl h0⟩
 ·rw [if_neg (fun hc => h0 (hcc hc))]
  obtain h1 | ⟨b,o,rfl,hm,hb,hcs⟩ := h.lies
  ·subst h1; simp at h0
  ·refine ⟨.inr ⟨b,o + i,by simp [zdy],hm,hb,fun j hj => ?_⟩⟩
   rw [Nat.add_assoc,hcs (i + j) (by simp at hj; omega)]; simp
theorem zxk {full : Bool} {hi mx : Option AV} {n cap l h m : Nat} (hfull : full = true → cap = n) (hh : h = (bnd hi n).2) (hm : m = if mx.isSome = true then (bnd mx n).2 else cap) (hf : zpo full hi mx (bnd hi n).2 (bnd mx n).2 = true) : m - l = h - l := by
 unfold zpo at hf
 cases mx with
 | some x =>
  have : (bnd (some x) n).2 = (bnd hi n).2 := by simpa using hf
  rw [hm,hh,if_pos (by rfl),this]
 | none =>
  cases hi with
  | some x => simp at hf
  | none =>
   have := hfull hf
   rw [hm,hh]; simp [bnd,this]
theorem zwp {T : zac} (hT : TOk P T) {w : World} {loc : Loc} {H : Heap} {t : TypeId} {x : AV} {lo hi mx : Option AV} {v : Value} {vl vh vm : Option Value} (hx : R w loc x v) (hl : OR w loc lo vl) (hh : OR w loc hi vh) (hm : OR w loc mx vm) (hhm : mx.isSome = true → hi.isSome = true) (hh0 : HR w loc H) (hp : (zjc T t x lo hi mx H).p) :
  ∃ u,(Instr.sliceAt t v vl vh vm).run P w = .ok u w ∧ R w loc (zjc T t x lo hi mx H).x u ∧ (zjc T t x lo hi mx H).H = H := by
 unfold zjc at hp ⊢
 cases ht : T t with
 | none => simp [ht,bad] at hp
 | some ti =>
  simp only [ht] at hp ⊢
  have hd := (hT t ti ht).d
  cases hdd : ti.d with
  | str =>
   simp only [hdd] at hp ⊢
   rw [hdd] at hd
   have hd : P.underlying t = some .string := hd
   split at hp
   ·rename_i bs
    obtain ⟨h1,hb⟩ := hp
    cases hx
    cases mx with
    | some m => simp at h1
    | none =>
     cases vm with
     | some v => exact hm.elim
     | none =>
      have hs : (ByteArray.mk bs.toArray).size = bs.length := by simp [ByteArray.size]
      have hr := zds (P := P) (n := bs.length) (cap := bs.length) false hl hh hm hb (Nat.le_refl _) hhm
      refine ⟨.string ((ByteArray.mk bs.toArray).extract (bnd lo 0).2 (bnd hi bs.length).2),?_,?_,rfl⟩
      ·simp [Instr.sliceAt,run_underlying hd,Instr.slice,hs,hr]
      ·rw [ByteArray.extract_mk]
       exact .str _
   ·exact hp.elim
  | slice e =>
   simp only [hdd] at hp ⊢
   rw [hdd] at hd
   have hd : P.underlying t = some (.slice e) := hd
   cases hte : T e with
   | none => simp [hte,bad] at hp
   | some te =>
    simp only [hte] at hp ⊢
    have hty := hT _ te hte
    have dim : ∀ (n cap : Nat) (full : Bool),Dim n cap full → bnds lo hi mx n →
      Dim ((bnd hi n).2 - (bnd lo 0).2) ((if mx.isSome = true then (bnd mx n).2 else cap) - (bnd lo 0).2) (zpo full hi mx (bnd hi n).2 (bnd mx n).2) := by
     intro n cap full hdm hb
     obtain ⟨p1,p2,p3,q1,q2,q3⟩ := hb
     have hd1 := hdm.le
     have hd2 := hdm.top
     refine ⟨?_,?_,fun hf => zxk hdm.full rfl rfl hf⟩
     ·split <;> omega
     ·split <;> omega
    have hcut : ∀ {α : Type} (xs : List α),(bnd hi xs.length).2 ≤ xs.length → (cut xs lo hi).length = (bnd hi xs.length).2 - (bnd lo 0).2 := by
     intro α xs h; simp [cut]; omega
    split at hp
    ·rename_i bs full
     obtain ⟨hs,hb⟩ := hp
     have hb' := hb
     obtain ⟨p1,p2,p3,q1,q2,q3⟩ := hb
     cases hx with
     | sb _ _ a cap hdm hc =>
      have hr := zhr hd hty (a := a) (zds (P := P) (cap := cap) true hl hh hm hb' hdm.le hhm)
      refine ⟨_,hr,?_,rfl⟩
      rw [← hcut bs (by omega),hs,Nat.mul_one]
      refine .sb _ _ _ _ (by rw [hcut bs (by omega)]; exact dim _ _ _ hdm hb') ?_
      have := hc.piece (bnd lo 0).2 ((bnd hi bs.length).2 - (bnd lo 0).2) ((if mx.isSome = true then (bnd mx bs.length).2 else cap) = (bnd lo 0).2) (fun hq => by
       have hd1 := hdm.le
       have : (bnd hi bs.length).2 - (bnd lo 0).2 = 0 := by split at hq <;> omega
       rw [this]; simp)
      simpa [cut,List.map_take,List.map_drop] using this
    ·rename_i ns full
     obtain ⟨hs,hb⟩ := hp
     have hb' := hb
     obtain ⟨p1,p2,p3,q1,q2,q3⟩ := hb
     cases hx with
     | si _ _ a cap hdm hc =>
      have hr := zhr hd hty (a := a) (zds (P := P) (cap := cap) true hl hh hm hb' hdm.le hhm)
      refine ⟨_,hr,?_,rfl⟩
      rw [← hcut ns (by omega),hs,Nat.mul_one]
      refine .si _ _ _ _ (by rw [hcut ns (by omega)]; exact dim _ _ _ hdm hb') ?_
      have := hc.piece (bnd lo 0).2 ((bnd hi ns.length).2 - (bnd lo 0).2) ((if mx.isSome = true then (bnd mx ns.length).2 else cap) = (bnd lo 0).2) (fun hq => by
       have hd1 := hdm.le
       have : (bnd hi ns.length).2 - (bnd lo 0).2 = 0 := by split at hq <;> omega
       rw [this]; simp)
      simpa [cut,List.map_take,List.map_drop] using this
    ·rename_i s xs full
     obtain ⟨hs,hb⟩ := hp
     have hb' := hb
     obtain ⟨p1,p2,p3,q1,q2,q3⟩ := hb
     cases hx with
     | sg _ _ _ a cap cs hdm hls hc hlen hxs h =>
      have hr := zhr hd hty (a := a) (zds (P := P) (cap := cap) true hl hh hm hb' hdm.le hhm)
      refine ⟨_,hr,?_,rfl⟩
      rw [← hcut xs (by omega),hs]
      have hfl : (cut xs lo hi).flatMap AV.leaves = ((xs.flatMap AV.leaves).drop ((bnd lo 0).2 * s)).take (((bnd hi xs.length).2 - (bnd lo 0).2) * s) := by
       unfold cut
       rw [zbl _ _ (fun y hy => hls y (List.mem_of_mem_drop hy)),zbt _ _ hls]
      refine .sg s _ _ _ _ ((cs.drop ((bnd lo 0).2 * s)).take (((bnd hi xs.length).2 - (bnd lo 0).2) * s)) (by rw [hcut xs (by omega)]; exact dim _ _ _ hdm hb') (fun y hy => hls y (List.mem_of_mem_drop (List.mem_of_mem_take hy))) ?_ (by rw [hfl]; simp only [List.length_take,List.length_drop,hlen]) (fun j hj => ?_) (fun j h1 h2 => ?_)
      ·exact hc.piece _ _ _ (fun hq => by
        have hd1 := hdm.le
        have : (bnd hi xs.length).2 - (bnd lo 0).2 = 0 := by split at hq <;> omega
        rw [this]; simp)
      ·have hj2 := hj
       rw [hfl] at hj2
       have e : ((cut xs lo hi).flatMap AV.leaves)[j] = (xs.flatMap AV.leaves)[(bnd lo 0).2 * s + j]'(by simp only [List.length_take,List.length_drop] at hj2; omega) := by
        simp only [hfl,List.getElem_take,List.getElem_drop]
       rw [e]; exact hxs _ _
      ·have hj2 := h1
       rw [hfl] at hj2
       have e : ((cut xs lo hi).flatMap AV.leaves)[j] = (xs.flatMap AV.leaves)[(bnd lo 0).2 * s + j]'(by simp only [List.length_take,List.length_drop] at hj2; omega) := by
        simp only [hfl,List.getElem_take,List.getElem_drop]
       rw [e]
       have := h ((bnd lo 0).2 * s + j) (by simp only [List.length_take,List.length_drop] at hj2; omega) (by simp only [List.length_take,List.length_drop] at h2; omega)
       simpa using this
    ·rename_i id s off len
     cases hlk : look H id with
     | none => simp [hlk,bad] at hp
     | some blk =>
     simp only [hlk] at hp ⊢
     obtain ⟨hs,hb⟩ := hp
     have hb' := hb
     obtain ⟨p1,p2,p3,q1,q2,q3⟩ := hb
     have hlive : loc.m id ≠ .dead := by
      intro e
      have := hh0 id blk hlk
      unfold BlkR at this
      rw [e] at this
      exact this
     cases hx with
     | ms _ _ _ _ _ h =>
      cases hloc : loc.m id with
      | free => unfold Owns at h; rw [hloc] at h; exact h.elim
      | dead => simp [hloc] at hlive
      | nil =>
       unfold Owns at h; rw [hloc] at h
       obtain ⟨rfl,a,rfl⟩ := h
       have hr := zhr hd hty (a := a) (zds (P := P) (n := 0) (cap := 0) true hl hh hm hb' (Nat.le_refl _) hhm)
       refine ⟨_,hr,.ms _ _ _ _ _ ?_,by simp⟩
       unfold Owns; rw [hloc]
       have e1 : (bnd hi 0).2 - (bnd lo 0).2 = 0 := by omega
       have e2 : (if mx.isSome = true then (bnd mx 0).2 else 0) - (bnd lo 0).2 = 0 := by split <;> omega
       rw [e1,e2]
       exact ⟨rfl,_,rfl⟩
      | here b =>
       unfold Owns at h; rw [hloc] at h
       obtain ⟨o,cap,cur0,e0,fz0,rfl,ho,hh0,hsz0,hlc,htop⟩ := h
       have hr := zhr hd hty (a := some ⟨b,o,none⟩) (zds (P := P) (n := len) (cap := cap) true hl hh hm hb' hlc hhm)
       refine ⟨_,hr,.ms _ _ _ _ _ ?_,by simp⟩
       unfold Owns; rw [hloc]
       generalize hmm : (if mx.isSome = true then (bnd mx len).2 else cap) = m
       have hmc : m ≤ cap := by rw [← hmm]; split <;> omega
       have hhm2 : (bnd hi len).2 ≤ m := by rw [← hmm]; split <;> omega
       have hmul : (off + (bnd lo 0).2 + (m - (bnd lo 0).2)) * s ≤ (off + cap) * s := Nat.mul_le_mul_right s (by omega)
       by_cases hml : m = (bnd lo 0).2
       ·refine ⟨o,m - (bnd lo 0).2,cur0,e0,fz0,by rw [if_pos hml],fun h0 => by omega,hh0,by omega,by omega,by omega⟩
       ·refine ⟨o + (bnd lo 0).2 * te.size,m - (bnd lo 0).2,cur0,e0,fz0,by rw [if_neg hml]; simp [zdy],fun h0 => ?_,hh0,by omega,by omega,by omega⟩
        rw [ho (by omega),hs,Nat.add_mul]
    ·exact hp.elim
  | arr n e =>
   simp only [hdd] at hp ⊢
   rw [hdd] at hd
   have hd : P.underlying t = some (.array n e) := hd
   cases hte : T e with
   | none => simp [hte,bad] at hp
   | some te =>
    simp only [hte] at hp ⊢
    have hty := hT _ te hte
    split at hp
    ·rename_i id s i f
     cases hlk : look H id with
     | none => simp [hlk,bad] at hp
     | some blk =>
     simp only [hlk] at hp ⊢
     obtain ⟨hs,⟨rfl,rfl⟩,hbs,⟨hn0,hin,hnm⟩,hb⟩ := hp
     have hb' := hb
     obtain ⟨p1,p2,p3,q1,q2,q3⟩ := hb
     cases hx with
     | rf _ _ _ _ _ h =>
      have hf : loc.m id ≠ .free := by intro e; simp [Points,e] at h
      obtain ⟨hok,hn | ⟨b,hbb,hlies⟩⟩ := hh0.get hlk hf
      ·simp [Points,hn.1] at h
      ·simp only [Points,hbb] at h
       rw [zbh (by decide)] at h
       subst h
       have hr := zds (P := P) (n := n) (cap := n) false hl hh hm hb' (Nat.le_refl _) hhm
       obtain ⟨cur,e0,fz,hheap,_,_,hlen,_⟩ := hlies.lies (zlp (i := i) (by omega))
       have hfl := zbn hok
       rw [hbs,Nat.mul_one] at hfl
       generalize hmm : (if mx.isSome = true then (bnd mx n).2 else n) = m at hr
       have hmc : m ≤ n := by rw [← hmm]; split <;> omega
       have hhm2 : (bnd hi n).2 ≤ m := by rw [← hmm]; split <;> omega
       have htop : n ≤ maxLen := by simp only [maxLen]; omega
       refine ⟨.slice (some ⟨b,if m = (bnd lo 0).2 then i else i + (bnd lo 0).2,none⟩) ((bnd hi n).2 - (bnd lo 0).2) (m - (bnd lo 0).2),?_,.ms _ _ _ _ _ ?_,by simp⟩
       ·by_cases hml : m = (bnd lo 0).2
        ·simp [Instr.sliceAt,run_underlying hd,Instr.sureAddr,hr,zay hty w,hs,hml]
        ·simp [Instr.sliceAt,run_underlying hd,Instr.sureAddr,hr,zay hty w,hs,hml,Addr.add]
       ·unfold Owns; rw [hbb]
        refine ⟨_,m - (bnd lo 0).2,cur,e0,fz,rfl,fun h0 => ?_,hheap,by omega,by omega,by omega⟩
        rw [if_neg (by omega)]; omega
    ·exact hp.elim
  | _ => simp [hdd,bad] at hp
end ops
end Ax
end Go.Proofs.Ytdfgfdcfcdgadaa
namespace Go.Proofs.Ytdfgfdcfcdgadaa
namespace Ax
section ops
variable {P : Program}
theorem zij {t : TypeId} {i : TyI} (h : TyR P t i) : ∃ d,P.underlying t = some d := by
 have h1 := h.d
 cases hd : i.d <;> rw [hd] at h1 <;> simp only [TdR] at h1
 ·exact ⟨_,h1⟩
 ·exact ⟨_,h1⟩
 ·exact ⟨_,h1⟩
 ·obtain ⟨e,h1⟩ := h1; exact ⟨_,h1⟩
 ·exact ⟨_,h1⟩
 ·obtain ⟨e,h1,_⟩ := h1; exact ⟨_,h1⟩
 ·exact ⟨_,h1⟩
 ·obtain ⟨a,b,c,h1⟩ := h1; exact ⟨_,h1⟩
 ·exact ⟨_,h1⟩
 ·obtain ⟨d,h1,_⟩ := h1; exact ⟨d,h1⟩
theorem zmv {w : World} {loc : Loc} {nm s n cap : Nat} {b : Nat} {cur : Array Value} {e : TypeId} {fz : Nat × Nat} (hl : loc.m nm = .here b) (hw : w.heap[b]? = some (.cells cur e fz)) (hs : cap * s ≤ cur.size) (hn : n ≤ cap) (ht : cap ≤ maxLen) :
  R w loc (.ms nm s 0 n) (.slice (some ⟨b,0,none⟩) n cap) := by
 refine .ms _ _ _ _ _ ?_
 unfold Owns; rw [hl]
 exact ⟨0,cap,cur,e,fz,rfl,fun _ => by simp,hw,by simpa using hs,hn,ht⟩
theorem ygw {w0 : World} {E : Nat → Prop} {w : World} {loc : Loc} {H : Heap} {T : zac} (hT : TOk P T) (he : Env w0 E w loc) (hh : HR w loc H) {nm : Nat} (hf : loc.m nm = .free) {src dst : TypeId} {x : AV} {v : Value} (hx : R w loc x v) (hp : (zkb T src dst nm x H).p) :
  ∃ u w' loc',(convert src dst v).run P w = .ok u w' ∧ Post w0 E w loc (match x with | .ms _ _ _ _ => (match T dst with | some i => (match i.d with | .slice _ => true | _ => false) | none => false) | _ => false) nm (zkb T src dst nm x H).x (zkb T src dst nm x H).H u w' loc' := by
 unfold zkb at hp ⊢
 cases hs : T src with
 | none => simp [hs,bad] at hp
 | some si =>
  cases hdt : T dst with
  | none => simp [hs,hdt,bad] at hp
  | some di =>
   simp only [hs,hdt] at hp ⊢
   have hsd := (hT src si hs)
   have hd := (hT dst di hdt).d
   obtain ⟨sd,hsu⟩ := zij hsd
   cases hdd : di.d with
   | int k =>
    simp only [hdd] at hp ⊢
    rw [hdd] at hd
    have hd : P.underlying dst = some (.int k) := hd
    split at hp
    ·rename_i k' n
     obtain rfl := hx.wv
     exact ⟨.int k (k.wrap n),w,loc,by simp [convert,run_underlying hsu,run_underlying hd,Conv.intToInt],Post.pure (.w _ rfl) hh he⟩
    ·exact hp.elim
   | str =>
    simp only [hdd] at hp ⊢
    rw [hdd] at hd
    have hd : P.underlying dst = some .string := hd
    split at hp
    ·rename_i bs
     cases hx
     exact ⟨.string ⟨bs.toArray⟩,w,loc,by simp [convert,run_underlying hsu,run_underlying hd],Post.pure (.str bs) hh he⟩
    ·obtain ⟨h1,h2⟩ := hp
     obtain ⟨e,he1,he2⟩ := zgy hT h1
     have := zji (P := P) he1 he2 hd (zjf hh hx h2)
     refine ⟨_,w,loc,this,?_⟩
     cases x <;> exact Post.pure (.str _) hh he
   | slice e =>
    simp only [hdd] at hp ⊢
    split at hp
    ·rename_i bs
     obtain ⟨h1,h2⟩ := hp
     obtain ⟨e,he1,he2⟩ := zgy hT h1
     cases hx
     -- the capacity is drawn
     have hs1 : (ByteArray.mk bs.toArray).size = bs.length := by simp [ByteArray.size]
     obtain ⟨cap,hcap1,hcap2,hrun⟩ : ∃ cap,bs.length ≤ cap ∧ cap ≤ maxLen ∧ (choose (.appendCap bs.length 0 e)).run P w = .ok cap { w with drawn := w.drawn + 1 } := by
      refine ⟨bs.length + w.tape w.drawn (.appendCap bs.length 0 e) % (2 ^ 63 - bs.length),by omega,?_,by simp [choose,Sem.run,Question.forced,Question.cut]⟩
      have := Nat.mod_lt (w.tape w.drawn (.appendCap bs.length 0 e)) (show 0 < 2 ^ 63 - bs.length by omega)
      unfold maxLen; omega
     have hcells : ∀ arr : Array Value,arr = (bs.toArray.map fun b => (Value.int .u8 b.toNat)) ++ Array.replicate (cap - bs.length) (.int .u8 0) → arr.size = cap := by
      intro arr ha; rw [ha]; simp; omega
     generalize harr : (bs.toArray.map fun b => (Value.int .u8 b.toNat)) ++ Array.replicate (cap - bs.length) (.int .u8 0) = arr
     have hsz := hcells arr harr.symm
     refine ⟨.slice (some ⟨w.heap.size,0,none⟩) bs.length cap,{ w with drawn := w.drawn + 1,heap := w.heap.push (.cells arr e (cap,cap + 1)) },loc.set nm (.here w.heap.size),?_,?_⟩
     ·have h3 : (Conv.stringToBytes e ⟨bs.toArray⟩).run P w = .ok (.slice (some ⟨w.heap.size,0,none⟩) bs.length cap) { w with drawn := w.drawn + 1,heap := w.heap.push (.cells arr e (cap,cap + 1)) } := by
       unfold Conv.stringToBytes
       rw [hs1]
       simp only [Sem.run_bind,hrun,Result.andThen_ok]
       have hpush : ∀ W : World,(newRow e arr).run P W = .ok ⟨W.heap.size,0,none⟩ { W with heap := W.heap.push (.cells arr e (0,0)) } := fun W => rfl
       have hsh : ∀ W : World,(shape W.heap.size).run P { W with heap := W.heap.push (.cells arr e (0,0)) } = .ok (some (e,arr.size)) { W with heap := W.heap.push (.cells arr e (0,0)) } := fun W => by
        have hq : (W.heap.push (.cells arr e (0,0)))[W.heap.size]? = some (.cells arr e (0,0)) := Array.getElem?_push_size
        show Result.ok (World.shape? _ _) _ = _
        unfold World.shape?
        simp only [hq]
       have hfrz : ∀ W : World,(freeze ⟨W.heap.size,cap,none⟩ 1).run P { W with heap := W.heap.push (.cells arr e (0,0)) } = .ok () { W with heap := W.heap.push (.cells arr e (cap,cap + 1)) } := fun W => by
        show Result.ok () (World.freeze _ _ _) = _
        unfold World.freeze
        rw [if_neg (by decide)]
        congr 2
        apply Array.ext_getElem?
        intro i
        simp only [Array.getElem?_modify,Array.getElem?_push]
        by_cases hi : i = W.heap.size
        ·subst hi; simp
        ·simp [hi,Ne.symm hi]
       have hsh1 : (shape w.heap.size).run P { w with drawn := w.drawn + 1,heap := w.heap.push (.cells arr e (0,0)) } = .ok (some (e,arr.size)) { w with drawn := w.drawn + 1,heap := w.heap.push (.cells arr e (0,0)) } := hsh { w with drawn := w.drawn + 1 }
       have hfrz1 : (freeze ⟨w.heap.size,cap,none⟩ 1).run P { w with drawn := w.drawn + 1,heap := w.heap.push (.cells arr e (0,0)) } = .ok () { w with drawn := w.drawn + 1,heap := w.heap.push (.cells arr e (cap,cap + 1)) } := hfrz { w with drawn := w.drawn + 1 }
       simp only [harr]
       simp only [hpush,Result.andThen_ok,Sem.run_bind,markStringish,hsh1,hsz]
       simp only [hfrz1,Result.andThen_ok,Sem.run_pure]
      simp [convert,run_underlying hsu,run_underlying he1,run_underlying he2,h3]
     ·refine zgj (cur := arr) (e := e) (fz := (cap,cap + 1)) he hh hf ⟨rfl,rfl,rfl,rfl⟩ trivial (.inr ⟨by omega,rfl⟩) (fun j hj => ?_) (by simp [Blk.flat]; omega) (fun j h4 h5 => ?_) (fun w' loc' h6 h7 => zmv h6 h7 (by omega) hcap1 hcap2)
      ·subst harr
       by_cases hjb : j < bs.length
       ·rw [Array.getElem_append_left (by simpa using hjb)]; simp [one]
       ·rw [Array.getElem_append_right (by simpa using hjb)]; simp [one]
      ·have hjb : j < bs.length := by simpa [Blk.flat] using h4
       subst harr
       rw [Array.getElem_append_left (by simpa using hjb)]
       simp only [Blk.flat,List.getElem_map,Array.getElem_map,List.getElem_toArray]
       exact ⟨rfl,.w _ rfl⟩
    ·rename_i id s off len
     cases hl : look H id with
     | none => simp [hl,bad] at hp
     | some blk =>
      simp only [hl] at hp ⊢
      obtain ⟨h1,rfl,hpos,hsz1⟩ := hp
      obtain ⟨e,he1,he2⟩ := zgy hT h1
      have hx' := hx
      cases hx with
      | ms _ _ _ _ _ h =>
       have hfr : loc.m id ≠ .free := by intro e; simp [Owns,e] at h
       obtain ⟨hok,hnl | ⟨b,hb,hlies⟩⟩ := hh.get hl hfr
       ·omega
       ·obtain ⟨cur,e1,fz,hheap,hfz,hone,hlen,hr⟩ := hlies.lies (zlp hpos)
        unfold Owns at h; rw [hb] at h
        obtain ⟨o,cap,cur0,e0,fz0,rfl,ho,hh0,hsz0,hlc,htop⟩ := h
        -- the mark stands behind the cells
        obtain ⟨w',hw',hrun,hcell,hoth,hsize,ho1,ho2,ho3⟩ : ∃ w' fz',(convert src src (.slice (some ⟨b,o,none⟩) len cap)).run P w = .ok (.slice (some ⟨b,o,none⟩) len cap) w' ∧ (w'.heap[b]? = some (.cells cur e1 fz') ∧ (fz'.1 = fz'.2 ∨ (cur.size ≤ fz'.1 ∧ blk.size = 1))) ∧ (∀ c,c ≠ b → w'.heap[c]? = w.heap[c]?) ∧ w'.heap.size = w.heap.size ∧ w'.os = w.os ∧ w'.tape = w.tape ∧ w'.output = w.output := by
         refine ⟨w.freeze ⟨b,cur.size,none⟩ 1,if fz.1 == fz.2 then (cur.size,cur.size + 1) else (min fz.1 cur.size,max fz.2 (cur.size + 1)),?_,⟨?_,?_⟩,?_,?_,rfl,rfl,rfl⟩
         ·have hsh : (shape b).run P w = .ok (some (e1,cur.size)) w := by simp [shape,Sem.run,World.shape?,hheap]
          have hmk : (markStringish ⟨b,o,none⟩).run P w = .ok () (w.freeze ⟨b,cur.size,none⟩ 1) := by
           simp [markStringish,hsh,freeze,Sem.run]
          simp [convert,run_underlying he1,run_underlying he2,hmk]
         ·simp [World.freeze,Array.getElem?_modify,hheap]
         ·by_cases hq : fz.1 = fz.2
          ·simp [hq,hsz1]
          ·have : cur.size ≤ fz.1 := hfz.elim (fun h => (hq h).elim) (fun h => h.1)
           simp [hq,hsz1]; right; omega
         ·intro c hc; simp [World.freeze,Array.getElem?_modify,Ne.symm hc]
         ·simp [World.freeze]
        refine ⟨_,w',loc,hrun,?_⟩
        have hext : Ext (fun k => k = id) w loc w' loc := by
         refine ⟨by omega,fun _ _ _ => rfl,fun _ _ _ => .inl rfl,fun c hc hm => ⟨hoth c ?_,hm⟩,fun k c hk hC => hoth c ?_,fun c cur1 e1' fz1 hc1 => ?_⟩
         ·intro hcb; subst hcb; exact hm (.inr ⟨id,hb⟩)
         ·intro hcb; subst hcb; exact hC (he.inj k id c hk hb)
         ·by_cases hcb : c = b
          ·subst hcb
           rw [hheap] at hc1; injection hc1 with hc1; injection hc1 with h4 h5 h6; subst h4 h5 h6
           exact ⟨cur,_,hcell.1,rfl⟩
          ·exact ⟨cur1,fz1,(hoth c hcb).trans hc1,rfl⟩
        refine ⟨hx'.ext hext,?_,⟨ho1.trans he.os,ho2.trans he.tape,ho3.trans he.output,by have := he.size; omega,fun c hc hE => ?_,he.inj,fun i c hi => by have := he.lies i c hi; exact ⟨by omega,this.2⟩,he.bad⟩,⟨_,hext,fun h => by cases h⟩,fun _ h h' => (h' h).elim,rfl⟩
        ·intro k blk' hk
         rw [zax] at hk
         split at hk
         ·rename_i hi; subst hi
          injection hk with hk; subst hk
          unfold BlkR
          rw [hb]
          exact ⟨hok,.mkC ⟨cur,e1,_,hcell.1,hcell.2,hone,hlen,fun j a c => ⟨(hr j a c).1,(hr j a c).2.ext hext⟩⟩ (zlp hpos)⟩
         ·rename_i hi
          by_cases hfr2 : loc.m k = .free
          ·exact BlkR.free hfr2
          ·exact (hh k blk' hk).ext hext (Ne.symm hi) hfr2
        ·rw [hoth c ?_]
         ·exact he.same c hc hE
         ·intro hcb; subst hcb
          have := (he.lies id c hb).2
          rcases this with h | h
          ·omega
          ·exact hE h
    ·exact hp.elim
   | _ => simp [hdd,bad] at hp
end ops
end Ax
end Go.Proofs.Ytdfgfdcfcdgadaa
namespace Go.Proofs.Ytdfgfdcfcdgadaa
namespace Ax
section ops
variable {P : Program}
theorem zpw {n : Int} (h0 : 0 ≤ n) (h1 : n ≤ 1099511627776) : IntKind.i64.wrap n = n := by rw [IntKind.wrap_i64]; omega
theorem zpj {t e : TypeId} {te : TyI} (hd : P.underlying t = some (.slice e)) (hty : TyR P e te) {w : World} {k k' : IntKind} {n m : Int} (hs : 0 < te.size) (hb : 0 < te.bytes) (h0 : 0 ≤ n) (h1 : n ≤ m) (h2 : m * te.bytes ≤ 1099511627776) :
  ∃ z,(zeroValue e).run P w = .ok z w ∧ z.cells.toList.length = te.size ∧ (∀ w loc,CellsOf w loc te.zero z.cells.toList ∧ R w loc (asv te te.zero) z) ∧
   (Instr.makeSlice t (.int k n) (.int k' m)).run P w = .ok (.slice (some ⟨w.heap.size,0,none⟩) n.toNat m.toNat) { w with heap := w.heap.push (.cells ((Array.range (m.toNat * te.size)).map (z.cells[· % z.cells.size]!)) e) } := by
 obtain ⟨z,z1,z2,z3⟩ := zbk hty w
 refine ⟨z,z1,z2,z3,?_⟩
 obtain ⟨inf,zz,i1,i2,i3,i4,_⟩ := hty.info
 have hm : m ≤ 1099511627776 := by
  have : m * 1 ≤ m * te.bytes := Int.mul_le_mul_of_nonneg_left (by omega) (by omega)
  omega
 have w1 := zpw h0 (by omega)
 have w2 := zpw (n := m) (by omega) hm
 have hbm : (te.bytes : Int) * m ≤ 1099511627776 := by rw [Int.mul_comm]; exact h2
 have hroom : ¬ m.toNat * te.bytes > roomBytes := by
  have : ((m.toNat * te.bytes : Nat) : Int) ≤ 1099511627776 := by rw [Int.natCast_mul]; rw [Int.toNat_of_nonneg (by omega)]; exact h2
  unfold roomBytes; omega
 have hsz := zay hty w
 by_cases hz : m.toNat * te.size = 0
 ·simp [Instr.makeSlice,run_underlying hd,asInt,asIntOf,zcm i1,i3,w1,w2,askRoom,hroom,hsz,hz,newRow,newObj,Sem.run]
  have a1 : ¬ m < 0 := by omega
  have a2 : ¬ n < 0 := by omega
  have a3 : ¬ m < n := by omega
  have a4 : ¬ (281474976710656 : Int) < (te.bytes : Int) * m := by omega
  simp [a1,a2,a3,a4,Sem.run,Array.range_zero']
 ·simp [Instr.makeSlice,run_underlying hd,asInt,asIntOf,zcm i1,i3,w1,w2,askRoom,hroom,hsz,hz,newRow,newObj,Sem.run,z1]
  have a1 : ¬ m < 0 := by omega
  have a2 : ¬ n < 0 := by omega
  have a3 : ¬ m < n := by omega
  have a4 : ¬ (281474976710656 : Int) < (te.bytes : Int) * m := by omega
  simp [a1,a2,a3,a4,Sem.run,z1]
theorem zsj {w : World} {loc : Loc} {ls : List AV} {cs : Array Value} (h : CellsOf w loc ls cs.toList) : ∀ (j : Nat) (hj : j < cs.size),one cs[j] = true := fun j hj => h.one _ (by simp)
theorem zpq {w : World} {loc : Loc} {ls : List AV} {cs : Array Value} (h : CellsOf w loc ls cs.toList) (fl : List AV) (n : Nat) (hf : fl = ls.take n) : fl.length ≤ cs.size ∧ ∀ (j : Nat) (h1 : j < fl.length) (h2 : j < cs.size),fl[j].leaf = true ∧ R w loc fl[j] cs[j] := by
 subst hf
 have hl := h.len
 simp at hl
 refine ⟨by simp; omega,fun j h1 h2 => ?_⟩
 have := zhd h j (by simp at h1; omega) h2
 simpa using this
theorem ydo {te : TyI} (hz : te.zero = [.w (.int .u8 0)]) (hd : te.d = .int .u8) (n : Nat) : Blk.flat (.b (List.replicate n 0)) = (List.replicate n (asv te te.zero)).flatMap AV.leaves := by
 have : asv te te.zero = .w (.int .u8 0) := by simp [asv,hd,hz,TD.aggr,slot]
 rw [this]
 induction n with
 | zero => rfl
 | succ n ih => simp only [List.replicate_succ,List.flatMap_cons,← ih]; simp [Blk.flat,AV.leaves,byte]
theorem zyj {te : TyI} (hz : te.zero = [.w (.int .i64 0)]) (hd : te.d = .int .i64) (n : Nat) : Blk.flat (.i (List.replicate n 0)) = (List.replicate n (asv te te.zero)).flatMap AV.leaves := by
 have : asv te te.zero = .w (.int .i64 0) := by simp [asv,hd,hz,TD.aggr,slot]
 rw [this]
 induction n with
 | zero => rfl
 | succ n ih => simp only [List.replicate_succ,List.flatMap_cons,← ih]; simp [Blk.flat,AV.leaves,word]
theorem yey {w0 : World} {E : Nat → Prop} {w : World} {loc : Loc} {H : Heap} {T : zac} (hT : TOk P T) (he : Env w0 E w loc) (hh : HR w loc H) {nm : Nat} (hf : loc.m nm = .free) {t : TypeId} {l c : AV} {vl vc : Value} (hl : R w loc l vl) (hc : R w loc c vc) (hp : (aMake T nm t l c H).p) :
  ∃ u w' loc',(Instr.makeSlice t vl vc).run P w = .ok u w' ∧ Post w0 E w loc false nm (aMake T nm t l c H).x (aMake T nm t l c H).H u w' loc' := by
 unfold aMake at hp ⊢
 cases ht : T t with
 | none => simp [ht,bad] at hp
 | some ti =>
  simp only [ht] at hp ⊢
  have hd := (hT t ti ht).d
  cases hdd : ti.d with
  | slice e =>
   simp only [hdd] at hp ⊢
   rw [hdd] at hd
   have hd : P.underlying t = some (.slice e) := hd
   cases hte : T e with
   | none => simp [hte,bad] at hp
   | some te =>
    simp only [hte] at hp ⊢
    have hty := hT _ te hte
    split at hp
    ·rename_i k n k' m
     obtain rfl := hl.wv
     obtain rfl := hc.wv
     obtain ⟨⟨hs,hb,h0,h1,h2⟩,hz⟩ := hp
     obtain ⟨z,z1,z2,z3,hrun⟩ := zpj hd hty (w := w) (k := k) (k' := k') hs hb h0 h1 h2
     obtain ⟨hok,hco⟩ := zey (z3 w loc).1 z2 hs hty m.toNat
     have hsize : ((Array.range (m.toNat * te.size)).map (z.cells[· % z.cells.size]!)).size = m.toNat * te.size := by simp
     have hm : m ≤ 1099511627776 := by
      have : m * 1 ≤ m * te.bytes := Int.mul_le_mul_of_nonneg_left (by omega) (by omega)
      omega
     have hpre : (List.replicate n.toNat (asv te te.zero)).flatMap AV.leaves = (Blk.flat (.g te.size (List.replicate m.toNat (asv te te.zero)))).take (n.toNat * te.size) := by
      simp only [Blk.flat]
      rw [← zbl _ _ hok.2,List.take_replicate,Nat.min_eq_left (by omega)]
     have main : ∀ blk : Blk,blk.ok → blk.flat = (List.replicate n.toNat (asv te te.zero)).flatMap AV.leaves → blk.odd = none →
       Post w0 E w loc false nm (.ms nm te.size 0 n.toNat) (put H nm blk) (.slice (some ⟨w.heap.size,0,none⟩) n.toNat m.toNat) { w with heap := w.heap.push (.cells ((Array.range (m.toNat * te.size)).map (z.cells[· % z.cells.size]!)) e) } (loc.set nm (.here w.heap.size)) := by
      intro blk hbok hbf hbo
      obtain ⟨q1,q2⟩ := zpq hco blk.flat _ (hbf.trans hpre)
      have q3 : m.toNat * te.size ≤ ((Array.range (m.toNat * te.size)).map (z.cells[· % z.cells.size]!)).size := by rw [hsize]; exact Nat.le_refl _
      have q4 : n.toNat ≤ m.toNat := by omega
      have q5 : m.toNat ≤ maxLen := by unfold maxLen; omega
      exact zgj (e := e) (fz := (0,0)) he hh hf ⟨rfl,rfl,rfl,rfl⟩ hbok (.inl rfl) (zsj hco) q1 q2 (fun w' loc' h6 h7 => zmv h6 h7 q3 q4 q5) hbo
     refine ⟨_,_,loc.set nm (.here w.heap.size),hrun,?_⟩
     have gen := main (.g te.size (List.replicate n.toNat (asv te te.zero))) ⟨hs,fun x hx => by rw [List.eq_of_mem_replicate hx]; exact (zya hty (z3 w loc).1 z2).2.1⟩ rfl rfl
     obtain ⟨d8,hd8⟩ : ∃ d,te.d = d := ⟨_,rfl⟩
     rw [hd8] at hz ⊢
     cases d8 with
     | int kk =>
      cases kk with
      | u8 => exact main _ trivial (ydo hz hd8 _) rfl
      | i64 => exact main _ trivial (zyj hz hd8 _) rfl
      | _ => exact gen
     | _ => exact gen
    ·exact hp.elim
  | _ => simp [hdd,bad] at hp
theorem zde {t e : TypeId} {te : TyI} (hd : P.underlying t = some (.slice e)) (hty : TyR P e te) {w : World} {n : Nat} {z : Value} (hz : (zeroValue e).run P w = .ok z w) {pv : Array (Nat × Value)} {cs : Array Value} (hs : 0 < te.size) (hn : n * te.size ≤ 16777216)
  (hf : Instr.fill (fun i => some (i * te.size,te.size)) ((Array.range (n * te.size)).map (z.cells[· % z.cells.size]!)) pv.toList = some cs) :
  (Instr.buildSlice t n pv).run P w = .ok (.slice (some ⟨w.heap.size,0,none⟩) n n) { w with heap := w.heap.push (.cells cs e) } := by
 have hsz := zay hty w
 have hlim : ¬ n * te.size > 2 ^ 24 := by omega
 by_cases h0 : n * te.size = 0
 ·rw [h0] at hf
  have e0 : (Array.range 0).map (z.cells[· % z.cells.size]!) = (Array.range 0).map ((#[] : Array Value)[· % (#[] : Array Value).size]!) := by simp [Array.range_zero']
  rw [e0] at hf
  unfold Instr.buildSlice
  simp only [Sem.run_bind,run_underlying hd,Result.andThen_ok,hsz]
  rw [if_neg hlim,h0]
  simp only [if_pos,Sem.run_bind,Sem.run_pure,Result.andThen_ok,hf]
  rfl
 ·unfold Instr.buildSlice
  simp only [Sem.run_bind,run_underlying hd,Result.andThen_ok,hsz]
  rw [if_neg hlim]
  simp only [if_neg h0,Sem.run_bind,hz,Sem.run_pure,Result.andThen_ok,hf]
  rfl
theorem zov {w0 : World} {E : Nat → Prop} {w : World} {loc : Loc} {H : Heap} {T : zac} (hT : TOk P T) (he : Env w0 E w loc) (hh : HR w loc H) {nm : Nat} (hf : loc.m nm = .free) {t : TypeId} {n : Nat} {ps : List (Nat × AV)} {pv : Array (Nat × Value)} (hps : PR w loc ps pv.toList) (hp : (aBuildSlice T nm t n ps H).p) :
  ∃ u w' loc',(Instr.buildSlice t n pv).run P w = .ok u w' ∧ Post w0 E w loc false nm (aBuildSlice T nm t n ps H).x (aBuildSlice T nm t n ps H).H u w' loc' := by
 unfold aBuildSlice at hp ⊢
 cases ht : T t with
 | none => simp [ht,bad] at hp
 | some ti =>
  simp only [ht] at hp ⊢
  have hd := (hT t ti ht).d
  cases hdd : ti.d with
  | slice e =>
   simp only [hdd] at hp ⊢
   rw [hdd] at hd
   have hd : P.underlying t = some (.slice e) := hd
   cases hte : T e with
   | none => simp [hte,bad] at hp
   | some te =>
    simp only [hte] at hp ⊢
    have hty := hT _ te hte
    obtain ⟨z,z1,z2,z3⟩ := zbk hty w
    have fin : ∀ (blk : Blk) (cs : Array Value) (s : Nat),blk.ok → blk.size = s → blk.len = n → CellsOf w loc blk.flat cs.toList → n ≤ 16777216 → blk.odd = none →
      Post w0 E w loc false nm (.ms nm s 0 n) (put H nm blk) (.slice (some ⟨w.heap.size,0,none⟩) n n) { w with heap := w.heap.push (.cells cs e) } (loc.set nm (.here w.heap.size)) := by
     intro blk cs s hok hs hlen hco hn hbo
     have hl := hco.len
     have hfl := zbn hok
     rw [hs,hlen] at hfl
     simp at hl
     have q3 : n * s ≤ cs.size := by omega
     have q5 : n ≤ maxLen := by unfold maxLen; omega
     exact zgj (e := e) (fz := (0,0)) he hh hf ⟨rfl,rfl,rfl,rfl⟩ hok (.inl rfl) (zsj hco) (by omega) (fun j a b => zhd hco j a b) (fun w' loc' h6 h7 => zmv h6 h7 q3 (Nat.le_refl _) q5) hbo
    split at hp
    ·rename_i hd8
     obtain ⟨h1,h2,h3,h4⟩ := hp
     obtain ⟨hok,hco⟩ := zey (z3 w loc).1 z2 (by omega) hty n
     rw [show Blk.flat (.g te.size (List.replicate n (asv te te.zero))) = Blk.flat (.b (List.replicate n 0)) from (ydo h2 hd8 n).symm] at hco
     obtain ⟨cs',f1,f2⟩ := zoi ps pv.toList _ _ hps hco h4
     have hlen := zuz ps _ h4
     refine ⟨_,_,_,zde hd hty z1 (by omega) (by rw [h1]; omega) (by rw [h1]; rw [h1] at f1; exact f1),fin _ cs' 1 trivial rfl (by simp only [Blk.len]; rw [hlen]; simp) f2 h3 rfl⟩
    ·rename_i hd8
     obtain ⟨h1,h2,h3,h4⟩ := hp
     obtain ⟨hok,hco⟩ := zey (z3 w loc).1 z2 (by omega) hty n
     rw [show Blk.flat (.g te.size (List.replicate n (asv te te.zero))) = Blk.flat (.i (List.replicate n 0)) from (zyj h2 hd8 n).symm] at hco
     obtain ⟨cs',f1,f2⟩ := zog ps pv.toList _ _ hps hco h4
     have hlen := zux ps _ h4
     refine ⟨_,_,_,zde hd hty z1 (by omega) (by rw [h1]; omega) (by rw [h1]; rw [h1] at f1; exact f1),fin _ cs' 1 trivial rfl (by simp only [Blk.len]; rw [hlen]; simp) f2 h3 rfl⟩
    ·obtain ⟨h1,h3,h4⟩ := hp
     obtain ⟨hok,hco⟩ := zey (z3 w loc).1 z2 h1 hty n
     obtain ⟨cs',f1,f2,f3⟩ := zoh ps pv.toList _ _ hps hok hco h4
     have hlen := zuy ps _ h4
     have hn : n ≤ 16777216 := Nat.le_trans (Nat.le_mul_of_pos_right n h1) h3
     refine ⟨_,_,_,zde hd hty z1 h1 h3 f1,fin _ cs' te.size f3 rfl (by simp only [Blk.len]; rw [hlen]; simp) f2 hn rfl⟩
  | _ => simp [hdd,bad] at hp
end ops
end Ax
end Go.Proofs.Ytdfgfdcfcdgadaa
namespace Go.Proofs.Ytdfgfdcfcdgadaa
namespace Ax
section ops
variable {P : Program}
theorem zer {w : World} {loc : Loc} {H : Heap} (hh : HR w loc H) {id s i f : Nat} {v : Value} {x : Thing} (h : Points loc id s i f v) (hl : look H id = some (.o x)) : ∃ b,loc.m id = .here b ∧ v = refV b s i f ∧ x.says w loc b := by
 have hfr : loc.m id ≠ .free := by intro e; simp [Points,e] at h
 obtain ⟨hok,hn | ⟨b,hb,hlies⟩⟩ := hh.get hl hfr
 ·simp [Points,hn.1] at h
 ·unfold Points at h; rw [hb] at h
  exact ⟨b,hb,h,hlies.is rfl⟩
theorem zjn {T : zac} (hT : TOk P T) {t kt et : TypeId} (h : zsa T t = some (kt,et)) : P.underlying t = some (.map kt et) := by
 unfold zsa at h
 split at h
 ·rename_i ti ht
  have hd := (hT t ti ht).d
  split at h
  ·rename_i k e he
   injection h with h; injection h with h1 h2; subst h1 h2
   rw [he] at hd; exact hd
  ·cases h
 ·cases h
theorem zoe {T : zac} (hT : TOk P T) {w : World} {loc : Loc} {kt : TypeId} {k : AV} {vk : Value} (hk : R w loc k vk) : ∀ (es : List (AV × AV)) (ms : List MapEntry) (i : Nat),ms.map kvOf = es.map pp → ztm es → (zcv T kt k es i).1 →
  (Instr.findAsking kt vk ms i).run P w = .ok ((zcv T kt k es i).2.map fun p => (p.1,pv p.2)) w
 | [],[],i,_,_,_ => by simp [Instr.findAsking,zcv]
 | [],_ :: _,_,h,_,_ => by simp at h
 | _ :: _,[],_,h,_,_ => by simp at h
 | p :: es,m :: ms,i,h,hp,hf => by
  simp only [List.map_cons,List.cons.injEq] at h
  obtain ⟨h1,h2⟩ := h
  obtain ⟨f1,f2,f3⟩ := hf
  obtain ⟨p1,p2⟩ := hp p (by simp)
  have hkey : m.key = pv p.1 := congrArg Prod.fst h1
  have hval : m.val = pv p.2 := congrArg Prod.snd h1
  have he : (Op.equal kt vk (pv p.1)).run P w = .ok (eqV T 4 kt k p.1).2 w := zla hT 4 10000 (by omega) kt k p.1 vk _ hk (zix (zdm p1)) f1
  simp only [Instr.findAsking,zcv,Sem.run_bind,hkey,he,Result.andThen_ok]
  cases hc : (eqV T 4 kt k p.1).2 with
  | true => simp [hval]
  | false =>
   simp only [Bool.false_eq_true,if_false,cond_false]
   exact zoe hT hk es ms (i + 1) h2 (fun q hq => hp q (by simp [hq])) (f3 hc)
theorem yea (n : Nat) {d : TypeDesc} {t : TypeId} {x y : Value} {b : Bool} {w : World} (hd : P.underlying t = some d) (h : Instr.sameNow d x y = some b) : (Op.equalIn (n + 1) t x y).run P w = .ok b w := by
 unfold Instr.sameNow at h
 split at h
 ·rename_i k a k' b'
  split at h
  ·rename_i hk; subst hk
   injection h with h; subst h
   exact run_equalIn_int w n t k _ _ _ hd
  ·cases h
 ·injection h with h; subst h
  simp [Op.equalIn,run_underlying hd]
 ·injection h with h; subst h
  simp [Op.equalIn,run_underlying hd]
 ·cases h
theorem zys {d : TypeDesc} {t : TypeId} {x y : Value} {b : Bool} {w : World} (hd : P.underlying t = some d) (h : Instr.sameNow d x y = some b) : (Op.equal t x y).run P w = .ok b w := yea 9999 hd h
theorem zzr {T : zac} (hT : TOk P T) {w : World} {loc : Loc} {kt : TypeId} {d : TypeDesc} (hd : P.underlying kt = some d) {k : AV} {vk : Value} (hk : R w loc k vk) : ∀ (es : List (AV × AV)) (ms : List MapEntry) (i : Nat) (r : Option (Nat × Value)),ms.map kvOf = es.map pp → ztm es → (zcv T kt k es i).1 →
  Instr.findNow d vk ms i = some r → r = (zcv T kt k es i).2.map fun p => (p.1,pv p.2)
 | [],[],i,r,_,_,_,h => by simp [Instr.findNow] at h; simp [zcv,← h]
 | [],_ :: _,_,_,h,_,_,_ => by simp at h
 | _ :: _,[],_,_,h,_,_,_ => by simp at h
 | p :: es,m :: ms,i,r,h,hp,hf,hr => by
  simp only [List.map_cons,List.cons.injEq] at h
  obtain ⟨h1,h2⟩ := h
  obtain ⟨f1,f2,f3⟩ := hf
  obtain ⟨p1,p2⟩ := hp p (by simp)
  have hkey : m.key = pv p.1 := congrArg Prod.fst h1
  have hval : m.val = pv p.2 := congrArg Prod.snd h1
  have he : (Op.equal kt vk (pv p.1)).run P w = .ok (eqV T 4 kt k p.1).2 w := zla hT 4 10000 (by omega) kt k p.1 vk _ hk (zix (zdm p1)) f1
  simp only [Instr.findNow,hkey] at hr
  split at hr
  ·rename_i hs
   have h9 := zys (P := P) (w := w) hd hs
   rw [he] at h9; injection h9 with h9
   injection hr with hr; subst hr
   simp [zcv,h9,hval]
  ·rename_i hs
   have h9 := zys (P := P) (w := w) hd hs
   rw [he] at h9; injection h9 with h9
   simp only [zcv,h9,cond_false]
   exact zzr hT hd hk es ms (i + 1) r h2 (fun q hq => hp q (by simp [hq])) (f3 h9) hr
  ·cases hr
theorem zjh {T : zac} (hT : TOk P T) {w : World} {loc : Loc} {kt : TypeId} {k : AV} {vk : Value} (hk : R w loc k vk) {es : List (AV × AV)} {ms : List MapEntry} (h : ms.map kvOf = es.map pp) (hp : ztm es) (hf : (zcv T kt k es 0).1) {d : TypeDesc} (hd : P.underlying kt = some d) :
  (Instr.findKey kt vk ms).run P w = .ok ((zcv T kt k es 0).2.map fun p => (p.1,pv p.2)) w := by
 simp only [Instr.findKey,Sem.run_bind,run_underlying hd,Result.andThen_ok]
 split
 ·rename_i r hr
  have := zzr hT hd hk es ms 0 r h hp hf hr
  subst this
  simp
 ·exact zoe hT hk es ms 0 h hp hf
theorem zml {T : zac} (hT : TOk P T) {w : World} {loc : Loc} (e : Bool) {n d : Nat} {xs : List AV} {cs : Array Value} (hc : CellsOf w loc xs cs.toList)
  (ih : ∀ (t : TypeId) (x : AV) (v : Value),R w loc x v → (eqV T n t x x).1 → (Instr.checkKey e d t v).run P w = .ok () w) : ∀ (gs : List Field),(eqF (eqV T n) T (gs.map fun f => (f.offset,f.type)) xs xs).1 →
  (forIn gs PUnit.unit fun f __s => if f.name ≠ "_" then do
       let __do_lift ← part f.type cs f.offset
       Instr.checkKey e d f.type __do_lift
       pure (ForInStep.yield PUnit.unit)
      else pure (ForInStep.yield PUnit.unit) : Sem PUnit).run P w = .ok PUnit.unit w
 | [],_ => by simp
 | g :: gs,hp => by
  simp only [List.map_cons,eqF] at hp
  cases ht : T g.type with
  | none => simp [ht] at hp
  | some te =>
   simp only [ht] at hp
   obtain ⟨h1,_,h3,h4⟩ := hp
   obtain ⟨u,hu,hur,_⟩ := zkf (P := P) (H := []) (hT _ _ ht) hc h1
   have hk := ih _ _ _ hur h3
   have hr := zml hT e hc ih gs h4
   simp only [List.forIn_cons,Sem.run_bind,Sem.run_ite]
   split
   ·simp only [hu,Result.andThen_ok,hk,Sem.run_pure]
    exact hr
   ·simp only [Result.andThen_ok,Sem.run_pure]
    exact hr
theorem zft {T : zac} (hT : TOk P T) {w : World} {loc : Loc} (e : Bool) : ∀ (n d : Nat),n ≤ d → ∀ (t : TypeId) (x : AV) (v : Value),R w loc x v → (eqV T n t x x).1 → (Instr.checkKey e d t v).run P w = .ok () w
 | 0,_,_,_,_,_,_,hp => by simp [eqV] at hp
 | n + 1,0,hd,_,_,_,_,_ => by omega
 | n + 1,d + 1,hd,t,x,v,hx,hp => by
  unfold eqV at hp
  cases ht : T t with
  | none => simp [ht] at hp
  | some i =>
   simp only [ht] at hp
   have h1 := (hT t i ht).d
   cases hi : i.d with
   | int k =>
    rw [hi] at h1
    have h1 : P.underlying t = some (.int k) := h1
    simp [Instr.checkKey,run_underlying h1]
   | bool =>
    rw [hi] at h1
    have h1 : P.underlying t = some .bool := h1
    simp [Instr.checkKey,run_underlying h1]
   | str =>
    rw [hi] at h1
    have h1 : P.underlying t = some .string := h1
    simp [Instr.checkKey,run_underlying h1]
   | struct fs =>
    rw [hi] at h1
    obtain ⟨gs,hu,rfl⟩ := h1
    simp only [hi] at hp
    split at hp
    ·rename_i xs
     obtain ⟨cs,rfl,hc⟩ := zdh hx
     simp only [Instr.checkKey,Sem.run_bind,run_underlying hu,Result.andThen_ok]
     rw [← Array.forIn_toList]
     have hl := zml (P := P) (w := w) hT e hc (fun t x v a b => zft hT e n d (by omega) t x v a b) gs.toList hp
     simp only [hl,Result.andThen_ok,Sem.run_pure]
    ·exact hp.elim
   | slice e => simp [hi] at hp
   | ptr => simp [hi] at hp
   | arr n e => simp [hi] at hp
   | func => simp [hi] at hp
   | map k e => simp [hi] at hp
   | other => simp [hi] at hp
theorem zki {x : AV} (n : Nat) (h : zvv x = true) : Instr.sameBits n (pl x) (pl x) = true := by
 unfold zvv at h
 split at h <;> first | (cases n <;> simp [pl,Instr.sameBits,beq_toListBytes]; done) | cases h
theorem zkh (n : Nat) : ∀ (xs : List AV),xs.all zvv = true → (((xs.map pl).zip (xs.map pl)).all fun p => Instr.sameBits n p.1 p.2) = true
 | [],_ => rfl
 | x :: r,h => by
  simp only [List.all_cons,Bool.and_eq_true] at h
  simp only [List.map_cons,List.zip_cons_cons,List.all_cons,zki n h.1,Bool.true_and]
  exact zkh n r h.2
theorem zth {x : AV} (h : x.pureK = true) : Instr.sameBits 10000 (pv x) (pv x) = true := by
 cases x with
 | agg xs =>
  have := zkh 9999 xs h
  have h2 : ∀ n,Instr.sameBits (n + 1) (.agg (xs.map pl).toArray) (.agg (xs.map pl).toArray) = (((xs.map pl).zip (xs.map pl)).all fun p => Instr.sameBits n p.1 p.2) := fun n => by simp [Instr.sameBits]
  exact (h2 9999).trans this
 | _ => simp only [AV.pureK] at h; simp only [pv]; exact zki 10000 h
theorem zly {T : zac} {kt : TypeId} {k : AV} : ∀ (es : List (AV × AV)) (i j : Nat) (v : AV),(zcv T kt k es i).2 = some (j,v) → (zcv T kt k es i).1 → ∃ m,j = i + m ∧ es[m]? = some (k,v)
 | [],_,_,_,h,_ => by simp [zcv] at h
 | p :: es,i,j,v,h,hp => by
  obtain ⟨f1,f2,f3⟩ := hp
  simp only [zcv] at h
  cases hc : (eqV T 4 kt k p.1).2 with
  | true =>
   rw [hc] at h; simp only [cond_true] at h
   injection h with h; injection h with h1 h2
   refine ⟨0,h1.symm,?_⟩
   have := f2 hc
   obtain ⟨a,b⟩ := p
   simp only at this h2
   simp [this,h2]
  | false =>
   rw [hc] at h; simp only [cond_false] at h
   obtain ⟨m,h1,h2⟩ := zly es (i + 1) j v h (f3 hc)
   exact ⟨m + 1,by omega,by simpa using h2⟩
theorem yne {es : List (AV × AV)} {ms : List MapEntry} (h : ms.map kvOf = es.map pp) {m : Nat} {p : AV × AV} (hm : es[m]? = some p) : ∃ e,ms[m]? = some e ∧ e.key = pv p.1 ∧ e.val = pv p.2 := by
 have h1 := congrArg (fun l => l[m]?) h
 simp only [List.getElem?_map,hm,Option.map_some] at h1
 cases he : ms[m]? with
 | none => rw [he] at h1; cases h1
 | some e =>
  rw [he] at h1
  injection h1 with h1
  exact ⟨e,rfl,congrArg Prod.fst h1,congrArg Prod.snd h1⟩
theorem yeh {es : List (AV × AV)} (h : ztm es) {m : Nat} {p : AV × AV} (hm : es[m]? = some p) : p.1.pureK = true ∧ p.2.pure = true := h p (List.mem_of_getElem? hm)
theorem zcg {w : World} {b : Nat} {ob : Obj} (h : w.heap[b]? = some ob) (ho : Obj.odd ob = true := by rfl) : (getObj b).run P w = .ok ob w := by
 cases ob <;> first | (cases ho; done) | simp [getObj,Sem.run,h]
theorem zdl {w : World} {b : Nat} {ob ob' : Obj} (h : w.heap[b]? = some ob) (ho : Obj.odd ob = true := by rfl) : (setObj b ob').run P w = .ok () { w with heap := w.heap.setIfInBounds b ob' } := by
 cases ob <;> first | (cases ho; done) | simp [setObj,Sem.run,h]
theorem ygm {T : zac} {n : Nat} {kt : TypeId} {x y : AV} (h : (eqV T n kt x y).1) : ∃ ti,T kt = some ti := by
 cases n with
 | zero => simp [eqV] at h
 | succ n =>
  unfold eqV at h
  cases hc : T kt with
  | none => simp [hc] at h
  | some ti => exact ⟨ti,rfl⟩
theorem zfg {w0 : World} {E : Nat → Prop} {w : World} {loc : Loc} {H : Heap} {id b nm : Nat} {y : Thing} {ob ob' : Obj} {u : AV} {v : Value}
  (he : Env w0 E w loc) (hh : HR w loc H) (hb : loc.m id = .here b) (hw : w.heap[b]? = some ob) (hob : Obj.odd ob = true)
  (hy : y.says { w with heap := w.heap.setIfInBounds b ob' } loc b) (hx : ∀ w' loc',R w' loc' u v) :
  Post w0 E w loc true nm u (put H id (.o y)) v { w with heap := w.heap.setIfInBounds b ob' } loc :=
 yik he hh hb hw hob hy (fun c hc => by simp only; rw [Array.getElem?_setIfInBounds,if_neg (Ne.symm hc)]) (by simp) rfl rfl rfl hx
theorem zmd {w : World} {b : Nat} {ob ob' : Obj} (hw : w.heap[b]? = some ob) : ({ w with heap := w.heap.setIfInBounds b ob' } : World).heap[b]? = some ob' := by
 have hlt : b < w.heap.size := (Array.getElem?_eq_some_iff.1 hw).1
 simp [Array.getElem?_setIfInBounds,hlt]
theorem ych {ms : List MapEntry} {es : List (AV × AV)} (h : ms.map kvOf = es.map pp) {m : Nat} {k v : AV} (f : MapEntry → MapEntry) (hf : ∀ e,kvOf (f e) = pp (k,v)) : (ms.modify m f).map kvOf = (es.set m (k,v)).map pp := by
 refine List.ext_getElem? fun j => ?_
 have h1 := congrArg (fun l => l[j]?) h
 simp only [List.getElem?_map] at h1
 simp only [List.getElem?_map,List.getElem?_modify,List.getElem?_set]
 by_cases hj : m = j
 ·subst hj
  simp only [if_true]
  cases hm : ms[m]? with
  | none =>
   rw [hm] at h1
   have h2 : es[m]? = none := by
    cases he : es[m]? with
    | none => rfl
    | some p => rw [he] at h1; cases h1
   have h3 : ¬ m < es.length := by intro h4; rw [List.getElem?_eq_getElem h4] at h2; cases h2
   simp [h3]
  | some e =>
   have h2 : m < es.length := by
    rcases Nat.lt_or_ge m es.length with h4 | h4
    ·exact h4
    ·rw [hm,List.getElem?_eq_none h4] at h1; cases h1
   simp [h2,hf]
 ·simp only [if_neg hj]
  rw [show ((fun a => a) <$> ms[j]?) = ms[j]? from by cases ms[j]? <;> rfl]
  exact h1
theorem zow {ms : List MapEntry} {m : Nat} (f : MapEntry → MapEntry) (hf : ∀ e,(f e).born = e.born) : (ms.modify m f).map (·.born) = ms.map (·.born) := by
 refine List.ext_getElem? fun j => ?_
 simp only [List.getElem?_map,List.getElem?_modify]
 by_cases hj : m = j
 ·subst hj; simp only [if_true]; cases ms[m]? <;> simp [hf]
 ·simp only [if_neg hj]; cases ms[j]? <;> rfl
theorem yeg {es : List (AV × AV)} (h : ztm es) {m : Nat} {k v : AV} (hk : k.pureK = true) (hv : v.pure = true) : ztm (es.set m (k,v)) := by
 intro p hp
 rcases List.mem_or_eq_of_mem_set hp with h1 | rfl
 ·exact h p h1
 ·exact ⟨hk,hv⟩
theorem yji {es : List (AV × AV)} {ms : List MapEntry} {clk : Nat} (h : Ents es ms clk) {m : Nat} {k v : AV} (hk : k.pureK = true) (hv : v.pure = true) (f : MapEntry → MapEntry) (hf : ∀ e,kvOf (f e) = pp (k,v)) (hb : ∀ e,(f e).born = e.born) : Ents (es.set m (k,v)) (ms.modify m f) clk := by
 refine ⟨ych h.kv f hf,yeg h.pure hk hv,by rw [zow f hb]; exact h.nd,fun e he => ?_⟩
 have h1 : e.born ∈ ms.map (·.born) := by rw [← zow (m := m) f hb]; exact List.mem_map.2 ⟨e,he,rfl⟩
 obtain ⟨e',h2,h3⟩ := List.mem_map.1 h1
 rw [← h3]; exact h.old e' h2
theorem ygn {es : List (AV × AV)} {ms : List MapEntry} {clk : Nat} (h : Ents es ms clk) {k v : AV} (hk : k.pureK = true) (hv : v.pure = true) : Ents (es ++ [(k,v)]) (ms ++ [{ key := pv k,val := pv v,born := clk }]) (clk + 1) := by
 refine ⟨by simp [h.kv,kvOf,pp],?_,?_,?_⟩
 ·intro p hp
  rcases List.mem_append.1 hp with h1 | h1
  ·exact h.pure p h1
  ·simp at h1; subst h1; exact ⟨hk,hv⟩
 ·rw [List.map_append,List.nodup_append]
  refine ⟨h.nd,by simp,?_⟩
  intro a ha b hb
  simp at hb
  obtain ⟨e,he,rfl⟩ := List.mem_map.1 ha
  have := h.old e he
  omega
 ·intro e he
  rcases List.mem_append.1 he with h1 | h1
  ·have := h.old e h1; omega
  ·simp at h1; subst h1; simp
theorem zwm {T : zac} (hT : TOk P T) {w0 : World} {E : Nat → Prop} {w : World} {loc : Loc} {H : Heap} (he : Env w0 E w loc) (hh : HR w loc H) {nm : Nat} {t : TypeId} {x k v : AV} {vx vk vv : Value} (hx : R w loc x vx) (hk : R w loc k vk) (hv : R w loc v vv) (hp : (zgc T t x k v H).p) :
  ∃ w',(Instr.mapUpdate t vx vk vv).run P w = .ok () w' ∧ Post w0 E w loc true nm (zgc T t x k v H).x (zgc T t x k v H).H undef w' loc := by
 unfold zgc at hp ⊢
 split at hp
 ·rename_i kt et hm
  have hu := zjn hT hm
  split at hp
  ·rename_i id s i f
   split at hp
   ·rename_i es hl
    obtain ⟨rfl,hkp,hvp,hkk,hfd⟩ := hp
    cases hx with
    | rf _ _ _ _ _ h =>
     obtain ⟨b,hb,rfl,ms,clk,h1,h2⟩ := zer hh h hl
     have hvk := yhv (zdm hkp) hk
     have hvv := yhv hvp hv
     obtain ⟨ti,hti⟩ := ygm hkk
     obtain ⟨d,hd⟩ := zij (hT kt ti hti)
     have hck := zft (P := P) hT false 4 10000 (by omega) kt k vk hk hkk
     have hfk := zjh (P := P) hT hk h2.kv h2.pure hfd hd
     have hin : ∀ p,(zcv T kt k es 0).2 = some p → ∃ e,ms.toList[p.1]? = some e ∧ e.key = pv k := by
      intro p hp9
      obtain ⟨m,h9,hm9⟩ := zly es 0 p.1 p.2 hp9 hfd
      obtain rfl : p.1 = m := by omega
      obtain ⟨e,h3,h4,_⟩ := yne h2.kv hm9
      exact ⟨e,h3,h4⟩
     generalize (zcv T kt k es 0).2 = r at hfk hin ⊢
     cases r with
     | none =>
      refine ⟨_,?_,zfg (ob' := .map (ms.push { key := vk,val := vv,born := clk }) (clk + 1)) he hh hb h1 rfl ⟨_,_,zmd h1,?_⟩ (fun _ _ => .junk _)⟩
      ·simp [Instr.mapUpdate,run_underlying hu,refV,zcg h1,hck,hfk,zdl h1]
      ·have := ygn h2 hkp hvp
       simpa [putM,hvk,hvv] using this
     | some p =>
      obtain ⟨e,h3,h4⟩ := hin p rfl
      have hstay : ∀ W,(Instr.keyThatStays (pv k) (pv k)).run P W = .ok (pv k) W := fun W => by simp [Instr.keyThatStays,zth hkp]
      have h5 : ((ms[p.1]?).map (·.key)).getD vk = pv k := by
       have : ms[p.1]? = some e := by rw [← h3]; simp
       simp [this,h4]
      refine ⟨_,?_,zfg (ob' := .map (ms.modify p.1 fun e => { e with key := pv k,val := vv }) clk) he hh hb h1 rfl ⟨_,_,zmd h1,?_⟩ (fun _ _ => .junk _)⟩
      ·subst hvk
       simp only [Instr.mapUpdate,run_underlying hu,refV,if_true,zcg h1,hck,hfk,Sem.run_bind,Result.andThen_ok,Option.map_some,h5,hstay,zdl h1]
      ·have := yji h2 (m := p.1) hkp hvp (fun e => { e with key := pv k,val := vv }) (fun e => by simp [kvOf,pp,hvv]) (fun e => rfl)
       simpa [putM] using this
   ·exact hp.elim
  ·exact hp.elim
 ·exact hp.elim
theorem zxp {w : World} {loc : Loc} {H : Heap} (hh : HR w loc H) {x : AV} {vx : Value} (hx : R w loc x vx) (hp : (zjd x H).p) :
  ∃ u,(Instr.entry vx).run P w = .ok u w ∧ R w loc (zjd x H).x u ∧ (zjd x H).H = H := by
 unfold zjd at hp ⊢
 split at hp
 ·rename_i id s i f
  split at hp
  ·rename_i es p hl
   obtain ⟨⟨rfl,rfl⟩,hs⟩ := hp
   cases hx with
   | rf _ _ _ _ _ h =>
    obtain ⟨b,hb,rfl,m,ms,clk,seen,h1,h2,h3,h4⟩ := zer hh h hl
    obtain ⟨⟨hp1,hp2⟩,e,he,hback,hkv⟩ := h4.now p rfl
    have hf : ms.find? (·.born == e.born) = some e := by rw [← Array.find?_toList]; exact find_born e ms.toList h4.nd he
    refine ⟨.tuple #[e.key,e.val],?_,.tup [p.1,p.2] [e.key,e.val] rfl (fun j h5 h6 => ?_),rfl⟩
    ·rw [zbh hs]
     simp [Instr.entry,zcg h1,zcg h2,hback,hf]
    ·have : j = 0 ∨ j = 1 := by simp at h5; omega
     have e1 : e.key = pv p.1 := congrArg Prod.fst hkv
     have e2 : e.val = pv p.2 := congrArg Prod.snd hkv
     rcases this with rfl | rfl
     ·simp only [List.getElem_cons_zero,e1]; exact zix (zdm hp1)
     ·simp only [List.getElem_cons_succ,List.getElem_cons_zero,e2]; exact zix hp2
  ·exact hp.elim
 ·exact hp.elim
theorem ztv {w0 : World} {E : Nat → Prop} {w : World} {loc : Loc} {H : Heap} {wr : Bool} (he : Env w0 E w loc) (hh : HR w loc H) {nm : Nat} (hf : loc.m nm = .free) {t : TypeId} :
  ∃ u w' loc',(Instr.makeMap t none).run P w = .ok u w' ∧ Post w0 E w loc wr nm (.rf nm 0 0 0) (put H nm (.o (.mp []))) u w' loc' := by
 have hp : zli w { w with heap := w.heap.push (.map #[] 0) } (.map #[] 0) := ⟨rfl,rfl,rfl,rfl⟩
 refine ⟨_,_,_,?_,zln (s := 0) (x := .mp []) he hh hf hp ⟨#[],0,zim hp,⟨rfl,by intro p hp; simp at hp,by simp,by simp⟩⟩⟩
 simp [Instr.makeMap,newObj,Sem.run,refV]
theorem ztw {T : zac} (hT : TOk P T) {w : World} {loc : Loc} {H : Heap} (hh : HR w loc H) {t : TypeId} {x k : AV} {vx vk : Value} {ok : Bool} (hx : R w loc x vx) (hk : R w loc k vk) (hp : (zgd T t x k ok H).p) :
  ∃ u,(Instr.lookup t vx vk ok).run P w = .ok u w ∧ R w loc (zgd T t x k ok H).x u ∧ (zgd T t x k ok H).H = H := by
 unfold zgd at hp ⊢
 split at hp
 ·rename_i kt et hm
  have hu := zjn hT hm
  split at hp
  ·rename_i te hte
   split at hp
   ·rename_i id s i f
    split at hp
    ·rename_i es hl
     obtain ⟨rfl,hkp,hkk,hfd⟩ := hp
     cases hx with
     | rf _ _ _ _ _ h =>
      obtain ⟨b,hb,rfl,ms,clk,h1,h2⟩ := zer hh h hl
      have hvk := yhv (zdm hkp) hk
      obtain ⟨ti,hti⟩ := ygm hkk
      obtain ⟨d,hd⟩ := zij (hT kt ti hti)
      have hck := zft (P := P) hT (ms.isEmpty) 4 10000 (by omega) kt k vk hk hkk
      have hfk := zjh (P := P) hT hk h2.kv h2.pure hfd hd
      have hz := zbk (P := P) (hT et te hte) w
      obtain ⟨z,hz1,hz2,hz3⟩ := hz
      have hin : ∀ p,(zcv T kt k es 0).2 = some p → p.2.pure = true := by
       intro p hp9
       obtain ⟨m,_,hm9⟩ := zly es 0 p.1 p.2 hp9 hfd
       exact (yeh h2.pure hm9).2
      generalize (zcv T kt k es 0).2 = r at hfk hin ⊢
      cases r with
      | none =>
       cases ok with
       | true =>
        refine ⟨.tuple #[z,.bool false],?_,.tup [asv te te.zero,.w (.bool false)] [z,.bool false] rfl (fun j h3 h4 => ?_),rfl⟩
        ·simp [Instr.lookup,run_underlying hu,refV,zcg h1,hck,hfk,hz1]
        ·have : j = 0 ∨ j = 1 := by simp at h3; omega
         rcases this with rfl | rfl
         ·exact (hz3 w loc).2
         ·exact .w _ rfl
       | false =>
        refine ⟨z,?_,(hz3 w loc).2,rfl⟩
        simp [Instr.lookup,run_underlying hu,refV,zcg h1,hck,hfk,hz1]
      | some p =>
       have hpp := hin p rfl
       cases ok with
       | true =>
        refine ⟨.tuple #[pv p.2,.bool true],?_,.tup [p.2,.w (.bool true)] [pv p.2,.bool true] rfl (fun j h3 h4 => ?_),rfl⟩
        ·simp [Instr.lookup,run_underlying hu,refV,zcg h1,hck,hfk]
        ·have : j = 0 ∨ j = 1 := by simp at h3; omega
         rcases this with rfl | rfl
         ·exact zix hpp
         ·exact .w _ rfl
       | false =>
        refine ⟨pv p.2,?_,zix hpp,rfl⟩
        simp [Instr.lookup,run_underlying hu,refV,zcg h1,hck,hfk]
    ·exact hp.elim
   ·exact hp.elim
  ·exact hp.elim
 ·exact hp.elim
theorem yjg {C D : Nat → Prop} {w w1 w2 : World} {loc loc1 loc2 : Loc} (h : Ext C w loc w1 loc1) (k : Ext D w1 loc1 w2 loc2) (hD : ∀ id,¬ D id) : Ext C w loc w2 loc2 := by
 refine ⟨Nat.le_trans h.size k.size,fun id a c => ?_,fun id a c => ?_,fun b hb hm => ?_,fun id b a c => ?_,fun b cur e fz hc => ?_⟩
 ·have h1 := h.keep id a c
  rw [← h1]
  exact k.keep id (by rw [h1]; exact a) (hD id)
 ·rcases h.gone id a c with h1 | h1
  ·left; rw [← h1]; exact k.keep id (by rw [h1]; exact a) (hD id)
  ·right; rw [← h1]; exact k.keep id (by rw [h1]; simp) (hD id)
 ·obtain ⟨h1,h2⟩ := h.imm b hb hm
  obtain ⟨h3,h4⟩ := k.imm b (Nat.lt_of_lt_of_le hb h.size) h2
  exact ⟨h3.trans h1,h4⟩
 ·have h1 := h.own id b a c
  have h2 := h.keep id (by rw [a]; simp) c
  exact (k.own id b (h2.trans a) (hD id)).trans h1
 ·obtain ⟨c1,f1,h1,h2⟩ := h.shape b cur e fz hc
  obtain ⟨c2,f2,h3,h4⟩ := k.shape b c1 e f1 h1
  exact ⟨c2,f2,h3,h4.trans h2⟩
theorem kill {w0 : World} {E : Nat → Prop} {w : World} {loc : Loc} {H : Heap} (he : Env w0 E w loc) (hh : HR w loc H) {id b : Nat} (hb : loc.m id = .here b) :
  Env w0 E w (loc.set id .dead) ∧ HR w (loc.set id .dead) (drop H id) ∧ Ext (fun k => k = id) w loc w (loc.set id .dead) := by
 have hset : ∀ {k c},(loc.set id .dead).m k = .here c → loc.m k = .here c := by
  intro k c h
  by_cases hk : k = id
  ·subst hk; rw [Loc.set_same] at h; cases h
  ·rw [Loc.set_other _ _ hk] at h; exact h
 have hE : Ext (fun k => k = id) w loc w (loc.set id .dead) := by
  refine ⟨Nat.le_refl _,fun k _ hk => Loc.set_other _ _ hk,fun k _ hk => ?_,fun c hc hm => ⟨rfl,fun hM => hm ?_⟩,fun _ _ _ _ => rfl,fun c cur e fz hc => ⟨cur,fz,hc,rfl⟩⟩
  ·subst hk; right; exact Loc.set_same _ _ _
  ·rcases hM with hM | ⟨k,hM⟩
   ·exact .inl hM
   ·exact .inr ⟨k,hset hM⟩
 refine ⟨⟨he.os,he.tape,he.output,he.size,he.same,fun i j c h1 h2 => he.inj i j c (hset h1) (hset h2),fun i c h1 => he.lies i c (hset h1),he.bad⟩,fun k blk hk => ?_,hE⟩
 rw [zfh] at hk
 split at hk
 ·cases hk
 ·rename_i hne
  by_cases hfr : loc.m k = .free
  ·exact BlkR.free (by rw [Loc.set_other _ _ (Ne.symm hne)]; exact hfr)
  ·exact (hh k blk hk).ext hE (Ne.symm hne) hfr
theorem zkz {α β : Type} (f : α → β) : ∀ (l : List α) (m : Nat),(l.eraseIdx m).map f = (l.map f).eraseIdx m
 | [],_ => by simp
 | x :: r,0 => by simp
 | x :: r,m + 1 => by simp [zkz f r m]
theorem yex {ms : List MapEntry} {es : List (AV × AV)} (h : ms.map kvOf = es.map pp) (m : Nat) : (ms.eraseIdx m).map kvOf = (es.eraseIdx m).map pp := by
 rw [zkz,zkz,h]
theorem ycx {es : List (AV × AV)} {ms : List MapEntry} {clk : Nat} (h : Ents es ms clk) (m : Nat) : Ents (es.eraseIdx m) (ms.eraseIdx m) clk := by
 refine ⟨yex h.kv m,fun p hp => h.pure p (List.mem_of_mem_eraseIdx hp),?_,fun e he => h.old e (List.mem_of_mem_eraseIdx he)⟩
 rw [zkz]
 exact List.Nodup.sublist (List.eraseIdx_sublist _ _) h.nd
theorem zxq {T : zac} (hT : TOk P T) {w0 : World} {E : Nat → Prop} {w : World} {loc : Loc} {H : Heap} (he : Env w0 E w loc) (hh : HR w loc H) {nm : Nat} {t u : TypeId} {ts : List TypeId} {x k : AV} {vx vk : Value} (hx : R w loc x vx) (hk : R w loc k vk) (hp : (zge T t x k H).p) :
  ∃ v w',(Builtin.delete_ (t :: ts).toArray u #[vx,vk]).run P w = .ok v w' ∧ Post w0 E w loc true nm (zge T t x k H).x (zge T t x k H).H v w' loc := by
 unfold zge at hp ⊢
 split at hp
 ·rename_i kt et hm
  have hu := zjn hT hm
  split at hp
  ·rename_i id s i f
   split at hp
   ·rename_i es hl
    obtain ⟨rfl,hkp,hkk,hfd⟩ := hp
    cases hx with
    | rf _ _ _ _ _ h =>
     obtain ⟨b,hb,rfl,ms,clk,h1,h2⟩ := zer hh h hl
     obtain ⟨ti,hti⟩ := ygm hkk
     obtain ⟨d,hd⟩ := zij (hT kt ti hti)
     have hck := zft (P := P) hT ms.isEmpty 4 10000 (by omega) kt k vk hk hkk
     have hfk := zjh (P := P) hT hk h2.kv h2.pure hfd hd
     generalize (zcv T kt k es 0).2 = r at hfk ⊢
     cases r with
     | none =>
      refine ⟨.tuple #[],_,?_,zfg (ob' := .map ms clk) he hh hb h1 rfl ⟨_,_,zmd h1,?_⟩ (fun _ _ => .junk _)⟩
      ·simp [Builtin.delete_,run_underlying hu,refV,zcg h1,hck,hfk,zdl h1]
      ·exact h2
     | some p =>
      refine ⟨.tuple #[],_,?_,zfg (ob' := .map (ms.eraseIdxIfInBounds p.1) clk) he hh hb h1 rfl ⟨_,_,zmd h1,?_⟩ (fun _ _ => .junk _)⟩
      ·simp [Builtin.delete_,run_underlying hu,refV,zcg h1,hck,hfk,zdl h1]
      ·have := ycx h2 p.1
       simpa [cutM] using this
   ·exact hp.elim
  ·exact hp.elim
 ·exact hp.elim
theorem yby {w0 : World} {E : Nat → Prop} {w : World} {loc : Loc} {H : Heap} {T : zac} {wr : Bool} (hT : TOk P T) (he : Env w0 E w loc) (hh : HR w loc H) {nm : Nat} (hf : loc.m nm = .free) {t : TypeId} {x : AV} {v : Value} (hx : R w loc x v) (hp : (zhk T nm t x H).p) (hw : zcp T t = false → wr = true) :
  ∃ u w' loc',(Instr.range t v).run P w = .ok u w' ∧ Post w0 E w loc wr nm (zhk T nm t x H).x (zhk T nm t x H).H u w' loc' := by
 unfold zhk at hp ⊢
 cases ht : T t with
 | none => simp [ht,bad] at hp
 | some ti =>
  simp only [ht] at hp ⊢
  have hd := (hT t ti ht).d
  cases hdd : ti.d with
  | str =>
   simp only [hdd] at hp ⊢
   rw [hdd] at hd
   have hd : P.underlying t = some .string := hd
   split at hp
   ·rename_i bs
    cases hx
    refine ⟨.pointer (some ⟨w.heap.size,0,none⟩),{ w with heap := w.heap.push (.stringIter ⟨bs.toArray⟩ 0) },loc.set nm (.here w.heap.size),?_,zln (s := 1) (x := .it bs 0) (ob := .stringIter ⟨bs.toArray⟩ 0) he hh hf ⟨rfl,rfl,rfl,rfl⟩ (by show (w.heap.push _)[w.heap.size]? = _; simp)⟩
    simp [Instr.range,run_underlying hd,newObj,Sem.run]
   ·exact hp.elim
  | map k e =>
   simp only [hdd] at hp ⊢
   rw [hdd] at hd
   have hd : P.underlying t = some (.map k e) := hd
   obtain rfl : wr = true := hw (by simp [zcp,ht,hdd])
   split at hp
   ·rename_i id s i f
    split at hp
    ·rename_i es hl
     obtain rfl := hp
     cases hx with
     | rf _ _ _ _ _ h =>
      obtain ⟨b,hb,rfl,ms,clk,h1,h2⟩ := zer hh h hl
      have hid : nm ≠ id := by rintro rfl; rw [hb] at hf; cases hf
      obtain ⟨k1,k2,k3⟩ := kill he hh hb
      have hpu : zli w { w with heap := w.heap.push (.mapIter (some b) clk #[] clk) } (.mapIter (some b) clk #[] clk) := ⟨rfl,rfl,rfl,rfl⟩
      have hlt : b < w.heap.size := (Array.getElem?_eq_some_iff.1 h1).1
      have hf1 : (loc.set id .dead).m nm = .free := by rw [Loc.set_other _ _ hid]; exact hf
      have hnm : ¬ Mut ((loc.set id .dead).set nm (.here w.heap.size)) b := by
       rw [zwx hf1]
       rintro (hM | hM)
       ·rcases hM with hM | ⟨j,hM⟩
        ·rcases (he.lies id b hb).2 with h5 | h5
         ·have := (he.bad b hM).1; omega
         ·exact (he.bad b hM).2 h5
        ·by_cases hj : j = id
         ·subst hj; rw [Loc.set_same] at hM; cases hM
         ·rw [Loc.set_other _ _ hj] at hM; exact hj (he.inj j id b hM hb)
       ·omega
      have hpost := zln (wr := false) (s := 1) (x := .mi es none) k1 k2 hf1 hpu ⟨b,ms,clk,#[],zim hpu,(zbp hpu hlt).trans h1,hnm,⟨by rw [List.filter_eq_self.2 (by simp)]; exact h2.kv,h2.pure,h2.nd,h2.old,fun p hp => by cases hp⟩⟩
      refine ⟨_,_,_,?_,hpost.r,hpost.h,hpost.env,?_,fun k h6 h7 => ?_,hpost.bad⟩
      ·simp [Instr.range,run_underlying hd,newObj,Sem.run,refV,zcg h1]
      ·obtain ⟨C,h6,h7⟩ := hpost.ext
       exact ⟨_,yjg k3 h6 (h7 rfl),fun h8 => by cases h8⟩
      ·refine hpost.fresh k ?_ h7
       by_cases hk : k = id
       ·subst hk; rw [hb] at h6; cases h6
       ·rw [Loc.set_other _ _ hk]; exact h6
    ·exact hp.elim
   ·exact hp.elim
  | _ => simp [hdd,bad] at hp
theorem yer {w0 : World} {E : Nat → Prop} {w : World} {loc : Loc} {H : Heap} (he : Env w0 E w loc) (hh : HR w loc H) {nm : Nat} {ty : TypeId} {x : AV} {b : Bool} {v : Value} (hx : R w loc x v) (hp : (zpt x b H).p) :
  ∃ u w',(Instr.next v b ty).run P w = .ok u w' ∧ Post w0 E w loc true nm (zpt x b H).x (zpt x b H).H u w' loc := by
 unfold zpt at hp ⊢
 split at hp
 ·rename_i id s i f
  split at hp
  ·rename_i bs pos hl
   cases hx with
   | rf _ _ _ _ _ h =>
     obtain ⟨c,hc,rfl,hheap⟩ := zer hh h hl
     have hs : s ≠ 0 := by
      cases hd : decide (pos < bs.length) <;> (rw [hd] at hp; exact hp.2)
     rw [zbh hs]
     have hheap : w.heap[c]? = some (.stringIter ⟨bs.toArray⟩ pos) := hheap
     have hlt : c < w.heap.size := (Array.getElem?_eq_some_iff.1 hheap).1
     have hget : (getObj c).run P w = .ok (.stringIter ⟨bs.toArray⟩ pos) w := by
      simp [getObj,Sem.run,hheap]
     have hsize : (ByteArray.mk bs.toArray).size = bs.length := by simp [ByteArray.size]
     cases hd : decide (pos < bs.length) with
     | false =>
      rw [hd] at hp
      simp only [cond_false] at hp ⊢
      obtain ⟨⟨rfl,rfl⟩,hs0⟩ := hp
      have hnlt : ¬ pos < bs.length := of_decide_eq_false hd
      refine ⟨.tuple #[.bool false],w,?_,Post.pure ?_ hh he⟩
      ·simp [Instr.next,hget,hsize,hnlt]
      ·exact .tup [.w (.bool false)] [.bool false] rfl (fun j h1 h2 => by
        have : j = 0 := by simp at h1; omega
        subst this; exact .w _ rfl)
     | true =>
      rw [hd] at hp
      simp only [cond_true] at hp ⊢
      obtain ⟨⟨rfl,rfl⟩,hs0⟩ := hp
      have hplt : pos < bs.length := of_decide_eq_true hd
      refine ⟨.tuple #[.bool true,.int .i64 pos,.int .i32 (decR bs pos)],{ w with heap := w.heap.setIfInBounds c (.stringIter ⟨bs.toArray⟩ (pos + decW bs pos)) },?_,zfg (y := .it bs (pos + decW bs pos)) he hh hc hheap rfl ?_ ?_⟩
      ·simp [Instr.next,hget,hsize,hplt,zdl hheap,goInt,decR,decW]
      ·exact zmd hheap
      ·intro w1 loc1
       exact .tup [.w (.bool true),.w (.int .i64 pos),.w (.int .i32 (decR bs pos))] [.bool true,.int .i64 pos,.int .i32 (decR bs pos)] rfl (fun j h1 h2 => by
        have : j = 0 ∨ j = 1 ∨ j = 2 := by simp at h1; omega
        rcases this with rfl | rfl | rfl <;> exact .w _ rfl)
  ·exact hp.elim
 ·rename_i id s i f
  split at hp
  ·rename_i now hl
   obtain ⟨⟨rfl,rfl⟩,hs⟩ := hp
   cases hx with
   | rf _ _ _ _ _ h =>
    obtain ⟨c,hc,rfl,m,ms,clk,seen,h1,h2,h3,h4⟩ := zer hh h hl
    rw [zbh hs,show 0 * s + 0 = 0 from by simp]
    have hL : (ms.filter fun e => !seen.contains e.born) = #[] := by
     have := h4.kv
     rw [List.map_nil,List.map_eq_nil_iff] at this
     rw [← Array.toList_inj,Array.toList_filter]; exact this
    refine ⟨.tuple #[.bool false],w,?_,Post.pure ?_ hh he⟩
    ·have g1 := zcg (P := P) h1
     have g2 := zcg (P := P) h2
     simp only [Instr.next,Sem.run_bind,g1,g2,Result.andThen_ok,next_test_false seen ms clk clk h4.old (Nat.le_refl _),Bool.false_eq_true,if_false,hL]
     simp [choose,Sem.run,Question.forced]
    ·exact .tup [.w (.bool false)] [.bool false] rfl (fun j h5 h6 => by
      have : j = 0 := by simp at h5; omega
      subst this; exact .w _ rfl)
  ·rename_i p now hl
   obtain ⟨⟨rfl,rfl⟩,hs⟩ := hp
   cases hx with
   | rf _ _ _ _ _ h =>
    obtain ⟨c,hc,rfl,m,ms,clk,seen,h1,h2,h3,h4⟩ := zer hh h hl
    rw [zbh hs,show 0 * s + 0 = 0 from by simp]
    obtain ⟨e,hLl,hke⟩ : ∃ e,(ms.toList.filter fun e => !seen.contains e.born) = [e] ∧ kvOf e = pp p := by
     have := h4.kv
     rw [List.map_cons,List.map_nil] at this
     obtain ⟨e,l,h5,h6,h7⟩ := List.map_eq_cons_iff.1 this
     rw [List.map_eq_nil_iff] at h7; subst h7
     exact ⟨e,h5,h6⟩
    have hL : (ms.filter fun e => !seen.contains e.born) = #[e] := by
     rw [← Array.toList_inj,Array.toList_filter]; exact hLl
    have heL : e ∈ ms.toList.filter fun e => !seen.contains e.born := by rw [hLl]; simp
    have hem : e ∈ ms.toList := (List.mem_filter.1 heL).1
    have heb := h4.old e hem
    have hnb : ¬ clk ≤ e.born := by omega
    have hcm : m ≠ c := by rintro rfl; exact h3 (.inr ⟨id,hc⟩)
    refine ⟨.tuple #[.bool true,e.key,e.val],_,?_,zfg (ob' := .mapIter (some m) clk (seen.push e.born) clk) he hh hc h1 rfl ⟨m,ms,clk,_,zmd h1,?_,h3,?_⟩ ?_⟩
    ·have g1 := zcg (P := P) h1
     have g2 := zcg (P := P) h2
     simp only [Instr.next,Sem.run_bind,g1,g2,Result.andThen_ok,next_test_false seen ms clk clk h4.old (Nat.le_refl _),Bool.false_eq_true,if_false,hL]
     simp [choose,Sem.run,Question.forced,heb,hnb,zdl h1]
    ·simp only
     rw [Array.getElem?_setIfInBounds,if_neg (Ne.symm hcm)]; exact h2
    ·refine ⟨?_,by intro q hq; simp at hq,h4.nd,h4.old,fun q hq => ?_⟩
     ·have h5 : (ms.toList.filter fun x => !(seen.push e.born).contains x.born) = (ms.toList.filter fun x => !seen.contains x.born).filter fun x => !(x.born == e.born) := by
       rw [List.filter_filter]
       refine List.filter_congr fun x _ => ?_
       rw [contains_push,Bool.not_or,Bool.and_comm]
      rw [h5,hLl]; simp
     ·injection hq with hq; subst hq
      have h6 := h4.pure p (by simp)
      exact ⟨h6,e,hem,by simp,hke⟩
    ·have h6 := h4.pure p (by simp)
     have e1 : e.key = pv p.1 := congrArg Prod.fst hke
     have e2 : e.val = pv p.2 := congrArg Prod.snd hke
     intro w1 loc1
     rw [e1,e2]
     exact .tup [.w (.bool true),p.1,p.2] [.bool true,pv p.1,pv p.2] rfl (fun j h7 h8 => by
      have : j = 0 ∨ j = 1 ∨ j = 2 := by simp at h7; omega
      rcases this with rfl | rfl | rfl
      ·exact .w _ rfl
      ·exact zix (zdm h6.1)
      ·exact zix h6.2)
  ·exact hp.elim
 ·exact hp.elim
end ops
end Ax
end Go.Proofs.Ytdfgfdcfcdgadaa
