/- That what is said of abstract values holds of the model: numbers, texts, pointers; parts of values. -/
import Derived.Test.YtgkkgbomhfdbkaaAxI
import Derived.Laws.StructEq
namespace Go.Proofs.Ytgkkgbomhfdbkaa
namespace Ax
set_option linter.unusedSimpArgs false
set_option linter.unusedVariables false
section ops
variable {P : Program}

theorem beq_dec {α : Type} [DecidableEq α] [BEq α] [LawfulBEq α] (a b : α) : (a == b) = decide (a = b) := by
  rw [Bool.eq_iff_iff]; simp

theorem bits_and (k : IntKind) (x y : Int) (w : World) : (Op.intBits .and k x y).run P w = .ok (.int k (bits .and k x y)) w := by rw [intBits_and]; rfl

theorem int_sound (op : BinOp) (t : TypeId) (k k' : IntKind) (a b : Int) (w : World) (hp : (aInt op k a k' b).1) :
    (binOp op t (.int k a) (.int k' b)).run P w = .ok (aInt op k a k' b).2 w ∧ one (aInt op k a k' b).2 = true := by
  cases op with
  | shl =>
    have h0 : ¬ b < 0 := by simp [aInt] at hp; omega
    refine ⟨?_, rfl⟩
    simp [binOp, Op.shift, h0, aInt]
  | shr =>
    have h0 : ¬ b < 0 := by simp [aInt] at hp; omega
    refine ⟨?_, rfl⟩
    have hpw : (0 : Int) ≤ 2 ^ min b.toNat k.bits := Int.pow_nonneg (by decide)
    simp [binOp, Op.shift, h0, aInt, Int.fdiv_eq_ediv_of_nonneg _ hpw]
  | quo =>
    obtain ⟨rfl, h0⟩ := hp
    refine ⟨?_, rfl⟩
    simp [binOp, Op.intDiv, h0, aInt]
  | rem =>
    obtain ⟨rfl, h0⟩ := hp
    refine ⟨?_, rfl⟩
    simp [binOp, Op.intDiv, h0, aInt]
  | and => obtain rfl := hp; refine ⟨?_, rfl⟩; rw [binOp_and, intBits_and]; rfl
  | or => obtain rfl := hp; refine ⟨?_, rfl⟩; rw [binOp_or, intBits_or]; rfl
  | xor => obtain rfl := hp; refine ⟨?_, rfl⟩; rw [binOp_xor, intBits_xor]; rfl
  | andNot => obtain rfl := hp; refine ⟨?_, rfl⟩; rw [binOp_andNot, intBits_andNot]; rfl
  | add => obtain rfl := hp; refine ⟨?_, rfl⟩; simp [binOp, Op.intArith, aInt]
  | sub => obtain rfl := hp; refine ⟨?_, rfl⟩; simp [binOp, Op.intArith, aInt]
  | mul => obtain rfl := hp; refine ⟨?_, rfl⟩; simp [binOp, Op.intArith, aInt]
  | eql => obtain rfl := hp; refine ⟨?_, rfl⟩; simp [binOp, Op.intCmp, aInt, beq_dec]
  | neq => obtain rfl := hp; refine ⟨?_, rfl⟩; simp [binOp, Op.intCmp, aInt, bne, beq_dec]
  | lss => obtain rfl := hp; refine ⟨?_, rfl⟩; simp [binOp, Op.intCmp, aInt]
  | leq => obtain rfl := hp; refine ⟨?_, rfl⟩; simp [binOp, Op.intCmp, aInt]
  | gtr => obtain rfl := hp; refine ⟨?_, rfl⟩; simp [binOp, Op.intCmp, aInt]
  | geq => obtain rfl := hp; refine ⟨?_, rfl⟩; simp [binOp, Op.intCmp, aInt]

theorem str_sound (op : BinOp) (t : TypeId) (a b : List UInt8) (w : World) (loc : Loc) (hp : (aStr op a b).1) :
    ∃ v, (binOp op t (.string ⟨a.toArray⟩) (.string ⟨b.toArray⟩)).run P w = .ok v w ∧ R w loc (aStr op a b).2 v := by
  have hl : ∀ l : List UInt8, (ByteArray.mk l.toArray).toList = l := fun l => ByteArray.toList_mk l
  cases op with
  | add =>
    simp only [aStr] at hp ⊢
    have hm : IntKind.i64.max = 9223372036854775807 := by decide
    refine ⟨_, ?_, .str (a ++ b)⟩
    have h1 : ¬ (((ByteArray.mk a.toArray).size + (ByteArray.mk b.toArray).size : Nat) : Int) > IntKind.i64.max := by
      rw [hm]; simp [ByteArray.size]; omega
    simp only [binOp, Op.stringOp]
    rw [if_neg h1]
    simp [ByteArray.append, ByteArray.ext_iff]
  | eql => exact ⟨_, by simp [binOp, Op.stringOp, hl, beq_dec]; (try rfl), .w _ rfl⟩
  | neq => exact ⟨_, by simp [binOp, Op.stringOp, hl, beq_dec]; (try rfl), .w _ rfl⟩
  | lss => exact ⟨_, by simp [binOp, Op.stringOp, hl, beq_dec]; (try rfl), .w _ rfl⟩
  | leq => exact ⟨_, by simp [binOp, Op.stringOp, hl, beq_dec]; (try rfl), .w _ rfl⟩
  | gtr => exact ⟨_, by simp [binOp, Op.stringOp, hl, beq_dec]; (try rfl), .w _ rfl⟩
  | geq => exact ⟨_, by simp [binOp, Op.stringOp, hl, beq_dec]; (try rfl), .w _ rfl⟩
  | _ => exact hp.elim

theorem isPtr_sound {T : Types} (hT : TOk P T) {t : TypeId} (h : isPtr T t) : ∃ e, P.underlying t = some (.pointer e) := by
  unfold isPtr at h
  split at h
  · rename_i ti ht
    split at h
    · rename_i hd
      have := (hT t ti ht).d
      rw [hd] at this; exact this
    · exact h.elim
  · exact h.elim

theorem isBool_sound {T : Types} (hT : TOk P T) {t : TypeId} (h : isBool T t) : P.underlying t = some .bool := by
  unfold isBool at h
  split at h
  · rename_i ti ht
    split at h
    · rename_i hd
      have := (hT t ti ht).d
      rw [hd] at this; exact this
    · exact h.elim
  · exact h.elim

theorem isBytes_sound {T : Types} (hT : TOk P T) {t : TypeId} (h : isBytes T t) : ∃ e, P.underlying t = some (.slice e) ∧ P.underlying e = some (.int .u8) := by
  unfold isBytes at h
  split at h
  · rename_i ti ht
    split at h
    · rename_i e hd
      split at h
      · rename_i te hte
        split at h
        · rename_i hd2
          have h1 := (hT t ti ht).d
          have h2 := (hT _ te hte).d
          rw [hd] at h1; rw [hd2] at h2
          exact ⟨_, h1, h2⟩
        · exact h.elim
      · exact h.elim
    · exact h.elim
  · exact h.elim

theorem run_equal_bool {t : TypeId} (h : P.underlying t = some .bool) (a b : Bool) (w : World) : (Op.equal t (.bool a) (.bool b)).run P w = .ok (a == b) w := by
  have : ∀ d, (Op.equalIn (d + 1) t (.bool a) (.bool b)).run P w = .ok (a == b) w := fun d => by simp [Op.equalIn, run_underlying h]
  exact this 9999

theorem run_equal_nil {t e : TypeId} (h : P.underlying t = some (.pointer e)) (a : Option Addr) (w : World) : (Op.equal t (.pointer a) (.pointer none)).run P w = .ok a.isNone w := by
  have : ∀ d, (Op.equalIn (d + 1) t (.pointer a) (.pointer none)).run P w = .ok a.isNone w := fun d => by cases a <;> simp [Op.equalIn, run_underlying h]
  exact this 9999

theorem run_equal_of {t : TypeId} {x y : Value} {r : Bool} {w : World} (h : (Op.equalIn 10000 t x y).run P w = .ok r w) : (Op.equal t x y).run P w = .ok r w := h

theorem eq_bool {op : BinOp} {t : TypeId} {r : Bool} {x y : Value} {w : World} {H : Heap} (hx : (Op.equal t x y).run P w = .ok r w) (hb : ∀ op', (op' = .eql ∨ op' = .neq) → binOp op' t x y = (match op' with | .eql => do pure (.bool (← Op.equal t x y)) | _ => do pure (.bool (!(← Op.equal t x y)))))
    (hp : (aEq op r H).p) (loc : Loc) : ∃ v, (binOp op t x y).run P w = .ok v w ∧ R w loc (aEq op r H).x v ∧ (aEq op r H).H = H := by
  cases op with
  | eql => exact ⟨.bool r, by rw [hb .eql (.inl rfl)]; simp [hx], .w _ rfl, rfl⟩
  | neq => exact ⟨.bool (!r), by rw [hb .neq (.inr rfl)]; simp [hx], .w _ rfl, rfl⟩
  | _ => exact hp.elim

theorem guard_free {op : BinOp} {t : TypeId} {x y : Operand} {u v : Value} (h : one u = true) (hn : u ≠ .nilIface) : eqGuard op t x y u v = pure () := by
  cases u <;> first | (simp [one] at h; done) | exact (hn rfl).elim | (cases op <;> rfl)

theorem sub_part {t : TypeId} {i : TyI} (h : TyR P t i) {w : World} {loc : Loc} {f : Nat} {ls : List AV} {cs : Array Value} {H : Heap}
    (hl : CellsOf w loc ls cs.toList) (hp : (subv i ls f H).p) : ∃ v, (part t cs f).run P w = .ok v w ∧ R w loc (subv i ls f H).x v ∧ (subv i ls f H).H = H := by
  unfold subv at hp ⊢
  have hlen := hl.len
  simp at hlen
  have h1 := run_isAgg h.d w
  cases ha : i.d.aggr with
  | true =>
    simp only [ha, cond_true] at hp ⊢
    rw [ha] at h1
    have h2 := run_sizeOf' h w
    refine ⟨.agg (cs.extract f (f + i.size)), by simp [part, h1, h2], ?_, by simp⟩
    have := R.agg (w := w) (loc := loc) ((ls.drop f).take i.size) (cs.extract f (f + i.size)).toList (by simp; omega) (fun j hj => by
      have := hl.leaf (f + j) (by simp at hj; omega)
      simpa using this) (fun j a c => by
      have := hl.r (f + j) (by simp at a; omega) (by simp at a ⊢; omega)
      simpa using this)
    rw [Array.toArray_toList] at this
    exact this
  | false =>
    simp only [ha, cond_false] at hp ⊢
    rw [ha] at h1
    have hf : f < cs.size := by omega
    refine ⟨cs[f], by simp [part, h1, Array.getElem?_eq_getElem hf], ?_, by simp⟩
    rw [slot_lt hp]
    exact hl.r f hp (by simpa using hf)

theorem agg_cells {w : World} {loc : Loc} {ls : List AV} {v : Value} (h : R w loc (.agg ls) v) : ∃ cs : Array Value, v = .agg cs ∧ CellsOf w loc ls cs.toList := by
  cases h with
  | agg xs cs hl hx h => exact ⟨cs.toArray, rfl, by simpa using hl, hx, fun j h1 h2 => h j h1 (by simpa using h2)⟩

theorem run_eqStr (d : Nat) (t : TypeId) (a b : List UInt8) (w : World) (h : P.underlying t = some .string) : (Op.equalIn (d + 1) t (.string ⟨a.toArray⟩) (.string ⟨b.toArray⟩)).run P w = .ok (decide (a = b)) w := by
  rw [run_equalIn_string w d t _ _ h, ByteArray.toList_eq, ByteArray.toList_eq, beq_dec]

theorem eqF_sound {T : Types} (hT : TOk P T) {w : World} {loc : Loc} {S : TypeId → AV → AV → Prop × Bool} {d : Nat}
    (ih : ∀ t x y vx vy, R w loc x vx → R w loc y vy → (S t x y).1 → (Op.equalIn d t vx vy).run P w = .ok (S t x y).2 w) {xs ys : List AV} {cs ds : Array Value} (hx : CellsOf w loc xs cs.toList) (hy : CellsOf w loc ys ds.toList) :
    ∀ (gs : List Field), (∀ g ∈ gs, g.name ≠ "_") → (eqF S T (gs.map fun f => (f.offset, f.type)) xs ys).1 → (Op.eqFields d cs ds gs).run P w = .ok (eqF S T (gs.map fun f => (f.offset, f.type)) xs ys).2 w
  | [], _, _ => by simp [Op.eqFields, eqF]
  | g :: gs, hn, hp => by
    simp only [List.map_cons, eqF] at hp ⊢
    cases ht : T g.type with
    | none => simp [ht] at hp
    | some te =>
      simp only [ht] at hp ⊢
      obtain ⟨h1, h2, h3, h4⟩ := hp
      obtain ⟨u, hu, hur, _⟩ := sub_part (hT _ _ ht) hx h1
      obtain ⟨v, hv, hvr, _⟩ := sub_part (hT _ _ ht) hy h2
      have he := ih _ _ _ _ _ hur hvr h3
      have hr := eqF_sound hT ih hx hy gs (fun k hk => hn k (by simp [hk])) h4
      simp only [Op.eqFields, if_pos (hn g (by simp)), Sem.run_bind, hu, hv, he, Result.andThen_ok]
      cases (S g.type (subv te xs g.offset []).x (subv te ys g.offset []).x).2 with
      | true => simp only [Bool.not_true, Bool.false_eq_true, if_false, Bool.true_and]; exact hr
      | false => simp

theorem eqV_sound {T : Types} (hT : TOk P T) {w : World} {loc : Loc} : ∀ (n d : Nat), n ≤ d → ∀ (t : TypeId) (x y : AV) (vx vy : Value), R w loc x vx → R w loc y vy → (eqV T n t x y).1 → (Op.equalIn d t vx vy).run P w = .ok (eqV T n t x y).2 w
  | 0, _, _, _, _, _, _, _, _, _, hp => by simp [eqV] at hp
  | n + 1, 0, hd, _, _, _, _, _, _, _, _ => by omega
  | n + 1, d + 1, hd, t, x, y, vx, vy, hx, hy, hp => by
    unfold eqV at hp ⊢
    cases ht : T t with
    | none => simp [ht] at hp
    | some i =>
      simp only [ht] at hp ⊢
      have h1 := (hT t i ht).d
      cases hi : i.d with
      | int k =>
        rw [hi] at h1
        have h1 : P.underlying t = some (.int k) := h1
        simp only [hi] at hp ⊢
        split at hp
        · obtain rfl := hx.wv
          obtain rfl := hy.wv
          subst hp
          rw [run_equalIn_int w d t _ k _ _ h1, beq_dec]
        · exact hp.elim
      | bool =>
        rw [hi] at h1
        have h1 : P.underlying t = some .bool := h1
        simp only [hi] at hp ⊢
        split at hp
        · obtain rfl := hx.wv
          obtain rfl := hy.wv
          rw [run_equalIn_bool' w d t _ _ h1]
        · exact hp.elim
      | str =>
        rw [hi] at h1
        have h1 : P.underlying t = some .string := h1
        simp only [hi] at hp ⊢
        split at hp
        · cases hx
          cases hy
          exact run_eqStr d t _ _ w h1
        · exact hp.elim
      | struct fs =>
        rw [hi] at h1
        obtain ⟨gs, hu, rfl⟩ := h1
        simp only [hi] at hp ⊢
        split at hp
        · rename_i xs ys
          obtain ⟨cs, rfl, hc⟩ := agg_cells hx
          obtain ⟨ds, rfl, hd2⟩ := agg_cells hy
          obtain ⟨q1, q2, q3⟩ := (hT t i ht).eqs gs hu
          have hf : P.fieldsOf t = gs := by simp [Program.fieldsOf, hu]
          rw [run_equalIn_struct w d t cs ds (by rw [hf]; exact hu) q2, hf]
          exact eqF_sound hT (fun t x y vx vy a b c => eqV_sound hT n d (by omega) t x y vx vy a b c) hc hd2 gs.toList q1 hp
        · exact hp.elim
      | slice e => simp [hi] at hp
      | ptr => simp [hi] at hp
      | arr n e => simp [hi] at hp
      | func => simp [hi] at hp
      | other => simp [hi] at hp

theorem bin_sound {T : Types} (hT : TOk P T) {w : World} {loc : Loc} {H : Heap} (hh : HR w loc H) {op : BinOp} {t : TypeId} {x y : AV} {vx vy : Value} (ox oy : Operand) (hx : R w loc x vx) (hy : R w loc y vy) (hp : (aBin T op t x y H).p) :
    ∃ u, (do eqGuard op t ox oy vx vy; binOp op t vx vy : Sem Value).run P w = .ok u w ∧ R w loc (aBin T op t x y H).x u ∧ (aBin T op t x y H).H = H := by
  unfold aBin at hp ⊢
  split at hp
  · rename_i k a k' b
    obtain rfl := hx.wv
    obtain rfl := hy.wv
    obtain ⟨h1, h2⟩ := int_sound (P := P) op t k k' a b w hp
    exact ⟨_, by simp [guard_free (u := .int k a) rfl (by simp), h1], .w _ h2, rfl⟩
  · rename_i a b
    cases hx
    cases hy
    obtain ⟨v, h1, h2⟩ := str_sound (P := P) op t a b w loc hp
    exact ⟨v, by simp [guard_free (u := .string _) rfl (by simp), h1], h2, rfl⟩
  · rename_i a b
    obtain rfl := hx.wv
    obtain rfl := hy.wv
    obtain ⟨h1, h2⟩ := hp
    obtain ⟨v, h3, h4, h5⟩ := eq_bool (P := P) (run_equal_bool (isBool_sound hT h1) a b w) (fun op' ho => by rcases ho with rfl | rfl <;> simp [binOp]) h2 loc
    exact ⟨v, by simp [guard_free (u := .bool _) rfl (by simp), h3], h4, h5⟩
  · rename_i id s i f
    obtain rfl := hy.wv
    cases hx with
    | rf _ _ _ _ _ h =>
      cases hl : look H id with
      | none => simp [hl, bad] at hp
      | some blk =>
        simp only [hl, Out.and] at hp ⊢
        have hf : loc.m id ≠ .free := by intro e; simp [Points, e] at h
        obtain ⟨hok, hn | ⟨b, hb, hlies⟩⟩ := hh.get hl hf
        · simp [Points, hn.1] at h
        · simp only [Points, hb] at h
          subst h
          obtain ⟨e, he⟩ := isPtr_sound hT hp.1
          obtain ⟨v, h3, h4, h5⟩ := eq_bool (P := P) (op := op) (t := t) (r := false) (x := .pointer (some ⟨b, i * s + f, none⟩)) (y := .pointer none) (w := w) (H := H) (run_equal_nil he _ w) (fun op' ho => by rcases ho with rfl | rfl <;> simp [binOp]) hp.2 loc
          exact ⟨v, by simp [guard_free (u := .pointer _) rfl (by simp), h3], h4, h5⟩
  · obtain rfl := hx.wv
    obtain rfl := hy.wv
    simp only [Out.and] at hp ⊢
    obtain ⟨e, he⟩ := isPtr_sound hT hp.1
    obtain ⟨v, h3, h4, h5⟩ := eq_bool (P := P) (op := op) (t := t) (r := true) (x := .pointer none) (y := .pointer none) (w := w) (H := H) (run_equal_nil he _ w) (fun op' ho => by rcases ho with rfl | rfl <;> simp [binOp]) hp.2 loc
    exact ⟨v, by simp [guard_free (u := .pointer _) rfl (by simp), h3], h4, h5⟩
  · rename_i xs ys
    simp only [Out.and] at hp ⊢
    obtain ⟨⟨hst, hq⟩, hp⟩ := hp
    obtain ⟨gs, hu⟩ : ∃ gs, P.underlying t = some (.struct gs) := by
      unfold isStruct at hst
      cases ht : T t with
      | none => simp [ht] at hst
      | some i =>
        simp only [ht] at hst
        have h1 := (hT t i ht).d
        split at hst
        · rename_i hi; rw [hi] at h1; obtain ⟨gs, hu, _⟩ := h1; exact ⟨gs, hu⟩
        · exact hst.elim
    have hg : P.eqGuardType P.depth t = false := by
      unfold isStruct at hst
      cases ht : T t with
      | none => simp [ht] at hst
      | some i => exact ((hT t i ht).eqs gs hu).2.2
    have he := eqV_sound hT 4 10000 (by omega) t _ _ _ _ hx hy hq
    obtain ⟨cs, rfl, _⟩ := agg_cells hx
    obtain ⟨ds, rfl, _⟩ := agg_cells hy
    obtain ⟨v, h3, h4, h5⟩ := eq_bool (P := P) (op := op) (t := t) (w := w) (H := H) (run_equal_of he) (fun op' ho => by rcases ho with rfl | rfl <;> simp [binOp]) hp loc
    refine ⟨v, ?_, h4, h5⟩
    rw [Sem.run_bind, run_eqGuard_agg w op t ox oy cs ds hg]
    simpa using h3
  · exact hp.elim

theorem un_sound {w : World} {loc : Loc} {H : Heap} {op : UnOp} {x : AV} {v : Value} (hx : R w loc x v) (hp : (aUn op x H).p) :
    ∃ u, (Op.unary op v).run P w = .ok u w ∧ R w loc (aUn op x H).x u ∧ (aUn op x H).H = H := by
  unfold aUn at hp ⊢
  split at hp
  · obtain rfl := hx.wv; exact ⟨_, by simp [Op.unary], .w _ rfl, rfl⟩
  · obtain rfl := hx.wv; exact ⟨_, by simp [Op.unary, Op.intArith], .w _ rfl, rfl⟩
  · rename_i k n
    obtain rfl := hx.wv
    refine ⟨.int k (bits .xor k (if k.signed then -1 else k.max) n), by simp only [Op.unary]; rw [intBits_xor]; rfl, ?_, rfl⟩
    rw [cond_eq_ite]
    exact .w _ rfl
  · exact hp.elim

theorem nil_sound {w : World} {loc : Loc} {H : Heap} (hh : HR w loc H) {x : AV} {v : Value} (hx : R w loc x v) (hp : (aNil x H).p) :
    ((v = .pointer none ∨ v = .nilIface ∨ v = .nilFunc ∨ (∃ n a b, v = .func (.method n) a b)) → False) ∧ (aNil x H).x = x ∧ (aNil x H).H = H := by
  unfold aNil at hp ⊢
  cases hx with
  | rf id s i f v h =>
    simp only at hp ⊢
    cases hl : look H id with
    | none => simp [hl, bad] at hp
    | some blk =>
      have hf : loc.m id ≠ .free := by intro e; simp [Points, e] at h
      obtain ⟨hok, hn | ⟨b, hb, hlies⟩⟩ := hh.get hl hf
      · simp [Points, hn.1] at h
      · simp only [Points, hb] at h
        subst h
        exact ⟨by simp, by simp⟩
  | cp ls a cs => exact ⟨by simp, rfl, rfl⟩
  | fn f caps cs => exact ⟨by simp, rfl, rfl⟩
  | _ => simp [bad] at hp

end ops
end Ax
end Go.Proofs.Ytgkkgbomhfdbkaa
