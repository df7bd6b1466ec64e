/- That what is said of abstract values holds of the model: slices that are made, written out, and grown. -/
import Derived.Test.YtgkkgbomhfdbkaaAxM
namespace Go.Proofs.Ytgkkgbomhfdbkaa
namespace Ax
set_option linter.unusedSimpArgs false
set_option linter.unusedVariables false
section ops
variable {P : Program}

theorem wrap_small {n : Int} (h0 : 0 ≤ n) (h1 : n ≤ 1099511627776) : IntKind.i64.wrap n = n := by rw [IntKind.wrap_i64]; omega

theorem run_makeSlice' {t e : TypeId} {te : TyI} (hd : P.underlying t = some (.slice e)) (hty : TyR P e te) {w : World} {k k' : IntKind} {n m : Int} (hs : 0 < te.size) (hb : 0 < te.bytes) (h0 : 0 ≤ n) (h1 : n ≤ m) (h2 : m * te.bytes ≤ 1099511627776) :
    ∃ z, (zeroValue e).run P w = .ok z w ∧ z.cells.toList.length = te.size ∧ (∀ w loc, CellsOf w loc te.zero z.cells.toList ∧ R w loc (asv te te.zero) z) ∧
      (Instr.makeSlice t (.int k n) (.int k' m)).run P w = .ok (.slice (some ⟨w.heap.size, 0, none⟩) n.toNat m.toNat) { w with heap := w.heap.push (.cells ((Array.range (m.toNat * te.size)).map (z.cells[· % z.cells.size]!)) e) } := by
  obtain ⟨z, z1, z2, z3⟩ := run_zeroValue' hty w
  refine ⟨z, z1, z2, z3, ?_⟩
  obtain ⟨inf, zz, i1, i2, i3, i4, _⟩ := hty.info
  have hm : m ≤ 1099511627776 := by
    have : m * 1 ≤ m * te.bytes := Int.mul_le_mul_of_nonneg_left (by omega) (by omega)
    omega
  have w1 := wrap_small h0 (by omega)
  have w2 := wrap_small (n := m) (by omega) hm
  have hbm : (te.bytes : Int) * m ≤ 1099511627776 := by rw [Int.mul_comm]; exact h2
  have hroom : ¬ m.toNat * te.bytes > roomBytes := by
    have : ((m.toNat * te.bytes : Nat) : Int) ≤ 1099511627776 := by rw [Int.natCast_mul]; rw [Int.toNat_of_nonneg (by omega)]; exact h2
    unfold roomBytes; omega
  have hsz := run_sizeOf' hty w
  by_cases hz : m.toNat * te.size = 0
  · simp [Instr.makeSlice, run_underlying hd, asInt, asIntOf, run_typeInfo' i1, i3, w1, w2, askRoom, hroom, hsz, hz, newRow, newObj, Sem.run]
    have a1 : ¬ m < 0 := by omega
    have a2 : ¬ n < 0 := by omega
    have a3 : ¬ m < n := by omega
    have a4 : ¬ (281474976710656 : Int) < (te.bytes : Int) * m := by omega
    simp [a1, a2, a3, a4, Sem.run, Array.range_zero']
  · simp [Instr.makeSlice, run_underlying hd, asInt, asIntOf, run_typeInfo' i1, i3, w1, w2, askRoom, hroom, hsz, hz, newRow, newObj, Sem.run, z1]
    have a1 : ¬ m < 0 := by omega
    have a2 : ¬ n < 0 := by omega
    have a3 : ¬ m < n := by omega
    have a4 : ¬ (281474976710656 : Int) < (te.bytes : Int) * m := by omega
    simp [a1, a2, a3, a4, Sem.run, z1]

theorem cell_one {w : World} {loc : Loc} {ls : List AV} {cs : Array Value} (h : CellsOf w loc ls cs.toList) : ∀ (j : Nat) (hj : j < cs.size), one cs[j] = true := fun j hj => h.one _ (by simp)

/-- A prefix of what cells hold. -/
theorem cellsOf_prefix {w : World} {loc : Loc} {ls : List AV} {cs : Array Value} (h : CellsOf w loc ls cs.toList) (fl : List AV) (n : Nat) (hf : fl = ls.take n) : fl.length ≤ cs.size ∧ ∀ (j : Nat) (h1 : j < fl.length) (h2 : j < cs.size), fl[j].leaf = true ∧ R w loc fl[j] cs[j] := by
  subst hf
  have hl := h.len
  simp at hl
  refine ⟨by simp; omega, fun j h1 h2 => ?_⟩
  have := cellsOf_get h j (by simp at h1; omega) h2
  simpa using this

theorem zero_u8 {te : TyI} (hz : te.zero = [.w (.int .u8 0)]) (hd : te.d = .int .u8) (n : Nat) : Blk.flat (.b (List.replicate n 0)) = (List.replicate n (asv te te.zero)).flatMap AV.leaves := by
  have : asv te te.zero = .w (.int .u8 0) := by simp [asv, hd, hz, TD.aggr, slot]
  rw [this]
  induction n with
  | zero => rfl
  | succ n ih => simp only [List.replicate_succ, List.flatMap_cons, ← ih]; simp [Blk.flat, AV.leaves, byte]

theorem zero_i64 {te : TyI} (hz : te.zero = [.w (.int .i64 0)]) (hd : te.d = .int .i64) (n : Nat) : Blk.flat (.i (List.replicate n 0)) = (List.replicate n (asv te te.zero)).flatMap AV.leaves := by
  have : asv te te.zero = .w (.int .i64 0) := by simp [asv, hd, hz, TD.aggr, slot]
  rw [this]
  induction n with
  | zero => rfl
  | succ n ih => simp only [List.replicate_succ, List.flatMap_cons, ← ih]; simp [Blk.flat, AV.leaves, word]

theorem make_post {w0 : World} {E : Nat → Prop} {w : World} {loc : Loc} {H : Heap} {T : Types} (hT : TOk P T) (he : Env w0 E w loc) (hh : HR w loc H) {nm : Nat} (hf : loc.m nm = .free) {t : TypeId} {l c : AV} {vl vc : Value} (hl : R w loc l vl) (hc : R w loc c vc) (hp : (aMake T nm t l c H).p) :
    ∃ u w' loc', (Instr.makeSlice t vl vc).run P w = .ok u w' ∧ Post w0 E w loc false nm (aMake T nm t l c H).x (aMake T nm t l c H).H u w' loc' := by
  unfold aMake at hp ⊢
  cases ht : T t with
  | none => simp [ht, bad] at hp
  | some ti =>
    simp only [ht] at hp ⊢
    have hd := (hT t ti ht).d
    cases hdd : ti.d with
    | slice e =>
      simp only [hdd] at hp ⊢
      rw [hdd] at hd
      have hd : P.underlying t = some (.slice e) := hd
      cases hte : T e with
      | none => simp [hte, bad] at hp
      | some te =>
        simp only [hte] at hp ⊢
        have hty := hT _ te hte
        split at hp
        · rename_i k n k' m
          obtain rfl := hl.wv
          obtain rfl := hc.wv
          obtain ⟨⟨hs, hb, h0, h1, h2⟩, hz⟩ := hp
          obtain ⟨z, z1, z2, z3, hrun⟩ := run_makeSlice' hd hty (w := w) (k := k) (k' := k') hs hb h0 h1 h2
          obtain ⟨hok, hco⟩ := zeros_cells (z3 w loc).1 z2 hs hty m.toNat
          have hsize : ((Array.range (m.toNat * te.size)).map (z.cells[· % z.cells.size]!)).size = m.toNat * te.size := by simp
          have hm : m ≤ 1099511627776 := by
            have : m * 1 ≤ m * te.bytes := Int.mul_le_mul_of_nonneg_left (by omega) (by omega)
            omega
          have hpre : (List.replicate n.toNat (asv te te.zero)).flatMap AV.leaves = (Blk.flat (.g te.size (List.replicate m.toNat (asv te te.zero)))).take (n.toNat * te.size) := by
            simp only [Blk.flat]
            rw [← flatMap_take _ _ hok.2, List.take_replicate, Nat.min_eq_left (by omega)]
          have main : ∀ blk : Blk, blk.ok → blk.flat = (List.replicate n.toNat (asv te te.zero)).flatMap AV.leaves →
              Post w0 E w loc false nm (.ms nm te.size 0 n.toNat) (put H nm blk) (.slice (some ⟨w.heap.size, 0, none⟩) n.toNat m.toNat) { w with heap := w.heap.push (.cells ((Array.range (m.toNat * te.size)).map (z.cells[· % z.cells.size]!)) e) } (loc.set nm (.here w.heap.size)) := by
            intro blk hbok hbf
            obtain ⟨q1, q2⟩ := cellsOf_prefix hco blk.flat _ (hbf.trans hpre)
            have q3 : m.toNat * te.size ≤ ((Array.range (m.toNat * te.size)).map (z.cells[· % z.cells.size]!)).size := by rw [hsize]; exact Nat.le_refl _
            have q4 : n.toNat ≤ m.toNat := by omega
            have q5 : m.toNat ≤ maxLen := by unfold maxLen; omega
            exact post_push (e := e) (fz := (0, 0)) he hh hf ⟨rfl, rfl, rfl, rfl⟩ hbok (.inl rfl) (cell_one hco) q1 q2 (fun w' loc' h6 h7 => owns_new h6 h7 q3 q4 q5)
          refine ⟨_, _, loc.set nm (.here w.heap.size), hrun, ?_⟩
          have gen := main (.g te.size (List.replicate n.toNat (asv te te.zero))) ⟨hs, fun x hx => by rw [List.eq_of_mem_replicate hx]; exact (asv_okv hty (z3 w loc).1 z2).2.1⟩ rfl
          obtain ⟨d8, hd8⟩ : ∃ d, te.d = d := ⟨_, rfl⟩
          rw [hd8] at hz ⊢
          cases d8 with
          | int kk =>
            cases kk with
            | u8 => exact main _ trivial (zero_u8 hz hd8 _)
            | i64 => exact main _ trivial (zero_i64 hz hd8 _)
            | _ => exact gen
          | _ => exact gen
        · exact hp.elim
    | _ => simp [hdd, bad] at hp

theorem run_buildSlice' {t e : TypeId} {te : TyI} (hd : P.underlying t = some (.slice e)) (hty : TyR P e te) {w : World} {n : Nat} {z : Value} (hz : (zeroValue e).run P w = .ok z w) {pv : Array (Nat × Value)} {cs : Array Value} (hs : 0 < te.size) (hn : n * te.size ≤ 16777216)
    (hf : Instr.fill (fun i => some (i * te.size, te.size)) ((Array.range (n * te.size)).map (z.cells[· % z.cells.size]!)) pv.toList = some cs) :
    (Instr.buildSlice t n pv).run P w = .ok (.slice (some ⟨w.heap.size, 0, none⟩) n n) { w with heap := w.heap.push (.cells cs e) } := by
  have hsz := run_sizeOf' hty w
  have hlim : ¬ n * te.size > 2 ^ 24 := by omega
  by_cases h0 : n * te.size = 0
  · rw [h0] at hf
    have e0 : (Array.range 0).map (z.cells[· % z.cells.size]!) = (Array.range 0).map ((#[] : Array Value)[· % (#[] : Array Value).size]!) := by simp [Array.range_zero']
    rw [e0] at hf
    unfold Instr.buildSlice
    simp only [Sem.run_bind, run_underlying hd, Result.andThen_ok, hsz]
    rw [if_neg hlim, h0]
    simp only [if_pos, Sem.run_bind, Sem.run_pure, Result.andThen_ok, hf]
    rfl
  · unfold Instr.buildSlice
    simp only [Sem.run_bind, run_underlying hd, Result.andThen_ok, hsz]
    rw [if_neg hlim]
    simp only [if_neg h0, Sem.run_bind, hz, Sem.run_pure, Result.andThen_ok, hf]
    rfl

theorem buildSlice_post {w0 : World} {E : Nat → Prop} {w : World} {loc : Loc} {H : Heap} {T : Types} (hT : TOk P T) (he : Env w0 E w loc) (hh : HR w loc H) {nm : Nat} (hf : loc.m nm = .free) {t : TypeId} {n : Nat} {ps : List (Nat × AV)} {pv : Array (Nat × Value)} (hps : PR w loc ps pv.toList) (hp : (aBuildSlice T nm t n ps H).p) :
    ∃ u w' loc', (Instr.buildSlice t n pv).run P w = .ok u w' ∧ Post w0 E w loc false nm (aBuildSlice T nm t n ps H).x (aBuildSlice T nm t n ps H).H u w' loc' := by
  unfold aBuildSlice at hp ⊢
  cases ht : T t with
  | none => simp [ht, bad] at hp
  | some ti =>
    simp only [ht] at hp ⊢
    have hd := (hT t ti ht).d
    cases hdd : ti.d with
    | slice e =>
      simp only [hdd] at hp ⊢
      rw [hdd] at hd
      have hd : P.underlying t = some (.slice e) := hd
      cases hte : T e with
      | none => simp [hte, bad] at hp
      | some te =>
        simp only [hte] at hp ⊢
        have hty := hT _ te hte
        obtain ⟨z, z1, z2, z3⟩ := run_zeroValue' hty w
        have fin : ∀ (blk : Blk) (cs : Array Value) (s : Nat), blk.ok → blk.size = s → blk.len = n → CellsOf w loc blk.flat cs.toList → n ≤ 16777216 →
            Post w0 E w loc false nm (.ms nm s 0 n) (put H nm blk) (.slice (some ⟨w.heap.size, 0, none⟩) n n) { w with heap := w.heap.push (.cells cs e) } (loc.set nm (.here w.heap.size)) := by
          intro blk cs s hok hs hlen hco hn
          have hl := hco.len
          have hfl := flat_len hok
          rw [hs, hlen] at hfl
          simp at hl
          have q3 : n * s ≤ cs.size := by omega
          have q5 : n ≤ maxLen := by unfold maxLen; omega
          exact post_push (e := e) (fz := (0, 0)) he hh hf ⟨rfl, rfl, rfl, rfl⟩ hok (.inl rfl) (cell_one hco) (by omega) (fun j a b => cellsOf_get hco j a b) (fun w' loc' h6 h7 => owns_new h6 h7 q3 (Nat.le_refl _) q5)
        split at hp
        · rename_i hd8
          obtain ⟨h1, h2, h3, h4⟩ := hp
          obtain ⟨hok, hco⟩ := zeros_cells (z3 w loc).1 z2 (by omega) hty n
          rw [show Blk.flat (.g te.size (List.replicate n (asv te te.zero))) = Blk.flat (.b (List.replicate n 0)) from (zero_u8 h2 hd8 n).symm] at hco
          obtain ⟨cs', f1, f2⟩ := fillB_sound ps pv.toList _ _ hps hco h4
          have hlen := fillB_len ps _ h4
          refine ⟨_, _, _, run_buildSlice' hd hty z1 (by omega) (by rw [h1]; omega) (by rw [h1]; rw [h1] at f1; exact f1), fin _ cs' 1 trivial rfl (by simp only [Blk.len]; rw [hlen]; simp) f2 h3⟩
        · rename_i hd8
          obtain ⟨h1, h2, h3, h4⟩ := hp
          obtain ⟨hok, hco⟩ := zeros_cells (z3 w loc).1 z2 (by omega) hty n
          rw [show Blk.flat (.g te.size (List.replicate n (asv te te.zero))) = Blk.flat (.i (List.replicate n 0)) from (zero_i64 h2 hd8 n).symm] at hco
          obtain ⟨cs', f1, f2⟩ := fillI_sound ps pv.toList _ _ hps hco h4
          have hlen := fillI_len ps _ h4
          refine ⟨_, _, _, run_buildSlice' hd hty z1 (by omega) (by rw [h1]; omega) (by rw [h1]; rw [h1] at f1; exact f1), fin _ cs' 1 trivial rfl (by simp only [Blk.len]; rw [hlen]; simp) f2 h3⟩
        · obtain ⟨h1, h3, h4⟩ := hp
          obtain ⟨hok, hco⟩ := zeros_cells (z3 w loc).1 z2 h1 hty n
          obtain ⟨cs', f1, f2, f3⟩ := fillG_sound ps pv.toList _ _ hps hok hco h4
          have hlen := fillG_len ps _ h4
          have hn : n ≤ 16777216 := Nat.le_trans (Nat.le_mul_of_pos_right n h1) h3
          refine ⟨_, _, _, run_buildSlice' hd hty z1 h1 h3 f1, fin _ cs' te.size f3 rfl (by simp only [Blk.len]; rw [hlen]; simp) f2 hn⟩
    | _ => simp [hdd, bad] at hp

end ops
end Ax
end Go.Proofs.Ytgkkgbomhfdbkaa
