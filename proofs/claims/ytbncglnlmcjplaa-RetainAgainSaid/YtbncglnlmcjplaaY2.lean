/- Layer 16: Drop, up to its loop behind. -/
import Derived.Test.YtbncglnlmcjplaaY3
import Derived.Deep.OwnRows
import Derived.Shelf.SlSortCmp.QuietGrown
namespace Go.Proofs.Ytbncglnlmcjplaa
open Go.RowKit Go.Shelf
attribute [local go_sem] Oper.semAt_some
attribute [local irreducible] wpQuiet
set_option linter.unusedSimpArgs false
set_option linter.unusedVariables false

structure Aside16 (p : Prop) : Prop where
  out : p
theorem row_own16 {β : Type} (B : Nat) (t : TypeId) (n : Nat) (f : β → Nat → Value) : Own (fun s W => W.rowIs B t n (f s)) := fun s X Y row hs hg hr =>
  hs.of_block (hg.block B hs.lt (fun e => by
    obtain ⟨o, ho, hc⟩ := hr B e.symm
    obtain ⟨c, hb, _⟩ := hs
    rw [hb] at ho; cases ho; cases hc))
def Held16 (W : World) (B : Nat) (c : Array Value) (t : TypeId) : Prop := W.heap[B]? = some (.cells c t (0, 0))
theorem Held16.lt {W : World} {B : Nat} {c : Array Value} {t : TypeId} (h : Held16 W B c t) : B < W.heap.size := (Array.getElem?_eq_some_iff.1 h).1
theorem Held16.of_block {W W' : World} {B : Nat} {c : Array Value} {t : TypeId} (h : Held16 W B c t) (e : W'.heap[B]? = W.heap[B]?) : Held16 W' B c t := e.trans h
theorem Held16.alloc {W : World} {B : Nat} {c : Array Value} {t : TypeId} (h : Held16 W B c t) (o : Obj) : Held16 (W.alloc o) B c t := h.of_block (Below.heap_alloc W o B h.lt)
theorem Held16.cell {W : World} {B : Nat} {c : Array Value} {t : TypeId} (h : Held16 W B c t) {i : Nat} {v : Value} (hi : c[i]? = some v) : W.cell? ⟨B, i, none⟩ = some v := by
  simp [World.cell?, show W.heap[B]? = _ from h, hi]
theorem held_own16 {β : Type} (B : Nat) (c : Array Value) (t : TypeId) : Own (fun (_ : β) W => Held16 W B c t) := fun s X Y row hs hg hr =>
  hs.of_block (hg.block B hs.lt (fun e => by
    obtain ⟨o, ho, hc⟩ := hr B e.symm
    rw [show X.heap[B]? = _ from hs] at ho; cases ho; cases hc))
theorem set_other16 (W : World) (B i : Nat) (u : Value) (k : Nat) (hne : k ≠ B) : (W.setCell ⟨B, i, none⟩ u).heap[k]? = W.heap[k]? := by
  simp [World.setCell, Array.getElem?_modify, Ne.symm hne]
/-- How many go: the first place that stays, or the last one. -/
def drG (g : Nat → Bool) (len : Nat) : Nat → Nat → Nat
  | 0, k => k
  | f + 1, k => if k + 1 < len ∧ g k = true then drG g len f (k + 1) else k
theorem drG_goes (g : Nat → Bool) (len k : Nat) (h : k + 1 < len) (hg : g k = true) : drG g len (len - k) k = drG g len (len - (k + 1)) (k + 1) := by
  rw [show len - k = (len - (k + 1)) + 1 by omega]
  simp only [drG, h, hg, and_self, if_true]
theorem drG_stops (g : Nat → Bool) (len k : Nat) (h : ¬ (k + 1 < len ∧ g k = true)) : drG g len (len - k) k = k := by
  cases hf : len - k with
  | zero => rfl
  | succ f => simp only [drG, h, if_false]
def step16 (p : Int × (Nat → Int)) (x : Nat × Sg) : Int × (Nat → Int) := (p.1 + blk16 x.2.k, fun j => if j = x.1 then p.1 + blk16 x.2.k else p.2 j)
def st16 (l : List (Nat × Sg)) : Int × (Nat → Int) := l.foldl step16 (0, fun _ => 0)
theorem st16_snoc (l : List (Nat × Sg)) (x : Nat × Sg) : st16 (l ++ [x]) = step16 (st16 l) x := by unfold st16; rw [List.foldl_append]; rfl
theorem st16_range : ∀ (k : Nat) (l : List (Nat × Sg)), l.length = k → 0 ≤ (st16 l).1 ∧ (st16 l).1 ≤ 1099511627776 * k
  | 0, l, h => by obtain rfl := List.eq_nil_of_length_eq_zero h; simp [st16]
  | k + 1, l, h => by
    have hne : l ≠ [] := by rintro rfl; cases h
    have e := List.dropLast_concat_getLast hne
    have hl : l.dropLast.length = k := by rw [List.length_dropLast]; omega
    have ih := st16_range k l.dropLast hl
    have hb := blk16_range (l.getLast hne).2.k
    rw [← e, st16_snoc]
    show 0 ≤ (st16 l.dropLast).1 + blk16 (l.getLast hne).2.k ∧ (st16 l.dropLast).1 + blk16 (l.getLast hne).2.k ≤ _
    omega
def goB16 (zs : Nat → Sg) (len : Nat) (rT rB now : Int) (k : Nat) : Bool := oldB (zs k).w rT now || (decide (0 ≤ rB) && decide (rB < (st16 (upto16 (bk16 len zs) len)).2 k))
def drN (zs : Nat → Sg) (len : Nat) (rT rB now : Int) : Nat := drG (goB16 zs len rT rB now) len len 0
theorem grown16 (w : World) (n : Nat) (os : Array Obj) (B : Nat) (hB : B ≤ w.heap.size) : Below B w (Go.Sort.grow (w.drewN n) os) :=
  ⟨rfl, rfl, rfl, by simp [Go.Sort.grow, World.drewN], fun k hk => Go.Sort.heap_grow_old (w.drewN n) os (show k < w.heap.size by omega)⟩
theorem old_calls16 (s : Sg) (rT rB now : Int) (hnow : -9223372036854775808 ≤ now ∧ now ≤ 9223372036854775807) (v : Bool) (hv : oldB s.w rT now = v) (w : World) (p : GrownBy) :
    Calls Try.prog 11 #[.agg #[.int .i64 s.b, .int .i64 s.n, .int .i64 s.w, .int .i64 s.k], .agg #[.int .i64 rT, .int .i64 rB], .int .i64 now] (Go.Sort.grow (w.drewN p.n) p.os) fun e w' => e = .returned (.bool v) ∧ ∃ q : GrownBy, w' = Go.Sort.grow (w.drewN q.n) q.os :=
  ((callsIn_wide (n := 3)).1 (old_in Fence.wide 3 trivial rfl s rT rB now hnow _)).mono fun e w' h => by
    obtain ⟨he, hw⟩ := h
    refine ⟨by rw [he, hv], ⟨p.n, p.os ++ #[.cells #[.int .i64 s.b, .int .i64 s.n, .int .i64 s.w, .int .i64 s.k] 35, .cells #[.int .i64 rT, .int .i64 rB] 29]⟩, ?_⟩
    rw [hw, Go.Sort.alloc_eq_grow, Go.Sort.alloc_eq_grow, Go.Sort.grow_grow, Go.Sort.grow_grow]
    rfl
theorem und16 : Try.prog.underlying 44 = some (.slice 3) := by kernel_rfl
theorem inf16 : (Try.prog.info? 3).map (fun i => (i.zero, i.size, i.bytes)) = some (some (.int .i64 0), 1, 8) := by kernel_rfl
set_option maxRecDepth 100000 in
set_option maxHeartbeats 4000000 in
theorem drop_in (F : Fence) (hF : Aside16 (F = Fence.wide)) (n : Nat) (h0 : F.fn 8) (h1 : F.fn 16) (h2 : F.fn 18) (h3 : F.fn 17) (h4 : F.fn 11) (hro : F.round = none) (hn : 5 ≤ n)
    (a : Option Addr) (len cap : Nat) (zs : Nat → Sg) (hreach : len ≤ 1000000) (rT rB now : Int) (hnow : -9223372036854775808 ≤ now ∧ now ≤ 9223372036854775807) (w : World) (hI : Segs16 w.heap.size w a len zs) :
    CallsIn F n Try.prog 8 #[.slice a len cap, .agg #[.int .i64 rT, .int .i64 rB], .int .i64 now] w fun e w' => e = .returned (.int .i64 (drN zs len rT rB now)) ∧ Below w.heap.size w w' := by
  refine callsIn_of_wp_marks Try.func8 rfl h0 ?_ hro
  simp only [Try.ntmps8, List.size_toArray, List.length_cons, List.length_nil, Nat.reduceAdd, Nat.reduceSub, Array.replicate_succ, Array.replicate_zero, List.push_toArray, List.append_toArray, List.nil_append, List.cons_append]
  have hl63 : (len : Int) ≤ 1000000 := by omega
  have hn1 : 1 ≤ n := by omega
  have hmk : ∀ W : World, (Instr.makeSlice 44 (.int .i64 (len : Int)) (.int .i64 (len : Int))).run Try.prog W = .ok (.slice (some ⟨W.heap.size, 0, none⟩) len len) (W.alloc (.cells (madeCells #[.int .i64 0] len) 3)) :=
    fun W => run_make_row' 44 3 (.int .i64 0) 8 und16 inf16 rfl .i64 .i64 len (by omega) (by omega) W
  gi_wp2_with (gi_at_call 16; refine (back_in F (n - 1) h1 hro _ _ _ _).mono ?_; rintro e w' ⟨rfl, rfl⟩)
  obtain ⟨W0, hW0⟩ : ∃ W0, (((((w.alloc (.cells #[.int .i64 rT, .int .i64 rB] 29)).alloc (.cells (madeCells #[.int .i64 0] len) 3)).alloc (.cells #[.slice (some ⟨w.heap.size + 1, 0, none⟩) len len] 44)).alloc (.cells #[.int .i64 0] 3)).alloc (.cells #[.slice a len cap] 26)) = W0 := ⟨_, rfl⟩
  have hsz : W0.heap.size = w.heap.size + 5 := by rw [← hW0]; simp
  have bRule : Held16 W0 w.heap.size #[.int .i64 rT, .int .i64 rB] 29 := by
    rw [← hW0]
    exact ((((show Held16 (w.alloc _) w.heap.size _ _ from World.alloc_heap_new w _).alloc _).alloc _).alloc _).alloc _
  have bRow : W0.rowIs (w.heap.size + 1) 3 len (fun _ => .int .i64 0) := by
    rw [← hW0]
    have := World.rowIs_made (w.alloc (.cells #[.int .i64 rT, .int .i64 rB] 29)) (.int .i64 0) len 3
    rw [World.size_alloc] at this
    exact ((this.alloc _).alloc _).alloc _
  have bS : Boxed W0 (w.heap.size + 1 + 1) 44 (.slice (some ⟨w.heap.size + 1, 0, none⟩) len len) := by
    rw [← hW0]
    have := Boxed.new ((w.alloc (.cells #[.int .i64 rT, .int .i64 rB] 29)).alloc (.cells (madeCells #[.int .i64 0] len) 3)) 44 (.slice (some ⟨w.heap.size + 1, 0, none⟩) len len)
    rw [World.size_alloc, World.size_alloc] at this
    exact (this.alloc _).alloc _
  have bT : Boxed W0 (w.heap.size + 1 + 1 + 1) 3 (.int .i64 0) := by
    rw [← hW0]
    have := Boxed.new (((w.alloc (.cells #[.int .i64 rT, .int .i64 rB] 29)).alloc (.cells (madeCells #[.int .i64 0] len) 3)).alloc (.cells #[.slice (some ⟨w.heap.size + 1, 0, none⟩) len len] 44)) 3 (.int .i64 0)
    rw [World.size_alloc, World.size_alloc, World.size_alloc] at this
    exact this.alloc _
  have bB : Boxed W0 (w.heap.size + 1 + 1 + 1 + 1) 26 (.slice a len cap) := by
    rw [← hW0]
    have := Boxed.new ((((w.alloc (.cells #[.int .i64 rT, .int .i64 rB] 29)).alloc (.cells (madeCells #[.int .i64 0] len) 3)).alloc (.cells #[.slice (some ⟨w.heap.size + 1, 0, none⟩) len len] 44)).alloc (.cells #[.int .i64 0] 3)) 26 (.slice a len cap)
    rw [World.size_alloc, World.size_alloc, World.size_alloc, World.size_alloc] at this
    exact this
  have hB0 : Below w.heap.size w W0 := by
    rw [← hW0]
    exact (((((Below.refl _ w).alloc (Nat.le_refl _) _).alloc (by simp) _).alloc (by simp; omega) _).alloc (by simp; omega) _).alloc (by simp; omega) _
  rw [hW0]
  clear hW0
  refine wpIn_rangeFunc_ownH hro hn1 (gf := 18) (lb := #[.pointer (some ⟨w.heap.size + 1 + 1 + 1 + 1, 0, none⟩)]) rfl h2 (enters_of Try.func18 (by kernel_rfl) rfl)
    (back_stops F (n - 1) h2 hro (by omega) (w.heap.size + 1 + 1 + 1 + 1) w.heap.size a len cap zs (α := { x : Nat × Sg // x.1 < len }) Subtype.val (fun t ht => ⟨⟨bk16 len zs t, by show len - 1 - t < len; omega⟩, rfl⟩) hreach W0 (by omega) (by omega) bB.cell (hI.below hB0))
    Kp16.trans (fun W l o o' hl h hc hw => ⟨belowK_b (w := W0) (by omega) W l o o' hl h hc hw, fun v hv => cell_kept hv (grownBy_putObj' W l o') (fun r e => by cases e; exact ⟨o, h, hc⟩)⟩) (Below.refl _ _) (fun _ => rfl)
    (fun pre W => ((Boxed W (w.heap.size + 1 + 1 + 1) 3 (.int .i64 (st16 (pre.map Subtype.val)).1) ∧ Boxed W (w.heap.size + 1 + 1) 44 (.slice (some ⟨w.heap.size + 1, 0, none⟩) len len)) ∧ (W.rowIs (w.heap.size + 1) 3 len (fun j => .int .i64 ((st16 (pre.map Subtype.val)).2 j)) ∧ Held16 W w.heap.size #[.int .i64 rT, .int .i64 rB] 29)) ∧ Below w.heap.size w W)
    (fun _ _ _ => False)
    (OwnFrom.and (OwnFrom.and (OwnFrom.and (Own.from (boxed_own _ _ _) _) (Own.from (boxed_own _ _ _) _)) (OwnFrom.and (Own.from (row_own16 _ _ _ _) _) (Own.from (held_own16 _ _ _) _))) (ownFrom_below (Nat.le_refl _) (by omega)))
    (fun _ _ _ _ _ hs _ _ => hs)
    ⟨⟨⟨bT, bS⟩, bRow, bRule⟩, hB0⟩
    (fun x a' W => ∃ Bx, w.heap.size + 1 + 1 + 1 < Bx ∧ Held16 W Bx #[.int .i64 x.1.2.b, .int .i64 x.1.2.n, .int .i64 x.1.2.w, .int .i64 x.1.2.k] 35 ∧ a' = { tmps := #[.slice a len cap, .agg #[.int .i64 rT, .int .i64 rB], .int .i64 now, undef, .pointer (some ⟨w.heap.size, 0, none⟩), undef, .int .i64 0, .pointer (some ⟨w.heap.size + 1 + 1, 0, none⟩), .pointer (some ⟨w.heap.size + 1 + 1 + 1, 0, none⟩), .int .i64 (x.1.1 : Int), .pointer (some ⟨Bx, 0, none⟩), undef, .slice a len cap, .int .i64 len, .slice (some ⟨w.heap.size + 1, 0, none⟩) len len, .slice a len cap, .func (.func 18) #[] #[.pointer (some ⟨w.heap.size + 1 + 1 + 1 + 1, 0, none⟩)], .int .i64 (x.1.1 : Int), x.1.2.val, undef, undef, undef, undef, undef, undef, undef, undef, undef, undef, undef, undef, undef, undef, undef, undef, undef, undef, undef, undef, undef, undef, undef, undef, undef, undef, undef, undef, undef, undef, undef, undef, undef, undef, undef, undef, undef, undef, undef], defers := [] })
    (fun x a' _ X Y row hs hg hr => by obtain ⟨Bx, g1, g2, g3⟩ := hs; exact ⟨Bx, g1, held_own16 (β := Unit) Bx _ _ () X Y row g2 hg (fun r e => (hr r e).2), g3⟩)
    ?assign ?body ?done ?stop
  case assign =>
    rintro l pre x W K ⟨⟨⟨bT1, bS1⟩, bR1, bU1⟩, hB1⟩ hK
    have hv : x.1.2.val = .agg #[.int .i64 x.1.2.b, .int .i64 x.1.2.n, .int .i64 x.1.2.w, .int .i64 x.1.2.k] := rfl
    simp only [hv]
    gi_wp2
    exact hK _ _ ((KeepsOthers.alloc _ _).from _) ⟨(Below.refl _ W).alloc hB1.size _, fun v hv => cell_kept hv (World.grownBy_alloc W _ none) (fun r e => by cases e)⟩ ⟨⟨⟨bT1.alloc _, bS1.alloc _⟩, bR1.alloc _, bU1.alloc _⟩, hB1.alloc hB1.size _⟩ ⟨W.heap.size, bT1.lt, World.alloc_heap_new W _, rfl⟩
  case body =>
    rintro l pre x a' W hl hloop ⟨⟨⟨bT1, bS1⟩, bR1, bU1⟩, hB1⟩ ⟨Bx, hBx, bX, rfl⟩ hlt
    have h1' : 1 ≤ n - 1 - 1 := by omega
    have hv : x.1.2.val = .agg #[.int .i64 x.1.2.b, .int .i64 x.1.2.n, .int .i64 x.1.2.w, .int .i64 x.1.2.k] := rfl
    have cT := bT1.cell
    have fT := bT1.frozen
    have cS := bS1.cell
    have x0 : W.cell? ⟨Bx, 0, none⟩ = some (.int .i64 x.1.2.b) := bX.cell rfl
    have x1 : W.cell? ⟨Bx, 1, none⟩ = some (.int .i64 x.1.2.n) := bX.cell rfl
    have x2 : W.cell? ⟨Bx, 2, none⟩ = some (.int .i64 x.1.2.w) := bX.cell rfl
    have x3 : W.cell? ⟨Bx, 3, none⟩ = some (.int .i64 x.1.2.k) := bX.cell rfl
    have hxl := x.2
    have hbx : Bx < W.heap.size := bX.lt
    have hsT := bT1.lt
    have htot := st16_range pre.length (pre.map Subtype.val) (by simp)
    have hbk := blk16_range x.1.2.k
    have hmx : Try.prog.follows .mixedOrders = true := by kernel_rfl
    have hsn : st16 ((pre ++ [x]).map Subtype.val) = step16 (st16 (pre.map Subtype.val)) x.1 := by rw [List.map_append]; exact st16_snoc _ _
    have hlen : pre.length < 1000000 := by omega
    obtain ⟨T', hT'⟩ : ∃ T', (st16 (pre.map Subtype.val)).1 + blk16 x.1.2.k = T' := ⟨_, rfl⟩
    have hwr : IntKind.i64.wrap T' = T' := by rw [IntKind.wrap_i64]; omega
    obtain ⟨W2, hW2⟩ : ∃ W2, W2 = ((W.setCell ⟨w.heap.size + 1 + 1 + 1, 0, none⟩ (.int .i64 T')).alloc (.cells #[.int .i64 x.1.2.b, .int .i64 x.1.2.n, .int .i64 x.1.2.w, .int .i64 x.1.2.k] 35)).drew := ⟨_, rfl⟩
    have bT2 : Boxed W2 (w.heap.size + 1 + 1 + 1) 3 (.int .i64 T') := by rw [hW2]; exact (bT1.set _).alloc _
    have bS2 : Boxed W2 (w.heap.size + 1 + 1) 44 (.slice (some ⟨w.heap.size + 1, 0, none⟩) len len) := by rw [hW2]; exact (bS1.other (by omega) _).alloc _
    have bR2 : W2.rowIs (w.heap.size + 1) 3 len (fun j => .int .i64 ((st16 (pre.map Subtype.val)).2 j)) := by rw [hW2]; exact (bR1.setOther (a := ⟨w.heap.size + 1 + 1 + 1, 0, none⟩) (by show w.heap.size + 1 ≠ w.heap.size + 1 + 1 + 1; omega) _).alloc _
    have bU2 : Held16 W2 w.heap.size #[.int .i64 rT, .int .i64 rB] 29 := by
      rw [hW2]
      exact (bU1.of_block (set_other16 W (w.heap.size + 1 + 1 + 1) 0 _ w.heap.size (by omega))).alloc _
    have hB2 : Below w.heap.size W W2 := by
      rw [hW2]
      exact (((Below.refl w.heap.size W).setCell (p := ⟨w.heap.size + 1 + 1 + 1, 0, none⟩) (by show w.heap.size ≤ w.heap.size + 1 + 1 + 1; omega) _).alloc (by have := hB1.size; simp; omega) _).drew
    have hK2 : KeepsOthers W W2 := by
      rw [hW2]
      exact ((KeepsOthers.setCell _ _ _).trans (KeepsOthers.alloc _ _)).trans (KeepsOthers.drew _)
    have hC2 : ∀ v, W.cell? ⟨w.heap.size + 1 + 1 + 1 + 1, 0, none⟩ = some v → W2.cell? ⟨w.heap.size + 1 + 1 + 1 + 1, 0, none⟩ = some v := by
      intro v hv
      rw [hW2]
      have e1 : (W.setCell ⟨w.heap.size + 1 + 1 + 1, 0, none⟩ (.int .i64 T')).cell? ⟨w.heap.size + 1 + 1 + 1 + 1, 0, none⟩ = some v := by
        rw [World.cell?_setCell_other _ _ _ _ (by simp)]; exact hv
      have e2 := cell_kept (row := none) e1 (World.grownBy_alloc (W.setCell ⟨w.heap.size + 1 + 1 + 1, 0, none⟩ (.int .i64 T')) (.cells #[.int .i64 x.1.2.b, .int .i64 x.1.2.n, .int .i64 x.1.2.w, .int .i64 x.1.2.k] 35) none) (fun r e => by cases e)
      exact e2
    have cT2 := bT2.cell
    have cS2 := bS2.cell
    have cR2 := bR2.cell hxl
    have fR2 := bR2.frozen x.1.1
    have hP3' : Below w.heap.size W2 (W2.setCell ⟨w.heap.size + 1, x.1.1, none⟩ (.int .i64 T')) := (Below.refl w.heap.size W2).setCell (p := ⟨w.heap.size + 1, x.1.1, none⟩) (by show w.heap.size ≤ w.heap.size + 1; omega) _
    have hP3 : Kp16 (w.heap.size + 1 + 1 + 1 + 1) w.heap.size W (W2.setCell ⟨w.heap.size + 1, x.1.1, none⟩ (.int .i64 T')) := by
      refine ⟨hB2.trans ((Below.refl w.heap.size W2).setCell (p := ⟨w.heap.size + 1, x.1.1, none⟩) (by show w.heap.size ≤ w.heap.size + 1; omega) _), fun v hv => ?_⟩
      rw [World.cell?_setCell_other _ _ _ _ (by simp)]; exact hC2 v hv
    have hI3 : ((Boxed (W2.setCell ⟨w.heap.size + 1, x.1.1, none⟩ (.int .i64 T')) (w.heap.size + 1 + 1 + 1) 3 (.int .i64 (st16 ((pre ++ [x]).map Subtype.val)).1) ∧ Boxed (W2.setCell ⟨w.heap.size + 1, x.1.1, none⟩ (.int .i64 T')) (w.heap.size + 1 + 1) 44 (.slice (some ⟨w.heap.size + 1, 0, none⟩) len len)) ∧ ((W2.setCell ⟨w.heap.size + 1, x.1.1, none⟩ (.int .i64 T')).rowIs (w.heap.size + 1) 3 len (fun j => .int .i64 ((st16 ((pre ++ [x]).map Subtype.val)).2 j)) ∧ Held16 (W2.setCell ⟨w.heap.size + 1, x.1.1, none⟩ (.int .i64 T')) w.heap.size #[.int .i64 rT, .int .i64 rB] 29)) ∧ Below w.heap.size w (W2.setCell ⟨w.heap.size + 1, x.1.1, none⟩ (.int .i64 T')) := by
      have hst : (step16 (st16 (pre.map Subtype.val)) x.1).1 = T' := hT'
      refine ⟨⟨⟨?_, ?_⟩, ?_, ?_⟩, (hB1.trans hB2).trans hP3'⟩
      · rw [hsn, hst]; exact (set_other16 W2 _ _ _ _ (by omega)).trans bT2
      · exact (set_other16 W2 _ _ _ _ (by omega)).trans bS2
      · refine (bR2.set x.1.1 (.int .i64 T')).congr (fun j _ => ?_)
        rw [hsn]
        show (if j = x.1.1 then Value.int .i64 T' else _) = Value.int .i64 (if j = x.1.1 then _ else _)
        rw [← hT']
        split <;> rfl
      · exact (set_other16 W2 _ _ _ _ (by omega)).trans bU2
    gi_wp2
    gi_region_with_o (gi_at_call 17; refine (CallsIn.inRound l (blocks_in F (n - 1 - 1 - 1) h3 hro x.1.2 _)).mono ?_; rintro e w' ⟨rfl, rfl⟩)
    all_goals rw [← hW2]
    all_goals clear hW2 hwr
    all_goals gi_wp2
    all_goals (try go_bits)
    all_goals exact ⟨(hK2.trans (KeepsOthers.setCell _ _ _)).from _, hP3, hI3⟩
  case done =>
    rintro D ys W hD hys ⟨⟨⟨bT1, bS1⟩, bR1, bU1⟩, hB1⟩ hKd
    rw [hys] at bT1 bR1
    have hmx : Try.prog.follows .mixedOrders = true := by kernel_rfl
    obtain ⟨G, hG⟩ : ∃ G, goB16 zs len rT rB now = G := ⟨_, rfl⟩
    have hdr : drN zs len rT rB now = drG G len len 0 := by unfold drN; rw [hG]
    obtain ⟨R, hR⟩ : ∃ R, (st16 (upto16 (bk16 len zs) len)).2 = R := ⟨_, rfl⟩
    have hgk : ∀ k, G k = (oldB (zs k).w rT now || (decide (0 ≤ rB) && decide (rB < R k))) := by intro k; rw [← hG, ← hR]; rfl
    rw [hR] at bR1
    clear hR hys bT1
    gi_wp2
    obtain hF2 := hF.out
    subst hF2
    refine wpIn_wide.2 ?_
    go_loopw [11] (fun i wr => ∃ k : Nat, (k + 1 ≤ len ∨ k = 0) ∧ i = .int .i64 k ∧ drG G len len 0 = drG G len (len - k) k ∧ Boxed wr (w.heap.size + 1 + 1) 44 (.slice (some ⟨w.heap.size + 1, 0, none⟩) len len) ∧ wr.rowIs (w.heap.size + 1) 3 len (fun j => .int .i64 (R j)) ∧ Held16 wr w.heap.size #[.int .i64 rT, .int .i64 rB] 29 ∧ Below w.heap.size w wr ∧ wr.heap[D]? = some (.deferred (some [])))
      (fun i _ => len - (intOf i).toNat)
    case atStart => exact ⟨0, .inr rfl, rfl, rfl, bS1, bR1, bU1, hB1, hKd⟩
    case round =>
      obtain ⟨k, hk, rfl, hdk, bS2, bR2, bU2, hB2, hKd2⟩ := hrel
      have hnx : ∀ n os, Boxed (Go.Sort.grow (wr.drewN n) os) (w.heap.size + 1 + 1) 44 (.slice (some ⟨w.heap.size + 1, 0, none⟩) len len) ∧ (Go.Sort.grow (wr.drewN n) os).rowIs (w.heap.size + 1) 3 len (fun j => .int .i64 (R j)) ∧ Held16 (Go.Sort.grow (wr.drewN n) os) w.heap.size #[.int .i64 rT, .int .i64 rB] 29 ∧ Below w.heap.size w (Go.Sort.grow (wr.drewN n) os) ∧ (Go.Sort.grow (wr.drewN n) os).heap[D]? = some (.deferred (some [])) := fun n os => by
        have hg := grown16 wr n os wr.heap.size (Nat.le_refl _)
        have hDl : D < wr.heap.size := (Array.getElem?_eq_some_iff.1 hKd2).1
        exact ⟨(hg.block _ bS2.lt).trans bS2, bR2.of_block (hg.block _ bR2.lt), (hg.block _ bU2.lt).trans bU2, hB2.trans (hg.mono hB2.size), (hg.block _ hDl).trans hKd2⟩
      have gT : ∀ n os, (Go.Sort.grow (wr.drewN n) os).cell? ⟨w.heap.size, 0, none⟩ = some (.int .i64 rT) := cell_grown bU2.lt (bU2.cell rfl)
      have gB : ∀ n os, (Go.Sort.grow (wr.drewN n) os).cell? ⟨w.heap.size, 1, none⟩ = some (.int .i64 rB) := cell_grown bU2.lt (bU2.cell rfl)
      have gS : ∀ n os, (Go.Sort.grow (wr.drewN n) os).cell? ⟨w.heap.size + 1 + 1, 0, none⟩ = some (.slice (some ⟨w.heap.size + 1, 0, none⟩) len len) := cell_grown bS2.lt bS2.cell
      have hwl : IntKind.i64.wrap ((len : Int) - 1) = (len : Int) - 1 := by rw [IntKind.wrap_i64]; omega
      have hwk : IntKind.i64.wrap ((k : Int) + 1) = (k : Int) + 1 := by rw [IntKind.wrap_i64]; omega
      by_cases hlt : k + 1 < len
      · have hdl : decide ((k : Int) < (len : Int) - 1) = true := decide_eq_true (by omega)
        have gR : ∀ n os, (Go.Sort.grow (wr.drewN n) os).cell? ⟨w.heap.size + 1, k, none⟩ = some (.int .i64 (R k)) := cell_grown bR2.lt (bR2.cell (show k < len by omega))
        rcases hI.below hB2 with hz | ⟨b, off, rfl, hb, hcs⟩
        · omega
        obtain ⟨c0, c1, c2, c3⟩ := hcs k (by omega)
        have hbw : b < wr.heap.size := Nat.lt_of_lt_of_le hb hB2.size
        have gz0 : ∀ n os, (Go.Sort.grow (wr.drewN n) os).cell? ⟨b, off + k * 4, none⟩ = some (.int .i64 (zs k).b) := cell_grown hbw c0
        have gz1 : ∀ n os, (Go.Sort.grow (wr.drewN n) os).cell? ⟨b, off + k * 4 + 1, none⟩ = some (.int .i64 (zs k).n) := cell_grown hbw c1
        have gz2 : ∀ n os, (Go.Sort.grow (wr.drewN n) os).cell? ⟨b, off + k * 4 + 2, none⟩ = some (.int .i64 (zs k).w) := cell_grown hbw c2
        have gz3 : ∀ n os, (Go.Sort.grow (wr.drewN n) os).cell? ⟨b, off + k * 4 + 3, none⟩ = some (.int .i64 (zs k).k) := cell_grown hbw c3
        clear c0 c1 c2 c3 hcs hb hbw
        have hk0 : (0 : Int) ≤ (k : Int) := by omega
        have hkl : (k : Int) < (len : Int) := by omega
        clear bS2 bR2 bU2 hB2 hKd2 hI
        have hgg := hgk k
        clear hgk
        cases hov : oldB (zs k).w rT now with
        | true =>
          have hOld := old_calls16 (zs k) rT rB now hnow true hov wr
          have hGk : G k = true := by rw [hgg, hov]; rfl
          clear hov hgg
          go_wp2_with fail
          refine wp_region_quiet_grown (by assumption) (by kernel_rfl) ?_
          iterate 28
           (refine wpQuiet_step (fun K hK => ?_)
            go_simp
            first
             | (refine hK _ ?_; clear hK K)
             | (refine ⟨_, hOld, hK _ ?_⟩; clear hK K))
          refine wpQuiet_nil ?_
          intro _ hw
          obtain ⟨⟨nq, osq⟩, hw2⟩ := hw
          subst hw2
          obtain ⟨bS3, bR3, bU3, hB3, hKd3⟩ := hnx nq osq
          clear gT gB gS hnx
          clear gz0 gz1 gz2 gz3 gR hOld
          generalize Go.Sort.grow (wr.drewN nq) osq = wv1 at bS3 bR3 bU3 hB3 hKd3 ⊢
          clear nq osq
          go_wp2
          go_roundw
          case rel => exact ⟨k + 1, by omega, by simp, hdk.trans (drG_goes G len k hlt hGk), bS3, bR3, bU3, hB3, hKd3⟩
          case measure => simp [intOf]; omega
        | false =>
          have hOld := old_calls16 (zs k) rT rB now hnow false hov wr
          by_cases h0B : 0 ≤ rB
          · have hd0 : decide (0 ≤ rB) = true := decide_eq_true h0B
            by_cases hBR : rB < R k
            · have hd1 : decide (rB < R k) = true := decide_eq_true hBR
              have hGk : G k = true := by rw [hgg, hov, hd0, hd1]; rfl
              clear hov hgg
              go_wp2_with fail
              refine wp_region_quiet_grown (by assumption) (by kernel_rfl) ?_
              iterate 28
               (refine wpQuiet_step (fun K hK => ?_)
                go_simp
                first
                 | (refine hK _ ?_; clear hK K)
                 | (refine ⟨_, hOld, hK _ ?_⟩; clear hK K))
              refine wpQuiet_nil ?_
              intro _ hw
              obtain ⟨⟨nq, osq⟩, hw2⟩ := hw
              subst hw2
              obtain ⟨bS3, bR3, bU3, hB3, hKd3⟩ := hnx nq osq
              clear gT gB gS hnx
              clear gz0 gz1 gz2 gz3 gR hOld
              generalize Go.Sort.grow (wr.drewN nq) osq = wv1 at bS3 bR3 bU3 hB3 hKd3 ⊢
              clear nq osq
              go_wp2
              go_roundw
              case rel => exact ⟨k + 1, by omega, by simp, hdk.trans (drG_goes G len k hlt hGk), bS3, bR3, bU3, hB3, hKd3⟩
              case measure => simp [intOf]; omega
            · have hd1 : decide (rB < R k) = false := decide_eq_false hBR
              have hGk : G k = false := by rw [hgg, hov, hd0, hd1]; rfl
              clear hov hgg
              go_wp2_with fail
              refine wp_region_quiet_grown (by assumption) (by kernel_rfl) ?_
              iterate 28
               (refine wpQuiet_step (fun K hK => ?_)
                go_simp
                first
                 | (refine hK _ ?_; clear hK K)
                 | (refine ⟨_, hOld, hK _ ?_⟩; clear hK K))
              refine wpQuiet_nil ?_
              intro _ hw
              obtain ⟨⟨nq, osq⟩, hw2⟩ := hw
              subst hw2
              obtain ⟨bS3, bR3, bU3, hB3, hKd3⟩ := hnx nq osq
              clear gT gB gS hnx
              clear gz0 gz1 gz2 gz3 gR hOld
              generalize Go.Sort.grow (wr.drewN nq) osq = wv1 at bS3 bR3 bU3 hB3 hKd3 ⊢
              clear nq osq
              go_wp2
              gi_wp2
              refine ⟨by simp, .inl ⟨_, _, rfl, run_takeDeferred hKd3, ?_⟩⟩
              refine ⟨_, results_tmp rfl _ _ _, ?_⟩
              exact ⟨by show Ending.returned (Value.int .i64 (k : Int)) = _; rw [hdr, hdk, drG_stops G len k (fun h => by have := h.2.symm.trans hGk; cases this)], hB3.trans (belowK_b (w := w) (Nat.le_refl _) wv1 D _ _ (by omega) hKd3 rfl rfl)⟩
          · have hd0 : decide (0 ≤ rB) = false := decide_eq_false h0B
            have hGk : G k = false := by rw [hgg, hov, hd0]; rfl
            clear hov hgg
            go_wp2_with fail
            refine wp_region_quiet_grown (by assumption) (by kernel_rfl) ?_
            iterate 28
             (refine wpQuiet_step (fun K hK => ?_)
              go_simp
              first
               | (refine hK _ ?_; clear hK K)
               | (refine ⟨_, hOld, hK _ ?_⟩; clear hK K))
            refine wpQuiet_nil ?_
            intro _ hw
            obtain ⟨⟨nq, osq⟩, hw2⟩ := hw
            subst hw2
            obtain ⟨bS3, bR3, bU3, hB3, hKd3⟩ := hnx nq osq
            clear gT gB gS hnx
            clear gz0 gz1 gz2 gz3 gR hOld
            generalize Go.Sort.grow (wr.drewN nq) osq = wv1 at bS3 bR3 bU3 hB3 hKd3 ⊢
            clear nq osq
            go_wp2
            gi_wp2
            refine ⟨by simp, .inl ⟨_, _, rfl, run_takeDeferred hKd3, ?_⟩⟩
            refine ⟨_, results_tmp rfl _ _ _, ?_⟩
            exact ⟨by show Ending.returned (Value.int .i64 (k : Int)) = _; rw [hdr, hdk, drG_stops G len k (fun h => by have := h.2.symm.trans hGk; cases this)], hB3.trans (belowK_b (w := w) (Nat.le_refl _) wv1 D _ _ (by omega) hKd3 rfl rfl)⟩
      · have hdl : decide ((k : Int) < (len : Int) - 1) = false := decide_eq_false (by omega)
        have hOld : True := trivial
        clear hgk bS2 bR2 bU2 hB2 hKd2 hI
        go_wp2_with fail
        refine wp_region_quiet_grown (by assumption) (by kernel_rfl) ?_
        iterate 28
         (refine wpQuiet_step (fun K hK => ?_)
          go_simp
          first
           | (refine hK _ ?_; clear hK K)
           | (refine ⟨_, hOld, hK _ ?_⟩; clear hK K))
        refine wpQuiet_nil ?_
        intro _ hw
        obtain ⟨⟨nq, osq⟩, hw2⟩ := hw
        subst hw2
        obtain ⟨bS3, bR3, bU3, hB3, hKd3⟩ := hnx nq osq
        clear gT gB gS hnx
        generalize Go.Sort.grow (wr.drewN nq) osq = wv1 at bS3 bR3 bU3 hB3 hKd3 ⊢
        clear nq osq
        go_wp2
        gi_wp2
        refine ⟨by simp, .inl ⟨_, _, rfl, run_takeDeferred hKd3, ?_⟩⟩
        refine ⟨_, results_tmp rfl _ _ _, ?_⟩
        exact ⟨by show Ending.returned (Value.int .i64 (k : Int)) = _; rw [hdr, hdk, drG_stops G len k (fun h => hlt h.1)], hB3.trans (belowK_b (w := w) (Nat.le_refl _) wv1 D _ _ (by omega) hKd3 rfl rfl)⟩
  case stop => rintro D c pre W _ _ h _; exact h.elim
end Go.Proofs.Ytbncglnlmcjplaa
