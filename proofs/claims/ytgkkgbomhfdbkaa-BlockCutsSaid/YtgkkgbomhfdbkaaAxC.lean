/- What each operation and region asks and makes, said of abstract values alone. No proof here. -/
import Derived.Test.YtgkkgbomhfdbkaaAxB
namespace Go.Proofs.Ytgkkgbomhfdbkaa
namespace Ax

def cvl : Value → AV
  | .string s => .str s.data.toList
  | .slice none 0 0 => .sg 1 [] true
  | .int k n => .w (.int k n)
  | .bool b => .w (.bool b)
  | .pointer none => .w (.pointer none)
  | .nilFunc => .w .nilFunc
  | .nilIface => .w .nilIface
  | .map none => .w (.map none)
  | _ => .junk

/-- A constant of the text. -/
def cv : Value → AV
  | .agg cs => if (cs.toList.map cvl).all AV.leaf then .agg (cs.toList.map cvl) else .junk
  | v => cvl v

/-- The slot's value. -/
def slot : List AV → Nat → AV
  | [], _ => .junk
  | x :: _, 0 => x
  | _ :: xs, n + 1 => slot xs n

def setSlot : List AV → Nat → AV → List AV
  | [], _, _ => []
  | _ :: xs, 0, y => y :: xs
  | x :: xs, n + 1, y => x :: setSlot xs n y

def ev (sl : List AV) : Operand → AV
  | .tmp t => slot sl t
  | .const v => cv v
  | .func f => .fn f []
  | .global _ => .junk

def AV.okv : AV → Bool
  | .agg _ => true
  | a => a.leaf

def splice (ls : List AV) (off : Nat) (vs : List AV) : List AV := ls.take off ++ (vs ++ ls.drop (off + vs.length))

def asv (ti : TyI) (ls : List AV) : AV := bif ti.d.aggr then .agg ls else slot ls 0

/-- What an operation asks; the value that it makes; the memory behind it. -/
structure Out where
  p : Prop
  x : AV
  H : Heap

def bad : Out := ⟨False, .junk, []⟩

def subv (ti : TyI) (ls : List AV) (f : Nat) (H : Heap) : Out :=
  bif ti.d.aggr then ⟨f + ti.size ≤ ls.length, .agg ((ls.drop f).take ti.size), H⟩ else ⟨f < ls.length, slot ls f, H⟩

def elemLeaves : Blk → Nat → List AV
  | .b bs, i => [.w (byte (bs.getD i 0))]
  | .i ns, i => [.w (word (ns.getD i 0))]
  | .g _ xs, i => (slot xs i).leaves

def Out.and (q : Prop) (o : Out) : Out := ⟨q ∧ o.p, o.x, o.H⟩

def aLoad (T : Types) (t : TypeId) (x : AV) (H : Heap) : Out :=
  match T t with
  | none => bad
  | some ti => match x with
    | .cp ls => subv ti ls 0 H
    | .rf id s i f => match look H id with
      | some blk => (subv ti (elemLeaves blk i) f H).and (s = blk.size ∧ i < blk.len)
      | none => bad
    | _ => bad

def setB (blk : Blk) (i f : Nat) (x : AV) : Prop × Blk :=
  match blk with
  | .b bs => match x with
    | .w (.int .u8 m) => (f = 0 ∧ 0 ≤ m ∧ m < 256, .b (bs.set i (UInt8.ofNat m.toNat)))
    | _ => (False, blk)
  | .i ns => match x with
    | .w (.int .i64 m) => (f = 0, .i (ns.set i m))
    | _ => (False, blk)
  | .g s xs => match slot xs i with
    | .agg ls => (f + x.leaves.length ≤ ls.length, .g s (setSlot xs i (.agg (splice ls f x.leaves))))
    | _ => (f = 0 ∧ x.leaf = true, .g s (setSlot xs i x))

def aStore (T : Types) (t : TypeId) (p x : AV) (H : Heap) : Out :=
  match T t, p with
  | some ti, .rf id s i f => match look H id with
    | some blk => ⟨s = blk.size ∧ i < blk.len ∧ x.leaves.length = ti.size ∧ x.okv = true ∧ (setB blk i f x).1, .junk, put H id (setB blk i f x).2⟩
    | none => bad
  | _, _ => bad

def aPick (c a b : AV) (H : Heap) : Out :=
  match c with
  | .w (.bool t) => match a, b with
    | .w (.bool x), .w (.bool y) => ⟨True, .w (.bool (bif t then x else y)), H⟩
    | _, .w (.bool y) => ⟨t = false, .w (.bool y), H⟩
    | .w (.bool x), _ => ⟨t = true, .w (.bool x), H⟩
    | _, _ => bad
  | _ => bad

def aAlloc (T : Types) (nm : Nat) (e : TypeId) (H : Heap) : Out :=
  match T e with
  | some ti => ⟨0 < ti.size, .rf nm ti.size 0 0, put H nm (.g ti.size [asv ti ti.zero])⟩
  | none => bad

def aBox (T : Types) (nm : Nat) (e : TypeId) (x : AV) (H : Heap) : Out :=
  match T e with
  | some ti => ⟨0 < ti.size ∧ x.leaves.length = ti.size ∧ x.okv = true, .rf nm ti.size 0 0, put H nm (.g ti.size [x])⟩
  | none => bad

def fillS (T : Types) (fs : List (Nat × TypeId)) : List (Nat × AV) → List AV → Prop × List AV
  | [], ls => (True, ls)
  | (i, x) :: r, ls => match fs[i]? with
    | some (off, ty) => match T ty with
      | some ti => (x.leaves.length = ti.size ∧ x.okv = true ∧ off + ti.size ≤ ls.length ∧ (fillS T fs r (splice ls off x.leaves)).1, (fillS T fs r (splice ls off x.leaves)).2)
      | none => (False, [])
    | none => (False, [])

def fillA (s : Nat) : List (Nat × AV) → List AV → Prop × List AV
  | [], ls => (True, ls)
  | (i, x) :: r, ls => (x.leaves.length = s ∧ x.okv = true ∧ i * s + s ≤ ls.length ∧ (fillA s r (splice ls (i * s) x.leaves)).1, (fillA s r (splice ls (i * s) x.leaves)).2)

def allTy (T : Types) : List (Nat × TypeId) → Prop
  | [] => True
  | p :: r => match T p.2 with
    | some _ => allTy T r
    | none => False

def aBuild (T : Types) (t : TypeId) (ps : List (Nat × AV)) (H : Heap) : Out :=
  match T t with
  | some ti => match ti.d with
    | .struct fs => ⟨allTy T fs ∧ (fillS T fs ps ti.zero).1, .agg (fillS T fs ps ti.zero).2, H⟩
    | .arr _ e => match T e with
      | some te => ⟨(fillA te.size ps ti.zero).1, .agg (fillA te.size ps ti.zero).2, H⟩
      | none => bad
    | _ => bad
  | none => bad

def fillB : List (Nat × AV) → List UInt8 → Prop × List UInt8
  | [], bs => (True, bs)
  | (i, x) :: r, bs => match x with
    | .w (.int .u8 m) => (i < bs.length ∧ 0 ≤ m ∧ m < 256 ∧ (fillB r (bs.set i (UInt8.ofNat m.toNat))).1, (fillB r (bs.set i (UInt8.ofNat m.toNat))).2)
    | _ => (False, [])

def fillI : List (Nat × AV) → List Int → Prop × List Int
  | [], ns => (True, ns)
  | (i, x) :: r, ns => match x with
    | .w (.int .i64 m) => (i < ns.length ∧ (fillI r (ns.set i m)).1, (fillI r (ns.set i m)).2)
    | _ => (False, [])

def fillG (s : Nat) : List (Nat × AV) → List AV → Prop × List AV
  | [], xs => (True, xs)
  | (i, x) :: r, xs => (i < xs.length ∧ x.leaves.length = s ∧ x.okv = true ∧ (fillG s r (setSlot xs i x)).1, (fillG s r (setSlot xs i x)).2)

def aBuildSlice (T : Types) (nm : Nat) (t : TypeId) (n : Nat) (ps : List (Nat × AV)) (H : Heap) : Out :=
  match T t with
  | some ti => match ti.d with
    | .slice e => match T e with
      | some te => match te.d with
        | .int .u8 => ⟨te.size = 1 ∧ te.zero = [.w (.int .u8 0)] ∧ n ≤ 16777216 ∧ (fillB ps (List.replicate n 0)).1, .ms nm 1 0 n, put H nm (.b (fillB ps (List.replicate n 0)).2)⟩
        | .int .i64 => ⟨te.size = 1 ∧ te.zero = [.w (.int .i64 0)] ∧ n ≤ 16777216 ∧ (fillI ps (List.replicate n 0)).1, .ms nm 1 0 n, put H nm (.i (fillI ps (List.replicate n 0)).2)⟩
        | _ => ⟨0 < te.size ∧ n * te.size ≤ 16777216 ∧ (fillG te.size ps (List.replicate n (asv te te.zero))).1, .ms nm te.size 0 n,
            put H nm (.g te.size (fillG te.size ps (List.replicate n (asv te te.zero))).2)⟩
      | none => bad
    | _ => bad
  | none => bad

def aNil (x : AV) (H : Heap) : Out :=
  match x with
  | .rf id s i f => match look H id with
    | some _ => ⟨True, .rf id s i f, H⟩
    | none => bad
  | .cp ls => ⟨True, .cp ls, H⟩
  | .fn f cs => ⟨True, .fn f cs, H⟩
  | _ => bad

def aInt (op : BinOp) (k : IntKind) (a : Int) (k' : IntKind) (b : Int) : Prop × Value :=
  match op with
  | .shl => (0 ≤ b, .int k (k.wrap (a * 2 ^ min b.toNat k.bits)))
  | .shr => (0 ≤ b, .int k (a / 2 ^ min b.toNat k.bits))
  | .add => (k = k', .int k (k.wrap (a + b)))
  | .sub => (k = k', .int k (k.wrap (a - b)))
  | .mul => (k = k', .int k (k.wrap (a * b)))
  | .quo => (k = k' ∧ b ≠ 0, .int k (k.wrap (a.tdiv b)))
  | .rem => (k = k' ∧ b ≠ 0, .int k (a.tmod b))
  | .and => (k = k', .int k (bits .and k a b))
  | .or => (k = k', .int k (bits .or k a b))
  | .xor => (k = k', .int k (bits .xor k a b))
  | .andNot => (k = k', .int k (bits .andNot k a b))
  | .eql => (k = k', .bool (decide (a = b)))
  | .neq => (k = k', .bool (!decide (a = b)))
  | .lss => (k = k', .bool (decide (a < b)))
  | .leq => (k = k', .bool (decide (a ≤ b)))
  | .gtr => (k = k', .bool (decide (b < a)))
  | .geq => (k = k', .bool (decide (b ≤ a)))

def aStr (op : BinOp) (a b : List UInt8) : Prop × AV :=
  match op with
  | .add => (a.length + b.length ≤ 1099511627776, .str (a ++ b))
  | .eql => (True, .w (.bool (decide (a = b))))
  | .neq => (True, .w (.bool (!decide (a = b))))
  | .lss => (True, .w (.bool (Op.bytesLess a b)))
  | .leq => (True, .w (.bool (Op.bytesLess a b || decide (a = b))))
  | .gtr => (True, .w (.bool (!(Op.bytesLess a b || decide (a = b)))))
  | .geq => (True, .w (.bool (!(Op.bytesLess a b))))
  | _ => (False, .junk)

def aEq (op : BinOp) (r : Bool) (H : Heap) : Out :=
  match op with
  | .eql => ⟨True, .w (.bool r), H⟩
  | .neq => ⟨True, .w (.bool (!r)), H⟩
  | _ => bad

def isPtr (T : Types) (t : TypeId) : Prop :=
  match T t with
  | some ti => match ti.d with
    | .ptr => True
    | _ => False
  | none => False

def isBool (T : Types) (t : TypeId) : Prop :=
  match T t with
  | some ti => match ti.d with
    | .bool => True
    | _ => False
  | none => False

/-- The fields, one by one. -/
def eqF (S : TypeId → AV → AV → Prop × Bool) (T : Types) : List (Nat × TypeId) → List AV → List AV → Prop × Bool
  | [], _, _ => (True, true)
  | p :: r, xs, ys => match T p.2 with
    | none => (False, false)
    | some te => ((subv te xs p.1 []).p ∧ (subv te ys p.1 []).p ∧ (S p.2 (subv te xs p.1 []).x (subv te ys p.1 []).x).1 ∧ (eqF S T r xs ys).1, (S p.2 (subv te xs p.1 []).x (subv te ys p.1 []).x).2 && (eqF S T r xs ys).2)

def eqV (T : Types) : Nat → TypeId → AV → AV → Prop × Bool
  | 0, _, _, _ => (False, false)
  | n + 1, t, x, y => match T t with
    | none => (False, false)
    | some i => match i.d with
      | .int _ => match x, y with
        | .w (.int k1 a), .w (.int k2 b) => (k1 = k2, decide (a = b))
        | _, _ => (False, false)
      | .bool => match x, y with
        | .w (.bool a), .w (.bool b) => (True, a == b)
        | _, _ => (False, false)
      | .str => match x, y with
        | .str a, .str b => (True, decide (a = b))
        | _, _ => (False, false)
      | .struct fs => match x, y with
        | .agg xs, .agg ys => eqF (eqV T n) T fs xs ys
        | _, _ => (False, false)
      | _ => (False, false)

def isStruct (T : Types) (t : TypeId) : Prop :=
  match T t with
  | some ti => match ti.d with
    | .struct _ => True
    | _ => False
  | none => False

def aBin (T : Types) (op : BinOp) (t : TypeId) (x y : AV) (H : Heap) : Out :=
  match x, y with
  | .w (.int k a), .w (.int k' b) => ⟨(aInt op k a k' b).1, .w (aInt op k a k' b).2, H⟩
  | .str a, .str b => ⟨(aStr op a b).1, (aStr op a b).2, H⟩
  | .w (.bool a), .w (.bool b) => (aEq op (a == b) H).and (isBool T t)
  | .rf id _ _ _, .w (.pointer none) => match look H id with
    | some _ => (aEq op false H).and (isPtr T t)
    | none => bad
  | .w (.pointer none), .w (.pointer none) => (aEq op true H).and (isPtr T t)
  | .agg xs, .agg ys => (aEq op (eqV T 4 t (.agg xs) (.agg ys)).2 H).and (isStruct T t ∧ (eqV T 4 t (.agg xs) (.agg ys)).1)
  | _, _ => bad

def aUn (op : UnOp) (x : AV) (H : Heap) : Out :=
  match op, x with
  | .not, .w (.bool b) => ⟨True, .w (.bool (!b)), H⟩
  | .neg, .w (.int k n) => ⟨True, .w (.int k (k.wrap (0 - n))), H⟩
  | .xor, .w (.int k n) => ⟨True, .w (.int k (bits .xor k (bif k.signed then -1 else k.max) n)), H⟩
  | _, _ => bad

/-- The bytes that a slice of bytes holds. -/
def viewB (H : Heap) (x : AV) : Prop × List UInt8 :=
  match x with
  | .sb bs _ => (True, bs)
  | .sg _ [] _ => (True, [])
  | .ms id s off len => match look H id with
    | some (.b bs) => (s = 1 ∧ off + len ≤ bs.length, (bs.drop off).take len)
    | _ => (False, [])
  | _ => (False, [])

def viewI (H : Heap) (x : AV) : Prop × List Int :=
  match x with
  | .si ns _ => (True, ns)
  | .sg _ [] _ => (True, [])
  | .ms id s off len => match look H id with
    | some (.i ns) => (s = 1 ∧ off + len ≤ ns.length, (ns.drop off).take len)
    | _ => (False, [])
  | _ => (False, [])

def viewG (s : Nat) (H : Heap) (x : AV) : Prop × List AV :=
  match x with
  | .sg s' xs _ => (xs = [] ∨ s' = s, xs)
  | .ms id s' off len => match look H id with
    | some (.g s'' xs) => (s' = s ∧ s'' = s ∧ off + len ≤ xs.length, (xs.drop off).take len)
    | _ => (False, [])
  | _ => (False, [])

def isBytes (T : Types) (t : TypeId) : Prop :=
  match T t with
  | some ti => match ti.d with
    | .slice e => match T e with
      | some te => match te.d with
        | .int .u8 => True
        | _ => False
      | none => False
    | _ => False
  | none => False

def aConv (T : Types) (src dst : TypeId) (nm : Nat) (x : AV) (H : Heap) : Out :=
  match T src, T dst with
  | some _, some b => match b.d with
    | .int k => match x with
      | .w (.int _ n) => ⟨True, .w (.int k (k.wrap n)), H⟩
      | _ => bad
    | .str => match x with
      | .str bs => ⟨True, .str bs, H⟩
      | _ => ⟨isBytes T src ∧ (viewB H x).1, .str (viewB H x).2, H⟩
    | .slice _ => match x with
      | .str bs => ⟨isBytes T dst ∧ bs.length ≤ 1099511627776, .ms nm 1 0 bs.length, put H nm (.b bs)⟩
      | .ms id s off len => match look H id with
        | some blk => ⟨isBytes T dst ∧ src = dst ∧ 0 < blk.len, .ms id s off len, put H id blk⟩
        | none => bad
      | _ => bad
    | _ => bad
  | _, _ => bad

def aMake (T : Types) (nm : Nat) (t : TypeId) (l c : AV) (H : Heap) : Out :=
  match T t with
  | some ti => match ti.d with
    | .slice e => match T e with
      | some te => match l, c with
        | .w (.int _ n), .w (.int _ m) => (match te.d with
            | .int .u8 => ⟨te.zero = [.w (.int .u8 0)], .ms nm te.size 0 n.toNat, put H nm (.b (List.replicate n.toNat 0))⟩
            | .int .i64 => ⟨te.zero = [.w (.int .i64 0)], .ms nm te.size 0 n.toNat, put H nm (.i (List.replicate n.toNat 0))⟩
            | _ => ⟨True, .ms nm te.size 0 n.toNat, put H nm (.g te.size (List.replicate n.toNat (asv te te.zero)))⟩ : Out).and (0 < te.size ∧ 0 < te.bytes ∧ 0 ≤ n ∧ n ≤ m ∧ m * te.bytes ≤ 1099511627776)
        | _, _ => bad
      | none => bad
    | _ => bad
  | none => bad

def bnd (o : Option AV) (d : Nat) : Prop × Nat :=
  match o with
  | none => (True, d)
  | some (.w (.int _ n)) => (0 ≤ n, n.toNat)
  | _ => (False, 0)

def full3 (full : Bool) (hi mx : Option AV) (h m : Nat) : Bool :=
  match mx with
  | some _ => decide (m = h)
  | none => match hi with
    | some _ => false
    | none => full

def bnds (lo hi mx : Option AV) (n : Nat) : Prop :=
  (bnd lo 0).1 ∧ (bnd hi n).1 ∧ (bnd mx n).1 ∧ (bnd lo 0).2 ≤ (bnd hi n).2 ∧ (bnd hi n).2 ≤ (bnd mx n).2 ∧ (bnd mx n).2 ≤ n

def cut {α : Type} (xs : List α) (lo hi : Option AV) : List α := (xs.drop (bnd lo 0).2).take ((bnd hi xs.length).2 - (bnd lo 0).2)

def aSlice (T : Types) (t : TypeId) (x : AV) (lo hi mx : Option AV) (H : Heap) : Out :=
  match T t with
  | none => bad
  | some ti => match ti.d with
    | .str => match x with
      | .str bs => ⟨mx.isNone = true ∧ bnds lo hi none bs.length, .str (cut bs lo hi), H⟩
      | _ => bad
    | .slice e => match T e with
      | none => bad
      | some te => match x with
        | .sb bs full => ⟨te.size = 1 ∧ bnds lo hi mx bs.length, .sb (cut bs lo hi) (full3 full hi mx (bnd hi bs.length).2 (bnd mx bs.length).2), H⟩
        | .si ns full => ⟨te.size = 1 ∧ bnds lo hi mx ns.length, .si (cut ns lo hi) (full3 full hi mx (bnd hi ns.length).2 (bnd mx ns.length).2), H⟩
        | .sg s xs full => ⟨te.size = s ∧ bnds lo hi mx xs.length, .sg s (cut xs lo hi) (full3 full hi mx (bnd hi xs.length).2 (bnd mx xs.length).2), H⟩
        | .ms id s off len => match look H id with
          | some _ => ⟨te.size = s ∧ bnds lo hi mx len, .ms id s (off + (bnd lo 0).2) ((bnd hi len).2 - (bnd lo 0).2), H⟩
          | none => bad
        | _ => bad
    | _ => bad

def aFieldAddr (T : Types) (s : TypeId) (x : AV) (f : Nat) (H : Heap) : Out :=
  match T s with
  | none => bad
  | some ti => match ti.d with
    | .struct fs => match fs[f]? with
      | some (off, ty) => match T ty with
        | none => bad
        | some te => match x with
          | .rf id z i g => match look H id with
            | some _ => ⟨0 < te.size, .rf id z i (g + off), H⟩
            | none => bad
          | .cp ls => ⟨0 < te.size ∧ off < ls.length, .cp (ls.drop off), H⟩
          | _ => bad
      | none => bad
    | _ => bad

def aField (T : Types) (t : TypeId) (x : AV) (f : Nat) (H : Heap) : Out :=
  match T t with
  | none => bad
  | some ti => match ti.d with
    | .struct fs => match x with
      | .agg ls => match fs[f]? with
        | some (off, ty) => match T ty with
          | some te => subv te ls off H
          | none => bad
        | none => bad
      | _ => bad
    | _ => bad

def aIndexAddr (T : Types) (t : TypeId) (x i : AV) (H : Heap) : Out :=
  match T t, i with
  | some ti, .w (.int _ n) => match ti.d with
    | .slice e => match T e with
      | none => bad
      | some te => match x with
        | .sb bs _ => ⟨0 ≤ n ∧ te.size = 1 ∧ n.toNat < bs.length, .cp [.w (byte (bs.getD n.toNat 0))], H⟩
        | .si ns _ => ⟨0 ≤ n ∧ te.size = 1 ∧ n.toNat < ns.length, .cp [.w (word (ns.getD n.toNat 0))], H⟩
        | .sg s xs _ => ⟨0 ≤ n ∧ te.size = s ∧ 0 < s ∧ n.toNat < xs.length, .cp (slot xs n.toNat).leaves, H⟩
        | .ms id s off len => match look H id with
          | some _ => ⟨0 ≤ n ∧ te.size = s ∧ n.toNat < len, .rf id s (off + n.toNat) 0, H⟩
          | none => bad
        | _ => bad
    | .arr m e => match T e with
      | none => bad
      | some te => match x with
        | .rf id s j f => match look H id with
          | some _ => ⟨0 ≤ n ∧ n < m, .rf id s j (f + n.toNat * te.size), H⟩
          | none => bad
        | .cp ls => ⟨0 ≤ n ∧ n < m ∧ n.toNat * te.size < ls.length, .cp (ls.drop (n.toNat * te.size)), H⟩
        | _ => bad
    | _ => bad
  | _, _ => bad

def aIndex (T : Types) (t : TypeId) (x i : AV) (H : Heap) : Out :=
  match T t, i with
  | some ti, .w (.int _ n) => match ti.d with
    | .str => match x with
      | .str bs => ⟨0 ≤ n ∧ n.toNat < bs.length, .w (byte (bs.getD n.toNat 0)), H⟩
      | _ => bad
    | .arr m e => match x with
      | .agg ls => match T e with
        | some te => (subv te ls (n.toNat * te.size) H).and (0 ≤ n ∧ n < m)
        | none => bad
      | _ => bad
    | _ => bad
  | _, _ => bad

def aExtract (x : AV) (i : Nat) (H : Heap) : Out :=
  match x with
  | .tup xs => ⟨i < xs.length, slot xs i, H⟩
  | _ => bad

def aLen (T : Types) (t : TypeId) (x : AV) (H : Heap) : Out :=
  match T t with
  | none => bad
  | some ti => match ti.d with
    | .str => match x with
      | .str bs => ⟨True, .w (word bs.length), H⟩
      | _ => bad
    | .slice _ => match x with
      | .sb bs _ => ⟨True, .w (word bs.length), H⟩
      | .si ns _ => ⟨True, .w (word ns.length), H⟩
      | .sg _ xs _ => ⟨True, .w (word xs.length), H⟩
      | .ms id _ _ len => match look H id with
        | some _ => ⟨True, .w (word len), H⟩
        | none => bad
      | _ => bad
    | .arr n _ => ⟨True, .w (word n), H⟩
    | _ => bad

def aMin (l : List AV) (H : Heap) : Out :=
  match l with
  | [.w (.int k x), .w (.int _ y)] => ⟨True, .w (.int k (if y < x then y else x)), H⟩
  | _ => bad

def aMax (l : List AV) (H : Heap) : Out :=
  match l with
  | [.w (.int k x), .w (.int _ y)] => ⟨True, .w (.int k (if y > x then y else x)), H⟩
  | _ => bad

def top : Nat := 4294967296

def appendB (nm : Nat) (d : AV) (ys : List UInt8) (H : Heap) : Out :=
  match d with
  | .sb bs full => ⟨full = true ∧ (bs = [] ∨ ys ≠ []) ∧ bs.length + ys.length ≤ top, .ms nm 1 0 (bs.length + ys.length), put H nm (.b (bs ++ ys))⟩
  | .sg _ [] full => ⟨full = true ∧ ys.length ≤ top, .ms nm 1 0 ys.length, put H nm (.b ys)⟩
  | .ms id s off len => match look H id with
    | some (.b bs) => ⟨s = 1 ∧ off = 0 ∧ len = bs.length ∧ bs.length + ys.length ≤ top, .ms nm 1 0 (bs.length + ys.length), put (drop H id) nm (.b (bs ++ ys))⟩
    | _ => bad
  | _ => bad

def appendI (nm : Nat) (d : AV) (ys : List Int) (H : Heap) : Out :=
  match d with
  | .si ns full => ⟨full = true ∧ (ns = [] ∨ ys ≠ []) ∧ ns.length + ys.length ≤ top, .ms nm 1 0 (ns.length + ys.length), put H nm (.i (ns ++ ys))⟩
  | .sg _ [] full => ⟨full = true ∧ ys.length ≤ top, .ms nm 1 0 ys.length, put H nm (.i ys)⟩
  | .ms id s off len => match look H id with
    | some (.i ns) => ⟨s = 1 ∧ off = 0 ∧ len = ns.length ∧ ns.length + ys.length ≤ top, .ms nm 1 0 (ns.length + ys.length), put (drop H id) nm (.i (ns ++ ys))⟩
    | _ => bad
  | _ => bad

def appendG (s : Nat) (nm : Nat) (d : AV) (ys : List AV) (H : Heap) : Out :=
  match d with
  | .sg s' xs full => ⟨full = true ∧ (xs = [] ∨ (s' = s ∧ ys ≠ [])) ∧ xs.length + ys.length ≤ top, .ms nm s 0 (xs.length + ys.length), put H nm (.g s (xs ++ ys))⟩
  | .ms id s' off len => match look H id with
    | some (.g s'' xs) => ⟨s' = s ∧ s'' = s ∧ off = 0 ∧ len = xs.length ∧ xs.length + ys.length ≤ top, .ms nm s 0 (xs.length + ys.length), put (drop H id) nm (.g s (xs ++ ys))⟩
    | _ => bad
  | _ => bad

def aAppend (T : Types) (nm : Nat) (ts : List TypeId) (d x : AV) (H : Heap) : Out :=
  match ts with
  | [t, u] => match T t, T u with
    | some ti, some tu => match ti.d with
      | .slice e => match T e with
        | none => bad
        | some te => match te.d with
          | .int .u8 => match tu.d with
            | .str => match x with
              | .str ys => (appendB nm d ys H).and (te.size = 1 ∧ te.bytes ≤ 1024)
              | _ => bad
            | .slice _ => (appendB nm d (viewB H x).2 H).and (te.size = 1 ∧ te.bytes ≤ 1024 ∧ (viewB H x).1)
            | .int _ => match x with
              | .w (.int _ n) => (appendB nm d (List.replicate n.toNat 0) H).and (te.size = 1 ∧ te.bytes ≤ 1024 ∧ te.zero = [.w (.int .u8 0)] ∧ 0 ≤ n)
              | _ => bad
            | _ => bad
          | .int .i64 => match tu.d with
            | .slice _ => (appendI nm d (viewI H x).2 H).and (te.size = 1 ∧ te.bytes ≤ 1024 ∧ (viewI H x).1)
            | _ => bad
          | _ => match tu.d with
            | .slice _ => (appendG te.size nm d (viewG te.size H x).2 H).and (0 < te.size ∧ te.bytes ≤ 1024 ∧ (viewG te.size H x).1)
            | _ => bad
      | _ => bad
    | _, _ => bad
  | _ => bad

/-- What is copied from: bytes, or a text. -/
def srcB (H : Heap) (x : AV) : Prop × List UInt8 :=
  match x with
  | .str bs => (True, bs)
  | _ => viewB H x

def aCopy (T : Types) (ts : List TypeId) (d x : AV) (H : Heap) : Out :=
  match ts with
  | t :: _ => match T t with
    | some ti => match ti.d with
      | .slice e => match T e with
        | some te => match d with
          | .ms id s off len => match look H id with
            | some (.b bs) => (⟨s = 1 ∧ off + len ≤ bs.length ∧ bs.length ≤ top ∧ (srcB H x).1, .w (word ((min (srcB H x).2.length len : Nat) : Int)), put H id (.b (bs.take off ++ ((srcB H x).2.take len ++ bs.drop (off + min (srcB H x).2.length len))))⟩ : Out).and (te.size = 1)
            | _ => bad
          | _ => bad
        | none => bad
      | _ => bad
    | none => bad
  | _ => bad

/-- What a function asks of its arguments, and of the blocks that they lead to; what it answers; those blocks behind it, and new ones. -/
structure Res where
  p : Prop
  x : AV
  bl : List Blk

abbrev FSpec := List AV → List Blk → Res
abbrev FSpecs := FuncId → Option FSpec

def noRes : Res := ⟨False, .junk, []⟩

def coe (T : Types) (t : TypeId) (x : AV) : AV :=
  match x with
  | .sg _ [] f => match T t with
    | some ti => match ti.d with
      | .slice e => match T e with
        | some te => match te.d with
          | .int .u8 => .sb [] f
          | .int .i64 => .si [] f
          | _ => .sg te.size [] f
        | none => x
      | _ => x
    | none => x
  | _ => x

def coes (T : Types) : List TypeId → List AV → List AV
  | t :: ts, x :: xs => coe T t x :: coes T ts xs
  | _, xs => xs

mutual
/-- The blocks that are handed on to be written. -/
def AV.roots : AV → List Nat
  | .agg xs => rootsL xs
  | .fn _ cs => rootsL cs
  | .rf id _ _ _ => [id]
  | _ => []
def rootsL : List AV → List Nat
  | [] => []
  | x :: xs => x.roots ++ rootsL xs
end

mutual
/-- Is a slice of the call's own lent? -/
def AV.lends : AV → Bool
  | .agg xs => lendsL xs
  | .fn _ cs => lendsL cs
  | .ms _ _ _ _ => true
  | _ => false
def lendsL : List AV → Bool
  | [] => false
  | x :: xs => x.lends || lendsL xs
end

mutual
/-- The names of the slices of the call's own that are lent. -/
def AV.lentIds : AV → List Nat
  | .agg xs => lentIdsL xs
  | .fn _ cs => lentIdsL cs
  | .ms id _ _ _ => [id]
  | _ => []
def lentIdsL : List AV → List Nat
  | [] => []
  | x :: xs => x.lentIds ++ lentIdsL xs
end

def dropAll (H : Heap) : List Nat → Heap
  | [] => H
  | id :: r => drop (dropAll H r) id

def idx (id : Nat) : List Nat → Nat
  | [] => 0
  | k :: r => bif k == id then 0 else idx id r + 1

mutual
/-- An argument as the callee sees it. -/
def lend (H : Heap) (ids : List Nat) (x : AV) : Prop × AV :=
  match x with
  | .agg xs => ((lendL H ids xs).1, .agg (lendL H ids xs).2)
  | .fn f cs => ((lendL H ids cs).1, .fn f (lendL H ids cs).2)
  | .tup _ => (False, .junk)
  | .rf id s i f => (True, .rf (idx id ids) s i f)
  | .ms id s off len => match look H id with
    | some (.b bs) => (s = 1 ∧ off + len ≤ bs.length ∧ ¬ id ∈ ids, .sb ((bs.drop off).take len) false)
    | some (.i ns) => (s = 1 ∧ off + len ≤ ns.length ∧ ¬ id ∈ ids, .si ((ns.drop off).take len) false)
    | some (.g s' xs) => (s' = s ∧ off + len ≤ xs.length ∧ ¬ id ∈ ids ∧ (∀ y ∈ (xs.drop off).take len, y.closed = true), .sg s ((xs.drop off).take len) false)
    | none => (False, .junk)
  | .w v => (True, .w v)
  | .str bs => (True, .str bs)
  | .sb bs f => (True, .sb bs f)
  | .si ns f => (True, .si ns f)
  | .sg s xs f => (True, .sg s xs f)
  | .cp ls => (True, .cp ls)
  | .junk => (True, .junk)
def lendL (H : Heap) (ids : List Nat) (xs : List AV) : Prop × List AV :=
  match xs with
  | [] => (True, [])
  | x :: xs => ((lend H ids x).1 ∧ (lendL H ids xs).1, (lend H ids x).2 :: (lendL H ids xs).2)
end

mutual
def AV.ren (g : Nat → Nat) : AV → AV
  | .agg xs => .agg (renL g xs)
  | .tup xs => .tup (renL g xs)
  | .fn f cs => .fn f (renL g cs)
  | .ms id s off len => .ms (g id) s off len
  | .rf id s i f => .rf (g id) s i f
  | x => x
def renL (g : Nat → Nat) : List AV → List AV
  | [] => []
  | x :: xs => x.ren g :: renL g xs
end

def Blk.closed : Blk → Bool
  | .g _ xs => closedL xs
  | _ => true

mutual
/-- No memory is reached that the call did not make. -/
def AV.noimm : AV → Bool
  | .agg xs => noimmL xs
  | .tup xs => noimmL xs
  | .fn _ cs => noimmL cs
  | .sb bs _ => bs.isEmpty
  | .si ns _ => ns.isEmpty
  | .sg _ xs _ => xs.isEmpty
  | .cp _ => false
  | _ => true
def noimmL : List AV → Bool
  | [] => true
  | x :: xs => x.noimm && noimmL xs
end

def Blk.noimm : Blk → Bool
  | .g _ xs => noimmL xs
  | _ => true

mutual
/-- It shows no memory but new blocks. -/
def AV.clean : AV → Bool
  | .agg xs => cleanL xs
  | .tup xs => cleanL xs
  | .fn _ cs => cleanL cs
  | .sb _ _ => false
  | .si _ _ => false
  | .sg _ _ _ => false
  | .cp _ => false
  | _ => true
def cleanL : List AV → Bool
  | [] => true
  | x :: xs => x.clean && cleanL xs
end

def Blk.clean : Blk → Bool
  | .g _ xs => cleanL xs
  | _ => true

def cleanB : List Blk → Bool
  | [] => true
  | b :: r => b.clean && cleanB r

def noimmB : List Blk → Bool
  | [] => true
  | b :: r => b.noimm && noimmB r

def closedB : List Blk → Bool
  | [] => true
  | b :: r => b.closed && closedB r

def pinsOf (H : Heap) : List Nat → Prop × List Blk
  | [] => (True, [])
  | id :: r => match look H id with
    | some b => (b.closed = true ∧ (pinsOf H r).1, b :: (pinsOf H r).2)
    | none => (False, [])

def nodup : List Nat → Bool
  | [] => true
  | a :: r => !r.contains a && nodup r

/-- The blocks that come back: those that were handed on, and new ones. -/
def back (g : Nat → Nat) (H : Heap) : Nat → List Blk → Heap
  | _, [] => H
  | k, b :: r => put (back g H (k + 1) r) (g k) b

def gOf : List Nat → Nat → Nat → Nat
  | [], nm, k => nm + k
  | id :: _, _, 0 => id
  | _ :: r, nm, k + 1 => gOf r nm k

/-- The lent slices that are given up: the answer may show them. -/
def givenUp (r : Res) : List Nat → List Nat
  | [] => []
  | id :: l => bif r.x.clean && cleanB r.bl then [] else id :: l

def callOut (nm : Nat) (ids lent : List Nat) (m : Nat) (q : Prop) (H : Heap) (r : Res) : Out :=
  ⟨q ∧ r.p ∧ m ≤ r.bl.length ∧ r.bl.length ≤ m + 8 ∧ closedB r.bl = true, r.x.ren (gOf ids nm), back (gOf ids nm) (dropAll H (givenUp r lent)) 0 r.bl⟩

def aUser (S : FSpecs) (nm : Nat) (f : FuncId) (args : List AV) (H : Heap) : Out :=
  match S f with
  | some spec => callOut nm (rootsL args) (lentIdsL args) (pinsOf H (rootsL args)).2.length (nodup (rootsL args) = true ∧ (pinsOf H (rootsL args)).1 ∧ (lendL H (rootsL args) args).1) H
      (spec (lendL H (rootsL args) args).2 (pinsOf H (rootsL args)).2)
  | none => bad

def evs (sl : List AV) : List Operand → List AV
  | [] => []
  | o :: r => ev sl o :: evs sl r

def evps (sl : List AV) : List (Nat × Operand) → List (Nat × AV)
  | [] => []
  | o :: r => (o.1, ev sl o.2) :: evps sl r

/-- A type whose values lead to no memory. -/
def flatTy (T : Types) (t : TypeId) : Bool :=
  match T t with
  | some i => !(i.flat == 0) || match i.d with
    | .int _ => true
    | .bool => true
    | .str => true
    | _ => false
  | none => false

/-- Is the text made of data that nobody writes? -/
def coldStr (T : Types) (d : TypeId) : Bool :=
  match T d with
  | some i => i.flat == 2 && match i.d with
    | .str => true
    | _ => false
  | none => false

def notMs : AV → Prop
  | .ms _ _ _ _ => False
  | _ => True

/-- A call by name that is handed plain values alone. -/
def quietC (T : Types) (c : Call) : Bool :=
  match c.callee with
  | .value (.func _) => c.argTypes.toList.all (flatTy T)
  | _ => false

def aCall (S : FSpecs) (T : Types) (nm : Nat) (sl : List AV) (c : Call) (H : Heap) : Out :=
  match c.callee with
  | .builtin .len => match c.args.toList, c.argTypes.toList with
    | [x], [t] => aLen T t (ev sl x) H
    | _, _ => bad
  | .builtin .min => aMin (evs sl c.args.toList) H
  | .builtin .max => aMax (evs sl c.args.toList) H
  | .builtin .append => match c.args.toList with
    | [d, x] => aAppend T nm c.argTypes.toList (ev sl d) (ev sl x) H
    | _ => bad
  | .builtin .copy => match c.args.toList with
    | [d, x] => aCopy T c.argTypes.toList (ev sl d) (ev sl x) H
    | _ => bad
  | .value f => match ev sl f with
    | .fn f caps => (aUser S nm f (coes T c.argTypes.toList (evs sl c.args.toList) ++ caps) H).and (quietC T c = true → rootsL (coes T c.argTypes.toList (evs sl c.args.toList) ++ caps) = [] ∧ lentIdsL (coes T c.argTypes.toList (evs sl c.args.toList) ++ caps) = [])
    | _ => bad
  | _ => bad

def evo (sl : List AV) : Option Operand → Option AV
  | some o => some (ev sl o)
  | none => none

def aop (S : FSpecs) (T : Types) (nm : Nat) (sl : List AV) (op : Op) (H : Heap) : Out :=
  match op with
  | .move x => ⟨True, ev sl x, H⟩
  | .assign x => ⟨True, ev sl x, H⟩
  | .pick c a b => aPick (ev sl c) (ev sl a) (ev sl b) H
  | .alloc e => aAlloc T nm e H
  | .box e x => aBox T nm e (ev sl x) H
  | .build t ps => aBuild T t (evps sl ps.toList) H
  | .buildSlice t n ps => aBuildSlice T nm t n (evps sl ps.toList) H
  | .load t a => aLoad T t (ev sl a) H
  | .store t a x => aStore T t (ev sl a) (ev sl x) H
  | .nilCheck x => aNil (ev sl x) H
  | .binOp op t x y _ => aBin T op t (ev sl x) (ev sl y) H
  | .unOp op _ x => aUn op (ev sl x) H
  | .convert s d x => (aConv T s d nm (ev sl x) H).and (coldStr T d = true → notMs (ev sl x))
  | .makeSlice t l c => aMake T nm t (ev sl l) (ev sl c) H
  | .slice t x lo hi mx => (aSlice T t (ev sl x) (evo sl lo) (evo sl hi) (evo sl mx) H).and (mx.isSome = true → hi.isSome = true)
  | .fieldAddr s x f => aFieldAddr T s (ev sl x) f H
  | .field t x f => aField T t (ev sl x) f H
  | .indexAddr t x i => aIndexAddr T t (ev sl x) (ev sl i) H
  | .index t x i => aIndex T t (ev sl x) (ev sl i) H
  | .extract x i => aExtract (ev sl x) i H
  | .call c => aCall S T nm sl c H
  | _ => bad

structure ASt where
  sl : List AV
  H : Heap
  nx : Nat

def putSlot (sl : List AV) (d : Option Tmp) (x : AV) : List AV :=
  match d with
  | some d => setSlot sl d x
  | none => sl

def guardSlot (ops : List Oper) (j : Nat) : Option Tmp :=
  match ops[j]? with
  | some o => o.dst
  | none => none

def aops (S : FSpecs) (T : Types) (ops : List Oper) (nm : Nat) : List Oper → List AV → Heap → (List AV → Heap → Prop) → Prop
  | [], sl, H, Q => Q sl H
  | o :: r, sl, H, Q => match o.guard with
    | none => (aop S T nm sl o.op H).p ∧ aops S T ops (nm + 8) r (putSlot sl o.dst (aop S T nm sl o.op H).x) (aop S T nm sl o.op H).H Q
    | some (j, want) => match guardSlot ops j with
      | none => False
      | some d => match slot sl d with
        | .w (.bool b) =>
          (b = want → (aop S T nm (setSlot sl d (.w (.bool want))) o.op H).p ∧
            aops S T ops (nm + 8) r (putSlot (setSlot sl d (.w (.bool want))) o.dst (aop S T nm (setSlot sl d (.w (.bool want))) o.op H).x) (aop S T nm (setSlot sl d (.w (.bool want))) o.op H).H Q) ∧
          (b = !want → aops S T ops (nm + 8) r (putSlot (setSlot sl d (.w (.bool !want))) o.dst (.tup [])) H Q)
        | .tup [] => aops S T ops (nm + 8) r (putSlot sl o.dst (.tup [])) H Q
        | _ => False

end Ax
end Go.Proofs.Ytgkkgbomhfdbkaa
