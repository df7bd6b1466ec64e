/- Code, said of abstract values: what a piece of code asks of a state so that each way out of it is as is wanted. -/
import Derived.Test.YtgkkgbomhfdbkaaAxC
namespace Go.Proofs.Ytgkkgbomhfdbkaa
namespace Ax

/-- How an abstract state stands to a frame and a world. -/
structure Rel' (w0 : World) (E : Nat → Prop) (loc : Loc) (σ : ASt) (a : Act) (w : World) : Prop where
  size : a.tmps.size = σ.sl.length
  slots : ∀ t, R w loc (slot σ.sl t) (a.tmps.getD t undef)
  heap : HR w loc σ.H
  env : Env w0 E w loc
  fresh : ∀ id, σ.nx ≤ id → loc.m id = .free
  defers : a.defers = []
  low : ∀ id b, look σ.H id = some b → id < σ.nx

/-- What others may write, and the blocks that the call was handed. -/
structure Bs where
  bad : Nat → Prop
  pb : List Nat

def Base (w0 : World) (B : Bs) (w : World) (loc : Loc) : Prop :=
  loc.bad = B.bad ∧ B.pb.length ≤ 4 ∧ ∀ (k : Nat) (h : k < B.pb.length), loc.m k = .dead ∨ (loc.m k = .here B.pb[k] ∧ ∀ cur e fz, w0.heap[B.pb[k]]? = some (.cells cur e fz) → ∃ cur' fz', w.heap[B.pb[k]]? = some (.cells cur' e fz') ∧ cur'.size = cur.size)

theorem Base.post {w0 : World} {E : Nat → Prop} {B : Bs} {w : World} {loc : Loc} {wr : Bool} {nm : Nat} {x : AV} {H : Heap} {v : Value} {w' : World} {loc' : Loc} (h : Base w0 B w loc) (hp : Post w0 E w loc wr nm x H v w' loc') : Base w0 B w' loc' := by
  obtain ⟨C, hE, _⟩ := hp.ext
  refine ⟨hp.bad.trans h.1, h.2.1, fun k hk => ?_⟩
  rcases h.2.2 k hk with h1 | ⟨h1, h2⟩
  · by_cases hC : C k
    · rcases hE.gone k (by rw [h1]; simp) hC with h3 | h3
      · exact .inl (h3.trans h1)
      · exact .inl h3
    · exact .inl ((hE.keep k (by rw [h1]; simp) hC).trans h1)
  · have hsh : ∀ cur e fz, w0.heap[B.pb[k]]? = some (.cells cur e fz) → ∃ cur' fz', w'.heap[B.pb[k]]? = some (.cells cur' e fz') ∧ cur'.size = cur.size := by
      intro cur e fz hh
      obtain ⟨c1, f1, h3, h4⟩ := h2 cur e fz hh
      obtain ⟨c2, f2, h5, h6⟩ := hE.shape k _ c1 e f1 h1 h3
      exact ⟨c2, f2, h5, h6.trans h4⟩
    by_cases hC : C k
    · rcases hE.gone k (by rw [h1]; simp) hC with h3 | h3
      · exact .inr ⟨h3.trans h1, hsh⟩
      · exact .inl h3
    · exact .inr ⟨(hE.keep k (by rw [h1]; simp) hC).trans h1, hsh⟩

def Rel (w0 : World) (E : Nat → Prop) (B : Bs) (σ : ASt) (a : Act) (w : World) : Prop := ∃ loc, Base w0 B w loc ∧ Rel' w0 E loc σ a w

/-- The second state says no more than the first one. -/
def Weak (σ σ' : ASt) : Prop := ∀ w0 E B a w, Rel w0 E B σ a w → Rel w0 E B σ' a w

/-- The same, of a state that says no more. -/
def wk (σ : ASt) (Q : ASt → Prop) : Prop := ∃ σ2, Weak σ σ2 ∧ Q σ2

def ALoop (body : (Exit → ASt → Prop) → ASt → Prop) (Q : Exit → ASt → Prop) (σ : ASt) : Prop :=
  ∃ I : Nat → ASt → Prop, (∃ n σ', Weak σ σ' ∧ I n σ') ∧
    ∀ n σ', I n σ' → body (fun e σ1 => match e with
      | .normal => ∃ m σ2, m < n ∧ Weak σ1 σ2 ∧ I m σ2
      | e => wk σ1 (Q e)) σ'

/-- The same; nothing is told with less where it is left. -/
def ALoop0 (body : (Exit → ASt → Prop) → ASt → Prop) (Q : Exit → ASt → Prop) (σ : ASt) : Prop :=
  ∃ I : Nat → ASt → Prop, (∃ n σ', Weak σ σ' ∧ I n σ') ∧
    ∀ n σ', I n σ' → body (fun e σ1 => match e with
      | .normal => ∃ m σ2, m < n ∧ Weak σ1 σ2 ∧ I m σ2
      | e => Q e σ1) σ'

def isIntTy (T : Types) (t : TypeId) : Bool :=
  match T t with
  | some i => match i.d with
    | .int _ => true
    | _ => false
  | none => false

def isStrTy (T : Types) (t : TypeId) : Bool :=
  match T t with
  | some i => match i.d with
    | .str => true
    | _ => false
  | none => false

/-- 0: looks at no memory; 1: writes nothing that was there; 2: the rest. -/
def kindOf (T : Types) : Op → Nat
  | .move _ => 0
  | .assign _ => 0
  | .pick _ _ _ => 0
  | .build _ _ => 0
  | .unOp _ _ _ => 0
  | .extract _ _ => 0
  | .field _ _ _ => 0
  | .index _ _ _ => 0
  | .binOp op _ _ _ _ => match op with
    | .eql => 1
    | .neq => 1
    | _ => 0
  | .convert s d _ => bif isIntTy T d || coldStr T d then 0 else bif isStrTy T d || isStrTy T s then 1 else 2
  | .store _ _ _ => 2
  | .call c => match c.callee with
    | .builtin .append => 2
    | .builtin .copy => 2
    | .builtin .min => 0
    | .builtin .max => 0
    | .builtin _ => 1
    | _ => bif quietC T c then 1 else 2
  | _ => 1

def maskOf (acc : List Nat) : List Edge → Nat
  | [] => 0
  | e :: r => bif Region.binds .any e then (1 <<< e.on) ||| (acc.getD e.on 0 ||| maskOf acc r) else maskOf acc r

def masks : List Nat → List Oper → List Nat
  | acc, [] => acc
  | acc, o :: r => masks (acc ++ [maskOf acc o.after.toList]) r

def clash (T : Types) (ops : List Oper) (x y : Oper) : Bool :=
  (match x.dst with
   | some d => (y.looksAt ops.toArray).contains d || y.dst == some d
   | none => false) ||
  (match y.dst with
   | some d => (x.looksAt ops.toArray).contains d
   | none => false) ||
  (decide (kindOf T x.op = 2) && !decide (kindOf T y.op = 0)) || (decide (kindOf T y.op = 2) && !decide (kindOf T x.op = 0))

/-- Which order is drawn does not matter. -/
def backB (j : Nat) : List Edge → Bool
  | [] => true
  | e :: r => (!Region.binds .any e || decide (e.on < j)) && backB j r

def drawOk (T : Types) (ops : List Oper) : Bool :=
  let ms := masks [] ops
  (List.range ops.length).all fun j => match ops[j]? with
    | some y => backB j y.after.toList && (List.range j).all fun i => match ops[i]? with
      | some x => !clash T ops x y || (ms.getD j 0).testBit i
      | none => true
    | none => true

/-- What is asked behind the first of two pieces of code, by what then is asked of the second one. -/
def seqK (b : ASt → Prop) (Q : Exit → ASt → Prop) : Exit → ASt → Prop
  | .normal, σ => b σ
  | e, σ => Q e σ

def blockK (id : Nat) (Q : Exit → ASt → Prop) : Exit → ASt → Prop
  | .exit id', σ => if id' = id then Q .normal σ else Q (.exit id') σ
  | e, σ => Q e σ

def regK (nx : Nat) (Q : Exit → ASt → Prop) : List AV → Heap → Prop := fun sl H => Q .normal ⟨sl, H, nx⟩

def rawp (S : FSpecs) (T : Types) : Code → (Exit → ASt → Prop) → ASt → Prop
  | .skip, Q, σ => Q .normal σ
  | .label _, Q, σ => Q .normal σ
  | .region _ ops draw, Q, σ => (draw = true → drawOk T ops.toList = true) ∧ aops S T ops.toList σ.nx ops.toList σ.sl σ.H (regK (σ.nx + 8 * ops.toList.length) Q)
  | .seq a b, Q, σ => rawp S T a (seqK (rawp S T b Q) Q) σ
  | .cond c a b, Q, σ => match ev σ.sl c with
      | .w (.bool t) => (t = true → rawp S T a Q σ) ∧ (t = false → rawp S T b Q σ)
      | _ => False
  | .block id c, Q, σ => rawp S T c (blockK id Q) σ
  | .loop c, Q, σ => ALoop (rawp S T c) Q σ
  | .exit id, Q, σ => Q (.exit id) σ
  | .ret, Q, σ => Q .ret σ
  | _, _, _ => False

/-- A guard, held so that a settled one costs nothing. -/
def gsplit (b want : Bool) (A B : Prop) : Prop := (b = want → A) ∧ (b = !want → B)
def csplit (t : Bool) (A B : Prop) : Prop := (t = true → A) ∧ (t = false → B)
theorem gsplit_tt {A B : Prop} : gsplit true true A B = A := by simp [gsplit]
theorem gsplit_ff {A B : Prop} : gsplit false false A B = A := by simp [gsplit]
theorem gsplit_tf {A B : Prop} : gsplit true false A B = B := by simp [gsplit]
theorem gsplit_ft {A B : Prop} : gsplit false true A B = B := by simp [gsplit]
theorem gsplit_bt {b : Bool} {A B : Prop} : gsplit b true A B = ((b = true → A) ∧ (b = false → B)) := rfl
theorem gsplit_bf {b : Bool} {A B : Prop} : gsplit b false A B = ((b = false → A) ∧ (b = true → B)) := rfl
theorem csplit_t {A B : Prop} : csplit true A B = A := by simp [csplit]
theorem csplit_f {A B : Prop} : csplit false A B = B := by simp [csplit]
theorem csplit_b {b : Bool} {A B : Prop} : csplit b A B = ((b = true → A) ∧ (b = false → B)) := rfl

end Ax
end Go.Proofs.Ytgkkgbomhfdbkaa
