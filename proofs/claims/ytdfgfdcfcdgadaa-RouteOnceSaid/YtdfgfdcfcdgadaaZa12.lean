/- What the proofs of this seat stand on; it asks nothing. -/
import Derived.Test.YtdfgfdcfcdgadaaZa11
set_option linter.unusedSimpArgs false
set_option linter.unusedVariables false
namespace Go.Proofs.Ytdfgfdcfcdgadaa
namespace Ax
section
variable {H : Heap} {lk : Nat → Option Blk} (hl : ∀ id,look H id = lk id)
def zzf : AV → AV → Bool
 | .w (.int k a),.w (.int k' b) => decide (k = k') && decide (a = b)
 | .w (.bool a),.w (.bool b) => a == b
 | .str a,.str b => decide (a = b)
 | _,_ => false
def zmw : List AV → List AV → Bool
 | [],[] => true
 | x :: xs,y :: ys => zzf x y && zmw xs ys
 | _,_ => false
def yiu : AV → AV → Bool
 | .agg xs,.agg ys => zmw xs ys
 | x,y => zzf x y
theorem zue {x y : AV} (h : zzf x y = true) : x = y := by
 unfold zzf at h
 split at h
 ·simp only [Bool.and_eq_true,decide_eq_true_eq] at h
  obtain ⟨rfl,rfl⟩ := h; rfl
 ·simp only [beq_iff_eq] at h; subst h; rfl
 ·simp only [decide_eq_true_eq] at h; subst h; rfl
 ·cases h
theorem znu : ∀ {xs ys : List AV},zmw xs ys = true → xs = ys
 | [],[],_ => rfl
 | x :: xs,y :: ys,h => by
  simp only [zmw,Bool.and_eq_true] at h
  rw [zue h.1,znu h.2]
 | [],_ :: _,h => by cases h
 | _ :: _,[],h => by cases h
theorem yit {x y : AV} (h : yiu x y = true) : x = y := by
 unfold yiu at h
 split at h
 ·rw [znu h]
 ·exact zue h
def zqy (T : zac) (kt : TypeId) (k : AV) : List (AV × AV) → Nat → Option (Option (Nat × AV))
 | [],_ => some none
 | p :: r,i => match ceqV T 4 kt k p.1 with
  | some true => bif yiu p.1 k then some (some (i,p.2)) else none
  | some false => zqy T kt k r (i + 1)
  | none => none
theorem zle {T : zac} {kt : TypeId} {k : AV} : ∀ {es : List (AV × AV)} {i : Nat} {z : Option (Nat × AV)},zqy T kt k es i = some z → (zcv T kt k es i).1 ∧ (zcv T kt k es i).2 = z
 | [],i,z,h => by injection h with h; exact ⟨trivial,h⟩
 | p :: r,i,z,h => by
  unfold zqy at h
  unfold zcv
  split at h
  ·rename_i he
   obtain ⟨a,b⟩ := zot _ _ _ _ _ he
   cases hk : yiu p.1 k with
   | true =>
    rw [hk] at h
    injection h with h
    simp only [b]
    exact ⟨⟨a,fun _ => yit hk,fun h => by cases h⟩,h⟩
   | false => rw [hk] at h; cases h
  ·rename_i he
   obtain ⟨a,b⟩ := zot _ _ _ _ _ he
   obtain ⟨c,d⟩ := zle h
   simp only [b]
   exact ⟨⟨a,(fun h => by cases h),fun _ => c⟩,d⟩
  ·cases h
def zsn (nm : Nat) (r : Option Operand) : Option (AV × Us) :=
 match r with
 | none => some (.rf nm 0 0 0,[(nm,some (.o (.mp [])))])
 | some _ => none
include hl in
theorem zxv {nm : Nat} {r : Option Operand} : Told (ziv nm r H) lk (zsn nm r) := by
 intro y us h
 cases r with
 | none => injection h with h; injection h with h1 h2; subst h1 h2; exact ⟨trivial,rfl,fun id => zau hl id⟩
 | some r => cases h
def zhw (T : zac) (kt : TypeId) (k : AV) : Bool := k.pureK && (ceqV T 4 kt k k).isSome
theorem zlw {T : zac} {kt : TypeId} {k : AV} (h : zhw T kt k = true) : k.pureK = true ∧ (eqV T 4 kt k k).1 := by
 unfold zhw at h
 simp only [Bool.and_eq_true,Option.isSome_iff_exists] at h
 obtain ⟨h1,b,h2⟩ := h
 exact ⟨h1,(zot _ _ _ _ _ h2).1⟩
def zso (T : zac) (t : TypeId) (x k : AV) (ok : Bool) (lk : Nat → Option Blk) : Option (AV × Us) :=
 match zsa T t with
 | some (kt,et) => match T et with
  | some te => match x with
   | .rf id s _ _ => match lk id with
    | some (.o (.mp es)) => bif decide (s = 0) && zhw T kt k then (zqy T kt k es 0).map fun r => (yfx te ok r,[]) else none
    | _ => none
   | _ => none
  | none => none
 | none => none
include hl in
theorem ydf {T : zac} {t : TypeId} {x k : AV} {ok : Bool} : Told (zgd T t x k ok H) lk (zso T t x k ok lk) := by
 intro y us h
 unfold zso at h
 unfold zgd
 split at h
 ·rename_i kt et hm
  simp only [hm]
  split at h
  ·rename_i te ht
   simp only [ht]
   split at h
   ·rename_i id s _ _
    simp only [hl id]
    split at h
    ·rename_i es hb
     simp only [hb]
     cases hc : (decide (s = 0) && zhw T kt k) with
     | true =>
      rw [hc] at h
      obtain ⟨z,hz,he⟩ := Option.map_eq_some_iff.1 h
      injection he with h1 h2; subst h1 h2
      simp only [Bool.and_eq_true,decide_eq_true_eq] at hc
      obtain ⟨a,b⟩ := zle hz
      obtain ⟨c,d⟩ := zlw hc.2
      exact ⟨⟨hc.1,c,d,a⟩,by simp only [b],hl⟩
     | false => rw [hc] at h; cases h
    ·cases h
   ·cases h
  ·cases h
 ·cases h
def zsm (T : zac) (t : TypeId) (x k v : AV) (lk : Nat → Option Blk) : Option (AV × Us) :=
 match zsa T t with
 | some (kt,_) => match x with
  | .rf id s _ _ => match lk id with
   | some (.o (.mp es)) => bif decide (s = 0) && (zhw T kt k && v.pure) then (zqy T kt k es 0).map fun r => (.junk,[(id,some (.o (.mp (putM es k v r))))]) else none
   | _ => none
  | _ => none
 | none => none
include hl in
theorem ydd {T : zac} {t : TypeId} {x k v : AV} : Told (zgc T t x k v H) lk (zsm T t x k v lk) := by
 intro y us h
 unfold zsm at h
 unfold zgc
 split at h
 ·rename_i kt et hm
  simp only [hm]
  split at h
  ·rename_i id s _ _
   simp only [hl id]
   split at h
   ·rename_i es hb
    simp only [hb]
    cases hc : (decide (s = 0) && (zhw T kt k && v.pure)) with
    | true =>
     rw [hc] at h
     obtain ⟨z,hz,he⟩ := Option.map_eq_some_iff.1 h
     injection he with h1 h2; subst h1 h2
     simp only [Bool.and_eq_true,decide_eq_true_eq] at hc
     obtain ⟨a,b⟩ := zle hz
     obtain ⟨c,d⟩ := zlw hc.2.1
     exact ⟨⟨hc.1,c,hc.2.2,d,a⟩,rfl,fun id => by rw [b]; exact zau hl id⟩
    | false => rw [hc] at h; cases h
   ·cases h
  ·cases h
 ·cases h
def zsr (T : zac) (t : TypeId) (x k : AV) (lk : Nat → Option Blk) : Option (AV × Us) :=
 match zsa T t with
 | some (kt,_) => match x with
  | .rf id s _ _ => match lk id with
   | some (.o (.mp es)) => bif decide (s = 0) && zhw T kt k then (zqy T kt k es 0).map fun r => (.junk,[(id,some (.o (.mp (cutM es r))))]) else none
   | _ => none
  | _ => none
 | none => none
include hl in
theorem ydg {T : zac} {t : TypeId} {x k : AV} : Told (zge T t x k H) lk (zsr T t x k lk) := by
 intro y us h
 unfold zsr at h
 unfold zge
 split at h
 ·rename_i kt et hm
  simp only [hm]
  split at h
  ·rename_i id s _ _
   simp only [hl id]
   split at h
   ·rename_i es hb
    simp only [hb]
    cases hc : (decide (s = 0) && zhw T kt k) with
    | true =>
     rw [hc] at h
     obtain ⟨z,hz,he⟩ := Option.map_eq_some_iff.1 h
     injection he with h1 h2; subst h1 h2
     simp only [Bool.and_eq_true,decide_eq_true_eq] at hc
     obtain ⟨a,b⟩ := zle hz
     obtain ⟨c,d⟩ := zlw hc.2
     exact ⟨⟨hc.1,c,d,a⟩,rfl,fun id => by rw [b]; exact zau hl id⟩
    | false => rw [hc] at h; cases h
   ·cases h
  ·cases h
 ·cases h
def yam (x : AV) (lk : Nat → Option Blk) : Option (AV × Us) :=
 match x with
 | .rf id s i f => match lk id with
  | some (.o (.mi _ (some p))) => if (i = 0 ∧ f = 0) ∧ s ≠ 0 then some (.tup [p.1,p.2],[]) else none
  | _ => none
 | _ => none
include hl in
theorem yhh {x : AV} : Told (zjd x H) lk (yam x lk) := by
 intro y us h
 unfold yam at h
 unfold zjd
 split at h
 ·rename_i id s i f
  simp only [hl id]
  split at h
  ·rename_i es p hb
   simp only [hb]
   split at h
   ·injection h with h; injection h with h1 h2; subst h1 h2; exact ⟨by assumption,rfl,hl⟩
   ·cases h
  ·cases h
 ·cases h
theorem zkq (hl : ∀ id,look H id = lk id) {nm k : Nat} {b : Blk} (id : Nat) : look (put (drop H k) nm b) id = upd [(nm,some b),(k,none)] lk id := by
 rw [zax,zfh]; simp only [upd]; split
 ·rfl
 ·split <;> simp [hl]
def yah (T : zac) (nm : Nat) (t : TypeId) (x : AV) (lk : Nat → Option Blk) : Option (AV × Us) :=
 match T t with
 | some ti => match ti.d with
  | .str => match x with
   | .str bs => some (.rf nm 1 0 0,[(nm,some (.o (.it bs 0)))])
   | _ => none
  | .map _ _ => match x with
   | .rf id s _ _ => match lk id with
    | some (.o (.mp es)) => if s = 0 then some (.rf nm 1 0 0,[(nm,some (.o (.mi es none))),(id,none)]) else none
    | _ => none
   | _ => none
  | _ => none
 | none => none
include hl in
theorem yhd {T : zac} {nm : Nat} {t : TypeId} {x : AV} : Told (zhk T nm t x H) lk (yah T nm t x lk) := by
 intro y us h
 unfold yah at h
 unfold zhk
 split at h
 ·rename_i ti ht
  simp only [ht]
  split at h
  ·rename_i hd
   simp only [hd]
   split at h
   ·injection h with h; injection h with h1 h2; subst h1 h2; exact ⟨trivial,rfl,fun id => zau hl id⟩
   ·cases h
  ·rename_i hd
   simp only [hd]
   split at h
   ·rename_i id s _ _
    simp only [hl id]
    split at h
    ·rename_i es hb
     simp only [hb]
     split at h
     ·injection h with h; injection h with h1 h2; subst h1 h2; exact ⟨by assumption,rfl,fun id => zkq hl id⟩
     ·cases h
    ·cases h
   ·cases h
  ·cases h
 ·cases h
def yjt (x : AV) (isStr : Bool) (lk : Nat → Option Blk) : Option (AV × Us) :=
 match isStr,x with
 | true,.rf id s i f => match lk id with
  | some (.o (.it bs pos)) => if (i = 0 ∧ f = 0) ∧ s ≠ 0 then (bif decide (pos < bs.length) then some (.tup [.w (.bool true),.w (.int .i64 pos),.w (.int .i32 (decR bs pos))],[(id,some (.o (.it bs (pos + decW bs pos))))]) else some (.tup [.w (.bool false)],[])) else none
  | _ => none
 | false,.rf id s i f => match lk id with
  | some (.o (.mi [] _)) => if (i = 0 ∧ f = 0) ∧ s ≠ 0 then some (.tup [.w (.bool false)],[]) else none
  | some (.o (.mi [p] _)) => if (i = 0 ∧ f = 0) ∧ s ≠ 0 then some (.tup [.w (.bool true),p.1,p.2],[(id,some (.o (.mi [] (some p))))]) else none
  | _ => none
 | _,_ => none
include hl in
theorem yjs {x : AV} {b : Bool} : Told (zpt x b H) lk (yjt x b lk) := by
 intro y us h
 unfold yjt at h
 unfold zpt
 split at h
 ·rename_i id s i f
  simp only [hl id]
  split at h
  ·rename_i bs pos hb
   simp only [hb]
   split at h
   ·rename_i hc
    cases hp : decide (pos < bs.length) with
    | true =>
     simp only [hp,cond_true] at h ⊢
     injection h with h; injection h with h1 h2; subst h1 h2
     exact ⟨hc,rfl,fun id => zau hl id⟩
    | false =>
     simp only [hp,cond_false] at h ⊢
     injection h with h; injection h with h1 h2; subst h1 h2
     exact ⟨hc,rfl,hl⟩
   ·cases h
  ·cases h
 ·rename_i id s i f
  simp only [hl id]
  split at h
  ·rename_i hb
   simp only [hb]
   split at h
   ·injection h with h; injection h with h1 h2; subst h1 h2
    exact ⟨by assumption,rfl,hl⟩
   ·cases h
  ·rename_i hb
   simp only [hb]
   split at h
   ·injection h with h; injection h with h1 h2; subst h1 h2
    exact ⟨by assumption,rfl,fun id => zau hl id⟩
   ·cases h
  ·cases h
 ·cases h
def yjv (T : zac) (nm : Nat) (t : TypeId) (l c : AV) : Option (AV × Us) :=
 match T t with
 | some ti => match ti.d with
  | .slice e => match T e with
   | some te => match l,c with
    | .w (.int _ n),.w (.int _ m) => if 0 < te.size ∧ 0 < te.bytes ∧ 0 ≤ n ∧ n ≤ m ∧ m * te.bytes ≤ 1099511627776 then (match te.d with
      | .int .u8 => bif isZ .u8 te.zero then some (.ms nm te.size 0 n.toNat,[(nm,some (.b (List.replicate n.toNat 0)))]) else none
      | .int .i64 => bif isZ .i64 te.zero then some (.ms nm te.size 0 n.toNat,[(nm,some (.i (List.replicate n.toNat 0)))]) else none
      | _ => some (.ms nm te.size 0 n.toNat,[(nm,some (.g te.size (List.replicate n.toNat (asv te te.zero))))])) else none
    | _,_ => none
   | none => none
  | _ => none
 | none => none
include hl in
theorem yju {T : zac} {nm : Nat} {t : TypeId} {l c : AV} : Told (aMake T nm t l c H) lk (yjv T nm t l c) := by
 intro y us h
 unfold yjv at h
 unfold aMake
 split at h
 ·rename_i ti ht
  simp only [ht]
  split at h
  ·rename_i e hd
   simp only [hd]
   split at h
   ·rename_i te hte
    simp only [hte]
    split at h
    ·split at h
     ·rename_i hc
      split at h
      ·rename_i hk
       simp only [hk]
       cases hz : isZ .u8 te.zero with
       | true =>
        rw [hz] at h
        injection h with h; injection h with h1 h2; subst h1 h2
        exact ⟨⟨hc,zug hz⟩,rfl,fun id => zau hl id⟩
       | false => rw [hz] at h; cases h
      ·rename_i hk
       simp only [hk]
       cases hz : isZ .i64 te.zero with
       | true =>
        rw [hz] at h
        injection h with h; injection h with h1 h2; subst h1 h2
        exact ⟨⟨hc,zug hz⟩,rfl,fun id => zau hl id⟩
       | false => rw [hz] at h; cases h
      ·rename_i hk1 hk2
       injection h with h; injection h with h1 h2; subst h1 h2
       dsimp only
       split
       ·rename_i he; exact (hk1 he).elim
       ·rename_i he; exact (hk2 he).elim
       ·exact ⟨⟨hc,trivial⟩,rfl,fun id => zau hl id⟩
     ·cases h
    ·cases h
   ·cases h
  ·cases h
 ·cases h
def bndsB (lo hi mx : Option AV) (n : Nat) : Bool :=
 okB lo && (okB hi && (okB mx && (decide ((bnd lo 0).2 ≤ (bnd hi n).2) && (decide ((bnd hi n).2 ≤ (bnd mx n).2) && decide ((bnd mx n).2 ≤ n)))))
where okB : Option AV → Bool
 | none => true
 | some (.w (.int _ n)) => decide (0 ≤ n)
 | _ => false
theorem yen {o : Option AV} {d : Nat} (h : bndsB.okB o = true) : (bnd o d).1 := by
 unfold bndsB.okB at h
 unfold bnd
 split at h
 ·trivial
 ·simpa using h
 ·cases h
theorem zsu {lo hi mx : Option AV} {n : Nat} (h : bndsB lo hi mx n = true) : bnds lo hi mx n := by
 unfold bndsB at h
 simp only [Bool.and_eq_true,decide_eq_true_eq] at h
 obtain ⟨h1,h2,h3,h4,h5,h6⟩ := h
 exact ⟨yen h1,yen h2,yen h3,h4,h5,h6⟩
def yag (T : zac) (t : TypeId) (x : AV) (lo hi mx : Option AV) (lk : Nat → Option Blk) : Option (AV × Us) :=
 match T t with
 | none => none
 | some ti => match ti.d with
  | .str => match x with
   | .str bs => bif mx.isNone && bndsB lo hi none bs.length then some (.str (cut bs lo hi),[]) else none
   | _ => none
  | .slice e => match T e with
   | none => none
   | some te => match x with
    | .sb bs full => bif decide (te.size = 1) && bndsB lo hi mx bs.length then some (.sb (cut bs lo hi) (zpo full hi mx (bnd hi bs.length).2 (bnd mx bs.length).2),[]) else none
    | .si ns full => bif decide (te.size = 1) && bndsB lo hi mx ns.length then some (.si (cut ns lo hi) (zpo full hi mx (bnd hi ns.length).2 (bnd mx ns.length).2),[]) else none
    | .sg s xs full => bif decide (te.size = s) && bndsB lo hi mx xs.length then some (.sg s (cut xs lo hi) (zpo full hi mx (bnd hi xs.length).2 (bnd mx xs.length).2),[]) else none
    | .ms id s off len => match lk id with
     | some _ => bif decide (te.size = s) && bndsB lo hi mx len then some (.ms id s (off + (bnd lo 0).2) ((bnd hi len).2 - (bnd lo 0).2),[]) else none
     | none => none
    | _ => none
  | .arr n e => match T e with
   | none => none
   | some te => match x with
    | .rf id s i f => match lk id with
     | some blk => bif decide (te.size = 1) && (decide (s = 1) && decide (f = 0) && (decide (blk.size = 1) && ((decide (0 < n) && (decide (i + n ≤ blk.len) && decide (n ≤ 16777216))) && bndsB lo hi mx n))) then some (.ms id 1 (i + (bnd lo 0).2) ((bnd hi n).2 - (bnd lo 0).2),[]) else none
     | none => none
    | _ => none
  | _ => none
include hl in
theorem zik {b : Bool} {p : Prop} {x : AV} (hb : b = true → p) : Told ⟨p,x,H⟩ lk (bif b then some (x,[]) else none) := by
 cases b with
 | true => intro y us h; injection h with h; injection h with h1 h2; subst h1 h2; exact ⟨hb rfl,rfl,hl⟩
 | false => intro y us h; cases h
include hl in
theorem yhc {T : zac} {t : TypeId} {x : AV} {lo hi mx : Option AV} : Told (zjc T t x lo hi mx H) lk (yag T t x lo hi mx lk) := by
 intro y us h
 unfold yag at h
 unfold zjc
 split at h
 ·cases h
 ·rename_i ti ht
  simp only [ht]
  split at h
  ·rename_i hd
   simp only [hd]
   split at h
   ·refine zik hl (fun hb => ?_) _ _ h
    simp only [Bool.and_eq_true] at hb
    exact ⟨hb.1,zsu hb.2⟩
   ·cases h
  ·rename_i e hd
   simp only [hd]
   split at h
   ·cases h
   ·rename_i te hte
    simp only [hte]
    have key : ∀ {s n : Nat},(decide (te.size = s) && bndsB lo hi mx n) = true → te.size = s ∧ bnds lo hi mx n := by
     intro s n hb
     simp only [Bool.and_eq_true,decide_eq_true_eq] at hb
     exact ⟨hb.1,zsu hb.2⟩
    split at h
    ·exact zik hl key _ _ h
    ·exact zik hl key _ _ h
    ·exact zik hl key _ _ h
    ·rename_i id s off len
     simp only [hl id]
     split at h
     ·rename_i b hb
      simp only [hb]
      exact zik hl key _ _ h
     ·cases h
    ·cases h
  ·rename_i n e hd
   simp only [hd]
   split at h
   ·cases h
   ·rename_i te hte
    simp only [hte]
    split at h
    ·rename_i id s i f
     simp only [hl id]
     split at h
     ·rename_i b hb
      simp only [hb]
      refine zik hl (fun hb => ?_) _ _ h
      simp only [Bool.and_eq_true,decide_eq_true_eq] at hb
      obtain ⟨h1,⟨h2,h3⟩,h4,⟨h5,h6,h7⟩,h8⟩ := hb
      exact ⟨h1,⟨h2,h3⟩,h4,⟨h5,h6,h7⟩,zsu h8⟩
     ·cases h
    ·cases h
  ·cases h
def ziu (T : zac) (s : TypeId) (x : AV) (f : Nat) (lk : Nat → Option Blk) : Option (AV × Us) :=
 match T s with
 | none => none
 | some ti => match ti.d with
  | .struct fs => match fs[f]? with
   | some (off,ty) => match T ty with
    | none => none
    | some te => match x with
     | .rf id z i g => match lk id with
      | some _ => if z ≠ 0 ∧ 0 < te.size then some (.rf id z i (g + off),[]) else none
      | none => none
     | .cp ls => if 0 < te.size ∧ off < ls.length then some (.cp (ls.drop off),[]) else none
     | _ => none
   | none => none
  | _ => none
include hl in
theorem zsq {T : zac} {s : TypeId} {x : AV} {f : Nat} : Told (aFieldAddr T s x f H) lk (ziu T s x f lk) := by
 intro y us h
 unfold ziu at h
 unfold aFieldAddr
 split at h
 ·cases h
 ·rename_i ti ht
  simp only [ht]
  split at h
  ·rename_i fs hd
   simp only [hd]
   split at h
   ·rename_i off ty hf
    simp only [hf]
    split at h
    ·cases h
    ·rename_i te hte
     simp only [hte]
     split at h
     ·rename_i id z i g
      simp only [hl id]
      split at h
      ·rename_i b hb
       simp only [hb]
       split at h
       ·injection h with h; injection h with h1 h2; subst h1 h2; exact ⟨by assumption,rfl,hl⟩
       ·cases h
      ·cases h
     ·split at h
      ·injection h with h; injection h with h1 h2; subst h1 h2; exact ⟨by assumption,rfl,hl⟩
      ·cases h
     ·cases h
   ·cases h
  ·cases h
def yak (T : zac) (t : TypeId) (x : AV) (f : Nat) : Option (AV × Us) :=
 match T t with
 | none => none
 | some ti => match ti.d with
  | .struct fs => match x with
   | .agg ls => match fs[f]? with
    | some (off,ty) => match T ty with
     | some te => (csub te ls off).map fun y => (y,[])
     | none => none
    | none => none
   | _ => none
  | _ => none
include hl in
theorem yhg {T : zac} {t : TypeId} {x : AV} {f : Nat} : Told (aField T t x f H) lk (yak T t x f) := by
 intro y us h
 unfold yak at h
 unfold aField
 split at h
 ·cases h
 ·rename_i ti ht
  simp only [ht]
  split at h
  ·rename_i fs hd
   simp only [hd]
   split at h
   ·split at h
    ·rename_i off ty hf
     simp only [hf]
     split at h
     ·rename_i te hte
      simp only [hte]
      obtain ⟨z,hz,he⟩ := Option.map_eq_some_iff.1 h
      injection he with h1 h2; subst h1 h2
      obtain ⟨a,b,c⟩ := zlz (H := H) hz
      exact ⟨a,b,fun id => by rw [c]; exact hl id⟩
     ·cases h
    ·cases h
   ·cases h
  ·cases h
def zit (T : zac) (t : TypeId) (x i : AV) (lk : Nat → Option Blk) : Option (AV × Us) :=
 match T t,i with
 | some ti,.w (.int _ n) => match ti.d with
  | .slice e => match T e with
   | none => none
   | some te => match x with
    | .sb bs _ => if 0 ≤ n ∧ te.size = 1 ∧ n.toNat < bs.length then some (.cp [.w (byte (bs.getD n.toNat 0))],[]) else none
    | .si ns _ => if 0 ≤ n ∧ te.size = 1 ∧ n.toNat < ns.length then some (.cp [.w (word (ns.getD n.toNat 0))],[]) else none
    | .sg s xs _ => if 0 ≤ n ∧ te.size = s ∧ 0 < s ∧ n.toNat < xs.length then some (.cp (slot xs n.toNat).leaves,[]) else none
    | .ms id s off len => match lk id with
     | some _ => if s ≠ 0 ∧ 0 ≤ n ∧ te.size = s ∧ n.toNat < len then some (.rf id s (off + n.toNat) 0,[]) else none
     | none => none
    | _ => none
  | .arr m e => match T e with
   | none => none
   | some te => match x with
    | .rf id s j f => match lk id with
     | some _ => if s ≠ 0 ∧ 0 ≤ n ∧ n < m then some (.rf id s j (f + n.toNat * te.size),[]) else none
     | none => none
    | .cp ls => if 0 ≤ n ∧ n < m ∧ n.toNat * te.size < ls.length then some (.cp (ls.drop (n.toNat * te.size)),[]) else none
    | _ => none
  | _ => none
 | _,_ => none
include hl in
theorem zgw {p : Prop} [Decidable p] {x : AV} {y : AV} {us : Us} (h : (if p then some (x,([] : Us)) else none) = some (y,us)) : p ∧ x = y ∧ ∀ id,look H id = upd us lk id := by
 split at h
 ·injection h with h; injection h with h1 h2; subst h1 h2; exact ⟨by assumption,rfl,hl⟩
 ·cases h
include hl in
theorem zsp {T : zac} {t : TypeId} {x i : AV} : Told (zca T t x i H) lk (zit T t x i lk) := by
 intro y us h
 unfold zit at h
 unfold zca
 split at h
 ·rename_i ti k n ht
  simp only [ht]
  split at h
  ·rename_i e hd
   simp only [hd]
   split at h
   ·cases h
   ·rename_i te hte
    simp only [hte]
    split at h
    ·exact zgw hl h
    ·exact zgw hl h
    ·exact zgw hl h
    ·rename_i id s off len
     simp only [hl id]
     split at h
     ·rename_i b hb
      simp only [hb]
      exact zgw hl h
     ·cases h
    ·cases h
  ·rename_i m e hd
   simp only [hd]
   split at h
   ·cases h
   ·rename_i te hte
    simp only [hte]
    split at h
    ·rename_i id s j f
     simp only [hl id]
     split at h
     ·rename_i b hb
      simp only [hb]
      exact zgw hl h
     ·cases h
    ·exact zgw hl h
    ·cases h
  ·cases h
 ·cases h
def yaj (T : zac) (t : TypeId) (x i : AV) : Option (AV × Us) :=
 match T t,i with
 | some ti,.w (.int _ n) => match ti.d with
  | .str => match x with
   | .str bs => if 0 ≤ n ∧ n.toNat < bs.length then some (.w (byte (bs.getD n.toNat 0)),[]) else none
   | _ => none
  | .arr m e => match x with
   | .agg ls => match T e with
    | some te => if 0 ≤ n ∧ n < m then (csub te ls (n.toNat * te.size)).map fun y => (y,[]) else none
    | none => none
   | _ => none
  | _ => none
 | _,_ => none
include hl in
theorem yhf {T : zac} {t : TypeId} {x i : AV} : Told (zii T t x i H) lk (yaj T t x i) := by
 intro y us h
 unfold yaj at h
 unfold zii
 split at h
 ·rename_i ti k n ht
  simp only [ht]
  split at h
  ·rename_i hd
   simp only [hd]
   split at h
   ·exact zgw hl h
   ·cases h
  ·rename_i m e hd
   simp only [hd]
   split at h
   ·split at h
    ·rename_i te hte
     simp only [hte]
     split at h
     ·rename_i hc
      obtain ⟨z,hz,he⟩ := Option.map_eq_some_iff.1 h
      injection he with h1 h2; subst h1 h2
      obtain ⟨a,b,c⟩ := zlz (H := H) hz
      exact ⟨⟨hc,a⟩,b,fun id => by simp only [Out.and]; rw [c]; exact hl id⟩
     ·cases h
    ·cases h
   ·cases h
  ·cases h
 ·cases h
def zmy (x : AV) (i : Nat) : Option (AV × Us) :=
 match x with
 | .tup xs => if i < xs.length then some (slot xs i,[]) else none
 | _ => none
include hl in
theorem zxw {x : AV} {i : Nat} : Told (zdi x i H) lk (zmy x i) := by
 intro y us h
 unfold zmy at h
 unfold zdi
 split at h
 ·exact zgw hl h
 ·cases h
def cLen (T : zac) (t : TypeId) (x : AV) (lk : Nat → Option Blk) : Option (AV × Us) :=
 match T t with
 | none => none
 | some ti => match ti.d with
  | .str => match x with
   | .str bs => some (.w (word bs.length),[])
   | _ => none
  | .slice _ => match x with
   | .sb bs _ => some (.w (word bs.length),[])
   | .si ns _ => some (.w (word ns.length),[])
   | .sg _ xs _ => some (.w (word xs.length),[])
   | .ms id _ _ len => match lk id with
    | some _ => some (.w (word len),[])
    | none => none
   | _ => none
  | .arr n _ => some (.w (word n),[])
  | .map _ _ => match x with
   | .rf id s _ _ => match lk id with
    | some (.o (.mp es)) => if s = 0 then some (.w (word es.length),[]) else none
    | _ => none
   | _ => none
  | _ => none
theorem zcd (hl : ∀ id,look H id = lk id) {x y : AV} {us : Us} (h : some (x,([] : Us)) = some (y,us)) : True ∧ x = y ∧ ∀ id,look H id = upd us lk id := by
 injection h with h; injection h with h1 h2; subst h1 h2; exact ⟨trivial,rfl,hl⟩
include hl in
theorem ymc {T : zac} {t : TypeId} {x : AV} : Told (aLen T t x H) lk (cLen T t x lk) := by
 intro y us h
 unfold cLen at h
 unfold aLen
 split at h
 ·cases h
 ·rename_i ti ht
  simp only [ht]
  split at h
  ·rename_i hd
   simp only [hd]
   split at h
   ·exact zcd hl h
   ·cases h
  ·rename_i hd
   simp only [hd]
   split at h
   ·exact zcd hl h
   ·exact zcd hl h
   ·exact zcd hl h
   ·rename_i id _ _ len
    simp only [hl id]
    split at h
    ·rename_i b hb
     simp only [hb]
     exact zcd hl h
    ·cases h
   ·cases h
  ·rename_i hd
   simp only [hd]
   exact zcd hl h
  ·rename_i hd
   simp only [hd]
   split at h
   ·rename_i id s _ _
    simp only [hl id]
    split at h
    ·rename_i es hb
     simp only [hb]
     exact zgw hl h
    ·cases h
   ·cases h
  ·cases h
def cMin (l : List AV) : Option (AV × Us) :=
 match l with
 | [.w (.int k x),.w (.int _ y)] => some (.w (.int k (if y < x then y else x)),[])
 | _ => none
def cMax (l : List AV) : Option (AV × Us) :=
 match l with
 | [.w (.int k x),.w (.int _ y)] => some (.w (.int k (if y > x then y else x)),[])
 | _ => none
include hl in
theorem yma {l : List AV} : Told (aMin l H) lk (cMin l) := by
 intro y us h
 unfold cMin at h
 unfold aMin
 split at h
 ·exact zcd hl h
 ·cases h
include hl in
theorem ymb {l : List AV} : Told (aMax l H) lk (cMax l) := by
 intro y us h
 unfold cMax at h
 unfold aMax
 split at h
 ·exact zcd hl h
 ·cases h
def zlf (nm : Nat) (d : AV) (ys : List UInt8) (lk : Nat → Option Blk) : Option (AV × Us) :=
 match d with
 | .sb bs full => bif full && ((bs.isEmpty || !ys.isEmpty) && decide (bs.length + ys.length ≤ top)) then some (.ms nm 1 0 (bs.length + ys.length),[(nm,some (.b (bs ++ ys)))]) else none
 | .sg _ [] full => bif full && decide (ys.length ≤ top) then some (.ms nm 1 0 ys.length,[(nm,some (.b ys))]) else none
 | .ms id s off len => match lk id with
  | some (.b bs) => if s = 1 ∧ off = 0 ∧ len = bs.length ∧ bs.length + ys.length ≤ top then some (.ms nm 1 0 (bs.length + ys.length),[(nm,some (.b (bs ++ ys))),(id,none)]) else none
  | _ => none
 | _ => none
include hl in
theorem zke {b : Bool} {p : Prop} {nm : Nat} {x : AV} {k : Blk} (hb : b = true → p) {y : AV} {us : Us} (h : (bif b then some (x,[(nm,some k)]) else none) = some (y,us)) : p ∧ x = y ∧ ∀ id,look (put H nm k) id = upd us lk id := by
 cases b with
 | true => injection h with h; injection h with h1 h2; subst h1 h2; exact ⟨hb rfl,rfl,fun id => zau hl id⟩
 | false => cases h
include hl in
theorem zrq {p : Prop} [Decidable p] {nm k : Nat} {x : AV} {b : Blk} {y : AV} {us : Us} (h : (if p then some (x,[(nm,some b),(k,none)]) else none) = some (y,us)) : p ∧ x = y ∧ ∀ id,look (put (drop H k) nm b) id = upd us lk id := by
 split at h
 ·injection h with h; injection h with h1 h2; subst h1 h2; exact ⟨by assumption,rfl,fun id => zkq hl id⟩
 ·cases h
include hl in
theorem zjw {nm : Nat} {d : AV} {ys : List UInt8} : Told (zcr nm d ys H) lk (zlf nm d ys lk) := by
 intro y us h
 unfold zlf at h
 unfold zcr
 split at h
 ·refine zke hl (fun hb => ?_) h
  simp only [Bool.and_eq_true,Bool.or_eq_true,List.isEmpty_iff,decide_eq_true_eq,Bool.not_eq_true',List.isEmpty_eq_false_iff] at hb
  exact hb
 ·refine zke hl (fun hb => ?_) h
  simp only [Bool.and_eq_true,decide_eq_true_eq] at hb
  exact hb
 ·rename_i id s off len
  simp only [hl id]
  split at h
  ·rename_i bs hb
   simp only [hb]
   exact zrq hl h
  ·cases h
 ·cases h
def zsk (nm : Nat) (d : AV) (ys : List Int) (lk : Nat → Option Blk) : Option (AV × Us) :=
 match d with
 | .si bs full => bif full && ((bs.isEmpty || !ys.isEmpty) && decide (bs.length + ys.length ≤ top)) then some (.ms nm 1 0 (bs.length + ys.length),[(nm,some (.i (bs ++ ys)))]) else none
 | .sg _ [] full => bif full && decide (ys.length ≤ top) then some (.ms nm 1 0 ys.length,[(nm,some (.i ys))]) else none
 | .ms id s off len => match lk id with
  | some (.i bs) => if s = 1 ∧ off = 0 ∧ len = bs.length ∧ bs.length + ys.length ≤ top then some (.ms nm 1 0 (bs.length + ys.length),[(nm,some (.i (bs ++ ys))),(id,none)]) else none
  | _ => none
 | _ => none
include hl in
theorem zxt {nm : Nat} {d : AV} {ys : List Int} : Told (zdt nm d ys H) lk (zsk nm d ys lk) := by
 intro y us h
 unfold zsk at h
 unfold zdt
 split at h
 ·refine zke hl (fun hb => ?_) h
  simp only [Bool.and_eq_true,Bool.or_eq_true,List.isEmpty_iff,decide_eq_true_eq,Bool.not_eq_true',List.isEmpty_eq_false_iff] at hb
  exact hb
 ·refine zke hl (fun hb => ?_) h
  simp only [Bool.and_eq_true,decide_eq_true_eq] at hb
  exact hb
 ·rename_i id s off len
  simp only [hl id]
  split at h
  ·rename_i bs hb
   simp only [hb]
   exact zrq hl h
  ·cases h
 ·cases h
def zsl (s : Nat) (nm : Nat) (d : AV) (ys : List AV) (lk : Nat → Option Blk) : Option (AV × Us) :=
 match d with
 | .sg s' xs full => bif full && ((xs.isEmpty || (decide (s' = s) && !ys.isEmpty)) && decide (xs.length + ys.length ≤ top)) then some (.ms nm s 0 (xs.length + ys.length),[(nm,some (.g s (xs ++ ys)))]) else none
 | .ms id s' off len => match lk id with
  | some (.g s'' xs) => if s' = s ∧ s'' = s ∧ off = 0 ∧ len = xs.length ∧ xs.length + ys.length ≤ top then some (.ms nm s 0 (xs.length + ys.length),[(nm,some (.g s (xs ++ ys))),(id,none)]) else none
  | _ => none
 | _ => none
include hl in
theorem zxu {s nm : Nat} {d : AV} {ys : List AV} : Told (zcq s nm d ys H) lk (zsl s nm d ys lk) := by
 intro y us h
 unfold zsl at h
 unfold zcq
 split at h
 ·refine zke hl (fun hb => ?_) h
  simp only [Bool.and_eq_true,Bool.or_eq_true,List.isEmpty_iff,decide_eq_true_eq,Bool.not_eq_true',List.isEmpty_eq_false_iff] at hb
  exact hb
 ·rename_i id s off len
  simp only [hl id]
  split at h
  ·rename_i bs hb
   simp only [hb]
   exact zrq hl h
  ·cases h
 ·cases h
def zst (T : zac) (nm : Nat) (ts : List TypeId) (d x : AV) (lk : Nat → Option Blk) : Option (AV × Us) :=
 match ts with
 | [t,u] => match T t,T u with
  | some ti,some tu => match ti.d with
   | .slice e => match T e with
    | none => none
    | some te => match te.d with
     | .int .u8 => match tu.d with
      | .str => match x with
       | .str ys => if te.size = 1 ∧ te.bytes ≤ 1024 then zlf nm d ys lk else none
       | _ => none
      | .slice _ => match zvd lk x with
       | some ys => if te.size = 1 ∧ te.bytes ≤ 1024 then zlf nm d ys lk else none
       | none => none
      | .int _ => match x with
       | .w (.int _ n) => if te.size = 1 ∧ te.bytes ≤ 1024 ∧ isZ .u8 te.zero = true ∧ 0 ≤ n then zlf nm d (List.replicate n.toNat 0) lk else none
       | _ => none
      | _ => none
     | .int .i64 => match tu.d with
      | .slice _ => match ygp lk x with
       | some ys => if te.size = 1 ∧ te.bytes ≤ 1024 then zsk nm d ys lk else none
       | none => none
      | _ => none
     | _ => match tu.d with
      | .slice _ => match ygr te.size lk x with
       | some ys => if 0 < te.size ∧ te.bytes ≤ 1024 then zsl te.size nm d ys lk else none
       | none => none
      | _ => none
   | _ => none
  | _,_ => none
 | _ => none
include hl in
theorem ydh {T : zac} {nm : Nat} {ts : List TypeId} {d x : AV} : Told (zgf T nm ts d x H) lk (zst T nm ts d x lk) := by
 intro y us h
 unfold zst at h
 unfold zgf
 split at h
 ·rename_i t u
  split at h
  ·rename_i ti tu ht hu
   simp only [ht,hu]
   split at h
   ·rename_i e hd
    simp only [hd]
    split at h
    ·cases h
    ·rename_i te hte
     simp only [hte]
     split at h
     ·rename_i hk
      simp only [hk]
      split at h
      ·rename_i hq
       simp only [hq]
       split at h
       ·split at h
        ·exact (zjw hl).and (by assumption) _ _ h
        ·cases h
       ·cases h
      ·rename_i hq
       simp only [hq]
       split at h
       ·rename_i ys hy
        obtain ⟨a,b⟩ := zon hl hy
        rw [b]
        split at h
        ·rename_i hc
         exact (zjw hl).and ⟨hc.1,hc.2,a⟩ _ _ h
        ·cases h
       ·cases h
      ·rename_i hq
       simp only [hq]
       split at h
       ·split at h
        ·rename_i hc
         exact (zjw hl).and ⟨hc.1,hc.2.1,zug hc.2.2.1,hc.2.2.2⟩ _ _ h
        ·cases h
       ·cases h
      ·cases h
     ·rename_i hk
      simp only [hk]
      split at h
      ·rename_i hq
       simp only [hq]
       split at h
       ·rename_i ys hy
        obtain ⟨a,b⟩ := ygo hl hy
        rw [b]
        split at h
        ·rename_i hc
         exact (zxt hl).and ⟨hc.1,hc.2,a⟩ _ _ h
        ·cases h
       ·cases h
      ·cases h
     ·rename_i hk1 hk2
      split
      ·rename_i he; exact (hk1 he).elim
      ·rename_i he; exact (hk2 he).elim
      ·split at h
       ·rename_i hq
        simp only [hq]
        split at h
        ·rename_i ys hy
         obtain ⟨a,b⟩ := ygq hl hy
         rw [b]
         split at h
         ·rename_i hc
          exact (zxu hl).and ⟨hc.1,hc.2,a⟩ _ _ h
         ·cases h
        ·cases h
       ·cases h
   ·cases h
  ·cases h
 ·cases h
def yan (T : zac) (t : TypeId) (x : AV) (lk : Nat → Option Blk) : Option (AV × Us) :=
 match T t with
 | some ti => match ti.d with
  | .slice e => match T e with
   | some te => match x with
    | .ms id s off len => match lk id with
     | some (.g s' xs) => if te.size = s ∧ s' = s ∧ off + len ≤ xs.length then some (.junk,[(id,some (.g s' (xs.take off ++ (List.replicate len (asv te te.zero) ++ xs.drop (off + len)))))]) else none
     | _ => none
    | _ => none
   | none => none
  | _ => none
 | none => none
include hl in
theorem zyl {p : Prop} [Decidable p] {nm : Nat} {x : AV} {b : Blk} {y : AV} {us : Us} (h : (if p then some (x,[(nm,some b)]) else none) = some (y,us)) : p ∧ x = y ∧ ∀ id,look (put H nm b) id = upd us lk id := by
 split at h
 ·injection h with h; injection h with h1 h2; subst h1 h2; exact ⟨by assumption,rfl,fun id => zau hl id⟩
 ·cases h
include hl in
theorem yhi {T : zac} {t : TypeId} {x : AV} : Told (zje T t x H) lk (yan T t x lk) := by
 intro y us h
 unfold yan at h
 unfold zje
 split at h
 ·rename_i ti ht
  simp only [ht]
  split at h
  ·rename_i e hd
   simp only [hd]
   split at h
   ·rename_i te hte
    simp only [hte]
    split at h
    ·rename_i id s off len
     simp only [hl id]
     split at h
     ·rename_i s' xs hb
      simp only [hb]
      exact zyl hl h
     ·cases h
    ·cases h
   ·cases h
  ·cases h
 ·cases h
def ylp (lk : Nat → Option Blk) (x : AV) : Option (List UInt8) :=
 match x with
 | .str bs => some bs
 | _ => zvd lk x
include hl in
theorem yjj {x : AV} {l : List UInt8} (h : ylp lk x = some l) : (srcB H x).1 ∧ (srcB H x).2 = l := by
 unfold ylp at h
 unfold srcB
 split at h
 ·injection h with h; exact ⟨trivial,h⟩
 ·rename_i hx
  split
  ·rename_i bs; exact (hx bs rfl).elim
  ·exact zon hl h
def yjx (T : zac) (ts : List TypeId) (d x : AV) (lk : Nat → Option Blk) : Option (AV × Us) :=
 match ts with
 | t :: _ => match T t with
  | some ti => match ti.d with
   | .slice e => match T e with
    | some te => match d with
     | .ms id s off len => match lk id with
      | some (.b bs) => match ylp lk x with
       | some ys => if te.size = 1 ∧ s = 1 ∧ off + len ≤ bs.length ∧ bs.length ≤ top then some (.w (word ((min ys.length len : Nat) : Int)),[(id,some (.b (bs.take off ++ (ys.take len ++ bs.drop (off + min ys.length len)))))]) else none
       | none => none
      | _ => none
     | _ => none
    | none => none
   | _ => none
  | none => none
 | _ => none
include hl in
theorem yjw {T : zac} {ts : List TypeId} {d x : AV} : Told (zpu T ts d x H) lk (yjx T ts d x lk) := by
 intro y us h
 unfold yjx at h
 unfold zpu
 split at h
 ·rename_i t _
  split at h
  ·rename_i ti ht
   simp only [ht]
   split at h
   ·rename_i e hd
    simp only [hd]
    split at h
    ·rename_i te hte
     simp only [hte]
     split at h
     ·rename_i id s off len
      simp only [hl id]
      split at h
      ·rename_i bs hb
       simp only [hb]
       split at h
       ·rename_i ys hy
        obtain ⟨a,b⟩ := yjj hl hy
        rw [b]
        obtain ⟨h1,h2,h3⟩ := zyl hl h
        exact ⟨⟨h1.1,h1.2.1,h1.2.2.1,h1.2.2.2,a⟩,h2,h3⟩
       ·cases h
      ·cases h
     ·cases h
    ·cases h
   ·cases h
  ·cases h
 ·cases h
def cFn (fn : Fn) (first : List Operand) (caps : List AV) : Option (AV × Us) :=
 match fn,first with
 | .func f,[] => some (.fn f caps,[])
 | _,_ => none
include hl in
theorem ynu {fn : Fn} {first : List Operand} {caps : List AV} : Told (aFn fn first caps H) lk (cFn fn first caps) := by
 intro y us h
 unfold cFn at h
 unfold aFn
 split at h
 ·exact zcd hl h
 ·cases h
def yiw : AV → Bool
 | .ms _ _ _ _ => true
 | _ => false
theorem yiv {x : AV} (h : yiw x = false) : ylh x := by
 cases x <;> first | trivial | cases h
def zss (T : zac) (nm : Nat) (sl : List AV) (b : Builtin) (args : List Operand) (ts : List TypeId) (e : Operand → AV) (lk : Nat → Option Blk) : Option (AV × Us) :=
 match b with
 | .len => match args,ts with
  | [x],[t] => cLen T t (e x) lk
  | _,_ => none
 | .min => cMin (args.map e)
 | .max => cMax (args.map e)
 | .append => match args with
  | [d,x] => zst T nm ts (e d) (e x) lk
  | _ => none
 | .delete => match args,ts with
  | [d,x],t :: _ => zsr T t (e d) (e x) lk
  | _,_ => none
 | .clear => match args,ts with
  | [x],[t] => yan T t (e x) lk
  | _,_ => none
 | .copy => match args with
  | [d,x] => yjx T ts (e d) (e x) lk
  | _ => none
 | _ => none
def cop (T : zac) (nm : Nat) (e : Operand → AV) (lk : Nat → Option Blk) (op : Op) : Option (AV × Us) :=
 match op with
 | .move x => some (e x,[])
 | .assign x => some (e x,[])
 | .pick c a b => yde (e c) (e a) (e b)
 | .alloc t => yap T nm t
 | .box t x => cBox T nm t (e x)
 | .build t ps => yao T t (ps.toList.map fun p => (p.1,e p.2))
 | .buildSlice t n ps => zhe T nm t n (ps.toList.map fun p => (p.1,e p.2))
 | .load t a => yhe T t (e a) lk
 | .store t a x => yaf T t (e a) (e x) lk
 | .nilCheck x => cNil (e x) lk
 | .binOp op t x y _ => cBin T op t (e x) (e y) lk
 | .unOp op _ x => cUn op (e x)
 | .convert s d x => bif coldStr T d && yiw (e x) then none else yjz T s d nm (e x) lk
 | .makeSlice t l c => yjv T nm t (e l) (e c)
 | .slice t x lo hi mx => bif mx.isSome && hi.isNone then none else yag T t (e x) (lo.map e) (hi.map e) (mx.map e) lk
 | .fieldAddr s x f => ziu T s (e x) f lk
 | .field t x f => yak T t (e x) f
 | .indexAddr t x i => zit T t (e x) (e i) lk
 | .index t x i => yaj T t (e x) (e i)
 | .extract x i => zmy (e x) i
 | .makeFunc fn first caps => cFn fn first.toList (caps.toList.map e)
 | .range t x => yah T nm t (e x) lk
 | .next x b => yjt (e x) b lk
 | .makeMap _ r => zsn nm r
 | .lookup t x k ok => zso T t (e x) (e k) ok lk
 | .mapUpdate t x k v => zsm T t (e x) (e k) (e v) lk
 | .entry x => yam (e x) lk
 | .call c => match c.callee with
  | .builtin b => zss T nm [] b c.args.toList c.argTypes.toList e lk
  | _ => none
 | _ => none
theorem zol (sl : List AV) (l : List Operand) : evs sl l = l.map (ev sl) := by
 induction l with
 | nil => rfl
 | cons x r ih => simp [evs,ih]
theorem zzt (sl : List AV) (l : List (Nat × Operand)) : evps sl l = l.map fun p => (p.1,ev sl p.2) := by
 induction l with
 | nil => rfl
 | cons x r ih => simp [evps,ih]
theorem ylo (sl : List AV) (o : Option Operand) : evo sl o = o.map (ev sl) := by cases o <;> rfl
include hl in
theorem ynm {S : zal} {T : zac} {nm : Nat} {sl : List AV} {e : Operand → AV} (he : ∀ x,ev sl x = e x) {op : Op} : Told (aop S T nm sl op H) lk (cop T nm e lk op) := by
 have he' : ev sl = e := funext he
 subst he'
 cases op with
 | move x => intro y us h; exact zcd hl h
 | assign x => intro y us h; exact zcd hl h
 | pick c a b => exact yjr hl
 | alloc t => exact yhk hl
 | box t x => exact yme hl
 | build t ps => simp only [aop,cop,zzt]; exact yhj hl
 | buildSlice t n ps => simp only [aop,cop,zzt]; exact zpr hl
 | load t a => exact yai hl
 | store t a x => exact yhb hl
 | nilCheck x => exact ylz hl
 | binOp op t x y u => exact ymf hl
 | unOp op t x => exact ynt hl
 | convert s d x =>
  simp only [aop,cop]
  cases hc : coldStr T d && yiw (ev sl x) with
  | true => intro y us h; cases h
  | false =>
   refine (yjy hl).and fun h => ?_
   rw [h] at hc
   exact yiv (by simpa using hc)
 | makeSlice t l c => exact yju hl
 | slice t x lo hi mx =>
  simp only [aop,cop,ylo]
  cases hc : mx.isSome && hi.isNone with
  | true => intro y us h; cases h
  | false =>
   refine (yhc hl).and fun h => ?_
   rw [h] at hc
   cases hi with
   | none => simp at hc
   | some _ => rfl
 | fieldAddr s x f => exact zsq hl
 | field t x f => exact yhg hl
 | indexAddr t x i => exact zsp hl
 | index t x i => exact yhf hl
 | extract x i => exact zxw hl
 | makeFunc fn first caps => simp only [aop,cop,zol]; exact ynu hl
 | range t x => exact yhd hl
 | next x b => exact yjs hl
 | makeMap t r => exact zxv hl
 | lookup t x k ok => exact ydf hl
 | mapUpdate t x k v => exact ydd hl
 | entry x => exact yhh hl
 | call c =>
  obtain ⟨callee,args,argTypes⟩ := c
  cases callee with
  | builtin b =>
   intro y us h
   simp only [cop] at h
   simp only [aop,aCall]
   cases b <;> simp only [zss] at h <;> simp only <;> first | (cases h; done) | skip
   case len =>
    split at h
    ·rename_i x t hx ht; simp only [hx,ht]; exact ymc hl _ _ h
    ·cases h
   case min => rw [zol]; exact yma hl _ _ h
   case max => rw [zol]; exact ymb hl _ _ h
   case append =>
    split at h
    ·rename_i d x hx; simp only [hx]; exact ydh hl _ _ h
    ·cases h
   case delete =>
    split at h
    ·rename_i d x t _ hx ht; simp only [hx,ht]; exact ydg hl _ _ h
    ·cases h
   case clear =>
    split at h
    ·rename_i x t hx ht; simp only [hx,ht]; exact yhi hl _ _ h
    ·cases h
   case copy =>
    split at h
    ·rename_i d x hx; simp only [hx]; exact yjw hl _ _ h
    ·cases h
  | _ => intro y us h; cases h
 | _ => intro y us h; cases h
end
end Ax
end Go.Proofs.Ytdfgfdcfcdgadaa
namespace Go.Proofs.Ytdfgfdcfcdgadaa
namespace Ax
inductive Tr (α : Type) where
 | leaf
 | node (l : Tr α) (a : Option α) (r : Tr α)
section
variable {α : Type}
noncomputable def Tr.get (t : Tr α) : Nat → Option α :=
 Tr.rec (fun _ => none) (fun _ a _ ihl ihr n => Nat.casesOn n a (fun k => cond (Nat.beq (Nat.mod k 2) 0) (ihl (Nat.div k 2)) (ihr (Nat.div k 2)))) t
theorem zdx (n : Nat) : (Tr.leaf : Tr α).get n = none := rfl
theorem zdf (l r : Tr α) (a : Option α) : (Tr.node l a r).get 0 = a := rfl
theorem zcy (l r : Tr α) (a : Option α) (k : Nat) : (Tr.node l a r).get (k + 1) = cond (Nat.beq (k % 2) 0) (l.get (k / 2)) (r.get (k / 2)) := rfl
noncomputable def mkK {β : Type} (f : Nat) : Nat → Option α → (Tr α → β) → β :=
 Nat.rec (fun _ _ κ => κ .leaf) (fun _ ih n x κ => Nat.casesOn n (κ (.node .leaf x .leaf)) (fun k => cond (Nat.beq (Nat.mod k 2) 0) (ih (Nat.div k 2) x fun l => κ (.node l none .leaf)) (ih (Nat.div k 2) x fun r => κ (.node .leaf none r)))) f
theorem yeu {β : Type} (f : Nat) (x : Option α) (κ : Tr α → β) : mkK (f + 1) 0 x κ = κ (.node .leaf x .leaf) := rfl
theorem zrz {β : Type} (f k : Nat) (x : Option α) (κ : Tr α → β) : mkK (f + 1) (k + 1) x κ = cond (Nat.beq (k % 2) 0) (mkK f (k / 2) x fun l => κ (.node l none .leaf)) (mkK f (k / 2) x fun r => κ (.node .leaf none r)) := rfl
theorem znq {β : Type} : ∀ (f n : Nat) (x : Option α) (κ : Tr α → β),mkK f n x κ = κ (mkK f n x fun t => t)
 | 0,n,x,κ => rfl
 | f + 1,0,x,κ => rfl
 | f + 1,k + 1,x,κ => by
  rw [zrz,zrz]
  cases Nat.beq (k % 2) 0 with
  | true => simp only [cond_true]; rw [znq f _ _ fun l => κ (.node l none .leaf),znq f _ _ fun l => (.node l none .leaf : Tr α)]
  | false => simp only [cond_false]; rw [znq f _ _ fun r => κ (.node .leaf none r),znq f _ _ fun r => (.node .leaf none r : Tr α)]
noncomputable def Tr.setK {β : Type} (t : Tr α) : Nat → Option α → (Tr α → β) → β :=
 Tr.rec (fun n x κ => mkK 60 n x κ) (fun l a r ihl ihr n x κ => Nat.casesOn n (κ (.node l x r)) (fun k => cond (Nat.beq (Nat.mod k 2) 0) (ihl (Nat.div k 2) x fun l => κ (.node l a r)) (ihr (Nat.div k 2) x fun r => κ (.node l a r)))) t
noncomputable def Tr.set (t : Tr α) (n : Nat) (x : Option α) : Tr α := t.setK n x fun t => t
theorem znh {β : Type} (n : Nat) (x : Option α) (κ : Tr α → β) : (Tr.leaf : Tr α).setK n x κ = mkK 60 n x κ := rfl
theorem ydy {β : Type} (l r : Tr α) (a : Option α) (x : Option α) (κ : Tr α → β) : (Tr.node l a r).setK 0 x κ = κ (.node l x r) := rfl
theorem zng {β : Type} (l r : Tr α) (a : Option α) (k : Nat) (x : Option α) (κ : Tr α → β) : (Tr.node l a r).setK (k + 1) x κ = cond (Nat.beq (k % 2) 0) (l.setK (k / 2) x fun l => κ (.node l a r)) (r.setK (k / 2) x fun r => κ (.node l a r)) := rfl
theorem zfe {β : Type} : ∀ (t : Tr α) (n : Nat) (x : Option α) (κ : Tr α → β),t.setK n x κ = κ (t.set n x)
 | .leaf,n,x,κ => by unfold Tr.set; rw [znh,znh,znq]
 | .node l a r,0,x,κ => rfl
 | .node l a r,k + 1,x,κ => by
  unfold Tr.set
  rw [zng,zng]
  cases Nat.beq (k % 2) 0 with
  | true => simp only [cond_true]; rw [zfe l _ _ fun l => κ (.node l a r),zfe l _ _ fun l => (.node l a r : Tr α)]
  | false => simp only [cond_false]; rw [zfe r _ _ fun r => κ (.node l a r),zfe r _ _ fun r => (.node l a r : Tr α)]
theorem zgr (k : Nat) : (Nat.beq (k % 2) 0 = true ∧ k % 2 = 0) ∨ (Nat.beq (k % 2) 0 = false ∧ k % 2 = 1) := by
 rcases Nat.mod_two_eq_zero_or_one k with h | h
 ·exact .inl ⟨by rw [h]; rfl,h⟩
 ·exact .inr ⟨by rw [h]; rfl,h⟩
theorem yft : ∀ (f n m : Nat) (x : Option α),n + 1 < 2 ^ f → (mkK f n x fun t => t).get m = if m = n then x else none
 | 0,n,m,x,h => by simp at h
 | f + 1,0,m,x,h => by
  rw [yeu]
  cases m with
  | zero => rw [zdf,if_pos rfl]
  | succ m => rw [zcy,if_neg (by omega)]; cases Nat.beq (m % 2) 0 <;> rfl
 | f + 1,k + 1,m,x,h => by
  have hd : k / 2 + 1 < 2 ^ f := by rw [Nat.pow_succ] at h; omega
  rw [zrz]
  rcases zgr k with ⟨e,hk⟩ | ⟨e,hk⟩
  ·rw [e,cond_true,znq]
   cases m with
   | zero => rw [zdf,if_neg (by omega)]
   | succ m =>
    rw [zcy]
    rcases zgr m with ⟨e2,hm⟩ | ⟨e2,hm⟩
    ·rw [e2,cond_true,yft f _ _ _ hd]
     by_cases e3 : m / 2 = k / 2
     ·rw [if_pos e3,if_pos (by omega)]
     ·rw [if_neg e3,if_neg (by omega)]
    ·rw [e2,cond_false,zdx,if_neg (by omega)]
  ·rw [e,cond_false,znq]
   cases m with
   | zero => rw [zdf,if_neg (by omega)]
   | succ m =>
    rw [zcy]
    rcases zgr m with ⟨e2,hm⟩ | ⟨e2,hm⟩
    ·rw [e2,cond_true,zdx,if_neg (by omega)]
    ·rw [e2,cond_false,yft f _ _ _ hd]
     by_cases e3 : m / 2 = k / 2
     ·rw [if_pos e3,if_pos (by omega)]
     ·rw [if_neg e3,if_neg (by omega)]
theorem zhz : ∀ (t : Tr α) (n m : Nat) (x : Option α),n + 1 < 2 ^ 60 → (t.set n x).get m = if m = n then x else t.get m
 | .leaf,n,m,x,h => by unfold Tr.set; rw [znh,yft 60 n m x h,zdx]
 | .node l a r,0,m,x,h => by
  unfold Tr.set
  rw [ydy]
  cases m with
  | zero => rw [zdf,if_pos rfl]
  | succ m => rw [zcy,zcy,if_neg (by omega)]
 | .node l a r,k + 1,m,x,h => by
  have hd : k / 2 + 1 < 2 ^ 60 := by omega
  unfold Tr.set
  rw [zng]
  rcases zgr k with ⟨e,hk⟩ | ⟨e,hk⟩
  ·rw [e,cond_true,zfe]
   cases m with
   | zero => rw [zdf,zdf,if_neg (by omega)]
   | succ m =>
    rw [zcy,zcy]
    rcases zgr m with ⟨e2,hm⟩ | ⟨e2,hm⟩
    ·rw [e2,cond_true,cond_true,zhz l _ _ _ hd]
     by_cases e3 : m / 2 = k / 2
     ·rw [if_pos e3,if_pos (by omega)]
     ·rw [if_neg e3,if_neg (by omega)]
    ·rw [e2,cond_false,cond_false,if_neg (by omega)]
  ·rw [e,cond_false,zfe]
   cases m with
   | zero => rw [zdf,zdf,if_neg (by omega)]
   | succ m =>
    rw [zcy,zcy]
    rcases zgr m with ⟨e2,hm⟩ | ⟨e2,hm⟩
    ·rw [e2,cond_true,cond_true,if_neg (by omega)]
    ·rw [e2,cond_false,cond_false,zhz r _ _ _ hd]
     by_cases e3 : m / 2 = k / 2
     ·rw [if_pos e3,if_pos (by omega)]
     ·rw [if_neg e3,if_neg (by omega)]
def yfl (a : Option α) (k : Nat) : List (Nat × α) := match a with
 | some x => [(k,x)]
 | none => []
def Tr.rows : Tr α → (Nat → Nat) → List (Nat × α)
 | .leaf,_ => []
 | .node l a r,g => yfl a (g 0) ++ (l.rows (fun k => g (2 * k + 1)) ++ r.rows (fun k => g (2 * k + 2)))
end
theorem zzb (A B : Heap) (id : Nat) : look (A ++ B) id = match look A id with | some b => some b | none => look B id := zdq A B id
theorem zby : ∀ (t : Tr Blk) (g : Nat → Nat) (id : Nat),(∀ k,g k ≠ id) → look (t.rows g) id = none
 | .leaf,g,id,h => rfl
 | .node l a r,g,id,h => by
  simp only [Tr.rows,zzb,zby l _ id (fun k => h _),zby r _ id (fun k => h _)]
  cases a with
  | none => rfl
  | some x => simp [yfl,look,h 0]
theorem zns : ∀ (t : Tr Blk) (g : Nat → Nat),(∀ i j,g i = g j → i = j) → ∀ n,look (t.rows g) (g n) = t.get n
 | .leaf,g,hg,n => rfl
 | .node l a r,g,hg,n => by
  have hl := zns l (fun k => g (2 * k + 1)) (fun i j h => by have := hg _ _ h; omega)
  have hr := zns r (fun k => g (2 * k + 2)) (fun i j h => by have := hg _ _ h; omega)
  simp only [Tr.rows,zzb]
  cases n with
  | zero =>
   rw [zby l _ (g 0) (fun k h => by have := hg _ _ h; omega),zby r _ (g 0) (fun k h => by have := hg _ _ h; omega)]
   rw [zdf]
   cases a <;> simp [yfl,look]
  | succ n =>
   have h0 : look (yfl a (g 0)) (g (n + 1)) = none := by
    cases a with
    | none => rfl
    | some x =>
     have : g 0 ≠ g (n + 1) := fun h => by have := hg _ _ h; omega
     simp [yfl,look,this]
   rw [h0]
   rw [zcy]
   by_cases hk : n % 2 = 0
   ·have e : g (n + 1) = g (2 * (n / 2) + 1) := by congr 1; omega
    rw [e,hl,zby r _ _ (fun k h => by have := hg _ _ h; omega)]
    have : Nat.beq (n % 2) 0 = true := by rw [hk]; rfl
    rw [this,cond_true]
    cases l.get (n / 2) <;> rfl
   ·have e : g (n + 1) = g (2 * (n / 2) + 2) := by congr 1; omega
    rw [e,hr,zby l _ _ (fun k h => by have := hg _ _ h; omega)]
    have : Nat.beq (n % 2) 0 = false := by rw [show n % 2 = 1 by omega]; rfl
    rw [this,cond_false]
def toH (t : Tr Blk) : Heap := t.rows (fun k => k)
theorem zat (t : Tr Blk) (id : Nat) : look (toH t) id = t.get id := zns t (fun k => k) (fun _ _ h => h) id
noncomputable def sget (t : Tr AV) (n : Nat) : AV := match t.get n with
 | some x => x
 | none => .junk
noncomputable def toS (n : Nat) (t : Tr AV) : List AV := (List.range n).map (sget t)
theorem zbw (n : Nat) (t : Tr AV) : (toS n t).length = n := by simp [toS]
theorem zms (n : Nat) (t : Tr AV) (k : Nat) : slot (toS n t) k = if k < n then sget t k else .junk := by
 rw [zcf]
 by_cases h : k < n
 ·simp [toS,h]
 ·rw [if_neg h,List.getD_eq_getElem?_getD,List.getElem?_eq_none (by simp [toS]; omega)]; rfl
section force
variable {β : Type}
def zeg (n : Nat) (κ : Nat → β) : β := match n with
 | 0 => κ 0
 | k + 1 => κ (Nat.succ k)
theorem zef (n : Nat) (κ : Nat → β) : zeg n κ = κ n := by cases n <;> rfl
def zzp (n : Int) (κ : Int → β) : β := match n with
 | .ofNat n => zeg n fun n => κ (.ofNat n)
 | .negSucc n => zeg n fun n => κ (.negSucc n)
theorem zut (n : Int) (κ : Int → β) : zzp n κ = κ n := by cases n <;> simp only [zzp,zef]
def zja {α : Type} : List α → (List α → β) → β
 | [],κ => κ []
 | x :: r,κ => zja r fun r => κ (x :: r)
theorem zia {α : Type} : ∀ (l : List α) (κ : List α → β),zja l κ = κ l
 | [],κ => rfl
 | x :: r,κ => by simp only [zja,zia r]
def yko (b : Bool) (κ : Bool → β) : β := match b with
 | true => κ true
 | false => κ false
theorem ygd (b : Bool) (κ : Bool → β) : yko b κ = κ b := by cases b <;> rfl
def zzm (v : Value) (κ : Value → β) : β := match v with
 | .int k n => zzp n fun n => κ (.int k n)
 | .bool b => yko b fun b => κ (.bool b)
 | v => κ v
theorem zus (v : Value) (κ : Value → β) : zzm v κ = κ v := by cases v <;> first | rfl | simp only [zzm,zut,ygd]
def zod (x : AV) (κ : AV → β) : β := match x with
 | .w v => zzm v fun v => κ (.w v)
 | .str bs => zja bs fun bs => κ (.str bs)
 | .ms id s off len => zeg off fun off => zeg len fun len => κ (.ms id s off len)
 | .rf id s i f => zeg i fun i => zeg f fun f => κ (.rf id s i f)
 | .sb bs f => zja bs fun bs => κ (.sb bs f)
 | .si bs f => zja bs fun bs => κ (.si bs f)
 | .sg s bs f => zja bs fun bs => κ (.sg s bs f)
 | x => κ x
theorem zoc (x : AV) (κ : AV → β) : zod x κ = κ x := by cases x <;> first | rfl | simp only [zod,zus,zef,zia]
def zhi {α : Type} (f : α → (α → β) → β) : List α → (List α → β) → β
 | [],κ => κ []
 | x :: r,κ => f x fun x => zhi f r fun r => κ (x :: r)
theorem zeh {α : Type} {f : α → (α → β) → β} (hf : ∀ x κ,f x κ = κ x) : ∀ (l : List α) (κ : List α → β),zhi f l κ = κ l
 | [],κ => rfl
 | x :: r,κ => by simp only [zhi,hf,zeh hf r]
def zky (x : AV) (κ : AV → β) : β := match x with
 | .agg xs => zhi zod xs fun xs => κ (.agg xs)
 | .fn f xs => zhi zod xs fun xs => κ (.fn f xs)
 | x => zod x κ
theorem zgl (x : AV) (κ : AV → β) : zky x κ = κ x := by cases x <;> first | rfl | simp only [zky,zoc,zeh zoc]
def zzn (x : AV) (κ : AV → β) : β := match x with
 | .tup xs => zhi zky xs fun xs => κ (.tup xs)
 | x => zky x κ
theorem zkx (x : AV) (κ : AV → β) : zzn x κ = κ x := by cases x <;> first | rfl | simp only [zzn,zgl,zeh zgl]
def yfz (p : AV × AV) (κ : AV × AV → β) : β := zky p.1 fun a => zky p.2 fun b => κ (a,b)
theorem yfy (p : AV × AV) (κ : AV × AV → β) : yfz p κ = κ p := by simp only [yfz,zgl]
def zzo (b : Blk) (κ : Blk → β) : β := match b with
 | .b bs => zja bs fun bs => κ (.b bs)
 | .i ns => zhi zzp ns fun ns => κ (.i ns)
 | .g s xs => zhi zky xs fun xs => κ (.g s xs)
 | .o x => match x with
  | .it bs pos => zeg pos fun pos => κ (.o (.it bs pos))
  | .mp es => zhi yfz es fun es => κ (.o (.mp es))
  | .mi es now => zja es fun es => κ (.o (.mi es now))
theorem yga (b : Blk) (κ : Blk → β) : zzo b κ = κ b := by
 cases b with
 | o x => cases x <;> simp only [zzo,zef,zia,zeh yfy]
 | _ => simp only [zzo,zia,zeh zut,zeh zgl]
end force
theorem Ext.trans {C D : Nat → Prop} {w w1 w2 : World} {loc loc1 loc2 : Loc} (h : Ext C w loc w1 loc1) (k : Ext D w1 loc1 w2 loc2) : Ext (fun id => C id ∨ D id) w loc w2 loc2 := by
 refine ⟨Nat.le_trans h.size k.size,fun id hf hc => ?_,fun id hf hc => ?_,fun b hb hm => ?_,fun id b hb hc => ?_,fun b cur e fz hh => ?_⟩
 ·have h1 := h.keep id hf (fun c => hc (.inl c))
  exact (k.keep id (by rw [h1]; exact hf) (fun c => hc (.inr c))).trans h1
 ·have h1 : loc1.m id = loc.m id ∨ loc1.m id = .dead := by
   by_cases c : C id
   ·exact h.gone id hf c
   ·exact .inl (h.keep id hf c)
  have hf1 : loc1.m id ≠ .free := by rcases h1 with h1 | h1 <;> rw [h1] <;> first | exact hf | simp
  have h2 : loc2.m id = loc1.m id ∨ loc2.m id = .dead := by
   by_cases d : D id
   ·exact k.gone id hf1 d
   ·exact .inl (k.keep id hf1 d)
  rcases h2 with h2 | h2
  ·rw [h2]; exact h1
  ·exact .inr h2
 ·obtain ⟨h1,h2⟩ := h.imm b hb hm
  obtain ⟨k1,k2⟩ := k.imm b (Nat.lt_of_lt_of_le hb h.size) h2
  exact ⟨k1.trans h1,k2⟩
 ·have h1 := h.own id b hb (fun c => hc (.inl c))
  have h2 := h.keep id (by rw [hb]; simp) (fun c => hc (.inl c))
  exact (k.own id b (h2.trans hb) (fun c => hc (.inr c))).trans h1
 ·obtain ⟨c1,f1,h1,h2⟩ := h.shape b cur e fz hh
  obtain ⟨c2,f2,k1,k2⟩ := k.shape b c1 e f1 h1
  exact ⟨c2,f2,k1,k2.trans h2⟩
structure Tn (w : World) (loc : Loc) (nm nz : Nat) (w' : World) (loc' : Loc) : Prop where
 ext : ∃ C : Nat → Prop,Ext C w loc w' loc'
 fresh : ∀ id,loc.m id = .free → loc'.m id ≠ .free → nm ≤ id ∧ id < nz
 bad : loc'.bad = loc.bad
theorem Tn.refl (w : World) (loc : Loc) (nm nz : Nat) : Tn w loc nm nz w loc := ⟨⟨_,Ext.refl w loc⟩,fun _ h h' => (h' h).elim,rfl⟩
theorem Tn.trans {w w1 w2 : World} {loc loc1 loc2 : Loc} {a b c d : Nat} (h : Tn w loc a b w1 loc1) (k : Tn w1 loc1 c d w2 loc2) (hac : a ≤ c) (hbd : b ≤ d) : Tn w loc a d w2 loc2 := by
 obtain ⟨C,hC⟩ := h.ext
 obtain ⟨D,hD⟩ := k.ext
 refine ⟨⟨_,hC.trans hD⟩,fun id hf hn => ?_,k.bad.trans h.bad⟩
 by_cases h1 : loc1.m id = .free
 ·have := k.fresh id h1 hn; omega
 ·have := h.fresh id hf h1; omega
structure PostW (w0 : World) (E : Nat → Prop) (w : World) (loc : Loc) (nm nz : Nat) (x : AV) (H : Heap) (v : Value) (w' : World) (loc' : Loc) : Prop where
 r : R w' loc' x v
 h : HR w' loc' H
 env : Env w0 E w' loc'
 tn : Tn w loc nm nz w' loc'
section frame
open Classical
noncomputable def Loc.onlyP (loc : Loc) (F : Nat → Prop) : Loc :=
 { m := fun id => if F id then loc.m id else .free,bad := fun b => loc.bad b ∨ ∃ id,¬ F id ∧ loc.m id = .here b }
theorem zdn {loc : Loc} {F : Nat → Prop} {id : Nat} (h : F id) : (loc.onlyP F).m id = loc.m id := by simp [Loc.onlyP,h]
theorem zjm {loc : Loc} {F : Nat → Prop} {id : Nat} (h : ¬ F id) : (loc.onlyP F).m id = .free := by simp [Loc.onlyP,h]
theorem onlyP_mut {loc : Loc} {F : Nat → Prop} {b : Nat} : Mut (loc.onlyP F) b ↔ Mut loc b := by
 constructor
 ·rintro ((h | ⟨id,_,h⟩) | ⟨id,h⟩)
  ·exact .inl h
  ·exact .inr ⟨id,h⟩
  ·by_cases hF : F id
   ·rw [zdn hF] at h; exact .inr ⟨id,h⟩
   ·rw [zjm hF] at h; cases h
 ·rintro (h | ⟨id,h⟩)
  ·exact .inl (.inl h)
  ·by_cases hF : F id
   ·exact .inr ⟨id,(zdn hF).trans h⟩
   ·exact .inl (.inr ⟨id,hF,h⟩)
theorem R.onlyP {w : World} {loc : Loc} {F : Nat → Prop} {x : AV} {v : Value} (h : R w loc x v) (hq : ∀ id ∈ x.ids,loc.m id ≠ .free → F id) : R w (loc.onlyP F) x v :=
 h.agree (fun b _ hb => onlyP_mut.1 hb) fun id hid hf => zdn (hq id hid hf)
theorem BlkR.onlyP {w : World} {loc : Loc} {F : Nat → Prop} {id : Nat} {blk : Blk} (h : BlkR w loc id blk) (hq : ∀ k ∈ idsL blk.flat,loc.m k ≠ .free → F k) : BlkR w (loc.onlyP F) id blk := by
 by_cases hF : F id
 ·unfold BlkR at h ⊢
  rw [zdn hF]
  cases e : loc.m id with
  | free => trivial
  | dead => rw [e] at h; exact h
  | nil => rw [e] at h; exact h
  | here b =>
   rw [e] at h
   obtain ⟨hok,hl⟩ := h
   rcases zbi blk with ⟨x,hx,rfl⟩ | hodd
   ·exact ⟨hok,.mkO (Thing.move (fun b _ hb => onlyP_mut.1 hb) (hl.is hx)) hx⟩
   obtain ⟨cur,el,fz,h1,h2,h3,h4,h5⟩ := hl.lies hodd
   exact ⟨hok,.mkC ⟨cur,el,fz,h1,h2,h3,h4,fun j hj hj' => ⟨(h5 j hj hj').1,(h5 j hj hj').2.onlyP fun k hk => hq k (zdw j hj hk)⟩⟩ hodd⟩
 ·exact BlkR.free (zjm hF)
def InP (loc : Loc) (F : Nat → Prop) (b : Nat) : Prop := ∃ id,F id ∧ loc.m id = .here b
noncomputable def Loc.backP (loc loc' : Loc) (F : Nat → Prop) (nm nz : Nat) : Loc :=
 { m := fun id => if F id ∨ (nm ≤ id ∧ id < nz) then loc'.m id else loc.m id,bad := loc.bad }
variable {w0 : World} {E : Nat → Prop} {w : World} {loc : Loc} {F : Nat → Prop} {nm nz : Nat}
theorem Env.onlyP (he : Env w0 E w loc) : Env w (InP loc F) w (loc.onlyP F) := by
 refine ⟨rfl,rfl,rfl,Nat.le_refl _,fun _ _ _ => rfl,?_,?_,?_⟩
 ·intro i j b hi hj
  by_cases h1 : F i
  ·by_cases h2 : F j
   ·rw [zdn h1] at hi; rw [zdn h2] at hj
    exact he.inj i j b hi hj
   ·rw [zjm h2] at hj; cases hj
  ·rw [zjm h1] at hi; cases hi
 ·intro i b hi
  by_cases h1 : F i
  ·rw [zdn h1] at hi
   exact ⟨(he.lies i b hi).1,.inr ⟨i,h1,hi⟩⟩
  ·rw [zjm h1] at hi; cases hi
 ·rintro b (hb | ⟨id,hF,hb⟩)
  ·obtain ⟨h1,h2⟩ := he.bad b hb
   refine ⟨Nat.lt_of_lt_of_le h1 he.size,?_⟩
   rintro ⟨id,_,hid⟩
   rcases (he.lies id b hid).2 with h3 | h3
   ·omega
   ·exact h2 h3
  ·refine ⟨(he.lies id b hb).1,?_⟩
   rintro ⟨k,hk,hkb⟩
   exact hF (he.inj k id b hkb hb ▸ hk)
theorem PostW.frame (he : Env w0 E w loc) (hfree : ∀ id,nm ≤ id → id < nz → loc.m id = .free) {x : AV} {H : Heap} {v : Value} {w' : World} {loc' : Loc}
  (hH : ∀ id b,look H id = some b → F id ∨ (nm ≤ id ∧ id < nz)) (hp : PostW w (InP loc F) w (loc.onlyP F) nm nz x H v w' loc') :
  R w' (loc.backP loc' F nm nz) x v ∧ HR w' (loc.backP loc' F nm nz) H ∧ Env w0 E w' (loc.backP loc' F nm nz) ∧ (∃ C : Nat → Prop,Ext C w loc w' (loc.backP loc' F nm nz) ∧ ∀ id,C id → F id) ∧
   (∀ id,loc.m id = .free → (loc.backP loc' F nm nz).m id ≠ .free → nm ≤ id ∧ id < nz) ∧ (loc.backP loc' F nm nz).bad = loc.bad := by
 have hin : ∀ id,(F id ∨ (nm ≤ id ∧ id < nz)) → (loc.backP loc' F nm nz).m id = loc'.m id := fun id h => by simp [Loc.backP,h]
 have hout : ∀ id,¬ (F id ∨ (nm ≤ id ∧ id < nz)) → (loc.backP loc' F nm nz).m id = loc.m id := fun id h => by simp only [Loc.backP]; rw [if_neg h]
 have hpb := hp.tn.bad
 have hnew : ∀ id,loc'.m id ≠ .free → F id ∨ (nm ≤ id ∧ id < nz) := by
  intro id h
  by_cases hF : F id
  ·exact .inl hF
  ·exact .inr (hp.tn.fresh id (zjm hF) h)
 have hmut : ∀ b,Mut (loc.backP loc' F nm nz) b → Mut loc' b := by
  rintro b (hb | ⟨id,hid⟩)
  ·refine .inl ?_
   rw [hpb]; exact .inl hb
  ·by_cases h : F id ∨ (nm ≤ id ∧ id < nz)
   ·rw [hin id h] at hid; exact .inr ⟨id,hid⟩
   ·rw [hout id h] at hid
    exact .inl (by rw [hpb]; exact .inr ⟨id,fun hF => h (.inl hF),hid⟩)
 have hr : ∀ {y : AV} {u : Value},R w' loc' y u → R w' (loc.backP loc' F nm nz) y u := fun h => h.agree (fun b _ => hmut b) fun id _ hf => hin id (hnew id hf)
 have henv : Env w0 E w' (loc.backP loc' F nm nz) := by
  refine ⟨hp.env.os.trans he.os,hp.env.tape.trans he.tape,hp.env.output.trans he.output,Nat.le_trans he.size hp.env.size,?_,?_,?_,?_⟩
  ·intro b hb hE
   rw [hp.env.same b (Nat.lt_of_lt_of_le hb he.size) ?_]
   ·exact he.same b hb hE
   ·rintro ⟨id,_,hid⟩
    rcases (he.lies id b hid).2 with h3 | h3
    ·omega
    ·exact hE h3
  ·have hcross : ∀ i j b,(F i ∨ (nm ≤ i ∧ i < nz)) → ¬ (F j ∨ (nm ≤ j ∧ j < nz)) → loc'.m i = .here b → loc.m j = .here b → False := by
    intro i j b _ hj h1 h2
    have hbad : loc'.bad b := by rw [hpb]; exact .inr ⟨j,fun hF => hj (.inl hF),h2⟩
    obtain ⟨h3,h4⟩ := hp.env.bad b hbad
    rcases (hp.env.lies i b h1).2 with h5 | h5
    ·omega
    ·exact h4 h5
   intro i j b hi hj
   by_cases h1 : F i ∨ (nm ≤ i ∧ i < nz)
   ·rw [hin i h1] at hi
    by_cases h2 : F j ∨ (nm ≤ j ∧ j < nz)
    ·rw [hin j h2] at hj
     exact hp.env.inj i j b hi hj
    ·rw [hout j h2] at hj
     exact (hcross i j b h1 h2 hi hj).elim
   ·rw [hout i h1] at hi
    by_cases h2 : F j ∨ (nm ≤ j ∧ j < nz)
    ·rw [hin j h2] at hj
     exact (hcross j i b h2 h1 hj hi).elim
    ·rw [hout j h2] at hj
     exact he.inj i j b hi hj
  ·intro i b hi
   by_cases h1 : F i ∨ (nm ≤ i ∧ i < nz)
   ·rw [hin i h1] at hi
    obtain ⟨h2,h3⟩ := hp.env.lies i b hi
    refine ⟨h2,?_⟩
    rcases h3 with h3 | ⟨k,_,hk⟩
    ·exact .inl (Nat.le_trans he.size h3)
    ·exact (he.lies k b hk).2
   ·rw [hout i h1] at hi
    obtain ⟨h2,h3⟩ := he.lies i b hi
    exact ⟨Nat.lt_of_lt_of_le h2 hp.env.size,h3⟩
  ·intro b hb; exact he.bad b hb
 have hext : ∃ C : Nat → Prop,Ext C w loc w' (loc.backP loc' F nm nz) ∧ ∀ id,C id → F id := by
  obtain ⟨C,hE⟩ := hp.tn.ext
  have hnr : ∀ id,loc.m id ≠ .free → ¬ F id → ¬ (F id ∨ (nm ≤ id ∧ id < nz)) := by
   rintro id h1 h2 (h3 | h3)
   ·exact h2 h3
   ·exact h1 (hfree id h3.1 h3.2)
  have hhid : ∀ id b,loc.m id = .here b → ¬ F id → w'.heap[b]? = w.heap[b]? := by
   intro id b h1 h2
   refine hp.env.same b (he.lies id b h1).1 ?_
   rintro ⟨k,hk,hkb⟩
   exact h2 (he.inj k id b hkb h1 ▸ hk)
  refine ⟨fun id => C id ∧ F id,⟨hE.size,?_,?_,?_,?_,?_⟩,fun id hc => hc.2⟩
  ·intro id hf hc
   by_cases hF : F id
   ·rw [hin id (.inl hF)]
    have := hE.keep id (by rw [zdn hF]; exact hf) (fun h => hc ⟨h,hF⟩)
    rw [this,zdn hF]
   ·exact hout id (hnr id hf hF)
  ·rintro id hf ⟨hc,hF⟩
   rw [hin id (.inl hF)]
   have := hE.gone id (by rw [zdn hF]; exact hf) hc
   rw [zdn hF] at this
   exact this
  ·intro b hb hm
   obtain ⟨h1,h2⟩ := hE.imm b hb (fun h => hm (onlyP_mut.1 h))
   exact ⟨h1,fun h => h2 (hmut b h)⟩
  ·intro id b hb hc
   by_cases hF : F id
   ·exact hE.own id b (by rw [zdn hF]; exact hb) (fun h => hc ⟨h,hF⟩)
   ·exact hhid id b hb hF
  ·intro b cur e fz hh
   exact hE.shape b cur e fz hh
 refine ⟨hr hp.r,?_,henv,hext,?_,rfl⟩
 ·intro id blk hl
  have h0 := hH id blk hl
  have h1 := hp.h id blk hl
  unfold BlkR at h1 ⊢
  rw [hin id h0]
  split
  ·trivial
  ·rename_i e; rw [e] at h1; exact h1
  ·rename_i e; rw [e] at h1; exact h1
  ·rename_i b e
   rw [e] at h1
   obtain ⟨hok,hl1⟩ := h1
   rcases zbi blk with ⟨x,hx,rfl⟩ | hodd
   ·exact ⟨hok,.mkO (Thing.move (fun b _ hb => hmut b hb) (hl1.is hx)) hx⟩
   obtain ⟨cur,el,fz,a1,a2,a3,a4,a5⟩ := hl1.lies hodd
   exact ⟨hok,.mkC ⟨cur,el,fz,a1,a2,a3,a4,fun j hj hj' => ⟨(a5 j hj hj').1,hr (a5 j hj hj').2⟩⟩ hodd⟩
 ·intro id hf hn
  by_cases h : F id ∨ (nm ≤ id ∧ id < nz)
  ·rcases h with h | h
   ·rw [hin id (.inl h)] at hn
    by_cases hw : nm ≤ id ∧ id < nz
    ·exact hw
    ·exact (hp.tn.fresh id (by rw [zdn h]; exact hf) hn)
   ·exact h
  ·rw [hout id h] at hn; exact (hn hf).elim
end frame
end Ax
end Go.Proofs.Ytdfgfdcfcdgadaa
namespace Go.Proofs.Ytdfgfdcfcdgadaa
namespace Ax
structure Calm (k : Nat) (C : Nat → Prop) (nx : Nat) (lk : Nat → Option Blk) (w' : World) (loc' : Loc) : Prop where
 zero : k = 0 → ∀ id,¬ C id
 one : k = 1 → ∀ id,C id → id < nx ∧ ∀ b,lk id = some b → BlkR w' loc' id b
theorem Calm.of {k : Nat} {C : Nat → Prop} {nx : Nat} {lk : Nat → Option Blk} {w' : World} {loc' : Loc} (h : k ≤ 1 → ∀ id,¬ C id) : Calm k C nx lk w' loc' :=
 ⟨fun e => h (by omega),fun e id hc => (h (by omega) id hc).elim⟩
def yoi (P : Program) (l : List Oper) (N : Nat → Nat) (st : Nat → List AV × Heap) (val : Nat → AV) (kd : Nat → Nat) (i : Nat) (o : Oper) : Prop :=
 ∀ (w0 : World) (E : Nat → Prop) (w : World) (loc : Loc) (a : Act) (next : Act → World → Prop) (Q : Exit → Act → World → Prop),a.tmps.size = (st 0).1.length →
  (∀ t ∈ o.looksAt l.toArray,R w loc (slot (st i).1 t) (a.tmps.getD t undef)) → (kd i ≠ 0 → HR w loc (st i).2) → Env w0 E w loc → (∀ id,N i ≤ id → id < N (i + 1) → loc.m id = .free) →
  (∀ v w' loc',R w' loc' (val i) v → (∃ C : Nat → Prop,Ext C w loc w' loc' ∧ Calm (kd i) C (N i) (look (st i).2) w' loc') → (∀ id,loc.m id = .free → loc'.m id ≠ .free → N i ≤ id ∧ id < N (i + 1)) → Env w0 E w' loc' →
   (kd i ≠ 0 → HR w' loc' (st (i + 1)).2) → loc'.bad = loc.bad → next (a.put o.dst v) w') → wpOp P l.toArray Q i next a w
structure Text1 (P : Program) (l : List Oper) (N : Nat → Nat) (st : Nat → List AV × Heap) (val : Nat → AV) (kd : Nat → Nat) : Prop where
 mono : ∀ i,i < l.length → N i ≤ N (i + 1)
 size : ∀ i,i ≤ l.length → (st i).1.length = (st 0).1.length
 slot : ∀ i o,l[i]? = some o → ∀ t,slot (st (i + 1)).1 t = if o.dst = some t ∧ t < (st 0).1.length then val i else slot (st i).1 t
 new : ∀ i o,l[i]? = some o → ∀ id b,look (st (i + 1)).2 id = some b → look (st i).2 id ≠ none ∨ (N i ≤ id ∧ id < N (i + 1))
 keep : ∀ i o,l[i]? = some o → kd i ≤ 1 → ∀ id,¬ (N i ≤ id ∧ id < N (i + 1)) → look (st (i + 1)).2 id = look (st i).2 id
 same : ∀ i o,l[i]? = some o → kd i = 0 → ∀ id,look (st (i + 1)).2 id = look (st i).2 id
 kle : ∀ i,kd i ≤ 2
 low : ∀ id b,look (st 0).2 id = some b → id < N 0
 op : ∀ i o,l[i]? = some o → yoi P l N st val kd i o
structure RelL (Z : Nat) (w0 : World) (E : Nat → Prop) (loc : Loc) (sl : List AV) (H : Heap) (nx : Nat) (a : Act) (w : World) : Prop where
 size : a.tmps.size = sl.length
 slots : ∀ t,R w loc (slot sl t) (a.tmps.getD t undef)
 heap : HR w loc H
 env : Env w0 E w loc
 fresh : ∀ id,nx ≤ id → id < Z → loc.m id = .free
 defers : a.defers = []
structure zyg (l : List Oper) (kd : Nat → Nat) : Prop where
 back : ∀ j o,l[j]? = some o → ∀ e ∈ o.after.toList,Region.binds .any e = true → e.on < j
 clash : ∀ i j x y,i < j → l[i]? = some x → l[j]? = some y →
  ((∃ d,x.dst = some d ∧ (d ∈ y.looksAt l.toArray ∨ y.dst = some d)) ∨ (∃ d,y.dst = some d ∧ d ∈ x.looksAt l.toArray) ∨ (kd i = 2 ∧ kd j ≠ 0) ∨ (kd j = 2 ∧ kd i ≠ 0)) →
  ((zgx [] l).getD j 0).testBit i = true
section
variable {P : Program} {l : List Oper} {N : Nat → Nat} {st : Nat → List AV × Heap} {val : Nat → AV} {kd : Nat → Nat} {w0 : World} {E : Nat → Prop} {ws : World} {ls : Loc} {Z : Nat}
theorem Text1.le (ht : Text1 P l N st val kd) {i j : Nat} (hij : i ≤ j) (hj : j ≤ l.length) : N i ≤ N j := by
 induction j with
 | zero => obtain rfl : i = 0 := by omega
           exact Nat.le_refl _
 | succ j ih =>
   by_cases h : i = j + 1
   · subst h; exact Nat.le_refl _
   · exact Nat.le_trans (ih (by omega) (by omega)) (ht.mono j (by omega))
theorem zbs {i : Nat} {o : Oper} (h : l[i]? = some o) : i < l.length := (List.getElem?_eq_some_iff.1 h).1
theorem zfk {i : Nat} (h : i < l.length) : l[i]? = some l[i] := List.getElem?_eq_getElem h
theorem ykn (ht : Text1 P l N st val kd) {t : Tmp} {i k : Nat} (hik : i ≤ k) (hk : k ≤ l.length) (h : ∀ j o,i ≤ j → j < k → l[j]? = some o → o.dst ≠ some t) : slot (st k).1 t = slot (st i).1 t := by
 induction k with
 | zero => obtain rfl : i = 0 := by omega
           rfl
 | succ k ih =>
   by_cases hk' : i = k + 1
   · rw [hk']
   · rw [← ih (by omega) (by omega) (fun j o h1 h2 h3 => h j o h1 (by omega) h3),ht.slot k _ (zfk (by omega)),if_neg (fun e => h k _ (by omega) (by omega) (zfk (by omega)) e.1)]
theorem yja (ht : Text1 P l N st val kd) : ∀ k,k ≤ l.length → ∀ id b,look (st k).2 id = some b → id < N k
 | 0,_,id,b,h => ht.low id b h
 | k + 1,hk,id,b,h => by
  rcases ht.new k _ (zfk (by omega)) id b h with h' | h'
  ·cases h2 : look (st k).2 id with
   | none => exact (h' h2).elim
   | some c => have := yja ht k (by omega) id c h2; have := ht.mono k (by omega); omega
  ·exact h'.2
theorem yni (ht : Text1 P l N st val kd) {id i k : Nat} (hik : i ≤ k) (hk : k ≤ l.length) {b : Blk} (hl : look (st k).2 id = some b) :
   look (st i).2 id ≠ none ∨ ∃ j o,i ≤ j ∧ j < k ∧ l[j]? = some o ∧ kd j ≠ 0 ∧ N j ≤ id ∧ id < N (j + 1) := by
 induction k generalizing b with
 | zero => obtain rfl : i = 0 := by omega
           exact .inl (by rw [hl]; simp)
 | succ k ih =>
   by_cases hk' : i = k + 1
   · subst hk'; exact .inl (by rw [hl]; simp)
   · have ho := zfk (l := l) (i := k) (by omega)
     by_cases hz : kd k = 0
     · rw [ht.same k _ ho hz] at hl
       rcases ih (by omega) (by omega) hl with h | ⟨j,o,h1,h2,h3⟩
       · exact .inl h
       · exact .inr ⟨j,o,h1,by omega,h3⟩
     rcases ht.new k _ ho id b hl with h' | h'
     · cases h2 : look (st k).2 id with
       | none => exact (h' h2).elim
       | some c =>
         rcases ih (by omega) (by omega) h2 with h | ⟨j,o,h1,h2,h3⟩
         · exact .inl h
         · exact .inr ⟨j,o,h1,by omega,h3⟩
     · exact .inr ⟨k,_,by omega,by omega,ho,hz,h'⟩
theorem zur (ht : Text1 P l N st val kd) {id i k : Nat} (hik : i ≤ k) (hk : k ≤ l.length) (hn : ∀ j o,i ≤ j → j < k → l[j]? = some o → kd j ≤ 1 ∧ (kd j = 0 ∨ ¬ (N j ≤ id ∧ id < N (j + 1)))) :
   look (st k).2 id = look (st i).2 id := by
 induction k with
 | zero => obtain rfl : i = 0 := by omega
           rfl
 | succ k ih =>
   by_cases hk' : i = k + 1
   · rw [hk']
   · rw [← ih (by omega) (by omega) (fun j o h1 h2 h3 => hn j o h1 (by omega) h3)]
     have ho := zfk (l := l) (i := k) (by omega)
     obtain ⟨h2,h3⟩ := hn k _ (by omega) (by omega) ho
     rcases h3 with h3 | h3
     · exact ht.same k _ ho h3 id
     · exact ht.keep k _ ho h2 id h3
structure InvG (P : Program) (l : List Oper) (N : Nat → Nat) (st : Nat → List AV × Heap) (kd : Nat → Nat) (Z : Nat) (w0 : World) (E : Nat → Prop) (ws : World) (ls : Loc) (listed : Array Bool) (a : Act) (w : World) (loc : Loc) : Prop where
 sizel : listed.size = l.length
 size : a.tmps.size = (st 0).1.length
 slots : ∀ t k,k ≤ l.length → (∀ i o,l[i]? = some o → o.dst = some t → (Ls listed i ↔ i < k)) → R w loc (slot (st k).1 t) (a.tmps.getD t undef)
 heap : ∀ k,k ≤ l.length → (∀ i o,l[i]? = some o → kd i = 2 → (Ls listed i ↔ i < k)) → HR w loc (st k).2
 closed : ∀ j o,l[j]? = some o → Ls listed j → ∀ e ∈ o.after.toList,Region.binds .any e = true → Ls listed e.on
 fresh : ∀ i,¬ Ls listed i → i < l.length → ∀ id,N i ≤ id → id < N (i + 1) → loc.m id = .free
 high : ∀ id,N l.length ≤ id → id < Z → loc.m id = .free
 env : Env w0 E w loc
 defers : a.defers = []
 tn : Tn ws ls (N 0) (N l.length) w loc
variable {listed : Array Bool} {a : Act} {w : World} {loc : Loc} {i : Nat} {o : Oper}
theorem ycr (hg : zyg l kd) (inv : InvG P l N st kd Z w0 E ws ls listed a w loc) (ho : l[i]? = some o) (hnl : ¬ Ls listed i) (hrd : ∀ e ∈ o.after.toList,Region.binds .any e = true → Ls listed e.on) {t : Tmp} (ht : t ∈ o.looksAt l.toArray) :
  R w loc (slot (st i).1 t) (a.tmps.getD t undef) := by
 have hlt : i < l.length := zbs ho
 refine inv.slots t i (by omega) (fun j x hx hd => ⟨fun hl => ?_,fun hji => ?_⟩)
 ·rcases Nat.lt_trichotomy j i with h | h | h
  ·exact h
  ·subst h; exact (hnl hl).elim
  ·exact (hnl (zbb hg.back inv.closed _ j i (Nat.lt_succ_self _) (hg.clash i j o x h ho hx (.inr (.inl ⟨t,hd,ht⟩))) x hx (inv.closed j x hx hl))).elim
 ·exact zbb hg.back inv.closed _ i j (Nat.lt_succ_self _) (hg.clash j i x o hji hx ho (.inl ⟨t,hd,.inl ht⟩)) o ho hrd
theorem ycs (hg : zyg l kd) (inv : InvG P l N st kd Z w0 E ws ls listed a w loc) (ho : l[i]? = some o) (hnl : ¬ Ls listed i) (hrd : ∀ e ∈ o.after.toList,Region.binds .any e = true → Ls listed e.on) (hk : kd i ≠ 0) :
  HR w loc (st i).2 := by
 have hlt : i < l.length := zbs ho
 refine inv.heap i (by omega) (fun j x hx hd => ⟨fun hl => ?_,fun hji => ?_⟩)
 ·rcases Nat.lt_trichotomy j i with h | h | h
  ·exact h
  ·subst h; exact (hnl hl).elim
  ·exact (hnl (zbb hg.back inv.closed _ j i (Nat.lt_succ_self _) (hg.clash i j o x h ho hx (.inr (.inr (.inr ⟨hd,hk⟩)))) x hx (inv.closed j x hx hl))).elim
 ·exact zbb hg.back inv.closed _ i j (Nat.lt_succ_self _) (hg.clash j i x o hji hx ho (.inr (.inr (.inl ⟨hd,hk⟩)))) o ho hrd
theorem yfu (hg : zyg l kd) (ht : Text1 P l N st val kd) (inv : InvG P l N st kd Z w0 E ws ls listed a w loc) (ho : l[i]? = some o) (hnl : ¬ Ls listed i)
  (hrd : ∀ e ∈ o.after.toList,Region.binds .any e = true → Ls listed e.on) {v : Value} {w' : World} {loc' : Loc} {C : Nat → Prop}
  (hx : R w' loc' (val i) v) (hE : Ext C w loc w' loc') (hC : Calm (kd i) C (N i) (look (st i).2) w' loc')
  (hfr : ∀ id,loc.m id = .free → loc'.m id ≠ .free → N i ≤ id ∧ id < N (i + 1)) (he : Env w0 E w' loc') (hbad : loc'.bad = loc.bad) (hh : kd i ≠ 0 → HR w' loc' (st (i + 1)).2) :
  InvG P l N st kd Z w0 E ws ls (listed.setIfInBounds i true) (a.put o.dst v) w' loc' := by
 have hlt : i < l.length := zbs ho
 have his : i < listed.size := by rw [inv.sizel]; exact hlt
 have hls : ∀ j,Ls (listed.setIfInBounds i true) j ↔ j = i ∨ Ls listed j := fun j => zkp his
 have hanc : ∀ j y,l[j]? = some y → i < j → Ls listed j → ((∃ d,o.dst = some d ∧ (d ∈ y.looksAt l.toArray ∨ y.dst = some d)) ∨ (∃ d,y.dst = some d ∧ d ∈ o.looksAt l.toArray) ∨ (kd i = 2 ∧ kd j ≠ 0) ∨ (kd j = 2 ∧ kd i ≠ 0)) → False := fun j y hy hij hl hc =>
  hnl (zbb hg.back inv.closed _ j i (Nat.lt_succ_self _) (hg.clash i j o y hij ho hy hc) y hy (inv.closed j y hy hl))
 refine ⟨by simp [inv.sizel],?_,?_,?_,?_,?_,?_,he,?_,?_⟩
 ·cases o.dst with
  | none => exact inv.size
  | some d => simp [Act.put,inv.size]
 ·intro t k hk hq
  by_cases hd : o.dst = some t
  ·have hik : i < k := (hq i o ho hd).1 ((hls i).2 (.inl rfl))
   have e1 : slot (st k).1 t = slot (st (i + 1)).1 t := by
    refine ykn ht (by omega) hk (fun j y h1 h2 hy hyd => ?_)
    have := (hls j).1 ((hq j y hy hyd).2 h2)
    rcases this with h | h
    ·omega
    ·exact hanc j y hy (by omega) h (.inl ⟨t,hd,.inr hyd⟩)
   rw [e1,ht.slot i o ho t]
   by_cases hts : t < (st 0).1.length
   ·rw [if_pos ⟨hd,hts⟩,hd]
    have : (a.put (some t) v).tmps.getD t undef = v := by
     have := inv.size
     simp [Act.put,this,hts]
    rw [this]; exact hx
   ·rw [if_neg (fun e => hts e.2),zek (by rw [ht.size i (by omega)]; exact Nat.le_of_not_lt hts)]
    exact .junk _
  ·have h1 := inv.slots t k hk (fun j y hy hyd => by
    have hji : j ≠ i := by
     rintro rfl
     rw [ho] at hy; injection hy with hy; subst hy; exact hd hyd
    rw [← hq j y hy hyd,hls]
    simp [hji])
   have : (a.put o.dst v).tmps.getD t undef = a.tmps.getD t undef := by
    cases hdd : o.dst with
    | none => rfl
    | some d =>
     have hne : d ≠ t := fun e => hd (by rw [hdd,e])
     simp [Act.put,Array.getElem?_setIfInBounds_ne hne]
   rw [this]; exact h1.ext hE
 ·intro k hk hq id b hl
  by_cases hf' : loc'.m id = .free
  ·exact BlkR.free hf'
  by_cases h2 : kd i = 2
  ·have hik : i < k := (hq i o ho h2).1 ((hls i).2 (.inl rfl))
   have hno : ∀ j y,i + 1 ≤ j → j < k → l[j]? = some y → kd j ≤ 1 ∧ (kd j = 0 ∨ ¬ (N j ≤ id ∧ id < N (j + 1))) := by
    intro j y h3 h4 hy
    have hle : kd j ≤ 2 := ht.kle j
    have hne : kd j ≠ 2 := by
     intro hy2
     rcases (hls j).1 ((hq j y hy hy2).2 h4) with h | h
     ·omega
     ·exact hanc j y hy (by omega) h (.inr (.inr (.inl ⟨h2,by omega⟩)))
    refine ⟨by omega,?_⟩
    by_cases hy0 : kd j = 0
    ·exact .inl hy0
    ·right
     intro hr
     have hjl : ¬ Ls listed j := fun hl => hanc j y hy (by omega) hl (.inr (.inr (.inl ⟨h2,hy0⟩)))
     have hfree := inv.fresh j hjl (by omega) id hr.1 hr.2
     have h6 := hfr id hfree hf'
     have := ht.le (i := i + 1) (j := j) (by omega) (by omega)
     omega
   rw [zur ht (by omega) hk hno] at hl
   exact hh (by omega) id b hl
  ·have hold : HR w loc (st k).2 := inv.heap k hk (fun j y hy hy2 => by
    have hji : j ≠ i := by
     rintro rfl
     exact h2 hy2
    rw [← hq j y hy hy2,hls]
    simp [hji])
   have hle : kd i ≤ 1 := by
    have : kd i ≤ 2 := ht.kle i
    omega
   by_cases hf : loc.m id = .free
   ·have hr := hfr id hf hf'
    have hik : i < k := by
     rcases Nat.lt_or_ge i k with h | h
     ·exact h
     ·have := yja ht k hk id b hl
      have := ht.le h (by omega : i ≤ l.length)
      omega
    by_cases hz : kd i = 0
    ·exfalso
     rcases yni ht (i := i + 1) (by omega) hk hl with h | ⟨j,y,h3,h3',_,_,h4,_⟩
     ·rw [ht.same i o ho hz] at h
      cases h5 : look (st i).2 id with
      | none => exact h h5
      | some c => have := yja ht i (by omega) id c h5; omega
     ·have := ht.le h3 (by omega : j ≤ l.length); omega
    ·have hno : ∀ j y,i + 1 ≤ j → j < k → l[j]? = some y → kd j ≤ 1 ∧ (kd j = 0 ∨ ¬ (N j ≤ id ∧ id < N (j + 1))) := by
      intro j y h3 h4 hy
      have hle2 : kd j ≤ 2 := ht.kle j
      have hne : kd j ≠ 2 := by
       intro hy2
       rcases (hls j).1 ((hq j y hy hy2).2 h4) with h | h
       ·omega
       ·exact hanc j y hy (by omega) h (.inr (.inr (.inr ⟨hy2,hz⟩)))
      have := ht.le h3 (by omega : j ≤ l.length)
      exact ⟨by omega,.inr (by omega)⟩
     rw [zur ht (by omega) hk hno] at hl
     exact hh hz id b hl
   ·by_cases hCi : C id
    ·have h1k : kd i = 1 := by
      rcases (by omega : kd i = 0 ∨ kd i = 1) with e | e
      ·exact (hC.zero e id hCi).elim
      ·exact e
     obtain ⟨hlow,hB⟩ := hC.one h1k id hCi
     have heq : look (st k).2 id = look (st i).2 id := by
      rcases Nat.le_total i k with hik | hik
      ·refine zur ht hik hk (fun j y h3 h4 hy => ?_)
       have hle2 : kd j ≤ 2 := ht.kle j
       have hne : kd j ≠ 2 := by
        intro hy2
        have hji : j ≠ i := by rintro rfl; omega
        rcases (hls j).1 ((hq j y hy hy2).2 h4) with h | h
        ·omega
        ·exact hanc j y hy (by omega) h (.inr (.inr (.inr ⟨hy2,by omega⟩)))
       have := ht.le h3 (by omega : j ≤ l.length)
       exact ⟨by omega,.inr (by omega)⟩
      ·have hlow2 := yja ht k hk id b hl
       refine (zur ht hik (by omega) (fun j y h3 h4 hy => ?_)).symm
       have hle2 : kd j ≤ 2 := ht.kle j
       have hne : kd j ≠ 2 := by
        intro hy2
        have hjl : Ls listed j := zbb hg.back inv.closed _ i j (Nat.lt_succ_self _) (hg.clash j i y o h4 hy ho (.inr (.inr (.inl ⟨hy2,by omega⟩)))) o ho hrd
        have := (hq j y hy hy2).1 ((hls j).2 (.inr hjl))
        omega
       have := ht.le h3 (by omega : j ≤ l.length)
       exact ⟨by omega,.inr (by omega)⟩
     exact hB b (heq ▸ hl)
    ·exact (hold id b hl).ext hE hCi hf
 ·intro j y hy hl e hee hbe
  rw [hls]
  rcases (hls j).1 hl with h | h
  ·subst h
   rw [ho] at hy; injection hy with hy; subst hy
   exact .inr (hrd e hee hbe)
  ·exact .inr (inv.closed j y hy h e hee hbe)
 ·intro j hj hjl id h1 h2
  rw [hls] at hj
  have hji : j ≠ i := fun e => hj (.inl e)
  have hf := inv.fresh j (fun h => hj (.inr h)) hjl id h1 h2
  by_cases hf' : loc'.m id = .free
  ·exact hf'
  ·have h6 := hfr id hf hf'
   rcases Nat.lt_or_ge j i with h | h
   ·have := ht.le (i := j + 1) (j := i) (by omega) (by omega); omega
   ·have := ht.le (i := i + 1) (j := j) (by omega) (by omega); omega
 ·intro id h1 hz
  have hf := inv.high id h1 hz
  by_cases hf' : loc'.m id = .free
  ·exact hf'
  ·have h6 := hfr id hf hf'
   have := ht.le (i := i + 1) (j := l.length) (by omega) (by omega); omega
 ·rw [← inv.defers]
  cases o.dst <;> rfl
 ·obtain ⟨⟨D,hD⟩,hf1,hb1⟩ := inv.tn
  refine ⟨⟨_,hD.trans hE⟩,fun id hf hn => ?_,hbad.trans hb1⟩
  by_cases h1 : loc.m id = .free
  ·have h6 := hfr id h1 hn
   have := ht.le (Nat.zero_le i) (by omega : i ≤ l.length)
   have := ht.le (i := i + 1) (j := l.length) (by omega) (by omega)
   omega
  ·exact hf1 id hf h1
theorem yof (hg : zyg l kd) {listed : Array Bool} (hsz : listed.size = l.length) (hr : Region.ready .any l.toArray listed = []) : ∀ n j,j < n → j < l.length → Ls listed j := by
 intro n
 induction n with
 | zero => intro j h; omega
 | succ n ih =>
  intro j hj hjl
  by_cases hl : Ls listed j
  ·exact hl
  ·exfalso
   have : j ∈ Region.ready .any l.toArray listed := by
    refine mem_ready.2 ⟨getD_in (by rw [hsz]; exact hjl) (by unfold Ls at hl; simpa using hl),l[j],by simp [hjl],fun e he hb => ?_⟩
    have hlt := hg.back j l[j] (List.getElem?_eq_getElem hjl) e (by simpa using he) hb
    exact ih e.on (by omega) (by omega)
   rw [hr] at this
   simp at this
theorem ylm (hg : zyg l kd) (ht : Text1 P l N st val kd) {K : Exit → Act → World → Prop}
  (hK : ∀ listed a w loc,InvG P l N st kd Z w0 E ws ls listed a w loc → (∀ j,j < l.length → Ls listed j) → K .normal a w) :
  ∀ (fuel : Nat) (listed : Array Bool) (a : Act) (w : World) (loc : Loc),InvG P l N st kd Z w0 E ws ls listed a w loc → listed.toList.count false ≤ fuel → wpAny P .any l.toArray K fuel listed a w := by
 intro fuel
 induction fuel with
 | zero =>
  intro listed a w loc inv hc
  have hall : ∀ j,j < l.length → Ls listed j := by
   intro j hj
   have hj' : j < listed.size := by rw [inv.sizel]; exact hj
   have h1 : false ∉ listed.toList := by
    intro hm
    have := List.count_pos_iff.2 hm
    omega
   unfold Ls
   have h2 : listed[j] ≠ false := fun e => h1 (by rw [← e]; simp)
   simpa [hj'] using h2
  refine ⟨?_,hK listed a w loc inv hall⟩
  cases hr : Region.ready .any l.toArray listed with
  | nil => rfl
  | cons j r =>
   exfalso
   have hm : j ∈ Region.ready .any l.toArray listed := by rw [hr]; simp
   obtain ⟨h1,o,ho,_⟩ := mem_ready.1 hm
   have hjl : j < l.length := by
    have := (Array.getElem?_eq_some_iff.1 ho).1
    simpa using this
   have := hall j hjl
   unfold Ls at this
   rw [getD_both h1] at this
   cases this
 | succ fuel ih =>
  intro listed a w loc inv hc
  refine ⟨fun hr => hK listed a w loc inv (fun j hj => yof hg inv.sizel hr _ j (Nat.lt_succ_self _) hj),fun i hi => ?_⟩
  obtain ⟨hnl1,o,ho',hrd'⟩ := mem_ready.1 hi
  have ho : l[i]? = some o := by simpa using ho'
  have hnl : ¬ Ls listed i := by unfold Ls; rw [getD_both hnl1]; simp
  have hrd : ∀ e ∈ o.after.toList,Region.binds .any e = true → Ls listed e.on := fun e he hb => hrd' e (by simpa using he) hb
  have hlt : i < l.length := zbs ho
  have hc' : (listed.setIfInBounds i true).toList.count false ≤ fuel := by
   have := zid listed.toList i (by simpa using hnl1)
   rw [Array.toList_setIfInBounds]
   omega
  refine ht.op i o ho w0 E w loc a _ K inv.size (fun t h => ycr hg inv ho hnl hrd h) (fun hk => ycs hg inv ho hnl hrd hk) inv.env (inv.fresh i hnl hlt) ?_
  rintro v w' loc' hr ⟨C,hE,hC⟩ hfr he hh hb
  exact ih _ _ _ loc' (yfu hg ht inv ho hnl hrd hr hE hC hfr he hb hh) hc'
theorem ynh (hm : P.follows .mixedOrders = true) (hg : zyg l kd) (ht : Text1 P l N st val kd) {id : Nat} {a : Act} {w : World} {loc : Loc} (hZ : N l.length ≤ Z) (hr : RelL Z w0 E loc (st 0).1 (st 0).2 (N 0) a w) :
  (Code.region id l.toArray true).wp P (fun e a' w' => e = .normal ∧ ∃ loc',RelL Z w0 E loc' (st l.length).1 (st l.length).2 (N l.length) a' w' ∧ Tn w loc (N 0) (N l.length) w' loc') a w := by
 refine wp_region_any hm ?_
 have hL : ∀ i,¬ Ls (Array.replicate l.toArray.size false) i := fun i h => by
  unfold Ls at h
  rw [getD_replicate_false] at h; cases h
 have hE : Ext (fun _ => False) w loc { w with drawn := w.drawn + 1 } loc := ⟨Nat.le_refl _,fun _ _ _ => rfl,fun _ _ _ => .inl rfl,fun _ _ h => ⟨rfl,h⟩,fun _ _ _ _ => rfl,fun _ cur _ fz h => ⟨cur,fz,h,rfl⟩⟩
 refine ylm hg ht (Z := Z) (w0 := w0) (E := E) (ws := w) (ls := loc) ?_ _ _ _ _ loc ?_ ?_
 ·intro listed a w' loc' inv hall
  have hq : ∀ (i : Nat),i < l.length → (Ls listed i ↔ i < l.length) := fun i hi => ⟨fun _ => hi,fun _ => hall i hi⟩
  refine ⟨rfl,loc',⟨?_,?_,?_,inv.env,inv.high,inv.defers⟩,inv.tn⟩
  ·rw [ht.size _ (Nat.le_refl _)]; exact inv.size
  ·exact fun t => inv.slots t _ (Nat.le_refl _) (fun i o ho _ => hq i (zbs ho))
  ·exact inv.heap _ (Nat.le_refl _) (fun i o ho _ => hq i (zbs ho))
 ·have hcl : ∀ {x v},R w loc x v → R { w with drawn := w.drawn + 1 } loc x v := fun h => h.ext hE
  refine ⟨by simp,hr.size,?_,?_,?_,?_,?_,⟨hr.env.os,hr.env.tape,hr.env.output,hr.env.size,hr.env.same,hr.env.inj,hr.env.lies,hr.env.bad⟩,hr.defers,⟨⟨_,hE⟩,fun id h h' => (h' h).elim,rfl⟩⟩
  ·intro t k hk hq
   have e : slot (st k).1 t = slot (st 0).1 t := by
    refine ykn ht (i := 0) (Nat.zero_le _) hk (fun j o _ hj ho hd => ?_)
    exact hL j ((hq j o ho hd).2 hj)
   rw [e]
   exact hcl (hr.slots t)
  ·intro k hk hq id b hl
   by_cases hf : loc.m id = .free
   ·exact BlkR.free hf
   ·have hidn : id < N 0 ∨ Z ≤ id := by
     rcases Nat.lt_or_ge id (N 0) with h' | h'
     ·exact .inl h'
     ·rcases Nat.lt_or_ge id Z with h2 | h2
      ·exact (hf (hr.fresh id h' h2)).elim
      ·exact .inr h2
    have e : look (st k).2 id = look (st 0).2 id := by
     refine zur ht (i := 0) (Nat.zero_le _) hk (fun j o _ hj ho => ?_)
     have hle : kd j ≤ 2 := ht.kle j
     have hne : kd j ≠ 2 := fun h2 => hL j ((hq j o ho h2).2 hj)
     have := ht.le (Nat.zero_le j) (by omega : j ≤ l.length)
     have := ht.le (by omega : j + 1 ≤ l.length) (Nat.le_refl _)
     exact ⟨by omega,.inr (by omega)⟩
    rw [e] at hl
    exact (hr.heap id b hl).ext hE (fun h => h) hf
  ·intro j o ho hl; exact (hL j hl).elim
  ·intro i _ hi id h1 h2
   have := ht.le (Nat.zero_le i) (by omega : i ≤ l.length)
   have := ht.le (i := i + 1) (j := l.length) (by omega) (Nat.le_refl _)
   exact hr.fresh id (by omega) (by omega)
  ·intro id h1 h2
   have := ht.le (Nat.zero_le l.length) (Nat.le_refl _)
   exact hr.fresh id (by omega) h2
 ·simp
end
end Ax
end Go.Proofs.Ytdfgfdcfcdgadaa
namespace Go.Proofs.Ytdfgfdcfcdgadaa
namespace Ax
theorem R.agreeN {w : World} {loc loc' : Loc} {x : AV} {v : Value} (h : R w loc x v) (hn : x.noimm = true) (hq : ∀ id ∈ x.ids,loc.m id ≠ .free → loc'.m id = loc.m id) : R w loc' x v := by
 induction h with
 | w v h => exact .w v h
 | str bs => exact .str bs
 | agg xs cs hl hx _ ih => exact .agg xs cs hl hx fun j h1 h2 => ih j h1 h2 (zdb (by simpa [AV.noimm] using hn) j h1) fun id hid => hq id (by simp only [AV.ids]; exact zdw j h1 hid)
 | tup xs cs hl _ ih => exact .tup xs cs hl fun j h1 h2 => ih j h1 h2 (zdb (by simpa [AV.noimm] using hn) j h1) fun id hid => hq id (by simp only [AV.ids]; exact zdw j h1 hid)
 | sb bs full a cap hd hc =>
  obtain rfl : bs = [] := by simpa [AV.noimm] using hn
  exact .sb [] full a cap hd ⟨.inl rfl⟩
 | si ns full a cap hd hc =>
  obtain rfl : ns = [] := by simpa [AV.noimm] using hn
  exact .si [] full a cap hd ⟨.inl rfl⟩
 | sg s xs full a cap cs hd hs hc hl hx h1 ih =>
  obtain rfl : xs = [] := by simpa [AV.noimm] using hn
  obtain rfl : cs = [] := by simpa using hl.symm
  exact .sg s [] full a cap [] hd hs ⟨.inl rfl⟩ rfl (by simp) (by simp)
 | cp ls a cs hc hn' hl hx h1 ih => simp [AV.noimm] at hn
 | ms id s off len v h =>
  have hf : loc.m id ≠ .free := by intro e; simp [Owns,e] at h
  have e := hq id (by simp [AV.ids]) hf
  refine .ms id s off len v ?_
  unfold Owns at h ⊢
  rw [e]; exact h
 | rf id s i f v h =>
  have hf : loc.m id ≠ .free := by intro e; simp [Points,e] at h
  have e := hq id (by simp [AV.ids]) hf
  refine .rf id s i f v ?_
  unfold Points at h ⊢
  rw [e]; exact h
 | fn f caps cs hl _ ih => exact .fn f caps cs hl fun j h1 h2 => ih j h1 h2 (zdb (by simpa [AV.noimm] using hn) j h1) fun id hid => hq id (by simp only [AV.ids]; exact zdw j h1 hid)
 | junk v => exact .junk v
def frqE (f : AV → AV) : AV → AV
 | .agg ls => .agg (ls.map f)
 | .tup xs => .tup xs
 | x => f x
def zih : List AV → Bool
 | [] => true
 | x :: r => closedL x.leaves && zih r
noncomputable def frqL (H : Tr Blk) : Nat → AV → AV
 | 0,x => x
 | n + 1,x => match x with
  | .ms id s off len => match H.get id with
   | some (.b bs) => bif decide (s = 1) && decide (off + len ≤ bs.length) then .sb ((bs.drop off).take len) false else .ms id s off len
   | some (.i ns) => bif decide (s = 1) && decide (off + len ≤ ns.length) then .si ((ns.drop off).take len) false else .ms id s off len
   | some (.g s' xs) => bif (decide (s' = s) && decide (off + len ≤ xs.length)) && zih (((xs.drop off).take len).map (frqE (frqL H n))) then .sg s (((xs.drop off).take len).map (frqE (frqL H n))) false else .ms id s off len
   | _ => .ms id s off len
  | .rf id s i f => match H.get id with
   | some (.g s' xs) => bif (decide (0 < s) && (decide (i = 0) && decide (f = 0))) && (!(xs.flatMap AV.leaves).isEmpty && closedL ((xs.flatMap AV.leaves).map (frqL H n))) then .cp ((xs.flatMap AV.leaves).map (frqL H n)) else .rf id s i f
   | _ => .rf id s i f
  | .fn f cs => .fn f (cs.map (frqL H n))
  | x => x
noncomputable def frqV (H : Tr Blk) (x : AV) : AV := frqE (frqL H 6) x
theorem zhf : ∀ {xs : List AV},zih xs = true → ∀ x ∈ xs,closedL x.leaves = true
 | [],_,x,h => by simp at h
 | y :: r,h,x,hx => by
  simp only [zih,Bool.and_eq_true] at h
  rcases List.mem_cons.1 hx with rfl | hx
  ·exact h.1
  ·exact zhf h.2 x hx
def isAgg : AV → Bool
 | .agg _ => true
 | .tup _ => true
 | _ => false
theorem zlc {b : Bool} {x y : AV} (hx : x.leaf = true) (hy : y.leaf = true) : (bif b then x else y).leaf = true := by cases b <;> assumption
theorem zkw {H : Tr Blk} (n : Nat) {x : AV} (h : x.leaf = true) : (frqL H n x).leaf = true := by
 cases n with
 | zero => exact h
 | succ n =>
  unfold frqL
  split
  ·split
   ·exact zlc rfl rfl
   ·exact zlc rfl rfl
   ·exact zlc rfl rfl
   ·rfl
  ·split
   ·exact zlc rfl rfl
   ·rfl
  ·rfl
  ·exact h
theorem zud {x : AV} (h : x.leaf = true) : x.leaves = [x] := by cases x <;> first | rfl | simp [AV.leaf] at h
theorem zob {H : Tr Blk} {n : Nat} {x : AV} (h : ∀ y ∈ x.leaves,y.leaf = true) : (frqE (frqL H n) x).leaves = x.leaves.map (frqL H n) := by
 cases x with
 | agg ls => rfl
 | tup xs => have := h (.tup xs) (by simp [AV.leaves]); simp [AV.leaf] at this
 | _ =>
  have hx := h _ (by simp [AV.leaves]; rfl)
  simp only [frqE,AV.leaves,List.map_cons,List.map_nil]
  exact zud (zkw n hx)
def Loc.bare (loc : Loc) : Loc := { m := fun _ => .free,bad := loc.bad }
theorem bare_mut {loc : Loc} {b : Nat} : Mut loc.bare b ↔ loc.bad b := by
 constructor
 ·rintro (h | ⟨id,h⟩)
  ·exact h
  ·cases h
 ·exact .inl
section
variable {w0 : World} {E : Nat → Prop} {w : World} {loc : Loc} {H : Tr Blk}
theorem yfw (he : Env w0 E w loc) (hh : HR w loc (toH H)) : ∀ (n : Nat) (x : AV) (v : Value),R w loc x v → (frqL H n x).closed = true → R w loc.bare (frqL H n x) v := by
 have hM : ∀ b,b < w.heap.size → Mut loc.bare b → Mut loc b := fun b _ h => .inl (bare_mut.1 h)
 have nomut : ∀ id b,loc.m id = .here b → ¬ Mut loc.bare b := by
  intro id b hb hM
  obtain ⟨h1,h2⟩ := he.bad b (bare_mut.1 hM)
  rcases (he.lies id b hb).2 with h3 | h3
  ·omega
  ·exact h2 h3
 intro n
 induction n with
 | zero => intro x v hx hc; exact hx.move hM hc
 | succ n ih =>
  intro x v hx hc
  unfold frqL at hc ⊢
  split at hc
  ·rename_i id s off len
   cases hx with
   | ms _ _ _ _ _ h =>
    have cells : ∀ (n : Nat) (fl : List AV) {blk : Blk},Ax.look (toH H) id = some blk → Seen w loc v n s fl → ∃ a cap cs,v = .slice a n cap ∧ n ≤ cap ∧ cap ≤ maxLen ∧ (n = 0 ∨ (cs.length = n * s ∧ CellsOf w loc fl cs ∧ ∃ b o,a = some ⟨b,o,none⟩ ∧ b < w.heap.size ∧ (∀ (j : Nat) (hj : j < cs.length),w.cell? ⟨b,o + j,none⟩ = some cs[j]) ∧ loc.m id = .here b)) := by
     intro n fl blk hlk hs
     obtain ⟨a,cap,rfl,h1,h2,h3⟩ := hs.seen
     have hfr : loc.m id ≠ .free := by intro e; simp [Owns,e] at h
     rcases h3 with h3 | ⟨b,o,cs,rfl,h4,h5,h6,h7⟩
     ·exact ⟨a,cap,[],rfl,h1,h2,.inl h3⟩
     ·refine ⟨_,cap,cs,rfl,h1,h2,?_⟩
      obtain ⟨hok,hn | ⟨b',hb',_⟩⟩ := hh.get hlk hfr
      ·unfold Owns at h; rw [hn.1] at h
       left
       obtain ⟨hl0,a,ha⟩ := h
       injection ha with _ hq _
      ·unfold Owns at h; rw [hb'] at h
       obtain ⟨o',cap',cur0,e0,fz0,hv,_⟩ := h
       injection hv with hv _ _
       injection hv with hv
       injection hv with hv1 hv2
       subst hv1
       exact .inr ⟨h5,h7,b,o,rfl,h4,h6,hb'⟩
    split at hc
    ·rename_i bs hlk0
     have hlk : Ax.look (toH H) id = some (.b bs) := by rw [zat]; exact hlk0
     try dsimp only
     try simp only [hlk0]
     cases hq : (decide (s = 1) && decide (off + len ≤ bs.length)) with
     | false => rw [hq] at hc; cases hc
     | true =>
      simp only [hq,cond_true]
      simp only [Bool.and_eq_true,decide_eq_true_eq] at hq
      obtain ⟨rfl,hle⟩ := hq
      have hs := zff hh h hlk rfl hle
      have e : ((bs.drop off).take len).length = len := by simp; omega
      have hfl : (Blk.flat (.b bs) |>.drop (off * 1) |>.take (len * 1)) = ((bs.drop off).take len).map fun b => .w (byte b) := by
       simp [Blk.flat,List.map_take,List.map_drop]
      rw [hfl] at hs
      obtain ⟨a,cap,cs,rfl,h1,h2,h3⟩ := cells len _ hlk hs
      have key : Cells w loc.bare a (((bs.drop off).take len).map byte) := by
       rcases h3 with h3 | ⟨h4,h5,b,o,rfl,h6,h7,h8⟩
       ·subst h3; exact ⟨.inl (by simp)⟩
       ·have hcs := zil h5
        subst hcs
        exact ⟨.inr ⟨b,o,rfl,nomut id b h8,h6,h7⟩⟩
      have := R.sb (w := w) (loc := loc.bare) ((bs.drop off).take len) false a cap ⟨by omega,h2,by simp⟩ key
      rw [e] at this
      exact this
    ·rename_i ns hlk0
     have hlk : Ax.look (toH H) id = some (.i ns) := by rw [zat]; exact hlk0
     try dsimp only
     try simp only [hlk0]
     cases hq : (decide (s = 1) && decide (off + len ≤ ns.length)) with
     | false => rw [hq] at hc; cases hc
     | true =>
      simp only [hq,cond_true]
      simp only [Bool.and_eq_true,decide_eq_true_eq] at hq
      obtain ⟨rfl,hle⟩ := hq
      have hs := zff hh h hlk rfl hle
      have e : ((ns.drop off).take len).length = len := by simp; omega
      have hfl : (Blk.flat (.i ns) |>.drop (off * 1) |>.take (len * 1)) = ((ns.drop off).take len).map fun b => .w (word b) := by
       simp [Blk.flat,List.map_take,List.map_drop]
      rw [hfl] at hs
      obtain ⟨a,cap,cs,rfl,h1,h2,h3⟩ := cells len _ hlk hs
      have key : Cells w loc.bare a (((ns.drop off).take len).map word) := by
       rcases h3 with h3 | ⟨h4,h5,b,o,rfl,h6,h7,h8⟩
       ·subst h3; exact ⟨.inl (by simp)⟩
       ·have hcs : cs = ((ns.drop off).take len).map word := by
         refine List.ext_getElem (by have := h5.len; simpa using this.symm) fun j a b => ?_
         have := h5.r j (by simpa using b) a
         simp only [List.getElem_map] at this ⊢
         exact this.wv
        subst hcs
        exact ⟨.inr ⟨b,o,rfl,nomut id b h8,h6,h7⟩⟩
      have := R.si (w := w) (loc := loc.bare) ((ns.drop off).take len) false a cap ⟨by omega,h2,by simp⟩ key
      rw [e] at this
      exact this
    ·rename_i s' xs hlk0
     have hlk : Ax.look (toH H) id = some (.g s' xs) := by rw [zat]; exact hlk0
     try dsimp only
     try simp only [hlk0]
     cases hq : ((decide (s' = s) && decide (off + len ≤ xs.length)) && zih (((xs.drop off).take len).map (frqE (frqL H n)))) with
     | false => rw [hq] at hc; cases hc
     | true =>
      simp only [hq,cond_true]
      simp only [Bool.and_eq_true,decide_eq_true_eq] at hq
      obtain ⟨⟨rfl,hle⟩,hcl⟩ := hq
      have hfr : loc.m id ≠ .free := by intro e; simp [Owns,e] at h
      obtain ⟨hok,_⟩ := hh.get hlk hfr
      have hs := zff hh h hlk rfl hle
      have e : ((xs.drop off).take len).length = len := by simp; omega
      have hls : ∀ y ∈ (xs.drop off).take len,y.leaves.length = s' := fun y hy => hok.2 y (List.mem_of_mem_drop (List.mem_of_mem_take hy))
      have hfl : (Blk.flat (.g s' xs) |>.drop (off * s') |>.take (len * s')) = ((xs.drop off).take len).flatMap AV.leaves := by
       rw [zbl _ _ (fun y hy => hok.2 y (List.mem_of_mem_drop hy)),zbt _ _ hok.2]; rfl
      rw [hfl] at hs
      obtain ⟨a,cap,cs,rfl,h1,h2,h3⟩ := cells len _ hlk hs
      generalize hys : (xs.drop off).take len = ys at e hls hcl hs h3 ⊢
      by_cases h0 : len = 0
      ·subst h0
       obtain rfl : ys = [] := List.eq_nil_of_length_eq_zero e
       exact .sg s' [] false a cap [] ⟨by simp,h2,by simp⟩ (by simp) ⟨.inl rfl⟩ rfl (by simp) (by simp)
      ·rcases h3 with h3 | ⟨h4,h5,b,o,rfl,h6,h7,h8⟩
       ·exact (h0 h3).elim
       ·have hlf : ∀ y ∈ ys,∀ z ∈ y.leaves,z.leaf = true := by
         intro y hy z hz
         obtain ⟨j,hj,e1⟩ := List.mem_iff_getElem.1 (List.mem_flatMap.2 ⟨y,hy,hz⟩ : z ∈ ys.flatMap AV.leaves)
         rw [← e1]; exact h5.leaf j hj
        have hmap : (ys.map (frqE (frqL H n))).flatMap AV.leaves = (ys.flatMap AV.leaves).map (frqL H n) := by
         clear hcl h5 h4 hs h2 h1 e hls hys
         induction ys with
         | nil => rfl
         | cons y r ihr =>
          simp only [List.map_cons,List.flatMap_cons,List.map_append]
          rw [zob (hlf y (by simp)),ihr (fun y hy => hlf y (by simp [hy]))]
        have hl5 := h5.len
        have := R.sg (w := w) (loc := loc.bare) s' (ys.map (frqE (frqL H n))) false (some ⟨b,o,none⟩) cap cs ⟨by simp [e]; exact h1,h2,by simp⟩
         (fun y hy => by
          obtain ⟨z,hz,rfl⟩ := List.mem_map.1 hy
          rw [zob (hlf z hz),List.length_map]; exact hls z hz)
         ⟨.inr ⟨b,o,rfl,nomut id b h8,h6,h7⟩⟩ (by rw [hmap,List.length_map]; exact hl5)
         (fun j hj => by
          have hm := List.getElem_mem hj
          obtain ⟨y,hy,hyl⟩ := List.mem_flatMap.1 hm
          have hc1 := zhf hcl y hy
          obtain ⟨k,hk,e1⟩ := List.mem_iff_getElem.1 hyl
          refine ⟨?_,by rw [← e1]; exact zbm hc1 k hk⟩
          simp only [hmap] at hj ⊢
          rw [List.getElem_map]
          exact zkw n (h5.leaf j (by simpa using hj)))
         (fun j hj hj' => by
          have hm := List.getElem_mem hj
          obtain ⟨y,hy,hyl⟩ := List.mem_flatMap.1 hm
          have hc1 := zhf hcl y hy
          obtain ⟨k,hk,e1⟩ := List.mem_iff_getElem.1 hyl
          have hc2 := zbm hc1 k hk
          rw [e1] at hc2
          simp only [hmap] at hj hc2 ⊢
          rw [List.getElem_map] at hc2 ⊢
          exact ih _ _ (h5.r j (by simpa using hj) hj') hc2)
        rw [List.length_map,e] at this
        exact this
    ·cases hc
  ·rename_i id s i f
   cases hx with
   | rf _ _ _ _ _ h =>
    split at hc
    ·rename_i s' xs hlk0
     have hlk : Ax.look (toH H) id = some (.g s' xs) := by rw [zat]; exact hlk0
     try dsimp only
     try simp only [hlk0]
     cases hq : ((decide (0 < s) && (decide (i = 0) && decide (f = 0))) && (!(xs.flatMap AV.leaves).isEmpty && closedL ((xs.flatMap AV.leaves).map (frqL H n)))) with
     | false => rw [hq] at hc; cases hc
     | true =>
      simp only [hq,cond_true]
      simp only [Bool.and_eq_true,decide_eq_true_eq,Bool.not_eq_true'] at hq
      obtain ⟨⟨hs0,rfl,rfl⟩,hne,hcl⟩ := hq
      have hfr : loc.m id ≠ .free := by intro e; simp [Points,e] at h
      obtain ⟨hok,hn | ⟨b,hb,hl⟩⟩ := hh.get hlk hfr
      ·unfold Points at h; rw [hn.1] at h; exact h.elim
      ·obtain ⟨cur,el,fz,a1,a2,a3,a4,a5⟩ := hl.lies rfl
       unfold Points at h; rw [hb] at h
       simp only at h
       subst h
       rw [zbh (by omega)]
       have hF : (Blk.g s' xs).flat = xs.flatMap AV.leaves := rfl
       rw [hF] at a4
       have a5' : ∀ (j : Nat) (hj : j < (xs.flatMap AV.leaves).length) (hj' : j < cur.size),(xs.flatMap AV.leaves)[j].leaf = true ∧ R w loc (xs.flatMap AV.leaves)[j] cur[j] := a5
       generalize xs.flatMap AV.leaves = F at hne hcl a4 a5' ⊢
       have hlen : (cur.toList.take F.length).length = F.length := by simp; omega
       have hFn : F ≠ [] := by intro e; subst e; simp at hne
       have hFp : 0 < F.length := List.length_pos_iff.2 hFn
       refine R.cp _ _ (cur.toList.take F.length) ⟨.inr ⟨b,0 * s + 0,rfl,nomut id b hb,(he.lies id b hb).1,fun j hj => ?_⟩⟩ ?_ ?_ ?_ ?_
       ·have hj0 : j < cur.size := by omega
        simp only [World.cell?,a1,Nat.zero_mul,Nat.zero_add,Array.getElem?_eq_getElem hj0,List.getElem_take,Array.getElem_toList]
        rfl
       ·intro e
        rw [e] at hlen
        simp at hlen; omega
       ·rw [List.length_map,hlen]
       ·intro j hj
        have hj0 : j < F.length := by simpa using hj
        refine ⟨?_,zbm hcl j hj⟩
        rw [List.getElem_map]
        exact zkw n (a5' j hj0 (by omega)).1
       ·intro j hj hj'
        have hj0 : j < F.length := by simpa using hj
        have hc2 := zbm hcl j hj
        rw [List.getElem_map] at hc2 ⊢
        have hr := (a5' j hj0 (by omega)).2
        rw [List.getElem_take,Array.getElem_toList]
        exact ih _ _ hr hc2
    ·cases hc
  ·rename_i f cs
   cases hx with
   | fn _ _ vs hl h =>
    simp only [AV.closed] at hc
    exact .fn f _ vs (by simp [hl]) fun j hj hj' => by
     have hj0 : j < cs.length := by simpa using hj
     have hc2 := zbm hc j hj
     rw [List.getElem_map] at hc2 ⊢
     exact ih _ _ (h j hj0 hj') hc2
  ·exact hx.move hM hc
theorem yln (he : Env w0 E w loc) (hh : HR w loc (toH H)) {x : AV} {v : Value} (hx : R w loc x v) (hc : (frqV H x).closed = true) : R w loc.bare (frqV H x) v := by
 unfold frqV at hc ⊢
 unfold frqE at hc ⊢
 split at hc
 ·rename_i ls
  cases hx with
  | agg _ cs hl hlf h =>
   simp only [AV.closed] at hc
   exact .agg _ cs (by simp [hl]) (fun j hj => by rw [List.getElem_map]; exact zkw _ (hlf j (by simpa using hj))) fun j hj hj' => by
    have hc2 := zbm hc j hj
    rw [List.getElem_map] at hc2 ⊢
    exact yfw he hh _ _ _ (h j (by simpa using hj) hj') hc2
 ·exact hx.move (fun b _ h => .inl (bare_mut.1 h)) hc
 ·exact yfw he hh _ _ _ hx hc
end
def allT (p : Blk → Bool) : Tr Blk → Bool
 | .leaf => true
 | .node l a r => (match a with | some b => p b | none => true) && (allT p l && allT p r)
theorem znb {p : Blk → Bool} : ∀ {t : Tr Blk},allT p t = true → ∀ id b,t.get id = some b → p b = true
 | .leaf,_,id,b,h => by cases h
 | .node l a r,ht,id,b,h => by
  simp only [allT,Bool.and_eq_true] at ht
  cases id with
  | zero =>
   rw [zdf] at h
   subst h
   exact ht.1
  | succ id =>
   rw [zcy] at h
   cases hk : Nat.beq (id % 2) 0 with
   | true => rw [hk] at h; exact znb ht.2.1 _ b h
   | false => rw [hk] at h; exact znb ht.2.2 _ b h
def Loc.with (loc loc' : Loc) (nm nz : Nat) : Loc := { m := fun id => if nm ≤ id ∧ id < nz then loc'.m id else loc.m id,bad := loc.bad }
theorem ybz {w0 : World} {E : Nat → Prop} {w : World} {loc : Loc} {nm nz : Nat} (he : Env w0 E w loc) (hfree : ∀ id,nm ≤ id → id < nz → loc.m id = .free) {x : AV} {H : Tr Blk} {v : Value} {w' : World} {loc' : Loc}
  (hx : x.noimm = true) (hN : allT Blk.noimm H = true) (hH : ∀ id b,H.get id = some b → nm ≤ id ∧ id < nz) (hp : PostW w (fun _ => False) w loc.bare nm nz x (toH H) v w' loc') :
  R w' (loc.with loc' nm nz) x v ∧ HR w' (loc.with loc' nm nz) (toH H) ∧ Env w0 E w' (loc.with loc' nm nz) ∧ Ext (fun _ => False) w loc w' (loc.with loc' nm nz) ∧
   (∀ id,loc.m id = .free → (loc.with loc' nm nz).m id ≠ .free → nm ≤ id ∧ id < nz) ∧ (loc.with loc' nm nz).bad = loc.bad := by
 have hin : ∀ id,(nm ≤ id ∧ id < nz) → (loc.with loc' nm nz).m id = loc'.m id := fun id h => by simp [Loc.with,h]
 have hout : ∀ id,¬ (nm ≤ id ∧ id < nz) → (loc.with loc' nm nz).m id = loc.m id := fun id h => by simp only [Loc.with]; rw [if_neg h]
 have hnew : ∀ id,loc'.m id ≠ .free → nm ≤ id ∧ id < nz := fun id h => hp.tn.fresh id rfl h
 have hold : ∀ b,b < w.heap.size → w'.heap[b]? = w.heap[b]? := fun b hb => hp.env.same b hb (fun h => h)
 have hq : ∀ {y : AV} {u : Value},R w' loc' y u → y.noimm = true → R w' (loc.with loc' nm nz) y u := fun h hn => h.agreeN hn fun id _ hf => hin id (hnew id hf)
 have hext : Ext (fun _ => False) w loc w' (loc.with loc' nm nz) := by
  obtain ⟨C,hE⟩ := hp.tn.ext
  refine ⟨hE.size,fun id hf _ => ?_,fun _ _ h => h.elim,fun b hb hm => ⟨hold b hb,?_⟩,fun id b hb _ => hold b (he.lies id b hb).1,hE.shape⟩
  ·exact hout id fun h => hf (hfree id h.1 h.2)
  ·rintro (h | ⟨id,h⟩)
   ·exact hm (.inl h)
   ·by_cases hw : nm ≤ id ∧ id < nz
    ·rw [hin id hw] at h
     rcases (hp.env.lies id b h).2 with h1 | h1
     ·omega
     ·exact h1
    ·rw [hout id hw] at h; exact hm (.inr ⟨id,h⟩)
 refine ⟨hq hp.r hx,fun id blk hl => ?_,?_,hext,fun id hf hn => ?_,rfl⟩
 ·rw [zat] at hl
  have hw := hH id blk hl
  have h1 := hp.h id blk (by rw [zat]; exact hl)
  have hnb := znb hN id blk hl
  unfold BlkR at h1 ⊢
  rw [hin id hw]
  split
  ·trivial
  ·rename_i e; rw [e] at h1; exact h1
  ·rename_i e; rw [e] at h1; exact h1
  ·rename_i b e
   rw [e] at h1
   obtain ⟨hok,hl1⟩ := h1
   rcases zbi blk with ⟨y,hy,rfl⟩ | hodd
   ·have hlone : y.lone = true := hnb
    exact ⟨hok,.mkO (Thing.far hlone (hl1.is hy)) hy⟩
   obtain ⟨cur,el,fz,a1,a2,a3,a4,a5⟩ := hl1.lies hodd
   exact ⟨hok,.mkC ⟨cur,el,fz,a1,a2,a3,a4,fun j hj hj' => ⟨(a5 j hj hj').1,hq (a5 j hj hj').2 (zqt hnb _ (List.getElem_mem hj))⟩⟩ hodd⟩
 ·refine ⟨hp.env.os.trans he.os,hp.env.tape.trans he.tape,hp.env.output.trans he.output,Nat.le_trans he.size hp.env.size,?_,?_,?_,he.bad⟩
  ·intro b hb hE
   rw [hold b (Nat.lt_of_lt_of_le hb he.size)]
   exact he.same b hb hE
  ·have hcross : ∀ i j b,(nm ≤ i ∧ i < nz) → ¬ (nm ≤ j ∧ j < nz) → loc'.m i = .here b → loc.m j = .here b → False := by
    intro i j b _ _ h1 h2
    have h3 := (he.lies j b h2).1
    rcases (hp.env.lies i b h1).2 with h5 | h5
    ·omega
    ·exact h5
   intro i j b hi hj
   by_cases h1 : nm ≤ i ∧ i < nz
   ·rw [hin i h1] at hi
    by_cases h2 : nm ≤ j ∧ j < nz
    ·rw [hin j h2] at hj
     exact hp.env.inj i j b hi hj
    ·rw [hout j h2] at hj
     exact (hcross i j b h1 h2 hi hj).elim
   ·rw [hout i h1] at hi
    by_cases h2 : nm ≤ j ∧ j < nz
    ·rw [hin j h2] at hj
     exact (hcross j i b h2 h1 hj hi).elim
    ·rw [hout j h2] at hj
     exact he.inj i j b hi hj
  ·intro i b hi
   by_cases h1 : nm ≤ i ∧ i < nz
   ·rw [hin i h1] at hi
    obtain ⟨h2,h3⟩ := hp.env.lies i b hi
    refine ⟨h2,?_⟩
    rcases h3 with h3 | h3
    ·exact .inl (Nat.le_trans he.size h3)
    ·exact h3.elim
   ·rw [hout i h1] at hi
    obtain ⟨h2,h3⟩ := he.lies i b hi
    exact ⟨Nat.lt_of_lt_of_le h2 hp.env.size,h3⟩
 ·by_cases h : nm ≤ id ∧ id < nz
  ·exact h
  ·rw [hout id h] at hn; exact (hn hf).elim
theorem yjh {w0 : World} {E : Nat → Prop} {w : World} {loc : Loc} (he : Env w0 E w loc) : Env w (fun _ => False) w loc.bare :=
 ⟨rfl,rfl,rfl,Nat.le_refl _,fun _ _ _ => rfl,(fun i j b h => by cases h),(fun i b h => by cases h),fun b hb => ⟨Nat.lt_of_lt_of_le (he.bad b hb).1 he.size,fun h => h⟩⟩
end Ax
end Go.Proofs.Ytdfgfdcfcdgadaa
