/- What the proofs of this seat stand on; it asks nothing. -/
import Derived.Test.YtioldmhhefhelaaYa12
set_option linter.unusedSimpArgs false
set_option linter.unusedVariables false
namespace Go.Proofs.Ytioldmhhefhelaa
namespace Ax
abbrev Us := List (Nat × Option Blk)
def upd : Us → (Nat → Option Blk) → Nat → Option Blk
 | [],lk,id => lk id
 | (k,b) :: r,lk,id => if k = id then b else upd r lk id
def Told (o : Out) (lk : Nat → Option Blk) (r : Option (AV × Us)) : Prop := ∀ x us,r = some (x,us) → o.p ∧ o.x = x ∧ ∀ id,look o.H id = upd us lk id
section
variable {H : Heap} {lk : Nat → Option Blk} (hl : ∀ id,look H id = lk id)
def csub (ti : TyI) (ls : List AV) (f : Nat) : Option AV :=
 bif ti.d.aggr then (if f + ti.size ≤ ls.length then some (.agg ((ls.drop f).take ti.size)) else none) else (if f < ls.length then some (slot ls f) else none)
theorem zod {ti : TyI} {ls : List AV} {f : Nat} {x : AV} (h : csub ti ls f = some x) : (subv ti ls f H).p ∧ (subv ti ls f H).x = x ∧ (subv ti ls f H).H = H := by
 unfold csub at h
 unfold subv
 cases ha : ti.d.aggr <;> simp only [ha,cond_true,cond_false] at h ⊢ <;> split at h <;> simp_all
def ynp (T : zae) (t : TypeId) (x : AV) (lk : Nat → Option Blk) : Option (AV × Us) :=
 match T t with
 | none => none
 | some ti => match x with
  | .cp ls => (csub ti ls 0).map fun y => (y,[])
  | .rf id s i f => match lk id with
   | some blk => bif zml ti blk then (if s = 1 ∧ f = 0 then (csub ti blk.flat i).map fun y => (y,[]) else none) else (if s = blk.size ∧ i < blk.len then (csub ti (zao blk i) f).map fun y => (y,[]) else none)
   | none => none
  | _ => none
include hl in
theorem yff {T : zae} {t : TypeId} {x : AV} : Told (aLoad T t x H) lk (ynp T t x lk) := by
 intro y us h
 unfold ynp at h
 unfold aLoad
 split at h
 ·cases h
 ·rename_i ti ht
  simp only [ht]
  split at h
  ·obtain ⟨z,hz,he⟩ := Option.map_eq_some_iff.1 h
   injection he with h1 h2; subst h1 h2
   obtain ⟨a,b,c⟩ := zod (H := H) hz
   exact ⟨a,b,fun id => by rw [c]; exact hl id⟩
  ·rename_i id s i f
   simp only [hl id]
   split at h
   ·rename_i blk hb
    simp only [hb]
    cases hm : zml ti blk <;> simp only [hm,cond_true,cond_false] at h ⊢
    all_goals
     split at h
     ·rename_i hc
      obtain ⟨z,hz,he⟩ := Option.map_eq_some_iff.1 h
      injection he with h1 h2; subst h1 h2
      obtain ⟨a,b,c⟩ := zod (H := H) hz
      exact ⟨⟨hc,a⟩,b,fun id => by simp only [Out.and]; rw [c]; exact hl id⟩
     ·cases h
   ·cases h
  ·cases h
def ymx (blk : Blk) (i f : Nat) (x : AV) : Option Blk :=
 match blk with
 | .b bs => match x with
  | .w (.int .u8 m) => if f = 0 ∧ 0 ≤ m ∧ m < 256 then some (.b (bs.set i (UInt8.ofNat m.toNat))) else none
  | _ => none
 | .i ns => match x with
  | .w (.int .i64 m) => if f = 0 then some (.i (ns.set i m)) else none
  | _ => none
 | .g s xs => match slot xs i with
  | .agg ls => if f + x.leaves.length ≤ ls.length then some (.g s (setSlot xs i (.agg (splice ls f x.leaves)))) else none
  | _ => if f = 0 ∧ x.leaf = true then some (.g s (setSlot xs i x)) else none
 | .o _ => none
theorem yrg {blk : Blk} {i f : Nat} {x : AV} {b : Blk} (h : ymx blk i f x = some b) : (setB blk i f x).1 ∧ (setB blk i f x).2 = b := by
 cases blk with
 | b bs =>
  simp only [ymx] at h
  simp only [setB]
  split at h
  ·split at h <;> simp_all
  ·cases h
 | i ns =>
  simp only [ymx] at h
  simp only [setB]
  split at h
  ·split at h <;> simp_all
  ·cases h
 | g s xs =>
  simp only [ymx] at h
  simp only [setB]
  cases hs : slot xs i <;> simp only [hs] at h ⊢ <;> split at h <;> simp_all
 | o x => cases h
def clayB (blk : Blk) (i : Nat) (x : AV) : Option Blk :=
 match blk with
 | .b bs => match zrp x.leaves with
  | some ys => if i + ys.length ≤ bs.length ∧ 0 < ys.length then some (.b (bs.take i ++ (ys ++ bs.drop (i + ys.length)))) else none
  | none => none
 | _ => none
theorem yrl {blk : Blk} {i : Nat} {x : AV} {b : Blk} (h : clayB blk i x = some b) : (layB blk i x).1 ∧ (layB blk i x).2 = b := by
 unfold clayB at h
 unfold layB
 split at h
 ·split at h
  ·rename_i ys hy
   split at h
   ·rename_i hc
    injection h with h
    simp only [hy]
    exact ⟨hc,h⟩
   ·cases h
  ·cases h
 ·cases h
def yfc (T : zae) (t : TypeId) (p x : AV) (lk : Nat → Option Blk) : Option (AV × Us) :=
 match T t,p with
 | some ti,.rf id s i f => match lk id with
  | some blk => bif zml ti blk then (if s = 1 ∧ f = 0 ∧ x.leaves.length = ti.size ∧ x.okv = true then (clayB blk i x).map fun b => (.junk,[(id,some b)]) else none) else if s = blk.size ∧ i < blk.len ∧ x.leaves.length = ti.size ∧ x.okv = true then (ymx blk i f x).map fun b => (.junk,[(id,some b)]) else none
  | none => none
 | _,_ => none
theorem zas (hl : ∀ id,look H id = lk id) {nm : Nat} {b : Blk} (id : Nat) : look (put H nm b) id = upd [(nm,some b)] lk id := by
 rw [zau]; simp only [upd]; split <;> simp [hl]
include hl in
theorem ynm {T : zae} {t : TypeId} {p x : AV} : Told (zku T t p x H) lk (yfc T t p x lk) := by
 intro y us h
 unfold yfc at h
 unfold zku
 split at h
 ·rename_i ti id s i f ht
  simp only [ht,hl id]
  split at h
  ·rename_i blk hb
   simp only [hb]
   cases hm : zml ti blk <;> simp only [hm,cond_true,cond_false] at h ⊢
   case true =>
    split at h
    ·rename_i hc
     obtain ⟨z,hz,he⟩ := Option.map_eq_some_iff.1 h
     injection he with h1 h2; subst h1 h2
     obtain ⟨a,b⟩ := yrl hz
     refine ⟨⟨hc.1,hc.2.1,hc.2.2.1,hc.2.2.2,a⟩,rfl,fun k => ?_⟩
     rw [b]; exact zas hl k
    ·cases h
   split at h
   ·rename_i hc
    obtain ⟨z,hz,he⟩ := Option.map_eq_some_iff.1 h
    injection he with h1 h2; subst h1 h2
    obtain ⟨a,b⟩ := yrg hz
    refine ⟨⟨hc.1,hc.2.1,hc.2.2.1,hc.2.2.2,a⟩,rfl,fun k => ?_⟩
    rw [b]; exact zas hl k
   ·cases h
  ·cases h
 ·cases h
def yie (c a b : AV) : Option (AV × Us) :=
 match c with
 | .w (.bool t) => match a,b with
  | .w (.bool x),.w (.bool y) => some (.w (.bool (bif t then x else y)),[])
  | _,.w (.bool y) => if t = false then some (.w (.bool y),[]) else none
  | .w (.bool x),_ => if t = true then some (.w (.bool x),[]) else none
  | _,_ => none
 | _ => none
include hl in
theorem yrp {c a b : AV} : Told (zsu c a b H) lk (yie c a b) := by
 intro y us h
 have key : ∀ t,yie (.w (.bool t)) a b = some (y,us) → (zsu (.w (.bool t)) a b H).p ∧ (zsu (.w (.bool t)) a b H).x = y ∧ ∀ id,look (zsu (.w (.bool t)) a b H).H id = upd us lk id := by
  intro t h
  rcases hb : b with v | _ | _ | _ | _ | _ | _ | _ | _ | _ | _ | _ <;> subst hb <;> (try rcases hv : v with x | _ | _ | _ | _ | _ | _ | _ | _ | _ | _ | _ | _ | _ | _) <;> (try subst hv) <;>
   rcases ha : a with u | _ | _ | _ | _ | _ | _ | _ | _ | _ | _ | _ <;> subst ha <;> (try rcases hu : u with z | _ | _ | _ | _ | _ | _ | _ | _ | _ | _ | _ | _ | _ | _) <;> (try subst hu) <;>
   simp only [yie] at h <;> first | (cases h; done) | (split at h <;> first | (cases h; done) | (injection h with h; injection h with h1 h2; subst h1 h2; exact ⟨by assumption,rfl,hl⟩)) | (injection h with h; injection h with h1 h2; subst h1 h2; exact ⟨trivial,rfl,hl⟩)
 unfold yie at h
 split at h
 ·exact key _ h
 ·cases h
def yfm (T : zae) (nm : Nat) (e : TypeId) : Option (AV × Us) :=
 match T e with
 | some ti => bif zlt ti then (if 0 < ti.size then some (.rf nm 1 0 0,[(nm,some (.b (List.replicate ti.size 0)))]) else none) else (if 0 < ti.size then some (.rf nm ti.size 0 0,[(nm,some (.g ti.size [asv ti ti.zero]))]) else none)
 | none => none
include hl in
theorem ynv {T : zae} {nm : Nat} {e : TypeId} : Told (aAlloc T nm e H) lk (yfm T nm e) := by
 intro y us h
 unfold yfm at h
 unfold aAlloc
 split at h
 ·rename_i ti ht
  simp only [ht]
  cases hm : zlt ti <;> simp only [hm,cond_true,cond_false] at h ⊢
  all_goals
   split at h
   ·injection h with h; injection h with h1 h2; subst h1 h2
    exact ⟨by assumption,rfl,fun id => zas hl id⟩
   ·cases h
 ·cases h
def cBox (T : zae) (nm : Nat) (e : TypeId) (x : AV) : Option (AV × Us) :=
 match T e with
 | some ti => if 0 < ti.size ∧ x.leaves.length = ti.size ∧ x.okv = true then some (.rf nm ti.size 0 0,[(nm,some (.g ti.size [x]))]) else none
 | none => none
include hl in
theorem cBox_ok {T : zae} {nm : Nat} {e : TypeId} {x : AV} : Told (aBox T nm e x H) lk (cBox T nm e x) := by
 intro y us h
 unfold cBox at h
 unfold aBox
 split at h
 ·rename_i ti ht
  simp only [ht]
  split at h
  ·injection h with h; injection h with h1 h2; subst h1 h2
   exact ⟨by assumption,rfl,fun id => zas hl id⟩
  ·cases h
 ·cases h
def yeu (T : zae) (fs : List (Nat × TypeId)) : List (Nat × AV) → List AV → Option (List AV)
 | [],ls => some ls
 | (i,x) :: r,ls => match fs[i]? with
  | some (off,ty) => match T ty with
   | some ti => if x.leaves.length = ti.size ∧ x.okv = true ∧ off + ti.size ≤ ls.length then yeu T fs r (splice ls off x.leaves) else none
   | none => none
  | none => none
theorem zzd {T : zae} {fs : List (Nat × TypeId)} : ∀ {ps : List (Nat × AV)} {ls zs : List AV},yeu T fs ps ls = some zs → (fillS T fs ps ls).1 ∧ (fillS T fs ps ls).2 = zs
 | [],ls,zs,h => by injection h with h; exact ⟨trivial,h⟩
 | (i,x) :: r,ls,zs,h => by
  unfold yeu at h
  unfold fillS
  split at h
  ·rename_i off ty hi
   simp only [hi]
   split at h
   ·rename_i ti ht
    simp only [ht]
    split at h
    ·rename_i hc
     obtain ⟨h1,h2⟩ := zzd h
     exact ⟨⟨hc.1,hc.2.1,hc.2.2,h1⟩,h2⟩
    ·cases h
   ·cases h
  ·cases h
def yey (s : Nat) : List (Nat × AV) → List AV → Option (List AV)
 | [],ls => some ls
 | (i,x) :: r,ls => if x.leaves.length = s ∧ x.okv = true ∧ i * s + s ≤ ls.length then yey s r (splice ls (i * s) x.leaves) else none
theorem zzh {s : Nat} : ∀ {ps : List (Nat × AV)} {ls zs : List AV},yey s ps ls = some zs → (zsq s ps ls).1 ∧ (zsq s ps ls).2 = zs
 | [],ls,zs,h => by injection h with h; exact ⟨trivial,h⟩
 | (i,x) :: r,ls,zs,h => by
  unfold yey at h
  unfold zsq
  split at h
  ·rename_i hc
   obtain ⟨h1,h2⟩ := zzh h
   exact ⟨⟨hc.1,hc.2.1,hc.2.2,h1⟩,h2⟩
  ·cases h
def zzk (T : zae) : List (Nat × TypeId) → Bool
 | [] => true
 | p :: r => match T p.2 with
  | some _ => zzk T r
  | none => false
theorem zzj {T : zae} : ∀ {l : List (Nat × TypeId)},zzk T l = true → allTy T l
 | [],_ => trivial
 | p :: r,h => by
  unfold zzk at h
  unfold allTy
  split at h
  ·rename_i x hx; simp only [hx]; exact zzj h
  ·cases h
def yfl (T : zae) (t : TypeId) (ps : List (Nat × AV)) : Option (AV × Us) :=
 match T t with
 | some ti => match ti.d with
  | .struct fs => bif zzk T fs then (yeu T fs ps ti.zero).map fun l => (.agg l,[]) else none
  | .arr _ e => match T e with
   | some te => (yey te.size ps ti.zero).map fun l => (.agg l,[])
   | none => none
  | _ => none
 | none => none
include hl in
theorem ynu {T : zae} {t : TypeId} {ps : List (Nat × AV)} : Told (aBuild T t ps H) lk (yfl T t ps) := by
 intro y us h
 unfold yfl at h
 unfold aBuild
 split at h
 ·rename_i ti ht
  simp only [ht]
  split at h
  ·rename_i fs hd
   simp only [hd]
   cases hc : zzk T fs with
   | false => rw [hc] at h; cases h
   | true =>
    rw [hc] at h
    obtain ⟨z,hz,he⟩ := Option.map_eq_some_iff.1 h
    injection he with h1 h2; subst h1 h2
    obtain ⟨a,b⟩ := zzd hz
    exact ⟨⟨zzj hc,a⟩,by rw [b],hl⟩
  ·rename_i n e hd
   simp only [hd]
   split at h
   ·rename_i te hte
    simp only [hte]
    obtain ⟨z,hz,he⟩ := Option.map_eq_some_iff.1 h
    injection he with h1 h2; subst h1 h2
    obtain ⟨a,b⟩ := zzh hz
    exact ⟨a,by rw [b],hl⟩
   ·cases h
  ·cases h
 ·cases h
def yex : List (Nat × AV) → List UInt8 → Option (List UInt8)
 | [],bs => some bs
 | (i,x) :: r,bs => match x with
  | .w (.int .u8 m) => if i < bs.length ∧ 0 ≤ m ∧ m < 256 then yex r (bs.set i (UInt8.ofNat m.toNat)) else none
  | _ => none
theorem zzg : ∀ {ps : List (Nat × AV)} {ls zs : List UInt8},yex ps ls = some zs → (fillB ps ls).1 ∧ (fillB ps ls).2 = zs
 | [],ls,zs,h => by injection h with h; exact ⟨trivial,h⟩
 | (i,x) :: r,ls,zs,h => by
  unfold yex at h
  unfold fillB
  split at h
  ·split at h
   ·rename_i hc
    obtain ⟨h1,h2⟩ := zzg h
    exact ⟨⟨hc.1,hc.2.1,hc.2.2,h1⟩,h2⟩
   ·cases h
  ·cases h
def yev : List (Nat × AV) → List Int → Option (List Int)
 | [],ns => some ns
 | (i,x) :: r,ns => match x with
  | .w (.int .i64 m) => if i < ns.length then yev r (ns.set i m) else none
  | _ => none
theorem zze : ∀ {ps : List (Nat × AV)} {ls zs : List Int},yev ps ls = some zs → (fillI ps ls).1 ∧ (fillI ps ls).2 = zs
 | [],ls,zs,h => by injection h with h; exact ⟨trivial,h⟩
 | (i,x) :: r,ls,zs,h => by
  unfold yev at h
  unfold fillI
  split at h
  ·split at h
   ·rename_i hc
    obtain ⟨h1,h2⟩ := zze h
    exact ⟨⟨hc,h1⟩,h2⟩
   ·cases h
  ·cases h
def yew (s : Nat) : List (Nat × AV) → List AV → Option (List AV)
 | [],xs => some xs
 | (i,x) :: r,xs => if i < xs.length ∧ x.leaves.length = s ∧ x.okv = true then yew s r (setSlot xs i x) else none
theorem zzf {s : Nat} : ∀ {ps : List (Nat × AV)} {ls zs : List AV},yew s ps ls = some zs → (fillG s ps ls).1 ∧ (fillG s ps ls).2 = zs
 | [],ls,zs,h => by injection h with h; exact ⟨trivial,h⟩
 | (i,x) :: r,ls,zs,h => by
  unfold yew at h
  unfold fillG
  split at h
  ·rename_i hc
   obtain ⟨h1,h2⟩ := zzf h
   exact ⟨⟨hc.1,hc.2.1,hc.2.2,h1⟩,h2⟩
  ·cases h
def isZ (k : IntKind) : List AV → Bool
 | [.w (.int k' n)] => decide (k' = k) && decide (n = 0)
 | _ => false
theorem zxx {k : IntKind} {l : List AV} (h : isZ k l = true) : l = [.w (.int k 0)] := by
 unfold isZ at h
 split at h
 ·simp only [Bool.and_eq_true,decide_eq_true_eq] at h
  obtain ⟨rfl,rfl⟩ := h; rfl
 ·cases h
def zik (T : zae) (nm : Nat) (t : TypeId) (n : Nat) (ps : List (Nat × AV)) : Option (AV × Us) :=
 match T t with
 | some ti => match ti.d with
  | .slice e => match T e with
   | some te => match te.d with
    | .int .u8 => if te.size = 1 ∧ isZ .u8 te.zero = true ∧ n ≤ 16777216 then (yex ps (List.replicate n 0)).map fun l => (.ms nm 1 0 n,[(nm,some (.b l))]) else none
    | .int .i64 => if te.size = 1 ∧ isZ .i64 te.zero = true ∧ n ≤ 16777216 then (yev ps (List.replicate n 0)).map fun l => (.ms nm 1 0 n,[(nm,some (.i l))]) else none
    | _ => if 0 < te.size ∧ n * te.size ≤ 16777216 then (yew te.size ps (List.replicate n (asv te te.zero))).map fun l => (.ms nm te.size 0 n,[(nm,some (.g te.size l))]) else none
   | none => none
  | _ => none
 | none => none
include hl in
theorem zss {T : zae} {nm : Nat} {t : TypeId} {n : Nat} {ps : List (Nat × AV)} : Told (aBuildSlice T nm t n ps H) lk (zik T nm t n ps) := by
 intro y us h
 unfold zik at h
 unfold aBuildSlice
 split at h
 ·rename_i ti ht
  simp only [ht]
  split at h
  ·rename_i e hd
   simp only [hd]
   split at h
   ·rename_i te hte
    simp only [hte]
    split at h
    ·rename_i hk
     simp only [hk]
     split at h
     ·rename_i hc
      obtain ⟨z,hz,he⟩ := Option.map_eq_some_iff.1 h
      injection he with h1 h2; subst h1 h2
      obtain ⟨a,b⟩ := zzg hz
      exact ⟨⟨hc.1,zxx hc.2.1,hc.2.2,a⟩,rfl,fun id => by rw [b]; exact zas hl id⟩
     ·cases h
    ·rename_i hk
     simp only [hk]
     split at h
     ·rename_i hc
      obtain ⟨z,hz,he⟩ := Option.map_eq_some_iff.1 h
      injection he with h1 h2; subst h1 h2
      obtain ⟨a,b⟩ := zze hz
      exact ⟨⟨hc.1,zxx hc.2.1,hc.2.2,a⟩,rfl,fun id => by rw [b]; exact zas hl id⟩
     ·cases h
    ·rename_i hk1 hk2
     split
     ·rename_i he; exact (hk1 he).elim
     ·rename_i he; exact (hk2 he).elim
     ·split at h
      ·rename_i hc
       obtain ⟨z,hz,he⟩ := Option.map_eq_some_iff.1 h
       injection he with h1 h2; subst h1 h2
       obtain ⟨a,b⟩ := zzf hz
       exact ⟨⟨hc.1,hc.2,a⟩,rfl,fun id => by rw [b]; exact zas hl id⟩
      ·cases h
   ·cases h
  ·cases h
 ·cases h
def cNil (x : AV) (lk : Nat → Option Blk) : Option (AV × Us) :=
 match x with
 | .rf id s i f => match lk id with
  | some _ => if s ≠ 0 then some (.rf id s i f,[]) else none
  | none => none
 | .cp ls => some (.cp ls,[])
 | .fn f cs => some (.fn f cs,[])
 | _ => none
include hl in
theorem cNil_ok {x : AV} : Told (aNil x H) lk (cNil x lk) := by
 intro y us h
 unfold cNil at h
 unfold aNil
 split at h
 ·rename_i id s i f
  simp only [hl id]
  split at h
  ·rename_i b hb
   simp only [hb]
   split at h
   ·injection h with h; injection h with h1 h2; subst h1 h2
    exact ⟨by assumption,rfl,hl⟩
   ·cases h
  ·cases h
 ·injection h with h; injection h with h1 h2; subst h1 h2; exact ⟨trivial,rfl,hl⟩
 ·injection h with h; injection h with h1 h2; subst h1 h2; exact ⟨trivial,rfl,hl⟩
 ·cases h
def cInt (op : BinOp) (k : IntKind) (a : Int) (k' : IntKind) (b : Int) : Option Value :=
 match op with
 | .shl => if 0 ≤ b then some (.int k (k.wrap (a * 2 ^ min b.toNat k.bits))) else none
 | .shr => if 0 ≤ b then some (.int k (a / 2 ^ min b.toNat k.bits)) else none
 | .add => if k = k' then some (.int k (k.wrap (a + b))) else none
 | .sub => if k = k' then some (.int k (k.wrap (a - b))) else none
 | .mul => if k = k' then some (.int k (k.wrap (a * b))) else none
 | .quo => if k = k' ∧ b ≠ 0 then some (.int k (k.wrap (a.tdiv b))) else none
 | .rem => if k = k' ∧ b ≠ 0 then some (.int k (a.tmod b)) else none
 | .and => if k = k' then some (.int k (bits .and k a b)) else none
 | .or => if k = k' then some (.int k (bits .or k a b)) else none
 | .xor => if k = k' then some (.int k (bits .xor k a b)) else none
 | .andNot => if k = k' then some (.int k (bits .andNot k a b)) else none
 | .eql => if k = k' then some (.bool (decide (a = b))) else none
 | .neq => if k = k' then some (.bool (!decide (a = b))) else none
 | .lss => if k = k' then some (.bool (decide (a < b))) else none
 | .leq => if k = k' then some (.bool (decide (a ≤ b))) else none
 | .gtr => if k = k' then some (.bool (decide (b < a))) else none
 | .geq => if k = k' then some (.bool (decide (b ≤ a))) else none
theorem cInt_ok {op : BinOp} {k k' : IntKind} {a b : Int} {v : Value} (h : cInt op k a k' b = some v) : (aInt op k a k' b).1 ∧ (aInt op k a k' b).2 = v := by
 cases op <;> simp only [cInt] at h <;> simp only [aInt] <;> split at h <;> first | (injection h with h; exact ⟨by assumption,h⟩) | cases h
def cStr (op : BinOp) (a b : List UInt8) : Option AV :=
 match op with
 | .add => if a.length + b.length ≤ 1099511627776 then some (.str (a ++ b)) else none
 | .eql => some (.w (.bool (decide (a = b))))
 | .neq => some (.w (.bool (!decide (a = b))))
 | .lss => some (.w (.bool (Op.bytesLess a b)))
 | .leq => some (.w (.bool (Op.bytesLess a b || decide (a = b))))
 | .gtr => some (.w (.bool (!(Op.bytesLess a b || decide (a = b)))))
 | .geq => some (.w (.bool (!(Op.bytesLess a b))))
 | _ => none
theorem cStr_ok {op : BinOp} {a b : List UInt8} {v : AV} (h : cStr op a b = some v) : (aStr op a b).1 ∧ (aStr op a b).2 = v := by
 cases op <;> simp only [cStr] at h <;> simp only [aStr] <;> first | cases h | (split at h <;> first | cases h | (injection h with h; exact ⟨by assumption,h⟩)) | (injection h with h; exact ⟨trivial,h⟩)
 all_goals first | exact ⟨trivial,rfl⟩ | trivial
def cEq (op : BinOp) (r : Bool) : Option (AV × Us) :=
 match op with
 | .eql => some (.w (.bool r),[])
 | .neq => some (.w (.bool (!r)),[])
 | _ => none
include hl in
theorem yfi {op : BinOp} {r : Bool} : Told (aEq op r H) lk (cEq op r) := by
 intro y us h
 cases op <;> simp only [cEq] at h <;> first | cases h | skip
 all_goals (exact ⟨trivial,rfl,hl⟩)
def yet (T : zae) (t : TypeId) : Bool :=
 match T t with
 | some ti => match ti.d with
  | .ptr => true
  | _ => false
 | none => false
theorem zzc {T : zae} {t : TypeId} (h : yet T t = true) : isPtr T t := by
 unfold yet at h; unfold isPtr; split at h
 ·rename_i ti ht; simp only [ht]; split at h
  ·rename_i hd; simp only [hd]
  ·cases h
 ·cases h
def yce (T : zae) (t : TypeId) : Bool :=
 match T t with
 | some ti => match ti.d with
  | .bool => true
  | _ => false
 | none => false
theorem yhy {T : zae} {t : TypeId} (h : yce T t = true) : isBool T t := by
 unfold yce at h; unfold isBool; split at h
 ·rename_i ti ht; simp only [ht]; split at h
  ·rename_i hd; simp only [hd]
  ·cases h
 ·cases h
def znb (T : zae) (t : TypeId) : Bool :=
 match T t with
 | some ti => match ti.d with
  | .struct _ => true
  | _ => false
 | none => false
theorem zzb {T : zae} {t : TypeId} (h : znb T t = true) : isStruct T t := by
 unfold znb at h; unfold isStruct; split at h
 ·rename_i ti ht; simp only [ht]; split at h
  ·rename_i hd; simp only [hd]
  ·cases h
 ·cases h
def ceqF (S : TypeId → AV → AV → Option Bool) (T : zae) : List (Nat × TypeId) → List AV → List AV → Option Bool
 | [],_,_ => some true
 | p :: r,xs,ys => match T p.2 with
  | none => none
  | some te => match csub te xs p.1,csub te ys p.1 with
   | some a,some b => match S p.2 a b with
    | some u => match ceqF S T r xs ys with
     | some v => some (u && v)
     | none => none
    | none => none
   | _,_ => none
def ceqV (T : zae) : Nat → TypeId → AV → AV → Option Bool
 | 0,_,_,_ => none
 | n + 1,t,x,y => match T t with
  | none => none
  | some i => match i.d with
   | .int _ => match x,y with
    | .w (.int k1 a),.w (.int k2 b) => if k1 = k2 then some (decide (a = b)) else none
    | _,_ => none
   | .bool => match x,y with
    | .w (.bool a),.w (.bool b) => some (a == b)
    | _,_ => none
   | .str => match x,y with
    | .str a,.str b => some (decide (a = b))
    | _,_ => none
   | .struct fs => match x,y with
    | .agg xs,.agg ys => ceqF (ceqV T n) T fs xs ys
    | _,_ => none
   | _ => none
theorem ynj {T : zae} {S : TypeId → AV → AV → Prop × Bool} {S' : TypeId → AV → AV → Option Bool} (hS : ∀ t x y b,S' t x y = some b → (S t x y).1 ∧ (S t x y).2 = b) :
  ∀ {fs : List (Nat × TypeId)} {xs ys : List AV} {b : Bool},ceqF S' T fs xs ys = some b → (eqF S T fs xs ys).1 ∧ (eqF S T fs xs ys).2 = b
 | [],xs,ys,b,h => by injection h with h; exact ⟨trivial,h⟩
 | p :: r,xs,ys,b,h => by
  unfold ceqF at h
  unfold eqF
  split at h
  ·cases h
  ·rename_i te ht
   simp only [ht]
   split at h
   ·rename_i a c ha hc
    split at h
    ·rename_i u hu
     split at h
     ·rename_i v hv
      injection h with h
      obtain ⟨a1,a2,_⟩ := zod (H := []) ha
      obtain ⟨b1,b2,_⟩ := zod (H := []) hc
      obtain ⟨c1,c2⟩ := hS _ _ _ _ hu
      obtain ⟨d1,d2⟩ := ynj hS hv
      rw [a2,b2]
      exact ⟨⟨a1,b1,c1,d1⟩,by rw [c2,d2,h]⟩
     ·cases h
    ·cases h
   ·cases h
theorem zro {T : zae} : ∀ (n : Nat) (t : TypeId) (x y : AV) (b : Bool),ceqV T n t x y = some b → (eqV T n t x y).1 ∧ (eqV T n t x y).2 = b
 | 0,t,x,y,b,h => by cases h
 | n + 1,t,x,y,b,h => by
  unfold ceqV at h
  unfold eqV
  split at h
  ·cases h
  ·rename_i i hi
   simp only [hi]
   split at h
   ·rename_i hd
    simp only [hd]
    split at h
    ·split at h
     ·injection h with h; exact ⟨by assumption,h⟩
     ·cases h
    ·cases h
   ·rename_i hd
    simp only [hd]
    split at h
    ·injection h with h; exact ⟨trivial,h⟩
    ·cases h
   ·rename_i hd
    simp only [hd]
    split at h
    ·injection h with h; exact ⟨trivial,h⟩
    ·cases h
   ·rename_i hd
    simp only [hd]
    split at h
    ·exact ynj (zro n) h
    ·cases h
   ·cases h
def cBin (T : zae) (op : BinOp) (t : TypeId) (x y : AV) (lk : Nat → Option Blk) : Option (AV × Us) :=
 match x,y with
 | .w (.int k a),.w (.int k' b) => (cInt op k a k' b).map fun v => (.w v,[])
 | .str a,.str b => (cStr op a b).map fun v => (v,[])
 | .w (.bool a),.w (.bool b) => bif yce T t then cEq op (a == b) else none
 | .rf id s _ _,.w (.pointer none) => match lk id with
  | some _ => bif decide (s ≠ 0) && yet T t then cEq op false else none
  | none => none
 | .w (.pointer none),.w (.pointer none) => bif yet T t then cEq op true else none
 | .agg xs,.agg ys => match ceqV T 4 t (.agg xs) (.agg ys) with
  | some r => bif znb T t then cEq op r else none
  | none => none
 | _,_ => none
theorem Told.and {q : Prop} {o : Out} {r : Option (AV × Us)} (h : Told o lk r) (hq : q) : Told (o.and q) lk r := fun x us e => let ⟨a,b,c⟩ := h x us e; ⟨⟨hq,a⟩,b,c⟩
theorem Told.cond {q : Prop} {b : Bool} {o : Out} {r : Option (AV × Us)} (h : Told o lk r) (hq : b = true → q) : Told (o.and q) lk (bif b then r else none) := by
 cases b with
 | true => exact h.and (hq rfl)
 | false => intro x us e; cases e
include hl in
theorem cBin_ok {T : zae} {op : BinOp} {t : TypeId} {x y : AV} : Told (aBin T op t x y H) lk (cBin T op t x y lk) := by
 intro z us h
 unfold cBin at h
 split at h
 ·obtain ⟨v,hv,he⟩ := Option.map_eq_some_iff.1 h
  injection he with h1 h2; subst h1 h2
  obtain ⟨a,b⟩ := cInt_ok hv
  exact ⟨a,by simp only [aBin,b],hl⟩
 ·obtain ⟨v,hv,he⟩ := Option.map_eq_some_iff.1 h
  injection he with h1 h2; subst h1 h2
  obtain ⟨a,b⟩ := cStr_ok hv
  exact ⟨a,b,hl⟩
 ·exact ((yfi hl).cond (q := isBool T t) yhy) z us h
 ·rename_i id s _ _
  split at h
  ·rename_i bk hb
   have hb' : look H id = some bk := (hl id).trans hb
   have := ((yfi hl).cond (q := s ≠ 0 ∧ isPtr T t) fun h => by
    simp only [Bool.and_eq_true,decide_eq_true_eq] at h
    exact ⟨h.1,zzc h.2⟩) z us h
   simp only [aBin,hb']
   exact this
  ·cases h
 ·exact ((yfi hl).cond (q := isPtr T t) zzc) z us h
 ·rename_i xs ys
  split at h
  ·rename_i r hr
   obtain ⟨a,b⟩ := zro _ _ _ _ _ hr
   simp only [aBin]
   rw [b]
   cases hc : znb T t with
   | true =>
    rw [hc] at h
    exact (yfi hl).and ⟨zzb hc,a⟩ z us h
   | false => rw [hc] at h; cases h
  ·cases h
 ·cases h
def cUn (op : UnOp) (x : AV) : Option (AV × Us) :=
 match op,x with
 | .not,.w (.bool b) => some (.w (.bool (!b)),[])
 | .neg,.w (.int k n) => some (.w (.int k (k.wrap (0 - n))),[])
 | .xor,.w (.int k n) => some (.w (.int k (bits .xor k (bif k.signed then -1 else k.max) n)),[])
 | _,_ => none
include hl in
theorem cUn_ok {op : UnOp} {x : AV} : Told (aUn op x H) lk (cUn op x) := by
 intro y us h
 unfold cUn at h
 unfold aUn
 split at h <;> first | cases h | (injection h with h; injection h with h1 h2; subst h1 h2; exact ⟨trivial,rfl,hl⟩)
 all_goals exact ⟨trivial,rfl,hl⟩
def zyv (lk : Nat → Option Blk) (x : AV) : Option (List UInt8) :=
 match x with
 | .sb bs _ => some bs
 | .sg _ [] _ => some []
 | .ms id s off len => match lk id with
  | some (.b bs) => if s = 1 ∧ off + len ≤ bs.length then some ((bs.drop off).take len) else none
  | _ => none
 | _ => none
include hl in
theorem zrg {x : AV} {l : List UInt8} (h : zyv lk x = some l) : (zfy H x).1 ∧ (zfy H x).2 = l := by
 unfold zyv at h
 unfold zfy
 split at h
 ·injection h with h; exact ⟨trivial,h⟩
 ·injection h with h; exact ⟨trivial,h⟩
 ·rename_i id s off len
  simp only [hl id]
  split at h
  ·rename_i bs hb
   simp only [hb]
   split at h
   ·injection h with h; exact ⟨by assumption,h⟩
   ·cases h
  ·cases h
 ·cases h
def ymu (lk : Nat → Option Blk) (x : AV) : Option (List Int) :=
 match x with
 | .si ns _ => some ns
 | .sg _ [] _ => some []
 | .ms id s off len => match lk id with
  | some (.i ns) => if s = 1 ∧ off + len ≤ ns.length then some ((ns.drop off).take len) else none
  | _ => none
 | _ => none
include hl in
theorem ymt {x : AV} {l : List Int} (h : ymu lk x = some l) : (ziu H x).1 ∧ (ziu H x).2 = l := by
 unfold ymu at h
 unfold ziu
 split at h
 ·injection h with h; exact ⟨trivial,h⟩
 ·injection h with h; exact ⟨trivial,h⟩
 ·rename_i id s off len
  simp only [hl id]
  split at h
  ·rename_i bs hb
   simp only [hb]
   split at h
   ·injection h with h; exact ⟨by assumption,h⟩
   ·cases h
  ·cases h
 ·cases h
def ymw (s : Nat) (lk : Nat → Option Blk) (x : AV) : Option (List AV) :=
 match x with
 | .sg s' xs _ => bif xs.isEmpty || decide (s' = s) then some xs else none
 | .ms id s' off len => match lk id with
  | some (.g s'' xs) => if s' = s ∧ s'' = s ∧ off + len ≤ xs.length then some ((xs.drop off).take len) else none
  | _ => none
 | _ => none
include hl in
theorem ymv {s : Nat} {x : AV} {l : List AV} (h : ymw s lk x = some l) : (zfx s H x).1 ∧ (zfx s H x).2 = l := by
 unfold ymw at h
 unfold zfx
 split at h
 ·rename_i s' xs f
  cases hc : xs.isEmpty || decide (s' = s) with
  | true =>
   rw [hc] at h
   injection h with h
   refine ⟨?_,h⟩
   simp only [Bool.or_eq_true,List.isEmpty_iff,decide_eq_true_eq] at hc
   exact hc
  | false => rw [hc] at h; cases h
 ·rename_i id s off len
  simp only [hl id]
  split at h
  ·rename_i bs hb
   simp only [hb]
   split at h
   ·injection h with h; exact ⟨by assumption,h⟩
   ·cases h
  ·cases h
 ·cases h
def zgx (T : zae) (t : TypeId) : Bool :=
 match T t with
 | some ti => match ti.d with
  | .slice e => match T e with
   | some te => match te.d with
    | .int .u8 => true
    | _ => false
   | none => false
  | _ => false
 | none => false
theorem zlr {T : zae} {t : TypeId} (h : zgx T t = true) : isBytes T t := by
 unfold zgx at h; unfold isBytes; split at h
 ·rename_i ti ht; simp only [ht]; split at h
  ·rename_i e hd; simp only [hd]; split at h
   ·rename_i te hte; simp only [hte]; split at h
    ·rename_i hk; simp only [hk]
    ·cases h
   ·cases h
  ·cases h
 ·cases h
def yrx (T : zae) (src dst : TypeId) (nm : Nat) (x : AV) (lk : Nat → Option Blk) : Option (AV × Us) :=
 match T src,T dst with
 | some _,some b => match b.d with
  | .int k => match x with
   | .w (.int _ n) => some (.w (.int k (k.wrap n)),[])
   | _ => none
  | .str => match x with
   | .str bs => some (.str bs,[])
   | _ => bif zgx T src then (zyv lk x).map fun l => (.str l,[]) else none
  | .slice _ => match x with
   | .str bs => bif zgx T dst && decide (bs.length ≤ 9223372036854775807) then some (.ms nm 1 0 bs.length,[(nm,some (.b bs))]) else none
   | .ms id s off len => match lk id with
    | some blk => bif zgx T dst && (decide (src = dst) && (decide (0 < blk.len) && decide (blk.size = 1))) then some (.ms id s off len,[(id,some blk)]) else none
    | none => none
   | _ => none
  | _ => none
 | _,_ => none
include hl in
theorem yrw {T : zae} {src dst : TypeId} {nm : Nat} {x : AV} : Told (zlx T src dst nm x H) lk (yrx T src dst nm x lk) := by
 intro y us h
 unfold yrx at h
 unfold zlx
 split at h
 ·rename_i a b ha hb
  simp only [ha,hb]
  split at h
  ·rename_i k hk
   simp only [hk]
   split at h
   ·injection h with h; injection h with h1 h2; subst h1 h2; exact ⟨trivial,rfl,hl⟩
   ·cases h
  ·rename_i hk
   simp only [hk]
   split at h
   ·injection h with h; injection h with h1 h2; subst h1 h2; exact ⟨trivial,rfl,hl⟩
   ·rename_i hx
    split
    ·rename_i bs; exact (hx bs rfl).elim
    ·cases hc : zgx T src with
     | true =>
      rw [hc] at h
      obtain ⟨v,hv,he⟩ := Option.map_eq_some_iff.1 h
      injection he with h1 h2; subst h1 h2
      obtain ⟨p,q⟩ := zrg hl hv
      exact ⟨⟨zlr hc,p⟩,by simp only [q],hl⟩
     | false => rw [hc] at h; cases h
  ·rename_i e hk
   simp only [hk]
   split at h
   ·rename_i bs
    cases hc : (zgx T dst && decide (bs.length ≤ 9223372036854775807)) with
    | true =>
     rw [hc] at h
     injection h with h; injection h with h1 h2; subst h1 h2
     simp only [Bool.and_eq_true,decide_eq_true_eq] at hc
     exact ⟨⟨zlr hc.1,hc.2⟩,rfl,fun id => zas hl id⟩
    | false => rw [hc] at h; cases h
   ·rename_i id s off len
    simp only [hl id]
    split at h
    ·rename_i blk hbk
     simp only [hbk]
     cases hc : (zgx T dst && (decide (src = dst) && (decide (0 < blk.len) && decide (blk.size = 1)))) with
     | true =>
      rw [hc] at h
      injection h with h; injection h with h1 h2; subst h1 h2
      simp only [Bool.and_eq_true,decide_eq_true_eq] at hc
      exact ⟨⟨zlr hc.1,hc.2⟩,rfl,fun id => zas hl id⟩
     | false => rw [hc] at h; cases h
    ·cases h
   ·cases h
  ·cases h
 ·cases h
end
end Ax
end Go.Proofs.Ytioldmhhefhelaa
namespace Go.Proofs.Ytioldmhhefhelaa
namespace Ax
section
variable {H : Heap} {lk : Nat → Option Blk} (hl : ∀ id,look H id = lk id)
def ydw : AV → AV → Bool
 | .w (.int k a),.w (.int k' b) => decide (k = k') && decide (a = b)
 | .w (.bool a),.w (.bool b) => a == b
 | .str a,.str b => decide (a = b)
 | _,_ => false
def zpg : List AV → List AV → Bool
 | [],[] => true
 | x :: xs,y :: ys => ydw x y && zpg xs ys
 | _,_ => false
def yqj : AV → AV → Bool
 | .agg xs,.agg ys => zpg xs ys
 | x,y => ydw x y
theorem zxv {x y : AV} (h : ydw x y = true) : x = y := by
 unfold ydw at h
 split at h
 ·simp only [Bool.and_eq_true,decide_eq_true_eq] at h
  obtain ⟨rfl,rfl⟩ := h; rfl
 ·simp only [beq_iff_eq] at h; subst h; rfl
 ·simp only [decide_eq_true_eq] at h; subst h; rfl
 ·cases h
theorem zqj : ∀ {xs ys : List AV},zpg xs ys = true → xs = ys
 | [],[],_ => rfl
 | x :: xs,y :: ys,h => by
  simp only [zpg,Bool.and_eq_true] at h
  rw [zxv h.1,zqj h.2]
 | [],_ :: _,h => by cases h
 | _ :: _,[],h => by cases h
theorem yqi {x y : AV} (h : yqj x y = true) : x = y := by
 unfold yqj at h
 split at h
 ·rw [zqj h]
 ·exact zxv h
def zuh (T : zae) (kt : TypeId) (k : AV) : List (AV × AV) → Nat → Option (Option (Nat × AV))
 | [],_ => some none
 | p :: r,i => match ceqV T 4 kt k p.1 with
  | some true => bif yqj p.1 k then some (some (i,p.2)) else none
  | some false => zuh T kt k r (i + 1)
  | none => none
theorem znd {T : zae} {kt : TypeId} {k : AV} : ∀ {es : List (AV × AV)} {i : Nat} {z : Option (Nat × AV)},zuh T kt k es i = some z → (zdj T kt k es i).1 ∧ (zdj T kt k es i).2 = z
 | [],i,z,h => by injection h with h; exact ⟨trivial,h⟩
 | p :: r,i,z,h => by
  unfold zuh at h
  unfold zdj
  split at h
  ·rename_i he
   obtain ⟨a,b⟩ := zro _ _ _ _ _ he
   cases hk : yqj p.1 k with
   | true =>
    rw [hk] at h
    injection h with h
    simp only [b]
    exact ⟨⟨a,fun _ => yqi hk,fun h => by cases h⟩,h⟩
   | false => rw [hk] at h; cases h
  ·rename_i he
   obtain ⟨a,b⟩ := zro _ _ _ _ _ he
   obtain ⟨c,d⟩ := znd h
   simp only [b]
   exact ⟨⟨a,(fun h => by cases h),fun _ => c⟩,d⟩
  ·cases h
def zwa (nm : Nat) (r : Option Operand) : Option (AV × Us) :=
 match r with
 | none => some (.rf nm 0 0 0,[(nm,some (.o (.mp [])))])
 | some _ => none
include hl in
theorem ycj {nm : Nat} {r : Option Operand} : Told (zkn nm r H) lk (zwa nm r) := by
 intro y us h
 cases r with
 | none => injection h with h; injection h with h1 h2; subst h1 h2; exact ⟨trivial,rfl,fun id => zas hl id⟩
 | some r => cases h
def zji (T : zae) (kt : TypeId) (k : AV) : Bool := k.pureK && (ceqV T 4 kt k k).isSome
theorem znz {T : zae} {kt : TypeId} {k : AV} (h : zji T kt k = true) : k.pureK = true ∧ (eqV T 4 kt k k).1 := by
 unfold zji at h
 simp only [Bool.and_eq_true,Option.isSome_iff_exists] at h
 obtain ⟨h1,b,h2⟩ := h
 exact ⟨h1,(zro _ _ _ _ _ h2).1⟩
def zwb (T : zae) (t : TypeId) (x k : AV) (ok : Bool) (lk : Nat → Option Blk) : Option (AV × Us) :=
 match zvn T t with
 | some (kt,et) => match T et with
  | some te => match x with
   | .rf id s _ _ => match lk id with
    | some (.o (.mp es)) => bif decide (s = 0) && zji T kt k then (zuh T kt k es 0).map fun r => (yma te ok r,[]) else none
    | _ => none
   | _ => none
  | none => none
 | none => none
include hl in
theorem yif {T : zae} {t : TypeId} {x k : AV} {ok : Bool} : Told (zhd T t x k ok H) lk (zwb T t x k ok lk) := by
 intro y us h
 unfold zwb at h
 unfold zhd
 split at h
 ·rename_i kt et hm
  simp only [hm]
  split at h
  ·rename_i te ht
   simp only [ht]
   split at h
   ·rename_i id s _ _
    simp only [hl id]
    split at h
    ·rename_i es hb
     simp only [hb]
     cases hc : (decide (s = 0) && zji T kt k) with
     | true =>
      rw [hc] at h
      obtain ⟨z,hz,he⟩ := Option.map_eq_some_iff.1 h
      injection he with h1 h2; subst h1 h2
      simp only [Bool.and_eq_true,decide_eq_true_eq] at hc
      obtain ⟨a,b⟩ := znd hz
      obtain ⟨c,d⟩ := znz hc.2
      exact ⟨⟨hc.1,c,d,a⟩,by simp only [b],hl⟩
     | false => rw [hc] at h; cases h
    ·cases h
   ·cases h
  ·cases h
 ·cases h
def zvz (T : zae) (t : TypeId) (x k v : AV) (lk : Nat → Option Blk) : Option (AV × Us) :=
 match zvn T t with
 | some (kt,_) => match x with
  | .rf id s _ _ => match lk id with
   | some (.o (.mp es)) => bif decide (s = 0) && (zji T kt k && v.pure) then (zuh T kt k es 0).map fun r => (.junk,[(id,some (.o (.mp (putM es k v r))))]) else none
   | _ => none
  | _ => none
 | none => none
include hl in
theorem yid {T : zae} {t : TypeId} {x k v : AV} : Told (zhc T t x k v H) lk (zvz T t x k v lk) := by
 intro y us h
 unfold zvz at h
 unfold zhc
 split at h
 ·rename_i kt et hm
  simp only [hm]
  split at h
  ·rename_i id s _ _
   simp only [hl id]
   split at h
   ·rename_i es hb
    simp only [hb]
    cases hc : (decide (s = 0) && (zji T kt k && v.pure)) with
    | true =>
     rw [hc] at h
     obtain ⟨z,hz,he⟩ := Option.map_eq_some_iff.1 h
     injection he with h1 h2; subst h1 h2
     simp only [Bool.and_eq_true,decide_eq_true_eq] at hc
     obtain ⟨a,b⟩ := znd hz
     obtain ⟨c,d⟩ := znz hc.2.1
     exact ⟨⟨hc.1,c,hc.2.2,d,a⟩,rfl,fun id => by rw [b]; exact zas hl id⟩
    | false => rw [hc] at h; cases h
   ·cases h
  ·cases h
 ·cases h
def zwe (T : zae) (t : TypeId) (x k : AV) (lk : Nat → Option Blk) : Option (AV × Us) :=
 match zvn T t with
 | some (kt,_) => match x with
  | .rf id s _ _ => match lk id with
   | some (.o (.mp es)) => bif decide (s = 0) && zji T kt k then (zuh T kt k es 0).map fun r => (.junk,[(id,some (.o (.mp (cutM es r))))]) else none
   | _ => none
  | _ => none
 | none => none
include hl in
theorem yig {T : zae} {t : TypeId} {x k : AV} : Told (zhe T t x k H) lk (zwe T t x k lk) := by
 intro y us h
 unfold zwe at h
 unfold zhe
 split at h
 ·rename_i kt et hm
  simp only [hm]
  split at h
  ·rename_i id s _ _
   simp only [hl id]
   split at h
   ·rename_i es hb
    simp only [hb]
    cases hc : (decide (s = 0) && zji T kt k) with
    | true =>
     rw [hc] at h
     obtain ⟨z,hz,he⟩ := Option.map_eq_some_iff.1 h
     injection he with h1 h2; subst h1 h2
     simp only [Bool.and_eq_true,decide_eq_true_eq] at hc
     obtain ⟨a,b⟩ := znd hz
     obtain ⟨c,d⟩ := znz hc.2
     exact ⟨⟨hc.1,c,d,a⟩,rfl,fun id => by rw [b]; exact zas hl id⟩
    | false => rw [hc] at h; cases h
   ·cases h
  ·cases h
 ·cases h
def yfj (x : AV) (lk : Nat → Option Blk) : Option (AV × Us) :=
 match x with
 | .rf id s i f => match lk id with
  | some (.o (.mi _ (some p))) => if (i = 0 ∧ f = 0) ∧ s ≠ 0 then some (.tup [p.1,p.2],[]) else none
  | _ => none
 | _ => none
include hl in
theorem yns {x : AV} : Told (zkw x H) lk (yfj x lk) := by
 intro y us h
 unfold yfj at h
 unfold zkw
 split at h
 ·rename_i id s i f
  simp only [hl id]
  split at h
  ·rename_i es p hb
   simp only [hb]
   split at h
   ·injection h with h; injection h with h1 h2; subst h1 h2; exact ⟨by assumption,rfl,hl⟩
   ·cases h
  ·cases h
 ·cases h
theorem zmo (hl : ∀ id,look H id = lk id) {nm k : Nat} {b : Blk} (id : Nat) : look (put (drop H k) nm b) id = upd [(nm,some b),(k,none)] lk id := by
 rw [zau,zgd]; simp only [upd]; split
 ·rfl
 ·split <;> simp [hl]
def yfe (T : zae) (nm : Nat) (t : TypeId) (x : AV) (lk : Nat → Option Blk) : Option (AV × Us) :=
 match T t with
 | some ti => match ti.d with
  | .str => match x with
   | .str bs => some (.rf nm 1 0 0,[(nm,some (.o (.it bs 0)))])
   | _ => none
  | .map _ _ => match x with
   | .rf id s _ _ => match lk id with
    | some (.o (.mp es)) => if s = 0 then some (.rf nm 1 0 0,[(nm,some (.o (.mi es none))),(id,none)]) else none
    | _ => none
   | _ => none
  | _ => none
 | none => none
include hl in
theorem yno {T : zae} {nm : Nat} {t : TypeId} {x : AV} : Told (zis T nm t x H) lk (yfe T nm t x lk) := by
 intro y us h
 unfold yfe at h
 unfold zis
 split at h
 ·rename_i ti ht
  simp only [ht]
  split at h
  ·rename_i hd
   simp only [hd]
   split at h
   ·injection h with h; injection h with h1 h2; subst h1 h2; exact ⟨trivial,rfl,fun id => zas hl id⟩
   ·cases h
  ·rename_i hd
   simp only [hd]
   split at h
   ·rename_i id s _ _
    simp only [hl id]
    split at h
    ·rename_i es hb
     simp only [hb]
     split at h
     ·injection h with h; injection h with h1 h2; subst h1 h2; exact ⟨by assumption,rfl,fun id => zmo hl id⟩
     ·cases h
    ·cases h
   ·cases h
  ·cases h
 ·cases h
def yrr (x : AV) (isStr : Bool) (lk : Nat → Option Blk) : Option (AV × Us) :=
 match isStr,x with
 | true,.rf id s i f => match lk id with
  | some (.o (.it bs pos)) => if (i = 0 ∧ f = 0) ∧ s ≠ 0 then (bif decide (pos < bs.length) then some (.tup [.w (.bool true),.w (.int .i64 pos),.w (.int .i32 (decR bs pos))],[(id,some (.o (.it bs (pos + decW bs pos))))]) else some (.tup [.w (.bool false)],[])) else none
  | _ => none
 | false,.rf id s i f => match lk id with
  | some (.o (.mi [] _)) => if (i = 0 ∧ f = 0) ∧ s ≠ 0 then some (.tup [.w (.bool false)],[]) else none
  | some (.o (.mi [p] _)) => if (i = 0 ∧ f = 0) ∧ s ≠ 0 then some (.tup [.w (.bool true),p.1,p.2],[(id,some (.o (.mi [] (some p))))]) else none
  | _ => none
 | _,_ => none
include hl in
theorem yrq {x : AV} {b : Bool} : Told (zsv x b H) lk (yrr x b lk) := by
 intro y us h
 unfold yrr at h
 unfold zsv
 split at h
 ·rename_i id s i f
  simp only [hl id]
  split at h
  ·rename_i bs pos hb
   simp only [hb]
   split at h
   ·rename_i hc
    cases hp : decide (pos < bs.length) with
    | true =>
     simp only [hp,cond_true] at h ⊢
     injection h with h; injection h with h1 h2; subst h1 h2
     exact ⟨hc,rfl,fun id => zas hl id⟩
    | false =>
     simp only [hp,cond_false] at h ⊢
     injection h with h; injection h with h1 h2; subst h1 h2
     exact ⟨hc,rfl,hl⟩
   ·cases h
  ·cases h
 ·rename_i id s i f
  simp only [hl id]
  split at h
  ·rename_i hb
   simp only [hb]
   split at h
   ·injection h with h; injection h with h1 h2; subst h1 h2
    exact ⟨by assumption,rfl,hl⟩
   ·cases h
  ·rename_i hb
   simp only [hb]
   split at h
   ·injection h with h; injection h with h1 h2; subst h1 h2
    exact ⟨by assumption,rfl,fun id => zas hl id⟩
   ·cases h
  ·cases h
 ·cases h
def yrt (T : zae) (nm : Nat) (t : TypeId) (l c : AV) : Option (AV × Us) :=
 match T t with
 | some ti => match ti.d with
  | .slice e => match T e with
   | some te => match l,c with
    | .w (.int _ n),.w (.int _ m) => if 0 < te.size ∧ 0 < te.bytes ∧ 0 ≤ n ∧ n ≤ m ∧ m * te.bytes ≤ 1099511627776 then (match te.d with
      | .int .u8 => bif isZ .u8 te.zero then some (.ms nm te.size 0 n.toNat,[(nm,some (.b (List.replicate n.toNat 0)))]) else none
      | .int .i64 => bif isZ .i64 te.zero then some (.ms nm te.size 0 n.toNat,[(nm,some (.i (List.replicate n.toNat 0)))]) else none
      | _ => some (.ms nm te.size 0 n.toNat,[(nm,some (.g te.size (List.replicate n.toNat (asv te te.zero))))])) else none
    | _,_ => none
   | none => none
  | _ => none
 | none => none
include hl in
theorem yrs {T : zae} {nm : Nat} {t : TypeId} {l c : AV} : Told (aMake T nm t l c H) lk (yrt T nm t l c) := by
 intro y us h
 unfold yrt at h
 unfold aMake
 split at h
 ·rename_i ti ht
  simp only [ht]
  split at h
  ·rename_i e hd
   simp only [hd]
   split at h
   ·rename_i te hte
    simp only [hte]
    split at h
    ·split at h
     ·rename_i hc
      split at h
      ·rename_i hk
       simp only [hk]
       cases hz : isZ .u8 te.zero with
       | true =>
        rw [hz] at h
        injection h with h; injection h with h1 h2; subst h1 h2
        exact ⟨⟨hc,zxx hz⟩,rfl,fun id => zas hl id⟩
       | false => rw [hz] at h; cases h
      ·rename_i hk
       simp only [hk]
       cases hz : isZ .i64 te.zero with
       | true =>
        rw [hz] at h
        injection h with h; injection h with h1 h2; subst h1 h2
        exact ⟨⟨hc,zxx hz⟩,rfl,fun id => zas hl id⟩
       | false => rw [hz] at h; cases h
      ·rename_i hk1 hk2
       injection h with h; injection h with h1 h2; subst h1 h2
       dsimp only
       split
       ·rename_i he; exact (hk1 he).elim
       ·rename_i he; exact (hk2 he).elim
       ·exact ⟨⟨hc,trivial⟩,rfl,fun id => zas hl id⟩
     ·cases h
    ·cases h
   ·cases h
  ·cases h
 ·cases h
def bndsB (lo hi mx : Option AV) (n : Nat) : Bool :=
 okB lo && (okB hi && (okB mx && (decide ((bnd lo 0).2 ≤ (bnd hi n).2) && (decide ((bnd hi n).2 ≤ (bnd mx n).2) && decide ((bnd mx n).2 ≤ n)))))
where okB : Option AV → Bool
 | none => true
 | some (.w (.int _ n)) => decide (0 ≤ n)
 | _ => false
theorem yko {o : Option AV} {d : Nat} (h : bndsB.okB o = true) : (bnd o d).1 := by
 unfold bndsB.okB at h
 unfold bnd
 split at h
 ·trivial
 ·simpa using h
 ·cases h
theorem zwh {lo hi mx : Option AV} {n : Nat} (h : bndsB lo hi mx n = true) : bnds lo hi mx n := by
 unfold bndsB at h
 simp only [Bool.and_eq_true,decide_eq_true_eq] at h
 obtain ⟨h1,h2,h3,h4,h5,h6⟩ := h
 exact ⟨yko h1,yko h2,yko h3,h4,h5,h6⟩
def yfd (T : zae) (t : TypeId) (x : AV) (lo hi mx : Option AV) (lk : Nat → Option Blk) : Option (AV × Us) :=
 match T t with
 | none => none
 | some ti => match ti.d with
  | .str => match x with
   | .str bs => bif mx.isNone && bndsB lo hi none bs.length then some (.str (cut bs lo hi),[]) else none
   | _ => none
  | .slice e => match T e with
   | none => none
   | some te => match x with
    | .sb bs full => bif decide (te.size = 1) && bndsB lo hi mx bs.length then some (.sb (cut bs lo hi) (zsp full hi mx (bnd hi bs.length).2 (bnd mx bs.length).2),[]) else none
    | .si ns full => bif decide (te.size = 1) && bndsB lo hi mx ns.length then some (.si (cut ns lo hi) (zsp full hi mx (bnd hi ns.length).2 (bnd mx ns.length).2),[]) else none
    | .sg s xs full => bif decide (te.size = s) && bndsB lo hi mx xs.length then some (.sg s (cut xs lo hi) (zsp full hi mx (bnd hi xs.length).2 (bnd mx xs.length).2),[]) else none
    | .ms id s off len => match lk id with
     | some _ => bif decide (te.size = s) && bndsB lo hi mx len then some (.ms id s (off + (bnd lo 0).2) ((bnd hi len).2 - (bnd lo 0).2),[]) else none
     | none => none
    | _ => none
  | .arr n e => match T e with
   | none => none
   | some te => match x with
    | .rf id s i f => match lk id with
     | some blk => bif decide (te.size = 1) && (decide (s = 1) && decide (f = 0) && (decide (blk.size = 1) && ((decide (0 < n) && (decide (i + n ≤ blk.len) && decide (n ≤ 16777216))) && bndsB lo hi mx n))) then some (.ms id 1 (i + (bnd lo 0).2) ((bnd hi n).2 - (bnd lo 0).2),[]) else none
     | none => none
    | _ => none
  | _ => none
include hl in
theorem zka {b : Bool} {p : Prop} {x : AV} (hb : b = true → p) : Told ⟨p,x,H⟩ lk (bif b then some (x,[]) else none) := by
 cases b with
 | true => intro y us h; injection h with h; injection h with h1 h2; subst h1 h2; exact ⟨hb rfl,rfl,hl⟩
 | false => intro y us h; cases h
include hl in
theorem ynn {T : zae} {t : TypeId} {x : AV} {lo hi mx : Option AV} : Told (zkv T t x lo hi mx H) lk (yfd T t x lo hi mx lk) := by
 intro y us h
 unfold yfd at h
 unfold zkv
 split at h
 ·cases h
 ·rename_i ti ht
  simp only [ht]
  split at h
  ·rename_i hd
   simp only [hd]
   split at h
   ·refine zka hl (fun hb => ?_) _ _ h
    simp only [Bool.and_eq_true] at hb
    exact ⟨hb.1,zwh hb.2⟩
   ·cases h
  ·rename_i e hd
   simp only [hd]
   split at h
   ·cases h
   ·rename_i te hte
    simp only [hte]
    have key : ∀ {s n : Nat},(decide (te.size = s) && bndsB lo hi mx n) = true → te.size = s ∧ bnds lo hi mx n := by
     intro s n hb
     simp only [Bool.and_eq_true,decide_eq_true_eq] at hb
     exact ⟨hb.1,zwh hb.2⟩
    split at h
    ·exact zka hl key _ _ h
    ·exact zka hl key _ _ h
    ·exact zka hl key _ _ h
    ·rename_i id s off len
     simp only [hl id]
     split at h
     ·rename_i b hb
      simp only [hb]
      exact zka hl key _ _ h
     ·cases h
    ·cases h
  ·rename_i n e hd
   simp only [hd]
   split at h
   ·cases h
   ·rename_i te hte
    simp only [hte]
    split at h
    ·rename_i id s i f
     simp only [hl id]
     split at h
     ·rename_i b hb
      simp only [hb]
      refine zka hl (fun hb => ?_) _ _ h
      simp only [Bool.and_eq_true,decide_eq_true_eq] at hb
      obtain ⟨h1,⟨h2,h3⟩,h4,⟨h5,h6,h7⟩,h8⟩ := hb
      exact ⟨h1,⟨h2,h3⟩,h4,⟨h5,h6,h7⟩,zwh h8⟩
     ·cases h
    ·cases h
  ·cases h
def zkm (T : zae) (s : TypeId) (x : AV) (f : Nat) (lk : Nat → Option Blk) : Option (AV × Us) :=
 match T s with
 | none => none
 | some ti => match ti.d with
  | .struct fs => match fs[f]? with
   | some (off,ty) => match T ty with
    | none => none
    | some te => match x with
     | .rf id z i g => match lk id with
      | some _ => if z ≠ 0 ∧ 0 < te.size then some (.rf id z i (g + off),[]) else none
      | none => none
     | .cp ls => if 0 < te.size ∧ off < ls.length then some (.cp (ls.drop off),[]) else none
     | _ => none
   | none => none
  | _ => none
include hl in
theorem zwd {T : zae} {s : TypeId} {x : AV} {f : Nat} : Told (aFieldAddr T s x f H) lk (zkm T s x f lk) := by
 intro y us h
 unfold zkm at h
 unfold aFieldAddr
 split at h
 ·cases h
 ·rename_i ti ht
  simp only [ht]
  split at h
  ·rename_i fs hd
   simp only [hd]
   split at h
   ·rename_i off ty hf
    simp only [hf]
    split at h
    ·cases h
    ·rename_i te hte
     simp only [hte]
     split at h
     ·rename_i id z i g
      simp only [hl id]
      split at h
      ·rename_i b hb
       simp only [hb]
       split at h
       ·injection h with h; injection h with h1 h2; subst h1 h2; exact ⟨by assumption,rfl,hl⟩
       ·cases h
      ·cases h
     ·split at h
      ·injection h with h; injection h with h1 h2; subst h1 h2; exact ⟨by assumption,rfl,hl⟩
      ·cases h
     ·cases h
   ·cases h
  ·cases h
def yfh (T : zae) (t : TypeId) (x : AV) (f : Nat) : Option (AV × Us) :=
 match T t with
 | none => none
 | some ti => match ti.d with
  | .struct fs => match x with
   | .agg ls => match fs[f]? with
    | some (off,ty) => match T ty with
     | some te => (csub te ls off).map fun y => (y,[])
     | none => none
    | none => none
   | _ => none
  | _ => none
include hl in
theorem ynr {T : zae} {t : TypeId} {x : AV} {f : Nat} : Told (aField T t x f H) lk (yfh T t x f) := by
 intro y us h
 unfold yfh at h
 unfold aField
 split at h
 ·cases h
 ·rename_i ti ht
  simp only [ht]
  split at h
  ·rename_i fs hd
   simp only [hd]
   split at h
   ·split at h
    ·rename_i off ty hf
     simp only [hf]
     split at h
     ·rename_i te hte
      simp only [hte]
      obtain ⟨z,hz,he⟩ := Option.map_eq_some_iff.1 h
      injection he with h1 h2; subst h1 h2
      obtain ⟨a,b,c⟩ := zod (H := H) hz
      exact ⟨a,b,fun id => by rw [c]; exact hl id⟩
     ·cases h
    ·cases h
   ·cases h
  ·cases h
def zkl (T : zae) (t : TypeId) (x i : AV) (lk : Nat → Option Blk) : Option (AV × Us) :=
 match T t,i with
 | some ti,.w (.int _ n) => match ti.d with
  | .slice e => match T e with
   | none => none
   | some te => match x with
    | .sb bs _ => if 0 ≤ n ∧ te.size = 1 ∧ n.toNat < bs.length then some (.cp [.w (byte (bs.getD n.toNat 0))],[]) else none
    | .si ns _ => if 0 ≤ n ∧ te.size = 1 ∧ n.toNat < ns.length then some (.cp [.w (word (ns.getD n.toNat 0))],[]) else none
    | .sg s xs _ => if 0 ≤ n ∧ te.size = s ∧ 0 < s ∧ n.toNat < xs.length then some (.cp (slot xs n.toNat).leaves,[]) else none
    | .ms id s off len => match lk id with
     | some _ => if s ≠ 0 ∧ 0 ≤ n ∧ te.size = s ∧ n.toNat < len then some (.rf id s (off + n.toNat) 0,[]) else none
     | none => none
    | _ => none
  | .arr m e => match T e with
   | none => none
   | some te => match x with
    | .rf id s j f => match lk id with
     | some _ => if s ≠ 0 ∧ 0 ≤ n ∧ n < m then some (.rf id s j (f + n.toNat * te.size),[]) else none
     | none => none
    | .cp ls => if 0 ≤ n ∧ n < m ∧ n.toNat * te.size < ls.length then some (.cp (ls.drop (n.toNat * te.size)),[]) else none
    | _ => none
  | _ => none
 | _,_ => none
include hl in
theorem zia {p : Prop} [Decidable p] {x : AV} {y : AV} {us : Us} (h : (if p then some (x,([] : Us)) else none) = some (y,us)) : p ∧ x = y ∧ ∀ id,look H id = upd us lk id := by
 split at h
 ·injection h with h; injection h with h1 h2; subst h1 h2; exact ⟨by assumption,rfl,hl⟩
 ·cases h
include hl in
theorem zwc {T : zae} {t : TypeId} {x i : AV} : Told (zcp T t x i H) lk (zkl T t x i lk) := by
 intro y us h
 unfold zkl at h
 unfold zcp
 split at h
 ·rename_i ti k n ht
  simp only [ht]
  split at h
  ·rename_i e hd
   simp only [hd]
   split at h
   ·cases h
   ·rename_i te hte
    simp only [hte]
    split at h
    ·exact zia hl h
    ·exact zia hl h
    ·exact zia hl h
    ·rename_i id s off len
     simp only [hl id]
     split at h
     ·rename_i b hb
      simp only [hb]
      exact zia hl h
     ·cases h
    ·cases h
  ·rename_i m e hd
   simp only [hd]
   split at h
   ·cases h
   ·rename_i te hte
    simp only [hte]
    split at h
    ·rename_i id s j f
     simp only [hl id]
     split at h
     ·rename_i b hb
      simp only [hb]
      exact zia hl h
     ·cases h
    ·exact zia hl h
    ·cases h
  ·cases h
 ·cases h
def yfg (T : zae) (t : TypeId) (x i : AV) : Option (AV × Us) :=
 match T t,i with
 | some ti,.w (.int _ n) => match ti.d with
  | .str => match x with
   | .str bs => if 0 ≤ n ∧ n.toNat < bs.length then some (.w (byte (bs.getD n.toNat 0)),[]) else none
   | _ => none
  | .arr m e => match x with
   | .agg ls => match T e with
    | some te => if 0 ≤ n ∧ n < m then (csub te ls (n.toNat * te.size)).map fun y => (y,[]) else none
    | none => none
   | _ => none
  | _ => none
 | _,_ => none
include hl in
theorem ynq {T : zae} {t : TypeId} {x i : AV} : Told (zjv T t x i H) lk (yfg T t x i) := by
 intro y us h
 unfold yfg at h
 unfold zjv
 split at h
 ·rename_i ti k n ht
  simp only [ht]
  split at h
  ·rename_i hd
   simp only [hd]
   split at h
   ·exact zia hl h
   ·cases h
  ·rename_i m e hd
   simp only [hd]
   split at h
   ·split at h
    ·rename_i te hte
     simp only [hte]
     split at h
     ·rename_i hc
      obtain ⟨z,hz,he⟩ := Option.map_eq_some_iff.1 h
      injection he with h1 h2; subst h1 h2
      obtain ⟨a,b,c⟩ := zod (H := H) hz
      exact ⟨⟨hc,a⟩,b,fun id => by simp only [Out.and]; rw [c]; exact hl id⟩
     ·cases h
    ·cases h
   ·cases h
  ·cases h
 ·cases h
def zpj (x : AV) (i : Nat) : Option (AV × Us) :=
 match x with
 | .tup xs => if i < xs.length then some (slot xs i,[]) else none
 | _ => none
include hl in
theorem yck {x : AV} {i : Nat} : Told (zdy x i H) lk (zpj x i) := by
 intro y us h
 unfold zpj at h
 unfold zdy
 split at h
 ·exact zia hl h
 ·cases h
def cLen (T : zae) (t : TypeId) (x : AV) (lk : Nat → Option Blk) : Option (AV × Us) :=
 match T t with
 | none => none
 | some ti => match ti.d with
  | .str => match x with
   | .str bs => some (.w (word bs.length),[])
   | _ => none
  | .slice _ => match x with
   | .sb bs _ => some (.w (word bs.length),[])
   | .si ns _ => some (.w (word ns.length),[])
   | .sg _ xs _ => some (.w (word xs.length),[])
   | .ms id _ _ len => match lk id with
    | some _ => some (.w (word len),[])
    | none => none
   | _ => none
  | .arr n _ => some (.w (word n),[])
  | .map _ _ => match x with
   | .rf id s _ _ => match lk id with
    | some (.o (.mp es)) => if s = 0 then some (.w (word es.length),[]) else none
    | _ => none
   | _ => none
  | _ => none
theorem zcs (hl : ∀ id,look H id = lk id) {x y : AV} {us : Us} (h : some (x,([] : Us)) = some (y,us)) : True ∧ x = y ∧ ∀ id,look H id = upd us lk id := by
 injection h with h; injection h with h1 h2; subst h1 h2; exact ⟨trivial,rfl,hl⟩
include hl in
theorem cLen_ok {T : zae} {t : TypeId} {x : AV} : Told (aLen T t x H) lk (cLen T t x lk) := by
 intro y us h
 unfold cLen at h
 unfold aLen
 split at h
 ·cases h
 ·rename_i ti ht
  simp only [ht]
  split at h
  ·rename_i hd
   simp only [hd]
   split at h
   ·exact zcs hl h
   ·cases h
  ·rename_i hd
   simp only [hd]
   split at h
   ·exact zcs hl h
   ·exact zcs hl h
   ·exact zcs hl h
   ·rename_i id _ _ len
    simp only [hl id]
    split at h
    ·rename_i b hb
     simp only [hb]
     exact zcs hl h
    ·cases h
   ·cases h
  ·rename_i hd
   simp only [hd]
   exact zcs hl h
  ·rename_i hd
   simp only [hd]
   split at h
   ·rename_i id s _ _
    simp only [hl id]
    split at h
    ·rename_i es hb
     simp only [hb]
     exact zia hl h
    ·cases h
   ·cases h
  ·cases h
def cMin (l : List AV) : Option (AV × Us) :=
 match l with
 | [.w (.int k x),.w (.int _ y)] => some (.w (.int k (if y < x then y else x)),[])
 | _ => none
def cMax (l : List AV) : Option (AV × Us) :=
 match l with
 | [.w (.int k x),.w (.int _ y)] => some (.w (.int k (if y > x then y else x)),[])
 | _ => none
include hl in
theorem cMin_ok {l : List AV} : Told (aMin l H) lk (cMin l) := by
 intro y us h
 unfold cMin at h
 unfold aMin
 split at h
 ·exact zcs hl h
 ·cases h
include hl in
theorem cMax_ok {l : List AV} : Told (aMax l H) lk (cMax l) := by
 intro y us h
 unfold cMax at h
 unfold aMax
 split at h
 ·exact zcs hl h
 ·cases h
def zne (nm : Nat) (d : AV) (ys : List UInt8) (lk : Nat → Option Blk) : Option (AV × Us) :=
 match d with
 | .sb bs full => bif full && ((bs.isEmpty || !ys.isEmpty) && decide (bs.length + ys.length ≤ top)) then some (.ms nm 1 0 (bs.length + ys.length),[(nm,some (.b (bs ++ ys)))]) else none
 | .sg _ [] full => bif full && decide (ys.length ≤ top) then some (.ms nm 1 0 ys.length,[(nm,some (.b ys))]) else none
 | .ms id s off len => match lk id with
  | some (.b bs) => if s = 1 ∧ off = 0 ∧ len = bs.length ∧ bs.length + ys.length ≤ top then some (.ms nm 1 0 (bs.length + ys.length),[(nm,some (.b (bs ++ ys))),(id,none)]) else none
  | _ => none
 | _ => none
include hl in
theorem zma {b : Bool} {p : Prop} {nm : Nat} {x : AV} {k : Blk} (hb : b = true → p) {y : AV} {us : Us} (h : (bif b then some (x,[(nm,some k)]) else none) = some (y,us)) : p ∧ x = y ∧ ∀ id,look (put H nm k) id = upd us lk id := by
 cases b with
 | true => injection h with h; injection h with h1 h2; subst h1 h2; exact ⟨hb rfl,rfl,fun id => zas hl id⟩
 | false => cases h
include hl in
theorem zva {p : Prop} [Decidable p] {nm k : Nat} {x : AV} {b : Blk} {y : AV} {us : Us} (h : (if p then some (x,[(nm,some b),(k,none)]) else none) = some (y,us)) : p ∧ x = y ∧ ∀ id,look (put (drop H k) nm b) id = upd us lk id := by
 split at h
 ·injection h with h; injection h with h1 h2; subst h1 h2; exact ⟨by assumption,rfl,fun id => zmo hl id⟩
 ·cases h
include hl in
theorem zls {nm : Nat} {d : AV} {ys : List UInt8} : Told (zdf nm d ys H) lk (zne nm d ys lk) := by
 intro y us h
 unfold zne at h
 unfold zdf
 split at h
 ·refine zma hl (fun hb => ?_) h
  simp only [Bool.and_eq_true,Bool.or_eq_true,List.isEmpty_iff,decide_eq_true_eq,Bool.not_eq_true',List.isEmpty_eq_false_iff] at hb
  exact hb
 ·refine zma hl (fun hb => ?_) h
  simp only [Bool.and_eq_true,decide_eq_true_eq] at hb
  exact hb
 ·rename_i id s off len
  simp only [hl id]
  split at h
  ·rename_i bs hb
   simp only [hb]
   exact zva hl h
  ·cases h
 ·cases h
def zvx (nm : Nat) (d : AV) (ys : List Int) (lk : Nat → Option Blk) : Option (AV × Us) :=
 match d with
 | .si bs full => bif full && ((bs.isEmpty || !ys.isEmpty) && decide (bs.length + ys.length ≤ top)) then some (.ms nm 1 0 (bs.length + ys.length),[(nm,some (.i (bs ++ ys)))]) else none
 | .sg _ [] full => bif full && decide (ys.length ≤ top) then some (.ms nm 1 0 ys.length,[(nm,some (.i ys))]) else none
 | .ms id s off len => match lk id with
  | some (.i bs) => if s = 1 ∧ off = 0 ∧ len = bs.length ∧ bs.length + ys.length ≤ top then some (.ms nm 1 0 (bs.length + ys.length),[(nm,some (.i (bs ++ ys))),(id,none)]) else none
  | _ => none
 | _ => none
include hl in
theorem ych {nm : Nat} {d : AV} {ys : List Int} : Told (zem nm d ys H) lk (zvx nm d ys lk) := by
 intro y us h
 unfold zvx at h
 unfold zem
 split at h
 ·refine zma hl (fun hb => ?_) h
  simp only [Bool.and_eq_true,Bool.or_eq_true,List.isEmpty_iff,decide_eq_true_eq,Bool.not_eq_true',List.isEmpty_eq_false_iff] at hb
  exact hb
 ·refine zma hl (fun hb => ?_) h
  simp only [Bool.and_eq_true,decide_eq_true_eq] at hb
  exact hb
 ·rename_i id s off len
  simp only [hl id]
  split at h
  ·rename_i bs hb
   simp only [hb]
   exact zva hl h
  ·cases h
 ·cases h
def zvy (s : Nat) (nm : Nat) (d : AV) (ys : List AV) (lk : Nat → Option Blk) : Option (AV × Us) :=
 match d with
 | .sg s' xs full => bif full && ((xs.isEmpty || (decide (s' = s) && !ys.isEmpty)) && decide (xs.length + ys.length ≤ top)) then some (.ms nm s 0 (xs.length + ys.length),[(nm,some (.g s (xs ++ ys)))]) else none
 | .ms id s' off len => match lk id with
  | some (.g s'' xs) => if s' = s ∧ s'' = s ∧ off = 0 ∧ len = xs.length ∧ xs.length + ys.length ≤ top then some (.ms nm s 0 (xs.length + ys.length),[(nm,some (.g s (xs ++ ys))),(id,none)]) else none
  | _ => none
 | _ => none
include hl in
theorem yci {s nm : Nat} {d : AV} {ys : List AV} : Told (zde s nm d ys H) lk (zvy s nm d ys lk) := by
 intro y us h
 unfold zvy at h
 unfold zde
 split at h
 ·refine zma hl (fun hb => ?_) h
  simp only [Bool.and_eq_true,Bool.or_eq_true,List.isEmpty_iff,decide_eq_true_eq,Bool.not_eq_true',List.isEmpty_eq_false_iff] at hb
  exact hb
 ·rename_i id s off len
  simp only [hl id]
  split at h
  ·rename_i bs hb
   simp only [hb]
   exact zva hl h
  ·cases h
 ·cases h
def zwg (T : zae) (nm : Nat) (ts : List TypeId) (d x : AV) (lk : Nat → Option Blk) : Option (AV × Us) :=
 match ts with
 | [t,u] => match T t,T u with
  | some ti,some tu => match ti.d with
   | .slice e => match T e with
    | none => none
    | some te => match te.d with
     | .int .u8 => match tu.d with
      | .str => match x with
       | .str ys => if te.size = 1 ∧ te.bytes ≤ 1024 then zne nm d ys lk else none
       | _ => none
      | .slice _ => match zyv lk x with
       | some ys => if te.size = 1 ∧ te.bytes ≤ 1024 then zne nm d ys lk else none
       | none => none
      | .int _ => match x with
       | .w (.int _ n) => if te.size = 1 ∧ te.bytes ≤ 1024 ∧ isZ .u8 te.zero = true ∧ 0 ≤ n then zne nm d (List.replicate n.toNat 0) lk else none
       | _ => none
      | _ => none
     | .int .i64 => match tu.d with
      | .slice _ => match ymu lk x with
       | some ys => if te.size = 1 ∧ te.bytes ≤ 1024 then zvx nm d ys lk else none
       | none => none
      | _ => none
     | _ => match tu.d with
      | .slice _ => match ymw te.size lk x with
       | some ys => if 0 < te.size ∧ te.bytes ≤ 1024 then zvy te.size nm d ys lk else none
       | none => none
      | _ => none
   | _ => none
  | _,_ => none
 | _ => none
include hl in
theorem yih {T : zae} {nm : Nat} {ts : List TypeId} {d x : AV} : Told (zhf T nm ts d x H) lk (zwg T nm ts d x lk) := by
 intro y us h
 unfold zwg at h
 unfold zhf
 split at h
 ·rename_i t u
  split at h
  ·rename_i ti tu ht hu
   simp only [ht,hu]
   split at h
   ·rename_i e hd
    simp only [hd]
    split at h
    ·cases h
    ·rename_i te hte
     simp only [hte]
     split at h
     ·rename_i hk
      simp only [hk]
      split at h
      ·rename_i hq
       simp only [hq]
       split at h
       ·split at h
        ·exact (zls hl).and (by assumption) _ _ h
        ·cases h
       ·cases h
      ·rename_i hq
       simp only [hq]
       split at h
       ·rename_i ys hy
        obtain ⟨a,b⟩ := zrg hl hy
        rw [b]
        split at h
        ·rename_i hc
         exact (zls hl).and ⟨hc.1,hc.2,a⟩ _ _ h
        ·cases h
       ·cases h
      ·rename_i hq
       simp only [hq]
       split at h
       ·split at h
        ·rename_i hc
         exact (zls hl).and ⟨hc.1,hc.2.1,zxx hc.2.2.1,hc.2.2.2⟩ _ _ h
        ·cases h
       ·cases h
      ·cases h
     ·rename_i hk
      simp only [hk]
      split at h
      ·rename_i hq
       simp only [hq]
       split at h
       ·rename_i ys hy
        obtain ⟨a,b⟩ := ymt hl hy
        rw [b]
        split at h
        ·rename_i hc
         exact (ych hl).and ⟨hc.1,hc.2,a⟩ _ _ h
        ·cases h
       ·cases h
      ·cases h
     ·rename_i hk1 hk2
      split
      ·rename_i he; exact (hk1 he).elim
      ·rename_i he; exact (hk2 he).elim
      ·split at h
       ·rename_i hq
        simp only [hq]
        split at h
        ·rename_i ys hy
         obtain ⟨a,b⟩ := ymv hl hy
         rw [b]
         split at h
         ·rename_i hc
          exact (yci hl).and ⟨hc.1,hc.2,a⟩ _ _ h
         ·cases h
        ·cases h
       ·cases h
   ·cases h
  ·cases h
 ·cases h
def yfk (T : zae) (t : TypeId) (x : AV) (lk : Nat → Option Blk) : Option (AV × Us) :=
 match T t with
 | some ti => match ti.d with
  | .slice e => match T e with
   | some te => match x with
    | .ms id s off len => match lk id with
     | some (.g s' xs) => if te.size = s ∧ s' = s ∧ off + len ≤ xs.length then some (.junk,[(id,some (.g s' (xs.take off ++ (List.replicate len (asv te te.zero) ++ xs.drop (off + len)))))]) else none
     | _ => none
    | _ => none
   | none => none
  | _ => none
 | none => none
include hl in
theorem ycx {p : Prop} [Decidable p] {nm : Nat} {x : AV} {b : Blk} {y : AV} {us : Us} (h : (if p then some (x,[(nm,some b)]) else none) = some (y,us)) : p ∧ x = y ∧ ∀ id,look (put H nm b) id = upd us lk id := by
 split at h
 ·injection h with h; injection h with h1 h2; subst h1 h2; exact ⟨by assumption,rfl,fun id => zas hl id⟩
 ·cases h
include hl in
theorem ynt {T : zae} {t : TypeId} {x : AV} : Told (zkx T t x H) lk (yfk T t x lk) := by
 intro y us h
 unfold yfk at h
 unfold zkx
 split at h
 ·rename_i ti ht
  simp only [ht]
  split at h
  ·rename_i e hd
   simp only [hd]
   split at h
   ·rename_i te hte
    simp only [hte]
    split at h
    ·rename_i id s off len
     simp only [hl id]
     split at h
     ·rename_i s' xs hb
      simp only [hb]
      exact ycx hl h
     ·cases h
    ·cases h
   ·cases h
  ·cases h
 ·cases h
def csrcB (lk : Nat → Option Blk) (x : AV) : Option (List UInt8) :=
 match x with
 | .str bs => some bs
 | _ => zyv lk x
include hl in
theorem yrd {x : AV} {l : List UInt8} (h : csrcB lk x = some l) : (srcB H x).1 ∧ (srcB H x).2 = l := by
 unfold csrcB at h
 unfold srcB
 split at h
 ·injection h with h; exact ⟨trivial,h⟩
 ·rename_i hx
  split
  ·rename_i bs; exact (hx bs rfl).elim
  ·exact zrg hl h
def yrv (T : zae) (ts : List TypeId) (d x : AV) (lk : Nat → Option Blk) : Option (AV × Us) :=
 match ts with
 | t :: _ => match T t with
  | some ti => match ti.d with
   | .slice e => match T e with
    | some te => match d with
     | .ms id s off len => match lk id with
      | some (.b bs) => match csrcB lk x with
       | some ys => if te.size = 1 ∧ s = 1 ∧ off + len ≤ bs.length ∧ bs.length ≤ top then some (.w (word ((min ys.length len : Nat) : Int)),[(id,some (.b (bs.take off ++ (ys.take len ++ bs.drop (off + min ys.length len)))))]) else none
       | none => none
      | _ => none
     | _ => none
    | none => none
   | _ => none
  | none => none
 | _ => none
include hl in
theorem yru {T : zae} {ts : List TypeId} {d x : AV} : Told (zsw T ts d x H) lk (yrv T ts d x lk) := by
 intro y us h
 unfold yrv at h
 unfold zsw
 split at h
 ·rename_i t _
  split at h
  ·rename_i ti ht
   simp only [ht]
   split at h
   ·rename_i e hd
    simp only [hd]
    split at h
    ·rename_i te hte
     simp only [hte]
     split at h
     ·rename_i id s off len
      simp only [hl id]
      split at h
      ·rename_i bs hb
       simp only [hb]
       split at h
       ·rename_i ys hy
        obtain ⟨a,b⟩ := yrd hl hy
        rw [b]
        obtain ⟨h1,h2,h3⟩ := ycx hl h
        exact ⟨⟨h1.1,h1.2.1,h1.2.2.1,h1.2.2.2,a⟩,h2,h3⟩
       ·cases h
      ·cases h
     ·cases h
    ·cases h
   ·cases h
  ·cases h
 ·cases h
def cFn (fn : Fn) (first : List Operand) (caps : List AV) : Option (AV × Us) :=
 match fn,first with
 | .func f,[] => some (.fn f caps,[])
 | _,_ => none
include hl in
theorem cFn_ok {fn : Fn} {first : List Operand} {caps : List AV} : Told (aFn fn first caps H) lk (cFn fn first caps) := by
 intro y us h
 unfold cFn at h
 unfold aFn
 split at h
 ·exact zcs hl h
 ·cases h
def yqm : AV → Bool
 | .ms _ _ _ _ => true
 | _ => false
theorem yql {x : AV} (h : yqm x = false) : notMs x := by
 cases x <;> first | trivial | cases h
def zwf (T : zae) (nm : Nat) (sl : List AV) (b : Builtin) (args : List Operand) (ts : List TypeId) (e : Operand → AV) (lk : Nat → Option Blk) : Option (AV × Us) :=
 match b with
 | .len => match args,ts with
  | [x],[t] => cLen T t (e x) lk
  | _,_ => none
 | .min => cMin (args.map e)
 | .max => cMax (args.map e)
 | .append => match args with
  | [d,x] => zwg T nm ts (e d) (e x) lk
  | _ => none
 | .delete => match args,ts with
  | [d,x],t :: _ => zwe T t (e d) (e x) lk
  | _,_ => none
 | .clear => match args,ts with
  | [x],[t] => yfk T t (e x) lk
  | _,_ => none
 | .copy => match args with
  | [d,x] => yrv T ts (e d) (e x) lk
  | _ => none
 | _ => none
def cop (T : zae) (nm : Nat) (e : Operand → AV) (lk : Nat → Option Blk) (op : Op) : Option (AV × Us) :=
 match op with
 | .move x => some (e x,[])
 | .assign x => some (e x,[])
 | .pick c a b => yie (e c) (e a) (e b)
 | .alloc t => yfm T nm t
 | .box t x => cBox T nm t (e x)
 | .build t ps => yfl T t (ps.toList.map fun p => (p.1,e p.2))
 | .buildSlice t n ps => zik T nm t n (ps.toList.map fun p => (p.1,e p.2))
 | .load t a => ynp T t (e a) lk
 | .store t a x => yfc T t (e a) (e x) lk
 | .nilCheck x => cNil (e x) lk
 | .binOp op t x y _ => cBin T op t (e x) (e y) lk
 | .unOp op _ x => cUn op (e x)
 | .convert s d x => bif coldStr T d && yqm (e x) then none else yrx T s d nm (e x) lk
 | .makeSlice t l c => yrt T nm t (e l) (e c)
 | .slice t x lo hi mx => bif mx.isSome && hi.isNone then none else yfd T t (e x) (lo.map e) (hi.map e) (mx.map e) lk
 | .fieldAddr s x f => zkm T s (e x) f lk
 | .field t x f => yfh T t (e x) f
 | .indexAddr t x i => zkl T t (e x) (e i) lk
 | .index t x i => yfg T t (e x) (e i)
 | .extract x i => zpj (e x) i
 | .makeFunc fn first caps => cFn fn first.toList (caps.toList.map e)
 | .range t x => yfe T nm t (e x) lk
 | .next x b => yrr (e x) b lk
 | .makeMap _ r => zwa nm r
 | .lookup t x k ok => zwb T t (e x) (e k) ok lk
 | .mapUpdate t x k v => zvz T t (e x) (e k) (e v) lk
 | .entry x => yfj (e x) lk
 | .call c => match c.callee with
  | .builtin b => zwf T nm [] b c.args.toList c.argTypes.toList e lk
  | _ => none
 | _ => none
theorem zre (sl : List AV) (l : List Operand) : evs sl l = l.map (ev sl) := by
 induction l with
 | nil => rfl
 | cons x r ih => simp [evs,ih]
theorem yen (sl : List AV) (l : List (Nat × Operand)) : evps sl l = l.map fun p => (p.1,ev sl p.2) := by
 induction l with
 | nil => rfl
 | cons x r ih => simp [evps,ih]
theorem evo_map (sl : List AV) (o : Option Operand) : evo sl o = o.map (ev sl) := by cases o <;> rfl
include hl in
theorem cop_ok {S : zak} {T : zae} {nm : Nat} {sl : List AV} {e : Operand → AV} (he : ∀ x,ev sl x = e x) {op : Op} : Told (aop S T nm sl op H) lk (cop T nm e lk op) := by
 have he' : ev sl = e := funext he
 subst he'
 cases op with
 | move x => intro y us h; exact zcs hl h
 | assign x => intro y us h; exact zcs hl h
 | pick c a b => exact yrp hl
 | alloc t => exact ynv hl
 | box t x => exact cBox_ok hl
 | build t ps => simp only [aop,cop,yen]; exact ynu hl
 | buildSlice t n ps => simp only [aop,cop,yen]; exact zss hl
 | load t a => exact yff hl
 | store t a x => exact ynm hl
 | nilCheck x => exact cNil_ok hl
 | binOp op t x y u => exact cBin_ok hl
 | unOp op t x => exact cUn_ok hl
 | convert s d x =>
  simp only [aop,cop]
  cases hc : coldStr T d && yqm (ev sl x) with
  | true => intro y us h; cases h
  | false =>
   refine (yrw hl).and fun h => ?_
   rw [h] at hc
   exact yql (by simpa using hc)
 | makeSlice t l c => exact yrs hl
 | slice t x lo hi mx =>
  simp only [aop,cop,evo_map]
  cases hc : mx.isSome && hi.isNone with
  | true => intro y us h; cases h
  | false =>
   refine (ynn hl).and fun h => ?_
   rw [h] at hc
   cases hi with
   | none => simp at hc
   | some _ => rfl
 | fieldAddr s x f => exact zwd hl
 | field t x f => exact ynr hl
 | indexAddr t x i => exact zwc hl
 | index t x i => exact ynq hl
 | extract x i => exact yck hl
 | makeFunc fn first caps => simp only [aop,cop,zre]; exact cFn_ok hl
 | range t x => exact yno hl
 | next x b => exact yrq hl
 | makeMap t r => exact ycj hl
 | lookup t x k ok => exact yif hl
 | mapUpdate t x k v => exact yid hl
 | entry x => exact yns hl
 | call c =>
  obtain ⟨callee,args,argTypes⟩ := c
  cases callee with
  | builtin b =>
   intro y us h
   simp only [cop] at h
   simp only [aop,aCall]
   cases b <;> simp only [zwf] at h <;> simp only <;> first | (cases h; done) | skip
   case len =>
    split at h
    ·rename_i x t hx ht; simp only [hx,ht]; exact cLen_ok hl _ _ h
    ·cases h
   case min => rw [zre]; exact cMin_ok hl _ _ h
   case max => rw [zre]; exact cMax_ok hl _ _ h
   case append =>
    split at h
    ·rename_i d x hx; simp only [hx]; exact yih hl _ _ h
    ·cases h
   case delete =>
    split at h
    ·rename_i d x t _ hx ht; simp only [hx,ht]; exact yig hl _ _ h
    ·cases h
   case clear =>
    split at h
    ·rename_i x t hx ht; simp only [hx,ht]; exact ynt hl _ _ h
    ·cases h
   case copy =>
    split at h
    ·rename_i d x hx; simp only [hx]; exact yru hl _ _ h
    ·cases h
  | _ => intro y us h; cases h
 | _ => intro y us h; cases h
end
end Ax
end Go.Proofs.Ytioldmhhefhelaa
namespace Go.Proofs.Ytioldmhhefhelaa
namespace Ax
inductive Tr (α : Type) where
 | leaf
 | node (l : Tr α) (a : Option α) (r : Tr α)
section
variable {α : Type}
noncomputable def Tr.get (t : Tr α) : Nat → Option α :=
 Tr.rec (fun _ => none) (fun _ a _ ihl ihr n => Nat.casesOn n a (fun k => cond (Nat.beq (Nat.mod k 2) 0) (ihl (Nat.div k 2)) (ihr (Nat.div k 2)))) t
theorem zer (n : Nat) : (Tr.leaf : Tr α).get n = none := rfl
theorem zdw (l r : Tr α) (a : Option α) : (Tr.node l a r).get 0 = a := rfl
theorem zdm (l r : Tr α) (a : Option α) (k : Nat) : (Tr.node l a r).get (k + 1) = cond (Nat.beq (k % 2) 0) (l.get (k / 2)) (r.get (k / 2)) := rfl
noncomputable def mkK {β : Type} (f : Nat) : Nat → Option α → (Tr α → β) → β :=
 Nat.rec (fun _ _ κ => κ .leaf) (fun _ ih n x κ => Nat.casesOn n (κ (.node .leaf x .leaf)) (fun k => cond (Nat.beq (Nat.mod k 2) 0) (ih (Nat.div k 2) x fun l => κ (.node l none .leaf)) (ih (Nat.div k 2) x fun r => κ (.node .leaf none r)))) f
theorem ykt {β : Type} (f : Nat) (x : Option α) (κ : Tr α → β) : mkK (f + 1) 0 x κ = κ (.node .leaf x .leaf) := rfl
theorem zvm {β : Type} (f k : Nat) (x : Option α) (κ : Tr α → β) : mkK (f + 1) (k + 1) x κ = cond (Nat.beq (k % 2) 0) (mkK f (k / 2) x fun l => κ (.node l none .leaf)) (mkK f (k / 2) x fun r => κ (.node .leaf none r)) := rfl
theorem zqf {β : Type} : ∀ (f n : Nat) (x : Option α) (κ : Tr α → β),mkK f n x κ = κ (mkK f n x fun t => t)
 | 0,n,x,κ => rfl
 | f + 1,0,x,κ => rfl
 | f + 1,k + 1,x,κ => by
  rw [zvm,zvm]
  cases Nat.beq (k % 2) 0 with
  | true => simp only [cond_true]; rw [zqf f _ _ fun l => κ (.node l none .leaf),zqf f _ _ fun l => (.node l none .leaf : Tr α)]
  | false => simp only [cond_false]; rw [zqf f _ _ fun r => κ (.node .leaf none r),zqf f _ _ fun r => (.node .leaf none r : Tr α)]
noncomputable def Tr.setK {β : Type} (t : Tr α) : Nat → Option α → (Tr α → β) → β :=
 Tr.rec (fun n x κ => mkK 60 n x κ) (fun l a r ihl ihr n x κ => Nat.casesOn n (κ (.node l x r)) (fun k => cond (Nat.beq (Nat.mod k 2) 0) (ihl (Nat.div k 2) x fun l => κ (.node l a r)) (ihr (Nat.div k 2) x fun r => κ (.node l a r)))) t
noncomputable def Tr.set (t : Tr α) (n : Nat) (x : Option α) : Tr α := t.setK n x fun t => t
theorem zpt {β : Type} (n : Nat) (x : Option α) (κ : Tr α → β) : (Tr.leaf : Tr α).setK n x κ = mkK 60 n x κ := rfl
theorem yjh {β : Type} (l r : Tr α) (a : Option α) (x : Option α) (κ : Tr α → β) : (Tr.node l a r).setK 0 x κ = κ (.node l x r) := rfl
theorem zps {β : Type} (l r : Tr α) (a : Option α) (k : Nat) (x : Option α) (κ : Tr α → β) : (Tr.node l a r).setK (k + 1) x κ = cond (Nat.beq (k % 2) 0) (l.setK (k / 2) x fun l => κ (.node l a r)) (r.setK (k / 2) x fun r => κ (.node l a r)) := rfl
theorem zga {β : Type} : ∀ (t : Tr α) (n : Nat) (x : Option α) (κ : Tr α → β),t.setK n x κ = κ (t.set n x)
 | .leaf,n,x,κ => by unfold Tr.set; rw [zpt,zpt,zqf]
 | .node l a r,0,x,κ => rfl
 | .node l a r,k + 1,x,κ => by
  unfold Tr.set
  rw [zps,zps]
  cases Nat.beq (k % 2) 0 with
  | true => simp only [cond_true]; rw [zga l _ _ fun l => κ (.node l a r),zga l _ _ fun l => (.node l a r : Tr α)]
  | false => simp only [cond_false]; rw [zga r _ _ fun r => κ (.node l a r),zga r _ _ fun r => (.node l a r : Tr α)]
theorem zht (k : Nat) : (Nat.beq (k % 2) 0 = true ∧ k % 2 = 0) ∨ (Nat.beq (k % 2) 0 = false ∧ k % 2 = 1) := by
 rcases Nat.mod_two_eq_zero_or_one k with h | h
 ·exact .inl ⟨by rw [h]; rfl,h⟩
 ·exact .inr ⟨by rw [h]; rfl,h⟩
theorem ylw : ∀ (f n m : Nat) (x : Option α),n + 1 < 2 ^ f → (mkK f n x fun t => t).get m = if m = n then x else none
 | 0,n,m,x,h => by simp at h
 | f + 1,0,m,x,h => by
  rw [ykt]
  cases m with
  | zero => rw [zdw,if_pos rfl]
  | succ m => rw [zdm,if_neg (by omega)]; cases Nat.beq (m % 2) 0 <;> rfl
 | f + 1,k + 1,m,x,h => by
  have hd : k / 2 + 1 < 2 ^ f := by rw [Nat.pow_succ] at h; omega
  rw [zvm]
  rcases zht k with ⟨e,hk⟩ | ⟨e,hk⟩
  ·rw [e,cond_true,zqf]
   cases m with
   | zero => rw [zdw,if_neg (by omega)]
   | succ m =>
    rw [zdm]
    rcases zht m with ⟨e2,hm⟩ | ⟨e2,hm⟩
    ·rw [e2,cond_true,ylw f _ _ _ hd]
     by_cases e3 : m / 2 = k / 2
     ·rw [if_pos e3,if_pos (by omega)]
     ·rw [if_neg e3,if_neg (by omega)]
    ·rw [e2,cond_false,zer,if_neg (by omega)]
  ·rw [e,cond_false,zqf]
   cases m with
   | zero => rw [zdw,if_neg (by omega)]
   | succ m =>
    rw [zdm]
    rcases zht m with ⟨e2,hm⟩ | ⟨e2,hm⟩
    ·rw [e2,cond_true,zer,if_neg (by omega)]
    ·rw [e2,cond_false,ylw f _ _ _ hd]
     by_cases e3 : m / 2 = k / 2
     ·rw [if_pos e3,if_pos (by omega)]
     ·rw [if_neg e3,if_neg (by omega)]
theorem zjm : ∀ (t : Tr α) (n m : Nat) (x : Option α),n + 1 < 2 ^ 60 → (t.set n x).get m = if m = n then x else t.get m
 | .leaf,n,m,x,h => by unfold Tr.set; rw [zpt,ylw 60 n m x h,zer]
 | .node l a r,0,m,x,h => by
  unfold Tr.set
  rw [yjh]
  cases m with
  | zero => rw [zdw,if_pos rfl]
  | succ m => rw [zdm,zdm,if_neg (by omega)]
 | .node l a r,k + 1,m,x,h => by
  have hd : k / 2 + 1 < 2 ^ 60 := by omega
  unfold Tr.set
  rw [zps]
  rcases zht k with ⟨e,hk⟩ | ⟨e,hk⟩
  ·rw [e,cond_true,zga]
   cases m with
   | zero => rw [zdw,zdw,if_neg (by omega)]
   | succ m =>
    rw [zdm,zdm]
    rcases zht m with ⟨e2,hm⟩ | ⟨e2,hm⟩
    ·rw [e2,cond_true,cond_true,zjm l _ _ _ hd]
     by_cases e3 : m / 2 = k / 2
     ·rw [if_pos e3,if_pos (by omega)]
     ·rw [if_neg e3,if_neg (by omega)]
    ·rw [e2,cond_false,cond_false,if_neg (by omega)]
  ·rw [e,cond_false,zga]
   cases m with
   | zero => rw [zdw,zdw,if_neg (by omega)]
   | succ m =>
    rw [zdm,zdm]
    rcases zht m with ⟨e2,hm⟩ | ⟨e2,hm⟩
    ·rw [e2,cond_true,cond_true,if_neg (by omega)]
    ·rw [e2,cond_false,cond_false,zjm r _ _ _ hd]
     by_cases e3 : m / 2 = k / 2
     ·rw [if_pos e3,if_pos (by omega)]
     ·rw [if_neg e3,if_neg (by omega)]
def ylo (a : Option α) (k : Nat) : List (Nat × α) := match a with
 | some x => [(k,x)]
 | none => []
def Tr.rows : Tr α → (Nat → Nat) → List (Nat × α)
 | .leaf,_ => []
 | .node l a r,g => ylo a (g 0) ++ (l.rows (fun k => g (2 * k + 1)) ++ r.rows (fun k => g (2 * k + 2)))
end
theorem ydt (A B : Heap) (id : Nat) : look (A ++ B) id = match look A id with | some b => some b | none => look B id := zej A B id
theorem zcm : ∀ (t : Tr Blk) (g : Nat → Nat) (id : Nat),(∀ k,g k ≠ id) → look (t.rows g) id = none
 | .leaf,g,id,h => rfl
 | .node l a r,g,id,h => by
  simp only [Tr.rows,ydt,zcm l _ id (fun k => h _),zcm r _ id (fun k => h _)]
  cases a with
  | none => rfl
  | some x => simp [ylo,look,h 0]
theorem zqh : ∀ (t : Tr Blk) (g : Nat → Nat),(∀ i j,g i = g j → i = j) → ∀ n,look (t.rows g) (g n) = t.get n
 | .leaf,g,hg,n => rfl
 | .node l a r,g,hg,n => by
  have hl := zqh l (fun k => g (2 * k + 1)) (fun i j h => by have := hg _ _ h; omega)
  have hr := zqh r (fun k => g (2 * k + 2)) (fun i j h => by have := hg _ _ h; omega)
  simp only [Tr.rows,ydt]
  cases n with
  | zero =>
   rw [zcm l _ (g 0) (fun k h => by have := hg _ _ h; omega),zcm r _ (g 0) (fun k h => by have := hg _ _ h; omega)]
   rw [zdw]
   cases a <;> simp [ylo,look]
  | succ n =>
   have h0 : look (ylo a (g 0)) (g (n + 1)) = none := by
    cases a with
    | none => rfl
    | some x =>
     have : g 0 ≠ g (n + 1) := fun h => by have := hg _ _ h; omega
     simp [ylo,look,this]
   rw [h0]
   rw [zdm]
   by_cases hk : n % 2 = 0
   ·have e : g (n + 1) = g (2 * (n / 2) + 1) := by congr 1; omega
    rw [e,hl,zcm r _ _ (fun k h => by have := hg _ _ h; omega)]
    have : Nat.beq (n % 2) 0 = true := by rw [hk]; rfl
    rw [this,cond_true]
    cases l.get (n / 2) <;> rfl
   ·have e : g (n + 1) = g (2 * (n / 2) + 2) := by congr 1; omega
    rw [e,hr,zcm l _ _ (fun k h => by have := hg _ _ h; omega)]
    have : Nat.beq (n % 2) 0 = false := by rw [show n % 2 = 1 by omega]; rfl
    rw [this,cond_false]
def toH (t : Tr Blk) : Heap := t.rows (fun k => k)
theorem zar (t : Tr Blk) (id : Nat) : look (toH t) id = t.get id := zqh t (fun k => k) (fun _ _ h => h) id
noncomputable def sget (t : Tr AV) (n : Nat) : AV := match t.get n with
 | some x => x
 | none => .junk
noncomputable def toS (n : Nat) (t : Tr AV) : List AV := (List.range n).map (sget t)
theorem zcl (n : Nat) (t : Tr AV) : (toS n t).length = n := by simp [toS]
theorem zpb (n : Nat) (t : Tr AV) (k : Nat) : slot (toS n t) k = if k < n then sget t k else .junk := by
 rw [zct]
 by_cases h : k < n
 ·simp [toS,h]
 ·rw [if_neg h,List.getD_eq_getElem?_getD,List.getElem?_eq_none (by simp [toS]; omega)]; rfl
section force
variable {β : Type}
def zfe (n : Nat) (κ : Nat → β) : β := match n with
 | 0 => κ 0
 | k + 1 => κ (Nat.succ k)
theorem zfd (n : Nat) (κ : Nat → β) : zfe n κ = κ n := by cases n <;> rfl
def yeg (n : Int) (κ : Int → β) : β := match n with
 | .ofNat n => zfe n fun n => κ (.ofNat n)
 | .negSucc n => zfe n fun n => κ (.negSucc n)
theorem zyn (n : Int) (κ : Int → β) : yeg n κ = κ n := by cases n <;> simp only [yeg,zfd]
def zkt {α : Type} : List α → (List α → β) → β
 | [],κ => κ []
 | x :: r,κ => zkt r fun r => κ (x :: r)
theorem zjn {α : Type} : ∀ (l : List α) (κ : List α → β),zkt l κ = κ l
 | [],κ => rfl
 | x :: r,κ => by simp only [zkt,zjn r]
def forceB (b : Bool) (κ : Bool → β) : β := match b with
 | true => κ true
 | false => κ false
theorem ymg (b : Bool) (κ : Bool → β) : forceB b κ = κ b := by cases b <;> rfl
def yed (v : Value) (κ : Value → β) : β := match v with
 | .int k n => yeg n fun n => κ (.int k n)
 | .bool b => forceB b fun b => κ (.bool b)
 | v => κ v
theorem zym (v : Value) (κ : Value → β) : yed v κ = κ v := by cases v <;> first | rfl | simp only [yed,zyn,ymg]
def zqu (x : AV) (κ : AV → β) : β := match x with
 | .w v => yed v fun v => κ (.w v)
 | .str bs => zkt bs fun bs => κ (.str bs)
 | .ms id s off len => zfe off fun off => zfe len fun len => κ (.ms id s off len)
 | .rf id s i f => zfe i fun i => zfe f fun f => κ (.rf id s i f)
 | .sb bs f => zkt bs fun bs => κ (.sb bs f)
 | .si bs f => zkt bs fun bs => κ (.si bs f)
 | .sg s bs f => zkt bs fun bs => κ (.sg s bs f)
 | x => κ x
theorem zqt (x : AV) (κ : AV → β) : zqu x κ = κ x := by cases x <;> first | rfl | simp only [zqu,zym,zfd,zjn]
def zio {α : Type} (f : α → (α → β) → β) : List α → (List α → β) → β
 | [],κ => κ []
 | x :: r,κ => f x fun x => zio f r fun r => κ (x :: r)
theorem zff {α : Type} {f : α → (α → β) → β} (hf : ∀ x κ,f x κ = κ x) : ∀ (l : List α) (κ : List α → β),zio f l κ = κ l
 | [],κ => rfl
 | x :: r,κ => by simp only [zio,hf,zff hf r]
def zmv (x : AV) (κ : AV → β) : β := match x with
 | .agg xs => zio zqu xs fun xs => κ (.agg xs)
 | .fn f xs => zio zqu xs fun xs => κ (.fn f xs)
 | x => zqu x κ
theorem zho (x : AV) (κ : AV → β) : zmv x κ = κ x := by cases x <;> first | rfl | simp only [zmv,zqt,zff zqt]
def yee (x : AV) (κ : AV → β) : β := match x with
 | .tup xs => zio zmv xs fun xs => κ (.tup xs)
 | x => zmv x κ
theorem zmu (x : AV) (κ : AV → β) : yee x κ = κ x := by cases x <;> first | rfl | simp only [yee,zho,zff zho]
def ymc (p : AV × AV) (κ : AV × AV → β) : β := zmv p.1 fun a => zmv p.2 fun b => κ (a,b)
theorem ymb (p : AV × AV) (κ : AV × AV → β) : ymc p κ = κ p := by simp only [ymc,zho]
def yef (b : Blk) (κ : Blk → β) : β := match b with
 | .b bs => zkt bs fun bs => κ (.b bs)
 | .i ns => zio yeg ns fun ns => κ (.i ns)
 | .g s xs => zio zmv xs fun xs => κ (.g s xs)
 | .o x => match x with
  | .it bs pos => zfe pos fun pos => κ (.o (.it bs pos))
  | .mp es => zio ymc es fun es => κ (.o (.mp es))
  | .mi es now => zkt es fun es => κ (.o (.mi es now))
theorem ymd (b : Blk) (κ : Blk → β) : yef b κ = κ b := by
 cases b with
 | o x => cases x <;> simp only [yef,zfd,zjn,zff ymb]
 | _ => simp only [yef,zjn,zff zyn,zff zho]
end force
theorem Ext.trans {C D : Nat → Prop} {w w1 w2 : World} {loc loc1 loc2 : Loc} (h : Ext C w loc w1 loc1) (k : Ext D w1 loc1 w2 loc2) : Ext (fun id => C id ∨ D id) w loc w2 loc2 := by
 refine ⟨Nat.le_trans h.size k.size,fun id hf hc => ?_,fun id hf hc => ?_,fun b hb hm => ?_,fun id b hb hc => ?_,fun b cur e fz hh => ?_⟩
 ·have h1 := h.keep id hf (fun c => hc (.inl c))
  exact (k.keep id (by rw [h1]; exact hf) (fun c => hc (.inr c))).trans h1
 ·have h1 : loc1.m id = loc.m id ∨ loc1.m id = .dead := by
   by_cases c : C id
   ·exact h.gone id hf c
   ·exact .inl (h.keep id hf c)
  have hf1 : loc1.m id ≠ .free := by rcases h1 with h1 | h1 <;> rw [h1] <;> first | exact hf | simp
  have h2 : loc2.m id = loc1.m id ∨ loc2.m id = .dead := by
   by_cases d : D id
   ·exact k.gone id hf1 d
   ·exact .inl (k.keep id hf1 d)
  rcases h2 with h2 | h2
  ·rw [h2]; exact h1
  ·exact .inr h2
 ·obtain ⟨h1,h2⟩ := h.imm b hb hm
  obtain ⟨k1,k2⟩ := k.imm b (Nat.lt_of_lt_of_le hb h.size) h2
  exact ⟨k1.trans h1,k2⟩
 ·have h1 := h.own id b hb (fun c => hc (.inl c))
  have h2 := h.keep id (by rw [hb]; simp) (fun c => hc (.inl c))
  exact (k.own id b (h2.trans hb) (fun c => hc (.inr c))).trans h1
 ·obtain ⟨c1,f1,h1,h2⟩ := h.shape b cur e fz hh
  obtain ⟨c2,f2,k1,k2⟩ := k.shape b c1 e f1 h1
  exact ⟨c2,f2,k1,k2.trans h2⟩
structure Tn (w : World) (loc : Loc) (nm nz : Nat) (w' : World) (loc' : Loc) : Prop where
 ext : ∃ C : Nat → Prop,Ext C w loc w' loc'
 fresh : ∀ id,loc.m id = .free → loc'.m id ≠ .free → nm ≤ id ∧ id < nz
 bad : loc'.bad = loc.bad
theorem Tn.refl (w : World) (loc : Loc) (nm nz : Nat) : Tn w loc nm nz w loc := ⟨⟨_,Ext.refl w loc⟩,fun _ h h' => (h' h).elim,rfl⟩
theorem Tn.trans {w w1 w2 : World} {loc loc1 loc2 : Loc} {a b c d : Nat} (h : Tn w loc a b w1 loc1) (k : Tn w1 loc1 c d w2 loc2) (hac : a ≤ c) (hbd : b ≤ d) : Tn w loc a d w2 loc2 := by
 obtain ⟨C,hC⟩ := h.ext
 obtain ⟨D,hD⟩ := k.ext
 refine ⟨⟨_,hC.trans hD⟩,fun id hf hn => ?_,k.bad.trans h.bad⟩
 by_cases h1 : loc1.m id = .free
 ·have := k.fresh id h1 hn; omega
 ·have := h.fresh id hf h1; omega
structure PostW (w0 : World) (E : Nat → Prop) (w : World) (loc : Loc) (nm nz : Nat) (x : AV) (H : Heap) (v : Value) (w' : World) (loc' : Loc) : Prop where
 r : R w' loc' x v
 h : HR w' loc' H
 env : Env w0 E w' loc'
 tn : Tn w loc nm nz w' loc'
section frame
open Classical
noncomputable def Loc.onlyP (loc : Loc) (F : Nat → Prop) : Loc :=
 { m := fun id => if F id then loc.m id else .free,bad := fun b => loc.bad b ∨ ∃ id,¬ F id ∧ loc.m id = .here b }
theorem zeg {loc : Loc} {F : Nat → Prop} {id : Nat} (h : F id) : (loc.onlyP F).m id = loc.m id := by simp [Loc.onlyP,h]
theorem zlg {loc : Loc} {F : Nat → Prop} {id : Nat} (h : ¬ F id) : (loc.onlyP F).m id = .free := by simp [Loc.onlyP,h]
theorem onlyP_mut {loc : Loc} {F : Nat → Prop} {b : Nat} : Mut (loc.onlyP F) b ↔ Mut loc b := by
 constructor
 ·rintro ((h | ⟨id,_,h⟩) | ⟨id,h⟩)
  ·exact .inl h
  ·exact .inr ⟨id,h⟩
  ·by_cases hF : F id
   ·rw [zeg hF] at h; exact .inr ⟨id,h⟩
   ·rw [zlg hF] at h; cases h
 ·rintro (h | ⟨id,h⟩)
  ·exact .inl (.inl h)
  ·by_cases hF : F id
   ·exact .inr ⟨id,(zeg hF).trans h⟩
   ·exact .inl (.inr ⟨id,hF,h⟩)
theorem R.onlyP {w : World} {loc : Loc} {F : Nat → Prop} {x : AV} {v : Value} (h : R w loc x v) (hq : ∀ id ∈ x.ids,loc.m id ≠ .free → F id) : R w (loc.onlyP F) x v :=
 h.agree (fun b _ hb => onlyP_mut.1 hb) fun id hid hf => zeg (hq id hid hf)
theorem BlkR.onlyP {w : World} {loc : Loc} {F : Nat → Prop} {id : Nat} {blk : Blk} (h : BlkR w loc id blk) (hq : ∀ k ∈ idsL blk.flat,loc.m k ≠ .free → F k) : BlkR w (loc.onlyP F) id blk := by
 by_cases hF : F id
 ·unfold BlkR at h ⊢
  rw [zeg hF]
  cases e : loc.m id with
  | free => trivial
  | dead => rw [e] at h; exact h
  | nil => rw [e] at h; exact h
  | here b =>
   rw [e] at h
   obtain ⟨hok,hl⟩ := h
   rcases zbp blk with ⟨x,hx,rfl⟩ | hodd
   ·exact ⟨hok,.mkO (Thing.move (fun b _ hb => onlyP_mut.1 hb) (hl.is hx)) hx⟩
   obtain ⟨cur,el,fz,h1,h2,h3,h4,h5⟩ := hl.lies hodd
   exact ⟨hok,.mkC ⟨cur,el,fz,h1,h2,h3,h4,fun j hj hj' => ⟨(h5 j hj hj').1,(h5 j hj hj').2.onlyP fun k hk => hq k (zeq j hj hk)⟩⟩ hodd⟩
 ·exact BlkR.free (zlg hF)
def InP (loc : Loc) (F : Nat → Prop) (b : Nat) : Prop := ∃ id,F id ∧ loc.m id = .here b
noncomputable def Loc.backP (loc loc' : Loc) (F : Nat → Prop) (nm nz : Nat) : Loc :=
 { m := fun id => if F id ∨ (nm ≤ id ∧ id < nz) then loc'.m id else loc.m id,bad := loc.bad }
variable {w0 : World} {E : Nat → Prop} {w : World} {loc : Loc} {F : Nat → Prop} {nm nz : Nat}
theorem Env.onlyP (he : Env w0 E w loc) : Env w (InP loc F) w (loc.onlyP F) := by
 refine ⟨rfl,rfl,rfl,Nat.le_refl _,fun _ _ _ => rfl,?_,?_,?_⟩
 ·intro i j b hi hj
  by_cases h1 : F i
  ·by_cases h2 : F j
   ·rw [zeg h1] at hi; rw [zeg h2] at hj
    exact he.inj i j b hi hj
   ·rw [zlg h2] at hj; cases hj
  ·rw [zlg h1] at hi; cases hi
 ·intro i b hi
  by_cases h1 : F i
  ·rw [zeg h1] at hi
   exact ⟨(he.lies i b hi).1,.inr ⟨i,h1,hi⟩⟩
  ·rw [zlg h1] at hi; cases hi
 ·rintro b (hb | ⟨id,hF,hb⟩)
  ·obtain ⟨h1,h2⟩ := he.bad b hb
   refine ⟨Nat.lt_of_lt_of_le h1 he.size,?_⟩
   rintro ⟨id,_,hid⟩
   rcases (he.lies id b hid).2 with h3 | h3
   ·omega
   ·exact h2 h3
  ·refine ⟨(he.lies id b hb).1,?_⟩
   rintro ⟨k,hk,hkb⟩
   exact hF (he.inj k id b hkb hb ▸ hk)
theorem PostW.frame (he : Env w0 E w loc) (hfree : ∀ id,nm ≤ id → id < nz → loc.m id = .free) {x : AV} {H : Heap} {v : Value} {w' : World} {loc' : Loc}
  (hH : ∀ id b,look H id = some b → F id ∨ (nm ≤ id ∧ id < nz)) (hp : PostW w (InP loc F) w (loc.onlyP F) nm nz x H v w' loc') :
  R w' (loc.backP loc' F nm nz) x v ∧ HR w' (loc.backP loc' F nm nz) H ∧ Env w0 E w' (loc.backP loc' F nm nz) ∧ (∃ C : Nat → Prop,Ext C w loc w' (loc.backP loc' F nm nz) ∧ ∀ id,C id → F id) ∧
   (∀ id,loc.m id = .free → (loc.backP loc' F nm nz).m id ≠ .free → nm ≤ id ∧ id < nz) ∧ (loc.backP loc' F nm nz).bad = loc.bad := by
 have hin : ∀ id,(F id ∨ (nm ≤ id ∧ id < nz)) → (loc.backP loc' F nm nz).m id = loc'.m id := fun id h => by simp [Loc.backP,h]
 have hout : ∀ id,¬ (F id ∨ (nm ≤ id ∧ id < nz)) → (loc.backP loc' F nm nz).m id = loc.m id := fun id h => by simp only [Loc.backP]; rw [if_neg h]
 have hpb := hp.tn.bad
 have hnew : ∀ id,loc'.m id ≠ .free → F id ∨ (nm ≤ id ∧ id < nz) := by
  intro id h
  by_cases hF : F id
  ·exact .inl hF
  ·exact .inr (hp.tn.fresh id (zlg hF) h)
 have hmut : ∀ b,Mut (loc.backP loc' F nm nz) b → Mut loc' b := by
  rintro b (hb | ⟨id,hid⟩)
  ·refine .inl ?_
   rw [hpb]; exact .inl hb
  ·by_cases h : F id ∨ (nm ≤ id ∧ id < nz)
   ·rw [hin id h] at hid; exact .inr ⟨id,hid⟩
   ·rw [hout id h] at hid
    exact .inl (by rw [hpb]; exact .inr ⟨id,fun hF => h (.inl hF),hid⟩)
 have hr : ∀ {y : AV} {u : Value},R w' loc' y u → R w' (loc.backP loc' F nm nz) y u := fun h => h.agree (fun b _ => hmut b) fun id _ hf => hin id (hnew id hf)
 have henv : Env w0 E w' (loc.backP loc' F nm nz) := by
  refine ⟨hp.env.os.trans he.os,hp.env.tape.trans he.tape,hp.env.output.trans he.output,Nat.le_trans he.size hp.env.size,?_,?_,?_,?_⟩
  ·intro b hb hE
   rw [hp.env.same b (Nat.lt_of_lt_of_le hb he.size) ?_]
   ·exact he.same b hb hE
   ·rintro ⟨id,_,hid⟩
    rcases (he.lies id b hid).2 with h3 | h3
    ·omega
    ·exact hE h3
  ·have hcross : ∀ i j b,(F i ∨ (nm ≤ i ∧ i < nz)) → ¬ (F j ∨ (nm ≤ j ∧ j < nz)) → loc'.m i = .here b → loc.m j = .here b → False := by
    intro i j b _ hj h1 h2
    have hbad : loc'.bad b := by rw [hpb]; exact .inr ⟨j,fun hF => hj (.inl hF),h2⟩
    obtain ⟨h3,h4⟩ := hp.env.bad b hbad
    rcases (hp.env.lies i b h1).2 with h5 | h5
    ·omega
    ·exact h4 h5
   intro i j b hi hj
   by_cases h1 : F i ∨ (nm ≤ i ∧ i < nz)
   ·rw [hin i h1] at hi
    by_cases h2 : F j ∨ (nm ≤ j ∧ j < nz)
    ·rw [hin j h2] at hj
     exact hp.env.inj i j b hi hj
    ·rw [hout j h2] at hj
     exact (hcross i j b h1 h2 hi hj).elim
   ·rw [hout i h1] at hi
    by_cases h2 : F j ∨ (nm ≤ j ∧ j < nz)
    ·rw [hin j h2] at hj
     exact (hcross j i b h2 h1 hj hi).elim
    ·rw [hout j h2] at hj
     exact he.inj i j b hi hj
  ·intro i b hi
   by_cases h1 : F i ∨ (nm ≤ i ∧ i < nz)
   ·rw [hin i h1] at hi
    obtain ⟨h2,h3⟩ := hp.env.lies i b hi
    refine ⟨h2,?_⟩
    rcases h3 with h3 | ⟨k,_,hk⟩
    ·exact .inl (Nat.le_trans he.size h3)
    ·exact (he.lies k b hk).2
   ·rw [hout i h1] at hi
    obtain ⟨h2,h3⟩ := he.lies i b hi
    exact ⟨Nat.lt_of_lt_of_le h2 hp.env.size,h3⟩
  ·intro b hb; exact he.bad b hb
 have hext : ∃ C : Nat → Prop,Ext C w loc w' (loc.backP loc' F nm nz) ∧ ∀ id,C id → F id := by
  obtain ⟨C,hE⟩ := hp.tn.ext
  have hnr : ∀ id,loc.m id ≠ .free → ¬ F id → ¬ (F id ∨ (nm ≤ id ∧ id < nz)) := by
   rintro id h1 h2 (h3 | h3)
   ·exact h2 h3
   ·exact h1 (hfree id h3.1 h3.2)
  have hhid : ∀ id b,loc.m id = .here b → ¬ F id → w'.heap[b]? = w.heap[b]? := by
   intro id b h1 h2
   refine hp.env.same b (he.lies id b h1).1 ?_
   rintro ⟨k,hk,hkb⟩
   exact h2 (he.inj k id b hkb h1 ▸ hk)
  refine ⟨fun id => C id ∧ F id,⟨hE.size,?_,?_,?_,?_,?_⟩,fun id hc => hc.2⟩
  ·intro id hf hc
   by_cases hF : F id
   ·rw [hin id (.inl hF)]
    have := hE.keep id (by rw [zeg hF]; exact hf) (fun h => hc ⟨h,hF⟩)
    rw [this,zeg hF]
   ·exact hout id (hnr id hf hF)
  ·rintro id hf ⟨hc,hF⟩
   rw [hin id (.inl hF)]
   have := hE.gone id (by rw [zeg hF]; exact hf) hc
   rw [zeg hF] at this
   exact this
  ·intro b hb hm
   obtain ⟨h1,h2⟩ := hE.imm b hb (fun h => hm (onlyP_mut.1 h))
   exact ⟨h1,fun h => h2 (hmut b h)⟩
  ·intro id b hb hc
   by_cases hF : F id
   ·exact hE.own id b (by rw [zeg hF]; exact hb) (fun h => hc ⟨h,hF⟩)
   ·exact hhid id b hb hF
  ·intro b cur e fz hh
   exact hE.shape b cur e fz hh
 refine ⟨hr hp.r,?_,henv,hext,?_,rfl⟩
 ·intro id blk hl
  have h0 := hH id blk hl
  have h1 := hp.h id blk hl
  unfold BlkR at h1 ⊢
  rw [hin id h0]
  split
  ·trivial
  ·rename_i e; rw [e] at h1; exact h1
  ·rename_i e; rw [e] at h1; exact h1
  ·rename_i b e
   rw [e] at h1
   obtain ⟨hok,hl1⟩ := h1
   rcases zbp blk with ⟨x,hx,rfl⟩ | hodd
   ·exact ⟨hok,.mkO (Thing.move (fun b _ hb => hmut b hb) (hl1.is hx)) hx⟩
   obtain ⟨cur,el,fz,a1,a2,a3,a4,a5⟩ := hl1.lies hodd
   exact ⟨hok,.mkC ⟨cur,el,fz,a1,a2,a3,a4,fun j hj hj' => ⟨(a5 j hj hj').1,hr (a5 j hj hj').2⟩⟩ hodd⟩
 ·intro id hf hn
  by_cases h : F id ∨ (nm ≤ id ∧ id < nz)
  ·rcases h with h | h
   ·rw [hin id (.inl h)] at hn
    by_cases hw : nm ≤ id ∧ id < nz
    ·exact hw
    ·exact (hp.tn.fresh id (by rw [zeg h]; exact hf) hn)
   ·exact h
  ·rw [hout id h] at hn; exact (hn hf).elim
end frame
end Ax
end Go.Proofs.Ytioldmhhefhelaa
