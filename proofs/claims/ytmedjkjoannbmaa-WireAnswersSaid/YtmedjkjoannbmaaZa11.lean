/- What the proofs of this seat stand on; it asks nothing. -/
import Derived.Test.YtmedjkjoannbmaaZa10
set_option linter.unusedSimpArgs false
set_option linter.unusedVariables false
namespace Go.Proofs.Ytmedjkjoannbmaa
open Ax
def nxB (B x : Int) (s : List UInt8 × Int) : List UInt8 × Int :=
 if x = 116 ∨ x = 103 ∨ x = 107 then (rtL 255 s.1 s.2,rtE 255 s.1 s.2) else if x = 99 ∨ x = 102 then (zfj 1 s.1 s.2,rfixE 1 s.1 s.2) else if x = 98 then (rtL B s.1 s.2,rtE B s.1 s.2) else (numL s.1 s.2,numE s.1 s.2)
def tkR (B x : Int) (s : List UInt8 × Int) (q : Rq) : Rq :=
 ⟨q.k,if x = 116 then rtS' 255 s.1 s.2 else q.t,if x = 105 then numN s.1 s.2 else q.i,if x = 112 then numN s.1 s.2 else q.p,if x = 99 then decide (zdz 1 s.1 s.2 = 1) else q.c,if x = 102 then decide (zdz 1 s.1 s.2 = 1) else q.f,if x = 111 then numN s.1 s.2 else q.o,if x = 109 then numN s.1 s.2 else q.m,if x = 119 then numN s.1 s.2 else q.w,
   if x = 103 then rtS' 255 s.1 s.2 else q.g,if x = 107 then rtS' 255 s.1 s.2 else q.mb,if x = 110 then numN s.1 s.2 else q.n,if x = 98 then zbf (rtS' B s.1 s.2) else q.b⟩
def rdL (B : Int) : List UInt8 → List UInt8 × Int → Rq → Rq × (List UInt8 × Int)
 | [],s,q => (q,s)
 | x :: r,s,q => rdL B r (nxB B (x.toNat : Int) s) (tkR B (x.toNat : Int) s q)
def sq0 (b : List UInt8) : List UInt8 × Int := (zfj 1 b 0,rfixE 1 b 0)
def kq (b : List UInt8) : Int := zdz 1 b 0 % 256
def zRk (k : Int) : Rq := ⟨k,[],0,0,false,false,0,0,0,[],[],0,zB⟩
def rdB (B : Int) (b : List UInt8) : Rq × (List UInt8 × Int) := rdL B (zcr (kq b)) (sq0 b) (zRk (kq b))
def rdR (b : List UInt8) : Rq := (rdB 8192 b).1
def rdS (b : List UInt8) : List UInt8 × Int := (rdB 8192 b).2
def chkR (q : Rq) : Int := chkQ q.k q.t q.i q.p q.c q.f q.o q.m q.w q.g q.mb q.n q.b.b q.b.c q.b.p q.b.e q.b.s q.b.rs
def layR (q : Rq) : List UInt8 := layQ q.k q.t q.i q.p q.c q.f q.o q.m q.w q.g q.mb q.n q.b.b q.b.c q.b.p q.b.e q.b.s q.b.rs
def putR (q : Rq) : List UInt8 := putQ q.k q.t q.i q.p q.c q.f q.o q.m q.w q.g q.mb q.n q.b.b q.b.c q.b.p q.b.e q.b.s q.b.rs
def fitR (q : Rq) : Prop := (0 ≤ q.k ∧ q.k < 256) ∧ lenQ q.t q.g q.mb ∧ intQ q.i q.p q.o q.m q.w q.n ∧ q.b.rs.length ≤ 40
theorem kq_rng (b : List UInt8) : 0 ≤ kq b ∧ kq b < 256 := by unfold kq; omega
theorem rdL_append (B : Int) : ∀ (l m : List UInt8) (s : List UInt8 × Int) (q : Rq),rdL B (l ++ m) s q = rdL B m (rdL B l s q).2 (rdL B l s q).1
 | [],_,_,_ => rfl
 | x :: r,m,s,q => rdL_append B r m (nxB B (x.toNat : Int) s) (tkR B (x.toNat : Int) s q)
theorem rdL_take (B : Int) (l : List UInt8) (s : List UInt8 × Int) (q : Rq) {j : Nat} (h : j < l.length) : rdL B (l.take (j + 1)) s q = (tkR B (l[j].toNat : Int) (rdL B (l.take j) s q).2 (rdL B (l.take j) s q).1,nxB B (l[j].toNat : Int) (rdL B (l.take j) s q).2) := by
 rw [List.take_succ_eq_append_getElem h,rdL_append]; rfl
def setR (x : Int) (q q0 : Rq) : Rq :=
 ⟨q0.k,if x = 116 then q.t else q0.t,if x = 105 then q.i else q0.i,if x = 112 then q.p else q0.p,if x = 99 then q.c else q0.c,if x = 102 then q.f else q0.f,if x = 111 then q.o else q0.o,if x = 109 then q.m else q0.m,if x = 119 then q.w else q0.w,if x = 103 then q.g else q0.g,if x = 107 then q.mb else q0.mb,if x = 110 then q.n else q0.n,if x = 98 then q.b else q0.b⟩
def setL : List UInt8 → Rq → Rq → Rq
 | [],_,q0 => q0
 | x :: r,q,q0 => setL r q (setR (x.toNat : Int) q q0)
def pcR (q : Rq) (x : UInt8) : List UInt8 := zcs (x.toNat : Int) q.t q.i q.p q.c q.f q.o q.m q.w q.g q.mb q.n q.b.b q.b.c q.b.p q.b.e q.b.s q.b.rs
def okX (B : Int) (q : Rq) (x : UInt8) : Prop := ∀ (r : List UInt8) (q0 : Rq),nxB B (x.toNat : Int) (pcR q x ++ r,0) = (r,0) ∧ tkR B (x.toNat : Int) (pcR q x ++ r,0) q0 = setR (x.toNat : Int) q q0
theorem rdL_put (B : Int) (q : Rq) : ∀ (l : List UInt8) (q0 : Rq) (r : List UInt8),(∀ x ∈ l,okX B q x) → rdL B l (l.flatMap (pcR q) ++ r,0) q0 = (setL l q q0,(r,0))
 | [],_,_,_ => rfl
 | x :: l,q0,r,h => by
   have h1 := h x (List.mem_cons_self ..) (l.flatMap (pcR q) ++ r) q0
   rw [List.flatMap_cons,List.append_assoc]
   show rdL B l (nxB B (x.toNat : Int) _) (tkR B (x.toNat : Int) _ q0) = _
   rw [h1.1,h1.2]
   exact rdL_put B q l _ r fun y hy => h y (List.mem_cons_of_mem _ hy)
theorem ok_text (B : Int) (q : Rq) (x : UInt8) (s : List UInt8) (hs : s.length ≤ 255) (hp : pcR q x = zbc s) (hx : (x.toNat : Int) = 116 ∨ (x.toNat : Int) = 103 ∨ (x.toNat : Int) = 107) (r : List UInt8) : nxB B (x.toNat : Int) (pcR q x ++ r,0) = (r,0) ∧ rtS' 255 (pcR q x ++ r) 0 = s := by
 obtain ⟨t1,t2,t3⟩ := text_put 255 s r (by omega) (by omega)
 unfold nxB
 rw [if_pos hx,hp]
 simp only
 rw [t1,t2,t3]; exact ⟨rfl,rfl⟩
theorem ok_num (B : Int) (q : Rq) (x : UInt8) (v : Int) (hv : okI v) (hp : pcR q x = pq v) (hx : ¬ ((x.toNat : Int) = 116 ∨ (x.toNat : Int) = 103 ∨ (x.toNat : Int) = 107) ∧ ¬ ((x.toNat : Int) = 99 ∨ (x.toNat : Int) = 102) ∧ ¬ (x.toNat : Int) = 98) (r : List UInt8) : nxB B (x.toNat : Int) (pcR q x ++ r,0) = (r,0) ∧ numN (pcR q x ++ r) 0 = v := by
 obtain ⟨t1,t2,t3⟩ := num_put v hv.1 hv.2 r
 unfold nxB
 rw [if_neg hx.1,if_neg hx.2.1,if_neg hx.2.2,hp]
 unfold pq
 simp only
 rw [t1,t2,t3]; exact ⟨rfl,rfl⟩
theorem ok_bit (B : Int) (q : Rq) (x : UInt8) (v : Bool) (hp : pcR q x = [UInt8.ofNat (bitN v).toNat]) (hx : ¬ ((x.toNat : Int) = 116 ∨ (x.toNat : Int) = 103 ∨ (x.toNat : Int) = 107) ∧ ((x.toNat : Int) = 99 ∨ (x.toNat : Int) = 102)) (r : List UInt8) : nxB B (x.toNat : Int) (pcR q x ++ r,0) = (r,0) ∧ decide (zdz 1 (pcR q x ++ r) 0 = 1) = v := by
 obtain ⟨t1,t2,t3⟩ := fix1_cons (UInt8.ofNat (bitN v).toNat) r
 unfold nxB
 rw [if_neg hx.1,if_pos hx.2,hp]
 simp only [List.singleton_append,t1,t2,t3]
 exact ⟨trivial,by cases v <;> decide⟩
theorem ok_batch (B : Int) (hB : 8192 ≤ B) (q : Rq) (h : bE q.b = 0) (r : List UInt8) : nxB B (((98 : UInt8).toNat : Nat) : Int) (pcR q 98 ++ r,0) = (r,0) ∧ zbf (rtS' B (pcR q 98 ++ r) 0) = q.b := by
 have hl := bB_length h
 obtain ⟨t1,t2,t3⟩ := text_put B (bB q.b) r (by omega) (by omega)
 have hp : pcR q 98 = zbc (bB q.b) := rfl
 unfold nxB
 rw [if_neg (by decide),if_neg (by decide),if_pos (by decide),hp]
 simp only
 rw [t1,t2,t3]
 exact ⟨rfl,by unfold zbf; rw [bget_put h]; rfl⟩
theorem ok_let (B : Int) (hB : 8192 ≤ B) (q : Rq) (hl : ¬ zfk q.t q.g q.mb) (hi : intQ q.i q.p q.o q.m q.w q.n) (x : UInt8) (hx : (x = 116 ∨ x = 103 ∨ x = 107 ∨ x = 99 ∨ x = 102 ∨ x = 105 ∨ x = 112 ∨ x = 111 ∨ x = 109 ∨ x = 119 ∨ x = 110) ∨ (x = 98 ∧ bE q.b = 0)) : okX B q x := by
 intro r q0
 obtain ⟨i1,i2,i3,i4,i5,i6⟩ := hi
 unfold zfk at hl
 rcases hx with (rfl | rfl | rfl | rfl | rfl | rfl | rfl | rfl | rfl | rfl | rfl) | ⟨rfl,hb⟩
 · have h := ok_text B q 116 q.t (by omega) rfl (by decide) r
   exact ⟨h.1,by simp only [tkR,setR,h.2]; rfl⟩
 · have h := ok_text B q 103 q.g (by omega) rfl (by decide) r
   exact ⟨h.1,by simp only [tkR,setR,h.2]; rfl⟩
 · have h := ok_text B q 107 q.mb (by omega) rfl (by decide) r
   exact ⟨h.1,by simp only [tkR,setR,h.2]; rfl⟩
 · have h := ok_bit B q 99 q.c rfl (by decide) r
   exact ⟨h.1,by simp only [tkR,setR,h.2]; rfl⟩
 · have h := ok_bit B q 102 q.f rfl (by decide) r
   exact ⟨h.1,by simp only [tkR,setR,h.2]; rfl⟩
 · have h := ok_num B q 105 q.i i1 rfl (by decide) r
   exact ⟨h.1,by simp only [tkR,setR,h.2]; rfl⟩
 · have h := ok_num B q 112 q.p i2 rfl (by decide) r
   exact ⟨h.1,by simp only [tkR,setR,h.2]; rfl⟩
 · have h := ok_num B q 111 q.o i3 rfl (by decide) r
   exact ⟨h.1,by simp only [tkR,setR,h.2]; rfl⟩
 · have h := ok_num B q 109 q.m i4 rfl (by decide) r
   exact ⟨h.1,by simp only [tkR,setR,h.2]; rfl⟩
 · have h := ok_num B q 119 q.w i5 rfl (by decide) r
   exact ⟨h.1,by simp only [tkR,setR,h.2]; rfl⟩
 · have h := ok_num B q 110 q.n i6 rfl (by decide) r
   exact ⟨h.1,by simp only [tkR,setR,h.2]; rfl⟩
 · have h := ok_batch B hB q hb r
   exact ⟨h.1,by simp only [tkR,setR,h.2]; rfl⟩
theorem sq0_put (k : Int) (hk : 0 ≤ k ∧ k < 256) (r : List UInt8) : sq0 (UInt8.ofNat k.toNat :: r) = (r,0) ∧ kq (UInt8.ofNat k.toNat :: r) = k := by
 obtain ⟨h1,h2,h3⟩ := fix1_cons (UInt8.ofNat k.toNat) r
 unfold sq0 kq
 rw [h1,h2,h3]
 have : (UInt8.ofNat k.toNat).toNat = k.toNat := by rw [UInt8.toNat_ofNat']; exact Nat.mod_eq_of_lt (by omega)
 rw [this]
 exact ⟨rfl,by omega⟩
theorem eqQ_eq {k : Int} {t : List UInt8} {i p : Int} {c f : Bool} {o m w : Int} {g mb : List UInt8} {n k' : Int} {t' : List UInt8} {i' p' : Int} {c' f' : Bool} {o' m' w' : Int} {g' mb' : List UInt8} {n' : Int} {B : Bool}
   (h : eqQ k t i p c f o m w g mb n k' t' i' p' c' f' o' m' w' g' mb' n' B = true) : (k = k' ∧ t = t' ∧ i = i' ∧ p = p' ∧ c = c' ∧ f = f' ∧ o = o' ∧ m = m' ∧ w = w' ∧ g = g' ∧ mb = mb' ∧ n = n') ∧ B = true := by
 unfold eqQ at h
 rw [Bool.and_eq_true,decide_eq_true_iff] at h; exact h
theorem bsame4_eq {b c p e s : Int} {rs : List Rec} {b' c' p' e' s' : Int} {qs : List Rec} (h : zcl b c p e s rs b' c' p' e' s' qs = true) : b = b' ∧ c = c' ∧ p = p' ∧ e = e' ∧ s = s' ∧ rs = qs := by
 unfold zcl at h; exact of_decide_eq_true h
theorem set_all (q : Rq) (hk : 0 ≤ q.k ∧ q.k ≤ 11) (hs : zbv q.k q.t q.i q.p q.c q.f q.o q.m q.w q.g q.mb q.n q.b.b q.b.c q.b.p q.b.e q.b.s q.b.rs = true) : setL (zcr q.k) q (zRk q.k) = q := by
 obtain ⟨k,t,i,p,c,f,o,m,w,g,mb,n,b1,b2,b3,b4,b5,rs⟩ := q
 simp only at hk hs
 rcases knd_le k hk with rfl | rfl | rfl | rfl | rfl | rfl | rfl | rfl | rfl | rfl | rfl | rfl
 all_goals
   unfold zbv at hs
   simp only [Int.reduceEq,or_self,or_false,false_or,or_true,true_or,if_true,if_false] at hs
   obtain ⟨⟨-,e1,e2,e3,e4,e5,e6,e7,e8,e9,e10,e11⟩,e12⟩ := eqQ_eq hs
   obtain ⟨c1,c2,c3,c4,c5,c6⟩ := bsame4_eq e12
   try subst e1
   try subst e2
   try subst e3
   try subst e4
   try subst e5
   try subst e6
   try subst e7
   try subst e8
   try subst e9
   try subst e10
   try subst e11
   try subst c1
   try subst c2
   try subst c3
   try subst c4
   try subst c5
   try subst c6
   rfl
theorem rd_lay (B : Int) (hB : 8192 ≤ B) (q : Rq) (h : chkR q = 0) (hf : fitR q) (r : List UInt8) : rdB B (layR q ++ r) = (q,(r,0)) := by
 obtain ⟨hk,hso,hlong,hb⟩ := chkQ_ok _ h
 obtain ⟨⟨hk0,hk1⟩,_,hi,_⟩ := hf
 have hL : layR q ++ r = UInt8.ofNat q.k.toNat :: ((zcr q.k).flatMap (pcR q) ++ r) := rfl
 rw [hL]
 obtain ⟨s0,k0⟩ := sq0_put q.k ⟨hk0,hk1⟩ ((zcr q.k).flatMap (pcR q) ++ r)
 unfold rdB
 rw [k0,s0,rdL_put,set_all q ⟨hk0,hk⟩ hso]
 intro x hx
 refine ok_let B hB q hlong hi x ?_
 rcases uses_let q.k x hx with h1 | ⟨h1,h2⟩
 · exact .inl h1
 · obtain ⟨h3,h4⟩ := hb h2
   exact .inr ⟨h1,by unfold bE; rw [h4]; exact h3⟩
theorem rd_lay22 (q : Rq) (h : chkR q = 0) (hf : fitR q) (r : List UInt8) : rdR (layR q ++ r) = q ∧ rdS (layR q ++ r) = (r,0) := by
 unfold rdR rdS
 rw [rd_lay 8192 (by decide) q h hf r]; exact ⟨rfl,rfl⟩
end Go.Proofs.Ytmedjkjoannbmaa
namespace Go.Proofs.Ytmedjkjoannbmaa
open Ax
def zel : AV → List UInt8
 | .str s => s
 | _ => []
theorem zbj (ks : List (List UInt8)) : (ks.map AV.str).map zel = ks := by
 rw [List.map_map]; exact (List.map_congr_left (fun _ _ => rfl)).trans (List.map_id ks)
theorem zct : ∀ (ks : List (List UInt8)) (i : Nat) (h : i < ks.length),slot (ks.map AV.str) i = .str ks[i]
 | _ :: _,0,_ => rfl
 | _ :: r,i + 1,h => zct r i (by simpa using h)
def lngA : List (List UInt8) → Int → Int
 | [],_ => -1
 | s :: r,i => if 255 < s.length then i else lngA r (i + 1)
def lngB (ks : List (List UInt8)) : Bool := ks.any fun s => decide (255 < s.length)
theorem lngA_cons (s : List UInt8) (r : List (List UInt8)) (i : Int) : lngA (s :: r) i = if 255 < s.length then i else lngA r (i + 1) := rfl
theorem lngA_nil (i : Int) : lngA [] i = -1 := rfl
theorem zdk (ks : List (List UInt8)) (f : Bool) : coe ty 40 (.sg 1 (ks.map AV.str) f) = .sg 1 (ks.map AV.str) f := by cases ks <;> rfl
theorem lngA_neg : ∀ (ks : List (List UInt8)) (i : Int),0 ≤ i → (decide (0 ≤ lngA ks i) = lngB ks)
 | [],i,_ => by simp [lngA,lngB]
 | s :: r,i,h => by
   have ih := lngA_neg r (i + 1) (by omega)
   unfold lngA
   by_cases hs : 255 < s.length
   · rw [if_pos hs]; simp [lngB,hs,h]
   · rw [if_neg hs,ih]; simp [lngB,hs]
def lng1S : zai
 | [.str s],[] => ⟨True,.w (.bool (decide ((255 : Int) < s.length))),[]⟩
 | _,_ => zba
def idxfS : zai
 | [.sg 1 xs f,.fn 74 []],[] => ⟨xs.length ≤ 9223372036854775807 ∧ ∃ ks : List (List UInt8),xs = ks.map AV.str,.w (.int .i64 (lngA (xs.map zel) 0)),[]⟩
 | _,_ => zba
def ctnfS : zai
 | [.sg 1 xs f,.fn 74 []],[] => ⟨xs.length ≤ 9223372036854775807 ∧ ∃ ks : List (List UInt8),xs = ks.map AV.str,.w (.bool (lngB (xs.map zel))),[]⟩
 | _,_ => zba
section
set_option maxRecDepth 100000
theorem lng1_sound : zaq Try.prog 74 lng1S := by
 refine zak (S := noS) (T := ty) zas ty_ok zby Try.func74 (c := Try.f74.body.getD .skip) (by kernel_rfl) (by kernel_rfl) (fun xs pins hp _ => ?_)
 unfold lng1S at hp ⊢
 split at hp
 · rename_i s _
   refine ⟨by simp,?_⟩
   unfold Try.f74
   simp only [go_sem,zaa,Nat.reduceAdd,Nat.reduceSub,Nat.reduceMul,Int.reduceToNat,reduceCtorEq,↓reduceIte,Int.reducePow,Nat.reducePow,Int.reduceMod,Nat.reduceLeDiff,Int.reduceLE,Int.reduceNe,Int.reduceEq,Nat.reduceEqDiff,Nat.reduceLT,Nat.reduceBEq,ty,noS]
 · exact hp.elim
end
def Sidxf22 (f : FuncId) : Option zai :=
 match f with
 | 74 => some lng1S
 | _ => none
theorem Sidxf22_ok : Fns Try.prog Sidxf22 := by
 intro f s h
 unfold Sidxf22 at h
 split at h
 · injection h with h; subst h; exact ⟨⟨_,Try.func74,by kernel_rfl,by kernel_rfl⟩,lng1_sound⟩
 · cases h
section
set_option maxRecDepth 100000
set_option maxHeartbeats 1000000 in
theorem idxf_sound : zaq Try.prog 90 idxfS := by
 refine zak (S := Sidxf22) (T := ty) zas ty_ok Sidxf22_ok Try.func90 (c := Try.f90.body.getD .skip) (by kernel_rfl) (by kernel_rfl) (fun xs pins hp _ => ?_)
 unfold idxfS at hp ⊢
 split at hp
 · rename_i xs f _
   obtain ⟨hL,ks,rfl⟩ := hp
   rw [List.length_map] at hL
   rw [zbj]
   refine ⟨by simp,?_⟩
   have hlp : (ks.map AV.str).length = ks.length := by simp
   unfold Try.f90
   simp only [go_sem,zaa,Nat.reduceAdd,Nat.reduceSub,Nat.reduceMul,Int.reduceToNat,reduceCtorEq,↓reduceIte,Int.reducePow,Nat.reducePow,Int.reduceMod,Nat.reduceLeDiff,Int.reduceLE,Int.reduceNe,Int.reduceEq,Nat.reduceEqDiff,Nat.reduceLT,Nat.reduceBEq,ty,Sidxf22,hlp]
   refine zbr ⟨fun m σ => ∃ i : Nat,m = ks.length - i ∧ i ≤ ks.length ∧ lngA (ks.drop i) i = lngA ks 0 ∧
       σ = ⟨[.sg 1 (ks.map AV.str) f,.fn 74 [],.junk,.junk,.junk,.junk,.junk,.w (.int .i64 ks.length),.w (.int .i64 i),.junk,.junk,.junk,.junk,.junk,.junk,.junk,.junk,.junk,.junk],[],4⟩,?_,?_⟩
   · refine ⟨_,_,zad [0,1,2,3] rfl rfl rfl ?_ ?_,0,rfl,by omega,rfl,rfl⟩
     · simp only [ssT,zae,zaf,setSlot,gOf,AV.ren,renL,Blk.ren,Ax.look,Ax.put,reduceCtorEq,↓reduceIte,Nat.reduceEqDiff,Nat.reduceLT,Nat.reduceAdd,List.length_append,List.length_cons,List.length_nil,Option.some.injEq]; simp
     · simp only [ssT,zae,zaf,setSlot,gOf,AV.ren,renL,Blk.ren,Ax.look,Ax.put,reduceCtorEq,↓reduceIte,Nat.reduceEqDiff,Nat.reduceLT,Nat.reduceAdd,List.length_append,List.length_cons,List.length_nil,Option.some.injEq]
   · rintro m σ ⟨i,rfl,hi,hall,rfl⟩
     by_cases hil : i < ks.length
     · have d1 : decide ((i : Int) < ks.length) = true := decide_eq_true (by omega)
       have e1 : ((i : Int) + 1 + 9223372036854775808) % 18446744073709551616 - 9223372036854775808 = ((i + 1 : Nat) : Int) := by omega
       have hs := zct ks i hil
       rw [List.drop_eq_getElem_cons hil] at hall
       obtain ⟨s,hS⟩ : ∃ s,ks[i] = s := ⟨_,rfl⟩
       rw [hS] at hs hall
       rw [lngA_cons] at hall
       by_cases hg : 255 < s.length
       · have d2 : decide ((255 : Int) < s.length) = true := decide_eq_true (by omega)
         rw [if_pos hg] at hall
         simp only [go_sem,zaa,Nat.reduceAdd,Nat.reduceSub,Nat.reduceMul,Int.reduceToNat,reduceCtorEq,↓reduceIte,Int.reducePow,Nat.reducePow,Int.reduceMod,Nat.reduceLeDiff,Int.reduceLE,Int.reduceNe,Int.reduceEq,Nat.reduceEqDiff,Nat.reduceLT,Nat.reduceBEq,ty,Sidxf22,lng1S,hlp,d1,hs,e1,d2,Int.toNat_natCast,← hall]
         all_goals try omega
       · have d2 : decide ((255 : Int) < s.length) = false := decide_eq_false (by omega)
         rw [if_neg hg] at hall
         simp only [go_sem,zaa,Nat.reduceAdd,Nat.reduceSub,Nat.reduceMul,Int.reduceToNat,reduceCtorEq,↓reduceIte,Int.reducePow,Nat.reducePow,Int.reduceMod,Nat.reduceLeDiff,Int.reduceLE,Int.reduceNe,Int.reduceEq,Nat.reduceEqDiff,Nat.reduceLT,Nat.reduceBEq,ty,Sidxf22,lng1S,hlp,d1,hs,e1,d2,Int.toNat_natCast]
         repeat (refine And.intro (by omega) ?_)
         refine ⟨ks.length - (i + 1),_,by omega,zad [0,1,2,3] rfl rfl rfl ?_ ?_,i + 1,rfl,by omega,hall,rfl⟩
         · simp only [ssT,zae,zaf,setSlot,gOf,AV.ren,renL,Blk.ren,Ax.look,Ax.put,reduceCtorEq,↓reduceIte,Nat.reduceEqDiff,Nat.reduceLT,Nat.reduceAdd,List.length_append,List.length_cons,List.length_nil,Option.some.injEq]
         · simp only [ssT,zae,zaf,setSlot,gOf,AV.ren,renL,Blk.ren,Ax.look,Ax.put,reduceCtorEq,↓reduceIte,Nat.reduceEqDiff,Nat.reduceLT,Nat.reduceAdd,List.length_append,List.length_cons,List.length_nil,Option.some.injEq]
     · have d1 : decide ((i : Int) < ks.length) = false := decide_eq_false (by omega)
       rw [List.drop_eq_nil_of_le (by omega)] at hall
       rw [lngA_nil] at hall
       simp only [go_sem,zaa,Nat.reduceAdd,Nat.reduceSub,Nat.reduceMul,Int.reduceToNat,reduceCtorEq,↓reduceIte,Int.reducePow,Nat.reducePow,Int.reduceMod,Nat.reduceLeDiff,Int.reduceLE,Int.reduceNe,Int.reduceEq,Nat.reduceEqDiff,Nat.reduceLT,Nat.reduceBEq,ty,Sidxf22,hlp,d1,← hall]
 · exact hp.elim
end
def Sctnf22 (f : FuncId) : Option zai :=
 match f with
 | 90 => some idxfS
 | _ => none
theorem Sctnf22_ok : Fns Try.prog Sctnf22 := by
 intro f s h
 unfold Sctnf22 at h
 split at h
 · injection h with h; subst h; exact ⟨⟨_,Try.func90,by kernel_rfl,by kernel_rfl⟩,idxf_sound⟩
 · cases h
section
set_option maxRecDepth 100000
theorem ctnf_sound : zaq Try.prog 73 ctnfS := by
 refine zak (S := Sctnf22) (T := ty) zas ty_ok Sctnf22_ok Try.func73 (c := Try.f73.body.getD .skip) (by kernel_rfl) (by kernel_rfl) (fun xs pins hp _ => ?_)
 unfold ctnfS at hp ⊢
 split at hp
 · rename_i xs f _
   obtain ⟨hL,ks,rfl⟩ := hp
   have hco := zdk ks f
   have hex : ∃ qs : List (List UInt8),ks.map AV.str = qs.map AV.str := ⟨ks,rfl⟩
   rw [← lngA_neg _ 0 (by omega)]
   refine ⟨by simp,?_⟩
   unfold Try.f73
   simp only [go_sem,zaa,Nat.reduceAdd,Nat.reduceSub,Nat.reduceMul,Int.reduceToNat,reduceCtorEq,↓reduceIte,Int.reducePow,Nat.reducePow,Int.reduceMod,Nat.reduceLeDiff,Int.reduceLE,Int.reduceNe,Int.reduceEq,Nat.reduceEqDiff,Nat.reduceLT,Nat.reduceBEq,ty,Sctnf22,idxfS,hL,hex,hco]
 · exact hp.elim
end
end Go.Proofs.Ytmedjkjoannbmaa
namespace Go.Proofs.Ytmedjkjoannbmaa
open Ax
def chkA (k : Int) (nb np : Nat) (ns : List (List UInt8)) : Int :=
 if 11 < k ∧ k ≠ 255 then 22 else if 64 < nb ∨ 64 < np ∨ 64 < ns.length then 5 else if lngB ns = true then 5 else 0
theorem chkA_kind (k : Int) : (decide (11 < k) = true ∧ decide (k = 255) = false ∧ (11 < k ∧ k ≠ 255)) ∨ (decide (11 < k) = false ∧ ¬ (11 < k ∧ k ≠ 255)) ∨ (decide (11 < k) = true ∧ decide (k = 255) = true ∧ ¬ (11 < k ∧ k ≠ 255)) := by
 by_cases h1 : 11 < k
 · by_cases h2 : k = 255
   · exact .inr (.inr ⟨decide_eq_true h1,decide_eq_true h2,fun h => h.2 h2⟩)
   · exact .inl ⟨decide_eq_true h1,decide_eq_false h2,h1,h2⟩
 · exact .inr (.inl ⟨decide_eq_false h1,fun h => h1 h.1⟩)
theorem chkA_len (a b c : Nat) : (decide ((64 : Int) < a) = true ∧ (64 < a ∨ 64 < b ∨ 64 < c)) ∨ (decide ((64 : Int) < a) = false ∧ decide ((64 : Int) < b) = true ∧ (64 < a ∨ 64 < b ∨ 64 < c)) ∨
   (decide ((64 : Int) < a) = false ∧ decide ((64 : Int) < b) = false ∧ decide ((64 : Int) < c) = true ∧ (64 < a ∨ 64 < b ∨ 64 < c)) ∨
   (decide ((64 : Int) < a) = false ∧ decide ((64 : Int) < b) = false ∧ decide ((64 : Int) < c) = false ∧ ¬ (64 < a ∨ 64 < b ∨ 64 < c)) := by
 by_cases h1 : 64 < a
 · exact .inl ⟨decide_eq_true (by omega),.inl h1⟩
 · by_cases h2 : 64 < b
   · exact .inr (.inl ⟨decide_eq_false (by omega),decide_eq_true (by omega),.inr (.inl h2)⟩)
   · by_cases h3 : 64 < c
     · exact .inr (.inr (.inl ⟨decide_eq_false (by omega),decide_eq_false (by omega),decide_eq_true (by omega),.inr (.inr h3)⟩))
     · exact .inr (.inr (.inr ⟨decide_eq_false (by omega),decide_eq_false (by omega),decide_eq_false (by omega),by omega⟩))
def chkAS : zai
 | [.agg [.w (.int .u8 k),.w (.int .i64 er),.w (.int .i64 o),.w (.int .i64 x),.w (.bool d),.w (.int .i64 g),.sg 6 bs f1,.si ps f2,.sg 1 ns f3]],[] => ⟨(0 ≤ k ∧ k < 256) ∧ bs.length ≤ 9223372036854775807 ∧ ps.length ≤ 9223372036854775807 ∧ ns.length ≤ 9223372036854775807 ∧ ∃ ks : List (List UInt8),ns = ks.map AV.str,.w (.int .i64 (chkA k bs.length ps.length (ns.map zel))),[]⟩
 | _,_ => zba
def SchkA (f : FuncId) : Option zai :=
 match f with
 | 73 => some ctnfS
 | _ => none
theorem SchkA_ok : Fns Try.prog SchkA := by
 intro f s h
 unfold SchkA at h
 split at h
 · injection h with h; subst h; exact ⟨⟨_,Try.func73,by kernel_rfl,by kernel_rfl⟩,ctnf_sound⟩
 · cases h
section
set_option maxRecDepth 100000
set_option maxHeartbeats 8000000 in
theorem chkA_sound : zaq Try.prog 36 chkAS := by
 refine zbo (S := SchkA) (T := ty) zas ty_ok SchkA_ok Try.func36 (c := Try.f36.body.getD .skip) (by kernel_rfl) (by kernel_rfl) (fun xs pins hp _ => ?_)
 unfold chkAS at hp ⊢
 split at hp
 · rename_i k er o x d g bs f1 ps f2 ns f3 _
   obtain ⟨⟨hk0,hk1⟩,hb,hpl,hn,ks,rfl⟩ := hp
   rw [zbj]
   have hlk : (ks.map AV.str).length = ks.length := by simp
   have hn' : ks.length ≤ 9223372036854775807 := by rw [List.length_map] at hn; exact hn
   have hco := zdk ks f3
   have hmu := zbj ks
   have hex : ∃ qs : List (List UInt8),ks.map AV.str = qs.map AV.str := ⟨ks,rfl⟩
   refine ⟨by simp,?_⟩
   unfold Try.f36
   obtain ⟨V,hV⟩ : ∃ v,chkA k bs.length ps.length ks = v := ⟨_,rfl⟩
   have hv1 : (11 < k ∧ k ≠ 255) → V = 22 := fun h => by rw [← hV]; exact if_pos h
   have hv2 : ¬ (11 < k ∧ k ≠ 255) → (64 < bs.length ∨ 64 < ps.length ∨ 64 < ks.length) → V = 5 := fun h h2 => by rw [← hV]; unfold chkA; rw [if_neg h,if_pos h2]
   have hv3 : ¬ (11 < k ∧ k ≠ 255) → ¬ (64 < bs.length ∨ 64 < ps.length ∨ 64 < ks.length) → V = if lngB ks = true then 5 else 0 := fun h h2 => by rw [← hV]; unfold chkA; rw [if_neg h,if_neg h2]
   rw [hV]
   rcases chkA_kind k with K | K | K
   · have hv := hv1 K.2.2
     simp only [go_sem,zaa,Nat.reduceAdd,Nat.reduceSub,Nat.reduceMul,Int.reduceToNat,reduceCtorEq,↓reduceIte,Int.reducePow,Nat.reducePow,Int.reduceMod,Nat.reduceLeDiff,Int.reduceLE,Int.reduceNe,Int.reduceEq,Nat.reduceEqDiff,Nat.reduceLT,Nat.reduceBEq,ty,SchkA,ctnfS,K.1,K.2.1,hv]
     refine ⟨_,Weak.refl _,?_⟩
     simp only [go_sem,zaa,Nat.reduceAdd,Nat.reduceSub,Nat.reduceMul,Int.reduceToNat,reduceCtorEq,↓reduceIte,Int.reducePow,Nat.reducePow,Int.reduceMod,Nat.reduceLeDiff,Int.reduceLE,Int.reduceNe,Int.reduceEq,Nat.reduceEqDiff,Nat.reduceLT,Nat.reduceBEq,ty,hv]
   all_goals
     rcases chkA_len bs.length ps.length ks.length with D | D | D | D
     rotate_right 1
     · cases hB : lngB ks with
       | true =>
         have hv := hv3 (by first | exact K.2.2 | exact K.2) D.2.2.2
         rw [if_pos hB] at hv
         simp only [go_sem,zaa,Nat.reduceAdd,Nat.reduceSub,Nat.reduceMul,Int.reduceToNat,reduceCtorEq,↓reduceIte,Int.reducePow,Nat.reducePow,Int.reduceMod,Nat.reduceLeDiff,Int.reduceLE,Int.reduceNe,Int.reduceEq,Nat.reduceEqDiff,Nat.reduceLT,Nat.reduceBEq,ty,SchkA,ctnfS,K,D,hlk,hco,hmu,hex,hn,hn',hB,hv]
         try (refine ⟨_,Weak.refl _,?_⟩; simp only [go_sem,zaa,Nat.reduceAdd,Nat.reduceSub,Nat.reduceMul,Int.reduceToNat,reduceCtorEq,↓reduceIte,Int.reducePow,Nat.reducePow,Int.reduceMod,Nat.reduceLeDiff,Int.reduceLE,Int.reduceNe,Int.reduceEq,Nat.reduceEqDiff,Nat.reduceLT,Nat.reduceBEq,ty,hv])
       | false =>
         have hv := hv3 (by first | exact K.2.2 | exact K.2) D.2.2.2
         rw [if_neg (by rw [hB]; decide)] at hv
         simp only [go_sem,zaa,Nat.reduceAdd,Nat.reduceSub,Nat.reduceMul,Int.reduceToNat,reduceCtorEq,↓reduceIte,Int.reducePow,Nat.reducePow,Int.reduceMod,Nat.reduceLeDiff,Int.reduceLE,Int.reduceNe,Int.reduceEq,Nat.reduceEqDiff,Nat.reduceLT,Nat.reduceBEq,ty,SchkA,ctnfS,K,D,hlk,hco,hmu,hex,hn,hn',hB,hv]
         try (refine ⟨_,Weak.refl _,?_⟩; simp only [go_sem,zaa,Nat.reduceAdd,Nat.reduceSub,Nat.reduceMul,Int.reduceToNat,reduceCtorEq,↓reduceIte,Int.reducePow,Nat.reducePow,Int.reduceMod,Nat.reduceLeDiff,Int.reduceLE,Int.reduceNe,Int.reduceEq,Nat.reduceEqDiff,Nat.reduceLT,Nat.reduceBEq,ty,hv])
     all_goals
       have hv := hv2 (by first | exact K.2.2 | exact K.2) (by first | exact D.2 | exact D.2.2 | exact D.2.2.2)
       simp only [go_sem,zaa,Nat.reduceAdd,Nat.reduceSub,Nat.reduceMul,Int.reduceToNat,reduceCtorEq,↓reduceIte,Int.reducePow,Nat.reducePow,Int.reduceMod,Nat.reduceLeDiff,Int.reduceLE,Int.reduceNe,Int.reduceEq,Nat.reduceEqDiff,Nat.reduceLT,Nat.reduceBEq,ty,SchkA,ctnfS,K,D,hlk,hv]
       try (refine ⟨_,Weak.refl _,?_⟩; simp only [go_sem,zaa,Nat.reduceAdd,Nat.reduceSub,Nat.reduceMul,Int.reduceToNat,reduceCtorEq,↓reduceIte,Int.reducePow,Nat.reducePow,Int.reduceMod,Nat.reduceLeDiff,Int.reduceLE,Int.reduceNe,Int.reduceEq,Nat.reduceEqDiff,Nat.reduceLT,Nat.reduceBEq,ty,hv])
 · exact hp.elim
end
end Go.Proofs.Ytmedjkjoannbmaa
namespace Go.Proofs.Ytmedjkjoannbmaa
open Ax
def bvp (p : Bat × Bool) : AV := bav p.1 p.2
def ubat : AV → Bat
 | .agg [.w (.int _ b),.w (.int _ c),.w (.int _ p),.w (.int _ e),.w (.int _ s),.sg 6 xs _] => ⟨b,c,p,e,s,xs.map rrec⟩
 | _ => zB
theorem ubat_bvp (p : Bat × Bool) : ubat (bvp p) = p.1 := by
 obtain ⟨⟨b,c,q,e,s,rs⟩,f⟩ := p
 unfold bvp bav ubat
 simp only [zah]
theorem zez (l : List (Bat × Bool)) : (l.map bvp).map ubat = l.map Prod.fst := by
 rw [List.map_map]; exact List.map_congr_left (fun p _ => ubat_bvp p)
theorem slot_bvp : ∀ (l : List (Bat × Bool)) (i : Nat) (h : i < l.length),slot (l.map bvp) i = bvp l[i]
 | _ :: _,0,_ => rfl
 | _ :: r,i + 1,h => by
   simp only [List.map_cons,slot,List.getElem_cons_succ]
   exact slot_bvp r i (by simpa using h)
def catB (l : List Bat) : List UInt8 := l.flatMap fun x => zbc (bB x)
def catP (l : List Int) : List UInt8 := l.flatMap pq
def catN (l : List (List UInt8)) : List UInt8 := l.flatMap zbc
def badB : List Bat → Int
 | [] => 0
 | x :: r => if bE x = 0 then badB r else bE x
def headA (k er o x : Int) (d : Bool) (g : Int) : List UInt8 := UInt8.ofNat k.toNat :: (pq er ++ (pq o ++ (pq x ++ (pq g ++ [UInt8.ofNat (bitN d).toNat]))))
def layA (k er o x : Int) (d : Bool) (g : Int) (bl : List Bat) (pl : List Int) (nl : List (List UInt8)) : List UInt8 :=
 headA k er o x d g ++ (pq (bl.length : Int) ++ (catB bl ++ (pq (pl.length : Int) ++ (catP pl ++ (pq (nl.length : Int) ++ catN nl)))))
def errA (k : Int) (bl : List Bat) (pl : List Int) (nl : List (List UInt8)) : Int := if chkA k bl.length pl.length nl = 0 then badB bl else chkA k bl.length pl.length nl
def putA (k er o x : Int) (d : Bool) (g : Int) (bl : List Bat) (pl : List Int) (nl : List (List UInt8)) : List UInt8 := if errA k bl pl nl = 0 then layA k er o x d g bl pl nl else []
theorem badB_none : ∀ (l : List Bat),(∀ x ∈ l,bE x = 0) → badB l = 0
 | [],_ => rfl
 | x :: r,h => by unfold badB; rw [if_pos (h x (by simp))]; exact badB_none r (fun y hy => h y (by simp [hy]))
theorem badB_at : ∀ (l : List Bat) (i : Nat) (hi : i < l.length),(∀ x ∈ l.take i,bE x = 0) → bE l[i] ≠ 0 → badB l = bE l[i]
 | x :: r,0,_,_,h => by unfold badB; exact if_neg h
 | x :: r,i + 1,hi,ha,h => by
   unfold badB; rw [if_pos (ha x (by simp))]
   exact badB_at r i (by simpa using hi) (fun y hy => ha y (by simp [hy])) h
theorem catB_snoc (l : List Bat) (i : Nat) (hi : i < l.length) : catB (l.take (i + 1)) = catB (l.take i) ++ zbc (bB l[i]) := by
 unfold catB; rw [List.take_succ_eq_append_getElem hi,List.flatMap_append]; simp
theorem catP_snoc (l : List Int) (i : Nat) (hi : i < l.length) : catP (l.take (i + 1)) = catP (l.take i) ++ pq l[i] := by
 unfold catP; rw [List.take_succ_eq_append_getElem hi,List.flatMap_append]; simp
theorem catN_snoc (l : List (List UInt8)) (i : Nat) (hi : i < l.length) : catN (l.take (i + 1)) = catN (l.take i) ++ zbc l[i] := by
 unfold catN; rw [List.take_succ_eq_append_getElem hi,List.flatMap_append]; simp
theorem catB_len (l : List Bat) : (catB l).length ≤ 8202 * l.length := by
 unfold catB
 induction l with
 | nil => simp
 | cons x r ih =>
   have h1 : (bB x).length ≤ 8192 := zdx x.b x.c x.p x.e x.s x.rs
   have h2 := zax (bB x) (by omega)
   rw [List.flatMap_cons,List.length_append,List.length_cons]; omega
theorem catP_len (l : List Int) (h : ∀ n ∈ l,okI n) : (catP l).length ≤ 10 * l.length := by
 unfold catP
 induction l with
 | nil => simp
 | cons x r ih =>
   have h1 := zbk x (h x (by simp))
   have h3 := ih (fun y hy => h y (by simp [hy]))
   rw [List.flatMap_cons,List.length_append,List.length_cons]; omega
theorem catN_len (l : List (List UInt8)) (h : ∀ s ∈ l,s.length ≤ 255) : (catN l).length ≤ 265 * l.length := by
 unfold catN
 induction l with
 | nil => simp
 | cons x r ih =>
   have h1 := zax x (by have := h x (by simp); omega)
   have h2 := h x (by simp)
   have h3 := ih (fun y hy => h y (by simp [hy]))
   rw [List.flatMap_cons,List.length_append,List.length_cons]; omega
theorem lngB_no {ks : List (List UInt8)} (h : lngB ks = false) : ∀ s ∈ ks,s.length ≤ 255 := by
 intro s hs
 unfold lngB at h
 rw [List.any_eq_false] at h
 have := h s hs
 simp only [decide_eq_true_eq] at this; omega
theorem chkA_ok {k : Int} {nb np : Nat} {ns : List (List UInt8)} (h : chkA k nb np ns = 0) : (k ≤ 11 ∨ k = 255) ∧ nb ≤ 64 ∧ np ≤ 64 ∧ ns.length ≤ 64 ∧ ∀ s ∈ ns,s.length ≤ 255 := by
 unfold chkA at h
 split at h
 · cases h
 · rename_i h1
   split at h
   · cases h
   · rename_i h2
     split at h
     · cases h
     · rename_i h3
       refine ⟨?_,by omega,by omega,by omega,lngB_no (by simpa using h3)⟩
       by_cases h4 : k = 255
       · exact .inr h4
       · left; by_cases h5 : 11 < k
         · exact (h1 ⟨h5,h4⟩).elim
         · omega
theorem headA_len (k er o x : Int) (d : Bool) (g : Int) (h1 : okI er) (h2 : okI o) (h3 : okI x) (h4 : okI g) : (headA k er o x d g).length ≤ 42 := by
 have l1 := zbk er h1
 have l2 := zbk o h2
 have l3 := zbk x h3
 have l4 := zbk g h4
 unfold headA
 simp only [List.length_cons,List.length_append,List.length_nil]; omega
end Go.Proofs.Ytmedjkjoannbmaa
namespace Go.Proofs.Ytmedjkjoannbmaa
open Ax
theorem zg_rng22 (v : Nat) (h : v < 18446744073709551616) : -9223372036854775808 ≤ zg (v : Int) ∧ zg (v : Int) ≤ 9223372036854775807 := by
 unfold zg; split <;> omega
theorem getM_rng22 : ∀ (l : List UInt8) (i u : Nat),u < 128 ^ i → i ≤ 10 → -9223372036854775808 ≤ (getM i u l).1 ∧ (getM i u l).1 ≤ 9223372036854775807
 | [],i,u,_,_ => by unfold getM; split <;> decide
 | c :: r,i,u,hu,hi => by
   unfold getM
   have hp : (128 : Nat) ^ (i + 1) = 128 * 128 ^ i := by rw [Nat.pow_succ,Nat.mul_comm]
   split
   · decide
   · rename_i h10
     split
     · refine getM_rng22 r (i + 1) _ ?_ (by omega)
       have h1 : c.toNat % 128 * 128 ^ i ≤ 127 * 128 ^ i := Nat.mul_le_mul_right _ (by omega)
       omega
     · rename_i hc
       split
       · decide
       · rename_i hb
         refine zg_rng22 _ ?_
         by_cases h9 : i = 9
         · subst h9
           have h1 : c.toNat * 128 ^ 9 ≤ 1 * 128 ^ 9 := Nat.mul_le_mul_right _ (by omega)
           have h2 : (128 : Nat) ^ 9 = 9223372036854775808 := by decide
           omega
         · have h1 : c.toNat * 128 ^ i ≤ 127 * 128 ^ i := Nat.mul_le_mul_right _ (by omega)
           have h2 : (128 : Nat) ^ (i + 1) ≤ 128 ^ 9 := Nat.pow_le_pow_right (by decide) (by omega)
           have h3 : (128 : Nat) ^ 9 = 9223372036854775808 := by decide
           omega
theorem numN_rng22 (b : List UInt8) (e : Int) : okI (numN b e) := by
 unfold okI numN; split
 · rw [getL_M]; exact getM_rng22 b 0 0 (by decide) (by decide)
 · decide
theorem okI_zero : okI 0 := by unfold okI; decide
theorem nxB_len (B x : Int) (s : List UInt8 × Int) : (nxB B x s).1.length ≤ s.1.length := by
 unfold nxB
 have h1 : ∀ m,(rtL m s.1 s.2).length ≤ s.1.length := fun m => zdi m s.1 s.2
 repeat' split
 · exact h1 255
 · exact zbp 1 s.1 s.2
 · exact h1 B
 · exact zan s.1 s.2
theorem bget0_recs (s : List UInt8) : (zbf s).rs.length ≤ 32 := by
 unfold zbf
 cases h : bget s with
 | none => simp
 | some x => exact (bheads (bget_some h).1 []).2.2.2.2.2.2.2.1
theorem fit_step (B x : Int) (s : List UInt8 × Int) (q : Rq) (hs : s.1.length ≤ 1000000) (h : fitR q) : fitR (tkR B x s q) := by
 obtain ⟨hk,⟨t1,t2,t3⟩,⟨i1,i2,i3,i4,i5,i6⟩,hr⟩ := h
 have hT := Nat.le_trans (tkS_len22 255 s.1 s.2) hs
 have hN := numN_rng22 s.1 s.2
 have cs : ∀ (P : Prop) [Decidable P] (a b : List UInt8),a.length ≤ 1000000 → b.length ≤ 1000000 → (if P then a else b).length ≤ 1000000 := by
   intro P _ a b h1 h2; split <;> assumption
 have ci : ∀ (P : Prop) [Decidable P] (a b : Int),okI a → okI b → okI (if P then a else b) := by
   intro P _ a b h1 h2; split <;> assumption
 refine ⟨hk,⟨cs _ _ _ hT t1,cs _ _ _ hT t2,cs _ _ _ hT t3⟩,⟨ci _ _ _ hN i1,ci _ _ _ hN i2,ci _ _ _ hN i3,ci _ _ _ hN i4,ci _ _ _ hN i5,ci _ _ _ hN i6⟩,?_⟩
 show (if x = 98 then zbf (rtS' B s.1 s.2) else q.b).rs.length ≤ 40
 split
 · exact Nat.le_trans (bget0_recs _) (by decide)
 · exact hr
theorem fit_all (B : Int) : ∀ (l : List UInt8) (s : List UInt8 × Int) (q : Rq),s.1.length ≤ 1000000 → fitR q → fitR (rdL B l s q).1 ∧ (rdL B l s q).2.1.length ≤ s.1.length
 | [],_,_,_,h => ⟨h,Nat.le_refl _⟩
 | x :: r,s,q,hs,h => by
   have h1 := nxB_len B (x.toNat : Int) s
   have h2 := fit_all B r (nxB B (x.toNat : Int) s) (tkR B (x.toNat : Int) s q) (Nat.le_trans h1 hs) (fit_step B _ s q hs h)
   exact ⟨h2.1,Nat.le_trans h2.2 h1⟩
theorem zR_fit (b : List UInt8) : fitR (zRk (kq b)) := ⟨kq_rng b,⟨by simp [zRk],by simp [zRk],by simp [zRk]⟩,⟨okI_zero,okI_zero,okI_zero,okI_zero,okI_zero,okI_zero⟩,by simp [zRk,zB]⟩
theorem sq0_len (b : List UInt8) : (sq0 b).1.length ≤ b.length := zbp 1 b 0
theorem rdB_fit (B : Int) (b : List UInt8) (hb : b.length ≤ 1000000) : fitR (rdB B b).1 := (fit_all B _ _ _ (Nat.le_trans (sq0_len b) hb) (zR_fit b)).1
theorem rdR_fit (b : List UInt8) (hb : b.length ≤ 1000000) : fitR (rdR b) := rdB_fit 8192 b hb
theorem takeA_rq (x : Int) (bs : List UInt8) (e : Int) (q : Rq) : takeA x bs e q.k q.t q.i q.p q.c q.f q.o q.m q.w q.g q.mb q.n q.b.b q.b.c q.b.p q.b.e q.b.s (q.b.rs.map rv) (emp q.b.rs) = rqA (tkR 8192 x (bs,e) q) (emp (tkR 8192 x (bs,e) q).b.rs) := by
 unfold takeA rqA tkR
 by_cases h : x = 98
 · simp only [if_pos h]
 · simp only [if_neg h]
def gqOk (b : List UInt8) : Prop := chkR (rdR b) = 0 ∧ layR (rdR b) = b
instance (b : List UInt8) : Decidable (gqOk b) := by unfold gqOk; infer_instance
def zR : Rq := ⟨0,[],0,0,false,false,0,0,0,[],[],0,zB⟩
def gqR (b : List UInt8) : Rq := if gqOk b then rdR b else zR
def gqA (b : List UInt8) : AV := rqA (gqR b) (emp (gqR b).b.rs)
def getQS : zai
 | [.sb b fb],[] => ⟨b.length ≤ 1000000,.tup [gqA b,.w (.int .i64 (if gqOk b then 0 else 4))],[]⟩
 | _,_ => zba
theorem gq_done {b : List UInt8} (hb : b.length ≤ 1000000) (h : gqOk b) : rdS b = ([],0) := by
 have h1 := (rd_lay22 (rdR b) h.1 (rdR_fit b hb) []).2
 rw [List.append_nil,h.2] at h1; exact h1
theorem gq_cases (b : List UInt8) (hb : b.length ≤ 1000000) {M : Rq} (hM : rdR b = M) {L : List UInt8} {E D C : Int} {W : List UInt8} (hQ : rdS b = (L,E)) (hD : (if E = 0 ∧ 0 < L.length then (4 : Int) else E) = D) (hC : chkR M = C) (hW : putR M = W) :
   (gqOk b ∧ decide (D = 0) = true ∧ decide (C = 0) = true ∧ decide (W = b) = true) ∨ (¬ gqOk b ∧ decide (D = 0) = false) ∨ (¬ gqOk b ∧ decide (D = 0) = true ∧ decide (C = 0) = false) ∨ (¬ gqOk b ∧ decide (D = 0) = true ∧ decide (C = 0) = true ∧ decide (W = b) = false) := by
 subst hM hC hW hD
 by_cases hg : gqOk b
 · have h1 := gq_done hb hg
   rw [hQ] at h1
   injection h1 with h1 h2
   subst h1 h2
   have h3 : putR (rdR b) = b := (if_pos hg.1).trans hg.2
   exact .inl ⟨hg,by simp,decide_eq_true hg.1,decide_eq_true h3⟩
 · by_cases h1 : (if E = 0 ∧ 0 < L.length then (4 : Int) else E) = 0
   · by_cases h2 : chkR (rdR b) = 0
     · by_cases h3 : putR (rdR b) = b
       · exact (hg ⟨h2,(if_pos h2).symm.trans h3⟩).elim
       · exact .inr (.inr (.inr ⟨hg,decide_eq_true h1,decide_eq_true h2,decide_eq_false h3⟩))
     · exact .inr (.inr (.inl ⟨hg,decide_eq_true h1,decide_eq_false h2⟩))
   · exact .inr (.inl ⟨hg,decide_eq_false h1⟩)
def eqB22 : zai
 | [.sb a f,.sb b g],[] => ⟨True,.w (.bool (decide (a = b))),[]⟩
 | _,_ => zba
section
set_option maxRecDepth 100000
theorem eqB22_sound : zaq Try.prog 49 eqB22 := by
 refine zak (S := noS) (T := ty) zas ty_ok zby Try.func49 (c := Try.f49.body.getD .skip) (by kernel_rfl) (by kernel_rfl) (fun xs pins hp _ => ?_)
 unfold eqB22 at hp ⊢
 split at hp
 · rename_i a f b g _
   refine ⟨by simp,?_⟩
   unfold Try.f49
   simp only [go_sem,zaa,Nat.reduceAdd,Nat.reduceSub,Nat.reduceMul,Int.reduceToNat,reduceCtorEq,↓reduceIte,Int.reducePow,Nat.reducePow,Int.reduceMod,Nat.reduceLeDiff,Int.reduceLE,Int.reduceNe,Int.reduceEq,Nat.reduceEqDiff,Nat.reduceLT,Nat.reduceBEq,ty,noS]
 · exact hp.elim
end
def SgetQ (f : FuncId) : Option zai :=
 match f with
 | 45 => some newS
 | 46 => some zff
 | 48 => some zew
 | 14 => some usesS
 | 47 => some takeS22
 | 10 => some putQS
 | 49 => some eqB22
 | _ => none
theorem SgetQ_ok : Fns Try.prog SgetQ := by
 intro f s h
 unfold SgetQ at h
 split at h
 · injection h with h; subst h; exact ⟨⟨_,Try.func45,by kernel_rfl,by kernel_rfl⟩,new_sound⟩
 · injection h with h; subst h; exact ⟨⟨_,Try.func46,by kernel_rfl,by kernel_rfl⟩,mfixed_sound⟩
 · injection h with h; subst h; exact ⟨⟨_,Try.func48,by kernel_rfl,by kernel_rfl⟩,done_sound⟩
 · injection h with h; subst h; exact ⟨⟨_,Try.func14,by kernel_rfl,by kernel_rfl⟩,zfc⟩
 · injection h with h; subst h; exact ⟨⟨_,Try.func47,by kernel_rfl,by kernel_rfl⟩,take22_sound⟩
 · injection h with h; subst h; exact ⟨⟨_,Try.func10,by kernel_rfl,by kernel_rfl⟩,putQ_sound⟩
 · injection h with h; subst h; exact ⟨⟨_,Try.func49,by kernel_rfl,by kernel_rfl⟩,eqB22_sound⟩
 · cases h
theorem let_ltr {k : Int} {x : UInt8} (h : x ∈ zcr k) : ltr22 (x.toNat : Int) := by
 rcases uses_let k x h with h1 | ⟨rfl,_⟩
 · rcases h1 with rfl | rfl | rfl | rfl | rfl | rfl | rfl | rfl | rfl | rfl | rfl <;> decide
 · decide
section
set_option maxRecDepth 100000
set_option maxHeartbeats 8000000 in
theorem getQ_sound : zaq Try.prog 21 getQS := by
 refine zbo (S := SgetQ) (T := ty) zas ty_ok SgetQ_ok Try.func21 (c := Try.f21.body.getD .skip) (by kernel_rfl) (by kernel_rfl) (fun xs pins hp _ => ?_)
 have hx : ∃ b f,xs = [.sb b f] ∧ pins = [] ∧ b.length ≤ 1000000 := by
   unfold getQS at hp
   split at hp
   · rename_i b f _
     exact ⟨b,f,rfl,rfl,hp⟩
   · exact hp.elim
 obtain ⟨b,f,rfl,rfl,hb⟩ := hx
 refine ⟨by simp,?_⟩
 have hK' : zdz 1 b 0 % 256 = kq b := rfl
 obtain ⟨K,hK⟩ : ∃ x,kq b = x := ⟨_,rfl⟩
 have hKr := kq_rng b
 rw [hK] at hK' hKr
 obtain ⟨hK0,hK1⟩ := hKr
 have hK3 : K ≤ 255 := by omega
 have tk : ∀ l : List UInt8,List.take l.length l = l := fun l => List.take_length
 obtain ⟨a0,ha0⟩ : ∃ x,zfj 1 b 0 = x := ⟨_,rfl⟩
 obtain ⟨z0,hz0⟩ : ∃ x,rfixE 1 b 0 = x := ⟨_,rfl⟩
 have hl0 : a0.length ≤ 1000000 := by have := zbp 1 b 0; rw [ha0] at this; omega
 have hdec := uses_dec K
 have hul := uses_len K
 have hlt : ∀ x ∈ zcr K,ltr22 (x.toNat : Int) := fun x hx => let_ltr hx
 obtain ⟨L,hLL⟩ : ∃ L,zcr K = L := ⟨_,rfl⟩
 rw [hLL] at hdec hul hlt
 have hrd : rdB 8192 b = rdL 8192 L (a0,z0) (zRk K) := by unfold rdB; rw [hK,hLL]; unfold sq0; rw [ha0,hz0]
 unfold Try.f21
 simp only [go_sem,zaa,Nat.reduceAdd,Nat.reduceSub,Nat.reduceMul,Int.reduceToNat,reduceCtorEq,↓reduceIte,Int.reducePow,Nat.reducePow,Int.reduceMod,Nat.reduceLeDiff,Int.reduceLE,Int.reduceNe,Int.reduceEq,Nat.reduceEqDiff,Nat.reduceLT,Nat.reduceBEq,ty,SgetQ,newS,zff,usesS,rd,hb,hK',hLL,ha0,hz0,hl0,hK0,hK1,hK3,tk]
 refine zca ⟨fun mm σ => ∃ (j : Nat) (M : Rq) (u : List UInt8) (e : Int),mm = L.length - j ∧ j ≤ L.length ∧ rdL 8192 (L.take j) (a0,z0) (zRk K) = (M,(u,e)) ∧
   σ = ⟨[.sb b f,.junk,.rf 4 18 0 0,.w (.int .i64 0),.rf 5 2 0 0,.rf 6 18 0 0,.junk,.junk,.junk,.junk,.junk,.junk,.junk,.junk,.junk,.junk,.junk,.junk,.junk,.rf 7 1 0 0,.junk,.junk,.junk,.junk,.junk,.junk,.junk,.junk,.junk,.junk,.junk,.junk,.junk,.junk,.junk,.junk,.junk,.junk,.junk,.junk,.junk,.junk,.junk,.junk,.junk,.junk],[(4,.g 18 [.agg [.w (.int .u8 0),.str [],.w (.int .i64 0),.w (.int .i64 0),.w (.bool false),.w (.bool false),.w (.int .i64 0),.w (.int .i64 0),.w (.int .i64 0),.str [],.str [],.w (.int .i64 0),.w (.int .i64 0),.w (.int .i64 0),.w (.int .i64 0),.w (.int .i64 0),.w (.int .i64 0),.sg 6 [] true]]),(5,.g 2 [.agg [.sb u false,.w (.int .i64 e)]]),(6,.g 18 [.agg [.w (.int .u8 M.k),.str M.t,.w (.int .i64 M.i),.w (.int .i64 M.p),.w (.bool M.c),.w (.bool M.f),.w (.int .i64 M.o),.w (.int .i64 M.m),.w (.int .i64 M.w),.str M.g,.str M.mb,.w (.int .i64 M.n),.w (.int .i64 M.b.b),.w (.int .i64 M.b.c),.w (.int .i64 M.b.p),.w (.int .i64 M.b.e),.w (.int .i64 M.b.s),.sg 6 (M.b.rs.map rv) (emp M.b.rs)]]),(7,.o (.it L j))],8⟩,?_,?_⟩
 · refine ⟨_,_,zad [0,1,2,3,4,28,76,116] rfl rfl rfl ?_ ?_,0,zRk K,a0,z0,rfl,by omega,rfl,rfl⟩
   · simp only [ssT,zae,zaf,setSlot,gOf,AV.ren,renL,Blk.ren,Ax.look,Ax.put,reduceCtorEq,↓reduceIte,Nat.reduceEqDiff,Nat.reduceLT,Nat.reduceAdd,List.length_append,List.length_cons,List.length_nil,Option.some.injEq]; try simp
   · simp only [ssT,zae,zaf,setSlot,gOf,AV.ren,renL,Blk.ren,Ax.look,Ax.put,reduceCtorEq,↓reduceIte,Nat.reduceEqDiff,Nat.reduceLT,Nat.reduceAdd,List.length_append,List.length_cons,List.length_nil,Option.some.injEq,zRk,zB,zcy,List.map_nil]; try simp
 · rintro m' σ ⟨j,M,u,e,rfl,hj,hM,rfl⟩
   have hfa := fit_all 8192 (L.take j) (a0,z0) (zRk K) hl0 (by rw [← hK]; exact zR_fit b)
   rw [hM] at hfa
   obtain ⟨hfit,hu⟩ := hfa
   have hu : u.length ≤ 1000000 := Nat.le_trans hu hl0
   have hex : ∃ qs : List Rec,M.b.rs.map rv = qs.map rv := ⟨M.b.rs,rfl⟩
   have hcl := zbz M.b.rs
   by_cases hjl : j < L.length
   · have d1 : decide (j < L.length) = true := decide_eq_true hjl
     obtain ⟨hd1,hd2⟩ := hdec j hjl
     have hx1 : L.getD j 0 = L[j] := by rw [List.getD_eq_getElem?_getD,List.getElem?_eq_getElem hjl]; rfl
     have hlx := hlt L[j] (List.getElem_mem hjl)
     have hnext := rdL_take 8192 L (a0,z0) (zRk K) hjl
     rw [hM] at hnext
     simp only at hnext
     rw [hx1] at hd1
     obtain ⟨x,hx⟩ : ∃ x,((L[j].toNat : Nat) : Int) = x := ⟨_,rfl⟩
     rw [hx] at hlx hnext
     have hd1 : ((decR L j : Nat) : Int) = x := by rw [hd1]; exact hx
     have hT := takeA_rq x u e M
     obtain ⟨M',hM'⟩ : ∃ M',tkR 8192 x (u,e) M = M' := ⟨_,rfl⟩
     have hQ : takeQ x u e = nxB 8192 x (u,e) := rfl
     obtain ⟨⟨u',e'⟩,hs'⟩ : ∃ s',nxB 8192 x (u,e) = s' := ⟨_,rfl⟩
     rw [hM'] at hT hnext
     rw [hs'] at hQ hnext
     have hcl' := zbz M'.b.rs
     simp only [go_sem,zaa,Nat.reduceAdd,Nat.reduceSub,Nat.reduceMul,Int.reduceToNat,reduceCtorEq,↓reduceIte,Int.reducePow,Nat.reducePow,Int.reduceMod,Nat.reduceLeDiff,Int.reduceLE,Int.reduceNe,Int.reduceEq,Nat.reduceEqDiff,Nat.reduceLT,Nat.reduceBEq,ty,SgetQ,takeS22,rd,d1,hd1,hd2,hlx,hu,hex,hcl,hcl',hT,rqA,hQ]
     refine ⟨L.length - (j + 1),_,by omega,zad [0,1,2,3,4,5,6,7] rfl rfl rfl ?_ ?_,j + 1,M',u',e',rfl,by omega,hnext,rfl⟩
     · simp only [ssT,zae,zaf,setSlot,gOf,AV.ren,renL,Blk.ren,Ax.look,Ax.put,reduceCtorEq,↓reduceIte,Nat.reduceEqDiff,Nat.reduceLT,Nat.reduceAdd,List.length_append,List.length_cons,List.length_nil,Option.some.injEq]; try simp
     · simp only [ssT,zae,zaf,setSlot,gOf,AV.ren,renL,Blk.ren,Ax.look,Ax.put,reduceCtorEq,↓reduceIte,Nat.reduceEqDiff,Nat.reduceLT,Nat.reduceAdd,List.length_append,List.length_cons,List.length_nil,Option.some.injEq]; try simp
   · obtain rfl : j = L.length := by omega
     have d1 : decide (L.length < L.length) = false := decide_eq_false (by omega)
     rw [List.take_length,← hrd] at hM
     have hMr : rdR b = M := congrArg Prod.fst hM
     have hQr : rdS b = (u,e) := congrArg Prod.snd hM
     obtain ⟨D,hD⟩ : ∃ x,(if e = 0 ∧ 0 < u.length then (4 : Int) else e) = x := ⟨_,rfl⟩
     obtain ⟨C,hC⟩ : ∃ x,chkR M = x := ⟨_,rfl⟩
     obtain ⟨W,hW⟩ : ∃ x,putR M = x := ⟨_,rfl⟩
     have hcase := gq_cases b hb hMr hQr hD hC hW
     have hC' : chkQ M.k M.t M.i M.p M.c M.f M.o M.m M.w M.g M.mb M.n M.b.b M.b.c M.b.p M.b.e M.b.s M.b.rs = C := hC
     have hW' : putQ M.k M.t M.i M.p M.c M.f M.o M.m M.w M.g M.mb M.n M.b.b M.b.c M.b.p M.b.e M.b.s M.b.rs = W := hW
     obtain ⟨⟨k1,k2⟩,lq,iq,hr40⟩ := hfit
     have h40 : (M.b.rs.map rv).length ≤ 40 := by rw [List.length_map]; exact hr40
     have hmr := zah M.b.rs
     have hVok : gqOk b → gqA b = .agg [.w (.int .u8 M.k),.str M.t,.w (.int .i64 M.i),.w (.int .i64 M.p),.w (.bool M.c),.w (.bool M.f),.w (.int .i64 M.o),.w (.int .i64 M.m),.w (.int .i64 M.w),.str M.g,.str M.mb,.w (.int .i64 M.n),.w (.int .i64 M.b.b),.w (.int .i64 M.b.c),.w (.int .i64 M.b.p),.w (.int .i64 M.b.e),.w (.int .i64 M.b.s),.sg 6 (M.b.rs.map rv) (emp M.b.rs)] ∧ (if gqOk b then (0 : Int) else 4) = 0 := by
       intro h; unfold gqA gqR; rw [if_pos h,if_pos h,hMr]; exact ⟨rfl,rfl⟩
     have hVno : ¬ gqOk b → gqA b = .agg [.w (.int .u8 0),.str [],.w (.int .i64 0),.w (.int .i64 0),.w (.bool false),.w (.bool false),.w (.int .i64 0),.w (.int .i64 0),.w (.int .i64 0),.str [],.str [],.w (.int .i64 0),.w (.int .i64 0),.w (.int .i64 0),.w (.int .i64 0),.w (.int .i64 0),.w (.int .i64 0),.sg 6 [] true] ∧ (if gqOk b then (0 : Int) else 4) = 4 := by
       intro h; unfold gqA gqR; rw [if_neg h,if_neg h]; exact ⟨rfl,rfl⟩
     rcases hcase with X | X | X | X
     · obtain ⟨w1,w2⟩ := hVok X.1
       simp only [go_sem,zaa,Nat.reduceAdd,Nat.reduceSub,Nat.reduceMul,Int.reduceToNat,reduceCtorEq,↓reduceIte,Int.reducePow,Nat.reducePow,Int.reduceMod,Nat.reduceLeDiff,Int.reduceLE,Int.reduceNe,Int.reduceEq,Nat.reduceEqDiff,Nat.reduceLT,Nat.reduceBEq,ty,SgetQ,getQS,zew,putQS,eqB22,rd,d1,hu,k1,k2,lq,iq,hC',hW',hD,tk,hex,hcl,h40,hmr,X.2,w1,w2]
       refine ⟨_,Weak.refl _,?_⟩
       simp only [go_sem,zaa,Nat.reduceAdd,Nat.reduceSub,Nat.reduceMul,Int.reduceToNat,reduceCtorEq,↓reduceIte,Int.reducePow,Nat.reducePow,Int.reduceMod,Nat.reduceLeDiff,Int.reduceLE,Int.reduceNe,Int.reduceEq,Nat.reduceEqDiff,Nat.reduceLT,Nat.reduceBEq,ty,SgetQ,getQS,zew,putQS,eqB22,rd,d1,hu,k1,k2,lq,iq,hC',hW',hD,tk,hex,hcl,h40,hmr,X.2,w1,w2]
       refine ⟨_,Weak.refl _,?_⟩
       simp only [go_sem,zaa,Nat.reduceAdd,Nat.reduceSub,Nat.reduceMul,Int.reduceToNat,reduceCtorEq,↓reduceIte,Int.reducePow,Nat.reducePow,Int.reduceMod,Nat.reduceLeDiff,Int.reduceLE,Int.reduceNe,Int.reduceEq,Nat.reduceEqDiff,Nat.reduceLT,Nat.reduceBEq,ty]
     all_goals
       obtain ⟨w1,w2⟩ := hVno X.1
       simp only [go_sem,zaa,Nat.reduceAdd,Nat.reduceSub,Nat.reduceMul,Int.reduceToNat,reduceCtorEq,↓reduceIte,Int.reducePow,Nat.reducePow,Int.reduceMod,Nat.reduceLeDiff,Int.reduceLE,Int.reduceNe,Int.reduceEq,Nat.reduceEqDiff,Nat.reduceLT,Nat.reduceBEq,ty,SgetQ,getQS,zew,putQS,eqB22,rd,d1,hu,k1,k2,lq,iq,hC',hW',hD,tk,hex,hcl,h40,hmr,X.2,w1,w2]
       refine ⟨_,Weak.refl _,?_⟩
       simp only [go_sem,zaa,Nat.reduceAdd,Nat.reduceSub,Nat.reduceMul,Int.reduceToNat,reduceCtorEq,↓reduceIte,Int.reducePow,Nat.reducePow,Int.reduceMod,Nat.reduceLeDiff,Int.reduceLE,Int.reduceNe,Int.reduceEq,Nat.reduceEqDiff,Nat.reduceLT,Nat.reduceBEq,ty,SgetQ,getQS,zew,putQS,eqB22,rd,d1,hu,k1,k2,lq,iq,hC',hW',hD,tk,hex,hcl,h40,hmr,X.2,w1,w2]
       refine ⟨_,Weak.refl _,?_⟩
       simp only [go_sem,zaa,Nat.reduceAdd,Nat.reduceSub,Nat.reduceMul,Int.reduceToNat,reduceCtorEq,↓reduceIte,Int.reducePow,Nat.reducePow,Int.reduceMod,Nat.reduceLeDiff,Int.reduceLE,Int.reduceNe,Int.reduceEq,Nat.reduceEqDiff,Nat.reduceLT,Nat.reduceBEq,ty]
end
end Go.Proofs.Ytmedjkjoannbmaa
namespace Go.Proofs.Ytmedjkjoannbmaa
open Ax
abbrev zaz := List UInt8 × Int
def itS (st : zaz → zaz) (s : zaz) : Nat → zaz
 | 0 => s
 | i + 1 => st (itS st s i)
def itL {α : Type} (v : zaz → α) (st : zaz → zaz) (s : zaz) : Nat → List α
 | 0 => []
 | i + 1 => itL v st s i ++ [v (itS st s i)]
theorem itL_len {α : Type} (v : zaz → α) (st : zaz → zaz) (s : zaz) : ∀ i,(itL v st s i).length = i
 | 0 => rfl
 | i + 1 => by unfold itL; rw [List.length_append,itL_len v st s i]; rfl
theorem itL_all {α : Type} (P : α → Prop) (v : zaz → α) (st : zaz → zaz) (s : zaz) (h : ∀ s,P (v s)) : ∀ i,∀ x ∈ itL v st s i,P x
 | 0,x,hx => by simp [itL] at hx
 | i + 1,x,hx => by
   unfold itL at hx
   rw [List.mem_append] at hx
   rcases hx with hx | hx
   · exact itL_all P v st s h i x hx
   · rw [List.mem_singleton] at hx; rw [hx]; exact h _
theorem it_put {α : Type} (v : zaz → α) (st : zaz → zaz) (f : α → List UInt8) (l : List α) (h : ∀ x ∈ l,∀ z,st (f x ++ z,0) = (z,0) ∧ v (f x ++ z,0) = x) (z : List UInt8) :
   ∀ j,j ≤ l.length → itS st (l.flatMap f ++ z,0) j = ((l.drop j).flatMap f ++ z,0) ∧ itL v st (l.flatMap f ++ z,0) j = l.take j
 | 0,_ => by simp [itS,itL]
 | j + 1,hj => by
   obtain ⟨h1,h2⟩ := it_put v st f l h z j (by omega)
   have e : (l.drop j).flatMap f ++ z = f l[j] ++ ((l.drop (j + 1)).flatMap f ++ z) := by
     rw [List.drop_eq_getElem_cons (by omega),List.flatMap_cons,List.append_assoc]
   obtain ⟨g1,g2⟩ := h l[j] (List.getElem_mem (by omega)) ((l.drop (j + 1)).flatMap f ++ z)
   unfold itS itL
   rw [h1,h2,e,g1,g2]
   refine ⟨rfl,?_⟩
   rw [List.take_succ_eq_append_getElem (by omega)]
def stN (s : zaz) : zaz := (numL s.1 s.2,numE s.1 s.2)
def stT (m : Int) (s : zaz) : zaz := (rtL m s.1 s.2,rtE m s.1 s.2)
def stX (s : zaz) : zaz := (zfj 1 s.1 s.2,rfixE 1 s.1 s.2)
def vB (m : Int) (s : zaz) : Bat := zbf (rtS' m s.1 s.2)
def vP (s : zaz) : Int := numN s.1 s.2
def vN (s : zaz) : List UInt8 := rtS' 255 s.1 s.2
def vX (s : zaz) : Bool := decide (zdz 1 s.1 s.2 = 1)
theorem stN_put (n : Int) (hn : okI n) (z : List UInt8) : stN (pq n ++ z,0) = (z,0) ∧ vP (pq n ++ z,0) = n := by
 obtain ⟨t1,t2,t3⟩ := num_put n hn.1 hn.2 z
 unfold stN vP pq
 simp only
 rw [t1,t2,t3]; exact ⟨rfl,rfl⟩
theorem stT_put (m : Int) (s : List UInt8) (hs : (s.length : Int) ≤ m) (h2 : s.length ≤ 1000000) (z : List UInt8) : stT m (zbc s ++ z,0) = (z,0) ∧ rtS' m (zbc s ++ z) 0 = s := by
 obtain ⟨t1,t2,t3⟩ := text_put m s z (by omega) (by omega)
 unfold stT
 simp only
 rw [t1,t2,t3]; exact ⟨rfl,rfl⟩
theorem stX_put (v : Bool) (z : List UInt8) : stX ([UInt8.ofNat (bitN v).toNat] ++ z,0) = (z,0) ∧ vX ([UInt8.ofNat (bitN v).toNat] ++ z,0) = v := by
 obtain ⟨t1,t2,t3⟩ := fix1_cons (UInt8.ofNat (bitN v).toNat) z
 unfold stX vX
 simp only [List.singleton_append,t1,t2,t3]
 exact ⟨trivial,by cases v <;> decide⟩
abbrev Cnt := (zaz → zaz) → zaz → Int → Nat
def Cnt.good (c : Cnt) : Prop := ∀ (st : zaz → zaz) (s : zaz) (n : Nat),n ≤ 64 → (∀ j,j ≤ n → (itS st s j).2 = 0) → c st s n = n
structure Rs where
 k : Int
 er : Int
 o : Int
 x : Int
 d : Bool
 g : Int
 bl : List Bat
 pl : List Int
 nl : List (List UInt8)
def h1A (b : List UInt8) : zaz := stN (sq0 b)
def h2A (b : List UInt8) : zaz := stN (h1A b)
def h3A (b : List UInt8) : zaz := stN (h2A b)
def h4A (b : List UInt8) : zaz := stN (h3A b)
def h5A (b : List UInt8) : zaz := stX (h4A b)
def b0A (b : List UInt8) : zaz := stN (h5A b)
def bnA (c : Cnt) (m : Int) (b : List UInt8) : Nat := c (stT m) (b0A b) (vP (h5A b))
def b1A (c : Cnt) (m : Int) (b : List UInt8) : zaz := itS (stT m) (b0A b) (bnA c m b)
def p0A (c : Cnt) (m : Int) (b : List UInt8) : zaz := stN (b1A c m b)
def pnA (c : Cnt) (m : Int) (b : List UInt8) : Nat := c stN (p0A c m b) (vP (b1A c m b))
def p1A (c : Cnt) (m : Int) (b : List UInt8) : zaz := itS stN (p0A c m b) (pnA c m b)
def n0A (c : Cnt) (m : Int) (b : List UInt8) : zaz := stN (p1A c m b)
def nnA (c : Cnt) (m : Int) (b : List UInt8) : Nat := c (stT 255) (n0A c m b) (vP (p1A c m b))
def n1A (c : Cnt) (m : Int) (b : List UInt8) : zaz := itS (stT 255) (n0A c m b) (nnA c m b)
def rdA (c : Cnt) (m : Int) (b : List UInt8) : Rs :=
 ⟨kq b,vP (sq0 b),vP (h1A b),vP (h2A b),vX (h4A b),vP (h3A b),itL (vB m) (stT m) (b0A b) (bnA c m b),itL vP stN (p0A c m b) (pnA c m b),itL vN (stT 255) (n0A c m b) (nnA c m b)⟩
def errR (a : Rs) : Int := errA a.k a.bl a.pl a.nl
def layRs (a : Rs) : List UInt8 := layA a.k a.er a.o a.x a.d a.g a.bl a.pl a.nl
def fitA (a : Rs) : Prop := (0 ≤ a.k ∧ a.k < 256) ∧ okI a.er ∧ okI a.o ∧ okI a.x ∧ okI a.g ∧ ∀ n ∈ a.pl,okI n
theorem badB_all : ∀ (l : List Bat),badB l = 0 → ∀ x ∈ l,bE x = 0
 | [],_,x,hx => by simp at hx
 | y :: r,h,x,hx => by
   unfold badB at h
   by_cases hy : bE y = 0
   · rw [if_pos hy] at h
     rw [List.mem_cons] at hx
     rcases hx with rfl | hx
     · exact hy
     · exact badB_all r h x hx
   · rw [if_neg hy] at h; exact (hy h).elim
theorem errR_ok {a : Rs} (h : errR a = 0) : (a.bl.length ≤ 64 ∧ a.pl.length ≤ 64 ∧ a.nl.length ≤ 64) ∧ (∀ x ∈ a.bl,bE x = 0) ∧ ∀ s ∈ a.nl,s.length ≤ 255 := by
 unfold errR errA at h
 by_cases hc : chkA a.k a.bl.length a.pl.length a.nl = 0
 · rw [if_pos hc] at h
   obtain ⟨_,h1,h2,h3,h4⟩ := chkA_ok hc
   exact ⟨⟨h1,h2,h3⟩,badB_all _ h,h4⟩
 · rw [if_neg hc] at h; exact (hc h).elim
theorem it_err (v : zaz → Bat) {α : Type} (w : zaz → α) (st : zaz → zaz) (f : α → List UInt8) (l : List α) (h : ∀ x ∈ l,∀ z,st (f x ++ z,0) = (z,0) ∧ w (f x ++ z,0) = x) (z : List UInt8) : ∀ j,j ≤ l.length → (itS st (l.flatMap f ++ z,0) j).2 = 0 := by
 intro j hj
 rw [(it_put w st f l h z j hj).1]
theorem rd_layA (c : Cnt) (hc : c.good) (m : Int) (hm : 8192 ≤ m) (a : Rs) (h : errR a = 0) (hf : fitA a) (z : List UInt8) : rdA c m (layRs a ++ z) = a ∧ n1A c m (layRs a ++ z) = (z,0) := by
 obtain ⟨⟨l1,l2,l3⟩,hb,hn⟩ := errR_ok h
 obtain ⟨hk,f1,f2,f3,f4,f5⟩ := hf
 obtain ⟨k,er,o,x,d,g,bl,pl,nl⟩ := a
 simp only at l1 l2 l3 hb hn hk f1 f2 f3 f4 f5
 have hB : ∀ y ∈ bl,∀ z,stT m (zbc (bB y) ++ z,0) = (z,0) ∧ vB m (zbc (bB y) ++ z,0) = y := by
   intro y hy z
   have h1 := bB_length (hb y hy)
   obtain ⟨t1,t2⟩ := stT_put m (bB y) (by omega) (by omega) z
   exact ⟨t1,by unfold vB; simp only; rw [t2]; unfold zbf; rw [bget_put (hb y hy)]; rfl⟩
 have hP : ∀ y ∈ pl,∀ z,stN (pq y ++ z,0) = (z,0) ∧ vP (pq y ++ z,0) = y := fun y hy z => stN_put y (f5 y hy) z
 have hN : ∀ y ∈ nl,∀ z,stT 255 (zbc y ++ z,0) = (z,0) ∧ vN (zbc y ++ z,0) = y := by
   intro y hy z
   have h1 := hn y hy
   exact stT_put 255 y (by omega) (by omega) z
 have e : layRs ⟨k,er,o,x,d,g,bl,pl,nl⟩ ++ z = UInt8.ofNat k.toNat :: (pq er ++ (pq o ++ (pq x ++ (pq g ++ ([UInt8.ofNat (bitN d).toNat] ++ (pq (bl.length : Int) ++ (catB bl ++ (pq (pl.length : Int) ++ (catP pl ++ (pq (nl.length : Int) ++ (catN nl ++ z))))))))))) := by
   simp [layRs,layA,headA]
 obtain ⟨b,hbb⟩ : ∃ b,layRs ⟨k,er,o,x,d,g,bl,pl,nl⟩ ++ z = b := ⟨_,rfl⟩
 rw [hbb] at e ⊢
 obtain ⟨q0,qk⟩ := sq0_put k hk (pq er ++ (pq o ++ (pq x ++ (pq g ++ ([UInt8.ofNat (bitN d).toNat] ++ (pq (bl.length : Int) ++ (catB bl ++ (pq (pl.length : Int) ++ (catP pl ++ (pq (nl.length : Int) ++ (catN nl ++ z)))))))))))
 rw [← e] at q0 qk
 have okn : ∀ n : Nat,n ≤ 64 → okI (n : Int) := fun n hn => ⟨by omega,by omega⟩
 have s1 := stN_put er f1 (pq o ++ (pq x ++ (pq g ++ ([UInt8.ofNat (bitN d).toNat] ++ (pq (bl.length : Int) ++ (catB bl ++ (pq (pl.length : Int) ++ (catP pl ++ (pq (nl.length : Int) ++ (catN nl ++ z))))))))))
 have s2 := stN_put o f2 (pq x ++ (pq g ++ ([UInt8.ofNat (bitN d).toNat] ++ (pq (bl.length : Int) ++ (catB bl ++ (pq (pl.length : Int) ++ (catP pl ++ (pq (nl.length : Int) ++ (catN nl ++ z)))))))))
 have s3 := stN_put x f3 (pq g ++ ([UInt8.ofNat (bitN d).toNat] ++ (pq (bl.length : Int) ++ (catB bl ++ (pq (pl.length : Int) ++ (catP pl ++ (pq (nl.length : Int) ++ (catN nl ++ z))))))))
 have s4 := stN_put g f4 ([UInt8.ofNat (bitN d).toNat] ++ (pq (bl.length : Int) ++ (catB bl ++ (pq (pl.length : Int) ++ (catP pl ++ (pq (nl.length : Int) ++ (catN nl ++ z)))))))
 have s5 := stX_put d (pq (bl.length : Int) ++ (catB bl ++ (pq (pl.length : Int) ++ (catP pl ++ (pq (nl.length : Int) ++ (catN nl ++ z))))))
 have s6 := stN_put (bl.length : Int) (okn _ l1) (catB bl ++ (pq (pl.length : Int) ++ (catP pl ++ (pq (nl.length : Int) ++ (catN nl ++ z)))))
 have s7 := it_put (vB m) (stT m) (fun y => zbc (bB y)) bl hB (pq (pl.length : Int) ++ (catP pl ++ (pq (nl.length : Int) ++ (catN nl ++ z)))) bl.length (Nat.le_refl _)
 have s7e := it_err (vB m) (vB m) (stT m) (fun y => zbc (bB y)) bl hB (pq (pl.length : Int) ++ (catP pl ++ (pq (nl.length : Int) ++ (catN nl ++ z))))
 have s8 := stN_put (pl.length : Int) (okn _ l2) (catP pl ++ (pq (nl.length : Int) ++ (catN nl ++ z)))
 have s9 := it_put vP stN pq pl hP (pq (nl.length : Int) ++ (catN nl ++ z)) pl.length (Nat.le_refl _)
 have s9e := it_err (vB m) vP stN pq pl hP (pq (nl.length : Int) ++ (catN nl ++ z))
 have s10 := stN_put (nl.length : Int) (okn _ l3) (catN nl ++ z)
 have s11 := it_put vN (stT 255) zbc nl hN z nl.length (Nat.le_refl _)
 have s11e := it_err (vB m) vN (stT 255) zbc nl hN z
 have eB : catB bl = bl.flatMap fun y => zbc (bB y) := rfl
 have eP : catP pl = pl.flatMap pq := rfl
 have eN : catN nl = nl.flatMap zbc := rfl
 rw [← eB] at s7 s7e
 rw [← eP] at s9 s9e
 rw [← eN] at s11 s11e
 rw [List.drop_length,List.take_length] at s7 s9 s11
 simp only [List.flatMap_nil,List.nil_append] at s7 s9 s11
 have g1 : h1A b = (pq o ++ (pq x ++ (pq g ++ ([UInt8.ofNat (bitN d).toNat] ++ (pq (bl.length : Int) ++ (catB bl ++ (pq (pl.length : Int) ++ (catP pl ++ (pq (nl.length : Int) ++ (catN nl ++ z))))))))),0) := by unfold h1A; rw [q0]; exact s1.1
 have g2 := s2.1
 rw [← g1] at g2
 have g3 := s3.1
 rw [← g2] at g3
 have g4 := s4.1
 rw [← g3] at g4
 have g5 := s5.1
 rw [← g4] at g5
 have g6 := s6.1
 rw [← g5] at g6
 have v1 : vP (sq0 b) = er := by rw [q0]; exact s1.2
 have v2 : vP (h1A b) = o := by rw [g1]; exact s2.2
 have v3 : vP (h2A b) = x := by unfold h2A; rw [g2]; exact s3.2
 have v4 : vP (h3A b) = g := by unfold h3A h2A; rw [g3]; exact s4.2
 have v5 : vX (h4A b) = d := by unfold h4A h3A h2A; rw [g4]; exact s5.2
 have v6 : vP (h5A b) = (bl.length : Int) := by unfold h5A h4A h3A h2A; rw [g5]; exact s6.2
 have w0 : b0A b = (catB bl ++ (pq (pl.length : Int) ++ (catP pl ++ (pq (nl.length : Int) ++ (catN nl ++ z)))),0) := by unfold b0A h5A h4A h3A h2A; exact g6
 have wn : bnA c m b = bl.length := by
   unfold bnA; rw [v6]
   exact hc _ _ _ l1 (by rw [w0]; exact s7e)
 have w1 : b1A c m b = (pq (pl.length : Int) ++ (catP pl ++ (pq (nl.length : Int) ++ (catN nl ++ z))),0) := by unfold b1A; rw [wn,w0]; exact s7.1
 have x0 : p0A c m b = (catP pl ++ (pq (nl.length : Int) ++ (catN nl ++ z)),0) := by unfold p0A; rw [w1]; exact s8.1
 have xn : pnA c m b = pl.length := by
   unfold pnA; rw [w1,s8.2]
   exact hc _ _ _ l2 (by rw [x0]; exact s9e)
 have x1 : p1A c m b = (pq (nl.length : Int) ++ (catN nl ++ z),0) := by unfold p1A; rw [xn,x0]; exact s9.1
 have y0 : n0A c m b = (catN nl ++ z,0) := by unfold n0A; rw [x1]; exact s10.1
 have yn : nnA c m b = nl.length := by
   unfold nnA; rw [x1,s10.2]
   exact hc _ _ _ l3 (by rw [y0]; exact s11e)
 have y1 : n1A c m b = (z,0) := by unfold n1A; rw [yn,y0]; exact s11.1
 refine ⟨?_,y1⟩
 unfold rdA
 rw [qk,v1,v2,v3,v4,v5,wn,xn,yn,w0,x0,y0,s7.2,s9.2,s11.2]
def c64 : Cnt := fun _ _ n => (min (max n 0) 64).toNat
theorem c64_good : c64.good := by intro st s n hn _; unfold c64; omega
def okA (c : Cnt) (m : Int) (b : List UInt8) : Prop := errR (rdA c m b) = 0 ∧ layRs (rdA c m b) = b
theorem rdA_fit (c : Cnt) (m : Int) (b : List UInt8) : fitA (rdA c m b) :=
 ⟨kq_rng b,numN_rng22 _ _,numN_rng22 _ _,numN_rng22 _ _,numN_rng22 _ _,itL_all okI vP stN _ (fun s => numN_rng22 s.1 s.2) _⟩
theorem okA_same {c c' : Cnt} (hc : c'.good) {m m' : Int} (hm : 8192 ≤ m') {b : List UInt8} (h : okA c m b) : rdA c' m' b = rdA c m b ∧ okA c' m' b ∧ n1A c' m' b = ([],0) := by
 have h1 := rd_layA c' hc m' hm (rdA c m b) h.1 (rdA_fit c m b) []
 rw [List.append_nil,h.2] at h1
 refine ⟨h1.1,?_,h1.2⟩
 unfold okA
 rw [h1.1]
 exact h
end Go.Proofs.Ytmedjkjoannbmaa
namespace Go.Proofs.Ytmedjkjoannbmaa
open Ax
def putAS : zai
 | [.agg [.w (.int .u8 k),.w (.int .i64 er),.w (.int .i64 o),.w (.int .i64 x),.w (.bool d),.w (.int .i64 g),.sg 6 bs f1,.si ps f2,.sg 1 ns f3]],[] => ⟨((0 ≤ k ∧ k < 256) ∧ okI er ∧ okI o ∧ okI x ∧ okI g) ∧ (bs.length ≤ 1000000 ∧ ps.length ≤ 1000000 ∧ ns.length ≤ 1000000) ∧ (∃ l : List (Bat × Bool),bs = l.map bvp ∧ ∀ p ∈ l,p.1.rs.length ≤ 40) ∧ (∀ n ∈ ps,okI n) ∧ ∃ ks : List (List UInt8),ns = ks.map AV.str,
     .tup [.ms 0 1 0 (putA k er o x d g (bs.map ubat) ps (ns.map zel)).length,.w (.int .i64 (errA k (bs.map ubat) ps (ns.map zel)))],[.b (putA k er o x d g (bs.map ubat) ps (ns.map zel))]⟩
 | _,_ => zba
def SputA (f : FuncId) : Option zai :=
 match f with
 | 36 => some chkAS
 | 37 => some putS
 | 38 => some zen
 | 39 => some zce
 | 40 => some zcg
 | _ => none
theorem SputA_ok : Fns Try.prog SputA := by
 intro f s h
 unfold SputA at h
 split at h
 · injection h with h; subst h; exact ⟨⟨_,Try.func36,by kernel_rfl,by kernel_rfl⟩,chkA_sound⟩
 · injection h with h; subst h; exact ⟨⟨_,Try.func37,by kernel_rfl,by kernel_rfl⟩,put_sound⟩
 · injection h with h; subst h; exact ⟨⟨_,Try.func38,by kernel_rfl,by kernel_rfl⟩,bit22_sound⟩
 · injection h with h; subst h; exact ⟨⟨_,Try.func39,by kernel_rfl,by kernel_rfl⟩,bput4_sound⟩
 · injection h with h; subst h; exact ⟨⟨_,Try.func40,by kernel_rfl,by kernel_rfl⟩,text_sound⟩
 · cases h
theorem cst22h : ((0 : Nat) : Int) = 0 ∧ ((1 : Nat) : Int) = 1 ∧ ((2 : Nat) : Int) = 2 ∧ ((3 : Nat) : Int) = 3 ∧ ((4 : Nat) : Int) = 4 ∧ ((5 : Nat) : Int) = 5 ∧ ((6 : Nat) : Int) = 6 := ⟨rfl,rfl,rfl,rfl,rfl,rfl,rfl⟩
section
set_option maxRecDepth 100000
set_option maxHeartbeats 8000000 in
theorem putA_sound : zaq Try.prog 17 putAS := by
 refine zbo (S := SputA) (T := ty) zas ty_ok SputA_ok Try.func17 (c := Try.f17.body.getD .skip) (by kernel_rfl) (by kernel_rfl) (fun xs pins hp _ => ?_)
 unfold putAS at hp ⊢
 split at hp
 · rename_i k er o x d g bs f1 pl f2 ns f3 _
   obtain ⟨⟨⟨hk0,hk1⟩,r1,r2,r3,r4⟩,⟨hL1,hL2,hL3⟩,⟨l,rfl,hrs⟩,hpk,ks,rfl⟩ := hp
   rw [zez,zbj]
   have q1 := r1
   have q2 := r2
   have q3 := r3
   have q4 := r4
   have hmu := zbj ks
   have hl1 : (l.map bvp).length = l.length := by simp
   have hl2 : pl.length = pl.length := rfl
   have hl3 : (ks.map AV.str).length = ks.length := by simp
   have hfl : (l.map Prod.fst).length = l.length := by simp
   rw [hl1] at hL1
   rw [hl3] at hL3
   have c1 : l.length ≤ 9223372036854775807 := by omega
   have c2 : pl.length ≤ 9223372036854775807 := by omega
   have c3 : ks.length ≤ 9223372036854775807 := by omega
   have hex : ∃ qs : List (List UInt8),ks.map AV.str = qs.map AV.str := ⟨ks,rfl⟩
   have tk : ∀ l : List UInt8,List.take l.length l = l := fun l => List.take_length
   have hco : ∀ z1 z2 z3 z4 z5 z6,coe ty 42 (.agg [.w z1,.w z2,.w z3,.w z4,.w z5,.w z6,.sg 6 (l.map bvp) f1,.si pl f2,.sg 1 (ks.map AV.str) f3]) = .agg [.w z1,.w z2,.w z3,.w z4,.w z5,.w z6,.sg 6 (l.map bvp) f1,.si pl f2,.sg 1 (ks.map AV.str) f3] := by
     intro z1 z2 z3 z4 z5 z6; rfl
   refine ⟨by simp,?_⟩
   unfold Try.f17
   by_cases hc : chkA k l.length pl.length ks = 0
   · have d0 : decide ((0 : Int) = 0) = true := by decide
     obtain ⟨hk2,m1,m2,m3,hks⟩ := chkA_ok hc
     have rn1 : -9223372036854775808 ≤ (l.length : Int) ∧ (l.length : Int) ≤ 9223372036854775807 := by omega
     have rn2 : -9223372036854775808 ≤ (pl.length : Int) ∧ (pl.length : Int) ≤ 9223372036854775807 := by omega
     have rn3 : -9223372036854775808 ≤ (ks.length : Int) ∧ (ks.length : Int) ≤ 9223372036854775807 := by omega
     have l1 := zbk er r1
     have l2 := zbk o r2
     have l3 := zbk x r3
     have l4 := zbk g r4
     have l5 := zbk _ rn1
     have l6 := zbk _ rn2
     have l7 := zbk _ rn3
     have gd : [er,o,x,g].getD 0 0 = er ∧ [er,o,x,g].getD 1 0 = o ∧ [er,o,x,g].getD 2 0 = x ∧ [er,o,x,g].getD 3 0 = g := ⟨rfl,rfl,rfl,rfl⟩
     have hbit : (0 ≤ bitN d ∧ bitN d < 256) = True := eq_true (by cases d <;> decide)
     unfold okI at r1 r2 r3 r4
     simp only [go_sem,zaa,Nat.reduceAdd,Nat.reduceSub,Nat.reduceMul,Int.reduceToNat,reduceCtorEq,↓reduceIte,Int.reducePow,Nat.reducePow,Int.reduceMod,Nat.reduceLeDiff,Int.reduceLE,Int.reduceNe,Int.reduceEq,Nat.reduceEqDiff,Nat.reduceLT,Nat.reduceBEq,ty,SputA,chkAS,putS,zen,hl1,hl3,hmu,hc,hk0,hk1,c1,c2,c3,hex,r1,r2,r3,r4,zbt,tk]
     refine awp_unr 6 ?_
     simp only [go_sem,zaa,Nat.reduceAdd,Nat.reduceSub,Nat.reduceMul,Int.reduceToNat,reduceCtorEq,↓reduceIte,Int.reducePow,Nat.reducePow,Int.reduceMod,Nat.reduceLeDiff,Int.reduceLE,Int.reduceNe,Int.reduceEq,Nat.reduceEqDiff,Nat.reduceLT,Nat.reduceBEq,ty,SputA,putS,zen,unr_go,unK_normal,unK_exit,unK_ret,Int.reduceAdd,Int.reduceSub,Int.reduceLT,Int.cast_ofNat_Int,cst22h,hl1,hl3,r1,r2,r3,r4,rn1,zbt,tk,gd,hbit]
     repeat (refine And.intro (by first | omega | (unfold top; omega)) ?_)
     obtain ⟨bl,hbl⟩ : ∃ v,l.map Prod.fst = v := ⟨_,rfl⟩
     have hA : headA k er o x d g = UInt8.ofNat k.toNat :: (pq er ++ (pq o ++ (pq x ++ (pq g ++ [UInt8.ofNat (bitN d).toNat])))) := rfl
     have hAl := headA_len k er o x d g q1 q2 q3 q4
     obtain ⟨A,hAA⟩ : ∃ v,headA k er o x d g = v := ⟨_,rfl⟩
     rw [hAA] at hA hAl
     have hbn : bl.length = l.length := by rw [← hbl,List.length_map]
     rw [hbl]
     refine zca ⟨fun m σ => ∃ i : Nat,m = l.length - i ∧ i ≤ l.length ∧ (∀ m ∈ bl.take i,bE m = 0) ∧
       σ = ⟨[.agg [.w (.int .u8 k),.w (.int .i64 er),.w (.int .i64 o),.w (.int .i64 x),.w (.bool d),.w (.int .i64 g),.sg 6 (l.map bvp) f1,.si pl f2,.sg 1 (ks.map AV.str) f3],.rf 4 9 0 0,.junk,.junk,.junk,.ms 5 1 0 (A ++ (pq (l.length : Int) ++ catB (bl.take i))).length,.junk,.junk,.junk,.junk,.junk,.junk,.junk,.junk,.junk,.junk,.junk,.junk,.junk,.junk,.junk,.junk,.junk,.junk,.junk,.junk,.junk,.junk,.junk,.junk,.junk,.junk,.junk,.junk,.junk,.junk,.junk,.junk,.junk,.junk,.junk,.junk,.junk,.junk,.junk,.junk,.junk,.junk,.junk,.junk,.junk,.junk,.junk,.junk,.junk,.junk,.sg 6 (l.map bvp) f1,.w (.int .i64 l.length),.w (.int .i64 i),.junk,.junk,.junk,.junk,.junk,.junk,.junk,.junk,.junk,.junk,.junk,.junk,.junk,.junk,.junk,.junk,.junk,.junk,.junk,.junk,.junk,.junk,.junk,.junk,.junk,.junk,.junk,.junk,.junk,.junk,.junk,.junk,.junk,.junk,.junk,.junk,.junk,.junk,.junk,.junk,.junk,.junk,.junk,.junk,.junk,.junk,.junk,.junk,.junk,.junk,.junk,.junk,.junk,.junk],[(4,.g 9 [.agg [.w (.int .u8 k),.w (.int .i64 er),.w (.int .i64 o),.w (.int .i64 x),.w (.bool d),.w (.int .i64 g),.sg 6 (l.map bvp) f1,.si pl f2,.sg 1 (ks.map AV.str) f3]]),(5,.b (A ++ (pq (l.length : Int) ++ catB (bl.take i))))],6⟩,?_,?_⟩
     · refine ⟨_,_,zad [0,1,2,3,4,644] rfl rfl rfl ?_ ?_,0,rfl,by omega,by simp,rfl⟩
       · simp only [ssT,zae,zaf,setSlot,gOf,AV.ren,renL,Blk.ren,Ax.look,Ax.put,reduceCtorEq,↓reduceIte,Nat.reduceEqDiff,Nat.reduceLT,Nat.reduceAdd,List.length_append,List.length_cons,List.length_nil,Option.some.injEq]; simp [hA,catB]; try omega
       · simp only [ssT,zae,zaf,setSlot,gOf,AV.ren,renL,Blk.ren,Ax.look,Ax.put,reduceCtorEq,↓reduceIte,Nat.reduceEqDiff,Nat.reduceLT,Nat.reduceAdd,List.length_append,List.length_cons,List.length_nil,Option.some.injEq]; try simp [hA,catB]
     · rintro m σ ⟨i,rfl,hi,hall,rfl⟩
       have cnt : (((A ++ (pq (l.length : Int) ++ catB (bl.take i))).length : Nat)) ≤ 60 + 8202 * i := by
         have h1 := catB_len (bl.take i)
         have h2 : (bl.take i).length ≤ i := List.length_take_le _ _
         simp only [List.length_append]; omega
       by_cases hil : i < l.length
       · have d2 : decide ((i : Int) < l.length) = true := decide_eq_true (by omega)
         have e1 : ((i : Int) + 1 + 9223372036854775808) % 18446744073709551616 - 9223372036854775808 = ((i + 1 : Nat) : Int) := by omega
         have hs1 := slot_bvp l i hil
         have hib : i < bl.length := by omega
         have hbi : bl[i] = l[i].1 := by subst hbl; simp
         have hsn := catB_snoc bl i hib
         have hfb := badB_at bl i hib hall
         have htake : bl.take (i + 1) = bl.take i ++ [bl[i]] := List.take_succ_eq_append_getElem hib
         have hrl := hrs l[i] (List.getElem_mem hil)
         rw [hbi] at hsn hfb htake
         obtain ⟨mm,hmm⟩ : ∃ x,l[i] = x := ⟨_,rfl⟩
         rw [hmm] at hs1 hsn hfb htake hrl
         obtain ⟨⟨y1,y2,y3,y4,y5,rs⟩,f⟩ := mm
         have hs1 : slot (l.map bvp) i = .agg [.w (.int .i64 y1),.w (.int .i64 y2),.w (.int .i64 y3),.w (.int .i64 y4),.w (.int .i64 y5),.sg 6 (rs.map rv) f] := hs1
         have hmr := zah rs
         have hex2 : ∃ qs : List Rec,rs.map rv = qs.map rv := ⟨rs,rfl⟩
         have hrl : (rs.map rv).length ≤ 9223372036854775807 := by rw [List.length_map]; simp only at hrl; omega
         have hbB : bB ⟨y1,y2,y3,y4,y5,rs⟩ = batB y1 y2 y3 y4 y5 rs := rfl
         have hbE : bE ⟨y1,y2,y3,y4,y5,rs⟩ = batE y1 y2 y3 y4 y5 rs := rfl
         have hYl := zdx y1 y2 y3 y4 y5 rs
         have htl := zax (batB y1 y2 y3 y4 y5 rs) (by omega)
         simp only [hbB,hbE] at hsn hfb
         by_cases hc2 : batE y1 y2 y3 y4 y5 rs = 0
         · obtain ⟨Y,hY⟩ : ∃ x,batB y1 y2 y3 y4 y5 rs = x := ⟨_,rfl⟩
           rw [hY] at hYl htl hsn
           have hYm : Y.length ≤ 1000000 := by omega
           obtain ⟨X,hX⟩ : ∃ x,A ++ (pq (l.length : Int) ++ catB (bl.take i)) = x := ⟨_,rfl⟩
           have hX2 : A ++ (pq (l.length : Int) ++ catB (bl.take (i + 1))) = X ++ zbc Y := by rw [hsn,← hX]; simp
           have hX3 : A.length + ((pq (l.length : Int)).length + (catB (bl.take (i + 1))).length) = X.length + (zbc Y).length := by simpa using congrArg List.length hX2
           rw [hX] at cnt ⊢
           simp only [go_sem,zaa,Nat.reduceAdd,Nat.reduceSub,Nat.reduceMul,Int.reduceToNat,reduceCtorEq,↓reduceIte,Int.reducePow,Nat.reducePow,Int.reduceMod,Nat.reduceLeDiff,Int.reduceLE,Int.reduceNe,Int.reduceEq,Nat.reduceEqDiff,Nat.reduceLT,Nat.reduceBEq,ty,SputA,zce,zcg,hl1,d2,e1,hs1,hmr,hex2,hrl,hc2,hY,hYm,tk,Int.toNat_natCast]
           repeat (refine And.intro (by first | omega | (unfold top; omega)) ?_)
           refine ⟨l.length - (i + 1),_,by omega,zad [0,1,2,3,4,150] rfl rfl rfl ?_ ?_,i + 1,rfl,by omega,?_,rfl⟩
           · simp only [ssT,zae,zaf,setSlot,gOf,AV.ren,renL,Blk.ren,Ax.look,Ax.put,reduceCtorEq,↓reduceIte,Nat.reduceEqDiff,Nat.reduceLT,Nat.reduceAdd,List.length_append,List.length_cons,List.length_nil,Option.some.injEq,hX2,hX3]
           · simp only [ssT,zae,zaf,setSlot,gOf,AV.ren,renL,Blk.ren,Ax.look,Ax.put,reduceCtorEq,↓reduceIte,Nat.reduceEqDiff,Nat.reduceLT,Nat.reduceAdd,List.length_append,List.length_cons,List.length_nil,Option.some.injEq,hX2,hX3]
           · intro q hq
             rw [htake,List.mem_append] at hq
             rcases hq with hq | hq
             · exact hall q hq
             · have : q = ⟨y1,y2,y3,y4,y5,rs⟩ := by simpa using hq
               rw [this]; exact hc2
         · have d3 := decide_eq_false hc2
           have hE : errA k bl pl ks = batE y1 y2 y3 y4 y5 rs := by unfold errA; rw [hbn,if_pos hc]; exact hfb hc2
           have hO : putA k er o x d g bl pl ks = [] := by unfold putA; rw [hE,if_neg hc2]
           rw [hE,hO]
           obtain ⟨C,hC⟩ : ∃ v,batE y1 y2 y3 y4 y5 rs = v := ⟨_,rfl⟩
           rw [hC] at d3 ⊢
           simp only [go_sem,zaa,Nat.reduceAdd,Nat.reduceSub,Nat.reduceMul,Int.reduceToNat,reduceCtorEq,↓reduceIte,Int.reducePow,Nat.reducePow,Int.reduceMod,Nat.reduceLeDiff,Int.reduceLE,Int.reduceNe,Int.reduceEq,Nat.reduceEqDiff,Nat.reduceLT,Nat.reduceBEq,ty,SputA,zce,zcg,hl1,d2,hs1,hmr,hex2,hrl,hC,d3,Int.toNat_natCast]
           repeat (refine And.intro (by first | omega | (unfold top; omega)) ?_)
           refine ⟨_,Weak.refl _,?_⟩
           simp only [go_sem,zaa,Nat.reduceAdd,Nat.reduceSub,Nat.reduceMul,Int.reduceToNat,reduceCtorEq,↓reduceIte,Int.reducePow,Nat.reducePow,Int.reduceMod,Nat.reduceLeDiff,Int.reduceLE,Int.reduceNe,Int.reduceEq,Nat.reduceEqDiff,Nat.reduceLT,Nat.reduceBEq,ty,SputA]
           exact zbl 2 3 (by decide) rfl rfl rfl rfl
       · have d2 : decide ((i : Int) < l.length) = false := decide_eq_false (by omega)
         have hi2 : i = l.length := by omega
         subst hi2
         have htk : bl.take l.length = bl := by rw [← hbn,List.take_length]
         rw [htk] at hall cnt ⊢
         have hf0 : badB bl = 0 := badB_none bl hall
         have hE : errA k bl pl ks = 0 := by unfold errA; rw [hbn,if_pos hc]; exact hf0
         have hO : putA k er o x d g bl pl ks = layA k er o x d g bl pl ks := if_pos hE
         rw [hE,hO]
         obtain ⟨B,hB⟩ : ∃ v,A ++ (pq (l.length : Int) ++ catB bl) = v := ⟨_,rfl⟩
         have hLay : layA k er o x d g bl pl ks = B ++ (pq (pl.length : Int) ++ (catP pl ++ (pq (ks.length : Int) ++ catN ks))) := by
           unfold layA; rw [hAA,hbn,← hB]; simp
         obtain ⟨R,hR⟩ : ∃ v,layA k er o x d g bl pl ks = v := ⟨_,rfl⟩
         rw [hR] at hLay ⊢
         rw [hB] at cnt ⊢
         have hBl : B.length ≤ 60 + 8202 * 64 := by omega
         simp only [go_sem,zaa,Nat.reduceAdd,Nat.reduceSub,Nat.reduceMul,Int.reduceToNat,reduceCtorEq,↓reduceIte,Int.reducePow,Nat.reducePow,Int.reduceMod,Nat.reduceLeDiff,Int.reduceLE,Int.reduceNe,Int.reduceEq,Nat.reduceEqDiff,Nat.reduceLT,Nat.reduceBEq,ty,SputA,hl1,d2]
         refine ⟨_,Weak.refl _,?_⟩
         simp only [go_sem,zaa,Nat.reduceAdd,Nat.reduceSub,Nat.reduceMul,Int.reduceToNat,reduceCtorEq,↓reduceIte,Int.reducePow,Nat.reducePow,Int.reduceMod,Nat.reduceLeDiff,Int.reduceLE,Int.reduceNe,Int.reduceEq,Nat.reduceEqDiff,Nat.reduceLT,Nat.reduceBEq,ty,SputA,putS,hl1,d2,rn2,zbt,tk]
         repeat (refine And.intro (by first | omega | (unfold top; omega)) ?_)
         refine zca ⟨fun m σ => ∃ i : Nat,m = pl.length - i ∧ i ≤ pl.length ∧
           σ = ⟨[.agg [.w (.int .u8 k),.w (.int .i64 er),.w (.int .i64 o),.w (.int .i64 x),.w (.bool d),.w (.int .i64 g),.sg 6 (l.map bvp) f1,.si pl f2,.sg 1 (ks.map AV.str) f3],.rf 4 9 0 0,.junk,.junk,.junk,.ms 5 1 0 (B ++ (pq (pl.length : Int) ++ catP (pl.take i))).length,.junk,.junk,.junk,.junk,.junk,.junk,.junk,.junk,.junk,.junk,.junk,.junk,.junk,.junk,.junk,.junk,.junk,.junk,.junk,.junk,.junk,.junk,.junk,.junk,.junk,.junk,.junk,.junk,.junk,.junk,.junk,.junk,.junk,.junk,.junk,.junk,.junk,.junk,.junk,.junk,.junk,.junk,.junk,.junk,.junk,.junk,.junk,.junk,.junk,.junk,.junk,.junk,.junk,.junk,.junk,.junk,.junk,.junk,.junk,.junk,.junk,.junk,.junk,.junk,.junk,.junk,.junk,.junk,.junk,.junk,.junk,.junk,.junk,.junk,.junk,.junk,.junk,.si pl f2,.w (.int .i64 pl.length),.w (.int .i64 i),.junk,.junk,.junk,.junk,.junk,.junk,.junk,.junk,.junk,.junk,.junk,.junk,.junk,.junk,.junk,.junk,.junk,.junk,.junk,.junk,.junk,.junk,.junk,.junk,.junk,.junk,.junk],[(4,.g 9 [.agg [.w (.int .u8 k),.w (.int .i64 er),.w (.int .i64 o),.w (.int .i64 x),.w (.bool d),.w (.int .i64 g),.sg 6 (l.map bvp) f1,.si pl f2,.sg 1 (ks.map AV.str) f3]]),(5,.b (B ++ (pq (pl.length : Int) ++ catP (pl.take i))))],6⟩,?_,?_⟩
         · refine ⟨_,_,zad [0,1,2,3,4,54] rfl rfl rfl ?_ ?_,0,rfl,by omega,rfl⟩
           · simp only [ssT,zae,zaf,setSlot,gOf,AV.ren,renL,Blk.ren,Ax.look,Ax.put,reduceCtorEq,↓reduceIte,Nat.reduceEqDiff,Nat.reduceLT,Nat.reduceAdd,List.length_append,List.length_cons,List.length_nil,Option.some.injEq]; simp [catP]; try omega
           · simp only [ssT,zae,zaf,setSlot,gOf,AV.ren,renL,Blk.ren,Ax.look,Ax.put,reduceCtorEq,↓reduceIte,Nat.reduceEqDiff,Nat.reduceLT,Nat.reduceAdd,List.length_append,List.length_cons,List.length_nil,Option.some.injEq]; try simp [catP]
         · rintro m σ ⟨i,rfl,hi,rfl⟩
           have cnt2 : (((B ++ (pq (pl.length : Int) ++ catP (pl.take i))).length : Nat)) ≤ 600000 + 10 * i := by
             have h1 := catP_len (pl.take i) (fun n hn => hpk n (List.mem_of_mem_take hn))
             have h2 : (pl.take i).length ≤ i := List.length_take_le _ _
             simp only [List.length_append]; omega
           by_cases hil : i < pl.length
           · have d2 : decide ((i : Int) < pl.length) = true := decide_eq_true (by omega)
             have e1 : ((i : Int) + 1 + 9223372036854775808) % 18446744073709551616 - 9223372036854775808 = ((i + 1 : Nat) : Int) := by omega
             have hs1 : pl.getD i 0 = pl[i] := by rw [List.getD_eq_getElem?_getD,List.getElem?_eq_getElem hil]; rfl
             have hsn := catP_snoc pl i hil
             have hsl := hpk pl[i] (List.getElem_mem hil)
             obtain ⟨n,hS⟩ : ∃ x,pl[i] = x := ⟨_,rfl⟩
             rw [hS] at hs1 hsn hsl
             have htl := zbk n hsl
             unfold okI at hsl
             obtain ⟨X,hX⟩ : ∃ x,B ++ (pq (pl.length : Int) ++ catP (pl.take i)) = x := ⟨_,rfl⟩
             have hX2 : B ++ (pq (pl.length : Int) ++ catP (pl.take (i + 1))) = X ++ pq n := by rw [hsn,← hX]; simp
             have hX3 : B.length + ((pq (pl.length : Int)).length + (catP (pl.take (i + 1))).length) = X.length + (pq n).length := by simpa using congrArg List.length hX2
             rw [hX] at cnt2 ⊢
             simp only [go_sem,zaa,Nat.reduceAdd,Nat.reduceSub,Nat.reduceMul,Int.reduceToNat,reduceCtorEq,↓reduceIte,Int.reducePow,Nat.reducePow,Int.reduceMod,Nat.reduceLeDiff,Int.reduceLE,Int.reduceNe,Int.reduceEq,Nat.reduceEqDiff,Nat.reduceLT,Nat.reduceBEq,ty,SputA,d2,e1,hs1,putS,zbt,hsl,tk,Int.toNat_natCast]
             repeat (refine And.intro (by first | omega | (unfold top; omega)) ?_)
             refine ⟨pl.length - (i + 1),_,by omega,zad [0,1,2,3,4,62] rfl rfl rfl ?_ ?_,i + 1,rfl,by omega,rfl⟩
             · simp only [ssT,zae,zaf,setSlot,gOf,AV.ren,renL,Blk.ren,Ax.look,Ax.put,reduceCtorEq,↓reduceIte,Nat.reduceEqDiff,Nat.reduceLT,Nat.reduceAdd,List.length_append,List.length_cons,List.length_nil,Option.some.injEq,hX2,hX3]
             · simp only [ssT,zae,zaf,setSlot,gOf,AV.ren,renL,Blk.ren,Ax.look,Ax.put,reduceCtorEq,↓reduceIte,Nat.reduceEqDiff,Nat.reduceLT,Nat.reduceAdd,List.length_append,List.length_cons,List.length_nil,Option.some.injEq,hX2,hX3]
           · have d2 : decide ((i : Int) < pl.length) = false := decide_eq_false (by omega)
             have hi2 : i = pl.length := by omega
             subst hi2
             rw [List.take_length] at cnt2 ⊢
             obtain ⟨D,hD⟩ : ∃ v,B ++ (pq (pl.length : Int) ++ catP pl) = v := ⟨_,rfl⟩
             rw [hD] at cnt2 ⊢
             have hDl : D.length ≤ 600000 + 10 * 64 := by omega
             simp only [go_sem,zaa,Nat.reduceAdd,Nat.reduceSub,Nat.reduceMul,Int.reduceToNat,reduceCtorEq,↓reduceIte,Int.reducePow,Nat.reducePow,Int.reduceMod,Nat.reduceLeDiff,Int.reduceLE,Int.reduceNe,Int.reduceEq,Nat.reduceEqDiff,Nat.reduceLT,Nat.reduceBEq,ty,SputA,hl3,d2]
             refine ⟨_,Weak.refl _,?_⟩
             simp only [go_sem,zaa,Nat.reduceAdd,Nat.reduceSub,Nat.reduceMul,Int.reduceToNat,reduceCtorEq,↓reduceIte,Int.reducePow,Nat.reducePow,Int.reduceMod,Nat.reduceLeDiff,Int.reduceLE,Int.reduceNe,Int.reduceEq,Nat.reduceEqDiff,Nat.reduceLT,Nat.reduceBEq,ty,SputA,putS,hl3,d2,rn3,zbt,tk]
             repeat (refine And.intro (by first | omega | (unfold top; omega)) ?_)
             refine zca ⟨fun m σ => ∃ i : Nat,m = ks.length - i ∧ i ≤ ks.length ∧
               σ = ⟨[.agg [.w (.int .u8 k),.w (.int .i64 er),.w (.int .i64 o),.w (.int .i64 x),.w (.bool d),.w (.int .i64 g),.sg 6 (l.map bvp) f1,.si pl f2,.sg 1 (ks.map AV.str) f3],.rf 4 9 0 0,.junk,.junk,.junk,.ms 5 1 0 (D ++ (pq (ks.length : Int) ++ catN (ks.take i))).length,.junk,.junk,.junk,.junk,.junk,.junk,.junk,.junk,.junk,.junk,.junk,.junk,.junk,.junk,.junk,.junk,.junk,.junk,.junk,.junk,.junk,.junk,.junk,.junk,.junk,.junk,.junk,.junk,.junk,.junk,.junk,.junk,.junk,.junk,.junk,.junk,.junk,.junk,.junk,.junk,.junk,.junk,.junk,.junk,.junk,.junk,.junk,.junk,.junk,.junk,.junk,.junk,.junk,.junk,.junk,.junk,.junk,.junk,.junk,.junk,.junk,.junk,.junk,.junk,.junk,.junk,.junk,.junk,.junk,.junk,.junk,.junk,.junk,.junk,.junk,.junk,.junk,.junk,.junk,.junk,.junk,.junk,.junk,.junk,.junk,.junk,.junk,.junk,.junk,.junk,.junk,.junk,.junk,.junk,.junk,.sg 1 (ks.map AV.str) f3,.w (.int .i64 ks.length),.w (.int .i64 i),.junk,.junk,.junk,.junk,.junk,.junk,.junk,.junk,.junk],[(4,.g 9 [.agg [.w (.int .u8 k),.w (.int .i64 er),.w (.int .i64 o),.w (.int .i64 x),.w (.bool d),.w (.int .i64 g),.sg 6 (l.map bvp) f1,.si pl f2,.sg 1 (ks.map AV.str) f3]]),(5,.b (D ++ (pq (ks.length : Int) ++ catN (ks.take i))))],6⟩,?_,?_⟩
             · refine ⟨_,_,zad [0,1,2,3,4,54] rfl rfl rfl ?_ ?_,0,rfl,by omega,rfl⟩
               · simp only [ssT,zae,zaf,setSlot,gOf,AV.ren,renL,Blk.ren,Ax.look,Ax.put,reduceCtorEq,↓reduceIte,Nat.reduceEqDiff,Nat.reduceLT,Nat.reduceAdd,List.length_append,List.length_cons,List.length_nil,Option.some.injEq]; simp [catN]; try omega
               · simp only [ssT,zae,zaf,setSlot,gOf,AV.ren,renL,Blk.ren,Ax.look,Ax.put,reduceCtorEq,↓reduceIte,Nat.reduceEqDiff,Nat.reduceLT,Nat.reduceAdd,List.length_append,List.length_cons,List.length_nil,Option.some.injEq]; try simp [catN]
             · rintro m σ ⟨i,rfl,hi,rfl⟩
               have cnt2 : (((D ++ (pq (ks.length : Int) ++ catN (ks.take i))).length : Nat)) ≤ 700000 + 265 * i := by
                 have h1 := catN_len (ks.take i) (fun s hs => hks s (List.mem_of_mem_take hs))
                 have h2 : (ks.take i).length ≤ i := List.length_take_le _ _
                 simp only [List.length_append]; omega
               by_cases hil : i < ks.length
               · have d2 : decide ((i : Int) < ks.length) = true := decide_eq_true (by omega)
                 have e1 : ((i : Int) + 1 + 9223372036854775808) % 18446744073709551616 - 9223372036854775808 = ((i + 1 : Nat) : Int) := by omega
                 have hs1 := zct ks i hil
                 have hsn := catN_snoc ks i hil
                 have hsl := hks ks[i] (List.getElem_mem hil)
                 obtain ⟨s,hS⟩ : ∃ x,ks[i] = x := ⟨_,rfl⟩
                 rw [hS] at hs1 hsn hsl
                 have hsm : s.length ≤ 1000000 := by omega
                 have htl := zax s hsm
                 obtain ⟨X,hX⟩ : ∃ x,D ++ (pq (ks.length : Int) ++ catN (ks.take i)) = x := ⟨_,rfl⟩
                 have hX2 : D ++ (pq (ks.length : Int) ++ catN (ks.take (i + 1))) = X ++ zbc s := by rw [hsn,← hX]; simp
                 have hX3 : D.length + ((pq (ks.length : Int)).length + (catN (ks.take (i + 1))).length) = X.length + (zbc s).length := by simpa using congrArg List.length hX2
                 rw [hX] at cnt2 ⊢
                 simp only [go_sem,zaa,Nat.reduceAdd,Nat.reduceSub,Nat.reduceMul,Int.reduceToNat,reduceCtorEq,↓reduceIte,Int.reducePow,Nat.reducePow,Int.reduceMod,Nat.reduceLeDiff,Int.reduceLE,Int.reduceNe,Int.reduceEq,Nat.reduceEqDiff,Nat.reduceLT,Nat.reduceBEq,ty,SputA,hl3,d2,e1,hs1,zcg,hsm,tk,Int.toNat_natCast]
                 repeat (refine And.intro (by first | omega | (unfold top; omega)) ?_)
                 refine ⟨ks.length - (i + 1),_,by omega,zad [0,1,2,3,4,62] rfl rfl rfl ?_ ?_,i + 1,rfl,by omega,rfl⟩
                 · simp only [ssT,zae,zaf,setSlot,gOf,AV.ren,renL,Blk.ren,Ax.look,Ax.put,reduceCtorEq,↓reduceIte,Nat.reduceEqDiff,Nat.reduceLT,Nat.reduceAdd,List.length_append,List.length_cons,List.length_nil,Option.some.injEq,hX2,hX3]
                 · simp only [ssT,zae,zaf,setSlot,gOf,AV.ren,renL,Blk.ren,Ax.look,Ax.put,reduceCtorEq,↓reduceIte,Nat.reduceEqDiff,Nat.reduceLT,Nat.reduceAdd,List.length_append,List.length_cons,List.length_nil,Option.some.injEq,hX2,hX3]
               · have d2 : decide ((i : Int) < ks.length) = false := decide_eq_false (by omega)
                 have hi2 : i = ks.length := by omega
                 subst hi2
                 rw [List.take_length] at cnt2 ⊢
                 simp only [go_sem,zaa,Nat.reduceAdd,Nat.reduceSub,Nat.reduceMul,Int.reduceToNat,reduceCtorEq,↓reduceIte,Int.reducePow,Nat.reducePow,Int.reduceMod,Nat.reduceLeDiff,Int.reduceLE,Int.reduceNe,Int.reduceEq,Nat.reduceEqDiff,Nat.reduceLT,Nat.reduceBEq,ty,SputA,hl3,d2]
                 refine ⟨_,Weak.refl _,?_⟩
                 simp only [go_sem,zaa,Nat.reduceAdd,Nat.reduceSub,Nat.reduceMul,Int.reduceToNat,reduceCtorEq,↓reduceIte,Int.reducePow,Nat.reducePow,Int.reduceMod,Nat.reduceLeDiff,Int.reduceLE,Int.reduceNe,Int.reduceEq,Nat.reduceEqDiff,Nat.reduceLT,Nat.reduceBEq,ty,SputA,hl3,d2]
                 exact zbn 2 3 (by decide) rfl rfl rfl (by simp) (by rw [hLay,← hD]; simp) rfl
   · have d0 := decide_eq_false hc
     have hE : errA k (l.map Prod.fst) pl ks = chkA k l.length pl.length ks := by unfold errA; rw [hfl,if_neg hc]
     have hO : putA k er o x d g (l.map Prod.fst) pl ks = [] := by unfold putA; rw [hE,if_neg hc]
     rw [hE,hO]
     obtain ⟨C,hC⟩ : ∃ v,chkA k l.length pl.length ks = v := ⟨_,rfl⟩
     rw [hC] at d0 ⊢
     simp only [go_sem,zaa,Nat.reduceAdd,Nat.reduceSub,Nat.reduceMul,Int.reduceToNat,reduceCtorEq,↓reduceIte,Int.reducePow,Nat.reducePow,Int.reduceMod,Nat.reduceLeDiff,Int.reduceLE,Int.reduceNe,Int.reduceEq,Nat.reduceEqDiff,Nat.reduceLT,Nat.reduceBEq,ty,SputA,chkAS,hl1,hl3,hmu,hC,hk0,hk1,c1,c2,c3,hex,d0]
     exact zbl 2 3 (by decide) rfl rfl rfl rfl
 · exact hp.elim
end
end Go.Proofs.Ytmedjkjoannbmaa
