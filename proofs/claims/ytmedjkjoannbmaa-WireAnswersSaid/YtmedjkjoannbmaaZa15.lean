/- What the proofs of this seat stand on; it asks nothing. -/
import Derived.Test.YtmedjkjoannbmaaZa14
set_option linter.unusedSimpArgs false
set_option linter.unusedVariables false
namespace Go.Proofs.Ytmedjkjoannbmaa
open Ax
def nx22 (x : Int) (s : List UInt8 × Int) : List UInt8 × Int := zbu x s.1 s.2
def sq0 (b : List UInt8) : List UInt8 × Int := (zfg 1 b 0,rfixE 1 b 0)
def kq (b : List UInt8) : Int := zei 1 b 0 % 256
def rdR (b : List UInt8) : Rq :=
 if kq b = 0 then ⟨0,rtS' 255 (sq0 b).1 (sq0 b).2,0,numN (nx22 116 (sq0 b)).1 (nx22 116 (sq0 b)).2,decide (zei 1 (nx22 112 (nx22 116 (sq0 b))).1 (nx22 112 (nx22 116 (sq0 b))).2 = 1),false,0,0,0,[],[],0,zB⟩
 else if kq b = 1 then ⟨1,rtS' 255 (sq0 b).1 (sq0 b).2,0,0,false,false,0,0,0,[],[],0,zB⟩
 else if kq b = 2 then ⟨2,rtS' 255 (sq0 b).1 (sq0 b).2,0,0,false,false,0,0,0,[],[],0,zB⟩
 else if kq b = 3 then ⟨3,rtS' 255 (sq0 b).1 (sq0 b).2,numN (nx22 116 (sq0 b)).1 (nx22 116 (sq0 b)).2,0,false,decide (zei 1 (nx22 105 (nx22 116 (sq0 b))).1 (nx22 105 (nx22 116 (sq0 b))).2 = 1),0,0,0,[],[],0,zdg (rtS' 8192 (nx22 102 (nx22 105 (nx22 116 (sq0 b)))).1 (nx22 102 (nx22 105 (nx22 116 (sq0 b)))).2)⟩
 else if kq b = 4 then ⟨4,rtS' 255 (sq0 b).1 (sq0 b).2,numN (nx22 116 (sq0 b)).1 (nx22 116 (sq0 b)).2,0,false,false,numN (nx22 105 (nx22 116 (sq0 b))).1 (nx22 105 (nx22 116 (sq0 b))).2,numN (nx22 111 (nx22 105 (nx22 116 (sq0 b)))).1 (nx22 111 (nx22 105 (nx22 116 (sq0 b)))).2,0,[],[],0,zB⟩
 else if kq b = 5 then ⟨5,rtS' 255 (sq0 b).1 (sq0 b).2,numN (nx22 116 (sq0 b)).1 (nx22 116 (sq0 b)).2,0,false,false,0,0,numN (nx22 105 (nx22 116 (sq0 b))).1 (nx22 105 (nx22 116 (sq0 b))).2,[],[],0,zB⟩
 else if kq b = 6 then ⟨6,[],0,0,false,false,0,0,0,rtS' 255 (sq0 b).1 (sq0 b).2,rtS' 255 (nx22 103 (sq0 b)).1 (nx22 103 (sq0 b)).2,0,zB⟩
 else if kq b = 7 then ⟨7,rtS' 255 (sq0 b).1 (sq0 b).2,0,0,false,false,0,0,0,rtS' 255 (nx22 116 (sq0 b)).1 (nx22 116 (sq0 b)).2,rtS' 255 (nx22 103 (nx22 116 (sq0 b))).1 (nx22 103 (nx22 116 (sq0 b))).2,numN (nx22 107 (nx22 103 (nx22 116 (sq0 b)))).1 (nx22 107 (nx22 103 (nx22 116 (sq0 b)))).2,zB⟩
 else if kq b = 8 then ⟨8,[],0,0,false,false,0,0,0,rtS' 255 (sq0 b).1 (sq0 b).2,rtS' 255 (nx22 103 (sq0 b)).1 (nx22 103 (sq0 b)).2,numN (nx22 107 (nx22 103 (sq0 b))).1 (nx22 107 (nx22 103 (sq0 b))).2,zB⟩
 else if kq b = 9 then ⟨9,[],0,0,false,false,0,0,0,rtS' 255 (sq0 b).1 (sq0 b).2,rtS' 255 (nx22 103 (sq0 b)).1 (nx22 103 (sq0 b)).2,0,zB⟩
 else if kq b = 10 then ⟨10,rtS' 255 (sq0 b).1 (sq0 b).2,numN (nx22 116 (sq0 b)).1 (nx22 116 (sq0 b)).2,0,false,false,numN (nx22 105 (nx22 116 (sq0 b))).1 (nx22 105 (nx22 116 (sq0 b))).2,0,0,rtS' 255 (nx22 111 (nx22 105 (nx22 116 (sq0 b)))).1 (nx22 111 (nx22 105 (nx22 116 (sq0 b)))).2,rtS' 255 (nx22 103 (nx22 111 (nx22 105 (nx22 116 (sq0 b))))).1 (nx22 103 (nx22 111 (nx22 105 (nx22 116 (sq0 b))))).2,numN (nx22 107 (nx22 103 (nx22 111 (nx22 105 (nx22 116 (sq0 b)))))).1 (nx22 107 (nx22 103 (nx22 111 (nx22 105 (nx22 116 (sq0 b)))))).2,zB⟩
 else if kq b = 11 then ⟨11,rtS' 255 (sq0 b).1 (sq0 b).2,numN (nx22 116 (sq0 b)).1 (nx22 116 (sq0 b)).2,0,false,false,0,0,0,rtS' 255 (nx22 105 (nx22 116 (sq0 b))).1 (nx22 105 (nx22 116 (sq0 b))).2,[],0,zB⟩
 else ⟨kq b,[],0,0,false,false,0,0,0,[],[],0,zB⟩
def rdS (b : List UInt8) : List UInt8 × Int :=
 if kq b = 0 then nx22 99 (nx22 112 (nx22 116 (sq0 b)))
 else if kq b = 1 then nx22 116 (sq0 b)
 else if kq b = 2 then nx22 116 (sq0 b)
 else if kq b = 3 then nx22 98 (nx22 102 (nx22 105 (nx22 116 (sq0 b))))
 else if kq b = 4 then nx22 109 (nx22 111 (nx22 105 (nx22 116 (sq0 b))))
 else if kq b = 5 then nx22 119 (nx22 105 (nx22 116 (sq0 b)))
 else if kq b = 6 then nx22 107 (nx22 103 (sq0 b))
 else if kq b = 7 then nx22 110 (nx22 107 (nx22 103 (nx22 116 (sq0 b))))
 else if kq b = 8 then nx22 110 (nx22 107 (nx22 103 (sq0 b)))
 else if kq b = 9 then nx22 107 (nx22 103 (sq0 b))
 else if kq b = 10 then nx22 110 (nx22 107 (nx22 103 (nx22 111 (nx22 105 (nx22 116 (sq0 b))))))
 else if kq b = 11 then nx22 103 (nx22 105 (nx22 116 (sq0 b)))
 else sq0 b
def chkR (q : Rq) : Int := chkQ q.k q.t q.i q.p q.c q.f q.o q.m q.w q.g q.mb q.n q.b.b q.b.c q.b.p q.b.e q.b.s q.b.rs
def layR (q : Rq) : List UInt8 := layQ q.k q.t q.i q.p q.c q.f q.o q.m q.w q.g q.mb q.n q.b.b q.b.c q.b.p q.b.e q.b.s q.b.rs
def putR (q : Rq) : List UInt8 := putQ q.k q.t q.i q.p q.c q.f q.o q.m q.w q.g q.mb q.n q.b.b q.b.c q.b.p q.b.e q.b.s q.b.rs
def fitR (q : Rq) : Prop := (0 ≤ q.k ∧ q.k < 256) ∧ lenQ q.t q.g q.mb ∧ intQ q.i q.p q.o q.m q.w q.n ∧ q.b.rs.length ≤ 40
theorem kq_rng (b : List UInt8) : 0 ≤ kq b ∧ kq b < 256 := by unfold kq; omega
theorem rdR_k (b : List UInt8) : (rdR b).k = kq b := by
 unfold rdR
 by_cases h0 : kq b = 0
 · rw [if_pos h0]; exact h0.symm
 rw [if_neg h0]
 by_cases h1 : kq b = 1
 · rw [if_pos h1]; exact h1.symm
 rw [if_neg h1]
 by_cases h2 : kq b = 2
 · rw [if_pos h2]; exact h2.symm
 rw [if_neg h2]
 by_cases h3 : kq b = 3
 · rw [if_pos h3]; exact h3.symm
 rw [if_neg h3]
 by_cases h4 : kq b = 4
 · rw [if_pos h4]; exact h4.symm
 rw [if_neg h4]
 by_cases h5 : kq b = 5
 · rw [if_pos h5]; exact h5.symm
 rw [if_neg h5]
 by_cases h6 : kq b = 6
 · rw [if_pos h6]; exact h6.symm
 rw [if_neg h6]
 by_cases h7 : kq b = 7
 · rw [if_pos h7]; exact h7.symm
 rw [if_neg h7]
 by_cases h8 : kq b = 8
 · rw [if_pos h8]; exact h8.symm
 rw [if_neg h8]
 by_cases h9 : kq b = 9
 · rw [if_pos h9]; exact h9.symm
 rw [if_neg h9]
 by_cases h10 : kq b = 10
 · rw [if_pos h10]; exact h10.symm
 rw [if_neg h10]
 by_cases h11 : kq b = 11
 · rw [if_pos h11]; exact h11.symm
 rw [if_neg h11]
theorem zdm (x : Int) (hx : x = 116 ∨ x = 103 ∨ x = 107) (s r : List UInt8) (hs : s.length ≤ 255) : nx22 x (zaj s ++ r,0) = (r,0) ∧ rtS' 255 (zaj s ++ r) 0 = s := by
 obtain ⟨t1,t2,t3⟩ := text_put 255 s r (by omega) (by omega)
 unfold nx22 zbu
 rw [if_pos hx]
 simp only
 rw [t1,t2,t3]; exact ⟨rfl,rfl⟩
theorem nx_num (x : Int) (hx : x = 105 ∨ x = 112 ∨ x = 111 ∨ x = 109 ∨ x = 119 ∨ x = 110) (v : Int) (hv : okI v) (r : List UInt8) : nx22 x (pq v ++ r,0) = (r,0) ∧ numN (pq v ++ r) 0 = v := by
 obtain ⟨t1,t2,t3⟩ := num_put v hv.1 hv.2 r
 unfold nx22 zbu pq
 rw [if_neg (by omega),if_neg (by omega),if_neg (by omega)]
 simp only
 rw [t1,t2,t3]; exact ⟨rfl,rfl⟩
theorem nx_bit (x : Int) (hx : x = 99 ∨ x = 102) (v : Bool) (r : List UInt8) : nx22 x ([UInt8.ofNat (bitN v).toNat] ++ r,0) = (r,0) ∧ decide (zei 1 ([UInt8.ofNat (bitN v).toNat] ++ r) 0 = 1) = v := by
 obtain ⟨t1,t2,t3⟩ := fix1_cons (UInt8.ofNat (bitN v).toNat) r
 unfold nx22 zbu
 rw [if_neg (by omega),if_pos hx]
 simp only [List.singleton_append,t1,t2,t3]
 exact ⟨trivial,by cases v <;> decide⟩
theorem nx_batch (x : Bat) (h : bE x = 0) (r : List UInt8) : nx22 98 (zaj (bB x) ++ r,0) = (r,0) ∧ zdg (rtS' 8192 (zaj (bB x) ++ r) 0) = x := by
 have hl := bB_length h
 obtain ⟨t1,t2,t3⟩ := text_put 8192 (bB x) r (by omega) (by omega)
 unfold nx22 zbu
 rw [if_neg (by decide),if_neg (by decide),if_pos rfl]
 simp only
 rw [t1,t2,t3]
 exact ⟨rfl,by unfold zdg; rw [bget_put h]; rfl⟩
theorem sq0_put (k : Int) (hk : 0 ≤ k ∧ k < 256) (r : List UInt8) : sq0 (UInt8.ofNat k.toNat :: r) = (r,0) ∧ kq (UInt8.ofNat k.toNat :: r) = k := by
 obtain ⟨h1,h2,h3⟩ := fix1_cons (UInt8.ofNat k.toNat) r
 unfold sq0 kq
 rw [h1,h2,h3]
 have : (UInt8.ofNat k.toNat).toNat = k.toNat := by rw [UInt8.toNat_ofNat']; exact Nat.mod_eq_of_lt (by omega)
 rw [this]
 exact ⟨rfl,by omega⟩
theorem eqQ_eq {k : Int} {t : List UInt8} {i p : Int} {c f : Bool} {o m w : Int} {g mb : List UInt8} {n k' : Int} {t' : List UInt8} {i' p' : Int} {c' f' : Bool} {o' m' w' : Int} {g' mb' : List UInt8} {n' : Int} {B : Bool}
   (h : eqQ k t i p c f o m w g mb n k' t' i' p' c' f' o' m' w' g' mb' n' B = true) : (k = k' ∧ t = t' ∧ i = i' ∧ p = p' ∧ c = c' ∧ f = f' ∧ o = o' ∧ m = m' ∧ w = w' ∧ g = g' ∧ mb = mb' ∧ n = n') ∧ B = true := by
 unfold eqQ at h
 rw [Bool.and_eq_true,decide_eq_true_iff] at h; exact h
theorem zdo {b c p e s : Int} {rs : List Rec} {b' c' p' e' s' : Int} {qs : List Rec} (h : zdh b c p e s rs b' c' p' e' s' qs = true) : b = b' ∧ c = c' ∧ p = p' ∧ e = e' ∧ s = s' ∧ rs = qs := by
 unfold zdh at h; exact of_decide_eq_true h
theorem rd_k0 {t : List UInt8} {i p : Int} {c f : Bool} {o m w : Int} {g mb : List UInt8} {n : Int} {b : Bat} (h : chkR ⟨0,t,i,p,c,f,o,m,w,g,mb,n,b⟩ = 0) (hi : intQ i p o m w n) (r : List UInt8) :
   rdR (layR ⟨0,t,i,p,c,f,o,m,w,g,mb,n,b⟩ ++ r) = ⟨0,t,i,p,c,f,o,m,w,g,mb,n,b⟩ ∧ rdS (layR ⟨0,t,i,p,c,f,o,m,w,g,mb,n,b⟩ ++ r) = (r,0) := by
 obtain ⟨-,hso,hlong,hb⟩ := zbb _ h
 obtain ⟨i1,i2,i3,i4,i5,i6⟩ := hi
 unfold zbp at hso
 simp only [Int.reduceEq,or_self,or_false,false_or,or_true,true_or,if_true,if_false] at hso
 obtain ⟨⟨e0,e1,e2,e3,e4,e5,e6,e7,e8,e9,e10,e11⟩,e12⟩ := eqQ_eq hso
 have e12 := zdo e12
 unfold zch at hlong
 simp only at hlong
 have hL : layR ⟨0,t,i,p,c,f,o,m,w,g,mb,n,b⟩ ++ r = UInt8.ofNat (0 : Int).toNat :: (zaj t ++ (pq p ++ ([UInt8.ofNat (bitN c).toNat] ++ r))) := by simp [layR,layQ,zat,zbc,bB]
 rw [hL]
 obtain ⟨s0,k0⟩ := sq0_put 0 (by decide) (zaj t ++ (pq p ++ ([UInt8.ofNat (bitN c).toNat] ++ r)))
 obtain ⟨s1,v1⟩ := zdm 116 (by decide) t (pq p ++ ([UInt8.ofNat (bitN c).toNat] ++ r)) (by omega)
 obtain ⟨s2,v2⟩ := nx_num 112 (by decide) p i2 ([UInt8.ofNat (bitN c).toNat] ++ r)
 obtain ⟨s3,v3⟩ := nx_bit 99 (by decide) c (r)
 unfold rdR rdS
 rw [k0]
 simp only [Int.reduceEq,if_true,if_false,s0,s1,s2,s3,v1,v2,v3]
 obtain ⟨c1,c2,c3,c4,c5,c6⟩ := e12
 try simp only at c1 c2 c3 c4 c5 c6
 have hzb : b = zB := by cases b; simp only at c1 c2 c3 c4 c5 c6; subst c1 c2 c3 c4 c5 c6; rfl
 subst hzb
 simp only [e2,e5,e6,e7,e8,e9,e10,e11,and_self]
theorem rd_k1 {t : List UInt8} {i p : Int} {c f : Bool} {o m w : Int} {g mb : List UInt8} {n : Int} {b : Bat} (h : chkR ⟨1,t,i,p,c,f,o,m,w,g,mb,n,b⟩ = 0) (hi : intQ i p o m w n) (r : List UInt8) :
   rdR (layR ⟨1,t,i,p,c,f,o,m,w,g,mb,n,b⟩ ++ r) = ⟨1,t,i,p,c,f,o,m,w,g,mb,n,b⟩ ∧ rdS (layR ⟨1,t,i,p,c,f,o,m,w,g,mb,n,b⟩ ++ r) = (r,0) := by
 obtain ⟨-,hso,hlong,hb⟩ := zbb _ h
 obtain ⟨i1,i2,i3,i4,i5,i6⟩ := hi
 unfold zbp at hso
 simp only [Int.reduceEq,or_self,or_false,false_or,or_true,true_or,if_true,if_false] at hso
 obtain ⟨⟨e0,e1,e2,e3,e4,e5,e6,e7,e8,e9,e10,e11⟩,e12⟩ := eqQ_eq hso
 have e12 := zdo e12
 unfold zch at hlong
 simp only at hlong
 have hL : layR ⟨1,t,i,p,c,f,o,m,w,g,mb,n,b⟩ ++ r = UInt8.ofNat (1 : Int).toNat :: (zaj t ++ r) := by simp [layR,layQ,zat,zbc,bB]
 rw [hL]
 obtain ⟨s0,k0⟩ := sq0_put 1 (by decide) (zaj t ++ r)
 obtain ⟨s1,v1⟩ := zdm 116 (by decide) t (r) (by omega)
 unfold rdR rdS
 rw [k0]
 simp only [Int.reduceEq,if_true,if_false,s0,s1,v1]
 obtain ⟨c1,c2,c3,c4,c5,c6⟩ := e12
 try simp only at c1 c2 c3 c4 c5 c6
 have hzb : b = zB := by cases b; simp only at c1 c2 c3 c4 c5 c6; subst c1 c2 c3 c4 c5 c6; rfl
 subst hzb
 simp only [e2,e3,e4,e5,e6,e7,e8,e9,e10,e11,and_self]
theorem rd_k2 {t : List UInt8} {i p : Int} {c f : Bool} {o m w : Int} {g mb : List UInt8} {n : Int} {b : Bat} (h : chkR ⟨2,t,i,p,c,f,o,m,w,g,mb,n,b⟩ = 0) (hi : intQ i p o m w n) (r : List UInt8) :
   rdR (layR ⟨2,t,i,p,c,f,o,m,w,g,mb,n,b⟩ ++ r) = ⟨2,t,i,p,c,f,o,m,w,g,mb,n,b⟩ ∧ rdS (layR ⟨2,t,i,p,c,f,o,m,w,g,mb,n,b⟩ ++ r) = (r,0) := by
 obtain ⟨-,hso,hlong,hb⟩ := zbb _ h
 obtain ⟨i1,i2,i3,i4,i5,i6⟩ := hi
 unfold zbp at hso
 simp only [Int.reduceEq,or_self,or_false,false_or,or_true,true_or,if_true,if_false] at hso
 obtain ⟨⟨e0,e1,e2,e3,e4,e5,e6,e7,e8,e9,e10,e11⟩,e12⟩ := eqQ_eq hso
 have e12 := zdo e12
 unfold zch at hlong
 simp only at hlong
 have hL : layR ⟨2,t,i,p,c,f,o,m,w,g,mb,n,b⟩ ++ r = UInt8.ofNat (2 : Int).toNat :: (zaj t ++ r) := by simp [layR,layQ,zat,zbc,bB]
 rw [hL]
 obtain ⟨s0,k0⟩ := sq0_put 2 (by decide) (zaj t ++ r)
 obtain ⟨s1,v1⟩ := zdm 116 (by decide) t (r) (by omega)
 unfold rdR rdS
 rw [k0]
 simp only [Int.reduceEq,if_true,if_false,s0,s1,v1]
 obtain ⟨c1,c2,c3,c4,c5,c6⟩ := e12
 try simp only at c1 c2 c3 c4 c5 c6
 have hzb : b = zB := by cases b; simp only at c1 c2 c3 c4 c5 c6; subst c1 c2 c3 c4 c5 c6; rfl
 subst hzb
 simp only [e2,e3,e4,e5,e6,e7,e8,e9,e10,e11,and_self]
theorem rd_k3 {t : List UInt8} {i p : Int} {c f : Bool} {o m w : Int} {g mb : List UInt8} {n : Int} {b : Bat} (h : chkR ⟨3,t,i,p,c,f,o,m,w,g,mb,n,b⟩ = 0) (hi : intQ i p o m w n) (r : List UInt8) :
   rdR (layR ⟨3,t,i,p,c,f,o,m,w,g,mb,n,b⟩ ++ r) = ⟨3,t,i,p,c,f,o,m,w,g,mb,n,b⟩ ∧ rdS (layR ⟨3,t,i,p,c,f,o,m,w,g,mb,n,b⟩ ++ r) = (r,0) := by
 obtain ⟨-,hso,hlong,hb⟩ := zbb _ h
 obtain ⟨i1,i2,i3,i4,i5,i6⟩ := hi
 unfold zbp at hso
 simp only [Int.reduceEq,or_self,or_false,false_or,or_true,true_or,if_true,if_false] at hso
 obtain ⟨⟨e0,e1,e2,e3,e4,e5,e6,e7,e8,e9,e10,e11⟩,e12⟩ := eqQ_eq hso
 have e12 := zdo e12
 unfold zch at hlong
 simp only at hlong
 obtain ⟨hbE,hb0⟩ := hb rfl
 simp only at hbE hb0
 have hE : bE b = 0 := by unfold bE; rw [hb0]; exact hbE
 have hL : layR ⟨3,t,i,p,c,f,o,m,w,g,mb,n,b⟩ ++ r = UInt8.ofNat (3 : Int).toNat :: (zaj t ++ (pq i ++ ([UInt8.ofNat (bitN f).toNat] ++ (zaj (bB b) ++ r)))) := by simp [layR,layQ,zat,zbc,bB]
 rw [hL]
 obtain ⟨s0,k0⟩ := sq0_put 3 (by decide) (zaj t ++ (pq i ++ ([UInt8.ofNat (bitN f).toNat] ++ (zaj (bB b) ++ r))))
 obtain ⟨s1,v1⟩ := zdm 116 (by decide) t (pq i ++ ([UInt8.ofNat (bitN f).toNat] ++ (zaj (bB b) ++ r))) (by omega)
 obtain ⟨s2,v2⟩ := nx_num 105 (by decide) i i1 ([UInt8.ofNat (bitN f).toNat] ++ (zaj (bB b) ++ r))
 obtain ⟨s3,v3⟩ := nx_bit 102 (by decide) f (zaj (bB b) ++ r)
 obtain ⟨s4,v4⟩ := nx_batch b hE (r)
 unfold rdR rdS
 rw [k0]
 simp only [Int.reduceEq,if_true,if_false,s0,s1,s2,s3,s4,v1,v2,v3,v4]
 simp only [e3,e4,e6,e7,e8,e9,e10,e11,and_self]
theorem rd_k4 {t : List UInt8} {i p : Int} {c f : Bool} {o m w : Int} {g mb : List UInt8} {n : Int} {b : Bat} (h : chkR ⟨4,t,i,p,c,f,o,m,w,g,mb,n,b⟩ = 0) (hi : intQ i p o m w n) (r : List UInt8) :
   rdR (layR ⟨4,t,i,p,c,f,o,m,w,g,mb,n,b⟩ ++ r) = ⟨4,t,i,p,c,f,o,m,w,g,mb,n,b⟩ ∧ rdS (layR ⟨4,t,i,p,c,f,o,m,w,g,mb,n,b⟩ ++ r) = (r,0) := by
 obtain ⟨-,hso,hlong,hb⟩ := zbb _ h
 obtain ⟨i1,i2,i3,i4,i5,i6⟩ := hi
 unfold zbp at hso
 simp only [Int.reduceEq,or_self,or_false,false_or,or_true,true_or,if_true,if_false] at hso
 obtain ⟨⟨e0,e1,e2,e3,e4,e5,e6,e7,e8,e9,e10,e11⟩,e12⟩ := eqQ_eq hso
 have e12 := zdo e12
 unfold zch at hlong
 simp only at hlong
 have hL : layR ⟨4,t,i,p,c,f,o,m,w,g,mb,n,b⟩ ++ r = UInt8.ofNat (4 : Int).toNat :: (zaj t ++ (pq i ++ (pq o ++ (pq m ++ r)))) := by simp [layR,layQ,zat,zbc,bB]
 rw [hL]
 obtain ⟨s0,k0⟩ := sq0_put 4 (by decide) (zaj t ++ (pq i ++ (pq o ++ (pq m ++ r))))
 obtain ⟨s1,v1⟩ := zdm 116 (by decide) t (pq i ++ (pq o ++ (pq m ++ r))) (by omega)
 obtain ⟨s2,v2⟩ := nx_num 105 (by decide) i i1 (pq o ++ (pq m ++ r))
 obtain ⟨s3,v3⟩ := nx_num 111 (by decide) o i3 (pq m ++ r)
 obtain ⟨s4,v4⟩ := nx_num 109 (by decide) m i4 (r)
 unfold rdR rdS
 rw [k0]
 simp only [Int.reduceEq,if_true,if_false,s0,s1,s2,s3,s4,v1,v2,v3,v4]
 obtain ⟨c1,c2,c3,c4,c5,c6⟩ := e12
 try simp only at c1 c2 c3 c4 c5 c6
 have hzb : b = zB := by cases b; simp only at c1 c2 c3 c4 c5 c6; subst c1 c2 c3 c4 c5 c6; rfl
 subst hzb
 simp only [e3,e4,e5,e8,e9,e10,e11,and_self]
theorem rd_k5 {t : List UInt8} {i p : Int} {c f : Bool} {o m w : Int} {g mb : List UInt8} {n : Int} {b : Bat} (h : chkR ⟨5,t,i,p,c,f,o,m,w,g,mb,n,b⟩ = 0) (hi : intQ i p o m w n) (r : List UInt8) :
   rdR (layR ⟨5,t,i,p,c,f,o,m,w,g,mb,n,b⟩ ++ r) = ⟨5,t,i,p,c,f,o,m,w,g,mb,n,b⟩ ∧ rdS (layR ⟨5,t,i,p,c,f,o,m,w,g,mb,n,b⟩ ++ r) = (r,0) := by
 obtain ⟨-,hso,hlong,hb⟩ := zbb _ h
 obtain ⟨i1,i2,i3,i4,i5,i6⟩ := hi
 unfold zbp at hso
 simp only [Int.reduceEq,or_self,or_false,false_or,or_true,true_or,if_true,if_false] at hso
 obtain ⟨⟨e0,e1,e2,e3,e4,e5,e6,e7,e8,e9,e10,e11⟩,e12⟩ := eqQ_eq hso
 have e12 := zdo e12
 unfold zch at hlong
 simp only at hlong
 have hL : layR ⟨5,t,i,p,c,f,o,m,w,g,mb,n,b⟩ ++ r = UInt8.ofNat (5 : Int).toNat :: (zaj t ++ (pq i ++ (pq w ++ r))) := by simp [layR,layQ,zat,zbc,bB]
 rw [hL]
 obtain ⟨s0,k0⟩ := sq0_put 5 (by decide) (zaj t ++ (pq i ++ (pq w ++ r)))
 obtain ⟨s1,v1⟩ := zdm 116 (by decide) t (pq i ++ (pq w ++ r)) (by omega)
 obtain ⟨s2,v2⟩ := nx_num 105 (by decide) i i1 (pq w ++ r)
 obtain ⟨s3,v3⟩ := nx_num 119 (by decide) w i5 (r)
 unfold rdR rdS
 rw [k0]
 simp only [Int.reduceEq,if_true,if_false,s0,s1,s2,s3,v1,v2,v3]
 obtain ⟨c1,c2,c3,c4,c5,c6⟩ := e12
 try simp only at c1 c2 c3 c4 c5 c6
 have hzb : b = zB := by cases b; simp only at c1 c2 c3 c4 c5 c6; subst c1 c2 c3 c4 c5 c6; rfl
 subst hzb
 simp only [e3,e4,e5,e6,e7,e9,e10,e11,and_self]
theorem rd_k6 {t : List UInt8} {i p : Int} {c f : Bool} {o m w : Int} {g mb : List UInt8} {n : Int} {b : Bat} (h : chkR ⟨6,t,i,p,c,f,o,m,w,g,mb,n,b⟩ = 0) (hi : intQ i p o m w n) (r : List UInt8) :
   rdR (layR ⟨6,t,i,p,c,f,o,m,w,g,mb,n,b⟩ ++ r) = ⟨6,t,i,p,c,f,o,m,w,g,mb,n,b⟩ ∧ rdS (layR ⟨6,t,i,p,c,f,o,m,w,g,mb,n,b⟩ ++ r) = (r,0) := by
 obtain ⟨-,hso,hlong,hb⟩ := zbb _ h
 obtain ⟨i1,i2,i3,i4,i5,i6⟩ := hi
 unfold zbp at hso
 simp only [Int.reduceEq,or_self,or_false,false_or,or_true,true_or,if_true,if_false] at hso
 obtain ⟨⟨e0,e1,e2,e3,e4,e5,e6,e7,e8,e9,e10,e11⟩,e12⟩ := eqQ_eq hso
 have e12 := zdo e12
 unfold zch at hlong
 simp only at hlong
 have hL : layR ⟨6,t,i,p,c,f,o,m,w,g,mb,n,b⟩ ++ r = UInt8.ofNat (6 : Int).toNat :: (zaj g ++ (zaj mb ++ r)) := by simp [layR,layQ,zat,zbc,bB]
 rw [hL]
 obtain ⟨s0,k0⟩ := sq0_put 6 (by decide) (zaj g ++ (zaj mb ++ r))
 obtain ⟨s1,v1⟩ := zdm 103 (by decide) g (zaj mb ++ r) (by omega)
 obtain ⟨s2,v2⟩ := zdm 107 (by decide) mb (r) (by omega)
 unfold rdR rdS
 rw [k0]
 simp only [Int.reduceEq,if_true,if_false,s0,s1,s2,v1,v2]
 obtain ⟨c1,c2,c3,c4,c5,c6⟩ := e12
 try simp only at c1 c2 c3 c4 c5 c6
 have hzb : b = zB := by cases b; simp only at c1 c2 c3 c4 c5 c6; subst c1 c2 c3 c4 c5 c6; rfl
 subst hzb
 simp only [e1,e2,e3,e4,e5,e6,e7,e8,e11,and_self]
theorem rd_k7 {t : List UInt8} {i p : Int} {c f : Bool} {o m w : Int} {g mb : List UInt8} {n : Int} {b : Bat} (h : chkR ⟨7,t,i,p,c,f,o,m,w,g,mb,n,b⟩ = 0) (hi : intQ i p o m w n) (r : List UInt8) :
   rdR (layR ⟨7,t,i,p,c,f,o,m,w,g,mb,n,b⟩ ++ r) = ⟨7,t,i,p,c,f,o,m,w,g,mb,n,b⟩ ∧ rdS (layR ⟨7,t,i,p,c,f,o,m,w,g,mb,n,b⟩ ++ r) = (r,0) := by
 obtain ⟨-,hso,hlong,hb⟩ := zbb _ h
 obtain ⟨i1,i2,i3,i4,i5,i6⟩ := hi
 unfold zbp at hso
 simp only [Int.reduceEq,or_self,or_false,false_or,or_true,true_or,if_true,if_false] at hso
 obtain ⟨⟨e0,e1,e2,e3,e4,e5,e6,e7,e8,e9,e10,e11⟩,e12⟩ := eqQ_eq hso
 have e12 := zdo e12
 unfold zch at hlong
 simp only at hlong
 have hL : layR ⟨7,t,i,p,c,f,o,m,w,g,mb,n,b⟩ ++ r = UInt8.ofNat (7 : Int).toNat :: (zaj t ++ (zaj g ++ (zaj mb ++ (pq n ++ r)))) := by simp [layR,layQ,zat,zbc,bB]
 rw [hL]
 obtain ⟨s0,k0⟩ := sq0_put 7 (by decide) (zaj t ++ (zaj g ++ (zaj mb ++ (pq n ++ r))))
 obtain ⟨s1,v1⟩ := zdm 116 (by decide) t (zaj g ++ (zaj mb ++ (pq n ++ r))) (by omega)
 obtain ⟨s2,v2⟩ := zdm 103 (by decide) g (zaj mb ++ (pq n ++ r)) (by omega)
 obtain ⟨s3,v3⟩ := zdm 107 (by decide) mb (pq n ++ r) (by omega)
 obtain ⟨s4,v4⟩ := nx_num 110 (by decide) n i6 (r)
 unfold rdR rdS
 rw [k0]
 simp only [Int.reduceEq,if_true,if_false,s0,s1,s2,s3,s4,v1,v2,v3,v4]
 obtain ⟨c1,c2,c3,c4,c5,c6⟩ := e12
 try simp only at c1 c2 c3 c4 c5 c6
 have hzb : b = zB := by cases b; simp only at c1 c2 c3 c4 c5 c6; subst c1 c2 c3 c4 c5 c6; rfl
 subst hzb
 simp only [e2,e3,e4,e5,e6,e7,e8,and_self]
theorem rd_k8 {t : List UInt8} {i p : Int} {c f : Bool} {o m w : Int} {g mb : List UInt8} {n : Int} {b : Bat} (h : chkR ⟨8,t,i,p,c,f,o,m,w,g,mb,n,b⟩ = 0) (hi : intQ i p o m w n) (r : List UInt8) :
   rdR (layR ⟨8,t,i,p,c,f,o,m,w,g,mb,n,b⟩ ++ r) = ⟨8,t,i,p,c,f,o,m,w,g,mb,n,b⟩ ∧ rdS (layR ⟨8,t,i,p,c,f,o,m,w,g,mb,n,b⟩ ++ r) = (r,0) := by
 obtain ⟨-,hso,hlong,hb⟩ := zbb _ h
 obtain ⟨i1,i2,i3,i4,i5,i6⟩ := hi
 unfold zbp at hso
 simp only [Int.reduceEq,or_self,or_false,false_or,or_true,true_or,if_true,if_false] at hso
 obtain ⟨⟨e0,e1,e2,e3,e4,e5,e6,e7,e8,e9,e10,e11⟩,e12⟩ := eqQ_eq hso
 have e12 := zdo e12
 unfold zch at hlong
 simp only at hlong
 have hL : layR ⟨8,t,i,p,c,f,o,m,w,g,mb,n,b⟩ ++ r = UInt8.ofNat (8 : Int).toNat :: (zaj g ++ (zaj mb ++ (pq n ++ r))) := by simp [layR,layQ,zat,zbc,bB]
 rw [hL]
 obtain ⟨s0,k0⟩ := sq0_put 8 (by decide) (zaj g ++ (zaj mb ++ (pq n ++ r)))
 obtain ⟨s1,v1⟩ := zdm 103 (by decide) g (zaj mb ++ (pq n ++ r)) (by omega)
 obtain ⟨s2,v2⟩ := zdm 107 (by decide) mb (pq n ++ r) (by omega)
 obtain ⟨s3,v3⟩ := nx_num 110 (by decide) n i6 (r)
 unfold rdR rdS
 rw [k0]
 simp only [Int.reduceEq,if_true,if_false,s0,s1,s2,s3,v1,v2,v3]
 obtain ⟨c1,c2,c3,c4,c5,c6⟩ := e12
 try simp only at c1 c2 c3 c4 c5 c6
 have hzb : b = zB := by cases b; simp only at c1 c2 c3 c4 c5 c6; subst c1 c2 c3 c4 c5 c6; rfl
 subst hzb
 simp only [e1,e2,e3,e4,e5,e6,e7,e8,and_self]
theorem rd_k9 {t : List UInt8} {i p : Int} {c f : Bool} {o m w : Int} {g mb : List UInt8} {n : Int} {b : Bat} (h : chkR ⟨9,t,i,p,c,f,o,m,w,g,mb,n,b⟩ = 0) (hi : intQ i p o m w n) (r : List UInt8) :
   rdR (layR ⟨9,t,i,p,c,f,o,m,w,g,mb,n,b⟩ ++ r) = ⟨9,t,i,p,c,f,o,m,w,g,mb,n,b⟩ ∧ rdS (layR ⟨9,t,i,p,c,f,o,m,w,g,mb,n,b⟩ ++ r) = (r,0) := by
 obtain ⟨-,hso,hlong,hb⟩ := zbb _ h
 obtain ⟨i1,i2,i3,i4,i5,i6⟩ := hi
 unfold zbp at hso
 simp only [Int.reduceEq,or_self,or_false,false_or,or_true,true_or,if_true,if_false] at hso
 obtain ⟨⟨e0,e1,e2,e3,e4,e5,e6,e7,e8,e9,e10,e11⟩,e12⟩ := eqQ_eq hso
 have e12 := zdo e12
 unfold zch at hlong
 simp only at hlong
 have hL : layR ⟨9,t,i,p,c,f,o,m,w,g,mb,n,b⟩ ++ r = UInt8.ofNat (9 : Int).toNat :: (zaj g ++ (zaj mb ++ r)) := by simp [layR,layQ,zat,zbc,bB]
 rw [hL]
 obtain ⟨s0,k0⟩ := sq0_put 9 (by decide) (zaj g ++ (zaj mb ++ r))
 obtain ⟨s1,v1⟩ := zdm 103 (by decide) g (zaj mb ++ r) (by omega)
 obtain ⟨s2,v2⟩ := zdm 107 (by decide) mb (r) (by omega)
 unfold rdR rdS
 rw [k0]
 simp only [Int.reduceEq,if_true,if_false,s0,s1,s2,v1,v2]
 obtain ⟨c1,c2,c3,c4,c5,c6⟩ := e12
 try simp only at c1 c2 c3 c4 c5 c6
 have hzb : b = zB := by cases b; simp only at c1 c2 c3 c4 c5 c6; subst c1 c2 c3 c4 c5 c6; rfl
 subst hzb
 simp only [e1,e2,e3,e4,e5,e6,e7,e8,e11,and_self]
theorem rd_k10 {t : List UInt8} {i p : Int} {c f : Bool} {o m w : Int} {g mb : List UInt8} {n : Int} {b : Bat} (h : chkR ⟨10,t,i,p,c,f,o,m,w,g,mb,n,b⟩ = 0) (hi : intQ i p o m w n) (r : List UInt8) :
   rdR (layR ⟨10,t,i,p,c,f,o,m,w,g,mb,n,b⟩ ++ r) = ⟨10,t,i,p,c,f,o,m,w,g,mb,n,b⟩ ∧ rdS (layR ⟨10,t,i,p,c,f,o,m,w,g,mb,n,b⟩ ++ r) = (r,0) := by
 obtain ⟨-,hso,hlong,hb⟩ := zbb _ h
 obtain ⟨i1,i2,i3,i4,i5,i6⟩ := hi
 unfold zbp at hso
 simp only [Int.reduceEq,or_self,or_false,false_or,or_true,true_or,if_true,if_false] at hso
 obtain ⟨⟨e0,e1,e2,e3,e4,e5,e6,e7,e8,e9,e10,e11⟩,e12⟩ := eqQ_eq hso
 have e12 := zdo e12
 unfold zch at hlong
 simp only at hlong
 have hL : layR ⟨10,t,i,p,c,f,o,m,w,g,mb,n,b⟩ ++ r = UInt8.ofNat (10 : Int).toNat :: (zaj t ++ (pq i ++ (pq o ++ (zaj g ++ (zaj mb ++ (pq n ++ r)))))) := by simp [layR,layQ,zat,zbc,bB]
 rw [hL]
 obtain ⟨s0,k0⟩ := sq0_put 10 (by decide) (zaj t ++ (pq i ++ (pq o ++ (zaj g ++ (zaj mb ++ (pq n ++ r))))))
 obtain ⟨s1,v1⟩ := zdm 116 (by decide) t (pq i ++ (pq o ++ (zaj g ++ (zaj mb ++ (pq n ++ r))))) (by omega)
 obtain ⟨s2,v2⟩ := nx_num 105 (by decide) i i1 (pq o ++ (zaj g ++ (zaj mb ++ (pq n ++ r))))
 obtain ⟨s3,v3⟩ := nx_num 111 (by decide) o i3 (zaj g ++ (zaj mb ++ (pq n ++ r)))
 obtain ⟨s4,v4⟩ := zdm 103 (by decide) g (zaj mb ++ (pq n ++ r)) (by omega)
 obtain ⟨s5,v5⟩ := zdm 107 (by decide) mb (pq n ++ r) (by omega)
 obtain ⟨s6,v6⟩ := nx_num 110 (by decide) n i6 (r)
 unfold rdR rdS
 rw [k0]
 simp only [Int.reduceEq,if_true,if_false,s0,s1,s2,s3,s4,s5,s6,v1,v2,v3,v4,v5,v6]
 obtain ⟨c1,c2,c3,c4,c5,c6⟩ := e12
 try simp only at c1 c2 c3 c4 c5 c6
 have hzb : b = zB := by cases b; simp only at c1 c2 c3 c4 c5 c6; subst c1 c2 c3 c4 c5 c6; rfl
 subst hzb
 simp only [e3,e4,e5,e7,e8,and_self]
theorem rd_k11 {t : List UInt8} {i p : Int} {c f : Bool} {o m w : Int} {g mb : List UInt8} {n : Int} {b : Bat} (h : chkR ⟨11,t,i,p,c,f,o,m,w,g,mb,n,b⟩ = 0) (hi : intQ i p o m w n) (r : List UInt8) :
   rdR (layR ⟨11,t,i,p,c,f,o,m,w,g,mb,n,b⟩ ++ r) = ⟨11,t,i,p,c,f,o,m,w,g,mb,n,b⟩ ∧ rdS (layR ⟨11,t,i,p,c,f,o,m,w,g,mb,n,b⟩ ++ r) = (r,0) := by
 obtain ⟨-,hso,hlong,hb⟩ := zbb _ h
 obtain ⟨i1,i2,i3,i4,i5,i6⟩ := hi
 unfold zbp at hso
 simp only [Int.reduceEq,or_self,or_false,false_or,or_true,true_or,if_true,if_false] at hso
 obtain ⟨⟨e0,e1,e2,e3,e4,e5,e6,e7,e8,e9,e10,e11⟩,e12⟩ := eqQ_eq hso
 have e12 := zdo e12
 unfold zch at hlong
 simp only at hlong
 have hL : layR ⟨11,t,i,p,c,f,o,m,w,g,mb,n,b⟩ ++ r = UInt8.ofNat (11 : Int).toNat :: (zaj t ++ (pq i ++ (zaj g ++ r))) := by simp [layR,layQ,zat,zbc,bB]
 rw [hL]
 obtain ⟨s0,k0⟩ := sq0_put 11 (by decide) (zaj t ++ (pq i ++ (zaj g ++ r)))
 obtain ⟨s1,v1⟩ := zdm 116 (by decide) t (pq i ++ (zaj g ++ r)) (by omega)
 obtain ⟨s2,v2⟩ := nx_num 105 (by decide) i i1 (zaj g ++ r)
 obtain ⟨s3,v3⟩ := zdm 103 (by decide) g (r) (by omega)
 unfold rdR rdS
 rw [k0]
 simp only [Int.reduceEq,if_true,if_false,s0,s1,s2,s3,v1,v2,v3]
 obtain ⟨c1,c2,c3,c4,c5,c6⟩ := e12
 try simp only at c1 c2 c3 c4 c5 c6
 have hzb : b = zB := by cases b; simp only at c1 c2 c3 c4 c5 c6; subst c1 c2 c3 c4 c5 c6; rfl
 subst hzb
 simp only [e3,e4,e5,e6,e7,e8,e10,e11,and_self]
theorem rd_lay22 (q : Rq) (h : chkR q = 0) (hf : fitR q) (r : List UInt8) : rdR (layR q ++ r) = q ∧ rdS (layR q ++ r) = (r,0) := by
 obtain ⟨k,t,i,p,c,f,o,m,w,g,mb,n,b⟩ := q
 have hk := (zbb _ h).1
 obtain ⟨⟨hk0,_⟩,_,hi,_⟩ := hf
 simp only at hk hk0 hi
 rcases knd_le k ⟨hk0,hk⟩ with rfl | rfl | rfl | rfl | rfl | rfl | rfl | rfl | rfl | rfl | rfl | rfl
 · exact rd_k0 h hi r
 · exact rd_k1 h hi r
 · exact rd_k2 h hi r
 · exact rd_k3 h hi r
 · exact rd_k4 h hi r
 · exact rd_k5 h hi r
 · exact rd_k6 h hi r
 · exact rd_k7 h hi r
 · exact rd_k8 h hi r
 · exact rd_k9 h hi r
 · exact rd_k10 h hi r
 · exact rd_k11 h hi r
end Go.Proofs.Ytmedjkjoannbmaa
namespace Go.Proofs.Ytmedjkjoannbmaa
open Ax
def ustr22 : AV → List UInt8
 | .str s => s
 | _ => []
theorem zcc (ks : List (List UInt8)) : (ks.map AV.str).map ustr22 = ks := by
 rw [List.map_map]; exact (List.map_congr_left (fun _ _ => rfl)).trans (List.map_id ks)
theorem zdv : ∀ (ks : List (List UInt8)) (i : Nat) (h : i < ks.length),slot (ks.map AV.str) i = .str ks[i]
 | _ :: _,0,_ => rfl
 | _ :: r,i + 1,h => zdv r i (by simpa using h)
def lngA : List (List UInt8) → Int → Int
 | [],_ => -1
 | s :: r,i => if 255 < s.length then i else lngA r (i + 1)
def lngB (ks : List (List UInt8)) : Bool := ks.any fun s => decide (255 < s.length)
theorem lngA_cons (s : List UInt8) (r : List (List UInt8)) (i : Int) : lngA (s :: r) i = if 255 < s.length then i else lngA r (i + 1) := rfl
theorem lngA_nil (i : Int) : lngA [] i = -1 := rfl
theorem zcz (ks : List (List UInt8)) (f : Bool) : coe ty 40 (.sg 1 (ks.map AV.str) f) = .sg 1 (ks.map AV.str) f := by cases ks <;> rfl
theorem lngA_neg : ∀ (ks : List (List UInt8)) (i : Int),0 ≤ i → (decide (0 ≤ lngA ks i) = lngB ks)
 | [],i,_ => by simp [lngA,lngB]
 | s :: r,i,h => by
   have ih := lngA_neg r (i + 1) (by omega)
   unfold lngA
   by_cases hs : 255 < s.length
   · rw [if_pos hs]; simp [lngB,hs,h]
   · rw [if_neg hs,ih]; simp [lngB,hs]
def lng1S : zaq
 | [.str s],[] => ⟨True,.w (.bool (decide ((255 : Int) < s.length))),[]⟩
 | _,_ => zbv
def idxfS : zaq
 | [.sg 1 xs f,.fn 74 []],[] => ⟨xs.length ≤ 9223372036854775807 ∧ ∃ ks : List (List UInt8),xs = ks.map AV.str,.w (.int .i64 (lngA (xs.map ustr22) 0)),[]⟩
 | _,_ => zbv
def ctnfS : zaq
 | [.sg 1 xs f,.fn 74 []],[] => ⟨xs.length ≤ 9223372036854775807 ∧ ∃ ks : List (List UInt8),xs = ks.map AV.str,.w (.bool (lngB (xs.map ustr22))),[]⟩
 | _,_ => zbv
section
set_option maxRecDepth 100000
theorem lng1_sound : zbf Try.prog 74 lng1S := by
 refine zau (S := noS) (T := ty) zbj ty_ok zcy Try.func74 (c := Try.f74.body.getD .skip) (by kernel_rfl) (by kernel_rfl) (fun xs pins hp _ => ?_)
 unfold lng1S at hp ⊢
 split at hp
 · rename_i s _
   refine ⟨by simp,?_⟩
   unfold Try.f74
   simp only [go_sem,zaa,Nat.reduceAdd,Nat.reduceSub,Nat.reduceMul,Int.reduceToNat,reduceCtorEq,↓reduceIte,Int.reducePow,Nat.reducePow,Int.reduceMod,Nat.reduceLeDiff,Int.reduceLE,Int.reduceNe,Int.reduceEq,Nat.reduceEqDiff,Nat.reduceLT,Nat.reduceBEq,ty,noS]
 · exact hp.elim
end
def Sidxf22 (f : FuncId) : Option zaq :=
 match f with
 | 74 => some lng1S
 | _ => none
theorem Sidxf22_ok : Fns Try.prog Sidxf22 := by
 intro f s h
 unfold Sidxf22 at h
 split at h
 · injection h with h; subst h; exact ⟨⟨_,Try.func74,by kernel_rfl,by kernel_rfl⟩,lng1_sound⟩
 · cases h
section
set_option maxRecDepth 100000
set_option maxHeartbeats 1000000 in
theorem idxf_sound : zbf Try.prog 90 idxfS := by
 refine zau (S := Sidxf22) (T := ty) zbj ty_ok Sidxf22_ok Try.func90 (c := Try.f90.body.getD .skip) (by kernel_rfl) (by kernel_rfl) (fun xs pins hp _ => ?_)
 unfold idxfS at hp ⊢
 split at hp
 · rename_i xs f _
   obtain ⟨hL,ks,rfl⟩ := hp
   rw [List.length_map] at hL
   rw [zcc]
   refine ⟨by simp,?_⟩
   have hlp : (ks.map AV.str).length = ks.length := by simp
   unfold Try.f90
   simp only [go_sem,zaa,Nat.reduceAdd,Nat.reduceSub,Nat.reduceMul,Int.reduceToNat,reduceCtorEq,↓reduceIte,Int.reducePow,Nat.reducePow,Int.reduceMod,Nat.reduceLeDiff,Int.reduceLE,Int.reduceNe,Int.reduceEq,Nat.reduceEqDiff,Nat.reduceLT,Nat.reduceBEq,ty,Sidxf22,hlp]
   refine zde ⟨fun m σ => ∃ i : Nat,m = ks.length - i ∧ i ≤ ks.length ∧ lngA (ks.drop i) i = lngA ks 0 ∧
       σ = ⟨[.sg 1 (ks.map AV.str) f,.fn 74 [],.junk,.junk,.junk,.junk,.junk,.w (.int .i64 ks.length),.w (.int .i64 i),.junk,.junk,.junk,.junk,.junk,.junk,.junk,.junk,.junk,.junk],[],4⟩,?_,?_⟩
   · refine ⟨_,_,zai [0,1,2,3] rfl rfl rfl ?_ ?_,0,rfl,by omega,rfl,rfl⟩
     · simp only [ssT,zao,zap,setSlot,gOf,AV.ren,renL,Blk.ren,Ax.look,Ax.put,reduceCtorEq,↓reduceIte,Nat.reduceEqDiff,Nat.reduceLT,Nat.reduceAdd,List.length_append,List.length_cons,List.length_nil,Option.some.injEq]; simp
     · simp only [ssT,zao,zap,setSlot,gOf,AV.ren,renL,Blk.ren,Ax.look,Ax.put,reduceCtorEq,↓reduceIte,Nat.reduceEqDiff,Nat.reduceLT,Nat.reduceAdd,List.length_append,List.length_cons,List.length_nil,Option.some.injEq]
   · rintro m σ ⟨i,rfl,hi,hall,rfl⟩
     by_cases hil : i < ks.length
     · have d1 : decide ((i : Int) < ks.length) = true := decide_eq_true (by omega)
       have e1 : ((i : Int) + 1 + 9223372036854775808) % 18446744073709551616 - 9223372036854775808 = ((i + 1 : Nat) : Int) := by omega
       have hs := zdv ks i hil
       rw [List.drop_eq_getElem_cons hil] at hall
       obtain ⟨s,hS⟩ : ∃ s,ks[i] = s := ⟨_,rfl⟩
       rw [hS] at hs hall
       rw [lngA_cons] at hall
       by_cases hg : 255 < s.length
       · have d2 : decide ((255 : Int) < s.length) = true := decide_eq_true (by omega)
         rw [if_pos hg] at hall
         simp only [go_sem,zaa,Nat.reduceAdd,Nat.reduceSub,Nat.reduceMul,Int.reduceToNat,reduceCtorEq,↓reduceIte,Int.reducePow,Nat.reducePow,Int.reduceMod,Nat.reduceLeDiff,Int.reduceLE,Int.reduceNe,Int.reduceEq,Nat.reduceEqDiff,Nat.reduceLT,Nat.reduceBEq,ty,Sidxf22,lng1S,hlp,d1,hs,e1,d2,Int.toNat_natCast,← hall]
         all_goals try omega
       · have d2 : decide ((255 : Int) < s.length) = false := decide_eq_false (by omega)
         rw [if_neg hg] at hall
         simp only [go_sem,zaa,Nat.reduceAdd,Nat.reduceSub,Nat.reduceMul,Int.reduceToNat,reduceCtorEq,↓reduceIte,Int.reducePow,Nat.reducePow,Int.reduceMod,Nat.reduceLeDiff,Int.reduceLE,Int.reduceNe,Int.reduceEq,Nat.reduceEqDiff,Nat.reduceLT,Nat.reduceBEq,ty,Sidxf22,lng1S,hlp,d1,hs,e1,d2,Int.toNat_natCast]
         repeat (refine And.intro (by omega) ?_)
         refine ⟨ks.length - (i + 1),_,by omega,zai [0,1,2,3] rfl rfl rfl ?_ ?_,i + 1,rfl,by omega,hall,rfl⟩
         · simp only [ssT,zao,zap,setSlot,gOf,AV.ren,renL,Blk.ren,Ax.look,Ax.put,reduceCtorEq,↓reduceIte,Nat.reduceEqDiff,Nat.reduceLT,Nat.reduceAdd,List.length_append,List.length_cons,List.length_nil,Option.some.injEq]
         · simp only [ssT,zao,zap,setSlot,gOf,AV.ren,renL,Blk.ren,Ax.look,Ax.put,reduceCtorEq,↓reduceIte,Nat.reduceEqDiff,Nat.reduceLT,Nat.reduceAdd,List.length_append,List.length_cons,List.length_nil,Option.some.injEq]
     · have d1 : decide ((i : Int) < ks.length) = false := decide_eq_false (by omega)
       rw [List.drop_eq_nil_of_le (by omega)] at hall
       rw [lngA_nil] at hall
       simp only [go_sem,zaa,Nat.reduceAdd,Nat.reduceSub,Nat.reduceMul,Int.reduceToNat,reduceCtorEq,↓reduceIte,Int.reducePow,Nat.reducePow,Int.reduceMod,Nat.reduceLeDiff,Int.reduceLE,Int.reduceNe,Int.reduceEq,Nat.reduceEqDiff,Nat.reduceLT,Nat.reduceBEq,ty,Sidxf22,hlp,d1,← hall]
 · exact hp.elim
end
def Sctnf22 (f : FuncId) : Option zaq :=
 match f with
 | 90 => some idxfS
 | _ => none
theorem Sctnf22_ok : Fns Try.prog Sctnf22 := by
 intro f s h
 unfold Sctnf22 at h
 split at h
 · injection h with h; subst h; exact ⟨⟨_,Try.func90,by kernel_rfl,by kernel_rfl⟩,idxf_sound⟩
 · cases h
section
set_option maxRecDepth 100000
theorem ctnf_sound : zbf Try.prog 73 ctnfS := by
 refine zau (S := Sctnf22) (T := ty) zbj ty_ok Sctnf22_ok Try.func73 (c := Try.f73.body.getD .skip) (by kernel_rfl) (by kernel_rfl) (fun xs pins hp _ => ?_)
 unfold ctnfS at hp ⊢
 split at hp
 · rename_i xs f _
   obtain ⟨hL,ks,rfl⟩ := hp
   have hco := zcz ks f
   have hex : ∃ qs : List (List UInt8),ks.map AV.str = qs.map AV.str := ⟨ks,rfl⟩
   rw [← lngA_neg _ 0 (by omega)]
   refine ⟨by simp,?_⟩
   unfold Try.f73
   simp only [go_sem,zaa,Nat.reduceAdd,Nat.reduceSub,Nat.reduceMul,Int.reduceToNat,reduceCtorEq,↓reduceIte,Int.reducePow,Nat.reducePow,Int.reduceMod,Nat.reduceLeDiff,Int.reduceLE,Int.reduceNe,Int.reduceEq,Nat.reduceEqDiff,Nat.reduceLT,Nat.reduceBEq,ty,Sctnf22,idxfS,hL,hex,hco]
 · exact hp.elim
end
end Go.Proofs.Ytmedjkjoannbmaa
namespace Go.Proofs.Ytmedjkjoannbmaa
open Ax
def chkA (k : Int) (nb np : Nat) (ns : List (List UInt8)) : Int :=
 if 11 < k ∧ k ≠ 255 then 22 else if 64 < nb ∨ 64 < np ∨ 64 < ns.length then 5 else if lngB ns = true then 5 else 0
theorem chkA_kind (k : Int) : (decide (11 < k) = true ∧ decide (k = 255) = false ∧ (11 < k ∧ k ≠ 255)) ∨ (decide (11 < k) = false ∧ ¬ (11 < k ∧ k ≠ 255)) ∨ (decide (11 < k) = true ∧ decide (k = 255) = true ∧ ¬ (11 < k ∧ k ≠ 255)) := by
 by_cases h1 : 11 < k
 · by_cases h2 : k = 255
   · exact .inr (.inr ⟨decide_eq_true h1,decide_eq_true h2,fun h => h.2 h2⟩)
   · exact .inl ⟨decide_eq_true h1,decide_eq_false h2,h1,h2⟩
 · exact .inr (.inl ⟨decide_eq_false h1,fun h => h1 h.1⟩)
theorem chkA_len (a b c : Nat) : (decide ((64 : Int) < a) = true ∧ (64 < a ∨ 64 < b ∨ 64 < c)) ∨ (decide ((64 : Int) < a) = false ∧ decide ((64 : Int) < b) = true ∧ (64 < a ∨ 64 < b ∨ 64 < c)) ∨
   (decide ((64 : Int) < a) = false ∧ decide ((64 : Int) < b) = false ∧ decide ((64 : Int) < c) = true ∧ (64 < a ∨ 64 < b ∨ 64 < c)) ∨
   (decide ((64 : Int) < a) = false ∧ decide ((64 : Int) < b) = false ∧ decide ((64 : Int) < c) = false ∧ ¬ (64 < a ∨ 64 < b ∨ 64 < c)) := by
 by_cases h1 : 64 < a
 · exact .inl ⟨decide_eq_true (by omega),.inl h1⟩
 · by_cases h2 : 64 < b
   · exact .inr (.inl ⟨decide_eq_false (by omega),decide_eq_true (by omega),.inr (.inl h2)⟩)
   · by_cases h3 : 64 < c
     · exact .inr (.inr (.inl ⟨decide_eq_false (by omega),decide_eq_false (by omega),decide_eq_true (by omega),.inr (.inr h3)⟩))
     · exact .inr (.inr (.inr ⟨decide_eq_false (by omega),decide_eq_false (by omega),decide_eq_false (by omega),by omega⟩))
def chkAS : zaq
 | [.agg [.w (.int .u8 k),.w (.int .i64 er),.w (.int .i64 o),.w (.int .i64 x),.w (.bool d),.w (.int .i64 g),.sg 6 bs f1,.si ps f2,.sg 1 ns f3]],[] => ⟨(0 ≤ k ∧ k < 256) ∧ bs.length ≤ 9223372036854775807 ∧ ps.length ≤ 9223372036854775807 ∧ ns.length ≤ 9223372036854775807 ∧ ∃ ks : List (List UInt8),ns = ks.map AV.str,.w (.int .i64 (chkA k bs.length ps.length (ns.map ustr22))),[]⟩
 | _,_ => zbv
def SchkA (f : FuncId) : Option zaq :=
 match f with
 | 73 => some ctnfS
 | _ => none
theorem SchkA_ok : Fns Try.prog SchkA := by
 intro f s h
 unfold SchkA at h
 split at h
 · injection h with h; subst h; exact ⟨⟨_,Try.func73,by kernel_rfl,by kernel_rfl⟩,ctnf_sound⟩
 · cases h
section
set_option maxRecDepth 100000
set_option maxHeartbeats 8000000 in
theorem chkA_sound : zbf Try.prog 36 chkAS := by
 refine zcm (S := SchkA) (T := ty) zbj ty_ok SchkA_ok Try.func36 (c := Try.f36.body.getD .skip) (by kernel_rfl) (by kernel_rfl) (fun xs pins hp _ => ?_)
 unfold chkAS at hp ⊢
 split at hp
 · rename_i k er o x d g bs f1 ps f2 ns f3 _
   obtain ⟨⟨hk0,hk1⟩,hb,hpl,hn,ks,rfl⟩ := hp
   rw [zcc]
   have hlk : (ks.map AV.str).length = ks.length := by simp
   have hn' : ks.length ≤ 9223372036854775807 := by rw [List.length_map] at hn; exact hn
   have hco := zcz ks f3
   have hmu := zcc ks
   have hex : ∃ qs : List (List UInt8),ks.map AV.str = qs.map AV.str := ⟨ks,rfl⟩
   refine ⟨by simp,?_⟩
   unfold Try.f36
   obtain ⟨V,hV⟩ : ∃ v,chkA k bs.length ps.length ks = v := ⟨_,rfl⟩
   have hv1 : (11 < k ∧ k ≠ 255) → V = 22 := fun h => by rw [← hV]; exact if_pos h
   have hv2 : ¬ (11 < k ∧ k ≠ 255) → (64 < bs.length ∨ 64 < ps.length ∨ 64 < ks.length) → V = 5 := fun h h2 => by rw [← hV]; unfold chkA; rw [if_neg h,if_pos h2]
   have hv3 : ¬ (11 < k ∧ k ≠ 255) → ¬ (64 < bs.length ∨ 64 < ps.length ∨ 64 < ks.length) → V = if lngB ks = true then 5 else 0 := fun h h2 => by rw [← hV]; unfold chkA; rw [if_neg h,if_neg h2]
   rw [hV]
   rcases chkA_kind k with K | K | K
   · have hv := hv1 K.2.2
     simp only [go_sem,zaa,Nat.reduceAdd,Nat.reduceSub,Nat.reduceMul,Int.reduceToNat,reduceCtorEq,↓reduceIte,Int.reducePow,Nat.reducePow,Int.reduceMod,Nat.reduceLeDiff,Int.reduceLE,Int.reduceNe,Int.reduceEq,Nat.reduceEqDiff,Nat.reduceLT,Nat.reduceBEq,ty,SchkA,ctnfS,K.1,K.2.1,hv]
     refine ⟨_,Weak.refl _,?_⟩
     simp only [go_sem,zaa,Nat.reduceAdd,Nat.reduceSub,Nat.reduceMul,Int.reduceToNat,reduceCtorEq,↓reduceIte,Int.reducePow,Nat.reducePow,Int.reduceMod,Nat.reduceLeDiff,Int.reduceLE,Int.reduceNe,Int.reduceEq,Nat.reduceEqDiff,Nat.reduceLT,Nat.reduceBEq,ty,hv]
   all_goals
     rcases chkA_len bs.length ps.length ks.length with D | D | D | D
     rotate_right 1
     · cases hB : lngB ks with
       | true =>
         have hv := hv3 (by first | exact K.2.2 | exact K.2) D.2.2.2
         rw [if_pos hB] at hv
         simp only [go_sem,zaa,Nat.reduceAdd,Nat.reduceSub,Nat.reduceMul,Int.reduceToNat,reduceCtorEq,↓reduceIte,Int.reducePow,Nat.reducePow,Int.reduceMod,Nat.reduceLeDiff,Int.reduceLE,Int.reduceNe,Int.reduceEq,Nat.reduceEqDiff,Nat.reduceLT,Nat.reduceBEq,ty,SchkA,ctnfS,K,D,hlk,hco,hmu,hex,hn,hn',hB,hv]
         try (refine ⟨_,Weak.refl _,?_⟩; simp only [go_sem,zaa,Nat.reduceAdd,Nat.reduceSub,Nat.reduceMul,Int.reduceToNat,reduceCtorEq,↓reduceIte,Int.reducePow,Nat.reducePow,Int.reduceMod,Nat.reduceLeDiff,Int.reduceLE,Int.reduceNe,Int.reduceEq,Nat.reduceEqDiff,Nat.reduceLT,Nat.reduceBEq,ty,hv])
       | false =>
         have hv := hv3 (by first | exact K.2.2 | exact K.2) D.2.2.2
         rw [if_neg (by rw [hB]; decide)] at hv
         simp only [go_sem,zaa,Nat.reduceAdd,Nat.reduceSub,Nat.reduceMul,Int.reduceToNat,reduceCtorEq,↓reduceIte,Int.reducePow,Nat.reducePow,Int.reduceMod,Nat.reduceLeDiff,Int.reduceLE,Int.reduceNe,Int.reduceEq,Nat.reduceEqDiff,Nat.reduceLT,Nat.reduceBEq,ty,SchkA,ctnfS,K,D,hlk,hco,hmu,hex,hn,hn',hB,hv]
         try (refine ⟨_,Weak.refl _,?_⟩; simp only [go_sem,zaa,Nat.reduceAdd,Nat.reduceSub,Nat.reduceMul,Int.reduceToNat,reduceCtorEq,↓reduceIte,Int.reducePow,Nat.reducePow,Int.reduceMod,Nat.reduceLeDiff,Int.reduceLE,Int.reduceNe,Int.reduceEq,Nat.reduceEqDiff,Nat.reduceLT,Nat.reduceBEq,ty,hv])
     all_goals
       have hv := hv2 (by first | exact K.2.2 | exact K.2) (by first | exact D.2 | exact D.2.2 | exact D.2.2.2)
       simp only [go_sem,zaa,Nat.reduceAdd,Nat.reduceSub,Nat.reduceMul,Int.reduceToNat,reduceCtorEq,↓reduceIte,Int.reducePow,Nat.reducePow,Int.reduceMod,Nat.reduceLeDiff,Int.reduceLE,Int.reduceNe,Int.reduceEq,Nat.reduceEqDiff,Nat.reduceLT,Nat.reduceBEq,ty,SchkA,ctnfS,K,D,hlk,hv]
       try (refine ⟨_,Weak.refl _,?_⟩; simp only [go_sem,zaa,Nat.reduceAdd,Nat.reduceSub,Nat.reduceMul,Int.reduceToNat,reduceCtorEq,↓reduceIte,Int.reducePow,Nat.reducePow,Int.reduceMod,Nat.reduceLeDiff,Int.reduceLE,Int.reduceNe,Int.reduceEq,Nat.reduceEqDiff,Nat.reduceLT,Nat.reduceBEq,ty,hv])
 · exact hp.elim
end
end Go.Proofs.Ytmedjkjoannbmaa
namespace Go.Proofs.Ytmedjkjoannbmaa
open Ax
def bvp (p : Bat × Bool) : AV := bav p.1 p.2
def ubat : AV → Bat
 | .agg [.w (.int _ b),.w (.int _ c),.w (.int _ p),.w (.int _ e),.w (.int _ s),.sg 6 xs _] => ⟨b,c,p,e,s,xs.map rrec⟩
 | _ => zB
theorem ubat_bvp (p : Bat × Bool) : ubat (bvp p) = p.1 := by
 obtain ⟨⟨b,c,q,e,s,rs⟩,f⟩ := p
 unfold bvp bav ubat
 simp only [zag]
theorem zej (l : List (Bat × Bool)) : (l.map bvp).map ubat = l.map Prod.fst := by
 rw [List.map_map]; exact List.map_congr_left (fun p _ => ubat_bvp p)
theorem slot_bvp : ∀ (l : List (Bat × Bool)) (i : Nat) (h : i < l.length),slot (l.map bvp) i = bvp l[i]
 | _ :: _,0,_ => rfl
 | _ :: r,i + 1,h => by
   simp only [List.map_cons,slot,List.getElem_cons_succ]
   exact slot_bvp r i (by simpa using h)
def catB (l : List Bat) : List UInt8 := l.flatMap fun x => zaj (bB x)
def catP (l : List Int) : List UInt8 := l.flatMap pq
def catN (l : List (List UInt8)) : List UInt8 := l.flatMap zaj
def badB : List Bat → Int
 | [] => 0
 | x :: r => if bE x = 0 then badB r else bE x
def headA (k er o x : Int) (d : Bool) (g : Int) : List UInt8 := UInt8.ofNat k.toNat :: (pq er ++ (pq o ++ (pq x ++ (pq g ++ [UInt8.ofNat (bitN d).toNat]))))
def layA (k er o x : Int) (d : Bool) (g : Int) (bl : List Bat) (pl : List Int) (nl : List (List UInt8)) : List UInt8 :=
 headA k er o x d g ++ (pq (bl.length : Int) ++ (catB bl ++ (pq (pl.length : Int) ++ (catP pl ++ (pq (nl.length : Int) ++ catN nl)))))
def errA (k : Int) (bl : List Bat) (pl : List Int) (nl : List (List UInt8)) : Int := if chkA k bl.length pl.length nl = 0 then badB bl else chkA k bl.length pl.length nl
def putA (k er o x : Int) (d : Bool) (g : Int) (bl : List Bat) (pl : List Int) (nl : List (List UInt8)) : List UInt8 := if errA k bl pl nl = 0 then layA k er o x d g bl pl nl else []
theorem badB_none : ∀ (l : List Bat),(∀ x ∈ l,bE x = 0) → badB l = 0
 | [],_ => rfl
 | x :: r,h => by unfold badB; rw [if_pos (h x (by simp))]; exact badB_none r (fun y hy => h y (by simp [hy]))
theorem badB_at : ∀ (l : List Bat) (i : Nat) (hi : i < l.length),(∀ x ∈ l.take i,bE x = 0) → bE l[i] ≠ 0 → badB l = bE l[i]
 | x :: r,0,_,_,h => by unfold badB; exact if_neg h
 | x :: r,i + 1,hi,ha,h => by
   unfold badB; rw [if_pos (ha x (by simp))]
   exact badB_at r i (by simpa using hi) (fun y hy => ha y (by simp [hy])) h
theorem catB_snoc (l : List Bat) (i : Nat) (hi : i < l.length) : catB (l.take (i + 1)) = catB (l.take i) ++ zaj (bB l[i]) := by
 unfold catB; rw [List.take_succ_eq_append_getElem hi,List.flatMap_append]; simp
theorem catP_snoc (l : List Int) (i : Nat) (hi : i < l.length) : catP (l.take (i + 1)) = catP (l.take i) ++ pq l[i] := by
 unfold catP; rw [List.take_succ_eq_append_getElem hi,List.flatMap_append]; simp
theorem catN_snoc (l : List (List UInt8)) (i : Nat) (hi : i < l.length) : catN (l.take (i + 1)) = catN (l.take i) ++ zaj l[i] := by
 unfold catN; rw [List.take_succ_eq_append_getElem hi,List.flatMap_append]; simp
theorem catB_len (l : List Bat) : (catB l).length ≤ 8202 * l.length := by
 unfold catB
 induction l with
 | nil => simp
 | cons x r ih =>
   have h1 : (bB x).length ≤ 8192 := zan x.b x.c x.p x.e x.s x.rs
   have h2 := zac (bB x) (by omega)
   rw [List.flatMap_cons,List.length_append,List.length_cons]; omega
theorem catP_len (l : List Int) (h : ∀ n ∈ l,okI n) : (catP l).length ≤ 10 * l.length := by
 unfold catP
 induction l with
 | nil => simp
 | cons x r ih =>
   have h1 := zad x (h x (by simp))
   have h3 := ih (fun y hy => h y (by simp [hy]))
   rw [List.flatMap_cons,List.length_append,List.length_cons]; omega
theorem catN_len (l : List (List UInt8)) (h : ∀ s ∈ l,s.length ≤ 255) : (catN l).length ≤ 265 * l.length := by
 unfold catN
 induction l with
 | nil => simp
 | cons x r ih =>
   have h1 := zac x (by have := h x (by simp); omega)
   have h2 := h x (by simp)
   have h3 := ih (fun y hy => h y (by simp [hy]))
   rw [List.flatMap_cons,List.length_append,List.length_cons]; omega
theorem lngB_no {ks : List (List UInt8)} (h : lngB ks = false) : ∀ s ∈ ks,s.length ≤ 255 := by
 intro s hs
 unfold lngB at h
 rw [List.any_eq_false] at h
 have := h s hs
 simp only [decide_eq_true_eq] at this; omega
theorem chkA_ok {k : Int} {nb np : Nat} {ns : List (List UInt8)} (h : chkA k nb np ns = 0) : (k ≤ 11 ∨ k = 255) ∧ nb ≤ 64 ∧ np ≤ 64 ∧ ns.length ≤ 64 ∧ ∀ s ∈ ns,s.length ≤ 255 := by
 unfold chkA at h
 split at h
 · cases h
 · rename_i h1
   split at h
   · cases h
   · rename_i h2
     split at h
     · cases h
     · rename_i h3
       refine ⟨?_,by omega,by omega,by omega,lngB_no (by simpa using h3)⟩
       by_cases h4 : k = 255
       · exact .inr h4
       · left; by_cases h5 : 11 < k
         · exact (h1 ⟨h5,h4⟩).elim
         · omega
theorem headA_len (k er o x : Int) (d : Bool) (g : Int) (h1 : okI er) (h2 : okI o) (h3 : okI x) (h4 : okI g) : (headA k er o x d g).length ≤ 42 := by
 have l1 := zad er h1
 have l2 := zad o h2
 have l3 := zad x h3
 have l4 := zad g h4
 unfold headA
 simp only [List.length_cons,List.length_append,List.length_nil]; omega
end Go.Proofs.Ytmedjkjoannbmaa
