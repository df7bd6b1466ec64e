/- What the proofs of this seat stand on; it asks nothing. -/
import Derived.Test.YthjceeimbohajaaYaa08
set_option linter.unusedSimpArgs false
set_option linter.unusedVariables false
namespace Go.Proofs.Ythjceeimbohajaa
open Ax
def rwL1 (b : List UInt8) (e : Int) : List UInt8 := rtL 64 b e
def rwE1 (b : List UInt8) (e : Int) : Int := rtE 64 b e
def rwL2 (b : List UInt8) (e : Int) : List UInt8 := rtL 512 (rwL1 b e) (rwE1 b e)
def rwE2 (b : List UInt8) (e : Int) : Int := rtE 512 (rwL1 b e) (rwE1 b e)
def rwL3 (b : List UInt8) (e : Int) : List UInt8 := numL (rwL2 b e) (rwE2 b e)
def rwE3 (b : List UInt8) (e : Int) : Int := numE (rwL2 b e) (rwE2 b e)
def rwL (b : List UInt8) (e : Int) : List UInt8 := numL (rwL3 b e) (rwE3 b e)
def rwE (b : List UInt8) (e : Int) : Int := numE (rwL3 b e) (rwE3 b e)
def rwV (b : List UInt8) (e : Int) : VR := ⟨rtS' 64 b e,rtS' 512 (rwL1 b e) (rwE1 b e),numN (rwL2 b e) (rwE2 b e),numN (rwL3 b e) (rwE3 b e)⟩
def rdV : Nat → List UInt8 → Int → List VR
 | 0,_,_ => []
 | n + 1,b,e => rwV b e :: rdV n (rwL b e) (rwE b e)
def rdL : Nat → List UInt8 → Int → List UInt8
 | 0,b,_ => b
 | n + 1,b,e => rdL n (rwL b e) (rwE b e)
def rdE : Nat → List UInt8 → Int → Int
 | 0,_,e => e
 | n + 1,b,e => rdE n (rwL b e) (rwE b e)
def rgV : Nat → List UInt8 → Int → List VR
 | 0,_,_ => []
 | n + 1,b,e => if e = 0 then rwV b e :: rgV n (rwL b e) (rwE b e) else []
theorem rwL_length (b : List UInt8) (e : Int) : (rwL1 b e).length ≤ b.length ∧ (rwL2 b e).length ≤ b.length ∧ (rwL3 b e).length ≤ b.length ∧ (rwL b e).length ≤ b.length := by
 have h1 := rtL_length 64 b e
 have h2 := rtL_length 512 (rwL1 b e) (rwE1 b e)
 have h3 := zbh (rwL2 b e) (rwE2 b e)
 have h4 := zbh (rwL3 b e) (rwE3 b e)
 unfold rwL rwL3 rwL2 rwL1 at *
 omega
def vwX : Option (Int × List VR) → AV
 | some (n,l) => .tup [.agg [.w (.int .i64 n),.sg 4 (l.map vrA) false],.w (.int .i64 0)]
 | none => .tup [.agg [.w (.int .i64 0),.sg 4 [] true],.w (.int .i64 4)]
def hdN (b : List UInt8) : Int := numN b 0
def hdC (b : List UInt8) : Int := numN (numL b 0) (numE b 0)
def hdL (b : List UInt8) : List UInt8 := numL (numL b 0) (numE b 0)
def hdE (b : List UInt8) : Int := numE (numL b 0) (numE b 0)
def prK (n : Int) (l : List VR) (L : List UInt8) (E : Int) (b : List UInt8) : Option (Int × List VR) :=
 if (if E = 0 ∧ 0 < L.length then (4 : Int) else E) = 0 ∧ chV n l = 0 ∧ putV n l = b then some (n,l) else none
def prV (b : List UInt8) : Option (Int × List VR) :=
 if hdC b < 0 ∨ 4096 < hdC b then none else prK (hdN b) (rdV (hdC b).toNat (hdL b) (hdE b)) (rdL (hdC b).toNat (hdL b) (hdE b)) (rdE (hdC b).toNat (hdL b) (hdE b)) b
def rrK (n : Int) (l : List VR) (b : List UInt8) : Option (Int × List VR) := if chV n l = 0 ∧ putV n l = b then some (n,l) else none
def rrV (b : List UInt8) : Option (Int × List VR) := rrK (hdN b) (rgV (min (hdC b) 4097).toNat (hdL b) (hdE b)) b
def readVS : zat
 | [.sb b fb],[] => ⟨b.length ≤ 1000000,vwX (prV b),[]⟩
 | _,_ => zcs
def SreadV (f : FuncId) : Option zat :=
 match f with
 | 34 => some newS
 | 37 => some rtextS'
 | 35 => some numS
 | 38 => some doneS
 | 17 => some putVS
 | 39 => some beqS
 | _ => none
theorem SreadV_ok : Fns Try.prog SreadV := by
 intro f s h
 unfold SreadV at h
 split at h
 · injection h with h; subst h; exact ⟨⟨_,Try.func34,by kernel_rfl,by kernel_rfl⟩,new_sound⟩
 · injection h with h; subst h; exact ⟨⟨_,Try.func37,by kernel_rfl,by kernel_rfl⟩,mtext_sound⟩
 · injection h with h; subst h; exact ⟨⟨_,Try.func35,by kernel_rfl,by kernel_rfl⟩,num_sound⟩
 · injection h with h; subst h; exact ⟨⟨_,Try.func38,by kernel_rfl,by kernel_rfl⟩,done_sound⟩
 · injection h with h; subst h; exact ⟨⟨_,Try.func17,by kernel_rfl,by kernel_rfl⟩,putV_sound⟩
 · injection h with h; subst h; exact ⟨⟨_,Try.func39,by kernel_rfl,by kernel_rfl⟩,beq_sound⟩
 · cases h
section
set_option maxRecDepth 100000
set_option maxHeartbeats 16000000 in
theorem readV_sound : zbb Try.prog 20 readVS := by
 refine zeo (S := SreadV) (T := ty) zbs ty_ok SreadV_ok Try.func20 (c := Try.f20.body.getD .skip) (by kernel_rfl) (by kernel_rfl) (fun xs pins hp _ => ?_)
 unfold readVS at hp ⊢
 split at hp
 · rename_i b fb _
   have hb : b.length ≤ 1000000 := hp
   have tk : ∀ l : List UInt8,List.take l.length l = l := fun l => List.take_length
   have hl1 : (numL b 0).length ≤ 1000000 := by have := zbh b 0; omega
   have hl2 : (hdL b).length ≤ b.length := by have h1 := zbh b 0; have h2 := zbh (numL b 0) (numE b 0); unfold hdL; omega
   have htop : top = 4294967296 := rfl
   refine ⟨by simp,?_⟩
   obtain ⟨N,hN⟩ : ∃ N,hdC b = N := ⟨_,rfl⟩
   obtain ⟨X,hX⟩ : ∃ X,hdN b = X := ⟨_,rfl⟩
   obtain ⟨L0,hL0⟩ : ∃ L0,hdL b = L0 := ⟨_,rfl⟩
   obtain ⟨E0,hE0⟩ : ∃ E0,hdE b = E0 := ⟨_,rfl⟩
   have hO : prV b = if N < 0 ∨ 4096 < N then none else prK X (rdV N.toNat L0 E0) (rdL N.toNat L0 E0) (rdE N.toNat L0 E0) b := by unfold prV; rw [hN,hX,hL0,hE0]
   have hN' : numN (numL b 0) (numE b 0) = N := hN
   have hX' : numN b 0 = X := hX
   have hL' : numL (numL b 0) (numE b 0) = L0 := hL0
   have hE' : numE (numL b 0) (numE b 0) = E0 := hE0
   rw [hL0] at hl2
   unfold Try.f20
   by_cases h0 : N < 0 ∨ 4096 < N
   · rw [hO,if_pos h0]
     by_cases h1 : N < 0
     · have d1 : decide (N < 0) = true := decide_eq_true h1
       simp only [go_sem,zab,Nat.reduceAdd,Nat.reduceSub,Nat.reduceMul,Int.reduceToNat,reduceCtorEq,↓reduceIte,Int.reducePow,Nat.reducePow,Int.reduceMod,Nat.reduceLeDiff,Int.reduceLE,Int.reduceNe,Int.reduceEq,Nat.reduceEqDiff,Nat.reduceLT,Nat.reduceBEq,ty,SreadV,newS,numS,rd,hb,hl1,hX',hN',hL',hE',d1,fillS]
       repeat (refine And.intro (by first | omega | (unfold top; omega) | decide) ?_)
       try (refine ⟨_,Weak.refl _,?_⟩)
       try simp only [go_sem,zab,Nat.reduceAdd,Nat.reduceSub,Nat.reduceMul,Int.reduceToNat,reduceCtorEq,↓reduceIte,Int.reducePow,Nat.reducePow,Int.reduceMod,Nat.reduceLeDiff,Int.reduceLE,Int.reduceNe,Int.reduceEq,Nat.reduceEqDiff,Nat.reduceLT,Nat.reduceBEq,ty,vwX]
     · have d1 : decide (N < 0) = false := decide_eq_false h1
       have d2 : decide (4096 < N) = true := decide_eq_true (by omega)
       simp only [go_sem,zab,Nat.reduceAdd,Nat.reduceSub,Nat.reduceMul,Int.reduceToNat,reduceCtorEq,↓reduceIte,Int.reducePow,Nat.reducePow,Int.reduceMod,Nat.reduceLeDiff,Int.reduceLE,Int.reduceNe,Int.reduceEq,Nat.reduceEqDiff,Nat.reduceLT,Nat.reduceBEq,ty,SreadV,newS,numS,rd,hb,hl1,hX',hN',hL',hE',d1,d2,fillS]
       repeat (refine And.intro (by first | omega | (unfold top; omega) | decide) ?_)
       try (refine ⟨_,Weak.refl _,?_⟩)
       try simp only [go_sem,zab,Nat.reduceAdd,Nat.reduceSub,Nat.reduceMul,Int.reduceToNat,reduceCtorEq,↓reduceIte,Int.reducePow,Nat.reducePow,Int.reduceMod,Nat.reduceLeDiff,Int.reduceLE,Int.reduceNe,Int.reduceEq,Nat.reduceEqDiff,Nat.reduceLT,Nat.reduceBEq,ty,vwX]
   · rw [hO,if_neg h0]
     obtain ⟨K,rfl⟩ := Int.eq_ofNat_of_zero_le (show 0 ≤ N by omega)
     have d1 : decide ((K : Int) < 0) = false := decide_eq_false (by omega)
     have d2 : decide ((4096 : Int) < K) = false := decide_eq_false (by omega)
     have hK : (K : Int).toNat = K := Int.toNat_natCast K
     rw [hK]
     simp only [go_sem,zab,Nat.reduceAdd,Nat.reduceSub,Nat.reduceMul,Int.reduceToNat,reduceCtorEq,↓reduceIte,Int.reducePow,Nat.reducePow,Int.reduceMod,Nat.reduceLeDiff,Int.reduceLE,Int.reduceNe,Int.reduceEq,Nat.reduceEqDiff,Nat.reduceLT,Nat.reduceBEq,ty,SreadV,newS,numS,rd,hb,hl1,hX',hN',hL',hE',d1,d2,fillS]
     refine awp_loopW ⟨fun mm σ => ∃ (acc : List VR) (bs : List UInt8) (E : Int) (k : Nat),mm = k ∧ bs.length ≤ b.length ∧ acc.length + k = K ∧ rdV K L0 E0 = acc ++ rdV k bs E ∧ rdL K L0 E0 = rdL k bs E ∧ rdE K L0 E0 = rdE k bs E ∧
       σ = ⟨[.sb b fb,.junk,.rf 4 2 0 0,.w (.int .i64 0),.rf 5 2 0 0,.rf 6 2 0 0,.w (.int .i64 K),.junk,.junk,.junk,.junk,.junk,.junk,.junk,.junk,.junk,.junk,.junk,.junk,.junk,.junk,.junk,.junk,.junk,.w (.int .i64 K),.w (.int .i64 acc.length),.junk,.junk,.junk,.junk,.junk,.junk,.junk,.junk,.junk,.junk,.junk,.junk,.junk,.junk,.junk,.junk,.junk,.junk,.junk,.junk,.junk,.junk,.junk,.junk,.junk,.junk,.junk,.junk,.junk,.junk,.junk,.junk,.junk,.junk,.junk,.junk,.junk,.junk,.junk,.junk],[(4,.g 2 [.agg [.w (.int .i64 0),.sg 4 [] true]]),(5,.g 2 [.agg [.sb bs false,.w (.int .i64 E)]]),(6,.g 2 [.agg [.w (.int .i64 X),.ms 7 4 0 acc.length]]),(7,.g 4 (acc.map vrA))],8⟩,?_,?_⟩
     · refine ⟨_,_,(weak_nilB 68 2 1 4 [.w (.int .i64 X),.sg 4 [] true] rfl (by simp) (by exact trivial) (by decide)).trans (zai [0,1,2,3,4,28,68,172] rfl rfl rfl ?_ ?_),[],L0,E0,K,rfl,hl2,by simp,rfl,rfl,rfl,rfl⟩
       · simp only [ssT,zao,zap,setSlot,gOf,AV.ren,renL,Blk.ren,Ax.look,Ax.put,reduceCtorEq,↓reduceIte,Nat.reduceEqDiff,Nat.reduceLT,Nat.reduceAdd,List.length_append,List.length_cons,List.length_nil,Option.some.injEq]; try simp
       · simp only [ssT,zao,zap,setSlot,gOf,AV.ren,renL,Blk.ren,Ax.look,Ax.put,reduceCtorEq,↓reduceIte,Nat.reduceEqDiff,Nat.reduceLT,Nat.reduceAdd,List.length_append,List.length_cons,List.length_nil,Option.some.injEq]; try simp [renL]
     · rintro m' σ ⟨acc,bs,E,k,rfl,hbs,hn,hI,hJ,hH,rfl⟩
       have hbs1 : bs.length ≤ 1000000 := by omega
       have hal : (acc.map vrA).length = acc.length := by simp
       cases m' with
       | zero =>
         have d3 : decide ((acc.length : Int) < K) = false := decide_eq_false (by omega)
         have hI : rdV K L0 E0 = acc := by rw [hI]; simp [rdV]
         have hJ : rdL K L0 E0 = bs := hJ
         have hH : rdE K L0 E0 = E := hH
         rw [hI,hJ,hH]
         have hdle : decide (0 + acc.length ≤ (acc.map vrA).length) = true := decide_eq_true (by omega)
         have htk : (acc.map vrA).take acc.length = acc.map vrA := List.take_of_length_le (by omega)
         have hc : coe ty 50 (.sg 4 (acc.map vrA) false) = .sg 4 (acc.map vrA) false := by cases acc <;> rfl
         have hex : ∃ q : List VR,acc.map vrA = q.map vrA := ⟨acc,rfl⟩
         have hLm : acc.length ≤ 9223372036854775807 := by omega
         obtain ⟨D,hD⟩ : ∃ D,(if E = 0 ∧ 0 < bs.length then (4 : Int) else E) = D := ⟨_,rfl⟩
         obtain ⟨C,hC⟩ : ∃ C,chV X acc = C := ⟨_,rfl⟩
         obtain ⟨W,hW⟩ : ∃ W,putV X acc = W := ⟨_,rfl⟩
         have hcs : (vwX (prK X acc bs E b) = .tup [.agg [.w (.int .i64 X),.sg 4 (acc.map vrA) false],.w (.int .i64 0)] ∧ decide (D = 0) = true ∧ decide (C = 0) = true ∧ decide (W = b) = true) ∨ (vwX (prK X acc bs E b) = .tup [.agg [.w (.int .i64 0),.sg 4 [] true],.w (.int .i64 4)] ∧ decide (D = 0) = false) ∨ (vwX (prK X acc bs E b) = .tup [.agg [.w (.int .i64 0),.sg 4 [] true],.w (.int .i64 4)] ∧ decide (D = 0) = true ∧ decide (C = 0) = false) ∨ (vwX (prK X acc bs E b) = .tup [.agg [.w (.int .i64 0),.sg 4 [] true],.w (.int .i64 4)] ∧ decide (D = 0) = true ∧ decide (C = 0) = true ∧ decide (W = b) = false) := by
           subst hD hC hW
           unfold prK
           by_cases h1 : (if E = 0 ∧ 0 < bs.length then (4 : Int) else E) = 0
           · by_cases h2 : chV X acc = 0
             · by_cases h3 : putV X acc = b
               · rw [if_pos ⟨h1,h2,h3⟩]; exact .inl ⟨rfl,decide_eq_true h1,decide_eq_true h2,decide_eq_true h3⟩
               · rw [if_neg (fun h => h3 h.2.2)]; exact .inr (.inr (.inr ⟨rfl,decide_eq_true h1,decide_eq_true h2,decide_eq_false h3⟩))
             · rw [if_neg (fun h => h2 h.2.1)]; exact .inr (.inr (.inl ⟨rfl,decide_eq_true h1,decide_eq_false h2⟩))
           · rw [if_neg (fun h => h1 h.1)]; exact .inr (.inl ⟨rfl,decide_eq_false h1⟩)
         simp only [go_sem,zab,Nat.reduceAdd,Nat.reduceSub,Nat.reduceMul,Int.reduceToNat,reduceCtorEq,↓reduceIte,Int.reducePow,Nat.reducePow,Int.reduceMod,Nat.reduceLeDiff,Int.reduceLE,Int.reduceNe,Int.reduceEq,Nat.reduceEqDiff,Nat.reduceLT,Nat.reduceBEq,ty,SreadV,d3]
         refine ⟨_,weak_fgC 7 4 5 6 (acc.map vrA) _ rfl (zcp acc) rfl (by simp [slot,AV.ids]) (by simp [Blk.idsB,Blk.closed,closedL,AV.closed,idsL,AV.ids]),?_⟩
         simp only [fgL,fgH,AV.fg,Blk.fg,Nat.reduceBEq,cond_true,cond_false,hdle,Bool.and_true,beq_self_eq_true,Bool.true_and,List.drop_zero,htk]
         rcases hcs with Y | Y | Y | Y
         all_goals
           rw [Y.1]
           simp only [go_sem,zab,Nat.reduceAdd,Nat.reduceSub,Nat.reduceMul,Int.reduceToNat,reduceCtorEq,↓reduceIte,Int.reducePow,Nat.reducePow,Int.reduceMod,Nat.reduceLeDiff,Int.reduceLE,Int.reduceNe,Int.reduceEq,Nat.reduceEqDiff,Nat.reduceLT,Nat.reduceBEq,ty,SreadV,putVS,doneS,beqS,rd,hal,hLm,hex,hc,zbj,hD,hC,hW,Y.2,zcp]
           try (refine ⟨_,Weak.refl _,?_⟩)
           try simp only [go_sem,zab,Nat.reduceAdd,Nat.reduceSub,Nat.reduceMul,Int.reduceToNat,reduceCtorEq,↓reduceIte,Int.reducePow,Nat.reducePow,Int.reduceMod,Nat.reduceLeDiff,Int.reduceLE,Int.reduceNe,Int.reduceEq,Nat.reduceEqDiff,Nat.reduceLT,Nat.reduceBEq,ty]
       | succ k =>
         have d3 : decide ((acc.length : Int) < K) = true := decide_eq_true (by omega)
         have e1 : ((acc.length : Int) + 1 + 9223372036854775808) % 18446744073709551616 - 9223372036854775808 = ((acc.length + 1 : Nat) : Int) := by omega
         obtain ⟨g1,g2,g3,g4⟩ := rwL_length bs E
         have hI : rdV K L0 E0 = acc ++ (rwV bs E :: rdV k (rwL bs E) (rwE bs E)) := hI
         have hJ : rdL K L0 E0 = rdL k (rwL bs E) (rwE bs E) := hJ
         have hH : rdE K L0 E0 = rdE k (rwL bs E) (rwE bs E) := hH
         have i1 : rtL 64 bs E = rwL1 bs E := rfl
         have i2 : rtE 64 bs E = rwE1 bs E := rfl
         have i3 : rtL 512 (rwL1 bs E) (rwE1 bs E) = rwL2 bs E := rfl
         have i4 : rtE 512 (rwL1 bs E) (rwE1 bs E) = rwE2 bs E := rfl
         have i5 : numL (rwL2 bs E) (rwE2 bs E) = rwL3 bs E := rfl
         have i6 : numE (rwL2 bs E) (rwE2 bs E) = rwE3 bs E := rfl
         have i7 : numL (rwL3 bs E) (rwE3 bs E) = rwL bs E := rfl
         have i8 : numE (rwL3 bs E) (rwE3 bs E) = rwE bs E := rfl
         have j1 : rtS' 64 bs E = (rwV bs E).k := rfl
         have j2 : rtS' 512 (rwL1 bs E) (rwE1 bs E) = (rwV bs E).v := rfl
         have j3 : numN (rwL2 bs E) (rwE2 bs E) = (rwV bs E).o := rfl
         have j4 : numN (rwL3 bs E) (rwE3 bs E) = (rwV bs E).t := rfl
         have k1 : (rwL1 bs E).length ≤ 1000000 := by omega
         have k2 : (rwL2 bs E).length ≤ 1000000 := by omega
         have k3 : (rwL3 bs E).length ≤ 1000000 := by omega
         have hrw : vrA (rwV bs E) = .agg [.str (rwV bs E).k,.str (rwV bs E).v,.w (.int .i64 (rwV bs E).o),.w (.int .i64 (rwV bs E).t)] := rfl
         obtain ⟨r,hr⟩ : ∃ r,rwV bs E = r := ⟨_,rfl⟩
         rw [hr] at hI j1 j2 j3 j4 hrw
         obtain ⟨rk,rv,ro,rt⟩ := r
         simp only at j1 j2 j3 j4
         have hat : (acc.map vrA) ++ [.agg [.str rk,.str rv,.w (.int .i64 ro),.w (.int .i64 rt)]] = (acc ++ [(⟨rk,rv,ro,rt⟩ : VR)]).map vrA := by rw [List.map_append]; rfl
         have hI : rdV K L0 E0 = (acc ++ [(⟨rk,rv,ro,rt⟩ : VR)]) ++ rdV k (rwL bs E) (rwE bs E) := by rw [hI]; simp
         have hal2 : (acc ++ [(⟨rk,rv,ro,rt⟩ : VR)]).length = acc.length + 1 := by simp
         generalize rwL1 bs E = A1 at *
         generalize rwE1 bs E = B1 at *
         generalize rwL2 bs E = A2 at *
         generalize rwE2 bs E = B2 at *
         generalize rwL3 bs E = A3 at *
         generalize rwE3 bs E = B3 at *
         generalize rwL bs E = A4 at *
         generalize rwE bs E = B4 at *
         simp only [go_sem,zab,Nat.reduceAdd,Nat.reduceSub,Nat.reduceMul,Int.reduceToNat,reduceCtorEq,↓reduceIte,Int.reducePow,Nat.reducePow,Int.reduceMod,Nat.reduceLeDiff,Int.reduceLE,Int.reduceNe,Int.reduceEq,Nat.reduceEqDiff,Nat.reduceLT,Nat.reduceBEq,ty,SreadV,rtextS',numS,rd,hbs1,hal,d3,e1,i1,i2,i3,i4,i5,i6,i7,i8,j1,j2,j3,j4,k1,k2,k3,hat,ids_vr,fillS,Int.toNat_natCast]
         repeat (refine And.intro (by first | omega | decide) ?_)
         refine ⟨k,_,by omega,zai [0,1,2,3,4,5,6,184] rfl rfl rfl ?_ ?_,acc ++ [(⟨rk,rv,ro,rt⟩ : VR)],A4,B4,k,rfl,by omega,by omega,hI,hJ,hH,rfl⟩
         · simp only [ssT,zao,zap,setSlot,gOf,AV.ren,renL,Blk.ren,Ax.look,Ax.put,reduceCtorEq,↓reduceIte,Nat.reduceEqDiff,Nat.reduceLT,Nat.reduceAdd,List.length_append,List.length_cons,List.length_nil,Option.some.injEq,hal2]; try simp
         · simp only [ssT,zao,zap,setSlot,gOf,AV.ren,renL,Blk.ren,Ax.look,Ax.put,reduceCtorEq,↓reduceIte,Nat.reduceEqDiff,Nat.reduceLT,Nat.reduceAdd,List.length_append,List.length_cons,List.length_nil,Option.some.injEq,hal2,ren_vr]; try simp
 · exact hp.elim
end
end Go.Proofs.Ythjceeimbohajaa
namespace Go.Proofs.Ythjceeimbohajaa
open Ax
def rtextPl : Plan := fun id => match id with
 | 8 => some [(5,10),(6,10),(8,10)]
 | _ => none
section
set_option maxRecDepth 100000
theorem rrtext_sound : zbb Try.prog 41 rrtextS := by
 refine zdj (S := S31) (T := tyC) (pl := rtextPl) zbs tyC_ok S31_ok Try.func41 (c := Try.f41.body.getD .skip) (by kernel_rfl) (by kernel_rfl) (fun xs pins hp _ => ?_)
 unfold rrtextS at hp ⊢
 split at hp
 · rename_i bs f k e k' m _
   obtain ⟨rfl,rfl,hlen⟩ := hp
   refine ⟨by simp,?_⟩
   have em : (if (0 : Int) > m then (0 : Int) else m) = max m 0 := by split <;> omega
   have em2 : (if m > (0 : Int) then m else (0 : Int)) = max m 0 := by split <;> omega
   obtain ⟨B,hB⟩ : ∃ B,numL bs e = B := ⟨_,rfl⟩
   obtain ⟨N,hN⟩ : ∃ N,numN bs e = N := ⟨_,rfl⟩
   obtain ⟨E,hE⟩ : ∃ E,numE bs e = E := ⟨_,rfl⟩
   have hBl := zbh bs e
   rw [hB] at hBl
   have hok : rtOk m bs e ↔ E = 0 ∧ 0 ≤ N ∧ N ≤ max m 0 := by unfold rtOk; rw [hE,hN]
   unfold Try.f41
   by_cases hE0 : E = 0
   · have d1 : decide (E = 0) = true := decide_eq_true hE0
     by_cases hN0 : N < 0
     · have d2 : decide (N < 0) = true := decide_eq_true hN0
       have hr : ¬ rtOk m bs e := fun h => by have := hok.1 h; omega
       simp only [go_sem,coe,zaa,Nat.reduceAdd,Nat.reduceSub,Nat.reduceMul,Int.reduceToNat,reduceCtorEq,↓reduceIte,Int.reducePow,Nat.reducePow,Int.reduceMod,Nat.reduceLeDiff,Int.reduceLE,Int.reduceNe,Int.reduceEq,Nat.reduceEqDiff,Nat.reduceLT,Nat.reduceBEq,List.map_cons,List.map_nil,List.toList_toArray,Array.toList_append,Option.toArray_some,Option.toArray_none,Bool.and_self,tyC,zcw,ty,S31,rtextPl,rrnumS,hlen,rrd,hB,hN,hE,d1,d2,em,em2,rtL,rtE,rtS',hr,if_false,hE0,ne_eq,not_true_eq_false]
       refine ⟨_,Weak.refl _,?_⟩
       simp only [go_sem,coe,zaa,Nat.reduceAdd,Nat.reduceSub,Nat.reduceMul,Int.reduceToNat,reduceCtorEq,↓reduceIte,Int.reducePow,Nat.reducePow,Int.reduceMod,Nat.reduceLeDiff,Int.reduceLE,Int.reduceNe,Int.reduceEq,Nat.reduceEqDiff,Nat.reduceLT,Nat.reduceBEq,List.map_cons,List.map_nil,List.toList_toArray,Array.toList_append,Option.toArray_some,Option.toArray_none,Bool.and_self,tyC,zcw,ty]
     · have d2 : decide (N < 0) = false := decide_eq_false hN0
       by_cases hNm : max m 0 < N
       · have d3 : decide (max m 0 < N) = true := decide_eq_true hNm
         have hr : ¬ rtOk m bs e := fun h => by have := hok.1 h; omega
         simp only [go_sem,coe,zaa,Nat.reduceAdd,Nat.reduceSub,Nat.reduceMul,Int.reduceToNat,reduceCtorEq,↓reduceIte,Int.reducePow,Nat.reducePow,Int.reduceMod,Nat.reduceLeDiff,Int.reduceLE,Int.reduceNe,Int.reduceEq,Nat.reduceEqDiff,Nat.reduceLT,Nat.reduceBEq,List.map_cons,List.map_nil,List.toList_toArray,Array.toList_append,Option.toArray_some,Option.toArray_none,Bool.and_self,tyC,zcw,ty,S31,rtextPl,rrnumS,hlen,rrd,hB,hN,hE,d1,d2,d3,em,em2,rtL,rtE,rtS',hr,if_false,hE0,ne_eq,not_true_eq_false]
         refine ⟨_,Weak.refl _,?_⟩
         simp only [go_sem,coe,zaa,Nat.reduceAdd,Nat.reduceSub,Nat.reduceMul,Int.reduceToNat,reduceCtorEq,↓reduceIte,Int.reducePow,Nat.reducePow,Int.reduceMod,Nat.reduceLeDiff,Int.reduceLE,Int.reduceNe,Int.reduceEq,Nat.reduceEqDiff,Nat.reduceLT,Nat.reduceBEq,List.map_cons,List.map_nil,List.toList_toArray,Array.toList_append,Option.toArray_some,Option.toArray_none,Bool.and_self,tyC,zcw,ty]
       · have d3 : decide (max m 0 < N) = false := decide_eq_false hNm
         have hr : rtOk m bs e := hok.2 ⟨hE0,by omega,by omega⟩
         obtain ⟨M,rfl⟩ := Int.eq_ofNat_of_zero_le (show 0 ≤ N by omega)
         have e1 : List.take (B.length - M) (List.drop M B) = B.drop M := List.take_of_length_le (by simp)
         by_cases hl : (B.length : Int) < (M : Int)
         · have d4 : decide ((B.length : Int) < (M : Int)) = true := decide_eq_true hl
           simp only [go_sem,coe,zaa,Nat.reduceAdd,Nat.reduceSub,Nat.reduceMul,Int.reduceToNat,reduceCtorEq,↓reduceIte,Int.reducePow,Nat.reducePow,Int.reduceMod,Nat.reduceLeDiff,Int.reduceLE,Int.reduceNe,Int.reduceEq,Nat.reduceEqDiff,Nat.reduceLT,Nat.reduceBEq,List.map_cons,List.map_nil,List.toList_toArray,Array.toList_append,Option.toArray_some,Option.toArray_none,Bool.and_self,tyC,zcw,ty,S31,rtextPl,rrnumS,hlen,rrd,hB,hN,hE,d1,d2,d3,d4,em,em2,rtL,rtE,rtS',hr,if_true,hE0,ne_eq,not_true_eq_false,if_false,tkB,tkL,tkE,hl]
           refine ⟨_,Weak.refl _,?_⟩
           simp only [go_sem,coe,zaa,Nat.reduceAdd,Nat.reduceSub,Nat.reduceMul,Int.reduceToNat,reduceCtorEq,↓reduceIte,Int.reducePow,Nat.reducePow,Int.reduceMod,Nat.reduceLeDiff,Int.reduceLE,Int.reduceNe,Int.reduceEq,Nat.reduceEqDiff,Nat.reduceLT,Nat.reduceBEq,List.map_cons,List.map_nil,List.toList_toArray,Array.toList_append,Option.toArray_some,Option.toArray_none,Bool.and_self,tyC,zcw,ty]
         · have d4 : decide ((B.length : Int) < (M : Int)) = false := decide_eq_false hl
           simp only [go_sem,coe,zaa,Nat.reduceAdd,Nat.reduceSub,Nat.reduceMul,Int.reduceToNat,reduceCtorEq,↓reduceIte,Int.reducePow,Nat.reducePow,Int.reduceMod,Nat.reduceLeDiff,Int.reduceLE,Int.reduceNe,Int.reduceEq,Nat.reduceEqDiff,Nat.reduceLT,Nat.reduceBEq,List.map_cons,List.map_nil,List.toList_toArray,Array.toList_append,Option.toArray_some,Option.toArray_none,Bool.and_self,tyC,zcw,ty,S31,rtextPl,rrnumS,hlen,rrd,hB,hN,hE,d1,d2,d3,d4,em,em2,rtL,rtE,rtS',hr,if_true,hE0,ne_eq,not_true_eq_false,if_false,tkB,tkL,tkE,if_neg hl,e1,Int.toNat_natCast,Nat.sub_zero]
           refine ⟨by omega,by omega,?_⟩
           refine ⟨_,Weak.refl _,?_⟩
           simp only [go_sem,coe,zaa,Nat.reduceAdd,Nat.reduceSub,Nat.reduceMul,Int.reduceToNat,reduceCtorEq,↓reduceIte,Int.reducePow,Nat.reducePow,Int.reduceMod,Nat.reduceLeDiff,Int.reduceLE,Int.reduceNe,Int.reduceEq,Nat.reduceEqDiff,Nat.reduceLT,Nat.reduceBEq,List.map_cons,List.map_nil,List.toList_toArray,Array.toList_append,Option.toArray_some,Option.toArray_none,Bool.and_self,tyC,zcw,ty]
   · have d1 : decide (E = 0) = false := decide_eq_false hE0
     have hr : ¬ rtOk m bs e := fun h => hE0 (hok.1 h).1
     simp only [go_sem,coe,zaa,Nat.reduceAdd,Nat.reduceSub,Nat.reduceMul,Int.reduceToNat,reduceCtorEq,↓reduceIte,Int.reducePow,Nat.reducePow,Int.reduceMod,Nat.reduceLeDiff,Int.reduceLE,Int.reduceNe,Int.reduceEq,Nat.reduceEqDiff,Nat.reduceLT,Nat.reduceBEq,List.map_cons,List.map_nil,List.toList_toArray,Array.toList_append,Option.toArray_some,Option.toArray_none,Bool.and_self,tyC,zcw,ty,S31,rtextPl,rrnumS,hlen,rrd,hB,hN,hE,d1,em,em2,rtL,rtE,rtS',hr,if_false,ne_eq,hE0,not_false_eq_true,if_true]
     refine ⟨_,Weak.refl _,?_⟩
     simp only [go_sem,coe,zaa,Nat.reduceAdd,Nat.reduceSub,Nat.reduceMul,Int.reduceToNat,reduceCtorEq,↓reduceIte,Int.reducePow,Nat.reducePow,Int.reduceMod,Nat.reduceLeDiff,Int.reduceLE,Int.reduceNe,Int.reduceEq,Nat.reduceEqDiff,Nat.reduceLT,Nat.reduceBEq,List.map_cons,List.map_nil,List.toList_toArray,Array.toList_append,Option.toArray_some,Option.toArray_none,Bool.and_self,tyC,zcw,ty]
 · exact hp.elim
end
end Go.Proofs.Ythjceeimbohajaa
namespace Go.Proofs.Ythjceeimbohajaa
open Ax
def rreadVS : zat
 | [.sb b fb],[] => ⟨b.length ≤ 1000000,vwX (rrV b),[]⟩
 | _,_ => zcs
def SrreadV (f : FuncId) : Option zat :=
 match f with
 | 41 => some rrtextS
 | 40 => some rrnumS
 | 19 => some putVS
 | _ => none
theorem SrreadV_ok : Fns Try.prog SrreadV := by
 intro f s h
 unfold SrreadV at h
 split at h
 · injection h with h; subst h; exact ⟨⟨_,Try.func41,by kernel_rfl,by kernel_rfl⟩,rrtext_sound⟩
 · injection h with h; subst h; exact ⟨⟨_,Try.func40,by kernel_rfl,by kernel_rfl⟩,rrnum_sound⟩
 · injection h with h; subst h; exact ⟨⟨_,Try.func19,by kernel_rfl,by kernel_rfl⟩,rputV_sound⟩
 · cases h
theorem rgV_stop (k : Nat) (b : List UInt8) {e : Int} (h : ¬ e = 0) : rgV k b e = [] := by
 cases k with
 | zero => rfl
 | succ k => unfold rgV; rw [if_neg h]
section
set_option maxRecDepth 100000
set_option maxHeartbeats 32000000 in
theorem rreadV_sound : zbb Try.prog 21 rreadVS := by
 refine zeo (S := SrreadV) (T := ty) zbs ty_ok SrreadV_ok Try.func21 (c := Try.f21.body.getD .skip) (by kernel_rfl) (by kernel_rfl) (fun xs pins hp _ => ?_)
 unfold rreadVS at hp ⊢
 split at hp
 · rename_i b fb _
   have hb : b.length ≤ 1000000 := hp
   have tk : ∀ l : List UInt8,List.take l.length l = l := fun l => List.take_length
   have hl1 : (numL b 0).length ≤ 1000000 := by have := zbh b 0; omega
   have hl2 : (hdL b).length ≤ b.length := by have h1 := zbh b 0; have h2 := zbh (numL b 0) (numE b 0); unfold hdL; omega
   have htop : top = 4294967296 := rfl
   refine ⟨by simp,?_⟩
   obtain ⟨N,hN⟩ : ∃ N,hdC b = N := ⟨_,rfl⟩
   obtain ⟨X,hX⟩ : ∃ X,hdN b = X := ⟨_,rfl⟩
   obtain ⟨L0,hL0⟩ : ∃ L0,hdL b = L0 := ⟨_,rfl⟩
   obtain ⟨E0,hE0⟩ : ∃ E0,hdE b = E0 := ⟨_,rfl⟩
   have hO : rrV b = rrK X (rgV (min N 4097).toNat L0 E0) b := by unfold rrV; rw [hN,hX,hL0,hE0]
   have hN' : numN (numL b 0) (numE b 0) = N := hN
   have hX' : numN b 0 = X := hX
   have hL' : numL (numL b 0) (numE b 0) = L0 := hL0
   have hE' : numE (numL b 0) (numE b 0) = E0 := hE0
   rw [hL0] at hl2
   unfold Try.f21
   rw [hO]
   obtain ⟨K,hK⟩ : ∃ K,(min N 4097).toNat = K := ⟨_,rfl⟩
   rw [hK]
   simp only [go_sem,zab,Nat.reduceAdd,Nat.reduceSub,Nat.reduceMul,Int.reduceToNat,reduceCtorEq,↓reduceIte,Int.reducePow,Nat.reducePow,Int.reduceMod,Nat.reduceLeDiff,Int.reduceLE,Int.reduceNe,Int.reduceEq,Nat.reduceEqDiff,Nat.reduceLT,Nat.reduceBEq,ty,SrreadV,rrnumS,rrd,hb,hl1,hX',hN',hL',hE',fillS]
   refine awp_loopW ⟨fun mm σ => ∃ (acc : List VR) (bs : List UInt8) (E : Int) (k : Nat),mm = k ∧ bs.length ≤ b.length ∧ acc.length + k = K ∧ rgV K L0 E0 = acc ++ rgV k bs E ∧
     σ = ⟨[.sb b fb,.junk,.rf 4 2 0 0,.w (.int .i64 0),.rf 5 2 0 0,.w (.int .i64 N),.rf 6 2 0 0,.w (.int .i64 X),.w (.int .i64 acc.length),.junk,.junk,.junk,.junk,.junk,.junk,.junk,.junk,.junk,.junk,.junk,.junk,.junk,.junk,.junk,.junk,.junk,.junk,.junk,.junk,.junk,.junk,.junk,.junk,.junk,.junk,.junk,.junk,.junk,.junk,.junk,.junk,.junk,.junk,.junk,.junk,.junk,.junk,.junk,.junk,.junk,.junk,.junk,.junk,.junk,.junk,.junk,.junk,.junk,.junk,.junk,.junk,.junk,.junk,.junk,.junk,.junk,.junk,.junk,.junk,.junk,.junk,.junk,.junk,.junk,.junk,.junk,.junk,.junk,.junk,.junk,.junk,.junk,.junk,.junk,.junk],[(4,.g 2 [.agg [.w (.int .i64 0),.sg 4 [] true]]),(5,.g 2 [.agg [.w (.int .i64 X),.ms 7 4 0 acc.length]]),(6,.g 2 [.agg [.sb bs fb,.w (.int .i64 E)]]),(7,.g 4 (acc.map vrA))],8⟩,?_,?_⟩
   · refine ⟨_,_,(weak_nilB 20 2 1 4 [.w (.int .i64 X),.sg 4 [] true] rfl (by simp) (by exact trivial) (by decide)).trans (zai [0,1,2,3,4,20,84,196] rfl rfl rfl ?_ ?_),[],L0,E0,K,rfl,hl2,by simp,rfl,rfl⟩
     · simp only [ssT,zao,zap,setSlot,gOf,AV.ren,renL,Blk.ren,Ax.look,Ax.put,reduceCtorEq,↓reduceIte,Nat.reduceEqDiff,Nat.reduceLT,Nat.reduceAdd,List.length_append,List.length_cons,List.length_nil,Option.some.injEq]; try simp
     · simp only [ssT,zao,zap,setSlot,gOf,AV.ren,renL,Blk.ren,Ax.look,Ax.put,reduceCtorEq,↓reduceIte,Nat.reduceEqDiff,Nat.reduceLT,Nat.reduceAdd,List.length_append,List.length_cons,List.length_nil,Option.some.injEq]; try simp [renL]
   · rintro m' σ ⟨acc,bs,E,k0,rfl,hbs,hn,hI,rfl⟩
     have hbs1 : bs.length ≤ 1000000 := by omega
     have hal : (acc.map vrA).length = acc.length := by simp
     obtain ⟨x1,hx1⟩ : ∃ x,decide ((acc.length : Int) < N) = x := ⟨_,rfl⟩
     obtain ⟨x2,hx2⟩ : ∃ x,decide ((acc.length : Int) ≤ 4096) = x := ⟨_,rfl⟩
     obtain ⟨x3,hx3⟩ : ∃ x,decide (E = 0) = x := ⟨_,rfl⟩
     by_cases hgo : x1 = true ∧ x2 = true ∧ x3 = true
     · obtain ⟨rfl,rfl,rfl⟩ := hgo
       have g1 := of_decide_eq_true hx1
       have g2 := of_decide_eq_true hx2
       have hz : E = 0 := of_decide_eq_true hx3
       obtain ⟨k,rfl⟩ : ∃ k,m' = k + 1 := ⟨m' - 1,by omega⟩
       have hI : rgV K L0 E0 = acc ++ (rwV bs E :: rgV k (rwL bs E) (rwE bs E)) := by
           rw [hI]; conv => lhs; unfold rgV
           rw [if_pos hz]
       have e1 : ((acc.length : Int) + 1 + 9223372036854775808) % 18446744073709551616 - 9223372036854775808 = ((acc.length + 1 : Nat) : Int) := by omega
       obtain ⟨g1,g2,g3,g4⟩ := rwL_length bs E
       have i1 : rtL 64 bs E = rwL1 bs E := rfl
       have i2 : rtE 64 bs E = rwE1 bs E := rfl
       have i3 : rtL 512 (rwL1 bs E) (rwE1 bs E) = rwL2 bs E := rfl
       have i4 : rtE 512 (rwL1 bs E) (rwE1 bs E) = rwE2 bs E := rfl
       have i5 : numL (rwL2 bs E) (rwE2 bs E) = rwL3 bs E := rfl
       have i6 : numE (rwL2 bs E) (rwE2 bs E) = rwE3 bs E := rfl
       have i7 : numL (rwL3 bs E) (rwE3 bs E) = rwL bs E := rfl
       have i8 : numE (rwL3 bs E) (rwE3 bs E) = rwE bs E := rfl
       have j1 : rtS' 64 bs E = (rwV bs E).k := rfl
       have j2 : rtS' 512 (rwL1 bs E) (rwE1 bs E) = (rwV bs E).v := rfl
       have j3 : numN (rwL2 bs E) (rwE2 bs E) = (rwV bs E).o := rfl
       have j4 : numN (rwL3 bs E) (rwE3 bs E) = (rwV bs E).t := rfl
       have k1 : (rwL1 bs E).length ≤ 1000000 := by omega
       have k2 : (rwL2 bs E).length ≤ 1000000 := by omega
       have k3 : (rwL3 bs E).length ≤ 1000000 := by omega
       have hrw : vrA (rwV bs E) = .agg [.str (rwV bs E).k,.str (rwV bs E).v,.w (.int .i64 (rwV bs E).o),.w (.int .i64 (rwV bs E).t)] := rfl
       obtain ⟨r,hr⟩ : ∃ r,rwV bs E = r := ⟨_,rfl⟩
       rw [hr] at hI j1 j2 j3 j4 hrw
       obtain ⟨rk,rv,ro,rt⟩ := r
       simp only at j1 j2 j3 j4
       have hat : (acc.map vrA) ++ [.agg [.str rk,.str rv,.w (.int .i64 ro),.w (.int .i64 rt)]] = (acc ++ [(⟨rk,rv,ro,rt⟩ : VR)]).map vrA := by rw [List.map_append]; rfl
       have hI : rgV K L0 E0 = (acc ++ [(⟨rk,rv,ro,rt⟩ : VR)]) ++ rgV k (rwL bs E) (rwE bs E) := by rw [hI]; simp
       have hal2 : (acc ++ [(⟨rk,rv,ro,rt⟩ : VR)]).length = acc.length + 1 := by simp
       generalize rwL1 bs E = A1 at *
       generalize rwE1 bs E = B1 at *
       generalize rwL2 bs E = A2 at *
       generalize rwE2 bs E = B2 at *
       generalize rwL3 bs E = A3 at *
       generalize rwE3 bs E = B3 at *
       generalize rwL bs E = A4 at *
       generalize rwE bs E = B4 at *
       simp only [go_sem,zab,Nat.reduceAdd,Nat.reduceSub,Nat.reduceMul,Int.reduceToNat,reduceCtorEq,↓reduceIte,Int.reducePow,Nat.reducePow,Int.reduceMod,Nat.reduceLeDiff,Int.reduceLE,Int.reduceNe,Int.reduceEq,Nat.reduceEqDiff,Nat.reduceLT,Nat.reduceBEq,ty,SrreadV,rrtextS,rrnumS,rrd,hbs1,hal,hx1,hx2,hx3,e1,i1,i2,i3,i4,i5,i6,i7,i8,j1,j2,j3,j4,k1,k2,k3,hat,ids_vr,fillS,Int.toNat_natCast]
       repeat (refine And.intro (by first | omega | decide) ?_)
       refine ⟨k,_,by omega,zai [0,1,2,3,4,5,6,400] rfl rfl rfl ?_ ?_,acc ++ [(⟨rk,rv,ro,rt⟩ : VR)],A4,B4,k,rfl,by omega,by omega,hI,rfl⟩
       · simp only [ssT,zao,zap,setSlot,gOf,AV.ren,renL,Blk.ren,Ax.look,Ax.put,reduceCtorEq,↓reduceIte,Nat.reduceEqDiff,Nat.reduceLT,Nat.reduceAdd,List.length_append,List.length_cons,List.length_nil,Option.some.injEq,hal2]; try simp
       · simp only [ssT,zao,zap,setSlot,gOf,AV.ren,renL,Blk.ren,Ax.look,Ax.put,reduceCtorEq,↓reduceIte,Nat.reduceEqDiff,Nat.reduceLT,Nat.reduceAdd,List.length_append,List.length_cons,List.length_nil,Option.some.injEq,hal2,ren_vr]; try simp
     · have hst : ¬ E = 0 ∨ m' = 0 := by
         by_cases h2 : E = 0
         · refine .inr ?_
           have e2 : x3 = true := by rw [← hx3]; exact decide_eq_true h2
           rcases Nat.eq_zero_or_pos m' with h | h
           · exact h
           · exact (hgo ⟨by rw [← hx1]; exact decide_eq_true (by omega),by rw [← hx2]; exact decide_eq_true (by omega),e2⟩).elim
         · exact .inl h2
       have hI : rgV K L0 E0 = acc := by
         rcases hst with h | h
         · rw [hI,rgV_stop _ _ h,List.append_nil]
         · subst h; rw [hI]; simp [rgV]
       rw [hI]
       have hdle : decide (0 + acc.length ≤ (acc.map vrA).length) = true := decide_eq_true (by omega)
       have htk : (acc.map vrA).take acc.length = acc.map vrA := List.take_of_length_le (by omega)
       have hc : coe ty 45 (.sg 4 (acc.map vrA) false) = .sg 4 (acc.map vrA) false := by cases acc <;> rfl
       have hex : ∃ q : List VR,acc.map vrA = q.map vrA := ⟨acc,rfl⟩
       have hLm : acc.length ≤ 9223372036854775807 := by omega
       obtain ⟨C,hC⟩ : ∃ C,chV X acc = C := ⟨_,rfl⟩
       obtain ⟨W,hW⟩ : ∃ W,putV X acc = W := ⟨_,rfl⟩
       have hcs : (vwX (rrK X acc b) = .tup [.agg [.w (.int .i64 X),.sg 4 (acc.map vrA) false],.w (.int .i64 0)] ∧ decide (C = 0) = true ∧ decide (W = b) = true) ∨ (vwX (rrK X acc b) = .tup [.agg [.w (.int .i64 0),.sg 4 [] true],.w (.int .i64 4)] ∧ decide (C = 0) = false) ∨ (vwX (rrK X acc b) = .tup [.agg [.w (.int .i64 0),.sg 4 [] true],.w (.int .i64 4)] ∧ decide (C = 0) = true ∧ decide (W = b) = false) := by
         subst hC hW
         unfold rrK
         by_cases h2 : chV X acc = 0
         · by_cases h3 : putV X acc = b
           · rw [if_pos ⟨h2,h3⟩]; exact .inl ⟨rfl,decide_eq_true h2,decide_eq_true h3⟩
           · rw [if_neg (fun h => h3 h.2)]; exact .inr (.inr ⟨rfl,decide_eq_true h2,decide_eq_false h3⟩)
         · rw [if_neg (fun h => h2 h.1)]; exact .inr (.inl ⟨rfl,decide_eq_false h2⟩)
       clear hI hst
       cases x1 <;> cases x2 <;> cases x3
       case true.true.true => exact (hgo ⟨rfl,rfl,rfl⟩).elim
       all_goals
         simp only [go_sem,zab,Nat.reduceAdd,Nat.reduceSub,Nat.reduceMul,Int.reduceToNat,reduceCtorEq,↓reduceIte,Int.reducePow,Nat.reducePow,Int.reduceMod,Nat.reduceLeDiff,Int.reduceLE,Int.reduceNe,Int.reduceEq,Nat.reduceEqDiff,Nat.reduceLT,Nat.reduceBEq,ty,SrreadV,hx1,hx2,hx3]
         refine ⟨_,weak_fgC 7 4 4 5 (acc.map vrA) _ rfl (zcp acc) rfl (by simp [slot,AV.ids]) (by simp [Blk.idsB,Blk.closed,closedL,AV.closed,idsL,AV.ids]),?_⟩
         simp only [fgL,fgH,AV.fg,Blk.fg,Nat.reduceBEq,cond_true,cond_false,hdle,Bool.and_true,beq_self_eq_true,Bool.true_and,List.drop_zero,htk]
         rcases hcs with Y | Y | Y
         all_goals
           rw [Y.1]
           simp only [go_sem,zab,Nat.reduceAdd,Nat.reduceSub,Nat.reduceMul,Int.reduceToNat,reduceCtorEq,↓reduceIte,Int.reducePow,Nat.reducePow,Int.reduceMod,Nat.reduceLeDiff,Int.reduceLE,Int.reduceNe,Int.reduceEq,Nat.reduceEqDiff,Nat.reduceLT,Nat.reduceBEq,ty,SrreadV,putVS,hal,hLm,hex,hc,zbj,hC,hW,Y.2,zcp]
           try (refine ⟨_,Weak.refl _,?_⟩)
           try simp only [go_sem,zab,Nat.reduceAdd,Nat.reduceSub,Nat.reduceMul,Int.reduceToNat,reduceCtorEq,↓reduceIte,Int.reducePow,Nat.reducePow,Int.reduceMod,Nat.reduceLeDiff,Int.reduceLE,Int.reduceNe,Int.reduceEq,Nat.reduceEqDiff,Nat.reduceLT,Nat.reduceBEq,ty]
 · exact hp.elim
end
end Go.Proofs.Ythjceeimbohajaa
namespace Go.Proofs.Ythjceeimbohajaa
open Ax
def as36S : zat
 | [.sg 4 xs f],[] => ⟨xs.length ≤ 1000000 ∧ ∃ l : List VR,xs = l.map vrA,.sg 4 xs false,[]⟩
 | _,_ => zcs
def back36S : zat
 | [.agg [.w (.int .i64 n),.sg 4 xs f]],[] => ⟨xs.length ≤ 1000000 ∧ ∃ l : List VR,xs = l.map vrA,.agg [.w (.int .i64 n),.sg 4 xs false],[]⟩
 | _,_ => zcs
theorem slot_fgLP (id s : Nat) (zs : List AV) : ∀ (sl : List AV) (i : Nat),slot (fgL id s zs sl) i = (slot sl i).fg id s zs
 | [],i => rfl
 | x :: sl,0 => rfl
 | x :: sl,i + 1 => slot_fgLP id s zs sl i
theorem gP_ends {T : zac} {sl : List AV} {H : Heap} {nx id n s : Nat} {ws rs : List AV} {q : Prop} (i : Nat) (h2 : slot sl i = .ms id s 0 n) (hl : Ax.look H id = some (.g s ws)) (hc : closedL ws = true) (hn : n = ws.length) (hr : rs = ws) :
   EndsW T [.tmp i] [] ⟨q,.sg s rs false,[]⟩ .ret ⟨sl,H,nx⟩ := by
 subst hn hr
 have hs : slot (fgL id s rs sl) i = .sg s rs false := by
   rw [slot_fgLP,h2]
   simp [AV.fg]
 refine ⟨_,weak_fg id s i rs hl hc (by rw [h2]; simp [AV.ids]),?_⟩
 simp only [Ax.Ends,Ax.rvals,EndsX,rone,hs,AV.ids,idsL,newIds,upTo,nodup,pinsOf,List.nil_append,AV.ren,renL,and_self]
section
set_option maxRecDepth 100000
set_option maxHeartbeats 4000000 in
theorem as36_sound : zbb Try.prog 55 as36S := by
 refine zeo (S := noS) (T := ty) zbs ty_ok zdn Try.func55 (c := Try.f55.body.getD .skip) (by kernel_rfl) (by kernel_rfl) (fun xs pins hp _ => ?_)
 unfold as36S at hp ⊢
 split at hp
 · rename_i xs f _
   obtain ⟨hL,l,rfl⟩ := hp
   rw [List.length_map] at hL
   have hle : (l.map vrA).length = l.length := by simp
   have ht : top = 4294967296 := rfl
   refine ⟨by simp,?_⟩
   unfold Try.f55
   simp only [go_sem,zab,Nat.reduceAdd,Nat.reduceSub,Nat.reduceMul,Int.reduceToNat,reduceCtorEq,↓reduceIte,Int.reducePow,Nat.reducePow,Int.reduceMod,Nat.reduceLeDiff,Int.reduceLE,Int.reduceNe,Int.reduceEq,Nat.reduceEqDiff,Nat.reduceLT,Nat.reduceBEq,ty,noS,hle]
   refine awp_loopW ⟨fun m σ => ∃ i : Nat,m = l.length - i ∧ i ≤ l.length ∧
       σ = ⟨[.sg 4 (l.map vrA) f,.junk,.sg 1 [] true,.ms 4 4 0 i,.w (.int .i64 i),.junk,.junk,.junk,.junk,.junk,.junk,.junk,.junk,.junk,.junk,.junk,.junk,.junk,.junk],[(4,.g 4 ((l.take i).map vrA))],5⟩,?_,?_⟩
   · refine ⟨_,_,(weak_nil 3 4 (.g 4 []) ⟨by decide,rfl⟩ (by exact trivial)).trans (zai [0,1,2,3,28] rfl rfl rfl ?_ ?_),0,rfl,by omega,rfl⟩
     · simp only [ssT,zao,zap,setSlot,gOf,AV.ren,renL,Blk.ren,Ax.look,Ax.put,reduceCtorEq,↓reduceIte,Nat.reduceEqDiff,Nat.reduceLT,Nat.reduceAdd,List.length_append,List.length_cons,List.length_nil,Option.some.injEq]; try simp
       try rfl
     · simp only [ssT,zao,zap,setSlot,gOf,AV.ren,renL,Blk.ren,Ax.look,Ax.put,reduceCtorEq,↓reduceIte,Nat.reduceEqDiff,Nat.reduceLT,Nat.reduceAdd,List.length_append,List.length_cons,List.length_nil,Option.some.injEq]; try simp [renL]
   · rintro m σ ⟨i,rfl,hi,rfl⟩
     have e1 : ((i : Int) + 1 + 9223372036854775808) % 18446744073709551616 - 9223372036854775808 = ((i + 1 : Nat) : Int) := by omega
     have hml : ((l.take i).map vrA).length = i := by simp; omega
     by_cases hil : i < l.length
     · have d1 : decide ((i : Int) < l.length) = true := decide_eq_true (by omega)
       have hs1 := zcm l i hil
       have htk : l.take (i + 1) = l.take i ++ [l[i]] := List.take_succ_eq_append_getElem hil
       obtain ⟨r,hr⟩ : ∃ r,l[i] = r := ⟨_,rfl⟩
       rw [hr] at hs1 htk
       obtain ⟨k,v,o,t⟩ := r
       have hs1 : slot (l.map vrA) i = .agg [.str k,.str v,.w (.int .i64 o),.w (.int .i64 t)] := hs1
       have hat : (l.take i).map vrA ++ [.agg [.str k,.str v,.w (.int .i64 o),.w (.int .i64 t)]] = (l.take (i + 1)).map vrA := by rw [htk,List.map_append]; rfl
       simp only [go_sem,zab,Nat.reduceAdd,Nat.reduceSub,Nat.reduceMul,Int.reduceToNat,reduceCtorEq,↓reduceIte,Int.reducePow,Nat.reducePow,Int.reduceMod,Nat.reduceLeDiff,Int.reduceLE,Int.reduceNe,Int.reduceEq,Nat.reduceEqDiff,Nat.reduceLT,Nat.reduceBEq,ty,noS,hle,hml,d1,hs1,e1,Int.toNat_natCast,hat]
       repeat (refine And.intro (by first | omega | decide) ?_)
       refine ⟨l.length - (i + 1),_,by omega,zai [0,1,2,3,85] rfl rfl rfl ?_ ?_,i + 1,rfl,by omega,rfl⟩
       · simp only [ssT,zao,zap,setSlot,gOf,AV.ren,renL,Blk.ren,Ax.look,Ax.put,reduceCtorEq,↓reduceIte,Nat.reduceEqDiff,Nat.reduceLT,Nat.reduceAdd,List.length_append,List.length_cons,List.length_nil,Option.some.injEq]; try simp
       · simp only [ssT,zao,zap,setSlot,gOf,AV.ren,renL,Blk.ren,Ax.look,Ax.put,reduceCtorEq,↓reduceIte,Nat.reduceEqDiff,Nat.reduceLT,Nat.reduceAdd,List.length_append,List.length_cons,List.length_nil,Option.some.injEq,ren_vr]; try simp
     · have d1 : decide ((i : Int) < l.length) = false := decide_eq_false (by omega)
       have hii : l.take i = l := List.take_of_length_le (by omega)
       rw [hii] at hml ⊢
       simp only [go_sem,zab,Nat.reduceAdd,Nat.reduceSub,Nat.reduceMul,Int.reduceToNat,reduceCtorEq,↓reduceIte,Int.reducePow,Nat.reducePow,Int.reduceMod,Nat.reduceLeDiff,Int.reduceLE,Int.reduceNe,Int.reduceEq,Nat.reduceEqDiff,Nat.reduceLT,Nat.reduceBEq,ty,noS,hle,d1]
       refine ⟨_,Weak.refl _,?_⟩
       simp only [go_sem,zab,Nat.reduceAdd,Nat.reduceSub,Nat.reduceMul,Int.reduceToNat,reduceCtorEq,↓reduceIte,Int.reducePow,Nat.reducePow,Int.reduceMod,Nat.reduceLeDiff,Int.reduceLE,Int.reduceNe,Int.reduceEq,Nat.reduceEqDiff,Nat.reduceLT,Nat.reduceBEq,ty,noS]
       exact gP_ends 2 rfl rfl (zcp l) hml.symm rfl
 · exact hp.elim
def Sback36 (f : FuncId) : Option zat :=
 match f with
 | 55 => some as36S
 | _ => none
theorem Sback36_ok : Fns Try.prog Sback36 := by
 intro f s h
 unfold Sback36 at h
 split at h
 · injection h with h; subst h; exact ⟨⟨_,Try.func55,by kernel_rfl,by kernel_rfl⟩,as36_sound⟩
 · cases h
set_option maxHeartbeats 4000000 in
theorem back36_sound : zbb Try.prog 23 back36S := by
 refine zaw (S := Sback36) (T := tyF) zbs tyF_ok Sback36_ok Try.func23 (c := Try.f23.body.getD .skip) (by kernel_rfl) (by kernel_rfl) (fun xs pins hp _ => ?_)
 unfold back36S at hp ⊢
 split at hp
 · rename_i n xs f _
   obtain ⟨hL,l,rfl⟩ := hp
   have hx : ∃ k : List VR,l.map vrA = k.map vrA := ⟨l,rfl⟩
   have hcl := zcp l
   have hc : coe (setFlat ty) 50 (.sg 4 (l.map vrA) f) = .sg 4 (l.map vrA) f := by cases l <;> rfl
   refine ⟨by simp,?_⟩
   unfold Try.f23
   simp only [go_sem,zab,Nat.reduceAdd,Nat.reduceSub,Nat.reduceMul,Int.reduceToNat,reduceCtorEq,↓reduceIte,Int.reducePow,Nat.reducePow,Int.reduceMod,Nat.reduceLeDiff,Int.reduceLE,Int.reduceNe,Int.reduceEq,Nat.reduceEqDiff,Nat.reduceLT,Nat.reduceBEq,tyF,setFlat,ty,Sback36,as36S,hL,hx,hcl,hc]
 · exact hp.elim
theorem eqVR_dec (k v : List UInt8) (o t : Int) (k' v' : List UInt8) (o' t' : Int) :
   (decide (k = k') && (decide (v = v') && (decide (o = o') && decide (t = t')))) = decide ((⟨k,v,o,t⟩ : VR) = ⟨k',v',o',t'⟩) := by
 simp only [VR.mk.injEq,Bool.decide_and]
def sameR36S : zat
 | [.sg 4 xs f,.sg 4 ys g],[] => ⟨xs.length ≤ 9223372036854775807 ∧ ys.length ≤ 9223372036854775807 ∧ (∃ l : List VR,xs = l.map vrA) ∧ ∃ k : List VR,ys = k.map vrA,.w (.bool (decide (xs.map uvr = ys.map uvr))),[]⟩
 | _,_ => zcs
def same36S : zat
 | [.agg [.w (.int .i64 n),.sg 4 xs f],.agg [.w (.int .i64 m),.sg 4 ys g]],[] => ⟨xs.length ≤ 9223372036854775807 ∧ ys.length ≤ 9223372036854775807 ∧ (∃ l : List VR,xs = l.map vrA) ∧ ∃ k : List VR,ys = k.map vrA,.w (.bool (decide (n = m) && decide (xs.map uvr = ys.map uvr))),[]⟩
 | _,_ => zcs
def zde : Plan := fun id => match id with
 | 6 => some []
 | _ => none
theorem same_len {α : Type} {l k : List α} (h : l.length ≠ k.length) : ¬ l = k := fun e => h (by rw [e])
theorem same_drop {l k : List VR} {i : Nat} (h1 : i < l.length) (h2 : i < k.length) : (l.drop i = k.drop i) = (l[i] = k[i] ∧ l.drop (i + 1) = k.drop (i + 1)) := by
 rw [List.drop_eq_getElem_cons h1,List.drop_eq_getElem_cons h2,List.cons.injEq]
set_option maxHeartbeats 4000000 in
theorem sameR36_sound : zbb Try.prog 54 sameR36S := by
 refine zdj (S := noS) (T := ty) (pl := zde) zbs ty_ok zdn Try.func54 (c := Try.f54.body.getD .skip) (by kernel_rfl) (by kernel_rfl) (fun xs pins hp _ => ?_)
 unfold sameR36S at hp ⊢
 split at hp
 · rename_i xs f ys g _
   obtain ⟨hL,hK,⟨l,rfl⟩,k,rfl⟩ := hp
   rw [List.length_map] at hL hK
   have hle : (l.map vrA).length = l.length := by simp
   have hke : (k.map vrA).length = k.length := by simp
   rw [zbj,zbj]
   refine ⟨by simp,?_⟩
   unfold Try.f54
   by_cases hn : l.length = k.length
   · have d1 : decide ((l.length : Int) = k.length) = true := decide_eq_true (by omega)
     simp only [go_sem,coe,zaa,Nat.reduceAdd,Nat.reduceSub,Nat.reduceMul,Int.reduceToNat,reduceCtorEq,↓reduceIte,Int.reducePow,Nat.reducePow,Int.reduceMod,Nat.reduceLeDiff,Int.reduceLE,Int.reduceNe,Int.reduceEq,Nat.reduceEqDiff,Nat.reduceLT,Nat.reduceBEq,List.map_cons,List.map_nil,List.toList_toArray,Array.toList_append,Option.toArray_some,Option.toArray_none,Bool.and_self,ty,noS,zde,hle,hke,d1]
     refine zci ⟨fun m σ => ∃ i : Nat,m = l.length - i ∧ i ≤ l.length ∧ (l.drop i = k.drop i) = (l = k) ∧
       σ = ⟨[.sg 4 (l.map vrA) f,.sg 4 (k.map vrA) g,.junk,.junk,.junk,.w (.int .i64 i),.junk,.junk,.junk,.junk,.junk,.junk,.junk,.junk,.junk,.junk,.junk,.junk,.junk,.junk,.junk,.junk,.junk,.junk,.junk,.junk],[],4⟩,?_,?_⟩
     · refine ⟨_,_,zai [0,1,2,3] rfl rfl rfl ?_ ?_,0,rfl,by omega,rfl,rfl⟩
       · simp only [ssT,zao,zap,setSlot,gOf,AV.ren,renL,Blk.ren,Ax.look,Ax.put,reduceCtorEq,↓reduceIte,Nat.reduceEqDiff,Nat.reduceLT,Nat.reduceAdd,List.length_append,List.length_cons,List.length_nil,Option.some.injEq]; try simp
       · simp only [ssT,zao,zap,setSlot,gOf,AV.ren,renL,Blk.ren,Ax.look,Ax.put,reduceCtorEq,↓reduceIte,Nat.reduceEqDiff,Nat.reduceLT,Nat.reduceAdd,List.length_append,List.length_cons,List.length_nil,Option.some.injEq]
     · rintro m σ ⟨i,rfl,hi,hs,rfl⟩
       by_cases hil : i < l.length
       · have d2 : decide ((i : Int) < l.length) = true := decide_eq_true (by omega)
         have e1 : ((i : Int) + 1 + 9223372036854775808) % 18446744073709551616 - 9223372036854775808 = ((i + 1 : Nat) : Int) := by omega
         have hs1 := zcm l i hil
         have hs2 := zcm k i (by omega)
         have hd := same_drop hil (show i < k.length by omega)
         rw [hs] at hd
         obtain ⟨a,ha⟩ : ∃ x,l[i] = x := ⟨_,rfl⟩
         obtain ⟨b,hb⟩ : ∃ x,k[i]'(by omega) = x := ⟨_,rfl⟩
         rw [ha] at hs1 hd
         rw [hb] at hs2 hd
         obtain ⟨k1,v1,o1,t1⟩ := a
         obtain ⟨k2,v2,o2,t2⟩ := b
         have hs1 : slot (l.map vrA) i = .agg [.str k1,.str v1,.w (.int .i64 o1),.w (.int .i64 t1)] := hs1
         have hs2 : slot (k.map vrA) i = .agg [.str k2,.str v2,.w (.int .i64 o2),.w (.int .i64 t2)] := hs2
         by_cases he : (⟨k1,v1,o1,t1⟩ : VR) = ⟨k2,v2,o2,t2⟩
         · have d3 := decide_eq_true he
           simp only [he,true_and] at hd
           simp only [go_sem,coe,zaa,Nat.reduceAdd,Nat.reduceSub,Nat.reduceMul,Int.reduceToNat,reduceCtorEq,↓reduceIte,Int.reducePow,Nat.reducePow,Int.reduceMod,Nat.reduceLeDiff,Int.reduceLE,Int.reduceNe,Int.reduceEq,Nat.reduceEqDiff,Nat.reduceLT,Nat.reduceBEq,List.map_cons,List.map_nil,List.toList_toArray,Array.toList_append,Option.toArray_some,Option.toArray_none,Bool.and_self,ty,noS,zde,hle,hke,d2,e1,hs1,hs2,eqVR_dec,d3,Int.toNat_natCast]
           repeat (refine And.intro (by omega) ?_)
           refine ⟨l.length - (i + 1),_,by omega,zai [0,1,2,3] rfl rfl rfl ?_ ?_,i + 1,rfl,by omega,hd.symm,rfl⟩
           · simp only [ssT,zao,zap,setSlot,gOf,AV.ren,renL,Blk.ren,Ax.look,Ax.put,reduceCtorEq,↓reduceIte,Nat.reduceEqDiff,Nat.reduceLT,Nat.reduceAdd,List.length_append,List.length_cons,List.length_nil,Option.some.injEq]
           · simp only [ssT,zao,zap,setSlot,gOf,AV.ren,renL,Blk.ren,Ax.look,Ax.put,reduceCtorEq,↓reduceIte,Nat.reduceEqDiff,Nat.reduceLT,Nat.reduceAdd,List.length_append,List.length_cons,List.length_nil,Option.some.injEq]
         · have d3 := decide_eq_false he
           have hno : decide (l = k) = false := decide_eq_false (by rw [hd]; exact fun h => he h.1)
           rw [hno]
           simp only [go_sem,coe,zaa,Nat.reduceAdd,Nat.reduceSub,Nat.reduceMul,Int.reduceToNat,reduceCtorEq,↓reduceIte,Int.reducePow,Nat.reducePow,Int.reduceMod,Nat.reduceLeDiff,Int.reduceLE,Int.reduceNe,Int.reduceEq,Nat.reduceEqDiff,Nat.reduceLT,Nat.reduceBEq,List.map_cons,List.map_nil,List.toList_toArray,Array.toList_append,Option.toArray_some,Option.toArray_none,Bool.and_self,ty,noS,zde,hle,hke,d2,e1,hs1,hs2,eqVR_dec,d3,Int.toNat_natCast]
           repeat (refine And.intro (by omega) ?_)
           refine ⟨_,Weak.refl _,?_⟩
           simp only [go_sem,coe,zaa,Nat.reduceAdd,Nat.reduceSub,Nat.reduceMul,Int.reduceToNat,reduceCtorEq,↓reduceIte,Int.reducePow,Nat.reducePow,Int.reduceMod,Nat.reduceLeDiff,Int.reduceLE,Int.reduceNe,Int.reduceEq,Nat.reduceEqDiff,Nat.reduceLT,Nat.reduceBEq,List.map_cons,List.map_nil,List.toList_toArray,Array.toList_append,Option.toArray_some,Option.toArray_none,Bool.and_self,ty,noS,zde]
           exact zav 4 rfl
       · have d2 : decide ((i : Int) < l.length) = false := decide_eq_false (by omega)
         have : decide (l = k) = true := by
           refine decide_eq_true ?_
           rw [← hs,List.drop_of_length_le (by omega),List.drop_of_length_le (by omega)]
         rw [this]
         simp only [go_sem,coe,zaa,Nat.reduceAdd,Nat.reduceSub,Nat.reduceMul,Int.reduceToNat,reduceCtorEq,↓reduceIte,Int.reducePow,Nat.reducePow,Int.reduceMod,Nat.reduceLeDiff,Int.reduceLE,Int.reduceNe,Int.reduceEq,Nat.reduceEqDiff,Nat.reduceLT,Nat.reduceBEq,List.map_cons,List.map_nil,List.toList_toArray,Array.toList_append,Option.toArray_some,Option.toArray_none,Bool.and_self,ty,noS,zde,hle,hke,d2]
         refine ⟨_,Weak.refl _,?_⟩
         simp only [go_sem,coe,zaa,Nat.reduceAdd,Nat.reduceSub,Nat.reduceMul,Int.reduceToNat,reduceCtorEq,↓reduceIte,Int.reducePow,Nat.reducePow,Int.reduceMod,Nat.reduceLeDiff,Int.reduceLE,Int.reduceNe,Int.reduceEq,Nat.reduceEqDiff,Nat.reduceLT,Nat.reduceBEq,List.map_cons,List.map_nil,List.toList_toArray,Array.toList_append,Option.toArray_some,Option.toArray_none,Bool.and_self,ty,noS,zde]
         exact zav 4 rfl
   · have d1 : decide ((l.length : Int) = k.length) = false := decide_eq_false (by omega)
     rw [decide_eq_false (same_len hn)]
     simp only [go_sem,coe,zaa,Nat.reduceAdd,Nat.reduceSub,Nat.reduceMul,Int.reduceToNat,reduceCtorEq,↓reduceIte,Int.reducePow,Nat.reducePow,Int.reduceMod,Nat.reduceLeDiff,Int.reduceLE,Int.reduceNe,Int.reduceEq,Nat.reduceEqDiff,Nat.reduceLT,Nat.reduceBEq,List.map_cons,List.map_nil,List.toList_toArray,Array.toList_append,Option.toArray_some,Option.toArray_none,Bool.and_self,ty,noS,zde,hle,hke,d1]
     exact zav 4 rfl
 · exact hp.elim
def Ssame36 (f : FuncId) : Option zat :=
 match f with
 | 54 => some sameR36S
 | _ => none
theorem Ssame36_ok : Fns Try.prog Ssame36 := by
 intro f s h
 unfold Ssame36 at h
 split at h
 · injection h with h; subst h; exact ⟨⟨_,Try.func54,by kernel_rfl,by kernel_rfl⟩,sameR36_sound⟩
 · cases h
set_option maxHeartbeats 4000000 in
theorem same36_sound : zbb Try.prog 22 same36S := by
 refine zeo (S := Ssame36) (T := ty) zbs ty_ok Ssame36_ok Try.func22 (c := Try.f22.body.getD .skip) (by kernel_rfl) (by kernel_rfl) (fun xs pins hp _ => ?_)
 unfold same36S at hp ⊢
 split at hp
 · rename_i n xs f m ys g _
   obtain ⟨hL,hK,⟨l,rfl⟩,k,rfl⟩ := hp
   have hx : ∃ q : List VR,l.map vrA = q.map vrA := ⟨l,rfl⟩
   have hy : ∃ q : List VR,k.map vrA = q.map vrA := ⟨k,rfl⟩
   rw [zbj,zbj]
   refine ⟨by simp,?_⟩
   obtain ⟨D,hD⟩ : ∃ D,decide (l = k) = D := ⟨_,rfl⟩
   have hc : coe ty 45 (.sg 4 (l.map vrA) f) = .sg 4 (l.map vrA) f := by cases l <;> rfl
   have hd : coe ty 45 (.sg 4 (k.map vrA) g) = .sg 4 (k.map vrA) g := by cases k <;> rfl
   unfold Try.f22
   cases h : decide (n = m)
   all_goals
     simp only [go_sem,zab,Nat.reduceAdd,Nat.reduceSub,Nat.reduceMul,Int.reduceToNat,reduceCtorEq,↓reduceIte,Int.reducePow,Nat.reducePow,Int.reduceMod,Nat.reduceLeDiff,Int.reduceLE,Int.reduceNe,Int.reduceEq,Nat.reduceEqDiff,Nat.reduceLT,Nat.reduceBEq,ty,Ssame36,sameR36S,hL,hK,hx,hy,zbj,h,hD,hc,hd,Bool.true_and,Bool.false_and]
     exact zav 4 rfl
 · exact hp.elim
end
end Go.Proofs.Ythjceeimbohajaa
namespace Go.Proofs.Ythjceeimbohajaa
open Ax
theorem w1 : rchk 1 5 true [107] false [118] = 0 := by decide
theorem w2 : rchk 1 5 true [107] true [] = 0 := by decide
theorem w3 : recB 1 5 true [107] false [118] = [1,2,10,2,107,2,118] := by
 simp [recB,w1,recL,flagI,zck,putU,zz]
theorem w4 : recB 1 5 true [107] true [] = [3,2,10,2,107] := by
 simp [recB,w2,recL,flagI,zck,putU,zz]
section
set_option maxRecDepth 100000
set_option maxHeartbeats 1000000 in
end
end Go.Proofs.Ythjceeimbohajaa
namespace Go.Proofs.Ythjceeimbohajaa
open Ax
theorem num_put (n : Int) (h1 : -9223372036854775808 ≤ n) (h2 : n ≤ 9223372036854775807) (r : List UInt8) :
   numN (putU (zz n).toNat ++ r) 0 = n ∧ numL (putU (zz n).toNat ++ r) 0 = r ∧ numE (putU (zz n).toNat ++ r) 0 = 0 := by
 have hz := zz_range n h1 h2
 have hg := getL_put (zz n).toNat (by omega) r
 have hc : (((zz n).toNat : Nat) : Int) = zz n := by omega
 rw [hc,zg_zz] at hg
 unfold numN numL numE
 rw [if_pos rfl,if_pos rfl,if_pos rfl,hg]
 exact ⟨rfl,by simp,rfl⟩
theorem zz_len (n : Nat) : (zz (n : Int)).toNat = 2 * n := by unfold zz; rw [if_pos (by omega)]; omega
theorem text_put (m : Int) (s r : List UInt8) (hm : (s.length : Int) ≤ m) (hs : s.length ≤ 1000000) :
   rtS' m (zck s ++ r) 0 = s ∧ rtL m (zck s ++ r) 0 = r ∧ rtE m (zck s ++ r) 0 = 0 := by
 obtain ⟨h1,h2,h3⟩ := num_put (s.length : Int) (by omega) (by omega) (s ++ r)
 rw [zz_len] at h1 h2 h3
 have e : zck s ++ r = putU (2 * s.length) ++ (s ++ r) := by unfold zck; rw [List.append_assoc]
 have hok : rtOk m (zck s ++ r) 0 := by unfold rtOk; rw [e,h1,h3]; omega
 have hl : ¬ (((s ++ r).length : Int) < (s.length : Int)) := by simp; omega
 unfold rtS' rtL rtE
 rw [if_pos hok,if_pos hok,if_pos hok,e,h1,h2,h3]
 unfold tkB tkL tkE
 rw [if_neg hl,if_neg hl,if_neg hl]
 simp
end Go.Proofs.Ythjceeimbohajaa
namespace Go.Proofs.Ythjceeimbohajaa
namespace Ax
abbrev Us := List (Nat × Option Blk)
def upd : Us → (Nat → Option Blk) → Nat → Option Blk
 | [],lk,id => lk id
 | (k,b) :: r,lk,id => if k = id then b else upd r lk id
def Told (o : Out) (lk : Nat → Option Blk) (r : Option (AV × Us)) : Prop := ∀ x us,r = some (x,us) → o.p ∧ o.x = x ∧ ∀ id,look o.H id = upd us lk id
section
variable {H : Heap} {lk : Nat → Option Blk} (hl : ∀ id,look H id = lk id)
def csub (ti : TyI) (ls : List AV) (f : Nat) : Option AV :=
 bif ti.d.aggr then (if f + ti.size ≤ ls.length then some (.agg ((ls.drop f).take ti.size)) else none) else (if f < ls.length then some (slot ls f) else none)
theorem csub_ok {ti : TyI} {ls : List AV} {f : Nat} {x : AV} (h : csub ti ls f = some x) : (subv ti ls f H).p ∧ (subv ti ls f H).x = x ∧ (subv ti ls f H).H = H := by
 unfold csub at h
 unfold subv
 cases ha : ti.d.aggr <;> simp only [ha,cond_true,cond_false] at h ⊢ <;> split at h <;> simp_all
def cLoad (T : zac) (t : TypeId) (x : AV) (lk : Nat → Option Blk) : Option (AV × Us) :=
 match T t with
 | none => none
 | some ti => match x with
   | .cp ls => (csub ti ls 0).map fun y => (y,[])
   | .rf id s i f => match lk id with
     | some blk => if s = blk.size ∧ i < blk.len then (csub ti (zaf blk i) f).map fun y => (y,[]) else none
     | none => none
   | _ => none
include hl in
theorem cLoad_ok {T : zac} {t : TypeId} {x : AV} : Told (aLoad T t x H) lk (cLoad T t x lk) := by
 intro y us h
 unfold cLoad at h
 unfold aLoad
 split at h
 · cases h
 · rename_i ti ht
   simp only [ht]
   split at h
   · obtain ⟨z,hz,he⟩ := Option.map_eq_some_iff.1 h
     injection he with h1 h2; subst h1 h2
     obtain ⟨a,b,c⟩ := csub_ok (H := H) hz
     exact ⟨a,b,fun id => by rw [c]; exact hl id⟩
   · rename_i id s i f
     simp only [hl id]
     split at h
     · rename_i blk hb
       simp only [hb]
       split at h
       · rename_i hc
         obtain ⟨z,hz,he⟩ := Option.map_eq_some_iff.1 h
         injection he with h1 h2; subst h1 h2
         obtain ⟨a,b,c⟩ := csub_ok (H := H) hz
         exact ⟨⟨hc,a⟩,b,fun id => by simp only [Out.and]; rw [c]; exact hl id⟩
       · cases h
     · cases h
   · cases h
def csetB (blk : Blk) (i f : Nat) (x : AV) : Option Blk :=
 match blk with
 | .b bs => match x with
   | .w (.int .u8 m) => if f = 0 ∧ 0 ≤ m ∧ m < 256 then some (.b (bs.set i (UInt8.ofNat m.toNat))) else none
   | _ => none
 | .i ns => match x with
   | .w (.int .i64 m) => if f = 0 then some (.i (ns.set i m)) else none
   | _ => none
 | .g s xs => match slot xs i with
   | .agg ls => if f + x.leaves.length ≤ ls.length then some (.g s (setSlot xs i (.agg (splice ls f x.leaves)))) else none
   | _ => if f = 0 ∧ x.leaf = true then some (.g s (setSlot xs i x)) else none
 | .o _ => none
theorem csetB_ok {blk : Blk} {i f : Nat} {x : AV} {b : Blk} (h : csetB blk i f x = some b) : (setB blk i f x).1 ∧ (setB blk i f x).2 = b := by
 cases blk with
 | b bs =>
   simp only [csetB] at h
   simp only [setB]
   split at h
   · split at h <;> simp_all
   · cases h
 | i ns =>
   simp only [csetB] at h
   simp only [setB]
   split at h
   · split at h <;> simp_all
   · cases h
 | g s xs =>
   simp only [csetB] at h
   simp only [setB]
   cases hs : slot xs i <;> simp only [hs] at h ⊢ <;> split at h <;> simp_all
 | o x => cases h
def cStore (T : zac) (t : TypeId) (p x : AV) (lk : Nat → Option Blk) : Option (AV × Us) :=
 match T t,p with
 | some ti,.rf id s i f => match lk id with
   | some blk => if s = blk.size ∧ i < blk.len ∧ x.leaves.length = ti.size ∧ x.okv = true then (csetB blk i f x).map fun b => (.junk,[(id,some b)]) else none
   | none => none
 | _,_ => none
theorem zah (hl : ∀ id,look H id = lk id) {nm : Nat} {b : Blk} (id : Nat) : look (put H nm b) id = upd [(nm,some b)] lk id := by
 rw [zan]; simp only [upd]; split <;> simp [hl]
include hl in
theorem cStore_ok {T : zac} {t : TypeId} {p x : AV} : Told (aStore T t p x H) lk (cStore T t p x lk) := by
 intro y us h
 unfold cStore at h
 unfold aStore
 split at h
 · rename_i ti id s i f ht
   simp only [ht,hl id]
   split at h
   · rename_i blk hb
     simp only [hb]
     split at h
     · rename_i hc
       obtain ⟨z,hz,he⟩ := Option.map_eq_some_iff.1 h
       injection he with h1 h2; subst h1 h2
       obtain ⟨a,b⟩ := csetB_ok hz
       refine ⟨⟨hc.1,hc.2.1,hc.2.2.1,hc.2.2.2,a⟩,rfl,fun k => ?_⟩
       rw [b]; exact zah hl k
     · cases h
   · cases h
 · cases h
def cPick (c a b : AV) : Option (AV × Us) :=
 match c with
 | .w (.bool t) => match a,b with
   | .w (.bool x),.w (.bool y) => some (.w (.bool (bif t then x else y)),[])
   | _,.w (.bool y) => if t = false then some (.w (.bool y),[]) else none
   | .w (.bool x),_ => if t = true then some (.w (.bool x),[]) else none
   | _,_ => none
 | _ => none
include hl in
theorem cPick_ok {c a b : AV} : Told (aPick c a b H) lk (cPick c a b) := by
 intro y us h
 have key : ∀ t,cPick (.w (.bool t)) a b = some (y,us) → (aPick (.w (.bool t)) a b H).p ∧ (aPick (.w (.bool t)) a b H).x = y ∧ ∀ id,look (aPick (.w (.bool t)) a b H).H id = upd us lk id := by
   intro t h
   rcases hb : b with v | _ | _ | _ | _ | _ | _ | _ | _ | _ | _ | _ <;> subst hb <;> (try rcases hv : v with x | _ | _ | _ | _ | _ | _ | _ | _ | _ | _ | _ | _ | _ | _) <;> (try subst hv) <;>
     rcases ha : a with u | _ | _ | _ | _ | _ | _ | _ | _ | _ | _ | _ <;> subst ha <;> (try rcases hu : u with z | _ | _ | _ | _ | _ | _ | _ | _ | _ | _ | _ | _ | _ | _) <;> (try subst hu) <;>
     simp only [cPick] at h <;> first | (cases h; done) | (split at h <;> first | (cases h; done) | (injection h with h; injection h with h1 h2; subst h1 h2; exact ⟨by assumption,rfl,hl⟩)) | (injection h with h; injection h with h1 h2; subst h1 h2; exact ⟨trivial,rfl,hl⟩)
 unfold cPick at h
 split at h
 · exact key _ h
 · cases h
def cAlloc (T : zac) (nm : Nat) (e : TypeId) : Option (AV × Us) :=
 match T e with
 | some ti => if 0 < ti.size then some (.rf nm ti.size 0 0,[(nm,some (.g ti.size [asv ti ti.zero]))]) else none
 | none => none
include hl in
theorem cAlloc_ok {T : zac} {nm : Nat} {e : TypeId} : Told (aAlloc T nm e H) lk (cAlloc T nm e) := by
 intro y us h
 unfold cAlloc at h
 unfold aAlloc
 split at h
 · rename_i ti ht
   simp only [ht]
   split at h
   · injection h with h; injection h with h1 h2; subst h1 h2
     exact ⟨by assumption,rfl,fun id => zah hl id⟩
   · cases h
 · cases h
def cBox (T : zac) (nm : Nat) (e : TypeId) (x : AV) : Option (AV × Us) :=
 match T e with
 | some ti => if 0 < ti.size ∧ x.leaves.length = ti.size ∧ x.okv = true then some (.rf nm ti.size 0 0,[(nm,some (.g ti.size [x]))]) else none
 | none => none
include hl in
theorem cBox_ok {T : zac} {nm : Nat} {e : TypeId} {x : AV} : Told (aBox T nm e x H) lk (cBox T nm e x) := by
 intro y us h
 unfold cBox at h
 unfold aBox
 split at h
 · rename_i ti ht
   simp only [ht]
   split at h
   · injection h with h; injection h with h1 h2; subst h1 h2
     exact ⟨by assumption,rfl,fun id => zah hl id⟩
   · cases h
 · cases h
def cfillS (T : zac) (fs : List (Nat × TypeId)) : List (Nat × AV) → List AV → Option (List AV)
 | [],ls => some ls
 | (i,x) :: r,ls => match fs[i]? with
   | some (off,ty) => match T ty with
     | some ti => if x.leaves.length = ti.size ∧ x.okv = true ∧ off + ti.size ≤ ls.length then cfillS T fs r (splice ls off x.leaves) else none
     | none => none
   | none => none
theorem cfillS_ok {T : zac} {fs : List (Nat × TypeId)} : ∀ {ps : List (Nat × AV)} {ls zs : List AV},cfillS T fs ps ls = some zs → (fillS T fs ps ls).1 ∧ (fillS T fs ps ls).2 = zs
 | [],ls,zs,h => by injection h with h; exact ⟨trivial,h⟩
 | (i,x) :: r,ls,zs,h => by
   unfold cfillS at h
   unfold fillS
   split at h
   · rename_i off ty hi
     simp only [hi]
     split at h
     · rename_i ti ht
       simp only [ht]
       split at h
       · rename_i hc
         obtain ⟨h1,h2⟩ := cfillS_ok h
         exact ⟨⟨hc.1,hc.2.1,hc.2.2,h1⟩,h2⟩
       · cases h
     · cases h
   · cases h
def cfillA (s : Nat) : List (Nat × AV) → List AV → Option (List AV)
 | [],ls => some ls
 | (i,x) :: r,ls => if x.leaves.length = s ∧ x.okv = true ∧ i * s + s ≤ ls.length then cfillA s r (splice ls (i * s) x.leaves) else none
theorem cfillA_ok {s : Nat} : ∀ {ps : List (Nat × AV)} {ls zs : List AV},cfillA s ps ls = some zs → (fillA s ps ls).1 ∧ (fillA s ps ls).2 = zs
 | [],ls,zs,h => by injection h with h; exact ⟨trivial,h⟩
 | (i,x) :: r,ls,zs,h => by
   unfold cfillA at h
   unfold fillA
   split at h
   · rename_i hc
     obtain ⟨h1,h2⟩ := cfillA_ok h
     exact ⟨⟨hc.1,hc.2.1,hc.2.2,h1⟩,h2⟩
   · cases h
def callTy (T : zac) : List (Nat × TypeId) → Bool
 | [] => true
 | p :: r => match T p.2 with
   | some _ => callTy T r
   | none => false
theorem callTy_ok {T : zac} : ∀ {l : List (Nat × TypeId)},callTy T l = true → allTy T l
 | [],_ => trivial
 | p :: r,h => by
   unfold callTy at h
   unfold allTy
   split at h
   · rename_i x hx; simp only [hx]; exact callTy_ok h
   · cases h
def cBuild (T : zac) (t : TypeId) (ps : List (Nat × AV)) : Option (AV × Us) :=
 match T t with
 | some ti => match ti.d with
   | .struct fs => bif callTy T fs then (cfillS T fs ps ti.zero).map fun l => (.agg l,[]) else none
   | .arr _ e => match T e with
     | some te => (cfillA te.size ps ti.zero).map fun l => (.agg l,[])
     | none => none
   | _ => none
 | none => none
include hl in
theorem cBuild_ok {T : zac} {t : TypeId} {ps : List (Nat × AV)} : Told (aBuild T t ps H) lk (cBuild T t ps) := by
 intro y us h
 unfold cBuild at h
 unfold aBuild
 split at h
 · rename_i ti ht
   simp only [ht]
   split at h
   · rename_i fs hd
     simp only [hd]
     cases hc : callTy T fs with
     | false => rw [hc] at h; cases h
     | true =>
       rw [hc] at h
       obtain ⟨z,hz,he⟩ := Option.map_eq_some_iff.1 h
       injection he with h1 h2; subst h1 h2
       obtain ⟨a,b⟩ := cfillS_ok hz
       exact ⟨⟨callTy_ok hc,a⟩,by rw [b],hl⟩
   · rename_i n e hd
     simp only [hd]
     split at h
     · rename_i te hte
       simp only [hte]
       obtain ⟨z,hz,he⟩ := Option.map_eq_some_iff.1 h
       injection he with h1 h2; subst h1 h2
       obtain ⟨a,b⟩ := cfillA_ok hz
       exact ⟨a,by rw [b],hl⟩
     · cases h
   · cases h
 · cases h
def cfillB : List (Nat × AV) → List UInt8 → Option (List UInt8)
 | [],bs => some bs
 | (i,x) :: r,bs => match x with
   | .w (.int .u8 m) => if i < bs.length ∧ 0 ≤ m ∧ m < 256 then cfillB r (bs.set i (UInt8.ofNat m.toNat)) else none
   | _ => none
theorem cfillB_ok : ∀ {ps : List (Nat × AV)} {ls zs : List UInt8},cfillB ps ls = some zs → (fillB ps ls).1 ∧ (fillB ps ls).2 = zs
 | [],ls,zs,h => by injection h with h; exact ⟨trivial,h⟩
 | (i,x) :: r,ls,zs,h => by
   unfold cfillB at h
   unfold fillB
   split at h
   · split at h
     · rename_i hc
       obtain ⟨h1,h2⟩ := cfillB_ok h
       exact ⟨⟨hc.1,hc.2.1,hc.2.2,h1⟩,h2⟩
     · cases h
   · cases h
def cfillI : List (Nat × AV) → List Int → Option (List Int)
 | [],ns => some ns
 | (i,x) :: r,ns => match x with
   | .w (.int .i64 m) => if i < ns.length then cfillI r (ns.set i m) else none
   | _ => none
theorem cfillI_ok : ∀ {ps : List (Nat × AV)} {ls zs : List Int},cfillI ps ls = some zs → (fillI ps ls).1 ∧ (fillI ps ls).2 = zs
 | [],ls,zs,h => by injection h with h; exact ⟨trivial,h⟩
 | (i,x) :: r,ls,zs,h => by
   unfold cfillI at h
   unfold fillI
   split at h
   · split at h
     · rename_i hc
       obtain ⟨h1,h2⟩ := cfillI_ok h
       exact ⟨⟨hc,h1⟩,h2⟩
     · cases h
   · cases h
def cfillG (s : Nat) : List (Nat × AV) → List AV → Option (List AV)
 | [],xs => some xs
 | (i,x) :: r,xs => if i < xs.length ∧ x.leaves.length = s ∧ x.okv = true then cfillG s r (setSlot xs i x) else none
theorem cfillG_ok {s : Nat} : ∀ {ps : List (Nat × AV)} {ls zs : List AV},cfillG s ps ls = some zs → (fillG s ps ls).1 ∧ (fillG s ps ls).2 = zs
 | [],ls,zs,h => by injection h with h; exact ⟨trivial,h⟩
 | (i,x) :: r,ls,zs,h => by
   unfold cfillG at h
   unfold fillG
   split at h
   · rename_i hc
     obtain ⟨h1,h2⟩ := cfillG_ok h
     exact ⟨⟨hc.1,hc.2.1,hc.2.2,h1⟩,h2⟩
   · cases h
def isZ (k : IntKind) : List AV → Bool
 | [.w (.int k' n)] => decide (k' = k) && decide (n = 0)
 | _ => false
theorem isZ_ok {k : IntKind} {l : List AV} (h : isZ k l = true) : l = [.w (.int k 0)] := by
 unfold isZ at h
 split at h
 · simp only [Bool.and_eq_true,decide_eq_true_eq] at h
   obtain ⟨rfl,rfl⟩ := h; rfl
 · cases h
def cBuildSlice (T : zac) (nm : Nat) (t : TypeId) (n : Nat) (ps : List (Nat × AV)) : Option (AV × Us) :=
 match T t with
 | some ti => match ti.d with
   | .slice e => match T e with
     | some te => match te.d with
       | .int .u8 => if te.size = 1 ∧ isZ .u8 te.zero = true ∧ n ≤ 16777216 then (cfillB ps (List.replicate n 0)).map fun l => (.ms nm 1 0 n,[(nm,some (.b l))]) else none
       | .int .i64 => if te.size = 1 ∧ isZ .i64 te.zero = true ∧ n ≤ 16777216 then (cfillI ps (List.replicate n 0)).map fun l => (.ms nm 1 0 n,[(nm,some (.i l))]) else none
       | _ => if 0 < te.size ∧ n * te.size ≤ 16777216 then (cfillG te.size ps (List.replicate n (asv te te.zero))).map fun l => (.ms nm te.size 0 n,[(nm,some (.g te.size l))]) else none
     | none => none
   | _ => none
 | none => none
include hl in
theorem cBuildSlice_ok {T : zac} {nm : Nat} {t : TypeId} {n : Nat} {ps : List (Nat × AV)} : Told (aBuildSlice T nm t n ps H) lk (cBuildSlice T nm t n ps) := by
 intro y us h
 unfold cBuildSlice at h
 unfold aBuildSlice
 split at h
 · rename_i ti ht
   simp only [ht]
   split at h
   · rename_i e hd
     simp only [hd]
     split at h
     · rename_i te hte
       simp only [hte]
       split at h
       · rename_i hk
         simp only [hk]
         split at h
         · rename_i hc
           obtain ⟨z,hz,he⟩ := Option.map_eq_some_iff.1 h
           injection he with h1 h2; subst h1 h2
           obtain ⟨a,b⟩ := cfillB_ok hz
           exact ⟨⟨hc.1,isZ_ok hc.2.1,hc.2.2,a⟩,rfl,fun id => by rw [b]; exact zah hl id⟩
         · cases h
       · rename_i hk
         simp only [hk]
         split at h
         · rename_i hc
           obtain ⟨z,hz,he⟩ := Option.map_eq_some_iff.1 h
           injection he with h1 h2; subst h1 h2
           obtain ⟨a,b⟩ := cfillI_ok hz
           exact ⟨⟨hc.1,isZ_ok hc.2.1,hc.2.2,a⟩,rfl,fun id => by rw [b]; exact zah hl id⟩
         · cases h
       · rename_i hk1 hk2
         split
         · rename_i he; exact (hk1 he).elim
         · rename_i he; exact (hk2 he).elim
         · split at h
           · rename_i hc
             obtain ⟨z,hz,he⟩ := Option.map_eq_some_iff.1 h
             injection he with h1 h2; subst h1 h2
             obtain ⟨a,b⟩ := cfillG_ok hz
             exact ⟨⟨hc.1,hc.2,a⟩,rfl,fun id => by rw [b]; exact zah hl id⟩
           · cases h
     · cases h
   · cases h
 · cases h
def cNil (x : AV) (lk : Nat → Option Blk) : Option (AV × Us) :=
 match x with
 | .rf id s i f => match lk id with
   | some _ => if s ≠ 0 then some (.rf id s i f,[]) else none
   | none => none
 | .cp ls => some (.cp ls,[])
 | .fn f cs => some (.fn f cs,[])
 | _ => none
include hl in
theorem cNil_ok {x : AV} : Told (aNil x H) lk (cNil x lk) := by
 intro y us h
 unfold cNil at h
 unfold aNil
 split at h
 · rename_i id s i f
   simp only [hl id]
   split at h
   · rename_i b hb
     simp only [hb]
     split at h
     · injection h with h; injection h with h1 h2; subst h1 h2
       exact ⟨by assumption,rfl,hl⟩
     · cases h
   · cases h
 · injection h with h; injection h with h1 h2; subst h1 h2; exact ⟨trivial,rfl,hl⟩
 · injection h with h; injection h with h1 h2; subst h1 h2; exact ⟨trivial,rfl,hl⟩
 · cases h
def cInt (op : BinOp) (k : IntKind) (a : Int) (k' : IntKind) (b : Int) : Option Value :=
 match op with
 | .shl => if 0 ≤ b then some (.int k (k.wrap (a * 2 ^ min b.toNat k.bits))) else none
 | .shr => if 0 ≤ b then some (.int k (a / 2 ^ min b.toNat k.bits)) else none
 | .add => if k = k' then some (.int k (k.wrap (a + b))) else none
 | .sub => if k = k' then some (.int k (k.wrap (a - b))) else none
 | .mul => if k = k' then some (.int k (k.wrap (a * b))) else none
 | .quo => if k = k' ∧ b ≠ 0 then some (.int k (k.wrap (a.tdiv b))) else none
 | .rem => if k = k' ∧ b ≠ 0 then some (.int k (a.tmod b)) else none
 | .and => if k = k' then some (.int k (bits .and k a b)) else none
 | .or => if k = k' then some (.int k (bits .or k a b)) else none
 | .xor => if k = k' then some (.int k (bits .xor k a b)) else none
 | .andNot => if k = k' then some (.int k (bits .andNot k a b)) else none
 | .eql => if k = k' then some (.bool (decide (a = b))) else none
 | .neq => if k = k' then some (.bool (!decide (a = b))) else none
 | .lss => if k = k' then some (.bool (decide (a < b))) else none
 | .leq => if k = k' then some (.bool (decide (a ≤ b))) else none
 | .gtr => if k = k' then some (.bool (decide (b < a))) else none
 | .geq => if k = k' then some (.bool (decide (b ≤ a))) else none
theorem cInt_ok {op : BinOp} {k k' : IntKind} {a b : Int} {v : Value} (h : cInt op k a k' b = some v) : (aInt op k a k' b).1 ∧ (aInt op k a k' b).2 = v := by
 cases op <;> simp only [cInt] at h <;> simp only [aInt] <;> split at h <;> first | (injection h with h; exact ⟨by assumption,h⟩) | cases h
def cStr (op : BinOp) (a b : List UInt8) : Option AV :=
 match op with
 | .add => if a.length + b.length ≤ 1099511627776 then some (.str (a ++ b)) else none
 | .eql => some (.w (.bool (decide (a = b))))
 | .neq => some (.w (.bool (!decide (a = b))))
 | .lss => some (.w (.bool (Op.bytesLess a b)))
 | .leq => some (.w (.bool (Op.bytesLess a b || decide (a = b))))
 | .gtr => some (.w (.bool (!(Op.bytesLess a b || decide (a = b)))))
 | .geq => some (.w (.bool (!(Op.bytesLess a b))))
 | _ => none
theorem cStr_ok {op : BinOp} {a b : List UInt8} {v : AV} (h : cStr op a b = some v) : (aStr op a b).1 ∧ (aStr op a b).2 = v := by
 cases op <;> simp only [cStr] at h <;> simp only [aStr] <;> first | cases h | (split at h <;> first | cases h | (injection h with h; exact ⟨by assumption,h⟩)) | (injection h with h; exact ⟨trivial,h⟩)
 all_goals first | exact ⟨trivial,rfl⟩ | trivial
def cEq (op : BinOp) (r : Bool) : Option (AV × Us) :=
 match op with
 | .eql => some (.w (.bool r),[])
 | .neq => some (.w (.bool (!r)),[])
 | _ => none
include hl in
theorem cEq_ok {op : BinOp} {r : Bool} : Told (aEq op r H) lk (cEq op r) := by
 intro y us h
 cases op <;> simp only [cEq] at h <;> first | cases h | skip
 all_goals (exact ⟨trivial,rfl,hl⟩)
def cisPtr (T : zac) (t : TypeId) : Bool :=
 match T t with
 | some ti => match ti.d with
   | .ptr => true
   | _ => false
 | none => false
theorem cisPtr_ok {T : zac} {t : TypeId} (h : cisPtr T t = true) : isPtr T t := by
 unfold cisPtr at h; unfold isPtr; split at h
 · rename_i ti ht; simp only [ht]; split at h
   · rename_i hd; simp only [hd]
   · cases h
 · cases h
def cisBool (T : zac) (t : TypeId) : Bool :=
 match T t with
 | some ti => match ti.d with
   | .bool => true
   | _ => false
 | none => false
theorem cisBool_ok {T : zac} {t : TypeId} (h : cisBool T t = true) : isBool T t := by
 unfold cisBool at h; unfold isBool; split at h
 · rename_i ti ht; simp only [ht]; split at h
   · rename_i hd; simp only [hd]
   · cases h
 · cases h
def cisStruct (T : zac) (t : TypeId) : Bool :=
 match T t with
 | some ti => match ti.d with
   | .struct _ => true
   | _ => false
 | none => false
theorem cisStruct_ok {T : zac} {t : TypeId} (h : cisStruct T t = true) : isStruct T t := by
 unfold cisStruct at h; unfold isStruct; split at h
 · rename_i ti ht; simp only [ht]; split at h
   · rename_i hd; simp only [hd]
   · cases h
 · cases h
def ceqF (S : TypeId → AV → AV → Option Bool) (T : zac) : List (Nat × TypeId) → List AV → List AV → Option Bool
 | [],_,_ => some true
 | p :: r,xs,ys => match T p.2 with
   | none => none
   | some te => match csub te xs p.1,csub te ys p.1 with
     | some a,some b => match S p.2 a b with
       | some u => match ceqF S T r xs ys with
         | some v => some (u && v)
         | none => none
       | none => none
     | _,_ => none
def ceqV (T : zac) : Nat → TypeId → AV → AV → Option Bool
 | 0,_,_,_ => none
 | n + 1,t,x,y => match T t with
   | none => none
   | some i => match i.d with
     | .int _ => match x,y with
       | .w (.int k1 a),.w (.int k2 b) => if k1 = k2 then some (decide (a = b)) else none
       | _,_ => none
     | .bool => match x,y with
       | .w (.bool a),.w (.bool b) => some (a == b)
       | _,_ => none
     | .str => match x,y with
       | .str a,.str b => some (decide (a = b))
       | _,_ => none
     | .struct fs => match x,y with
       | .agg xs,.agg ys => ceqF (ceqV T n) T fs xs ys
       | _,_ => none
     | _ => none
theorem ceqF_ok {T : zac} {S : TypeId → AV → AV → Prop × Bool} {S' : TypeId → AV → AV → Option Bool} (hS : ∀ t x y b,S' t x y = some b → (S t x y).1 ∧ (S t x y).2 = b) :
   ∀ {fs : List (Nat × TypeId)} {xs ys : List AV} {b : Bool},ceqF S' T fs xs ys = some b → (eqF S T fs xs ys).1 ∧ (eqF S T fs xs ys).2 = b
 | [],xs,ys,b,h => by injection h with h; exact ⟨trivial,h⟩
 | p :: r,xs,ys,b,h => by
   unfold ceqF at h
   unfold eqF
   split at h
   · cases h
   · rename_i te ht
     simp only [ht]
     split at h
     · rename_i a c ha hc
       split at h
       · rename_i u hu
         split at h
         · rename_i v hv
           injection h with h
           obtain ⟨a1,a2,_⟩ := csub_ok (H := []) ha
           obtain ⟨b1,b2,_⟩ := csub_ok (H := []) hc
           obtain ⟨c1,c2⟩ := hS _ _ _ _ hu
           obtain ⟨d1,d2⟩ := ceqF_ok hS hv
           rw [a2,b2]
           exact ⟨⟨a1,b1,c1,d1⟩,by rw [c2,d2,h]⟩
         · cases h
       · cases h
     · cases h
theorem ceqV_ok {T : zac} : ∀ (n : Nat) (t : TypeId) (x y : AV) (b : Bool),ceqV T n t x y = some b → (eqV T n t x y).1 ∧ (eqV T n t x y).2 = b
 | 0,t,x,y,b,h => by cases h
 | n + 1,t,x,y,b,h => by
   unfold ceqV at h
   unfold eqV
   split at h
   · cases h
   · rename_i i hi
     simp only [hi]
     split at h
     · rename_i hd
       simp only [hd]
       split at h
       · split at h
         · injection h with h; exact ⟨by assumption,h⟩
         · cases h
       · cases h
     · rename_i hd
       simp only [hd]
       split at h
       · injection h with h; exact ⟨trivial,h⟩
       · cases h
     · rename_i hd
       simp only [hd]
       split at h
       · injection h with h; exact ⟨trivial,h⟩
       · cases h
     · rename_i hd
       simp only [hd]
       split at h
       · exact ceqF_ok (ceqV_ok n) h
       · cases h
     · cases h
def cBin (T : zac) (op : BinOp) (t : TypeId) (x y : AV) (lk : Nat → Option Blk) : Option (AV × Us) :=
 match x,y with
 | .w (.int k a),.w (.int k' b) => (cInt op k a k' b).map fun v => (.w v,[])
 | .str a,.str b => (cStr op a b).map fun v => (v,[])
 | .w (.bool a),.w (.bool b) => bif cisBool T t then cEq op (a == b) else none
 | .rf id s _ _,.w (.pointer none) => match lk id with
   | some _ => bif decide (s ≠ 0) && cisPtr T t then cEq op false else none
   | none => none
 | .w (.pointer none),.w (.pointer none) => bif cisPtr T t then cEq op true else none
 | .agg xs,.agg ys => match ceqV T 4 t (.agg xs) (.agg ys) with
   | some r => bif cisStruct T t then cEq op r else none
   | none => none
 | _,_ => none
theorem Told.and {q : Prop} {o : Out} {r : Option (AV × Us)} (h : Told o lk r) (hq : q) : Told (o.and q) lk r := fun x us e => let ⟨a,b,c⟩ := h x us e; ⟨⟨hq,a⟩,b,c⟩
theorem Told.cond {q : Prop} {b : Bool} {o : Out} {r : Option (AV × Us)} (h : Told o lk r) (hq : b = true → q) : Told (o.and q) lk (bif b then r else none) := by
 cases b with
 | true => exact h.and (hq rfl)
 | false => intro x us e; cases e
include hl in
theorem cBin_ok {T : zac} {op : BinOp} {t : TypeId} {x y : AV} : Told (aBin T op t x y H) lk (cBin T op t x y lk) := by
 intro z us h
 unfold cBin at h
 split at h
 · obtain ⟨v,hv,he⟩ := Option.map_eq_some_iff.1 h
   injection he with h1 h2; subst h1 h2
   obtain ⟨a,b⟩ := cInt_ok hv
   exact ⟨a,by simp only [aBin,b],hl⟩
 · obtain ⟨v,hv,he⟩ := Option.map_eq_some_iff.1 h
   injection he with h1 h2; subst h1 h2
   obtain ⟨a,b⟩ := cStr_ok hv
   exact ⟨a,b,hl⟩
 · exact ((cEq_ok hl).cond (q := isBool T t) cisBool_ok) z us h
 · rename_i id s _ _
   split at h
   · rename_i bk hb
     have hb' : look H id = some bk := (hl id).trans hb
     have := ((cEq_ok hl).cond (q := s ≠ 0 ∧ isPtr T t) fun h => by
       simp only [Bool.and_eq_true,decide_eq_true_eq] at h
       exact ⟨h.1,cisPtr_ok h.2⟩) z us h
     simp only [aBin,hb']
     exact this
   · cases h
 · exact ((cEq_ok hl).cond (q := isPtr T t) cisPtr_ok) z us h
 · rename_i xs ys
   split at h
   · rename_i r hr
     obtain ⟨a,b⟩ := ceqV_ok _ _ _ _ _ hr
     simp only [aBin]
     rw [b]
     cases hc : cisStruct T t with
     | true =>
       rw [hc] at h
       exact (cEq_ok hl).and ⟨cisStruct_ok hc,a⟩ z us h
     | false => rw [hc] at h; cases h
   · cases h
 · cases h
def cUn (op : UnOp) (x : AV) : Option (AV × Us) :=
 match op,x with
 | .not,.w (.bool b) => some (.w (.bool (!b)),[])
 | .neg,.w (.int k n) => some (.w (.int k (k.wrap (0 - n))),[])
 | .xor,.w (.int k n) => some (.w (.int k (bits .xor k (bif k.signed then -1 else k.max) n)),[])
 | _,_ => none
include hl in
theorem cUn_ok {op : UnOp} {x : AV} : Told (aUn op x H) lk (cUn op x) := by
 intro y us h
 unfold cUn at h
 unfold aUn
 split at h <;> first | cases h | (injection h with h; injection h with h1 h2; subst h1 h2; exact ⟨trivial,rfl,hl⟩)
 all_goals exact ⟨trivial,rfl,hl⟩
def cviewB (lk : Nat → Option Blk) (x : AV) : Option (List UInt8) :=
 match x with
 | .sb bs _ => some bs
 | .sg _ [] _ => some []
 | .ms id s off len => match lk id with
   | some (.b bs) => if s = 1 ∧ off + len ≤ bs.length then some ((bs.drop off).take len) else none
   | _ => none
 | _ => none
include hl in
theorem cviewB_ok {x : AV} {l : List UInt8} (h : cviewB lk x = some l) : (zeb H x).1 ∧ (zeb H x).2 = l := by
 unfold cviewB at h
 unfold zeb
 split at h
 · injection h with h; exact ⟨trivial,h⟩
 · injection h with h; exact ⟨trivial,h⟩
 · rename_i id s off len
   simp only [hl id]
   split at h
   · rename_i bs hb
     simp only [hb]
     split at h
     · injection h with h; exact ⟨by assumption,h⟩
     · cases h
   · cases h
 · cases h
def cviewI (lk : Nat → Option Blk) (x : AV) : Option (List Int) :=
 match x with
 | .si ns _ => some ns
 | .sg _ [] _ => some []
 | .ms id s off len => match lk id with
   | some (.i ns) => if s = 1 ∧ off + len ≤ ns.length then some ((ns.drop off).take len) else none
   | _ => none
 | _ => none
include hl in
theorem cviewI_ok {x : AV} {l : List Int} (h : cviewI lk x = some l) : (viewI H x).1 ∧ (viewI H x).2 = l := by
 unfold cviewI at h
 unfold viewI
 split at h
 · injection h with h; exact ⟨trivial,h⟩
 · injection h with h; exact ⟨trivial,h⟩
 · rename_i id s off len
   simp only [hl id]
   split at h
   · rename_i bs hb
     simp only [hb]
     split at h
     · injection h with h; exact ⟨by assumption,h⟩
     · cases h
   · cases h
 · cases h
def cviewG (s : Nat) (lk : Nat → Option Blk) (x : AV) : Option (List AV) :=
 match x with
 | .sg s' xs _ => bif xs.isEmpty || decide (s' = s) then some xs else none
 | .ms id s' off len => match lk id with
   | some (.g s'' xs) => if s' = s ∧ s'' = s ∧ off + len ≤ xs.length then some ((xs.drop off).take len) else none
   | _ => none
 | _ => none
include hl in
theorem cviewG_ok {s : Nat} {x : AV} {l : List AV} (h : cviewG s lk x = some l) : (zea s H x).1 ∧ (zea s H x).2 = l := by
 unfold cviewG at h
 unfold zea
 split at h
 · rename_i s' xs f
   cases hc : xs.isEmpty || decide (s' = s) with
   | true =>
     rw [hc] at h
     injection h with h
     refine ⟨?_,h⟩
     simp only [Bool.or_eq_true,List.isEmpty_iff,decide_eq_true_eq] at hc
     exact hc
   | false => rw [hc] at h; cases h
 · rename_i id s off len
   simp only [hl id]
   split at h
   · rename_i bs hb
     simp only [hb]
     split at h
     · injection h with h; exact ⟨by assumption,h⟩
     · cases h
   · cases h
 · cases h
def zex (T : zac) (t : TypeId) : Bool :=
 match T t with
 | some ti => match ti.d with
   | .slice e => match T e with
     | some te => match te.d with
       | .int .u8 => true
       | _ => false
     | none => false
   | _ => false
 | none => false
theorem cisBytes_ok {T : zac} {t : TypeId} (h : zex T t = true) : isBytes T t := by
 unfold zex at h; unfold isBytes; split at h
 · rename_i ti ht; simp only [ht]; split at h
   · rename_i e hd; simp only [hd]; split at h
     · rename_i te hte; simp only [hte]; split at h
       · rename_i hk; simp only [hk]
       · cases h
     · cases h
   · cases h
 · cases h
def cConv (T : zac) (src dst : TypeId) (nm : Nat) (x : AV) (lk : Nat → Option Blk) : Option (AV × Us) :=
 match T src,T dst with
 | some _,some b => match b.d with
   | .int k => match x with
     | .w (.int _ n) => some (.w (.int k (k.wrap n)),[])
     | _ => none
   | .str => match x with
     | .str bs => some (.str bs,[])
     | _ => bif zex T src then (cviewB lk x).map fun l => (.str l,[]) else none
   | .slice _ => match x with
     | .str bs => bif zex T dst && decide (bs.length ≤ 9223372036854775807) then some (.ms nm 1 0 bs.length,[(nm,some (.b bs))]) else none
     | .ms id s off len => match lk id with
       | some blk => bif zex T dst && (decide (src = dst) && decide (0 < blk.len)) then some (.ms id s off len,[(id,some blk)]) else none
       | none => none
     | _ => none
   | _ => none
 | _,_ => none
include hl in
theorem cConv_ok {T : zac} {src dst : TypeId} {nm : Nat} {x : AV} : Told (aConv T src dst nm x H) lk (cConv T src dst nm x lk) := by
 intro y us h
 unfold cConv at h
 unfold aConv
 split at h
 · rename_i a b ha hb
   simp only [ha,hb]
   split at h
   · rename_i k hk
     simp only [hk]
     split at h
     · injection h with h; injection h with h1 h2; subst h1 h2; exact ⟨trivial,rfl,hl⟩
     · cases h
   · rename_i hk
     simp only [hk]
     split at h
     · injection h with h; injection h with h1 h2; subst h1 h2; exact ⟨trivial,rfl,hl⟩
     · rename_i hx
       split
       · rename_i bs; exact (hx bs rfl).elim
       · cases hc : zex T src with
         | true =>
           rw [hc] at h
           obtain ⟨v,hv,he⟩ := Option.map_eq_some_iff.1 h
           injection he with h1 h2; subst h1 h2
           obtain ⟨p,q⟩ := cviewB_ok hl hv
           exact ⟨⟨cisBytes_ok hc,p⟩,by simp only [q],hl⟩
         | false => rw [hc] at h; cases h
   · rename_i e hk
     simp only [hk]
     split at h
     · rename_i bs
       cases hc : (zex T dst && decide (bs.length ≤ 9223372036854775807)) with
       | true =>
         rw [hc] at h
         injection h with h; injection h with h1 h2; subst h1 h2
         simp only [Bool.and_eq_true,decide_eq_true_eq] at hc
         exact ⟨⟨cisBytes_ok hc.1,hc.2⟩,rfl,fun id => zah hl id⟩
       | false => rw [hc] at h; cases h
     · rename_i id s off len
       simp only [hl id]
       split at h
       · rename_i blk hbk
         simp only [hbk]
         cases hc : (zex T dst && (decide (src = dst) && decide (0 < blk.len))) with
         | true =>
           rw [hc] at h
           injection h with h; injection h with h1 h2; subst h1 h2
           simp only [Bool.and_eq_true,decide_eq_true_eq] at hc
           exact ⟨⟨cisBytes_ok hc.1,hc.2⟩,rfl,fun id => zah hl id⟩
         | false => rw [hc] at h; cases h
       · cases h
     · cases h
   · cases h
 · cases h
end
end Ax
end Go.Proofs.Ythjceeimbohajaa
