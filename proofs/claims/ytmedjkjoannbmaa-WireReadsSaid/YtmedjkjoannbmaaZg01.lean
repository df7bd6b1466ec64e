/- What the proofs of this seat stand on; it asks nothing. -/
import Derived.Test.YtmedjkjoannbmaaZa12
import Derived.Test.YtmedjkjoannbmaaZc00
import Derived.Test.YtmedjkjoannbmaaZd00
import Derived.Test.YtmedjkjoannbmaaZg00
set_option linter.unusedSimpArgs false
set_option linter.unusedVariables false
namespace Go.Proofs.Ytmedjkjoannbmaa
open Ax
theorem dSt_step (st : zaz → zaz) : ∀ (k : Nat) (s : zaz) (i : Nat),i ≤ dSt st k s → (i < dSt st k s ↔ i < k ∧ (itS st s i).2 = 0)
 | 0,s,i,h => by unfold dSt at h ⊢; constructor <;> intro h1 <;> omega
 | k + 1,s,i,h => by
   unfold dSt at h ⊢
   by_cases hs : s.2 = 0
   · rw [if_pos hs] at h ⊢
     cases i with
     | zero => exact ⟨fun _ => ⟨by omega,hs⟩,fun _ => by omega⟩
     | succ i =>
       have := dSt_step st k (st s) i (by omega)
       rw [itS_succ] at this
       constructor
       · intro h1; have := this.1 (by omega); exact ⟨by omega,this.2⟩
       · intro h1; have := this.2 ⟨by omega,h1.2⟩; omega
   · rw [if_neg hs] at h ⊢
     obtain rfl : i = 0 := by omega
     exact ⟨fun h1 => by omega,fun h1 => (hs h1.2).elim⟩
theorem dSt_le (st : zaz → zaz) : ∀ (k : Nat) (s : zaz),dSt st k s ≤ k
 | 0,_ => Nat.le_refl _
 | k + 1,s => by
   unfold dSt
   split
   · have := dSt_le st k (st s); omega
   · omega
theorem goes22 (st : zaz → zaz) (s : zaz) (n : Int) (i : Nat) (hi : i ≤ c65 st s n) {L : List UInt8} {E : Int} (hq : itS st s i = (L,E)) :
   (i < c65 st s n ∧ decide ((i : Int) < n) = true ∧ decide ((i : Int) ≤ 64) = true ∧ decide (E = 0) = true) ∨
   (i = c65 st s n ∧ decide ((i : Int) < n) = false) ∨ (i = c65 st s n ∧ decide ((i : Int) < n) = true ∧ decide ((i : Int) ≤ 64) = false) ∨
   (i = c65 st s n ∧ decide ((i : Int) < n) = true ∧ decide ((i : Int) ≤ 64) = true ∧ decide (E = 0) = false) := by
 have h := dSt_step st (min (max n 0) 65).toNat s i hi
 rw [hq] at h
 simp only at h
 have hc : c65 st s n = dSt st (min (max n 0) 65).toNat s := rfl
 rw [← hc] at h
 by_cases h1 : (i : Int) < n
 · by_cases h2 : (i : Int) ≤ 64
   · by_cases h3 : E = 0
     · exact .inl ⟨h.2 ⟨by omega,h3⟩,decide_eq_true h1,decide_eq_true h2,decide_eq_true h3⟩
     · exact .inr (.inr (.inr ⟨by
         have : ¬ i < c65 st s n := fun hh => h3 (h.1 hh).2
         omega,decide_eq_true h1,decide_eq_true h2,decide_eq_false h3⟩))
   · exact .inr (.inr (.inl ⟨by
       have : ¬ i < c65 st s n := fun hh => by have := (h.1 hh).1; omega
       omega,decide_eq_true h1,decide_eq_false h2⟩))
 · exact .inr (.inl ⟨by
     have : ¬ i < c65 st s n := fun hh => by have := (h.1 hh).1; omega
     omega,decide_eq_false h1⟩)
theorem c65_le (st : zaz → zaz) (s : zaz) (n : Int) : c65 st s n ≤ 65 := by
 have := dSt_le st (min (max n 0) 65).toNat s
 have hc : c65 st s n = dSt st (min (max n 0) 65).toNat s := rfl
 omega
theorem rgA_cases (b : List UInt8) {M : Rs} (hM : rdA c65 1073741824 b = M) {C : Int} {W : List UInt8} (hC : errR M = C) (hW : putA M.k M.er M.o M.x M.d M.g M.bl M.pl M.nl = W) :
   (okA c64 8192 b ∧ rdA c64 8192 b = M ∧ decide (C = 0) = true ∧ decide (W = b) = true) ∨ (¬ okA c64 8192 b ∧ decide (C = 0) = false) ∨ (¬ okA c64 8192 b ∧ decide (C = 0) = true ∧ decide (W = b) = false) := by
 subst hM hC hW
 have hO : errR (rdA c65 1073741824 b) = 0 → putA (rdA c65 1073741824 b).k (rdA c65 1073741824 b).er (rdA c65 1073741824 b).o (rdA c65 1073741824 b).x (rdA c65 1073741824 b).d (rdA c65 1073741824 b).g (rdA c65 1073741824 b).bl (rdA c65 1073741824 b).pl (rdA c65 1073741824 b).nl = layRs (rdA c65 1073741824 b) := fun h => if_pos h
 by_cases hg : okA c64 8192 b
 · obtain ⟨h1,h2,_⟩ := okA_same c65_good (m' := 1073741824) (by decide) hg
   exact .inl ⟨hg,h1.symm,decide_eq_true h2.1,decide_eq_true ((hO h2.1).trans h2.2)⟩
 · by_cases h2 : errR (rdA c65 1073741824 b) = 0
   · by_cases h3 : layRs (rdA c65 1073741824 b) = b
     · exact (hg (okA_same c64_good (m' := 8192) (by decide) (show okA c65 1073741824 b from ⟨h2,h3⟩)).2.1).elim
     · exact .inr (.inr ⟨hg,decide_eq_true h2,decide_eq_false (by rw [hO h2]; exact h3)⟩)
   · exact .inr (.inl ⟨hg,decide_eq_false h2⟩)
def zda (f : FuncId) : Option zai :=
 match f with
 | 50 => some zbi
 | 56 => some zat
 | 57 => some zav
 | 58 => some bgetS
 | 18 => some putAS
 | _ => none
theorem SrgetA22_ok : Fns Try.prog zda := by
 intro f s h
 unfold zda at h
 split at h
 · injection h with h; subst h; exact ⟨⟨_,Try.func50,by kernel_rfl,by kernel_rfl⟩,rrfix_sound⟩
 · injection h with h; subst h; exact ⟨⟨_,Try.func56,by kernel_rfl,by kernel_rfl⟩,rrnum_sound⟩
 · injection h with h; subst h; exact ⟨⟨_,Try.func57,by kernel_rfl,by kernel_rfl⟩,rrtext_sound⟩
 · injection h with h; subst h; exact ⟨⟨_,Try.func58,by kernel_rfl,by kernel_rfl⟩,dget_sound⟩
 · injection h with h; subst h; exact ⟨⟨_,Try.func18,by kernel_rfl,by kernel_rfl⟩,rputA_sound⟩
 · cases h
def rgAPl : XPlan := fun _ => .std
section
set_option maxRecDepth 100000
set_option maxHeartbeats 16000000 in
theorem rgetA22_sound : zaq Try.prog 24 zcx := by
 refine zcj (S := zda) (SO := noO) (T := ty) zas ty_ok SrgetA22_ok noO_ok Try.func24 (c := Try.f24.body.getD .skip) (by kernel_rfl) (fun xs pins hp _ => ?_)
 have hx : ∃ b f,xs = [.sb b f] ∧ pins = [] ∧ b.length ≤ 1000000 := by
   unfold zcx at hp
   split at hp
   · rename_i b f _
     exact ⟨b,f,rfl,rfl,hp⟩
   · exact hp.elim
 obtain ⟨b,f,rfl,rfl,hb⟩ := hx
 clear hp
 refine ⟨by simp,rgAPl,by kernel_rfl,?_⟩
 obtain ⟨K,hK⟩ : ∃ x,kq b = x := ⟨_,rfl⟩
 obtain ⟨L0,E0,q0⟩ : ∃ x y,sq0 b = (x,y) := ⟨_,_,rfl⟩
 obtain ⟨L1,E1,q1⟩ : ∃ x y,h1A b = (x,y) := ⟨_,_,rfl⟩
 obtain ⟨L2,E2,q2⟩ : ∃ x y,h2A b = (x,y) := ⟨_,_,rfl⟩
 obtain ⟨L3,E3,q3⟩ : ∃ x y,h3A b = (x,y) := ⟨_,_,rfl⟩
 obtain ⟨L4,E4,q4⟩ : ∃ x y,h4A b = (x,y) := ⟨_,_,rfl⟩
 obtain ⟨L5,E5,q5⟩ : ∃ x y,h5A b = (x,y) := ⟨_,_,rfl⟩
 obtain ⟨L6,E6,q6⟩ : ∃ x y,b0A b = (x,y) := ⟨_,_,rfl⟩
 have a0 : zfj 1 b 0 = L0 := congrArg Prod.fst q0
 have z0 : rfixE 1 b 0 = E0 := congrArg Prod.snd q0
 have hK' : zdz 1 b 0 % 256 = K := hK
 have p1 : stN (L0,E0) = (L1,E1) := by rw [← q0]; exact q1
 have a1 : numL L0 E0 = L1 := congrArg Prod.fst p1
 have z1 : numE L0 E0 = E1 := congrArg Prod.snd p1
 have p2 : stN (L1,E1) = (L2,E2) := by rw [← q1]; exact q2
 have a2 : numL L1 E1 = L2 := congrArg Prod.fst p2
 have z2 : numE L1 E1 = E2 := congrArg Prod.snd p2
 have p3 : stN (L2,E2) = (L3,E3) := by rw [← q2]; exact q3
 have a3 : numL L2 E2 = L3 := congrArg Prod.fst p3
 have z3 : numE L2 E2 = E3 := congrArg Prod.snd p3
 have p4 : stN (L3,E3) = (L4,E4) := by rw [← q3]; exact q4
 have a4 : numL L3 E3 = L4 := congrArg Prod.fst p4
 have z4 : numE L3 E3 = E4 := congrArg Prod.snd p4
 have p5 : stX (L4,E4) = (L5,E5) := by rw [← q4]; exact q5
 have a5 : zfj 1 L4 E4 = L5 := congrArg Prod.fst p5
 have z5 : rfixE 1 L4 E4 = E5 := congrArg Prod.snd p5
 have p6 : stN (L5,E5) = (L6,E6) := by rw [← q5]; exact q6
 have a6 : numL L5 E5 = L6 := congrArg Prod.fst p6
 have z6 : numE L5 E5 = E6 := congrArg Prod.snd p6
 have l0 : L0.length ≤ 1000000 := by have := zbp 1 b 0; rw [a0] at this; omega
 have l1 : L1.length ≤ 1000000 := by have := zan L0 E0; rw [a1] at this; omega
 have l2 : L2.length ≤ 1000000 := by have := zan L1 E1; rw [a2] at this; omega
 have l3 : L3.length ≤ 1000000 := by have := zan L2 E2; rw [a3] at this; omega
 have l4 : L4.length ≤ 1000000 := by have := zan L3 E3; rw [a4] at this; omega
 have l5 : L5.length ≤ 1000000 := by have := zbp 1 L4 E4; rw [a5] at this; omega
 have l6 : L6.length ≤ 1000000 := by have := zan L5 E5; rw [a6] at this; omega
 obtain ⟨er,v1⟩ : ∃ x,numN L0 E0 = x := ⟨_,rfl⟩
 obtain ⟨o,v2⟩ : ∃ x,numN L1 E1 = x := ⟨_,rfl⟩
 obtain ⟨x,v3⟩ : ∃ x,numN L2 E2 = x := ⟨_,rfl⟩
 obtain ⟨g,v4⟩ : ∃ x,numN L3 E3 = x := ⟨_,rfl⟩
 obtain ⟨d,v5⟩ : ∃ x,decide (zdz 1 L4 E4 = 1) = x := ⟨_,rfl⟩
 obtain ⟨nb,v6⟩ : ∃ n,numN L5 E5 = n := ⟨_,rfl⟩
 have hnb : bnA c65 1073741824 b = c65 (stT 1073741824) (L6,E6) nb := by unfold bnA; rw [q5,q6]; unfold vP; simp only [v6]
 have hBl : ∀ i,(itS (stT 1073741824) (L6,E6) i).1.length ≤ 1000000 := fun i => Nat.le_trans (itS_len _ (fun s => zdi 1073741824 s.1 s.2) _ i) l6
 have tk : ∀ l : List UInt8,List.take l.length l = l := fun l => List.take_length
 unfold Try.f24
 simp only [go_sem,zab,Nat.reduceAdd,Nat.reduceSub,Nat.reduceMul,Int.reduceToNat,reduceCtorEq,↓reduceIte,Int.reducePow,Nat.reducePow,Int.reduceMod,Nat.reduceLeDiff,Int.reduceLE,Int.reduceNe,Int.reduceEq,Nat.reduceEqDiff,Nat.reduceLT,Nat.reduceBEq,List.map_cons,List.map_nil,List.toList_toArray,Array.toList_append,Option.toArray_some,Option.toArray_none,Bool.and_self,ty,zda,rgAPl,zbi,zat,rrd,hb,a0,z0,hK',a1,z1,a2,z2,a3,z3,a4,z4,a5,z5,a6,z6,l0,l1,l2,l3,l4,l5,l6,v1,v2,v3,v4,v5,v6,Int.reduceLT,Int.reduceLE,fillS]
 refine zdl (awpO_loopR (fun e σ => e = .exit 0 ∧ ∃ (L : List UInt8) (E : Int) (BL : List Bat),b1A c65 1073741824 b = (L,E) ∧ itL (vB 1073741824) (stT 1073741824) (L6,E6) (bnA c65 1073741824 b) = BL ∧
   σ = ⟨[.sb b f,.junk,.rf 4 9 0 0,.w (.int .i64 0),.rf 5 2 0 0,.junk,.rf 6 9 0 0,.junk,.junk,.junk,.junk,.junk,.junk,.junk,.junk,.junk,.junk,.junk,.junk,.junk,.junk,.junk,.junk,.junk,.junk,.junk,.junk,.junk,.junk,.junk,.junk,.junk,.junk,.junk,.junk,.junk,.junk,.junk,.junk,.junk,.junk,.junk,.junk,.junk,.junk,.junk,.junk,.junk,.junk,.junk,.junk,.junk,.junk,.junk,.junk,.junk,.junk,.junk,.junk,.junk,.junk,.junk,.junk,.junk,.junk,.junk,.junk,.junk,.junk,.junk,.junk,.junk,.junk,.junk,.junk,.junk,.junk,.junk,.junk,.junk,.junk,.junk,.junk,.junk,.junk,.junk,.junk,.junk,.junk,.junk,.junk,.junk,.junk,.junk,.junk,.junk,.junk,.junk,.junk,.junk,.junk,.junk,.junk,.junk,.junk,.junk,.junk,.junk,.junk,.junk,.junk,.junk,.junk,.junk,.junk,.junk,.junk,.junk,.junk,.junk,.junk,.junk,.junk,.junk,.junk,.junk,.junk,.junk,.junk,.junk,.junk,.junk,.junk,.junk,.junk,.junk,.junk,.junk,.junk,.junk,.junk,.junk,.junk,.junk,.junk,.junk,.junk,.junk,.junk,.junk,.junk,.junk,.junk,.junk,.junk,.junk,.junk,.junk,.junk,.junk,.junk,.junk,.junk,.junk,.junk,.junk,.junk,.junk,.junk,.junk,.junk,.junk],[(4,.g 9 [(.agg [.w (.int .u8 0),.w (.int .i64 0),.w (.int .i64 0),.w (.int .i64 0),.w (.bool false),.w (.int .i64 0),.sg 6 [] true,.si [] true,.sg 1 [] true])]),(5,.g 2 [rrd L f E]),(6,.g 9 [(.agg [.w (.int .u8 K),.w (.int .i64 er),.w (.int .i64 o),.w (.int .i64 x),.w (.bool d),.w (.int .i64 g),.sg 6 (BL.map bq22) false,.si [] true,.sg 1 [] true])])],7⟩) ?_ ?_)
 · refine ⟨fun m σ => ∃ (i : Nat) (L : List UInt8) (E : Int) (BL : List Bat),m = c65 (stT 1073741824) (L6,E6) nb - i ∧ i ≤ c65 (stT 1073741824) (L6,E6) nb ∧ itS (stT 1073741824) (L6,E6) i = (L,E) ∧ itL (vB 1073741824) (stT 1073741824) (L6,E6) i = BL ∧
     σ = ⟨[.sb b f,.junk,.rf 4 9 0 0,.w (.int .i64 0),.rf 5 2 0 0,.junk,.rf 6 9 0 0,.junk,.w (.int .i64 nb),.junk,.junk,.w (.int .i64 i),.junk,.junk,.junk,.junk,.junk,.junk,.junk,.junk,.junk,.junk,.junk,.junk,.junk,.junk,.junk,.junk,.junk,.junk,.junk,.junk,.junk,.junk,.junk,.junk,.junk,.junk,.junk,.junk,.junk,.junk,.junk,.junk,.junk,.junk,.junk,.junk,.junk,.junk,.junk,.junk,.junk,.junk,.junk,.junk,.junk,.junk,.junk,.junk,.junk,.junk,.junk,.junk,.junk,.junk,.junk,.junk,.junk,.junk,.junk,.junk,.junk,.junk,.junk,.junk,.junk,.junk,.junk,.junk,.junk,.junk,.junk,.junk,.junk,.junk,.junk,.junk,.junk,.junk,.junk,.junk,.junk,.junk,.junk,.junk,.junk,.junk,.junk,.junk,.junk,.junk,.junk,.junk,.junk,.junk,.junk,.junk,.junk,.junk,.junk,.junk,.junk,.junk,.junk,.junk,.junk,.junk,.junk,.junk,.junk,.junk,.junk,.junk,.junk,.junk,.junk,.junk,.junk,.junk,.junk,.junk,.junk,.junk,.junk,.junk,.junk,.junk,.junk,.junk,.junk,.junk,.junk,.junk,.junk,.junk,.junk,.junk,.junk,.junk,.junk,.junk,.junk,.junk,.junk,.junk,.junk,.junk,.junk,.junk,.junk,.junk,.junk,.junk,.junk,.junk,.junk,.junk,.junk,.junk,.junk,.junk],[(4,.g 9 [(.agg [.w (.int .u8 0),.w (.int .i64 0),.w (.int .i64 0),.w (.int .i64 0),.w (.bool false),.w (.int .i64 0),.sg 6 [] true,.si [] true,.sg 1 [] true])]),(5,.g 2 [rrd L f E]),(6,.g 9 [(.agg [.w (.int .u8 K),.w (.int .i64 er),.w (.int .i64 o),.w (.int .i64 x),.w (.bool d),.w (.int .i64 g),.ms 7 6 0 i,.si [] true,.sg 1 [] true])]),(7,.g 6 (BL.map bq22))],8⟩,?_,?_⟩
   · refine ⟨_,_,(weak_nilC 116 9 6 6 _ (.g 6 []) rfl ⟨by decide,rfl⟩ (by exact trivial)).trans (zad [0,1,2,3,4,68,116,588] rfl rfl rfl ?_ ?_),0,L6,E6,[],rfl,by omega,rfl,rfl,rfl⟩
     · simp only [ssT,zae,zaf,setSlot,gOf,AV.ren,renL,Blk.ren,Ax.look,Ax.put,reduceCtorEq,↓reduceIte,Nat.reduceEqDiff,Nat.reduceLT,Nat.reduceAdd,List.length_append,List.length_cons,List.length_nil,Option.some.injEq,setSlot,put]; try simp
     · simp only [ssT,zae,zaf,setSlot,gOf,AV.ren,renL,Blk.ren,Ax.look,Ax.put,reduceCtorEq,↓reduceIte,Nat.reduceEqDiff,Nat.reduceLT,Nat.reduceAdd,List.length_append,List.length_cons,List.length_nil,Option.some.injEq,setSlot,put,rrd]; try simp [renL]
   · rintro m σ ⟨i,L,E,BL,rfl,hi,hq,hBL,rfl⟩
     have hLl : L.length ≤ 1000000 := by have := hBl i; rw [hq] at this; exact this
     have hbl : (BL.map bq22).length = i := by rw [List.length_map,← hBL,itL_len]
     have h65 := c65_le (stT 1073741824) (L6,E6) nb
     obtain ⟨N1,hN1⟩ : ∃ n,c65 (stT 1073741824) (L6,E6) nb = n := ⟨_,rfl⟩
     have hgo := goes22 (stT 1073741824) (L6,E6) nb i hi hq
     rw [hN1] at hi hgo h65 hnb ⊢
     rcases hgo with D | hgo
     · obtain ⟨hil,D⟩ := D
       have ei : ((i : Int) + 1 + 9223372036854775808) % 18446744073709551616 - 9223372036854775808 = ((i + 1 : Nat) : Int) := by omega
       obtain ⟨S,hS⟩ : ∃ x,rtS' 1073741824 L E = x := ⟨_,rfl⟩
       obtain ⟨L',hL'⟩ : ∃ x,rtL 1073741824 L E = x := ⟨_,rfl⟩
       obtain ⟨E',hE'⟩ : ∃ x,rtE 1073741824 L E = x := ⟨_,rfl⟩
       have hSl : S.length ≤ 1000000 := by have := tkS_len22 1073741824 L E; rw [hS] at this; omega
       have hqn : itS (stT 1073741824) (L6,E6) (i + 1) = (L',E') := by unfold itS; rw [hq]; unfold stT; simp only [hL',hE']
       have hbn : itL (vB 1073741824) (stT 1073741824) (L6,E6) (i + 1) = BL ++ [zbf S] := by unfold itL; rw [hq,hBL]; unfold vB; simp only [hS]
       obtain ⟨G,hG⟩ : ∃ x,zcm S = x := ⟨_,rfl⟩
       obtain ⟨B,hB⟩ : ∃ x,zbf S = x := ⟨_,rfl⟩
       rw [hB] at hbn
       obtain ⟨bb,c,p,e,s,rs⟩ := B
       have hcl := closed_bq (BL ++ [⟨bb,c,p,e,s,rs⟩])
       rw [List.map_append] at hcl
       have hcl2 : closedL (List.map bq22 BL ++ [.agg [.w (.int .i64 bb),.w (.int .i64 c),.w (.int .i64 p),.w (.int .i64 e),.w (.int .i64 s),.sg 6 (rs.map rv) (emp rs)]]) = true := hcl
       simp only [go_sem,zab,Nat.reduceAdd,Nat.reduceSub,Nat.reduceMul,Int.reduceToNat,reduceCtorEq,↓reduceIte,Int.reducePow,Nat.reducePow,Int.reduceMod,Nat.reduceLeDiff,Int.reduceLE,Int.reduceNe,Int.reduceEq,Nat.reduceEqDiff,Nat.reduceLT,Nat.reduceBEq,List.map_cons,List.map_nil,List.toList_toArray,Array.toList_append,Option.toArray_some,Option.toArray_none,Bool.and_self,ty,zda,rgAPl,zav,bgetS,rrd,hLl,hS,hL',hE',hSl,hG,hB,bav,tk,D,ei,hbl,closed_bq,zbz,hcl2,fillS]
       repeat (refine And.intro (by first | omega | (unfold top; omega) | decide) ?_)
       refine ⟨N1 - (i + 1),_,by omega,zad [0,1,2,3,4,5,6,264] rfl rfl rfl ?_ ?_,i + 1,L',E',BL ++ [⟨bb,c,p,e,s,rs⟩],rfl,by omega,hqn,hbn,rfl⟩
       · simp only [ssT,zae,zaf,setSlot,gOf,AV.ren,renL,Blk.ren,Ax.look,Ax.put,reduceCtorEq,↓reduceIte,Nat.reduceEqDiff,Nat.reduceLT,Nat.reduceAdd,List.length_append,List.length_cons,List.length_nil,Option.some.injEq]; try simp
       · simp only [ssT,zae,zaf,setSlot,gOf,AV.ren,renL,Blk.ren,Ax.look,Ax.put,reduceCtorEq,↓reduceIte,Nat.reduceEqDiff,Nat.reduceLT,Nat.reduceAdd,List.length_append,List.length_cons,List.length_nil,Option.some.injEq,ren_bq]; try simp [bq22,bav,rrd]
     · have hdle : decide (0 + i ≤ (BL.map bq22).length) = true := decide_eq_true (by omega)
       have hd2 : decide (i ≤ BL.length) = true := decide_eq_true (by rw [List.length_map] at hbl; omega)
       have htk : (BL.map bq22).take i = BL.map bq22 := List.take_of_length_le (by omega)
       have hiN : i = N1 := by rcases hgo with D | D | D <;> exact D.1
       have qb1 : b1A c65 1073741824 b = (L,E) := by unfold b1A; rw [hnb,q6,← hiN]; exact hq
       have qbl : itL (vB 1073741824) (stT 1073741824) (L6,E6) (bnA c65 1073741824 b) = BL := by rw [hnb,← hiN]; exact hBL
       rcases hgo with D | D | D
       all_goals
         obtain ⟨_,D⟩ := D
         simp only [go_sem,zab,Nat.reduceAdd,Nat.reduceSub,Nat.reduceMul,Int.reduceToNat,reduceCtorEq,↓reduceIte,Int.reducePow,Nat.reducePow,Int.reduceMod,Nat.reduceLeDiff,Int.reduceLE,Int.reduceNe,Int.reduceEq,Nat.reduceEqDiff,Nat.reduceLT,Nat.reduceBEq,List.map_cons,List.map_nil,List.toList_toArray,Array.toList_append,Option.toArray_some,Option.toArray_none,Bool.and_self,ty,zda,rgAPl,rrd,D]
         refine ⟨_,(weak_fgB 7 6 6 6 (BL.map bq22) _ rfl (closed_bq _) rfl (by simp [slot,AV.ids]) (by simp [Blk.idsB,Blk.closed,closedL,AV.closed,idsL,AV.ids])).trans (zad [0,1,2,3,4,5,6] rfl rfl rfl ?_ ?_),L,E,BL,qb1,qbl,rfl⟩
         · simp only [ssT,zae,zaf,setSlot,gOf,AV.ren,renL,Blk.ren,Ax.look,Ax.put,reduceCtorEq,↓reduceIte,Nat.reduceEqDiff,Nat.reduceLT,Nat.reduceAdd,List.length_append,List.length_cons,List.length_nil,Option.some.injEq,fgL,fgH,AV.fg,Blk.fg,Nat.reduceBEq,cond_true,cond_false,Bool.and_true,beq_self_eq_true,Bool.true_and,List.drop_zero,hdle,htk]; try simp
         · simp only [ssT,zae,zaf,setSlot,gOf,AV.ren,renL,Blk.ren,Ax.look,Ax.put,reduceCtorEq,↓reduceIte,Nat.reduceEqDiff,Nat.reduceLT,Nat.reduceAdd,List.length_append,List.length_cons,List.length_nil,Option.some.injEq,fgL,fgH,AV.fg,Blk.fg,Nat.reduceBEq,cond_true,cond_false,Bool.and_true,beq_self_eq_true,Bool.true_and,List.drop_zero,hdle,htk,ren_bq,rrd]; try simp [hd2]
 · rintro e σ ⟨rfl,L,E,BL,qb1,qbl,rfl⟩
   obtain ⟨L8,E8,q8⟩ : ∃ x y,p0A c65 1073741824 b = (x,y) := ⟨_,_,rfl⟩
   have p8 : stN (L,E) = (L8,E8) := by rw [← qb1]; exact q8
   have a8 : numL L E = L8 := congrArg Prod.fst p8
   have z8 : numE L E = E8 := congrArg Prod.snd p8
   have lL : L.length ≤ 1000000 := by
     have h := hBl (bnA c65 1073741824 b)
     have h2 : b1A c65 1073741824 b = itS (stT 1073741824) (L6,E6) (bnA c65 1073741824 b) := by unfold b1A; rw [q6]
     rw [← h2,qb1] at h; exact h
   have l8 : L8.length ≤ 1000000 := by have := zan L E; rw [a8] at this; omega
   obtain ⟨np,v8⟩ : ∃ n,numN L E = n := ⟨_,rfl⟩
   have hnp : pnA c65 1073741824 b = c65 stN (L8,E8) np := by unfold pnA; rw [qb1,q8]; unfold vP; simp only [v8]
   have hPl : ∀ i,(itS stN (L8,E8) i).1.length ≤ 1000000 := fun i => Nat.le_trans (itS_len _ (fun s => zan s.1 s.2) _ i) l8
   simp only [go_sem,zab,Nat.reduceAdd,Nat.reduceSub,Nat.reduceMul,Int.reduceToNat,reduceCtorEq,↓reduceIte,Int.reducePow,Nat.reducePow,Int.reduceMod,Nat.reduceLeDiff,Int.reduceLE,Int.reduceNe,Int.reduceEq,Nat.reduceEqDiff,Nat.reduceLT,Nat.reduceBEq,List.map_cons,List.map_nil,List.toList_toArray,Array.toList_append,Option.toArray_some,Option.toArray_none,Bool.and_self,ty,zda,rgAPl,zat,rrd,lL,a8,z8,v8,fillS]
   refine zdl (awpO_loopR (fun e σ => e = .exit 2 ∧ ∃ (L : List UInt8) (E : Int) (PL : List Int),p1A c65 1073741824 b = (L,E) ∧ itL vP stN (L8,E8) (pnA c65 1073741824 b) = PL ∧
     σ = ⟨[.sb b f,.junk,.rf 4 9 0 0,.w (.int .i64 0),.rf 5 2 0 0,.junk,.rf 6 9 0 0,.junk,.junk,.junk,.junk,.junk,.junk,.junk,.junk,.junk,.junk,.junk,.junk,.junk,.junk,.junk,.junk,.junk,.junk,.junk,.junk,.junk,.junk,.junk,.junk,.junk,.junk,.junk,.junk,.junk,.junk,.junk,.junk,.junk,.junk,.junk,.junk,.junk,.junk,.junk,.junk,.junk,.junk,.junk,.junk,.junk,.junk,.junk,.junk,.junk,.junk,.junk,.junk,.junk,.junk,.junk,.junk,.junk,.junk,.junk,.junk,.junk,.junk,.junk,.junk,.junk,.junk,.junk,.junk,.junk,.junk,.junk,.junk,.junk,.junk,.junk,.junk,.junk,.junk,.junk,.junk,.junk,.junk,.junk,.junk,.junk,.junk,.junk,.junk,.junk,.junk,.junk,.junk,.junk,.junk,.junk,.junk,.junk,.junk,.junk,.junk,.junk,.junk,.junk,.junk,.junk,.junk,.junk,.junk,.junk,.junk,.junk,.junk,.junk,.junk,.junk,.junk,.junk,.junk,.junk,.junk,.junk,.junk,.junk,.junk,.junk,.junk,.junk,.junk,.junk,.junk,.junk,.junk,.junk,.junk,.junk,.junk,.junk,.junk,.junk,.junk,.junk,.junk,.junk,.junk,.junk,.junk,.junk,.junk,.junk,.junk,.junk,.junk,.junk,.junk,.junk,.junk,.junk,.junk,.junk,.junk,.junk,.junk,.junk,.junk,.junk],[(4,.g 9 [(.agg [.w (.int .u8 0),.w (.int .i64 0),.w (.int .i64 0),.w (.int .i64 0),.w (.bool false),.w (.int .i64 0),.sg 6 [] true,.si [] true,.sg 1 [] true])]),(5,.g 2 [rrd L f E]),(6,.g 9 [(.agg [.w (.int .u8 K),.w (.int .i64 er),.w (.int .i64 o),.w (.int .i64 x),.w (.bool d),.w (.int .i64 g),.sg 6 (BL.map bq22) false,.si PL false,.sg 1 [] true])])],7⟩) ?_ ?_)
   · refine ⟨fun m σ => ∃ (i : Nat) (L : List UInt8) (E : Int) (PL : List Int),m = c65 stN (L8,E8) np - i ∧ i ≤ c65 stN (L8,E8) np ∧ itS stN (L8,E8) i = (L,E) ∧ itL vP stN (L8,E8) i = PL ∧
       σ = ⟨[.sb b f,.junk,.rf 4 9 0 0,.w (.int .i64 0),.rf 5 2 0 0,.junk,.rf 6 9 0 0,.junk,.w (.int .i64 np),.junk,.junk,.junk,.junk,.junk,.w (.int .i64 i),.junk,.junk,.junk,.junk,.junk,.junk,.junk,.junk,.junk,.junk,.junk,.junk,.junk,.junk,.junk,.junk,.junk,.junk,.junk,.junk,.junk,.junk,.junk,.junk,.junk,.junk,.junk,.junk,.junk,.junk,.junk,.junk,.junk,.junk,.junk,.junk,.junk,.junk,.junk,.junk,.junk,.junk,.junk,.junk,.junk,.junk,.junk,.junk,.junk,.junk,.junk,.junk,.junk,.junk,.junk,.junk,.junk,.junk,.junk,.junk,.junk,.junk,.junk,.junk,.junk,.junk,.junk,.junk,.junk,.junk,.junk,.junk,.junk,.junk,.junk,.junk,.junk,.junk,.junk,.junk,.junk,.junk,.junk,.junk,.junk,.junk,.junk,.junk,.junk,.junk,.junk,.junk,.junk,.junk,.junk,.junk,.junk,.junk,.junk,.junk,.junk,.junk,.junk,.junk,.junk,.junk,.junk,.junk,.junk,.junk,.junk,.junk,.junk,.junk,.junk,.junk,.junk,.junk,.junk,.junk,.junk,.junk,.junk,.junk,.junk,.junk,.junk,.junk,.junk,.junk,.junk,.junk,.junk,.junk,.junk,.junk,.junk,.junk,.junk,.junk,.junk,.junk,.junk,.junk,.junk,.junk,.junk,.junk,.junk,.junk,.junk,.junk,.junk,.junk,.junk,.junk,.junk],[(4,.g 9 [(.agg [.w (.int .u8 0),.w (.int .i64 0),.w (.int .i64 0),.w (.int .i64 0),.w (.bool false),.w (.int .i64 0),.sg 6 [] true,.si [] true,.sg 1 [] true])]),(5,.g 2 [rrd L f E]),(6,.g 9 [(.agg [.w (.int .u8 K),.w (.int .i64 er),.w (.int .i64 o),.w (.int .i64 x),.w (.bool d),.w (.int .i64 g),.sg 6 (BL.map bq22) false,.ms 7 1 0 i,.sg 1 [] true])]),(7,.i PL)],8⟩,?_,?_⟩
     · refine ⟨_,_,(weak_nilC 6 9 7 1 _ (.i []) rfl rfl (by exact trivial)).trans (zad [0,1,2,3,4,5,6,71] rfl rfl rfl ?_ ?_),0,L8,E8,[],rfl,by omega,rfl,rfl,rfl⟩
       · simp only [ssT,zae,zaf,setSlot,gOf,AV.ren,renL,Blk.ren,Ax.look,Ax.put,reduceCtorEq,↓reduceIte,Nat.reduceEqDiff,Nat.reduceLT,Nat.reduceAdd,List.length_append,List.length_cons,List.length_nil,Option.some.injEq,setSlot,put]; try simp
       · simp only [ssT,zae,zaf,setSlot,gOf,AV.ren,renL,Blk.ren,Ax.look,Ax.put,reduceCtorEq,↓reduceIte,Nat.reduceEqDiff,Nat.reduceLT,Nat.reduceAdd,List.length_append,List.length_cons,List.length_nil,Option.some.injEq,setSlot,put,rrd,ren_bq]; try simp [renL]
     · rintro m σ ⟨i,L,E,PL,rfl,hi,hq,hPL,rfl⟩
       have hLl : L.length ≤ 1000000 := by have := hPl i; rw [hq] at this; exact this
       have hpl : PL.length = i := by rw [← hPL,itL_len]
       have h65 := c65_le stN (L8,E8) np
       obtain ⟨N1,hN1⟩ : ∃ n,c65 stN (L8,E8) np = n := ⟨_,rfl⟩
       have hgo := goes22 stN (L8,E8) np i hi hq
       rw [hN1] at hi hgo h65 hnp ⊢
       rcases hgo with D | hgo
       · obtain ⟨hil,D⟩ := D
         have ei : ((i : Int) + 1 + 9223372036854775808) % 18446744073709551616 - 9223372036854775808 = ((i + 1 : Nat) : Int) := by omega
         obtain ⟨V,hV⟩ : ∃ x,numN L E = x := ⟨_,rfl⟩
         obtain ⟨L',hL'⟩ : ∃ x,numL L E = x := ⟨_,rfl⟩
         obtain ⟨E',hE'⟩ : ∃ x,numE L E = x := ⟨_,rfl⟩
         have hqn : itS stN (L8,E8) (i + 1) = (L',E') := by unfold itS; rw [hq]; unfold stN; simp only [hL',hE']
         have hbn : itL vP stN (L8,E8) (i + 1) = PL ++ [V] := by unfold itL; rw [hq,hPL]; unfold vP; simp only [hV]
         simp only [go_sem,zab,Nat.reduceAdd,Nat.reduceSub,Nat.reduceMul,Int.reduceToNat,reduceCtorEq,↓reduceIte,Int.reducePow,Nat.reducePow,Int.reduceMod,Nat.reduceLeDiff,Int.reduceLE,Int.reduceNe,Int.reduceEq,Nat.reduceEqDiff,Nat.reduceLT,Nat.reduceBEq,List.map_cons,List.map_nil,List.toList_toArray,Array.toList_append,Option.toArray_some,Option.toArray_none,Bool.and_self,ty,zda,rgAPl,zat,rrd,hLl,hV,hL',hE',D,ei,hpl,fillS]
         repeat (refine And.intro (by first | omega | (unfold top; omega) | decide) ?_)
         refine ⟨N1 - (i + 1),_,by omega,zad [0,1,2,3,4,5,6,192] rfl rfl rfl ?_ ?_,i + 1,L',E',PL ++ [V],rfl,by omega,hqn,hbn,rfl⟩
         · simp only [ssT,zae,zaf,setSlot,gOf,AV.ren,renL,Blk.ren,Ax.look,Ax.put,reduceCtorEq,↓reduceIte,Nat.reduceEqDiff,Nat.reduceLT,Nat.reduceAdd,List.length_append,List.length_cons,List.length_nil,Option.some.injEq]; try simp
         · simp only [ssT,zae,zaf,setSlot,gOf,AV.ren,renL,Blk.ren,Ax.look,Ax.put,reduceCtorEq,↓reduceIte,Nat.reduceEqDiff,Nat.reduceLT,Nat.reduceAdd,List.length_append,List.length_cons,List.length_nil,Option.some.injEq,ren_bq]; try simp [rrd,renL]
       · have hdle : decide (0 + i ≤ PL.length) = true := decide_eq_true (by omega)
         have hd2 : decide (i ≤ PL.length) = true := decide_eq_true (by omega)
         have htk : PL.take i = PL := List.take_of_length_le (by omega)
         have hiN : i = N1 := by rcases hgo with D | D | D <;> exact D.1
         have qp1 : p1A c65 1073741824 b = (L,E) := by unfold p1A; rw [hnp,q8,← hiN]; exact hq
         have qpl : itL vP stN (L8,E8) (pnA c65 1073741824 b) = PL := by rw [hnp,← hiN]; exact hPL
         rcases hgo with D | D | D
         all_goals
           obtain ⟨_,D⟩ := D
           simp only [go_sem,zab,Nat.reduceAdd,Nat.reduceSub,Nat.reduceMul,Int.reduceToNat,reduceCtorEq,↓reduceIte,Int.reducePow,Nat.reducePow,Int.reduceMod,Nat.reduceLeDiff,Int.reduceLE,Int.reduceNe,Int.reduceEq,Nat.reduceEqDiff,Nat.reduceLT,Nat.reduceBEq,List.map_cons,List.map_nil,List.toList_toArray,Array.toList_append,Option.toArray_some,Option.toArray_none,Bool.and_self,ty,zda,rgAPl,rrd,D]
           refine ⟨_,(weak_fiB 7 6 6 PL _ rfl rfl (by simp [slot,AV.ids]) (by simp [Blk.idsB,Blk.closed,closedL,AV.closed,idsL,AV.ids])).trans (zad [0,1,2,3,4,5,6] rfl rfl rfl ?_ ?_),L,E,PL,qp1,qpl,rfl⟩
           · simp only [ssT,zae,zaf,setSlot,gOf,AV.ren,renL,Blk.ren,Ax.look,Ax.put,reduceCtorEq,↓reduceIte,Nat.reduceEqDiff,Nat.reduceLT,Nat.reduceAdd,List.length_append,List.length_cons,List.length_nil,Option.some.injEq,fiL,fiH,AV.fi,Blk.fi,Nat.reduceBEq,cond_true,cond_false,Bool.and_true,beq_self_eq_true,Bool.true_and,List.drop_zero,hdle,htk]; try simp
           · simp only [ssT,zae,zaf,setSlot,gOf,AV.ren,renL,Blk.ren,Ax.look,Ax.put,reduceCtorEq,↓reduceIte,Nat.reduceEqDiff,Nat.reduceLT,Nat.reduceAdd,List.length_append,List.length_cons,List.length_nil,Option.some.injEq,fiL,fiH,AV.fi,Blk.fi,Nat.reduceBEq,cond_true,cond_false,Bool.and_true,beq_self_eq_true,Bool.true_and,List.drop_zero,hdle,htk,ren_bq,rrd]; try simp [hd2]
   · rintro e σ ⟨rfl,L,E,PL,qp1,qpl,rfl⟩
     obtain ⟨L9,E9,q9⟩ : ∃ x y,n0A c65 1073741824 b = (x,y) := ⟨_,_,rfl⟩
     have p9 : stN (L,E) = (L9,E9) := by rw [← qp1]; exact q9
     have a9 : numL L E = L9 := congrArg Prod.fst p9
     have z9 : numE L E = E9 := congrArg Prod.snd p9
     have lM : L.length ≤ 1000000 := by
       have h := hPl (pnA c65 1073741824 b)
       have h2 : p1A c65 1073741824 b = itS stN (L8,E8) (pnA c65 1073741824 b) := by unfold p1A; rw [q8]
       rw [← h2,qp1] at h; exact h
     have l9 : L9.length ≤ 1000000 := by have := zan L E; rw [a9] at this; omega
     obtain ⟨nn,v9⟩ : ∃ n,numN L E = n := ⟨_,rfl⟩
     have hnn : nnA c65 1073741824 b = c65 (stT 255) (L9,E9) nn := by unfold nnA; rw [qp1,q9]; unfold vP; simp only [v9]
     have hNl : ∀ i,(itS (stT 255) (L9,E9) i).1.length ≤ 1000000 := fun i => Nat.le_trans (itS_len _ (fun s => zdi 255 s.1 s.2) _ i) l9
     simp only [go_sem,zab,Nat.reduceAdd,Nat.reduceSub,Nat.reduceMul,Int.reduceToNat,reduceCtorEq,↓reduceIte,Int.reducePow,Nat.reducePow,Int.reduceMod,Nat.reduceLeDiff,Int.reduceLE,Int.reduceNe,Int.reduceEq,Nat.reduceEqDiff,Nat.reduceLT,Nat.reduceBEq,List.map_cons,List.map_nil,List.toList_toArray,Array.toList_append,Option.toArray_some,Option.toArray_none,Bool.and_self,ty,zda,rgAPl,zat,rrd,lM,a9,z9,v9,fillS]
     refine zdl (awpO_loopR (fun e σ => e = .exit 4 ∧ ∃ (L : List UInt8) (E : Int) (NL : List (List UInt8)),itL vN (stT 255) (L9,E9) (nnA c65 1073741824 b) = NL ∧
       σ = ⟨[.sb b f,.junk,.rf 4 9 0 0,.w (.int .i64 0),.rf 5 2 0 0,.junk,.rf 6 9 0 0,.junk,.junk,.junk,.junk,.junk,.junk,.junk,.junk,.junk,.junk,.junk,.junk,.junk,.junk,.junk,.junk,.junk,.junk,.junk,.junk,.junk,.junk,.junk,.junk,.junk,.junk,.junk,.junk,.junk,.junk,.junk,.junk,.junk,.junk,.junk,.junk,.junk,.junk,.junk,.junk,.junk,.junk,.junk,.junk,.junk,.junk,.junk,.junk,.junk,.junk,.junk,.junk,.junk,.junk,.junk,.junk,.junk,.junk,.junk,.junk,.junk,.junk,.junk,.junk,.junk,.junk,.junk,.junk,.junk,.junk,.junk,.junk,.junk,.junk,.junk,.junk,.junk,.junk,.junk,.junk,.junk,.junk,.junk,.junk,.junk,.junk,.junk,.junk,.junk,.junk,.junk,.junk,.junk,.junk,.junk,.junk,.junk,.junk,.junk,.junk,.junk,.junk,.junk,.junk,.junk,.junk,.junk,.junk,.junk,.junk,.junk,.junk,.junk,.junk,.junk,.junk,.junk,.junk,.junk,.junk,.junk,.junk,.junk,.junk,.junk,.junk,.junk,.junk,.junk,.junk,.junk,.junk,.junk,.junk,.junk,.junk,.junk,.junk,.junk,.junk,.junk,.junk,.junk,.junk,.junk,.junk,.junk,.junk,.junk,.junk,.junk,.junk,.junk,.junk,.junk,.junk,.junk,.junk,.junk,.junk,.junk,.junk,.junk,.junk,.junk],[(4,.g 9 [(.agg [.w (.int .u8 0),.w (.int .i64 0),.w (.int .i64 0),.w (.int .i64 0),.w (.bool false),.w (.int .i64 0),.sg 6 [] true,.si [] true,.sg 1 [] true])]),(5,.g 2 [rrd L f E]),(6,.g 9 [(.agg [.w (.int .u8 K),.w (.int .i64 er),.w (.int .i64 o),.w (.int .i64 x),.w (.bool d),.w (.int .i64 g),.sg 6 (BL.map bq22) false,.si PL false,.sg 1 (NL.map AV.str) false])])],7⟩) ?_ ?_)
     · refine ⟨fun m σ => ∃ (i : Nat) (L : List UInt8) (E : Int) (NL : List (List UInt8)),m = c65 (stT 255) (L9,E9) nn - i ∧ i ≤ c65 (stT 255) (L9,E9) nn ∧ itS (stT 255) (L9,E9) i = (L,E) ∧ itL vN (stT 255) (L9,E9) i = NL ∧
         σ = ⟨[.sb b f,.junk,.rf 4 9 0 0,.w (.int .i64 0),.rf 5 2 0 0,.junk,.rf 6 9 0 0,.junk,.w (.int .i64 nn),.junk,.junk,.junk,.junk,.junk,.junk,.w (.int .i64 i),.junk,.junk,.junk,.junk,.junk,.junk,.junk,.junk,.junk,.junk,.junk,.junk,.junk,.junk,.junk,.junk,.junk,.junk,.junk,.junk,.junk,.junk,.junk,.junk,.junk,.junk,.junk,.junk,.junk,.junk,.junk,.junk,.junk,.junk,.junk,.junk,.junk,.junk,.junk,.junk,.junk,.junk,.junk,.junk,.junk,.junk,.junk,.junk,.junk,.junk,.junk,.junk,.junk,.junk,.junk,.junk,.junk,.junk,.junk,.junk,.junk,.junk,.junk,.junk,.junk,.junk,.junk,.junk,.junk,.junk,.junk,.junk,.junk,.junk,.junk,.junk,.junk,.junk,.junk,.junk,.junk,.junk,.junk,.junk,.junk,.junk,.junk,.junk,.junk,.junk,.junk,.junk,.junk,.junk,.junk,.junk,.junk,.junk,.junk,.junk,.junk,.junk,.junk,.junk,.junk,.junk,.junk,.junk,.junk,.junk,.junk,.junk,.junk,.junk,.junk,.junk,.junk,.junk,.junk,.junk,.junk,.junk,.junk,.junk,.junk,.junk,.junk,.junk,.junk,.junk,.junk,.junk,.junk,.junk,.junk,.junk,.junk,.junk,.junk,.junk,.junk,.junk,.junk,.junk,.junk,.junk,.junk,.junk,.junk,.junk,.junk,.junk,.junk,.junk,.junk,.junk],[(4,.g 9 [(.agg [.w (.int .u8 0),.w (.int .i64 0),.w (.int .i64 0),.w (.int .i64 0),.w (.bool false),.w (.int .i64 0),.sg 6 [] true,.si [] true,.sg 1 [] true])]),(5,.g 2 [rrd L f E]),(6,.g 9 [(.agg [.w (.int .u8 K),.w (.int .i64 er),.w (.int .i64 o),.w (.int .i64 x),.w (.bool d),.w (.int .i64 g),.sg 6 (BL.map bq22) false,.si PL false,.ms 7 1 0 i])]),(7,.g 1 (NL.map AV.str))],8⟩,?_,?_⟩
       · refine ⟨_,_,(weak_nilC 6 9 8 1 _ (.g 1 []) rfl ⟨by decide,rfl⟩ (by exact trivial)).trans (zad [0,1,2,3,4,5,6,71] rfl rfl rfl ?_ ?_),0,L9,E9,[],rfl,by omega,rfl,rfl,rfl⟩
         · simp only [ssT,zae,zaf,setSlot,gOf,AV.ren,renL,Blk.ren,Ax.look,Ax.put,reduceCtorEq,↓reduceIte,Nat.reduceEqDiff,Nat.reduceLT,Nat.reduceAdd,List.length_append,List.length_cons,List.length_nil,Option.some.injEq,setSlot,put]; try simp
         · simp only [ssT,zae,zaf,setSlot,gOf,AV.ren,renL,Blk.ren,Ax.look,Ax.put,reduceCtorEq,↓reduceIte,Nat.reduceEqDiff,Nat.reduceLT,Nat.reduceAdd,List.length_append,List.length_cons,List.length_nil,Option.some.injEq,setSlot,put,rrd,ren_bq]; try simp [renL]
       · rintro m σ ⟨i,L,E,NL,rfl,hi,hq,hNL,rfl⟩
         have hLl : L.length ≤ 1000000 := by have := hNl i; rw [hq] at this; exact this
         have hnl : (NL.map AV.str).length = i := by rw [List.length_map,← hNL,itL_len]
         have h65 := c65_le (stT 255) (L9,E9) nn
         obtain ⟨N1,hN1⟩ : ∃ n,c65 (stT 255) (L9,E9) nn = n := ⟨_,rfl⟩
         have hgo := goes22 (stT 255) (L9,E9) nn i hi hq
         rw [hN1] at hi hgo h65 hnn ⊢
         rcases hgo with D | hgo
         · obtain ⟨hil,D⟩ := D
           have ei : ((i : Int) + 1 + 9223372036854775808) % 18446744073709551616 - 9223372036854775808 = ((i + 1 : Nat) : Int) := by omega
           obtain ⟨V,hV⟩ : ∃ x,rtS' 255 L E = x := ⟨_,rfl⟩
           obtain ⟨L',hL'⟩ : ∃ x,rtL 255 L E = x := ⟨_,rfl⟩
           obtain ⟨E',hE'⟩ : ∃ x,rtE 255 L E = x := ⟨_,rfl⟩
           have hqn : itS (stT 255) (L9,E9) (i + 1) = (L',E') := by unfold itS; rw [hq]; unfold stT; simp only [hL',hE']
           have hbn : itL vN (stT 255) (L9,E9) (i + 1) = NL ++ [V] := by unfold itL; rw [hq,hNL]; unfold vN; simp only [hV]
           have hcl := zdf (NL ++ [V])
           rw [List.map_append] at hcl
           have hcl2 : closedL (List.map AV.str NL ++ [AV.str V]) = true := hcl
           simp only [go_sem,zab,Nat.reduceAdd,Nat.reduceSub,Nat.reduceMul,Int.reduceToNat,reduceCtorEq,↓reduceIte,Int.reducePow,Nat.reducePow,Int.reduceMod,Nat.reduceLeDiff,Int.reduceLE,Int.reduceNe,Int.reduceEq,Nat.reduceEqDiff,Nat.reduceLT,Nat.reduceBEq,List.map_cons,List.map_nil,List.toList_toArray,Array.toList_append,Option.toArray_some,Option.toArray_none,Bool.and_self,ty,zda,rgAPl,zav,rrd,hLl,hV,hL',hE',D,ei,hnl,zdf,hcl2,fillS]
           repeat (refine And.intro (by first | omega | (unfold top; omega) | decide) ?_)
           refine ⟨N1 - (i + 1),_,by omega,zad [0,1,2,3,4,5,6,192] rfl rfl rfl ?_ ?_,i + 1,L',E',NL ++ [V],rfl,by omega,hqn,hbn,rfl⟩
           · simp only [ssT,zae,zaf,setSlot,gOf,AV.ren,renL,Blk.ren,Ax.look,Ax.put,reduceCtorEq,↓reduceIte,Nat.reduceEqDiff,Nat.reduceLT,Nat.reduceAdd,List.length_append,List.length_cons,List.length_nil,Option.some.injEq]; try simp
           · simp only [ssT,zae,zaf,setSlot,gOf,AV.ren,renL,Blk.ren,Ax.look,Ax.put,reduceCtorEq,↓reduceIte,Nat.reduceEqDiff,Nat.reduceLT,Nat.reduceAdd,List.length_append,List.length_cons,List.length_nil,Option.some.injEq,ren_bq,ren_str22]; try simp [rrd,renL]
         · have hdle : decide (0 + i ≤ (NL.map AV.str).length) = true := decide_eq_true (by omega)
           have hd2 : decide (i ≤ NL.length) = true := decide_eq_true (by rw [List.length_map] at hnl; omega)
           have htk : (NL.map AV.str).take i = NL.map AV.str := List.take_of_length_le (by omega)
           have hiN : i = N1 := by rcases hgo with D | D | D <;> exact D.1
           have qnl : itL vN (stT 255) (L9,E9) (nnA c65 1073741824 b) = NL := by rw [hnn,← hiN]; exact hNL
           rcases hgo with D | D | D
           all_goals
             obtain ⟨_,D⟩ := D
             simp only [go_sem,zab,Nat.reduceAdd,Nat.reduceSub,Nat.reduceMul,Int.reduceToNat,reduceCtorEq,↓reduceIte,Int.reducePow,Nat.reducePow,Int.reduceMod,Nat.reduceLeDiff,Int.reduceLE,Int.reduceNe,Int.reduceEq,Nat.reduceEqDiff,Nat.reduceLT,Nat.reduceBEq,List.map_cons,List.map_nil,List.toList_toArray,Array.toList_append,Option.toArray_some,Option.toArray_none,Bool.and_self,ty,zda,rgAPl,rrd,D]
             refine ⟨_,(weak_fgB 7 1 6 6 (NL.map AV.str) _ rfl (zdf _) rfl (by simp [slot,AV.ids]) (by simp [Blk.idsB,Blk.closed,closedL,AV.closed,idsL,AV.ids])).trans (zad [0,1,2,3,4,5,6] rfl rfl rfl ?_ ?_),L,E,NL,qnl,rfl⟩
             · simp only [ssT,zae,zaf,setSlot,gOf,AV.ren,renL,Blk.ren,Ax.look,Ax.put,reduceCtorEq,↓reduceIte,Nat.reduceEqDiff,Nat.reduceLT,Nat.reduceAdd,List.length_append,List.length_cons,List.length_nil,Option.some.injEq,fgL,fgH,AV.fg,Blk.fg,Nat.reduceBEq,cond_true,cond_false,Bool.and_true,beq_self_eq_true,Bool.true_and,List.drop_zero,hdle,htk]; try simp
             · simp only [ssT,zae,zaf,setSlot,gOf,AV.ren,renL,Blk.ren,Ax.look,Ax.put,reduceCtorEq,↓reduceIte,Nat.reduceEqDiff,Nat.reduceLT,Nat.reduceAdd,List.length_append,List.length_cons,List.length_nil,Option.some.injEq,fgL,fgH,AV.fg,Blk.fg,Nat.reduceBEq,cond_true,cond_false,Bool.and_true,beq_self_eq_true,Bool.true_and,List.drop_zero,hdle,htk,ren_bq,ren_str22,rrd]; try simp [hd2]
     · rintro e σ ⟨rfl,L,E,NL,qnl,rfl⟩
       have hM : rdA c65 1073741824 b = ⟨K,er,o,x,d,g,BL,PL,NL⟩ := by
         unfold rdA
         rw [hK,q0,q1,q2,q3,q4,q6,q8,q9,qbl,qpl,qnl]
         unfold vP vX
         simp only [v1,v2,v3,v4,v5]
       obtain ⟨C,hC⟩ : ∃ y,errR ⟨K,er,o,x,d,g,BL,PL,NL⟩ = y := ⟨_,rfl⟩
       obtain ⟨W,hW⟩ : ∃ y,putA K er o x d g BL PL NL = y := ⟨_,rfl⟩
       have hcase := rgA_cases b hM hC hW
       have hC' : errA K BL PL NL = C := hC
       have hfit := rdA_fit c65 1073741824 b
       rw [hM] at hfit
       obtain ⟨hk,f1,f2,f3,f4,f5⟩ := hfit
       simp only at hk f1 f2 f3 f4 f5
       have hVok : okA c64 8192 b → rdA c64 8192 b = ⟨K,er,o,x,d,g,BL,PL,NL⟩ → gaR b = .tup [(.agg [.w (.int .u8 K),.w (.int .i64 er),.w (.int .i64 o),.w (.int .i64 x),.w (.bool d),.w (.int .i64 g),.sg 6 (BL.map bq22) false,.si PL false,.sg 1 (NL.map AV.str) false]),.w (.int .i64 0)] := by
         intro h h2; unfold gaR; rw [if_pos h,h2]; rfl
       have hVno : ¬ okA c64 8192 b → gaR b = .tup [(.agg [.w (.int .u8 0),.w (.int .i64 0),.w (.int .i64 0),.w (.int .i64 0),.w (.bool false),.w (.int .i64 0),.sg 6 [] true,.si [] true,.sg 1 [] true]),.w (.int .i64 4)] := fun h => if_neg h
       have hub := bq_ubat BL
       have hus := zbj NL
       have g1 : (BL.map bq22).length ≤ 1000000 := by
         rw [List.length_map,← qbl,itL_len,hnb]
         have := c65_le (stT 1073741824) (L6,E6) nb; omega
       have g2 : PL.length ≤ 1000000 := by
         rw [← qpl,itL_len,hnp]
         have := c65_le stN (L8,E8) np; omega
       have g3 : (NL.map AV.str).length ≤ 1000000 := by
         rw [List.length_map,← qnl,itL_len,hnn]
         have := c65_le (stT 255) (L9,E9) nn; omega
       have hall : ∀ x ∈ BL,x.rs.length ≤ 40 := by
         intro y hy
         have := itL_all (fun y : Bat => y.rs.length ≤ 40) (vB 1073741824) (stT 1073741824) (L6,E6) (fun s => Nat.le_trans (bget0_recs _) (by decide)) (bnA c65 1073741824 b)
         rw [qbl] at this
         exact this y hy
       have hx1 : ∃ l : List (Bat × Bool),BL.map bq22 = l.map bvp ∧ ∀ p ∈ l,p.1.rs.length ≤ 40 := by
         refine ⟨BL.map fun x => (x,emp x.rs),bq_map BL,?_⟩
         intro p hp
         obtain ⟨y,hy,rfl⟩ := List.mem_map.1 hp
         exact hall y hy
       have hx2 : ∃ ks : List (List UInt8),NL.map AV.str = ks.map AV.str := ⟨NL,rfl⟩
       have hcq : coe ty 38 (.sg 6 (BL.map bq22) false) = .sg 6 (BL.map bq22) false := by cases BL <;> rfl
       have hcz : coe ty 40 (.sg 1 (NL.map AV.str) false) = .sg 1 (NL.map AV.str) false := zdk NL false
       clear qbl qnl
       generalize BL.map bq22 = XB at hub g1 hx1 hcq hVok ⊢
       generalize NL.map AV.str = XN at hus g3 hx2 hcz hVok ⊢
       rcases hcase with X | X | X
       · have hv := hVok X.1 X.2.1
         simp only [go_sem,zab,Nat.reduceAdd,Nat.reduceSub,Nat.reduceMul,Int.reduceToNat,reduceCtorEq,↓reduceIte,Int.reducePow,Nat.reducePow,Int.reduceMod,Nat.reduceLeDiff,Int.reduceLE,Int.reduceNe,Int.reduceEq,Nat.reduceEqDiff,Nat.reduceLT,Nat.reduceBEq,List.map_cons,List.map_nil,List.toList_toArray,Array.toList_append,Option.toArray_some,Option.toArray_none,Bool.and_self,ty,zda,rgAPl,putAS,zcx,rrd,hk,f1,f2,f3,f4,f5,g1,g2,g3,hx1,hx2,hub,hus,hcq,hcz,hC',hW,tk,X.2,hv,fillS]
         repeat (refine And.intro (by first | omega | decide) ?_)
         refine ⟨_,Weak.refl _,?_⟩
         simp only [go_sem,zab,Nat.reduceAdd,Nat.reduceSub,Nat.reduceMul,Int.reduceToNat,reduceCtorEq,↓reduceIte,Int.reducePow,Nat.reducePow,Int.reduceMod,Nat.reduceLeDiff,Int.reduceLE,Int.reduceNe,Int.reduceEq,Nat.reduceEqDiff,Nat.reduceLT,Nat.reduceBEq,List.map_cons,List.map_nil,List.toList_toArray,Array.toList_append,Option.toArray_some,Option.toArray_none,Bool.and_self,ty,zcx,hv]
       all_goals
         have hv := hVno X.1
         simp only [go_sem,zab,Nat.reduceAdd,Nat.reduceSub,Nat.reduceMul,Int.reduceToNat,reduceCtorEq,↓reduceIte,Int.reducePow,Nat.reducePow,Int.reduceMod,Nat.reduceLeDiff,Int.reduceLE,Int.reduceNe,Int.reduceEq,Nat.reduceEqDiff,Nat.reduceLT,Nat.reduceBEq,List.map_cons,List.map_nil,List.toList_toArray,Array.toList_append,Option.toArray_some,Option.toArray_none,Bool.and_self,ty,zda,rgAPl,putAS,zcx,rrd,hk,f1,f2,f3,f4,f5,g1,g2,g3,hx1,hx2,hub,hus,hcq,hcz,hC',hW,tk,X.2,hv,fillS]
         repeat (refine And.intro (by first | omega | decide) ?_)
         refine ⟨_,Weak.refl _,?_⟩
         simp only [go_sem,zab,Nat.reduceAdd,Nat.reduceSub,Nat.reduceMul,Int.reduceToNat,reduceCtorEq,↓reduceIte,Int.reducePow,Nat.reducePow,Int.reduceMod,Nat.reduceLeDiff,Int.reduceLE,Int.reduceNe,Int.reduceEq,Nat.reduceEqDiff,Nat.reduceLT,Nat.reduceBEq,List.map_cons,List.map_nil,List.toList_toArray,Array.toList_append,Option.toArray_some,Option.toArray_none,Bool.and_self,ty,zcx,hv]
end
end Go.Proofs.Ytmedjkjoannbmaa
namespace Go.Proofs.Ytmedjkjoannbmaa
open Ax
theorem eqQ_iff (q r : Rq) : eqQ q.k q.t q.i q.p q.c q.f q.o q.m q.w q.g q.mb q.n r.k r.t r.i r.p r.c r.f r.o r.m r.w r.g r.mb r.n (zcl q.b.b q.b.c q.b.p q.b.e q.b.s q.b.rs r.b.b r.b.c r.b.p r.b.e r.b.s r.b.rs) = true ↔ q = r := by
 obtain ⟨k,t,i,p,c,f,o,m,w,g,mb,n,⟨b1,b2,b3,b4,b5,rs⟩⟩ := q
 obtain ⟨k',t',i',p',c',f',o',m',w',g',mb',n',⟨b1',b2',b3',b4',b5',rs'⟩⟩ := r
 constructor
 · intro h
   obtain ⟨⟨h1,h2,h3,h4,h5,h6,h7,h8,h9,h10,h11,h12⟩,hB⟩ := eqQ_eq h
   obtain ⟨g1,g2,g3,g4,g5,g6⟩ := bsame4_eq hB
   simp only at h1 h2 h3 h4 h5 h6 h7 h8 h9 h10 h11 h12 g1 g2 g3 g4 g5 g6
   subst h1 h2 h3 h4 h5 h6 h7 h8 h9 h10 h11 h12 g1 g2 g3 g4 g5 g6
   rfl
 · intro h
   injection h with h1 h2 h3 h4 h5 h6 h7 h8 h9 h10 h11 h12 hb
   injection hb with g1 g2 g3 g4 g5 g6
   subst h1 h2 h3 h4 h5 h6 h7 h8 h9 h10 h11 h12 g1 g2 g3 g4 g5 g6
   unfold eqQ zcl
   simp
theorem eqA_iff (a b : Rs) : eqA a.k a.er a.o a.x a.d a.g b.k b.er b.o b.x b.d b.g (decide (a.bl = b.bl) && (decide (a.pl = b.pl) && decide (a.nl = b.nl))) = true ↔ a = b := by
 obtain ⟨k,er,o,x,d,g,bl,pl,nl⟩ := a
 obtain ⟨k',er',o',x',d',g',bl',pl',nl'⟩ := b
 unfold eqA
 simp only [Bool.and_eq_true,decide_eq_true_iff]
 constructor
 · rintro ⟨⟨rfl,rfl,rfl,rfl,rfl,rfl⟩,rfl,rfl,rfl⟩; rfl
 · intro h
   injection h with h1 h2 h3 h4 h5 h6 h7 h8 h9
   exact ⟨⟨h1,h2,h3,h4,h5,h6⟩,h7,h8,h9⟩
end Go.Proofs.Ytmedjkjoannbmaa
namespace Go.Proofs.Ytmedjkjoannbmaa
open Ax
def Swreads (f : FuncId) : Option zai :=
 match f with
 | 9 => some yesS
 | 21 => some getQS
 | 22 => some getQS
 | 23 => some zcx
 | 24 => some zcx
 | 13 => some zfe
 | 20 => some sresS
 | _ => none
theorem Swreads_ok : Fns Try.prog Swreads := by
 intro f s h
 unfold Swreads at h
 split at h
 · injection h with h; subst h; exact ⟨⟨_,Try.func9,by kernel_rfl,by kernel_rfl⟩,awake22_sound⟩
 · injection h with h; subst h; exact ⟨⟨_,Try.func21,by kernel_rfl,by kernel_rfl⟩,getQ_sound⟩
 · injection h with h; subst h; exact ⟨⟨_,Try.func22,by kernel_rfl,by kernel_rfl⟩,rgetQ_sound⟩
 · injection h with h; subst h; exact ⟨⟨_,Try.func23,by kernel_rfl,by kernel_rfl⟩,getA22_sound⟩
 · injection h with h; subst h; exact ⟨⟨_,Try.func24,by kernel_rfl,by kernel_rfl⟩,rgetA22_sound⟩
 · injection h with h; subst h; exact ⟨⟨_,Try.func13,by kernel_rfl,by kernel_rfl⟩,rsreq22_sound⟩
 · injection h with h; subst h; exact ⟨⟨_,Try.func20,by kernel_rfl,by kernel_rfl⟩,rsres22_sound⟩
 · cases h
def wreadsPl : XPlan := fun _ => .std
def wreadsS : zai
 | [.sb a fa,.sb b fb],[] => ⟨a.length ≤ 9223372036854775807 ∧ b.length ≤ 9223372036854775807,.w (.bool true),[]⟩
 | _,_ => zba
section
set_option maxRecDepth 100000
set_option maxHeartbeats 16000000 in
theorem wreads_law : zaq Try.prog 5 wreadsS := by
 refine zcj (S := Swreads) (SO := noO) (T := ty) zas ty_ok Swreads_ok noO_ok Try.func5 (c := Try.f5.body.getD .skip) (by kernel_rfl) (fun xs pins hp _ => ?_)
 unfold wreadsS at hp ⊢
 split at hp
 · rename_i a fa b fb _
   obtain ⟨ha9,hb9⟩ := hp
   refine ⟨by simp,wreadsPl,by kernel_rfl,?_⟩
   unfold Try.f5
   by_cases LA : a.length ≤ 1000
   case neg =>
     have DA : decide ((1000 : Int) < a.length) = true := decide_eq_true (by omega)
     simp only [go_sem,zab,Nat.reduceAdd,Nat.reduceSub,Nat.reduceMul,Int.reduceToNat,reduceCtorEq,↓reduceIte,Int.reducePow,Nat.reducePow,Int.reduceMod,Nat.reduceLeDiff,Int.reduceLE,Int.reduceNe,Int.reduceEq,Nat.reduceEqDiff,Nat.reduceLT,Nat.reduceBEq,List.map_cons,List.map_nil,List.toList_toArray,Array.toList_append,Option.toArray_some,Option.toArray_none,Bool.and_self,ty,Swreads,wreadsPl,yesS,DA]
     exact zao 4 rfl
   have DA : decide ((1000 : Int) < a.length) = false := decide_eq_false (by omega)
   by_cases LB : b.length ≤ 1000
   case neg =>
     have DB : decide ((1000 : Int) < b.length) = true := decide_eq_true (by omega)
     simp only [go_sem,zab,Nat.reduceAdd,Nat.reduceSub,Nat.reduceMul,Int.reduceToNat,reduceCtorEq,↓reduceIte,Int.reducePow,Nat.reducePow,Int.reduceMod,Nat.reduceLeDiff,Int.reduceLE,Int.reduceNe,Int.reduceEq,Nat.reduceEqDiff,Nat.reduceLT,Nat.reduceBEq,List.map_cons,List.map_nil,List.toList_toArray,Array.toList_append,Option.toArray_some,Option.toArray_none,Bool.and_self,ty,Swreads,wreadsPl,yesS,DA,DB]
     exact zao 4 rfl
   have DB : decide ((1000 : Int) < b.length) = false := decide_eq_false (by omega)
   have y1 : a.length ≤ 1000000 := by omega
   have y2 : b.length ≤ 1000000 := by omega
   obtain ⟨k,t,i,p,c,f,o,m,w,g,mb,n,b1,b2,b3,b4,b5,rs,u1,hr⟩ : ∃ k t i p c f o m w g mb n b1 b2 b3 b4 b5,∃ rs : List Rec,gqA a = (.agg [.w (.int .u8 k),.str t,.w (.int .i64 i),.w (.int .i64 p),.w (.bool c),.w (.bool f),.w (.int .i64 o),.w (.int .i64 m),.w (.int .i64 w),.str g,.str mb,.w (.int .i64 n),.w (.int .i64 b1),.w (.int .i64 b2),.w (.int .i64 b3),.w (.int .i64 b4),.w (.int .i64 b5),.sg 6 (rs.map rv) (emp rs)]) ∧ rs.length ≤ 40 := by
     unfold gqA gqR
     by_cases h : gqOk a
     · rw [if_pos h]
       exact ⟨_,_,_,_,_,_,_,_,_,_,_,_,_,_,_,_,_,_,rfl,(rdR_fit a y1).2.2.2⟩
     · rw [if_neg h]
       exact ⟨_,_,_,_,_,_,_,_,_,_,_,_,_,_,_,_,_,_,rfl,by simp [zR,zB]⟩
   obtain ⟨C,hC⟩ : ∃ C,(if gqOk a then (0 : Int) else 4) = C := ⟨_,rfl⟩
   have hrl : (rs.map rv).length ≤ 9223372036854775807 := by rw [List.length_map]; omega
   have hex : ∃ qs : List Rec,rs.map rv = qs.map rv := ⟨rs,rfl⟩
   have hmr := zah rs
   have hce : coe ty 22 (.sg 6 (rs.map rv) (emp rs)) = .sg 6 (rs.map rv) (emp rs) := by cases rs <;> rfl
   have eqq := (eqQ_iff ⟨k,t,i,p,c,f,o,m,w,g,mb,n,⟨b1,b2,b3,b4,b5,rs⟩⟩ ⟨k,t,i,p,c,f,o,m,w,g,mb,n,⟨b1,b2,b3,b4,b5,rs⟩⟩).2 rfl
   have dC : decide (C = C) = true := decide_eq_true rfl
   have d4 : decide ((4 : Int) = 4) = true := rfl
   by_cases hg : okA c64 8192 b
   · obtain ⟨⟨k2,er2,o2,x2,d2,g2,bl2,ps2,ks2⟩,hM⟩ : ∃ M,rdA c64 8192 b = M := ⟨_,rfl⟩
     have r1 : gaR b = .tup [(.agg [.w (.int .u8 k2),.w (.int .i64 er2),.w (.int .i64 o2),.w (.int .i64 x2),.w (.bool d2),.w (.int .i64 g2),.sg 6 (bl2.map bq22) false,.si ps2 false,.sg 1 (ks2.map AV.str) false]),.w (.int .i64 0)] := by unfold gaR; rw [if_pos hg,hM]; rfl
     have e := errR_ok hg.1
     rw [hM] at e
     obtain ⟨⟨e1,e2,e3⟩,e4,e5⟩ := e
     simp only at e1 e2 e3 e4 e5
     have hcq : coe ty 38 (.sg 6 (bl2.map bq22) false) = .sg 6 (bl2.map bq22) false := by cases bl2 <;> rfl
     have hcz := zdk ks2 false
     have hub := bq_ubat bl2
     have hms := zbj ks2
     have hlb : (bl2.map bq22).length ≤ 1000000 := by rw [List.length_map]; omega
     have hlp : ps2.length ≤ 1000000 := by omega
     have hlk : (ks2.map AV.str).length ≤ 1000000 := by rw [List.length_map]; omega
     have hxk : ∃ qs : List (List UInt8),ks2.map AV.str = qs.map AV.str := ⟨ks2,rfl⟩
     have hxb : ∃ gs : List (Bat × Bool),bl2.map bq22 = gs.map bvp ∧ ∀ p ∈ gs,p.1.rs.length ≤ 40 := by
       refine ⟨bl2.map fun x => (x,emp x.rs),bq_map bl2,?_⟩
       intro p hp
       obtain ⟨x,hx,rfl⟩ := List.mem_map.1 hp
       have h1 := bE_zero (e4 x hx)
       have h2 := (bheads (e4 x hx) []).2.2.2.2.2.2.2.1
       show x.rs.length ≤ 40
       omega
     have eqa := (eqA_iff ⟨k2,er2,o2,x2,d2,g2,bl2,ps2,ks2⟩ ⟨k2,er2,o2,x2,d2,g2,bl2,ps2,ks2⟩).2 rfl
     have eqa1 : eqA k2 er2 o2 x2 d2 g2 k2 er2 o2 x2 d2 g2 true = true := by unfold eqA; simp
     have d0 : decide ((0 : Int) = 0) = true := rfl
     clear hM hg e4 e5
     simp (config := { maxSteps := 1000000 }) only [go_sem,zab,Nat.reduceAdd,Nat.reduceSub,Nat.reduceMul,Int.reduceToNat,reduceCtorEq,↓reduceIte,Int.reducePow,Nat.reducePow,Int.reduceMod,Nat.reduceLeDiff,Int.reduceLE,Int.reduceNe,Int.reduceEq,Nat.reduceEqDiff,Nat.reduceLT,Nat.reduceBEq,List.map_cons,List.map_nil,List.toList_toArray,Array.toList_append,Option.toArray_some,Option.toArray_none,Bool.and_self,ty,Swreads,wreadsPl,getQS,zfe,zcx,sresS,yesS,DA,DB,y1,y2,u1,hC,hrl,hex,hmr,hce,eqq,dC,r1,hcq,hcz,hub,hms,hlb,hlp,hlk,hxk,hxb,eqa,eqa1,d0,fillS]
     repeat (refine And.intro (by first | omega | assumption | decide) ?_)
     exact zao 4 rfl
   · have r1 : gaR b = .tup [(.agg [.w (.int .u8 0),.w (.int .i64 0),.w (.int .i64 0),.w (.int .i64 0),.w (.bool false),.w (.int .i64 0),.sg 6 [] true,.si [] true,.sg 1 [] true]),.w (.int .i64 4)] := if_neg hg
     have x1 : ∃ gs : List (Bat × Bool),([] : List AV) = gs.map bvp ∧ ∀ p ∈ gs,p.1.rs.length ≤ 40 := ⟨[],rfl,by simp⟩
     have x2 : ∃ qs : List (List UInt8),([] : List AV) = qs.map AV.str := ⟨[],rfl⟩
     have x3 : eqA 0 0 0 0 false 0 0 0 0 0 false 0 (decide (([] : List AV).map ubat = ([] : List AV).map ubat) && (decide (([] : List Int) = []) && decide (([] : List AV).map zel = ([] : List AV).map zel))) = true := by
       have h1 : ([] : List AV).map ubat = [] := rfl
       have h2 : ([] : List AV).map zel = [] := rfl
       rw [h1,h2]
       exact (eqA_iff ⟨0,0,0,0,false,0,[],[],[]⟩ ⟨0,0,0,0,false,0,[],[],[]⟩).2 rfl
     have x4 : eqA 0 0 0 0 false 0 0 0 0 0 false 0 true = true := by decide +kernel
     simp (config := { maxSteps := 1000000 }) only [go_sem,coe,zab,Nat.reduceAdd,Nat.reduceSub,Nat.reduceMul,Int.reduceToNat,reduceCtorEq,↓reduceIte,Int.reducePow,Nat.reducePow,Int.reduceMod,Nat.reduceLeDiff,Int.reduceLE,Int.reduceNe,Int.reduceEq,Nat.reduceEqDiff,Nat.reduceLT,Nat.reduceBEq,List.map_cons,List.map_nil,List.toList_toArray,Array.toList_append,Option.toArray_some,Option.toArray_none,Bool.and_self,ty,Swreads,wreadsPl,getQS,zfe,zcx,sresS,yesS,DA,DB,y1,y2,u1,hC,hrl,hex,hmr,hce,eqq,dC,d4,r1,x1,x2,x3,x4,fillS,List.length_nil,Nat.zero_le]
     repeat (refine And.intro (by first | omega | assumption | decide) ?_)
     exact zao 4 rfl
 · exact hp.elim
end
theorem arg_b22 {x : AV} (h : Arg ty 6 29 x) : ∃ bs f,x = .sb bs f ∧ bs.length ≤ 9223372036854775807 := by
 obtain ⟨i,ls,hi,hs,rfl⟩ := h
 simp only [ty] at hi
 injection hi with hi
 subst hi
 simp only [Shape,ty,ShapeF,isFlatI] at hs
 obtain ⟨m,f,rfl,w⟩ := hs
 have : maxLen = 9223372036854775807 := by decide
 exact ⟨m,f,rfl,by omega⟩
theorem wreads_dom {x y : AV} (hx : Arg ty 6 29 x) (hy : Arg ty 6 29 y) : (wreadsS [x,y] []).p ∧ (wreadsS [x,y] []).x = .w (.bool true) := by
 obtain ⟨a,f,rfl,h1⟩ := arg_b22 hx
 obtain ⟨b,g,rfl,h2⟩ := arg_b22 hy
 exact ⟨⟨h1,h2⟩,rfl⟩
end Go.Proofs.Ytmedjkjoannbmaa
