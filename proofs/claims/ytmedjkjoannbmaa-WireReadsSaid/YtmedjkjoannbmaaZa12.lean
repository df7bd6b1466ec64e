/- What the proofs of this seat stand on; it asks nothing. -/
import Derived.Test.YtmedjkjoannbmaaZa11
set_option linter.unusedSimpArgs false
set_option linter.unusedVariables false
namespace Go.Proofs.Ytmedjkjoannbmaa
open Ax
def bq22 (x : Bat) : AV := bav x (emp x.rs)
theorem bq_map (l : List Bat) : l.map bq22 = (l.map fun x => (x,emp x.rs)).map bvp := by
 rw [List.map_map]; rfl
theorem bq_ubat (l : List Bat) : (l.map bq22).map ubat = l := by
 rw [bq_map,zez,List.map_map]; exact List.map_id _
theorem closed_bq : ∀ (l : List Bat),closedL (l.map bq22) = true
 | [] => rfl
 | x :: r => by
   obtain ⟨b,c,p,e,s,rs⟩ := x
   simp only [List.map_cons,closedL,bq22,bav,AV.closed,Bool.true_and,zbz]; exact closed_bq r
theorem ren_bq (g : Nat → Nat) : ∀ (l : List Bat),renL g (l.map bq22) = l.map bq22
 | [] => rfl
 | x :: r => by simp only [List.map_cons,renL,ren_bq g r]; rfl
theorem zdf : ∀ (l : List (List UInt8)),closedL (l.map AV.str) = true
 | [] => rfl
 | x :: r => by simp only [List.map_cons,closedL,AV.closed,Bool.true_and]; exact zdf r
theorem ren_str22 (g : Nat → Nat) : ∀ (l : List (List UInt8)),renL g (l.map AV.str) = l.map AV.str
 | [] => rfl
 | x :: r => by simp only [List.map_cons,renL,ren_str22 g r]; rfl
theorem ids_str22 : ∀ (l : List (List UInt8)),idsL (l.map AV.str) = []
 | [] => rfl
 | x :: r => by simp only [List.map_cons,idsL,AV.ids,List.nil_append]; exact ids_str22 r
def respA (a : Rs) : AV := .agg [.w (.int .u8 a.k),.w (.int .i64 a.er),.w (.int .i64 a.o),.w (.int .i64 a.x),.w (.bool a.d),.w (.int .i64 a.g),.sg 6 (a.bl.map bq22) false,.si a.pl false,.sg 1 (a.nl.map AV.str) false]
instance decOkA (c : Cnt) (m : Int) (b : List UInt8) : Decidable (okA c m b) := by unfold okA; infer_instance
def gaR (b : List UInt8) : AV := if okA c64 8192 b then .tup [respA (rdA c64 8192 b),.w (.int .i64 0)] else .tup [(.agg [.w (.int .u8 0),.w (.int .i64 0),.w (.int .i64 0),.w (.int .i64 0),.w (.bool false),.w (.int .i64 0),.sg 6 [] true,.si [] true,.sg 1 [] true]),.w (.int .i64 4)]
def zcx : zai
 | [.sb b f],[] => ⟨b.length ≤ 1000000,gaR b,[]⟩
 | _,_ => zba
def manyS22 : zai
 | [.rf 0 2 0 0],[.g 2 [.agg [.sb bs f,.w (.int k e)]]] => ⟨k = .i64 ∧ bs.length ≤ 1000000,.w (.int .i64 (min (max (numN bs e) 0) 64)),[rd (numL bs e) f (numE bs e)]⟩
 | _,_ => zba
def Smany22 (f : FuncId) : Option zai :=
 match f with
 | 52 => some numS
 | _ => none
theorem Smany22_ok : Fns Try.prog Smany22 := by
 intro f s h
 unfold Smany22 at h
 split at h
 · injection h with h; subst h; exact ⟨⟨_,Try.func52,by kernel_rfl,by kernel_rfl⟩,num_sound⟩
 · cases h
section
set_option maxRecDepth 100000
theorem many22_sound : zaq Try.prog 53 manyS22 := by
 refine zak (S := Smany22) (T := ty) zas ty_ok Smany22_ok Try.func53 (c := Try.f53.body.getD .skip) (by kernel_rfl) (by kernel_rfl) (fun xs pins hp _ => ?_)
 unfold manyS22 at hp ⊢
 split at hp
 · rename_i bs f k e _
   obtain ⟨rfl,hb⟩ := hp
   refine ⟨by simp,?_⟩
   unfold Try.f53
   have e1 : (if 0 > numN bs e then 0 else numN bs e) = max (numN bs e) 0 := by split <;> omega
   have e2 : (if 64 < max (numN bs e) 0 then 64 else max (numN bs e) 0) = min (max (numN bs e) 0) 64 := by split <;> omega
   simp only [go_sem,coe,zaa,Nat.reduceAdd,Nat.reduceSub,Nat.reduceMul,Int.reduceToNat,reduceCtorEq,↓reduceIte,Int.reducePow,Nat.reducePow,Int.reduceMod,Nat.reduceLeDiff,Int.reduceLE,Int.reduceNe,Int.reduceEq,Nat.reduceEqDiff,Nat.reduceLT,Nat.reduceBEq,ty,Smany22,numS,hb,rd,e1,e2]
 · exact hp.elim
end
def zek (f : FuncId) : Option zai :=
 match f with
 | 45 => some newS
 | 46 => some zff
 | 52 => some numS
 | 55 => some zbs
 | 48 => some zew
 | 53 => some manyS22
 | 54 => some bgetS
 | 17 => some putAS
 | 49 => some eqB22
 | _ => none
theorem SgetA22_ok : Fns Try.prog zek := by
 intro f s h
 unfold zek at h
 split at h
 · injection h with h; subst h; exact ⟨⟨_,Try.func45,by kernel_rfl,by kernel_rfl⟩,new_sound⟩
 · injection h with h; subst h; exact ⟨⟨_,Try.func46,by kernel_rfl,by kernel_rfl⟩,mfixed_sound⟩
 · injection h with h; subst h; exact ⟨⟨_,Try.func52,by kernel_rfl,by kernel_rfl⟩,num_sound⟩
 · injection h with h; subst h; exact ⟨⟨_,Try.func55,by kernel_rfl,by kernel_rfl⟩,mtext_sound⟩
 · injection h with h; subst h; exact ⟨⟨_,Try.func48,by kernel_rfl,by kernel_rfl⟩,done_sound⟩
 · injection h with h; subst h; exact ⟨⟨_,Try.func53,by kernel_rfl,by kernel_rfl⟩,many22_sound⟩
 · injection h with h; subst h; exact ⟨⟨_,Try.func54,by kernel_rfl,by kernel_rfl⟩,bget_sound⟩
 · injection h with h; subst h; exact ⟨⟨_,Try.func17,by kernel_rfl,by kernel_rfl⟩,putA_sound⟩
 · injection h with h; subst h; exact ⟨⟨_,Try.func49,by kernel_rfl,by kernel_rfl⟩,eqB22_sound⟩
 · cases h
def getAPl : XPlan := fun id => match id with
 | 15 => .prs [(0,3),(1,3)]
 | 19 => .prs [(0,3),(1,3)]
 | _ => .std
theorem itS_len (st : zaz → zaz) (hst : ∀ s,(st s).1.length ≤ s.1.length) (s : zaz) : ∀ i,(itS st s i).1.length ≤ s.1.length
 | 0 => Nat.le_refl _
 | i + 1 => Nat.le_trans (hst _) (itS_len st hst s i)
theorem gA_cases (b : List UInt8) {M : Rs} (hM : rdA c64 8192 b = M) {L : List UInt8} {E D C : Int} {W : List UInt8} (hQ : n1A c64 8192 b = (L,E)) (hD : (if E = 0 ∧ 0 < L.length then (4 : Int) else E) = D)
   (hC : errR M = C) (hW : putA M.k M.er M.o M.x M.d M.g M.bl M.pl M.nl = W) :
   (okA c64 8192 b ∧ decide (D = 0) = true ∧ decide (C = 0) = true ∧ decide (W = b) = true) ∨ (¬ okA c64 8192 b ∧ decide (D = 0) = false) ∨ (¬ okA c64 8192 b ∧ decide (D = 0) = true ∧ decide (C = 0) = false) ∨ (¬ okA c64 8192 b ∧ decide (D = 0) = true ∧ decide (C = 0) = true ∧ decide (W = b) = false) := by
 subst hM hC hW hD
 have hO : errR (rdA c64 8192 b) = 0 → putA (rdA c64 8192 b).k (rdA c64 8192 b).er (rdA c64 8192 b).o (rdA c64 8192 b).x (rdA c64 8192 b).d (rdA c64 8192 b).g (rdA c64 8192 b).bl (rdA c64 8192 b).pl (rdA c64 8192 b).nl = layRs (rdA c64 8192 b) := fun h => if_pos h
 by_cases hg : okA c64 8192 b
 · have h5 := (okA_same c64_good (Int.le_refl 8192) hg).2.2
   rw [hQ] at h5
   injection h5 with h5 h6
   subst h5 h6
   exact .inl ⟨hg,by simp,decide_eq_true hg.1,decide_eq_true ((hO hg.1).trans hg.2)⟩
 · by_cases h1 : (if E = 0 ∧ 0 < L.length then (4 : Int) else E) = 0
   · by_cases h2 : errR (rdA c64 8192 b) = 0
     · by_cases h3 : layRs (rdA c64 8192 b) = b
       · exact (hg ⟨h2,h3⟩).elim
       · exact .inr (.inr (.inr ⟨hg,decide_eq_true h1,decide_eq_true h2,decide_eq_false (by rw [hO h2]; exact h3)⟩))
     · exact .inr (.inr (.inl ⟨hg,decide_eq_true h1,decide_eq_false h2⟩))
   · exact .inr (.inl ⟨hg,decide_eq_false h1⟩)
section
set_option maxRecDepth 100000
set_option maxHeartbeats 16000000 in
theorem getA22_sound : zaq Try.prog 23 zcx := by
 refine zcj (S := zek) (SO := noO) (T := ty) zas ty_ok SgetA22_ok noO_ok Try.func23 (c := Try.f23.body.getD .skip) (by kernel_rfl) (fun xs pins hp _ => ?_)
 have hx : ∃ b f,xs = [.sb b f] ∧ pins = [] ∧ b.length ≤ 1000000 := by
   unfold zcx at hp
   split at hp
   · rename_i b f _
     exact ⟨b,f,rfl,rfl,hp⟩
   · exact hp.elim
 obtain ⟨b,f,rfl,rfl,hb⟩ := hx
 clear hp
 refine ⟨by simp,getAPl,by kernel_rfl,?_⟩
 obtain ⟨K,hK⟩ : ∃ x,kq b = x := ⟨_,rfl⟩
 obtain ⟨L0,E0,q0⟩ : ∃ x y,sq0 b = (x,y) := ⟨_,_,rfl⟩
 obtain ⟨L1,E1,q1⟩ : ∃ x y,h1A b = (x,y) := ⟨_,_,rfl⟩
 obtain ⟨L2,E2,q2⟩ : ∃ x y,h2A b = (x,y) := ⟨_,_,rfl⟩
 obtain ⟨L3,E3,q3⟩ : ∃ x y,h3A b = (x,y) := ⟨_,_,rfl⟩
 obtain ⟨L4,E4,q4⟩ : ∃ x y,h4A b = (x,y) := ⟨_,_,rfl⟩
 obtain ⟨L5,E5,q5⟩ : ∃ x y,h5A b = (x,y) := ⟨_,_,rfl⟩
 obtain ⟨L6,E6,q6⟩ : ∃ x y,b0A b = (x,y) := ⟨_,_,rfl⟩
 have a0 : zfj 1 b 0 = L0 := congrArg Prod.fst q0
 have z0 : rfixE 1 b 0 = E0 := congrArg Prod.snd q0
 have hK' : zdz 1 b 0 % 256 = K := hK
 have p1 : stN (L0,E0) = (L1,E1) := by rw [← q0]; exact q1
 have a1 : numL L0 E0 = L1 := congrArg Prod.fst p1
 have z1 : numE L0 E0 = E1 := congrArg Prod.snd p1
 have p2 : stN (L1,E1) = (L2,E2) := by rw [← q1]; exact q2
 have a2 : numL L1 E1 = L2 := congrArg Prod.fst p2
 have z2 : numE L1 E1 = E2 := congrArg Prod.snd p2
 have p3 : stN (L2,E2) = (L3,E3) := by rw [← q2]; exact q3
 have a3 : numL L2 E2 = L3 := congrArg Prod.fst p3
 have z3 : numE L2 E2 = E3 := congrArg Prod.snd p3
 have p4 : stN (L3,E3) = (L4,E4) := by rw [← q3]; exact q4
 have a4 : numL L3 E3 = L4 := congrArg Prod.fst p4
 have z4 : numE L3 E3 = E4 := congrArg Prod.snd p4
 have p5 : stX (L4,E4) = (L5,E5) := by rw [← q4]; exact q5
 have a5 : zfj 1 L4 E4 = L5 := congrArg Prod.fst p5
 have z5 : rfixE 1 L4 E4 = E5 := congrArg Prod.snd p5
 have p6 : stN (L5,E5) = (L6,E6) := by rw [← q5]; exact q6
 have a6 : numL L5 E5 = L6 := congrArg Prod.fst p6
 have z6 : numE L5 E5 = E6 := congrArg Prod.snd p6
 have l0 : L0.length ≤ 1000000 := by have := zbp 1 b 0; rw [a0] at this; omega
 have l1 : L1.length ≤ 1000000 := by have := zan L0 E0; rw [a1] at this; omega
 have l2 : L2.length ≤ 1000000 := by have := zan L1 E1; rw [a2] at this; omega
 have l3 : L3.length ≤ 1000000 := by have := zan L2 E2; rw [a3] at this; omega
 have l4 : L4.length ≤ 1000000 := by have := zan L3 E3; rw [a4] at this; omega
 have l5 : L5.length ≤ 1000000 := by have := zbp 1 L4 E4; rw [a5] at this; omega
 have l6 : L6.length ≤ 1000000 := by have := zan L5 E5; rw [a6] at this; omega
 obtain ⟨er,v1⟩ : ∃ x,numN L0 E0 = x := ⟨_,rfl⟩
 obtain ⟨o,v2⟩ : ∃ x,numN L1 E1 = x := ⟨_,rfl⟩
 obtain ⟨x,v3⟩ : ∃ x,numN L2 E2 = x := ⟨_,rfl⟩
 obtain ⟨g,v4⟩ : ∃ x,numN L3 E3 = x := ⟨_,rfl⟩
 obtain ⟨d,v5⟩ : ∃ x,decide (zdz 1 L4 E4 = 1) = x := ⟨_,rfl⟩
 obtain ⟨nb,hnb⟩ : ∃ n : Nat,bnA c64 8192 b = n := ⟨_,rfl⟩
 have v6 : min (max (numN L5 E5) 0) 64 = (nb : Int) := by
   have h := hnb
   unfold bnA c64 vP at h
   rw [q5] at h
   simp only at h
   omega
 have nb64 : nb ≤ 64 := by omega
 have hBl : ∀ i,(itS (stT 8192) (L6,E6) i).1.length ≤ 1000000 := fun i => Nat.le_trans (itS_len _ (fun s => zdi 8192 s.1 s.2) _ i) l6
 have tk : ∀ l : List UInt8,List.take l.length l = l := fun l => List.take_length
 unfold Try.f23
 simp only [go_sem,zab,Nat.reduceAdd,Nat.reduceSub,Nat.reduceMul,Int.reduceToNat,reduceCtorEq,↓reduceIte,Int.reducePow,Nat.reducePow,Int.reduceMod,Nat.reduceLeDiff,Int.reduceLE,Int.reduceNe,Int.reduceEq,Nat.reduceEqDiff,Nat.reduceLT,Nat.reduceBEq,List.map_cons,List.map_nil,List.toList_toArray,Array.toList_append,Option.toArray_some,Option.toArray_none,Bool.and_self,ty,zek,getAPl,newS,zff,numS,manyS22,rd,hb,a0,z0,hK',a1,z1,a2,z2,a3,z3,a4,z4,a5,z5,a6,z6,l0,l1,l2,l3,l4,l5,l6,v1,v2,v3,v4,v5,v6,Int.reduceLT,Int.reduceLE,fillS]
 refine zdl ⟨fun m σ => ∃ (i : Nat) (L : List UInt8) (E : Int) (BL : List Bat),m = nb - i ∧ i ≤ nb ∧ itS (stT 8192) (L6,E6) i = (L,E) ∧ itL (vB 8192) (stT 8192) (L6,E6) i = BL ∧
   σ = ⟨[.sb b f,.junk,.rf 4 9 0 0,.w (.int .i64 0),.rf 5 2 0 0,.rf 6 9 0 0,.junk,.junk,.junk,.junk,.junk,.junk,.junk,.junk,.junk,.junk,.junk,.junk,.junk,.junk,.junk,.junk,.junk,.junk,.junk,.junk,.junk,.junk,.junk,.junk,.junk,.junk,.junk,.w (.int .i64 nb),.w (.int .i64 i),.junk,.junk,.junk,.junk,.junk,.junk,.junk,.junk,.junk,.junk,.junk,.junk,.junk,.junk,.junk,.junk,.junk,.junk,.junk,.junk,.junk,.junk,.junk,.junk,.junk,.junk,.junk,.junk,.junk,.junk,.junk,.junk,.junk,.junk,.junk,.junk,.junk,.junk,.junk,.junk,.junk,.junk,.junk,.junk,.junk,.junk,.junk,.junk,.junk,.junk,.junk,.junk,.junk,.junk,.junk,.junk,.junk,.junk,.junk],[(4,.g 9 [(.agg [.w (.int .u8 0),.w (.int .i64 0),.w (.int .i64 0),.w (.int .i64 0),.w (.bool false),.w (.int .i64 0),.sg 6 [] true,.si [] true,.sg 1 [] true])]),(5,rd L false E),(6,.g 9 [(.agg [.w (.int .u8 K),.w (.int .i64 er),.w (.int .i64 o),.w (.int .i64 x),.w (.bool d),.w (.int .i64 g),.ms 7 6 0 i,.si [] true,.sg 1 [] true])]),(7,.g 6 (BL.map bq22))],8⟩,?_,?_⟩
 · refine ⟨_,_,(weak_nilC 76 9 6 6 _ (.g 6 []) rfl ⟨by decide,rfl⟩ (by exact trivial)).trans (zad [0,1,2,3,4,28,76,284] rfl rfl rfl ?_ ?_),0,L6,E6,[],rfl,by omega,rfl,rfl,rfl⟩
   · simp only [ssT,zae,zaf,setSlot,gOf,AV.ren,renL,Blk.ren,Ax.look,Ax.put,reduceCtorEq,↓reduceIte,Nat.reduceEqDiff,Nat.reduceLT,Nat.reduceAdd,List.length_append,List.length_cons,List.length_nil,Option.some.injEq,setSlot,put]; try simp
   · simp only [ssT,zae,zaf,setSlot,gOf,AV.ren,renL,Blk.ren,Ax.look,Ax.put,reduceCtorEq,↓reduceIte,Nat.reduceEqDiff,Nat.reduceLT,Nat.reduceAdd,List.length_append,List.length_cons,List.length_nil,Option.some.injEq,setSlot,put,rd]; try simp [renL]
 · rintro m σ ⟨i,L,E,BL,rfl,hi,hq,hBL,rfl⟩
   have hLl : L.length ≤ 1000000 := by have := hBl i; rw [hq] at this; exact this
   have hbl : (BL.map bq22).length = i := by rw [List.length_map,← hBL,itL_len]
   by_cases hil : i < nb
   · have d1 : decide ((i : Int) < (nb : Int)) = true := decide_eq_true (by omega)
     have ei : ((i : Int) + 1 + 9223372036854775808) % 18446744073709551616 - 9223372036854775808 = ((i + 1 : Nat) : Int) := by omega
     obtain ⟨S,hS⟩ : ∃ x,rtS' 8192 L E = x := ⟨_,rfl⟩
     obtain ⟨L',hL'⟩ : ∃ x,rtL 8192 L E = x := ⟨_,rfl⟩
     obtain ⟨E',hE'⟩ : ∃ x,rtE 8192 L E = x := ⟨_,rfl⟩
     have hSl : S.length ≤ 1000000 := by have := tkS_len22 8192 L E; rw [hS] at this; omega
     have hqn : itS (stT 8192) (L6,E6) (i + 1) = (L',E') := by unfold itS; rw [hq]; unfold stT; simp only [hL',hE']
     have hbn : itL (vB 8192) (stT 8192) (L6,E6) (i + 1) = BL ++ [zbf S] := by unfold itL; rw [hq,hBL]; unfold vB; simp only [hS]
     obtain ⟨G,hG⟩ : ∃ x,zcm S = x := ⟨_,rfl⟩
     obtain ⟨B,hB⟩ : ∃ x,zbf S = x := ⟨_,rfl⟩
     rw [hB] at hbn
     obtain ⟨bb,c,p,e,s,rs⟩ := B
     have hcl := closed_bq (BL ++ [⟨bb,c,p,e,s,rs⟩])
     rw [List.map_append] at hcl
     have hcl2 : closedL (List.map bq22 BL ++ [.agg [.w (.int .i64 bb),.w (.int .i64 c),.w (.int .i64 p),.w (.int .i64 e),.w (.int .i64 s),.sg 6 (rs.map rv) (emp rs)]]) = true := hcl
     simp only [go_sem,zab,Nat.reduceAdd,Nat.reduceSub,Nat.reduceMul,Int.reduceToNat,reduceCtorEq,↓reduceIte,Int.reducePow,Nat.reducePow,Int.reduceMod,Nat.reduceLeDiff,Int.reduceLE,Int.reduceNe,Int.reduceEq,Nat.reduceEqDiff,Nat.reduceLT,Nat.reduceBEq,List.map_cons,List.map_nil,List.toList_toArray,Array.toList_append,Option.toArray_some,Option.toArray_none,Bool.and_self,ty,zek,getAPl,zbs,bgetS,rd,hLl,hS,hL',hE',hSl,hG,hB,bav,tk,d1,ei,hbl,closed_bq,zbz,hcl2,fillS]
     repeat (refine And.intro (by first | omega | (unfold top; omega) | decide) ?_)
     refine ⟨nb - (i + 1),_,by omega,zad [0,1,2,3,4,5,6,128] rfl rfl rfl ?_ ?_,i + 1,L',E',BL ++ [⟨bb,c,p,e,s,rs⟩],rfl,by omega,hqn,hbn,rfl⟩
     · simp only [ssT,zae,zaf,setSlot,gOf,AV.ren,renL,Blk.ren,Ax.look,Ax.put,reduceCtorEq,↓reduceIte,Nat.reduceEqDiff,Nat.reduceLT,Nat.reduceAdd,List.length_append,List.length_cons,List.length_nil,Option.some.injEq]; try simp
     · simp only [ssT,zae,zaf,setSlot,gOf,AV.ren,renL,Blk.ren,Ax.look,Ax.put,reduceCtorEq,↓reduceIte,Nat.reduceEqDiff,Nat.reduceLT,Nat.reduceAdd,List.length_append,List.length_cons,List.length_nil,Option.some.injEq,ren_bq]; try simp [bq22,bav,rd]
   · obtain rfl : i = nb := by omega
     have d1 : decide ((i : Int) < (i : Int)) = false := decide_eq_false (by omega)
     simp only [go_sem,zab,Nat.reduceAdd,Nat.reduceSub,Nat.reduceMul,Int.reduceToNat,reduceCtorEq,↓reduceIte,Int.reducePow,Nat.reducePow,Int.reduceMod,Nat.reduceLeDiff,Int.reduceLE,Int.reduceNe,Int.reduceEq,Nat.reduceEqDiff,Nat.reduceLT,Nat.reduceBEq,List.map_cons,List.map_nil,List.toList_toArray,Array.toList_append,Option.toArray_some,Option.toArray_none,Bool.and_self,ty,zek,getAPl,d1]
     refine ⟨_,weak_fgB 7 6 5 6 (BL.map bq22) _ rfl (closed_bq _) rfl (by simp [slot,AV.ids]) (by simp [Blk.idsB,Blk.closed,closedL,AV.closed,idsL,AV.ids]),?_⟩
     have hdle : decide (0 + i ≤ (BL.map bq22).length) = true := decide_eq_true (by omega)
     have htk : (BL.map bq22).take i = BL.map bq22 := List.take_of_length_le (by omega)
     have qb1 : b1A c64 8192 b = (L,E) := by unfold b1A; rw [hnb,q6]; exact hq
     obtain ⟨L8,E8,q8⟩ : ∃ x y,p0A c64 8192 b = (x,y) := ⟨_,_,rfl⟩
     have p8 : stN (L,E) = (L8,E8) := by rw [← qb1]; exact q8
     have a8 : numL L E = L8 := congrArg Prod.fst p8
     have z8 : numE L E = E8 := congrArg Prod.snd p8
     have l8 : L8.length ≤ 1000000 := by have := zan L E; rw [a8] at this; omega
     obtain ⟨np,hnp⟩ : ∃ n : Nat,pnA c64 8192 b = n := ⟨_,rfl⟩
     have v8 : min (max (numN L E) 0) 64 = (np : Int) := by
       have h : c64 stN (p0A c64 8192 b) (vP (b1A c64 8192 b)) = np := hnp
       rw [qb1] at h
       unfold c64 vP at h
       simp only at h
       omega
     have np64 : np ≤ 64 := by omega
     have hPl : ∀ i,(itS stN (L8,E8) i).1.length ≤ 1000000 := fun i => Nat.le_trans (itS_len _ (fun s => zan s.1 s.2) _ i) l8
     simp only [fgL,fgH,AV.fg,Blk.fg,rd,Nat.reduceBEq,cond_true,cond_false,hdle,Bool.and_true,beq_self_eq_true,Bool.true_and,List.drop_zero,htk]
     simp only [go_sem,zab,Nat.reduceAdd,Nat.reduceSub,Nat.reduceMul,Int.reduceToNat,reduceCtorEq,↓reduceIte,Int.reducePow,Nat.reducePow,Int.reduceMod,Nat.reduceLeDiff,Int.reduceLE,Int.reduceNe,Int.reduceEq,Nat.reduceEqDiff,Nat.reduceLT,Nat.reduceBEq,List.map_cons,List.map_nil,List.toList_toArray,Array.toList_append,Option.toArray_some,Option.toArray_none,Bool.and_self,ty,zek,getAPl,manyS22,rd,hLl,a8,z8,v8,fillS]
     refine zdl ⟨fun m σ => ∃ (j : Nat) (L : List UInt8) (E : Int) (PL : List Int),m = np - j ∧ j ≤ np ∧ itS stN (L8,E8) j = (L,E) ∧ itL vP stN (L8,E8) j = PL ∧
       σ = ⟨[.sb b f,.junk,.rf 4 9 0 0,.w (.int .i64 0),.rf 5 2 0 0,.rf 6 9 0 0,.junk,.junk,.junk,.junk,.junk,.junk,.junk,.junk,.junk,.junk,.junk,.junk,.junk,.junk,.junk,.junk,.junk,.junk,.junk,.junk,.junk,.junk,.junk,.junk,.junk,.junk,.junk,.junk,.junk,.junk,.junk,.junk,.junk,.junk,.junk,.junk,.junk,.junk,.junk,.junk,.junk,.junk,.junk,.junk,.junk,.w (.int .i64 np),.w (.int .i64 j),.junk,.junk,.junk,.junk,.junk,.junk,.junk,.junk,.junk,.junk,.junk,.junk,.junk,.junk,.junk,.junk,.junk,.junk,.junk,.junk,.junk,.junk,.junk,.junk,.junk,.junk,.junk,.junk,.junk,.junk,.junk,.junk,.junk,.junk,.junk,.junk,.junk,.junk,.junk,.junk,.junk],[(4,.g 9 [(.agg [.w (.int .u8 0),.w (.int .i64 0),.w (.int .i64 0),.w (.int .i64 0),.w (.bool false),.w (.int .i64 0),.sg 6 [] true,.si [] true,.sg 1 [] true])]),(5,rd L false E),(6,.g 9 [(.agg [.w (.int .u8 K),.w (.int .i64 er),.w (.int .i64 o),.w (.int .i64 x),.w (.bool d),.w (.int .i64 g),.sg 6 (BL.map bq22) false,.ms 7 1 0 j,.sg 1 [] true])]),(7,.i PL)],8⟩,?_,?_⟩
     · refine ⟨_,_,(weak_nilC 6 9 7 1 _ (.i []) rfl rfl (by exact trivial)).trans (zad [0,1,2,3,4,5,6,40] rfl rfl rfl ?_ ?_),0,L8,E8,[],rfl,by omega,rfl,rfl,rfl⟩
       · simp only [ssT,zae,zaf,setSlot,gOf,AV.ren,renL,Blk.ren,Ax.look,Ax.put,reduceCtorEq,↓reduceIte,Nat.reduceEqDiff,Nat.reduceLT,Nat.reduceAdd,List.length_append,List.length_cons,List.length_nil,Option.some.injEq,setSlot,put]; try simp
       · simp only [ssT,zae,zaf,setSlot,gOf,AV.ren,renL,Blk.ren,Ax.look,Ax.put,reduceCtorEq,↓reduceIte,Nat.reduceEqDiff,Nat.reduceLT,Nat.reduceAdd,List.length_append,List.length_cons,List.length_nil,Option.some.injEq,setSlot,put,rd,ren_bq]; try simp [renL]
     · rintro m σ ⟨j,L,E,PL,rfl,hj,hq,hPL,rfl⟩
       have hLl : L.length ≤ 1000000 := by have := hPl j; rw [hq] at this; exact this
       have hpl : PL.length = j := by rw [← hPL,itL_len]
       by_cases hjl : j < np
       · have d1 : decide ((j : Int) < (np : Int)) = true := decide_eq_true (by omega)
         have ei : ((j : Int) + 1 + 9223372036854775808) % 18446744073709551616 - 9223372036854775808 = ((j + 1 : Nat) : Int) := by omega
         obtain ⟨V,hV⟩ : ∃ x,numN L E = x := ⟨_,rfl⟩
         obtain ⟨L',hL'⟩ : ∃ x,numL L E = x := ⟨_,rfl⟩
         obtain ⟨E',hE'⟩ : ∃ x,numE L E = x := ⟨_,rfl⟩
         have hqn : itS stN (L8,E8) (j + 1) = (L',E') := by unfold itS; rw [hq]; unfold stN; simp only [hL',hE']
         have hbn : itL vP stN (L8,E8) (j + 1) = PL ++ [V] := by unfold itL; rw [hq,hPL]; unfold vP; simp only [hV]
         simp only [go_sem,zab,Nat.reduceAdd,Nat.reduceSub,Nat.reduceMul,Int.reduceToNat,reduceCtorEq,↓reduceIte,Int.reducePow,Nat.reducePow,Int.reduceMod,Nat.reduceLeDiff,Int.reduceLE,Int.reduceNe,Int.reduceEq,Nat.reduceEqDiff,Nat.reduceLT,Nat.reduceBEq,List.map_cons,List.map_nil,List.toList_toArray,Array.toList_append,Option.toArray_some,Option.toArray_none,Bool.and_self,ty,zek,getAPl,numS,rd,hLl,hV,hL',hE',d1,ei,hpl,fillS]
         repeat (refine And.intro (by first | omega | (unfold top; omega) | decide) ?_)
         refine ⟨np - (j + 1),_,by omega,zad [0,1,2,3,4,5,6,56] rfl rfl rfl ?_ ?_,j + 1,L',E',PL ++ [V],rfl,by omega,hqn,hbn,rfl⟩
         · simp only [ssT,zae,zaf,setSlot,gOf,AV.ren,renL,Blk.ren,Ax.look,Ax.put,reduceCtorEq,↓reduceIte,Nat.reduceEqDiff,Nat.reduceLT,Nat.reduceAdd,List.length_append,List.length_cons,List.length_nil,Option.some.injEq]; try simp
         · simp only [ssT,zae,zaf,setSlot,gOf,AV.ren,renL,Blk.ren,Ax.look,Ax.put,reduceCtorEq,↓reduceIte,Nat.reduceEqDiff,Nat.reduceLT,Nat.reduceAdd,List.length_append,List.length_cons,List.length_nil,Option.some.injEq,ren_bq]; try simp [rd,renL]
       · obtain rfl : j = np := by omega
         have d1 : decide ((j : Int) < (j : Int)) = false := decide_eq_false (by omega)
         simp only [go_sem,zab,Nat.reduceAdd,Nat.reduceSub,Nat.reduceMul,Int.reduceToNat,reduceCtorEq,↓reduceIte,Int.reducePow,Nat.reducePow,Int.reduceMod,Nat.reduceLeDiff,Int.reduceLE,Int.reduceNe,Int.reduceEq,Nat.reduceEqDiff,Nat.reduceLT,Nat.reduceBEq,List.map_cons,List.map_nil,List.toList_toArray,Array.toList_append,Option.toArray_some,Option.toArray_none,Bool.and_self,ty,zek,getAPl,d1]
         refine ⟨_,weak_fiB 7 5 6 PL _ rfl rfl (by simp [slot,AV.ids]) (by simp [Blk.idsB,Blk.closed,closedL,AV.closed,idsL,AV.ids]),?_⟩
         have hdle : decide (0 + j ≤ PL.length) = true := decide_eq_true (by omega)
         have htk : PL.take j = PL := List.take_of_length_le (by omega)
         have qp1 : p1A c64 8192 b = (L,E) := by unfold p1A; rw [hnp,q8]; exact hq
         obtain ⟨L9,E9,q9⟩ : ∃ x y,n0A c64 8192 b = (x,y) := ⟨_,_,rfl⟩
         have p9 : stN (L,E) = (L9,E9) := by rw [← qp1]; exact q9
         have a9 : numL L E = L9 := congrArg Prod.fst p9
         have z9 : numE L E = E9 := congrArg Prod.snd p9
         have l9 : L9.length ≤ 1000000 := by have := zan L E; rw [a9] at this; omega
         obtain ⟨nn,hnn⟩ : ∃ n : Nat,nnA c64 8192 b = n := ⟨_,rfl⟩
         have v9 : min (max (numN L E) 0) 64 = (nn : Int) := by
           have h : c64 (stT 255) (n0A c64 8192 b) (vP (p1A c64 8192 b)) = nn := hnn
           rw [qp1] at h
           unfold c64 vP at h
           simp only at h
           omega
         have nn64 : nn ≤ 64 := by omega
         have hNl : ∀ i,(itS (stT 255) (L9,E9) i).1.length ≤ 1000000 := fun i => Nat.le_trans (itS_len _ (fun s => zdi 255 s.1 s.2) _ i) l9
         simp only [fiL,fiH,AV.fi,Blk.fi,rd,Nat.reduceBEq,cond_true,cond_false,hdle,Bool.and_true,beq_self_eq_true,Bool.true_and,List.drop_zero,htk]
         simp only [go_sem,zab,Nat.reduceAdd,Nat.reduceSub,Nat.reduceMul,Int.reduceToNat,reduceCtorEq,↓reduceIte,Int.reducePow,Nat.reducePow,Int.reduceMod,Nat.reduceLeDiff,Int.reduceLE,Int.reduceNe,Int.reduceEq,Nat.reduceEqDiff,Nat.reduceLT,Nat.reduceBEq,List.map_cons,List.map_nil,List.toList_toArray,Array.toList_append,Option.toArray_some,Option.toArray_none,Bool.and_self,ty,zek,getAPl,manyS22,rd,hLl,a9,z9,v9,fillS]
         refine zdl ⟨fun m σ => ∃ (u : Nat) (L : List UInt8) (E : Int) (NL : List (List UInt8)),m = nn - u ∧ u ≤ nn ∧ itS (stT 255) (L9,E9) u = (L,E) ∧ itL vN (stT 255) (L9,E9) u = NL ∧
           σ = ⟨[.sb b f,.junk,.rf 4 9 0 0,.w (.int .i64 0),.rf 5 2 0 0,.rf 6 9 0 0,.junk,.junk,.junk,.junk,.junk,.junk,.junk,.junk,.junk,.junk,.junk,.junk,.junk,.junk,.junk,.junk,.junk,.junk,.junk,.junk,.junk,.junk,.junk,.junk,.junk,.junk,.junk,.junk,.junk,.junk,.junk,.junk,.junk,.junk,.junk,.junk,.junk,.junk,.junk,.junk,.junk,.junk,.junk,.junk,.junk,.junk,.junk,.junk,.junk,.junk,.junk,.junk,.junk,.junk,.junk,.junk,.junk,.w (.int .i64 nn),.w (.int .i64 u),.junk,.junk,.junk,.junk,.junk,.junk,.junk,.junk,.junk,.junk,.junk,.junk,.junk,.junk,.junk,.junk,.junk,.junk,.junk,.junk,.junk,.junk,.junk,.junk,.junk,.junk,.junk,.junk,.junk],[(4,.g 9 [(.agg [.w (.int .u8 0),.w (.int .i64 0),.w (.int .i64 0),.w (.int .i64 0),.w (.bool false),.w (.int .i64 0),.sg 6 [] true,.si [] true,.sg 1 [] true])]),(5,rd L false E),(6,.g 9 [(.agg [.w (.int .u8 K),.w (.int .i64 er),.w (.int .i64 o),.w (.int .i64 x),.w (.bool d),.w (.int .i64 g),.sg 6 (BL.map bq22) false,.si PL false,.ms 7 1 0 u])]),(7,.g 1 (NL.map AV.str))],8⟩,?_,?_⟩
         · refine ⟨_,_,(weak_nilC 6 9 8 1 _ (.g 1 []) rfl ⟨by decide,rfl⟩ (by exact trivial)).trans (zad [0,1,2,3,4,5,6,40] rfl rfl rfl ?_ ?_),0,L9,E9,[],rfl,by omega,rfl,rfl,rfl⟩
           · simp only [ssT,zae,zaf,setSlot,gOf,AV.ren,renL,Blk.ren,Ax.look,Ax.put,reduceCtorEq,↓reduceIte,Nat.reduceEqDiff,Nat.reduceLT,Nat.reduceAdd,List.length_append,List.length_cons,List.length_nil,Option.some.injEq,setSlot,put]; try simp
           · simp only [ssT,zae,zaf,setSlot,gOf,AV.ren,renL,Blk.ren,Ax.look,Ax.put,reduceCtorEq,↓reduceIte,Nat.reduceEqDiff,Nat.reduceLT,Nat.reduceAdd,List.length_append,List.length_cons,List.length_nil,Option.some.injEq,setSlot,put,rd,ren_bq]; try simp [renL]
         · rintro m σ ⟨u,L,E,NL,rfl,hu,hq,hNL,rfl⟩
           have hLl : L.length ≤ 1000000 := by have := hNl u; rw [hq] at this; exact this
           have hnl : (NL.map AV.str).length = u := by rw [List.length_map,← hNL,itL_len]
           by_cases hul : u < nn
           · have d1 : decide ((u : Int) < (nn : Int)) = true := decide_eq_true (by omega)
             have ei : ((u : Int) + 1 + 9223372036854775808) % 18446744073709551616 - 9223372036854775808 = ((u + 1 : Nat) : Int) := by omega
             obtain ⟨V,hV⟩ : ∃ x,rtS' 255 L E = x := ⟨_,rfl⟩
             obtain ⟨L',hL'⟩ : ∃ x,rtL 255 L E = x := ⟨_,rfl⟩
             obtain ⟨E',hE'⟩ : ∃ x,rtE 255 L E = x := ⟨_,rfl⟩
             have hqn : itS (stT 255) (L9,E9) (u + 1) = (L',E') := by unfold itS; rw [hq]; unfold stT; simp only [hL',hE']
             have hbn : itL vN (stT 255) (L9,E9) (u + 1) = NL ++ [V] := by unfold itL; rw [hq,hNL]; unfold vN; simp only [hV]
             have hcl := zdf (NL ++ [V])
             rw [List.map_append] at hcl
             have hcl2 : closedL (List.map AV.str NL ++ [AV.str V]) = true := hcl
             have hid := ids_str22 (NL ++ [V])
             rw [List.map_append] at hid
             have hid2 : idsL (List.map AV.str NL ++ [AV.str V]) = [] := hid
             simp only [go_sem,zab,Nat.reduceAdd,Nat.reduceSub,Nat.reduceMul,Int.reduceToNat,reduceCtorEq,↓reduceIte,Int.reducePow,Nat.reducePow,Int.reduceMod,Nat.reduceLeDiff,Int.reduceLE,Int.reduceNe,Int.reduceEq,Nat.reduceEqDiff,Nat.reduceLT,Nat.reduceBEq,List.map_cons,List.map_nil,List.toList_toArray,Array.toList_append,Option.toArray_some,Option.toArray_none,Bool.and_self,ty,zek,getAPl,zbs,rd,hLl,hV,hL',hE',d1,ei,hnl,zdf,ids_str22,List.elem_nil,List.all_nil,hid2,hcl2,fillS]
             repeat (refine And.intro (by first | omega | (unfold top; omega) | decide) ?_)
             refine ⟨nn - (u + 1),_,by omega,zad [0,1,2,3,4,5,6,56] rfl rfl rfl ?_ ?_,u + 1,L',E',NL ++ [V],rfl,by omega,hqn,hbn,rfl⟩
             · simp only [ssT,zae,zaf,setSlot,gOf,AV.ren,renL,Blk.ren,Ax.look,Ax.put,reduceCtorEq,↓reduceIte,Nat.reduceEqDiff,Nat.reduceLT,Nat.reduceAdd,List.length_append,List.length_cons,List.length_nil,Option.some.injEq]; try simp
             · simp only [ssT,zae,zaf,setSlot,gOf,AV.ren,renL,Blk.ren,Ax.look,Ax.put,reduceCtorEq,↓reduceIte,Nat.reduceEqDiff,Nat.reduceLT,Nat.reduceAdd,List.length_append,List.length_cons,List.length_nil,Option.some.injEq,ren_bq,ren_str22]; try simp [rd,renL]
           · obtain rfl : u = nn := by omega
             have d1 : decide ((u : Int) < (u : Int)) = false := decide_eq_false (by omega)
             simp only [go_sem,zab,Nat.reduceAdd,Nat.reduceSub,Nat.reduceMul,Int.reduceToNat,reduceCtorEq,↓reduceIte,Int.reducePow,Nat.reducePow,Int.reduceMod,Nat.reduceLeDiff,Int.reduceLE,Int.reduceNe,Int.reduceEq,Nat.reduceEqDiff,Nat.reduceLT,Nat.reduceBEq,List.map_cons,List.map_nil,List.toList_toArray,Array.toList_append,Option.toArray_some,Option.toArray_none,Bool.and_self,ty,zek,getAPl,d1]
             refine ⟨_,weak_fgB 7 1 5 6 (NL.map AV.str) _ rfl (zdf _) rfl (by simp [slot,AV.ids]) (by simp [Blk.idsB,Blk.closed,closedL,AV.closed,idsL,AV.ids]),?_⟩
             have hdle : decide (0 + u ≤ (NL.map AV.str).length) = true := decide_eq_true (by omega)
             have htk : (NL.map AV.str).take u = NL.map AV.str := List.take_of_length_le (by omega)
             have qn1 : n1A c64 8192 b = (L,E) := by unfold n1A; rw [hnn,q9]; exact hq
             have hM : rdA c64 8192 b = ⟨K,er,o,x,d,g,BL,PL,NL⟩ := by
               unfold rdA
               rw [hK,q0,q1,q2,q3,q4,q6,q8,q9,hnb,hnp,hnn,hBL,hPL,hNL]
               unfold vP vX
               simp only [v1,v2,v3,v4,v5]
             obtain ⟨D,hD⟩ : ∃ x,(if E = 0 ∧ 0 < L.length then (4 : Int) else E) = x := ⟨_,rfl⟩
             obtain ⟨C,hC⟩ : ∃ y,errR ⟨K,er,o,x,d,g,BL,PL,NL⟩ = y := ⟨_,rfl⟩
             obtain ⟨W,hW⟩ : ∃ y,putA K er o x d g BL PL NL = y := ⟨_,rfl⟩
             have hcase := gA_cases b hM qn1 hD hC hW
             have hC' : errA K BL PL NL = C := hC
             have hfit := rdA_fit c64 8192 b
             rw [hM] at hfit
             obtain ⟨hk,f1,f2,f3,f4,f5⟩ := hfit
             simp only at hk f1 f2 f3 f4 f5
             have hVok : okA c64 8192 b → gaR b = .tup [(.agg [.w (.int .u8 K),.w (.int .i64 er),.w (.int .i64 o),.w (.int .i64 x),.w (.bool d),.w (.int .i64 g),.sg 6 (BL.map bq22) false,.si PL false,.sg 1 (NL.map AV.str) false]),.w (.int .i64 0)] := by
               intro h; unfold gaR; rw [if_pos h,hM]; rfl
             have hVno : ¬ okA c64 8192 b → gaR b = .tup [(.agg [.w (.int .u8 0),.w (.int .i64 0),.w (.int .i64 0),.w (.int .i64 0),.w (.bool false),.w (.int .i64 0),.sg 6 [] true,.si [] true,.sg 1 [] true]),.w (.int .i64 4)] := fun h => if_neg h
             have hub := bq_ubat BL
             have hus := zbj NL
             have g1 : (BL.map bq22).length ≤ 1000000 := by omega
             have g2 : PL.length ≤ 1000000 := by omega
             have g3 : (NL.map AV.str).length ≤ 1000000 := by omega
             have hall : ∀ x ∈ BL,x.rs.length ≤ 40 := by
               intro y hy
               have := itL_all (fun y : Bat => y.rs.length ≤ 40) (vB 8192) (stT 8192) (L6,E6) (fun s => Nat.le_trans (bget0_recs _) (by decide)) i
               rw [hBL] at this
               exact this y hy
             have hx1 : ∃ l : List (Bat × Bool),BL.map bq22 = l.map bvp ∧ ∀ p ∈ l,p.1.rs.length ≤ 40 := by
               refine ⟨BL.map fun x => (x,emp x.rs),bq_map BL,?_⟩
               intro p hp
               obtain ⟨y,hy,rfl⟩ := List.mem_map.1 hp
               exact hall y hy
             have hx2 : ∃ ks : List (List UInt8),NL.map AV.str = ks.map AV.str := ⟨NL,rfl⟩
             have hcq : coe ty 38 (.sg 6 (BL.map bq22) false) = .sg 6 (BL.map bq22) false := by cases BL <;> rfl
             have hcz : coe ty 40 (.sg 1 (NL.map AV.str) false) = .sg 1 (NL.map AV.str) false := zdk NL false
             simp only [fgL,fgH,AV.fg,Blk.fg,rd,Nat.reduceBEq,cond_true,cond_false,hdle,Bool.and_true,beq_self_eq_true,Bool.true_and,List.drop_zero,htk]
             generalize BL.map bq22 = XB at hub g1 hx1 hcq hVok ⊢
             generalize NL.map AV.str = XN at hus g3 hx2 hcz hVok ⊢
             rcases hcase with X | X | X | X
             · have hv := hVok X.1
               simp only [go_sem,zab,Nat.reduceAdd,Nat.reduceSub,Nat.reduceMul,Int.reduceToNat,reduceCtorEq,↓reduceIte,Int.reducePow,Nat.reducePow,Int.reduceMod,Nat.reduceLeDiff,Int.reduceLE,Int.reduceNe,Int.reduceEq,Nat.reduceEqDiff,Nat.reduceLT,Nat.reduceBEq,List.map_cons,List.map_nil,List.toList_toArray,Array.toList_append,Option.toArray_some,Option.toArray_none,Bool.and_self,ty,zek,getAPl,zew,putAS,eqB22,zcx,rd,hk,f1,f2,f3,f4,f5,g1,g2,g3,hx1,hx2,hub,hus,hcq,hcz,hC',hW,hD,tk,X.2,hv,fillS]
               repeat (refine And.intro (by first | omega | decide) ?_)
               refine ⟨_,Weak.refl _,?_⟩
               simp only [go_sem,zab,Nat.reduceAdd,Nat.reduceSub,Nat.reduceMul,Int.reduceToNat,reduceCtorEq,↓reduceIte,Int.reducePow,Nat.reducePow,Int.reduceMod,Nat.reduceLeDiff,Int.reduceLE,Int.reduceNe,Int.reduceEq,Nat.reduceEqDiff,Nat.reduceLT,Nat.reduceBEq,List.map_cons,List.map_nil,List.toList_toArray,Array.toList_append,Option.toArray_some,Option.toArray_none,Bool.and_self,ty,zcx,hv]
             all_goals
               have hv := hVno X.1
               simp only [go_sem,zab,Nat.reduceAdd,Nat.reduceSub,Nat.reduceMul,Int.reduceToNat,reduceCtorEq,↓reduceIte,Int.reducePow,Nat.reducePow,Int.reduceMod,Nat.reduceLeDiff,Int.reduceLE,Int.reduceNe,Int.reduceEq,Nat.reduceEqDiff,Nat.reduceLT,Nat.reduceBEq,List.map_cons,List.map_nil,List.toList_toArray,Array.toList_append,Option.toArray_some,Option.toArray_none,Bool.and_self,ty,zek,getAPl,zew,putAS,eqB22,zcx,rd,hk,f1,f2,f3,f4,f5,g1,g2,g3,hx1,hx2,hub,hus,hcq,hcz,hC',hW,hD,tk,X.2,hv,fillS]
               repeat (refine And.intro (by first | omega | decide) ?_)
               refine ⟨_,Weak.refl _,?_⟩
               simp only [go_sem,zab,Nat.reduceAdd,Nat.reduceSub,Nat.reduceMul,Int.reduceToNat,reduceCtorEq,↓reduceIte,Int.reducePow,Nat.reducePow,Int.reduceMod,Nat.reduceLeDiff,Int.reduceLE,Int.reduceNe,Int.reduceEq,Nat.reduceEqDiff,Nat.reduceLT,Nat.reduceBEq,List.map_cons,List.map_nil,List.toList_toArray,Array.toList_append,Option.toArray_some,Option.toArray_none,Bool.and_self,ty,zcx,hv]
end
end Go.Proofs.Ytmedjkjoannbmaa
namespace Go.Proofs.Ytmedjkjoannbmaa
open Ax
def eqI22S : zai
 | [.si xs f,.si ys g],[] => ⟨xs.length ≤ 1000000 ∧ ys.length ≤ 1000000,.w (.bool (decide (xs = ys))),[]⟩
 | _,_ => zba
section
set_option maxRecDepth 100000
set_option maxHeartbeats 1000000 in
theorem eqI22_sound : zaq Try.prog 42 eqI22S := by
 refine zak (S := noS) (T := ty) zas ty_ok zby Try.func42 (c := Try.f42.body.getD .skip) (by kernel_rfl) (by kernel_rfl) (fun xs pins hp _ => ?_)
 unfold eqI22S at hp ⊢
 split at hp
 · rename_i es f gs g _
   obtain ⟨hL1,hL2⟩ := hp
   refine ⟨by simp,?_⟩
   unfold Try.f42
   by_cases hl : es.length = gs.length
   · have d0 : decide ((es.length : Int) = gs.length) = true := decide_eq_true (by omega)
     have hk : es = gs ↔ ∀ j (h : j < es.length) (h' : j < gs.length),es[j] = gs[j] := ⟨fun h => by subst h; intros; rfl,fun h => List.ext_getElem hl h⟩
     simp only [go_sem,zaa,Nat.reduceAdd,Nat.reduceSub,Nat.reduceMul,Int.reduceToNat,reduceCtorEq,↓reduceIte,Int.reducePow,Nat.reducePow,Int.reduceMod,Nat.reduceLeDiff,Int.reduceLE,Int.reduceNe,Int.reduceEq,Nat.reduceEqDiff,Nat.reduceLT,Nat.reduceBEq,ty,noS,d0]
     refine zbr ⟨fun m σ => ∃ i : Nat,m = es.length - i ∧ i ≤ es.length ∧ (∀ j (h : j < es.length) (h' : j < gs.length),j < i → es[j] = gs[j]) ∧
         σ = ⟨[.si es f,.si gs g,.junk,.junk,.junk,.junk,.junk,.junk,.junk,.junk,.junk,.junk,.w (.int .i64 es.length),.w (.int .i64 i),.junk,.junk,.junk,.junk,.junk,.junk,.junk,.junk,.junk,.junk,.junk,.junk],[],4⟩,?_,?_⟩
     · refine ⟨_,_,zad [0,1,2,3] rfl rfl rfl ?_ ?_,0,rfl,by omega,by intro j _ _ h; omega,rfl⟩
       · simp only [ssT,zae,zaf,setSlot,gOf,AV.ren,renL,Blk.ren,Ax.look,Ax.put,reduceCtorEq,↓reduceIte,Nat.reduceEqDiff,Nat.reduceLT,Nat.reduceAdd,List.length_append,List.length_cons,List.length_nil,Option.some.injEq]; simp
       · simp only [ssT,zae,zaf,setSlot,gOf,AV.ren,renL,Blk.ren,Ax.look,Ax.put,reduceCtorEq,↓reduceIte,Nat.reduceEqDiff,Nat.reduceLT,Nat.reduceAdd,List.length_append,List.length_cons,List.length_nil,Option.some.injEq]
     · rintro m σ ⟨i,rfl,hi,hall,rfl⟩
       by_cases hil : i < es.length
       · have d1 : decide ((i : Int) < es.length) = true := decide_eq_true (by omega)
         have e1 : ((i : Int) + 1 + 9223372036854775808) % 18446744073709551616 - 9223372036854775808 = ((i + 1 : Nat) : Int) := by omega
         have hiq : i < gs.length := by omega
         have hs1 : es.getD i 0 = es[i] := by rw [List.getD_eq_getElem?_getD,List.getElem?_eq_getElem hil]; rfl
         have hs2 : gs.getD i 0 = gs[i] := by rw [List.getD_eq_getElem?_getD,List.getElem?_eq_getElem hiq]; rfl
         obtain ⟨P,hP⟩ : ∃ P,es[i] = P := ⟨_,rfl⟩
         obtain ⟨Q,hQ⟩ : ∃ Q,gs[i] = Q := ⟨_,rfl⟩
         rw [hP] at hs1
         rw [hQ] at hs2
         by_cases ha : P = Q
         · have da : decide (P = Q) = true := decide_eq_true ha
           simp only [go_sem,zaa,Nat.reduceAdd,Nat.reduceSub,Nat.reduceMul,Int.reduceToNat,reduceCtorEq,↓reduceIte,Int.reducePow,Nat.reducePow,Int.reduceMod,Nat.reduceLeDiff,Int.reduceLE,Int.reduceNe,Int.reduceEq,Nat.reduceEqDiff,Nat.reduceLT,Nat.reduceBEq,ty,noS,d1,hs1,hs2,e1,da,Int.toNat_natCast]
           repeat (refine And.intro (by omega) ?_)
           refine ⟨es.length - (i + 1),_,by omega,zad [0,1,2,3] rfl rfl rfl ?_ ?_,i + 1,rfl,by omega,?_,rfl⟩
           · simp only [ssT,zae,zaf,setSlot,gOf,AV.ren,renL,Blk.ren,Ax.look,Ax.put,reduceCtorEq,↓reduceIte,Nat.reduceEqDiff,Nat.reduceLT,Nat.reduceAdd,List.length_append,List.length_cons,List.length_nil,Option.some.injEq]
           · simp only [ssT,zae,zaf,setSlot,gOf,AV.ren,renL,Blk.ren,Ax.look,Ax.put,reduceCtorEq,↓reduceIte,Nat.reduceEqDiff,Nat.reduceLT,Nat.reduceAdd,List.length_append,List.length_cons,List.length_nil,Option.some.injEq]
           · intro j h h' hj
             rcases Nat.lt_or_ge j i with h2 | h2
             · exact hall j h h' h2
             · have : j = i := by omega
               subst this
               rw [hP,hQ]; exact ha
         · have da : decide (P = Q) = false := decide_eq_false ha
           have dr : decide (es = gs) = false := decide_eq_false (fun h => ha (by rw [← hP,← hQ]; exact hk.1 h i hil hiq))
           simp only [go_sem,zaa,Nat.reduceAdd,Nat.reduceSub,Nat.reduceMul,Int.reduceToNat,reduceCtorEq,↓reduceIte,Int.reducePow,Nat.reducePow,Int.reduceMod,Nat.reduceLeDiff,Int.reduceLE,Int.reduceNe,Int.reduceEq,Nat.reduceEqDiff,Nat.reduceLT,Nat.reduceBEq,ty,noS,d1,hs1,hs2,e1,da,dr,Int.toNat_natCast]
           all_goals omega
       · have d1 : decide ((i : Int) < es.length) = false := decide_eq_false (by omega)
         have dr : decide (es = gs) = true := decide_eq_true (hk.2 fun j h h' => hall j h h' (by omega))
         simp only [go_sem,zaa,Nat.reduceAdd,Nat.reduceSub,Nat.reduceMul,Int.reduceToNat,reduceCtorEq,↓reduceIte,Int.reducePow,Nat.reducePow,Int.reduceMod,Nat.reduceLeDiff,Int.reduceLE,Int.reduceNe,Int.reduceEq,Nat.reduceEqDiff,Nat.reduceLT,Nat.reduceBEq,ty,noS,d1,dr]
   · have d0 : decide ((es.length : Int) = gs.length) = false := decide_eq_false (by omega)
     have dr : decide (es = gs) = false := decide_eq_false (fun h => hl (by rw [h]))
     simp only [go_sem,zaa,Nat.reduceAdd,Nat.reduceSub,Nat.reduceMul,Int.reduceToNat,reduceCtorEq,↓reduceIte,Int.reducePow,Nat.reducePow,Int.reduceMod,Nat.reduceLeDiff,Int.reduceLE,Int.reduceNe,Int.reduceEq,Nat.reduceEqDiff,Nat.reduceLT,Nat.reduceBEq,ty,noS,d0,dr]
 · exact hp.elim
end
def eqN22S : zai
 | [.sg 1 xs f,.sg 1 ys g],[] => ⟨(xs.length ≤ 1000000 ∧ ∃ es : List (List UInt8),xs = es.map AV.str) ∧ ys.length ≤ 1000000 ∧ ∃ gs : List (List UInt8),ys = gs.map AV.str,.w (.bool (decide (xs.map zel = ys.map zel))),[]⟩
 | _,_ => zba
section
set_option maxRecDepth 100000
set_option maxHeartbeats 1000000 in
theorem eqN22_sound : zaq Try.prog 43 eqN22S := by
 refine zak (S := noS) (T := ty) zas ty_ok zby Try.func43 (c := Try.f43.body.getD .skip) (by kernel_rfl) (by kernel_rfl) (fun xs pins hp _ => ?_)
 unfold eqN22S at hp ⊢
 split at hp
 · rename_i xs f ys g _
   obtain ⟨⟨hL1,es,rfl⟩,hL2,gs,rfl⟩ := hp
   rw [List.length_map] at hL1 hL2
   rw [zbj,zbj]
   refine ⟨by simp,?_⟩
   have hlp : (es.map AV.str).length = es.length := by simp
   have hlq : (gs.map AV.str).length = gs.length := by simp
   unfold Try.f43
   by_cases hl : es.length = gs.length
   · have d0 : decide ((es.length : Int) = gs.length) = true := decide_eq_true (by omega)
     have hk : es = gs ↔ ∀ j (h : j < es.length) (h' : j < gs.length),es[j] = gs[j] := ⟨fun h => by subst h; intros; rfl,fun h => List.ext_getElem hl h⟩
     simp only [go_sem,zaa,Nat.reduceAdd,Nat.reduceSub,Nat.reduceMul,Int.reduceToNat,reduceCtorEq,↓reduceIte,Int.reducePow,Nat.reducePow,Int.reduceMod,Nat.reduceLeDiff,Int.reduceLE,Int.reduceNe,Int.reduceEq,Nat.reduceEqDiff,Nat.reduceLT,Nat.reduceBEq,ty,noS,hlp,hlq,d0]
     refine zbr ⟨fun m σ => ∃ i : Nat,m = es.length - i ∧ i ≤ es.length ∧ (∀ j (h : j < es.length) (h' : j < gs.length),j < i → es[j] = gs[j]) ∧
         σ = ⟨[.sg 1 (es.map AV.str) f,.sg 1 (gs.map AV.str) g,.junk,.junk,.junk,.junk,.junk,.junk,.junk,.junk,.junk,.junk,.w (.int .i64 es.length),.w (.int .i64 i),.junk,.junk,.junk,.junk,.junk,.junk,.junk,.junk,.junk,.junk,.junk,.junk],[],4⟩,?_,?_⟩
     · refine ⟨_,_,zad [0,1,2,3] rfl rfl rfl ?_ ?_,0,rfl,by omega,by intro j _ _ h; omega,rfl⟩
       · simp only [ssT,zae,zaf,setSlot,gOf,AV.ren,renL,Blk.ren,Ax.look,Ax.put,reduceCtorEq,↓reduceIte,Nat.reduceEqDiff,Nat.reduceLT,Nat.reduceAdd,List.length_append,List.length_cons,List.length_nil,Option.some.injEq]; simp
       · simp only [ssT,zae,zaf,setSlot,gOf,AV.ren,renL,Blk.ren,Ax.look,Ax.put,reduceCtorEq,↓reduceIte,Nat.reduceEqDiff,Nat.reduceLT,Nat.reduceAdd,List.length_append,List.length_cons,List.length_nil,Option.some.injEq]
     · rintro m σ ⟨i,rfl,hi,hall,rfl⟩
       by_cases hil : i < es.length
       · have d1 : decide ((i : Int) < es.length) = true := decide_eq_true (by omega)
         have e1 : ((i : Int) + 1 + 9223372036854775808) % 18446744073709551616 - 9223372036854775808 = ((i + 1 : Nat) : Int) := by omega
         have hiq : i < gs.length := by omega
         have hs1 := zct es i hil
         have hs2 := zct gs i hiq
         obtain ⟨P,hP⟩ : ∃ P,es[i] = P := ⟨_,rfl⟩
         obtain ⟨Q,hQ⟩ : ∃ Q,gs[i] = Q := ⟨_,rfl⟩
         rw [hP] at hs1
         rw [hQ] at hs2
         have hs1 : slot (es.map AV.str) i = .str P := hs1
         have hs2 : slot (gs.map AV.str) i = .str Q := hs2
         by_cases ha : P = Q
         · have da : decide (P = Q) = true := decide_eq_true ha
           simp only [go_sem,zaa,Nat.reduceAdd,Nat.reduceSub,Nat.reduceMul,Int.reduceToNat,reduceCtorEq,↓reduceIte,Int.reducePow,Nat.reducePow,Int.reduceMod,Nat.reduceLeDiff,Int.reduceLE,Int.reduceNe,Int.reduceEq,Nat.reduceEqDiff,Nat.reduceLT,Nat.reduceBEq,ty,noS,hlp,hlq,d1,hs1,hs2,e1,da,Int.toNat_natCast]
           repeat (refine And.intro (by omega) ?_)
           refine ⟨es.length - (i + 1),_,by omega,zad [0,1,2,3] rfl rfl rfl ?_ ?_,i + 1,rfl,by omega,?_,rfl⟩
           · simp only [ssT,zae,zaf,setSlot,gOf,AV.ren,renL,Blk.ren,Ax.look,Ax.put,reduceCtorEq,↓reduceIte,Nat.reduceEqDiff,Nat.reduceLT,Nat.reduceAdd,List.length_append,List.length_cons,List.length_nil,Option.some.injEq]
           · simp only [ssT,zae,zaf,setSlot,gOf,AV.ren,renL,Blk.ren,Ax.look,Ax.put,reduceCtorEq,↓reduceIte,Nat.reduceEqDiff,Nat.reduceLT,Nat.reduceAdd,List.length_append,List.length_cons,List.length_nil,Option.some.injEq]
           · intro j h h' hj
             rcases Nat.lt_or_ge j i with h2 | h2
             · exact hall j h h' h2
             · have : j = i := by omega
               subst this
               rw [hP,hQ]; exact ha
         · have da : decide (P = Q) = false := decide_eq_false ha
           have dr : decide (es = gs) = false := decide_eq_false (fun h => ha (by rw [← hP,← hQ]; exact hk.1 h i hil hiq))
           simp only [go_sem,zaa,Nat.reduceAdd,Nat.reduceSub,Nat.reduceMul,Int.reduceToNat,reduceCtorEq,↓reduceIte,Int.reducePow,Nat.reducePow,Int.reduceMod,Nat.reduceLeDiff,Int.reduceLE,Int.reduceNe,Int.reduceEq,Nat.reduceEqDiff,Nat.reduceLT,Nat.reduceBEq,ty,noS,hlp,hlq,d1,hs1,hs2,e1,da,dr,Int.toNat_natCast]
           all_goals omega
       · have d1 : decide ((i : Int) < es.length) = false := decide_eq_false (by omega)
         have dr : decide (es = gs) = true := decide_eq_true (hk.2 fun j h h' => hall j h h' (by omega))
         simp only [go_sem,zaa,Nat.reduceAdd,Nat.reduceSub,Nat.reduceMul,Int.reduceToNat,reduceCtorEq,↓reduceIte,Int.reducePow,Nat.reducePow,Int.reduceMod,Nat.reduceLeDiff,Int.reduceLE,Int.reduceNe,Int.reduceEq,Nat.reduceEqDiff,Nat.reduceLT,Nat.reduceBEq,ty,noS,hlp,hlq,d1,dr]
   · have d0 : decide ((es.length : Int) = gs.length) = false := decide_eq_false (by omega)
     have dr : decide (es = gs) = false := decide_eq_false (fun h => hl (by rw [h]))
     simp only [go_sem,zaa,Nat.reduceAdd,Nat.reduceSub,Nat.reduceMul,Int.reduceToNat,reduceCtorEq,↓reduceIte,Int.reducePow,Nat.reducePow,Int.reduceMod,Nat.reduceLeDiff,Int.reduceLE,Int.reduceNe,Int.reduceEq,Nat.reduceEqDiff,Nat.reduceLT,Nat.reduceBEq,ty,noS,hlp,hlq,d0,dr]
 · exact hp.elim
end
end Go.Proofs.Ytmedjkjoannbmaa
namespace Go.Proofs.Ytmedjkjoannbmaa
open Ax
instance decBat22 : DecidableEq Bat := fun x y =>
 if h : x.b = y.b ∧ x.c = y.c ∧ x.p = y.p ∧ x.e = y.e ∧ x.s = y.s ∧ x.rs = y.rs then
   .isTrue (by cases x; cases y; obtain ⟨h1,h2,h3,h4,h5,h6⟩ := h; simp only at h1 h2 h3 h4 h5 h6; subst h1 h2 h3 h4 h5 h6; rfl)
 else .isFalse (fun e => h (by subst e; exact ⟨rfl,rfl,rfl,rfl,rfl,rfl⟩))
def eqB22S : zai
 | [.sg 6 xs f,.sg 6 ys g,.fn 33 []],[] => ⟨(xs.length ≤ 1000000 ∧ ∃ es : List (Bat × Bool),xs = es.map bvp ∧ ∀ p ∈ es,p.1.rs.length ≤ 40) ∧ ys.length ≤ 1000000 ∧ ∃ gs : List (Bat × Bool),ys = gs.map bvp ∧ ∀ p ∈ gs,p.1.rs.length ≤ 40,.w (.bool (decide (xs.map ubat = ys.map ubat))),[]⟩
 | _,_ => zba
theorem bsame_dec (b c p e s : Int) (rs : List Rec) (b' c' p' e' s' : Int) (qs : List Rec) : zcl b c p e s rs b' c' p' e' s' qs = decide ((⟨b,c,p,e,s,rs⟩ : Bat) = ⟨b',c',p',e',s',qs⟩) := by
 unfold zcl
 refine decide_eq_decide.mpr ?_
 constructor
 · rintro ⟨rfl,rfl,rfl,rfl,rfl,rfl⟩; rfl
 · intro h; injection h; exact ⟨by assumption,by assumption,by assumption,by assumption,by assumption,by assumption⟩
def SeqB22 (f : FuncId) : Option zai :=
 match f with
 | 33 => some zeg
 | _ => none
theorem SeqB22_ok : Fns Try.prog SeqB22 := by
 intro f s h
 unfold SeqB22 at h
 split at h
 · injection h with h; subst h; exact ⟨⟨_,Try.func33,by kernel_rfl,by kernel_rfl⟩,bsame4_sound⟩
 · cases h
section
set_option maxRecDepth 100000
set_option maxHeartbeats 2000000 in
theorem eqBs22_sound : zaq Try.prog 41 eqB22S := by
 refine zak (S := SeqB22) (T := ty) zas ty_ok SeqB22_ok Try.func41 (c := Try.f41.body.getD .skip) (by kernel_rfl) (by kernel_rfl) (fun xs pins hp _ => ?_)
 unfold eqB22S at hp ⊢
 split at hp
 · rename_i xs f ys g _
   obtain ⟨⟨hL1,es,rfl,he⟩,hL2,gs,rfl,hg⟩ := hp
   rw [List.length_map] at hL1 hL2
   rw [zez,zez]
   refine ⟨by simp,?_⟩
   have hlp : (es.map bvp).length = es.length := by simp
   have hlq : (gs.map bvp).length = gs.length := by simp
   have hla : (es.map Prod.fst).length = es.length := by simp
   have hlb : (gs.map Prod.fst).length = gs.length := by simp
   unfold Try.f41
   by_cases hl : es.length = gs.length
   · have d0 : decide ((es.length : Int) = gs.length) = true := decide_eq_true (by omega)
     have hk : es.map Prod.fst = gs.map Prod.fst ↔ ∀ j (h : j < es.length) (h' : j < gs.length),es[j].1 = gs[j].1 := by
       constructor
       · intro h j h1 h2
         have := List.getElem_of_eq h (i := j) (by omega)
         simpa using this
       · intro h
         refine List.ext_getElem (by omega) ?_
         intro j h1 h2
         simpa using h j (by omega) (by omega)
     simp only [go_sem,zaa,Nat.reduceAdd,Nat.reduceSub,Nat.reduceMul,Int.reduceToNat,reduceCtorEq,↓reduceIte,Int.reducePow,Nat.reducePow,Int.reduceMod,Nat.reduceLeDiff,Int.reduceLE,Int.reduceNe,Int.reduceEq,Nat.reduceEqDiff,Nat.reduceLT,Nat.reduceBEq,ty,SeqB22,hlp,hlq,d0]
     refine zbr ⟨fun m σ => ∃ i : Nat,m = es.length - i ∧ i ≤ es.length ∧ (∀ j (h : j < es.length) (h' : j < gs.length),j < i → es[j].1 = gs[j].1) ∧
         σ = ⟨[.sg 6 (es.map bvp) f,.sg 6 (gs.map bvp) g,.fn 33 [],.junk,.junk,.junk,.junk,.junk,.junk,.junk,.junk,.junk,.junk,.junk,.junk,.sg 6 (es.map bvp) f,.w (.int .i64 es.length),.w (.int .i64 i),.junk,.junk,.junk,.junk,.junk,.junk,.junk,.junk,.junk,.junk,.junk,.junk,.junk,.junk],[],4⟩,?_,?_⟩
     · refine ⟨_,_,zad [0,1,2,3] rfl rfl rfl ?_ ?_,0,rfl,by omega,by intro j _ _ h; omega,rfl⟩
       · simp only [ssT,zae,zaf,setSlot,gOf,AV.ren,renL,Blk.ren,Ax.look,Ax.put,reduceCtorEq,↓reduceIte,Nat.reduceEqDiff,Nat.reduceLT,Nat.reduceAdd,List.length_append,List.length_cons,List.length_nil,Option.some.injEq]; simp
       · simp only [ssT,zae,zaf,setSlot,gOf,AV.ren,renL,Blk.ren,Ax.look,Ax.put,reduceCtorEq,↓reduceIte,Nat.reduceEqDiff,Nat.reduceLT,Nat.reduceAdd,List.length_append,List.length_cons,List.length_nil,Option.some.injEq]
     · rintro m σ ⟨i,rfl,hi,hall,rfl⟩
       by_cases hil : i < es.length
       · have d1 : decide ((i : Int) < es.length) = true := decide_eq_true (by omega)
         have e1 : ((i : Int) + 1 + 9223372036854775808) % 18446744073709551616 - 9223372036854775808 = ((i + 1 : Nat) : Int) := by omega
         have hiq : i < gs.length := by omega
         have hs1 := slot_bvp es i hil
         have hs2 := slot_bvp gs i hiq
         have m1 := he es[i] (List.getElem_mem hil)
         have m2 := hg gs[i] (List.getElem_mem hiq)
         obtain ⟨P,hP⟩ : ∃ P,es[i] = P := ⟨_,rfl⟩
         obtain ⟨Q,hQ⟩ : ∃ Q,gs[i] = Q := ⟨_,rfl⟩
         rw [hP] at hs1 m1
         rw [hQ] at hs2 m2
         obtain ⟨⟨b,c,p,e,s,rs⟩,f'⟩ := P
         obtain ⟨⟨b',c',p',e',s',qs⟩,g'⟩ := Q
         have hs1 : slot (es.map bvp) i = .agg [.w (.int .i64 b),.w (.int .i64 c),.w (.int .i64 p),.w (.int .i64 e),.w (.int .i64 s),.sg 6 (rs.map rv) f'] := hs1
         have hs2 : slot (gs.map bvp) i = .agg [.w (.int .i64 b'),.w (.int .i64 c'),.w (.int .i64 p'),.w (.int .i64 e'),.w (.int .i64 s'),.sg 6 (qs.map rv) g'] := hs2
         have n1 : (rs.map rv).length ≤ 9223372036854775807 := by rw [List.length_map]; simp only at m1; omega
         have n2 : (qs.map rv).length ≤ 9223372036854775807 := by rw [List.length_map]; simp only at m2; omega
         have x1 : ∃ k : List Rec,rs.map rv = k.map rv := ⟨rs,rfl⟩
         have x2 : ∃ k : List Rec,qs.map rv = k.map rv := ⟨qs,rfl⟩
         have r1 := zah rs
         have r2 := zah qs
         have hbs := bsame_dec b c p e s rs b' c' p' e' s' qs
         by_cases ha : (⟨b,c,p,e,s,rs⟩ : Bat) = ⟨b',c',p',e',s',qs⟩
         · rw [decide_eq_true ha] at hbs
           simp only [go_sem,zaa,Nat.reduceAdd,Nat.reduceSub,Nat.reduceMul,Int.reduceToNat,reduceCtorEq,↓reduceIte,Int.reducePow,Nat.reducePow,Int.reduceMod,Nat.reduceLeDiff,Int.reduceLE,Int.reduceNe,Int.reduceEq,Nat.reduceEqDiff,Nat.reduceLT,Nat.reduceBEq,ty,SeqB22,zeg,hlp,hlq,d1,hs1,hs2,e1,n1,n2,x1,x2,r1,r2,hbs,Int.toNat_natCast]
           repeat (refine And.intro (by omega) ?_)
           refine ⟨es.length - (i + 1),_,by omega,zad [0,1,2,3] rfl rfl rfl ?_ ?_,i + 1,rfl,by omega,?_,rfl⟩
           · simp only [ssT,zae,zaf,setSlot,gOf,AV.ren,renL,Blk.ren,Ax.look,Ax.put,reduceCtorEq,↓reduceIte,Nat.reduceEqDiff,Nat.reduceLT,Nat.reduceAdd,List.length_append,List.length_cons,List.length_nil,Option.some.injEq]
           · simp only [ssT,zae,zaf,setSlot,gOf,AV.ren,renL,Blk.ren,Ax.look,Ax.put,reduceCtorEq,↓reduceIte,Nat.reduceEqDiff,Nat.reduceLT,Nat.reduceAdd,List.length_append,List.length_cons,List.length_nil,Option.some.injEq]
           · intro j h h' hj
             rcases Nat.lt_or_ge j i with h2 | h2
             · exact hall j h h' h2
             · have : j = i := by omega
               subst this
               rw [hP,hQ]; exact ha
         · have dr : decide (es.map Prod.fst = gs.map Prod.fst) = false := decide_eq_false (fun h => ha (by have := hk.1 h i hil hiq; rw [hP,hQ] at this; exact this))
           rw [decide_eq_false ha] at hbs
           simp only [go_sem,zaa,Nat.reduceAdd,Nat.reduceSub,Nat.reduceMul,Int.reduceToNat,reduceCtorEq,↓reduceIte,Int.reducePow,Nat.reducePow,Int.reduceMod,Nat.reduceLeDiff,Int.reduceLE,Int.reduceNe,Int.reduceEq,Nat.reduceEqDiff,Nat.reduceLT,Nat.reduceBEq,ty,SeqB22,zeg,hlp,hlq,d1,hs1,hs2,e1,n1,n2,x1,x2,r1,r2,hbs,dr,Int.toNat_natCast]
           all_goals omega
       · have d1 : decide ((i : Int) < es.length) = false := decide_eq_false (by omega)
         have dr : decide (es.map Prod.fst = gs.map Prod.fst) = true := decide_eq_true (hk.2 fun j h h' => hall j h h' (by omega))
         simp only [go_sem,zaa,Nat.reduceAdd,Nat.reduceSub,Nat.reduceMul,Int.reduceToNat,reduceCtorEq,↓reduceIte,Int.reducePow,Nat.reducePow,Int.reduceMod,Nat.reduceLeDiff,Int.reduceLE,Int.reduceNe,Int.reduceEq,Nat.reduceEqDiff,Nat.reduceLT,Nat.reduceBEq,ty,SeqB22,hlp,hlq,d1,dr]
   · have d0 : decide ((es.length : Int) = gs.length) = false := decide_eq_false (by omega)
     have dr : decide (es.map Prod.fst = gs.map Prod.fst) = false := decide_eq_false (fun h => hl (by have := congrArg List.length h; simpa using this))
     simp only [go_sem,zaa,Nat.reduceAdd,Nat.reduceSub,Nat.reduceMul,Int.reduceToNat,reduceCtorEq,↓reduceIte,Int.reducePow,Nat.reducePow,Int.reduceMod,Nat.reduceLeDiff,Int.reduceLE,Int.reduceNe,Int.reduceEq,Nat.reduceEqDiff,Nat.reduceLT,Nat.reduceBEq,ty,SeqB22,hlp,hlq,d0,dr]
 · exact hp.elim
end
end Go.Proofs.Ytmedjkjoannbmaa
namespace Go.Proofs.Ytmedjkjoannbmaa
open Ax
def eqA (k er o x : Int) (d : Bool) (g : Int) (k' er' o' x' : Int) (d' : Bool) (g' : Int) (B : Bool) : Bool := decide (k = k' ∧ er = er' ∧ o = o' ∧ x = x' ∧ d = d' ∧ g = g') && B
theorem eqA_cases (k er o x : Int) (d : Bool) (g : Int) (k' er' o' x' : Int) (d' : Bool) (g' : Int) :
   ((∀ B,eqA k er o x d g k' er' o' x' d' g' B = false) ∧ decide (k = k') = false) ∨
   ((∀ B,eqA k er o x d g k' er' o' x' d' g' B = false) ∧ decide (k = k') = true ∧ decide (er = er') = false) ∨
   ((∀ B,eqA k er o x d g k' er' o' x' d' g' B = false) ∧ decide (k = k') = true ∧ decide (er = er') = true ∧ decide (o = o') = false) ∨
   ((∀ B,eqA k er o x d g k' er' o' x' d' g' B = false) ∧ decide (k = k') = true ∧ decide (er = er') = true ∧ decide (o = o') = true ∧ decide (x = x') = false) ∨
   ((∀ B,eqA k er o x d g k' er' o' x' d' g' B = false) ∧ decide (k = k') = true ∧ decide (er = er') = true ∧ decide (o = o') = true ∧ decide (x = x') = true ∧ (d == d') = false) ∨
   ((∀ B,eqA k er o x d g k' er' o' x' d' g' B = false) ∧ decide (k = k') = true ∧ decide (er = er') = true ∧ decide (o = o') = true ∧ decide (x = x') = true ∧ (d == d') = true ∧ decide (g = g') = false) ∨
   ((∀ B,eqA k er o x d g k' er' o' x' d' g' B = B) ∧ decide (k = k') = true ∧ decide (er = er') = true ∧ decide (o = o') = true ∧ decide (x = x') = true ∧ (d == d') = true ∧ decide (g = g') = true) := by
 by_cases h0 : k = k'
 case neg =>
   exact .inl ⟨fun B => by unfold eqA; rw [decide_eq_false (fun h => h0 h.1)]; rfl,decide_eq_false h0⟩
 by_cases h1 : er = er'
 case neg =>
   exact .inr (.inl ⟨fun B => by unfold eqA; rw [decide_eq_false (fun h => h1 h.2.1)]; rfl,decide_eq_true h0,decide_eq_false h1⟩)
 by_cases h2 : o = o'
 case neg =>
   exact .inr (.inr (.inl ⟨fun B => by unfold eqA; rw [decide_eq_false (fun h => h2 h.2.2.1)]; rfl,decide_eq_true h0,decide_eq_true h1,decide_eq_false h2⟩))
 by_cases h3 : x = x'
 case neg =>
   exact .inr (.inr (.inr (.inl ⟨fun B => by unfold eqA; rw [decide_eq_false (fun h => h3 h.2.2.2.1)]; rfl,decide_eq_true h0,decide_eq_true h1,decide_eq_true h2,decide_eq_false h3⟩)))
 by_cases h4 : d = d'
 case neg =>
   exact .inr (.inr (.inr (.inr (.inl ⟨fun B => by unfold eqA; rw [decide_eq_false (fun h => h4 h.2.2.2.2.1)]; rfl,decide_eq_true h0,decide_eq_true h1,decide_eq_true h2,decide_eq_true h3,(beq_false_of_ne h4)⟩))))
 by_cases h5 : g = g'
 case neg =>
   exact .inr (.inr (.inr (.inr (.inr (.inl ⟨fun B => by unfold eqA; rw [decide_eq_false (fun h => h5 h.2.2.2.2.2)]; rfl,decide_eq_true h0,decide_eq_true h1,decide_eq_true h2,decide_eq_true h3,(by rw [h4]; exact beq_self_eq_true _),decide_eq_false h5⟩)))))
 exact .inr (.inr (.inr (.inr (.inr (.inr (⟨fun B => by unfold eqA; rw [decide_eq_true ⟨h0,h1,h2,h3,h4,h5⟩]; rfl,decide_eq_true h0,decide_eq_true h1,decide_eq_true h2,decide_eq_true h3,(by rw [h4]; exact beq_self_eq_true _),decide_eq_true h5⟩))))))
def sresS : zai
 | [.agg [.w (.int .u8 k),.w (.int .i64 er),.w (.int .i64 o),.w (.int .i64 x),.w (.bool d),.w (.int .i64 g),.sg 6 bs f1,.si ps f2,.sg 1 ns f3],.agg [.w (.int .u8 k'),.w (.int .i64 er'),.w (.int .i64 o'),.w (.int .i64 x'),.w (.bool d'),.w (.int .i64 g'),.sg 6 bs' f1',.si ps' f2',.sg 1 ns' f3']],[] =>
     ⟨((bs.length ≤ 1000000 ∧ ∃ es : List (Bat × Bool),bs = es.map bvp ∧ ∀ p ∈ es,p.1.rs.length ≤ 40) ∧ bs'.length ≤ 1000000 ∧ ∃ es : List (Bat × Bool),bs' = es.map bvp ∧ ∀ p ∈ es,p.1.rs.length ≤ 40) ∧
       (ps.length ≤ 1000000 ∧ ps'.length ≤ 1000000) ∧
       ((ns.length ≤ 1000000 ∧ ∃ es : List (List UInt8),ns = es.map AV.str) ∧ ns'.length ≤ 1000000 ∧ ∃ es : List (List UInt8),ns' = es.map AV.str),
       .w (.bool (eqA k er o x d g k' er' o' x' d' g' (decide (bs.map ubat = bs'.map ubat) && (decide (ps = ps') && decide (ns.map zel = ns'.map zel))))),[]⟩
 | _,_ => zba
def Ssres22 (f : FuncId) : Option zai :=
 match f with
 | 41 => some eqB22S
 | 42 => some eqI22S
 | 43 => some eqN22S
 | _ => none
theorem Ssres22_ok : Fns Try.prog Ssres22 := by
 intro f s h
 unfold Ssres22 at h
 split at h
 · injection h with h; subst h; exact ⟨⟨_,Try.func41,by kernel_rfl,by kernel_rfl⟩,eqBs22_sound⟩
 · injection h with h; subst h; exact ⟨⟨_,Try.func42,by kernel_rfl,by kernel_rfl⟩,eqI22_sound⟩
 · injection h with h; subst h; exact ⟨⟨_,Try.func43,by kernel_rfl,by kernel_rfl⟩,eqN22_sound⟩
 · cases h
theorem zex (l : List (Bat × Bool)) (f : Bool) : coe ty 38 (.sg 6 (l.map bvp) f) = .sg 6 (l.map bvp) f := by cases l <;> rfl
section
set_option maxRecDepth 100000
set_option maxHeartbeats 8000000 in
theorem sres22_sound : zaq Try.prog 19 sresS := by
 refine zbo (S := Ssres22) (T := ty) zas ty_ok Ssres22_ok Try.func19 (c := Try.f19.body.getD .skip) (by kernel_rfl) (by kernel_rfl) (fun xs pins hp _ => ?_)
 unfold sresS at hp ⊢
 split at hp
 · rename_i k er o x d g bs f1 ps f2 ns f3 k' er' o' x' d' g' bs' f1' ps' f2' ns' f3' _
   obtain ⟨⟨⟨a1,es,rfl,ha⟩,a2,es',rfl,ha'⟩,⟨a3,a4⟩,⟨a5,ss,rfl⟩,a6,ss',rfl⟩ := hp
   have p1 : ∃ gs : List (Bat × Bool),es.map bvp = gs.map bvp ∧ ∀ p ∈ gs,p.1.rs.length ≤ 40 := ⟨es,rfl,ha⟩
   have p2 : ∃ gs : List (Bat × Bool),es'.map bvp = gs.map bvp ∧ ∀ p ∈ gs,p.1.rs.length ≤ 40 := ⟨es',rfl,ha'⟩
   have p5 : ∃ gs : List (List UInt8),ss.map AV.str = gs.map AV.str := ⟨ss,rfl⟩
   have p6 : ∃ gs : List (List UInt8),ss'.map AV.str = gs.map AV.str := ⟨ss',rfl⟩
   have c1 := zex es f1
   have c2 := zex es' f1'
   have c5 := zdk ss f3
   have c6 := zdk ss' f3'
   generalize es.map bvp = X1 at *
   generalize es'.map bvp = X2 at *
   generalize ss.map AV.str = X5 at *
   generalize ss'.map AV.str = X6 at *
   refine ⟨by simp,?_⟩
   unfold Try.f19
   obtain ⟨B1,h1⟩ : ∃ v,decide (X1.map ubat = X2.map ubat) = v := ⟨_,rfl⟩
   obtain ⟨B2,h2⟩ : ∃ v,decide (ps = ps') = v := ⟨_,rfl⟩
   obtain ⟨B3,h3⟩ : ∃ v,decide (X5.map zel = X6.map zel) = v := ⟨_,rfl⟩
   rw [h1,h2,h3]
   rcases eqA_cases k er o x d g k' er' o' x' d' g' with D | D | D | D | D | D | D
   rotate_right 1
   · cases B1 <;> cases B2 <;> cases B3
     all_goals
       simp only [go_sem,zaa,Nat.reduceAdd,Nat.reduceSub,Nat.reduceMul,Int.reduceToNat,reduceCtorEq,↓reduceIte,Int.reducePow,Nat.reducePow,Int.reduceMod,Nat.reduceLeDiff,Int.reduceLE,Int.reduceNe,Int.reduceEq,Nat.reduceEqDiff,Nat.reduceLT,Nat.reduceBEq,ty,Ssres22,eqB22S,eqI22S,eqN22S,a1,a2,a3,a4,a5,a6,p1,p2,p5,p6,c1,c2,c5,c6,h1,h2,h3,D,Bool.and_true,Bool.true_and,Bool.and_false,Bool.false_and]
       exact zao 4 rfl
   all_goals
     simp only [go_sem,zaa,Nat.reduceAdd,Nat.reduceSub,Nat.reduceMul,Int.reduceToNat,reduceCtorEq,↓reduceIte,Int.reducePow,Nat.reducePow,Int.reduceMod,Nat.reduceLeDiff,Int.reduceLE,Int.reduceNe,Int.reduceEq,Nat.reduceEqDiff,Nat.reduceLT,Nat.reduceBEq,ty,Ssres22,D]
     exact zao 4 rfl
 · exact hp.elim
end
end Go.Proofs.Ytmedjkjoannbmaa
namespace Go.Proofs.Ytmedjkjoannbmaa
open Ax
def Saw22 (f : FuncId) : Option zai :=
 match f with
 | 14 => some usesS
 | 10 => some putQS
 | 21 => some getQS
 | 17 => some putAS
 | 23 => some zcx
 | 12 => some zfe
 | 19 => some sresS
 | _ => none
theorem Saw22_ok : Fns Try.prog Saw22 := by
 intro f s h
 unfold Saw22 at h
 split at h
 · injection h with h; subst h; exact ⟨⟨_,Try.func14,by kernel_rfl,by kernel_rfl⟩,zfc⟩
 · injection h with h; subst h; exact ⟨⟨_,Try.func10,by kernel_rfl,by kernel_rfl⟩,putQ_sound⟩
 · injection h with h; subst h; exact ⟨⟨_,Try.func21,by kernel_rfl,by kernel_rfl⟩,getQ_sound⟩
 · injection h with h; subst h; exact ⟨⟨_,Try.func17,by kernel_rfl,by kernel_rfl⟩,putA_sound⟩
 · injection h with h; subst h; exact ⟨⟨_,Try.func23,by kernel_rfl,by kernel_rfl⟩,getA22_sound⟩
 · injection h with h; subst h; exact ⟨⟨_,Try.func12,by kernel_rfl,by kernel_rfl⟩,sreq22_sound⟩
 · injection h with h; subst h; exact ⟨⟨_,Try.func19,by kernel_rfl,by kernel_rfl⟩,sres22_sound⟩
 · cases h
def aw22Pl : XPlan := fun id => match id with
 | 3 => .frz [2]
 | 5 => .frz [22]
 | 6 => .frz [7]
 | _ => .std
def w22q : List UInt8 := [8,2,103,2,97,4]
def w22r : List UInt8 := [255,8,0,0,0,0,0,2,6,0]
theorem aw22a : putQ 8 [] 0 0 false false 0 0 0 [103] [97] 2 0 0 0 0 0 [] = [8,2,103,2,97,4] := by decide +kernel
theorem aw22b : chkQ 8 [] 0 0 false false 0 0 0 [103] [97] 2 0 0 0 0 0 [] = 0 := by decide +kernel
theorem aw22c : putA 255 4 0 0 false 0 [] [3] [] = [255,8,0,0,0,0,0,2,6,0] := by decide +kernel
theorem aw22d : errA 255 [] [3] [] = 0 := by decide +kernel
theorem aw22e : gqOk w22q := by
 have h1 := rd_lay22 ⟨8,[],0,0,false,false,0,0,0,[103],[97],2,zB⟩ aw22b ⟨by decide,by unfold lenQ; decide,by unfold intQ okI; decide,by decide⟩ []
 have h2 : layR ⟨8,[],0,0,false,false,0,0,0,[103],[97],2,zB⟩ = w22q := by decide +kernel
 rw [List.append_nil,h2] at h1
 unfold gqOk
 rw [h1.1]
 exact ⟨aw22b,h2⟩
theorem aw22f : gqA w22q = .agg [.w (.int .u8 8),.str [],.w (.int .i64 0),.w (.int .i64 0),.w (.bool false),.w (.bool false),.w (.int .i64 0),.w (.int .i64 0),.w (.int .i64 0),.str [103],.str [97],.w (.int .i64 2),.w (.int .i64 0),.w (.int .i64 0),.w (.int .i64 0),.w (.int .i64 0),.w (.int .i64 0),.sg 6 [] true] := by
 have h1 := rd_lay22 ⟨8,[],0,0,false,false,0,0,0,[103],[97],2,zB⟩ aw22b ⟨by decide,by unfold lenQ; decide,by unfold intQ okI; decide,by decide⟩ []
 have h2 : layR ⟨8,[],0,0,false,false,0,0,0,[103],[97],2,zB⟩ = w22q := by decide +kernel
 rw [List.append_nil,h2] at h1
 unfold gqA gqR
 rw [if_pos aw22e,h1.1]; rfl
theorem aw22g : (if gqOk [8,2,103,2,97,4] then (0 : Int) else 4) = 0 := if_pos aw22e
theorem aw22h : okA c64 8192 w22r := by
 have h1 := rd_layA c64 c64_good 8192 (by decide) ⟨255,4,0,0,false,0,[],[3],[]⟩ aw22d ⟨by decide,by unfold okI; decide,by unfold okI; decide,by unfold okI; decide,by unfold okI; decide,by unfold okI; decide⟩ []
 have h2 : layRs ⟨255,4,0,0,false,0,[],[3],[]⟩ = w22r := by decide +kernel
 rw [List.append_nil,h2] at h1
 unfold okA
 rw [h1.1]
 exact ⟨aw22d,h2⟩
theorem aw22i : gaR w22r = .tup [.agg [.w (.int .u8 255),.w (.int .i64 4),.w (.int .i64 0),.w (.int .i64 0),.w (.bool false),.w (.int .i64 0),.sg 6 [] false,.si [3] false,.sg 1 [] false],.w (.int .i64 0)] := by
 have h1 := rd_layA c64 c64_good 8192 (by decide) ⟨255,4,0,0,false,0,[],[3],[]⟩ aw22d ⟨by decide,by unfold okI; decide,by unfold okI; decide,by unfold okI; decide,by unfold okI; decide,by unfold okI; decide⟩ []
 have h2 : layRs ⟨255,4,0,0,false,0,[],[3],[]⟩ = w22r := by decide +kernel
 rw [List.append_nil,h2] at h1
 unfold gaR
 rw [if_pos aw22h,h1.1]; rfl
section
set_option maxRecDepth 100000
set_option maxHeartbeats 8000000 in
theorem awake22_sound : zaq Try.prog 9 yesS := by
 refine zcj (S := Saw22) (SO := noO) (T := ty) zas ty_ok Saw22_ok noO_ok Try.func9 (c := Try.f9.body.getD .skip) (by kernel_rfl) (fun xs pins hp _ => ?_)
 unfold yesS at hp ⊢
 split at hp
 · refine ⟨by simp,aw22Pl,by kernel_rfl,?_⟩
   have tk : ∀ l : List UInt8,List.take l.length l = l := fun l => List.take_length
   have t6 : List.take 6 ([8,2,103,2,97,4] : List UInt8) = [8,2,103,2,97,4] := rfl
   have t10 : List.take 10 ([255,8,0,0,0,0,0,2,6,0] : List UInt8) = [255,8,0,0,0,0,0,2,6,0] := rfl
   have q1 : lenQ [] [103] [97] := by unfold lenQ; decide
   have q2 : intQ 0 0 0 0 0 2 := by unfold intQ okI; decide
   have q3 : ∃ rs : List Rec,([] : List AV) = rs.map rv := ⟨[],rfl⟩
   have q4 : List.map rrec ([] : List AV) = [] := rfl
   have q5 : ∃ l : List (Bat × Bool),([] : List AV) = l.map bvp ∧ ∀ p ∈ l,p.1.rs.length ≤ 40 := ⟨[],rfl,by simp⟩
   have q6 : ∀ n ∈ ([3] : List Int),okI n := by unfold okI; decide
   have q7 : ∃ ks : List (List UInt8),([] : List AV) = ks.map AV.str := ⟨[],rfl⟩
   have q8 : List.map ubat ([] : List AV) = [] := rfl
   have q9 : List.map zel ([] : List AV) = [] := rfl
   have e1 : eqQ 8 [] 0 0 false false 0 0 0 [103] [97] 2 8 [] 0 0 false false 0 0 0 [103] [97] 2 (zcl 0 0 0 0 0 [] 0 0 0 0 0 []) = true := by decide +kernel
   have e2 : eqQ 8 [] 0 0 false false 0 0 0 [103] [97] 2 0 [] 0 0 false false 0 0 0 [] [] 0 (zcl 0 0 0 0 0 [] 0 0 0 0 0 []) = false := by decide +kernel
   have e3 : eqA 255 4 0 0 false 0 255 4 0 0 false 0 true = true := by decide +kernel
   have e4 : eqA 255 4 0 0 false 0 0 0 0 0 false 0 false = false := by decide +kernel
   have e5 : decide (((1 : Nat) : Int) = 1) = true := by decide
   have e7 : decide (([3] : List Int).getD 0 0 = 3) = true := by decide
   have e8 : decide (zcr 3 = [116,105,102,98]) = true := by decide +kernel
   have e6 : ∀ n : Int,n = 3 → okI n := by rintro n rfl; unfold okI; decide
   have i0 : okI 0 := by unfold okI; decide
   have i4 : okI 4 := by unfold okI; decide
   have f2 : gqA [8,2,103,2,97,4] = _ := aw22f
   have f3 : gaR [255,8,0,0,0,0,0,2,6,0] = _ := aw22i
   unfold Try.f9
   simp (config := { maxSteps := 1000000 }) only [go_sem,zab,Nat.reduceAdd,Nat.reduceSub,Nat.reduceMul,Int.reduceToNat,reduceCtorEq,↓reduceIte,Int.reducePow,Nat.reducePow,Int.reduceMod,Nat.reduceLeDiff,Int.reduceLE,Int.reduceNe,Int.reduceEq,Nat.reduceEqDiff,Nat.reduceLT,Nat.reduceBEq,List.map_cons,List.map_nil,List.toList_toArray,Array.toList_append,Option.toArray_some,Option.toArray_none,Bool.and_self,ty,Saw22,aw22Pl,putQS,getQS,putAS,zcx,zfe,sresS,usesS,fillS,tk,t6,t10,q1,q2,q3,q4,q5,q6,q7,q8,q9,i0,i4,aw22a,aw22b,aw22c,aw22d,f2,aw22g,f3,e1,e2,e3,e4,e5,e7,e8,Bool.not_true,Bool.not_false,Int.reduceLE,Int.reduceLT,Nat.zero_le,List.length_nil]
   refine ⟨e6,?_⟩
   exact zao 0 rfl
 · exact hp.elim
end
end Go.Proofs.Ytmedjkjoannbmaa
