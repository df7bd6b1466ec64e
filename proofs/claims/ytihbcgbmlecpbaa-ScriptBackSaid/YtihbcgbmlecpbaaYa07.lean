/- What the proofs of this seat stand on; it asks nothing. -/
import Derived.Test.YtihbcgbmlecpbaaYa06
set_option linter.unusedSimpArgs false
set_option linter.unusedVariables false
namespace Go.Proofs.Ytihbcgbmlecpbaa
open Ax
theorem weak_fzs {sl : List AV} {H : Heap} {nx id s o n : Nat} {bs : List UInt8} (i : Nat) (hs : slot sl i = .ms id s o n) (hl : Ax.look H id = some (.b bs)) : Weak ⟨sl,H,nx⟩ ⟨fzL id bs sl,fzH id bs H,nx⟩ :=
 weak_fz id i bs hl (by rw [hs]; simp [AV.ids])
theorem slot_fzL (id : Nat) (bs : List UInt8) : ∀ (sl : List AV) (i : Nat),slot (fzL id bs sl) i = (slot sl i).fz id bs
 | [],i => rfl
 | x :: sl,0 => rfl
 | x :: sl,i + 1 => slot_fzL id bs sl i
theorem slot_set_ne (x : AV) : ∀ (sl : List AV) (i j : Nat),i ≠ j → slot (setSlot sl i x) j = slot sl j
 | [],i,j,h => rfl
 | y :: sl,0,0,h => (h rfl).elim
 | y :: sl,0,j + 1,h => rfl
 | y :: sl,i + 1,0,h => rfl
 | y :: sl,i + 1,j + 1,h => slot_set_ne x sl i j (by omega)
theorem slot_set_eq (x : AV) : ∀ (sl : List AV) (i : Nat),slot sl i ≠ .junk → slot (setSlot sl i x) i = x
 | [],i,h => (h rfl).elim
 | y :: sl,0,h => rfl
 | y :: sl,i + 1,h => slot_set_eq x sl i h
theorem put_ends {T : zae} {sl : List AV} {H : Heap} {nx id n : Nat} {bs rs : List UInt8} {e e' : Value} {q : Prop} (h2 : slot sl 2 = .ms id 1 0 n) (h3 : slot sl 3 = .w e) (hl : Ax.look H id = some (.b bs)) (hn : n = bs.length) (hr : rs = bs) (he : e' = e) :
   EndsW T [.tmp 2,.tmp 3] [] ⟨q,.tup [.sb rs false,.w e'],[]⟩ .ret ⟨sl,H,nx⟩ := by
 subst hn hr he
 have hs : slot (fzL id rs sl) 2 = .sb rs false := by
   rw [slot_fzL,h2]
   simp [AV.fz]
 refine ⟨_,(weak_fzs 2 h2 hl).trans (zdl 2 (.sb rs false) (fun w loc v h => by rwa [hs] at h)),?_⟩
 have e2 : slot (setSlot (fzL id rs sl) 2 (.sb rs false)) 2 = .sb rs false := slot_set_eq _ _ _ (by rw [hs]; simp)
 have e3 : slot (setSlot (fzL id rs sl) 2 (.sb rs false)) 3 = .w e' := by rw [slot_set_ne _ _ _ _ (by omega),slot_fzL,h3]; rfl
 simp only [Ax.Ends,Ax.rvals,EndsX,rone,e2,e3,AV.ids,idsL,newIds,upTo,nodup,pinsOf,List.nil_append,AV.ren,renL,and_self]
def recV (d t : Int) (k : Bool) (key : List UInt8) (dd : Bool) (val : List UInt8) : AV := .agg [.w (.int .i64 d),.w (.int .i64 t),.w (.bool k),.str key,.w (.bool dd),.str val]
def rA (d t : Int) : Prop := d < 0 ∨ 31 < d ∨ t < 0 ∨ 1099511627776 < t
def rB (key val : List UInt8) : Prop := 64 < key.length ∨ 512 < val.length
def rC (k : Bool) (key : List UInt8) (dd : Bool) (val : List UInt8) : Prop := (k = false ∧ (key ≠ [] ∨ dd = true)) ∨ (dd = true ∧ val ≠ [])
instance (d t : Int) : Decidable (rA d t) := by unfold rA; infer_instance
instance (key val : List UInt8) : Decidable (rB key val) := by unfold rB; infer_instance
instance (k : Bool) (key : List UInt8) (dd : Bool) (val : List UInt8) : Decidable (rC k key dd val) := by unfold rC; infer_instance
def rchk (d t : Int) (k : Bool) (key : List UInt8) (dd : Bool) (val : List UInt8) : Int := if rA d t then 11 else if rB key val then 5 else if rC k key dd val then 4 else 0
theorem zfn (d t : Int) (k : Bool) (key : List UInt8) (dd : Bool) (val : List UInt8) :
   (rchk d t k key dd val = 11 ∧ rA d t) ∨ (rchk d t k key dd val = 5 ∧ ¬ rA d t ∧ rB key val) ∨ (rchk d t k key dd val = 4 ∧ ¬ rA d t ∧ ¬ rB key val ∧ rC k key dd val) ∨ (rchk d t k key dd val = 0 ∧ ¬ rA d t ∧ ¬ rB key val ∧ ¬ rC k key dd val) := by
 unfold rchk
 by_cases h1 : rA d t
 · exact .inl ⟨if_pos h1,h1⟩
 · by_cases h2 : rB key val
   · exact .inr (.inl ⟨by rw [if_neg h1,if_pos h2],h1,h2⟩)
   · by_cases h3 : rC k key dd val
     · exact .inr (.inr (.inl ⟨by rw [if_neg h1,if_neg h2,if_pos h3],h1,h2,h3⟩))
     · exact .inr (.inr (.inr ⟨by rw [if_neg h1,if_neg h2,if_neg h3],h1,h2,h3⟩))
def zbh : zak
 | [.agg [.w (.int .i64 d),.w (.int .i64 t),.w (.bool k),.str key,.w (.bool dd),.str val]],[] => ⟨True,.w (.int .i64 (rchk d t k key dd val)),[]⟩
 | _,_ => zbd
section
set_option maxRecDepth 100000
set_option maxHeartbeats 1000000 in
theorem rcheck_sound : zaq Try.prog 91 zbh := by
 refine zal (S := noS) (T := ty) zau ty_ok zbs Try.func91 (c := Try.f91.body.getD .skip) (by kernel_rfl) (by kernel_rfl) (fun xs pins hp _ => ?_)
 unfold zbh at hp ⊢
 split at hp
 · rename_i d t k key dd val _
   refine ⟨by simp,?_⟩
   unfold Try.f91
   have hc := zfn d t k key dd val
   generalize rchk d t k key dd val = X at *
   unfold rA rB rC at hc
   rcases key with _ | ⟨c,ks⟩ <;> rcases val with _ | ⟨v,vs⟩ <;> cases k <;> cases dd
   all_goals
     simp only [go_sem,coe,zaa,Nat.reduceAdd,Nat.reduceSub,Nat.reduceMul,Int.reduceToNat,reduceCtorEq,↓reduceIte,Int.reducePow,Nat.reducePow,Int.reduceMod,Nat.reduceLeDiff,Int.reduceLE,Int.reduceNe,Int.reduceEq,Nat.reduceEqDiff,Nat.reduceLT,Nat.reduceBEq,ty,noS,decide_eq_true_eq,decide_eq_false_iff_not]
     simp only [List.length_cons,List.length_nil,ne_eq,reduceCtorEq,not_true_eq_false,not_false_eq_true,or_true,true_or,or_false,false_or,and_true,and_false,true_and,false_and,Bool.false_eq_true,Bool.true_eq_false] at hc
     repeat' (first | (intro _) | (apply And.intro))
     all_goals omega
 · exact hp.elim
def flagI (k dd : Bool) : Int := (if k then 1 else 0) + (if dd then 2 else 0)
def flagS : zak
 | [.agg [.w (.int .i64 d),.w (.int .i64 t),.w (.bool k),.str key,.w (.bool dd),.str val]],[] => ⟨True,.w (.int .u8 (flagI k dd)),[]⟩
 | _,_ => zbd
theorem flag_sound : zaq Try.prog 92 flagS := by
 refine zal (S := noS) (T := ty) zau ty_ok zbs Try.func92 (c := Try.f92.body.getD .skip) (by kernel_rfl) (by kernel_rfl) (fun xs pins hp _ => ?_)
 unfold flagS at hp ⊢
 split at hp
 · rename_i d t k key dd val _
   refine ⟨by simp,?_⟩
   have b1 : bits .or .u8 0 1 = 1 := by decide
   have b2 : bits .or .u8 0 2 = 2 := by decide
   have b3 : bits .or .u8 1 2 = 3 := by decide
   unfold Try.f92
   cases k <;> cases dd <;> simp only [go_sem,coe,zaa,Nat.reduceAdd,Nat.reduceSub,Nat.reduceMul,Int.reduceToNat,reduceCtorEq,↓reduceIte,Int.reducePow,Nat.reducePow,Int.reduceMod,Nat.reduceLeDiff,Int.reduceLE,Int.reduceNe,Int.reduceEq,Nat.reduceEqDiff,Nat.reduceLT,Nat.reduceBEq,ty,noS,b1,b2,b3,flagI] <;> rfl
 · exact hp.elim
def recL (d t : Int) (k : Bool) (key : List UInt8) (dd : Bool) (val : List UInt8) : List UInt8 :=
 UInt8.ofNat (flagI k dd).toNat :: (putU (zz d).toNat ++ (putU (zz t).toNat ++ ((if k then zaw key else []) ++ (if dd then [] else zaw val))))
def recB (d t : Int) (k : Bool) (key : List UInt8) (dd : Bool) (val : List UInt8) : List UInt8 := if rchk d t k key dd val = 0 then recL d t k key dd val else []
def rputS : zak
 | [.agg [.w (.int .i64 d),.w (.int .i64 t),.w (.bool k),.str key,.w (.bool dd),.str val]],[] => ⟨True,.tup [.sb (recB d t k key dd val) false,.w (.int .i64 (rchk d t k key dd val))],[]⟩
 | _,_ => zbd
def Srput (f : FuncId) : Option zak :=
 match f with
 | 91 => some zbh
 | 92 => some flagS
 | 23 => some putS
 | 30 => some zcd
 | _ => none
theorem Srput_ok : Fns Try.prog Srput := by
 intro f s h
 unfold Srput at h
 split at h
 · injection h with h; subst h; exact ⟨⟨_,Try.func91,by kernel_rfl,by kernel_rfl⟩,rcheck_sound⟩
 · injection h with h; subst h; exact ⟨⟨_,Try.func92,by kernel_rfl,by kernel_rfl⟩,flag_sound⟩
 · injection h with h; subst h; exact ⟨⟨_,Try.func23,by kernel_rfl,by kernel_rfl⟩,put_sound⟩
 · injection h with h; subst h; exact ⟨⟨_,Try.func30,by kernel_rfl,by kernel_rfl⟩,text_sound⟩
 · cases h
theorem zdt (s : List UInt8) (h : s.length ≤ 1000000) : (zaw s).length ≤ s.length + 10 := by
 unfold zaw
 have := zay (2 * s.length) (by omega)
 rw [List.length_append]; omega
set_option maxHeartbeats 1000000 in
theorem recput_sound : zaq Try.prog 90 rputS := by
 refine zbp (S := Srput) (T := ty) zau ty_ok Srput_ok Try.func90 (c := Try.f90.body.getD .skip) (by kernel_rfl) (by kernel_rfl) (fun xs pins hp _ => ?_)
 unfold rputS at hp ⊢
 split at hp
 · rename_i d t k key dd val _
   refine ⟨by simp,?_⟩
   unfold Try.f90
   by_cases h0 : rchk d t k key dd val = 0
   · have hc := zfn d t k key dd val
     unfold rA rB at hc
     have hd : (-9223372036854775808 ≤ d ∧ d ≤ 9223372036854775807) ∧ (-9223372036854775808 ≤ t ∧ t ≤ 9223372036854775807) ∧ key.length ≤ 64 ∧ val.length ≤ 512 := by omega
     obtain ⟨hd1,hd2,hd3,hd4⟩ := hd
     clear hc
     have z1 := zda d hd1.1 hd1.2
     have z2 := zda t hd2.1 hd2.2
     have l1 := zay (zz d).toNat (by omega)
     have l2 := zay (zz t).toNat (by omega)
     have l3 := zdt key (by omega)
     have l4 := zdt val (by omega)
     have k3 : key.length ≤ 1000000 := by omega
     have k4 : val.length ≤ 1000000 := by omega
     generalize hP1 : putU (zz d).toNat = P1 at *
     generalize hP2 : putU (zz t).toNat = P2 at *
     generalize hP3 : zaw key = P3 at *
     generalize hP4 : zaw val = P4 at *
     cases k <;> cases dd
     all_goals
       have f0 : flagI false false = 0 := rfl
       have f1 : flagI true false = 1 := rfl
       have f2 : flagI false true = 2 := rfl
       have f3 : flagI true true = 3 := rfl
       simp only [go_sem,coe,zaa,Nat.reduceAdd,Nat.reduceSub,Nat.reduceMul,Int.reduceToNat,reduceCtorEq,↓reduceIte,Int.reducePow,Nat.reducePow,Int.reduceMod,Nat.reduceLeDiff,Int.reduceLE,Int.reduceNe,Int.reduceEq,Nat.reduceEqDiff,Nat.reduceLT,Nat.reduceBEq,ty,Srput,zbh,flagS,putS,zcd,h0,hd1,hd2,k3,k4,hP1,hP2,hP3,hP4,List.take_length,f0,f1,f2,f3]
       have ht : top = 4294967296 := rfl
       repeat (refine And.intro (by omega) ?_)
       exact put_ends rfl rfl rfl (by simp only [List.length_append,List.length_cons]; omega) (by simp [recB,h0,recL,hP1,hP2,hP3,hP4,f0,f1,f2,f3]) rfl
   · have d0 : decide (rchk d t k key dd val = 0) = false := decide_eq_false h0
     simp only [go_sem,coe,zaa,Nat.reduceAdd,Nat.reduceSub,Nat.reduceMul,Int.reduceToNat,reduceCtorEq,↓reduceIte,Int.reducePow,Nat.reducePow,Int.reduceMod,Nat.reduceLeDiff,Int.reduceLE,Int.reduceNe,Int.reduceEq,Nat.reduceEqDiff,Nat.reduceLT,Nat.reduceBEq,ty,Srput,zbh,d0]
     refine ⟨_,zdl 2 (.sb [] false) (fun _ _ _ h => h.nilb),?_⟩
     simp only [go_sem,coe,zaa,Nat.reduceAdd,Nat.reduceSub,Nat.reduceMul,Int.reduceToNat,reduceCtorEq,↓reduceIte,Int.reducePow,Nat.reducePow,Int.reduceMod,Nat.reduceLeDiff,Int.reduceLE,Int.reduceNe,Int.reduceEq,Nat.reduceEqDiff,Nat.reduceLT,Nat.reduceBEq,ty,recB,if_neg h0]
 · exact hp.elim
end
end Go.Proofs.Ytihbcgbmlecpbaa
namespace Go.Proofs.Ytihbcgbmlecpbaa
open Ax
def bfld (b c p e s n : Int) : Int :=
 if c < 1 ∨ 32 < c ∨ b < 0 ∨ 4611686018427387903 - c < b ∨ p < 0 ∨ 1099511627776 < p ∨ e < 0 ∨ 32767 < e ∨ s < 0 ∨ 2147483647 < s then 11
 else if p = 0 ∧ (e ≠ 0 ∨ s ≠ 0) then 4 else if c < n then 5 else 0
def bfldS : zak
 | [.agg [.w (.int .i64 b),.w (.int .i64 c),.w (.int .i64 p),.w (.int .i64 e),.w (.int .i64 s),.sg 6 xs f]],[] => ⟨xs.length ≤ 9223372036854775807,.w (.int .i64 (bfld b c p e s xs.length)),[]⟩
 | _,_ => zbd
section
set_option maxRecDepth 100000
set_option maxHeartbeats 1000000 in
theorem bfld_sound : zaq Try.prog 89 bfldS := by
 refine zal (S := noS) (T := ty) zau ty_ok zbs Try.func89 (c := Try.f89.body.getD .skip) (by kernel_rfl) (by kernel_rfl) (fun xs pins hp _ => ?_)
 unfold bfldS at hp ⊢
 split at hp
 · rename_i b c p e s xs f _
   refine ⟨by simp,?_⟩
   unfold Try.f89
   by_cases h0 : c < 1
   · have d0 : decide (c < 1) = true := decide_eq_true h0
     have hv : bfld b c p e s xs.length = 11 := if_pos (by omega)
     simp only [go_sem,coe,zaa,Nat.reduceAdd,Nat.reduceSub,Nat.reduceMul,Int.reduceToNat,reduceCtorEq,↓reduceIte,Int.reducePow,Nat.reducePow,Int.reduceMod,Nat.reduceLeDiff,Int.reduceLE,Int.reduceNe,Int.reduceEq,Nat.reduceEqDiff,Nat.reduceLT,Nat.reduceBEq,ty,noS,hv,d0]
   have d0 : decide (c < 1) = false := decide_eq_false h0
   by_cases h1 : 32 < c
   · have d1 : decide (32 < c) = true := decide_eq_true h1
     have hv : bfld b c p e s xs.length = 11 := if_pos (by omega)
     simp only [go_sem,coe,zaa,Nat.reduceAdd,Nat.reduceSub,Nat.reduceMul,Int.reduceToNat,reduceCtorEq,↓reduceIte,Int.reducePow,Nat.reducePow,Int.reduceMod,Nat.reduceLeDiff,Int.reduceLE,Int.reduceNe,Int.reduceEq,Nat.reduceEqDiff,Nat.reduceLT,Nat.reduceBEq,ty,noS,hv,d0,d1]
   have d1 : decide (32 < c) = false := decide_eq_false h1
   have e1 : (4611686018427387903 - c + 9223372036854775808) % 18446744073709551616 - 9223372036854775808 = 4611686018427387903 - c := by omega
   by_cases h2 : b < 0
   · have d2 : decide (b < 0) = true := decide_eq_true h2
     have hv : bfld b c p e s xs.length = 11 := if_pos (by omega)
     simp only [go_sem,coe,zaa,Nat.reduceAdd,Nat.reduceSub,Nat.reduceMul,Int.reduceToNat,reduceCtorEq,↓reduceIte,Int.reducePow,Nat.reducePow,Int.reduceMod,Nat.reduceLeDiff,Int.reduceLE,Int.reduceNe,Int.reduceEq,Nat.reduceEqDiff,Nat.reduceLT,Nat.reduceBEq,ty,noS,hv,d0,d1,d2]
   have d2 : decide (b < 0) = false := decide_eq_false h2
   by_cases h3 : 4611686018427387903 - c < b
   · have d3 : decide (4611686018427387903 - c < b) = true := decide_eq_true h3
     have hv : bfld b c p e s xs.length = 11 := if_pos (by omega)
     simp only [go_sem,coe,zaa,Nat.reduceAdd,Nat.reduceSub,Nat.reduceMul,Int.reduceToNat,reduceCtorEq,↓reduceIte,Int.reducePow,Nat.reducePow,Int.reduceMod,Nat.reduceLeDiff,Int.reduceLE,Int.reduceNe,Int.reduceEq,Nat.reduceEqDiff,Nat.reduceLT,Nat.reduceBEq,ty,noS,hv,d0,d1,d2,d3,e1]
   have d3 : decide (4611686018427387903 - c < b) = false := decide_eq_false h3
   by_cases h4 : p < 0
   · have d4 : decide (p < 0) = true := decide_eq_true h4
     have hv : bfld b c p e s xs.length = 11 := if_pos (by omega)
     simp only [go_sem,coe,zaa,Nat.reduceAdd,Nat.reduceSub,Nat.reduceMul,Int.reduceToNat,reduceCtorEq,↓reduceIte,Int.reducePow,Nat.reducePow,Int.reduceMod,Nat.reduceLeDiff,Int.reduceLE,Int.reduceNe,Int.reduceEq,Nat.reduceEqDiff,Nat.reduceLT,Nat.reduceBEq,ty,noS,hv,d0,d1,d2,d3,d4,e1]
   have d4 : decide (p < 0) = false := decide_eq_false h4
   by_cases h5 : 1099511627776 < p
   · have d5 : decide (1099511627776 < p) = true := decide_eq_true h5
     have hv : bfld b c p e s xs.length = 11 := if_pos (by omega)
     simp only [go_sem,coe,zaa,Nat.reduceAdd,Nat.reduceSub,Nat.reduceMul,Int.reduceToNat,reduceCtorEq,↓reduceIte,Int.reducePow,Nat.reducePow,Int.reduceMod,Nat.reduceLeDiff,Int.reduceLE,Int.reduceNe,Int.reduceEq,Nat.reduceEqDiff,Nat.reduceLT,Nat.reduceBEq,ty,noS,hv,d0,d1,d2,d3,d4,d5,e1]
   have d5 : decide (1099511627776 < p) = false := decide_eq_false h5
   by_cases h6 : e < 0
   · have d6 : decide (e < 0) = true := decide_eq_true h6
     have hv : bfld b c p e s xs.length = 11 := if_pos (by omega)
     simp only [go_sem,coe,zaa,Nat.reduceAdd,Nat.reduceSub,Nat.reduceMul,Int.reduceToNat,reduceCtorEq,↓reduceIte,Int.reducePow,Nat.reducePow,Int.reduceMod,Nat.reduceLeDiff,Int.reduceLE,Int.reduceNe,Int.reduceEq,Nat.reduceEqDiff,Nat.reduceLT,Nat.reduceBEq,ty,noS,hv,d0,d1,d2,d3,d4,d5,d6,e1]
   have d6 : decide (e < 0) = false := decide_eq_false h6
   by_cases h7 : 32767 < e
   · have d7 : decide (32767 < e) = true := decide_eq_true h7
     have hv : bfld b c p e s xs.length = 11 := if_pos (by omega)
     simp only [go_sem,coe,zaa,Nat.reduceAdd,Nat.reduceSub,Nat.reduceMul,Int.reduceToNat,reduceCtorEq,↓reduceIte,Int.reducePow,Nat.reducePow,Int.reduceMod,Nat.reduceLeDiff,Int.reduceLE,Int.reduceNe,Int.reduceEq,Nat.reduceEqDiff,Nat.reduceLT,Nat.reduceBEq,ty,noS,hv,d0,d1,d2,d3,d4,d5,d6,d7,e1]
   have d7 : decide (32767 < e) = false := decide_eq_false h7
   by_cases h8 : s < 0
   · have d8 : decide (s < 0) = true := decide_eq_true h8
     have hv : bfld b c p e s xs.length = 11 := if_pos (by omega)
     simp only [go_sem,coe,zaa,Nat.reduceAdd,Nat.reduceSub,Nat.reduceMul,Int.reduceToNat,reduceCtorEq,↓reduceIte,Int.reducePow,Nat.reducePow,Int.reduceMod,Nat.reduceLeDiff,Int.reduceLE,Int.reduceNe,Int.reduceEq,Nat.reduceEqDiff,Nat.reduceLT,Nat.reduceBEq,ty,noS,hv,d0,d1,d2,d3,d4,d5,d6,d7,d8,e1]
   have d8 : decide (s < 0) = false := decide_eq_false h8
   by_cases h9 : 2147483647 < s
   · have d9 : decide (2147483647 < s) = true := decide_eq_true h9
     have hv : bfld b c p e s xs.length = 11 := if_pos (by omega)
     simp only [go_sem,coe,zaa,Nat.reduceAdd,Nat.reduceSub,Nat.reduceMul,Int.reduceToNat,reduceCtorEq,↓reduceIte,Int.reducePow,Nat.reducePow,Int.reduceMod,Nat.reduceLeDiff,Int.reduceLE,Int.reduceNe,Int.reduceEq,Nat.reduceEqDiff,Nat.reduceLT,Nat.reduceBEq,ty,noS,hv,d0,d1,d2,d3,d4,d5,d6,d7,d8,d9,e1]
   have d9 : decide (2147483647 < s) = false := decide_eq_false h9
   have hn : ¬ (c < 1 ∨ 32 < c ∨ b < 0 ∨ 4611686018427387903 - c < b ∨ p < 0 ∨ 1099511627776 < p ∨ e < 0 ∨ 32767 < e ∨ s < 0 ∨ 2147483647 < s) := by omega
   have hr : bfld b c p e s xs.length = if p = 0 ∧ (e ≠ 0 ∨ s ≠ 0) then 4 else if c < xs.length then 5 else 0 := if_neg hn
   by_cases hl : c < xs.length
   · have dl : decide (c < (xs.length : Int)) = true := decide_eq_true hl
     by_cases hp0 : p = 0
     · have dp : decide (p = 0) = true := decide_eq_true hp0
       by_cases he0 : e = 0
       · have de : decide (e = 0) = true := decide_eq_true he0
         by_cases hs0 : s = 0
         · have ds : decide (s = 0) = true := decide_eq_true hs0
           have hv : bfld b c p e s xs.length = 5 := by rw [hr,if_neg (by omega),if_pos hl]
           simp only [go_sem,coe,zaa,Nat.reduceAdd,Nat.reduceSub,Nat.reduceMul,Int.reduceToNat,reduceCtorEq,↓reduceIte,Int.reducePow,Nat.reducePow,Int.reduceMod,Nat.reduceLeDiff,Int.reduceLE,Int.reduceNe,Int.reduceEq,Nat.reduceEqDiff,Nat.reduceLT,Nat.reduceBEq,ty,noS,hv,d0,d1,d2,d3,d4,d5,d6,d7,d8,d9,e1,dl,dp,de,ds]
         · have ds : decide (s = 0) = false := decide_eq_false hs0
           have hv : bfld b c p e s xs.length = 4 := by rw [hr,if_pos (by omega)]
           simp only [go_sem,coe,zaa,Nat.reduceAdd,Nat.reduceSub,Nat.reduceMul,Int.reduceToNat,reduceCtorEq,↓reduceIte,Int.reducePow,Nat.reducePow,Int.reduceMod,Nat.reduceLeDiff,Int.reduceLE,Int.reduceNe,Int.reduceEq,Nat.reduceEqDiff,Nat.reduceLT,Nat.reduceBEq,ty,noS,hv,d0,d1,d2,d3,d4,d5,d6,d7,d8,d9,e1,dl,dp,de,ds]
       · have de : decide (e = 0) = false := decide_eq_false he0
         have hv : bfld b c p e s xs.length = 4 := by rw [hr,if_pos (by omega)]
         simp only [go_sem,coe,zaa,Nat.reduceAdd,Nat.reduceSub,Nat.reduceMul,Int.reduceToNat,reduceCtorEq,↓reduceIte,Int.reducePow,Nat.reducePow,Int.reduceMod,Nat.reduceLeDiff,Int.reduceLE,Int.reduceNe,Int.reduceEq,Nat.reduceEqDiff,Nat.reduceLT,Nat.reduceBEq,ty,noS,hv,d0,d1,d2,d3,d4,d5,d6,d7,d8,d9,e1,dl,dp,de]
     · have dp : decide (p = 0) = false := decide_eq_false hp0
       have hv : bfld b c p e s xs.length = 5 := by rw [hr,if_neg (by omega),if_pos hl]
       simp only [go_sem,coe,zaa,Nat.reduceAdd,Nat.reduceSub,Nat.reduceMul,Int.reduceToNat,reduceCtorEq,↓reduceIte,Int.reducePow,Nat.reducePow,Int.reduceMod,Nat.reduceLeDiff,Int.reduceLE,Int.reduceNe,Int.reduceEq,Nat.reduceEqDiff,Nat.reduceLT,Nat.reduceBEq,ty,noS,hv,d0,d1,d2,d3,d4,d5,d6,d7,d8,d9,e1,dl,dp]
   · have dl : decide (c < (xs.length : Int)) = false := decide_eq_false hl
     by_cases hp0 : p = 0
     · have dp : decide (p = 0) = true := decide_eq_true hp0
       by_cases he0 : e = 0
       · have de : decide (e = 0) = true := decide_eq_true he0
         by_cases hs0 : s = 0
         · have ds : decide (s = 0) = true := decide_eq_true hs0
           have hv : bfld b c p e s xs.length = 0 := by rw [hr,if_neg (by omega),if_neg hl]
           simp only [go_sem,coe,zaa,Nat.reduceAdd,Nat.reduceSub,Nat.reduceMul,Int.reduceToNat,reduceCtorEq,↓reduceIte,Int.reducePow,Nat.reducePow,Int.reduceMod,Nat.reduceLeDiff,Int.reduceLE,Int.reduceNe,Int.reduceEq,Nat.reduceEqDiff,Nat.reduceLT,Nat.reduceBEq,ty,noS,hv,d0,d1,d2,d3,d4,d5,d6,d7,d8,d9,e1,dl,dp,de,ds]
         · have ds : decide (s = 0) = false := decide_eq_false hs0
           have hv : bfld b c p e s xs.length = 4 := by rw [hr,if_pos (by omega)]
           simp only [go_sem,coe,zaa,Nat.reduceAdd,Nat.reduceSub,Nat.reduceMul,Int.reduceToNat,reduceCtorEq,↓reduceIte,Int.reducePow,Nat.reducePow,Int.reduceMod,Nat.reduceLeDiff,Int.reduceLE,Int.reduceNe,Int.reduceEq,Nat.reduceEqDiff,Nat.reduceLT,Nat.reduceBEq,ty,noS,hv,d0,d1,d2,d3,d4,d5,d6,d7,d8,d9,e1,dl,dp,de,ds]
       · have de : decide (e = 0) = false := decide_eq_false he0
         have hv : bfld b c p e s xs.length = 4 := by rw [hr,if_pos (by omega)]
         simp only [go_sem,coe,zaa,Nat.reduceAdd,Nat.reduceSub,Nat.reduceMul,Int.reduceToNat,reduceCtorEq,↓reduceIte,Int.reducePow,Nat.reducePow,Int.reduceMod,Nat.reduceLeDiff,Int.reduceLE,Int.reduceNe,Int.reduceEq,Nat.reduceEqDiff,Nat.reduceLT,Nat.reduceBEq,ty,noS,hv,d0,d1,d2,d3,d4,d5,d6,d7,d8,d9,e1,dl,dp,de]
     · have dp : decide (p = 0) = false := decide_eq_false hp0
       have hv : bfld b c p e s xs.length = 0 := by rw [hr,if_neg (by omega),if_neg hl]
       simp only [go_sem,coe,zaa,Nat.reduceAdd,Nat.reduceSub,Nat.reduceMul,Int.reduceToNat,reduceCtorEq,↓reduceIte,Int.reducePow,Nat.reducePow,Int.reduceMod,Nat.reduceLeDiff,Int.reduceLE,Int.reduceNe,Int.reduceEq,Nat.reduceEqDiff,Nat.reduceLT,Nat.reduceBEq,ty,noS,hv,d0,d1,d2,d3,d4,d5,d6,d7,d8,d9,e1,dl,dp]
 · exact hp.elim
end
end Go.Proofs.Ytihbcgbmlecpbaa
namespace Go.Proofs.Ytihbcgbmlecpbaa
open Ax
def beqS : zak
 | [.sb a _,.sb b _],[] => ⟨True,.w (.bool (decide (a = b))),[]⟩
 | _,_ => zbd
section
set_option maxRecDepth 100000
theorem beq_sound : zaq Try.prog 28 beqS := by
 refine zal (S := noS) (T := ty) zau ty_ok zbs Try.func28 (c := Try.f28.body.getD .skip) (by kernel_rfl) (by kernel_rfl) (fun xs pins hp _ => ?_)
 unfold beqS at hp ⊢
 split at hp
 · rename_i a f b g _
   refine ⟨by simp,?_⟩
   unfold Try.f28
   simp only [go_sem,coe,zaa,Nat.reduceAdd,Nat.reduceSub,Nat.reduceMul,Int.reduceToNat,reduceCtorEq,↓reduceIte,Int.reducePow,Nat.reducePow,Int.reduceMod,Nat.reduceLeDiff,Int.reduceLE,Int.reduceNe,Int.reduceEq,Nat.reduceEqDiff,Nat.reduceLT,Nat.reduceBEq,ty,noS]
 · exact hp.elim
set_option maxHeartbeats 1000000 in
set_option maxHeartbeats 1000000 in
set_option maxHeartbeats 1000000 in
end
end Go.Proofs.Ytihbcgbmlecpbaa
namespace Go.Proofs.Ytihbcgbmlecpbaa
open Ax
theorem zec {α : Type} (g : α → AV) : ∀ (ps : List α) (i : Nat) (h : i < ps.length),slot (ps.map g) i = g ps[i]
 | p :: ps,0,h => rfl
 | p :: ps,i + 1,h => by
   simp only [List.map_cons,slot,List.getElem_cons_succ]
   exact zec g ps i (by simpa using h)
end Go.Proofs.Ytihbcgbmlecpbaa
namespace Go.Proofs.Ytihbcgbmlecpbaa
open Ax
structure Rec where
 d : Int
 t : Int
 k : Bool
 key : List UInt8
 dd : Bool
 val : List UInt8
def rv (r : Rec) : AV := .agg [.w (.int .i64 r.d),.w (.int .i64 r.t),.w (.bool r.k),.str r.key,.w (.bool r.dd),.str r.val]
def rrec : AV → Rec
 | .agg [.w (.int _ d),.w (.int _ t),.w (.bool k),.str key,.w (.bool dd),.str val] => ⟨d,t,k,key,dd,val⟩
 | _ => ⟨0,0,false,[],false,[]⟩
theorem zag (rs : List Rec) : (rs.map rv).map rrec = rs := by
 rw [List.map_map]; exact List.map_id _
def rk (r : Rec) : Int := rchk r.d r.t r.k r.key r.dd r.val
def rb (r : Rec) : List UInt8 := recB r.d r.t r.k r.key r.dd r.val
def layE (c : Int) : Int → List Rec → Int
 | _,[] => 0
 | a,r :: rs => if rk r = 0 then (if r.d ≤ a ∨ c ≤ r.d then 16 else layE c r.d rs) else rk r
theorem layE_cons (c a : Int) (r : Rec) (rs : List Rec) : layE c a (r :: rs) = if rk r = 0 then (if r.d ≤ a ∨ c ≤ r.d then 16 else layE c r.d rs) else rk r := rfl
def nums (b c p e s n : Int) : List Int := [b,c,p,e,s,n]
def zdr (l : List Int) : List UInt8 := l.flatMap fun n => putU (zz n).toNat
def batL (b c p e s : Int) (rs : List Rec) : List UInt8 := zdr (nums b c p e s rs.length) ++ rs.flatMap rb
def batE (b c p e s : Int) (rs : List Rec) : Int :=
 if bfld b c p e s rs.length = 0 then (if layE c (-1) rs = 0 then (if 8192 < (batL b c p e s rs).length then 5 else 0) else layE c (-1) rs) else bfld b c p e s rs.length
def batB (b c p e s : Int) (rs : List Rec) : List UInt8 := if batE b c p e s rs = 0 then batL b c p e s rs else []
def zcj : zak
 | [.agg [.w (.int .i64 b),.w (.int .i64 c),.w (.int .i64 p),.w (.int .i64 e),.w (.int .i64 s),.sg 6 xs f]],[] => ⟨xs.length ≤ 9223372036854775807 ∧ ∃ rs : List Rec,xs = rs.map rv,
     .tup [.sb (batB b c p e s (xs.map rrec)) false,.w (.int .i64 (batE b c p e s (xs.map rrec)))],[]⟩
 | _,_ => zbd
theorem headL_length : ∀ (l : List Int),(∀ x ∈ l,0 ≤ x ∧ x ≤ 9223372036854775807) → (zdr l).length ≤ 10 * l.length
 | [],_ => Nat.le_refl _
 | n :: l,h => by
   have h1 := headL_length l (fun x hx => h x (List.mem_cons_of_mem _ hx))
   have h2 := h n (by simp)
   have z := zda n (by omega) (by omega)
   have h3 := zay (zz n).toNat (by omega)
   unfold zdr at h1 ⊢
   rw [List.flatMap_cons,List.length_append,List.length_cons]; omega
theorem headL_snoc (l : List Int) (n : Int) : zdr (l ++ [n]) = zdr l ++ putU (zz n).toNat := by unfold zdr; simp
theorem rb_length (r : Rec) : (rb r).length ≤ 700 := by
 unfold rb recB
 split
 · rename_i h
   have hc := zfn r.d r.t r.k r.key r.dd r.val
   unfold rA rB at hc
   have hd : (-9223372036854775808 ≤ r.d ∧ r.d ≤ 9223372036854775807) ∧ (-9223372036854775808 ≤ r.t ∧ r.t ≤ 9223372036854775807) ∧ r.key.length ≤ 64 ∧ r.val.length ≤ 512 := by omega
   obtain ⟨hd1,hd2,hd3,hd4⟩ := hd
   clear hc
   have z1 := zda r.d hd1.1 hd1.2
   have z2 := zda r.t hd2.1 hd2.2
   have l1 := zay (zz r.d).toNat (by omega)
   have l2 := zay (zz r.t).toNat (by omega)
   have l3 := zdt r.key (by omega)
   have l4 := zdt r.val (by omega)
   unfold recL
   generalize r.k = k
   generalize r.dd = dd
   cases k <;> cases dd <;> simp <;> omega
 · simp
theorem rbs_length : ∀ (rs : List Rec),(rs.flatMap rb).length ≤ 700 * rs.length
 | [] => Nat.le_refl _
 | r :: rs => by
   have h1 := rbs_length rs
   have h2 := rb_length r
   rw [List.flatMap_cons,List.length_append,List.length_cons]; omega
theorem bfld_zero {b c p e s n : Int} (h : bfld b c p e s n = 0) : 1 ≤ c ∧ c ≤ 32 ∧ 0 ≤ b ∧ b ≤ 4611686018427387903 ∧ 0 ≤ p ∧ p ≤ 1099511627776 ∧ 0 ≤ e ∧ e ≤ 32767 ∧ 0 ≤ s ∧ s ≤ 2147483647 ∧ n ≤ c := by
 unfold bfld at h
 split at h
 · omega
 · split at h
   · omega
   · split at h <;> omega
def Sblay4 (f : FuncId) : Option zak :=
 match f with
 | 89 => some bfldS
 | 23 => some putS
 | 90 => some rputS
 | _ => none
theorem Sblay4_ok : Fns Try.prog Sblay4 := by
 intro f s h
 unfold Sblay4 at h
 split at h
 · injection h with h; subst h; exact ⟨⟨_,Try.func89,by kernel_rfl,by kernel_rfl⟩,bfld_sound⟩
 · injection h with h; subst h; exact ⟨⟨_,Try.func23,by kernel_rfl,by kernel_rfl⟩,put_sound⟩
 · injection h with h; subst h; exact ⟨⟨_,Try.func90,by kernel_rfl,by kernel_rfl⟩,recput_sound⟩
 · cases h
section
set_option maxRecDepth 100000
set_option maxHeartbeats 2000000 in
theorem blay4_sound : zaq Try.prog 83 zcj := by
 refine zbp (S := Sblay4) (T := ty) zau ty_ok Sblay4_ok Try.func83 (c := Try.f83.body.getD .skip) (by kernel_rfl) (by kernel_rfl) (fun xs pins hp _ => ?_)
 unfold zcj at hp ⊢
 split at hp
 · rename_i b c p e s xs f _
   obtain ⟨hL,rs,rfl⟩ := hp
   have hl4 : (rs.map rv).length = rs.length := by simp
   rw [hl4] at hL
   refine ⟨by simp,?_⟩
   unfold Try.f83
   obtain ⟨F,hF⟩ : ∃ F,bfld b c p e s rs.length = F := ⟨_,rfl⟩
   by_cases h0 : F = 0
   · have d0 : decide (F = 0) = true := decide_eq_true h0
     have hz := bfld_zero (hF.trans h0)
     obtain ⟨L,hLL⟩ : ∃ L,nums b c p e s rs.length = L := ⟨_,rfl⟩
     have hlen : L.length = 6 := by rw [← hLL]; rfl
     have hrg : ∀ x ∈ L,0 ≤ x ∧ x ≤ 9223372036854775807 := by
       rw [← hLL]; unfold nums
       intro x hx
       simp only [List.mem_cons,List.not_mem_nil,or_false] at hx
       omega
     have hL2 : [b,c,p,e,s,(rs.length : Int)] = L := hLL
     simp only [go_sem,zaa,Nat.reduceAdd,Nat.reduceSub,Nat.reduceMul,Int.reduceToNat,reduceCtorEq,↓reduceIte,Int.reducePow,Nat.reducePow,Int.reduceMod,Nat.reduceLeDiff,Int.reduceLE,Int.reduceNe,Int.reduceEq,Nat.reduceEqDiff,Nat.reduceLT,Nat.reduceBEq,ty,Sblay4,bfldS,hl4,hL,hF,d0,hL2,zag]
     have ht : top = 4294967296 := rfl
     have hnl : rs.length ≤ 32 := by omega
     refine zco ⟨fun m σ => ∃ k : Nat,m = 6 - k ∧ k ≤ 6 ∧
         σ = ⟨[.agg [.w (.int .i64 b),.w (.int .i64 c),.w (.int .i64 p),.w (.int .i64 e),.w (.int .i64 s),.sg 6 (rs.map rv) f],.rf 4 6 0 0,.junk,.junk,.junk,.ms 6 1 0 (zdr (L.take k)).length,.junk,.junk,.junk,.junk,.junk,.junk,.junk,.junk,.junk,.junk,.junk,.junk,.junk,.junk,.junk,.junk,.junk,.junk,.junk,.junk,.junk,.junk,.junk,.junk,.junk,.ms 5 1 0 6,.w (.int .i64 6),.w (.int .i64 k),.junk,.junk,.junk,.junk,.junk,.junk,.junk,.junk,.junk,.junk,.junk,.junk,.junk,.junk,.junk,.junk,.junk,.junk,.junk,.junk,.junk,.junk,.junk,.junk,.junk,.junk,.junk,.junk,.junk,.junk,.junk,.junk,.junk,.junk,.junk,.junk,.junk,.junk,.junk,.junk,.junk,.junk,.junk,.junk],[(4,.g 6 [.agg [.w (.int .i64 b),.w (.int .i64 c),.w (.int .i64 p),.w (.int .i64 e),.w (.int .i64 s),.sg 6 (rs.map rv) f]]),(5,.i L),(6,.b (zdr (L.take k)))],7⟩,?_,?_⟩
     · refine ⟨_,_,(zer 5 1 (.b []) rfl (by exact trivial)).trans (zaf [0,1,2,3,4,180,204] rfl rfl rfl ?_ ?_),0,rfl,by omega,rfl⟩
       · simp only [ssT,zai,zaj,setSlot,gOf,AV.ren,renL,Blk.ren,Ax.look,Ax.put,reduceCtorEq,↓reduceIte,Nat.reduceEqDiff,Nat.reduceLT,Nat.reduceAdd,List.length_append,List.length_cons,List.length_nil,Option.some.injEq]; exact ⟨by simp [zdr],rfl,rfl⟩
       · simp only [ssT,zai,zaj,setSlot,gOf,AV.ren,renL,Blk.ren,Ax.look,Ax.put,reduceCtorEq,↓reduceIte,Nat.reduceEqDiff,Nat.reduceLT,Nat.reduceAdd,List.length_append,List.length_cons,List.length_nil,Option.some.injEq]; rfl
     · rintro m σ ⟨k,rfl,hk,rfl⟩
       have e1 : ((k : Int) + 1 + 9223372036854775808) % 18446744073709551616 - 9223372036854775808 = ((k + 1 : Nat) : Int) := by omega
       by_cases hk6 : k < 6
       · have d1 : decide ((k : Int) < 6) = true := decide_eq_true (by omega)
         have hkl : k < L.length := by omega
         obtain ⟨N,hN⟩ : ∃ N,L.getD k 0 = N := ⟨_,rfl⟩
         have hNe : L[k] = N := by rw [← hN]; simp [hkl]
         have hNr := hrg N (hNe ▸ List.getElem_mem hkl)
         have hN1 : -9223372036854775808 ≤ N := by omega
         have hN2 : N ≤ 9223372036854775807 := hNr.2
         have z := zda N hN1 hN2
         have hPl := zay (zz N).toNat (by omega)
         have hsn : zdr (L.take (k + 1)) = zdr (L.take k) ++ putU (zz N).toNat := by
           rw [List.take_succ_eq_append_getElem hkl,headL_snoc,hNe]
         have hhl := headL_length (L.take k) (fun x hx => hrg x (List.mem_of_mem_take hx))
         rw [List.length_take] at hhl
         obtain ⟨P,hP⟩ : ∃ P,putU (zz N).toNat = P := ⟨_,rfl⟩
         rw [hP] at hsn hPl
         simp only [go_sem,zaa,Nat.reduceAdd,Nat.reduceSub,Nat.reduceMul,Int.reduceToNat,reduceCtorEq,↓reduceIte,Int.reducePow,Nat.reducePow,Int.reduceMod,Nat.reduceLeDiff,Int.reduceLE,Int.reduceNe,Int.reduceEq,Nat.reduceEqDiff,Nat.reduceLT,Nat.reduceBEq,ty,Sblay4,putS,d1,hN,hP,hN1,hN2,e1,hlen,List.take_length,Int.toNat_natCast,Nat.zero_add]
         repeat (refine And.intro (by omega) ?_)
         refine ⟨6 - (k + 1),_,by omega,zaf [0,1,2,3,4,5,63] rfl rfl rfl ?_ ?_,k + 1,rfl,by omega,rfl⟩
         · simp only [ssT,zai,zaj,setSlot,gOf,AV.ren,renL,Blk.ren,Ax.look,Ax.put,reduceCtorEq,↓reduceIte,Nat.reduceEqDiff,Nat.reduceLT,Nat.reduceAdd,List.length_append,List.length_cons,List.length_nil,Option.some.injEq,hsn,List.length_append]
         · simp only [ssT,zai,zaj,setSlot,gOf,AV.ren,renL,Blk.ren,Ax.look,Ax.put,reduceCtorEq,↓reduceIte,Nat.reduceEqDiff,Nat.reduceLT,Nat.reduceAdd,List.length_append,List.length_cons,List.length_nil,Option.some.injEq,hsn]
       · have d1 : decide ((k : Int) < 6) = false := decide_eq_false (by omega)
         have hk2 : L.take k = L := List.take_of_length_le (by omega)
         simp only [go_sem,zaa,Nat.reduceAdd,Nat.reduceSub,Nat.reduceMul,Int.reduceToNat,reduceCtorEq,↓reduceIte,Int.reducePow,Nat.reducePow,Int.reduceMod,Nat.reduceLeDiff,Int.reduceLE,Int.reduceNe,Int.reduceEq,Nat.reduceEqDiff,Nat.reduceLT,Nat.reduceBEq,ty,Sblay4,d1,hk2]
         have hE0 : layE c (-1) rs = layE c (-1) (rs.drop 0) := by rw [List.drop_zero]
         have hHl := headL_length L hrg
         refine zco ⟨fun m σ => ∃ (i : Nat) (a : Int),m = rs.length - i ∧ i ≤ rs.length ∧ layE c (-1) rs = layE c a (rs.drop i) ∧
             σ = ⟨[.agg [.w (.int .i64 b),.w (.int .i64 c),.w (.int .i64 p),.w (.int .i64 e),.w (.int .i64 s),.sg 6 (rs.map rv) f],.rf 4 6 0 0,.junk,.junk,.junk,.ms 5 1 0 (zdr L ++ (rs.take i).flatMap rb).length,.junk,.junk,.w (.int .i64 a),.junk,.junk,.junk,.junk,.junk,.junk,.junk,.junk,.junk,.junk,.junk,.junk,.junk,.junk,.junk,.junk,.junk,.junk,.junk,.junk,.junk,.junk,.junk,.junk,.junk,.junk,.junk,.junk,.junk,.junk,.junk,.junk,.junk,.junk,.sg 6 (rs.map rv) f,.w (.int .i64 rs.length),.w (.int .i64 i),.junk,.junk,.junk,.junk,.junk,.junk,.junk,.junk,.junk,.junk,.junk,.junk,.junk,.junk,.junk,.junk,.junk,.junk,.junk,.junk,.junk,.junk,.junk,.junk,.junk,.junk,.junk,.junk,.junk,.junk,.junk,.junk],[(4,.g 6 [.agg [.w (.int .i64 b),.w (.int .i64 c),.w (.int .i64 p),.w (.int .i64 e),.w (.int .i64 s),.sg 6 (rs.map rv) f]]),(5,.b (zdr L ++ (rs.take i).flatMap rb))],6⟩,?_,?_⟩
         · refine ⟨_,_,zaf [0,1,2,3,4,6] rfl rfl rfl ?_ ?_,0,-1,rfl,by omega,hE0,rfl⟩
           · simp only [ssT,zai,zaj,setSlot,gOf,AV.ren,renL,Blk.ren,Ax.look,Ax.put,reduceCtorEq,↓reduceIte,Nat.reduceEqDiff,Nat.reduceLT,Nat.reduceAdd,List.length_append,List.length_cons,List.length_nil,Option.some.injEq]; simp
           · simp only [ssT,zai,zaj,setSlot,gOf,AV.ren,renL,Blk.ren,Ax.look,Ax.put,reduceCtorEq,↓reduceIte,Nat.reduceEqDiff,Nat.reduceLT,Nat.reduceAdd,List.length_append,List.length_cons,List.length_nil,Option.some.injEq]; simp
         · rintro m σ ⟨i,a,rfl,hi,hinv,rfl⟩
           have e2 : ((i : Int) + 1 + 9223372036854775808) % 18446744073709551616 - 9223372036854775808 = ((i + 1 : Nat) : Int) := by omega
           have hbl := rbs_length (rs.take i)
           rw [List.length_take] at hbl
           obtain ⟨O,hO⟩ : ∃ O,zdr L ++ (rs.take i).flatMap rb = O := ⟨_,rfl⟩
           have hOl : O.length ≤ 60 + 700 * 32 := by rw [← hO,List.length_append]; omega
           by_cases hil : i < rs.length
           · have d3 : decide ((i : Int) < rs.length) = true := decide_eq_true (by omega)
             have hsl := zec rv rs i hil
             have hdr : rs.drop i = rs[i] :: rs.drop (i + 1) := List.drop_eq_getElem_cons hil
             have htk : (rs.take (i + 1)).flatMap rb = (rs.take i).flatMap rb ++ rb rs[i] := by
               rw [List.take_succ_eq_append_getElem hil,List.flatMap_append,List.flatMap_cons,List.flatMap_nil,List.append_nil]
             obtain ⟨R,hR⟩ : ∃ R,rs[i] = R := ⟨_,rfl⟩
             rw [hR] at hsl hdr htk
             simp only [rv] at hsl
             rw [hdr,layE_cons] at hinv
             have hRl := rb_length R
             have hrb : recB R.d R.t R.k R.key R.dd R.val = rb R := rfl
             have hrk : rchk R.d R.t R.k R.key R.dd R.val = rk R := rfl
             have htk2 : zdr L ++ (rs.take (i + 1)).flatMap rb = O ++ rb R := by rw [htk,← hO,List.append_assoc]
             have hln2 : (zdr L).length + ((rs.take (i + 1)).flatMap rb).length = O.length + (rb R).length := by rw [← List.length_append,htk2,List.length_append]
             by_cases hk0 : rk R = 0
             · have d4 : decide (rk R = 0) = true := decide_eq_true hk0
               rw [if_pos hk0] at hinv
               by_cases hA : R.d ≤ a
               · have d5 : decide (R.d ≤ a) = true := decide_eq_true hA
                 rw [if_pos (.inl hA)] at hinv
                 have hE : batE b c p e s rs = 16 := by unfold batE; rw [if_pos (hF.trans h0),if_neg (by omega),hinv]
                 have hB : batB b c p e s rs = [] := if_neg (by omega)
                 simp only [go_sem,zaa,Nat.reduceAdd,Nat.reduceSub,Nat.reduceMul,Int.reduceToNat,reduceCtorEq,↓reduceIte,Int.reducePow,Nat.reducePow,Int.reduceMod,Nat.reduceLeDiff,Int.reduceLE,Int.reduceNe,Int.reduceEq,Nat.reduceEqDiff,Nat.reduceLT,Nat.reduceBEq,ty,Sblay4,rputS,hrb,hrk,hO,hl4,d3,hsl,d4,d5,zag,hE,hB,Int.toNat_natCast]
                 refine ⟨by omega,_,zdl 2 (.sb [] false) (fun _ _ _ h => h.nilb),?_⟩
                 simp only [go_sem,coe,zaa,Nat.reduceAdd,Nat.reduceSub,Nat.reduceMul,Int.reduceToNat,reduceCtorEq,↓reduceIte,Int.reducePow,Nat.reducePow,Int.reduceMod,Nat.reduceLeDiff,Int.reduceLE,Int.reduceNe,Int.reduceEq,Nat.reduceEqDiff,Nat.reduceLT,Nat.reduceBEq,ty]
               · have d5 : decide (R.d ≤ a) = false := decide_eq_false hA
                 by_cases hC : c ≤ R.d
                 · have d6 : decide (c ≤ R.d) = true := decide_eq_true hC
                   rw [if_pos (.inr hC)] at hinv
                   have hE : batE b c p e s rs = 16 := by unfold batE; rw [if_pos (hF.trans h0),if_neg (by omega),hinv]
                   have hB : batB b c p e s rs = [] := if_neg (by omega)
                   simp only [go_sem,zaa,Nat.reduceAdd,Nat.reduceSub,Nat.reduceMul,Int.reduceToNat,reduceCtorEq,↓reduceIte,Int.reducePow,Nat.reducePow,Int.reduceMod,Nat.reduceLeDiff,Int.reduceLE,Int.reduceNe,Int.reduceEq,Nat.reduceEqDiff,Nat.reduceLT,Nat.reduceBEq,ty,Sblay4,rputS,hrb,hrk,hO,hl4,d3,hsl,d4,d5,d6,zag,hE,hB,Int.toNat_natCast]
                   refine ⟨by omega,_,zdl 2 (.sb [] false) (fun _ _ _ h => h.nilb),?_⟩
                   simp only [go_sem,coe,zaa,Nat.reduceAdd,Nat.reduceSub,Nat.reduceMul,Int.reduceToNat,reduceCtorEq,↓reduceIte,Int.reducePow,Nat.reducePow,Int.reduceMod,Nat.reduceLeDiff,Int.reduceLE,Int.reduceNe,Int.reduceEq,Nat.reduceEqDiff,Nat.reduceLT,Nat.reduceBEq,ty]
                 · have d6 : decide (c ≤ R.d) = false := decide_eq_false hC
                   rw [if_neg (by omega)] at hinv
                   simp only [go_sem,zaa,Nat.reduceAdd,Nat.reduceSub,Nat.reduceMul,Int.reduceToNat,reduceCtorEq,↓reduceIte,Int.reducePow,Nat.reducePow,Int.reduceMod,Nat.reduceLeDiff,Int.reduceLE,Int.reduceNe,Int.reduceEq,Nat.reduceEqDiff,Nat.reduceLT,Nat.reduceBEq,ty,Sblay4,rputS,hrb,hrk,hO,hl4,d3,hsl,d4,d5,d6,e2,List.take_length,Int.toNat_natCast]
                   repeat (refine And.intro (by omega) ?_)
                   refine ⟨rs.length - (i + 1),_,by omega,zaf [0,1,2,3,4,246] rfl rfl rfl ?_ ?_,i + 1,R.d,rfl,by omega,hinv,rfl⟩
                   · simp only [ssT,zai,zaj,setSlot,gOf,AV.ren,renL,Blk.ren,Ax.look,Ax.put,reduceCtorEq,↓reduceIte,Nat.reduceEqDiff,Nat.reduceLT,Nat.reduceAdd,List.length_append,List.length_cons,List.length_nil,Option.some.injEq,htk2,List.length_append,hln2]
                   · simp only [ssT,zai,zaj,setSlot,gOf,AV.ren,renL,Blk.ren,Ax.look,Ax.put,reduceCtorEq,↓reduceIte,Nat.reduceEqDiff,Nat.reduceLT,Nat.reduceAdd,List.length_append,List.length_cons,List.length_nil,Option.some.injEq,htk2]
             · have d4 : decide (rk R = 0) = false := decide_eq_false hk0
               rw [if_neg hk0] at hinv
               have hE : batE b c p e s rs = rk R := by unfold batE; rw [if_pos (hF.trans h0),if_neg (by omega),hinv]
               have hB : batB b c p e s rs = [] := if_neg (by omega)
               simp only [go_sem,zaa,Nat.reduceAdd,Nat.reduceSub,Nat.reduceMul,Int.reduceToNat,reduceCtorEq,↓reduceIte,Int.reducePow,Nat.reducePow,Int.reduceMod,Nat.reduceLeDiff,Int.reduceLE,Int.reduceNe,Int.reduceEq,Nat.reduceEqDiff,Nat.reduceLT,Nat.reduceBEq,ty,Sblay4,rputS,hrb,hrk,hO,hl4,d3,hsl,d4,zag,hE,hB,Int.toNat_natCast]
               refine ⟨by omega,_,zdl 2 (.sb [] false) (fun _ _ _ h => h.nilb),?_⟩
               simp only [go_sem,coe,zaa,Nat.reduceAdd,Nat.reduceSub,Nat.reduceMul,Int.reduceToNat,reduceCtorEq,↓reduceIte,Int.reducePow,Nat.reducePow,Int.reduceMod,Nat.reduceLeDiff,Int.reduceLE,Int.reduceNe,Int.reduceEq,Nat.reduceEqDiff,Nat.reduceLT,Nat.reduceBEq,ty]
           · have d3 : decide ((i : Int) < rs.length) = false := decide_eq_false (by omega)
             have hdr : rs.drop i = [] := List.drop_eq_nil_of_le (by omega)
             have htk : rs.take i = rs := List.take_of_length_le (by omega)
             rw [hdr] at hinv
             have hl0 : layE c (-1) rs = 0 := hinv
             have hOe : batL b c p e s rs = O := by unfold batL; rw [hLL,← hO,htk]
             by_cases h8 : 8192 < O.length
             · have d4 : decide ((8192 : Int) < O.length) = true := decide_eq_true (by omega)
               have hE : batE b c p e s rs = 5 := by unfold batE; rw [if_pos (hF.trans h0),if_pos hl0,hOe,if_pos h8]
               have hB : batB b c p e s rs = [] := if_neg (by omega)
               simp only [go_sem,zaa,Nat.reduceAdd,Nat.reduceSub,Nat.reduceMul,Int.reduceToNat,reduceCtorEq,↓reduceIte,Int.reducePow,Nat.reducePow,Int.reduceMod,Nat.reduceLeDiff,Int.reduceLE,Int.reduceNe,Int.reduceEq,Nat.reduceEqDiff,Nat.reduceLT,Nat.reduceBEq,ty,Sblay4,hO,d3,d4,zag,hE,hB]
               refine ⟨_,zdl 2 (.sb [] false) (fun _ _ _ h => h.nilb),?_⟩
               simp only [go_sem,coe,zaa,Nat.reduceAdd,Nat.reduceSub,Nat.reduceMul,Int.reduceToNat,reduceCtorEq,↓reduceIte,Int.reducePow,Nat.reducePow,Int.reduceMod,Nat.reduceLeDiff,Int.reduceLE,Int.reduceNe,Int.reduceEq,Nat.reduceEqDiff,Nat.reduceLT,Nat.reduceBEq,ty]
             · have d4 : decide ((8192 : Int) < O.length) = false := decide_eq_false (by omega)
               have hE : batE b c p e s rs = 0 := by unfold batE; rw [if_pos (hF.trans h0),if_pos hl0,hOe,if_neg h8]
               have hB : batB b c p e s rs = O := by unfold batB; rw [if_pos hE,hOe]
               simp only [go_sem,zaa,Nat.reduceAdd,Nat.reduceSub,Nat.reduceMul,Int.reduceToNat,reduceCtorEq,↓reduceIte,Int.reducePow,Nat.reducePow,Int.reduceMod,Nat.reduceLeDiff,Int.reduceLE,Int.reduceNe,Int.reduceEq,Nat.reduceEqDiff,Nat.reduceLT,Nat.reduceBEq,ty,Sblay4,hO,d3,d4,zag,hE,hB]
               exact put_ends rfl rfl rfl rfl rfl rfl
   · have d0 : decide (F = 0) = false := decide_eq_false h0
     have hE : batE b c p e s rs = F := by unfold batE; rw [hF,if_neg h0]
     have hB : batB b c p e s rs = [] := if_neg (by rw [hE]; exact h0)
     simp only [go_sem,zaa,Nat.reduceAdd,Nat.reduceSub,Nat.reduceMul,Int.reduceToNat,reduceCtorEq,↓reduceIte,Int.reducePow,Nat.reducePow,Int.reduceMod,Nat.reduceLeDiff,Int.reduceLE,Int.reduceNe,Int.reduceEq,Nat.reduceEqDiff,Nat.reduceLT,Nat.reduceBEq,ty,Sblay4,bfldS,hl4,hL,hF,d0,zag,hE,hB]
     refine ⟨_,zdl 2 (.sb [] false) (fun _ _ _ h => h.nilb),?_⟩
     simp only [go_sem,coe,zaa,Nat.reduceAdd,Nat.reduceSub,Nat.reduceMul,Int.reduceToNat,reduceCtorEq,↓reduceIte,Int.reducePow,Nat.reducePow,Int.reduceMod,Nat.reduceLeDiff,Int.reduceLE,Int.reduceNe,Int.reduceEq,Nat.reduceEqDiff,Nat.reduceLT,Nat.reduceBEq,ty]
 · exact hp.elim
end
end Go.Proofs.Ytihbcgbmlecpbaa
namespace Go.Proofs.Ytihbcgbmlecpbaa
open Ax
section
set_option maxRecDepth 100000
def sameB (d t : Int) (k : Bool) (key : List UInt8) (dd : Bool) (val : List UInt8) (d' t' : Int) (k' : Bool) (key' : List UInt8) (dd' : Bool) (val' : List UInt8) : Bool :=
 decide (d = d') && (decide (t = t') && ((k == k') && (decide (key = key') && ((dd == dd') && (decide (val = val') && true)))))
def rsameS : zak
 | [.agg [.w (.int .i64 d),.w (.int .i64 t),.w (.bool k),.str key,.w (.bool dd),.str val],.agg [.w (.int .i64 d'),.w (.int .i64 t'),.w (.bool k'),.str key',.w (.bool dd'),.str val']],[] => ⟨True,.w (.bool (sameB d t k key dd val d' t' k' key' dd' val')),[]⟩
 | _,_ => zbd
theorem rsame_sound : zaq Try.prog 76 rsameS := by
 refine zal (S := noS) (T := ty) zau ty_ok zbs Try.func76 (c := Try.f76.body.getD .skip) (by kernel_rfl) (by kernel_rfl) (fun xs pins hp _ => ?_)
 unfold rsameS at hp ⊢
 split at hp
 · rename_i d t k key dd val d' t' k' key' dd' val' _
   refine ⟨by simp,?_⟩
   unfold Try.f76
   simp only [go_sem,coe,zaa,Nat.reduceAdd,Nat.reduceSub,Nat.reduceMul,Int.reduceToNat,reduceCtorEq,↓reduceIte,Int.reducePow,Nat.reducePow,Int.reduceMod,Nat.reduceLeDiff,Int.reduceLE,Int.reduceNe,Int.reduceEq,Nat.reduceEqDiff,Nat.reduceLT,Nat.reduceBEq,ty,noS,sameB]
 · exact hp.elim
end
end Go.Proofs.Ytihbcgbmlecpbaa
namespace Go.Proofs.Ytihbcgbmlecpbaa
open Ax
instance : DecidableEq Rec := fun a b => decidable_of_iff (a.d = b.d ∧ a.t = b.t ∧ a.k = b.k ∧ a.key = b.key ∧ a.dd = b.dd ∧ a.val = b.val) (by cases a; cases b; simp)
theorem sameB_rec (r q : Rec) : sameB r.d r.t r.k r.key r.dd r.val q.d q.t q.k q.key q.dd q.val = decide (r = q) := by
 cases r; cases q
 unfold sameB
 rw [Bool.eq_iff_iff]
 simp
def bchkS4 : zak
 | [.agg [.w (.int .i64 b),.w (.int .i64 c),.w (.int .i64 p),.w (.int .i64 e),.w (.int .i64 s),.sg 6 xs f]],[] => ⟨xs.length ≤ 9223372036854775807 ∧ ∃ rs : List Rec,xs = rs.map rv,
     .w (.int .i64 (batE b c p e s (xs.map rrec))),[]⟩
 | _,_ => zbd
def eqfS : zak
 | [.sg 6 xs f,.sg 6 ys g,.fn id []],[] => ⟨id = 76 ∧ (xs.length ≤ 9223372036854775807 ∧ ∃ rs : List Rec,xs = rs.map rv) ∧ ys.length ≤ 9223372036854775807 ∧ ∃ qs : List Rec,ys = qs.map rv,
     .w (.bool (decide (xs.map rrec = ys.map rrec))),[]⟩
 | _,_ => zbd
def Sbl3 (f : FuncId) : Option zak :=
 match f with
 | 83 => some zcj
 | _ => none
theorem Sbl3_ok : Fns Try.prog Sbl3 := by
 intro f s h
 unfold Sbl3 at h
 split at h
 · injection h with h; subst h; exact ⟨⟨_,Try.func83,by kernel_rfl,by kernel_rfl⟩,blay4_sound⟩
 · cases h
def Seqf (f : FuncId) : Option zak :=
 match f with
 | 76 => some rsameS
 | _ => none
theorem Seqf_ok : Fns Try.prog Seqf := by
 intro f s h
 unfold Seqf at h
 split at h
 · injection h with h; subst h; exact ⟨⟨_,Try.func76,by kernel_rfl,by kernel_rfl⟩,rsame_sound⟩
 · cases h
section
set_option maxRecDepth 100000
set_option maxHeartbeats 1000000 in
theorem bput4_sound : zaq Try.prog 71 zcj := by
 refine zal (S := Sbl3) (T := ty) zau ty_ok Sbl3_ok Try.func71 (c := Try.f71.body.getD .skip) (by kernel_rfl) (by kernel_rfl) (fun xs pins hp _ => ?_)
 unfold zcj at hp ⊢
 split at hp
 · rename_i b c p e s xs f _
   obtain ⟨hL,rs,rfl⟩ := hp
   have hl4 : (rs.map rv).length = rs.length := by simp
   rw [hl4] at hL
   have hex : ∃ qs : List Rec,rs.map rv = qs.map rv := ⟨rs,rfl⟩
   refine ⟨by simp,?_⟩
   unfold Try.f71
   simp only [go_sem,zaa,Nat.reduceAdd,Nat.reduceSub,Nat.reduceMul,Int.reduceToNat,reduceCtorEq,↓reduceIte,Int.reducePow,Nat.reducePow,Int.reduceMod,Nat.reduceLeDiff,Int.reduceLE,Int.reduceNe,Int.reduceEq,Nat.reduceEqDiff,Nat.reduceLT,Nat.reduceBEq,ty,Sbl3,zcj,hl4,hL,hex,zag]
 · exact hp.elim
set_option maxHeartbeats 1000000 in
theorem bchk4_sound : zaq Try.prog 66 bchkS4 := by
 refine zal (S := Sbl3) (T := ty) zau ty_ok Sbl3_ok Try.func66 (c := Try.f66.body.getD .skip) (by kernel_rfl) (by kernel_rfl) (fun xs pins hp _ => ?_)
 unfold bchkS4 at hp ⊢
 split at hp
 · rename_i b c p e s xs f _
   obtain ⟨hL,rs,rfl⟩ := hp
   have hl4 : (rs.map rv).length = rs.length := by simp
   rw [hl4] at hL
   have hex : ∃ qs : List Rec,rs.map rv = qs.map rv := ⟨rs,rfl⟩
   refine ⟨by simp,?_⟩
   unfold Try.f66
   simp only [go_sem,zaa,Nat.reduceAdd,Nat.reduceSub,Nat.reduceMul,Int.reduceToNat,reduceCtorEq,↓reduceIte,Int.reducePow,Nat.reducePow,Int.reduceMod,Nat.reduceLeDiff,Int.reduceLE,Int.reduceNe,Int.reduceEq,Nat.reduceEqDiff,Nat.reduceLT,Nat.reduceBEq,ty,Sbl3,zcj,hl4,hL,hex,zag]
 · exact hp.elim
set_option maxHeartbeats 1000000 in
theorem eqf_sound : zaq Try.prog 75 eqfS := by
 refine zal (S := Seqf) (T := ty) zau ty_ok Seqf_ok Try.func75 (c := Try.f75.body.getD .skip) (by kernel_rfl) (by kernel_rfl) (fun xs pins hp _ => ?_)
 unfold eqfS at hp ⊢
 split at hp
 · rename_i xs f ys g id _
   obtain ⟨rfl,⟨hL1,rs,rfl⟩,hL2,qs,rfl⟩ := hp
   rw [List.length_map] at hL1 hL2
   refine ⟨by simp,?_⟩
   have hlp : (rs.map rv).length = rs.length := by simp
   have hlq : (qs.map rv).length = qs.length := by simp
   unfold Try.f75
   by_cases hl : rs.length = qs.length
   · have d0 : decide ((rs.length : Int) = qs.length) = true := decide_eq_true (by omega)
     have hk : rs = qs ↔ ∀ j (h : j < rs.length) (h' : j < qs.length),rs[j] = qs[j] := ⟨fun h => by subst h; intros; rfl,fun h => List.ext_getElem hl h⟩
     simp only [go_sem,zaa,Nat.reduceAdd,Nat.reduceSub,Nat.reduceMul,Int.reduceToNat,reduceCtorEq,↓reduceIte,Int.reducePow,Nat.reducePow,Int.reduceMod,Nat.reduceLeDiff,Int.reduceLE,Int.reduceNe,Int.reduceEq,Nat.reduceEqDiff,Nat.reduceLT,Nat.reduceBEq,ty,Seqf,hlp,hlq,d0,zag]
     refine zco ⟨fun m σ => ∃ i : Nat,m = rs.length - i ∧ i ≤ rs.length ∧ (∀ j (h : j < rs.length) (h' : j < qs.length),j < i → rs[j] = qs[j]) ∧
         σ = ⟨[.sg 6 (rs.map rv) f,.sg 6 (qs.map rv) g,.fn 76 [],.junk,.junk,.junk,.junk,.junk,.junk,.junk,.junk,.junk,.junk,.junk,.junk,.sg 6 (rs.map rv) f,.w (.int .i64 rs.length),.w (.int .i64 i),.junk,.junk,.junk,.junk,.junk,.junk,.junk,.junk,.junk,.junk,.junk,.junk,.junk,.junk],[],4⟩,?_,?_⟩
     · refine ⟨_,_,zaf [0,1,2,3] rfl rfl rfl ?_ ?_,0,rfl,by omega,by intro j _ _ h; omega,rfl⟩
       · simp only [ssT,zai,zaj,setSlot,gOf,AV.ren,renL,Blk.ren,Ax.look,Ax.put,reduceCtorEq,↓reduceIte,Nat.reduceEqDiff,Nat.reduceLT,Nat.reduceAdd,List.length_append,List.length_cons,List.length_nil,Option.some.injEq]; simp
       · simp only [ssT,zai,zaj,setSlot,gOf,AV.ren,renL,Blk.ren,Ax.look,Ax.put,reduceCtorEq,↓reduceIte,Nat.reduceEqDiff,Nat.reduceLT,Nat.reduceAdd,List.length_append,List.length_cons,List.length_nil,Option.some.injEq]
     · rintro m σ ⟨i,rfl,hi,hall,rfl⟩
       by_cases hil : i < rs.length
       · have d1 : decide ((i : Int) < rs.length) = true := decide_eq_true (by omega)
         have e1 : ((i : Int) + 1 + 9223372036854775808) % 18446744073709551616 - 9223372036854775808 = ((i + 1 : Nat) : Int) := by omega
         have hiq : i < qs.length := by omega
         have hs1 := zec rv rs i hil
         have hs2 := zec rv qs i hiq
         obtain ⟨P,hP⟩ : ∃ P,rs[i] = P := ⟨_,rfl⟩
         obtain ⟨Q,hQ⟩ : ∃ Q,qs[i] = Q := ⟨_,rfl⟩
         rw [hP] at hs1
         rw [hQ] at hs2
         simp only [rv] at hs1 hs2
         have hsm := sameB_rec P Q
         by_cases ha : P = Q
         · have hsm2 : sameB P.d P.t P.k P.key P.dd P.val Q.d Q.t Q.k Q.key Q.dd Q.val = true := by rw [hsm]; exact decide_eq_true ha
           simp only [go_sem,zaa,Nat.reduceAdd,Nat.reduceSub,Nat.reduceMul,Int.reduceToNat,reduceCtorEq,↓reduceIte,Int.reducePow,Nat.reducePow,Int.reduceMod,Nat.reduceLeDiff,Int.reduceLE,Int.reduceNe,Int.reduceEq,Nat.reduceEqDiff,Nat.reduceLT,Nat.reduceBEq,ty,Seqf,rsameS,hlp,hlq,d1,hs1,hs2,e1,hsm2,Int.toNat_natCast]
           repeat (refine And.intro (by omega) ?_)
           refine ⟨rs.length - (i + 1),_,by omega,zaf [0,1,2,3] rfl rfl rfl ?_ ?_,i + 1,rfl,by omega,?_,rfl⟩
           · simp only [ssT,zai,zaj,setSlot,gOf,AV.ren,renL,Blk.ren,Ax.look,Ax.put,reduceCtorEq,↓reduceIte,Nat.reduceEqDiff,Nat.reduceLT,Nat.reduceAdd,List.length_append,List.length_cons,List.length_nil,Option.some.injEq]
           · simp only [ssT,zai,zaj,setSlot,gOf,AV.ren,renL,Blk.ren,Ax.look,Ax.put,reduceCtorEq,↓reduceIte,Nat.reduceEqDiff,Nat.reduceLT,Nat.reduceAdd,List.length_append,List.length_cons,List.length_nil,Option.some.injEq]
           · intro j h h' hj
             rcases Nat.lt_or_ge j i with h2 | h2
             · exact hall j h h' h2
             · have : j = i := by omega
               subst this
               rw [hP,hQ]; exact ha
         · have hsm2 : sameB P.d P.t P.k P.key P.dd P.val Q.d Q.t Q.k Q.key Q.dd Q.val = false := by rw [hsm]; exact decide_eq_false ha
           have dr : decide (rs = qs) = false := decide_eq_false (fun h => ha (by rw [← hP,← hQ]; exact hk.1 h i hil hiq))
           simp only [go_sem,zaa,Nat.reduceAdd,Nat.reduceSub,Nat.reduceMul,Int.reduceToNat,reduceCtorEq,↓reduceIte,Int.reducePow,Nat.reducePow,Int.reduceMod,Nat.reduceLeDiff,Int.reduceLE,Int.reduceNe,Int.reduceEq,Nat.reduceEqDiff,Nat.reduceLT,Nat.reduceBEq,ty,Seqf,rsameS,hlp,hlq,d1,hs1,hs2,e1,hsm2,dr,zag,Int.toNat_natCast]
           omega
       · have d1 : decide ((i : Int) < rs.length) = false := decide_eq_false (by omega)
         have dr : decide (rs = qs) = true := decide_eq_true (hk.2 fun j h h' => hall j h h' (by omega))
         simp only [go_sem,zaa,Nat.reduceAdd,Nat.reduceSub,Nat.reduceMul,Int.reduceToNat,reduceCtorEq,↓reduceIte,Int.reducePow,Nat.reducePow,Int.reduceMod,Nat.reduceLeDiff,Int.reduceLE,Int.reduceNe,Int.reduceEq,Nat.reduceEqDiff,Nat.reduceLT,Nat.reduceBEq,ty,Seqf,hlp,hlq,d1,dr,zag]
   · have d0 : decide ((rs.length : Int) = qs.length) = false := decide_eq_false (by omega)
     have dr : decide (rs = qs) = false := decide_eq_false (fun h => hl (by rw [h]))
     simp only [go_sem,zaa,Nat.reduceAdd,Nat.reduceSub,Nat.reduceMul,Int.reduceToNat,reduceCtorEq,↓reduceIte,Int.reducePow,Nat.reducePow,Int.reduceMod,Nat.reduceLeDiff,Int.reduceLE,Int.reduceNe,Int.reduceEq,Nat.reduceEqDiff,Nat.reduceLT,Nat.reduceBEq,ty,Seqf,hlp,hlq,d0,dr,zag]
 · exact hp.elim
end
end Go.Proofs.Ytihbcgbmlecpbaa
namespace Go.Proofs.Ytihbcgbmlecpbaa
open Ax
def zbw (b c p e s : Int) (rs : List Rec) (b' c' p' e' s' : Int) (qs : List Rec) : Bool := decide (b = b' ∧ c = c' ∧ p = p' ∧ e = e' ∧ s = s' ∧ rs = qs)
def bsameS4 : zak
 | [.agg [.w (.int .i64 b),.w (.int .i64 c),.w (.int .i64 p),.w (.int .i64 e),.w (.int .i64 s),.sg 6 xs f],.agg [.w (.int .i64 b'),.w (.int .i64 c'),.w (.int .i64 p'),.w (.int .i64 e'),.w (.int .i64 s'),.sg 6 ys g]],[] =>
     ⟨(xs.length ≤ 9223372036854775807 ∧ ∃ rs : List Rec,xs = rs.map rv) ∧ ys.length ≤ 9223372036854775807 ∧ ∃ qs : List Rec,ys = qs.map rv,
     .w (.bool (zbw b c p e s (xs.map rrec) b' c' p' e' s' (ys.map rrec))),[]⟩
 | _,_ => zbd
def Sbsame4 (f : FuncId) : Option zak :=
 match f with
 | 75 => some eqfS
 | _ => none
theorem Sbsame4_ok : Fns Try.prog Sbsame4 := by
 intro f s h
 unfold Sbsame4 at h
 split at h
 · injection h with h; subst h; exact ⟨⟨_,Try.func75,by kernel_rfl,by kernel_rfl⟩,eqf_sound⟩
 · cases h
section
set_option maxRecDepth 100000
set_option maxHeartbeats 1000000 in
theorem bsame4_sound : zaq Try.prog 53 bsameS4 := by
 refine zal (S := Sbsame4) (T := ty) zau ty_ok Sbsame4_ok Try.func53 (c := Try.f53.body.getD .skip) (by kernel_rfl) (by kernel_rfl) (fun xs pins hp _ => ?_)
 unfold bsameS4 at hp ⊢
 split at hp
 · rename_i b c p e s xs f b' c' p' e' s' ys g _
   obtain ⟨⟨hL1,rs,rfl⟩,hL2,qs,rfl⟩ := hp
   rw [List.length_map] at hL1 hL2
   refine ⟨by simp,?_⟩
   have hlp : (rs.map rv).length = rs.length := by simp
   have hlq : (qs.map rv).length = qs.length := by simp
   have hx1 : ∃ qs_1 : List Rec,rs.map rv = qs_1.map rv := ⟨rs,rfl⟩
   have hx2 : ∃ qs_1 : List Rec,qs.map rv = qs_1.map rv := ⟨qs,rfl⟩
   unfold Try.f53
   by_cases h1 : b = b'
   · have d1 : decide (b = b') = true := decide_eq_true h1
     by_cases h2 : c = c'
     · have d2 : decide (c = c') = true := decide_eq_true h2
       by_cases h3 : p = p'
       · have d3 : decide (p = p') = true := decide_eq_true h3
         by_cases h4 : e = e'
         · have d4 : decide (e = e') = true := decide_eq_true h4
           by_cases h5 : s = s'
           · have d5 : decide (s = s') = true := decide_eq_true h5
             have hc1 : coe ty 23 (.sg 6 (rs.map rv) f) = .sg 6 (rs.map rv) f := by cases rs <;> rfl
             have hc2 : coe ty 23 (.sg 6 (qs.map rv) g) = .sg 6 (qs.map rv) g := by cases qs <;> rfl
             have hv : zbw b c p e s rs b' c' p' e' s' qs = decide (rs = qs) := by unfold zbw; simp [h1,h2,h3,h4,h5]
             simp only [go_sem,zaa,Nat.reduceAdd,Nat.reduceSub,Nat.reduceMul,Int.reduceToNat,reduceCtorEq,↓reduceIte,Int.reducePow,Nat.reducePow,Int.reduceMod,Nat.reduceLeDiff,Int.reduceLE,Int.reduceNe,Int.reduceEq,Nat.reduceEqDiff,Nat.reduceLT,Nat.reduceBEq,hc1,hc2,ty,Sbsame4,eqfS,hlp,hlq,hL1,hL2,hx1,hx2,zag,d1,d2,d3,d4,d5,hv]
           · have d5 : decide (s = s') = false := decide_eq_false h5
             have hv : zbw b c p e s rs b' c' p' e' s' qs = false := decide_eq_false (fun h => h5 h.2.2.2.2.1)
             simp only [go_sem,zaa,Nat.reduceAdd,Nat.reduceSub,Nat.reduceMul,Int.reduceToNat,reduceCtorEq,↓reduceIte,Int.reducePow,Nat.reducePow,Int.reduceMod,Nat.reduceLeDiff,Int.reduceLE,Int.reduceNe,Int.reduceEq,Nat.reduceEqDiff,Nat.reduceLT,Nat.reduceBEq,ty,Sbsame4,zag,d1,d2,d3,d4,d5,hv]
         · have d4 : decide (e = e') = false := decide_eq_false h4
           have hv : zbw b c p e s rs b' c' p' e' s' qs = false := decide_eq_false (fun h => h4 h.2.2.2.1)
           simp only [go_sem,zaa,Nat.reduceAdd,Nat.reduceSub,Nat.reduceMul,Int.reduceToNat,reduceCtorEq,↓reduceIte,Int.reducePow,Nat.reducePow,Int.reduceMod,Nat.reduceLeDiff,Int.reduceLE,Int.reduceNe,Int.reduceEq,Nat.reduceEqDiff,Nat.reduceLT,Nat.reduceBEq,ty,Sbsame4,zag,d1,d2,d3,d4,hv]
       · have d3 : decide (p = p') = false := decide_eq_false h3
         have hv : zbw b c p e s rs b' c' p' e' s' qs = false := decide_eq_false (fun h => h3 h.2.2.1)
         simp only [go_sem,zaa,Nat.reduceAdd,Nat.reduceSub,Nat.reduceMul,Int.reduceToNat,reduceCtorEq,↓reduceIte,Int.reducePow,Nat.reducePow,Int.reduceMod,Nat.reduceLeDiff,Int.reduceLE,Int.reduceNe,Int.reduceEq,Nat.reduceEqDiff,Nat.reduceLT,Nat.reduceBEq,ty,Sbsame4,zag,d1,d2,d3,hv]
     · have d2 : decide (c = c') = false := decide_eq_false h2
       have hv : zbw b c p e s rs b' c' p' e' s' qs = false := decide_eq_false (fun h => h2 h.2.1)
       simp only [go_sem,zaa,Nat.reduceAdd,Nat.reduceSub,Nat.reduceMul,Int.reduceToNat,reduceCtorEq,↓reduceIte,Int.reducePow,Nat.reducePow,Int.reduceMod,Nat.reduceLeDiff,Int.reduceLE,Int.reduceNe,Int.reduceEq,Nat.reduceEqDiff,Nat.reduceLT,Nat.reduceBEq,ty,Sbsame4,zag,d1,d2,hv]
   · have d1 : decide (b = b') = false := decide_eq_false h1
     have hv : zbw b c p e s rs b' c' p' e' s' qs = false := decide_eq_false (fun h => h1 h.1)
     simp only [go_sem,zaa,Nat.reduceAdd,Nat.reduceSub,Nat.reduceMul,Int.reduceToNat,reduceCtorEq,↓reduceIte,Int.reducePow,Nat.reducePow,Int.reduceMod,Nat.reduceLeDiff,Int.reduceLE,Int.reduceNe,Int.reduceEq,Nat.reduceEqDiff,Nat.reduceLT,Nat.reduceBEq,ty,Sbsame4,zag,d1,hv]
 · exact hp.elim
end
end Go.Proofs.Ytihbcgbmlecpbaa
namespace Go.Proofs.Ytihbcgbmlecpbaa
open Ax
theorem zbi : ∀ (G : List Rec),closedL (G.map rv) = true
 | [] => rfl
 | x :: r => by simp only [List.map_cons,closedL,rv,AV.closed,Bool.true_and]; exact zbi r
theorem ren_rv (g : Nat → Nat) : ∀ (G : List Rec),renL g (G.map rv) = G.map rv
 | [] => rfl
 | x :: r => by simp only [List.map_cons,renL,ren_rv g r]; rfl
section
set_option maxRecDepth 100000
set_option maxHeartbeats 1000000 in
end
end Go.Proofs.Ytihbcgbmlecpbaa
namespace Go.Proofs.Ytihbcgbmlecpbaa
open Ax
theorem and1 : ∀ x : Fin 256,bits .and .u8 ((x.val : Nat) : Int) 1 = if x.val % 2 = 1 then 1 else 0 := by decide +kernel
theorem and2 : ∀ x : Fin 256,bits .and .u8 ((x.val : Nat) : Int) 2 = if x.val / 2 % 2 = 1 then 2 else 0 := by decide +kernel
def g0 (bs : List UInt8) (e : Int) : Nat := (zci 1 bs e).toNat
def gb1 (bs : List UInt8) (e : Int) := rfixL 1 bs e
def ge1 (bs : List UInt8) (e : Int) := rfixE 1 bs e
def gd (bs : List UInt8) (e : Int) : Int := numN (gb1 bs e) (ge1 bs e)
def gb2 (bs : List UInt8) (e : Int) := numL (gb1 bs e) (ge1 bs e)
def ge2 (bs : List UInt8) (e : Int) := numE (gb1 bs e) (ge1 bs e)
def gt (bs : List UInt8) (e : Int) : Int := numN (gb2 bs e) (ge2 bs e)
def gb3 (bs : List UInt8) (e : Int) := numL (gb2 bs e) (ge2 bs e)
def ge3 (bs : List UInt8) (e : Int) := numE (gb2 bs e) (ge2 bs e)
def gk (bs : List UInt8) (e : Int) : Bool := decide (g0 bs e % 2 = 1)
def gdd (bs : List UInt8) (e : Int) : Bool := decide (g0 bs e / 2 % 2 = 1)
def gkey (bs : List UInt8) (e : Int) : List UInt8 := if gk bs e then rtS' 64 (gb3 bs e) (ge3 bs e) else []
def gb4 (bs : List UInt8) (e : Int) : List UInt8 := if gk bs e then rtL 64 (gb3 bs e) (ge3 bs e) else gb3 bs e
def ge4 (bs : List UInt8) (e : Int) : Int := if gk bs e then rtE 64 (gb3 bs e) (ge3 bs e) else ge3 bs e
def gval (bs : List UInt8) (e : Int) : List UInt8 := if gdd bs e then [] else rtS' 512 (gb4 bs e) (ge4 bs e)
def gb5 (bs : List UInt8) (e : Int) : List UInt8 := if gdd bs e then gb4 bs e else rtL 512 (gb4 bs e) (ge4 bs e)
def ge5 (bs : List UInt8) (e : Int) : Int := if gdd bs e then ge4 bs e else rtE 512 (gb4 bs e) (ge4 bs e)
def gerr (bs : List UInt8) (e : Int) : Int :=
 if ge5 bs e ≠ 0 then ge5 bs e else if 4 ≤ g0 bs e ∨ rchk (gd bs e) (gt bs e) (gk bs e) (gkey bs e) (gdd bs e) (gval bs e) ≠ 0 then 4 else 0
def grec (bs : List UInt8) (e : Int) : AV := if gerr bs e = 0 then recV (gd bs e) (gt bs e) (gk bs e) (gkey bs e) (gdd bs e) (gval bs e) else recV 0 0 false [] false []
def rgetS : zak
 | [.rf 0 2 0 0],[.g 2 [.agg [.sb bs f,.w (.int .i64 e)]]] => ⟨bs.length ≤ 1000000,.tup [grec bs e,.w (.int .i64 (gerr bs e))],[rd (gb5 bs e) f (ge5 bs e)]⟩
 | [.w (.pointer none)],[] => ⟨True,.tup [recV 0 0 false [] false [],.w (.int .i64 1)],[]⟩
 | _,_ => zbd
def Srget (f : FuncId) : Option zak :=
 match f with
 | 35 => some zcx
 | 34 => some numS
 | 40 => some zbo
 | 79 => some errS
 | 91 => some zbh
 | _ => none
theorem Srget_ok : Fns Try.prog Srget := by
 intro f s h
 unfold Srget at h
 split at h
 · injection h with h; subst h; exact ⟨⟨_,Try.func35,by kernel_rfl,by kernel_rfl⟩,mfixed_sound⟩
 · injection h with h; subst h; exact ⟨⟨_,Try.func34,by kernel_rfl,by kernel_rfl⟩,num_sound⟩
 · injection h with h; subst h; exact ⟨⟨_,Try.func40,by kernel_rfl,by kernel_rfl⟩,mtext_sound⟩
 · injection h with h; subst h; exact ⟨⟨_,Try.func79,by kernel_rfl,by kernel_rfl⟩,err_sound⟩
 · injection h with h; subst h; exact ⟨⟨_,Try.func91,by kernel_rfl,by kernel_rfl⟩,rcheck_sound⟩
 · cases h
theorem tkL_length (n : Int) (bs : List UInt8) : (tkL n bs).length ≤ bs.length := by unfold tkL; split <;> simp
theorem rtL_length (m : Int) (bs : List UInt8) (e : Int) : (rtL m bs e).length ≤ bs.length := by
 unfold rtL
 have h1 := zbm bs e
 split
 · have := tkL_length (numN bs e) (numL bs e); omega
 · exact h1
theorem zdd (n : Int) (bs : List UInt8) (e : Int) : (rfixL n bs e).length ≤ bs.length := by
 unfold rfixL; split
 · exact tkL_length _ _
 · exact Nat.le_refl _
theorem unf1 (bs : List UInt8) (h : bs.length ≤ 1) : unfL (zcc bs) 0 < 256 := by
 have hl : zcc bs = bs := by unfold zcc; rw [show bs.length - 8 = 0 by omega,List.drop_zero]
 rw [hl]
 match bs,h with
 | [],_ => simp [unfL]
 | [c],_ =>
   have := c.toNat_lt
   simp only [unfL,List.foldl_cons,List.foldl_nil]
   omega
theorem rfix1 (bs : List UInt8) (e : Int) : 0 ≤ zci 1 bs e ∧ zci 1 bs e < 256 := by
 unfold zci
 split
 · have h : (tkB (zfd 1) bs).length ≤ 1 := by
     have : zfd 1 = 1 := by decide
     rw [this]; unfold tkB; split
     · simp
     · simp; omega
   have := unf1 _ h
   omega
 · omega
section
set_option maxRecDepth 100000
set_option maxHeartbeats 2000000 in
theorem recget_sound : zaq Try.prog 87 rgetS := by
 refine zal (S := Srget) (T := ty) zau ty_ok Srget_ok Try.func87 (c := Try.f87.body.getD .skip) (by kernel_rfl) (by kernel_rfl) (fun xs pins hp _ => ?_)
 unfold rgetS at hp ⊢
 split at hp
 · rename_i bs f e _
   have hlen : bs.length ≤ 1000000 := hp
   refine ⟨by simp,?_⟩
   have hr := rfix1 bs e
   have hN : zci 1 bs e = ((g0 bs e : Nat) : Int) := by unfold g0; omega
   have hN2 : g0 bs e < 256 := by omega
   have a1 := and1 ⟨g0 bs e,hN2⟩
   have a2 := and2 ⟨g0 bs e,hN2⟩
   simp only at a1 a2
   have hm1 : ((g0 bs e : Nat) : Int) % 256 = ((g0 bs e : Nat) : Int) := by omega
   have q1 : (gb1 bs e).length ≤ 1000000 := by have := zdd 1 bs e; unfold gb1; omega
   have q2 : (gb2 bs e).length ≤ 1000000 := by have := zbm (gb1 bs e) (ge1 bs e); unfold gb2; omega
   have q3 : (gb3 bs e).length ≤ 1000000 := by have := zbm (gb2 bs e) (ge2 bs e); unfold gb3; omega
   have q4 : (gb4 bs e).length ≤ 1000000 := by have := rtL_length 64 (gb3 bs e) (ge3 bs e); unfold gb4; split <;> omega
   have i1 : rfixL 1 bs e = gb1 bs e := rfl
   have i2 : rfixE 1 bs e = ge1 bs e := rfl
   have i3 : numN (gb1 bs e) (ge1 bs e) = gd bs e := rfl
   have i4 : numL (gb1 bs e) (ge1 bs e) = gb2 bs e := rfl
   have i5 : numE (gb1 bs e) (ge1 bs e) = ge2 bs e := rfl
   have i6 : numN (gb2 bs e) (ge2 bs e) = gt bs e := rfl
   have i7 : numL (gb2 bs e) (ge2 bs e) = gb3 bs e := rfl
   have i8 : numE (gb2 bs e) (ge2 bs e) = ge3 bs e := rfl
   unfold Try.f87
   rcases Bool.eq_false_or_eq_true (gk bs e) with hk | hk <;> rcases Bool.eq_false_or_eq_true (gdd bs e) with hdd | hdd
   · have c1 : bits .and .u8 ((g0 bs e : Nat) : Int) 1 = 1 := by rw [a1]; unfold gk at hk; simpa using hk
     have c2 : bits .and .u8 ((g0 bs e : Nat) : Int) 2 = 2 := by rw [a2]; unfold gdd at hdd; simpa using hdd
     have x1 : rtL 64 (gb3 bs e) (ge3 bs e) = gb4 bs e := by unfold gb4; rw [hk]; rfl
     have x2 : rtE 64 (gb3 bs e) (ge3 bs e) = ge4 bs e := by unfold ge4; rw [hk]; rfl
     have x3 : rtS' 64 (gb3 bs e) (ge3 bs e) = gkey bs e := by unfold gkey; rw [hk]; rfl
     have x4 : gb5 bs e = gb4 bs e := by unfold gb5; rw [hdd]; rfl
     have x5 : ge5 bs e = ge4 bs e := by unfold ge5; rw [hdd]; rfl
     have x6 : gval bs e = [] := by unfold gval; rw [hdd]; rfl
     by_cases h5 : ge4 bs e = 0
     · have e5 : ge5 bs e = 0 := by first | exact h5 | (rw [x5]; exact h5)
       by_cases h4 : 4 ≤ g0 bs e
       · have d4 : decide ((4 : Int) ≤ ((g0 bs e : Nat) : Int)) = true := decide_eq_true (by omega)
         have hG : gerr bs e = 4 := by unfold gerr; rw [if_neg (by simpa using e5),if_pos (.inl h4)]
         have hV : grec bs e = recV 0 0 false [] false [] := by unfold grec; rw [hG]; rfl
         simp only [go_sem,coe,zaa,Nat.reduceAdd,Nat.reduceSub,Nat.reduceMul,Int.reduceToNat,reduceCtorEq,↓reduceIte,Int.reducePow,Nat.reducePow,Int.reduceMod,Nat.reduceLeDiff,Int.reduceLE,Int.reduceNe,Int.reduceEq,Nat.reduceEqDiff,Nat.reduceLT,Nat.reduceBEq,ty,Srget,zcx,numS,zbo,errS,zbh,rd,fillS,recV,hN,hm1,c1,c2,i1,i2,i3,i4,i5,i6,i7,i8,x1,x2,x3,x4,x5,x6,hlen,q1,q2,q3,q4,h5,d4,hG,hV]
       · have d4 : decide ((4 : Int) ≤ ((g0 bs e : Nat) : Int)) = false := decide_eq_false (by omega)
         by_cases hc : rchk (gd bs e) (gt bs e) true (gkey bs e) true ([]) = 0
         · have hG : gerr bs e = 0 := by unfold gerr; rw [if_neg (by simpa using e5),hk,hdd,x6,if_neg (by rintro (h | h); exact h4 h; exact h hc)]
           have hV : grec bs e = recV (gd bs e) (gt bs e) true (gkey bs e) true ([]) := by unfold grec; rw [hG,if_pos rfl,hk,hdd,x6]
           simp only [go_sem,coe,zaa,Nat.reduceAdd,Nat.reduceSub,Nat.reduceMul,Int.reduceToNat,reduceCtorEq,↓reduceIte,Int.reducePow,Nat.reducePow,Int.reduceMod,Nat.reduceLeDiff,Int.reduceLE,Int.reduceNe,Int.reduceEq,Nat.reduceEqDiff,Nat.reduceLT,Nat.reduceBEq,ty,Srget,zcx,numS,zbo,errS,zbh,rd,fillS,recV,hN,hm1,c1,c2,i1,i2,i3,i4,i5,i6,i7,i8,x1,x2,x3,x4,x5,x6,hlen,q1,q2,q3,q4,h5,d4,hG,hV,hc]
         · have hG : gerr bs e = 4 := by unfold gerr; rw [if_neg (by simpa using e5),hk,hdd,x6,if_pos (.inr hc)]
           have hV : grec bs e = recV 0 0 false [] false [] := by unfold grec; rw [hG]; rfl
           have d5 : decide (rchk (gd bs e) (gt bs e) true (gkey bs e) true ([]) = 0) = false := decide_eq_false hc
           simp only [go_sem,coe,zaa,Nat.reduceAdd,Nat.reduceSub,Nat.reduceMul,Int.reduceToNat,reduceCtorEq,↓reduceIte,Int.reducePow,Nat.reducePow,Int.reduceMod,Nat.reduceLeDiff,Int.reduceLE,Int.reduceNe,Int.reduceEq,Nat.reduceEqDiff,Nat.reduceLT,Nat.reduceBEq,ty,Srget,zcx,numS,zbo,errS,zbh,rd,fillS,recV,hN,hm1,c1,c2,i1,i2,i3,i4,i5,i6,i7,i8,x1,x2,x3,x4,x5,x6,hlen,q1,q2,q3,q4,h5,d4,hG,hV,d5]
     · have e5 : ¬ ge5 bs e = 0 := by first | exact h5 | (rw [x5]; exact h5)
       have d5 : decide (ge4 bs e = 0) = false := decide_eq_false h5
       have hG : gerr bs e = ge4 bs e := by unfold gerr; rw [if_pos e5]; exact x5
       have hV : grec bs e = recV 0 0 false [] false [] := by unfold grec; rw [hG,if_neg h5]
       simp only [go_sem,coe,zaa,Nat.reduceAdd,Nat.reduceSub,Nat.reduceMul,Int.reduceToNat,reduceCtorEq,↓reduceIte,Int.reducePow,Nat.reducePow,Int.reduceMod,Nat.reduceLeDiff,Int.reduceLE,Int.reduceNe,Int.reduceEq,Nat.reduceEqDiff,Nat.reduceLT,Nat.reduceBEq,ty,Srget,zcx,numS,zbo,errS,zbh,rd,fillS,recV,hN,hm1,c1,c2,i1,i2,i3,i4,i5,i6,i7,i8,x1,x2,x3,x4,x5,x6,hlen,q1,q2,q3,q4,d5,hG,hV]
   · have c1 : bits .and .u8 ((g0 bs e : Nat) : Int) 1 = 1 := by rw [a1]; unfold gk at hk; simpa using hk
     have c2 : bits .and .u8 ((g0 bs e : Nat) : Int) 2 = 0 := by rw [a2]; unfold gdd at hdd; simpa using hdd
     have x1 : rtL 64 (gb3 bs e) (ge3 bs e) = gb4 bs e := by unfold gb4; rw [hk]; rfl
     have x2 : rtE 64 (gb3 bs e) (ge3 bs e) = ge4 bs e := by unfold ge4; rw [hk]; rfl
     have x3 : rtS' 64 (gb3 bs e) (ge3 bs e) = gkey bs e := by unfold gkey; rw [hk]; rfl
     have x4 : rtL 512 (gb4 bs e) (ge4 bs e) = gb5 bs e := by unfold gb5; rw [hdd]; rfl
     have x5 : rtE 512 (gb4 bs e) (ge4 bs e) = ge5 bs e := by unfold ge5; rw [hdd]; rfl
     have x6 : rtS' 512 (gb4 bs e) (ge4 bs e) = gval bs e := by unfold gval; rw [hdd]; rfl
     by_cases h5 : ge5 bs e = 0
     · have e5 : ge5 bs e = 0 := by first | exact h5 | (rw [x5]; exact h5)
       by_cases h4 : 4 ≤ g0 bs e
       · have d4 : decide ((4 : Int) ≤ ((g0 bs e : Nat) : Int)) = true := decide_eq_true (by omega)
         have hG : gerr bs e = 4 := by unfold gerr; rw [if_neg (by simpa using e5),if_pos (.inl h4)]
         have hV : grec bs e = recV 0 0 false [] false [] := by unfold grec; rw [hG]; rfl
         simp only [go_sem,coe,zaa,Nat.reduceAdd,Nat.reduceSub,Nat.reduceMul,Int.reduceToNat,reduceCtorEq,↓reduceIte,Int.reducePow,Nat.reducePow,Int.reduceMod,Nat.reduceLeDiff,Int.reduceLE,Int.reduceNe,Int.reduceEq,Nat.reduceEqDiff,Nat.reduceLT,Nat.reduceBEq,ty,Srget,zcx,numS,zbo,errS,zbh,rd,fillS,recV,hN,hm1,c1,c2,i1,i2,i3,i4,i5,i6,i7,i8,x1,x2,x3,x4,x5,x6,hlen,q1,q2,q3,q4,h5,d4,hG,hV]
       · have d4 : decide ((4 : Int) ≤ ((g0 bs e : Nat) : Int)) = false := decide_eq_false (by omega)
         by_cases hc : rchk (gd bs e) (gt bs e) true (gkey bs e) false (gval bs e) = 0
         · have hG : gerr bs e = 0 := by unfold gerr; rw [if_neg (by simpa using e5),hk,hdd,if_neg (by rintro (h | h); exact h4 h; exact h hc)]
           have hV : grec bs e = recV (gd bs e) (gt bs e) true (gkey bs e) false (gval bs e) := by unfold grec; rw [hG,if_pos rfl,hk,hdd]
           simp only [go_sem,coe,zaa,Nat.reduceAdd,Nat.reduceSub,Nat.reduceMul,Int.reduceToNat,reduceCtorEq,↓reduceIte,Int.reducePow,Nat.reducePow,Int.reduceMod,Nat.reduceLeDiff,Int.reduceLE,Int.reduceNe,Int.reduceEq,Nat.reduceEqDiff,Nat.reduceLT,Nat.reduceBEq,ty,Srget,zcx,numS,zbo,errS,zbh,rd,fillS,recV,hN,hm1,c1,c2,i1,i2,i3,i4,i5,i6,i7,i8,x1,x2,x3,x4,x5,x6,hlen,q1,q2,q3,q4,h5,d4,hG,hV,hc]
         · have hG : gerr bs e = 4 := by unfold gerr; rw [if_neg (by simpa using e5),hk,hdd,if_pos (.inr hc)]
           have hV : grec bs e = recV 0 0 false [] false [] := by unfold grec; rw [hG]; rfl
           have d5 : decide (rchk (gd bs e) (gt bs e) true (gkey bs e) false (gval bs e) = 0) = false := decide_eq_false hc
           simp only [go_sem,coe,zaa,Nat.reduceAdd,Nat.reduceSub,Nat.reduceMul,Int.reduceToNat,reduceCtorEq,↓reduceIte,Int.reducePow,Nat.reducePow,Int.reduceMod,Nat.reduceLeDiff,Int.reduceLE,Int.reduceNe,Int.reduceEq,Nat.reduceEqDiff,Nat.reduceLT,Nat.reduceBEq,ty,Srget,zcx,numS,zbo,errS,zbh,rd,fillS,recV,hN,hm1,c1,c2,i1,i2,i3,i4,i5,i6,i7,i8,x1,x2,x3,x4,x5,x6,hlen,q1,q2,q3,q4,h5,d4,hG,hV,d5]
     · have e5 : ¬ ge5 bs e = 0 := by first | exact h5 | (rw [x5]; exact h5)
       have d5 : decide (ge5 bs e = 0) = false := decide_eq_false h5
       have hG : gerr bs e = ge5 bs e := by unfold gerr; rw [if_pos e5]
       have hV : grec bs e = recV 0 0 false [] false [] := by unfold grec; rw [hG,if_neg h5]
       simp only [go_sem,coe,zaa,Nat.reduceAdd,Nat.reduceSub,Nat.reduceMul,Int.reduceToNat,reduceCtorEq,↓reduceIte,Int.reducePow,Nat.reducePow,Int.reduceMod,Nat.reduceLeDiff,Int.reduceLE,Int.reduceNe,Int.reduceEq,Nat.reduceEqDiff,Nat.reduceLT,Nat.reduceBEq,ty,Srget,zcx,numS,zbo,errS,zbh,rd,fillS,recV,hN,hm1,c1,c2,i1,i2,i3,i4,i5,i6,i7,i8,x1,x2,x3,x4,x5,x6,hlen,q1,q2,q3,q4,d5,hG,hV]
   · have c1 : bits .and .u8 ((g0 bs e : Nat) : Int) 1 = 0 := by rw [a1]; unfold gk at hk; simpa using hk
     have c2 : bits .and .u8 ((g0 bs e : Nat) : Int) 2 = 2 := by rw [a2]; unfold gdd at hdd; simpa using hdd
     have x1 : gb3 bs e = gb4 bs e := by unfold gb4; rw [hk]; rfl
     have x2 : ge3 bs e = ge4 bs e := by unfold ge4; rw [hk]; rfl
     have x3 : gkey bs e = [] := by unfold gkey; rw [hk]; rfl
     have x4 : gb5 bs e = gb4 bs e := by unfold gb5; rw [hdd]; rfl
     have x5 : ge5 bs e = ge4 bs e := by unfold ge5; rw [hdd]; rfl
     have x6 : gval bs e = [] := by unfold gval; rw [hdd]; rfl
     by_cases h5 : ge4 bs e = 0
     · have e5 : ge5 bs e = 0 := by first | exact h5 | (rw [x5]; exact h5)
       by_cases h4 : 4 ≤ g0 bs e
       · have d4 : decide ((4 : Int) ≤ ((g0 bs e : Nat) : Int)) = true := decide_eq_true (by omega)
         have hG : gerr bs e = 4 := by unfold gerr; rw [if_neg (by simpa using e5),if_pos (.inl h4)]
         have hV : grec bs e = recV 0 0 false [] false [] := by unfold grec; rw [hG]; rfl
         simp only [go_sem,coe,zaa,Nat.reduceAdd,Nat.reduceSub,Nat.reduceMul,Int.reduceToNat,reduceCtorEq,↓reduceIte,Int.reducePow,Nat.reducePow,Int.reduceMod,Nat.reduceLeDiff,Int.reduceLE,Int.reduceNe,Int.reduceEq,Nat.reduceEqDiff,Nat.reduceLT,Nat.reduceBEq,ty,Srget,zcx,numS,zbo,errS,zbh,rd,fillS,recV,hN,hm1,c1,c2,i1,i2,i3,i4,i5,i6,i7,i8,x1,x2,x3,x4,x5,x6,hlen,q1,q2,q3,q4,h5,d4,hG,hV]
       · have d4 : decide ((4 : Int) ≤ ((g0 bs e : Nat) : Int)) = false := decide_eq_false (by omega)
         by_cases hc : rchk (gd bs e) (gt bs e) false ([]) true ([]) = 0
         · have hG : gerr bs e = 0 := by unfold gerr; rw [if_neg (by simpa using e5),hk,hdd,x3,x6,if_neg (by rintro (h | h); exact h4 h; exact h hc)]
           have hV : grec bs e = recV (gd bs e) (gt bs e) false ([]) true ([]) := by unfold grec; rw [hG,if_pos rfl,hk,hdd,x3,x6]
           simp only [go_sem,coe,zaa,Nat.reduceAdd,Nat.reduceSub,Nat.reduceMul,Int.reduceToNat,reduceCtorEq,↓reduceIte,Int.reducePow,Nat.reducePow,Int.reduceMod,Nat.reduceLeDiff,Int.reduceLE,Int.reduceNe,Int.reduceEq,Nat.reduceEqDiff,Nat.reduceLT,Nat.reduceBEq,ty,Srget,zcx,numS,zbo,errS,zbh,rd,fillS,recV,hN,hm1,c1,c2,i1,i2,i3,i4,i5,i6,i7,i8,x1,x2,x3,x4,x5,x6,hlen,q1,q2,q3,q4,h5,d4,hG,hV,hc]
         · have hG : gerr bs e = 4 := by unfold gerr; rw [if_neg (by simpa using e5),hk,hdd,x3,x6,if_pos (.inr hc)]
           have hV : grec bs e = recV 0 0 false [] false [] := by unfold grec; rw [hG]; rfl
           have d5 : decide (rchk (gd bs e) (gt bs e) false ([]) true ([]) = 0) = false := decide_eq_false hc
           simp only [go_sem,coe,zaa,Nat.reduceAdd,Nat.reduceSub,Nat.reduceMul,Int.reduceToNat,reduceCtorEq,↓reduceIte,Int.reducePow,Nat.reducePow,Int.reduceMod,Nat.reduceLeDiff,Int.reduceLE,Int.reduceNe,Int.reduceEq,Nat.reduceEqDiff,Nat.reduceLT,Nat.reduceBEq,ty,Srget,zcx,numS,zbo,errS,zbh,rd,fillS,recV,hN,hm1,c1,c2,i1,i2,i3,i4,i5,i6,i7,i8,x1,x2,x3,x4,x5,x6,hlen,q1,q2,q3,q4,h5,d4,hG,hV,d5]
     · have e5 : ¬ ge5 bs e = 0 := by first | exact h5 | (rw [x5]; exact h5)
       have d5 : decide (ge4 bs e = 0) = false := decide_eq_false h5
       have hG : gerr bs e = ge4 bs e := by unfold gerr; rw [if_pos e5]; exact x5
       have hV : grec bs e = recV 0 0 false [] false [] := by unfold grec; rw [hG,if_neg h5]
       simp only [go_sem,coe,zaa,Nat.reduceAdd,Nat.reduceSub,Nat.reduceMul,Int.reduceToNat,reduceCtorEq,↓reduceIte,Int.reducePow,Nat.reducePow,Int.reduceMod,Nat.reduceLeDiff,Int.reduceLE,Int.reduceNe,Int.reduceEq,Nat.reduceEqDiff,Nat.reduceLT,Nat.reduceBEq,ty,Srget,zcx,numS,zbo,errS,zbh,rd,fillS,recV,hN,hm1,c1,c2,i1,i2,i3,i4,i5,i6,i7,i8,x1,x2,x3,x4,x5,x6,hlen,q1,q2,q3,q4,d5,hG,hV]
   · have c1 : bits .and .u8 ((g0 bs e : Nat) : Int) 1 = 0 := by rw [a1]; unfold gk at hk; simpa using hk
     have c2 : bits .and .u8 ((g0 bs e : Nat) : Int) 2 = 0 := by rw [a2]; unfold gdd at hdd; simpa using hdd
     have x1 : gb3 bs e = gb4 bs e := by unfold gb4; rw [hk]; rfl
     have x2 : ge3 bs e = ge4 bs e := by unfold ge4; rw [hk]; rfl
     have x3 : gkey bs e = [] := by unfold gkey; rw [hk]; rfl
     have x4 : rtL 512 (gb4 bs e) (ge4 bs e) = gb5 bs e := by unfold gb5; rw [hdd]; rfl
     have x5 : rtE 512 (gb4 bs e) (ge4 bs e) = ge5 bs e := by unfold ge5; rw [hdd]; rfl
     have x6 : rtS' 512 (gb4 bs e) (ge4 bs e) = gval bs e := by unfold gval; rw [hdd]; rfl
     by_cases h5 : ge5 bs e = 0
     · have e5 : ge5 bs e = 0 := by first | exact h5 | (rw [x5]; exact h5)
       by_cases h4 : 4 ≤ g0 bs e
       · have d4 : decide ((4 : Int) ≤ ((g0 bs e : Nat) : Int)) = true := decide_eq_true (by omega)
         have hG : gerr bs e = 4 := by unfold gerr; rw [if_neg (by simpa using e5),if_pos (.inl h4)]
         have hV : grec bs e = recV 0 0 false [] false [] := by unfold grec; rw [hG]; rfl
         simp only [go_sem,coe,zaa,Nat.reduceAdd,Nat.reduceSub,Nat.reduceMul,Int.reduceToNat,reduceCtorEq,↓reduceIte,Int.reducePow,Nat.reducePow,Int.reduceMod,Nat.reduceLeDiff,Int.reduceLE,Int.reduceNe,Int.reduceEq,Nat.reduceEqDiff,Nat.reduceLT,Nat.reduceBEq,ty,Srget,zcx,numS,zbo,errS,zbh,rd,fillS,recV,hN,hm1,c1,c2,i1,i2,i3,i4,i5,i6,i7,i8,x1,x2,x3,x4,x5,x6,hlen,q1,q2,q3,q4,h5,d4,hG,hV]
       · have d4 : decide ((4 : Int) ≤ ((g0 bs e : Nat) : Int)) = false := decide_eq_false (by omega)
         by_cases hc : rchk (gd bs e) (gt bs e) false ([]) false (gval bs e) = 0
         · have hG : gerr bs e = 0 := by unfold gerr; rw [if_neg (by simpa using e5),hk,hdd,x3,if_neg (by rintro (h | h); exact h4 h; exact h hc)]
           have hV : grec bs e = recV (gd bs e) (gt bs e) false ([]) false (gval bs e) := by unfold grec; rw [hG,if_pos rfl,hk,hdd,x3]
           simp only [go_sem,coe,zaa,Nat.reduceAdd,Nat.reduceSub,Nat.reduceMul,Int.reduceToNat,reduceCtorEq,↓reduceIte,Int.reducePow,Nat.reducePow,Int.reduceMod,Nat.reduceLeDiff,Int.reduceLE,Int.reduceNe,Int.reduceEq,Nat.reduceEqDiff,Nat.reduceLT,Nat.reduceBEq,ty,Srget,zcx,numS,zbo,errS,zbh,rd,fillS,recV,hN,hm1,c1,c2,i1,i2,i3,i4,i5,i6,i7,i8,x1,x2,x3,x4,x5,x6,hlen,q1,q2,q3,q4,h5,d4,hG,hV,hc]
         · have hG : gerr bs e = 4 := by unfold gerr; rw [if_neg (by simpa using e5),hk,hdd,x3,if_pos (.inr hc)]
           have hV : grec bs e = recV 0 0 false [] false [] := by unfold grec; rw [hG]; rfl
           have d5 : decide (rchk (gd bs e) (gt bs e) false ([]) false (gval bs e) = 0) = false := decide_eq_false hc
           simp only [go_sem,coe,zaa,Nat.reduceAdd,Nat.reduceSub,Nat.reduceMul,Int.reduceToNat,reduceCtorEq,↓reduceIte,Int.reducePow,Nat.reducePow,Int.reduceMod,Nat.reduceLeDiff,Int.reduceLE,Int.reduceNe,Int.reduceEq,Nat.reduceEqDiff,Nat.reduceLT,Nat.reduceBEq,ty,Srget,zcx,numS,zbo,errS,zbh,rd,fillS,recV,hN,hm1,c1,c2,i1,i2,i3,i4,i5,i6,i7,i8,x1,x2,x3,x4,x5,x6,hlen,q1,q2,q3,q4,h5,d4,hG,hV,d5]
     · have e5 : ¬ ge5 bs e = 0 := by first | exact h5 | (rw [x5]; exact h5)
       have d5 : decide (ge5 bs e = 0) = false := decide_eq_false h5
       have hG : gerr bs e = ge5 bs e := by unfold gerr; rw [if_pos e5]
       have hV : grec bs e = recV 0 0 false [] false [] := by unfold grec; rw [hG,if_neg h5]
       simp only [go_sem,coe,zaa,Nat.reduceAdd,Nat.reduceSub,Nat.reduceMul,Int.reduceToNat,reduceCtorEq,↓reduceIte,Int.reducePow,Nat.reducePow,Int.reduceMod,Nat.reduceLeDiff,Int.reduceLE,Int.reduceNe,Int.reduceEq,Nat.reduceEqDiff,Nat.reduceLT,Nat.reduceBEq,ty,Srget,zcx,numS,zbo,errS,zbh,rd,fillS,recV,hN,hm1,c1,c2,i1,i2,i3,i4,i5,i6,i7,i8,x1,x2,x3,x4,x5,x6,hlen,q1,q2,q3,q4,d5,hG,hV]
 · refine ⟨by simp,?_⟩
   unfold Try.f87
   have b1 : bits .and .u8 0 1 = 0 := by decide
   have b2 : bits .and .u8 0 2 = 0 := by decide
   simp only [go_sem,coe,zaa,Nat.reduceAdd,Nat.reduceSub,Nat.reduceMul,Int.reduceToNat,reduceCtorEq,↓reduceIte,Int.reducePow,Nat.reducePow,Int.reduceMod,Nat.reduceLeDiff,Int.reduceLE,Int.reduceNe,Int.reduceEq,Nat.reduceEqDiff,Nat.reduceLT,Nat.reduceBEq,ty,Srget,zcx,numS,zbo,errS,b1,b2,recV,fillS]
 · exact hp.elim
end
end Go.Proofs.Ytihbcgbmlecpbaa
namespace Go.Proofs.Ytihbcgbmlecpbaa
namespace Ax
mutual
def AV.fi (id : Nat) (bs : List Int) : AV → AV
 | .agg xs => .agg (fiL id bs xs)
 | .tup xs => .tup (fiL id bs xs)
 | .fn f cs => .fn f (fiL id bs cs)
 | .ms k s off len => bif k == id then (bif s == 1 && decide (off + len ≤ bs.length) then .si ((bs.drop off).take len) false else .ms k s off len) else .ms k s off len
 | x => x
def fiL (id : Nat) (bs : List Int) : List AV → List AV
 | [] => []
 | x :: xs => x.fi id bs :: fiL id bs xs
end
theorem fiL_get (id : Nat) (bs : List Int) : ∀ (xs : List AV),(fiL id bs xs).length = xs.length ∧ ∀ (j : Nat) (h : j < (fiL id bs xs).length) (h' : j < xs.length),(fiL id bs xs)[j] = xs[j].fi id bs
 | [] => ⟨rfl,fun j h => by simp [fiL] at h⟩
 | x :: xs => by
   obtain ⟨h1,h2⟩ := fiL_get id bs xs
   refine ⟨by simp [fiL,h1],fun j h h' => ?_⟩
   cases j with
   | zero => rfl
   | succ j => exact h2 j (by simpa [fiL] using h) (by simpa using h')
theorem fi_leaf {id : Nat} {bs : List Int} {x : AV} (h : x.leaf = true) : (x.fi id bs).leaf = true := by
 cases x <;> first | exact h | (simp [AV.leaf] at h; done) | skip
 simp only [AV.fi]
 cases (_ == id) with
 | false => rfl
 | true =>
   simp only [cond_true]
   cases (_ && _ : Bool) <;> rfl
theorem fi_R {w : World} {loc : Loc} {id : Nat} {bs : List Int} (hor : (loc.m id = .nil ∧ bs = []) ∨ ∃ b,loc.m id = .here b ∧ b < w.heap.size ∧ Lies w loc (.i bs) b ∧ (∀ k,loc.m k = .here b → k = id) ∧ ¬ loc.bad b) {x : AV} {v : Value} (h : R w loc x v) : R w (loc.set id .dead) (x.fi id bs) v := by
 have hM : ∀ c,Mut (loc.set id .dead) c → Mut loc c := by
   rintro c (h | ⟨k,h⟩)
   · exact .inl h
   · by_cases hk : k = id
     · subst hk; rw [Loc.set_same] at h; cases h
     · rw [Loc.set_other _ _ hk] at h; exact .inr ⟨k,h⟩
 have hC : ∀ {a cs},Cells w loc a cs → Cells w (loc.set id .dead) a cs := fun h => h.move (fun b _ hm => hM b hm)
 induction h with
 | w v h => exact .w v h
 | str bs => exact .str bs
 | agg xs cs hl hx _ ih =>
   obtain ⟨h1,h2⟩ := fiL_get id bs xs
   refine .agg _ cs (by rw [h1,hl]) (fun j hj => ?_) (fun j a b => ?_)
   · rw [h2 j hj (by rw [← h1]; exact hj)]; exact fi_leaf (hx j _)
   · rw [h2 j a (by rw [← h1]; exact a)]; exact ih j _ b
 | tup xs cs hl _ ih =>
   obtain ⟨h1,h2⟩ := fiL_get id bs xs
   refine .tup _ cs (by rw [h1,hl]) (fun j a b => ?_)
   rw [h2 j a (by rw [← h1]; exact a)]; exact ih j _ b
 | sb bs full a cap hd hc => exact .sb bs full a cap hd (hC hc)
 | si ns full a cap hd hc => exact .si ns full a cap hd (hC hc)
 | sg s xs full a cap cs hd hs hc hl hx h _ => exact .sg s xs full a cap cs hd hs (hC hc) hl hx (fun j a b => (h j a b).move (fun b _ hm => hM b hm) (hx j a).2)
 | cp ls a cs hc hn hl hx h _ => exact .cp ls a cs (hC hc) hn hl hx (fun j a b => (h j a b).move (fun b _ hm => hM b hm) (hx j a).2)
 | ms k s off len v h =>
   have hkeep : R w (loc.set id .dead) (.ms k s off len) v := by
     refine .ms _ _ _ _ _ ?_
     by_cases hk : k = id
     · subst hk; unfold Owns; rw [Loc.set_same]; exact h.one
     · unfold Owns at h ⊢; rw [Loc.set_other _ _ hk]; exact h
   simp only [AV.fi]
   by_cases hk : k = id
   · subst hk
     simp only [beq_self_eq_true,cond_true]
     cases hc : (s == 1 && decide (off + len ≤ bs.length)) with
     | false => exact hkeep
     | true =>
       simp only [cond_true]
       simp only [Bool.and_eq_true,beq_iff_eq,decide_eq_true_eq] at hc
       obtain ⟨rfl,hle⟩ := hc
       have hlen : ((bs.drop off).take len).length = len := by simp; omega
       rcases hor with ⟨hb,rfl⟩ | ⟨b,hb,hlt,hl,hinj,hnb⟩
       · unfold Owns at h
         rw [hb] at h
         obtain ⟨rfl,a,rfl⟩ := h
         have := R.si (w := w) (loc := loc.set k .dead) (([] : List Int)) false a 0 ⟨Nat.le_refl _,Nat.zero_le _,fun h => by cases h⟩ ⟨.inl rfl⟩
         simpa using this
       unfold Owns at h
       rw [hb] at h
       obtain ⟨o,cap,cur,e,fz,rfl,ho,hh,hsz,hlc,htop⟩ := h
       have hcells : Cells w (loc.set k .dead) (some ⟨b,o,none⟩) (((bs.drop off).take len).map word) := by
         by_cases h0 : len = 0
         · subst h0; exact ⟨.inl (by simp)⟩
         refine ⟨.inr ⟨b,o,rfl,?_,hlt,fun j hj => ?_⟩⟩
         · rintro (h | ⟨i,h⟩)
           · exact hnb h
           · by_cases hk : i = k
             · subst hk; rw [Loc.set_same] at h; cases h
             · rw [Loc.set_other _ _ hk] at h; exact hk (hinj i h)
         · obtain ⟨cur',e',fz',hh',hf',hone',hfl',hr'⟩ := hl.lies
           rw [hh] at hh'; injection hh' with hh'; injection hh' with h1 h2 h3; subst h1
           have ho := ho (by omega)
           rw [Nat.mul_one] at ho
           rw [ho]
           have hj' : j < len := by simp at hj; omega
           have hfl : (Blk.flat (.i bs)).length = bs.length := by simp [Blk.flat]
           have hjs : off + j < cur.size := by omega
           have := (hr' (off + j) (by omega) hjs).2
           have e1 : (Blk.flat (.i bs))[off + j]'(by omega) = .w (word (bs[off + j]'(by omega))) := by simp [Blk.flat]
           rw [e1] at this
           have := this.wv
           have e2 : (((bs.drop off).take len).map word)[j] = word (bs[off + j]'(by omega)) := by simp
           rw [e2,← this]
           simp [World.cell?,hh,hjs]
       have := R.si (w := w) (loc := loc.set k .dead) ((bs.drop off).take len) false (some ⟨b,o,none⟩) cap ⟨by omega,htop,fun h => by cases h⟩ hcells
       rw [hlen] at this
       exact this
   · have : (k == id) = false := by simpa using hk
     rw [this]; exact hkeep
 | rf k s i f v h =>
   refine .rf _ _ _ _ _ ?_
   by_cases hk : k = id
   · subst hk; unfold Points; rw [Loc.set_same]; exact h.one
   · unfold Points at h ⊢; rw [Loc.set_other _ _ hk]; exact h
 | fn f caps cs hl _ ih =>
   obtain ⟨h1,h2⟩ := fiL_get id bs caps
   refine .fn f _ cs (by rw [h1,hl]) (fun j a b => ?_)
   rw [h2 j a (by rw [← h1]; exact a)]; exact ih j _ b
 | junk v => exact .junk v
def Blk.fi (id : Nat) (bs : List Int) : Blk → Blk
 | .g s xs => .g s (fiL id bs xs)
 | .b cs => .b cs
 | .i ns => .i ns
 | .o x => .o x
theorem odd_fi {id : Nat} {bs : List Int} {b : Blk} : (b.fi id bs).odd = b.odd := by cases b <;> rfl
def fiH (id : Nat) (bs : List Int) : Heap → Heap
 | [] => []
 | p :: r => bif p.1 == id then fiH id bs r else (p.1,p.2.fi id bs) :: fiH id bs r
theorem leaves_fi (id : Nat) (bs : List Int) (x : AV) : (x.fi id bs).leaves = fiL id bs x.leaves := by
 cases x <;> first | rfl | skip
 simp only [AV.fi,AV.leaves,fiL]
 cases (_ == id) with
 | false => rfl
 | true =>
   simp only [cond_true]
   cases (_ && _ : Bool) <;> rfl
theorem fiL_append (id : Nat) (bs : List Int) : ∀ (xs ys : List AV),fiL id bs (xs ++ ys) = fiL id bs xs ++ fiL id bs ys
 | [],_ => rfl
 | x :: xs,ys => by simp [fiL,fiL_append id bs xs ys]
theorem flat_fi (id : Nat) (bs : List Int) (b : Blk) : (b.fi id bs).flat = fiL id bs b.flat := by
 cases b with
 | b cs =>
   simp only [Blk.fi,Blk.flat]
   induction cs with
   | nil => rfl
   | cons c r ih => simp only [List.map_cons,fiL,AV.fi]; rw [← ih]
 | o x => rfl
 | i ns =>
   simp only [Blk.fi,Blk.flat]
   induction ns with
   | nil => rfl
   | cons c r ih => simp only [List.map_cons,fiL,AV.fi]; rw [← ih]
 | g s xs =>
   simp only [Blk.fi,Blk.flat]
   induction xs with
   | nil => rfl
   | cons c r ih => simp only [fiL,List.flatMap_cons,fiL_append]; rw [ih,leaves_fi]
theorem ok_fi {id : Nat} {bs : List Int} {b : Blk} (h : b.ok) : (b.fi id bs).ok := by
 cases b with
 | g s xs =>
   obtain ⟨h1,h2⟩ := h
   refine ⟨h1,fun x hx => ?_⟩
   obtain ⟨j,hj,rfl⟩ := List.getElem_of_mem hx
   obtain ⟨h3,h4⟩ := fiL_get id bs xs
   rw [h4 j hj (by rw [← h3]; exact hj),leaves_fi,(fiL_get id bs _).1]
   exact h2 _ (List.getElem_mem _)
 | _ => trivial
theorem len_fi {id : Nat} {bs : List Int} {b : Blk} : (b.fi id bs).len = b.len := by
 cases b with
 | g s xs => exact (fiL_get id bs xs).1
 | _ => rfl
theorem fiH_get {id : Nat} {bs : List Int} : ∀ {H : Heap} {k : Nat} {b : Blk},look (fiH id bs H) k = some b → k ≠ id ∧ ∃ c,look H k = some c ∧ b = c.fi id bs
 | [],k,b,h => by simp [fiH,look] at h
 | p :: r,k,b,h => by
   have e : look (p :: r) k = if p.1 = k then some p.2 else look r k := zbj r p.1 k p.2
   unfold fiH at h
   by_cases hp : p.1 = id
   · have : (p.1 == id) = true := by simpa using hp
     rw [this] at h
     obtain ⟨h1,c,h2,h3⟩ := fiH_get h
     exact ⟨h1,c,by rw [e,if_neg (by omega)]; exact h2,h3⟩
   · have : (p.1 == id) = false := by simpa using hp
     rw [this] at h
     have e2 : look ((p.1,p.2.fi id bs) :: fiH id bs r) k = if p.1 = k then some (p.2.fi id bs) else look (fiH id bs r) k := zbj (fiH id bs r) p.1 k _
     simp only [cond_false] at h
     rw [e2] at h
     split at h
     · rename_i hk
       injection h with h
       exact ⟨by omega,p.2,by rw [e,if_pos hk],h.symm⟩
     · rename_i hk
       obtain ⟨h1,c,h2,h3⟩ := fiH_get h
       exact ⟨h1,c,by rw [e,if_neg hk]; exact h2,h3⟩
theorem slot_fiL {id : Nat} {bs : List Int} : ∀ (sl : List AV) (t : Nat),slot (fiL id bs sl) t = (slot sl t).fi id bs
 | [],t => rfl
 | x :: xs,0 => rfl
 | x :: xs,t + 1 => slot_fiL xs t
theorem rel_fi {w0 : World} {E : Nat → Prop} {B : Bs} {w : World} {loc : Loc} {a : Act} {sl : List AV} {H : Heap} {nx : Nat} (id : Nat) (bs : List Int) (hl : look H id = some (.i bs)) (hB : Base w0 B w loc) (hr : Rel' w0 E loc ⟨sl,H,nx⟩ a w) (hlive : loc.m id ≠ .free) : Rel w0 E B ⟨fiL id bs sl,fiH id bs H,nx⟩ a w := by
 have hblk := hr.heap id _ hl
 have hor : (loc.m id = .nil ∧ bs = []) ∨ ∃ b,loc.m id = .here b ∧ b < w.heap.size ∧ Lies w loc (.i bs) b ∧ (∀ k,loc.m k = .here b → k = id) ∧ ¬ loc.bad b := by
   unfold BlkR at hblk
   cases e : loc.m id with
   | free => exact (hlive e).elim
   | dead => rw [e] at hblk; exact hblk.elim
   | nil => rw [e] at hblk; exact .inl ⟨rfl,List.eq_nil_of_length_eq_zero hblk.2⟩
   | here b =>
     rw [e] at hblk
     have h1 := hr.env.lies id b e
     refine .inr ⟨b,rfl,h1.1,hblk.2,fun k hk => hr.env.inj k id b hk e,fun hb => ?_⟩
     have h2 := hr.env.bad b hb
     rcases h1.2 with h3 | h3
     · omega
     · exact h2.2 h3
 have hset : ∀ {k c},(loc.set id .dead).m k = .here c → loc.m k = .here c := by
   intro k c h
   by_cases hk : k = id
   · subst hk; rw [Loc.set_same] at h; cases h
   · rwa [Loc.set_other _ _ hk] at h
 refine ⟨loc.set id .dead,⟨hB.1,hB.2.1,fun k hk => ?_⟩,⟨?_,fun t => ?_,?_,⟨hr.env.os,hr.env.tape,hr.env.output,hr.env.size,hr.env.same,fun i j b h1 h2 => hr.env.inj i j b (hset h1) (hset h2),fun i b h1 => hr.env.lies i b (hset h1),hr.env.bad⟩,?_,hr.defers,?_⟩⟩
 · by_cases hne : k = id
   · subst hne; left; rw [Loc.set_same]
   · rw [Loc.set_other _ _ hne]; exact hB.2.2 k hk
 · rw [hr.size]; exact ((fiL_get id bs sl).1).symm
 · simp only; rw [slot_fiL]; exact fi_R hor (hr.slots t)
 · intro k b hk
   obtain ⟨h1,c,h2,rfl⟩ := fiH_get hk
   have h3 := hr.heap k c h2
   unfold BlkR at h3 ⊢
   rw [Loc.set_other _ _ h1]
   split
   · trivial
   · rename_i e; rw [e] at h3; exact h3
   · rename_i e; rw [e] at h3; exact ⟨ok_fi h3.1,by rw [len_fi]; exact h3.2⟩
   · rename_i d e
     rw [e] at h3
     rcases zde c with ⟨x,hx,rfl⟩ | hodd
     · exact ⟨ok_fi h3.1,.mkO (h3.2.is hx) rfl⟩
     obtain ⟨cur,el,fi,g1,g2,g3,g4,g5⟩ := h3.2.lies hodd
     have hlen : (c.fi id bs).flat.length = c.flat.length := by rw [flat_fi,(fiL_get id bs _).1]
     refine ⟨ok_fi h3.1,.mkC ⟨cur,el,fi,g1,g2,g3,by omega,fun j x y => ?_⟩ (odd_fi.trans hodd)⟩
     have h6 := g5 j (by omega) y
     have e : (c.fi id bs).flat[j] = (c.flat[j]'(by omega)).fi id bs := by
       have := (fiL_get id bs c.flat).2 j (by rw [(fiL_get id bs _).1]; omega) (by omega)
       rw [← this]
       congr 1
       exact flat_fi id bs c
     rw [e]
     exact ⟨fi_leaf h6.1,fi_R hor h6.2⟩
 · intro k hk
   by_cases hne : k = id
   · exact (hlive (hne ▸ hr.fresh k hk)).elim
   · rw [Loc.set_other _ _ hne]; exact hr.fresh k hk
 · intro k b hk
   obtain ⟨h1,c,h2,rfl⟩ := fiH_get hk
   exact hr.low k c h2
theorem weak_fi {sl : List AV} {H : Heap} {nx : Nat} (id i : Nat) (bs : List Int) (hl : look H id = some (.i bs)) (hi : id ∈ (slot sl i).ids) : Weak ⟨sl,H,nx⟩ ⟨fiL id bs sl,fiH id bs H,nx⟩ := by
 rintro w0 E B a w ⟨loc,hB,hr⟩
 exact rel_fi id bs hl hB hr (zfi _ _ (hr.slots i) hi)
end Ax
end Go.Proofs.Ytihbcgbmlecpbaa
