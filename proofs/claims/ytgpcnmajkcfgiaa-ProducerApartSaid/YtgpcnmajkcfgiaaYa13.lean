/- What the proofs of this seat stand on; it asks nothing. -/
import Derived.Test.YtgpcnmajkcfgiaaYa12
set_option linter.unusedSimpArgs false
set_option linter.unusedVariables false
namespace Go.Proofs.Ytgpcnmajkcfgiaa
open Ax
def Spu13 (f : FuncId) : Option zay :=
 match f with
 | 33 => some cpyS
 | _ => none
theorem Spu13_ok : Fns Try.prog Spu13 := by
 intro f s h
 unfold Spu13 at h
 split at h
 · injection h with h; subst h; exact ⟨⟨_,Try.func33,by kernel_rfl,by kernel_rfl⟩,cpy_sound⟩
 · cases h
def SOpu13 (f : FuncId) : Option zay :=
 match f with
 | 34 => some putS13
 | _ => none
theorem SOpu13_ok : FnsO Try.prog SOpu13 := by
 intro f s h
 unfold SOpu13 at h
 split at h
 · injection h with h; subst h; exact ⟨⟨_,Try.func34,by kernel_rfl,by kernel_rfl⟩,put13_sound⟩
 · cases h
def puPl : XPlan := fun id => match id with
 | 2 => .opn [] 1
 | _ => .std
def pubS : zay
 | [.agg [.sg 3 xs f],.agg [.w (.int .i64 b),.w (.int .i64 c),.w (.int .i64 p),.w (.int .i64 e),.w (.int .i64 s),.sg 6 rs h]],[] => ⟨closedL rs = true ∧ ∃ l : List En,xs = l.map enA ∧ okL l,.agg [.sg 3 ((putF (xs.map uen) b c p e s).map enA) false],[]⟩
 | _,_ => zcr
theorem setF_len (l : List En) (b c p e s : Int) : (setF l b c p e s).length = l.length := by unfold setF; rw [List.length_set]
theorem addF_len (l : List En) (b c p e s : Int) : (addF l b c p e s).length = l.length + 1 := by
 have := List.findIdx_le_length (xs := l) (p := pastI p)
 unfold addF
 simp only [List.length_append,List.length_take,List.length_cons,List.length_drop]
 omega
section
set_option maxRecDepth 100000
set_option maxHeartbeats 8000000
theorem pub_sound : zbx Try.prog 13 pubS := by
 refine zca (S := Spu13) (SO := SOpu13) (T := ty) zcu ty_ok Spu13_ok SOpu13_ok Try.func13 (c := Try.f13.body.getD .skip) (by kernel_rfl) (fun xs pins hp _ => ?_)
 unfold pubS at hp ⊢
 split at hp
 · rename_i xs f b c p e s rs h _
   obtain ⟨hr,l,rfl,hL,hi⟩ := hp
   have hle : (l.map enA).length = l.length := by simp
   have hcl := zab l
   have hex : ∃ k : List En,l.map enA = k.map enA ∧ okL k := ⟨l,rfl,hL,hi⟩
   rw [zak]
   refine ⟨by simp,puPl,by kernel_rfl,?_⟩
   unfold Try.f13
   cases hz : empP (l.map enA) with
   | true =>
     obtain rfl : l = [] := by cases l with | nil => rfl | cons _ _ => cases hz
     have hex0 : ∃ k : List En,([] : List AV) = k.map enA ∧ okL k := ⟨[],rfl,hL,hi⟩
     have hpf : putF [] b c p e s = if p = 0 then [] else addF [] b c p e s := rfl
     rw [hpf]
     by_cases hp0 : p = 0
     · have hpa : putA0 b c p e s = [.g 1 [.agg [.sg 3 [] true]]] := if_pos hp0
       rw [if_pos hp0]
       simp only [go_sem,zaa,Nat.reduceAdd,Nat.reduceSub,Nat.reduceMul,Int.reduceToNat,reduceCtorEq,↓reduceIte,Int.reducePow,Nat.reducePow,Int.reduceMod,Nat.reduceLeDiff,Int.reduceLE,Int.reduceNe,Int.reduceEq,Nat.reduceEqDiff,Nat.reduceLT,Nat.reduceBEq,List.map_cons,List.map_nil,List.toList_toArray,Array.toList_append,Option.toArray_some,Option.toArray_none,Bool.and_self,ty,Spu13,SOpu13,puPl,cpyS,putS13,hr,empP,hex0,hpa,cond_true,List.map_nil]
       refine ⟨_,(weak_nilB 20 1 0 3 [.sg 3 [] true] rfl (by simp) (by exact trivial) (by decide)).trans (weak_fgC 84 3 4 20 [] _ rfl rfl rfl (by simp [slot,AV.ids]) (by simp [Blk.idsB,Blk.closed,closedL,AV.closed,idsL,AV.ids,setSlot])),?_⟩
       simp only [fgL,fgH,AV.fg,Blk.fg,Nat.reduceBEq,cond_true,cond_false,Bool.and_true,beq_self_eq_true,Bool.true_and,List.drop_zero,List.length_nil,List.take_nil,setSlot,Ax.put]
       simp only [go_sem,zaa,Nat.reduceAdd,Nat.reduceSub,Nat.reduceMul,Int.reduceToNat,reduceCtorEq,↓reduceIte,Int.reducePow,Nat.reducePow,Int.reduceMod,Nat.reduceLeDiff,Int.reduceLE,Int.reduceNe,Int.reduceEq,Nat.reduceEqDiff,Nat.reduceLT,Nat.reduceBEq,List.map_cons,List.map_nil,List.toList_toArray,Array.toList_append,Option.toArray_some,Option.toArray_none,Bool.and_self,ty,Spu13,hr]
     · have hpa : putA0 b c p e s = [.g 1 [.agg [.ms 1 3 0 1]],.g 3 ((addF [] b c p e s).map enA)] := if_neg hp0
       rw [if_neg hp0]
       have hk1 : decide (0 + 1 ≤ ((addF [] b c p e s).map enA).length) = true := rfl
       have hk2 : List.take 1 ((addF [] b c p e s).map enA) = (addF [] b c p e s).map enA := rfl
       generalize addF [] b c p e s = Q at *
       simp only [go_sem,zaa,Nat.reduceAdd,Nat.reduceSub,Nat.reduceMul,Int.reduceToNat,reduceCtorEq,↓reduceIte,Int.reducePow,Nat.reducePow,Int.reduceMod,Nat.reduceLeDiff,Int.reduceLE,Int.reduceNe,Int.reduceEq,Nat.reduceEqDiff,Nat.reduceLT,Nat.reduceBEq,List.map_cons,List.map_nil,List.toList_toArray,Array.toList_append,Option.toArray_some,Option.toArray_none,Bool.and_self,ty,Spu13,SOpu13,puPl,cpyS,putS13,hr,empP,hex0,hpa,zab,zai,cond_true,List.map_nil]
       refine ⟨_,zbj 60 3 9 (Q.map enA) rfl (zab _) (by simp [slot,AV.ids,idsL]),?_⟩
       simp only [fgL,fgH,AV.fg,Blk.fg,Nat.reduceBEq,cond_true,cond_false,Bool.and_true,beq_self_eq_true,Bool.true_and,List.drop_zero,zbg,hk1,hk2]
       simp only [go_sem,zaa,Nat.reduceAdd,Nat.reduceSub,Nat.reduceMul,Int.reduceToNat,reduceCtorEq,↓reduceIte,Int.reducePow,Nat.reducePow,Int.reduceMod,Nat.reduceLeDiff,Int.reduceLE,Int.reduceNe,Int.reduceEq,Nat.reduceEqDiff,Nat.reduceLT,Nat.reduceBEq,List.map_cons,List.map_nil,List.toList_toArray,Array.toList_append,Option.toArray_some,Option.toArray_none,Bool.and_self,ty,Spu13,zab,hr,zai]
   | false =>
     have h0 : 0 < l.length := by cases l with | nil => cases hz | cons _ _ => simp
     have d0 : decide (0 < l.length) = true := decide_eq_true h0
     unfold putF
     by_cases hp0 : p = 0
     · have hpa : putA l b c p e s = [.g 1 [.agg [.ms 1 3 0 l.length]],.g 3 (l.map enA)] := if_pos hp0
       rw [if_pos hp0]
       have hk1 : decide (0 + l.length ≤ (l.map enA).length) = true := decide_eq_true (by simp)
       have hk2 : List.take l.length (l.map enA) = l.map enA := List.take_of_length_le (by simp)
       simp only [go_sem,zaa,Nat.reduceAdd,Nat.reduceSub,Nat.reduceMul,Int.reduceToNat,reduceCtorEq,↓reduceIte,Int.reducePow,Nat.reducePow,Int.reduceMod,Nat.reduceLeDiff,Int.reduceLE,Int.reduceNe,Int.reduceEq,Nat.reduceEqDiff,Nat.reduceLT,Nat.reduceBEq,List.map_cons,List.map_nil,List.toList_toArray,Array.toList_append,Option.toArray_some,Option.toArray_none,Bool.and_self,ty,Spu13,SOpu13,puPl,cpyS,putS13,hr,hz,hex,hle,h0,d0,hcl,hpa,zak,zai,cond_false,cond_true]
       refine ⟨_,zbj 36 3 9 (l.map enA) rfl (zab _) (by simp [slot,AV.ids,idsL]),?_⟩
       simp only [fgL,fgH,AV.fg,Blk.fg,Nat.reduceBEq,cond_true,cond_false,Bool.and_true,beq_self_eq_true,Bool.true_and,List.drop_zero,zbg,hk1,hk2]
       simp only [go_sem,zaa,Nat.reduceAdd,Nat.reduceSub,Nat.reduceMul,Int.reduceToNat,reduceCtorEq,↓reduceIte,Int.reducePow,Nat.reducePow,Int.reduceMod,Nat.reduceLeDiff,Int.reduceLE,Int.reduceNe,Int.reduceEq,Nat.reduceEqDiff,Nat.reduceLT,Nat.reduceBEq,List.map_cons,List.map_nil,List.toList_toArray,Array.toList_append,Option.toArray_some,Option.toArray_none,Bool.and_self,ty,Spu13,zab,hr,zai]
     · rw [if_neg hp0]
       by_cases hf : l.findIdx (isI p) < l.length
       · rw [if_pos hf]
         have hpa : putA l b c p e s = [.g 1 [.agg [.ms 1 3 0 l.length]],.g 3 ((setF l b c p e s).map enA)] := by unfold putA; rw [if_neg hp0,if_pos hf]
         have hql := setF_len l b c p e s
         generalize setF l b c p e s = Q at *
         have hk1 : decide (0 + l.length ≤ (Q.map enA).length) = true := decide_eq_true (by simp; omega)
         have hk2 : List.take l.length (Q.map enA) = Q.map enA := List.take_of_length_le (by simp; omega)
         simp only [go_sem,zaa,Nat.reduceAdd,Nat.reduceSub,Nat.reduceMul,Int.reduceToNat,reduceCtorEq,↓reduceIte,Int.reducePow,Nat.reducePow,Int.reduceMod,Nat.reduceLeDiff,Int.reduceLE,Int.reduceNe,Int.reduceEq,Nat.reduceEqDiff,Nat.reduceLT,Nat.reduceBEq,List.map_cons,List.map_nil,List.toList_toArray,Array.toList_append,Option.toArray_some,Option.toArray_none,Bool.and_self,ty,Spu13,SOpu13,puPl,cpyS,putS13,hr,hz,hex,hle,h0,d0,hcl,hpa,zak,zai,zab,cond_false,cond_true]
         refine ⟨_,zbj 36 3 9 (Q.map enA) rfl (zab _) (by simp [slot,AV.ids,idsL]),?_⟩
         simp only [fgL,fgH,AV.fg,Blk.fg,Nat.reduceBEq,cond_true,cond_false,Bool.and_true,beq_self_eq_true,Bool.true_and,List.drop_zero,zbg,hk1,hk2]
         simp only [go_sem,zaa,Nat.reduceAdd,Nat.reduceSub,Nat.reduceMul,Int.reduceToNat,reduceCtorEq,↓reduceIte,Int.reducePow,Nat.reducePow,Int.reduceMod,Nat.reduceLeDiff,Int.reduceLE,Int.reduceNe,Int.reduceEq,Nat.reduceEqDiff,Nat.reduceLT,Nat.reduceBEq,List.map_cons,List.map_nil,List.toList_toArray,Array.toList_append,Option.toArray_some,Option.toArray_none,Bool.and_self,ty,Spu13,zab,hr,zai]
       · rw [if_neg hf]
         have hpa : putA l b c p e s = [.g 1 [.agg [.ms 2 3 0 (l.length + 1)]],gone,.g 3 ((addF l b c p e s).map enA)] := by unfold putA; rw [if_neg hp0,if_neg hf]
         have hql := addF_len l b c p e s
         generalize addF l b c p e s = Q at *
         have hk1 : decide (0 + (l.length + 1) ≤ (Q.map enA).length) = true := decide_eq_true (by simp; omega)
         have hk2 : List.take (l.length + 1) (Q.map enA) = Q.map enA := List.take_of_length_le (by simp; omega)
         simp only [go_sem,zaa,Nat.reduceAdd,Nat.reduceSub,Nat.reduceMul,Int.reduceToNat,reduceCtorEq,↓reduceIte,Int.reducePow,Nat.reducePow,Int.reduceMod,Nat.reduceLeDiff,Int.reduceLE,Int.reduceNe,Int.reduceEq,Nat.reduceEqDiff,Nat.reduceLT,Nat.reduceBEq,List.map_cons,List.map_nil,List.toList_toArray,Array.toList_append,Option.toArray_some,Option.toArray_none,Bool.and_self,ty,Spu13,SOpu13,puPl,cpyS,putS13,hr,hz,hex,hle,h0,d0,hcl,hpa,zak,zai,zab,cond_false,cond_true]
         refine ⟨_,zbj 60 3 9 (Q.map enA) rfl (zab _) (by simp [slot,AV.ids,idsL]),?_⟩
         simp only [fgL,fgH,AV.fg,Blk.fg,Nat.reduceBEq,cond_true,cond_false,Bool.and_true,beq_self_eq_true,Bool.true_and,List.drop_zero,zbg,hk1,hk2]
         simp only [go_sem,zaa,Nat.reduceAdd,Nat.reduceSub,Nat.reduceMul,Int.reduceToNat,reduceCtorEq,↓reduceIte,Int.reducePow,Nat.reducePow,Int.reduceMod,Nat.reduceLeDiff,Int.reduceLE,Int.reduceNe,Int.reduceEq,Nat.reduceEqDiff,Nat.reduceLT,Nat.reduceBEq,List.map_cons,List.map_nil,List.toList_toArray,Array.toList_append,Option.toArray_some,Option.toArray_none,Bool.and_self,ty,Spu13,zab,hr,zai]
 · exact hp.elim
end
end Go.Proofs.Ytgpcnmajkcfgiaa
namespace Go.Proofs.Ytgpcnmajkcfgiaa
open Ax
theorem and_i64_mask (x : Int) : bits .and .i64 x 2147483647 = x % 2147483648 := by
 show IntKind.i64.wrap ((BitVec.ofInt 64 x &&& BitVec.ofInt 64 2147483647).toNat : Int) = _
 rw [BitVec.toNat_and,show (BitVec.ofInt 64 2147483647).toNat = 2 ^ 31 - 1 from by decide,Nat.and_two_pow_sub_one_eq_mod,BitVec.toNat_ofInt,IntKind.wrap_i64]
 omega
def bhI (q c : Int) : Int := (q + c) % 2147483648
def bhS : zay
 | [.agg [.w (.int .i64 q),.w (.int .i64 c),.w (.int .i64 a)]],[] => ⟨True,.w (.int .i64 (bhI q c)),[]⟩
 | _,_ => zcr
def begF (s : Int) : Int := if s = 0 then 0 else 16
def begS : zay
 | [.agg [.w (.int .i64 b),.w (.int .i64 c),.w (.int .i64 p),.w (.int .i64 e),.w (.int .i64 s),.sg 6 rs h]],[] => ⟨True,.tup [.w (.int .i64 0),.w (.bool false),.w (.int .i64 (begF s))],[]⟩
 | _,_ => zcr
structure An where
 a : Int
 d : Bool
 e : Int
def anA (x : An) : AV := .tup [.w (.int .i64 x.a),.w (.bool x.d),.w (.int .i64 x.e)]
def seeI (l : List Se) (i : Nat) : Se := (l[i]?).getD ⟨0,0,0⟩
def askE (r : En) (c s e : Int) : An :=
 if r.e < e then ⟨0,false,begF s⟩ else if e < r.e then ⟨0,false,17⟩ else if r.l.length = 0 then ⟨0,false,begF s⟩
 else if r.l.findIdx (likeI s c) < r.l.length then ⟨(seeI r.l (r.l.findIdx (likeI s c))).b,true,0⟩
 else if s = bhI (seeI r.l (r.l.length - 1)).q (seeI r.l (r.l.length - 1)).c then ⟨0,false,0⟩ else ⟨0,false,16⟩
def askF (l : List En) (c p e s : Int) : An := if p = 0 then ⟨0,false,0⟩ else if l.findIdx (isI p) < l.length then askE (entI l (l.findIdx (isI p))) c s e else ⟨0,false,begF s⟩
def askS : zay
 | [.agg [.sg 3 xs f],.agg [.w (.int .i64 b),.w (.int .i64 c),.w (.int .i64 p),.w (.int .i64 e),.w (.int .i64 s),.sg 6 rs h]],[] => ⟨closedL rs = true ∧ ∃ l : List En,xs = l.map enA ∧ okL l,anA (askF (xs.map uen) c p e s),[]⟩
 | _,_ => zcr
section
set_option maxRecDepth 100000
set_option maxHeartbeats 4000000
theorem bh_sound : zbx Try.prog 31 bhS := by
 refine fn_soundW (S := noS) (T := ty) zcu ty_ok zdj Try.func31 (c := Try.f31.body.getD .skip) (by kernel_rfl) (by kernel_rfl) (fun xs pins hp _ => ?_)
 unfold bhS at hp ⊢
 split at hp
 · rename_i q c a _
   have hw : bits .and .i64 ((q + c + 9223372036854775808) % 18446744073709551616 - 9223372036854775808) 2147483647 = bhI q c := by
     rw [and_i64_mask]; unfold bhI; omega
   refine ⟨by simp,?_⟩
   unfold Try.f31
   simp only [go_sem,coe,zaf,Nat.reduceAdd,Nat.reduceSub,Nat.reduceMul,Int.reduceToNat,reduceCtorEq,↓reduceIte,Int.reducePow,Nat.reducePow,Int.reduceMod,Nat.reduceLeDiff,Int.reduceLE,Int.reduceNe,Int.reduceEq,Nat.reduceEqDiff,Nat.reduceLT,Nat.reduceBEq,ty,noS,hw]
   try (refine ⟨_,Weak.refl _,?_⟩)
   try simp only [go_sem,coe,zaf,Nat.reduceAdd,Nat.reduceSub,Nat.reduceMul,Int.reduceToNat,reduceCtorEq,↓reduceIte,Int.reducePow,Nat.reducePow,Int.reduceMod,Nat.reduceLeDiff,Int.reduceLE,Int.reduceNe,Int.reduceEq,Nat.reduceEqDiff,Nat.reduceLT,Nat.reduceBEq,ty,noS]
 · exact hp.elim
theorem beg_sound : zbx Try.prog 28 begS := by
 refine fn_soundW (S := noS) (T := ty) zcu ty_ok zdj Try.func28 (c := Try.f28.body.getD .skip) (by kernel_rfl) (by kernel_rfl) (fun xs pins hp _ => ?_)
 unfold begS at hp ⊢
 split at hp
 · rename_i b c p e s rs h _
   refine ⟨by simp,?_⟩
   unfold begF
   unfold Try.f28
   by_cases hs : s = 0
   · have d1 : decide (s = 0) = true := decide_eq_true hs
     rw [if_pos hs]
     simp only [go_sem,coe,zaf,Nat.reduceAdd,Nat.reduceSub,Nat.reduceMul,Int.reduceToNat,reduceCtorEq,↓reduceIte,Int.reducePow,Nat.reducePow,Int.reduceMod,Nat.reduceLeDiff,Int.reduceLE,Int.reduceNe,Int.reduceEq,Nat.reduceEqDiff,Nat.reduceLT,Nat.reduceBEq,ty,noS,d1,Bool.not_true,Bool.not_false]
     try (refine ⟨_,Weak.refl _,?_⟩)
     try simp only [go_sem,coe,zaf,Nat.reduceAdd,Nat.reduceSub,Nat.reduceMul,Int.reduceToNat,reduceCtorEq,↓reduceIte,Int.reducePow,Nat.reducePow,Int.reduceMod,Nat.reduceLeDiff,Int.reduceLE,Int.reduceNe,Int.reduceEq,Nat.reduceEqDiff,Nat.reduceLT,Nat.reduceBEq,ty,noS]
   · have d1 : decide (s = 0) = false := decide_eq_false hs
     rw [if_neg hs]
     simp only [go_sem,coe,zaf,Nat.reduceAdd,Nat.reduceSub,Nat.reduceMul,Int.reduceToNat,reduceCtorEq,↓reduceIte,Int.reducePow,Nat.reducePow,Int.reduceMod,Nat.reduceLeDiff,Int.reduceLE,Int.reduceNe,Int.reduceEq,Nat.reduceEqDiff,Nat.reduceLT,Nat.reduceBEq,ty,noS,d1,Bool.not_true,Bool.not_false]
     try (refine ⟨_,Weak.refl _,?_⟩)
     try simp only [go_sem,coe,zaf,Nat.reduceAdd,Nat.reduceSub,Nat.reduceMul,Int.reduceToNat,reduceCtorEq,↓reduceIte,Int.reducePow,Nat.reducePow,Int.reduceMod,Nat.reduceLeDiff,Int.reduceLE,Int.reduceNe,Int.reduceEq,Nat.reduceEqDiff,Nat.reduceLT,Nat.reduceBEq,ty,noS]
 · exact hp.elim
end
def zdq (f : FuncId) : Option zay :=
 match f with
 | 31 => some bhS
 | 28 => some begS
 | _ => none
theorem Sask13_ok : Fns Try.prog zdq := by
 intro f s h
 unfold zdq at h
 split at h
 · injection h with h; subst h; exact ⟨⟨_,Try.func31,by kernel_rfl,by kernel_rfl⟩,bh_sound⟩
 · injection h with h; subst h; exact ⟨⟨_,Try.func28,by kernel_rfl,by kernel_rfl⟩,beg_sound⟩
 · cases h
def SOask13 (f : FuncId) : Option zay :=
 match f with
 | 27 => some plaS
 | 29 => some fstSS
 | _ => none
theorem SOask13_ok : FnsO Try.prog SOask13 := by
 intro f s h
 unfold SOask13 at h
 split at h
 · injection h with h; subst h; exact ⟨⟨_,Try.func27,by kernel_rfl,by kernel_rfl⟩,pla_sound⟩
 · injection h with h; subst h; exact ⟨⟨_,Try.func29,by kernel_rfl,by kernel_rfl⟩,fstS_sound⟩
 · cases h
def askPl : XPlan := fun id => match id with
 | 3 => .opn [] 3
 | 4 => .prs []
 | 12 => .opn [] 3
 | 15 => .prs [(0,8),(1,8)]
 | _ => .std
section
set_option maxRecDepth 100000
set_option maxHeartbeats 16000000
theorem ask_sound : zbx Try.prog 11 askS := by
 refine zca (S := zdq) (SO := SOask13) (T := ty) zcu ty_ok Sask13_ok SOask13_ok Try.func11 (c := Try.f11.body.getD .skip) (by kernel_rfl) (fun xs pins hp _ => ?_)
 unfold askS at hp ⊢
 split at hp
 · rename_i xs f b c p e s rs h _
   obtain ⟨hr,l,rfl,hL,hi⟩ := hp
   have hle : (l.map enA).length = l.length := by simp
   have hcl := zab l
   have hex : ∃ k : List En,l.map enA = k.map enA := ⟨l,rfl⟩
   have hL9 : l.length ≤ 9223372036854775807 := by omega
   obtain ⟨I,hI⟩ : ∃ I,l.findIdx (isI p) = I := ⟨_,rfl⟩
   have hIl : I ≤ l.length := by rw [← hI]; exact List.findIdx_le_length
   rw [zak]
   unfold askF
   rw [hI]
   refine ⟨by simp,askPl,by kernel_rfl,?_⟩
   unfold Try.f11
   by_cases hp0 : p = 0
   · have q0 : decide (p = 0) = true := decide_eq_true hp0
     rw [if_pos hp0]
     iterate 16
       try rw [zaa]
       try simp only [go_sem,zaa,Nat.reduceAdd,Nat.reduceSub,Nat.reduceMul,Int.reduceToNat,reduceCtorEq,↓reduceIte,Int.reducePow,Nat.reducePow,Int.reduceMod,Nat.reduceLeDiff,Int.reduceLE,Int.reduceNe,Int.reduceEq,Nat.reduceEqDiff,Nat.reduceLT,Nat.reduceBEq,List.map_cons,List.map_nil,List.toList_toArray,Array.toList_append,Option.toArray_some,Option.toArray_none,Bool.and_self,-zaa,ty,zdq,SOask13,askPl,plaS,fstSS,bhS,begS,zcb,coe_se,hr,hle,hL9,hcl,hex,zak,map_se,zab,zac,hI,q0,Int.toNat_natCast,Bool.not_true,Bool.not_false]
       repeat (refine And.intro (by first | omega | exact ⟨by omega,by omega⟩ | (unfold top; omega)) ?_)
     refine ⟨_,Weak.refl _,?_⟩
     simp only [go_sem,zaa,Nat.reduceAdd,Nat.reduceSub,Nat.reduceMul,Int.reduceToNat,reduceCtorEq,↓reduceIte,Int.reducePow,Nat.reducePow,Int.reduceMod,Nat.reduceLeDiff,Int.reduceLE,Int.reduceNe,Int.reduceEq,Nat.reduceEqDiff,Nat.reduceLT,Nat.reduceBEq,List.map_cons,List.map_nil,List.toList_toArray,Array.toList_append,Option.toArray_some,Option.toArray_none,Bool.and_self,ty,zdq,anA,hr]
   · have q0 : decide (p = 0) = false := decide_eq_false hp0
     rw [if_neg hp0]
     by_cases hf : I < l.length
     · rw [if_pos hf]
       have q1 : decide ((I : Int) = (l.length : Int)) = false := decide_eq_false (by omega)
       have hs1 := zbw l I hf
       obtain ⟨r,hr1⟩ : ∃ r,l[I] = r := ⟨_,rfl⟩
       have hil := hi _ (List.getElem_mem hf)
       rw [hr1] at hs1 hil
       obtain ⟨i1,e1,l1⟩ := r
       simp only at hil
       have hent : entI l I = ⟨i1,e1,l1⟩ := by unfold entI; rw [List.getElem?_eq_getElem hf,hr1]; rfl
       rw [hent]
       unfold askE
       have hs1 : slot (l.map enA) I = .agg [.w (.int .i64 i1),.w (.int .i64 e1),.sg 3 (l1.map seA) false] := hs1
       have hle1 : (l1.map seA).length = l1.length := by simp
       have hx1 : ∃ k : List Se,l1.map seA = k.map seA := ⟨l1,rfl⟩
       have hL1 : l1.length ≤ 9223372036854775807 := by omega
       by_cases h1 : e1 < e
       · have q2 : decide (e1 < e) = true := decide_eq_true h1
         rw [if_pos h1]
         iterate 16
           try rw [zaa]
           try simp only [go_sem,zaa,Nat.reduceAdd,Nat.reduceSub,Nat.reduceMul,Int.reduceToNat,reduceCtorEq,↓reduceIte,Int.reducePow,Nat.reducePow,Int.reduceMod,Nat.reduceLeDiff,Int.reduceLE,Int.reduceNe,Int.reduceEq,Nat.reduceEqDiff,Nat.reduceLT,Nat.reduceBEq,List.map_cons,List.map_nil,List.toList_toArray,Array.toList_append,Option.toArray_some,Option.toArray_none,Bool.and_self,-zaa,ty,zdq,SOask13,askPl,plaS,fstSS,bhS,begS,zcb,coe_se,hr,hle,hL9,hcl,hex,zak,map_se,zab,zac,hI,q0,Int.toNat_natCast,Bool.not_true,Bool.not_false,q1,hs1,hle1,hx1,hL1,q2]
           repeat (refine And.intro (by first | omega | exact ⟨by omega,by omega⟩ | (unfold top; omega)) ?_)
         refine ⟨_,Weak.refl _,?_⟩
         simp only [go_sem,zaa,Nat.reduceAdd,Nat.reduceSub,Nat.reduceMul,Int.reduceToNat,reduceCtorEq,↓reduceIte,Int.reducePow,Nat.reducePow,Int.reduceMod,Nat.reduceLeDiff,Int.reduceLE,Int.reduceNe,Int.reduceEq,Nat.reduceEqDiff,Nat.reduceLT,Nat.reduceBEq,List.map_cons,List.map_nil,List.toList_toArray,Array.toList_append,Option.toArray_some,Option.toArray_none,Bool.and_self,ty,zdq,anA,hr]
       · have q2 : decide (e1 < e) = false := decide_eq_false h1
         rw [if_neg h1]
         by_cases h2 : e < e1
         · have q3 : decide (e < e1) = true := decide_eq_true h2
           rw [if_pos h2]
           iterate 16
             try rw [zaa]
             try simp only [go_sem,zaa,Nat.reduceAdd,Nat.reduceSub,Nat.reduceMul,Int.reduceToNat,reduceCtorEq,↓reduceIte,Int.reducePow,Nat.reducePow,Int.reduceMod,Nat.reduceLeDiff,Int.reduceLE,Int.reduceNe,Int.reduceEq,Nat.reduceEqDiff,Nat.reduceLT,Nat.reduceBEq,List.map_cons,List.map_nil,List.toList_toArray,Array.toList_append,Option.toArray_some,Option.toArray_none,Bool.and_self,-zaa,ty,zdq,SOask13,askPl,plaS,fstSS,bhS,begS,zcb,coe_se,hr,hle,hL9,hcl,hex,zak,map_se,zab,zac,hI,q0,Int.toNat_natCast,Bool.not_true,Bool.not_false,q1,hs1,hle1,hx1,hL1,q2,q3]
             repeat (refine And.intro (by first | omega | exact ⟨by omega,by omega⟩ | (unfold top; omega)) ?_)
           refine ⟨_,Weak.refl _,?_⟩
           simp only [go_sem,zaa,Nat.reduceAdd,Nat.reduceSub,Nat.reduceMul,Int.reduceToNat,reduceCtorEq,↓reduceIte,Int.reducePow,Nat.reducePow,Int.reduceMod,Nat.reduceLeDiff,Int.reduceLE,Int.reduceNe,Int.reduceEq,Nat.reduceEqDiff,Nat.reduceLT,Nat.reduceBEq,List.map_cons,List.map_nil,List.toList_toArray,Array.toList_append,Option.toArray_some,Option.toArray_none,Bool.and_self,ty,zdq,anA,hr]
         · have q3 : decide (e < e1) = false := decide_eq_false h2
           rw [if_neg h2]
           by_cases h3 : l1.length = 0
           · have q4 : decide ((l1.length : Int) = 0) = true := decide_eq_true (by omega)
             rw [if_pos h3]
             iterate 16
               try rw [zaa]
               try simp only [go_sem,zaa,Nat.reduceAdd,Nat.reduceSub,Nat.reduceMul,Int.reduceToNat,reduceCtorEq,↓reduceIte,Int.reducePow,Nat.reducePow,Int.reduceMod,Nat.reduceLeDiff,Int.reduceLE,Int.reduceNe,Int.reduceEq,Nat.reduceEqDiff,Nat.reduceLT,Nat.reduceBEq,List.map_cons,List.map_nil,List.toList_toArray,Array.toList_append,Option.toArray_some,Option.toArray_none,Bool.and_self,-zaa,ty,zdq,SOask13,askPl,plaS,fstSS,bhS,begS,zcb,coe_se,hr,hle,hL9,hcl,hex,zak,map_se,zab,zac,hI,q0,Int.toNat_natCast,Bool.not_true,Bool.not_false,q1,hs1,hle1,hx1,hL1,q2,q3,q4]
               repeat (refine And.intro (by first | omega | exact ⟨by omega,by omega⟩ | (unfold top; omega)) ?_)
             refine ⟨_,Weak.refl _,?_⟩
             simp only [go_sem,zaa,Nat.reduceAdd,Nat.reduceSub,Nat.reduceMul,Int.reduceToNat,reduceCtorEq,↓reduceIte,Int.reducePow,Nat.reducePow,Int.reduceMod,Nat.reduceLeDiff,Int.reduceLE,Int.reduceNe,Int.reduceEq,Nat.reduceEqDiff,Nat.reduceLT,Nat.reduceBEq,List.map_cons,List.map_nil,List.toList_toArray,Array.toList_append,Option.toArray_some,Option.toArray_none,Bool.and_self,ty,zdq,anA,hr]
           · have q4 : decide ((l1.length : Int) = 0) = false := decide_eq_false (by omega)
             rw [if_neg h3]
             obtain ⟨J,hJ⟩ : ∃ J,l1.findIdx (likeI s c) = J := ⟨_,rfl⟩
             have hJl : J ≤ l1.length := by rw [← hJ]; exact List.findIdx_le_length
             rw [hJ]
             by_cases h4 : J < l1.length
             · have q5 : decide ((J : Int) < (l1.length : Int)) = true := decide_eq_true (by omega)
               rw [if_pos h4]
               have hs2 := zfm l1 J h4
               have hsee : seeI l1 J = l1[J] := by unfold seeI; rw [List.getElem?_eq_getElem h4]; rfl
               rw [hsee]
               obtain ⟨q,hq1⟩ : ∃ q,l1[J] = q := ⟨_,rfl⟩
               rw [hq1] at hs2 ⊢
               obtain ⟨sq,sc,sb⟩ := q
               have hs2 : slot (l1.map seA) J = .agg [.w (.int .i64 sq),.w (.int .i64 sc),.w (.int .i64 sb)] := hs2
               iterate 20
                 try rw [zaa]
                 try simp only [go_sem,zaa,Nat.reduceAdd,Nat.reduceSub,Nat.reduceMul,Int.reduceToNat,reduceCtorEq,↓reduceIte,Int.reducePow,Nat.reducePow,Int.reduceMod,Nat.reduceLeDiff,Int.reduceLE,Int.reduceNe,Int.reduceEq,Nat.reduceEqDiff,Nat.reduceLT,Nat.reduceBEq,List.map_cons,List.map_nil,List.toList_toArray,Array.toList_append,Option.toArray_some,Option.toArray_none,Bool.and_self,-zaa,ty,zdq,SOask13,askPl,plaS,fstSS,bhS,begS,zcb,coe_se,hr,hle,hL9,hcl,hex,zak,map_se,zab,zac,hI,q0,Int.toNat_natCast,Bool.not_true,Bool.not_false,q1,hs1,hle1,hx1,hL1,q2,q3,q4,hJ,q5,hs2]
                 repeat (refine And.intro (by first | omega | exact ⟨by omega,by omega⟩ | (unfold top; omega)) ?_)
               refine ⟨_,Weak.refl _,?_⟩
               simp only [go_sem,zaa,Nat.reduceAdd,Nat.reduceSub,Nat.reduceMul,Int.reduceToNat,reduceCtorEq,↓reduceIte,Int.reducePow,Nat.reducePow,Int.reduceMod,Nat.reduceLeDiff,Int.reduceLE,Int.reduceNe,Int.reduceEq,Nat.reduceEqDiff,Nat.reduceLT,Nat.reduceBEq,List.map_cons,List.map_nil,List.toList_toArray,Array.toList_append,Option.toArray_some,Option.toArray_none,Bool.and_self,ty,zdq,anA,hr]
             · have q5 : decide ((J : Int) < (l1.length : Int)) = false := decide_eq_false (by omega)
               rw [if_neg h4]
               have hN : ((l1.length : Int) - 1 + 9223372036854775808) % 18446744073709551616 - 9223372036854775808 = ((l1.length - 1 : Nat) : Int) := by omega
               have hs2 := zfm l1 (l1.length - 1) (by omega)
               have hsee : seeI l1 (l1.length - 1) = l1[l1.length - 1] := by unfold seeI; rw [List.getElem?_eq_getElem (show l1.length - 1 < l1.length by omega)]; rfl
               rw [hsee]
               obtain ⟨q,hq1⟩ : ∃ q,l1[l1.length - 1]'(by omega) = q := ⟨_,rfl⟩
               rw [hq1] at hs2 ⊢
               obtain ⟨sq,sc,sb⟩ := q
               have hs2 : slot (l1.map seA) (l1.length - 1) = .agg [.w (.int .i64 sq),.w (.int .i64 sc),.w (.int .i64 sb)] := hs2
               obtain ⟨M,hM⟩ : ∃ M,l1.length - 1 = M := ⟨_,rfl⟩
               have hMl : M < l1.length := by omega
               rw [hM] at hs2 hN
               by_cases h5 : s = bhI sq sc
               · have q6 : decide (s = bhI sq sc) = true := decide_eq_true h5
                 rw [if_pos h5]
                 iterate 20
                   try rw [zaa]
                   try simp only [go_sem,zaa,Nat.reduceAdd,Nat.reduceSub,Nat.reduceMul,Int.reduceToNat,reduceCtorEq,↓reduceIte,Int.reducePow,Nat.reducePow,Int.reduceMod,Nat.reduceLeDiff,Int.reduceLE,Int.reduceNe,Int.reduceEq,Nat.reduceEqDiff,Nat.reduceLT,Nat.reduceBEq,List.map_cons,List.map_nil,List.toList_toArray,Array.toList_append,Option.toArray_some,Option.toArray_none,Bool.and_self,-zaa,ty,zdq,SOask13,askPl,plaS,fstSS,bhS,begS,zcb,coe_se,hr,hle,hL9,hcl,hex,zak,map_se,zab,zac,hI,q0,Int.toNat_natCast,Bool.not_true,Bool.not_false,q1,hs1,hle1,hx1,hL1,q2,q3,q4,hJ,q5,hN,hs2,q6]
                   repeat (refine And.intro (by first | omega | exact ⟨by omega,by omega⟩ | (unfold top; omega)) ?_)
                 refine ⟨_,Weak.refl _,?_⟩
                 simp only [go_sem,zaa,Nat.reduceAdd,Nat.reduceSub,Nat.reduceMul,Int.reduceToNat,reduceCtorEq,↓reduceIte,Int.reducePow,Nat.reducePow,Int.reduceMod,Nat.reduceLeDiff,Int.reduceLE,Int.reduceNe,Int.reduceEq,Nat.reduceEqDiff,Nat.reduceLT,Nat.reduceBEq,List.map_cons,List.map_nil,List.toList_toArray,Array.toList_append,Option.toArray_some,Option.toArray_none,Bool.and_self,ty,zdq,anA,hr]
               · have q6 : decide (s = bhI sq sc) = false := decide_eq_false h5
                 rw [if_neg h5]
                 iterate 20
                   try rw [zaa]
                   try simp only [go_sem,zaa,Nat.reduceAdd,Nat.reduceSub,Nat.reduceMul,Int.reduceToNat,reduceCtorEq,↓reduceIte,Int.reducePow,Nat.reducePow,Int.reduceMod,Nat.reduceLeDiff,Int.reduceLE,Int.reduceNe,Int.reduceEq,Nat.reduceEqDiff,Nat.reduceLT,Nat.reduceBEq,List.map_cons,List.map_nil,List.toList_toArray,Array.toList_append,Option.toArray_some,Option.toArray_none,Bool.and_self,-zaa,ty,zdq,SOask13,askPl,plaS,fstSS,bhS,begS,zcb,coe_se,hr,hle,hL9,hcl,hex,zak,map_se,zab,zac,hI,q0,Int.toNat_natCast,Bool.not_true,Bool.not_false,q1,hs1,hle1,hx1,hL1,q2,q3,q4,hJ,q5,hN,hs2,q6]
                   repeat (refine And.intro (by first | omega | exact ⟨by omega,by omega⟩ | (unfold top; omega)) ?_)
                 refine ⟨_,Weak.refl _,?_⟩
                 simp only [go_sem,zaa,Nat.reduceAdd,Nat.reduceSub,Nat.reduceMul,Int.reduceToNat,reduceCtorEq,↓reduceIte,Int.reducePow,Nat.reducePow,Int.reduceMod,Nat.reduceLeDiff,Int.reduceLE,Int.reduceNe,Int.reduceEq,Nat.reduceEqDiff,Nat.reduceLT,Nat.reduceBEq,List.map_cons,List.map_nil,List.toList_toArray,Array.toList_append,Option.toArray_some,Option.toArray_none,Bool.and_self,ty,zdq,anA,hr]
     · rw [if_neg hf]
       have q1 : decide ((I : Int) = (l.length : Int)) = true := decide_eq_true (by omega)
       iterate 16
         try rw [zaa]
         try simp only [go_sem,zaa,Nat.reduceAdd,Nat.reduceSub,Nat.reduceMul,Int.reduceToNat,reduceCtorEq,↓reduceIte,Int.reducePow,Nat.reducePow,Int.reduceMod,Nat.reduceLeDiff,Int.reduceLE,Int.reduceNe,Int.reduceEq,Nat.reduceEqDiff,Nat.reduceLT,Nat.reduceBEq,List.map_cons,List.map_nil,List.toList_toArray,Array.toList_append,Option.toArray_some,Option.toArray_none,Bool.and_self,-zaa,ty,zdq,SOask13,askPl,plaS,fstSS,bhS,begS,zcb,coe_se,hr,hle,hL9,hcl,hex,zak,map_se,zab,zac,hI,q0,Int.toNat_natCast,Bool.not_true,Bool.not_false,q1]
         repeat (refine And.intro (by first | omega | exact ⟨by omega,by omega⟩ | (unfold top; omega)) ?_)
       refine ⟨_,Weak.refl _,?_⟩
       simp only [go_sem,zaa,Nat.reduceAdd,Nat.reduceSub,Nat.reduceMul,Int.reduceToNat,reduceCtorEq,↓reduceIte,Int.reducePow,Nat.reducePow,Int.reduceMod,Nat.reduceLeDiff,Int.reduceLE,Int.reduceNe,Int.reduceEq,Nat.reduceEqDiff,Nat.reduceLT,Nat.reduceBEq,List.map_cons,List.map_nil,List.toList_toArray,Array.toList_append,Option.toArray_some,Option.toArray_none,Bool.and_self,ty,zdq,anA,hr]
 · exact hp.elim
end
end Go.Proofs.Ytgpcnmajkcfgiaa
namespace Go.Proofs.Ytgpcnmajkcfgiaa
open Ax
theorem lk_eq (q : En → Bool) : ∀ l : List En,l.find? q = if l.findIdx q < l.length then some (entI l (l.findIdx q)) else none
 | [] => rfl
 | x :: l => by
   have ih := lk_eq q l
   rw [List.find?_cons,List.findIdx_cons]
   cases hq : q x with
   | true => simp [entI]
   | false =>
     simp only [cond_false,List.length_cons]
     rw [ih]
     by_cases h : l.findIdx q < l.length
     · rw [if_pos h,if_pos (by omega)]; unfold entI; rw [List.getElem?_cons_succ]
     · rw [if_neg h,if_neg (by omega)]
end Go.Proofs.Ytgpcnmajkcfgiaa
