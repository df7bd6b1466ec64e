/- What the proofs of this seat stand on; it asks nothing. -/
import Derived.Test.YtmedjkjoannbmaaZa10
set_option linter.unusedSimpArgs false
set_option linter.unusedVariables false
namespace Go.Proofs.Ytmedjkjoannbmaa
open Ax
def bfld (b c p e s n : Int) : Int :=
 if c < 1 ∨ 32 < c ∨ b < 0 ∨ 4611686018427387903 - c < b ∨ p < 0 ∨ 1099511627776 < p ∨ e < 0 ∨ 32767 < e ∨ s < 0 ∨ 2147483647 < s then 11
 else if p = 0 ∧ (e ≠ 0 ∨ s ≠ 0) then 4 else if c < n then 5 else 0
def bfldS : zaq
 | [.agg [.w (.int .i64 b),.w (.int .i64 c),.w (.int .i64 p),.w (.int .i64 e),.w (.int .i64 s),.sg 6 xs f]],[] => ⟨xs.length ≤ 9223372036854775807,.w (.int .i64 (bfld b c p e s xs.length)),[]⟩
 | _,_ => zbv
section
set_option maxRecDepth 100000
set_option maxHeartbeats 1000000 in
theorem bfld_sound : zbf Try.prog 91 bfldS := by
 refine zau (S := noS) (T := ty) zbj ty_ok zcy Try.func91 (c := Try.f91.body.getD .skip) (by kernel_rfl) (by kernel_rfl) (fun xs pins hp _ => ?_)
 unfold bfldS at hp ⊢
 split at hp
 · rename_i b c p e s xs f _
   refine ⟨by simp,?_⟩
   unfold Try.f91
   by_cases h0 : c < 1
   · have d0 : decide (c < 1) = true := decide_eq_true h0
     have hv : bfld b c p e s xs.length = 11 := if_pos (by omega)
     simp only [go_sem,coe,zaa,Nat.reduceAdd,Nat.reduceSub,Nat.reduceMul,Int.reduceToNat,reduceCtorEq,↓reduceIte,Int.reducePow,Nat.reducePow,Int.reduceMod,Nat.reduceLeDiff,Int.reduceLE,Int.reduceNe,Int.reduceEq,Nat.reduceEqDiff,Nat.reduceLT,Nat.reduceBEq,ty,noS,hv,d0]
   have d0 : decide (c < 1) = false := decide_eq_false h0
   by_cases h1 : 32 < c
   · have d1 : decide (32 < c) = true := decide_eq_true h1
     have hv : bfld b c p e s xs.length = 11 := if_pos (by omega)
     simp only [go_sem,coe,zaa,Nat.reduceAdd,Nat.reduceSub,Nat.reduceMul,Int.reduceToNat,reduceCtorEq,↓reduceIte,Int.reducePow,Nat.reducePow,Int.reduceMod,Nat.reduceLeDiff,Int.reduceLE,Int.reduceNe,Int.reduceEq,Nat.reduceEqDiff,Nat.reduceLT,Nat.reduceBEq,ty,noS,hv,d0,d1]
   have d1 : decide (32 < c) = false := decide_eq_false h1
   have e1 : (4611686018427387903 - c + 9223372036854775808) % 18446744073709551616 - 9223372036854775808 = 4611686018427387903 - c := by omega
   by_cases h2 : b < 0
   · have d2 : decide (b < 0) = true := decide_eq_true h2
     have hv : bfld b c p e s xs.length = 11 := if_pos (by omega)
     simp only [go_sem,coe,zaa,Nat.reduceAdd,Nat.reduceSub,Nat.reduceMul,Int.reduceToNat,reduceCtorEq,↓reduceIte,Int.reducePow,Nat.reducePow,Int.reduceMod,Nat.reduceLeDiff,Int.reduceLE,Int.reduceNe,Int.reduceEq,Nat.reduceEqDiff,Nat.reduceLT,Nat.reduceBEq,ty,noS,hv,d0,d1,d2]
   have d2 : decide (b < 0) = false := decide_eq_false h2
   by_cases h3 : 4611686018427387903 - c < b
   · have d3 : decide (4611686018427387903 - c < b) = true := decide_eq_true h3
     have hv : bfld b c p e s xs.length = 11 := if_pos (by omega)
     simp only [go_sem,coe,zaa,Nat.reduceAdd,Nat.reduceSub,Nat.reduceMul,Int.reduceToNat,reduceCtorEq,↓reduceIte,Int.reducePow,Nat.reducePow,Int.reduceMod,Nat.reduceLeDiff,Int.reduceLE,Int.reduceNe,Int.reduceEq,Nat.reduceEqDiff,Nat.reduceLT,Nat.reduceBEq,ty,noS,hv,d0,d1,d2,d3,e1]
   have d3 : decide (4611686018427387903 - c < b) = false := decide_eq_false h3
   by_cases h4 : p < 0
   · have d4 : decide (p < 0) = true := decide_eq_true h4
     have hv : bfld b c p e s xs.length = 11 := if_pos (by omega)
     simp only [go_sem,coe,zaa,Nat.reduceAdd,Nat.reduceSub,Nat.reduceMul,Int.reduceToNat,reduceCtorEq,↓reduceIte,Int.reducePow,Nat.reducePow,Int.reduceMod,Nat.reduceLeDiff,Int.reduceLE,Int.reduceNe,Int.reduceEq,Nat.reduceEqDiff,Nat.reduceLT,Nat.reduceBEq,ty,noS,hv,d0,d1,d2,d3,d4,e1]
   have d4 : decide (p < 0) = false := decide_eq_false h4
   by_cases h5 : 1099511627776 < p
   · have d5 : decide (1099511627776 < p) = true := decide_eq_true h5
     have hv : bfld b c p e s xs.length = 11 := if_pos (by omega)
     simp only [go_sem,coe,zaa,Nat.reduceAdd,Nat.reduceSub,Nat.reduceMul,Int.reduceToNat,reduceCtorEq,↓reduceIte,Int.reducePow,Nat.reducePow,Int.reduceMod,Nat.reduceLeDiff,Int.reduceLE,Int.reduceNe,Int.reduceEq,Nat.reduceEqDiff,Nat.reduceLT,Nat.reduceBEq,ty,noS,hv,d0,d1,d2,d3,d4,d5,e1]
   have d5 : decide (1099511627776 < p) = false := decide_eq_false h5
   by_cases h6 : e < 0
   · have d6 : decide (e < 0) = true := decide_eq_true h6
     have hv : bfld b c p e s xs.length = 11 := if_pos (by omega)
     simp only [go_sem,coe,zaa,Nat.reduceAdd,Nat.reduceSub,Nat.reduceMul,Int.reduceToNat,reduceCtorEq,↓reduceIte,Int.reducePow,Nat.reducePow,Int.reduceMod,Nat.reduceLeDiff,Int.reduceLE,Int.reduceNe,Int.reduceEq,Nat.reduceEqDiff,Nat.reduceLT,Nat.reduceBEq,ty,noS,hv,d0,d1,d2,d3,d4,d5,d6,e1]
   have d6 : decide (e < 0) = false := decide_eq_false h6
   by_cases h7 : 32767 < e
   · have d7 : decide (32767 < e) = true := decide_eq_true h7
     have hv : bfld b c p e s xs.length = 11 := if_pos (by omega)
     simp only [go_sem,coe,zaa,Nat.reduceAdd,Nat.reduceSub,Nat.reduceMul,Int.reduceToNat,reduceCtorEq,↓reduceIte,Int.reducePow,Nat.reducePow,Int.reduceMod,Nat.reduceLeDiff,Int.reduceLE,Int.reduceNe,Int.reduceEq,Nat.reduceEqDiff,Nat.reduceLT,Nat.reduceBEq,ty,noS,hv,d0,d1,d2,d3,d4,d5,d6,d7,e1]
   have d7 : decide (32767 < e) = false := decide_eq_false h7
   by_cases h8 : s < 0
   · have d8 : decide (s < 0) = true := decide_eq_true h8
     have hv : bfld b c p e s xs.length = 11 := if_pos (by omega)
     simp only [go_sem,coe,zaa,Nat.reduceAdd,Nat.reduceSub,Nat.reduceMul,Int.reduceToNat,reduceCtorEq,↓reduceIte,Int.reducePow,Nat.reducePow,Int.reduceMod,Nat.reduceLeDiff,Int.reduceLE,Int.reduceNe,Int.reduceEq,Nat.reduceEqDiff,Nat.reduceLT,Nat.reduceBEq,ty,noS,hv,d0,d1,d2,d3,d4,d5,d6,d7,d8,e1]
   have d8 : decide (s < 0) = false := decide_eq_false h8
   by_cases h9 : 2147483647 < s
   · have d9 : decide (2147483647 < s) = true := decide_eq_true h9
     have hv : bfld b c p e s xs.length = 11 := if_pos (by omega)
     simp only [go_sem,coe,zaa,Nat.reduceAdd,Nat.reduceSub,Nat.reduceMul,Int.reduceToNat,reduceCtorEq,↓reduceIte,Int.reducePow,Nat.reducePow,Int.reduceMod,Nat.reduceLeDiff,Int.reduceLE,Int.reduceNe,Int.reduceEq,Nat.reduceEqDiff,Nat.reduceLT,Nat.reduceBEq,ty,noS,hv,d0,d1,d2,d3,d4,d5,d6,d7,d8,d9,e1]
   have d9 : decide (2147483647 < s) = false := decide_eq_false h9
   have hn : ¬ (c < 1 ∨ 32 < c ∨ b < 0 ∨ 4611686018427387903 - c < b ∨ p < 0 ∨ 1099511627776 < p ∨ e < 0 ∨ 32767 < e ∨ s < 0 ∨ 2147483647 < s) := by omega
   have hr : bfld b c p e s xs.length = if p = 0 ∧ (e ≠ 0 ∨ s ≠ 0) then 4 else if c < xs.length then 5 else 0 := if_neg hn
   by_cases hl : c < xs.length
   · have dl : decide (c < (xs.length : Int)) = true := decide_eq_true hl
     by_cases hp0 : p = 0
     · have dp : decide (p = 0) = true := decide_eq_true hp0
       by_cases he0 : e = 0
       · have de : decide (e = 0) = true := decide_eq_true he0
         by_cases hs0 : s = 0
         · have ds : decide (s = 0) = true := decide_eq_true hs0
           have hv : bfld b c p e s xs.length = 5 := by rw [hr,if_neg (by omega),if_pos hl]
           simp only [go_sem,coe,zaa,Nat.reduceAdd,Nat.reduceSub,Nat.reduceMul,Int.reduceToNat,reduceCtorEq,↓reduceIte,Int.reducePow,Nat.reducePow,Int.reduceMod,Nat.reduceLeDiff,Int.reduceLE,Int.reduceNe,Int.reduceEq,Nat.reduceEqDiff,Nat.reduceLT,Nat.reduceBEq,ty,noS,hv,d0,d1,d2,d3,d4,d5,d6,d7,d8,d9,e1,dl,dp,de,ds]
         · have ds : decide (s = 0) = false := decide_eq_false hs0
           have hv : bfld b c p e s xs.length = 4 := by rw [hr,if_pos (by omega)]
           simp only [go_sem,coe,zaa,Nat.reduceAdd,Nat.reduceSub,Nat.reduceMul,Int.reduceToNat,reduceCtorEq,↓reduceIte,Int.reducePow,Nat.reducePow,Int.reduceMod,Nat.reduceLeDiff,Int.reduceLE,Int.reduceNe,Int.reduceEq,Nat.reduceEqDiff,Nat.reduceLT,Nat.reduceBEq,ty,noS,hv,d0,d1,d2,d3,d4,d5,d6,d7,d8,d9,e1,dl,dp,de,ds]
       · have de : decide (e = 0) = false := decide_eq_false he0
         have hv : bfld b c p e s xs.length = 4 := by rw [hr,if_pos (by omega)]
         simp only [go_sem,coe,zaa,Nat.reduceAdd,Nat.reduceSub,Nat.reduceMul,Int.reduceToNat,reduceCtorEq,↓reduceIte,Int.reducePow,Nat.reducePow,Int.reduceMod,Nat.reduceLeDiff,Int.reduceLE,Int.reduceNe,Int.reduceEq,Nat.reduceEqDiff,Nat.reduceLT,Nat.reduceBEq,ty,noS,hv,d0,d1,d2,d3,d4,d5,d6,d7,d8,d9,e1,dl,dp,de]
     · have dp : decide (p = 0) = false := decide_eq_false hp0
       have hv : bfld b c p e s xs.length = 5 := by rw [hr,if_neg (by omega),if_pos hl]
       simp only [go_sem,coe,zaa,Nat.reduceAdd,Nat.reduceSub,Nat.reduceMul,Int.reduceToNat,reduceCtorEq,↓reduceIte,Int.reducePow,Nat.reducePow,Int.reduceMod,Nat.reduceLeDiff,Int.reduceLE,Int.reduceNe,Int.reduceEq,Nat.reduceEqDiff,Nat.reduceLT,Nat.reduceBEq,ty,noS,hv,d0,d1,d2,d3,d4,d5,d6,d7,d8,d9,e1,dl,dp]
   · have dl : decide (c < (xs.length : Int)) = false := decide_eq_false hl
     by_cases hp0 : p = 0
     · have dp : decide (p = 0) = true := decide_eq_true hp0
       by_cases he0 : e = 0
       · have de : decide (e = 0) = true := decide_eq_true he0
         by_cases hs0 : s = 0
         · have ds : decide (s = 0) = true := decide_eq_true hs0
           have hv : bfld b c p e s xs.length = 0 := by rw [hr,if_neg (by omega),if_neg hl]
           simp only [go_sem,coe,zaa,Nat.reduceAdd,Nat.reduceSub,Nat.reduceMul,Int.reduceToNat,reduceCtorEq,↓reduceIte,Int.reducePow,Nat.reducePow,Int.reduceMod,Nat.reduceLeDiff,Int.reduceLE,Int.reduceNe,Int.reduceEq,Nat.reduceEqDiff,Nat.reduceLT,Nat.reduceBEq,ty,noS,hv,d0,d1,d2,d3,d4,d5,d6,d7,d8,d9,e1,dl,dp,de,ds]
         · have ds : decide (s = 0) = false := decide_eq_false hs0
           have hv : bfld b c p e s xs.length = 4 := by rw [hr,if_pos (by omega)]
           simp only [go_sem,coe,zaa,Nat.reduceAdd,Nat.reduceSub,Nat.reduceMul,Int.reduceToNat,reduceCtorEq,↓reduceIte,Int.reducePow,Nat.reducePow,Int.reduceMod,Nat.reduceLeDiff,Int.reduceLE,Int.reduceNe,Int.reduceEq,Nat.reduceEqDiff,Nat.reduceLT,Nat.reduceBEq,ty,noS,hv,d0,d1,d2,d3,d4,d5,d6,d7,d8,d9,e1,dl,dp,de,ds]
       · have de : decide (e = 0) = false := decide_eq_false he0
         have hv : bfld b c p e s xs.length = 4 := by rw [hr,if_pos (by omega)]
         simp only [go_sem,coe,zaa,Nat.reduceAdd,Nat.reduceSub,Nat.reduceMul,Int.reduceToNat,reduceCtorEq,↓reduceIte,Int.reducePow,Nat.reducePow,Int.reduceMod,Nat.reduceLeDiff,Int.reduceLE,Int.reduceNe,Int.reduceEq,Nat.reduceEqDiff,Nat.reduceLT,Nat.reduceBEq,ty,noS,hv,d0,d1,d2,d3,d4,d5,d6,d7,d8,d9,e1,dl,dp,de]
     · have dp : decide (p = 0) = false := decide_eq_false hp0
       have hv : bfld b c p e s xs.length = 0 := by rw [hr,if_neg (by omega),if_neg hl]
       simp only [go_sem,coe,zaa,Nat.reduceAdd,Nat.reduceSub,Nat.reduceMul,Int.reduceToNat,reduceCtorEq,↓reduceIte,Int.reducePow,Nat.reducePow,Int.reduceMod,Nat.reduceLeDiff,Int.reduceLE,Int.reduceNe,Int.reduceEq,Nat.reduceEqDiff,Nat.reduceLT,Nat.reduceBEq,ty,noS,hv,d0,d1,d2,d3,d4,d5,d6,d7,d8,d9,e1,dl,dp]
 · exact hp.elim
end
end Go.Proofs.Ytmedjkjoannbmaa
namespace Go.Proofs.Ytmedjkjoannbmaa
open Ax
def beqS : zaq
 | [.sb a _,.sb b _],[] => ⟨True,.w (.bool (decide (a = b))),[]⟩
 | _,_ => zbv
section
set_option maxRecDepth 100000
theorem beq_sound : zbf Try.prog 49 beqS := by
 refine zau (S := noS) (T := ty) zbj ty_ok zcy Try.func49 (c := Try.f49.body.getD .skip) (by kernel_rfl) (by kernel_rfl) (fun xs pins hp _ => ?_)
 unfold beqS at hp ⊢
 split at hp
 · rename_i a f b g _
   refine ⟨by simp,?_⟩
   unfold Try.f49
   simp only [go_sem,coe,zaa,Nat.reduceAdd,Nat.reduceSub,Nat.reduceMul,Int.reduceToNat,reduceCtorEq,↓reduceIte,Int.reducePow,Nat.reducePow,Int.reduceMod,Nat.reduceLeDiff,Int.reduceLE,Int.reduceNe,Int.reduceEq,Nat.reduceEqDiff,Nat.reduceLT,Nat.reduceBEq,ty,noS]
 · exact hp.elim
set_option maxHeartbeats 1000000 in
set_option maxHeartbeats 1000000 in
set_option maxHeartbeats 1000000 in
end
end Go.Proofs.Ytmedjkjoannbmaa
namespace Go.Proofs.Ytmedjkjoannbmaa
open Ax
theorem zfi {α : Type} (g : α → AV) : ∀ (ps : List α) (i : Nat) (h : i < ps.length),slot (ps.map g) i = g ps[i]
 | p :: ps,0,h => rfl
 | p :: ps,i + 1,h => by
   simp only [List.map_cons,slot,List.getElem_cons_succ]
   exact zfi g ps i (by simpa using h)
end Go.Proofs.Ytmedjkjoannbmaa
namespace Go.Proofs.Ytmedjkjoannbmaa
open Ax
structure Rec where
 d : Int
 t : Int
 k : Bool
 key : List UInt8
 dd : Bool
 val : List UInt8
def rv (r : Rec) : AV := .agg [.w (.int .i64 r.d),.w (.int .i64 r.t),.w (.bool r.k),.str r.key,.w (.bool r.dd),.str r.val]
def rrec : AV → Rec
 | .agg [.w (.int _ d),.w (.int _ t),.w (.bool k),.str key,.w (.bool dd),.str val] => ⟨d,t,k,key,dd,val⟩
 | _ => ⟨0,0,false,[],false,[]⟩
theorem zag (rs : List Rec) : (rs.map rv).map rrec = rs := by
 rw [List.map_map]; exact List.map_id _
def rk (r : Rec) : Int := rchk r.d r.t r.k r.key r.dd r.val
def rb (r : Rec) : List UInt8 := recB r.d r.t r.k r.key r.dd r.val
def layE (c : Int) : Int → List Rec → Int
 | _,[] => 0
 | a,r :: rs => if rk r = 0 then (if r.d ≤ a ∨ c ≤ r.d then 16 else layE c r.d rs) else rk r
theorem layE_cons (c a : Int) (r : Rec) (rs : List Rec) : layE c a (r :: rs) = if rk r = 0 then (if r.d ≤ a ∨ c ≤ r.d then 16 else layE c r.d rs) else rk r := rfl
def nums (b c p e s n : Int) : List Int := [b,c,p,e,s,n]
def zeu (l : List Int) : List UInt8 := l.flatMap fun n => putU (zz n).toNat
def batL (b c p e s : Int) (rs : List Rec) : List UInt8 := zeu (nums b c p e s rs.length) ++ rs.flatMap rb
def batE (b c p e s : Int) (rs : List Rec) : Int :=
 if bfld b c p e s rs.length = 0 then (if layE c (-1) rs = 0 then (if 8192 < (batL b c p e s rs).length then 5 else 0) else layE c (-1) rs) else bfld b c p e s rs.length
def batB (b c p e s : Int) (rs : List Rec) : List UInt8 := if batE b c p e s rs = 0 then batL b c p e s rs else []
def zdd : zaq
 | [.agg [.w (.int .i64 b),.w (.int .i64 c),.w (.int .i64 p),.w (.int .i64 e),.w (.int .i64 s),.sg 6 xs f]],[] => ⟨xs.length ≤ 9223372036854775807 ∧ ∃ rs : List Rec,xs = rs.map rv,
     .tup [.sb (batB b c p e s (xs.map rrec)) false,.w (.int .i64 (batE b c p e s (xs.map rrec)))],[]⟩
 | _,_ => zbv
theorem headL_length : ∀ (l : List Int),(∀ x ∈ l,0 ≤ x ∧ x ≤ 9223372036854775807) → (zeu l).length ≤ 10 * l.length
 | [],_ => Nat.le_refl _
 | n :: l,h => by
   have h1 := headL_length l (fun x hx => h x (List.mem_cons_of_mem _ hx))
   have h2 := h n (by simp)
   have z := zea n (by omega) (by omega)
   have h3 := zbo (zz n).toNat (by omega)
   unfold zeu at h1 ⊢
   rw [List.flatMap_cons,List.length_append,List.length_cons]; omega
theorem headL_snoc (l : List Int) (n : Int) : zeu (l ++ [n]) = zeu l ++ putU (zz n).toNat := by unfold zeu; simp
theorem rb_length (r : Rec) : (rb r).length ≤ 700 := by
 unfold rb recB
 split
 · rename_i h
   have hc := rchk_cases r.d r.t r.k r.key r.dd r.val
   unfold rA rB at hc
   have hd : (-9223372036854775808 ≤ r.d ∧ r.d ≤ 9223372036854775807) ∧ (-9223372036854775808 ≤ r.t ∧ r.t ≤ 9223372036854775807) ∧ r.key.length ≤ 64 ∧ r.val.length ≤ 512 := by omega
   obtain ⟨hd1,hd2,hd3,hd4⟩ := hd
   clear hc
   have z1 := zea r.d hd1.1 hd1.2
   have z2 := zea r.t hd2.1 hd2.2
   have l1 := zbo (zz r.d).toNat (by omega)
   have l2 := zbo (zz r.t).toNat (by omega)
   have l3 := zev r.key (by omega)
   have l4 := zev r.val (by omega)
   unfold recL
   generalize r.k = k
   generalize r.dd = dd
   cases k <;> cases dd <;> simp <;> omega
 · simp
theorem rbs_length : ∀ (rs : List Rec),(rs.flatMap rb).length ≤ 700 * rs.length
 | [] => Nat.le_refl _
 | r :: rs => by
   have h1 := rbs_length rs
   have h2 := rb_length r
   rw [List.flatMap_cons,List.length_append,List.length_cons]; omega
theorem bfld_zero {b c p e s n : Int} (h : bfld b c p e s n = 0) : 1 ≤ c ∧ c ≤ 32 ∧ 0 ≤ b ∧ b ≤ 4611686018427387903 ∧ 0 ≤ p ∧ p ≤ 1099511627776 ∧ 0 ≤ e ∧ e ≤ 32767 ∧ 0 ≤ s ∧ s ≤ 2147483647 ∧ n ≤ c := by
 unfold bfld at h
 split at h
 · omega
 · split at h
   · omega
   · split at h <;> omega
def Sblay4 (f : FuncId) : Option zaq :=
 match f with
 | 91 => some bfldS
 | 37 => some putS
 | 92 => some rputS
 | _ => none
theorem Sblay4_ok : Fns Try.prog Sblay4 := by
 intro f s h
 unfold Sblay4 at h
 split at h
 · injection h with h; subst h; exact ⟨⟨_,Try.func91,by kernel_rfl,by kernel_rfl⟩,bfld_sound⟩
 · injection h with h; subst h; exact ⟨⟨_,Try.func37,by kernel_rfl,by kernel_rfl⟩,put_sound⟩
 · injection h with h; subst h; exact ⟨⟨_,Try.func92,by kernel_rfl,by kernel_rfl⟩,recput_sound⟩
 · cases h
section
set_option maxRecDepth 100000
set_option maxHeartbeats 2000000 in
theorem blay4_sound : zbf Try.prog 76 zdd := by
 refine zcm (S := Sblay4) (T := ty) zbj ty_ok Sblay4_ok Try.func76 (c := Try.f76.body.getD .skip) (by kernel_rfl) (by kernel_rfl) (fun xs pins hp _ => ?_)
 unfold zdd at hp ⊢
 split at hp
 · rename_i b c p e s xs f _
   obtain ⟨hL,rs,rfl⟩ := hp
   have hl4 : (rs.map rv).length = rs.length := by simp
   rw [hl4] at hL
   refine ⟨by simp,?_⟩
   unfold Try.f76
   obtain ⟨F,hF⟩ : ∃ F,bfld b c p e s rs.length = F := ⟨_,rfl⟩
   by_cases h0 : F = 0
   · have d0 : decide (F = 0) = true := decide_eq_true h0
     have hz := bfld_zero (hF.trans h0)
     obtain ⟨L,hLL⟩ : ∃ L,nums b c p e s rs.length = L := ⟨_,rfl⟩
     have hlen : L.length = 6 := by rw [← hLL]; rfl
     have hrg : ∀ x ∈ L,0 ≤ x ∧ x ≤ 9223372036854775807 := by
       rw [← hLL]; unfold nums
       intro x hx
       simp only [List.mem_cons,List.not_mem_nil,or_false] at hx
       omega
     have hL2 : [b,c,p,e,s,(rs.length : Int)] = L := hLL
     simp only [go_sem,zaa,Nat.reduceAdd,Nat.reduceSub,Nat.reduceMul,Int.reduceToNat,reduceCtorEq,↓reduceIte,Int.reducePow,Nat.reducePow,Int.reduceMod,Nat.reduceLeDiff,Int.reduceLE,Int.reduceNe,Int.reduceEq,Nat.reduceEqDiff,Nat.reduceLT,Nat.reduceBEq,ty,Sblay4,bfldS,hl4,hL,hF,d0,hL2,zag]
     have ht : top = 4294967296 := rfl
     have hnl : rs.length ≤ 32 := by omega
     refine zde ⟨fun m σ => ∃ k : Nat,m = 6 - k ∧ k ≤ 6 ∧
         σ = ⟨[.agg [.w (.int .i64 b),.w (.int .i64 c),.w (.int .i64 p),.w (.int .i64 e),.w (.int .i64 s),.sg 6 (rs.map rv) f],.rf 4 6 0 0,.junk,.junk,.junk,.ms 6 1 0 (zeu (L.take k)).length,.junk,.junk,.junk,.junk,.junk,.junk,.junk,.junk,.junk,.junk,.junk,.junk,.junk,.junk,.junk,.junk,.junk,.junk,.junk,.junk,.junk,.junk,.junk,.junk,.junk,.ms 5 1 0 6,.w (.int .i64 6),.w (.int .i64 k),.junk,.junk,.junk,.junk,.junk,.junk,.junk,.junk,.junk,.junk,.junk,.junk,.junk,.junk,.junk,.junk,.junk,.junk,.junk,.junk,.junk,.junk,.junk,.junk,.junk,.junk,.junk,.junk,.junk,.junk,.junk,.junk,.junk,.junk,.junk,.junk,.junk,.junk,.junk,.junk,.junk,.junk,.junk,.junk],[(4,.g 6 [.agg [.w (.int .i64 b),.w (.int .i64 c),.w (.int .i64 p),.w (.int .i64 e),.w (.int .i64 s),.sg 6 (rs.map rv) f]]),(5,.i L),(6,.b (zeu (L.take k)))],7⟩,?_,?_⟩
     · refine ⟨_,_,(weak_nil 5 1 (.b []) rfl (by exact trivial)).trans (zai [0,1,2,3,4,180,204] rfl rfl rfl ?_ ?_),0,rfl,by omega,rfl⟩
       · simp only [ssT,zao,zap,setSlot,gOf,AV.ren,renL,Blk.ren,Ax.look,Ax.put,reduceCtorEq,↓reduceIte,Nat.reduceEqDiff,Nat.reduceLT,Nat.reduceAdd,List.length_append,List.length_cons,List.length_nil,Option.some.injEq]; exact ⟨by simp [zeu],rfl,rfl⟩
       · simp only [ssT,zao,zap,setSlot,gOf,AV.ren,renL,Blk.ren,Ax.look,Ax.put,reduceCtorEq,↓reduceIte,Nat.reduceEqDiff,Nat.reduceLT,Nat.reduceAdd,List.length_append,List.length_cons,List.length_nil,Option.some.injEq]; rfl
     · rintro m σ ⟨k,rfl,hk,rfl⟩
       have e1 : ((k : Int) + 1 + 9223372036854775808) % 18446744073709551616 - 9223372036854775808 = ((k + 1 : Nat) : Int) := by omega
       by_cases hk6 : k < 6
       · have d1 : decide ((k : Int) < 6) = true := decide_eq_true (by omega)
         have hkl : k < L.length := by omega
         obtain ⟨N,hN⟩ : ∃ N,L.getD k 0 = N := ⟨_,rfl⟩
         have hNe : L[k] = N := by rw [← hN]; simp [hkl]
         have hNr := hrg N (hNe ▸ List.getElem_mem hkl)
         have hN1 : -9223372036854775808 ≤ N := by omega
         have hN2 : N ≤ 9223372036854775807 := hNr.2
         have z := zea N hN1 hN2
         have hPl := zbo (zz N).toNat (by omega)
         have hsn : zeu (L.take (k + 1)) = zeu (L.take k) ++ putU (zz N).toNat := by
           rw [List.take_succ_eq_append_getElem hkl,headL_snoc,hNe]
         have hhl := headL_length (L.take k) (fun x hx => hrg x (List.mem_of_mem_take hx))
         rw [List.length_take] at hhl
         obtain ⟨P,hP⟩ : ∃ P,putU (zz N).toNat = P := ⟨_,rfl⟩
         rw [hP] at hsn hPl
         simp only [go_sem,zaa,Nat.reduceAdd,Nat.reduceSub,Nat.reduceMul,Int.reduceToNat,reduceCtorEq,↓reduceIte,Int.reducePow,Nat.reducePow,Int.reduceMod,Nat.reduceLeDiff,Int.reduceLE,Int.reduceNe,Int.reduceEq,Nat.reduceEqDiff,Nat.reduceLT,Nat.reduceBEq,ty,Sblay4,putS,d1,hN,hP,hN1,hN2,e1,hlen,List.take_length,Int.toNat_natCast,Nat.zero_add]
         repeat (refine And.intro (by omega) ?_)
         refine ⟨6 - (k + 1),_,by omega,zai [0,1,2,3,4,5,63] rfl rfl rfl ?_ ?_,k + 1,rfl,by omega,rfl⟩
         · simp only [ssT,zao,zap,setSlot,gOf,AV.ren,renL,Blk.ren,Ax.look,Ax.put,reduceCtorEq,↓reduceIte,Nat.reduceEqDiff,Nat.reduceLT,Nat.reduceAdd,List.length_append,List.length_cons,List.length_nil,Option.some.injEq,hsn,List.length_append]
         · simp only [ssT,zao,zap,setSlot,gOf,AV.ren,renL,Blk.ren,Ax.look,Ax.put,reduceCtorEq,↓reduceIte,Nat.reduceEqDiff,Nat.reduceLT,Nat.reduceAdd,List.length_append,List.length_cons,List.length_nil,Option.some.injEq,hsn]
       · have d1 : decide ((k : Int) < 6) = false := decide_eq_false (by omega)
         have hk2 : L.take k = L := List.take_of_length_le (by omega)
         simp only [go_sem,zaa,Nat.reduceAdd,Nat.reduceSub,Nat.reduceMul,Int.reduceToNat,reduceCtorEq,↓reduceIte,Int.reducePow,Nat.reducePow,Int.reduceMod,Nat.reduceLeDiff,Int.reduceLE,Int.reduceNe,Int.reduceEq,Nat.reduceEqDiff,Nat.reduceLT,Nat.reduceBEq,ty,Sblay4,d1,hk2]
         have hE0 : layE c (-1) rs = layE c (-1) (rs.drop 0) := by rw [List.drop_zero]
         have hHl := headL_length L hrg
         refine zde ⟨fun m σ => ∃ (i : Nat) (a : Int),m = rs.length - i ∧ i ≤ rs.length ∧ layE c (-1) rs = layE c a (rs.drop i) ∧
             σ = ⟨[.agg [.w (.int .i64 b),.w (.int .i64 c),.w (.int .i64 p),.w (.int .i64 e),.w (.int .i64 s),.sg 6 (rs.map rv) f],.rf 4 6 0 0,.junk,.junk,.junk,.ms 5 1 0 (zeu L ++ (rs.take i).flatMap rb).length,.junk,.junk,.w (.int .i64 a),.junk,.junk,.junk,.junk,.junk,.junk,.junk,.junk,.junk,.junk,.junk,.junk,.junk,.junk,.junk,.junk,.junk,.junk,.junk,.junk,.junk,.junk,.junk,.junk,.junk,.junk,.junk,.junk,.junk,.junk,.junk,.junk,.junk,.junk,.sg 6 (rs.map rv) f,.w (.int .i64 rs.length),.w (.int .i64 i),.junk,.junk,.junk,.junk,.junk,.junk,.junk,.junk,.junk,.junk,.junk,.junk,.junk,.junk,.junk,.junk,.junk,.junk,.junk,.junk,.junk,.junk,.junk,.junk,.junk,.junk,.junk,.junk,.junk,.junk,.junk,.junk],[(4,.g 6 [.agg [.w (.int .i64 b),.w (.int .i64 c),.w (.int .i64 p),.w (.int .i64 e),.w (.int .i64 s),.sg 6 (rs.map rv) f]]),(5,.b (zeu L ++ (rs.take i).flatMap rb))],6⟩,?_,?_⟩
         · refine ⟨_,_,zai [0,1,2,3,4,6] rfl rfl rfl ?_ ?_,0,-1,rfl,by omega,hE0,rfl⟩
           · simp only [ssT,zao,zap,setSlot,gOf,AV.ren,renL,Blk.ren,Ax.look,Ax.put,reduceCtorEq,↓reduceIte,Nat.reduceEqDiff,Nat.reduceLT,Nat.reduceAdd,List.length_append,List.length_cons,List.length_nil,Option.some.injEq]; simp
           · simp only [ssT,zao,zap,setSlot,gOf,AV.ren,renL,Blk.ren,Ax.look,Ax.put,reduceCtorEq,↓reduceIte,Nat.reduceEqDiff,Nat.reduceLT,Nat.reduceAdd,List.length_append,List.length_cons,List.length_nil,Option.some.injEq]; simp
         · rintro m σ ⟨i,a,rfl,hi,hinv,rfl⟩
           have e2 : ((i : Int) + 1 + 9223372036854775808) % 18446744073709551616 - 9223372036854775808 = ((i + 1 : Nat) : Int) := by omega
           have hbl := rbs_length (rs.take i)
           rw [List.length_take] at hbl
           obtain ⟨O,hO⟩ : ∃ O,zeu L ++ (rs.take i).flatMap rb = O := ⟨_,rfl⟩
           have hOl : O.length ≤ 60 + 700 * 32 := by rw [← hO,List.length_append]; omega
           by_cases hil : i < rs.length
           · have d3 : decide ((i : Int) < rs.length) = true := decide_eq_true (by omega)
             have hsl := zfi rv rs i hil
             have hdr : rs.drop i = rs[i] :: rs.drop (i + 1) := List.drop_eq_getElem_cons hil
             have htk : (rs.take (i + 1)).flatMap rb = (rs.take i).flatMap rb ++ rb rs[i] := by
               rw [List.take_succ_eq_append_getElem hil,List.flatMap_append,List.flatMap_cons,List.flatMap_nil,List.append_nil]
             obtain ⟨R,hR⟩ : ∃ R,rs[i] = R := ⟨_,rfl⟩
             rw [hR] at hsl hdr htk
             simp only [rv] at hsl
             rw [hdr,layE_cons] at hinv
             have hRl := rb_length R
             have hrb : recB R.d R.t R.k R.key R.dd R.val = rb R := rfl
             have hrk : rchk R.d R.t R.k R.key R.dd R.val = rk R := rfl
             have htk2 : zeu L ++ (rs.take (i + 1)).flatMap rb = O ++ rb R := by rw [htk,← hO,List.append_assoc]
             have hln2 : (zeu L).length + ((rs.take (i + 1)).flatMap rb).length = O.length + (rb R).length := by rw [← List.length_append,htk2,List.length_append]
             by_cases hk0 : rk R = 0
             · have d4 : decide (rk R = 0) = true := decide_eq_true hk0
               rw [if_pos hk0] at hinv
               by_cases hA : R.d ≤ a
               · have d5 : decide (R.d ≤ a) = true := decide_eq_true hA
                 rw [if_pos (.inl hA)] at hinv
                 have hE : batE b c p e s rs = 16 := by unfold batE; rw [if_pos (hF.trans h0),if_neg (by omega),hinv]
                 have hB : batB b c p e s rs = [] := if_neg (by omega)
                 simp only [go_sem,zaa,Nat.reduceAdd,Nat.reduceSub,Nat.reduceMul,Int.reduceToNat,reduceCtorEq,↓reduceIte,Int.reducePow,Nat.reducePow,Int.reduceMod,Nat.reduceLeDiff,Int.reduceLE,Int.reduceNe,Int.reduceEq,Nat.reduceEqDiff,Nat.reduceLT,Nat.reduceBEq,ty,Sblay4,rputS,hrb,hrk,hO,hl4,d3,hsl,d4,d5,zag,hE,hB,Int.toNat_natCast]
                 refine ⟨by omega,_,zel 2 (.sb [] false) (fun _ _ _ h => h.nilb),?_⟩
                 simp only [go_sem,coe,zaa,Nat.reduceAdd,Nat.reduceSub,Nat.reduceMul,Int.reduceToNat,reduceCtorEq,↓reduceIte,Int.reducePow,Nat.reducePow,Int.reduceMod,Nat.reduceLeDiff,Int.reduceLE,Int.reduceNe,Int.reduceEq,Nat.reduceEqDiff,Nat.reduceLT,Nat.reduceBEq,ty]
               · have d5 : decide (R.d ≤ a) = false := decide_eq_false hA
                 by_cases hC : c ≤ R.d
                 · have d6 : decide (c ≤ R.d) = true := decide_eq_true hC
                   rw [if_pos (.inr hC)] at hinv
                   have hE : batE b c p e s rs = 16 := by unfold batE; rw [if_pos (hF.trans h0),if_neg (by omega),hinv]
                   have hB : batB b c p e s rs = [] := if_neg (by omega)
                   simp only [go_sem,zaa,Nat.reduceAdd,Nat.reduceSub,Nat.reduceMul,Int.reduceToNat,reduceCtorEq,↓reduceIte,Int.reducePow,Nat.reducePow,Int.reduceMod,Nat.reduceLeDiff,Int.reduceLE,Int.reduceNe,Int.reduceEq,Nat.reduceEqDiff,Nat.reduceLT,Nat.reduceBEq,ty,Sblay4,rputS,hrb,hrk,hO,hl4,d3,hsl,d4,d5,d6,zag,hE,hB,Int.toNat_natCast]
                   refine ⟨by omega,_,zel 2 (.sb [] false) (fun _ _ _ h => h.nilb),?_⟩
                   simp only [go_sem,coe,zaa,Nat.reduceAdd,Nat.reduceSub,Nat.reduceMul,Int.reduceToNat,reduceCtorEq,↓reduceIte,Int.reducePow,Nat.reducePow,Int.reduceMod,Nat.reduceLeDiff,Int.reduceLE,Int.reduceNe,Int.reduceEq,Nat.reduceEqDiff,Nat.reduceLT,Nat.reduceBEq,ty]
                 · have d6 : decide (c ≤ R.d) = false := decide_eq_false hC
                   rw [if_neg (by omega)] at hinv
                   simp only [go_sem,zaa,Nat.reduceAdd,Nat.reduceSub,Nat.reduceMul,Int.reduceToNat,reduceCtorEq,↓reduceIte,Int.reducePow,Nat.reducePow,Int.reduceMod,Nat.reduceLeDiff,Int.reduceLE,Int.reduceNe,Int.reduceEq,Nat.reduceEqDiff,Nat.reduceLT,Nat.reduceBEq,ty,Sblay4,rputS,hrb,hrk,hO,hl4,d3,hsl,d4,d5,d6,e2,List.take_length,Int.toNat_natCast]
                   repeat (refine And.intro (by omega) ?_)
                   refine ⟨rs.length - (i + 1),_,by omega,zai [0,1,2,3,4,246] rfl rfl rfl ?_ ?_,i + 1,R.d,rfl,by omega,hinv,rfl⟩
                   · simp only [ssT,zao,zap,setSlot,gOf,AV.ren,renL,Blk.ren,Ax.look,Ax.put,reduceCtorEq,↓reduceIte,Nat.reduceEqDiff,Nat.reduceLT,Nat.reduceAdd,List.length_append,List.length_cons,List.length_nil,Option.some.injEq,htk2,List.length_append,hln2]
                   · simp only [ssT,zao,zap,setSlot,gOf,AV.ren,renL,Blk.ren,Ax.look,Ax.put,reduceCtorEq,↓reduceIte,Nat.reduceEqDiff,Nat.reduceLT,Nat.reduceAdd,List.length_append,List.length_cons,List.length_nil,Option.some.injEq,htk2]
             · have d4 : decide (rk R = 0) = false := decide_eq_false hk0
               rw [if_neg hk0] at hinv
               have hE : batE b c p e s rs = rk R := by unfold batE; rw [if_pos (hF.trans h0),if_neg (by omega),hinv]
               have hB : batB b c p e s rs = [] := if_neg (by omega)
               simp only [go_sem,zaa,Nat.reduceAdd,Nat.reduceSub,Nat.reduceMul,Int.reduceToNat,reduceCtorEq,↓reduceIte,Int.reducePow,Nat.reducePow,Int.reduceMod,Nat.reduceLeDiff,Int.reduceLE,Int.reduceNe,Int.reduceEq,Nat.reduceEqDiff,Nat.reduceLT,Nat.reduceBEq,ty,Sblay4,rputS,hrb,hrk,hO,hl4,d3,hsl,d4,zag,hE,hB,Int.toNat_natCast]
               refine ⟨by omega,_,zel 2 (.sb [] false) (fun _ _ _ h => h.nilb),?_⟩
               simp only [go_sem,coe,zaa,Nat.reduceAdd,Nat.reduceSub,Nat.reduceMul,Int.reduceToNat,reduceCtorEq,↓reduceIte,Int.reducePow,Nat.reducePow,Int.reduceMod,Nat.reduceLeDiff,Int.reduceLE,Int.reduceNe,Int.reduceEq,Nat.reduceEqDiff,Nat.reduceLT,Nat.reduceBEq,ty]
           · have d3 : decide ((i : Int) < rs.length) = false := decide_eq_false (by omega)
             have hdr : rs.drop i = [] := List.drop_eq_nil_of_le (by omega)
             have htk : rs.take i = rs := List.take_of_length_le (by omega)
             rw [hdr] at hinv
             have hl0 : layE c (-1) rs = 0 := hinv
             have hOe : batL b c p e s rs = O := by unfold batL; rw [hLL,← hO,htk]
             by_cases h8 : 8192 < O.length
             · have d4 : decide ((8192 : Int) < O.length) = true := decide_eq_true (by omega)
               have hE : batE b c p e s rs = 5 := by unfold batE; rw [if_pos (hF.trans h0),if_pos hl0,hOe,if_pos h8]
               have hB : batB b c p e s rs = [] := if_neg (by omega)
               simp only [go_sem,zaa,Nat.reduceAdd,Nat.reduceSub,Nat.reduceMul,Int.reduceToNat,reduceCtorEq,↓reduceIte,Int.reducePow,Nat.reducePow,Int.reduceMod,Nat.reduceLeDiff,Int.reduceLE,Int.reduceNe,Int.reduceEq,Nat.reduceEqDiff,Nat.reduceLT,Nat.reduceBEq,ty,Sblay4,hO,d3,d4,zag,hE,hB]
               refine ⟨_,zel 2 (.sb [] false) (fun _ _ _ h => h.nilb),?_⟩
               simp only [go_sem,coe,zaa,Nat.reduceAdd,Nat.reduceSub,Nat.reduceMul,Int.reduceToNat,reduceCtorEq,↓reduceIte,Int.reducePow,Nat.reducePow,Int.reduceMod,Nat.reduceLeDiff,Int.reduceLE,Int.reduceNe,Int.reduceEq,Nat.reduceEqDiff,Nat.reduceLT,Nat.reduceBEq,ty]
             · have d4 : decide ((8192 : Int) < O.length) = false := decide_eq_false (by omega)
               have hE : batE b c p e s rs = 0 := by unfold batE; rw [if_pos (hF.trans h0),if_pos hl0,hOe,if_neg h8]
               have hB : batB b c p e s rs = O := by unfold batB; rw [if_pos hE,hOe]
               simp only [go_sem,zaa,Nat.reduceAdd,Nat.reduceSub,Nat.reduceMul,Int.reduceToNat,reduceCtorEq,↓reduceIte,Int.reducePow,Nat.reducePow,Int.reduceMod,Nat.reduceLeDiff,Int.reduceLE,Int.reduceNe,Int.reduceEq,Nat.reduceEqDiff,Nat.reduceLT,Nat.reduceBEq,ty,Sblay4,hO,d3,d4,zag,hE,hB]
               exact put_ends rfl rfl rfl rfl rfl rfl
   · have d0 : decide (F = 0) = false := decide_eq_false h0
     have hE : batE b c p e s rs = F := by unfold batE; rw [hF,if_neg h0]
     have hB : batB b c p e s rs = [] := if_neg (by rw [hE]; exact h0)
     simp only [go_sem,zaa,Nat.reduceAdd,Nat.reduceSub,Nat.reduceMul,Int.reduceToNat,reduceCtorEq,↓reduceIte,Int.reducePow,Nat.reducePow,Int.reduceMod,Nat.reduceLeDiff,Int.reduceLE,Int.reduceNe,Int.reduceEq,Nat.reduceEqDiff,Nat.reduceLT,Nat.reduceBEq,ty,Sblay4,bfldS,hl4,hL,hF,d0,zag,hE,hB]
     refine ⟨_,zel 2 (.sb [] false) (fun _ _ _ h => h.nilb),?_⟩
     simp only [go_sem,coe,zaa,Nat.reduceAdd,Nat.reduceSub,Nat.reduceMul,Int.reduceToNat,reduceCtorEq,↓reduceIte,Int.reducePow,Nat.reducePow,Int.reduceMod,Nat.reduceLeDiff,Int.reduceLE,Int.reduceNe,Int.reduceEq,Nat.reduceEqDiff,Nat.reduceLT,Nat.reduceBEq,ty]
 · exact hp.elim
end
end Go.Proofs.Ytmedjkjoannbmaa
namespace Go.Proofs.Ytmedjkjoannbmaa
open Ax
section
set_option maxRecDepth 100000
def sameB (d t : Int) (k : Bool) (key : List UInt8) (dd : Bool) (val : List UInt8) (d' t' : Int) (k' : Bool) (key' : List UInt8) (dd' : Bool) (val' : List UInt8) : Bool :=
 decide (d = d') && (decide (t = t') && ((k == k') && (decide (key = key') && ((dd == dd') && (decide (val = val') && true)))))
def rsameS : zaq
 | [.agg [.w (.int .i64 d),.w (.int .i64 t),.w (.bool k),.str key,.w (.bool dd),.str val],.agg [.w (.int .i64 d'),.w (.int .i64 t'),.w (.bool k'),.str key',.w (.bool dd'),.str val']],[] => ⟨True,.w (.bool (sameB d t k key dd val d' t' k' key' dd' val')),[]⟩
 | _,_ => zbv
theorem rsame_sound : zbf Try.prog 71 rsameS := by
 refine zau (S := noS) (T := ty) zbj ty_ok zcy Try.func71 (c := Try.f71.body.getD .skip) (by kernel_rfl) (by kernel_rfl) (fun xs pins hp _ => ?_)
 unfold rsameS at hp ⊢
 split at hp
 · rename_i d t k key dd val d' t' k' key' dd' val' _
   refine ⟨by simp,?_⟩
   unfold Try.f71
   simp only [go_sem,coe,zaa,Nat.reduceAdd,Nat.reduceSub,Nat.reduceMul,Int.reduceToNat,reduceCtorEq,↓reduceIte,Int.reducePow,Nat.reducePow,Int.reduceMod,Nat.reduceLeDiff,Int.reduceLE,Int.reduceNe,Int.reduceEq,Nat.reduceEqDiff,Nat.reduceLT,Nat.reduceBEq,ty,noS,sameB]
 · exact hp.elim
def lightS : zaq
 | [.agg [.w (.int .i64 d),.w (.int .i64 t),.w (.bool k),.str key,.w (.bool dd),.str val]],[] => ⟨True,.w (.bool (decide (key.length ≤ 200 ∧ val.length ≤ 700))),[]⟩
 | _,_ => zbv
theorem light_sound : zbf Try.prog 59 lightS := by
 refine zau (S := noS) (T := ty) zbj ty_ok zcy Try.func59 (c := Try.f59.body.getD .skip) (by kernel_rfl) (by kernel_rfl) (fun xs pins hp _ => ?_)
 unfold lightS at hp ⊢
 split at hp
 · rename_i d t k key dd val _
   refine ⟨by simp,?_⟩
   unfold Try.f59
   by_cases h1 : key.length ≤ 200
   · have d1 : decide ((key.length : Int) ≤ 200) = true := decide_eq_true (by omega)
     by_cases h2 : val.length ≤ 700
     · have d2 : decide ((val.length : Int) ≤ 700) = true := decide_eq_true (by omega)
       have d3 : decide (key.length ≤ 200 ∧ val.length ≤ 700) = true := decide_eq_true ⟨h1,h2⟩
       simp only [go_sem,coe,zaa,Nat.reduceAdd,Nat.reduceSub,Nat.reduceMul,Int.reduceToNat,reduceCtorEq,↓reduceIte,Int.reducePow,Nat.reducePow,Int.reduceMod,Nat.reduceLeDiff,Int.reduceLE,Int.reduceNe,Int.reduceEq,Nat.reduceEqDiff,Nat.reduceLT,Nat.reduceBEq,ty,noS,d1,d2,d3]
     · have d2 : decide ((val.length : Int) ≤ 700) = false := decide_eq_false (by omega)
       have d3 : decide (key.length ≤ 200 ∧ val.length ≤ 700) = false := decide_eq_false (fun h => h2 h.2)
       simp only [go_sem,coe,zaa,Nat.reduceAdd,Nat.reduceSub,Nat.reduceMul,Int.reduceToNat,reduceCtorEq,↓reduceIte,Int.reducePow,Nat.reducePow,Int.reduceMod,Nat.reduceLeDiff,Int.reduceLE,Int.reduceNe,Int.reduceEq,Nat.reduceEqDiff,Nat.reduceLT,Nat.reduceBEq,ty,noS,d1,d2,d3]
   · have d1 : decide ((key.length : Int) ≤ 200) = false := decide_eq_false (by omega)
     have d3 : decide (key.length ≤ 200 ∧ val.length ≤ 700) = false := decide_eq_false (fun h => h1 h.1)
     simp only [go_sem,coe,zaa,Nat.reduceAdd,Nat.reduceSub,Nat.reduceMul,Int.reduceToNat,reduceCtorEq,↓reduceIte,Int.reducePow,Nat.reducePow,Int.reduceMod,Nat.reduceLeDiff,Int.reduceLE,Int.reduceNe,Int.reduceEq,Nat.reduceEqDiff,Nat.reduceLT,Nat.reduceBEq,ty,noS,d1,d3]
 · exact hp.elim
end
end Go.Proofs.Ytmedjkjoannbmaa
namespace Go.Proofs.Ytmedjkjoannbmaa
open Ax
instance : DecidableEq Rec := fun a b => decidable_of_iff (a.d = b.d ∧ a.t = b.t ∧ a.k = b.k ∧ a.key = b.key ∧ a.dd = b.dd ∧ a.val = b.val) (by cases a; cases b; simp)
theorem sameB_rec (r q : Rec) : sameB r.d r.t r.k r.key r.dd r.val q.d q.t q.k q.key q.dd q.val = decide (r = q) := by
 cases r; cases q
 unfold sameB
 rw [Bool.eq_iff_iff]
 simp
def bchkS4 : zaq
 | [.agg [.w (.int .i64 b),.w (.int .i64 c),.w (.int .i64 p),.w (.int .i64 e),.w (.int .i64 s),.sg 6 xs f]],[] => ⟨xs.length ≤ 9223372036854775807 ∧ ∃ rs : List Rec,xs = rs.map rv,
     .w (.int .i64 (batE b c p e s (xs.map rrec))),[]⟩
 | _,_ => zbv
def eqfS : zaq
 | [.sg 6 xs f,.sg 6 ys g,.fn id []],[] => ⟨id = 71 ∧ (xs.length ≤ 9223372036854775807 ∧ ∃ rs : List Rec,xs = rs.map rv) ∧ ys.length ≤ 9223372036854775807 ∧ ∃ qs : List Rec,ys = qs.map rv,
     .w (.bool (decide (xs.map rrec = ys.map rrec))),[]⟩
 | _,_ => zbv
def Sbl3 (f : FuncId) : Option zaq :=
 match f with
 | 76 => some zdd
 | _ => none
theorem Sbl3_ok : Fns Try.prog Sbl3 := by
 intro f s h
 unfold Sbl3 at h
 split at h
 · injection h with h; subst h; exact ⟨⟨_,Try.func76,by kernel_rfl,by kernel_rfl⟩,blay4_sound⟩
 · cases h
def Seqf (f : FuncId) : Option zaq :=
 match f with
 | 71 => some rsameS
 | _ => none
theorem Seqf_ok : Fns Try.prog Seqf := by
 intro f s h
 unfold Seqf at h
 split at h
 · injection h with h; subst h; exact ⟨⟨_,Try.func71,by kernel_rfl,by kernel_rfl⟩,rsame_sound⟩
 · cases h
section
set_option maxRecDepth 100000
set_option maxHeartbeats 1000000 in
theorem bput4_sound : zbf Try.prog 39 zdd := by
 refine zau (S := Sbl3) (T := ty) zbj ty_ok Sbl3_ok Try.func39 (c := Try.f39.body.getD .skip) (by kernel_rfl) (by kernel_rfl) (fun xs pins hp _ => ?_)
 unfold zdd at hp ⊢
 split at hp
 · rename_i b c p e s xs f _
   obtain ⟨hL,rs,rfl⟩ := hp
   have hl4 : (rs.map rv).length = rs.length := by simp
   rw [hl4] at hL
   have hex : ∃ qs : List Rec,rs.map rv = qs.map rv := ⟨rs,rfl⟩
   refine ⟨by simp,?_⟩
   unfold Try.f39
   simp only [go_sem,zaa,Nat.reduceAdd,Nat.reduceSub,Nat.reduceMul,Int.reduceToNat,reduceCtorEq,↓reduceIte,Int.reducePow,Nat.reducePow,Int.reduceMod,Nat.reduceLeDiff,Int.reduceLE,Int.reduceNe,Int.reduceEq,Nat.reduceEqDiff,Nat.reduceLT,Nat.reduceBEq,ty,Sbl3,zdd,hl4,hL,hex,zag]
 · exact hp.elim
set_option maxHeartbeats 1000000 in
theorem bchk4_sound : zbf Try.prog 61 bchkS4 := by
 refine zau (S := Sbl3) (T := ty) zbj ty_ok Sbl3_ok Try.func61 (c := Try.f61.body.getD .skip) (by kernel_rfl) (by kernel_rfl) (fun xs pins hp _ => ?_)
 unfold bchkS4 at hp ⊢
 split at hp
 · rename_i b c p e s xs f _
   obtain ⟨hL,rs,rfl⟩ := hp
   have hl4 : (rs.map rv).length = rs.length := by simp
   rw [hl4] at hL
   have hex : ∃ qs : List Rec,rs.map rv = qs.map rv := ⟨rs,rfl⟩
   refine ⟨by simp,?_⟩
   unfold Try.f61
   simp only [go_sem,zaa,Nat.reduceAdd,Nat.reduceSub,Nat.reduceMul,Int.reduceToNat,reduceCtorEq,↓reduceIte,Int.reducePow,Nat.reducePow,Int.reduceMod,Nat.reduceLeDiff,Int.reduceLE,Int.reduceNe,Int.reduceEq,Nat.reduceEqDiff,Nat.reduceLT,Nat.reduceBEq,ty,Sbl3,zdd,hl4,hL,hex,zag]
 · exact hp.elim
set_option maxHeartbeats 1000000 in
theorem eqf_sound : zbf Try.prog 70 eqfS := by
 refine zau (S := Seqf) (T := ty) zbj ty_ok Seqf_ok Try.func70 (c := Try.f70.body.getD .skip) (by kernel_rfl) (by kernel_rfl) (fun xs pins hp _ => ?_)
 unfold eqfS at hp ⊢
 split at hp
 · rename_i xs f ys g id _
   obtain ⟨rfl,⟨hL1,rs,rfl⟩,hL2,qs,rfl⟩ := hp
   rw [List.length_map] at hL1 hL2
   refine ⟨by simp,?_⟩
   have hlp : (rs.map rv).length = rs.length := by simp
   have hlq : (qs.map rv).length = qs.length := by simp
   unfold Try.f70
   by_cases hl : rs.length = qs.length
   · have d0 : decide ((rs.length : Int) = qs.length) = true := decide_eq_true (by omega)
     have hk : rs = qs ↔ ∀ j (h : j < rs.length) (h' : j < qs.length),rs[j] = qs[j] := ⟨fun h => by subst h; intros; rfl,fun h => List.ext_getElem hl h⟩
     simp only [go_sem,zaa,Nat.reduceAdd,Nat.reduceSub,Nat.reduceMul,Int.reduceToNat,reduceCtorEq,↓reduceIte,Int.reducePow,Nat.reducePow,Int.reduceMod,Nat.reduceLeDiff,Int.reduceLE,Int.reduceNe,Int.reduceEq,Nat.reduceEqDiff,Nat.reduceLT,Nat.reduceBEq,ty,Seqf,hlp,hlq,d0,zag]
     refine zde ⟨fun m σ => ∃ i : Nat,m = rs.length - i ∧ i ≤ rs.length ∧ (∀ j (h : j < rs.length) (h' : j < qs.length),j < i → rs[j] = qs[j]) ∧
         σ = ⟨[.sg 6 (rs.map rv) f,.sg 6 (qs.map rv) g,.fn 71 [],.junk,.junk,.junk,.junk,.junk,.junk,.junk,.junk,.junk,.junk,.junk,.junk,.sg 6 (rs.map rv) f,.w (.int .i64 rs.length),.w (.int .i64 i),.junk,.junk,.junk,.junk,.junk,.junk,.junk,.junk,.junk,.junk,.junk,.junk,.junk,.junk],[],4⟩,?_,?_⟩
     · refine ⟨_,_,zai [0,1,2,3] rfl rfl rfl ?_ ?_,0,rfl,by omega,by intro j _ _ h; omega,rfl⟩
       · simp only [ssT,zao,zap,setSlot,gOf,AV.ren,renL,Blk.ren,Ax.look,Ax.put,reduceCtorEq,↓reduceIte,Nat.reduceEqDiff,Nat.reduceLT,Nat.reduceAdd,List.length_append,List.length_cons,List.length_nil,Option.some.injEq]; simp
       · simp only [ssT,zao,zap,setSlot,gOf,AV.ren,renL,Blk.ren,Ax.look,Ax.put,reduceCtorEq,↓reduceIte,Nat.reduceEqDiff,Nat.reduceLT,Nat.reduceAdd,List.length_append,List.length_cons,List.length_nil,Option.some.injEq]
     · rintro m σ ⟨i,rfl,hi,hall,rfl⟩
       by_cases hil : i < rs.length
       · have d1 : decide ((i : Int) < rs.length) = true := decide_eq_true (by omega)
         have e1 : ((i : Int) + 1 + 9223372036854775808) % 18446744073709551616 - 9223372036854775808 = ((i + 1 : Nat) : Int) := by omega
         have hiq : i < qs.length := by omega
         have hs1 := zfi rv rs i hil
         have hs2 := zfi rv qs i hiq
         obtain ⟨P,hP⟩ : ∃ P,rs[i] = P := ⟨_,rfl⟩
         obtain ⟨Q,hQ⟩ : ∃ Q,qs[i] = Q := ⟨_,rfl⟩
         rw [hP] at hs1
         rw [hQ] at hs2
         simp only [rv] at hs1 hs2
         have hsm := sameB_rec P Q
         by_cases ha : P = Q
         · have hsm2 : sameB P.d P.t P.k P.key P.dd P.val Q.d Q.t Q.k Q.key Q.dd Q.val = true := by rw [hsm]; exact decide_eq_true ha
           simp only [go_sem,zaa,Nat.reduceAdd,Nat.reduceSub,Nat.reduceMul,Int.reduceToNat,reduceCtorEq,↓reduceIte,Int.reducePow,Nat.reducePow,Int.reduceMod,Nat.reduceLeDiff,Int.reduceLE,Int.reduceNe,Int.reduceEq,Nat.reduceEqDiff,Nat.reduceLT,Nat.reduceBEq,ty,Seqf,rsameS,hlp,hlq,d1,hs1,hs2,e1,hsm2,Int.toNat_natCast]
           repeat (refine And.intro (by omega) ?_)
           refine ⟨rs.length - (i + 1),_,by omega,zai [0,1,2,3] rfl rfl rfl ?_ ?_,i + 1,rfl,by omega,?_,rfl⟩
           · simp only [ssT,zao,zap,setSlot,gOf,AV.ren,renL,Blk.ren,Ax.look,Ax.put,reduceCtorEq,↓reduceIte,Nat.reduceEqDiff,Nat.reduceLT,Nat.reduceAdd,List.length_append,List.length_cons,List.length_nil,Option.some.injEq]
           · simp only [ssT,zao,zap,setSlot,gOf,AV.ren,renL,Blk.ren,Ax.look,Ax.put,reduceCtorEq,↓reduceIte,Nat.reduceEqDiff,Nat.reduceLT,Nat.reduceAdd,List.length_append,List.length_cons,List.length_nil,Option.some.injEq]
           · intro j h h' hj
             rcases Nat.lt_or_ge j i with h2 | h2
             · exact hall j h h' h2
             · have : j = i := by omega
               subst this
               rw [hP,hQ]; exact ha
         · have hsm2 : sameB P.d P.t P.k P.key P.dd P.val Q.d Q.t Q.k Q.key Q.dd Q.val = false := by rw [hsm]; exact decide_eq_false ha
           have dr : decide (rs = qs) = false := decide_eq_false (fun h => ha (by rw [← hP,← hQ]; exact hk.1 h i hil hiq))
           simp only [go_sem,zaa,Nat.reduceAdd,Nat.reduceSub,Nat.reduceMul,Int.reduceToNat,reduceCtorEq,↓reduceIte,Int.reducePow,Nat.reducePow,Int.reduceMod,Nat.reduceLeDiff,Int.reduceLE,Int.reduceNe,Int.reduceEq,Nat.reduceEqDiff,Nat.reduceLT,Nat.reduceBEq,ty,Seqf,rsameS,hlp,hlq,d1,hs1,hs2,e1,hsm2,dr,zag,Int.toNat_natCast]
           omega
       · have d1 : decide ((i : Int) < rs.length) = false := decide_eq_false (by omega)
         have dr : decide (rs = qs) = true := decide_eq_true (hk.2 fun j h h' => hall j h h' (by omega))
         simp only [go_sem,zaa,Nat.reduceAdd,Nat.reduceSub,Nat.reduceMul,Int.reduceToNat,reduceCtorEq,↓reduceIte,Int.reducePow,Nat.reducePow,Int.reduceMod,Nat.reduceLeDiff,Int.reduceLE,Int.reduceNe,Int.reduceEq,Nat.reduceEqDiff,Nat.reduceLT,Nat.reduceBEq,ty,Seqf,hlp,hlq,d1,dr,zag]
   · have d0 : decide ((rs.length : Int) = qs.length) = false := decide_eq_false (by omega)
     have dr : decide (rs = qs) = false := decide_eq_false (fun h => hl (by rw [h]))
     simp only [go_sem,zaa,Nat.reduceAdd,Nat.reduceSub,Nat.reduceMul,Int.reduceToNat,reduceCtorEq,↓reduceIte,Int.reducePow,Nat.reducePow,Int.reduceMod,Nat.reduceLeDiff,Int.reduceLE,Int.reduceNe,Int.reduceEq,Nat.reduceEqDiff,Nat.reduceLT,Nat.reduceBEq,ty,Seqf,hlp,hlq,d0,dr,zag]
 · exact hp.elim
end
end Go.Proofs.Ytmedjkjoannbmaa
namespace Go.Proofs.Ytmedjkjoannbmaa
open Ax
def zdh (b c p e s : Int) (rs : List Rec) (b' c' p' e' s' : Int) (qs : List Rec) : Bool := decide (b = b' ∧ c = c' ∧ p = p' ∧ e = e' ∧ s = s' ∧ rs = qs)
def zfk : zaq
 | [.agg [.w (.int .i64 b),.w (.int .i64 c),.w (.int .i64 p),.w (.int .i64 e),.w (.int .i64 s),.sg 6 xs f],.agg [.w (.int .i64 b'),.w (.int .i64 c'),.w (.int .i64 p'),.w (.int .i64 e'),.w (.int .i64 s'),.sg 6 ys g]],[] =>
     ⟨(xs.length ≤ 9223372036854775807 ∧ ∃ rs : List Rec,xs = rs.map rv) ∧ ys.length ≤ 9223372036854775807 ∧ ∃ qs : List Rec,ys = qs.map rv,
     .w (.bool (zdh b c p e s (xs.map rrec) b' c' p' e' s' (ys.map rrec))),[]⟩
 | _,_ => zbv
def lightR (r : Rec) : Prop := r.key.length ≤ 200 ∧ r.val.length ≤ 700
instance (r : Rec) : Decidable (lightR r) := by unfold lightR; infer_instance
def blightS4 : zaq
 | [.agg [.w (.int .i64 b),.w (.int .i64 c),.w (.int .i64 p),.w (.int .i64 e),.w (.int .i64 s),.sg 6 xs f]],[] => ⟨xs.length ≤ 9223372036854775807 ∧ ∃ rs : List Rec,xs = rs.map rv,
     .w (.bool (decide (xs.length ≤ 40 ∧ ∀ r ∈ xs.map rrec,lightR r))),[]⟩
 | _,_ => zbv
def Sbsame4 (f : FuncId) : Option zaq :=
 match f with
 | 70 => some eqfS
 | _ => none
theorem Sbsame4_ok : Fns Try.prog Sbsame4 := by
 intro f s h
 unfold Sbsame4 at h
 split at h
 · injection h with h; subst h; exact ⟨⟨_,Try.func70,by kernel_rfl,by kernel_rfl⟩,eqf_sound⟩
 · cases h
def Sblight4 (f : FuncId) : Option zaq :=
 match f with
 | 59 => some lightS
 | _ => none
theorem Sblight4_ok : Fns Try.prog Sblight4 := by
 intro f s h
 unfold Sblight4 at h
 split at h
 · injection h with h; subst h; exact ⟨⟨_,Try.func59,by kernel_rfl,by kernel_rfl⟩,light_sound⟩
 · cases h
section
set_option maxRecDepth 100000
set_option maxHeartbeats 1000000 in
theorem bsame4_sound : zbf Try.prog 33 zfk := by
 refine zau (S := Sbsame4) (T := ty) zbj ty_ok Sbsame4_ok Try.func33 (c := Try.f33.body.getD .skip) (by kernel_rfl) (by kernel_rfl) (fun xs pins hp _ => ?_)
 unfold zfk at hp ⊢
 split at hp
 · rename_i b c p e s xs f b' c' p' e' s' ys g _
   obtain ⟨⟨hL1,rs,rfl⟩,hL2,qs,rfl⟩ := hp
   rw [List.length_map] at hL1 hL2
   refine ⟨by simp,?_⟩
   have hlp : (rs.map rv).length = rs.length := by simp
   have hlq : (qs.map rv).length = qs.length := by simp
   have hx1 : ∃ qs_1 : List Rec,rs.map rv = qs_1.map rv := ⟨rs,rfl⟩
   have hx2 : ∃ qs_1 : List Rec,qs.map rv = qs_1.map rv := ⟨qs,rfl⟩
   unfold Try.f33
   by_cases h1 : b = b'
   · have d1 : decide (b = b') = true := decide_eq_true h1
     by_cases h2 : c = c'
     · have d2 : decide (c = c') = true := decide_eq_true h2
       by_cases h3 : p = p'
       · have d3 : decide (p = p') = true := decide_eq_true h3
         by_cases h4 : e = e'
         · have d4 : decide (e = e') = true := decide_eq_true h4
           by_cases h5 : s = s'
           · have d5 : decide (s = s') = true := decide_eq_true h5
             have hc1 : coe ty 22 (.sg 6 (rs.map rv) f) = .sg 6 (rs.map rv) f := by cases rs <;> rfl
             have hc2 : coe ty 22 (.sg 6 (qs.map rv) g) = .sg 6 (qs.map rv) g := by cases qs <;> rfl
             have hv : zdh b c p e s rs b' c' p' e' s' qs = decide (rs = qs) := by unfold zdh; simp [h1,h2,h3,h4,h5]
             simp only [go_sem,zaa,Nat.reduceAdd,Nat.reduceSub,Nat.reduceMul,Int.reduceToNat,reduceCtorEq,↓reduceIte,Int.reducePow,Nat.reducePow,Int.reduceMod,Nat.reduceLeDiff,Int.reduceLE,Int.reduceNe,Int.reduceEq,Nat.reduceEqDiff,Nat.reduceLT,Nat.reduceBEq,hc1,hc2,ty,Sbsame4,eqfS,hlp,hlq,hL1,hL2,hx1,hx2,zag,d1,d2,d3,d4,d5,hv]
           · have d5 : decide (s = s') = false := decide_eq_false h5
             have hv : zdh b c p e s rs b' c' p' e' s' qs = false := decide_eq_false (fun h => h5 h.2.2.2.2.1)
             simp only [go_sem,zaa,Nat.reduceAdd,Nat.reduceSub,Nat.reduceMul,Int.reduceToNat,reduceCtorEq,↓reduceIte,Int.reducePow,Nat.reducePow,Int.reduceMod,Nat.reduceLeDiff,Int.reduceLE,Int.reduceNe,Int.reduceEq,Nat.reduceEqDiff,Nat.reduceLT,Nat.reduceBEq,ty,Sbsame4,zag,d1,d2,d3,d4,d5,hv]
         · have d4 : decide (e = e') = false := decide_eq_false h4
           have hv : zdh b c p e s rs b' c' p' e' s' qs = false := decide_eq_false (fun h => h4 h.2.2.2.1)
           simp only [go_sem,zaa,Nat.reduceAdd,Nat.reduceSub,Nat.reduceMul,Int.reduceToNat,reduceCtorEq,↓reduceIte,Int.reducePow,Nat.reducePow,Int.reduceMod,Nat.reduceLeDiff,Int.reduceLE,Int.reduceNe,Int.reduceEq,Nat.reduceEqDiff,Nat.reduceLT,Nat.reduceBEq,ty,Sbsame4,zag,d1,d2,d3,d4,hv]
       · have d3 : decide (p = p') = false := decide_eq_false h3
         have hv : zdh b c p e s rs b' c' p' e' s' qs = false := decide_eq_false (fun h => h3 h.2.2.1)
         simp only [go_sem,zaa,Nat.reduceAdd,Nat.reduceSub,Nat.reduceMul,Int.reduceToNat,reduceCtorEq,↓reduceIte,Int.reducePow,Nat.reducePow,Int.reduceMod,Nat.reduceLeDiff,Int.reduceLE,Int.reduceNe,Int.reduceEq,Nat.reduceEqDiff,Nat.reduceLT,Nat.reduceBEq,ty,Sbsame4,zag,d1,d2,d3,hv]
     · have d2 : decide (c = c') = false := decide_eq_false h2
       have hv : zdh b c p e s rs b' c' p' e' s' qs = false := decide_eq_false (fun h => h2 h.2.1)
       simp only [go_sem,zaa,Nat.reduceAdd,Nat.reduceSub,Nat.reduceMul,Int.reduceToNat,reduceCtorEq,↓reduceIte,Int.reducePow,Nat.reducePow,Int.reduceMod,Nat.reduceLeDiff,Int.reduceLE,Int.reduceNe,Int.reduceEq,Nat.reduceEqDiff,Nat.reduceLT,Nat.reduceBEq,ty,Sbsame4,zag,d1,d2,hv]
   · have d1 : decide (b = b') = false := decide_eq_false h1
     have hv : zdh b c p e s rs b' c' p' e' s' qs = false := decide_eq_false (fun h => h1 h.1)
     simp only [go_sem,zaa,Nat.reduceAdd,Nat.reduceSub,Nat.reduceMul,Int.reduceToNat,reduceCtorEq,↓reduceIte,Int.reducePow,Nat.reducePow,Int.reduceMod,Nat.reduceLeDiff,Int.reduceLE,Int.reduceNe,Int.reduceEq,Nat.reduceEqDiff,Nat.reduceLT,Nat.reduceBEq,ty,Sbsame4,zag,d1,hv]
 · exact hp.elim
set_option maxHeartbeats 1000000 in
theorem blight4_sound : zbf Try.prog 25 blightS4 := by
 refine zau (S := Sblight4) (T := ty) zbj ty_ok Sblight4_ok Try.func25 (c := Try.f25.body.getD .skip) (by kernel_rfl) (by kernel_rfl) (fun xs pins hp _ => ?_)
 unfold blightS4 at hp ⊢
 split at hp
 · rename_i b c p e s xs f _
   obtain ⟨hL,rs,rfl⟩ := hp
   have hl4 : (rs.map rv).length = rs.length := by simp
   rw [hl4] at hL
   refine ⟨by simp,?_⟩
   unfold Try.f25
   by_cases h40 : rs.length ≤ 40
   · have d0 : decide ((40 : Int) < rs.length) = false := decide_eq_false (by omega)
     simp only [go_sem,zaa,Nat.reduceAdd,Nat.reduceSub,Nat.reduceMul,Int.reduceToNat,reduceCtorEq,↓reduceIte,Int.reducePow,Nat.reducePow,Int.reduceMod,Nat.reduceLeDiff,Int.reduceLE,Int.reduceNe,Int.reduceEq,Nat.reduceEqDiff,Nat.reduceLT,Nat.reduceBEq,ty,Sblight4,hl4,d0,zag]
     refine zde ⟨fun m σ => ∃ i : Nat,m = rs.length - i ∧ i ≤ rs.length ∧ (∀ j (h : j < rs.length),j < i → lightR rs[j]) ∧
         σ = ⟨[.agg [.w (.int .i64 b),.w (.int .i64 c),.w (.int .i64 p),.w (.int .i64 e),.w (.int .i64 s),.sg 6 (rs.map rv) f],.rf 4 6 0 0,.junk,.w (.int .i64 i),.junk,.junk,.junk,.junk,.junk,.junk,.junk,.junk,.junk,.junk,.junk,.junk,.junk,.junk,.junk,.junk,.junk,.junk],[(4,.g 6 [.agg [.w (.int .i64 b),.w (.int .i64 c),.w (.int .i64 p),.w (.int .i64 e),.w (.int .i64 s),.sg 6 (rs.map rv) f]])],5⟩,?_,?_⟩
     · refine ⟨_,_,zai [0,1,2,3,4] rfl rfl rfl ?_ ?_,0,rfl,by omega,by intro j _ h; omega,rfl⟩
       · simp only [ssT,zao,zap,setSlot,gOf,AV.ren,renL,Blk.ren,Ax.look,Ax.put,reduceCtorEq,↓reduceIte,Nat.reduceEqDiff,Nat.reduceLT,Nat.reduceAdd,List.length_append,List.length_cons,List.length_nil,Option.some.injEq]; rfl
       · simp only [ssT,zao,zap,setSlot,gOf,AV.ren,renL,Blk.ren,Ax.look,Ax.put,reduceCtorEq,↓reduceIte,Nat.reduceEqDiff,Nat.reduceLT,Nat.reduceAdd,List.length_append,List.length_cons,List.length_nil,Option.some.injEq]
     · rintro m σ ⟨i,rfl,hi,hall,rfl⟩
       have e1 : ((i : Int) + 1 + 9223372036854775808) % 18446744073709551616 - 9223372036854775808 = ((i + 1 : Nat) : Int) := by omega
       by_cases hil : i < rs.length
       · have d1 : decide ((i : Int) < rs.length) = true := decide_eq_true (by omega)
         have hs1 := zfi rv rs i hil
         obtain ⟨P,hP⟩ : ∃ P,rs[i] = P := ⟨_,rfl⟩
         rw [hP] at hs1
         simp only [rv] at hs1
         by_cases ha : P.key.length ≤ 200 ∧ P.val.length ≤ 700
         · have d2 : decide (P.key.length ≤ 200 ∧ P.val.length ≤ 700) = true := decide_eq_true ha
           simp only [go_sem,zaa,Nat.reduceAdd,Nat.reduceSub,Nat.reduceMul,Int.reduceToNat,reduceCtorEq,↓reduceIte,Int.reducePow,Nat.reducePow,Int.reduceMod,Nat.reduceLeDiff,Int.reduceLE,Int.reduceNe,Int.reduceEq,Nat.reduceEqDiff,Nat.reduceLT,Nat.reduceBEq,ty,Sblight4,lightS,hl4,d1,d2,hs1,e1,Int.toNat_natCast]
           repeat (refine And.intro (by omega) ?_)
           refine ⟨rs.length - (i + 1),_,by omega,zai [0,1,2,3,4] rfl rfl rfl ?_ ?_,i + 1,rfl,by omega,?_,rfl⟩
           · simp only [ssT,zao,zap,setSlot,gOf,AV.ren,renL,Blk.ren,Ax.look,Ax.put,reduceCtorEq,↓reduceIte,Nat.reduceEqDiff,Nat.reduceLT,Nat.reduceAdd,List.length_append,List.length_cons,List.length_nil,Option.some.injEq]
           · simp only [ssT,zao,zap,setSlot,gOf,AV.ren,renL,Blk.ren,Ax.look,Ax.put,reduceCtorEq,↓reduceIte,Nat.reduceEqDiff,Nat.reduceLT,Nat.reduceAdd,List.length_append,List.length_cons,List.length_nil,Option.some.injEq]
           · intro j h hj
             rcases Nat.lt_or_ge j i with h2 | h2
             · exact hall j h h2
             · have : j = i := by omega
               subst this
               rw [hP]; exact ha
         · have d2 : decide (P.key.length ≤ 200 ∧ P.val.length ≤ 700) = false := decide_eq_false ha
           have dr : decide (rs.length ≤ 40 ∧ ∀ r ∈ rs,lightR r) = false := decide_eq_false (fun h => ha (h.2 P (hP ▸ List.getElem_mem hil)))
           simp only [go_sem,zaa,Nat.reduceAdd,Nat.reduceSub,Nat.reduceMul,Int.reduceToNat,reduceCtorEq,↓reduceIte,Int.reducePow,Nat.reducePow,Int.reduceMod,Nat.reduceLeDiff,Int.reduceLE,Int.reduceNe,Int.reduceEq,Nat.reduceEqDiff,Nat.reduceLT,Nat.reduceBEq,ty,Sblight4,lightS,hl4,d1,d2,hs1,e1,dr,zag,Int.toNat_natCast]
           omega
       · have d1 : decide ((i : Int) < rs.length) = false := decide_eq_false (by omega)
         have dr : decide (rs.length ≤ 40 ∧ ∀ r ∈ rs,lightR r) = true := decide_eq_true ⟨h40,fun r hr => by
           obtain ⟨j,hj,rfl⟩ := List.getElem_of_mem hr
           exact hall j hj (by omega)⟩
         simp only [go_sem,zaa,Nat.reduceAdd,Nat.reduceSub,Nat.reduceMul,Int.reduceToNat,reduceCtorEq,↓reduceIte,Int.reducePow,Nat.reducePow,Int.reduceMod,Nat.reduceLeDiff,Int.reduceLE,Int.reduceNe,Int.reduceEq,Nat.reduceEqDiff,Nat.reduceLT,Nat.reduceBEq,ty,Sblight4,hl4,d1,dr,zag]
   · have d0 : decide ((40 : Int) < rs.length) = true := decide_eq_true (by omega)
     have dr : decide (rs.length ≤ 40 ∧ ∀ r ∈ rs,lightR r) = false := decide_eq_false (fun h => h40 h.1)
     simp only [go_sem,zaa,Nat.reduceAdd,Nat.reduceSub,Nat.reduceMul,Int.reduceToNat,reduceCtorEq,↓reduceIte,Int.reducePow,Nat.reducePow,Int.reduceMod,Nat.reduceLeDiff,Int.reduceLE,Int.reduceNe,Int.reduceEq,Nat.reduceEqDiff,Nat.reduceLT,Nat.reduceBEq,ty,Sblight4,hl4,d0,dr,zag]
 · exact hp.elim
end
end Go.Proofs.Ytmedjkjoannbmaa
namespace Go.Proofs.Ytmedjkjoannbmaa
open Ax
theorem closed_rv : ∀ (G : List Rec),closedL (G.map rv) = true
 | [] => rfl
 | x :: r => by simp only [List.map_cons,closedL,rv,AV.closed,Bool.true_and]; exact closed_rv r
theorem ren_rv (g : Nat → Nat) : ∀ (G : List Rec),renL g (G.map rv) = G.map rv
 | [] => rfl
 | x :: r => by simp only [List.map_cons,renL,ren_rv g r]; rfl
section
set_option maxRecDepth 100000
set_option maxHeartbeats 1000000 in
end
end Go.Proofs.Ytmedjkjoannbmaa
namespace Go.Proofs.Ytmedjkjoannbmaa
open Ax
theorem and1 : ∀ x : Fin 256,bits .and .u8 ((x.val : Nat) : Int) 1 = if x.val % 2 = 1 then 1 else 0 := by decide +kernel
theorem and2 : ∀ x : Fin 256,bits .and .u8 ((x.val : Nat) : Int) 2 = if x.val / 2 % 2 = 1 then 2 else 0 := by decide +kernel
def g0 (bs : List UInt8) (e : Int) : Nat := (zei 1 bs e).toNat
def gb1 (bs : List UInt8) (e : Int) := zfg 1 bs e
def ge1 (bs : List UInt8) (e : Int) := rfixE 1 bs e
def gd (bs : List UInt8) (e : Int) : Int := numN (gb1 bs e) (ge1 bs e)
def gb2 (bs : List UInt8) (e : Int) := numL (gb1 bs e) (ge1 bs e)
def ge2 (bs : List UInt8) (e : Int) := numE (gb1 bs e) (ge1 bs e)
def gt (bs : List UInt8) (e : Int) : Int := numN (gb2 bs e) (ge2 bs e)
def gb3 (bs : List UInt8) (e : Int) := numL (gb2 bs e) (ge2 bs e)
def ge3 (bs : List UInt8) (e : Int) := numE (gb2 bs e) (ge2 bs e)
def gk (bs : List UInt8) (e : Int) : Bool := decide (g0 bs e % 2 = 1)
def gdd (bs : List UInt8) (e : Int) : Bool := decide (g0 bs e / 2 % 2 = 1)
def gkey (bs : List UInt8) (e : Int) : List UInt8 := if gk bs e then rtS' 64 (gb3 bs e) (ge3 bs e) else []
def gb4 (bs : List UInt8) (e : Int) : List UInt8 := if gk bs e then rtL 64 (gb3 bs e) (ge3 bs e) else gb3 bs e
def ge4 (bs : List UInt8) (e : Int) : Int := if gk bs e then rtE 64 (gb3 bs e) (ge3 bs e) else ge3 bs e
def gval (bs : List UInt8) (e : Int) : List UInt8 := if gdd bs e then [] else rtS' 512 (gb4 bs e) (ge4 bs e)
def gb5 (bs : List UInt8) (e : Int) : List UInt8 := if gdd bs e then gb4 bs e else rtL 512 (gb4 bs e) (ge4 bs e)
def ge5 (bs : List UInt8) (e : Int) : Int := if gdd bs e then ge4 bs e else rtE 512 (gb4 bs e) (ge4 bs e)
def gerr (bs : List UInt8) (e : Int) : Int :=
 if ge5 bs e ≠ 0 then ge5 bs e else if 4 ≤ g0 bs e ∨ rchk (gd bs e) (gt bs e) (gk bs e) (gkey bs e) (gdd bs e) (gval bs e) ≠ 0 then 4 else 0
def grec (bs : List UInt8) (e : Int) : AV := if gerr bs e = 0 then recV (gd bs e) (gt bs e) (gk bs e) (gkey bs e) (gdd bs e) (gval bs e) else recV 0 0 false [] false []
def rgetS : zaq
 | [.rf 0 2 0 0],[.g 2 [.agg [.sb bs f,.w (.int .i64 e)]]] => ⟨bs.length ≤ 1000000,.tup [grec bs e,.w (.int .i64 (gerr bs e))],[rd (gb5 bs e) f (ge5 bs e)]⟩
 | [.w (.pointer none)],[] => ⟨True,.tup [recV 0 0 false [] false [],.w (.int .i64 1)],[]⟩
 | _,_ => zbv
def Srget (f : FuncId) : Option zaq :=
 match f with
 | 46 => some zcs
 | 52 => some numS
 | 55 => some zcr
 | 80 => some errS
 | 94 => some zfa
 | _ => none
theorem Srget_ok : Fns Try.prog Srget := by
 intro f s h
 unfold Srget at h
 split at h
 · injection h with h; subst h; exact ⟨⟨_,Try.func46,by kernel_rfl,by kernel_rfl⟩,mfixed_sound⟩
 · injection h with h; subst h; exact ⟨⟨_,Try.func52,by kernel_rfl,by kernel_rfl⟩,num_sound⟩
 · injection h with h; subst h; exact ⟨⟨_,Try.func55,by kernel_rfl,by kernel_rfl⟩,mtext_sound⟩
 · injection h with h; subst h; exact ⟨⟨_,Try.func80,by kernel_rfl,by kernel_rfl⟩,err_sound⟩
 · injection h with h; subst h; exact ⟨⟨_,Try.func94,by kernel_rfl,by kernel_rfl⟩,rcheck_sound⟩
 · cases h
theorem tkL_length (n : Int) (bs : List UInt8) : (tkL n bs).length ≤ bs.length := by unfold tkL; split <;> simp
theorem rtL_length (m : Int) (bs : List UInt8) (e : Int) : (rtL m bs e).length ≤ bs.length := by
 unfold rtL
 have h1 := zby bs e
 split
 · have := tkL_length (numN bs e) (numL bs e); omega
 · exact h1
theorem zbg (n : Int) (bs : List UInt8) (e : Int) : (zfg n bs e).length ≤ bs.length := by
 unfold zfg; split
 · exact tkL_length _ _
 · exact Nat.le_refl _
theorem unf1 (bs : List UInt8) (h : bs.length ≤ 1) : unfL (last8 bs) 0 < 256 := by
 have hl : last8 bs = bs := by unfold last8; rw [show bs.length - 8 = 0 by omega,List.drop_zero]
 rw [hl]
 match bs,h with
 | [],_ => simp [unfL]
 | [c],_ =>
   have := c.toNat_lt
   simp only [unfL,List.foldl_cons,List.foldl_nil]
   omega
theorem rfix1 (bs : List UInt8) (e : Int) : 0 ≤ zei 1 bs e ∧ zei 1 bs e < 256 := by
 unfold zei
 split
 · have h : (tkB (clampI 1) bs).length ≤ 1 := by
     have : clampI 1 = 1 := by decide
     rw [this]; unfold tkB; split
     · simp
     · simp; omega
   have := unf1 _ h
   omega
 · omega
section
set_option maxRecDepth 100000
set_option maxHeartbeats 2000000 in
theorem recget_sound : zbf Try.prog 84 rgetS := by
 refine zau (S := Srget) (T := ty) zbj ty_ok Srget_ok Try.func84 (c := Try.f84.body.getD .skip) (by kernel_rfl) (by kernel_rfl) (fun xs pins hp _ => ?_)
 unfold rgetS at hp ⊢
 split at hp
 · rename_i bs f e _
   have hlen : bs.length ≤ 1000000 := hp
   refine ⟨by simp,?_⟩
   have hr := rfix1 bs e
   have hN : zei 1 bs e = ((g0 bs e : Nat) : Int) := by unfold g0; omega
   have hN2 : g0 bs e < 256 := by omega
   have a1 := and1 ⟨g0 bs e,hN2⟩
   have a2 := and2 ⟨g0 bs e,hN2⟩
   simp only at a1 a2
   have hm1 : ((g0 bs e : Nat) : Int) % 256 = ((g0 bs e : Nat) : Int) := by omega
   have q1 : (gb1 bs e).length ≤ 1000000 := by have := zbg 1 bs e; unfold gb1; omega
   have q2 : (gb2 bs e).length ≤ 1000000 := by have := zby (gb1 bs e) (ge1 bs e); unfold gb2; omega
   have q3 : (gb3 bs e).length ≤ 1000000 := by have := zby (gb2 bs e) (ge2 bs e); unfold gb3; omega
   have q4 : (gb4 bs e).length ≤ 1000000 := by have := rtL_length 64 (gb3 bs e) (ge3 bs e); unfold gb4; split <;> omega
   have i1 : zfg 1 bs e = gb1 bs e := rfl
   have i2 : rfixE 1 bs e = ge1 bs e := rfl
   have i3 : numN (gb1 bs e) (ge1 bs e) = gd bs e := rfl
   have i4 : numL (gb1 bs e) (ge1 bs e) = gb2 bs e := rfl
   have i5 : numE (gb1 bs e) (ge1 bs e) = ge2 bs e := rfl
   have i6 : numN (gb2 bs e) (ge2 bs e) = gt bs e := rfl
   have i7 : numL (gb2 bs e) (ge2 bs e) = gb3 bs e := rfl
   have i8 : numE (gb2 bs e) (ge2 bs e) = ge3 bs e := rfl
   unfold Try.f84
   rcases Bool.eq_false_or_eq_true (gk bs e) with hk | hk <;> rcases Bool.eq_false_or_eq_true (gdd bs e) with hdd | hdd
   · have c1 : bits .and .u8 ((g0 bs e : Nat) : Int) 1 = 1 := by rw [a1]; unfold gk at hk; simpa using hk
     have c2 : bits .and .u8 ((g0 bs e : Nat) : Int) 2 = 2 := by rw [a2]; unfold gdd at hdd; simpa using hdd
     have x1 : rtL 64 (gb3 bs e) (ge3 bs e) = gb4 bs e := by unfold gb4; rw [hk]; rfl
     have x2 : rtE 64 (gb3 bs e) (ge3 bs e) = ge4 bs e := by unfold ge4; rw [hk]; rfl
     have x3 : rtS' 64 (gb3 bs e) (ge3 bs e) = gkey bs e := by unfold gkey; rw [hk]; rfl
     have x4 : gb5 bs e = gb4 bs e := by unfold gb5; rw [hdd]; rfl
     have x5 : ge5 bs e = ge4 bs e := by unfold ge5; rw [hdd]; rfl
     have x6 : gval bs e = [] := by unfold gval; rw [hdd]; rfl
     by_cases h5 : ge4 bs e = 0
     · have e5 : ge5 bs e = 0 := by first | exact h5 | (rw [x5]; exact h5)
       by_cases h4 : 4 ≤ g0 bs e
       · have d4 : decide ((4 : Int) ≤ ((g0 bs e : Nat) : Int)) = true := decide_eq_true (by omega)
         have hG : gerr bs e = 4 := by unfold gerr; rw [if_neg (by simpa using e5),if_pos (.inl h4)]
         have hV : grec bs e = recV 0 0 false [] false [] := by unfold grec; rw [hG]; rfl
         simp only [go_sem,coe,zaa,Nat.reduceAdd,Nat.reduceSub,Nat.reduceMul,Int.reduceToNat,reduceCtorEq,↓reduceIte,Int.reducePow,Nat.reducePow,Int.reduceMod,Nat.reduceLeDiff,Int.reduceLE,Int.reduceNe,Int.reduceEq,Nat.reduceEqDiff,Nat.reduceLT,Nat.reduceBEq,ty,Srget,zcs,numS,zcr,errS,zfa,rd,fillS,recV,hN,hm1,c1,c2,i1,i2,i3,i4,i5,i6,i7,i8,x1,x2,x3,x4,x5,x6,hlen,q1,q2,q3,q4,h5,d4,hG,hV]
       · have d4 : decide ((4 : Int) ≤ ((g0 bs e : Nat) : Int)) = false := decide_eq_false (by omega)
         by_cases hc : rchk (gd bs e) (gt bs e) true (gkey bs e) true ([]) = 0
         · have hG : gerr bs e = 0 := by unfold gerr; rw [if_neg (by simpa using e5),hk,hdd,x6,if_neg (by rintro (h | h); exact h4 h; exact h hc)]
           have hV : grec bs e = recV (gd bs e) (gt bs e) true (gkey bs e) true ([]) := by unfold grec; rw [hG,if_pos rfl,hk,hdd,x6]
           simp only [go_sem,coe,zaa,Nat.reduceAdd,Nat.reduceSub,Nat.reduceMul,Int.reduceToNat,reduceCtorEq,↓reduceIte,Int.reducePow,Nat.reducePow,Int.reduceMod,Nat.reduceLeDiff,Int.reduceLE,Int.reduceNe,Int.reduceEq,Nat.reduceEqDiff,Nat.reduceLT,Nat.reduceBEq,ty,Srget,zcs,numS,zcr,errS,zfa,rd,fillS,recV,hN,hm1,c1,c2,i1,i2,i3,i4,i5,i6,i7,i8,x1,x2,x3,x4,x5,x6,hlen,q1,q2,q3,q4,h5,d4,hG,hV,hc]
         · have hG : gerr bs e = 4 := by unfold gerr; rw [if_neg (by simpa using e5),hk,hdd,x6,if_pos (.inr hc)]
           have hV : grec bs e = recV 0 0 false [] false [] := by unfold grec; rw [hG]; rfl
           have d5 : decide (rchk (gd bs e) (gt bs e) true (gkey bs e) true ([]) = 0) = false := decide_eq_false hc
           simp only [go_sem,coe,zaa,Nat.reduceAdd,Nat.reduceSub,Nat.reduceMul,Int.reduceToNat,reduceCtorEq,↓reduceIte,Int.reducePow,Nat.reducePow,Int.reduceMod,Nat.reduceLeDiff,Int.reduceLE,Int.reduceNe,Int.reduceEq,Nat.reduceEqDiff,Nat.reduceLT,Nat.reduceBEq,ty,Srget,zcs,numS,zcr,errS,zfa,rd,fillS,recV,hN,hm1,c1,c2,i1,i2,i3,i4,i5,i6,i7,i8,x1,x2,x3,x4,x5,x6,hlen,q1,q2,q3,q4,h5,d4,hG,hV,d5]
     · have e5 : ¬ ge5 bs e = 0 := by first | exact h5 | (rw [x5]; exact h5)
       have d5 : decide (ge4 bs e = 0) = false := decide_eq_false h5
       have hG : gerr bs e = ge4 bs e := by unfold gerr; rw [if_pos e5]; exact x5
       have hV : grec bs e = recV 0 0 false [] false [] := by unfold grec; rw [hG,if_neg h5]
       simp only [go_sem,coe,zaa,Nat.reduceAdd,Nat.reduceSub,Nat.reduceMul,Int.reduceToNat,reduceCtorEq,↓reduceIte,Int.reducePow,Nat.reducePow,Int.reduceMod,Nat.reduceLeDiff,Int.reduceLE,Int.reduceNe,Int.reduceEq,Nat.reduceEqDiff,Nat.reduceLT,Nat.reduceBEq,ty,Srget,zcs,numS,zcr,errS,zfa,rd,fillS,recV,hN,hm1,c1,c2,i1,i2,i3,i4,i5,i6,i7,i8,x1,x2,x3,x4,x5,x6,hlen,q1,q2,q3,q4,d5,hG,hV]
   · have c1 : bits .and .u8 ((g0 bs e : Nat) : Int) 1 = 1 := by rw [a1]; unfold gk at hk; simpa using hk
     have c2 : bits .and .u8 ((g0 bs e : Nat) : Int) 2 = 0 := by rw [a2]; unfold gdd at hdd; simpa using hdd
     have x1 : rtL 64 (gb3 bs e) (ge3 bs e) = gb4 bs e := by unfold gb4; rw [hk]; rfl
     have x2 : rtE 64 (gb3 bs e) (ge3 bs e) = ge4 bs e := by unfold ge4; rw [hk]; rfl
     have x3 : rtS' 64 (gb3 bs e) (ge3 bs e) = gkey bs e := by unfold gkey; rw [hk]; rfl
     have x4 : rtL 512 (gb4 bs e) (ge4 bs e) = gb5 bs e := by unfold gb5; rw [hdd]; rfl
     have x5 : rtE 512 (gb4 bs e) (ge4 bs e) = ge5 bs e := by unfold ge5; rw [hdd]; rfl
     have x6 : rtS' 512 (gb4 bs e) (ge4 bs e) = gval bs e := by unfold gval; rw [hdd]; rfl
     by_cases h5 : ge5 bs e = 0
     · have e5 : ge5 bs e = 0 := by first | exact h5 | (rw [x5]; exact h5)
       by_cases h4 : 4 ≤ g0 bs e
       · have d4 : decide ((4 : Int) ≤ ((g0 bs e : Nat) : Int)) = true := decide_eq_true (by omega)
         have hG : gerr bs e = 4 := by unfold gerr; rw [if_neg (by simpa using e5),if_pos (.inl h4)]
         have hV : grec bs e = recV 0 0 false [] false [] := by unfold grec; rw [hG]; rfl
         simp only [go_sem,coe,zaa,Nat.reduceAdd,Nat.reduceSub,Nat.reduceMul,Int.reduceToNat,reduceCtorEq,↓reduceIte,Int.reducePow,Nat.reducePow,Int.reduceMod,Nat.reduceLeDiff,Int.reduceLE,Int.reduceNe,Int.reduceEq,Nat.reduceEqDiff,Nat.reduceLT,Nat.reduceBEq,ty,Srget,zcs,numS,zcr,errS,zfa,rd,fillS,recV,hN,hm1,c1,c2,i1,i2,i3,i4,i5,i6,i7,i8,x1,x2,x3,x4,x5,x6,hlen,q1,q2,q3,q4,h5,d4,hG,hV]
       · have d4 : decide ((4 : Int) ≤ ((g0 bs e : Nat) : Int)) = false := decide_eq_false (by omega)
         by_cases hc : rchk (gd bs e) (gt bs e) true (gkey bs e) false (gval bs e) = 0
         · have hG : gerr bs e = 0 := by unfold gerr; rw [if_neg (by simpa using e5),hk,hdd,if_neg (by rintro (h | h); exact h4 h; exact h hc)]
           have hV : grec bs e = recV (gd bs e) (gt bs e) true (gkey bs e) false (gval bs e) := by unfold grec; rw [hG,if_pos rfl,hk,hdd]
           simp only [go_sem,coe,zaa,Nat.reduceAdd,Nat.reduceSub,Nat.reduceMul,Int.reduceToNat,reduceCtorEq,↓reduceIte,Int.reducePow,Nat.reducePow,Int.reduceMod,Nat.reduceLeDiff,Int.reduceLE,Int.reduceNe,Int.reduceEq,Nat.reduceEqDiff,Nat.reduceLT,Nat.reduceBEq,ty,Srget,zcs,numS,zcr,errS,zfa,rd,fillS,recV,hN,hm1,c1,c2,i1,i2,i3,i4,i5,i6,i7,i8,x1,x2,x3,x4,x5,x6,hlen,q1,q2,q3,q4,h5,d4,hG,hV,hc]
         · have hG : gerr bs e = 4 := by unfold gerr; rw [if_neg (by simpa using e5),hk,hdd,if_pos (.inr hc)]
           have hV : grec bs e = recV 0 0 false [] false [] := by unfold grec; rw [hG]; rfl
           have d5 : decide (rchk (gd bs e) (gt bs e) true (gkey bs e) false (gval bs e) = 0) = false := decide_eq_false hc
           simp only [go_sem,coe,zaa,Nat.reduceAdd,Nat.reduceSub,Nat.reduceMul,Int.reduceToNat,reduceCtorEq,↓reduceIte,Int.reducePow,Nat.reducePow,Int.reduceMod,Nat.reduceLeDiff,Int.reduceLE,Int.reduceNe,Int.reduceEq,Nat.reduceEqDiff,Nat.reduceLT,Nat.reduceBEq,ty,Srget,zcs,numS,zcr,errS,zfa,rd,fillS,recV,hN,hm1,c1,c2,i1,i2,i3,i4,i5,i6,i7,i8,x1,x2,x3,x4,x5,x6,hlen,q1,q2,q3,q4,h5,d4,hG,hV,d5]
     · have e5 : ¬ ge5 bs e = 0 := by first | exact h5 | (rw [x5]; exact h5)
       have d5 : decide (ge5 bs e = 0) = false := decide_eq_false h5
       have hG : gerr bs e = ge5 bs e := by unfold gerr; rw [if_pos e5]
       have hV : grec bs e = recV 0 0 false [] false [] := by unfold grec; rw [hG,if_neg h5]
       simp only [go_sem,coe,zaa,Nat.reduceAdd,Nat.reduceSub,Nat.reduceMul,Int.reduceToNat,reduceCtorEq,↓reduceIte,Int.reducePow,Nat.reducePow,Int.reduceMod,Nat.reduceLeDiff,Int.reduceLE,Int.reduceNe,Int.reduceEq,Nat.reduceEqDiff,Nat.reduceLT,Nat.reduceBEq,ty,Srget,zcs,numS,zcr,errS,zfa,rd,fillS,recV,hN,hm1,c1,c2,i1,i2,i3,i4,i5,i6,i7,i8,x1,x2,x3,x4,x5,x6,hlen,q1,q2,q3,q4,d5,hG,hV]
   · have c1 : bits .and .u8 ((g0 bs e : Nat) : Int) 1 = 0 := by rw [a1]; unfold gk at hk; simpa using hk
     have c2 : bits .and .u8 ((g0 bs e : Nat) : Int) 2 = 2 := by rw [a2]; unfold gdd at hdd; simpa using hdd
     have x1 : gb3 bs e = gb4 bs e := by unfold gb4; rw [hk]; rfl
     have x2 : ge3 bs e = ge4 bs e := by unfold ge4; rw [hk]; rfl
     have x3 : gkey bs e = [] := by unfold gkey; rw [hk]; rfl
     have x4 : gb5 bs e = gb4 bs e := by unfold gb5; rw [hdd]; rfl
     have x5 : ge5 bs e = ge4 bs e := by unfold ge5; rw [hdd]; rfl
     have x6 : gval bs e = [] := by unfold gval; rw [hdd]; rfl
     by_cases h5 : ge4 bs e = 0
     · have e5 : ge5 bs e = 0 := by first | exact h5 | (rw [x5]; exact h5)
       by_cases h4 : 4 ≤ g0 bs e
       · have d4 : decide ((4 : Int) ≤ ((g0 bs e : Nat) : Int)) = true := decide_eq_true (by omega)
         have hG : gerr bs e = 4 := by unfold gerr; rw [if_neg (by simpa using e5),if_pos (.inl h4)]
         have hV : grec bs e = recV 0 0 false [] false [] := by unfold grec; rw [hG]; rfl
         simp only [go_sem,coe,zaa,Nat.reduceAdd,Nat.reduceSub,Nat.reduceMul,Int.reduceToNat,reduceCtorEq,↓reduceIte,Int.reducePow,Nat.reducePow,Int.reduceMod,Nat.reduceLeDiff,Int.reduceLE,Int.reduceNe,Int.reduceEq,Nat.reduceEqDiff,Nat.reduceLT,Nat.reduceBEq,ty,Srget,zcs,numS,zcr,errS,zfa,rd,fillS,recV,hN,hm1,c1,c2,i1,i2,i3,i4,i5,i6,i7,i8,x1,x2,x3,x4,x5,x6,hlen,q1,q2,q3,q4,h5,d4,hG,hV]
       · have d4 : decide ((4 : Int) ≤ ((g0 bs e : Nat) : Int)) = false := decide_eq_false (by omega)
         by_cases hc : rchk (gd bs e) (gt bs e) false ([]) true ([]) = 0
         · have hG : gerr bs e = 0 := by unfold gerr; rw [if_neg (by simpa using e5),hk,hdd,x3,x6,if_neg (by rintro (h | h); exact h4 h; exact h hc)]
           have hV : grec bs e = recV (gd bs e) (gt bs e) false ([]) true ([]) := by unfold grec; rw [hG,if_pos rfl,hk,hdd,x3,x6]
           simp only [go_sem,coe,zaa,Nat.reduceAdd,Nat.reduceSub,Nat.reduceMul,Int.reduceToNat,reduceCtorEq,↓reduceIte,Int.reducePow,Nat.reducePow,Int.reduceMod,Nat.reduceLeDiff,Int.reduceLE,Int.reduceNe,Int.reduceEq,Nat.reduceEqDiff,Nat.reduceLT,Nat.reduceBEq,ty,Srget,zcs,numS,zcr,errS,zfa,rd,fillS,recV,hN,hm1,c1,c2,i1,i2,i3,i4,i5,i6,i7,i8,x1,x2,x3,x4,x5,x6,hlen,q1,q2,q3,q4,h5,d4,hG,hV,hc]
         · have hG : gerr bs e = 4 := by unfold gerr; rw [if_neg (by simpa using e5),hk,hdd,x3,x6,if_pos (.inr hc)]
           have hV : grec bs e = recV 0 0 false [] false [] := by unfold grec; rw [hG]; rfl
           have d5 : decide (rchk (gd bs e) (gt bs e) false ([]) true ([]) = 0) = false := decide_eq_false hc
           simp only [go_sem,coe,zaa,Nat.reduceAdd,Nat.reduceSub,Nat.reduceMul,Int.reduceToNat,reduceCtorEq,↓reduceIte,Int.reducePow,Nat.reducePow,Int.reduceMod,Nat.reduceLeDiff,Int.reduceLE,Int.reduceNe,Int.reduceEq,Nat.reduceEqDiff,Nat.reduceLT,Nat.reduceBEq,ty,Srget,zcs,numS,zcr,errS,zfa,rd,fillS,recV,hN,hm1,c1,c2,i1,i2,i3,i4,i5,i6,i7,i8,x1,x2,x3,x4,x5,x6,hlen,q1,q2,q3,q4,h5,d4,hG,hV,d5]
     · have e5 : ¬ ge5 bs e = 0 := by first | exact h5 | (rw [x5]; exact h5)
       have d5 : decide (ge4 bs e = 0) = false := decide_eq_false h5
       have hG : gerr bs e = ge4 bs e := by unfold gerr; rw [if_pos e5]; exact x5
       have hV : grec bs e = recV 0 0 false [] false [] := by unfold grec; rw [hG,if_neg h5]
       simp only [go_sem,coe,zaa,Nat.reduceAdd,Nat.reduceSub,Nat.reduceMul,Int.reduceToNat,reduceCtorEq,↓reduceIte,Int.reducePow,Nat.reducePow,Int.reduceMod,Nat.reduceLeDiff,Int.reduceLE,Int.reduceNe,Int.reduceEq,Nat.reduceEqDiff,Nat.reduceLT,Nat.reduceBEq,ty,Srget,zcs,numS,zcr,errS,zfa,rd,fillS,recV,hN,hm1,c1,c2,i1,i2,i3,i4,i5,i6,i7,i8,x1,x2,x3,x4,x5,x6,hlen,q1,q2,q3,q4,d5,hG,hV]
   · have c1 : bits .and .u8 ((g0 bs e : Nat) : Int) 1 = 0 := by rw [a1]; unfold gk at hk; simpa using hk
     have c2 : bits .and .u8 ((g0 bs e : Nat) : Int) 2 = 0 := by rw [a2]; unfold gdd at hdd; simpa using hdd
     have x1 : gb3 bs e = gb4 bs e := by unfold gb4; rw [hk]; rfl
     have x2 : ge3 bs e = ge4 bs e := by unfold ge4; rw [hk]; rfl
     have x3 : gkey bs e = [] := by unfold gkey; rw [hk]; rfl
     have x4 : rtL 512 (gb4 bs e) (ge4 bs e) = gb5 bs e := by unfold gb5; rw [hdd]; rfl
     have x5 : rtE 512 (gb4 bs e) (ge4 bs e) = ge5 bs e := by unfold ge5; rw [hdd]; rfl
     have x6 : rtS' 512 (gb4 bs e) (ge4 bs e) = gval bs e := by unfold gval; rw [hdd]; rfl
     by_cases h5 : ge5 bs e = 0
     · have e5 : ge5 bs e = 0 := by first | exact h5 | (rw [x5]; exact h5)
       by_cases h4 : 4 ≤ g0 bs e
       · have d4 : decide ((4 : Int) ≤ ((g0 bs e : Nat) : Int)) = true := decide_eq_true (by omega)
         have hG : gerr bs e = 4 := by unfold gerr; rw [if_neg (by simpa using e5),if_pos (.inl h4)]
         have hV : grec bs e = recV 0 0 false [] false [] := by unfold grec; rw [hG]; rfl
         simp only [go_sem,coe,zaa,Nat.reduceAdd,Nat.reduceSub,Nat.reduceMul,Int.reduceToNat,reduceCtorEq,↓reduceIte,Int.reducePow,Nat.reducePow,Int.reduceMod,Nat.reduceLeDiff,Int.reduceLE,Int.reduceNe,Int.reduceEq,Nat.reduceEqDiff,Nat.reduceLT,Nat.reduceBEq,ty,Srget,zcs,numS,zcr,errS,zfa,rd,fillS,recV,hN,hm1,c1,c2,i1,i2,i3,i4,i5,i6,i7,i8,x1,x2,x3,x4,x5,x6,hlen,q1,q2,q3,q4,h5,d4,hG,hV]
       · have d4 : decide ((4 : Int) ≤ ((g0 bs e : Nat) : Int)) = false := decide_eq_false (by omega)
         by_cases hc : rchk (gd bs e) (gt bs e) false ([]) false (gval bs e) = 0
         · have hG : gerr bs e = 0 := by unfold gerr; rw [if_neg (by simpa using e5),hk,hdd,x3,if_neg (by rintro (h | h); exact h4 h; exact h hc)]
           have hV : grec bs e = recV (gd bs e) (gt bs e) false ([]) false (gval bs e) := by unfold grec; rw [hG,if_pos rfl,hk,hdd,x3]
           simp only [go_sem,coe,zaa,Nat.reduceAdd,Nat.reduceSub,Nat.reduceMul,Int.reduceToNat,reduceCtorEq,↓reduceIte,Int.reducePow,Nat.reducePow,Int.reduceMod,Nat.reduceLeDiff,Int.reduceLE,Int.reduceNe,Int.reduceEq,Nat.reduceEqDiff,Nat.reduceLT,Nat.reduceBEq,ty,Srget,zcs,numS,zcr,errS,zfa,rd,fillS,recV,hN,hm1,c1,c2,i1,i2,i3,i4,i5,i6,i7,i8,x1,x2,x3,x4,x5,x6,hlen,q1,q2,q3,q4,h5,d4,hG,hV,hc]
         · have hG : gerr bs e = 4 := by unfold gerr; rw [if_neg (by simpa using e5),hk,hdd,x3,if_pos (.inr hc)]
           have hV : grec bs e = recV 0 0 false [] false [] := by unfold grec; rw [hG]; rfl
           have d5 : decide (rchk (gd bs e) (gt bs e) false ([]) false (gval bs e) = 0) = false := decide_eq_false hc
           simp only [go_sem,coe,zaa,Nat.reduceAdd,Nat.reduceSub,Nat.reduceMul,Int.reduceToNat,reduceCtorEq,↓reduceIte,Int.reducePow,Nat.reducePow,Int.reduceMod,Nat.reduceLeDiff,Int.reduceLE,Int.reduceNe,Int.reduceEq,Nat.reduceEqDiff,Nat.reduceLT,Nat.reduceBEq,ty,Srget,zcs,numS,zcr,errS,zfa,rd,fillS,recV,hN,hm1,c1,c2,i1,i2,i3,i4,i5,i6,i7,i8,x1,x2,x3,x4,x5,x6,hlen,q1,q2,q3,q4,h5,d4,hG,hV,d5]
     · have e5 : ¬ ge5 bs e = 0 := by first | exact h5 | (rw [x5]; exact h5)
       have d5 : decide (ge5 bs e = 0) = false := decide_eq_false h5
       have hG : gerr bs e = ge5 bs e := by unfold gerr; rw [if_pos e5]
       have hV : grec bs e = recV 0 0 false [] false [] := by unfold grec; rw [hG,if_neg h5]
       simp only [go_sem,coe,zaa,Nat.reduceAdd,Nat.reduceSub,Nat.reduceMul,Int.reduceToNat,reduceCtorEq,↓reduceIte,Int.reducePow,Nat.reducePow,Int.reduceMod,Nat.reduceLeDiff,Int.reduceLE,Int.reduceNe,Int.reduceEq,Nat.reduceEqDiff,Nat.reduceLT,Nat.reduceBEq,ty,Srget,zcs,numS,zcr,errS,zfa,rd,fillS,recV,hN,hm1,c1,c2,i1,i2,i3,i4,i5,i6,i7,i8,x1,x2,x3,x4,x5,x6,hlen,q1,q2,q3,q4,d5,hG,hV]
 · refine ⟨by simp,?_⟩
   unfold Try.f84
   have b1 : bits .and .u8 0 1 = 0 := by decide
   have b2 : bits .and .u8 0 2 = 0 := by decide
   simp only [go_sem,coe,zaa,Nat.reduceAdd,Nat.reduceSub,Nat.reduceMul,Int.reduceToNat,reduceCtorEq,↓reduceIte,Int.reducePow,Nat.reducePow,Int.reduceMod,Nat.reduceLeDiff,Int.reduceLE,Int.reduceNe,Int.reduceEq,Nat.reduceEqDiff,Nat.reduceLT,Nat.reduceBEq,ty,Srget,zcs,numS,zcr,errS,b1,b2,recV,fillS]
 · exact hp.elim
end
end Go.Proofs.Ytmedjkjoannbmaa
