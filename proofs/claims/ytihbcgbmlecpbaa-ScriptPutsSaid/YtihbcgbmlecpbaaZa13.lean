/- What the proofs of this seat stand on; it asks nothing. -/
import Derived.Test.YtihbcgbmlecpbaaZa12
set_option linter.unusedSimpArgs false
set_option linter.unusedVariables false
namespace Go.Proofs.Ytihbcgbmlecpbaa
open Ax
def gpR : Nat → List UInt8 → Option (List St)
 | _,[] => some []
 | 0,_ :: _ => none
 | n + 1,c :: r => if gtOk (rtS' 65536 (c :: r) 0) then (gpR n (rtL 65536 (c :: r) 0)).map (gtS (rtS' 65536 (c :: r) 0) :: ·) else none
def gpO (b : List UInt8) : Option (List St) := if 65536 < b.length then none else gpR 1000 b
def gtV (s : St) : AV := stP (s,emp s.q.b.rs,!decide (s.k = 4))
def gpX : Option (List St) → AV
 | some l => .tup [.sg 22 (l.map gtV) false,.w (.int .i64 0)]
 | none => .tup [.sg 1 [] true,.w (.int .i64 4)]
def getPS : zah
 | [.sb b fb],[] => ⟨b.length ≤ 1000000,gpX (gpO b),[]⟩
 | _,_ => zbc
theorem gpR_nil (n : Nat) : gpR n [] = some [] := by cases n <;> rfl
theorem gpR_zero {b : List UInt8} (h : b ≠ []) : gpR 0 b = none := by
 cases b with
 | nil => exact (h rfl).elim
 | cons c r => rfl
theorem gpR_bad (n : Nat) {b : List UInt8} (h : b ≠ []) (hg : ¬ gtOk (rtS' 65536 b 0)) : gpR n b = none := by
 cases b with
 | nil => exact (h rfl).elim
 | cons c r =>
   cases n with
   | zero => rfl
   | succ n => unfold gpR; rw [if_neg hg]
theorem gpR_good (n : Nat) {b : List UInt8} (h : b ≠ []) (hg : gtOk (rtS' 65536 b 0)) : gpR (n + 1) b = (gpR n (rtL 65536 b 0)).map (gtS (rtS' 65536 b 0) :: ·) := by
 cases b with
 | nil => exact (h rfl).elim
 | cons c r => conv => lhs; unfold gpR
               rw [if_pos hg]
theorem rt_sum (m : Int) (bs : List UInt8) (e : Int) : (rtS' m bs e).length + (rtL m bs e).length ≤ bs.length := by
 have h := zbs bs e
 unfold rtS' rtL
 split
 · unfold tkB tkL
   split
   · simp only [List.length_nil]; omega
   · rw [List.length_take,List.length_drop]; omega
 · simp only [List.length_nil]; omega
theorem rt_ok (m : Int) (bs : List UInt8) (e : Int) (h : rtS' m bs e ≠ []) : rtE m bs e = 0 := by
 unfold rtS' at h
 split at h
 · rename_i hk
   unfold tkB at h
   split at h
   · exact (h rfl).elim
   · rename_i hn
     unfold rtE
     rw [if_neg (fun g => g hk.1),if_pos hk]
     unfold tkE
     rw [if_neg hn]
 · exact (h rfl).elim
theorem closed_gtV : ∀ (G : List St),closedL (G.map gtV) = true
 | [] => rfl
 | x :: r => by
   have h := closed_gtV r
   simp only [List.map_cons,closedL,h,Bool.and_true]
   rfl
theorem ren_gtV (g : Nat → Nat) : ∀ (G : List St),renL g (G.map gtV) = G.map gtV
 | [] => rfl
 | x :: r => by simp only [List.map_cons,renL,ren_gtV g r]; rfl
theorem map_app_nil (o : Option (List St)) : o.map ([] ++ ·) = o := by cases o <;> rfl
theorem map_app_cons (acc : List St) (x : St) (o : Option (List St)) : (o.map (x :: ·)).map (acc ++ ·) = o.map ((acc ++ [x]) ++ ·) := by cases o <;> simp
def SgetP (f : FuncId) : Option zah :=
 match f with
 | 32 => some newS
 | 39 => some leftS
 | 40 => some zbf
 | 15 => some getTS
 | _ => none
theorem SgetP_ok : Fns Try.prog SgetP := by
 intro f s h
 unfold SgetP at h
 split at h
 · injection h with h; subst h; exact ⟨⟨_,Try.func32,by kernel_rfl,by kernel_rfl⟩,new_sound⟩
 · injection h with h; subst h; exact ⟨⟨_,Try.func39,by kernel_rfl,by kernel_rfl⟩,left_sound⟩
 · injection h with h; subst h; exact ⟨⟨_,Try.func40,by kernel_rfl,by kernel_rfl⟩,mtext_sound⟩
 · injection h with h; subst h; exact ⟨⟨_,Try.func15,by kernel_rfl,by kernel_rfl⟩,getT_sound⟩
 · cases h
section
set_option maxRecDepth 100000
set_option maxHeartbeats 16000000 in
theorem getP_sound : zas Try.prog 17 getPS := by
 refine zbj (S := SgetP) (T := ty) zau ty_ok SgetP_ok Try.func17 (c := Try.f17.body.getD .skip) (by kernel_rfl) (by kernel_rfl) (fun xs pins hp _ => ?_)
 unfold getPS at hp ⊢
 split at hp
 · rename_i b fb _
   have hb : b.length ≤ 1000000 := hp
   refine ⟨by simp,?_⟩
   have tk : ∀ l : List UInt8,List.take l.length l = l := fun l => List.take_length
   unfold Try.f17
   by_cases hbig : 65536 < b.length
   · have hO : gpO b = none := if_pos hbig
     have d1 : decide ((65536 : Int) < b.length) = true := decide_eq_true (by omega)
     rw [hO]
     simp only [go_sem,zaa,Nat.reduceAdd,Nat.reduceSub,Nat.reduceMul,Int.reduceToNat,reduceCtorEq,↓reduceIte,Int.reducePow,Nat.reducePow,Int.reduceMod,Nat.reduceLeDiff,Int.reduceLE,Int.reduceNe,Int.reduceEq,Nat.reduceEqDiff,Nat.reduceLT,Nat.reduceBEq,ty,SgetP,d1]
     refine ⟨_,Weak.refl _,?_⟩
     simp only [go_sem,zaa,Nat.reduceAdd,Nat.reduceSub,Nat.reduceMul,Int.reduceToNat,reduceCtorEq,↓reduceIte,Int.reducePow,Nat.reducePow,Int.reduceMod,Nat.reduceLeDiff,Int.reduceLE,Int.reduceNe,Int.reduceEq,Nat.reduceEqDiff,Nat.reduceLT,Nat.reduceBEq,ty,gpX]
   have hO : gpO b = gpR 1000 b := if_neg hbig
   have d1 : decide ((65536 : Int) < b.length) = false := decide_eq_false (by omega)
   simp only [go_sem,zaa,Nat.reduceAdd,Nat.reduceSub,Nat.reduceMul,Int.reduceToNat,reduceCtorEq,↓reduceIte,Int.reducePow,Nat.reducePow,Int.reduceMod,Nat.reduceLeDiff,Int.reduceLE,Int.reduceNe,Int.reduceEq,Nat.reduceEqDiff,Nat.reduceLT,Nat.reduceBEq,ty,SgetP,newS,rd,hb,d1]
   refine zdl ⟨fun mm σ => ∃ (acc : List St) (bs : List UInt8) (n : Nat),mm = bs.length ∧ bs.length ≤ b.length ∧ acc.length + n = 1000 ∧ gpO b = (gpR n bs).map (acc ++ ·) ∧
     σ = ⟨[.sb b fb,.junk,.sg 1 [] true,.w (.int .i64 0),.rf 4 2 0 0,.ms 5 22 0 acc.length,.junk,.junk,.junk,.junk,.junk,.junk,.junk,.junk,.junk,.junk,.junk,.junk,.junk,.junk,.junk,.junk,.junk,.junk,.junk,.junk,.junk,.junk,.junk,.junk,.junk,.junk,.junk,.junk,.junk],[(4,.g 2 [.agg [.sb bs false,.w (.int .i64 0)]]),(5,.g 22 (acc.map gtV))],6⟩,?_,?_⟩
   · refine ⟨_,_,(zem 5 22 (.g 22 []) ⟨by decide,rfl⟩ (by exact trivial)).trans (zag [0,1,2,3,52,76] rfl rfl rfl ?_ ?_),[],b,1000,rfl,Nat.le_refl _,rfl,hO.trans (map_app_nil _).symm,rfl⟩
     · simp only [ssT,zai,zaj,setSlot,gOf,AV.ren,renL,Blk.ren,Ax.look,Ax.put,reduceCtorEq,↓reduceIte,Nat.reduceEqDiff,Nat.reduceLT,Nat.reduceAdd,List.length_append,List.length_cons,List.length_nil,Option.some.injEq]; try simp
       try rfl
     · simp only [ssT,zai,zaj,setSlot,gOf,AV.ren,renL,Blk.ren,Ax.look,Ax.put,reduceCtorEq,↓reduceIte,Nat.reduceEqDiff,Nat.reduceLT,Nat.reduceAdd,List.length_append,List.length_cons,List.length_nil,Option.some.injEq]; try simp [renL]
   · rintro m' σ ⟨acc,bs,n,rfl,hbs,hn,hI,rfl⟩
     have hbs1 : bs.length ≤ 1000000 := by omega
     have hal : (acc.map gtV).length = acc.length := by simp
     by_cases hnil : bs = []
     · subst hnil
       rw [gpR_nil] at hI
       have hI : gpO b = some acc := by rw [hI]; simp
       have hdle : decide (0 + acc.length ≤ (acc.map gtV).length) = true := decide_eq_true (by omega)
       have htk : (acc.map gtV).take acc.length = acc.map gtV := List.take_of_length_le (by omega)
       have dz : decide ((0 : Int) < ((0 : Nat) : Int)) = false := by decide
       rw [hI]
       simp only [go_sem,zaa,Nat.reduceAdd,Nat.reduceSub,Nat.reduceMul,Int.reduceToNat,reduceCtorEq,↓reduceIte,Int.reducePow,Nat.reducePow,Int.reduceMod,Nat.reduceLeDiff,Int.reduceLE,Int.reduceNe,Int.reduceEq,Nat.reduceEqDiff,Nat.reduceLT,Nat.reduceBEq,ty,SgetP,leftS,rd,List.length_nil,dz]
       refine ⟨_,weak_fg 5 22 5 (acc.map gtV) rfl (closed_gtV acc) (by simp [slot,AV.ids]),?_⟩
       simp only [fgL,fgH,AV.fg,Blk.fg,Nat.reduceBEq,cond_true,cond_false,hdle,Bool.and_true,beq_self_eq_true,Bool.true_and,List.drop_zero,htk]
       simp only [go_sem,zaa,Nat.reduceAdd,Nat.reduceSub,Nat.reduceMul,Int.reduceToNat,reduceCtorEq,↓reduceIte,Int.reducePow,Nat.reducePow,Int.reduceMod,Nat.reduceLeDiff,Int.reduceLE,Int.reduceNe,Int.reduceEq,Nat.reduceEqDiff,Nat.reduceLT,Nat.reduceBEq,ty,SgetP,gpX]
       try (refine ⟨_,Weak.refl _,?_⟩; simp only [go_sem,zaa,Nat.reduceAdd,Nat.reduceSub,Nat.reduceMul,Int.reduceToNat,reduceCtorEq,↓reduceIte,Int.reducePow,Nat.reducePow,Int.reduceMod,Nat.reduceLeDiff,Int.reduceLE,Int.reduceNe,Int.reduceEq,Nat.reduceEqDiff,Nat.reduceLT,Nat.reduceBEq,ty,gpX])
     have hpos : 0 < bs.length := by
       rcases Nat.eq_zero_or_pos bs.length with h | h
       · exact (hnil (List.length_eq_zero_iff.1 h)).elim
       · exact h
     have d2 : decide ((0 : Int) < bs.length) = true := decide_eq_true (by omega)
     have hsum := rt_sum 65536 bs 0
     have hok := rt_ok 65536 bs 0
     have hbad := gpR_bad n hnil
     have hzero := gpR_zero hnil
     have hgood := fun n => gpR_good n hnil
     obtain ⟨S,hS⟩ : ∃ S,rtS' 65536 bs 0 = S := ⟨_,rfl⟩
     obtain ⟨L,hL⟩ : ∃ L,rtL 65536 bs 0 = L := ⟨_,rfl⟩
     obtain ⟨E,hE⟩ : ∃ E,rtE 65536 bs 0 = E := ⟨_,rfl⟩
     rw [hS] at hsum hok hbad hgood
     rw [hL] at hsum hgood
     rw [hE] at hok
     have hSl : S.length ≤ 1000000 := by omega
     obtain ⟨s,hM⟩ : ∃ s,gtS S = s := ⟨_,rfl⟩
     have hA : gtA S = .agg [.w (.int .u8 s.k),.w (.int .u8 s.q.k),.str s.q.t,.w (.int .i64 s.q.i),.w (.int .i64 s.q.p),.w (.bool s.q.c),.w (.bool s.q.f),.w (.int .i64 s.q.o),.w (.int .i64 s.q.m),.w (.int .i64 s.q.w),.str s.q.g,.str s.q.mb,.w (.int .i64 s.q.n),.w (.int .i64 s.q.b.b),.w (.int .i64 s.q.b.c),.w (.int .i64 s.q.b.p),.w (.int .i64 s.q.b.e),.w (.int .i64 s.q.b.s),.sg 6 (s.q.b.rs.map rv) (emp s.q.b.rs),.w (.int .i64 s.N),.w (.bool s.D),.sb s.ft (!decide (s.k = 4))] := by unfold gtA; rw [hM]; rfl
     have hcl := zbp s.q.b.rs
     by_cases hg : gtOk S
     · have hg4 : (if gtOk S then (0 : Int) else 4) = 0 := if_pos hg
       have hSn : S ≠ [] := hg.1
       have hE0 : E = 0 := hok hSn
       have hSpos : 0 < S.length := by
         rcases Nat.eq_zero_or_pos S.length with h | h
         · exact (hSn (List.length_eq_zero_iff.1 h)).elim
         · exact h
       cases n with
       | zero =>
         have d3 : decide ((1000 : Int) ≤ acc.length) = true := decide_eq_true (by omega)
         rw [hzero] at hI
         have hI : gpO b = none := hI
         rw [hI]
         simp only [go_sem,zaa,Nat.reduceAdd,Nat.reduceSub,Nat.reduceMul,Int.reduceToNat,reduceCtorEq,↓reduceIte,Int.reducePow,Nat.reducePow,Int.reduceMod,Nat.reduceLeDiff,Int.reduceLE,Int.reduceNe,Int.reduceEq,Nat.reduceEqDiff,Nat.reduceLT,Nat.reduceBEq,ty,SgetP,leftS,zbf,getTS,rd,hbs1,hal,d2,d3,hS,hL,hE,hSl,hA,hg4,tk]
         repeat (refine And.intro (by first | omega | (unfold top; omega) | decide) ?_)
         refine ⟨_,Weak.refl _,?_⟩
         simp only [go_sem,zaa,Nat.reduceAdd,Nat.reduceSub,Nat.reduceMul,Int.reduceToNat,reduceCtorEq,↓reduceIte,Int.reducePow,Nat.reducePow,Int.reduceMod,Nat.reduceLeDiff,Int.reduceLE,Int.reduceNe,Int.reduceEq,Nat.reduceEqDiff,Nat.reduceLT,Nat.reduceBEq,ty,gpX]
         refine ⟨_,Weak.refl _,?_⟩
         simp only [go_sem,zaa,Nat.reduceAdd,Nat.reduceSub,Nat.reduceMul,Int.reduceToNat,reduceCtorEq,↓reduceIte,Int.reducePow,Nat.reducePow,Int.reduceMod,Nat.reduceLeDiff,Int.reduceLE,Int.reduceNe,Int.reduceEq,Nat.reduceEqDiff,Nat.reduceLT,Nat.reduceBEq,ty,gpX]
       | succ n =>
         have d3 : decide ((1000 : Int) ≤ acc.length) = false := decide_eq_false (by omega)
         rw [hgood n hg,hM,map_app_cons] at hI
         have hat : (acc.map gtV) ++ [.agg [.w (.int .u8 s.k),.w (.int .u8 s.q.k),.str s.q.t,.w (.int .i64 s.q.i),.w (.int .i64 s.q.p),.w (.bool s.q.c),.w (.bool s.q.f),.w (.int .i64 s.q.o),.w (.int .i64 s.q.m),.w (.int .i64 s.q.w),.str s.q.g,.str s.q.mb,.w (.int .i64 s.q.n),.w (.int .i64 s.q.b.b),.w (.int .i64 s.q.b.c),.w (.int .i64 s.q.b.p),.w (.int .i64 s.q.b.e),.w (.int .i64 s.q.b.s),.sg 6 (s.q.b.rs.map rv) (emp s.q.b.rs),.w (.int .i64 s.N),.w (.bool s.D),.sb s.ft (!decide (s.k = 4))]] = (acc ++ [s]).map gtV := by rw [List.map_append]; rfl
         simp only [go_sem,zaa,Nat.reduceAdd,Nat.reduceSub,Nat.reduceMul,Int.reduceToNat,reduceCtorEq,↓reduceIte,Int.reducePow,Nat.reducePow,Int.reduceMod,Nat.reduceLeDiff,Int.reduceLE,Int.reduceNe,Int.reduceEq,Nat.reduceEqDiff,Nat.reduceLT,Nat.reduceBEq,ty,SgetP,leftS,zbf,getTS,rd,hbs1,hal,d2,d3,hS,hL,hE,hSl,hA,hg4,hE0,hcl,tk,Int.toNat_natCast]
         repeat (refine And.intro (by first | omega | (unfold top; omega) | decide) ?_)
         refine ⟨L.length,_,by omega,zag [0,1,2,3,4,190] rfl rfl rfl ?_ ?_,acc ++ [s],L,n,rfl,by omega,by simp; omega,hI,rfl⟩
         · simp only [ssT,zai,zaj,setSlot,gOf,AV.ren,renL,Blk.ren,Ax.look,Ax.put,reduceCtorEq,↓reduceIte,Nat.reduceEqDiff,Nat.reduceLT,Nat.reduceAdd,List.length_append,List.length_cons,List.length_nil,Option.some.injEq]; try simp
         · simp only [ssT,zai,zaj,setSlot,gOf,AV.ren,renL,Blk.ren,Ax.look,Ax.put,reduceCtorEq,↓reduceIte,Nat.reduceEqDiff,Nat.reduceLT,Nat.reduceAdd,List.length_append,List.length_cons,List.length_nil,Option.some.injEq,hat,ren_gtV]; try simp
     · have hg4 : (if gtOk S then (0 : Int) else 4) = 4 := if_neg hg
       rw [hbad hg] at hI
       have hI : gpO b = none := hI
       rw [hI]
       simp only [go_sem,zaa,Nat.reduceAdd,Nat.reduceSub,Nat.reduceMul,Int.reduceToNat,reduceCtorEq,↓reduceIte,Int.reducePow,Nat.reducePow,Int.reduceMod,Nat.reduceLeDiff,Int.reduceLE,Int.reduceNe,Int.reduceEq,Nat.reduceEqDiff,Nat.reduceLT,Nat.reduceBEq,ty,SgetP,leftS,zbf,getTS,rd,hbs1,hal,d2,hS,hL,hE,hSl,hA,hg4,tk]
       repeat (refine And.intro (by first | omega | (unfold top; omega) | decide) ?_)
       refine ⟨_,Weak.refl _,?_⟩
       simp only [go_sem,zaa,Nat.reduceAdd,Nat.reduceSub,Nat.reduceMul,Int.reduceToNat,reduceCtorEq,↓reduceIte,Int.reducePow,Nat.reducePow,Int.reduceMod,Nat.reduceLeDiff,Int.reduceLE,Int.reduceNe,Int.reduceEq,Nat.reduceEqDiff,Nat.reduceLT,Nat.reduceBEq,ty,gpX]
       refine ⟨_,Weak.refl _,?_⟩
       simp only [go_sem,zaa,Nat.reduceAdd,Nat.reduceSub,Nat.reduceMul,Int.reduceToNat,reduceCtorEq,↓reduceIte,Int.reducePow,Nat.reducePow,Int.reduceMod,Nat.reduceLeDiff,Int.reduceLE,Int.reduceNe,Int.reduceEq,Nat.reduceEqDiff,Nat.reduceLT,Nat.reduceBEq,ty,gpX]
 · exact hp.elim
end
end Go.Proofs.Ytihbcgbmlecpbaa
namespace Go.Proofs.Ytihbcgbmlecpbaa
open Ax
def putPS : zah
 | [.sg 22 xs fl],[] => ⟨xs.length ≤ 9223372036854775807 ∧ ∃ es : List (St × Bool × Bool),xs = es.map stP ∧ ∀ p ∈ es,fitS p.1,.tup [.ms 0 1 0 (putP (xs.map ust)).length,.w (.int .i64 (chkP (xs.map ust)))],[.b (putP (xs.map ust))]⟩
 | _,_ => zbc
theorem chkP_long {l : List St} (h : 1000 < l.length) : chkP l = 5 := if_pos h
theorem chkP_err {l : List St} (h : ¬ 1000 < l.length) (h2 : errP l ≠ 0) : chkP l = errP l := by unfold chkP; rw [if_neg h,if_pos h2]
theorem chkP_big {l : List St} (h : ¬ 1000 < l.length) (h2 : errP l = 0) (h3 : 65536 < (layP l).length) : chkP l = 5 := by unfold chkP; rw [if_neg h,if_neg (fun g => g h2),if_pos h3]
theorem chkP_ok {l : List St} (h : ¬ 1000 < l.length) (h2 : errP l = 0) (h3 : ¬ 65536 < (layP l).length) : chkP l = 0 := by unfold chkP; rw [if_neg h,if_neg (fun g => g h2),if_neg h3]
theorem errP_cons {s : St} {r : List St} : errP (s :: r) = if chkS s = 0 then errP r else chkS s := rfl
def SputP (f : FuncId) : Option zah :=
 match f with
 | 8 => some zdp
 | 30 => some zbt
 | _ => none
theorem SputP_ok : Fns Try.prog SputP := by
 intro f s h
 unfold SputP at h
 split at h
 · injection h with h; subst h; exact ⟨⟨_,Try.func8,by kernel_rfl,by kernel_rfl⟩,putT_sound⟩
 · injection h with h; subst h; exact ⟨⟨_,Try.func30,by kernel_rfl,by kernel_rfl⟩,text_sound⟩
 · cases h
section
set_option maxRecDepth 100000
set_option maxHeartbeats 16000000 in
theorem putP_sound : zas Try.prog 12 putPS := by
 refine zbj (S := SputP) (T := ty) zau ty_ok SputP_ok Try.func12 (c := Try.f12.body.getD .skip) (by kernel_rfl) (by kernel_rfl) (fun xs pins hp _ => ?_)
 unfold putPS at hp ⊢
 split at hp
 · rename_i xs fl _
   obtain ⟨hL,es,rfl,hfit⟩ := hp
   rw [map_ust]
   refine ⟨by simp,?_⟩
   have hll : (es.map stP).length = es.length := by simp
   rw [hll] at hL
   have hlf : (es.map Prod.fst).length = es.length := by simp
   obtain ⟨l,hl⟩ : ∃ l,es.map Prod.fst = l := ⟨_,rfl⟩
   have tk : ∀ l : List UInt8,List.take l.length l = l := fun l => List.take_length
   rw [hl] at hlf ⊢
   unfold Try.f12
   by_cases h1000 : 1000 < l.length
   · have hC := chkP_long h1000
     have hB : putP l = [] := if_neg (by rw [hC]; decide)
     have d1 : decide ((1000 : Int) < es.length) = true := decide_eq_true (by omega)
     rw [hB,hC]
     simp only [go_sem,zaa,Nat.reduceAdd,Nat.reduceSub,Nat.reduceMul,Int.reduceToNat,reduceCtorEq,↓reduceIte,Int.reducePow,Nat.reducePow,Int.reduceMod,Nat.reduceLeDiff,Int.reduceLE,Int.reduceNe,Int.reduceEq,Nat.reduceEqDiff,Nat.reduceLT,Nat.reduceBEq,ty,SputP,hll,d1]
     exact zaq 2 3 (by decide) rfl rfl rfl rfl
   have d1 : decide ((1000 : Int) < es.length) = false := decide_eq_false (by omega)
   simp only [go_sem,zaa,Nat.reduceAdd,Nat.reduceSub,Nat.reduceMul,Int.reduceToNat,reduceCtorEq,↓reduceIte,Int.reducePow,Nat.reducePow,Int.reduceMod,Nat.reduceLeDiff,Int.reduceLE,Int.reduceNe,Int.reduceEq,Nat.reduceEqDiff,Nat.reduceLT,Nat.reduceBEq,ty,SputP,hll,d1]
   refine zdl ⟨fun mm σ => ∃ j : Nat,mm = es.length - j ∧ j ≤ es.length ∧ errP (l.take j) = 0 ∧
     σ = ⟨[.sg 22 (es.map stP) fl,.junk,.sg 1 [] true,.w (.int .i64 0),.ms 4 1 0 (layP (l.take j)).length,.junk,.junk,.junk,.junk,.junk,.junk,.junk,.sg 22 (es.map stP) fl,.w (.int .i64 es.length),.w (.int .i64 j),.junk,.junk,.junk,.junk,.junk,.junk,.junk,.junk,.junk,.junk,.junk,.junk,.junk,.junk,.junk,.junk,.junk,.junk,.junk,.junk,.junk],[(4,.b (layP (l.take j)))],5⟩,?_,?_⟩
   · refine ⟨_,_,(zem 4 1 (.b []) rfl (by exact trivial)).trans (zag [0,1,2,3,76] rfl rfl rfl ?_ ?_),0,rfl,by omega,rfl,rfl⟩
     · simp only [ssT,zai,zaj,setSlot,gOf,AV.ren,renL,Blk.ren,Ax.look,Ax.put,reduceCtorEq,↓reduceIte,Nat.reduceEqDiff,Nat.reduceLT,Nat.reduceAdd,List.length_append,List.length_cons,List.length_nil,Option.some.injEq]; try simp
       try rfl
     · simp only [ssT,zai,zaj,setSlot,gOf,AV.ren,renL,Blk.ren,Ax.look,Ax.put,reduceCtorEq,↓reduceIte,Nat.reduceEqDiff,Nat.reduceLT,Nat.reduceAdd,List.length_append,List.length_cons,List.length_nil,Option.some.injEq]; try simp
       try rfl
   · rintro m' σ ⟨j,rfl,hj,hE,rfl⟩
     have hfl : ∀ s ∈ l.take j,fitS s := by
       intro s hs
       have := List.mem_of_mem_take hs
       rw [← hl] at this
       obtain ⟨p,hp,rfl⟩ := List.mem_map.1 this
       exact hfit p hp
     have hsz := layP_small (l.take j) hE hfl
     have hsz : (layP (l.take j)).length ≤ 60000000 := by rw [List.length_take] at hsz; omega
     by_cases hjl : j < es.length
     · have d2 : decide ((j : Int) < es.length) = true := decide_eq_true (by omega)
       have e1 : ((j : Int) + 1 + 9223372036854775808) % 18446744073709551616 - 9223372036854775808 = ((j + 1 : Nat) : Int) := by omega
       have hjl' : j < l.length := by omega
       have hlj : l[j] = es[j].1 := by subst hl; simp
       have hfs : fitS es[j].1 := hfit es[j] (List.getElem_mem hjl)
       have hdr := errP_drop l j hjl' hE
       rw [List.drop_eq_getElem_cons hjl',hlj] at hdr
       have htake : layP (l.take (j + 1)) = layP (l.take j) ++ zbg (layS es[j].1) := by
         rw [List.take_succ_eq_append_getElem hjl',hlj]; unfold layP; rw [List.flatMap_append]; simp
       have hEn : chkS es[j].1 = 0 → errP (l.take (j + 1)) = 0 := by
         intro h
         rw [List.take_succ_eq_append_getElem hjl',hlj]
         exact errP_snoc _ _ hE h
       have hs : slot (es.map stP) j = stP es[j] := slot_stP es j hjl
       obtain ⟨⟨s,f1,f2⟩,hx⟩ : ∃ x,es[j] = x := ⟨_,rfl⟩
       rw [hx] at hs hfs hdr htake hEn
       simp only at hfs hdr htake hEn
       have hs : slot (es.map stP) j = .agg [.w (.int .u8 s.k),.w (.int .u8 s.q.k),.str s.q.t,.w (.int .i64 s.q.i),.w (.int .i64 s.q.p),.w (.bool s.q.c),.w (.bool s.q.f),.w (.int .i64 s.q.o),.w (.int .i64 s.q.m),.w (.int .i64 s.q.w),.str s.q.g,.str s.q.mb,.w (.int .i64 s.q.n),.w (.int .i64 s.q.b.b),.w (.int .i64 s.q.b.c),.w (.int .i64 s.q.b.p),.w (.int .i64 s.q.b.e),.w (.int .i64 s.q.b.s),.sg 6 (s.q.b.rs.map rv) f1,.w (.int .i64 s.N),.w (.bool s.D),.sb s.ft f2] := hs
       obtain ⟨⟨hk0,hk1⟩,⟨⟨hq0,hq1⟩,lq,iq,h40⟩,hN,hft⟩ := hfs
       have h40 : (s.q.b.rs.map rv).length ≤ 40 := by rw [List.length_map]; exact h40
       have hex : ∃ qs : List Rec,s.q.b.rs.map rv = qs.map rv := ⟨s.q.b.rs,rfl⟩
       have hmr := zae s.q.b.rs
       have hcl := zbp s.q.b.rs
       obtain ⟨C,hC⟩ : ∃ C,chkS s = C := ⟨_,rfl⟩
       have hC' : chkT s.k s.q.k s.q.t s.q.i s.q.p s.q.c s.q.f s.q.o s.q.m s.q.w s.q.g s.q.mb s.q.n s.q.b.b s.q.b.c s.q.b.p s.q.b.e s.q.b.s s.q.b.rs s.N s.D s.ft = C := hC
       obtain ⟨W,hW⟩ : ∃ W,putS27 s = W := ⟨_,rfl⟩
       have hW' : putT s.k s.q.k s.q.t s.q.i s.q.p s.q.c s.q.f s.q.o s.q.m s.q.w s.q.g s.q.mb s.q.n s.q.b.b s.q.b.c s.q.b.p s.q.b.e s.q.b.s s.q.b.rs s.N s.D s.ft = W := hW
       by_cases hc : C = 0
       · subst hc
         have d3 : decide ((0 : Int) = 0) = true := rfl
         have hWl : layS s = W := (putS_lay hC).symm.trans hW
         have hWs : W.length ≤ 1000000 := by rw [← hWl]; have := layS_small hC ⟨⟨hk0,hk1⟩,⟨⟨hq0,hq1⟩,lq,iq,by rw [List.length_map] at h40; exact h40⟩,hN,hft⟩; omega
         have hTs := zat W hWs
         rw [hWl] at htake
         simp only [go_sem,zaa,Nat.reduceAdd,Nat.reduceSub,Nat.reduceMul,Int.reduceToNat,reduceCtorEq,↓reduceIte,Int.reducePow,Nat.reducePow,Int.reduceMod,Nat.reduceLeDiff,Int.reduceLE,Int.reduceNe,Int.reduceEq,Nat.reduceEqDiff,Nat.reduceLT,Nat.reduceBEq,ty,SputP,zdp,zbt,hll,d2,hs,hjl,hk0,hk1,hq0,hq1,lq,iq,hN,hft,h40,hex,hmr,hcl,hC',hW',d3,e1,hWs,tk,Int.toNat_natCast]
         repeat (refine And.intro (by first | omega | (unfold top; omega) | decide) ?_)
         refine ⟨es.length - (j + 1),_,by omega,zag [0,1,2,3,149] rfl rfl rfl ?_ ?_,j + 1,rfl,by omega,hEn hC,rfl⟩
         · simp only [ssT,zai,zaj,setSlot,gOf,AV.ren,renL,Blk.ren,Ax.look,Ax.put,reduceCtorEq,↓reduceIte,Nat.reduceEqDiff,Nat.reduceLT,Nat.reduceAdd,List.length_append,List.length_cons,List.length_nil,Option.some.injEq,htake]; try simp
         · simp only [ssT,zai,zaj,setSlot,gOf,AV.ren,renL,Blk.ren,Ax.look,Ax.put,reduceCtorEq,↓reduceIte,Nat.reduceEqDiff,Nat.reduceLT,Nat.reduceAdd,List.length_append,List.length_cons,List.length_nil,Option.some.injEq,htake]; try simp
       · have d3 : decide (C = 0) = false := decide_eq_false hc
         have hEl : errP l = C := by rw [← hdr,errP_cons,if_neg (by rw [hC]; exact hc),hC]
         have hCC := chkP_err h1000 (by rw [hEl]; exact hc)
         rw [hEl] at hCC
         have hB : putP l = [] := if_neg (by rw [hCC]; exact hc)
         rw [hB,hCC]
         simp only [go_sem,zaa,Nat.reduceAdd,Nat.reduceSub,Nat.reduceMul,Int.reduceToNat,reduceCtorEq,↓reduceIte,Int.reducePow,Nat.reducePow,Int.reduceMod,Nat.reduceLeDiff,Int.reduceLE,Int.reduceNe,Int.reduceEq,Nat.reduceEqDiff,Nat.reduceLT,Nat.reduceBEq,ty,SputP,zdp,zbt,hll,d2,hs,hjl,hk0,hk1,hq0,hq1,lq,iq,hN,hft,h40,hex,hmr,hcl,hC',hW',d3,e1,tk,Int.toNat_natCast]
         repeat (refine And.intro (by first | omega | (unfold top; omega) | decide) ?_)
         refine ⟨_,Weak.refl _,?_⟩
         simp only [go_sem,zaa,Nat.reduceAdd,Nat.reduceSub,Nat.reduceMul,Int.reduceToNat,reduceCtorEq,↓reduceIte,Int.reducePow,Nat.reducePow,Int.reduceMod,Nat.reduceLeDiff,Int.reduceLE,Int.reduceNe,Int.reduceEq,Nat.reduceEqDiff,Nat.reduceLT,Nat.reduceBEq,ty,SputP]
         exact zaq 2 3 (by decide) rfl rfl rfl rfl
     · obtain rfl : j = es.length := by omega
       have d2 : decide ((es.length : Int) < es.length) = false := decide_eq_false (by omega)
       rw [← hlf,List.take_length] at hE hsz ⊢
       rw [hlf]
       by_cases hbig : 65536 < (layP l).length
       · have hC := chkP_big h1000 hE hbig
         have hB : putP l = [] := if_neg (by rw [hC]; decide)
         have d3 : decide ((65536 : Int) < (layP l).length) = true := decide_eq_true (by omega)
         rw [hB,hC]
         simp only [go_sem,zaa,Nat.reduceAdd,Nat.reduceSub,Nat.reduceMul,Int.reduceToNat,reduceCtorEq,↓reduceIte,Int.reducePow,Nat.reducePow,Int.reduceMod,Nat.reduceLeDiff,Int.reduceLE,Int.reduceNe,Int.reduceEq,Nat.reduceEqDiff,Nat.reduceLT,Nat.reduceBEq,ty,SputP,hll,d2,d3]
         refine ⟨_,Weak.refl _,?_⟩
         simp only [go_sem,zaa,Nat.reduceAdd,Nat.reduceSub,Nat.reduceMul,Int.reduceToNat,reduceCtorEq,↓reduceIte,Int.reducePow,Nat.reducePow,Int.reduceMod,Nat.reduceLeDiff,Int.reduceLE,Int.reduceNe,Int.reduceEq,Nat.reduceEqDiff,Nat.reduceLT,Nat.reduceBEq,ty,SputP,hll,d2,d3]
         exact zaq 2 3 (by decide) rfl rfl rfl rfl
       · have hC := chkP_ok h1000 hE hbig
         have hB : putP l = layP l := if_pos hC
         have d3 : decide ((65536 : Int) < (layP l).length) = false := decide_eq_false (by omega)
         rw [hB,hC]
         simp only [go_sem,zaa,Nat.reduceAdd,Nat.reduceSub,Nat.reduceMul,Int.reduceToNat,reduceCtorEq,↓reduceIte,Int.reducePow,Nat.reducePow,Int.reduceMod,Nat.reduceLeDiff,Int.reduceLE,Int.reduceNe,Int.reduceEq,Nat.reduceEqDiff,Nat.reduceLT,Nat.reduceBEq,ty,SputP,hll,d2,d3]
         refine ⟨_,Weak.refl _,?_⟩
         simp only [go_sem,zaa,Nat.reduceAdd,Nat.reduceSub,Nat.reduceMul,Int.reduceToNat,reduceCtorEq,↓reduceIte,Int.reducePow,Nat.reducePow,Int.reduceMod,Nat.reduceLeDiff,Int.reduceLE,Int.reduceNe,Int.reduceEq,Nat.reduceEqDiff,Nat.reduceLT,Nat.reduceBEq,ty,SputP,hll,d2,d3]
         exact zap 2 3 (by decide) rfl rfl rfl rfl rfl rfl
 · exact hp.elim
end
def SrputP (f : FuncId) : Option zah :=
 match f with
 | 9 => some zdp
 | 31 => some zbt
 | _ => none
theorem SrputP_ok : Fns Try.prog SrputP := by
 intro f s h
 unfold SrputP at h
 split at h
 · injection h with h; subst h; exact ⟨⟨_,Try.func9,by kernel_rfl,by kernel_rfl⟩,rputT_sound⟩
 · injection h with h; subst h; exact ⟨⟨_,Try.func31,by kernel_rfl,by kernel_rfl⟩,rtext_sound⟩
 · cases h
section
set_option maxRecDepth 100000
set_option maxHeartbeats 16000000 in
theorem rputP_sound : zas Try.prog 14 putPS := by
 refine zbj (S := SrputP) (T := ty) zau ty_ok SrputP_ok Try.func14 (c := Try.f14.body.getD .skip) (by kernel_rfl) (by kernel_rfl) (fun xs pins hp _ => ?_)
 unfold putPS at hp ⊢
 split at hp
 · rename_i xs fl _
   obtain ⟨hL,es,rfl,hfit⟩ := hp
   rw [map_ust]
   refine ⟨by simp,?_⟩
   have hll : (es.map stP).length = es.length := by simp
   rw [hll] at hL
   have hlf : (es.map Prod.fst).length = es.length := by simp
   obtain ⟨l,hl⟩ : ∃ l,es.map Prod.fst = l := ⟨_,rfl⟩
   have tk : ∀ l : List UInt8,List.take l.length l = l := fun l => List.take_length
   rw [hl] at hlf ⊢
   unfold Try.f14
   by_cases h1000 : 1000 < l.length
   · have hC := chkP_long h1000
     have hB : putP l = [] := if_neg (by rw [hC]; decide)
     have d1 : decide ((1000 : Int) < es.length) = true := decide_eq_true (by omega)
     rw [hB,hC]
     simp only [go_sem,zaa,Nat.reduceAdd,Nat.reduceSub,Nat.reduceMul,Int.reduceToNat,reduceCtorEq,↓reduceIte,Int.reducePow,Nat.reducePow,Int.reduceMod,Nat.reduceLeDiff,Int.reduceLE,Int.reduceNe,Int.reduceEq,Nat.reduceEqDiff,Nat.reduceLT,Nat.reduceBEq,ty,SrputP,hll,d1]
     exact zaq 2 3 (by decide) rfl rfl rfl rfl
   have d1 : decide ((1000 : Int) < es.length) = false := decide_eq_false (by omega)
   simp only [go_sem,zaa,Nat.reduceAdd,Nat.reduceSub,Nat.reduceMul,Int.reduceToNat,reduceCtorEq,↓reduceIte,Int.reducePow,Nat.reducePow,Int.reduceMod,Nat.reduceLeDiff,Int.reduceLE,Int.reduceNe,Int.reduceEq,Nat.reduceEqDiff,Nat.reduceLT,Nat.reduceBEq,ty,SrputP,hll,d1]
   refine zdl ⟨fun mm σ => ∃ j : Nat,mm = es.length - j ∧ j ≤ es.length ∧ errP (l.take j) = 0 ∧
     σ = ⟨[.sg 22 (es.map stP) fl,.junk,.sg 1 [] true,.w (.int .i64 0),.ms 4 1 0 (layP (l.take j)).length,.w (.int .i64 j),.junk,.junk,.junk,.junk,.junk,.junk,.junk,.junk,.junk,.junk,.junk,.junk,.junk,.junk,.junk,.junk,.junk,.junk,.junk,.junk,.junk,.junk,.junk,.junk,.junk,.junk,.junk,.junk,.junk,.junk,.junk],[(4,.b (layP (l.take j)))],5⟩,?_,?_⟩
   · refine ⟨_,_,(zem 4 1 (.b []) rfl (by exact trivial)).trans (zag [0,1,2,3,60] rfl rfl rfl ?_ ?_),0,rfl,by omega,rfl,rfl⟩
     · simp only [ssT,zai,zaj,setSlot,gOf,AV.ren,renL,Blk.ren,Ax.look,Ax.put,reduceCtorEq,↓reduceIte,Nat.reduceEqDiff,Nat.reduceLT,Nat.reduceAdd,List.length_append,List.length_cons,List.length_nil,Option.some.injEq]; try simp
       try rfl
     · simp only [ssT,zai,zaj,setSlot,gOf,AV.ren,renL,Blk.ren,Ax.look,Ax.put,reduceCtorEq,↓reduceIte,Nat.reduceEqDiff,Nat.reduceLT,Nat.reduceAdd,List.length_append,List.length_cons,List.length_nil,Option.some.injEq]; try simp
       try rfl
   · rintro m' σ ⟨j,rfl,hj,hE,rfl⟩
     have hfl : ∀ s ∈ l.take j,fitS s := by
       intro s hs
       have := List.mem_of_mem_take hs
       rw [← hl] at this
       obtain ⟨p,hp,rfl⟩ := List.mem_map.1 this
       exact hfit p hp
     have hsz := layP_small (l.take j) hE hfl
     have hsz : (layP (l.take j)).length ≤ 60000000 := by rw [List.length_take] at hsz; omega
     by_cases hjl : j < es.length
     · have d2 : decide ((j : Int) < es.length) = true := decide_eq_true (by omega)
       have e1 : ((j : Int) + 1 + 9223372036854775808) % 18446744073709551616 - 9223372036854775808 = ((j + 1 : Nat) : Int) := by omega
       have hjl' : j < l.length := by omega
       have hlj : l[j] = es[j].1 := by subst hl; simp
       have hfs : fitS es[j].1 := hfit es[j] (List.getElem_mem hjl)
       have hdr := errP_drop l j hjl' hE
       rw [List.drop_eq_getElem_cons hjl',hlj] at hdr
       have htake : layP (l.take (j + 1)) = layP (l.take j) ++ zbg (layS es[j].1) := by
         rw [List.take_succ_eq_append_getElem hjl',hlj]; unfold layP; rw [List.flatMap_append]; simp
       have hEn : chkS es[j].1 = 0 → errP (l.take (j + 1)) = 0 := by
         intro h
         rw [List.take_succ_eq_append_getElem hjl',hlj]
         exact errP_snoc _ _ hE h
       have hs : slot (es.map stP) j = stP es[j] := slot_stP es j hjl
       obtain ⟨⟨s,f1,f2⟩,hx⟩ : ∃ x,es[j] = x := ⟨_,rfl⟩
       rw [hx] at hs hfs hdr htake hEn
       simp only at hfs hdr htake hEn
       have hs : slot (es.map stP) j = .agg [.w (.int .u8 s.k),.w (.int .u8 s.q.k),.str s.q.t,.w (.int .i64 s.q.i),.w (.int .i64 s.q.p),.w (.bool s.q.c),.w (.bool s.q.f),.w (.int .i64 s.q.o),.w (.int .i64 s.q.m),.w (.int .i64 s.q.w),.str s.q.g,.str s.q.mb,.w (.int .i64 s.q.n),.w (.int .i64 s.q.b.b),.w (.int .i64 s.q.b.c),.w (.int .i64 s.q.b.p),.w (.int .i64 s.q.b.e),.w (.int .i64 s.q.b.s),.sg 6 (s.q.b.rs.map rv) f1,.w (.int .i64 s.N),.w (.bool s.D),.sb s.ft f2] := hs
       obtain ⟨⟨hk0,hk1⟩,⟨⟨hq0,hq1⟩,lq,iq,h40⟩,hN,hft⟩ := hfs
       have h40 : (s.q.b.rs.map rv).length ≤ 40 := by rw [List.length_map]; exact h40
       have hex : ∃ qs : List Rec,s.q.b.rs.map rv = qs.map rv := ⟨s.q.b.rs,rfl⟩
       have hmr := zae s.q.b.rs
       have hcl := zbp s.q.b.rs
       obtain ⟨C,hC⟩ : ∃ C,chkS s = C := ⟨_,rfl⟩
       have hC' : chkT s.k s.q.k s.q.t s.q.i s.q.p s.q.c s.q.f s.q.o s.q.m s.q.w s.q.g s.q.mb s.q.n s.q.b.b s.q.b.c s.q.b.p s.q.b.e s.q.b.s s.q.b.rs s.N s.D s.ft = C := hC
       obtain ⟨W,hW⟩ : ∃ W,putS27 s = W := ⟨_,rfl⟩
       have hW' : putT s.k s.q.k s.q.t s.q.i s.q.p s.q.c s.q.f s.q.o s.q.m s.q.w s.q.g s.q.mb s.q.n s.q.b.b s.q.b.c s.q.b.p s.q.b.e s.q.b.s s.q.b.rs s.N s.D s.ft = W := hW
       by_cases hc : C = 0
       · subst hc
         have d3 : decide ((0 : Int) = 0) = true := rfl
         have hWl : layS s = W := (putS_lay hC).symm.trans hW
         have hWs : W.length ≤ 1000000 := by rw [← hWl]; have := layS_small hC ⟨⟨hk0,hk1⟩,⟨⟨hq0,hq1⟩,lq,iq,by rw [List.length_map] at h40; exact h40⟩,hN,hft⟩; omega
         have hTs := zat W hWs
         rw [hWl] at htake
         simp only [go_sem,zaa,Nat.reduceAdd,Nat.reduceSub,Nat.reduceMul,Int.reduceToNat,reduceCtorEq,↓reduceIte,Int.reducePow,Nat.reducePow,Int.reduceMod,Nat.reduceLeDiff,Int.reduceLE,Int.reduceNe,Int.reduceEq,Nat.reduceEqDiff,Nat.reduceLT,Nat.reduceBEq,ty,SrputP,zdp,zbt,hll,d2,hs,hjl,hk0,hk1,hq0,hq1,lq,iq,hN,hft,h40,hex,hmr,hcl,hC',hW',d3,e1,hWs,tk,Int.toNat_natCast]
         repeat (refine And.intro (by first | omega | (unfold top; omega) | decide) ?_)
         refine ⟨es.length - (j + 1),_,by omega,zag [0,1,2,3,165] rfl rfl rfl ?_ ?_,j + 1,rfl,by omega,hEn hC,rfl⟩
         · simp only [ssT,zai,zaj,setSlot,gOf,AV.ren,renL,Blk.ren,Ax.look,Ax.put,reduceCtorEq,↓reduceIte,Nat.reduceEqDiff,Nat.reduceLT,Nat.reduceAdd,List.length_append,List.length_cons,List.length_nil,Option.some.injEq,htake]; try simp
         · simp only [ssT,zai,zaj,setSlot,gOf,AV.ren,renL,Blk.ren,Ax.look,Ax.put,reduceCtorEq,↓reduceIte,Nat.reduceEqDiff,Nat.reduceLT,Nat.reduceAdd,List.length_append,List.length_cons,List.length_nil,Option.some.injEq,htake]; try simp
       · have d3 : decide (C = 0) = false := decide_eq_false hc
         have hEl : errP l = C := by rw [← hdr,errP_cons,if_neg (by rw [hC]; exact hc),hC]
         have hCC := chkP_err h1000 (by rw [hEl]; exact hc)
         rw [hEl] at hCC
         have hB : putP l = [] := if_neg (by rw [hCC]; exact hc)
         rw [hB,hCC]
         simp only [go_sem,zaa,Nat.reduceAdd,Nat.reduceSub,Nat.reduceMul,Int.reduceToNat,reduceCtorEq,↓reduceIte,Int.reducePow,Nat.reducePow,Int.reduceMod,Nat.reduceLeDiff,Int.reduceLE,Int.reduceNe,Int.reduceEq,Nat.reduceEqDiff,Nat.reduceLT,Nat.reduceBEq,ty,SrputP,zdp,zbt,hll,d2,hs,hjl,hk0,hk1,hq0,hq1,lq,iq,hN,hft,h40,hex,hmr,hcl,hC',hW',d3,e1,tk,Int.toNat_natCast]
         repeat (refine And.intro (by first | omega | (unfold top; omega) | decide) ?_)
         refine ⟨_,Weak.refl _,?_⟩
         simp only [go_sem,zaa,Nat.reduceAdd,Nat.reduceSub,Nat.reduceMul,Int.reduceToNat,reduceCtorEq,↓reduceIte,Int.reducePow,Nat.reducePow,Int.reduceMod,Nat.reduceLeDiff,Int.reduceLE,Int.reduceNe,Int.reduceEq,Nat.reduceEqDiff,Nat.reduceLT,Nat.reduceBEq,ty,SrputP]
         exact zaq 2 3 (by decide) rfl rfl rfl rfl
     · obtain rfl : j = es.length := by omega
       have d2 : decide ((es.length : Int) < es.length) = false := decide_eq_false (by omega)
       rw [← hlf,List.take_length] at hE hsz ⊢
       rw [hlf]
       by_cases hbig : 65536 < (layP l).length
       · have hC := chkP_big h1000 hE hbig
         have hB : putP l = [] := if_neg (by rw [hC]; decide)
         have d3 : decide ((65536 : Int) < (layP l).length) = true := decide_eq_true (by omega)
         rw [hB,hC]
         simp only [go_sem,zaa,Nat.reduceAdd,Nat.reduceSub,Nat.reduceMul,Int.reduceToNat,reduceCtorEq,↓reduceIte,Int.reducePow,Nat.reducePow,Int.reduceMod,Nat.reduceLeDiff,Int.reduceLE,Int.reduceNe,Int.reduceEq,Nat.reduceEqDiff,Nat.reduceLT,Nat.reduceBEq,ty,SrputP,hll,d2,d3]
         refine ⟨_,Weak.refl _,?_⟩
         simp only [go_sem,zaa,Nat.reduceAdd,Nat.reduceSub,Nat.reduceMul,Int.reduceToNat,reduceCtorEq,↓reduceIte,Int.reducePow,Nat.reducePow,Int.reduceMod,Nat.reduceLeDiff,Int.reduceLE,Int.reduceNe,Int.reduceEq,Nat.reduceEqDiff,Nat.reduceLT,Nat.reduceBEq,ty,SrputP,hll,d2,d3]
         exact zaq 2 3 (by decide) rfl rfl rfl rfl
       · have hC := chkP_ok h1000 hE hbig
         have hB : putP l = layP l := if_pos hC
         have d3 : decide ((65536 : Int) < (layP l).length) = false := decide_eq_false (by omega)
         rw [hB,hC]
         simp only [go_sem,zaa,Nat.reduceAdd,Nat.reduceSub,Nat.reduceMul,Int.reduceToNat,reduceCtorEq,↓reduceIte,Int.reducePow,Nat.reducePow,Int.reduceMod,Nat.reduceLeDiff,Int.reduceLE,Int.reduceNe,Int.reduceEq,Nat.reduceEqDiff,Nat.reduceLT,Nat.reduceBEq,ty,SrputP,hll,d2,d3]
         refine ⟨_,Weak.refl _,?_⟩
         simp only [go_sem,zaa,Nat.reduceAdd,Nat.reduceSub,Nat.reduceMul,Int.reduceToNat,reduceCtorEq,↓reduceIte,Int.reducePow,Nat.reducePow,Int.reduceMod,Nat.reduceLeDiff,Int.reduceLE,Int.reduceNe,Int.reduceEq,Nat.reduceEqDiff,Nat.reduceLT,Nat.reduceBEq,ty,SrputP,hll,d2,d3]
         exact zap 2 3 (by decide) rfl rfl rfl rfl rfl rfl
 · exact hp.elim
end
end Go.Proofs.Ytihbcgbmlecpbaa
namespace Go.Proofs.Ytihbcgbmlecpbaa
open Ax
def Saw27 (f : FuncId) : Option zah :=
 match f with
 | 8 => some zdp
 | 12 => some putPS
 | 17 => some getPS
 | 15 => some getTS
 | 10 => some sameTS
 | _ => none
theorem Saw27_ok : Fns Try.prog Saw27 := by
 intro f s h
 unfold Saw27 at h
 split at h
 · injection h with h; subst h; exact ⟨⟨_,Try.func8,by kernel_rfl,by kernel_rfl⟩,putT_sound⟩
 · injection h with h; subst h; exact ⟨⟨_,Try.func12,by kernel_rfl,by kernel_rfl⟩,putP_sound⟩
 · injection h with h; subst h; exact ⟨⟨_,Try.func17,by kernel_rfl,by kernel_rfl⟩,getP_sound⟩
 · injection h with h; subst h; exact ⟨⟨_,Try.func15,by kernel_rfl,by kernel_rfl⟩,getT_sound⟩
 · injection h with h; subst h; exact ⟨⟨_,Try.func10,by kernel_rfl,by kernel_rfl⟩,sameT_sound⟩
 · cases h
def aw27Pl : XPlan := fun id => match id with
 | 3 => .frz [3]
 | 4 => .frz [1]
 | _ => .std
def yesS27 : zah
 | [],[] => ⟨True,.w (.bool true),[]⟩
 | _,_ => zbc
theorem aw27a : putT 3 0 [] 0 0 false false 0 0 0 [] [] 0 0 0 0 0 0 [] 3 true [] = [3,6,1] := by kernel_rfl
theorem aw27b : chkT 3 0 [] 0 0 false false 0 0 0 [] [] 0 0 0 0 0 0 [] 3 true [] = 0 := by kernel_rfl
theorem aw27c : putP [(⟨5,⟨0,[],0,0,false,false,0,0,0,[],[],0,⟨0,0,0,0,0,[]⟩⟩,0,false,[]⟩ : St),(⟨1,⟨0,[],0,0,false,false,0,0,0,[],[],0,⟨0,0,0,0,0,[]⟩⟩,5,false,[]⟩ : St)] = [2,5,4,1,10] := by kernel_rfl
theorem aw27d : chkP [(⟨5,⟨0,[],0,0,false,false,0,0,0,[],[],0,⟨0,0,0,0,0,[]⟩⟩,0,false,[]⟩ : St),(⟨1,⟨0,[],0,0,false,false,0,0,0,[],[],0,⟨0,0,0,0,0,[]⟩⟩,5,false,[]⟩ : St)] = 0 := by kernel_rfl
theorem aw27e : gpX (gpO [2,5,4,1,10]) = .tup [.sg 22 [.agg [.w (.int .u8 5),.w (.int .u8 0),.str ([]),.w (.int .i64 0),.w (.int .i64 0),.w (.bool false),.w (.bool false),.w (.int .i64 0),.w (.int .i64 0),.w (.int .i64 0),.str ([]),.str ([]),.w (.int .i64 0),.w (.int .i64 0),.w (.int .i64 0),.w (.int .i64 0),.w (.int .i64 0),.w (.int .i64 0),.sg 6 [] true,.w (.int .i64 0),.w (.bool false),.sb [] true],.agg [.w (.int .u8 1),.w (.int .u8 0),.str ([]),.w (.int .i64 0),.w (.int .i64 0),.w (.bool false),.w (.bool false),.w (.int .i64 0),.w (.int .i64 0),.w (.int .i64 0),.str ([]),.str ([]),.w (.int .i64 0),.w (.int .i64 0),.w (.int .i64 0),.w (.int .i64 0),.w (.int .i64 0),.w (.int .i64 0),.sg 6 [] true,.w (.int .i64 5),.w (.bool false),.sb [] true]] false,.w (.int .i64 0)] := by kernel_rfl
theorem aw27f : gtA [3,6,1] = .agg [.w (.int .u8 3),.w (.int .u8 0),.str ([]),.w (.int .i64 0),.w (.int .i64 0),.w (.bool false),.w (.bool false),.w (.int .i64 0),.w (.int .i64 0),.w (.int .i64 0),.str ([]),.str ([]),.w (.int .i64 0),.w (.int .i64 0),.w (.int .i64 0),.w (.int .i64 0),.w (.int .i64 0),.w (.int .i64 0),.sg 6 [] true,.w (.int .i64 3),.w (.bool true),.sb [] true] := by kernel_rfl
theorem aw27g : (if gtOk [3,6,1] then (0 : Int) else 4) = 0 := by kernel_rfl
theorem aw27h : eqT 3 3 true [] 3 3 true [] (eqQ 0 [] 0 0 false false 0 0 0 [] [] 0 0 [] 0 0 false false 0 0 0 [] [] 0 (zbq 0 0 0 0 0 [] 0 0 0 0 0 [])) = true := by kernel_rfl
theorem aw27i : eqT 3 3 true [] 5 0 false [] (eqQ 0 [] 0 0 false false 0 0 0 [] [] 0 0 [] 0 0 false false 0 0 0 [] [] 0 (zbq 0 0 0 0 0 [] 0 0 0 0 0 [])) = false := by kernel_rfl
theorem aw27j : ∃ es : List (St × Bool × Bool),[.agg [.w (.int .u8 5),.w (.int .u8 0),.str ([]),.w (.int .i64 0),.w (.int .i64 0),.w (.bool false),.w (.bool false),.w (.int .i64 0),.w (.int .i64 0),.w (.int .i64 0),.str ([]),.str ([]),.w (.int .i64 0),.w (.int .i64 0),.w (.int .i64 0),.w (.int .i64 0),.w (.int .i64 0),.w (.int .i64 0),.sg 6 [] true,.w (.int .i64 0),.w (.bool false),.sb [] true],.agg [.w (.int .u8 1),.w (.int .u8 0),.str ([]),.w (.int .i64 0),.w (.int .i64 0),.w (.bool false),.w (.bool false),.w (.int .i64 0),.w (.int .i64 0),.w (.int .i64 0),.str ([]),.str ([]),.w (.int .i64 0),.w (.int .i64 0),.w (.int .i64 0),.w (.int .i64 0),.w (.int .i64 0),.w (.int .i64 0),.sg 6 [] true,.w (.int .i64 5),.w (.bool false),.sb [] true]] = es.map stP ∧ ∀ p ∈ es,fitS p.1 := by
 have h0 : fitS (⟨5,⟨0,[],0,0,false,false,0,0,0,[],[],0,⟨0,0,0,0,0,[]⟩⟩,0,false,[]⟩ : St) := ⟨by decide,⟨by decide,⟨by decide,by decide,by decide⟩,⟨zad,zad,zad,zad,zad,zad⟩,by decide⟩,zad,by decide⟩
 have h1 : fitS (⟨1,⟨0,[],0,0,false,false,0,0,0,[],[],0,⟨0,0,0,0,0,[]⟩⟩,5,false,[]⟩ : St) := ⟨by decide,⟨by decide,⟨by decide,by decide,by decide⟩,⟨zad,zad,zad,zad,zad,zad⟩,by decide⟩,by unfold okI; decide,by decide⟩
 refine ⟨[((⟨5,⟨0,[],0,0,false,false,0,0,0,[],[],0,⟨0,0,0,0,0,[]⟩⟩,0,false,[]⟩ : St),true,true),((⟨1,⟨0,[],0,0,false,false,0,0,0,[],[],0,⟨0,0,0,0,0,[]⟩⟩,5,false,[]⟩ : St),true,true)],rfl,?_⟩
 intro p hp
 rcases List.mem_cons.1 hp with rfl | hp
 · exact h0
 · rw [List.mem_singleton.1 hp]; exact h1
theorem aw27k : ust (.agg [.w (.int .u8 5),.w (.int .u8 0),.str ([]),.w (.int .i64 0),.w (.int .i64 0),.w (.bool false),.w (.bool false),.w (.int .i64 0),.w (.int .i64 0),.w (.int .i64 0),.str ([]),.str ([]),.w (.int .i64 0),.w (.int .i64 0),.w (.int .i64 0),.w (.int .i64 0),.w (.int .i64 0),.w (.int .i64 0),.sg 6 [] true,.w (.int .i64 0),.w (.bool false),.sb [] true]) = (⟨5,⟨0,[],0,0,false,false,0,0,0,[],[],0,⟨0,0,0,0,0,[]⟩⟩,0,false,[]⟩ : St) := rfl
theorem aw27l : ust (.agg [.w (.int .u8 1),.w (.int .u8 0),.str ([]),.w (.int .i64 0),.w (.int .i64 0),.w (.bool false),.w (.bool false),.w (.int .i64 0),.w (.int .i64 0),.w (.int .i64 0),.str ([]),.str ([]),.w (.int .i64 0),.w (.int .i64 0),.w (.int .i64 0),.w (.int .i64 0),.w (.int .i64 0),.w (.int .i64 0),.sg 6 [] true,.w (.int .i64 5),.w (.bool false),.sb [] true]) = (⟨1,⟨0,[],0,0,false,false,0,0,0,[],[],0,⟨0,0,0,0,0,[]⟩⟩,5,false,[]⟩ : St) := rfl
section
set_option maxRecDepth 100000
set_option maxHeartbeats 16000000 in
theorem awake27_sound : zas Try.prog 7 yesS27 := by
 refine zcq (S := Saw27) (SO := noO) (T := ty) zau ty_ok Saw27_ok noO_ok Try.func7 (c := Try.f7.body.getD .skip) (by kernel_rfl) (fun xs pins hp _ => ?_)
 unfold yesS27 at hp ⊢
 split at hp
 · refine ⟨by simp,aw27Pl,by kernel_rfl,?_⟩
   have tk : ∀ l : List UInt8,List.take l.length l = l := fun l => List.take_length
   have t3 : List.take 3 ([3,6,1] : List UInt8) = [3,6,1] := rfl
   have t5 : List.take 5 ([2,5,4,1,10] : List UInt8) = [2,5,4,1,10] := rfl
   have q1 : lenQ [] [] [] := ⟨by decide,by decide,by decide⟩
   have q2 : intQ 0 0 0 0 0 0 := ⟨zad,zad,zad,zad,zad,zad⟩
   have q3 : ∃ rs : List Rec,([] : List AV) = rs.map rv := ⟨[],rfl⟩
   have q4 : List.map rrec ([] : List AV) = [] := rfl
   have i0 : okI 0 := zad
   have i3 : okI 3 := by unfold okI; decide
   have j3 := aw27j
   have f1 : decide (([3,6,1] : List UInt8) = [3,6,1]) = true := by decide
   have f2 : decide (([2,5,4,1,10] : List UInt8) = [2,5,4,1,10]) = true := by decide
   have f3 : decide (((2 : Nat) : Int) = 2) = true := by decide
   unfold Try.f7
   simp only [go_sem,zab,Nat.reduceAdd,Nat.reduceSub,Nat.reduceMul,Int.reduceToNat,reduceCtorEq,↓reduceIte,Int.reducePow,Nat.reducePow,Int.reduceMod,Nat.reduceLeDiff,Int.reduceLE,Int.reduceNe,Int.reduceEq,Nat.reduceEqDiff,Nat.reduceLT,Nat.reduceBEq,List.map_cons,List.map_nil,List.toList_toArray,Array.toList_append,Option.toArray_some,Option.toArray_none,Bool.and_self,ty,Saw27,aw27Pl,zdp,putPS,getPS,getTS,zba,fillS,tk,t3,t5,q1,q2,q3,q4,i0,i3,j3,aw27a,aw27b,aw27c,aw27d,aw27e,aw27f,aw27g,aw27h,aw27i,aw27k,aw27l,f1,f2,f3,Bool.not_true,Bool.not_false,Int.reduceLE,Int.reduceLT,Nat.zero_le,List.length_nil,List.length_cons]
   refine ⟨?_,zay 0 rfl⟩
   rintro y (rfl | rfl) <;> rfl
 · exact hp.elim
end
end Go.Proofs.Ytihbcgbmlecpbaa
namespace Go.Proofs.Ytihbcgbmlecpbaa
open Ax
def lrqS22 : zah
 | [.agg [.w (.int .u8 k),.str t,.w (.int .i64 i),.w (.int .i64 p),.w (.bool c),.w (.bool f),.w (.int .i64 o),.w (.int .i64 m),.w (.int .i64 w),.str g,.str mb,.w (.int .i64 n),.w (.int .i64 bb),.w (.int .i64 bc),.w (.int .i64 bp),.w (.int .i64 be),.w (.int .i64 bs),.sg 6 xs fx]],[] =>
     ⟨(t.length ≤ 9223372036854775807 ∧ g.length ≤ 9223372036854775807 ∧ mb.length ≤ 9223372036854775807) ∧ xs.length ≤ 9223372036854775807 ∧ ∃ rs : List Rec,xs = rs.map rv,
       .w (.bool (decide (t.length ≤ 400 ∧ g.length ≤ 400 ∧ mb.length ≤ 400 ∧ (xs.map rrec).length ≤ 40 ∧ ∀ r ∈ xs.map rrec,lightR r))),[]⟩
 | _,_ => zbc
def Slrq22 (f : FuncId) : Option zah :=
 match f with
 | 42 => some blightS4
 | _ => none
theorem Slrq22_ok : Fns Try.prog Slrq22 := by
 intro f s h
 unfold Slrq22 at h
 split at h
 · injection h with h; subst h; exact ⟨⟨_,Try.func42,by kernel_rfl,by kernel_rfl⟩,blight4_sound⟩
 · cases h
section
set_option maxRecDepth 100000
set_option maxHeartbeats 4000000 in
theorem lrq22_sound : zas Try.prog 19 lrqS22 := by
 refine zbj (S := Slrq22) (T := ty) zau ty_ok Slrq22_ok Try.func19 (c := Try.f19.body.getD .skip) (by kernel_rfl) (by kernel_rfl) (fun xs pins hp _ => ?_)
 unfold lrqS22 at hp ⊢
 split at hp
 · rename_i k t i p c f o m w g mb n bb bc bp be bs xs fx _
   obtain ⟨⟨h1,h2,h3⟩,hL,rs,rfl⟩ := hp
   have hrl : (rs.map rv).length = rs.length := by simp
   rw [hrl] at hL
   have hx1 : ∃ k : List Rec,rs.map rv = k.map rv := ⟨rs,rfl⟩
   have hc1 : coe ty 23 (.sg 6 (rs.map rv) fx) = .sg 6 (rs.map rv) fx := by cases rs <;> rfl
   have hmr := zae rs
   rw [hmr]
   refine ⟨by simp,?_⟩
   unfold Try.f19
   by_cases g1 : t.length ≤ 400
   case neg =>
     have d1 : decide ((t.length : Int) ≤ 400) = false := decide_eq_false (by omega)
     rw [decide_eq_false (fun h => g1 h.1)]
     simp only [go_sem,zaa,Nat.reduceAdd,Nat.reduceSub,Nat.reduceMul,Int.reduceToNat,reduceCtorEq,↓reduceIte,Int.reducePow,Nat.reducePow,Int.reduceMod,Nat.reduceLeDiff,Int.reduceLE,Int.reduceNe,Int.reduceEq,Nat.reduceEqDiff,Nat.reduceLT,Nat.reduceBEq,ty,Slrq22,d1]
     exact zay 2 rfl
   have d1 : decide ((t.length : Int) ≤ 400) = true := decide_eq_true (by omega)
   by_cases g2 : g.length ≤ 400
   case neg =>
     have d2 : decide ((g.length : Int) ≤ 400) = false := decide_eq_false (by omega)
     rw [decide_eq_false (fun h => g2 h.2.1)]
     simp only [go_sem,zaa,Nat.reduceAdd,Nat.reduceSub,Nat.reduceMul,Int.reduceToNat,reduceCtorEq,↓reduceIte,Int.reducePow,Nat.reducePow,Int.reduceMod,Nat.reduceLeDiff,Int.reduceLE,Int.reduceNe,Int.reduceEq,Nat.reduceEqDiff,Nat.reduceLT,Nat.reduceBEq,ty,Slrq22,d1,d2]
     exact zay 2 rfl
   have d2 : decide ((g.length : Int) ≤ 400) = true := decide_eq_true (by omega)
   by_cases g3 : mb.length ≤ 400
   case neg =>
     have d3 : decide ((mb.length : Int) ≤ 400) = false := decide_eq_false (by omega)
     rw [decide_eq_false (fun h => g3 h.2.2.1)]
     simp only [go_sem,zaa,Nat.reduceAdd,Nat.reduceSub,Nat.reduceMul,Int.reduceToNat,reduceCtorEq,↓reduceIte,Int.reducePow,Nat.reducePow,Int.reduceMod,Nat.reduceLeDiff,Int.reduceLE,Int.reduceNe,Int.reduceEq,Nat.reduceEqDiff,Nat.reduceLT,Nat.reduceBEq,ty,Slrq22,d1,d2,d3]
     exact zay 2 rfl
   have d3 : decide ((mb.length : Int) ≤ 400) = true := decide_eq_true (by omega)
   by_cases g4 : rs.length ≤ 40 ∧ ∀ r ∈ rs,lightR r
   · have d4 := decide_eq_true g4
     rw [decide_eq_true (show t.length ≤ 400 ∧ g.length ≤ 400 ∧ mb.length ≤ 400 ∧ rs.length ≤ 40 ∧ ∀ r ∈ rs,lightR r from ⟨g1,g2,g3,g4⟩)]
     simp only [go_sem,zaa,Nat.reduceAdd,Nat.reduceSub,Nat.reduceMul,Int.reduceToNat,reduceCtorEq,↓reduceIte,Int.reducePow,Nat.reducePow,Int.reduceMod,Nat.reduceLeDiff,Int.reduceLE,Int.reduceNe,Int.reduceEq,Nat.reduceEqDiff,Nat.reduceLT,Nat.reduceBEq,ty,Slrq22,blightS4,d1,d2,d3,hrl,hL,hx1,hc1,hmr,d4]
     exact zay 2 rfl
   · have d4 := decide_eq_false g4
     rw [decide_eq_false (fun h => g4 h.2.2.2)]
     simp only [go_sem,zaa,Nat.reduceAdd,Nat.reduceSub,Nat.reduceMul,Int.reduceToNat,reduceCtorEq,↓reduceIte,Int.reducePow,Nat.reducePow,Int.reduceMod,Nat.reduceLeDiff,Int.reduceLE,Int.reduceNe,Int.reduceEq,Nat.reduceEqDiff,Nat.reduceLT,Nat.reduceBEq,ty,Slrq22,blightS4,d1,d2,d3,hrl,hL,hx1,hc1,hmr,d4]
     exact zay 2 rfl
 · exact hp.elim
end
end Go.Proofs.Ytihbcgbmlecpbaa
namespace Go.Proofs.Ytihbcgbmlecpbaa
open Ax
theorem ren_stP (g : Nat → Nat) : ∀ (G : List (St × Bool × Bool)),renL g (G.map stP) = G.map stP
 | [] => rfl
 | x :: r => by simp only [List.map_cons,renL,ren_stP g r]; rfl
def ownTS : zah
 | [.sg 22 xs fl],[] => ⟨xs.length ≤ 1000000 ∧ ∃ es : List (St × Bool × Bool),xs = es.map stP,.sg 22 xs false,[]⟩
 | _,_ => zbc
def lightT (s : St) : Prop := (s.q.t.length ≤ 400 ∧ s.q.g.length ≤ 400 ∧ s.q.mb.length ≤ 400 ∧ s.q.b.rs.length ≤ 40 ∧ ∀ r ∈ s.q.b.rs,lightR r) ∧ s.ft.length ≤ 200
instance (s : St) : Decidable (lightT s) := by unfold lightT; infer_instance
def lightP (l : List St) (n : Int) : Prop := ¬ n < l.length ∧ ∀ s ∈ l,lightT s
instance (l : List St) (n : Int) : Decidable (lightP l n) := by unfold lightP; infer_instance
def wideS (s : St) : Prop := (s.q.t.length ≤ 9223372036854775807 ∧ s.q.g.length ≤ 9223372036854775807 ∧ s.q.mb.length ≤ 9223372036854775807) ∧ s.q.b.rs.length ≤ 9223372036854775807 ∧ s.ft.length ≤ 9223372036854775807
def lightTS : zah
 | [.sg 22 xs fl,.w (.int .i64 n)],[] => ⟨xs.length ≤ 9223372036854775807 ∧ ∃ es : List (St × Bool × Bool),xs = es.map stP ∧ ∀ p ∈ es,wideS p.1,.w (.bool (decide (lightP (xs.map ust) n))),[]⟩
 | _,_ => zbc
def zel (f : FuncId) : Option zah :=
 match f with
 | 19 => some lrqS22
 | _ => none
theorem SlightT_ok : Fns Try.prog zel := by
 intro f s h
 unfold zel at h
 split at h
 · injection h with h; subst h; exact ⟨⟨_,Try.func19,by kernel_rfl,by kernel_rfl⟩,lrq22_sound⟩
 · cases h
section
set_option maxRecDepth 100000
set_option maxHeartbeats 8000000 in
theorem own27_sound : zas Try.prog 13 ownTS := by
 refine zam (S := noS) (T := ty) zau ty_ok zbm Try.func13 (c := Try.f13.body.getD .skip) (by kernel_rfl) (by kernel_rfl) (fun xs pins hp _ => ?_)
 unfold ownTS at hp ⊢
 split at hp
 · rename_i xs fl _
   obtain ⟨hL,es,rfl⟩ := hp
   rw [List.length_map] at hL
   refine ⟨by simp,?_⟩
   have hll : (es.map stP).length = es.length := by simp
   have ht : top = 4294967296 := rfl
   unfold Try.f13
   simp only [go_sem,zaa,Nat.reduceAdd,Nat.reduceSub,Nat.reduceMul,Int.reduceToNat,reduceCtorEq,↓reduceIte,Int.reducePow,Nat.reducePow,Int.reduceMod,Nat.reduceLeDiff,Int.reduceLE,Int.reduceNe,Int.reduceEq,Nat.reduceEqDiff,Nat.reduceLT,Nat.reduceBEq,ty,noS,hll]
   refine zdl ⟨fun m σ => ∃ i : Nat,m = es.length - i ∧ i ≤ es.length ∧
       σ = ⟨[.sg 22 (es.map stP) fl,.junk,.sg 1 [] true,.ms 4 22 0 i,.w (.int .i64 i),.junk,.junk,.junk,.junk,.junk,.junk,.junk,.junk,.junk,.junk,.junk,.junk,.junk,.junk],[(4,.g 22 ((es.take i).map stP))],5⟩,?_,?_⟩
   · refine ⟨_,_,(zem 3 22 (.g 22 []) ⟨by decide,rfl⟩ (by exact trivial)).trans (zag [0,1,2,3,28] rfl rfl rfl ?_ ?_),0,rfl,by omega,rfl⟩
     · simp only [ssT,zai,zaj,setSlot,gOf,AV.ren,renL,Blk.ren,Ax.look,Ax.put,reduceCtorEq,↓reduceIte,Nat.reduceEqDiff,Nat.reduceLT,Nat.reduceAdd,List.length_append,List.length_cons,List.length_nil,Option.some.injEq]; try simp
       try rfl
     · simp only [ssT,zai,zaj,setSlot,gOf,AV.ren,renL,Blk.ren,Ax.look,Ax.put,reduceCtorEq,↓reduceIte,Nat.reduceEqDiff,Nat.reduceLT,Nat.reduceAdd,List.length_append,List.length_cons,List.length_nil,Option.some.injEq]; try simp [renL]
   · rintro m σ ⟨i,rfl,hi,rfl⟩
     have e1 : ((i : Int) + 1 + 9223372036854775808) % 18446744073709551616 - 9223372036854775808 = ((i + 1 : Nat) : Int) := by omega
     have hml : ((es.take i).map stP).length = i := by simp; omega
     by_cases hil : i < es.length
     · have d1 : decide ((i : Int) < es.length) = true := decide_eq_true (by omega)
       have hs1 := slot_stP es i hil
       have htk : es.take (i + 1) = es.take i ++ [es[i]] := List.take_succ_eq_append_getElem hil
       obtain ⟨⟨s,f1,f2⟩,hP⟩ : ∃ P,es[i] = P := ⟨_,rfl⟩
       rw [hP] at hs1 htk
       have hs1 : slot (es.map stP) i = .agg [.w (.int .u8 s.k),.w (.int .u8 s.q.k),.str s.q.t,.w (.int .i64 s.q.i),.w (.int .i64 s.q.p),.w (.bool s.q.c),.w (.bool s.q.f),.w (.int .i64 s.q.o),.w (.int .i64 s.q.m),.w (.int .i64 s.q.w),.str s.q.g,.str s.q.mb,.w (.int .i64 s.q.n),.w (.int .i64 s.q.b.b),.w (.int .i64 s.q.b.c),.w (.int .i64 s.q.b.p),.w (.int .i64 s.q.b.e),.w (.int .i64 s.q.b.s),.sg 6 (s.q.b.rs.map rv) f1,.w (.int .i64 s.N),.w (.bool s.D),.sb s.ft f2] := hs1
       have hcl := zbp s.q.b.rs
       simp only [go_sem,zaa,Nat.reduceAdd,Nat.reduceSub,Nat.reduceMul,Int.reduceToNat,reduceCtorEq,↓reduceIte,Int.reducePow,Nat.reducePow,Int.reduceMod,Nat.reduceLeDiff,Int.reduceLE,Int.reduceNe,Int.reduceEq,Nat.reduceEqDiff,Nat.reduceLT,Nat.reduceBEq,ty,noS,hll,hml,d1,hs1,e1,hcl,Int.toNat_natCast]
       repeat (refine And.intro (by first | omega | decide) ?_)
       refine ⟨es.length - (i + 1),_,by omega,zag [0,1,2,3,85] rfl rfl rfl ?_ ?_,i + 1,rfl,by omega,rfl⟩
       · simp only [ssT,zai,zaj,setSlot,gOf,AV.ren,renL,Blk.ren,Ax.look,Ax.put,reduceCtorEq,↓reduceIte,Nat.reduceEqDiff,Nat.reduceLT,Nat.reduceAdd,List.length_append,List.length_cons,List.length_nil,Option.some.injEq,htk]; try simp
       · simp only [ssT,zai,zaj,setSlot,gOf,AV.ren,renL,Blk.ren,Ax.look,Ax.put,reduceCtorEq,↓reduceIte,Nat.reduceEqDiff,Nat.reduceLT,Nat.reduceAdd,List.length_append,List.length_cons,List.length_nil,Option.some.injEq,htk,ren_stP]; try simp [stP]
     · have d1 : decide ((i : Int) < es.length) = false := decide_eq_false (by omega)
       have hii : es.take i = es := List.take_of_length_le (by omega)
       rw [hii] at hml ⊢
       have hdle : decide (0 + i ≤ (es.map stP).length) = true := decide_eq_true (by omega)
       have htk : (es.map stP).take i = es.map stP := List.take_of_length_le (by omega)
       simp only [go_sem,zaa,Nat.reduceAdd,Nat.reduceSub,Nat.reduceMul,Int.reduceToNat,reduceCtorEq,↓reduceIte,Int.reducePow,Nat.reducePow,Int.reduceMod,Nat.reduceLeDiff,Int.reduceLE,Int.reduceNe,Int.reduceEq,Nat.reduceEqDiff,Nat.reduceLT,Nat.reduceBEq,ty,noS,hll,d1]
       refine ⟨_,weak_fg 4 22 3 (es.map stP) rfl (closed_stP es) (by simp [slot,AV.ids]),?_⟩
       simp only [fgL,fgH,AV.fg,Blk.fg,Nat.reduceBEq,cond_true,cond_false,hdle,Bool.and_true,beq_self_eq_true,Bool.true_and,List.drop_zero,htk]
       simp only [go_sem,zaa,Nat.reduceAdd,Nat.reduceSub,Nat.reduceMul,Int.reduceToNat,reduceCtorEq,↓reduceIte,Int.reducePow,Nat.reducePow,Int.reduceMod,Nat.reduceLeDiff,Int.reduceLE,Int.reduceNe,Int.reduceEq,Nat.reduceEqDiff,Nat.reduceLT,Nat.reduceBEq,ty,noS]
 · exact hp.elim
set_option maxHeartbeats 8000000 in
theorem light27_sound : zas Try.prog 6 lightTS := by
 refine zbj (S := zel) (T := ty) zau ty_ok SlightT_ok Try.func6 (c := Try.f6.body.getD .skip) (by kernel_rfl) (by kernel_rfl) (fun xs pins hp _ => ?_)
 unfold lightTS at hp ⊢
 split at hp
 · rename_i xs fl n _
   obtain ⟨hL,es,rfl,hw⟩ := hp
   rw [List.length_map] at hL
   have hll : (es.map stP).length = es.length := by simp
   have hlf : (es.map Prod.fst).length = es.length := by simp
   rw [map_ust]
   refine ⟨by simp,?_⟩
   unfold Try.f6
   by_cases hn : n < es.length
   · have d1 : decide (n < (es.length : Int)) = true := decide_eq_true hn
     have hno : decide (lightP (es.map Prod.fst) n) = false := decide_eq_false (fun h => h.1 (by rw [hlf]; exact hn))
     rw [hno]
     simp only [go_sem,zaa,Nat.reduceAdd,Nat.reduceSub,Nat.reduceMul,Int.reduceToNat,reduceCtorEq,↓reduceIte,Int.reducePow,Nat.reducePow,Int.reduceMod,Nat.reduceLeDiff,Int.reduceLE,Int.reduceNe,Int.reduceEq,Nat.reduceEqDiff,Nat.reduceLT,Nat.reduceBEq,ty,zel,hll,d1]
     exact zay 4 rfl
   · have d1 : decide (n < (es.length : Int)) = false := decide_eq_false hn
     simp only [go_sem,zaa,Nat.reduceAdd,Nat.reduceSub,Nat.reduceMul,Int.reduceToNat,reduceCtorEq,↓reduceIte,Int.reducePow,Nat.reducePow,Int.reduceMod,Nat.reduceLeDiff,Int.reduceLE,Int.reduceNe,Int.reduceEq,Nat.reduceEqDiff,Nat.reduceLT,Nat.reduceBEq,ty,zel,hll,d1]
     refine zdl ⟨fun m σ => ∃ i : Nat,m = es.length - i ∧ i ≤ es.length ∧ (∀ p ∈ es.take i,lightT p.1) ∧
       σ = ⟨[.sg 22 (es.map stP) fl,.w (.int .i64 n),.junk,.junk,.junk,.w (.int .i64 i),.junk,.junk,.junk,.junk,.junk,.junk,.junk,.junk,.junk,.junk,.junk,.junk,.junk,.junk,.junk,.junk,.junk,.junk,.junk,.junk,.junk,.junk,.junk,.junk,.junk,.junk],[],4⟩,?_,?_⟩
     · refine ⟨_,_,zag [0,1,2,3] rfl rfl rfl ?_ ?_,0,rfl,by omega,by simp,rfl⟩
       · simp only [ssT,zai,zaj,setSlot,gOf,AV.ren,renL,Blk.ren,Ax.look,Ax.put,reduceCtorEq,↓reduceIte,Nat.reduceEqDiff,Nat.reduceLT,Nat.reduceAdd,List.length_append,List.length_cons,List.length_nil,Option.some.injEq]; try simp
       · simp only [ssT,zai,zaj,setSlot,gOf,AV.ren,renL,Blk.ren,Ax.look,Ax.put,reduceCtorEq,↓reduceIte,Nat.reduceEqDiff,Nat.reduceLT,Nat.reduceAdd,List.length_append,List.length_cons,List.length_nil,Option.some.injEq]
     · rintro m σ ⟨i,rfl,hi,hall,rfl⟩
       by_cases hil : i < es.length
       · have d2 : decide ((i : Int) < es.length) = true := decide_eq_true (by omega)
         have e1 : ((i : Int) + 1 + 9223372036854775808) % 18446744073709551616 - 9223372036854775808 = ((i + 1 : Nat) : Int) := by omega
         have hs1 := slot_stP es i hil
         have hws := hw es[i] (List.getElem_mem hil)
         have hmem : es[i].1 ∈ es.map Prod.fst := List.mem_map.2 ⟨es[i],List.getElem_mem hil,rfl⟩
         have htake : es.take (i + 1) = es.take i ++ [es[i]] := List.take_succ_eq_append_getElem hil
         obtain ⟨⟨s,f1,f2⟩,hP⟩ : ∃ P,es[i] = P := ⟨_,rfl⟩
         rw [hP] at hs1 hws hmem htake
         have hs1 : slot (es.map stP) i = .agg [.w (.int .u8 s.k),.w (.int .u8 s.q.k),.str s.q.t,.w (.int .i64 s.q.i),.w (.int .i64 s.q.p),.w (.bool s.q.c),.w (.bool s.q.f),.w (.int .i64 s.q.o),.w (.int .i64 s.q.m),.w (.int .i64 s.q.w),.str s.q.g,.str s.q.mb,.w (.int .i64 s.q.n),.w (.int .i64 s.q.b.b),.w (.int .i64 s.q.b.c),.w (.int .i64 s.q.b.p),.w (.int .i64 s.q.b.e),.w (.int .i64 s.q.b.s),.sg 6 (s.q.b.rs.map rv) f1,.w (.int .i64 s.N),.w (.bool s.D),.sb s.ft f2] := hs1
         obtain ⟨⟨ht1,ht2,ht3⟩,hr,hft⟩ := hws
         simp only at ht1 ht2 ht3 hr hft hmem
         have hrl : (s.q.b.rs.map rv).length = s.q.b.rs.length := by simp
         have hmr := zae s.q.b.rs
         have hex : ∃ qs : List Rec,s.q.b.rs.map rv = qs.map rv := ⟨s.q.b.rs,rfl⟩
         have hc : coe ty 23 (.sg 6 (s.q.b.rs.map rv) f1) = .sg 6 (s.q.b.rs.map rv) f1 := by cases s.q.b.rs <;> rfl
         by_cases hl : lightT s
         · have d3 := decide_eq_true hl.1
           have d4 : decide ((200 : Int) < s.ft.length) = false := decide_eq_false (by have := hl.2; omega)
           simp only [go_sem,zaa,Nat.reduceAdd,Nat.reduceSub,Nat.reduceMul,Int.reduceToNat,reduceCtorEq,↓reduceIte,Int.reducePow,Nat.reducePow,Int.reduceMod,Nat.reduceLeDiff,Int.reduceLE,Int.reduceNe,Int.reduceEq,Nat.reduceEqDiff,Nat.reduceLT,Nat.reduceBEq,ty,zel,lrqS22,hll,d2,hs1,e1,ht1,ht2,ht3,hr,hrl,hmr,hex,hc,d3,d4,Int.toNat_natCast]
           repeat (refine And.intro (by first | omega | decide) ?_)
           refine ⟨es.length - (i + 1),_,by omega,zag [0,1,2,3] rfl rfl rfl ?_ ?_,i + 1,rfl,by omega,?_,rfl⟩
           · simp only [ssT,zai,zaj,setSlot,gOf,AV.ren,renL,Blk.ren,Ax.look,Ax.put,reduceCtorEq,↓reduceIte,Nat.reduceEqDiff,Nat.reduceLT,Nat.reduceAdd,List.length_append,List.length_cons,List.length_nil,Option.some.injEq]
           · simp only [ssT,zai,zaj,setSlot,gOf,AV.ren,renL,Blk.ren,Ax.look,Ax.put,reduceCtorEq,↓reduceIte,Nat.reduceEqDiff,Nat.reduceLT,Nat.reduceAdd,List.length_append,List.length_cons,List.length_nil,Option.some.injEq]
           · intro p hp
             rw [htake] at hp
             rcases List.mem_append.1 hp with h | h
             · exact hall p h
             · rw [List.mem_singleton.1 h]; exact hl
         · have hno : decide (lightP (es.map Prod.fst) n) = false := decide_eq_false (fun h => hl (h.2 _ hmem))
           rw [hno]
           by_cases h1 : s.q.t.length ≤ 400 ∧ s.q.g.length ≤ 400 ∧ s.q.mb.length ≤ 400 ∧ s.q.b.rs.length ≤ 40 ∧ ∀ r ∈ s.q.b.rs,lightR r
           · have d3 := decide_eq_true h1
             have d4 : decide ((200 : Int) < s.ft.length) = true := decide_eq_true (by
               rcases Nat.lt_or_ge 200 s.ft.length with h | h
               · omega
               · exact (hl ⟨h1,h⟩).elim)
             simp only [go_sem,zaa,Nat.reduceAdd,Nat.reduceSub,Nat.reduceMul,Int.reduceToNat,reduceCtorEq,↓reduceIte,Int.reducePow,Nat.reducePow,Int.reduceMod,Nat.reduceLeDiff,Int.reduceLE,Int.reduceNe,Int.reduceEq,Nat.reduceEqDiff,Nat.reduceLT,Nat.reduceBEq,ty,zel,lrqS22,hll,d2,hs1,e1,ht1,ht2,ht3,hr,hrl,hmr,hex,hc,d3,d4,Int.toNat_natCast]
             repeat (refine And.intro (by first | omega | decide) ?_)
             refine ⟨_,Weak.refl _,?_⟩
             simp only [go_sem,zaa,Nat.reduceAdd,Nat.reduceSub,Nat.reduceMul,Int.reduceToNat,reduceCtorEq,↓reduceIte,Int.reducePow,Nat.reducePow,Int.reduceMod,Nat.reduceLeDiff,Int.reduceLE,Int.reduceNe,Int.reduceEq,Nat.reduceEqDiff,Nat.reduceLT,Nat.reduceBEq,ty,zel]
             exact zay 4 rfl
           · have d3 := decide_eq_false h1
             simp only [go_sem,zaa,Nat.reduceAdd,Nat.reduceSub,Nat.reduceMul,Int.reduceToNat,reduceCtorEq,↓reduceIte,Int.reducePow,Nat.reducePow,Int.reduceMod,Nat.reduceLeDiff,Int.reduceLE,Int.reduceNe,Int.reduceEq,Nat.reduceEqDiff,Nat.reduceLT,Nat.reduceBEq,ty,zel,lrqS22,hll,d2,hs1,e1,ht1,ht2,ht3,hr,hrl,hmr,hex,hc,d3,Int.toNat_natCast]
             repeat (refine And.intro (by first | omega | decide) ?_)
             refine ⟨_,Weak.refl _,?_⟩
             simp only [go_sem,zaa,Nat.reduceAdd,Nat.reduceSub,Nat.reduceMul,Int.reduceToNat,reduceCtorEq,↓reduceIte,Int.reducePow,Nat.reducePow,Int.reduceMod,Nat.reduceLeDiff,Int.reduceLE,Int.reduceNe,Int.reduceEq,Nat.reduceEqDiff,Nat.reduceLT,Nat.reduceBEq,ty,zel]
             exact zay 4 rfl
       · have d2 : decide ((i : Int) < es.length) = false := decide_eq_false (by omega)
         have hii : es.take i = es := List.take_of_length_le (by omega)
         rw [hii] at hall
         have hyes : decide (lightP (es.map Prod.fst) n) = true := decide_eq_true ⟨by rw [hlf]; omega,by
           intro s hs
           obtain ⟨p,hp,rfl⟩ := List.mem_map.1 hs
           exact hall p hp⟩
         rw [hyes]
         simp only [go_sem,zaa,Nat.reduceAdd,Nat.reduceSub,Nat.reduceMul,Int.reduceToNat,reduceCtorEq,↓reduceIte,Int.reducePow,Nat.reducePow,Int.reduceMod,Nat.reduceLeDiff,Int.reduceLE,Int.reduceNe,Int.reduceEq,Nat.reduceEqDiff,Nat.reduceLT,Nat.reduceBEq,ty,zel,hll,d2]
         refine ⟨_,Weak.refl _,?_⟩
         simp only [go_sem,zaa,Nat.reduceAdd,Nat.reduceSub,Nat.reduceMul,Int.reduceToNat,reduceCtorEq,↓reduceIte,Int.reducePow,Nat.reducePow,Int.reduceMod,Nat.reduceLeDiff,Int.reduceLE,Int.reduceNe,Int.reduceEq,Nat.reduceEqDiff,Nat.reduceLT,Nat.reduceBEq,ty,zel]
         exact zay 4 rfl
 · exact hp.elim
end
end Go.Proofs.Ytihbcgbmlecpbaa
namespace Go.Proofs.Ytihbcgbmlecpbaa
open Ax
set_option maxRecDepth 10000
set_option maxHeartbeats 4000000
theorem all_rv27 : ∀ (xs : List AV),(∀ x ∈ xs,∃ r : Rec,x = rv r) → ∃ rs : List Rec,xs = rs.map rv
 | [],_ => ⟨[],rfl⟩
 | x :: xs,h => by
   obtain ⟨r,rfl⟩ := h x (by simp)
   obtain ⟨rs,rfl⟩ := all_rv27 xs (fun y hy => h y (by simp [hy]))
   exact ⟨r :: rs,rfl⟩
def argS (s : St) : Prop := (0 ≤ s.k ∧ s.k < 256) ∧ (0 ≤ s.q.k ∧ s.q.k < 256) ∧ intQ s.q.i s.q.p s.q.o s.q.m s.q.w s.q.n ∧ okI s.N ∧ wideS s
theorem all_stP : ∀ (xs : List AV),(∀ x ∈ xs,∃ p : St × Bool × Bool,x = stP p ∧ argS p.1) → ∃ es : List (St × Bool × Bool),xs = es.map stP ∧ ∀ p ∈ es,argS p.1
 | [],_ => ⟨[],rfl,by simp⟩
 | x :: xs,h => by
   obtain ⟨p,rfl,hp⟩ := h x (by simp)
   obtain ⟨es,rfl,he⟩ := all_stP xs (fun y hy => h y (by simp [hy]))
   refine ⟨p :: es,rfl,?_⟩
   intro q hq
   rcases List.mem_cons.1 hq with rfl | hq
   · exact hp
   · exact he q hq
theorem shape_st27 {n : Nat} {ls : List AV} (hs : Shape ty (n + 7) 30 ls) : ∃ p : St × Bool × Bool,AV.agg ls = stP p ∧ argS p.1 := by
 simp only [Shape,ty,ShapeF,isFlatI] at hs
 obtain ⟨l0,r0,rfl,⟨m0,rfl,w0⟩,lq,rq,rfl,⟨l1,r1,rfl,⟨m1,rfl,w1⟩,l2,r2,rfl,⟨m2,rfl,w2⟩,l3,r3,rfl,⟨m3,rfl,w3⟩,l4,r4,rfl,⟨m4,rfl,w4⟩,l5,r5,rfl,⟨m5,rfl⟩,l6,r6,rfl,⟨m6,rfl⟩,l7,r7,rfl,⟨m7,rfl,w7⟩,l8,r8,rfl,⟨m8,rfl,w8⟩,l9,r9,rfl,⟨m9,rfl,w9⟩,l10,r10,rfl,⟨m10,rfl,w10⟩,l11,r11,rfl,⟨m11,rfl,w11⟩,l12,r12,rfl,⟨m12,rfl,w12⟩,l13,r13,rfl,⟨k1,s1,rfl,⟨n1,rfl,v1⟩,k2,s2,rfl,⟨n2,rfl,v2⟩,k3,s3,rfl,⟨n3,rfl,v3⟩,k4,s4,rfl,⟨n4,rfl,v4⟩,k5,s5,rfl,⟨n5,rfl,v5⟩,k6,s6,rfl,⟨xs,f,rfl,hl,hx⟩,rfl⟩,rfl⟩,lN,rN,rfl,⟨mN,rfl,wN⟩,lD,rD,rfl,⟨mD,rfl⟩,lf,rf,rfl,⟨mf,ff,rfl,wf⟩,rfl⟩ := hs
 obtain ⟨rs,rfl⟩ := all_rv27 xs (fun x hxm => by
   obtain ⟨l,⟨l1,r1,rfl,⟨m1,rfl,w1⟩,l2,r2,rfl,⟨m2,rfl,w2⟩,l3,r3,rfl,⟨m3,rfl⟩,l4,r4,rfl,⟨m4,rfl,w4⟩,l5,r5,rfl,⟨m5,rfl⟩,l6,r6,rfl,⟨m6,rfl,w6⟩,rfl⟩,_,rfl⟩ := hx x hxm
   exact ⟨⟨m1,m2,m3,m4,m5,m6⟩,rfl⟩)
 rw [List.length_map] at hl
 have hm : maxLen = 9223372036854775807 := by decide
 exact ⟨⟨⟨m0,⟨m1,m2,m3,m4,m5,m6,m7,m8,m9,m10,m11,m12,⟨n1,n2,n3,n4,n5,rs⟩⟩,mN,mD,mf⟩,f,ff⟩,rfl,wf_u8 w0,wf_u8 w1,⟨wf_i64 w3,wf_i64 w4,wf_i64 w7,wf_i64 w8,wf_i64 w9,wf_i64 w12⟩,wf_i64 wN,⟨by simp only; omega,by simp only; omega,by simp only; omega⟩,by simp only; omega,by simp only; omega⟩
theorem arg_st27 {j : Nat} {x : AV} (h : Arg ty (j + 7) 30 x) : ∃ p : St × Bool × Bool,x = stP p ∧ argS p.1 := by
 obtain ⟨i,ls,hi,hs,rfl⟩ := h
 obtain ⟨p,h1,h2⟩ := shape_st27 hs
 simp only [ty] at hi
 injection hi with hi
 subst hi
 exact ⟨p,h1,h2⟩
theorem arg_sts27 {x : AV} (h : Arg ty 8 22 x) : ∃ (es : List (St × Bool × Bool)) (f : Bool),x = .sg 22 (es.map stP) f ∧ es.length ≤ 9223372036854775807 ∧ ∀ p ∈ es,argS p.1 := by
 obtain ⟨i,ls,hi,hs,rfl⟩ := h
 simp only [ty] at hi
 injection hi with hi
 subst hi
 unfold Shape at hs
 simp only [ty,isFlatI] at hs
 obtain ⟨xs,f,rfl,hl,hx⟩ := hs
 obtain ⟨es,rfl,he⟩ := all_stP xs (fun x hxm => by
   obtain ⟨l,h1,_,rfl⟩ := hx x hxm
   exact shape_st27 (n := 0) h1)
 rw [List.length_map] at hl
 have hm : maxLen = 9223372036854775807 := by decide
 exact ⟨es,f,rfl,by omega,he⟩
end Go.Proofs.Ytihbcgbmlecpbaa
namespace Go.Proofs.Ytihbcgbmlecpbaa
open Ax
theorem fit_of {s : St} (ha : argS s) (hl : lightT s) : fitS s := by
 obtain ⟨h1,h2,h3,h4,_⟩ := ha
 obtain ⟨⟨l1,l2,l3,l4,_⟩,l5⟩ := hl
 exact ⟨h1,⟨h2,⟨by omega,by omega,by omega⟩,h3,l4⟩,h4,by omega⟩
def Sscr (f : FuncId) : Option zah :=
 match f with
 | 6 => some lightTS
 | 7 => some yesS27
 | 8 => some zdp
 | 9 => some zdp
 | 10 => some sameTS
 | 11 => some sameTS
 | 13 => some ownTS
 | 12 => some putPS
 | 14 => some putPS
 | _ => none
theorem Sscr_ok : Fns Try.prog Sscr := by
 intro f s h
 unfold Sscr at h
 split at h
 · injection h with h; subst h; exact ⟨⟨_,Try.func6,by kernel_rfl,by kernel_rfl⟩,light27_sound⟩
 · injection h with h; subst h; exact ⟨⟨_,Try.func7,by kernel_rfl,by kernel_rfl⟩,awake27_sound⟩
 · injection h with h; subst h; exact ⟨⟨_,Try.func8,by kernel_rfl,by kernel_rfl⟩,putT_sound⟩
 · injection h with h; subst h; exact ⟨⟨_,Try.func9,by kernel_rfl,by kernel_rfl⟩,rputT_sound⟩
 · injection h with h; subst h; exact ⟨⟨_,Try.func10,by kernel_rfl,by kernel_rfl⟩,sameT_sound⟩
 · injection h with h; subst h; exact ⟨⟨_,Try.func11,by kernel_rfl,by kernel_rfl⟩,rsameT_sound⟩
 · injection h with h; subst h; exact ⟨⟨_,Try.func13,by kernel_rfl,by kernel_rfl⟩,own27_sound⟩
 · injection h with h; subst h; exact ⟨⟨_,Try.func12,by kernel_rfl,by kernel_rfl⟩,putP_sound⟩
 · injection h with h; subst h; exact ⟨⟨_,Try.func14,by kernel_rfl,by kernel_rfl⟩,rputP_sound⟩
 · cases h
def scrPl : XPlan := fun id => match id with
 | 8 => .prs [(16,19),(16,20),(16,21)]
 | _ => .std
def isSt (x : AV) : Prop := ∃ p : St × Bool × Bool,x = stP p ∧ argS p.1
def scrS : zah
 | [.sg 22 xs fl,x],[] => ⟨(∃ es : List (St × Bool × Bool),xs = es.map stP ∧ es.length ≤ 9223372036854775807 ∧ ∀ p ∈ es,argS p.1) ∧ isSt x,.w (.bool true),[]⟩
 | _,_ => zbc
section
set_option maxRecDepth 100000
set_option maxHeartbeats 16000000 in
theorem scr_law : zas Try.prog 3 scrS := by
 refine zcq (S := Sscr) (SO := noO) (T := ty) zau ty_ok Sscr_ok noO_ok Try.func3 (c := Try.f3.body.getD .skip) (by kernel_rfl) (fun xs pins hp _ => ?_)
 unfold scrS at hp ⊢
 split at hp
 · rename_i xs fl x _
   obtain ⟨⟨es,rfl,hL,hes⟩,⟨⟨s,f1,f2⟩,rfl,ha⟩⟩ := hp
   have ha : argS s := ha
   refine ⟨by simp,scrPl,by kernel_rfl,?_⟩
   have hP : stP (s,f1,f2) = .agg [.w (.int .u8 s.k),.w (.int .u8 s.q.k),.str s.q.t,.w (.int .i64 s.q.i),.w (.int .i64 s.q.p),.w (.bool s.q.c),.w (.bool s.q.f),.w (.int .i64 s.q.o),.w (.int .i64 s.q.m),.w (.int .i64 s.q.w),.str s.q.g,.str s.q.mb,.w (.int .i64 s.q.n),.w (.int .i64 s.q.b.b),.w (.int .i64 s.q.b.c),.w (.int .i64 s.q.b.p),.w (.int .i64 s.q.b.e),.w (.int .i64 s.q.b.s),.sg 6 (s.q.b.rs.map rv) f1,.w (.int .i64 s.N),.w (.bool s.D),.sb s.ft f2] := rfl
   rw [hP]
   have hll : (es.map stP).length = es.length := by simp
   have hexw : ∃ gs : List (St × Bool × Bool),es.map stP = gs.map stP ∧ ∀ p ∈ gs,wideS p.1 := ⟨es,rfl,fun p h => (hes p h).2.2.2.2⟩
   have hex1 : ∃ gs : List (St × Bool × Bool),[.agg [.w (.int .u8 s.k),.w (.int .u8 s.q.k),.str s.q.t,.w (.int .i64 s.q.i),.w (.int .i64 s.q.p),.w (.bool s.q.c),.w (.bool s.q.f),.w (.int .i64 s.q.o),.w (.int .i64 s.q.m),.w (.int .i64 s.q.w),.str s.q.g,.str s.q.mb,.w (.int .i64 s.q.n),.w (.int .i64 s.q.b.b),.w (.int .i64 s.q.b.c),.w (.int .i64 s.q.b.p),.w (.int .i64 s.q.b.e),.w (.int .i64 s.q.b.s),.sg 6 (s.q.b.rs.map rv) f1,.w (.int .i64 s.N),.w (.bool s.D),.sb s.ft f2]] = gs.map stP ∧ ∀ p ∈ gs,wideS p.1 := ⟨[(s,f1,f2)],rfl,fun p h => by rw [List.mem_singleton.1 h]; exact ha.2.2.2.2⟩
   have hu : ust (.agg [.w (.int .u8 s.k),.w (.int .u8 s.q.k),.str s.q.t,.w (.int .i64 s.q.i),.w (.int .i64 s.q.p),.w (.bool s.q.c),.w (.bool s.q.f),.w (.int .i64 s.q.o),.w (.int .i64 s.q.m),.w (.int .i64 s.q.w),.str s.q.g,.str s.q.mb,.w (.int .i64 s.q.n),.w (.int .i64 s.q.b.b),.w (.int .i64 s.q.b.c),.w (.int .i64 s.q.b.p),.w (.int .i64 s.q.b.e),.w (.int .i64 s.q.b.s),.sg 6 (s.q.b.rs.map rv) f1,.w (.int .i64 s.N),.w (.bool s.D),.sb s.ft f2]) = s := ust_stP (s,f1,f2)
   have hmu := map_ust es
   have hc : coe ty 22 (.sg 22 (es.map stP) fl) = .sg 22 (es.map stP) fl := by cases es <;> rfl
   have hc2 : coe ty 42 (.sg 22 (es.map stP) false) = .sg 22 (es.map stP) false := by cases es <;> rfl
   have hlf : (es.map Prod.fst).length = es.length := by simp
   have hcl := zbp s.q.b.rs
   have tk : ∀ l : List UInt8,List.take l.length l = l := fun l => List.take_length
   obtain ⟨l,hl⟩ : ∃ l,es.map Prod.fst = l := ⟨_,rfl⟩
   rw [hl] at hmu hlf
   unfold Try.f3
   by_cases LA : lightP l 30
   case neg =>
     have DA := decide_eq_false LA
     simp only [go_sem,zab,Nat.reduceAdd,Nat.reduceSub,Nat.reduceMul,Int.reduceToNat,reduceCtorEq,↓reduceIte,Int.reducePow,Nat.reducePow,Int.reduceMod,Nat.reduceLeDiff,Int.reduceLE,Int.reduceNe,Int.reduceEq,Nat.reduceEqDiff,Nat.reduceLT,Nat.reduceBEq,List.map_cons,List.map_nil,List.toList_toArray,Array.toList_append,Option.toArray_some,Option.toArray_none,Bool.and_self,ty,Sscr,scrPl,lightTS,yesS27,hll,hc,hL,hexw,hmu,DA]
     exact zay 4 rfl
   have DA := decide_eq_true LA
   by_cases LB : lightP [s] 1
   case neg =>
     have DB := decide_eq_false LB
     simp only [go_sem,zab,Nat.reduceAdd,Nat.reduceSub,Nat.reduceMul,Int.reduceToNat,reduceCtorEq,↓reduceIte,Int.reducePow,Nat.reducePow,Int.reduceMod,Nat.reduceLeDiff,Int.reduceLE,Int.reduceNe,Int.reduceEq,Nat.reduceEqDiff,Nat.reduceLT,Nat.reduceBEq,List.map_cons,List.map_nil,List.toList_toArray,Array.toList_append,Option.toArray_some,Option.toArray_none,Bool.and_self,ty,Sscr,scrPl,lightTS,yesS27,hll,hc,hL,hexw,hmu,DA,hex1,hu,DB,hcl,List.length_cons,List.length_nil,Int.toNat_natCast]
     repeat (refine And.intro (by first | omega | decide | (rintro y rfl; rfl)) ?_)
     exact zay 4 rfl
   have DB := decide_eq_true LB
   have hft := fit_of ha (LB.2 s (by simp))
   have hfes : ∀ p ∈ es,fitS p.1 := fun p hp => fit_of (hes p hp) (LA.2 p.1 (by rw [← hl]; exact List.mem_map.2 ⟨p,hp,rfl⟩))
   have h30 : es.length ≤ 30 := by have := LA.1; omega
   simp only [go_sem,zab,Nat.reduceAdd,Nat.reduceSub,Nat.reduceMul,Int.reduceToNat,reduceCtorEq,↓reduceIte,Int.reducePow,Nat.reducePow,Int.reduceMod,Nat.reduceLeDiff,Int.reduceLE,Int.reduceNe,Int.reduceEq,Nat.reduceEqDiff,Nat.reduceLT,Nat.reduceBEq,List.map_cons,List.map_nil,List.toList_toArray,Array.toList_append,Option.toArray_some,Option.toArray_none,Bool.and_self,ty,Sscr,scrPl,lightTS,hll,hc,hL,hexw,hmu,DA,hex1,hu,DB,hcl,List.length_cons,List.length_nil,Int.toNat_natCast]
   repeat (refine And.intro (by first | omega | decide | (rintro y rfl; rfl)) ?_)
   refine awpO_loopW ⟨fun m σ => ∃ i : Nat,m = es.length - i ∧ i ≤ es.length ∧
       σ = ⟨[.sg 22 (es.map stP) fl,.agg [.w (.int .u8 s.k),.w (.int .u8 s.q.k),.str s.q.t,.w (.int .i64 s.q.i),.w (.int .i64 s.q.p),.w (.bool s.q.c),.w (.bool s.q.f),.w (.int .i64 s.q.o),.w (.int .i64 s.q.m),.w (.int .i64 s.q.w),.str s.q.g,.str s.q.mb,.w (.int .i64 s.q.n),.w (.int .i64 s.q.b.b),.w (.int .i64 s.q.b.c),.w (.int .i64 s.q.b.p),.w (.int .i64 s.q.b.e),.w (.int .i64 s.q.b.s),.sg 6 (s.q.b.rs.map rv) f1,.w (.int .i64 s.N),.w (.bool s.D),.sb s.ft f2],.junk,.rf 4 22 0 0,.w (.bool false),.w (.int .i64 i),.junk,.junk,.junk,.junk,.junk,.junk,.junk,.junk,.junk,.junk,.junk,.junk,.junk,.junk,.junk,.junk,.junk,.junk,.junk,.junk,.junk,.junk,.junk,.junk,.junk,.junk,.junk,.junk,.junk,.junk,.junk,.junk,.junk,.junk,.junk,.junk,.junk,.junk,.junk,.junk,.junk,.junk,.junk,.junk,.junk,.junk,.junk,.junk,.junk,.junk,.junk,.junk,.junk,.junk,.junk,.junk,.junk,.junk,.junk,.junk,.junk,.junk,.junk,.junk,.junk,.junk,.junk,.junk,.junk,.junk,.junk,.junk,.junk,.junk,.junk,.junk,.junk,.junk,.junk,.junk,.junk,.junk,.junk,.junk,.junk,.junk,.junk,.junk,.junk],[(4,.g 22 [.agg [.w (.int .u8 s.k),.w (.int .u8 s.q.k),.str s.q.t,.w (.int .i64 s.q.i),.w (.int .i64 s.q.p),.w (.bool s.q.c),.w (.bool s.q.f),.w (.int .i64 s.q.o),.w (.int .i64 s.q.m),.w (.int .i64 s.q.w),.str s.q.g,.str s.q.mb,.w (.int .i64 s.q.n),.w (.int .i64 s.q.b.b),.w (.int .i64 s.q.b.c),.w (.int .i64 s.q.b.p),.w (.int .i64 s.q.b.e),.w (.int .i64 s.q.b.s),.sg 6 (s.q.b.rs.map rv) f1,.w (.int .i64 s.N),.w (.bool s.D),.sb s.ft f2]])],5⟩,?_,?_⟩
   · refine ⟨_,_,zag [0,1,2,3,4] rfl rfl rfl ?_ ?_,0,rfl,by omega,rfl⟩
     · simp only [ssT,zai,zaj,setSlot,gOf,AV.ren,renL,Blk.ren,Ax.look,Ax.put,reduceCtorEq,↓reduceIte,Nat.reduceEqDiff,Nat.reduceLT,Nat.reduceAdd,List.length_append,List.length_cons,List.length_nil,Option.some.injEq]; try simp
     · simp only [ssT,zai,zaj,setSlot,gOf,AV.ren,renL,Blk.ren,Ax.look,Ax.put,reduceCtorEq,↓reduceIte,Nat.reduceEqDiff,Nat.reduceLT,Nat.reduceAdd,List.length_append,List.length_cons,List.length_nil,Option.some.injEq]; try simp
   · rintro m σ ⟨i,rfl,hi,rfl⟩
     by_cases hil : i < es.length
     · have d2 : decide ((i : Int) < es.length) = true := decide_eq_true (by omega)
       have e1 : ((i : Int) + 1 + 9223372036854775808) % 18446744073709551616 - 9223372036854775808 = ((i + 1 : Nat) : Int) := by omega
       have hs1 := slot_stP es i hil
       have hfr := hfes es[i] (List.getElem_mem hil)
       obtain ⟨⟨r,g1,g2⟩,hR⟩ : ∃ P,es[i] = P := ⟨_,rfl⟩
       rw [hR] at hs1 hfr
       have hs1 : slot (es.map stP) i = .agg [.w (.int .u8 r.k),.w (.int .u8 r.q.k),.str r.q.t,.w (.int .i64 r.q.i),.w (.int .i64 r.q.p),.w (.bool r.q.c),.w (.bool r.q.f),.w (.int .i64 r.q.o),.w (.int .i64 r.q.m),.w (.int .i64 r.q.w),.str r.q.g,.str r.q.mb,.w (.int .i64 r.q.n),.w (.int .i64 r.q.b.b),.w (.int .i64 r.q.b.c),.w (.int .i64 r.q.b.p),.w (.int .i64 r.q.b.e),.w (.int .i64 r.q.b.s),.sg 6 (r.q.b.rs.map rv) g1,.w (.int .i64 r.N),.w (.bool r.D),.sb r.ft g2] := hs1
       obtain ⟨⟨hk0,hk1⟩,⟨⟨hq0,hq1⟩,lq,iq,h40⟩,hN,hfl⟩ := hfr
       simp only at hk0 hk1 hq0 hq1 lq iq h40 hN hfl
       have h40 : (r.q.b.rs.map rv).length ≤ 40 := by rw [List.length_map]; exact h40
       have h40s : (s.q.b.rs.map rv).length ≤ 40 := by rw [List.length_map]; exact hft.2.1.2.2.2
       have hL1 : (r.q.b.rs.map rv).length ≤ 9223372036854775807 := by omega
       have hL2 : (s.q.b.rs.map rv).length ≤ 9223372036854775807 := by omega
       have hex : ∃ qs : List Rec,r.q.b.rs.map rv = qs.map rv := ⟨r.q.b.rs,rfl⟩
       have hexs : ∃ qs : List Rec,s.q.b.rs.map rv = qs.map rv := ⟨s.q.b.rs,rfl⟩
       have hmr := zae r.q.b.rs
       have hms := zae s.q.b.rs
       have hclr := zbp r.q.b.rs
       obtain ⟨C,hC⟩ : ∃ C,chkT r.k r.q.k r.q.t r.q.i r.q.p r.q.c r.q.f r.q.o r.q.m r.q.w r.q.g r.q.mb r.q.n r.q.b.b r.q.b.c r.q.b.p r.q.b.e r.q.b.s r.q.b.rs r.N r.D r.ft = C := ⟨_,rfl⟩
       obtain ⟨W,hW⟩ : ∃ W,putT r.k r.q.k r.q.t r.q.i r.q.p r.q.c r.q.f r.q.o r.q.m r.q.w r.q.g r.q.mb r.q.n r.q.b.b r.q.b.c r.q.b.p r.q.b.e r.q.b.s r.q.b.rs r.N r.D r.ft = W := ⟨_,rfl⟩
       obtain ⟨B,hB⟩ : ∃ B,eqT r.k r.N r.D r.ft s.k s.N s.D s.ft (eqQ r.q.k r.q.t r.q.i r.q.p r.q.c r.q.f r.q.o r.q.m r.q.w r.q.g r.q.mb r.q.n s.q.k s.q.t s.q.i s.q.p s.q.c s.q.f s.q.o s.q.m s.q.w s.q.g s.q.mb s.q.n (zbq r.q.b.b r.q.b.c r.q.b.p r.q.b.e r.q.b.s r.q.b.rs s.q.b.b s.q.b.c s.q.b.p s.q.b.e s.q.b.s s.q.b.rs)) = B := ⟨_,rfl⟩
       have dW : decide (W = W) = true := decide_eq_true rfl
       have dC : decide (C = C) = true := decide_eq_true rfl
       have dB : (B == B) = true := beq_self_eq_true B
       simp only [go_sem,zab,Nat.reduceAdd,Nat.reduceSub,Nat.reduceMul,Int.reduceToNat,reduceCtorEq,↓reduceIte,Int.reducePow,Nat.reducePow,Int.reduceMod,Nat.reduceLeDiff,Int.reduceLE,Int.reduceNe,Int.reduceEq,Nat.reduceEqDiff,Nat.reduceLT,Nat.reduceBEq,List.map_cons,List.map_nil,List.toList_toArray,Array.toList_append,Option.toArray_some,Option.toArray_none,Bool.and_self,ty,Sscr,scrPl,zdp,zba,hll,d2,e1,hs1,hk0,hk1,hq0,hq1,lq,iq,h40,hN,hfl,hex,hmr,hL1,hL2,hexs,hms,hcl,hclr,hC,hW,hB,dW,dC,dB,tk,Int.toNat_natCast]
       repeat (refine And.intro (by first | omega | decide | (rintro y rfl; rfl)) ?_)
       refine ⟨es.length - (i + 1),_,by omega,zag [0,1,2,3,4] rfl rfl rfl ?_ ?_,i + 1,rfl,by omega,rfl⟩
       · simp only [ssT,zai,zaj,setSlot,gOf,AV.ren,renL,Blk.ren,Ax.look,Ax.put,reduceCtorEq,↓reduceIte,Nat.reduceEqDiff,Nat.reduceLT,Nat.reduceAdd,List.length_append,List.length_cons,List.length_nil,Option.some.injEq]; try simp
       · simp only [ssT,zai,zaj,setSlot,gOf,AV.ren,renL,Blk.ren,Ax.look,Ax.put,reduceCtorEq,↓reduceIte,Nat.reduceEqDiff,Nat.reduceLT,Nat.reduceAdd,List.length_append,List.length_cons,List.length_nil,Option.some.injEq]; try simp
     · have d2 : decide ((i : Int) < es.length) = false := decide_eq_false (by omega)
       have hexf : ∃ gs : List (St × Bool × Bool),es.map stP = gs.map stP ∧ ∀ p ∈ gs,fitS p.1 := ⟨es,rfl,hfes⟩
       have hexg : ∃ gs : List (St × Bool × Bool),es.map stP = gs.map stP := ⟨es,rfl⟩
       have hLm : es.length ≤ 1000000 := by omega
       obtain ⟨C,hC⟩ : ∃ C,chkP l = C := ⟨_,rfl⟩
       obtain ⟨W,hW⟩ : ∃ W,putP l = W := ⟨_,rfl⟩
       have dW : decide (W = W) = true := decide_eq_true rfl
       have dC : decide (C = C) = true := decide_eq_true rfl
       simp only [go_sem,zab,Nat.reduceAdd,Nat.reduceSub,Nat.reduceMul,Int.reduceToNat,reduceCtorEq,↓reduceIte,Int.reducePow,Nat.reducePow,Int.reduceMod,Nat.reduceLeDiff,Int.reduceLE,Int.reduceNe,Int.reduceEq,Nat.reduceEqDiff,Nat.reduceLT,Nat.reduceBEq,List.map_cons,List.map_nil,List.toList_toArray,Array.toList_append,Option.toArray_some,Option.toArray_none,Bool.and_self,ty,Sscr,scrPl,hll,d2]
       refine ⟨_,Weak.refl _,?_⟩
       simp only [go_sem,zab,Nat.reduceAdd,Nat.reduceSub,Nat.reduceMul,Int.reduceToNat,reduceCtorEq,↓reduceIte,Int.reducePow,Nat.reducePow,Int.reduceMod,Nat.reduceLeDiff,Int.reduceLE,Int.reduceNe,Int.reduceEq,Nat.reduceEqDiff,Nat.reduceLT,Nat.reduceBEq,List.map_cons,List.map_nil,List.toList_toArray,Array.toList_append,Option.toArray_some,Option.toArray_none,Bool.and_self,ty,Sscr,scrPl,ownTS,putPS,yesS27,hll,hc,hc2,hL,hLm,hexf,hexg,hmu,hC,hW,dW,dC,tk]
       exact zay 4 rfl
 · exact hp.elim
end
theorem scr_dom {x y : AV} (hx : Arg ty 8 22 x) (hy : Arg ty 8 30 y) : (scrS [x,y] []).p ∧ (scrS [x,y] []).x = .w (.bool true) := by
 obtain ⟨es,f,rfl,hl,he⟩ := arg_sts27 hx
 exact ⟨⟨⟨es,rfl,hl,he⟩,arg_st27 (j := 1) hy⟩,rfl⟩
end Go.Proofs.Ytihbcgbmlecpbaa
