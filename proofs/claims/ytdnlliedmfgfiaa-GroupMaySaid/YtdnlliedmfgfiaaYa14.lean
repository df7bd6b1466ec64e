/- What the proofs of this seat stand on; it asks nothing. -/
import Derived.Test.YtdnlliedmfgfiaaYa13
set_option linter.unusedSimpArgs false
set_option linter.unusedVariables false
namespace Go.Proofs.Ytdnlliedmfgfiaa
open Ax
theorem zua (g : Nat → Nat) : ∀ (l : List Mb),renL g (l.map fun m => AV.str m.d) = l.map fun m => AV.str m.d
 | [] => rfl
 | x :: r => by simp only [List.map_cons,renL,zua g r]; rfl
theorem slot_si : ∀ (l : List (List Int)) (i : Nat) (h : i < l.length),slot (l.map siA) i = .si l[i] false
 | _ :: _,0,_ => rfl
 | _ :: r,i + 1,h => by
   simp only [List.map_cons,slot,List.getElem_cons_succ]
   exact slot_si r i (by simpa using h)
def ofF (l : List (List UInt8)) (p : Int) (v : List UInt8) : List Int := (rgF l.length p).getD (plT v l) []
def ofS : zan
 | [.sg 1 xs f,.w (.int .i64 p),.str v],[] => ⟨xs.length ≤ 1000000 ∧ ∃ l : List (List UInt8),xs = l.map AV.str ∧ srtT l ∧ thT v l = true,.si (ofF (xs.map strB) p v) false,[]⟩
 | _,_ => zbo
def Sof19 (f : FuncId) : Option zan :=
 match f with
 | 62 => some sdTS
 | 63 => some rgS
 | 61 => some bsTS
 | _ => none
theorem Sof19_ok : Fns Try.prog Sof19 := by
 intro f s h
 unfold Sof19 at h
 split at h
 · injection h with h; subst h; exact ⟨⟨_,Try.func62,by kernel_rfl,by kernel_rfl⟩,zvj⟩
 · injection h with h; subst h; exact ⟨⟨_,Try.func63,by kernel_rfl,by kernel_rfl⟩,rg_sound⟩
 · injection h with h; subst h; exact ⟨⟨_,Try.func61,by kernel_rfl,by kernel_rfl⟩,bsT_sound⟩
 · cases h
section
set_option maxRecDepth 100000
set_option maxHeartbeats 4000000
theorem of_sound : zbm Try.prog 39 ofS := by
 refine zdo (S := Sof19) (T := ty) mixed ty_ok Sof19_ok Try.func39 (c := Try.f39.body.getD .skip) (by kernel_rfl) (by kernel_rfl) (fun xs pins hp _ => ?_)
 unfold ofS at hp ⊢
 split at hp
 · rename_i xs f p v _
   obtain ⟨hL,l,rfl,hs,ht⟩ := hp
   rw [List.length_map] at hL
   refine ⟨by simp,?_⟩
   have hlp : (l.map AV.str).length = l.length := by simp
   have hex2 : ∃ es : List (List UInt8),l.map AV.str = es.map AV.str ∧ srtT es := ⟨l,rfl,hs⟩
   have hst := zlx l
   have hpl : plT v l < l.length := by
     rcases Nat.lt_or_ge (plT v l) l.length with h | h
     · exact h
     · rw [thT_end (by omega)] at ht; cases ht
   have h0 : 0 < l.length := by omega
   have hrl : (rgF l.length p).length = l.length := rgK_len _ _ _
   have hsl := slot_si (rgF l.length p) (plT v l) (by omega)
   have hof : ofF l p v = (rgF l.length p)[plT v l]'(by omega) := by unfold ofF; rw [List.getD_eq_getElem?_getD,List.getElem?_eq_getElem (by omega)]; rfl
   rw [hst,hof]
   have hrm : ((rgF l.length p).map siA).length = l.length := by simp [hrl]
   obtain ⟨X,hX⟩ : ∃ X,(rgF l.length p)[plT v l]'(by omega) = X := ⟨_,rfl⟩
   rw [hX] at hsl ⊢
   clear hof hX
   obtain ⟨G,hG⟩ : ∃ G,rgF l.length p = G := ⟨_,rfl⟩
   obtain ⟨K,hK⟩ : ∃ K,plT v l = K := ⟨_,rfl⟩
   rw [hG,hK] at hsl
   rw [hG] at hrm
   rw [hK] at hpl
   have hcg : ∀ h,coe ty 95 (.sg 1 (G.map siA) h) = .sg 1 (G.map siA) h := fun h => by cases G <;> rfl
   unfold Try.f39
   simp only [go_sem,zab,Nat.reduceAdd,Nat.reduceSub,Nat.reduceMul,Int.reduceToNat,reduceCtorEq,↓reduceIte,Int.reducePow,Nat.reducePow,Int.reduceMod,Nat.reduceLeDiff,Int.reduceLE,Int.reduceNe,Int.reduceEq,Nat.reduceEqDiff,Nat.reduceLT,Nat.reduceBEq,ty,Sof19,sdTS,rgS,bsTS,hlp,h0,hL,hex2,hst,ht,hG,hK,hsl,hrm,hpl,zmm,hcg,Int.toNat_natCast,Bool.not_true]
   omega
 · exact hp.elim
end
def namS : zan
 | [.agg [.w (.int .i64 gn),.w (.int .u8 ph),.sg 3 xs f]],[] => ⟨xs.length ≤ 1000000 ∧ ∃ l : List Mb,xs = l.map mbA,.sg 1 ((xs.map umb).map fun m => .str m.d) false,[]⟩
 | _,_ => zbo
section
set_option maxRecDepth 100000
set_option maxHeartbeats 4000000
theorem nam_sound : zbm Try.prog 18 namS := by
 refine zdo (S := noS) (T := ty) mixed ty_ok zbv Try.func18 (c := Try.f18.body.getD .skip) (by kernel_rfl) (by kernel_rfl) (fun xs pins hp _ => ?_)
 unfold namS at hp ⊢
 split at hp
 · rename_i gn ph xs f _
   obtain ⟨hL,l,rfl⟩ := hp
   rw [List.length_map] at hL
   have hlp : (l.map mbA).length = l.length := by simp
   have hmm := zai l
   rw [hmm]
   refine ⟨by simp,?_⟩
   unfold Try.f18
   simp only [go_sem,zab,Nat.reduceAdd,Nat.reduceSub,Nat.reduceMul,Int.reduceToNat,reduceCtorEq,↓reduceIte,Int.reducePow,Nat.reducePow,Int.reduceMod,Nat.reduceLeDiff,Int.reduceLE,Int.reduceNe,Int.reduceEq,Nat.reduceEqDiff,Nat.reduceLT,Nat.reduceBEq,ty,noS,hlp]
   refine zbx ⟨fun m σ => ∃ (k : Nat),m = l.length - k ∧ k ≤ l.length ∧
       σ = ⟨[.agg [.w (.int .i64 gn),.w (.int .u8 ph),.sg 3 (l.map mbA) f],.junk,.sg 1 [] true,.ms 4 1 0 k,.junk,.junk,.junk,.sg 3 (l.map mbA) f,.w (.int .i64 l.length),.w (.int .i64 k),.junk,.junk,.junk,.junk,.junk,.junk,.junk,.junk,.junk,.junk],[(4,.g 1 ((l.take k).map fun m => .str m.d))],5⟩,?_,?_⟩
   · refine ⟨_,_,(zoe 3 1 (.g 1 []) ⟨by decide,rfl⟩ (by exact trivial)).trans (zaj [0,1,2,3,60] rfl rfl rfl ?_ ?_),0,rfl,by omega,rfl⟩
     · simp only [ssT,zar,zas,setSlot,gOf,AV.ren,renL,Blk.ren,Ax.look,Ax.put,reduceCtorEq,↓reduceIte,Nat.reduceEqDiff,Nat.reduceLT,Nat.reduceAdd,List.length_append,List.length_cons,List.length_nil,Option.some.injEq]; try simp
     · simp only [ssT,zar,zas,setSlot,gOf,AV.ren,renL,Blk.ren,Ax.look,Ax.put,reduceCtorEq,↓reduceIte,Nat.reduceEqDiff,Nat.reduceLT,Nat.reduceAdd,List.length_append,List.length_cons,List.length_nil,Option.some.injEq]; try simp [renL]
   · rintro m σ ⟨k,rfl,hk,rfl⟩
     have e1 : ((k : Int) + 1 + 9223372036854775808) % 18446744073709551616 - 9223372036854775808 = ((k + 1 : Nat) : Int) := by omega
     have hrn : (((l.take k).map fun m => AV.str m.d)).length = k := by simp; omega
     by_cases hkl : k < l.length
     · have d3 : decide ((k : Int) < (l.length : Int)) = true := decide_eq_true (by omega)
       have hs1 := zcu l k hkl
       have hap : ((l.take k).map fun m => AV.str m.d) ++ [.str (l[k]).d] = (l.take (k + 1)).map fun m => AV.str m.d := by
         rw [List.take_succ_eq_append_getElem hkl,List.map_append]; rfl
       obtain ⟨X,hX⟩ : ∃ X,l[k] = X := ⟨_,rfl⟩
       rw [hX] at hs1 hap
       obtain ⟨xd,xt,xy⟩ := X
       have hs1 : slot (l.map mbA) k = .agg [.str xd,.w (.int .i64 xt),.w (.bool xy)] := hs1
       simp only at hap
       simp only [go_sem,zab,Nat.reduceAdd,Nat.reduceSub,Nat.reduceMul,Int.reduceToNat,reduceCtorEq,↓reduceIte,Int.reducePow,Nat.reducePow,Int.reduceMod,Nat.reduceLeDiff,Int.reduceLE,Int.reduceNe,Int.reduceEq,Nat.reduceEqDiff,Nat.reduceLT,Nat.reduceBEq,ty,noS,hlp,d3,hs1,e1,hrn,hap,Int.toNat_natCast]
       refine ⟨⟨by omega,hkl⟩,by unfold top; omega,l.length - (k + 1),_,by omega,zaj [0,1,2,3,77] rfl rfl rfl ?_ ?_,k + 1,rfl,by omega,rfl⟩
       · simp only [ssT,zar,zas,setSlot,gOf,AV.ren,renL,Blk.ren,Ax.look,Ax.put,reduceCtorEq,↓reduceIte,Nat.reduceEqDiff,Nat.reduceLT,Nat.reduceAdd,List.length_append,List.length_cons,List.length_nil,Option.some.injEq,zae]; try simp
       · simp only [ssT,zar,zas,setSlot,gOf,AV.ren,renL,Blk.ren,Ax.look,Ax.put,reduceCtorEq,↓reduceIte,Nat.reduceEqDiff,Nat.reduceLT,Nat.reduceAdd,List.length_append,List.length_cons,List.length_nil,Option.some.injEq,zua]; try rw [zua]
     · have d3 : decide ((k : Int) < (l.length : Int)) = false := decide_eq_false (by omega)
       obtain rfl : k = l.length := by omega
       have hcl : closedL (l.map fun m => AV.str m.d) = true := by
         have := zht (l.map fun m => m.d)
         rw [List.map_map] at this; exact this
       have htt : l.take l.length = l := List.take_length
       rw [htt] at hrn ⊢
       simp only [go_sem,zab,Nat.reduceAdd,Nat.reduceSub,Nat.reduceMul,Int.reduceToNat,reduceCtorEq,↓reduceIte,Int.reducePow,Nat.reducePow,Int.reduceMod,Nat.reduceLeDiff,Int.reduceLE,Int.reduceNe,Int.reduceEq,Nat.reduceEqDiff,Nat.reduceLT,Nat.reduceBEq,ty,noS,d3]
       have hdle : decide (0 + l.length ≤ (l.map fun m => AV.str m.d).length) = true := decide_eq_true (by rw [hrn]; omega)
       have htk : List.take l.length (l.map fun m => AV.str m.d) = l.map fun m => AV.str m.d := List.take_of_length_le (by rw [hrn]; omega)
       refine ⟨_,zdg 4 1 3 (l.map fun m => AV.str m.d) rfl hcl (by simp [slot,AV.ids]),?_⟩
       simp only [fgL,fgH,AV.fg,Blk.fg,Nat.reduceBEq,cond_true,cond_false,hdle,Bool.and_true,beq_self_eq_true,Bool.true_and,List.drop_zero,htk]
       simp only [go_sem,zab,Nat.reduceAdd,Nat.reduceSub,Nat.reduceMul,Int.reduceToNat,reduceCtorEq,↓reduceIte,Int.reducePow,Nat.reducePow,Int.reduceMod,Nat.reduceLeDiff,Int.reduceLE,Int.reduceNe,Int.reduceEq,Nat.reduceEqDiff,Nat.reduceLT,Nat.reduceBEq,ty,noS]
 · exact hp.elim
end
end Go.Proofs.Ytdnlliedmfgfiaa
namespace Go.Proofs.Ytdnlliedmfgfiaa
open Ax
theorem bl_irr : ∀ g : List UInt8,Op.bytesLess g g = false
 | [] => rfl
 | a :: r => by
   have h1 : ¬ a < a := by simp
   simp [Op.bytesLess,bl_irr r,h1]
theorem bl_trans : ∀ {x y z : List UInt8},Op.bytesLess x y = true → Op.bytesLess y z = true → Op.bytesLess x z = true
 | [],[],_,h1,_ => by simp [Op.bytesLess] at h1
 | _ :: _,[],_,h1,_ => by simp [Op.bytesLess] at h1
 | _,_ :: _,[],_,h2 => by simp [Op.bytesLess] at h2
 | [],_ :: _,_ :: _,_,_ => rfl
 | a :: x,b :: y,c :: z,h1,h2 => by
   simp only [Op.bytesLess,Bool.or_eq_true,decide_eq_true_eq,Bool.and_eq_true,beq_iff_eq] at *
   rcases h1 with h1 | ⟨rfl,h1⟩
   · rcases h2 with h2 | ⟨rfl,h2⟩
     · rw [UInt8.lt_iff_toNat_lt] at *
       exact .inl (by omega)
     · exact .inl h1
   · rcases h2 with h2 | ⟨rfl,h2⟩
     · exact .inl h2
     · exact .inr ⟨rfl,bl_trans h1 h2⟩
theorem bl_tot : ∀ {x y : List UInt8},x ≠ y → Op.bytesLess x y = false → Op.bytesLess y x = true
 | [],[],h,_ => absurd rfl h
 | [],_ :: _,_,h1 => by simp [Op.bytesLess] at h1
 | _ :: _,[],_,_ => rfl
 | a :: x,b :: y,h,h1 => by
   simp only [Op.bytesLess,Bool.or_eq_true,Bool.or_eq_false_iff,decide_eq_true_eq,decide_eq_false_iff_not,Bool.and_eq_true,beq_iff_eq] at *
   by_cases hab : a = b
   · subst hab
     refine .inr ⟨rfl,bl_tot (fun e => h (by rw [e])) ?_⟩
     have := h1.2
     simpa using this
   · left
     rw [UInt8.lt_iff_toNat_lt] at *
     have : a.toNat ≠ b.toNat := fun e => hab (UInt8.toNat_inj.1 e)
     have := h1.1
     omega
theorem leD_asym {a v : List UInt8} (h : leD a v = true) (hn : a ≠ v) : leD v a = false := by
 unfold leD at h ⊢
 simp only [Bool.or_eq_true,decide_eq_true_eq,Bool.or_eq_false_iff,decide_eq_false_iff_not] at h ⊢
 have h1 : Op.bytesLess a v = true := by
   rcases h with h | h
   · exact h
   · exact absurd h hn
 refine ⟨?_,fun e => hn e.symm⟩
 cases hb : Op.bytesLess v a with
 | false => rfl
 | true =>
   have := bl_trans h1 hb
   rw [bl_irr] at this
   cases this
theorem ins_cons (v : List UInt8) (now : Int) (a : Mb) (r : List Mb) : insM v now (a :: r) = if zgb v a = true then ⟨v,now,false⟩ :: a :: r else a :: insM v now r := by
 unfold insM
 rw [List.findIdx_cons]
 cases h : zgb v a with
 | true => simp
 | false => simp
theorem ins_nil (v : List UInt8) (now : Int) : insM v now [] = [⟨v,now,false⟩] := rfl
def aft (p : Option (List UInt8)) (v : List UInt8) : Prop := ∀ q,p = some q → leD v q = false
theorem zej (p : Option (List UInt8)) (a : Mb) (r : List Mb) : zbu p (a :: r) = true ↔ rowB a = true ∧ aft p a.d ∧ zbu (some a.d) r = true := by
 cases p with
 | none => simp [zbu,aft]
 | some q => simp [zbu,aft]
theorem rows_ins {v : List UInt8} {now : Int} (hI : idB v = true) (hT : timB now = true) : ∀ (l : List Mb) (p : Option (List UInt8)),zbu p l = true → aft p v → (∀ m ∈ l,m.d ≠ v) → zbu p (insM v now l) = true
 | [],p,_,ha,_ => by
   rw [ins_nil,zej]
   refine ⟨?_,ha,?_⟩
   · unfold rowB; rw [hI,hT]; rfl
   · rfl
 | a :: r,p,h,ha,hn => by
   rw [zej] at h
   obtain ⟨h1,h2,h3⟩ := h
   rw [ins_cons]
   cases hp : zgb v a with
   | true =>
     rw [if_pos rfl,zej,zej]
     refine ⟨?_,ha,h1,?_,h3⟩
     · unfold rowB; rw [hI,hT]; rfl
     · intro q e
       injection e with e
       subst e
       unfold zgb at hp
       simpa using hp
   | false =>
     rw [if_neg (by simp),zej]
     refine ⟨h1,h2,rows_ins hI hT r _ h3 ?_ (fun m hm => hn m (List.mem_cons_of_mem _ hm))⟩
     intro q e
     injection e with e
     subst e
     unfold zgb at hp
     exact leD_asym (by simpa using hp) (hn a (by simp))
theorem ztz : ∀ (l : List Mb) (p : Option (List UInt8)),zbu p (l.map clrM) = zbu p l
 | [],none => rfl
 | [],some _ => rfl
 | a :: r,none => by
   show (rowB (clrM a) && zbu (some (clrM a).d) (r.map clrM)) = _
   rw [ztz r]; rfl
 | a :: r,some q => by
   show (rowB (clrM a) && (!(leD (clrM a).d q) && zbu (some (clrM a).d) (r.map clrM))) = _
   rw [ztz r]; rfl
theorem not_there {v : List UInt8} {l : List Mb} (h : ¬ l.findIdx (isD v) < l.length) : ∀ m ∈ l,m.d ≠ v := by
 intro m hm e
 refine h (List.findIdx_lt_length_of_exists ⟨m,hm,?_⟩)
 unfold isD
 rw [e]
 exact decide_eq_true rfl
theorem clr_ins_len (v : List UInt8) (now : Int) (l : List Mb) : ((insM v now l).map clrM).length = l.length + 1 := by
 have := List.findIdx_le_length (p := zgb v) (xs := l)
 unfold insM
 simp only [List.length_map,List.length_append,List.length_take,List.length_cons,List.length_drop]
 omega
theorem jo_ok20 {gn ph : Int} {l : List Mb} {v : List UInt8} {now : Int} (h : (joF gn ph l v now).e = 0) :
   chG gn ph l = 0 ∧ idB v = true ∧ timB now = true ∧
   ((l.findIdx (isD v) < l.length ∧ joF gn ph l v now = ⟨gn,ph,l.set (l.findIdx (isD v)) (zeu now (mbI l (l.findIdx (isD v)))),false,0⟩) ∨
    (¬ l.findIdx (isD v) < l.length ∧ l.length < 16 ∧ joF gn ph l v now = ⟨gn + 1,1,(insM v now l).map clrM,false,0⟩)) := by
 unfold joF at h ⊢
 by_cases hc : chG gn ph l = 0
 · rw [if_pos hc] at h ⊢
   by_cases hI : idB v = true
   · rw [if_pos hI] at h ⊢
     by_cases hT : timB now = true
     · rw [if_pos hT] at h ⊢
       refine ⟨hc,hI,hT,?_⟩
       by_cases hf : l.findIdx (isD v) < l.length
       · rw [if_pos hf]
         exact .inl ⟨hf,rfl⟩
       · rw [if_neg hf] at h ⊢
         by_cases h9 : 16 ≤ l.length
         · rw [if_pos h9] at h
           exact absurd h (by decide)
         · rw [if_neg h9] at h ⊢
           by_cases hg : gn = 1099511627776
           · rw [if_pos hg] at h
             exact absurd h (by decide)
           · rw [if_neg hg]
             exact .inr ⟨hf,by omega,rfl⟩
     · rw [if_neg hT] at h
       exact absurd h (by decide)
   · rw [if_neg hI] at h
     exact absurd h (by decide)
 · rw [if_neg hc] at h
   exact absurd h hc
end Go.Proofs.Ytdnlliedmfgfiaa
namespace Go.Proofs.Ytdnlliedmfgfiaa
open Ax
def fiF (gn ph : Int) (l : List Mb) (v : List UInt8) (gen now : Int) : Int × Int :=
 if chG gn ph l = 0 then
   if timB now = true then
     if l.findIdx (isD v) < l.length then
       if gen = gn then ((l.findIdx (isD v) : Nat),0) else (0,19)
     else (0,20)
   else (0,11)
 else (0,chG gn ph l)
def zqb : zan
 | [.agg [.w (.int .i64 gn),.w (.int .u8 ph),.sg 3 xs f],.str v,.w (.int .i64 gen),.w (.int .i64 now)],[] => ⟨xs.length ≤ 900000 ∧ ∃ l : List Mb,xs = l.map mbA ∧ ∀ r ∈ l,r.d.length ≤ 9223372036854775807,.tup [.w (.int .i64 (fiF gn ph (xs.map umb) v gen now).1),.w (.int .i64 (fiF gn ph (xs.map umb) v gen now).2)],[]⟩
 | _,_ => zbo
def beF (gn ph : Int) (l : List Mb) (v : List UInt8) (gen now : Int) : JR :=
 if (fiF gn ph l v gen now).2 = 0 then ⟨gn,ph,l.set (l.findIdx (isD v)) (zeu now (mbI l (l.findIdx (isD v)))),false,0⟩
 else errJ (fiF gn ph l v gen now).2
def beS : zan
 | [.agg [.w (.int .i64 gn),.w (.int .u8 ph),.sg 3 xs f],.str v,.w (.int .i64 gen),.w (.int .i64 now)],[] => ⟨xs.length ≤ 900000 ∧ ∃ l : List Mb,xs = l.map mbA ∧ ∀ r ∈ l,r.d.length ≤ 9223372036854775807,jrA (beF gn ph (xs.map umb) v gen now),[]⟩
 | _,_ => zbo
def znq (f : FuncId) : Option zan :=
 match f with
 | 16 => some chGS
 | 27 => some timS
 | 28 => some zew
 | _ => none
theorem Sfi20_ok : Fns Try.prog znq := by
 intro f s h
 unfold znq at h
 split at h
 · injection h with h; subst h; exact ⟨⟨_,Try.func16,by kernel_rfl,by kernel_rfl⟩,zjf⟩
 · injection h with h; subst h; exact ⟨⟨_,Try.func27,by kernel_rfl,by kernel_rfl⟩,zot⟩
 · injection h with h; subst h; exact ⟨⟨_,Try.func28,by kernel_rfl,by kernel_rfl⟩,znb⟩
 · cases h
section
set_option maxRecDepth 100000
set_option maxHeartbeats 8000000
theorem fi_sound : zbm Try.prog 36 zqb := by
 refine zjb (S := znq) (T := ty) mixed ty_ok Sfi20_ok Try.func36 (c := Try.f36.body.getD .skip) (by kernel_rfl) (by kernel_rfl) (fun xs pins hp _ => ?_)
 unfold zqb at hp ⊢
 split at hp
 · rename_i gn ph xs f v gen now _
   obtain ⟨hL0,l,rfl,hd⟩ := hp
   rw [List.length_map] at hL0
   have hle : (l.map mbA).length = l.length := by simp
   have hL : l.length ≤ 1000000 := by omega
   have hL9 : l.length ≤ 9223372036854775807 := by omega
   have hLj : l.length ≤ 900000 := by omega
   have hex : ∃ k : List Mb,l.map mbA = k.map mbA := ⟨l,rfl⟩
   have hxd : ∃ k : List Mb,l.map mbA = k.map mbA ∧ ∀ r ∈ k,r.d.length ≤ 9223372036854775807 := ⟨l,rfl,hd⟩
   have coeN : ∀ f,coe ty 29 (.sg 3 [] f) = .sg 3 [] f := fun f => rfl
   rw [zai]
   unfold fiF
   refine ⟨by simp,?_⟩
   unfold Try.f36
   by_cases hch : chG gn ph l = 0
   · have q0 : decide (chG gn ph l = 0) = true := decide_eq_true hch
     rw [if_pos hch]
     cases hT : timB now with
     | false =>
       rw [if_neg (by simp)]
       simp (config := { maxSteps := 3000000 }) only [go_sem,zab,Nat.reduceAdd,Nat.reduceSub,Nat.reduceMul,Int.reduceToNat,reduceCtorEq,↓reduceIte,Int.reducePow,Nat.reducePow,Int.reduceMod,Nat.reduceLeDiff,Int.reduceLE,Int.reduceNe,Int.reduceEq,Nat.reduceEqDiff,Nat.reduceLT,Nat.reduceBEq,ty,znq,chGS,timS,zew,zaw,coeN,hle,hL,hL9,hLj,hex,hxd,zai,zad,hch,Int.toNat_natCast,Bool.not_true,Bool.not_false,decide_true,q0,hT]
       repeat (refine And.intro (by first | omega | exact zbg | exact ⟨by omega,by omega⟩ | exact ⟨rfl,rfl⟩ | (unfold top; omega)) ?_)
       refine ⟨_,Weak.refl _,?_⟩
       simp only [go_sem,zab,Nat.reduceAdd,Nat.reduceSub,Nat.reduceMul,Int.reduceToNat,reduceCtorEq,↓reduceIte,Int.reducePow,Nat.reducePow,Int.reduceMod,Nat.reduceLeDiff,Int.reduceLE,Int.reduceNe,Int.reduceEq,Nat.reduceEqDiff,Nat.reduceLT,Nat.reduceBEq,ty,znq]
     | true =>
       rw [if_pos rfl]
       by_cases hf : l.findIdx (isD v) < l.length
       · rw [if_pos hf]
         have hpl : ixG (isD v) l = (l.findIdx (isD v) : Nat) := by unfold ixG; rw [if_pos hf]
         generalize l.findIdx (isD v) = I at *
         have q1 : decide ((I : Int) < 0) = false := decide_eq_false (by omega)
         by_cases hg : gen = gn
         · rw [if_pos hg]
           have q2 : decide (gen = gn) = true := decide_eq_true hg
           simp (config := { maxSteps := 3000000 }) only [go_sem,zab,Nat.reduceAdd,Nat.reduceSub,Nat.reduceMul,Int.reduceToNat,reduceCtorEq,↓reduceIte,Int.reducePow,Nat.reducePow,Int.reduceMod,Nat.reduceLeDiff,Int.reduceLE,Int.reduceNe,Int.reduceEq,Nat.reduceEqDiff,Nat.reduceLT,Nat.reduceBEq,ty,znq,chGS,timS,zew,zaw,coeN,hle,hL,hL9,hLj,hex,hxd,zai,zad,hch,Int.toNat_natCast,Bool.not_true,Bool.not_false,decide_true,q0,hT,hpl,q1,q2]
           repeat (refine And.intro (by first | omega | exact zbg | exact ⟨by omega,by omega⟩ | exact ⟨rfl,rfl⟩ | (unfold top; omega)) ?_)
           refine ⟨_,Weak.refl _,?_⟩
           simp only [go_sem,zab,Nat.reduceAdd,Nat.reduceSub,Nat.reduceMul,Int.reduceToNat,reduceCtorEq,↓reduceIte,Int.reducePow,Nat.reducePow,Int.reduceMod,Nat.reduceLeDiff,Int.reduceLE,Int.reduceNe,Int.reduceEq,Nat.reduceEqDiff,Nat.reduceLT,Nat.reduceBEq,ty,znq]
         · rw [if_neg hg]
           have q2 : decide (gen = gn) = false := decide_eq_false hg
           simp (config := { maxSteps := 3000000 }) only [go_sem,zab,Nat.reduceAdd,Nat.reduceSub,Nat.reduceMul,Int.reduceToNat,reduceCtorEq,↓reduceIte,Int.reducePow,Nat.reducePow,Int.reduceMod,Nat.reduceLeDiff,Int.reduceLE,Int.reduceNe,Int.reduceEq,Nat.reduceEqDiff,Nat.reduceLT,Nat.reduceBEq,ty,znq,chGS,timS,zew,zaw,coeN,hle,hL,hL9,hLj,hex,hxd,zai,zad,hch,Int.toNat_natCast,Bool.not_true,Bool.not_false,decide_true,q0,hT,hpl,q1,q2]
           repeat (refine And.intro (by first | omega | exact zbg | exact ⟨by omega,by omega⟩ | exact ⟨rfl,rfl⟩ | (unfold top; omega)) ?_)
           refine ⟨_,Weak.refl _,?_⟩
           simp only [go_sem,zab,Nat.reduceAdd,Nat.reduceSub,Nat.reduceMul,Int.reduceToNat,reduceCtorEq,↓reduceIte,Int.reducePow,Nat.reducePow,Int.reduceMod,Nat.reduceLeDiff,Int.reduceLE,Int.reduceNe,Int.reduceEq,Nat.reduceEqDiff,Nat.reduceLT,Nat.reduceBEq,ty,znq]
       · rw [if_neg hf]
         have hpl : ixG (isD v) l = -1 := by unfold ixG; rw [if_neg hf]
         have q1 : decide ((-1 : Int) < 0) = true := rfl
         simp (config := { maxSteps := 3000000 }) only [go_sem,zab,Nat.reduceAdd,Nat.reduceSub,Nat.reduceMul,Int.reduceToNat,reduceCtorEq,↓reduceIte,Int.reducePow,Nat.reducePow,Int.reduceMod,Nat.reduceLeDiff,Int.reduceLE,Int.reduceNe,Int.reduceEq,Nat.reduceEqDiff,Nat.reduceLT,Nat.reduceBEq,ty,znq,chGS,timS,zew,zaw,coeN,hle,hL,hL9,hLj,hex,hxd,zai,zad,hch,Int.toNat_natCast,Bool.not_true,Bool.not_false,decide_true,q0,hT,hpl,q1]
         repeat (refine And.intro (by first | omega | exact zbg | exact ⟨by omega,by omega⟩ | exact ⟨rfl,rfl⟩ | (unfold top; omega)) ?_)
         refine ⟨_,Weak.refl _,?_⟩
         simp only [go_sem,zab,Nat.reduceAdd,Nat.reduceSub,Nat.reduceMul,Int.reduceToNat,reduceCtorEq,↓reduceIte,Int.reducePow,Nat.reducePow,Int.reduceMod,Nat.reduceLeDiff,Int.reduceLE,Int.reduceNe,Int.reduceEq,Nat.reduceEqDiff,Nat.reduceLT,Nat.reduceBEq,ty,znq]
   · have q0 : decide (chG gn ph l = 0) = false := decide_eq_false hch
     rw [if_neg hch]
     have hch : True := trivial
     simp (config := { maxSteps := 3000000 }) only [go_sem,zab,Nat.reduceAdd,Nat.reduceSub,Nat.reduceMul,Int.reduceToNat,reduceCtorEq,↓reduceIte,Int.reducePow,Nat.reducePow,Int.reduceMod,Nat.reduceLeDiff,Int.reduceLE,Int.reduceNe,Int.reduceEq,Nat.reduceEqDiff,Nat.reduceLT,Nat.reduceBEq,ty,znq,chGS,timS,zew,zaw,coeN,hle,hL,hL9,hLj,hex,hxd,zai,zad,hch,Int.toNat_natCast,Bool.not_true,Bool.not_false,decide_true,q0]
     repeat (refine And.intro (by first | omega | exact zbg | exact ⟨by omega,by omega⟩ | exact ⟨rfl,rfl⟩ | (unfold top; omega)) ?_)
     refine ⟨_,Weak.refl _,?_⟩
     simp only [go_sem,zab,Nat.reduceAdd,Nat.reduceSub,Nat.reduceMul,Int.reduceToNat,reduceCtorEq,↓reduceIte,Int.reducePow,Nat.reducePow,Int.reduceMod,Nat.reduceLeDiff,Int.reduceLE,Int.reduceNe,Int.reduceEq,Nat.reduceEqDiff,Nat.reduceLT,Nat.reduceBEq,ty,znq]
 · exact hp.elim
end
def Sbe20 (f : FuncId) : Option zan :=
 match f with
 | 36 => some zqb
 | 30 => some zga
 | _ => none
theorem Sbe20_ok : Fns Try.prog Sbe20 := by
 intro f s h
 unfold Sbe20 at h
 split at h
 · injection h with h; subst h; exact ⟨⟨_,Try.func36,by kernel_rfl,by kernel_rfl⟩,fi_sound⟩
 · injection h with h; subst h; exact ⟨⟨_,Try.func30,by kernel_rfl,by kernel_rfl⟩,zmy⟩
 · cases h
def Obe20 (f : FuncId) : Option zan :=
 match f with
 | 29 => some chaS
 | _ => none
theorem Obe20_ok : FnsO Try.prog Obe20 := by
 intro f s h
 unfold Obe20 at h
 split at h
 · injection h with h; subst h; exact ⟨⟨_,Try.func29,by kernel_rfl,by kernel_rfl⟩,zqk⟩
 · cases h
def bePl : zeq := fun id => match id with
 | 4 => .drs [] 4
 | _ => .std
theorem zuj {gn ph : Int} {l : List Mb} {v : List UInt8} {gen now : Int} (h : (fiF gn ph l v gen now).2 = 0) : chG gn ph l = 0 ∧ timB now = true ∧ l.findIdx (isD v) < l.length ∧ gen = gn ∧ fiF gn ph l v gen now = (((l.findIdx (isD v) : Nat) : Int),(0 : Int)) := by
 unfold fiF at h ⊢
 by_cases hc : chG gn ph l = 0
 · rw [if_pos hc] at h ⊢
   by_cases hT : timB now = true
   · rw [if_pos hT] at h ⊢
     by_cases hf : l.findIdx (isD v) < l.length
     · rw [if_pos hf] at h ⊢
       by_cases hg : gen = gn
       · rw [if_pos hg]; exact ⟨hc,hT,hf,hg,rfl⟩
       · rw [if_neg hg] at h; exact absurd h (by decide)
     · rw [if_neg hf] at h; exact absurd h (by decide)
   · rw [if_neg hT] at h; exact absurd h (by decide)
 · rw [if_neg hc] at h; exact absurd h hc
section
set_option maxRecDepth 100000
set_option maxHeartbeats 16000000
theorem be_sound : zbm Try.prog 13 beS := by
 refine zbh (S := Sbe20) (SO := Obe20) (T := ty) mixed ty_ok Sbe20_ok Obe20_ok Try.func13 (c := Try.f13.body.getD .skip) (by kernel_rfl) (fun xs pins hp _ => ?_)
 unfold beS at hp ⊢
 split at hp
 · rename_i gn ph xs f v gen now _
   obtain ⟨hL0,l,rfl,hd⟩ := hp
   rw [List.length_map] at hL0
   have hle : (l.map mbA).length = l.length := by simp
   have hL : l.length ≤ 1000000 := by omega
   have hL9 : l.length ≤ 9223372036854775807 := by omega
   have hLj : l.length ≤ 900000 := by omega
   have hex : ∃ k : List Mb,l.map mbA = k.map mbA := ⟨l,rfl⟩
   have hxd : ∃ k : List Mb,l.map mbA = k.map mbA ∧ ∀ r ∈ k,r.d.length ≤ 9223372036854775807 := ⟨l,rfl,hd⟩
   have coeN : ∀ f,coe ty 29 (.sg 3 [] f) = .sg 3 [] f := fun f => rfl
   rw [zai]
   unfold beF
   by_cases he : (fiF gn ph l v gen now).2 = 0
   · rw [if_pos he]
     obtain ⟨hc,hT,hf,rfl,hfi⟩ := zuj he
     rw [hfi] at he
     obtain ⟨I,hI2⟩ : ∃ I,l.findIdx (isD v) = I := ⟨_,rfl⟩
     rw [hI2] at hf hfi ⊢
     have q0 : decide ((0 : Int) = 0) = true := rfl
     generalize hQ : l.set I (zeu now (mbI l I)) = Q
     have hQl : Q.length = l.length := by rw [← hQ,List.length_set]
     have hk1 : decide (0 + l.length ≤ (Q.map mbA).length) = true := decide_eq_true (by simp; omega)
     have hk2 : List.take l.length (Q.map mbA) = Q.map mbA := List.take_of_length_le (by simp; omega)
     have hIn : ((I : Int) < (l.length : Int)) = True := eq_true (by omega)
     have hI0 : ((0 : Int) ≤ (I : Int)) = True := eq_true (by omega)
     refine ⟨by simp,bePl,by kernel_rfl,?_⟩
     unfold Try.f13
     iterate 8
       try rw [zaa]
       try simp (config := { maxSteps := 3000000 }) only [go_sem,zaa,Nat.reduceAdd,Nat.reduceSub,Nat.reduceMul,Int.reduceToNat,reduceCtorEq,↓reduceIte,Int.reducePow,Nat.reducePow,Int.reduceMod,Nat.reduceLeDiff,Int.reduceLE,Int.reduceNe,Int.reduceEq,Nat.reduceEqDiff,Nat.reduceLT,Nat.reduceBEq,List.map_cons,List.map_nil,List.toList_toArray,Array.toList_append,Option.toArray_some,Option.toArray_none,Bool.and_self,-zaa,ty,Sbe20,Obe20,bePl,zqb,zga,chaS,zaw,coeN,hle,hL,hL9,hLj,hex,hxd,zai,zad,zap,zae,zcg,Int.toNat_natCast,Bool.not_true,Bool.not_false,decide_true,true_or,or_true,hfi,q0]
       repeat (refine And.intro (by first | omega | exact zbg | exact ⟨by omega,by omega⟩ | exact ⟨rfl,rfl⟩ | (unfold top; omega)) ?_)
     refine ⟨_,_,Weak.refl _,?_⟩
     iterate 4
       try rw [zaa]
       try simp (config := { maxSteps := 3000000 }) only [go_sem,zaa,Nat.reduceAdd,Nat.reduceSub,Nat.reduceMul,Int.reduceToNat,reduceCtorEq,↓reduceIte,Int.reducePow,Nat.reducePow,Int.reduceMod,Nat.reduceLeDiff,Int.reduceLE,Int.reduceNe,Int.reduceEq,Nat.reduceEqDiff,Nat.reduceLT,Nat.reduceBEq,List.map_cons,List.map_nil,List.toList_toArray,Array.toList_append,Option.toArray_some,Option.toArray_none,Bool.and_self,-zaa,ty,Sbe20,Obe20,bePl,zqb,zga,chaS,zaw,coeN,hle,hL,hL9,hLj,hex,hxd,zai,zad,zap,zae,zcg,Int.toNat_natCast,Bool.not_true,Bool.not_false,decide_true,true_or,or_true,hfi,q0,hQ,hIn,hI0]
       repeat (refine And.intro (by first | omega | exact zbg | exact ⟨by omega,by omega⟩ | exact ⟨rfl,rfl⟩ | (unfold top; omega)) ?_)
     refine ⟨_,zdg 156 3 28 (Q.map mbA) rfl (zad _) (by simp [slot,AV.ids,idsL]),?_⟩
     simp only [fgL,fgH,AV.fg,Blk.fg,Nat.reduceBEq,cond_true,cond_false,Bool.and_true,beq_self_eq_true,Bool.true_and,List.drop_zero,zcg,hk1,hk2]
     simp only [go_sem,zaa,Nat.reduceAdd,Nat.reduceSub,Nat.reduceMul,Int.reduceToNat,reduceCtorEq,↓reduceIte,Int.reducePow,Nat.reducePow,Int.reduceMod,Nat.reduceLeDiff,Int.reduceLE,Int.reduceNe,Int.reduceEq,Nat.reduceEqDiff,Nat.reduceLT,Nat.reduceBEq,List.map_cons,List.map_nil,List.toList_toArray,Array.toList_append,Option.toArray_some,Option.toArray_none,Bool.and_self,ty,Sbe20,jrA,zad,zae]
   · rw [if_neg he]
     obtain ⟨⟨a,b⟩,hX⟩ : ∃ X,fiF gn ph l v gen now = X := ⟨_,rfl⟩
     rw [hX] at he ⊢
     have he : b ≠ 0 := he
     have q0 : decide (b = 0) = false := decide_eq_false he
     refine ⟨by simp,bePl,by kernel_rfl,?_⟩
     unfold Try.f13
     iterate 8
       try rw [zaa]
       try simp (config := { maxSteps := 3000000 }) only [go_sem,zaa,Nat.reduceAdd,Nat.reduceSub,Nat.reduceMul,Int.reduceToNat,reduceCtorEq,↓reduceIte,Int.reducePow,Nat.reducePow,Int.reduceMod,Nat.reduceLeDiff,Int.reduceLE,Int.reduceNe,Int.reduceEq,Nat.reduceEqDiff,Nat.reduceLT,Nat.reduceBEq,List.map_cons,List.map_nil,List.toList_toArray,Array.toList_append,Option.toArray_some,Option.toArray_none,Bool.and_self,-zaa,ty,Sbe20,Obe20,bePl,zqb,zga,chaS,zaw,coeN,hle,hL,hL9,hLj,hex,hxd,zai,zad,zap,zae,zcg,Int.toNat_natCast,Bool.not_true,Bool.not_false,decide_true,true_or,or_true,hX,q0]
       repeat (refine And.intro (by first | omega | exact zbg | exact ⟨by omega,by omega⟩ | exact ⟨rfl,rfl⟩ | (unfold top; omega)) ?_)
     try (refine ⟨_,Weak.refl _,?_⟩)
     try simp only [go_sem,zaa,Nat.reduceAdd,Nat.reduceSub,Nat.reduceMul,Int.reduceToNat,reduceCtorEq,↓reduceIte,Int.reducePow,Nat.reducePow,Int.reduceMod,Nat.reduceLeDiff,Int.reduceLE,Int.reduceNe,Int.reduceEq,Nat.reduceEqDiff,Nat.reduceLT,Nat.reduceBEq,List.map_cons,List.map_nil,List.toList_toArray,Array.toList_append,Option.toArray_some,Option.toArray_none,Bool.and_self,ty,Sbe20,jrA,errJ,List.map_nil]
 · exact hp.elim
end
end Go.Proofs.Ytdnlliedmfgfiaa
namespace Go.Proofs.Ytdnlliedmfgfiaa
namespace Ax
theorem zdk {S : zah} {T : zac} {ops : List Oper} {pl : List (Nat × Nat)} {Q Q' : List AV → Heap → Prop} (hq : ∀ sl H,Q sl H → Q' sl H) : ∀ (l : List Oper) (nm : Nat) (acc : List (Nat × List Nat)) (sl : List AV) (H : Heap),zep S T ops pl nm acc l sl H Q → zep S T ops pl nm acc l sl H Q'
 | [],nm,acc,sl,H,h => ⟨h.1,hq sl H h.2⟩
 | o :: r,nm,acc,sl,H,h => by
   unfold zep at h ⊢
   cases hg : o.guard with
   | none => simp only [hg] at h ⊢; exact ⟨h.1,zdk hq r _ _ _ _ h.2⟩
   | some g =>
     obtain ⟨j,want⟩ := g
     simp only [hg] at h ⊢
     cases hs : guardSlot ops j with
     | none => simp [hs] at h
     | some d =>
       simp only [hs] at h ⊢
       split at h
       · exact ⟨fun e => ⟨(h.1 e).1,zdk hq r _ _ _ _ (h.1 e).2⟩,fun e => zdk hq r _ _ _ _ (h.2 e)⟩
       · exact zdk hq r _ _ _ _ h
       · exact h.elim
theorem zhi {S SO : zah} {T : zac} {ops : List Oper} {Q Q' : List AV → Heap → Prop} (hq : ∀ sl H,Q sl H → Q' sl H) : ∀ (k nm : Nat) (l : List Oper) (sl : List AV) (H : Heap),zji S SO T ops k nm l sl H Q → zji S SO T ops k nm l sl H Q'
 | k,nm,[],sl,H,h => by unfold zji at h ⊢; exact hq _ _ h
 | 0,nm,o :: r,sl,H,h => by unfold zji at h ⊢; exact ⟨h.1,h.2.1,zdc hq _ _ _ _ h.2.2⟩
 | k + 1,nm,o :: r,sl,H,h => by unfold zji at h ⊢; exact ⟨h.1,h.2.1,zhi hq k _ r _ _ h.2.2⟩
theorem specOp_mono {T : zac} {sl : List AV} {op : Op} {K K' : AV → Prop} (hk : ∀ x,K x → K' x) (h : zet T sl op K) : zet T sl op K' := by
 unfold zet at h ⊢
 repeat' split at h
 all_goals first
   | exact h.elim
   | simp_all
theorem zvg {T : zac} {sl : List AV} {op : Op} {H : Heap} {K K' : AV → Heap → Prop} (hk : ∀ x H,K x H → K' x H) (h : zin T sl op H K) : zin T sl op H K' := by
 unfold zin at h ⊢
 split at h
 · unfold zlq at h ⊢
   split at h
   · split at h
     · exact ⟨h.1,fun e => hk _ _ (h.2.1 e),fun j hj => hk _ _ (h.2.2 j hj)⟩
     · exact h.elim
   · exact h.elim
 · exact specOp_mono (fun x hx => hk x H hx) h
theorem znp {S : zah} {T : zac} {ops : List Oper} {Q Q' : List AV → Heap → Prop} (hq : ∀ sl H,Q sl H → Q' sl H) : ∀ (k : List Bool) (nm : Nat) (l : List Oper) (sl : List AV) (H : Heap),zhy S T ops k nm l sl H Q → zhy S T ops k nm l sl H Q'
 | k,nm,[],sl,H,h => by unfold zhy at h ⊢; exact hq _ _ h
 | [],nm,o :: r,sl,H,h => by unfold zhy at h ⊢; exact zdc hq _ _ _ _ h
 | true :: k,nm,o :: r,sl,H,h => by unfold zhy at h ⊢; exact ⟨h.1,zvg (fun x H hx => znp hq k _ r _ _ hx) h.2⟩
 | false :: k,nm,o :: r,sl,H,h => by unfold zhy at h ⊢; exact ⟨h.1,h.2.1,znp hq k _ r _ _ h.2.2⟩
theorem zwz {l : List Nat} {sl : List AV} {H : Heap} {K K' : List AV → Heap → Prop} (hk : ∀ sl H,K sl H → K' sl H) (h : frzK l sl H K) : frzK l sl H K' := ⟨h.1,hk _ _ h.2⟩
theorem awpO_mono {S SO : zah} {T : zac} {pl : zeq} : ∀ (c : Code) (Q Q' : Exit → ASt → Prop) (σ : ASt),(∀ e σ,Q e σ → Q' e σ) → awpO S SO T pl c Q σ → awpO S SO T pl c Q' σ := by
 intro c
 induction c with
 | skip => intro Q Q' σ hq h; exact hq _ _ h
 | label l => intro Q Q' σ hq h; exact hq _ _ h
 | region id ops draw =>
   intro Q Q' σ hq h
   simp only [awpO] at h ⊢
   split at h
   · exact zdc (fun _ _ h => hq _ _ h) _ _ _ _ h
   · exact zdk (fun _ _ h => hq _ _ h) _ _ _ _ _ h
   · exact zwz (fun _ _ h => zdc (fun _ _ h => hq _ _ h) _ _ _ _ h) h
   · exact zwz (fun _ _ h => zhi (fun _ _ h => hq _ _ h) _ _ _ _ _ h) h
   · exact znp (fun _ _ h => hq _ _ h) _ _ _ _ _ h
   · obtain ⟨sl',H',hw,h⟩ := h
     exact ⟨sl',H',hw,zdk (fun _ _ h => hq _ _ h) _ _ _ _ _ h⟩
   · obtain ⟨sl',H',hw,h⟩ := h
     exact ⟨sl',H',hw,zdk (fun _ _ h => zhi (fun _ _ h => hq _ _ h) _ _ _ _ _ h) _ _ _ _ _ h⟩
   · obtain ⟨sl',H',hw,h⟩ := h
     exact ⟨sl',H',hw,zdk (fun _ _ h => ⟨zhi (fun _ _ h => hq _ _ h) _ _ _ _ _ h.1,zhi (fun _ _ h => hq _ _ h) _ _ _ _ _ h.2⟩) _ _ _ _ _ h⟩
   · obtain ⟨sl',H',hw,h⟩ := h
     exact ⟨sl',H',hw,zdc (fun _ _ h => hq _ _ h) _ _ _ _ h⟩
 | seq a b iha ihb =>
   intro Q Q' σ hq h
   refine iha _ _ σ ?_ h
   intro e σ h
   cases e with
   | normal => exact ihb _ _ σ hq h
   | _ => exact hq _ _ h
 | cond c a b iha ihb =>
   intro Q Q' σ hq h
   simp only [awpO] at h ⊢
   split at h
   · exact ⟨fun e => iha _ _ σ hq (h.1 e),fun e => ihb _ _ σ hq (h.2 e)⟩
   · exact h.elim
 | block id c ih =>
   intro Q Q' σ hq h
   refine ih _ _ σ ?_ h
   intro e σ h
   cases e with
   | exit id' =>
     simp only [zgl] at h ⊢
     split at h
     · rename_i he; rw [if_pos he]; exact hq _ _ h
     · rename_i he; rw [if_neg he]; exact hq _ _ h
   | _ => exact hq _ _ h
 | loop c ih =>
   intro Q Q' σ hq h
   obtain ⟨I,hst,hr⟩ := h
   refine ⟨I,hst,fun n σ' hI => ih _ _ σ' ?_ (hr n σ' hI)⟩
   intro e σ h
   cases e with
   | normal => exact h
   | _ =>
     obtain ⟨σ2,hw,h⟩ := h
     exact ⟨σ2,hw,hq _ _ h⟩
 | exit id => intro Q Q' σ hq h; exact hq _ _ h
 | ret => intro Q Q' σ hq h; exact hq _ _ h
 | _ => intro Q Q' σ hq h; exact h.elim
def unK (A : ASt → Prop) (Q : Exit → ASt → Prop) (e : Exit) (σ : ASt) : Prop := match e with
 | .normal => A σ
 | e => Q e σ
def unr (f : (Exit → ASt → Prop) → ASt → Prop) (Q : Exit → ASt → Prop) : Nat → ASt → Prop
 | 0,_ => False
 | n + 1,σ => f (unK (unr f Q n) Q) σ
theorem aloop_unr {f : (Exit → ASt → Prop) → ASt → Prop} {Q : Exit → ASt → Prop} (mono : ∀ (Q Q' : Exit → ASt → Prop) (σ : ASt),(∀ e σ,Q e σ → Q' e σ) → f Q σ → f Q' σ) (n : Nat) (σ : ASt) (h : unr f Q n σ) : ALoop f Q σ := by
 refine ⟨fun k τ => unr f Q k τ,⟨n,σ,Weak.refl _,h⟩,?_⟩
 intro k τ hI
 cases k with
 | zero => exact hI.elim
 | succ k =>
   refine mono _ _ τ ?_ hI
   intro e σ1 h1
   cases e with
   | normal => exact ⟨k,σ1,Nat.lt_succ_self k,Weak.refl _,h1⟩
   | _ => exact ⟨σ1,Weak.refl _,h1⟩
theorem awpO_unr {S SO : zah} {T : zac} {pl : zeq} {c : Code} {Q : Exit → ASt → Prop} {σ : ASt} (n : Nat) (h : unr (awpO S SO T pl c) Q n σ) : awpO S SO T pl (.loop c) Q σ :=
 zcd (aloop_unr (fun Q Q' σ hq h => awpO_mono _ Q Q' σ hq h) n σ h)
theorem unrO_go {S SO : zah} {T : zac} {pl : zeq} {c : Code} {Q : Exit → ASt → Prop} {σ : ASt} {n : Nat} : unr (awpO S SO T pl c) Q (n + 1) σ = awpO S SO T pl c (unK (unr (awpO S SO T pl c) Q n) Q) σ := rfl
theorem unK_normal {A : ASt → Prop} {Q : Exit → ASt → Prop} {σ : ASt} : unK A Q .normal σ = A σ := rfl
theorem unK_exit {A : ASt → Prop} {Q : Exit → ASt → Prop} {σ : ASt} {id : Nat} : unK A Q (.exit id) σ = Q (.exit id) σ := rfl
theorem unK_ret {A : ASt → Prop} {Q : Exit → ASt → Prop} {σ : ASt} : unK A Q .ret σ = Q .ret σ := rfl
end Ax
end Go.Proofs.Ytdnlliedmfgfiaa
namespace Go.Proofs.Ytdnlliedmfgfiaa
open Ax
def tkW (n : Int) : Int := (n + 9223372036854775808) % 18446744073709551616 - 9223372036854775808
def tkP (now pat : Int) (m : Mb) : Bool := decide (m.t < now) && decide ((if 0 > pat then 0 else pat) < tkW (now - m.t))
def tkS : zan
 | [.agg [.str d,.w (.int .i64 t),.w (.bool y)],.rf 0 1 0 0,.rf 1 1 0 0],[.g 1 [.w (.int .i64 now)],.g 1 [.w (.int .i64 pat)]] => ⟨True,.w (.bool (tkP now pat ⟨d,t,y⟩)),[.g 1 [.w (.int .i64 now)],.g 1 [.w (.int .i64 pat)]]⟩
 | _,_ => zbo
def ixTS : zan
 | [.ms 0 3 0 n,.fn id [.rf 1 1 0 0,.rf 2 1 0 0]],[.g 3 xs,.g 1 [.w (.int .i64 now)],.g 1 [.w (.int .i64 pat)]] => ⟨id = 41 ∧ (n = xs.length ∧ 0 < n ∧ n ≤ 1000000) ∧ (∃ l : List Mb,xs = l.map mbA),.w (.int .i64 (ixG (tkP now pat) (xs.map umb))),[.g 3 xs,.g 1 [.w (.int .i64 now)],.g 1 [.w (.int .i64 pat)]]⟩
 | [.sg 3 [] g,.fn id [.rf 0 1 0 0,.rf 1 1 0 0]],[.g 1 [.w (.int .i64 now)],.g 1 [.w (.int .i64 pat)]] => ⟨id = 41,.w (.int .i64 (-1)),[.g 1 [.w (.int .i64 now)],.g 1 [.w (.int .i64 pat)]]⟩
 | _,_ => zbo
section
set_option maxRecDepth 100000
set_option maxHeartbeats 4000000
theorem tk_sound : zcm Try.prog 41 tkS := by
 refine zbw (S := noS) (SO := noO) (T := ty) mixed ty_ok zbv zgy Try.func41 (c := Try.f41.body.getD .skip) (by kernel_rfl) (fun xs pins hp => ?_)
 unfold tkS at hp ⊢
 split at hp
 · rename_i d t y now pat
   unfold tkP
   refine ⟨by simp,zbf,by kernel_rfl,?_⟩
   unfold Try.f41
   cases h1 : decide (t < now) with
   | true =>
     simp only [go_sem,zaa,Nat.reduceAdd,Nat.reduceSub,Nat.reduceMul,Int.reduceToNat,reduceCtorEq,↓reduceIte,Int.reducePow,Nat.reducePow,Int.reduceMod,Nat.reduceLeDiff,Int.reduceLE,Int.reduceNe,Int.reduceEq,Nat.reduceEqDiff,Nat.reduceLT,Nat.reduceBEq,List.map_cons,List.map_nil,List.toList_toArray,Array.toList_append,Option.toArray_some,Option.toArray_none,Bool.and_self,ty,noS,zbf,tkW,h1,Bool.true_and]
     try (refine ⟨_,Weak.refl _,?_⟩)
     try simp only [go_sem,zaa,Nat.reduceAdd,Nat.reduceSub,Nat.reduceMul,Int.reduceToNat,reduceCtorEq,↓reduceIte,Int.reducePow,Nat.reducePow,Int.reduceMod,Nat.reduceLeDiff,Int.reduceLE,Int.reduceNe,Int.reduceEq,Nat.reduceEqDiff,Nat.reduceLT,Nat.reduceBEq,List.map_cons,List.map_nil,List.toList_toArray,Array.toList_append,Option.toArray_some,Option.toArray_none,Bool.and_self,ty,noS]
     try rfl
   | false =>
     simp only [go_sem,zaa,Nat.reduceAdd,Nat.reduceSub,Nat.reduceMul,Int.reduceToNat,reduceCtorEq,↓reduceIte,Int.reducePow,Nat.reducePow,Int.reduceMod,Nat.reduceLeDiff,Int.reduceLE,Int.reduceNe,Int.reduceEq,Nat.reduceEqDiff,Nat.reduceLT,Nat.reduceBEq,List.map_cons,List.map_nil,List.toList_toArray,Array.toList_append,Option.toArray_some,Option.toArray_none,Bool.and_self,ty,noS,zbf,tkW,h1,Bool.false_and]
     try (refine ⟨_,Weak.refl _,?_⟩)
     try simp only [go_sem,zaa,Nat.reduceAdd,Nat.reduceSub,Nat.reduceMul,Int.reduceToNat,reduceCtorEq,↓reduceIte,Int.reducePow,Nat.reducePow,Int.reduceMod,Nat.reduceLeDiff,Int.reduceLE,Int.reduceNe,Int.reduceEq,Nat.reduceEqDiff,Nat.reduceLT,Nat.reduceBEq,List.map_cons,List.map_nil,List.toList_toArray,Array.toList_append,Option.toArray_some,Option.toArray_none,Bool.and_self,ty,noS]
 · exact hp.elim
end
def znr (f : FuncId) : Option zan :=
 match f with
 | 41 => some tkS
 | _ => none
theorem Otk20_ok : FnsO Try.prog znr := by
 intro f s h
 unfold znr at h
 split at h
 · injection h with h; subst h; exact ⟨⟨_,Try.func41,by kernel_rfl,by kernel_rfl⟩,tk_sound⟩
 · cases h
section
set_option maxRecDepth 100000
set_option maxHeartbeats 8000000
theorem ixT_sound : zcm Try.prog 32 ixTS := by
 refine zbw (S := noS) (SO := znr) (T := ty) mixed ty_ok zbv Otk20_ok Try.func32 (c := Try.f32.body.getD .skip) (by kernel_rfl) (fun xs pins hp => ?_)
 unfold ixTS at hp ⊢
 split at hp
 · rename_i n id xs now pat
   obtain ⟨rfl,⟨rfl,hn,hL⟩,l,rfl⟩ := hp
   rw [List.length_map] at hL hn
   have hle : (l.map mbA).length = l.length := by simp
   have hcl := zad l
   have hex : ∃ k : List Mb,l.map mbA = k.map mbA := ⟨l,rfl⟩
   have dpos : decide (0 < l.length) = true := decide_eq_true hn
   rw [zai]
   unfold ixG
   refine ⟨by simp,zbb,by kernel_rfl,?_⟩
   unfold Try.f32
   simp (config := { maxSteps := 3000000 }) only [go_sem,zaa,Nat.reduceAdd,Nat.reduceSub,Nat.reduceMul,Int.reduceToNat,reduceCtorEq,↓reduceIte,Int.reducePow,Nat.reducePow,Int.reduceMod,Nat.reduceLeDiff,Int.reduceLE,Int.reduceNe,Int.reduceEq,Nat.reduceEqDiff,Nat.reduceLT,Nat.reduceBEq,List.map_cons,List.map_nil,List.toList_toArray,Array.toList_append,Option.toArray_some,Option.toArray_none,Bool.and_self,ty,noS,znr,zbb,tkS,hle,hcl,dpos,hn,hex,zai,zae,zad,zap,Int.toNat_natCast,Bool.not_true,Bool.not_false]
   refine zcd ⟨fun m σ => ∃ i : Nat,m = l.length - i ∧ i ≤ l.length ∧ (l.drop i).findIdx (tkP now pat) + i = l.findIdx (tkP now pat) ∧
       σ = ⟨[.ms 0 3 0 l.length,.fn 41 [.rf 1 1 0 0,.rf 2 1 0 0],.junk,.junk,.junk,.junk,.junk,.w (.int .i64 l.length),.w (.int .i64 i),.junk,.junk,.junk,.junk,.junk,.junk,.junk,.junk,.junk,.junk],[(0,.g 3 (l.map mbA)),(1,.g 1 [.w (.int .i64 now)]),(2,.g 1 [.w (.int .i64 pat)])],4⟩,?_,?_⟩
   · refine ⟨_,_,zaj [0,1,2,3] rfl rfl rfl ?_ ?_,0,rfl,by omega,by rw [List.drop_zero]; rfl,rfl⟩
     · simp only [ssT,zar,zas,setSlot,gOf,AV.ren,renL,Blk.ren,Ax.look,Ax.put,reduceCtorEq,↓reduceIte,Nat.reduceEqDiff,Nat.reduceLT,Nat.reduceAdd,List.length_append,List.length_cons,List.length_nil,Option.some.injEq,zae]; try simp
     · simp only [ssT,zar,zas,setSlot,gOf,AV.ren,renL,Blk.ren,Ax.look,Ax.put,reduceCtorEq,↓reduceIte,Nat.reduceEqDiff,Nat.reduceLT,Nat.reduceAdd,List.length_append,List.length_cons,List.length_nil,Option.some.injEq,zae]; try simp
   · rintro m σ ⟨i,rfl,hi,hinv,rfl⟩
     by_cases hil : i < l.length
     · have e1 : ((i : Int) + 1 + 9223372036854775808) % 18446744073709551616 - 9223372036854775808 = ((i + 1 : Nat) : Int) := by omega
       have d1x : decide ((i : Int) < l.length) = true := decide_eq_true (by omega)
       have hs1 := zcu l i hil
       cases hv : (tkP now pat) l[i] with
       | true =>
         have hfi := znl _ l i hil hv hinv
         rw [hfi,if_pos hil]
         obtain ⟨r,hr1⟩ : ∃ r,l[i] = r := ⟨_,rfl⟩
         rw [hr1] at hs1 hv
         obtain ⟨d1,t1,y1⟩ := r
         have hs1 : slot (l.map mbA) i = .agg [.str d1,.w (.int .i64 t1),.w (.bool y1)] := hs1
         simp (config := { maxSteps := 3000000 }) only [go_sem,zaa,Nat.reduceAdd,Nat.reduceSub,Nat.reduceMul,Int.reduceToNat,reduceCtorEq,↓reduceIte,Int.reducePow,Nat.reducePow,Int.reduceMod,Nat.reduceLeDiff,Int.reduceLE,Int.reduceNe,Int.reduceEq,Nat.reduceEqDiff,Nat.reduceLT,Nat.reduceBEq,List.map_cons,List.map_nil,List.toList_toArray,Array.toList_append,Option.toArray_some,Option.toArray_none,Bool.and_self,ty,noS,znr,zbb,tkS,hle,hcl,dpos,hn,hex,zai,zae,zad,zap,Int.toNat_natCast,Bool.not_true,Bool.not_false,d1x,hs1,hv]
         repeat (refine And.intro (by omega) ?_)
         refine ⟨_,Weak.refl _,?_⟩
         simp (config := { maxSteps := 3000000 }) only [go_sem,zaa,Nat.reduceAdd,Nat.reduceSub,Nat.reduceMul,Int.reduceToNat,reduceCtorEq,↓reduceIte,Int.reducePow,Nat.reducePow,Int.reduceMod,Nat.reduceLeDiff,Int.reduceLE,Int.reduceNe,Int.reduceEq,Nat.reduceEqDiff,Nat.reduceLT,Nat.reduceBEq,List.map_cons,List.map_nil,List.toList_toArray,Array.toList_append,Option.toArray_some,Option.toArray_none,Bool.and_self,ty,noS,znr,zbb,tkS,hle,hcl,dpos,hn,hex,zai,zae,zad,zap,Int.toNat_natCast,Bool.not_true,Bool.not_false]
         try (refine ⟨_,Weak.refl _,?_⟩)
         try simp (config := { maxSteps := 3000000 }) only [go_sem,zaa,Nat.reduceAdd,Nat.reduceSub,Nat.reduceMul,Int.reduceToNat,reduceCtorEq,↓reduceIte,Int.reducePow,Nat.reducePow,Int.reduceMod,Nat.reduceLeDiff,Int.reduceLE,Int.reduceNe,Int.reduceEq,Nat.reduceEqDiff,Nat.reduceLT,Nat.reduceBEq,List.map_cons,List.map_nil,List.toList_toArray,Array.toList_append,Option.toArray_some,Option.toArray_none,Bool.and_self,ty,noS,znr,zbb,tkS,hle,hcl,dpos,hn,hex,zai,zae,zad,zap,Int.toNat_natCast,Bool.not_true,Bool.not_false]
       | false =>
         have hfi := zhd _ l i hil hv hinv
         obtain ⟨r,hr1⟩ : ∃ r,l[i] = r := ⟨_,rfl⟩
         rw [hr1] at hs1 hv
         obtain ⟨d1,t1,y1⟩ := r
         have hs1 : slot (l.map mbA) i = .agg [.str d1,.w (.int .i64 t1),.w (.bool y1)] := hs1
         simp (config := { maxSteps := 3000000 }) only [go_sem,zaa,Nat.reduceAdd,Nat.reduceSub,Nat.reduceMul,Int.reduceToNat,reduceCtorEq,↓reduceIte,Int.reducePow,Nat.reducePow,Int.reduceMod,Nat.reduceLeDiff,Int.reduceLE,Int.reduceNe,Int.reduceEq,Nat.reduceEqDiff,Nat.reduceLT,Nat.reduceBEq,List.map_cons,List.map_nil,List.toList_toArray,Array.toList_append,Option.toArray_some,Option.toArray_none,Bool.and_self,ty,noS,znr,zbb,tkS,hle,hcl,dpos,hn,hex,zai,zae,zad,zap,Int.toNat_natCast,Bool.not_true,Bool.not_false,d1x,hs1,hv,e1]
         repeat (refine And.intro (by omega) ?_)
         refine ⟨l.length - (i + 1),_,by omega,zaj [0,1,2,3] rfl rfl rfl ?_ ?_,i + 1,rfl,by omega,hfi,rfl⟩
         · simp only [ssT,zar,zas,setSlot,gOf,AV.ren,renL,Blk.ren,Ax.look,Ax.put,reduceCtorEq,↓reduceIte,Nat.reduceEqDiff,Nat.reduceLT,Nat.reduceAdd,List.length_append,List.length_cons,List.length_nil,Option.some.injEq,zae]; try simp
         · simp only [ssT,zar,zas,setSlot,gOf,AV.ren,renL,Blk.ren,Ax.look,Ax.put,reduceCtorEq,↓reduceIte,Nat.reduceEqDiff,Nat.reduceLT,Nat.reduceAdd,List.length_append,List.length_cons,List.length_nil,Option.some.injEq,zae]; try simp
     · have d1x : decide ((i : Int) < l.length) = false := decide_eq_false (by omega)
       have hfi := zjx _ l i (by omega) hi hinv
       rw [hfi,if_neg (Nat.lt_irrefl _)]
       simp (config := { maxSteps := 3000000 }) only [go_sem,zaa,Nat.reduceAdd,Nat.reduceSub,Nat.reduceMul,Int.reduceToNat,reduceCtorEq,↓reduceIte,Int.reducePow,Nat.reducePow,Int.reduceMod,Nat.reduceLeDiff,Int.reduceLE,Int.reduceNe,Int.reduceEq,Nat.reduceEqDiff,Nat.reduceLT,Nat.reduceBEq,List.map_cons,List.map_nil,List.toList_toArray,Array.toList_append,Option.toArray_some,Option.toArray_none,Bool.and_self,ty,noS,znr,zbb,tkS,hle,hcl,dpos,hn,hex,zai,zae,zad,zap,Int.toNat_natCast,Bool.not_true,Bool.not_false,d1x]
       refine ⟨_,Weak.refl _,?_⟩
       simp (config := { maxSteps := 3000000 }) only [go_sem,zaa,Nat.reduceAdd,Nat.reduceSub,Nat.reduceMul,Int.reduceToNat,reduceCtorEq,↓reduceIte,Int.reducePow,Nat.reducePow,Int.reduceMod,Nat.reduceLeDiff,Int.reduceLE,Int.reduceNe,Int.reduceEq,Nat.reduceEqDiff,Nat.reduceLT,Nat.reduceBEq,List.map_cons,List.map_nil,List.toList_toArray,Array.toList_append,Option.toArray_some,Option.toArray_none,Bool.and_self,ty,noS,znr,zbb,tkS,hle,hcl,dpos,hn,hex,zai,zae,zad,zap,Int.toNat_natCast,Bool.not_true,Bool.not_false]
       try (refine ⟨_,Weak.refl _,?_⟩)
       try simp (config := { maxSteps := 3000000 }) only [go_sem,zaa,Nat.reduceAdd,Nat.reduceSub,Nat.reduceMul,Int.reduceToNat,reduceCtorEq,↓reduceIte,Int.reducePow,Nat.reducePow,Int.reduceMod,Nat.reduceLeDiff,Int.reduceLE,Int.reduceNe,Int.reduceEq,Nat.reduceEqDiff,Nat.reduceLT,Nat.reduceBEq,List.map_cons,List.map_nil,List.toList_toArray,Array.toList_append,Option.toArray_some,Option.toArray_none,Bool.and_self,ty,noS,znr,zbb,tkS,hle,hcl,dpos,hn,hex,zai,zae,zad,zap,Int.toNat_natCast,Bool.not_true,Bool.not_false]
 · rename_i g id now pat
   obtain rfl := hp
   refine ⟨by simp,zbb,by kernel_rfl,?_⟩
   have z0 : decide ((0 : Int) < ((0 : Nat) : Int)) = false := rfl
   unfold Try.f32
   simp only [go_sem,zaa,Nat.reduceAdd,Nat.reduceSub,Nat.reduceMul,Int.reduceToNat,reduceCtorEq,↓reduceIte,Int.reducePow,Nat.reducePow,Int.reduceMod,Nat.reduceLeDiff,Int.reduceLE,Int.reduceNe,Int.reduceEq,Nat.reduceEqDiff,Nat.reduceLT,Nat.reduceBEq,List.map_cons,List.map_nil,List.toList_toArray,Array.toList_append,Option.toArray_some,Option.toArray_none,Bool.and_self,ty,noS,znr,zbb]
   refine awpO_unr 1 ?_
   simp only [go_sem,zaa,Nat.reduceAdd,Nat.reduceSub,Nat.reduceMul,Int.reduceToNat,reduceCtorEq,↓reduceIte,Int.reducePow,Nat.reducePow,Int.reduceMod,Nat.reduceLeDiff,Int.reduceLE,Int.reduceNe,Int.reduceEq,Nat.reduceEqDiff,Nat.reduceLT,Nat.reduceBEq,List.map_cons,List.map_nil,List.toList_toArray,Array.toList_append,Option.toArray_some,Option.toArray_none,Bool.and_self,ty,noS,znr,zbb,z0,unrO_go,unK_normal,unK_exit,unK_ret]
   try refine ⟨_,Weak.refl _,?_⟩
   try simp only [go_sem,zaa,Nat.reduceAdd,Nat.reduceSub,Nat.reduceMul,Int.reduceToNat,reduceCtorEq,↓reduceIte,Int.reducePow,Nat.reducePow,Int.reduceMod,Nat.reduceLeDiff,Int.reduceLE,Int.reduceNe,Int.reduceEq,Nat.reduceEqDiff,Nat.reduceLT,Nat.reduceBEq,List.map_cons,List.map_nil,List.toList_toArray,Array.toList_append,Option.toArray_some,Option.toArray_none,Bool.and_self,ty,noS]
 · exact hp.elim
end
end Go.Proofs.Ytdnlliedmfgfiaa
namespace Go.Proofs.Ytdnlliedmfgfiaa
open Ax
theorem zwo (A : Mb → Bool) : ∀ (l : List Mb),(l.findIdx A = l.length ∧ l.filter (fun r => !A r) = l) ∨ ∃ (i : Nat) (h : i < l.length),l.findIdx A = i ∧ (l.take i).filter (fun r => !A r) = l.take i ∧ A l[i] = true
 | [] => .inl ⟨rfl,rfl⟩
 | r :: rs => by
   rw [List.findIdx_cons]
   cases h : A r with
   | true => exact .inr ⟨0,by simp,by simp,by simp,h⟩
   | false =>
     rcases zwo A rs with ⟨h1,h2⟩ | ⟨i,hi,h1,h2,h3⟩
     · refine .inl ⟨by simp [h1],?_⟩
       rw [List.filter_cons,h]
       simp only [Bool.not_false,if_true,h2]
     · refine .inr ⟨i + 1,by simp; omega,by simp [h1],?_,by simpa using h3⟩
       rw [List.take_succ_cons,List.filter_cons,h]
       simp only [Bool.not_false,if_true,h2]
def zmw (now pat : Int) (l : List Mb) : List Mb := l.filter (fun m => !tkP now pat m)
def dfTS : zan
 | [.ms 0 3 0 n,.fn id [.rf 1 1 0 0,.rf 2 1 0 0]],[.g 3 xs,.g 1 [.w (.int .i64 now)],.g 1 [.w (.int .i64 pat)]] => ⟨id = 41 ∧ (n = xs.length ∧ 0 < n ∧ n ≤ 1000000) ∧ (∃ l : List Mb,xs = l.map mbA),.ms 0 3 0 (zmw now pat (xs.map umb)).length,[.g 3 ((zmw now pat (xs.map umb) ++ List.replicate (n - (zmw now pat (xs.map umb)).length) zMb).map mbA),.g 1 [.w (.int .i64 now)],.g 1 [.w (.int .i64 pat)]]⟩
 | [.sg 3 [] f0,.fn id [.rf 0 1 0 0,.rf 1 1 0 0]],[.g 1 [.w (.int .i64 now)],.g 1 [.w (.int .i64 pat)]] => ⟨id = 41,.sg 3 [] f0,[.g 1 [.w (.int .i64 now)],.g 1 [.w (.int .i64 pat)]]⟩
 | _,_ => zbo
def zod (f : FuncId) : Option zan :=
 match f with
 | 41 => some tkS
 | 32 => some ixTS
 | _ => none
theorem Odf20_ok : FnsO Try.prog zod := by
 intro f s h
 unfold zod at h
 split at h
 · injection h with h; subst h; exact ⟨⟨_,Try.func41,by kernel_rfl,by kernel_rfl⟩,tk_sound⟩
 · injection h with h; subst h; exact ⟨⟨_,Try.func32,by kernel_rfl,by kernel_rfl⟩,ixT_sound⟩
 · cases h
def zic : zeq := fun id => match id with
 | 1 => .opn [] 2
 | 8 => .opn [] 2
 | _ => .std
section
set_option maxRecDepth 100000
set_option maxHeartbeats 8000000
theorem dfT_sound : zcm Try.prog 42 dfTS := by
 refine zbw (S := noS) (SO := zod) (T := ty) mixed ty_ok zbv Odf20_ok Try.func42 (c := Try.f42.body.getD .skip) (by kernel_rfl) (fun xs pins hp => ?_)
 unfold dfTS at hp ⊢
 split at hp
 · rename_i n id xs now pat
   obtain ⟨rfl,⟨rfl,hn,hL⟩,l,rfl⟩ := hp
   rw [List.length_map] at hL hn
   have hle : (l.map mbA).length = l.length := by simp
   have hcl := zad l
   have hex : ∃ k : List Mb,l.map mbA = k.map mbA := ⟨l,rfl⟩
   have dpos : decide (0 < l.length) = true := decide_eq_true hn
   rw [zai,hle]
   unfold zmw
   have hA2 : ∀ r,tkP now pat r = tkP now pat r := fun r => rfl
   obtain ⟨K,hK⟩ : ∃ K,(fun r => !tkP now pat r) = K := ⟨_,rfl⟩
   have hKA : ∀ r,K r = !tkP now pat r := fun r => by rw [← hK]
   have D := zwo (tkP now pat) l
   rw [hK] at D ⊢
   refine ⟨by simp,zic,by kernel_rfl,?_⟩
   unfold Try.f42
   rcases D with ⟨hF,hfl⟩ | ⟨i,hi,hF,htk,hAi⟩
   · have hx : ixG (tkP now pat) l = -1 := by unfold ixG; rw [hF,if_neg (Nat.lt_irrefl _)]
     have dF : decide ((-1 : Int) = -1) = true := rfl
     have hz : (l ++ List.replicate (l.length - l.length) zMb).map mbA = l.map mbA := by rw [Nat.sub_self,List.replicate_zero,List.append_nil]
     rw [hfl,hz]
     simp (config := { maxSteps := 3000000 }) only [go_sem,zaa,Nat.reduceAdd,Nat.reduceSub,Nat.reduceMul,Int.reduceToNat,reduceCtorEq,↓reduceIte,Int.reducePow,Nat.reducePow,Int.reduceMod,Nat.reduceLeDiff,Int.reduceLE,Int.reduceNe,Int.reduceEq,Nat.reduceEqDiff,Nat.reduceLT,Nat.reduceBEq,List.map_cons,List.map_nil,List.toList_toArray,Array.toList_append,Option.toArray_some,Option.toArray_none,Bool.and_self,ty,noS,zod,zic,tkS,ixTS,hle,hcl,dpos,hn,hL,hex,zai,zae,zad,zap,Int.toNat_natCast,Bool.not_true,Bool.not_false,hx,dF]
     repeat (refine And.intro (by omega) ?_)
     refine ⟨_,Weak.refl _,?_⟩
     simp (config := { maxSteps := 3000000 }) only [go_sem,zaa,Nat.reduceAdd,Nat.reduceSub,Nat.reduceMul,Int.reduceToNat,reduceCtorEq,↓reduceIte,Int.reducePow,Nat.reducePow,Int.reduceMod,Nat.reduceLeDiff,Int.reduceLE,Int.reduceNe,Int.reduceEq,Nat.reduceEqDiff,Nat.reduceLT,Nat.reduceBEq,List.map_cons,List.map_nil,List.toList_toArray,Array.toList_append,Option.toArray_some,Option.toArray_none,Bool.and_self,ty,noS,zod,zic,tkS,ixTS,hle,hcl,dpos,hn,hL,hex,zai,zae,zad,zap,Int.toNat_natCast,Bool.not_true,Bool.not_false]
   · have hx : ixG (tkP now pat) l = (i : Nat) := by unfold ixG; rw [hF,if_pos hi]
     have dF : decide ((i : Int) = -1) = false := decide_eq_false (by omega)
     have e0 : ((i : Int) + 1 + 9223372036854775808) % 18446744073709551616 - 9223372036854775808 = ((i + 1 : Nat) : Int) := by omega
     simp (config := { maxSteps := 3000000 }) only [go_sem,zaa,Nat.reduceAdd,Nat.reduceSub,Nat.reduceMul,Int.reduceToNat,reduceCtorEq,↓reduceIte,Int.reducePow,Nat.reducePow,Int.reduceMod,Nat.reduceLeDiff,Int.reduceLE,Int.reduceNe,Int.reduceEq,Nat.reduceEqDiff,Nat.reduceLT,Nat.reduceBEq,List.map_cons,List.map_nil,List.toList_toArray,Array.toList_append,Option.toArray_some,Option.toArray_none,Bool.and_self,ty,noS,zod,zic,tkS,ixTS,hle,hcl,dpos,hn,hL,hex,zai,zae,zad,zap,Int.toNat_natCast,Bool.not_true,Bool.not_false,hx,dF,e0]
     repeat (refine And.intro (by omega) ?_)
     refine zcd ⟨fun m σ => ∃ (j w : Nat) (cs : List Mb),m = l.length - j ∧ (w < j ∧ j ≤ l.length) ∧ cs.length = l.length ∧ cs.take w = (l.take j).filter K ∧ cs.drop j = l.drop j ∧
         σ = ⟨[.ms 0 3 0 l.length,.fn 41 [.rf 1 1 0 0,.rf 2 1 0 0],.junk,.junk,.junk,.w (.int .i64 w),.w (.int .i64 j),.junk,.junk,.junk,.junk,.junk,.junk,.junk,.junk,.junk,.junk,.junk,.junk,.junk,.junk,.junk,.junk,.junk,.junk,.junk,.junk,.junk,.junk,.junk,.junk,.junk,.junk,.junk,.junk,.junk,.junk,.junk,.junk,.junk,.junk,.junk],[(0,.g 3 (cs.map mbA)),(1,.g 1 [.w (.int .i64 now)]),(2,.g 1 [.w (.int .i64 pat)])],4⟩,?_,?_⟩
     · refine ⟨_,_,zaj [0,1,2,3] rfl rfl rfl ?_ ?_,i + 1,i,l,rfl,by omega,rfl,?_,rfl,rfl⟩
       · simp only [ssT,zar,zas,setSlot,gOf,AV.ren,renL,Blk.ren,Ax.look,Ax.put,reduceCtorEq,↓reduceIte,Nat.reduceEqDiff,Nat.reduceLT,Nat.reduceAdd,List.length_append,List.length_cons,List.length_nil,Option.some.injEq,zae]; try simp
       · simp only [ssT,zar,zas,setSlot,gOf,AV.ren,renL,Blk.ren,Ax.look,Ax.put,reduceCtorEq,↓reduceIte,Nat.reduceEqDiff,Nat.reduceLT,Nat.reduceAdd,List.length_append,List.length_cons,List.length_nil,Option.some.injEq,zae]; try simp
       · rw [List.take_succ_eq_append_getElem hi,List.filter_append,htk]
         simp [hKA,hAi]
     · rintro m σ ⟨j,w,cs,rfl,⟨hwj,hj⟩,hcl2,htw,hdj,rfl⟩
       have hl5 : (cs.map mbA).length = l.length := by simp [hcl2]
       by_cases hjl : j < l.length
       · have e1 : ((j : Int) + 1 + 9223372036854775808) % 18446744073709551616 - 9223372036854775808 = ((j + 1 : Nat) : Int) := by omega
         have e2 : ((w : Int) + 1 + 9223372036854775808) % 18446744073709551616 - 9223372036854775808 = ((w + 1 : Nat) : Int) := by omega
         have d1 : decide ((j : Int) < l.length) = true := decide_eq_true (by omega)
         have hjc : j < cs.length := by omega
         have hcj : cs[j] = l[j] := by
           have h1 : cs.drop j = cs[j] :: cs.drop (j + 1) := List.drop_eq_getElem_cons hjc
           have h2 : l.drop j = l[j] :: l.drop (j + 1) := List.drop_eq_getElem_cons hjl
           rw [h1,h2] at hdj
           injection hdj
         have hs1 := zcu cs j hjc
         rw [hcj] at hs1
         have htk1 : (l.take (j + 1)).filter K = (l.take j).filter K ++ [l[j]].filter K := by rw [List.take_succ_eq_append_getElem hjl,List.filter_append]
         have hdj1 : cs.drop (j + 1) = l.drop (j + 1) := by
           have := congrArg (List.drop 1) hdj
           simpa [List.drop_drop,Nat.add_comm] using this
         obtain ⟨P,hP⟩ : ∃ P,l[j] = P := ⟨_,rfl⟩
         rw [hP] at hs1 htk1
         obtain ⟨pd,pt,py⟩ := P
         have hs1 : slot (cs.map mbA) j = .agg [.str pd,.w (.int .i64 pt),.w (.bool py)] := hs1
         have hKP := hKA ⟨pd,pt,py⟩
         cases hap : tkP now pat ⟨pd,pt,py⟩ with
         | true =>
           rw [hap] at hKP
           have hf0 : (l.take (j + 1)).filter K = (l.take j).filter K := by rw [htk1]; simp [hKP]
           simp (config := { maxSteps := 3000000 }) only [go_sem,zaa,Nat.reduceAdd,Nat.reduceSub,Nat.reduceMul,Int.reduceToNat,reduceCtorEq,↓reduceIte,Int.reducePow,Nat.reducePow,Int.reduceMod,Nat.reduceLeDiff,Int.reduceLE,Int.reduceNe,Int.reduceEq,Nat.reduceEqDiff,Nat.reduceLT,Nat.reduceBEq,List.map_cons,List.map_nil,List.toList_toArray,Array.toList_append,Option.toArray_some,Option.toArray_none,Bool.and_self,ty,noS,zod,zic,tkS,ixTS,hle,hcl,dpos,hn,hL,hex,zai,zae,zad,zap,Int.toNat_natCast,Bool.not_true,Bool.not_false,hl5,d1,hs1,hap,e1,e2]
           repeat (refine And.intro (by omega) ?_)
           refine ⟨l.length - (j + 1),_,by omega,zaj [0,1,2,3] rfl rfl rfl ?_ ?_,j + 1,w,cs,rfl,by omega,hcl2,by rw [hf0]; exact htw,hdj1,rfl⟩
           · simp only [ssT,zar,zas,setSlot,gOf,AV.ren,renL,Blk.ren,Ax.look,Ax.put,reduceCtorEq,↓reduceIte,Nat.reduceEqDiff,Nat.reduceLT,Nat.reduceAdd,List.length_append,List.length_cons,List.length_nil,Option.some.injEq,zae]; try simp
           · simp only [ssT,zar,zas,setSlot,gOf,AV.ren,renL,Blk.ren,Ax.look,Ax.put,reduceCtorEq,↓reduceIte,Nat.reduceEqDiff,Nat.reduceLT,Nat.reduceAdd,List.length_append,List.length_cons,List.length_nil,Option.some.injEq,zae]; try simp
         | false =>
           rw [hap] at hKP
           have hwc : w < cs.length := by omega
           have hs2 := zcu cs w hwc
           obtain ⟨q,hq⟩ : ∃ q,cs[w] = q := ⟨_,rfl⟩
           rw [hq] at hs2
           obtain ⟨qd,qt,qy⟩ := q
           have hs2 : slot (cs.map mbA) w = .agg [.str qd,.w (.int .i64 qt),.w (.bool qy)] := hs2
           have hss := zgv ⟨pd,pt,py⟩ cs w hwc
           have hss : setSlot (cs.map mbA) w (.agg [.str pd,.w (.int .i64 pt),.w (.bool py)]) = (cs.set w ⟨pd,pt,py⟩).map mbA := hss
           have hd6 : ∀ a b c : AV,List.drop 3 [a,b,c] = [] := fun _ _ _ => rfl
           have hl6 : ∀ a b c : AV,[a,b,c].length = 3 := fun _ _ _ => rfl
           have hf0 : (cs.set w ⟨pd,pt,py⟩).take (w + 1) = (l.take (j + 1)).filter K := by
             rw [htk1,← htw,List.take_succ_eq_append_getElem (by simp; exact hwc),List.take_set_of_le (Nat.le_refl _)]
             simp [hKP]
           have hd0 : (cs.set w ⟨pd,pt,py⟩).drop (j + 1) = l.drop (j + 1) := by
             rw [List.drop_set_of_lt (by omega)]; exact hdj1
           simp (config := { maxSteps := 3000000 }) only [go_sem,zaa,Nat.reduceAdd,Nat.reduceSub,Nat.reduceMul,Int.reduceToNat,reduceCtorEq,↓reduceIte,Int.reducePow,Nat.reducePow,Int.reduceMod,Nat.reduceLeDiff,Int.reduceLE,Int.reduceNe,Int.reduceEq,Nat.reduceEqDiff,Nat.reduceLT,Nat.reduceBEq,List.map_cons,List.map_nil,List.toList_toArray,Array.toList_append,Option.toArray_some,Option.toArray_none,Bool.and_self,ty,noS,zod,zic,tkS,ixTS,hle,hcl,dpos,hn,hL,hex,zai,zae,zad,zap,Int.toNat_natCast,Bool.not_true,Bool.not_false,hl5,d1,hs1,hs2,hss,hd6,hl6,hap,e1,e2]
           repeat (refine And.intro (by omega) ?_)
           refine ⟨l.length - (j + 1),_,by omega,zaj [0,1,2,3] rfl rfl rfl ?_ ?_,j + 1,w + 1,cs.set w ⟨pd,pt,py⟩,rfl,by omega,by simp [hcl2],hf0,hd0,rfl⟩
           · simp only [ssT,zar,zas,setSlot,gOf,AV.ren,renL,Blk.ren,Ax.look,Ax.put,reduceCtorEq,↓reduceIte,Nat.reduceEqDiff,Nat.reduceLT,Nat.reduceAdd,List.length_append,List.length_cons,List.length_nil,Option.some.injEq,zae]; try simp
           · simp only [ssT,zar,zas,setSlot,gOf,AV.ren,renL,Blk.ren,Ax.look,Ax.put,reduceCtorEq,↓reduceIte,Nat.reduceEqDiff,Nat.reduceLT,Nat.reduceAdd,List.length_append,List.length_cons,List.length_nil,Option.some.injEq,zae]; try simp
       · have d1 : decide ((j : Int) < l.length) = false := decide_eq_false (by omega)
         have htj : l.take j = l := List.take_of_length_le (by omega)
         rw [htj] at htw
         have hwl : (cs.take w).length = w := by rw [List.length_take]; omega
         have hfw : (l.filter K).length = w := by rw [← htw,hwl]
         rw [hfw,← htw]
         have hz : List.take w (cs.map mbA) ++ (List.replicate (l.length - w) (.agg [.str [],.w (.int .i64 0),.w (.bool false)]) ++ List.drop (w + (l.length - w)) (cs.map mbA)) = (cs.take w ++ List.replicate (l.length - w) zMb).map mbA := by
           have h1 : List.drop (w + (l.length - w)) (cs.map mbA) = [] := List.drop_eq_nil_of_le (by simp; omega)
           rw [h1,List.append_nil,List.map_append,List.map_take,List.map_replicate]; rfl
         simp (config := { maxSteps := 3000000 }) only [go_sem,zaa,Nat.reduceAdd,Nat.reduceSub,Nat.reduceMul,Int.reduceToNat,reduceCtorEq,↓reduceIte,Int.reducePow,Nat.reducePow,Int.reduceMod,Nat.reduceLeDiff,Int.reduceLE,Int.reduceNe,Int.reduceEq,Nat.reduceEqDiff,Nat.reduceLT,Nat.reduceBEq,List.map_cons,List.map_nil,List.toList_toArray,Array.toList_append,Option.toArray_some,Option.toArray_none,Bool.and_self,ty,noS,zod,zic,tkS,ixTS,hle,hcl,dpos,hn,hL,hex,zai,zae,zad,zap,Int.toNat_natCast,Bool.not_true,Bool.not_false,hl5,d1]
         refine ⟨_,Weak.refl _,?_⟩
         simp (config := { maxSteps := 3000000 }) only [go_sem,zaa,Nat.reduceAdd,Nat.reduceSub,Nat.reduceMul,Int.reduceToNat,reduceCtorEq,↓reduceIte,Int.reducePow,Nat.reducePow,Int.reduceMod,Nat.reduceLeDiff,Int.reduceLE,Int.reduceNe,Int.reduceEq,Nat.reduceEqDiff,Nat.reduceLT,Nat.reduceBEq,List.map_cons,List.map_nil,List.toList_toArray,Array.toList_append,Option.toArray_some,Option.toArray_none,Bool.and_self,ty,noS,zod,zic,tkS,ixTS,hle,hcl,dpos,hn,hL,hex,zai,zae,zad,zap,Int.toNat_natCast,Bool.not_true,Bool.not_false,hl5,d1]
         repeat (refine And.intro (by omega) ?_)
         try rw [hz]
         try (refine ⟨_,Weak.refl _,?_⟩)
         try simp (config := { maxSteps := 3000000 }) only [go_sem,zaa,Nat.reduceAdd,Nat.reduceSub,Nat.reduceMul,Int.reduceToNat,reduceCtorEq,↓reduceIte,Int.reducePow,Nat.reducePow,Int.reduceMod,Nat.reduceLeDiff,Int.reduceLE,Int.reduceNe,Int.reduceEq,Nat.reduceEqDiff,Nat.reduceLT,Nat.reduceBEq,List.map_cons,List.map_nil,List.toList_toArray,Array.toList_append,Option.toArray_some,Option.toArray_none,Bool.and_self,ty,noS,zod,zic,tkS,ixTS,hle,hcl,dpos,hn,hL,hex,zai,zae,zad,zap,Int.toNat_natCast,Bool.not_true,Bool.not_false,hl5,hz,Nat.sub_zero]
 · rename_i f0 id now pat
   obtain rfl := hp
   refine ⟨by simp,zic,by kernel_rfl,?_⟩
   have z0 : decide ((-1 : Int) = -1) = true := rfl
   unfold Try.f42
   simp only [go_sem,coe,zaa,Nat.reduceAdd,Nat.reduceSub,Nat.reduceMul,Int.reduceToNat,reduceCtorEq,↓reduceIte,Int.reducePow,Nat.reducePow,Int.reduceMod,Nat.reduceLeDiff,Int.reduceLE,Int.reduceNe,Int.reduceEq,Nat.reduceEqDiff,Nat.reduceLT,Nat.reduceBEq,List.map_cons,List.map_nil,List.toList_toArray,Array.toList_append,Option.toArray_some,Option.toArray_none,Bool.and_self,ty,noS,zod,zic,ixTS,z0]
   refine ⟨_,Weak.refl _,?_⟩
   simp only [go_sem,coe,zaa,Nat.reduceAdd,Nat.reduceSub,Nat.reduceMul,Int.reduceToNat,reduceCtorEq,↓reduceIte,Int.reducePow,Nat.reducePow,Int.reduceMod,Nat.reduceLeDiff,Int.reduceLE,Int.reduceNe,Int.reduceEq,Nat.reduceEqDiff,Nat.reduceLT,Nat.reduceBEq,List.map_cons,List.map_nil,List.toList_toArray,Array.toList_append,Option.toArray_some,Option.toArray_none,Bool.and_self,ty,noS,zic]
 · exact hp.elim
end
end Go.Proofs.Ytdnlliedmfgfiaa
namespace Go.Proofs.Ytdnlliedmfgfiaa
open Ax
structure TR20 where
 g : Int
 p : Int
 l : List Mb
def tiF (gn ph : Int) (l : List Mb) (now pat : Int) : TR20 :=
 if chG gn ph l = 0 ∧ gn ≠ 1099511627776 ∧ (zmw now pat l).length ≠ l.length then ⟨gn + 1,if (zmw now pat l).length = 0 then 0 else 1,(zmw now pat l).map clrM⟩ else ⟨gn,ph,l⟩
def tiA (r : TR20) (f : Bool) : AV := .agg [.w (.int .i64 r.g),.w (.int .u8 r.p),.sg 3 (r.l.map mbA) f]
def tiS : zan
 | [.agg [.w (.int .i64 gn),.w (.int .u8 ph),.sg 3 xs f],.w (.int .i64 now),.w (.int .i64 pat)],[] => ⟨xs.length ≤ 900000 ∧ ∃ l : List Mb,xs = l.map mbA ∧ ∀ r ∈ l,r.d.length ≤ 9223372036854775807,tiA (tiF gn ph (xs.map umb) now pat) (empP xs),[]⟩
 | _,_ => zbo
def zjl (f : FuncId) : Option zan :=
 match f with
 | 16 => some chGS
 | 31 => some zdm
 | _ => none
theorem Sti20_ok : Fns Try.prog zjl := by
 intro f s h
 unfold zjl at h
 split at h
 · injection h with h; subst h; exact ⟨⟨_,Try.func16,by kernel_rfl,by kernel_rfl⟩,zjf⟩
 · injection h with h; subst h; exact ⟨⟨_,Try.func31,by kernel_rfl,by kernel_rfl⟩,zju⟩
 · cases h
def zrt (f : FuncId) : Option zan :=
 match f with
 | 42 => some dfTS
 | 35 => some turS
 | _ => none
theorem Oti20_ok : FnsO Try.prog zrt := by
 intro f s h
 unfold zrt at h
 split at h
 · injection h with h; subst h; exact ⟨⟨_,Try.func42,by kernel_rfl,by kernel_rfl⟩,dfT_sound⟩
 · injection h with h; subst h; exact ⟨⟨_,Try.func35,by kernel_rfl,by kernel_rfl⟩,zor⟩
 · cases h
def tiPl : zeq := fun id => match id with
 | 5 => .opn [] 3
 | 8 => .opn [] 1
 | _ => .std
def tiPl0 : zeq := fun id => match id with
 | 5 => .opn [] 3
 | _ => .std
theorem stay_all {now pat : Int} {l : List Mb} (h : (zmw now pat l).length = l.length) : zmw now pat l = l := by
 unfold zmw at h ⊢
 exact List.filter_eq_self.2 (List.length_filter_eq_length_iff.1 h)
theorem stay_le (now pat : Int) (l : List Mb) : (zmw now pat l).length ≤ l.length := List.length_filter_le _ _
section
set_option maxRecDepth 100000
set_option maxHeartbeats 16000000
theorem ti_sound : zbm Try.prog 15 tiS := by
 refine zbh (S := zjl) (SO := zrt) (T := ty) mixed ty_ok Sti20_ok Oti20_ok Try.func15 (c := Try.f15.body.getD .skip) (by kernel_rfl) (fun xs pins hp _ => ?_)
 unfold tiS at hp ⊢
 split at hp
 · rename_i gn ph xs f now pat _
   obtain ⟨hL0,l,rfl,hd⟩ := hp
   rw [List.length_map] at hL0
   have hle : (l.map mbA).length = l.length := by simp
   have hL : l.length ≤ 1000000 := by omega
   have hL9 : l.length ≤ 9223372036854775807 := by omega
   have hLj : l.length ≤ 900000 := by omega
   have hex : ∃ k : List Mb,l.map mbA = k.map mbA := ⟨l,rfl⟩
   have hxd : ∃ k : List Mb,l.map mbA = k.map mbA ∧ ∀ r ∈ k,r.d.length ≤ 9223372036854775807 := ⟨l,rfl,hd⟩
   have coeN : ∀ f,coe ty 29 (.sg 3 [] f) = .sg 3 [] f := fun f => rfl
   rw [zai]
   obtain ⟨C,hC⟩ : ∃ C,chG gn ph l = C := ⟨_,rfl⟩
   unfold tiF
   rw [hC]
   by_cases hz : l.length = 0
   · obtain rfl : l = [] := List.eq_nil_of_length_eq_zero hz
     have hs0 : zmw now pat [] = [] := rfl
     have hem : empP ([].map mbA) = true := rfl
     have hx0 : ∃ k : List Mb,([] : List AV) = k.map mbA := ⟨[],rfl⟩
     have hxd0 : ∃ k : List Mb,([] : List AV) = k.map mbA ∧ ∀ r ∈ k,r.d.length ≤ 9223372036854775807 := ⟨[],rfl,hd⟩
     have hem0 : empP [] = true := rfl
     have hu0 : ([] : List AV).map umb = [] := rfl
     have q6 : decide (((0 : Nat) : Int) = ((0 : Nat) : Int)) = true := rfl
     rw [if_neg (by rw [hs0]; simp),hem]
     by_cases hc : C = 0
     · have q0 : decide (C = 0) = true := decide_eq_true hc
       by_cases hg : gn = 1099511627776
       · have q1 : decide (gn = 1099511627776) = true := decide_eq_true hg
         refine ⟨by simp,tiPl0,by kernel_rfl,?_⟩
         unfold Try.f15
         iterate 8
           try rw [zaa]
           try simp (config := { maxSteps := 300000 }) only [go_sem,zaa,Nat.reduceAdd,Nat.reduceSub,Nat.reduceMul,Int.reduceToNat,reduceCtorEq,↓reduceIte,Int.reducePow,Nat.reducePow,Int.reduceMod,Nat.reduceLeDiff,Int.reduceLE,Int.reduceNe,Int.reduceEq,Nat.reduceEqDiff,Nat.reduceLT,Nat.reduceBEq,List.map_cons,List.map_nil,List.toList_toArray,Array.toList_append,Option.toArray_some,Option.toArray_none,Bool.and_self,-zaa,ty,zjl,zrt,tiPl0,chGS,zdm,dfTS,coeN,Bool.not_true,Bool.not_false,q0,q1,hC,hx0,hxd0,hem0,hu0,List.map_nil,List.length_nil,Nat.zero_le,cond_true]
           repeat (refine And.intro (by first | omega | exact zbg | exact ⟨by omega,by omega⟩ | exact ⟨rfl,rfl⟩ | (unfold top; omega)) ?_)
         try (refine ⟨_,Weak.refl _,?_⟩)
         try simp only [go_sem,zaa,Nat.reduceAdd,Nat.reduceSub,Nat.reduceMul,Int.reduceToNat,reduceCtorEq,↓reduceIte,Int.reducePow,Nat.reducePow,Int.reduceMod,Nat.reduceLeDiff,Int.reduceLE,Int.reduceNe,Int.reduceEq,Nat.reduceEqDiff,Nat.reduceLT,Nat.reduceBEq,List.map_cons,List.map_nil,List.toList_toArray,Array.toList_append,Option.toArray_some,Option.toArray_none,Bool.and_self,ty,zjl,tiA,List.map_nil]
       · have q1 : decide (gn = 1099511627776) = false := decide_eq_false hg
         refine ⟨by simp,tiPl0,by kernel_rfl,?_⟩
         unfold Try.f15
         iterate 14
           try rw [zaa]
           try simp (config := { maxSteps := 300000 }) only [go_sem,zaa,Nat.reduceAdd,Nat.reduceSub,Nat.reduceMul,Int.reduceToNat,reduceCtorEq,↓reduceIte,Int.reducePow,Nat.reducePow,Int.reduceMod,Nat.reduceLeDiff,Int.reduceLE,Int.reduceNe,Int.reduceEq,Nat.reduceEqDiff,Nat.reduceLT,Nat.reduceBEq,List.map_cons,List.map_nil,List.toList_toArray,Array.toList_append,Option.toArray_some,Option.toArray_none,Bool.and_self,-zaa,ty,zjl,zrt,tiPl0,chGS,zdm,dfTS,coeN,Bool.not_true,Bool.not_false,q0,q1,q6,hC,hx0,hxd0,hem0,hu0,List.map_nil,List.length_nil,Nat.zero_le,cond_true]
           repeat (refine And.intro (by first | omega | exact zbg | exact ⟨by omega,by omega⟩ | exact ⟨rfl,rfl⟩ | (unfold top; omega)) ?_)
         try (refine ⟨_,Weak.refl _,?_⟩)
         try simp only [go_sem,zaa,Nat.reduceAdd,Nat.reduceSub,Nat.reduceMul,Int.reduceToNat,reduceCtorEq,↓reduceIte,Int.reducePow,Nat.reducePow,Int.reduceMod,Nat.reduceLeDiff,Int.reduceLE,Int.reduceNe,Int.reduceEq,Nat.reduceEqDiff,Nat.reduceLT,Nat.reduceBEq,List.map_cons,List.map_nil,List.toList_toArray,Array.toList_append,Option.toArray_some,Option.toArray_none,Bool.and_self,ty,zjl,tiA,List.map_nil]
     · have q0 : decide (C = 0) = false := decide_eq_false hc
       refine ⟨by simp,tiPl0,by kernel_rfl,?_⟩
       unfold Try.f15
       iterate 8
         try rw [zaa]
         try simp (config := { maxSteps := 300000 }) only [go_sem,zaa,Nat.reduceAdd,Nat.reduceSub,Nat.reduceMul,Int.reduceToNat,reduceCtorEq,↓reduceIte,Int.reducePow,Nat.reducePow,Int.reduceMod,Nat.reduceLeDiff,Int.reduceLE,Int.reduceNe,Int.reduceEq,Nat.reduceEqDiff,Nat.reduceLT,Nat.reduceBEq,List.map_cons,List.map_nil,List.toList_toArray,Array.toList_append,Option.toArray_some,Option.toArray_none,Bool.and_self,-zaa,ty,zjl,zrt,tiPl0,chGS,zdm,dfTS,coeN,Bool.not_true,Bool.not_false,q0,hC,hx0,hxd0,hem0,hu0,List.map_nil,List.length_nil,Nat.zero_le,cond_true]
         repeat (refine And.intro (by first | omega | exact zbg | exact ⟨by omega,by omega⟩ | exact ⟨rfl,rfl⟩ | (unfold top; omega)) ?_)
       try (refine ⟨_,Weak.refl _,?_⟩)
       try simp only [go_sem,zaa,Nat.reduceAdd,Nat.reduceSub,Nat.reduceMul,Int.reduceToNat,reduceCtorEq,↓reduceIte,Int.reducePow,Nat.reducePow,Int.reduceMod,Nat.reduceLeDiff,Int.reduceLE,Int.reduceNe,Int.reduceEq,Nat.reduceEqDiff,Nat.reduceLT,Nat.reduceBEq,List.map_cons,List.map_nil,List.toList_toArray,Array.toList_append,Option.toArray_some,Option.toArray_none,Bool.and_self,ty,zjl,tiA,List.map_nil]
   · have hpos : 0 < l.length := by omega
     have dpos : decide (0 < l.length) = true := decide_eq_true hpos
     have hem : empP (l.map mbA) = false := by cases l with | nil => simp at hz | cons _ _ => rfl
     rw [hem]
     have hl1 : decide (0 + l.length ≤ (l.map mbA).length) = true := decide_eq_true (by simp)
     have hl2 : List.take l.length (l.map mbA) = l.map mbA := List.take_of_length_le (by simp)
     by_cases hc : C = 0
     · have q0 : decide (C = 0) = true := decide_eq_true hc
       by_cases hg : gn = 1099511627776
       · have q1 : decide (gn = 1099511627776) = true := decide_eq_true hg
         rw [if_neg (by simp [hg])]
         have hk1 := hl1
         have hk2 := hl2
         refine ⟨by simp,tiPl,by kernel_rfl,?_⟩
         unfold Try.f15
         iterate 8
           try rw [zaa]
           try simp (config := { maxSteps := 3000000 }) only [go_sem,zaa,Nat.reduceAdd,Nat.reduceSub,Nat.reduceMul,Int.reduceToNat,reduceCtorEq,↓reduceIte,Int.reducePow,Nat.reducePow,Int.reduceMod,Nat.reduceLeDiff,Int.reduceLE,Int.reduceNe,Int.reduceEq,Nat.reduceEqDiff,Nat.reduceLT,Nat.reduceBEq,List.map_cons,List.map_nil,List.toList_toArray,Array.toList_append,Option.toArray_some,Option.toArray_none,Bool.and_self,-zaa,ty,zjl,zrt,tiPl,chGS,zdm,dfTS,turS,zaw,coeN,hle,hL,hL9,hLj,hex,hxd,zai,zad,zap,zae,zcg,Int.toNat_natCast,Bool.not_true,Bool.not_false,decide_true,true_or,or_true,q0,q1,hC,hem,hpos,dpos,cond_false]
           repeat (refine And.intro (by first | omega | exact zbg | exact ⟨by omega,by omega⟩ | exact ⟨rfl,rfl⟩ | (unfold top; omega)) ?_)
         refine ⟨_,zdg 44 3 10 (l.map mbA) rfl (zad _) (by simp [slot,AV.ids,idsL]),?_⟩
         simp only [fgL,fgH,AV.fg,Blk.fg,Nat.reduceBEq,cond_true,cond_false,Bool.and_true,beq_self_eq_true,Bool.true_and,List.drop_zero,zcg,hk1,hk2]
         simp only [go_sem,zaa,Nat.reduceAdd,Nat.reduceSub,Nat.reduceMul,Int.reduceToNat,reduceCtorEq,↓reduceIte,Int.reducePow,Nat.reducePow,Int.reduceMod,Nat.reduceLeDiff,Int.reduceLE,Int.reduceNe,Int.reduceEq,Nat.reduceEqDiff,Nat.reduceLT,Nat.reduceBEq,List.map_cons,List.map_nil,List.toList_toArray,Array.toList_append,Option.toArray_some,Option.toArray_none,Bool.and_self,ty,zjl,tiA,zad,zae]
       · have q1 : decide (gn = 1099511627776) = false := decide_eq_false hg
         obtain ⟨L,hLs⟩ : ∃ L,zmw now pat l = L := ⟨_,rfl⟩
         have hLl : L.length ≤ l.length := by rw [← hLs]; exact stay_le _ _ _
         rw [hLs]
         by_cases hq : L.length = l.length
         · rw [if_neg (by simp [hq])]
           obtain rfl : L = l := by rw [← hLs]; exact stay_all (by rw [hLs]; exact hq)
           have hz0 : (L ++ List.replicate (L.length - L.length) zMb) = L := by rw [Nat.sub_self,List.replicate_zero,List.append_nil]
           have q2 : decide ((L.length : Int) = (L.length : Int)) = true := decide_eq_true rfl
           have hk1 := hl1
           have hk2 := hl2
           refine ⟨by simp,tiPl,by kernel_rfl,?_⟩
           unfold Try.f15
           iterate 14
             try rw [zaa]
             try simp (config := { maxSteps := 3000000 }) only [go_sem,zaa,Nat.reduceAdd,Nat.reduceSub,Nat.reduceMul,Int.reduceToNat,reduceCtorEq,↓reduceIte,Int.reducePow,Nat.reducePow,Int.reduceMod,Nat.reduceLeDiff,Int.reduceLE,Int.reduceNe,Int.reduceEq,Nat.reduceEqDiff,Nat.reduceLT,Nat.reduceBEq,List.map_cons,List.map_nil,List.toList_toArray,Array.toList_append,Option.toArray_some,Option.toArray_none,Bool.and_self,-zaa,ty,zjl,zrt,tiPl,chGS,zdm,dfTS,turS,zaw,coeN,hle,hL,hL9,hLj,hex,hxd,zai,zad,zap,zae,zcg,Int.toNat_natCast,Bool.not_true,Bool.not_false,decide_true,true_or,or_true,q0,q1,q2,hC,hem,hpos,dpos,hLs,hz0,cond_false]
             repeat (refine And.intro (by first | omega | exact zbg | exact ⟨by omega,by omega⟩ | exact ⟨rfl,rfl⟩ | (unfold top; omega)) ?_)
           refine ⟨_,zdg 44 3 10 (L.map mbA) rfl (zad _) (by simp [slot,AV.ids,idsL]),?_⟩
           simp only [fgL,fgH,AV.fg,Blk.fg,Nat.reduceBEq,cond_true,cond_false,Bool.and_true,beq_self_eq_true,Bool.true_and,List.drop_zero,zcg,hk1,hk2]
           simp only [go_sem,zaa,Nat.reduceAdd,Nat.reduceSub,Nat.reduceMul,Int.reduceToNat,reduceCtorEq,↓reduceIte,Int.reducePow,Nat.reducePow,Int.reduceMod,Nat.reduceLeDiff,Int.reduceLE,Int.reduceNe,Int.reduceEq,Nat.reduceEqDiff,Nat.reduceLT,Nat.reduceBEq,List.map_cons,List.map_nil,List.toList_toArray,Array.toList_append,Option.toArray_some,Option.toArray_none,Bool.and_self,ty,zjl,tiA,zad,zae]
         · rw [if_pos ⟨hc,hg,hq⟩]
           obtain ⟨_,⟨g0,g1⟩,_,_⟩ := ch_ok20 (hC.trans hc)
           have hgb : (-4611686018427387904 ≤ gn ∧ gn ≤ 4611686018427387904) := by omega
           have q2 : decide ((L.length : Int) = (l.length : Int)) = false := decide_eq_false (by omega)
           obtain ⟨R,hR⟩ : ∃ R,List.replicate (l.length - L.length) zMb = R := ⟨_,rfl⟩
           have hRl : R.length = l.length - L.length := by rw [← hR,List.length_replicate]
           have hNe : ((L ++ R).map mbA).length = l.length := by rw [List.length_map,List.length_append,hRl]; omega
           have hNx : ∃ k : List Mb,(L ++ R).map mbA = k.map mbA := ⟨_,rfl⟩
           have hNt : (List.take L.length (L ++ R)).map clrM ++ List.drop L.length (L ++ R) = L.map clrM ++ R := by
             rw [List.take_left' rfl,List.drop_left' rfl]
           have hk1 : decide (0 + L.length ≤ ((L.map clrM ++ R).map mbA).length) = true := decide_eq_true (by simp)
           have hk2 : List.take L.length ((L.map clrM ++ R).map mbA) = (L.map clrM).map mbA := by
             rw [List.map_append,List.take_left' (by simp)]
           generalize hN : L ++ R = N at *
           refine ⟨by simp,tiPl,by kernel_rfl,?_⟩
           unfold Try.f15
           iterate 16
             try rw [zaa]
             try simp (config := { maxSteps := 3000000 }) only [go_sem,zaa,Nat.reduceAdd,Nat.reduceSub,Nat.reduceMul,Int.reduceToNat,reduceCtorEq,↓reduceIte,Int.reducePow,Nat.reducePow,Int.reduceMod,Nat.reduceLeDiff,Int.reduceLE,Int.reduceNe,Int.reduceEq,Nat.reduceEqDiff,Nat.reduceLT,Nat.reduceBEq,List.map_cons,List.map_nil,List.toList_toArray,Array.toList_append,Option.toArray_some,Option.toArray_none,Bool.and_self,-zaa,ty,zjl,zrt,tiPl,chGS,zdm,dfTS,turS,zaw,coeN,hle,hL,hL9,hLj,hex,hxd,zai,zad,zap,zae,zcg,Int.toNat_natCast,Bool.not_true,Bool.not_false,decide_true,true_or,or_true,q0,q1,q2,hC,hem,hpos,dpos,hLs,hR,hN,hNe,hNx,hNt,cond_false]
             repeat (refine And.intro (by first | omega | exact zbg | exact ⟨by omega,by omega⟩ | exact ⟨rfl,rfl⟩ | (unfold top; omega)) ?_)
           refine ⟨⟨by cases decide (0 < L.length) <;> rfl,⟨by omega,by omega⟩,hgb⟩,?_⟩
           refine ⟨_,zdg 44 3 35 ((L.map clrM ++ R).map mbA) rfl (zad _) (by simp [slot,AV.ids,idsL]),?_⟩
           simp only [fgL,fgH,AV.fg,Blk.fg,Nat.reduceBEq,cond_true,cond_false,Bool.and_true,beq_self_eq_true,Bool.true_and,List.drop_zero,zcg,hk1,hk2]
           simp only [go_sem,zaa,Nat.reduceAdd,Nat.reduceSub,Nat.reduceMul,Int.reduceToNat,reduceCtorEq,↓reduceIte,Int.reducePow,Nat.reducePow,Int.reduceMod,Nat.reduceLeDiff,Int.reduceLE,Int.reduceNe,Int.reduceEq,Nat.reduceEqDiff,Nat.reduceLT,Nat.reduceBEq,List.map_cons,List.map_nil,List.toList_toArray,Array.toList_append,Option.toArray_some,Option.toArray_none,Bool.and_self,ty,zjl,tiA,zad,zae]
     · have q0 : decide (C = 0) = false := decide_eq_false hc
       rw [if_neg (fun h => hc h.1)]
       have hk1 := hl1
       have hk2 := hl2
       refine ⟨by simp,tiPl,by kernel_rfl,?_⟩
       unfold Try.f15
       iterate 8
         try rw [zaa]
         try simp (config := { maxSteps := 3000000 }) only [go_sem,zaa,Nat.reduceAdd,Nat.reduceSub,Nat.reduceMul,Int.reduceToNat,reduceCtorEq,↓reduceIte,Int.reducePow,Nat.reducePow,Int.reduceMod,Nat.reduceLeDiff,Int.reduceLE,Int.reduceNe,Int.reduceEq,Nat.reduceEqDiff,Nat.reduceLT,Nat.reduceBEq,List.map_cons,List.map_nil,List.toList_toArray,Array.toList_append,Option.toArray_some,Option.toArray_none,Bool.and_self,-zaa,ty,zjl,zrt,tiPl,chGS,zdm,dfTS,turS,zaw,coeN,hle,hL,hL9,hLj,hex,hxd,zai,zad,zap,zae,zcg,Int.toNat_natCast,Bool.not_true,Bool.not_false,decide_true,true_or,or_true,q0,hC,hem,hpos,dpos,cond_false]
         repeat (refine And.intro (by first | omega | exact zbg | exact ⟨by omega,by omega⟩ | exact ⟨rfl,rfl⟩ | (unfold top; omega)) ?_)
       refine ⟨_,zdg 44 3 10 (l.map mbA) rfl (zad _) (by simp [slot,AV.ids,idsL]),?_⟩
       simp only [fgL,fgH,AV.fg,Blk.fg,Nat.reduceBEq,cond_true,cond_false,Bool.and_true,beq_self_eq_true,Bool.true_and,List.drop_zero,zcg,hk1,hk2]
       simp only [go_sem,zaa,Nat.reduceAdd,Nat.reduceSub,Nat.reduceMul,Int.reduceToNat,reduceCtorEq,↓reduceIte,Int.reducePow,Nat.reducePow,Int.reduceMod,Nat.reduceLeDiff,Int.reduceLE,Int.reduceNe,Int.reduceEq,Nat.reduceEqDiff,Nat.reduceLT,Nat.reduceBEq,List.map_cons,List.map_nil,List.toList_toArray,Array.toList_append,Option.toArray_some,Option.toArray_none,Bool.and_self,ty,zjl,tiA,zad,zae]
 · exact hp.elim
end
end Go.Proofs.Ytdnlliedmfgfiaa
namespace Go.Proofs.Ytdnlliedmfgfiaa
open Ax
theorem clean_mb : ∀ (l : List Mb),cleanL (l.map mbA) = true
 | [] => rfl
 | x :: r => by simp only [List.map_cons,cleanL,clean_mb r]; rfl
def yesM (m : Mb) : Mb := ⟨m.d,m.t,true⟩
def sy1S : zan
 | [.rf 0 3 i 0],[.g 3 xs] => ⟨i < xs.length ∧ (∃ l : List Mb,xs = l.map mbA),.tup [],[.g 3 (((xs.map umb).set i (yesM (mbI (xs.map umb) i))).map mbA)]⟩
 | _,_ => zbo
def chaYS : zan
 | [.agg [.w (.int .i64 gn),.w (.int .u8 ph),.ms 0 3 0 n],.w (.int .i64 i),.fn id []],[.g 3 xs] => ⟨id = 37 ∧ (0 ≤ i ∧ i < n) ∧ (n = xs.length ∧ 0 < n ∧ n ≤ 1000000) ∧ (∃ l : List Mb,xs = l.map mbA),
     .agg [.w (.int .i64 gn),.w (.int .u8 ph),.ms 1 3 0 n],[.g 3 xs,.g 3 (((xs.map umb).set i.toNat (yesM (mbI (xs.map umb) i.toNat))).map mbA)]⟩
 | _,_ => zbo
section
set_option maxRecDepth 100000
set_option maxHeartbeats 4000000
theorem sy1_sound : zcm Try.prog 37 sy1S := by
 refine zbw (S := noS) (SO := noO) (T := ty) mixed ty_ok zbv zgy Try.func37 (c := Try.f37.body.getD .skip) (by kernel_rfl) (fun xs pins hp => ?_)
 unfold sy1S at hp ⊢
 split at hp
 · rename_i i xs
   obtain ⟨hi,l,rfl⟩ := hp
   rw [List.length_map] at hi
   have hle : (l.map mbA).length = l.length := by simp
   rw [zai]
   have hs1 := zcu l i hi
   have hmb : mbI l i = l[i] := by unfold mbI; rw [List.getElem?_eq_getElem hi]; rfl
   have hst : ∀ x : Mb,setSlot (l.map mbA) i (.agg [.str x.d,.w (.int .i64 x.t),.w (.bool x.y)]) = (l.set i x).map mbA := fun x => zgv x l i hi
   rw [hmb]
   obtain ⟨r,hr⟩ : ∃ r,l[i] = r := ⟨_,rfl⟩
   rw [hr] at hs1 ⊢
   obtain ⟨rd,rt,ry⟩ := r
   have hs1 : slot (l.map mbA) i = .agg [.str rd,.w (.int .i64 rt),.w (.bool ry)] := hs1
   have hst1 := hst (yesM ⟨rd,rt,ry⟩)
   unfold yesM at hst1 ⊢
   simp only at hst1
   refine ⟨by simp,zbf,by kernel_rfl,?_⟩
   unfold Try.f37
   simp only [go_sem,zaa,Nat.reduceAdd,Nat.reduceSub,Nat.reduceMul,Int.reduceToNat,reduceCtorEq,↓reduceIte,Int.reducePow,Nat.reducePow,Int.reduceMod,Nat.reduceLeDiff,Int.reduceLE,Int.reduceNe,Int.reduceEq,Nat.reduceEqDiff,Nat.reduceLT,Nat.reduceBEq,List.map_cons,List.map_nil,List.toList_toArray,Array.toList_append,Option.toArray_some,Option.toArray_none,Bool.and_self,ty,noS,zbf,hle,hs1,hst1,zad,zap,Int.toNat_natCast]
   repeat (refine And.intro (by omega) ?_)
   try (refine ⟨_,Weak.refl _,?_⟩)
   try simp only [go_sem,zaa,Nat.reduceAdd,Nat.reduceSub,Nat.reduceMul,Int.reduceToNat,reduceCtorEq,↓reduceIte,Int.reducePow,Nat.reducePow,Int.reduceMod,Nat.reduceLeDiff,Int.reduceLE,Int.reduceNe,Int.reduceEq,Nat.reduceEqDiff,Nat.reduceLT,Nat.reduceBEq,List.map_cons,List.map_nil,List.toList_toArray,Array.toList_append,Option.toArray_some,Option.toArray_none,Bool.and_self,ty,noS,zad,zae]
 · exact hp.elim
end
def zvc (f : FuncId) : Option zan :=
 match f with
 | 37 => some sy1S
 | _ => none
theorem OchaY20_ok : FnsO Try.prog zvc := by
 intro f s h
 unfold zvc at h
 split at h
 · injection h with h; subst h; exact ⟨⟨_,Try.func37,by kernel_rfl,by kernel_rfl⟩,sy1_sound⟩
 · cases h
section
set_option maxRecDepth 100000
set_option maxHeartbeats 8000000
theorem chaY_sound : zcm Try.prog 29 chaYS := by
 refine zbw (S := zoa) (SO := zvc) (T := ty) mixed ty_ok Scha20_ok OchaY20_ok Try.func29 (c := Try.f29.body.getD .skip) (by kernel_rfl) (fun xs pins hp => ?_)
 unfold chaYS at hp ⊢
 split at hp
 · rename_i gn ph n i id xs
   obtain ⟨rfl,⟨i0,i1⟩,⟨rfl,hn,hL⟩,l,rfl⟩ := hp
   rw [List.length_map] at hL i1 hn
   have dpos : decide (0 < l.length) = true := decide_eq_true hn
   have hdle : decide (0 + l.length ≤ (l.map mbA).length) = true := decide_eq_true (by simp)
   have htk : List.take l.length (l.map mbA) = l.map mbA := List.take_of_length_le (by simp)
   have hle : (l.map mbA).length = l.length := by simp
   have hcl := zad l
   have hex : ∃ k : List Mb,l.map mbA = k.map mbA := ⟨l,rfl⟩
   obtain ⟨I,rfl⟩ : ∃ I : Nat,i = I := ⟨i.toNat,by omega⟩
   have hI : I < l.length := by omega
   have hem : empP (l.map mbA) = false := by cases l with | nil => simp at hI | cons _ _ => rfl
   rw [zai,hle]
   generalize hQ : l.set I (yesM (mbI l I)) = Q
   have hQl : Q.length = l.length := by rw [← hQ,List.length_set]
   have hQQ : l.set ((I : Int).toNat) (yesM (mbI l ((I : Int).toNat))) = Q := by rw [← hQ]; simp
   rw [hQQ]
   refine ⟨by simp,chaPl,by kernel_rfl,?_⟩
   unfold Try.f29
   simp only [go_sem,zaa,Nat.reduceAdd,Nat.reduceSub,Nat.reduceMul,Int.reduceToNat,reduceCtorEq,↓reduceIte,Int.reducePow,Nat.reducePow,Int.reduceMod,Nat.reduceLeDiff,Int.reduceLE,Int.reduceNe,Int.reduceEq,Nat.reduceEqDiff,Nat.reduceLT,Nat.reduceBEq,List.map_cons,List.map_nil,List.toList_toArray,Array.toList_append,Option.toArray_some,Option.toArray_none,Bool.and_self,ty,zoa,zvc,chaPl,zdm,sy1S,zaw,hle,hL,hn,dpos,hdle,htk,clean_mb,List.drop_zero,hex,hem,hcl,hI,hQ,zad,zap,zai,zae,Int.toNat_natCast,cond_false,cond_true]
   repeat (first | refine And.intro (by omega) ?_ | refine And.intro (fun y hy => zbg y hy) ?_ | refine And.intro ⟨by omega,by omega⟩ ?_)
   try (refine ⟨_,Weak.refl _,?_⟩)
   try simp only [go_sem,zaa,Nat.reduceAdd,Nat.reduceSub,Nat.reduceMul,Int.reduceToNat,reduceCtorEq,↓reduceIte,Int.reducePow,Nat.reducePow,Int.reduceMod,Nat.reduceLeDiff,Int.reduceLE,Int.reduceNe,Int.reduceEq,Nat.reduceEqDiff,Nat.reduceLT,Nat.reduceBEq,List.map_cons,List.map_nil,List.toList_toArray,Array.toList_append,Option.toArray_some,Option.toArray_none,Bool.and_self,ty,zoa,zad,zae,hle]
 · exact hp.elim
end
end Go.Proofs.Ytdnlliedmfgfiaa
namespace Go.Proofs.Ytdnlliedmfgfiaa
open Ax
def nmL (l : List Mb) : List (List UInt8) := l.map fun m => m.d
theorem nm_str (l : List Mb) : (l.map fun m => AV.str m.d) = (nmL l).map AV.str := by unfold nmL; rw [List.map_map]; rfl
theorem leD_lt {a q : List UInt8} (h : leD a q = false) : q < a := by
 unfold leD at h
 simp only [Bool.or_eq_false_iff,decide_eq_false_iff_not] at h
 have h1 := bl_tot h.2 h.1
 rw [zro] at h1
 exact of_decide_eq_true h1
theorem zty : ∀ (l : List Mb) (p : Option (List UInt8)),zbu p l = true → srtT (nmL l) ∧ ∀ q,p = some q → ∀ m ∈ l,q < m.d
 | [],p,_ => ⟨List.Pairwise.nil,by simp⟩
 | a :: r,p,h => by
   rw [zej] at h
   obtain ⟨_,h2,h3⟩ := h
   obtain ⟨i1,i2⟩ := zty r (some a.d) h3
   refine ⟨List.pairwise_cons.2 ⟨fun x hx => ?_,i1⟩,fun q hq m hm => ?_⟩
   · obtain ⟨m,hm,rfl⟩ := List.mem_map.1 hx
     exact i2 _ rfl m hm
   · have hqa := leD_lt (h2 q hq)
     rcases List.mem_cons.1 hm with rfl | hm
     · exact hqa
     · exact List.lt_trans hqa (i2 _ rfl m hm)
theorem chG_srt {gn ph : Int} {l : List Mb} (h : chG gn ph l = 0) : srtT (nmL l) := by
 unfold chG at h
 split at h
 · rename_i hb
   unfold chB at hb
   simp only [Bool.and_eq_true] at hb
   exact (zty l none hb.2.2.2).1
 · omega
theorem nm_set (l : List Mb) (I : Nat) (x : Mb) (hI : I < l.length) (hx : x.d = (mbI l I).d) : nmL (l.set I x) = nmL l := by
 unfold nmL
 refine List.ext_getElem (by simp) fun i h1 h2 => ?_
 simp only [List.getElem_map,List.getElem_set]
 split
 · rename_i e
   subst e
   rw [hx]
   unfold mbI
   rw [List.getElem?_eq_getElem hI]; rfl
 · rfl
theorem nm_there {v : List UInt8} {l : List Mb} (hs : srtT (nmL l)) (h : l.findIdx (isD v) < l.length) : thT v (nmL l) = true := by
 refine (thT_mem hs).2 ?_
 have h1 : isD v l[l.findIdx (isD v)] = true := List.findIdx_getElem (w := h)
 unfold isD at h1
 have h2 : l[l.findIdx (isD v)].d = v := of_decide_eq_true h1
 rw [← h2]
 exact List.mem_map.2 ⟨_,List.getElem_mem h,rfl⟩
structure SR where
 r : JR
 o : AV
def sySet (l : List Mb) (I : Nat) (now : Int) : List Mb := (l.set I (zeu now (mbI l I))).set I (yesM (mbI (l.set I (zeu now (mbI l I))) I))
def syF (gn ph : Int) (l : List Mb) (v : List UInt8) (gen parts now : Int) : SR :=
 if (fiF gn ph l v gen now).2 = 0 then
   ⟨⟨gn,if allY (sySet l (l.findIdx (isD v)) now) = true then 2 else ph,sySet l (l.findIdx (isD v)) now,false,0⟩,.si (ofF (nmL l) parts v) false⟩
 else ⟨errJ (fiF gn ph l v gen now).2,.sg 1 [] true⟩
def syA (x : SR) : AV := .tup [.agg [.w (.int .i64 x.r.g),.w (.int .u8 x.r.p),.sg 3 (x.r.l.map mbA) x.r.f],x.o,.w (.int .i64 x.r.e)]
def syS : zan
 | [.agg [.w (.int .i64 gn),.w (.int .u8 ph),.sg 3 xs f],.str v,.w (.int .i64 gen),.w (.int .i64 parts),.w (.int .i64 now)],[] => ⟨xs.length ≤ 900000 ∧ ∃ l : List Mb,xs = l.map mbA ∧ ∀ r ∈ l,r.d.length ≤ 9223372036854775807,syA (syF gn ph (xs.map umb) v gen parts now),[]⟩
 | _,_ => zbo
def chaUS : zan
 | [.agg [.w (.int .i64 gn),.w (.int .u8 ph),.sg 3 xs f],.w (.int .i64 i),.fn id [.rf 0 1 0 0]],[.g 1 [.w (.int .i64 now)]] => chaS [.agg [.w (.int .i64 gn),.w (.int .u8 ph),.sg 3 xs f],.w (.int .i64 i),.fn id [.rf 0 1 0 0]] [.g 1 [.w (.int .i64 now)]]
 | [.agg [.w (.int .i64 gn),.w (.int .u8 ph),.ms 0 3 0 n],.w (.int .i64 i),.fn id []],[.g 3 xs] => chaYS [.agg [.w (.int .i64 gn),.w (.int .u8 ph),.ms 0 3 0 n],.w (.int .i64 i),.fn id []] [.g 3 xs]
 | _,_ => zbo
theorem chaU_sound : zcm Try.prog 29 chaUS := by
 intro xs pins hp
 unfold chaUS at hp ⊢
 split at hp
 · exact zqk _ _ hp
 · exact chaY_sound _ _ hp
 · exact hp.elim
def zoc (f : FuncId) : Option zan :=
 match f with
 | 36 => some zqb
 | 30 => some zga
 | 38 => some alyS
 | 18 => some namS
 | 39 => some ofS
 | _ => none
theorem Ssy20_ok : Fns Try.prog zoc := by
 intro f s h
 unfold zoc at h
 split at h
 · injection h with h; subst h; exact ⟨⟨_,Try.func36,by kernel_rfl,by kernel_rfl⟩,fi_sound⟩
 · injection h with h; subst h; exact ⟨⟨_,Try.func30,by kernel_rfl,by kernel_rfl⟩,zmy⟩
 · injection h with h; subst h; exact ⟨⟨_,Try.func38,by kernel_rfl,by kernel_rfl⟩,aly_sound⟩
 · injection h with h; subst h; exact ⟨⟨_,Try.func18,by kernel_rfl,by kernel_rfl⟩,nam_sound⟩
 · injection h with h; subst h; exact ⟨⟨_,Try.func39,by kernel_rfl,by kernel_rfl⟩,of_sound⟩
 · cases h
def zvb (f : FuncId) : Option zan :=
 match f with
 | 29 => some chaUS
 | _ => none
theorem Osy20_ok : FnsO Try.prog zvb := by
 intro f s h
 unfold zvb at h
 split at h
 · injection h with h; subst h; exact ⟨⟨_,Try.func29,by kernel_rfl,by kernel_rfl⟩,chaU_sound⟩
 · cases h
def syPl : zeq := fun id => match id with
 | 4 => .drs [] 4
 | 5 => .opn [] 2
 | 8 => .wkp [(0,2),(0,5)]
 | _ => .std
section
set_option maxRecDepth 100000
set_option maxHeartbeats 16000000
theorem sy_sound : zbm Try.prog 12 syS := by
 refine zbh (S := zoc) (SO := zvb) (T := ty) mixed ty_ok Ssy20_ok Osy20_ok Try.func12 (c := Try.f12.body.getD .skip) (by kernel_rfl) (fun xs pins hp _ => ?_)
 unfold syS at hp ⊢
 split at hp
 · rename_i gn ph xs f v gen parts now _
   obtain ⟨hL0,l,rfl,hd⟩ := hp
   rw [List.length_map] at hL0
   have hle : (l.map mbA).length = l.length := by simp
   have hL : l.length ≤ 1000000 := by omega
   have hL9 : l.length ≤ 9223372036854775807 := by omega
   have hLj : l.length ≤ 900000 := by omega
   have hex : ∃ k : List Mb,l.map mbA = k.map mbA := ⟨l,rfl⟩
   have hxd : ∃ k : List Mb,l.map mbA = k.map mbA ∧ ∀ r ∈ k,r.d.length ≤ 9223372036854775807 := ⟨l,rfl,hd⟩
   have coeN : ∀ f,coe ty 29 (.sg 3 [] f) = .sg 3 [] f := fun f => rfl
   rw [zai]
   unfold syF
   by_cases he : (fiF gn ph l v gen now).2 = 0
   · rw [if_pos he]
     obtain ⟨hc,hT,hf,rfl,hfi⟩ := zuj he
     rw [hfi] at he
     have hsr := chG_srt hc
     have hth := nm_there hsr hf
     obtain ⟨I,hI2⟩ : ∃ I,l.findIdx (isD v) = I := ⟨_,rfl⟩
     rw [hI2] at hf hfi ⊢
     have q0 : decide ((0 : Int) = 0) = true := rfl
     unfold sySet
     have hn1 : nmL (l.set I (zeu now (mbI l I))) = nmL l := nm_set _ _ _ hf rfl
     generalize hQ : l.set I (zeu now (mbI l I)) = Q at *
     have hQl : Q.length = l.length := by rw [← hQ,List.length_set]
     have hn2 : nmL (Q.set I (yesM (mbI Q I))) = nmL l := (nm_set Q I (yesM (mbI Q I)) (by omega) rfl).trans hn1
     generalize hW : Q.set I (yesM (mbI Q I)) = W at *
     have hWl : W.length = l.length := by rw [← hW,List.length_set]; exact hQl
     have hwm : (W.map mbA).length = l.length := by simp [hWl]
     have hqm : (Q.map mbA).length = l.length := by simp [hQl]
     have hk1 : decide (0 + l.length ≤ (W.map mbA).length) = true := decide_eq_true (by simp; omega)
     have hk2 : List.take l.length (W.map mbA) = W.map mbA := List.take_of_length_le (by simp; omega)
     have hIn : ((I : Int) < (l.length : Int)) = True := eq_true (by omega)
     have hI0 : ((0 : Int) ≤ (I : Int)) = True := eq_true (by omega)
     have hl0 : (0 < l.length) = True := eq_true (by omega)
     have hld : decide (0 < l.length) = true := decide_eq_true (by omega)
     have hexQ : ∃ k : List Mb,Q.map mbA = k.map mbA := ⟨Q,rfl⟩
     have hexW : ∃ k : List Mb,W.map mbA = k.map mbA := ⟨W,rfl⟩
     have hnm : (W.map fun m => AV.str m.d) = (nmL l).map AV.str := by rw [nm_str,hn2]
     refine ⟨by simp,syPl,by kernel_rfl,?_⟩
     unfold Try.f12
     iterate 8
       try rw [zaa]
       try simp (config := { maxSteps := 3000000 }) only [go_sem,zaa,Nat.reduceAdd,Nat.reduceSub,Nat.reduceMul,Int.reduceToNat,reduceCtorEq,↓reduceIte,Int.reducePow,Nat.reducePow,Int.reduceMod,Nat.reduceLeDiff,Int.reduceLE,Int.reduceNe,Int.reduceEq,Nat.reduceEqDiff,Nat.reduceLT,Nat.reduceBEq,List.map_cons,List.map_nil,List.toList_toArray,Array.toList_append,Option.toArray_some,Option.toArray_none,Bool.and_self,-zaa,ty,zoc,zvb,syPl,zqb,zga,chaUS,chaS,zaw,coeN,hle,hL,hL9,hLj,hex,hxd,zai,zad,zap,zae,zcg,Int.toNat_natCast,Bool.not_true,Bool.not_false,decide_true,true_or,or_true,hfi,q0]
       repeat (refine And.intro (by first | omega | exact zbg | exact ⟨by omega,by omega⟩ | exact ⟨rfl,rfl⟩ | (unfold top; omega)) ?_)
     refine ⟨_,_,Weak.refl _,?_⟩
     have hmW := zai W
     have hclW : (∀ y ∈ W.map mbA,y.closed = true) := fun y hy => zbg y hy
     have hclT : (∀ y ∈ W.map mbA,y.closed = true) = True := eq_true hclW
     have hnl : ((nmL l).map AV.str).length = l.length := by simp [nmL]
     have hexN : ∃ k : List (List UInt8),(nmL l).map AV.str = k.map AV.str ∧ srtT k ∧ thT v k = true := ⟨_,rfl,hsr,hth⟩
     have hmN := zlx (nmL l)
     cases hA : allY W with
     | true =>
       iterate 6
         try rw [zaa]
         try simp (config := { maxSteps := 3000000 }) only [go_sem,zaa,Nat.reduceAdd,Nat.reduceSub,Nat.reduceMul,Int.reduceToNat,reduceCtorEq,↓reduceIte,Int.reducePow,Nat.reducePow,Int.reduceMod,Nat.reduceLeDiff,Int.reduceLE,Int.reduceNe,Int.reduceEq,Nat.reduceEqDiff,Nat.reduceLT,Nat.reduceBEq,List.map_cons,List.map_nil,List.toList_toArray,Array.toList_append,Option.toArray_some,Option.toArray_none,Bool.and_self,-zaa,ty,zoc,zvb,syPl,zqb,zga,chaUS,chaS,chaYS,alyS,zaw,coeN,hle,hL,hL9,hLj,hex,hxd,zai,zad,zap,zae,zcg,Int.toNat_natCast,Bool.not_true,Bool.not_false,decide_true,true_or,or_true,hfi,q0,hQ,hIn,hI0,hW,hqm,hwm,hl0,hld,hexQ,hexW,hA,hk2,hclT]
         repeat (refine And.intro (by first | omega | exact zbg | exact ⟨by omega,by omega⟩ | exact ⟨rfl,rfl⟩ | (unfold top; omega)) ?_)
       unfold wkF
       refine ⟨_,_,zdg 196 3 34 (W.map mbA) rfl (zad _) (by simp [slot,AV.ids,idsL]),?_⟩
       simp only [fgL,fgH,AV.fg,Blk.fg,Nat.reduceBEq,cond_true,cond_false,Bool.and_true,beq_self_eq_true,Bool.true_and,List.drop_zero,zcg,hk1,hk2]
       simp (config := { maxSteps := 3000000 }) only [go_sem,zaa,Nat.reduceAdd,Nat.reduceSub,Nat.reduceMul,Int.reduceToNat,reduceCtorEq,↓reduceIte,Int.reducePow,Nat.reducePow,Int.reduceMod,Nat.reduceLeDiff,Int.reduceLE,Int.reduceNe,Int.reduceEq,Nat.reduceEqDiff,Nat.reduceLT,Nat.reduceBEq,List.map_cons,List.map_nil,List.toList_toArray,Array.toList_append,Option.toArray_some,Option.toArray_none,Bool.and_self,ty,zoc,zvb,syPl,namS,ofS,zaw,zmm,hL,hwm,hexW,hnm,hnl,hexN,hmN,hmW,zad,zap,zae]
       refine ⟨_,Weak.refl _,?_⟩
       simp only [go_sem,zaa,Nat.reduceAdd,Nat.reduceSub,Nat.reduceMul,Int.reduceToNat,reduceCtorEq,↓reduceIte,Int.reducePow,Nat.reducePow,Int.reduceMod,Nat.reduceLeDiff,Int.reduceLE,Int.reduceNe,Int.reduceEq,Nat.reduceEqDiff,Nat.reduceLT,Nat.reduceBEq,List.map_cons,List.map_nil,List.toList_toArray,Array.toList_append,Option.toArray_some,Option.toArray_none,Bool.and_self,ty,zoc,syA,zad,zae]
     | false =>
       iterate 6
         try rw [zaa]
         try simp (config := { maxSteps := 3000000 }) only [go_sem,zaa,Nat.reduceAdd,Nat.reduceSub,Nat.reduceMul,Int.reduceToNat,reduceCtorEq,↓reduceIte,Int.reducePow,Nat.reducePow,Int.reduceMod,Nat.reduceLeDiff,Int.reduceLE,Int.reduceNe,Int.reduceEq,Nat.reduceEqDiff,Nat.reduceLT,Nat.reduceBEq,List.map_cons,List.map_nil,List.toList_toArray,Array.toList_append,Option.toArray_some,Option.toArray_none,Bool.and_self,-zaa,ty,zoc,zvb,syPl,zqb,zga,chaUS,chaS,chaYS,alyS,zaw,coeN,hle,hL,hL9,hLj,hex,hxd,zai,zad,zap,zae,zcg,Int.toNat_natCast,Bool.not_true,Bool.not_false,decide_true,true_or,or_true,hfi,q0,hQ,hIn,hI0,hW,hqm,hwm,hl0,hld,hexQ,hexW,hA,hk2,hclT]
         repeat (refine And.intro (by first | omega | exact zbg | exact ⟨by omega,by omega⟩ | exact ⟨rfl,rfl⟩ | (unfold top; omega)) ?_)
       unfold wkF
       refine ⟨_,_,zdg 196 3 34 (W.map mbA) rfl (zad _) (by simp [slot,AV.ids,idsL]),?_⟩
       simp only [fgL,fgH,AV.fg,Blk.fg,Nat.reduceBEq,cond_true,cond_false,Bool.and_true,beq_self_eq_true,Bool.true_and,List.drop_zero,zcg,hk1,hk2]
       simp (config := { maxSteps := 3000000 }) only [go_sem,zaa,Nat.reduceAdd,Nat.reduceSub,Nat.reduceMul,Int.reduceToNat,reduceCtorEq,↓reduceIte,Int.reducePow,Nat.reducePow,Int.reduceMod,Nat.reduceLeDiff,Int.reduceLE,Int.reduceNe,Int.reduceEq,Nat.reduceEqDiff,Nat.reduceLT,Nat.reduceBEq,List.map_cons,List.map_nil,List.toList_toArray,Array.toList_append,Option.toArray_some,Option.toArray_none,Bool.and_self,ty,zoc,zvb,syPl,namS,ofS,zaw,zmm,hL,hwm,hexW,hnm,hnl,hexN,hmN,hmW,zad,zap,zae]
       refine ⟨_,Weak.refl _,?_⟩
       simp only [go_sem,zaa,Nat.reduceAdd,Nat.reduceSub,Nat.reduceMul,Int.reduceToNat,reduceCtorEq,↓reduceIte,Int.reducePow,Nat.reducePow,Int.reduceMod,Nat.reduceLeDiff,Int.reduceLE,Int.reduceNe,Int.reduceEq,Nat.reduceEqDiff,Nat.reduceLT,Nat.reduceBEq,List.map_cons,List.map_nil,List.toList_toArray,Array.toList_append,Option.toArray_some,Option.toArray_none,Bool.and_self,ty,zoc,syA,zad,zae]
   · rw [if_neg he]
     obtain ⟨⟨a,b⟩,hX⟩ : ∃ X,fiF gn ph l v gen now = X := ⟨_,rfl⟩
     rw [hX] at he ⊢
     have he : b ≠ 0 := he
     have q0 : decide (b = 0) = false := decide_eq_false he
     refine ⟨by simp,syPl,by kernel_rfl,?_⟩
     unfold Try.f12
     iterate 8
       try rw [zaa]
       try simp (config := { maxSteps := 3000000 }) only [go_sem,zaa,Nat.reduceAdd,Nat.reduceSub,Nat.reduceMul,Int.reduceToNat,reduceCtorEq,↓reduceIte,Int.reducePow,Nat.reducePow,Int.reduceMod,Nat.reduceLeDiff,Int.reduceLE,Int.reduceNe,Int.reduceEq,Nat.reduceEqDiff,Nat.reduceLT,Nat.reduceBEq,List.map_cons,List.map_nil,List.toList_toArray,Array.toList_append,Option.toArray_some,Option.toArray_none,Bool.and_self,-zaa,ty,zoc,zvb,syPl,zqb,zga,chaS,zaw,coeN,hle,hL,hL9,hLj,hex,hxd,zai,zad,zap,zae,zcg,Int.toNat_natCast,Bool.not_true,Bool.not_false,decide_true,true_or,or_true,hX,q0]
       repeat (refine And.intro (by first | omega | exact zbg | exact ⟨by omega,by omega⟩ | exact ⟨rfl,rfl⟩ | (unfold top; omega)) ?_)
     try (refine ⟨_,Weak.refl _,?_⟩)
     try simp only [go_sem,zaa,Nat.reduceAdd,Nat.reduceSub,Nat.reduceMul,Int.reduceToNat,reduceCtorEq,↓reduceIte,Int.reducePow,Nat.reducePow,Int.reduceMod,Nat.reduceLeDiff,Int.reduceLE,Int.reduceNe,Int.reduceEq,Nat.reduceEqDiff,Nat.reduceLT,Nat.reduceBEq,List.map_cons,List.map_nil,List.toList_toArray,Array.toList_append,Option.toArray_some,Option.toArray_none,Bool.and_self,ty,zoc,syA,errJ,List.map_nil]
 · exact hp.elim
end
end Go.Proofs.Ytdnlliedmfgfiaa
