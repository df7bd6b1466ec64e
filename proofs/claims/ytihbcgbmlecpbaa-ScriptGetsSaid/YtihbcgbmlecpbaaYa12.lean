/- What the proofs of this seat stand on; it asks nothing. -/
import Derived.Test.YtihbcgbmlecpbaaYa11
set_option linter.unusedSimpArgs false
set_option linter.unusedVariables false
namespace Go.Proofs.Ytihbcgbmlecpbaa
open Ax
def Saw27 (f : FuncId) : Option zak :=
 match f with
 | 8 => some zcs
 | 12 => some putPS
 | 17 => some getPS
 | 15 => some getTS
 | 10 => some sameTS
 | _ => none
theorem Saw27_ok : Fns Try.prog Saw27 := by
 intro f s h
 unfold Saw27 at h
 split at h
 · injection h with h; subst h; exact ⟨⟨_,Try.func8,by kernel_rfl,by kernel_rfl⟩,putT_sound⟩
 · injection h with h; subst h; exact ⟨⟨_,Try.func12,by kernel_rfl,by kernel_rfl⟩,putP_sound⟩
 · injection h with h; subst h; exact ⟨⟨_,Try.func17,by kernel_rfl,by kernel_rfl⟩,getP_sound⟩
 · injection h with h; subst h; exact ⟨⟨_,Try.func15,by kernel_rfl,by kernel_rfl⟩,getT_sound⟩
 · injection h with h; subst h; exact ⟨⟨_,Try.func10,by kernel_rfl,by kernel_rfl⟩,sameT_sound⟩
 · cases h
def aw27Pl : XPlan := fun id => match id with
 | 3 => .frz [3]
 | 4 => .frz [1]
 | _ => .std
def yesS27 : zak
 | [],[] => ⟨True,.w (.bool true),[]⟩
 | _,_ => zbd
theorem aw27a : putT 3 0 [] 0 0 false false 0 0 0 [] [] 0 0 0 0 0 0 [] 3 true [] = [3,6,1] := by kernel_rfl
theorem aw27b : chkT 3 0 [] 0 0 false false 0 0 0 [] [] 0 0 0 0 0 0 [] 3 true [] = 0 := by kernel_rfl
theorem aw27c : putP [(⟨5,⟨0,[],0,0,false,false,0,0,0,[],[],0,⟨0,0,0,0,0,[]⟩⟩,0,false,[]⟩ : St),(⟨1,⟨0,[],0,0,false,false,0,0,0,[],[],0,⟨0,0,0,0,0,[]⟩⟩,5,false,[]⟩ : St)] = [2,5,4,1,10] := by kernel_rfl
theorem aw27d : chkP [(⟨5,⟨0,[],0,0,false,false,0,0,0,[],[],0,⟨0,0,0,0,0,[]⟩⟩,0,false,[]⟩ : St),(⟨1,⟨0,[],0,0,false,false,0,0,0,[],[],0,⟨0,0,0,0,0,[]⟩⟩,5,false,[]⟩ : St)] = 0 := by kernel_rfl
theorem aw27e : gpX (gpO [2,5,4,1,10]) = .tup [.sg 22 [.agg [.w (.int .u8 5),.w (.int .u8 0),.str ([]),.w (.int .i64 0),.w (.int .i64 0),.w (.bool false),.w (.bool false),.w (.int .i64 0),.w (.int .i64 0),.w (.int .i64 0),.str ([]),.str ([]),.w (.int .i64 0),.w (.int .i64 0),.w (.int .i64 0),.w (.int .i64 0),.w (.int .i64 0),.w (.int .i64 0),.sg 6 [] true,.w (.int .i64 0),.w (.bool false),.sb [] true],.agg [.w (.int .u8 1),.w (.int .u8 0),.str ([]),.w (.int .i64 0),.w (.int .i64 0),.w (.bool false),.w (.bool false),.w (.int .i64 0),.w (.int .i64 0),.w (.int .i64 0),.str ([]),.str ([]),.w (.int .i64 0),.w (.int .i64 0),.w (.int .i64 0),.w (.int .i64 0),.w (.int .i64 0),.w (.int .i64 0),.sg 6 [] true,.w (.int .i64 5),.w (.bool false),.sb [] true]] false,.w (.int .i64 0)] := by kernel_rfl
theorem aw27f : gtA [3,6,1] = .agg [.w (.int .u8 3),.w (.int .u8 0),.str ([]),.w (.int .i64 0),.w (.int .i64 0),.w (.bool false),.w (.bool false),.w (.int .i64 0),.w (.int .i64 0),.w (.int .i64 0),.str ([]),.str ([]),.w (.int .i64 0),.w (.int .i64 0),.w (.int .i64 0),.w (.int .i64 0),.w (.int .i64 0),.w (.int .i64 0),.sg 6 [] true,.w (.int .i64 3),.w (.bool true),.sb [] true] := by kernel_rfl
theorem aw27g : (if gtOk [3,6,1] then (0 : Int) else 4) = 0 := by kernel_rfl
theorem aw27h : eqT 3 3 true [] 3 3 true [] (eqQ 0 [] 0 0 false false 0 0 0 [] [] 0 0 [] 0 0 false false 0 0 0 [] [] 0 (zbw 0 0 0 0 0 [] 0 0 0 0 0 [])) = true := by kernel_rfl
theorem aw27i : eqT 3 3 true [] 5 0 false [] (eqQ 0 [] 0 0 false false 0 0 0 [] [] 0 0 [] 0 0 false false 0 0 0 [] [] 0 (zbw 0 0 0 0 0 [] 0 0 0 0 0 [])) = false := by kernel_rfl
theorem aw27j : ∃ es : List (St × Bool × Bool),[.agg [.w (.int .u8 5),.w (.int .u8 0),.str ([]),.w (.int .i64 0),.w (.int .i64 0),.w (.bool false),.w (.bool false),.w (.int .i64 0),.w (.int .i64 0),.w (.int .i64 0),.str ([]),.str ([]),.w (.int .i64 0),.w (.int .i64 0),.w (.int .i64 0),.w (.int .i64 0),.w (.int .i64 0),.w (.int .i64 0),.sg 6 [] true,.w (.int .i64 0),.w (.bool false),.sb [] true],.agg [.w (.int .u8 1),.w (.int .u8 0),.str ([]),.w (.int .i64 0),.w (.int .i64 0),.w (.bool false),.w (.bool false),.w (.int .i64 0),.w (.int .i64 0),.w (.int .i64 0),.str ([]),.str ([]),.w (.int .i64 0),.w (.int .i64 0),.w (.int .i64 0),.w (.int .i64 0),.w (.int .i64 0),.w (.int .i64 0),.sg 6 [] true,.w (.int .i64 5),.w (.bool false),.sb [] true]] = es.map stP ∧ ∀ p ∈ es,fitS p.1 := by
 have h0 : fitS (⟨5,⟨0,[],0,0,false,false,0,0,0,[],[],0,⟨0,0,0,0,0,[]⟩⟩,0,false,[]⟩ : St) := ⟨by decide,⟨by decide,⟨by decide,by decide,by decide⟩,⟨zad,zad,zad,zad,zad,zad⟩,by decide⟩,zad,by decide⟩
 have h1 : fitS (⟨1,⟨0,[],0,0,false,false,0,0,0,[],[],0,⟨0,0,0,0,0,[]⟩⟩,5,false,[]⟩ : St) := ⟨by decide,⟨by decide,⟨by decide,by decide,by decide⟩,⟨zad,zad,zad,zad,zad,zad⟩,by decide⟩,by unfold okI; decide,by decide⟩
 refine ⟨[((⟨5,⟨0,[],0,0,false,false,0,0,0,[],[],0,⟨0,0,0,0,0,[]⟩⟩,0,false,[]⟩ : St),true,true),((⟨1,⟨0,[],0,0,false,false,0,0,0,[],[],0,⟨0,0,0,0,0,[]⟩⟩,5,false,[]⟩ : St),true,true)],rfl,?_⟩
 intro p hp
 rcases List.mem_cons.1 hp with rfl | hp
 · exact h0
 · rw [List.mem_singleton.1 hp]; exact h1
theorem aw27k : ust (.agg [.w (.int .u8 5),.w (.int .u8 0),.str ([]),.w (.int .i64 0),.w (.int .i64 0),.w (.bool false),.w (.bool false),.w (.int .i64 0),.w (.int .i64 0),.w (.int .i64 0),.str ([]),.str ([]),.w (.int .i64 0),.w (.int .i64 0),.w (.int .i64 0),.w (.int .i64 0),.w (.int .i64 0),.w (.int .i64 0),.sg 6 [] true,.w (.int .i64 0),.w (.bool false),.sb [] true]) = (⟨5,⟨0,[],0,0,false,false,0,0,0,[],[],0,⟨0,0,0,0,0,[]⟩⟩,0,false,[]⟩ : St) := rfl
theorem aw27l : ust (.agg [.w (.int .u8 1),.w (.int .u8 0),.str ([]),.w (.int .i64 0),.w (.int .i64 0),.w (.bool false),.w (.bool false),.w (.int .i64 0),.w (.int .i64 0),.w (.int .i64 0),.str ([]),.str ([]),.w (.int .i64 0),.w (.int .i64 0),.w (.int .i64 0),.w (.int .i64 0),.w (.int .i64 0),.w (.int .i64 0),.sg 6 [] true,.w (.int .i64 5),.w (.bool false),.sb [] true]) = (⟨1,⟨0,[],0,0,false,false,0,0,0,[],[],0,⟨0,0,0,0,0,[]⟩⟩,5,false,[]⟩ : St) := rfl
section
set_option maxRecDepth 100000
set_option maxHeartbeats 16000000 in
theorem awake27_sound : zaq Try.prog 7 yesS27 := by
 refine zbx (S := Saw27) (SO := noO) (T := ty) zau ty_ok Saw27_ok noO_ok Try.func7 (c := Try.f7.body.getD .skip) (by kernel_rfl) (fun xs pins hp _ => ?_)
 unfold yesS27 at hp ⊢
 split at hp
 · refine ⟨by simp,aw27Pl,by kernel_rfl,?_⟩
   have tk : ∀ l : List UInt8,List.take l.length l = l := fun l => List.take_length
   have t3 : List.take 3 ([3,6,1] : List UInt8) = [3,6,1] := rfl
   have t5 : List.take 5 ([2,5,4,1,10] : List UInt8) = [2,5,4,1,10] := rfl
   have q1 : lenQ [] [] [] := ⟨by decide,by decide,by decide⟩
   have q2 : intQ 0 0 0 0 0 0 := ⟨zad,zad,zad,zad,zad,zad⟩
   have q3 : ∃ rs : List Rec,([] : List AV) = rs.map rv := ⟨[],rfl⟩
   have q4 : List.map rrec ([] : List AV) = [] := rfl
   have i0 : okI 0 := zad
   have i3 : okI 3 := by unfold okI; decide
   have j3 := aw27j
   have f1 : decide (([3,6,1] : List UInt8) = [3,6,1]) = true := by decide
   have f2 : decide (([2,5,4,1,10] : List UInt8) = [2,5,4,1,10]) = true := by decide
   have f3 : decide (((2 : Nat) : Int) = 2) = true := by decide
   unfold Try.f7
   simp only [go_sem,zab,Nat.reduceAdd,Nat.reduceSub,Nat.reduceMul,Int.reduceToNat,reduceCtorEq,↓reduceIte,Int.reducePow,Nat.reducePow,Int.reduceMod,Nat.reduceLeDiff,Int.reduceLE,Int.reduceNe,Int.reduceEq,Nat.reduceEqDiff,Nat.reduceLT,Nat.reduceBEq,List.map_cons,List.map_nil,List.toList_toArray,Array.toList_append,Option.toArray_some,Option.toArray_none,Bool.and_self,ty,Saw27,aw27Pl,zcs,putPS,getPS,getTS,zbc,fillS,tk,t3,t5,q1,q2,q3,q4,i0,i3,j3,aw27a,aw27b,aw27c,aw27d,aw27e,aw27f,aw27g,aw27h,aw27i,aw27k,aw27l,f1,f2,f3,Bool.not_true,Bool.not_false,Int.reduceLE,Int.reduceLT,Nat.zero_le,List.length_nil,List.length_cons]
   refine ⟨?_,zba 0 rfl⟩
   rintro y (rfl | rfl) <;> rfl
 · exact hp.elim
end
end Go.Proofs.Ytihbcgbmlecpbaa
namespace Go.Proofs.Ytihbcgbmlecpbaa
open Ax
theorem okgq {q : Rq} (h : chkR q = 0) (hf : fitR q) : gqR (layR q) = q := by
 have a := (rd_lay22 q h hf []).1
 rw [List.append_nil] at a
 have hg : gqOk (layR q) := by unfold gqOk; rw [a]; exact ⟨h,rfl⟩
 unfold gqR
 rw [if_pos hg]; exact a
theorem num_one (N : Int) (h : okI N) (r : List UInt8) : numN (pq N ++ r) 0 = N ∧ numL (pq N ++ r) 0 = r ∧ numE (pq N ++ r) 0 = 0 := zey N h.1 h.2 r
theorem num_one0 (N : Int) (h : okI N) : numN (pq N) 0 = N := by
 have := (num_one N h []).1
 rw [List.append_nil] at this; exact this
theorem eqT_eq {k N : Int} {D : Bool} {ft : List UInt8} {k' N' : Int} {D' : Bool} {ft' : List UInt8} {B : Bool} (h : eqT k N D ft k' N' D' ft' B = true) : B = true ∧ N = N' ∧ D = D' ∧ ft = ft' := by
 unfold eqT at h
 simp only [Bool.and_eq_true,decide_eq_true_eq,beq_iff_eq] at h
 exact ⟨h.2.1,h.2.2.1,h.2.2.2.1,h.2.2.2.2⟩
theorem rdT_lay {s : St} (h : chkS s = 0) (hf : fitS s) : rdT (layS s) = s := by
 obtain ⟨hk5,hso,hft,hq⟩ := chkS_ok h
 obtain ⟨⟨hk0,_⟩,fr,hN,_⟩ := hf
 unfold zcr at hso
 obtain ⟨hB,h1,h2,h3⟩ := eqT_eq hso
 obtain ⟨⟨e1,e2,e3,e4,e5,e6,e7,e8,e9,e10,e11,e12⟩,hB⟩ := eqQ_eq hB
 obtain ⟨g1,g2,g3,g4,g5,g6⟩ := bsame4_eq hB
 obtain ⟨k,q,N,D,ft⟩ := s
 simp only at hk5 hk0 fr hN hft hq h1 h2 h3 e1 e2 e3 e4 e5 e6 e7 e8 e9 e10 e11 e12 g1 g2 g3 g4 g5 g6
 unfold layS layT
 rw [zdb]
 rcases kind_le5 k ⟨hk0,by omega⟩ with rfl | rfl | rfl | rfl | rfl | rfl
 · simp only [Int.reduceEq,or_self,or_false,false_or,or_true,true_or,if_true,if_false] at h1 h2 h3
   subst h1 h2 h3
   have hg := okgq (hq rfl) fr
   unfold layR at hg
   show (⟨0,gqR (layQ q.k q.t q.i q.p q.c q.f q.o q.m q.w q.g q.mb q.n q.b.b q.b.c q.b.p q.b.e q.b.s q.b.rs),0,false,[]⟩ : St) = _
   rw [hg]
 all_goals
   obtain ⟨qk,t,i,p,c,f,o,m,w,g,mb,n,⟨b1,b2,b3,b4,b5,rs⟩⟩ := q
   simp only [Int.reduceEq,or_self,or_false,false_or,or_true,true_or,if_true,if_false] at h1 h2 h3 e1 e2 e3 e4 e5 e6 e7 e8 e9 e10 e11 e12 g1 g2 g3 g4 g5 g6
   subst e1 e2 e3 e4 e5 e6 e7 e8 e9 e10 e11 e12 g1 g2 g3 g4 g5 g6
 · subst h2 h3
   show (⟨1,zRk 0,numN (pq N) 0,false,[]⟩ : St) = _
   rw [num_one0 N hN]; rfl
 · subst h2 h3
   show (⟨2,zRk 0,numN (pq N) 0,false,[]⟩ : St) = _
   rw [num_one0 N hN]; rfl
 · subst h3
   obtain ⟨t1,t2,t3⟩ := num_one N hN [UInt8.ofNat (bitN D).toNat]
   show (⟨3,zRk 0,numN (pq N ++ [UInt8.ofNat (bitN D).toNat]) 0,decide (zci 1 (numL (pq N ++ [UInt8.ofNat (bitN D).toNat]) 0) (numE (pq N ++ [UInt8.ofNat (bitN D).toNat]) 0) = 1),[]⟩ : St) = _
   rw [t1,t2,t3,(fix1_cons _ []).1]
   cases D <;> rfl
 · subst h1 h2
   rfl
 · subst h1 h2 h3
   rfl
theorem gt_lay {s : St} (h : chkS s = 0) (hf : fitS s) : gtOk (layS s) ∧ gtS (layS s) = s := by
 have hr := rdT_lay h hf
 have hok : gtOk (layS s) := ⟨by unfold layS layT; simp,by rw [hr]; exact h,by rw [hr]⟩
 refine ⟨hok,?_⟩
 unfold gtS; rw [if_pos hok]; exact hr
theorem errP_head {x : St} {r : List St} (h : errP (x :: r) = 0) : chkS x = 0 ∧ errP r = 0 := by
 rw [show errP (x :: r) = if chkS x = 0 then errP r else chkS x from rfl] at h
 by_cases hx : chkS x = 0
 · rw [if_pos hx] at h; exact ⟨hx,h⟩
 · rw [if_neg hx] at h; exact (hx h).elim
theorem errP_all : ∀ (l : List St),errP l = 0 → ∀ s ∈ l,chkS s = 0
 | [],_,s,hs => by simp at hs
 | x :: r,h,s,hs => by
   obtain ⟨hx,hr⟩ := errP_head h
   rcases List.mem_cons.1 hs with rfl | hs
   · exact hx
   · exact errP_all r hr s hs
theorem textL_ne (s : List UInt8) : zaw s ≠ [] := by
 intro h
 have hp := putU_pos (2 * s.length)
 unfold zaw at h
 rw [(List.append_eq_nil_iff.1 h).1] at hp
 simp at hp
theorem gp_app : ∀ (l : List St) (n : Nat) (x : List UInt8),(∀ s ∈ l,chkS s = 0) → (∀ s ∈ l,fitS s) → l.length ≤ n → gpR n (layP l ++ x) = (gpR (n - l.length) x).map (l ++ ·)
 | [],n,x,_,_,_ => by
   rw [show layP [] ++ x = x from rfl,List.length_nil,Nat.sub_zero,map_app_nil]
 | s :: r,0,x,_,_,hn => by simp at hn
 | s :: r,n + 1,x,h,hf,hn => by
   have hs := h s (List.mem_cons_self ..)
   have hfs := hf s (List.mem_cons_self ..)
   have hsm := layS_small hs hfs
   have e : layP (s :: r) ++ x = zaw (layS s) ++ (layP r ++ x) := by
     unfold layP; rw [List.flatMap_cons,List.append_assoc]
   obtain ⟨t1,t2,_⟩ := text_put 65536 (layS s) (layP r ++ x) (by omega) (by omega)
   obtain ⟨k1,k2⟩ := gt_lay hs hfs
   have ih := gp_app r n x (fun y hy => h y (List.mem_cons_of_mem _ hy)) (fun y hy => hf y (List.mem_cons_of_mem _ hy)) (by simpa using hn)
   rw [e,gpR_good n (by
     intro h0
     exact textL_ne _ (List.append_eq_nil_iff.1 h0).1) (by rw [t1]; exact k1),t1,t2,k2,ih,List.length_cons,Nat.add_sub_add_right]
   cases gpR (n - r.length) x <;> rfl
theorem chkP_long' {l : List St} (h : 1000 < l.length) : chkP l = 5 := if_pos h
theorem chkP_err' {l : List St} (h : ¬ 1000 < l.length) (h2 : errP l ≠ 0) : chkP l = errP l := by unfold chkP; rw [if_neg h,if_pos h2]
theorem chkP_big' {l : List St} (h : ¬ 1000 < l.length) (h2 : errP l = 0) (h3 : 65536 < (layP l).length) : chkP l = 5 := by unfold chkP; rw [if_neg h,if_neg (fun g => g h2),if_pos h3]
theorem bk_facts {l : List St} (h : chkP l = 0) (hf : ∀ s ∈ l,fitS s) : l.length ≤ 1000 ∧ (∀ s ∈ l,chkS s = 0) ∧ (layP l).length ≤ 65536 ∧ putP l = layP l := by
 by_cases h1 : 1000 < l.length
 · rw [chkP_long' h1] at h; cases h
 · by_cases h2 : errP l = 0
   · by_cases h3 : 65536 < (layP l).length
     · rw [chkP_big' h1 h2 h3] at h; cases h
     · exact ⟨by omega,errP_all l h2,by omega,if_pos h⟩
   · exact (h2 (by rw [chkP_err' h1 h2] at h; exact h)).elim
theorem back_ok {l : List St} (h : chkP l = 0) (hf : ∀ s ∈ l,fitS s) : gpO (layP l) = some l := by
 obtain ⟨h1,h2,h3,_⟩ := bk_facts h hf
 have := gp_app l 1000 [] h2 hf h1
 rw [List.append_nil,gpR_nil] at this
 unfold gpO
 rw [if_neg (by omega),this]
 simp
theorem eqT_refl (s : St) : eqT s.k s.N s.D s.ft s.k s.N s.D s.ft (eqQ s.q.k s.q.t s.q.i s.q.p s.q.c s.q.f s.q.o s.q.m s.q.w s.q.g s.q.mb s.q.n s.q.k s.q.t s.q.i s.q.p s.q.c s.q.f s.q.o s.q.m s.q.w s.q.g s.q.mb s.q.n (zbw s.q.b.b s.q.b.c s.q.b.p s.q.b.e s.q.b.s s.q.b.rs s.q.b.b s.q.b.c s.q.b.p s.q.b.e s.q.b.s s.q.b.rs)) = true := by
 unfold eqT eqQ zbw
 simp
theorem slot_gtV : ∀ (l : List St) (i : Nat) (h : i < l.length),slot (l.map gtV) i = gtV l[i]
 | p :: ps,0,h => rfl
 | p :: ps,i + 1,h => by
   simp only [List.map_cons,slot,List.getElem_cons_succ]
   exact slot_gtV ps i (by simpa using h)
end Go.Proofs.Ytihbcgbmlecpbaa
