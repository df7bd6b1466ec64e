/- What the proofs of this seat stand on; it asks nothing. -/
import Derived.Test.YtlpjdgkpapjldaaZa09
set_option linter.unusedSimpArgs false
set_option linter.unusedVariables false
namespace Go.Proofs.Ytlpjdgkpapjldaa
open Ax
def ltW (Z L s M : Int) : Bool := decide (s + Z + L ≤ M)
def smlW (x : Int) : Prop := -1152921504606846976 ≤ x ∧ x ≤ 1152921504606846976
def zcu : zar
 | [.agg [.w (.int .i64 Z),.w (.int .i64 L),.w (.int .i64 M),.w (.int .i64 D),.sg 6 xs f],.w (.int .i64 s),.w (.int .i64 m)],[] => ⟨smlW Z ∧ smlW L ∧ smlW s,.w (.bool (ltW Z L s m)),[]⟩
 | _,_ => zcd
def opW (Z L M : Int) (l : List WS) : List WS := l.filter fun r => !ltW Z L r.s M
def clW (Z L M : Int) (l : List WS) : List WS := l.filter fun r => ltW Z L r.s M
def partWS : zar
 | [.agg [.w (.int .i64 Z),.w (.int .i64 L),.w (.int .i64 M),.w (.int .i64 D),.sg 6 xs f]],[] => ⟨(xs.length ≤ 1000000 ∧ smlW Z ∧ smlW L) ∧ ∃ l : List WS,xs = l.map wsA ∧ ∀ r ∈ l,smlW r.s,.tup [.agg [.w (.int .i64 Z),.w (.int .i64 L),.w (.int .i64 M),.w (.int .i64 D),.sg 6 ((opW Z L M (xs.map uws)).map wsA) false],.sg 6 ((clW Z L M (xs.map uws)).map wsA) false],[]⟩
 | _,_ => zcd
theorem fg_ws (id s : Nat) (zs : List AV) : ∀ (l : List WS),fgL id s zs (l.map wsA) = l.map wsA
 | [] => rfl
 | x :: l => by
   show AV.fg id s zs (wsA x) :: fgL id s zs (l.map wsA) = wsA x :: l.map wsA
   rw [fg_ws id s zs l]
   rfl
section
set_option maxRecDepth 100000
set_option maxHeartbeats 8000000
theorem late35_sound : zbi Try.prog 27 zcu := by
 refine zcx (S := noS) (T := ty) zbt ty_ok zdj Try.func27 (c := Try.f27.body.getD .skip) (by kernel_rfl) (by kernel_rfl) (fun xs pins hp _ => ?_)
 unfold zcu at hp ⊢
 split at hp
 · rename_i Z L M D xs f s m _
   obtain ⟨⟨h1,h2⟩,⟨h3,h4⟩,h5,h6⟩ := hp
   have w1 : (s + Z + 9223372036854775808) % 18446744073709551616 - 9223372036854775808 = s + Z := by omega
   have w2 : (s + Z + L + 9223372036854775808) % 18446744073709551616 - 9223372036854775808 = s + Z + L := by omega
   refine ⟨by simp,?_⟩
   unfold Try.f27 ltW
   simp only [go_sem,zad,Nat.reduceAdd,Nat.reduceSub,Nat.reduceMul,Int.reduceToNat,reduceCtorEq,↓reduceIte,Int.reducePow,Nat.reducePow,Int.reduceMod,Nat.reduceLeDiff,Int.reduceLE,Int.reduceNe,Int.reduceEq,Nat.reduceEqDiff,Nat.reduceLT,Nat.reduceBEq,ty,noS,w1,w2]
 · exact hp.elim
def SpartW (f : FuncId) : Option zar :=
 match f with
 | 27 => some zcu
 | _ => none
theorem SpartW_ok : Fns Try.prog SpartW := by
 intro f s h
 unfold SpartW at h
 split at h
 · injection h with h; subst h; exact ⟨⟨_,Try.func27,by kernel_rfl,by kernel_rfl⟩,late35_sound⟩
 · cases h
theorem part_sound : zbi Try.prog 29 partWS := by
 refine zeh (S := SpartW) (T := ty) zbt ty_ok SpartW_ok Try.func29 (c := Try.f29.body.getD .skip) (by kernel_rfl) (by kernel_rfl) (fun xs pins hp _ => ?_)
 unfold partWS at hp ⊢
 split at hp
 · rename_i Z L M D xs f _
   obtain ⟨⟨hL,hZ,hLt⟩,l,rfl,hs⟩ := hp
   rw [List.length_map] at hL
   rw [zai]
   have hle : (l.map wsA).length = l.length := by simp
   have ht : top = 4294967296 := rfl
   refine ⟨by simp,?_⟩
   unfold Try.f29
   simp only [go_sem,zad,Nat.reduceAdd,Nat.reduceSub,Nat.reduceMul,Int.reduceToNat,reduceCtorEq,↓reduceIte,Int.reducePow,Nat.reducePow,Int.reduceMod,Nat.reduceLeDiff,Int.reduceLE,Int.reduceNe,Int.reduceEq,Nat.reduceEqDiff,Nat.reduceLT,Nat.reduceBEq,ty,SpartW,hle]
   refine awp_loopW ⟨fun m σ => ∃ (j a b : Nat),m = l.length - j ∧ j ≤ l.length ∧ a = (opW Z L M (l.take j)).length ∧ b = (clW Z L M (l.take j)).length ∧
     σ = ⟨[.agg [.w (.int .i64 Z),.w (.int .i64 L),.w (.int .i64 M),.w (.int .i64 D),.sg 6 (l.map wsA) f],.rf 4 5 0 0,.rf 5 5 0 0,.sg 1 [] true,.ms 6 6 0 a,.ms 7 6 0 b,.junk,.junk,.junk,.sg 6 (l.map wsA) f,.w (.int .i64 l.length),.w (.int .i64 j),.junk,.junk,.junk,.junk,.junk,.junk,.junk,.junk,.junk,.junk,.junk,.junk,.junk,.junk,.junk,.junk,.junk,.junk,.junk,.junk,.junk,.junk],
       [(4,.g 5 [.agg [.w (.int .i64 Z),.w (.int .i64 L),.w (.int .i64 M),.w (.int .i64 D),.sg 6 (l.map wsA) f]]),(5,.g 5 [.agg [.w (.int .i64 0),.w (.int .i64 0),.w (.int .i64 0),.w (.int .i64 0),.sg 6 [] true]]),(6,.g 6 ((opW Z L M (l.take j)).map wsA)),(7,.g 6 ((clW Z L M (l.take j)).map wsA))],8⟩,?_,?_⟩
   · refine ⟨_,_,(weak_nil 4 6 (.g 6 []) ⟨by decide,rfl⟩ (by exact trivial)).trans ((weak_nil 5 6 (.g 6 []) ⟨by decide,rfl⟩ (by exact trivial)).trans (zao [0,1,2,3,4,12,76,77] rfl rfl rfl ?_ ?_)),0,0,0,rfl,by omega,rfl,rfl,rfl⟩
     · simp only [ssT,zax,zay,setSlot,gOf,AV.ren,renL,Blk.ren,Ax.look,Ax.put,reduceCtorEq,↓reduceIte,Nat.reduceEqDiff,Nat.reduceLT,Nat.reduceAdd,List.length_append,List.length_cons,List.length_nil,Option.some.injEq]; try simp
     · simp only [ssT,zax,zay,setSlot,gOf,AV.ren,renL,Blk.ren,Ax.look,Ax.put,reduceCtorEq,↓reduceIte,Nat.reduceEqDiff,Nat.reduceLT,Nat.reduceAdd,List.length_append,List.length_cons,List.length_nil,Option.some.injEq]; try simp [renL,opW,clW]
       try rfl
   · rintro m σ ⟨j,a,b,rfl,hj,ha,hb,rfl⟩
     have hla : ((opW Z L M (l.take j)).map wsA).length = a := by rw [List.length_map]; exact ha.symm
     have hlb : ((clW Z L M (l.take j)).map wsA).length = b := by rw [List.length_map]; exact hb.symm
     have hab : a ≤ j ∧ b ≤ j := by
       have h1 : a ≤ (l.take j).length := by rw [ha]; exact List.length_filter_le _ _
       have h2 : b ≤ (l.take j).length := by rw [hb]; exact List.length_filter_le _ _
       rw [List.length_take] at h1 h2
       omega
     by_cases hjl : j < l.length
     · have e1 : ((j : Int) + 1 + 9223372036854775808) % 18446744073709551616 - 9223372036854775808 = ((j + 1 : Nat) : Int) := by omega
       have d1 : decide ((j : Int) < l.length) = true := decide_eq_true (by omega)
       have hs1 := zbq l j hjl
       have hsm := hs l[j] (List.getElem_mem hjl)
       have htk : l.take (j + 1) = l.take j ++ [l[j]] := List.take_succ_eq_append_getElem hjl
       obtain ⟨r,hr⟩ : ∃ r,l[j] = r := ⟨_,rfl⟩
       rw [hr] at hs1 hsm htk
       obtain ⟨s,k,c,t,x,y⟩ := r
       have hs1 : slot (l.map wsA) j = .agg [.w (.int .i64 s),.str k,.w (.int .i64 c),.w (.int .i64 t),.w (.int .i64 x),.w (.int .i64 y)] := hs1
       simp only at hsm
       cases hv : ltW Z L s M with
       | true =>
         have ho : opW Z L M (l.take (j + 1)) = opW Z L M (l.take j) := by unfold opW; rw [htk,List.filter_append]; simp [hv]
         have hc : clW Z L M (l.take (j + 1)) = clW Z L M (l.take j) ++ [⟨s,k,c,t,x,y⟩] := by unfold clW; rw [htk,List.filter_append]; simp [hv]
         have hat : (clW Z L M (l.take j)).map wsA ++ [.agg [.w (.int .i64 s),.str k,.w (.int .i64 c),.w (.int .i64 t),.w (.int .i64 x),.w (.int .i64 y)]] = (clW Z L M (l.take (j + 1))).map wsA := by rw [hc,List.map_append]; rfl
         simp only [go_sem,zad,Nat.reduceAdd,Nat.reduceSub,Nat.reduceMul,Int.reduceToNat,reduceCtorEq,↓reduceIte,Int.reducePow,Nat.reducePow,Int.reduceMod,Nat.reduceLeDiff,Int.reduceLE,Int.reduceNe,Int.reduceEq,Nat.reduceEqDiff,Nat.reduceLT,Nat.reduceBEq,ty,SpartW,zcu,hle,hlb,d1,e1,hs1,hv,hsm,hZ,hLt,zdk,hat,Int.toNat_natCast,Bool.not_true,Bool.not_false]
         refine ⟨⟨by omega,by omega⟩,by omega,l.length - (j + 1),_,by omega,zao [0,1,2,3,4,5,6,120] rfl rfl rfl ?_ ?_,j + 1,a,b + 1,rfl,by omega,by rw [ho]; exact ha,by rw [hc,List.length_append,← hb]; rfl,rfl⟩
         · simp only [ssT,zax,zay,setSlot,gOf,AV.ren,renL,Blk.ren,Ax.look,Ax.put,reduceCtorEq,↓reduceIte,Nat.reduceEqDiff,Nat.reduceLT,Nat.reduceAdd,List.length_append,List.length_cons,List.length_nil,Option.some.injEq]; try simp
         · simp only [ssT,zax,zay,setSlot,gOf,AV.ren,renL,Blk.ren,Ax.look,Ax.put,reduceCtorEq,↓reduceIte,Nat.reduceEqDiff,Nat.reduceLT,Nat.reduceAdd,List.length_append,List.length_cons,List.length_nil,Option.some.injEq,zbv,ho]; try simp
       | false =>
         have ho : opW Z L M (l.take (j + 1)) = opW Z L M (l.take j) ++ [⟨s,k,c,t,x,y⟩] := by unfold opW; rw [htk,List.filter_append]; simp [hv]
         have hc : clW Z L M (l.take (j + 1)) = clW Z L M (l.take j) := by unfold clW; rw [htk,List.filter_append]; simp [hv]
         have hat : (opW Z L M (l.take j)).map wsA ++ [.agg [.w (.int .i64 s),.str k,.w (.int .i64 c),.w (.int .i64 t),.w (.int .i64 x),.w (.int .i64 y)]] = (opW Z L M (l.take (j + 1))).map wsA := by rw [ho,List.map_append]; rfl
         simp only [go_sem,zad,Nat.reduceAdd,Nat.reduceSub,Nat.reduceMul,Int.reduceToNat,reduceCtorEq,↓reduceIte,Int.reducePow,Nat.reducePow,Int.reduceMod,Nat.reduceLeDiff,Int.reduceLE,Int.reduceNe,Int.reduceEq,Nat.reduceEqDiff,Nat.reduceLT,Nat.reduceBEq,ty,SpartW,zcu,hle,hla,d1,e1,hs1,hv,hsm,hZ,hLt,zdk,hat,Int.toNat_natCast,Bool.not_true,Bool.not_false]
         refine ⟨⟨by omega,by omega⟩,by omega,l.length - (j + 1),_,by omega,zao [0,1,2,3,4,5,120,7] rfl rfl rfl ?_ ?_,j + 1,a + 1,b,rfl,by omega,by rw [ho,List.length_append,← ha]; rfl,by rw [hc]; exact hb,rfl⟩
         · simp only [ssT,zax,zay,setSlot,gOf,AV.ren,renL,Blk.ren,Ax.look,Ax.put,reduceCtorEq,↓reduceIte,Nat.reduceEqDiff,Nat.reduceLT,Nat.reduceAdd,List.length_append,List.length_cons,List.length_nil,Option.some.injEq]; try simp
         · simp only [ssT,zax,zay,setSlot,gOf,AV.ren,renL,Blk.ren,Ax.look,Ax.put,reduceCtorEq,↓reduceIte,Nat.reduceEqDiff,Nat.reduceLT,Nat.reduceAdd,List.length_append,List.length_cons,List.length_nil,Option.some.injEq,zbv,hc]; try simp
     · have d1 : decide ((j : Int) < l.length) = false := decide_eq_false (by omega)
       have hii : l.take j = l := List.take_of_length_le (by omega)
       rw [hii] at hla hlb ha hb ⊢
       simp only [go_sem,zad,Nat.reduceAdd,Nat.reduceSub,Nat.reduceMul,Int.reduceToNat,reduceCtorEq,↓reduceIte,Int.reducePow,Nat.reducePow,Int.reduceMod,Nat.reduceLeDiff,Int.reduceLE,Int.reduceNe,Int.reduceEq,Nat.reduceEqDiff,Nat.reduceLT,Nat.reduceBEq,ty,SpartW,hle,d1]
       have dla : decide (0 + a ≤ ((opW Z L M l).map wsA).length) = true := decide_eq_true (by omega)
       have dlb : decide (0 + b ≤ ((clW Z L M l).map wsA).length) = true := decide_eq_true (by omega)
       have tka : ((opW Z L M l).map wsA).take a = (opW Z L M l).map wsA := List.take_of_length_le (by omega)
       have tkb : ((clW Z L M l).map wsA).take b = (clW Z L M l).map wsA := List.take_of_length_le (by omega)
       refine ⟨_,(weak_fg 6 6 4 ((opW Z L M l).map wsA) rfl (zag _) (by simp [slot,AV.ids])).trans (weak_fg 7 6 5 ((clW Z L M l).map wsA) ?_ (zag _) ?_),?_⟩
       · simp [fgH,Ax.look,Blk.fg,fg_ws]
       · simp [fgL,AV.fg,slot,AV.ids]
       simp only [fgL,fgH,AV.fg,Blk.fg,Nat.reduceBEq,cond_true,cond_false,beq_self_eq_true,Bool.true_and,List.drop_zero,fg_ws,dla,dlb,tka,tkb]
       simp only [go_sem,zad,Nat.reduceAdd,Nat.reduceSub,Nat.reduceMul,Int.reduceToNat,reduceCtorEq,↓reduceIte,Int.reducePow,Nat.reducePow,Int.reduceMod,Nat.reduceLeDiff,Int.reduceLE,Int.reduceNe,Int.reduceEq,Nat.reduceEqDiff,Nat.reduceLT,Nat.reduceBEq,ty,SpartW]
       refine ⟨_,Weak.refl _,?_⟩
       simp only [go_sem,zad,Nat.reduceAdd,Nat.reduceSub,Nat.reduceMul,Int.reduceToNat,reduceCtorEq,↓reduceIte,Int.reducePow,Nat.reducePow,Int.reduceMod,Nat.reduceLeDiff,Int.reduceLE,Int.reduceNe,Int.reduceEq,Nat.reduceEqDiff,Nat.reduceLT,Nat.reduceBEq,ty,SpartW,zag,zbv,cond_true]
 · exact hp.elim
end
end Go.Proofs.Ytlpjdgkpapjldaa
namespace Go.Proofs.Ytlpjdgkpapjldaa
open Ax
def wthW (r : WS) (n : Int) : WS := ⟨r.s,r.k,r.c + 1,r.t + n,if n < r.a then n else r.a,if r.b < n then n else r.b⟩
def rowW (s : Int) (k : List UInt8) (l : List WS) : WS := (l[plW s k l]?).getD ⟨0,[],0,0,0,0⟩
def insW (s : Int) (k : List UInt8) (n : Int) (l : List WS) : List WS := l.take (plW s k l) ++ ⟨s,k,1,n,n,n⟩ :: l.drop (plW s k l)
def zW : AV := .agg [.w (.int .i64 0),.w (.int .i64 0),.w (.int .i64 0),.w (.int .i64 0),.sg 6 [] true]
def cntR (Z L M D s : Int) (k : List UInt8) (N : Int) (l : List WS) : Bool → Bool → Bool → AV × List Blk
 | true,true,_ => (.tup [zW,.w (.int .i64 9)],[.g 6 (l.map wsA)])
 | true,false,_ => (.tup [.agg [.w (.int .i64 Z),.w (.int .i64 L),.w (.int .i64 M),.w (.int .i64 D),.ms 0 6 0 l.length],.w (.int .i64 0)],[.g 6 ((l.set (plW s k l) (wthW (rowW s k l) N)).map wsA)])
 | false,_,true => (.tup [zW,.w (.int .i64 9)],[.g 6 (l.map wsA)])
 | false,_,false => (.tup [.agg [.w (.int .i64 Z),.w (.int .i64 L),.w (.int .i64 M),.w (.int .i64 D),.ms 1 6 0 (l.length + 1)],.w (.int .i64 0)],[gone,.g 6 ((insW s k N l).map wsA)])
def cntV (Z L M D s : Int) (k : List UInt8) (N : Int) (l : List WS) : AV × List Blk := cntR Z L M D s k N l (thW s k l) (decide (1048576 ≤ (rowW s k l).c)) (decide (256 ≤ l.length))
def cntWS : zar
 | [.agg [.w (.int .i64 Z),.w (.int .i64 L),.w (.int .i64 M),.w (.int .i64 D),.sg 6 [] true],.agg [.w (.int .i64 s),.str k],.w (.int .i64 N)],[] => ⟨True,.tup [.agg [.w (.int .i64 Z),.w (.int .i64 L),.w (.int .i64 M),.w (.int .i64 D),.ms 0 6 0 1],.w (.int .i64 0)],[.g 6 [.agg [.w (.int .i64 s),.str k,.w (.int .i64 1),.w (.int .i64 N),.w (.int .i64 N),.w (.int .i64 N)]]]⟩
 | [.agg [.w (.int .i64 Z),.w (.int .i64 L),.w (.int .i64 M),.w (.int .i64 D),.ms 0 6 0 n],.agg [.w (.int .i64 s),.str k],.w (.int .i64 N)],[.g 6 xs] => ⟨(n = xs.length ∧ 0 < n ∧ n ≤ 999999) ∧ smlW N ∧ ∃ l : List WS,xs = l.map wsA ∧ risW l = true ∧ ∀ r ∈ l,smlW r.c ∧ smlW r.t,
     (cntV Z L M D s k N (xs.map uws)).1,(cntV Z L M D s k N (xs.map uws)).2⟩
 | _,_ => zcd
theorem row_eq {s : Int} {k : List UInt8} {l : List WS} (h : plW s k l < l.length) : rowW s k l = l[plW s k l] := by
 unfold rowW; rw [List.getElem?_eq_getElem h]; rfl
theorem th_lt {s : Int} {k : List UInt8} {l : List WS} (hr : risW l = true) (h : thW s k l = true) : plW s k l < l.length := by
 rw [← eq_pl s k l hr h]
 have := thW_idx s k l
 rw [h] at this
 exact of_decide_eq_true this.symm
theorem insW_map (s : Int) (k : List UInt8) (N : Int) (l : List WS) : insL (l.map wsA) l.length (plW s k l) (.agg [.w (.int .i64 s),.str k,.w (.int .i64 1),.w (.int .i64 N),.w (.int .i64 N),.w (.int .i64 N)]) = (insW s k N l).map wsA := by
 unfold insL insW
 rw [show (l.map wsA).take l.length = l.map wsA from List.take_of_length_le (by simp)]
 simp only [List.map_append,List.map_take,List.map_drop,List.map_cons]
 rfl
theorem mem_ws {l : List WS} : ∀ y,y ∈ l.map wsA → y.closed = true := by
 intro y hy
 obtain ⟨c,_,rfl⟩ := List.mem_map.1 hy
 rfl
theorem coeNW : coe ty 29 (.sg 6 [] true) = .sg 6 [] true := rfl
theorem zex (r : WS) : ∀ (cs : List WS) (w : Nat),w < cs.length → setSlot (cs.map wsA) w (wsA r) = (cs.set w r).map wsA
 | x :: cs,0,_ => rfl
 | x :: cs,w + 1,h => by
   show wsA x :: setSlot (cs.map wsA) w (wsA r) = wsA x :: (cs.set w r).map wsA
   rw [zex r cs w (by simpa using h)]
def SctW (f : FuncId) : Option zar :=
 match f with
 | 50 => some placeS35
 | 51 => some insNWS
 | _ => none
theorem SctW_ok : Fns Try.prog SctW := by
 intro f s h
 unfold SctW at h
 split at h
 · injection h with h; subst h; exact ⟨⟨_,Try.func50,by kernel_rfl,by kernel_rfl⟩,place35_sound⟩
 · injection h with h; subst h; exact ⟨⟨_,Try.func51,by kernel_rfl,by kernel_rfl⟩,insNW_sound⟩
 · cases h
def SOctW (f : FuncId) : Option zar :=
 match f with
 | 51 => some (insS 6)
 | _ => none
theorem SOctW_ok : FnsO Try.prog SOctW := by
 intro f s h
 unfold SOctW at h
 split at h
 · injection h with h; subst h; exact ⟨⟨_,Try.func51,by kernel_rfl,by kernel_rfl⟩,insGIW_sound⟩
 · cases h
def cntPl0 : XPlan := fun _ => .std
def cntPl : XPlan := fun id => match id with
 | 5 => .opn [] 12
 | 12 => .prs []
 | _ => .std
theorem pl_nil (s : Int) (k : List UInt8) : plW s k [] = 0 := rfl
theorem th_nil (s : Int) (k : List UInt8) : thW s k [] = false := rfl
section
set_option maxRecDepth 100000
set_option maxHeartbeats 8000000
theorem cntW_sound : SoundO Try.prog 28 cntWS := by
 refine fn_soundO (S := SctW) (SO := SOctW) (T := ty) zbt ty_ok SctW_ok SOctW_ok Try.func28 (c := Try.f28.body.getD .skip) (by kernel_rfl) (fun xs pins hp => ?_)
 unfold cntWS at hp ⊢
 split at hp
 · rename_i Z L M D s k N
   have hex : ∃ l : List WS,([] : List AV) = l.map wsA ∧ risW l = true := ⟨[],rfl,rfl⟩
   have l0 : ([] : List AV).length = 0 := rfl
   have cst : ((0 : Nat) : Int) = 0 := rfl
   have dl : decide ((256 : Int) ≤ 0) = false := rfl
   refine ⟨by simp,cntPl0,by kernel_rfl,?_⟩
   unfold Try.f28
   simp only [go_sem,zaa,Nat.reduceAdd,Nat.reduceSub,Nat.reduceMul,Int.reduceToNat,reduceCtorEq,↓reduceIte,Int.reducePow,Nat.reducePow,Int.reduceMod,Nat.reduceLeDiff,Int.reduceLE,Int.reduceNe,Int.reduceEq,Nat.reduceEqDiff,Nat.reduceLT,Nat.reduceBEq,List.map_cons,List.map_nil,List.toList_toArray,Array.toList_append,Option.toArray_some,Option.toArray_none,Bool.and_self,ty,SctW,SOctW,cntPl0,placeS35,insNWS,coeNW,l0,cst,dl,hex,List.map_nil,pl_nil,th_nil,Bool.not_true,Bool.not_false]
   refine ⟨fun y e => by rw [e]; rfl,?_⟩
   refine ⟨_,Weak.refl _,?_⟩
   simp only [go_sem,zaa,Nat.reduceAdd,Nat.reduceSub,Nat.reduceMul,Int.reduceToNat,reduceCtorEq,↓reduceIte,Int.reducePow,Nat.reducePow,Int.reduceMod,Nat.reduceLeDiff,Int.reduceLE,Int.reduceNe,Int.reduceEq,Nat.reduceEqDiff,Nat.reduceLT,Nat.reduceBEq,List.map_cons,List.map_nil,List.toList_toArray,Array.toList_append,Option.toArray_some,Option.toArray_none,Bool.and_self,ty,SctW]
 · rename_i Z L M D n s k N xs
   obtain ⟨⟨rfl,h0,h6⟩,hN,l,rfl,hris,hsm⟩ := hp
   rw [List.length_map] at h0 h6
   rw [zai]
   have hle : (l.map wsA).length = l.length := by simp
   have hcl := zag l
   have hex : ∃ p : List WS,l.map wsA = p.map wsA ∧ risW p = true := ⟨l,rfl,hris⟩
   have hL : l.length ≤ 1000000 := by omega
   have hpos : decide (0 < l.length) = true := decide_eq_true h0
   have hpl := plW_le s k l
   have htk : (l.map wsA).take l.length = l.map wsA := List.take_of_length_le (by simp)
   unfold cntV
   refine ⟨by simp,cntPl,by kernel_rfl,?_⟩
   unfold Try.f28
   cases hth : thW s k l with
   | true =>
     have hlt := th_lt hris hth
     have hrow := row_eq hlt
     have hs1 := zbq l _ hlt
     have hmem := hsm _ (List.getElem_mem hlt)
     rw [← hrow] at hs1 hmem
     obtain ⟨r,hr⟩ : ∃ r,rowW s k l = r := ⟨_,rfl⟩
     have hset := zex (wthW r N) l _ hlt
     rw [hr] at hs1 hmem ⊢
     obtain ⟨PL,hPL⟩ : ∃ n,plW s k l = n := ⟨_,rfl⟩
     rw [hPL] at hs1 hset hlt hpl
     obtain ⟨rs,rk,rc,rt,ra,rb⟩ := r
     have hs1 : slot (l.map wsA) PL = .agg [.w (.int .i64 rs),.str rk,.w (.int .i64 rc),.w (.int .i64 rt),.w (.int .i64 ra),.w (.int .i64 rb)] := hs1
     obtain ⟨⟨m1,m2⟩,m3,m4⟩ := hmem
     obtain ⟨n1,n2⟩ := hN
     simp only at m1 m2 m3 m4
     have t1 : setSlot (l.map wsA) PL (.agg [.w (.int .i64 rs),.str rk,.w (.int .i64 (rc + 1)),.w (.int .i64 rt),.w (.int .i64 ra),.w (.int .i64 rb)]) = (l.set PL ⟨rs,rk,rc + 1,rt,ra,rb⟩).map wsA := zex ⟨rs,rk,rc + 1,rt,ra,rb⟩ l PL hlt
     have t2 : setSlot ((l.set PL ⟨rs,rk,rc + 1,rt,ra,rb⟩).map wsA) PL (.agg [.w (.int .i64 rs),.str rk,.w (.int .i64 (rc + 1)),.w (.int .i64 (rt + N)),.w (.int .i64 ra),.w (.int .i64 rb)]) = (l.set PL ⟨rs,rk,rc + 1,rt + N,ra,rb⟩).map wsA := by
       have := zex ⟨rs,rk,rc + 1,rt + N,ra,rb⟩ (l.set PL ⟨rs,rk,rc + 1,rt,ra,rb⟩) PL (by rw [List.length_set]; exact hlt)
       rw [List.set_set] at this; exact this
     have t3 : setSlot ((l.set PL ⟨rs,rk,rc + 1,rt + N,ra,rb⟩).map wsA) PL (.agg [.w (.int .i64 rs),.str rk,.w (.int .i64 (rc + 1)),.w (.int .i64 (rt + N)),.w (.int .i64 ((if N < ra then N else ra))),.w (.int .i64 rb)]) = (l.set PL ⟨rs,rk,rc + 1,rt + N,(if N < ra then N else ra),rb⟩).map wsA := by
       have := zex ⟨rs,rk,rc + 1,rt + N,(if N < ra then N else ra),rb⟩ (l.set PL ⟨rs,rk,rc + 1,rt + N,ra,rb⟩) PL (by rw [List.length_set]; exact hlt)
       rw [List.set_set] at this; exact this
     have t4 : setSlot ((l.set PL ⟨rs,rk,rc + 1,rt + N,(if N < ra then N else ra),rb⟩).map wsA) PL (.agg [.w (.int .i64 rs),.str rk,.w (.int .i64 (rc + 1)),.w (.int .i64 (rt + N)),.w (.int .i64 ((if N < ra then N else ra))),.w (.int .i64 (if rb < N then N else rb))]) = (l.set PL (wthW ⟨rs,rk,rc,rt,ra,rb⟩ N)).map wsA := by
       have := zex (wthW ⟨rs,rk,rc,rt,ra,rb⟩ N) (l.set PL ⟨rs,rk,rc + 1,rt + N,(if N < ra then N else ra),rb⟩) PL (by rw [List.length_set]; exact hlt)
       rw [List.set_set] at this; exact this
     have u1 : ∀ x : WS,slot ((l.set PL x).map wsA) PL = .agg [.w (.int .i64 x.s),.str x.k,.w (.int .i64 x.c),.w (.int .i64 x.t),.w (.int .i64 x.a),.w (.int .i64 x.b)] := fun x => by
       have := zbq (l.set PL x) PL (by rw [List.length_set]; exact hlt)
       rw [List.getElem_set_self] at this; exact this
     have u2 : ∀ x : WS,((l.set PL x).map wsA).length = l.length := fun x => by simp
     have w1 : (rc + 1 + 9223372036854775808) % 18446744073709551616 - 9223372036854775808 = rc + 1 := by omega
     have w2 : (rt + N + 9223372036854775808) % 18446744073709551616 - 9223372036854775808 = rt + N := by omega
     cases hf : decide (1048576 ≤ rc) with
     | true =>
       simp only [cntR,hr,hf,hPL,hle]
       simp only [go_sem,zaa,Nat.reduceAdd,Nat.reduceSub,Nat.reduceMul,Int.reduceToNat,reduceCtorEq,↓reduceIte,Int.reducePow,Nat.reducePow,Int.reduceMod,Nat.reduceLeDiff,Int.reduceLE,Int.reduceNe,Int.reduceEq,Nat.reduceEqDiff,Nat.reduceLT,Nat.reduceBEq,List.map_cons,List.map_nil,List.toList_toArray,Array.toList_append,Option.toArray_some,Option.toArray_none,Bool.and_self,ty,SctW,SOctW,cntPl,placeS35,hle,hL,hpos,htk,hcl,hex,hth,hPL,hs1,hf,zai,Int.toNat_natCast,Bool.not_true,Bool.not_false]
       refine ⟨mem_ws,⟨by omega,by omega⟩,by omega,?_⟩
       refine ⟨_,Weak.refl _,?_⟩
       simp only [go_sem,zaa,Nat.reduceAdd,Nat.reduceSub,Nat.reduceMul,Int.reduceToNat,reduceCtorEq,↓reduceIte,Int.reducePow,Nat.reducePow,Int.reduceMod,Nat.reduceLeDiff,Int.reduceLE,Int.reduceNe,Int.reduceEq,Nat.reduceEqDiff,Nat.reduceLT,Nat.reduceBEq,List.map_cons,List.map_nil,List.toList_toArray,Array.toList_append,Option.toArray_some,Option.toArray_none,Bool.and_self,ty,SctW,zW,hcl]
     | false =>
       simp only [cntR,hr,hf,hPL,hle]
       simp only [go_sem,zaa,Nat.reduceAdd,Nat.reduceSub,Nat.reduceMul,Int.reduceToNat,reduceCtorEq,↓reduceIte,Int.reducePow,Nat.reducePow,Int.reduceMod,Nat.reduceLeDiff,Int.reduceLE,Int.reduceNe,Int.reduceEq,Nat.reduceEqDiff,Nat.reduceLT,Nat.reduceBEq,List.map_cons,List.map_nil,List.toList_toArray,Array.toList_append,Option.toArray_some,Option.toArray_none,Bool.and_self,ty,SctW,SOctW,cntPl,placeS35,hle,hL,hpos,htk,hcl,hex,hth,hPL,hs1,hf,w1,w2,t1,t2,t3,t4,u1,u2,zdk,zag,zai,Int.toNat_natCast,Bool.not_true,Bool.not_false]
       refine ⟨mem_ws,?_⟩
       repeat (refine And.intro (by omega) ?_)
       refine ⟨_,Weak.refl _,?_⟩
       simp only [go_sem,zaa,Nat.reduceAdd,Nat.reduceSub,Nat.reduceMul,Int.reduceToNat,reduceCtorEq,↓reduceIte,Int.reducePow,Nat.reducePow,Int.reduceMod,Nat.reduceLeDiff,Int.reduceLE,Int.reduceNe,Int.reduceEq,Nat.reduceEqDiff,Nat.reduceLT,Nat.reduceBEq,List.map_cons,List.map_nil,List.toList_toArray,Array.toList_append,Option.toArray_some,Option.toArray_none,Bool.and_self,ty,SctW,zag,zbv,cond_true]
   | false =>
     cases hf : decide (256 ≤ l.length) with
     | true =>
       have d1 : decide ((256 : Int) ≤ (l.length : Int)) = true := decide_eq_true (by have := of_decide_eq_true hf; omega)
       simp only [cntR,hf,hle]
       simp only [go_sem,zaa,Nat.reduceAdd,Nat.reduceSub,Nat.reduceMul,Int.reduceToNat,reduceCtorEq,↓reduceIte,Int.reducePow,Nat.reducePow,Int.reduceMod,Nat.reduceLeDiff,Int.reduceLE,Int.reduceNe,Int.reduceEq,Nat.reduceEqDiff,Nat.reduceLT,Nat.reduceBEq,List.map_cons,List.map_nil,List.toList_toArray,Array.toList_append,Option.toArray_some,Option.toArray_none,Bool.and_self,ty,SctW,SOctW,cntPl,placeS35,hle,hL,hpos,htk,hcl,hex,hth,d1,zai,Int.toNat_natCast,Bool.not_true,Bool.not_false]
       refine ⟨mem_ws,?_⟩
       refine ⟨_,Weak.refl _,?_⟩
       simp only [go_sem,zaa,Nat.reduceAdd,Nat.reduceSub,Nat.reduceMul,Int.reduceToNat,reduceCtorEq,↓reduceIte,Int.reducePow,Nat.reducePow,Int.reduceMod,Nat.reduceLeDiff,Int.reduceLE,Int.reduceNe,Int.reduceEq,Nat.reduceEqDiff,Nat.reduceLT,Nat.reduceBEq,List.map_cons,List.map_nil,List.toList_toArray,Array.toList_append,Option.toArray_some,Option.toArray_none,Bool.and_self,ty,SctW,zW,hcl]
     | false =>
       have d1 : decide ((256 : Int) ≤ (l.length : Int)) = false := decide_eq_false (by have := of_decide_eq_false hf; omega)
       have hins := insW_map s k N l
       obtain ⟨PL,hPL⟩ : ∃ n,plW s k l = n := ⟨_,rfl⟩
       rw [hPL] at hins hpl
       simp only [cntR,hf,hle]
       simp only [go_sem,zaa,Nat.reduceAdd,Nat.reduceSub,Nat.reduceMul,Int.reduceToNat,reduceCtorEq,↓reduceIte,Int.reducePow,Nat.reducePow,Int.reduceMod,Nat.reduceLeDiff,Int.reduceLE,Int.reduceNe,Int.reduceEq,Nat.reduceEqDiff,Nat.reduceLT,Nat.reduceBEq,List.map_cons,List.map_nil,List.toList_toArray,Array.toList_append,Option.toArray_some,Option.toArray_none,Bool.and_self,ty,SctW,SOctW,cntPl,placeS35,hle,hL,hpos,htk,hcl,hex,hth,hPL,d1,insS,hins,zdk,hpl,List.length_map,zai,Int.toNat_natCast,Bool.not_true,Bool.not_false]
       refine ⟨mem_ws,⟨by omega,by omega⟩,?_⟩
       refine ⟨_,Weak.refl _,?_⟩
       simp only [go_sem,zaa,Nat.reduceAdd,Nat.reduceSub,Nat.reduceMul,Int.reduceToNat,reduceCtorEq,↓reduceIte,Int.reducePow,Nat.reducePow,Int.reduceMod,Nat.reduceLeDiff,Int.reduceLE,Int.reduceNe,Int.reduceEq,Nat.reduceEqDiff,Nat.reduceLT,Nat.reduceBEq,List.map_cons,List.map_nil,List.toList_toArray,Array.toList_append,Option.toArray_some,Option.toArray_none,Bool.and_self,ty,SctW,zag,zbv,cond_true]
 · exact hp.elim
end
end Go.Proofs.Ytlpjdgkpapjldaa
namespace Go.Proofs.Ytlpjdgkpapjldaa
namespace Ax
theorem getElem_slot (ys : List AV) (j : Nat) (h : j < ys.length) : ys[j] = slot ys j := by
 rw [zcg]; simp [h]
theorem weak_nilB {sl : List AV} {H : Heap} {nx : Nat} (id0 k j s : Nat) (ys : List AV) (hl0 : look H id0 = some (.g k [.agg ys])) (hj : j < ys.length) (hn : nilV (slot ys j)) (hs : 0 < s) : Weak ⟨sl,H,nx⟩ ⟨sl,put (put H id0 (.g k [.agg (setSlot ys j (.ms nx s 0 0))])) nx (.g s []),nx + 1⟩ := by
 rintro w0 E B a w ⟨loc,hB,hr⟩
 have hf : loc.m nx = .free := hr.fresh nx (Nat.le_refl _)
 have hlow : id0 < nx := hr.low id0 _ hl0
 have hM : ∀ c,Mut (loc.set nx .nil) c → Mut loc c := by
   rintro c (h | ⟨k,h⟩)
   · exact .inl h
   · by_cases hk : k = nx
     · subst hk; rw [Loc.set_same] at h; cases h
     · rw [Loc.set_other _ _ hk] at h; exact .inr ⟨k,h⟩
 have hE : Ext (fun _ => False) w loc w (loc.set nx .nil) :=
   ⟨Nat.le_refl _,fun id h _ => Loc.set_other _ _ (fun e => h (e ▸ hf)),fun _ _ h => h.elim,fun c _ hm => ⟨rfl,fun h => hm (hM c h)⟩,fun _ _ _ _ => rfl,fun _ cur _ fz h => ⟨cur,fz,h,rfl⟩⟩
 have hset : ∀ {k c},(loc.set nx .nil).m k = .here c → loc.m k = .here c := by
   intro k c h
   by_cases hk : k = nx
   · subst hk; rw [Loc.set_same] at h; cases h
   · rwa [Loc.set_other _ _ hk] at h
 refine ⟨loc.set nx .nil,⟨hB.1,hB.2.1,fun k hk => ?_⟩,⟨hr.size,fun t => (hr.slots t).ext hE,?_,⟨hr.env.os,hr.env.tape,hr.env.output,hr.env.size,hr.env.same,fun i j b h1 h2 => hr.env.inj i j b (hset h1) (hset h2),fun i b h1 => hr.env.lies i b (hset h1),hr.env.bad⟩,?_,hr.defers,?_⟩⟩
 · have hne : k ≠ nx := by
     rintro rfl
     rcases hB.2.2 k hk with h | ⟨h,_⟩ <;> rw [hf] at h <;> cases h
   rw [Loc.set_other _ _ hne]; exact hB.2.2 k hk
 · intro id c hl
   simp only at hl
   rw [zan] at hl
   split at hl
   · rename_i e; subst e
     injection hl with hl; subst hl
     unfold BlkR
     rw [Loc.set_same]; exact ⟨⟨hs,by simp⟩,rfl⟩
   · rename_i e
     rw [zan] at hl
     split at hl
     · rename_i e0; subst e0
       injection hl with hl; subst hl
       have h0 := hr.heap _ _ hl0
       unfold BlkR at h0 ⊢
       rw [Loc.set_other _ _ (Ne.symm e)]
       split at h0
       · trivial
       · exact h0.elim
       · exact absurd h0.2 (by simp [Blk.len])
       · obtain ⟨⟨hk0,hok⟩,hL⟩ := h0
         obtain ⟨cur,e1,fz,hc,hfz,hone,hfl,hcells⟩ := hL.lies rfl
         have e3 : (Blk.g k [AV.agg ys]).flat = ys := by simp [Blk.flat,AV.leaves]
         have e4 : (Blk.g k [AV.agg (setSlot ys j (.ms nx s 0 0))]).flat = setSlot ys j (.ms nx s 0 0) := by simp [Blk.flat,AV.leaves]
         rw [e3] at hfl
         have hcell : ∀ (t : Nat) (h : t < ys.length) (h' : t < cur.size),(slot ys t).leaf = true ∧ R w loc (slot ys t) cur[t] := by
           intro t h h'
           have := hcells t (by rw [e3]; exact h) h'
           have e5 : (Blk.g k [AV.agg ys]).flat[t]'(by rw [e3]; exact h) = slot ys t := by
             rw [← getElem_slot ys t h]; simp [e3]
           rw [e5] at this; exact this
         refine ⟨⟨hk0,?_⟩,Lies.mkC ⟨cur,e1,fz,hc,hfz,hone,by rw [e4,zat]; exact hfl,?_⟩⟩
         · intro x hx
           obtain rfl := List.mem_singleton.1 hx
           have := hok (.agg ys) (List.mem_singleton.2 rfl)
           simpa [AV.leaves,zat] using this
         · intro t h h'
           have ht : t < ys.length := by rw [e4,zat] at h; exact h
           have e5 : (Blk.g k [AV.agg (setSlot ys j (.ms nx s 0 0))]).flat[t] = slot (setSlot ys j (.ms nx s 0 0)) t := by
             rw [← getElem_slot _ t (by rw [zat]; exact ht)]; simp [e4]
           rw [e5]
           by_cases htj : j = t
           · subst htj
             rw [zcl hj]
             obtain ⟨a',he⟩ := nilV_R hn (hcell j hj h').2
             refine ⟨rfl,?_⟩
             rw [he]
             refine .ms _ _ _ _ _ ?_
             unfold Owns
             rw [Loc.set_same]
             exact ⟨rfl,a',rfl⟩
           · rw [zby htj]
             exact ⟨(hcell t ht h').1,(hcell t ht h').2.ext hE⟩
     · rename_i e2
       by_cases hfr : loc.m id = .free
       · exact BlkR.free (by rw [Loc.set_other _ _ (Ne.symm e)]; exact hfr)
       · exact (hr.heap id c hl).ext hE (fun h => h) hfr
 · intro id hid
   simp only at hid
   rw [Loc.set_other _ _ (by omega)]; exact hr.fresh id (by simp only; omega)
 · intro id c hl
   simp only at hl
   rw [zan] at hl
   split at hl
   · simp only; omega
   · rw [zan] at hl
     split at hl
     · simp only; omega
     · have := hr.low id c hl
       simp only at this ⊢; omega
theorem weak_fgC {sl : List AV} {H : Heap} {nx : Nat} (id s i id0 : Nat) (zs : List AV) (b0 : Blk) (hl : look H id = some (.g s zs)) (hcl : closedL zs = true) (h0 : look H id0 = some b0) (hi0 : id0 ∈ (slot sl i).ids) (hin : id ∈ b0.idsB) : Weak ⟨sl,H,nx⟩ ⟨fgL id s zs sl,fgH id s zs H,nx⟩ := by
 rintro w0 E B a w ⟨loc,hB,hr⟩
 have h1 := zea _ _ (hr.slots i) hi0
 have h2 : loc.m id ≠ .free := by
   obtain ⟨hok,⟨_,e⟩ | ⟨c,hc,hlies⟩⟩ := hr.heap.get h0 h1
   · rw [idsB_nil e] at hin; simp at hin
   · exact lies_live hlies id hin
 obtain ⟨h3,h4⟩ := rel_fg hB hr h2 (hr.heap id _ hl) hcl
 exact ⟨_,h3,h4⟩
end Ax
end Go.Proofs.Ytlpjdgkpapjldaa
namespace Go.Proofs.Ytlpjdgkpapjldaa
open Ax
structure FR where
 Z : Int
 L : Int
 M : Int
 D : Int
 o : List WS
 f : Bool
 c : List WS
 e : Int
def frA (r : FR) : AV := .tup [.agg [.w (.int .i64 r.Z),.w (.int .i64 r.L),.w (.int .i64 r.M),.w (.int .i64 r.D),.sg 6 (r.o.map wsA) r.f],.sg 6 (r.c.map wsA) false,.w (.int .i64 r.e)]
def errF (e : Int) : FR := ⟨0,0,0,0,[],true,[],e⟩
def mxW (M t : Int) : Int := if M < t then t else M
def stW (Z t : Int) : Int := t - t.tmod Z
def finF (Z L mk D : Int) (l : List WS) : FR := ⟨Z,L,mk,D,opW Z L mk l,false,clW Z L mk l,0⟩
def fedF (Z L M D : Int) (l : List WS) (k : List UInt8) (t n : Int) : FR :=
 if thW (stW Z t) k l = true then
   if 1048576 ≤ (rowW (stW Z t) k l).c then errF 9
   else finF Z L (mxW M t) D (l.set (plW (stW Z t) k l) (wthW (rowW (stW Z t) k l) n))
 else if 256 ≤ l.length then errF 9
 else finF Z L (mxW M t) D (insW (stW Z t) k n l)
def empL : List WS → Bool
 | [] => true
 | _ => false
def fdW (Z L M D : Int) (l : List WS) (k : List UInt8) (t n : Int) : FR :=
 if chW Z L M D l = 0 then
   if 64 < k.length then errF 5
   else if (outB t 0 1099511627776 || outB n (-1073741824) 1073741824) = true then errF 11
   else if ltW Z L (stW Z t) (mxW M t) = true then ⟨Z,L,M,if 1099511627776 < D + 1 then 1099511627776 else D + 1,l,empL l,[],0⟩
   else fedF Z L M D l k t n
 else errF (chW Z L M D l)
def feedS35 : zar
 | [.agg [.w (.int .i64 Z),.w (.int .i64 L),.w (.int .i64 M),.w (.int .i64 D),.sg 6 xs f],.str k,.w (.int .i64 t),.w (.int .i64 n)],[] => ⟨xs.length ≤ 1000000 ∧ ∃ l : List WS,xs = l.map wsA,frA (fdW Z L M D (xs.map uws) k t n),[]⟩
 | _,_ => zcd
theorem ch_ok {Z L M D : Int} {l : List WS} (h : chW Z L M D l = 0) :
   (1 ≤ Z ∧ Z ≤ 1048576) ∧ (0 ≤ L ∧ L ≤ 1048576) ∧ (-1 ≤ M ∧ M ≤ 1099511627776) ∧ (0 ≤ D ∧ D ≤ 1099511627776) ∧ l.length ≤ 256 ∧ risW l = true ∧
   ∀ r ∈ l,(0 ≤ r.s ∧ r.s ≤ 1099511627776) ∧ (1 ≤ r.c ∧ r.c ≤ 1048576) ∧ (-1073741824 ≤ r.a ∧ r.a ≤ 1073741824) ∧ (-1073741824 ≤ r.b ∧ r.b ≤ 1073741824) ∧ -1125899906842624 ≤ r.t ∧ r.t ≤ 1125899906842624 := by
 unfold chW at h
 split at h
 · cases h
 · rename_i hh
   split at h
   · rename_i ha
     split at h
     · rename_i hr
       rcases hd_cases Z L M D l.length with Q | Q | Q | Q | Q | Q
       · exact absurd Q.2 hh
       · exact absurd Q.2.2 hh
       · exact absurd Q.2.2.2 hh
       · exact absurd Q.2.2.2.2 hh
       · exact absurd Q.2.2.2.2.2 hh
       obtain ⟨q1,q2,q3,q4,q5,q6⟩ := Q
       have q5 := of_decide_eq_false q5
       refine ⟨zaq q1,zaq q2,zaq q3,zaq q4,by omega,hr,fun r hm => ?_⟩
       have hok := List.all_eq_true.1 ha r hm
       unfold okr okWB at hok
       simp only [Bool.and_eq_true,Bool.not_eq_true'] at hok
       obtain ⟨h1,h2,h3,h4,h5,h6,h7,h8⟩ := hok
       have b1 := mul_bound (zaq h4) (zaq h5)
       have b2 := mul_bound (zaq h4) (zaq h6)
       have b3 := zaq h8
       exact ⟨zaq h1,zaq h4,zaq h5,zaq h6,by omega,by omega⟩
     · cases h
   · cases h
theorem st_bound {Z t : Int} (hZ : 1 ≤ Z) (ht : 0 ≤ t) : 0 ≤ stW Z t ∧ stW Z t ≤ t := by
 unfold stW
 have h1 := Int.tmod_nonneg Z ht
 have h2 : t.tmod Z ≤ t := by
   rw [Int.tmod_eq_emod_of_nonneg ht]
   have h3 := Int.mul_ediv_add_emod t Z
   have h4 : 0 ≤ Z * (t / Z) := Int.mul_nonneg (by omega) (Int.ediv_nonneg ht (by omega))
   omega
 omega
def SfdW (f : FuncId) : Option zar :=
 match f with
 | 19 => some zbu
 | 25 => some outS
 | 26 => some cloWS
 | 27 => some zcu
 | 29 => some partWS
 | _ => none
theorem SfdW_ok : Fns Try.prog SfdW := by
 intro f s h
 unfold SfdW at h
 split at h
 · injection h with h; subst h; exact ⟨⟨_,Try.func19,by kernel_rfl,by kernel_rfl⟩,chkW_sound⟩
 · injection h with h; subst h; exact ⟨⟨_,Try.func25,by kernel_rfl,by kernel_rfl⟩,out_sound⟩
 · injection h with h; subst h; exact ⟨⟨_,Try.func26,by kernel_rfl,by kernel_rfl⟩,cloW_sound⟩
 · injection h with h; subst h; exact ⟨⟨_,Try.func27,by kernel_rfl,by kernel_rfl⟩,late35_sound⟩
 · injection h with h; subst h; exact ⟨⟨_,Try.func29,by kernel_rfl,by kernel_rfl⟩,part_sound⟩
 · cases h
def SOfdW (f : FuncId) : Option zar :=
 match f with
 | 28 => some cntWS
 | _ => none
theorem SOfdW_ok : FnsO Try.prog SOfdW := by
 intro f s h
 unfold SOfdW at h
 split at h
 · injection h with h; subst h; exact ⟨⟨_,Try.func28,by kernel_rfl,by kernel_rfl⟩,cntW_sound⟩
 · cases h
def fdPl : XPlan := fun id => match id with
 | 9 => .prs []
 | 13 => .opn [] 5
 | _ => .std
section
set_option maxRecDepth 100000
set_option maxHeartbeats 16000000
theorem feed35_sound : zbi Try.prog 9 feedS35 := by
 refine zdw (S := SfdW) (SO := SOfdW) (T := ty) zbt ty_ok SfdW_ok SOfdW_ok Try.func9 (c := Try.f9.body.getD .skip) (by kernel_rfl) (fun xs pins hp _ => ?_)
 unfold feedS35 at hp ⊢
 split at hp
 · rename_i Z L M D xs f k t n _
   obtain ⟨hL,l,rfl⟩ := hp
   rw [List.length_map] at hL
   rw [zai]
   have hle : (l.map wsA).length = l.length := by simp
   have hcl := zag l
   have hex : ∃ p : List WS,l.map wsA = p.map wsA := ⟨l,rfl⟩
   have hL6 : l.length ≤ 9223372036854775807 := by omega
   have hc : ∀ f,coe ty 29 (.sg 6 (l.map wsA) f) = .sg 6 (l.map wsA) f := fun f => by cases l <;> rfl
   refine ⟨by simp,fdPl,by kernel_rfl,?_⟩
   unfold Try.f9
   by_cases hch : chW Z L M D l = 0
   · obtain ⟨oZ,oL,oM,oD,ol,hris,hrow⟩ := ch_ok hch
     have d0 : decide (chW Z L M D l = 0) = true := decide_eq_true hch
     by_cases hk : 64 < k.length
     · have hv : fdW Z L M D l k t n = errF 5 := by unfold fdW; rw [if_pos hch,if_pos hk]
       have d1 : decide ((64 : Int) < (k.length : Int)) = true := decide_eq_true (by omega)
       rw [hv]
       simp only [go_sem,zaa,Nat.reduceAdd,Nat.reduceSub,Nat.reduceMul,Int.reduceToNat,reduceCtorEq,↓reduceIte,Int.reducePow,Nat.reducePow,Int.reduceMod,Nat.reduceLeDiff,Int.reduceLE,Int.reduceNe,Int.reduceEq,Nat.reduceEqDiff,Nat.reduceLT,Nat.reduceBEq,List.map_cons,List.map_nil,List.toList_toArray,Array.toList_append,Option.toArray_some,Option.toArray_none,Bool.and_self,ty,SfdW,SOfdW,fdPl,zbu,hle,hL6,hc,hex,zai,hch,d0,d1,decide_true,Bool.not_true,Bool.not_false]
       refine ⟨_,zas 9 (.sg 6 [] false) (fun w loc v h => zbd 6 h),?_⟩
       simp only [go_sem,zaa,Nat.reduceAdd,Nat.reduceSub,Nat.reduceMul,Int.reduceToNat,reduceCtorEq,↓reduceIte,Int.reducePow,Nat.reducePow,Int.reduceMod,Nat.reduceLeDiff,Int.reduceLE,Int.reduceNe,Int.reduceEq,Nat.reduceEqDiff,Nat.reduceLT,Nat.reduceBEq,List.map_cons,List.map_nil,List.toList_toArray,Array.toList_append,Option.toArray_some,Option.toArray_none,Bool.and_self,ty,frA,errF,zW,List.map_nil,setSlot]
     · have d1 : decide ((64 : Int) < (k.length : Int)) = false := decide_eq_false (by omega)
       cases hot : outB t 0 1099511627776 with
       | true =>
         have hv : fdW Z L M D l k t n = errF 11 := by unfold fdW; rw [if_pos hch,if_neg hk,if_pos (by rw [hot]; rfl)]
         rw [hv]
         simp only [go_sem,zaa,Nat.reduceAdd,Nat.reduceSub,Nat.reduceMul,Int.reduceToNat,reduceCtorEq,↓reduceIte,Int.reducePow,Nat.reducePow,Int.reduceMod,Nat.reduceLeDiff,Int.reduceLE,Int.reduceNe,Int.reduceEq,Nat.reduceEqDiff,Nat.reduceLT,Nat.reduceBEq,List.map_cons,List.map_nil,List.toList_toArray,Array.toList_append,Option.toArray_some,Option.toArray_none,Bool.and_self,ty,SfdW,SOfdW,fdPl,zbu,outS,hle,hL6,hc,hex,zai,hch,d0,d1,hot,decide_true,Bool.not_true,Bool.not_false]
         refine ⟨_,zas 9 (.sg 6 [] false) (fun w loc v h => zbd 6 h),?_⟩
         simp only [go_sem,zaa,Nat.reduceAdd,Nat.reduceSub,Nat.reduceMul,Int.reduceToNat,reduceCtorEq,↓reduceIte,Int.reducePow,Nat.reducePow,Int.reduceMod,Nat.reduceLeDiff,Int.reduceLE,Int.reduceNe,Int.reduceEq,Nat.reduceEqDiff,Nat.reduceLT,Nat.reduceBEq,List.map_cons,List.map_nil,List.toList_toArray,Array.toList_append,Option.toArray_some,Option.toArray_none,Bool.and_self,ty,frA,errF,zW,List.map_nil,setSlot]
       | false =>
         cases hon : outB n (-1073741824) 1073741824 with
         | true =>
           have hv : fdW Z L M D l k t n = errF 11 := by unfold fdW; rw [if_pos hch,if_neg hk,if_pos (by rw [hot,hon]; rfl)]
           rw [hv]
           simp only [go_sem,zaa,Nat.reduceAdd,Nat.reduceSub,Nat.reduceMul,Int.reduceToNat,reduceCtorEq,↓reduceIte,Int.reducePow,Nat.reducePow,Int.reduceMod,Nat.reduceLeDiff,Int.reduceLE,Int.reduceNe,Int.reduceEq,Nat.reduceEqDiff,Nat.reduceLT,Nat.reduceBEq,List.map_cons,List.map_nil,List.toList_toArray,Array.toList_append,Option.toArray_some,Option.toArray_none,Bool.and_self,ty,SfdW,SOfdW,fdPl,zbu,outS,hle,hL6,hc,hex,zai,hch,d0,d1,hot,hon,decide_true,Bool.not_true,Bool.not_false]
           refine ⟨_,zas 9 (.sg 6 [] false) (fun w loc v h => zbd 6 h),?_⟩
           simp only [go_sem,zaa,Nat.reduceAdd,Nat.reduceSub,Nat.reduceMul,Int.reduceToNat,reduceCtorEq,↓reduceIte,Int.reducePow,Nat.reducePow,Int.reduceMod,Nat.reduceLeDiff,Int.reduceLE,Int.reduceNe,Int.reduceEq,Nat.reduceEqDiff,Nat.reduceLT,Nat.reduceBEq,List.map_cons,List.map_nil,List.toList_toArray,Array.toList_append,Option.toArray_some,Option.toArray_none,Bool.and_self,ty,frA,errF,zW,List.map_nil,setSlot]
         | false =>
           have ot := zaq hot
           have on := zaq hon
           have hz : ¬ Z = 0 := by omega
           have hsb := st_bound oZ.1 ot.1
           have w1 : (t - t.tmod Z + 9223372036854775808) % 18446744073709551616 - 9223372036854775808 = stW Z t := by unfold stW at *; omega
           have wD : (D + 1 + 9223372036854775808) % 18446744073709551616 - 9223372036854775808 = D + 1 := by omega
           have sZ : smlW Z := ⟨by omega,by omega⟩
           have sL : smlW L := ⟨by omega,by omega⟩
           have sS : smlW (stW Z t) := ⟨by omega,by omega⟩
           have hmx : (if M < t then t else M) = mxW M t := rfl
           have sN : smlW n := ⟨by omega,by omega⟩
           obtain ⟨ST,hST⟩ : ∃ x,stW Z t = x := ⟨_,rfl⟩
           obtain ⟨MK,hMK⟩ : ∃ x,mxW M t = x := ⟨_,rfl⟩
           rw [hST] at w1 sS
           rw [hMK] at hmx
           cases hlt : ltW Z L ST MK with
           | true =>
             have hv : fdW Z L M D l k t n = ⟨Z,L,M,if 1099511627776 < D + 1 then 1099511627776 else D + 1,l,empL l,[],0⟩ := by
               unfold fdW; rw [if_pos hch,if_neg hk,if_neg (by rw [hot,hon]; simp),if_pos (by rw [hST,hMK]; exact hlt)]
             rw [hv]
             cases l with
             | nil =>
               simp only [go_sem,zaa,Nat.reduceAdd,Nat.reduceSub,Nat.reduceMul,Int.reduceToNat,reduceCtorEq,↓reduceIte,Int.reducePow,Nat.reducePow,Int.reduceMod,Nat.reduceLeDiff,Int.reduceLE,Int.reduceNe,Int.reduceEq,Nat.reduceEqDiff,Nat.reduceLT,Nat.reduceBEq,List.map_cons,List.map_nil,List.toList_toArray,Array.toList_append,Option.toArray_some,Option.toArray_none,Bool.and_self,ty,SfdW,SOfdW,fdPl,zbu,outS,cloWS,zcu,empW,hle,hL,hL6,hc,hex,hz,w1,wD,hmx,hlt,sZ,sL,sS,zai,hch,d0,d1,hot,hon,decide_true,Bool.not_true,Bool.not_false,cond_true,List.map_nil,List.length_nil]
               refine ⟨⟨[],rfl⟩,⟨[],rfl⟩,?_⟩
               refine ⟨_,zas 9 (.sg 6 [] false) (fun w loc v h => zbd 6 h),?_⟩
               simp only [go_sem,zaa,Nat.reduceAdd,Nat.reduceSub,Nat.reduceMul,Int.reduceToNat,reduceCtorEq,↓reduceIte,Int.reducePow,Nat.reducePow,Int.reduceMod,Nat.reduceLeDiff,Int.reduceLE,Int.reduceNe,Int.reduceEq,Nat.reduceEqDiff,Nat.reduceLT,Nat.reduceBEq,List.map_cons,List.map_nil,List.toList_toArray,Array.toList_append,Option.toArray_some,Option.toArray_none,Bool.and_self,ty,frA,errF,zW,List.map_nil,setSlot,empL]
             | cons x l0 =>
               have hem : empW ((x :: l0).map wsA) = false := rfl
               have hel : empL (x :: l0) = false := rfl
               generalize hll : x :: l0 = l at *
               have htk : (l.map wsA).take l.length = l.map wsA := List.take_of_length_le (by simp)
               simp only [go_sem,zaa,Nat.reduceAdd,Nat.reduceSub,Nat.reduceMul,Int.reduceToNat,reduceCtorEq,↓reduceIte,Int.reducePow,Nat.reducePow,Int.reduceMod,Nat.reduceLeDiff,Int.reduceLE,Int.reduceNe,Int.reduceEq,Nat.reduceEqDiff,Nat.reduceLT,Nat.reduceBEq,List.map_cons,List.map_nil,List.toList_toArray,Array.toList_append,Option.toArray_some,Option.toArray_none,Bool.and_self,ty,SfdW,SOfdW,fdPl,zbu,outS,cloWS,zcu,hem,hle,hL,hL6,hc,hex,hz,hcl,htk,zdk,zbv,w1,wD,hmx,hlt,sZ,sL,sS,zai,hch,d0,d1,hot,hon,decide_true,Bool.not_true,Bool.not_false,cond_false]
               refine ⟨mem_ws,?_⟩
               refine ⟨_,(weak_fgC 156 6 8 12 (l.map wsA) _ rfl hcl rfl (by simp [slot,AV.ids]) (by simp [Blk.idsB,Blk.closed,closedL,AV.closed,idsL,AV.ids])).trans (zas 9 (.sg 6 [] false) (fun w loc v h => by exact zbd 6 h)),?_⟩
               have dle : decide (0 + l.length ≤ (l.map wsA).length) = true := decide_eq_true (by simp)
               simp only [fgL,fgH,AV.fg,Blk.fg,Nat.reduceBEq,cond_true,cond_false,beq_self_eq_true,Bool.true_and,List.drop_zero,fg_ws,dle,htk,hle,hel]
               simp only [go_sem,zaa,Nat.reduceAdd,Nat.reduceSub,Nat.reduceMul,Int.reduceToNat,reduceCtorEq,↓reduceIte,Int.reducePow,Nat.reducePow,Int.reduceMod,Nat.reduceLeDiff,Int.reduceLE,Int.reduceNe,Int.reduceEq,Nat.reduceEqDiff,Nat.reduceLT,Nat.reduceBEq,List.map_cons,List.map_nil,List.toList_toArray,Array.toList_append,Option.toArray_some,Option.toArray_none,Bool.and_self,ty,frA,List.map_nil,setSlot,hel]
           | false =>
             have hv : fdW Z L M D l k t n = fedF Z L M D l k t n := by
               unfold fdW; rw [if_pos hch,if_neg hk,if_neg (by rw [hot,hon]; simp),if_neg (by rw [hST,hMK,hlt]; simp)]
             rw [hv]
             unfold fedF
             rw [hST,hMK]
             cases l with
             | nil =>
               have hth : thW ST k [] = false := rfl
               have hmu : ([.agg [.w (.int .i64 ST),.str k,.w (.int .i64 1),.w (.int .i64 n),.w (.int .i64 n),.w (.int .i64 n)]] : List AV).map uws = insW ST k n [] := rfl
               have hexP : ∃ p : List WS,([.agg [.w (.int .i64 ST),.str k,.w (.int .i64 1),.w (.int .i64 n),.w (.int .i64 n),.w (.int .i64 n)]] : List AV) = p.map wsA ∧ ∀ r ∈ p,smlW r.s := ⟨[⟨ST,k,1,n,n,n⟩],rfl,fun r hr => by obtain rfl := List.mem_singleton.1 hr; exact sS⟩
               have hl1 : ([.agg [.w (.int .i64 ST),.str k,.w (.int .i64 1),.w (.int .i64 n),.w (.int .i64 n),.w (.int .i64 n)]] : List AV).length = 1 := rfl
               rw [hth,if_neg (by simp),if_neg (by simp)]
               simp only [go_sem,zaa,Nat.reduceAdd,Nat.reduceSub,Nat.reduceMul,Int.reduceToNat,reduceCtorEq,↓reduceIte,Int.reducePow,Nat.reducePow,Int.reduceMod,Nat.reduceLeDiff,Int.reduceLE,Int.reduceNe,Int.reduceEq,Nat.reduceEqDiff,Nat.reduceLT,Nat.reduceBEq,List.map_cons,List.map_nil,List.toList_toArray,Array.toList_append,Option.toArray_some,Option.toArray_none,Bool.and_self,ty,SfdW,SOfdW,fdPl,zbu,outS,cloWS,zcu,cntWS,partWS,empW,coeNW,hmu,hexP,hl1,hle,hL,hL6,hc,hex,hz,w1,wD,hmx,hlt,sZ,sL,sS,zai,hch,d0,d1,hot,hon,decide_true,Bool.not_true,Bool.not_false,cond_true,List.map_nil,List.length_nil]
               refine ⟨⟨[],rfl⟩,⟨[],rfl⟩,fun y e => by rw [e]; rfl,?_⟩
               refine ⟨_,Weak.refl _,?_⟩
               simp only [go_sem,zaa,Nat.reduceAdd,Nat.reduceSub,Nat.reduceMul,Int.reduceToNat,reduceCtorEq,↓reduceIte,Int.reducePow,Nat.reducePow,Int.reduceMod,Nat.reduceLeDiff,Int.reduceLE,Int.reduceNe,Int.reduceEq,Nat.reduceEqDiff,Nat.reduceLT,Nat.reduceBEq,List.map_cons,List.map_nil,List.toList_toArray,Array.toList_append,Option.toArray_some,Option.toArray_none,Bool.and_self,ty,frA,finF]
             | cons x l0 =>
               have hem : empW ((x :: l0).map wsA) = false := rfl
               have hlp : 0 < (x :: l0).length := by simp
               generalize hll : x :: l0 = l at *
               have htk : (l.map wsA).take l.length = l.map wsA := List.take_of_length_le (by simp)
               have hpos : decide (0 < l.length) = true := decide_eq_true hlp
               have h6 : l.length ≤ 999999 := by omega
               have hexc : ∃ p : List WS,l.map wsA = p.map wsA ∧ risW p = true ∧ ∀ r ∈ p,smlW r.c ∧ smlW r.t := ⟨l,rfl,hris,fun r hr => by
                 have := hrow r hr
                 exact ⟨⟨by omega,by omega⟩,by omega,by omega⟩⟩
               cases hth : thW ST k l with
               | true =>
                 cases hf : decide (1048576 ≤ (rowW ST k l).c) with
                 | true =>
                   have hcv : cntV Z L M D ST k n l = (.tup [zW,.w (.int .i64 9)],[.g 6 (l.map wsA)]) := by unfold cntV; rw [hth,hf]; rfl
                   rw [if_pos rfl,if_pos (of_decide_eq_true hf)]
                   simp only [go_sem,zaa,Nat.reduceAdd,Nat.reduceSub,Nat.reduceMul,Int.reduceToNat,reduceCtorEq,↓reduceIte,Int.reducePow,Nat.reducePow,Int.reduceMod,Nat.reduceLeDiff,Int.reduceLE,Int.reduceNe,Int.reduceEq,Nat.reduceEqDiff,Nat.reduceLT,Nat.reduceBEq,List.map_cons,List.map_nil,List.toList_toArray,Array.toList_append,Option.toArray_some,Option.toArray_none,Bool.and_self,ty,SfdW,SOfdW,fdPl,zbu,outS,cloWS,zcu,cntWS,hcv,zW,hem,hpos,hlp,h6,sN,hexc,hle,hL,hL6,hc,hex,hz,hcl,htk,zdk,zbv,w1,wD,hmx,hlt,sZ,sL,sS,zai,hch,d0,d1,hot,hon,decide_true,Bool.not_true,Bool.not_false,cond_false]
                   refine ⟨mem_ws,?_⟩
                   refine ⟨_,zas 9 (.sg 6 [] false) (fun w loc v h => zbd 6 h),?_⟩
                   simp only [go_sem,zaa,Nat.reduceAdd,Nat.reduceSub,Nat.reduceMul,Int.reduceToNat,reduceCtorEq,↓reduceIte,Int.reducePow,Nat.reducePow,Int.reduceMod,Nat.reduceLeDiff,Int.reduceLE,Int.reduceNe,Int.reduceEq,Nat.reduceEqDiff,Nat.reduceLT,Nat.reduceBEq,List.map_cons,List.map_nil,List.toList_toArray,Array.toList_append,Option.toArray_some,Option.toArray_none,Bool.and_self,ty,frA,errF,zW,List.map_nil,setSlot]
                 | false =>
                   have hcv : cntV Z L M D ST k n l = (.tup [.agg [.w (.int .i64 Z),.w (.int .i64 L),.w (.int .i64 M),.w (.int .i64 D),.ms 0 6 0 l.length],.w (.int .i64 0)],[.g 6 ((l.set (plW ST k l) (wthW (rowW ST k l) n)).map wsA)]) := by unfold cntV; rw [hth,hf]; rfl
                   rw [if_pos rfl,if_neg (of_decide_eq_false hf)]
                   have hpl := th_lt hris hth
                   have hexP0 : ∀ r ∈ l.set (plW ST k l) (wthW (rowW ST k l) n),smlW r.s := fun r hr => by
                     rcases List.mem_or_eq_of_mem_set hr with h | rfl
                     · have := hrow r h
                       exact ⟨by omega,by omega⟩
                     · rw [row_eq hpl]
                       have := hrow _ (List.getElem_mem hpl)
                       exact ⟨by show _ ≤ (l[plW ST k l]).s; omega,by show (l[plW ST k l]).s ≤ _; omega⟩
                   have hln : (l.set (plW ST k l) (wthW (rowW ST k l) n)).length = l.length := List.length_set
                   generalize l.set (plW ST k l) (wthW (rowW ST k l) n) = l1 at *
                   have hexP : ∃ p : List WS,l1.map wsA = p.map wsA ∧ ∀ r ∈ p,smlW r.s := ⟨l1,rfl,hexP0⟩
                   have htk1 : (l1.map wsA).take l.length = l1.map wsA := List.take_of_length_le (by simp; omega)
                   have hL1 : (l1).length ≤ 1000000 := by rw [hln]; omega
                   have hle1 : ((l1).map wsA).length = (l1).length := by simp
                   simp only [go_sem,zaa,Nat.reduceAdd,Nat.reduceSub,Nat.reduceMul,Int.reduceToNat,reduceCtorEq,↓reduceIte,Int.reducePow,Nat.reducePow,Int.reduceMod,Nat.reduceLeDiff,Int.reduceLE,Int.reduceNe,Int.reduceEq,Nat.reduceEqDiff,Nat.reduceLT,Nat.reduceBEq,List.map_cons,List.map_nil,List.toList_toArray,Array.toList_append,Option.toArray_some,Option.toArray_none,Bool.and_self,ty,SfdW,SOfdW,fdPl,zbu,outS,cloWS,zcu,cntWS,partWS,hcv,hem,hpos,hlp,h6,sN,hexc,hexP,hL1,hle1,hln,htk1,hle,hL,hL6,hc,hex,hz,hcl,htk,zag,zdk,zbv,w1,wD,hmx,hlt,sZ,sL,sS,zai,hch,d0,d1,hot,hon,decide_true,Bool.not_true,Bool.not_false,cond_false,cond_true]
                   refine ⟨mem_ws,mem_ws,?_⟩
                   refine ⟨_,Weak.refl _,?_⟩
                   simp only [go_sem,zaa,Nat.reduceAdd,Nat.reduceSub,Nat.reduceMul,Int.reduceToNat,reduceCtorEq,↓reduceIte,Int.reducePow,Nat.reducePow,Int.reduceMod,Nat.reduceLeDiff,Int.reduceLE,Int.reduceNe,Int.reduceEq,Nat.reduceEqDiff,Nat.reduceLT,Nat.reduceBEq,List.map_cons,List.map_nil,List.toList_toArray,Array.toList_append,Option.toArray_some,Option.toArray_none,Bool.and_self,ty,frA,finF]
               | false =>
                 rw [if_neg (by simp)]
                 cases hf : decide (256 ≤ l.length) with
                 | true =>
                   have hcv : cntV Z L M D ST k n l = (.tup [zW,.w (.int .i64 9)],[.g 6 (l.map wsA)]) := by unfold cntV; rw [hth,hf]; rfl
                   rw [if_pos (of_decide_eq_true hf)]
                   simp only [go_sem,zaa,Nat.reduceAdd,Nat.reduceSub,Nat.reduceMul,Int.reduceToNat,reduceCtorEq,↓reduceIte,Int.reducePow,Nat.reducePow,Int.reduceMod,Nat.reduceLeDiff,Int.reduceLE,Int.reduceNe,Int.reduceEq,Nat.reduceEqDiff,Nat.reduceLT,Nat.reduceBEq,List.map_cons,List.map_nil,List.toList_toArray,Array.toList_append,Option.toArray_some,Option.toArray_none,Bool.and_self,ty,SfdW,SOfdW,fdPl,zbu,outS,cloWS,zcu,cntWS,hcv,zW,hem,hpos,hlp,h6,sN,hexc,hle,hL,hL6,hc,hex,hz,hcl,htk,zdk,zbv,w1,wD,hmx,hlt,sZ,sL,sS,zai,hch,d0,d1,hot,hon,decide_true,Bool.not_true,Bool.not_false,cond_false]
                   refine ⟨mem_ws,?_⟩
                   refine ⟨_,zas 9 (.sg 6 [] false) (fun w loc v h => zbd 6 h),?_⟩
                   simp only [go_sem,zaa,Nat.reduceAdd,Nat.reduceSub,Nat.reduceMul,Int.reduceToNat,reduceCtorEq,↓reduceIte,Int.reducePow,Nat.reducePow,Int.reduceMod,Nat.reduceLeDiff,Int.reduceLE,Int.reduceNe,Int.reduceEq,Nat.reduceEqDiff,Nat.reduceLT,Nat.reduceBEq,List.map_cons,List.map_nil,List.toList_toArray,Array.toList_append,Option.toArray_some,Option.toArray_none,Bool.and_self,ty,frA,errF,zW,List.map_nil,setSlot]
                 | false =>
                   have hcv : cntV Z L M D ST k n l = (.tup [.agg [.w (.int .i64 Z),.w (.int .i64 L),.w (.int .i64 M),.w (.int .i64 D),.ms 1 6 0 (l.length + 1)],.w (.int .i64 0)],[gone,.g 6 ((insW ST k n l).map wsA)]) := by unfold cntV; rw [hth,hf]; rfl
                   rw [if_neg (of_decide_eq_false hf)]
                   have hexP0 : ∀ r ∈ insW ST k n l,smlW r.s := fun r hr => by
                     unfold insW at hr
                     rcases List.mem_append.1 hr with h | h
                     · have := hrow r (List.mem_of_mem_take h)
                       exact ⟨by omega,by omega⟩
                     · rcases List.mem_cons.1 h with rfl | h
                       · exact sS
                       · have := hrow r (List.mem_of_mem_drop h)
                         exact ⟨by omega,by omega⟩
                   have hln : (insW ST k n l).length = l.length + 1 := by
                     have := plW_le ST k l
                     unfold insW
                     simp only [List.length_append,List.length_take,List.length_cons,List.length_drop]
                     omega
                   generalize insW ST k n l = l1 at *
                   have hexP : ∃ p : List WS,l1.map wsA = p.map wsA ∧ ∀ r ∈ p,smlW r.s := ⟨l1,rfl,hexP0⟩
                   have htk1 : (l1.map wsA).take (l.length + 1) = l1.map wsA := List.take_of_length_le (by simp; omega)
                   have hL1 : (l1).length ≤ 1000000 := by rw [hln]; omega
                   have hle1 : ((l1).map wsA).length = (l1).length := by simp
                   simp only [go_sem,zaa,Nat.reduceAdd,Nat.reduceSub,Nat.reduceMul,Int.reduceToNat,reduceCtorEq,↓reduceIte,Int.reducePow,Nat.reducePow,Int.reduceMod,Nat.reduceLeDiff,Int.reduceLE,Int.reduceNe,Int.reduceEq,Nat.reduceEqDiff,Nat.reduceLT,Nat.reduceBEq,List.map_cons,List.map_nil,List.toList_toArray,Array.toList_append,Option.toArray_some,Option.toArray_none,Bool.and_self,ty,SfdW,SOfdW,fdPl,zbu,outS,cloWS,zcu,cntWS,partWS,hcv,hem,hpos,hlp,h6,sN,hexc,hexP,hL1,hle1,hln,htk1,hle,hL,hL6,hc,hex,hz,hcl,htk,zag,zdk,zbv,w1,wD,hmx,hlt,sZ,sL,sS,zai,hch,d0,d1,hot,hon,decide_true,Bool.not_true,Bool.not_false,cond_false,cond_true]
                   refine ⟨mem_ws,mem_ws,?_⟩
                   refine ⟨_,Weak.refl _,?_⟩
                   simp only [go_sem,zaa,Nat.reduceAdd,Nat.reduceSub,Nat.reduceMul,Int.reduceToNat,reduceCtorEq,↓reduceIte,Int.reducePow,Nat.reducePow,Int.reduceMod,Nat.reduceLeDiff,Int.reduceLE,Int.reduceNe,Int.reduceEq,Nat.reduceEqDiff,Nat.reduceLT,Nat.reduceBEq,List.map_cons,List.map_nil,List.toList_toArray,Array.toList_append,Option.toArray_some,Option.toArray_none,Bool.and_self,ty,frA,finF]
   · have hv : fdW Z L M D l k t n = errF (chW Z L M D l) := by unfold fdW; rw [if_neg hch]
     have d0 : decide (chW Z L M D l = 0) = false := decide_eq_false hch
     rw [hv]
     simp only [go_sem,zaa,Nat.reduceAdd,Nat.reduceSub,Nat.reduceMul,Int.reduceToNat,reduceCtorEq,↓reduceIte,Int.reducePow,Nat.reducePow,Int.reduceMod,Nat.reduceLeDiff,Int.reduceLE,Int.reduceNe,Int.reduceEq,Nat.reduceEqDiff,Nat.reduceLT,Nat.reduceBEq,List.map_cons,List.map_nil,List.toList_toArray,Array.toList_append,Option.toArray_some,Option.toArray_none,Bool.and_self,ty,SfdW,SOfdW,fdPl,zbu,hle,hL6,hc,hex,zai,d0,Bool.not_true,Bool.not_false]
     refine ⟨_,zas 9 (.sg 6 [] false) (fun w loc v h => zbd 6 h),?_⟩
     simp only [go_sem,zaa,Nat.reduceAdd,Nat.reduceSub,Nat.reduceMul,Int.reduceToNat,reduceCtorEq,↓reduceIte,Int.reducePow,Nat.reducePow,Int.reduceMod,Nat.reduceLeDiff,Int.reduceLE,Int.reduceNe,Int.reduceEq,Nat.reduceEqDiff,Nat.reduceLT,Nat.reduceBEq,List.map_cons,List.map_nil,List.toList_toArray,Array.toList_append,Option.toArray_some,Option.toArray_none,Bool.and_self,ty,frA,errF,zW,List.map_nil,setSlot]
 · exact hp.elim
end
end Go.Proofs.Ytlpjdgkpapjldaa
namespace Go.Proofs.Ytlpjdgkpapjldaa
open Ax
def closeV (Z L M D : Int) (l : List WS) (f : Bool) : AV :=
 if chW Z L M D l = 0 then .tup [.agg [.w (.int .i64 Z),.w (.int .i64 L),.w (.int .i64 M),.w (.int .i64 D),.sg 6 [] false],.sg 6 (l.map wsA) false]
 else .tup [.agg [.w (.int .i64 Z),.w (.int .i64 L),.w (.int .i64 M),.w (.int .i64 D),.sg 6 (l.map wsA) f],.sg 6 [] false]
def closeS35 : zar
 | [.agg [.w (.int .i64 Z),.w (.int .i64 L),.w (.int .i64 M),.w (.int .i64 D),.sg 6 xs f]],[] => ⟨xs.length ≤ 1000000 ∧ ∃ l : List WS,xs = l.map wsA,closeV Z L M D (xs.map uws) (empL (xs.map uws)),[]⟩
 | _,_ => zcd
def rcloseS35 : zar
 | [.agg [.w (.int .i64 Z),.w (.int .i64 L),.w (.int .i64 M),.w (.int .i64 D),.sg 6 xs f]],[] => ⟨xs.length ≤ 1000000 ∧ ∃ l : List WS,xs = l.map wsA,closeV Z L M D (xs.map uws) f,[]⟩
 | _,_ => zcd
def newV (Z L : Int) : AV := if chW Z L (-1) 0 [] = 0 then .tup [.agg [.w (.int .i64 Z),.w (.int .i64 L),.w (.int .i64 (-1)),.w (.int .i64 0),.sg 6 [] true],.w (.int .i64 0)] else .tup [zW,.w (.int .i64 (chW Z L (-1) 0 []))]
def newS35 : zar
 | [.w (.int .i64 Z),.w (.int .i64 L)],[] => ⟨True,newV Z L,[]⟩
 | _,_ => zcd
def withS35 : zar
 | [.agg [.w (.int .i64 s),.str k,.w (.int .i64 c),.w (.int .i64 t),.w (.int .i64 a),.w (.int .i64 b)],.w (.int .i64 n)],[] => ⟨smlW c ∧ smlW t ∧ smlW n,wsA (wthW ⟨s,k,c,t,a,b⟩ n),[]⟩
 | _,_ => zcd
theorem sg_offW {w : World} {loc : Ax.Loc} {v : Value} {s : Nat} {xs : List AV} {f : Bool} (h : R w loc (.sg s xs f) v) : R w loc (.sg s xs false) v := by
 cases f with
 | false => exact h
 | true =>
   cases h with
   | sg _ _ _ a cap cs hd hs hc hl hx hh => exact .sg s xs false a cap cs ⟨hd.le,hd.top,fun h => by cases h⟩ hs hc hl hx hh
def Scl35 (f : FuncId) : Option zar :=
 match f with
 | 19 => some zbu
 | 20 => some zbu
 | 26 => some cloWS
 | _ => none
theorem Scl35_ok : Fns Try.prog Scl35 := by
 intro f s h
 unfold Scl35 at h
 split at h
 · injection h with h; subst h; exact ⟨⟨_,Try.func19,by kernel_rfl,by kernel_rfl⟩,chkW_sound⟩
 · injection h with h; subst h; exact ⟨⟨_,Try.func20,by kernel_rfl,by kernel_rfl⟩,rchkW_sound⟩
 · injection h with h; subst h; exact ⟨⟨_,Try.func26,by kernel_rfl,by kernel_rfl⟩,cloW_sound⟩
 · cases h
section
set_option maxRecDepth 100000
set_option maxHeartbeats 8000000
theorem close35_sound : zbi Try.prog 11 closeS35 := by
 refine zdw (S := Scl35) (SO := noO) (T := ty) zbt ty_ok Scl35_ok noO_ok Try.func11 (c := Try.f11.body.getD .skip) (by kernel_rfl) (fun xs pins hp _ => ?_)
 unfold closeS35 at hp ⊢
 split at hp
 · rename_i Z L M D xs f _
   obtain ⟨hL,l,rfl⟩ := hp
   rw [List.length_map] at hL
   rw [zai]
   have hle : (l.map wsA).length = l.length := by simp
   have hcl := zag l
   have hex : ∃ p : List WS,l.map wsA = p.map wsA := ⟨l,rfl⟩
   have hL6 : l.length ≤ 9223372036854775807 := by omega
   have hc : ∀ f,coe ty 29 (.sg 6 (l.map wsA) f) = .sg 6 (l.map wsA) f := fun f => by cases l <;> rfl
   refine ⟨by simp,zej,by kernel_rfl,?_⟩
   unfold Try.f11 closeV
   cases l with
   | nil =>
     have hex0 : ∃ p : List WS,([] : List AV) = p.map wsA := ⟨[],rfl⟩
     by_cases hch : chW Z L M D [] = 0
     · have d0 : decide (chW Z L M D [] = 0) = true := decide_eq_true hch
       rw [if_pos hch]
       simp only [go_sem,zaa,Nat.reduceAdd,Nat.reduceSub,Nat.reduceMul,Int.reduceToNat,reduceCtorEq,↓reduceIte,Int.reducePow,Nat.reducePow,Int.reduceMod,Nat.reduceLeDiff,Int.reduceLE,Int.reduceNe,Int.reduceEq,Nat.reduceEqDiff,Nat.reduceLT,Nat.reduceBEq,List.map_cons,List.map_nil,List.toList_toArray,Array.toList_append,Option.toArray_some,Option.toArray_none,Bool.and_self,ty,Scl35,zej,cloWS,zbu,empW,coeNW,hex0,hch,d0,decide_true,List.map_nil,List.length_nil,cond_true,Bool.not_true,Bool.not_false]
       refine ⟨_,(weak_nilB 12 5 4 6 [.w (.int .i64 Z),.w (.int .i64 L),.w (.int .i64 M),.w (.int .i64 D),.sg 1 [] true] rfl (by simp) (by exact trivial) (by decide)).trans ((weak_fgC 148 6 2 12 [] _ rfl rfl rfl (by simp [slot,fgL,AV.fg,AV.ids]) (by simp [Blk.idsB,Blk.closed,closedL,AV.closed,idsL,AV.ids,setSlot])).trans (zas 3 (.sg 6 [] false) (fun w loc v h => by exact zbd 6 h))),?_⟩
       simp only [go_sem,zaa,Nat.reduceAdd,Nat.reduceSub,Nat.reduceMul,Int.reduceToNat,reduceCtorEq,↓reduceIte,Int.reducePow,Nat.reducePow,Int.reduceMod,Nat.reduceLeDiff,Int.reduceLE,Int.reduceNe,Int.reduceEq,Nat.reduceEqDiff,Nat.reduceLT,Nat.reduceBEq,List.map_cons,List.map_nil,List.toList_toArray,Array.toList_append,Option.toArray_some,Option.toArray_none,Bool.and_self,ty,fgL,fgH,AV.fg,Blk.fg,Nat.reduceBEq,cond_true,cond_false,beq_self_eq_true,Bool.true_and,List.drop_zero,List.take_zero,fg_ws,setSlot]
     · have d0 : decide (chW Z L M D [] = 0) = false := decide_eq_false hch
       rw [if_neg hch]
       simp only [go_sem,zaa,Nat.reduceAdd,Nat.reduceSub,Nat.reduceMul,Int.reduceToNat,reduceCtorEq,↓reduceIte,Int.reducePow,Nat.reducePow,Int.reduceMod,Nat.reduceLeDiff,Int.reduceLE,Int.reduceNe,Int.reduceEq,Nat.reduceEqDiff,Nat.reduceLT,Nat.reduceBEq,List.map_cons,List.map_nil,List.toList_toArray,Array.toList_append,Option.toArray_some,Option.toArray_none,Bool.and_self,ty,Scl35,zej,cloWS,zbu,empW,empL,coeNW,hex0,d0,List.map_nil,List.length_nil,cond_true,Bool.not_true,Bool.not_false]
       refine ⟨_,zas 3 (.sg 6 [] false) (fun w loc v h => zbd 6 h),?_⟩
       simp only [go_sem,zaa,Nat.reduceAdd,Nat.reduceSub,Nat.reduceMul,Int.reduceToNat,reduceCtorEq,↓reduceIte,Int.reducePow,Nat.reducePow,Int.reduceMod,Nat.reduceLeDiff,Int.reduceLE,Int.reduceNe,Int.reduceEq,Nat.reduceEqDiff,Nat.reduceLT,Nat.reduceBEq,List.map_cons,List.map_nil,List.toList_toArray,Array.toList_append,Option.toArray_some,Option.toArray_none,Bool.and_self,ty,setSlot]
   | cons x l0 =>
     have hem : empW ((x :: l0).map wsA) = false := rfl
     have hel : empL (x :: l0) = false := rfl
     generalize hll : x :: l0 = l at *
     have htk : (l.map wsA).take l.length = l.map wsA := List.take_of_length_le (by simp)
     by_cases hch : chW Z L M D l = 0
     · have d0 : decide (chW Z L M D l = 0) = true := decide_eq_true hch
       rw [if_pos hch]
       simp only [go_sem,zaa,Nat.reduceAdd,Nat.reduceSub,Nat.reduceMul,Int.reduceToNat,reduceCtorEq,↓reduceIte,Int.reducePow,Nat.reducePow,Int.reduceMod,Nat.reduceLeDiff,Int.reduceLE,Int.reduceNe,Int.reduceEq,Nat.reduceEqDiff,Nat.reduceLT,Nat.reduceBEq,List.map_cons,List.map_nil,List.toList_toArray,Array.toList_append,Option.toArray_some,Option.toArray_none,Bool.and_self,ty,Scl35,zej,cloWS,zbu,hem,hle,hL,hL6,hex,hc,hcl,htk,zdk,zbv,zai,hch,d0,decide_true,cond_false,Bool.not_true,Bool.not_false]
       have dle : decide (l.length ≤ (l.map wsA).length) = true := decide_eq_true (by simp)
       refine ⟨mem_ws,?_⟩
       refine ⟨_,(weak_fg 36 6 3 (l.map wsA) rfl hcl (by simp [slot,AV.ids])).trans ((weak_nilB 12 5 4 6 [.w (.int .i64 Z),.w (.int .i64 L),.w (.int .i64 M),.w (.int .i64 D),.sg 1 [] true] rfl (by simp) (by exact trivial) (by decide)).trans ((weak_fgC 148 6 2 12 [] _ rfl rfl rfl (by simp [slot,fgL,AV.fg,AV.ids]) (by simp [Blk.idsB,Blk.closed,closedL,AV.closed,idsL,AV.ids,setSlot])).trans (Weak.refl _))),?_⟩
       simp only [go_sem,zaa,Nat.reduceAdd,Nat.reduceSub,Nat.reduceMul,Int.reduceToNat,reduceCtorEq,↓reduceIte,Int.reducePow,Nat.reducePow,Int.reduceMod,Nat.reduceLeDiff,Int.reduceLE,Int.reduceNe,Int.reduceEq,Nat.reduceEqDiff,Nat.reduceLT,Nat.reduceBEq,List.map_cons,List.map_nil,List.toList_toArray,Array.toList_append,Option.toArray_some,Option.toArray_none,Bool.and_self,ty,fgL,fgH,AV.fg,Blk.fg,Nat.reduceBEq,cond_true,cond_false,beq_self_eq_true,Bool.true_and,List.drop_zero,List.take_zero,fg_ws,setSlot,dle,htk,Nat.zero_add]
     · have d0 : decide (chW Z L M D l = 0) = false := decide_eq_false hch
       rw [if_neg hch]
       simp only [go_sem,zaa,Nat.reduceAdd,Nat.reduceSub,Nat.reduceMul,Int.reduceToNat,reduceCtorEq,↓reduceIte,Int.reducePow,Nat.reducePow,Int.reduceMod,Nat.reduceLeDiff,Int.reduceLE,Int.reduceNe,Int.reduceEq,Nat.reduceEqDiff,Nat.reduceLT,Nat.reduceBEq,List.map_cons,List.map_nil,List.toList_toArray,Array.toList_append,Option.toArray_some,Option.toArray_none,Bool.and_self,ty,Scl35,zej,cloWS,zbu,hem,hel,hle,hL,hL6,hex,hc,hcl,htk,zdk,zbv,zai,d0,cond_false,Bool.not_true,Bool.not_false]
       have dle : decide (l.length ≤ (l.map wsA).length) = true := decide_eq_true (by simp)
       refine ⟨mem_ws,?_⟩
       refine ⟨_,(weak_fgC 36 6 2 12 (l.map wsA) _ rfl hcl rfl (by simp [slot,fgL,AV.fg,AV.ids]) (by simp [Blk.idsB,Blk.closed,closedL,AV.closed,idsL,AV.ids,setSlot])).trans (zas 3 (.sg 6 [] false) (fun w loc v h => by exact zbd 6 h)),?_⟩
       simp only [go_sem,zaa,Nat.reduceAdd,Nat.reduceSub,Nat.reduceMul,Int.reduceToNat,reduceCtorEq,↓reduceIte,Int.reducePow,Nat.reducePow,Int.reduceMod,Nat.reduceLeDiff,Int.reduceLE,Int.reduceNe,Int.reduceEq,Nat.reduceEqDiff,Nat.reduceLT,Nat.reduceBEq,List.map_cons,List.map_nil,List.toList_toArray,Array.toList_append,Option.toArray_some,Option.toArray_none,Bool.and_self,ty,fgL,fgH,AV.fg,Blk.fg,Nat.reduceBEq,cond_true,cond_false,beq_self_eq_true,Bool.true_and,List.drop_zero,List.take_zero,fg_ws,setSlot,dle,htk,Nat.zero_add]
 · exact hp.elim
theorem rclose35_sound : zbi Try.prog 12 rcloseS35 := by
 refine zeh (S := Scl35) (T := ty) zbt ty_ok Scl35_ok Try.func12 (c := Try.f12.body.getD .skip) (by kernel_rfl) (by kernel_rfl) (fun xs pins hp _ => ?_)
 unfold rcloseS35 at hp ⊢
 split at hp
 · rename_i Z L M D xs f _
   obtain ⟨hL,l,rfl⟩ := hp
   rw [List.length_map] at hL
   rw [zai]
   have hle : (l.map wsA).length = l.length := by simp
   have hcl := zag l
   have hex : ∃ p : List WS,l.map wsA = p.map wsA := ⟨l,rfl⟩
   have hL6 : l.length ≤ 9223372036854775807 := by omega
   have hc : ∀ f,coe ty 29 (.sg 6 (l.map wsA) f) = .sg 6 (l.map wsA) f := fun f => by cases l <;> rfl
   refine ⟨by simp,?_⟩
   unfold Try.f12 closeV
   by_cases hch : chW Z L M D l = 0
   · have d0 : decide (chW Z L M D l = 0) = true := decide_eq_true hch
     rw [if_pos hch]
     simp only [go_sem,zad,Nat.reduceAdd,Nat.reduceSub,Nat.reduceMul,Int.reduceToNat,reduceCtorEq,↓reduceIte,Int.reducePow,Nat.reducePow,Int.reduceMod,Nat.reduceLeDiff,Int.reduceLE,Int.reduceNe,Int.reduceEq,Nat.reduceEqDiff,Nat.reduceLT,Nat.reduceBEq,ty,Scl35,zbu,hle,hL,hL6,hex,hc,zai,hch,d0,decide_true,Bool.not_true,Bool.not_false]
     refine ⟨_,(weak_nilB 12 5 4 6 [.w (.int .i64 Z),.w (.int .i64 L),.w (.int .i64 M),.w (.int .i64 D),.sg 1 [] true] rfl (by simp) (by exact trivial) (by decide)).trans ((weak_fgC 124 6 2 12 [] _ rfl rfl rfl (by simp [slot,fgL,AV.fg,AV.ids]) (by simp [Blk.idsB,Blk.closed,closedL,AV.closed,idsL,AV.ids,setSlot])).trans (zas 3 (.sg 6 (l.map wsA) false) ?_)),?_⟩
     · intro w loc v h
       simp only [fgL,fgH,AV.fg,Blk.fg,Nat.reduceBEq,cond_true,cond_false,beq_self_eq_true,Bool.true_and,List.drop_zero,List.take_zero,fg_ws,slot] at h
       exact sg_offW h
     simp only [go_sem,zad,Nat.reduceAdd,Nat.reduceSub,Nat.reduceMul,Int.reduceToNat,reduceCtorEq,↓reduceIte,Int.reducePow,Nat.reducePow,Int.reduceMod,Nat.reduceLeDiff,Int.reduceLE,Int.reduceNe,Int.reduceEq,Nat.reduceEqDiff,Nat.reduceLT,Nat.reduceBEq,ty,fgL,fgH,AV.fg,Blk.fg,Nat.reduceBEq,cond_true,cond_false,beq_self_eq_true,Bool.true_and,List.drop_zero,List.take_zero,fg_ws,setSlot,hcl]
   · have d0 : decide (chW Z L M D l = 0) = false := decide_eq_false hch
     rw [if_neg hch]
     simp only [go_sem,zad,Nat.reduceAdd,Nat.reduceSub,Nat.reduceMul,Int.reduceToNat,reduceCtorEq,↓reduceIte,Int.reducePow,Nat.reducePow,Int.reduceMod,Nat.reduceLeDiff,Int.reduceLE,Int.reduceNe,Int.reduceEq,Nat.reduceEqDiff,Nat.reduceLT,Nat.reduceBEq,ty,Scl35,zbu,hle,hL,hL6,hex,hc,zai,d0,Bool.not_true,Bool.not_false]
     refine ⟨_,zas 3 (.sg 6 [] false) (fun w loc v h => zbd 6 h),?_⟩
     simp only [go_sem,zad,Nat.reduceAdd,Nat.reduceSub,Nat.reduceMul,Int.reduceToNat,reduceCtorEq,↓reduceIte,Int.reducePow,Nat.reducePow,Int.reduceMod,Nat.reduceLeDiff,Int.reduceLE,Int.reduceNe,Int.reduceEq,Nat.reduceEqDiff,Nat.reduceLT,Nat.reduceBEq,ty,setSlot,hcl]
 · exact hp.elim
theorem new35_sound : zbi Try.prog 13 newS35 := by
 refine zeh (S := Scl35) (T := ty) zbt ty_ok Scl35_ok Try.func13 (c := Try.f13.body.getD .skip) (by kernel_rfl) (by kernel_rfl) (fun xs pins hp _ => ?_)
 unfold newS35 at hp ⊢
 split at hp
 · rename_i Z L _
   have hex0 : ∃ p : List WS,([] : List AV) = p.map wsA := ⟨[],rfl⟩
   refine ⟨by simp,?_⟩
   unfold Try.f13 newV
   by_cases hch : chW Z L (-1) 0 [] = 0
   · have d0 : decide (chW Z L (-1) 0 [] = 0) = true := decide_eq_true hch
     rw [if_pos hch]
     simp only [go_sem,zad,Nat.reduceAdd,Nat.reduceSub,Nat.reduceMul,Int.reduceToNat,reduceCtorEq,↓reduceIte,Int.reducePow,Nat.reducePow,Int.reduceMod,Nat.reduceLeDiff,Int.reduceLE,Int.reduceNe,Int.reduceEq,Nat.reduceEqDiff,Nat.reduceLT,Nat.reduceBEq,ty,Scl35,zbu,coeNW,hex0,hch,d0,decide_true,List.map_nil,List.length_nil,Bool.not_true,Bool.not_false]
     try (refine ⟨_,Weak.refl _,?_⟩)
     try simp only [go_sem,zad,Nat.reduceAdd,Nat.reduceSub,Nat.reduceMul,Int.reduceToNat,reduceCtorEq,↓reduceIte,Int.reducePow,Nat.reducePow,Int.reduceMod,Nat.reduceLeDiff,Int.reduceLE,Int.reduceNe,Int.reduceEq,Nat.reduceEqDiff,Nat.reduceLT,Nat.reduceBEq,ty]
   · have d0 : decide (chW Z L (-1) 0 [] = 0) = false := decide_eq_false hch
     rw [if_neg hch]
     simp only [go_sem,zad,Nat.reduceAdd,Nat.reduceSub,Nat.reduceMul,Int.reduceToNat,reduceCtorEq,↓reduceIte,Int.reducePow,Nat.reducePow,Int.reduceMod,Nat.reduceLeDiff,Int.reduceLE,Int.reduceNe,Int.reduceEq,Nat.reduceEqDiff,Nat.reduceLT,Nat.reduceBEq,ty,Scl35,zbu,coeNW,hex0,d0,List.map_nil,List.length_nil,Bool.not_true,Bool.not_false]
     try (refine ⟨_,Weak.refl _,?_⟩)
     try simp only [go_sem,zad,Nat.reduceAdd,Nat.reduceSub,Nat.reduceMul,Int.reduceToNat,reduceCtorEq,↓reduceIte,Int.reducePow,Nat.reducePow,Int.reduceMod,Nat.reduceLeDiff,Int.reduceLE,Int.reduceNe,Int.reduceEq,Nat.reduceEqDiff,Nat.reduceLT,Nat.reduceBEq,ty,zW]
 · exact hp.elim
theorem rnew35_sound : zbi Try.prog 14 newS35 := by
 refine zeh (S := Scl35) (T := ty) zbt ty_ok Scl35_ok Try.func14 (c := Try.f14.body.getD .skip) (by kernel_rfl) (by kernel_rfl) (fun xs pins hp _ => ?_)
 unfold newS35 at hp ⊢
 split at hp
 · rename_i Z L _
   have hex0 : ∃ p : List WS,([] : List AV) = p.map wsA := ⟨[],rfl⟩
   refine ⟨by simp,?_⟩
   unfold Try.f14 newV
   by_cases hch : chW Z L (-1) 0 [] = 0
   · have d0 : decide (chW Z L (-1) 0 [] = 0) = true := decide_eq_true hch
     rw [if_pos hch]
     simp only [go_sem,zad,Nat.reduceAdd,Nat.reduceSub,Nat.reduceMul,Int.reduceToNat,reduceCtorEq,↓reduceIte,Int.reducePow,Nat.reducePow,Int.reduceMod,Nat.reduceLeDiff,Int.reduceLE,Int.reduceNe,Int.reduceEq,Nat.reduceEqDiff,Nat.reduceLT,Nat.reduceBEq,ty,Scl35,zbu,coeNW,hex0,hch,d0,decide_true,List.map_nil,List.length_nil,Bool.not_true,Bool.not_false]
     try (refine ⟨_,Weak.refl _,?_⟩)
     try simp only [go_sem,zad,Nat.reduceAdd,Nat.reduceSub,Nat.reduceMul,Int.reduceToNat,reduceCtorEq,↓reduceIte,Int.reducePow,Nat.reducePow,Int.reduceMod,Nat.reduceLeDiff,Int.reduceLE,Int.reduceNe,Int.reduceEq,Nat.reduceEqDiff,Nat.reduceLT,Nat.reduceBEq,ty]
   · have d0 : decide (chW Z L (-1) 0 [] = 0) = false := decide_eq_false hch
     rw [if_neg hch]
     simp only [go_sem,zad,Nat.reduceAdd,Nat.reduceSub,Nat.reduceMul,Int.reduceToNat,reduceCtorEq,↓reduceIte,Int.reducePow,Nat.reducePow,Int.reduceMod,Nat.reduceLeDiff,Int.reduceLE,Int.reduceNe,Int.reduceEq,Nat.reduceEqDiff,Nat.reduceLT,Nat.reduceBEq,ty,Scl35,zbu,coeNW,hex0,d0,List.map_nil,List.length_nil,Bool.not_true,Bool.not_false]
     try (refine ⟨_,Weak.refl _,?_⟩)
     try simp only [go_sem,zad,Nat.reduceAdd,Nat.reduceSub,Nat.reduceMul,Int.reduceToNat,reduceCtorEq,↓reduceIte,Int.reducePow,Nat.reducePow,Int.reduceMod,Nat.reduceLeDiff,Int.reduceLE,Int.reduceNe,Int.reduceEq,Nat.reduceEqDiff,Nat.reduceLT,Nat.reduceBEq,ty,zW]
 · exact hp.elim
theorem rlate35_sound : zbi Try.prog 32 zcu := by
 refine zcx (S := noS) (T := ty) zbt ty_ok zdj Try.func32 (c := Try.f32.body.getD .skip) (by kernel_rfl) (by kernel_rfl) (fun xs pins hp _ => ?_)
 unfold zcu at hp ⊢
 split at hp
 · rename_i Z L M D xs f s m _
   obtain ⟨⟨h1,h2⟩,⟨h3,h4⟩,h5,h6⟩ := hp
   have w1 : (s + Z + 9223372036854775808) % 18446744073709551616 - 9223372036854775808 = s + Z := by omega
   have w2 : (s + Z + L + 9223372036854775808) % 18446744073709551616 - 9223372036854775808 = s + Z + L := by omega
   refine ⟨by simp,?_⟩
   unfold Try.f32 ltW
   simp only [go_sem,zad,Nat.reduceAdd,Nat.reduceSub,Nat.reduceMul,Int.reduceToNat,reduceCtorEq,↓reduceIte,Int.reducePow,Nat.reducePow,Int.reduceMod,Nat.reduceLeDiff,Int.reduceLE,Int.reduceNe,Int.reduceEq,Nat.reduceEqDiff,Nat.reduceLT,Nat.reduceBEq,ty,noS,w1,w2]
 · exact hp.elim
theorem with35_sound : zbi Try.prog 52 withS35 := by
 refine zeh (S := noS) (T := ty) zbt ty_ok zdj Try.func52 (c := Try.f52.body.getD .skip) (by kernel_rfl) (by kernel_rfl) (fun xs pins hp _ => ?_)
 unfold withS35 at hp ⊢
 split at hp
 · rename_i s k c t a b n _
   obtain ⟨⟨h1,h2⟩,⟨h3,h4⟩,h5,h6⟩ := hp
   have w1 : (c + 1 + 9223372036854775808) % 18446744073709551616 - 9223372036854775808 = c + 1 := by omega
   have w2 : (t + n + 9223372036854775808) % 18446744073709551616 - 9223372036854775808 = t + n := by omega
   refine ⟨by simp,?_⟩
   unfold Try.f52
   simp only [go_sem,zad,Nat.reduceAdd,Nat.reduceSub,Nat.reduceMul,Int.reduceToNat,reduceCtorEq,↓reduceIte,Int.reducePow,Nat.reducePow,Int.reduceMod,Nat.reduceLeDiff,Int.reduceLE,Int.reduceNe,Int.reduceEq,Nat.reduceEqDiff,Nat.reduceLT,Nat.reduceBEq,ty,noS,w1,w2]
   try (refine ⟨_,Weak.refl _,?_⟩)
   try simp only [go_sem,zad,Nat.reduceAdd,Nat.reduceSub,Nat.reduceMul,Int.reduceToNat,reduceCtorEq,↓reduceIte,Int.reducePow,Nat.reducePow,Int.reduceMod,Nat.reduceLeDiff,Int.reduceLE,Int.reduceNe,Int.reduceEq,Nat.reduceEqDiff,Nat.reduceLT,Nat.reduceBEq,ty,wsA,wthW]
 · exact hp.elim
end
end Go.Proofs.Ytlpjdgkpapjldaa
namespace Go.Proofs.Ytlpjdgkpapjldaa
open Ax
def rthW (s : Int) (k : List UInt8) (l : List WS) : Bool := decide (plW s k l < l.length) && eqW s k (rowW s k l)
def putF (s : Int) (k : List UInt8) (n : Int) (l : List WS) : List WS × Int :=
 if rthW s k l = true then (if 1048576 ≤ (rowW s k l).c then (l,9) else (l.set (plW s k l) (wthW (rowW s k l) n),0))
 else if 256 ≤ l.length then (l,9) else (insW s k n l,0)
theorem rth_eq {s : Int} {k : List UInt8} {l : List WS} (hr : risW l = true) : rthW s k l = thW s k l := by
 unfold rthW
 cases h : thW s k l with
 | true =>
   have hlt := th_lt hr h
   have h1 := eq_pl s k l hr h
   have h2 : l.findIdx (eqW s k) < l.length := by rw [h1]; exact hlt
   have h3 := List.findIdx_getElem (w := h2)
   rw [decide_eq_true hlt,Bool.true_and,row_eq hlt]
   simp only [h1] at h3
   exact h3
 | false =>
   by_cases hlt : plW s k l < l.length
   · rw [decide_eq_true hlt,Bool.true_and,row_eq hlt]
     cases h2 : eqW s k l[plW s k l] with
     | false => rfl
     | true =>
       have := List.any_eq_true.2 ⟨_,List.getElem_mem hlt,h2⟩
       unfold thW at h
       rw [this] at h; cases h
   · rw [decide_eq_false hlt,Bool.false_and]
theorem findW_split (p : WS → Bool) (l : List WS) (i : Nat) (hi : i < l.length) (hno : ∀ x ∈ l.take i,p x = false) (hp : p l[i] = true) : l.findIdx p = i := by
 have h : l.findIdx p ≤ i := by
   have := List.findIdx_le_length (p := p) (xs := l)
   rcases Nat.lt_or_ge i (l.findIdx p) with h | h
   · have := List.not_of_lt_findIdx h
     rw [hp] at this; cases this
   · exact h
 rcases Nat.lt_or_ge (l.findIdx p) i with h1 | h1
 · have h2 : p l[l.findIdx p] = true := List.findIdx_getElem
   have h3 := hno l[l.findIdx p] (List.mem_take_iff_getElem.2 ⟨_,by omega,rfl⟩)
   rw [h2] at h3; cases h3
 · omega
theorem slot_fgRW (id s : Nat) (zs : List AV) : ∀ (sl : List AV) (i : Nat),slot (fgL id s zs sl) i = (slot sl i).fg id s zs
 | [],i => rfl
 | x :: sl,0 => rfl
 | x :: sl,i + 1 => slot_fgRW id s zs sl i
theorem g2_endsW {T : zac} {sl : List AV} {H : Heap} {nx id n s : Nat} {ws rs : List AV} {v : Value} {q : Prop} (i j : Nat) (h2 : slot sl i = .ms id s 0 n) (h3 : slot sl j = .w v) (hl : Ax.look H id = some (.g s ws)) (hc : closedL ws = true) (hn : n = ws.length) (hr : rs = ws) :
   EndsW T [.tmp i,.tmp j] [] ⟨q,.tup [.sg s rs false,.w v],[]⟩ .ret ⟨sl,H,nx⟩ := by
 subst hn hr
 have hs : slot (fgL id s rs sl) i = .sg s rs false := by
   rw [slot_fgRW,h2]
   simp [AV.fg]
 have hs3 : slot (fgL id s rs sl) j = .w v := by
   rw [slot_fgRW,h3]
   rfl
 refine ⟨_,weak_fg id s i rs hl hc (by rw [h2]; simp [AV.ids]),?_⟩
 simp only [Ax.Ends,Ax.rvals,EndsX,rone,hs,hs3,AV.ids,idsL,newIds,upTo,nodup,pinsOf,List.nil_append,AV.ren,renL,and_self]
theorem s2_endsW {T : zac} {sl : List AV} {H : Heap} {nx s : Nat} {ws rs : List AV} {v : Value} {q : Prop} {f : Bool} (i j : Nat) (h2 : slot sl i = .sg s ws f) (h3 : slot sl j = .w v) (hij : slot (setSlot sl i (.sg s ws false)) i = .sg s ws false ∧ slot (setSlot sl i (.sg s ws false)) j = .w v) (hc : closedL ws = true) (hr : rs = ws) :
   EndsW T [.tmp i,.tmp j] [] ⟨q,.tup [.sg s rs false,.w v],[]⟩ .ret ⟨sl,H,nx⟩ := by
 subst hr
 refine ⟨_,zas i (.sg s rs false) (fun w loc v h => by rw [h2] at h; exact sg_offW h),?_⟩
 simp only [Ax.Ends,Ax.rvals,EndsX,rone,hij.1,hij.2,AV.ids,hc,cond_true,idsL,newIds,upTo,nodup,pinsOf,List.nil_append,AV.ren,renL,and_self]
def rputS35 : zar
 | [.sg 6 xs f,.w (.int .i64 s),.str k,.w (.int .i64 n)],[] => ⟨xs.length ≤ 999999 ∧ smlW n ∧ ∃ l : List WS,xs = l.map wsA ∧ ∀ r ∈ l,smlW r.c ∧ smlW r.t,.tup [.sg 6 ((putF s k n (xs.map uws)).1.map wsA) false,.w (.int .i64 (putF s k n (xs.map uws)).2)],[]⟩
 | _,_ => zcd
def zdc (f : FuncId) : Option zar :=
 match f with
 | 40 => some raheadS
 | 52 => some withS35
 | _ => none
theorem Srput35_ok : Fns Try.prog zdc := by
 intro f s h
 unfold zdc at h
 split at h
 · injection h with h; subst h; exact ⟨⟨_,Try.func40,by kernel_rfl,by kernel_rfl⟩,rahead_sound⟩
 · injection h with h; subst h; exact ⟨⟨_,Try.func52,by kernel_rfl,by kernel_rfl⟩,with35_sound⟩
 · cases h
def zcn : Plan := fun id => match id with
 | 8 => some [(4,7),(4,8),(4,16),(10,16),(12,16)]
 | 11 => some [(4,11),(4,15),(12,15)]
 | _ => none
section
set_option maxRecDepth 100000
set_option maxHeartbeats 16000000 in
theorem rput35_sound : zbi Try.prog 33 rputS35 := by
 refine zfs (S := zdc) (T := ty) (pl := zcn) zbt ty_ok Srput35_ok Try.func33 (c := Try.f33.body.getD .skip) (by kernel_rfl) (by kernel_rfl) (fun xs pins hp _ => ?_)
 unfold rputS35 at hp ⊢
 split at hp
 · rename_i xs f s k n _
   obtain ⟨hL,hN,l,rfl,hsm⟩ := hp
   rw [List.length_map] at hL
   rw [zai]
   have hle : (l.map wsA).length = l.length := by simp
   have hc : coe ty 22 (.sg 6 (l.map wsA) f) = .sg 6 (l.map wsA) f := by cases l <;> rfl
   have ht : top = 4294967296 := rfl
   have htk1 := fun n => (List.map_take (f := wsA) (l := l) (i := n)).symm
   have hdr := fun n => (List.map_drop (f := wsA) (l := l) (i := n)).symm
   refine ⟨by simp,?_⟩
   unfold Try.f33
   simp only [go_sem,zab,Nat.reduceAdd,Nat.reduceSub,Nat.reduceMul,Int.reduceToNat,reduceCtorEq,↓reduceIte,Int.reducePow,Nat.reducePow,Int.reduceMod,Nat.reduceLeDiff,Int.reduceLE,Int.reduceNe,Int.reduceEq,Nat.reduceEqDiff,Nat.reduceLT,Nat.reduceBEq,List.map_cons,List.map_nil,List.toList_toArray,Array.toList_append,Option.toArray_some,Option.toArray_none,Bool.and_self,ty,zdc,zcn,hle]
   refine zdx ⟨fun m σ => ∃ j : Nat,m = l.length - j ∧ j ≤ l.length ∧ (∀ x ∈ l.take j,naW s k x = false) ∧
       σ = ⟨[.sg 6 (l.map wsA) f,.w (.int .i64 s),.str k,.w (.int .i64 n),.junk,.junk,.junk,.junk,.sg 1 [] true,.w (.int .i64 0),.w (.int .i64 j),.junk,.junk,.junk,.junk,.junk,.junk,.junk,.junk,.junk,.junk,.junk,.junk,.junk,.junk,.junk,.junk,.junk,.junk,.junk,.junk,.junk,.junk,.junk,.junk,.junk,.junk,.junk,.junk,.junk,.junk,.junk,.junk,.junk,.junk,.junk,.junk,.junk,.junk,.junk,.junk,.junk,.junk,.junk,.junk,.junk,.junk,.junk,.junk,.junk,.junk,.junk,.junk,.junk,.junk,.junk,.junk,.junk,.junk,.junk,.junk,.junk,.junk,.junk,.junk,.junk,.junk,.junk,.junk,.junk,.junk,.junk,.junk,.junk,.junk,.junk,.junk,.junk,.junk,.junk,.junk,.junk,.junk,.junk,.junk,.junk],[],4⟩,?_,?_⟩
   · refine ⟨_,_,zao [0,1,2,3] rfl rfl rfl ?_ ?_,0,rfl,by omega,by simp,rfl⟩
     · simp only [ssT,zax,zay,setSlot,gOf,AV.ren,renL,Blk.ren,Ax.look,Ax.put,reduceCtorEq,↓reduceIte,Nat.reduceEqDiff,Nat.reduceLT,Nat.reduceAdd,List.length_append,List.length_cons,List.length_nil,Option.some.injEq]; try simp
     · simp only [ssT,zax,zay,setSlot,gOf,AV.ren,renL,Blk.ren,Ax.look,Ax.put,reduceCtorEq,↓reduceIte,Nat.reduceEqDiff,Nat.reduceLT,Nat.reduceAdd,List.length_append,List.length_cons,List.length_nil,Option.some.injEq]; try simp
   · rintro m σ ⟨j,rfl,hj,hno,rfl⟩
     have e1 : ((j : Int) + 1 + 9223372036854775808) % 18446744073709551616 - 9223372036854775808 = ((j + 1 : Nat) : Int) := by omega
     have hl1 : (l.take j).length = j := by rw [List.length_take]; omega
     have hl2 : (l.drop j).length = l.length - j := List.length_drop
     have hl3 : (l.drop (j + 1)).length = l.length - (j + 1) := List.length_drop
     have htd : List.take (l.length - j) ((l.drop j).map wsA) = (l.drop j).map wsA := List.take_of_length_le (by rw [List.length_map,hl2]; omega)
     have htd3 : List.take (l.length - (j + 1)) ((l.drop (j + 1)).map wsA) = (l.drop (j + 1)).map wsA := List.take_of_length_le (by rw [List.length_map,hl3]; omega)
     have hap1 : ∀ r : WS,(l.take j).map wsA ++ [.agg [.w (.int .i64 r.s),.str r.k,.w (.int .i64 r.c),.w (.int .i64 r.t),.w (.int .i64 r.a),.w (.int .i64 r.b)]] = (l.take j ++ [r]).map wsA := fun r => by rw [List.map_append]; rfl
     have hapI : (l.take j).map wsA ++ [.agg [.w (.int .i64 s),.str k,.w (.int .i64 1),.w (.int .i64 n),.w (.int .i64 n),.w (.int .i64 n)]] = (l.take j ++ [(⟨s,k,1,n,n,n⟩ : WS)]).map wsA := hap1 ⟨s,k,1,n,n,n⟩
     by_cases hjl : j < l.length
     · have d1 : decide ((j : Int) < l.length) = true := decide_eq_true (by omega)
       have hs1 := zbq l j hjl
       have hmem := hsm l[j] (List.getElem_mem hjl)
       obtain ⟨r,hr⟩ : ∃ r,l[j] = r := ⟨_,rfl⟩
       rw [hr] at hs1 hmem
       obtain ⟨s1,k1,c1,t1,a1,b1⟩ := r
       have hs1 : slot (l.map wsA) j = .agg [.w (.int .i64 s1),.str k1,.w (.int .i64 c1),.w (.int .i64 t1),.w (.int .i64 a1),.w (.int .i64 b1)] := hs1
       obtain ⟨m1,m2⟩ := hmem
       simp only at m1 m2
       have hna : naW s k ⟨s1,k1,c1,t1,a1,b1⟩ = !ahB s1 k1 s k := rfl
       cases hv : ahB s1 k1 s k with
       | true =>
         simp only [go_sem,zab,Nat.reduceAdd,Nat.reduceSub,Nat.reduceMul,Int.reduceToNat,reduceCtorEq,↓reduceIte,Int.reducePow,Nat.reducePow,Int.reduceMod,Nat.reduceLeDiff,Int.reduceLE,Int.reduceNe,Int.reduceEq,Nat.reduceEqDiff,Nat.reduceLT,Nat.reduceBEq,List.map_cons,List.map_nil,List.toList_toArray,Array.toList_append,Option.toArray_some,Option.toArray_none,Bool.and_self,ty,zdc,zcn,raheadS,hle,d1,e1,hs1,hv,Int.toNat_natCast]
         repeat (refine And.intro (by omega) ?_)
         refine ⟨l.length - (j + 1),_,by omega,zao [0,1,2,3] rfl rfl rfl ?_ ?_,j + 1,rfl,by omega,?_,rfl⟩
         · simp only [ssT,zax,zay,setSlot,gOf,AV.ren,renL,Blk.ren,Ax.look,Ax.put,reduceCtorEq,↓reduceIte,Nat.reduceEqDiff,Nat.reduceLT,Nat.reduceAdd,List.length_append,List.length_cons,List.length_nil,Option.some.injEq]; try simp
         · simp only [ssT,zax,zay,setSlot,gOf,AV.ren,renL,Blk.ren,Ax.look,Ax.put,reduceCtorEq,↓reduceIte,Nat.reduceEqDiff,Nat.reduceLT,Nat.reduceAdd,List.length_append,List.length_cons,List.length_nil,Option.some.injEq]; try simp
         · intro x hx
           rw [List.take_succ_eq_append_getElem hjl] at hx
           rcases List.mem_append.1 hx with h | h
           · exact hno x h
           · obtain rfl := List.mem_singleton.1 h
             rw [hr,hna,hv]; rfl
       | false =>
         have hPL : plW s k l = j := findW_split _ l j hjl hno (by rw [hr,hna,hv]; rfl)
         have hrow : rowW s k l = ⟨s1,k1,c1,t1,a1,b1⟩ := by rw [row_eq (by omega)]; simp only [hPL]; exact hr
         have hrth : rthW s k l = decide (s1 = s ∧ k1 = k) := by unfold rthW; rw [hPL,hrow,decide_eq_true hjl,Bool.true_and]; rfl
         have hapN : (l.take j ++ [(⟨s,k,1,n,n,n⟩ : WS)]).map wsA ++ (l.drop j).map wsA = (insW s k n l).map wsA := by
           unfold insW; rw [hPL,← List.map_append,List.append_assoc]; rfl
         have hin : (insW s k n l).length = l.length + 1 := by unfold insW; rw [hPL]; simp only [List.length_append,List.length_cons,hl1,hl2]; omega
         unfold putF
         rw [hrth,hrow,hPL]
         simp only [go_sem,zab,Nat.reduceAdd,Nat.reduceSub,Nat.reduceMul,Int.reduceToNat,reduceCtorEq,↓reduceIte,Int.reducePow,Nat.reducePow,Int.reduceMod,Nat.reduceLeDiff,Int.reduceLE,Int.reduceNe,Int.reduceEq,Nat.reduceEqDiff,Nat.reduceLT,Nat.reduceBEq,List.map_cons,List.map_nil,List.toList_toArray,Array.toList_append,Option.toArray_some,Option.toArray_none,Bool.and_self,ty,zdc,zcn,raheadS,hle,d1,e1,hs1,hv,Int.toNat_natCast]
         repeat (refine And.intro (by omega) ?_)
         refine ⟨_,Weak.refl _,?_⟩
         by_cases hs : s1 = s
         · have ds : decide (s1 = s) = true := decide_eq_true hs
           by_cases hk : k1 = k
           · have dk : decide (k1 = k) = true := decide_eq_true hk
             rw [decide_eq_true (show s1 = s ∧ k1 = k from ⟨hs,hk⟩),if_pos rfl]
             by_cases hf : 1048576 ≤ c1
             · have df : decide ((1048576 : Int) ≤ c1) = true := decide_eq_true hf
               rw [if_pos hf]
               simp only [go_sem,zab,Nat.reduceAdd,Nat.reduceSub,Nat.reduceMul,Int.reduceToNat,reduceCtorEq,↓reduceIte,Int.reducePow,Nat.reducePow,Int.reduceMod,Nat.reduceLeDiff,Int.reduceLE,Int.reduceNe,Int.reduceEq,Nat.reduceEqDiff,Nat.reduceLT,Nat.reduceBEq,List.map_cons,List.map_nil,List.toList_toArray,Array.toList_append,Option.toArray_some,Option.toArray_none,Bool.and_self,ty,zdc,zcn,hle,d1,hs1,ds,dk,df,Int.toNat_natCast]
               repeat (refine And.intro (by omega) ?_)
               exact s2_endsW 8 9 rfl rfl ⟨rfl,rfl⟩ (zag _) rfl
             · have df : decide ((1048576 : Int) ≤ c1) = false := decide_eq_false hf
               rw [if_neg hf]
               have hapS : (l.take j ++ [wthW ⟨s1,k1,c1,t1,a1,b1⟩ n]).map wsA ++ (l.drop (j + 1)).map wsA = (l.set j (wthW ⟨s1,k1,c1,t1,a1,b1⟩ n)).map wsA := by
                 rw [List.set_eq_take_append_cons_drop,if_pos hjl,← List.map_append,List.append_assoc]; rfl
               have hapW := hap1 (wthW ⟨s1,k1,c1,t1,a1,b1⟩ n)
               simp only [wthW] at hapW
               obtain ⟨W,hW⟩ : ∃ W,wthW ⟨s1,k1,c1,t1,a1,b1⟩ n = W := ⟨_,rfl⟩
               have hW2 := hW
               simp only [wthW] at hW2
               rw [hW2] at hapW
               rw [hW] at hapS ⊢
               have hst : (l.set j W).length = l.length := List.length_set
               simp only [go_sem,zab,Nat.reduceAdd,Nat.reduceSub,Nat.reduceMul,Int.reduceToNat,reduceCtorEq,↓reduceIte,Int.reducePow,Nat.reducePow,Int.reduceMod,Nat.reduceLeDiff,Int.reduceLE,Int.reduceNe,Int.reduceEq,Nat.reduceEqDiff,Nat.reduceLT,Nat.reduceBEq,List.map_cons,List.map_nil,List.toList_toArray,Array.toList_append,Option.toArray_some,Option.toArray_none,Bool.and_self,ty,zdc,zcn,withS35,wsA,wthW,hle,hc,d1,e1,hs1,ds,dk,df,m1,m2,hN,htk1,hdr,Nat.sub_zero,List.drop_zero,htd3,zdk,List.length_map,hl1,hl3,List.length_append,List.length_cons,List.length_nil,hapW,hapS,zag,Int.toNat_natCast]
               repeat (refine And.intro (by omega) ?_)
               exact g2_endsW 8 9 rfl rfl rfl (zag _) (by rw [List.length_map,hst]; omega) rfl
           · have dk : decide (k1 = k) = false := decide_eq_false hk
             rw [decide_eq_false (show ¬ (s1 = s ∧ k1 = k) from fun h => hk h.2),if_neg (by simp)]
             by_cases hf : 256 ≤ l.length
             · have df : decide ((256 : Int) ≤ l.length) = true := decide_eq_true (by omega)
               rw [if_pos hf]
               simp only [go_sem,zab,Nat.reduceAdd,Nat.reduceSub,Nat.reduceMul,Int.reduceToNat,reduceCtorEq,↓reduceIte,Int.reducePow,Nat.reducePow,Int.reduceMod,Nat.reduceLeDiff,Int.reduceLE,Int.reduceNe,Int.reduceEq,Nat.reduceEqDiff,Nat.reduceLT,Nat.reduceBEq,List.map_cons,List.map_nil,List.toList_toArray,Array.toList_append,Option.toArray_some,Option.toArray_none,Bool.and_self,ty,zdc,zcn,hle,d1,hs1,ds,dk,df,Int.toNat_natCast]
               repeat (refine And.intro (by omega) ?_)
               exact s2_endsW 8 9 rfl rfl ⟨rfl,rfl⟩ (zag _) rfl
             · have df : decide ((256 : Int) ≤ l.length) = false := decide_eq_false (by omega)
               rw [if_neg hf]
               simp only [go_sem,zab,Nat.reduceAdd,Nat.reduceSub,Nat.reduceMul,Int.reduceToNat,reduceCtorEq,↓reduceIte,Int.reducePow,Nat.reducePow,Int.reduceMod,Nat.reduceLeDiff,Int.reduceLE,Int.reduceNe,Int.reduceEq,Nat.reduceEqDiff,Nat.reduceLT,Nat.reduceBEq,List.map_cons,List.map_nil,List.toList_toArray,Array.toList_append,Option.toArray_some,Option.toArray_none,Bool.and_self,ty,zdc,zcn,hle,hc,d1,e1,hs1,ds,dk,df,htk1,hdr,Nat.sub_zero,List.drop_zero,htd,zdk,List.length_map,hl1,hl2,List.length_append,List.length_cons,List.length_nil,hapI,hapN,zag,Int.toNat_natCast]
               repeat (refine And.intro (by omega) ?_)
               exact g2_endsW 8 9 rfl rfl rfl (zag _) (by rw [List.length_map,hin]; omega) rfl
         · have ds : decide (s1 = s) = false := decide_eq_false hs
           rw [decide_eq_false (show ¬ (s1 = s ∧ k1 = k) from fun h => hs h.1),if_neg (by simp)]
           by_cases hf : 256 ≤ l.length
           · have df : decide ((256 : Int) ≤ l.length) = true := decide_eq_true (by omega)
             rw [if_pos hf]
             simp only [go_sem,zab,Nat.reduceAdd,Nat.reduceSub,Nat.reduceMul,Int.reduceToNat,reduceCtorEq,↓reduceIte,Int.reducePow,Nat.reducePow,Int.reduceMod,Nat.reduceLeDiff,Int.reduceLE,Int.reduceNe,Int.reduceEq,Nat.reduceEqDiff,Nat.reduceLT,Nat.reduceBEq,List.map_cons,List.map_nil,List.toList_toArray,Array.toList_append,Option.toArray_some,Option.toArray_none,Bool.and_self,ty,zdc,zcn,hle,d1,hs1,ds,df,Int.toNat_natCast]
             repeat (refine And.intro (by omega) ?_)
             exact s2_endsW 8 9 rfl rfl ⟨rfl,rfl⟩ (zag _) rfl
           · have df : decide ((256 : Int) ≤ l.length) = false := decide_eq_false (by omega)
             rw [if_neg hf]
             simp only [go_sem,zab,Nat.reduceAdd,Nat.reduceSub,Nat.reduceMul,Int.reduceToNat,reduceCtorEq,↓reduceIte,Int.reducePow,Nat.reducePow,Int.reduceMod,Nat.reduceLeDiff,Int.reduceLE,Int.reduceNe,Int.reduceEq,Nat.reduceEqDiff,Nat.reduceLT,Nat.reduceBEq,List.map_cons,List.map_nil,List.toList_toArray,Array.toList_append,Option.toArray_some,Option.toArray_none,Bool.and_self,ty,zdc,zcn,hle,hc,d1,e1,hs1,ds,df,htk1,hdr,Nat.sub_zero,List.drop_zero,htd,zdk,List.length_map,hl1,hl2,List.length_append,List.length_cons,List.length_nil,hapI,hapN,zag,Int.toNat_natCast]
             repeat (refine And.intro (by omega) ?_)
             exact g2_endsW 8 9 rfl rfl rfl (zag _) (by rw [List.length_map,hin]; omega) rfl
     · have d1 : decide ((j : Int) < l.length) = false := decide_eq_false (by omega)
       obtain rfl : j = l.length := by omega
       have hPL : plW s k l = l.length := List.findIdx_eq_length.2 (by rw [List.take_length] at hno; exact hno)
       have hrth : rthW s k l = false := by unfold rthW; rw [hPL,decide_eq_false (by omega),Bool.false_and]
       have hapN : (l.take l.length ++ [(⟨s,k,1,n,n,n⟩ : WS)]).map wsA ++ (l.drop l.length).map wsA = (insW s k n l).map wsA := by
         unfold insW; rw [hPL,← List.map_append,List.append_assoc]; rfl
       have hin : (insW s k n l).length = l.length + 1 := by unfold insW; rw [hPL]; simp only [List.length_append,List.length_cons,hl1,hl2]; omega
       unfold putF
       rw [hrth,if_neg (by simp)]
       simp only [go_sem,zab,Nat.reduceAdd,Nat.reduceSub,Nat.reduceMul,Int.reduceToNat,reduceCtorEq,↓reduceIte,Int.reducePow,Nat.reducePow,Int.reduceMod,Nat.reduceLeDiff,Int.reduceLE,Int.reduceNe,Int.reduceEq,Nat.reduceEqDiff,Nat.reduceLT,Nat.reduceBEq,List.map_cons,List.map_nil,List.toList_toArray,Array.toList_append,Option.toArray_some,Option.toArray_none,Bool.and_self,ty,zdc,zcn,raheadS,hle,d1,e1,Int.toNat_natCast]
       refine ⟨_,Weak.refl _,?_⟩
       by_cases hf : 256 ≤ l.length
       · have df : decide ((256 : Int) ≤ l.length) = true := decide_eq_true (by omega)
         rw [if_pos hf]
         simp only [go_sem,zab,Nat.reduceAdd,Nat.reduceSub,Nat.reduceMul,Int.reduceToNat,reduceCtorEq,↓reduceIte,Int.reducePow,Nat.reducePow,Int.reduceMod,Nat.reduceLeDiff,Int.reduceLE,Int.reduceNe,Int.reduceEq,Nat.reduceEqDiff,Nat.reduceLT,Nat.reduceBEq,List.map_cons,List.map_nil,List.toList_toArray,Array.toList_append,Option.toArray_some,Option.toArray_none,Bool.and_self,ty,zdc,zcn,hle,d1,df,Int.toNat_natCast]
         repeat (refine And.intro (by omega) ?_)
         exact s2_endsW 8 9 rfl rfl ⟨rfl,rfl⟩ (zag _) rfl
       · have df : decide ((256 : Int) ≤ l.length) = false := decide_eq_false (by omega)
         rw [if_neg hf]
         simp only [go_sem,zab,Nat.reduceAdd,Nat.reduceSub,Nat.reduceMul,Int.reduceToNat,reduceCtorEq,↓reduceIte,Int.reducePow,Nat.reducePow,Int.reduceMod,Nat.reduceLeDiff,Int.reduceLE,Int.reduceNe,Int.reduceEq,Nat.reduceEqDiff,Nat.reduceLT,Nat.reduceBEq,List.map_cons,List.map_nil,List.toList_toArray,Array.toList_append,Option.toArray_some,Option.toArray_none,Bool.and_self,ty,zdc,zcn,hle,hc,d1,e1,df,htk1,hdr,Nat.sub_zero,List.drop_zero,htd,zdk,List.length_map,hl1,hl2,List.length_append,List.length_cons,List.length_nil,hapI,hapN,zag,Int.toNat_natCast]
         repeat (refine And.intro (by omega) ?_)
         exact g2_endsW 8 9 rfl rfl rfl (zag _) (by rw [List.length_map,hin]; omega) rfl
 · exact hp.elim
end
end Go.Proofs.Ytlpjdgkpapjldaa
